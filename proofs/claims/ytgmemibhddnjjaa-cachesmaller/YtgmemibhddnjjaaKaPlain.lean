/- The cache's plain words (layer 16): keys and things in the order in which they were asked for. -/
import Derived.Test.YtgmemibhddnjjaaDkMem
import Derived.Lib.Strings
namespace Go.Proofs.Ytgmemibhddnjjaa
open Go.RowKit
set_option maxRecDepth 100000
abbrev KV := ByteArray × Int
theorem str_eq (s t : ByteArray) : (s.toList == t.toList) = decide (s = t) := by
  rw [Lib.toList_data, Lib.toList_data]
  by_cases h : s = t
  · subst h; simp
  · rw [decide_eq_false h, beq_eq_false_iff_ne]
    intro e
    apply h
    cases s; cases t
    simp at e
    simp [e]
/-- a cache: how many there may be, the keys with their things (the one that was asked for longest ago first), what was counted -/
structure KaT where
  most : Nat
  l : List KV
  hits : Nat
  miss : Nat
  puts : Nat
/-- without a key -/
def woK (l : List KV) (k : ByteArray) : List KV := l.filter (fun p => !decide (p.1 = k))
/-- a key's thing -/
def fdK (l : List KV) (k : ByteArray) : Option Int := (l.find? (fun p => decide (p.1 = k))).map (·.2)
def getC (C : KaT) (k : ByteArray) : KaT := match fdK C.l k with
  | some v => ⟨C.most, woK C.l k ++ [(k, v)], C.hits + 1, C.miss, C.puts⟩
  | none => ⟨C.most, C.l, C.hits, C.miss + 1, C.puts⟩
def getV (C : KaT) (k : ByteArray) : Int := (fdK C.l k).getD 0
def hasK (C : KaT) (k : ByteArray) : Bool := (fdK C.l k).isSome
def putC (C : KaT) (k : ByteArray) (v : Int) : KaT := ⟨C.most, (woK C.l k ++ [(k, v)]).drop (if C.most < (woK C.l k).length + 1 then 1 else 0), C.hits, C.miss, C.puts + 1⟩
def dropC (C : KaT) (k : ByteArray) : KaT := ⟨C.most, woK C.l k, C.hits, C.miss, C.puts⟩
def newC (n : Nat) : KaT := ⟨n, [], 0, 0, 0⟩
structure okC (C : KaT) : Prop where
  nd : (C.l.map (·.1)).Nodup
  le : C.l.length ≤ C.most
  sz : ∀ p ∈ C.l, p.1.size ≤ maxLen
theorem ok_new (n : Nat) : okC (newC n) := ⟨List.nodup_nil, Nat.zero_le _, fun _ h => absurd h (by simp [newC])⟩
theorem wo_sub (l : List KV) (k : ByteArray) : (woK l k).Sublist l := List.filter_sublist
theorem wo_len (l : List KV) (k : ByteArray) : (woK l k).length ≤ l.length := (wo_sub l k).length_le
theorem wo_not (l : List KV) (k : ByteArray) : k ∉ (woK l k).map (·.1) := by
  intro h
  obtain ⟨p, hp, he⟩ := List.mem_map.1 h
  have := (List.mem_filter.1 hp).2
  simp [he] at this
theorem wo_nd {l : List KV} (h : (l.map (·.1)).Nodup) (k : ByteArray) : ((woK l k).map (·.1)).Nodup := h.sublist ((wo_sub l k).map _)
theorem wo_same {l : List KV} {k : ByteArray} (h : k ∉ l.map (·.1)) : woK l k = l := by
  unfold woK
  rw [List.filter_eq_self]
  intro p hp
  simp
  intro e
  exact h (List.mem_map.2 ⟨p, hp, e⟩)
theorem fd_none {l : List KV} {k : ByteArray} : fdK l k = none ↔ k ∉ l.map (·.1) := by
  unfold fdK
  rw [Option.map_eq_none_iff, List.find?_eq_none]
  constructor
  · intro h hm
    obtain ⟨p, hp, he⟩ := List.mem_map.1 hm
    exact h p hp (by simp [he])
  · intro h p hp he
    exact h (List.mem_map.2 ⟨p, hp, by simpa using he⟩)
theorem fd_some {l : List KV} {k : ByteArray} {v : Int} (h : fdK l k = some v) : (k, v) ∈ l := by
  unfold fdK at h
  obtain ⟨p, hp, he⟩ := Option.map_eq_some_iff.1 h
  have h1 := List.mem_of_find?_eq_some hp
  have h2 := List.find?_some hp
  simp at h2
  rw [← h2, ← he]
  exact h1
theorem fd_mem {l : List KV} (h : (l.map (·.1)).Nodup) {k : ByteArray} {v : Int} (hm : (k, v) ∈ l) : fdK l k = some v := by
  induction l with
  | nil => simp at hm
  | cons p l ih =>
    rw [List.map_cons, List.nodup_cons] at h
    unfold fdK
    rw [List.find?_cons]
    rcases List.mem_cons.1 hm with e | hm'
    · rw [← e]; simp
    · have hne : p.1 ≠ k := fun e => h.1 (e ▸ List.mem_map.2 ⟨(k, v), hm', rfl⟩)
      rw [decide_eq_false hne]
      exact ih h.2 hm'
/-- where a key stands, it is taken out by its place -/
theorem wo_erase {l : List KV} (h : (l.map (·.1)).Nodup) {k : ByteArray} {v : Int} {i : Nat} (hi : l[i]? = some (k, v)) : woK l k = l.eraseIdx i := by
  induction l generalizing i with
  | nil => simp at hi
  | cons p l ih =>
    rw [List.map_cons, List.nodup_cons] at h
    cases i with
    | zero =>
      simp at hi
      subst hi
      unfold woK
      rw [List.filter_cons_of_neg (by simp), List.eraseIdx_cons_zero]
      exact wo_same h.1
    | succ i =>
      simp at hi
      have hne : p.1 ≠ k := fun e => h.1 (e ▸ List.mem_map.2 ⟨(k, v), List.mem_of_getElem? hi, rfl⟩)
      unfold woK
      rw [List.filter_cons_of_pos (by simp [hne]), List.eraseIdx_cons_succ]
      congr 1
      exact ih h.2 hi
theorem nd_snoc {l : List KV} (h : (l.map (·.1)).Nodup) (k : ByteArray) (v : Int) : ((woK l k ++ [(k, v)]).map (·.1)).Nodup := by
  rw [List.map_append, List.nodup_append]
  refine ⟨wo_nd h k, by simp, ?_⟩
  intro a ha b hb e
  simp at hb
  subst hb
  subst e
  exact wo_not l _ ha
theorem ok_get {C : KaT} (h : okC C) (k : ByteArray) (hk : k.size ≤ maxLen) : okC (getC C k) := by
  unfold getC
  split
  · rename_i v hv
    have hm := fd_some hv
    obtain ⟨i, hi⟩ := List.mem_iff_getElem?.1 hm
    have hl : i < C.l.length := (List.getElem?_eq_some_iff.1 hi).1
    refine ⟨nd_snoc h.nd k v, ?_, ?_⟩
    · show (woK C.l k ++ [(k, v)]).length ≤ C.most
      rw [List.length_append, wo_erase h.nd hi, List.length_eraseIdx_of_lt hl]
      have := h.le
      simp
      omega
    · intro p hp
      rcases List.mem_append.1 hp with hp | hp
      · exact h.sz p ((wo_sub _ _).mem hp)
      · simp at hp; subst hp; exact hk
  · exact ⟨h.nd, h.le, h.sz⟩
theorem ok_drop {C : KaT} (h : okC C) (k : ByteArray) : okC (dropC C k) := ⟨wo_nd h.nd k, Nat.le_trans (wo_len _ _) h.le, fun p hp => h.sz p ((wo_sub _ _).mem hp)⟩
theorem ok_put {C : KaT} (h : okC C) (k : ByteArray) (v : Int) (hk : k.size ≤ maxLen) : okC (putC C k v) := by
  have hs : ∀ n, ((woK C.l k ++ [(k, v)]).drop n).Sublist (woK C.l k ++ [(k, v)]) := fun n => List.drop_sublist n _
  refine ⟨(nd_snoc h.nd k v).sublist ((hs _).map _), ?_, ?_⟩
  · show ((woK C.l k ++ [(k, v)]).drop _).length ≤ C.most
    rw [List.length_drop, List.length_append]
    have h1 := wo_len C.l k
    have h2 := h.le
    split <;> simp <;> omega
  · intro p hp
    rcases List.mem_append.1 ((hs _).mem hp) with hp | hp
    · exact h.sz p ((wo_sub _ _).mem hp)
    · simp at hp; subst hp; exact hk
end Go.Proofs.Ytgmemibhddnjjaa

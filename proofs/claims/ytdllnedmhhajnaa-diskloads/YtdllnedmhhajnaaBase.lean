/- What the walks of the codec share: bytes in memory, appends, the texts' comparison and join. -/
import Derived.Test.YtdllnedmhhajnaaChecked
import Derived.Test.YtdllnedmhhajnaaCodecPlain
import Derived.Test.YtdllnedmhhajnaaMem
import Derived.WalkSpells
import Derived.WalkLawsBesides
import Derived.Laws.CopyOwn
import Derived.StillTailTactics
import Derived.Laws.AppendOwnNone
import Derived.Deep.RegionLaw
import Derived.Deep.RegionWith
namespace Go.Proofs.Ytdllnedmhhajnaa
open Go.RowKit
set_option maxRecDepth 100000
/-- the world w' is w but for block g and new blocks -/
structure Only (g : Nat) (w w' : World) : Prop where
  os : w'.os = w.os
  tape : w'.tape = w.tape
  output : w'.output = w.output
  size : w.heap.size ≤ w'.heap.size
  block : ∀ k, k ≠ g → k < w.heap.size → w'.heap[k]? = w.heap[k]?
theorem Only.refl (g : Nat) (w : World) : Only g w w := ⟨rfl, rfl, rfl, Nat.le_refl _, fun _ _ _ => rfl⟩
theorem Only.trans {g : Nat} {a b c : World} (h : Only g a b) (k : Only g b c) : Only g a c :=
  ⟨k.os.trans h.os, k.tape.trans h.tape, k.output.trans h.output, Nat.le_trans h.size k.size, fun i hi hl => (k.block i hi (Nat.lt_of_lt_of_le hl h.size)).trans (h.block i hi hl)⟩
theorem Only.drewN {g : Nat} {a b : World} (h : Only g a b) (n : Nat) : Only g a (b.drewN n) := ⟨h.os, h.tape, h.output, h.size, h.block⟩
theorem Only.drew {g : Nat} {a b : World} (h : Only g a b) : Only g a b.drew := ⟨h.os, h.tape, h.output, h.size, h.block⟩
theorem Only.setCell {g : Nat} {a b : World} (h : Only g a b) (i : Nat) (v : Value) : Only g a (b.setCell ⟨g, i, none⟩ v) :=
  h.trans ⟨rfl, rfl, rfl, by simp [World.setCell], fun k hk _ => Below.heap_setCell _ _ _ _ hk⟩
theorem Only.setCells {g : Nat} {a : World} : ∀ (vs : List Value) (o : Nat) (w : World), Only g a w → Only g a (w.setCells g o vs)
  | [], _, _, h => h
  | v :: r, o, w, h => by rw [World.setCells]; exact Only.setCells r (o + 1) _ (h.setCell o v)
theorem Only.of_below {g : Nat} {w w' : World} (h : Below w.heap.size w w') : Only g w w' := ⟨h.os, h.tape, h.output, h.size, fun k _ hk => h.block k hk⟩
theorem Only.below {g : Nat} {w w' : World} (h : Only g w w') {B : Nat} (hg : B ≤ g) (hB : B ≤ w.heap.size) : Below B w w' := ⟨h.os, h.tape, h.output, h.size, fun k hk => h.block k (by omega) (by omega)⟩
theorem Blk.only {w w' : World} {g g' : Nat} {cs : List Value} {t : TypeId} (h : Blk w g cs t) (ho : Only g' w w') (hne : g ≠ g') : Blk w' g cs t := by
  have := h.lt
  unfold Blk at *
  rw [ho.block g hne this]; exact h
theorem Only.cell {g : Nat} {w w' : World} (h : Only g w w') {p : Addr} (hp : p.block ≠ g) {v : Value} (hv : w.cell? p = some v) : w'.cell? p = some v := by
  rw [World.cell?_of_block (w := w) (h.block p.block hp (block_lt_of_cell hv))]; exact hv

/-- the slice v reads as the bytes bs -/
def Reads (w : World) (v : Value) (bs : List (BitVec 8)) : Prop :=
  ∃ ad cap, v = .slice ad bs.length cap ∧ bs.length ≤ cap ∧ (ad = none → cap = 0) ∧ (0 < bs.length → ∃ b off, ad = some ⟨b, off, none⟩ ∧ ∀ j, j < bs.length → w.cell? ⟨b, off + j, none⟩ = some (.int .u8 ((bs.getD j 0).toNat : Int)))
theorem Reads.below {w w' : World} {v : Value} {bs : List (BitVec 8)} (h : Reads w v bs) (hb : Below w.heap.size w w') : Reads w' v bs := by
  obtain ⟨ad, cap, hv, hc, hn, hx⟩ := h
  refine ⟨ad, cap, hv, hc, hn, fun hp => ?_⟩
  obtain ⟨b, off, h1, h2⟩ := hx hp
  exact ⟨b, off, h1, fun j hj => by rw [hb.cell (p := ⟨b, off + j, none⟩) (block_lt_of_cell (h2 j hj))]; exact h2 j hj⟩
theorem Try.infob : (Try.prog.info? 5).map (fun i => (i.zero, i.size, i.bytes)) = some (some (.int .u8 0), 1, 1) := by kernel_rfl
set_option maxRecDepth 100000 in
theorem make_n (kd : IntKind) (k : Nat) (hk : k < 281474976710600) (w : World) : (Instr.makeSlice 24 (.int kd (k : Int)) (.int kd (k : Int))).run Try.prog w =
    .ok (.slice (some ⟨w.heap.size, 0, none⟩) k k) (w.alloc (.cells (cb (List.replicate k 0)).toArray 5)) := by
  obtain ⟨i0, hi, hz0, hz1, hz2⟩ := info_parts Try.infob
  rw [run_make (P := Try.prog) w 24 5 i0 _ Try.underlying24 hi hz0 kd kd _ _ (by omega) (by omega) (by rw [hz2]; omega) (by omega)]
  rw [Int.toNat_natCast, hz1, Nat.mul_one]
  congr 3
  simp [madeCells, cb, Value.cells, Nat.mod_one]
  apply Array.ext
  · simp
  · intro j h1 h2; simp
theorem Blk.reads {w : World} {g : Nat} {bs : List (BitVec 8)} {t : TypeId} (h : Blk w g (cb bs) t) {n c : Nat} (hn : n = bs.length) (hc : bs.length ≤ c) : Reads w (.slice (some ⟨g, 0, none⟩) n c) bs := by
  subst hn
  exact ⟨_, _, rfl, hc, (fun h => by cases h), fun _ => ⟨g, 0, rfl, fun j hj => by rw [h.cell, Nat.zero_add, cb_get _ j hj]⟩⟩
/-- the slice v, the call's own from block base on, holds the bytes l -/
def OwnB (w : World) (base : Nat) (v : Value) (l : List (BitVec 8)) : Prop := w.ownsRow base 5 1 v l.length (cb l)
theorem OwnB.nil (w : World) (base : Nat) : OwnB w base (.slice none 0 0) [] := World.ownsRow_nil _ _ _ _
theorem OwnB.reads {w : World} {base : Nat} {v : Value} {l : List (BitVec 8)} (h : OwnB w base v l) : Reads w v l := by
  obtain ⟨h1, h2⟩ := h
  rcases h2 with ⟨rfl, h0⟩ | ⟨g, cap, cur, rfl, hg, hh, hc, hm, hs, ht⟩
  · exact ⟨none, 0, by rw [h0], by omega, fun _ => rfl, fun hp => by omega⟩
  · refine ⟨_, cap, rfl, hc, (fun h => by cases h), fun _ => ⟨g, 0, rfl, fun j hj => ?_⟩⟩
    rw [cell_of_row w g (0 + j) cur _ (0, 0) hh, Nat.zero_add]
    rw [Nat.mul_one] at ht
    have := cb_get l j hj
    rw [← ht, List.getElem?_take_of_lt hj] at this
    simpa using this
theorem OwnB.below {w w' : World} {base B : Nat} {v : Value} {l : List (BitVec 8)} (h : OwnB w base v l) (hb : Below B w w') (hB : w.heap.size ≤ B) : OwnB w' base v l := by
  obtain ⟨h1, h2⟩ := h
  refine ⟨h1, ?_⟩
  rcases h2 with h2 | ⟨g, cap, cur, hv, hg, hh, r⟩
  · exact Or.inl h2
  · have hlt : g < w.heap.size := by
      rcases Nat.lt_or_ge g w.heap.size with h' | h'
      · exact h'
      · rw [Array.getElem?_eq_none h'] at hh; cases hh
    exact Or.inr ⟨g, cap, cur, hv, hg, by rw [hb.block g (by omega)]; exact hh, r⟩
theorem OwnB.own {w : World} {base : Nat} {v : Value} {l : List (BitVec 8)} (h : OwnB w base v l) : ∀ k, v.ownBlock = some k → base ≤ k := by
  obtain ⟨h1, h2⟩ := h
  rcases h2 with ⟨rfl, h0⟩ | ⟨g, cap, cur, rfl, hg, _⟩
  · intro k hk; simp [Value.ownBlock] at hk
  · intro k hk; simp [Value.ownBlock] at hk; omega
theorem wpList_appendB {w : World} {ops : Array Oper} {rest : List Oper} {o : Oper} {a : Act} {Q : Exit → Act → World → Prop} (hgd : o.guard = none) (s x : Operand)
    (ho : o.op = .call { callee := .builtin .append, args := #[s, x], argTypes := #[24, 24] }) (base : Nat)
    (v : Value) (l : List (BitVec 8)) (hs : a.eval s = v) (hown : OwnB w base v l) (vx : Value) (news : List (BitVec 8)) (hx : a.eval x = vx) (hr : Reads w vx news)
    (hlen : l.length + news.length ≤ 140737488355328) (hbase : base ≤ w.heap.size)
    (h : ∀ v' w', OwnB w' base v' (l ++ news) → Below base w w' → (news ≠ [] → v' ≠ .slice none 0 0) → wpList Try.prog ops Q rest (a.put o.dst v') w') : wpList Try.prog ops Q (o :: rest) a w := by
  obtain ⟨i0, hi, hz0, hz1, hz2⟩ := info_parts Try.infob
  obtain ⟨ad, cap, rfl, hcap, hnn, hpos⟩ := hr
  cases ad with
  | some ad =>
    refine wpList_append_own (P := Try.prog) w hgd s x 24 ho base 5 i0 (.int .u8 0) 1 1 Try.underlying24 hi hz0 hz1 hz2 rfl (by decide) v l.length (cb l) hs hown ad news.length cap (cb news) hx (by rw [cb_len]; omega) ?_ (cb_one _) (by unfold maxLen; omega) (by omega) hbase ?_
    · intro j u hj
      have hjl : j < news.length := by have := (List.getElem?_eq_some_iff.1 hj).1; rwa [cb_len] at this
      obtain ⟨b, off, h1, h2⟩ := hpos (by omega)
      cases h1
      rw [Addr.add_mid, h2 j hjl, ← hj, cb_get news j hjl]
    · intro v' w' h1 h2 h3
      refine h v' w' ?_ ((Below.refl _ _).grown h2 hbase (fun k hk => hown.own k hk)) (fun hne hv => ?_)
      · have e : cb l ++ cb news = cb (l ++ news) := by simp [cb]
        rw [e] at h1
        unfold OwnB; rw [List.length_append]; exact h1
      · have := (h3.1 hv).2
        exact hne (List.eq_nil_of_length_eq_zero this)
  | none =>
    have hn0 : news = [] := by
      cases news with
      | nil => rfl
      | cons b r => obtain ⟨b, off, h1, _⟩ := hpos (by simp); cases h1
    subst hn0
    have hc0 := hnn rfl
    subst hc0
    refine wpList_append_own_none (P := Try.prog) hgd s x 24 ho base 5 i0 1 Try.underlying24 hi v l.length (cb l) hs hown hx ?_
    exact h v w (by rw [List.append_nil]; exact hown) (Below.refl _ _) (fun hne => absurd rfl hne)
theorem reads_val (w : World) (x : Int) (b : BitVec 8) (hx : x = (b.toNat : Int)) : Reads (w.alloc (.cells #[.int .u8 x] 5)) (.slice (some ⟨w.heap.size, 0, none⟩) 1 1) [b] := by
  subst hx
  exact ⟨_, 1, rfl, Nat.le_refl _, (fun h => by cases h), fun _ => ⟨w.heap.size, 0, rfl, fun j hj => by match j, hj with | 0, _ => simp⟩⟩
structure RpInv (w : World) (l : List (BitVec 8)) (v : Value) (wr : World) : Prop where
  own : OwnB wr w.heap.size v l
  bel : Below w.heap.size w wr
def sliceLen : Value → Nat
  | .slice _ n _ => n
  | _ => 0
def strB (l : List (BitVec 8)) : ByteArray := strOfNums (l.map fun b => (b.toNat : Int))
theorem conv_reads {w : World} {v : Value} {l : List (BitVec 8)} (h : Reads w v l) : (convert 24 9 v).run Try.prog w = .ok (.string (strB l)) w := by
  obtain ⟨ad, cap, rfl, hcap, hnn, hpos⟩ := h
  have key : ∀ a : Addr, ad = some a → (loadCells a l.length).run Try.prog w = .ok ((l.map fun b => (b.toNat : Int)).map (Value.int .u8)).toArray w := by
    intro a ha
    have hh := run_loadCells_list (P := Try.prog) w a ((l.map fun b => (b.toNat : Int)).map (Value.int .u8)) (fun j u hj => by
      have hjl : j < l.length := by have := (List.getElem?_eq_some_iff.1 hj).1; simpa using this
      obtain ⟨b, off, h1, h2⟩ := hpos (by omega)
      rw [ha] at h1
      cases h1
      rw [Addr.add_mid, h2 j hjl, ← hj]
      simp [hjl])
    simpa using hh
  rw [run_convert_bytes_string w 24 9 5 _ _ _ Try.underlying24 Try.underlying5 Try.underlying9]
  cases ad with
  | some a =>
    rw [run_bytesToString w a l.length cap _ (key a rfl), foldl_push_bytes]
    simp [strB, strOfNums]
  | none =>
    have h0 : l = [] := by
      cases l with
      | nil => rfl
      | cons b r => obtain ⟨b, off, h1, _⟩ := hpos (by simp); cases h1
    subst h0
    simp [Conv.bytesToString, strB, strOfNums]
    rfl
theorem strB_inj (a b : List (BitVec 8)) : ((strB a).toList == (strB b).toList) = decide (a = b) := by
  rw [ByteArray.toList_eq, ByteArray.toList_eq]
  unfold strB
  rw [strOfNums_data, strOfNums_data, List.map_map, List.map_map]
  by_cases h : a = b
  · subst h; simp
  · have hinj : ∀ x y : BitVec 8, UInt8.ofNat ((x.toNat : Int)).toNat = UInt8.ofNat ((y.toNat : Int)).toNat → x = y := by
      intro x y hxy
      have h2 := congrArg UInt8.toNat hxy
      have hx := x.isLt
      have hy := y.isLt
      simp at h2
      exact BitVec.eq_of_toNat_eq (by omega)
    have hne : ∀ a b : List (BitVec 8), a.map ((fun n : Int => UInt8.ofNat n.toNat) ∘ fun b => (b.toNat : Int)) = b.map ((fun n : Int => UInt8.ofNat n.toNat) ∘ fun b => (b.toNat : Int)) → a = b := by
      intro a
      induction a with
      | nil => intro b hb; cases b with
        | nil => rfl
        | cons y b => simp at hb
      | cons x a ih => intro b hb; cases b with
        | nil => simp at hb
        | cons y b =>
          rw [List.map_cons, List.map_cons, List.cons.injEq] at hb
          rw [hinj x y hb.1, ih b hb.2]
    rw [decide_eq_false h, beq_eq_false_iff_ne]
    exact fun he => h (hne a b he)
set_option maxHeartbeats 400000 in
theorem same_any (va vb : Value) (la lb : List (BitVec 8)) (w : World) (ha : Reads w va la) (hb : Reads w vb lb) :
    Calls Try.prog 13 #[va, vb] w fun e w' => e = .returned (.bool (decide (la = lb))) ∧ w' = w := by
  have hs := strB_inj la lb
  have ca := conv_reads ha
  have cb := conv_reads hb
  clear ha hb
  go_enter Try.func13, Try.ntmps13
  go_wp2
  go_ret
  exact ⟨rfl, rfl⟩
/-- the slice v of slices reads as the texts ls -/
def ReadsL (w : World) (v : Value) (ls : List (List (BitVec 8))) : Prop :=
  ∃ ad cap, v = .slice ad ls.length cap ∧ ls.length ≤ cap ∧ (ad = none → cap = 0) ∧ (0 < ls.length → ∃ b off, ad = some ⟨b, off, none⟩ ∧ ∀ j, j < ls.length → ∃ vj, w.cell? ⟨b, off + j, none⟩ = some vj ∧ Reads w vj (ls.getD j []))
theorem ReadsL.below {w w' : World} {v : Value} {ls : List (List (BitVec 8))} (h : ReadsL w v ls) (hb : Below w.heap.size w w') : ReadsL w' v ls := by
  obtain ⟨ad, cap, hv, hc, hn, hx⟩ := h
  refine ⟨ad, cap, hv, hc, hn, fun hp => ?_⟩
  obtain ⟨b, off, h1, h2⟩ := hx hp
  refine ⟨b, off, h1, fun j hj => ?_⟩
  obtain ⟨vj, h3, h4⟩ := h2 j hj
  exact ⟨vj, by rw [hb.cell (p := ⟨b, off + j, none⟩) (block_lt_of_cell h3)]; exact h3, h4.below hb⟩
theorem flat_take (ls : List (List (BitVec 8))) (k : Nat) (h : k < ls.length) : (ls.take (k + 1)).flatten = (ls.take k).flatten ++ ls.getD k [] := by
  rw [List.take_add_one, List.getElem?_eq_getElem h, List.flatten_append]
  simp [h]
theorem flat_le (ls : List (List (BitVec 8))) (k : Nat) : (ls.take k).flatten.length ≤ ls.flatten.length := by
  have := congrArg (fun l => (List.flatten l).length) (List.take_append_drop k ls)
  simp only [List.flatten_append, List.length_append] at this
  omega
theorem readsL_one {w : World} {va : Value} {la : List (BitVec 8)} (ha : Reads w va la) :
    ReadsL (w.alloc (.cells #[va] 24)) (.slice (some ⟨w.heap.size, 0, none⟩) 1 1) [la] := by
  have hb : Below w.heap.size w (w.alloc (.cells #[va] 24)) := (Below.refl _ _).alloc (Nat.le_refl _) _
  refine ⟨_, _, rfl, Nat.le_refl _, (fun h => by cases h), fun _ => ⟨w.heap.size, 0, rfl, fun j hj => ?_⟩⟩
  match j, hj with
  | 0, _ => exact ⟨va, by rw [World.cell?_alloc_mark]; rfl, ha.below hb⟩
theorem readsL_two {w : World} {va vb : Value} {la lb : List (BitVec 8)} (ha : Reads w va la) (hb : Reads w vb lb) :
    ReadsL (w.alloc (.cells #[va, vb] 24)) (.slice (some ⟨w.heap.size, 0, none⟩) 2 2) [la, lb] := by
  have hbl : Below w.heap.size w (w.alloc (.cells #[va, vb] 24)) := (Below.refl _ _).alloc (Nat.le_refl _) _
  refine ⟨_, _, rfl, Nat.le_refl _, (fun h => by cases h), fun _ => ⟨w.heap.size, 0, rfl, fun j hj => ?_⟩⟩
  match j, hj with
  | 0, _ => exact ⟨va, by rw [World.cell?_alloc_mark]; rfl, ha.below hbl⟩
  | 1, _ => exact ⟨vb, by rw [World.cell?_alloc_mark]; rfl, hb.below hbl⟩
theorem readsL_three {w : World} {va vb vc : Value} {la lb lc : List (BitVec 8)} (ha : Reads w va la) (hb : Reads w vb lb) (hc : Reads w vc lc) :
    ReadsL (w.alloc (.cells #[va, vb, vc] 24)) (.slice (some ⟨w.heap.size, 0, none⟩) 3 3) [la, lb, lc] := by
  have hbl : Below w.heap.size w (w.alloc (.cells #[va, vb, vc] 24)) := (Below.refl _ _).alloc (Nat.le_refl _) _
  refine ⟨_, _, rfl, Nat.le_refl _, (fun h => by cases h), fun _ => ⟨w.heap.size, 0, rfl, fun j hj => ?_⟩⟩
  match j, hj with
  | 0, _ => exact ⟨va, by rw [World.cell?_alloc_mark]; rfl, ha.below hbl⟩
  | 1, _ => exact ⟨vb, by rw [World.cell?_alloc_mark]; rfl, hb.below hbl⟩
  | 2, _ => exact ⟨vc, by rw [World.cell?_alloc_mark]; rfl, hc.below hbl⟩
theorem below_alloc (w : World) (o : Obj) : Below w.heap.size w (w.alloc o) := (Below.refl _ _).alloc (Nat.le_refl _) _
/-- the world wx keeps the blocks of w0 -/
def Over (w0 wx : World) : Prop := Below w0.heap.size w0 wx
theorem Over.out {w0 wx : World} (h : Over w0 wx) : Below w0.heap.size w0 wx := h
theorem Over.refl (w : World) : Over w w := Below.refl _ _
theorem Over.more {w0 wx wy : World} (h : Over w0 wx) (hb : Below wx.heap.size wx wy) : Over w0 wy := Below.trans h (hb.mono (Below.size h))
theorem Over.after {w w0 wx : World} (h : Over w0 wx) (hb : Below w.heap.size w w0) : Below w.heap.size w wx := hb.trans (Below.mono h hb.size)
theorem fl2 (a b : List (BitVec 8)) : [a, b].flatten.length = a.length + b.length := by simp
theorem below_cell {w0 wx : World} {p : Addr} {v : Value} (h : Over w0 wx) (hc : w0.cell? p = some v) : wx.cell? p = some v := by
  rw [Below.cell h (block_lt_of_cell hc)]; exact hc
/-- a part of a block, as a slice of it reads -/
theorem Blk.reads_mid {w : World} {g o : Nat} {cs : List Value} {bs : List (BitVec 8)} {t : TypeId} (h : Blk w g cs t) {n c : Nat} (hn : n = bs.length) (hc : bs.length ≤ c) (hm : ∀ j, j < bs.length → cs[o + j]? = some (.int .u8 ((bs.getD j 0).toNat : Int))) : Reads w (.slice (some ⟨g, o, none⟩) n c) bs := by
  subst hn
  exact ⟨_, _, rfl, hc, (fun h => by cases h), fun _ => ⟨g, o, rfl, fun j hj => by rw [h.cell, hm j hj]⟩⟩
end Go.Proofs.Ytdllnedmhhajnaa

/- The program's cache: New, Count, Drop, Get, Put (layer 16). -/
import Derived.Test.YtgmemibhddnjjaaKaLike
namespace Go.Proofs.Ytgmemibhddnjjaa
open Go.RowKit
set_option maxRecDepth 100000
/-- the block of a key's thing -/
def fdT (T : List ThT) (s : ByteArray) : Option Nat := (T.find? (fun x => decide (x.2.1 = s))).map (·.1)
structure smC (C : KaT) : Prop where
  mo : C.most ≤ 1000000
  hi : C.hits < 1000000
  mi : C.miss < 1000000
  pu : C.puts < 1000000
structure CaM (w : World) (g m : Nat) (T : List ThT) (C : KaT) : Prop where
  ring : Ring w g m C.most C.hits C.miss T
  map : MapF w m C.puts (fdT T)
  tl : T.map (·.2) = C.l
  ok : okC C
def caP (g m : Nat) (T : List ThT) : Nat → Prop := fun k => k = g ∨ k = m ∨ k ∈ T.map (·.1)
/-- the cache C lies at block g, in blocks of P alone -/
def CaIs (w : World) (g : Nat) (P : Nat → Prop) (C : KaT) : Prop := ∃ m T, CaM w g m T C ∧ P = caP g m T
theorem CaM.keys {w : World} {g m : Nat} {T : List ThT} {C : KaT} (h : CaM w g m T C) : (T.map (·.2.1)).Nodup := by
  have := h.ok.nd
  rw [← h.tl, List.map_map] at this
  exact this
theorem CaM.len {w : World} {g m : Nat} {T : List ThT} {C : KaT} (h : CaM w g m T C) : T.length = C.l.length := by rw [← h.tl, List.length_map]
theorem key_idx {T : List ThT} (h : (T.map (·.2.1)).Nodup) {i j : Nat} {x y : ThT} (hi : T[i]? = some x) (hj : T[j]? = some y) (e : x.2.1 = y.2.1) : i = j := by
  have h1 : (T.map (·.2.1))[i]? = some x.2.1 := by rw [List.getElem?_map, hi]; rfl
  have h2 : (T.map (·.2.1))[j]? = some x.2.1 := by rw [List.getElem?_map, hj, e]; rfl
  have hl : i < (T.map (·.2.1)).length := (List.getElem?_eq_some_iff.1 h1).1
  exact (List.getElem?_inj hl h).1 (h1.trans h2.symm)
theorem fdT_none {T : List ThT} {s : ByteArray} : fdT T s = none ↔ ∀ (i : Nat) (x : ThT), T[i]? = some x → x.2.1 ≠ s := by
  unfold fdT
  rw [Option.map_eq_none_iff, List.find?_eq_none]
  constructor
  · intro h i x hx e
    exact h x (List.mem_of_getElem? hx) (by simp [e])
  · intro h x hx e
    obtain ⟨i, hi⟩ := List.mem_iff_getElem?.1 hx
    exact h i x hi (by simpa using e)
theorem fdT_some {T : List ThT} {s : ByteArray} {k : Nat} (h : fdT T s = some k) : ∃ (i : Nat) (x : ThT), T[i]? = some x ∧ x.2.1 = s ∧ x.1 = k := by
  unfold fdT at h
  obtain ⟨x, hx, e⟩ := Option.map_eq_some_iff.1 h
  obtain ⟨i, hi⟩ := List.mem_iff_getElem?.1 (List.mem_of_find?_eq_some hx)
  have := List.find?_some hx
  exact ⟨i, x, hi, by simpa using this, e⟩
theorem fdT_at {T : List ThT} (h : (T.map (·.2.1)).Nodup) {i : Nat} {x : ThT} (hi : T[i]? = some x) : fdT T x.2.1 = some x.1 := by
  cases e : fdT T x.2.1 with
  | none => exact absurd rfl (fdT_none.1 e i x hi)
  | some k =>
    obtain ⟨j, y, hj, e1, e2⟩ := fdT_some e
    have := key_idx h hi hj e1.symm
    subst this
    rw [hi] at hj
    cases hj
    rw [e2]
theorem fdT_erase {T : List ThT} (h : (T.map (·.2.1)).Nodup) {i : Nat} {x : ThT} (hi : T[i]? = some x) : fdT (T.eraseIdx i) = fun t => if t = x.2.1 then none else fdT T t := by
  funext t
  have E : ∀ j, (T.eraseIdx i)[j]? = if j < i then T[j]? else T[j + 1]? := fun j => by rw [List.getElem?_eraseIdx]
  have h' : ((T.eraseIdx i).map (·.2.1)).Nodup := h.sublist ((List.eraseIdx_sublist _ _).map _)
  by_cases e : t = x.2.1
  · subst e
    rw [if_pos rfl]
    apply fdT_none.2
    intro j y hy e2
    rw [E] at hy
    by_cases c : j < i
    · rw [if_pos c] at hy
      have := key_idx h hy hi e2
      omega
    · rw [if_neg c] at hy
      have := key_idx h hy hi e2
      omega
  · rw [if_neg e]
    cases c : fdT T t with
    | none =>
      apply fdT_none.2
      intro j y hy
      rw [E] at hy
      split at hy
      · exact fdT_none.1 c _ _ hy
      · exact fdT_none.1 c _ _ hy
    | some k =>
      obtain ⟨j, y, hj, e1, e2⟩ := fdT_some c
      have hne : j ≠ i := fun e3 => by
        subst e3
        rw [hi] at hj
        cases hj
        exact e e1.symm
      by_cases c2 : j < i
      · have : (T.eraseIdx i)[j]? = some y := by rw [E, if_pos c2]; exact hj
        have := fdT_at h' this
        rw [e1, e2] at this
        exact this
      · have : (T.eraseIdx i)[j - 1]? = some y := by rw [E, if_neg (by omega), show j - 1 + 1 = j by omega]; exact hj
        have := fdT_at h' this
        rw [e1, e2] at this
        exact this
theorem fdT_snoc {T : List ThT} {x : ThT} (hx : fdT T x.2.1 = none) : fdT (T ++ [x]) = fun t => if t = x.2.1 then some x.1 else fdT T t := by
  funext t
  unfold fdT at hx ⊢
  rw [List.find?_append]
  by_cases e : t = x.2.1
  · subst e
    rw [if_pos rfl, Option.map_eq_none_iff.1 hx]
    simp
  · rw [if_neg e]
    have e2 : ¬ x.2.1 = t := fun h => e h.symm
    simp [e2]
theorem CaM.fd {w : World} {g m : Nat} {T : List ThT} {C : KaT} (h : CaM w g m T C) {s : ByteArray} (hf : fdT T s = none) : fdK C.l s = none := by
  apply fd_none.2
  intro hm
  rw [← h.tl, List.map_map] at hm
  obtain ⟨x, hx, e⟩ := List.mem_map.1 hm
  obtain ⟨i, hi⟩ := List.mem_iff_getElem?.1 hx
  exact fdT_none.1 hf i x hi e
theorem erase_map : ∀ (T : List ThT) (i : Nat), (T.map (·.2)).eraseIdx i = (T.eraseIdx i).map (·.2)
  | [], _ => rfl
  | _ :: _, 0 => rfl
  | x :: T, i + 1 => by rw [List.map_cons, List.eraseIdx_cons_succ, List.eraseIdx_cons_succ, List.map_cons, erase_map T i]
theorem CaM.fds {w : World} {g m : Nat} {T : List ThT} {C : KaT} (h : CaM w g m T C) {i : Nat} {x : ThT} (hi : T[i]? = some x) : C.l[i]? = some x.2 ∧ fdK C.l x.2.1 = some x.2.2 ∧ woK C.l x.2.1 = (T.eraseIdx i).map (·.2) ∧ x.2.1.size ≤ maxLen := by
  have h1 : C.l[i]? = some x.2 := by rw [← h.tl, List.getElem?_map, hi]; rfl
  refine ⟨h1, fd_mem h.ok.nd (List.mem_of_getElem? h1), ?_, h.ok.sz _ (List.mem_of_getElem? h1)⟩
  rw [wo_erase h.ok.nd h1, ← h.tl, erase_map]
theorem CaM.same {w w' : World} {g m : Nat} {T : List ThT} {C : KaT} (h : CaM w g m T C) (hs : ∀ k, caP g m T k → w'.heap[k]? = w.heap[k]?) : CaM w' g m T C :=
  ⟨h.ring.same (fun k hk => hs k (by rcases List.mem_cons.1 hk with e | e; exact Or.inl e; exact Or.inr (Or.inr e))), h.map.same (hs m (Or.inr (Or.inl rfl))), h.tl, h.ok⟩
theorem CaM.lt {w : World} {g m : Nat} {T : List ThT} {C : KaT} (h : CaM w g m T C) : ∀ k, caP g m T k → k < w.heap.size := fun k hk => by
  rcases hk with rfl | rfl | hk
  · exact h.ring.me.lt
  · exact h.map.lt
  · obtain ⟨x, hx, e⟩ := List.mem_map.1 hk
    obtain ⟨i, hi⟩ := List.mem_iff_getElem?.1 hx
    rw [← e]
    exact (h.ring.th i x hi).lt
theorem CaIs.same {w w' : World} {g : Nat} {P : Nat → Prop} {C : KaT} (h : CaIs w g P C) (hs : ∀ k, P k → w'.heap[k]? = w.heap[k]?) : CaIs w' g P C := by
  obtain ⟨m, T, h1, rfl⟩ := h
  exact ⟨m, T, h1.same hs, rfl⟩
theorem CaIs.lt {w : World} {g : Nat} {P : Nat → Prop} {C : KaT} (h : CaIs w g P C) : ∀ k, P k → k < w.heap.size := by
  obtain ⟨m, T, h1, rfl⟩ := h
  exact h1.lt
theorem CaIs.below {w w' : World} {g : Nat} {P : Nat → Prop} {C : KaT} (h : CaIs w g P C) (hb : Below w.heap.size w w') : CaIs w' g P C := h.same (fun k hk => hb.block k (h.lt k hk))
/-- what lies in blocks of another type is not the cache's -/
theorem CaIs.ne {w : World} {g : Nat} {P : Nat → Prop} {C : KaT} (h : CaIs w g P C) {k : Nat} {cs : Array Value} {t : TypeId} {fr : Nat × Nat} (hb : w.heap[k]? = some (.cells cs t fr)) (h1 : t ≠ 56) (h2 : t ≠ 58) : ¬ P k := by
  obtain ⟨m, T, h3, rfl⟩ := h
  rintro (rfl | rfl | hk)
  · have := h3.ring.me
    unfold Blk at this
    rw [hb] at this
    simp only [Option.some.injEq, Obj.cells.injEq] at this
    exact h1 this.2.1
  · obtain ⟨D, ⟨es, cl, hm, _⟩, _⟩ := h3.map
    rw [hb] at hm
    cases hm
  · obtain ⟨x, hx, e⟩ := List.mem_map.1 hk
    obtain ⟨i, hi⟩ := List.mem_iff_getElem?.1 hx
    have := h3.ring.th i x hi
    unfold Blk at this
    rw [e, hb] at this
    simp only [Option.some.injEq, Obj.cells.injEq] at this
    exact h2 this.2.1
set_option maxRecDepth 100000 in
set_option maxHeartbeats 400000 in
theorem kaCount_any {w : World} {g : Nat} {P : Nat → Prop} {C : KaT} (h : CaIs w g P C) : Calls Try.prog 12 #[.pointer (some ⟨g, 0, none⟩)] w fun r w' => r = .returned (.tuple #[.int .i64 (C.hits : Int), .int .i64 (C.miss : Int)]) ∧ CaIs w' g P C ∧ Below w.heap.size w w' := by
  have HK : Hid (CaIs w g P C) := h
  obtain ⟨m, T, h1, hP⟩ := h
  have c5 : w.cell? ⟨g, 5, none⟩ = some (.int .i64 (C.hits : Int)) := h1.ring.me.cell 5
  have c6 : w.cell? ⟨g, 6, none⟩ = some (.int .i64 (C.miss : Int)) := h1.ring.me.cell 6
  clear h1 hP
  go_enter Try.func12, Try.ntmps12
  go_wp2
  go_region_held3 (fun wx => wx.cell? ⟨g, 5, none⟩ = some (.int .i64 (C.hits : Int)) ∧ wx.cell? ⟨g, 6, none⟩ = some (.int .i64 (C.miss : Int))) (go_keep) (fail)
  go_wp2
  refine bodyPost_ret (results_tmp2 rfl _ _ _) rfl ?_
  exact ⟨rfl, HK.out.same (fun _ _ => rfl), ⟨rfl, rfl, rfl, Nat.le_refl _, fun _ _ => rfl⟩⟩
set_option maxRecDepth 100000 in
set_option maxHeartbeats 400000 in
theorem kaDrop_any {w : World} {g : Nat} {P : Nat → Prop} {C : KaT} (h : CaIs w g P C) (hc : smC C) {s : ByteArray} (hs : s.size ≤ maxLen) : Calls Try.prog 18 #[.pointer (some ⟨g, 0, none⟩), .string s] w fun r w' => ∃ P', r = .returned (.bool (hasK C s)) ∧ CaIs w' g P' (dropC C s) ∧ Mut P w w' ∧ Grew w P P' := by
  have HK : Hid (CaIs w g P C) := h
  obtain ⟨m, T, h1, hP⟩ := h
  have hf := kaFind_any h1.ring h1.map hs
  have hl : T.length < 4611686018427387904 := by rw [h1.len]; have := h1.ok.le; have := hc.mo; omega
  cases e : fdT T s with
  | none =>
    have e1 : hasK C s = false := by unfold hasK; rw [h1.fd e]; rfl
    have e2 : dropC C s = C := by unfold dropC; rw [wo_same (fd_none.1 (h1.fd e))]
    rw [e1, e2]
    rw [e] at hf
    have HF : Hid (Calls Try.prog 23 #[.pointer (some ⟨g, 0, none⟩), .string s] w fun e w' => e = .returned (.pointer none) ∧ w' = w) := hf
    clear hf h1 hP hc hs e e1 e2 hl
    go_enter Try.func18, Try.ntmps18
    go_wp2_with (first
      | (go_at_call 23; refine (HF.out).mono ?_; rintro e0 y0 ⟨rfl, rfl⟩))
    go_ret
    exact ⟨P, rfl, HK.out, Mut.refl _ _, Grew.refl _ _⟩
  | some k =>
    obtain ⟨i, x, hi, ek, eb⟩ := fdT_some e
    obtain ⟨f1, f2, f3, f4⟩ := h1.fds hi
    have e1 : hasK C s = true := by unfold hasK; rw [← ek, f2]; rfl
    rw [e1]
    rw [e, ← eb] at hf
    have HF : Hid (Calls Try.prog 23 #[.pointer (some ⟨g, 0, none⟩), .string s] w fun e w' => e = .returned (.pointer (some ⟨x.1, 0, none⟩)) ∧ w' = w) := hf
    have HRm : Hid (Calls Try.prog 27 #[.pointer (some ⟨g, 0, none⟩), .pointer (some ⟨x.1, 0, none⟩)] w fun r w' => r = .returned (.tuple #[]) ∧ Ring w' g m C.most C.hits C.miss (T.eraseIdx i) ∧ MapF w' m C.puts (fun t => if t = x.2.1 then none else fdT T t) ∧ OnlyL (g :: m :: T.map (·.1)) w w') := kaRemove_any h1.ring h1.map hi hl f4
    have HFin : Hid (∀ y, Ring y g m C.most C.hits C.miss (T.eraseIdx i) → MapF y m C.puts (fun t => if t = x.2.1 then none else fdT T t) → OnlyL (g :: m :: T.map (·.1)) w y → ∃ P', CaIs y g P' (dropC C s) ∧ Mut P w y ∧ Grew w P P') := fun y r1 r2 r3 => by
      rw [← fdT_erase h1.keys hi] at r2
      refine ⟨caP g m (T.eraseIdx i), ⟨m, T.eraseIdx i, ⟨r1, r2, ?_, ok_drop h1.ok s⟩, rfl⟩, ?_, ?_⟩
      · show _ = woK C.l s; rw [← ek, f3]
      · rw [hP]
        exact r3.mut (fun k hk => by simp only [List.mem_cons] at hk; exact hk)
      · rw [hP]
        rintro k (rfl | rfl | hk)
        · exact Or.inl (Or.inl rfl)
        · exact Or.inl (Or.inr (Or.inl rfl))
        · exact Or.inl (Or.inr (Or.inr (((List.eraseIdx_sublist _ _).map _).mem hk)))
    generalize x.1 = xg at HF HRm
    clear hf h1 hP hc hs e e1 hl f1 f2 f3 f4 hi ek eb
    go_enter Try.func18, Try.ntmps18
    go_wp2_with (first
      | (go_at_call 23; refine (HF.out).mono ?_; rintro e0 y0 ⟨rfl, rfl⟩)
      | (go_at_call 27; refine (HRm.out).mono ?_; rintro e1 y1 ⟨rfl, r1, r2, r3⟩
         have HE := HFin.out y1 r1 r2 r3
         clear r1 r2 r3))
    go_ret
    obtain ⟨P', q1, q2, q3⟩ := HE
    exact ⟨P', rfl, q1, q2, q3⟩
end Go.Proofs.Ytgmemibhddnjjaa

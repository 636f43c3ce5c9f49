/- The walks of the reference's reader: Text, Digest, Done. -/
import Derived.Test.YtldbcglakeggaaaRIn2
namespace Go.Proofs.Ytldbcglakeggaaa
open Go.RowKit
theorem readText_count (l : List (BitVec 8)) : readText l = match readCount 1048576 l with | none => none | some (n, r) => cut n r := by
  unfold readText readCount
  cases readNum l with
  | none => rfl
  | some p =>
    obtain ⟨n, r⟩ := p
    simp only
    by_cases h1 : n ≤ 1048576
    · simp only [if_pos h1]
      unfold cut
      by_cases h2 : n ≤ r.length
      · rw [if_pos ⟨h1, h2⟩, if_pos h2]
      · rw [if_neg (by omega), if_neg h2]
    · rw [if_neg (by omega), if_neg h1]
theorem readCount_le {most n : Nat} {l r : List (BitVec 8)} (h : readCount most l = some (n, r)) : n ≤ most := by
  unfold readCount at h
  split at h
  · cases h
  · split at h
    · simp only [Option.some.injEq, Prod.mk.injEq] at h; omega
    · cases h
set_option maxHeartbeats 400000 in
theorem intext_any (g : Nat) (v : Value) (l : List (BitVec 8)) (pos : Nat) (bad : Bool) (w : World) (h : InS w g v l pos bad) (hl : l.length ≤ 9223372036854775807) :
    Calls Try.prog 47 #[.pointer (some ⟨g, 0, none⟩)] w fun e w' => InDoes g v l w (if bad then none else readText (l.drop pos)) (fun a w' u => OwnB w' w.heap.size u a) (fun u => u = .slice none 0 0) e w' := by
  have HI : Hid (InS w g v l pos bad) := h
  have HL : Hid (l.length ≤ 9223372036854775807) := hl
  obtain ⟨oo, HOO⟩ : ∃ x, Hid (x = if bad then none else readText (l.drop pos)) := ⟨_, rfl⟩
  rw [← HOO.out]
  clear h hl
  go_enter Try.func47, Try.ntmps47
  go_wp2_with fail
  refine (incount_any g v l pos bad w 1048576 (by omega) HI.out (by have := HL.out; omega)).mono ?_
  rintro e w1 (⟨n, p, u, ho, rfl, rfl, hs, hon⟩ | ⟨ho, u, p, rfl, rfl, hs, hon⟩)
  · have HC : Hid (oo = cut n (l.drop p) ∧ n ≤ 1048576) := by
      cases bad with
      | true => simp at ho
      | false =>
        simp only [Bool.false_eq_true, if_false] at ho
        exact ⟨by rw [HOO.out]; simp only [Bool.false_eq_true, if_false]; rw [readText_count, ho], readCount_le ho⟩
    have HS : Hid (InS w1 g v l p false) := hs
    have HON : Hid (Only g w w1) := hon
    clear hs hon ho HI
    go_wp2_with fail
    refine (intake_any g v l p false w1 n (by have := HC.out.2; omega) HS.out HL.out).mono ?_
    rintro e w2 (⟨a, q, u, ho, rfl, hu, hs2, hon2⟩ | ⟨ho, u, q, rfl, hu, hs2, hon2⟩)
    · have HF : Hid (InDoes g v l w oo (fun (a : List (BitVec 8)) w' u => OwnB w' w.heap.size u a) (fun u => u = .slice none 0 0) (.returned u) w2) :=
        Or.inl ⟨a, q, u, by rw [HC.out.1]; simpa using ho, rfl, hu.mono HON.out.size, hs2, HON.out.trans hon2⟩
      clear ho hu hs2 hon2 HC HS HON
      go_wp2
      go_ret
      exact HF.out
    · have HF : Hid (InDoes g v l w oo (fun (a : List (BitVec 8)) w' u => OwnB w' w.heap.size u a) (fun u => u = .slice none 0 0) (.returned u) w2) :=
        Or.inr ⟨by rw [HC.out.1]; simpa using ho, u, q, rfl, hu, hs2, HON.out.trans hon2⟩
      clear ho hu hs2 hon2 HC HS HON
      go_wp2
      go_ret
      exact HF.out
  · have HC : Hid (oo = none) := by
      show _ = _
      rw [HOO.out]
      cases bad with
      | true => rfl
      | false =>
        simp only [Bool.false_eq_true, if_false] at ho ⊢
        rw [readText_count, ho]
    have HS : Hid (InS w1 g v l p true) := hs
    have HON : Hid (Only g w w1) := hon
    clear hs hon ho HI
    go_wp2_with fail
    refine (intake_any g v l p true w1 0 (by omega) HS.out HL.out).mono ?_
    rintro e w2 (⟨a, q, u, ho, rfl, hu, hs2, hon2⟩ | ⟨ho, u, q, rfl, hu, hs2, hon2⟩)
    · simp at ho
    · have HF : Hid (InDoes g v l w oo (fun (a : List (BitVec 8)) w' u => OwnB w' w.heap.size u a) (fun u => u = .slice none 0 0) (.returned u) w2) :=
        Or.inr ⟨HC.out, u, q, rfl, hu, hs2, HON.out.trans hon2⟩
      clear ho hu hs2 hon2 HC HS HON
      go_wp2
      go_ret
      exact HF.out
set_option maxRecDepth 100000 in
set_option maxHeartbeats 400000 in
theorem indone_any (g : Nat) (v : Value) (l : List (BitVec 8)) (pos : Nat) (bad : Bool) (w : World) (h : InS w g v l pos bad) :
    Calls Try.prog 49 #[.pointer (some ⟨g, 0, none⟩)] w fun e w' => e = .returned (.bool (!bad && decide (pos = l.length))) ∧ ∃ k, w' = w.drewN k := by
  have c1 : w.cell? ⟨g, 1, none⟩ = some (.int .i64 (pos : Int)) := h.blk.cell 1
  have c2 : w.cell? ⟨g, 2, none⟩ = some (.bool bad) := h.blk.cell 2
  obtain ⟨ad, cap, hv, hcap, hnn, _⟩ := id h.byt
  obtain ⟨m, HM⟩ : ∃ m, Hid (m = l.length) := ⟨_, rfl⟩
  rw [← HM.out] at hv ⊢
  subst hv
  have c0 : w.cell? ⟨g, 0, none⟩ = some (.slice ad m cap) := h.blk.cell 0
  have hnot : ∀ (x : Bool) (w : World), (Op.unary .not (.bool x)).run Try.prog w = .ok (.bool (!x)) w := fun _ _ => rfl
  clear h
  cases bad with
  | true =>
    go_enter Try.func49, Try.ntmps49
    go_wp2
    go_quiet (fail)
    go_wp2
    go_ret
    exact ⟨by simp, _, rfl⟩
  | false =>
    by_cases he : pos = m
    · subst he
      go_enter Try.func49, Try.ntmps49
      go_wp2
      go_quiet (fail)
      go_wp2
      go_ret
      exact ⟨by simp, _, rfl⟩
    · have hei : ¬ ((pos : Int) = (m : Int)) := by omega
      go_enter Try.func49, Try.ntmps49
      go_wp2
      go_quiet (fail)
      go_wp2
      go_ret
      exact ⟨by simp [he]; omega, _, rfl⟩
def fillD (a : List (BitVec 8)) : Nat → List (BitVec 8)
  | 0 => zb32
  | k + 1 => (fillD a k).set k (a.getD k 0)
theorem len_fillD (a : List (BitVec 8)) (k : Nat) : (fillD a k).length = 32 := by
  induction k with
  | zero => rfl
  | succ k ih => simp [fillD, ih]
theorem fillD_get (a : List (BitVec 8)) : ∀ (k j : Nat), j < 32 → (fillD a k)[j]? = some (if j < k then a.getD j 0 else 0)
  | 0, j, hj => by
    simp only [fillD, Nat.not_lt_zero, if_false, zb32]
    rw [List.getElem?_replicate, if_pos hj]
  | k + 1, j, hj => by
    rw [fillD]
    by_cases h : j = k
    · subst h
      rw [List.getElem?_set_self (by rw [len_fillD]; exact hj), if_pos (by omega)]
    · rw [List.getElem?_set_ne (by omega), fillD_get a k j hj]
      by_cases h2 : j < k
      · rw [if_pos h2, if_pos (by omega)]
      · rw [if_neg h2, if_neg (by omega)]
theorem fillD_all (a : List (BitVec 8)) (h : a.length = 32) : fillD a 32 = a := by
  apply List.ext_getElem?
  intro j
  by_cases hj : j < 32
  · rw [fillD_get a 32 j hj, if_pos hj, List.getElem?_eq_getElem (by omega), List.getD_eq_getElem?_getD, List.getElem?_eq_getElem (by omega)]
    rfl
  · rw [List.getElem?_eq_none (by rw [len_fillD]; omega), List.getElem?_eq_none (by omega)]
structure DgInv (D : Nat) (a : List (BitVec 8)) (w2 : World) (u : Value) (k : Nat) (wr : World) : Prop where
  le : k ≤ a.length
  res : Blk wr D (cb zb32) 28
  out : Blk wr (D + 1) (cb (fillD a k)) 28
  own : OwnB wr (D + 2) u a
  onl : Only (D + 1) w2 wr
set_option maxRecDepth 100000 in
set_option maxHeartbeats 1000000 in
theorem indigest_any (g : Nat) (v : Value) (l : List (BitVec 8)) (pos : Nat) (bad : Bool) (w : World) (h : InS w g v l pos bad) (hl : l.length ≤ 9223372036854775807) :
    Calls Try.prog 53 #[.pointer (some ⟨g, 0, none⟩)] w fun e w' => InDoes g v l w (if bad then none else cut 32 (l.drop pos)) (fun a _ u => u = .agg (cb a).toArray) (fun u => u = .agg (cb zb32).toArray) e w' := by
  have hB1 : Below w.heap.size w ((w.alloc (.cells (cb zb32).toArray 28)).alloc (.cells (cb zb32).toArray 28)) := ((Below.refl _ _).alloc (Nat.le_refl _) _).alloc (by simp) _
  have HA : Hid (Blk ((w.alloc (.cells (cb zb32).toArray 28)).alloc (.cells (cb zb32).toArray 28)) w.heap.size (cb zb32) 28) := (Blk.new w (cb zb32) 28).alloc _
  have HD : Hid (Blk ((w.alloc (.cells (cb zb32).toArray 28)).alloc (.cells (cb zb32).toArray 28)) (w.heap.size + 1) (cb zb32) 28) := Blk.new_at (w := w.alloc (.cells (cb zb32).toArray 28)) (by simp) (cb zb32) 28
  have HI : Hid (InS ((w.alloc (.cells (cb zb32).toArray 28)).alloc (.cells (cb zb32).toArray 28)) g v l pos bad) := h.below hB1
  have HG : Hid (g < w.heap.size) := h.blk.lt
  have HV : Hid (0 < l.length → ∀ k, v.ownBlock = some k → k < w.heap.size) := by
    intro hp k hk
    obtain ⟨ad, cap, rfl, _, _, hx⟩ := h.byt
    obtain ⟨b, off, rfl, hy⟩ := hx hp
    simp only [Value.ownBlock, Option.some.injEq] at hk
    subst hk
    exact block_lt_of_cell (hy 0 hp)
  have HB1 : Hid (Only g w ((w.alloc (.cells (cb zb32).toArray 28)).alloc (.cells (cb zb32).toArray 28))) := Only.of_below hB1
  have HSZ : Hid (((w.alloc (.cells (cb zb32).toArray 28)).alloc (.cells (cb zb32).toArray 28)).heap.size = w.heap.size + 2) := by show _ = _; simp
  have HL : Hid (l.length ≤ 9223372036854775807) := hl
  obtain ⟨oo, HOO⟩ : ∃ x, Hid (x = if bad then none else cut 32 (l.drop pos)) := ⟨_, rfl⟩
  rw [← HOO.out]
  clear h hB1 hl
  go_enter Try.func53, Try.ntmps53
  go_wp2_with fail
  generalize h0 : Obj.cells _ 28 = o32
  have ho : o32 = Obj.cells (cb zb32).toArray 28 := h0.symm
  clear h0
  subst ho
  generalize (w.alloc (.cells (cb zb32).toArray 28)).alloc (.cells (cb zb32).toArray 28) = w1 at *
  refine (intake_any g v l pos bad w1 32 (by omega) HI.out HL.out).mono ?_
  intro e w2 hD
  obtain ⟨a, u, p, b2, rfl, hown, hs2, hon2, hfin⟩ : ∃ (a : List (BitVec 8)) (u : Value) (p : Nat) (b2 : Bool), e = .returned u ∧ OwnB w2 w1.heap.size u a ∧ InS w2 g v l p b2 ∧ Only g w1 w2 ∧ ((oo = some (a, l.drop p) ∧ b2 = false ∧ a.length = 32) ∨ (oo = none ∧ b2 = true ∧ a = [])) := by
    rcases hD with ⟨a, p, u, ho, h1, h2, h3, h4⟩ | ⟨ho, u, p, h1, h2, h3, h4⟩
    · refine ⟨a, u, p, false, h1, h2, h3, h4, Or.inl ⟨by rw [HOO.out, ho], rfl, ?_⟩⟩
      cases bad with
      | true => simp at ho
      | false =>
        simp only [Bool.false_eq_true, if_false] at ho
        unfold cut at ho
        split at ho
        · rename_i hle
          simp only [Option.some.injEq, Prod.mk.injEq] at ho
          rw [← ho.1, List.length_take]; omega
        · cases ho
    · subst h2
      exact ⟨[], _, p, true, h1, OwnB.nil _ _, h3, h4, Or.inr ⟨by rw [HOO.out, ho], rfl, rfl⟩⟩
  rw [HSZ.out] at hown
  have ha32 : a.length ≤ 32 := by rcases hfin with ⟨_, _, h⟩ | ⟨_, _, h⟩ <;> simp [h]
  have hI : DgInv w.heap.size a w2 u 0 w2 := ⟨Nat.zero_le _, HA.out.only hon2 (by have := HG.out; omega), HD.out.only hon2 (by have := HG.out; omega), hown, Only.refl _ _⟩
  have HFin : Hid ((oo = some (a, l.drop p) ∧ b2 = false ∧ a.length = 32) ∨ (oo = none ∧ b2 = true ∧ a = [])) := hfin
  have HS2 : Hid (InS w2 g v l p b2) := hs2
  have HO2 : Hid (Only g w w2) := HB1.out.trans hon2
  obtain ⟨ad, cap, hu, hcap, _, _⟩ := id hown.reads
  obtain ⟨m, HM⟩ : ∃ m, Hid (m = a.length) := ⟨_, rfl⟩
  rw [← HM.out] at hu hcap ha32
  subst hu
  clear hD hfin hs2 hon2 hown HI HA HD HB1
  go_wp2
  go_loopw [5] (fun i wr => ∃ k : Nat, i = .int .i64 (k : Int) ∧ DgInv w.heap.size a w2 (.slice ad m cap) k wr) (fun i _ => m - (intOf i).toNat)
  case atStart => exact ⟨0, rfl, hI⟩
  case round =>
    clear hI
    obtain ⟨k, rfl, hI⟩ := hrel
    have hk := hI.le
    rw [← HM.out] at hk
    by_cases hlt : k < m
    · obtain ⟨ad', cap', hv', _, _, hx⟩ := hI.own.reads
      rw [← HM.out] at hv' hx
      simp only [Value.slice.injEq, true_and] at hv'
      obtain ⟨rfl, rfl⟩ := hv'
      obtain ⟨b, off, rfl, hy⟩ := hx (by omega)
      have hc := hy k hlt
      obtain ⟨x, HX⟩ : ∃ x, Hid (x = a.getD k 0) := ⟨_, rfl⟩
      rw [← HX.out] at hc
      obtain ⟨o, cT⟩ : ∃ o, wr.cell? ⟨w.heap.size + 1, k, none⟩ = some o := ⟨_, by rw [hI.out.cell, cb_get _ _ (by rw [len_fillD]; omega)]⟩
      have fT : wr.frozen? ⟨w.heap.size + 1, k, none⟩ = false := hI.out.frozen _
      have HJ : Hid (DgInv w.heap.size a w2 (.slice (some ⟨b, off, none⟩) m cap) (k + 1) (wr.setCell ⟨w.heap.size + 1, k, none⟩ (.int .u8 (x.toNat : Int)))) := by
        refine ⟨by rw [← HM.out]; omega, hI.res.other _ _ (by simp), ?_, hI.own.same (fun j hj => Below.heap_setCell _ _ _ _ (by have := hI.own.own j hj; simp; omega)), hI.onl.setCell _ _⟩
        have := hI.out.set k (.int .u8 (x.toNat : Int))
        rw [cb_set, HX.out] at this
        rw [HX.out]
        exact this
      clear hI hx hy
      go_wp2
      go_roundw
      case rel => exact ⟨k + 1, by go_num, HJ.out⟩
      case measure => simp [intOf]; omega
    · have hkm : k = m := by omega
      subst hkm
      obtain ⟨dd, HDD⟩ : ∃ x, Hid (x = fillD a k) := ⟨_, rfl⟩
      have HLd : Hid ((cb dd).length = 32) := by show _ = _; rw [cb_len, HDD.out, len_fillD]
      have HE7 : Hid (Blk wr (w.heap.size + 1) (cb dd) 28) := by rw [HDD.out]; exact hI.out
      have HA7 : Hid (Blk wr w.heap.size (cb zb32) 28) := hI.res
      have HON : Hid (Only (w.heap.size + 1) w2 wr) := hI.onl
      have HZ : Hid ((Try.prog.info? 28).map (·.size) = some (cb dd).length) := by show _ = _; rw [HLd.out]; exact Try.infodig
      have H1 : Hid (∀ u ∈ cb dd, u.oneCell' = true) := cb_one dd
      obtain ⟨cs, HCS⟩ : ∃ x, Hid (x = cb dd) := ⟨_, rfl⟩
      rw [← HCS.out] at HLd HE7 HZ H1
      clear hI
      go_wp2_with (first
        | (refine wpList_load_mid rfl 28 _ rfl (w.heap.size + 1) 0 rfl cs _ HE7.out.range Try.underlying28 rfl HZ.out ?_)
        | (refine wpList_store_mid rfl 28 _ _ rfl w.heap.size 0 cs.toArray rfl rfl (HA7.out.there 0 _ (by rw [List.size_toArray, HLd.out, cb_len, len_zb32]; omega)) (by simpa using HZ.out) (all_oneCell_toArray H1.out) ?_))
      have hB := HA7.out.whole cs (by rw [HLd.out, cb_len, len_zb32])
      have b1 : Below w.heap.size w2 wr := HON.out.below (by omega) (by have := HO2.out.size; omega)
      have b2' : Below w.heap.size wr (wr.setCells w.heap.size 0 cs) := Below.setCells _ (Nat.le_refl _) _ _ _ (Below.refl _ _)
      have b3 := b1.trans b2'
      have hs' : InS (wr.setCells w.heap.size 0 cs) g v l p b2 := by
        refine ⟨HS2.out.blk.below b3 HG.out, ?_, HS2.out.le⟩
        obtain ⟨ad2, cap2, hv2, hc2, hn2, hx2⟩ := HS2.out.byt
        refine ⟨ad2, cap2, hv2, hc2, hn2, fun hp => ?_⟩
        obtain ⟨b, off, rfl, hy⟩ := hx2 hp
        refine ⟨b, off, rfl, fun j hj => ?_⟩
        rw [b3.cell (p := ⟨b, off + j, none⟩) (HV.out hp b (by rw [hv2]; rfl))]
        exact hy j hj
      have ho' : Only g w (wr.setCells w.heap.size 0 cs) := HO2.out.more b3 (Nat.le_refl _)
      refine bodyPost_ret (v := .agg cs.toArray) (results_cell_row (by rfl) _ _ w.heap.size 28 _ (0, 0) _ rfl hB Try.underlying28 rfl (by simpa using HZ.out)) rfl ?_
      rcases HFin.out with ⟨h1, rfl, h3⟩ | ⟨h1, rfl, rfl⟩
      · exact Or.inl ⟨a, p, _, h1, rfl, by rw [HCS.out, HDD.out, HM.out, h3, fillD_all a h3], hs', ho'⟩
      · exact Or.inr ⟨h1, _, p, rfl, by rw [HCS.out, HDD.out, HM.out]; rfl, hs', ho'⟩
end Go.Proofs.Ytldbcglakeggaaa

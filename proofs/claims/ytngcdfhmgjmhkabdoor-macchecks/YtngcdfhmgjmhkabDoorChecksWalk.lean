/- The walk of the statement MacChecks. -/
import Derived.Test.YtngcdfhmgjmhkabDoorCheck
import Derived.Test.YtngcdfhmgjmhkabDoorAnyH
import Derived.Test.YtngcdfhmgjmhkabDoorEq
namespace Go.Proofs.YtngcdfhmgjmhkabDoor
open Go.RowKit
theorem flat_2 (a b : List (BitVec 8)) : [a, b].flatten = a ++ b := by simp
/-- what the last region finds: the blocks of old as they were, the two digests that were laid by -/
structure HeldC (w0 : World) (gb gd : Nat) (dg dd : List (BitVec 8)) (wx : World) : Prop where
  bel : Below w0.heap.size w0 wx
  one : Blk wx gb (cb dg) 26
  two : Blk wx gd (cb dd) 26
theorem HeldC.more {w0 wx wy : World} {gb gd : Nat} {dg dd : List (BitVec 8)} (h : HeldC w0 gb gd dg dd wx) (hb : Below wx.heap.size wx wy) : HeldC w0 gb gd dg dd wy := ⟨h.bel.trans (hb.mono h.bel.size), h.one.below hb h.one.lt, h.two.below hb h.two.lt⟩
set_option maxRecDepth 100000 in
set_option maxHeartbeats 2000000 in
theorem macChecks_any (vk va vb : Value) (key dg la lb : List (BitVec 8)) (w : World) (hd : dg.length = 32) (hK : KOk w) (hk : Reads w vk key) (ha : Reads w va la) (hb : Reads w vb lb) :
    Calls Tryd.prog 5 #[vk, .agg (cb dg).toArray, va, vb] w fun e w' => e = .returned (.bool true) ∧ Below w.heap.size w w' := by
  have HK : Hid (KOk w) := hK
  obtain ⟨cs, HC⟩ : ∃ x, Hid (x = cb dg) := ⟨_, rfl⟩
  have b0 := below_alloc w (Obj.cells cs.toArray 26)
  have HBW : Hid (Below w.heap.size w (w.alloc (Obj.cells cs.toArray 26))) := b0
  have HKW : Hid (KOk (w.alloc (Obj.cells cs.toArray 26))) := HK.out.below b0 HK.out.lt
  have HKR : Hid (Reads (w.alloc (Obj.cells cs.toArray 26)) vk key) := hk.below b0
  have HA : Hid (Reads (w.alloc (Obj.cells cs.toArray 26)) va la) := ha.below b0
  have HB : Hid (Reads (w.alloc (Obj.cells cs.toArray 26)) vb lb) := hb.below b0
  have HG : Hid (Blk (w.alloc (Obj.cells cs.toArray 26)) w.heap.size (cb dg) 26) := by rw [HC.out]; exact Blk.new w (cb dg) 26
  have HDG : Hid (dg.length = 32) := hd
  obtain ⟨aa, ca, rfl, _, _, _⟩ := hk
  obtain ⟨ab, cca, rfl, _, _, _⟩ := ha
  obtain ⟨ac, ccb, rfl, _, _, _⟩ := hb
  rw [← HC.out]
  clear hK b0 hd
  by_cases h : 32768 < key.length ∨ 32768 < la.length ∨ 32768 < lb.length
  · by_cases h0 : 32768 < key.length
    · clear h
      go_enter Tryd.func5, Tryd.ntmps5
      go_wp2_with fail
      refine (mlong_any _ key _ HKR.out).mono ?_
      rintro e wq ⟨rfl, rfl⟩
      simp only [h0, decide_true]
      go_wp2_with (go_at_call 8; refine (mworks_any _ HKW.out).mono ?_; rintro e w4 ⟨rfl, hb4⟩)
      go_ret
      exact ⟨rfl, HBW.out.trans (hb4.mono HBW.out.size)⟩
    · by_cases h1 : 32768 < la.length
      · clear h
        go_enter Tryd.func5, Tryd.ntmps5
        go_wp2_with fail
        refine (mlong_any _ key _ HKR.out).mono ?_
        rintro e wq ⟨rfl, rfl⟩
        simp only [h0, decide_false]
        go_wp2_with fail
        refine (mlong_any _ la _ HA.out).mono ?_
        rintro e wq ⟨rfl, rfl⟩
        simp only [h1, decide_true]
        go_wp2_with (go_at_call 8; refine (mworks_any _ HKW.out).mono ?_; rintro e w4 ⟨rfl, hb4⟩)
        go_ret
        exact ⟨rfl, HBW.out.trans (hb4.mono HBW.out.size)⟩
      · have h2 : 32768 < lb.length := by omega
        clear h
        go_enter Tryd.func5, Tryd.ntmps5
        go_wp2_with fail
        refine (mlong_any _ key _ HKR.out).mono ?_
        rintro e wq ⟨rfl, rfl⟩
        simp only [h0, decide_false]
        go_wp2_with fail
        refine (mlong_any _ la _ HA.out).mono ?_
        rintro e wq ⟨rfl, rfl⟩
        simp only [h1, decide_false]
        go_wp2_with fail
        refine (mlong_any _ lb _ HB.out).mono ?_
        rintro e wq ⟨rfl, rfl⟩
        simp only [h2, decide_true]
        go_wp2_with (go_at_call 8; refine (mworks_any _ HKW.out).mono ?_; rintro e w4 ⟨rfl, hb4⟩)
        go_ret
        exact ⟨rfl, HBW.out.trans (hb4.mono HBW.out.size)⟩
  · have h0 : ¬ 32768 < key.length := fun h' => h (Or.inl h')
    have h1 : ¬ 32768 < la.length := fun h' => h (Or.inr (Or.inl h'))
    have h2 : ¬ 32768 < lb.length := fun h' => h (Or.inr (Or.inr h'))
    have HL : Hid (key.length ≤ 32768 ∧ la.length ≤ 32768 ∧ lb.length ≤ 32768) := ⟨by omega, by omega, by omega⟩
    clear h
    go_enter Tryd.func5, Tryd.ntmps5
    go_wp2_with fail
    refine (mlong_any _ key _ HKR.out).mono ?_
    rintro e wq ⟨rfl, rfl⟩
    simp only [h0, decide_false]
    go_wp2_with fail
    refine (mlong_any _ la _ HA.out).mono ?_
    rintro e wq ⟨rfl, rfl⟩
    simp only [h1, decide_false]
    go_wp2_with fail
    refine (mlong_any _ lb _ HB.out).mono ?_
    rintro e wq ⟨rfl, rfl⟩
    simp only [h2, decide_false]
    clear h0 h1 h2
    generalize w.alloc (Obj.cells cs.toArray 26) = w0 at *
    go_wp2_with fail
    refine (rjoin_any _ [la, lb] _ (readsL_two HA.out HB.out) (by rw [flat_2]; have := HL.out; simp; omega) (by simp)).mono ?_
    rintro e w1 ⟨v1, rfl, hr1, hb1⟩
    rw [flat_2] at hr1
    have HS1 : Hid (Below w0.heap.size w0 w1) := (below_alloc _ _).trans (hb1.mono (by simp))
    have HV1 : Hid (Reads w1 v1 (la ++ lb)) := hr1
    clear hr1 hb1
    go_wp2_with fail
    refine (rmac_any _ _ key (la ++ lb) _ (HKR.out.below HS1.out) HV1.out (by have := HL.out; omega) (by have := HL.out; simp; omega)).mono ?_
    rintro e w2 ⟨rfl, hb2⟩
    have HS2 : Hid (Below w0.heap.size w0 w2) := HS1.out.trans (hb2.mono HS1.out.size)
    clear hb2 HS1 HV1
    obtain ⟨dd, HD⟩ : ∃ x, Hid (x = hmac key (la ++ lb)) := ⟨_, rfl⟩
    have HDL : Hid (dd.length = 32) := by show _ = _; rw [HD.out]; exact len_hmac _ _
    rw [← HD.out]
    obtain ⟨ds, HDS⟩ : ∃ x, Hid (x = cb dd) := ⟨_, rfl⟩
    have HLd : Hid (ds.length = 32) := by show _ = _; rw [HDS.out, cb_len, HDL.out]
    have HZ : Hid ((Tryd.prog.info? 26).map (·.size) = some ds.length) := by show _ = _; rw [HLd.out]; exact Tryd.info26
    have H1 : Hid (∀ v ∈ ds, v.oneCell' = true) := by show ∀ _, _; rw [HDS.out]; exact cb_one _
    rw [← HDS.out]
    go_wp2_with (refine wpList_store_mid rfl 26 _ _ rfl _ 0 ds.toArray rfl rfl ?_ (by simpa using HZ.out) (all_oneCell_toArray H1.out) ?_; exact Blk.there (Blk.new_at rfl (cb zb32) _) _ _ (by rw [List.size_toArray, HLd.out, cb_len, len_zb32]; omega); refine Hid.out ?_)
    generalize h0 : Obj.cells _ 26 = o32
    have ho : o32 = Obj.cells (cb zb32).toArray 26 := h0.symm
    clear h0
    subst ho
    have b4 : Below w2.heap.size w2 ((w2.alloc (.cells (cb zb32).toArray 26)).setCells w2.heap.size 0 ds) := Below.setCells _ (Nat.le_refl _) _ _ _ (below_alloc _ _)
    have HD4 : Blk ((w2.alloc (.cells (cb zb32).toArray 26)).setCells w2.heap.size 0 ds) w2.heap.size (cb dd) 26 := by
      rw [← HDS.out]
      exact (Blk.new w2 (cb zb32) 26).whole ds (by rw [HLd.out, cb_len, len_zb32])
    generalize World.setCells _ _ _ _ = w4 at *
    have HS4 : Below w0.heap.size w0 w4 := HS2.out.trans (b4.mono HS2.out.size)
    generalize w2.heap.size = gd at *
    clear b4 HS2 HLd HZ H1
    rw [HDS.out]
    clear HDS
    have HG4 : Blk w4 w.heap.size (cb dg) 26 := HG.out.below HS4 HG.out.lt
    have heq := fun wx => eq_dig dg dd HDG.out HDL.out wx
    have HPD : Hid (decide (dg = dd) = decide (dg = hmac key (la ++ lb))) := by rw [HD.out]; exact rfl
    generalize decide (dg = dd) = p at *
    rw [HC.out]
    unfold Hid
    go_wp2_with fail
    refine wp_region_held_drew (S := HeldC w0 w.heap.size gd dg dd) (by kernel_rfl) ⟨HS4.drew, HG4.drew, HD4.drew⟩ (fun hS => ?_)
    clear HS4 HD4 HG4
    generalize w4.drew = w5 at *
    refine wpAnyH_take (i := 0) (v := .slice aa key.length ca) rfl (by kernel_rfl) (by kernel_rfl) (by kernel_rfl) (fun _ _ _ h => h) (Or.inl ⟨by rfl, fun wx _ => by simp [go_sem]⟩) hS ?_
    simp only [Act.put, List.getElem_toArray, List.getElem_cons_zero, List.setIfInBounds_toArray, List.set_cons_zero, List.set_cons_succ]
    refine wpAnyH_take (i := 1) (v := .agg (cb dg).toArray) rfl (by kernel_rfl) (by kernel_rfl) (by kernel_rfl) (fun _ _ _ h => h) (Or.inl ⟨by rfl, fun wx hx => load_run 26 _ rfl w.heap.size 0 rfl (cb dg) _ hx.one.range Tryd.underlying26 rfl (info_dig dg HDG.out)⟩) hS ?_
    simp only [Act.put, List.getElem_toArray, List.getElem_cons_succ, List.getElem_cons_zero, List.setIfInBounds_toArray, List.set_cons_zero, List.set_cons_succ]
    refine wpAnyH_take (i := 2) (v := .slice ab la.length cca) rfl (by kernel_rfl) (by kernel_rfl) (by kernel_rfl) (fun _ _ _ h => h) (Or.inl ⟨by rfl, fun wx _ => by simp [go_sem]⟩) hS ?_
    simp only [Act.put, List.getElem_toArray, List.getElem_cons_succ, List.getElem_cons_zero, List.setIfInBounds_toArray, List.set_cons_zero, List.set_cons_succ]
    refine wpAnyH_take (i := 3) (v := .slice ac lb.length ccb) rfl (by kernel_rfl) (by kernel_rfl) (by kernel_rfl) (fun _ _ _ h => h) (Or.inl ⟨by rfl, fun wx _ => by simp [go_sem]⟩) hS ?_
    simp only [Act.put, List.getElem_toArray, List.getElem_cons_succ, List.getElem_cons_zero, List.setIfInBounds_toArray, List.set_cons_zero, List.set_cons_succ]
    refine wpAnyH_take (i := 6) (v := .agg (cb dg).toArray) rfl (by kernel_rfl) (by kernel_rfl) (by kernel_rfl) (fun _ _ _ h => h) (Or.inl ⟨by rfl, fun wx hx => load_run 26 _ rfl w.heap.size 0 rfl (cb dg) _ hx.one.range Tryd.underlying26 rfl (info_dig dg HDG.out)⟩) hS ?_
    simp only [Act.put, List.getElem_toArray, List.getElem_cons_succ, List.getElem_cons_zero, List.setIfInBounds_toArray, List.set_cons_zero, List.set_cons_succ]
    refine wpAnyH_take (i := 7) (v := .agg (cb dd).toArray) rfl (by kernel_rfl) (by kernel_rfl) (by kernel_rfl) (fun _ _ _ h => h) (Or.inl ⟨by rfl, fun wx hx => load_run 26 _ rfl gd 0 rfl (cb dd) _ hx.two.range Tryd.underlying26 rfl (info_dig dd HDL.out)⟩) hS ?_
    simp only [Act.put, List.getElem_toArray, List.getElem_cons_succ, List.getElem_cons_zero, List.setIfInBounds_toArray, List.set_cons_zero, List.set_cons_succ]
    refine wpAnyH_take (i := 8) (v := .bool p) rfl (by kernel_rfl) (by kernel_rfl) (by kernel_rfl) (fun _ _ _ h => h) (Or.inl ⟨by rfl, fun wx _ => by simp [go_sem, heq]⟩) hS ?_
    simp only [Act.put, List.getElem_toArray, List.getElem_cons_succ, List.getElem_cons_zero, List.setIfInBounds_toArray, List.set_cons_zero, List.set_cons_succ]
    have hbA := below_alloc w5 (.cells #[.slice ab la.length cca, .slice ac lb.length ccb] 22)
    have hSA := hS.more hbA
    refine wpAnyH_step 4 (.slice (some ⟨w5.heap.size, 0, none⟩) 2 2) (w5.alloc (.cells #[.slice ab la.length cca, .slice ac lb.length ccb] 22)) (by kernel_rfl) rfl (by rfl) (by simp [go_sem]) hSA ?_
    simp only [Act.put, List.getElem_toArray, List.getElem_cons_succ, List.getElem_cons_zero, List.setIfInBounds_toArray, List.set_cons_zero, List.set_cons_succ]
    refine wpAnyH_enter 5 (by kernel_rfl) rfl (by rfl) (f := 14) (args := #[.slice aa key.length ca, .agg (cb dg).toArray, .slice (some ⟨w5.heap.size, 0, none⟩) 2 2]) (by simp [go_sem]) (check_any _ _ dg key [la, lb] _ HDG.out (HKW.out.below hSA.bel HKW.out.lt) (HKR.out.below hSA.bel) (readsL_two (HA.out.below hS.bel) (HB.out.below hS.bel)) (by have := HL.out; omega) (by rw [flat_2]; have := HL.out; simp; omega) (by simp)) ?_
    rintro e w6 ⟨rfl, hbB⟩
    have hS6 := hSA.more hbB
    refine ⟨_, rfl, hS6, ?_⟩
    clear hbB hS hSA hbA
    have hS := hS6
    clear hS6
    rw [flat_2, ← HPD.out]
    simp only [Act.put, List.getElem_toArray, List.getElem_cons_succ, List.getElem_cons_zero, List.setIfInBounds_toArray, List.set_cons_zero, List.set_cons_succ]
    refine wpAnyH_take (i := 9) (v := .bool true) rfl (by kernel_rfl) (by kernel_rfl) (by kernel_rfl) (fun _ _ _ h => h) (Or.inl ⟨by rfl, fun wx _ => by simp [go_sem]⟩) hS ?_
    simp only [Act.put, List.getElem_toArray, List.getElem_cons_succ, List.getElem_cons_zero, List.setIfInBounds_toArray, List.set_cons_zero, List.set_cons_succ]
    refine wpAnyH_take (i := 10) (v := .bool true) rfl (by kernel_rfl) (by kernel_rfl) (by kernel_rfl) (fun _ _ _ h => h) (Or.inl ⟨by rfl, fun wx _ => by simp [go_sem]⟩) hS ?_
    simp only [Act.put, List.getElem_toArray, List.getElem_cons_succ, List.getElem_cons_zero, List.setIfInBounds_toArray, List.set_cons_zero, List.set_cons_succ]
    refine wpAnyH_take (i := 11) (v := .slice aa key.length ca) rfl (by kernel_rfl) (by kernel_rfl) (by kernel_rfl) (fun _ _ _ h => h) (Or.inl ⟨by rfl, fun wx _ => by simp [go_sem]⟩) hS ?_
    simp only [Act.put, List.getElem_toArray, List.getElem_cons_succ, List.getElem_cons_zero, List.setIfInBounds_toArray, List.set_cons_zero, List.set_cons_succ]
    refine wpAnyH_take (i := 12) (v := .agg (cb dd).toArray) rfl (by kernel_rfl) (by kernel_rfl) (by kernel_rfl) (fun _ _ _ h => h) (Or.inl ⟨by rfl, fun wx hx => load_run 26 _ rfl gd 0 rfl (cb dd) _ hx.two.range Tryd.underlying26 rfl (info_dig dd HDL.out)⟩) hS ?_
    simp only [Act.put, List.getElem_toArray, List.getElem_cons_succ, List.getElem_cons_zero, List.setIfInBounds_toArray, List.set_cons_zero, List.set_cons_succ]
    refine wpAnyH_take (i := 13) (v := .slice ab la.length cca) rfl (by kernel_rfl) (by kernel_rfl) (by kernel_rfl) (fun _ _ _ h => h) (Or.inl ⟨by rfl, fun wx _ => by simp [go_sem]⟩) hS ?_
    simp only [Act.put, List.getElem_toArray, List.getElem_cons_succ, List.getElem_cons_zero, List.setIfInBounds_toArray, List.set_cons_zero, List.set_cons_succ]
    refine wpAnyH_take (i := 14) (v := .slice ac lb.length ccb) rfl (by kernel_rfl) (by kernel_rfl) (by kernel_rfl) (fun _ _ _ h => h) (Or.inl ⟨by rfl, fun wx _ => by simp [go_sem]⟩) hS ?_
    simp only [Act.put, List.getElem_toArray, List.getElem_cons_succ, List.getElem_cons_zero, List.setIfInBounds_toArray, List.set_cons_zero, List.set_cons_succ]
    have hbA := below_alloc w6 (.cells #[.slice ab la.length cca, .slice ac lb.length ccb] 22)
    have hSA := hS.more hbA
    refine wpAnyH_step 15 (.slice (some ⟨w6.heap.size, 0, none⟩) 2 2) (w6.alloc (.cells #[.slice ab la.length cca, .slice ac lb.length ccb] 22)) (by kernel_rfl) rfl (by rfl) (by simp [go_sem]) hSA ?_
    simp only [Act.put, List.getElem_toArray, List.getElem_cons_succ, List.getElem_cons_zero, List.setIfInBounds_toArray, List.set_cons_zero, List.set_cons_succ]
    refine wpAnyH_enter 16 (by kernel_rfl) rfl (by rfl) (f := 14) (args := #[.slice aa key.length ca, .agg (cb dd).toArray, .slice (some ⟨w6.heap.size, 0, none⟩) 2 2]) (by simp [go_sem]) (check_any _ _ dd key [la, lb] _ HDL.out (HKW.out.below hSA.bel HKW.out.lt) (HKR.out.below hSA.bel) (readsL_two (HA.out.below hS.bel) (HB.out.below hS.bel)) (by have := HL.out; omega) (by rw [flat_2]; have := HL.out; simp; omega) (by simp)) ?_
    rintro e w7 ⟨rfl, hbB⟩
    have hS7 := hSA.more hbB
    refine ⟨_, rfl, hS7, ?_⟩
    clear hbB hS hSA hbA
    have hS := hS7
    clear hS7
    rw [flat_2, ← HD.out, decide_eq_true (Eq.refl dd)]
    simp only [Act.put, List.getElem_toArray, List.getElem_cons_succ, List.getElem_cons_zero, List.setIfInBounds_toArray, List.set_cons_zero, List.set_cons_succ]
    refine wpAnyH_take (i := 17) (v := .bool true) rfl (by kernel_rfl) (by kernel_rfl) (by kernel_rfl) (fun _ _ _ h => h) (Or.inl ⟨by rfl, fun wx _ => by simp [go_sem]⟩) hS ?_
    simp only [Act.put, List.getElem_toArray, List.getElem_cons_succ, List.getElem_cons_zero, List.setIfInBounds_toArray, List.set_cons_zero, List.set_cons_succ]
    refine wpAnyH_take (i := 18) (v := .bool true) rfl (by kernel_rfl) (by kernel_rfl) (by kernel_rfl) (fun _ _ _ h => h) (Or.inl ⟨by rfl, fun wx _ => by simp [go_sem]⟩) hS ?_
    simp only [Act.put, List.getElem_toArray, List.getElem_cons_succ, List.getElem_cons_zero, List.setIfInBounds_toArray, List.set_cons_zero, List.set_cons_succ]
    refine wpAnyH_enter 19 (by kernel_rfl) rfl (by rfl) (f := 8) (args := #[]) (by simp [go_sem]) (mworks_any _ (HKW.out.below hS.bel HKW.out.lt)) ?_
    rintro e w8 ⟨rfl, hbB⟩
    have hS8 := hS.more hbB
    refine ⟨_, rfl, hS8, ?_⟩
    clear hbB hS
    have hS := hS8
    clear hS8
    simp only [Act.put, List.getElem_toArray, List.getElem_cons_succ, List.getElem_cons_zero, List.setIfInBounds_toArray, List.set_cons_zero, List.set_cons_succ]
    refine wpAnyH_take (i := 20) (v := .bool true) rfl (by kernel_rfl) (by kernel_rfl) (by kernel_rfl) (fun _ _ _ h => h) (Or.inl ⟨by rfl, fun wx _ => by simp [go_sem]⟩) hS ?_
    simp only [Act.put, List.getElem_toArray, List.getElem_cons_succ, List.getElem_cons_zero, List.setIfInBounds_toArray, List.set_cons_zero, List.set_cons_succ]
    refine wpAnyH_take (i := 21) (v := .bool true) rfl (by kernel_rfl) (by kernel_rfl) (by kernel_rfl) (fun _ _ _ h => h) (Or.inl ⟨by rfl, fun wx _ => by simp [go_sem]⟩) hS ?_
    simp only [Act.put, List.getElem_toArray, List.getElem_cons_succ, List.getElem_cons_zero, List.setIfInBounds_toArray, List.set_cons_zero, List.set_cons_succ]
    refine wpAnyH_done (by kernel_rfl) ?_ _
    have hB := HBW.out.trans (hS.bel.mono HBW.out.size)
    clear hS heq
    go_wp2
    go_ret
    exact ⟨rfl, hB⟩
end Go.Proofs.YtngcdfhmgjmhkabDoor

/- The walk of the statement MacParts. -/
import Derived.Test.YtngcdfhmgjmhkabDoorRMac
import Derived.Test.YtngcdfhmgjmhkabDoorMWorks
import Derived.Test.YtngcdfhmgjmhkabDoorAnyH
import Derived.Test.YtngcdfhmgjmhkabDoorEq
namespace Go.Proofs.YtngcdfhmgjmhkabDoor
open Go.RowKit
theorem flat_three (a b c : List (BitVec 8)) : [a, b, c].flatten = a ++ (b ++ c) := by simp
theorem flat_four (a b c : List (BitVec 8)) : [a, [], b, c].flatten = a ++ (b ++ c) := by simp
theorem reads_nil (w : World) : Reads w (.slice none 0 0) [] := ⟨none, 0, rfl, Nat.le_refl _, fun _ => rfl, fun h => by cases h⟩
theorem readsL_nil (w : World) : ReadsL w (.slice none 0 0) [] := ⟨none, 0, rfl, Nat.le_refl _, fun _ => rfl, fun h => by cases h⟩
/-- what the last region finds: the blocks of old as they were, the digest that was laid by -/
def HeldD (w0 : World) (gd : Nat) (dd : List (BitVec 8)) (wx : World) : Prop := Below w0.heap.size w0 wx ∧ Blk wx gd (cb dd) 26
theorem HeldD.more {w0 wx wy : World} {gd : Nat} {dd : List (BitVec 8)} (h : HeldD w0 gd dd wx) (hb : Below wx.heap.size wx wy) : HeldD w0 gd dd wy := ⟨h.1.trans (hb.mono h.1.size), h.2.below hb h.2.lt⟩
set_option maxRecDepth 100000 in
set_option maxHeartbeats 2000000 in
theorem macParts_any (vk va vb vc : Value) (key la lb lc : List (BitVec 8)) (w : World) (hK : KOk w) (hk : Reads w vk key) (ha : Reads w va la) (hb : Reads w vb lb) (hc : Reads w vc lc) :
    Calls Tryd.prog 3 #[vk, va, vb, vc] w fun e w' => e = .returned (.bool true) ∧ Below w.heap.size w w' := by
  have HK : Hid (KOk w) := hK
  have HKR : Hid (Reads w vk key) := hk
  have HA : Hid (Reads w va la) := ha
  have HB : Hid (Reads w vb lb) := hb
  have HC : Hid (Reads w vc lc) := hc
  obtain ⟨aa, ca, rfl, _, _, _⟩ := hk
  obtain ⟨ab, cca, rfl, _, _, _⟩ := ha
  obtain ⟨ac, ccb, rfl, _, _, _⟩ := hb
  obtain ⟨ad, ccc, rfl, _, _, _⟩ := hc
  clear hK
  by_cases h : 32768 < key.length ∨ 32768 < la.length ∨ 32768 < lb.length ∨ 32768 < lc.length
  · by_cases h0 : 32768 < key.length
    · clear h
      go_enter Tryd.func3, Tryd.ntmps3
      go_wp2_with fail
      refine (mlong_any _ key _ HKR.out).mono ?_
      rintro e w1 ⟨rfl, rfl⟩
      simp only [h0, decide_true]
      go_wp2_with (go_at_call 8; refine (mworks_any _ HK.out).mono ?_; rintro e w4 ⟨rfl, hb4⟩)
      go_ret
      exact ⟨rfl, hb4⟩
    · by_cases h1 : 32768 < la.length
      · clear h
        go_enter Tryd.func3, Tryd.ntmps3
        go_wp2_with fail
        refine (mlong_any _ key _ HKR.out).mono ?_
        rintro e w1 ⟨rfl, rfl⟩
        simp only [h0, decide_false]
        go_wp2_with fail
        refine (mlong_any _ la _ HA.out).mono ?_
        rintro e w2 ⟨rfl, rfl⟩
        simp only [h1, decide_true]
        go_wp2_with (go_at_call 8; refine (mworks_any _ HK.out).mono ?_; rintro e w4 ⟨rfl, hb4⟩)
        go_ret
        exact ⟨rfl, hb4⟩
      · by_cases h2 : 32768 < lb.length
        · clear h
          go_enter Tryd.func3, Tryd.ntmps3
          go_wp2_with fail
          refine (mlong_any _ key _ HKR.out).mono ?_
          rintro e w1 ⟨rfl, rfl⟩
          simp only [h0, decide_false]
          go_wp2_with fail
          refine (mlong_any _ la _ HA.out).mono ?_
          rintro e w2 ⟨rfl, rfl⟩
          simp only [h1, decide_false]
          go_wp2_with fail
          refine (mlong_any _ lb _ HB.out).mono ?_
          rintro e w3 ⟨rfl, rfl⟩
          simp only [h2, decide_true]
          go_wp2_with (go_at_call 8; refine (mworks_any _ HK.out).mono ?_; rintro e w4 ⟨rfl, hb4⟩)
          go_ret
          exact ⟨rfl, hb4⟩
        · have h3 : 32768 < lc.length := by omega
          clear h
          go_enter Tryd.func3, Tryd.ntmps3
          go_wp2_with fail
          refine (mlong_any _ key _ HKR.out).mono ?_
          rintro e w1 ⟨rfl, rfl⟩
          simp only [h0, decide_false]
          go_wp2_with fail
          refine (mlong_any _ la _ HA.out).mono ?_
          rintro e w2 ⟨rfl, rfl⟩
          simp only [h1, decide_false]
          go_wp2_with fail
          refine (mlong_any _ lb _ HB.out).mono ?_
          rintro e w3 ⟨rfl, rfl⟩
          simp only [h2, decide_false]
          go_wp2_with fail
          refine (mlong_any _ lc _ HC.out).mono ?_
          rintro e w4 ⟨rfl, rfl⟩
          simp only [h3, decide_true]
          go_wp2_with (go_at_call 8; refine (mworks_any _ HK.out).mono ?_; rintro e w5 ⟨rfl, hb4⟩)
          go_ret
          exact ⟨rfl, hb4⟩
  · have h0 : ¬ 32768 < key.length := fun h' => h (Or.inl h')
    have h1 : ¬ 32768 < la.length := fun h' => h (Or.inr (Or.inl h'))
    have h2 : ¬ 32768 < lb.length := fun h' => h (Or.inr (Or.inr (Or.inl h')))
    have h3 : ¬ 32768 < lc.length := fun h' => h (Or.inr (Or.inr (Or.inr h')))
    have HL : Hid (key.length ≤ 32768 ∧ la.length ≤ 32768 ∧ lb.length ≤ 32768 ∧ lc.length ≤ 32768) := ⟨by omega, by omega, by omega, by omega⟩
    clear h
    go_enter Tryd.func3, Tryd.ntmps3
    go_wp2_with fail
    refine (mlong_any _ key _ HKR.out).mono ?_
    rintro e w0 ⟨rfl, rfl⟩
    simp only [h0, decide_false]
    go_wp2_with fail
    refine (mlong_any _ la _ HA.out).mono ?_
    rintro e w0 ⟨rfl, rfl⟩
    simp only [h1, decide_false]
    go_wp2_with fail
    refine (mlong_any _ lb _ HB.out).mono ?_
    rintro e w0 ⟨rfl, rfl⟩
    simp only [h2, decide_false]
    go_wp2_with fail
    refine (mlong_any _ lc _ HC.out).mono ?_
    rintro e w0 ⟨rfl, rfl⟩
    simp only [h3, decide_false]
    clear h0 h1 h2 h3
    go_wp2_with fail
    refine (rjoin_any _ [la, lb, lc] _ (readsL_three HA.out HB.out HC.out) (by rw [flat_three]; have := HL.out; simp; omega) (by simp)).mono ?_
    rintro e w1 ⟨v1, rfl, hr1, hb1⟩
    rw [flat_three] at hr1
    have HS1 : Hid (Below w0.heap.size w0 w1) := (below_alloc _ _).trans (hb1.mono (by simp))
    have HV1 : Hid (Reads w1 v1 (la ++ (lb ++ lc))) := hr1
    clear hr1 hb1
    go_wp2_with fail
    refine (rmac_any _ _ key (la ++ (lb ++ lc)) _ (HKR.out.below HS1.out) HV1.out (by have := HL.out; omega) (by have := HL.out; simp; omega)).mono ?_
    rintro e w2 ⟨rfl, hb2⟩
    have HS2 : Hid (Below w0.heap.size w0 w2) := HS1.out.trans (hb2.mono HS1.out.size)
    clear hb2 HS1 HV1
    obtain ⟨dd, HD⟩ : ∃ x, Hid (x = hmac key (la ++ (lb ++ lc))) := ⟨_, rfl⟩
    have HDL : Hid (dd.length = 32) := by show _ = _; rw [HD.out]; exact len_hmac _ _
    rw [← HD.out]
    obtain ⟨ds, HDS⟩ : ∃ x, Hid (x = cb dd) := ⟨_, rfl⟩
    have HLd : Hid (ds.length = 32) := by show _ = _; rw [HDS.out, cb_len, HDL.out]
    have HZ : Hid ((Tryd.prog.info? 26).map (·.size) = some ds.length) := by show _ = _; rw [HLd.out]; exact Tryd.info26
    have H1 : Hid (∀ v ∈ ds, v.oneCell' = true) := by show ∀ _, _; rw [HDS.out]; exact cb_one _
    rw [← HDS.out]
    go_wp2_with (refine wpList_store_mid rfl 26 _ _ rfl _ 0 ds.toArray rfl rfl ?_ (by simpa using HZ.out) (all_oneCell_toArray H1.out) ?_; exact Blk.there (Blk.new_at rfl (cb zb32) _) _ _ (by rw [List.size_toArray, HLd.out, cb_len, len_zb32]; omega); refine Hid.out ?_)
    generalize h0 : Obj.cells _ 26 = o32
    have ho : o32 = Obj.cells (cb zb32).toArray 26 := h0.symm
    clear h0
    subst ho
    have b4 : Below w2.heap.size w2 ((w2.alloc (.cells (cb zb32).toArray 26)).setCells w2.heap.size 0 ds) := Below.setCells _ (Nat.le_refl _) _ _ _ (below_alloc _ _)
    have HD4 : Blk ((w2.alloc (.cells (cb zb32).toArray 26)).setCells w2.heap.size 0 ds) w2.heap.size (cb dd) 26 := by
      rw [← HDS.out]
      exact (Blk.new w2 (cb zb32) 26).whole ds (by rw [HLd.out, cb_len, len_zb32])
    generalize World.setCells _ _ _ _ = w4 at *
    have HS4 : Below w0.heap.size w0 w4 := HS2.out.trans (b4.mono HS2.out.size)
    generalize w2.heap.size = gd at *
    clear b4 HS2 HLd HZ H1
    rw [HDS.out]
    clear HDS
    unfold Hid
    go_wp2_with fail
    refine wp_region_held_drew (S := HeldD w0 gd dd) (by kernel_rfl) ⟨HS4.drew, HD4.drew⟩ (fun hS => ?_)
    clear HS4 HD4
    have heq := fun wx => eq_dig_same dd HDL.out wx
    generalize w4.drew = w5 at *
    refine wpAnyH_take (i := 0) (v := .slice aa key.length ca) rfl (by kernel_rfl) (by kernel_rfl) (by kernel_rfl) (fun _ _ _ h => h) (Or.inl ⟨by rfl, fun wx _ => by simp [go_sem]⟩) hS ?_
    simp only [Act.put, List.getElem_toArray, List.getElem_cons_zero, List.setIfInBounds_toArray, List.set_cons_zero, List.set_cons_succ]
    refine wpAnyH_take (i := 1) (v := .slice ab la.length cca) rfl (by kernel_rfl) (by kernel_rfl) (by kernel_rfl) (fun _ _ _ h => h) (Or.inl ⟨by rfl, fun wx _ => by simp [go_sem]⟩) hS ?_
    simp only [Act.put, List.getElem_toArray, List.getElem_cons_succ, List.getElem_cons_zero, List.setIfInBounds_toArray, List.set_cons_zero, List.set_cons_succ]
    refine wpAnyH_take (i := 2) (v := .slice ac lb.length ccb) rfl (by kernel_rfl) (by kernel_rfl) (by kernel_rfl) (fun _ _ _ h => h) (Or.inl ⟨by rfl, fun wx _ => by simp [go_sem]⟩) hS ?_
    simp only [Act.put, List.getElem_toArray, List.getElem_cons_succ, List.getElem_cons_zero, List.setIfInBounds_toArray, List.set_cons_zero, List.set_cons_succ]
    refine wpAnyH_take (i := 3) (v := .slice ad lc.length ccc) rfl (by kernel_rfl) (by kernel_rfl) (by kernel_rfl) (fun _ _ _ h => h) (Or.inl ⟨by rfl, fun wx _ => by simp [go_sem]⟩) hS ?_
    simp only [Act.put, List.getElem_toArray, List.getElem_cons_succ, List.getElem_cons_zero, List.setIfInBounds_toArray, List.set_cons_zero, List.set_cons_succ]
    refine wpAnyH_take (i := 6) (v := .agg (cb dd).toArray) rfl (by kernel_rfl) (by kernel_rfl) (by kernel_rfl) (fun _ _ _ h => h) (Or.inl ⟨by rfl, fun wx hx => load_run 26 _ rfl gd 0 rfl (cb dd) _ hx.2.range Tryd.underlying26 rfl (info_dig dd HDL.out)⟩) hS ?_
    simp only [Act.put, List.getElem_toArray, List.getElem_cons_succ, List.getElem_cons_zero, List.setIfInBounds_toArray, List.set_cons_zero, List.set_cons_succ]
    have hbA := below_alloc w5 (.cells #[.slice ab la.length cca, .slice ac lb.length ccb, .slice ad lc.length ccc] 22)
    have hSA := hS.more hbA
    refine wpAnyH_step 4 (.slice (some ⟨w5.heap.size, 0, none⟩) 3 3) (w5.alloc (.cells #[.slice ab la.length cca, .slice ac lb.length ccb, .slice ad lc.length ccc] 22)) (by kernel_rfl) rfl (by rfl) (by simp [go_sem]) hSA ?_
    simp only [Act.put, List.getElem_toArray, List.getElem_cons_succ, List.getElem_cons_zero, List.setIfInBounds_toArray, List.set_cons_zero, List.set_cons_succ]
    refine wpAnyH_enter 5 (by kernel_rfl) rfl (by rfl) (f := 11) (args := #[.slice aa key.length ca, .slice (some ⟨w5.heap.size, 0, none⟩) 3 3]) (by simp [go_sem]) (mac_any _ _ key [la, lb, lc] _ (HK.out.below hSA.1 HK.out.lt) (HKR.out.below hSA.1) (readsL_three (HA.out.below hS.1) (HB.out.below hS.1) (HC.out.below hS.1)) (by have := HL.out; omega) (by rw [flat_three]; have := HL.out; simp; omega) (by simp)) ?_
    rintro e w6 ⟨rfl, hbB⟩
    have hS6 := hSA.more hbB
    refine ⟨_, rfl, hS6, ?_⟩
    clear hbB hS hSA hbA
    have hS := hS6
    clear hS6
    rw [flat_three, ← HD.out]
    simp only [Act.put, List.getElem_toArray, List.getElem_cons_succ, List.getElem_cons_zero, List.setIfInBounds_toArray, List.set_cons_zero, List.set_cons_succ]
    refine wpAnyH_take (i := 7) (v := .bool true) rfl (by kernel_rfl) (by kernel_rfl) (by kernel_rfl) (fun _ _ _ h => h) (Or.inl ⟨by rfl, fun wx _ => by simp [go_sem, heq]⟩) hS ?_
    simp only [Act.put, List.getElem_toArray, List.getElem_cons_succ, List.getElem_cons_zero, List.setIfInBounds_toArray, List.set_cons_zero, List.set_cons_succ]
    refine wpAnyH_take (i := 8) (v := .bool true) rfl (by kernel_rfl) (by kernel_rfl) (by kernel_rfl) (fun _ _ _ h => h) (Or.inl ⟨by rfl, fun wx _ => by simp [go_sem]⟩) hS ?_
    simp only [Act.put, List.getElem_toArray, List.getElem_cons_succ, List.getElem_cons_zero, List.setIfInBounds_toArray, List.set_cons_zero, List.set_cons_succ]
    refine wpAnyH_take (i := 9) (v := .slice aa key.length ca) rfl (by kernel_rfl) (by kernel_rfl) (by kernel_rfl) (fun _ _ _ h => h) (Or.inl ⟨by rfl, fun wx _ => by simp [go_sem]⟩) hS ?_
    simp only [Act.put, List.getElem_toArray, List.getElem_cons_succ, List.getElem_cons_zero, List.setIfInBounds_toArray, List.set_cons_zero, List.set_cons_succ]
    refine wpAnyH_take (i := 10) (v := .slice ab la.length cca) rfl (by kernel_rfl) (by kernel_rfl) (by kernel_rfl) (fun _ _ _ h => h) (Or.inl ⟨by rfl, fun wx _ => by simp [go_sem]⟩) hS ?_
    simp only [Act.put, List.getElem_toArray, List.getElem_cons_succ, List.getElem_cons_zero, List.setIfInBounds_toArray, List.set_cons_zero, List.set_cons_succ]
    refine wpAnyH_take (i := 11) (v := .slice ac lb.length ccb) rfl (by kernel_rfl) (by kernel_rfl) (by kernel_rfl) (fun _ _ _ h => h) (Or.inl ⟨by rfl, fun wx _ => by simp [go_sem]⟩) hS ?_
    simp only [Act.put, List.getElem_toArray, List.getElem_cons_succ, List.getElem_cons_zero, List.setIfInBounds_toArray, List.set_cons_zero, List.set_cons_succ]
    refine wpAnyH_take (i := 12) (v := .slice ad lc.length ccc) rfl (by kernel_rfl) (by kernel_rfl) (by kernel_rfl) (fun _ _ _ h => h) (Or.inl ⟨by rfl, fun wx _ => by simp [go_sem]⟩) hS ?_
    simp only [Act.put, List.getElem_toArray, List.getElem_cons_succ, List.getElem_cons_zero, List.setIfInBounds_toArray, List.set_cons_zero, List.set_cons_succ]
    refine wpAnyH_take (i := 15) (v := .agg (cb dd).toArray) rfl (by kernel_rfl) (by kernel_rfl) (by kernel_rfl) (fun _ _ _ h => h) (Or.inl ⟨by rfl, fun wx hx => load_run 26 _ rfl gd 0 rfl (cb dd) _ hx.2.range Tryd.underlying26 rfl (info_dig dd HDL.out)⟩) hS ?_
    simp only [Act.put, List.getElem_toArray, List.getElem_cons_succ, List.getElem_cons_zero, List.setIfInBounds_toArray, List.set_cons_zero, List.set_cons_succ]
    have hbA := below_alloc w6 (.cells #[.slice ab la.length cca, .slice none 0 0, .slice ac lb.length ccb, .slice ad lc.length ccc] 22)
    have hSA := hS.more hbA
    refine wpAnyH_step 13 (.slice (some ⟨w6.heap.size, 0, none⟩) 4 4) (w6.alloc (.cells #[.slice ab la.length cca, .slice none 0 0, .slice ac lb.length ccb, .slice ad lc.length ccc] 22)) (by kernel_rfl) rfl (by rfl) (by simp [go_sem]) hSA ?_
    simp only [Act.put, List.getElem_toArray, List.getElem_cons_succ, List.getElem_cons_zero, List.setIfInBounds_toArray, List.set_cons_zero, List.set_cons_succ]
    refine wpAnyH_enter 14 (by kernel_rfl) rfl (by rfl) (f := 11) (args := #[.slice aa key.length ca, .slice (some ⟨w6.heap.size, 0, none⟩) 4 4]) (by simp [go_sem]) (mac_any _ _ key [la, [], lb, lc] _ (HK.out.below hSA.1 HK.out.lt) (HKR.out.below hSA.1) (readsL_four (HA.out.below hS.1) (reads_nil _) (HB.out.below hS.1) (HC.out.below hS.1)) (by have := HL.out; omega) (by rw [flat_four]; have := HL.out; simp; omega) (by simp)) ?_
    rintro e w7 ⟨rfl, hbB⟩
    have hS7 := hSA.more hbB
    refine ⟨_, rfl, hS7, ?_⟩
    clear hbB hS hSA hbA
    have hS := hS7
    clear hS7
    rw [flat_four, ← HD.out]
    simp only [Act.put, List.getElem_toArray, List.getElem_cons_succ, List.getElem_cons_zero, List.setIfInBounds_toArray, List.set_cons_zero, List.set_cons_succ]
    refine wpAnyH_take (i := 16) (v := .bool true) rfl (by kernel_rfl) (by kernel_rfl) (by kernel_rfl) (fun _ _ _ h => h) (Or.inl ⟨by rfl, fun wx _ => by simp [go_sem, heq]⟩) hS ?_
    simp only [Act.put, List.getElem_toArray, List.getElem_cons_succ, List.getElem_cons_zero, List.setIfInBounds_toArray, List.set_cons_zero, List.set_cons_succ]
    refine wpAnyH_take (i := 17) (v := .bool true) rfl (by kernel_rfl) (by kernel_rfl) (by kernel_rfl) (fun _ _ _ h => h) (Or.inl ⟨by rfl, fun wx _ => by simp [go_sem]⟩) hS ?_
    simp only [Act.put, List.getElem_toArray, List.getElem_cons_succ, List.getElem_cons_zero, List.setIfInBounds_toArray, List.set_cons_zero, List.set_cons_succ]
    refine wpAnyH_take (i := 18) (v := .bool true) rfl (by kernel_rfl) (by kernel_rfl) (by kernel_rfl) (fun _ _ _ h => h) (Or.inl ⟨by rfl, fun wx _ => by simp [go_sem]⟩) hS ?_
    simp only [Act.put, List.getElem_toArray, List.getElem_cons_succ, List.getElem_cons_zero, List.setIfInBounds_toArray, List.set_cons_zero, List.set_cons_succ]
    refine wpAnyH_take (i := 19) (v := .slice aa key.length ca) rfl (by kernel_rfl) (by kernel_rfl) (by kernel_rfl) (fun _ _ _ h => h) (Or.inl ⟨by rfl, fun wx _ => by simp [go_sem]⟩) hS ?_
    simp only [Act.put, List.getElem_toArray, List.getElem_cons_succ, List.getElem_cons_zero, List.setIfInBounds_toArray, List.set_cons_zero, List.set_cons_succ]
    refine wpAnyH_take (i := 21) (v := .slice aa key.length ca) rfl (by kernel_rfl) (by kernel_rfl) (by kernel_rfl) (fun _ _ _ h => h) (Or.inl ⟨by rfl, fun wx _ => by simp [go_sem]⟩) hS ?_
    simp only [Act.put, List.getElem_toArray, List.getElem_cons_succ, List.getElem_cons_zero, List.setIfInBounds_toArray, List.set_cons_zero, List.set_cons_succ]
    refine wpAnyH_enter 20 (by kernel_rfl) rfl (by rfl) (f := 11) (args := #[.slice aa key.length ca, .slice none 0 0]) (by simp [go_sem]) (mac_any _ _ key [] _ (HK.out.below hS.1 HK.out.lt) (HKR.out.below hS.1) (readsL_nil _) (by have := HL.out; omega) (by simp) (by simp)) ?_
    rintro e w8 ⟨rfl, hbB⟩
    have hS8 := hS.more hbB
    refine ⟨_, rfl, hS8, ?_⟩
    clear hbB hS
    have hS := hS8
    clear hS8
    rw [show ([] : List (List (BitVec 8))).flatten = [] from rfl]
    obtain ⟨de, HE⟩ : ∃ x, Hid (x = hmac key []) := ⟨_, rfl⟩
    rw [← HE.out]
    have heq2 := fun wx => eq_dig_same de (by rw [HE.out]; exact len_hmac _ _) wx
    simp only [Act.put, List.getElem_toArray, List.getElem_cons_succ, List.getElem_cons_zero, List.setIfInBounds_toArray, List.set_cons_zero, List.set_cons_succ]
    refine wpAnyH_enter 22 (by kernel_rfl) rfl (by rfl) (f := 9) (args := #[.slice aa key.length ca, .slice none 0 0]) (by simp [go_sem]) (rmac_any _ _ key [] _ (HKR.out.below hS.1) (reads_nil _) (by have := HL.out; omega) (by simp)) ?_
    rintro e w9 ⟨rfl, hbB⟩
    have hS9 := hS.more hbB
    refine ⟨_, rfl, hS9, ?_⟩
    clear hbB hS
    have hS := hS9
    clear hS9
    rw [← HE.out]
    simp only [Act.put, List.getElem_toArray, List.getElem_cons_succ, List.getElem_cons_zero, List.setIfInBounds_toArray, List.set_cons_zero, List.set_cons_succ]
    refine wpAnyH_take (i := 23) (v := .bool true) rfl (by kernel_rfl) (by kernel_rfl) (by kernel_rfl) (fun _ _ _ h => h) (Or.inl ⟨by rfl, fun wx _ => by simp [go_sem, heq2]⟩) hS ?_
    simp only [Act.put, List.getElem_toArray, List.getElem_cons_succ, List.getElem_cons_zero, List.setIfInBounds_toArray, List.set_cons_zero, List.set_cons_succ]
    refine wpAnyH_take (i := 24) (v := .bool true) rfl (by kernel_rfl) (by kernel_rfl) (by kernel_rfl) (fun _ _ _ h => h) (Or.inl ⟨by rfl, fun wx _ => by simp [go_sem]⟩) hS ?_
    simp only [Act.put, List.getElem_toArray, List.getElem_cons_succ, List.getElem_cons_zero, List.setIfInBounds_toArray, List.set_cons_zero, List.set_cons_succ]
    refine wpAnyH_take (i := 25) (v := .bool true) rfl (by kernel_rfl) (by kernel_rfl) (by kernel_rfl) (fun _ _ _ h => h) (Or.inl ⟨by rfl, fun wx _ => by simp [go_sem]⟩) hS ?_
    simp only [Act.put, List.getElem_toArray, List.getElem_cons_succ, List.getElem_cons_zero, List.setIfInBounds_toArray, List.set_cons_zero, List.set_cons_succ]
    refine wpAnyH_enter 26 (by kernel_rfl) rfl (by rfl) (f := 8) (args := #[]) (by simp [go_sem]) (mworks_any _ (HK.out.below hS.1 HK.out.lt)) ?_
    rintro e w10 ⟨rfl, hbB⟩
    have hS10 := hS.more hbB
    refine ⟨_, rfl, hS10, ?_⟩
    clear hbB hS
    have hS := hS10
    clear hS10
    simp only [Act.put, List.getElem_toArray, List.getElem_cons_succ, List.getElem_cons_zero, List.setIfInBounds_toArray, List.set_cons_zero, List.set_cons_succ]
    refine wpAnyH_take (i := 27) (v := .bool true) rfl (by kernel_rfl) (by kernel_rfl) (by kernel_rfl) (fun _ _ _ h => h) (Or.inl ⟨by rfl, fun wx _ => by simp [go_sem]⟩) hS ?_
    simp only [Act.put, List.getElem_toArray, List.getElem_cons_succ, List.getElem_cons_zero, List.setIfInBounds_toArray, List.set_cons_zero, List.set_cons_succ]
    refine wpAnyH_take (i := 28) (v := .bool true) rfl (by kernel_rfl) (by kernel_rfl) (by kernel_rfl) (fun _ _ _ h => h) (Or.inl ⟨by rfl, fun wx _ => by simp [go_sem]⟩) hS ?_
    simp only [Act.put, List.getElem_toArray, List.getElem_cons_succ, List.getElem_cons_zero, List.setIfInBounds_toArray, List.set_cons_zero, List.set_cons_succ]
    refine wpAnyH_done (by kernel_rfl) ?_ _
    have hB := hS.1
    clear hS heq heq2
    go_wp2
    go_ret
    exact ⟨rfl, hB⟩
end Go.Proofs.YtngcdfhmgjmhkabDoor

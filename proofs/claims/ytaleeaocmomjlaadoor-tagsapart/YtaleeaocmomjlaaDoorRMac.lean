/- The walk of blazonref02.Mac: the same keyed digest. -/
import Derived.Test.YtaleeaocmomjlaaDoorRKey
import Derived.Test.YtaleeaocmomjlaaDoorAny
namespace Go.Proofs.YtaleeaocmomjlaaDoor
open Go.RowKit
theorem flat_two' (a b : List (BitVec 8)) : [a, b].flatten = a ++ b := by simp
theorem slice_dig (g : Nat) (w : World) : (Instr.sliceAt 23 (.pointer (some ⟨g, 0, none⟩)) none none none).run Tryd.prog w = .ok (.slice (some ⟨g, 0, none⟩) 32 32) w := by kernel_rfl
set_option maxRecDepth 100000 in
set_option maxHeartbeats 1000000 in
theorem rmac_any (vk vb : Value) (key bb : List (BitVec 8)) (w : World) (hk : Reads w vk key) (hb : Reads w vb bb) (hkl : key.length < 140737488350000) (hl : bb.length < 140737488340000) :
    Calls Tryd.prog 40 #[vk, vb] w fun e w' => e = .returned (.agg (cb (hmac key bb)).toArray) ∧ Below w.heap.size w w' := by
  have HKR : Hid (Reads w vk key) := hk
  have HBR : Hid (Reads w vb bb) := hb
  have HLK : Hid (key.length < 140737488350000) := hkl
  have HL : Hid (bb.length < 140737488340000) := hl
  have HM : Hid (hmac key bb = dig (turnB 92 (kblock key) ++ dig (turnB 54 (kblock key) ++ bb))) := rfl
  have HKB : Hid ((kblock key).length = 64) := len_kblock key
  obtain ⟨ab, cb', rfl, _, _, _⟩ := hb
  clear hk hkl hl
  go_enter Tryd.func40, Tryd.ntmps40
  go_wp2_with fail
  generalize h0 : Obj.cells _ 23 = o32
  have ho : o32 = Obj.cells (cb zb32).toArray 23 := h0.symm
  clear h0
  subst ho
  have hb0 := below_alloc w (Obj.cells (cb zb32).toArray 23)
  refine (rkey_any vk key 54 _ (HKR.out.below hb0) HLK.out).mono ?_
  rintro e w1 ⟨v1, rfl, hr1, hb1⟩
  simp at hb1
  have HS1 : Hid (Below w.heap.size w w1) := hb0.trans (hb1.mono (by omega))
  have HR1 : Hid (Blk w1 w.heap.size (cb zb32) 23) := (Blk.new w (cb zb32) 23).below hb1 (by omega)
  have HV1 : Hid (Reads w1 v1 (turnB 54 (kblock key))) := hr1
  obtain ⟨a1, c1, rfl, _, _, _⟩ := hr1
  clear hb0 hb1
  go_wp2_with fail
  refine (rjoin_any _ [turnB 54 (kblock key), bb] _ (readsL_two HV1.out (HBR.out.below HS1.out)) (by rw [flat_two', List.length_append, len_turnB, HKB.out]; have := HL.out; omega) (by simp)).mono ?_
  rintro e w2 ⟨v2, rfl, hr2, hb2⟩
  have hb2' := (below_alloc w1 (.cells #[.slice a1 (turnB 54 (kblock key)).length c1, .slice ab bb.length cb'] 24)).trans (hb2.mono (by simp))
  have HS2 : Hid (Below w.heap.size w w2) := HS1.out.trans (hb2'.mono HS1.out.size)
  have HR2 : Hid (Blk w2 w.heap.size (cb zb32) 23) := HR1.out.below hb2' HR1.out.lt
  obtain ⟨m, HMM⟩ : ∃ x, Hid (x = turnB 54 (kblock key) ++ bb) := ⟨_, rfl⟩
  rw [flat_two', ← HMM.out] at hr2
  have HLm : Hid (m.length < 140737488350000) := by show _ < _; rw [HMM.out, List.length_append, len_turnB, HKB.out]; have := HL.out; omega
  rw [← HMM.out] at HM
  have HV2 : Hid (Reads w2 v2 m) := hr2
  clear hr2 hb2 hb2' HS1 HR1 HV1
  go_wp2_with fail
  refine (rsum_any _ m _ HV2.out HLm.out).mono ?_
  rintro e w3 ⟨rfl, hb3⟩
  obtain ⟨dd, HD⟩ : ∃ x, Hid (x = dig m) := ⟨_, rfl⟩
  have HDL : Hid (dd.length = 32) := by show _ = _; rw [HD.out]; exact len_dig' _
  rw [← HD.out]
  rw [← HD.out] at HM
  have HS3 : Hid (Below w.heap.size w w3) := HS2.out.trans (hb3.mono HS2.out.size)
  have HR3 : Hid (Blk w3 w.heap.size (cb zb32) 23) := HR2.out.below hb3 HR2.out.lt
  clear hb3 HS2 HR2 HV2 HD HMM HLm
  obtain ⟨ds, HDS⟩ : ∃ x, Hid (x = cb dd) := ⟨_, rfl⟩
  have HLd : Hid (ds.length = 32) := by show _ = _; rw [HDS.out, cb_len, HDL.out]
  have HZ : Hid ((Tryd.prog.info? 23).map (·.size) = some ds.length) := by show _ = _; rw [HLd.out]; exact Tryd.info23
  have H1 : Hid (∀ v ∈ ds, v.oneCell' = true) := by show ∀ _, _; rw [HDS.out]; exact cb_one _
  rw [← HDS.out]
  go_wp2_with (refine wpList_store_mid rfl 23 _ _ rfl _ 0 ds.toArray rfl rfl ?_ (by simpa using HZ.out) (all_oneCell_toArray H1.out) ?_; exact Blk.there (Blk.new_at rfl (cb zb32) _) _ _ (by rw [List.size_toArray, HLd.out, cb_len, len_zb32]; omega); refine Hid.out ?_)
  generalize h0 : Obj.cells _ 23 = o32
  have ho : o32 = Obj.cells (cb zb32).toArray 23 := h0.symm
  clear h0
  subst ho
  have b4 : Below w3.heap.size w3 ((w3.alloc (.cells (cb zb32).toArray 23)).setCells w3.heap.size 0 ds) := Below.setCells _ (Nat.le_refl _) _ _ _ (below_alloc _ _)
  have HD4 : Hid (Blk ((w3.alloc (.cells (cb zb32).toArray 23)).setCells w3.heap.size 0 ds) w3.heap.size (cb dd) 23) := by
    rw [← HDS.out]
    exact (Blk.new w3 (cb zb32) 23).whole ds (by rw [HLd.out, cb_len, len_zb32])
  generalize World.setCells _ _ _ _ = w4 at *
  have HR4 : Hid (Blk w4 w.heap.size (cb zb32) 23) := HR3.out.below b4 HR3.out.lt
  have HS4 : Hid (Below w.heap.size w w4) := HS3.out.trans (b4.mono HS3.out.size)
  generalize w3.heap.size = gd at *
  clear b4 HR3 HS3 HDS HLd HZ H1
  unfold Hid
  go_wp2_with fail
  refine wp_region_any (by kernel_rfl) ?_
  change wpAny _ _ _ _ _ _ _ (World.drew _)
  refine wpAny_take (i := 0) (v := vk) rfl (by kernel_rfl) (by kernel_rfl) (by kernel_rfl) (fun _ _ _ h => h) (Or.inl ⟨by rfl, fun wx => by simp [go_sem]⟩) ?_
  simp only [Act.put, List.getElem_toArray, List.getElem_cons_zero, List.setIfInBounds_toArray, List.set_cons_zero, List.set_cons_succ]
  refine wpAny_take (i := 2) (v := .slice (some ⟨gd, 0, none⟩) 32 32) rfl (by kernel_rfl) (by kernel_rfl) (by kernel_rfl) (fun _ _ _ h => h) (Or.inl ⟨by rfl, fun wx => by simp [execOp, Act.eval, slice_dig]⟩) ?_
  simp only [Act.put, List.getElem_toArray, List.getElem_cons_succ, List.getElem_cons_zero, List.setIfInBounds_toArray, List.set_cons_zero, List.set_cons_succ]
  have HR5 : Hid (Blk w4.drew w.heap.size (cb zb32) 23) := HR4.out.drew
  have HD5 : Hid (Blk w4.drew gd (cb dd) 23) := HD4.out.drew
  have HS5 : Hid (Below w.heap.size w w4.drew) := HS4.out.drew
  generalize w4.drew = w5 at *
  clear HR4 HD4 HS4
  refine wpAny_enter 1 (by kernel_rfl) rfl (by rfl) (f := 51) (args := #[vk, .int .u8 92]) (by simp [go_sem]) (rkey_any vk key 92 w5 (HKR.out.below HS5.out) HLK.out) ?_
  rintro e w6 ⟨v6, rfl, hr6, hb6⟩
  refine ⟨_, rfl, ?_⟩
  simp only [Act.put, List.getElem_toArray, List.getElem_cons_succ, List.getElem_cons_zero, List.setIfInBounds_toArray, List.set_cons_zero, List.set_cons_succ]
  have HV6 : Hid (Reads w6 v6 (turnB 92 (kblock key))) := hr6
  obtain ⟨a6, c6, rfl, _, _, _⟩ := hr6
  have HR6 : Hid (Blk w6 w.heap.size (cb zb32) 23) := HR5.out.below hb6 HR5.out.lt
  have HD6 : Hid (Blk w6 gd (cb dd) 23) := HD5.out.below hb6 HD5.out.lt
  have HS6 : Hid (Below w.heap.size w w6) := HS5.out.trans (hb6.mono HS5.out.size)
  clear hb6 HR5 HD5 HS5
  have hrd : Reads w6 (.slice (some ⟨gd, 0, none⟩) 32 32) dd := HD6.out.reads HDL.out.symm (by have := HDL.out; omega)
  refine wpAny_step 3 (.slice (some ⟨w6.heap.size, 0, none⟩) 2 2) (w6.alloc (.cells #[.slice a6 (turnB 92 (kblock key)).length c6, .slice (some ⟨gd, 0, none⟩) 32 32] 24)) (by kernel_rfl) rfl (by rfl) (by simp [go_sem]) ?_
  simp only [Act.put, List.getElem_toArray, List.getElem_cons_succ, List.getElem_cons_zero, List.setIfInBounds_toArray, List.set_cons_zero, List.set_cons_succ]
  have hb7 := below_alloc w6 (.cells #[.slice a6 (turnB 92 (kblock key)).length c6, .slice (some ⟨gd, 0, none⟩) 32 32] 24)
  refine wpAny_enter 4 (by kernel_rfl) rfl (by rfl) (f := 46) (args := #[.slice (some ⟨w6.heap.size, 0, none⟩) 2 2]) (by simp [go_sem]) (rjoin_any _ [turnB 92 (kblock key), dd] _ (readsL_two HV6.out hrd) (by rw [flat_two', List.length_append, len_turnB, HKB.out, HDL.out]; omega) (by simp)) ?_
  rintro e w8 ⟨v8, rfl, hr8, hb8⟩
  refine ⟨_, rfl, ?_⟩
  simp only [Act.put, List.getElem_toArray, List.getElem_cons_succ, List.getElem_cons_zero, List.setIfInBounds_toArray, List.set_cons_zero, List.set_cons_succ]
  have hb8' := hb7.trans (hb8.mono (by simp))
  have HR8 : Hid (Blk w8 w.heap.size (cb zb32) 23) := HR6.out.below hb8' HR6.out.lt
  have HS8 : Hid (Below w.heap.size w w8) := HS6.out.trans (hb8'.mono HS6.out.size)
  rw [flat_two'] at hr8
  clear hb8 hb8' hb7 HR6 HD6 HS6 hrd HV6
  refine wpAny_enter 5 (by kernel_rfl) rfl (by rfl) (f := 33) (args := #[v8]) (by simp [go_sem]) (rsum_any _ (turnB 92 (kblock key) ++ dd) _ hr8 (by rw [List.length_append, len_turnB, HKB.out, HDL.out]; omega)) ?_
  rintro e w9 ⟨rfl, hb9⟩
  refine ⟨_, rfl, ?_⟩
  rw [← HM.out]
  obtain ⟨es, HES⟩ : ∃ x, Hid (x = cb (hmac key bb)) := ⟨_, rfl⟩
  have HLe : Hid (es.length = 32) := by show _ = _; rw [HES.out, cb_len, len_hmac]
  have HZe : Hid ((Tryd.prog.info? 23).map (·.size) = some es.length) := by show _ = _; rw [HLe.out]; exact Tryd.info23
  have H1e : Hid (∀ v ∈ es, v.oneCell' = true) := by show ∀ _, _; rw [HES.out]; exact cb_one _
  have HR9 : Hid (Blk w9 w.heap.size (cb zb32) 23) := HR8.out.below hb9 HR8.out.lt
  have HS9 : Hid (Below w.heap.size w w9) := HS8.out.trans (hb9.mono HS8.out.size)
  clear hb9 HR8 HS8 hr8
  rw [← HES.out]
  simp only [Act.put, List.getElem_toArray, List.getElem_cons_succ, List.getElem_cons_zero, List.setIfInBounds_toArray, List.set_cons_zero, List.set_cons_succ]
  refine wpAny_store 6 23 _ _ (by kernel_rfl) rfl (by rfl) rfl w.heap.size 0 es.toArray rfl rfl (HR9.out.there 0 _ (by rw [List.size_toArray, HLe.out, cb_len, len_zb32]; omega)) (by simpa using HZe.out) (all_oneCell_toArray H1e.out) ?_
  refine wpAny_done (by kernel_rfl) ?_ _
  have hB := HR9.out.whole es (by rw [HLe.out, cb_len, len_zb32])
  have hBe := Below.setCells w.heap.size (Nat.le_refl _) es 0 _ HS9.out
  generalize World.setCells _ _ _ _ = w10 at *
  go_wp2
  refine bodyPost_ret (v := .agg es.toArray) (results_cell_row (by rfl) _ _ w.heap.size 23 _ (0, 0) _ rfl hB Tryd.underlying23 rfl (by simpa using HZe.out)) rfl ⟨by rw [HES.out], hBe⟩
end Go.Proofs.YtaleeaocmomjlaaDoor

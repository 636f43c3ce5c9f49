/- The walk of mac.Check: is a digest the keyed digest of the parts? -/
import Derived.Test.YtngcdfhmgjmhkabDoorRMac
import Derived.Test.YtngcdfhmgjmhkabDoorMWorks
namespace Go.Proofs.YtngcdfhmgjmhkabDoor
open Go.RowKit
set_option maxRecDepth 100000 in
set_option maxHeartbeats 1000000 in
theorem check_any (vk vp : Value) (dg key : List (BitVec 8)) (ls : List (List (BitVec 8))) (w : World) (hd : dg.length = 32) (hK : KOk w) (hk : Reads w vk key) (hp : ReadsL w vp ls) (hkl : key.length < 2305843009213693952) (hl : ls.flatten.length < 1152921504606846976) (hn : ls.length < 4611686018427387904) :
    Calls Tryd.prog 14 #[vk, .agg (cb dg).toArray, vp] w fun e w' => e = .returned (.bool (decide (dg = hmac key ls.flatten))) ∧ Below w.heap.size w w' := by
  have HK : Hid (KOk w) := hK
  have HKR : Hid (Reads w vk key) := hk
  have HP : Hid (ReadsL w vp ls) := hp
  have HLs : Hid (key.length < 2305843009213693952 ∧ ls.flatten.length < 1152921504606846976 ∧ ls.length < 4611686018427387904) := ⟨hkl, hl, hn⟩
  have HDL : Hid (dg.length = 32) := hd
  clear hK hk hp hkl hl hn hd
  obtain ⟨cs, HC⟩ : ∃ x, Hid (x = cb dg) := ⟨_, rfl⟩
  rw [← HC.out]
  go_enter Tryd.func14, Tryd.ntmps14
  go_wp2_with fail
  have b0 := below_alloc w (Obj.cells cs.toArray 26)
  have hD0 : Blk (w.alloc (Obj.cells cs.toArray 26)) w.heap.size (cb dg) 26 := by rw [HC.out]; exact Blk.new w (cb dg) 26
  refine (mac_any _ _ key ls _ (HK.out.below b0 HK.out.lt) (HKR.out.below b0) (HP.out.below b0) HLs.out.1 HLs.out.2.1 HLs.out.2.2).mono ?_
  rintro e w1 ⟨rfl, hb1⟩
  have HS1 : Hid (Below w.heap.size w w1) := b0.trans (hb1.mono (by simp))
  have HD1 : Hid (Blk w1 w.heap.size (cb dg) 26) := hD0.below hb1 hD0.lt
  clear b0 hD0 hb1 HP HLs HKR
  obtain ⟨dd, HD⟩ : ∃ x, Hid (x = hmac key ls.flatten) := ⟨_, rfl⟩
  have HEL : Hid (dd.length = 32) := by show _ = _; rw [HD.out]; exact len_hmac _ _
  rw [← HD.out]
  obtain ⟨ds, HDS⟩ : ∃ x, Hid (x = cb dd) := ⟨_, rfl⟩
  have HLd : Hid (ds.length = 32) := by show _ = _; rw [HDS.out, cb_len, HEL.out]
  have HZ : Hid ((Tryd.prog.info? 26).map (·.size) = some ds.length) := by show _ = _; rw [HLd.out]; exact Tryd.info26
  have H1 : Hid (∀ v ∈ ds, v.oneCell' = true) := by show ∀ _, _; rw [HDS.out]; exact cb_one _
  rw [← HDS.out]
  go_wp2_with (refine wpList_store_mid rfl 26 _ _ rfl _ 0 ds.toArray rfl rfl ?_ (by simpa using HZ.out) (all_oneCell_toArray H1.out) ?_; exact Blk.there (Blk.new_at rfl (cb zb32) _) _ _ (by rw [List.size_toArray, HLd.out, cb_len, len_zb32]; omega); refine Hid.out ?_)
  generalize h0 : Obj.cells _ 26 = o32
  have ho : o32 = Obj.cells (cb zb32).toArray 26 := h0.symm
  clear h0
  subst ho
  have b4 : Below w1.heap.size w1 ((w1.alloc (.cells (cb zb32).toArray 26)).setCells w1.heap.size 0 ds) := Below.setCells _ (Nat.le_refl _) _ _ _ (below_alloc _ _)
  have HD4 : Hid (Blk ((w1.alloc (.cells (cb zb32).toArray 26)).setCells w1.heap.size 0 ds) w1.heap.size (cb dd) 26) := by
    rw [← HDS.out]
    exact (Blk.new w1 (cb zb32) 26).whole ds (by rw [HLd.out, cb_len, len_zb32])
  generalize World.setCells _ _ _ _ = w4 at *
  have HG4 : Hid (Blk w4 w.heap.size (cb dg) 26) := HD1.out.below b4 HD1.out.lt
  have HS4 : Hid (Below w.heap.size w w4) := HS1.out.trans (b4.mono HS1.out.size)
  generalize w1.heap.size = gd at *
  clear b4 HS1 HD1 HLd HZ H1 HDS
  unfold Hid
  go_wp2_with fail
  refine wp_region_any (by kernel_rfl) ?_
  change wpAny _ _ _ _ _ _ _ (World.drew _)
  refine wpAny_take (i := 0) (v := .slice (some ⟨w.heap.size, 0, none⟩) 32 32) rfl (by kernel_rfl) (by kernel_rfl) (by kernel_rfl) (fun _ _ _ h => h) (Or.inl ⟨by rfl, fun wx => by simp [execOp, Act.eval, slice_dig]⟩) ?_
  simp only [Act.put, List.getElem_toArray, List.getElem_cons_zero, List.setIfInBounds_toArray, List.set_cons_zero, List.set_cons_succ]
  refine wpAny_take (i := 1) (v := .slice (some ⟨gd, 0, none⟩) 32 32) rfl (by kernel_rfl) (by kernel_rfl) (by kernel_rfl) (fun _ _ _ h => h) (Or.inl ⟨by rfl, fun wx => by simp [execOp, Act.eval, slice_dig]⟩) ?_
  simp only [Act.put, List.getElem_toArray, List.getElem_cons_succ, List.getElem_cons_zero, List.setIfInBounds_toArray, List.set_cons_zero, List.set_cons_succ]
  have HG5 : Hid (Blk w4.drew w.heap.size (cb dg) 26) := HG4.out.drew
  have HD5 : Hid (Blk w4.drew gd (cb dd) 26) := HD4.out.drew
  have HS5 : Hid (Below w.heap.size w w4.drew) := HS4.out.drew
  generalize w4.drew = w5 at *
  clear HG4 HD4 HS4
  refine wpAny_enter 2 (by kernel_rfl) rfl (by rfl) (f := 12) (args := #[.slice (some ⟨w.heap.size, 0, none⟩) 32 32, .slice (some ⟨gd, 0, none⟩) 32 32]) (by simp [go_sem]) (msame_any _ _ dg dd w5 (HG5.out.reads HDL.out.symm (by have := HDL.out; omega)) (HD5.out.reads HEL.out.symm (by have := HEL.out; omega)) (by have := HDL.out; omega) (by have := HEL.out; omega)) ?_
  rintro e w6 ⟨rfl, rfl⟩
  refine ⟨_, rfl, ?_⟩
  obtain ⟨p, HPP⟩ : ∃ x, Hid (x = decide (dg = dd)) := ⟨_, rfl⟩
  rw [← HPP.out]
  simp only [Act.put, List.getElem_toArray, List.getElem_cons_succ, List.getElem_cons_zero, List.setIfInBounds_toArray, List.set_cons_zero, List.set_cons_succ]
  refine wpAny_take (i := 3) (v := .bool p) rfl (by kernel_rfl) (by kernel_rfl) (by kernel_rfl) (fun _ _ _ h => h) (Or.inl ⟨by rfl, fun wx => by simp [go_sem]⟩) ?_
  simp only [Act.put, List.getElem_toArray, List.getElem_cons_succ, List.getElem_cons_zero, List.setIfInBounds_toArray, List.set_cons_zero, List.set_cons_succ]
  refine wpAny_done (by kernel_rfl) ?_ _
  go_wp2
  go_ret
  exact ⟨by rw [← HD.out, ← HPP.out]; rfl, HS5.out⟩
end Go.Proofs.YtngcdfhmgjmhkabDoor

/- The walks of LeafBytes, NodeBytes, ValueBytes and RootBytes, of tags and of blazonref03. -/
import Derived.Test.YtaleeaocmomjlaaDoorFlow
namespace Go.Proofs.YtaleeaocmomjlaaDoor
open Go.RowKit
/-- what is hashed of a leaf, and of a tree of two: a sign and two digests -/
def pairB (c : BitVec 8) (x y : List (BitVec 8)) : List (BitVec 8) := c :: (x ++ y)
/-- what is hashed of a binding -/
def valueB (x nm : List (BitVec 8)) (sr : Nat) (ky : List (BitVec 8)) : List (BitVec 8) := 86 :: (x ++ (num8 nm.length ++ (nm ++ (num8 sr ++ ky))))
/-- what is hashed of a root -/
def rootB (n : Nat) (x y z : List (BitVec 8)) : List (BitVec 8) := 82 :: (num8 n ++ (x ++ (y ++ z)))
theorem reads_drew {w : World} {v : Value} {bs : List (BitVec 8)} (h : Reads w v bs) : Reads w.drew v bs := h
theorem root_x (x y z : List (BitVec 8)) (v : Value) : ∀ j, j < x.length → (v :: (cb x ++ (cb y ++ cb z)))[1 + j]? = some (.int .u8 ((x.getD j 0).toNat : Int)) := by
  intro j hj
  rw [show 1 + j = j + 1 by omega, List.getElem?_cons_succ, List.getElem?_append_left (by rw [cb_len]; exact hj), cb_get _ _ hj]
theorem root_y (x y z : List (BitVec 8)) (v : Value) (hx : x.length = 32) : ∀ j, j < y.length → (v :: (cb x ++ (cb y ++ cb z)))[33 + j]? = some (.int .u8 ((y.getD j 0).toNat : Int)) := by
  intro j hj
  rw [show 33 + j = (32 + j) + 1 by omega, List.getElem?_cons_succ, List.getElem?_append_right (by rw [cb_len]; omega), cb_len, hx, show 32 + j - 32 = j by omega, List.getElem?_append_left (by rw [cb_len]; exact hj), cb_get _ _ hj]
theorem root_z (x y z : List (BitVec 8)) (v : Value) (hx : x.length = 32) (hy : y.length = 32) : ∀ j, j < z.length → (v :: (cb x ++ (cb y ++ cb z)))[65 + j]? = some (.int .u8 ((z.getD j 0).toNat : Int)) := by
  intro j hj
  rw [show 65 + j = (64 + j) + 1 by omega, List.getElem?_cons_succ, List.getElem?_append_right (by rw [cb_len]; omega), cb_len, hx, List.getElem?_append_right (by rw [cb_len]; omega), cb_len, hy, show 64 + j - 32 - 32 = j by omega, cb_get _ _ hj]
theorem cell_drew {w : World} {p : Addr} {v : Option Value} (h : w.cell? p = v) : w.drew.cell? p = v := h
set_option maxHeartbeats 400000 in
theorem tLeaf_any (x y : List (BitVec 8)) (hx : x.length = 32) (hy : y.length = 32) (w : World) : Calls Tryd.prog 11 #[.agg (cb x).toArray, .agg (cb y).toArray] w fun e w' => ∃ v, e = .returned v ∧ Reads w' v (pairB 76 x y) ∧ Below w.heap.size w w' := by
  have HN : Hid (x.length = 32 ∧ y.length = 32) := ⟨hx, hy⟩
  clear hx hy
  go_enter Tryd.func11, Tryd.ntmps11
  go_wp2_with fail
  have hB0 : Below w.heap.size w ((w.alloc (.cells (cb x).toArray 23)).alloc (.cells (cb y).toArray 23)) := (below_alloc _ _).trans ((below_alloc _ _).mono (by simp))
  have rx : Reads ((w.alloc (.cells (cb x).toArray 23)).alloc (.cells (cb y).toArray 23)) (.slice (some ⟨w.heap.size, 0, none⟩) 32 32) x := ((Blk.new w (cb x) 23).alloc _).reads HN.out.1.symm (by have := HN.out; omega)
  have ry : Reads ((w.alloc (.cells (cb x).toArray 23)).alloc (.cells (cb y).toArray 23)) (.slice (some ⟨w.heap.size + 1, 0, none⟩) 32 32) y := (Blk.new_at (by simp) (cb y) 23).reads HN.out.2.symm (by have := HN.out; omega)
  generalize ((w.alloc (.cells (cb x).toArray 23)).alloc (.cells (cb y).toArray 23)) = w0 at *
  refine wp_region_held_drew (S := Over w0.drew) (by kernel_rfl) (Over.refl _) ?_
  intro hS
  replace rx := reads_drew rx
  replace ry := reads_drew ry
  have HB1 : Hid (Below w.heap.size w w0.drew) := hB0.drew
  clear hB0
  generalize w0.drew = w1 at *
  refine wpAnyH_take (i := 0) (v := .slice (some ⟨w.heap.size, 0, none⟩) 32 32) rfl (by kernel_rfl) (by kernel_rfl) (by kernel_rfl) (fun _ _ _ h => h) (Or.inl ⟨by rfl, fun wx _ => by simp [execOp, Act.eval, slice_dig]⟩) hS ?_
  simp only [Act.put, List.getElem_toArray, List.getElem_cons_zero, List.setIfInBounds_toArray, List.set_cons_zero, List.set_cons_succ]
  refine wpAnyH_take (i := 1) (v := .slice (some ⟨w.heap.size + 1, 0, none⟩) 32 32) rfl (by kernel_rfl) (by kernel_rfl) (by kernel_rfl) (fun _ _ _ h => h) (Or.inl ⟨by rfl, fun wx _ => by simp [execOp, Act.eval, slice_dig]⟩) hS ?_
  simp only [Act.put, List.getElem_toArray, List.getElem_cons_succ, List.getElem_cons_zero, List.setIfInBounds_toArray, List.set_cons_zero, List.set_cons_succ]
  have hbA := below_alloc w1 (.cells #[.slice (some ⟨w.heap.size, 0, none⟩) 32 32, .slice (some ⟨w.heap.size + 1, 0, none⟩) 32 32] 24)
  have r1 := readsL_two (rx.below hS) (ry.below hS)
  have hS1 : Over w1 (w1.alloc (.cells #[.slice (some ⟨w.heap.size, 0, none⟩) 32 32, .slice (some ⟨w.heap.size + 1, 0, none⟩) 32 32] 24)) := hS.more hbA
  refine wpAnyH_step 2 (.slice (some ⟨w1.heap.size, 0, none⟩) 2 2) (w1.alloc (.cells #[.slice (some ⟨w.heap.size, 0, none⟩) 32 32, .slice (some ⟨w.heap.size + 1, 0, none⟩) 32 32] 24)) (by kernel_rfl) rfl (by rfl) (by simp [go_sem]) hS1 ?_
  simp only [Act.put, List.getElem_toArray, List.getElem_cons_succ, List.getElem_cons_zero, List.setIfInBounds_toArray, List.set_cons_zero, List.set_cons_succ]
  clear hbA hS
  have hS := hS1
  clear hS1
  generalize (w1.alloc (.cells #[.slice (some ⟨w.heap.size, 0, none⟩) 32 32, .slice (some ⟨w.heap.size + 1, 0, none⟩) 32 32] 24)) = w2 at *
  generalize w1.heap.size = n1 at *
  refine wpAnyH_enter 3 (by kernel_rfl) rfl (by rfl) (f := 34) (args := #[.int .u8 76, .slice (some ⟨n1, 0, none⟩) 2 2]) (by simp [go_sem]) (tagged_any 76 _ _ _ r1 (by simp only [fl2]; have := HN.out; omega) (by simp)) ?_
  rintro e w3 ⟨v2, rfl, r2, hbA⟩
  have hS2 : Over w1 w3 := hS.more hbA
  refine ⟨_, rfl, hS2, ?_⟩
  clear hS
  have hS := hS2
  clear hS2
  obtain ⟨l2, HL2⟩ : ∃ zz, Hid (zz = (76 : BitVec 8) :: [x, y].flatten) := ⟨_, rfl⟩
  rw [← HL2.out] at r2
  obtain ⟨ad2, cp2, rfl, _, _, _⟩ := id r2
  simp only [Act.put, List.getElem_toArray, List.getElem_cons_succ, List.getElem_cons_zero, List.setIfInBounds_toArray, List.set_cons_zero, List.set_cons_succ]
  replace r1 := r1.below hbA
  clear hbA
  refine wpAnyH_take (i := 4) (v := .slice ad2 l2.length cp2) rfl (by kernel_rfl) (by kernel_rfl) (by kernel_rfl) (fun _ _ _ h => h) (Or.inl ⟨by rfl, fun wx _ => by simp [go_sem]⟩) hS ?_
  simp only [Act.put, List.getElem_toArray, List.getElem_cons_succ, List.getElem_cons_zero, List.setIfInBounds_toArray, List.set_cons_zero, List.set_cons_succ]
  refine wpAnyH_done (by kernel_rfl) ?_ _
  have E : Hid (l2 = pairB 76 x y) := by show _ = _; rw [HL2.out]; simp [pairB]
  have HV : Hid (Reads w3 (.slice ad2 l2.length cp2) l2) := r2
  have HB : Hid (Below w.heap.size w w3) := hS.after HB1.out
  clear hS r1 r2
  go_wp2
  go_ret
  exact ⟨_, rfl, by rw [← E.out]; exact HV.out, HB.out⟩
set_option maxHeartbeats 400000 in
theorem tNode_any (x y : List (BitVec 8)) (hx : x.length = 32) (hy : y.length = 32) (w : World) : Calls Tryd.prog 13 #[.agg (cb x).toArray, .agg (cb y).toArray] w fun e w' => ∃ v, e = .returned v ∧ Reads w' v (pairB 78 x y) ∧ Below w.heap.size w w' := by
  have HN : Hid (x.length = 32 ∧ y.length = 32) := ⟨hx, hy⟩
  clear hx hy
  go_enter Tryd.func13, Tryd.ntmps13
  go_wp2_with fail
  have hB0 : Below w.heap.size w ((w.alloc (.cells (cb x).toArray 23)).alloc (.cells (cb y).toArray 23)) := (below_alloc _ _).trans ((below_alloc _ _).mono (by simp))
  have rx : Reads ((w.alloc (.cells (cb x).toArray 23)).alloc (.cells (cb y).toArray 23)) (.slice (some ⟨w.heap.size, 0, none⟩) 32 32) x := ((Blk.new w (cb x) 23).alloc _).reads HN.out.1.symm (by have := HN.out; omega)
  have ry : Reads ((w.alloc (.cells (cb x).toArray 23)).alloc (.cells (cb y).toArray 23)) (.slice (some ⟨w.heap.size + 1, 0, none⟩) 32 32) y := (Blk.new_at (by simp) (cb y) 23).reads HN.out.2.symm (by have := HN.out; omega)
  generalize ((w.alloc (.cells (cb x).toArray 23)).alloc (.cells (cb y).toArray 23)) = w0 at *
  refine wp_region_held_drew (S := Over w0.drew) (by kernel_rfl) (Over.refl _) ?_
  intro hS
  replace rx := reads_drew rx
  replace ry := reads_drew ry
  have HB1 : Hid (Below w.heap.size w w0.drew) := hB0.drew
  clear hB0
  generalize w0.drew = w1 at *
  refine wpAnyH_take (i := 0) (v := .slice (some ⟨w.heap.size, 0, none⟩) 32 32) rfl (by kernel_rfl) (by kernel_rfl) (by kernel_rfl) (fun _ _ _ h => h) (Or.inl ⟨by rfl, fun wx _ => by simp [execOp, Act.eval, slice_dig]⟩) hS ?_
  simp only [Act.put, List.getElem_toArray, List.getElem_cons_zero, List.setIfInBounds_toArray, List.set_cons_zero, List.set_cons_succ]
  refine wpAnyH_take (i := 1) (v := .slice (some ⟨w.heap.size + 1, 0, none⟩) 32 32) rfl (by kernel_rfl) (by kernel_rfl) (by kernel_rfl) (fun _ _ _ h => h) (Or.inl ⟨by rfl, fun wx _ => by simp [execOp, Act.eval, slice_dig]⟩) hS ?_
  simp only [Act.put, List.getElem_toArray, List.getElem_cons_succ, List.getElem_cons_zero, List.setIfInBounds_toArray, List.set_cons_zero, List.set_cons_succ]
  have hbA := below_alloc w1 (.cells #[.slice (some ⟨w.heap.size, 0, none⟩) 32 32, .slice (some ⟨w.heap.size + 1, 0, none⟩) 32 32] 24)
  have r1 := readsL_two (rx.below hS) (ry.below hS)
  have hS1 : Over w1 (w1.alloc (.cells #[.slice (some ⟨w.heap.size, 0, none⟩) 32 32, .slice (some ⟨w.heap.size + 1, 0, none⟩) 32 32] 24)) := hS.more hbA
  refine wpAnyH_step 2 (.slice (some ⟨w1.heap.size, 0, none⟩) 2 2) (w1.alloc (.cells #[.slice (some ⟨w.heap.size, 0, none⟩) 32 32, .slice (some ⟨w.heap.size + 1, 0, none⟩) 32 32] 24)) (by kernel_rfl) rfl (by rfl) (by simp [go_sem]) hS1 ?_
  simp only [Act.put, List.getElem_toArray, List.getElem_cons_succ, List.getElem_cons_zero, List.setIfInBounds_toArray, List.set_cons_zero, List.set_cons_succ]
  clear hbA hS
  have hS := hS1
  clear hS1
  generalize (w1.alloc (.cells #[.slice (some ⟨w.heap.size, 0, none⟩) 32 32, .slice (some ⟨w.heap.size + 1, 0, none⟩) 32 32] 24)) = w2 at *
  generalize w1.heap.size = n1 at *
  refine wpAnyH_enter 3 (by kernel_rfl) rfl (by rfl) (f := 34) (args := #[.int .u8 78, .slice (some ⟨n1, 0, none⟩) 2 2]) (by simp [go_sem]) (tagged_any 78 _ _ _ r1 (by simp only [fl2]; have := HN.out; omega) (by simp)) ?_
  rintro e w3 ⟨v2, rfl, r2, hbA⟩
  have hS2 : Over w1 w3 := hS.more hbA
  refine ⟨_, rfl, hS2, ?_⟩
  clear hS
  have hS := hS2
  clear hS2
  obtain ⟨l2, HL2⟩ : ∃ zz, Hid (zz = (78 : BitVec 8) :: [x, y].flatten) := ⟨_, rfl⟩
  rw [← HL2.out] at r2
  obtain ⟨ad2, cp2, rfl, _, _, _⟩ := id r2
  simp only [Act.put, List.getElem_toArray, List.getElem_cons_succ, List.getElem_cons_zero, List.setIfInBounds_toArray, List.set_cons_zero, List.set_cons_succ]
  replace r1 := r1.below hbA
  clear hbA
  refine wpAnyH_take (i := 4) (v := .slice ad2 l2.length cp2) rfl (by kernel_rfl) (by kernel_rfl) (by kernel_rfl) (fun _ _ _ h => h) (Or.inl ⟨by rfl, fun wx _ => by simp [go_sem]⟩) hS ?_
  simp only [Act.put, List.getElem_toArray, List.getElem_cons_succ, List.getElem_cons_zero, List.setIfInBounds_toArray, List.set_cons_zero, List.set_cons_succ]
  refine wpAnyH_done (by kernel_rfl) ?_ _
  have E : Hid (l2 = pairB 78 x y) := by show _ = _; rw [HL2.out]; simp [pairB]
  have HV : Hid (Reads w3 (.slice ad2 l2.length cp2) l2) := r2
  have HB : Hid (Below w.heap.size w w3) := hS.after HB1.out
  clear hS r1 r2
  go_wp2
  go_ret
  exact ⟨_, rfl, by rw [← E.out]; exact HV.out, HB.out⟩
set_option maxHeartbeats 400000 in
theorem rLeaf_any (x y : List (BitVec 8)) (hx : x.length = 32) (hy : y.length = 32) (w : World) : Calls Tryd.prog 12 #[.agg (cb x).toArray, .agg (cb y).toArray] w fun e w' => ∃ v, e = .returned v ∧ Reads w' v (pairB 76 x y) ∧ Below w.heap.size w w' := by
  have HN : Hid (x.length = 32 ∧ y.length = 32) := ⟨hx, hy⟩
  clear hx hy
  go_enter Tryd.func12, Tryd.ntmps12
  go_wp2_with fail
  have hB0 : Below w.heap.size w ((w.alloc (.cells (cb x).toArray 23)).alloc (.cells (cb y).toArray 23)) := (below_alloc _ _).trans ((below_alloc _ _).mono (by simp))
  have rx : Reads ((w.alloc (.cells (cb x).toArray 23)).alloc (.cells (cb y).toArray 23)) (.slice (some ⟨w.heap.size, 0, none⟩) 32 32) x := ((Blk.new w (cb x) 23).alloc _).reads HN.out.1.symm (by have := HN.out; omega)
  have ry : Reads ((w.alloc (.cells (cb x).toArray 23)).alloc (.cells (cb y).toArray 23)) (.slice (some ⟨w.heap.size + 1, 0, none⟩) 32 32) y := (Blk.new_at (by simp) (cb y) 23).reads HN.out.2.symm (by have := HN.out; omega)
  generalize ((w.alloc (.cells (cb x).toArray 23)).alloc (.cells (cb y).toArray 23)) = w0 at *
  refine wp_region_held_drew (S := Over w0.drew) (by kernel_rfl) (Over.refl _) ?_
  intro hS
  replace rx := reads_drew rx
  replace ry := reads_drew ry
  have HB1 : Hid (Below w.heap.size w w0.drew) := hB0.drew
  clear hB0
  generalize w0.drew = w1 at *
  refine wpAnyH_take (i := 0) (v := .slice (some ⟨w.heap.size, 0, none⟩) 32 32) rfl (by kernel_rfl) (by kernel_rfl) (by kernel_rfl) (fun _ _ _ h => h) (Or.inl ⟨by rfl, fun wx _ => by simp [execOp, Act.eval, slice_dig]⟩) hS ?_
  simp only [Act.put, List.getElem_toArray, List.getElem_cons_zero, List.setIfInBounds_toArray, List.set_cons_zero, List.set_cons_succ]
  refine wpAnyH_take (i := 1) (v := .slice (some ⟨w.heap.size + 1, 0, none⟩) 32 32) rfl (by kernel_rfl) (by kernel_rfl) (by kernel_rfl) (fun _ _ _ h => h) (Or.inl ⟨by rfl, fun wx _ => by simp [execOp, Act.eval, slice_dig]⟩) hS ?_
  simp only [Act.put, List.getElem_toArray, List.getElem_cons_succ, List.getElem_cons_zero, List.setIfInBounds_toArray, List.set_cons_zero, List.set_cons_succ]
  have hbA := below_alloc w1 (.cells #[.slice (some ⟨w.heap.size, 0, none⟩) 32 32, .slice (some ⟨w.heap.size + 1, 0, none⟩) 32 32] 24)
  have r1 := readsL_two (rx.below hS) (ry.below hS)
  have hS1 : Over w1 (w1.alloc (.cells #[.slice (some ⟨w.heap.size, 0, none⟩) 32 32, .slice (some ⟨w.heap.size + 1, 0, none⟩) 32 32] 24)) := hS.more hbA
  refine wpAnyH_step 2 (.slice (some ⟨w1.heap.size, 0, none⟩) 2 2) (w1.alloc (.cells #[.slice (some ⟨w.heap.size, 0, none⟩) 32 32, .slice (some ⟨w.heap.size + 1, 0, none⟩) 32 32] 24)) (by kernel_rfl) rfl (by rfl) (by simp [go_sem]) hS1 ?_
  simp only [Act.put, List.getElem_toArray, List.getElem_cons_succ, List.getElem_cons_zero, List.setIfInBounds_toArray, List.set_cons_zero, List.set_cons_succ]
  clear hbA hS
  have hS := hS1
  clear hS1
  generalize (w1.alloc (.cells #[.slice (some ⟨w.heap.size, 0, none⟩) 32 32, .slice (some ⟨w.heap.size + 1, 0, none⟩) 32 32] 24)) = w2 at *
  generalize w1.heap.size = n1 at *
  refine wpAnyH_enter 3 (by kernel_rfl) rfl (by rfl) (f := 35) (args := #[.int .u8 76, .slice (some ⟨n1, 0, none⟩) 2 2]) (by simp [go_sem]) (rsign_any 76 _ _ _ r1 (by simp only [fl2]; have := HN.out; omega) (by simp)) ?_
  rintro e w3 ⟨v2, rfl, r2, hbA⟩
  have hS2 : Over w1 w3 := hS.more hbA
  refine ⟨_, rfl, hS2, ?_⟩
  clear hS
  have hS := hS2
  clear hS2
  obtain ⟨l2, HL2⟩ : ∃ zz, Hid (zz = (76 : BitVec 8) :: [x, y].flatten) := ⟨_, rfl⟩
  rw [← HL2.out] at r2
  obtain ⟨ad2, cp2, rfl, _, _, _⟩ := id r2
  simp only [Act.put, List.getElem_toArray, List.getElem_cons_succ, List.getElem_cons_zero, List.setIfInBounds_toArray, List.set_cons_zero, List.set_cons_succ]
  replace r1 := r1.below hbA
  clear hbA
  refine wpAnyH_take (i := 4) (v := .slice ad2 l2.length cp2) rfl (by kernel_rfl) (by kernel_rfl) (by kernel_rfl) (fun _ _ _ h => h) (Or.inl ⟨by rfl, fun wx _ => by simp [go_sem]⟩) hS ?_
  simp only [Act.put, List.getElem_toArray, List.getElem_cons_succ, List.getElem_cons_zero, List.setIfInBounds_toArray, List.set_cons_zero, List.set_cons_succ]
  refine wpAnyH_done (by kernel_rfl) ?_ _
  have E : Hid (l2 = pairB 76 x y) := by show _ = _; rw [HL2.out]; simp [pairB]
  have HV : Hid (Reads w3 (.slice ad2 l2.length cp2) l2) := r2
  have HB : Hid (Below w.heap.size w w3) := hS.after HB1.out
  clear hS r1 r2
  go_wp2
  go_ret
  exact ⟨_, rfl, by rw [← E.out]; exact HV.out, HB.out⟩
set_option maxHeartbeats 400000 in
theorem rNode_any (x y : List (BitVec 8)) (hx : x.length = 32) (hy : y.length = 32) (w : World) : Calls Tryd.prog 14 #[.agg (cb x).toArray, .agg (cb y).toArray] w fun e w' => ∃ v, e = .returned v ∧ Reads w' v (pairB 78 x y) ∧ Below w.heap.size w w' := by
  have HN : Hid (x.length = 32 ∧ y.length = 32) := ⟨hx, hy⟩
  clear hx hy
  go_enter Tryd.func14, Tryd.ntmps14
  go_wp2_with fail
  have hB0 : Below w.heap.size w ((w.alloc (.cells (cb x).toArray 23)).alloc (.cells (cb y).toArray 23)) := (below_alloc _ _).trans ((below_alloc _ _).mono (by simp))
  have rx : Reads ((w.alloc (.cells (cb x).toArray 23)).alloc (.cells (cb y).toArray 23)) (.slice (some ⟨w.heap.size, 0, none⟩) 32 32) x := ((Blk.new w (cb x) 23).alloc _).reads HN.out.1.symm (by have := HN.out; omega)
  have ry : Reads ((w.alloc (.cells (cb x).toArray 23)).alloc (.cells (cb y).toArray 23)) (.slice (some ⟨w.heap.size + 1, 0, none⟩) 32 32) y := (Blk.new_at (by simp) (cb y) 23).reads HN.out.2.symm (by have := HN.out; omega)
  generalize ((w.alloc (.cells (cb x).toArray 23)).alloc (.cells (cb y).toArray 23)) = w0 at *
  refine wp_region_held_drew (S := Over w0.drew) (by kernel_rfl) (Over.refl _) ?_
  intro hS
  replace rx := reads_drew rx
  replace ry := reads_drew ry
  have HB1 : Hid (Below w.heap.size w w0.drew) := hB0.drew
  clear hB0
  generalize w0.drew = w1 at *
  refine wpAnyH_take (i := 0) (v := .slice (some ⟨w.heap.size, 0, none⟩) 32 32) rfl (by kernel_rfl) (by kernel_rfl) (by kernel_rfl) (fun _ _ _ h => h) (Or.inl ⟨by rfl, fun wx _ => by simp [execOp, Act.eval, slice_dig]⟩) hS ?_
  simp only [Act.put, List.getElem_toArray, List.getElem_cons_zero, List.setIfInBounds_toArray, List.set_cons_zero, List.set_cons_succ]
  refine wpAnyH_take (i := 1) (v := .slice (some ⟨w.heap.size + 1, 0, none⟩) 32 32) rfl (by kernel_rfl) (by kernel_rfl) (by kernel_rfl) (fun _ _ _ h => h) (Or.inl ⟨by rfl, fun wx _ => by simp [execOp, Act.eval, slice_dig]⟩) hS ?_
  simp only [Act.put, List.getElem_toArray, List.getElem_cons_succ, List.getElem_cons_zero, List.setIfInBounds_toArray, List.set_cons_zero, List.set_cons_succ]
  have hbA := below_alloc w1 (.cells #[.slice (some ⟨w.heap.size, 0, none⟩) 32 32, .slice (some ⟨w.heap.size + 1, 0, none⟩) 32 32] 24)
  have r1 := readsL_two (rx.below hS) (ry.below hS)
  have hS1 : Over w1 (w1.alloc (.cells #[.slice (some ⟨w.heap.size, 0, none⟩) 32 32, .slice (some ⟨w.heap.size + 1, 0, none⟩) 32 32] 24)) := hS.more hbA
  refine wpAnyH_step 2 (.slice (some ⟨w1.heap.size, 0, none⟩) 2 2) (w1.alloc (.cells #[.slice (some ⟨w.heap.size, 0, none⟩) 32 32, .slice (some ⟨w.heap.size + 1, 0, none⟩) 32 32] 24)) (by kernel_rfl) rfl (by rfl) (by simp [go_sem]) hS1 ?_
  simp only [Act.put, List.getElem_toArray, List.getElem_cons_succ, List.getElem_cons_zero, List.setIfInBounds_toArray, List.set_cons_zero, List.set_cons_succ]
  clear hbA hS
  have hS := hS1
  clear hS1
  generalize (w1.alloc (.cells #[.slice (some ⟨w.heap.size, 0, none⟩) 32 32, .slice (some ⟨w.heap.size + 1, 0, none⟩) 32 32] 24)) = w2 at *
  generalize w1.heap.size = n1 at *
  refine wpAnyH_enter 3 (by kernel_rfl) rfl (by rfl) (f := 35) (args := #[.int .u8 78, .slice (some ⟨n1, 0, none⟩) 2 2]) (by simp [go_sem]) (rsign_any 78 _ _ _ r1 (by simp only [fl2]; have := HN.out; omega) (by simp)) ?_
  rintro e w3 ⟨v2, rfl, r2, hbA⟩
  have hS2 : Over w1 w3 := hS.more hbA
  refine ⟨_, rfl, hS2, ?_⟩
  clear hS
  have hS := hS2
  clear hS2
  obtain ⟨l2, HL2⟩ : ∃ zz, Hid (zz = (78 : BitVec 8) :: [x, y].flatten) := ⟨_, rfl⟩
  rw [← HL2.out] at r2
  obtain ⟨ad2, cp2, rfl, _, _, _⟩ := id r2
  simp only [Act.put, List.getElem_toArray, List.getElem_cons_succ, List.getElem_cons_zero, List.setIfInBounds_toArray, List.set_cons_zero, List.set_cons_succ]
  replace r1 := r1.below hbA
  clear hbA
  refine wpAnyH_take (i := 4) (v := .slice ad2 l2.length cp2) rfl (by kernel_rfl) (by kernel_rfl) (by kernel_rfl) (fun _ _ _ h => h) (Or.inl ⟨by rfl, fun wx _ => by simp [go_sem]⟩) hS ?_
  simp only [Act.put, List.getElem_toArray, List.getElem_cons_succ, List.getElem_cons_zero, List.setIfInBounds_toArray, List.set_cons_zero, List.set_cons_succ]
  refine wpAnyH_done (by kernel_rfl) ?_ _
  have E : Hid (l2 = pairB 78 x y) := by show _ = _; rw [HL2.out]; simp [pairB]
  have HV : Hid (Reads w3 (.slice ad2 l2.length cp2) l2) := r2
  have HB : Hid (Below w.heap.size w w3) := hS.after HB1.out
  clear hS r1 r2
  go_wp2
  go_ret
  exact ⟨_, rfl, by rw [← E.out]; exact HV.out, HB.out⟩
set_option maxHeartbeats 1000000 in
theorem tValue_any (x nm ky : List (BitVec 8)) (vk : Value) (sr : Nat) (w : World) (hx : x.length = 32) (hk : Reads w vk ky) (hn : nm.length ≤ 1099511627776 ∧ ky.length ≤ 1099511627776 ∧ sr < 18446744073709551616) :
    Calls Tryd.prog 15 #[.agg (cb x).toArray, .agg #[.string (strB nm), vk, .int .u64 (sr : Int)]] w fun e w' => ∃ v, e = .returned v ∧ Reads w' v (valueB x nm sr ky) ∧ Below w.heap.size w w' := by
  have HN : Hid (x.length = 32 ∧ nm.length ≤ 1099511627776 ∧ ky.length ≤ 1099511627776 ∧ sr < 18446744073709551616) := ⟨hx, hn⟩
  have HK : Hid (Reads w vk ky) := hk
  obtain ⟨ad, cp, rfl, _, _, _⟩ := hk
  clear hx hn
  go_enter Tryd.func15, Tryd.ntmps15
  go_wp2_with fail
  have hB0 : Below w.heap.size w ((w.alloc (.cells (cb x).toArray 23)).alloc (.cells #[.string (strB nm), .slice ad ky.length cp, .int .u64 (sr : Int)] 27)) := (below_alloc _ _).trans ((below_alloc _ _).mono (by simp))
  have rx : Reads ((w.alloc (.cells (cb x).toArray 23)).alloc (.cells #[.string (strB nm), .slice ad ky.length cp, .int .u64 (sr : Int)] 27)) (.slice (some ⟨w.heap.size, 0, none⟩) 32 32) x := ((Blk.new w (cb x) 23).alloc _).reads HN.out.1.symm (by have := HN.out; omega)
  have hBb : Blk ((w.alloc (.cells (cb x).toArray 23)).alloc (.cells #[.string (strB nm), .slice ad ky.length cp, .int .u64 (sr : Int)] 27)) (w.heap.size + 1) [.string (strB nm), .slice ad ky.length cp, .int .u64 (sr : Int)] 27 := Blk.new_at (by simp) _ _
  have c0 := hBb.cell 0
  have c1 := hBb.cell 1
  have c2 := hBb.cell 2
  have rk := HK.out.below hB0
  clear hBb
  generalize ((w.alloc (.cells (cb x).toArray 23)).alloc (.cells #[.string (strB nm), .slice ad ky.length cp, .int .u64 (sr : Int)] 27)) = w0 at *
  refine wp_region_held_drew (S := Over w0.drew) (by kernel_rfl) (Over.refl _) ?_
  intro hS
  replace rx := reads_drew rx
  replace rk := reads_drew rk
  replace c0 : w0.drew.cell? ⟨w.heap.size + 1, 0, none⟩ = some (.string (strB nm)) := c0
  replace c1 : w0.drew.cell? ⟨w.heap.size + 1, 1, none⟩ = some (.slice ad ky.length cp) := c1
  replace c2 : w0.drew.cell? ⟨w.heap.size + 1, 2, none⟩ = some (.int .u64 (sr : Int)) := c2
  have HB1 : Hid (Below w.heap.size w w0.drew) := hB0.drew
  clear hB0 HK
  generalize w0.drew = w1 at *
  refine wpAnyH_take (i := 0) (v := .slice (some ⟨w.heap.size, 0, none⟩) 32 32) rfl (by kernel_rfl) (by kernel_rfl) (by kernel_rfl) (fun _ _ _ h => h) (Or.inl ⟨by rfl, fun wx _ => by simp [execOp, Act.eval, slice_dig]⟩) hS ?_
  simp only [Act.put, List.getElem_toArray, List.getElem_cons_zero, List.setIfInBounds_toArray, List.set_cons_zero, List.set_cons_succ]
  refine wpAnyH_take (i := 1) (v := .pointer (some ⟨w.heap.size + 1, 0, none⟩)) rfl (by kernel_rfl) (by kernel_rfl) (by kernel_rfl) (fun _ _ _ h => h) (Or.inl ⟨by rfl, fun wx _ => by simp [go_sem]⟩) hS ?_
  simp only [Act.put, List.getElem_toArray, List.getElem_cons_succ, List.getElem_cons_zero, List.setIfInBounds_toArray, List.set_cons_zero, List.set_cons_succ]
  refine wpAnyH_take (i := 2) (v := .string (strB nm)) rfl (by kernel_rfl) (by kernel_rfl) (by kernel_rfl) (fun _ _ _ h => h) (Or.inl ⟨by rfl, fun wx hx => by (have hc := below_cell hx c0; simp [go_sem, hc])⟩) hS ?_
  simp only [Act.put, List.getElem_toArray, List.getElem_cons_succ, List.getElem_cons_zero, List.setIfInBounds_toArray, List.set_cons_zero, List.set_cons_succ]
  refine wpAnyH_take (i := 4) (v := .pointer (some ⟨w.heap.size + 1, 0, none⟩)) rfl (by kernel_rfl) (by kernel_rfl) (by kernel_rfl) (fun _ _ _ h => h) (Or.inl ⟨by rfl, fun wx _ => by simp [go_sem]⟩) hS ?_
  simp only [Act.put, List.getElem_toArray, List.getElem_cons_succ, List.getElem_cons_zero, List.setIfInBounds_toArray, List.set_cons_zero, List.set_cons_succ]
  refine wpAnyH_take (i := 5) (v := .string (strB nm)) rfl (by kernel_rfl) (by kernel_rfl) (by kernel_rfl) (fun _ _ _ h => h) (Or.inl ⟨by rfl, fun wx hx => by (have hc := below_cell hx c0; simp [go_sem, hc])⟩) hS ?_
  simp only [Act.put, List.getElem_toArray, List.getElem_cons_succ, List.getElem_cons_zero, List.setIfInBounds_toArray, List.set_cons_zero, List.set_cons_succ]
  refine wpAnyH_take (i := 7) (v := .pointer (some ⟨w.heap.size + 1, 2, none⟩)) rfl (by kernel_rfl) (by kernel_rfl) (by kernel_rfl) (fun _ _ _ h => h) (Or.inl ⟨by rfl, fun wx _ => by simp [go_sem]⟩) hS ?_
  simp only [Act.put, List.getElem_toArray, List.getElem_cons_succ, List.getElem_cons_zero, List.setIfInBounds_toArray, List.set_cons_zero, List.set_cons_succ]
  refine wpAnyH_take (i := 8) (v := .int .u64 (sr : Int)) rfl (by kernel_rfl) (by kernel_rfl) (by kernel_rfl) (fun _ _ _ h => h) (Or.inl ⟨by rfl, fun wx hx => by (have hc := below_cell hx c2; simp [go_sem, hc])⟩) hS ?_
  simp only [Act.put, List.getElem_toArray, List.getElem_cons_succ, List.getElem_cons_zero, List.setIfInBounds_toArray, List.set_cons_zero, List.set_cons_succ]
  refine wpAnyH_take (i := 10) (v := .pointer (some ⟨w.heap.size + 1, 1, none⟩)) rfl (by kernel_rfl) (by kernel_rfl) (by kernel_rfl) (fun _ _ _ h => h) (Or.inl ⟨by rfl, fun wx _ => by simp [go_sem]⟩) hS ?_
  simp only [Act.put, List.getElem_toArray, List.getElem_cons_succ, List.getElem_cons_zero, List.setIfInBounds_toArray, List.set_cons_zero, List.set_cons_succ]
  refine wpAnyH_take (i := 11) (v := .slice ad ky.length cp) rfl (by kernel_rfl) (by kernel_rfl) (by kernel_rfl) (fun _ _ _ h => h) (Or.inl ⟨by rfl, fun wx hx => by (have hc := below_cell hx c1; simp [go_sem, hc])⟩) hS ?_
  simp only [Act.put, List.getElem_toArray, List.getElem_cons_succ, List.getElem_cons_zero, List.setIfInBounds_toArray, List.set_cons_zero, List.set_cons_succ]
  refine wpAnyH_pair 3 6 (by kernel_rfl) (wpOp_en 3 rfl (by rfl) (f := 36) (args := #[.string (strB nm)]) (by simp [go_sem]) (count_any nm (by have := HN.out; omega) _) ?_) (wpOp_vl 6 (.slice (some ⟨w1.heap.size, 0, none⟩) nm.length (grownCap w1 nm.length 0 5)) (Lib.bytesWorld w1 5 (strB nm)) rfl (by rfl) (by simp [execOp, Act.eval, conv_string]) ?_)
  · skip
    rintro e w2 ⟨v1, rfl, r1, hbA⟩
    have hS1 : Over w1 w2 := hS.more hbA
    refine ⟨_, rfl, hS1, ?_⟩
    clear hS
    have hS := hS1
    clear hS1
    obtain ⟨l1, HL1⟩ : ∃ zz, Hid (zz = num8 nm.length) := ⟨_, rfl⟩
    rw [← HL1.out] at r1
    obtain ⟨ad1, cp1, rfl, _, _, _⟩ := id r1
    simp only [Act.put, List.getElem_toArray, List.getElem_cons_succ, List.getElem_cons_zero, List.setIfInBounds_toArray, List.set_cons_zero, List.set_cons_succ]
    clear hbA
    refine wpAnyH_pair 6 9 (by kernel_rfl) (wpOp_vl 6 (.slice (some ⟨w2.heap.size, 0, none⟩) nm.length (grownCap w2 nm.length 0 5)) (Lib.bytesWorld w2 5 (strB nm)) rfl (by rfl) (by simp [execOp, Act.eval, conv_string]) ?_) (wpOp_en 9 rfl (by rfl) (f := 37) (args := #[.int .u64 (sr : Int)]) (by simp [go_sem]) (number_any sr _) ?_)
    · skip
      have hbA := bytesWorld_below nm w2
      have r2 := bytesWorld_reads nm w2
      have hS2 : Over w1 (Lib.bytesWorld w2 5 (strB nm)) := hS.more hbA
      refine ⟨hS2, ?_⟩
      simp only [Act.put, List.getElem_toArray, List.getElem_cons_succ, List.getElem_cons_zero, List.setIfInBounds_toArray, List.set_cons_zero, List.set_cons_succ]
      replace r1 := r1.below hbA
      clear hbA hS
      have hS := hS2
      clear hS2
      generalize (Lib.bytesWorld w2 5 (strB nm)) = w3 at *
      generalize grownCap w2 nm.length 0 5 = cp2 at *
      generalize w2.heap.size = n2 at *
      refine wpAnyH_enter 9 (by kernel_rfl) rfl (by rfl) (f := 37) (args := #[.int .u64 (sr : Int)]) (by simp [go_sem]) (number_any sr _) ?_
      rintro e w4 ⟨v3, rfl, r3, hbA⟩
      have hS3 : Over w1 w4 := hS.more hbA
      refine ⟨_, rfl, hS3, ?_⟩
      clear hS
      have hS := hS3
      clear hS3
      obtain ⟨l3, HL3⟩ : ∃ zz, Hid (zz = num8 sr) := ⟨_, rfl⟩
      rw [← HL3.out] at r3
      obtain ⟨ad3, cp3, rfl, _, _, _⟩ := id r3
      simp only [Act.put, List.getElem_toArray, List.getElem_cons_succ, List.getElem_cons_zero, List.setIfInBounds_toArray, List.set_cons_zero, List.set_cons_succ]
      replace r1 := r1.below hbA
      replace r2 := r2.below hbA
      clear hbA
      have hbA := below_alloc w4 (.cells #[.slice (some ⟨w.heap.size, 0, none⟩) 32 32, .slice ad1 l1.length cp1, .slice (some ⟨n2, 0, none⟩) nm.length cp2, .slice ad3 l3.length cp3, .slice ad ky.length cp] 24)
      have r4 := readsL_five (rx.below hS) r1 r2 r3 (rk.below hS)
      have hS4 : Over w1 (w4.alloc (.cells #[.slice (some ⟨w.heap.size, 0, none⟩) 32 32, .slice ad1 l1.length cp1, .slice (some ⟨n2, 0, none⟩) nm.length cp2, .slice ad3 l3.length cp3, .slice ad ky.length cp] 24)) := hS.more hbA
      refine wpAnyH_step 12 (.slice (some ⟨w4.heap.size, 0, none⟩) 5 5) (w4.alloc (.cells #[.slice (some ⟨w.heap.size, 0, none⟩) 32 32, .slice ad1 l1.length cp1, .slice (some ⟨n2, 0, none⟩) nm.length cp2, .slice ad3 l3.length cp3, .slice ad ky.length cp] 24)) (by kernel_rfl) rfl (by rfl) (by simp [go_sem]) hS4 ?_
      simp only [Act.put, List.getElem_toArray, List.getElem_cons_succ, List.getElem_cons_zero, List.setIfInBounds_toArray, List.set_cons_zero, List.set_cons_succ]
      replace r1 := r1.below hbA
      replace r2 := r2.below hbA
      replace r3 := r3.below hbA
      clear hbA hS
      have hS := hS4
      clear hS4
      generalize (w4.alloc (.cells #[.slice (some ⟨w.heap.size, 0, none⟩) 32 32, .slice ad1 l1.length cp1, .slice (some ⟨n2, 0, none⟩) nm.length cp2, .slice ad3 l3.length cp3, .slice ad ky.length cp] 24)) = w5 at *
      generalize w4.heap.size = n4 at *
      refine wpAnyH_enter 13 (by kernel_rfl) rfl (by rfl) (f := 34) (args := #[.int .u8 86, .slice (some ⟨n4, 0, none⟩) 5 5]) (by simp [go_sem]) (tagged_any 86 _ _ _ r4 (by simp only [fl5, HL1.out, HL3.out, len_num8]; have := HN.out; omega) (by simp)) ?_
      rintro e w6 ⟨v5, rfl, r5, hbA⟩
      have hS5 : Over w1 w6 := hS.more hbA
      refine ⟨_, rfl, hS5, ?_⟩
      clear hS
      have hS := hS5
      clear hS5
      obtain ⟨l5, HL5⟩ : ∃ zz, Hid (zz = (86 : BitVec 8) :: [x, l1, nm, l3, ky].flatten) := ⟨_, rfl⟩
      rw [← HL5.out] at r5
      obtain ⟨ad5, cp5, rfl, _, _, _⟩ := id r5
      simp only [Act.put, List.getElem_toArray, List.getElem_cons_succ, List.getElem_cons_zero, List.setIfInBounds_toArray, List.set_cons_zero, List.set_cons_succ]
      replace r1 := r1.below hbA
      replace r2 := r2.below hbA
      replace r3 := r3.below hbA
      replace r4 := r4.below hbA
      clear hbA
      refine wpAnyH_take (i := 14) (v := .slice ad5 l5.length cp5) rfl (by kernel_rfl) (by kernel_rfl) (by kernel_rfl) (fun _ _ _ h => h) (Or.inl ⟨by rfl, fun wx _ => by simp [go_sem]⟩) hS ?_
      simp only [Act.put, List.getElem_toArray, List.getElem_cons_succ, List.getElem_cons_zero, List.setIfInBounds_toArray, List.set_cons_zero, List.set_cons_succ]
      refine wpAnyH_done (by kernel_rfl) ?_ _
      have E : Hid (l5 = valueB x nm sr ky) := by show _ = _; rw [HL5.out]; simp [valueB, HL1.out, HL3.out]
      have HV : Hid (Reads w6 (.slice ad5 l5.length cp5) l5) := r5
      have HB : Hid (Below w.heap.size w w6) := hS.after HB1.out
      clear hS r1 r2 r3 r4 r5
      go_wp2
      go_ret
      exact ⟨_, rfl, by rw [← E.out]; exact HV.out, HB.out⟩
    · skip
      rintro e w7 ⟨v6, rfl, r6, hbA⟩
      have hS6 : Over w1 w7 := hS.more hbA
      refine ⟨_, rfl, hS6, ?_⟩
      clear hS
      have hS := hS6
      clear hS6
      obtain ⟨l6, HL6⟩ : ∃ zz, Hid (zz = num8 sr) := ⟨_, rfl⟩
      rw [← HL6.out] at r6
      obtain ⟨ad6, cp6, rfl, _, _, _⟩ := id r6
      simp only [Act.put, List.getElem_toArray, List.getElem_cons_succ, List.getElem_cons_zero, List.setIfInBounds_toArray, List.set_cons_zero, List.set_cons_succ]
      replace r1 := r1.below hbA
      clear hbA
      have hbA := bytesWorld_below nm w7
      have r7 := bytesWorld_reads nm w7
      have hS7 : Over w1 (Lib.bytesWorld w7 5 (strB nm)) := hS.more hbA
      refine wpAnyH_step 6 (.slice (some ⟨w7.heap.size, 0, none⟩) nm.length (grownCap w7 nm.length 0 5)) (Lib.bytesWorld w7 5 (strB nm)) (by kernel_rfl) rfl (by rfl) (by simp [execOp, Act.eval, conv_string]) hS7 ?_
      simp only [Act.put, List.getElem_toArray, List.getElem_cons_succ, List.getElem_cons_zero, List.setIfInBounds_toArray, List.set_cons_zero, List.set_cons_succ]
      replace r1 := r1.below hbA
      replace r6 := r6.below hbA
      clear hbA hS
      have hS := hS7
      clear hS7
      generalize (Lib.bytesWorld w7 5 (strB nm)) = w8 at *
      generalize grownCap w7 nm.length 0 5 = cp7 at *
      generalize w7.heap.size = n7 at *
      have hbA := below_alloc w8 (.cells #[.slice (some ⟨w.heap.size, 0, none⟩) 32 32, .slice ad1 l1.length cp1, .slice (some ⟨n7, 0, none⟩) nm.length cp7, .slice ad6 l6.length cp6, .slice ad ky.length cp] 24)
      have r8 := readsL_five (rx.below hS) r1 r7 r6 (rk.below hS)
      have hS8 : Over w1 (w8.alloc (.cells #[.slice (some ⟨w.heap.size, 0, none⟩) 32 32, .slice ad1 l1.length cp1, .slice (some ⟨n7, 0, none⟩) nm.length cp7, .slice ad6 l6.length cp6, .slice ad ky.length cp] 24)) := hS.more hbA
      refine wpAnyH_step 12 (.slice (some ⟨w8.heap.size, 0, none⟩) 5 5) (w8.alloc (.cells #[.slice (some ⟨w.heap.size, 0, none⟩) 32 32, .slice ad1 l1.length cp1, .slice (some ⟨n7, 0, none⟩) nm.length cp7, .slice ad6 l6.length cp6, .slice ad ky.length cp] 24)) (by kernel_rfl) rfl (by rfl) (by simp [go_sem]) hS8 ?_
      simp only [Act.put, List.getElem_toArray, List.getElem_cons_succ, List.getElem_cons_zero, List.setIfInBounds_toArray, List.set_cons_zero, List.set_cons_succ]
      replace r1 := r1.below hbA
      replace r6 := r6.below hbA
      replace r7 := r7.below hbA
      clear hbA hS
      have hS := hS8
      clear hS8
      generalize (w8.alloc (.cells #[.slice (some ⟨w.heap.size, 0, none⟩) 32 32, .slice ad1 l1.length cp1, .slice (some ⟨n7, 0, none⟩) nm.length cp7, .slice ad6 l6.length cp6, .slice ad ky.length cp] 24)) = w9 at *
      generalize w8.heap.size = n8 at *
      refine wpAnyH_enter 13 (by kernel_rfl) rfl (by rfl) (f := 34) (args := #[.int .u8 86, .slice (some ⟨n8, 0, none⟩) 5 5]) (by simp [go_sem]) (tagged_any 86 _ _ _ r8 (by simp only [fl5, HL1.out, HL6.out, len_num8]; have := HN.out; omega) (by simp)) ?_
      rintro e w10 ⟨v9, rfl, r9, hbA⟩
      have hS9 : Over w1 w10 := hS.more hbA
      refine ⟨_, rfl, hS9, ?_⟩
      clear hS
      have hS := hS9
      clear hS9
      obtain ⟨l9, HL9⟩ : ∃ zz, Hid (zz = (86 : BitVec 8) :: [x, l1, nm, l6, ky].flatten) := ⟨_, rfl⟩
      rw [← HL9.out] at r9
      obtain ⟨ad9, cp9, rfl, _, _, _⟩ := id r9
      simp only [Act.put, List.getElem_toArray, List.getElem_cons_succ, List.getElem_cons_zero, List.setIfInBounds_toArray, List.set_cons_zero, List.set_cons_succ]
      replace r1 := r1.below hbA
      replace r6 := r6.below hbA
      replace r7 := r7.below hbA
      replace r8 := r8.below hbA
      clear hbA
      refine wpAnyH_take (i := 14) (v := .slice ad9 l9.length cp9) rfl (by kernel_rfl) (by kernel_rfl) (by kernel_rfl) (fun _ _ _ h => h) (Or.inl ⟨by rfl, fun wx _ => by simp [go_sem]⟩) hS ?_
      simp only [Act.put, List.getElem_toArray, List.getElem_cons_succ, List.getElem_cons_zero, List.setIfInBounds_toArray, List.set_cons_zero, List.set_cons_succ]
      refine wpAnyH_done (by kernel_rfl) ?_ _
      have E : Hid (l9 = valueB x nm sr ky) := by show _ = _; rw [HL9.out]; simp [valueB, HL1.out, HL6.out]
      have HV : Hid (Reads w10 (.slice ad9 l9.length cp9) l9) := r9
      have HB : Hid (Below w.heap.size w w10) := hS.after HB1.out
      clear hS r1 r6 r7 r8 r9
      go_wp2
      go_ret
      exact ⟨_, rfl, by rw [← E.out]; exact HV.out, HB.out⟩
  · skip
    have hbA := bytesWorld_below nm w1
    have r10 := bytesWorld_reads nm w1
    have hS10 : Over w1 (Lib.bytesWorld w1 5 (strB nm)) := hS.more hbA
    refine ⟨hS10, ?_⟩
    simp only [Act.put, List.getElem_toArray, List.getElem_cons_succ, List.getElem_cons_zero, List.setIfInBounds_toArray, List.set_cons_zero, List.set_cons_succ]
    clear hbA hS
    have hS := hS10
    clear hS10
    generalize (Lib.bytesWorld w1 5 (strB nm)) = w11 at *
    generalize grownCap w1 nm.length 0 5 = cp10 at *
    generalize w1.heap.size = n10 at *
    refine wpAnyH_enter 3 (by kernel_rfl) rfl (by rfl) (f := 36) (args := #[.string (strB nm)]) (by simp [go_sem]) (count_any nm (by have := HN.out; omega) _) ?_
    rintro e w12 ⟨v11, rfl, r11, hbA⟩
    have hS11 : Over w1 w12 := hS.more hbA
    refine ⟨_, rfl, hS11, ?_⟩
    clear hS
    have hS := hS11
    clear hS11
    obtain ⟨l11, HL11⟩ : ∃ zz, Hid (zz = num8 nm.length) := ⟨_, rfl⟩
    rw [← HL11.out] at r11
    obtain ⟨ad11, cp11, rfl, _, _, _⟩ := id r11
    simp only [Act.put, List.getElem_toArray, List.getElem_cons_succ, List.getElem_cons_zero, List.setIfInBounds_toArray, List.set_cons_zero, List.set_cons_succ]
    replace r10 := r10.below hbA
    clear hbA
    refine wpAnyH_enter 9 (by kernel_rfl) rfl (by rfl) (f := 37) (args := #[.int .u64 (sr : Int)]) (by simp [go_sem]) (number_any sr _) ?_
    rintro e w13 ⟨v12, rfl, r12, hbA⟩
    have hS12 : Over w1 w13 := hS.more hbA
    refine ⟨_, rfl, hS12, ?_⟩
    clear hS
    have hS := hS12
    clear hS12
    obtain ⟨l12, HL12⟩ : ∃ zz, Hid (zz = num8 sr) := ⟨_, rfl⟩
    rw [← HL12.out] at r12
    obtain ⟨ad12, cp12, rfl, _, _, _⟩ := id r12
    simp only [Act.put, List.getElem_toArray, List.getElem_cons_succ, List.getElem_cons_zero, List.setIfInBounds_toArray, List.set_cons_zero, List.set_cons_succ]
    replace r10 := r10.below hbA
    replace r11 := r11.below hbA
    clear hbA
    have hbA := below_alloc w13 (.cells #[.slice (some ⟨w.heap.size, 0, none⟩) 32 32, .slice ad11 l11.length cp11, .slice (some ⟨n10, 0, none⟩) nm.length cp10, .slice ad12 l12.length cp12, .slice ad ky.length cp] 24)
    have r13 := readsL_five (rx.below hS) r11 r10 r12 (rk.below hS)
    have hS13 : Over w1 (w13.alloc (.cells #[.slice (some ⟨w.heap.size, 0, none⟩) 32 32, .slice ad11 l11.length cp11, .slice (some ⟨n10, 0, none⟩) nm.length cp10, .slice ad12 l12.length cp12, .slice ad ky.length cp] 24)) := hS.more hbA
    refine wpAnyH_step 12 (.slice (some ⟨w13.heap.size, 0, none⟩) 5 5) (w13.alloc (.cells #[.slice (some ⟨w.heap.size, 0, none⟩) 32 32, .slice ad11 l11.length cp11, .slice (some ⟨n10, 0, none⟩) nm.length cp10, .slice ad12 l12.length cp12, .slice ad ky.length cp] 24)) (by kernel_rfl) rfl (by rfl) (by simp [go_sem]) hS13 ?_
    simp only [Act.put, List.getElem_toArray, List.getElem_cons_succ, List.getElem_cons_zero, List.setIfInBounds_toArray, List.set_cons_zero, List.set_cons_succ]
    replace r10 := r10.below hbA
    replace r11 := r11.below hbA
    replace r12 := r12.below hbA
    clear hbA hS
    have hS := hS13
    clear hS13
    generalize (w13.alloc (.cells #[.slice (some ⟨w.heap.size, 0, none⟩) 32 32, .slice ad11 l11.length cp11, .slice (some ⟨n10, 0, none⟩) nm.length cp10, .slice ad12 l12.length cp12, .slice ad ky.length cp] 24)) = w14 at *
    generalize w13.heap.size = n13 at *
    refine wpAnyH_enter 13 (by kernel_rfl) rfl (by rfl) (f := 34) (args := #[.int .u8 86, .slice (some ⟨n13, 0, none⟩) 5 5]) (by simp [go_sem]) (tagged_any 86 _ _ _ r13 (by simp only [fl5, HL11.out, HL12.out, len_num8]; have := HN.out; omega) (by simp)) ?_
    rintro e w15 ⟨v14, rfl, r14, hbA⟩
    have hS14 : Over w1 w15 := hS.more hbA
    refine ⟨_, rfl, hS14, ?_⟩
    clear hS
    have hS := hS14
    clear hS14
    obtain ⟨l14, HL14⟩ : ∃ zz, Hid (zz = (86 : BitVec 8) :: [x, l11, nm, l12, ky].flatten) := ⟨_, rfl⟩
    rw [← HL14.out] at r14
    obtain ⟨ad14, cp14, rfl, _, _, _⟩ := id r14
    simp only [Act.put, List.getElem_toArray, List.getElem_cons_succ, List.getElem_cons_zero, List.setIfInBounds_toArray, List.set_cons_zero, List.set_cons_succ]
    replace r10 := r10.below hbA
    replace r11 := r11.below hbA
    replace r12 := r12.below hbA
    replace r13 := r13.below hbA
    clear hbA
    refine wpAnyH_take (i := 14) (v := .slice ad14 l14.length cp14) rfl (by kernel_rfl) (by kernel_rfl) (by kernel_rfl) (fun _ _ _ h => h) (Or.inl ⟨by rfl, fun wx _ => by simp [go_sem]⟩) hS ?_
    simp only [Act.put, List.getElem_toArray, List.getElem_cons_succ, List.getElem_cons_zero, List.setIfInBounds_toArray, List.set_cons_zero, List.set_cons_succ]
    refine wpAnyH_done (by kernel_rfl) ?_ _
    have E : Hid (l14 = valueB x nm sr ky) := by show _ = _; rw [HL14.out]; simp [valueB, HL11.out, HL12.out]
    have HV : Hid (Reads w15 (.slice ad14 l14.length cp14) l14) := r14
    have HB : Hid (Below w.heap.size w w15) := hS.after HB1.out
    clear hS r10 r11 r12 r13 r14
    go_wp2
    go_ret
    exact ⟨_, rfl, by rw [← E.out]; exact HV.out, HB.out⟩
set_option maxHeartbeats 1000000 in
theorem rValue_any (x nm ky : List (BitVec 8)) (vk : Value) (sr : Nat) (w : World) (hx : x.length = 32) (hk : Reads w vk ky) (hn : nm.length ≤ 1099511627776 ∧ ky.length ≤ 1099511627776 ∧ sr < 18446744073709551616) :
    Calls Tryd.prog 16 #[.agg (cb x).toArray, .agg #[.string (strB nm), vk, .int .u64 (sr : Int)]] w fun e w' => ∃ v, e = .returned v ∧ Reads w' v (valueB x nm sr ky) ∧ Below w.heap.size w w' := by
  have HN : Hid (x.length = 32 ∧ nm.length ≤ 1099511627776 ∧ ky.length ≤ 1099511627776 ∧ sr < 18446744073709551616) := ⟨hx, hn⟩
  have HK : Hid (Reads w vk ky) := hk
  obtain ⟨ad, cp, rfl, _, _, _⟩ := hk
  clear hx hn
  go_enter Tryd.func16, Tryd.ntmps16
  go_wp2_with fail
  have hB0 : Below w.heap.size w ((w.alloc (.cells (cb x).toArray 23)).alloc (.cells #[.string (strB nm), .slice ad ky.length cp, .int .u64 (sr : Int)] 27)) := (below_alloc _ _).trans ((below_alloc _ _).mono (by simp))
  have rx : Reads ((w.alloc (.cells (cb x).toArray 23)).alloc (.cells #[.string (strB nm), .slice ad ky.length cp, .int .u64 (sr : Int)] 27)) (.slice (some ⟨w.heap.size, 0, none⟩) 32 32) x := ((Blk.new w (cb x) 23).alloc _).reads HN.out.1.symm (by have := HN.out; omega)
  have hBb : Blk ((w.alloc (.cells (cb x).toArray 23)).alloc (.cells #[.string (strB nm), .slice ad ky.length cp, .int .u64 (sr : Int)] 27)) (w.heap.size + 1) [.string (strB nm), .slice ad ky.length cp, .int .u64 (sr : Int)] 27 := Blk.new_at (by simp) _ _
  have c0 := hBb.cell 0
  have c1 := hBb.cell 1
  have c2 := hBb.cell 2
  have rk := HK.out.below hB0
  clear hBb
  generalize ((w.alloc (.cells (cb x).toArray 23)).alloc (.cells #[.string (strB nm), .slice ad ky.length cp, .int .u64 (sr : Int)] 27)) = w0 at *
  refine wp_region_held_drew (S := Over w0.drew) (by kernel_rfl) (Over.refl _) ?_
  intro hS
  replace rx := reads_drew rx
  replace rk := reads_drew rk
  replace c0 : w0.drew.cell? ⟨w.heap.size + 1, 0, none⟩ = some (.string (strB nm)) := c0
  replace c1 : w0.drew.cell? ⟨w.heap.size + 1, 1, none⟩ = some (.slice ad ky.length cp) := c1
  replace c2 : w0.drew.cell? ⟨w.heap.size + 1, 2, none⟩ = some (.int .u64 (sr : Int)) := c2
  have HB1 : Hid (Below w.heap.size w w0.drew) := hB0.drew
  clear hB0 HK
  generalize w0.drew = w1 at *
  refine wpAnyH_take (i := 0) (v := .slice (some ⟨w.heap.size, 0, none⟩) 32 32) rfl (by kernel_rfl) (by kernel_rfl) (by kernel_rfl) (fun _ _ _ h => h) (Or.inl ⟨by rfl, fun wx _ => by simp [execOp, Act.eval, slice_dig]⟩) hS ?_
  simp only [Act.put, List.getElem_toArray, List.getElem_cons_zero, List.setIfInBounds_toArray, List.set_cons_zero, List.set_cons_succ]
  refine wpAnyH_take (i := 1) (v := .pointer (some ⟨w.heap.size + 1, 0, none⟩)) rfl (by kernel_rfl) (by kernel_rfl) (by kernel_rfl) (fun _ _ _ h => h) (Or.inl ⟨by rfl, fun wx _ => by simp [go_sem]⟩) hS ?_
  simp only [Act.put, List.getElem_toArray, List.getElem_cons_succ, List.getElem_cons_zero, List.setIfInBounds_toArray, List.set_cons_zero, List.set_cons_succ]
  refine wpAnyH_take (i := 2) (v := .string (strB nm)) rfl (by kernel_rfl) (by kernel_rfl) (by kernel_rfl) (fun _ _ _ h => h) (Or.inl ⟨by rfl, fun wx hx => by (have hc := below_cell hx c0; simp [go_sem, hc])⟩) hS ?_
  simp only [Act.put, List.getElem_toArray, List.getElem_cons_succ, List.getElem_cons_zero, List.setIfInBounds_toArray, List.set_cons_zero, List.set_cons_succ]
  refine wpAnyH_take (i := 3) (v := .int .i64 (nm.length : Int)) rfl (by kernel_rfl) (by kernel_rfl) (by kernel_rfl) (fun _ _ _ h => h) (Or.inl ⟨by rfl, fun wx _ => by simp [go_sem, strB_size]⟩) hS ?_
  simp only [Act.put, List.getElem_toArray, List.getElem_cons_succ, List.getElem_cons_zero, List.setIfInBounds_toArray, List.set_cons_zero, List.set_cons_succ]
  refine wpAnyH_take (i := 4) (v := .int .u64 (nm.length : Int)) rfl (by kernel_rfl) (by kernel_rfl) (by kernel_rfl) (fun _ _ _ h => h) (Or.inl ⟨by rfl, fun wx _ => by (have e : IntKind.u64.wrap (nm.length : Int) = nm.length := (by rw [IntKind.wrap_u64]; have := HN.out; omega); simp [go_sem, e])⟩) hS ?_
  simp only [Act.put, List.getElem_toArray, List.getElem_cons_succ, List.getElem_cons_zero, List.setIfInBounds_toArray, List.set_cons_zero, List.set_cons_succ]
  refine wpAnyH_take (i := 6) (v := .pointer (some ⟨w.heap.size + 1, 0, none⟩)) rfl (by kernel_rfl) (by kernel_rfl) (by kernel_rfl) (fun _ _ _ h => h) (Or.inl ⟨by rfl, fun wx _ => by simp [go_sem]⟩) hS ?_
  simp only [Act.put, List.getElem_toArray, List.getElem_cons_succ, List.getElem_cons_zero, List.setIfInBounds_toArray, List.set_cons_zero, List.set_cons_succ]
  refine wpAnyH_take (i := 7) (v := .string (strB nm)) rfl (by kernel_rfl) (by kernel_rfl) (by kernel_rfl) (fun _ _ _ h => h) (Or.inl ⟨by rfl, fun wx hx => by (have hc := below_cell hx c0; simp [go_sem, hc])⟩) hS ?_
  simp only [Act.put, List.getElem_toArray, List.getElem_cons_succ, List.getElem_cons_zero, List.setIfInBounds_toArray, List.set_cons_zero, List.set_cons_succ]
  refine wpAnyH_take (i := 9) (v := .pointer (some ⟨w.heap.size + 1, 2, none⟩)) rfl (by kernel_rfl) (by kernel_rfl) (by kernel_rfl) (fun _ _ _ h => h) (Or.inl ⟨by rfl, fun wx _ => by simp [go_sem]⟩) hS ?_
  simp only [Act.put, List.getElem_toArray, List.getElem_cons_succ, List.getElem_cons_zero, List.setIfInBounds_toArray, List.set_cons_zero, List.set_cons_succ]
  refine wpAnyH_take (i := 10) (v := .int .u64 (sr : Int)) rfl (by kernel_rfl) (by kernel_rfl) (by kernel_rfl) (fun _ _ _ h => h) (Or.inl ⟨by rfl, fun wx hx => by (have hc := below_cell hx c2; simp [go_sem, hc])⟩) hS ?_
  simp only [Act.put, List.getElem_toArray, List.getElem_cons_succ, List.getElem_cons_zero, List.setIfInBounds_toArray, List.set_cons_zero, List.set_cons_succ]
  refine wpAnyH_take (i := 12) (v := .pointer (some ⟨w.heap.size + 1, 1, none⟩)) rfl (by kernel_rfl) (by kernel_rfl) (by kernel_rfl) (fun _ _ _ h => h) (Or.inl ⟨by rfl, fun wx _ => by simp [go_sem]⟩) hS ?_
  simp only [Act.put, List.getElem_toArray, List.getElem_cons_succ, List.getElem_cons_zero, List.setIfInBounds_toArray, List.set_cons_zero, List.set_cons_succ]
  refine wpAnyH_take (i := 13) (v := .slice ad ky.length cp) rfl (by kernel_rfl) (by kernel_rfl) (by kernel_rfl) (fun _ _ _ h => h) (Or.inl ⟨by rfl, fun wx hx => by (have hc := below_cell hx c1; simp [go_sem, hc])⟩) hS ?_
  simp only [Act.put, List.getElem_toArray, List.getElem_cons_succ, List.getElem_cons_zero, List.setIfInBounds_toArray, List.set_cons_zero, List.set_cons_succ]
  refine wpAnyH_pair 5 8 (by kernel_rfl) (wpOp_en 5 rfl (by rfl) (f := 38) (args := #[.int .u64 (nm.length : Int)]) (by simp [go_sem]) (rnumber_any nm.length (by have := HN.out; omega) _) ?_) (wpOp_vl 8 (.slice (some ⟨w1.heap.size, 0, none⟩) nm.length (grownCap w1 nm.length 0 5)) (Lib.bytesWorld w1 5 (strB nm)) rfl (by rfl) (by simp [execOp, Act.eval, conv_string]) ?_)
  · skip
    rintro e w2 ⟨v1, rfl, r1, hbA⟩
    have hS1 : Over w1 w2 := hS.more hbA
    refine ⟨_, rfl, hS1, ?_⟩
    clear hS
    have hS := hS1
    clear hS1
    obtain ⟨l1, HL1⟩ : ∃ zz, Hid (zz = num8 nm.length) := ⟨_, rfl⟩
    rw [← HL1.out] at r1
    obtain ⟨ad1, cp1, rfl, _, _, _⟩ := id r1
    simp only [Act.put, List.getElem_toArray, List.getElem_cons_succ, List.getElem_cons_zero, List.setIfInBounds_toArray, List.set_cons_zero, List.set_cons_succ]
    clear hbA
    refine wpAnyH_pair 8 11 (by kernel_rfl) (wpOp_vl 8 (.slice (some ⟨w2.heap.size, 0, none⟩) nm.length (grownCap w2 nm.length 0 5)) (Lib.bytesWorld w2 5 (strB nm)) rfl (by rfl) (by simp [execOp, Act.eval, conv_string]) ?_) (wpOp_en 11 rfl (by rfl) (f := 38) (args := #[.int .u64 (sr : Int)]) (by simp [go_sem]) (rnumber_any sr (by have := HN.out; omega) _) ?_)
    · skip
      have hbA := bytesWorld_below nm w2
      have r2 := bytesWorld_reads nm w2
      have hS2 : Over w1 (Lib.bytesWorld w2 5 (strB nm)) := hS.more hbA
      refine ⟨hS2, ?_⟩
      simp only [Act.put, List.getElem_toArray, List.getElem_cons_succ, List.getElem_cons_zero, List.setIfInBounds_toArray, List.set_cons_zero, List.set_cons_succ]
      replace r1 := r1.below hbA
      clear hbA hS
      have hS := hS2
      clear hS2
      generalize (Lib.bytesWorld w2 5 (strB nm)) = w3 at *
      generalize grownCap w2 nm.length 0 5 = cp2 at *
      generalize w2.heap.size = n2 at *
      refine wpAnyH_enter 11 (by kernel_rfl) rfl (by rfl) (f := 38) (args := #[.int .u64 (sr : Int)]) (by simp [go_sem]) (rnumber_any sr (by have := HN.out; omega) _) ?_
      rintro e w4 ⟨v3, rfl, r3, hbA⟩
      have hS3 : Over w1 w4 := hS.more hbA
      refine ⟨_, rfl, hS3, ?_⟩
      clear hS
      have hS := hS3
      clear hS3
      obtain ⟨l3, HL3⟩ : ∃ zz, Hid (zz = num8 sr) := ⟨_, rfl⟩
      rw [← HL3.out] at r3
      obtain ⟨ad3, cp3, rfl, _, _, _⟩ := id r3
      simp only [Act.put, List.getElem_toArray, List.getElem_cons_succ, List.getElem_cons_zero, List.setIfInBounds_toArray, List.set_cons_zero, List.set_cons_succ]
      replace r1 := r1.below hbA
      replace r2 := r2.below hbA
      clear hbA
      have hbA := below_alloc w4 (.cells #[.slice (some ⟨w.heap.size, 0, none⟩) 32 32, .slice ad1 l1.length cp1, .slice (some ⟨n2, 0, none⟩) nm.length cp2, .slice ad3 l3.length cp3, .slice ad ky.length cp] 24)
      have r4 := readsL_five (rx.below hS) r1 r2 r3 (rk.below hS)
      have hS4 : Over w1 (w4.alloc (.cells #[.slice (some ⟨w.heap.size, 0, none⟩) 32 32, .slice ad1 l1.length cp1, .slice (some ⟨n2, 0, none⟩) nm.length cp2, .slice ad3 l3.length cp3, .slice ad ky.length cp] 24)) := hS.more hbA
      refine wpAnyH_step 14 (.slice (some ⟨w4.heap.size, 0, none⟩) 5 5) (w4.alloc (.cells #[.slice (some ⟨w.heap.size, 0, none⟩) 32 32, .slice ad1 l1.length cp1, .slice (some ⟨n2, 0, none⟩) nm.length cp2, .slice ad3 l3.length cp3, .slice ad ky.length cp] 24)) (by kernel_rfl) rfl (by rfl) (by simp [go_sem]) hS4 ?_
      simp only [Act.put, List.getElem_toArray, List.getElem_cons_succ, List.getElem_cons_zero, List.setIfInBounds_toArray, List.set_cons_zero, List.set_cons_succ]
      replace r1 := r1.below hbA
      replace r2 := r2.below hbA
      replace r3 := r3.below hbA
      clear hbA hS
      have hS := hS4
      clear hS4
      generalize (w4.alloc (.cells #[.slice (some ⟨w.heap.size, 0, none⟩) 32 32, .slice ad1 l1.length cp1, .slice (some ⟨n2, 0, none⟩) nm.length cp2, .slice ad3 l3.length cp3, .slice ad ky.length cp] 24)) = w5 at *
      generalize w4.heap.size = n4 at *
      refine wpAnyH_enter 15 (by kernel_rfl) rfl (by rfl) (f := 35) (args := #[.int .u8 86, .slice (some ⟨n4, 0, none⟩) 5 5]) (by simp [go_sem]) (rsign_any 86 _ _ _ r4 (by simp only [fl5, HL1.out, HL3.out, len_num8]; have := HN.out; omega) (by simp)) ?_
      rintro e w6 ⟨v5, rfl, r5, hbA⟩
      have hS5 : Over w1 w6 := hS.more hbA
      refine ⟨_, rfl, hS5, ?_⟩
      clear hS
      have hS := hS5
      clear hS5
      obtain ⟨l5, HL5⟩ : ∃ zz, Hid (zz = (86 : BitVec 8) :: [x, l1, nm, l3, ky].flatten) := ⟨_, rfl⟩
      rw [← HL5.out] at r5
      obtain ⟨ad5, cp5, rfl, _, _, _⟩ := id r5
      simp only [Act.put, List.getElem_toArray, List.getElem_cons_succ, List.getElem_cons_zero, List.setIfInBounds_toArray, List.set_cons_zero, List.set_cons_succ]
      replace r1 := r1.below hbA
      replace r2 := r2.below hbA
      replace r3 := r3.below hbA
      replace r4 := r4.below hbA
      clear hbA
      refine wpAnyH_take (i := 16) (v := .slice ad5 l5.length cp5) rfl (by kernel_rfl) (by kernel_rfl) (by kernel_rfl) (fun _ _ _ h => h) (Or.inl ⟨by rfl, fun wx _ => by simp [go_sem]⟩) hS ?_
      simp only [Act.put, List.getElem_toArray, List.getElem_cons_succ, List.getElem_cons_zero, List.setIfInBounds_toArray, List.set_cons_zero, List.set_cons_succ]
      refine wpAnyH_done (by kernel_rfl) ?_ _
      have E : Hid (l5 = valueB x nm sr ky) := by show _ = _; rw [HL5.out]; simp [valueB, HL1.out, HL3.out]
      have HV : Hid (Reads w6 (.slice ad5 l5.length cp5) l5) := r5
      have HB : Hid (Below w.heap.size w w6) := hS.after HB1.out
      clear hS r1 r2 r3 r4 r5
      go_wp2
      go_ret
      exact ⟨_, rfl, by rw [← E.out]; exact HV.out, HB.out⟩
    · skip
      rintro e w7 ⟨v6, rfl, r6, hbA⟩
      have hS6 : Over w1 w7 := hS.more hbA
      refine ⟨_, rfl, hS6, ?_⟩
      clear hS
      have hS := hS6
      clear hS6
      obtain ⟨l6, HL6⟩ : ∃ zz, Hid (zz = num8 sr) := ⟨_, rfl⟩
      rw [← HL6.out] at r6
      obtain ⟨ad6, cp6, rfl, _, _, _⟩ := id r6
      simp only [Act.put, List.getElem_toArray, List.getElem_cons_succ, List.getElem_cons_zero, List.setIfInBounds_toArray, List.set_cons_zero, List.set_cons_succ]
      replace r1 := r1.below hbA
      clear hbA
      have hbA := bytesWorld_below nm w7
      have r7 := bytesWorld_reads nm w7
      have hS7 : Over w1 (Lib.bytesWorld w7 5 (strB nm)) := hS.more hbA
      refine wpAnyH_step 8 (.slice (some ⟨w7.heap.size, 0, none⟩) nm.length (grownCap w7 nm.length 0 5)) (Lib.bytesWorld w7 5 (strB nm)) (by kernel_rfl) rfl (by rfl) (by simp [execOp, Act.eval, conv_string]) hS7 ?_
      simp only [Act.put, List.getElem_toArray, List.getElem_cons_succ, List.getElem_cons_zero, List.setIfInBounds_toArray, List.set_cons_zero, List.set_cons_succ]
      replace r1 := r1.below hbA
      replace r6 := r6.below hbA
      clear hbA hS
      have hS := hS7
      clear hS7
      generalize (Lib.bytesWorld w7 5 (strB nm)) = w8 at *
      generalize grownCap w7 nm.length 0 5 = cp7 at *
      generalize w7.heap.size = n7 at *
      have hbA := below_alloc w8 (.cells #[.slice (some ⟨w.heap.size, 0, none⟩) 32 32, .slice ad1 l1.length cp1, .slice (some ⟨n7, 0, none⟩) nm.length cp7, .slice ad6 l6.length cp6, .slice ad ky.length cp] 24)
      have r8 := readsL_five (rx.below hS) r1 r7 r6 (rk.below hS)
      have hS8 : Over w1 (w8.alloc (.cells #[.slice (some ⟨w.heap.size, 0, none⟩) 32 32, .slice ad1 l1.length cp1, .slice (some ⟨n7, 0, none⟩) nm.length cp7, .slice ad6 l6.length cp6, .slice ad ky.length cp] 24)) := hS.more hbA
      refine wpAnyH_step 14 (.slice (some ⟨w8.heap.size, 0, none⟩) 5 5) (w8.alloc (.cells #[.slice (some ⟨w.heap.size, 0, none⟩) 32 32, .slice ad1 l1.length cp1, .slice (some ⟨n7, 0, none⟩) nm.length cp7, .slice ad6 l6.length cp6, .slice ad ky.length cp] 24)) (by kernel_rfl) rfl (by rfl) (by simp [go_sem]) hS8 ?_
      simp only [Act.put, List.getElem_toArray, List.getElem_cons_succ, List.getElem_cons_zero, List.setIfInBounds_toArray, List.set_cons_zero, List.set_cons_succ]
      replace r1 := r1.below hbA
      replace r6 := r6.below hbA
      replace r7 := r7.below hbA
      clear hbA hS
      have hS := hS8
      clear hS8
      generalize (w8.alloc (.cells #[.slice (some ⟨w.heap.size, 0, none⟩) 32 32, .slice ad1 l1.length cp1, .slice (some ⟨n7, 0, none⟩) nm.length cp7, .slice ad6 l6.length cp6, .slice ad ky.length cp] 24)) = w9 at *
      generalize w8.heap.size = n8 at *
      refine wpAnyH_enter 15 (by kernel_rfl) rfl (by rfl) (f := 35) (args := #[.int .u8 86, .slice (some ⟨n8, 0, none⟩) 5 5]) (by simp [go_sem]) (rsign_any 86 _ _ _ r8 (by simp only [fl5, HL1.out, HL6.out, len_num8]; have := HN.out; omega) (by simp)) ?_
      rintro e w10 ⟨v9, rfl, r9, hbA⟩
      have hS9 : Over w1 w10 := hS.more hbA
      refine ⟨_, rfl, hS9, ?_⟩
      clear hS
      have hS := hS9
      clear hS9
      obtain ⟨l9, HL9⟩ : ∃ zz, Hid (zz = (86 : BitVec 8) :: [x, l1, nm, l6, ky].flatten) := ⟨_, rfl⟩
      rw [← HL9.out] at r9
      obtain ⟨ad9, cp9, rfl, _, _, _⟩ := id r9
      simp only [Act.put, List.getElem_toArray, List.getElem_cons_succ, List.getElem_cons_zero, List.setIfInBounds_toArray, List.set_cons_zero, List.set_cons_succ]
      replace r1 := r1.below hbA
      replace r6 := r6.below hbA
      replace r7 := r7.below hbA
      replace r8 := r8.below hbA
      clear hbA
      refine wpAnyH_take (i := 16) (v := .slice ad9 l9.length cp9) rfl (by kernel_rfl) (by kernel_rfl) (by kernel_rfl) (fun _ _ _ h => h) (Or.inl ⟨by rfl, fun wx _ => by simp [go_sem]⟩) hS ?_
      simp only [Act.put, List.getElem_toArray, List.getElem_cons_succ, List.getElem_cons_zero, List.setIfInBounds_toArray, List.set_cons_zero, List.set_cons_succ]
      refine wpAnyH_done (by kernel_rfl) ?_ _
      have E : Hid (l9 = valueB x nm sr ky) := by show _ = _; rw [HL9.out]; simp [valueB, HL1.out, HL6.out]
      have HV : Hid (Reads w10 (.slice ad9 l9.length cp9) l9) := r9
      have HB : Hid (Below w.heap.size w w10) := hS.after HB1.out
      clear hS r1 r6 r7 r8 r9
      go_wp2
      go_ret
      exact ⟨_, rfl, by rw [← E.out]; exact HV.out, HB.out⟩
  · skip
    have hbA := bytesWorld_below nm w1
    have r10 := bytesWorld_reads nm w1
    have hS10 : Over w1 (Lib.bytesWorld w1 5 (strB nm)) := hS.more hbA
    refine ⟨hS10, ?_⟩
    simp only [Act.put, List.getElem_toArray, List.getElem_cons_succ, List.getElem_cons_zero, List.setIfInBounds_toArray, List.set_cons_zero, List.set_cons_succ]
    clear hbA hS
    have hS := hS10
    clear hS10
    generalize (Lib.bytesWorld w1 5 (strB nm)) = w11 at *
    generalize grownCap w1 nm.length 0 5 = cp10 at *
    generalize w1.heap.size = n10 at *
    refine wpAnyH_enter 5 (by kernel_rfl) rfl (by rfl) (f := 38) (args := #[.int .u64 (nm.length : Int)]) (by simp [go_sem]) (rnumber_any nm.length (by have := HN.out; omega) _) ?_
    rintro e w12 ⟨v11, rfl, r11, hbA⟩
    have hS11 : Over w1 w12 := hS.more hbA
    refine ⟨_, rfl, hS11, ?_⟩
    clear hS
    have hS := hS11
    clear hS11
    obtain ⟨l11, HL11⟩ : ∃ zz, Hid (zz = num8 nm.length) := ⟨_, rfl⟩
    rw [← HL11.out] at r11
    obtain ⟨ad11, cp11, rfl, _, _, _⟩ := id r11
    simp only [Act.put, List.getElem_toArray, List.getElem_cons_succ, List.getElem_cons_zero, List.setIfInBounds_toArray, List.set_cons_zero, List.set_cons_succ]
    replace r10 := r10.below hbA
    clear hbA
    refine wpAnyH_enter 11 (by kernel_rfl) rfl (by rfl) (f := 38) (args := #[.int .u64 (sr : Int)]) (by simp [go_sem]) (rnumber_any sr (by have := HN.out; omega) _) ?_
    rintro e w13 ⟨v12, rfl, r12, hbA⟩
    have hS12 : Over w1 w13 := hS.more hbA
    refine ⟨_, rfl, hS12, ?_⟩
    clear hS
    have hS := hS12
    clear hS12
    obtain ⟨l12, HL12⟩ : ∃ zz, Hid (zz = num8 sr) := ⟨_, rfl⟩
    rw [← HL12.out] at r12
    obtain ⟨ad12, cp12, rfl, _, _, _⟩ := id r12
    simp only [Act.put, List.getElem_toArray, List.getElem_cons_succ, List.getElem_cons_zero, List.setIfInBounds_toArray, List.set_cons_zero, List.set_cons_succ]
    replace r10 := r10.below hbA
    replace r11 := r11.below hbA
    clear hbA
    have hbA := below_alloc w13 (.cells #[.slice (some ⟨w.heap.size, 0, none⟩) 32 32, .slice ad11 l11.length cp11, .slice (some ⟨n10, 0, none⟩) nm.length cp10, .slice ad12 l12.length cp12, .slice ad ky.length cp] 24)
    have r13 := readsL_five (rx.below hS) r11 r10 r12 (rk.below hS)
    have hS13 : Over w1 (w13.alloc (.cells #[.slice (some ⟨w.heap.size, 0, none⟩) 32 32, .slice ad11 l11.length cp11, .slice (some ⟨n10, 0, none⟩) nm.length cp10, .slice ad12 l12.length cp12, .slice ad ky.length cp] 24)) := hS.more hbA
    refine wpAnyH_step 14 (.slice (some ⟨w13.heap.size, 0, none⟩) 5 5) (w13.alloc (.cells #[.slice (some ⟨w.heap.size, 0, none⟩) 32 32, .slice ad11 l11.length cp11, .slice (some ⟨n10, 0, none⟩) nm.length cp10, .slice ad12 l12.length cp12, .slice ad ky.length cp] 24)) (by kernel_rfl) rfl (by rfl) (by simp [go_sem]) hS13 ?_
    simp only [Act.put, List.getElem_toArray, List.getElem_cons_succ, List.getElem_cons_zero, List.setIfInBounds_toArray, List.set_cons_zero, List.set_cons_succ]
    replace r10 := r10.below hbA
    replace r11 := r11.below hbA
    replace r12 := r12.below hbA
    clear hbA hS
    have hS := hS13
    clear hS13
    generalize (w13.alloc (.cells #[.slice (some ⟨w.heap.size, 0, none⟩) 32 32, .slice ad11 l11.length cp11, .slice (some ⟨n10, 0, none⟩) nm.length cp10, .slice ad12 l12.length cp12, .slice ad ky.length cp] 24)) = w14 at *
    generalize w13.heap.size = n13 at *
    refine wpAnyH_enter 15 (by kernel_rfl) rfl (by rfl) (f := 35) (args := #[.int .u8 86, .slice (some ⟨n13, 0, none⟩) 5 5]) (by simp [go_sem]) (rsign_any 86 _ _ _ r13 (by simp only [fl5, HL11.out, HL12.out, len_num8]; have := HN.out; omega) (by simp)) ?_
    rintro e w15 ⟨v14, rfl, r14, hbA⟩
    have hS14 : Over w1 w15 := hS.more hbA
    refine ⟨_, rfl, hS14, ?_⟩
    clear hS
    have hS := hS14
    clear hS14
    obtain ⟨l14, HL14⟩ : ∃ zz, Hid (zz = (86 : BitVec 8) :: [x, l11, nm, l12, ky].flatten) := ⟨_, rfl⟩
    rw [← HL14.out] at r14
    obtain ⟨ad14, cp14, rfl, _, _, _⟩ := id r14
    simp only [Act.put, List.getElem_toArray, List.getElem_cons_succ, List.getElem_cons_zero, List.setIfInBounds_toArray, List.set_cons_zero, List.set_cons_succ]
    replace r10 := r10.below hbA
    replace r11 := r11.below hbA
    replace r12 := r12.below hbA
    replace r13 := r13.below hbA
    clear hbA
    refine wpAnyH_take (i := 16) (v := .slice ad14 l14.length cp14) rfl (by kernel_rfl) (by kernel_rfl) (by kernel_rfl) (fun _ _ _ h => h) (Or.inl ⟨by rfl, fun wx _ => by simp [go_sem]⟩) hS ?_
    simp only [Act.put, List.getElem_toArray, List.getElem_cons_succ, List.getElem_cons_zero, List.setIfInBounds_toArray, List.set_cons_zero, List.set_cons_succ]
    refine wpAnyH_done (by kernel_rfl) ?_ _
    have E : Hid (l14 = valueB x nm sr ky) := by show _ = _; rw [HL14.out]; simp [valueB, HL11.out, HL12.out]
    have HV : Hid (Reads w15 (.slice ad14 l14.length cp14) l14) := r14
    have HB : Hid (Below w.heap.size w w15) := hS.after HB1.out
    clear hS r10 r11 r12 r13 r14
    go_wp2
    go_ret
    exact ⟨_, rfl, by rw [← E.out]; exact HV.out, HB.out⟩
set_option maxHeartbeats 400000 in
theorem tRoot_any (x y z : List (BitVec 8)) (sr : Nat) (w : World) (hn : x.length = 32 ∧ y.length = 32 ∧ z.length = 32 ∧ sr < 18446744073709551616) :
    Calls Tryd.prog 17 #[.agg (Value.int .u64 (sr : Int) :: (cb x ++ (cb y ++ cb z))).toArray] w fun e w' => ∃ v, e = .returned v ∧ Reads w' v (rootB sr x y z) ∧ Below w.heap.size w w' := by
  have HN : Hid (x.length = 32 ∧ y.length = 32 ∧ z.length = 32 ∧ sr < 18446744073709551616) := hn
  clear hn
  go_enter Tryd.func17, Tryd.ntmps17
  go_wp2_with fail
  have hB0 : Below w.heap.size w (w.alloc (.cells (Value.int .u64 (sr : Int) :: (cb x ++ (cb y ++ cb z))).toArray 29)) := below_alloc _ _
  have hBb : Blk (w.alloc (.cells (Value.int .u64 (sr : Int) :: (cb x ++ (cb y ++ cb z))).toArray 29)) w.heap.size (Value.int .u64 (sr : Int) :: (cb x ++ (cb y ++ cb z))) 29 := Blk.new w _ _
  have c0 := hBb.cell 0
  have rx := hBb.reads_mid (o := 1) (bs := x) (n := 32) (c := 32) HN.out.1.symm (by have := HN.out; omega) (root_x x y z _)
  have ry := hBb.reads_mid (o := 33) (bs := y) (n := 32) (c := 32) HN.out.2.1.symm (by have := HN.out; omega) (root_y x y z _ HN.out.1)
  have rz := hBb.reads_mid (o := 65) (bs := z) (n := 32) (c := 32) HN.out.2.2.1.symm (by have := HN.out; omega) (root_z x y z _ HN.out.1 HN.out.2.1)
  clear hBb
  generalize (w.alloc (.cells (Value.int .u64 (sr : Int) :: (cb x ++ (cb y ++ cb z))).toArray 29)) = w0 at *
  refine wp_region_held_drew (S := Over w0.drew) (by kernel_rfl) (Over.refl _) ?_
  intro hS
  replace rx := reads_drew rx
  replace ry := reads_drew ry
  replace rz := reads_drew rz
  replace c0 : w0.drew.cell? ⟨w.heap.size, 0, none⟩ = some (.int .u64 (sr : Int)) := c0
  have HB1 : Hid (Below w.heap.size w w0.drew) := hB0.drew
  clear hB0
  generalize w0.drew = w1 at *
  refine wpAnyH_take (i := 0) (v := .pointer (some ⟨w.heap.size, 0, none⟩)) rfl (by kernel_rfl) (by kernel_rfl) (by kernel_rfl) (fun _ _ _ h => h) (Or.inl ⟨by rfl, fun wx _ => by simp [go_sem]⟩) hS ?_
  simp only [Act.put, List.getElem_toArray, List.getElem_cons_zero, List.setIfInBounds_toArray, List.set_cons_zero, List.set_cons_succ]
  refine wpAnyH_take (i := 1) (v := .int .u64 (sr : Int)) rfl (by kernel_rfl) (by kernel_rfl) (by kernel_rfl) (fun _ _ _ h => h) (Or.inl ⟨by rfl, fun wx hx => by (have hc := below_cell hx c0; simp [go_sem, hc])⟩) hS ?_
  simp only [Act.put, List.getElem_toArray, List.getElem_cons_succ, List.getElem_cons_zero, List.setIfInBounds_toArray, List.set_cons_zero, List.set_cons_succ]
  refine wpAnyH_take (i := 3) (v := .pointer (some ⟨w.heap.size, 1, none⟩)) rfl (by kernel_rfl) (by kernel_rfl) (by kernel_rfl) (fun _ _ _ h => h) (Or.inl ⟨by rfl, fun wx _ => by simp [go_sem]⟩) hS ?_
  simp only [Act.put, List.getElem_toArray, List.getElem_cons_succ, List.getElem_cons_zero, List.setIfInBounds_toArray, List.set_cons_zero, List.set_cons_succ]
  refine wpAnyH_take (i := 4) (v := .slice (some ⟨w.heap.size, 1, none⟩) 32 32) rfl (by kernel_rfl) (by kernel_rfl) (by kernel_rfl) (fun _ _ _ h => h) (Or.inl ⟨by rfl, fun wx _ => by simp [execOp, Act.eval, slice_dig_at]⟩) hS ?_
  simp only [Act.put, List.getElem_toArray, List.getElem_cons_succ, List.getElem_cons_zero, List.setIfInBounds_toArray, List.set_cons_zero, List.set_cons_succ]
  refine wpAnyH_take (i := 5) (v := .pointer (some ⟨w.heap.size, 33, none⟩)) rfl (by kernel_rfl) (by kernel_rfl) (by kernel_rfl) (fun _ _ _ h => h) (Or.inl ⟨by rfl, fun wx _ => by simp [go_sem]⟩) hS ?_
  simp only [Act.put, List.getElem_toArray, List.getElem_cons_succ, List.getElem_cons_zero, List.setIfInBounds_toArray, List.set_cons_zero, List.set_cons_succ]
  refine wpAnyH_take (i := 6) (v := .slice (some ⟨w.heap.size, 33, none⟩) 32 32) rfl (by kernel_rfl) (by kernel_rfl) (by kernel_rfl) (fun _ _ _ h => h) (Or.inl ⟨by rfl, fun wx _ => by simp [execOp, Act.eval, slice_dig_at]⟩) hS ?_
  simp only [Act.put, List.getElem_toArray, List.getElem_cons_succ, List.getElem_cons_zero, List.setIfInBounds_toArray, List.set_cons_zero, List.set_cons_succ]
  refine wpAnyH_take (i := 7) (v := .pointer (some ⟨w.heap.size, 65, none⟩)) rfl (by kernel_rfl) (by kernel_rfl) (by kernel_rfl) (fun _ _ _ h => h) (Or.inl ⟨by rfl, fun wx _ => by simp [go_sem]⟩) hS ?_
  simp only [Act.put, List.getElem_toArray, List.getElem_cons_succ, List.getElem_cons_zero, List.setIfInBounds_toArray, List.set_cons_zero, List.set_cons_succ]
  refine wpAnyH_take (i := 8) (v := .slice (some ⟨w.heap.size, 65, none⟩) 32 32) rfl (by kernel_rfl) (by kernel_rfl) (by kernel_rfl) (fun _ _ _ h => h) (Or.inl ⟨by rfl, fun wx _ => by simp [execOp, Act.eval, slice_dig_at]⟩) hS ?_
  simp only [Act.put, List.getElem_toArray, List.getElem_cons_succ, List.getElem_cons_zero, List.setIfInBounds_toArray, List.set_cons_zero, List.set_cons_succ]
  refine wpAnyH_enter 2 (by kernel_rfl) rfl (by rfl) (f := 37) (args := #[.int .u64 (sr : Int)]) (by simp [go_sem]) (number_any sr _) ?_
  rintro e w2 ⟨v1, rfl, r1, hbA⟩
  have hS1 : Over w1 w2 := hS.more hbA
  refine ⟨_, rfl, hS1, ?_⟩
  clear hS
  have hS := hS1
  clear hS1
  obtain ⟨l1, HL1⟩ : ∃ zz, Hid (zz = num8 sr) := ⟨_, rfl⟩
  rw [← HL1.out] at r1
  obtain ⟨ad1, cp1, rfl, _, _, _⟩ := id r1
  simp only [Act.put, List.getElem_toArray, List.getElem_cons_succ, List.getElem_cons_zero, List.setIfInBounds_toArray, List.set_cons_zero, List.set_cons_succ]
  clear hbA
  have hbA := below_alloc w2 (.cells #[.slice ad1 l1.length cp1, .slice (some ⟨w.heap.size, 1, none⟩) 32 32, .slice (some ⟨w.heap.size, 33, none⟩) 32 32, .slice (some ⟨w.heap.size, 65, none⟩) 32 32] 24)
  have r2 := readsL_four r1 (rx.below hS) (ry.below hS) (rz.below hS)
  have hS2 : Over w1 (w2.alloc (.cells #[.slice ad1 l1.length cp1, .slice (some ⟨w.heap.size, 1, none⟩) 32 32, .slice (some ⟨w.heap.size, 33, none⟩) 32 32, .slice (some ⟨w.heap.size, 65, none⟩) 32 32] 24)) := hS.more hbA
  refine wpAnyH_step 9 (.slice (some ⟨w2.heap.size, 0, none⟩) 4 4) (w2.alloc (.cells #[.slice ad1 l1.length cp1, .slice (some ⟨w.heap.size, 1, none⟩) 32 32, .slice (some ⟨w.heap.size, 33, none⟩) 32 32, .slice (some ⟨w.heap.size, 65, none⟩) 32 32] 24)) (by kernel_rfl) rfl (by rfl) (by simp [go_sem]) hS2 ?_
  simp only [Act.put, List.getElem_toArray, List.getElem_cons_succ, List.getElem_cons_zero, List.setIfInBounds_toArray, List.set_cons_zero, List.set_cons_succ]
  replace r1 := r1.below hbA
  clear hbA hS
  have hS := hS2
  clear hS2
  generalize (w2.alloc (.cells #[.slice ad1 l1.length cp1, .slice (some ⟨w.heap.size, 1, none⟩) 32 32, .slice (some ⟨w.heap.size, 33, none⟩) 32 32, .slice (some ⟨w.heap.size, 65, none⟩) 32 32] 24)) = w3 at *
  generalize w2.heap.size = n2 at *
  refine wpAnyH_enter 10 (by kernel_rfl) rfl (by rfl) (f := 34) (args := #[.int .u8 82, .slice (some ⟨n2, 0, none⟩) 4 4]) (by simp [go_sem]) (tagged_any 82 _ _ _ r2 (by simp only [fl4, HL1.out, len_num8]; have := HN.out; omega) (by simp)) ?_
  rintro e w4 ⟨v3, rfl, r3, hbA⟩
  have hS3 : Over w1 w4 := hS.more hbA
  refine ⟨_, rfl, hS3, ?_⟩
  clear hS
  have hS := hS3
  clear hS3
  obtain ⟨l3, HL3⟩ : ∃ zz, Hid (zz = (82 : BitVec 8) :: [l1, x, y, z].flatten) := ⟨_, rfl⟩
  rw [← HL3.out] at r3
  obtain ⟨ad3, cp3, rfl, _, _, _⟩ := id r3
  simp only [Act.put, List.getElem_toArray, List.getElem_cons_succ, List.getElem_cons_zero, List.setIfInBounds_toArray, List.set_cons_zero, List.set_cons_succ]
  replace r1 := r1.below hbA
  replace r2 := r2.below hbA
  clear hbA
  refine wpAnyH_take (i := 11) (v := .slice ad3 l3.length cp3) rfl (by kernel_rfl) (by kernel_rfl) (by kernel_rfl) (fun _ _ _ h => h) (Or.inl ⟨by rfl, fun wx _ => by simp [go_sem]⟩) hS ?_
  simp only [Act.put, List.getElem_toArray, List.getElem_cons_succ, List.getElem_cons_zero, List.setIfInBounds_toArray, List.set_cons_zero, List.set_cons_succ]
  refine wpAnyH_done (by kernel_rfl) ?_ _
  have E : Hid (l3 = rootB sr x y z) := by show _ = _; rw [HL3.out]; simp [rootB, HL1.out]
  have HV : Hid (Reads w4 (.slice ad3 l3.length cp3) l3) := r3
  have HB : Hid (Below w.heap.size w w4) := hS.after HB1.out
  clear hS r1 r2 r3
  go_wp2
  go_ret
  exact ⟨_, rfl, by rw [← E.out]; exact HV.out, HB.out⟩
set_option maxHeartbeats 400000 in
theorem rRoot_any (x y z : List (BitVec 8)) (sr : Nat) (w : World) (hn : x.length = 32 ∧ y.length = 32 ∧ z.length = 32 ∧ sr < 18446744073709551616) :
    Calls Tryd.prog 18 #[.agg (Value.int .u64 (sr : Int) :: (cb x ++ (cb y ++ cb z))).toArray] w fun e w' => ∃ v, e = .returned v ∧ Reads w' v (rootB sr x y z) ∧ Below w.heap.size w w' := by
  have HN : Hid (x.length = 32 ∧ y.length = 32 ∧ z.length = 32 ∧ sr < 18446744073709551616) := hn
  clear hn
  go_enter Tryd.func18, Tryd.ntmps18
  go_wp2_with fail
  have hB0 : Below w.heap.size w (w.alloc (.cells (Value.int .u64 (sr : Int) :: (cb x ++ (cb y ++ cb z))).toArray 29)) := below_alloc _ _
  have hBb : Blk (w.alloc (.cells (Value.int .u64 (sr : Int) :: (cb x ++ (cb y ++ cb z))).toArray 29)) w.heap.size (Value.int .u64 (sr : Int) :: (cb x ++ (cb y ++ cb z))) 29 := Blk.new w _ _
  have c0 := hBb.cell 0
  have rx := hBb.reads_mid (o := 1) (bs := x) (n := 32) (c := 32) HN.out.1.symm (by have := HN.out; omega) (root_x x y z _)
  have ry := hBb.reads_mid (o := 33) (bs := y) (n := 32) (c := 32) HN.out.2.1.symm (by have := HN.out; omega) (root_y x y z _ HN.out.1)
  have rz := hBb.reads_mid (o := 65) (bs := z) (n := 32) (c := 32) HN.out.2.2.1.symm (by have := HN.out; omega) (root_z x y z _ HN.out.1 HN.out.2.1)
  clear hBb
  generalize (w.alloc (.cells (Value.int .u64 (sr : Int) :: (cb x ++ (cb y ++ cb z))).toArray 29)) = w0 at *
  refine wp_region_held_drew (S := Over w0.drew) (by kernel_rfl) (Over.refl _) ?_
  intro hS
  replace rx := reads_drew rx
  replace ry := reads_drew ry
  replace rz := reads_drew rz
  replace c0 : w0.drew.cell? ⟨w.heap.size, 0, none⟩ = some (.int .u64 (sr : Int)) := c0
  have HB1 : Hid (Below w.heap.size w w0.drew) := hB0.drew
  clear hB0
  generalize w0.drew = w1 at *
  refine wpAnyH_take (i := 0) (v := .pointer (some ⟨w.heap.size, 0, none⟩)) rfl (by kernel_rfl) (by kernel_rfl) (by kernel_rfl) (fun _ _ _ h => h) (Or.inl ⟨by rfl, fun wx _ => by simp [go_sem]⟩) hS ?_
  simp only [Act.put, List.getElem_toArray, List.getElem_cons_zero, List.setIfInBounds_toArray, List.set_cons_zero, List.set_cons_succ]
  refine wpAnyH_take (i := 1) (v := .int .u64 (sr : Int)) rfl (by kernel_rfl) (by kernel_rfl) (by kernel_rfl) (fun _ _ _ h => h) (Or.inl ⟨by rfl, fun wx hx => by (have hc := below_cell hx c0; simp [go_sem, hc])⟩) hS ?_
  simp only [Act.put, List.getElem_toArray, List.getElem_cons_succ, List.getElem_cons_zero, List.setIfInBounds_toArray, List.set_cons_zero, List.set_cons_succ]
  refine wpAnyH_take (i := 3) (v := .pointer (some ⟨w.heap.size, 1, none⟩)) rfl (by kernel_rfl) (by kernel_rfl) (by kernel_rfl) (fun _ _ _ h => h) (Or.inl ⟨by rfl, fun wx _ => by simp [go_sem]⟩) hS ?_
  simp only [Act.put, List.getElem_toArray, List.getElem_cons_succ, List.getElem_cons_zero, List.setIfInBounds_toArray, List.set_cons_zero, List.set_cons_succ]
  refine wpAnyH_take (i := 4) (v := .slice (some ⟨w.heap.size, 1, none⟩) 32 32) rfl (by kernel_rfl) (by kernel_rfl) (by kernel_rfl) (fun _ _ _ h => h) (Or.inl ⟨by rfl, fun wx _ => by simp [execOp, Act.eval, slice_dig_at]⟩) hS ?_
  simp only [Act.put, List.getElem_toArray, List.getElem_cons_succ, List.getElem_cons_zero, List.setIfInBounds_toArray, List.set_cons_zero, List.set_cons_succ]
  refine wpAnyH_take (i := 5) (v := .pointer (some ⟨w.heap.size, 33, none⟩)) rfl (by kernel_rfl) (by kernel_rfl) (by kernel_rfl) (fun _ _ _ h => h) (Or.inl ⟨by rfl, fun wx _ => by simp [go_sem]⟩) hS ?_
  simp only [Act.put, List.getElem_toArray, List.getElem_cons_succ, List.getElem_cons_zero, List.setIfInBounds_toArray, List.set_cons_zero, List.set_cons_succ]
  refine wpAnyH_take (i := 6) (v := .slice (some ⟨w.heap.size, 33, none⟩) 32 32) rfl (by kernel_rfl) (by kernel_rfl) (by kernel_rfl) (fun _ _ _ h => h) (Or.inl ⟨by rfl, fun wx _ => by simp [execOp, Act.eval, slice_dig_at]⟩) hS ?_
  simp only [Act.put, List.getElem_toArray, List.getElem_cons_succ, List.getElem_cons_zero, List.setIfInBounds_toArray, List.set_cons_zero, List.set_cons_succ]
  refine wpAnyH_take (i := 7) (v := .pointer (some ⟨w.heap.size, 65, none⟩)) rfl (by kernel_rfl) (by kernel_rfl) (by kernel_rfl) (fun _ _ _ h => h) (Or.inl ⟨by rfl, fun wx _ => by simp [go_sem]⟩) hS ?_
  simp only [Act.put, List.getElem_toArray, List.getElem_cons_succ, List.getElem_cons_zero, List.setIfInBounds_toArray, List.set_cons_zero, List.set_cons_succ]
  refine wpAnyH_take (i := 8) (v := .slice (some ⟨w.heap.size, 65, none⟩) 32 32) rfl (by kernel_rfl) (by kernel_rfl) (by kernel_rfl) (fun _ _ _ h => h) (Or.inl ⟨by rfl, fun wx _ => by simp [execOp, Act.eval, slice_dig_at]⟩) hS ?_
  simp only [Act.put, List.getElem_toArray, List.getElem_cons_succ, List.getElem_cons_zero, List.setIfInBounds_toArray, List.set_cons_zero, List.set_cons_succ]
  refine wpAnyH_enter 2 (by kernel_rfl) rfl (by rfl) (f := 38) (args := #[.int .u64 (sr : Int)]) (by simp [go_sem]) (rnumber_any sr (by have := HN.out; omega) _) ?_
  rintro e w2 ⟨v1, rfl, r1, hbA⟩
  have hS1 : Over w1 w2 := hS.more hbA
  refine ⟨_, rfl, hS1, ?_⟩
  clear hS
  have hS := hS1
  clear hS1
  obtain ⟨l1, HL1⟩ : ∃ zz, Hid (zz = num8 sr) := ⟨_, rfl⟩
  rw [← HL1.out] at r1
  obtain ⟨ad1, cp1, rfl, _, _, _⟩ := id r1
  simp only [Act.put, List.getElem_toArray, List.getElem_cons_succ, List.getElem_cons_zero, List.setIfInBounds_toArray, List.set_cons_zero, List.set_cons_succ]
  clear hbA
  have hbA := below_alloc w2 (.cells #[.slice ad1 l1.length cp1, .slice (some ⟨w.heap.size, 1, none⟩) 32 32, .slice (some ⟨w.heap.size, 33, none⟩) 32 32, .slice (some ⟨w.heap.size, 65, none⟩) 32 32] 24)
  have r2 := readsL_four r1 (rx.below hS) (ry.below hS) (rz.below hS)
  have hS2 : Over w1 (w2.alloc (.cells #[.slice ad1 l1.length cp1, .slice (some ⟨w.heap.size, 1, none⟩) 32 32, .slice (some ⟨w.heap.size, 33, none⟩) 32 32, .slice (some ⟨w.heap.size, 65, none⟩) 32 32] 24)) := hS.more hbA
  refine wpAnyH_step 9 (.slice (some ⟨w2.heap.size, 0, none⟩) 4 4) (w2.alloc (.cells #[.slice ad1 l1.length cp1, .slice (some ⟨w.heap.size, 1, none⟩) 32 32, .slice (some ⟨w.heap.size, 33, none⟩) 32 32, .slice (some ⟨w.heap.size, 65, none⟩) 32 32] 24)) (by kernel_rfl) rfl (by rfl) (by simp [go_sem]) hS2 ?_
  simp only [Act.put, List.getElem_toArray, List.getElem_cons_succ, List.getElem_cons_zero, List.setIfInBounds_toArray, List.set_cons_zero, List.set_cons_succ]
  replace r1 := r1.below hbA
  clear hbA hS
  have hS := hS2
  clear hS2
  generalize (w2.alloc (.cells #[.slice ad1 l1.length cp1, .slice (some ⟨w.heap.size, 1, none⟩) 32 32, .slice (some ⟨w.heap.size, 33, none⟩) 32 32, .slice (some ⟨w.heap.size, 65, none⟩) 32 32] 24)) = w3 at *
  generalize w2.heap.size = n2 at *
  refine wpAnyH_enter 10 (by kernel_rfl) rfl (by rfl) (f := 35) (args := #[.int .u8 82, .slice (some ⟨n2, 0, none⟩) 4 4]) (by simp [go_sem]) (rsign_any 82 _ _ _ r2 (by simp only [fl4, HL1.out, len_num8]; have := HN.out; omega) (by simp)) ?_
  rintro e w4 ⟨v3, rfl, r3, hbA⟩
  have hS3 : Over w1 w4 := hS.more hbA
  refine ⟨_, rfl, hS3, ?_⟩
  clear hS
  have hS := hS3
  clear hS3
  obtain ⟨l3, HL3⟩ : ∃ zz, Hid (zz = (82 : BitVec 8) :: [l1, x, y, z].flatten) := ⟨_, rfl⟩
  rw [← HL3.out] at r3
  obtain ⟨ad3, cp3, rfl, _, _, _⟩ := id r3
  simp only [Act.put, List.getElem_toArray, List.getElem_cons_succ, List.getElem_cons_zero, List.setIfInBounds_toArray, List.set_cons_zero, List.set_cons_succ]
  replace r1 := r1.below hbA
  replace r2 := r2.below hbA
  clear hbA
  refine wpAnyH_take (i := 11) (v := .slice ad3 l3.length cp3) rfl (by kernel_rfl) (by kernel_rfl) (by kernel_rfl) (fun _ _ _ h => h) (Or.inl ⟨by rfl, fun wx _ => by simp [go_sem]⟩) hS ?_
  simp only [Act.put, List.getElem_toArray, List.getElem_cons_succ, List.getElem_cons_zero, List.setIfInBounds_toArray, List.set_cons_zero, List.set_cons_succ]
  refine wpAnyH_done (by kernel_rfl) ?_ _
  have E : Hid (l3 = rootB sr x y z) := by show _ = _; rw [HL3.out]; simp [rootB, HL1.out]
  have HV : Hid (Reads w4 (.slice ad3 l3.length cp3) l3) := r3
  have HB : Hid (Below w.heap.size w w4) := hS.after HB1.out
  clear hS r1 r2 r3
  go_wp2
  go_ret
  exact ⟨_, rfl, by rw [← E.out]; exact HV.out, HB.out⟩
end Go.Proofs.YtaleeaocmomjlaaDoor

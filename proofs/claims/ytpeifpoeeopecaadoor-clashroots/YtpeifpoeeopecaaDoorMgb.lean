/- Texts that the proof leans on, one behind the other: The walks of LeafBytes, NodeBytes, ValueBytes and RootBytes, of tags and of blazonref03. tags' texts lie in new blocks. Numbers, texts and lists as bytes, each in one way: plain lists, no program is named here. .. -/
import Derived.Test.YtpeifpoeeopecaaDoorMga
import Derived.Lib.Bytealg
import Derived.Deep.RegionHeld3
import Derived.Laws.ResultCell
import Derived.RangeFuncNested
import Derived.RangeFuncBound
import Derived.RangeFuncCalls
import Derived.RangeFuncLeaves
import Derived.Shelf.Abstract
import Derived.Shelf.RegionOpen
import Derived.WalkKit
import Derived.OwnWalkIn
import Derived.TacticsInMore
import Derived.LoopNIn
import Derived.LoopIn
import Derived.Scope
import Derived.Lib.BytesEntry
/- The walks of LeafBytes, NodeBytes, ValueBytes and RootBytes, of tags and of blazonref03. -/
namespace Go.Proofs.YtpeifpoeeopecaaDoor
open Go.RowKit
set_option maxRecDepth 100000
/-- what is hashed of a leaf, and of a tree of two: a sign and two digests -/
def pairB (c : BitVec 8) (x y : List (BitVec 8)) : List (BitVec 8) := c :: (x ++ y)
/-- what is hashed of a binding -/
def valueB (x nm : List (BitVec 8)) (sr : Nat) (ky : List (BitVec 8)) : List (BitVec 8) := 86 :: (x ++ (num8 nm.length ++ (nm ++ (num8 sr ++ ky))))
/-- what is hashed of a root -/
def rootB (n : Nat) (x y z : List (BitVec 8)) : List (BitVec 8) := 82 :: (num8 n ++ (x ++ (y ++ z)))
theorem reads_drew {w : World} {v : Value} {bs : List (BitVec 8)} (h : Reads w v bs) : Reads w.drew v bs := h
theorem root_x (x y z : List (BitVec 8)) (v : Value) : ∀ j, j < x.length → (v :: (cb x ++ (cb y ++ cb z)))[1 + j]? = some (.int .u8 ((x.getD j 0).toNat : Int)) := by
  intro j hj
  rw [show 1 + j = j + 1 by omega, List.getElem?_cons_succ, List.getElem?_append_left (by rw [cb_len]; exact hj), cb_get _ _ hj]
theorem root_y (x y z : List (BitVec 8)) (v : Value) (hx : x.length = 32) : ∀ j, j < y.length → (v :: (cb x ++ (cb y ++ cb z)))[33 + j]? = some (.int .u8 ((y.getD j 0).toNat : Int)) := by
  intro j hj
  rw [show 33 + j = (32 + j) + 1 by omega, List.getElem?_cons_succ, List.getElem?_append_right (by rw [cb_len]; omega), cb_len, hx, show 32 + j - 32 = j by omega, List.getElem?_append_left (by rw [cb_len]; exact hj), cb_get _ _ hj]
theorem root_z (x y z : List (BitVec 8)) (v : Value) (hx : x.length = 32) (hy : y.length = 32) : ∀ j, j < z.length → (v :: (cb x ++ (cb y ++ cb z)))[65 + j]? = some (.int .u8 ((z.getD j 0).toNat : Int)) := by
  intro j hj
  rw [show 65 + j = (64 + j) + 1 by omega, List.getElem?_cons_succ, List.getElem?_append_right (by rw [cb_len]; omega), cb_len, hx, List.getElem?_append_right (by rw [cb_len]; omega), cb_len, hy, show 64 + j - 32 - 32 = j by omega, cb_get _ _ hj]
theorem cell_drew {w : World} {p : Addr} {v : Option Value} (h : w.cell? p = v) : w.drew.cell? p = v := h
set_option maxHeartbeats 400000 in
theorem tLeaf_any (x y : List (BitVec 8)) (hx : x.length = 32) (hy : y.length = 32) (w : World) : Calls Tryd.prog 71 #[.agg (cb x).toArray, .agg (cb y).toArray] w fun e w' => ∃ v, e = .returned v ∧ Reads w' v (pairB 76 x y) ∧ Below w.heap.size w w' := by
  have HN : Hid (x.length = 32 ∧ y.length = 32) := ⟨hx, hy⟩
  clear hx hy
  go_enter Tryd.func71, Tryd.ntmps71
  go_wp2_with fail
  have hB0 : Below w.heap.size w ((w.alloc (.cells (cb x).toArray 33)).alloc (.cells (cb y).toArray 33)) := (below_alloc _ _).trans ((below_alloc _ _).mono (by simp))
  have rx : Reads ((w.alloc (.cells (cb x).toArray 33)).alloc (.cells (cb y).toArray 33)) (.slice (some ⟨w.heap.size, 0, none⟩) 32 32) x := ((Blk.new w (cb x) 33).alloc _).reads HN.out.1.symm (by have := HN.out; omega)
  have ry : Reads ((w.alloc (.cells (cb x).toArray 33)).alloc (.cells (cb y).toArray 33)) (.slice (some ⟨w.heap.size + 1, 0, none⟩) 32 32) y := (Blk.new_at (by simp) (cb y) 33).reads HN.out.2.symm (by have := HN.out; omega)
  generalize ((w.alloc (.cells (cb x).toArray 33)).alloc (.cells (cb y).toArray 33)) = w0 at *
  refine wp_region_held_drew (S := Over w0.drew) (by kernel_rfl) (Over.refl _) ?_
  intro hS
  replace rx := reads_drew rx
  replace ry := reads_drew ry
  have HB1 : Hid (Below w.heap.size w w0.drew) := hB0.drew
  clear hB0
  generalize w0.drew = w1 at *
  refine wpAnyH_take (i := 0) (v := .slice (some ⟨w.heap.size, 0, none⟩) 32 32) rfl (by kernel_rfl) (by kernel_rfl) (by kernel_rfl) (fun _ _ _ h => h) (Or.inl ⟨by rfl, fun wx _ => by simp [execOp, Act.eval, slice_dig]⟩) hS ?_
  simp only [Act.put, List.getElem_toArray, List.getElem_cons_zero, List.setIfInBounds_toArray, List.set_cons_zero, List.set_cons_succ]
  refine wpAnyH_take (i := 1) (v := .slice (some ⟨w.heap.size + 1, 0, none⟩) 32 32) rfl (by kernel_rfl) (by kernel_rfl) (by kernel_rfl) (fun _ _ _ h => h) (Or.inl ⟨by rfl, fun wx _ => by simp [execOp, Act.eval, slice_dig]⟩) hS ?_
  simp only [Act.put, List.getElem_toArray, List.getElem_cons_succ, List.getElem_cons_zero, List.setIfInBounds_toArray, List.set_cons_zero, List.set_cons_succ]
  have hbA := below_alloc w1 (.cells #[.slice (some ⟨w.heap.size, 0, none⟩) 32 32, .slice (some ⟨w.heap.size + 1, 0, none⟩) 32 32] 23)
  have r1 := readsL_two (rx.below hS) (ry.below hS)
  have hS1 : Over w1 (w1.alloc (.cells #[.slice (some ⟨w.heap.size, 0, none⟩) 32 32, .slice (some ⟨w.heap.size + 1, 0, none⟩) 32 32] 23)) := hS.more hbA
  refine wpAnyH_step 2 (.slice (some ⟨w1.heap.size, 0, none⟩) 2 2) (w1.alloc (.cells #[.slice (some ⟨w.heap.size, 0, none⟩) 32 32, .slice (some ⟨w.heap.size + 1, 0, none⟩) 32 32] 23)) (by kernel_rfl) rfl (by rfl) (by simp [go_sem]) hS1 ?_
  simp only [Act.put, List.getElem_toArray, List.getElem_cons_succ, List.getElem_cons_zero, List.setIfInBounds_toArray, List.set_cons_zero, List.set_cons_succ]
  clear hbA hS
  have hS := hS1
  clear hS1
  generalize (w1.alloc (.cells #[.slice (some ⟨w.heap.size, 0, none⟩) 32 32, .slice (some ⟨w.heap.size + 1, 0, none⟩) 32 32] 23)) = w2 at *
  generalize w1.heap.size = n1 at *
  refine wpAnyH_enter 3 (by kernel_rfl) rfl (by rfl) (f := 60) (args := #[.int .u8 76, .slice (some ⟨n1, 0, none⟩) 2 2]) (by simp [go_sem]) (tagged_any 76 _ _ _ r1 (by simp only [fl2]; have := HN.out; omega) (by simp)) ?_
  rintro e w3 ⟨v2, rfl, r2, hbA⟩
  have hS2 : Over w1 w3 := hS.more hbA
  refine ⟨_, rfl, hS2, ?_⟩
  clear hS
  have hS := hS2
  clear hS2
  obtain ⟨l2, HL2⟩ : ∃ zz, Hid (zz = (76 : BitVec 8) :: [x, y].flatten) := ⟨_, rfl⟩
  rw [← HL2.out] at r2
  obtain ⟨ad2, cp2, rfl, _, _, _⟩ := id r2
  simp only [Act.put, List.getElem_toArray, List.getElem_cons_succ, List.getElem_cons_zero, List.setIfInBounds_toArray, List.set_cons_zero, List.set_cons_succ]
  replace r1 := r1.below hbA
  clear hbA
  refine wpAnyH_take (i := 4) (v := .slice ad2 l2.length cp2) rfl (by kernel_rfl) (by kernel_rfl) (by kernel_rfl) (fun _ _ _ h => h) (Or.inl ⟨by rfl, fun wx _ => by simp [go_sem]⟩) hS ?_
  simp only [Act.put, List.getElem_toArray, List.getElem_cons_succ, List.getElem_cons_zero, List.setIfInBounds_toArray, List.set_cons_zero, List.set_cons_succ]
  refine wpAnyH_done (by kernel_rfl) ?_ _
  have E : Hid (l2 = pairB 76 x y) := by show _ = _; rw [HL2.out]; simp [pairB]
  have HV : Hid (Reads w3 (.slice ad2 l2.length cp2) l2) := r2
  have HB : Hid (Below w.heap.size w w3) := hS.after HB1.out
  clear hS r1 r2
  go_wp2
  go_ret
  exact ⟨_, rfl, by rw [← E.out]; exact HV.out, HB.out⟩
set_option maxHeartbeats 400000 in
theorem tNode_any (x y : List (BitVec 8)) (hx : x.length = 32) (hy : y.length = 32) (w : World) : Calls Tryd.prog 74 #[.agg (cb x).toArray, .agg (cb y).toArray] w fun e w' => ∃ v, e = .returned v ∧ Reads w' v (pairB 78 x y) ∧ Below w.heap.size w w' := by
  have HN : Hid (x.length = 32 ∧ y.length = 32) := ⟨hx, hy⟩
  clear hx hy
  go_enter Tryd.func74, Tryd.ntmps74
  go_wp2_with fail
  have hB0 : Below w.heap.size w ((w.alloc (.cells (cb x).toArray 33)).alloc (.cells (cb y).toArray 33)) := (below_alloc _ _).trans ((below_alloc _ _).mono (by simp))
  have rx : Reads ((w.alloc (.cells (cb x).toArray 33)).alloc (.cells (cb y).toArray 33)) (.slice (some ⟨w.heap.size, 0, none⟩) 32 32) x := ((Blk.new w (cb x) 33).alloc _).reads HN.out.1.symm (by have := HN.out; omega)
  have ry : Reads ((w.alloc (.cells (cb x).toArray 33)).alloc (.cells (cb y).toArray 33)) (.slice (some ⟨w.heap.size + 1, 0, none⟩) 32 32) y := (Blk.new_at (by simp) (cb y) 33).reads HN.out.2.symm (by have := HN.out; omega)
  generalize ((w.alloc (.cells (cb x).toArray 33)).alloc (.cells (cb y).toArray 33)) = w0 at *
  refine wp_region_held_drew (S := Over w0.drew) (by kernel_rfl) (Over.refl _) ?_
  intro hS
  replace rx := reads_drew rx
  replace ry := reads_drew ry
  have HB1 : Hid (Below w.heap.size w w0.drew) := hB0.drew
  clear hB0
  generalize w0.drew = w1 at *
  refine wpAnyH_take (i := 0) (v := .slice (some ⟨w.heap.size, 0, none⟩) 32 32) rfl (by kernel_rfl) (by kernel_rfl) (by kernel_rfl) (fun _ _ _ h => h) (Or.inl ⟨by rfl, fun wx _ => by simp [execOp, Act.eval, slice_dig]⟩) hS ?_
  simp only [Act.put, List.getElem_toArray, List.getElem_cons_zero, List.setIfInBounds_toArray, List.set_cons_zero, List.set_cons_succ]
  refine wpAnyH_take (i := 1) (v := .slice (some ⟨w.heap.size + 1, 0, none⟩) 32 32) rfl (by kernel_rfl) (by kernel_rfl) (by kernel_rfl) (fun _ _ _ h => h) (Or.inl ⟨by rfl, fun wx _ => by simp [execOp, Act.eval, slice_dig]⟩) hS ?_
  simp only [Act.put, List.getElem_toArray, List.getElem_cons_succ, List.getElem_cons_zero, List.setIfInBounds_toArray, List.set_cons_zero, List.set_cons_succ]
  have hbA := below_alloc w1 (.cells #[.slice (some ⟨w.heap.size, 0, none⟩) 32 32, .slice (some ⟨w.heap.size + 1, 0, none⟩) 32 32] 23)
  have r1 := readsL_two (rx.below hS) (ry.below hS)
  have hS1 : Over w1 (w1.alloc (.cells #[.slice (some ⟨w.heap.size, 0, none⟩) 32 32, .slice (some ⟨w.heap.size + 1, 0, none⟩) 32 32] 23)) := hS.more hbA
  refine wpAnyH_step 2 (.slice (some ⟨w1.heap.size, 0, none⟩) 2 2) (w1.alloc (.cells #[.slice (some ⟨w.heap.size, 0, none⟩) 32 32, .slice (some ⟨w.heap.size + 1, 0, none⟩) 32 32] 23)) (by kernel_rfl) rfl (by rfl) (by simp [go_sem]) hS1 ?_
  simp only [Act.put, List.getElem_toArray, List.getElem_cons_succ, List.getElem_cons_zero, List.setIfInBounds_toArray, List.set_cons_zero, List.set_cons_succ]
  clear hbA hS
  have hS := hS1
  clear hS1
  generalize (w1.alloc (.cells #[.slice (some ⟨w.heap.size, 0, none⟩) 32 32, .slice (some ⟨w.heap.size + 1, 0, none⟩) 32 32] 23)) = w2 at *
  generalize w1.heap.size = n1 at *
  refine wpAnyH_enter 3 (by kernel_rfl) rfl (by rfl) (f := 60) (args := #[.int .u8 78, .slice (some ⟨n1, 0, none⟩) 2 2]) (by simp [go_sem]) (tagged_any 78 _ _ _ r1 (by simp only [fl2]; have := HN.out; omega) (by simp)) ?_
  rintro e w3 ⟨v2, rfl, r2, hbA⟩
  have hS2 : Over w1 w3 := hS.more hbA
  refine ⟨_, rfl, hS2, ?_⟩
  clear hS
  have hS := hS2
  clear hS2
  obtain ⟨l2, HL2⟩ : ∃ zz, Hid (zz = (78 : BitVec 8) :: [x, y].flatten) := ⟨_, rfl⟩
  rw [← HL2.out] at r2
  obtain ⟨ad2, cp2, rfl, _, _, _⟩ := id r2
  simp only [Act.put, List.getElem_toArray, List.getElem_cons_succ, List.getElem_cons_zero, List.setIfInBounds_toArray, List.set_cons_zero, List.set_cons_succ]
  replace r1 := r1.below hbA
  clear hbA
  refine wpAnyH_take (i := 4) (v := .slice ad2 l2.length cp2) rfl (by kernel_rfl) (by kernel_rfl) (by kernel_rfl) (fun _ _ _ h => h) (Or.inl ⟨by rfl, fun wx _ => by simp [go_sem]⟩) hS ?_
  simp only [Act.put, List.getElem_toArray, List.getElem_cons_succ, List.getElem_cons_zero, List.setIfInBounds_toArray, List.set_cons_zero, List.set_cons_succ]
  refine wpAnyH_done (by kernel_rfl) ?_ _
  have E : Hid (l2 = pairB 78 x y) := by show _ = _; rw [HL2.out]; simp [pairB]
  have HV : Hid (Reads w3 (.slice ad2 l2.length cp2) l2) := r2
  have HB : Hid (Below w.heap.size w w3) := hS.after HB1.out
  clear hS r1 r2
  go_wp2
  go_ret
  exact ⟨_, rfl, by rw [← E.out]; exact HV.out, HB.out⟩
set_option maxHeartbeats 400000 in
theorem rLeaf_any (x y : List (BitVec 8)) (hx : x.length = 32) (hy : y.length = 32) (w : World) : Calls Tryd.prog 48 #[.agg (cb x).toArray, .agg (cb y).toArray] w fun e w' => ∃ v, e = .returned v ∧ Reads w' v (pairB 76 x y) ∧ Below w.heap.size w w' := by
  have HN : Hid (x.length = 32 ∧ y.length = 32) := ⟨hx, hy⟩
  clear hx hy
  go_enter Tryd.func48, Tryd.ntmps48
  go_wp2_with fail
  have hB0 : Below w.heap.size w ((w.alloc (.cells (cb x).toArray 33)).alloc (.cells (cb y).toArray 33)) := (below_alloc _ _).trans ((below_alloc _ _).mono (by simp))
  have rx : Reads ((w.alloc (.cells (cb x).toArray 33)).alloc (.cells (cb y).toArray 33)) (.slice (some ⟨w.heap.size, 0, none⟩) 32 32) x := ((Blk.new w (cb x) 33).alloc _).reads HN.out.1.symm (by have := HN.out; omega)
  have ry : Reads ((w.alloc (.cells (cb x).toArray 33)).alloc (.cells (cb y).toArray 33)) (.slice (some ⟨w.heap.size + 1, 0, none⟩) 32 32) y := (Blk.new_at (by simp) (cb y) 33).reads HN.out.2.symm (by have := HN.out; omega)
  generalize ((w.alloc (.cells (cb x).toArray 33)).alloc (.cells (cb y).toArray 33)) = w0 at *
  refine wp_region_held_drew (S := Over w0.drew) (by kernel_rfl) (Over.refl _) ?_
  intro hS
  replace rx := reads_drew rx
  replace ry := reads_drew ry
  have HB1 : Hid (Below w.heap.size w w0.drew) := hB0.drew
  clear hB0
  generalize w0.drew = w1 at *
  refine wpAnyH_take (i := 0) (v := .slice (some ⟨w.heap.size, 0, none⟩) 32 32) rfl (by kernel_rfl) (by kernel_rfl) (by kernel_rfl) (fun _ _ _ h => h) (Or.inl ⟨by rfl, fun wx _ => by simp [execOp, Act.eval, slice_dig]⟩) hS ?_
  simp only [Act.put, List.getElem_toArray, List.getElem_cons_zero, List.setIfInBounds_toArray, List.set_cons_zero, List.set_cons_succ]
  refine wpAnyH_take (i := 1) (v := .slice (some ⟨w.heap.size + 1, 0, none⟩) 32 32) rfl (by kernel_rfl) (by kernel_rfl) (by kernel_rfl) (fun _ _ _ h => h) (Or.inl ⟨by rfl, fun wx _ => by simp [execOp, Act.eval, slice_dig]⟩) hS ?_
  simp only [Act.put, List.getElem_toArray, List.getElem_cons_succ, List.getElem_cons_zero, List.setIfInBounds_toArray, List.set_cons_zero, List.set_cons_succ]
  have hbA := below_alloc w1 (.cells #[.slice (some ⟨w.heap.size, 0, none⟩) 32 32, .slice (some ⟨w.heap.size + 1, 0, none⟩) 32 32] 23)
  have r1 := readsL_two (rx.below hS) (ry.below hS)
  have hS1 : Over w1 (w1.alloc (.cells #[.slice (some ⟨w.heap.size, 0, none⟩) 32 32, .slice (some ⟨w.heap.size + 1, 0, none⟩) 32 32] 23)) := hS.more hbA
  refine wpAnyH_step 2 (.slice (some ⟨w1.heap.size, 0, none⟩) 2 2) (w1.alloc (.cells #[.slice (some ⟨w.heap.size, 0, none⟩) 32 32, .slice (some ⟨w.heap.size + 1, 0, none⟩) 32 32] 23)) (by kernel_rfl) rfl (by rfl) (by simp [go_sem]) hS1 ?_
  simp only [Act.put, List.getElem_toArray, List.getElem_cons_succ, List.getElem_cons_zero, List.setIfInBounds_toArray, List.set_cons_zero, List.set_cons_succ]
  clear hbA hS
  have hS := hS1
  clear hS1
  generalize (w1.alloc (.cells #[.slice (some ⟨w.heap.size, 0, none⟩) 32 32, .slice (some ⟨w.heap.size + 1, 0, none⟩) 32 32] 23)) = w2 at *
  generalize w1.heap.size = n1 at *
  refine wpAnyH_enter 3 (by kernel_rfl) rfl (by rfl) (f := 62) (args := #[.int .u8 76, .slice (some ⟨n1, 0, none⟩) 2 2]) (by simp [go_sem]) (rsign_any 76 _ _ _ r1 (by simp only [fl2]; have := HN.out; omega) (by simp)) ?_
  rintro e w3 ⟨v2, rfl, r2, hbA⟩
  have hS2 : Over w1 w3 := hS.more hbA
  refine ⟨_, rfl, hS2, ?_⟩
  clear hS
  have hS := hS2
  clear hS2
  obtain ⟨l2, HL2⟩ : ∃ zz, Hid (zz = (76 : BitVec 8) :: [x, y].flatten) := ⟨_, rfl⟩
  rw [← HL2.out] at r2
  obtain ⟨ad2, cp2, rfl, _, _, _⟩ := id r2
  simp only [Act.put, List.getElem_toArray, List.getElem_cons_succ, List.getElem_cons_zero, List.setIfInBounds_toArray, List.set_cons_zero, List.set_cons_succ]
  replace r1 := r1.below hbA
  clear hbA
  refine wpAnyH_take (i := 4) (v := .slice ad2 l2.length cp2) rfl (by kernel_rfl) (by kernel_rfl) (by kernel_rfl) (fun _ _ _ h => h) (Or.inl ⟨by rfl, fun wx _ => by simp [go_sem]⟩) hS ?_
  simp only [Act.put, List.getElem_toArray, List.getElem_cons_succ, List.getElem_cons_zero, List.setIfInBounds_toArray, List.set_cons_zero, List.set_cons_succ]
  refine wpAnyH_done (by kernel_rfl) ?_ _
  have E : Hid (l2 = pairB 76 x y) := by show _ = _; rw [HL2.out]; simp [pairB]
  have HV : Hid (Reads w3 (.slice ad2 l2.length cp2) l2) := r2
  have HB : Hid (Below w.heap.size w w3) := hS.after HB1.out
  clear hS r1 r2
  go_wp2
  go_ret
  exact ⟨_, rfl, by rw [← E.out]; exact HV.out, HB.out⟩
set_option maxHeartbeats 400000 in
theorem rNode_any (x y : List (BitVec 8)) (hx : x.length = 32) (hy : y.length = 32) (w : World) : Calls Tryd.prog 55 #[.agg (cb x).toArray, .agg (cb y).toArray] w fun e w' => ∃ v, e = .returned v ∧ Reads w' v (pairB 78 x y) ∧ Below w.heap.size w w' := by
  have HN : Hid (x.length = 32 ∧ y.length = 32) := ⟨hx, hy⟩
  clear hx hy
  go_enter Tryd.func55, Tryd.ntmps55
  go_wp2_with fail
  have hB0 : Below w.heap.size w ((w.alloc (.cells (cb x).toArray 33)).alloc (.cells (cb y).toArray 33)) := (below_alloc _ _).trans ((below_alloc _ _).mono (by simp))
  have rx : Reads ((w.alloc (.cells (cb x).toArray 33)).alloc (.cells (cb y).toArray 33)) (.slice (some ⟨w.heap.size, 0, none⟩) 32 32) x := ((Blk.new w (cb x) 33).alloc _).reads HN.out.1.symm (by have := HN.out; omega)
  have ry : Reads ((w.alloc (.cells (cb x).toArray 33)).alloc (.cells (cb y).toArray 33)) (.slice (some ⟨w.heap.size + 1, 0, none⟩) 32 32) y := (Blk.new_at (by simp) (cb y) 33).reads HN.out.2.symm (by have := HN.out; omega)
  generalize ((w.alloc (.cells (cb x).toArray 33)).alloc (.cells (cb y).toArray 33)) = w0 at *
  refine wp_region_held_drew (S := Over w0.drew) (by kernel_rfl) (Over.refl _) ?_
  intro hS
  replace rx := reads_drew rx
  replace ry := reads_drew ry
  have HB1 : Hid (Below w.heap.size w w0.drew) := hB0.drew
  clear hB0
  generalize w0.drew = w1 at *
  refine wpAnyH_take (i := 0) (v := .slice (some ⟨w.heap.size, 0, none⟩) 32 32) rfl (by kernel_rfl) (by kernel_rfl) (by kernel_rfl) (fun _ _ _ h => h) (Or.inl ⟨by rfl, fun wx _ => by simp [execOp, Act.eval, slice_dig]⟩) hS ?_
  simp only [Act.put, List.getElem_toArray, List.getElem_cons_zero, List.setIfInBounds_toArray, List.set_cons_zero, List.set_cons_succ]
  refine wpAnyH_take (i := 1) (v := .slice (some ⟨w.heap.size + 1, 0, none⟩) 32 32) rfl (by kernel_rfl) (by kernel_rfl) (by kernel_rfl) (fun _ _ _ h => h) (Or.inl ⟨by rfl, fun wx _ => by simp [execOp, Act.eval, slice_dig]⟩) hS ?_
  simp only [Act.put, List.getElem_toArray, List.getElem_cons_succ, List.getElem_cons_zero, List.setIfInBounds_toArray, List.set_cons_zero, List.set_cons_succ]
  have hbA := below_alloc w1 (.cells #[.slice (some ⟨w.heap.size, 0, none⟩) 32 32, .slice (some ⟨w.heap.size + 1, 0, none⟩) 32 32] 23)
  have r1 := readsL_two (rx.below hS) (ry.below hS)
  have hS1 : Over w1 (w1.alloc (.cells #[.slice (some ⟨w.heap.size, 0, none⟩) 32 32, .slice (some ⟨w.heap.size + 1, 0, none⟩) 32 32] 23)) := hS.more hbA
  refine wpAnyH_step 2 (.slice (some ⟨w1.heap.size, 0, none⟩) 2 2) (w1.alloc (.cells #[.slice (some ⟨w.heap.size, 0, none⟩) 32 32, .slice (some ⟨w.heap.size + 1, 0, none⟩) 32 32] 23)) (by kernel_rfl) rfl (by rfl) (by simp [go_sem]) hS1 ?_
  simp only [Act.put, List.getElem_toArray, List.getElem_cons_succ, List.getElem_cons_zero, List.setIfInBounds_toArray, List.set_cons_zero, List.set_cons_succ]
  clear hbA hS
  have hS := hS1
  clear hS1
  generalize (w1.alloc (.cells #[.slice (some ⟨w.heap.size, 0, none⟩) 32 32, .slice (some ⟨w.heap.size + 1, 0, none⟩) 32 32] 23)) = w2 at *
  generalize w1.heap.size = n1 at *
  refine wpAnyH_enter 3 (by kernel_rfl) rfl (by rfl) (f := 62) (args := #[.int .u8 78, .slice (some ⟨n1, 0, none⟩) 2 2]) (by simp [go_sem]) (rsign_any 78 _ _ _ r1 (by simp only [fl2]; have := HN.out; omega) (by simp)) ?_
  rintro e w3 ⟨v2, rfl, r2, hbA⟩
  have hS2 : Over w1 w3 := hS.more hbA
  refine ⟨_, rfl, hS2, ?_⟩
  clear hS
  have hS := hS2
  clear hS2
  obtain ⟨l2, HL2⟩ : ∃ zz, Hid (zz = (78 : BitVec 8) :: [x, y].flatten) := ⟨_, rfl⟩
  rw [← HL2.out] at r2
  obtain ⟨ad2, cp2, rfl, _, _, _⟩ := id r2
  simp only [Act.put, List.getElem_toArray, List.getElem_cons_succ, List.getElem_cons_zero, List.setIfInBounds_toArray, List.set_cons_zero, List.set_cons_succ]
  replace r1 := r1.below hbA
  clear hbA
  refine wpAnyH_take (i := 4) (v := .slice ad2 l2.length cp2) rfl (by kernel_rfl) (by kernel_rfl) (by kernel_rfl) (fun _ _ _ h => h) (Or.inl ⟨by rfl, fun wx _ => by simp [go_sem]⟩) hS ?_
  simp only [Act.put, List.getElem_toArray, List.getElem_cons_succ, List.getElem_cons_zero, List.setIfInBounds_toArray, List.set_cons_zero, List.set_cons_succ]
  refine wpAnyH_done (by kernel_rfl) ?_ _
  have E : Hid (l2 = pairB 78 x y) := by show _ = _; rw [HL2.out]; simp [pairB]
  have HV : Hid (Reads w3 (.slice ad2 l2.length cp2) l2) := r2
  have HB : Hid (Below w.heap.size w w3) := hS.after HB1.out
  clear hS r1 r2
  go_wp2
  go_ret
  exact ⟨_, rfl, by rw [← E.out]; exact HV.out, HB.out⟩
set_option maxHeartbeats 1000000 in
theorem tValue_any (x nm ky : List (BitVec 8)) (vk : Value) (sr : Nat) (w : World) (hx : x.length = 32) (hk : Reads w vk ky) (hn : nm.length ≤ 1099511627776 ∧ ky.length ≤ 1099511627776 ∧ sr < 18446744073709551616) :
    Calls Tryd.prog 44 #[.agg (cb x).toArray, .agg #[.string (strB nm), vk, .int .u64 (sr : Int)]] w fun e w' => ∃ v, e = .returned v ∧ Reads w' v (valueB x nm sr ky) ∧ Below w.heap.size w w' := by
  have HN : Hid (x.length = 32 ∧ nm.length ≤ 1099511627776 ∧ ky.length ≤ 1099511627776 ∧ sr < 18446744073709551616) := ⟨hx, hn⟩
  have HK : Hid (Reads w vk ky) := hk
  obtain ⟨ad, cp, rfl, _, _, _⟩ := hk
  clear hx hn
  go_enter Tryd.func44, Tryd.ntmps44
  go_wp2_with fail
  have hB0 : Below w.heap.size w ((w.alloc (.cells (cb x).toArray 33)).alloc (.cells #[.string (strB nm), .slice ad ky.length cp, .int .u64 (sr : Int)] 59)) := (below_alloc _ _).trans ((below_alloc _ _).mono (by simp))
  have rx : Reads ((w.alloc (.cells (cb x).toArray 33)).alloc (.cells #[.string (strB nm), .slice ad ky.length cp, .int .u64 (sr : Int)] 59)) (.slice (some ⟨w.heap.size, 0, none⟩) 32 32) x := ((Blk.new w (cb x) 33).alloc _).reads HN.out.1.symm (by have := HN.out; omega)
  have hBb : Blk ((w.alloc (.cells (cb x).toArray 33)).alloc (.cells #[.string (strB nm), .slice ad ky.length cp, .int .u64 (sr : Int)] 59)) (w.heap.size + 1) [.string (strB nm), .slice ad ky.length cp, .int .u64 (sr : Int)] 59 := Blk.new_at (by simp) _ _
  have c0 := hBb.cell 0
  have c1 := hBb.cell 1
  have c2 := hBb.cell 2
  have rk := HK.out.below hB0
  clear hBb
  generalize ((w.alloc (.cells (cb x).toArray 33)).alloc (.cells #[.string (strB nm), .slice ad ky.length cp, .int .u64 (sr : Int)] 59)) = w0 at *
  refine wp_region_held_drew (S := Over w0.drew) (by kernel_rfl) (Over.refl _) ?_
  intro hS
  replace rx := reads_drew rx
  replace rk := reads_drew rk
  replace c0 : w0.drew.cell? ⟨w.heap.size + 1, 0, none⟩ = some (.string (strB nm)) := c0
  replace c1 : w0.drew.cell? ⟨w.heap.size + 1, 1, none⟩ = some (.slice ad ky.length cp) := c1
  replace c2 : w0.drew.cell? ⟨w.heap.size + 1, 2, none⟩ = some (.int .u64 (sr : Int)) := c2
  have HB1 : Hid (Below w.heap.size w w0.drew) := hB0.drew
  clear hB0 HK
  generalize w0.drew = w1 at *
  refine wpAnyH_take (i := 0) (v := .slice (some ⟨w.heap.size, 0, none⟩) 32 32) rfl (by kernel_rfl) (by kernel_rfl) (by kernel_rfl) (fun _ _ _ h => h) (Or.inl ⟨by rfl, fun wx _ => by simp [execOp, Act.eval, slice_dig]⟩) hS ?_
  simp only [Act.put, List.getElem_toArray, List.getElem_cons_zero, List.setIfInBounds_toArray, List.set_cons_zero, List.set_cons_succ]
  refine wpAnyH_take (i := 1) (v := .pointer (some ⟨w.heap.size + 1, 0, none⟩)) rfl (by kernel_rfl) (by kernel_rfl) (by kernel_rfl) (fun _ _ _ h => h) (Or.inl ⟨by rfl, fun wx _ => by simp [go_sem]⟩) hS ?_
  simp only [Act.put, List.getElem_toArray, List.getElem_cons_succ, List.getElem_cons_zero, List.setIfInBounds_toArray, List.set_cons_zero, List.set_cons_succ]
  refine wpAnyH_take (i := 2) (v := .string (strB nm)) rfl (by kernel_rfl) (by kernel_rfl) (by kernel_rfl) (fun _ _ _ h => h) (Or.inl ⟨by rfl, fun wx hx => by (have hc := below_cell hx c0; simp [go_sem, hc])⟩) hS ?_
  simp only [Act.put, List.getElem_toArray, List.getElem_cons_succ, List.getElem_cons_zero, List.setIfInBounds_toArray, List.set_cons_zero, List.set_cons_succ]
  refine wpAnyH_take (i := 4) (v := .pointer (some ⟨w.heap.size + 1, 0, none⟩)) rfl (by kernel_rfl) (by kernel_rfl) (by kernel_rfl) (fun _ _ _ h => h) (Or.inl ⟨by rfl, fun wx _ => by simp [go_sem]⟩) hS ?_
  simp only [Act.put, List.getElem_toArray, List.getElem_cons_succ, List.getElem_cons_zero, List.setIfInBounds_toArray, List.set_cons_zero, List.set_cons_succ]
  refine wpAnyH_take (i := 5) (v := .string (strB nm)) rfl (by kernel_rfl) (by kernel_rfl) (by kernel_rfl) (fun _ _ _ h => h) (Or.inl ⟨by rfl, fun wx hx => by (have hc := below_cell hx c0; simp [go_sem, hc])⟩) hS ?_
  simp only [Act.put, List.getElem_toArray, List.getElem_cons_succ, List.getElem_cons_zero, List.setIfInBounds_toArray, List.set_cons_zero, List.set_cons_succ]
  refine wpAnyH_take (i := 7) (v := .pointer (some ⟨w.heap.size + 1, 2, none⟩)) rfl (by kernel_rfl) (by kernel_rfl) (by kernel_rfl) (fun _ _ _ h => h) (Or.inl ⟨by rfl, fun wx _ => by simp [go_sem]⟩) hS ?_
  simp only [Act.put, List.getElem_toArray, List.getElem_cons_succ, List.getElem_cons_zero, List.setIfInBounds_toArray, List.set_cons_zero, List.set_cons_succ]
  refine wpAnyH_take (i := 8) (v := .int .u64 (sr : Int)) rfl (by kernel_rfl) (by kernel_rfl) (by kernel_rfl) (fun _ _ _ h => h) (Or.inl ⟨by rfl, fun wx hx => by (have hc := below_cell hx c2; simp [go_sem, hc])⟩) hS ?_
  simp only [Act.put, List.getElem_toArray, List.getElem_cons_succ, List.getElem_cons_zero, List.setIfInBounds_toArray, List.set_cons_zero, List.set_cons_succ]
  refine wpAnyH_take (i := 10) (v := .pointer (some ⟨w.heap.size + 1, 1, none⟩)) rfl (by kernel_rfl) (by kernel_rfl) (by kernel_rfl) (fun _ _ _ h => h) (Or.inl ⟨by rfl, fun wx _ => by simp [go_sem]⟩) hS ?_
  simp only [Act.put, List.getElem_toArray, List.getElem_cons_succ, List.getElem_cons_zero, List.setIfInBounds_toArray, List.set_cons_zero, List.set_cons_succ]
  refine wpAnyH_take (i := 11) (v := .slice ad ky.length cp) rfl (by kernel_rfl) (by kernel_rfl) (by kernel_rfl) (fun _ _ _ h => h) (Or.inl ⟨by rfl, fun wx hx => by (have hc := below_cell hx c1; simp [go_sem, hc])⟩) hS ?_
  simp only [Act.put, List.getElem_toArray, List.getElem_cons_succ, List.getElem_cons_zero, List.setIfInBounds_toArray, List.set_cons_zero, List.set_cons_succ]
  refine wpAnyH_pair 3 6 (by kernel_rfl) (wpOp_en 3 rfl (by rfl) (f := 64) (args := #[.string (strB nm)]) (by simp [go_sem]) (count_any nm (by have := HN.out; omega) _) ?_) (wpOp_vl 6 (.slice (some ⟨w1.heap.size, 0, none⟩) nm.length (grownCap w1 nm.length 0 5)) (Lib.bytesWorld w1 5 (strB nm)) rfl (by rfl) (by simp [execOp, Act.eval, conv_string]) ?_)
  · skip
    rintro e w2 ⟨v1, rfl, r1, hbA⟩
    have hS1 : Over w1 w2 := hS.more hbA
    refine ⟨_, rfl, hS1, ?_⟩
    clear hS
    have hS := hS1
    clear hS1
    obtain ⟨l1, HL1⟩ : ∃ zz, Hid (zz = num8 nm.length) := ⟨_, rfl⟩
    rw [← HL1.out] at r1
    obtain ⟨ad1, cp1, rfl, _, _, _⟩ := id r1
    simp only [Act.put, List.getElem_toArray, List.getElem_cons_succ, List.getElem_cons_zero, List.setIfInBounds_toArray, List.set_cons_zero, List.set_cons_succ]
    clear hbA
    refine wpAnyH_pair 6 9 (by kernel_rfl) (wpOp_vl 6 (.slice (some ⟨w2.heap.size, 0, none⟩) nm.length (grownCap w2 nm.length 0 5)) (Lib.bytesWorld w2 5 (strB nm)) rfl (by rfl) (by simp [execOp, Act.eval, conv_string]) ?_) (wpOp_en 9 rfl (by rfl) (f := 61) (args := #[.int .u64 (sr : Int)]) (by simp [go_sem]) (number_any sr _) ?_)
    · skip
      have hbA := bytesWorld_below nm w2
      have r2 := bytesWorld_reads nm w2
      have hS2 : Over w1 (Lib.bytesWorld w2 5 (strB nm)) := hS.more hbA
      refine ⟨hS2, ?_⟩
      simp only [Act.put, List.getElem_toArray, List.getElem_cons_succ, List.getElem_cons_zero, List.setIfInBounds_toArray, List.set_cons_zero, List.set_cons_succ]
      replace r1 := r1.below hbA
      clear hbA hS
      have hS := hS2
      clear hS2
      generalize (Lib.bytesWorld w2 5 (strB nm)) = w3 at *
      generalize grownCap w2 nm.length 0 5 = cp2 at *
      generalize w2.heap.size = n2 at *
      refine wpAnyH_enter 9 (by kernel_rfl) rfl (by rfl) (f := 61) (args := #[.int .u64 (sr : Int)]) (by simp [go_sem]) (number_any sr _) ?_
      rintro e w4 ⟨v3, rfl, r3, hbA⟩
      have hS3 : Over w1 w4 := hS.more hbA
      refine ⟨_, rfl, hS3, ?_⟩
      clear hS
      have hS := hS3
      clear hS3
      obtain ⟨l3, HL3⟩ : ∃ zz, Hid (zz = num8 sr) := ⟨_, rfl⟩
      rw [← HL3.out] at r3
      obtain ⟨ad3, cp3, rfl, _, _, _⟩ := id r3
      simp only [Act.put, List.getElem_toArray, List.getElem_cons_succ, List.getElem_cons_zero, List.setIfInBounds_toArray, List.set_cons_zero, List.set_cons_succ]
      replace r1 := r1.below hbA
      replace r2 := r2.below hbA
      clear hbA
      have hbA := below_alloc w4 (.cells #[.slice (some ⟨w.heap.size, 0, none⟩) 32 32, .slice ad1 l1.length cp1, .slice (some ⟨n2, 0, none⟩) nm.length cp2, .slice ad3 l3.length cp3, .slice ad ky.length cp] 23)
      have r4 := readsL_five (rx.below hS) r1 r2 r3 (rk.below hS)
      have hS4 : Over w1 (w4.alloc (.cells #[.slice (some ⟨w.heap.size, 0, none⟩) 32 32, .slice ad1 l1.length cp1, .slice (some ⟨n2, 0, none⟩) nm.length cp2, .slice ad3 l3.length cp3, .slice ad ky.length cp] 23)) := hS.more hbA
      refine wpAnyH_step 12 (.slice (some ⟨w4.heap.size, 0, none⟩) 5 5) (w4.alloc (.cells #[.slice (some ⟨w.heap.size, 0, none⟩) 32 32, .slice ad1 l1.length cp1, .slice (some ⟨n2, 0, none⟩) nm.length cp2, .slice ad3 l3.length cp3, .slice ad ky.length cp] 23)) (by kernel_rfl) rfl (by rfl) (by simp [go_sem]) hS4 ?_
      simp only [Act.put, List.getElem_toArray, List.getElem_cons_succ, List.getElem_cons_zero, List.setIfInBounds_toArray, List.set_cons_zero, List.set_cons_succ]
      replace r1 := r1.below hbA
      replace r2 := r2.below hbA
      replace r3 := r3.below hbA
      clear hbA hS
      have hS := hS4
      clear hS4
      generalize (w4.alloc (.cells #[.slice (some ⟨w.heap.size, 0, none⟩) 32 32, .slice ad1 l1.length cp1, .slice (some ⟨n2, 0, none⟩) nm.length cp2, .slice ad3 l3.length cp3, .slice ad ky.length cp] 23)) = w5 at *
      generalize w4.heap.size = n4 at *
      refine wpAnyH_enter 13 (by kernel_rfl) rfl (by rfl) (f := 60) (args := #[.int .u8 86, .slice (some ⟨n4, 0, none⟩) 5 5]) (by simp [go_sem]) (tagged_any 86 _ _ _ r4 (by simp only [fl5, HL1.out, HL3.out, len_num8]; have := HN.out; omega) (by simp)) ?_
      rintro e w6 ⟨v5, rfl, r5, hbA⟩
      have hS5 : Over w1 w6 := hS.more hbA
      refine ⟨_, rfl, hS5, ?_⟩
      clear hS
      have hS := hS5
      clear hS5
      obtain ⟨l5, HL5⟩ : ∃ zz, Hid (zz = (86 : BitVec 8) :: [x, l1, nm, l3, ky].flatten) := ⟨_, rfl⟩
      rw [← HL5.out] at r5
      obtain ⟨ad5, cp5, rfl, _, _, _⟩ := id r5
      simp only [Act.put, List.getElem_toArray, List.getElem_cons_succ, List.getElem_cons_zero, List.setIfInBounds_toArray, List.set_cons_zero, List.set_cons_succ]
      replace r1 := r1.below hbA
      replace r2 := r2.below hbA
      replace r3 := r3.below hbA
      replace r4 := r4.below hbA
      clear hbA
      refine wpAnyH_take (i := 14) (v := .slice ad5 l5.length cp5) rfl (by kernel_rfl) (by kernel_rfl) (by kernel_rfl) (fun _ _ _ h => h) (Or.inl ⟨by rfl, fun wx _ => by simp [go_sem]⟩) hS ?_
      simp only [Act.put, List.getElem_toArray, List.getElem_cons_succ, List.getElem_cons_zero, List.setIfInBounds_toArray, List.set_cons_zero, List.set_cons_succ]
      refine wpAnyH_done (by kernel_rfl) ?_ _
      have E : Hid (l5 = valueB x nm sr ky) := by show _ = _; rw [HL5.out]; simp [valueB, HL1.out, HL3.out]
      have HV : Hid (Reads w6 (.slice ad5 l5.length cp5) l5) := r5
      have HB : Hid (Below w.heap.size w w6) := hS.after HB1.out
      clear hS r1 r2 r3 r4 r5
      go_wp2
      go_ret
      exact ⟨_, rfl, by rw [← E.out]; exact HV.out, HB.out⟩
    · skip
      rintro e w7 ⟨v6, rfl, r6, hbA⟩
      have hS6 : Over w1 w7 := hS.more hbA
      refine ⟨_, rfl, hS6, ?_⟩
      clear hS
      have hS := hS6
      clear hS6
      obtain ⟨l6, HL6⟩ : ∃ zz, Hid (zz = num8 sr) := ⟨_, rfl⟩
      rw [← HL6.out] at r6
      obtain ⟨ad6, cp6, rfl, _, _, _⟩ := id r6
      simp only [Act.put, List.getElem_toArray, List.getElem_cons_succ, List.getElem_cons_zero, List.setIfInBounds_toArray, List.set_cons_zero, List.set_cons_succ]
      replace r1 := r1.below hbA
      clear hbA
      have hbA := bytesWorld_below nm w7
      have r7 := bytesWorld_reads nm w7
      have hS7 : Over w1 (Lib.bytesWorld w7 5 (strB nm)) := hS.more hbA
      refine wpAnyH_step 6 (.slice (some ⟨w7.heap.size, 0, none⟩) nm.length (grownCap w7 nm.length 0 5)) (Lib.bytesWorld w7 5 (strB nm)) (by kernel_rfl) rfl (by rfl) (by simp [execOp, Act.eval, conv_string]) hS7 ?_
      simp only [Act.put, List.getElem_toArray, List.getElem_cons_succ, List.getElem_cons_zero, List.setIfInBounds_toArray, List.set_cons_zero, List.set_cons_succ]
      replace r1 := r1.below hbA
      replace r6 := r6.below hbA
      clear hbA hS
      have hS := hS7
      clear hS7
      generalize (Lib.bytesWorld w7 5 (strB nm)) = w8 at *
      generalize grownCap w7 nm.length 0 5 = cp7 at *
      generalize w7.heap.size = n7 at *
      have hbA := below_alloc w8 (.cells #[.slice (some ⟨w.heap.size, 0, none⟩) 32 32, .slice ad1 l1.length cp1, .slice (some ⟨n7, 0, none⟩) nm.length cp7, .slice ad6 l6.length cp6, .slice ad ky.length cp] 23)
      have r8 := readsL_five (rx.below hS) r1 r7 r6 (rk.below hS)
      have hS8 : Over w1 (w8.alloc (.cells #[.slice (some ⟨w.heap.size, 0, none⟩) 32 32, .slice ad1 l1.length cp1, .slice (some ⟨n7, 0, none⟩) nm.length cp7, .slice ad6 l6.length cp6, .slice ad ky.length cp] 23)) := hS.more hbA
      refine wpAnyH_step 12 (.slice (some ⟨w8.heap.size, 0, none⟩) 5 5) (w8.alloc (.cells #[.slice (some ⟨w.heap.size, 0, none⟩) 32 32, .slice ad1 l1.length cp1, .slice (some ⟨n7, 0, none⟩) nm.length cp7, .slice ad6 l6.length cp6, .slice ad ky.length cp] 23)) (by kernel_rfl) rfl (by rfl) (by simp [go_sem]) hS8 ?_
      simp only [Act.put, List.getElem_toArray, List.getElem_cons_succ, List.getElem_cons_zero, List.setIfInBounds_toArray, List.set_cons_zero, List.set_cons_succ]
      replace r1 := r1.below hbA
      replace r6 := r6.below hbA
      replace r7 := r7.below hbA
      clear hbA hS
      have hS := hS8
      clear hS8
      generalize (w8.alloc (.cells #[.slice (some ⟨w.heap.size, 0, none⟩) 32 32, .slice ad1 l1.length cp1, .slice (some ⟨n7, 0, none⟩) nm.length cp7, .slice ad6 l6.length cp6, .slice ad ky.length cp] 23)) = w9 at *
      generalize w8.heap.size = n8 at *
      refine wpAnyH_enter 13 (by kernel_rfl) rfl (by rfl) (f := 60) (args := #[.int .u8 86, .slice (some ⟨n8, 0, none⟩) 5 5]) (by simp [go_sem]) (tagged_any 86 _ _ _ r8 (by simp only [fl5, HL1.out, HL6.out, len_num8]; have := HN.out; omega) (by simp)) ?_
      rintro e w10 ⟨v9, rfl, r9, hbA⟩
      have hS9 : Over w1 w10 := hS.more hbA
      refine ⟨_, rfl, hS9, ?_⟩
      clear hS
      have hS := hS9
      clear hS9
      obtain ⟨l9, HL9⟩ : ∃ zz, Hid (zz = (86 : BitVec 8) :: [x, l1, nm, l6, ky].flatten) := ⟨_, rfl⟩
      rw [← HL9.out] at r9
      obtain ⟨ad9, cp9, rfl, _, _, _⟩ := id r9
      simp only [Act.put, List.getElem_toArray, List.getElem_cons_succ, List.getElem_cons_zero, List.setIfInBounds_toArray, List.set_cons_zero, List.set_cons_succ]
      replace r1 := r1.below hbA
      replace r6 := r6.below hbA
      replace r7 := r7.below hbA
      replace r8 := r8.below hbA
      clear hbA
      refine wpAnyH_take (i := 14) (v := .slice ad9 l9.length cp9) rfl (by kernel_rfl) (by kernel_rfl) (by kernel_rfl) (fun _ _ _ h => h) (Or.inl ⟨by rfl, fun wx _ => by simp [go_sem]⟩) hS ?_
      simp only [Act.put, List.getElem_toArray, List.getElem_cons_succ, List.getElem_cons_zero, List.setIfInBounds_toArray, List.set_cons_zero, List.set_cons_succ]
      refine wpAnyH_done (by kernel_rfl) ?_ _
      have E : Hid (l9 = valueB x nm sr ky) := by show _ = _; rw [HL9.out]; simp [valueB, HL1.out, HL6.out]
      have HV : Hid (Reads w10 (.slice ad9 l9.length cp9) l9) := r9
      have HB : Hid (Below w.heap.size w w10) := hS.after HB1.out
      clear hS r1 r6 r7 r8 r9
      go_wp2
      go_ret
      exact ⟨_, rfl, by rw [← E.out]; exact HV.out, HB.out⟩
  · skip
    have hbA := bytesWorld_below nm w1
    have r10 := bytesWorld_reads nm w1
    have hS10 : Over w1 (Lib.bytesWorld w1 5 (strB nm)) := hS.more hbA
    refine ⟨hS10, ?_⟩
    simp only [Act.put, List.getElem_toArray, List.getElem_cons_succ, List.getElem_cons_zero, List.setIfInBounds_toArray, List.set_cons_zero, List.set_cons_succ]
    clear hbA hS
    have hS := hS10
    clear hS10
    generalize (Lib.bytesWorld w1 5 (strB nm)) = w11 at *
    generalize grownCap w1 nm.length 0 5 = cp10 at *
    generalize w1.heap.size = n10 at *
    refine wpAnyH_enter 3 (by kernel_rfl) rfl (by rfl) (f := 64) (args := #[.string (strB nm)]) (by simp [go_sem]) (count_any nm (by have := HN.out; omega) _) ?_
    rintro e w12 ⟨v11, rfl, r11, hbA⟩
    have hS11 : Over w1 w12 := hS.more hbA
    refine ⟨_, rfl, hS11, ?_⟩
    clear hS
    have hS := hS11
    clear hS11
    obtain ⟨l11, HL11⟩ : ∃ zz, Hid (zz = num8 nm.length) := ⟨_, rfl⟩
    rw [← HL11.out] at r11
    obtain ⟨ad11, cp11, rfl, _, _, _⟩ := id r11
    simp only [Act.put, List.getElem_toArray, List.getElem_cons_succ, List.getElem_cons_zero, List.setIfInBounds_toArray, List.set_cons_zero, List.set_cons_succ]
    replace r10 := r10.below hbA
    clear hbA
    refine wpAnyH_enter 9 (by kernel_rfl) rfl (by rfl) (f := 61) (args := #[.int .u64 (sr : Int)]) (by simp [go_sem]) (number_any sr _) ?_
    rintro e w13 ⟨v12, rfl, r12, hbA⟩
    have hS12 : Over w1 w13 := hS.more hbA
    refine ⟨_, rfl, hS12, ?_⟩
    clear hS
    have hS := hS12
    clear hS12
    obtain ⟨l12, HL12⟩ : ∃ zz, Hid (zz = num8 sr) := ⟨_, rfl⟩
    rw [← HL12.out] at r12
    obtain ⟨ad12, cp12, rfl, _, _, _⟩ := id r12
    simp only [Act.put, List.getElem_toArray, List.getElem_cons_succ, List.getElem_cons_zero, List.setIfInBounds_toArray, List.set_cons_zero, List.set_cons_succ]
    replace r10 := r10.below hbA
    replace r11 := r11.below hbA
    clear hbA
    have hbA := below_alloc w13 (.cells #[.slice (some ⟨w.heap.size, 0, none⟩) 32 32, .slice ad11 l11.length cp11, .slice (some ⟨n10, 0, none⟩) nm.length cp10, .slice ad12 l12.length cp12, .slice ad ky.length cp] 23)
    have r13 := readsL_five (rx.below hS) r11 r10 r12 (rk.below hS)
    have hS13 : Over w1 (w13.alloc (.cells #[.slice (some ⟨w.heap.size, 0, none⟩) 32 32, .slice ad11 l11.length cp11, .slice (some ⟨n10, 0, none⟩) nm.length cp10, .slice ad12 l12.length cp12, .slice ad ky.length cp] 23)) := hS.more hbA
    refine wpAnyH_step 12 (.slice (some ⟨w13.heap.size, 0, none⟩) 5 5) (w13.alloc (.cells #[.slice (some ⟨w.heap.size, 0, none⟩) 32 32, .slice ad11 l11.length cp11, .slice (some ⟨n10, 0, none⟩) nm.length cp10, .slice ad12 l12.length cp12, .slice ad ky.length cp] 23)) (by kernel_rfl) rfl (by rfl) (by simp [go_sem]) hS13 ?_
    simp only [Act.put, List.getElem_toArray, List.getElem_cons_succ, List.getElem_cons_zero, List.setIfInBounds_toArray, List.set_cons_zero, List.set_cons_succ]
    replace r10 := r10.below hbA
    replace r11 := r11.below hbA
    replace r12 := r12.below hbA
    clear hbA hS
    have hS := hS13
    clear hS13
    generalize (w13.alloc (.cells #[.slice (some ⟨w.heap.size, 0, none⟩) 32 32, .slice ad11 l11.length cp11, .slice (some ⟨n10, 0, none⟩) nm.length cp10, .slice ad12 l12.length cp12, .slice ad ky.length cp] 23)) = w14 at *
    generalize w13.heap.size = n13 at *
    refine wpAnyH_enter 13 (by kernel_rfl) rfl (by rfl) (f := 60) (args := #[.int .u8 86, .slice (some ⟨n13, 0, none⟩) 5 5]) (by simp [go_sem]) (tagged_any 86 _ _ _ r13 (by simp only [fl5, HL11.out, HL12.out, len_num8]; have := HN.out; omega) (by simp)) ?_
    rintro e w15 ⟨v14, rfl, r14, hbA⟩
    have hS14 : Over w1 w15 := hS.more hbA
    refine ⟨_, rfl, hS14, ?_⟩
    clear hS
    have hS := hS14
    clear hS14
    obtain ⟨l14, HL14⟩ : ∃ zz, Hid (zz = (86 : BitVec 8) :: [x, l11, nm, l12, ky].flatten) := ⟨_, rfl⟩
    rw [← HL14.out] at r14
    obtain ⟨ad14, cp14, rfl, _, _, _⟩ := id r14
    simp only [Act.put, List.getElem_toArray, List.getElem_cons_succ, List.getElem_cons_zero, List.setIfInBounds_toArray, List.set_cons_zero, List.set_cons_succ]
    replace r10 := r10.below hbA
    replace r11 := r11.below hbA
    replace r12 := r12.below hbA
    replace r13 := r13.below hbA
    clear hbA
    refine wpAnyH_take (i := 14) (v := .slice ad14 l14.length cp14) rfl (by kernel_rfl) (by kernel_rfl) (by kernel_rfl) (fun _ _ _ h => h) (Or.inl ⟨by rfl, fun wx _ => by simp [go_sem]⟩) hS ?_
    simp only [Act.put, List.getElem_toArray, List.getElem_cons_succ, List.getElem_cons_zero, List.setIfInBounds_toArray, List.set_cons_zero, List.set_cons_succ]
    refine wpAnyH_done (by kernel_rfl) ?_ _
    have E : Hid (l14 = valueB x nm sr ky) := by show _ = _; rw [HL14.out]; simp [valueB, HL11.out, HL12.out]
    have HV : Hid (Reads w15 (.slice ad14 l14.length cp14) l14) := r14
    have HB : Hid (Below w.heap.size w w15) := hS.after HB1.out
    clear hS r10 r11 r12 r13 r14
    go_wp2
    go_ret
    exact ⟨_, rfl, by rw [← E.out]; exact HV.out, HB.out⟩
set_option maxHeartbeats 1000000 in
theorem rValue_any (x nm ky : List (BitVec 8)) (vk : Value) (sr : Nat) (w : World) (hx : x.length = 32) (hk : Reads w vk ky) (hn : nm.length ≤ 1099511627776 ∧ ky.length ≤ 1099511627776 ∧ sr < 18446744073709551616) :
    Calls Tryd.prog 45 #[.agg (cb x).toArray, .agg #[.string (strB nm), vk, .int .u64 (sr : Int)]] w fun e w' => ∃ v, e = .returned v ∧ Reads w' v (valueB x nm sr ky) ∧ Below w.heap.size w w' := by
  have HN : Hid (x.length = 32 ∧ nm.length ≤ 1099511627776 ∧ ky.length ≤ 1099511627776 ∧ sr < 18446744073709551616) := ⟨hx, hn⟩
  have HK : Hid (Reads w vk ky) := hk
  obtain ⟨ad, cp, rfl, _, _, _⟩ := hk
  clear hx hn
  go_enter Tryd.func45, Tryd.ntmps45
  go_wp2_with fail
  have hB0 : Below w.heap.size w ((w.alloc (.cells (cb x).toArray 33)).alloc (.cells #[.string (strB nm), .slice ad ky.length cp, .int .u64 (sr : Int)] 59)) := (below_alloc _ _).trans ((below_alloc _ _).mono (by simp))
  have rx : Reads ((w.alloc (.cells (cb x).toArray 33)).alloc (.cells #[.string (strB nm), .slice ad ky.length cp, .int .u64 (sr : Int)] 59)) (.slice (some ⟨w.heap.size, 0, none⟩) 32 32) x := ((Blk.new w (cb x) 33).alloc _).reads HN.out.1.symm (by have := HN.out; omega)
  have hBb : Blk ((w.alloc (.cells (cb x).toArray 33)).alloc (.cells #[.string (strB nm), .slice ad ky.length cp, .int .u64 (sr : Int)] 59)) (w.heap.size + 1) [.string (strB nm), .slice ad ky.length cp, .int .u64 (sr : Int)] 59 := Blk.new_at (by simp) _ _
  have c0 := hBb.cell 0
  have c1 := hBb.cell 1
  have c2 := hBb.cell 2
  have rk := HK.out.below hB0
  clear hBb
  generalize ((w.alloc (.cells (cb x).toArray 33)).alloc (.cells #[.string (strB nm), .slice ad ky.length cp, .int .u64 (sr : Int)] 59)) = w0 at *
  refine wp_region_held_drew (S := Over w0.drew) (by kernel_rfl) (Over.refl _) ?_
  intro hS
  replace rx := reads_drew rx
  replace rk := reads_drew rk
  replace c0 : w0.drew.cell? ⟨w.heap.size + 1, 0, none⟩ = some (.string (strB nm)) := c0
  replace c1 : w0.drew.cell? ⟨w.heap.size + 1, 1, none⟩ = some (.slice ad ky.length cp) := c1
  replace c2 : w0.drew.cell? ⟨w.heap.size + 1, 2, none⟩ = some (.int .u64 (sr : Int)) := c2
  have HB1 : Hid (Below w.heap.size w w0.drew) := hB0.drew
  clear hB0 HK
  generalize w0.drew = w1 at *
  refine wpAnyH_take (i := 0) (v := .slice (some ⟨w.heap.size, 0, none⟩) 32 32) rfl (by kernel_rfl) (by kernel_rfl) (by kernel_rfl) (fun _ _ _ h => h) (Or.inl ⟨by rfl, fun wx _ => by simp [execOp, Act.eval, slice_dig]⟩) hS ?_
  simp only [Act.put, List.getElem_toArray, List.getElem_cons_zero, List.setIfInBounds_toArray, List.set_cons_zero, List.set_cons_succ]
  refine wpAnyH_take (i := 1) (v := .pointer (some ⟨w.heap.size + 1, 0, none⟩)) rfl (by kernel_rfl) (by kernel_rfl) (by kernel_rfl) (fun _ _ _ h => h) (Or.inl ⟨by rfl, fun wx _ => by simp [go_sem]⟩) hS ?_
  simp only [Act.put, List.getElem_toArray, List.getElem_cons_succ, List.getElem_cons_zero, List.setIfInBounds_toArray, List.set_cons_zero, List.set_cons_succ]
  refine wpAnyH_take (i := 2) (v := .string (strB nm)) rfl (by kernel_rfl) (by kernel_rfl) (by kernel_rfl) (fun _ _ _ h => h) (Or.inl ⟨by rfl, fun wx hx => by (have hc := below_cell hx c0; simp [go_sem, hc])⟩) hS ?_
  simp only [Act.put, List.getElem_toArray, List.getElem_cons_succ, List.getElem_cons_zero, List.setIfInBounds_toArray, List.set_cons_zero, List.set_cons_succ]
  refine wpAnyH_take (i := 3) (v := .int .i64 (nm.length : Int)) rfl (by kernel_rfl) (by kernel_rfl) (by kernel_rfl) (fun _ _ _ h => h) (Or.inl ⟨by rfl, fun wx _ => by simp [go_sem, strB_size]⟩) hS ?_
  simp only [Act.put, List.getElem_toArray, List.getElem_cons_succ, List.getElem_cons_zero, List.setIfInBounds_toArray, List.set_cons_zero, List.set_cons_succ]
  refine wpAnyH_take (i := 4) (v := .int .u64 (nm.length : Int)) rfl (by kernel_rfl) (by kernel_rfl) (by kernel_rfl) (fun _ _ _ h => h) (Or.inl ⟨by rfl, fun wx _ => by (have e : IntKind.u64.wrap (nm.length : Int) = nm.length := (by rw [IntKind.wrap_u64]; have := HN.out; omega); simp [go_sem, e])⟩) hS ?_
  simp only [Act.put, List.getElem_toArray, List.getElem_cons_succ, List.getElem_cons_zero, List.setIfInBounds_toArray, List.set_cons_zero, List.set_cons_succ]
  refine wpAnyH_take (i := 6) (v := .pointer (some ⟨w.heap.size + 1, 0, none⟩)) rfl (by kernel_rfl) (by kernel_rfl) (by kernel_rfl) (fun _ _ _ h => h) (Or.inl ⟨by rfl, fun wx _ => by simp [go_sem]⟩) hS ?_
  simp only [Act.put, List.getElem_toArray, List.getElem_cons_succ, List.getElem_cons_zero, List.setIfInBounds_toArray, List.set_cons_zero, List.set_cons_succ]
  refine wpAnyH_take (i := 7) (v := .string (strB nm)) rfl (by kernel_rfl) (by kernel_rfl) (by kernel_rfl) (fun _ _ _ h => h) (Or.inl ⟨by rfl, fun wx hx => by (have hc := below_cell hx c0; simp [go_sem, hc])⟩) hS ?_
  simp only [Act.put, List.getElem_toArray, List.getElem_cons_succ, List.getElem_cons_zero, List.setIfInBounds_toArray, List.set_cons_zero, List.set_cons_succ]
  refine wpAnyH_take (i := 9) (v := .pointer (some ⟨w.heap.size + 1, 2, none⟩)) rfl (by kernel_rfl) (by kernel_rfl) (by kernel_rfl) (fun _ _ _ h => h) (Or.inl ⟨by rfl, fun wx _ => by simp [go_sem]⟩) hS ?_
  simp only [Act.put, List.getElem_toArray, List.getElem_cons_succ, List.getElem_cons_zero, List.setIfInBounds_toArray, List.set_cons_zero, List.set_cons_succ]
  refine wpAnyH_take (i := 10) (v := .int .u64 (sr : Int)) rfl (by kernel_rfl) (by kernel_rfl) (by kernel_rfl) (fun _ _ _ h => h) (Or.inl ⟨by rfl, fun wx hx => by (have hc := below_cell hx c2; simp [go_sem, hc])⟩) hS ?_
  simp only [Act.put, List.getElem_toArray, List.getElem_cons_succ, List.getElem_cons_zero, List.setIfInBounds_toArray, List.set_cons_zero, List.set_cons_succ]
  refine wpAnyH_take (i := 12) (v := .pointer (some ⟨w.heap.size + 1, 1, none⟩)) rfl (by kernel_rfl) (by kernel_rfl) (by kernel_rfl) (fun _ _ _ h => h) (Or.inl ⟨by rfl, fun wx _ => by simp [go_sem]⟩) hS ?_
  simp only [Act.put, List.getElem_toArray, List.getElem_cons_succ, List.getElem_cons_zero, List.setIfInBounds_toArray, List.set_cons_zero, List.set_cons_succ]
  refine wpAnyH_take (i := 13) (v := .slice ad ky.length cp) rfl (by kernel_rfl) (by kernel_rfl) (by kernel_rfl) (fun _ _ _ h => h) (Or.inl ⟨by rfl, fun wx hx => by (have hc := below_cell hx c1; simp [go_sem, hc])⟩) hS ?_
  simp only [Act.put, List.getElem_toArray, List.getElem_cons_succ, List.getElem_cons_zero, List.setIfInBounds_toArray, List.set_cons_zero, List.set_cons_succ]
  refine wpAnyH_pair 5 8 (by kernel_rfl) (wpOp_en 5 rfl (by rfl) (f := 63) (args := #[.int .u64 (nm.length : Int)]) (by simp [go_sem]) (rnumber_any nm.length (by have := HN.out; omega) _) ?_) (wpOp_vl 8 (.slice (some ⟨w1.heap.size, 0, none⟩) nm.length (grownCap w1 nm.length 0 5)) (Lib.bytesWorld w1 5 (strB nm)) rfl (by rfl) (by simp [execOp, Act.eval, conv_string]) ?_)
  · skip
    rintro e w2 ⟨v1, rfl, r1, hbA⟩
    have hS1 : Over w1 w2 := hS.more hbA
    refine ⟨_, rfl, hS1, ?_⟩
    clear hS
    have hS := hS1
    clear hS1
    obtain ⟨l1, HL1⟩ : ∃ zz, Hid (zz = num8 nm.length) := ⟨_, rfl⟩
    rw [← HL1.out] at r1
    obtain ⟨ad1, cp1, rfl, _, _, _⟩ := id r1
    simp only [Act.put, List.getElem_toArray, List.getElem_cons_succ, List.getElem_cons_zero, List.setIfInBounds_toArray, List.set_cons_zero, List.set_cons_succ]
    clear hbA
    refine wpAnyH_pair 8 11 (by kernel_rfl) (wpOp_vl 8 (.slice (some ⟨w2.heap.size, 0, none⟩) nm.length (grownCap w2 nm.length 0 5)) (Lib.bytesWorld w2 5 (strB nm)) rfl (by rfl) (by simp [execOp, Act.eval, conv_string]) ?_) (wpOp_en 11 rfl (by rfl) (f := 63) (args := #[.int .u64 (sr : Int)]) (by simp [go_sem]) (rnumber_any sr (by have := HN.out; omega) _) ?_)
    · skip
      have hbA := bytesWorld_below nm w2
      have r2 := bytesWorld_reads nm w2
      have hS2 : Over w1 (Lib.bytesWorld w2 5 (strB nm)) := hS.more hbA
      refine ⟨hS2, ?_⟩
      simp only [Act.put, List.getElem_toArray, List.getElem_cons_succ, List.getElem_cons_zero, List.setIfInBounds_toArray, List.set_cons_zero, List.set_cons_succ]
      replace r1 := r1.below hbA
      clear hbA hS
      have hS := hS2
      clear hS2
      generalize (Lib.bytesWorld w2 5 (strB nm)) = w3 at *
      generalize grownCap w2 nm.length 0 5 = cp2 at *
      generalize w2.heap.size = n2 at *
      refine wpAnyH_enter 11 (by kernel_rfl) rfl (by rfl) (f := 63) (args := #[.int .u64 (sr : Int)]) (by simp [go_sem]) (rnumber_any sr (by have := HN.out; omega) _) ?_
      rintro e w4 ⟨v3, rfl, r3, hbA⟩
      have hS3 : Over w1 w4 := hS.more hbA
      refine ⟨_, rfl, hS3, ?_⟩
      clear hS
      have hS := hS3
      clear hS3
      obtain ⟨l3, HL3⟩ : ∃ zz, Hid (zz = num8 sr) := ⟨_, rfl⟩
      rw [← HL3.out] at r3
      obtain ⟨ad3, cp3, rfl, _, _, _⟩ := id r3
      simp only [Act.put, List.getElem_toArray, List.getElem_cons_succ, List.getElem_cons_zero, List.setIfInBounds_toArray, List.set_cons_zero, List.set_cons_succ]
      replace r1 := r1.below hbA
      replace r2 := r2.below hbA
      clear hbA
      have hbA := below_alloc w4 (.cells #[.slice (some ⟨w.heap.size, 0, none⟩) 32 32, .slice ad1 l1.length cp1, .slice (some ⟨n2, 0, none⟩) nm.length cp2, .slice ad3 l3.length cp3, .slice ad ky.length cp] 23)
      have r4 := readsL_five (rx.below hS) r1 r2 r3 (rk.below hS)
      have hS4 : Over w1 (w4.alloc (.cells #[.slice (some ⟨w.heap.size, 0, none⟩) 32 32, .slice ad1 l1.length cp1, .slice (some ⟨n2, 0, none⟩) nm.length cp2, .slice ad3 l3.length cp3, .slice ad ky.length cp] 23)) := hS.more hbA
      refine wpAnyH_step 14 (.slice (some ⟨w4.heap.size, 0, none⟩) 5 5) (w4.alloc (.cells #[.slice (some ⟨w.heap.size, 0, none⟩) 32 32, .slice ad1 l1.length cp1, .slice (some ⟨n2, 0, none⟩) nm.length cp2, .slice ad3 l3.length cp3, .slice ad ky.length cp] 23)) (by kernel_rfl) rfl (by rfl) (by simp [go_sem]) hS4 ?_
      simp only [Act.put, List.getElem_toArray, List.getElem_cons_succ, List.getElem_cons_zero, List.setIfInBounds_toArray, List.set_cons_zero, List.set_cons_succ]
      replace r1 := r1.below hbA
      replace r2 := r2.below hbA
      replace r3 := r3.below hbA
      clear hbA hS
      have hS := hS4
      clear hS4
      generalize (w4.alloc (.cells #[.slice (some ⟨w.heap.size, 0, none⟩) 32 32, .slice ad1 l1.length cp1, .slice (some ⟨n2, 0, none⟩) nm.length cp2, .slice ad3 l3.length cp3, .slice ad ky.length cp] 23)) = w5 at *
      generalize w4.heap.size = n4 at *
      refine wpAnyH_enter 15 (by kernel_rfl) rfl (by rfl) (f := 62) (args := #[.int .u8 86, .slice (some ⟨n4, 0, none⟩) 5 5]) (by simp [go_sem]) (rsign_any 86 _ _ _ r4 (by simp only [fl5, HL1.out, HL3.out, len_num8]; have := HN.out; omega) (by simp)) ?_
      rintro e w6 ⟨v5, rfl, r5, hbA⟩
      have hS5 : Over w1 w6 := hS.more hbA
      refine ⟨_, rfl, hS5, ?_⟩
      clear hS
      have hS := hS5
      clear hS5
      obtain ⟨l5, HL5⟩ : ∃ zz, Hid (zz = (86 : BitVec 8) :: [x, l1, nm, l3, ky].flatten) := ⟨_, rfl⟩
      rw [← HL5.out] at r5
      obtain ⟨ad5, cp5, rfl, _, _, _⟩ := id r5
      simp only [Act.put, List.getElem_toArray, List.getElem_cons_succ, List.getElem_cons_zero, List.setIfInBounds_toArray, List.set_cons_zero, List.set_cons_succ]
      replace r1 := r1.below hbA
      replace r2 := r2.below hbA
      replace r3 := r3.below hbA
      replace r4 := r4.below hbA
      clear hbA
      refine wpAnyH_take (i := 16) (v := .slice ad5 l5.length cp5) rfl (by kernel_rfl) (by kernel_rfl) (by kernel_rfl) (fun _ _ _ h => h) (Or.inl ⟨by rfl, fun wx _ => by simp [go_sem]⟩) hS ?_
      simp only [Act.put, List.getElem_toArray, List.getElem_cons_succ, List.getElem_cons_zero, List.setIfInBounds_toArray, List.set_cons_zero, List.set_cons_succ]
      refine wpAnyH_done (by kernel_rfl) ?_ _
      have E : Hid (l5 = valueB x nm sr ky) := by show _ = _; rw [HL5.out]; simp [valueB, HL1.out, HL3.out]
      have HV : Hid (Reads w6 (.slice ad5 l5.length cp5) l5) := r5
      have HB : Hid (Below w.heap.size w w6) := hS.after HB1.out
      clear hS r1 r2 r3 r4 r5
      go_wp2
      go_ret
      exact ⟨_, rfl, by rw [← E.out]; exact HV.out, HB.out⟩
    · skip
      rintro e w7 ⟨v6, rfl, r6, hbA⟩
      have hS6 : Over w1 w7 := hS.more hbA
      refine ⟨_, rfl, hS6, ?_⟩
      clear hS
      have hS := hS6
      clear hS6
      obtain ⟨l6, HL6⟩ : ∃ zz, Hid (zz = num8 sr) := ⟨_, rfl⟩
      rw [← HL6.out] at r6
      obtain ⟨ad6, cp6, rfl, _, _, _⟩ := id r6
      simp only [Act.put, List.getElem_toArray, List.getElem_cons_succ, List.getElem_cons_zero, List.setIfInBounds_toArray, List.set_cons_zero, List.set_cons_succ]
      replace r1 := r1.below hbA
      clear hbA
      have hbA := bytesWorld_below nm w7
      have r7 := bytesWorld_reads nm w7
      have hS7 : Over w1 (Lib.bytesWorld w7 5 (strB nm)) := hS.more hbA
      refine wpAnyH_step 8 (.slice (some ⟨w7.heap.size, 0, none⟩) nm.length (grownCap w7 nm.length 0 5)) (Lib.bytesWorld w7 5 (strB nm)) (by kernel_rfl) rfl (by rfl) (by simp [execOp, Act.eval, conv_string]) hS7 ?_
      simp only [Act.put, List.getElem_toArray, List.getElem_cons_succ, List.getElem_cons_zero, List.setIfInBounds_toArray, List.set_cons_zero, List.set_cons_succ]
      replace r1 := r1.below hbA
      replace r6 := r6.below hbA
      clear hbA hS
      have hS := hS7
      clear hS7
      generalize (Lib.bytesWorld w7 5 (strB nm)) = w8 at *
      generalize grownCap w7 nm.length 0 5 = cp7 at *
      generalize w7.heap.size = n7 at *
      have hbA := below_alloc w8 (.cells #[.slice (some ⟨w.heap.size, 0, none⟩) 32 32, .slice ad1 l1.length cp1, .slice (some ⟨n7, 0, none⟩) nm.length cp7, .slice ad6 l6.length cp6, .slice ad ky.length cp] 23)
      have r8 := readsL_five (rx.below hS) r1 r7 r6 (rk.below hS)
      have hS8 : Over w1 (w8.alloc (.cells #[.slice (some ⟨w.heap.size, 0, none⟩) 32 32, .slice ad1 l1.length cp1, .slice (some ⟨n7, 0, none⟩) nm.length cp7, .slice ad6 l6.length cp6, .slice ad ky.length cp] 23)) := hS.more hbA
      refine wpAnyH_step 14 (.slice (some ⟨w8.heap.size, 0, none⟩) 5 5) (w8.alloc (.cells #[.slice (some ⟨w.heap.size, 0, none⟩) 32 32, .slice ad1 l1.length cp1, .slice (some ⟨n7, 0, none⟩) nm.length cp7, .slice ad6 l6.length cp6, .slice ad ky.length cp] 23)) (by kernel_rfl) rfl (by rfl) (by simp [go_sem]) hS8 ?_
      simp only [Act.put, List.getElem_toArray, List.getElem_cons_succ, List.getElem_cons_zero, List.setIfInBounds_toArray, List.set_cons_zero, List.set_cons_succ]
      replace r1 := r1.below hbA
      replace r6 := r6.below hbA
      replace r7 := r7.below hbA
      clear hbA hS
      have hS := hS8
      clear hS8
      generalize (w8.alloc (.cells #[.slice (some ⟨w.heap.size, 0, none⟩) 32 32, .slice ad1 l1.length cp1, .slice (some ⟨n7, 0, none⟩) nm.length cp7, .slice ad6 l6.length cp6, .slice ad ky.length cp] 23)) = w9 at *
      generalize w8.heap.size = n8 at *
      refine wpAnyH_enter 15 (by kernel_rfl) rfl (by rfl) (f := 62) (args := #[.int .u8 86, .slice (some ⟨n8, 0, none⟩) 5 5]) (by simp [go_sem]) (rsign_any 86 _ _ _ r8 (by simp only [fl5, HL1.out, HL6.out, len_num8]; have := HN.out; omega) (by simp)) ?_
      rintro e w10 ⟨v9, rfl, r9, hbA⟩
      have hS9 : Over w1 w10 := hS.more hbA
      refine ⟨_, rfl, hS9, ?_⟩
      clear hS
      have hS := hS9
      clear hS9
      obtain ⟨l9, HL9⟩ : ∃ zz, Hid (zz = (86 : BitVec 8) :: [x, l1, nm, l6, ky].flatten) := ⟨_, rfl⟩
      rw [← HL9.out] at r9
      obtain ⟨ad9, cp9, rfl, _, _, _⟩ := id r9
      simp only [Act.put, List.getElem_toArray, List.getElem_cons_succ, List.getElem_cons_zero, List.setIfInBounds_toArray, List.set_cons_zero, List.set_cons_succ]
      replace r1 := r1.below hbA
      replace r6 := r6.below hbA
      replace r7 := r7.below hbA
      replace r8 := r8.below hbA
      clear hbA
      refine wpAnyH_take (i := 16) (v := .slice ad9 l9.length cp9) rfl (by kernel_rfl) (by kernel_rfl) (by kernel_rfl) (fun _ _ _ h => h) (Or.inl ⟨by rfl, fun wx _ => by simp [go_sem]⟩) hS ?_
      simp only [Act.put, List.getElem_toArray, List.getElem_cons_succ, List.getElem_cons_zero, List.setIfInBounds_toArray, List.set_cons_zero, List.set_cons_succ]
      refine wpAnyH_done (by kernel_rfl) ?_ _
      have E : Hid (l9 = valueB x nm sr ky) := by show _ = _; rw [HL9.out]; simp [valueB, HL1.out, HL6.out]
      have HV : Hid (Reads w10 (.slice ad9 l9.length cp9) l9) := r9
      have HB : Hid (Below w.heap.size w w10) := hS.after HB1.out
      clear hS r1 r6 r7 r8 r9
      go_wp2
      go_ret
      exact ⟨_, rfl, by rw [← E.out]; exact HV.out, HB.out⟩
  · skip
    have hbA := bytesWorld_below nm w1
    have r10 := bytesWorld_reads nm w1
    have hS10 : Over w1 (Lib.bytesWorld w1 5 (strB nm)) := hS.more hbA
    refine ⟨hS10, ?_⟩
    simp only [Act.put, List.getElem_toArray, List.getElem_cons_succ, List.getElem_cons_zero, List.setIfInBounds_toArray, List.set_cons_zero, List.set_cons_succ]
    clear hbA hS
    have hS := hS10
    clear hS10
    generalize (Lib.bytesWorld w1 5 (strB nm)) = w11 at *
    generalize grownCap w1 nm.length 0 5 = cp10 at *
    generalize w1.heap.size = n10 at *
    refine wpAnyH_enter 5 (by kernel_rfl) rfl (by rfl) (f := 63) (args := #[.int .u64 (nm.length : Int)]) (by simp [go_sem]) (rnumber_any nm.length (by have := HN.out; omega) _) ?_
    rintro e w12 ⟨v11, rfl, r11, hbA⟩
    have hS11 : Over w1 w12 := hS.more hbA
    refine ⟨_, rfl, hS11, ?_⟩
    clear hS
    have hS := hS11
    clear hS11
    obtain ⟨l11, HL11⟩ : ∃ zz, Hid (zz = num8 nm.length) := ⟨_, rfl⟩
    rw [← HL11.out] at r11
    obtain ⟨ad11, cp11, rfl, _, _, _⟩ := id r11
    simp only [Act.put, List.getElem_toArray, List.getElem_cons_succ, List.getElem_cons_zero, List.setIfInBounds_toArray, List.set_cons_zero, List.set_cons_succ]
    replace r10 := r10.below hbA
    clear hbA
    refine wpAnyH_enter 11 (by kernel_rfl) rfl (by rfl) (f := 63) (args := #[.int .u64 (sr : Int)]) (by simp [go_sem]) (rnumber_any sr (by have := HN.out; omega) _) ?_
    rintro e w13 ⟨v12, rfl, r12, hbA⟩
    have hS12 : Over w1 w13 := hS.more hbA
    refine ⟨_, rfl, hS12, ?_⟩
    clear hS
    have hS := hS12
    clear hS12
    obtain ⟨l12, HL12⟩ : ∃ zz, Hid (zz = num8 sr) := ⟨_, rfl⟩
    rw [← HL12.out] at r12
    obtain ⟨ad12, cp12, rfl, _, _, _⟩ := id r12
    simp only [Act.put, List.getElem_toArray, List.getElem_cons_succ, List.getElem_cons_zero, List.setIfInBounds_toArray, List.set_cons_zero, List.set_cons_succ]
    replace r10 := r10.below hbA
    replace r11 := r11.below hbA
    clear hbA
    have hbA := below_alloc w13 (.cells #[.slice (some ⟨w.heap.size, 0, none⟩) 32 32, .slice ad11 l11.length cp11, .slice (some ⟨n10, 0, none⟩) nm.length cp10, .slice ad12 l12.length cp12, .slice ad ky.length cp] 23)
    have r13 := readsL_five (rx.below hS) r11 r10 r12 (rk.below hS)
    have hS13 : Over w1 (w13.alloc (.cells #[.slice (some ⟨w.heap.size, 0, none⟩) 32 32, .slice ad11 l11.length cp11, .slice (some ⟨n10, 0, none⟩) nm.length cp10, .slice ad12 l12.length cp12, .slice ad ky.length cp] 23)) := hS.more hbA
    refine wpAnyH_step 14 (.slice (some ⟨w13.heap.size, 0, none⟩) 5 5) (w13.alloc (.cells #[.slice (some ⟨w.heap.size, 0, none⟩) 32 32, .slice ad11 l11.length cp11, .slice (some ⟨n10, 0, none⟩) nm.length cp10, .slice ad12 l12.length cp12, .slice ad ky.length cp] 23)) (by kernel_rfl) rfl (by rfl) (by simp [go_sem]) hS13 ?_
    simp only [Act.put, List.getElem_toArray, List.getElem_cons_succ, List.getElem_cons_zero, List.setIfInBounds_toArray, List.set_cons_zero, List.set_cons_succ]
    replace r10 := r10.below hbA
    replace r11 := r11.below hbA
    replace r12 := r12.below hbA
    clear hbA hS
    have hS := hS13
    clear hS13
    generalize (w13.alloc (.cells #[.slice (some ⟨w.heap.size, 0, none⟩) 32 32, .slice ad11 l11.length cp11, .slice (some ⟨n10, 0, none⟩) nm.length cp10, .slice ad12 l12.length cp12, .slice ad ky.length cp] 23)) = w14 at *
    generalize w13.heap.size = n13 at *
    refine wpAnyH_enter 15 (by kernel_rfl) rfl (by rfl) (f := 62) (args := #[.int .u8 86, .slice (some ⟨n13, 0, none⟩) 5 5]) (by simp [go_sem]) (rsign_any 86 _ _ _ r13 (by simp only [fl5, HL11.out, HL12.out, len_num8]; have := HN.out; omega) (by simp)) ?_
    rintro e w15 ⟨v14, rfl, r14, hbA⟩
    have hS14 : Over w1 w15 := hS.more hbA
    refine ⟨_, rfl, hS14, ?_⟩
    clear hS
    have hS := hS14
    clear hS14
    obtain ⟨l14, HL14⟩ : ∃ zz, Hid (zz = (86 : BitVec 8) :: [x, l11, nm, l12, ky].flatten) := ⟨_, rfl⟩
    rw [← HL14.out] at r14
    obtain ⟨ad14, cp14, rfl, _, _, _⟩ := id r14
    simp only [Act.put, List.getElem_toArray, List.getElem_cons_succ, List.getElem_cons_zero, List.setIfInBounds_toArray, List.set_cons_zero, List.set_cons_succ]
    replace r10 := r10.below hbA
    replace r11 := r11.below hbA
    replace r12 := r12.below hbA
    replace r13 := r13.below hbA
    clear hbA
    refine wpAnyH_take (i := 16) (v := .slice ad14 l14.length cp14) rfl (by kernel_rfl) (by kernel_rfl) (by kernel_rfl) (fun _ _ _ h => h) (Or.inl ⟨by rfl, fun wx _ => by simp [go_sem]⟩) hS ?_
    simp only [Act.put, List.getElem_toArray, List.getElem_cons_succ, List.getElem_cons_zero, List.setIfInBounds_toArray, List.set_cons_zero, List.set_cons_succ]
    refine wpAnyH_done (by kernel_rfl) ?_ _
    have E : Hid (l14 = valueB x nm sr ky) := by show _ = _; rw [HL14.out]; simp [valueB, HL11.out, HL12.out]
    have HV : Hid (Reads w15 (.slice ad14 l14.length cp14) l14) := r14
    have HB : Hid (Below w.heap.size w w15) := hS.after HB1.out
    clear hS r10 r11 r12 r13 r14
    go_wp2
    go_ret
    exact ⟨_, rfl, by rw [← E.out]; exact HV.out, HB.out⟩
set_option maxHeartbeats 400000 in
theorem tRoot_any (x y z : List (BitVec 8)) (sr : Nat) (w : World) (hn : x.length = 32 ∧ y.length = 32 ∧ z.length = 32 ∧ sr < 18446744073709551616) :
    Calls Tryd.prog 42 #[.agg (Value.int .u64 (sr : Int) :: (cb x ++ (cb y ++ cb z))).toArray] w fun e w' => ∃ v, e = .returned v ∧ Reads w' v (rootB sr x y z) ∧ Below w.heap.size w w' := by
  have HN : Hid (x.length = 32 ∧ y.length = 32 ∧ z.length = 32 ∧ sr < 18446744073709551616) := hn
  clear hn
  go_enter Tryd.func42, Tryd.ntmps42
  go_wp2_with fail
  have hB0 : Below w.heap.size w (w.alloc (.cells (Value.int .u64 (sr : Int) :: (cb x ++ (cb y ++ cb z))).toArray 56)) := below_alloc _ _
  have hBb : Blk (w.alloc (.cells (Value.int .u64 (sr : Int) :: (cb x ++ (cb y ++ cb z))).toArray 56)) w.heap.size (Value.int .u64 (sr : Int) :: (cb x ++ (cb y ++ cb z))) 56 := Blk.new w _ _
  have c0 := hBb.cell 0
  have rx := hBb.reads_mid (o := 1) (bs := x) (n := 32) (c := 32) HN.out.1.symm (by have := HN.out; omega) (root_x x y z _)
  have ry := hBb.reads_mid (o := 33) (bs := y) (n := 32) (c := 32) HN.out.2.1.symm (by have := HN.out; omega) (root_y x y z _ HN.out.1)
  have rz := hBb.reads_mid (o := 65) (bs := z) (n := 32) (c := 32) HN.out.2.2.1.symm (by have := HN.out; omega) (root_z x y z _ HN.out.1 HN.out.2.1)
  clear hBb
  generalize (w.alloc (.cells (Value.int .u64 (sr : Int) :: (cb x ++ (cb y ++ cb z))).toArray 56)) = w0 at *
  refine wp_region_held_drew (S := Over w0.drew) (by kernel_rfl) (Over.refl _) ?_
  intro hS
  replace rx := reads_drew rx
  replace ry := reads_drew ry
  replace rz := reads_drew rz
  replace c0 : w0.drew.cell? ⟨w.heap.size, 0, none⟩ = some (.int .u64 (sr : Int)) := c0
  have HB1 : Hid (Below w.heap.size w w0.drew) := hB0.drew
  clear hB0
  generalize w0.drew = w1 at *
  refine wpAnyH_take (i := 0) (v := .pointer (some ⟨w.heap.size, 0, none⟩)) rfl (by kernel_rfl) (by kernel_rfl) (by kernel_rfl) (fun _ _ _ h => h) (Or.inl ⟨by rfl, fun wx _ => by simp [go_sem]⟩) hS ?_
  simp only [Act.put, List.getElem_toArray, List.getElem_cons_zero, List.setIfInBounds_toArray, List.set_cons_zero, List.set_cons_succ]
  refine wpAnyH_take (i := 1) (v := .int .u64 (sr : Int)) rfl (by kernel_rfl) (by kernel_rfl) (by kernel_rfl) (fun _ _ _ h => h) (Or.inl ⟨by rfl, fun wx hx => by (have hc := below_cell hx c0; simp [go_sem, hc])⟩) hS ?_
  simp only [Act.put, List.getElem_toArray, List.getElem_cons_succ, List.getElem_cons_zero, List.setIfInBounds_toArray, List.set_cons_zero, List.set_cons_succ]
  refine wpAnyH_take (i := 3) (v := .pointer (some ⟨w.heap.size, 1, none⟩)) rfl (by kernel_rfl) (by kernel_rfl) (by kernel_rfl) (fun _ _ _ h => h) (Or.inl ⟨by rfl, fun wx _ => by simp [go_sem]⟩) hS ?_
  simp only [Act.put, List.getElem_toArray, List.getElem_cons_succ, List.getElem_cons_zero, List.setIfInBounds_toArray, List.set_cons_zero, List.set_cons_succ]
  refine wpAnyH_take (i := 4) (v := .slice (some ⟨w.heap.size, 1, none⟩) 32 32) rfl (by kernel_rfl) (by kernel_rfl) (by kernel_rfl) (fun _ _ _ h => h) (Or.inl ⟨by rfl, fun wx _ => by simp [execOp, Act.eval, slice_dig_at]⟩) hS ?_
  simp only [Act.put, List.getElem_toArray, List.getElem_cons_succ, List.getElem_cons_zero, List.setIfInBounds_toArray, List.set_cons_zero, List.set_cons_succ]
  refine wpAnyH_take (i := 5) (v := .pointer (some ⟨w.heap.size, 33, none⟩)) rfl (by kernel_rfl) (by kernel_rfl) (by kernel_rfl) (fun _ _ _ h => h) (Or.inl ⟨by rfl, fun wx _ => by simp [go_sem]⟩) hS ?_
  simp only [Act.put, List.getElem_toArray, List.getElem_cons_succ, List.getElem_cons_zero, List.setIfInBounds_toArray, List.set_cons_zero, List.set_cons_succ]
  refine wpAnyH_take (i := 6) (v := .slice (some ⟨w.heap.size, 33, none⟩) 32 32) rfl (by kernel_rfl) (by kernel_rfl) (by kernel_rfl) (fun _ _ _ h => h) (Or.inl ⟨by rfl, fun wx _ => by simp [execOp, Act.eval, slice_dig_at]⟩) hS ?_
  simp only [Act.put, List.getElem_toArray, List.getElem_cons_succ, List.getElem_cons_zero, List.setIfInBounds_toArray, List.set_cons_zero, List.set_cons_succ]
  refine wpAnyH_take (i := 7) (v := .pointer (some ⟨w.heap.size, 65, none⟩)) rfl (by kernel_rfl) (by kernel_rfl) (by kernel_rfl) (fun _ _ _ h => h) (Or.inl ⟨by rfl, fun wx _ => by simp [go_sem]⟩) hS ?_
  simp only [Act.put, List.getElem_toArray, List.getElem_cons_succ, List.getElem_cons_zero, List.setIfInBounds_toArray, List.set_cons_zero, List.set_cons_succ]
  refine wpAnyH_take (i := 8) (v := .slice (some ⟨w.heap.size, 65, none⟩) 32 32) rfl (by kernel_rfl) (by kernel_rfl) (by kernel_rfl) (fun _ _ _ h => h) (Or.inl ⟨by rfl, fun wx _ => by simp [execOp, Act.eval, slice_dig_at]⟩) hS ?_
  simp only [Act.put, List.getElem_toArray, List.getElem_cons_succ, List.getElem_cons_zero, List.setIfInBounds_toArray, List.set_cons_zero, List.set_cons_succ]
  refine wpAnyH_enter 2 (by kernel_rfl) rfl (by rfl) (f := 61) (args := #[.int .u64 (sr : Int)]) (by simp [go_sem]) (number_any sr _) ?_
  rintro e w2 ⟨v1, rfl, r1, hbA⟩
  have hS1 : Over w1 w2 := hS.more hbA
  refine ⟨_, rfl, hS1, ?_⟩
  clear hS
  have hS := hS1
  clear hS1
  obtain ⟨l1, HL1⟩ : ∃ zz, Hid (zz = num8 sr) := ⟨_, rfl⟩
  rw [← HL1.out] at r1
  obtain ⟨ad1, cp1, rfl, _, _, _⟩ := id r1
  simp only [Act.put, List.getElem_toArray, List.getElem_cons_succ, List.getElem_cons_zero, List.setIfInBounds_toArray, List.set_cons_zero, List.set_cons_succ]
  clear hbA
  have hbA := below_alloc w2 (.cells #[.slice ad1 l1.length cp1, .slice (some ⟨w.heap.size, 1, none⟩) 32 32, .slice (some ⟨w.heap.size, 33, none⟩) 32 32, .slice (some ⟨w.heap.size, 65, none⟩) 32 32] 23)
  have r2 := readsL_four r1 (rx.below hS) (ry.below hS) (rz.below hS)
  have hS2 : Over w1 (w2.alloc (.cells #[.slice ad1 l1.length cp1, .slice (some ⟨w.heap.size, 1, none⟩) 32 32, .slice (some ⟨w.heap.size, 33, none⟩) 32 32, .slice (some ⟨w.heap.size, 65, none⟩) 32 32] 23)) := hS.more hbA
  refine wpAnyH_step 9 (.slice (some ⟨w2.heap.size, 0, none⟩) 4 4) (w2.alloc (.cells #[.slice ad1 l1.length cp1, .slice (some ⟨w.heap.size, 1, none⟩) 32 32, .slice (some ⟨w.heap.size, 33, none⟩) 32 32, .slice (some ⟨w.heap.size, 65, none⟩) 32 32] 23)) (by kernel_rfl) rfl (by rfl) (by simp [go_sem]) hS2 ?_
  simp only [Act.put, List.getElem_toArray, List.getElem_cons_succ, List.getElem_cons_zero, List.setIfInBounds_toArray, List.set_cons_zero, List.set_cons_succ]
  replace r1 := r1.below hbA
  clear hbA hS
  have hS := hS2
  clear hS2
  generalize (w2.alloc (.cells #[.slice ad1 l1.length cp1, .slice (some ⟨w.heap.size, 1, none⟩) 32 32, .slice (some ⟨w.heap.size, 33, none⟩) 32 32, .slice (some ⟨w.heap.size, 65, none⟩) 32 32] 23)) = w3 at *
  generalize w2.heap.size = n2 at *
  refine wpAnyH_enter 10 (by kernel_rfl) rfl (by rfl) (f := 60) (args := #[.int .u8 82, .slice (some ⟨n2, 0, none⟩) 4 4]) (by simp [go_sem]) (tagged_any 82 _ _ _ r2 (by simp only [fl4, HL1.out, len_num8]; have := HN.out; omega) (by simp)) ?_
  rintro e w4 ⟨v3, rfl, r3, hbA⟩
  have hS3 : Over w1 w4 := hS.more hbA
  refine ⟨_, rfl, hS3, ?_⟩
  clear hS
  have hS := hS3
  clear hS3
  obtain ⟨l3, HL3⟩ : ∃ zz, Hid (zz = (82 : BitVec 8) :: [l1, x, y, z].flatten) := ⟨_, rfl⟩
  rw [← HL3.out] at r3
  obtain ⟨ad3, cp3, rfl, _, _, _⟩ := id r3
  simp only [Act.put, List.getElem_toArray, List.getElem_cons_succ, List.getElem_cons_zero, List.setIfInBounds_toArray, List.set_cons_zero, List.set_cons_succ]
  replace r1 := r1.below hbA
  replace r2 := r2.below hbA
  clear hbA
  refine wpAnyH_take (i := 11) (v := .slice ad3 l3.length cp3) rfl (by kernel_rfl) (by kernel_rfl) (by kernel_rfl) (fun _ _ _ h => h) (Or.inl ⟨by rfl, fun wx _ => by simp [go_sem]⟩) hS ?_
  simp only [Act.put, List.getElem_toArray, List.getElem_cons_succ, List.getElem_cons_zero, List.setIfInBounds_toArray, List.set_cons_zero, List.set_cons_succ]
  refine wpAnyH_done (by kernel_rfl) ?_ _
  have E : Hid (l3 = rootB sr x y z) := by show _ = _; rw [HL3.out]; simp [rootB, HL1.out]
  have HV : Hid (Reads w4 (.slice ad3 l3.length cp3) l3) := r3
  have HB : Hid (Below w.heap.size w w4) := hS.after HB1.out
  clear hS r1 r2 r3
  go_wp2
  go_ret
  exact ⟨_, rfl, by rw [← E.out]; exact HV.out, HB.out⟩
set_option maxHeartbeats 400000 in
theorem rRoot_any (x y z : List (BitVec 8)) (sr : Nat) (w : World) (hn : x.length = 32 ∧ y.length = 32 ∧ z.length = 32 ∧ sr < 18446744073709551616) :
    Calls Tryd.prog 43 #[.agg (Value.int .u64 (sr : Int) :: (cb x ++ (cb y ++ cb z))).toArray] w fun e w' => ∃ v, e = .returned v ∧ Reads w' v (rootB sr x y z) ∧ Below w.heap.size w w' := by
  have HN : Hid (x.length = 32 ∧ y.length = 32 ∧ z.length = 32 ∧ sr < 18446744073709551616) := hn
  clear hn
  go_enter Tryd.func43, Tryd.ntmps43
  go_wp2_with fail
  have hB0 : Below w.heap.size w (w.alloc (.cells (Value.int .u64 (sr : Int) :: (cb x ++ (cb y ++ cb z))).toArray 56)) := below_alloc _ _
  have hBb : Blk (w.alloc (.cells (Value.int .u64 (sr : Int) :: (cb x ++ (cb y ++ cb z))).toArray 56)) w.heap.size (Value.int .u64 (sr : Int) :: (cb x ++ (cb y ++ cb z))) 56 := Blk.new w _ _
  have c0 := hBb.cell 0
  have rx := hBb.reads_mid (o := 1) (bs := x) (n := 32) (c := 32) HN.out.1.symm (by have := HN.out; omega) (root_x x y z _)
  have ry := hBb.reads_mid (o := 33) (bs := y) (n := 32) (c := 32) HN.out.2.1.symm (by have := HN.out; omega) (root_y x y z _ HN.out.1)
  have rz := hBb.reads_mid (o := 65) (bs := z) (n := 32) (c := 32) HN.out.2.2.1.symm (by have := HN.out; omega) (root_z x y z _ HN.out.1 HN.out.2.1)
  clear hBb
  generalize (w.alloc (.cells (Value.int .u64 (sr : Int) :: (cb x ++ (cb y ++ cb z))).toArray 56)) = w0 at *
  refine wp_region_held_drew (S := Over w0.drew) (by kernel_rfl) (Over.refl _) ?_
  intro hS
  replace rx := reads_drew rx
  replace ry := reads_drew ry
  replace rz := reads_drew rz
  replace c0 : w0.drew.cell? ⟨w.heap.size, 0, none⟩ = some (.int .u64 (sr : Int)) := c0
  have HB1 : Hid (Below w.heap.size w w0.drew) := hB0.drew
  clear hB0
  generalize w0.drew = w1 at *
  refine wpAnyH_take (i := 0) (v := .pointer (some ⟨w.heap.size, 0, none⟩)) rfl (by kernel_rfl) (by kernel_rfl) (by kernel_rfl) (fun _ _ _ h => h) (Or.inl ⟨by rfl, fun wx _ => by simp [go_sem]⟩) hS ?_
  simp only [Act.put, List.getElem_toArray, List.getElem_cons_zero, List.setIfInBounds_toArray, List.set_cons_zero, List.set_cons_succ]
  refine wpAnyH_take (i := 1) (v := .int .u64 (sr : Int)) rfl (by kernel_rfl) (by kernel_rfl) (by kernel_rfl) (fun _ _ _ h => h) (Or.inl ⟨by rfl, fun wx hx => by (have hc := below_cell hx c0; simp [go_sem, hc])⟩) hS ?_
  simp only [Act.put, List.getElem_toArray, List.getElem_cons_succ, List.getElem_cons_zero, List.setIfInBounds_toArray, List.set_cons_zero, List.set_cons_succ]
  refine wpAnyH_take (i := 3) (v := .pointer (some ⟨w.heap.size, 1, none⟩)) rfl (by kernel_rfl) (by kernel_rfl) (by kernel_rfl) (fun _ _ _ h => h) (Or.inl ⟨by rfl, fun wx _ => by simp [go_sem]⟩) hS ?_
  simp only [Act.put, List.getElem_toArray, List.getElem_cons_succ, List.getElem_cons_zero, List.setIfInBounds_toArray, List.set_cons_zero, List.set_cons_succ]
  refine wpAnyH_take (i := 4) (v := .slice (some ⟨w.heap.size, 1, none⟩) 32 32) rfl (by kernel_rfl) (by kernel_rfl) (by kernel_rfl) (fun _ _ _ h => h) (Or.inl ⟨by rfl, fun wx _ => by simp [execOp, Act.eval, slice_dig_at]⟩) hS ?_
  simp only [Act.put, List.getElem_toArray, List.getElem_cons_succ, List.getElem_cons_zero, List.setIfInBounds_toArray, List.set_cons_zero, List.set_cons_succ]
  refine wpAnyH_take (i := 5) (v := .pointer (some ⟨w.heap.size, 33, none⟩)) rfl (by kernel_rfl) (by kernel_rfl) (by kernel_rfl) (fun _ _ _ h => h) (Or.inl ⟨by rfl, fun wx _ => by simp [go_sem]⟩) hS ?_
  simp only [Act.put, List.getElem_toArray, List.getElem_cons_succ, List.getElem_cons_zero, List.setIfInBounds_toArray, List.set_cons_zero, List.set_cons_succ]
  refine wpAnyH_take (i := 6) (v := .slice (some ⟨w.heap.size, 33, none⟩) 32 32) rfl (by kernel_rfl) (by kernel_rfl) (by kernel_rfl) (fun _ _ _ h => h) (Or.inl ⟨by rfl, fun wx _ => by simp [execOp, Act.eval, slice_dig_at]⟩) hS ?_
  simp only [Act.put, List.getElem_toArray, List.getElem_cons_succ, List.getElem_cons_zero, List.setIfInBounds_toArray, List.set_cons_zero, List.set_cons_succ]
  refine wpAnyH_take (i := 7) (v := .pointer (some ⟨w.heap.size, 65, none⟩)) rfl (by kernel_rfl) (by kernel_rfl) (by kernel_rfl) (fun _ _ _ h => h) (Or.inl ⟨by rfl, fun wx _ => by simp [go_sem]⟩) hS ?_
  simp only [Act.put, List.getElem_toArray, List.getElem_cons_succ, List.getElem_cons_zero, List.setIfInBounds_toArray, List.set_cons_zero, List.set_cons_succ]
  refine wpAnyH_take (i := 8) (v := .slice (some ⟨w.heap.size, 65, none⟩) 32 32) rfl (by kernel_rfl) (by kernel_rfl) (by kernel_rfl) (fun _ _ _ h => h) (Or.inl ⟨by rfl, fun wx _ => by simp [execOp, Act.eval, slice_dig_at]⟩) hS ?_
  simp only [Act.put, List.getElem_toArray, List.getElem_cons_succ, List.getElem_cons_zero, List.setIfInBounds_toArray, List.set_cons_zero, List.set_cons_succ]
  refine wpAnyH_enter 2 (by kernel_rfl) rfl (by rfl) (f := 63) (args := #[.int .u64 (sr : Int)]) (by simp [go_sem]) (rnumber_any sr (by have := HN.out; omega) _) ?_
  rintro e w2 ⟨v1, rfl, r1, hbA⟩
  have hS1 : Over w1 w2 := hS.more hbA
  refine ⟨_, rfl, hS1, ?_⟩
  clear hS
  have hS := hS1
  clear hS1
  obtain ⟨l1, HL1⟩ : ∃ zz, Hid (zz = num8 sr) := ⟨_, rfl⟩
  rw [← HL1.out] at r1
  obtain ⟨ad1, cp1, rfl, _, _, _⟩ := id r1
  simp only [Act.put, List.getElem_toArray, List.getElem_cons_succ, List.getElem_cons_zero, List.setIfInBounds_toArray, List.set_cons_zero, List.set_cons_succ]
  clear hbA
  have hbA := below_alloc w2 (.cells #[.slice ad1 l1.length cp1, .slice (some ⟨w.heap.size, 1, none⟩) 32 32, .slice (some ⟨w.heap.size, 33, none⟩) 32 32, .slice (some ⟨w.heap.size, 65, none⟩) 32 32] 23)
  have r2 := readsL_four r1 (rx.below hS) (ry.below hS) (rz.below hS)
  have hS2 : Over w1 (w2.alloc (.cells #[.slice ad1 l1.length cp1, .slice (some ⟨w.heap.size, 1, none⟩) 32 32, .slice (some ⟨w.heap.size, 33, none⟩) 32 32, .slice (some ⟨w.heap.size, 65, none⟩) 32 32] 23)) := hS.more hbA
  refine wpAnyH_step 9 (.slice (some ⟨w2.heap.size, 0, none⟩) 4 4) (w2.alloc (.cells #[.slice ad1 l1.length cp1, .slice (some ⟨w.heap.size, 1, none⟩) 32 32, .slice (some ⟨w.heap.size, 33, none⟩) 32 32, .slice (some ⟨w.heap.size, 65, none⟩) 32 32] 23)) (by kernel_rfl) rfl (by rfl) (by simp [go_sem]) hS2 ?_
  simp only [Act.put, List.getElem_toArray, List.getElem_cons_succ, List.getElem_cons_zero, List.setIfInBounds_toArray, List.set_cons_zero, List.set_cons_succ]
  replace r1 := r1.below hbA
  clear hbA hS
  have hS := hS2
  clear hS2
  generalize (w2.alloc (.cells #[.slice ad1 l1.length cp1, .slice (some ⟨w.heap.size, 1, none⟩) 32 32, .slice (some ⟨w.heap.size, 33, none⟩) 32 32, .slice (some ⟨w.heap.size, 65, none⟩) 32 32] 23)) = w3 at *
  generalize w2.heap.size = n2 at *
  refine wpAnyH_enter 10 (by kernel_rfl) rfl (by rfl) (f := 62) (args := #[.int .u8 82, .slice (some ⟨n2, 0, none⟩) 4 4]) (by simp [go_sem]) (rsign_any 82 _ _ _ r2 (by simp only [fl4, HL1.out, len_num8]; have := HN.out; omega) (by simp)) ?_
  rintro e w4 ⟨v3, rfl, r3, hbA⟩
  have hS3 : Over w1 w4 := hS.more hbA
  refine ⟨_, rfl, hS3, ?_⟩
  clear hS
  have hS := hS3
  clear hS3
  obtain ⟨l3, HL3⟩ : ∃ zz, Hid (zz = (82 : BitVec 8) :: [l1, x, y, z].flatten) := ⟨_, rfl⟩
  rw [← HL3.out] at r3
  obtain ⟨ad3, cp3, rfl, _, _, _⟩ := id r3
  simp only [Act.put, List.getElem_toArray, List.getElem_cons_succ, List.getElem_cons_zero, List.setIfInBounds_toArray, List.set_cons_zero, List.set_cons_succ]
  replace r1 := r1.below hbA
  replace r2 := r2.below hbA
  clear hbA
  refine wpAnyH_take (i := 11) (v := .slice ad3 l3.length cp3) rfl (by kernel_rfl) (by kernel_rfl) (by kernel_rfl) (fun _ _ _ h => h) (Or.inl ⟨by rfl, fun wx _ => by simp [go_sem]⟩) hS ?_
  simp only [Act.put, List.getElem_toArray, List.getElem_cons_succ, List.getElem_cons_zero, List.setIfInBounds_toArray, List.set_cons_zero, List.set_cons_succ]
  refine wpAnyH_done (by kernel_rfl) ?_ _
  have E : Hid (l3 = rootB sr x y z) := by show _ = _; rw [HL3.out]; simp [rootB, HL1.out]
  have HV : Hid (Reads w4 (.slice ad3 l3.length cp3) l3) := r3
  have HB : Hid (Below w.heap.size w w4) := hS.after HB1.out
  clear hS r1 r2 r3
  go_wp2
  go_ret
  exact ⟨_, rfl, by rw [← E.out]; exact HV.out, HB.out⟩
end Go.Proofs.YtpeifpoeeopecaaDoor
/- tags' texts lie in new blocks. -/
namespace Go.Proofs.YtpeifpoeeopecaaDoor
open Go.RowKit
set_option maxRecDepth 100000
/-- a text in a block from base on -/
structure Fresh (base : Nat) (w : World) (v : Value) (l : List (BitVec 8)) : Prop where
  rd : Reads w v l
  ge : ∀ k, v.ownBlock = some k → base ≤ k
theorem Fresh.below {base : Nat} {w w' : World} {v : Value} {l : List (BitVec 8)} (h : Fresh base w v l) (hb : Below w.heap.size w w') : Fresh base w' v l := ⟨h.rd.below hb, h.ge⟩
theorem Fresh.mono {base b : Nat} {w : World} {v : Value} {l : List (BitVec 8)} (h : Fresh base w v l) (hb : b ≤ base) : Fresh b w v l := ⟨h.rd, fun k hk => Nat.le_trans hb (h.ge k hk)⟩
set_option maxHeartbeats 400000 in
theorem tagged_own (c : BitVec 8) (v : Value) (ls : List (List (BitVec 8))) (w : World) (hR : ReadsL w v ls) (hl : ls.flatten.length < 140737488355328) (hn : ls.length < 4611686018427387904) :
    Calls Tryd.prog 60 #[.int .u8 (c.toNat : Int), v] w fun e w' => ∃ v', e = .returned v' ∧ Fresh w.heap.size w' v' (c :: ls.flatten) ∧ Below w.heap.size w w' := by
  have HR : Hid (ReadsL w v ls) := hR
  obtain ⟨ad, cap, hv, hcap, _, _⟩ := hR
  obtain ⟨n, HNN⟩ : ∃ n, Hid (n = ls.length) := ⟨_, rfl⟩
  rw [← HNN.out] at hv hcap hn
  subst hv
  have hm := make_room w
  have HO : Hid (OwnB (w.alloc (.cells (cb (List.replicate 128 0)).toArray 5)) w.heap.size (.slice (some ⟨w.heap.size, 0, none⟩) 0 128) []) := own_room w _ (Nat.le_refl _)
  have HB0 : Hid (Below w.heap.size w (w.alloc (.cells (cb (List.replicate 128 0)).toArray 5))) := below_alloc _ _
  have HS0 : Hid (w.heap.size + 1 ≤ (w.alloc (.cells (cb (List.replicate 128 0)).toArray 5)).heap.size) := by show _ ≤ _; simp
  generalize w.alloc (.cells (cb (List.replicate 128 0)).toArray 5) = w0 at *
  generalize Value.slice (some ⟨w.heap.size, 0, none⟩) 0 128 = v0 at *
  go_enter Tryd.func60, Tryd.ntmps60
  go_wp2_with (at_builtin; refine wpList_appendB rfl (.tmp 8) (.tmp 10) rfl w.heap.size _ [] rfl (HO.out.below (below_alloc _ _) (Nat.le_refl _)) _ [c] rfl (reads_val w0 _ c rfl) (by simp) (by have := HS0.out; simp; omega) ?_; intro v1 w1 hown1 hb1 _)
  have hI : RpInv w [c] v1 w1 := ⟨hown1, HB0.out.trans (((Below.refl _ _).alloc (by have := HS0.out; omega) _).trans hb1)⟩
  clear hown1 hb1 HO HB0 hm HS0
  go_loopw [5, 14] (fun u i wr => ∃ k : Nat, k ≤ n ∧ i = .int .i64 k ∧ RpInv w (c :: (ls.take k).flatten) u wr) (fun _ i _ => n - (intOf i).toNat)
  case atStart => exact ⟨0, by omega, rfl, hI⟩
  case round =>
    clear hI
    obtain ⟨k, hk, rfl, hI⟩ := hrel
    have HI : Hid (RpInv w (c :: (ls.take k).flatten) u5 wr) := hI
    by_cases hlt : k < n
    · obtain ⟨ad', cap', hv', _, _, hx⟩ := HR.out.below hI.bel
      rw [← HNN.out] at hv' hx
      simp only [Value.slice.injEq, true_and] at hv'
      obtain ⟨rfl, rfl⟩ := hv'
      obtain ⟨b, off, rfl, hx2⟩ := hx (by omega)
      obtain ⟨vj, cj, hj⟩ := hx2 k hlt
      have HJ : Hid (Reads wr vj (ls.getD k [])) := hj
      have HF : Hid ((ls.take (k + 1)).flatten = (ls.take k).flatten ++ ls.getD k []) := flat_take ls k (by rw [← HNN.out]; exact hlt)
      have HL : Hid ((c :: (ls.take k).flatten).length + (ls.getD k []).length ≤ 140737488355328) := by
        have h1 := flat_le ls (k + 1)
        rw [HF.out, List.length_append] at h1
        show _ ≤ _
        rw [List.length_cons]
        omega
      clear hx hx2 hj hI
      go_wp2_with (at_builtin; refine wpList_appendB rfl (.tmp 18) (.tmp 19) rfl w.heap.size _ (c :: (ls.take k).flatten) rfl HI.out.own _ (ls.getD k []) rfl HJ.out HL.out HI.out.bel.size ?_; intro v2 w2 hown2 hb2 _)
      have hJ : RpInv w (c :: (ls.take (k + 1)).flatten) v2 w2 := ⟨by rw [HF.out]; exact hown2, HI.out.bel.trans hb2⟩
      clear hown2 hb2 HI
      go_wp2
      go_roundw
      case rel => exact ⟨k + 1, by omega, by go_num, hJ⟩
      case measure => simp [intOf]; omega
    · have hkn : k = n := by omega
      subst hkn
      rw [HNN.out, List.take_of_length_le (Nat.le_refl _)] at hI
      obtain ⟨g, cap', rfl, hc', hr⟩ := hI.own.cut (by simp)
      have HV : Hid (Reads wr (.slice (some ⟨g, 0, none⟩) (c :: ls.flatten).length (c :: ls.flatten).length) (c :: ls.flatten)) := hr
      have hbel := hI.bel
      have HGE : Hid (w.heap.size ≤ g) := (World.ownsRow.lt hI.own g rfl).1
      have hcl : (c :: ls.flatten).length < 140737488355329 := by rw [List.length_cons]; omega
      clear hI HI HR hr hl
      generalize (c :: ls.flatten).length = m at *
      go_wp2
      go_ret
      exact ⟨_, rfl, ⟨HV.out, fun k hk => by cases hk; exact HGE.out⟩, hbel⟩
set_option maxHeartbeats 400000 in
theorem tLeaf_own (x y : List (BitVec 8)) (hx : x.length = 32) (hy : y.length = 32) (w : World) : Calls Tryd.prog 71 #[.agg (cb x).toArray, .agg (cb y).toArray] w fun e w' => ∃ v, e = .returned v ∧ Fresh w.heap.size w' v (pairB 76 x y) ∧ Below w.heap.size w w' := by
  have HN : Hid (x.length = 32 ∧ y.length = 32) := ⟨hx, hy⟩
  clear hx hy
  go_enter Tryd.func71, Tryd.ntmps71
  go_wp2_with fail
  have hB0 : Below w.heap.size w ((w.alloc (.cells (cb x).toArray 33)).alloc (.cells (cb y).toArray 33)) := (below_alloc _ _).trans ((below_alloc _ _).mono (by simp))
  have rx : Reads ((w.alloc (.cells (cb x).toArray 33)).alloc (.cells (cb y).toArray 33)) (.slice (some ⟨w.heap.size, 0, none⟩) 32 32) x := ((Blk.new w (cb x) 33).alloc _).reads HN.out.1.symm (by have := HN.out; omega)
  have ry : Reads ((w.alloc (.cells (cb x).toArray 33)).alloc (.cells (cb y).toArray 33)) (.slice (some ⟨w.heap.size + 1, 0, none⟩) 32 32) y := (Blk.new_at (by simp) (cb y) 33).reads HN.out.2.symm (by have := HN.out; omega)
  generalize ((w.alloc (.cells (cb x).toArray 33)).alloc (.cells (cb y).toArray 33)) = w0 at *
  refine wp_region_held_drew (S := Over w0.drew) (by kernel_rfl) (Over.refl _) ?_
  intro hS
  replace rx := reads_drew rx
  replace ry := reads_drew ry
  have HB1 : Hid (Below w.heap.size w w0.drew) := hB0.drew
  clear hB0
  generalize w0.drew = w1 at *
  refine wpAnyH_take (i := 0) (v := .slice (some ⟨w.heap.size, 0, none⟩) 32 32) rfl (by kernel_rfl) (by kernel_rfl) (by kernel_rfl) (fun _ _ _ h => h) (Or.inl ⟨by rfl, fun wx _ => by simp [execOp, Act.eval, slice_dig]⟩) hS ?_
  simp only [Act.put, List.getElem_toArray, List.getElem_cons_zero, List.setIfInBounds_toArray, List.set_cons_zero, List.set_cons_succ]
  refine wpAnyH_take (i := 1) (v := .slice (some ⟨w.heap.size + 1, 0, none⟩) 32 32) rfl (by kernel_rfl) (by kernel_rfl) (by kernel_rfl) (fun _ _ _ h => h) (Or.inl ⟨by rfl, fun wx _ => by simp [execOp, Act.eval, slice_dig]⟩) hS ?_
  simp only [Act.put, List.getElem_toArray, List.getElem_cons_succ, List.getElem_cons_zero, List.setIfInBounds_toArray, List.set_cons_zero, List.set_cons_succ]
  have hbA := below_alloc w1 (.cells #[.slice (some ⟨w.heap.size, 0, none⟩) 32 32, .slice (some ⟨w.heap.size + 1, 0, none⟩) 32 32] 23)
  have r1 := readsL_two (rx.below hS) (ry.below hS)
  have hS1 : Over w1 (w1.alloc (.cells #[.slice (some ⟨w.heap.size, 0, none⟩) 32 32, .slice (some ⟨w.heap.size + 1, 0, none⟩) 32 32] 23)) := hS.more hbA
  refine wpAnyH_step 2 (.slice (some ⟨w1.heap.size, 0, none⟩) 2 2) (w1.alloc (.cells #[.slice (some ⟨w.heap.size, 0, none⟩) 32 32, .slice (some ⟨w.heap.size + 1, 0, none⟩) 32 32] 23)) (by kernel_rfl) rfl (by rfl) (by simp [go_sem]) hS1 ?_
  simp only [Act.put, List.getElem_toArray, List.getElem_cons_succ, List.getElem_cons_zero, List.setIfInBounds_toArray, List.set_cons_zero, List.set_cons_succ]
  clear hbA hS
  have hS := hS1
  clear hS1
  generalize (w1.alloc (.cells #[.slice (some ⟨w.heap.size, 0, none⟩) 32 32, .slice (some ⟨w.heap.size + 1, 0, none⟩) 32 32] 23)) = w2 at *
  generalize w1.heap.size = n1 at *
  refine wpAnyH_enter 3 (by kernel_rfl) rfl (by rfl) (f := 60) (args := #[.int .u8 76, .slice (some ⟨n1, 0, none⟩) 2 2]) (by simp [go_sem]) (tagged_own 76 _ _ _ r1 (by simp only [fl2]; have := HN.out; omega) (by simp)) ?_
  rintro e w3 ⟨v2, rfl, ⟨r2, g2⟩, hbA⟩
  have HG : Hid (∀ k, v2.ownBlock = some k → w.heap.size ≤ k) := fun k hk => Nat.le_trans HB1.out.size (Nat.le_trans (Below.size hS) (g2 k hk))
  clear g2
  have hS2 : Over w1 w3 := hS.more hbA
  refine ⟨_, rfl, hS2, ?_⟩
  clear hS
  have hS := hS2
  clear hS2
  obtain ⟨l2, HL2⟩ : ∃ zz, Hid (zz = (76 : BitVec 8) :: [x, y].flatten) := ⟨_, rfl⟩
  rw [← HL2.out] at r2
  obtain ⟨ad2, cp2, rfl, _, _, _⟩ := id r2
  simp only [Act.put, List.getElem_toArray, List.getElem_cons_succ, List.getElem_cons_zero, List.setIfInBounds_toArray, List.set_cons_zero, List.set_cons_succ]
  replace r1 := r1.below hbA
  clear hbA
  refine wpAnyH_take (i := 4) (v := .slice ad2 l2.length cp2) rfl (by kernel_rfl) (by kernel_rfl) (by kernel_rfl) (fun _ _ _ h => h) (Or.inl ⟨by rfl, fun wx _ => by simp [go_sem]⟩) hS ?_
  simp only [Act.put, List.getElem_toArray, List.getElem_cons_succ, List.getElem_cons_zero, List.setIfInBounds_toArray, List.set_cons_zero, List.set_cons_succ]
  refine wpAnyH_done (by kernel_rfl) ?_ _
  have E : Hid (l2 = pairB 76 x y) := by show _ = _; rw [HL2.out]; simp [pairB]
  have HV : Hid (Reads w3 (.slice ad2 l2.length cp2) l2) := r2
  have HB : Hid (Below w.heap.size w w3) := hS.after HB1.out
  clear hS r1 r2
  go_wp2
  go_ret
  exact ⟨_, rfl, ⟨by rw [← E.out]; exact HV.out, HG.out⟩, HB.out⟩
set_option maxHeartbeats 400000 in
theorem tNode_own (x y : List (BitVec 8)) (hx : x.length = 32) (hy : y.length = 32) (w : World) : Calls Tryd.prog 74 #[.agg (cb x).toArray, .agg (cb y).toArray] w fun e w' => ∃ v, e = .returned v ∧ Fresh w.heap.size w' v (pairB 78 x y) ∧ Below w.heap.size w w' := by
  have HN : Hid (x.length = 32 ∧ y.length = 32) := ⟨hx, hy⟩
  clear hx hy
  go_enter Tryd.func74, Tryd.ntmps74
  go_wp2_with fail
  have hB0 : Below w.heap.size w ((w.alloc (.cells (cb x).toArray 33)).alloc (.cells (cb y).toArray 33)) := (below_alloc _ _).trans ((below_alloc _ _).mono (by simp))
  have rx : Reads ((w.alloc (.cells (cb x).toArray 33)).alloc (.cells (cb y).toArray 33)) (.slice (some ⟨w.heap.size, 0, none⟩) 32 32) x := ((Blk.new w (cb x) 33).alloc _).reads HN.out.1.symm (by have := HN.out; omega)
  have ry : Reads ((w.alloc (.cells (cb x).toArray 33)).alloc (.cells (cb y).toArray 33)) (.slice (some ⟨w.heap.size + 1, 0, none⟩) 32 32) y := (Blk.new_at (by simp) (cb y) 33).reads HN.out.2.symm (by have := HN.out; omega)
  generalize ((w.alloc (.cells (cb x).toArray 33)).alloc (.cells (cb y).toArray 33)) = w0 at *
  refine wp_region_held_drew (S := Over w0.drew) (by kernel_rfl) (Over.refl _) ?_
  intro hS
  replace rx := reads_drew rx
  replace ry := reads_drew ry
  have HB1 : Hid (Below w.heap.size w w0.drew) := hB0.drew
  clear hB0
  generalize w0.drew = w1 at *
  refine wpAnyH_take (i := 0) (v := .slice (some ⟨w.heap.size, 0, none⟩) 32 32) rfl (by kernel_rfl) (by kernel_rfl) (by kernel_rfl) (fun _ _ _ h => h) (Or.inl ⟨by rfl, fun wx _ => by simp [execOp, Act.eval, slice_dig]⟩) hS ?_
  simp only [Act.put, List.getElem_toArray, List.getElem_cons_zero, List.setIfInBounds_toArray, List.set_cons_zero, List.set_cons_succ]
  refine wpAnyH_take (i := 1) (v := .slice (some ⟨w.heap.size + 1, 0, none⟩) 32 32) rfl (by kernel_rfl) (by kernel_rfl) (by kernel_rfl) (fun _ _ _ h => h) (Or.inl ⟨by rfl, fun wx _ => by simp [execOp, Act.eval, slice_dig]⟩) hS ?_
  simp only [Act.put, List.getElem_toArray, List.getElem_cons_succ, List.getElem_cons_zero, List.setIfInBounds_toArray, List.set_cons_zero, List.set_cons_succ]
  have hbA := below_alloc w1 (.cells #[.slice (some ⟨w.heap.size, 0, none⟩) 32 32, .slice (some ⟨w.heap.size + 1, 0, none⟩) 32 32] 23)
  have r1 := readsL_two (rx.below hS) (ry.below hS)
  have hS1 : Over w1 (w1.alloc (.cells #[.slice (some ⟨w.heap.size, 0, none⟩) 32 32, .slice (some ⟨w.heap.size + 1, 0, none⟩) 32 32] 23)) := hS.more hbA
  refine wpAnyH_step 2 (.slice (some ⟨w1.heap.size, 0, none⟩) 2 2) (w1.alloc (.cells #[.slice (some ⟨w.heap.size, 0, none⟩) 32 32, .slice (some ⟨w.heap.size + 1, 0, none⟩) 32 32] 23)) (by kernel_rfl) rfl (by rfl) (by simp [go_sem]) hS1 ?_
  simp only [Act.put, List.getElem_toArray, List.getElem_cons_succ, List.getElem_cons_zero, List.setIfInBounds_toArray, List.set_cons_zero, List.set_cons_succ]
  clear hbA hS
  have hS := hS1
  clear hS1
  generalize (w1.alloc (.cells #[.slice (some ⟨w.heap.size, 0, none⟩) 32 32, .slice (some ⟨w.heap.size + 1, 0, none⟩) 32 32] 23)) = w2 at *
  generalize w1.heap.size = n1 at *
  refine wpAnyH_enter 3 (by kernel_rfl) rfl (by rfl) (f := 60) (args := #[.int .u8 78, .slice (some ⟨n1, 0, none⟩) 2 2]) (by simp [go_sem]) (tagged_own 78 _ _ _ r1 (by simp only [fl2]; have := HN.out; omega) (by simp)) ?_
  rintro e w3 ⟨v2, rfl, ⟨r2, g2⟩, hbA⟩
  have HG : Hid (∀ k, v2.ownBlock = some k → w.heap.size ≤ k) := fun k hk => Nat.le_trans HB1.out.size (Nat.le_trans (Below.size hS) (g2 k hk))
  clear g2
  have hS2 : Over w1 w3 := hS.more hbA
  refine ⟨_, rfl, hS2, ?_⟩
  clear hS
  have hS := hS2
  clear hS2
  obtain ⟨l2, HL2⟩ : ∃ zz, Hid (zz = (78 : BitVec 8) :: [x, y].flatten) := ⟨_, rfl⟩
  rw [← HL2.out] at r2
  obtain ⟨ad2, cp2, rfl, _, _, _⟩ := id r2
  simp only [Act.put, List.getElem_toArray, List.getElem_cons_succ, List.getElem_cons_zero, List.setIfInBounds_toArray, List.set_cons_zero, List.set_cons_succ]
  replace r1 := r1.below hbA
  clear hbA
  refine wpAnyH_take (i := 4) (v := .slice ad2 l2.length cp2) rfl (by kernel_rfl) (by kernel_rfl) (by kernel_rfl) (fun _ _ _ h => h) (Or.inl ⟨by rfl, fun wx _ => by simp [go_sem]⟩) hS ?_
  simp only [Act.put, List.getElem_toArray, List.getElem_cons_succ, List.getElem_cons_zero, List.setIfInBounds_toArray, List.set_cons_zero, List.set_cons_succ]
  refine wpAnyH_done (by kernel_rfl) ?_ _
  have E : Hid (l2 = pairB 78 x y) := by show _ = _; rw [HL2.out]; simp [pairB]
  have HV : Hid (Reads w3 (.slice ad2 l2.length cp2) l2) := r2
  have HB : Hid (Below w.heap.size w w3) := hS.after HB1.out
  clear hS r1 r2
  go_wp2
  go_ret
  exact ⟨_, rfl, ⟨by rw [← E.out]; exact HV.out, HG.out⟩, HB.out⟩
set_option maxHeartbeats 400000 in
theorem tEmpty_own (w : World) : Calls Tryd.prog 72 #[] w fun e w' => ∃ v, e = .returned v ∧ Fresh w.heap.size w' v [69] ∧ Below w.heap.size w w' := by
  have HT : Hid (Calls Tryd.prog 60 #[.int .u8 69, .slice none 0 0] w fun e w' => ∃ v', e = .returned v' ∧ Fresh w.heap.size w' v' [69] ∧ Below w.heap.size w w') := tagged_own 69 (.slice none 0 0) [] w (readsL_none w) (by decide) (by decide)
  go_enter Tryd.func72, Tryd.ntmps72
  go_wp2_with (go_at_call 60; refine HT.out.mono ?_; rintro e w1 ⟨v, rfl, hr, hb⟩)
  go_ret
  exact ⟨_, rfl, hr, hb⟩
end Go.Proofs.YtpeifpoeeopecaaDoor
/- Numbers, texts and lists as bytes, each in one way: plain lists, no program is named here. -/
namespace Go.Proofs.YtpeifpoeeopecaaDoor
/-- a number's groups of seven bits, the lowest first -/
def encNum (n : Nat) : List (BitVec 8) := if h : n < 128 then [BitVec.ofNat 8 n] else BitVec.ofNat 8 (n % 128 + 128) :: encNum (n / 128)
termination_by n
decreasing_by omega
theorem encNum_lt {n : Nat} (h : n < 128) : encNum n = [BitVec.ofNat 8 n] := by rw [encNum, dif_pos h]
theorem encNum_ge {n : Nat} (h : ¬ n < 128) : encNum n = BitVec.ofNat 8 (n % 128 + 128) :: encNum (n / 128) := by rw [encNum, dif_neg h]
theorem encNum_pos (n : Nat) : 0 < (encNum n).length := by
  by_cases h : n < 128
  · rw [encNum_lt h]; simp
  · rw [encNum_ge h]; simp
/-- how many groups may still come, which place is the next one's, what was read; the number and what is left -/
def decNum : Nat → Nat → Nat → List (BitVec 8) → Option (Nat × List (BitVec 8))
  | 0, _, _, _ => none
  | _ + 1, _, _, [] => none
  | k + 1, i, acc, c :: r =>
    if (i = 9 ∧ 1 < c.toNat) ∨ (0 < i ∧ c.toNat = 0) then none
    else if c.toNat < 128 then some (acc + c.toNat % 128 * 2 ^ (7 * i), r) else decNum k (i + 1) (acc + c.toNat % 128 * 2 ^ (7 * i)) r
def readNum (b : List (BitVec 8)) : Option (Nat × List (BitVec 8)) := decNum 10 0 0 b
theorem pow7 (i : Nat) : (2 : Nat) ^ (7 * (i + 1)) = 2 ^ (7 * i) * 128 := by rw [show 7 * (i + 1) = 7 * i + 7 by omega, Nat.pow_add]
/-- what was written is read, wherever it stands -/
theorem decNum_enc : ∀ (k i acc n : Nat) (r : List (BitVec 8)), i + k = 10 → (0 < i → 0 < n) → n * 2 ^ (7 * i) < 18446744073709551616 → decNum k i acc (encNum n ++ r) = some (acc + n * 2 ^ (7 * i), r)
  | 0, i, acc, n, r, hk, hp, hn => by
    exfalso
    have h10 : i = 10 := by omega
    subst h10
    have := hp (by omega)
    simp only [Nat.reduceMul, Nat.reducePow] at hn
    omega
  | k + 1, i, acc, n, r, hk, hp, hn => by
    by_cases h : n < 128
    · rw [encNum_lt h, List.singleton_append, decNum]
      have e : (BitVec.ofNat 8 n).toNat = n := by rw [BitVec.toNat_ofNat]; omega
      rw [e]
      have h1 : ¬ ((i = 9 ∧ 1 < n) ∨ (0 < i ∧ n = 0)) := by
        rintro (⟨rfl, h2⟩ | ⟨h2, h3⟩)
        · simp only [Nat.reduceMul, Nat.reducePow] at hn; omega
        · have := hp h2; omega
      rw [if_neg h1, if_pos h, Nat.mod_eq_of_lt h]
    · rw [encNum_ge h, List.cons_append, decNum]
      have e : (BitVec.ofNat 8 (n % 128 + 128)).toNat = n % 128 + 128 := by rw [BitVec.toNat_ofNat]; omega
      rw [e]
      have h9 : i ≠ 9 := by
        rintro rfl
        simp only [Nat.reduceMul, Nat.reducePow] at hn; omega
      have h1 : ¬ ((i = 9 ∧ 1 < n % 128 + 128) ∨ (0 < i ∧ n % 128 + 128 = 0)) := by omega
      have e2 : (n % 128 + 128) % 128 = n % 128 := by omega
      have hd := Nat.div_add_mod n 128
      have e3 : n % 128 * 2 ^ (7 * i) + n / 128 * 2 ^ (7 * (i + 1)) = n * 2 ^ (7 * i) := by
        rw [pow7, ← Nat.mul_assoc, Nat.mul_right_comm, ← Nat.add_mul]
        congr 1; omega
      rw [if_neg h1, if_neg (by omega), e2, decNum_enc k (i + 1) _ (n / 128) r (by omega) (fun _ => by omega) (by omega)]
      congr 2
      omega
/-- what is read was written -/
theorem decNum_some : ∀ (k i acc : Nat) (b r : List (BitVec 8)) (m : Nat), i + k = 10 → decNum k i acc b = some (m, r) → ∃ n, m = acc + n * 2 ^ (7 * i) ∧ (0 < i → 0 < n) ∧ n * 2 ^ (7 * i) < 18446744073709551616 ∧ b = encNum n ++ r
  | 0, _, _, _, _, _, _, h => by simp [decNum] at h
  | k + 1, _, _, [], _, _, _, h => by simp [decNum] at h
  | k + 1, i, acc, c :: t, r, m, hk, h => by
    have hc := c.isLt
    rw [decNum] at h
    by_cases h1 : (i = 9 ∧ 1 < c.toNat) ∨ (0 < i ∧ c.toNat = 0)
    · rw [if_pos h1] at h; cases h
    · rw [if_neg h1] at h
      by_cases h2 : c.toNat < 128
      · rw [if_pos h2] at h
        simp only [Option.some.injEq, Prod.mk.injEq] at h
        obtain ⟨rfl, rfl⟩ := h
        refine ⟨c.toNat, by rw [Nat.mod_eq_of_lt h2], fun hi => by omega, ?_, ?_⟩
        · by_cases h9 : i = 9
          · subst h9
            simp only [Nat.reduceMul, Nat.reducePow]; omega
          · have h8 : 7 * i ≤ 56 := by omega
            have hp : (2 : Nat) ^ (7 * i) ≤ 2 ^ 56 := Nat.pow_le_pow_right (by omega) h8
            have : c.toNat * 2 ^ (7 * i) ≤ 127 * 2 ^ 56 := Nat.mul_le_mul (by omega) hp
            simp only [Nat.reducePow] at this
            omega
        · rw [encNum_lt h2, List.singleton_append]
          congr 1
          apply BitVec.eq_of_toNat_eq
          rw [BitVec.toNat_ofNat]; omega
      · rw [if_neg h2] at h
        have h9 : i ≠ 9 := by omega
        obtain ⟨n, e1, e2, e3, e4⟩ := decNum_some k (i + 1) _ t r m (by omega) h
        have hn := e2 (by omega)
        have hd : (c.toNat % 128 + n * 128) % 128 = c.toNat % 128 := by omega
        have hq : (c.toNat % 128 + n * 128) / 128 = n := by omega
        have e5 : (c.toNat % 128 + n * 128) * 2 ^ (7 * i) = c.toNat % 128 * 2 ^ (7 * i) + n * 2 ^ (7 * (i + 1)) := by
          rw [pow7, Nat.add_mul, Nat.mul_right_comm, Nat.mul_assoc n]
        refine ⟨c.toNat % 128 + n * 128, ?_, fun _ => by omega, ?_, ?_⟩
        · rw [e5, e1]; omega
        · rw [e5]
          have h8 : i ≤ 8 := by omega
          have hz : n * 2 ^ (7 * (i + 1)) + 2 ^ (7 * (i + 1)) ≤ 18446744073709551616 := by
            have hdv : 2 ^ (7 * (i + 1)) ∣ 18446744073709551616 := by
              rw [show (18446744073709551616 : Nat) = 2 ^ 64 from rfl]
              exact Nat.pow_dvd_pow 2 (by omega)
            obtain ⟨q, hq2⟩ := hdv
            rw [hq2] at e3 ⊢
            rw [Nat.mul_comm n] at e3 ⊢
            have hlt : n < q := Nat.lt_of_mul_lt_mul_left e3
            rw [← Nat.mul_succ]
            exact Nat.mul_le_mul_left _ hlt
          have h7 : c.toNat % 128 * 2 ^ (7 * i) < 2 ^ (7 * (i + 1)) := by
            rw [pow7, Nat.mul_comm (2 ^ (7 * i))]
            exact Nat.mul_lt_mul_of_pos_right (by omega) (Nat.pow_pos (by omega))
          omega
        · rw [encNum_ge (by omega), hd, hq, List.cons_append, e4]
          congr 1
          apply BitVec.eq_of_toNat_eq
          rw [BitVec.toNat_ofNat]; omega
theorem readNum_iff (b r : List (BitVec 8)) (n : Nat) : readNum b = some (n, r) ↔ n < 18446744073709551616 ∧ b = encNum n ++ r := by
  constructor
  · intro h
    obtain ⟨m, e1, _, e3, e4⟩ := decNum_some 10 0 0 b r n rfl h
    simp only [Nat.mul_zero, Nat.pow_zero, Nat.mul_one, Nat.zero_add] at e1 e3
    subst e1
    exact ⟨e3, e4⟩
  · rintro ⟨h, rfl⟩
    have := decNum_enc 10 0 0 n r rfl (fun h => by omega) (by simpa using h)
    simpa [readNum] using this
/-- no number's bytes begin another one's -/
theorem encNum_pre {n m : Nat} {r s : List (BitVec 8)} (hn : n < 18446744073709551616) (hm : m < 18446744073709551616) (h : encNum n ++ r = encNum m ++ s) : n = m ∧ r = s := by
  have h1 := (readNum_iff (encNum n ++ r) r n).2 ⟨hn, rfl⟩
  have h2 := (readNum_iff (encNum n ++ r) s m).2 ⟨hm, h⟩
  rw [h1] at h2
  simpa using h2
def encText (t : List (BitVec 8)) : List (BitVec 8) := encNum t.length ++ t
def readText (b : List (BitVec 8)) : Option (List (BitVec 8) × List (BitVec 8)) :=
  match readNum b with
  | none => none
  | some (n, r) => if n ≤ 1048576 ∧ n ≤ r.length then some (r.take n, r.drop n) else none
theorem readText_iff (b r t : List (BitVec 8)) : readText b = some (t, r) ↔ t.length ≤ 1048576 ∧ b = encText t ++ r := by
  unfold readText
  constructor
  · intro h
    cases h1 : readNum b with
    | none => rw [h1] at h; cases h
    | some p =>
      obtain ⟨n, q⟩ := p
      rw [h1] at h
      obtain ⟨_, hb⟩ := (readNum_iff _ _ _).1 h1
      simp only at h
      by_cases h2 : n ≤ 1048576 ∧ n ≤ q.length
      · rw [if_pos h2] at h
        simp only [Option.some.injEq, Prod.mk.injEq] at h
        obtain ⟨rfl, rfl⟩ := h
        have hl : (q.take n).length = n := by rw [List.length_take]; omega
        refine ⟨by omega, ?_⟩
        rw [encText, hl, List.append_assoc, List.take_append_drop, hb]
      · rw [if_neg h2] at h; cases h
  · rintro ⟨h, rfl⟩
    rw [encText, List.append_assoc, (readNum_iff _ _ _).2 ⟨by omega, rfl⟩]
    simp only
    rw [if_pos ⟨h, by simp⟩]
    simp
theorem encText_pre {t u r s : List (BitVec 8)} (ht : t.length < 18446744073709551616) (hu : u.length < 18446744073709551616) (h : encText t ++ r = encText u ++ s) : t = u ∧ r = s := by
  unfold encText at h
  rw [List.append_assoc, List.append_assoc] at h
  obtain ⟨h1, h2⟩ := encNum_pre ht hu h
  exact List.append_inj h2 h1
/-- a list of things, each written by f, one behind the other -/
def encAll {α : Type} (f : α → List (BitVec 8)) (l : List α) : List (BitVec 8) := (l.map f).flatten
theorem encAll_cons {α : Type} (f : α → List (BitVec 8)) (a : α) (l : List α) : encAll f (a :: l) = f a ++ encAll f l := by simp [encAll]
def readAll {α : Type} (g : List (BitVec 8) → Option (α × List (BitVec 8))) : Nat → List (BitVec 8) → Option (List α × List (BitVec 8))
  | 0, b => some ([], b)
  | k + 1, b =>
    match g b with
    | none => none
    | some (a, r) =>
      match readAll g k r with
      | none => none
      | some (l, s) => some (a :: l, s)
theorem readAll_iff {α : Type} {f : α → List (BitVec 8)} {g : List (BitVec 8) → Option (α × List (BitVec 8))} {ok : α → Prop} (hg : ∀ b r a, g b = some (a, r) ↔ ok a ∧ b = f a ++ r) :
    ∀ (k : Nat) (b r : List (BitVec 8)) (l : List α), readAll g k b = some (l, r) ↔ l.length = k ∧ (∀ a ∈ l, ok a) ∧ b = encAll f l ++ r
  | 0, b, r, l => by
    simp only [readAll, Option.some.injEq, Prod.mk.injEq]
    constructor
    · rintro ⟨rfl, rfl⟩; simp [encAll]
    · rintro ⟨h1, _, h3⟩
      have := List.eq_nil_of_length_eq_zero h1
      subst this
      simp [encAll] at h3
      exact ⟨rfl, h3⟩
  | k + 1, b, r, l => by
    rw [readAll]
    constructor
    · intro h
      cases h1 : g b with
      | none => rw [h1] at h; cases h
      | some p =>
        obtain ⟨a, q⟩ := p
        rw [h1] at h
        simp only at h
        cases h2 : readAll g k q with
        | none => rw [h2] at h; cases h
        | some p2 =>
          obtain ⟨l2, s⟩ := p2
          rw [h2] at h
          simp only [Option.some.injEq, Prod.mk.injEq] at h
          obtain ⟨rfl, rfl⟩ := h
          obtain ⟨o1, rfl⟩ := (hg _ _ _).1 h1
          obtain ⟨o2, o3, rfl⟩ := (readAll_iff hg k _ _ _).1 h2
          refine ⟨by simp [o2], ?_, by rw [encAll_cons, List.append_assoc]⟩
          intro x hx
          rcases List.mem_cons.1 hx with rfl | hx
          · exact o1
          · exact o3 x hx
    · rintro ⟨h1, h2, rfl⟩
      cases l with
      | nil => simp at h1
      | cons a l =>
        rw [encAll_cons, List.append_assoc, (hg _ _ _).2 ⟨h2 a (by simp), rfl⟩]
        simp only
        rw [(readAll_iff hg k _ _ l).2 ⟨by simpa using h1, fun x hx => h2 x (by simp [hx]), rfl⟩]
def encList {α : Type} (f : α → List (BitVec 8)) (l : List α) : List (BitVec 8) := encNum l.length ++ encAll f l
def readList {α : Type} (g : List (BitVec 8) → Option (α × List (BitVec 8))) (b : List (BitVec 8)) : Option (List α) :=
  match readNum b with
  | none => none
  | some (n, r) => if n ≤ 4096 then (match readAll g n r with | some (l, []) => some l | _ => none) else none
theorem readList_iff {α : Type} {f : α → List (BitVec 8)} {g : List (BitVec 8) → Option (α × List (BitVec 8))} {ok : α → Prop} (hg : ∀ b r a, g b = some (a, r) ↔ ok a ∧ b = f a ++ r) (b : List (BitVec 8)) (l : List α) :
    readList g b = some l ↔ l.length ≤ 4096 ∧ (∀ a ∈ l, ok a) ∧ b = encList f l := by
  unfold readList
  constructor
  · intro h
    cases h1 : readNum b with
    | none => rw [h1] at h; cases h
    | some p =>
      obtain ⟨n, r⟩ := p
      rw [h1] at h
      simp only at h
      obtain ⟨_, hb⟩ := (readNum_iff _ _ _).1 h1
      by_cases h2 : n ≤ 4096
      · rw [if_pos h2] at h
        cases h3 : readAll g n r with
        | none => rw [h3] at h; cases h
        | some p =>
          obtain ⟨l2, s⟩ := p
          rw [h3] at h
          cases s with
          | cons x s => simp at h
          | nil =>
            simp only [Option.some.injEq] at h
            subst h
            obtain ⟨o1, o2, o3⟩ := (readAll_iff hg n _ _ _).1 h3
            exact ⟨by omega, o2, by rw [hb, o3, List.append_nil, encList, o1]⟩
      · rw [if_neg h2] at h; cases h
  · rintro ⟨h1, h2, rfl⟩
    rw [encList, (readNum_iff _ _ _).2 ⟨by omega, rfl⟩]
    simp only
    rw [if_pos h1]
    have := (readAll_iff hg l.length (encAll f l) [] l).2 ⟨rfl, h2, by simp⟩
    rw [this]
theorem encAll_pre {α : Type} {f : α → List (BitVec 8)} {ok : α → Prop} (hf : ∀ a b r s, ok a → ok b → f a ++ r = f b ++ s → a = b ∧ r = s) :
    ∀ (l m : List α) (r s : List (BitVec 8)), l.length = m.length → (∀ a ∈ l, ok a) → (∀ a ∈ m, ok a) → encAll f l ++ r = encAll f m ++ s → l = m ∧ r = s
  | [], [], r, s, _, _, _, h => ⟨rfl, by simpa [encAll] using h⟩
  | [], b :: m, _, _, hl, _, _, _ => by simp at hl
  | a :: l, [], _, _, hl, _, _, _ => by simp at hl
  | a :: l, b :: m, r, s, hl, h1, h2, h => by
    rw [encAll_cons, encAll_cons, List.append_assoc, List.append_assoc] at h
    obtain ⟨rfl, h3⟩ := hf _ _ _ _ (h1 a (by simp)) (h2 b (by simp)) h
    obtain ⟨rfl, h4⟩ := encAll_pre hf l m r s (by simpa using hl) (fun x hx => h1 x (by simp [hx])) (fun x hx => h2 x (by simp [hx])) h3
    exact ⟨rfl, h4⟩
/-- no list's bytes begin another one's -/
theorem encList_pre {α : Type} {f : α → List (BitVec 8)} {ok : α → Prop} (hf : ∀ a b r s, ok a → ok b → f a ++ r = f b ++ s → a = b ∧ r = s) {l m : List α} {r s : List (BitVec 8)}
    (hl : l.length < 18446744073709551616) (hm : m.length < 18446744073709551616) (h1 : ∀ a ∈ l, ok a) (h2 : ∀ a ∈ m, ok a) (h : encList f l ++ r = encList f m ++ s) : l = m ∧ r = s := by
  unfold encList at h
  rw [List.append_assoc, List.append_assoc] at h
  obtain ⟨h3, h4⟩ := encNum_pre hl hm h
  exact encAll_pre hf l m r s h3 h1 h2 h4
theorem readNum_ok : ∀ b r a, readNum b = some (a, r) ↔ a < 18446744073709551616 ∧ b = encNum a ++ r := fun b r a => readNum_iff b r a
theorem readText_ok : ∀ b r a, readText b = some (a, r) ↔ a.length ≤ 1048576 ∧ b = encText a ++ r := fun b r a => readText_iff b r a
theorem encNum_pre' : ∀ a b r s, a < 18446744073709551616 → b < 18446744073709551616 → encNum a ++ r = encNum b ++ s → a = b ∧ r = s := fun _ _ _ _ h1 h2 h => encNum_pre h1 h2 h
theorem encText_pre' : ∀ a b r s, a.length < 18446744073709551616 → b.length < 18446744073709551616 → encText a ++ r = encText b ++ s → a = b ∧ r = s := fun _ _ _ _ h1 h2 h => encText_pre h1 h2 h
end Go.Proofs.YtpeifpoeeopecaaDoor
/- What the walks of the tree share with those of the older layers: one name for them all. -/

/- Plain: the bits of 32 bytes, the first one at which two of them part, and which of the two stands ahead. -/
namespace Go.Proofs.YtpeifpoeeopecaaDoor
open Go.RowKit
set_option maxRecDepth 100000
/-- bit i of the bytes x, the highest of the first byte first -/
def bt (x : List (BitVec 8)) (i : Nat) : Bool := (x.getD (i / 8) 0).getMsbD (i % 8)
def isB (i : Int) : Bool := decide (0 ≤ i) && decide (i < 256)
def bitI (x : List (BitVec 8)) (i : Int) : Bool := isB i && bt x i.toNat
def mask (i : Nat) : BitVec 8 := 128#8 >>> (i % 8)
def setB (b : BitVec 8) (i : Nat) (on : Bool) : BitVec 8 := if on then b ||| mask i else b &&& ~~~(mask i)
def setN (x : List (BitVec 8)) (i : Nat) (on : Bool) : List (BitVec 8) := x.set (i / 8) (setB (x.getD (i / 8) 0) i on)
def setI (x : List (BitVec 8)) (i : Int) (on : Bool) : List (BitVec 8) := if isB i then setN x i.toNat on else x
theorem isB_iff (i : Int) : isB i = true ↔ 0 ≤ i ∧ i < 256 := by simp [isB]
theorem bitI_nat (x : List (BitVec 8)) (i : Nat) (h : i < 256) : bitI x (i : Int) = bt x i := by
  have : isB (i : Int) = true := (isB_iff _).2 ⟨by omega, by omega⟩
  simp [bitI, this]
theorem setI_nat (x : List (BitVec 8)) (i : Nat) (on : Bool) (h : i < 256) : setI x (i : Int) on = setN x i on := by
  have : isB (i : Int) = true := (isB_iff _).2 ⟨by omega, by omega⟩
  simp [setI, this]
theorem setN_len (x : List (BitVec 8)) (i : Nat) (on : Bool) : (setN x i on).length = x.length := by simp [setN]
theorem setI_len (x : List (BitVec 8)) (i : Int) (on : Bool) : (setI x i on).length = x.length := by unfold setI; split <;> simp [setN_len]
theorem mask_msb : ∀ k j : Fin 8, (128#8 >>> k.val).getMsbD j.val = decide (j = k) := by decide +kernel
theorem mask_and : ∀ (b : BitVec 8) (k : Fin 8), decide (b &&& (128#8 >>> k.val) = 0#8) = !b.getMsbD k.val := by decide +kernel
theorem mask_add : ∀ (b : BitVec 8) (k : Fin 8), b.getMsbD k.val = false → b + BitVec.ofNat 8 (2 ^ (7 - k.val)) = b ||| (128#8 >>> k.val) := by decide +kernel
theorem mask_sub : ∀ (b : BitVec 8) (k : Fin 8), b.getMsbD k.val = true → b - BitVec.ofNat 8 (2 ^ (7 - k.val)) = b &&& ~~~(128#8 >>> k.val) := by decide +kernel
theorem mask_on : ∀ (b : BitVec 8) (k : Fin 8), b.getMsbD k.val = true → b ||| (128#8 >>> k.val) = b := by decide +kernel
theorem mask_off : ∀ (b : BitVec 8) (k : Fin 8), b.getMsbD k.val = false → b &&& ~~~(128#8 >>> k.val) = b := by decide +kernel
theorem mask_div : ∀ (b : BitVec 8) (k : Fin 8), decide (b.toNat / 2 ^ (7 - k.val) % 2 = 1) = b.getMsbD k.val := by decide +kernel
theorem setB_msb (b : BitVec 8) (i : Nat) (on : Bool) (j : Nat) (hj : j < 8) : (setB b i on).getMsbD j = if j = i % 8 then on else b.getMsbD j := by
  have h := mask_msb ⟨i % 8, by omega⟩ ⟨j, hj⟩
  simp only [Fin.mk.injEq] at h
  unfold setB mask
  cases on
  · simp only [Bool.false_eq_true, if_false, BitVec.getMsbD_and, BitVec.getMsbD_not, h]
    by_cases e : j = i % 8 <;> simp [e, hj]
  · simp only [if_true, BitVec.getMsbD_or, h]
    by_cases e : j = i % 8 <;> simp [e]
theorem setB_same (b : BitVec 8) (i : Nat) (on : Bool) (h : b.getMsbD (i % 8) = on) : setB b i on = b := by
  unfold setB mask
  cases on
  · simpa using mask_off b ⟨i % 8, by omega⟩ h
  · simpa using mask_on b ⟨i % 8, by omega⟩ h
theorem bt_set (x : List (BitVec 8)) (hx : x.length = 32) (i j : Nat) (on : Bool) (hi : i < 256) (_ : j < 256) : bt (setN x i on) j = if j = i then on else bt x j := by
  unfold bt setN
  by_cases h : i / 8 = j / 8
  · rw [h, List.getD_eq_getElem?_getD, List.getElem?_set_self (by omega), Option.getD_some, setB_msb _ _ _ _ (by omega)]
    by_cases e : j = i
    · subst e; simp
    · rw [if_neg (by omega), if_neg e]
  · rw [List.getD_eq_getElem?_getD, List.getElem?_set_ne h, if_neg (by intro e; subst e; exact h rfl), List.getD_eq_getElem?_getD]
theorem setI_same (x : List (BitVec 8)) (hx : x.length = 32) (i : Int) (on : Bool) (h : isB i = true) (hb : bitI x i = on) : setI x i on = x := by
  have hi := (isB_iff i).1 h
  unfold setI
  rw [if_pos h]
  have hb2 : bt x i.toNat = on := by simpa [bitI, h] using hb
  unfold setN
  rw [setB_same _ _ _ hb2, List.getD_eq_getElem?_getD]
  apply List.ext_getElem?
  intro k
  by_cases e : i.toNat / 8 = k
  · subst e
    rw [List.getElem?_set_self (by omega), List.getElem?_eq_getElem (by omega), Option.getD_some]
  · rw [List.getElem?_set_ne e]
theorem bits_ext (x y : List (BitVec 8)) (hx : x.length = 32) (hy : y.length = 32) (h : ∀ j, j < 256 → bt x j = bt y j) : x = y := by
  apply List.ext_getElem (by omega)
  intro k h1 h2
  apply BitVec.eq_of_getMsbD_eq
  intro j hj
  have := h (8 * k + j) (by omega)
  unfold bt at this
  rw [show (8 * k + j) / 8 = k by omega, show (8 * k + j) % 8 = j by omega] at this
  simpa [h1, h2] using this
/-- how many bits, from the first one on, are alike -/
def common (x y : List (BitVec 8)) : Nat := ((List.range 256).find? fun i => bt x i != bt y i).getD 256
theorem common_spec (x y : List (BitVec 8)) : common x y ≤ 256 ∧ (∀ j, j < common x y → bt x j = bt y j) ∧ (common x y < 256 → bt x (common x y) ≠ bt y (common x y)) := by
  unfold common
  cases h : (List.range 256).find? fun i => bt x i != bt y i with
  | none =>
    rw [List.find?_eq_none] at h
    refine ⟨by simp, fun j hj => ?_, fun h => by simp at h⟩
    have := h j (by simpa using hj)
    simpa using this
  | some n =>
    obtain ⟨h1, ps, qs, h2, h3⟩ := List.find?_eq_some_iff_append.1 h
    have hn : n ∈ List.range 256 := by rw [h2]; simp
    have hlen : ps.length = n := by
      have e1 : (List.range 256)[ps.length]? = some n := by rw [h2]; simp
      rw [List.getElem?_range (by have := congrArg List.length h2; simp at this; omega)] at e1
      exact Option.some.inj e1
    simp only [Option.getD_some]
    refine ⟨by have := List.mem_range.1 hn; omega, fun j hj => ?_, fun _ => by simpa using h1⟩
    have hm : j ∈ ps := by
      have e1 : (List.range 256)[j]? = some j := List.getElem?_range (by have := List.mem_range.1 hn; omega)
      rw [h2, List.getElem?_append_left (by omega)] at e1
      exact List.mem_of_getElem? e1
    have := h3 j hm
    simpa using this
theorem common_is (x y : List (BitVec 8)) (n : Nat) (h0 : n ≤ 256) (h1 : ∀ j, j < n → bt x j = bt y j) (h2 : n < 256 → bt x n ≠ bt y n) : common x y = n := by
  obtain ⟨a, b, c⟩ := common_spec x y
  rcases Nat.lt_trichotomy (common x y) n with h | h | h
  · exact absurd (h1 _ h) (c (by omega))
  · exact h
  · exact absurd (b _ h) (h2 (by omega))
theorem common_comm (x y : List (BitVec 8)) : common x y = common y x := by
  obtain ⟨a, b, c⟩ := common_spec y x
  exact common_is x y _ a (fun j hj => (b j hj).symm) (fun h => (c h).symm)
theorem common_same (x : List (BitVec 8)) : common x x = 256 := common_is x x 256 (Nat.le_refl _) (fun _ _ => rfl) (by omega)
theorem common_lt (x y : List (BitVec 8)) (hx : x.length = 32) (hy : y.length = 32) (h : x ≠ y) : common x y < 256 := by
  obtain ⟨a, b, c⟩ := common_spec x y
  rcases Nat.lt_or_ge (common x y) 256 with h' | h'
  · exact h'
  · exact absurd (bits_ext x y hx hy (fun j hj => b j (by omega))) h
/-- y is x with all bits from n on off -/
def IsCut (x : List (BitVec 8)) (n : Int) (y : List (BitVec 8)) : Prop := y.length = 32 ∧ ∀ j, j < 256 → bt y j = (decide ((j : Int) < n) && bt x j)
theorem IsCut.uniq {x : List (BitVec 8)} {n : Int} {y z : List (BitVec 8)} (h : IsCut x n y) (k : IsCut x n z) : y = z :=
  bits_ext y z h.1 k.1 fun j hj => by rw [h.2 j hj, k.2 j hj]
theorem IsCut.common {a b y z : List (BitVec 8)} (h : IsCut a (common a b : Int) y) (k : IsCut b (common a b : Int) z) : y = z :=
  bits_ext y z h.1 k.1 fun j hj => by
    rw [h.2 j hj, k.2 j hj]
    by_cases hlt : j < Go.Proofs.YtpeifpoeeopecaaDoor.common a b
    · rw [(common_spec a b).2.1 j hlt]
    · have : ¬ ((j : Int) < (Go.Proofs.YtpeifpoeeopecaaDoor.common a b : Int)) := by omega
      simp [this]
/-- is x, byte by byte, ahead of y -/
def lessB : List (BitVec 8) → List (BitVec 8) → Bool
  | a :: ps, b :: qs => if a = b then lessB ps qs else decide (a.toNat < b.toNat)
  | _, _ => false
theorem lessB_self : ∀ x, lessB x x = false
  | [] => rfl
  | a :: x => by simp [lessB, lessB_self x]
theorem lessB_trans : ∀ (x y z : List (BitVec 8)), lessB x y = true → lessB y z = true → lessB x z = true
  | a :: x, b :: y, c :: z => by
    intro h k
    unfold lessB at *
    by_cases e1 : a = b
    · subst e1
      rw [if_pos rfl] at h
      by_cases e2 : a = c
      · rw [if_pos e2] at k ⊢; exact lessB_trans x y z h k
      · rw [if_neg e2] at k ⊢; exact k
    · rw [if_neg e1] at h
      by_cases e2 : b = c
      · subst e2; rw [if_neg e1]; exact h
      · rw [if_neg e2] at k
        have h' := of_decide_eq_true h
        have k' := of_decide_eq_true k
        rw [if_neg (by intro e; subst e; omega)]
        exact decide_eq_true (by omega)
  | [], _, _ => by intro h; simp [lessB] at h
  | _ :: _, [], _ => by intro h; simp [lessB] at h
  | _ :: _, _ :: _, [] => by intro _ h; simp [lessB] at h
theorem lessB_at : ∀ (k : Nat) (x y : List (BitVec 8)), x.length = y.length → k < x.length → (∀ j, j < k → x.getD j 0 = y.getD j 0) → x.getD k 0 ≠ y.getD k 0 → lessB x y = decide ((x.getD k 0).toNat < (y.getD k 0).toNat)
  | 0, a :: x, b :: y, _, _, _, h => by simp at h; simp [lessB, h]
  | k + 1, a :: x, b :: y, hl, hk, he, h => by
    have h0 : a = b := by simpa using he 0 (by omega)
    subst h0
    unfold lessB
    rw [if_pos rfl]
    simpa using lessB_at k x y (by simpa using hl) (by simpa using hk) (fun j hj => by simpa using he (j + 1) (by omega)) (by simpa using h)
  | _, [], _, _, hk, _, _ => by simp at hk
  | _, _ :: _, [], hl, _, _, _ => by simp at hl
theorem lessB_none (x y : List (BitVec 8)) (hl : x.length = y.length) (he : ∀ j, j < x.length → x.getD j 0 = y.getD j 0) : lessB x y = false := by
  have : x = y := by
    apply List.ext_getElem hl
    intro j h1 h2
    have := he j h1
    simpa [h1, h2] using this
  subst this; exact lessB_self x
theorem byte_lt (a b : BitVec 8) (m : Nat) (hm : m < 8) (h : ∀ j, j < m → a.getMsbD j = b.getMsbD j) (hn : a.getMsbD m ≠ b.getMsbD m) : decide (a.toNat < b.toNat) = b.getMsbD m := by
  have key : ∀ (c : BitVec 8) (j : Nat), j < 8 → decide (c.toNat / 2 ^ (7 - j) % 2 = 1) = c.getMsbD j := fun c j hj => mask_div c ⟨j, hj⟩
  have h' : ∀ j, j < m → (a.toNat / 2 ^ (7 - j) % 2 = 1 ↔ b.toNat / 2 ^ (7 - j) % 2 = 1) := fun j hj => by
    have := h j hj
    rw [← key a j (by omega), ← key b j (by omega), decide_eq_decide] at this
    exact this
  rw [← key a m hm, ← key b m hm, ne_eq, decide_eq_decide] at hn
  rw [← key b m hm, decide_eq_decide]
  have ha := a.isLt
  have hb := b.isLt
  generalize a.toNat = p at *
  generalize b.toNat = q at *
  have pre : ∀ k, k ≤ m → p / 2 ^ (8 - k) = q / 2 ^ (8 - k) := by
    intro k
    induction k with
    | zero => intro _; rw [Nat.div_eq_of_lt (by simpa using ha), Nat.div_eq_of_lt (by simpa using hb)]
    | succ k ih =>
      intro hk
      have e := ih (by omega)
      have f := h' k (by omega)
      rw [show 8 - k = (7 - k) + 1 by omega, Nat.pow_succ, ← Nat.div_div_eq_div_mul, ← Nat.div_div_eq_div_mul] at e
      rw [show 8 - (k + 1) = 7 - k by omega]
      omega
  have e := pre m (Nat.le_refl _)
  rw [show 8 - m = (7 - m) + 1 by omega, Nat.pow_succ, ← Nat.div_div_eq_div_mul, ← Nat.div_div_eq_div_mul] at e
  have h1 : q ≤ p → q / 2 ^ (7 - m) ≤ p / 2 ^ (7 - m) := fun h => Nat.div_le_div_right h
  have h2 : p ≤ q → p / 2 ^ (7 - m) ≤ q / 2 ^ (7 - m) := fun h => Nat.div_le_div_right h
  generalize p / 2 ^ (7 - m) = u at *
  generalize q / 2 ^ (7 - m) = v at *
  omega
theorem less_common (x y : List (BitVec 8)) (hx : x.length = 32) (hy : y.length = 32) (h : x ≠ y) : lessB x y = bt y (common x y) := by
  obtain ⟨a, b, c⟩ := common_spec x y
  have hn := common_lt x y hx hy h
  generalize common x y = n at *
  have hd := c hn
  have hbit : ∀ j, j < n % 8 → (x.getD (n / 8) 0).getMsbD j = (y.getD (n / 8) 0).getMsbD j := fun j hj => by
    have := b (8 * (n / 8) + j) (by omega)
    unfold bt at this
    rwa [show (8 * (n / 8) + j) / 8 = n / 8 by omega, show (8 * (n / 8) + j) % 8 = j by omega] at this
  rw [lessB_at (n / 8) x y (by omega) (by omega) ?_ ?_]
  · exact byte_lt _ _ (n % 8) (by omega) hbit hd
  · intro j hj
    apply BitVec.eq_of_getMsbD_eq
    intro i hi
    have := b (8 * j + i) (by omega)
    unfold bt at this
    rwa [show (8 * j + i) / 8 = j by omega, show (8 * j + i) % 8 = i by omega] at this
  · intro e; unfold bt at hd; rw [e] at hd; exact hd rfl
/-- the entry's comparison -/
theorem cmp_less : ∀ (x y : List (BitVec 8)), x.length = y.length → decide (Lib.compareBytes (x.map UInt8.ofBitVec) (y.map UInt8.ofBitVec) < 0) = lessB x y
  | [], [], _ => by simp [Lib.compareBytes, lessB]
  | a :: x, b :: y, hl => by
    have ih := cmp_less x y (by simpa using hl)
    simp only [List.map_cons, Lib.compareBytes, lessB]
    have e : ∀ p q : BitVec 8, (UInt8.ofBitVec p < UInt8.ofBitVec q) ↔ p.toNat < q.toNat := fun p q => by simp [UInt8.lt_iff_toNat_lt]
    rw [← ih]
    by_cases e1 : a = b
    · subst e1; simp [e]
    · have : a.toNat ≠ b.toNat := fun h => e1 (BitVec.eq_of_toNat_eq h)
      rw [if_neg e1]
      by_cases h : a.toNat < b.toNat
      · simp [e, h]
      · have h2 : b.toNat < a.toNat := by omega
        simp [e, h, h2]
/-- all bits, each with its number -/
def pathBits (x : List (BitVec 8)) (k : Nat) : List (Nat × Bool) := (List.range k).map fun j => (j, bt x j)
theorem pathBits_succ (x : List (BitVec 8)) (k : Nat) : pathBits x (k + 1) = pathBits x k ++ [(k, bt x k)] := by simp [pathBits, List.range_succ]
theorem pathBits_len (x : List (BitVec 8)) (k : Nat) : (pathBits x k).length = k := by simp [pathBits]
end Go.Proofs.YtpeifpoeeopecaaDoor
/- Plain: leaves by their indexes, put one behind the other; the root of leaves; the way to an index (layer 7). -/
namespace Go.Proofs.YtpeifpoeeopecaaDoor
abbrev Lf := List (BitVec 8) × List (BitVec 8)
def okLf (l : List Lf) : Prop := ∀ p ∈ l, p.1.length = 32 ∧ p.2.length = 32
/-- rising, each once -/
def Up (l : List Lf) : Prop := l.Pairwise fun p q => lessB p.1 q.1 = true
/-- 7.2 -/
def putL (l : List Lf) (x v : List (BitVec 8)) : List Lf := (l.takeWhile fun p => lessB p.1 x) ++ (x, v) :: (l.dropWhile fun p => lessB p.1 x).filter fun p => decide (p.1 ≠ x)
def ofL : List Lf → List Lf := fun z => z.foldl (fun l p => putL l p.1 p.2) []
def getL (l : List Lf) (x : List (BitVec 8)) : Option (List (BitVec 8)) := (l.find? fun p => decide (p.1 = x)).map (·.2)
def halfL (l : List Lf) (d : Nat) (on : Bool) : List Lf := l.filter fun p => bt p.1 d == on
theorem less_ne {x y : List (BitVec 8)} (h : lessB x y = true) : x ≠ y := by
  rintro rfl
  rw [lessB_self] at h
  cases h
theorem less_asym {x y : List (BitVec 8)} (h : lessB x y = true) : lessB y x = false := by
  cases h2 : lessB y x with
  | false => rfl
  | true =>
    have := lessB_trans x y x h h2
    rw [lessB_self] at this
    cases this
theorem less_total {x y : List (BitVec 8)} (hx : x.length = 32) (hy : y.length = 32) (h : x ≠ y) : lessB x y = true ∨ lessB y x = true := by
  rw [less_common x y hx hy h, less_common y x hy hx (Ne.symm h), common_comm y x]
  have hc := (common_spec x y).2.2 (common_lt x y hx hy h)
  cases h1 : bt y (common x y) with
  | true => exact Or.inl rfl
  | false =>
    cases h2 : bt x (common x y) with
    | true => exact Or.inr rfl
    | false => rw [h1, h2] at hc; exact absurd rfl hc
theorem mem_take_less {l : List Lf} {x : List (BitVec 8)} {p : Lf} (h : p ∈ l.takeWhile fun p => lessB p.1 x) : lessB p.1 x = true := by
  induction l with
  | nil => simp at h
  | cons a r ih =>
    rw [List.takeWhile_cons] at h
    split at h
    · rcases List.mem_cons.1 h with rfl | h
      · assumption
      · exact ih h
    · simp at h
theorem take_drop_while (l : List Lf) (f : Lf → Bool) : l.takeWhile f ++ l.dropWhile f = l := List.takeWhile_append_dropWhile
theorem drop_ge {l : List Lf} {x : List (BitVec 8)} (hu : Up l) {p : Lf} (h : p ∈ l.dropWhile fun p => lessB p.1 x) : lessB p.1 x = false := by
  induction l with
  | nil => simp at h
  | cons a r ih =>
    have hu' := List.pairwise_cons.1 hu
    rw [List.dropWhile_cons] at h
    split at h
    · exact ih hu'.2 h
    · rename_i hn
      rcases List.mem_cons.1 h with rfl | h
      · simpa using hn
      · cases hc : lessB p.1 x with
        | false => rfl
        | true => exact absurd (lessB_trans _ _ _ (hu'.1 p h) hc) hn
theorem mem_putL {l : List Lf} {x v : List (BitVec 8)} {p : Lf} : p ∈ putL l x v ↔ p = (x, v) ∨ (p.1 ≠ x ∧ p ∈ l) := by
  unfold putL
  rw [List.mem_append, List.mem_cons, List.mem_filter]
  constructor
  · rintro (h | h | ⟨h1, h2⟩)
    · exact Or.inr ⟨less_ne (mem_take_less h), by rw [← take_drop_while l (fun p => lessB p.1 x)]; exact List.mem_append_left _ h⟩
    · exact Or.inl h
    · exact Or.inr ⟨of_decide_eq_true h2, by rw [← take_drop_while l (fun p => lessB p.1 x)]; exact List.mem_append_right _ h1⟩
  · rintro (h | ⟨h1, h2⟩)
    · exact Or.inr (Or.inl h)
    · rw [← take_drop_while l (fun p => lessB p.1 x), List.mem_append] at h2
      rcases h2 with h2 | h2
      · exact Or.inl h2
      · exact Or.inr (Or.inr ⟨h2, decide_eq_true h1⟩)
theorem putL_ok {l : List Lf} {x v : List (BitVec 8)} (h : okLf l) (hx : x.length = 32) (hv : v.length = 32) : okLf (putL l x v) := by
  intro p hp
  rcases mem_putL.1 hp with rfl | ⟨_, hp⟩
  · exact ⟨hx, hv⟩
  · exact h p hp
theorem putL_up {l : List Lf} {x v : List (BitVec 8)} (h : okLf l) (hx : x.length = 32) (hu : Up l) : Up (putL l x v) := by
  have hs : List.Pairwise (fun p q : Lf => lessB p.1 q.1 = true) ((l.takeWhile fun p => lessB p.1 x) ++ (l.dropWhile fun p => lessB p.1 x)) := by rw [take_drop_while]; exact hu
  rw [List.pairwise_append] at hs
  unfold putL Up
  rw [List.pairwise_append]
  refine ⟨hs.1, ?_, ?_⟩
  · rw [List.pairwise_cons]
    refine ⟨fun p hp => ?_, hs.2.1.filter _⟩
    rw [List.mem_filter] at hp
    have hne := of_decide_eq_true hp.2
    have hl : p ∈ l := by rw [← take_drop_while l (fun p => lessB p.1 x)]; exact List.mem_append_right _ hp.1
    rcases less_total (h p hl).1 hx hne with h1 | h1
    · rw [drop_ge hu hp.1] at h1; cases h1
    · exact h1
  · intro p hp q hq
    have hpx := mem_take_less hp
    rcases List.mem_cons.1 hq with rfl | hq
    · exact hpx
    · exact hs.2.2 p hp q (List.mem_filter.1 hq).1
/-- rising leaves are told by what is among them -/
theorem up_ext : ∀ {l m : List Lf}, Up l → Up m → (∀ p, p ∈ l ↔ p ∈ m) → l = m
  | [], [], _, _, _ => rfl
  | [], b :: m, _, _, h => absurd ((h b).2 (List.mem_cons_self)) (by simp)
  | a :: l, [], _, _, h => absurd ((h a).1 (List.mem_cons_self)) (by simp)
  | a :: l, b :: m, hl, hm, h => by
    have hl' := List.pairwise_cons.1 hl
    have hm' := List.pairwise_cons.1 hm
    have hab : a = b := by
      rcases List.mem_cons.1 ((h a).1 List.mem_cons_self) with h1 | h1
      · exact h1
      · rcases List.mem_cons.1 ((h b).2 List.mem_cons_self) with h2 | h2
        · exact h2.symm
        · have h3 := hm'.1 a h1
          have h4 := hl'.1 b h2
          rw [less_asym h3] at h4
          cases h4
    subst hab
    have hnl : a ∉ l := fun hh => by have := hl'.1 a hh; rw [lessB_self] at this; cases this
    have hnm : a ∉ m := fun hh => by have := hm'.1 a hh; rw [lessB_self] at this; cases this
    rw [up_ext hl'.2 hm'.2 fun p => ?_]
    constructor
    · intro hp
      rcases List.mem_cons.1 ((h p).1 (List.mem_cons_of_mem _ hp)) with rfl | h1
      · exact absurd hp hnl
      · exact h1
    · intro hp
      rcases List.mem_cons.1 ((h p).2 (List.mem_cons_of_mem _ hp)) with rfl | h1
      · exact absurd hp hnm
      · exact h1
theorem up_inj {l : List Lf} (hu : Up l) {p q : Lf} (hp : p ∈ l) (hq : q ∈ l) (h : p.1 = q.1) : p = q := by
  induction l with
  | nil => cases hp
  | cons a r ih =>
    have hu' := List.pairwise_cons.1 hu
    rcases List.mem_cons.1 hp with hp1 | hp1
    · rcases List.mem_cons.1 hq with hq1 | hq1
      · rw [hp1, hq1]
      · rw [hp1] at h
        exact absurd h (less_ne (hu'.1 q hq1))
    · rcases List.mem_cons.1 hq with hq1 | hq1
      · rw [hq1] at h
        exact absurd h.symm (less_ne (hu'.1 p hp1))
      · exact ih hu'.2 hp1 hq1
theorem up_nil : Up [] := List.Pairwise.nil
theorem ok_nil : okLf [] := fun _ h => by cases h
theorem ofL_snoc (z : List Lf) (p : Lf) : ofL (z ++ [p]) = putL (ofL z) p.1 p.2 := by simp [ofL, List.foldl_append]
theorem ofL_good (z : List Lf) (h : okLf z) : okLf (ofL z) ∧ Up (ofL z) := by
  have key : ∀ (z l : List Lf), okLf z → okLf l → Up l → okLf (z.foldl (fun l p => putL l p.1 p.2) l) ∧ Up (z.foldl (fun l p => putL l p.1 p.2) l) := by
    intro z
    induction z with
    | nil => intro l _ h1 h2; exact ⟨h1, h2⟩
    | cons a r ih =>
      intro l hz h1 h2
      have ha := hz a List.mem_cons_self
      exact ih _ (fun p hp => hz p (List.mem_cons_of_mem _ hp)) (putL_ok h1 ha.1 ha.2) (putL_up h1 ha.1 h2)
  exact key z [] h ok_nil up_nil
theorem getL_mem {l : List Lf} (hu : Up l) {x v : List (BitVec 8)} : getL l x = some v ↔ (x, v) ∈ l := by
  unfold getL
  rw [Option.map_eq_some_iff]
  constructor
  · rintro ⟨p, hp, rfl⟩
    have h1 := List.mem_of_find?_eq_some hp
    have h2 := List.find?_some hp
    rw [← of_decide_eq_true h2]
    exact h1
  · intro h
    cases hf : l.find? fun p => decide (p.1 = x) with
    | none =>
      have := List.find?_eq_none.1 hf (x, v) h
      simp at this
    | some p =>
      refine ⟨p, rfl, ?_⟩
      have h1 := List.mem_of_find?_eq_some hf
      have h2 : p.1 = x := by simpa using List.find?_some hf
      exact congrArg Prod.snd (up_inj hu h1 h h2)
theorem getL_none {l : List Lf} {x : List (BitVec 8)} : getL l x = none ↔ ∀ v, (x, v) ∉ l := by
  unfold getL
  rw [Option.map_eq_none_iff, List.find?_eq_none]
  constructor
  · intro h v hv
    exact absurd (h _ hv) (by simp)
  · intro h p hp hc
    exact h p.2 (by rw [← of_decide_eq_true hc]; exact hp)
/-- put again -/
theorem putL_putL {l : List Lf} {x v u : List (BitVec 8)} (h : okLf l) (hx : x.length = 32) (hv : v.length = 32) (hu : Up l) : putL (putL l x v) x u = putL l x u := by
  refine up_ext (putL_up (putL_ok h hx hv) hx (putL_up h hx hu)) (putL_up h hx hu) fun p => ?_
  simp only [mem_putL]
  constructor
  · rintro (h1 | ⟨h1, h2 | h2⟩)
    · exact Or.inl h1
    · subst h2; exact absurd rfl h1
    · exact Or.inr h2
  · rintro (h1 | h1)
    · exact Or.inl h1
    · exact Or.inr ⟨h1.1, Or.inr h1⟩
theorem putL_same {l : List Lf} {x v : List (BitVec 8)} (h : okLf l) (hx : x.length = 32) (hu : Up l) (hm : (x, v) ∈ l) : putL l x v = l := by
  refine up_ext (putL_up h hx hu) hu fun p => ?_
  rw [mem_putL]
  constructor
  · rintro (rfl | ⟨_, h1⟩)
    · exact hm
    · exact h1
  · intro hp
    by_cases hc : p.1 = x
    · exact Or.inl (up_inj hu hp hm hc)
    · exact Or.inr ⟨hc, hp⟩
theorem mem_ofL {z : List Lf} (hz : ∀ p ∈ z, p.1 = p.2) {p : Lf} : p ∈ ofL z ↔ p ∈ z := by
  have key : ∀ (z l : List Lf), (∀ p ∈ z, p.1 = p.2) → (∀ p ∈ l, p.1 = p.2) → (p ∈ z.foldl (fun l p => putL l p.1 p.2) l ↔ p ∈ z ∨ p ∈ l) := by
    intro z
    induction z with
    | nil => intro l _ _; simp
    | cons a r ih =>
      intro l hz hl
      have ha := hz a List.mem_cons_self
      have hl2 : ∀ p ∈ putL l a.1 a.2, p.1 = p.2 := fun p hp => by
        rcases mem_putL.1 hp with rfl | ⟨_, h⟩
        · exact ha
        · exact hl p h
      rw [List.foldl_cons, ih _ (fun p hp => hz p (List.mem_cons_of_mem _ hp)) hl2, mem_putL, List.mem_cons]
      constructor
      · rintro (h | h | ⟨_, h⟩)
        · exact Or.inl (Or.inr h)
        · exact Or.inl (Or.inl h)
        · exact Or.inr h
      · rintro ((h | h) | h)
        · exact Or.inr (Or.inl h)
        · exact Or.inl h
        · by_cases hc : p.1 = a.1
          · refine Or.inr (Or.inl ?_)
            have h1 := hl p h
            exact Prod.ext hc (by rw [← h1, hc, ha])
          · exact Or.inr (Or.inr ⟨hc, h⟩)
  have := key z [] hz (fun p hp => by cases hp)
  simpa [ofL] using this
theorem ofL_perm {z y : List Lf} (hz : ∀ p ∈ z, p.1 = p.2) (oz : okLf z) (h : ∀ p, p ∈ y ↔ p ∈ z) : ofL y = ofL z := by
  have hy : ∀ p ∈ y, p.1 = p.2 := fun p hp => hz p ((h p).1 hp)
  have oy : okLf y := fun p hp => oz p ((h p).1 hp)
  exact up_ext (ofL_good y oy).2 (ofL_good z oz).2 fun p => by rw [mem_ofL hy, mem_ofL hz, h]
/-- the leaves have their first d bits in common, and are unlike -/
def Fits (l : List Lf) (d : Nat) : Prop := okLf l ∧ Up l ∧ ∀ p ∈ l, ∀ q ∈ l, ∀ j, j < d → bt p.1 j = bt q.1 j
theorem Fits.zero {l : List Lf} (h : okLf l) (hu : Up l) : Fits l 0 := ⟨h, hu, fun _ _ _ _ j hj => by omega⟩
theorem Fits.half {l : List Lf} {d : Nat} (h : Fits l d) (on : Bool) : Fits (halfL l d on) (d + 1) := by
  refine ⟨fun p hp => h.1 p (List.mem_filter.1 hp).1, h.2.1.filter _, fun p hp q hq j hj => ?_⟩
  have hp' := List.mem_filter.1 hp
  have hq' := List.mem_filter.1 hq
  by_cases hjd : j < d
  · exact h.2.2 p hp'.1 q hq'.1 j hjd
  · have : j = d := by omega
    subst this
    rw [eq_of_beq hp'.2, eq_of_beq hq'.2]
theorem Fits.lt {l : List Lf} {d : Nat} (h : Fits l d) (h2 : 2 ≤ l.length) : d < 256 := by
  match l, h2 with
  | a :: b :: r, _ =>
    rcases Nat.lt_or_ge d 256 with hd | hd
    · exact hd
    · exfalso
      have hab := (List.pairwise_cons.1 h.2.1).1 b List.mem_cons_self
      have ha := h.1 a List.mem_cons_self
      have hb := h.1 b (List.mem_cons_of_mem _ List.mem_cons_self)
      exact less_ne hab (bits_ext _ _ ha.1 hb.1 fun j hj => h.2.2 a List.mem_cons_self b (List.mem_cons_of_mem _ List.mem_cons_self) j (by omega))
theorem half_le (l : List Lf) (d : Nat) (on : Bool) : (halfL l d on).length ≤ l.length := List.length_filter_le _ _
end Go.Proofs.YtpeifpoeeopecaaDoor
/- Plain: the root of leaves, and the way to an index, by what is hashed (layer 7). -/
namespace Go.Proofs.YtpeifpoeeopecaaDoor
open Go.RowKit
set_option maxRecDepth 100000
/-- 7.1: the root of leaves below d bits; f: how many bits more there are -/
def rootF : Nat → Nat → List Lf → List (BitVec 8)
  | _, _, [] => dig [69]
  | _, _, [p] => dig (pairB 76 p.1 p.2)
  | 0, _, _ => []
  | f + 1, d, l => dig (pairB 78 (rootF f (d + 1) (halfL l d false)) (rootF f (d + 1) (halfL l d true)))
def rootL (l : List Lf) (d : Nat) : List (BitVec 8) := rootF (256 - d) d l
theorem rootL_nil (d : Nat) : rootL [] d = dig [69] := by unfold rootL rootF; rfl
theorem rootL_one (p : Lf) (d : Nat) : rootL [p] d = dig (pairB 76 p.1 p.2) := by unfold rootL; cases 256 - d <;> rfl
theorem rootF_two (f d : Nat) {l : List Lf} (h : 2 ≤ l.length) : rootF (f + 1) d l = dig (pairB 78 (rootF f (d + 1) (halfL l d false)) (rootF f (d + 1) (halfL l d true))) := by
  match l, h with
  | a :: b :: r, _ => rfl
theorem rootL_two {l : List Lf} {d : Nat} (h : Fits l d) (h2 : 2 ≤ l.length) : rootL l d = dig (pairB 78 (rootL (halfL l d false) (d + 1)) (rootL (halfL l d true) (d + 1))) := by
  have hd := h.lt h2
  unfold rootL
  rw [show 256 - d = (256 - (d + 1)) + 1 by omega, rootF_two _ _ h2]
theorem rootL_len {l : List Lf} {d : Nat} (h : Fits l d) : (rootL l d).length = 32 := by
  match l, h with
  | [], _ => rw [rootL_nil]; exact len_dig' _
  | [p], _ => rw [rootL_one]; exact len_dig' _
  | a :: b :: r, h => rw [rootL_two h (by simp)]; exact len_dig' _
/-- 7.4: the sides, and the leaf where the way ends -/
def wayF (x : List (BitVec 8)) : Nat → Nat → List Lf → List (List (BitVec 8)) × Option Lf
  | _, _, [] => ([], none)
  | _, _, [p] => ([], some p)
  | 0, _, _ => ([], none)
  | f + 1, d, l => (rootL (halfL l d (!bt x d)) (d + 1) :: (wayF x f (d + 1) (halfL l d (bt x d))).1, (wayF x f (d + 1) (halfL l d (bt x d))).2)
def wayL (l : List Lf) (x : List (BitVec 8)) (d : Nat) : List (List (BitVec 8)) × Option Lf := wayF x (256 - d) d l
theorem wayL_nil (x : List (BitVec 8)) (d : Nat) : wayL [] x d = ([], none) := by unfold wayL wayF; rfl
theorem wayL_one (p : Lf) (x : List (BitVec 8)) (d : Nat) : wayL [p] x d = ([], some p) := by unfold wayL; cases 256 - d <;> rfl
theorem wayF_two (x : List (BitVec 8)) (f d : Nat) {l : List Lf} (h : 2 ≤ l.length) : wayF x (f + 1) d l = (rootL (halfL l d (!bt x d)) (d + 1) :: (wayF x f (d + 1) (halfL l d (bt x d))).1, (wayF x f (d + 1) (halfL l d (bt x d))).2) := by
  match l, h with
  | a :: b :: r, _ => rfl
theorem wayL_two {l : List Lf} {x : List (BitVec 8)} {d : Nat} (h : Fits l d) (h2 : 2 ≤ l.length) : wayL l x d = (rootL (halfL l d (!bt x d)) (d + 1) :: (wayL (halfL l d (bt x d)) x (d + 1)).1, (wayL (halfL l d (bt x d)) x (d + 1)).2) := by
  have hd := h.lt h2
  unfold wayL
  rw [show 256 - d = (256 - (d + 1)) + 1 by omega, wayF_two _ _ _ h2]
theorem wayL_short {l : List Lf} (x : List (BitVec 8)) (d : Nat) (h : l.length ≤ 1) : wayL l x d = ([], l.head?) := by
  match l, h with
  | [], _ => exact wayL_nil x d
  | [p], _ => exact wayL_one p x d
end Go.Proofs.YtpeifpoeeopecaaDoor
/- Plain: what putting does to the halves of leaves; leaves in order; a tree by its leaves (layer 7). -/
namespace Go.Proofs.YtpeifpoeeopecaaDoor
/-- x has the first d bits of the leaves -/
def Near (l : List Lf) (x : List (BitVec 8)) (d : Nat) : Prop := ∀ p ∈ l, ∀ j, j < d → bt p.1 j = bt x j
theorem Near.zero (l : List Lf) (x : List (BitVec 8)) : Near l x 0 := fun _ _ j hj => by omega
theorem Near.half {l : List Lf} {x : List (BitVec 8)} {d : Nat} (h : Near l x d) : Near (halfL l d (bt x d)) x (d + 1) := by
  intro p hp j hj
  have hp' := List.mem_filter.1 hp
  by_cases hjd : j < d
  · exact h p hp'.1 j hjd
  · have : j = d := by omega
    subst this
    exact eq_of_beq hp'.2
theorem mem_halfL {l : List Lf} {d : Nat} {b : Bool} {p : Lf} : p ∈ halfL l d b ↔ p ∈ l ∧ bt p.1 d = b := by
  unfold halfL
  rw [List.mem_filter]
  exact ⟨fun h => ⟨h.1, eq_of_beq h.2⟩, fun h => ⟨h.1, by rw [h.2]; simp⟩⟩
theorem half_up {l : List Lf} (h : Up l) (d : Nat) (b : Bool) : Up (halfL l d b) := h.filter _
theorem half_ok {l : List Lf} (h : okLf l) (d : Nat) (b : Bool) : okLf (halfL l d b) := fun p hp => h p (mem_halfL.1 hp).1
theorem half_put_on {l : List Lf} {x v : List (BitVec 8)} {d : Nat} (h : okLf l) (hu : Up l) (hx : x.length = 32) : halfL (putL l x v) d (bt x d) = putL (halfL l d (bt x d)) x v := by
  refine up_ext (half_up (putL_up h hx hu) _ _) (putL_up (half_ok h _ _) hx (half_up hu _ _)) fun p => ?_
  rw [mem_halfL, mem_putL, mem_putL, mem_halfL]
  constructor
  · rintro ⟨h1 | ⟨h1, h2⟩, h3⟩
    · exact Or.inl h1
    · exact Or.inr ⟨h1, h2, h3⟩
  · rintro (h1 | ⟨h1, h2, h3⟩)
    · exact ⟨Or.inl h1, by rw [h1]⟩
    · exact ⟨Or.inr ⟨h1, h2⟩, h3⟩
theorem half_put_off {l : List Lf} {x v : List (BitVec 8)} {d : Nat} {b : Bool} (h : okLf l) (hu : Up l) (hx : x.length = 32) (hb : bt x d ≠ b) : halfL (putL l x v) d b = halfL l d b := by
  refine up_ext (half_up (putL_up h hx hu) _ _) (half_up hu _ _) fun p => ?_
  rw [mem_halfL, mem_putL, mem_halfL]
  constructor
  · rintro ⟨h1 | ⟨h1, h2⟩, h3⟩
    · rw [h1] at h3; exact absurd h3 hb
    · exact ⟨h2, h3⟩
  · rintro ⟨h1, h2⟩
    exact ⟨Or.inr ⟨fun e => hb (by rw [← e]; exact h2), h1⟩, h2⟩
theorem Fits.put {l : List Lf} {x v : List (BitVec 8)} {d : Nat} (h : Fits l d) (hn : Near l x d) (hx : x.length = 32) (hv : v.length = 32) : Fits (putL l x v) d := by
  refine ⟨putL_ok h.1 hx hv, putL_up h.1 hx h.2.1, fun p hp q hq j hj => ?_⟩
  have key : ∀ p ∈ putL l x v, bt p.1 j = bt x j := fun p hp => by
    rcases mem_putL.1 hp with rfl | ⟨_, h1⟩
    · rfl
    · exact hn p h1 j hj
  rw [key p hp, key q hq]
theorem putL_nil (x v : List (BitVec 8)) : putL [] x v = [(x, v)] := rfl
theorem putL_one (x u v : List (BitVec 8)) : putL [(x, u)] x v = [(x, v)] := by
  unfold putL
  simp [lessB_self]
theorem putL_two {y u x v : List (BitVec 8)} (h : y ≠ x) : (putL [(y, u)] x v).length = 2 := by
  unfold putL
  cases hl : lessB y x <;> simp [hl, h]
theorem putL_ge {l : List Lf} {x v : List (BitVec 8)} : l.length ≤ (putL l x v).length ∨ ∃ u, (x, u) ∈ l := by
  by_cases h : ∃ u, (x, u) ∈ l
  · exact Or.inr h
  · refine Or.inl ?_
    unfold putL
    have h1 := congrArg List.length (take_drop_while l fun p => lessB p.1 x)
    have h2 : ((l.dropWhile fun p => lessB p.1 x).filter fun p => decide (p.1 ≠ x)) = l.dropWhile fun p => lessB p.1 x := by
      rw [List.filter_eq_self]
      intro p hp
      have hm : p ∈ l := by rw [← take_drop_while l (fun p => lessB p.1 x)]; exact List.mem_append_right _ hp
      exact decide_eq_true fun e => h ⟨p.2, by rw [← e]; exact hm⟩
    rw [h2]
    rw [List.length_append] at h1
    rw [List.length_append, List.length_cons]
    omega
/-- how many leaves there are behind a Put -/
theorem putL_count {l : List Lf} {x v : List (BitVec 8)} (h : okLf l) (hu : Up l) (hx : x.length = 32) : (putL l x v).length = if (getL l x).isSome then l.length else l.length + 1 := by
  cases hg : getL l x with
  | none =>
    have hn := getL_none.1 hg
    have h2 : ((l.dropWhile fun p => lessB p.1 x).filter fun p => decide (p.1 ≠ x)) = l.dropWhile fun p => lessB p.1 x := by
      rw [List.filter_eq_self]
      intro p hp
      have hm : p ∈ l := by rw [← take_drop_while l (fun p => lessB p.1 x)]; exact List.mem_append_right _ hp
      exact decide_eq_true fun e => hn p.2 (by rw [← e]; exact hm)
    have h1 := congrArg List.length (take_drop_while l fun p => lessB p.1 x)
    unfold putL
    rw [h2]
    rw [List.length_append] at h1
    rw [List.length_append, List.length_cons]
    simp
    omega
  | some u =>
    have hm := (getL_mem hu).1 hg
    have h1 : (putL l x v).map (·.1) = l.map (·.1) := by
      have e : ∀ (m : List Lf), m.map (·.1) = (m.map fun p => (p.1, p.1)).map (·.1) := fun m => by rw [List.map_map]; rfl
      rw [e (putL l x v), e l]
      congr 1
      have up2 : ∀ m : List Lf, Up m → Up (m.map fun p => (p.1, p.1)) := fun m hm => by
        unfold Up
        rw [List.pairwise_map]
        exact hm
      refine up_ext (up2 _ (putL_up h hx hu)) (up2 _ hu) fun q => ?_
      simp only [List.mem_map]
      constructor
      · rintro ⟨p, hp, rfl⟩
        rcases mem_putL.1 hp with rfl | ⟨_, h1⟩
        · exact ⟨(x, u), hm, rfl⟩
        · exact ⟨p, h1, rfl⟩
      · rintro ⟨p, hp, rfl⟩
        by_cases hc : p.1 = x
        · exact ⟨(x, v), mem_putL.2 (Or.inl rfl), by rw [hc]⟩
        · exact ⟨p, mem_putL.2 (Or.inr ⟨hc, hp⟩), rfl⟩
    have h2 := congrArg List.length h1
    rw [List.length_map, List.length_map] at h2
    simpa using h2
theorem getL_half {l : List Lf} {x : List (BitVec 8)} {d : Nat} : getL (halfL l d (bt x d)) x = getL l x := by
  unfold getL halfL
  congr 1
  induction l with
  | nil => rfl
  | cons p r ih =>
    rw [List.filter_cons, List.find?_cons]
    by_cases hp : p.1 = x
    · have : (bt p.1 d == bt x d) = true := by rw [hp]; simp
      rw [if_pos this, List.find?_cons, decide_eq_true hp]
    · rw [decide_eq_false hp]
      split
      · rw [List.find?_cons, decide_eq_false hp]
        exact ih
      · exact ih
/-- the leaves whose next bit is off stand ahead of the others -/
theorem half_order {l : List Lf} {d : Nat} (h : Fits l d) : l = halfL l d false ++ halfL l d true := by
  have key : ∀ l : List Lf, okLf l → Up l → (∀ p ∈ l, ∀ q ∈ l, ∀ j, j < d → bt p.1 j = bt q.1 j) → l = halfL l d false ++ halfL l d true := by
    intro l
    induction l with
    | nil => intro _ _ _; rfl
    | cons p r ih =>
      intro ho hu hc
      have hu' := List.pairwise_cons.1 hu
      have hr := ih (fun q hq => ho q (List.mem_cons_of_mem _ hq)) hu'.2 (fun a ha b hb => hc a (List.mem_cons_of_mem _ ha) b (List.mem_cons_of_mem _ hb))
      cases hb : bt p.1 d with
      | false =>
        have e1 : halfL (p :: r) d false = p :: halfL r d false := by unfold halfL; rw [List.filter_cons, hb]; rfl
        have e2 : halfL (p :: r) d true = halfL r d true := by unfold halfL; rw [List.filter_cons, hb]; rfl
        rw [e1, e2, List.cons_append, ← hr]
      | true =>
        have e1 : halfL (p :: r) d false = halfL r d false := by unfold halfL; rw [List.filter_cons, hb]; rfl
        have e2 : halfL (p :: r) d true = p :: halfL r d true := by unfold halfL; rw [List.filter_cons, hb]; rfl
        have e3 : halfL r d false = [] := by
          unfold halfL
          rw [List.filter_eq_nil_iff]
          intro q hq hqb
          have hqf : bt q.1 d = false := eq_of_beq hqb
          have hlt := hu'.1 q hq
          have hp32 := (ho p List.mem_cons_self).1
          have hq32 := (ho q (List.mem_cons_of_mem _ hq)).1
          have hne := less_ne hlt
          have hcm := (common_spec p.1 q.1)
          rw [less_common p.1 q.1 hp32 hq32 hne] at hlt
          have hcd : common p.1 q.1 = d := by
            rcases Nat.lt_trichotomy (common p.1 q.1) d with h1 | h1 | h1
            · exact absurd (hc p List.mem_cons_self q (List.mem_cons_of_mem _ hq) _ h1) (hcm.2.2 (common_lt _ _ hp32 hq32 hne))
            · exact h1
            · have := hcm.2.1 d h1
              rw [hb, hqf] at this
              cases this
          rw [hcd, hqf] at hlt
          cases hlt
        rw [e1, e2, e3, List.nil_append]
        rw [e3, List.nil_append] at hr
        rw [← hr]
  exact key l h.1 h.2.1 h.2.2
theorem half_len {l : List Lf} {d : Nat} (h : Fits l d) : l.length = (halfL l d false).length + (halfL l d true).length := by
  have := congrArg List.length (half_order h)
  rwa [List.length_append] at this
end Go.Proofs.YtpeifpoeeopecaaDoor
/- Plain: what is hashed along a way, the root that it leads from, and what it proves (layer 8). -/
namespace Go.Proofs.YtpeifpoeeopecaaDoor
open Go.RowKit
set_option maxRecDepth 100000
/-- what is hashed last: the leaf's text, or the empty one's -/
def endB (en : Int) (ix va : List (BitVec 8)) : List (BitVec 8) := if en = 1 then pairB 76 ix va else [69]
/-- the text of a node with a side, the side first where the bit is on -/
def nodeB (on : Bool) (s y : List (BitVec 8)) : List (BitVec 8) := if on then pairB 78 s y else pairB 78 y s
/-- 8.1: what is hashed, from the root on; d sides stand ahead -/
def hashL (x b : List (BitVec 8)) : Nat → List (List (BitVec 8)) → List (List (BitVec 8))
  | _, [] => [b]
  | d, s :: r => nodeB (bitI x d) s (dig ((hashL x b (d + 1) r).headD [])) :: hashL x b (d + 1) r
def topL (x b : List (BitVec 8)) (d : Nat) (sd : List (List (BitVec 8))) : List (BitVec 8) := dig ((hashL x b d sd).headD [])
theorem topL_len (x b : List (BitVec 8)) (d : Nat) (sd : List (List (BitVec 8))) : (topL x b d sd).length = 32 := len_dig' _
theorem hashL_cons (x b s : List (BitVec 8)) (r : List (List (BitVec 8))) (d : Nat) : hashL x b d (s :: r) = nodeB (bitI x d) s (topL x b (d + 1) r) :: hashL x b (d + 1) r := rfl
theorem hashL_nil (x b : List (BitVec 8)) (d : Nat) : hashL x b d [] = [b] := rfl
theorem hashL_len (x b : List (BitVec 8)) (sd : List (List (BitVec 8))) (d : Nat) : (hashL x b d sd).length = sd.length + 1 := by
  induction sd generalizing d with
  | nil => rw [hashL_nil]; simp only [List.length_cons, List.length_nil]
  | cons s r ih => rw [hashL_cons, List.length_cons, ih, List.length_cons]
theorem topL_nil (x b : List (BitVec 8)) (d : Nat) : topL x b d [] = dig b := by
  unfold topL
  rw [hashL_nil, List.headD_cons]
theorem topL_cons (x b s : List (BitVec 8)) (r : List (List (BitVec 8))) (d : Nat) : topL x b d (s :: r) = dig (nodeB (bitI x d) s (topL x b (d + 1) r)) := by
  unfold topL
  rw [hashL_cons, List.headD_cons]
  rfl
/-- the last sides' part, one more ahead of it -/
theorem hashL_drop (x b : List (BitVec 8)) (sd : List (List (BitVec 8))) (k : Nat) (h : k < sd.length) : hashL x b k (sd.drop k) = nodeB (bitI x k) (sd.getD k []) (topL x b (k + 1) (sd.drop (k + 1))) :: hashL x b (k + 1) (sd.drop (k + 1)) := by
  rw [List.drop_eq_getElem_cons h, hashL_cons, List.getD_eq_getElem?_getD, List.getElem?_eq_getElem h, Option.getD_some]
/-- may a way be (5.1) -/
def rightW (n : Nat) (en : Int) (ix va : List (BitVec 8)) : Bool := decide (n ≤ 256) && (decide (en = 1) || (decide (en = 0) && decide (ix = zb32) && decide (va = zb32)))
/-- 8.2: none is refused, some none is not there -/
def checkW (root x : List (BitVec 8)) (sd : List (List (BitVec 8))) (en : Int) (ix va : List (BitVec 8)) : Option (Option (List (BitVec 8))) :=
  if rightW sd.length en ix va = false ∨ (en = 1 ∧ common ix x < sd.length) ∨ topL x (endB en ix va) 0 sd ≠ root then none
  else if en = 1 ∧ ix = x then some (some va) else some none
/-- two unlike texts of one digest at one place -/
def twoL (a b : List (List (BitVec 8))) : Prop := ∃ i, i < a.length ∧ i < b.length ∧ a.getD i [] ≠ b.getD i [] ∧ dig (a.getD i []) = dig (b.getD i [])
theorem twoL.cons {a b : List (List (BitVec 8))} (h : twoL a b) (s t : List (BitVec 8)) : twoL (s :: a) (t :: b) := by
  obtain ⟨i, h1, h2, h3, h4⟩ := h
  exact ⟨i + 1, by simp; omega, by simp; omega, by simpa using h3, by simpa using h4⟩
theorem twoL.head {a b : List (List (BitVec 8))} {s t : List (BitVec 8)} (h : s ≠ t) (hd : dig s = dig t) : twoL (s :: a) (t :: b) := ⟨0, by simp, by simp, by simpa using h, by simpa using hd⟩
theorem twoL.symm {a b : List (List (BitVec 8))} (h : twoL a b) : twoL b a := by
  obtain ⟨i, h1, h2, h3, h4⟩ := h
  exact ⟨i, h2, h1, fun h => h3 h.symm, h4.symm⟩
theorem pairB_eq {c c' : BitVec 8} {x y x' y' : List (BitVec 8)} (hx : x.length = 32) (hx' : x'.length = 32) (h : pairB c x y = pairB c' x' y') : c = c' ∧ x = x' ∧ y = y' := by
  simp only [pairB, List.cons.injEq] at h
  obtain ⟨h1, h2⟩ := h
  have := List.append_inj h2 (by rw [hx, hx'])
  exact ⟨h1, this⟩
theorem nodeB_eq {on : Bool} {s y s' y' : List (BitVec 8)} (hs : s.length = 32) (hs' : s'.length = 32) (hy : y.length = 32) (hy' : y'.length = 32) (h : nodeB on s y = nodeB on s' y') : s = s' ∧ y = y' := by
  cases on
  · have := pairB_eq hy hy' h
    exact ⟨this.2.2, this.2.1⟩
  · exact (pairB_eq hs hs' h).2
theorem nodeB_head (on : Bool) (s y : List (BitVec 8)) : (nodeB on s y).head? = some 78 := by cases on <;> rfl
theorem endB_head (en : Int) (ix va : List (BitVec 8)) : (endB en ix va).head? ≠ some 78 := by
  unfold endB
  split
  · show some (76 : BitVec 8) ≠ some 78
    decide
  · show some (69 : BitVec 8) ≠ some 78
    decide
/-- two ways as long, from one root: the same sides and the same end, or two texts of one digest -/
theorem hash_two (x b b' : List (BitVec 8)) (sd sd' : List (List (BitVec 8))) (d : Nat) (hl : sd.length = sd'.length) (h1 : ∀ s ∈ sd, s.length = 32) (h2 : ∀ s ∈ sd', s.length = 32) (h : topL x b d sd = topL x b' d sd') :
    twoL (hashL x b d sd) (hashL x b' d sd') ∨ (sd = sd' ∧ b = b') := by
  induction sd generalizing sd' d with
  | nil =>
    obtain rfl : sd' = [] := List.length_eq_zero_iff.1 hl.symm
    rw [topL_nil, topL_nil] at h
    rw [hashL_nil, hashL_nil]
    by_cases hb : b = b'
    · exact .inr ⟨rfl, hb⟩
    · exact .inl (twoL.head hb h)
  | cons s r ih =>
    obtain ⟨s', r', rfl⟩ : ∃ s' r', sd' = s' :: r' := by
      cases sd' with
      | nil => simp at hl
      | cons s' r' => exact ⟨s', r', rfl⟩
    · rw [hashL_cons, hashL_cons]
      rw [topL_cons, topL_cons] at h
      by_cases he : nodeB (bitI x d) s (topL x b (d + 1) r) = nodeB (bitI x d) s' (topL x b' (d + 1) r')
      · obtain ⟨e1, e2⟩ := nodeB_eq (h1 s (by simp)) (h2 s' (by simp)) (topL_len _ _ _ _) (topL_len _ _ _ _) he
        rcases ih r' (d + 1) (by simpa using hl) (fun t ht => h1 t (by simp [ht])) (fun t ht => h2 t (by simp [ht])) e2 with h3 | ⟨h3, h4⟩
        · exact .inl (h3.cons _ _)
        · exact .inr ⟨by rw [e1, h3], h4⟩
      · exact .inl (twoL.head he h)
/-- one way with a side more at its end, from one root: two texts of one digest -/
theorem hash_short (x b b' : List (BitVec 8)) (hb : b.head? ≠ some 78) (sd : List (List (BitVec 8))) (s : List (BitVec 8)) (d : Nat) (h1 : ∀ t ∈ sd, t.length = 32) (h : topL x b d sd = topL x b' d (sd ++ [s])) :
    twoL (hashL x b d sd) (hashL x b' d (sd ++ [s])) := by
  induction sd generalizing d with
  | nil =>
    rw [List.nil_append] at h ⊢
    rw [topL_nil, topL_cons] at h
    rw [hashL_nil, hashL_cons]
    refine twoL.head (fun he => hb ?_) h
    rw [he]
    exact nodeB_head _ _ _
  | cons t r ih =>
    rw [List.cons_append] at h ⊢
    rw [topL_cons, topL_cons] at h
    rw [hashL_cons, hashL_cons]
    by_cases he : nodeB (bitI x d) t (topL x b (d + 1) r) = nodeB (bitI x d) t (topL x b' (d + 1) (r ++ [s]))
    · obtain ⟨_, e2⟩ := nodeB_eq (h1 t (by simp)) (h1 t (by simp)) (topL_len _ _ _ _) (topL_len _ _ _ _) he
      exact (ih (d + 1) (fun u hu => h1 u (by simp [hu])) e2).cons _ _
    · exact twoL.head he h
/-- the end of a tree's way -/
def endW (o : Option Lf) : Int × List (BitVec 8) × List (BitVec 8) := match o with
  | some p => (1, p.1, p.2)
  | none => (0, zb32, zb32)
def wayLast (l : List Lf) (x : List (BitVec 8)) (d : Nat) : List (BitVec 8) := match (wayL l x d).2 with
  | some p => pairB 76 p.1 p.2
  | none => [69]
theorem wayL_side {l : List Lf} {d : Nat} (x : List (BitVec 8)) (h : Fits l d) : (wayL l x d).1.length + d ≤ 256 ∨ (wayL l x d).1 = [] := by
  by_cases h2 : 2 ≤ l.length
  · left
    have hd := h.lt h2
    rw [wayL_two h h2]
    rcases wayL_side x (h.half (bt x d)) with h3 | h3
    · simp only [List.length_cons]; omega
    · simp only [List.length_cons, h3, List.length_nil]; omega
  · right
    rw [wayL_short x d (by omega)]
termination_by 256 - d
decreasing_by all_goals (have := h.lt h2; omega)
theorem wayL_len32 {l : List Lf} {d : Nat} (x : List (BitVec 8)) (h : Fits l d) : ∀ s ∈ (wayL l x d).1, s.length = 32 := by
  by_cases h2 : 2 ≤ l.length
  · have hd := h.lt h2
    rw [wayL_two h h2]
    intro s hs
    rcases List.mem_cons.1 hs with hs | hs
    · rw [hs]; exact rootL_len (h.half _)
    · exact wayL_len32 x (h.half (bt x d)) s hs
  · rw [wayL_short x d (by omega)]
    intro s hs
    cases hs
termination_by 256 - d
decreasing_by all_goals (have := h.lt h2; omega)
/-- a tree's way leads from the tree's root -/
theorem way_root {l : List Lf} {d : Nat} (x : List (BitVec 8)) (h : Fits l d) : topL x (wayLast l x d) d (wayL l x d).1 = rootL l d := by
  by_cases h2 : 2 ≤ l.length
  · have hd := h.lt h2
    have ih := way_root x (h.half (bt x d))
    have e : wayLast l x d = wayLast (halfL l d (bt x d)) x (d + 1) := by unfold wayLast; rw [wayL_two h h2]
    rw [e, wayL_two h h2, rootL_two h h2]
    show topL _ _ _ (_ :: _) = _
    rw [topL_cons, ih]
    have hb : bitI x (d : Int) = bt x d := by
      unfold bitI isB
      rw [decide_eq_true (by omega : (0 : Int) ≤ d), decide_eq_true (by omega : (d : Int) < 256)]
      rfl
    rw [hb]
    cases bt x d <;> rfl
  · have h3 : l.length ≤ 1 := by omega
    unfold wayLast
    rw [wayL_short x d h3]
    match l, h3 with
    | [], _ => rw [rootL_nil]; rfl
    | [p], _ => rw [rootL_one]; rfl
termination_by 256 - d
decreasing_by all_goals (have := h.lt h2; omega)
/-- the leaf at a tree's way's end shares as many first bits as there are sides -/
theorem way_end {l : List Lf} {d : Nat} (x : List (BitVec 8)) (h : Fits l d) (p : Lf) (hp : (wayL l x d).2 = some p) : p ∈ l ∧ ∀ j, d ≤ j → j < d + (wayL l x d).1.length → bt p.1 j = bt x j := by
  by_cases h2 : 2 ≤ l.length
  · have hd := h.lt h2
    rw [wayL_two h h2] at hp ⊢
    obtain ⟨h3, h4⟩ := way_end x (h.half (bt x d)) p hp
    have h5 := List.mem_filter.1 h3
    refine ⟨h5.1, fun j hj1 hj2 => ?_⟩
    by_cases hj : j = d
    · subst hj
      simpa using h5.2
    · refine h4 j (by omega) ?_
      simp only [List.length_cons] at hj2
      omega
  · have h3 : l.length ≤ 1 := by omega
    rw [wayL_short x d h3] at hp ⊢
    refine ⟨?_, fun j hj1 hj2 => ?_⟩
    · match l, h3 with
      | [], _ => simp at hp
      | [q], _ => simp at hp; simp [hp]
    · simp at hj2; omega
termination_by 256 - d
decreasing_by all_goals (have := h.lt h2; omega)
theorem way_get {l : List Lf} {d : Nat} (x : List (BitVec 8)) (h : Fits l d) : getL l x = (match (wayL l x d).2 with | some p => if p.1 = x then some p.2 else none | none => none) := by
  by_cases h2 : 2 ≤ l.length
  · have hd := h.lt h2
    rw [wayL_two h h2]
    show _ = (match (wayL (halfL l d (bt x d)) x (d + 1)).2 with | some p => if p.1 = x then some p.2 else none | none => none)
    rw [← way_get x (h.half (bt x d))]
    exact getL_half.symm
  · have h3 : l.length ≤ 1 := by omega
    rw [wayL_short x d h3]
    match l, h3 with
    | [], _ => rfl
    | [p], _ =>
      show getL [p] x = if p.1 = x then some p.2 else none
      unfold getL
      by_cases hp : p.1 = x
      · simp [hp]
      · simp [hp]
termination_by 256 - d
decreasing_by all_goals (have := h.lt h2; omega)
/-- 8.3: what a tree proves is what it has -/
theorem way_check {l : List Lf} (x : List (BitVec 8)) (h : Fits l 0) : checkW (rootL l 0) x (wayL l x 0).1 (endW (wayL l x 0).2).1 (endW (wayL l x 0).2).2.1 (endW (wayL l x 0).2).2.2 = some (getL l x) := by
  have hs : (wayL l x 0).1.length ≤ 256 := by
    rcases wayL_side x h with h1 | h1
    · omega
    · rw [h1]; simp
  have hr := way_root x h
  have hg := way_get x h
  unfold checkW
  cases hw : (wayL l x 0).2 with
  | none =>
    have hl : wayLast l x 0 = [69] := by unfold wayLast; rw [hw]
    rw [hl] at hr
    rw [hw] at hg
    have hb : endB 0 zb32 zb32 = [69] := rfl
    rw [if_neg, if_neg, hg]
    · show ¬ ((0 : Int) = 1 ∧ _)
      omega
    · show ¬ (rightW _ 0 zb32 zb32 = false ∨ ((0 : Int) = 1 ∧ _) ∨ topL x (endB 0 zb32 zb32) 0 _ ≠ _)
      rw [hb, hr]
      simp [rightW, hs]
  | some p =>
    have hl : wayLast l x 0 = pairB 76 p.1 p.2 := by unfold wayLast; rw [hw]
    rw [hl] at hr
    rw [hw] at hg
    have hb : endB 1 p.1 p.2 = pairB 76 p.1 p.2 := rfl
    have hc : (wayL l x 0).1.length ≤ common p.1 x := by
      obtain ⟨_, he⟩ := way_end x h p hw
      obtain ⟨c1, c2, c3⟩ := common_spec p.1 x
      by_cases hlt : common p.1 x < (wayL l x 0).1.length
      · exact absurd (he (common p.1 x) (by omega) (by omega)) (c3 (by omega))
      · omega
    rw [if_neg]
    · show (if (1 : Int) = 1 ∧ p.1 = x then some (some p.2) else some none) = _
      rw [hg]
      by_cases hp : p.1 = x
      · rw [if_pos ⟨rfl, hp⟩]
        simp [hp]
      · rw [if_neg (fun h => hp h.2)]
        simp [hp]
    · show ¬ (rightW _ 1 p.1 p.2 = false ∨ ((1 : Int) = 1 ∧ _) ∨ topL x (endB 1 p.1 p.2) 0 _ ≠ _)
      rw [hb, hr]
      have hc2 : ¬ common p.1 x < (wayL l x 0).1.length := by omega
      rintro (h1 | ⟨_, h1⟩ | h1)
      · simp [rightW, hs] at h1
      · exact hc2 h1
      · exact h1 rfl
end Go.Proofs.YtpeifpoeeopecaaDoor
/- Laws for the walks of path: a digest in memory, step by step; two operations that may come up in either order. -/
namespace Go.Proofs.YtpeifpoeeopecaaDoor
open Go.RowKit
set_option maxRecDepth 100000
theorem wpSeq_val {P : Program} {ops : Array Oper} {Q : Exit → Act → World → Prop} {rest : List Oper} {o : Oper} {a : Act} {w : World} (v : Value) (w' : World) (hw : Region.wanted o (yielded ops a.tmps) = true)
    (he : (execOp a.eval o).run P w = .ok (.value v) w') (h : wpList P ops Q rest (a.put o.dst v) w') : wpList P ops Q (o :: rest) a w := by
  unfold wpList
  simp only [hw, if_true]
  left
  unfold Oper.wp
  rw [he, Oper.upon_value]
  exact h
theorem info_digest : (Tryd.prog.info? 33).map (·.size) = some 32 := by kernel_rfl
theorem allocDigest (f : Operand → Value) (o : Oper) (ho : o.op = .alloc 33) (w : World) : (execOp f o).run Tryd.prog w = .ok (.value (.pointer (some ⟨w.heap.size, 0, none⟩))) (w.alloc (.cells (cb zb32).toArray 33)) := by
  unfold execOp
  rw [ho]
  kernel_rfl
/-- a new block with the bytes x -/
structure NewB (x : List (BitVec 8)) (w : World) (g : Nat) (w' : World) : Prop where
  ge : w.heap.size ≤ g
  blk : Blk w' g (cb x) 33
  below : Below w.heap.size w w'
theorem NewB.of (x : List (BitVec 8)) (w : World) : NewB x w w.heap.size (w.alloc (.cells (cb x).toArray 33)) := ⟨Nat.le_refl _, Blk.new w _ _, below_alloc w _⟩
theorem zb32_len : zb32.length = 32 := rfl
theorem wpSeq_allocD {ops : Array Oper} {Q : Exit → Act → World → Prop} {rest : List Oper} {o : Oper} {a : Act} {w : World} (ho : o.op = .alloc 33) (hw : Region.wanted o (yielded ops a.tmps) = true)
    (h : ∀ g w', NewB zb32 w g w' → wpList Tryd.prog ops Q rest (a.put o.dst (.pointer (some ⟨g, 0, none⟩))) w') : wpList Tryd.prog ops Q (o :: rest) a w :=
  wpSeq_val _ _ hw (allocDigest _ _ ho _) (h _ _ (NewB.of zb32 w))
theorem boxDigest (f : Operand → Value) (o : Oper) (x : Operand) (ho : o.op = .box 33 x) (l : List (BitVec 8)) (hx : f x = .agg (cb l).toArray) (w : World) : (execOp f o).run Tryd.prog w = .ok (.value (.pointer (some ⟨w.heap.size, 0, none⟩))) (w.alloc (.cells (cb l).toArray 33)) := by
  unfold execOp
  rw [ho]
  simp only [hx]
  rfl
theorem wpSeq_boxD {ops : Array Oper} {Q : Exit → Act → World → Prop} {rest : List Oper} {o : Oper} {a : Act} {w : World} (x : Operand) (l : List (BitVec 8)) (ho : o.op = .box 33 x) (hx : a.eval x = .agg (cb l).toArray) (hw : Region.wanted o (yielded ops a.tmps) = true)
    (h : ∀ g w', NewB l w g w' → wpList Tryd.prog ops Q rest (a.put o.dst (.pointer (some ⟨g, 0, none⟩))) w') : wpList Tryd.prog ops Q (o :: rest) a w :=
  wpSeq_val _ _ hw (boxDigest _ _ x ho l hx _) (h _ _ (NewB.of l w))
theorem loadDigest {a : Act} {o : Oper} {w : World} (x : Operand) (g : Nat) (l : List (BitVec 8)) (hl : l.length = 32) (hb : Blk w g (cb l) 33) (ho : o.op = .load 33 x) (hx : a.eval x = .pointer (some ⟨g, 0, none⟩)) : (execOp a.eval o).run Tryd.prog w = .ok (.value (.agg (cb l).toArray)) w :=
  load_run 33 x ho g 0 hx (cb l) _ hb.range Tryd.underlying33 rfl (by rw [cb_len, hl]; exact info_digest)
theorem wpSeq_loadD {ops : Array Oper} {Q : Exit → Act → World → Prop} {rest : List Oper} {o : Oper} {a : Act} {w : World} (x : Operand) (g : Nat) (l : List (BitVec 8)) (hl : l.length = 32) (hb : Blk w g (cb l) 33) (ho : o.op = .load 33 x) (hx : a.eval x = .pointer (some ⟨g, 0, none⟩)) (hw : Region.wanted o (yielded ops a.tmps) = true)
    (h : wpList Tryd.prog ops Q rest (a.put o.dst (.agg (cb l).toArray)) w) : wpList Tryd.prog ops Q (o :: rest) a w :=
  wpSeq_val _ _ hw (loadDigest x g l hl hb ho hx) h
/-- block g alone has changed: it has the bytes x now -/
structure SetB (x : List (BitVec 8)) (w : World) (g : Nat) (w' : World) : Prop where
  blk : Blk w' g (cb x) 33
  only : Only g w w'
theorem SetB.of (l x : List (BitVec 8)) (hl : l.length = 32) (hx : x.length = 32) {w : World} {g : Nat} (hb : Blk w g (cb l) 33) : SetB x w g (w.setCells g 0 (cb x)) :=
  ⟨hb.whole (cb x) (by rw [cb_len, cb_len]; omega), Only.setCells _ _ _ (Only.refl g w)⟩
theorem wpSeq_storeD {ops : Array Oper} {Q : Exit → Act → World → Prop} {rest : List Oper} {o : Oper} {a : Act} {w : World} (x y : Operand) (g : Nat) (l n : List (BitVec 8)) (hl : l.length = 32) (hn : n.length = 32) (hb : Blk w g (cb l) 33) (ho : o.op = .store 33 x y) (hx : a.eval x = .pointer (some ⟨g, 0, none⟩)) (hy : a.eval y = .agg (cb n).toArray) (hgd : o.guard = none)
    (h : ∀ w', SetB n w g w' → wpList Tryd.prog ops Q rest (a.put o.dst undef) w') : wpList Tryd.prog ops Q (o :: rest) a w :=
  wpList_store_mid hgd 33 x y ho g 0 _ hx hy (hb.there 0 _ (by rw [List.size_toArray, cb_len, cb_len]; omega)) (by rw [List.size_toArray, cb_len, hn]; exact info_digest) (all_oneCell_toArray (cb_one n))
    (by rw [List.toList_toArray]; exact h _ (SetB.of l n hl hn hb))
theorem indexDig (k g : Nat) (hk : k < 32) (f : Operand → Value) (o : Oper) (x y : Operand) (ho : o.op = .indexAddr 33 x y) (h1 : f x = .pointer (some ⟨g, 0, none⟩)) (h2 : f y = .int .i64 (k : Int)) (w : World) :
    (execOp f o).run Tryd.prog w = .ok (.value (.pointer (some ⟨g, k, none⟩))) w := by
  have k0 : (0 : Int) ≤ (k : Int) := by omega
  have k1 : (k : Int) < 32 := by omega
  unfold execOp
  rw [ho]
  simp [go_sem, h1, h2, k0, k1]
theorem Over.blk {w0 wx : World} {g : Nat} {cs : List Value} {t : TypeId} (h : Over w0 wx) (hb : Blk w0 g cs t) : Blk wx g cs t := hb.below h hb.lt
theorem wpAny_storeB {md : Region.Mode} {ops : Array Oper} {Q : Exit → Act → World → Prop} {fuel : Nat} {listed : Array Bool} {a : Act} {w : World} (i : Nat) {oi : Oper} (x y : Operand) (g k : Nat) (l : List (BitVec 8)) (b : BitVec 8)
    (hr : Region.ready md ops listed = [i]) (hi : ops[i]? = some oi) (hw : Region.wanted oi (yielded ops a.tmps) = true) (ho : oi.op = .store 5 x y) (hx : a.eval x = .pointer (some ⟨g, k, none⟩)) (hy : a.eval y = .int .u8 (b.toNat : Int)) (hk : k < l.length) (hb : Blk w g (cb l) 33)
    (h : ∀ w', SetB (l.set k b) w g w' → wpAny Tryd.prog md ops Q fuel (listed.setIfInBounds i true) (a.put oi.dst undef) w') : wpAny Tryd.prog md ops Q (fuel + 1) listed a w := by
  have hc : w.cell? ⟨g, k, none⟩ = some (.int .u8 ((l.getD k 0).toNat : Int)) := by rw [hb.cell, cb_get l k hk]
  have hf : w.frozen? ⟨g, k, none⟩ = false := hb.frozen k
  refine wpAny_all hr (by simp) (fun j hj => ?_)
  obtain rfl : j = i := by simpa using hj
  unfold wpOp
  rw [hi]
  simp only [hw, if_true]
  left
  have he : (execOp a.eval oi).run Tryd.prog w = .ok .skip (w.setCell ⟨g, k, none⟩ (.int .u8 (b.toNat : Int))) := by
    clear h hw hi
    generalize a.eval = f at hx hy ⊢
    unfold execOp
    rw [ho]
    simp [go_sem, hx, hy, hc, hf]
  unfold Oper.wp
  rw [he]
  refine h _ ⟨?_, Only.setCell (Only.refl g w) k _⟩
  have := hb.set k (.int .u8 (b.toNat : Int))
  rwa [cb_set] at this
theorem storeByte (f : Operand → Value) (o : Oper) (x y : Operand) (g k : Nat) (l : List (BitVec 8)) (b : BitVec 8) {w : World} (ho : o.op = .store 5 x y) (hx : f x = .pointer (some ⟨g, k, none⟩)) (hy : f y = .int .u8 (b.toNat : Int)) (hk : k < l.length) (hb : Blk w g (cb l) 33) :
    (execOp f o).run Tryd.prog w = .ok .skip (w.setCell ⟨g, k, none⟩ (.int .u8 (b.toNat : Int))) := by
  have hc : w.cell? ⟨g, k, none⟩ = some (.int .u8 ((l.getD k 0).toNat : Int)) := by rw [hb.cell, cb_get l k hk]
  have hf : w.frozen? ⟨g, k, none⟩ = false := hb.frozen k
  unfold execOp
  rw [ho]
  simp [go_sem, hx, hy, hc, hf]
theorem SetB.byte {l : List (BitVec 8)} {w : World} {g k : Nat} {b : BitVec 8} (hb : Blk w g (cb l) 33) : SetB (l.set k b) w g (w.setCell ⟨g, k, none⟩ (.int .u8 (b.toNat : Int))) := by
  refine ⟨?_, Only.setCell (Only.refl g w) k _⟩
  have := hb.set k (.int .u8 (b.toNat : Int))
  rwa [cb_set] at this
theorem wpSeq_storeB {ops : Array Oper} {Q : Exit → Act → World → Prop} {rest : List Oper} {o : Oper} {a : Act} {w : World} (x y : Operand) (g k : Nat) (l : List (BitVec 8)) (b : BitVec 8) (hk : k < l.length) (hb : Blk w g (cb l) 33) (ho : o.op = .store 5 x y) (hx : a.eval x = .pointer (some ⟨g, k, none⟩)) (hy : a.eval y = .int .u8 (b.toNat : Int)) (hw : Region.wanted o (yielded ops a.tmps) = true)
    (h : ∀ w', SetB (l.set k b) w g w' → wpList Tryd.prog ops Q rest (a.put o.dst undef) w') : wpList Tryd.prog ops Q (o :: rest) a w := by
  unfold wpList
  simp only [hw, if_true]
  left
  unfold Oper.wp
  rw [storeByte _ _ x y g k l b ho hx hy hk hb]
  exact h _ (SetB.byte hb)
end Go.Proofs.YtpeifpoeeopecaaDoor
/- The walks of path's smallest functions. -/
namespace Go.Proofs.YtpeifpoeeopecaaDoor
open Go.RowKit
set_option maxRecDepth 100000
theorem isBit_any (i : Int) (w : World) : Calls Tryd.prog 75 #[.int .i64 i] w fun e w' => e = .returned (.bool (isB i)) ∧ w' = w := by
  go_enter Tryd.func75, Tryd.ntmps75
  go_wp2
  · rename_i h
    go_ret
    exact ⟨by simp [isB, h], rfl⟩
  · rename_i h
    go_ret
    exact ⟨by simp [isB]; omega, rfl⟩
theorem mask_nat : ∀ k : Fin 8, ((128#8 >>> k.val).toNat : Int) = 128 / 2 ^ k.val := by decide +kernel
theorem bitOf_any (n : Nat) (w : World) : Calls Tryd.prog 76 #[.int .i64 (n : Int)] w fun e w' => e = .returned (.int .u8 ((mask n).toNat : Int)) ∧ w' = w := by
  have e1 : Int.tmod (n : Int) 8 = ((n % 8 : Nat) : Int) := by rw [Int.tmod_eq_emod_of_nonneg (by omega)]; omega
  have e2 := mask_nat ⟨n % 8, by omega⟩
  simp only at e2
  go_enter Tryd.func76, Tryd.ntmps76
  go_wp2
  go_ret
  exact ⟨by rw [mask, e2]; rfl, rfl⟩
theorem ofInt_toNat8 (x : BitVec 8) : BitVec.ofInt 8 (x.toNat : Int) = x := by apply BitVec.eq_of_toNat_eq; simp
theorem wrap_lt8 (x : BitVec 8) : IntKind.u8.wrap (x.toNat : Int) = (x.toNat : Int) := by
  have := x.isLt
  simp [IntKind.wrap, IntKind.bits, IntKind.signed]; omega
theorem u8_and (x y : BitVec 8) : bits .and .u8 (x.toNat : Int) (y.toNat : Int) = ((x &&& y).toNat : Int) := by
  show IntKind.u8.wrap ((BitVec.ofInt 8 (x.toNat : Int) &&& BitVec.ofInt 8 (y.toNat : Int)).toNat : Int) = _
  rw [ofInt_toNat8, ofInt_toNat8, wrap_lt8]
theorem u8_or (x y : BitVec 8) : bits .or .u8 (x.toNat : Int) (y.toNat : Int) = ((x ||| y).toNat : Int) := by
  show IntKind.u8.wrap ((BitVec.ofInt 8 (x.toNat : Int) ||| BitVec.ofInt 8 (y.toNat : Int)).toNat : Int) = _
  rw [ofInt_toNat8, ofInt_toNat8, wrap_lt8]
theorem u8_andNot (x y : BitVec 8) : bits .andNot .u8 (x.toNat : Int) (y.toNat : Int) = ((x &&& ~~~y).toNat : Int) := by
  show IntKind.u8.wrap ((BitVec.ofInt 8 (x.toNat : Int) &&& ~~~(BitVec.ofInt 8 (y.toNat : Int))).toNat : Int) = _
  rw [ofInt_toNat8, ofInt_toNat8, wrap_lt8]
set_option maxHeartbeats 1000000 in
theorem pBit_any (x : List (BitVec 8)) (hx : x.length = 32) (i : Int) (w : World) : Calls Tryd.prog 52 #[.agg (cb x).toArray, .int .i64 i] w fun e w' => e = .returned (.bool (bitI x i)) ∧ Below w.heap.size w w' := by
  by_cases hb : isB i = true
  · obtain ⟨h0, h1⟩ := (isB_iff i).1 hb
    obtain ⟨n, rfl⟩ : ∃ n : Nat, i = (n : Int) := ⟨i.toNat, by omega⟩
    obtain ⟨k, hk⟩ : ∃ k, k = n / 8 := ⟨_, rfl⟩
    have e1 : Int.tdiv (n : Int) 8 = (k : Int) := by rw [Int.tdiv_eq_ediv_of_nonneg (by omega)]; omega
    have e2 : IntKind.i64.wrap (k : Int) = (k : Int) := by simp [IntKind.wrap, IntKind.bits, IntKind.signed]; omega
    have k0 : (0 : Int) ≤ (k : Int) := by omega
    have k1 : (k : Int) < 32 := by omega
    obtain ⟨b, hbb⟩ : ∃ b, b = x.getD k 0 := ⟨_, rfl⟩
    have hc : (w.alloc (.cells (cb x).toArray 33)).cell? ⟨w.heap.size, k, none⟩ = some (.int .u8 (b.toNat : Int)) := by
      rw [(Blk.new w (cb x) 33).cell, cb_get x k (by omega), hbb]
    have hand := u8_and b (mask n)
    have hz : Hid (((((b.toNat &&& (mask n).toNat : Nat) : Int)) != 0) = bt x n) := by
      have h := mask_and b ⟨n % 8, by omega⟩
      have hm : mask n = 128#8 >>> (n % 8) := rfl
      simp only [← hm] at h
      have e : bt x n = b.getMsbD (n % 8) := by rw [hbb, hk]; rfl
      show _ = _
      rw [e, ← BitVec.toNat_and]
      cases hg : b.getMsbD (n % 8)
      · rw [hg] at h
        have h2 := of_decide_eq_true (h.trans rfl)
        rw [h2]; rfl
      · rw [hg] at h
        have h2 := of_decide_eq_false (h.trans rfl)
        rw [bne_iff_ne]
        intro h3
        exact h2 (BitVec.eq_of_toNat_eq (by simpa using h3))
    clear h0 h1 hk hbb
    have HB : Hid (isB (n : Int) = true) := hb
    clear hb
    go_enter Tryd.func52, Tryd.ntmps52
    go_wp2_with fail
    go_region_held3 (fun wx => wx.cell? ⟨w.heap.size, k, none⟩ = some (.int .u8 (b.toNat : Int))) (go_keep)
      (first | (go_at_call 75; refine (isBit_any _ _).mono ?_; rintro e w' ⟨rfl, rfl⟩; rw [HB.out]) | (go_at_call 76; refine (bitOf_any _ _).mono ?_; rintro e w' ⟨rfl, rfl⟩))
    go_wp2
    go_ret
    refine ⟨?_, ?_⟩
    · rw [bitI, HB.out, Bool.true_and, Int.toNat_natCast, ← hz.out]; rfl
    · exact (below_alloc w _).drew
  · have hb' : isB i = false := by simpa using hb
    clear hb
    have HB : Hid (isB i = false) := hb'
    clear hb'
    go_enter Tryd.func52, Tryd.ntmps52
    go_wp2_with fail
    refine wp_region_any (by kernel_rfl) ?_
    change wpAny _ _ _ _ _ _ _ (World.drew _)
    refine wpAny_take (i := 0) (v := .int .i64 i) rfl (by kernel_rfl) (by kernel_rfl) (by kernel_rfl) (fun _ _ _ h => h) (Or.inl ⟨by rfl, fun wx => by simp [go_sem]⟩) ?_
    simp only [Act.put, List.getElem_toArray, List.getElem_cons_zero, List.setIfInBounds_toArray, List.set_cons_zero, List.set_cons_succ]
    refine wpAny_enter 1 (by kernel_rfl) rfl (by rfl) (f := 75) (args := #[.int .i64 i]) (by simp [go_sem]) (isBit_any _ _) ?_
    rintro e w1 ⟨rfl, rfl⟩
    refine ⟨_, rfl, ?_⟩
    rw [HB.out]
    simp only [Act.put, List.getElem_toArray, List.getElem_cons_succ, List.getElem_cons_zero, List.setIfInBounds_toArray, List.set_cons_zero, List.set_cons_succ]
    refine wpAny_take (i := 2) (v := .bool false) rfl (by kernel_rfl) (by kernel_rfl) (by kernel_rfl) (fun _ _ _ h => h) (Or.inl ⟨by rfl, fun wx => by simp [go_sem]⟩) ?_
    simp only [Act.put, List.getElem_toArray, List.getElem_cons_succ, List.getElem_cons_zero, List.setIfInBounds_toArray, List.set_cons_zero, List.set_cons_succ]
    refine wpAny_take (i := 3) (v := undef) rfl (by kernel_rfl) (by kernel_rfl) (by kernel_rfl) (fun _ _ _ h => h) (Or.inr ⟨by rfl, rfl⟩) ?_
    simp only [Act.put, List.getElem_toArray, List.getElem_cons_succ, List.getElem_cons_zero, List.setIfInBounds_toArray, List.set_cons_zero, List.set_cons_succ]
    refine wpAny_take (i := 4) (v := undef) rfl (by kernel_rfl) (by kernel_rfl) (by kernel_rfl) (fun _ _ _ h => h) (Or.inr ⟨by rfl, rfl⟩) ?_
    simp only [Act.put, List.getElem_toArray, List.getElem_cons_succ, List.getElem_cons_zero, List.setIfInBounds_toArray, List.set_cons_zero, List.set_cons_succ]
    refine wpAny_take (i := 5) (v := undef) rfl (by kernel_rfl) (by kernel_rfl) (by kernel_rfl) (fun _ _ _ h => h) (Or.inr ⟨by rfl, rfl⟩) ?_
    simp only [Act.put, List.getElem_toArray, List.getElem_cons_succ, List.getElem_cons_zero, List.setIfInBounds_toArray, List.set_cons_zero, List.set_cons_succ]
    refine wpAny_take (i := 6) (v := undef) rfl (by kernel_rfl) (by kernel_rfl) (by kernel_rfl) (fun _ _ _ h => h) (Or.inr ⟨by rfl, rfl⟩) ?_
    simp only [Act.put, List.getElem_toArray, List.getElem_cons_succ, List.getElem_cons_zero, List.setIfInBounds_toArray, List.set_cons_zero, List.set_cons_succ]
    refine wpAny_take (i := 7) (v := undef) rfl (by kernel_rfl) (by kernel_rfl) (by kernel_rfl) (fun _ _ _ h => h) (Or.inr ⟨by rfl, rfl⟩) ?_
    simp only [Act.put, List.getElem_toArray, List.getElem_cons_succ, List.getElem_cons_zero, List.setIfInBounds_toArray, List.set_cons_zero, List.set_cons_succ]
    refine wpAny_take (i := 8) (v := undef) rfl (by kernel_rfl) (by kernel_rfl) (by kernel_rfl) (fun _ _ _ h => h) (Or.inr ⟨by rfl, rfl⟩) ?_
    simp only [Act.put, List.getElem_toArray, List.getElem_cons_succ, List.getElem_cons_zero, List.setIfInBounds_toArray, List.set_cons_zero, List.set_cons_succ]
    refine wpAny_take (i := 9) (v := undef) rfl (by kernel_rfl) (by kernel_rfl) (by kernel_rfl) (fun _ _ _ h => h) (Or.inr ⟨by rfl, rfl⟩) ?_
    simp only [Act.put, List.getElem_toArray, List.getElem_cons_succ, List.getElem_cons_zero, List.setIfInBounds_toArray, List.set_cons_zero, List.set_cons_succ]
    refine wpAny_take (i := 10) (v := undef) rfl (by kernel_rfl) (by kernel_rfl) (by kernel_rfl) (fun _ _ _ h => h) (Or.inr ⟨by rfl, rfl⟩) ?_
    simp only [Act.put, List.getElem_toArray, List.getElem_cons_succ, List.getElem_cons_zero, List.setIfInBounds_toArray, List.set_cons_zero, List.set_cons_succ]
    refine wpAny_take (i := 11) (v := .bool false) rfl (by kernel_rfl) (by kernel_rfl) (by kernel_rfl) (fun _ _ _ h => h) (Or.inl ⟨by rfl, fun wx => by simp [go_sem]⟩) ?_
    simp only [Act.put, List.getElem_toArray, List.getElem_cons_succ, List.getElem_cons_zero, List.setIfInBounds_toArray, List.set_cons_zero, List.set_cons_succ]
    refine wpAny_take (i := 12) (v := .bool false) rfl (by kernel_rfl) (by kernel_rfl) (by kernel_rfl) (fun _ _ _ h => h) (Or.inl ⟨by rfl, fun wx => by simp [go_sem]⟩) ?_
    simp only [Act.put, List.getElem_toArray, List.getElem_cons_succ, List.getElem_cons_zero, List.setIfInBounds_toArray, List.set_cons_zero, List.set_cons_succ]
    refine wpAny_done (by kernel_rfl) ?_ _
    go_wp2
    go_ret
    exact ⟨by rw [bitI, HB.out]; rfl, (below_alloc w _).drew⟩
theorem binOr (f : Operand → Value) (o : Oper) (x y : Operand) (ho : o.op = .binOp .or 5 x y 5) (a b : BitVec 8) (hx : f x = .int .u8 (a.toNat : Int)) (hy : f y = .int .u8 (b.toNat : Int)) (w : World) : (execOp f o).run Tryd.prog w = .ok (.value (.int .u8 ((a ||| b).toNat : Int))) w := by
  unfold execOp
  rw [ho]
  simp only [hx, hy]
  have h := u8_or a b
  simp [go_sem, h]
theorem binAndNot (f : Operand → Value) (o : Oper) (x y : Operand) (ho : o.op = .binOp .andNot 5 x y 5) (a b : BitVec 8) (hx : f x = .int .u8 (a.toNat : Int)) (hy : f y = .int .u8 (b.toNat : Int)) (w : World) : (execOp f o).run Tryd.prog w = .ok (.value (.int .u8 ((a &&& ~~~b).toNat : Int))) w := by
  unfold execOp
  rw [ho]
  simp only [hx, hy]
  have h := u8_andNot a b
  simp [go_sem, h]
theorem Only.toBelow {g B : Nat} {w w' : World} (h : Only g w w') (hg : B ≤ g) (hB : B ≤ w.heap.size) : Below B w w' := h.below hg hB
end Go.Proofs.YtpeifpoeeopecaaDoor
/- The walks of the reference's Bit and Set. -/
namespace Go.Proofs.YtpeifpoeeopecaaDoor
open Go.RowKit
set_option maxRecDepth 100000
theorem wrap_small (k : Int) (h0 : 0 ≤ k) (h1 : k < 1000000) : IntKind.i64.wrap k = k := by simp [IntKind.wrap, IntKind.bits, IntKind.signed]; omega
theorem notB {i : Int} (h : isB i = false) : (i < 0) ∨ (0 ≤ i ∧ 255 < i) := by
  have h2 : ¬ (0 ≤ i ∧ i < 256) := fun hh => by rw [(isB_iff i).2 hh] at h; cases h
  omega
set_option maxHeartbeats 1000000 in
theorem sBit_any (x : List (BitVec 8)) (hx : x.length = 32) (i : Int) (w : World) : Calls Tryd.prog 41 #[.agg (cb x).toArray, .int .i64 i] w fun e w' => e = .returned (.bool (bitI x i)) ∧ Below w.heap.size w w' := by
  by_cases hb : isB i = true
  · obtain ⟨h0, h1⟩ := (isB_iff i).1 hb
    obtain ⟨n, rfl⟩ : ∃ n : Nat, i = (n : Int) := ⟨i.toNat, by omega⟩
    obtain ⟨k, hk⟩ : ∃ k, k = n / 8 := ⟨_, rfl⟩
    obtain ⟨m, hm⟩ : ∃ m, m = n % 8 := ⟨_, rfl⟩
    have e1 : Int.tdiv (n : Int) 8 = (k : Int) := by rw [Int.tdiv_eq_ediv_of_nonneg (by omega)]; omega
    have e2 : IntKind.i64.wrap (k : Int) = (k : Int) := wrap_small _ (by omega) (by omega)
    have e3 : Int.tmod (n : Int) 8 = (m : Int) := by rw [Int.tmod_eq_emod_of_nonneg (by omega)]; omega
    have e4 : IntKind.i64.wrap (m : Int) = (m : Int) := wrap_small _ (by omega) (by omega)
    have g1 : ¬ ((n : Int) < 0) := by omega
    have g2 : ¬ ((255 : Int) < (n : Int)) := by omega
    have HK32 : Hid (k < 32) := by show _ < _; omega
    have HKX : Hid (k < x.length) := by show _ < _; omega
    have HM : Hid (m < 8) := by show _ < _; omega
    obtain ⟨b, hbb⟩ : ∃ b, b = x.getD k 0 := ⟨_, rfl⟩
    have HR : Hid (bitI x (n : Int) = decide (b.toNat / 2 ^ (7 - m) % 2 = 1)) := by
      show _ = _
      rw [bitI, hb, Bool.true_and, Int.toNat_natCast, bt, ← hk, ← hbb, ← hm]
      exact (mask_div b ⟨m, HM.out⟩).symm
    have HBB : Hid (b = x.getD k 0) := hbb
    have HBL : Hid (b.toNat < 256) := b.isLt
    clear h0 h1 hb hk hm hbb hx
    obtain ⟨o, HO⟩ : ∃ o, Hid (o = bitI x (n : Int)) := ⟨_, rfl⟩
    rw [← HO.out]
    go_enter Tryd.func41, Tryd.ntmps41
    go_wp2_with (first
        | (with_reducible refine wpSeq_boxD (.tmp 0) x ?_ ?_ ?_ ?_
           · rfl
           · rfl
           · rfl
           intro g0 w1 n1
           have hcell : w1.cell? ⟨g0, k, none⟩ = some (.int .u8 (b.toNat : Int)) := by rw [n1.blk.cell, cb_get x k HKX.out, HBB.out]
           have HBW : Hid (Below w.heap.size w w1) := n1.below
           clear n1)
        | (with_reducible refine wpSeq_val (.pointer (some ⟨g0, k, none⟩)) w1 ?_ ?_ ?_
           · rfl
           · exact indexDig k g0 HK32.out _ _ _ _ rfl rfl rfl w1))
    go_loopw [5, 6] (fun c kk wr => ∃ q C : Nat, m ≤ q ∧ q ≤ 7 ∧ kk = .int .i64 (q : Int) ∧ c = .int .i64 (C : Int) ∧ C = b.toNat / 2 ^ (7 - q) ∧ wr = w1) (fun _ kk _ => (intOf kk).toNat)
    case atStart => exact ⟨7, b.toNat, by have := HM.out; omega, by omega, rfl, rfl, by simp, rfl⟩
    case round =>
      obtain ⟨q, C, hmq, hq7, rfl, rfl, hC, rfl⟩ := hrel
      have HC : Hid (C = b.toNat / 2 ^ (7 - q)) := hC
      have HC2 : Hid (C < 256) := by show _ < _; rw [hC]; exact Nat.lt_of_le_of_lt (Nat.div_le_self _ _) HBL.out
      have HQ : Hid (m ≤ q ∧ q ≤ 7) := ⟨hmq, hq7⟩
      by_cases hlt : m < q
      · have i1 : (m : Int) < (q : Int) := by omega
        obtain ⟨C2, hC2⟩ : ∃ C2, C2 = C / 2 := ⟨_, rfl⟩
        obtain ⟨q2, hq2⟩ : ∃ q2, q = q2 + 1 := ⟨q - 1, by omega⟩
        have f1 : Int.tdiv (C : Int) 2 = (C2 : Int) := by rw [Int.tdiv_eq_ediv_of_nonneg (by omega)]; omega
        have f2 : IntKind.i64.wrap (C2 : Int) = (C2 : Int) := wrap_small _ (by omega) (by have := HC2.out; omega)
        have f3 : (q : Int) - 1 = (q2 : Int) := by omega
        have f4 : IntKind.i64.wrap (q2 : Int) = (q2 : Int) := wrap_small _ (by omega) (by omega)
        have HN : Hid (C2 = b.toNat / 2 ^ (7 - q2)) := by
          show _ = _
          rw [hC2, hC, Nat.div_div_eq_div_mul, show 7 - q2 = (7 - q) + 1 by omega, Nat.pow_succ]
        have HQ2 : Hid (q = q2 + 1) := hq2
        clear hmq hq7 hC hlt hC2 hq2 HC
        go_wp2
        go_roundw
        case rel => exact ⟨q2, C2, by have := HQ.out; have := HQ2.out; have : (m : Int) < (q : Int) := i1; omega, by have := HQ.out; have := HQ2.out; omega, rfl, rfl, HN.out, by first | trivial | rfl⟩
        case measure => have := HQ2.out; simp [intOf]; omega
      · have hqm : q = m := by omega
        subst hqm
        have i1 : ¬ ((q : Int) < (q : Int)) := by omega
        obtain ⟨r, hr⟩ : ∃ r, r = C % 2 := ⟨_, rfl⟩
        have f1 : Int.tmod (C : Int) 2 = (r : Int) := by rw [Int.tmod_eq_emod_of_nonneg (by omega)]; omega
        have f2 : IntKind.i64.wrap (r : Int) = (r : Int) := wrap_small _ (by omega) (by omega)
        have HN : Hid (o = ((r : Int) == 1)) := by
          show _ = _
          rw [HO.out, HR.out, hr, hC, Bool.eq_iff_iff, decide_eq_true_iff, beq_iff_eq]; omega
        clear hmq hq7 hC hlt hr HC HR HO
        go_wp2
        go_ret
        exact ⟨by rw [HN.out]; rfl, HBW.out⟩
  · have hb' : isB i = false := by simpa using hb
    have HR : Hid (bitI x i = false) := by show _ = _; rw [bitI, hb']; rfl
    have hc := notB hb'
    clear hb hb' hx
    rw [HR.out]
    rcases hc with h1 | ⟨h0, h1⟩
    all_goals
      go_enter Tryd.func41, Tryd.ntmps41
      go_wp2
      go_ret
      exact ⟨rfl, below_alloc w _⟩
end Go.Proofs.YtpeifpoeeopecaaDoor
/- path.Bits, and the function that it hands out: it yields all bits, in order. -/
namespace Go.Proofs.YtpeifpoeeopecaaDoor
open Go.RowKit Go.Shelf
set_option maxRecDepth 100000
attribute [local go_sem] Oper.semAt_some
theorem pBits_any (x : List (BitVec 8)) (w : World) : Calls Tryd.prog 86 #[.agg (cb x).toArray] w fun e w' => ∃ g, e = .returned (.func (.func 89) #[] #[.pointer (some ⟨g, 0, none⟩)]) ∧ NewB x w g w' := by
  go_enter Tryd.func86, Tryd.ntmps86
  go_wp2
  go_ret
  exact ⟨_, rfl, NewB.of x w⟩
theorem noGoto_normal {Q : Exit → Act → World → Prop} {a : Act} {w : World} (h : Q .normal a w) : Exit.noGoto Q .normal a w := h
theorem idx_dig (x : List (BitVec 8)) (hx : x.length = 32) (k : Nat) (hk : k < 32) (w : World) : (Instr.index 33 (.agg (cb x).toArray) (.int .i64 (k : Int))).run Tryd.prog w = .ok (.int .u8 ((x.getD k 0).toNat : Int)) w := by
  have hs : ∀ w, (sizeOf 5).run Tryd.prog w = .ok 1 w := fun w => by kernel_rfl
  have k0 : (0 : Int) ≤ (k : Int) ∧ (k : Int) < ((32 : Nat) : Int) := by omega
  unfold Instr.index
  simp only [asIntOf, Sem.run_bind, Sem.run_pure, Result.andThen_ok, run_underlying Tryd.underlying33]
  rw [if_pos k0]
  simp only [Sem.run_bind, hs, Result.andThen_ok, Int.toNat_natCast, Nat.mul_one]
  exact eq_part x hx k hk w
abbrev encsB (p : Nat × Bool) : Array Value := #[.int .i64 (p.1 : Int), .bool p.2]
set_option maxRecDepth 100000 in
set_option maxHeartbeats 2000000 in
theorem bits_stops (n : Nat) (hn : 1 ≤ n) (g : Nat) (x : List (BitVec 8)) (hx : x.length = 32) (w : World) (hb : Blk w g (cb x) 33) :
    SeqStopsK Fence.wide n Tryd.prog 89 #[.pointer (some ⟨g, 0, none⟩)] encsB (fun _ _ => True) (fun xs => xs = pathBits x 256) (fun pre => ∃ k, k ≤ 256 ∧ pre = pathBits x k) 256 w := fun l J Jx W hW hJ hJx hY h0 => by
  refine callsIn_of_wp Tryd.func89 rfl trivial ?_ rfl
  simp only [Tryd.ntmps89, List.size_toArray, List.length_cons, List.length_nil, Nat.reduceAdd, Nat.reduceSub, Array.replicate_succ, Array.replicate_zero, List.push_toArray, List.append_toArray, List.nil_append, List.cons_append]
  refine (wpIn_wide (n := n)).2 (wp_scope_straight ?_)
  have HW : Hid (Blk W g (cb x) 33) := hb.below hW hb.lt
  have HL : Hid (x.length = 32) := hx
  have HJ : Hid (AbidesFrom W.heap.size J) := hJ
  have HJX : Hid (AbidesFrom W.heap.size Jx) := hJx
  clear hb hx hJ hJx hW
  refine wp_seq (wp_label ?_)
  show Code.wp _ _ _ _ _
  go_wp2_with (first
    | (with_reducible refine wpSeq_loadD (.tmp 1) g x ?_ ?_ ?_ ?_ ?_ ?_
       · exact HL.out
       · exact HW.out
       · rfl
       · rfl
       · rfl))
  go_loopw [7] (fun p wr => ∃ k : Nat, k ≤ 32 ∧ p = .int .i64 (k : Int) ∧ J (pathBits x (8 * k)) wr) (fun p _ => 32 - (intOf p).toNat)
  case atStart => exact ⟨0, by omega, rfl, h0⟩
  case round =>
    obtain ⟨k, hk, rfl, hJk⟩ := hrel
    have HJK : Hid (J (pathBits x (8 * k)) wr) := hJk
    clear hJk
    by_cases hlt : k < 32
    · have HKX : Hid (k < x.length) := by show _ < _; rw [HL.out]; exact hlt
      obtain ⟨b, hbb⟩ : ∃ b, b = x.getD k 0 := ⟨_, rfl⟩
      have hix : ∀ wz, (Instr.index 33 (.agg (cb x).toArray) (.int .i64 (k : Int))).run Tryd.prog wz = .ok (.int .u8 (b.toNat : Int)) wz := fun wz => by rw [hbb]; exact idx_dig x HL.out k hlt wz
      have HBB : Hid (b = x.getD k 0) := hbb
      clear hbb
      have k0 : (0 : Int) ≤ (k : Int) := by omega
      have k1 : (k : Int) < 32 := by omega
      go_wp2
      go_loopw [11] (fun p wr => ∃ j : Nat, j ≤ 8 ∧ p = .int .i64 (j : Int) ∧ J (pathBits x (8 * k + j)) wr) (fun p _ => 8 - (intOf p).toNat)
      case atStart => exact ⟨0, by omega, rfl, HJK.out⟩
      case round =>
        rename_i wr2 _ _ _ _ _ _ _ _ _ _ _ _ _ _ _ _ _
        obtain ⟨j, hj, rfl, hJj⟩ := hrel
        clear HJK
        by_cases hlt2 : j < 8
        · obtain ⟨q, hq⟩ : ∃ q, q = 8 * k + j := ⟨_, rfl⟩
          obtain ⟨k8, hk8⟩ : ∃ k8, k8 = k * 8 := ⟨_, rfl⟩
          obtain ⟨o, ho⟩ : ∃ o, o = bt x q := ⟨_, rfl⟩
          have f1 : (k : Int) * 8 = (k8 : Int) := by omega
          have f2 : IntKind.i64.wrap (k8 : Int) = (k8 : Int) := wrap_small _ (by omega) (by omega)
          have f3 : (k8 : Int) + (j : Int) = (q : Int) := by omega
          have f4 : IntKind.i64.wrap (q : Int) = (q : Int) := wrap_small _ (by omega) (by omega)
          have j1 : (j : Int) < 8 := by omega
          have f5 : IntKind.i64.wrap ((j : Int) + 1) = (j : Int) + 1 := wrap_small _ (by omega) (by omega)
          have hand := u8_and b (mask j)
          have hz : ((((b.toNat &&& (mask j).toNat : Nat) : Int)) != 0) = o := by
            have h := mask_and b ⟨j, hlt2⟩
            have hm : mask j = 128#8 >>> j := by rw [mask, Nat.mod_eq_of_lt hlt2]
            simp only [← hm] at h
            have e : o = b.getMsbD j := by rw [ho, HBB.out, bt, hq, show (8 * k + j) / 8 = k by omega, show (8 * k + j) % 8 = j by omega]
            rw [e, ← BitVec.toNat_and]
            cases hg : b.getMsbD j
            · rw [hg] at h
              have h2 := of_decide_eq_true (h.trans rfl)
              rw [h2]; rfl
            · rw [hg] at h
              have h2 := of_decide_eq_false (h.trans rfl)
              rw [bne_iff_ne]
              intro h3
              exact h2 (BitVec.eq_of_toNat_eq (by simpa using h3))
          have HNX : Hid (pathBits x (8 * k + (j + 1)) = pathBits x (8 * k + j) ++ [(q, o)]) := by
            show _ = _
            rw [ho, hq, ← Nat.add_assoc, pathBits_succ]
          obtain ⟨fn, tmps, assign, body, hy, hR⟩ := hY (pathBits x (8 * k + j)) (q, o) _ hJj (by rw [pathBits_len]; omega)
          dsimp only [encsB] at hy
          clear hq hk8 ho hlt2 hj
          refine (wpIn_wide (n := n)).1 ?_
          gi_wp2_with (refine ⟨trivial, ?_⟩; gi_at_call 76; refine (callsIn_wide.2 (bitOf_any _ _)).mono ?_; rintro e wz ⟨rfl, hz2⟩; rw [hz2]; clear hz2 wz)
          refine hR.mono ?_
          clear hR hy hY hJj
          rintro e W3 (⟨rfl, hJ3, _⟩ | ⟨rfl, hJx3⟩)
          · rw [← HNX.out] at hJ3
            gi_wp2
            go_roundw
            case rel => exact ⟨j + 1, by omega, by simp, hJ3⟩
            case measure => simp [intOf]; omega
          · rw [← HNX.out] at hJx3
            gi_wp2
            refine noGoto_normal ?_
            go_end0
            exact ⟨⟨_, rfl⟩, .inr ⟨_, ⟨8 * k + (j + 1), by omega, rfl⟩, hJx3⟩⟩
        · have hj8 : j = 8 := by omega
          subst hj8
          have HJ8 : Hid (J (pathBits x (8 * (k + 1))) wr) := by rw [Nat.mul_add]; exact hJj
          have f5 : IntKind.i64.wrap ((k : Int) + 1) = (k : Int) + 1 := wrap_small _ (by omega) (by omega)
          clear hJj hj hlt2
          go_wp2
          go_roundw
          case rel => exact ⟨k + 1, by omega, by simp, HJ8.out⟩
          case measure => simp [intOf]; omega
    · have hk32 : k = 32 := by omega
      subst hk32
      go_wp2
      refine noGoto_normal ?_
      go_end0
      exact ⟨⟨_, rfl⟩, .inl ⟨_, rfl, HJK.out⟩⟩
end Go.Proofs.YtpeifpoeeopecaaDoor
/- Laws for loops over a function: a digest and a number in memory, inside a round; blocks that abide. -/
namespace Go.Proofs.YtpeifpoeeopecaaDoor
open Go.RowKit Go.Shelf
set_option maxRecDepth 100000
attribute [local go_sem] Oper.semAt_some
theorem wpSeqIn_val {F : Fence} {n : Nat} {P : Program} {ops : Array Oper} {Q : Exit → Act → World → Prop} {rest : List Oper} {o : Oper} {a : Act} {w : World} (v : Value) (w' : World) (hw : Region.wanted o (yielded ops a.tmps) = true) (hd : ∀ c, o.op ≠ .defer c) (hab : o.about P w a.eval = none)
    (he : (execOp a.eval o).run P w = .ok (.value v) w') (h : wpListIn F n P ops Q rest (a.put o.dst v) w') : wpListIn F n P ops Q (o :: rest) a w := by
  unfold wpListIn
  simp only [hw, if_true]
  unfold Oper.wpIn
  refine ⟨fun f hf => (by rw [hab] at hf; cases hf), ?_⟩
  rw [Oper.semAt_eq _ _ _ hd, he]
  exact h
theorem wpSeqIn_loadD {F : Fence} {n : Nat} {ops : Array Oper} {Q : Exit → Act → World → Prop} {rest : List Oper} {o : Oper} {a : Act} {w : World} (x : Operand) (g : Nat) (l : List (BitVec 8)) (hl : l.length = 32) (hb : Blk w g (cb l) 33) (ho : o.op = .load 33 x) (hx : a.eval x = .pointer (some ⟨g, 0, none⟩)) (hw : Region.wanted o (yielded ops a.tmps) = true)
    (h : wpListIn F n Tryd.prog ops Q rest (a.put o.dst (.agg (cb l).toArray)) w) : wpListIn F n Tryd.prog ops Q (o :: rest) a w :=
  wpSeqIn_val _ _ hw (by rw [ho]; intro c hc; cases hc) (by simp [Oper.about, ho]) (loadDigest x g l hl hb ho hx) h
theorem wpSeqIn_storeD {F : Fence} {n : Nat} {ops : Array Oper} {Q : Exit → Act → World → Prop} {rest : List Oper} {o : Oper} {a : Act} {w : World} (x y : Operand) (g : Nat) (l m : List (BitVec 8)) (hl : l.length = 32) (hn : m.length = 32) (hb : Blk w g (cb l) 33) (ho : o.op = .store 33 x y) (hx : a.eval x = .pointer (some ⟨g, 0, none⟩)) (hy : a.eval y = .agg (cb m).toArray) (hw : Region.wanted o (yielded ops a.tmps) = true)
    (h : ∀ w', SetB m w g w' → KeepsOthers w w' → wpListIn F n Tryd.prog ops Q rest (a.put o.dst undef) w') : wpListIn F n Tryd.prog ops Q (o :: rest) a w := by
  have he : (execOp a.eval o).run Tryd.prog w = .ok .skip (w.setCells g 0 (cb m)) := by
    unfold execOp
    simp only [ho, hx, hy, Sem.run_bind]
    rw [run_storeAt_mid w g 0 33 _ (hb.there 0 _ (by rw [List.size_toArray, cb_len, cb_len]; omega)) (by rw [List.size_toArray, cb_len, hn]; exact info_digest) (all_oneCell_toArray (cb_one m))]
    rfl
  have hk : ∀ (vs : List Value) (i : Nat) (w : World), KeepsOthers w (w.setCells g i vs) := by
    intro vs
    induction vs with
    | nil => intro i w; exact KeepsOthers.refl _
    | cons v r ih => intro i w; rw [World.setCells]; exact (KeepsOthers.setCell w _ v).trans (ih _ _)
  unfold wpListIn
  simp only [hw, if_true]
  unfold Oper.wpIn
  refine ⟨fun f hf => (by simp [Oper.about, ho] at hf), ?_⟩
  rw [Oper.semAt_eq _ _ _ (by rw [ho]; intro c hc; cases hc), he]
  exact h _ (SetB.of l m hl hn hb) (hk _ _ _)
/-- a new block of one cell -/
structure NewC (v : Value) (t : TypeId) (w : World) (g : Nat) (w' : World) : Prop where
  ge : w.heap.size ≤ g
  blk : Blk w' g [v] t
  below : Below w.heap.size w w'
theorem NewC.of (v : Value) (t : TypeId) (w : World) : NewC v t w w.heap.size (w.alloc (.cells #[v] t)) := ⟨Nat.le_refl _, Blk.new w [v] t, below_alloc w _⟩
theorem wpSeq_allocI {ops : Array Oper} {Q : Exit → Act → World → Prop} {rest : List Oper} {o : Oper} {a : Act} {w : World} (ho : o.op = .alloc 3) (hw : Region.wanted o (yielded ops a.tmps) = true)
    (h : ∀ g w', NewC (.int .i64 0) 3 w g w' → wpList Tryd.prog ops Q rest (a.put o.dst (.pointer (some ⟨g, 0, none⟩))) w') : wpList Tryd.prog ops Q (o :: rest) a w :=
  wpSeq_val _ _ hw (by unfold execOp; rw [ho]; kernel_rfl) (h _ _ (NewC.of (.int .i64 0) 3 w))
theorem wpSeq_allocT {ops : Array Oper} {Q : Exit → Act → World → Prop} {rest : List Oper} {o : Oper} {a : Act} {w : World} (ho : o.op = .alloc 4) (hw : Region.wanted o (yielded ops a.tmps) = true)
    (h : ∀ g w', NewC (.bool false) 4 w g w' → wpList Tryd.prog ops Q rest (a.put o.dst (.pointer (some ⟨g, 0, none⟩))) w') : wpList Tryd.prog ops Q (o :: rest) a w :=
  wpSeq_val _ _ hw (by unfold execOp; rw [ho]; kernel_rfl) (h _ _ (NewC.of (.bool false) 4 w))
theorem wpSeq_boxI {ops : Array Oper} {Q : Exit → Act → World → Prop} {rest : List Oper} {o : Oper} {a : Act} {w : World} (x : Operand) (i : Int) (ho : o.op = .box 3 x) (hx : a.eval x = .int .i64 i) (hw : Region.wanted o (yielded ops a.tmps) = true)
    (h : ∀ g w', NewC (.int .i64 i) 3 w g w' → wpList Tryd.prog ops Q rest (a.put o.dst (.pointer (some ⟨g, 0, none⟩))) w') : wpList Tryd.prog ops Q (o :: rest) a w :=
  wpSeq_val _ _ hw (by unfold execOp; rw [ho]; simp only [hx]; rfl) (h _ _ (NewC.of (.int .i64 i) 3 w))
theorem blk_own {β : Type} (g : Nat) (cs : β → List Value) (t : TypeId) : Own (fun (s : β) W => Blk W g (cs s) t) := fun s X Y row hs hg hr => by
  have hs' : X.heap[g]? = some (.cells (cs s).toArray t (0, 0)) := hs
  show Y.heap[g]? = some (.cells (cs s).toArray t (0, 0))
  rw [hg.block g (Array.getElem?_eq_some_iff.1 hs').1 (fun e => ?_)]
  · exact hs'
  · obtain ⟨o, ho, hc⟩ := hr g e.symm
    rw [hs'] at ho; cases ho; cases hc
theorem Blk.put {W : World} {g : Nat} {cs : List Value} {t : TypeId} (h : Blk W g cs t) {D : Nat} {o o' : Obj} (hD : W.heap[D]? = some o) (ho : o.isCells = false) : Blk (W.putObj D o') g cs t :=
  blk_own (β := Unit) g (fun _ => cs) t () W _ (some D) h (grownBy_putObj' W D o') (fun r e => by cases e; exact ⟨o, hD, ho⟩)
theorem keepsOthers_of_below {W W' : World} (h : Below W.heap.size W W') : KeepsOthers W W' :=
  ⟨h.size, fun k _ hk _ => (h.block k (Array.getElem?_eq_some_iff.1 hk).1).trans hk⟩
end Go.Proofs.YtpeifpoeeopecaaDoor
/- The walks of Common. -/
namespace Go.Proofs.YtpeifpoeeopecaaDoor
open Go.RowKit Go.Shelf
set_option maxRecDepth 100000
attribute [local go_sem] Oper.semAt_some
theorem bits_split {x : List (BitVec 8)} {k : Nat} {pre : List (Nat × Bool)} {p : Nat × Bool} (h : pathBits x k = pre ++ [p]) : ∃ j, k = j + 1 ∧ pre = pathBits x j ∧ p = (j, bt x j) := by
  cases k with
  | zero => simp [pathBits] at h
  | succ j =>
    rw [pathBits_succ] at h
    obtain ⟨h1, h2⟩ := List.append_inj' h rfl
    exact ⟨j, rfl, h1.symm, by simpa using h2.symm⟩
theorem mem_bits {x : List (BitVec 8)} {k : Nat} {j : Nat} (h : j < k) : (j, bt x j) ∈ pathBits x k := by
  unfold pathBits
  exact List.mem_map.2 ⟨j, List.mem_range.2 h, rfl⟩
/-- what Common has seen: bits that y has too -/
def CmI (y : List (BitVec 8)) (g1 g2 : Nat) (pre : List (Nat × Bool)) (W : World) : Prop := Blk W g1 (cb y) 33 ∧ Blk W g2 [.int .i64 0] 3 ∧ ∀ p ∈ pre, p.2 = bitI y (p.1 : Int)
/-- the last bit that Common has seen is the first that y has not -/
def CmX (y : List (BitVec 8)) (g2 : Nat) (c : Code) (pre : List (Nat × Bool)) (W : World) : Prop :=
  ∃ pr p, c = .ret ∧ pre = pr ++ [p] ∧ (∀ q ∈ pr, q.2 = bitI y (q.1 : Int)) ∧ p.2 ≠ bitI y (p.1 : Int) ∧ Blk W g2 [.int .i64 (p.1 : Int)] 3
theorem CmI.own (y : List (BitVec 8)) (g1 g2 : Nat) : Own (CmI y g1 g2) := fun _ A B row hs hg hr =>
  ⟨blk_own (β := Unit) g1 (fun _ => cb y) _ () A B row hs.1 hg hr, blk_own (β := Unit) g2 (fun _ => [.int .i64 0]) _ () A B row hs.2.1 hg hr, hs.2.2⟩
theorem CmX.own (y : List (BitVec 8)) (g2 : Nat) (c : Code) : Own (CmX y g2 c) := fun _ A B row hs hg hr => by
  obtain ⟨pr, p, h1, h2, h3, h4, h5⟩ := hs
  exact ⟨pr, p, h1, h2, h3, h4, blk_own (β := Unit) g2 (fun _ => [.int .i64 (p.1 : Int)]) _ () A B row h5 hg hr⟩
theorem CmI.all {x y : List (BitVec 8)} {g1 g2 : Nat} {W : World} (h : CmI y g1 g2 (pathBits x 256) W) : common x y = 256 :=
  common_is x y 256 (Nat.le_refl _) (fun j hj => by have := h.2.2 _ (mem_bits (x := x) hj); rwa [bitI_nat y j hj] at this) (by omega)
theorem CmX.at {x y : List (BitVec 8)} {g2 : Nat} {c : Code} {k : Nat} {W : World} (hk : k ≤ 256) (h : CmX y g2 c (pathBits x k) W) : c = .ret ∧ Blk W g2 [.int .i64 (common x y : Int)] 3 := by
  obtain ⟨pr, p, h1, h2, h3, h4, h5⟩ := h
  obtain ⟨j, rfl, rfl, rfl⟩ := bits_split h2
  rw [bitI_nat y j (by omega)] at h4
  refine ⟨h1, ?_⟩
  rw [common_is x y j (by omega) (fun i hi => by have := h3 _ (mem_bits (x := x) hi); rwa [bitI_nat y i (by omega)] at this) (fun _ => h4)]
  exact h5
set_option maxRecDepth 100000 in
set_option maxHeartbeats 2000000 in
theorem pCommon_any (x y : List (BitVec 8)) (hx : x.length = 32) (hy : y.length = 32) (w : World) : Calls Tryd.prog 77 #[.agg (cb x).toArray, .agg (cb y).toArray] w fun e w' => e = .returned (.int .i64 (common x y : Int)) ∧ Below w.heap.size w w' := by
  have HX : Hid (x.length = 32) := hx
  have HY : Hid (y.length = 32) := hy
  clear hx hy
  refine (callsIn_wide (n := 4)).1 ?_
  refine callsIn_of_wp_marks Tryd.func77 rfl trivial ?_ rfl
  simp only [Tryd.ntmps77, List.size_toArray, List.length_cons, List.length_nil, Nat.reduceAdd, Nat.reduceSub, Array.replicate_succ, Array.replicate_zero, List.push_toArray, List.append_toArray, List.nil_append, List.cons_append]
  refine wpIn_wide.2 ?_
  go_wp2_with (first
    | (with_reducible refine wpSeq_boxD (.tmp 0) x ?_ ?_ ?_ ?_
       · rfl
       · rfl
       · rfl
       intro g0 w1 n1)
    | (with_reducible refine wpSeq_boxD (.tmp 1) y ?_ ?_ ?_ ?_
       · rfl
       · rfl
       · rfl
       intro g1 w2 n2
       have H0 : Hid (Blk w2 g0 (cb x) 33) := n1.blk.below n2.below n1.blk.lt
       have H1 : Hid (Blk w2 g1 (cb y) 33) := n2.blk
       have hlt1 : g1 < w2.heap.size := n2.blk.lt
       have HG : Hid (w.heap.size ≤ w2.heap.size) := Nat.le_trans n1.below.size n2.below.size
       have HBW : Hid (Below w.heap.size w w2) := n1.below.trans (n2.below.mono n1.below.size)
       clear n1 n2)
    | (with_reducible refine wpSeq_allocI ?_ ?_ ?_
       · rfl
       · rfl
       intro g2 w3 n3
       replace H0 : Hid (Blk w3 g0 (cb x) 33) := H0.out.below n3.below H0.out.lt
       replace H1 : Hid (Blk w3 g1 (cb y) 33) := H1.out.below n3.below H1.out.lt
       have H2 : Hid (Blk w3 g2 [.int .i64 0] 3) := n3.blk
       have HG2 : Hid (w.heap.size ≤ g2 ∧ g1 ≠ g2 ∧ w.heap.size ≤ w3.heap.size) := ⟨Nat.le_trans HG.out n3.ge, fun e => by have := n3.ge; have := H1.out; have := hlt1; omega, Nat.le_trans HG.out n3.below.size⟩
       replace HBW : Hid (Below w.heap.size w w3) := HBW.out.trans (n3.below.mono HG.out)
       clear n3 HG hlt1)
    | (with_reducible refine wpSeq_loadD (.tmp 2) g0 x ?_ ?_ ?_ ?_ ?_ ?_
       · exact HX.out
       · exact H0.out
       · rfl
       · rfl
       · rfl)
    | (go_at_call 86; refine (pBits_any x _).mono ?_; rintro e w4 ⟨g3, rfl, n4⟩
       replace H1 : Hid (Blk w4 g1 (cb y) 33) := H1.out.below n4.below H1.out.lt
       replace H2 : Hid (Blk w4 g2 [.int .i64 0] 3) := H2.out.below n4.below H2.out.lt
       have H3 : Hid (Blk w4 g3 (cb x) 33) := n4.blk
       replace HBW : Hid (Below w.heap.size w w4) := HBW.out.trans (n4.below.mono HG2.out.2.2)
       replace HG2 : Hid (w.heap.size ≤ g2 ∧ g1 ≠ g2 ∧ w.heap.size ≤ w4.heap.size) := ⟨HG2.out.1, HG2.out.2.1, Nat.le_trans HG2.out.2.2 n4.below.size⟩
       clear n4 H0))
  refine (wpIn_wide (n := 4)).1 ?_
  refine wpIn_rangeFunc_ownF (F := Fence.wide) rfl (by omega) (gf := 89) (lb := #[.pointer (some ⟨g3, 0, none⟩)]) rfl trivial (enters_of Tryd.func89 (by kernel_rfl) rfl)
    (bits_stops 3 (by omega) g3 x HX.out w4 H3.out) (fun _ _ => trivial) (fun _ _ _ _ _ _ _ _ => trivial) (Below.refl _ _) (fun _ => rfl)
    (fun pre W => CmI y g1 g2 pre W ∧ Below w.heap.size w W) (fun c pre W => CmX y g2 c pre W ∧ Below w.heap.size w W)
    (OwnFrom.and (Own.from (CmI.own y g1 g2) _) (ownFrom_below (Nat.le_refl _) HG2.out.2.2))
    (fun c => OwnFrom.and (Own.from (CmX.own y g2 c) _) (ownFrom_below (Nat.le_refl _) HG2.out.2.2))
    ⟨⟨H1.out, H2.out, by simp⟩, HBW.out⟩
    (fun z => { tmps := #[.agg (cb x).toArray, .agg (cb y).toArray, .pointer (some ⟨g0, 0, none⟩), .pointer (some ⟨g1, 0, none⟩), .pointer (some ⟨g2, 0, none⟩), .int .i64 (z.1 : Int), .bool z.2, .agg (cb x).toArray, .func (.func 89) #[] #[.pointer (some ⟨g3, 0, none⟩)], .int .i64 (z.1 : Int), .bool z.2, undef, undef, undef, undef, undef, undef], defers := [] }) ?assign ?body ?done ?stop
  case assign =>
    intro l z W K hK
    gi_wp2
    exact hK
  case body =>
    rintro l pre ⟨zi, zb⟩ W ⟨hI, hB⟩ _
    have HI : Hid (CmI y g1 g2 pre W) := hI
    have HB : Hid (Below w.heap.size w W) := hB
    clear hI hB
    gi_wp2_with (first
      | (with_reducible refine wpSeqIn_loadD (.tmp 3) g1 y ?_ ?_ ?_ ?_ ?_ ?_
         · exact HY.out
         · exact HI.out.1
         · rfl
         · rfl
         · rfl)
      | (refine ⟨trivial, ?_⟩; gi_at_call 52; refine (CallsIn.inRound l (callsIn_wide.2 (pBit_any y HY.out _ _))).mono ?_; rintro e W2 ⟨rfl, hb2⟩
         have HK2 : Hid (KeepsOthers W W2) := keepsOthers_of_below hb2
         have HC : Hid (Blk W2 g2 [.int .i64 0] 3) := HI.out.2.1.below hb2 HI.out.2.1.lt
         have HY2 : Hid (Blk W2 g1 (cb y) 33) := HI.out.1.below hb2 HI.out.1.lt
         have HB2 : Hid (Below w.heap.size w W2) := HB.out.trans (hb2.mono HB.out.size)
         have hc2 : W2.cell? ⟨g2, 0, none⟩ = some (.int .i64 0) := HC.out.cell 0
         have hf2 : W2.frozen? ⟨g2, 0, none⟩ = false := HC.out.frozen 0
         clear hb2))
    · rename_i hne
      refine ⟨HK2.out.trans (KeepsOthers.setCell _ _ _), ⟨pre, (zi, zb), rfl, rfl, HI.out.2.2, ?_, HC.out.set 0 _⟩, HB2.out.setCell (p := ⟨g2, 0, none⟩) HG2.out.1 _⟩
      intro e
      simp only at e
      rw [e] at hne
      cases hh : bitI y (zi : Int) <;> rw [hh] at hne <;> cases hne
    · rename_i hne
      refine ⟨HK2.out, trivial, ⟨HY2.out, HC.out, fun p hp => ?_⟩, HB2.out⟩
      rcases List.mem_append.1 hp with hp | hp
      · exact HI.out.2.2 p hp
      · obtain rfl : p = (zi, zb) := by simpa using hp
        cases zb <;> cases hh : bitI y (zi : Int) <;> rw [hh] at hne <;> first | rfl | cases hne
  case done =>
    rintro D ys W hD rfl ⟨hI, hB⟩ hK
    have HD : Hid (w.heap.size ≤ D) := Nat.le_trans HG2.out.2.2 hD
    have HCM : Hid (common x y = 256) := hI.all
    have HC : Hid (Blk W g2 [.int .i64 0] 3) := hI.2.1
    have hc2 : W.cell? ⟨g2, 0, none⟩ = some (.int .i64 0) := HC.out.cell 0
    have hf2 : W.frozen? ⟨g2, 0, none⟩ = false := HC.out.frozen 0
    have HB : Hid (Below w.heap.size w W) := hB
    have HK : Hid (W.heap[D]? = some (.deferred (some []))) := hK
    clear hI hB hK hD
    gi_wp2
    go_wp2
    have hK' := (KeepsOthers.setCell W ⟨g2, 0, none⟩ (.int .i64 256)).same D _ HK.out rfl
    refine ⟨by simp, .inl ⟨_, _, rfl, run_takeDeferred hK', ?_⟩⟩
    have hc5 := ((HC.out.set 0 (.int .i64 256)).put hK' rfl (o' := .deferred none)).cell 0
    refine ⟨.int .i64 256, ?_, by rw [HCM.out]; rfl, (HB.out.setCell (p := ⟨g2, 0, none⟩) HG2.out.1 _).trans (belowK_b (w := w) (Nat.le_refl _) _ D _ _ HD.out hK' rfl rfl)⟩
    simp at hc5
    simp [results, Tryd.f77, go_sem, hc5]
  case stop =>
    rintro D c pre W hD ⟨k, hk, rfl⟩ ⟨hX, hB⟩ hK
    obtain ⟨rfl, hC⟩ := hX.at hk
    have HD : Hid (w.heap.size ≤ D) := Nat.le_trans HG2.out.2.2 hD
    have HC : Hid (Blk W g2 [.int .i64 (common x y : Int)] 3) := hC
    have HB : Hid (Below w.heap.size w W) := hB
    have HK : Hid (W.heap[D]? = some (.deferred (some []))) := hK
    clear hX hB hK hD hC
    gi_wp2
    refine ⟨by simp, .inl ⟨_, _, rfl, run_takeDeferred HK.out, ?_⟩⟩
    have hc5 := (HC.out.put HK.out rfl (o' := .deferred none)).cell 0
    refine ⟨.int .i64 (common x y : Int), ?_, rfl, HB.out.trans (belowK_b (w := w) (Nat.le_refl _) _ D _ _ HD.out HK.out rfl rfl)⟩
    simp at hc5
    simp [results, Tryd.f77, go_sem, hc5]
end Go.Proofs.YtpeifpoeeopecaaDoor
/- The walks of Cut. -/
namespace Go.Proofs.YtpeifpoeeopecaaDoor
open Go.RowKit Go.Shelf
set_option maxRecDepth 100000
attribute [local go_sem] Oper.semAt_some
def cutF (pre : List (Nat × Bool)) : List (BitVec 8) := pre.foldl (fun y p => setI y (p.1 : Int) p.2) zb32
theorem cutF_snoc (pre : List (Nat × Bool)) (p : Nat × Bool) : cutF (pre ++ [p]) = setI (cutF pre) (p.1 : Int) p.2 := by simp [cutF]
theorem foldl_set_len (l : List (Nat × Bool)) : ∀ y : List (BitVec 8), (l.foldl (fun y p => setI y (p.1 : Int) p.2) y).length = y.length := by
  induction l with
  | nil => intro y; rfl
  | cons p r ih => intro y; rw [List.foldl_cons, ih, setI_len]
theorem cutF_len (pre : List (Nat × Bool)) : (cutF pre).length = 32 := by rw [cutF, foldl_set_len]; rfl
theorem bt_zero (j : Nat) : bt zb32 j = false := by
  unfold bt zb32
  rw [List.getD_eq_getElem?_getD, List.getElem?_replicate]
  split <;> simp
theorem cutF_bits (x : List (BitVec 8)) : ∀ k, k ≤ 256 → ∀ j, j < 256 → bt (cutF (pathBits x k)) j = (decide (j < k) && bt x j)
  | 0, _, j, _ => by simp [pathBits, cutF, bt_zero]
  | k + 1, hk, j, hj => by
    rw [pathBits_succ, cutF_snoc, setI_nat _ _ _ (by omega), bt_set _ (cutF_len _) _ _ _ (by omega) hj, cutF_bits x k (by omega) j hj]
    by_cases e : j = k
    · subst e; simp
    · rw [if_neg e]
      by_cases h : j < k
      · have h2 : j < k + 1 := by omega
        simp [h, h2]
      · have h2 : ¬ j < k + 1 := by omega
        simp [h, h2]
/-- what Cut has done: the bits that came, all ahead of n -/
def CuI (n : Int) (gn gr gc : Nat) (pre : List (Nat × Bool)) (W : World) : Prop := Blk W gn [.int .i64 n] 3 ∧ Blk W gr (cb zb32) 33 ∧ Blk W gc (cb (cutF pre)) 33 ∧ ∀ p ∈ pre, (p.1 : Int) < n
def CuX (n : Int) (gr gc : Nat) (c : Code) (pre : List (Nat × Bool)) (W : World) : Prop :=
  ∃ pr p, c = .exit 0 ∧ pre = pr ++ [p] ∧ (∀ q ∈ pr, (q.1 : Int) < n) ∧ n ≤ (p.1 : Int) ∧ Blk W gr (cb zb32) 33 ∧ Blk W gc (cb (cutF pr)) 33
theorem CuI.own (n : Int) (gn gr gc : Nat) : Own (CuI n gn gr gc) := fun s A B row hs hg hr =>
  ⟨blk_own (β := Unit) gn (fun _ => [.int .i64 n]) _ () A B row hs.1 hg hr, blk_own (β := Unit) gr (fun _ => cb zb32) _ () A B row hs.2.1 hg hr, blk_own (β := Unit) gc (fun _ => cb (cutF s)) _ () A B row hs.2.2.1 hg hr, hs.2.2.2⟩
theorem CuX.own (n : Int) (gr gc : Nat) (c : Code) : Own (CuX n gr gc c) := fun _ A B row hs hg hr => by
  obtain ⟨pr, p, h1, h2, h3, h4, h5, h6⟩ := hs
  exact ⟨pr, p, h1, h2, h3, h4, blk_own (β := Unit) gr (fun _ => cb zb32) _ () A B row h5 hg hr, blk_own (β := Unit) gc (fun _ => cb (cutF pr)) _ () A B row h6 hg hr⟩
theorem CuI.all {x : List (BitVec 8)} {n : Int} {gn gr gc : Nat} {W : World} (h : CuI n gn gr gc (pathBits x 256) W) : ∃ y, IsCut x n y ∧ Blk W gr (cb zb32) 33 ∧ Blk W gc (cb y) 33 := by
  refine ⟨_, ⟨cutF_len _, fun j hj => ?_⟩, h.2.1, h.2.2.1⟩
  have h1 := h.2.2.2 _ (mem_bits (x := x) hj)
  simp only at h1
  rw [cutF_bits x 256 (Nat.le_refl _) j hj, decide_eq_true hj, decide_eq_true h1]
theorem CuX.at {x : List (BitVec 8)} {n : Int} {gr gc : Nat} {c : Code} {k : Nat} {W : World} (hk : k ≤ 256) (h : CuX n gr gc c (pathBits x k) W) : c = .exit 0 ∧ ∃ y, IsCut x n y ∧ Blk W gr (cb zb32) 33 ∧ Blk W gc (cb y) 33 := by
  obtain ⟨pr, p, h1, h2, h3, h4, h5, h6⟩ := h
  obtain ⟨i, rfl, rfl, rfl⟩ := bits_split h2
  simp only at h4
  refine ⟨h1, _, ⟨cutF_len _, fun j hj => ?_⟩, h5, h6⟩
  rw [cutF_bits x i (by omega) j hj]
  by_cases h : j < i
  · have h7 := h3 _ (mem_bits (x := x) h)
    simp only at h7
    rw [decide_eq_true h, decide_eq_true h7]
  · have h7 : ¬ ((j : Int) < n) := by omega
    rw [decide_eq_false h, decide_eq_false h7]
end Go.Proofs.YtpeifpoeeopecaaDoor
/- The walks of the reference's Common, Cut and Less. -/
namespace Go.Proofs.YtpeifpoeeopecaaDoor
open Go.RowKit
set_option maxRecDepth 100000
def ScI (x y : List (BitVec 8)) (g0 g1 : Nat) (w : World) (k : Nat) (W : World) : Prop := Blk W g0 (cb x) 33 ∧ Blk W g1 (cb y) 33 ∧ Below w.heap.size w W ∧ ∀ j, j < k → bt x j = bt y j
theorem ScI.over {x y : List (BitVec 8)} {g0 g1 k : Nat} {w W W' : World} (h : ScI x y g0 g1 w k W) (ho : Over W.drew W') : ScI x y g0 g1 w k W' :=
  ⟨ho.blk h.1.drew, ho.blk h.2.1.drew, h.2.2.1.drew.trans (Below.mono ho h.2.2.1.size), h.2.2.2⟩
end Go.Proofs.YtpeifpoeeopecaaDoor
/- The walk of the reference's Cut. -/
namespace Go.Proofs.YtpeifpoeeopecaaDoor
open Go.RowKit
set_option maxRecDepth 100000
structure SuI (x : List (BitVec 8)) (n : Int) (g0 gr : Nat) (w : World) (k : Nat) (d : List (BitVec 8)) (W : World) : Prop where
  b0 : Blk W g0 (cb d) 33
  br : Blk W gr (cb zb32) 33
  bel : Below w.heap.size w W
  len : d.length = 32
  bits : ∀ j, j < 256 → bt d j = (bt x j && !(decide (j < k) && decide (n ≤ (j : Int))))
end Go.Proofs.YtpeifpoeeopecaaDoor
/- The walks of Less, Under and the reference's. -/
namespace Go.Proofs.YtpeifpoeeopecaaDoor
open Go.RowKit
set_option maxRecDepth 100000
theorem bytes_cb (x : List (BitVec 8)) : Lib.bytesOf (x.map fun b => (b.toNat : Int)) = x.map UInt8.ofBitVec := by
  simp only [Lib.bytesOf, List.map_map]
  apply List.map_congr_left
  intro b _
  apply UInt8.toNat_inj.1
  simp
theorem run_compareD (x y : List (BitVec 8)) (hx : x.length = 32) (hy : y.length = 32) (g h : Nat) {w : World} (h1 : Blk w g (cb x) 33) (h2 : Blk w h (cb y) 33) :
    (Extern.BytealgCompare.compare #[.slice (some ⟨g, 0, none⟩) 32 32, .slice (some ⟨h, 0, none⟩) 32 32]).run Tryd.prog w = .ok (.int .i64 (Lib.compareBytes (x.map UInt8.ofBitVec) (y.map UInt8.ofBitVec))) w := by
  have ld : ∀ (z : List (BitVec 8)) (b : Nat), z.length = 32 → Blk w b (cb z) 33 → (Extern.Bytes.loadBytes ⟨b, 0, none⟩ 32 .empty).run Tryd.prog w = .ok ⟨(z.map UInt8.ofBitVec).toArray⟩ w := by
    intro z b hz hb
    have hl := Lib.run_loadBytesX (P := Tryd.prog) w (z.map fun b => (b.toNat : Int)) ⟨b, 0, none⟩ .empty (fun j v hj => by
      have hjl : j < z.length := by have := (List.getElem?_eq_some_iff.1 hj).1; simpa using this
      have e : (⟨b, 0, none⟩ : Addr).add j = ⟨b, j, none⟩ := by unfold Addr.add; split <;> simp_all
      rw [e, hb.cell, cb_get z j hjl]
      rw [List.getElem?_map, List.getElem?_eq_getElem hjl] at hj
      simp only [Option.map_some, Option.some.injEq] at hj
      rw [← hj, List.getD_eq_getElem?_getD, List.getElem?_eq_getElem hjl, Option.getD_some])
    rw [List.length_map, hz, bytes_cb] at hl
    simpa using hl
  change Sem.run Tryd.prog (do pure (goInt (Extern.BytealgCompare.cmp (← Extern.Bytes.bytesOf (.slice (some ⟨g, 0, none⟩) 32 32)) (← Extern.Bytes.bytesOf (.slice (some ⟨h, 0, none⟩) 32 32))))) w = _
  simp only [Extern.Bytes.bytesOf, Sem.run_bind, Sem.run_pure, ld x g hx h1, ld y h hy h2, Result.andThen]
  rw [Lib.cmp_eq]
  rfl
set_option maxHeartbeats 1000000 in
theorem pUnder_any (x y : List (BitVec 8)) (hx : x.length = 32) (hy : y.length = 32) (n : Int) (w : World) : Calls Tryd.prog 57 #[.agg (cb x).toArray, .agg (cb y).toArray, .int .i64 n] w fun e w' => e = .returned (.bool (decide (n ≤ (common x y : Int)))) ∧ Below w.heap.size w w' := by
  have HX : Hid (x.length = 32) := hx
  have HY : Hid (y.length = 32) := hy
  clear hx hy
  go_enter Tryd.func57, Tryd.ntmps57
  go_wp2_with (first
    | (with_reducible refine wpSeq_boxD (.tmp 0) x ?_ ?_ ?_ ?_
       · rfl
       · rfl
       · rfl
       intro g0 w1 n1)
    | (with_reducible refine wpSeq_boxD (.tmp 1) y ?_ ?_ ?_ ?_
       · rfl
       · rfl
       · rfl
       intro g1 w2 n2
       have H0 : Hid (Blk w2 g0 (cb x) 33) := n1.blk.below n2.below n1.blk.lt
       have H1 : Hid (Blk w2 g1 (cb y) 33) := n2.blk
       have HBW : Hid (Below w.heap.size w w2) := n1.below.trans (n2.below.mono n1.below.size)
       clear n1 n2)
    | (with_reducible refine wpSeq_loadD (.tmp 3) g0 x ?_ ?_ ?_ ?_ ?_ ?_
       · exact HX.out
       · exact H0.out
       · rfl
       · rfl
       · rfl)
    | (with_reducible refine wpSeq_loadD (.tmp 4) g1 y ?_ ?_ ?_ ?_ ?_ ?_
       · exact HY.out
       · exact H1.out
       · rfl
       · rfl
       · rfl)
    | (go_at_call 77; refine (pCommon_any x y HX.out HY.out _).mono ?_; rintro e w3 ⟨rfl, hb3⟩
       replace HBW : Hid (Below w.heap.size w w3) := HBW.out.trans (hb3.mono HBW.out.size)
       clear hb3))
  go_ret
  exact ⟨rfl, HBW.out⟩
structure SlI (x y : List (BitVec 8)) (g0 g1 : Nat) (w : World) (k : Nat) (W : World) : Prop where
  b0 : Blk W g0 (cb x) 33
  b1 : Blk W g1 (cb y) 33
  bel : Below w.heap.size w W
  eq : ∀ j, j < k → x.getD j 0 = y.getD j 0
theorem SlI.drew {x y : List (BitVec 8)} {g0 g1 k : Nat} {w W : World} (h : SlI x y g0 g1 w k W) : SlI x y g0 g1 w k W.drew := ⟨h.b0.drew, h.b1.drew, h.bel.drew, h.eq⟩
set_option maxRecDepth 100000 in
set_option maxHeartbeats 2000000 in
theorem sLess_any (x y : List (BitVec 8)) (hx : x.length = 32) (hy : y.length = 32) (w : World) : Calls Tryd.prog 59 #[.agg (cb x).toArray, .agg (cb y).toArray] w fun e w' => e = .returned (.bool (lessB x y)) ∧ Below w.heap.size w w' := by
  have HX : Hid (x.length = 32) := hx
  have HY : Hid (y.length = 32) := hy
  clear hx hy
  obtain ⟨o, HO⟩ : ∃ o, Hid (o = lessB x y) := ⟨_, rfl⟩
  rw [← HO.out]
  go_enter Tryd.func59, Tryd.ntmps59
  go_wp2_with (first
    | (with_reducible refine wpSeq_boxD (.tmp 0) x ?_ ?_ ?_ ?_
       · rfl
       · rfl
       · rfl
       intro g0 w1 n1)
    | (with_reducible refine wpSeq_boxD (.tmp 1) y ?_ ?_ ?_ ?_
       · rfl
       · rfl
       · rfl
       intro g1 w2 n2
       have HI : Hid (SlI x y g0 g1 w 0 w2) := ⟨n1.blk.below n2.below n1.blk.lt, n2.blk, n1.below.trans (n2.below.mono n1.below.size), by omega⟩
       clear n1 n2))
  go_loopw [5] (fun i wr => ∃ k : Nat, k ≤ 32 ∧ i = .int .i64 (k : Int) ∧ SlI x y g0 g1 w k wr) (fun i _ => 32 - (intOf i).toNat)
  case atStart => exact ⟨0, by omega, rfl, HI.out⟩
  case round =>
    clear HI
    obtain ⟨k, hk, rfl, hI⟩ := hrel
    have HI : Hid (SlI x y g0 g1 w k wr) := hI
    clear hI
    by_cases hlt : k < 32
    · have k0 : (0 : Int) ≤ (k : Int) := by omega
      have k1 : (k : Int) < 32 := by omega
      obtain ⟨a, HA⟩ : ∃ a, Hid (a = x.getD k 0) := ⟨_, rfl⟩
      obtain ⟨b, HB⟩ : ∃ b, Hid (b = y.getD k 0) := ⟨_, rfl⟩
      have hca : wr.cell? ⟨g0, k, none⟩ = some (.int .u8 (a.toNat : Int)) := by rw [HI.out.b0.cell, cb_get x k (by rw [HX.out]; exact hlt), HA.out]
      have hcb : wr.cell? ⟨g1, k, none⟩ = some (.int .u8 (b.toNat : Int)) := by rw [HI.out.b1.cell, cb_get y k (by rw [HY.out]; exact hlt), HB.out]
      have f5 : IntKind.i64.wrap ((k : Int) + 1) = (k : Int) + 1 := wrap_small _ (by omega) (by omega)
      have HLT : Hid (k < 32) := hlt
      clear hlt hk
      by_cases heq : a = b
      · have HE : Hid (∀ j, j < k + 1 → x.getD j 0 = y.getD j 0) := by
          intro j hj
          rcases Nat.lt_or_ge j k with h | h
          · exact HI.out.eq j h
          · obtain rfl : j = k := by omega
            rw [← HA.out, ← HB.out, heq]
        subst heq
        go_wp2_with fail
        go_region_held3 (fun wx => wx.cell? ⟨g0, k, none⟩ = some (.int .u8 (a.toNat : Int)) ∧ wx.cell? ⟨g1, k, none⟩ = some (.int .u8 (a.toNat : Int))) (go_keep) (fail)
        go_wp2
        go_roundw
        case rel => exact ⟨k + 1, by have := HLT.out; omega, by simp, HI.out.drew.b0, HI.out.drew.b1, HI.out.drew.bel, HE.out⟩
        case measure => simp [intOf]; omega
      · have hne : (a.toNat : Int) ≠ (b.toNat : Int) := fun h => heq (BitVec.eq_of_toNat_eq (by omega))
        have hne2 : ((a.toNat : Int) != (b.toNat : Int)) = true := by rw [bne_iff_ne]; exact hne
        have HR : Hid (o = decide ((a.toNat : Int) < (b.toNat : Int))) := by
          show _ = _
          rw [HO.out, lessB_at k x y (by rw [HX.out, HY.out]) (by rw [HX.out]; exact HLT.out) HI.out.eq (by rw [← HA.out, ← HB.out]; exact heq), ← HA.out, ← HB.out, decide_eq_decide]
          omega
        clear heq hne
        go_wp2_with fail
        go_region_held3 (fun wx => wx.cell? ⟨g0, k, none⟩ = some (.int .u8 (a.toNat : Int)) ∧ wx.cell? ⟨g1, k, none⟩ = some (.int .u8 (b.toNat : Int))) (go_keep) (fail)
        go_wp2_with fail
        have HBL : Hid (Below w.heap.size w wr.drew) := HI.out.bel.drew
        have hca2 : wr.drew.cell? ⟨g0, k, none⟩ = some (.int .u8 (a.toNat : Int)) := hca
        have hcb2 : wr.drew.cell? ⟨g1, k, none⟩ = some (.int .u8 (b.toNat : Int)) := hcb
        clear hca hcb HI
        generalize wr.drew = wq at *
        go_region_held3 (fun wx => wx.cell? ⟨g0, k, none⟩ = some (.int .u8 (a.toNat : Int)) ∧ wx.cell? ⟨g1, k, none⟩ = some (.int .u8 (b.toNat : Int))) (go_keep) (fail)
        go_wp2
        go_ret
        exact ⟨by rw [HR.out]; simp, HBL.out.drew⟩
    · have hk32 : k = 32 := by omega
      subst hk32
      have HR : Hid (o = false) := by show _ = _; rw [HO.out]; exact lessB_none x y (by rw [HX.out, HY.out]) (fun j hj => HI.out.eq j (by rw [HX.out] at hj; exact hj))
      go_wp2
      go_ret
      exact ⟨by rw [HR.out]; rfl, HI.out.bel⟩
end Go.Proofs.YtpeifpoeeopecaaDoor

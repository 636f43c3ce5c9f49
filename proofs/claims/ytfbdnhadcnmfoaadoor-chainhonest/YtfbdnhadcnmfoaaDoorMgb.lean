/- Texts that the proof leans on, one behind the other: The walks of LeafBytes, NodeBytes, ValueBytes and RootBytes, of tags and of blazonref03. The walks of Of, EmptyBytes, SameBinding and of the statements' own bound (layer 3). The walks of IndexOf, SaltOf and KeyOf, of tags and of blazonref03. .. -/
import Derived.Test.YtfbdnhadcnmfoaaDoorMga
import Derived.Lib.Bytealg
import Derived.Deep.RegionHeld3
import Derived.Laws.ResultCell
import Derived.RangeFuncNested
import Derived.RangeFuncBound
import Derived.RangeFuncCalls
import Derived.RangeFuncLeaves
import Derived.Shelf.Abstract
import Derived.Shelf.RegionOpen
import Derived.WalkKit
import Derived.OwnWalkIn
import Derived.TacticsInMore
import Derived.LoopNIn
import Derived.LoopIn
import Derived.Scope
import Derived.Lib.BytesEntry
import Derived.Great.BuildSlice
import Derived.Maps.AppendAt
import Derived.Deep.CutRange
import Derived.Deep.DeepCutAuto
/- The walks of LeafBytes, NodeBytes, ValueBytes and RootBytes, of tags and of blazonref03. -/
namespace Go.Proofs.YtfbdnhadcnmfoaaDoor
open Go.RowKit
set_option maxRecDepth 100000
/-- what is hashed of a leaf, and of a tree of two: a sign and two digests -/
def pairB (c : BitVec 8) (x y : List (BitVec 8)) : List (BitVec 8) := c :: (x ++ y)
/-- what is hashed of a binding -/
def valueB (x nm : List (BitVec 8)) (sr : Nat) (ky : List (BitVec 8)) : List (BitVec 8) := 86 :: (x ++ (num8 nm.length ++ (nm ++ (num8 sr ++ ky))))
/-- what is hashed of a root -/
def rootB (n : Nat) (x y z : List (BitVec 8)) : List (BitVec 8) := 82 :: (num8 n ++ (x ++ (y ++ z)))
theorem reads_drew {w : World} {v : Value} {bs : List (BitVec 8)} (h : Reads w v bs) : Reads w.drew v bs := h
theorem root_x (x y z : List (BitVec 8)) (v : Value) : ∀ j, j < x.length → (v :: (cb x ++ (cb y ++ cb z)))[1 + j]? = some (.int .u8 ((x.getD j 0).toNat : Int)) := by
  intro j hj
  rw [show 1 + j = j + 1 by omega, List.getElem?_cons_succ, List.getElem?_append_left (by rw [cb_len]; exact hj), cb_get _ _ hj]
theorem root_y (x y z : List (BitVec 8)) (v : Value) (hx : x.length = 32) : ∀ j, j < y.length → (v :: (cb x ++ (cb y ++ cb z)))[33 + j]? = some (.int .u8 ((y.getD j 0).toNat : Int)) := by
  intro j hj
  rw [show 33 + j = (32 + j) + 1 by omega, List.getElem?_cons_succ, List.getElem?_append_right (by rw [cb_len]; omega), cb_len, hx, show 32 + j - 32 = j by omega, List.getElem?_append_left (by rw [cb_len]; exact hj), cb_get _ _ hj]
theorem root_z (x y z : List (BitVec 8)) (v : Value) (hx : x.length = 32) (hy : y.length = 32) : ∀ j, j < z.length → (v :: (cb x ++ (cb y ++ cb z)))[65 + j]? = some (.int .u8 ((z.getD j 0).toNat : Int)) := by
  intro j hj
  rw [show 65 + j = (64 + j) + 1 by omega, List.getElem?_cons_succ, List.getElem?_append_right (by rw [cb_len]; omega), cb_len, hx, List.getElem?_append_right (by rw [cb_len]; omega), cb_len, hy, show 64 + j - 32 - 32 = j by omega, cb_get _ _ hj]
theorem cell_drew {w : World} {p : Addr} {v : Option Value} (h : w.cell? p = v) : w.drew.cell? p = v := h
set_option maxHeartbeats 400000 in
theorem tRoot_any (x y z : List (BitVec 8)) (sr : Nat) (w : World) (hn : x.length = 32 ∧ y.length = 32 ∧ z.length = 32 ∧ sr < 18446744073709551616) :
    Calls Tryd.prog 26 #[.agg (Value.int .u64 (sr : Int) :: (cb x ++ (cb y ++ cb z))).toArray] w fun e w' => ∃ v, e = .returned v ∧ Reads w' v (rootB sr x y z) ∧ Below w.heap.size w w' := by
  have HN : Hid (x.length = 32 ∧ y.length = 32 ∧ z.length = 32 ∧ sr < 18446744073709551616) := hn
  clear hn
  go_enter Tryd.func26, Tryd.ntmps26
  go_wp2_with fail
  have hB0 : Below w.heap.size w (w.alloc (.cells (Value.int .u64 (sr : Int) :: (cb x ++ (cb y ++ cb z))).toArray 28)) := below_alloc _ _
  have hBb : Blk (w.alloc (.cells (Value.int .u64 (sr : Int) :: (cb x ++ (cb y ++ cb z))).toArray 28)) w.heap.size (Value.int .u64 (sr : Int) :: (cb x ++ (cb y ++ cb z))) 28 := Blk.new w _ _
  have c0 := hBb.cell 0
  have rx := hBb.reads_mid (o := 1) (bs := x) (n := 32) (c := 32) HN.out.1.symm (by have := HN.out; omega) (root_x x y z _)
  have ry := hBb.reads_mid (o := 33) (bs := y) (n := 32) (c := 32) HN.out.2.1.symm (by have := HN.out; omega) (root_y x y z _ HN.out.1)
  have rz := hBb.reads_mid (o := 65) (bs := z) (n := 32) (c := 32) HN.out.2.2.1.symm (by have := HN.out; omega) (root_z x y z _ HN.out.1 HN.out.2.1)
  clear hBb
  generalize (w.alloc (.cells (Value.int .u64 (sr : Int) :: (cb x ++ (cb y ++ cb z))).toArray 28)) = w0 at *
  refine wp_region_held_drew (S := Over w0.drew) (by kernel_rfl) (Over.refl _) ?_
  intro hS
  replace rx := reads_drew rx
  replace ry := reads_drew ry
  replace rz := reads_drew rz
  replace c0 : w0.drew.cell? ⟨w.heap.size, 0, none⟩ = some (.int .u64 (sr : Int)) := c0
  have HB1 : Hid (Below w.heap.size w w0.drew) := hB0.drew
  clear hB0
  generalize w0.drew = w1 at *
  refine wpAnyH_take (i := 0) (v := .pointer (some ⟨w.heap.size, 0, none⟩)) rfl (by kernel_rfl) (by kernel_rfl) (by kernel_rfl) (fun _ _ _ h => h) (Or.inl ⟨by rfl, fun wx _ => by simp [go_sem]⟩) hS ?_
  simp only [Act.put, List.getElem_toArray, List.getElem_cons_zero, List.setIfInBounds_toArray, List.set_cons_zero, List.set_cons_succ]
  refine wpAnyH_take (i := 1) (v := .int .u64 (sr : Int)) rfl (by kernel_rfl) (by kernel_rfl) (by kernel_rfl) (fun _ _ _ h => h) (Or.inl ⟨by rfl, fun wx hx => by (have hc := below_cell hx c0; simp [go_sem, hc])⟩) hS ?_
  simp only [Act.put, List.getElem_toArray, List.getElem_cons_succ, List.getElem_cons_zero, List.setIfInBounds_toArray, List.set_cons_zero, List.set_cons_succ]
  refine wpAnyH_take (i := 3) (v := .pointer (some ⟨w.heap.size, 1, none⟩)) rfl (by kernel_rfl) (by kernel_rfl) (by kernel_rfl) (fun _ _ _ h => h) (Or.inl ⟨by rfl, fun wx _ => by simp [go_sem]⟩) hS ?_
  simp only [Act.put, List.getElem_toArray, List.getElem_cons_succ, List.getElem_cons_zero, List.setIfInBounds_toArray, List.set_cons_zero, List.set_cons_succ]
  refine wpAnyH_take (i := 4) (v := .slice (some ⟨w.heap.size, 1, none⟩) 32 32) rfl (by kernel_rfl) (by kernel_rfl) (by kernel_rfl) (fun _ _ _ h => h) (Or.inl ⟨by rfl, fun wx _ => by simp [execOp, Act.eval, slice_dig_at]⟩) hS ?_
  simp only [Act.put, List.getElem_toArray, List.getElem_cons_succ, List.getElem_cons_zero, List.setIfInBounds_toArray, List.set_cons_zero, List.set_cons_succ]
  refine wpAnyH_take (i := 5) (v := .pointer (some ⟨w.heap.size, 33, none⟩)) rfl (by kernel_rfl) (by kernel_rfl) (by kernel_rfl) (fun _ _ _ h => h) (Or.inl ⟨by rfl, fun wx _ => by simp [go_sem]⟩) hS ?_
  simp only [Act.put, List.getElem_toArray, List.getElem_cons_succ, List.getElem_cons_zero, List.setIfInBounds_toArray, List.set_cons_zero, List.set_cons_succ]
  refine wpAnyH_take (i := 6) (v := .slice (some ⟨w.heap.size, 33, none⟩) 32 32) rfl (by kernel_rfl) (by kernel_rfl) (by kernel_rfl) (fun _ _ _ h => h) (Or.inl ⟨by rfl, fun wx _ => by simp [execOp, Act.eval, slice_dig_at]⟩) hS ?_
  simp only [Act.put, List.getElem_toArray, List.getElem_cons_succ, List.getElem_cons_zero, List.setIfInBounds_toArray, List.set_cons_zero, List.set_cons_succ]
  refine wpAnyH_take (i := 7) (v := .pointer (some ⟨w.heap.size, 65, none⟩)) rfl (by kernel_rfl) (by kernel_rfl) (by kernel_rfl) (fun _ _ _ h => h) (Or.inl ⟨by rfl, fun wx _ => by simp [go_sem]⟩) hS ?_
  simp only [Act.put, List.getElem_toArray, List.getElem_cons_succ, List.getElem_cons_zero, List.setIfInBounds_toArray, List.set_cons_zero, List.set_cons_succ]
  refine wpAnyH_take (i := 8) (v := .slice (some ⟨w.heap.size, 65, none⟩) 32 32) rfl (by kernel_rfl) (by kernel_rfl) (by kernel_rfl) (fun _ _ _ h => h) (Or.inl ⟨by rfl, fun wx _ => by simp [execOp, Act.eval, slice_dig_at]⟩) hS ?_
  simp only [Act.put, List.getElem_toArray, List.getElem_cons_succ, List.getElem_cons_zero, List.setIfInBounds_toArray, List.set_cons_zero, List.set_cons_succ]
  refine wpAnyH_enter 2 (by kernel_rfl) rfl (by rfl) (f := 41) (args := #[.int .u64 (sr : Int)]) (by simp [go_sem]) (number_any sr _) ?_
  rintro e w2 ⟨v1, rfl, r1, hbA⟩
  have hS1 : Over w1 w2 := hS.more hbA
  refine ⟨_, rfl, hS1, ?_⟩
  clear hS
  have hS := hS1
  clear hS1
  obtain ⟨l1, HL1⟩ : ∃ zz, Hid (zz = num8 sr) := ⟨_, rfl⟩
  rw [← HL1.out] at r1
  obtain ⟨ad1, cp1, rfl, _, _, _⟩ := id r1
  simp only [Act.put, List.getElem_toArray, List.getElem_cons_succ, List.getElem_cons_zero, List.setIfInBounds_toArray, List.set_cons_zero, List.set_cons_succ]
  clear hbA
  have hbA := below_alloc w2 (.cells #[.slice ad1 l1.length cp1, .slice (some ⟨w.heap.size, 1, none⟩) 32 32, .slice (some ⟨w.heap.size, 33, none⟩) 32 32, .slice (some ⟨w.heap.size, 65, none⟩) 32 32] 29)
  have r2 := readsL_four r1 (rx.below hS) (ry.below hS) (rz.below hS)
  have hS2 : Over w1 (w2.alloc (.cells #[.slice ad1 l1.length cp1, .slice (some ⟨w.heap.size, 1, none⟩) 32 32, .slice (some ⟨w.heap.size, 33, none⟩) 32 32, .slice (some ⟨w.heap.size, 65, none⟩) 32 32] 29)) := hS.more hbA
  refine wpAnyH_step 9 (.slice (some ⟨w2.heap.size, 0, none⟩) 4 4) (w2.alloc (.cells #[.slice ad1 l1.length cp1, .slice (some ⟨w.heap.size, 1, none⟩) 32 32, .slice (some ⟨w.heap.size, 33, none⟩) 32 32, .slice (some ⟨w.heap.size, 65, none⟩) 32 32] 29)) (by kernel_rfl) rfl (by rfl) (by simp [go_sem]) hS2 ?_
  simp only [Act.put, List.getElem_toArray, List.getElem_cons_succ, List.getElem_cons_zero, List.setIfInBounds_toArray, List.set_cons_zero, List.set_cons_succ]
  replace r1 := r1.below hbA
  clear hbA hS
  have hS := hS2
  clear hS2
  generalize (w2.alloc (.cells #[.slice ad1 l1.length cp1, .slice (some ⟨w.heap.size, 1, none⟩) 32 32, .slice (some ⟨w.heap.size, 33, none⟩) 32 32, .slice (some ⟨w.heap.size, 65, none⟩) 32 32] 29)) = w3 at *
  generalize w2.heap.size = n2 at *
  refine wpAnyH_enter 10 (by kernel_rfl) rfl (by rfl) (f := 40) (args := #[.int .u8 82, .slice (some ⟨n2, 0, none⟩) 4 4]) (by simp [go_sem]) (tagged_any 82 _ _ _ r2 (by simp only [fl4, HL1.out, len_num8]; have := HN.out; omega) (by simp)) ?_
  rintro e w4 ⟨v3, rfl, r3, hbA⟩
  have hS3 : Over w1 w4 := hS.more hbA
  refine ⟨_, rfl, hS3, ?_⟩
  clear hS
  have hS := hS3
  clear hS3
  obtain ⟨l3, HL3⟩ : ∃ zz, Hid (zz = (82 : BitVec 8) :: [l1, x, y, z].flatten) := ⟨_, rfl⟩
  rw [← HL3.out] at r3
  obtain ⟨ad3, cp3, rfl, _, _, _⟩ := id r3
  simp only [Act.put, List.getElem_toArray, List.getElem_cons_succ, List.getElem_cons_zero, List.setIfInBounds_toArray, List.set_cons_zero, List.set_cons_succ]
  replace r1 := r1.below hbA
  replace r2 := r2.below hbA
  clear hbA
  refine wpAnyH_take (i := 11) (v := .slice ad3 l3.length cp3) rfl (by kernel_rfl) (by kernel_rfl) (by kernel_rfl) (fun _ _ _ h => h) (Or.inl ⟨by rfl, fun wx _ => by simp [go_sem]⟩) hS ?_
  simp only [Act.put, List.getElem_toArray, List.getElem_cons_succ, List.getElem_cons_zero, List.setIfInBounds_toArray, List.set_cons_zero, List.set_cons_succ]
  refine wpAnyH_done (by kernel_rfl) ?_ _
  have E : Hid (l3 = rootB sr x y z) := by show _ = _; rw [HL3.out]; simp [rootB, HL1.out]
  have HV : Hid (Reads w4 (.slice ad3 l3.length cp3) l3) := r3
  have HB : Hid (Below w.heap.size w w4) := hS.after HB1.out
  clear hS r1 r2 r3
  go_wp2
  go_ret
  exact ⟨_, rfl, by rw [← E.out]; exact HV.out, HB.out⟩
set_option maxHeartbeats 400000 in
theorem rRoot_any (x y z : List (BitVec 8)) (sr : Nat) (w : World) (hn : x.length = 32 ∧ y.length = 32 ∧ z.length = 32 ∧ sr < 18446744073709551616) :
    Calls Tryd.prog 21 #[.agg (Value.int .u64 (sr : Int) :: (cb x ++ (cb y ++ cb z))).toArray] w fun e w' => ∃ v, e = .returned v ∧ Reads w' v (rootB sr x y z) ∧ Below w.heap.size w w' := by
  have HN : Hid (x.length = 32 ∧ y.length = 32 ∧ z.length = 32 ∧ sr < 18446744073709551616) := hn
  clear hn
  go_enter Tryd.func21, Tryd.ntmps21
  go_wp2_with fail
  have hB0 : Below w.heap.size w (w.alloc (.cells (Value.int .u64 (sr : Int) :: (cb x ++ (cb y ++ cb z))).toArray 28)) := below_alloc _ _
  have hBb : Blk (w.alloc (.cells (Value.int .u64 (sr : Int) :: (cb x ++ (cb y ++ cb z))).toArray 28)) w.heap.size (Value.int .u64 (sr : Int) :: (cb x ++ (cb y ++ cb z))) 28 := Blk.new w _ _
  have c0 := hBb.cell 0
  have rx := hBb.reads_mid (o := 1) (bs := x) (n := 32) (c := 32) HN.out.1.symm (by have := HN.out; omega) (root_x x y z _)
  have ry := hBb.reads_mid (o := 33) (bs := y) (n := 32) (c := 32) HN.out.2.1.symm (by have := HN.out; omega) (root_y x y z _ HN.out.1)
  have rz := hBb.reads_mid (o := 65) (bs := z) (n := 32) (c := 32) HN.out.2.2.1.symm (by have := HN.out; omega) (root_z x y z _ HN.out.1 HN.out.2.1)
  clear hBb
  generalize (w.alloc (.cells (Value.int .u64 (sr : Int) :: (cb x ++ (cb y ++ cb z))).toArray 28)) = w0 at *
  refine wp_region_held_drew (S := Over w0.drew) (by kernel_rfl) (Over.refl _) ?_
  intro hS
  replace rx := reads_drew rx
  replace ry := reads_drew ry
  replace rz := reads_drew rz
  replace c0 : w0.drew.cell? ⟨w.heap.size, 0, none⟩ = some (.int .u64 (sr : Int)) := c0
  have HB1 : Hid (Below w.heap.size w w0.drew) := hB0.drew
  clear hB0
  generalize w0.drew = w1 at *
  refine wpAnyH_take (i := 0) (v := .pointer (some ⟨w.heap.size, 0, none⟩)) rfl (by kernel_rfl) (by kernel_rfl) (by kernel_rfl) (fun _ _ _ h => h) (Or.inl ⟨by rfl, fun wx _ => by simp [go_sem]⟩) hS ?_
  simp only [Act.put, List.getElem_toArray, List.getElem_cons_zero, List.setIfInBounds_toArray, List.set_cons_zero, List.set_cons_succ]
  refine wpAnyH_take (i := 1) (v := .int .u64 (sr : Int)) rfl (by kernel_rfl) (by kernel_rfl) (by kernel_rfl) (fun _ _ _ h => h) (Or.inl ⟨by rfl, fun wx hx => by (have hc := below_cell hx c0; simp [go_sem, hc])⟩) hS ?_
  simp only [Act.put, List.getElem_toArray, List.getElem_cons_succ, List.getElem_cons_zero, List.setIfInBounds_toArray, List.set_cons_zero, List.set_cons_succ]
  refine wpAnyH_take (i := 3) (v := .pointer (some ⟨w.heap.size, 1, none⟩)) rfl (by kernel_rfl) (by kernel_rfl) (by kernel_rfl) (fun _ _ _ h => h) (Or.inl ⟨by rfl, fun wx _ => by simp [go_sem]⟩) hS ?_
  simp only [Act.put, List.getElem_toArray, List.getElem_cons_succ, List.getElem_cons_zero, List.setIfInBounds_toArray, List.set_cons_zero, List.set_cons_succ]
  refine wpAnyH_take (i := 4) (v := .slice (some ⟨w.heap.size, 1, none⟩) 32 32) rfl (by kernel_rfl) (by kernel_rfl) (by kernel_rfl) (fun _ _ _ h => h) (Or.inl ⟨by rfl, fun wx _ => by simp [execOp, Act.eval, slice_dig_at]⟩) hS ?_
  simp only [Act.put, List.getElem_toArray, List.getElem_cons_succ, List.getElem_cons_zero, List.setIfInBounds_toArray, List.set_cons_zero, List.set_cons_succ]
  refine wpAnyH_take (i := 5) (v := .pointer (some ⟨w.heap.size, 33, none⟩)) rfl (by kernel_rfl) (by kernel_rfl) (by kernel_rfl) (fun _ _ _ h => h) (Or.inl ⟨by rfl, fun wx _ => by simp [go_sem]⟩) hS ?_
  simp only [Act.put, List.getElem_toArray, List.getElem_cons_succ, List.getElem_cons_zero, List.setIfInBounds_toArray, List.set_cons_zero, List.set_cons_succ]
  refine wpAnyH_take (i := 6) (v := .slice (some ⟨w.heap.size, 33, none⟩) 32 32) rfl (by kernel_rfl) (by kernel_rfl) (by kernel_rfl) (fun _ _ _ h => h) (Or.inl ⟨by rfl, fun wx _ => by simp [execOp, Act.eval, slice_dig_at]⟩) hS ?_
  simp only [Act.put, List.getElem_toArray, List.getElem_cons_succ, List.getElem_cons_zero, List.setIfInBounds_toArray, List.set_cons_zero, List.set_cons_succ]
  refine wpAnyH_take (i := 7) (v := .pointer (some ⟨w.heap.size, 65, none⟩)) rfl (by kernel_rfl) (by kernel_rfl) (by kernel_rfl) (fun _ _ _ h => h) (Or.inl ⟨by rfl, fun wx _ => by simp [go_sem]⟩) hS ?_
  simp only [Act.put, List.getElem_toArray, List.getElem_cons_succ, List.getElem_cons_zero, List.setIfInBounds_toArray, List.set_cons_zero, List.set_cons_succ]
  refine wpAnyH_take (i := 8) (v := .slice (some ⟨w.heap.size, 65, none⟩) 32 32) rfl (by kernel_rfl) (by kernel_rfl) (by kernel_rfl) (fun _ _ _ h => h) (Or.inl ⟨by rfl, fun wx _ => by simp [execOp, Act.eval, slice_dig_at]⟩) hS ?_
  simp only [Act.put, List.getElem_toArray, List.getElem_cons_succ, List.getElem_cons_zero, List.setIfInBounds_toArray, List.set_cons_zero, List.set_cons_succ]
  refine wpAnyH_enter 2 (by kernel_rfl) rfl (by rfl) (f := 34) (args := #[.int .u64 (sr : Int)]) (by simp [go_sem]) (rnumber_any sr (by have := HN.out; omega) _) ?_
  rintro e w2 ⟨v1, rfl, r1, hbA⟩
  have hS1 : Over w1 w2 := hS.more hbA
  refine ⟨_, rfl, hS1, ?_⟩
  clear hS
  have hS := hS1
  clear hS1
  obtain ⟨l1, HL1⟩ : ∃ zz, Hid (zz = num8 sr) := ⟨_, rfl⟩
  rw [← HL1.out] at r1
  obtain ⟨ad1, cp1, rfl, _, _, _⟩ := id r1
  simp only [Act.put, List.getElem_toArray, List.getElem_cons_succ, List.getElem_cons_zero, List.setIfInBounds_toArray, List.set_cons_zero, List.set_cons_succ]
  clear hbA
  have hbA := below_alloc w2 (.cells #[.slice ad1 l1.length cp1, .slice (some ⟨w.heap.size, 1, none⟩) 32 32, .slice (some ⟨w.heap.size, 33, none⟩) 32 32, .slice (some ⟨w.heap.size, 65, none⟩) 32 32] 29)
  have r2 := readsL_four r1 (rx.below hS) (ry.below hS) (rz.below hS)
  have hS2 : Over w1 (w2.alloc (.cells #[.slice ad1 l1.length cp1, .slice (some ⟨w.heap.size, 1, none⟩) 32 32, .slice (some ⟨w.heap.size, 33, none⟩) 32 32, .slice (some ⟨w.heap.size, 65, none⟩) 32 32] 29)) := hS.more hbA
  refine wpAnyH_step 9 (.slice (some ⟨w2.heap.size, 0, none⟩) 4 4) (w2.alloc (.cells #[.slice ad1 l1.length cp1, .slice (some ⟨w.heap.size, 1, none⟩) 32 32, .slice (some ⟨w.heap.size, 33, none⟩) 32 32, .slice (some ⟨w.heap.size, 65, none⟩) 32 32] 29)) (by kernel_rfl) rfl (by rfl) (by simp [go_sem]) hS2 ?_
  simp only [Act.put, List.getElem_toArray, List.getElem_cons_succ, List.getElem_cons_zero, List.setIfInBounds_toArray, List.set_cons_zero, List.set_cons_succ]
  replace r1 := r1.below hbA
  clear hbA hS
  have hS := hS2
  clear hS2
  generalize (w2.alloc (.cells #[.slice ad1 l1.length cp1, .slice (some ⟨w.heap.size, 1, none⟩) 32 32, .slice (some ⟨w.heap.size, 33, none⟩) 32 32, .slice (some ⟨w.heap.size, 65, none⟩) 32 32] 29)) = w3 at *
  generalize w2.heap.size = n2 at *
  refine wpAnyH_enter 10 (by kernel_rfl) rfl (by rfl) (f := 33) (args := #[.int .u8 82, .slice (some ⟨n2, 0, none⟩) 4 4]) (by simp [go_sem]) (rsign_any 82 _ _ _ r2 (by simp only [fl4, HL1.out, len_num8]; have := HN.out; omega) (by simp)) ?_
  rintro e w4 ⟨v3, rfl, r3, hbA⟩
  have hS3 : Over w1 w4 := hS.more hbA
  refine ⟨_, rfl, hS3, ?_⟩
  clear hS
  have hS := hS3
  clear hS3
  obtain ⟨l3, HL3⟩ : ∃ zz, Hid (zz = (82 : BitVec 8) :: [l1, x, y, z].flatten) := ⟨_, rfl⟩
  rw [← HL3.out] at r3
  obtain ⟨ad3, cp3, rfl, _, _, _⟩ := id r3
  simp only [Act.put, List.getElem_toArray, List.getElem_cons_succ, List.getElem_cons_zero, List.setIfInBounds_toArray, List.set_cons_zero, List.set_cons_succ]
  replace r1 := r1.below hbA
  replace r2 := r2.below hbA
  clear hbA
  refine wpAnyH_take (i := 11) (v := .slice ad3 l3.length cp3) rfl (by kernel_rfl) (by kernel_rfl) (by kernel_rfl) (fun _ _ _ h => h) (Or.inl ⟨by rfl, fun wx _ => by simp [go_sem]⟩) hS ?_
  simp only [Act.put, List.getElem_toArray, List.getElem_cons_succ, List.getElem_cons_zero, List.setIfInBounds_toArray, List.set_cons_zero, List.set_cons_succ]
  refine wpAnyH_done (by kernel_rfl) ?_ _
  have E : Hid (l3 = rootB sr x y z) := by show _ = _; rw [HL3.out]; simp [rootB, HL1.out]
  have HV : Hid (Reads w4 (.slice ad3 l3.length cp3) l3) := r3
  have HB : Hid (Below w.heap.size w w4) := hS.after HB1.out
  clear hS r1 r2 r3
  go_wp2
  go_ret
  exact ⟨_, rfl, by rw [← E.out]; exact HV.out, HB.out⟩
end Go.Proofs.YtfbdnhadcnmfoaaDoor
/- The walks of Of, EmptyBytes, SameBinding and of the statements' own bound (layer 3). -/
namespace Go.Proofs.YtfbdnhadcnmfoaaDoor
open Go.RowKit
set_option maxRecDepth 100000
/-- a binding as a value -/
def bindV (nm : List (BitVec 8)) (vk : Value) (sr : Nat) : Value := .agg #[.string (strB nm), vk, .int .u64 (sr : Int)]
theorem readsL_none (w : World) : ReadsL w (.slice none 0 0) [] := ⟨none, 0, rfl, Nat.le_refl _, fun _ => rfl, fun h => by cases h⟩
set_option maxHeartbeats 400000 in
theorem tOf_any (v : Value) (bs : List (BitVec 8)) (w : World) (hK : KOk w) (hR : Reads w v bs) (hl : bs.length < 2305843009213693952) :
    Calls Tryd.prog 30 #[v] w fun e w' => e = .returned (.agg (cb (dig bs)).toArray) ∧ Below w.heap.size w w' := by
  have HK : Hid (KOk w) := hK
  have HR : Hid (Reads w v bs) := hR
  clear hK hR
  go_enter Tryd.func30, Tryd.ntmps30
  go_wp2_with fail
  generalize h0 : Obj.cells _ 23 = o32
  have ho : o32 = Obj.cells (cb zb32).toArray 23 := h0.symm
  clear h0
  subst ho
  have hb0 := below_alloc w (Obj.cells (cb zb32).toArray 23)
  refine (sum_any _ bs _ (HK.out.below hb0 HK.out.lt) (HR.out.below hb0) hl).mono ?_
  rintro e w1 ⟨rfl, hb1⟩
  simp at hb1
  obtain ⟨es, HES⟩ : ∃ zz, Hid (zz = cb (dig bs)) := ⟨_, rfl⟩
  have HLe : Hid (es.length = 32) := by show _ = _; rw [HES.out, cb_len, len_dig']
  have HZe : Hid ((Tryd.prog.info? 23).map (·.size) = some es.length) := by show _ = _; rw [HLe.out]; exact Tryd.info23
  have H1e : Hid (∀ v ∈ es, v.oneCell' = true) := by show ∀ _, _; rw [HES.out]; exact cb_one _
  have HR1 : Hid (Blk w1 w.heap.size (cb zb32) 23) := (Blk.new w (cb zb32) 23).below hb1 (by omega)
  have HS1 : Hid (Below w.heap.size w w1) := hb0.trans (hb1.mono (by omega))
  clear hb0 hb1
  rw [← HES.out]
  go_wp2_with (refine wpList_store_mid rfl 23 _ _ rfl w.heap.size 0 es.toArray rfl rfl (HR1.out.there 0 _ (by rw [List.size_toArray, HLe.out, cb_len, len_zb32]; omega)) (by simpa using HZe.out) (all_oneCell_toArray H1e.out) ?_)
  have hB := HR1.out.whole es (by rw [HLe.out, cb_len, len_zb32])
  refine bodyPost_ret (v := .agg es.toArray) (results_cell_row (by rfl) _ _ w.heap.size 23 _ (0, 0) _ rfl hB Tryd.underlying23 rfl (by simpa using HZe.out)) rfl ⟨by rw [HES.out], Below.setCells _ (Nat.le_refl _) _ _ _ HS1.out⟩
set_option maxHeartbeats 400000 in
theorem rOf_big (v : Value) (bs : List (BitVec 8)) (w : World) (hR : Reads w v bs) (hl : bs.length < 140737488355000) :
    Calls Tryd.prog 32 #[v] w fun e w' => e = .returned (.agg (cb (dig bs)).toArray) ∧ Below w.heap.size w w' := by
  have HR : Hid (Reads w v bs) := hR
  clear hR
  go_enter Tryd.func32, Tryd.ntmps32
  go_wp2_with fail
  generalize h0 : Obj.cells _ 23 = o32
  have ho : o32 = Obj.cells (cb zb32).toArray 23 := h0.symm
  clear h0
  subst ho
  have hb0 := below_alloc w (Obj.cells (cb zb32).toArray 23)
  refine (rsum_big _ bs _ (HR.out.below hb0) hl).mono ?_
  rintro e w1 ⟨rfl, hb1⟩
  simp at hb1
  obtain ⟨es, HES⟩ : ∃ zz, Hid (zz = cb (dig bs)) := ⟨_, rfl⟩
  have HLe : Hid (es.length = 32) := by show _ = _; rw [HES.out, cb_len, len_dig']
  have HZe : Hid ((Tryd.prog.info? 23).map (·.size) = some es.length) := by show _ = _; rw [HLe.out]; exact Tryd.info23
  have H1e : Hid (∀ v ∈ es, v.oneCell' = true) := by show ∀ _, _; rw [HES.out]; exact cb_one _
  have HR1 : Hid (Blk w1 w.heap.size (cb zb32) 23) := (Blk.new w (cb zb32) 23).below hb1 (by omega)
  have HS1 : Hid (Below w.heap.size w w1) := hb0.trans (hb1.mono (by omega))
  clear hb0 hb1
  rw [← HES.out]
  go_wp2_with (refine wpList_store_mid rfl 23 _ _ rfl w.heap.size 0 es.toArray rfl rfl (HR1.out.there 0 _ (by rw [List.size_toArray, HLe.out, cb_len, len_zb32]; omega)) (by simpa using HZe.out) (all_oneCell_toArray H1e.out) ?_)
  have hB := HR1.out.whole es (by rw [HLe.out, cb_len, len_zb32])
  refine bodyPost_ret (v := .agg es.toArray) (results_cell_row (by rfl) _ _ w.heap.size 23 _ (0, 0) _ rfl hB Tryd.underlying23 rfl (by simpa using HZe.out)) rfl ⟨by rw [HES.out], Below.setCells _ (Nat.le_refl _) _ _ _ HS1.out⟩
theorem rOf_any (v : Value) (bs : List (BitVec 8)) (w : World) (hR : Reads w v bs) (hl : bs.length < 140737488350000) :
    Calls Tryd.prog 32 #[v] w fun e w' => e = .returned (.agg (cb (dig bs)).toArray) ∧ Below w.heap.size w w' := rOf_big v bs w hR (by omega)
end Go.Proofs.YtfbdnhadcnmfoaaDoor
/- The walks of IndexOf, SaltOf and KeyOf, of tags and of blazonref03. -/
namespace Go.Proofs.YtfbdnhadcnmfoaaDoor
open Go.RowKit
set_option maxRecDepth 100000
/-- what is hashed, by a key, for where a name stands; for what hides a binding; for a part of a signing key -/
def indexB (nm : List (BitVec 8)) : List (BitVec 8) := 73 :: nm
def saltB (sr : Nat) (nm : List (BitVec 8)) : List (BitVec 8) := 83 :: (num8 sr ++ nm)
def keyB (x : List (BitVec 8)) (n p : Nat) : List (BitVec 8) := 75 :: (x ++ (num8 n ++ num8 p))
theorem zeros32 : (#[Value.int .u8 0, Value.int .u8 0, Value.int .u8 0, Value.int .u8 0, Value.int .u8 0, Value.int .u8 0, Value.int .u8 0, Value.int .u8 0, Value.int .u8 0, Value.int .u8 0, Value.int .u8 0, Value.int .u8 0, Value.int .u8 0, Value.int .u8 0, Value.int .u8 0, Value.int .u8 0, Value.int .u8 0, Value.int .u8 0, Value.int .u8 0, Value.int .u8 0, Value.int .u8 0, Value.int .u8 0, Value.int .u8 0, Value.int .u8 0, Value.int .u8 0, Value.int .u8 0, Value.int .u8 0, Value.int .u8 0, Value.int .u8 0, Value.int .u8 0, Value.int .u8 0, Value.int .u8 0] : Array Value) = (cb zb32).toArray := by kernel_rfl
set_option maxHeartbeats 1000000 in
theorem tKey_any (x : List (BitVec 8)) (sr pl : Nat) (bi si : Int) (w : World) (hK : KOk w) (hp : IntKind.u64.wrap (IntKind.u64.wrap (2 * IntKind.u64.wrap bi) + IntKind.u64.wrap si) = (pl : Int)) (hn : x.length = 32 ∧ sr < 18446744073709551616 ∧ pl < 18446744073709551616) :
    Calls Tryd.prog 38 #[.agg (cb x).toArray, .int .u64 (sr : Int), .int .i64 bi, .int .i64 si] w fun e w' => e = .returned (.agg (cb (dig (keyB x sr pl))).toArray) ∧ Below w.heap.size w w' := by
  have HK : Hid (KOk w) := hK
  clear hK
  have HP : Hid (IntKind.u64.wrap (IntKind.u64.wrap (2 * IntKind.u64.wrap bi) + IntKind.u64.wrap si) = (pl : Int)) := hp
  clear hp
  have HN : Hid (x.length = 32 ∧ sr < 18446744073709551616 ∧ pl < 18446744073709551616) := hn
  clear hn
  go_enter Tryd.func38, Tryd.ntmps38
  go_wp2_with fail
  rw [zeros32, HP.out]
  have hB0 : Below w.heap.size w ((w.alloc (.cells (cb x).toArray 23)).alloc (.cells (cb zb32).toArray 23)) := (below_alloc _ _).trans ((below_alloc _ _).mono (by simp))
  have rx : Reads ((w.alloc (.cells (cb x).toArray 23)).alloc (.cells (cb zb32).toArray 23)) (.slice (some ⟨w.heap.size, 0, none⟩) 32 32) x := ((Blk.new w (cb x) 23).alloc _).reads HN.out.1.symm (by have := HN.out; omega)
  have hRB : Blk ((w.alloc (.cells (cb x).toArray 23)).alloc (.cells (cb zb32).toArray 23)) (w.heap.size + 1) (cb zb32) 23 := Blk.new_at (by simp) _ _
  generalize ((w.alloc (.cells (cb x).toArray 23)).alloc (.cells (cb zb32).toArray 23)) = w0 at *
  refine wp_region_any (by kernel_rfl) ?_
  change wpAny _ _ _ _ _ _ _ (World.drew _)
  replace rx := reads_drew rx
  have hS : Over w0.drew w0.drew := Over.refl _
  have HRB : Hid (Blk w0.drew (w.heap.size + 1) (cb zb32) 23) := hRB.drew
  have HB1 : Hid (Below w.heap.size w w0.drew) := hB0.drew
  clear hB0 hRB
  generalize w0.drew = w1 at *
  refine wpAny_take (i := 0) (v := .slice (some ⟨w.heap.size, 0, none⟩) 32 32) rfl (by kernel_rfl) (by kernel_rfl) (by kernel_rfl) (fun _ _ _ h => h) (Or.inl ⟨by rfl, fun wx => by simp [execOp, Act.eval, slice_dig]⟩) ?_
  simp only [Act.put, List.getElem_toArray, List.getElem_cons_zero, List.setIfInBounds_toArray, List.set_cons_zero, List.set_cons_succ]
  refine wpAny_take (i := 1) (v := .int .u64 (sr : Int)) rfl (by kernel_rfl) (by kernel_rfl) (by kernel_rfl) (fun _ _ _ h => h) (Or.inl ⟨by rfl, fun wx => by simp [go_sem]⟩) ?_
  simp only [Act.put, List.getElem_toArray, List.getElem_cons_succ, List.getElem_cons_zero, List.setIfInBounds_toArray, List.set_cons_zero, List.set_cons_succ]
  refine wpAny_take (i := 3) (v := .int .u64 (pl : Int)) rfl (by kernel_rfl) (by kernel_rfl) (by kernel_rfl) (fun _ _ _ h => h) (Or.inl ⟨by rfl, fun wx => by simp [go_sem]⟩) ?_
  simp only [Act.put, List.getElem_toArray, List.getElem_cons_succ, List.getElem_cons_zero, List.setIfInBounds_toArray, List.set_cons_zero, List.set_cons_succ]
  refine wpAny_enter 2 (by kernel_rfl) rfl (by rfl) (f := 41) (args := #[.int .u64 (sr : Int)]) (by simp [go_sem]) (number_any sr _) ?_
  rintro e w2 ⟨v1, rfl, r1, hbA⟩
  have hS1 : Over w1 w2 := hS.more hbA
  refine ⟨_, rfl, ?_⟩
  clear hS
  have hS := hS1
  clear hS1
  obtain ⟨l1, HL1⟩ : ∃ zz, Hid (zz = num8 sr) := ⟨_, rfl⟩
  rw [← HL1.out] at r1
  obtain ⟨ad1, cp1, rfl, _, _, _⟩ := id r1
  simp only [Act.put, List.getElem_toArray, List.getElem_cons_succ, List.getElem_cons_zero, List.setIfInBounds_toArray, List.set_cons_zero, List.set_cons_succ]
  clear hbA
  refine wpAny_enter 4 (by kernel_rfl) rfl (by rfl) (f := 41) (args := #[.int .u64 (pl : Int)]) (by simp [go_sem]) (number_any pl _) ?_
  rintro e w3 ⟨v2, rfl, r2, hbA⟩
  have hS2 : Over w1 w3 := hS.more hbA
  refine ⟨_, rfl, ?_⟩
  clear hS
  have hS := hS2
  clear hS2
  obtain ⟨l2, HL2⟩ : ∃ zz, Hid (zz = num8 pl) := ⟨_, rfl⟩
  rw [← HL2.out] at r2
  obtain ⟨ad2, cp2, rfl, _, _, _⟩ := id r2
  simp only [Act.put, List.getElem_toArray, List.getElem_cons_succ, List.getElem_cons_zero, List.setIfInBounds_toArray, List.set_cons_zero, List.set_cons_succ]
  replace r1 := r1.below hbA
  clear hbA
  have hbA := below_alloc w3 (.cells #[.slice (some ⟨w.heap.size, 0, none⟩) 32 32, .slice ad1 l1.length cp1, .slice ad2 l2.length cp2] 29)
  have r3 := readsL_three (rx.below hS) r1 r2
  have hS3 : Over w1 (w3.alloc (.cells #[.slice (some ⟨w.heap.size, 0, none⟩) 32 32, .slice ad1 l1.length cp1, .slice ad2 l2.length cp2] 29)) := hS.more hbA
  refine wpAny_step 5 (.slice (some ⟨w3.heap.size, 0, none⟩) 3 3) (w3.alloc (.cells #[.slice (some ⟨w.heap.size, 0, none⟩) 32 32, .slice ad1 l1.length cp1, .slice ad2 l2.length cp2] 29)) (by kernel_rfl) rfl (by rfl) (by simp [go_sem]) ?_
  simp only [Act.put, List.getElem_toArray, List.getElem_cons_succ, List.getElem_cons_zero, List.setIfInBounds_toArray, List.set_cons_zero, List.set_cons_succ]
  replace r1 := r1.below hbA
  replace r2 := r2.below hbA
  clear hbA hS
  have hS := hS3
  clear hS3
  generalize (w3.alloc (.cells #[.slice (some ⟨w.heap.size, 0, none⟩) 32 32, .slice ad1 l1.length cp1, .slice ad2 l2.length cp2] 29)) = w4 at *
  generalize w3.heap.size = n3 at *
  refine wpAny_enter 6 (by kernel_rfl) rfl (by rfl) (f := 40) (args := #[.int .u8 75, .slice (some ⟨n3, 0, none⟩) 3 3]) (by simp [go_sem]) (tagged_any 75 _ _ _ r3 (by simp only [fl3, HL1.out, HL2.out, len_num8]; have := HN.out; omega) (by simp)) ?_
  rintro e w5 ⟨v4, rfl, r4, hbA⟩
  have hS4 : Over w1 w5 := hS.more hbA
  refine ⟨_, rfl, ?_⟩
  clear hS
  have hS := hS4
  clear hS4
  obtain ⟨l4, HL4⟩ : ∃ zz, Hid (zz = (75 : BitVec 8) :: [x, l1, l2].flatten) := ⟨_, rfl⟩
  rw [← HL4.out] at r4
  obtain ⟨ad4, cp4, rfl, _, _, _⟩ := id r4
  simp only [Act.put, List.getElem_toArray, List.getElem_cons_succ, List.getElem_cons_zero, List.setIfInBounds_toArray, List.set_cons_zero, List.set_cons_succ]
  replace r1 := r1.below hbA
  replace r2 := r2.below hbA
  replace r3 := r3.below hbA
  clear hbA
  refine wpAny_enter 7 (by kernel_rfl) rfl (by rfl) (f := 30) (args := #[.slice ad4 l4.length cp4]) (by simp [go_sem]) (tOf_any _ l4 _ (HK.out.below (hS.after HB1.out) HK.out.lt) r4 (by simp only [HL4.out, List.length_cons, fl3, HL2.out, HL1.out, len_num8]; have := HN.out; omega)) ?_
  rintro e w6 ⟨rfl, hbA⟩
  have hS5 : Over w1 w6 := hS.more hbA
  refine ⟨_, rfl, ?_⟩
  clear hS
  have hS := hS5
  clear hS5
  simp only [Act.put, List.getElem_toArray, List.getElem_cons_succ, List.getElem_cons_zero, List.setIfInBounds_toArray, List.set_cons_zero, List.set_cons_succ]
  replace r1 := r1.below hbA
  replace r2 := r2.below hbA
  replace r3 := r3.below hbA
  replace r4 := r4.below hbA
  clear hbA
  have E : Hid (dig l4 = dig (keyB x sr pl)) := by show _ = _; simp [keyB, HL4.out, HL2.out, HL1.out]
  obtain ⟨es, HES⟩ : ∃ zz, Hid (zz = cb (dig l4)) := ⟨_, rfl⟩
  have HLe : Hid (es.length = 32) := by show _ = _; rw [HES.out, cb_len, len_dig']
  have HZe : Hid ((Tryd.prog.info? 23).map (·.size) = some es.length) := by show _ = _; rw [HLe.out]; exact Tryd.info23
  have H1e : Hid (∀ v ∈ es, v.oneCell' = true) := by show ∀ _, _; rw [HES.out]; exact cb_one _
  have HR9 : Hid (Blk w6 (w.heap.size + 1) (cb zb32) 23) := HRB.out.below hS.out HRB.out.lt
  have HS9 : Hid (Below w.heap.size w w6) := hS.after HB1.out
  clear hS r1 r2 r3 r4
  rw [← HES.out]
  refine wpAny_store 8 23 _ _ (by kernel_rfl) rfl (by rfl) rfl (w.heap.size + 1) 0 es.toArray rfl rfl (HR9.out.there 0 _ (by rw [List.size_toArray, HLe.out, cb_len, len_zb32]; omega)) (by simpa using HZe.out) (all_oneCell_toArray H1e.out) ?_
  refine wpAny_done (by kernel_rfl) ?_ _
  have hB := HR9.out.whole es (by rw [HLe.out, cb_len, len_zb32])
  have hBe := Below.setCells (w.heap.size + 1) (by omega) es 0 _ HS9.out
  generalize World.setCells _ _ _ _ = w10 at *
  go_wp2
  refine bodyPost_ret (v := .agg es.toArray) (results_cell_row (by rfl) _ _ (w.heap.size + 1) 23 _ (0, 0) _ rfl hB Tryd.underlying23 rfl (by simpa using HZe.out)) rfl ⟨by rw [HES.out, E.out], hBe⟩
set_option maxHeartbeats 1000000 in
theorem rKeyOf_any (x : List (BitVec 8)) (sr pl : Nat) (bi si : Int) (w : World) (hp : IntKind.u64.wrap (IntKind.u64.wrap (2 * IntKind.u64.wrap bi) + IntKind.u64.wrap si) = (pl : Int)) (hn : x.length = 32 ∧ sr < 18446744073709551616 ∧ pl < 18446744073709551616) :
    Calls Tryd.prog 54 #[.agg (cb x).toArray, .int .u64 (sr : Int), .int .i64 bi, .int .i64 si] w fun e w' => e = .returned (.agg (cb (dig (keyB x sr pl))).toArray) ∧ Below w.heap.size w w' := by
  have HP : Hid (IntKind.u64.wrap (IntKind.u64.wrap (2 * IntKind.u64.wrap bi) + IntKind.u64.wrap si) = (pl : Int)) := hp
  clear hp
  have HN : Hid (x.length = 32 ∧ sr < 18446744073709551616 ∧ pl < 18446744073709551616) := hn
  clear hn
  go_enter Tryd.func54, Tryd.ntmps54
  go_wp2_with fail
  rw [zeros32]
  have hB0 : Below w.heap.size w ((w.alloc (.cells (cb x).toArray 23)).alloc (.cells (cb zb32).toArray 23)) := (below_alloc _ _).trans ((below_alloc _ _).mono (by simp))
  have rx : Reads ((w.alloc (.cells (cb x).toArray 23)).alloc (.cells (cb zb32).toArray 23)) (.slice (some ⟨w.heap.size, 0, none⟩) 32 32) x := ((Blk.new w (cb x) 23).alloc _).reads HN.out.1.symm (by have := HN.out; omega)
  have hRB : Blk ((w.alloc (.cells (cb x).toArray 23)).alloc (.cells (cb zb32).toArray 23)) (w.heap.size + 1) (cb zb32) 23 := Blk.new_at (by simp) _ _
  generalize ((w.alloc (.cells (cb x).toArray 23)).alloc (.cells (cb zb32).toArray 23)) = w0 at *
  refine wp_region_any (by kernel_rfl) ?_
  change wpAny _ _ _ _ _ _ _ (World.drew _)
  replace rx := reads_drew rx
  have hS : Over w0.drew w0.drew := Over.refl _
  have HRB : Hid (Blk w0.drew (w.heap.size + 1) (cb zb32) 23) := hRB.drew
  have HB1 : Hid (Below w.heap.size w w0.drew) := hB0.drew
  clear hB0 hRB
  generalize w0.drew = w1 at *
  refine wpAny_take (i := 0) (v := .slice (some ⟨w.heap.size, 0, none⟩) 32 32) rfl (by kernel_rfl) (by kernel_rfl) (by kernel_rfl) (fun _ _ _ h => h) (Or.inl ⟨by rfl, fun wx => by simp [execOp, Act.eval, slice_dig]⟩) ?_
  simp only [Act.put, List.getElem_toArray, List.getElem_cons_zero, List.setIfInBounds_toArray, List.set_cons_zero, List.set_cons_succ]
  refine wpAny_take (i := 1) (v := .int .u64 (sr : Int)) rfl (by kernel_rfl) (by kernel_rfl) (by kernel_rfl) (fun _ _ _ h => h) (Or.inl ⟨by rfl, fun wx => by simp [go_sem]⟩) ?_
  simp only [Act.put, List.getElem_toArray, List.getElem_cons_succ, List.getElem_cons_zero, List.setIfInBounds_toArray, List.set_cons_zero, List.set_cons_succ]
  refine wpAny_take (i := 3) (v := .int .i64 bi) rfl (by kernel_rfl) (by kernel_rfl) (by kernel_rfl) (fun _ _ _ h => h) (Or.inl ⟨by rfl, fun wx => by simp [go_sem]⟩) ?_
  simp only [Act.put, List.getElem_toArray, List.getElem_cons_succ, List.getElem_cons_zero, List.setIfInBounds_toArray, List.set_cons_zero, List.set_cons_succ]
  refine wpAny_take (i := 4) (v := .int .u64 (IntKind.u64.wrap bi)) rfl (by kernel_rfl) (by kernel_rfl) (by kernel_rfl) (fun _ _ _ h => h) (Or.inl ⟨by rfl, fun wx => by simp [go_sem]⟩) ?_
  simp only [Act.put, List.getElem_toArray, List.getElem_cons_succ, List.getElem_cons_zero, List.setIfInBounds_toArray, List.set_cons_zero, List.set_cons_succ]
  refine wpAny_take (i := 5) (v := .int .u64 (IntKind.u64.wrap (2 * IntKind.u64.wrap bi))) rfl (by kernel_rfl) (by kernel_rfl) (by kernel_rfl) (fun _ _ _ h => h) (Or.inl ⟨by rfl, fun wx => by simp [go_sem]⟩) ?_
  simp only [Act.put, List.getElem_toArray, List.getElem_cons_succ, List.getElem_cons_zero, List.setIfInBounds_toArray, List.set_cons_zero, List.set_cons_succ]
  refine wpAny_take (i := 6) (v := .int .i64 si) rfl (by kernel_rfl) (by kernel_rfl) (by kernel_rfl) (fun _ _ _ h => h) (Or.inl ⟨by rfl, fun wx => by simp [go_sem]⟩) ?_
  simp only [Act.put, List.getElem_toArray, List.getElem_cons_succ, List.getElem_cons_zero, List.setIfInBounds_toArray, List.set_cons_zero, List.set_cons_succ]
  refine wpAny_take (i := 7) (v := .int .u64 (IntKind.u64.wrap si)) rfl (by kernel_rfl) (by kernel_rfl) (by kernel_rfl) (fun _ _ _ h => h) (Or.inl ⟨by rfl, fun wx => by simp [go_sem]⟩) ?_
  simp only [Act.put, List.getElem_toArray, List.getElem_cons_succ, List.getElem_cons_zero, List.setIfInBounds_toArray, List.set_cons_zero, List.set_cons_succ]
  refine wpAny_take (i := 8) (v := .int .u64 (pl : Int)) rfl (by kernel_rfl) (by kernel_rfl) (by kernel_rfl) (fun _ _ _ h => h) (Or.inl ⟨by rfl, fun wx => by simp [go_sem, HP.out]⟩) ?_
  simp only [Act.put, List.getElem_toArray, List.getElem_cons_succ, List.getElem_cons_zero, List.setIfInBounds_toArray, List.set_cons_zero, List.set_cons_succ]
  refine wpAny_enter 2 (by kernel_rfl) rfl (by rfl) (f := 34) (args := #[.int .u64 (sr : Int)]) (by simp [go_sem]) (rnumber_any sr (by have := HN.out; omega) _) ?_
  rintro e w2 ⟨v1, rfl, r1, hbA⟩
  have hS1 : Over w1 w2 := hS.more hbA
  refine ⟨_, rfl, ?_⟩
  clear hS
  have hS := hS1
  clear hS1
  obtain ⟨l1, HL1⟩ : ∃ zz, Hid (zz = num8 sr) := ⟨_, rfl⟩
  rw [← HL1.out] at r1
  obtain ⟨ad1, cp1, rfl, _, _, _⟩ := id r1
  simp only [Act.put, List.getElem_toArray, List.getElem_cons_succ, List.getElem_cons_zero, List.setIfInBounds_toArray, List.set_cons_zero, List.set_cons_succ]
  clear hbA
  refine wpAny_enter 9 (by kernel_rfl) rfl (by rfl) (f := 34) (args := #[.int .u64 (pl : Int)]) (by simp [go_sem]) (rnumber_any pl (by have := HN.out; omega) _) ?_
  rintro e w3 ⟨v2, rfl, r2, hbA⟩
  have hS2 : Over w1 w3 := hS.more hbA
  refine ⟨_, rfl, ?_⟩
  clear hS
  have hS := hS2
  clear hS2
  obtain ⟨l2, HL2⟩ : ∃ zz, Hid (zz = num8 pl) := ⟨_, rfl⟩
  rw [← HL2.out] at r2
  obtain ⟨ad2, cp2, rfl, _, _, _⟩ := id r2
  simp only [Act.put, List.getElem_toArray, List.getElem_cons_succ, List.getElem_cons_zero, List.setIfInBounds_toArray, List.set_cons_zero, List.set_cons_succ]
  replace r1 := r1.below hbA
  clear hbA
  have hbA := below_alloc w3 (.cells #[.slice (some ⟨w.heap.size, 0, none⟩) 32 32, .slice ad1 l1.length cp1, .slice ad2 l2.length cp2] 29)
  have r3 := readsL_three (rx.below hS) r1 r2
  have hS3 : Over w1 (w3.alloc (.cells #[.slice (some ⟨w.heap.size, 0, none⟩) 32 32, .slice ad1 l1.length cp1, .slice ad2 l2.length cp2] 29)) := hS.more hbA
  refine wpAny_step 10 (.slice (some ⟨w3.heap.size, 0, none⟩) 3 3) (w3.alloc (.cells #[.slice (some ⟨w.heap.size, 0, none⟩) 32 32, .slice ad1 l1.length cp1, .slice ad2 l2.length cp2] 29)) (by kernel_rfl) rfl (by rfl) (by simp [go_sem]) ?_
  simp only [Act.put, List.getElem_toArray, List.getElem_cons_succ, List.getElem_cons_zero, List.setIfInBounds_toArray, List.set_cons_zero, List.set_cons_succ]
  replace r1 := r1.below hbA
  replace r2 := r2.below hbA
  clear hbA hS
  have hS := hS3
  clear hS3
  generalize (w3.alloc (.cells #[.slice (some ⟨w.heap.size, 0, none⟩) 32 32, .slice ad1 l1.length cp1, .slice ad2 l2.length cp2] 29)) = w4 at *
  generalize w3.heap.size = n3 at *
  refine wpAny_enter 11 (by kernel_rfl) rfl (by rfl) (f := 33) (args := #[.int .u8 75, .slice (some ⟨n3, 0, none⟩) 3 3]) (by simp [go_sem]) (rsign_any 75 _ _ _ r3 (by simp only [fl3, HL1.out, HL2.out, len_num8]; have := HN.out; omega) (by simp)) ?_
  rintro e w5 ⟨v4, rfl, r4, hbA⟩
  have hS4 : Over w1 w5 := hS.more hbA
  refine ⟨_, rfl, ?_⟩
  clear hS
  have hS := hS4
  clear hS4
  obtain ⟨l4, HL4⟩ : ∃ zz, Hid (zz = (75 : BitVec 8) :: [x, l1, l2].flatten) := ⟨_, rfl⟩
  rw [← HL4.out] at r4
  obtain ⟨ad4, cp4, rfl, _, _, _⟩ := id r4
  simp only [Act.put, List.getElem_toArray, List.getElem_cons_succ, List.getElem_cons_zero, List.setIfInBounds_toArray, List.set_cons_zero, List.set_cons_succ]
  replace r1 := r1.below hbA
  replace r2 := r2.below hbA
  replace r3 := r3.below hbA
  clear hbA
  refine wpAny_enter 12 (by kernel_rfl) rfl (by rfl) (f := 32) (args := #[.slice ad4 l4.length cp4]) (by simp [go_sem]) (rOf_any _ l4 _ r4 (by simp only [HL4.out, List.length_cons, fl3, HL2.out, HL1.out, len_num8]; have := HN.out; omega)) ?_
  rintro e w6 ⟨rfl, hbA⟩
  have hS5 : Over w1 w6 := hS.more hbA
  refine ⟨_, rfl, ?_⟩
  clear hS
  have hS := hS5
  clear hS5
  simp only [Act.put, List.getElem_toArray, List.getElem_cons_succ, List.getElem_cons_zero, List.setIfInBounds_toArray, List.set_cons_zero, List.set_cons_succ]
  replace r1 := r1.below hbA
  replace r2 := r2.below hbA
  replace r3 := r3.below hbA
  replace r4 := r4.below hbA
  clear hbA
  have E : Hid (dig l4 = dig (keyB x sr pl)) := by show _ = _; simp [keyB, HL4.out, HL2.out, HL1.out]
  obtain ⟨es, HES⟩ : ∃ zz, Hid (zz = cb (dig l4)) := ⟨_, rfl⟩
  have HLe : Hid (es.length = 32) := by show _ = _; rw [HES.out, cb_len, len_dig']
  have HZe : Hid ((Tryd.prog.info? 23).map (·.size) = some es.length) := by show _ = _; rw [HLe.out]; exact Tryd.info23
  have H1e : Hid (∀ v ∈ es, v.oneCell' = true) := by show ∀ _, _; rw [HES.out]; exact cb_one _
  have HR9 : Hid (Blk w6 (w.heap.size + 1) (cb zb32) 23) := HRB.out.below hS.out HRB.out.lt
  have HS9 : Hid (Below w.heap.size w w6) := hS.after HB1.out
  clear hS r1 r2 r3 r4
  rw [← HES.out]
  refine wpAny_store 13 23 _ _ (by kernel_rfl) rfl (by rfl) rfl (w.heap.size + 1) 0 es.toArray rfl rfl (HR9.out.there 0 _ (by rw [List.size_toArray, HLe.out, cb_len, len_zb32]; omega)) (by simpa using HZe.out) (all_oneCell_toArray H1e.out) ?_
  refine wpAny_done (by kernel_rfl) ?_ _
  have hB := HR9.out.whole es (by rw [HLe.out, cb_len, len_zb32])
  have hBe := Below.setCells (w.heap.size + 1) (by omega) es 0 _ HS9.out
  generalize World.setCells _ _ _ _ = w10 at *
  go_wp2
  refine bodyPost_ret (v := .agg es.toArray) (results_cell_row (by rfl) _ _ (w.heap.size + 1) 23 _ (0, 0) _ rfl hB Tryd.underlying23 rfl (by simpa using HZe.out)) rfl ⟨by rw [HES.out, E.out], hBe⟩
end Go.Proofs.YtfbdnhadcnmfoaaDoor
/- Numbers, texts and lists as bytes, each in one way: plain lists, no program is named here. -/
namespace Go.Proofs.YtfbdnhadcnmfoaaDoor
/-- a number's groups of seven bits, the lowest first -/
def encNum (n : Nat) : List (BitVec 8) := if h : n < 128 then [BitVec.ofNat 8 n] else BitVec.ofNat 8 (n % 128 + 128) :: encNum (n / 128)
termination_by n
decreasing_by omega
theorem encNum_lt {n : Nat} (h : n < 128) : encNum n = [BitVec.ofNat 8 n] := by rw [encNum, dif_pos h]
theorem encNum_ge {n : Nat} (h : ¬ n < 128) : encNum n = BitVec.ofNat 8 (n % 128 + 128) :: encNum (n / 128) := by rw [encNum, dif_neg h]
theorem encNum_pos (n : Nat) : 0 < (encNum n).length := by
  by_cases h : n < 128
  · rw [encNum_lt h]; simp
  · rw [encNum_ge h]; simp
/-- how many groups may still come, which place is the next one's, what was read; the number and what is left -/
def decNum : Nat → Nat → Nat → List (BitVec 8) → Option (Nat × List (BitVec 8))
  | 0, _, _, _ => none
  | _ + 1, _, _, [] => none
  | k + 1, i, acc, c :: r =>
    if (i = 9 ∧ 1 < c.toNat) ∨ (0 < i ∧ c.toNat = 0) then none
    else if c.toNat < 128 then some (acc + c.toNat % 128 * 2 ^ (7 * i), r) else decNum k (i + 1) (acc + c.toNat % 128 * 2 ^ (7 * i)) r
def readNum (b : List (BitVec 8)) : Option (Nat × List (BitVec 8)) := decNum 10 0 0 b
theorem pow7 (i : Nat) : (2 : Nat) ^ (7 * (i + 1)) = 2 ^ (7 * i) * 128 := by rw [show 7 * (i + 1) = 7 * i + 7 by omega, Nat.pow_add]
/-- what was written is read, wherever it stands -/
theorem decNum_enc : ∀ (k i acc n : Nat) (r : List (BitVec 8)), i + k = 10 → (0 < i → 0 < n) → n * 2 ^ (7 * i) < 18446744073709551616 → decNum k i acc (encNum n ++ r) = some (acc + n * 2 ^ (7 * i), r)
  | 0, i, acc, n, r, hk, hp, hn => by
    exfalso
    have h10 : i = 10 := by omega
    subst h10
    have := hp (by omega)
    simp only [Nat.reduceMul, Nat.reducePow] at hn
    omega
  | k + 1, i, acc, n, r, hk, hp, hn => by
    by_cases h : n < 128
    · rw [encNum_lt h, List.singleton_append, decNum]
      have e : (BitVec.ofNat 8 n).toNat = n := by rw [BitVec.toNat_ofNat]; omega
      rw [e]
      have h1 : ¬ ((i = 9 ∧ 1 < n) ∨ (0 < i ∧ n = 0)) := by
        rintro (⟨rfl, h2⟩ | ⟨h2, h3⟩)
        · simp only [Nat.reduceMul, Nat.reducePow] at hn; omega
        · have := hp h2; omega
      rw [if_neg h1, if_pos h, Nat.mod_eq_of_lt h]
    · rw [encNum_ge h, List.cons_append, decNum]
      have e : (BitVec.ofNat 8 (n % 128 + 128)).toNat = n % 128 + 128 := by rw [BitVec.toNat_ofNat]; omega
      rw [e]
      have h9 : i ≠ 9 := by
        rintro rfl
        simp only [Nat.reduceMul, Nat.reducePow] at hn; omega
      have h1 : ¬ ((i = 9 ∧ 1 < n % 128 + 128) ∨ (0 < i ∧ n % 128 + 128 = 0)) := by omega
      have e2 : (n % 128 + 128) % 128 = n % 128 := by omega
      have hd := Nat.div_add_mod n 128
      have e3 : n % 128 * 2 ^ (7 * i) + n / 128 * 2 ^ (7 * (i + 1)) = n * 2 ^ (7 * i) := by
        rw [pow7, ← Nat.mul_assoc, Nat.mul_right_comm, ← Nat.add_mul]
        congr 1; omega
      rw [if_neg h1, if_neg (by omega), e2, decNum_enc k (i + 1) _ (n / 128) r (by omega) (fun _ => by omega) (by omega)]
      congr 2
      omega
/-- what is read was written -/
theorem decNum_some : ∀ (k i acc : Nat) (b r : List (BitVec 8)) (m : Nat), i + k = 10 → decNum k i acc b = some (m, r) → ∃ n, m = acc + n * 2 ^ (7 * i) ∧ (0 < i → 0 < n) ∧ n * 2 ^ (7 * i) < 18446744073709551616 ∧ b = encNum n ++ r
  | 0, _, _, _, _, _, _, h => by simp [decNum] at h
  | k + 1, _, _, [], _, _, _, h => by simp [decNum] at h
  | k + 1, i, acc, c :: t, r, m, hk, h => by
    have hc := c.isLt
    rw [decNum] at h
    by_cases h1 : (i = 9 ∧ 1 < c.toNat) ∨ (0 < i ∧ c.toNat = 0)
    · rw [if_pos h1] at h; cases h
    · rw [if_neg h1] at h
      by_cases h2 : c.toNat < 128
      · rw [if_pos h2] at h
        simp only [Option.some.injEq, Prod.mk.injEq] at h
        obtain ⟨rfl, rfl⟩ := h
        refine ⟨c.toNat, by rw [Nat.mod_eq_of_lt h2], fun hi => by omega, ?_, ?_⟩
        · by_cases h9 : i = 9
          · subst h9
            simp only [Nat.reduceMul, Nat.reducePow]; omega
          · have h8 : 7 * i ≤ 56 := by omega
            have hp : (2 : Nat) ^ (7 * i) ≤ 2 ^ 56 := Nat.pow_le_pow_right (by omega) h8
            have : c.toNat * 2 ^ (7 * i) ≤ 127 * 2 ^ 56 := Nat.mul_le_mul (by omega) hp
            simp only [Nat.reducePow] at this
            omega
        · rw [encNum_lt h2, List.singleton_append]
          congr 1
          apply BitVec.eq_of_toNat_eq
          rw [BitVec.toNat_ofNat]; omega
      · rw [if_neg h2] at h
        have h9 : i ≠ 9 := by omega
        obtain ⟨n, e1, e2, e3, e4⟩ := decNum_some k (i + 1) _ t r m (by omega) h
        have hn := e2 (by omega)
        have hd : (c.toNat % 128 + n * 128) % 128 = c.toNat % 128 := by omega
        have hq : (c.toNat % 128 + n * 128) / 128 = n := by omega
        have e5 : (c.toNat % 128 + n * 128) * 2 ^ (7 * i) = c.toNat % 128 * 2 ^ (7 * i) + n * 2 ^ (7 * (i + 1)) := by
          rw [pow7, Nat.add_mul, Nat.mul_right_comm, Nat.mul_assoc n]
        refine ⟨c.toNat % 128 + n * 128, ?_, fun _ => by omega, ?_, ?_⟩
        · rw [e5, e1]; omega
        · rw [e5]
          have h8 : i ≤ 8 := by omega
          have hz : n * 2 ^ (7 * (i + 1)) + 2 ^ (7 * (i + 1)) ≤ 18446744073709551616 := by
            have hdv : 2 ^ (7 * (i + 1)) ∣ 18446744073709551616 := by
              rw [show (18446744073709551616 : Nat) = 2 ^ 64 from rfl]
              exact Nat.pow_dvd_pow 2 (by omega)
            obtain ⟨q, hq2⟩ := hdv
            rw [hq2] at e3 ⊢
            rw [Nat.mul_comm n] at e3 ⊢
            have hlt : n < q := Nat.lt_of_mul_lt_mul_left e3
            rw [← Nat.mul_succ]
            exact Nat.mul_le_mul_left _ hlt
          have h7 : c.toNat % 128 * 2 ^ (7 * i) < 2 ^ (7 * (i + 1)) := by
            rw [pow7, Nat.mul_comm (2 ^ (7 * i))]
            exact Nat.mul_lt_mul_of_pos_right (by omega) (Nat.pow_pos (by omega))
          omega
        · rw [encNum_ge (by omega), hd, hq, List.cons_append, e4]
          congr 1
          apply BitVec.eq_of_toNat_eq
          rw [BitVec.toNat_ofNat]; omega
theorem readNum_iff (b r : List (BitVec 8)) (n : Nat) : readNum b = some (n, r) ↔ n < 18446744073709551616 ∧ b = encNum n ++ r := by
  constructor
  · intro h
    obtain ⟨m, e1, _, e3, e4⟩ := decNum_some 10 0 0 b r n rfl h
    simp only [Nat.mul_zero, Nat.pow_zero, Nat.mul_one, Nat.zero_add] at e1 e3
    subst e1
    exact ⟨e3, e4⟩
  · rintro ⟨h, rfl⟩
    have := decNum_enc 10 0 0 n r rfl (fun h => by omega) (by simpa using h)
    simpa [readNum] using this
/-- no number's bytes begin another one's -/
theorem encNum_pre {n m : Nat} {r s : List (BitVec 8)} (hn : n < 18446744073709551616) (hm : m < 18446744073709551616) (h : encNum n ++ r = encNum m ++ s) : n = m ∧ r = s := by
  have h1 := (readNum_iff (encNum n ++ r) r n).2 ⟨hn, rfl⟩
  have h2 := (readNum_iff (encNum n ++ r) s m).2 ⟨hm, h⟩
  rw [h1] at h2
  simpa using h2
def encText (t : List (BitVec 8)) : List (BitVec 8) := encNum t.length ++ t
def readText (b : List (BitVec 8)) : Option (List (BitVec 8) × List (BitVec 8)) :=
  match readNum b with
  | none => none
  | some (n, r) => if n ≤ 1048576 ∧ n ≤ r.length then some (r.take n, r.drop n) else none
theorem readText_iff (b r t : List (BitVec 8)) : readText b = some (t, r) ↔ t.length ≤ 1048576 ∧ b = encText t ++ r := by
  unfold readText
  constructor
  · intro h
    cases h1 : readNum b with
    | none => rw [h1] at h; cases h
    | some p =>
      obtain ⟨n, q⟩ := p
      rw [h1] at h
      obtain ⟨_, hb⟩ := (readNum_iff _ _ _).1 h1
      simp only at h
      by_cases h2 : n ≤ 1048576 ∧ n ≤ q.length
      · rw [if_pos h2] at h
        simp only [Option.some.injEq, Prod.mk.injEq] at h
        obtain ⟨rfl, rfl⟩ := h
        have hl : (q.take n).length = n := by rw [List.length_take]; omega
        refine ⟨by omega, ?_⟩
        rw [encText, hl, List.append_assoc, List.take_append_drop, hb]
      · rw [if_neg h2] at h; cases h
  · rintro ⟨h, rfl⟩
    rw [encText, List.append_assoc, (readNum_iff _ _ _).2 ⟨by omega, rfl⟩]
    simp only
    rw [if_pos ⟨h, by simp⟩]
    simp
theorem encText_pre {t u r s : List (BitVec 8)} (ht : t.length < 18446744073709551616) (hu : u.length < 18446744073709551616) (h : encText t ++ r = encText u ++ s) : t = u ∧ r = s := by
  unfold encText at h
  rw [List.append_assoc, List.append_assoc] at h
  obtain ⟨h1, h2⟩ := encNum_pre ht hu h
  exact List.append_inj h2 h1
/-- a list of things, each written by f, one behind the other -/
def encAll {α : Type} (f : α → List (BitVec 8)) (l : List α) : List (BitVec 8) := (l.map f).flatten
theorem encAll_cons {α : Type} (f : α → List (BitVec 8)) (a : α) (l : List α) : encAll f (a :: l) = f a ++ encAll f l := by simp [encAll]
def readAll {α : Type} (g : List (BitVec 8) → Option (α × List (BitVec 8))) : Nat → List (BitVec 8) → Option (List α × List (BitVec 8))
  | 0, b => some ([], b)
  | k + 1, b =>
    match g b with
    | none => none
    | some (a, r) =>
      match readAll g k r with
      | none => none
      | some (l, s) => some (a :: l, s)
theorem readAll_iff {α : Type} {f : α → List (BitVec 8)} {g : List (BitVec 8) → Option (α × List (BitVec 8))} {ok : α → Prop} (hg : ∀ b r a, g b = some (a, r) ↔ ok a ∧ b = f a ++ r) :
    ∀ (k : Nat) (b r : List (BitVec 8)) (l : List α), readAll g k b = some (l, r) ↔ l.length = k ∧ (∀ a ∈ l, ok a) ∧ b = encAll f l ++ r
  | 0, b, r, l => by
    simp only [readAll, Option.some.injEq, Prod.mk.injEq]
    constructor
    · rintro ⟨rfl, rfl⟩; simp [encAll]
    · rintro ⟨h1, _, h3⟩
      have := List.eq_nil_of_length_eq_zero h1
      subst this
      simp [encAll] at h3
      exact ⟨rfl, h3⟩
  | k + 1, b, r, l => by
    rw [readAll]
    constructor
    · intro h
      cases h1 : g b with
      | none => rw [h1] at h; cases h
      | some p =>
        obtain ⟨a, q⟩ := p
        rw [h1] at h
        simp only at h
        cases h2 : readAll g k q with
        | none => rw [h2] at h; cases h
        | some p2 =>
          obtain ⟨l2, s⟩ := p2
          rw [h2] at h
          simp only [Option.some.injEq, Prod.mk.injEq] at h
          obtain ⟨rfl, rfl⟩ := h
          obtain ⟨o1, rfl⟩ := (hg _ _ _).1 h1
          obtain ⟨o2, o3, rfl⟩ := (readAll_iff hg k _ _ _).1 h2
          refine ⟨by simp [o2], ?_, by rw [encAll_cons, List.append_assoc]⟩
          intro x hx
          rcases List.mem_cons.1 hx with rfl | hx
          · exact o1
          · exact o3 x hx
    · rintro ⟨h1, h2, rfl⟩
      cases l with
      | nil => simp at h1
      | cons a l =>
        rw [encAll_cons, List.append_assoc, (hg _ _ _).2 ⟨h2 a (by simp), rfl⟩]
        simp only
        rw [(readAll_iff hg k _ _ l).2 ⟨by simpa using h1, fun x hx => h2 x (by simp [hx]), rfl⟩]
def encList {α : Type} (f : α → List (BitVec 8)) (l : List α) : List (BitVec 8) := encNum l.length ++ encAll f l
def readList {α : Type} (g : List (BitVec 8) → Option (α × List (BitVec 8))) (b : List (BitVec 8)) : Option (List α) :=
  match readNum b with
  | none => none
  | some (n, r) => if n ≤ 4096 then (match readAll g n r with | some (l, []) => some l | _ => none) else none
theorem readList_iff {α : Type} {f : α → List (BitVec 8)} {g : List (BitVec 8) → Option (α × List (BitVec 8))} {ok : α → Prop} (hg : ∀ b r a, g b = some (a, r) ↔ ok a ∧ b = f a ++ r) (b : List (BitVec 8)) (l : List α) :
    readList g b = some l ↔ l.length ≤ 4096 ∧ (∀ a ∈ l, ok a) ∧ b = encList f l := by
  unfold readList
  constructor
  · intro h
    cases h1 : readNum b with
    | none => rw [h1] at h; cases h
    | some p =>
      obtain ⟨n, r⟩ := p
      rw [h1] at h
      simp only at h
      obtain ⟨_, hb⟩ := (readNum_iff _ _ _).1 h1
      by_cases h2 : n ≤ 4096
      · rw [if_pos h2] at h
        cases h3 : readAll g n r with
        | none => rw [h3] at h; cases h
        | some p =>
          obtain ⟨l2, s⟩ := p
          rw [h3] at h
          cases s with
          | cons x s => simp at h
          | nil =>
            simp only [Option.some.injEq] at h
            subst h
            obtain ⟨o1, o2, o3⟩ := (readAll_iff hg n _ _ _).1 h3
            exact ⟨by omega, o2, by rw [hb, o3, List.append_nil, encList, o1]⟩
      · rw [if_neg h2] at h; cases h
  · rintro ⟨h1, h2, rfl⟩
    rw [encList, (readNum_iff _ _ _).2 ⟨by omega, rfl⟩]
    simp only
    rw [if_pos h1]
    have := (readAll_iff hg l.length (encAll f l) [] l).2 ⟨rfl, h2, by simp⟩
    rw [this]
theorem encAll_pre {α : Type} {f : α → List (BitVec 8)} {ok : α → Prop} (hf : ∀ a b r s, ok a → ok b → f a ++ r = f b ++ s → a = b ∧ r = s) :
    ∀ (l m : List α) (r s : List (BitVec 8)), l.length = m.length → (∀ a ∈ l, ok a) → (∀ a ∈ m, ok a) → encAll f l ++ r = encAll f m ++ s → l = m ∧ r = s
  | [], [], r, s, _, _, _, h => ⟨rfl, by simpa [encAll] using h⟩
  | [], b :: m, _, _, hl, _, _, _ => by simp at hl
  | a :: l, [], _, _, hl, _, _, _ => by simp at hl
  | a :: l, b :: m, r, s, hl, h1, h2, h => by
    rw [encAll_cons, encAll_cons, List.append_assoc, List.append_assoc] at h
    obtain ⟨rfl, h3⟩ := hf _ _ _ _ (h1 a (by simp)) (h2 b (by simp)) h
    obtain ⟨rfl, h4⟩ := encAll_pre hf l m r s (by simpa using hl) (fun x hx => h1 x (by simp [hx])) (fun x hx => h2 x (by simp [hx])) h3
    exact ⟨rfl, h4⟩
/-- no list's bytes begin another one's -/
theorem encList_pre {α : Type} {f : α → List (BitVec 8)} {ok : α → Prop} (hf : ∀ a b r s, ok a → ok b → f a ++ r = f b ++ s → a = b ∧ r = s) {l m : List α} {r s : List (BitVec 8)}
    (hl : l.length < 18446744073709551616) (hm : m.length < 18446744073709551616) (h1 : ∀ a ∈ l, ok a) (h2 : ∀ a ∈ m, ok a) (h : encList f l ++ r = encList f m ++ s) : l = m ∧ r = s := by
  unfold encList at h
  rw [List.append_assoc, List.append_assoc] at h
  obtain ⟨h3, h4⟩ := encNum_pre hl hm h
  exact encAll_pre hf l m r s h3 h1 h2 h4
theorem readNum_ok : ∀ b r a, readNum b = some (a, r) ↔ a < 18446744073709551616 ∧ b = encNum a ++ r := fun b r a => readNum_iff b r a
theorem readText_ok : ∀ b r a, readText b = some (a, r) ↔ a.length ≤ 1048576 ∧ b = encText a ++ r := fun b r a => readText_iff b r a
theorem encNum_pre' : ∀ a b r s, a < 18446744073709551616 → b < 18446744073709551616 → encNum a ++ r = encNum b ++ s → a = b ∧ r = s := fun _ _ _ _ h1 h2 h => encNum_pre h1 h2 h
theorem encText_pre' : ∀ a b r s, a.length < 18446744073709551616 → b.length < 18446744073709551616 → encText a ++ r = encText b ++ s → a = b ∧ r = s := fun _ _ _ _ h1 h2 h => encText_pre h1 h2 h
end Go.Proofs.YtfbdnhadcnmfoaaDoor
/- What the walks of the tree share with those of the older layers: one name for them all. -/

/- Plain: the bits of 32 bytes, the first one at which two of them part, and which of the two stands ahead. -/
namespace Go.Proofs.YtfbdnhadcnmfoaaDoor
open Go.RowKit
set_option maxRecDepth 100000
/-- bit i of the bytes x, the highest of the first byte first -/
def bt (x : List (BitVec 8)) (i : Nat) : Bool := (x.getD (i / 8) 0).getMsbD (i % 8)
def isB (i : Int) : Bool := decide (0 ≤ i) && decide (i < 256)
def bitI (x : List (BitVec 8)) (i : Int) : Bool := isB i && bt x i.toNat
def mask (i : Nat) : BitVec 8 := 128#8 >>> (i % 8)
def setB (b : BitVec 8) (i : Nat) (on : Bool) : BitVec 8 := if on then b ||| mask i else b &&& ~~~(mask i)
def setN (x : List (BitVec 8)) (i : Nat) (on : Bool) : List (BitVec 8) := x.set (i / 8) (setB (x.getD (i / 8) 0) i on)
def setI (x : List (BitVec 8)) (i : Int) (on : Bool) : List (BitVec 8) := if isB i then setN x i.toNat on else x
theorem isB_iff (i : Int) : isB i = true ↔ 0 ≤ i ∧ i < 256 := by simp [isB]
theorem bitI_nat (x : List (BitVec 8)) (i : Nat) (h : i < 256) : bitI x (i : Int) = bt x i := by
  have : isB (i : Int) = true := (isB_iff _).2 ⟨by omega, by omega⟩
  simp [bitI, this]
theorem setI_nat (x : List (BitVec 8)) (i : Nat) (on : Bool) (h : i < 256) : setI x (i : Int) on = setN x i on := by
  have : isB (i : Int) = true := (isB_iff _).2 ⟨by omega, by omega⟩
  simp [setI, this]
theorem setN_len (x : List (BitVec 8)) (i : Nat) (on : Bool) : (setN x i on).length = x.length := by simp [setN]
theorem setI_len (x : List (BitVec 8)) (i : Int) (on : Bool) : (setI x i on).length = x.length := by unfold setI; split <;> simp [setN_len]
theorem mask_msb : ∀ k j : Fin 8, (128#8 >>> k.val).getMsbD j.val = decide (j = k) := by decide +kernel
theorem mask_and : ∀ (b : BitVec 8) (k : Fin 8), decide (b &&& (128#8 >>> k.val) = 0#8) = !b.getMsbD k.val := by decide +kernel
theorem mask_add : ∀ (b : BitVec 8) (k : Fin 8), b.getMsbD k.val = false → b + BitVec.ofNat 8 (2 ^ (7 - k.val)) = b ||| (128#8 >>> k.val) := by decide +kernel
theorem mask_sub : ∀ (b : BitVec 8) (k : Fin 8), b.getMsbD k.val = true → b - BitVec.ofNat 8 (2 ^ (7 - k.val)) = b &&& ~~~(128#8 >>> k.val) := by decide +kernel
theorem mask_on : ∀ (b : BitVec 8) (k : Fin 8), b.getMsbD k.val = true → b ||| (128#8 >>> k.val) = b := by decide +kernel
theorem mask_off : ∀ (b : BitVec 8) (k : Fin 8), b.getMsbD k.val = false → b &&& ~~~(128#8 >>> k.val) = b := by decide +kernel
theorem mask_div : ∀ (b : BitVec 8) (k : Fin 8), decide (b.toNat / 2 ^ (7 - k.val) % 2 = 1) = b.getMsbD k.val := by decide +kernel
theorem setB_msb (b : BitVec 8) (i : Nat) (on : Bool) (j : Nat) (hj : j < 8) : (setB b i on).getMsbD j = if j = i % 8 then on else b.getMsbD j := by
  have h := mask_msb ⟨i % 8, by omega⟩ ⟨j, hj⟩
  simp only [Fin.mk.injEq] at h
  unfold setB mask
  cases on
  · simp only [Bool.false_eq_true, if_false, BitVec.getMsbD_and, BitVec.getMsbD_not, h]
    by_cases e : j = i % 8 <;> simp [e, hj]
  · simp only [if_true, BitVec.getMsbD_or, h]
    by_cases e : j = i % 8 <;> simp [e]
theorem setB_same (b : BitVec 8) (i : Nat) (on : Bool) (h : b.getMsbD (i % 8) = on) : setB b i on = b := by
  unfold setB mask
  cases on
  · simpa using mask_off b ⟨i % 8, by omega⟩ h
  · simpa using mask_on b ⟨i % 8, by omega⟩ h
theorem bt_set (x : List (BitVec 8)) (hx : x.length = 32) (i j : Nat) (on : Bool) (hi : i < 256) (_ : j < 256) : bt (setN x i on) j = if j = i then on else bt x j := by
  unfold bt setN
  by_cases h : i / 8 = j / 8
  · rw [h, List.getD_eq_getElem?_getD, List.getElem?_set_self (by omega), Option.getD_some, setB_msb _ _ _ _ (by omega)]
    by_cases e : j = i
    · subst e; simp
    · rw [if_neg (by omega), if_neg e]
  · rw [List.getD_eq_getElem?_getD, List.getElem?_set_ne h, if_neg (by intro e; subst e; exact h rfl), List.getD_eq_getElem?_getD]
theorem setI_same (x : List (BitVec 8)) (hx : x.length = 32) (i : Int) (on : Bool) (h : isB i = true) (hb : bitI x i = on) : setI x i on = x := by
  have hi := (isB_iff i).1 h
  unfold setI
  rw [if_pos h]
  have hb2 : bt x i.toNat = on := by simpa [bitI, h] using hb
  unfold setN
  rw [setB_same _ _ _ hb2, List.getD_eq_getElem?_getD]
  apply List.ext_getElem?
  intro k
  by_cases e : i.toNat / 8 = k
  · subst e
    rw [List.getElem?_set_self (by omega), List.getElem?_eq_getElem (by omega), Option.getD_some]
  · rw [List.getElem?_set_ne e]
theorem bits_ext (x y : List (BitVec 8)) (hx : x.length = 32) (hy : y.length = 32) (h : ∀ j, j < 256 → bt x j = bt y j) : x = y := by
  apply List.ext_getElem (by omega)
  intro k h1 h2
  apply BitVec.eq_of_getMsbD_eq
  intro j hj
  have := h (8 * k + j) (by omega)
  unfold bt at this
  rw [show (8 * k + j) / 8 = k by omega, show (8 * k + j) % 8 = j by omega] at this
  simpa [h1, h2] using this
/-- how many bits, from the first one on, are alike -/
def common (x y : List (BitVec 8)) : Nat := ((List.range 256).find? fun i => bt x i != bt y i).getD 256
theorem common_spec (x y : List (BitVec 8)) : common x y ≤ 256 ∧ (∀ j, j < common x y → bt x j = bt y j) ∧ (common x y < 256 → bt x (common x y) ≠ bt y (common x y)) := by
  unfold common
  cases h : (List.range 256).find? fun i => bt x i != bt y i with
  | none =>
    rw [List.find?_eq_none] at h
    refine ⟨by simp, fun j hj => ?_, fun h => by simp at h⟩
    have := h j (by simpa using hj)
    simpa using this
  | some n =>
    obtain ⟨h1, ps, qs, h2, h3⟩ := List.find?_eq_some_iff_append.1 h
    have hn : n ∈ List.range 256 := by rw [h2]; simp
    have hlen : ps.length = n := by
      have e1 : (List.range 256)[ps.length]? = some n := by rw [h2]; simp
      rw [List.getElem?_range (by have := congrArg List.length h2; simp at this; omega)] at e1
      exact Option.some.inj e1
    simp only [Option.getD_some]
    refine ⟨by have := List.mem_range.1 hn; omega, fun j hj => ?_, fun _ => by simpa using h1⟩
    have hm : j ∈ ps := by
      have e1 : (List.range 256)[j]? = some j := List.getElem?_range (by have := List.mem_range.1 hn; omega)
      rw [h2, List.getElem?_append_left (by omega)] at e1
      exact List.mem_of_getElem? e1
    have := h3 j hm
    simpa using this
theorem common_is (x y : List (BitVec 8)) (n : Nat) (h0 : n ≤ 256) (h1 : ∀ j, j < n → bt x j = bt y j) (h2 : n < 256 → bt x n ≠ bt y n) : common x y = n := by
  obtain ⟨a, b, c⟩ := common_spec x y
  rcases Nat.lt_trichotomy (common x y) n with h | h | h
  · exact absurd (h1 _ h) (c (by omega))
  · exact h
  · exact absurd (b _ h) (h2 (by omega))
theorem common_comm (x y : List (BitVec 8)) : common x y = common y x := by
  obtain ⟨a, b, c⟩ := common_spec y x
  exact common_is x y _ a (fun j hj => (b j hj).symm) (fun h => (c h).symm)
theorem common_same (x : List (BitVec 8)) : common x x = 256 := common_is x x 256 (Nat.le_refl _) (fun _ _ => rfl) (by omega)
theorem common_lt (x y : List (BitVec 8)) (hx : x.length = 32) (hy : y.length = 32) (h : x ≠ y) : common x y < 256 := by
  obtain ⟨a, b, c⟩ := common_spec x y
  rcases Nat.lt_or_ge (common x y) 256 with h' | h'
  · exact h'
  · exact absurd (bits_ext x y hx hy (fun j hj => b j (by omega))) h
/-- y is x with all bits from n on off -/
def IsCut (x : List (BitVec 8)) (n : Int) (y : List (BitVec 8)) : Prop := y.length = 32 ∧ ∀ j, j < 256 → bt y j = (decide ((j : Int) < n) && bt x j)
theorem IsCut.uniq {x : List (BitVec 8)} {n : Int} {y z : List (BitVec 8)} (h : IsCut x n y) (k : IsCut x n z) : y = z :=
  bits_ext y z h.1 k.1 fun j hj => by rw [h.2 j hj, k.2 j hj]
theorem IsCut.common {a b y z : List (BitVec 8)} (h : IsCut a (common a b : Int) y) (k : IsCut b (common a b : Int) z) : y = z :=
  bits_ext y z h.1 k.1 fun j hj => by
    rw [h.2 j hj, k.2 j hj]
    by_cases hlt : j < Go.Proofs.YtfbdnhadcnmfoaaDoor.common a b
    · rw [(common_spec a b).2.1 j hlt]
    · have : ¬ ((j : Int) < (Go.Proofs.YtfbdnhadcnmfoaaDoor.common a b : Int)) := by omega
      simp [this]
/-- is x, byte by byte, ahead of y -/
def lessB : List (BitVec 8) → List (BitVec 8) → Bool
  | a :: ps, b :: qs => if a = b then lessB ps qs else decide (a.toNat < b.toNat)
  | _, _ => false
theorem lessB_self : ∀ x, lessB x x = false
  | [] => rfl
  | a :: x => by simp [lessB, lessB_self x]
theorem lessB_trans : ∀ (x y z : List (BitVec 8)), lessB x y = true → lessB y z = true → lessB x z = true
  | a :: x, b :: y, c :: z => by
    intro h k
    unfold lessB at *
    by_cases e1 : a = b
    · subst e1
      rw [if_pos rfl] at h
      by_cases e2 : a = c
      · rw [if_pos e2] at k ⊢; exact lessB_trans x y z h k
      · rw [if_neg e2] at k ⊢; exact k
    · rw [if_neg e1] at h
      by_cases e2 : b = c
      · subst e2; rw [if_neg e1]; exact h
      · rw [if_neg e2] at k
        have h' := of_decide_eq_true h
        have k' := of_decide_eq_true k
        rw [if_neg (by intro e; subst e; omega)]
        exact decide_eq_true (by omega)
  | [], _, _ => by intro h; simp [lessB] at h
  | _ :: _, [], _ => by intro h; simp [lessB] at h
  | _ :: _, _ :: _, [] => by intro _ h; simp [lessB] at h
theorem lessB_at : ∀ (k : Nat) (x y : List (BitVec 8)), x.length = y.length → k < x.length → (∀ j, j < k → x.getD j 0 = y.getD j 0) → x.getD k 0 ≠ y.getD k 0 → lessB x y = decide ((x.getD k 0).toNat < (y.getD k 0).toNat)
  | 0, a :: x, b :: y, _, _, _, h => by simp at h; simp [lessB, h]
  | k + 1, a :: x, b :: y, hl, hk, he, h => by
    have h0 : a = b := by simpa using he 0 (by omega)
    subst h0
    unfold lessB
    rw [if_pos rfl]
    simpa using lessB_at k x y (by simpa using hl) (by simpa using hk) (fun j hj => by simpa using he (j + 1) (by omega)) (by simpa using h)
  | _, [], _, _, hk, _, _ => by simp at hk
  | _, _ :: _, [], hl, _, _, _ => by simp at hl
theorem lessB_none (x y : List (BitVec 8)) (hl : x.length = y.length) (he : ∀ j, j < x.length → x.getD j 0 = y.getD j 0) : lessB x y = false := by
  have : x = y := by
    apply List.ext_getElem hl
    intro j h1 h2
    have := he j h1
    simpa [h1, h2] using this
  subst this; exact lessB_self x
theorem byte_lt (a b : BitVec 8) (m : Nat) (hm : m < 8) (h : ∀ j, j < m → a.getMsbD j = b.getMsbD j) (hn : a.getMsbD m ≠ b.getMsbD m) : decide (a.toNat < b.toNat) = b.getMsbD m := by
  have key : ∀ (c : BitVec 8) (j : Nat), j < 8 → decide (c.toNat / 2 ^ (7 - j) % 2 = 1) = c.getMsbD j := fun c j hj => mask_div c ⟨j, hj⟩
  have h' : ∀ j, j < m → (a.toNat / 2 ^ (7 - j) % 2 = 1 ↔ b.toNat / 2 ^ (7 - j) % 2 = 1) := fun j hj => by
    have := h j hj
    rw [← key a j (by omega), ← key b j (by omega), decide_eq_decide] at this
    exact this
  rw [← key a m hm, ← key b m hm, ne_eq, decide_eq_decide] at hn
  rw [← key b m hm, decide_eq_decide]
  have ha := a.isLt
  have hb := b.isLt
  generalize a.toNat = p at *
  generalize b.toNat = q at *
  have pre : ∀ k, k ≤ m → p / 2 ^ (8 - k) = q / 2 ^ (8 - k) := by
    intro k
    induction k with
    | zero => intro _; rw [Nat.div_eq_of_lt (by simpa using ha), Nat.div_eq_of_lt (by simpa using hb)]
    | succ k ih =>
      intro hk
      have e := ih (by omega)
      have f := h' k (by omega)
      rw [show 8 - k = (7 - k) + 1 by omega, Nat.pow_succ, ← Nat.div_div_eq_div_mul, ← Nat.div_div_eq_div_mul] at e
      rw [show 8 - (k + 1) = 7 - k by omega]
      omega
  have e := pre m (Nat.le_refl _)
  rw [show 8 - m = (7 - m) + 1 by omega, Nat.pow_succ, ← Nat.div_div_eq_div_mul, ← Nat.div_div_eq_div_mul] at e
  have h1 : q ≤ p → q / 2 ^ (7 - m) ≤ p / 2 ^ (7 - m) := fun h => Nat.div_le_div_right h
  have h2 : p ≤ q → p / 2 ^ (7 - m) ≤ q / 2 ^ (7 - m) := fun h => Nat.div_le_div_right h
  generalize p / 2 ^ (7 - m) = u at *
  generalize q / 2 ^ (7 - m) = v at *
  omega
theorem less_common (x y : List (BitVec 8)) (hx : x.length = 32) (hy : y.length = 32) (h : x ≠ y) : lessB x y = bt y (common x y) := by
  obtain ⟨a, b, c⟩ := common_spec x y
  have hn := common_lt x y hx hy h
  generalize common x y = n at *
  have hd := c hn
  have hbit : ∀ j, j < n % 8 → (x.getD (n / 8) 0).getMsbD j = (y.getD (n / 8) 0).getMsbD j := fun j hj => by
    have := b (8 * (n / 8) + j) (by omega)
    unfold bt at this
    rwa [show (8 * (n / 8) + j) / 8 = n / 8 by omega, show (8 * (n / 8) + j) % 8 = j by omega] at this
  rw [lessB_at (n / 8) x y (by omega) (by omega) ?_ ?_]
  · exact byte_lt _ _ (n % 8) (by omega) hbit hd
  · intro j hj
    apply BitVec.eq_of_getMsbD_eq
    intro i hi
    have := b (8 * j + i) (by omega)
    unfold bt at this
    rwa [show (8 * j + i) / 8 = j by omega, show (8 * j + i) % 8 = i by omega] at this
  · intro e; unfold bt at hd; rw [e] at hd; exact hd rfl
/-- the entry's comparison -/
theorem cmp_less : ∀ (x y : List (BitVec 8)), x.length = y.length → decide (Lib.compareBytes (x.map UInt8.ofBitVec) (y.map UInt8.ofBitVec) < 0) = lessB x y
  | [], [], _ => by simp [Lib.compareBytes, lessB]
  | a :: x, b :: y, hl => by
    have ih := cmp_less x y (by simpa using hl)
    simp only [List.map_cons, Lib.compareBytes, lessB]
    have e : ∀ p q : BitVec 8, (UInt8.ofBitVec p < UInt8.ofBitVec q) ↔ p.toNat < q.toNat := fun p q => by simp [UInt8.lt_iff_toNat_lt]
    rw [← ih]
    by_cases e1 : a = b
    · subst e1; simp [e]
    · have : a.toNat ≠ b.toNat := fun h => e1 (BitVec.eq_of_toNat_eq h)
      rw [if_neg e1]
      by_cases h : a.toNat < b.toNat
      · simp [e, h]
      · have h2 : b.toNat < a.toNat := by omega
        simp [e, h, h2]
/-- all bits, each with its number -/
def pathBits (x : List (BitVec 8)) (k : Nat) : List (Nat × Bool) := (List.range k).map fun j => (j, bt x j)
theorem pathBits_succ (x : List (BitVec 8)) (k : Nat) : pathBits x (k + 1) = pathBits x k ++ [(k, bt x k)] := by simp [pathBits, List.range_succ]
theorem pathBits_len (x : List (BitVec 8)) (k : Nat) : (pathBits x k).length = k := by simp [pathBits]
end Go.Proofs.YtfbdnhadcnmfoaaDoor
/- Laws for the walks of path: a digest in memory, step by step; two operations that may come up in either order. -/
namespace Go.Proofs.YtfbdnhadcnmfoaaDoor
open Go.RowKit
set_option maxRecDepth 100000
theorem wpSeq_val {P : Program} {ops : Array Oper} {Q : Exit → Act → World → Prop} {rest : List Oper} {o : Oper} {a : Act} {w : World} (v : Value) (w' : World) (hw : Region.wanted o (yielded ops a.tmps) = true)
    (he : (execOp a.eval o).run P w = .ok (.value v) w') (h : wpList P ops Q rest (a.put o.dst v) w') : wpList P ops Q (o :: rest) a w := by
  unfold wpList
  simp only [hw, if_true]
  left
  unfold Oper.wp
  rw [he, Oper.upon_value]
  exact h
theorem info_digest : (Tryd.prog.info? 23).map (·.size) = some 32 := by kernel_rfl
theorem allocDigest (f : Operand → Value) (o : Oper) (ho : o.op = .alloc 23) (w : World) : (execOp f o).run Tryd.prog w = .ok (.value (.pointer (some ⟨w.heap.size, 0, none⟩))) (w.alloc (.cells (cb zb32).toArray 23)) := by
  unfold execOp
  rw [ho]
  kernel_rfl
/-- a new block with the bytes x -/
structure NewB (x : List (BitVec 8)) (w : World) (g : Nat) (w' : World) : Prop where
  ge : w.heap.size ≤ g
  blk : Blk w' g (cb x) 23
  below : Below w.heap.size w w'
theorem NewB.of (x : List (BitVec 8)) (w : World) : NewB x w w.heap.size (w.alloc (.cells (cb x).toArray 23)) := ⟨Nat.le_refl _, Blk.new w _ _, below_alloc w _⟩
theorem zb32_len : zb32.length = 32 := rfl
theorem wpSeq_allocD {ops : Array Oper} {Q : Exit → Act → World → Prop} {rest : List Oper} {o : Oper} {a : Act} {w : World} (ho : o.op = .alloc 23) (hw : Region.wanted o (yielded ops a.tmps) = true)
    (h : ∀ g w', NewB zb32 w g w' → wpList Tryd.prog ops Q rest (a.put o.dst (.pointer (some ⟨g, 0, none⟩))) w') : wpList Tryd.prog ops Q (o :: rest) a w :=
  wpSeq_val _ _ hw (allocDigest _ _ ho _) (h _ _ (NewB.of zb32 w))
theorem boxDigest (f : Operand → Value) (o : Oper) (x : Operand) (ho : o.op = .box 23 x) (l : List (BitVec 8)) (hx : f x = .agg (cb l).toArray) (w : World) : (execOp f o).run Tryd.prog w = .ok (.value (.pointer (some ⟨w.heap.size, 0, none⟩))) (w.alloc (.cells (cb l).toArray 23)) := by
  unfold execOp
  rw [ho]
  simp only [hx]
  rfl
theorem wpSeq_boxD {ops : Array Oper} {Q : Exit → Act → World → Prop} {rest : List Oper} {o : Oper} {a : Act} {w : World} (x : Operand) (l : List (BitVec 8)) (ho : o.op = .box 23 x) (hx : a.eval x = .agg (cb l).toArray) (hw : Region.wanted o (yielded ops a.tmps) = true)
    (h : ∀ g w', NewB l w g w' → wpList Tryd.prog ops Q rest (a.put o.dst (.pointer (some ⟨g, 0, none⟩))) w') : wpList Tryd.prog ops Q (o :: rest) a w :=
  wpSeq_val _ _ hw (boxDigest _ _ x ho l hx _) (h _ _ (NewB.of l w))
theorem loadDigest {a : Act} {o : Oper} {w : World} (x : Operand) (g : Nat) (l : List (BitVec 8)) (hl : l.length = 32) (hb : Blk w g (cb l) 23) (ho : o.op = .load 23 x) (hx : a.eval x = .pointer (some ⟨g, 0, none⟩)) : (execOp a.eval o).run Tryd.prog w = .ok (.value (.agg (cb l).toArray)) w :=
  load_run 23 x ho g 0 hx (cb l) _ hb.range Tryd.underlying23 rfl (by rw [cb_len, hl]; exact info_digest)
theorem wpSeq_loadD {ops : Array Oper} {Q : Exit → Act → World → Prop} {rest : List Oper} {o : Oper} {a : Act} {w : World} (x : Operand) (g : Nat) (l : List (BitVec 8)) (hl : l.length = 32) (hb : Blk w g (cb l) 23) (ho : o.op = .load 23 x) (hx : a.eval x = .pointer (some ⟨g, 0, none⟩)) (hw : Region.wanted o (yielded ops a.tmps) = true)
    (h : wpList Tryd.prog ops Q rest (a.put o.dst (.agg (cb l).toArray)) w) : wpList Tryd.prog ops Q (o :: rest) a w :=
  wpSeq_val _ _ hw (loadDigest x g l hl hb ho hx) h
/-- block g alone has changed: it has the bytes x now -/
structure SetB (x : List (BitVec 8)) (w : World) (g : Nat) (w' : World) : Prop where
  blk : Blk w' g (cb x) 23
  only : Only g w w'
theorem SetB.of (l x : List (BitVec 8)) (hl : l.length = 32) (hx : x.length = 32) {w : World} {g : Nat} (hb : Blk w g (cb l) 23) : SetB x w g (w.setCells g 0 (cb x)) :=
  ⟨hb.whole (cb x) (by rw [cb_len, cb_len]; omega), Only.setCells _ _ _ (Only.refl g w)⟩
theorem wpSeq_storeD {ops : Array Oper} {Q : Exit → Act → World → Prop} {rest : List Oper} {o : Oper} {a : Act} {w : World} (x y : Operand) (g : Nat) (l n : List (BitVec 8)) (hl : l.length = 32) (hn : n.length = 32) (hb : Blk w g (cb l) 23) (ho : o.op = .store 23 x y) (hx : a.eval x = .pointer (some ⟨g, 0, none⟩)) (hy : a.eval y = .agg (cb n).toArray) (hgd : o.guard = none)
    (h : ∀ w', SetB n w g w' → wpList Tryd.prog ops Q rest (a.put o.dst undef) w') : wpList Tryd.prog ops Q (o :: rest) a w :=
  wpList_store_mid hgd 23 x y ho g 0 _ hx hy (hb.there 0 _ (by rw [List.size_toArray, cb_len, cb_len]; omega)) (by rw [List.size_toArray, cb_len, hn]; exact info_digest) (all_oneCell_toArray (cb_one n))
    (by rw [List.toList_toArray]; exact h _ (SetB.of l n hl hn hb))
theorem indexDig (k g : Nat) (hk : k < 32) (f : Operand → Value) (o : Oper) (x y : Operand) (ho : o.op = .indexAddr 23 x y) (h1 : f x = .pointer (some ⟨g, 0, none⟩)) (h2 : f y = .int .i64 (k : Int)) (w : World) :
    (execOp f o).run Tryd.prog w = .ok (.value (.pointer (some ⟨g, k, none⟩))) w := by
  have k0 : (0 : Int) ≤ (k : Int) := by omega
  have k1 : (k : Int) < 32 := by omega
  unfold execOp
  rw [ho]
  simp [go_sem, h1, h2, k0, k1]
theorem Over.blk {w0 wx : World} {g : Nat} {cs : List Value} {t : TypeId} (h : Over w0 wx) (hb : Blk w0 g cs t) : Blk wx g cs t := hb.below h hb.lt
theorem wpAny_storeB {md : Region.Mode} {ops : Array Oper} {Q : Exit → Act → World → Prop} {fuel : Nat} {listed : Array Bool} {a : Act} {w : World} (i : Nat) {oi : Oper} (x y : Operand) (g k : Nat) (l : List (BitVec 8)) (b : BitVec 8)
    (hr : Region.ready md ops listed = [i]) (hi : ops[i]? = some oi) (hw : Region.wanted oi (yielded ops a.tmps) = true) (ho : oi.op = .store 5 x y) (hx : a.eval x = .pointer (some ⟨g, k, none⟩)) (hy : a.eval y = .int .u8 (b.toNat : Int)) (hk : k < l.length) (hb : Blk w g (cb l) 23)
    (h : ∀ w', SetB (l.set k b) w g w' → wpAny Tryd.prog md ops Q fuel (listed.setIfInBounds i true) (a.put oi.dst undef) w') : wpAny Tryd.prog md ops Q (fuel + 1) listed a w := by
  have hc : w.cell? ⟨g, k, none⟩ = some (.int .u8 ((l.getD k 0).toNat : Int)) := by rw [hb.cell, cb_get l k hk]
  have hf : w.frozen? ⟨g, k, none⟩ = false := hb.frozen k
  refine wpAny_all hr (by simp) (fun j hj => ?_)
  obtain rfl : j = i := by simpa using hj
  unfold wpOp
  rw [hi]
  simp only [hw, if_true]
  left
  have he : (execOp a.eval oi).run Tryd.prog w = .ok .skip (w.setCell ⟨g, k, none⟩ (.int .u8 (b.toNat : Int))) := by
    clear h hw hi
    generalize a.eval = f at hx hy ⊢
    unfold execOp
    rw [ho]
    simp [go_sem, hx, hy, hc, hf]
  unfold Oper.wp
  rw [he]
  refine h _ ⟨?_, Only.setCell (Only.refl g w) k _⟩
  have := hb.set k (.int .u8 (b.toNat : Int))
  rwa [cb_set] at this
theorem storeByte (f : Operand → Value) (o : Oper) (x y : Operand) (g k : Nat) (l : List (BitVec 8)) (b : BitVec 8) {w : World} (ho : o.op = .store 5 x y) (hx : f x = .pointer (some ⟨g, k, none⟩)) (hy : f y = .int .u8 (b.toNat : Int)) (hk : k < l.length) (hb : Blk w g (cb l) 23) :
    (execOp f o).run Tryd.prog w = .ok .skip (w.setCell ⟨g, k, none⟩ (.int .u8 (b.toNat : Int))) := by
  have hc : w.cell? ⟨g, k, none⟩ = some (.int .u8 ((l.getD k 0).toNat : Int)) := by rw [hb.cell, cb_get l k hk]
  have hf : w.frozen? ⟨g, k, none⟩ = false := hb.frozen k
  unfold execOp
  rw [ho]
  simp [go_sem, hx, hy, hc, hf]
theorem SetB.byte {l : List (BitVec 8)} {w : World} {g k : Nat} {b : BitVec 8} (hb : Blk w g (cb l) 23) : SetB (l.set k b) w g (w.setCell ⟨g, k, none⟩ (.int .u8 (b.toNat : Int))) := by
  refine ⟨?_, Only.setCell (Only.refl g w) k _⟩
  have := hb.set k (.int .u8 (b.toNat : Int))
  rwa [cb_set] at this
theorem wpSeq_storeB {ops : Array Oper} {Q : Exit → Act → World → Prop} {rest : List Oper} {o : Oper} {a : Act} {w : World} (x y : Operand) (g k : Nat) (l : List (BitVec 8)) (b : BitVec 8) (hk : k < l.length) (hb : Blk w g (cb l) 23) (ho : o.op = .store 5 x y) (hx : a.eval x = .pointer (some ⟨g, k, none⟩)) (hy : a.eval y = .int .u8 (b.toNat : Int)) (hw : Region.wanted o (yielded ops a.tmps) = true)
    (h : ∀ w', SetB (l.set k b) w g w' → wpList Tryd.prog ops Q rest (a.put o.dst undef) w') : wpList Tryd.prog ops Q (o :: rest) a w := by
  unfold wpList
  simp only [hw, if_true]
  left
  unfold Oper.wp
  rw [storeByte _ _ x y g k l b ho hx hy hk hb]
  exact h _ (SetB.byte hb)
end Go.Proofs.YtfbdnhadcnmfoaaDoor
/- The walks of path's smallest functions. -/
namespace Go.Proofs.YtfbdnhadcnmfoaaDoor
open Go.RowKit
set_option maxRecDepth 100000
theorem mask_nat : ∀ k : Fin 8, ((128#8 >>> k.val).toNat : Int) = 128 / 2 ^ k.val := by decide +kernel
theorem bitOf_any (n : Nat) (w : World) : Calls Tryd.prog 53 #[.int .i64 (n : Int)] w fun e w' => e = .returned (.int .u8 ((mask n).toNat : Int)) ∧ w' = w := by
  have e1 : Int.tmod (n : Int) 8 = ((n % 8 : Nat) : Int) := by rw [Int.tmod_eq_emod_of_nonneg (by omega)]; omega
  have e2 := mask_nat ⟨n % 8, by omega⟩
  simp only at e2
  go_enter Tryd.func53, Tryd.ntmps53
  go_wp2
  go_ret
  exact ⟨by rw [mask, e2]; rfl, rfl⟩
theorem ofInt_toNat8 (x : BitVec 8) : BitVec.ofInt 8 (x.toNat : Int) = x := by apply BitVec.eq_of_toNat_eq; simp
theorem wrap_lt8 (x : BitVec 8) : IntKind.u8.wrap (x.toNat : Int) = (x.toNat : Int) := by
  have := x.isLt
  simp [IntKind.wrap, IntKind.bits, IntKind.signed]; omega
theorem u8_and (x y : BitVec 8) : bits .and .u8 (x.toNat : Int) (y.toNat : Int) = ((x &&& y).toNat : Int) := by
  show IntKind.u8.wrap ((BitVec.ofInt 8 (x.toNat : Int) &&& BitVec.ofInt 8 (y.toNat : Int)).toNat : Int) = _
  rw [ofInt_toNat8, ofInt_toNat8, wrap_lt8]
theorem u8_or (x y : BitVec 8) : bits .or .u8 (x.toNat : Int) (y.toNat : Int) = ((x ||| y).toNat : Int) := by
  show IntKind.u8.wrap ((BitVec.ofInt 8 (x.toNat : Int) ||| BitVec.ofInt 8 (y.toNat : Int)).toNat : Int) = _
  rw [ofInt_toNat8, ofInt_toNat8, wrap_lt8]
theorem u8_andNot (x y : BitVec 8) : bits .andNot .u8 (x.toNat : Int) (y.toNat : Int) = ((x &&& ~~~y).toNat : Int) := by
  show IntKind.u8.wrap ((BitVec.ofInt 8 (x.toNat : Int) &&& ~~~(BitVec.ofInt 8 (y.toNat : Int))).toNat : Int) = _
  rw [ofInt_toNat8, ofInt_toNat8, wrap_lt8]
theorem binOr (f : Operand → Value) (o : Oper) (x y : Operand) (ho : o.op = .binOp .or 5 x y 5) (a b : BitVec 8) (hx : f x = .int .u8 (a.toNat : Int)) (hy : f y = .int .u8 (b.toNat : Int)) (w : World) : (execOp f o).run Tryd.prog w = .ok (.value (.int .u8 ((a ||| b).toNat : Int))) w := by
  unfold execOp
  rw [ho]
  simp only [hx, hy]
  have h := u8_or a b
  simp [go_sem, h]
theorem binAndNot (f : Operand → Value) (o : Oper) (x y : Operand) (ho : o.op = .binOp .andNot 5 x y 5) (a b : BitVec 8) (hx : f x = .int .u8 (a.toNat : Int)) (hy : f y = .int .u8 (b.toNat : Int)) (w : World) : (execOp f o).run Tryd.prog w = .ok (.value (.int .u8 ((a &&& ~~~b).toNat : Int))) w := by
  unfold execOp
  rw [ho]
  simp only [hx, hy]
  have h := u8_andNot a b
  simp [go_sem, h]
theorem Only.toBelow {g B : Nat} {w w' : World} (h : Only g w w') (hg : B ≤ g) (hB : B ≤ w.heap.size) : Below B w w' := h.below hg hB
end Go.Proofs.YtfbdnhadcnmfoaaDoor
/- The walks of the reference's Bit and Set. -/
namespace Go.Proofs.YtfbdnhadcnmfoaaDoor
open Go.RowKit
set_option maxRecDepth 100000
theorem wrap_small (k : Int) (h0 : 0 ≤ k) (h1 : k < 1000000) : IntKind.i64.wrap k = k := by simp [IntKind.wrap, IntKind.bits, IntKind.signed]; omega
theorem notB {i : Int} (h : isB i = false) : (i < 0) ∨ (0 ≤ i ∧ 255 < i) := by
  have h2 : ¬ (0 ≤ i ∧ i < 256) := fun hh => by rw [(isB_iff i).2 hh] at h; cases h
  omega
set_option maxHeartbeats 1000000 in
theorem sBit_any (x : List (BitVec 8)) (hx : x.length = 32) (i : Int) (w : World) : Calls Tryd.prog 43 #[.agg (cb x).toArray, .int .i64 i] w fun e w' => e = .returned (.bool (bitI x i)) ∧ Below w.heap.size w w' := by
  by_cases hb : isB i = true
  · obtain ⟨h0, h1⟩ := (isB_iff i).1 hb
    obtain ⟨n, rfl⟩ : ∃ n : Nat, i = (n : Int) := ⟨i.toNat, by omega⟩
    obtain ⟨k, hk⟩ : ∃ k, k = n / 8 := ⟨_, rfl⟩
    obtain ⟨m, hm⟩ : ∃ m, m = n % 8 := ⟨_, rfl⟩
    have e1 : Int.tdiv (n : Int) 8 = (k : Int) := by rw [Int.tdiv_eq_ediv_of_nonneg (by omega)]; omega
    have e2 : IntKind.i64.wrap (k : Int) = (k : Int) := wrap_small _ (by omega) (by omega)
    have e3 : Int.tmod (n : Int) 8 = (m : Int) := by rw [Int.tmod_eq_emod_of_nonneg (by omega)]; omega
    have e4 : IntKind.i64.wrap (m : Int) = (m : Int) := wrap_small _ (by omega) (by omega)
    have g1 : ¬ ((n : Int) < 0) := by omega
    have g2 : ¬ ((255 : Int) < (n : Int)) := by omega
    have HK32 : Hid (k < 32) := by show _ < _; omega
    have HKX : Hid (k < x.length) := by show _ < _; omega
    have HM : Hid (m < 8) := by show _ < _; omega
    obtain ⟨b, hbb⟩ : ∃ b, b = x.getD k 0 := ⟨_, rfl⟩
    have HR : Hid (bitI x (n : Int) = decide (b.toNat / 2 ^ (7 - m) % 2 = 1)) := by
      show _ = _
      rw [bitI, hb, Bool.true_and, Int.toNat_natCast, bt, ← hk, ← hbb, ← hm]
      exact (mask_div b ⟨m, HM.out⟩).symm
    have HBB : Hid (b = x.getD k 0) := hbb
    have HBL : Hid (b.toNat < 256) := b.isLt
    clear h0 h1 hb hk hm hbb hx
    obtain ⟨o, HO⟩ : ∃ o, Hid (o = bitI x (n : Int)) := ⟨_, rfl⟩
    rw [← HO.out]
    go_enter Tryd.func43, Tryd.ntmps43
    go_wp2_with (first
        | (with_reducible refine wpSeq_boxD (.tmp 0) x ?_ ?_ ?_ ?_
           · rfl
           · rfl
           · rfl
           intro g0 w1 n1
           have hcell : w1.cell? ⟨g0, k, none⟩ = some (.int .u8 (b.toNat : Int)) := by rw [n1.blk.cell, cb_get x k HKX.out, HBB.out]
           have HBW : Hid (Below w.heap.size w w1) := n1.below
           clear n1)
        | (with_reducible refine wpSeq_val (.pointer (some ⟨g0, k, none⟩)) w1 ?_ ?_ ?_
           · rfl
           · exact indexDig k g0 HK32.out _ _ _ _ rfl rfl rfl w1))
    go_loopw [5, 6] (fun c kk wr => ∃ q C : Nat, m ≤ q ∧ q ≤ 7 ∧ kk = .int .i64 (q : Int) ∧ c = .int .i64 (C : Int) ∧ C = b.toNat / 2 ^ (7 - q) ∧ wr = w1) (fun _ kk _ => (intOf kk).toNat)
    case atStart => exact ⟨7, b.toNat, by have := HM.out; omega, by omega, rfl, rfl, by simp, rfl⟩
    case round =>
      obtain ⟨q, C, hmq, hq7, rfl, rfl, hC, rfl⟩ := hrel
      have HC : Hid (C = b.toNat / 2 ^ (7 - q)) := hC
      have HC2 : Hid (C < 256) := by show _ < _; rw [hC]; exact Nat.lt_of_le_of_lt (Nat.div_le_self _ _) HBL.out
      have HQ : Hid (m ≤ q ∧ q ≤ 7) := ⟨hmq, hq7⟩
      by_cases hlt : m < q
      · have i1 : (m : Int) < (q : Int) := by omega
        obtain ⟨C2, hC2⟩ : ∃ C2, C2 = C / 2 := ⟨_, rfl⟩
        obtain ⟨q2, hq2⟩ : ∃ q2, q = q2 + 1 := ⟨q - 1, by omega⟩
        have f1 : Int.tdiv (C : Int) 2 = (C2 : Int) := by rw [Int.tdiv_eq_ediv_of_nonneg (by omega)]; omega
        have f2 : IntKind.i64.wrap (C2 : Int) = (C2 : Int) := wrap_small _ (by omega) (by have := HC2.out; omega)
        have f3 : (q : Int) - 1 = (q2 : Int) := by omega
        have f4 : IntKind.i64.wrap (q2 : Int) = (q2 : Int) := wrap_small _ (by omega) (by omega)
        have HN : Hid (C2 = b.toNat / 2 ^ (7 - q2)) := by
          show _ = _
          rw [hC2, hC, Nat.div_div_eq_div_mul, show 7 - q2 = (7 - q) + 1 by omega, Nat.pow_succ]
        have HQ2 : Hid (q = q2 + 1) := hq2
        clear hmq hq7 hC hlt hC2 hq2 HC
        go_wp2
        go_roundw
        case rel => exact ⟨q2, C2, by have := HQ.out; have := HQ2.out; have : (m : Int) < (q : Int) := i1; omega, by have := HQ.out; have := HQ2.out; omega, rfl, rfl, HN.out, by first | trivial | rfl⟩
        case measure => have := HQ2.out; simp [intOf]; omega
      · have hqm : q = m := by omega
        subst hqm
        have i1 : ¬ ((q : Int) < (q : Int)) := by omega
        obtain ⟨r, hr⟩ : ∃ r, r = C % 2 := ⟨_, rfl⟩
        have f1 : Int.tmod (C : Int) 2 = (r : Int) := by rw [Int.tmod_eq_emod_of_nonneg (by omega)]; omega
        have f2 : IntKind.i64.wrap (r : Int) = (r : Int) := wrap_small _ (by omega) (by omega)
        have HN : Hid (o = ((r : Int) == 1)) := by
          show _ = _
          rw [HO.out, HR.out, hr, hC, Bool.eq_iff_iff, decide_eq_true_iff, beq_iff_eq]; omega
        clear hmq hq7 hC hlt hr HC HR HO
        go_wp2
        go_ret
        exact ⟨by rw [HN.out]; rfl, HBW.out⟩
  · have hb' : isB i = false := by simpa using hb
    have HR : Hid (bitI x i = false) := by show _ = _; rw [bitI, hb']; rfl
    have hc := notB hb'
    clear hb hb' hx
    rw [HR.out]
    rcases hc with h1 | ⟨h0, h1⟩
    all_goals
      go_enter Tryd.func43, Tryd.ntmps43
      go_wp2
      go_ret
      exact ⟨rfl, below_alloc w _⟩
end Go.Proofs.YtfbdnhadcnmfoaaDoor
/- path.Bits, and the function that it hands out: it yields all bits, in order. -/
namespace Go.Proofs.YtfbdnhadcnmfoaaDoor
open Go.RowKit Go.Shelf
set_option maxRecDepth 100000
attribute [local go_sem] Oper.semAt_some
theorem pBits_any (x : List (BitVec 8)) (w : World) : Calls Tryd.prog 36 #[.agg (cb x).toArray] w fun e w' => ∃ g, e = .returned (.func (.func 52) #[] #[.pointer (some ⟨g, 0, none⟩)]) ∧ NewB x w g w' := by
  go_enter Tryd.func36, Tryd.ntmps36
  go_wp2
  go_ret
  exact ⟨_, rfl, NewB.of x w⟩
theorem noGoto_normal {Q : Exit → Act → World → Prop} {a : Act} {w : World} (h : Q .normal a w) : Exit.noGoto Q .normal a w := h
theorem idx_dig (x : List (BitVec 8)) (hx : x.length = 32) (k : Nat) (hk : k < 32) (w : World) : (Instr.index 23 (.agg (cb x).toArray) (.int .i64 (k : Int))).run Tryd.prog w = .ok (.int .u8 ((x.getD k 0).toNat : Int)) w := by
  have hs : ∀ w, (sizeOf 5).run Tryd.prog w = .ok 1 w := fun w => by kernel_rfl
  have k0 : (0 : Int) ≤ (k : Int) ∧ (k : Int) < ((32 : Nat) : Int) := by omega
  unfold Instr.index
  simp only [asIntOf, Sem.run_bind, Sem.run_pure, Result.andThen_ok, run_underlying Tryd.underlying23]
  rw [if_pos k0]
  simp only [Sem.run_bind, hs, Result.andThen_ok, Int.toNat_natCast, Nat.mul_one]
  exact eq_part x hx k hk w
abbrev encsB (p : Nat × Bool) : Array Value := #[.int .i64 (p.1 : Int), .bool p.2]
set_option maxRecDepth 100000 in
set_option maxHeartbeats 2000000 in
theorem bits_stops (n : Nat) (hn : 1 ≤ n) (g : Nat) (x : List (BitVec 8)) (hx : x.length = 32) (w : World) (hb : Blk w g (cb x) 23) :
    SeqStopsK Fence.wide n Tryd.prog 52 #[.pointer (some ⟨g, 0, none⟩)] encsB (fun _ _ => True) (fun xs => xs = pathBits x 256) (fun pre => ∃ k, k ≤ 256 ∧ pre = pathBits x k) 256 w := fun l J Jx W hW hJ hJx hY h0 => by
  refine callsIn_of_wp Tryd.func52 rfl trivial ?_ rfl
  simp only [Tryd.ntmps52, List.size_toArray, List.length_cons, List.length_nil, Nat.reduceAdd, Nat.reduceSub, Array.replicate_succ, Array.replicate_zero, List.push_toArray, List.append_toArray, List.nil_append, List.cons_append]
  refine (wpIn_wide (n := n)).2 (wp_scope_straight ?_)
  have HW : Hid (Blk W g (cb x) 23) := hb.below hW hb.lt
  have HL : Hid (x.length = 32) := hx
  have HJ : Hid (AbidesFrom W.heap.size J) := hJ
  have HJX : Hid (AbidesFrom W.heap.size Jx) := hJx
  clear hb hx hJ hJx hW
  refine wp_seq (wp_label ?_)
  show Code.wp _ _ _ _ _
  go_wp2_with (first
    | (with_reducible refine wpSeq_loadD (.tmp 1) g x ?_ ?_ ?_ ?_ ?_ ?_
       · exact HL.out
       · exact HW.out
       · rfl
       · rfl
       · rfl))
  go_loopw [7] (fun p wr => ∃ k : Nat, k ≤ 32 ∧ p = .int .i64 (k : Int) ∧ J (pathBits x (8 * k)) wr) (fun p _ => 32 - (intOf p).toNat)
  case atStart => exact ⟨0, by omega, rfl, h0⟩
  case round =>
    obtain ⟨k, hk, rfl, hJk⟩ := hrel
    have HJK : Hid (J (pathBits x (8 * k)) wr) := hJk
    clear hJk
    by_cases hlt : k < 32
    · have HKX : Hid (k < x.length) := by show _ < _; rw [HL.out]; exact hlt
      obtain ⟨b, hbb⟩ : ∃ b, b = x.getD k 0 := ⟨_, rfl⟩
      have hix : ∀ wz, (Instr.index 23 (.agg (cb x).toArray) (.int .i64 (k : Int))).run Tryd.prog wz = .ok (.int .u8 (b.toNat : Int)) wz := fun wz => by rw [hbb]; exact idx_dig x HL.out k hlt wz
      have HBB : Hid (b = x.getD k 0) := hbb
      clear hbb
      have k0 : (0 : Int) ≤ (k : Int) := by omega
      have k1 : (k : Int) < 32 := by omega
      go_wp2
      go_loopw [11] (fun p wr => ∃ j : Nat, j ≤ 8 ∧ p = .int .i64 (j : Int) ∧ J (pathBits x (8 * k + j)) wr) (fun p _ => 8 - (intOf p).toNat)
      case atStart => exact ⟨0, by omega, rfl, HJK.out⟩
      case round =>
        rename_i wr2 _ _ _ _ _ _ _ _ _ _ _ _ _ _ _ _ _
        obtain ⟨j, hj, rfl, hJj⟩ := hrel
        clear HJK
        by_cases hlt2 : j < 8
        · obtain ⟨q, hq⟩ : ∃ q, q = 8 * k + j := ⟨_, rfl⟩
          obtain ⟨k8, hk8⟩ : ∃ k8, k8 = k * 8 := ⟨_, rfl⟩
          obtain ⟨o, ho⟩ : ∃ o, o = bt x q := ⟨_, rfl⟩
          have f1 : (k : Int) * 8 = (k8 : Int) := by omega
          have f2 : IntKind.i64.wrap (k8 : Int) = (k8 : Int) := wrap_small _ (by omega) (by omega)
          have f3 : (k8 : Int) + (j : Int) = (q : Int) := by omega
          have f4 : IntKind.i64.wrap (q : Int) = (q : Int) := wrap_small _ (by omega) (by omega)
          have j1 : (j : Int) < 8 := by omega
          have f5 : IntKind.i64.wrap ((j : Int) + 1) = (j : Int) + 1 := wrap_small _ (by omega) (by omega)
          have hand := u8_and b (mask j)
          have hz : ((((b.toNat &&& (mask j).toNat : Nat) : Int)) != 0) = o := by
            have h := mask_and b ⟨j, hlt2⟩
            have hm : mask j = 128#8 >>> j := by rw [mask, Nat.mod_eq_of_lt hlt2]
            simp only [← hm] at h
            have e : o = b.getMsbD j := by rw [ho, HBB.out, bt, hq, show (8 * k + j) / 8 = k by omega, show (8 * k + j) % 8 = j by omega]
            rw [e, ← BitVec.toNat_and]
            cases hg : b.getMsbD j
            · rw [hg] at h
              have h2 := of_decide_eq_true (h.trans rfl)
              rw [h2]; rfl
            · rw [hg] at h
              have h2 := of_decide_eq_false (h.trans rfl)
              rw [bne_iff_ne]
              intro h3
              exact h2 (BitVec.eq_of_toNat_eq (by simpa using h3))
          have HNX : Hid (pathBits x (8 * k + (j + 1)) = pathBits x (8 * k + j) ++ [(q, o)]) := by
            show _ = _
            rw [ho, hq, ← Nat.add_assoc, pathBits_succ]
          obtain ⟨fn, tmps, assign, body, hy, hR⟩ := hY (pathBits x (8 * k + j)) (q, o) _ hJj (by rw [pathBits_len]; omega)
          dsimp only [encsB] at hy
          clear hq hk8 ho hlt2 hj
          refine (wpIn_wide (n := n)).1 ?_
          gi_wp2_with (refine ⟨trivial, ?_⟩; gi_at_call 53; refine (callsIn_wide.2 (bitOf_any _ _)).mono ?_; rintro e wz ⟨rfl, hz2⟩; rw [hz2]; clear hz2 wz)
          refine hR.mono ?_
          clear hR hy hY hJj
          rintro e W3 (⟨rfl, hJ3, _⟩ | ⟨rfl, hJx3⟩)
          · rw [← HNX.out] at hJ3
            gi_wp2
            go_roundw
            case rel => exact ⟨j + 1, by omega, by simp, hJ3⟩
            case measure => simp [intOf]; omega
          · rw [← HNX.out] at hJx3
            gi_wp2
            refine noGoto_normal ?_
            go_end0
            exact ⟨⟨_, rfl⟩, .inr ⟨_, ⟨8 * k + (j + 1), by omega, rfl⟩, hJx3⟩⟩
        · have hj8 : j = 8 := by omega
          subst hj8
          have HJ8 : Hid (J (pathBits x (8 * (k + 1))) wr) := by rw [Nat.mul_add]; exact hJj
          have f5 : IntKind.i64.wrap ((k : Int) + 1) = (k : Int) + 1 := wrap_small _ (by omega) (by omega)
          clear hJj hj hlt2
          go_wp2
          go_roundw
          case rel => exact ⟨k + 1, by omega, by simp, HJ8.out⟩
          case measure => simp [intOf]; omega
    · have hk32 : k = 32 := by omega
      subst hk32
      go_wp2
      refine noGoto_normal ?_
      go_end0
      exact ⟨⟨_, rfl⟩, .inl ⟨_, rfl, HJK.out⟩⟩
end Go.Proofs.YtfbdnhadcnmfoaaDoor
/- Laws for loops over a function: a digest and a number in memory, inside a round; blocks that abide. -/
namespace Go.Proofs.YtfbdnhadcnmfoaaDoor
open Go.RowKit Go.Shelf
set_option maxRecDepth 100000
attribute [local go_sem] Oper.semAt_some
theorem wpSeqIn_val {F : Fence} {n : Nat} {P : Program} {ops : Array Oper} {Q : Exit → Act → World → Prop} {rest : List Oper} {o : Oper} {a : Act} {w : World} (v : Value) (w' : World) (hw : Region.wanted o (yielded ops a.tmps) = true) (hd : ∀ c, o.op ≠ .defer c) (hab : o.about P w a.eval = none)
    (he : (execOp a.eval o).run P w = .ok (.value v) w') (h : wpListIn F n P ops Q rest (a.put o.dst v) w') : wpListIn F n P ops Q (o :: rest) a w := by
  unfold wpListIn
  simp only [hw, if_true]
  unfold Oper.wpIn
  refine ⟨fun f hf => (by rw [hab] at hf; cases hf), ?_⟩
  rw [Oper.semAt_eq _ _ _ hd, he]
  exact h
theorem wpSeqIn_loadD {F : Fence} {n : Nat} {ops : Array Oper} {Q : Exit → Act → World → Prop} {rest : List Oper} {o : Oper} {a : Act} {w : World} (x : Operand) (g : Nat) (l : List (BitVec 8)) (hl : l.length = 32) (hb : Blk w g (cb l) 23) (ho : o.op = .load 23 x) (hx : a.eval x = .pointer (some ⟨g, 0, none⟩)) (hw : Region.wanted o (yielded ops a.tmps) = true)
    (h : wpListIn F n Tryd.prog ops Q rest (a.put o.dst (.agg (cb l).toArray)) w) : wpListIn F n Tryd.prog ops Q (o :: rest) a w :=
  wpSeqIn_val _ _ hw (by rw [ho]; intro c hc; cases hc) (by simp [Oper.about, ho]) (loadDigest x g l hl hb ho hx) h
theorem wpSeqIn_storeD {F : Fence} {n : Nat} {ops : Array Oper} {Q : Exit → Act → World → Prop} {rest : List Oper} {o : Oper} {a : Act} {w : World} (x y : Operand) (g : Nat) (l m : List (BitVec 8)) (hl : l.length = 32) (hn : m.length = 32) (hb : Blk w g (cb l) 23) (ho : o.op = .store 23 x y) (hx : a.eval x = .pointer (some ⟨g, 0, none⟩)) (hy : a.eval y = .agg (cb m).toArray) (hw : Region.wanted o (yielded ops a.tmps) = true)
    (h : ∀ w', SetB m w g w' → KeepsOthers w w' → wpListIn F n Tryd.prog ops Q rest (a.put o.dst undef) w') : wpListIn F n Tryd.prog ops Q (o :: rest) a w := by
  have he : (execOp a.eval o).run Tryd.prog w = .ok .skip (w.setCells g 0 (cb m)) := by
    unfold execOp
    simp only [ho, hx, hy, Sem.run_bind]
    rw [run_storeAt_mid w g 0 23 _ (hb.there 0 _ (by rw [List.size_toArray, cb_len, cb_len]; omega)) (by rw [List.size_toArray, cb_len, hn]; exact info_digest) (all_oneCell_toArray (cb_one m))]
    rfl
  have hk : ∀ (vs : List Value) (i : Nat) (w : World), KeepsOthers w (w.setCells g i vs) := by
    intro vs
    induction vs with
    | nil => intro i w; exact KeepsOthers.refl _
    | cons v r ih => intro i w; rw [World.setCells]; exact (KeepsOthers.setCell w _ v).trans (ih _ _)
  unfold wpListIn
  simp only [hw, if_true]
  unfold Oper.wpIn
  refine ⟨fun f hf => (by simp [Oper.about, ho] at hf), ?_⟩
  rw [Oper.semAt_eq _ _ _ (by rw [ho]; intro c hc; cases hc), he]
  exact h _ (SetB.of l m hl hn hb) (hk _ _ _)
/-- a new block of one cell -/
structure NewC (v : Value) (t : TypeId) (w : World) (g : Nat) (w' : World) : Prop where
  ge : w.heap.size ≤ g
  blk : Blk w' g [v] t
  below : Below w.heap.size w w'
theorem NewC.of (v : Value) (t : TypeId) (w : World) : NewC v t w w.heap.size (w.alloc (.cells #[v] t)) := ⟨Nat.le_refl _, Blk.new w [v] t, below_alloc w _⟩
theorem wpSeq_allocI {ops : Array Oper} {Q : Exit → Act → World → Prop} {rest : List Oper} {o : Oper} {a : Act} {w : World} (ho : o.op = .alloc 3) (hw : Region.wanted o (yielded ops a.tmps) = true)
    (h : ∀ g w', NewC (.int .i64 0) 3 w g w' → wpList Tryd.prog ops Q rest (a.put o.dst (.pointer (some ⟨g, 0, none⟩))) w') : wpList Tryd.prog ops Q (o :: rest) a w :=
  wpSeq_val _ _ hw (by unfold execOp; rw [ho]; kernel_rfl) (h _ _ (NewC.of (.int .i64 0) 3 w))
theorem wpSeq_allocT {ops : Array Oper} {Q : Exit → Act → World → Prop} {rest : List Oper} {o : Oper} {a : Act} {w : World} (ho : o.op = .alloc 4) (hw : Region.wanted o (yielded ops a.tmps) = true)
    (h : ∀ g w', NewC (.bool false) 4 w g w' → wpList Tryd.prog ops Q rest (a.put o.dst (.pointer (some ⟨g, 0, none⟩))) w') : wpList Tryd.prog ops Q (o :: rest) a w :=
  wpSeq_val _ _ hw (by unfold execOp; rw [ho]; kernel_rfl) (h _ _ (NewC.of (.bool false) 4 w))
theorem wpSeq_boxI {ops : Array Oper} {Q : Exit → Act → World → Prop} {rest : List Oper} {o : Oper} {a : Act} {w : World} (x : Operand) (i : Int) (ho : o.op = .box 3 x) (hx : a.eval x = .int .i64 i) (hw : Region.wanted o (yielded ops a.tmps) = true)
    (h : ∀ g w', NewC (.int .i64 i) 3 w g w' → wpList Tryd.prog ops Q rest (a.put o.dst (.pointer (some ⟨g, 0, none⟩))) w') : wpList Tryd.prog ops Q (o :: rest) a w :=
  wpSeq_val _ _ hw (by unfold execOp; rw [ho]; simp only [hx]; rfl) (h _ _ (NewC.of (.int .i64 i) 3 w))
theorem blk_own {β : Type} (g : Nat) (cs : β → List Value) (t : TypeId) : Own (fun (s : β) W => Blk W g (cs s) t) := fun s X Y row hs hg hr => by
  have hs' : X.heap[g]? = some (.cells (cs s).toArray t (0, 0)) := hs
  show Y.heap[g]? = some (.cells (cs s).toArray t (0, 0))
  rw [hg.block g (Array.getElem?_eq_some_iff.1 hs').1 (fun e => ?_)]
  · exact hs'
  · obtain ⟨o, ho, hc⟩ := hr g e.symm
    rw [hs'] at ho; cases ho; cases hc
theorem Blk.put {W : World} {g : Nat} {cs : List Value} {t : TypeId} (h : Blk W g cs t) {D : Nat} {o o' : Obj} (hD : W.heap[D]? = some o) (ho : o.isCells = false) : Blk (W.putObj D o') g cs t :=
  blk_own (β := Unit) g (fun _ => cs) t () W _ (some D) h (grownBy_putObj' W D o') (fun r e => by cases e; exact ⟨o, hD, ho⟩)
theorem keepsOthers_of_below {W W' : World} (h : Below W.heap.size W W') : KeepsOthers W W' :=
  ⟨h.size, fun k _ hk _ => (h.block k (Array.getElem?_eq_some_iff.1 hk).1).trans hk⟩
end Go.Proofs.YtfbdnhadcnmfoaaDoor
/- The walks of Common. -/
namespace Go.Proofs.YtfbdnhadcnmfoaaDoor
open Go.RowKit Go.Shelf
set_option maxRecDepth 100000
attribute [local go_sem] Oper.semAt_some
theorem bits_split {x : List (BitVec 8)} {k : Nat} {pre : List (Nat × Bool)} {p : Nat × Bool} (h : pathBits x k = pre ++ [p]) : ∃ j, k = j + 1 ∧ pre = pathBits x j ∧ p = (j, bt x j) := by
  cases k with
  | zero => simp [pathBits] at h
  | succ j =>
    rw [pathBits_succ] at h
    obtain ⟨h1, h2⟩ := List.append_inj' h rfl
    exact ⟨j, rfl, h1.symm, by simpa using h2.symm⟩
theorem mem_bits {x : List (BitVec 8)} {k : Nat} {j : Nat} (h : j < k) : (j, bt x j) ∈ pathBits x k := by
  unfold pathBits
  exact List.mem_map.2 ⟨j, List.mem_range.2 h, rfl⟩
/-- what Common has seen: bits that y has too -/
def CmI (y : List (BitVec 8)) (g1 g2 : Nat) (pre : List (Nat × Bool)) (W : World) : Prop := Blk W g1 (cb y) 23 ∧ Blk W g2 [.int .i64 0] 3 ∧ ∀ p ∈ pre, p.2 = bitI y (p.1 : Int)
/-- the last bit that Common has seen is the first that y has not -/
def CmX (y : List (BitVec 8)) (g2 : Nat) (c : Code) (pre : List (Nat × Bool)) (W : World) : Prop :=
  ∃ pr p, c = .ret ∧ pre = pr ++ [p] ∧ (∀ q ∈ pr, q.2 = bitI y (q.1 : Int)) ∧ p.2 ≠ bitI y (p.1 : Int) ∧ Blk W g2 [.int .i64 (p.1 : Int)] 3
theorem CmI.own (y : List (BitVec 8)) (g1 g2 : Nat) : Own (CmI y g1 g2) := fun _ A B row hs hg hr =>
  ⟨blk_own (β := Unit) g1 (fun _ => cb y) _ () A B row hs.1 hg hr, blk_own (β := Unit) g2 (fun _ => [.int .i64 0]) _ () A B row hs.2.1 hg hr, hs.2.2⟩
theorem CmX.own (y : List (BitVec 8)) (g2 : Nat) (c : Code) : Own (CmX y g2 c) := fun _ A B row hs hg hr => by
  obtain ⟨pr, p, h1, h2, h3, h4, h5⟩ := hs
  exact ⟨pr, p, h1, h2, h3, h4, blk_own (β := Unit) g2 (fun _ => [.int .i64 (p.1 : Int)]) _ () A B row h5 hg hr⟩
theorem CmI.all {x y : List (BitVec 8)} {g1 g2 : Nat} {W : World} (h : CmI y g1 g2 (pathBits x 256) W) : common x y = 256 :=
  common_is x y 256 (Nat.le_refl _) (fun j hj => by have := h.2.2 _ (mem_bits (x := x) hj); rwa [bitI_nat y j hj] at this) (by omega)
theorem CmX.at {x y : List (BitVec 8)} {g2 : Nat} {c : Code} {k : Nat} {W : World} (hk : k ≤ 256) (h : CmX y g2 c (pathBits x k) W) : c = .ret ∧ Blk W g2 [.int .i64 (common x y : Int)] 3 := by
  obtain ⟨pr, p, h1, h2, h3, h4, h5⟩ := h
  obtain ⟨j, rfl, rfl, rfl⟩ := bits_split h2
  rw [bitI_nat y j (by omega)] at h4
  refine ⟨h1, ?_⟩
  rw [common_is x y j (by omega) (fun i hi => by have := h3 _ (mem_bits (x := x) hi); rwa [bitI_nat y i (by omega)] at this) (fun _ => h4)]
  exact h5
end Go.Proofs.YtfbdnhadcnmfoaaDoor
/- The walks of Cut. -/
namespace Go.Proofs.YtfbdnhadcnmfoaaDoor
open Go.RowKit Go.Shelf
set_option maxRecDepth 100000
attribute [local go_sem] Oper.semAt_some
def cutF (pre : List (Nat × Bool)) : List (BitVec 8) := pre.foldl (fun y p => setI y (p.1 : Int) p.2) zb32
theorem cutF_snoc (pre : List (Nat × Bool)) (p : Nat × Bool) : cutF (pre ++ [p]) = setI (cutF pre) (p.1 : Int) p.2 := by simp [cutF]
theorem foldl_set_len (l : List (Nat × Bool)) : ∀ y : List (BitVec 8), (l.foldl (fun y p => setI y (p.1 : Int) p.2) y).length = y.length := by
  induction l with
  | nil => intro y; rfl
  | cons p r ih => intro y; rw [List.foldl_cons, ih, setI_len]
theorem cutF_len (pre : List (Nat × Bool)) : (cutF pre).length = 32 := by rw [cutF, foldl_set_len]; rfl
theorem bt_zero (j : Nat) : bt zb32 j = false := by
  unfold bt zb32
  rw [List.getD_eq_getElem?_getD, List.getElem?_replicate]
  split <;> simp
theorem cutF_bits (x : List (BitVec 8)) : ∀ k, k ≤ 256 → ∀ j, j < 256 → bt (cutF (pathBits x k)) j = (decide (j < k) && bt x j)
  | 0, _, j, _ => by simp [pathBits, cutF, bt_zero]
  | k + 1, hk, j, hj => by
    rw [pathBits_succ, cutF_snoc, setI_nat _ _ _ (by omega), bt_set _ (cutF_len _) _ _ _ (by omega) hj, cutF_bits x k (by omega) j hj]
    by_cases e : j = k
    · subst e; simp
    · rw [if_neg e]
      by_cases h : j < k
      · have h2 : j < k + 1 := by omega
        simp [h, h2]
      · have h2 : ¬ j < k + 1 := by omega
        simp [h, h2]
/-- what Cut has done: the bits that came, all ahead of n -/
def CuI (n : Int) (gn gr gc : Nat) (pre : List (Nat × Bool)) (W : World) : Prop := Blk W gn [.int .i64 n] 3 ∧ Blk W gr (cb zb32) 23 ∧ Blk W gc (cb (cutF pre)) 23 ∧ ∀ p ∈ pre, (p.1 : Int) < n
def CuX (n : Int) (gr gc : Nat) (c : Code) (pre : List (Nat × Bool)) (W : World) : Prop :=
  ∃ pr p, c = .exit 0 ∧ pre = pr ++ [p] ∧ (∀ q ∈ pr, (q.1 : Int) < n) ∧ n ≤ (p.1 : Int) ∧ Blk W gr (cb zb32) 23 ∧ Blk W gc (cb (cutF pr)) 23
theorem CuI.own (n : Int) (gn gr gc : Nat) : Own (CuI n gn gr gc) := fun s A B row hs hg hr =>
  ⟨blk_own (β := Unit) gn (fun _ => [.int .i64 n]) _ () A B row hs.1 hg hr, blk_own (β := Unit) gr (fun _ => cb zb32) _ () A B row hs.2.1 hg hr, blk_own (β := Unit) gc (fun _ => cb (cutF s)) _ () A B row hs.2.2.1 hg hr, hs.2.2.2⟩
theorem CuX.own (n : Int) (gr gc : Nat) (c : Code) : Own (CuX n gr gc c) := fun _ A B row hs hg hr => by
  obtain ⟨pr, p, h1, h2, h3, h4, h5, h6⟩ := hs
  exact ⟨pr, p, h1, h2, h3, h4, blk_own (β := Unit) gr (fun _ => cb zb32) _ () A B row h5 hg hr, blk_own (β := Unit) gc (fun _ => cb (cutF pr)) _ () A B row h6 hg hr⟩
theorem CuI.all {x : List (BitVec 8)} {n : Int} {gn gr gc : Nat} {W : World} (h : CuI n gn gr gc (pathBits x 256) W) : ∃ y, IsCut x n y ∧ Blk W gr (cb zb32) 23 ∧ Blk W gc (cb y) 23 := by
  refine ⟨_, ⟨cutF_len _, fun j hj => ?_⟩, h.2.1, h.2.2.1⟩
  have h1 := h.2.2.2 _ (mem_bits (x := x) hj)
  simp only at h1
  rw [cutF_bits x 256 (Nat.le_refl _) j hj, decide_eq_true hj, decide_eq_true h1]
theorem CuX.at {x : List (BitVec 8)} {n : Int} {gr gc : Nat} {c : Code} {k : Nat} {W : World} (hk : k ≤ 256) (h : CuX n gr gc c (pathBits x k) W) : c = .exit 0 ∧ ∃ y, IsCut x n y ∧ Blk W gr (cb zb32) 23 ∧ Blk W gc (cb y) 23 := by
  obtain ⟨pr, p, h1, h2, h3, h4, h5, h6⟩ := h
  obtain ⟨i, rfl, rfl, rfl⟩ := bits_split h2
  simp only at h4
  refine ⟨h1, _, ⟨cutF_len _, fun j hj => ?_⟩, h5, h6⟩
  rw [cutF_bits x i (by omega) j hj]
  by_cases h : j < i
  · have h7 := h3 _ (mem_bits (x := x) h)
    simp only at h7
    rw [decide_eq_true h, decide_eq_true h7]
  · have h7 : ¬ ((j : Int) < n) := by omega
    rw [decide_eq_false h, decide_eq_false h7]
end Go.Proofs.YtfbdnhadcnmfoaaDoor
/- The walks of the reference's Common, Cut and Less. -/
namespace Go.Proofs.YtfbdnhadcnmfoaaDoor
open Go.RowKit
set_option maxRecDepth 100000
def ScI (x y : List (BitVec 8)) (g0 g1 : Nat) (w : World) (k : Nat) (W : World) : Prop := Blk W g0 (cb x) 23 ∧ Blk W g1 (cb y) 23 ∧ Below w.heap.size w W ∧ ∀ j, j < k → bt x j = bt y j
theorem ScI.over {x y : List (BitVec 8)} {g0 g1 k : Nat} {w W W' : World} (h : ScI x y g0 g1 w k W) (ho : Over W.drew W') : ScI x y g0 g1 w k W' :=
  ⟨ho.blk h.1.drew, ho.blk h.2.1.drew, h.2.2.1.drew.trans (Below.mono ho h.2.2.1.size), h.2.2.2⟩
end Go.Proofs.YtfbdnhadcnmfoaaDoor
/- The walk of the reference's Cut. -/
namespace Go.Proofs.YtfbdnhadcnmfoaaDoor
open Go.RowKit
set_option maxRecDepth 100000
structure SuI (x : List (BitVec 8)) (n : Int) (g0 gr : Nat) (w : World) (k : Nat) (d : List (BitVec 8)) (W : World) : Prop where
  b0 : Blk W g0 (cb d) 23
  br : Blk W gr (cb zb32) 23
  bel : Below w.heap.size w W
  len : d.length = 32
  bits : ∀ j, j < 256 → bt d j = (bt x j && !(decide (j < k) && decide (n ≤ (j : Int))))
end Go.Proofs.YtfbdnhadcnmfoaaDoor
/- The walks of Less, Under and the reference's. -/
namespace Go.Proofs.YtfbdnhadcnmfoaaDoor
open Go.RowKit
set_option maxRecDepth 100000
theorem bytes_cb (x : List (BitVec 8)) : Lib.bytesOf (x.map fun b => (b.toNat : Int)) = x.map UInt8.ofBitVec := by
  simp only [Lib.bytesOf, List.map_map]
  apply List.map_congr_left
  intro b _
  apply UInt8.toNat_inj.1
  simp
theorem run_compareD (x y : List (BitVec 8)) (hx : x.length = 32) (hy : y.length = 32) (g h : Nat) {w : World} (h1 : Blk w g (cb x) 23) (h2 : Blk w h (cb y) 23) :
    (Extern.BytealgCompare.compare #[.slice (some ⟨g, 0, none⟩) 32 32, .slice (some ⟨h, 0, none⟩) 32 32]).run Tryd.prog w = .ok (.int .i64 (Lib.compareBytes (x.map UInt8.ofBitVec) (y.map UInt8.ofBitVec))) w := by
  have ld : ∀ (z : List (BitVec 8)) (b : Nat), z.length = 32 → Blk w b (cb z) 23 → (Extern.Bytes.loadBytes ⟨b, 0, none⟩ 32 .empty).run Tryd.prog w = .ok ⟨(z.map UInt8.ofBitVec).toArray⟩ w := by
    intro z b hz hb
    have hl := Lib.run_loadBytesX (P := Tryd.prog) w (z.map fun b => (b.toNat : Int)) ⟨b, 0, none⟩ .empty (fun j v hj => by
      have hjl : j < z.length := by have := (List.getElem?_eq_some_iff.1 hj).1; simpa using this
      have e : (⟨b, 0, none⟩ : Addr).add j = ⟨b, j, none⟩ := by unfold Addr.add; split <;> simp_all
      rw [e, hb.cell, cb_get z j hjl]
      rw [List.getElem?_map, List.getElem?_eq_getElem hjl] at hj
      simp only [Option.map_some, Option.some.injEq] at hj
      rw [← hj, List.getD_eq_getElem?_getD, List.getElem?_eq_getElem hjl, Option.getD_some])
    rw [List.length_map, hz, bytes_cb] at hl
    simpa using hl
  change Sem.run Tryd.prog (do pure (goInt (Extern.BytealgCompare.cmp (← Extern.Bytes.bytesOf (.slice (some ⟨g, 0, none⟩) 32 32)) (← Extern.Bytes.bytesOf (.slice (some ⟨h, 0, none⟩) 32 32))))) w = _
  simp only [Extern.Bytes.bytesOf, Sem.run_bind, Sem.run_pure, ld x g hx h1, ld y h hy h2, Result.andThen]
  rw [Lib.cmp_eq]
  rfl
structure SlI (x y : List (BitVec 8)) (g0 g1 : Nat) (w : World) (k : Nat) (W : World) : Prop where
  b0 : Blk W g0 (cb x) 23
  b1 : Blk W g1 (cb y) 23
  bel : Below w.heap.size w W
  eq : ∀ j, j < k → x.getD j 0 = y.getD j 0
theorem SlI.drew {x y : List (BitVec 8)} {g0 g1 k : Nat} {w W : World} (h : SlI x y g0 g1 w k W) : SlI x y g0 g1 w k W.drew := ⟨h.b0.drew, h.b1.drew, h.bel.drew, h.eq⟩
end Go.Proofs.YtfbdnhadcnmfoaaDoor
/- Slices of digests in memory: what they read as, those that are the call's own, one more behind them. -/
namespace Go.Proofs.YtfbdnhadcnmfoaaDoor
open Go.RowKit
set_option maxRecDepth 100000
theorem wrap_small2 (k : Int) (h0 : 0 ≤ k) (h1 : k < 1000000000) : IntKind.i64.wrap k = k := by simp [IntKind.wrap, IntKind.bits, IntKind.signed]; omega
def flatD (ds : List (List (BitVec 8))) : List Value := (ds.map cb).flatten
/-- the slice v of digests, the call's own from block base on, holds ds -/
def OwnD (w : World) (base : Nat) (v : Value) (ds : List (List (BitVec 8))) : Prop := w.ownsRow base 23 32 v ds.length (flatD ds) ∧ ∀ d ∈ ds, d.length = 32
theorem OwnD.one {w : World} {base : Nat} {v : Value} {ds : List (List (BitVec 8))} (h : OwnD w base v ds) : v.oneCell' = true := by
  rcases h.1 with ⟨_, ⟨rfl, _⟩ | ⟨g, cap, cur, rfl, _⟩⟩
  · rfl
  · rfl
theorem OwnD.keep {w w' : World} {base : Nat} {v : Value} {ds : List (List (BitVec 8))} (h : OwnD w base v ds) (hs : ∀ k, base ≤ k → k < w.heap.size → w'.heap[k]? = w.heap[k]?) : OwnD w' base v ds := by
  refine ⟨?_, h.2⟩
  have hlt := World.ownsRow.lt h.1
  rcases h.1 with ⟨h1, ⟨rfl, h2⟩ | ⟨g, cap, cur, rfl, hg, hh, h3⟩⟩
  · exact ⟨h1, Or.inl ⟨rfl, h2⟩⟩
  · exact ⟨h1, Or.inr ⟨g, cap, cur, rfl, hg, by rw [hs g hg (hlt g rfl).2]; exact hh, h3⟩⟩
theorem OwnD.mono {w : World} {base B : Nat} {v : Value} {ds : List (List (BitVec 8))} (h : OwnD w base v ds) (hB : B ≤ base) : OwnD w B v ds := by
  refine ⟨?_, h.2⟩
  rcases h.1 with ⟨h1, ⟨rfl, h2⟩ | ⟨g, cap, cur, rfl, hg, hh⟩⟩
  · exact ⟨h1, Or.inl ⟨rfl, h2⟩⟩
  · exact ⟨h1, Or.inr ⟨g, cap, cur, rfl, Nat.le_trans hB hg, hh⟩⟩
def nilV : Value := .slice none 0 0
theorem fill_one (cs : List Value) (h : cs.length = 32) (a0 : Array Value) (ha : a0.size = 32) : Instr.fill (fun i => some (i * 32, 32)) a0 [(0, .agg cs.toArray)] = some cs.toArray := by
  have hc : (Value.agg cs.toArray).cells = cs.toArray := rfl
  simp only [Instr.fill, hc, List.size_toArray, h, ha]
  rw [if_neg (by decide)]
  congr 1
  match cs, h with
  | [x0, x1, x2, x3, x4, x5, x6, x7, x8, x9, x10, x11, x12, x13, x14, x15, x16, x17, x18, x19, x20, x21, x22, x23, x24, x25, x26, x27, x28, x29, x30, x31], _ =>
    obtain ⟨l⟩ := a0
    match l, ha with
    | [y0, y1, y2, y3, y4, y5, y6, y7, y8, y9, y10, y11, y12, y13, y14, y15, y16, y17, y18, y19, y20, y21, y22, y23, y24, y25, y26, y27, y28, y29, y30, y31], _ =>
      refine id ?_
      show _ = _
      kernel_rfl
theorem Tryd.infod3 : (Tryd.prog.info? 23).map (fun i => (i.zero, i.size, i.bytes)) = some (some (.agg (cb zb32).toArray), 32, 32) := by kernel_rfl
theorem buildD (f : Operand → Value) (o : Oper) (x : Operand) (ho : o.op = .buildSlice 47 1 #[(0, x)]) (d : List (BitVec 8)) (hd : d.length = 32) (hx : f x = .agg (cb d).toArray) (w : World) :
    (execOp f o).run Tryd.prog w = .ok (.value (.slice (some ⟨w.heap.size, 0, none⟩) 1 1)) (w.alloc (.cells (cb d).toArray 23)) := by
  obtain ⟨i0, hi, hz, hs, _⟩ := info_parts Tryd.infod3
  have hr := run_buildSlice (P := Tryd.prog) w 47 23 1 #[(0, .agg (cb d).toArray)] (cb d).toArray i0 _ Tryd.underlying47 hi hz (by rw [hs]; decide) (by rw [hs]; decide) (by rw [hs]; exact fill_one (cb d) (by rw [cb_len, hd]) _ (by simp))
  unfold execOp
  rw [ho]
  simp only [List.map_toArray, List.map_cons, List.map_nil, hx, Sem.run_bind, hr, Result.andThen_ok, Sem.run_pure]
theorem flatD_len (ds : List (List (BitVec 8))) (h : ∀ d ∈ ds, d.length = 32) : (flatD ds).length = ds.length * 32 := by
  unfold flatD
  induction ds with
  | nil => rfl
  | cons d r ih =>
    rw [List.map_cons, List.flatten_cons, List.length_append, cb_len, h d (by simp), ih (fun x hx => h x (by simp [hx])), List.length_cons]
    omega
theorem flatD_snoc (ds : List (List (BitVec 8))) (d : List (BitVec 8)) : flatD (ds ++ [d]) = flatD ds ++ cb d := by
  unfold flatD
  simp
theorem OwnD.lt {w : World} {base : Nat} {v : Value} {ds : List (List (BitVec 8))} (h : OwnD w base v ds) : ∀ k, v.ownBlock = some k → base ≤ k ∧ k < w.heap.size := World.ownsRow.lt h.1
theorem OwnD.nil (w : World) (base : Nat) : OwnD w base nilV [] := ⟨World.ownsRow_nil _ _ _ _, by simp⟩
theorem OwnD.slice {w : World} {base : Nat} {v : Value} {ds : List (List (BitVec 8))} (h : OwnD w base v ds) : ∃ ad c, v = .slice ad ds.length c := by
  rcases h.1 with ⟨_, ⟨rfl, h2⟩ | ⟨g, cap, cur, rfl, _⟩⟩
  · exact ⟨none, 0, by rw [h2]⟩
  · exact ⟨_, _, rfl⟩
/-- the slice v reads as the digests ds -/
def ReadsD (w : World) (v : Value) (ds : List (List (BitVec 8))) : Prop :=
  (∃ ad cap, v = .slice ad ds.length cap ∧ ds.length ≤ cap ∧ (ad = none → cap = 0) ∧ (0 < ds.length → ∃ b off, ad = some ⟨b, off, none⟩ ∧ ∀ j, j < ds.length → w.rangeAt b (off + j * 32) (cb (ds.getD j [])))) ∧ ∀ d ∈ ds, d.length = 32
theorem rangeAt_lt {w : World} {b off : Nat} {d : List (BitVec 8)} (h : w.rangeAt b off (cb d)) (hd : d.length = 32) : b < w.heap.size := by
  have := h 0 _ (cb_get d 0 (by omega))
  exact block_lt_of_cell this
theorem rangeAt_below {w w' : World} {b off B : Nat} {cs : List Value} (h : w.rangeAt b off cs) (hb : Below B w w') (hB : b < B) : w'.rangeAt b off cs := fun j v hj => by
  rw [hb.cell (p := ⟨b, off + j, none⟩) hB]
  exact h j v hj
theorem getD_mem32 {ds : List (List (BitVec 8))} (h : ∀ d ∈ ds, d.length = 32) {j : Nat} (hj : j < ds.length) : (ds.getD j []).length = 32 := by
  rw [List.getD_eq_getElem?_getD, List.getElem?_eq_getElem hj]
  exact h _ (List.getElem_mem hj)
theorem ReadsD.below {w w' : World} {v : Value} {ds : List (List (BitVec 8))} (h : ReadsD w v ds) (hb : Below w.heap.size w w') : ReadsD w' v ds := by
  obtain ⟨⟨ad, cap, hv, hc, hn, hx⟩, h32⟩ := h
  refine ⟨⟨ad, cap, hv, hc, hn, fun hp => ?_⟩, h32⟩
  obtain ⟨b, off, rfl, hy⟩ := hx hp
  exact ⟨b, off, rfl, fun j hj => rangeAt_below (hy j hj) hb (rangeAt_lt (hy j hj) (getD_mem32 h32 hj))⟩
theorem flatD_at {ds : List (List (BitVec 8))} (h : ∀ d ∈ ds, d.length = 32) : ∀ (j i : Nat) (v : Value), j < ds.length → (cb (ds.getD j []))[i]? = some v → (flatD ds)[j * 32 + i]? = some v := by
  unfold flatD
  induction ds with
  | nil => intro j i v hj; simp at hj
  | cons d r ih =>
    intro j i v hj hv
    rw [List.map_cons, List.flatten_cons]
    cases j with
    | zero =>
      rw [List.getD_cons_zero] at hv
      have hi : i < (cb d).length := (List.getElem?_eq_some_iff.1 hv).1
      rw [Nat.zero_mul, Nat.zero_add, List.getElem?_append_left hi, hv]
    | succ j =>
      rw [List.getD_cons_succ] at hv
      have hl : (cb d).length = 32 := by rw [cb_len, h d (by simp)]
      rw [List.getElem?_append_right (by rw [hl]; omega), hl, show (j + 1) * 32 + i - 32 = j * 32 + i by omega]
      exact ih (fun x hx => h x (by simp [hx])) j i v (by simpa using hj) hv
theorem OwnD.readsD {w : World} {base : Nat} {v : Value} {ds : List (List (BitVec 8))} (h : OwnD w base v ds) : ReadsD w v ds := by
  refine ⟨?_, h.2⟩
  rcases h.1 with ⟨h1, ⟨rfl, h2⟩ | ⟨g, cap, cur, rfl, hg, hh, hc, hm, hs, ht⟩⟩
  · exact ⟨none, 0, by rw [h2], by omega, fun _ => rfl, fun hp => by omega⟩
  · refine ⟨_, cap, rfl, hc, fun h => (by cases h), fun hp => ⟨g, 0, rfl, fun j hj i v hv => ?_⟩⟩
    have hi : i < 32 := by have := (List.getElem?_eq_some_iff.1 hv).1; rwa [cb_len, getD_mem32 h.2 hj] at this
    have hf := flatD_at h.2 j i v hj hv
    rw [← ht, List.getElem?_take] at hf
    rw [cell_of_row w g _ cur 23 (0, 0) hh, Nat.zero_add]
    rw [if_pos (by
      have : (j + 1) * 32 ≤ ds.length * 32 := Nat.mul_le_mul_right 32 hj
      omega)] at hf
    simpa using hf
theorem allT_take (ds : List (List (BitVec 8))) (k : Nat) (h : k < ds.length) : encAll (fun a => a) (ds.take (k + 1)) = encAll (fun a => a) (ds.take k) ++ ds.getD k [] := by
  unfold encAll
  rw [List.take_add_one, List.getElem?_eq_getElem h, List.getD_eq_getElem?_getD, List.getElem?_eq_getElem h]
  simp only [Option.toList_some, List.map_append, List.map_cons, List.map_nil, List.flatten_append, List.flatten_cons, List.flatten_nil, List.append_nil, Option.getD_some]
/-- one more behind the own slice v: all other blocks stay -/
structure Grow (base : Nat) (w : World) (v : Value) (w' : World) (v' : Value) : Prop where
  below : Below base w w'
  other : ∀ k, some k ≠ v.ownBlock → k < w.heap.size → w'.heap[k]? = w.heap[k]?
  lies : v'.ownBlock = v.ownBlock ∨ v'.ownBlock = some w.heap.size
theorem wpSeq_appendD {ops : Array Oper} {Q : Exit → Act → World → Prop} {rest : List Oper} {o : Oper} {a : Act} {w : World} (s x : Operand) (base : Nat) (v : Value) (ds : List (List (BitVec 8))) (d : List (BitVec 8)) (g : Nat)
    (hown : OwnD w base v ds) (hu : Blk w g (cb d) 23) (hd : d.length = 32) (hl : ds.length < 2000000) (hbase : base ≤ w.heap.size)
    (ho : o.op = .call { callee := .builtin .append, args := #[s, x], argTypes := #[47, 47] }) (hs : a.eval s = v) (hx : a.eval x = .slice (some ⟨g, 0, none⟩) 1 1) (hgd : o.guard = none)
    (h : ∀ v' w', OwnD w' base v' (ds ++ [d]) → Grow base w v w' v' → wpList Tryd.prog ops Q rest (a.put o.dst v') w') : wpList Tryd.prog ops Q (o :: rest) a w := by
  obtain ⟨i0, hi, hz0, hz1, hz2⟩ := info_parts Tryd.infod3
  refine wpList_append_own_at w hgd s x 47 ho base 23 i0 (.agg (cb zb32).toArray) 32 32 Tryd.underlying47 hi hz0 hz1 hz2 (by show (cb zb32).toArray.size = 32; rw [List.size_toArray, cb_len]; rfl) (by decide) v ds.length (flatD ds) hs hown.1 ⟨g, 0, none⟩ 1 1 (cb d) hx (by rw [cb_len, hd]) ?_ (cb_one d) (by unfold maxLen; omega) (by omega) hbase ?_
  · intro j u hj
    rw [Addr.add_mid, Nat.zero_add, hu.cell, hj]
  · intro v' w' h2 h3 _ h5
    refine h v' w' ⟨?_, ?_⟩ ⟨(Below.refl _ _).grown h3 hbase (fun k hk => (hown.lt k hk).1), fun k hk hlt => h3.block k hlt hk, h5⟩
    · rw [flatD_snoc, List.length_append]; exact h2
    · intro e he
      rcases List.mem_append.1 he with he | he
      · exact hown.2 e he
      · rw [List.mem_singleton] at he; subst he; exact hd
theorem wpSeq_buildD {ops : Array Oper} {Q : Exit → Act → World → Prop} {rest : List Oper} {o : Oper} {a : Act} {w : World} (x : Operand) (d : List (BitVec 8)) (hd : d.length = 32) (ho : o.op = .buildSlice 47 1 #[(0, x)]) (hx : a.eval x = .agg (cb d).toArray) (hw : Region.wanted o (yielded ops a.tmps) = true)
    (h : ∀ g w', NewB d w g w' → wpList Tryd.prog ops Q rest (a.put o.dst (.slice (some ⟨g, 0, none⟩) 1 1)) w') : wpList Tryd.prog ops Q (o :: rest) a w :=
  wpSeq_val _ _ hw (buildD _ o x ho d hd hx w) (h _ _ (NewB.of d w))
theorem wpSeq_loadAt {ops : Array Oper} {Q : Exit → Act → World → Prop} {rest : List Oper} {o : Oper} {a : Act} {w : World} (x : Operand) (b of : Nat) (l : List (BitVec 8)) (hl : l.length = 32) (hb : w.rangeAt b of (cb l)) (ho : o.op = .load 23 x) (hx : a.eval x = .pointer (some ⟨b, of, none⟩)) (hw : Region.wanted o (yielded ops a.tmps) = true)
    (h : wpList Tryd.prog ops Q rest (a.put o.dst (.agg (cb l).toArray)) w) : wpList Tryd.prog ops Q (o :: rest) a w :=
  wpSeq_val _ _ hw (load_run 23 x ho b of hx (cb l) _ hb Tryd.underlying23 rfl (by rw [cb_len, hl]; exact info_digest)) h
/-- the two lists that Part has made of the first k -/
structure PpI (ds : List (List (BitVec 8))) (i : Int) (w : World) (k : Nat) (v1 v2 : Value) (W : World) : Prop where
  o1 : OwnD W w.heap.size v1 ((ds.take k).filter fun d => !bitI d i)
  o2 : OwnD W w.heap.size v2 ((ds.take k).filter fun d => bitI d i)
  ne : ∀ j, v1.ownBlock = some j → v2.ownBlock ≠ some j
  bel : Below w.heap.size w W
theorem PpI.next {ds : List (List (BitVec 8))} {i : Int} {w : World} {k : Nat} {v1 v2 : Value} {W W' : World} (h : PpI ds i w k v1 v2 W) (hb : Below W.heap.size W W') : PpI ds i w k v1 v2 W' :=
  ⟨h.o1.keep fun j _ hj => hb.block j hj, h.o2.keep fun j _ hj => hb.block j hj, h.ne, h.bel.trans (hb.mono h.bel.size)⟩
theorem filter_le (ds : List (List (BitVec 8))) (k : Nat) (p : List (BitVec 8) → Bool) : ((ds.take k).filter p).length ≤ ds.length :=
  Nat.le_trans (List.length_filter_le _ _) (by rw [List.length_take]; omega)
theorem take_next {ds : List (List (BitVec 8))} {k : Nat} (hk : k < ds.length) (p : List (BitVec 8) → Bool) : (ds.take (k + 1)).filter p = (ds.take k).filter p ++ (if p (ds.getD k []) then [ds.getD k []] else []) := by
  rw [List.take_add_one, List.getElem?_eq_getElem hk, List.filter_append, List.getD_eq_getElem?_getD, List.getElem?_eq_getElem hk]
  simp only [Option.toList_some, Option.getD_some, List.filter_cons, List.filter_nil]
theorem PpI.on {ds : List (List (BitVec 8))} {i : Int} {w : World} {k : Nat} {v1 v2 v' : Value} {W W' : World} (h : PpI ds i w k v1 v2 W) (hk : k < ds.length) (hb : bitI (ds.getD k []) i = true) (ho : OwnD W' w.heap.size v' (((ds.take k).filter fun d => bitI d i) ++ [ds.getD k []])) (hg : Grow w.heap.size W v2 W' v') : PpI ds i w (k + 1) v1 v' W' := by
  refine ⟨?_, ?_, ?_, h.bel.trans hg.below⟩
  · rw [take_next hk, hb]
    simp only [Bool.not_true, Bool.false_eq_true, if_false, List.append_nil]
    have h1 := h.o1
    refine ⟨?_, h1.2⟩
    have hlt := World.ownsRow.lt h1.1
    rcases h1.1 with ⟨e1, ⟨e2, e3⟩ | ⟨g, cap, cur, e2, hgg, hh, h3⟩⟩
    · exact ⟨e1, Or.inl ⟨e2, e3⟩⟩
    · subst e2
      exact ⟨e1, Or.inr ⟨g, cap, cur, rfl, hgg, by rw [hg.other g (fun e => h.ne g rfl e.symm) (hlt g rfl).2]; exact hh, h3⟩⟩
  · rw [take_next hk, hb]; exact ho
  · intro j hj
    rcases hg.lies with e | e
    · rw [e]; exact h.ne j hj
    · rw [e]; intro e2; cases e2
      exact absurd (h.o1.lt _ hj).2 (Nat.lt_irrefl _)
theorem PpI.off {ds : List (List (BitVec 8))} {i : Int} {w : World} {k : Nat} {v1 v2 v' : Value} {W W' : World} (h : PpI ds i w k v1 v2 W) (hk : k < ds.length) (hb : bitI (ds.getD k []) i = false) (ho : OwnD W' w.heap.size v' (((ds.take k).filter fun d => !bitI d i) ++ [ds.getD k []])) (hg : Grow w.heap.size W v1 W' v') : PpI ds i w (k + 1) v' v2 W' := by
  refine ⟨?_, ?_, ?_, h.bel.trans hg.below⟩
  · rw [take_next hk, hb]; exact ho
  · rw [take_next hk, hb]
    simp only [Bool.false_eq_true, if_false, List.append_nil]
    have h1 := h.o2
    refine ⟨?_, h1.2⟩
    have hlt := World.ownsRow.lt h1.1
    rcases h1.1 with ⟨e1, ⟨e2, e3⟩ | ⟨g, cap, cur, e2, hgg, hh, h3⟩⟩
    · exact ⟨e1, Or.inl ⟨e2, e3⟩⟩
    · subst e2
      exact ⟨e1, Or.inr ⟨g, cap, cur, rfl, hgg, by rw [hg.other g (fun e => h.ne g e.symm rfl) (hlt g rfl).2]; exact hh, h3⟩⟩
  · intro j hj
    rcases hg.lies with e | e
    · rw [e] at hj; exact h.ne j hj
    · rw [e] at hj; cases hj
      intro e2
      exact absurd (h.o2.lt _ e2).2 (Nat.lt_irrefl _)
end Go.Proofs.YtfbdnhadcnmfoaaDoor
/- Plain: signatures that are used once: what is told, what is opened, what follows (layer 10). -/
namespace Go.Proofs.YtfbdnhadcnmfoaaDoor
open Go.RowKit
set_option maxRecDepth 100000
/-- the i-th thirty-two bytes -/
def blk32 (l : List (BitVec 8)) (i : Nat) : List (BitVec 8) := (l.drop (32 * i)).take 32
/-- 10.1: the public key's text, n bits of it -/
def textR (P : Nat → Bool → List (BitVec 8)) : Nat → List (BitVec 8)
  | 0 => [80]
  | n + 1 => textR P n ++ (dig (P n false) ++ dig (P n true))
/-- 10.2: what signs, n bits of it -/
def signR (P : Nat → Bool → List (BitVec 8)) (on : Nat → Bool) : Nat → List (BitVec 8)
  | 0 => []
  | n + 1 => signR P on n ++ (P n (on n) ++ dig (P n (!on n)))
/-- 10.3: what a signature tells, n bits of it -/
def openR (on : Nat → Bool) (sig : List (BitVec 8)) : Nat → List (BitVec 8)
  | 0 => [80]
  | n + 1 => openR on sig n ++ (if on n then blk32 sig (2 * n + 1) ++ dig (blk32 sig (2 * n)) else dig (blk32 sig (2 * n)) ++ blk32 sig (2 * n + 1))
theorem len_blk32 {l : List (BitVec 8)} {i : Nat} (h : 32 * i + 32 ≤ l.length) : (blk32 l i).length = 32 := by
  unfold blk32
  rw [List.length_take, List.length_drop]
  omega
theorem len_textR (P : Nat → Bool → List (BitVec 8)) (n : Nat) : (textR P n).length = 64 * n + 1 := by
  induction n with
  | zero => rfl
  | succ n ih => rw [textR, List.length_append, List.length_append, ih, len_dig', len_dig']; omega
theorem len_signR {P : Nat → Bool → List (BitVec 8)} (hP : ∀ i o, (P i o).length = 32) (on : Nat → Bool) (n : Nat) : (signR P on n).length = 64 * n := by
  induction n with
  | zero => rfl
  | succ n ih => rw [signR, List.length_append, List.length_append, ih, hP, len_dig']; omega
theorem len_step (on : Nat → Bool) {sig : List (BitVec 8)} {n : Nat} (h : 64 * n + 64 ≤ sig.length) : (if on n then blk32 sig (2 * n + 1) ++ dig (blk32 sig (2 * n)) else dig (blk32 sig (2 * n)) ++ blk32 sig (2 * n + 1)).length = 64 := by
  have h1 : (blk32 sig (2 * n + 1)).length = 32 := len_blk32 (by omega)
  split <;> rw [List.length_append, len_dig', h1]
theorem len_openR (on : Nat → Bool) {sig : List (BitVec 8)} {n : Nat} (h : 64 * n ≤ sig.length) : (openR on sig n).length = 64 * n + 1 := by
  induction n with
  | zero => rfl
  | succ n ih => rw [openR, List.length_append, ih (by omega), len_step on (by omega)]; omega
/-- what the signature holds of a bit -/
theorem blk_sign {P : Nat → Bool → List (BitVec 8)} (hP : ∀ i o, (P i o).length = 32) (on : Nat → Bool) (j : Nat) : ∀ m, j < m → blk32 (signR P on m) (2 * j) = P j (on j) ∧ blk32 (signR P on m) (2 * j + 1) = dig (P j (!on j))
  | 0, h => by omega
  | m + 1, h => by
    have hl := len_signR hP on m
    by_cases e : j = m
    · subst e
      unfold blk32
      rw [signR]
      constructor
      · rw [List.drop_append_of_le_length (by omega), List.drop_of_length_le (by omega), List.nil_append, List.take_append_of_le_length (by rw [hP]; omega), List.take_of_length_le (by rw [hP]; omega)]
      · rw [List.drop_append, List.drop_of_length_le (by omega), List.nil_append, hl, show 32 * (2 * j + 1) - 64 * j = (P j (on j)).length by rw [hP]; omega, List.drop_left, List.take_of_length_le (by rw [len_dig']; omega)]
    · obtain ⟨h1, h2⟩ := blk_sign hP on j m (by omega)
      rw [← h1, ← h2]
      unfold blk32
      rw [signR]
      constructor
      · rw [List.drop_append_of_le_length (by omega), List.take_append_of_le_length (by rw [List.length_drop]; omega)]
      · rw [List.drop_append_of_le_length (by omega), List.take_append_of_le_length (by rw [List.length_drop]; omega)]
/-- what signs opens to the key's text -/
theorem open_sign {P : Nat → Bool → List (BitVec 8)} (hP : ∀ i o, (P i o).length = 32) (on : Nat → Bool) (m : Nat) : ∀ n, n ≤ m → openR on (signR P on m) n = textR P n
  | 0, _ => rfl
  | n + 1, h => by
    obtain ⟨h1, h2⟩ := blk_sign hP on n m (by omega)
    rw [openR, textR, open_sign hP on m n (by omega), h1, h2]
    cases on n <;> rfl
theorem step_inj {o : Bool} {a b a' b' : List (BitVec 8)} (ha : a.length = 32) (ha' : a'.length = 32) (h : (if o then a ++ dig b else dig b ++ a) = (if o then a' ++ dig b' else dig b' ++ a')) : dig b = dig b' ∧ a = a' := by
  cases o
  · have := List.append_inj (show dig b ++ a = dig b' ++ a' from h) (by rw [len_dig', len_dig'])
    exact this
  · have := List.append_inj (show a ++ dig b = a' ++ dig b' from h) (by rw [ha, ha'])
    exact ⟨this.2, this.1⟩
/-- what opens alike is alike, bit by bit, but for what is hashed -/
theorem open_inj (on : Nat → Bool) {s t : List (BitVec 8)} : ∀ (n : Nat), 64 * n ≤ s.length → 64 * n ≤ t.length → openR on s n = openR on t n → ∀ j, j < n → dig (blk32 s (2 * j)) = dig (blk32 t (2 * j)) ∧ blk32 s (2 * j + 1) = blk32 t (2 * j + 1)
  | 0, _, _, _, _, hj => by omega
  | n + 1, hs, ht, h, j, hj => by
    rw [openR, openR] at h
    obtain ⟨h1, h2⟩ := List.append_inj h (by rw [len_openR on (by omega), len_openR on (by omega)])
    by_cases e : j = n
    · subst e
      exact step_inj (len_blk32 (by omega)) (len_blk32 (by omega)) h2
    · exact open_inj on n (by omega) (by omega) h1 j (by omega)
/-- what opens to a key's text tells a text of the digest of the key's own part, of each bit -/
theorem open_text {P : Nat → Bool → List (BitVec 8)} (on : Nat → Bool) {s : List (BitVec 8)} : ∀ (n : Nat), 64 * n ≤ s.length → openR on s n = textR P n → ∀ j, j < n → dig (blk32 s (2 * j)) = dig (P j (on j))
  | 0, _, _, _, hj => by omega
  | n + 1, hs, h, j, hj => by
    rw [openR, textR] at h
    obtain ⟨h1, h2⟩ := List.append_inj h (by rw [len_openR on (by omega), len_textR])
    by_cases e : j = n
    · subst e
      have h3 : (if on j then dig (P j false) ++ dig (P j true) else dig (P j false) ++ dig (P j true)) = dig (P j false) ++ dig (P j true) := by split <;> rfl
      cases ho : on j
      · rw [ho] at h2
        have := List.append_inj (show dig (blk32 s (2 * j)) ++ blk32 s (2 * j + 1) = dig (P j false) ++ dig (P j true) from h2) (by rw [len_dig', len_dig'])
        exact this.1
      · rw [ho] at h2
        have := List.append_inj (show blk32 s (2 * j + 1) ++ dig (blk32 s (2 * j)) = dig (P j false) ++ dig (P j true) from h2) (by rw [len_dig', len_blk32 (by omega)])
        exact this.2
    · exact open_text on n (by omega) h1 j (by omega)
/-- a signature of which something in one block is another, and has another digest, opens to another text -/
theorem open_ne (on : Nat → Bool) {s t : List (BitVec 8)} {n k : Nat} (hs : 64 * n ≤ s.length) (ht : 64 * n ≤ t.length) (hk : k < 2 * n) (hd : dig (blk32 s k) ≠ dig (blk32 t k)) : openR on s n ≠ openR on t n := fun h => by
  obtain ⟨h1, h2⟩ := open_inj on n hs ht h (k / 2) (by omega)
  rcases Nat.mod_two_eq_zero_or_one k with e | e
  · rw [show 2 * (k / 2) = k by omega] at h1
    exact hd h1
  · rw [show 2 * (k / 2) + 1 = k by omega] at h2
    exact hd (by rw [h2])
end Go.Proofs.YtfbdnhadcnmfoaaDoor
/- Slices of bytes that grow while digests stand beside them (layer 10). -/
namespace Go.Proofs.YtfbdnhadcnmfoaaDoor
open Go.RowKit
set_option maxRecDepth 100000
theorem Blk.grown {w w' : World} {g : Nat} {cs : List Value} {t : TypeId} {row : Option Nat} (h : Blk w g cs t) (hg : w.grownBy w' row) (hne : row ≠ some g) : Blk w' g cs t := by
  have hh : w.heap[g]? = some (.cells cs.toArray t (0, 0)) := h
  show w'.heap[g]? = some (.cells cs.toArray t (0, 0))
  rw [hg.block g h.lt (fun e => hne e.symm)]
  exact hh
/-- a row of bytes is no block of another type -/
theorem OwnB.ne {w : World} {base g : Nat} {v : Value} {l : List (BitVec 8)} {cs : List Value} {t : TypeId} (h : OwnB w base v l) (hb : Blk w g cs t) (ht : t ≠ 5) : v.ownBlock ≠ some g := by
  obtain ⟨_, h2⟩ := h
  intro hk
  rcases h2 with ⟨rfl, _⟩ | ⟨g2, cap, cur, rfl, hg, hh, _⟩
  · simp [Value.ownBlock] at hk
  · simp only [Value.ownBlock, Option.some.injEq] at hk
    subst hk
    unfold Blk at hb
    rw [hh] at hb
    simp only [Option.some.injEq, Obj.cells.injEq] at hb
    exact ht hb.2.1.symm
/-- bytes behind the own slice v: its own block alone may change -/
theorem wpSeq_appendG {ops : Array Oper} {Q : Exit → Act → World → Prop} {rest : List Oper} {o : Oper} {a : Act} {w : World} (s x : Operand) (base : Nat) (v vx : Value) (l news : List (BitVec 8))
    (hown : OwnB w base v l) (hr : Reads w vx news) (hpos : 0 < news.length) (hlen : l.length + news.length ≤ 140737488355328) (hbase : base ≤ w.heap.size)
    (ho : o.op = .call { callee := .builtin .append, args := #[s, x], argTypes := #[29, 29] }) (hs : a.eval s = v) (hx : a.eval x = vx) (hgd : o.guard = none)
    (h : ∀ v' w', OwnB w' base v' (l ++ news) → w.grownBy w' v.ownBlock → Below base w w' → wpList Tryd.prog ops Q rest (a.put o.dst v') w') : wpList Tryd.prog ops Q (o :: rest) a w := by
  obtain ⟨i0, hi, hz0, hz1, hz2⟩ := info_parts Tryd.infob
  obtain ⟨ad, cap, rfl, hcap, hnn, hps⟩ := hr
  cases ad with
  | some ad =>
    refine wpList_append_own (P := Tryd.prog) w hgd s x 29 ho base 5 i0 (.int .u8 0) 1 1 Tryd.underlying29 hi hz0 hz1 hz2 rfl (by decide) v l.length (cb l) hs hown ad news.length cap (cb news) hx (by rw [cb_len]; omega) ?_ (cb_one _) (by unfold maxLen; omega) (by omega) hbase ?_
    · intro j u hj
      have hjl : j < news.length := by have := (List.getElem?_eq_some_iff.1 hj).1; rwa [cb_len] at this
      obtain ⟨b, off, h1, h2⟩ := hps (by omega)
      cases h1
      rw [Addr.add_mid, h2 j hjl, ← hj, cb_get news j hjl]
    · intro v' w' h1 h2 h3
      refine h v' w' ?_ h2 ((Below.refl _ _).grown h2 hbase (fun k hk => hown.own k hk))
      have e : cb l ++ cb news = cb (l ++ news) := by simp [cb]
      rw [e] at h1
      unfold OwnB; rw [List.length_append]; exact h1
  | none => obtain ⟨b, off, h1, _⟩ := hps hpos; cases h1
theorem make_cap (k c : Nat) (hkc : k ≤ c) (hc : c < 281474976710600) (w : World) : (Instr.makeSlice 29 (.int .i64 (k : Int)) (.int .i64 (c : Int))).run Tryd.prog w =
    .ok (.slice (some ⟨w.heap.size, 0, none⟩) k c) (w.alloc (.cells (cb (List.replicate c 0)).toArray 5)) := by
  obtain ⟨i0, hi, hz0, hz1, hz2⟩ := info_parts Tryd.infob
  rw [run_make (P := Tryd.prog) w 29 5 i0 _ Tryd.underlying29 hi hz0 .i64 .i64 _ _ (by omega) (by omega) (by rw [hz2]; omega) (by omega)]
  rw [Int.toNat_natCast, Int.toNat_natCast, hz1, Nat.mul_one]
  congr 3
  simp [madeCells, cb, Value.cells, Nat.mod_one]
  apply Array.ext
  · simp
  · intro j h1 h2; simp
/-- a new slice of k noughts with room for c bytes -/
theorem wpSeq_make {ops : Array Oper} {Q : Exit → Act → World → Prop} {rest : List Oper} {o : Oper} {a : Act} {w : World} (x y : Operand) (k c : Nat) (hkc : k ≤ c) (hc : c < 281474976710600) (ho : o.op = .makeSlice 29 x y) (hx : a.eval x = .int .i64 (k : Int)) (hy : a.eval y = .int .i64 (c : Int)) (hw : Region.wanted o (yielded ops a.tmps) = true)
    (h : ∀ g w' z, z = List.replicate c (0 : BitVec 8) → w.heap.size ≤ g → Blk w' g (cb z) 5 → Below w.heap.size w w' → wpList Tryd.prog ops Q rest (a.put o.dst (.slice (some ⟨g, 0, none⟩) k c)) w') : wpList Tryd.prog ops Q (o :: rest) a w := by
  refine wpSeq_val _ _ hw ?_ (h _ _ _ rfl (Nat.le_refl _) (Blk.new w _ 5) (below_alloc _ _))
  unfold execOp
  rw [ho]
  simp only [hx, hy, Sem.run_bind, make_cap k c hkc hc]
  rfl
theorem own_of_blk {w : World} {base g k c : Nat} {z : List (BitVec 8)} (h : Blk w g (cb z) 5) (hb : base ≤ g) (hz : z.length = c) (hk : k ≤ c) (hc : c < 281474976710600) : OwnB w base (.slice (some ⟨g, 0, none⟩) k c) (z.take k) := by
  have hl : (z.take k).length = k := by rw [List.length_take]; omega
  have e : (cb z).take k = cb (z.take k) := by simp [cb]
  refine ⟨by rw [cb_len, Nat.mul_one], Or.inr ⟨g, c, (cb z).toArray, by rw [hl], hb, h, by rw [hl]; exact hk, by unfold maxLen; omega, by simp [cb_len, hz], by rw [hl, Nat.mul_one, ← e]⟩⟩
/-- one byte of a block of bytes -/
theorem wpSeq_storeY {ops : Array Oper} {Q : Exit → Act → World → Prop} {rest : List Oper} {o : Oper} {a : Act} {w : World} (x y : Operand) (g k : Nat) (l : List (BitVec 8)) (b : BitVec 8) (hk : k < l.length) (hb : Blk w g (cb l) 5) (ho : o.op = .store 5 x y) (hx : a.eval x = .pointer (some ⟨g, k, none⟩)) (hy : a.eval y = .int .u8 (b.toNat : Int)) (hw : Region.wanted o (yielded ops a.tmps) = true)
    (h : ∀ w', Blk w' g (cb (l.set k b)) 5 → Only g w w' → wpList Tryd.prog ops Q rest (a.put o.dst undef) w') : wpList Tryd.prog ops Q (o :: rest) a w := by
  have hc : w.cell? ⟨g, k, none⟩ = some (.int .u8 ((l.getD k 0).toNat : Int)) := by rw [hb.cell, cb_get l k hk]
  have hf : w.frozen? ⟨g, k, none⟩ = false := hb.frozen k
  have he : (execOp a.eval o).run Tryd.prog w = .ok .skip (w.setCell ⟨g, k, none⟩ (.int .u8 (b.toNat : Int))) := by
    clear h hw
    generalize a.eval = f at hx hy ⊢
    unfold execOp
    rw [ho]
    simp [go_sem, hx, hy, hc, hf]
  unfold wpList
  simp only [hw, if_true]
  left
  unfold Oper.wp
  rw [he, Oper.upon_skip]
  refine h _ ?_ (Only.setCell (Only.refl g w) k _)
  have := hb.set k (.int .u8 (b.toNat : Int))
  rw [cb_set] at this
  exact this
/-- a cut of a slice of bytes -/
theorem cut_run (ga off n cap l m : Nat) (hm : 0 < m) (hn : l + m ≤ n) (hc : n ≤ cap) (w : World) :
    (Instr.sliceAt 29 (.slice (some ⟨ga, off, none⟩) n cap) (some (.int .i64 (l : Int))) (some (.int .i64 ((l + m : Nat) : Int))) none).run Tryd.prog w = .ok (.slice (some ⟨ga, off + l, none⟩) m (cap - l)) w := by
  have hs : (sizeOf 5).run Tryd.prog w = .ok 1 w := by kernel_rfl
  rw [run_sliceAt_slice w 29 _ _ _ _ (by kernel_rfl), run_slice_lh w 29 _ _ _ (by kernel_rfl) .i64 .i64 _ _ (by omega) (by omega) (by omega)]
  rw [show Tryd.prog.elem 29 = 5 from by kernel_rfl, hs]
  simp only [Result.andThen_ok, sliced, Int.toNat_natCast, Nat.mul_one]
  rw [show l + m - l = m by omega, if_neg (by omega)]
  simp [Addr.add_mid]
theorem wpSeq_cut {ops : Array Oper} {Q : Exit → Act → World → Prop} {rest : List Oper} {o : Oper} {a : Act} {w : World} (x lo hi : Operand) (ga off n cap l m : Nat) (L H : Int) (hL : L = (l : Int)) (hH : H = ((l + m : Nat) : Int)) (hm : 0 < m) (hn : l + m ≤ n) (hc : n ≤ cap) (ho : o.op = .slice 29 x (some lo) (some hi) none) (hx : a.eval x = .slice (some ⟨ga, off, none⟩) n cap) (hlo : a.eval lo = .int .i64 L) (hhi : a.eval hi = .int .i64 H) (hw : Region.wanted o (yielded ops a.tmps) = true)
    (h : wpList Tryd.prog ops Q rest (a.put o.dst (.slice (some ⟨ga, off + l, none⟩) m (cap - l))) w) : wpList Tryd.prog ops Q (o :: rest) a w := by
  subst hL hH
  refine wpSeq_val _ _ hw ?_ h
  unfold execOp
  rw [ho]
  simp only [hx, hlo, hhi, Option.map_some, Option.map_none, Sem.run_bind, cut_run ga off n cap l m hm hn hc w]
  rfl
/-- what a cut reads -/
theorem Reads.cut {w : World} {ga off n cap : Nat} {sig : List (BitVec 8)} (h : Reads w (.slice (some ⟨ga, off, none⟩) n cap) sig) (i : Nat) (hi : 32 * i + 32 ≤ sig.length) : Reads w (.slice (some ⟨ga, off + 32 * i, none⟩) 32 (cap - 32 * i)) (blk32 sig i) := by
  obtain ⟨ad, cap', hv, hc, hn, hx⟩ := h
  simp only [Value.slice.injEq] at hv
  obtain ⟨rfl, rfl, rfl⟩ := hv
  have hl : (blk32 sig i).length = 32 := len_blk32 hi
  refine ⟨_, _, by rw [hl], by rw [hl]; omega, (fun h => by cases h), fun _ => ?_⟩
  obtain ⟨b, off', h1, h2⟩ := hx (by omega)
  simp only [Option.some.injEq, Addr.mk.injEq, and_true] at h1
  obtain ⟨rfl, rfl⟩ := h1
  refine ⟨ga, off + 32 * i, rfl, fun j hj => ?_⟩
  rw [hl] at hj
  have h3 := h2 (32 * i + j) (by omega)
  rw [← Nat.add_assoc] at h3
  rw [h3]
  have e : (blk32 sig i).getD j 0 = sig.getD (32 * i + j) 0 := by
    unfold blk32
    rw [List.getD_eq_getElem?_getD, List.getD_eq_getElem?_getD, List.getElem?_take_of_lt hj, List.getElem?_drop]
  rw [e]
/-- one byte is set, the others have room -/
theorem own_first {w : World} {base g c : Nat} {z : List (BitVec 8)} {b : BitVec 8} (h : Blk w g (cb (z.set 0 b)) 5) (hb : base ≤ g) (hz : z.length = c) (hk : 1 ≤ c) (hc : c < 281474976710600) : OwnB w base (.slice (some ⟨g, 0, none⟩) 1 c) [b] := by
  have := own_of_blk (k := 1) h hb (by rw [List.length_set]; exact hz) hk hc
  cases z with
  | nil => simp at hz; omega
  | cons a r => simpa using this
theorem openR_head (on : Nat → Bool) (sig : List (BitVec 8)) (n : Nat) : ∃ t, openR on sig n = 80 :: t := by
  induction n with
  | zero => exact ⟨[], rfl⟩
  | succ n ih => obtain ⟨t, h⟩ := ih; exact ⟨_, by rw [openR, h, List.cons_append]⟩
end Go.Proofs.YtfbdnhadcnmfoaaDoor
/- The walks of the reference's part, hashed, Text and Public (layer 10). -/
namespace Go.Proofs.YtfbdnhadcnmfoaaDoor
open Go.RowKit
set_option maxRecDepth 100000
/-- a part of a key -/
def partB (x : List (BitVec 8)) (key i : Nat) (o : Bool) : List (BitVec 8) := dig (keyB x key (2 * i + (if o then 1 else 0)))
theorem len_partB (x : List (BitVec 8)) (key i : Nat) (o : Bool) : (partB x key i o).length = 32 := len_dig' _
theorem key_place (i : Nat) (hi : i < 256) (si : Nat) (hs : si ≤ 1) : IntKind.u64.wrap (IntKind.u64.wrap (2 * IntKind.u64.wrap (i : Int)) + IntKind.u64.wrap (si : Int)) = ((2 * i + si : Nat) : Int) := by
  simp only [IntKind.wrap_u64]
  omega
set_option maxRecDepth 100000 in
set_option maxHeartbeats 8000000 in
theorem qlPart_any (x : List (BitVec 8)) (key i : Nat) (o : Bool) (w : World) (hn : x.length = 32 ∧ key < 18446744073709551616 ∧ i < 256) :
    Calls Tryd.prog 44 #[.agg (cb x).toArray, .int .u64 (key : Int), .int .i64 (i : Int), .bool o] w fun e w' => e = .returned (.agg (cb (partB x key i o)).toArray) ∧ Below w.heap.size w w' := by
  obtain ⟨r, HRD⟩ : ∃ r, Hid (r = partB x key i o) := ⟨_, rfl⟩
  have HRL : Hid (r.length = 32) := by show _ = _; rw [HRD.out]; exact len_partB _ _ _ _
  have HN : Hid (x.length = 32 ∧ key < 18446744073709551616 ∧ i < 256) := hn
  have HBW : Hid (Below w.heap.size w w) := Below.refl _ _
  cases o with
  | true =>
    have HC : Hid (∀ W : World, Below w.heap.size w W → Calls Tryd.prog 54 #[.agg (cb x).toArray, .int .u64 (key : Int), .int .i64 (i : Int), .int .i64 1] W fun e w' => e = .returned (.agg (cb r).toArray) ∧ Below W.heap.size W w') := fun W hh => by
      rw [HRD.out]; exact rKeyOf_any x key _ (i : Int) (1 : Int) W (key_place i hn.2.2 1 (by omega)) ⟨hn.1, hn.2.1, by (split <;> omega)⟩
    clear hn
    go_enter Tryd.func44, Tryd.ntmps44
    have tk0 : Hid True := trivial
    have tk1 : Hid True := trivial
    have tk2 : Hid True := trivial
    have tk3 : Hid True := trivial
    have tk4 : Hid True := trivial
    go_wp2_with (first
      | (clear tk0; with_reducible refine wpSeq_boxD (.tmp 0) x ?_ ?_ ?_ ?_
         · rfl
         · rfl
         · rfl
         intro gx y1 nn
         replace HBW : Hid (Below w.heap.size w y1) := HBW.out.trans (nn.below.mono HBW.out.size)
         have HX : Hid (Blk y1 gx (cb x) 23) := nn.blk
         clear nn)
      | (clear tk1; with_reducible refine wpSeq_allocD ?_ ?_ ?_
         · rfl
         · rfl
         intro gr y2 nn
         have HGR : Hid (w.heap.size ≤ gr) := Nat.le_trans HBW.out.size nn.ge
         replace HX : Hid (Blk y2 gx (cb x) 23) := HX.out.below nn.below HX.out.lt
         replace HBW : Hid (Below w.heap.size w y2) := HBW.out.trans (nn.below.mono HBW.out.size)
         have HB : Hid (Blk y2 gr (cb zb32) 23) := nn.blk
         clear nn)
      | (clear tk2; with_reducible refine wpSeq_loadD (.tmp 4) gx x ?_ ?_ ?_ ?_ ?_ ?_
         · exact HN.out.1
         · exact HX.out
         · rfl
         · rfl
         · rfl)
      | (clear tk3; go_at_call 54; refine (HC.out y2 HBW.out).mono ?_; rintro e y3 ⟨rfl, hbz⟩
         replace HX : Hid (Blk y3 gx (cb x) 23) := HX.out.below hbz HX.out.lt
         replace HB : Hid (Blk y3 gr (cb zb32) 23) := HB.out.below hbz HB.out.lt
         replace HBW : Hid (Below w.heap.size w y3) := HBW.out.trans (hbz.mono HBW.out.size)
         clear hbz )
      | (clear tk4; with_reducible refine wpSeq_storeD (.tmp 8) (.tmp 13) gr zb32 r ?_ ?_ ?_ ?_ ?_ ?_ ?_ ?_
         · rfl
         · exact HRL.out
         · exact HB.out
         · rfl
         · rfl
         · rfl
         · rfl
         intro W9 h9))
    exact bodyPost_ret (v := .agg (cb r).toArray) (results_cell_row (by rfl) _ _ gr 23 _ (0, 0) _ rfl h9.blk Tryd.underlying23 rfl (by rw [List.size_toArray, cb_len, HRL.out]; exact info_digest)) rfl ⟨by rw [HRD.out], HBW.out.trans (h9.only.below HGR.out HBW.out.size)⟩
  | false =>
    have HC : Hid (∀ W : World, Below w.heap.size w W → Calls Tryd.prog 54 #[.agg (cb x).toArray, .int .u64 (key : Int), .int .i64 (i : Int), .int .i64 0] W fun e w' => e = .returned (.agg (cb r).toArray) ∧ Below W.heap.size W w') := fun W hh => by
      rw [HRD.out]; exact rKeyOf_any x key _ (i : Int) (0 : Int) W (key_place i hn.2.2 0 (by omega)) ⟨hn.1, hn.2.1, by (split <;> omega)⟩
    clear hn
    go_enter Tryd.func44, Tryd.ntmps44
    have tk0 : Hid True := trivial
    have tk1 : Hid True := trivial
    have tk2 : Hid True := trivial
    have tk3 : Hid True := trivial
    have tk4 : Hid True := trivial
    go_wp2_with (first
      | (clear tk0; with_reducible refine wpSeq_boxD (.tmp 0) x ?_ ?_ ?_ ?_
         · rfl
         · rfl
         · rfl
         intro gx y1 nn
         replace HBW : Hid (Below w.heap.size w y1) := HBW.out.trans (nn.below.mono HBW.out.size)
         have HX : Hid (Blk y1 gx (cb x) 23) := nn.blk
         clear nn)
      | (clear tk1; with_reducible refine wpSeq_allocD ?_ ?_ ?_
         · rfl
         · rfl
         intro gr y2 nn
         have HGR : Hid (w.heap.size ≤ gr) := Nat.le_trans HBW.out.size nn.ge
         replace HX : Hid (Blk y2 gx (cb x) 23) := HX.out.below nn.below HX.out.lt
         replace HBW : Hid (Below w.heap.size w y2) := HBW.out.trans (nn.below.mono HBW.out.size)
         have HB : Hid (Blk y2 gr (cb zb32) 23) := nn.blk
         clear nn)
      | (clear tk2; with_reducible refine wpSeq_loadD (.tmp 4) gx x ?_ ?_ ?_ ?_ ?_ ?_
         · exact HN.out.1
         · exact HX.out
         · rfl
         · rfl
         · rfl)
      | (clear tk3; go_at_call 54; refine (HC.out y2 HBW.out).mono ?_; rintro e y3 ⟨rfl, hbz⟩
         replace HX : Hid (Blk y3 gx (cb x) 23) := HX.out.below hbz HX.out.lt
         replace HB : Hid (Blk y3 gr (cb zb32) 23) := HB.out.below hbz HB.out.lt
         replace HBW : Hid (Below w.heap.size w y3) := HBW.out.trans (hbz.mono HBW.out.size)
         clear hbz )
      | (clear tk4; with_reducible refine wpSeq_storeD (.tmp 8) (.tmp 17) gr zb32 r ?_ ?_ ?_ ?_ ?_ ?_ ?_ ?_
         · rfl
         · exact HRL.out
         · exact HB.out
         · rfl
         · rfl
         · rfl
         · rfl
         intro W9 h9))
    exact bodyPost_ret (v := .agg (cb r).toArray) (results_cell_row (by rfl) _ _ gr 23 _ (0, 0) _ rfl h9.blk Tryd.underlying23 rfl (by rw [List.size_toArray, cb_len, HRL.out]; exact info_digest)) rfl ⟨by rw [HRD.out], HBW.out.trans (h9.only.below HGR.out HBW.out.size)⟩
set_option maxRecDepth 100000 in
set_option maxHeartbeats 8000000 in
theorem qlHashed_any (x : List (BitVec 8)) (key i : Nat) (o : Bool) (w : World) (hn : x.length = 32 ∧ key < 18446744073709551616 ∧ i < 256) :
    Calls Tryd.prog 45 #[.agg (cb x).toArray, .int .u64 (key : Int), .int .i64 (i : Int), .bool o] w fun e w' => e = .returned (.agg (cb (dig (partB x key i o))).toArray) ∧ Below w.heap.size w w' := by
  obtain ⟨p, HPD⟩ : ∃ r, Hid (r = partB x key i o) := ⟨_, rfl⟩
  have HPL : Hid (p.length = 32) := by show _ = _; rw [HPD.out]; exact len_partB _ _ _ _
  have HC1 : Hid (∀ W : World, Below w.heap.size w W → Calls Tryd.prog 44 #[.agg (cb x).toArray, .int .u64 (key : Int), .int .i64 (i : Int), .bool o] W fun e w' => e = .returned (.agg (cb p).toArray) ∧ Below W.heap.size W w') := fun W hh => by rw [HPD.out]; exact qlPart_any x key i o W hn
  rw [← HPD.out]
  obtain ⟨r, HRD⟩ : ∃ r, Hid (r = dig p) := ⟨_, rfl⟩
  have HRL : Hid (r.length = 32) := by show _ = _; rw [HRD.out]; exact len_dig' _
  have HC2 : Hid (∀ W : World, Below w.heap.size w W → ∀ v, Reads W v p → Calls Tryd.prog 32 #[v] W fun e w' => e = .returned (.agg (cb r).toArray) ∧ Below W.heap.size W w') := fun W hh v hv => by rw [HRD.out]; exact rOf_any v p W hv (by rw [HPL.out]; omega)
  have HN : Hid (x.length = 32 ∧ key < 18446744073709551616 ∧ i < 256) := hn
  have HBW : Hid (Below w.heap.size w w) := Below.refl _ _
  clear hn HPD
  go_enter Tryd.func45, Tryd.ntmps45
  have tk0 : Hid True := trivial
  have tk1 : Hid True := trivial
  have tk2 : Hid True := trivial
  have tk3 : Hid True := trivial
  have tk4 : Hid True := trivial
  have tk5 : Hid True := trivial
  have tk6 : Hid True := trivial
  have tk7 : Hid True := trivial
  go_wp2_with (first
    | (clear tk0; with_reducible refine wpSeq_boxD (.tmp 0) x ?_ ?_ ?_ ?_
       · rfl
       · rfl
       · rfl
       intro gx y1 nn
       replace HBW : Hid (Below w.heap.size w y1) := HBW.out.trans (nn.below.mono HBW.out.size)
       have HX : Hid (Blk y1 gx (cb x) 23) := nn.blk
       clear nn)
    | (clear tk1; with_reducible refine wpSeq_allocD ?_ ?_ ?_
       · rfl
       · rfl
       intro gr y2 nn
       have HGR : Hid (w.heap.size ≤ gr) := Nat.le_trans HBW.out.size nn.ge
       replace HX : Hid (Blk y2 gx (cb x) 23) := HX.out.below nn.below HX.out.lt
       replace HBW : Hid (Below w.heap.size w y2) := HBW.out.trans (nn.below.mono HBW.out.size)
       have HB : Hid (Blk y2 gr (cb zb32) 23) := nn.blk
       clear nn)
    | (clear tk2; with_reducible refine wpSeq_loadD (.tmp 4) gx x ?_ ?_ ?_ ?_ ?_ ?_
       · exact HN.out.1
       · exact HX.out
       · rfl
       · rfl
       · rfl)
    | (clear tk3; go_at_call 44; refine (HC1.out y2 HBW.out).mono ?_; rintro e y3 ⟨rfl, hbz⟩
       replace HX : Hid (Blk y3 gx (cb x) 23) := HX.out.below hbz HX.out.lt
       replace HB : Hid (Blk y3 gr (cb zb32) 23) := HB.out.below hbz HB.out.lt
       replace HBW : Hid (Below w.heap.size w y3) := HBW.out.trans (hbz.mono HBW.out.size)
       clear hbz )
    | (clear tk4; with_reducible refine wpSeq_allocD ?_ ?_ ?_
       · rfl
       · rfl
       intro gp y4 nn)
    | (clear tk5; with_reducible refine wpSeq_storeD (.tmp 9) (.tmp 14) gp zb32 p ?_ ?_ ?_ ?_ ?_ ?_ ?_ ?_
       · rfl
       · exact HPL.out
       · exact nn.blk
       · rfl
       · rfl
       · rfl
       · rfl
       intro y5 hs
       have hbz := nn.below.trans (hs.only.below nn.ge nn.below.size)
       replace HX : Hid (Blk y5 gx (cb x) 23) := HX.out.below hbz HX.out.lt
       replace HB : Hid (Blk y5 gr (cb zb32) 23) := HB.out.below hbz HB.out.lt
       replace HBW : Hid (Below w.heap.size w y5) := HBW.out.trans (hbz.mono HBW.out.size)
       have HP : Hid (Blk y5 gp (cb p) 23) := hs.blk
       clear nn hs hbz)
    | (clear tk6; go_at_call 32; refine (HC2.out y5 HBW.out (.slice (some ⟨gp, 0, none⟩) 32 32) (HP.out.reads HPL.out.symm (by rw [HPL.out]; exact Nat.le_refl _))).mono ?_; rintro e y6 ⟨rfl, hbz⟩
       replace HX : Hid (Blk y6 gx (cb x) 23) := HX.out.below hbz HX.out.lt
       replace HB : Hid (Blk y6 gr (cb zb32) 23) := HB.out.below hbz HB.out.lt
       replace HP : Hid (Blk y6 gp (cb p) 23) := HP.out.below hbz HP.out.lt
       replace HBW : Hid (Below w.heap.size w y6) := HBW.out.trans (hbz.mono HBW.out.size)
       clear hbz )
    | (clear tk7; with_reducible refine wpSeq_storeD (.tmp 8) (.tmp 16) gr zb32 r ?_ ?_ ?_ ?_ ?_ ?_ ?_ ?_
       · rfl
       · exact HRL.out
       · exact HB.out
       · rfl
       · rfl
       · rfl
       · rfl
       intro W9 h9))
  exact bodyPost_ret (v := .agg (cb r).toArray) (results_cell_row (by rfl) _ _ gr 23 _ (0, 0) _ rfl h9.blk Tryd.underlying23 rfl (by rw [List.size_toArray, cb_len, HRL.out]; exact info_digest)) rfl ⟨by rw [HRD.out], HBW.out.trans (h9.only.below HGR.out HBW.out.size)⟩
end Go.Proofs.YtfbdnhadcnmfoaaDoor
/- The walks of the reference's Text, Public and Sign (layer 10). -/
namespace Go.Proofs.YtfbdnhadcnmfoaaDoor
open Go.RowKit
set_option maxRecDepth 100000
theorem bit_nat (d : List (BitVec 8)) (k : Nat) (hk : k < 256) : bitI d (k : Int) = bt d k := by
  have : isB (k : Int) = true := (isB_iff _).2 ⟨by omega, by omega⟩
  simp [bitI, this]
set_option maxRecDepth 100000 in
set_option maxHeartbeats 8000000 in
theorem qlText_any (x : List (BitVec 8)) (key : Nat) (w : World) (hn : x.length = 32 ∧ key < 18446744073709551616) :
    Calls Tryd.prog 42 #[.agg (cb x).toArray, .int .u64 (key : Int)] w fun e w' => ∃ v, e = .returned v ∧ Reads w' v (textR (partB x key) 256) ∧ Below w.heap.size w w' := by
  obtain ⟨P, HP⟩ : ∃ P, Hid (P = partB x key) := ⟨_, rfl⟩
  have HPL : Hid (∀ i o, (dig (P i o)).length = 32) := fun i o => len_dig' _
  have HC : Hid (∀ W : World, Below w.heap.size w W → ∀ (i : Nat) (o : Bool), i < 256 → Calls Tryd.prog 45 #[.agg (cb x).toArray, .int .u64 (key : Int), .int .i64 (i : Int), .bool o] W fun e w' => e = .returned (.agg (cb (dig (P i o))).toArray) ∧ Below W.heap.size W w') := fun W hh i o hi => by rw [HP.out]; exact qlHashed_any x key i o W ⟨hn.1, hn.2, hi⟩
  rw [← HP.out]
  have HN : Hid (x.length = 32 ∧ key < 18446744073709551616) := hn
  have HBW : Hid (Below w.heap.size w w) := Below.refl _ _
  clear hn HP
  go_enter Tryd.func42, Tryd.ntmps42
  have tk0 : Hid True := trivial
  have tk1 : Hid True := trivial
  have tk2 : Hid True := trivial
  go_wp2_with (first
    | (clear tk0; with_reducible refine wpSeq_boxD (.tmp 0) x ?_ ?_ ?_ ?_
       · rfl
       · rfl
       · rfl
       intro gx y1 nn
       replace HBW : Hid (Below w.heap.size w y1) := HBW.out.trans (nn.below.mono HBW.out.size)
       have HX : Hid (Blk y1 gx (cb x) 23) := nn.blk
       clear nn)
    | (clear tk1; with_reducible refine wpSeq_make (.const (.int .i64 1)) (.const (.int .i64 16385)) 1 16385 ?_ ?_ ?_ ?_ ?_ ?_ ?_
       · decide
       · decide
       · rfl
       · rfl
       · rfl
       · rfl
       intro go y2 z hz hge hzb hzl)
    | (clear tk2; with_reducible refine wpSeq_storeY (.tmp 11) (.const (.int .u8 80)) go 0 z 80 ?_ ?_ ?_ ?_ ?_ ?_ ?_
       · rw [hz, List.length_replicate]; decide
       · exact hzb
       · rfl
       · rfl
       · rfl
       · rfl
       intro y3 hzs hon
       have hbz := hzl.trans (hon.below hge hzl.size)
       have HO : Hid (OwnB y3 w.heap.size (.slice (some ⟨go, 0, none⟩) 1 16385) [80]) := own_first hzs (Nat.le_trans HBW.out.size hge) (by rw [hz, List.length_replicate]) (by decide) (by decide)
       replace HX : Hid (Blk y3 gx (cb x) 23) := HX.out.below hbz HX.out.lt
       replace HBW : Hid (Below w.heap.size w y3) := HBW.out.trans (hbz.mono HBW.out.size)
       clear hz hge hzb hzl hzs hon hbz))
  go_loopw [5, 6] (fun u i wr => ∃ k : Nat, k ≤ 256 ∧ i = .int .i64 (k : Int) ∧ OwnB wr w.heap.size u (textR P k) ∧ Blk wr gx (cb x) 23 ∧ Below w.heap.size w wr) (fun _ i _ => 256 - (intOf i).toNat)
  case atStart => exact ⟨0, by omega, rfl, HO.out, HX.out, HBW.out⟩
  case round =>
    clear HX HBW HO
    obtain ⟨k, hkn, rfl, ho, hx, hbw⟩ := hrel
    have HO : Hid (OwnB wr w.heap.size u5 (textR P k)) := ho
    have HX : Hid (Blk wr gx (cb x) 23) := hx
    have HBW : Hid (Below w.heap.size w wr) := hbw
    clear ho hx hbw
    by_cases hlt : k < 256
    · have hi : (k : Int) < 256 := by omega
      have f5 : IntKind.i64.wrap ((k : Int) + 1) = (k : Int) + 1 := by rw [IntKind.wrap_i64]; omega
      obtain ⟨pa, HPA⟩ : ∃ p, Hid (p = dig (P k false)) := ⟨_, rfl⟩
      have HPAL : Hid (pa.length = 32) := by show _ = _; rw [HPA.out]; exact HPL.out _ _
      obtain ⟨pb, HPB⟩ : ∃ p, Hid (p = dig (P k true)) := ⟨_, rfl⟩
      have HPBL : Hid (pb.length = 32) := by show _ = _; rw [HPB.out]; exact HPL.out _ _
      have tk20 : Hid True := trivial
      have tk21 : Hid True := trivial
      have tk22 : Hid True := trivial
      have tk23 : Hid True := trivial
      have tk24 : Hid True := trivial
      have tk25 : Hid True := trivial
      have tk26 : Hid True := trivial
      have tk27 : Hid True := trivial
      have tk28 : Hid True := trivial
      have tk29 : Hid True := trivial
      go_wp2_with (first
        | (clear tk20; with_reducible refine wpSeq_loadD (.tmp 2) gx x ?_ ?_ ?_ ?_ ?_ ?_
           · exact HN.out.1
           · exact HX.out
           · rfl
           · rfl
           · rfl)
        | (clear tk21; go_at_call 45; refine (HC.out wr HBW.out k false hlt).mono ?_; rintro e y21 ⟨rfl, hbz⟩
           replace HX : Hid (Blk y21 gx (cb x) 23) := HX.out.below hbz HX.out.lt
           replace HO : Hid (OwnB y21 w.heap.size u5 (textR P k)) := HO.out.below hbz (Nat.le_refl _)
           replace HBW : Hid (Below w.heap.size w y21) := HBW.out.trans (hbz.mono HBW.out.size)
           rw [← HPA.out]
           clear hbz )
        | (clear tk22; with_reducible refine wpSeq_allocD ?_ ?_ ?_
           · rfl
           · rfl
           intro ga y22 nn)
        | (clear tk23; with_reducible refine wpSeq_storeD (.tmp 7) (.tmp 19) ga zb32 pa ?_ ?_ ?_ ?_ ?_ ?_ ?_ ?_
           · rfl
           · exact HPAL.out
           · exact nn.blk
           · rfl
           · rfl
           · rfl
           · rfl
           intro y23 hs
           have hbz := nn.below.trans (hs.only.below nn.ge nn.below.size)
           replace HX : Hid (Blk y23 gx (cb x) 23) := HX.out.below hbz HX.out.lt
           replace HO : Hid (OwnB y23 w.heap.size u5 (textR P k)) := HO.out.below hbz (Nat.le_refl _)
           replace HBW : Hid (Below w.heap.size w y23) := HBW.out.trans (hbz.mono HBW.out.size)
           have HA : Hid (Blk y23 ga (cb pa) 23) := hs.blk
           clear nn hs hbz)
        | (clear tk24; with_reducible refine wpSeq_loadD (.tmp 2) gx x ?_ ?_ ?_ ?_ ?_ ?_
           · exact HN.out.1
           · exact HX.out
           · rfl
           · rfl
           · rfl)
        | (clear tk25; go_at_call 45; refine (HC.out y23 HBW.out k true hlt).mono ?_; rintro e y24 ⟨rfl, hbz⟩
           replace HX : Hid (Blk y24 gx (cb x) 23) := HX.out.below hbz HX.out.lt
           replace HA : Hid (Blk y24 ga (cb pa) 23) := HA.out.below hbz HA.out.lt
           replace HO : Hid (OwnB y24 w.heap.size u5 (textR P k)) := HO.out.below hbz (Nat.le_refl _)
           replace HBW : Hid (Below w.heap.size w y24) := HBW.out.trans (hbz.mono HBW.out.size)
           rw [← HPB.out]
           clear hbz )
        | (clear tk26; with_reducible refine wpSeq_allocD ?_ ?_ ?_
           · rfl
           · rfl
           intro gb y25 nn)
        | (clear tk27; with_reducible refine wpSeq_storeD (.tmp 8) (.tmp 23) gb zb32 pb ?_ ?_ ?_ ?_ ?_ ?_ ?_ ?_
           · rfl
           · exact HPBL.out
           · exact nn.blk
           · rfl
           · rfl
           · rfl
           · rfl
           intro y26 hs
           have hbz := nn.below.trans (hs.only.below nn.ge nn.below.size)
           replace HX : Hid (Blk y26 gx (cb x) 23) := HX.out.below hbz HX.out.lt
           replace HA : Hid (Blk y26 ga (cb pa) 23) := HA.out.below hbz HA.out.lt
           replace HO : Hid (OwnB y26 w.heap.size u5 (textR P k)) := HO.out.below hbz (Nat.le_refl _)
           replace HBW : Hid (Below w.heap.size w y26) := HBW.out.trans (hbz.mono HBW.out.size)
           have HB : Hid (Blk y26 gb (cb pb) 23) := hs.blk
           clear nn hs hbz)
        | (clear tk28; at_builtin; with_reducible refine wpSeq_appendG (.tmp 24) (.tmp 25) w.heap.size u5 (.slice (some ⟨ga, 0, none⟩) 32 32) (textR P k) (pa) HO.out (HA.out.reads HPAL.out.symm (by rw [HPAL.out]; exact Nat.le_refl _)) (by rw [HPAL.out]; decide) (by have h1 := HPAL.out; have h2 := HPBL.out; have h3 := len_textR P k; (try rw [List.length_append]); omega) HBW.out.size ?_ ?_ ?_ ?_ ?_
           · rfl
           · rfl
           · rfl
           · rfl
           intro v1 y27 hown hgr hbz
           replace HX : Hid (Blk y27 gx (cb x) 23) := HX.out.grown hgr (HO.out.ne HX.out (by decide))
           replace HA : Hid (Blk y27 ga (cb pa) 23) := HA.out.grown hgr (HO.out.ne HA.out (by decide))
           replace HB : Hid (Blk y27 gb (cb pb) 23) := HB.out.grown hgr (HO.out.ne HB.out (by decide))
           replace HO : Hid (OwnB y27 w.heap.size v1 (textR P k ++ pa)) := hown
           replace HBW : Hid (Below w.heap.size w y27) := HBW.out.trans hbz
           clear hown hgr hbz)
        | (clear tk29; at_builtin; with_reducible refine wpSeq_appendG (.tmp 27) (.tmp 28) w.heap.size v1 (.slice (some ⟨gb, 0, none⟩) 32 32) (textR P k ++ pa) (pb) HO.out (HB.out.reads HPBL.out.symm (by rw [HPBL.out]; exact Nat.le_refl _)) (by rw [HPBL.out]; decide) (by have h1 := HPAL.out; have h2 := HPBL.out; have h3 := len_textR P k; (try rw [List.length_append]); omega) HBW.out.size ?_ ?_ ?_ ?_ ?_
           · rfl
           · rfl
           · rfl
           · rfl
           intro v2 y28 hown hgr hbz
           replace HX : Hid (Blk y28 gx (cb x) 23) := HX.out.grown hgr (HO.out.ne HX.out (by decide))
           replace HA : Hid (Blk y28 ga (cb pa) 23) := HA.out.grown hgr (HO.out.ne HA.out (by decide))
           replace HB : Hid (Blk y28 gb (cb pb) 23) := HB.out.grown hgr (HO.out.ne HB.out (by decide))
           replace HO : Hid (OwnB y28 w.heap.size v2 (textR P k ++ pa ++ pb)) := hown
           replace HBW : Hid (Below w.heap.size w y28) := HBW.out.trans hbz
           clear hown hgr hbz))
      go_roundw
      case rel =>
        refine ⟨k + 1, by omega, by simp, ?_, HX.out, HBW.out⟩
        rw [textR, ← HPA.out, ← HPB.out, ← List.append_assoc]
        exact HO.out
      case measure => simp [intOf]; omega
    · have hi : ¬ ((k : Int) < 256) := by omega
      have hk : k = 256 := by omega
      subst hk
      go_wp2
      go_ret
      exact ⟨_, rfl, HO.out.reads, HBW.out⟩
set_option maxRecDepth 100000 in
set_option maxHeartbeats 8000000 in
theorem qlPublic_any (x : List (BitVec 8)) (key : Nat) (w : World) (hn : x.length = 32 ∧ key < 18446744073709551616) :
    Calls Tryd.prog 27 #[.agg (cb x).toArray, .int .u64 (key : Int)] w fun e w' => e = .returned (.agg (cb (dig (textR (partB x key) 256))).toArray) ∧ Below w.heap.size w w' := by
  obtain ⟨t, HTD⟩ : ∃ t, Hid (t = textR (partB x key) 256) := ⟨_, rfl⟩
  have HTL : Hid (t.length = 16385) := by show _ = _; rw [HTD.out, len_textR]
  have HC1 : Hid (∀ W : World, Below w.heap.size w W → Calls Tryd.prog 42 #[.agg (cb x).toArray, .int .u64 (key : Int)] W fun e w' => ∃ v, e = .returned v ∧ Reads w' v t ∧ Below W.heap.size W w') := fun W hh => by rw [HTD.out]; exact qlText_any x key W hn
  rw [← HTD.out]
  obtain ⟨r, HRD⟩ : ∃ r, Hid (r = dig t) := ⟨_, rfl⟩
  have HRL : Hid (r.length = 32) := by show _ = _; rw [HRD.out]; exact len_dig' _
  have HC2 : Hid (∀ W : World, Below w.heap.size w W → ∀ v, Reads W v t → Calls Tryd.prog 32 #[v] W fun e w' => e = .returned (.agg (cb r).toArray) ∧ Below W.heap.size W w') := fun W hh v hv => by rw [HRD.out]; exact rOf_any v t W hv (by rw [HTL.out]; omega)
  have HN : Hid (x.length = 32 ∧ key < 18446744073709551616) := hn
  have HBW : Hid (Below w.heap.size w w) := Below.refl _ _
  clear hn HTD
  go_enter Tryd.func27, Tryd.ntmps27
  have tk0 : Hid True := trivial
  have tk1 : Hid True := trivial
  have tk2 : Hid True := trivial
  have tk3 : Hid True := trivial
  have tk4 : Hid True := trivial
  have tk5 : Hid True := trivial
  go_wp2_with (first
    | (clear tk0; with_reducible refine wpSeq_boxD (.tmp 0) x ?_ ?_ ?_ ?_
       · rfl
       · rfl
       · rfl
       intro gx y1 nn
       replace HBW : Hid (Below w.heap.size w y1) := HBW.out.trans (nn.below.mono HBW.out.size)
       have HX : Hid (Blk y1 gx (cb x) 23) := nn.blk
       clear nn)
    | (clear tk1; with_reducible refine wpSeq_allocD ?_ ?_ ?_
       · rfl
       · rfl
       intro gr y2 nn
       have HGR : Hid (w.heap.size ≤ gr) := Nat.le_trans HBW.out.size nn.ge
       replace HX : Hid (Blk y2 gx (cb x) 23) := HX.out.below nn.below HX.out.lt
       replace HBW : Hid (Below w.heap.size w y2) := HBW.out.trans (nn.below.mono HBW.out.size)
       have HB : Hid (Blk y2 gr (cb zb32) 23) := nn.blk
       clear nn)
    | (clear tk2; with_reducible refine wpSeq_loadD (.tmp 2) gx x ?_ ?_ ?_ ?_ ?_ ?_
       · exact HN.out.1
       · exact HX.out
       · rfl
       · rfl
       · rfl)
    | (clear tk3; go_at_call 42; refine (HC1.out y2 HBW.out).mono ?_; rintro e y3 ⟨vt, rfl, hrt, hbz⟩
       replace HX : Hid (Blk y3 gx (cb x) 23) := HX.out.below hbz HX.out.lt
       replace HB : Hid (Blk y3 gr (cb zb32) 23) := HB.out.below hbz HB.out.lt
       replace HBW : Hid (Below w.heap.size w y3) := HBW.out.trans (hbz.mono HBW.out.size)
       have HT : Hid (Reads y3 vt t) := hrt
       clear hbz hrt)
    | (clear tk4; go_at_call 32; refine (HC2.out y3 HBW.out vt HT.out).mono ?_; rintro e y4 ⟨rfl, hbz⟩
       replace HX : Hid (Blk y4 gx (cb x) 23) := HX.out.below hbz HX.out.lt
       replace HB : Hid (Blk y4 gr (cb zb32) 23) := HB.out.below hbz HB.out.lt
       replace HBW : Hid (Below w.heap.size w y4) := HBW.out.trans (hbz.mono HBW.out.size)
       clear hbz )
    | (clear tk5; with_reducible refine wpSeq_storeD (.tmp 4) (.tmp 8) gr zb32 r ?_ ?_ ?_ ?_ ?_ ?_ ?_ ?_
       · rfl
       · exact HRL.out
       · exact HB.out
       · rfl
       · rfl
       · rfl
       · rfl
       intro W9 h9))
  exact bodyPost_ret (v := .agg (cb r).toArray) (results_cell_row (by rfl) _ _ gr 23 _ (0, 0) _ rfl h9.blk Tryd.underlying23 rfl (by rw [List.size_toArray, cb_len, HRL.out]; exact info_digest)) rfl ⟨by rw [HRD.out], HBW.out.trans (h9.only.below HGR.out HBW.out.size)⟩
set_option maxRecDepth 100000 in
set_option maxHeartbeats 8000000 in
theorem qlSign_own (x : List (BitVec 8)) (key : Nat) (vb : Value) (b : List (BitVec 8)) (w : World) (hn : x.length = 32 ∧ key < 18446744073709551616) (hb : Reads w vb b) (hl : b.length < 140737488350000) :
    Calls Tryd.prog 28 #[.agg (cb x).toArray, .int .u64 (key : Int), vb] w fun e w' => ∃ v, e = .returned v ∧ OwnB w' w.heap.size v (signR (partB x key) (bt (dig b)) 256) ∧ Below w.heap.size w w' := by
  obtain ⟨P, HP⟩ : ∃ P, Hid (P = partB x key) := ⟨_, rfl⟩
  have HPP : Hid (∀ i o, (P i o).length = 32) := fun i o => by rw [HP.out]; exact len_partB _ _ _ _
  obtain ⟨d, HDD⟩ : ∃ d, Hid (d = dig b) := ⟨_, rfl⟩
  have HDL : Hid (d.length = 32) := by show _ = _; rw [HDD.out]; exact len_dig' _
  have HC0 : Hid (∀ W : World, Below w.heap.size w W → Calls Tryd.prog 32 #[vb] W fun e w' => e = .returned (.agg (cb d).toArray) ∧ Below W.heap.size W w') := fun W hh => by rw [HDD.out]; exact rOf_any vb b W (hb.below hh) hl
  have HC1 : Hid (∀ W : World, Below w.heap.size w W → ∀ k : Nat, k < 256 → Calls Tryd.prog 43 #[.agg (cb d).toArray, .int .i64 (k : Int)] W fun e w' => e = .returned (.bool (bt d k)) ∧ Below W.heap.size W w') := fun W hh k hk => by rw [← bit_nat d k hk]; exact sBit_any d HDL.out (k : Int) W
  have HC2 : Hid (∀ W : World, Below w.heap.size w W → ∀ (i : Nat) (o : Bool), i < 256 → Calls Tryd.prog 44 #[.agg (cb x).toArray, .int .u64 (key : Int), .int .i64 (i : Int), .bool o] W fun e w' => e = .returned (.agg (cb (P i o)).toArray) ∧ Below W.heap.size W w') := fun W hh i o hi => by rw [HP.out]; exact qlPart_any x key i o W ⟨hn.1, hn.2, hi⟩
  have HC3 : Hid (∀ W : World, Below w.heap.size w W → ∀ (i : Nat) (o : Bool), i < 256 → Calls Tryd.prog 45 #[.agg (cb x).toArray, .int .u64 (key : Int), .int .i64 (i : Int), .bool o] W fun e w' => e = .returned (.agg (cb (dig (P i o))).toArray) ∧ Below W.heap.size W w') := fun W hh i o hi => by rw [HP.out]; exact qlHashed_any x key i o W ⟨hn.1, hn.2, hi⟩
  rw [← HP.out, ← HDD.out]
  have HN : Hid (x.length = 32 ∧ key < 18446744073709551616) := hn
  have HBW : Hid (Below w.heap.size w w) := Below.refl _ _
  obtain ⟨ab, cbb, hvb, _⟩ := id hb
  subst hvb
  clear hn HP HDD hb hl
  go_enter Tryd.func28, Tryd.ntmps28
  have tk0 : Hid True := trivial
  have tk1 : Hid True := trivial
  have tk2 : Hid True := trivial
  have tk3 : Hid True := trivial
  have tk4 : Hid True := trivial
  go_wp2_with (first
    | (clear tk0; with_reducible refine wpSeq_boxD (.tmp 0) x ?_ ?_ ?_ ?_
       · rfl
       · rfl
       · rfl
       intro gx y1 nn
       replace HBW : Hid (Below w.heap.size w y1) := HBW.out.trans (nn.below.mono HBW.out.size)
       have HX : Hid (Blk y1 gx (cb x) 23) := nn.blk
       clear nn)
    | (clear tk1; go_at_call 32; refine (HC0.out y1 HBW.out).mono ?_; rintro e y2 ⟨rfl, hbz⟩
       replace HX : Hid (Blk y2 gx (cb x) 23) := HX.out.below hbz HX.out.lt
       replace HBW : Hid (Below w.heap.size w y2) := HBW.out.trans (hbz.mono HBW.out.size)
       clear hbz )
    | (clear tk2; with_reducible refine wpSeq_allocD ?_ ?_ ?_
       · rfl
       · rfl
       intro gd y3 nn)
    | (clear tk3; with_reducible refine wpSeq_storeD (.tmp 7) (.tmp 14) gd zb32 d ?_ ?_ ?_ ?_ ?_ ?_ ?_ ?_
       · rfl
       · exact HDL.out
       · exact nn.blk
       · rfl
       · rfl
       · rfl
       · rfl
       intro y4 hs
       have hbz := nn.below.trans (hs.only.below nn.ge nn.below.size)
       replace HX : Hid (Blk y4 gx (cb x) 23) := HX.out.below hbz HX.out.lt
       replace HBW : Hid (Below w.heap.size w y4) := HBW.out.trans (hbz.mono HBW.out.size)
       have HD : Hid (Blk y4 gd (cb d) 23) := hs.blk
       clear nn hs hbz)
    | (clear tk4; with_reducible refine wpSeq_make (.const (.int .i64 0)) (.const (.int .i64 16384)) 0 16384 ?_ ?_ ?_ ?_ ?_ ?_ ?_
       · decide
       · decide
       · rfl
       · rfl
       · rfl
       · rfl
       intro go y5 z hz hge hzb hzl
       have HO : Hid (OwnB y5 w.heap.size (.slice (some ⟨go, 0, none⟩) 0 16384) []) := own_of_blk (k := 0) hzb (Nat.le_trans HBW.out.size hge) (by rw [hz, List.length_replicate]) (by decide) (by decide)
       replace HX : Hid (Blk y5 gx (cb x) 23) := HX.out.below hzl HX.out.lt
       replace HD : Hid (Blk y5 gd (cb d) 23) := HD.out.below hzl HD.out.lt
       replace HBW : Hid (Below w.heap.size w y5) := HBW.out.trans (hzl.mono HBW.out.size)
       clear hz hge hzb hzl))
  go_loopw [8, 9] (fun u i wr => ∃ k : Nat, k ≤ 256 ∧ i = .int .i64 (k : Int) ∧ OwnB wr w.heap.size u (signR P (bt d) k) ∧ Blk wr gx (cb x) 23 ∧ Blk wr gd (cb d) 23 ∧ Below w.heap.size w wr) (fun _ i _ => 256 - (intOf i).toNat)
  case atStart => exact ⟨0, by omega, rfl, HO.out, HX.out, HD.out, HBW.out⟩
  case round =>
    clear HX HBW HO HD
    obtain ⟨k, hkn, rfl, ho, hx, hd, hbw⟩ := hrel
    have HO : Hid (OwnB wr w.heap.size u8 (signR P (bt d) k)) := ho
    have HX : Hid (Blk wr gx (cb x) 23) := hx
    have HD : Hid (Blk wr gd (cb d) 23) := hd
    have HBW : Hid (Below w.heap.size w wr) := hbw
    clear ho hx hd hbw
    by_cases hlt : k < 256
    · have hi : (k : Int) < 256 := by omega
      have f5 : IntKind.i64.wrap ((k : Int) + 1) = (k : Int) + 1 := by rw [IntKind.wrap_i64]; omega
      obtain ⟨o, HOO⟩ : ∃ o, Hid (o = bt d k) := ⟨_, rfl⟩
      obtain ⟨pa, HPA⟩ : ∃ p, Hid (p = P k o) := ⟨_, rfl⟩
      have HPAL : Hid (pa.length = 32) := by show _ = _; rw [HPA.out]; exact HPP.out _ _
      obtain ⟨pb, HPB⟩ : ∃ p, Hid (p = dig (P k (!o))) := ⟨_, rfl⟩
      have HPBL : Hid (pb.length = 32) := by show _ = _; rw [HPB.out]; exact len_dig' _
      have tk20 : Hid True := trivial
      have tk21 : Hid True := trivial
      have tk22 : Hid True := trivial
      have tk23 : Hid True := trivial
      have tk24 : Hid True := trivial
      have tk25 : Hid True := trivial
      have tk26 : Hid True := trivial
      have tk27 : Hid True := trivial
      have tk28 : Hid True := trivial
      have tk29 : Hid True := trivial
      have tk30 : Hid True := trivial
      have tk31 : Hid True := trivial
      go_wp2_with (first
        | (clear tk20; with_reducible refine wpSeq_loadD (.tmp 7) gd d ?_ ?_ ?_ ?_ ?_ ?_
           · exact HDL.out
           · exact HD.out
           · rfl
           · rfl
           · rfl)
        | (clear tk21; go_at_call 43; refine (HC1.out wr HBW.out k hlt).mono ?_; rintro e y21 ⟨rfl, hbz⟩
           replace HX : Hid (Blk y21 gx (cb x) 23) := HX.out.below hbz HX.out.lt
           replace HD : Hid (Blk y21 gd (cb d) 23) := HD.out.below hbz HD.out.lt
           replace HO : Hid (OwnB y21 w.heap.size u8 (signR P (bt d) k)) := HO.out.below hbz (Nat.le_refl _)
           replace HBW : Hid (Below w.heap.size w y21) := HBW.out.trans (hbz.mono HBW.out.size)
           rw [← HOO.out]
           clear hbz )
        | (clear tk22; with_reducible refine wpSeq_loadD (.tmp 3) gx x ?_ ?_ ?_ ?_ ?_ ?_
           · exact HN.out.1
           · exact HX.out
           · rfl
           · rfl
           · rfl)
        | (clear tk23; go_at_call 44; refine (HC2.out y21 HBW.out k o hlt).mono ?_; rintro e y22 ⟨rfl, hbz⟩
           replace HX : Hid (Blk y22 gx (cb x) 23) := HX.out.below hbz HX.out.lt
           replace HD : Hid (Blk y22 gd (cb d) 23) := HD.out.below hbz HD.out.lt
           replace HO : Hid (OwnB y22 w.heap.size u8 (signR P (bt d) k)) := HO.out.below hbz (Nat.le_refl _)
           replace HBW : Hid (Below w.heap.size w y22) := HBW.out.trans (hbz.mono HBW.out.size)
           rw [← HPA.out]
           clear hbz )
        | (clear tk24; with_reducible refine wpSeq_allocD ?_ ?_ ?_
           · rfl
           · rfl
           intro ga y23 nn)
        | (clear tk25; with_reducible refine wpSeq_storeD (.tmp 11) (.tmp 27) ga zb32 pa ?_ ?_ ?_ ?_ ?_ ?_ ?_ ?_
           · rfl
           · exact HPAL.out
           · exact nn.blk
           · rfl
           · rfl
           · rfl
           · rfl
           intro y24 hs
           have hbz := nn.below.trans (hs.only.below nn.ge nn.below.size)
           replace HX : Hid (Blk y24 gx (cb x) 23) := HX.out.below hbz HX.out.lt
           replace HD : Hid (Blk y24 gd (cb d) 23) := HD.out.below hbz HD.out.lt
           replace HO : Hid (OwnB y24 w.heap.size u8 (signR P (bt d) k)) := HO.out.below hbz (Nat.le_refl _)
           replace HBW : Hid (Below w.heap.size w y24) := HBW.out.trans (hbz.mono HBW.out.size)
           have HA : Hid (Blk y24 ga (cb pa) 23) := hs.blk
           clear nn hs hbz)
        | (clear tk26; with_reducible refine wpSeq_loadD (.tmp 3) gx x ?_ ?_ ?_ ?_ ?_ ?_
           · exact HN.out.1
           · exact HX.out
           · rfl
           · rfl
           · rfl)
        | (clear tk27; go_at_call 45; refine (HC3.out y24 HBW.out k (!o) hlt).mono ?_; rintro e y25 ⟨rfl, hbz⟩
           replace HX : Hid (Blk y25 gx (cb x) 23) := HX.out.below hbz HX.out.lt
           replace HD : Hid (Blk y25 gd (cb d) 23) := HD.out.below hbz HD.out.lt
           replace HA : Hid (Blk y25 ga (cb pa) 23) := HA.out.below hbz HA.out.lt
           replace HO : Hid (OwnB y25 w.heap.size u8 (signR P (bt d) k)) := HO.out.below hbz (Nat.le_refl _)
           replace HBW : Hid (Below w.heap.size w y25) := HBW.out.trans (hbz.mono HBW.out.size)
           rw [← HPB.out]
           clear hbz )
        | (clear tk28; with_reducible refine wpSeq_allocD ?_ ?_ ?_
           · rfl
           · rfl
           intro gb y26 nn)
        | (clear tk29; with_reducible refine wpSeq_storeD (.tmp 12) (.tmp 33) gb zb32 pb ?_ ?_ ?_ ?_ ?_ ?_ ?_ ?_
           · rfl
           · exact HPBL.out
           · exact nn.blk
           · rfl
           · rfl
           · rfl
           · rfl
           intro y27 hs
           have hbz := nn.below.trans (hs.only.below nn.ge nn.below.size)
           replace HX : Hid (Blk y27 gx (cb x) 23) := HX.out.below hbz HX.out.lt
           replace HD : Hid (Blk y27 gd (cb d) 23) := HD.out.below hbz HD.out.lt
           replace HA : Hid (Blk y27 ga (cb pa) 23) := HA.out.below hbz HA.out.lt
           replace HO : Hid (OwnB y27 w.heap.size u8 (signR P (bt d) k)) := HO.out.below hbz (Nat.le_refl _)
           replace HBW : Hid (Below w.heap.size w y27) := HBW.out.trans (hbz.mono HBW.out.size)
           have HB : Hid (Blk y27 gb (cb pb) 23) := hs.blk
           clear nn hs hbz)
        | (clear tk30; at_builtin; with_reducible refine wpSeq_appendG (.tmp 34) (.tmp 35) w.heap.size u8 (.slice (some ⟨ga, 0, none⟩) 32 32) (signR P (bt d) k) (pa) HO.out (HA.out.reads HPAL.out.symm (by rw [HPAL.out]; exact Nat.le_refl _)) (by rw [HPAL.out]; decide) (by have h1 := HPAL.out; have h2 := HPBL.out; have h3 := len_signR HPP.out (bt d) k; (try rw [List.length_append]); omega) HBW.out.size ?_ ?_ ?_ ?_ ?_
           · rfl
           · rfl
           · rfl
           · rfl
           intro v1 y28 hown hgr hbz
           replace HX : Hid (Blk y28 gx (cb x) 23) := HX.out.grown hgr (HO.out.ne HX.out (by decide))
           replace HD : Hid (Blk y28 gd (cb d) 23) := HD.out.grown hgr (HO.out.ne HD.out (by decide))
           replace HA : Hid (Blk y28 ga (cb pa) 23) := HA.out.grown hgr (HO.out.ne HA.out (by decide))
           replace HB : Hid (Blk y28 gb (cb pb) 23) := HB.out.grown hgr (HO.out.ne HB.out (by decide))
           replace HO : Hid (OwnB y28 w.heap.size v1 (signR P (bt d) k ++ pa)) := hown
           replace HBW : Hid (Below w.heap.size w y28) := HBW.out.trans hbz
           clear hown hgr hbz)
        | (clear tk31; at_builtin; with_reducible refine wpSeq_appendG (.tmp 37) (.tmp 38) w.heap.size v1 (.slice (some ⟨gb, 0, none⟩) 32 32) (signR P (bt d) k ++ pa) (pb) HO.out (HB.out.reads HPBL.out.symm (by rw [HPBL.out]; exact Nat.le_refl _)) (by rw [HPBL.out]; decide) (by have h1 := HPAL.out; have h2 := HPBL.out; have h3 := len_signR HPP.out (bt d) k; (try rw [List.length_append]); omega) HBW.out.size ?_ ?_ ?_ ?_ ?_
           · rfl
           · rfl
           · rfl
           · rfl
           intro v2 y29 hown hgr hbz
           replace HX : Hid (Blk y29 gx (cb x) 23) := HX.out.grown hgr (HO.out.ne HX.out (by decide))
           replace HD : Hid (Blk y29 gd (cb d) 23) := HD.out.grown hgr (HO.out.ne HD.out (by decide))
           replace HA : Hid (Blk y29 ga (cb pa) 23) := HA.out.grown hgr (HO.out.ne HA.out (by decide))
           replace HB : Hid (Blk y29 gb (cb pb) 23) := HB.out.grown hgr (HO.out.ne HB.out (by decide))
           replace HO : Hid (OwnB y29 w.heap.size v2 (signR P (bt d) k ++ pa ++ pb)) := hown
           replace HBW : Hid (Below w.heap.size w y29) := HBW.out.trans hbz
           clear hown hgr hbz))
      go_roundw
      case rel =>
        refine ⟨k + 1, by omega, by simp, ?_, HX.out, HD.out, HBW.out⟩
        rw [signR, ← HOO.out, ← HPA.out, ← HPB.out, ← List.append_assoc]
        exact HO.out
      case measure => simp [intOf]; omega
    · have hi : ¬ ((k : Int) < 256) := by omega
      have hk : k = 256 := by omega
      subst hk
      go_wp2
      go_ret
      exact ⟨_, rfl, HO.out, HBW.out⟩
theorem qlSign_any (x : List (BitVec 8)) (key : Nat) (vb : Value) (b : List (BitVec 8)) (w : World) (hn : x.length = 32 ∧ key < 18446744073709551616) (hb : Reads w vb b) (hl : b.length < 140737488350000) :
    Calls Tryd.prog 28 #[.agg (cb x).toArray, .int .u64 (key : Int), vb] w fun e w' => ∃ v, e = .returned v ∧ Reads w' v (signR (partB x key) (bt (dig b)) 256) ∧ Below w.heap.size w w' :=
  (qlSign_own x key vb b w hn hb hl).mono fun _ _ ⟨v, h1, h2, h3⟩ => ⟨v, h1, h2.reads, h3⟩
end Go.Proofs.YtfbdnhadcnmfoaaDoor
/- The walks of the reference's Opened and Check (layer 10). -/
namespace Go.Proofs.YtfbdnhadcnmfoaaDoor
open Go.RowKit
set_option maxRecDepth 100000
/-- what Opened tells -/
def openL (b sig : List (BitVec 8)) : List (BitVec 8) := if sig.length = 16384 then openR (bt (dig b)) sig 256 else []
def openE (sig : List (BitVec 8)) : Int := if sig.length = 16384 then 0 else 15
/-- what Check tells -/
def checkE (p b sig : List (BitVec 8)) : Int := if sig.length = 16384 ∧ dig (openR (bt (dig b)) sig 256) = p then 0 else 15
/-- what Opened answers -/
def OpenA (w : World) (b sig : List (BitVec 8)) (e : Ending) (w' : World) : Prop := ∃ v, e = .returned (.tuple #[v, .int .i64 (openE sig)]) ∧ Reads w' v (openL b sig) ∧ Below w.heap.size w w'
theorem results_tmp2 {fn : Func} {u0 u1 : Tmp} (h : fn.results = #[.tmp u0, .tmp u1]) (tmps : Array Value) (P : Program) (w : World) : (results fn tmps).run P w = .ok (.tuple #[tmps.getD u0 undef, tmps.getD u1 undef]) w := by
  simp [results, h, go_sem]
set_option maxRecDepth 100000 in
set_option maxHeartbeats 8000000 in
theorem qlOpened_any (vb vs : Value) (b sig : List (BitVec 8)) (w : World) (hb : Reads w vb b) (hs : Reads w vs sig) (hl : b.length < 140737488350000) :
    Calls Tryd.prog 48 #[vb, vs] w (OpenA w b sig) := by
  obtain ⟨ab, cbb, hvb, _⟩ := id hb
  obtain ⟨ads, cps, hvs, hcp, _⟩ := id hs
  by_cases h16 : sig.length = 16384
  · obtain ⟨bs, offs, hv2⟩ : ∃ bs offs, vs = .slice (some ⟨bs, offs, none⟩) sig.length cps := by
      obtain ⟨ad', cp', hv', _, _, hx⟩ := id hs
      obtain ⟨bs, offs, rfl, _⟩ := hx (by omega)
      rw [hvs] at hv'
      simp only [Value.slice.injEq, true_and] at hv'
      obtain ⟨rfl, rfl⟩ := hv'
      exact ⟨bs, offs, hvs⟩
    rw [h16] at hv2 hcp
    subst hv2
    clear hvs
    obtain ⟨d, HDD⟩ : ∃ d, Hid (d = dig b) := ⟨_, rfl⟩
    have HDL : Hid (d.length = 32) := by show _ = _; rw [HDD.out]; exact len_dig' _
    have HL : Hid (openL b sig = openR (bt d) sig 256 ∧ openE sig = 0) := by show _ ∧ _; rw [openL, openE, if_pos h16, if_pos h16, HDD.out]; exact ⟨rfl, rfl⟩
    have HSL : Hid (sig.length = 16384) := h16
    have HCP : Hid (16384 ≤ cps) := hcp
    have HC0 : Hid (∀ W : World, Below w.heap.size w W → Calls Tryd.prog 32 #[vb] W fun e w' => e = .returned (.agg (cb d).toArray) ∧ Below W.heap.size W w') := fun W hh => by rw [HDD.out]; exact rOf_any vb b W (hb.below hh) hl
    have HC1 : Hid (∀ W : World, Below w.heap.size w W → ∀ k : Nat, k < 256 → Calls Tryd.prog 32 #[.slice (some ⟨bs, offs + 32 * (2 * k), none⟩) 32 (cps - 32 * (2 * k))] W fun e w' => e = .returned (.agg (cb (dig (blk32 sig (2 * k)))).toArray) ∧ Below W.heap.size W w') := fun W hh k hk => rOf_any _ _ W ((hs.below hh).cut (2 * k) (by omega)) (by rw [len_blk32 (by omega)]; omega)
    have HC2 : Hid (∀ W : World, Below w.heap.size w W → ∀ k : Nat, k < 256 → Calls Tryd.prog 43 #[.agg (cb d).toArray, .int .i64 (k : Int)] W fun e w' => e = .returned (.bool (bt d k)) ∧ Below W.heap.size W w') := fun W hh k hk => by rw [← bit_nat d k hk]; exact sBit_any d HDL.out (k : Int) W
    have HC3 : Hid (∀ W : World, Below w.heap.size w W → ∀ k : Nat, k < 256 → Reads W (.slice (some ⟨bs, offs + 32 * (2 * k + 1), none⟩) 32 (cps - 32 * (2 * k + 1))) (blk32 sig (2 * k + 1))) := fun W hh k hk => (hs.below hh).cut (2 * k + 1) (by omega)
    have HBW : Hid (Below w.heap.size w w) := Below.refl _ _
    subst hvb
    clear hb hs hl hcp h16 HDD
    go_enter Tryd.func48, Tryd.ntmps48
    have tk0 : Hid True := trivial
    have tk1 : Hid True := trivial
    have tk2 : Hid True := trivial
    have tk3 : Hid True := trivial
    have tk4 : Hid True := trivial
    go_wp2_with (first
      | (clear tk0; go_at_call 32; refine (HC0.out w HBW.out).mono ?_; rintro e y1 ⟨rfl, hbz⟩
         replace HBW : Hid (Below w.heap.size w y1) := HBW.out.trans (hbz.mono HBW.out.size)
         clear hbz )
      | (clear tk1; with_reducible refine wpSeq_allocD ?_ ?_ ?_
         · rfl
         · rfl
         intro gd y2 nn)
      | (clear tk2; with_reducible refine wpSeq_storeD (.tmp 6) (.tmp 15) gd zb32 d ?_ ?_ ?_ ?_ ?_ ?_ ?_ ?_
         · rfl
         · exact HDL.out
         · exact nn.blk
         · rfl
         · rfl
         · rfl
         · rfl
         intro y3 hs
         have hbz := nn.below.trans (hs.only.below nn.ge nn.below.size)
         replace HBW : Hid (Below w.heap.size w y3) := HBW.out.trans (hbz.mono HBW.out.size)
         have HD : Hid (Blk y3 gd (cb d) 23) := hs.blk
         clear nn hs hbz)
      | (clear tk3; with_reducible refine wpSeq_make (.const (.int .i64 1)) (.const (.int .i64 16385)) 1 16385 ?_ ?_ ?_ ?_ ?_ ?_ ?_
         · decide
         · decide
         · rfl
         · rfl
         · rfl
         · rfl
         intro go y4 z hz hge hzb hzl)
      | (clear tk4; with_reducible refine wpSeq_storeY (.tmp 18) (.const (.int .u8 80)) go 0 z 80 ?_ ?_ ?_ ?_ ?_ ?_ ?_
         · rw [hz, List.length_replicate]; decide
         · exact hzb
         · rfl
         · rfl
         · rfl
         · rfl
         intro y5 hzs hon
         have hbz := hzl.trans (hon.below hge hzl.size)
         have HO : Hid (OwnB y5 w.heap.size (.slice (some ⟨go, 0, none⟩) 1 16385) [80]) := own_first hzs (Nat.le_trans HBW.out.size hge) (by rw [hz, List.length_replicate]) (by decide) (by decide)
         replace HD : Hid (Blk y5 gd (cb d) 23) := HD.out.below hbz HD.out.lt
         replace HBW : Hid (Below w.heap.size w y5) := HBW.out.trans (hbz.mono HBW.out.size)
         clear hz hge hzb hzl hzs hon hbz))
    go_loopw [7, 8] (fun u i wr => ∃ k : Nat, k ≤ 256 ∧ i = .int .i64 (k : Int) ∧ OwnB wr w.heap.size u (openR (bt d) sig k) ∧ Blk wr gd (cb d) 23 ∧ Below w.heap.size w wr) (fun _ i _ => 256 - (intOf i).toNat)
    case atStart => exact ⟨0, by omega, rfl, HO.out, HD.out, HBW.out⟩
    case round =>
      clear HBW HO HD
      obtain ⟨k, hkn, rfl, ho, hd, hbw⟩ := hrel
      have HO : Hid (OwnB wr w.heap.size u7 (openR (bt d) sig k)) := ho
      have HD : Hid (Blk wr gd (cb d) 23) := hd
      have HBW : Hid (Below w.heap.size w wr) := hbw
      clear ho hd hbw
      by_cases hlt : k < 256
      · have hi : (k : Int) < 256 := by omega
        have f5 : IntKind.i64.wrap ((k : Int) + 1) = (k : Int) + 1 := by rw [IntKind.wrap_i64]; omega
        have f6 : IntKind.i64.wrap (64 * (k : Int)) = 64 * (k : Int) := by rw [IntKind.wrap_i64]; omega
        have f7 : IntKind.i64.wrap (64 * (k : Int) + 32) = 64 * (k : Int) + 32 := by rw [IntKind.wrap_i64]; omega
        have f8 : IntKind.i64.wrap (64 * (k : Int) + 64) = 64 * (k : Int) + 64 := by rw [IntKind.wrap_i64]; omega
        have HOL : Hid ((openR (bt d) sig k).length ≤ 16385) := by show _ ≤ _; rw [len_openR _ (by rw [HSL.out]; omega)]; omega
        obtain ⟨pa, HPA⟩ : ∃ p, Hid (p = dig (blk32 sig (2 * k))) := ⟨_, rfl⟩
        have HPAL : Hid (pa.length = 32) := by show _ = _; rw [HPA.out]; exact len_dig' _
        obtain ⟨pb, HPB⟩ : ∃ p, Hid (p = blk32 sig (2 * k + 1)) := ⟨_, rfl⟩
        have HPBL : Hid (pb.length = 32) := by show _ = _; rw [HPB.out]; exact len_blk32 (by rw [HSL.out]; omega)
        cases hoo : bt d k with
        | true =>
          have tk20 : Hid True := trivial
          have tk21 : Hid True := trivial
          have tk22 : Hid True := trivial
          have tk23 : Hid True := trivial
          have tk24 : Hid True := trivial
          have tk25 : Hid True := trivial
          have tk26 : Hid True := trivial
          have tk27 : Hid True := trivial
          have tk28 : Hid True := trivial
          go_wp2_with (first
            | (clear tk20; with_reducible refine wpSeq_cut (.tmp 23) (.tmp 25) (.tmp 28) bs offs 16384 cps (32 * (2 * k)) 32 (64 * (k : Int)) (64 * (k : Int) + 32) ?_ ?_ ?_ ?_ ?_ ?_ ?_ ?_ ?_ ?_ ?_
               · omega
               · omega
               · decide
               · omega
               · exact HCP.out
               · rfl
               · rfl
               · rfl
               · rfl
               · rfl)
            | (clear tk21; go_at_call 32; refine (HC1.out wr HBW.out k hlt).mono ?_; rintro e y21 ⟨rfl, hbz⟩
               replace HD : Hid (Blk y21 gd (cb d) 23) := HD.out.below hbz HD.out.lt
               replace HO : Hid (OwnB y21 w.heap.size u7 (openR (bt d) sig k)) := HO.out.below hbz (Nat.le_refl _)
               replace HBW : Hid (Below w.heap.size w y21) := HBW.out.trans (hbz.mono HBW.out.size)
               rw [← HPA.out]
               clear hbz )
            | (clear tk22; with_reducible refine wpSeq_allocD ?_ ?_ ?_
               · rfl
               · rfl
               intro ga y22 nn)
            | (clear tk23; with_reducible refine wpSeq_storeD (.tmp 9) (.tmp 30) ga zb32 pa ?_ ?_ ?_ ?_ ?_ ?_ ?_ ?_
               · rfl
               · exact HPAL.out
               · exact nn.blk
               · rfl
               · rfl
               · rfl
               · rfl
               intro y23 hs
               have hbz := nn.below.trans (hs.only.below nn.ge nn.below.size)
               replace HD : Hid (Blk y23 gd (cb d) 23) := HD.out.below hbz HD.out.lt
               replace HO : Hid (OwnB y23 w.heap.size u7 (openR (bt d) sig k)) := HO.out.below hbz (Nat.le_refl _)
               replace HBW : Hid (Below w.heap.size w y23) := HBW.out.trans (hbz.mono HBW.out.size)
               have HA : Hid (Blk y23 ga (cb pa) 23) := hs.blk
               clear nn hs hbz)
            | (clear tk24; with_reducible refine wpSeq_cut (.tmp 31) (.tmp 34) (.tmp 37) bs offs 16384 cps (32 * (2 * k + 1)) 32 (64 * (k : Int) + 32) (64 * (k : Int) + 64) ?_ ?_ ?_ ?_ ?_ ?_ ?_ ?_ ?_ ?_ ?_
               · omega
               · omega
               · decide
               · omega
               · exact HCP.out
               · rfl
               · rfl
               · rfl
               · rfl
               · rfl)
            | (clear tk25; with_reducible refine wpSeq_loadD (.tmp 6) gd d ?_ ?_ ?_ ?_ ?_ ?_
               · exact HDL.out
               · exact HD.out
               · rfl
               · rfl
               · rfl)
            | (clear tk26; go_at_call 43; refine (HC2.out y23 HBW.out k hlt).mono ?_; rintro e y24 ⟨rfl, hbz⟩
               replace HD : Hid (Blk y24 gd (cb d) 23) := HD.out.below hbz HD.out.lt
               replace HA : Hid (Blk y24 ga (cb pa) 23) := HA.out.below hbz HA.out.lt
               replace HO : Hid (OwnB y24 w.heap.size u7 (openR (bt d) sig k)) := HO.out.below hbz (Nat.le_refl _)
               replace HBW : Hid (Below w.heap.size w y24) := HBW.out.trans (hbz.mono HBW.out.size)
               rw [hoo]
               clear hbz )
            | (clear tk27; at_builtin; with_reducible refine wpSeq_appendG (.tmp 42) (.tmp 43) w.heap.size u7 (.slice (some ⟨bs, offs + 32 * (2 * k + 1), none⟩) 32 (cps - 32 * (2 * k + 1))) (openR (bt d) sig k) (pb) HO.out (by rw [HPB.out]; exact HC3.out _ HBW.out k hlt) (by rw [HPBL.out]; decide) (by have h1 := HPAL.out; have h2 := HPBL.out; have h3 := HOL.out; (try rw [List.length_append]); omega) HBW.out.size ?_ ?_ ?_ ?_ ?_
               · rfl
               · rfl
               · rfl
               · rfl
               intro v1 y25 hown hgr hbz
               replace HD : Hid (Blk y25 gd (cb d) 23) := HD.out.grown hgr (HO.out.ne HD.out (by decide))
               replace HA : Hid (Blk y25 ga (cb pa) 23) := HA.out.grown hgr (HO.out.ne HA.out (by decide))
               replace HO : Hid (OwnB y25 w.heap.size v1 (openR (bt d) sig k ++ pb)) := hown
               replace HBW : Hid (Below w.heap.size w y25) := HBW.out.trans hbz
               clear hown hgr hbz)
            | (clear tk28; at_builtin; with_reducible refine wpSeq_appendG (.tmp 45) (.tmp 46) w.heap.size v1 (.slice (some ⟨ga, 0, none⟩) 32 32) (openR (bt d) sig k ++ pb) (pa) HO.out (HA.out.reads HPAL.out.symm (by rw [HPAL.out]; exact Nat.le_refl _)) (by rw [HPAL.out]; decide) (by have h1 := HPAL.out; have h2 := HPBL.out; have h3 := HOL.out; (try rw [List.length_append]); omega) HBW.out.size ?_ ?_ ?_ ?_ ?_
               · rfl
               · rfl
               · rfl
               · rfl
               intro v2 y26 hown hgr hbz
               replace HD : Hid (Blk y26 gd (cb d) 23) := HD.out.grown hgr (HO.out.ne HD.out (by decide))
               replace HA : Hid (Blk y26 ga (cb pa) 23) := HA.out.grown hgr (HO.out.ne HA.out (by decide))
               replace HO : Hid (OwnB y26 w.heap.size v2 (openR (bt d) sig k ++ pb ++ pa)) := hown
               replace HBW : Hid (Below w.heap.size w y26) := HBW.out.trans hbz
               clear hown hgr hbz))
          go_roundw
          case rel =>
            refine ⟨k + 1, by omega, by simp, ?_, HD.out, HBW.out⟩
            have e : openR (bt d) sig (k + 1) = openR (bt d) sig k ++ (pb ++ pa) := by rw [openR, hoo, HPA.out, HPB.out]; rfl
            rw [e, ← List.append_assoc]
            exact HO.out
          case measure => simp [intOf]; omega
        | false =>
          have tk20 : Hid True := trivial
          have tk21 : Hid True := trivial
          have tk22 : Hid True := trivial
          have tk23 : Hid True := trivial
          have tk24 : Hid True := trivial
          have tk25 : Hid True := trivial
          have tk26 : Hid True := trivial
          have tk27 : Hid True := trivial
          have tk28 : Hid True := trivial
          go_wp2_with (first
            | (clear tk20; with_reducible refine wpSeq_cut (.tmp 23) (.tmp 25) (.tmp 28) bs offs 16384 cps (32 * (2 * k)) 32 (64 * (k : Int)) (64 * (k : Int) + 32) ?_ ?_ ?_ ?_ ?_ ?_ ?_ ?_ ?_ ?_ ?_
               · omega
               · omega
               · decide
               · omega
               · exact HCP.out
               · rfl
               · rfl
               · rfl
               · rfl
               · rfl)
            | (clear tk21; go_at_call 32; refine (HC1.out wr HBW.out k hlt).mono ?_; rintro e y21 ⟨rfl, hbz⟩
               replace HD : Hid (Blk y21 gd (cb d) 23) := HD.out.below hbz HD.out.lt
               replace HO : Hid (OwnB y21 w.heap.size u7 (openR (bt d) sig k)) := HO.out.below hbz (Nat.le_refl _)
               replace HBW : Hid (Below w.heap.size w y21) := HBW.out.trans (hbz.mono HBW.out.size)
               rw [← HPA.out]
               clear hbz )
            | (clear tk22; with_reducible refine wpSeq_allocD ?_ ?_ ?_
               · rfl
               · rfl
               intro ga y22 nn)
            | (clear tk23; with_reducible refine wpSeq_storeD (.tmp 9) (.tmp 30) ga zb32 pa ?_ ?_ ?_ ?_ ?_ ?_ ?_ ?_
               · rfl
               · exact HPAL.out
               · exact nn.blk
               · rfl
               · rfl
               · rfl
               · rfl
               intro y23 hs
               have hbz := nn.below.trans (hs.only.below nn.ge nn.below.size)
               replace HD : Hid (Blk y23 gd (cb d) 23) := HD.out.below hbz HD.out.lt
               replace HO : Hid (OwnB y23 w.heap.size u7 (openR (bt d) sig k)) := HO.out.below hbz (Nat.le_refl _)
               replace HBW : Hid (Below w.heap.size w y23) := HBW.out.trans (hbz.mono HBW.out.size)
               have HA : Hid (Blk y23 ga (cb pa) 23) := hs.blk
               clear nn hs hbz)
            | (clear tk24; with_reducible refine wpSeq_cut (.tmp 31) (.tmp 34) (.tmp 37) bs offs 16384 cps (32 * (2 * k + 1)) 32 (64 * (k : Int) + 32) (64 * (k : Int) + 64) ?_ ?_ ?_ ?_ ?_ ?_ ?_ ?_ ?_ ?_ ?_
               · omega
               · omega
               · decide
               · omega
               · exact HCP.out
               · rfl
               · rfl
               · rfl
               · rfl
               · rfl)
            | (clear tk25; with_reducible refine wpSeq_loadD (.tmp 6) gd d ?_ ?_ ?_ ?_ ?_ ?_
               · exact HDL.out
               · exact HD.out
               · rfl
               · rfl
               · rfl)
            | (clear tk26; go_at_call 43; refine (HC2.out y23 HBW.out k hlt).mono ?_; rintro e y24 ⟨rfl, hbz⟩
               replace HD : Hid (Blk y24 gd (cb d) 23) := HD.out.below hbz HD.out.lt
               replace HA : Hid (Blk y24 ga (cb pa) 23) := HA.out.below hbz HA.out.lt
               replace HO : Hid (OwnB y24 w.heap.size u7 (openR (bt d) sig k)) := HO.out.below hbz (Nat.le_refl _)
               replace HBW : Hid (Below w.heap.size w y24) := HBW.out.trans (hbz.mono HBW.out.size)
               rw [hoo]
               clear hbz )
            | (clear tk27; at_builtin; with_reducible refine wpSeq_appendG (.tmp 48) (.tmp 49) w.heap.size u7 (.slice (some ⟨ga, 0, none⟩) 32 32) (openR (bt d) sig k) (pa) HO.out (HA.out.reads HPAL.out.symm (by rw [HPAL.out]; exact Nat.le_refl _)) (by rw [HPAL.out]; decide) (by have h1 := HPAL.out; have h2 := HPBL.out; have h3 := HOL.out; (try rw [List.length_append]); omega) HBW.out.size ?_ ?_ ?_ ?_ ?_
               · rfl
               · rfl
               · rfl
               · rfl
               intro v1 y25 hown hgr hbz
               replace HD : Hid (Blk y25 gd (cb d) 23) := HD.out.grown hgr (HO.out.ne HD.out (by decide))
               replace HA : Hid (Blk y25 ga (cb pa) 23) := HA.out.grown hgr (HO.out.ne HA.out (by decide))
               replace HO : Hid (OwnB y25 w.heap.size v1 (openR (bt d) sig k ++ pa)) := hown
               replace HBW : Hid (Below w.heap.size w y25) := HBW.out.trans hbz
               clear hown hgr hbz)
            | (clear tk28; at_builtin; with_reducible refine wpSeq_appendG (.tmp 51) (.tmp 52) w.heap.size v1 (.slice (some ⟨bs, offs + 32 * (2 * k + 1), none⟩) 32 (cps - 32 * (2 * k + 1))) (openR (bt d) sig k ++ pa) (pb) HO.out (by rw [HPB.out]; exact HC3.out _ HBW.out k hlt) (by rw [HPBL.out]; decide) (by have h1 := HPAL.out; have h2 := HPBL.out; have h3 := HOL.out; (try rw [List.length_append]); omega) HBW.out.size ?_ ?_ ?_ ?_ ?_
               · rfl
               · rfl
               · rfl
               · rfl
               intro v2 y26 hown hgr hbz
               replace HD : Hid (Blk y26 gd (cb d) 23) := HD.out.grown hgr (HO.out.ne HD.out (by decide))
               replace HA : Hid (Blk y26 ga (cb pa) 23) := HA.out.grown hgr (HO.out.ne HA.out (by decide))
               replace HO : Hid (OwnB y26 w.heap.size v2 (openR (bt d) sig k ++ pa ++ pb)) := hown
               replace HBW : Hid (Below w.heap.size w y26) := HBW.out.trans hbz
               clear hown hgr hbz))
          go_roundw
          case rel =>
            refine ⟨k + 1, by omega, by simp, ?_, HD.out, HBW.out⟩
            have e : openR (bt d) sig (k + 1) = openR (bt d) sig k ++ (pa ++ pb) := by rw [openR, hoo, HPA.out, HPB.out]; rfl
            rw [e, ← List.append_assoc]
            exact HO.out
          case measure => simp [intOf]; omega
      · have hi : ¬ ((k : Int) < 256) := by omega
        have hk : k = 256 := by omega
        subst hk
        go_wp2
        refine bodyPost_ret (results_tmp2 rfl _ _ _) rfl ?_
        exact ⟨_, by rw [HL.out.2]; rfl, by rw [HL.out.1]; exact HO.out.reads, HBW.out⟩
  · have HL : Hid (openL b sig = [] ∧ openE sig = 15) := by show _ ∧ _; rw [openL, openE, if_neg h16, if_neg h16]; exact ⟨rfl, rfl⟩
    obtain ⟨n, HNL⟩ : ∃ n, Hid (n = sig.length) := ⟨_, rfl⟩
    rw [← HNL.out] at hvs h16
    have hne : ((n : Int) == 16384) = false := by rw [beq_eq_false_iff_ne]; omega
    subst hvb hvs
    clear hb hs hl hcp
    go_enter Tryd.func48, Tryd.ntmps48
    go_wp2
    refine bodyPost_ret (results_tmp2 rfl _ _ _) rfl ?_
    exact ⟨_, by rw [HL.out.2]; rfl, by rw [HL.out.1]; exact ⟨Option.none, 0, rfl, Nat.le_refl _, fun _ => rfl, fun h => by cases h⟩, Below.refl _ _⟩
end Go.Proofs.YtfbdnhadcnmfoaaDoor
/- The walk of the reference's Check (layer 10). -/
namespace Go.Proofs.YtfbdnhadcnmfoaaDoor
open Go.RowKit
set_option maxRecDepth 100000
set_option maxRecDepth 100000 in
set_option maxHeartbeats 8000000 in
theorem qlCheck_any (p : List (BitVec 8)) (vb vs : Value) (b sig : List (BitVec 8)) (w : World) (hp : p.length = 32) (hb : Reads w vb b) (hs : Reads w vs sig) (hl : b.length < 140737488350000) :
    Calls Tryd.prog 31 #[.agg (cb p).toArray, vb, vs] w fun e w' => e = .returned (.int .i64 (checkE p b sig)) ∧ Below w.heap.size w w' := by
  obtain ⟨ab, cbb, hvb, hq1⟩ := id hb
  obtain ⟨ads, cps, hvs, hq2⟩ := id hs
  clear hq1 hq2
  obtain ⟨nb, HNB⟩ : ∃ n, Hid (n = b.length) := ⟨_, rfl⟩
  obtain ⟨ns, HNS⟩ : ∃ n, Hid (n = sig.length) := ⟨_, rfl⟩
  rw [← HNB.out] at hvb
  rw [← HNS.out] at hvs
  have HPL : Hid (p.length = 32) := hp
  have HC1 : Hid (∀ W : World, Below w.heap.size w W → Calls Tryd.prog 48 #[vb, vs] W (OpenA W b sig)) := fun W hh => qlOpened_any vb vs b sig W (hb.below hh) (hs.below hh) hl
  subst hvb hvs
  clear hb hs hl hp
  by_cases h16 : sig.length = 16384
  · obtain ⟨t, HT⟩ : ∃ t, Hid (t = openR (bt (dig b)) sig 256) := ⟨_, rfl⟩
    have HTL : Hid (t.length = 16385) := by show _ = _; rw [HT.out, len_openR _ (by omega)]
    have HOL : Hid (openL b sig = t ∧ openE sig = 0) := by show _ ∧ _; rw [openL, openE, if_pos h16, if_pos h16, HT.out]; exact ⟨rfl, rfl⟩
    obtain ⟨r, HRD⟩ : ∃ r, Hid (r = dig t) := ⟨_, rfl⟩
    have HRL : Hid (r.length = 32) := by show _ = _; rw [HRD.out]; exact len_dig' _
    have HCK : Hid (checkE p b sig = if r = p then 0 else 15) := by show _ = _; unfold checkE; rw [← HT.out, ← HRD.out]; simp [h16]
    have HC2 : Hid (∀ (W : World) (v : Value), Reads W v t → Calls Tryd.prog 32 #[v] W fun e w' => e = .returned (.agg (cb r).toArray) ∧ Below W.heap.size W w') := fun W v hv => by rw [HRD.out]; exact rOf_any v t W hv (by rw [HTL.out]; omega)
    have heq : ∀ wx : World, (Op.equalIn 10000 23 (.agg (cb r).toArray) (.agg (cb p).toArray)).run Tryd.prog wx = .ok (decide (r = p)) wx := fun wx => eq_dig r p HRL.out HPL.out wx
    obtain ⟨o, HO⟩ : ∃ o, Hid (o = decide (r = p)) := ⟨_, rfl⟩
    rw [← HO.out] at heq
    have HCK2 : Hid (checkE p b sig = if o then 0 else 15) := by
      show _ = _
      rw [HCK.out, HO.out]
      by_cases e : r = p
      · rw [if_pos e, decide_eq_true e]; rfl
      · rw [if_neg e, decide_eq_false e]; rfl
    rw [HCK2.out]
    clear h16 HT HRD HCK HO HCK2
    go_enter Tryd.func31, Tryd.ntmps31
    go_upto_region 2 with (first
      | (with_reducible refine wpSeq_boxD (.tmp 0) p ?_ ?_ ?_ ?_
         · rfl
         · rfl
         · rfl
         intro gp w1 nn
         have HB1 : Hid (Below w.heap.size w w1) := nn.below
         have HGP : Hid (Blk w1 gp (cb p) 23) := nn.blk
         clear nn)
      | (go_at_call 48; refine (HC1.out _ HB1.out).mono ?_; rintro e w2 ⟨v, rfl, hv, hb2⟩
         rw [HOL.out.1] at hv
         have HV : Hid (Reads w2 v t) := hv
         replace HGP : Hid (Blk w2 gp (cb p) 23) := HGP.out.below hb2 HGP.out.lt
         replace HB1 : Hid (Below w.heap.size w w2) := HB1.out.trans (hb2.mono HB1.out.size)
         rw [HOL.out.2]
         clear hv hb2))
    have HYB : Hid (Below w.heap.size w (World.drew w2)) := HB1.out.drew
    replace HGP : Hid (Blk (World.drew w2) gp (cb p) 23) := HGP.out.drew
    replace HV : Hid (Reads (World.drew w2) v t) := reads_drew HV.out
    clear HB1
    refine wp_region_held_drew (S := Over (World.drew w2)) (by kernel_rfl) (Over.refl _) ?_
    intro hS
    change wpAnyH _ _ _ _ _ _ _ _ (World.drew w2)
    generalize World.drew w2 = y0 at *
    refine wpAnyH_take (i := 0) (v := .int .i64 0) rfl (by kernel_rfl) (by kernel_rfl) (by kernel_rfl) (fun _ _ _ h => h) (Or.inl ⟨by rfl, fun wx hx => by simp [go_sem]⟩) hS ?_
    simp only [Act.put, List.getElem_toArray, List.getElem_cons_zero, List.setIfInBounds_toArray, List.set_cons_zero, List.set_cons_succ]
    refine wpAnyH_take (i := 1) (v := .bool false) rfl (by kernel_rfl) (by kernel_rfl) (by kernel_rfl) (fun _ _ _ h => h) (Or.inl ⟨by rfl, fun wx hx => by simp [go_sem]⟩) hS ?_
    simp only [Act.put, List.getElem_toArray, List.getElem_cons_succ, List.getElem_cons_zero, List.setIfInBounds_toArray, List.set_cons_zero, List.set_cons_succ]
    refine wpAnyH_take (i := 2) (v := .bool false) rfl (by kernel_rfl) (by kernel_rfl) (by kernel_rfl) (fun _ _ _ h => h) (Or.inl ⟨by rfl, fun wx hx => by simp [go_sem]⟩) hS ?_
    simp only [Act.put, List.getElem_toArray, List.getElem_cons_succ, List.getElem_cons_zero, List.setIfInBounds_toArray, List.set_cons_zero, List.set_cons_succ]
    refine wpAnyH_take (i := 3) (v := v) rfl (by kernel_rfl) (by kernel_rfl) (by kernel_rfl) (fun _ _ _ h => h) (Or.inl ⟨by rfl, fun wx hx => by simp [go_sem]⟩) hS ?_
    simp only [Act.put, List.getElem_toArray, List.getElem_cons_succ, List.getElem_cons_zero, List.setIfInBounds_toArray, List.set_cons_zero, List.set_cons_succ]
    refine wpAnyH_take (i := 5) (v := .agg (cb p).toArray) rfl (by kernel_rfl) (by kernel_rfl) (by kernel_rfl) (fun _ _ _ h => h) (Or.inl ⟨by rfl, fun wx hx => by exact loadDigest _ gp p HPL.out (HGP.out.below hx HGP.out.lt) rfl rfl⟩) hS ?_
    simp only [Act.put, List.getElem_toArray, List.getElem_cons_succ, List.getElem_cons_zero, List.setIfInBounds_toArray, List.set_cons_zero, List.set_cons_succ]
    refine wpAnyH_enter 4 (by kernel_rfl) rfl (by rfl) (f := 32) (args := #[v]) (by simp [go_sem]) (HC2.out _ v (HV.out.below hS)) ?_
    rintro e y1 ⟨rfl, hbq⟩
    replace hS := Over.more hS hbq
    refine ⟨_, rfl, hS, ?_⟩
    clear hbq
    simp only [Act.put, List.getElem_toArray, List.getElem_cons_succ, List.getElem_cons_zero, List.setIfInBounds_toArray, List.set_cons_zero, List.set_cons_succ]
    refine wpAnyH_take (i := 6) (v := .bool (!o)) rfl (by kernel_rfl) (by kernel_rfl) (by kernel_rfl) (fun _ _ _ h => h) (Or.inl ⟨by rfl, fun wx hx => by simp [go_sem, heq]⟩) hS ?_
    simp only [Act.put, List.getElem_toArray, List.getElem_cons_succ, List.getElem_cons_zero, List.setIfInBounds_toArray, List.set_cons_zero, List.set_cons_succ]
    refine wpAnyH_take (i := 7) (v := .bool (!o)) rfl (by kernel_rfl) (by kernel_rfl) (by kernel_rfl) (fun _ _ _ h => h) (Or.inl ⟨by rfl, fun wx hx => by simp [go_sem]⟩) hS ?_
    simp only [Act.put, List.getElem_toArray, List.getElem_cons_succ, List.getElem_cons_zero, List.setIfInBounds_toArray, List.set_cons_zero, List.set_cons_succ]
    refine wpAnyH_done (by kernel_rfl) ?_ _
    have HBW : Hid (Below w.heap.size w y1) := HYB.out.trans (Below.mono hS HYB.out.size)
    clear hS HV HGP HYB
    cases o with
    | true =>
      simp only [Bool.not_true]
      go_wp2
      go_ret
      exact ⟨rfl, HBW.out⟩
    | false =>
      simp only [Bool.not_false]
      go_wp2
      go_ret
      exact ⟨rfl, HBW.out⟩
  · have HOL : Hid (openL b sig = [] ∧ openE sig = 15) := by show _ ∧ _; rw [openL, openE, if_neg h16, if_neg h16]; exact ⟨rfl, rfl⟩
    have HCK : Hid (checkE p b sig = 15) := by show _ = _; unfold checkE; rw [if_neg (fun h => h16 h.1)]
    rw [HCK.out]
    clear h16 HCK
    go_enter Tryd.func31, Tryd.ntmps31
    go_upto_region 2 with (first
      | (with_reducible refine wpSeq_boxD (.tmp 0) p ?_ ?_ ?_ ?_
         · rfl
         · rfl
         · rfl
         intro gp w1 nn
         have HB1 : Hid (Below w.heap.size w w1) := nn.below
         clear nn)
      | (go_at_call 48; refine (HC1.out _ HB1.out).mono ?_; rintro e w2 ⟨v, rfl, hv, hb2⟩
         replace HB1 : Hid (Below w.heap.size w w2) := HB1.out.trans (hb2.mono HB1.out.size)
         rw [HOL.out.2]
         clear hv hb2))
    have HYB : Hid (Below w.heap.size w (World.drew w2)) := HB1.out.drew
    clear HB1
    refine wp_region_held_drew (S := Over (World.drew w2)) (by kernel_rfl) (Over.refl _) ?_
    intro hS
    change wpAnyH _ _ _ _ _ _ _ _ (World.drew w2)
    generalize World.drew w2 = y0 at *
    refine wpAnyH_take (i := 0) (v := .int .i64 15) rfl (by kernel_rfl) (by kernel_rfl) (by kernel_rfl) (fun _ _ _ h => h) (Or.inl ⟨by rfl, fun wx hx => by simp [go_sem]⟩) hS ?_
    simp only [Act.put, List.getElem_toArray, List.getElem_cons_zero, List.setIfInBounds_toArray, List.set_cons_zero, List.set_cons_succ]
    refine wpAnyH_take (i := 1) (v := .bool true) rfl (by kernel_rfl) (by kernel_rfl) (by kernel_rfl) (fun _ _ _ h => h) (Or.inl ⟨by rfl, fun wx hx => by simp [go_sem]⟩) hS ?_
    simp only [Act.put, List.getElem_toArray, List.getElem_cons_succ, List.getElem_cons_zero, List.setIfInBounds_toArray, List.set_cons_zero, List.set_cons_succ]
    refine wpAnyH_take (i := 2) (v := .bool true) rfl (by kernel_rfl) (by kernel_rfl) (by kernel_rfl) (fun _ _ _ h => h) (Or.inl ⟨by rfl, fun wx hx => by simp [go_sem]⟩) hS ?_
    simp only [Act.put, List.getElem_toArray, List.getElem_cons_succ, List.getElem_cons_zero, List.setIfInBounds_toArray, List.set_cons_zero, List.set_cons_succ]
    refine wpAnyH_take (i := 3) (v := undef) rfl (by kernel_rfl) (by kernel_rfl) (by kernel_rfl) (fun _ _ _ h => h) (Or.inr ⟨by rfl, rfl⟩) hS ?_
    simp only [Act.put, List.getElem_toArray, List.getElem_cons_succ, List.getElem_cons_zero, List.setIfInBounds_toArray, List.set_cons_zero, List.set_cons_succ]
    refine wpAnyH_take (i := 4) (v := undef) rfl (by kernel_rfl) (by kernel_rfl) (by kernel_rfl) (fun _ _ _ h => h) (Or.inr ⟨by rfl, rfl⟩) hS ?_
    simp only [Act.put, List.getElem_toArray, List.getElem_cons_succ, List.getElem_cons_zero, List.setIfInBounds_toArray, List.set_cons_zero, List.set_cons_succ]
    refine wpAnyH_take (i := 5) (v := undef) rfl (by kernel_rfl) (by kernel_rfl) (by kernel_rfl) (fun _ _ _ h => h) (Or.inr ⟨by rfl, rfl⟩) hS ?_
    simp only [Act.put, List.getElem_toArray, List.getElem_cons_succ, List.getElem_cons_zero, List.setIfInBounds_toArray, List.set_cons_zero, List.set_cons_succ]
    refine wpAnyH_take (i := 6) (v := undef) rfl (by kernel_rfl) (by kernel_rfl) (by kernel_rfl) (fun _ _ _ h => h) (Or.inr ⟨by rfl, rfl⟩) hS ?_
    simp only [Act.put, List.getElem_toArray, List.getElem_cons_succ, List.getElem_cons_zero, List.setIfInBounds_toArray, List.set_cons_zero, List.set_cons_succ]
    refine wpAnyH_take (i := 7) (v := .bool true) rfl (by kernel_rfl) (by kernel_rfl) (by kernel_rfl) (fun _ _ _ h => h) (Or.inl ⟨by rfl, fun wx hx => by simp [go_sem]⟩) hS ?_
    simp only [Act.put, List.getElem_toArray, List.getElem_cons_succ, List.getElem_cons_zero, List.setIfInBounds_toArray, List.set_cons_zero, List.set_cons_succ]
    refine wpAnyH_done (by kernel_rfl) ?_ _
    have HBW : Hid (Below w.heap.size w y0) := HYB.out
    clear hS HYB
    go_wp2
    go_ret
    exact ⟨rfl, HBW.out⟩
end Go.Proofs.YtfbdnhadcnmfoaaDoor
/- Plain: heads and signed roots, followed one behind the other; what follows (layer 11). -/
namespace Go.Proofs.YtfbdnhadcnmfoaaDoor
open Go.RowKit
set_option maxRecDepth 100000
theorem num8_inj {n m : Nat} (hn : n < 18446744073709551616) (hm : m < 18446744073709551616) (h : num8 n = num8 m) : n = m := by
  have e : ∀ j, j < 8 → n / 2 ^ (56 - 8 * j) % 256 = m / 2 ^ (56 - 8 * j) % 256 := by
    intro j hj
    have h1 := congrArg (fun l : List (BitVec 8) => (l.getD j 0).toNat) h
    simp only [num8, tl8] at h1
    simpa [List.getD_eq_getElem?_getD, hj] using h1
  have e0 := e 0 (by omega)
  have e1 := e 1 (by omega)
  have e2 := e 2 (by omega)
  have e3 := e 3 (by omega)
  have e4 := e 4 (by omega)
  have e5 := e 5 (by omega)
  have e6 := e 6 (by omega)
  have e7 := e 7 (by omega)
  simp at e0 e1 e2 e3 e4 e5 e6 e7
  omega
theorem app_inj {α : Type} {a b c d : List α} (hl : a.length = c.length) : a ++ b = c ++ d ↔ a = c ∧ b = d := by
  constructor
  · intro h
    exact List.append_inj h hl
  · rintro ⟨rfl, rfl⟩; rfl
theorem num8_iff {n m : Nat} (hn : n < 18446744073709551616) (hm : m < 18446744073709551616) : num8 n = num8 m ↔ n = m := ⟨num8_inj hn hm, fun h => by rw [h]⟩
theorem rootB_iff {n m : Nat} {x y z a b c : List (BitVec 8)} (h : x.length = 32 ∧ y.length = 32 ∧ z.length = 32 ∧ n < 18446744073709551616) (k : a.length = 32 ∧ b.length = 32 ∧ c.length = 32 ∧ m < 18446744073709551616) :
    rootB n x y z = rootB m a b c ↔ n = m ∧ x = a ∧ y = b ∧ z = c := by
  unfold rootB
  rw [List.cons_inj_right, app_inj (by rw [len_num8, len_num8]), app_inj (by omega), app_inj (by omega), num8_iff h.2.2.2 k.2.2.2]
theorem len_rootB (n : Nat) (x y z : List (BitVec 8)) (h : x.length = 32 ∧ y.length = 32 ∧ z.length = 32) : (rootB n x y z).length = 105 := by simp [rootB, h.1, h.2.1, h.2.2, len_num8]
/-- a head: its epoch, its root's digest, its key -/
abbrev HdT : Type := Nat × List (BitVec 8) × List (BitVec 8)
/-- a signed root: epoch, the one ahead, tree, next key; and the signature -/
abbrev SgT : Type := (Nat × List (BitVec 8) × List (BitVec 8) × List (BitVec 8)) × List (BitVec 8)
def okH (h : HdT) : Prop := h.2.1.length = 32 ∧ h.2.2.length = 32 ∧ h.1 < 18446744073709551616
def okS (s : SgT) : Prop := s.1.2.1.length = 32 ∧ s.1.2.2.1.length = 32 ∧ s.1.2.2.2.length = 32 ∧ s.1.1 < 18446744073709551616
def zeroH : HdT := (0, zb32, zb32)
def zeroS : SgT := ((0, zb32, zb32, zb32), [])
/-- what is hashed of a signed root -/
def rbS (s : SgT) : List (BitVec 8) := rootB s.1.1 s.1.2.1 s.1.2.2.1 s.1.2.2.2
theorem okH_mk {n : Nat} {a b : List (BitVec 8)} (h1 : a.length = 32) (h2 : b.length = 32) (h3 : n < 18446744073709551616) : okH (n, a, b) := ⟨h1, h2, h3⟩
theorem okS_mk {n : Nat} {a b c g : List (BitVec 8)} (h1 : a.length = 32) (h2 : b.length = 32) (h3 : c.length = 32) (h4 : n < 18446744073709551616) : okS ((n, a, b, c), g) := ⟨h1, h2, h3, h4⟩
theorem rbS_mk (n : Nat) (a b c g : List (BitVec 8)) : rbS ((n, a, b, c), g) = rootB n a b c := rfl
theorem okH_zero : okH zeroH := ⟨rfl, rfl, by decide⟩
theorem okS_zero : okS zeroS := ⟨rfl, rfl, rfl, by decide⟩
theorem len_rbS {s : SgT} (h : okS s) : (rbS s).length = 105 := len_rootB _ _ _ _ ⟨h.1, h.2.1, h.2.2.1⟩
theorem rbS_iff {s t : SgT} (h : okS s) (k : okS t) : rbS s = rbS t ↔ s.1 = t.1 := by
  unfold rbS
  rw [rootB_iff h k]
  obtain ⟨⟨n, x, y, z⟩, g⟩ := s
  obtain ⟨⟨m, a, b, c⟩, g'⟩ := t
  simp
/-- 11.3 -/
def followR (h : HdT) (s : SgT) : HdT × Int :=
  if 64 ≤ h.1 ∨ s.1.1 ≠ h.1 + 1 then (zeroH, 10)
  else if s.1.2.1 ≠ h.2.1 ∨ checkE h.2.2 (rbS s) s.2 ≠ 0 then (zeroH, 15)
  else ((s.1.1, dig (rbS s), s.1.2.2.2), 0)
theorem follow_okH (h : HdT) (s : SgT) (hs : okS s) : okH (followR h s).1 := by
  unfold followR
  split
  · exact okH_zero
  · split
    · exact okH_zero
    · exact okH_mk (len_dig' _) hs.2.2.1 hs.2.2.2
theorem follow_ok {h : HdT} {s : SgT} (h0 : (followR h s).2 = 0) : (followR h s).1 = (s.1.1, dig (rbS s), s.1.2.2.2) ∧ s.1.2.1 = h.2.1 ∧ s.1.1 = h.1 + 1 ∧ h.1 < 64 := by
  unfold followR at h0 ⊢
  split at h0
  · cases h0
  · split at h0
    · cases h0
    · rename_i h1 h2
      rw [if_neg h1, if_neg h2]
      refine ⟨rfl, ?_, ?_, ?_⟩
      · exact Classical.byContradiction fun e => h2 (Or.inl e)
      · exact Classical.byContradiction fun e => h1 (Or.inr e)
      · exact Nat.lt_of_not_le fun e => h1 (Or.inl e)
theorem follow_bad {h : HdT} {s : SgT} (h0 : (followR h s).2 ≠ 0) : (followR h s).1 = zeroH := by
  unfold followR at h0 ⊢
  split
  · rfl
  · split
    · rfl
    · rename_i h1 h2
      rw [if_neg h1, if_neg h2] at h0
      exact (h0 rfl).elim
/-- 11.4 -/
def walkR : HdT → List SgT → HdT × Nat × Int
  | h, [] => (h, 0, 0)
  | h, s :: l => if (followR h s).2 = 0 then ((walkR (followR h s).1 l).1, (walkR (followR h s).1 l).2.1 + 1, (walkR (followR h s).1 l).2.2) else (zeroH, 0, (followR h s).2)
theorem walk_okH : ∀ (l : List SgT) (h : HdT), okH h → (∀ s ∈ l, okS s) → okH (walkR h l).1
  | [], h, hh, _ => hh
  | s :: l, h, hh, hl => by
    rw [walkR]
    split
    · exact walk_okH l _ (follow_okH h s (hl s (by simp))) (fun t ht => hl t (by simp [ht]))
    · exact okH_zero
theorem walk_len : ∀ (l : List SgT) (h : HdT), (walkR h l).2.2 = 0 → (walkR h l).2.1 = l.length
  | [], h, _ => rfl
  | s :: l, h, h0 => by
    rw [walkR] at h0 ⊢
    split at h0
    · rename_i h1
      rw [if_pos h1]
      rw [List.length_cons, ← walk_len l _ h0]
    · rename_i h1
      exact (h1 h0).elim
theorem walk_app : ∀ (l m : List SgT) (h : HdT), walkR h (l ++ m) = if (walkR h l).2.2 = 0 then ((walkR (walkR h l).1 m).1, (walkR (walkR h l).1 m).2.1 + l.length, (walkR (walkR h l).1 m).2.2) else walkR h l
  | [], m, h => by rw [List.nil_append, show walkR h [] = (h, 0, 0) from rfl, if_pos rfl]; rfl
  | s :: l, m, h => by
    rw [List.cons_append, walkR]
    by_cases h1 : (followR h s).2 = 0
    · have e : walkR h (s :: l) = ((walkR (followR h s).1 l).1, (walkR (followR h s).1 l).2.1 + 1, (walkR (followR h s).1 l).2.2) := by rw [walkR, if_pos h1]
      rw [if_pos h1, walk_app l m, e]
      by_cases h2 : (walkR (followR h s).1 l).2.2 = 0
      · rw [if_pos h2, if_pos h2, List.length_cons, Nat.add_assoc]
      · rw [if_neg h2, if_neg h2]
    · have e : walkR h (s :: l) = (zeroH, 0, (followR h s).2) := by rw [walkR, if_neg h1]
      rw [if_neg h1, e, if_neg h1]
/-- one root more -/
theorem walk_snoc (l : List SgT) (s : SgT) (h : HdT) (h0 : (walkR h l).2.2 = 0) : walkR h (l ++ [s]) = if (followR (walkR h l).1 s).2 = 0 then ((followR (walkR h l).1 s).1, l.length + 1, 0) else (zeroH, l.length, (followR (walkR h l).1 s).2) := by
  rw [walk_app, if_pos h0, walkR]
  split
  · rw [walkR, Nat.zero_add, Nat.add_comm]
  · rw [Nat.zero_add]
/-- the first k roots can be followed: what is told of all is told behind them -/
theorem walk_take {l : List SgT} {k : Nat} {h g : HdT} (hk : k < l.length) (hw : walkR h (l.take k) = (g, k, 0)) (s : SgT) (hs : l.getD k zeroS = s) :
    ((followR g s).2 = 0 → walkR h (l.take (k + 1)) = ((followR g s).1, k + 1, 0)) ∧ ((followR g s).2 ≠ 0 → walkR h l = (zeroH, k, (followR g s).2)) := by
  have hg : l[k] = s := by rw [← hs, List.getD_eq_getElem?_getD, List.getElem?_eq_getElem hk]; rfl
  have ht : l.take (k + 1) = l.take k ++ [s] := by rw [List.take_add_one, List.getElem?_eq_getElem hk, hg]; rfl
  have hlen : (l.take k).length = k := by rw [List.length_take]; omega
  have h0 : (walkR h (l.take k)).2.2 = 0 := by rw [hw]
  have hsn := walk_snoc (l.take k) s h h0
  rw [hw, hlen] at hsn
  constructor
  · intro h1
    rw [ht, hsn, if_pos h1]
  · intro h1
    have e : l = l.take (k + 1) ++ l.drop (k + 1) := (List.take_append_drop _ _).symm
    rw [if_neg h1] at hsn
    rw [e, ht, walk_app, hsn, if_neg h1]
/-- 11.5: of roots that can be followed each has the digest of the one ahead -/
theorem walk_prev : ∀ (l : List SgT) (h : HdT), (walkR h l).2.2 = 0 → (∀ i, i + 1 < l.length → (l.getD (i + 1) zeroS).1.2.1 = dig (rbS (l.getD i zeroS))) ∧ (l ≠ [] → (l.getD 0 zeroS).1.2.1 = h.2.1) ∧ (l ≠ [] → (walkR h l).1.2.1 = dig (rbS (l.getD (l.length - 1) zeroS)))
  | [], h, _ => ⟨fun i hi => by simp at hi, fun e => (e rfl).elim, fun e => (e rfl).elim⟩
  | s :: l, h, h0 => by
    rw [walkR] at h0
    split at h0
    · rename_i h1
      obtain ⟨e1, e2, _⟩ := follow_ok h1
      obtain ⟨k1, k2, k3⟩ := walk_prev l _ h0
      refine ⟨fun i hi => ?_, fun _ => e2, fun _ => ?_⟩
      · cases i with
        | zero =>
          have hl : l ≠ [] := by rintro rfl; simp at hi
          have h2 := k2 hl
          rw [e1] at h2
          simpa using h2
        | succ i => simpa using k1 i (by simpa using hi)
      · rw [walkR, if_pos h1]
        by_cases hl : l = []
        · subst hl
          rw [walkR, e1, show ([s] : List SgT).getD (([s] : List SgT).length - 1) zeroS = s from rfl]
        · have h3 := k3 hl
          have hp : 0 < l.length := List.length_pos_iff.2 hl
          rw [h3, List.length_cons, Nat.add_sub_cancel]
          obtain ⟨n, hn⟩ : ∃ n, l.length = n + 1 := ⟨l.length - 1, by omega⟩
          rw [hn]
          rfl
    · rename_i h1
      exact (h1 h0).elim
/-- two lists of as many roots that lead to one digest: from the end on, as long as what is hashed is the same, the digests ahead are -/
theorem walk_two {l m : List SgT} {h : HdT} (hl : (walkR h l).2.2 = 0) (hm : (walkR h m).2.2 = 0) (hn : l.length = m.length) (hr : (walkR h l).1.2.1 = (walkR h m).1.2.1) (ol : ∀ s ∈ l, okS s) (om : ∀ s ∈ m, okS s) (i : Nat) (hi : i < l.length)
    (hs : ∀ j, i < j → j < l.length → (l.getD j zeroS).1 = (m.getD j zeroS).1) : dig (rbS (l.getD i zeroS)) = dig (rbS (m.getD i zeroS)) := by
  obtain ⟨a1, a2, a3⟩ := walk_prev l h hl
  obtain ⟨b1, b2, b3⟩ := walk_prev m h hm
  by_cases hlast : i + 1 = l.length
  · have e1 := a3 (by rintro rfl; simp at hi)
    have e2 := b3 (by rintro rfl; rw [hn] at hi; simp at hi)
    rw [show l.length - 1 = i by omega] at e1
    rw [show m.length - 1 = i by omega] at e2
    rw [← e1, ← e2, hr]
  · have e1 := a1 i (by omega)
    have e2 := b1 i (by omega)
    rw [← e1, ← e2, hs (i + 1) (by omega) (by omega)]
/-- a key's public digest -/
def pubR (seed : List (BitVec 8)) (n : Nat) : List (BitVec 8) := dig (textR (partB seed n) 256)
theorem len_pubR (seed : List (BitVec 8)) (n : Nat) : (pubR seed n).length = 32 := len_dig' _
/-- 11.2 -/
def sealR (seed : List (BitVec 8)) (h : HdT) (tree : List (BitVec 8)) : SgT × Int :=
  if 64 ≤ h.1 then (zeroS, 12)
  else (((h.1 + 1, h.2.1, tree, pubR seed (h.1 + 2)), signR (partB seed (h.1 + 1)) (bt (dig (rootB (h.1 + 1) h.2.1 tree (pubR seed (h.1 + 2))))) 256), 0)
theorem seal_okS (seed : List (BitVec 8)) (h : HdT) (tree : List (BitVec 8)) (hh : okH h) (ht : tree.length = 32) : okS (sealR seed h tree).1 := by
  unfold sealR
  split
  · exact okS_zero
  · exact okS_mk hh.1 ht (len_pubR _ _) (by omega)
/-- what signs is taken -/
theorem check_sign (seed : List (BitVec 8)) (n : Nat) (b : List (BitVec 8)) : checkE (pubR seed n) b (signR (partB seed n) (bt (dig b)) 256) = 0 := by
  have hP : ∀ i o, (partB seed n i o).length = 32 := fun i o => len_partB _ _ _ _
  unfold checkE
  rw [if_pos]
  refine ⟨by rw [len_signR hP], ?_⟩
  rw [open_sign hP (bt (dig b)) 256 256 (Nat.le_refl _)]
  rfl
/-- 11.5: what is sealed can be followed -/
theorem seal_follow (seed : List (BitVec 8)) (h : HdT) (tree : List (BitVec 8)) (hk : h.2.2 = pubR seed (h.1 + 1)) (hl : h.1 < 64) :
    followR h (sealR seed h tree).1 = ((h.1 + 1, dig (rbS (sealR seed h tree).1), pubR seed (h.1 + 2)), 0) := by
  have e : sealR seed h tree = (((h.1 + 1, h.2.1, tree, pubR seed (h.1 + 2)), signR (partB seed (h.1 + 1)) (bt (dig (rootB (h.1 + 1) h.2.1 tree (pubR seed (h.1 + 2))))) 256), 0) := by rw [sealR, if_neg (by omega)]
  rw [e]
  unfold followR
  rw [if_neg, if_neg]
  · rintro (h1 | h1)
    · exact h1 rfl
    · refine h1 ?_
      rw [hk, rbS_mk]
      exact check_sign seed (h.1 + 1) (rootB (h.1 + 1) h.2.1 tree (pubR seed (h.1 + 2)))
  · rintro (h1 | h1)
    · omega
    · exact h1 rfl
end Go.Proofs.YtfbdnhadcnmfoaaDoor
/- A row in a new block. -/
namespace Go.Proofs.YtfbdnhadcnmfoaaDoor
open Go.RowKit
set_option maxRecDepth 100000
theorem wpSeq_box {ops : Array Oper} {Q : Exit → Act → World → Prop} {rest : List Oper} {o : Oper} {a : Act} {w : World} (ty : TypeId) (x : Operand) (ho : o.op = .box ty x) (cs : List Value) (hx : a.eval x = .agg cs.toArray) (hw : Region.wanted o (yielded ops a.tmps) = true) (w0 : World) (h0 : w0 = w.alloc (.cells cs.toArray ty))
    (h : wpList Tryd.prog ops Q rest (a.put o.dst (.pointer (some ⟨w.heap.size, 0, none⟩))) w0) : wpList Tryd.prog ops Q (o :: rest) a w := by
  refine wpSeq_val _ w0 hw ?_ h
  subst h0
  unfold execOp
  rw [ho]
  simp only [hx]
  rfl
theorem Reads.form {w : World} {v : Value} {l : List (BitVec 8)} (h : Reads w v l) : ∃ a n c, v = .slice a n c := by
  obtain ⟨a, c, hv, _⟩ := h
  exact ⟨_, _, _, hv⟩
end Go.Proofs.YtfbdnhadcnmfoaaDoor

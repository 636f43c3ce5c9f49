/- The walk of the statement TagsRoots. -/
import Derived.Test.YtaleeaocmomjlaaDoorLawT
namespace Go.Proofs.YtaleeaocmomjlaaDoor
open Go.RowKit
set_option maxRecDepth 100000 in
set_option maxHeartbeats 4000000 in
theorem tagsRoots_any (p q r a b c : List (BitVec 8)) (n m : Nat) (w : World) (hK : KOk w) (hr : p.length = 32 ∧ q.length = 32 ∧ r.length = 32 ∧ n < 18446744073709551616) (hs : a.length = 32 ∧ b.length = 32 ∧ c.length = 32 ∧ m < 18446744073709551616) :
    Calls Tryd.prog 6 #[.agg (Value.int .u64 (n : Int) :: (cb p ++ (cb q ++ cb r))).toArray, .agg (Value.int .u64 (m : Int) :: (cb a ++ (cb b ++ cb c))).toArray] w fun e w' => e = .returned (.bool true) ∧ Below w.heap.size w w' := by
  have HK : Hid (KOk w) := hK
  have HR : Hid (p.length = 32 ∧ q.length = 32 ∧ r.length = 32 ∧ n < 18446744073709551616) := hr
  have HS : Hid (a.length = 32 ∧ b.length = 32 ∧ c.length = 32 ∧ m < 18446744073709551616) := hs
  obtain ⟨bb, HBB⟩ : ∃ zz, Hid (zz = decide (n = m ∧ p = a ∧ q = b ∧ r = c)) := ⟨_, rfl⟩
  have HEQ : Hid (∀ wx : World, (Op.equalIn 10000 29 (.agg (Value.int .u64 (n : Int) :: (cb p ++ (cb q ++ cb r))).toArray) (.agg (Value.int .u64 (m : Int) :: (cb a ++ (cb b ++ cb c))).toArray)).run Tryd.prog wx = .ok bb wx) := by
    show ∀ _, _
    rw [HBB.out]
    exact fun wx => eq_root n m p q r a b c hr.1 hr.2.1 hr.2.2.1 hs.1 hs.2.1 hs.2.2.1 wx
  clear hK hr hs
  go_enter Tryd.func6, Tryd.ntmps6
  go_wp2_with fail
  have hB0 : Below w.heap.size w ((w.alloc (.cells (Value.int .u64 (n : Int) :: (cb p ++ (cb q ++ cb r))).toArray 29)).alloc (.cells (Value.int .u64 (m : Int) :: (cb a ++ (cb b ++ cb c))).toArray 29)) := ((below_alloc _ _).trans ((below_alloc _ _).mono (by simp <;> omega)))
  have b0 : Blk ((w.alloc (.cells (Value.int .u64 (n : Int) :: (cb p ++ (cb q ++ cb r))).toArray 29)).alloc (.cells (Value.int .u64 (m : Int) :: (cb a ++ (cb b ++ cb c))).toArray 29)) (w.heap.size) (Value.int .u64 (n : Int) :: (cb p ++ (cb q ++ cb r))) 29 := ((Blk.new w (Value.int .u64 (n : Int) :: (cb p ++ (cb q ++ cb r))) 29).alloc _)
  have b1 : Blk ((w.alloc (.cells (Value.int .u64 (n : Int) :: (cb p ++ (cb q ++ cb r))).toArray 29)).alloc (.cells (Value.int .u64 (m : Int) :: (cb a ++ (cb b ++ cb c))).toArray 29)) (w.heap.size + 1) (Value.int .u64 (m : Int) :: (cb a ++ (cb b ++ cb c))) 29 := (Blk.new_at (w := (w.alloc (.cells (Value.int .u64 (n : Int) :: (cb p ++ (cb q ++ cb r))).toArray 29))) (by simp) (Value.int .u64 (m : Int) :: (cb a ++ (cb b ++ cb c))) 29)
  generalize ((w.alloc (.cells (Value.int .u64 (n : Int) :: (cb p ++ (cb q ++ cb r))).toArray 29)).alloc (.cells (Value.int .u64 (m : Int) :: (cb a ++ (cb b ++ cb c))).toArray 29)) = w0 at *
  refine wp_region_held_drew (S := Over w0.drew) (by kernel_rfl) (Over.refl _) ?_
  intro hS
  replace b0 := b0.drew
  replace b1 := b1.drew
  have HB1 : Hid (Below w.heap.size w w0.drew) := (hB0).drew
  generalize w0.drew = w1 at *
  clear hB0
  refine wpAnyH_take (i := 0) (v := .agg (Value.int .u64 (n : Int) :: (cb p ++ (cb q ++ cb r))).toArray) rfl (by kernel_rfl) (by kernel_rfl) (by kernel_rfl) (fun _ _ _ h => h) (Or.inl ⟨by rfl, fun wx hx => by exact load_run 29 _ rfl (w.heap.size) 0 rfl (Value.int .u64 (n : Int) :: (cb p ++ (cb q ++ cb r))) _ (Blk.range (b0.below hx.out b0.lt)) Tryd.underlying29 rfl (info_root _ p q r ⟨HR.out.1, HR.out.2.1, HR.out.2.2.1⟩)⟩) hS ?_
  simp only [Act.put, List.getElem_toArray, List.getElem_cons_zero, List.setIfInBounds_toArray, List.set_cons_zero, List.set_cons_succ]
  refine wpAnyH_take (i := 2) (v := .agg (Value.int .u64 (m : Int) :: (cb a ++ (cb b ++ cb c))).toArray) rfl (by kernel_rfl) (by kernel_rfl) (by kernel_rfl) (fun _ _ _ h => h) (Or.inl ⟨by rfl, fun wx hx => by exact load_run 29 _ rfl (w.heap.size + 1) 0 rfl (Value.int .u64 (m : Int) :: (cb a ++ (cb b ++ cb c))) _ (Blk.range (b1.below hx.out b1.lt)) Tryd.underlying29 rfl (info_root _ a b c ⟨HS.out.1, HS.out.2.1, HS.out.2.2.1⟩)⟩) hS ?_
  simp only [Act.put, List.getElem_toArray, List.getElem_cons_succ, List.getElem_cons_zero, List.setIfInBounds_toArray, List.set_cons_zero, List.set_cons_succ]
  refine wpAnyH_take (i := 5) (v := .agg (Value.int .u64 (n : Int) :: (cb p ++ (cb q ++ cb r))).toArray) rfl (by kernel_rfl) (by kernel_rfl) (by kernel_rfl) (fun _ _ _ h => h) (Or.inl ⟨by rfl, fun wx hx => by exact load_run 29 _ rfl (w.heap.size) 0 rfl (Value.int .u64 (n : Int) :: (cb p ++ (cb q ++ cb r))) _ (Blk.range (b0.below hx.out b0.lt)) Tryd.underlying29 rfl (info_root _ p q r ⟨HR.out.1, HR.out.2.1, HR.out.2.2.1⟩)⟩) hS ?_
  simp only [Act.put, List.getElem_toArray, List.getElem_cons_succ, List.getElem_cons_zero, List.setIfInBounds_toArray, List.set_cons_zero, List.set_cons_succ]
  refine wpAnyH_take (i := 6) (v := .agg (Value.int .u64 (m : Int) :: (cb a ++ (cb b ++ cb c))).toArray) rfl (by kernel_rfl) (by kernel_rfl) (by kernel_rfl) (fun _ _ _ h => h) (Or.inl ⟨by rfl, fun wx hx => by exact load_run 29 _ rfl (w.heap.size + 1) 0 rfl (Value.int .u64 (m : Int) :: (cb a ++ (cb b ++ cb c))) _ (Blk.range (b1.below hx.out b1.lt)) Tryd.underlying29 rfl (info_root _ a b c ⟨HS.out.1, HS.out.2.1, HS.out.2.2.1⟩)⟩) hS ?_
  simp only [Act.put, List.getElem_toArray, List.getElem_cons_succ, List.getElem_cons_zero, List.setIfInBounds_toArray, List.set_cons_zero, List.set_cons_succ]
  refine wpAnyH_take (i := 7) (v := .bool bb) rfl (by kernel_rfl) (by kernel_rfl) (by kernel_rfl) (fun _ _ _ h => h) (Or.inl ⟨by rfl, fun wx _ => by (have heq := HEQ.out; simp [go_sem, heq])⟩) hS ?_
  simp only [Act.put, List.getElem_toArray, List.getElem_cons_succ, List.getElem_cons_zero, List.setIfInBounds_toArray, List.set_cons_zero, List.set_cons_succ]
  refine wpAnyH_enter 1 (by kernel_rfl) rfl (by rfl) (f := 17) (args := #[.agg (Value.int .u64 (n : Int) :: (cb p ++ (cb q ++ cb r))).toArray]) (by simp [go_sem]) (tRoot_any p q r n _ HR.out) ?_
  rintro e w2 ⟨v1, rfl, r1, hbA⟩
  have hS1 : Over w1 w2 := hS.more hbA
  refine ⟨_, rfl, hS1, ?_⟩
  clear hS
  have hS := hS1
  clear hS1
  obtain ⟨l1, HL1⟩ : ∃ zz, Hid (zz = rootB n p q r) := ⟨_, rfl⟩
  rw [← HL1.out] at r1
  obtain ⟨ad1, cp1, rfl, _, _, _⟩ := id r1
  simp only [Act.put, List.getElem_toArray, List.getElem_cons_succ, List.getElem_cons_zero, List.setIfInBounds_toArray, List.set_cons_zero, List.set_cons_succ]
  clear hbA
  refine wpAnyH_enter 3 (by kernel_rfl) rfl (by rfl) (f := 17) (args := #[.agg (Value.int .u64 (m : Int) :: (cb a ++ (cb b ++ cb c))).toArray]) (by simp [go_sem]) (tRoot_any a b c m _ HS.out) ?_
  rintro e w3 ⟨v2, rfl, r2, hbA⟩
  have hS2 : Over w1 w3 := hS.more hbA
  refine ⟨_, rfl, hS2, ?_⟩
  clear hS
  have hS := hS2
  clear hS2
  obtain ⟨l2, HL2⟩ : ∃ zz, Hid (zz = rootB m a b c) := ⟨_, rfl⟩
  rw [← HL2.out] at r2
  obtain ⟨ad2, cp2, rfl, _, _, _⟩ := id r2
  simp only [Act.put, List.getElem_toArray, List.getElem_cons_succ, List.getElem_cons_zero, List.setIfInBounds_toArray, List.set_cons_zero, List.set_cons_succ]
  replace r1 := r1.below hbA
  clear hbA
  refine wpAnyH_enter 4 (by kernel_rfl) rfl (by rfl) (f := 10) (args := #[.slice ad1 l1.length cp1, .slice ad2 l2.length cp2]) (by simp [go_sem]) (same_b _ _ l1 l2 _ r1 r2) ?_
  rintro e w4 ⟨rfl, hbA⟩
  have hS3 : Over w1 w4 := hS.more hbA
  refine ⟨_, rfl, hS3, ?_⟩
  clear hS
  have hS := hS3
  clear hS3
  rw [show decide (l1 = l2) = bb from by rw [HBB.out, HL1.out, HL2.out, decide_eq_decide]; exact rootB_iff HR.out HS.out]
  simp only [Act.put, List.getElem_toArray, List.getElem_cons_succ, List.getElem_cons_zero, List.setIfInBounds_toArray, List.set_cons_zero, List.set_cons_succ]
  replace r1 := r1.below hbA
  replace r2 := r2.below hbA
  clear hbA
  refine wpAnyH_take (i := 8) (v := .bool true) rfl (by kernel_rfl) (by kernel_rfl) (by kernel_rfl) (fun _ _ _ h => h) (Or.inl ⟨by rfl, fun wx _ => by simp [go_sem]⟩) hS ?_
  simp only [Act.put, List.getElem_toArray, List.getElem_cons_succ, List.getElem_cons_zero, List.setIfInBounds_toArray, List.set_cons_zero, List.set_cons_succ]
  refine wpAnyH_take (i := 9) (v := .bool true) rfl (by kernel_rfl) (by kernel_rfl) (by kernel_rfl) (fun _ _ _ h => h) (Or.inl ⟨by rfl, fun wx _ => by simp [go_sem]⟩) hS ?_
  simp only [Act.put, List.getElem_toArray, List.getElem_cons_succ, List.getElem_cons_zero, List.setIfInBounds_toArray, List.set_cons_zero, List.set_cons_succ]
  refine wpAnyH_enter 10 (by kernel_rfl) rfl (by rfl) (f := 9) (args := #[]) (by simp [go_sem]) (tworks_any _ (HK.out.below (hS.after HB1.out) HK.out.lt)) ?_
  rintro e w5 ⟨rfl, hbA⟩
  have hS4 : Over w1 w5 := hS.more hbA
  refine ⟨_, rfl, hS4, ?_⟩
  clear hS
  have hS := hS4
  clear hS4
  simp only [Act.put, List.getElem_toArray, List.getElem_cons_succ, List.getElem_cons_zero, List.setIfInBounds_toArray, List.set_cons_zero, List.set_cons_succ]
  replace r1 := r1.below hbA
  replace r2 := r2.below hbA
  clear hbA
  refine wpAnyH_take (i := 11) (v := .bool true) rfl (by kernel_rfl) (by kernel_rfl) (by kernel_rfl) (fun _ _ _ h => h) (Or.inl ⟨by rfl, fun wx _ => by simp [go_sem]⟩) hS ?_
  simp only [Act.put, List.getElem_toArray, List.getElem_cons_succ, List.getElem_cons_zero, List.setIfInBounds_toArray, List.set_cons_zero, List.set_cons_succ]
  refine wpAnyH_take (i := 12) (v := .bool true) rfl (by kernel_rfl) (by kernel_rfl) (by kernel_rfl) (fun _ _ _ h => h) (Or.inl ⟨by rfl, fun wx _ => by simp [go_sem]⟩) hS ?_
  simp only [Act.put, List.getElem_toArray, List.getElem_cons_succ, List.getElem_cons_zero, List.setIfInBounds_toArray, List.set_cons_zero, List.set_cons_succ]
  refine wpAnyH_done (by kernel_rfl) ?_ _
  have HBF : Hid (Below w.heap.size w w5) := hS.after HB1.out
  clear hS r1 r2 b0 b1
  go_wp2
  go_ret
  exact ⟨rfl, HBF.out⟩
end Go.Proofs.YtaleeaocmomjlaaDoor

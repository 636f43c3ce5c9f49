/- The walk of the statement TagsBytes. -/
import Derived.Test.YtaleeaocmomjlaaDoorLawT
namespace Go.Proofs.YtaleeaocmomjlaaDoor
open Go.RowKit
set_option maxRecDepth 100000 in
set_option maxHeartbeats 4000000 in
theorem tagsBytes_any (x y nm ky p q r : List (BitVec 8)) (vk : Value) (sr n : Nat) (w : World) (hK : KOk w) (hx : x.length = 32 ∧ y.length = 32) (hk : Reads w vk ky) (hs : sr < 18446744073709551616) (hr : p.length = 32 ∧ q.length = 32 ∧ r.length = 32 ∧ n < 18446744073709551616) :
    Calls Tryd.prog 3 #[.agg (cb x).toArray, .agg (cb y).toArray, .agg #[.string (strB nm), vk, .int .u64 (sr : Int)], .agg (Value.int .u64 (n : Int) :: (cb p ++ (cb q ++ cb r))).toArray] w fun e w' => e = .returned (.bool true) ∧ Below w.heap.size w w' := by
  have HK : Hid (KOk w) := hK
  have HX : Hid (x.length = 32 ∧ y.length = 32) := hx
  have HR : Hid (p.length = 32 ∧ q.length = 32 ∧ r.length = 32 ∧ n < 18446744073709551616) := hr
  have HV : Hid (Reads w vk ky) := hk
  obtain ⟨ad, cp, rfl, _, _, _⟩ := hk
  by_cases hfew : nm.length ≤ 2000 ∧ ky.length ≤ 2000
  · have HF : Hid (nm.length ≤ 2000 ∧ ky.length ≤ 2000 ∧ sr < 18446744073709551616) := ⟨hfew.1, hfew.2, hs⟩
    clear hK hx hr hs
    go_enter Tryd.func3, Tryd.ntmps3
    go_wp2_with fail
    have hB0 : Below w.heap.size w ((((w.alloc (.cells (cb x).toArray 23)).alloc (.cells (cb y).toArray 23)).alloc (.cells #[.string (strB nm), .slice ad ky.length cp, .int .u64 (sr : Int)] 27)).alloc (.cells (Value.int .u64 (n : Int) :: (cb p ++ (cb q ++ cb r))).toArray 29)) := ((((below_alloc _ _).trans ((below_alloc _ _).mono (by simp <;> omega))).trans ((below_alloc _ _).mono (by simp <;> omega))).trans ((below_alloc _ _).mono (by simp <;> omega)))
    have b0 : Blk ((((w.alloc (.cells (cb x).toArray 23)).alloc (.cells (cb y).toArray 23)).alloc (.cells #[.string (strB nm), .slice ad ky.length cp, .int .u64 (sr : Int)] 27)).alloc (.cells (Value.int .u64 (n : Int) :: (cb p ++ (cb q ++ cb r))).toArray 29)) (w.heap.size) (cb x) 23 := ((((Blk.new w (cb x) 23).alloc _).alloc _).alloc _)
    have b1 : Blk ((((w.alloc (.cells (cb x).toArray 23)).alloc (.cells (cb y).toArray 23)).alloc (.cells #[.string (strB nm), .slice ad ky.length cp, .int .u64 (sr : Int)] 27)).alloc (.cells (Value.int .u64 (n : Int) :: (cb p ++ (cb q ++ cb r))).toArray 29)) (w.heap.size + 1) (cb y) 23 := (((Blk.new_at (w := (w.alloc (.cells (cb x).toArray 23))) (by simp) (cb y) 23).alloc _).alloc _)
    have b2 : Blk ((((w.alloc (.cells (cb x).toArray 23)).alloc (.cells (cb y).toArray 23)).alloc (.cells #[.string (strB nm), .slice ad ky.length cp, .int .u64 (sr : Int)] 27)).alloc (.cells (Value.int .u64 (n : Int) :: (cb p ++ (cb q ++ cb r))).toArray 29)) (w.heap.size + 1 + 1) [.string (strB nm), .slice ad ky.length cp, .int .u64 (sr : Int)] 27 := ((Blk.new_at (w := ((w.alloc (.cells (cb x).toArray 23)).alloc (.cells (cb y).toArray 23))) (by simp) [.string (strB nm), .slice ad ky.length cp, .int .u64 (sr : Int)] 27).alloc _)
    have b3 : Blk ((((w.alloc (.cells (cb x).toArray 23)).alloc (.cells (cb y).toArray 23)).alloc (.cells #[.string (strB nm), .slice ad ky.length cp, .int .u64 (sr : Int)] 27)).alloc (.cells (Value.int .u64 (n : Int) :: (cb p ++ (cb q ++ cb r))).toArray 29)) (w.heap.size + 1 + 1 + 1) (Value.int .u64 (n : Int) :: (cb p ++ (cb q ++ cb r))) 29 := (Blk.new_at (w := (((w.alloc (.cells (cb x).toArray 23)).alloc (.cells (cb y).toArray 23)).alloc (.cells #[.string (strB nm), .slice ad ky.length cp, .int .u64 (sr : Int)] 27))) (by simp) (Value.int .u64 (n : Int) :: (cb p ++ (cb q ++ cb r))) 29)
    have rk := HV.out.below hB0
    generalize ((((w.alloc (.cells (cb x).toArray 23)).alloc (.cells (cb y).toArray 23)).alloc (.cells #[.string (strB nm), .slice ad ky.length cp, .int .u64 (sr : Int)] 27)).alloc (.cells (Value.int .u64 (n : Int) :: (cb p ++ (cb q ++ cb r))).toArray 29)) = w0 at *
    refine (few_any nm ad ky.length cp sr _).mono ?_
    rintro e wf ⟨rfl, bf⟩
    rw [decide_eq_true hfew]
    have hW := hB0.trans (bf.mono hB0.size)
    replace b0 := b0.below bf b0.lt
    replace b1 := b1.below bf b1.lt
    replace b2 := b2.below bf b2.lt
    replace b3 := b3.below bf b3.lt
    replace rk := rk.below bf
    clear hB0 bf hfew HV
    go_wp2_with fail
    refine wp_region_held_drew (S := Over wf.drew) (by kernel_rfl) (Over.refl _) ?_
    intro hS
    replace b0 := b0.drew
    replace b1 := b1.drew
    replace b2 := b2.drew
    replace b3 := b3.drew
    replace rk := reads_drew rk
    have HB1 : Hid (Below w.heap.size w wf.drew) := (hW).drew
    generalize wf.drew = w1 at *
    clear hW
    refine wpAnyH_take (i := 0) (v := .agg (cb x).toArray) rfl (by kernel_rfl) (by kernel_rfl) (by kernel_rfl) (fun _ _ _ h => h) (Or.inl ⟨by rfl, fun wx hx => by exact load_run 23 _ rfl (w.heap.size) 0 rfl (cb x) _ (Blk.range (b0.below hx.out b0.lt)) Tryd.underlying23 rfl (info_dig x HX.out.1)⟩) hS ?_
    simp only [Act.put, List.getElem_toArray, List.getElem_cons_zero, List.setIfInBounds_toArray, List.set_cons_zero, List.set_cons_succ]
    refine wpAnyH_take (i := 1) (v := .agg (cb y).toArray) rfl (by kernel_rfl) (by kernel_rfl) (by kernel_rfl) (fun _ _ _ h => h) (Or.inl ⟨by rfl, fun wx hx => by exact load_run 23 _ rfl (w.heap.size + 1) 0 rfl (cb y) _ (Blk.range (b1.below hx.out b1.lt)) Tryd.underlying23 rfl (info_dig y HX.out.2)⟩) hS ?_
    simp only [Act.put, List.getElem_toArray, List.getElem_cons_succ, List.getElem_cons_zero, List.setIfInBounds_toArray, List.set_cons_zero, List.set_cons_succ]
    refine wpAnyH_take (i := 3) (v := .agg (cb x).toArray) rfl (by kernel_rfl) (by kernel_rfl) (by kernel_rfl) (fun _ _ _ h => h) (Or.inl ⟨by rfl, fun wx hx => by exact load_run 23 _ rfl (w.heap.size) 0 rfl (cb x) _ (Blk.range (b0.below hx.out b0.lt)) Tryd.underlying23 rfl (info_dig x HX.out.1)⟩) hS ?_
    simp only [Act.put, List.getElem_toArray, List.getElem_cons_succ, List.getElem_cons_zero, List.setIfInBounds_toArray, List.set_cons_zero, List.set_cons_succ]
    refine wpAnyH_take (i := 4) (v := .agg (cb y).toArray) rfl (by kernel_rfl) (by kernel_rfl) (by kernel_rfl) (fun _ _ _ h => h) (Or.inl ⟨by rfl, fun wx hx => by exact load_run 23 _ rfl (w.heap.size + 1) 0 rfl (cb y) _ (Blk.range (b1.below hx.out b1.lt)) Tryd.underlying23 rfl (info_dig y HX.out.2)⟩) hS ?_
    simp only [Act.put, List.getElem_toArray, List.getElem_cons_succ, List.getElem_cons_zero, List.setIfInBounds_toArray, List.set_cons_zero, List.set_cons_succ]
    refine wpAnyH_enter 2 (by kernel_rfl) rfl (by rfl) (f := 11) (args := #[.agg (cb x).toArray, .agg (cb y).toArray]) (by simp [go_sem]) (tLeaf_any x y HX.out.1 HX.out.2 _) ?_
    rintro e w2 ⟨v1, rfl, r1, hbA⟩
    have hS1 : Over w1 w2 := hS.more hbA
    refine ⟨_, rfl, hS1, ?_⟩
    clear hS
    have hS := hS1
    clear hS1
    obtain ⟨l1, HL1⟩ : ∃ zz, Hid (zz = pairB 76 x y) := ⟨_, rfl⟩
    rw [← HL1.out] at r1
    obtain ⟨ad1, cp1, rfl, _, _, _⟩ := id r1
    simp only [Act.put, List.getElem_toArray, List.getElem_cons_succ, List.getElem_cons_zero, List.setIfInBounds_toArray, List.set_cons_zero, List.set_cons_succ]
    clear hbA
    refine wpAnyH_enter 5 (by kernel_rfl) rfl (by rfl) (f := 12) (args := #[.agg (cb x).toArray, .agg (cb y).toArray]) (by simp [go_sem]) (rLeaf_any x y HX.out.1 HX.out.2 _) ?_
    rintro e w3 ⟨v2, rfl, r2, hbA⟩
    have hS2 : Over w1 w3 := hS.more hbA
    refine ⟨_, rfl, hS2, ?_⟩
    clear hS
    have hS := hS2
    clear hS2
    obtain ⟨l2, HL2⟩ : ∃ zz, Hid (zz = pairB 76 x y) := ⟨_, rfl⟩
    rw [← HL2.out] at r2
    obtain ⟨ad2, cp2, rfl, _, _, _⟩ := id r2
    simp only [Act.put, List.getElem_toArray, List.getElem_cons_succ, List.getElem_cons_zero, List.setIfInBounds_toArray, List.set_cons_zero, List.set_cons_succ]
    replace r1 := r1.below hbA
    clear hbA
    refine wpAnyH_enter 6 (by kernel_rfl) rfl (by rfl) (f := 10) (args := #[.slice ad1 l1.length cp1, .slice ad2 l2.length cp2]) (by simp [go_sem]) (same_b _ _ l1 l2 _ r1 r2) ?_
    rintro e w4 ⟨rfl, hbA⟩
    have hS3 : Over w1 w4 := hS.more hbA
    refine ⟨_, rfl, hS3, ?_⟩
    clear hS
    have hS := hS3
    clear hS3
    rw [show decide (l1 = l2) = true from decide_eq_true (by rw [HL1.out, HL2.out])]
    simp only [Act.put, List.getElem_toArray, List.getElem_cons_succ, List.getElem_cons_zero, List.setIfInBounds_toArray, List.set_cons_zero, List.set_cons_succ]
    replace r1 := r1.below hbA
    replace r2 := r2.below hbA
    clear hbA
    refine wpAnyH_take (i := 7) (v := .bool true) rfl (by kernel_rfl) (by kernel_rfl) (by kernel_rfl) (fun _ _ _ h => h) (Or.inl ⟨by rfl, fun wx _ => by simp [go_sem]⟩) hS ?_
    simp only [Act.put, List.getElem_toArray, List.getElem_cons_succ, List.getElem_cons_zero, List.setIfInBounds_toArray, List.set_cons_zero, List.set_cons_succ]
    refine wpAnyH_take (i := 8) (v := .agg (cb x).toArray) rfl (by kernel_rfl) (by kernel_rfl) (by kernel_rfl) (fun _ _ _ h => h) (Or.inl ⟨by rfl, fun wx hx => by exact load_run 23 _ rfl (w.heap.size) 0 rfl (cb x) _ (Blk.range (b0.below hx.out b0.lt)) Tryd.underlying23 rfl (info_dig x HX.out.1)⟩) hS ?_
    simp only [Act.put, List.getElem_toArray, List.getElem_cons_succ, List.getElem_cons_zero, List.setIfInBounds_toArray, List.set_cons_zero, List.set_cons_succ]
    refine wpAnyH_take (i := 9) (v := .agg (cb y).toArray) rfl (by kernel_rfl) (by kernel_rfl) (by kernel_rfl) (fun _ _ _ h => h) (Or.inl ⟨by rfl, fun wx hx => by exact load_run 23 _ rfl (w.heap.size + 1) 0 rfl (cb y) _ (Blk.range (b1.below hx.out b1.lt)) Tryd.underlying23 rfl (info_dig y HX.out.2)⟩) hS ?_
    simp only [Act.put, List.getElem_toArray, List.getElem_cons_succ, List.getElem_cons_zero, List.setIfInBounds_toArray, List.set_cons_zero, List.set_cons_succ]
    refine wpAnyH_take (i := 11) (v := .agg (cb x).toArray) rfl (by kernel_rfl) (by kernel_rfl) (by kernel_rfl) (fun _ _ _ h => h) (Or.inl ⟨by rfl, fun wx hx => by exact load_run 23 _ rfl (w.heap.size) 0 rfl (cb x) _ (Blk.range (b0.below hx.out b0.lt)) Tryd.underlying23 rfl (info_dig x HX.out.1)⟩) hS ?_
    simp only [Act.put, List.getElem_toArray, List.getElem_cons_succ, List.getElem_cons_zero, List.setIfInBounds_toArray, List.set_cons_zero, List.set_cons_succ]
    refine wpAnyH_take (i := 12) (v := .agg (cb y).toArray) rfl (by kernel_rfl) (by kernel_rfl) (by kernel_rfl) (fun _ _ _ h => h) (Or.inl ⟨by rfl, fun wx hx => by exact load_run 23 _ rfl (w.heap.size + 1) 0 rfl (cb y) _ (Blk.range (b1.below hx.out b1.lt)) Tryd.underlying23 rfl (info_dig y HX.out.2)⟩) hS ?_
    simp only [Act.put, List.getElem_toArray, List.getElem_cons_succ, List.getElem_cons_zero, List.setIfInBounds_toArray, List.set_cons_zero, List.set_cons_succ]
    refine wpAnyH_enter 10 (by kernel_rfl) rfl (by rfl) (f := 13) (args := #[.agg (cb x).toArray, .agg (cb y).toArray]) (by simp [go_sem]) (tNode_any x y HX.out.1 HX.out.2 _) ?_
    rintro e w5 ⟨v4, rfl, r4, hbA⟩
    have hS4 : Over w1 w5 := hS.more hbA
    refine ⟨_, rfl, hS4, ?_⟩
    clear hS
    have hS := hS4
    clear hS4
    obtain ⟨l4, HL4⟩ : ∃ zz, Hid (zz = pairB 78 x y) := ⟨_, rfl⟩
    rw [← HL4.out] at r4
    obtain ⟨ad4, cp4, rfl, _, _, _⟩ := id r4
    simp only [Act.put, List.getElem_toArray, List.getElem_cons_succ, List.getElem_cons_zero, List.setIfInBounds_toArray, List.set_cons_zero, List.set_cons_succ]
    replace r1 := r1.below hbA
    replace r2 := r2.below hbA
    clear hbA
    refine wpAnyH_enter 13 (by kernel_rfl) rfl (by rfl) (f := 14) (args := #[.agg (cb x).toArray, .agg (cb y).toArray]) (by simp [go_sem]) (rNode_any x y HX.out.1 HX.out.2 _) ?_
    rintro e w6 ⟨v5, rfl, r5, hbA⟩
    have hS5 : Over w1 w6 := hS.more hbA
    refine ⟨_, rfl, hS5, ?_⟩
    clear hS
    have hS := hS5
    clear hS5
    obtain ⟨l5, HL5⟩ : ∃ zz, Hid (zz = pairB 78 x y) := ⟨_, rfl⟩
    rw [← HL5.out] at r5
    obtain ⟨ad5, cp5, rfl, _, _, _⟩ := id r5
    simp only [Act.put, List.getElem_toArray, List.getElem_cons_succ, List.getElem_cons_zero, List.setIfInBounds_toArray, List.set_cons_zero, List.set_cons_succ]
    replace r1 := r1.below hbA
    replace r2 := r2.below hbA
    replace r4 := r4.below hbA
    clear hbA
    refine wpAnyH_enter 14 (by kernel_rfl) rfl (by rfl) (f := 10) (args := #[.slice ad4 l4.length cp4, .slice ad5 l5.length cp5]) (by simp [go_sem]) (same_b _ _ l4 l5 _ r4 r5) ?_
    rintro e w7 ⟨rfl, hbA⟩
    have hS6 : Over w1 w7 := hS.more hbA
    refine ⟨_, rfl, hS6, ?_⟩
    clear hS
    have hS := hS6
    clear hS6
    rw [show decide (l4 = l5) = true from decide_eq_true (by rw [HL4.out, HL5.out])]
    simp only [Act.put, List.getElem_toArray, List.getElem_cons_succ, List.getElem_cons_zero, List.setIfInBounds_toArray, List.set_cons_zero, List.set_cons_succ]
    replace r1 := r1.below hbA
    replace r2 := r2.below hbA
    replace r4 := r4.below hbA
    replace r5 := r5.below hbA
    clear hbA
    refine wpAnyH_take (i := 15) (v := .bool true) rfl (by kernel_rfl) (by kernel_rfl) (by kernel_rfl) (fun _ _ _ h => h) (Or.inl ⟨by rfl, fun wx _ => by simp [go_sem]⟩) hS ?_
    simp only [Act.put, List.getElem_toArray, List.getElem_cons_succ, List.getElem_cons_zero, List.setIfInBounds_toArray, List.set_cons_zero, List.set_cons_succ]
    refine wpAnyH_take (i := 16) (v := .bool true) rfl (by kernel_rfl) (by kernel_rfl) (by kernel_rfl) (fun _ _ _ h => h) (Or.inl ⟨by rfl, fun wx _ => by simp [go_sem]⟩) hS ?_
    simp only [Act.put, List.getElem_toArray, List.getElem_cons_succ, List.getElem_cons_zero, List.setIfInBounds_toArray, List.set_cons_zero, List.set_cons_succ]
    refine wpAnyH_done (by kernel_rfl) ?_ _
    clear r1 r2 r4 r5
    have hW := hS.after HB1.out
    replace b0 := b0.below hS.out b0.lt
    replace b1 := b1.below hS.out b1.lt
    replace b2 := b2.below hS.out b2.lt
    replace b3 := b3.below hS.out b3.lt
    replace rk := rk.below hS.out
    clear hS HB1
    go_wp2_with fail
    refine wp_region_held_drew (S := Over w7.drew) (by kernel_rfl) (Over.refl _) ?_
    intro hS
    replace b0 := b0.drew
    replace b1 := b1.drew
    replace b2 := b2.drew
    replace b3 := b3.drew
    replace rk := reads_drew rk
    have HB1 : Hid (Below w.heap.size w w7.drew) := (hW).drew
    generalize w7.drew = wb at *
    clear hW
    refine wpAnyH_take (i := 0) (v := .bool true) rfl (by kernel_rfl) (by kernel_rfl) (by kernel_rfl) (fun _ _ _ h => h) (Or.inl ⟨by rfl, fun wx _ => by simp [go_sem]⟩) hS ?_
    simp only [Act.put, List.getElem_toArray, List.getElem_cons_zero, List.setIfInBounds_toArray, List.set_cons_zero, List.set_cons_succ]
    refine wpAnyH_take (i := 1) (v := .bool true) rfl (by kernel_rfl) (by kernel_rfl) (by kernel_rfl) (fun _ _ _ h => h) (Or.inl ⟨by rfl, fun wx _ => by simp [go_sem]⟩) hS ?_
    simp only [Act.put, List.getElem_toArray, List.getElem_cons_succ, List.getElem_cons_zero, List.setIfInBounds_toArray, List.set_cons_zero, List.set_cons_succ]
    refine wpAnyH_take (i := 2) (v := .agg (cb x).toArray) rfl (by kernel_rfl) (by kernel_rfl) (by kernel_rfl) (fun _ _ _ h => h) (Or.inl ⟨by rfl, fun wx hx => by exact load_run 23 _ rfl (w.heap.size) 0 rfl (cb x) _ (Blk.range (b0.below hx.out b0.lt)) Tryd.underlying23 rfl (info_dig x HX.out.1)⟩) hS ?_
    simp only [Act.put, List.getElem_toArray, List.getElem_cons_succ, List.getElem_cons_zero, List.setIfInBounds_toArray, List.set_cons_zero, List.set_cons_succ]
    refine wpAnyH_take (i := 3) (v := .agg #[.string (strB nm), .slice ad ky.length cp, .int .u64 (sr : Int)]) rfl (by kernel_rfl) (by kernel_rfl) (by kernel_rfl) (fun _ _ _ h => h) (Or.inl ⟨by rfl, fun wx hx => by exact load_run 27 _ rfl (w.heap.size + 1 + 1) 0 rfl [.string (strB nm), .slice ad ky.length cp, .int .u64 (sr : Int)] _ (Blk.range (b2.below hx.out b2.lt)) Tryd.underlying27 rfl info_binding⟩) hS ?_
    simp only [Act.put, List.getElem_toArray, List.getElem_cons_succ, List.getElem_cons_zero, List.setIfInBounds_toArray, List.set_cons_zero, List.set_cons_succ]
    refine wpAnyH_take (i := 5) (v := .agg (cb x).toArray) rfl (by kernel_rfl) (by kernel_rfl) (by kernel_rfl) (fun _ _ _ h => h) (Or.inl ⟨by rfl, fun wx hx => by exact load_run 23 _ rfl (w.heap.size) 0 rfl (cb x) _ (Blk.range (b0.below hx.out b0.lt)) Tryd.underlying23 rfl (info_dig x HX.out.1)⟩) hS ?_
    simp only [Act.put, List.getElem_toArray, List.getElem_cons_succ, List.getElem_cons_zero, List.setIfInBounds_toArray, List.set_cons_zero, List.set_cons_succ]
    refine wpAnyH_take (i := 6) (v := .agg #[.string (strB nm), .slice ad ky.length cp, .int .u64 (sr : Int)]) rfl (by kernel_rfl) (by kernel_rfl) (by kernel_rfl) (fun _ _ _ h => h) (Or.inl ⟨by rfl, fun wx hx => by exact load_run 27 _ rfl (w.heap.size + 1 + 1) 0 rfl [.string (strB nm), .slice ad ky.length cp, .int .u64 (sr : Int)] _ (Blk.range (b2.below hx.out b2.lt)) Tryd.underlying27 rfl info_binding⟩) hS ?_
    simp only [Act.put, List.getElem_toArray, List.getElem_cons_succ, List.getElem_cons_zero, List.setIfInBounds_toArray, List.set_cons_zero, List.set_cons_succ]
    refine wpAnyH_enter 4 (by kernel_rfl) rfl (by rfl) (f := 15) (args := #[.agg (cb x).toArray, .agg #[.string (strB nm), .slice ad ky.length cp, .int .u64 (sr : Int)]]) (by simp [go_sem]) (tValue_any x nm ky _ sr _ HX.out.1 (rk.below hS) (by have := HF.out; omega)) ?_
    rintro e w8 ⟨v7, rfl, r7, hbA⟩
    have hS7 : Over wb w8 := hS.more hbA
    refine ⟨_, rfl, hS7, ?_⟩
    clear hS
    have hS := hS7
    clear hS7
    obtain ⟨l7, HL7⟩ : ∃ zz, Hid (zz = valueB x nm sr ky) := ⟨_, rfl⟩
    rw [← HL7.out] at r7
    obtain ⟨ad7, cp7, rfl, _, _, _⟩ := id r7
    simp only [Act.put, List.getElem_toArray, List.getElem_cons_succ, List.getElem_cons_zero, List.setIfInBounds_toArray, List.set_cons_zero, List.set_cons_succ]
    clear hbA
    refine wpAnyH_enter 7 (by kernel_rfl) rfl (by rfl) (f := 16) (args := #[.agg (cb x).toArray, .agg #[.string (strB nm), .slice ad ky.length cp, .int .u64 (sr : Int)]]) (by simp [go_sem]) (rValue_any x nm ky _ sr _ HX.out.1 (rk.below hS) (by have := HF.out; omega)) ?_
    rintro e w9 ⟨v8, rfl, r8, hbA⟩
    have hS8 : Over wb w9 := hS.more hbA
    refine ⟨_, rfl, hS8, ?_⟩
    clear hS
    have hS := hS8
    clear hS8
    obtain ⟨l8, HL8⟩ : ∃ zz, Hid (zz = valueB x nm sr ky) := ⟨_, rfl⟩
    rw [← HL8.out] at r8
    obtain ⟨ad8, cp8, rfl, _, _, _⟩ := id r8
    simp only [Act.put, List.getElem_toArray, List.getElem_cons_succ, List.getElem_cons_zero, List.setIfInBounds_toArray, List.set_cons_zero, List.set_cons_succ]
    replace r7 := r7.below hbA
    clear hbA
    refine wpAnyH_enter 8 (by kernel_rfl) rfl (by rfl) (f := 10) (args := #[.slice ad7 l7.length cp7, .slice ad8 l8.length cp8]) (by simp [go_sem]) (same_b _ _ l7 l8 _ r7 r8) ?_
    rintro e w10 ⟨rfl, hbA⟩
    have hS9 : Over wb w10 := hS.more hbA
    refine ⟨_, rfl, hS9, ?_⟩
    clear hS
    have hS := hS9
    clear hS9
    rw [show decide (l7 = l8) = true from decide_eq_true (by rw [HL7.out, HL8.out])]
    simp only [Act.put, List.getElem_toArray, List.getElem_cons_succ, List.getElem_cons_zero, List.setIfInBounds_toArray, List.set_cons_zero, List.set_cons_succ]
    replace r7 := r7.below hbA
    replace r8 := r8.below hbA
    clear hbA
    refine wpAnyH_take (i := 9) (v := .bool true) rfl (by kernel_rfl) (by kernel_rfl) (by kernel_rfl) (fun _ _ _ h => h) (Or.inl ⟨by rfl, fun wx _ => by simp [go_sem]⟩) hS ?_
    simp only [Act.put, List.getElem_toArray, List.getElem_cons_succ, List.getElem_cons_zero, List.setIfInBounds_toArray, List.set_cons_zero, List.set_cons_succ]
    refine wpAnyH_take (i := 10) (v := .bool true) rfl (by kernel_rfl) (by kernel_rfl) (by kernel_rfl) (fun _ _ _ h => h) (Or.inl ⟨by rfl, fun wx _ => by simp [go_sem]⟩) hS ?_
    simp only [Act.put, List.getElem_toArray, List.getElem_cons_succ, List.getElem_cons_zero, List.setIfInBounds_toArray, List.set_cons_zero, List.set_cons_succ]
    refine wpAnyH_take (i := 11) (v := .agg (Value.int .u64 (n : Int) :: (cb p ++ (cb q ++ cb r))).toArray) rfl (by kernel_rfl) (by kernel_rfl) (by kernel_rfl) (fun _ _ _ h => h) (Or.inl ⟨by rfl, fun wx hx => by exact load_run 29 _ rfl (w.heap.size + 1 + 1 + 1) 0 rfl (Value.int .u64 (n : Int) :: (cb p ++ (cb q ++ cb r))) _ (Blk.range (b3.below hx.out b3.lt)) Tryd.underlying29 rfl (info_root _ p q r ⟨HR.out.1, HR.out.2.1, HR.out.2.2.1⟩)⟩) hS ?_
    simp only [Act.put, List.getElem_toArray, List.getElem_cons_succ, List.getElem_cons_zero, List.setIfInBounds_toArray, List.set_cons_zero, List.set_cons_succ]
    refine wpAnyH_take (i := 13) (v := .agg (Value.int .u64 (n : Int) :: (cb p ++ (cb q ++ cb r))).toArray) rfl (by kernel_rfl) (by kernel_rfl) (by kernel_rfl) (fun _ _ _ h => h) (Or.inl ⟨by rfl, fun wx hx => by exact load_run 29 _ rfl (w.heap.size + 1 + 1 + 1) 0 rfl (Value.int .u64 (n : Int) :: (cb p ++ (cb q ++ cb r))) _ (Blk.range (b3.below hx.out b3.lt)) Tryd.underlying29 rfl (info_root _ p q r ⟨HR.out.1, HR.out.2.1, HR.out.2.2.1⟩)⟩) hS ?_
    simp only [Act.put, List.getElem_toArray, List.getElem_cons_succ, List.getElem_cons_zero, List.setIfInBounds_toArray, List.set_cons_zero, List.set_cons_succ]
    refine wpAnyH_enter 12 (by kernel_rfl) rfl (by rfl) (f := 17) (args := #[.agg (Value.int .u64 (n : Int) :: (cb p ++ (cb q ++ cb r))).toArray]) (by simp [go_sem]) (tRoot_any p q r n _ HR.out) ?_
    rintro e w11 ⟨v10, rfl, r10, hbA⟩
    have hS10 : Over wb w11 := hS.more hbA
    refine ⟨_, rfl, hS10, ?_⟩
    clear hS
    have hS := hS10
    clear hS10
    obtain ⟨l10, HL10⟩ : ∃ zz, Hid (zz = rootB n p q r) := ⟨_, rfl⟩
    rw [← HL10.out] at r10
    obtain ⟨ad10, cp10, rfl, _, _, _⟩ := id r10
    simp only [Act.put, List.getElem_toArray, List.getElem_cons_succ, List.getElem_cons_zero, List.setIfInBounds_toArray, List.set_cons_zero, List.set_cons_succ]
    replace r7 := r7.below hbA
    replace r8 := r8.below hbA
    clear hbA
    refine wpAnyH_enter 14 (by kernel_rfl) rfl (by rfl) (f := 18) (args := #[.agg (Value.int .u64 (n : Int) :: (cb p ++ (cb q ++ cb r))).toArray]) (by simp [go_sem]) (rRoot_any p q r n _ HR.out) ?_
    rintro e w12 ⟨v11, rfl, r11, hbA⟩
    have hS11 : Over wb w12 := hS.more hbA
    refine ⟨_, rfl, hS11, ?_⟩
    clear hS
    have hS := hS11
    clear hS11
    obtain ⟨l11, HL11⟩ : ∃ zz, Hid (zz = rootB n p q r) := ⟨_, rfl⟩
    rw [← HL11.out] at r11
    obtain ⟨ad11, cp11, rfl, _, _, _⟩ := id r11
    simp only [Act.put, List.getElem_toArray, List.getElem_cons_succ, List.getElem_cons_zero, List.setIfInBounds_toArray, List.set_cons_zero, List.set_cons_succ]
    replace r7 := r7.below hbA
    replace r8 := r8.below hbA
    replace r10 := r10.below hbA
    clear hbA
    refine wpAnyH_enter 15 (by kernel_rfl) rfl (by rfl) (f := 10) (args := #[.slice ad10 l10.length cp10, .slice ad11 l11.length cp11]) (by simp [go_sem]) (same_b _ _ l10 l11 _ r10 r11) ?_
    rintro e w13 ⟨rfl, hbA⟩
    have hS12 : Over wb w13 := hS.more hbA
    refine ⟨_, rfl, hS12, ?_⟩
    clear hS
    have hS := hS12
    clear hS12
    rw [show decide (l10 = l11) = true from decide_eq_true (by rw [HL10.out, HL11.out])]
    simp only [Act.put, List.getElem_toArray, List.getElem_cons_succ, List.getElem_cons_zero, List.setIfInBounds_toArray, List.set_cons_zero, List.set_cons_succ]
    replace r7 := r7.below hbA
    replace r8 := r8.below hbA
    replace r10 := r10.below hbA
    replace r11 := r11.below hbA
    clear hbA
    refine wpAnyH_take (i := 16) (v := .bool true) rfl (by kernel_rfl) (by kernel_rfl) (by kernel_rfl) (fun _ _ _ h => h) (Or.inl ⟨by rfl, fun wx _ => by simp [go_sem]⟩) hS ?_
    simp only [Act.put, List.getElem_toArray, List.getElem_cons_succ, List.getElem_cons_zero, List.setIfInBounds_toArray, List.set_cons_zero, List.set_cons_succ]
    refine wpAnyH_take (i := 17) (v := .bool true) rfl (by kernel_rfl) (by kernel_rfl) (by kernel_rfl) (fun _ _ _ h => h) (Or.inl ⟨by rfl, fun wx _ => by simp [go_sem]⟩) hS ?_
    simp only [Act.put, List.getElem_toArray, List.getElem_cons_succ, List.getElem_cons_zero, List.setIfInBounds_toArray, List.set_cons_zero, List.set_cons_succ]
    refine wpAnyH_enter 18 (by kernel_rfl) rfl (by rfl) (f := 19) (args := #[]) (by simp [go_sem]) (tEmpty_any _) ?_
    rintro e w14 ⟨v13, rfl, r13, hbA⟩
    have hS13 : Over wb w14 := hS.more hbA
    refine ⟨_, rfl, hS13, ?_⟩
    clear hS
    have hS := hS13
    clear hS13
    obtain ⟨l13, HL13⟩ : ∃ zz, Hid (zz = ([69] : List (BitVec 8))) := ⟨_, rfl⟩
    rw [← HL13.out] at r13
    obtain ⟨ad13, cp13, rfl, _, _, _⟩ := id r13
    simp only [Act.put, List.getElem_toArray, List.getElem_cons_succ, List.getElem_cons_zero, List.setIfInBounds_toArray, List.set_cons_zero, List.set_cons_succ]
    replace r7 := r7.below hbA
    replace r8 := r8.below hbA
    replace r10 := r10.below hbA
    replace r11 := r11.below hbA
    clear hbA
    refine wpAnyH_enter 19 (by kernel_rfl) rfl (by rfl) (f := 20) (args := #[]) (by simp [go_sem]) (rEmpty_any _) ?_
    rintro e w15 ⟨v14, rfl, r14, hbA⟩
    have hS14 : Over wb w15 := hS.more hbA
    refine ⟨_, rfl, hS14, ?_⟩
    clear hS
    have hS := hS14
    clear hS14
    obtain ⟨l14, HL14⟩ : ∃ zz, Hid (zz = ([69] : List (BitVec 8))) := ⟨_, rfl⟩
    rw [← HL14.out] at r14
    obtain ⟨ad14, cp14, rfl, _, _, _⟩ := id r14
    simp only [Act.put, List.getElem_toArray, List.getElem_cons_succ, List.getElem_cons_zero, List.setIfInBounds_toArray, List.set_cons_zero, List.set_cons_succ]
    replace r7 := r7.below hbA
    replace r8 := r8.below hbA
    replace r10 := r10.below hbA
    replace r11 := r11.below hbA
    replace r13 := r13.below hbA
    clear hbA
    refine wpAnyH_enter 20 (by kernel_rfl) rfl (by rfl) (f := 10) (args := #[.slice ad13 l13.length cp13, .slice ad14 l14.length cp14]) (by simp [go_sem]) (same_b _ _ l13 l14 _ r13 r14) ?_
    rintro e w16 ⟨rfl, hbA⟩
    have hS15 : Over wb w16 := hS.more hbA
    refine ⟨_, rfl, hS15, ?_⟩
    clear hS
    have hS := hS15
    clear hS15
    rw [show decide (l13 = l14) = true from decide_eq_true (by rw [HL13.out, HL14.out])]
    simp only [Act.put, List.getElem_toArray, List.getElem_cons_succ, List.getElem_cons_zero, List.setIfInBounds_toArray, List.set_cons_zero, List.set_cons_succ]
    replace r7 := r7.below hbA
    replace r8 := r8.below hbA
    replace r10 := r10.below hbA
    replace r11 := r11.below hbA
    replace r13 := r13.below hbA
    replace r14 := r14.below hbA
    clear hbA
    refine wpAnyH_take (i := 21) (v := .bool true) rfl (by kernel_rfl) (by kernel_rfl) (by kernel_rfl) (fun _ _ _ h => h) (Or.inl ⟨by rfl, fun wx _ => by simp [go_sem]⟩) hS ?_
    simp only [Act.put, List.getElem_toArray, List.getElem_cons_succ, List.getElem_cons_zero, List.setIfInBounds_toArray, List.set_cons_zero, List.set_cons_succ]
    refine wpAnyH_take (i := 22) (v := .bool true) rfl (by kernel_rfl) (by kernel_rfl) (by kernel_rfl) (fun _ _ _ h => h) (Or.inl ⟨by rfl, fun wx _ => by simp [go_sem]⟩) hS ?_
    simp only [Act.put, List.getElem_toArray, List.getElem_cons_succ, List.getElem_cons_zero, List.setIfInBounds_toArray, List.set_cons_zero, List.set_cons_succ]
    refine wpAnyH_enter 23 (by kernel_rfl) rfl (by rfl) (f := 9) (args := #[]) (by simp [go_sem]) (tworks_any _ (HK.out.below (hS.after HB1.out) HK.out.lt)) ?_
    rintro e w17 ⟨rfl, hbA⟩
    have hS16 : Over wb w17 := hS.more hbA
    refine ⟨_, rfl, hS16, ?_⟩
    clear hS
    have hS := hS16
    clear hS16
    simp only [Act.put, List.getElem_toArray, List.getElem_cons_succ, List.getElem_cons_zero, List.setIfInBounds_toArray, List.set_cons_zero, List.set_cons_succ]
    replace r7 := r7.below hbA
    replace r8 := r8.below hbA
    replace r10 := r10.below hbA
    replace r11 := r11.below hbA
    replace r13 := r13.below hbA
    replace r14 := r14.below hbA
    clear hbA
    refine wpAnyH_take (i := 24) (v := .bool true) rfl (by kernel_rfl) (by kernel_rfl) (by kernel_rfl) (fun _ _ _ h => h) (Or.inl ⟨by rfl, fun wx _ => by simp [go_sem]⟩) hS ?_
    simp only [Act.put, List.getElem_toArray, List.getElem_cons_succ, List.getElem_cons_zero, List.setIfInBounds_toArray, List.set_cons_zero, List.set_cons_succ]
    refine wpAnyH_take (i := 25) (v := .bool true) rfl (by kernel_rfl) (by kernel_rfl) (by kernel_rfl) (fun _ _ _ h => h) (Or.inl ⟨by rfl, fun wx _ => by simp [go_sem]⟩) hS ?_
    simp only [Act.put, List.getElem_toArray, List.getElem_cons_succ, List.getElem_cons_zero, List.setIfInBounds_toArray, List.set_cons_zero, List.set_cons_succ]
    refine wpAnyH_done (by kernel_rfl) ?_ _
    have HBF : Hid (Below w.heap.size w w17) := hS.after HB1.out
    clear hS r7 r8 r10 r11 r13 r14 b0 b1 b2 b3 rk
    go_wp2
    go_ret
    exact ⟨rfl, HBF.out⟩
  · clear hx hr hs
    go_enter Tryd.func3, Tryd.ntmps3
    go_wp2_with fail
    have hB0 : Below w.heap.size w ((((w.alloc (.cells (cb x).toArray 23)).alloc (.cells (cb y).toArray 23)).alloc (.cells #[.string (strB nm), .slice ad ky.length cp, .int .u64 (sr : Int)] 27)).alloc (.cells (Value.int .u64 (n : Int) :: (cb p ++ (cb q ++ cb r))).toArray 29)) := ((((below_alloc _ _).trans ((below_alloc _ _).mono (by simp <;> omega))).trans ((below_alloc _ _).mono (by simp <;> omega))).trans ((below_alloc _ _).mono (by simp <;> omega)))
    generalize ((((w.alloc (.cells (cb x).toArray 23)).alloc (.cells (cb y).toArray 23)).alloc (.cells #[.string (strB nm), .slice ad ky.length cp, .int .u64 (sr : Int)] 27)).alloc (.cells (Value.int .u64 (n : Int) :: (cb p ++ (cb q ++ cb r))).toArray 29)) = w0 at *
    refine (few_any nm ad ky.length cp sr _).mono ?_
    rintro e wf ⟨rfl, bf⟩
    rw [decide_eq_false hfew]
    have HB1 : Hid (Below w.heap.size w wf) := hB0.trans (bf.mono hB0.size)
    clear hB0 bf hfew HV
    go_wp2_with (go_at_call 9; refine (tworks_any _ (HK.out.below HB1.out HK.out.lt)).mono ?_; rintro e w4 ⟨rfl, hb4⟩)
    go_ret
    exact ⟨rfl, HB1.out.trans (hb4.mono HB1.out.size)⟩
end Go.Proofs.YtaleeaocmomjlaaDoor

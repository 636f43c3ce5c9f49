/- The walk of the statement TagsApart. -/
import Derived.Test.YtaleeaocmomjlaaDoorLawT
namespace Go.Proofs.YtaleeaocmomjlaaDoor
open Go.RowKit
theorem range_fst {w : World} {g : Nat} {x y : List (BitVec 8)} {t : TypeId} (h : Blk w g (cb x ++ cb y) t) : w.rangeAt g 0 (cb x) := fun j v hv => by
  have hj := (List.getElem?_eq_some_iff.1 hv).1
  rw [Nat.zero_add, h.cell j, List.getElem?_append_left hj, hv]
theorem range_snd {w : World} {g : Nat} {x y : List (BitVec 8)} {t : TypeId} (hx : x.length = 32) (h : Blk w g (cb x ++ cb y) t) : w.rangeAt g 32 (cb y) := fun j v hv => by
  rw [h.cell, List.getElem?_append_right (by rw [cb_len]; omega), cb_len, hx, show 32 + j - 32 = j by omega, hv]
set_option maxRecDepth 100000 in
set_option maxHeartbeats 8000000 in
theorem tagsApart_any (x0 x1 y0 y1 nm ky nn kk : List (BitVec 8)) (vk vl : Value) (sr tt : Nat) (w : World) (hK : KOk w) (hx : x0.length = 32 ∧ x1.length = 32) (hy : y0.length = 32 ∧ y1.length = 32) (hk : Reads w vk ky) (hs : sr < 18446744073709551616) (hl : Reads w vl kk) (ht : tt < 18446744073709551616) :
    Calls Tryd.prog 5 #[.agg (cb x0 ++ cb x1).toArray, .agg (cb y0 ++ cb y1).toArray, .agg #[.string (strB nm), vk, .int .u64 (sr : Int)], .agg #[.string (strB nn), vl, .int .u64 (tt : Int)]] w fun e w' => e = .returned (.bool true) ∧ Below w.heap.size w w' := by
  have HK : Hid (KOk w) := hK
  have HX : Hid (x0.length = 32 ∧ x1.length = 32) := hx
  have HY : Hid (y0.length = 32 ∧ y1.length = 32) := hy
  have HV : Hid (Reads w vk ky) := hk
  have HW : Hid (Reads w vl kk) := hl
  obtain ⟨ad, cp, rfl, _, _, _⟩ := hk
  obtain ⟨ae, cq, rfl, _, _, _⟩ := hl
  obtain ⟨bs, HBS⟩ : ∃ zz, Hid (zz = decide (x0 = y0 ∧ x1 = y1)) := ⟨_, rfl⟩
  obtain ⟨ba, HBA⟩ : ∃ zz, Hid (zz = decide (x0 = y0 ∧ nm = nn ∧ sr = tt ∧ ky = kk)) := ⟨_, rfl⟩
  have HEQ : Hid (∀ wx : World, (Op.equalIn 10000 43 (.agg (cb x0 ++ cb x1).toArray) (.agg (cb y0 ++ cb y1).toArray)).run Tryd.prog wx = .ok bs wx) := by
    show ∀ _, _
    rw [HBS.out]
    exact fun wx => eq_pair x0 x1 y0 y1 hx.1 hx.2 hy.1 hy.2 wx
  have HED : Hid (∀ wx : World, (Op.equalIn 10000 23 (.agg (cb x0).toArray) (.agg (cb y0).toArray)).run Tryd.prog wx = .ok (decide (x0 = y0)) wx) := fun wx => eq_dig x0 y0 hx.1 hy.1 wx
  by_cases hf1 : nm.length ≤ 2000 ∧ ky.length ≤ 2000
  · by_cases hf2 : nn.length ≤ 2000 ∧ kk.length ≤ 2000
    · skip
      have HF : Hid (nm.length ≤ 2000 ∧ ky.length ≤ 2000 ∧ sr < 18446744073709551616 ∧ nn.length ≤ 2000 ∧ kk.length ≤ 2000 ∧ tt < 18446744073709551616) := ⟨hf1.1, hf1.2, hs, hf2.1, hf2.2, ht⟩
      clear hK hx hy hs ht
      go_enter Tryd.func5, Tryd.ntmps5
      go_wp2_with fail
      have hB0 : Below w.heap.size w ((((w.alloc (.cells (cb x0 ++ cb x1).toArray 43)).alloc (.cells (cb y0 ++ cb y1).toArray 43)).alloc (.cells #[.string (strB nm), .slice ad ky.length cp, .int .u64 (sr : Int)] 27)).alloc (.cells #[.string (strB nn), .slice ae kk.length cq, .int .u64 (tt : Int)] 27)) := ((((below_alloc _ _).trans ((below_alloc _ _).mono (by simp <;> omega))).trans ((below_alloc _ _).mono (by simp <;> omega))).trans ((below_alloc _ _).mono (by simp <;> omega)))
      have b0 : Blk ((((w.alloc (.cells (cb x0 ++ cb x1).toArray 43)).alloc (.cells (cb y0 ++ cb y1).toArray 43)).alloc (.cells #[.string (strB nm), .slice ad ky.length cp, .int .u64 (sr : Int)] 27)).alloc (.cells #[.string (strB nn), .slice ae kk.length cq, .int .u64 (tt : Int)] 27)) (w.heap.size) (cb x0 ++ cb x1) 43 := ((((Blk.new w (cb x0 ++ cb x1) 43).alloc _).alloc _).alloc _)
      have b1 : Blk ((((w.alloc (.cells (cb x0 ++ cb x1).toArray 43)).alloc (.cells (cb y0 ++ cb y1).toArray 43)).alloc (.cells #[.string (strB nm), .slice ad ky.length cp, .int .u64 (sr : Int)] 27)).alloc (.cells #[.string (strB nn), .slice ae kk.length cq, .int .u64 (tt : Int)] 27)) (w.heap.size + 1) (cb y0 ++ cb y1) 43 := (((Blk.new_at (w := (w.alloc (.cells (cb x0 ++ cb x1).toArray 43))) (by simp) (cb y0 ++ cb y1) 43).alloc _).alloc _)
      have b2 : Blk ((((w.alloc (.cells (cb x0 ++ cb x1).toArray 43)).alloc (.cells (cb y0 ++ cb y1).toArray 43)).alloc (.cells #[.string (strB nm), .slice ad ky.length cp, .int .u64 (sr : Int)] 27)).alloc (.cells #[.string (strB nn), .slice ae kk.length cq, .int .u64 (tt : Int)] 27)) (w.heap.size + 1 + 1) [.string (strB nm), .slice ad ky.length cp, .int .u64 (sr : Int)] 27 := ((Blk.new_at (w := ((w.alloc (.cells (cb x0 ++ cb x1).toArray 43)).alloc (.cells (cb y0 ++ cb y1).toArray 43))) (by simp) [.string (strB nm), .slice ad ky.length cp, .int .u64 (sr : Int)] 27).alloc _)
      have b3 : Blk ((((w.alloc (.cells (cb x0 ++ cb x1).toArray 43)).alloc (.cells (cb y0 ++ cb y1).toArray 43)).alloc (.cells #[.string (strB nm), .slice ad ky.length cp, .int .u64 (sr : Int)] 27)).alloc (.cells #[.string (strB nn), .slice ae kk.length cq, .int .u64 (tt : Int)] 27)) (w.heap.size + 1 + 1 + 1) [.string (strB nn), .slice ae kk.length cq, .int .u64 (tt : Int)] 27 := (Blk.new_at (w := (((w.alloc (.cells (cb x0 ++ cb x1).toArray 43)).alloc (.cells (cb y0 ++ cb y1).toArray 43)).alloc (.cells #[.string (strB nm), .slice ad ky.length cp, .int .u64 (sr : Int)] 27))) (by simp) [.string (strB nn), .slice ae kk.length cq, .int .u64 (tt : Int)] 27)
      have rk := HV.out.below hB0
      have rl := HW.out.below hB0
      generalize ((((w.alloc (.cells (cb x0 ++ cb x1).toArray 43)).alloc (.cells (cb y0 ++ cb y1).toArray 43)).alloc (.cells #[.string (strB nm), .slice ad ky.length cp, .int .u64 (sr : Int)] 27)).alloc (.cells #[.string (strB nn), .slice ae kk.length cq, .int .u64 (tt : Int)] 27)) = w0 at *
      refine (few_any nm ad ky.length cp sr _).mono ?_
      rintro e wf ⟨rfl, hbA⟩
      rw [decide_eq_true hf1]
      have hW := hB0.trans (hbA.mono hB0.size)
      replace b0 := b0.below hbA b0.lt
      replace b1 := b1.below hbA b1.lt
      replace b2 := b2.below hbA b2.lt
      replace b3 := b3.below hbA b3.lt
      replace rk := rk.below hbA
      replace rl := rl.below hbA
      clear hbA hB0
      go_wp2_with (refine wpSeq_val (.agg #[.string (strB nn), .slice ae kk.length cq, .int .u64 (tt : Int)]) _ (by rfl) (load_run 27 _ rfl (w.heap.size + 1 + 1 + 1) 0 rfl [.string (strB nn), .slice ae kk.length cq, .int .u64 (tt : Int)] _ b3.range Tryd.underlying27 rfl info_binding) ?_)
      refine (few_any nn ae kk.length cq tt _).mono ?_
      rintro e wg ⟨rfl, hbA⟩
      rw [decide_eq_true hf2]
      replace hW := hW.trans (hbA.mono hW.size)
      replace b0 := b0.below hbA b0.lt
      replace b1 := b1.below hbA b1.lt
      replace b2 := b2.below hbA b2.lt
      replace b3 := b3.below hbA b3.lt
      replace rk := rk.below hbA
      replace rl := rl.below hbA
      clear hbA
      clear hf1 hf2 HV HW
      have heq := HEQ.out
      go_wp2_with (first | (refine wpSeq_val (.agg (cb x0 ++ cb x1).toArray) _ (by rfl) (load_run 43 _ rfl (w.heap.size) 0 rfl (cb x0 ++ cb x1) _ b0.range Tryd.underlying43 rfl (info_pair x0 x1 HX.out)) ?_) | (refine wpSeq_val (.agg (cb y0 ++ cb y1).toArray) _ (by rfl) (load_run 43 _ rfl (w.heap.size + 1) 0 rfl (cb y0 ++ cb y1) _ b1.range Tryd.underlying43 rfl (info_pair y0 y1 HY.out)) ?_))
      clear heq HEQ
      refine wp_region_held_drew (S := Over wg.drew) (by kernel_rfl) (Over.refl _) ?_
      intro hS
      replace b0 := b0.drew
      replace b1 := b1.drew
      replace b2 := b2.drew
      replace b3 := b3.drew
      replace rk := reads_drew rk
      replace rl := reads_drew rl
      have HB1 : Hid (Below w.heap.size w wg.drew) := (hW).drew
      generalize wg.drew = w1 at *
      clear hW
      refine wpAnyH_take (i := 0) (v := (.pointer (some ⟨w.heap.size, 0, none⟩))) rfl (by kernel_rfl) (by kernel_rfl) (by kernel_rfl) (fun _ _ _ h => h) (Or.inl ⟨by rfl, fun wx _ => by simp [go_sem]⟩) hS ?_
      simp only [Act.put, List.getElem_toArray, List.getElem_cons_zero, List.setIfInBounds_toArray, List.set_cons_zero, List.set_cons_succ]
      refine wpAnyH_take (i := 1) (v := .agg (cb x0).toArray) rfl (by kernel_rfl) (by kernel_rfl) (by kernel_rfl) (fun _ _ _ h => h) (Or.inl ⟨by rfl, fun wx hx => by exact load_run 23 _ rfl (w.heap.size) 0 rfl (cb x0) _ (range_fst (b0.below hx.out b0.lt)) Tryd.underlying23 rfl (info_dig x0 HX.out.1)⟩) hS ?_
      simp only [Act.put, List.getElem_toArray, List.getElem_cons_succ, List.getElem_cons_zero, List.setIfInBounds_toArray, List.set_cons_zero, List.set_cons_succ]
      refine wpAnyH_take (i := 2) (v := (.pointer (some ⟨w.heap.size, 32, none⟩))) rfl (by kernel_rfl) (by kernel_rfl) (by kernel_rfl) (fun _ _ _ h => h) (Or.inl ⟨by rfl, fun wx _ => by simp [go_sem]⟩) hS ?_
      simp only [Act.put, List.getElem_toArray, List.getElem_cons_succ, List.getElem_cons_zero, List.setIfInBounds_toArray, List.set_cons_zero, List.set_cons_succ]
      refine wpAnyH_take (i := 3) (v := .agg (cb x1).toArray) rfl (by kernel_rfl) (by kernel_rfl) (by kernel_rfl) (fun _ _ _ h => h) (Or.inl ⟨by rfl, fun wx hx => by exact load_run 23 _ rfl (w.heap.size) 32 rfl (cb x1) _ (range_snd HX.out.1 (b0.below hx.out b0.lt)) Tryd.underlying23 rfl (info_dig x1 HX.out.2)⟩) hS ?_
      simp only [Act.put, List.getElem_toArray, List.getElem_cons_succ, List.getElem_cons_zero, List.setIfInBounds_toArray, List.set_cons_zero, List.set_cons_succ]
      refine wpAnyH_take (i := 5) (v := (.pointer (some ⟨w.heap.size + 1, 0, none⟩))) rfl (by kernel_rfl) (by kernel_rfl) (by kernel_rfl) (fun _ _ _ h => h) (Or.inl ⟨by rfl, fun wx _ => by simp [go_sem]⟩) hS ?_
      simp only [Act.put, List.getElem_toArray, List.getElem_cons_succ, List.getElem_cons_zero, List.setIfInBounds_toArray, List.set_cons_zero, List.set_cons_succ]
      refine wpAnyH_take (i := 6) (v := .agg (cb y0).toArray) rfl (by kernel_rfl) (by kernel_rfl) (by kernel_rfl) (fun _ _ _ h => h) (Or.inl ⟨by rfl, fun wx hx => by exact load_run 23 _ rfl (w.heap.size + 1) 0 rfl (cb y0) _ (range_fst (b1.below hx.out b1.lt)) Tryd.underlying23 rfl (info_dig y0 HY.out.1)⟩) hS ?_
      simp only [Act.put, List.getElem_toArray, List.getElem_cons_succ, List.getElem_cons_zero, List.setIfInBounds_toArray, List.set_cons_zero, List.set_cons_succ]
      refine wpAnyH_take (i := 7) (v := (.pointer (some ⟨w.heap.size + 1, 32, none⟩))) rfl (by kernel_rfl) (by kernel_rfl) (by kernel_rfl) (fun _ _ _ h => h) (Or.inl ⟨by rfl, fun wx _ => by simp [go_sem]⟩) hS ?_
      simp only [Act.put, List.getElem_toArray, List.getElem_cons_succ, List.getElem_cons_zero, List.setIfInBounds_toArray, List.set_cons_zero, List.set_cons_succ]
      refine wpAnyH_take (i := 8) (v := .agg (cb y1).toArray) rfl (by kernel_rfl) (by kernel_rfl) (by kernel_rfl) (fun _ _ _ h => h) (Or.inl ⟨by rfl, fun wx hx => by exact load_run 23 _ rfl (w.heap.size + 1) 32 rfl (cb y1) _ (range_snd HY.out.1 (b1.below hx.out b1.lt)) Tryd.underlying23 rfl (info_dig y1 HY.out.2)⟩) hS ?_
      simp only [Act.put, List.getElem_toArray, List.getElem_cons_succ, List.getElem_cons_zero, List.setIfInBounds_toArray, List.set_cons_zero, List.set_cons_succ]
      refine wpAnyH_take (i := 11) (v := .bool bs) rfl (by kernel_rfl) (by kernel_rfl) (by kernel_rfl) (fun _ _ _ h => h) (Or.inl ⟨by rfl, fun wx _ => by simp [go_sem]⟩) hS ?_
      simp only [Act.put, List.getElem_toArray, List.getElem_cons_succ, List.getElem_cons_zero, List.setIfInBounds_toArray, List.set_cons_zero, List.set_cons_succ]
      refine wpAnyH_enter 4 (by kernel_rfl) rfl (by rfl) (f := 11) (args := #[.agg (cb x0).toArray, .agg (cb x1).toArray]) (by simp [go_sem]) (tLeaf_any x0 x1 HX.out.1 HX.out.2 _) ?_
      rintro e w2 ⟨v1, rfl, r1, hbA⟩
      have hS1 : Over w1 w2 := hS.more hbA
      refine ⟨_, rfl, hS1, ?_⟩
      clear hS
      have hS := hS1
      clear hS1
      obtain ⟨l1, HL1⟩ : ∃ zz, Hid (zz = pairB 76 x0 x1) := ⟨_, rfl⟩
      rw [← HL1.out] at r1
      obtain ⟨ad1, cp1, rfl, _, _, _⟩ := id r1
      simp only [Act.put, List.getElem_toArray, List.getElem_cons_succ, List.getElem_cons_zero, List.setIfInBounds_toArray, List.set_cons_zero, List.set_cons_succ]
      clear hbA
      refine wpAnyH_enter 9 (by kernel_rfl) rfl (by rfl) (f := 11) (args := #[.agg (cb y0).toArray, .agg (cb y1).toArray]) (by simp [go_sem]) (tLeaf_any y0 y1 HY.out.1 HY.out.2 _) ?_
      rintro e w3 ⟨v2, rfl, r2, hbA⟩
      have hS2 : Over w1 w3 := hS.more hbA
      refine ⟨_, rfl, hS2, ?_⟩
      clear hS
      have hS := hS2
      clear hS2
      obtain ⟨l2, HL2⟩ : ∃ zz, Hid (zz = pairB 76 y0 y1) := ⟨_, rfl⟩
      rw [← HL2.out] at r2
      obtain ⟨ad2, cp2, rfl, _, _, _⟩ := id r2
      simp only [Act.put, List.getElem_toArray, List.getElem_cons_succ, List.getElem_cons_zero, List.setIfInBounds_toArray, List.set_cons_zero, List.set_cons_succ]
      replace r1 := r1.below hbA
      clear hbA
      refine wpAnyH_enter 10 (by kernel_rfl) rfl (by rfl) (f := 10) (args := #[.slice ad1 l1.length cp1, .slice ad2 l2.length cp2]) (by simp [go_sem]) (same_b _ _ l1 l2 _ r1 r2) ?_
      rintro e w4 ⟨rfl, hbA⟩
      have hS3 : Over w1 w4 := hS.more hbA
      refine ⟨_, rfl, hS3, ?_⟩
      clear hS
      have hS := hS3
      clear hS3
      rw [show decide (l1 = l2) = bs from by rw [HBS.out, HL1.out, HL2.out, decide_eq_decide]; exact pairB_iff HX.out.1 HY.out.1]
      simp only [Act.put, List.getElem_toArray, List.getElem_cons_succ, List.getElem_cons_zero, List.setIfInBounds_toArray, List.set_cons_zero, List.set_cons_succ]
      replace r1 := r1.below hbA
      replace r2 := r2.below hbA
      clear hbA
      refine wpAnyH_take (i := 12) (v := .bool false) rfl (by kernel_rfl) (by kernel_rfl) (by kernel_rfl) (fun _ _ _ h => h) (Or.inl ⟨by rfl, fun wx _ => by simp [go_sem]⟩) hS ?_
      simp only [Act.put, List.getElem_toArray, List.getElem_cons_succ, List.getElem_cons_zero, List.setIfInBounds_toArray, List.set_cons_zero, List.set_cons_succ]
      refine wpAnyH_take (i := 13) (v := .bool false) rfl (by kernel_rfl) (by kernel_rfl) (by kernel_rfl) (fun _ _ _ h => h) (Or.inl ⟨by rfl, fun wx _ => by simp [go_sem]⟩) hS ?_
      simp only [Act.put, List.getElem_toArray, List.getElem_cons_succ, List.getElem_cons_zero, List.setIfInBounds_toArray, List.set_cons_zero, List.set_cons_succ]
      refine wpAnyH_take (i := 14) (v := (.pointer (some ⟨w.heap.size, 0, none⟩))) rfl (by kernel_rfl) (by kernel_rfl) (by kernel_rfl) (fun _ _ _ h => h) (Or.inl ⟨by rfl, fun wx _ => by simp [go_sem]⟩) hS ?_
      simp only [Act.put, List.getElem_toArray, List.getElem_cons_succ, List.getElem_cons_zero, List.setIfInBounds_toArray, List.set_cons_zero, List.set_cons_succ]
      refine wpAnyH_take (i := 15) (v := .agg (cb x0).toArray) rfl (by kernel_rfl) (by kernel_rfl) (by kernel_rfl) (fun _ _ _ h => h) (Or.inl ⟨by rfl, fun wx hx => by exact load_run 23 _ rfl (w.heap.size) 0 rfl (cb x0) _ (range_fst (b0.below hx.out b0.lt)) Tryd.underlying23 rfl (info_dig x0 HX.out.1)⟩) hS ?_
      simp only [Act.put, List.getElem_toArray, List.getElem_cons_succ, List.getElem_cons_zero, List.setIfInBounds_toArray, List.set_cons_zero, List.set_cons_succ]
      refine wpAnyH_take (i := 16) (v := (.pointer (some ⟨w.heap.size, 32, none⟩))) rfl (by kernel_rfl) (by kernel_rfl) (by kernel_rfl) (fun _ _ _ h => h) (Or.inl ⟨by rfl, fun wx _ => by simp [go_sem]⟩) hS ?_
      simp only [Act.put, List.getElem_toArray, List.getElem_cons_succ, List.getElem_cons_zero, List.setIfInBounds_toArray, List.set_cons_zero, List.set_cons_succ]
      refine wpAnyH_take (i := 17) (v := .agg (cb x1).toArray) rfl (by kernel_rfl) (by kernel_rfl) (by kernel_rfl) (fun _ _ _ h => h) (Or.inl ⟨by rfl, fun wx hx => by exact load_run 23 _ rfl (w.heap.size) 32 rfl (cb x1) _ (range_snd HX.out.1 (b0.below hx.out b0.lt)) Tryd.underlying23 rfl (info_dig x1 HX.out.2)⟩) hS ?_
      simp only [Act.put, List.getElem_toArray, List.getElem_cons_succ, List.getElem_cons_zero, List.setIfInBounds_toArray, List.set_cons_zero, List.set_cons_succ]
      refine wpAnyH_take (i := 19) (v := (.pointer (some ⟨w.heap.size + 1, 0, none⟩))) rfl (by kernel_rfl) (by kernel_rfl) (by kernel_rfl) (fun _ _ _ h => h) (Or.inl ⟨by rfl, fun wx _ => by simp [go_sem]⟩) hS ?_
      simp only [Act.put, List.getElem_toArray, List.getElem_cons_succ, List.getElem_cons_zero, List.setIfInBounds_toArray, List.set_cons_zero, List.set_cons_succ]
      refine wpAnyH_take (i := 20) (v := .agg (cb y0).toArray) rfl (by kernel_rfl) (by kernel_rfl) (by kernel_rfl) (fun _ _ _ h => h) (Or.inl ⟨by rfl, fun wx hx => by exact load_run 23 _ rfl (w.heap.size + 1) 0 rfl (cb y0) _ (range_fst (b1.below hx.out b1.lt)) Tryd.underlying23 rfl (info_dig y0 HY.out.1)⟩) hS ?_
      simp only [Act.put, List.getElem_toArray, List.getElem_cons_succ, List.getElem_cons_zero, List.setIfInBounds_toArray, List.set_cons_zero, List.set_cons_succ]
      refine wpAnyH_take (i := 21) (v := (.pointer (some ⟨w.heap.size + 1, 32, none⟩))) rfl (by kernel_rfl) (by kernel_rfl) (by kernel_rfl) (fun _ _ _ h => h) (Or.inl ⟨by rfl, fun wx _ => by simp [go_sem]⟩) hS ?_
      simp only [Act.put, List.getElem_toArray, List.getElem_cons_succ, List.getElem_cons_zero, List.setIfInBounds_toArray, List.set_cons_zero, List.set_cons_succ]
      refine wpAnyH_take (i := 22) (v := .agg (cb y1).toArray) rfl (by kernel_rfl) (by kernel_rfl) (by kernel_rfl) (fun _ _ _ h => h) (Or.inl ⟨by rfl, fun wx hx => by exact load_run 23 _ rfl (w.heap.size + 1) 32 rfl (cb y1) _ (range_snd HY.out.1 (b1.below hx.out b1.lt)) Tryd.underlying23 rfl (info_dig y1 HY.out.2)⟩) hS ?_
      simp only [Act.put, List.getElem_toArray, List.getElem_cons_succ, List.getElem_cons_zero, List.setIfInBounds_toArray, List.set_cons_zero, List.set_cons_succ]
      refine wpAnyH_take (i := 25) (v := .bool bs) rfl (by kernel_rfl) (by kernel_rfl) (by kernel_rfl) (fun _ _ _ h => h) (Or.inl ⟨by rfl, fun wx _ => by simp [go_sem]⟩) hS ?_
      simp only [Act.put, List.getElem_toArray, List.getElem_cons_succ, List.getElem_cons_zero, List.setIfInBounds_toArray, List.set_cons_zero, List.set_cons_succ]
      refine wpAnyH_enter 18 (by kernel_rfl) rfl (by rfl) (f := 13) (args := #[.agg (cb x0).toArray, .agg (cb x1).toArray]) (by simp [go_sem]) (tNode_any x0 x1 HX.out.1 HX.out.2 _) ?_
      rintro e w5 ⟨v4, rfl, r4, hbA⟩
      have hS4 : Over w1 w5 := hS.more hbA
      refine ⟨_, rfl, hS4, ?_⟩
      clear hS
      have hS := hS4
      clear hS4
      obtain ⟨l4, HL4⟩ : ∃ zz, Hid (zz = pairB 78 x0 x1) := ⟨_, rfl⟩
      rw [← HL4.out] at r4
      obtain ⟨ad4, cp4, rfl, _, _, _⟩ := id r4
      simp only [Act.put, List.getElem_toArray, List.getElem_cons_succ, List.getElem_cons_zero, List.setIfInBounds_toArray, List.set_cons_zero, List.set_cons_succ]
      replace r1 := r1.below hbA
      replace r2 := r2.below hbA
      clear hbA
      refine wpAnyH_enter 23 (by kernel_rfl) rfl (by rfl) (f := 13) (args := #[.agg (cb y0).toArray, .agg (cb y1).toArray]) (by simp [go_sem]) (tNode_any y0 y1 HY.out.1 HY.out.2 _) ?_
      rintro e w6 ⟨v5, rfl, r5, hbA⟩
      have hS5 : Over w1 w6 := hS.more hbA
      refine ⟨_, rfl, hS5, ?_⟩
      clear hS
      have hS := hS5
      clear hS5
      obtain ⟨l5, HL5⟩ : ∃ zz, Hid (zz = pairB 78 y0 y1) := ⟨_, rfl⟩
      rw [← HL5.out] at r5
      obtain ⟨ad5, cp5, rfl, _, _, _⟩ := id r5
      simp only [Act.put, List.getElem_toArray, List.getElem_cons_succ, List.getElem_cons_zero, List.setIfInBounds_toArray, List.set_cons_zero, List.set_cons_succ]
      replace r1 := r1.below hbA
      replace r2 := r2.below hbA
      replace r4 := r4.below hbA
      clear hbA
      refine wpAnyH_enter 24 (by kernel_rfl) rfl (by rfl) (f := 10) (args := #[.slice ad4 l4.length cp4, .slice ad5 l5.length cp5]) (by simp [go_sem]) (same_b _ _ l4 l5 _ r4 r5) ?_
      rintro e w7 ⟨rfl, hbA⟩
      have hS6 : Over w1 w7 := hS.more hbA
      refine ⟨_, rfl, hS6, ?_⟩
      clear hS
      have hS := hS6
      clear hS6
      rw [show decide (l4 = l5) = bs from by rw [HBS.out, HL4.out, HL5.out, decide_eq_decide]; exact pairB_iff HX.out.1 HY.out.1]
      simp only [Act.put, List.getElem_toArray, List.getElem_cons_succ, List.getElem_cons_zero, List.setIfInBounds_toArray, List.set_cons_zero, List.set_cons_succ]
      replace r1 := r1.below hbA
      replace r2 := r2.below hbA
      replace r4 := r4.below hbA
      replace r5 := r5.below hbA
      clear hbA
      refine wpAnyH_take (i := 26) (v := .bool false) rfl (by kernel_rfl) (by kernel_rfl) (by kernel_rfl) (fun _ _ _ h => h) (Or.inl ⟨by rfl, fun wx _ => by simp [go_sem]⟩) hS ?_
      simp only [Act.put, List.getElem_toArray, List.getElem_cons_succ, List.getElem_cons_zero, List.setIfInBounds_toArray, List.set_cons_zero, List.set_cons_succ]
      refine wpAnyH_take (i := 27) (v := .bool false) rfl (by kernel_rfl) (by kernel_rfl) (by kernel_rfl) (fun _ _ _ h => h) (Or.inl ⟨by rfl, fun wx _ => by simp [go_sem]⟩) hS ?_
      simp only [Act.put, List.getElem_toArray, List.getElem_cons_succ, List.getElem_cons_zero, List.setIfInBounds_toArray, List.set_cons_zero, List.set_cons_succ]
      refine wpAnyH_done (by kernel_rfl) ?_ _
      clear r1 r2 r4 r5
      have hW := hS.after HB1.out
      replace b0 := b0.below hS.out b0.lt
      replace b1 := b1.below hS.out b1.lt
      replace b2 := b2.below hS.out b2.lt
      replace b3 := b3.below hS.out b3.lt
      replace rk := rk.below hS.out
      replace rl := rl.below hS.out
      clear hS HB1
      by_cases h0 : x0 = y0
      · have heq : ∀ wx : World, (Op.equalIn 10000 23 (.agg (cb x0).toArray) (.agg (cb y0).toArray)).run Tryd.prog wx = .ok true wx := fun wx => by rw [HED.out wx, decide_eq_true h0]
        have H0 : Hid (x0 = y0) := h0
        clear h0
        go_wp2_with (first | (refine wpSeq_val (.agg (cb x0).toArray) _ (by rfl) (load_run 23 _ rfl (w.heap.size) 0 rfl (cb x0) _ (range_fst b0) Tryd.underlying23 rfl (info_dig x0 HX.out.1)) ?_) | (refine wpSeq_val (.agg (cb y0).toArray) _ (by rfl) (load_run 23 _ rfl (w.heap.size + 1) 0 rfl (cb y0) _ (range_fst b1) Tryd.underlying23 rfl (info_dig y0 HY.out.1)) ?_) | (refine wpSeq_val (.agg #[.string (strB nm), .slice ad ky.length cp, .int .u64 (sr : Int)]) _ (by rfl) (load_run 27 _ rfl (w.heap.size + 1 + 1) 0 rfl [.string (strB nm), .slice ad ky.length cp, .int .u64 (sr : Int)] _ b2.range Tryd.underlying27 rfl info_binding) ?_) | (refine wpSeq_val (.agg #[.string (strB nn), .slice ae kk.length cq, .int .u64 (tt : Int)]) _ (by rfl) (load_run 27 _ rfl (w.heap.size + 1 + 1 + 1) 0 rfl [.string (strB nn), .slice ae kk.length cq, .int .u64 (tt : Int)] _ b3.range Tryd.underlying27 rfl info_binding) ?_))
        refine (sameBinding_any nm nn ky kk _ _ sr tt _ rk rl).mono ?_
        rintro e wq ⟨rfl, hbA⟩
        rw [show decide (nm = nn ∧ sr = tt ∧ ky = kk) = ba from by rw [HBA.out, decide_eq_decide]; exact ⟨fun h => ⟨H0.out, h⟩, fun h => h.2⟩]
        replace hW := hW.trans (hbA.mono hW.size)
        replace b0 := b0.below hbA b0.lt
        replace b1 := b1.below hbA b1.lt
        replace b2 := b2.below hbA b2.lt
        replace b3 := b3.below hbA b3.lt
        replace rk := rk.below hbA
        replace rl := rl.below hbA
        clear hbA
        go_wp2_with fail
        refine wp_region_held_drew (S := Over wq.drew) (by kernel_rfl) (Over.refl _) ?_
        intro hS
        replace b0 := b0.drew
        replace b1 := b1.drew
        replace b2 := b2.drew
        replace b3 := b3.drew
        replace rk := reads_drew rk
        replace rl := reads_drew rl
        have HB1 : Hid (Below w.heap.size w wq.drew) := (hW).drew
        generalize wq.drew = wb at *
        clear hW
        refine wpAnyH_take (i := 0) (v := (.pointer (some ⟨w.heap.size, 0, none⟩))) rfl (by kernel_rfl) (by kernel_rfl) (by kernel_rfl) (fun _ _ _ h => h) (Or.inl ⟨by rfl, fun wx _ => by simp [go_sem]⟩) hS ?_
        simp only [Act.put, List.getElem_toArray, List.getElem_cons_zero, List.setIfInBounds_toArray, List.set_cons_zero, List.set_cons_succ]
        refine wpAnyH_take (i := 1) (v := .agg (cb x0).toArray) rfl (by kernel_rfl) (by kernel_rfl) (by kernel_rfl) (fun _ _ _ h => h) (Or.inl ⟨by rfl, fun wx hx => by exact load_run 23 _ rfl (w.heap.size) 0 rfl (cb x0) _ (range_fst (b0.below hx.out b0.lt)) Tryd.underlying23 rfl (info_dig x0 HX.out.1)⟩) hS ?_
        simp only [Act.put, List.getElem_toArray, List.getElem_cons_succ, List.getElem_cons_zero, List.setIfInBounds_toArray, List.set_cons_zero, List.set_cons_succ]
        refine wpAnyH_take (i := 2) (v := .agg #[.string (strB nm), .slice ad ky.length cp, .int .u64 (sr : Int)]) rfl (by kernel_rfl) (by kernel_rfl) (by kernel_rfl) (fun _ _ _ h => h) (Or.inl ⟨by rfl, fun wx hx => by exact load_run 27 _ rfl (w.heap.size + 1 + 1) 0 rfl [.string (strB nm), .slice ad ky.length cp, .int .u64 (sr : Int)] _ (Blk.range (b2.below hx.out b2.lt)) Tryd.underlying27 rfl info_binding⟩) hS ?_
        simp only [Act.put, List.getElem_toArray, List.getElem_cons_succ, List.getElem_cons_zero, List.setIfInBounds_toArray, List.set_cons_zero, List.set_cons_succ]
        refine wpAnyH_take (i := 4) (v := (.pointer (some ⟨w.heap.size + 1, 0, none⟩))) rfl (by kernel_rfl) (by kernel_rfl) (by kernel_rfl) (fun _ _ _ h => h) (Or.inl ⟨by rfl, fun wx _ => by simp [go_sem]⟩) hS ?_
        simp only [Act.put, List.getElem_toArray, List.getElem_cons_succ, List.getElem_cons_zero, List.setIfInBounds_toArray, List.set_cons_zero, List.set_cons_succ]
        refine wpAnyH_take (i := 5) (v := .agg (cb y0).toArray) rfl (by kernel_rfl) (by kernel_rfl) (by kernel_rfl) (fun _ _ _ h => h) (Or.inl ⟨by rfl, fun wx hx => by exact load_run 23 _ rfl (w.heap.size + 1) 0 rfl (cb y0) _ (range_fst (b1.below hx.out b1.lt)) Tryd.underlying23 rfl (info_dig y0 HY.out.1)⟩) hS ?_
        simp only [Act.put, List.getElem_toArray, List.getElem_cons_succ, List.getElem_cons_zero, List.setIfInBounds_toArray, List.set_cons_zero, List.set_cons_succ]
        refine wpAnyH_take (i := 6) (v := .agg #[.string (strB nn), .slice ae kk.length cq, .int .u64 (tt : Int)]) rfl (by kernel_rfl) (by kernel_rfl) (by kernel_rfl) (fun _ _ _ h => h) (Or.inl ⟨by rfl, fun wx hx => by exact load_run 27 _ rfl (w.heap.size + 1 + 1 + 1) 0 rfl [.string (strB nn), .slice ae kk.length cq, .int .u64 (tt : Int)] _ (Blk.range (b3.below hx.out b3.lt)) Tryd.underlying27 rfl info_binding⟩) hS ?_
        simp only [Act.put, List.getElem_toArray, List.getElem_cons_succ, List.getElem_cons_zero, List.setIfInBounds_toArray, List.set_cons_zero, List.set_cons_succ]
        refine wpAnyH_take (i := 9) (v := .bool ba) rfl (by kernel_rfl) (by kernel_rfl) (by kernel_rfl) (fun _ _ _ h => h) (Or.inl ⟨by rfl, fun wx _ => by simp [go_sem]⟩) hS ?_
        simp only [Act.put, List.getElem_toArray, List.getElem_cons_succ, List.getElem_cons_zero, List.setIfInBounds_toArray, List.set_cons_zero, List.set_cons_succ]
        refine wpAnyH_enter 3 (by kernel_rfl) rfl (by rfl) (f := 15) (args := #[.agg (cb x0).toArray, .agg #[.string (strB nm), .slice ad ky.length cp, .int .u64 (sr : Int)]]) (by simp [go_sem]) (tValue_any x0 nm ky _ sr _ HX.out.1 (rk.below hS) (by have := HF.out; omega)) ?_
        rintro e w8 ⟨v7, rfl, r7, hbA⟩
        have hS7 : Over wb w8 := hS.more hbA
        refine ⟨_, rfl, hS7, ?_⟩
        clear hS
        have hS := hS7
        clear hS7
        obtain ⟨l7, HL7⟩ : ∃ zz, Hid (zz = valueB x0 nm sr ky) := ⟨_, rfl⟩
        rw [← HL7.out] at r7
        obtain ⟨ad7, cp7, rfl, _, _, _⟩ := id r7
        simp only [Act.put, List.getElem_toArray, List.getElem_cons_succ, List.getElem_cons_zero, List.setIfInBounds_toArray, List.set_cons_zero, List.set_cons_succ]
        clear hbA
        refine wpAnyH_enter 7 (by kernel_rfl) rfl (by rfl) (f := 15) (args := #[.agg (cb y0).toArray, .agg #[.string (strB nn), .slice ae kk.length cq, .int .u64 (tt : Int)]]) (by simp [go_sem]) (tValue_any y0 nn kk _ tt _ HY.out.1 (rl.below hS) (by have := HF.out; omega)) ?_
        rintro e w9 ⟨v8, rfl, r8, hbA⟩
        have hS8 : Over wb w9 := hS.more hbA
        refine ⟨_, rfl, hS8, ?_⟩
        clear hS
        have hS := hS8
        clear hS8
        obtain ⟨l8, HL8⟩ : ∃ zz, Hid (zz = valueB y0 nn tt kk) := ⟨_, rfl⟩
        rw [← HL8.out] at r8
        obtain ⟨ad8, cp8, rfl, _, _, _⟩ := id r8
        simp only [Act.put, List.getElem_toArray, List.getElem_cons_succ, List.getElem_cons_zero, List.setIfInBounds_toArray, List.set_cons_zero, List.set_cons_succ]
        replace r7 := r7.below hbA
        clear hbA
        refine wpAnyH_enter 8 (by kernel_rfl) rfl (by rfl) (f := 10) (args := #[.slice ad7 l7.length cp7, .slice ad8 l8.length cp8]) (by simp [go_sem]) (same_b _ _ l7 l8 _ r7 r8) ?_
        rintro e w10 ⟨rfl, hbA⟩
        have hS9 : Over wb w10 := hS.more hbA
        refine ⟨_, rfl, hS9, ?_⟩
        clear hS
        have hS := hS9
        clear hS9
        rw [show decide (l7 = l8) = ba from by rw [HBA.out, HL7.out, HL8.out, decide_eq_decide]; exact valueB_iff HX.out.1 HY.out.1 ⟨HF.out.1, HF.out.2.2.1⟩ ⟨HF.out.2.2.2.1, HF.out.2.2.2.2.2⟩]
        simp only [Act.put, List.getElem_toArray, List.getElem_cons_succ, List.getElem_cons_zero, List.setIfInBounds_toArray, List.set_cons_zero, List.set_cons_succ]
        replace r7 := r7.below hbA
        replace r8 := r8.below hbA
        clear hbA
        refine wpAnyH_take (i := 10) (v := .bool true) rfl (by kernel_rfl) (by kernel_rfl) (by kernel_rfl) (fun _ _ _ h => h) (Or.inl ⟨by rfl, fun wx _ => by simp [go_sem]⟩) hS ?_
        simp only [Act.put, List.getElem_toArray, List.getElem_cons_succ, List.getElem_cons_zero, List.setIfInBounds_toArray, List.set_cons_zero, List.set_cons_succ]
        refine wpAnyH_take (i := 11) (v := .bool true) rfl (by kernel_rfl) (by kernel_rfl) (by kernel_rfl) (fun _ _ _ h => h) (Or.inl ⟨by rfl, fun wx _ => by simp [go_sem]⟩) hS ?_
        simp only [Act.put, List.getElem_toArray, List.getElem_cons_succ, List.getElem_cons_zero, List.setIfInBounds_toArray, List.set_cons_zero, List.set_cons_succ]
        refine wpAnyH_enter 12 (by kernel_rfl) rfl (by rfl) (f := 9) (args := #[]) (by simp [go_sem]) (tworks_any _ (HK.out.below (hS.after HB1.out) HK.out.lt)) ?_
        rintro e w11 ⟨rfl, hbA⟩
        have hS10 : Over wb w11 := hS.more hbA
        refine ⟨_, rfl, hS10, ?_⟩
        clear hS
        have hS := hS10
        clear hS10
        simp only [Act.put, List.getElem_toArray, List.getElem_cons_succ, List.getElem_cons_zero, List.setIfInBounds_toArray, List.set_cons_zero, List.set_cons_succ]
        replace r7 := r7.below hbA
        replace r8 := r8.below hbA
        clear hbA
        refine wpAnyH_take (i := 13) (v := .bool true) rfl (by kernel_rfl) (by kernel_rfl) (by kernel_rfl) (fun _ _ _ h => h) (Or.inl ⟨by rfl, fun wx _ => by simp [go_sem]⟩) hS ?_
        simp only [Act.put, List.getElem_toArray, List.getElem_cons_succ, List.getElem_cons_zero, List.setIfInBounds_toArray, List.set_cons_zero, List.set_cons_succ]
        refine wpAnyH_take (i := 14) (v := .bool true) rfl (by kernel_rfl) (by kernel_rfl) (by kernel_rfl) (fun _ _ _ h => h) (Or.inl ⟨by rfl, fun wx _ => by simp [go_sem]⟩) hS ?_
        simp only [Act.put, List.getElem_toArray, List.getElem_cons_succ, List.getElem_cons_zero, List.setIfInBounds_toArray, List.set_cons_zero, List.set_cons_succ]
        refine wpAnyH_done (by kernel_rfl) ?_ _
        have HBF : Hid (Below w.heap.size w w11) := hS.after HB1.out
        clear hS r7 r8 b0 b1 b2 b3 rk rl
        go_wp2
        go_ret
        exact ⟨rfl, HBF.out⟩
      · have heq : ∀ wx : World, (Op.equalIn 10000 23 (.agg (cb x0).toArray) (.agg (cb y0).toArray)).run Tryd.prog wx = .ok false wx := fun wx => by rw [HED.out wx, decide_eq_false h0]
        have hba : ba = false := by rw [HBA.out]; exact decide_eq_false fun h => h0 h.1
        subst hba
        clear h0
        go_wp2_with (first | (refine wpSeq_val (.agg (cb x0).toArray) _ (by rfl) (load_run 23 _ rfl (w.heap.size) 0 rfl (cb x0) _ (range_fst b0) Tryd.underlying23 rfl (info_dig x0 HX.out.1)) ?_) | (refine wpSeq_val (.agg (cb y0).toArray) _ (by rfl) (load_run 23 _ rfl (w.heap.size + 1) 0 rfl (cb y0) _ (range_fst b1) Tryd.underlying23 rfl (info_dig y0 HY.out.1)) ?_) | (refine wpSeq_val (.agg #[.string (strB nm), .slice ad ky.length cp, .int .u64 (sr : Int)]) _ (by rfl) (load_run 27 _ rfl (w.heap.size + 1 + 1) 0 rfl [.string (strB nm), .slice ad ky.length cp, .int .u64 (sr : Int)] _ b2.range Tryd.underlying27 rfl info_binding) ?_) | (refine wpSeq_val (.agg #[.string (strB nn), .slice ae kk.length cq, .int .u64 (tt : Int)]) _ (by rfl) (load_run 27 _ rfl (w.heap.size + 1 + 1 + 1) 0 rfl [.string (strB nn), .slice ae kk.length cq, .int .u64 (tt : Int)] _ b3.range Tryd.underlying27 rfl info_binding) ?_))
        refine wp_region_held_drew (S := Over w7.drew) (by kernel_rfl) (Over.refl _) ?_
        intro hS
        replace b0 := b0.drew
        replace b1 := b1.drew
        replace b2 := b2.drew
        replace b3 := b3.drew
        replace rk := reads_drew rk
        replace rl := reads_drew rl
        have HB1 : Hid (Below w.heap.size w w7.drew) := (hW).drew
        generalize w7.drew = wb at *
        clear hW
        refine wpAnyH_take (i := 0) (v := (.pointer (some ⟨w.heap.size, 0, none⟩))) rfl (by kernel_rfl) (by kernel_rfl) (by kernel_rfl) (fun _ _ _ h => h) (Or.inl ⟨by rfl, fun wx _ => by simp [go_sem]⟩) hS ?_
        simp only [Act.put, List.getElem_toArray, List.getElem_cons_zero, List.setIfInBounds_toArray, List.set_cons_zero, List.set_cons_succ]
        refine wpAnyH_take (i := 1) (v := .agg (cb x0).toArray) rfl (by kernel_rfl) (by kernel_rfl) (by kernel_rfl) (fun _ _ _ h => h) (Or.inl ⟨by rfl, fun wx hx => by exact load_run 23 _ rfl (w.heap.size) 0 rfl (cb x0) _ (range_fst (b0.below hx.out b0.lt)) Tryd.underlying23 rfl (info_dig x0 HX.out.1)⟩) hS ?_
        simp only [Act.put, List.getElem_toArray, List.getElem_cons_succ, List.getElem_cons_zero, List.setIfInBounds_toArray, List.set_cons_zero, List.set_cons_succ]
        refine wpAnyH_take (i := 2) (v := .agg #[.string (strB nm), .slice ad ky.length cp, .int .u64 (sr : Int)]) rfl (by kernel_rfl) (by kernel_rfl) (by kernel_rfl) (fun _ _ _ h => h) (Or.inl ⟨by rfl, fun wx hx => by exact load_run 27 _ rfl (w.heap.size + 1 + 1) 0 rfl [.string (strB nm), .slice ad ky.length cp, .int .u64 (sr : Int)] _ (Blk.range (b2.below hx.out b2.lt)) Tryd.underlying27 rfl info_binding⟩) hS ?_
        simp only [Act.put, List.getElem_toArray, List.getElem_cons_succ, List.getElem_cons_zero, List.setIfInBounds_toArray, List.set_cons_zero, List.set_cons_succ]
        refine wpAnyH_take (i := 4) (v := (.pointer (some ⟨w.heap.size + 1, 0, none⟩))) rfl (by kernel_rfl) (by kernel_rfl) (by kernel_rfl) (fun _ _ _ h => h) (Or.inl ⟨by rfl, fun wx _ => by simp [go_sem]⟩) hS ?_
        simp only [Act.put, List.getElem_toArray, List.getElem_cons_succ, List.getElem_cons_zero, List.setIfInBounds_toArray, List.set_cons_zero, List.set_cons_succ]
        refine wpAnyH_take (i := 5) (v := .agg (cb y0).toArray) rfl (by kernel_rfl) (by kernel_rfl) (by kernel_rfl) (fun _ _ _ h => h) (Or.inl ⟨by rfl, fun wx hx => by exact load_run 23 _ rfl (w.heap.size + 1) 0 rfl (cb y0) _ (range_fst (b1.below hx.out b1.lt)) Tryd.underlying23 rfl (info_dig y0 HY.out.1)⟩) hS ?_
        simp only [Act.put, List.getElem_toArray, List.getElem_cons_succ, List.getElem_cons_zero, List.setIfInBounds_toArray, List.set_cons_zero, List.set_cons_succ]
        refine wpAnyH_take (i := 6) (v := .agg #[.string (strB nn), .slice ae kk.length cq, .int .u64 (tt : Int)]) rfl (by kernel_rfl) (by kernel_rfl) (by kernel_rfl) (fun _ _ _ h => h) (Or.inl ⟨by rfl, fun wx hx => by exact load_run 27 _ rfl (w.heap.size + 1 + 1 + 1) 0 rfl [.string (strB nn), .slice ae kk.length cq, .int .u64 (tt : Int)] _ (Blk.range (b3.below hx.out b3.lt)) Tryd.underlying27 rfl info_binding⟩) hS ?_
        simp only [Act.put, List.getElem_toArray, List.getElem_cons_succ, List.getElem_cons_zero, List.setIfInBounds_toArray, List.set_cons_zero, List.set_cons_succ]
        refine wpAnyH_take (i := 9) (v := .bool false) rfl (by kernel_rfl) (by kernel_rfl) (by kernel_rfl) (fun _ _ _ h => h) (Or.inl ⟨by rfl, fun wx _ => by simp [go_sem]⟩) hS ?_
        simp only [Act.put, List.getElem_toArray, List.getElem_cons_succ, List.getElem_cons_zero, List.setIfInBounds_toArray, List.set_cons_zero, List.set_cons_succ]
        refine wpAnyH_enter 3 (by kernel_rfl) rfl (by rfl) (f := 15) (args := #[.agg (cb x0).toArray, .agg #[.string (strB nm), .slice ad ky.length cp, .int .u64 (sr : Int)]]) (by simp [go_sem]) (tValue_any x0 nm ky _ sr _ HX.out.1 (rk.below hS) (by have := HF.out; omega)) ?_
        rintro e w8 ⟨v7, rfl, r7, hbA⟩
        have hS7 : Over wb w8 := hS.more hbA
        refine ⟨_, rfl, hS7, ?_⟩
        clear hS
        have hS := hS7
        clear hS7
        obtain ⟨l7, HL7⟩ : ∃ zz, Hid (zz = valueB x0 nm sr ky) := ⟨_, rfl⟩
        rw [← HL7.out] at r7
        obtain ⟨ad7, cp7, rfl, _, _, _⟩ := id r7
        simp only [Act.put, List.getElem_toArray, List.getElem_cons_succ, List.getElem_cons_zero, List.setIfInBounds_toArray, List.set_cons_zero, List.set_cons_succ]
        clear hbA
        refine wpAnyH_enter 7 (by kernel_rfl) rfl (by rfl) (f := 15) (args := #[.agg (cb y0).toArray, .agg #[.string (strB nn), .slice ae kk.length cq, .int .u64 (tt : Int)]]) (by simp [go_sem]) (tValue_any y0 nn kk _ tt _ HY.out.1 (rl.below hS) (by have := HF.out; omega)) ?_
        rintro e w9 ⟨v8, rfl, r8, hbA⟩
        have hS8 : Over wb w9 := hS.more hbA
        refine ⟨_, rfl, hS8, ?_⟩
        clear hS
        have hS := hS8
        clear hS8
        obtain ⟨l8, HL8⟩ : ∃ zz, Hid (zz = valueB y0 nn tt kk) := ⟨_, rfl⟩
        rw [← HL8.out] at r8
        obtain ⟨ad8, cp8, rfl, _, _, _⟩ := id r8
        simp only [Act.put, List.getElem_toArray, List.getElem_cons_succ, List.getElem_cons_zero, List.setIfInBounds_toArray, List.set_cons_zero, List.set_cons_succ]
        replace r7 := r7.below hbA
        clear hbA
        refine wpAnyH_enter 8 (by kernel_rfl) rfl (by rfl) (f := 10) (args := #[.slice ad7 l7.length cp7, .slice ad8 l8.length cp8]) (by simp [go_sem]) (same_b _ _ l7 l8 _ r7 r8) ?_
        rintro e w10 ⟨rfl, hbA⟩
        have hS9 : Over wb w10 := hS.more hbA
        refine ⟨_, rfl, hS9, ?_⟩
        clear hS
        have hS := hS9
        clear hS9
        rw [show decide (l7 = l8) = false from by rw [HBA.out, HL7.out, HL8.out, decide_eq_decide]; exact valueB_iff HX.out.1 HY.out.1 ⟨HF.out.1, HF.out.2.2.1⟩ ⟨HF.out.2.2.2.1, HF.out.2.2.2.2.2⟩]
        simp only [Act.put, List.getElem_toArray, List.getElem_cons_succ, List.getElem_cons_zero, List.setIfInBounds_toArray, List.set_cons_zero, List.set_cons_succ]
        replace r7 := r7.below hbA
        replace r8 := r8.below hbA
        clear hbA
        refine wpAnyH_take (i := 10) (v := .bool true) rfl (by kernel_rfl) (by kernel_rfl) (by kernel_rfl) (fun _ _ _ h => h) (Or.inl ⟨by rfl, fun wx _ => by simp [go_sem]⟩) hS ?_
        simp only [Act.put, List.getElem_toArray, List.getElem_cons_succ, List.getElem_cons_zero, List.setIfInBounds_toArray, List.set_cons_zero, List.set_cons_succ]
        refine wpAnyH_take (i := 11) (v := .bool true) rfl (by kernel_rfl) (by kernel_rfl) (by kernel_rfl) (fun _ _ _ h => h) (Or.inl ⟨by rfl, fun wx _ => by simp [go_sem]⟩) hS ?_
        simp only [Act.put, List.getElem_toArray, List.getElem_cons_succ, List.getElem_cons_zero, List.setIfInBounds_toArray, List.set_cons_zero, List.set_cons_succ]
        refine wpAnyH_enter 12 (by kernel_rfl) rfl (by rfl) (f := 9) (args := #[]) (by simp [go_sem]) (tworks_any _ (HK.out.below (hS.after HB1.out) HK.out.lt)) ?_
        rintro e w11 ⟨rfl, hbA⟩
        have hS10 : Over wb w11 := hS.more hbA
        refine ⟨_, rfl, hS10, ?_⟩
        clear hS
        have hS := hS10
        clear hS10
        simp only [Act.put, List.getElem_toArray, List.getElem_cons_succ, List.getElem_cons_zero, List.setIfInBounds_toArray, List.set_cons_zero, List.set_cons_succ]
        replace r7 := r7.below hbA
        replace r8 := r8.below hbA
        clear hbA
        refine wpAnyH_take (i := 13) (v := .bool true) rfl (by kernel_rfl) (by kernel_rfl) (by kernel_rfl) (fun _ _ _ h => h) (Or.inl ⟨by rfl, fun wx _ => by simp [go_sem]⟩) hS ?_
        simp only [Act.put, List.getElem_toArray, List.getElem_cons_succ, List.getElem_cons_zero, List.setIfInBounds_toArray, List.set_cons_zero, List.set_cons_succ]
        refine wpAnyH_take (i := 14) (v := .bool true) rfl (by kernel_rfl) (by kernel_rfl) (by kernel_rfl) (fun _ _ _ h => h) (Or.inl ⟨by rfl, fun wx _ => by simp [go_sem]⟩) hS ?_
        simp only [Act.put, List.getElem_toArray, List.getElem_cons_succ, List.getElem_cons_zero, List.setIfInBounds_toArray, List.set_cons_zero, List.set_cons_succ]
        refine wpAnyH_done (by kernel_rfl) ?_ _
        have HBF : Hid (Below w.heap.size w w11) := hS.after HB1.out
        clear hS r7 r8 b0 b1 b2 b3 rk rl
        go_wp2
        go_ret
        exact ⟨rfl, HBF.out⟩
    · skip
      clear hx hy hs ht HED HEQ HBS HBA
      go_enter Tryd.func5, Tryd.ntmps5
      go_wp2_with fail
      have hB0 : Below w.heap.size w ((((w.alloc (.cells (cb x0 ++ cb x1).toArray 43)).alloc (.cells (cb y0 ++ cb y1).toArray 43)).alloc (.cells #[.string (strB nm), .slice ad ky.length cp, .int .u64 (sr : Int)] 27)).alloc (.cells #[.string (strB nn), .slice ae kk.length cq, .int .u64 (tt : Int)] 27)) := ((((below_alloc _ _).trans ((below_alloc _ _).mono (by simp <;> omega))).trans ((below_alloc _ _).mono (by simp <;> omega))).trans ((below_alloc _ _).mono (by simp <;> omega)))
      have b0 : Blk ((((w.alloc (.cells (cb x0 ++ cb x1).toArray 43)).alloc (.cells (cb y0 ++ cb y1).toArray 43)).alloc (.cells #[.string (strB nm), .slice ad ky.length cp, .int .u64 (sr : Int)] 27)).alloc (.cells #[.string (strB nn), .slice ae kk.length cq, .int .u64 (tt : Int)] 27)) (w.heap.size) (cb x0 ++ cb x1) 43 := ((((Blk.new w (cb x0 ++ cb x1) 43).alloc _).alloc _).alloc _)
      have b1 : Blk ((((w.alloc (.cells (cb x0 ++ cb x1).toArray 43)).alloc (.cells (cb y0 ++ cb y1).toArray 43)).alloc (.cells #[.string (strB nm), .slice ad ky.length cp, .int .u64 (sr : Int)] 27)).alloc (.cells #[.string (strB nn), .slice ae kk.length cq, .int .u64 (tt : Int)] 27)) (w.heap.size + 1) (cb y0 ++ cb y1) 43 := (((Blk.new_at (w := (w.alloc (.cells (cb x0 ++ cb x1).toArray 43))) (by simp) (cb y0 ++ cb y1) 43).alloc _).alloc _)
      have b2 : Blk ((((w.alloc (.cells (cb x0 ++ cb x1).toArray 43)).alloc (.cells (cb y0 ++ cb y1).toArray 43)).alloc (.cells #[.string (strB nm), .slice ad ky.length cp, .int .u64 (sr : Int)] 27)).alloc (.cells #[.string (strB nn), .slice ae kk.length cq, .int .u64 (tt : Int)] 27)) (w.heap.size + 1 + 1) [.string (strB nm), .slice ad ky.length cp, .int .u64 (sr : Int)] 27 := ((Blk.new_at (w := ((w.alloc (.cells (cb x0 ++ cb x1).toArray 43)).alloc (.cells (cb y0 ++ cb y1).toArray 43))) (by simp) [.string (strB nm), .slice ad ky.length cp, .int .u64 (sr : Int)] 27).alloc _)
      have b3 : Blk ((((w.alloc (.cells (cb x0 ++ cb x1).toArray 43)).alloc (.cells (cb y0 ++ cb y1).toArray 43)).alloc (.cells #[.string (strB nm), .slice ad ky.length cp, .int .u64 (sr : Int)] 27)).alloc (.cells #[.string (strB nn), .slice ae kk.length cq, .int .u64 (tt : Int)] 27)) (w.heap.size + 1 + 1 + 1) [.string (strB nn), .slice ae kk.length cq, .int .u64 (tt : Int)] 27 := (Blk.new_at (w := (((w.alloc (.cells (cb x0 ++ cb x1).toArray 43)).alloc (.cells (cb y0 ++ cb y1).toArray 43)).alloc (.cells #[.string (strB nm), .slice ad ky.length cp, .int .u64 (sr : Int)] 27))) (by simp) [.string (strB nn), .slice ae kk.length cq, .int .u64 (tt : Int)] 27)
      have rk := HV.out.below hB0
      have rl := HW.out.below hB0
      generalize ((((w.alloc (.cells (cb x0 ++ cb x1).toArray 43)).alloc (.cells (cb y0 ++ cb y1).toArray 43)).alloc (.cells #[.string (strB nm), .slice ad ky.length cp, .int .u64 (sr : Int)] 27)).alloc (.cells #[.string (strB nn), .slice ae kk.length cq, .int .u64 (tt : Int)] 27)) = w0 at *
      refine (few_any nm ad ky.length cp sr _).mono ?_
      rintro e wf ⟨rfl, hbA⟩
      rw [decide_eq_true hf1]
      have hW := hB0.trans (hbA.mono hB0.size)
      replace b0 := b0.below hbA b0.lt
      replace b1 := b1.below hbA b1.lt
      replace b2 := b2.below hbA b2.lt
      replace b3 := b3.below hbA b3.lt
      replace rk := rk.below hbA
      replace rl := rl.below hbA
      clear hbA hB0
      go_wp2_with (refine wpSeq_val (.agg #[.string (strB nn), .slice ae kk.length cq, .int .u64 (tt : Int)]) _ (by rfl) (load_run 27 _ rfl (w.heap.size + 1 + 1 + 1) 0 rfl [.string (strB nn), .slice ae kk.length cq, .int .u64 (tt : Int)] _ b3.range Tryd.underlying27 rfl info_binding) ?_)
      refine (few_any nn ae kk.length cq tt _).mono ?_
      rintro e wg ⟨rfl, hbA⟩
      rw [decide_eq_false hf2]
      replace hW := hW.trans (hbA.mono hW.size)
      replace b0 := b0.below hbA b0.lt
      replace b1 := b1.below hbA b1.lt
      replace b2 := b2.below hbA b2.lt
      replace b3 := b3.below hbA b3.lt
      replace rk := rk.below hbA
      replace rl := rl.below hbA
      clear hbA
      clear b0 b1 b2 b3 rk rl HV HW hf1 hf2
      have HB1 : Hid (Below w.heap.size w wg) := hW
      clear hW
      go_wp2_with (go_at_call 9; refine (tworks_any _ (HK.out.below HB1.out HK.out.lt)).mono ?_; rintro e w4 ⟨rfl, hb4⟩)
      go_ret
      exact ⟨rfl, HB1.out.trans (hb4.mono HB1.out.size)⟩
  · skip
    clear hx hy hs ht HED HEQ HBS HBA
    go_enter Tryd.func5, Tryd.ntmps5
    go_wp2_with fail
    have hB0 : Below w.heap.size w ((((w.alloc (.cells (cb x0 ++ cb x1).toArray 43)).alloc (.cells (cb y0 ++ cb y1).toArray 43)).alloc (.cells #[.string (strB nm), .slice ad ky.length cp, .int .u64 (sr : Int)] 27)).alloc (.cells #[.string (strB nn), .slice ae kk.length cq, .int .u64 (tt : Int)] 27)) := ((((below_alloc _ _).trans ((below_alloc _ _).mono (by simp <;> omega))).trans ((below_alloc _ _).mono (by simp <;> omega))).trans ((below_alloc _ _).mono (by simp <;> omega)))
    have b0 : Blk ((((w.alloc (.cells (cb x0 ++ cb x1).toArray 43)).alloc (.cells (cb y0 ++ cb y1).toArray 43)).alloc (.cells #[.string (strB nm), .slice ad ky.length cp, .int .u64 (sr : Int)] 27)).alloc (.cells #[.string (strB nn), .slice ae kk.length cq, .int .u64 (tt : Int)] 27)) (w.heap.size) (cb x0 ++ cb x1) 43 := ((((Blk.new w (cb x0 ++ cb x1) 43).alloc _).alloc _).alloc _)
    have b1 : Blk ((((w.alloc (.cells (cb x0 ++ cb x1).toArray 43)).alloc (.cells (cb y0 ++ cb y1).toArray 43)).alloc (.cells #[.string (strB nm), .slice ad ky.length cp, .int .u64 (sr : Int)] 27)).alloc (.cells #[.string (strB nn), .slice ae kk.length cq, .int .u64 (tt : Int)] 27)) (w.heap.size + 1) (cb y0 ++ cb y1) 43 := (((Blk.new_at (w := (w.alloc (.cells (cb x0 ++ cb x1).toArray 43))) (by simp) (cb y0 ++ cb y1) 43).alloc _).alloc _)
    have b2 : Blk ((((w.alloc (.cells (cb x0 ++ cb x1).toArray 43)).alloc (.cells (cb y0 ++ cb y1).toArray 43)).alloc (.cells #[.string (strB nm), .slice ad ky.length cp, .int .u64 (sr : Int)] 27)).alloc (.cells #[.string (strB nn), .slice ae kk.length cq, .int .u64 (tt : Int)] 27)) (w.heap.size + 1 + 1) [.string (strB nm), .slice ad ky.length cp, .int .u64 (sr : Int)] 27 := ((Blk.new_at (w := ((w.alloc (.cells (cb x0 ++ cb x1).toArray 43)).alloc (.cells (cb y0 ++ cb y1).toArray 43))) (by simp) [.string (strB nm), .slice ad ky.length cp, .int .u64 (sr : Int)] 27).alloc _)
    have b3 : Blk ((((w.alloc (.cells (cb x0 ++ cb x1).toArray 43)).alloc (.cells (cb y0 ++ cb y1).toArray 43)).alloc (.cells #[.string (strB nm), .slice ad ky.length cp, .int .u64 (sr : Int)] 27)).alloc (.cells #[.string (strB nn), .slice ae kk.length cq, .int .u64 (tt : Int)] 27)) (w.heap.size + 1 + 1 + 1) [.string (strB nn), .slice ae kk.length cq, .int .u64 (tt : Int)] 27 := (Blk.new_at (w := (((w.alloc (.cells (cb x0 ++ cb x1).toArray 43)).alloc (.cells (cb y0 ++ cb y1).toArray 43)).alloc (.cells #[.string (strB nm), .slice ad ky.length cp, .int .u64 (sr : Int)] 27))) (by simp) [.string (strB nn), .slice ae kk.length cq, .int .u64 (tt : Int)] 27)
    have rk := HV.out.below hB0
    have rl := HW.out.below hB0
    generalize ((((w.alloc (.cells (cb x0 ++ cb x1).toArray 43)).alloc (.cells (cb y0 ++ cb y1).toArray 43)).alloc (.cells #[.string (strB nm), .slice ad ky.length cp, .int .u64 (sr : Int)] 27)).alloc (.cells #[.string (strB nn), .slice ae kk.length cq, .int .u64 (tt : Int)] 27)) = w0 at *
    refine (few_any nm ad ky.length cp sr _).mono ?_
    rintro e wf ⟨rfl, hbA⟩
    rw [decide_eq_false hf1]
    have hW := hB0.trans (hbA.mono hB0.size)
    replace b0 := b0.below hbA b0.lt
    replace b1 := b1.below hbA b1.lt
    replace b2 := b2.below hbA b2.lt
    replace b3 := b3.below hbA b3.lt
    replace rk := rk.below hbA
    replace rl := rl.below hbA
    clear hbA hB0
    clear b0 b1 b2 b3 rk rl HV HW hf1
    have HB1 : Hid (Below w.heap.size w wf) := hW
    clear hW
    go_wp2_with (go_at_call 9; refine (tworks_any _ (HK.out.below HB1.out HK.out.lt)).mono ?_; rintro e w4 ⟨rfl, hb4⟩)
    go_ret
    exact ⟨rfl, HB1.out.trans (hb4.mono HB1.out.size)⟩
end Go.Proofs.YtaleeaocmomjlaaDoor

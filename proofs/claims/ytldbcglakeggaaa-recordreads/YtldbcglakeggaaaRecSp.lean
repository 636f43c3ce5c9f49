/- The walk of the reference's SameProof. -/
import Derived.Test.YtldbcglakeggaaaRecSm
namespace Go.Proofs.Ytldbcglakeggaaa
open Go.RowKit
theorem takeD_same {a b : List (List (BitVec 8))} {k : Nat} (h : a.take k = b.take k) (ha : k < a.length) (hb : k < b.length) (he : a.getD k [] = b.getD k []) : a.take (k + 1) = b.take (k + 1) := by
  rw [List.take_add_one, List.take_add_one, h, List.getElem?_eq_getElem ha, List.getElem?_eq_getElem hb]
  rw [List.getD_eq_getElem?_getD, List.getD_eq_getElem?_getD, List.getElem?_eq_getElem ha, List.getElem?_eq_getElem hb] at he
  simp only [Option.getD_some] at he
  rw [he]
set_option maxRecDepth 100000 in
set_option maxHeartbeats 2000000 in
theorem samePrf_any (da db : List (List (BitVec 8))) (ea eb : Int) (xa ya xb yb : List (BitVec 8)) (va vb : Value) (w : World) (ha : xa.length = 32 ∧ ya.length = 32) (hb : xb.length = 32 ∧ yb.length = 32) (hra : ReadsD w va da) (hrb : ReadsD w vb db) (hdl : da.length < 1000000000) :
    Calls Try.prog 34 #[.agg (prfV va ea xa ya).toArray, .agg (prfV vb eb xb yb).toArray] w fun e w' => e = .returned (.bool (decide (da = db ∧ ea = eb ∧ xa = xb ∧ ya = yb))) ∧ Below w.heap.size w w' := by
  have HRA : Hid (ReadsD w va da) := hra
  have HRB : Hid (ReadsD w vb db) := hrb
  have HLA : Hid (xa.length = 32 ∧ ya.length = 32) := ha
  have HLB : Hid (xb.length = 32 ∧ yb.length = 32) := hb
  have HDL : Hid (da.length < 1000000000) := hdl
  obtain ⟨⟨ada, cpa, hva, q1, q2, q3⟩, q7⟩ := hra
  obtain ⟨⟨adb, cpb, hvb, q4, q5, q6⟩, q8⟩ := hrb
  clear q1 q2 q3 q4 q5 q6 q7 q8 ha hb hdl
  obtain ⟨na, HNA⟩ : ∃ m, Hid (m = da.length) := ⟨_, rfl⟩
  obtain ⟨nb, HNB⟩ : ∃ m, Hid (m = db.length) := ⟨_, rfl⟩
  rw [← HNA.out] at hva
  rw [← HNB.out] at hvb
  subst hva hvb
  obtain ⟨o, HO⟩ : ∃ o, Hid (o = decide (da = db ∧ ea = eb ∧ xa = xb ∧ ya = yb)) := ⟨_, rfl⟩
  rw [← HO.out]
  obtain ⟨ca, HCA⟩ : ∃ c, Hid (c = prfV (.slice ada na cpa) ea xa ya) := ⟨_, rfl⟩
  obtain ⟨cb2, HCB⟩ : ∃ c, Hid (c = prfV (.slice adb nb cpb) eb xb yb) := ⟨_, rfl⟩
  rw [← HCA.out, ← HCB.out]
  obtain ⟨w0, HW0⟩ : ∃ x, Hid (x = w.alloc (.cells ca.toArray 30)) := ⟨_, rfl⟩
  obtain ⟨w1, HW1⟩ : ∃ x, Hid (x = w0.alloc (.cells cb2.toArray 30)) := ⟨_, rfl⟩
  have HZ0 : Hid (w0.heap.size = w.heap.size + 1) := by show _ = _; rw [HW0.out]; simp
  have hB : Below w.heap.size w w1 := by rw [HW1.out, HW0.out]; exact (below_alloc _ _).trans ((below_alloc _ _).mono (by simp))
  have HB : Hid (Below w.heap.size w w1) := hB
  have hBA : Blk w1 w.heap.size (prfV (.slice ada na cpa) ea xa ya) 30 := by rw [HW1.out, HW0.out, ← HCA.out]; exact (Blk.new _ _ _).alloc _
  have hBB : Blk w1 (w.heap.size + 1) (prfV (.slice adb nb cpb) eb xb yb) 30 := by rw [HW1.out, ← HCB.out]; exact Blk.new_at HZ0.out _ _
  have HDA : Hid (ReadsD w1 (.slice ada na cpa) da) := HRA.out.below HB.out
  have HDB : Hid (ReadsD w1 (.slice adb nb cpb) db) := HRB.out.below HB.out
  have c0 : w1.cell? ⟨w.heap.size, 0, none⟩ = some (.slice ada na cpa) := hBA.cell 0
  have c1 : w1.cell? ⟨w.heap.size, 1, none⟩ = some (.int .i64 ea) := hBA.cell 1
  have d0 : w1.cell? ⟨w.heap.size + 1, 0, none⟩ = some (.slice adb nb cpb) := hBB.cell 0
  have d1 : w1.cell? ⟨w.heap.size + 1, 1, none⟩ = some (.int .i64 eb) := hBB.cell 1
  obtain ⟨xs, HXS⟩ : ∃ c, Hid (c = cb xa) := ⟨_, rfl⟩
  obtain ⟨ys, HYS⟩ : ∃ c, Hid (c = cb xb) := ⟨_, rfl⟩
  obtain ⟨us, HUS⟩ : ∃ c, Hid (c = cb ya) := ⟨_, rfl⟩
  obtain ⟨zs, HZS⟩ : ∃ c, Hid (c = cb yb) := ⟨_, rfl⟩
  have HRX : Hid (w1.rangeAt w.heap.size 2 xs) := by rw [HXS.out]; exact prfV_rix hBA
  have HRY : Hid (w1.rangeAt (w.heap.size + 1) 2 ys) := by rw [HYS.out]; exact prfV_rix hBB
  have HRU : Hid (w1.rangeAt w.heap.size 34 us) := by rw [HUS.out]; exact prfV_rva hBA HLA.out.1
  have HRZ : Hid (w1.rangeAt (w.heap.size + 1) 34 zs) := by rw [HZS.out]; exact prfV_rva hBB HLB.out.1
  have HIX : Hid ((Try.prog.info? 28).map (·.size) = some xs.length) := by show _ = _; rw [HXS.out]; exact infoD xa HLA.out.1
  have HIY : Hid ((Try.prog.info? 28).map (·.size) = some ys.length) := by show _ = _; rw [HYS.out]; exact infoD xb HLB.out.1
  have HIU : Hid ((Try.prog.info? 28).map (·.size) = some us.length) := by show _ = _; rw [HUS.out]; exact infoD ya HLA.out.2
  have HIZ : Hid ((Try.prog.info? 28).map (·.size) = some zs.length) := by show _ = _; rw [HZS.out]; exact infoD yb HLB.out.2
  have hx : ∀ wx : World, (Op.equalIn 10000 28 (.agg xs.toArray) (.agg ys.toArray)).run Try.prog wx = .ok (decide (xa = xb)) wx := fun wx => by rw [HXS.out, HYS.out]; exact eq_dig xa xb HLA.out.1 HLB.out.1 wx
  have hy : ∀ wx : World, (Op.equalIn 10000 28 (.agg us.toArray) (.agg zs.toArray)).run Try.prog wx = .ok (decide (ya = yb)) wx := fun wx => by rw [HUS.out, HZS.out]; exact eq_dig ya yb HLA.out.2 HLB.out.2 wx
  clear hB hBA hBB
  by_cases h1 : na = nb
  · have e1 : ((na : Int) != (nb : Int)) = false := by simp [h1]
    by_cases h2 : ea = eb
    · have e2 : (ea != eb) = false := by simp [h2]
      by_cases h3 : xa = xb
      · rw [decide_eq_true h3] at hx
        by_cases h4 : ya = yb
        · rw [decide_eq_true h4] at hy
          have HO2 : Hid (o = decide (da = db)) := by show o = _; rw [HO.out]; simp [h2, h3, h4]
          subst h1
          clear HO h3 h4
          go_enter Try.func34, Try.ntmps34
          go_wp2_with (first
            | (with_reducible refine wpSeq_box 30 (.tmp 0) ?_ ca ?_ ?_ w0 ?_ ?_
               · rfl
               · rfl
               · rfl
               · exact HW0.out
               clear HW0)
            | (with_reducible refine wpSeq_boxAt 30 (.tmp 1) ?_ cb2 ?_ ?_ w1 ?_ HZ0.out ?_
               · rfl
               · rfl
               · rfl
               · exact HW1.out
               clear HW1)
            | (with_reducible refine wpSeq_loadD (.tmp 21) ?_ ?_ w.heap.size 2 ?_ xs HRX.out HIX.out ?_
               · rfl
               · rfl
               · rfl)
            | (with_reducible refine wpSeq_loadD (.tmp 23) ?_ ?_ (w.heap.size + 1) 2 ?_ ys HRY.out HIY.out ?_
               · rfl
               · rfl
               · rfl)
            | (with_reducible refine wpSeq_loadD (.tmp 28) ?_ ?_ w.heap.size 34 ?_ us HRU.out HIU.out ?_
               · rfl
               · rfl
               · rfl)
            | (with_reducible refine wpSeq_loadD (.tmp 30) ?_ ?_ (w.heap.size + 1) 34 ?_ zs HRZ.out HIZ.out ?_
               · rfl
               · rfl
               · rfl))
          go_loopw [5] (fun i wr => ∃ k q : Nat, k ≤ na ∧ i = .int .i64 (k : Int) ∧ da.take k = db.take k ∧ wr = w1.drewN q) (fun i _ => na - (intOf i).toNat)
          case atStart => exact ⟨0, 0, by omega, rfl, rfl, rfl⟩
          case round =>
            obtain ⟨k, q, hk, rfl, heq, hwr⟩ := hrel
            have cA : wr.cell? ⟨w.heap.size, 0, none⟩ = some (.slice ada na cpa) := by rw [hwr]; exact c0
            have cB : wr.cell? ⟨w.heap.size + 1, 0, none⟩ = some (.slice adb na cpb) := by rw [hwr]; exact d0
            have HWR : Hid (wr = w1.drewN q) := hwr
            have HEQ : Hid (da.take k = db.take k) := heq
            have hnb : na < 1000000000 := by rw [HNA.out]; exact HDL.out
            clear hwr heq
            by_cases hlt : k < na
            · have hlti : (k : Int) < (na : Int) := by omega
              obtain ⟨⟨ad1, cap1, hv1, _, _, hx1⟩, h32a⟩ := HDA.out
              rw [← HNA.out] at hv1 hx1
              simp only [Value.slice.injEq, true_and] at hv1
              obtain ⟨rfl, rfl⟩ := hv1
              obtain ⟨b1, off1, rfl, hy1⟩ := hx1 (by omega)
              obtain ⟨⟨ad2, cap2, hv2, _, _, hx2⟩, h32b⟩ := HDB.out
              rw [← HNB.out] at hv2 hx2
              simp only [Value.slice.injEq, true_and] at hv2
              obtain ⟨rfl, rfl⟩ := hv2
              obtain ⟨b2, off2, rfl, hy2⟩ := hx2 (by omega)
              obtain ⟨d, HD⟩ : ∃ d, Hid (d = da.getD k []) := ⟨_, rfl⟩
              obtain ⟨e, HE⟩ : ∃ d, Hid (d = db.getD k []) := ⟨_, rfl⟩
              have HD32 : Hid (d.length = 32) := by show _ = _; rw [HD.out]; exact getD_mem32 h32a (by rw [← HNA.out]; exact hlt)
              have HE32 : Hid (e.length = 32) := by show _ = _; rw [HE.out]; exact getD_mem32 h32b (by rw [← HNB.out]; exact hlt)
              have HR1 : Hid (wr.drew.rangeAt b1 (off1 + k * 32) (cb d)) := by have := hy1 k hlt; rw [← HD.out] at this; show World.rangeAt _ _ _ _; rw [HWR.out]; exact this
              have HR2 : Hid (wr.drew.rangeAt b2 (off2 + k * 32) (cb e)) := by have := hy2 k hlt; rw [← HE.out] at this; show World.rangeAt _ _ _ _; rw [HWR.out]; exact this
              have cA2 : wr.drew.cell? ⟨w.heap.size, 0, none⟩ = some (.slice (some ⟨b1, off1, none⟩) na cpa) := cA
              have cB2 : wr.drew.cell? ⟨w.heap.size + 1, 0, none⟩ = some (.slice (some ⟨b2, off2, none⟩) na cpb) := cB
              have HQ : Hid (∀ wx : World, (Op.equalIn 10000 28 (.agg (cb d).toArray) (.agg (cb e).toArray)).run Try.prog wx = .ok (decide (d = e)) wx) := fun wx => eq_dig d e HD32.out HE32.out wx
              clear hx1 hx2 hy1 hy2 h32a h32b
              go_wp2_with fail
              refine wp_region_held_drew (S := fun wx => wx = wr.drew) (by kernel_rfl) rfl ?_
              intro hS
              refine wpAnyH_take (i := 0) (v := .pointer (some ⟨w.heap.size, 0, none⟩)) rfl (by kernel_rfl) (by kernel_rfl) (by kernel_rfl) (fun _ _ _ h => h) (Or.inl ⟨by rfl, fun wx hxx => by subst hxx; simp [go_sem]⟩) hS ?_
              simp only [Act.put, List.getElem_toArray, List.getElem_cons_zero, List.setIfInBounds_toArray, List.set_cons_zero, List.set_cons_succ]
              refine wpAnyH_take (i := 1) (v := .slice (some ⟨b1, off1, none⟩) na cpa) rfl (by kernel_rfl) (by kernel_rfl) (by kernel_rfl) (fun _ _ _ h => h) (Or.inl ⟨by rfl, fun wx hxx => by subst hxx; simp [go_sem, cA2]⟩) hS ?_
              simp only [Act.put, List.getElem_toArray, List.getElem_cons_succ, List.getElem_cons_zero, List.setIfInBounds_toArray, List.set_cons_zero, List.set_cons_succ]
              refine wpAnyH_take (i := 2) (v := .int .i64 (k : Int)) rfl (by kernel_rfl) (by kernel_rfl) (by kernel_rfl) (fun _ _ _ h => h) (Or.inl ⟨by rfl, fun wx hxx => by subst hxx; simp [go_sem]⟩) hS ?_
              simp only [Act.put, List.getElem_toArray, List.getElem_cons_succ, List.getElem_cons_zero, List.setIfInBounds_toArray, List.set_cons_zero, List.set_cons_succ]
              refine wpAnyH_take (i := 3) (v := .pointer (some ⟨b1, off1 + k * 32, none⟩)) rfl (by kernel_rfl) (by kernel_rfl) (by kernel_rfl) (fun _ _ _ h => h) (Or.inl ⟨by rfl, fun wx hxx => by subst hxx; simp [go_sem, hlti]⟩) hS ?_
              simp only [Act.put, List.getElem_toArray, List.getElem_cons_succ, List.getElem_cons_zero, List.setIfInBounds_toArray, List.set_cons_zero, List.set_cons_succ]
              refine wpAnyH_take (i := 4) (v := .agg (cb d).toArray) rfl (by kernel_rfl) (by kernel_rfl) (by kernel_rfl) (fun _ _ _ h => h) (Or.inl ⟨by rfl, fun wx hxx => by subst hxx; exact load_run 28 _ rfl b1 (off1 + k * 32) rfl (cb d) _ HR1.out Try.underlying28 rfl (infoD d HD32.out)⟩) hS ?_
              simp only [Act.put, List.getElem_toArray, List.getElem_cons_succ, List.getElem_cons_zero, List.setIfInBounds_toArray, List.set_cons_zero, List.set_cons_succ]
              refine wpAnyH_take (i := 5) (v := .pointer (some ⟨w.heap.size + 1, 0, none⟩)) rfl (by kernel_rfl) (by kernel_rfl) (by kernel_rfl) (fun _ _ _ h => h) (Or.inl ⟨by rfl, fun wx hxx => by subst hxx; simp [go_sem]⟩) hS ?_
              simp only [Act.put, List.getElem_toArray, List.getElem_cons_succ, List.getElem_cons_zero, List.setIfInBounds_toArray, List.set_cons_zero, List.set_cons_succ]
              refine wpAnyH_take (i := 6) (v := .slice (some ⟨b2, off2, none⟩) na cpb) rfl (by kernel_rfl) (by kernel_rfl) (by kernel_rfl) (fun _ _ _ h => h) (Or.inl ⟨by rfl, fun wx hxx => by subst hxx; simp [go_sem, cB2]⟩) hS ?_
              simp only [Act.put, List.getElem_toArray, List.getElem_cons_succ, List.getElem_cons_zero, List.setIfInBounds_toArray, List.set_cons_zero, List.set_cons_succ]
              refine wpAnyH_take (i := 7) (v := .int .i64 (k : Int)) rfl (by kernel_rfl) (by kernel_rfl) (by kernel_rfl) (fun _ _ _ h => h) (Or.inl ⟨by rfl, fun wx hxx => by subst hxx; simp [go_sem]⟩) hS ?_
              simp only [Act.put, List.getElem_toArray, List.getElem_cons_succ, List.getElem_cons_zero, List.setIfInBounds_toArray, List.set_cons_zero, List.set_cons_succ]
              refine wpAnyH_take (i := 8) (v := .pointer (some ⟨b2, off2 + k * 32, none⟩)) rfl (by kernel_rfl) (by kernel_rfl) (by kernel_rfl) (fun _ _ _ h => h) (Or.inl ⟨by rfl, fun wx hxx => by subst hxx; simp [go_sem, hlti]⟩) hS ?_
              simp only [Act.put, List.getElem_toArray, List.getElem_cons_succ, List.getElem_cons_zero, List.setIfInBounds_toArray, List.set_cons_zero, List.set_cons_succ]
              refine wpAnyH_take (i := 9) (v := .agg (cb e).toArray) rfl (by kernel_rfl) (by kernel_rfl) (by kernel_rfl) (fun _ _ _ h => h) (Or.inl ⟨by rfl, fun wx hxx => by subst hxx; exact load_run 28 _ rfl b2 (off2 + k * 32) rfl (cb e) _ HR2.out Try.underlying28 rfl (infoD e HE32.out)⟩) hS ?_
              simp only [Act.put, List.getElem_toArray, List.getElem_cons_succ, List.getElem_cons_zero, List.setIfInBounds_toArray, List.set_cons_zero, List.set_cons_succ]
              refine wpAnyH_take (i := 10) (v := .bool (!decide (d = e))) rfl (by kernel_rfl) (by kernel_rfl) (by kernel_rfl) (fun _ _ _ h => h) (Or.inl ⟨by rfl, fun wx hxx => by subst hxx; simp [go_sem, HQ.out]⟩) hS ?_
              simp only [Act.put, List.getElem_toArray, List.getElem_cons_succ, List.getElem_cons_zero, List.setIfInBounds_toArray, List.set_cons_zero, List.set_cons_succ]
              refine wpAnyH_done (by kernel_rfl) ?_ _
              by_cases hde : d = e
              · rw [decide_eq_true hde]
                have HT : Hid (da.take (k + 1) = db.take (k + 1)) := takeD_same HEQ.out (by rw [← HNA.out]; exact hlt) (by rw [← HNB.out]; exact hlt) (by rw [← HD.out, ← HE.out]; exact hde)
                have HW2 : Hid (wr.drew = w1.drewN (q + 1)) := by show _ = _; rw [HWR.out]; rfl
                clear hde HR1 HR2 HQ
                go_wp2
                go_roundw
                case rel => exact ⟨k + 1, q + 1, by omega, by go_num, HT.out, HW2.out⟩
                case measure => simp [intOf]; omega
              · rw [decide_eq_false hde]
                have ho : o = false := by
                  rw [HO2.out]
                  exact decide_eq_false (fun hh => hde (by rw [HD.out, HE.out, hh]))
                subst ho
                have HF : Hid (Below w.heap.size w wr.drew) := by rw [HWR.out]; exact (below_drewN HB.out q).drew
                clear hde HR1 HR2 HQ
                go_wp2
                go_ret
                exact ⟨rfl, HF.out⟩
            · have hkn : k = na := by omega
              subst hkn
              have ho : o = true := by
                rw [HO2.out]
                have h9 := HEQ.out
                rw [List.take_of_length_le (by rw [← HNA.out]; exact Nat.le_refl _), List.take_of_length_le (by rw [← HNB.out]; exact Nat.le_refl _)] at h9
                exact decide_eq_true h9
              subst ho
              have HF : Hid (Below w.heap.size w wr) := by rw [HWR.out]; exact below_drewN HB.out q
              go_wp2
              go_ret
              exact ⟨rfl, HF.out⟩
        · rw [decide_eq_false h4] at hy
          have ho : o = false := by rw [HO.out]; first | exact decide_eq_true ⟨by assumption, by assumption, by assumption, by assumption⟩ | exact decide_eq_true ⟨by assumption, by assumption⟩ | exact decide_eq_false (fun hh => by simp_all)
          subst ho
          clear HO
          go_enter Try.func34, Try.ntmps34
          go_wp2_with (first
            | (with_reducible refine wpSeq_box 30 (.tmp 0) ?_ ca ?_ ?_ w0 ?_ ?_
               · rfl
               · rfl
               · rfl
               · exact HW0.out
               clear HW0)
            | (with_reducible refine wpSeq_boxAt 30 (.tmp 1) ?_ cb2 ?_ ?_ w1 ?_ HZ0.out ?_
               · rfl
               · rfl
               · rfl
               · exact HW1.out
               clear HW1)
            | (with_reducible refine wpSeq_loadD (.tmp 21) ?_ ?_ w.heap.size 2 ?_ xs HRX.out HIX.out ?_
               · rfl
               · rfl
               · rfl)
            | (with_reducible refine wpSeq_loadD (.tmp 23) ?_ ?_ (w.heap.size + 1) 2 ?_ ys HRY.out HIY.out ?_
               · rfl
               · rfl
               · rfl)
            | (with_reducible refine wpSeq_loadD (.tmp 28) ?_ ?_ w.heap.size 34 ?_ us HRU.out HIU.out ?_
               · rfl
               · rfl
               · rfl)
            | (with_reducible refine wpSeq_loadD (.tmp 30) ?_ ?_ (w.heap.size + 1) 34 ?_ zs HRZ.out HIZ.out ?_
               · rfl
               · rfl
               · rfl))
          go_ret
          exact ⟨by first | rfl | simp, HB.out⟩
      · rw [decide_eq_false h3] at hx
        have ho : o = false := by rw [HO.out]; first | exact decide_eq_true ⟨by assumption, by assumption, by assumption, by assumption⟩ | exact decide_eq_true ⟨by assumption, by assumption⟩ | exact decide_eq_false (fun hh => by simp_all)
        subst ho
        clear HO
        go_enter Try.func34, Try.ntmps34
        go_wp2_with (first
          | (with_reducible refine wpSeq_box 30 (.tmp 0) ?_ ca ?_ ?_ w0 ?_ ?_
             · rfl
             · rfl
             · rfl
             · exact HW0.out
             clear HW0)
          | (with_reducible refine wpSeq_boxAt 30 (.tmp 1) ?_ cb2 ?_ ?_ w1 ?_ HZ0.out ?_
             · rfl
             · rfl
             · rfl
             · exact HW1.out
             clear HW1)
          | (with_reducible refine wpSeq_loadD (.tmp 21) ?_ ?_ w.heap.size 2 ?_ xs HRX.out HIX.out ?_
             · rfl
             · rfl
             · rfl)
          | (with_reducible refine wpSeq_loadD (.tmp 23) ?_ ?_ (w.heap.size + 1) 2 ?_ ys HRY.out HIY.out ?_
             · rfl
             · rfl
             · rfl)
          | (with_reducible refine wpSeq_loadD (.tmp 28) ?_ ?_ w.heap.size 34 ?_ us HRU.out HIU.out ?_
             · rfl
             · rfl
             · rfl)
          | (with_reducible refine wpSeq_loadD (.tmp 30) ?_ ?_ (w.heap.size + 1) 34 ?_ zs HRZ.out HIZ.out ?_
             · rfl
             · rfl
             · rfl))
        go_ret
        exact ⟨by first | rfl | simp, HB.out⟩
    · have e2 : (ea != eb) = true := by simp [h2]
      have ho : o = false := by rw [HO.out]; first | exact decide_eq_true ⟨by assumption, by assumption, by assumption, by assumption⟩ | exact decide_eq_true ⟨by assumption, by assumption⟩ | exact decide_eq_false (fun hh => by simp_all)
      subst ho
      clear HO
      go_enter Try.func34, Try.ntmps34
      go_wp2_with (first
        | (with_reducible refine wpSeq_box 30 (.tmp 0) ?_ ca ?_ ?_ w0 ?_ ?_
           · rfl
           · rfl
           · rfl
           · exact HW0.out
           clear HW0)
        | (with_reducible refine wpSeq_boxAt 30 (.tmp 1) ?_ cb2 ?_ ?_ w1 ?_ HZ0.out ?_
           · rfl
           · rfl
           · rfl
           · exact HW1.out
           clear HW1)
        | (with_reducible refine wpSeq_loadD (.tmp 21) ?_ ?_ w.heap.size 2 ?_ xs HRX.out HIX.out ?_
           · rfl
           · rfl
           · rfl)
        | (with_reducible refine wpSeq_loadD (.tmp 23) ?_ ?_ (w.heap.size + 1) 2 ?_ ys HRY.out HIY.out ?_
           · rfl
           · rfl
           · rfl)
        | (with_reducible refine wpSeq_loadD (.tmp 28) ?_ ?_ w.heap.size 34 ?_ us HRU.out HIU.out ?_
           · rfl
           · rfl
           · rfl)
        | (with_reducible refine wpSeq_loadD (.tmp 30) ?_ ?_ (w.heap.size + 1) 34 ?_ zs HRZ.out HIZ.out ?_
           · rfl
           · rfl
           · rfl))
      go_ret
      exact ⟨by first | rfl | simp, HB.out⟩
  · have e1 : ((na : Int) != (nb : Int)) = true := by simp; omega
    have hdd : ¬ (da = db) := fun hh => h1 (by rw [HNA.out, HNB.out, hh])
    have ho : o = false := by rw [HO.out]; first | exact decide_eq_true ⟨by assumption, by assumption, by assumption, by assumption⟩ | exact decide_eq_true ⟨by assumption, by assumption⟩ | exact decide_eq_false (fun hh => by simp_all)
    subst ho
    clear HO
    go_enter Try.func34, Try.ntmps34
    go_wp2_with (first
      | (with_reducible refine wpSeq_box 30 (.tmp 0) ?_ ca ?_ ?_ w0 ?_ ?_
         · rfl
         · rfl
         · rfl
         · exact HW0.out
         clear HW0)
      | (with_reducible refine wpSeq_boxAt 30 (.tmp 1) ?_ cb2 ?_ ?_ w1 ?_ HZ0.out ?_
         · rfl
         · rfl
         · rfl
         · exact HW1.out
         clear HW1)
      | (with_reducible refine wpSeq_loadD (.tmp 21) ?_ ?_ w.heap.size 2 ?_ xs HRX.out HIX.out ?_
         · rfl
         · rfl
         · rfl)
      | (with_reducible refine wpSeq_loadD (.tmp 23) ?_ ?_ (w.heap.size + 1) 2 ?_ ys HRY.out HIY.out ?_
         · rfl
         · rfl
         · rfl)
      | (with_reducible refine wpSeq_loadD (.tmp 28) ?_ ?_ w.heap.size 34 ?_ us HRU.out HIU.out ?_
         · rfl
         · rfl
         · rfl)
      | (with_reducible refine wpSeq_loadD (.tmp 30) ?_ ?_ (w.heap.size + 1) 34 ?_ zs HRZ.out HIZ.out ?_
         · rfl
         · rfl
         · rfl))
    go_ret
    exact ⟨by first | rfl | simp, HB.out⟩
end Go.Proofs.Ytldbcglakeggaaa

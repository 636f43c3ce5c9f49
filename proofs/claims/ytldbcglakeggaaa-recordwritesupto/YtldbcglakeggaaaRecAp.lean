/- The walk of the statement RecordApart. -/
import Derived.Test.YtldbcglakeggaaaRecBkL
namespace Go.Proofs.Ytldbcglakeggaaa
open Go.RowKit
/-- may a request be -/
def mayQ (kd : Int) (nm ky au : List (BitVec 8)) : Bool := decide (chk nm ky = 0 ∧ (kd = 2 ∨ (kd = 1 ∧ au = zb32)))
theorem mayQ_ok {kd : Int} {nm ky au : List (BitVec 8)} (h : mayQ kd nm ky au = true) : chk nm ky = 0 ∧ ∃ k : Nat, kd = (k : Int) ∧ 1 ≤ k ∧ k ≤ 2 ∧ (k ≠ 2 → au = zb32) := by
  have h := of_decide_eq_true h
  refine ⟨h.1, ?_⟩
  rcases h.2 with h | ⟨h, h'⟩
  · exact ⟨2, by omega, by omega, by omega, fun h => absurd rfl h⟩
  · exact ⟨1, by omega, by omega, by omega, fun _ => h'⟩
theorem same_b (va vb : Value) (la lb : List (BitVec 8)) (w : World) (ha : Reads w va la) (hb : Reads w vb lb) :
    Calls Try.prog 14 #[va, vb] w fun e w' => e = .returned (.bool (decide (la = lb))) ∧ Below w.heap.size w w' := by
  refine (same_any va vb la lb w ha hb).mono ?_
  rintro e w' ⟨h, rfl⟩
  exact ⟨h, Below.refl _ _⟩
set_option maxRecDepth 100000 in
set_option maxHeartbeats 4000000 in
theorem rmay_any (kd : Int) (qn qy au : List (BitVec 8)) (qk : Value) (ha : au.length = 32) (w : World) (hk : Reads w qk qy) :
    Calls Try.prog 35 #[.agg (reqV kd qn qk au).toArray] w fun e w' => e = .returned (.bool (mayQ kd qn qy au)) ∧ Below w.heap.size w w' := by
  have HAU : Hid (au.length = 32) := ha
  have HK : Hid (Reads w qk qy) := hk
  clear ha hk
  obtain ⟨qs, HQS⟩ : ∃ qs, Hid (qs = reqV kd qn qk au) := ⟨_, rfl⟩
  obtain ⟨cq, HCQ⟩ : ∃ c, Hid (c = chk qn qy) := ⟨_, rfl⟩
  obtain ⟨mq, HMQ⟩ : ∃ m, Hid (m = mayQ kd qn qy au) := ⟨_, rfl⟩
  obtain ⟨aus, HAS⟩ : ∃ c, Hid (c = cb au) := ⟨_, rfl⟩
  obtain ⟨zs, HZS⟩ : ∃ c, Hid (c = cb zb32) := ⟨_, rfl⟩
  have HIA : Hid ((Try.prog.info? 28).map (·.size) = some aus.length) := by show _ = _; rw [HAS.out]; exact infoD au HAU.out
  have heq : ∀ wx : World, (Op.equalIn 10000 28 (.agg aus.toArray) (.agg zs.toArray)).run Try.prog wx = .ok (decide (au = zb32)) wx := fun wx => by rw [HAS.out, HZS.out]; exact eq_dig au zb32 HAU.out rfl wx
  rw [← HQS.out, ← HMQ.out]
  go_enter Try.func35, Try.ntmps35
  go_upto_region 1 with (first
    | (with_reducible refine wpSeq_box 38 (.tmp 0) ?_ qs ?_ ?_ (w.alloc (.cells qs.toArray 38)) ?_ ?_
       · rfl
       · rfl
       · rfl
       · rfl
       have n0 : Blk (w.alloc (.cells qs.toArray 38)) w.heap.size qs 38 := Blk.new w qs _
       have b0 := below_alloc w (.cells qs.toArray 38)
       obtain ⟨wa, HW0⟩ : ∃ z, Hid (z = w.alloc (.cells qs.toArray 38)) := ⟨_, rfl⟩
       obtain ⟨g1, HGG0⟩ : ∃ z, Hid (z = w.heap.size) := ⟨_, rfl⟩
       rw [← HW0.out] at n0 b0 ⊢
       rw [← HGG0.out] at n0 ⊢
       clear HW0 HGG0))
  have hq1 : wa.cell? ⟨g1, 1, none⟩ = some (.string (strB qn)) := by rw [n0.cell, HQS.out]; rfl
  have hq2 : wa.cell? ⟨g1, 2, none⟩ = some qk := by rw [n0.cell, HQS.out]; rfl
  have HB0 : Hid (Blk wa g1 qs 38) := n0
  have HBW : Hid (Below w.heap.size w wa) := b0
  clear n0 b0
  by_cases c0 : cq = 0
  · have c1 : (cq == 0) = true := by simpa using c0
    have c2 : chk qn qy = 0 := by rw [← HCQ.out]; exact c0
    by_cases k2 : kd = 2
    · have k2b : (kd == 2) = true := by simpa using k2
      have HM2 : Hid (mq = true) := by show _ = _; rw [HMQ.out, mayQ]; simp [c2, k2]
      go_wp2_with (first
          | (go_at_call 10; refine (rfcheck_b qn qy qk _ (HK.out.below HBW.out)).mono ?_; rintro e wf ⟨rfl, hbe⟩; rw [← HCQ.out]
             have HB1 : Hid (Blk wf g1 qs 38) := HB0.out.below hbe HB0.out.lt
             replace HBW : Hid (Below w.heap.size w wf) := HBW.out.trans (hbe.mono HBW.out.size)
             have hq0 : wf.cell? ⟨g1, 0, none⟩ = some (.int .i64 kd) := by rw [HB1.out.cell, HQS.out]; rfl
             have HRA : Hid (wf.rangeAt g1 3 aus) := by rw [HAS.out]; have hb := HB1.out; rw [HQS.out] at hb; exact req_ra hb
             clear hbe)
          | (with_reducible refine wpSeq_loadD (.tmp 18) ?_ ?_ g1 3 ?_ aus HRA.out HIA.out ?_
             · with_reducible rfl
             · rfl
             · rfl)
          | (with_reducible refine wpSeq_buildZ ?_ ?_ HZS.out ?_
             · with_reducible rfl
             · rfl))
      go_ret
      exact ⟨by rw [HM2.out]; rfl, HBW.out⟩
    · have k2b : (kd == 2) = false := by simpa using k2
      by_cases k1 : kd = 1
      · have k1b : (kd == 1) = true := by simpa using k1
        by_cases ha : au = zb32
        · rw [decide_eq_true ha] at heq
          have HM2 : Hid (mq = true) := by show _ = _; rw [HMQ.out, mayQ]; simp [c2, k1, ha]
          go_wp2_with (first
              | (go_at_call 10; refine (rfcheck_b qn qy qk _ (HK.out.below HBW.out)).mono ?_; rintro e wf ⟨rfl, hbe⟩; rw [← HCQ.out]
                 have HB1 : Hid (Blk wf g1 qs 38) := HB0.out.below hbe HB0.out.lt
                 replace HBW : Hid (Below w.heap.size w wf) := HBW.out.trans (hbe.mono HBW.out.size)
                 have hq0 : wf.cell? ⟨g1, 0, none⟩ = some (.int .i64 kd) := by rw [HB1.out.cell, HQS.out]; rfl
                 have HRA : Hid (wf.rangeAt g1 3 aus) := by rw [HAS.out]; have hb := HB1.out; rw [HQS.out] at hb; exact req_ra hb
                 clear hbe)
              | (with_reducible refine wpSeq_loadD (.tmp 18) ?_ ?_ g1 3 ?_ aus HRA.out HIA.out ?_
                 · with_reducible rfl
                 · rfl
                 · rfl)
              | (with_reducible refine wpSeq_buildZ ?_ ?_ HZS.out ?_
                 · with_reducible rfl
                 · rfl))
          go_ret
          exact ⟨by rw [HM2.out]; rfl, HBW.out⟩
        · rw [decide_eq_false ha] at heq
          have HM2 : Hid (mq = false) := by show _ = _; rw [HMQ.out, mayQ]; simp [k2, ha]
          go_wp2_with (first
              | (go_at_call 10; refine (rfcheck_b qn qy qk _ (HK.out.below HBW.out)).mono ?_; rintro e wf ⟨rfl, hbe⟩; rw [← HCQ.out]
                 have HB1 : Hid (Blk wf g1 qs 38) := HB0.out.below hbe HB0.out.lt
                 replace HBW : Hid (Below w.heap.size w wf) := HBW.out.trans (hbe.mono HBW.out.size)
                 have hq0 : wf.cell? ⟨g1, 0, none⟩ = some (.int .i64 kd) := by rw [HB1.out.cell, HQS.out]; rfl
                 have HRA : Hid (wf.rangeAt g1 3 aus) := by rw [HAS.out]; have hb := HB1.out; rw [HQS.out] at hb; exact req_ra hb
                 clear hbe)
              | (with_reducible refine wpSeq_loadD (.tmp 18) ?_ ?_ g1 3 ?_ aus HRA.out HIA.out ?_
                 · with_reducible rfl
                 · rfl
                 · rfl)
              | (with_reducible refine wpSeq_buildZ ?_ ?_ HZS.out ?_
                 · with_reducible rfl
                 · rfl))
          go_ret
          exact ⟨by rw [HM2.out]; rfl, HBW.out⟩
      · have k1b : (kd == 1) = false := by simpa using k1
        have HM2 : Hid (mq = false) := by show _ = _; rw [HMQ.out, mayQ]; simp [k1, k2]
        go_wp2_with (first
            | (go_at_call 10; refine (rfcheck_b qn qy qk _ (HK.out.below HBW.out)).mono ?_; rintro e wf ⟨rfl, hbe⟩; rw [← HCQ.out]
               have HB1 : Hid (Blk wf g1 qs 38) := HB0.out.below hbe HB0.out.lt
               replace HBW : Hid (Below w.heap.size w wf) := HBW.out.trans (hbe.mono HBW.out.size)
               have hq0 : wf.cell? ⟨g1, 0, none⟩ = some (.int .i64 kd) := by rw [HB1.out.cell, HQS.out]; rfl
               have HRA : Hid (wf.rangeAt g1 3 aus) := by rw [HAS.out]; have hb := HB1.out; rw [HQS.out] at hb; exact req_ra hb
               clear hbe)
            | (with_reducible refine wpSeq_loadD (.tmp 18) ?_ ?_ g1 3 ?_ aus HRA.out HIA.out ?_
               · with_reducible rfl
               · rfl
               · rfl)
            | (with_reducible refine wpSeq_buildZ ?_ ?_ HZS.out ?_
               · with_reducible rfl
               · rfl))
        go_ret
        exact ⟨by rw [HM2.out]; rfl, HBW.out⟩
  · have c1 : (cq == 0) = false := by simpa using c0
    have c2 : ¬ chk qn qy = 0 := by rw [← HCQ.out]; exact c0
    have HM2 : Hid (mq = false) := by show _ = _; rw [HMQ.out, mayQ]; simp [c2]
    go_wp2_with (first
        | (go_at_call 10; refine (rfcheck_b qn qy qk _ (HK.out.below HBW.out)).mono ?_; rintro e wf ⟨rfl, hbe⟩; rw [← HCQ.out]
           have HB1 : Hid (Blk wf g1 qs 38) := HB0.out.below hbe HB0.out.lt
           replace HBW : Hid (Below w.heap.size w wf) := HBW.out.trans (hbe.mono HBW.out.size)
           have hq0 : wf.cell? ⟨g1, 0, none⟩ = some (.int .i64 kd) := by rw [HB1.out.cell, HQS.out]; rfl
           have HRA : Hid (wf.rangeAt g1 3 aus) := by rw [HAS.out]; have hb := HB1.out; rw [HQS.out] at hb; exact req_ra hb
           clear hbe)
        | (with_reducible refine wpSeq_loadD (.tmp 18) ?_ ?_ g1 3 ?_ aus HRA.out HIA.out ?_
           · with_reducible rfl
           · rfl
           · rfl)
        | (with_reducible refine wpSeq_buildZ ?_ ?_ HZS.out ?_
           · with_reducible rfl
           · rfl))
    go_ret
    exact ⟨by rw [HM2.out]; rfl, HBW.out⟩
end Go.Proofs.Ytldbcglakeggaaa

/- The walk of the statement RecordWrites. -/
import Derived.Test.YtldbcglakeggaaaRecRfP
import Derived.Test.YtldbcglakeggaaaRecAp
namespace Go.Proofs.Ytldbcglakeggaaa
open Go.RowKit
theorem BkS.over {w : World} {g0 g1 g2 g3 : Nat} {bs qs ss ps : List Value} {vk qk sv pv : Value} {ky qy sg : List (BitVec 8)} {ds : List (List (BitVec 8))} {W W' : World} (h : BkS w g0 g1 g2 g3 bs qs ss ps vk qk sv pv ky qy sg ds W) (hb : Over W.drew W') : BkS w g0 g1 g2 g3 bs qs ss ps vk qk sv pv ky qy sg ds W' :=
  h.next ((Below.refl W.heap.size W).drew.trans hb)
set_option maxRecDepth 100000 in
set_option maxHeartbeats 8000000 in
theorem writes_law (nm ky : List (BitVec 8)) (vk : Value) (sr : Nat) (hsr : sr < 18446744073709551616) (hlb : nm.length + ky.length + 60 ≤ 140737488355328) (kd : Int) (qn qy au : List (BitVec 8)) (qk : Value) (hau : au.length = 32) (hkd : Fit kd) (hlq : qn.length + qy.length + 100 ≤ 140737488355328)
    (ep : Nat) (x y z sg : List (BitVec 8)) (sv : Value) (hsg : ep < 18446744073709551616 ∧ x.length = 32 ∧ y.length = 32 ∧ z.length = 32) (hls : sg.length + 200 ≤ 140737488355328)
    (ds : List (List (BitVec 8))) (en : Int) (ix va : List (BitVec 8)) (pv : Value) (hpr : ix.length = 32 ∧ va.length = 32) (hen : Fit en) (hlp : ds.length ≤ 1000000000) (w : World) (hk : Reads w vk ky) (hq : Reads w qk qy) (hs : Reads w sv sg) (hp : ReadsD w pv ds) :
    Calls Try.prog 4 #[.agg (bindV nm vk sr).toArray, .agg (reqV kd qn qk au).toArray, .agg (sgnV ep x y z sv).toArray, .agg (prfV pv en ix va).toArray] w fun e w' => e = .returned (.bool true) ∧ Below w.heap.size w w' := by
  have HSR : Hid (sr < 18446744073709551616 ∧ nm.length + ky.length + 60 ≤ 140737488355328) := ⟨hsr, hlb⟩
  have HAU : Hid (au.length = 32 ∧ Fit kd ∧ qn.length + qy.length + 100 ≤ 140737488355328) := ⟨hau, hkd, hlq⟩
  have HSG : Hid ((ep < 18446744073709551616 ∧ x.length = 32 ∧ y.length = 32 ∧ z.length = 32) ∧ sg.length + 200 ≤ 140737488355328) := ⟨hsg, hls⟩
  have HPR : Hid ((ix.length = 32 ∧ va.length = 32) ∧ Fit en ∧ ds.length ≤ 1000000000) := ⟨hpr, hen, hlp⟩
  have HK : Hid (Reads w vk ky) := hk
  have HQ : Hid (Reads w qk qy) := hq
  have HS : Hid (Reads w sv sg) := hs
  have HP : Hid (ReadsD w pv ds) := hp
  clear hsr hlb hau hkd hlq hsg hls hpr hen hlp hk hq hs hp
  obtain ⟨bs, HBS⟩ : ∃ bs, Hid (bs = bindV nm vk sr) := ⟨_, rfl⟩
  obtain ⟨qs, HQS⟩ : ∃ qs, Hid (qs = reqV kd qn qk au) := ⟨_, rfl⟩
  obtain ⟨ss, HSS⟩ : ∃ ss, Hid (ss = sgnV ep x y z sv) := ⟨_, rfl⟩
  obtain ⟨ps, HPS⟩ : ∃ ps, Hid (ps = prfV pv en ix va) := ⟨_, rfl⟩
  have HIB : Hid ((Try.prog.info? 25).map (·.size) = some bs.length) := by show _ = _; rw [HBS.out]; kernel_rfl
  have HIQ : Hid ((Try.prog.info? 38).map (·.size) = some qs.length) := by show _ = _; rw [HQS.out, show (reqV kd qn qk au).length = 35 from by simp [reqV, cb_len, HAU.out]]; kernel_rfl
  have HIS : Hid ((Try.prog.info? 42).map (·.size) = some ss.length) := by show _ = _; rw [HSS.out, show (sgnV ep x y z sv).length = 98 from by simp [sgnV, cb_len, HSG.out]]; kernel_rfl
  have HIP : Hid ((Try.prog.info? 30).map (·.size) = some ps.length) := by show _ = _; rw [HPS.out, prfV_len HPR.out.1.1 HPR.out.1.2]; kernel_rfl
  obtain ⟨e0, HE0⟩ : ∃ e, Hid (e = encBinding (nm, ky, sr)) := ⟨_, rfl⟩
  have HW0 : Hid (∀ W, Reads W vk ky → Calls Try.prog 15 #[.agg bs.toArray] W fun e w' => ∃ v', e = .returned v' ∧ Reads w' v' e0 ∧ Below W.heap.size W w') := fun W h => by rw [HBS.out, HE0.out]; exact rbind_any nm ky vk sr HSR.out.1 W h HSR.out.2
  have HF0 : Hid (∀ W, Reads W vk ky → Calls Try.prog 16 #[.agg bs.toArray] W fun e w' => ∃ v', e = .returned v' ∧ Reads w' v' e0 ∧ Below W.heap.size W w') := fun W h => by rw [HBS.out, HE0.out]; exact rfbind_any nm ky vk sr HSR.out.1 W h HSR.out.2
  obtain ⟨e1, HE1⟩ : ∃ e, Hid (e = encRequest (u64of kd, qn, qy, au)) := ⟨_, rfl⟩
  have HW1 : Hid (∀ W, Reads W qk qy → Calls Try.prog 17 #[.agg qs.toArray] W fun e w' => ∃ v', e = .returned v' ∧ Reads w' v' e1 ∧ Below W.heap.size W w') := fun W h => by rw [HQS.out, HE1.out]; exact rreq_any kd qn qy au qk HAU.out.2.1 HAU.out.1 W h HAU.out.2.2
  have HF1 : Hid (∀ W, Reads W qk qy → Calls Try.prog 18 #[.agg qs.toArray] W fun e w' => ∃ v', e = .returned v' ∧ Reads w' v' e1 ∧ Below W.heap.size W w') := fun W h => by rw [HQS.out, HE1.out]; exact rfreq_any kd qn qy au qk HAU.out.2.1 HAU.out.1 W h HAU.out.2.2
  obtain ⟨e2, HE2⟩ : ∃ e, Hid (e = encSigned (ep, x, y, z, sg)) := ⟨_, rfl⟩
  have HW2 : Hid (∀ W, Reads W sv sg → Calls Try.prog 19 #[.agg ss.toArray] W fun e w' => ∃ v', e = .returned v' ∧ Reads w' v' e2 ∧ Below W.heap.size W w') := fun W h => by rw [HSS.out, HE2.out]; exact rsigned_any ep x y z sg sv HSG.out.1.1 HSG.out.1.2.1 HSG.out.1.2.2.1 HSG.out.1.2.2.2 W h HSG.out.2
  have HF2 : Hid (∀ W, Reads W sv sg → Calls Try.prog 20 #[.agg ss.toArray] W fun e w' => ∃ v', e = .returned v' ∧ Reads w' v' e2 ∧ Below W.heap.size W w') := fun W h => by rw [HSS.out, HE2.out]; exact rfsigned_any ep x y z sg sv HSG.out.1.1 HSG.out.1.2.1 HSG.out.1.2.2.1 HSG.out.1.2.2.2 W h HSG.out.2
  obtain ⟨e3, HE3⟩ : ∃ e, Hid (e = encProof (ds, u64of en, ix, va)) := ⟨_, rfl⟩
  have HW3 : Hid (∀ W, ReadsD W pv ds → Calls Try.prog 21 #[.agg ps.toArray] W fun e w' => ∃ v', e = .returned v' ∧ Reads w' v' e3 ∧ Below W.heap.size W w') := fun W h => by rw [HPS.out, HE3.out]; exact rproof_any pv ds en ix va HPR.out.2.1 HPR.out.1.1 HPR.out.1.2 W h HPR.out.2.2
  have HF3 : Hid (∀ W, ReadsD W pv ds → Calls Try.prog 22 #[.agg ps.toArray] W fun e w' => ∃ v', e = .returned v' ∧ Reads w' v' e3 ∧ Below W.heap.size W w') := fun W h => by rw [HPS.out, HE3.out]; exact rfproof_any pv ds en ix va HPR.out.2.1 HPR.out.1.1 HPR.out.1.2 W h HPR.out.2.2
  rw [← HBS.out, ← HQS.out, ← HSS.out, ← HPS.out]
  go_enter Try.func4, Try.ntmps4
  go_upto_region 1 with (first
    | (with_reducible refine wpSeq_box 25 (.tmp 0) ?_ bs ?_ ?_ (w.alloc (.cells bs.toArray 25)) ?_ ?_
       · rfl
       · rfl
       · rfl
       · rfl
       have n0 : Blk (w.alloc (.cells bs.toArray 25)) w.heap.size bs 25 := Blk.new w bs _
       have b0 := below_alloc w (.cells bs.toArray 25)
       obtain ⟨wa, HW0⟩ : ∃ z, Hid (z = w.alloc (.cells bs.toArray 25)) := ⟨_, rfl⟩
       obtain ⟨g0, HGG0⟩ : ∃ z, Hid (z = w.heap.size) := ⟨_, rfl⟩
       rw [← HW0.out] at n0 b0 ⊢
       rw [← HGG0.out] at n0 ⊢
       clear HW0 HGG0)
    | (with_reducible refine wpSeq_box 38 (.tmp 1) ?_ qs ?_ ?_ (wa.alloc (.cells qs.toArray 38)) ?_ ?_
       · rfl
       · rfl
       · rfl
       · rfl
       have n1 : Blk (wa.alloc (.cells qs.toArray 38)) wa.heap.size qs 38 := Blk.new wa qs _
       have b1 := below_alloc wa (.cells qs.toArray 38)
       obtain ⟨wb, HW1⟩ : ∃ z, Hid (z = wa.alloc (.cells qs.toArray 38)) := ⟨_, rfl⟩
       obtain ⟨g1, HGG1⟩ : ∃ z, Hid (z = wa.heap.size) := ⟨_, rfl⟩
       rw [← HW1.out] at n1 b1 ⊢
       rw [← HGG1.out] at n1 ⊢
       clear HW1 HGG1)
    | (with_reducible refine wpSeq_box 42 (.tmp 2) ?_ ss ?_ ?_ (wb.alloc (.cells ss.toArray 42)) ?_ ?_
       · rfl
       · rfl
       · rfl
       · rfl
       have n2 : Blk (wb.alloc (.cells ss.toArray 42)) wb.heap.size ss 42 := Blk.new wb ss _
       have b2 := below_alloc wb (.cells ss.toArray 42)
       obtain ⟨we, HW2⟩ : ∃ z, Hid (z = wb.alloc (.cells ss.toArray 42)) := ⟨_, rfl⟩
       obtain ⟨g2, HGG2⟩ : ∃ z, Hid (z = wb.heap.size) := ⟨_, rfl⟩
       rw [← HW2.out] at n2 b2 ⊢
       rw [← HGG2.out] at n2 ⊢
       clear HW2 HGG2)
    | (with_reducible refine wpSeq_box 30 (.tmp 3) ?_ ps ?_ ?_ (we.alloc (.cells ps.toArray 30)) ?_ ?_
       · rfl
       · rfl
       · rfl
       · rfl
       have n3 : Blk (we.alloc (.cells ps.toArray 30)) we.heap.size ps 30 := Blk.new we ps _
       have b3 := below_alloc we (.cells ps.toArray 30)
       obtain ⟨wd, HW3⟩ : ∃ z, Hid (z = we.alloc (.cells ps.toArray 30)) := ⟨_, rfl⟩
       obtain ⟨g3, HGG3⟩ : ∃ z, Hid (z = we.heap.size) := ⟨_, rfl⟩
       rw [← HW3.out] at n3 b3 ⊢
       rw [← HGG3.out] at n3 ⊢
       clear HW3 HGG3))
  have HI : Hid (BkS w g0 g1 g2 g3 bs qs ss ps vk qk sv pv ky qy sg ds wd) := by
    have h0 : Blk wb g0 bs 25 := n0.below b1 n0.lt
    have h1 : Below w.heap.size w wb := b0.trans (b1.mono b0.size)
    have h2 : Below w.heap.size w we := h1.trans (b2.mono h1.size)
    have h3 : Below w.heap.size w wd := h2.trans (b3.mono h2.size)
    exact ⟨(h0.below b2 h0.lt).below b3 (h0.below b2 h0.lt).lt, (n1.below b2 n1.lt).below b3 (n1.below b2 n1.lt).lt, n2.below b3 n2.lt, n3, HK.out.below h3, HQ.out.below h3, HS.out.below h3, HP.out.below h3, h3⟩
  clear n0 n1 n2 n3 b0 b1 b2 b3 HK HQ HS HP
  refine wp_region_held_drew (S := Over wd.drew) (by kernel_rfl) (Over.refl _) ?_
  intro hS
  refine wpAnyH_take (i := 0) (v := .agg bs.toArray) rfl (by kernel_rfl) (by kernel_rfl) (by kernel_rfl) (fun _ _ _ h => h) (Or.inl ⟨by rfl, fun wx hx => by exact load_run 25 _ rfl g0 0 rfl bs _ (hx.blkO HI.out.b0.drew).range Try.underlying25 rfl HIB.out⟩) hS ?_
  simp only [Act.put, List.getElem_toArray, List.getElem_cons_zero, List.setIfInBounds_toArray, List.set_cons_zero, List.set_cons_succ]
  refine wpAnyH_take (i := 2) (v := .agg bs.toArray) rfl (by kernel_rfl) (by kernel_rfl) (by kernel_rfl) (fun _ _ _ h => h) (Or.inl ⟨by rfl, fun wx hx => by exact load_run 25 _ rfl g0 0 rfl bs _ (hx.blkO HI.out.b0.drew).range Try.underlying25 rfl HIB.out⟩) hS ?_
  simp only [Act.put, List.getElem_toArray, List.getElem_cons_succ, List.getElem_cons_zero, List.setIfInBounds_toArray, List.set_cons_zero, List.set_cons_succ]
  refine wpAnyH_enter 1 (by kernel_rfl) rfl (by rfl) (f := 15) (args := #[.agg bs.toArray]) (by simp [go_sem]) (HW0.out _ ((HI.out.over hS).k0)) ?_
  rintro e wy ⟨u1, rfl, r1, hbq⟩
  refine ⟨_, rfl, hS.more hbq, ?_⟩
  replace hS := hS.more hbq
  clear hbq
  simp only [Act.put, List.getElem_toArray, List.getElem_cons_succ, List.getElem_cons_zero, List.setIfInBounds_toArray, List.set_cons_zero, List.set_cons_succ]
  refine wpAnyH_enter 3 (by kernel_rfl) rfl (by rfl) (f := 16) (args := #[.agg bs.toArray]) (by simp [go_sem]) (HF0.out _ ((HI.out.over hS).k0)) ?_
  rintro e wy ⟨u2, rfl, r2, hbq⟩
  refine ⟨_, rfl, hS.more hbq, ?_⟩
  replace hS := hS.more hbq
  replace r1 := r1.below hbq
  clear hbq
  simp only [Act.put, List.getElem_toArray, List.getElem_cons_succ, List.getElem_cons_zero, List.setIfInBounds_toArray, List.set_cons_zero, List.set_cons_succ]
  refine wpAnyH_enter 4 (by kernel_rfl) rfl (by rfl) (f := 14) (args := #[u1, u2]) (by simp [go_sem]) (same_b _ _ _ _ _ r1 r2) ?_
  rintro e wy ⟨rfl, hbq⟩
  refine ⟨_, rfl, hS.more hbq, ?_⟩
  replace hS := hS.more hbq
  rw [decide_eq_true (rfl : e0 = e0)]
  clear r1 r2
  clear hbq
  simp only [Act.put, List.getElem_toArray, List.getElem_cons_succ, List.getElem_cons_zero, List.setIfInBounds_toArray, List.set_cons_zero, List.set_cons_succ]
  refine wpAnyH_take (i := 5) (v := .bool true) rfl (by kernel_rfl) (by kernel_rfl) (by kernel_rfl) (fun _ _ _ h => h) (Or.inl ⟨by rfl, fun wx hx => by simp [go_sem]⟩) hS ?_
  simp only [Act.put, List.getElem_toArray, List.getElem_cons_succ, List.getElem_cons_zero, List.setIfInBounds_toArray, List.set_cons_zero, List.set_cons_succ]
  refine wpAnyH_take (i := 6) (v := .agg qs.toArray) rfl (by kernel_rfl) (by kernel_rfl) (by kernel_rfl) (fun _ _ _ h => h) (Or.inl ⟨by rfl, fun wx hx => by exact load_run 38 _ rfl g1 0 rfl qs _ (hx.blkO HI.out.b1.drew).range Try.underlying38 rfl HIQ.out⟩) hS ?_
  simp only [Act.put, List.getElem_toArray, List.getElem_cons_succ, List.getElem_cons_zero, List.setIfInBounds_toArray, List.set_cons_zero, List.set_cons_succ]
  refine wpAnyH_take (i := 8) (v := .agg qs.toArray) rfl (by kernel_rfl) (by kernel_rfl) (by kernel_rfl) (fun _ _ _ h => h) (Or.inl ⟨by rfl, fun wx hx => by exact load_run 38 _ rfl g1 0 rfl qs _ (hx.blkO HI.out.b1.drew).range Try.underlying38 rfl HIQ.out⟩) hS ?_
  simp only [Act.put, List.getElem_toArray, List.getElem_cons_succ, List.getElem_cons_zero, List.setIfInBounds_toArray, List.set_cons_zero, List.set_cons_succ]
  refine wpAnyH_enter 7 (by kernel_rfl) rfl (by rfl) (f := 17) (args := #[.agg qs.toArray]) (by simp [go_sem]) (HW1.out _ ((HI.out.over hS).k1)) ?_
  rintro e wy ⟨u1, rfl, r1, hbq⟩
  refine ⟨_, rfl, hS.more hbq, ?_⟩
  replace hS := hS.more hbq
  clear hbq
  simp only [Act.put, List.getElem_toArray, List.getElem_cons_succ, List.getElem_cons_zero, List.setIfInBounds_toArray, List.set_cons_zero, List.set_cons_succ]
  refine wpAnyH_enter 9 (by kernel_rfl) rfl (by rfl) (f := 18) (args := #[.agg qs.toArray]) (by simp [go_sem]) (HF1.out _ ((HI.out.over hS).k1)) ?_
  rintro e wy ⟨u2, rfl, r2, hbq⟩
  refine ⟨_, rfl, hS.more hbq, ?_⟩
  replace hS := hS.more hbq
  replace r1 := r1.below hbq
  clear hbq
  simp only [Act.put, List.getElem_toArray, List.getElem_cons_succ, List.getElem_cons_zero, List.setIfInBounds_toArray, List.set_cons_zero, List.set_cons_succ]
  refine wpAnyH_enter 10 (by kernel_rfl) rfl (by rfl) (f := 14) (args := #[u1, u2]) (by simp [go_sem]) (same_b _ _ _ _ _ r1 r2) ?_
  rintro e wy ⟨rfl, hbq⟩
  refine ⟨_, rfl, hS.more hbq, ?_⟩
  replace hS := hS.more hbq
  rw [decide_eq_true (rfl : e1 = e1)]
  clear r1 r2
  clear hbq
  simp only [Act.put, List.getElem_toArray, List.getElem_cons_succ, List.getElem_cons_zero, List.setIfInBounds_toArray, List.set_cons_zero, List.set_cons_succ]
  refine wpAnyH_take (i := 11) (v := .bool true) rfl (by kernel_rfl) (by kernel_rfl) (by kernel_rfl) (fun _ _ _ h => h) (Or.inl ⟨by rfl, fun wx hx => by simp [go_sem]⟩) hS ?_
  simp only [Act.put, List.getElem_toArray, List.getElem_cons_succ, List.getElem_cons_zero, List.setIfInBounds_toArray, List.set_cons_zero, List.set_cons_succ]
  refine wpAnyH_take (i := 12) (v := .bool true) rfl (by kernel_rfl) (by kernel_rfl) (by kernel_rfl) (fun _ _ _ h => h) (Or.inl ⟨by rfl, fun wx hx => by simp [go_sem]⟩) hS ?_
  simp only [Act.put, List.getElem_toArray, List.getElem_cons_succ, List.getElem_cons_zero, List.setIfInBounds_toArray, List.set_cons_zero, List.set_cons_succ]
  refine wpAnyH_done (by kernel_rfl) ?_ _
  replace HI : Hid (BkS w g0 g1 g2 g3 bs qs ss ps vk qk sv pv ky qy sg ds wy) := HI.out.over hS
  clear hS
  obtain ⟨wv, HWQ⟩ : ∃ z, Hid (z = wy) := ⟨_, rfl⟩
  rw [← HWQ.out] at HI ⊢
  clear HWQ
  go_wp2_with fail
  refine wp_region_held_drew (S := Over wv.drew) (by kernel_rfl) (Over.refl _) ?_
  intro hS
  refine wpAnyH_take (i := 0) (v := .bool true) rfl (by kernel_rfl) (by kernel_rfl) (by kernel_rfl) (fun _ _ _ h => h) (Or.inl ⟨by rfl, fun wx hx => by simp [go_sem]⟩) hS ?_
  simp only [Act.put, List.getElem_toArray, List.getElem_cons_zero, List.setIfInBounds_toArray, List.set_cons_zero, List.set_cons_succ]
  refine wpAnyH_take (i := 1) (v := .bool true) rfl (by kernel_rfl) (by kernel_rfl) (by kernel_rfl) (fun _ _ _ h => h) (Or.inl ⟨by rfl, fun wx hx => by simp [go_sem]⟩) hS ?_
  simp only [Act.put, List.getElem_toArray, List.getElem_cons_succ, List.getElem_cons_zero, List.setIfInBounds_toArray, List.set_cons_zero, List.set_cons_succ]
  refine wpAnyH_take (i := 2) (v := .agg ss.toArray) rfl (by kernel_rfl) (by kernel_rfl) (by kernel_rfl) (fun _ _ _ h => h) (Or.inl ⟨by rfl, fun wx hx => by exact load_run 42 _ rfl g2 0 rfl ss _ (hx.blkO HI.out.b2.drew).range Try.underlying42 rfl HIS.out⟩) hS ?_
  simp only [Act.put, List.getElem_toArray, List.getElem_cons_succ, List.getElem_cons_zero, List.setIfInBounds_toArray, List.set_cons_zero, List.set_cons_succ]
  refine wpAnyH_take (i := 4) (v := .agg ss.toArray) rfl (by kernel_rfl) (by kernel_rfl) (by kernel_rfl) (fun _ _ _ h => h) (Or.inl ⟨by rfl, fun wx hx => by exact load_run 42 _ rfl g2 0 rfl ss _ (hx.blkO HI.out.b2.drew).range Try.underlying42 rfl HIS.out⟩) hS ?_
  simp only [Act.put, List.getElem_toArray, List.getElem_cons_succ, List.getElem_cons_zero, List.setIfInBounds_toArray, List.set_cons_zero, List.set_cons_succ]
  refine wpAnyH_enter 3 (by kernel_rfl) rfl (by rfl) (f := 19) (args := #[.agg ss.toArray]) (by simp [go_sem]) (HW2.out _ ((HI.out.over hS).k2)) ?_
  rintro e wy ⟨u1, rfl, r1, hbq⟩
  refine ⟨_, rfl, hS.more hbq, ?_⟩
  replace hS := hS.more hbq
  clear hbq
  simp only [Act.put, List.getElem_toArray, List.getElem_cons_succ, List.getElem_cons_zero, List.setIfInBounds_toArray, List.set_cons_zero, List.set_cons_succ]
  refine wpAnyH_enter 5 (by kernel_rfl) rfl (by rfl) (f := 20) (args := #[.agg ss.toArray]) (by simp [go_sem]) (HF2.out _ ((HI.out.over hS).k2)) ?_
  rintro e wy ⟨u2, rfl, r2, hbq⟩
  refine ⟨_, rfl, hS.more hbq, ?_⟩
  replace hS := hS.more hbq
  replace r1 := r1.below hbq
  clear hbq
  simp only [Act.put, List.getElem_toArray, List.getElem_cons_succ, List.getElem_cons_zero, List.setIfInBounds_toArray, List.set_cons_zero, List.set_cons_succ]
  refine wpAnyH_enter 6 (by kernel_rfl) rfl (by rfl) (f := 14) (args := #[u1, u2]) (by simp [go_sem]) (same_b _ _ _ _ _ r1 r2) ?_
  rintro e wy ⟨rfl, hbq⟩
  refine ⟨_, rfl, hS.more hbq, ?_⟩
  replace hS := hS.more hbq
  rw [decide_eq_true (rfl : e2 = e2)]
  clear r1 r2
  clear hbq
  simp only [Act.put, List.getElem_toArray, List.getElem_cons_succ, List.getElem_cons_zero, List.setIfInBounds_toArray, List.set_cons_zero, List.set_cons_succ]
  refine wpAnyH_take (i := 7) (v := .bool true) rfl (by kernel_rfl) (by kernel_rfl) (by kernel_rfl) (fun _ _ _ h => h) (Or.inl ⟨by rfl, fun wx hx => by simp [go_sem]⟩) hS ?_
  simp only [Act.put, List.getElem_toArray, List.getElem_cons_succ, List.getElem_cons_zero, List.setIfInBounds_toArray, List.set_cons_zero, List.set_cons_succ]
  refine wpAnyH_take (i := 8) (v := .bool true) rfl (by kernel_rfl) (by kernel_rfl) (by kernel_rfl) (fun _ _ _ h => h) (Or.inl ⟨by rfl, fun wx hx => by simp [go_sem]⟩) hS ?_
  simp only [Act.put, List.getElem_toArray, List.getElem_cons_succ, List.getElem_cons_zero, List.setIfInBounds_toArray, List.set_cons_zero, List.set_cons_succ]
  refine wpAnyH_take (i := 9) (v := .agg ps.toArray) rfl (by kernel_rfl) (by kernel_rfl) (by kernel_rfl) (fun _ _ _ h => h) (Or.inl ⟨by rfl, fun wx hx => by exact load_run 30 _ rfl g3 0 rfl ps _ (hx.blkO HI.out.b3.drew).range Try.underlying30 rfl HIP.out⟩) hS ?_
  simp only [Act.put, List.getElem_toArray, List.getElem_cons_succ, List.getElem_cons_zero, List.setIfInBounds_toArray, List.set_cons_zero, List.set_cons_succ]
  refine wpAnyH_take (i := 11) (v := .agg ps.toArray) rfl (by kernel_rfl) (by kernel_rfl) (by kernel_rfl) (fun _ _ _ h => h) (Or.inl ⟨by rfl, fun wx hx => by exact load_run 30 _ rfl g3 0 rfl ps _ (hx.blkO HI.out.b3.drew).range Try.underlying30 rfl HIP.out⟩) hS ?_
  simp only [Act.put, List.getElem_toArray, List.getElem_cons_succ, List.getElem_cons_zero, List.setIfInBounds_toArray, List.set_cons_zero, List.set_cons_succ]
  refine wpAnyH_enter 10 (by kernel_rfl) rfl (by rfl) (f := 21) (args := #[.agg ps.toArray]) (by simp [go_sem]) (HW3.out _ ((HI.out.over hS).k3)) ?_
  rintro e wy ⟨u1, rfl, r1, hbq⟩
  refine ⟨_, rfl, hS.more hbq, ?_⟩
  replace hS := hS.more hbq
  clear hbq
  simp only [Act.put, List.getElem_toArray, List.getElem_cons_succ, List.getElem_cons_zero, List.setIfInBounds_toArray, List.set_cons_zero, List.set_cons_succ]
  refine wpAnyH_enter 12 (by kernel_rfl) rfl (by rfl) (f := 22) (args := #[.agg ps.toArray]) (by simp [go_sem]) (HF3.out _ ((HI.out.over hS).k3)) ?_
  rintro e wy ⟨u2, rfl, r2, hbq⟩
  refine ⟨_, rfl, hS.more hbq, ?_⟩
  replace hS := hS.more hbq
  replace r1 := r1.below hbq
  clear hbq
  simp only [Act.put, List.getElem_toArray, List.getElem_cons_succ, List.getElem_cons_zero, List.setIfInBounds_toArray, List.set_cons_zero, List.set_cons_succ]
  refine wpAnyH_enter 13 (by kernel_rfl) rfl (by rfl) (f := 14) (args := #[u1, u2]) (by simp [go_sem]) (same_b _ _ _ _ _ r1 r2) ?_
  rintro e wy ⟨rfl, hbq⟩
  refine ⟨_, rfl, hS.more hbq, ?_⟩
  replace hS := hS.more hbq
  rw [decide_eq_true (rfl : e3 = e3)]
  clear r1 r2
  clear hbq
  simp only [Act.put, List.getElem_toArray, List.getElem_cons_succ, List.getElem_cons_zero, List.setIfInBounds_toArray, List.set_cons_zero, List.set_cons_succ]
  refine wpAnyH_take (i := 14) (v := .bool true) rfl (by kernel_rfl) (by kernel_rfl) (by kernel_rfl) (fun _ _ _ h => h) (Or.inl ⟨by rfl, fun wx hx => by simp [go_sem]⟩) hS ?_
  simp only [Act.put, List.getElem_toArray, List.getElem_cons_succ, List.getElem_cons_zero, List.setIfInBounds_toArray, List.set_cons_zero, List.set_cons_succ]
  refine wpAnyH_take (i := 15) (v := .bool true) rfl (by kernel_rfl) (by kernel_rfl) (by kernel_rfl) (fun _ _ _ h => h) (Or.inl ⟨by rfl, fun wx hx => by simp [go_sem]⟩) hS ?_
  simp only [Act.put, List.getElem_toArray, List.getElem_cons_succ, List.getElem_cons_zero, List.setIfInBounds_toArray, List.set_cons_zero, List.set_cons_succ]
  refine wpAnyH_enter 16 (by kernel_rfl) rfl (by rfl) (f := 13) (args := #[]) (by simp [go_sem]) (rworks_any _) ?_
  rintro e wy ⟨rfl, hbq⟩
  refine ⟨_, rfl, hS.more hbq, ?_⟩
  replace hS := hS.more hbq
  clear hbq
  simp only [Act.put, List.getElem_toArray, List.getElem_cons_succ, List.getElem_cons_zero, List.setIfInBounds_toArray, List.set_cons_zero, List.set_cons_succ]
  refine wpAnyH_take (i := 17) (v := .bool true) rfl (by kernel_rfl) (by kernel_rfl) (by kernel_rfl) (fun _ _ _ h => h) (Or.inl ⟨by rfl, fun wx hx => by simp [go_sem]⟩) hS ?_
  simp only [Act.put, List.getElem_toArray, List.getElem_cons_succ, List.getElem_cons_zero, List.setIfInBounds_toArray, List.set_cons_zero, List.set_cons_succ]
  refine wpAnyH_take (i := 18) (v := .bool true) rfl (by kernel_rfl) (by kernel_rfl) (by kernel_rfl) (fun _ _ _ h => h) (Or.inl ⟨by rfl, fun wx hx => by simp [go_sem]⟩) hS ?_
  simp only [Act.put, List.getElem_toArray, List.getElem_cons_succ, List.getElem_cons_zero, List.setIfInBounds_toArray, List.set_cons_zero, List.set_cons_succ]
  refine wpAnyH_done (by kernel_rfl) ?_ _
  have HB := (HI.out.over hS).bel
  go_wp2
  go_ret
  exact ⟨rfl, HB⟩
end Go.Proofs.Ytldbcglakeggaaa

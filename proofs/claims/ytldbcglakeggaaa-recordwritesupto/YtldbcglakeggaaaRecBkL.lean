/- The walk of the statement RecordBack. -/
import Derived.Test.YtldbcglakeggaaaRecBk
import Derived.Test.YtldbcglakeggaaaRecCk
import Derived.Deep.DeepCutAuto
namespace Go.Proofs.Ytldbcglakeggaaa
open Go.RowKit
/-- the four things in memory, and what they point to -/
structure BkS (w : World) (g0 g1 g2 g3 : Nat) (bs qs ss ps : List Value) (vk qk sv pv : Value) (ky qy sg : List (BitVec 8)) (ds : List (List (BitVec 8))) (W : World) : Prop where
  b0 : Blk W g0 bs 25
  b1 : Blk W g1 qs 38
  b2 : Blk W g2 ss 42
  b3 : Blk W g3 ps 30
  k0 : Reads W vk ky
  k1 : Reads W qk qy
  k2 : Reads W sv sg
  k3 : ReadsD W pv ds
  bel : Below w.heap.size w W
theorem BkS.next {w : World} {g0 g1 g2 g3 : Nat} {bs qs ss ps : List Value} {vk qk sv pv : Value} {ky qy sg : List (BitVec 8)} {ds : List (List (BitVec 8))} {W W' : World} (h : BkS w g0 g1 g2 g3 bs qs ss ps vk qk sv pv ky qy sg ds W) (hb : Below W.heap.size W W') : BkS w g0 g1 g2 g3 bs qs ss ps vk qk sv pv ky qy sg ds W' :=
  ⟨h.b0.below hb h.b0.lt, h.b1.below hb h.b1.lt, h.b2.below hb h.b2.lt, h.b3.below hb h.b3.lt, h.k0.below hb, h.k1.below hb, h.k2.below hb, h.k3.below hb, h.bel.trans (hb.mono h.bel.size)⟩
theorem req_ra {w : World} {g : Nat} {kd : Int} {qn au : List (BitVec 8)} {qk : Value} {t : TypeId} (h : Blk w g (reqV kd qn qk au) t) : w.rangeAt g 3 (cb au) := fun j v hj => by
  rw [h.cell, Nat.add_comm 3 j]; exact hj
theorem sgnV_at {ep : Nat} {x y z : List (BitVec 8)} {v : Value} (hx : x.length = 32) (hy : y.length = 32) (hz : z.length = 32) : (sgnV ep x y z v)[97]? = some v := by
  unfold sgnV
  rw [List.getElem?_cons_succ, List.getElem?_append_right (by rw [cb_len]; omega), List.getElem?_append_right (by rw [cb_len, cb_len]; omega), List.getElem?_append_right (by rw [cb_len, cb_len, cb_len]; omega)]
  simp [cb_len, hx, hy, hz]
set_option maxRecDepth 100000 in
set_option maxHeartbeats 8000000 in
theorem back_law (nm ky : List (BitVec 8)) (vk : Value) (sr : Nat) (hsr : sr < 18446744073709551616) (kd : Int) (qn qy au : List (BitVec 8)) (qk : Value) (hau : au.length = 32)
    (ep : Nat) (x y z sg : List (BitVec 8)) (sv : Value) (hep : ep < 18446744073709551616) (hx : x.length = 32) (hy : y.length = 32) (hz : z.length = 32)
    (ds : List (List (BitVec 8))) (en : Int) (ix va : List (BitVec 8)) (pv : Value) (hix : ix.length = 32) (hva : va.length = 32) (w : World) (hk : Reads w vk ky) (hq : Reads w qk qy) (hs : Reads w sv sg) (hp : ReadsD w pv ds) :
    Calls Try.prog 6 #[.agg (bindV nm vk sr).toArray, .agg (reqV kd qn qk au).toArray, .agg (sgnV ep x y z sv).toArray, .agg (prfV pv en ix va).toArray] w fun e w' => e = .returned (.bool true) ∧ Below w.heap.size w w' := by
  have HSR : Hid (sr < 18446744073709551616) := hsr
  have HAU : Hid (au.length = 32) := hau
  have HSG : Hid (ep < 18446744073709551616 ∧ x.length = 32 ∧ y.length = 32 ∧ z.length = 32) := ⟨hep, hx, hy, hz⟩
  have HPR : Hid (ix.length = 32 ∧ va.length = 32) := ⟨hix, hva⟩
  have HK : Hid (Reads w vk ky) := hk
  have HQ : Hid (Reads w qk qy) := hq
  have HP : Hid (ReadsD w pv ds) := hp
  have HS0 : Hid (Reads w sv sg) := hs
  obtain ⟨n, HN⟩ : ∃ n, Hid (n = sg.length) := ⟨_, rfl⟩
  obtain ⟨sad, scp, hsv, _, _, _⟩ := hs
  rw [← HN.out] at hsv
  subst hsv
  have HS : Hid (Reads w (.slice sad n scp) sg) := HS0.out
  have HZ : Hid (z.length = 32) := hz
  clear hsr hau hep hx hy hz hix hva hk hq hp HS0
  obtain ⟨bs, HBS⟩ : ∃ bs, Hid (bs = bindV nm vk sr) := ⟨_, rfl⟩
  obtain ⟨qs, HQS⟩ : ∃ qs, Hid (qs = reqV kd qn qk au) := ⟨_, rfl⟩
  obtain ⟨ss, HSS⟩ : ∃ ss, Hid (ss = sgnV ep x y z (.slice sad n scp)) := ⟨_, rfl⟩
  obtain ⟨ps, HPS⟩ : ∃ ps, Hid (ps = prfV pv en ix va) := ⟨_, rfl⟩
  have HIB : Hid ((Try.prog.info? 25).map (·.size) = some bs.length) := by show _ = _; rw [HBS.out]; kernel_rfl
  have HIQ : Hid ((Try.prog.info? 38).map (·.size) = some qs.length) := by show _ = _; rw [HQS.out, show (reqV kd qn qk au).length = 35 from by simp [reqV, cb_len, HAU.out]]; kernel_rfl
  have HIS : Hid ((Try.prog.info? 42).map (·.size) = some ss.length) := by show _ = _; rw [HSS.out, show (sgnV ep x y z (.slice sad n scp)).length = 98 from by simp [sgnV, cb_len, HSG.out]]; kernel_rfl
  have HIP : Hid ((Try.prog.info? 30).map (·.size) = some ps.length) := by show _ = _; rw [HPS.out, prfV_len HPR.out.1 HPR.out.2]; kernel_rfl
  rw [← HBS.out, ← HQS.out, ← HSS.out, ← HPS.out]
  go_enter Try.func6, Try.ntmps6
  go_upto_region 1 with (first
    | (with_reducible refine wpSeq_box 25 (.tmp 0) ?_ bs ?_ ?_ (w.alloc (.cells bs.toArray 25)) ?_ ?_
       · rfl
       · rfl
       · rfl
       · rfl
       have n0 : Blk (w.alloc (.cells bs.toArray 25)) w.heap.size bs 25 := Blk.new w bs _
       have b0 := below_alloc w (.cells bs.toArray 25)
       obtain ⟨wa, HW0⟩ : ∃ z, Hid (z = w.alloc (.cells bs.toArray 25)) := ⟨_, rfl⟩
       obtain ⟨g0, HGG0⟩ : ∃ z, Hid (z = w.heap.size) := ⟨_, rfl⟩
       rw [← HW0.out] at n0 b0 ⊢
       rw [← HGG0.out] at n0 ⊢
       clear HW0 HGG0)
    | (with_reducible refine wpSeq_box 38 (.tmp 1) ?_ qs ?_ ?_ (wa.alloc (.cells qs.toArray 38)) ?_ ?_
       · rfl
       · rfl
       · rfl
       · rfl
       have n1 : Blk (wa.alloc (.cells qs.toArray 38)) wa.heap.size qs 38 := Blk.new wa qs _
       have b1 := below_alloc wa (.cells qs.toArray 38)
       obtain ⟨wb, HW1⟩ : ∃ z, Hid (z = wa.alloc (.cells qs.toArray 38)) := ⟨_, rfl⟩
       obtain ⟨g1, HGG1⟩ : ∃ z, Hid (z = wa.heap.size) := ⟨_, rfl⟩
       rw [← HW1.out] at n1 b1 ⊢
       rw [← HGG1.out] at n1 ⊢
       clear HW1 HGG1)
    | (with_reducible refine wpSeq_box 42 (.tmp 2) ?_ ss ?_ ?_ (wb.alloc (.cells ss.toArray 42)) ?_ ?_
       · rfl
       · rfl
       · rfl
       · rfl
       have n2 : Blk (wb.alloc (.cells ss.toArray 42)) wb.heap.size ss 42 := Blk.new wb ss _
       have b2 := below_alloc wb (.cells ss.toArray 42)
       obtain ⟨we, HW2⟩ : ∃ z, Hid (z = wb.alloc (.cells ss.toArray 42)) := ⟨_, rfl⟩
       obtain ⟨g2, HGG2⟩ : ∃ z, Hid (z = wb.heap.size) := ⟨_, rfl⟩
       rw [← HW2.out] at n2 b2 ⊢
       rw [← HGG2.out] at n2 ⊢
       clear HW2 HGG2)
    | (with_reducible refine wpSeq_box 30 (.tmp 3) ?_ ps ?_ ?_ (we.alloc (.cells ps.toArray 30)) ?_ ?_
       · rfl
       · rfl
       · rfl
       · rfl
       have n3 : Blk (we.alloc (.cells ps.toArray 30)) we.heap.size ps 30 := Blk.new we ps _
       have b3 := below_alloc we (.cells ps.toArray 30)
       obtain ⟨wd, HW3⟩ : ∃ z, Hid (z = we.alloc (.cells ps.toArray 30)) := ⟨_, rfl⟩
       obtain ⟨g3, HGG3⟩ : ∃ z, Hid (z = we.heap.size) := ⟨_, rfl⟩
       rw [← HW3.out] at n3 b3 ⊢
       rw [← HGG3.out] at n3 ⊢
       clear HW3 HGG3))
  have HI : Hid (BkS w g0 g1 g2 g3 bs qs ss ps vk qk (.slice sad n scp) pv ky qy sg ds wd) := by
    have h0 : Blk wb g0 bs 25 := n0.below b1 n0.lt
    have h1 : Below w.heap.size w wb := b0.trans (b1.mono b0.size)
    have h2 : Below w.heap.size w we := h1.trans (b2.mono h1.size)
    have h3 : Below w.heap.size w wd := h2.trans (b3.mono h2.size)
    exact ⟨(h0.below b2 h0.lt).below b3 (h0.below b2 h0.lt).lt, (n1.below b2 n1.lt).below b3 (n1.below b2 n1.lt).lt, n2.below b3 n2.lt, n3, HK.out.below h3, HQ.out.below h3, HS.out.below h3, HP.out.below h3, h3⟩
  clear n0 n1 n2 n3 b0 b1 b2 b3 HK HQ HS HP
  obtain ⟨cz, HCZ⟩ : ∃ c, Hid (c = chk nm ky) := ⟨_, rfl⟩
  have hc0 : wd.cell? ⟨g0, 0, none⟩ = some (.string (strB nm)) := by rw [HI.out.b0.cell, HBS.out]; rfl
  have hc1 : wd.cell? ⟨g0, 1, none⟩ = some vk := by rw [HI.out.b0.cell, HBS.out]; rfl
  go_upto_if 22 with (go_at_call 10; refine (rfcheck_b nm ky vk _ HI.out.k0).mono ?_; rintro e wf ⟨rfl, hbe⟩; rw [← HCZ.out])
  replace HI : Hid (BkS w g0 g1 g2 g3 bs qs ss ps vk qk (.slice sad n scp) pv ky qy sg ds wf) := HI.out.next hbe
  clear hc0 hc1 hbe
  go_cut [10] from 9 to 36 (fun _ W => BkS w g0 g1 g2 g3 bs qs ss ps vk qk (.slice sad n scp) pv ky qy sg ds W)
  case first =>
    by_cases hz0 : cz = 0
    · have HCH : Hid (chk nm ky = 0) := by show _ = _; rw [← HCZ.out, hz0]
      subst hz0
      have HCW : Hid (∀ W, Reads W vk ky → Calls Try.prog 15 #[.agg bs.toArray] W fun e w' => ∃ v', e = .returned v' ∧ Reads w' v' (encBinding (nm, ky, sr)) ∧ Below W.heap.size W w') := fun W h => by rw [HBS.out]; exact wkBinding HCH.out HSR.out h
      have HCR : Hid (∀ W v, Reads W v (encBinding (nm, ky, sr)) → Calls Try.prog 23 #[v] W fun e w' => ∃ cs, e = .returned (.tuple #[.agg (cs : List Value).toArray, .int .i64 0]) ∧ bindK.G w' W.heap.size (nm, ky, sr) cs ∧ Below W.heap.size W w') := fun W v h => rkBinding HCH.out HSR.out h
      have HCS : Hid (∀ W b cs, bindK.G W b (nm, ky, sr) cs → Reads W vk ky → Calls Try.prog 25 #[.agg (cs : List Value).toArray, .agg bs.toArray] W fun e w' => e = .returned (.bool true) ∧ Below W.heap.size W w') := fun W b cs hG h => by rw [HBS.out]; exact smBinding hG h
      go_wp2_with (first
        | (with_reducible refine wpSeq_loadK 25 (.tmp 4) ?_ ?_ g0 ?_ bs _ HI.out.b0 Try.underlying25 ?_ HIB.out ?_
           · with_reducible rfl
           · rfl
           · rfl
           · rfl)
        | (go_at_call 15; refine (HCW.out _ HI.out.k0).mono ?_; rintro e w1 ⟨v1, rfl, hr1, hb1⟩
           replace HI : Hid (BkS w g0 g1 g2 g3 bs qs ss ps vk qk (.slice sad n scp) pv ky qy sg ds w1) := HI.out.next hb1
           have HV : Hid (Reads w1 v1 (encBinding (nm, ky, sr))) := hr1
           clear hr1 hb1)
        | (go_at_call 23; refine (HCR.out _ _ HV.out).mono ?_; rintro e w2 ⟨cs, rfl, hG, hb1⟩
           have HIC : Hid ((Try.prog.info? 25).map (·.size) = some cs.length) := by have := bindK_ok.size hG; rw [List.size_toArray] at this; exact this
           have H1C : Hid (cs.toArray.all (·.oneCell') = true) := all_oneCell_toArray (bindK_ok.one hG)
           have HLN : Hid (cs.length = bindK.z.length) := bindK_ok.len hG
           obtain ⟨gb, HGB⟩ : ∃ q, Hid (q = w1.heap.size) := ⟨_, rfl⟩
           rw [← HGB.out] at hG
           have HGG : Hid (bindK.G w2 gb (nm, ky, sr) cs) := hG
           replace HI : Hid (BkS w g0 g1 g2 g3 bs qs ss ps vk qk (.slice sad n scp) pv ky qy sg ds w2) := HI.out.next hb1
           clear hG hb1 HV HGB)
        | (with_reducible refine wpSeq_allocK allocBinding ?_ ?_ ?_
           · with_reducible rfl
           · rfl
           skip)
        | (with_reducible refine wpList_store_mid ?_ 25 (.tmp 9) (.tmp 27) ?_ w2.heap.size 0 cs.toArray ?_ ?_ ((Blk.new w2 bindK.z 25).there 0 _ (by rw [List.size_toArray, HLN.out]; omega)) (by rw [List.size_toArray]; exact HIC.out) H1C.out ?_
           · rfl
           · rfl
           · rfl
           · rfl
           change wpList _ _ _ _ _ ((w2.alloc (.cells bindK.z.toArray 25)).setCells w2.heap.size 0 cs)
           have HGA : Hid (Blk ((w2.alloc (.cells bindK.z.toArray 25)).setCells w2.heap.size 0 cs) w2.heap.size cs 25) := (Blk.new w2 bindK.z 25).whole cs HLN.out
           have HBX : Hid (Below w2.heap.size w2 ((w2.alloc (.cells bindK.z.toArray 25)).setCells w2.heap.size 0 cs)) := Below.setCells _ (Nat.le_refl _) _ _ _ (below_alloc _ _)
           have HG2 : Hid (bindK.G ((w2.alloc (.cells bindK.z.toArray 25)).setCells w2.heap.size 0 cs) gb (nm, ky, sr) cs) := bindK_ok.below HGG.out HBX.out
           replace HI : Hid (BkS w g0 g1 g2 g3 bs qs ss ps vk qk (.slice sad n scp) pv ky qy sg ds ((w2.alloc (.cells bindK.z.toArray 25)).setCells w2.heap.size 0 cs)) := HI.out.next HBX.out
           clear HBX HGG
           generalize (w2.alloc (.cells bindK.z.toArray 25)).setCells w2.heap.size 0 cs = w3 at *)
        | (with_reducible refine wpSeq_loadK 25 (.tmp 9) ?_ ?_ w2.heap.size ?_ cs _ HGA.out Try.underlying25 ?_ HIC.out ?_
           · with_reducible rfl
           · rfl
           · rfl
           · rfl)
        | (go_at_call 25; refine (HCS.out _ _ _ HG2.out HI.out.k0).mono ?_; rintro e w4 ⟨rfl, hb1⟩
           replace HI : Hid (BkS w g0 g1 g2 g3 bs qs ss ps vk qk (.slice sad n scp) pv ky qy sg ds w4) := HI.out.next hb1
           clear hb1))
      go_meet
      case rel => exact HI.out
    · have hz1 : (cz == 0) = false := by simpa using hz0
      go_wp2
      go_meet
      case rel => exact HI.out
  case rest =>
    clear HI
    have HI : Hid (BkS w g0 g1 g2 g3 bs qs ss ps vk qk (.slice sad n scp) pv ky qy sg ds wc) := hcut
    clear hcut HCZ HBS HIB
    obtain ⟨cq, HCQ⟩ : ∃ c, Hid (c = chk qn qy) := ⟨_, rfl⟩
    obtain ⟨mq, HMQ⟩ : ∃ m, Hid (m = decide (cq = 0 ∧ (kd = 2 ∨ (kd = 1 ∧ au = zb32)))) := ⟨_, rfl⟩
    obtain ⟨aus, HAS⟩ : ∃ c, Hid (c = cb au) := ⟨_, rfl⟩
    obtain ⟨zs, HZS⟩ : ∃ c, Hid (c = cb zb32) := ⟨_, rfl⟩
    have HIA : Hid ((Try.prog.info? 28).map (·.size) = some aus.length) := by show _ = _; rw [HAS.out]; exact infoD au HAU.out
    have heq : ∀ wx : World, (Op.equalIn 10000 28 (.agg aus.toArray) (.agg zs.toArray)).run Try.prog wx = .ok (decide (au = zb32)) wx := fun wx => by rw [HAS.out, HZS.out]; exact eq_dig au zb32 HAU.out rfl wx
    have hq1 : wc.cell? ⟨g1, 1, none⟩ = some (.string (strB qn)) := by rw [HI.out.b1.cell, HQS.out]; rfl
    have hq2 : wc.cell? ⟨g1, 2, none⟩ = some qk := by rw [HI.out.b1.cell, HQS.out]; rfl
    go_upto_region 5 with fail
    go_cut [58] from 37 to 58 (fun b W => b = .bool mq ∧ BkS w g0 g1 g2 g3 bs qs ss ps vk qk (.slice sad n scp) pv ky qy sg ds W)
    case first =>
      by_cases c0 : cq = 0
      · have c1 : (cq == 0) = true := by simpa using c0
        by_cases k2 : kd = 2
        · have k2b : (kd == 2) = true := by simpa using k2
          have HM2 : Hid (mq = true) := by show _ = _; rw [HMQ.out]; simp [c0, k2]
          go_wp2_with (first
            | (go_at_call 10; refine (rfcheck_b qn qy qk _ HI.out.k1).mono ?_; rintro e wf ⟨rfl, hbe⟩; rw [← HCQ.out]
               replace HI : Hid (BkS w g0 g1 g2 g3 bs qs ss ps vk qk (.slice sad n scp) pv ky qy sg ds wf) := HI.out.next hbe
               have hq0 : wf.cell? ⟨g1, 0, none⟩ = some (.int .i64 kd) := by rw [HI.out.b1.cell, HQS.out]; rfl
               have HRA : Hid (wf.rangeAt g1 3 aus) := by rw [HAS.out]; have hb := HI.out.b1; rw [HQS.out] at hb; exact req_ra hb
               clear hbe)
            | (with_reducible refine wpSeq_loadD (.tmp 52) ?_ ?_ g1 3 ?_ aus HRA.out HIA.out ?_
               · with_reducible rfl
               · rfl
               · rfl)
            | (with_reducible refine wpSeq_buildZ ?_ ?_ HZS.out ?_
               · with_reducible rfl
               · rfl))
          go_meet
          case rel => exact ⟨by rw [HM2.out], HI.out⟩
        · have k2b : (kd == 2) = false := by simpa using k2
          by_cases k1 : kd = 1
          · have k1b : (kd == 1) = true := by simpa using k1
            by_cases ha : au = zb32
            · rw [decide_eq_true ha] at heq
              have HM2 : Hid (mq = true) := by show _ = _; rw [HMQ.out]; simp [c0, k1, ha]
              go_wp2_with (first
                | (go_at_call 10; refine (rfcheck_b qn qy qk _ HI.out.k1).mono ?_; rintro e wf ⟨rfl, hbe⟩; rw [← HCQ.out]
                   replace HI : Hid (BkS w g0 g1 g2 g3 bs qs ss ps vk qk (.slice sad n scp) pv ky qy sg ds wf) := HI.out.next hbe
                   have hq0 : wf.cell? ⟨g1, 0, none⟩ = some (.int .i64 kd) := by rw [HI.out.b1.cell, HQS.out]; rfl
                   have HRA : Hid (wf.rangeAt g1 3 aus) := by rw [HAS.out]; have hb := HI.out.b1; rw [HQS.out] at hb; exact req_ra hb
                   clear hbe)
                | (with_reducible refine wpSeq_loadD (.tmp 52) ?_ ?_ g1 3 ?_ aus HRA.out HIA.out ?_
                   · with_reducible rfl
                   · rfl
                   · rfl)
                | (with_reducible refine wpSeq_buildZ ?_ ?_ HZS.out ?_
                   · with_reducible rfl
                   · rfl))
              go_meet
              case rel => exact ⟨by rw [HM2.out], HI.out⟩
            · rw [decide_eq_false ha] at heq
              have HM2 : Hid (mq = false) := by show _ = _; rw [HMQ.out]; simp [k2, ha]
              go_wp2_with (first
                | (go_at_call 10; refine (rfcheck_b qn qy qk _ HI.out.k1).mono ?_; rintro e wf ⟨rfl, hbe⟩; rw [← HCQ.out]
                   replace HI : Hid (BkS w g0 g1 g2 g3 bs qs ss ps vk qk (.slice sad n scp) pv ky qy sg ds wf) := HI.out.next hbe
                   have hq0 : wf.cell? ⟨g1, 0, none⟩ = some (.int .i64 kd) := by rw [HI.out.b1.cell, HQS.out]; rfl
                   have HRA : Hid (wf.rangeAt g1 3 aus) := by rw [HAS.out]; have hb := HI.out.b1; rw [HQS.out] at hb; exact req_ra hb
                   clear hbe)
                | (with_reducible refine wpSeq_loadD (.tmp 52) ?_ ?_ g1 3 ?_ aus HRA.out HIA.out ?_
                   · with_reducible rfl
                   · rfl
                   · rfl)
                | (with_reducible refine wpSeq_buildZ ?_ ?_ HZS.out ?_
                   · with_reducible rfl
                   · rfl))
              go_meet
              case rel => exact ⟨by rw [HM2.out], HI.out⟩
          · have k1b : (kd == 1) = false := by simpa using k1
            have HM2 : Hid (mq = false) := by show _ = _; rw [HMQ.out]; simp [k1, k2]
            go_wp2_with (first
              | (go_at_call 10; refine (rfcheck_b qn qy qk _ HI.out.k1).mono ?_; rintro e wf ⟨rfl, hbe⟩; rw [← HCQ.out]
                 replace HI : Hid (BkS w g0 g1 g2 g3 bs qs ss ps vk qk (.slice sad n scp) pv ky qy sg ds wf) := HI.out.next hbe
                 have hq0 : wf.cell? ⟨g1, 0, none⟩ = some (.int .i64 kd) := by rw [HI.out.b1.cell, HQS.out]; rfl
                 have HRA : Hid (wf.rangeAt g1 3 aus) := by rw [HAS.out]; have hb := HI.out.b1; rw [HQS.out] at hb; exact req_ra hb
                 clear hbe)
              | (with_reducible refine wpSeq_loadD (.tmp 52) ?_ ?_ g1 3 ?_ aus HRA.out HIA.out ?_
                 · with_reducible rfl
                 · rfl
                 · rfl)
              | (with_reducible refine wpSeq_buildZ ?_ ?_ HZS.out ?_
                 · with_reducible rfl
                 · rfl))
            go_meet
            case rel => exact ⟨by rw [HM2.out], HI.out⟩
      · have c1 : (cq == 0) = false := by simpa using c0
        have HM2 : Hid (mq = false) := by show _ = _; rw [HMQ.out]; simp [c0]
        go_wp2_with (first
          | (go_at_call 10; refine (rfcheck_b qn qy qk _ HI.out.k1).mono ?_; rintro e wf ⟨rfl, hbe⟩; rw [← HCQ.out]
             replace HI : Hid (BkS w g0 g1 g2 g3 bs qs ss ps vk qk (.slice sad n scp) pv ky qy sg ds wf) := HI.out.next hbe
             have hq0 : wf.cell? ⟨g1, 0, none⟩ = some (.int .i64 kd) := by rw [HI.out.b1.cell, HQS.out]; rfl
             have HRA : Hid (wf.rangeAt g1 3 aus) := by rw [HAS.out]; have hb := HI.out.b1; rw [HQS.out] at hb; exact req_ra hb
             clear hbe)
          | (with_reducible refine wpSeq_loadD (.tmp 52) ?_ ?_ g1 3 ?_ aus HRA.out HIA.out ?_
             · with_reducible rfl
             · rfl
             · rfl)
          | (with_reducible refine wpSeq_buildZ ?_ ?_ HZS.out ?_
             · with_reducible rfl
             · rfl))
        go_meet
        case rel => exact ⟨by rw [HM2.out], HI.out⟩
    case rest =>
      clear HI hq1 hq2 heq
      obtain ⟨rfl, hcut⟩ := hcut
      have HI : Hid (BkS w g0 g1 g2 g3 bs qs ss ps vk qk (.slice sad n scp) pv ky qy sg ds wc) := hcut
      clear hcut
      go_upto_if 58 with fail
      go_cut [12] from 11 to 72 (fun _ W => BkS w g0 g1 g2 g3 bs qs ss ps vk qk (.slice sad n scp) pv ky qy sg ds W)
      case first =>
        cases mq
        · skip
          go_wp2
          go_meet
          case rel => exact HI.out
        · have hm : cq = 0 ∧ (kd = 2 ∨ (kd = 1 ∧ au = zb32)) := of_decide_eq_true HMQ.out.symm
          have HCH : Hid (chk qn qy = 0) := by show _ = _; rw [← HCQ.out]; exact hm.1
          obtain ⟨k, rfl, k1, k2, k3⟩ : ∃ k : Nat, kd = (k : Int) ∧ 1 ≤ k ∧ k ≤ 2 ∧ (k ≠ 2 → au = zb32) := by
            rcases hm.2 with h | ⟨h, h'⟩
            · exact ⟨2, by omega, by omega, by omega, fun h => absurd rfl h⟩
            · exact ⟨1, by omega, by omega, by omega, fun _ => h'⟩
          have HKK : Hid (1 ≤ k ∧ k ≤ 2 ∧ (k ≠ 2 → au = zb32)) := ⟨k1, k2, k3⟩
          clear hm k1 k2 k3 HMQ
          have HCW : Hid (∀ W, Reads W qk qy → Calls Try.prog 17 #[.agg qs.toArray] W fun e w' => ∃ v', e = .returned v' ∧ Reads w' v' (encRequest (k, qn, qy, au)) ∧ Below W.heap.size W w') := fun W h => by rw [HQS.out]; exact wkRequest HCH.out HKK.out.2.1 HAU.out h
          have HCR : Hid (∀ W v, Reads W v (encRequest (k, qn, qy, au)) → Calls Try.prog 26 #[v] W fun e w' => ∃ cs, e = .returned (.tuple #[.agg (cs : List Value).toArray, .int .i64 0]) ∧ reqK.G w' W.heap.size (k, qn, qy, au) cs ∧ Below W.heap.size W w') := fun W v h => rkRequest HCH.out HKK.out.1 HKK.out.2.1 HAU.out HKK.out.2.2 h
          have HCS : Hid (∀ W b cs, reqK.G W b (k, qn, qy, au) cs → Reads W qk qy → Calls Try.prog 28 #[.agg (cs : List Value).toArray, .agg qs.toArray] W fun e w' => e = .returned (.bool true) ∧ Below W.heap.size W w') := fun W b cs hG h => by rw [HQS.out]; exact smRequest hG h
          go_wp2_with (first
            | (with_reducible refine wpSeq_loadK 38 (.tmp 5) ?_ ?_ g1 ?_ qs _ HI.out.b1 Try.underlying38 ?_ HIQ.out ?_
               · with_reducible rfl
               · rfl
               · rfl
               · rfl)
            | (go_at_call 17; refine (HCW.out _ HI.out.k1).mono ?_; rintro e w1 ⟨v1, rfl, hr1, hb1⟩
               replace HI : Hid (BkS w g0 g1 g2 g3 bs qs ss ps vk qk (.slice sad n scp) pv ky qy sg ds w1) := HI.out.next hb1
               have HV : Hid (Reads w1 v1 (encRequest (k, qn, qy, au))) := hr1
               clear hr1 hb1)
            | (go_at_call 26; refine (HCR.out _ _ HV.out).mono ?_; rintro e w2 ⟨cs, rfl, hG, hb1⟩
               have HIC : Hid ((Try.prog.info? 38).map (·.size) = some cs.length) := by have := reqK_ok.size hG; rw [List.size_toArray] at this; exact this
               have H1C : Hid (cs.toArray.all (·.oneCell') = true) := all_oneCell_toArray (reqK_ok.one hG)
               have HLN : Hid (cs.length = reqK.z.length) := reqK_ok.len hG
               obtain ⟨gb, HGB⟩ : ∃ q, Hid (q = w1.heap.size) := ⟨_, rfl⟩
               rw [← HGB.out] at hG
               have HGG : Hid (reqK.G w2 gb (k, qn, qy, au) cs) := hG
               replace HI : Hid (BkS w g0 g1 g2 g3 bs qs ss ps vk qk (.slice sad n scp) pv ky qy sg ds w2) := HI.out.next hb1
               clear hG hb1 HV HGB)
            | (with_reducible refine wpSeq_allocK allocRequest ?_ ?_ ?_
               · with_reducible rfl
               · rfl
               skip)
            | (with_reducible refine wpList_store_mid ?_ 38 (.tmp 11) (.tmp 63) ?_ w2.heap.size 0 cs.toArray ?_ ?_ ((Blk.new w2 reqK.z 38).there 0 _ (by rw [List.size_toArray, HLN.out]; omega)) (by rw [List.size_toArray]; exact HIC.out) H1C.out ?_
               · rfl
               · rfl
               · rfl
               · rfl
               change wpList _ _ _ _ _ ((w2.alloc (.cells reqK.z.toArray 38)).setCells w2.heap.size 0 cs)
               have HGA : Hid (Blk ((w2.alloc (.cells reqK.z.toArray 38)).setCells w2.heap.size 0 cs) w2.heap.size cs 38) := (Blk.new w2 reqK.z 38).whole cs HLN.out
               have HBX : Hid (Below w2.heap.size w2 ((w2.alloc (.cells reqK.z.toArray 38)).setCells w2.heap.size 0 cs)) := Below.setCells _ (Nat.le_refl _) _ _ _ (below_alloc _ _)
               have HG2 : Hid (reqK.G ((w2.alloc (.cells reqK.z.toArray 38)).setCells w2.heap.size 0 cs) gb (k, qn, qy, au) cs) := reqK_ok.below HGG.out HBX.out
               replace HI : Hid (BkS w g0 g1 g2 g3 bs qs ss ps vk qk (.slice sad n scp) pv ky qy sg ds ((w2.alloc (.cells reqK.z.toArray 38)).setCells w2.heap.size 0 cs)) := HI.out.next HBX.out
               clear HBX HGG
               generalize (w2.alloc (.cells reqK.z.toArray 38)).setCells w2.heap.size 0 cs = w3 at *)
            | (with_reducible refine wpSeq_loadK 38 (.tmp 11) ?_ ?_ w2.heap.size ?_ cs _ HGA.out Try.underlying38 ?_ HIC.out ?_
               · with_reducible rfl
               · rfl
               · rfl
               · rfl)
            | (go_at_call 28; refine (HCS.out _ _ _ HG2.out HI.out.k1).mono ?_; rintro e w4 ⟨rfl, hb1⟩
               replace HI : Hid (BkS w g0 g1 g2 g3 bs qs ss ps vk qk (.slice sad n scp) pv ky qy sg ds w4) := HI.out.next hb1
               clear hb1))
          go_meet
          case rel => exact HI.out
      case rest =>
        clear HI HCQ HMQ HAS HZS HIA HQS HIQ HAU
        have HI : Hid (BkS w g0 g1 g2 g3 bs qs ss ps vk qk (.slice sad n scp) pv ky qy sg ds wc) := hcut
        clear hcut
        have hs97 : wc.cell? ⟨g2, 97, none⟩ = some (.slice sad n scp) := by rw [HI.out.b2.cell, HSS.out]; exact sgnV_at HSG.out.2.1 HSG.out.2.2.1 HSG.out.2.2.2
        go_upto_if 76 with fail
        go_cut [14] from 13 to 90 (fun _ W => BkS w g0 g1 g2 g3 bs qs ss ps vk qk (.slice sad n scp) pv ky qy sg ds W)
        case first =>
          by_cases hn : n ≤ 1048576
          · have hn1 : decide ((n : Int) ≤ 1048576) = true := decide_eq_true (by omega)
            have hn2 : (n : Int) ≤ 1048576 := by omega
            have HSL : Hid (sg.length ≤ 1048576) := by show _ ≤ _; rw [← HN.out]; exact hn
            clear hn hs97
            have HCW : Hid (∀ W, Reads W (.slice sad n scp) sg → Calls Try.prog 19 #[.agg ss.toArray] W fun e w' => ∃ v', e = .returned v' ∧ Reads w' v' (encSigned (ep, x, y, z, sg)) ∧ Below W.heap.size W w') := fun W h => by rw [HSS.out]; exact wkSigned HSG.out.1 HSG.out.2.1 HSG.out.2.2.1 HSG.out.2.2.2 HSL.out h
            have HCR : Hid (∀ W v, Reads W v (encSigned (ep, x, y, z, sg)) → Calls Try.prog 29 #[v] W fun e w' => ∃ cs, e = .returned (.tuple #[.agg (cs : List Value).toArray, .int .i64 0]) ∧ sgnK.G w' W.heap.size (ep, x, y, z, sg) cs ∧ Below W.heap.size W w') := fun W v h => rkSigned HSG.out.1 HSG.out.2.1 HSG.out.2.2.1 HSG.out.2.2.2 HSL.out h
            have HCS : Hid (∀ W b cs, sgnK.G W b (ep, x, y, z, sg) cs → Reads W (.slice sad n scp) sg → Calls Try.prog 31 #[.agg (cs : List Value).toArray, .agg ss.toArray] W fun e w' => e = .returned (.bool true) ∧ Below W.heap.size W w') := fun W b cs hG h => by rw [HSS.out]; exact smSigned hG h
            go_wp2_with (first
              | (with_reducible refine wpSeq_loadK 42 (.tmp 6) ?_ ?_ g2 ?_ ss _ HI.out.b2 Try.underlying42 ?_ HIS.out ?_
                 · with_reducible rfl
                 · rfl
                 · rfl
                 · rfl)
              | (go_at_call 19; refine (HCW.out _ HI.out.k2).mono ?_; rintro e w1 ⟨v1, rfl, hr1, hb1⟩
                 replace HI : Hid (BkS w g0 g1 g2 g3 bs qs ss ps vk qk (.slice sad n scp) pv ky qy sg ds w1) := HI.out.next hb1
                 have HV : Hid (Reads w1 v1 (encSigned (ep, x, y, z, sg))) := hr1
                 clear hr1 hb1)
              | (go_at_call 29; refine (HCR.out _ _ HV.out).mono ?_; rintro e w2 ⟨cs, rfl, hG, hb1⟩
                 have HIC : Hid ((Try.prog.info? 42).map (·.size) = some cs.length) := by have := sgnK_ok.size hG; rw [List.size_toArray] at this; exact this
                 have H1C : Hid (cs.toArray.all (·.oneCell') = true) := all_oneCell_toArray (sgnK_ok.one hG)
                 have HLN : Hid (cs.length = sgnK.z.length) := sgnK_ok.len hG
                 obtain ⟨gb, HGB⟩ : ∃ q, Hid (q = w1.heap.size) := ⟨_, rfl⟩
                 rw [← HGB.out] at hG
                 have HGG : Hid (sgnK.G w2 gb (ep, x, y, z, sg) cs) := hG
                 replace HI : Hid (BkS w g0 g1 g2 g3 bs qs ss ps vk qk (.slice sad n scp) pv ky qy sg ds w2) := HI.out.next hb1
                 clear hG hb1 HV HGB)
              | (with_reducible refine wpSeq_allocK allocSigned ?_ ?_ ?_
                 · with_reducible rfl
                 · rfl
                 skip)
              | (with_reducible refine wpList_store_mid ?_ 42 (.tmp 13) (.tmp 81) ?_ w2.heap.size 0 cs.toArray ?_ ?_ ((Blk.new w2 sgnK.z 42).there 0 _ (by rw [List.size_toArray, HLN.out]; omega)) (by rw [List.size_toArray]; exact HIC.out) H1C.out ?_
                 · rfl
                 · rfl
                 · rfl
                 · rfl
                 change wpList _ _ _ _ _ ((w2.alloc (.cells sgnK.z.toArray 42)).setCells w2.heap.size 0 cs)
                 have HGA : Hid (Blk ((w2.alloc (.cells sgnK.z.toArray 42)).setCells w2.heap.size 0 cs) w2.heap.size cs 42) := (Blk.new w2 sgnK.z 42).whole cs HLN.out
                 have HBX : Hid (Below w2.heap.size w2 ((w2.alloc (.cells sgnK.z.toArray 42)).setCells w2.heap.size 0 cs)) := Below.setCells _ (Nat.le_refl _) _ _ _ (below_alloc _ _)
                 have HG2 : Hid (sgnK.G ((w2.alloc (.cells sgnK.z.toArray 42)).setCells w2.heap.size 0 cs) gb (ep, x, y, z, sg) cs) := sgnK_ok.below HGG.out HBX.out
                 replace HI : Hid (BkS w g0 g1 g2 g3 bs qs ss ps vk qk (.slice sad n scp) pv ky qy sg ds ((w2.alloc (.cells sgnK.z.toArray 42)).setCells w2.heap.size 0 cs)) := HI.out.next HBX.out
                 clear HBX HGG
                 generalize (w2.alloc (.cells sgnK.z.toArray 42)).setCells w2.heap.size 0 cs = w3 at *)
              | (with_reducible refine wpSeq_loadK 42 (.tmp 13) ?_ ?_ w2.heap.size ?_ cs _ HGA.out Try.underlying42 ?_ HIC.out ?_
                 · with_reducible rfl
                 · rfl
                 · rfl
                 · rfl)
              | (go_at_call 31; refine (HCS.out _ _ _ HG2.out HI.out.k2).mono ?_; rintro e w4 ⟨rfl, hb1⟩
                 replace HI : Hid (BkS w g0 g1 g2 g3 bs qs ss ps vk qk (.slice sad n scp) pv ky qy sg ds w4) := HI.out.next hb1
                 clear hb1))
            go_meet
            case rel => exact HI.out
          · have hn1 : decide ((n : Int) ≤ 1048576) = false := decide_eq_false (by omega)
            have hn2 : ¬ ((n : Int) ≤ 1048576) := by omega
            go_wp2
            go_meet
            case rel => exact HI.out
        case rest =>
          clear HI hs97
          have HI : Hid (BkS w g0 g1 g2 g3 bs qs ss ps vk qk (.slice sad n scp) pv ky qy sg ds wc) := hcut
          clear hcut HSS HIS
          obtain ⟨rb, HRB⟩ : ∃ m, Hid (m = rightB ds.length en ix va) := ⟨_, rfl⟩
          have HCF : Hid (∀ W, ReadsD W pv ds → Calls Try.prog 12 #[.agg ps.toArray] W fun e w' => e = .returned (.bool rb) ∧ Below W.heap.size W w') := fun W h => by rw [HPS.out, HRB.out]; exact rfright_any pv ds en ix va HPR.out.1 HPR.out.2 W h
          go_upto_if 92 with (first
            | (with_reducible refine wpSeq_loadK 30 (.tmp 7) ?_ ?_ g3 ?_ ps _ HI.out.b3 Try.underlying30 ?_ HIP.out ?_
               · with_reducible rfl
               · rfl
               · rfl
               · rfl)
            | (go_at_call 12; refine (HCF.out _ HI.out.k3).mono ?_; rintro e wf ⟨rfl, hbe⟩
               replace HI : Hid (BkS w g0 g1 g2 g3 bs qs ss ps vk qk (.slice sad n scp) pv ky qy sg ds wf) := HI.out.next hbe
               clear hbe))
          go_cut [16] from 15 to 106 (fun _ W => BkS w g0 g1 g2 g3 bs qs ss ps vk qk (.slice sad n scp) pv ky qy sg ds W)
          case first =>
            cases rb
            · skip
              go_wp2
              go_meet
              case rel => exact HI.out
            · obtain ⟨hd, k, rfl, hk1, hk2⟩ := right_ok HRB.out.symm
              have HOK : Hid (okProof (ds, k, ix, va)) := ⟨hd, HI.out.k3.2, hk1, HPR.out.1, HPR.out.2, hk2⟩
              clear hd hk1 hk2 HRB
              have HCW : Hid (∀ W, ReadsD W pv ds → Calls Try.prog 21 #[.agg ps.toArray] W fun e w' => ∃ v', e = .returned v' ∧ Reads w' v' (encProof (ds, k, ix, va)) ∧ Below W.heap.size W w') := fun W h => by rw [HPS.out]; exact wkProof HOK.out h
              have HCR : Hid (∀ W v, Reads W v (encProof (ds, k, ix, va)) → Calls Try.prog 32 #[v] W fun e w' => ∃ cs, e = .returned (.tuple #[.agg (cs : List Value).toArray, .int .i64 0]) ∧ prfK.G w' W.heap.size (ds.length, ds, k, ix, va) cs ∧ Below W.heap.size W w') := fun W v h => rkProof HOK.out h
              have HCS : Hid (∀ W b cs, prfK.G W b (ds.length, ds, k, ix, va) cs → ReadsD W pv ds → Calls Try.prog 34 #[.agg (cs : List Value).toArray, .agg ps.toArray] W fun e w' => e = .returned (.bool true) ∧ Below W.heap.size W w') := fun W b cs hG h => by rw [HPS.out]; exact smProof HOK.out hG h
              go_wp2_with (first
                | (with_reducible refine wpSeq_loadK 30 (.tmp 7) ?_ ?_ g3 ?_ ps _ HI.out.b3 Try.underlying30 ?_ HIP.out ?_
                   · with_reducible rfl
                   · rfl
                   · rfl
                   · rfl)
                | (go_at_call 21; refine (HCW.out _ HI.out.k3).mono ?_; rintro e w1 ⟨v1, rfl, hr1, hb1⟩
                   replace HI : Hid (BkS w g0 g1 g2 g3 bs qs ss ps vk qk (.slice sad n scp) pv ky qy sg ds w1) := HI.out.next hb1
                   have HV : Hid (Reads w1 v1 (encProof (ds, k, ix, va))) := hr1
                   clear hr1 hb1)
                | (go_at_call 32; refine (HCR.out _ _ HV.out).mono ?_; rintro e w2 ⟨cs, rfl, hG, hb1⟩
                   have HIC : Hid ((Try.prog.info? 30).map (·.size) = some cs.length) := by have := prfK_ok.size hG; rw [List.size_toArray] at this; exact this
                   have H1C : Hid (cs.toArray.all (·.oneCell') = true) := all_oneCell_toArray (prfK_ok.one hG)
                   have HLN : Hid (cs.length = prfK.z.length) := prfK_ok.len hG
                   obtain ⟨gb, HGB⟩ : ∃ q, Hid (q = w1.heap.size) := ⟨_, rfl⟩
                   rw [← HGB.out] at hG
                   have HGG : Hid (prfK.G w2 gb (ds.length, ds, k, ix, va) cs) := hG
                   replace HI : Hid (BkS w g0 g1 g2 g3 bs qs ss ps vk qk (.slice sad n scp) pv ky qy sg ds w2) := HI.out.next hb1
                   clear hG hb1 HV HGB)
                | (with_reducible refine wpSeq_allocK allocProof ?_ ?_ ?_
                   · with_reducible rfl
                   · rfl
                   skip)
                | (with_reducible refine wpList_store_mid ?_ 30 (.tmp 15) (.tmp 97) ?_ w2.heap.size 0 cs.toArray ?_ ?_ ((Blk.new w2 prfK.z 30).there 0 _ (by rw [List.size_toArray, HLN.out]; omega)) (by rw [List.size_toArray]; exact HIC.out) H1C.out ?_
                   · rfl
                   · rfl
                   · rfl
                   · rfl
                   change wpList _ _ _ _ _ ((w2.alloc (.cells prfK.z.toArray 30)).setCells w2.heap.size 0 cs)
                   have HGA : Hid (Blk ((w2.alloc (.cells prfK.z.toArray 30)).setCells w2.heap.size 0 cs) w2.heap.size cs 30) := (Blk.new w2 prfK.z 30).whole cs HLN.out
                   have HBX : Hid (Below w2.heap.size w2 ((w2.alloc (.cells prfK.z.toArray 30)).setCells w2.heap.size 0 cs)) := Below.setCells _ (Nat.le_refl _) _ _ _ (below_alloc _ _)
                   have HG2 : Hid (prfK.G ((w2.alloc (.cells prfK.z.toArray 30)).setCells w2.heap.size 0 cs) gb (ds.length, ds, k, ix, va) cs) := prfK_ok.below HGG.out HBX.out
                   replace HI : Hid (BkS w g0 g1 g2 g3 bs qs ss ps vk qk (.slice sad n scp) pv ky qy sg ds ((w2.alloc (.cells prfK.z.toArray 30)).setCells w2.heap.size 0 cs)) := HI.out.next HBX.out
                   clear HBX HGG
                   generalize (w2.alloc (.cells prfK.z.toArray 30)).setCells w2.heap.size 0 cs = w3 at *)
                | (with_reducible refine wpSeq_loadK 30 (.tmp 15) ?_ ?_ w2.heap.size ?_ cs _ HGA.out Try.underlying30 ?_ HIC.out ?_
                   · with_reducible rfl
                   · rfl
                   · rfl
                   · rfl)
                | (go_at_call 34; refine (HCS.out _ _ _ HG2.out HI.out.k3).mono ?_; rintro e w4 ⟨rfl, hb1⟩
                   replace HI : Hid (BkS w g0 g1 g2 g3 bs qs ss ps vk qk (.slice sad n scp) pv ky qy sg ds w4) := HI.out.next hb1
                   clear hb1))
              go_meet
              case rel => exact HI.out
          case rest =>
            clear HI
            have HI : Hid (BkS w g0 g1 g2 g3 bs qs ss ps vk qk (.slice sad n scp) pv ky qy sg ds wc) := hcut
            clear hcut
            go_wp2_with (go_at_call 13; refine (rworks_any _).mono ?_; rintro e wz ⟨rfl, hbz⟩)
            go_ret
            exact ⟨rfl, (HI.out.next hbz).bel⟩
end Go.Proofs.Ytldbcglakeggaaa

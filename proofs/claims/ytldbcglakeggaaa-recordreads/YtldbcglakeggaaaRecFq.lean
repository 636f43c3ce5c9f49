/- The walk of the reference's ReadRequest. -/
import Derived.Test.YtldbcglakeggaaaRecFb
namespace Go.Proofs.Ytldbcglakeggaaa
open Go.RowKit
theorem req0_one (kd : Nat) : ∀ v ∈ reqV (kd : Int) [] nilV zb32, v.oneCell' = true := by
  intro v hv
  simp only [reqV, List.mem_cons] at hv
  rcases hv with rfl | rfl | rfl | hv
  · rfl
  · rfl
  · rfl
  · exact cb_one' hv
theorem buildR (f : Operand → Value) (o : Oper) (x : Operand) (kd : Int) (ho : o.op = .build 38 #[(0, x)]) (hx : f x = .int .i64 kd) (w : World) : (execOp f o).run Try.prog w = .ok (.value (.agg (reqV kd [] nilV zb32).toArray)) w := by
  unfold execOp
  rw [ho]
  simp only [List.map_toArray, List.map_cons, List.map_nil, hx]
  kernel_rfl
theorem wpSeq_buildR {ops : Array Oper} {Q : Exit → Act → World → Prop} {rest : List Oper} {o : Oper} {a : Act} {w : World} (x : Operand) (kd : Int) (ho : o.op = .build 38 #[(0, x)]) (hx : a.eval x = .int .i64 kd) (hw : Region.wanted o (yielded ops a.tmps) = true) {cs : List Value} (hc : cs = reqV kd [] nilV zb32)
    (h : wpList Try.prog ops Q rest (a.put o.dst (.agg cs.toArray)) w) : wpList Try.prog ops Q (o :: rest) a w := by
  subst hc
  exact wpSeq_val _ _ hw (buildR _ _ x kd ho hx _) h
set_option maxRecDepth 100000 in
set_option maxHeartbeats 4000000 in
theorem rfRdRequest_any (v : Value) (l : List (BitVec 8)) (w : World) (hb : Reads w v l) (hl : l.length ≤ 9223372036854775807) :
    Calls Try.prog 27 #[v] w (RdRes reqK w (whole (reqS l))) := by
  have HL : Hid (l.length ≤ 9223372036854775807) := hl
  obtain ⟨ad, cap, hv, _, _, _⟩ := id hb
  obtain ⟨m, HM⟩ : ∃ m, Hid (m = l.length) := ⟨_, rfl⟩
  rw [← HM.out] at hv
  subst hv
  have H : Hid (Rf0 w (.slice ad m cap) l 0 false 38 reqK.z ((w.alloc (.cells reqK.z.toArray 38)).alloc (.cells [(.slice ad m cap), .int .i64 0, .bool false].toArray 77))) := Rf0.start hb
  clear hb hl
  go_enter Try.func27, Try.ntmps27
  go_wp2_with fail
  change Calls _ _ _ ((w.alloc (.cells reqK.z.toArray 38)).alloc (.cells [(.slice ad m cap), .int .i64 0, .bool false].toArray 77)) _
  generalize ((w.alloc (.cells reqK.z.toArray 38)).alloc (.cells [(.slice ad m cap), .int .i64 0, .bool false].toArray 77)) = w0 at *
  refine (incount_m _ _ l 0 false w0 2 (by omega) H.out.inp HL.out).mono ?_
  rintro e w1 ⟨kd, p1, u, b1, rfl, rfl, hs, hon, hm⟩
  have HM1 : Hid (Mg (readCount 2 (l.drop 0)) false b1 kd l p1) := hm
  have HR : Hid (Rf0 w (.slice ad m cap) l p1 b1 38 reqK.z w1) := H.out.call hs hon
  clear hs hon hm H
  obtain ⟨cs0, HC0⟩ : ∃ x, Hid (x = reqV (kd : Int) [] nilV zb32) := ⟨_, rfl⟩
  have HLN0 : Hid (cs0.length = reqK.z.length) := by show _ = _; rw [HC0.out]; rfl
  have HI0 : Hid ((Try.prog.info? 38).map (·.size) = some cs0.length) := by show _ = _; rw [HLN0.out]; exact reqK_ok.info
  have H10 : Hid (cs0.toArray.all (·.oneCell') = true) := by show _ = _; rw [HC0.out]; exact all_oneCell_toArray (req0_one kd)
  go_wp2_with (first
    | (with_reducible refine wpSeq_buildR (.tmp 10) (kd : Int) ?_ ?_ ?_ HC0.out ?_
       · rfl
       · rfl
       · rfl)
    | (with_reducible refine wpSeq_allocK allocRequest ?_ ?_ ?_
       · rfl
       · rfl
       skip)
    | (with_reducible refine wpList_store_mid ?_ 38 (.tmp 5) (.tmp 11) ?_ w1.heap.size 0 cs0.toArray ?_ ?_ ((Blk.new w1 reqK.z 38).there 0 _ (by rw [List.size_toArray, HLN0.out]; omega)) (by rw [List.size_toArray]; exact HI0.out) H10.out ?_
       · rfl
       · rfl
       · rfl
       · rfl))
  change Calls _ _ _ ((w1.alloc (.cells reqK.z.toArray 38)).setCells w1.heap.size 0 cs0) _
  have HG : Hid (Rf w w1.heap.size (.slice ad m cap) l p1 b1 38 reqK.z cs0 ((w1.alloc (.cells reqK.z.toArray 38)).setCells w1.heap.size 0 cs0)) := HR.out.lay HLN0.out
  clear HR
  generalize (w1.alloc (.cells reqK.z.toArray 38)).setCells w1.heap.size 0 cs0 = w2 at *
  obtain ⟨gx, HGX⟩ : ∃ x, Hid (x = w1.heap.size) := ⟨_, rfl⟩
  rw [← HGX.out] at HG ⊢
  rw [HC0.out] at HG
  clear HGX HLN0 HI0 H10
  refine (intext_m _ _ l p1 b1 w2 HG.out.st.inp HL.out).mono ?_
  rintro e w3 ⟨nm, p2, u, b2, rfl, ho, hs, hon, hm⟩
  have HM2 : Hid (Mg (readText (l.drop p1)) b1 b2 nm l p2) := hm
  have HGn : Hid (Rf w gx (.slice ad m cap) l p2 b2 38 reqK.z (reqV (kd : Int) [] nilV zb32) w3) := HG.out.call hs hon
  have hcv := conv_reads ho.reads
  clear HG
  have HG := HGn
  clear HGn
  have cq : w3.cell? ⟨gx, 1, none⟩ = some (.string (strB [])) := HG.out.thg.cell 1
  have fq : w3.frozen? ⟨gx, 1, none⟩ = false := HG.out.thg.frozen 1
  have HGn : Hid (Rf w gx (.slice ad m cap) l p2 b2 38 reqK.z (reqV (kd : Int) nm nilV zb32) (w3.setCell ⟨gx, 1, none⟩ (.string (strB nm)))) := HG.out.at ((At.refl _ _).setCell _ _) (HG.out.thg.set 1 _)
  clear HG  ho hs hon hm
  have HG := HGn
  clear HGn 
  go_wp2_with fail
  clear cq fq
  generalize w3.setCell ⟨gx, 1, none⟩ (.string (strB nm)) = w4 at *
  clear hcv
  refine (intext_m _ _ l p2 b2 w4 HG.out.st.inp HL.out).mono ?_
  rintro e w5 ⟨ky, p3, u, b3, rfl, ho, hs, hon, hm⟩
  have HM3 : Hid (Mg (readText (l.drop p2)) b2 b3 ky l p3) := hm
  have HGn : Hid (Rf w gx (.slice ad m cap) l p3 b3 38 reqK.z (reqV (kd : Int) nm nilV zb32) w5) := HG.out.call hs hon
  have HO : Hid (OwnB w5 (gx + 1) u ky) := ho.mono HG.out.thg.lt
  obtain ⟨ak, ck, hu, _, _, _⟩ := ho.reads
  obtain ⟨n, HNn⟩ : ∃ x, Hid (x = ky.length) := ⟨_, rfl⟩
  rw [← HNn.out] at hu
  subst hu
  clear HG
  have HG := HGn
  clear HGn
  obtain ⟨kz, HKZ⟩ : ∃ x : Int, Hid (x = (kd : Int)) := ⟨_, rfl⟩
  have ck0 : (w5.setCell ⟨gx, 2, none⟩ (.slice ak n ck)).cell? ⟨gx, 0, none⟩ = some (.int .i64 kz) := by rw [(HG.out.thg.set 2 _).cell, HKZ.out]; rfl
  by_cases hk2 : kz = 2
  · subst hk2
    have cq : w5.cell? ⟨gx, 2, none⟩ = some (.slice none 0 0) := HG.out.thg.cell 2
    have fq : w5.frozen? ⟨gx, 2, none⟩ = false := HG.out.thg.frozen 2
    have HGn : Hid (Rf w gx (.slice ad m cap) l p3 b3 38 reqK.z (reqV (kd : Int) nm (.slice ak n ck) zb32) (w5.setCell ⟨gx, 2, none⟩ (.slice ak n ck))) := HG.out.at ((At.refl _ _).setCell _ _) (HG.out.thg.set 2 _)
    have HOn : Hid (OwnB (w5.setCell ⟨gx, 2, none⟩ (.slice ak n ck)) (gx + 1) (.slice ak n ck) ky) := HO.out.at1 ((At.refl _ _).setCell _ _) (Nat.lt_succ_self _)
    clear HG HO ho hs hon hm
    have HG := HGn
    have HO := HOn
    clear HGn HOn
    go_wp2_with fail
    clear cq fq
    generalize w5.setCell ⟨gx, 2, none⟩ (.slice ak n ck) = w6 at *
    clear ck0
    refine (indigest_n _ _ l p3 b3 w6 HG.out.st.inp HL.out).mono ?_
    rintro e w7 ⟨au, p4, b4, rfl, hlen, hs, hon, hm⟩
    have HM4 : Hid (Mg (cut 32 (l.drop p3)) b3 b4 au l p4) := hm
    have HDL : Hid (au.length = 32) := hlen
    have HGn : Hid (Rf w gx (.slice ad m cap) l p4 b4 38 reqK.z (reqV (kd : Int) nm (.slice ak n ck) zb32) w7) := HG.out.call hs hon
    have HOn : Hid (OwnB w7 (gx + 1) (.slice ak n ck) ky) := HO.out.only1 hon (by have := HG.out.lt; omega)
    clear HG HO
    have HG := HGn
    have HO := HOn
    clear HGn HOn hs hon hm hlen
    have HGn : Hid (Rf w gx (.slice ad m cap) l p4 b4 38 reqK.z (reqV (kd : Int) nm (.slice ak n ck) au) (w7.setCells gx 3 (cb au))) := HG.out.at (At.setCells _ _ _ (At.refl _ _)) (reqV_put len0 HDL.out HG.out.thg)
    have HT : Hid (w7.there gx 3 (cb au).toArray.size) := HG.out.thg.there 3 _ (by rw [List.size_toArray, cb_len, HDL.out, show (reqV (kd : Int) nm (.slice ak n ck) zb32).length = 35 from rfl]; omega)
    have HIZ : Hid ((Try.prog.info? 28).map (·.size) = some (cb au).toArray.size) := by show _ = _; rw [List.size_toArray, cb_len, HDL.out]; exact Try.infodig
    have HOn : Hid (OwnB (w7.setCells gx 3 (cb au)) (gx + 1) (.slice ak n ck) ky) := HO.out.at1 (At.setCells _ _ _ (At.refl _ _)) (Nat.lt_succ_self _)
    clear HG HO
    have HG := HGn
    have HO := HOn
    clear HGn HOn
    go_wp2_with (refine wpList_store_mid rfl 28 _ _ rfl gx 3 (cb au).toArray rfl rfl HT.out HIZ.out (all_oneCell_toArray (cb_one au)) ?_)
    clear HT HIZ
    change Calls _ _ _ (w7.setCells gx 3 (cb au)) _
    generalize w7.setCells gx 3 (cb au) = w8 at *
    have hkd : kd = 2 := by have := HKZ.out; omega
    have hM4 : Mg (authR kd (l.drop p3)) b3 b4 au l p4 := by unfold authR; rw [if_pos hkd]; exact HM4.out
    have HWH := req_mg HM1.out HM2.out HM3.out hM4 HG.out.st.inp.le
    have HKB : Hid (b4 = false → kd ≤ 2) := fun h => by
      have hh := mg_good (HM1.out.then (HM2.out.then (HM3.out.then hM4)) : Mg (requestR (l.drop 0)) false b4 (kd, nm, ky, au) l p4) h
      rw [List.drop_zero] at hh
      exact ((codes_request _ _ _).1 hh).1.1
    clear HM1 HM2 HM3 HM4 hM4 hkd
    refine (indone_any _ _ l p4 b4 w8 HG.out.st.inp).mono ?_
    rintro e wd ⟨rfl, q, rfl⟩
    have HGn : Hid (Rf w gx (.slice ad m cap) l p4 b4 38 reqK.z (reqV (kd : Int) nm (.slice ak n ck) au) (w8.drewN q)) := HG.out.drewN q
    have HOn : Hid (OwnB (w8.drewN q) (gx + 1) (.slice ak n ck) ky) := HO.out.same fun _ _ => rfl
    clear HG HO
    have HG := HGn
    have HO := HOn
    clear HGn HOn
    have HB3 : Hid ((!b4 && decide (p4 = l.length)) = true → b4 = false) := fun h => by cases b4 with | true => simp at h | false => rfl
    generalize w8.drewN q = wz at *
    obtain ⟨dn, HDN⟩ : ∃ x, Hid (x = (!b4 && decide (p4 = l.length))) := ⟨_, rfl⟩
    rw [← HDN.out] at HWH HB3 ⊢
    replace HWH : Hid _ := HWH
    clear HDN
    cases dn with
    | false =>
      have HRES : Hid (Blk wz w.heap.size reqK.z 38) := HG.out.st.res
      obtain ⟨zs, HZS⟩ : ∃ x, Hid (x = reqK.z) := ⟨_, rfl⟩
      have HI : Hid ((Try.prog.info? 38).map (·.size) = some zs.length) := by show _ = _; rw [HZS.out]; exact reqK_ok.info
      have H1 : Hid (zs.toArray.all (·.oneCell') = true) := by show _ = _; rw [HZS.out]; exact all_oneCell_toArray reqK_ok.zone
      have HLN : Hid (zs.length = reqK.z.length) := by show _ = _; rw [HZS.out]
      have HNO : Hid (RdRes reqK w (whole (reqS l)) (.returned (.tuple #[.agg zs.toArray, .int .i64 3])) (wz.setCells w.heap.size 0 zs)) := by rw [HZS.out]; exact rf_no (K := reqK) HG.out (by have h := HWH.out; rwa [Bool.false_and] at h)
      have hB6 : Hid (Blk (wz.setCells w.heap.size 0 zs) w.heap.size zs 38) := HRES.out.whole zs HLN.out
      clear HG
      go_wp2_with (first
        | (with_reducible refine wpSeq_buildK buildZreqK ?_ ?_ HZS.out ?_
           · rfl
           · rfl
           skip)
        | (with_reducible refine wpList_store_mid ?_ 38 (.tmp 2) (.tmp 41) ?_ w.heap.size 0 zs.toArray ?_ ?_ (HRES.out.there 0 _ (by rw [List.size_toArray, HLN.out]; omega)) (by rw [List.size_toArray]; exact HI.out) H1.out ?_
           · rfl
           · rfl
           · rfl
           · rfl))
      exact bodyPost_ret (v := .tuple #[.agg zs.toArray, .int .i64 3]) (results_row_tmp (by rfl) _ _ _ w.heap.size 38 zs _ (.int .i64 3) rfl rfl hB6.out Try.underlying38 rfl HI.out) rfl HNO.out
    | true =>
      have HKD : Hid (kd ≤ 2) := HKB.out (HB3.out rfl)
      have HW2 : Hid (whole (reqS l) = if (decide (1 ≤ kd) && decide (chk nm ky = 0)) then some (kd, nm, ky, au) else none) := by have h := HWH.out; rwa [Bool.true_and] at h
      clear HB3 HKB HWH
      have n0 : wz.cell? ⟨gx, 1, none⟩ = some (.string (strB nm)) := HG.out.thg.cell 1
      have n1 : wz.cell? ⟨gx, 2, none⟩ = some (.slice ak n ck) := HG.out.thg.cell 2
      have n2 : wz.cell? ⟨gx, 0, none⟩ = some (.int .i64 2) := by rw [HG.out.thg.cell, HKZ.out]; rfl
      have HW3 : Hid (whole (reqS l) = if decide (chk nm ky = 0) then some (kd, nm, ky, au) else none) := by have h := HW2.out; rwa [decide_eq_true (by have := HKZ.out; omega), Bool.true_and] at h
      go_wp2_with fail
      refine (rfcheck_any nm ky (.slice ak n ck) wz HO.out.reads).mono ?_
      rintro e w9 ⟨rfl, q2, rfl⟩
      clear n0 n1 n2
      have HG9 : Hid (Rf w gx (.slice ad m cap) l p4 b4 38 reqK.z (reqV (kd : Int) nm (.slice ak n ck) au) (wz.drewN q2)) := HG.out.drewN q2
      have HO9 : Hid (OwnB (wz.drewN q2) (gx + 1) (.slice ak n ck) ky) := HO.out.same fun _ _ => rfl
      clear HG HO
      generalize wz.drewN q2 = w10 at *
      by_cases hck : chk nm ky = 0
      · have hw2 : whole (reqS l) = some (kd, nm, ky, au) := by have h := HW3.out; rw [decide_eq_true hck] at h; exact h
        rw [hck]
        obtain ⟨cs, HCS⟩ : ∃ cs, Hid (cs = (reqV (kd : Int) nm (.slice ak n ck) au)) := ⟨_, rfl⟩
        have hG : reqK.G w10 (w.heap.size + 2) (kd, nm, ky, au) cs := by rw [HCS.out]; exact ⟨_, rfl, HO9.out.mono (by have := HG9.out.lt; omega), HDL.out, HKD.out⟩
        rw [← HCS.out] at HG9
        have HRES : Hid (Blk w10 w.heap.size reqK.z 38) := HG9.out.st.res
        have HTH : Hid (Blk w10 gx cs 38) := HG9.out.thg
        have HI : Hid ((Try.prog.info? 38).map (·.size) = some cs.length) := by have := reqK_ok.size hG; rw [List.size_toArray] at this; exact this
        have H1 : Hid (cs.toArray.all (·.oneCell') = true) := all_oneCell_toArray (reqK_ok.one hG)
        have HLN : Hid (cs.length = reqK.z.length) := reqK_ok.len hG
        have HYS : Hid (RdRes reqK w (whole (reqS l)) (.returned (.tuple #[.agg cs.toArray, .int .i64 0])) (w10.setCells w.heap.size 0 cs)) := rf_yes reqK_ok HG9.out hw2 hG
        have hB6 : Hid (Blk (w10.setCells w.heap.size 0 cs) w.heap.size cs 38) := HRES.out.whole cs HLN.out
        clear HG9 hG
        go_wp2_with (first
          | (with_reducible refine wpSeq_loadK 38 (.tmp 5) ?_ ?_ gx ?_ cs _ HTH.out Try.underlying38 ?_ HI.out ?_
             · rfl
             · rfl
             · rfl
             · rfl)
          | (with_reducible refine wpList_store_mid ?_ 38 (.tmp 2) (.tmp 42) ?_ w.heap.size 0 cs.toArray ?_ ?_ (HRES.out.there 0 _ (by rw [List.size_toArray, HLN.out]; omega)) (by rw [List.size_toArray]; exact HI.out) H1.out ?_
             · rfl
             · rfl
             · rfl
             · rfl))
        exact bodyPost_ret (v := .tuple #[.agg cs.toArray, .int .i64 0]) (results_row_tmp (by rfl) _ _ _ w.heap.size 38 cs _ (.int .i64 0) rfl rfl hB6.out Try.underlying38 rfl HI.out) rfl HYS.out
      · have hwn : whole (reqS l) = none := by have h := HW3.out; rw [decide_eq_false hck] at h; exact h
        obtain ⟨ck', HCK⟩ : ∃ x, Hid (x = chk nm ky) := ⟨_, rfl⟩
        rw [← HCK.out] at hck ⊢
        have hckb : (ck' == 0) = false := by simpa using hck
        have HRES : Hid (Blk w10 w.heap.size reqK.z 38) := HG9.out.st.res
        obtain ⟨zs, HZS⟩ : ∃ x, Hid (x = reqK.z) := ⟨_, rfl⟩
        have HI : Hid ((Try.prog.info? 38).map (·.size) = some zs.length) := by show _ = _; rw [HZS.out]; exact reqK_ok.info
        have H1 : Hid (zs.toArray.all (·.oneCell') = true) := by show _ = _; rw [HZS.out]; exact all_oneCell_toArray reqK_ok.zone
        have HLN : Hid (zs.length = reqK.z.length) := by show _ = _; rw [HZS.out]
        have HNO : Hid (RdRes reqK w (whole (reqS l)) (.returned (.tuple #[.agg zs.toArray, .int .i64 3])) (w10.setCells w.heap.size 0 zs)) := by rw [HZS.out]; exact rf_no (K := reqK) HG9.out hwn
        have hB6 : Hid (Blk (w10.setCells w.heap.size 0 zs) w.heap.size zs 38) := HRES.out.whole zs HLN.out
        clear HG9
        go_wp2_with (first
          | (with_reducible refine wpSeq_buildK buildZreqK ?_ ?_ HZS.out ?_
             · rfl
             · rfl
             skip)
          | (with_reducible refine wpList_store_mid ?_ 38 (.tmp 2) (.tmp 41) ?_ w.heap.size 0 zs.toArray ?_ ?_ (HRES.out.there 0 _ (by rw [List.size_toArray, HLN.out]; omega)) (by rw [List.size_toArray]; exact HI.out) H1.out ?_
             · rfl
             · rfl
             · rfl
             · rfl))
        exact bodyPost_ret (v := .tuple #[.agg zs.toArray, .int .i64 3]) (results_row_tmp (by rfl) _ _ _ w.heap.size 38 zs _ (.int .i64 3) rfl rfl hB6.out Try.underlying38 rfl HI.out) rfl HNO.out
  · have hk2b : (kz == 2) = false := by simpa using hk2
    have hkd : kd ≠ 2 := by have := HKZ.out; omega
    have hM4 : Mg (authR kd (l.drop p3)) b3 b3 zb32 l p3 := by unfold authR; rw [if_neg hkd]; exact mg_none
    have HWH := req_mg HM1.out HM2.out HM3.out hM4 HG.out.st.inp.le
    replace HWH : Hid _ := HWH
    have HKB : Hid (b3 = false → kd ≤ 2) := fun h => by
      have hh := mg_good (HM1.out.then (HM2.out.then (HM3.out.then hM4)) : Mg (requestR (l.drop 0)) false b3 (kd, nm, ky, zb32) l p3) h
      rw [List.drop_zero] at hh
      exact ((codes_request _ _ _).1 hh).1.1
    clear HM1 HM2 HM3 hM4 hkd
    have cq : w5.cell? ⟨gx, 2, none⟩ = some (.slice none 0 0) := HG.out.thg.cell 2
    have fq : w5.frozen? ⟨gx, 2, none⟩ = false := HG.out.thg.frozen 2
    have HGn : Hid (Rf w gx (.slice ad m cap) l p3 b3 38 reqK.z (reqV (kd : Int) nm (.slice ak n ck) zb32) (w5.setCell ⟨gx, 2, none⟩ (.slice ak n ck))) := HG.out.at ((At.refl _ _).setCell _ _) (HG.out.thg.set 2 _)
    have HOn : Hid (OwnB (w5.setCell ⟨gx, 2, none⟩ (.slice ak n ck)) (gx + 1) (.slice ak n ck) ky) := HO.out.at1 ((At.refl _ _).setCell _ _) (Nat.lt_succ_self _)
    clear HG HO ho hs hon hm
    have HG := HGn
    have HO := HOn
    clear HGn HOn
    go_wp2_with fail
    clear cq fq
    generalize w5.setCell ⟨gx, 2, none⟩ (.slice ak n ck) = w6 at *
    clear ck0
    replace HWH := HWH.out
    refine (indone_any _ _ l p3 b3 w6 HG.out.st.inp).mono ?_
    rintro e wd ⟨rfl, q, rfl⟩
    have HGn : Hid (Rf w gx (.slice ad m cap) l p3 b3 38 reqK.z (reqV (kd : Int) nm (.slice ak n ck) zb32) (w6.drewN q)) := HG.out.drewN q
    have HOn : Hid (OwnB (w6.drewN q) (gx + 1) (.slice ak n ck) ky) := HO.out.same fun _ _ => rfl
    clear HG HO
    have HG := HGn
    have HO := HOn
    clear HGn HOn
    have HB3 : Hid ((!b3 && decide (p3 = l.length)) = true → b3 = false) := fun h => by cases b3 with | true => simp at h | false => rfl
    generalize w6.drewN q = wz at *
    obtain ⟨dn, HDN⟩ : ∃ x, Hid (x = (!b3 && decide (p3 = l.length))) := ⟨_, rfl⟩
    rw [← HDN.out] at HWH HB3 ⊢
    replace HWH : Hid _ := HWH
    clear HDN
    cases dn with
    | false =>
      have HRES : Hid (Blk wz w.heap.size reqK.z 38) := HG.out.st.res
      obtain ⟨zs, HZS⟩ : ∃ x, Hid (x = reqK.z) := ⟨_, rfl⟩
      have HI : Hid ((Try.prog.info? 38).map (·.size) = some zs.length) := by show _ = _; rw [HZS.out]; exact reqK_ok.info
      have H1 : Hid (zs.toArray.all (·.oneCell') = true) := by show _ = _; rw [HZS.out]; exact all_oneCell_toArray reqK_ok.zone
      have HLN : Hid (zs.length = reqK.z.length) := by show _ = _; rw [HZS.out]
      have HNO : Hid (RdRes reqK w (whole (reqS l)) (.returned (.tuple #[.agg zs.toArray, .int .i64 3])) (wz.setCells w.heap.size 0 zs)) := by rw [HZS.out]; exact rf_no (K := reqK) HG.out (by have h := HWH.out; rwa [Bool.false_and] at h)
      have hB6 : Hid (Blk (wz.setCells w.heap.size 0 zs) w.heap.size zs 38) := HRES.out.whole zs HLN.out
      clear HG
      go_wp2_with (first
        | (with_reducible refine wpSeq_buildK buildZreqK ?_ ?_ HZS.out ?_
           · rfl
           · rfl
           skip)
        | (with_reducible refine wpList_store_mid ?_ 38 (.tmp 2) (.tmp 41) ?_ w.heap.size 0 zs.toArray ?_ ?_ (HRES.out.there 0 _ (by rw [List.size_toArray, HLN.out]; omega)) (by rw [List.size_toArray]; exact HI.out) H1.out ?_
           · rfl
           · rfl
           · rfl
           · rfl))
      exact bodyPost_ret (v := .tuple #[.agg zs.toArray, .int .i64 3]) (results_row_tmp (by rfl) _ _ _ w.heap.size 38 zs _ (.int .i64 3) rfl rfl hB6.out Try.underlying38 rfl HI.out) rfl HNO.out
    | true =>
      have HKD : Hid (kd ≤ 2) := HKB.out (HB3.out rfl)
      have HW2 : Hid (whole (reqS l) = if (decide (1 ≤ kd) && decide (chk nm ky = 0)) then some (kd, nm, ky, zb32) else none) := by have h := HWH.out; rwa [Bool.true_and] at h
      clear HB3 HKB HWH
      have n0 : wz.cell? ⟨gx, 1, none⟩ = some (.string (strB nm)) := HG.out.thg.cell 1
      have n1 : wz.cell? ⟨gx, 2, none⟩ = some (.slice ak n ck) := HG.out.thg.cell 2
      have n2 : wz.cell? ⟨gx, 0, none⟩ = some (.int .i64 kz) := by rw [HG.out.thg.cell, HKZ.out]; rfl
      by_cases hk1 : kz < 1
      · have hwn : whole (reqS l) = none := by have h := HW2.out; rw [decide_eq_false (by have := HKZ.out; omega)] at h; exact h
        have hk1b : decide (kz < 1) = true := decide_eq_true hk1
        have HRES : Hid (Blk wz w.heap.size reqK.z 38) := HG.out.st.res
        obtain ⟨zs, HZS⟩ : ∃ x, Hid (x = reqK.z) := ⟨_, rfl⟩
        have HI : Hid ((Try.prog.info? 38).map (·.size) = some zs.length) := by show _ = _; rw [HZS.out]; exact reqK_ok.info
        have H1 : Hid (zs.toArray.all (·.oneCell') = true) := by show _ = _; rw [HZS.out]; exact all_oneCell_toArray reqK_ok.zone
        have HLN : Hid (zs.length = reqK.z.length) := by show _ = _; rw [HZS.out]
        have HNO : Hid (RdRes reqK w (whole (reqS l)) (.returned (.tuple #[.agg zs.toArray, .int .i64 3])) (wz.setCells w.heap.size 0 zs)) := by rw [HZS.out]; exact rf_no (K := reqK) HG.out hwn
        have hB6 : Hid (Blk (wz.setCells w.heap.size 0 zs) w.heap.size zs 38) := HRES.out.whole zs HLN.out
        clear HG
        go_wp2_with (first
          | (with_reducible refine wpSeq_buildK buildZreqK ?_ ?_ HZS.out ?_
             · rfl
             · rfl
             skip)
          | (with_reducible refine wpList_store_mid ?_ 38 (.tmp 2) (.tmp 41) ?_ w.heap.size 0 zs.toArray ?_ ?_ (HRES.out.there 0 _ (by rw [List.size_toArray, HLN.out]; omega)) (by rw [List.size_toArray]; exact HI.out) H1.out ?_
             · rfl
             · rfl
             · rfl
             · rfl))
        exact bodyPost_ret (v := .tuple #[.agg zs.toArray, .int .i64 3]) (results_row_tmp (by rfl) _ _ _ w.heap.size 38 zs _ (.int .i64 3) rfl rfl hB6.out Try.underlying38 rfl HI.out) rfl HNO.out
      · have hk1b : decide (kz < 1) = false := decide_eq_false hk1
        have HW3 : Hid (whole (reqS l) = if decide (chk nm ky = 0) then some (kd, nm, ky, zb32) else none) := by have h := HW2.out; rwa [decide_eq_true (by have := HKZ.out; omega), Bool.true_and] at h
        go_wp2_with fail
        refine (rfcheck_any nm ky (.slice ak n ck) wz HO.out.reads).mono ?_
        rintro e w9 ⟨rfl, q2, rfl⟩
        clear n0 n1 n2
        have HG9 : Hid (Rf w gx (.slice ad m cap) l p3 b3 38 reqK.z (reqV (kd : Int) nm (.slice ak n ck) zb32) (wz.drewN q2)) := HG.out.drewN q2
        have HO9 : Hid (OwnB (wz.drewN q2) (gx + 1) (.slice ak n ck) ky) := HO.out.same fun _ _ => rfl
        clear HG HO
        generalize wz.drewN q2 = w10 at *
        by_cases hck : chk nm ky = 0
        · have hw2 : whole (reqS l) = some (kd, nm, ky, zb32) := by have h := HW3.out; rw [decide_eq_true hck] at h; exact h
          rw [hck]
          obtain ⟨cs, HCS⟩ : ∃ cs, Hid (cs = (reqV (kd : Int) nm (.slice ak n ck) zb32)) := ⟨_, rfl⟩
          have hG : reqK.G w10 (w.heap.size + 2) (kd, nm, ky, zb32) cs := by rw [HCS.out]; exact ⟨_, rfl, HO9.out.mono (by have := HG9.out.lt; omega), len0, HKD.out⟩
          rw [← HCS.out] at HG9
          have HRES : Hid (Blk w10 w.heap.size reqK.z 38) := HG9.out.st.res
          have HTH : Hid (Blk w10 gx cs 38) := HG9.out.thg
          have HI : Hid ((Try.prog.info? 38).map (·.size) = some cs.length) := by have := reqK_ok.size hG; rw [List.size_toArray] at this; exact this
          have H1 : Hid (cs.toArray.all (·.oneCell') = true) := all_oneCell_toArray (reqK_ok.one hG)
          have HLN : Hid (cs.length = reqK.z.length) := reqK_ok.len hG
          have HYS : Hid (RdRes reqK w (whole (reqS l)) (.returned (.tuple #[.agg cs.toArray, .int .i64 0])) (w10.setCells w.heap.size 0 cs)) := rf_yes reqK_ok HG9.out hw2 hG
          have hB6 : Hid (Blk (w10.setCells w.heap.size 0 cs) w.heap.size cs 38) := HRES.out.whole cs HLN.out
          clear HG9 hG
          go_wp2_with (first
            | (with_reducible refine wpSeq_loadK 38 (.tmp 5) ?_ ?_ gx ?_ cs _ HTH.out Try.underlying38 ?_ HI.out ?_
               · rfl
               · rfl
               · rfl
               · rfl)
            | (with_reducible refine wpList_store_mid ?_ 38 (.tmp 2) (.tmp 42) ?_ w.heap.size 0 cs.toArray ?_ ?_ (HRES.out.there 0 _ (by rw [List.size_toArray, HLN.out]; omega)) (by rw [List.size_toArray]; exact HI.out) H1.out ?_
               · rfl
               · rfl
               · rfl
               · rfl))
          exact bodyPost_ret (v := .tuple #[.agg cs.toArray, .int .i64 0]) (results_row_tmp (by rfl) _ _ _ w.heap.size 38 cs _ (.int .i64 0) rfl rfl hB6.out Try.underlying38 rfl HI.out) rfl HYS.out
        · have hwn : whole (reqS l) = none := by have h := HW3.out; rw [decide_eq_false hck] at h; exact h
          obtain ⟨ck', HCK⟩ : ∃ x, Hid (x = chk nm ky) := ⟨_, rfl⟩
          rw [← HCK.out] at hck ⊢
          have hckb : (ck' == 0) = false := by simpa using hck
          have HRES : Hid (Blk w10 w.heap.size reqK.z 38) := HG9.out.st.res
          obtain ⟨zs, HZS⟩ : ∃ x, Hid (x = reqK.z) := ⟨_, rfl⟩
          have HI : Hid ((Try.prog.info? 38).map (·.size) = some zs.length) := by show _ = _; rw [HZS.out]; exact reqK_ok.info
          have H1 : Hid (zs.toArray.all (·.oneCell') = true) := by show _ = _; rw [HZS.out]; exact all_oneCell_toArray reqK_ok.zone
          have HLN : Hid (zs.length = reqK.z.length) := by show _ = _; rw [HZS.out]
          have HNO : Hid (RdRes reqK w (whole (reqS l)) (.returned (.tuple #[.agg zs.toArray, .int .i64 3])) (w10.setCells w.heap.size 0 zs)) := by rw [HZS.out]; exact rf_no (K := reqK) HG9.out hwn
          have hB6 : Hid (Blk (w10.setCells w.heap.size 0 zs) w.heap.size zs 38) := HRES.out.whole zs HLN.out
          clear HG9
          go_wp2_with (first
            | (with_reducible refine wpSeq_buildK buildZreqK ?_ ?_ HZS.out ?_
               · rfl
               · rfl
               skip)
            | (with_reducible refine wpList_store_mid ?_ 38 (.tmp 2) (.tmp 41) ?_ w.heap.size 0 zs.toArray ?_ ?_ (HRES.out.there 0 _ (by rw [List.size_toArray, HLN.out]; omega)) (by rw [List.size_toArray]; exact HI.out) H1.out ?_
               · rfl
               · rfl
               · rfl
               · rfl))
          exact bodyPost_ret (v := .tuple #[.agg zs.toArray, .int .i64 3]) (results_row_tmp (by rfl) _ _ _ w.heap.size 38 zs _ (.int .i64 3) rfl rfl hB6.out Try.underlying38 rfl HI.out) rfl HNO.out
end Go.Proofs.Ytldbcglakeggaaa

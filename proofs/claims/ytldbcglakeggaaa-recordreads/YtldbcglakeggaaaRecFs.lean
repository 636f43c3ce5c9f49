/- The walk of the reference's ReadSigned. -/
import Derived.Test.YtldbcglakeggaaaRecFq
import Derived.Deep.DeepCutAuto
namespace Go.Proofs.Ytldbcglakeggaaa
open Go.RowKit
set_option maxRecDepth 100000 in
set_option maxHeartbeats 4000000 in
theorem rfRdSigned_any (v : Value) (l : List (BitVec 8)) (w : World) (hb : Reads w v l) (hl : l.length ≤ 9223372036854775807) :
    Calls Try.prog 30 #[v] w (RdRes sgnK w (whole (signedR l))) := by
  have HL : Hid (l.length ≤ 9223372036854775807) := hl
  obtain ⟨ad, cap, hv, _, _, _⟩ := id hb
  obtain ⟨m, HM⟩ : ∃ m, Hid (m = l.length) := ⟨_, rfl⟩
  rw [← HM.out] at hv
  subst hv
  have H : Hid (Rf0 w (.slice ad m cap) l 0 false 42 sgnK.z ((w.alloc (.cells sgnK.z.toArray 42)).alloc (.cells [(.slice ad m cap), .int .i64 0, .bool false].toArray 77))) := Rf0.start hb
  clear hb hl
  go_enter Try.func30, Try.ntmps30
  go_upto_region 2 with (first
    | (with_reducible refine wpSeq_allocK allocSigned ?_ ?_ ?_
       · rfl
       · rfl
       skip))
  generalize (w.alloc (.cells sgnK.z.toArray 42)).alloc (.cells [(.slice ad m cap), .int .i64 0, .bool false].toArray 77) = w0 at *
  obtain ⟨zs, HZS⟩ : ∃ x, Hid (x = sgnK.z) := ⟨_, rfl⟩
  have HLN0 : Hid (zs.length = sgnK.z.length) := by show _ = _; rw [HZS.out]
  have HI0 : Hid ((Try.prog.info? 42).map (·.size) = some zs.length) := by show _ = _; rw [HLN0.out]; exact sgnK_ok.info
  have H10 : Hid (zs.toArray.all (·.oneCell') = true) := by show _ = _; rw [HZS.out]; exact all_oneCell_toArray sgnK_ok.zone
  go_wp2_with (first
    | (with_reducible refine wpSeq_buildK buildZsgnK ?_ ?_ HZS.out ?_
       · rfl
       · rfl
       skip)
    | (with_reducible refine wpSeq_allocK allocSigned ?_ ?_ ?_
       · rfl
       · rfl
       skip)
    | (with_reducible refine wpList_store_mid ?_ 42 (.tmp 5) (.tmp 9) ?_ w0.heap.size 0 zs.toArray ?_ ?_ ((Blk.new w0 sgnK.z 42).there 0 _ (by rw [List.size_toArray, HLN0.out]; omega)) (by rw [List.size_toArray]; exact HI0.out) H10.out ?_
       · rfl
       · rfl
       · rfl
       · rfl))
  change Calls _ _ _ ((w0.alloc (.cells sgnK.z.toArray 42)).setCells w0.heap.size 0 zs) _
  have HG : Hid (Rf w w0.heap.size (.slice ad m cap) l 0 false 42 sgnK.z zs ((w0.alloc (.cells sgnK.z.toArray 42)).setCells w0.heap.size 0 zs)) := H.out.lay HLN0.out
  clear H
  generalize (w0.alloc (.cells sgnK.z.toArray 42)).setCells w0.heap.size 0 zs = w1 at *
  obtain ⟨gx, HGX⟩ : ∃ x, Hid (x = w0.heap.size) := ⟨_, rfl⟩
  rw [← HGX.out] at HG ⊢
  rw [HZS.out, show sgnK.z = sgnV 0 zb32 zb32 zb32 nilV from rfl] at HG
  clear HGX HLN0 HI0 H10 HZS
  refine (innum_m _ _ l 0 false w1 HG.out.st.inp HL.out).mono ?_
  rintro e w2 ⟨ep, p1, u, b1, rfl, rfl, hs, hon, hm⟩
  have HM1 : Hid (Mg (readNum (l.drop 0)) false b1 ep l p1) := hm
  have HGn : Hid (Rf w gx (.slice ad m cap) l p1 b1 42 sgnK.z (sgnV 0 zb32 zb32 zb32 nilV) w2) := HG.out.call hs hon
  clear HG
  have HG := HGn
  clear HGn
  have cq : w2.cell? ⟨gx, 0, none⟩ = some (.int .u64 0) := HG.out.thg.cell 0
  have fq : w2.frozen? ⟨gx, 0, none⟩ = false := HG.out.thg.frozen 0
  have HGn : Hid (Rf w gx (.slice ad m cap) l p1 b1 42 sgnK.z (sgnV ep zb32 zb32 zb32 nilV) (w2.setCell ⟨gx, 0, none⟩ (.int .u64 (ep : Int)))) := HG.out.at ((At.refl _ _).setCell _ _) (HG.out.thg.set 0 _)
  clear HG  hs hon hm
  have HG := HGn
  clear HGn 
  go_wp2_with fail
  clear cq fq
  generalize w2.setCell ⟨gx, 0, none⟩ (.int .u64 (ep : Int)) = w3 at *
  refine (indigest_n _ _ l p1 b1 w3 HG.out.st.inp HL.out).mono ?_
  rintro e w4 ⟨x, p2, b2, rfl, hlen, hs, hon, hm⟩
  have HM2 : Hid (Mg (cut 32 (l.drop p1)) b1 b2 x l p2) := hm
  have HDL : Hid (x.length = 32) := hlen
  have HGn : Hid (Rf w gx (.slice ad m cap) l p2 b2 42 sgnK.z (sgnV ep zb32 zb32 zb32 nilV) w4) := HG.out.call hs hon
  clear HG
  have HG := HGn
  clear HGn
  clear hs hon hm hlen
  have HGn : Hid (Rf w gx (.slice ad m cap) l p2 b2 42 sgnK.z (sgnV ep x zb32 zb32 nilV) (w4.setCells gx 1 (cb x))) := HG.out.at (At.setCells _ _ _ (At.refl _ _)) (sgnV_x HG.out.thg len0 HDL.out)
  have HT : Hid (w4.there gx 1 (cb x).toArray.size) := HG.out.thg.there 1 _ (by rw [List.size_toArray, cb_len, HDL.out, sgnV_total len0 len0 len0]; omega)
  have HIZ : Hid ((Try.prog.info? 28).map (·.size) = some (cb x).toArray.size) := by show _ = _; rw [List.size_toArray, cb_len, HDL.out]; exact Try.infodig
  clear HG 
  have HG := HGn
  clear HGn 
  go_wp2_with (refine wpList_store_mid rfl 28 _ _ rfl gx 1 (cb x).toArray rfl rfl HT.out HIZ.out (all_oneCell_toArray (cb_one x)) ?_)
  clear HT HIZ
  change Calls _ _ _ (w4.setCells gx 1 (cb x)) _
  generalize w4.setCells gx 1 (cb x) = w5 at *
  have HX := HDL
  clear HDL
  refine (indigest_n _ _ l p2 b2 w5 HG.out.st.inp HL.out).mono ?_
  rintro e w6 ⟨y, p3, b3, rfl, hlen, hs, hon, hm⟩
  have HM3 : Hid (Mg (cut 32 (l.drop p2)) b2 b3 y l p3) := hm
  have HDL : Hid (y.length = 32) := hlen
  have HGn : Hid (Rf w gx (.slice ad m cap) l p3 b3 42 sgnK.z (sgnV ep x zb32 zb32 nilV) w6) := HG.out.call hs hon
  clear HG
  have HG := HGn
  clear HGn
  clear hs hon hm hlen
  have HGn : Hid (Rf w gx (.slice ad m cap) l p3 b3 42 sgnK.z (sgnV ep x y zb32 nilV) (w6.setCells gx 33 (cb y))) := HG.out.at (At.setCells _ _ _ (At.refl _ _)) (sgnV_y HG.out.thg HX.out len0 HDL.out)
  have HT : Hid (w6.there gx 33 (cb y).toArray.size) := HG.out.thg.there 33 _ (by rw [List.size_toArray, cb_len, HDL.out, sgnV_total HX.out len0 len0]; omega)
  have HIZ : Hid ((Try.prog.info? 28).map (·.size) = some (cb y).toArray.size) := by show _ = _; rw [List.size_toArray, cb_len, HDL.out]; exact Try.infodig
  clear HG 
  have HG := HGn
  clear HGn 
  go_wp2_with (refine wpList_store_mid rfl 28 _ _ rfl gx 33 (cb y).toArray rfl rfl HT.out HIZ.out (all_oneCell_toArray (cb_one y)) ?_)
  clear HT HIZ
  change Calls _ _ _ (w6.setCells gx 33 (cb y)) _
  generalize w6.setCells gx 33 (cb y) = w7 at *
  have HY := HDL
  clear HDL
  refine (indigest_n _ _ l p3 b3 w7 HG.out.st.inp HL.out).mono ?_
  rintro e w8 ⟨z, p4, b4, rfl, hlen, hs, hon, hm⟩
  have HM4 : Hid (Mg (cut 32 (l.drop p3)) b3 b4 z l p4) := hm
  have HDL : Hid (z.length = 32) := hlen
  have HGn : Hid (Rf w gx (.slice ad m cap) l p4 b4 42 sgnK.z (sgnV ep x y zb32 nilV) w8) := HG.out.call hs hon
  clear HG
  have HG := HGn
  clear HGn
  clear hs hon hm hlen
  have HGn : Hid (Rf w gx (.slice ad m cap) l p4 b4 42 sgnK.z (sgnV ep x y z nilV) (w8.setCells gx 65 (cb z))) := HG.out.at (At.setCells _ _ _ (At.refl _ _)) (sgnV_z HG.out.thg HX.out HY.out len0 HDL.out)
  have HT : Hid (w8.there gx 65 (cb z).toArray.size) := HG.out.thg.there 65 _ (by rw [List.size_toArray, cb_len, HDL.out, sgnV_total HX.out HY.out len0]; omega)
  have HIZ : Hid ((Try.prog.info? 28).map (·.size) = some (cb z).toArray.size) := by show _ = _; rw [List.size_toArray, cb_len, HDL.out]; exact Try.infodig
  clear HG 
  have HG := HGn
  clear HGn 
  go_wp2_with (refine wpList_store_mid rfl 28 _ _ rfl gx 65 (cb z).toArray rfl rfl HT.out HIZ.out (all_oneCell_toArray (cb_one z)) ?_)
  clear HT HIZ
  change Calls _ _ _ (w8.setCells gx 65 (cb z)) _
  generalize w8.setCells gx 65 (cb z) = w9 at *
  have HZ := HDL
  clear HDL
  refine (intext_m _ _ l p4 b4 w9 HG.out.st.inp HL.out).mono ?_
  rintro e w10 ⟨sg, p5, u, b5, rfl, ho, hs, hon, hm⟩
  have HM5 : Hid (Mg (readText (l.drop p4)) b4 b5 sg l p5) := hm
  have HGn : Hid (Rf w gx (.slice ad m cap) l p5 b5 42 sgnK.z (sgnV ep x y z nilV) w10) := HG.out.call hs hon
  have HO : Hid (OwnB w10 (gx + 1) u sg) := ho.mono HG.out.thg.lt
  obtain ⟨ak, ck, hu, _, _, _⟩ := ho.reads
  obtain ⟨n, HNn⟩ : ∃ x, Hid (x = sg.length) := ⟨_, rfl⟩
  rw [← HNn.out] at hu
  subst hu
  clear HG
  have HG := HGn
  clear HGn
  have cq : w10.cell? ⟨gx, 97, none⟩ = some (.slice none 0 0) := sgnV_last HG.out.thg HX.out HY.out HZ.out
  have fq : w10.frozen? ⟨gx, 97, none⟩ = false := HG.out.thg.frozen 97
  have HGn : Hid (Rf w gx (.slice ad m cap) l p5 b5 42 sgnK.z (sgnV ep x y z (.slice ak n ck)) (w10.setCell ⟨gx, 97, none⟩ (.slice ak n ck))) := HG.out.at ((At.refl _ _).setCell _ _) (sgnV_sig HG.out.thg HX.out HY.out HZ.out)
  have HOn : Hid (OwnB (w10.setCell ⟨gx, 97, none⟩ (.slice ak n ck)) (gx + 1) (.slice ak n ck) sg) := HO.out.at1 ((At.refl _ _).setCell _ _) (Nat.lt_succ_self _)
  clear HG HO ho hs hon hm
  have HG := HGn
  have HO := HOn
  clear HGn HOn
  go_wp2_with fail
  clear cq fq
  generalize w10.setCell ⟨gx, 97, none⟩ (.slice ak n ck) = w11 at *
  have HWH := sgn_mg HM1.out HM2.out HM3.out HM4.out HM5.out HG.out.st.inp.le
  have HEP : Hid (b5 = false → ep < 18446744073709551616) := fun h => by
    have hh := mg_good (HM1.out.then (HM2.out.then (HM3.out.then (HM4.out.then HM5.out))) : Mg (signedR (l.drop 0)) false b5 (ep, x, y, z, sg) l p5) h
    rw [List.drop_zero] at hh
    exact ((codes_signed _ _ _).1 hh).1.1
  clear HM1 HM2 HM3 HM4 HM5
  refine (indone_any _ _ l p5 b5 w11 HG.out.st.inp).mono ?_
  rintro e wd ⟨rfl, q, rfl⟩
  have HGn : Hid (Rf w gx (.slice ad m cap) l p5 b5 42 sgnK.z (sgnV ep x y z (.slice ak n ck)) (w11.drewN q)) := HG.out.drewN q
  have HOn : Hid (OwnB (w11.drewN q) (gx + 1) (.slice ak n ck) sg) := HO.out.same fun _ _ => rfl
  clear HG HO
  have HG := HGn
  have HO := HOn
  clear HGn HOn
  have HB3 : Hid ((!b5 && decide (p5 = l.length)) = true → b5 = false) := fun h => by cases b5 with | true => simp at h | false => rfl
  generalize w11.drewN q = wz at *
  obtain ⟨dn, HDN⟩ : ∃ x, Hid (x = (!b5 && decide (p5 = l.length))) := ⟨_, rfl⟩
  rw [← HDN.out] at HWH HB3 ⊢
  replace HWH : Hid _ := HWH
  clear HDN
  cases dn with
  | false =>
    have HRES : Hid (Blk wz w.heap.size sgnK.z 42) := HG.out.st.res
    obtain ⟨zs, HZS⟩ : ∃ x, Hid (x = sgnK.z) := ⟨_, rfl⟩
    have HI : Hid ((Try.prog.info? 42).map (·.size) = some zs.length) := by show _ = _; rw [HZS.out]; exact sgnK_ok.info
    have H1 : Hid (zs.toArray.all (·.oneCell') = true) := by show _ = _; rw [HZS.out]; exact all_oneCell_toArray sgnK_ok.zone
    have HLN : Hid (zs.length = sgnK.z.length) := by show _ = _; rw [HZS.out]
    have HNO : Hid (RdRes sgnK w (whole (signedR l)) (.returned (.tuple #[.agg zs.toArray, .int .i64 3])) (wz.setCells w.heap.size 0 zs)) := by rw [HZS.out]; exact rf_no (K := sgnK) HG.out (by have h := HWH.out; simpa using h)
    have hB6 : Hid (Blk (wz.setCells w.heap.size 0 zs) w.heap.size zs 42) := HRES.out.whole zs HLN.out
    clear HG
    go_wp2_with (first
      | (with_reducible refine wpSeq_buildK buildZsgnK ?_ ?_ HZS.out ?_
         · rfl
         · rfl
         skip)
      | (with_reducible refine wpList_store_mid ?_ 42 (.tmp 2) (.tmp 32) ?_ w.heap.size 0 zs.toArray ?_ ?_ (HRES.out.there 0 _ (by rw [List.size_toArray, HLN.out]; omega)) (by rw [List.size_toArray]; exact HI.out) H1.out ?_
         · rfl
         · rfl
         · rfl
         · rfl))
    exact bodyPost_ret (v := .tuple #[.agg zs.toArray, .int .i64 3]) (results_row_tmp (by rfl) _ _ _ w.heap.size 42 zs _ (.int .i64 3) rfl rfl hB6.out Try.underlying42 rfl HI.out) rfl HNO.out
  | true =>
    have HEP2 : Hid (ep < 18446744073709551616) := HEP.out (HB3.out rfl)
    have hw2 : whole (signedR l) = some (ep, x, y, z, sg) := by have h := HWH.out; simpa using h
    clear HB3 HEP HWH
    obtain ⟨cs, HCS⟩ : ∃ cs, Hid (cs = (sgnV ep x y z (.slice ak n ck))) := ⟨_, rfl⟩
    have hG : sgnK.G wz (w.heap.size + 2) (ep, x, y, z, sg) cs := by rw [HCS.out]; exact ⟨_, rfl, HO.out.mono (by have := HG.out.lt; omega), HX.out, HY.out, HZ.out, HEP2.out⟩
    rw [← HCS.out] at HG
    have HRES : Hid (Blk wz w.heap.size sgnK.z 42) := HG.out.st.res
    have HTH : Hid (Blk wz gx cs 42) := HG.out.thg
    have HI : Hid ((Try.prog.info? 42).map (·.size) = some cs.length) := by have := sgnK_ok.size hG; rw [List.size_toArray] at this; exact this
    have H1 : Hid (cs.toArray.all (·.oneCell') = true) := all_oneCell_toArray (sgnK_ok.one hG)
    have HLN : Hid (cs.length = sgnK.z.length) := sgnK_ok.len hG
    have HYS : Hid (RdRes sgnK w (whole (signedR l)) (.returned (.tuple #[.agg cs.toArray, .int .i64 0])) (wz.setCells w.heap.size 0 cs)) := rf_yes sgnK_ok HG.out hw2 hG
    have hB6 : Hid (Blk (wz.setCells w.heap.size 0 cs) w.heap.size cs 42) := HRES.out.whole cs HLN.out
    clear HG hG
    go_wp2_with (first
      | (with_reducible refine wpSeq_loadK 42 (.tmp 5) ?_ ?_ gx ?_ cs _ HTH.out Try.underlying42 ?_ HI.out ?_
         · rfl
         · rfl
         · rfl
         · rfl)
      | (with_reducible refine wpList_store_mid ?_ 42 (.tmp 2) (.tmp 33) ?_ w.heap.size 0 cs.toArray ?_ ?_ (HRES.out.there 0 _ (by rw [List.size_toArray, HLN.out]; omega)) (by rw [List.size_toArray]; exact HI.out) H1.out ?_
         · rfl
         · rfl
         · rfl
         · rfl))
    exact bodyPost_ret (v := .tuple #[.agg cs.toArray, .int .i64 0]) (results_row_tmp (by rfl) _ _ _ w.heap.size 42 cs _ (.int .i64 0) rfl rfl hB6.out Try.underlying42 rfl HI.out) rfl HYS.out
end Go.Proofs.Ytldbcglakeggaaa

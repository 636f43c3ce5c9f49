/- The walk of the reference's ReadBinding. -/
import Derived.Test.YtldbcglakeggaaaRecFr
import Derived.Test.YtldbcglakeggaaaRecOneL
namespace Go.Proofs.Ytldbcglakeggaaa
open Go.RowKit
theorem Rf0.new {w W : World} {v : Value} {l : List (BitVec 8)} {p : Nat} {b : Bool} {t : TypeId} {z cs : List Value} (h : Rf0 w v l p b t z W) : Rf w W.heap.size v l p b t z cs (W.alloc (.cells cs.toArray t)) :=
  ⟨h.next ((below_alloc W _).mono h.sz), Blk.new W cs t, h.sz⟩
theorem buildZbindK (f : Operand → Value) (o : Oper) (ho : o.op = .build 25 #[]) (w : World) : (execOp f o).run Try.prog w = .ok (.value (.agg bindK.z.toArray)) w := by
  unfold execOp
  rw [ho]
  kernel_rfl
theorem buildZreqK (f : Operand → Value) (o : Oper) (ho : o.op = .build 38 #[]) (w : World) : (execOp f o).run Try.prog w = .ok (.value (.agg reqK.z.toArray)) w := by
  unfold execOp
  rw [ho]
  kernel_rfl
theorem buildZsgnK (f : Operand → Value) (o : Oper) (ho : o.op = .build 42 #[]) (w : World) : (execOp f o).run Try.prog w = .ok (.value (.agg sgnK.z.toArray)) w := by
  unfold execOp
  rw [ho]
  kernel_rfl
theorem buildZprfK (f : Operand → Value) (o : Oper) (ho : o.op = .build 30 #[]) (w : World) : (execOp f o).run Try.prog w = .ok (.value (.agg prfK.z.toArray)) w := by
  unfold execOp
  rw [ho]
  kernel_rfl
theorem wpSeq_buildK {ty : TypeId} {z : List Value} {ops : Array Oper} {Q : Exit → Act → World → Prop} {rest : List Oper} {o : Oper} {a : Act} {w : World} (hbd : ∀ (f : Operand → Value) (o : Oper), o.op = .build ty #[] → ∀ w, (execOp f o).run Try.prog w = .ok (.value (.agg z.toArray)) w)
    (ho : o.op = .build ty #[]) (hw : Region.wanted o (yielded ops a.tmps) = true) {zs : List Value} (hz : zs = z) (h : wpList Try.prog ops Q rest (a.put o.dst (.agg zs.toArray)) w) : wpList Try.prog ops Q (o :: rest) a w := by
  subst hz
  exact wpSeq_val _ _ hw (hbd _ _ ho _) h
theorem bind_mg {l nm ky : List (BitVec 8)} {sr p1 p2 p3 : Nat} {b1 b2 b3 : Bool} (h1 : Mg (readText (l.drop 0)) false b1 nm l p1) (h2 : Mg (readText (l.drop p1)) b1 b2 ky l p2) (h3 : Mg (readNum (l.drop p2)) b2 b3 sr l p3) (hp : p3 ≤ l.length) :
    whole (bindS l) = if (!b3 && decide (p3 = l.length)) && decide (chk nm ky = 0) then some (nm, ky, sr) else none := by
  have h : Mg (bindR (l.drop 0)) false b3 (nm, ky, sr) l p3 := h1.then (h2.then h3)
  rw [List.drop_zero] at h
  rw [bindS_R]
  exact mg_whole h hp _
theorem req_mg {l nm ky au : List (BitVec 8)} {kd p1 p2 p3 p4 : Nat} {b1 b2 b3 b4 : Bool} (h1 : Mg (readCount 2 (l.drop 0)) false b1 kd l p1) (h2 : Mg (readText (l.drop p1)) b1 b2 nm l p2) (h3 : Mg (readText (l.drop p2)) b2 b3 ky l p3) (h4 : Mg (authR kd (l.drop p3)) b3 b4 au l p4) (hp : p4 ≤ l.length) :
    whole (reqS l) = if (!b4 && decide (p4 = l.length)) && (decide (1 ≤ kd) && decide (chk nm ky = 0)) then some (kd, nm, ky, au) else none := by
  have h : Mg (requestR (l.drop 0)) false b4 (kd, nm, ky, au) l p4 := h1.then (h2.then (h3.then h4))
  rw [List.drop_zero] at h
  rw [reqS_R]
  exact mg_whole h hp _
theorem sgn_mg {l x y z sg : List (BitVec 8)} {ep p1 p2 p3 p4 p5 : Nat} {b1 b2 b3 b4 b5 : Bool} (h1 : Mg (readNum (l.drop 0)) false b1 ep l p1) (h2 : Mg (cut 32 (l.drop p1)) b1 b2 x l p2) (h3 : Mg (cut 32 (l.drop p2)) b2 b3 y l p3) (h4 : Mg (cut 32 (l.drop p3)) b3 b4 z l p4) (h5 : Mg (readText (l.drop p4)) b4 b5 sg l p5) (hp : p5 ≤ l.length) :
    whole (signedR l) = if (!b5 && decide (p5 = l.length)) then some (ep, x, y, z, sg) else none := by
  have h : Mg (signedR (l.drop 0)) false b5 (ep, x, y, z, sg) l p5 := h1.then (h2.then (h3.then (h4.then h5)))
  rw [List.drop_zero] at h
  have := mg_whole h hp (fun _ => true)
  rw [onlyIf_true, Bool.and_true] at this
  exact this
set_option maxRecDepth 100000 in
set_option maxHeartbeats 4000000 in
theorem rfRdBinding_any (v : Value) (l : List (BitVec 8)) (w : World) (hb : Reads w v l) (hl : l.length ≤ 9223372036854775807) :
    Calls Try.prog 24 #[v] w (RdRes bindK w (whole (bindS l))) := by
  have HL : Hid (l.length ≤ 9223372036854775807) := hl
  obtain ⟨ad, cap, hv, _, _, _⟩ := id hb
  obtain ⟨m, HM⟩ : ∃ m, Hid (m = l.length) := ⟨_, rfl⟩
  rw [← HM.out] at hv
  subst hv
  have H : Hid (Rf0 w (.slice ad m cap) l 0 false 25 bindK.z ((w.alloc (.cells bindK.z.toArray 25)).alloc (.cells [(.slice ad m cap), .int .i64 0, .bool false].toArray 77))) := Rf0.start hb
  clear hb hl
  go_enter Try.func24, Try.ntmps24
  go_wp2_with fail
  change Calls _ _ _ ((w.alloc (.cells bindK.z.toArray 25)).alloc (.cells [(.slice ad m cap), .int .i64 0, .bool false].toArray 77)) _
  generalize ((w.alloc (.cells bindK.z.toArray 25)).alloc (.cells [(.slice ad m cap), .int .i64 0, .bool false].toArray 77)) = w0 at *
  refine (intext_m _ _ l 0 false w0 H.out.inp HL.out).mono ?_
  rintro e w1 ⟨nm, p1, u, b1, rfl, ho, hs, hon, hm⟩
  have HM1 : Hid (Mg (readText (l.drop 0)) false b1 nm l p1) := hm
  have hcv := conv_reads ho.reads
  have HR : Hid (Rf0 w (.slice ad m cap) l p1 b1 25 bindK.z w1) := H.out.call hs hon
  clear ho hs hon hm H
  go_wp2_with fail
  clear hcv
  change Calls _ _ _ (w1.alloc (.cells (bindV nm nilV 0).toArray 25)) _
  have HG : Hid (Rf w w1.heap.size (.slice ad m cap) l p1 b1 25 bindK.z (bindV nm nilV 0) (w1.alloc (.cells (bindV nm nilV 0).toArray 25))) := HR.out.new
  clear HR
  generalize w1.alloc (.cells (bindV nm nilV 0).toArray 25) = w2 at *
  obtain ⟨gx, HGX⟩ : ∃ x, Hid (x = w1.heap.size) := ⟨_, rfl⟩
  rw [← HGX.out] at HG ⊢
  clear HGX
  refine (intext_m _ _ l p1 b1 w2 HG.out.st.inp HL.out).mono ?_
  rintro e w3 ⟨ky, p2, u, b2, rfl, ho, hs, hon, hm⟩
  have HM2 : Hid (Mg (readText (l.drop p1)) b1 b2 ky l p2) := hm
  have HG3 : Hid (Rf w gx (.slice ad m cap) l p2 b2 25 bindK.z (bindV nm nilV 0) w3) := HG.out.call hs hon
  have HO3 : Hid (OwnB w3 (gx + 1) u ky) := ho.mono HG.out.thg.lt
  obtain ⟨ak, ck, hu, _, _, _⟩ := ho.reads
  obtain ⟨n, HNn⟩ : ∃ x, Hid (x = ky.length) := ⟨_, rfl⟩
  rw [← HNn.out] at hu
  subst hu
  have c3 : w3.cell? ⟨gx, 1, none⟩ = some (.slice none 0 0) := HG3.out.thg.cell 1
  have f3 : w3.frozen? ⟨gx, 1, none⟩ = false := HG3.out.thg.frozen 1
  have HG4 : Hid (Rf w gx (.slice ad m cap) l p2 b2 25 bindK.z (bindV nm (.slice ak n ck) 0) (w3.setCell ⟨gx, 1, none⟩ (.slice ak n ck))) := HG3.out.at ((At.refl _ _).setCell _ _) (HG3.out.thg.set 1 _)
  have HO4 : Hid (OwnB (w3.setCell ⟨gx, 1, none⟩ (.slice ak n ck)) (gx + 1) (.slice ak n ck) ky) := HO3.out.at1 ((At.refl _ _).setCell _ _) (Nat.lt_succ_self _)
  clear ho hs hon hm HG HG3 HO3
  go_wp2_with fail
  clear c3 f3
  generalize w3.setCell ⟨gx, 1, none⟩ (.slice ak n ck) = w4 at *
  refine (innum_m _ _ l p2 b2 w4 HG4.out.st.inp HL.out).mono ?_
  rintro e w5 ⟨sr, p3, u, b3, rfl, rfl, hs, hon, hm⟩
  have HM3 : Hid (Mg (readNum (l.drop p2)) b2 b3 sr l p3) := hm
  have HG5 : Hid (Rf w gx (.slice ad m cap) l p3 b3 25 bindK.z (bindV nm (.slice ak n ck) 0) w5) := HG4.out.call hs hon
  have HO5 : Hid (OwnB w5 (gx + 1) (.slice ak n ck) ky) := HO4.out.only1 hon (by have := HG4.out.lt; omega)
  have c5 : w5.cell? ⟨gx, 2, none⟩ = some (.int .u64 0) := HG5.out.thg.cell 2
  have f5 : w5.frozen? ⟨gx, 2, none⟩ = false := HG5.out.thg.frozen 2
  have HG6 : Hid (Rf w gx (.slice ad m cap) l p3 b3 25 bindK.z (bindV nm (.slice ak n ck) sr) (w5.setCell ⟨gx, 2, none⟩ (.int .u64 (sr : Int)))) := HG5.out.at ((At.refl _ _).setCell _ _) (HG5.out.thg.set 2 _)
  have HO6 : Hid (OwnB (w5.setCell ⟨gx, 2, none⟩ (.int .u64 (sr : Int))) (gx + 1) (.slice ak n ck) ky) := HO5.out.at1 ((At.refl _ _).setCell _ _) (Nat.lt_succ_self _)
  clear hs hon hm HG4 HG5 HO5 HO4
  go_wp2_with fail
  clear c5 f5
  generalize w5.setCell ⟨gx, 2, none⟩ (.int .u64 (sr : Int)) = w6 at *
  have HWH : whole (bindS l) = if (!b3 && decide (p3 = l.length)) && decide (chk nm ky = 0) then some (nm, ky, sr) else none := bind_mg HM1.out HM2.out HM3.out HG6.out.st.inp.le
  have HSR : Hid (b3 = false → sr < 18446744073709551616) := fun h => by
    rcases HM3.out with ⟨_, _, h3⟩ | ⟨h3, _⟩
    · exact ((readNum_iff _ _ _).1 h3).1
    · rw [h] at h3; cases h3
  refine (indone_any _ _ l p3 b3 w6 HG6.out.st.inp).mono ?_
  rintro e w7 ⟨rfl, q, rfl⟩
  have HG7 := HG6.out.drewN q
  have HO7 : Hid (OwnB (w6.drewN q) (gx + 1) (.slice ak n ck) ky) := HO6.out.same fun _ _ => rfl
  replace HG7 : Hid _ := HG7
  have HB3 : Hid ((!b3 && decide (p3 = l.length)) = true → b3 = false) := fun h => by cases b3 with | true => simp at h | false => rfl
  generalize w6.drewN q = w8 at *
  obtain ⟨dn, HDN⟩ : ∃ x, Hid (x = (!b3 && decide (p3 = l.length))) := ⟨_, rfl⟩
  rw [← HDN.out] at HWH HB3 ⊢
  replace HWH : Hid _ := HWH
  clear HG6 HO6 HM1 HM2 HM3 HDN
  cases dn with
  | false =>
    have HRES : Hid (Blk w8 w.heap.size bindK.z 25) := HG7.out.st.res
    obtain ⟨zs, HZS⟩ : ∃ x, Hid (x = bindK.z) := ⟨_, rfl⟩
    have HI : Hid ((Try.prog.info? 25).map (·.size) = some zs.length) := by show _ = _; rw [HZS.out]; exact bindK_ok.info
    have H1 : Hid (zs.toArray.all (·.oneCell') = true) := by show _ = _; rw [HZS.out]; exact all_oneCell_toArray bindK_ok.zone
    have HLN : Hid (zs.length = bindK.z.length) := by show _ = _; rw [HZS.out]
    have HNO : Hid (RdRes bindK w (whole (bindS l)) (.returned (.tuple #[.agg zs.toArray, .int .i64 3])) (w8.setCells w.heap.size 0 zs)) := by rw [HZS.out]; exact rf_no (K := bindK) HG7.out (by have h := HWH.out; rwa [Bool.false_and] at h)
    have hB6 : Hid (Blk (w8.setCells w.heap.size 0 zs) w.heap.size zs 25) := HRES.out.whole zs HLN.out
    clear HG7
    go_wp2_with (first
      | (with_reducible refine wpSeq_buildK buildZbindK ?_ ?_ HZS.out ?_
         · rfl
         · rfl
         skip)
      | (with_reducible refine wpList_store_mid ?_ 25 (.tmp 2) (.tmp 30) ?_ w.heap.size 0 zs.toArray ?_ ?_ (HRES.out.there 0 _ (by rw [List.size_toArray, HLN.out]; omega)) (by rw [List.size_toArray]; exact HI.out) H1.out ?_
         · rfl
         · rfl
         · rfl
         · rfl))
    exact bodyPost_ret (v := .tuple #[.agg zs.toArray, .int .i64 3]) (results_row_tmp (by rfl) _ _ _ w.heap.size 25 zs _ (.int .i64 3) rfl rfl hB6.out Try.underlying25 rfl HI.out) rfl HNO.out
  | true =>
    have HSR2 : Hid (sr < 18446744073709551616) := HSR.out (HB3.out rfl)
    have HW2 : Hid (whole (bindS l) = if decide (chk nm ky = 0) then some (nm, ky, sr) else none) := by have h := HWH.out; rwa [Bool.true_and] at h
    clear HB3 HSR HWH
    have n0 : w8.cell? ⟨gx, 0, none⟩ = some (.string (strB nm)) := HG7.out.thg.cell 0
    have n1 : w8.cell? ⟨gx, 1, none⟩ = some (.slice ak n ck) := HG7.out.thg.cell 1
    go_wp2_with fail
    refine (rfcheck_any nm ky (.slice ak n ck) w8 HO7.out.reads).mono ?_
    rintro e w9 ⟨rfl, q2, rfl⟩
    clear n0 n1
    have HG9 := HG7.out.drewN q2
    have HO9 : Hid (OwnB (w8.drewN q2) (gx + 1) (.slice ak n ck) ky) := HO7.out.same fun _ _ => rfl
    replace HG9 : Hid _ := HG9
    clear HG7 HO7
    generalize w8.drewN q2 = w10 at *
    by_cases hck : chk nm ky = 0
    · have hw2 : whole (bindS l) = some (nm, ky, sr) := by have h := HW2.out; rw [decide_eq_true hck] at h; exact h
      rw [hck]
      obtain ⟨cs, HCS⟩ : ∃ cs, Hid (cs = (bindV nm (.slice ak n ck) sr)) := ⟨_, rfl⟩
      have hG : bindK.G w10 (w.heap.size + 2) (nm, ky, sr) cs := by rw [HCS.out]; exact ⟨_, rfl, HO9.out.mono (by have := HG9.out.lt; omega), HSR2.out⟩
      rw [← HCS.out] at HG9
      have HRES : Hid (Blk w10 w.heap.size bindK.z 25) := HG9.out.st.res
      have HTH : Hid (Blk w10 gx cs 25) := HG9.out.thg
      have HI : Hid ((Try.prog.info? 25).map (·.size) = some cs.length) := by have := bindK_ok.size hG; rw [List.size_toArray] at this; exact this
      have H1 : Hid (cs.toArray.all (·.oneCell') = true) := all_oneCell_toArray (bindK_ok.one hG)
      have HLN : Hid (cs.length = bindK.z.length) := bindK_ok.len hG
      have HYS : Hid (RdRes bindK w (whole (bindS l)) (.returned (.tuple #[.agg cs.toArray, .int .i64 0])) (w10.setCells w.heap.size 0 cs)) := rf_yes bindK_ok HG9.out hw2 hG
      have hB6 : Hid (Blk (w10.setCells w.heap.size 0 cs) w.heap.size cs 25) := HRES.out.whole cs HLN.out
      clear HG9 hG
      go_wp2_with (first
        | (with_reducible refine wpSeq_loadK 25 (.tmp 5) ?_ ?_ gx ?_ cs _ HTH.out Try.underlying25 ?_ HI.out ?_
           · rfl
           · rfl
           · rfl
           · rfl)
        | (with_reducible refine wpList_store_mid ?_ 25 (.tmp 2) (.tmp 31) ?_ w.heap.size 0 cs.toArray ?_ ?_ (HRES.out.there 0 _ (by rw [List.size_toArray, HLN.out]; omega)) (by rw [List.size_toArray]; exact HI.out) H1.out ?_
           · rfl
           · rfl
           · rfl
           · rfl))
      exact bodyPost_ret (v := .tuple #[.agg cs.toArray, .int .i64 0]) (results_row_tmp (by rfl) _ _ _ w.heap.size 25 cs _ (.int .i64 0) rfl rfl hB6.out Try.underlying25 rfl HI.out) rfl HYS.out
    · have hwn : whole (bindS l) = none := by have h := HW2.out; rw [decide_eq_false hck] at h; exact h
      obtain ⟨ck', HCK⟩ : ∃ x, Hid (x = chk nm ky) := ⟨_, rfl⟩
      rw [← HCK.out] at hck ⊢
      have hckb : (ck' == 0) = false := by simpa using hck
      have HRES : Hid (Blk w10 w.heap.size bindK.z 25) := HG9.out.st.res
      obtain ⟨zs, HZS⟩ : ∃ x, Hid (x = bindK.z) := ⟨_, rfl⟩
      have HI : Hid ((Try.prog.info? 25).map (·.size) = some zs.length) := by show _ = _; rw [HZS.out]; exact bindK_ok.info
      have H1 : Hid (zs.toArray.all (·.oneCell') = true) := by show _ = _; rw [HZS.out]; exact all_oneCell_toArray bindK_ok.zone
      have HLN : Hid (zs.length = bindK.z.length) := by show _ = _; rw [HZS.out]
      have HNO : Hid (RdRes bindK w (whole (bindS l)) (.returned (.tuple #[.agg zs.toArray, .int .i64 3])) (w10.setCells w.heap.size 0 zs)) := by rw [HZS.out]; exact rf_no (K := bindK) HG9.out hwn
      have hB6 : Hid (Blk (w10.setCells w.heap.size 0 zs) w.heap.size zs 25) := HRES.out.whole zs HLN.out
      clear HG9
      go_wp2_with (first
        | (with_reducible refine wpSeq_buildK buildZbindK ?_ ?_ HZS.out ?_
           · rfl
           · rfl
           skip)
        | (with_reducible refine wpList_store_mid ?_ 25 (.tmp 2) (.tmp 30) ?_ w.heap.size 0 zs.toArray ?_ ?_ (HRES.out.there 0 _ (by rw [List.size_toArray, HLN.out]; omega)) (by rw [List.size_toArray]; exact HI.out) H1.out ?_
           · rfl
           · rfl
           · rfl
           · rfl))
      exact bodyPost_ret (v := .tuple #[.agg zs.toArray, .int .i64 3]) (results_row_tmp (by rfl) _ _ _ w.heap.size 25 zs _ (.int .i64 3) rfl rfl hB6.out Try.underlying25 rfl HI.out) rfl HNO.out
end Go.Proofs.Ytldbcglakeggaaa

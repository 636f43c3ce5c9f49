/- The walk of the reference's ReadProof. -/
import Derived.Test.YtldbcglakeggaaaRecFs
namespace Go.Proofs.Ytldbcglakeggaaa
open Go.RowKit
theorem OwnD.only1 {w w' : World} {base gi : Nat} {v : Value} {ds : List (List (BitVec 8))} (h : OwnD w base v ds) (ho : Only gi w w') (hg : gi < base) : OwnD w' base v ds := h.keep fun k h1 h2 => ho.block k (by omega) h2
theorem OwnD.at1 {w w' : World} {base g : Nat} {v : Value} {ds : List (List (BitVec 8))} (h : OwnD w base v ds) (ha : At g w w') (hg : g < base) : OwnD w' base v ds := h.keep fun k h1 _ => ha.block k (by omega)
/-- how far the sides were read -/
def PfG (l : List (BitVec 8)) (n p1 : Nat) (b1 : Bool) (k : Nat) (ds : List (List (BitVec 8))) (p : Nat) (b : Bool) : Prop :=
  (b = false ∧ b1 = false ∧ k ≤ n ∧ readAll (cut 32) n (l.drop p1) = (readAll (cut 32) (n - k) (l.drop p)).map (fun q => (ds ++ q.1, q.2))) ∨ (b = true ∧ (b1 = true ∨ readAll (cut 32) n (l.drop p1) = none))
theorem PfG.start (l : List (BitVec 8)) (n p1 : Nat) (b1 : Bool) : PfG l n p1 b1 0 [] p1 b1 := by
  cases b1 with
  | true => exact Or.inr ⟨rfl, Or.inl rfl⟩
  | false => exact Or.inl ⟨rfl, rfl, Nat.zero_le _, by simp⟩
theorem PfG.next {l : List (BitVec 8)} {n p1 : Nat} {b1 : Bool} {k : Nat} {ds : List (List (BitVec 8))} {p : Nat} {d : List (BitVec 8)} {p2 : Nat} {b2 : Bool} (h : PfG l n p1 b1 k ds p false) (hk : k < n) (hm : Mg (cut 32 (l.drop p)) false b2 d l p2) : PfG l n p1 b1 (k + 1) (ds ++ [d]) p2 b2 := by
  rcases h with ⟨_, h1, h2, he⟩ | ⟨h, _⟩
  · rw [show n - k = (n - (k + 1)) + 1 by omega] at he
    rcases hm with ⟨rfl, _, hm⟩ | ⟨rfl, hm⟩
    · exact Or.inl ⟨rfl, h1, by omega, readAll_more (cut 32) (n - (k + 1)) (l.drop p) (l.drop p2) d n ds (l.drop p1) he hm⟩
    · rcases hm with hm | hm
      · cases hm
      · refine Or.inr ⟨rfl, Or.inr ?_⟩
        rw [he, readAll, hm]
        rfl
  · cases h
theorem PfG.done {l : List (BitVec 8)} {n p1 : Nat} {b1 : Bool} {k : Nat} {ds : List (List (BitVec 8))} {p : Nat} {b : Bool} (h : PfG l n p1 b1 k ds p b) (hk : n ≤ k ∨ b = true) : Mg (readAll (cut 32) n (l.drop p1)) b1 b ds l p := by
  rcases h with ⟨rfl, h1, h2, he⟩ | ⟨rfl, h⟩
  · have hkn : k = n := by
      rcases hk with hk | hk
      · omega
      · cases hk
    subst hkn
    refine Or.inl ⟨rfl, h1, ?_⟩
    rw [he, Nat.sub_self]
    simp [readAll]
  · exact Or.inr ⟨rfl, h⟩
/-- a side more -/
theorem pf_step {w W w4 w6 : World} {v vl vl2 : Value} {l d : List (BitVec 8)} {gx p p2 : Nat} {b b2 : Bool} {ds : List (List (BitVec 8))} (h : Rf w gx v l p b 30 prfK.z (prfV vl 0 zb32 zb32) W) (hown : OwnD W (gx + 1) vl ds) (hs : InS w4 (w.heap.size + 1) v l p2 b2) (hon : Only (w.heap.size + 1) W w4)
    (hown6 : OwnD w6 (gx + 1) vl2 (ds ++ [d])) (hgr : (w4.alloc (.cells (cb d).toArray 28)).grownBy w6 vl.ownBlock) :
    Rf w gx v l p2 b2 30 prfK.z (prfV vl2 0 zb32 zb32) (w6.setCell ⟨gx, 0, none⟩ vl2) ∧ OwnD (w6.setCell ⟨gx, 0, none⟩ vl2) (gx + 1) vl2 (ds ++ [d]) := by
  have h4 := h.call hs hon
  have hlt := h4.lt
  have b45 : Below (gx + 1) w4 (w4.alloc (.cells (cb d).toArray 28)) := (below_alloc w4 _).mono h4.thg.lt
  have b46 := b45.trans ((Below.refl _ _).grown hgr (Nat.le_trans h4.thg.lt b45.size) (fun k hk => (hown.lt k hk).1))
  have hat : At gx w6 (w6.setCell ⟨gx, 0, none⟩ vl2) := (At.refl _ _).setCell _ _
  have h6 : Rf w gx v l p2 b2 30 prfK.z (prfV vl 0 zb32 zb32) w6 := ⟨h4.st.next (b46.mono (by omega)), h4.thg.below b46 (by omega), h4.lt⟩
  exact ⟨h6.at hat (h6.thg.set 0 vl2), hown6.at1 hat (Nat.lt_succ_self _)⟩
theorem prf_mg {l ix va : List (BitVec 8)} {ds : List (List (BitVec 8))} {n en p1 p2 p3 p4 : Nat} {b1 b2 b3 b4 : Bool} (h1 : Mg (readCount 256 (l.drop 0)) false b1 n l p1) (h2 : Mg (readAll (cut 32) n (l.drop p1)) b1 b2 ds l p2) (h3 : Mg (readCount 1 (l.drop p2)) b2 b3 en l p3) (h4 : Mg (endR en (l.drop p3)) b3 b4 (ix, va) l p4) (hp : p4 ≤ l.length) :
    whole (proofR l) = (if (!b4 && decide (p4 = l.length)) then some (n, ds, en, ix, va) else none) ∧ (b4 = false → en ≤ 1 ∧ ds.length ≤ 256) := by
  have h : Mg (proofR (l.drop 0)) false b4 (n, ds, en, ix, va) l p4 := h1.then (h2.then (h3.then h4))
  rw [List.drop_zero] at h
  have hw := mg_whole h hp (fun _ => true)
  rw [onlyIf_true, Bool.and_true] at hw
  refine ⟨hw, fun hb => ?_⟩
  have hh := ((codes_proof _ _ _).1 (mg_good h hb)).1
  exact ⟨hh.2.2.1, by have h1 := hh.1; have h2 := hh.2.1.1; simp only at h1 h2; omega⟩
set_option maxRecDepth 100000 in
set_option maxHeartbeats 4000000 in
theorem rfRdProof_any (v : Value) (l : List (BitVec 8)) (w : World) (hb : Reads w v l) (hl : l.length ≤ 9223372036854775807) :
    Calls Try.prog 33 #[v] w (RdRes prfK w (whole (proofR l))) := by
  have HL : Hid (l.length ≤ 9223372036854775807) := hl
  obtain ⟨ad, cap, hv, _, _, _⟩ := id hb
  obtain ⟨m, HM⟩ : ∃ m, Hid (m = l.length) := ⟨_, rfl⟩
  rw [← HM.out] at hv
  subst hv
  have H : Hid (Rf0 w (.slice ad m cap) l 0 false 30 prfK.z ((w.alloc (.cells prfK.z.toArray 30)).alloc (.cells [(.slice ad m cap), .int .i64 0, .bool false].toArray 77))) := Rf0.start hb
  clear hb hl
  go_enter Try.func33, Try.ntmps33
  go_upto_region 2 with (first
    | (with_reducible refine wpSeq_allocK allocProof ?_ ?_ ?_
       · rfl
       · rfl
       skip))
  generalize (w.alloc (.cells prfK.z.toArray 30)).alloc (.cells [(.slice ad m cap), .int .i64 0, .bool false].toArray 77) = w0 at *
  obtain ⟨zs, HZS⟩ : ∃ x, Hid (x = prfK.z) := ⟨_, rfl⟩
  have HLN0 : Hid (zs.length = prfK.z.length) := by show _ = _; rw [HZS.out]
  have HI0 : Hid ((Try.prog.info? 30).map (·.size) = some zs.length) := by show _ = _; rw [HLN0.out]; exact prfK_ok.info
  have H10 : Hid (zs.toArray.all (·.oneCell') = true) := by show _ = _; rw [HZS.out]; exact all_oneCell_toArray prfK_ok.zone
  go_wp2_with (first
    | (with_reducible refine wpSeq_buildK buildZprfK ?_ ?_ HZS.out ?_
       · rfl
       · rfl
       skip)
    | (with_reducible refine wpSeq_allocK allocProof ?_ ?_ ?_
       · rfl
       · rfl
       skip)
    | (with_reducible refine wpList_store_mid ?_ 30 (.tmp 5) (.tmp 11) ?_ w0.heap.size 0 zs.toArray ?_ ?_ ((Blk.new w0 prfK.z 30).there 0 _ (by rw [List.size_toArray, HLN0.out]; omega)) (by rw [List.size_toArray]; exact HI0.out) H10.out ?_
       · rfl
       · rfl
       · rfl
       · rfl))
  change Calls _ _ _ ((w0.alloc (.cells prfK.z.toArray 30)).setCells w0.heap.size 0 zs) _
  have HG : Hid (Rf w w0.heap.size (.slice ad m cap) l 0 false 30 prfK.z zs ((w0.alloc (.cells prfK.z.toArray 30)).setCells w0.heap.size 0 zs)) := H.out.lay HLN0.out
  clear H
  generalize (w0.alloc (.cells prfK.z.toArray 30)).setCells w0.heap.size 0 zs = w1 at *
  obtain ⟨gx, HGX⟩ : ∃ x, Hid (x = w0.heap.size) := ⟨_, rfl⟩
  rw [← HGX.out] at HG ⊢
  rw [HZS.out, show prfK.z = prfV nilV 0 zb32 zb32 from rfl] at HG
  clear HGX HLN0 HI0 H10 HZS
  refine (incount_m _ _ l 0 false w1 256 (by omega) HG.out.st.inp HL.out).mono ?_
  rintro e w2 ⟨n, p1, u, b1, rfl, rfl, hs, hon, hm⟩
  have HM1 : Hid (Mg (readCount 256 (l.drop 0)) false b1 n l p1) := hm
  have HGn : Hid (Rf w gx (.slice ad m cap) l p1 b1 30 prfK.z (prfV nilV 0 zb32 zb32) w2) := HG.out.call hs hon
  have HIN : Hid (∃ (k : Nat) (ds : List (List (BitVec 8))) (p : Nat) (b : Bool) (vl : Value), (Value.int .i64 0) = .int .i64 (k : Int) ∧ Rf w gx (.slice ad m cap) l p b 30 prfK.z (prfV vl 0 zb32 zb32) w2 ∧ OwnD w2 (gx + 1) vl ds ∧ ds.length = k ∧ PfG l n p1 b1 k ds p b) := ⟨0, [], p1, b1, nilV, rfl, HGn.out, OwnD.nil _ _, rfl, PfG.start _ _ _ _⟩
  clear HG HGn hs hon hm
  go_wp2
  go_loopw [7] (fun i wr => ∃ (k : Nat) (ds : List (List (BitVec 8))) (p : Nat) (b : Bool) (vl : Value), i = .int .i64 (k : Int) ∧ Rf w gx (.slice ad m cap) l p b 30 prfK.z (prfV vl 0 zb32 zb32) wr ∧ OwnD wr (gx + 1) vl ds ∧ ds.length = k ∧ PfG l n p1 b1 k ds p b) (fun i _ => n - (intOf i).toNat)
  case atStart => exact HIN.out
  case round =>
    clear HIN
    obtain ⟨k, ds, p, b, vl, rfl, hrf, hown, hlen, hpg⟩ := hrel
    have HG : Hid (Rf w gx (.slice ad m cap) l p b 30 prfK.z (prfV vl 0 zb32 zb32) wr) := hrf
    have HO : Hid (OwnD wr (gx + 1) vl ds) := hown
    have HPG : Hid (PfG l n p1 b1 k ds p b) := hpg
    have HLE : Hid (ds.length = k) := hlen
    obtain ⟨adl, cpl, hvl⟩ := hown.slice
    obtain ⟨nl, HNL⟩ : ∃ x, Hid (x = ds.length) := ⟨_, rfl⟩
    rw [← HNL.out] at hvl
    subst hvl
    clear hrf hown hpg hlen
    have cb2 : wr.cell? ⟨w.heap.size + 1, 2, none⟩ = some (.bool b) := HG.out.st.inp.blk.cell 2
    by_cases hlt : k < n
    · have hlti : (k : Int) < (n : Int) := by omega
      have hltb : decide ((k : Int) < (n : Int)) = true := decide_eq_true hlti
      cases b with
      | true =>
        clear hlt
        have HM2 : Hid (Mg (readAll (cut 32) n (l.drop p1)) b1 true ds l p) := HPG.out.done (Or.inr rfl)
        clear HPG HLE
        go_wp2_with fail
        clear cb2
        refine (incount_m _ _ l p true wr 1 (by omega) HG.out.st.inp HL.out).mono ?_
        rintro e wa ⟨en, p3, u, b3, rfl, rfl, hs, hon, hm⟩
        have HM3 : Hid (Mg (readCount 1 (l.drop p)) true b3 en l p3) := hm
        have HGn : Hid (Rf w gx (.slice ad m cap) l p3 b3 30 prfK.z (prfV (.slice adl nl cpl) 0 zb32 zb32) wa) := HG.out.call hs hon
        have HOn : Hid (OwnD wa (gx + 1) (.slice adl nl cpl) ds) := HO.out.only1 hon (by have := HG.out.lt; omega)
        clear HG HO
        have HG := HGn
        have HO := HOn
        clear HGn HOn hs hon hm
        obtain ⟨ez, HEZ⟩ : ∃ x : Int, Hid (x = (en : Int)) := ⟨_, rfl⟩
        rw [← HEZ.out]
        have ce : (wa.setCell ⟨gx, 1, none⟩ (.int .i64 ez)).cell? ⟨gx, 1, none⟩ = some (.int .i64 ez) := by rw [(HG.out.thg.set 1 _).cell]; rfl
        by_cases he : ez = 1
        · subst he
          have cq : wa.cell? ⟨gx, 1, none⟩ = some (.int .i64 0) := HG.out.thg.cell 1
          have fq : wa.frozen? ⟨gx, 1, none⟩ = false := HG.out.thg.frozen 1
          have HGn : Hid (Rf w gx (.slice ad m cap) l p3 b3 30 prfK.z (prfV (.slice adl nl cpl) 1 zb32 zb32) (wa.setCell ⟨gx, 1, none⟩ (.int .i64 1))) := HG.out.at ((At.refl _ _).setCell _ _) (HG.out.thg.set 1 _)
          have HOn : Hid (OwnD (wa.setCell ⟨gx, 1, none⟩ (.int .i64 1)) (gx + 1) (.slice adl nl cpl) ds) := HO.out.at1 ((At.refl _ _).setCell _ _) (Nat.lt_succ_self _)
          clear HG HO 
          have HG := HGn
          have HO := HOn
          clear HGn HOn
          go_wp2_with fail
          clear cq fq
          generalize wa.setCell ⟨gx, 1, none⟩ (.int .i64 1) = wb at *
          clear ce
          refine (indigest_n _ _ l p3 b3 wb HG.out.st.inp HL.out).mono ?_
          rintro e wc ⟨ix, p4, b4, rfl, hlen, hs, hon, hm⟩
          have HM4 : Hid (Mg (cut 32 (l.drop p3)) b3 b4 ix l p4) := hm
          have HDL : Hid (ix.length = 32) := hlen
          have HGn : Hid (Rf w gx (.slice ad m cap) l p4 b4 30 prfK.z (prfV (.slice adl nl cpl) 1 zb32 zb32) wc) := HG.out.call hs hon
          have HOn : Hid (OwnD wc (gx + 1) (.slice adl nl cpl) ds) := HO.out.only1 hon (by have := HG.out.lt; omega)
          clear HG HO
          have HG := HGn
          have HO := HOn
          clear HGn HOn hs hon hm hlen
          have HGn : Hid (Rf w gx (.slice ad m cap) l p4 b4 30 prfK.z (prfV (.slice adl nl cpl) 1 ix zb32) (wc.setCells gx 2 (cb ix))) := HG.out.at (At.setCells _ _ _ (At.refl _ _)) (prfV_ix HG.out.thg len0 HDL.out)
          have HT : Hid (wc.there gx 2 (cb ix).toArray.size) := HG.out.thg.there 2 _ (by rw [List.size_toArray, cb_len, HDL.out, prfV_len len0 len0]; omega)
          have HIZ : Hid ((Try.prog.info? 28).map (·.size) = some (cb ix).toArray.size) := by show _ = _; rw [List.size_toArray, cb_len, HDL.out]; exact Try.infodig
          have HOn : Hid (OwnD (wc.setCells gx 2 (cb ix)) (gx + 1) (.slice adl nl cpl) ds) := HO.out.at1 (At.setCells _ _ _ (At.refl _ _)) (Nat.lt_succ_self _)
          clear HG HO
          have HG := HGn
          have HO := HOn
          clear HGn HOn
          go_wp2_with (refine wpList_store_mid rfl 28 _ _ rfl gx 2 (cb ix).toArray rfl rfl HT.out HIZ.out (all_oneCell_toArray (cb_one ix)) ?_)
          clear HT HIZ
          change Calls _ _ _ (wc.setCells gx 2 (cb ix)) _
          generalize wc.setCells gx 2 (cb ix) = wd at *
          have HX := HDL
          clear HDL
          refine (indigest_n _ _ l p4 b4 wd HG.out.st.inp HL.out).mono ?_
          rintro e we ⟨va, p5, b5, rfl, hlen, hs, hon, hm⟩
          have HM5 : Hid (Mg (cut 32 (l.drop p4)) b4 b5 va l p5) := hm
          have HDL : Hid (va.length = 32) := hlen
          have HGn : Hid (Rf w gx (.slice ad m cap) l p5 b5 30 prfK.z (prfV (.slice adl nl cpl) 1 ix zb32) we) := HG.out.call hs hon
          have HOn : Hid (OwnD we (gx + 1) (.slice adl nl cpl) ds) := HO.out.only1 hon (by have := HG.out.lt; omega)
          clear HG HO
          have HG := HGn
          have HO := HOn
          clear HGn HOn hs hon hm hlen
          have HGn : Hid (Rf w gx (.slice ad m cap) l p5 b5 30 prfK.z (prfV (.slice adl nl cpl) 1 ix va) (we.setCells gx 34 (cb va))) := HG.out.at (At.setCells _ _ _ (At.refl _ _)) (prfV_va HG.out.thg HX.out len0 HDL.out)
          have HT : Hid (we.there gx 34 (cb va).toArray.size) := HG.out.thg.there 34 _ (by rw [List.size_toArray, cb_len, HDL.out, prfV_len HX.out len0]; omega)
          have HIZ : Hid ((Try.prog.info? 28).map (·.size) = some (cb va).toArray.size) := by show _ = _; rw [List.size_toArray, cb_len, HDL.out]; exact Try.infodig
          have HOn : Hid (OwnD (we.setCells gx 34 (cb va)) (gx + 1) (.slice adl nl cpl) ds) := HO.out.at1 (At.setCells _ _ _ (At.refl _ _)) (Nat.lt_succ_self _)
          clear HG HO
          have HG := HGn
          have HO := HOn
          clear HGn HOn
          go_wp2_with (refine wpList_store_mid rfl 28 _ _ rfl gx 34 (cb va).toArray rfl rfl HT.out HIZ.out (all_oneCell_toArray (cb_one va)) ?_)
          clear HT HIZ
          change Calls _ _ _ (we.setCells gx 34 (cb va)) _
          generalize we.setCells gx 34 (cb va) = wf at *
          have HY := HDL
          clear HDL
          have hen : en = 1 := by have := HEZ.out; omega
          have hM4 : Mg (endR en (l.drop p3)) b3 b5 (ix, va) l p5 := by unfold endR; rw [if_pos hen]; exact HM4.out.then HM5.out
          have hpm := prf_mg HM1.out HM2.out HM3.out hM4 HG.out.st.inp.le
          have HBO : Hid (b5 = false → en ≤ 1 ∧ ds.length ≤ 256) := hpm.2
          have HWH := hpm.1
          clear HM1 HM2 HM3 HM4 HM5 hM4 hpm
          refine (indone_any _ _ l p5 b5 wf HG.out.st.inp).mono ?_
          rintro e wd ⟨rfl, q, rfl⟩
          have HGn : Hid (Rf w gx (.slice ad m cap) l p5 b5 30 prfK.z (prfV (.slice adl nl cpl) 1 ix va) (wf.drewN q)) := HG.out.drewN q
          have HOn : Hid (OwnD (wf.drewN q) (gx + 1) (.slice adl nl cpl) ds) := HO.out.keep fun _ _ _ => rfl
          clear HG HO
          have HG := HGn
          have HO := HOn
          clear HGn HOn
          have HB3 : Hid ((!b5 && decide (p5 = l.length)) = true → b5 = false) := fun h => by cases b5 with | true => simp at h | false => rfl
          generalize wf.drewN q = wz at *
          obtain ⟨dn, HDN⟩ : ∃ x, Hid (x = (!b5 && decide (p5 = l.length))) := ⟨_, rfl⟩
          rw [← HDN.out] at HWH HB3 ⊢
          replace HWH : Hid _ := HWH
          clear HDN
          cases dn with
          | false =>
            have HRES : Hid (Blk wz w.heap.size prfK.z 30) := HG.out.st.res
            obtain ⟨zs, HZS⟩ : ∃ x, Hid (x = prfK.z) := ⟨_, rfl⟩
            have HI : Hid ((Try.prog.info? 30).map (·.size) = some zs.length) := by show _ = _; rw [HZS.out]; exact prfK_ok.info
            have H1 : Hid (zs.toArray.all (·.oneCell') = true) := by show _ = _; rw [HZS.out]; exact all_oneCell_toArray prfK_ok.zone
            have HLN : Hid (zs.length = prfK.z.length) := by show _ = _; rw [HZS.out]
            have HNO : Hid (RdRes prfK w (whole (proofR l)) (.returned (.tuple #[.agg zs.toArray, .int .i64 3])) (wz.setCells w.heap.size 0 zs)) := by rw [HZS.out]; exact rf_no (K := prfK) HG.out (by have h := HWH.out; simpa using h)
            have hB6 : Hid (Blk (wz.setCells w.heap.size 0 zs) w.heap.size zs 30) := HRES.out.whole zs HLN.out
            clear HG
            go_wp2_with (first
              | (with_reducible refine wpSeq_buildK buildZprfK ?_ ?_ HZS.out ?_
                 · rfl
                 · rfl
                 skip)
              | (with_reducible refine wpList_store_mid ?_ 30 (.tmp 2) (.tmp 48) ?_ w.heap.size 0 zs.toArray ?_ ?_ (HRES.out.there 0 _ (by rw [List.size_toArray, HLN.out]; omega)) (by rw [List.size_toArray]; exact HI.out) H1.out ?_
                 · rfl
                 · rfl
                 · rfl
                 · rfl))
            exact bodyPost_ret (v := .tuple #[.agg zs.toArray, .int .i64 3]) (results_row_tmp (by rfl) _ _ _ w.heap.size 30 zs _ (.int .i64 3) rfl rfl hB6.out Try.underlying30 rfl HI.out) rfl HNO.out
          | true =>
            have HBO2 : Hid (en ≤ 1 ∧ ds.length ≤ 256) := HBO.out (HB3.out rfl)
            have hw2 : whole (proofR l) = some (n, ds, en, ix, va) := by have h := HWH.out; simpa using h
            clear HB3 HBO HWH
            obtain ⟨cs, HCS⟩ : ∃ cs, Hid (cs = (prfV (.slice adl nl cpl) 1 ix va)) := ⟨_, rfl⟩
            have hG : prfK.G wz (w.heap.size + 2) (n, ds, en, ix, va) cs := by rw [HCS.out]; exact ⟨_, by rw [HEZ.out], HO.out.mono (by have := HG.out.lt; omega), HX.out, HY.out, HBO2.out.1, HBO2.out.2⟩
            rw [← HCS.out] at HG
            have HRES : Hid (Blk wz w.heap.size prfK.z 30) := HG.out.st.res
            have HTH : Hid (Blk wz gx cs 30) := HG.out.thg
            have HI : Hid ((Try.prog.info? 30).map (·.size) = some cs.length) := by have := prfK_ok.size hG; rw [List.size_toArray] at this; exact this
            have H1 : Hid (cs.toArray.all (·.oneCell') = true) := all_oneCell_toArray (prfK_ok.one hG)
            have HLN : Hid (cs.length = prfK.z.length) := prfK_ok.len hG
            have HYS : Hid (RdRes prfK w (whole (proofR l)) (.returned (.tuple #[.agg cs.toArray, .int .i64 0])) (wz.setCells w.heap.size 0 cs)) := rf_yes prfK_ok HG.out hw2 hG
            have hB6 : Hid (Blk (wz.setCells w.heap.size 0 cs) w.heap.size cs 30) := HRES.out.whole cs HLN.out
            clear HG hG
            go_wp2_with (first
              | (with_reducible refine wpSeq_loadK 30 (.tmp 5) ?_ ?_ gx ?_ cs _ HTH.out Try.underlying30 ?_ HI.out ?_
                 · rfl
                 · rfl
                 · rfl
                 · rfl)
              | (with_reducible refine wpList_store_mid ?_ 30 (.tmp 2) (.tmp 49) ?_ w.heap.size 0 cs.toArray ?_ ?_ (HRES.out.there 0 _ (by rw [List.size_toArray, HLN.out]; omega)) (by rw [List.size_toArray]; exact HI.out) H1.out ?_
                 · rfl
                 · rfl
                 · rfl
                 · rfl))
            exact bodyPost_ret (v := .tuple #[.agg cs.toArray, .int .i64 0]) (results_row_tmp (by rfl) _ _ _ w.heap.size 30 cs _ (.int .i64 0) rfl rfl hB6.out Try.underlying30 rfl HI.out) rfl HYS.out
        · have heb : (ez == 1) = false := by simpa using he
          have hen : en ≠ 1 := by have := HEZ.out; omega
          have hM4 : Mg (endR en (l.drop p3)) b3 b3 (zb32, zb32) l p3 := by unfold endR; rw [if_neg hen]; exact mg_none
          have hpm := prf_mg HM1.out HM2.out HM3.out hM4 HG.out.st.inp.le
          have HBO : Hid (b3 = false → en ≤ 1 ∧ ds.length ≤ 256) := hpm.2
          have HWH := hpm.1
          replace HWH : Hid _ := HWH
          clear HM1 HM2 HM3 hM4 hpm
          have cq : wa.cell? ⟨gx, 1, none⟩ = some (.int .i64 0) := HG.out.thg.cell 1
          have fq : wa.frozen? ⟨gx, 1, none⟩ = false := HG.out.thg.frozen 1
          have HGn : Hid (Rf w gx (.slice ad m cap) l p3 b3 30 prfK.z (prfV (.slice adl nl cpl) ez zb32 zb32) (wa.setCell ⟨gx, 1, none⟩ (.int .i64 ez))) := HG.out.at ((At.refl _ _).setCell _ _) (HG.out.thg.set 1 _)
          have HOn : Hid (OwnD (wa.setCell ⟨gx, 1, none⟩ (.int .i64 ez)) (gx + 1) (.slice adl nl cpl) ds) := HO.out.at1 ((At.refl _ _).setCell _ _) (Nat.lt_succ_self _)
          clear HG HO 
          have HG := HGn
          have HO := HOn
          clear HGn HOn
          go_wp2_with fail
          clear cq fq
          generalize wa.setCell ⟨gx, 1, none⟩ (.int .i64 ez) = wb at *
          clear ce
          replace HWH := HWH.out
          refine (indone_any _ _ l p3 b3 wb HG.out.st.inp).mono ?_
          rintro e wd ⟨rfl, q, rfl⟩
          have HGn : Hid (Rf w gx (.slice ad m cap) l p3 b3 30 prfK.z (prfV (.slice adl nl cpl) ez zb32 zb32) (wb.drewN q)) := HG.out.drewN q
          have HOn : Hid (OwnD (wb.drewN q) (gx + 1) (.slice adl nl cpl) ds) := HO.out.keep fun _ _ _ => rfl
          clear HG HO
          have HG := HGn
          have HO := HOn
          clear HGn HOn
          have HB3 : Hid ((!b3 && decide (p3 = l.length)) = true → b3 = false) := fun h => by cases b3 with | true => simp at h | false => rfl
          generalize wb.drewN q = wz at *
          obtain ⟨dn, HDN⟩ : ∃ x, Hid (x = (!b3 && decide (p3 = l.length))) := ⟨_, rfl⟩
          rw [← HDN.out] at HWH HB3 ⊢
          replace HWH : Hid _ := HWH
          clear HDN
          cases dn with
          | false =>
            have HRES : Hid (Blk wz w.heap.size prfK.z 30) := HG.out.st.res
            obtain ⟨zs, HZS⟩ : ∃ x, Hid (x = prfK.z) := ⟨_, rfl⟩
            have HI : Hid ((Try.prog.info? 30).map (·.size) = some zs.length) := by show _ = _; rw [HZS.out]; exact prfK_ok.info
            have H1 : Hid (zs.toArray.all (·.oneCell') = true) := by show _ = _; rw [HZS.out]; exact all_oneCell_toArray prfK_ok.zone
            have HLN : Hid (zs.length = prfK.z.length) := by show _ = _; rw [HZS.out]
            have HNO : Hid (RdRes prfK w (whole (proofR l)) (.returned (.tuple #[.agg zs.toArray, .int .i64 3])) (wz.setCells w.heap.size 0 zs)) := by rw [HZS.out]; exact rf_no (K := prfK) HG.out (by have h := HWH.out; simpa using h)
            have hB6 : Hid (Blk (wz.setCells w.heap.size 0 zs) w.heap.size zs 30) := HRES.out.whole zs HLN.out
            clear HG
            go_wp2_with (first
              | (with_reducible refine wpSeq_buildK buildZprfK ?_ ?_ HZS.out ?_
                 · rfl
                 · rfl
                 skip)
              | (with_reducible refine wpList_store_mid ?_ 30 (.tmp 2) (.tmp 48) ?_ w.heap.size 0 zs.toArray ?_ ?_ (HRES.out.there 0 _ (by rw [List.size_toArray, HLN.out]; omega)) (by rw [List.size_toArray]; exact HI.out) H1.out ?_
                 · rfl
                 · rfl
                 · rfl
                 · rfl))
            exact bodyPost_ret (v := .tuple #[.agg zs.toArray, .int .i64 3]) (results_row_tmp (by rfl) _ _ _ w.heap.size 30 zs _ (.int .i64 3) rfl rfl hB6.out Try.underlying30 rfl HI.out) rfl HNO.out
          | true =>
            have HBO2 : Hid (en ≤ 1 ∧ ds.length ≤ 256) := HBO.out (HB3.out rfl)
            have hw2 : whole (proofR l) = some (n, ds, en, zb32, zb32) := by have h := HWH.out; simpa using h
            clear HB3 HBO HWH
            obtain ⟨cs, HCS⟩ : ∃ cs, Hid (cs = (prfV (.slice adl nl cpl) ez zb32 zb32)) := ⟨_, rfl⟩
            have hG : prfK.G wz (w.heap.size + 2) (n, ds, en, zb32, zb32) cs := by rw [HCS.out]; exact ⟨_, by rw [HEZ.out], HO.out.mono (by have := HG.out.lt; omega), len0, len0, HBO2.out.1, HBO2.out.2⟩
            rw [← HCS.out] at HG
            have HRES : Hid (Blk wz w.heap.size prfK.z 30) := HG.out.st.res
            have HTH : Hid (Blk wz gx cs 30) := HG.out.thg
            have HI : Hid ((Try.prog.info? 30).map (·.size) = some cs.length) := by have := prfK_ok.size hG; rw [List.size_toArray] at this; exact this
            have H1 : Hid (cs.toArray.all (·.oneCell') = true) := all_oneCell_toArray (prfK_ok.one hG)
            have HLN : Hid (cs.length = prfK.z.length) := prfK_ok.len hG
            have HYS : Hid (RdRes prfK w (whole (proofR l)) (.returned (.tuple #[.agg cs.toArray, .int .i64 0])) (wz.setCells w.heap.size 0 cs)) := rf_yes prfK_ok HG.out hw2 hG
            have hB6 : Hid (Blk (wz.setCells w.heap.size 0 cs) w.heap.size cs 30) := HRES.out.whole cs HLN.out
            clear HG hG
            go_wp2_with (first
              | (with_reducible refine wpSeq_loadK 30 (.tmp 5) ?_ ?_ gx ?_ cs _ HTH.out Try.underlying30 ?_ HI.out ?_
                 · rfl
                 · rfl
                 · rfl
                 · rfl)
              | (with_reducible refine wpList_store_mid ?_ 30 (.tmp 2) (.tmp 49) ?_ w.heap.size 0 cs.toArray ?_ ?_ (HRES.out.there 0 _ (by rw [List.size_toArray, HLN.out]; omega)) (by rw [List.size_toArray]; exact HI.out) H1.out ?_
                 · rfl
                 · rfl
                 · rfl
                 · rfl))
            exact bodyPost_ret (v := .tuple #[.agg cs.toArray, .int .i64 0]) (results_row_tmp (by rfl) _ _ _ w.heap.size 30 cs _ (.int .i64 0) rfl rfl hB6.out Try.underlying30 rfl HI.out) rfl HYS.out
      | false =>
        have HLT : Hid (k < n) := hlt
        have HDL : Hid (ds.length < 1000000) := by
          show _ < _
          have h1 := HLE.out
          rcases HPG.out with ⟨_, hb1, _, _⟩ | ⟨h, _⟩
          · have h2 := mg_good HM1.out hb1
            rw [List.drop_zero] at h2
            have := readCount_le h2
            omega
          · cases h
        have HGd : Hid (Rf w gx (.slice ad m cap) l p false 30 prfK.z (prfV (.slice adl nl cpl) 0 zb32 zb32) wr.drew) := ⟨⟨⟨HG.out.st.inp.blk, HG.out.st.inp.byt, HG.out.st.inp.le⟩, HG.out.st.res, ⟨HG.out.st.bel.os, HG.out.st.bel.tape, HG.out.st.bel.output, HG.out.st.bel.size, HG.out.st.bel.block⟩, HG.out.st.vb⟩, HG.out.thg, HG.out.lt⟩
        have HOd : Hid (OwnD wr.drew (gx + 1) (.slice adl nl cpl) ds) := HO.out.keep fun _ _ _ => rfl
        clear HG HO
        have HG := HGd
        have HO := HOd
        clear HGd HOd hlt
        go_wp2_with fail
        clear cb2
        refine wp_region_any (by kernel_rfl) ?_
        change wpAny _ _ _ _ _ _ _ (World.drew _)
        generalize wr.drew = w3 at *
        have cl : w3.cell? ⟨gx, 0, none⟩ = some (.slice adl nl cpl) := HG.out.thg.cell 0
        refine wpAny_take (i := 0) (v := .pointer (some ⟨gx, 0, none⟩)) rfl (by kernel_rfl) (by kernel_rfl) (by kernel_rfl) (fun _ _ _ h => h) (Or.inl ⟨by rfl, fun wx => by simp [go_sem]⟩) ?_
        simp only [Act.put, List.getElem_toArray, List.getElem_cons_zero, List.setIfInBounds_toArray, List.set_cons_zero, List.set_cons_succ]
        refine wpAny_take (i := 2) (v := .pointer (some ⟨w.heap.size + 1, 0, none⟩)) rfl (by kernel_rfl) (by kernel_rfl) (by kernel_rfl) (fun _ _ _ h => h) (Or.inl ⟨by rfl, fun wx => by simp [go_sem]⟩) ?_
        simp only [Act.put, List.getElem_toArray, List.getElem_cons_succ, List.getElem_cons_zero, List.setIfInBounds_toArray, List.set_cons_zero, List.set_cons_succ]
        refine wpAny_pair 1 3 (by kernel_rfl) ?_ ?_
        · skip
          refine wpOp_vl 1 (.slice adl nl cpl) w3 (by rfl) (by rfl) (by simp [go_sem, cl]) ?_
          simp only [Act.put, List.getElem_toArray, List.getElem_cons_succ, List.getElem_cons_zero, List.setIfInBounds_toArray, List.set_cons_zero, List.set_cons_succ]
          refine wpAny_enterP 3 (by kernel_rfl) rfl (by rfl) (f := 53) (args := #[.pointer (some ⟨w.heap.size + 1, 0, none⟩)]) (by simp [go_sem]) (indigest_n _ _ l p false w3 HG.out.st.inp HL.out) ?_
          rintro e w4 ⟨d, p2, b2, rfl, hd32, hs, hon, hm⟩
          refine Or.inl ⟨_, rfl, ?_⟩
          have HD32 : Hid (d.length = 32) := hd32
          have hb4 : Blk w4 gx (prfV (.slice adl nl cpl) 0 zb32 zb32) 30 := HG.out.thg.only hon (by have := HG.out.lt; omega)
          have cl4 : w4.cell? ⟨gx, 0, none⟩ = some (.slice adl nl cpl) := hb4.cell 0
          have cl5 : (w4.alloc (.cells (cb d).toArray 28)).cell? ⟨gx, 0, none⟩ = some (.slice adl nl cpl) := (hb4.alloc _).cell 0
          have ho4 : OwnD w4 (gx + 1) (.slice adl nl cpl) ds := HO.out.only1 hon (by have := HG.out.lt; omega)
          have HO5 : Hid (OwnD (w4.alloc (.cells (cb d).toArray 28)) (gx + 1) (.slice adl nl cpl) ds) := ho4.keep fun k _ h2 => (below_alloc _ _).block k h2
          have HB5 : Hid (Blk (w4.alloc (.cells (cb d).toArray 28)) gx (prfV (.slice adl nl cpl) 0 zb32 zb32) 30) := hb4.alloc _
          have HU5 : Hid (Blk (w4.alloc (.cells (cb d).toArray 28)) w4.heap.size (cb d) 28) := Blk.new _ _ _
          have HS5 : Hid (gx + 1 ≤ (w4.alloc (.cells (cb d).toArray 28)).heap.size) := HB5.out.lt
          have HNext : Hid (∀ w6 vl2, OwnD w6 (gx + 1) vl2 (ds ++ [d]) → (w4.alloc (.cells (cb d).toArray 28)).grownBy w6 (Value.ownBlock (.slice adl nl cpl)) → Rf w gx (.slice ad m cap) l p2 b2 30 prfK.z (prfV vl2 0 zb32 zb32) (w6.setCell ⟨gx, 0, none⟩ vl2) ∧ OwnD (w6.setCell ⟨gx, 0, none⟩ vl2) (gx + 1) vl2 (ds ++ [d])) := fun w6 vl2 h1 h2 => pf_step HG.out HO.out hs hon h1 h2
          have HPG2 : Hid (PfG l n p1 b1 (k + 1) (ds ++ [d]) p2 b2) := HPG.out.next HLT.out hm
          have HLO : Hid (∀ k, Value.ownBlock (.slice adl nl cpl) = some k → gx + 1 ≤ k) := fun k hk => (ho4.lt k hk).1
          clear hs hon hm hd32 hb4 ho4
          simp only [Act.put, List.getElem_toArray, List.getElem_cons_succ, List.getElem_cons_zero, List.setIfInBounds_toArray, List.set_cons_zero, List.set_cons_succ]
          refine wpAny_step 4 (.slice (some ⟨w4.heap.size, 0, none⟩) 1 1) (w4.alloc (.cells (cb d).toArray 28)) (by kernel_rfl) rfl (by rfl) (buildD _ _ _ rfl d HD32.out rfl _) ?_
          simp only [Act.put, List.getElem_toArray, List.getElem_cons_succ, List.getElem_cons_zero, List.setIfInBounds_toArray, List.set_cons_zero, List.set_cons_succ]
          refine wpAny_law 5 (by kernel_rfl) rfl (by rfl) (wp_appendD (.tmp 27) (.tmp 30) rfl (gx + 1) (.slice adl nl cpl) ds d w4.heap.size rfl HO5.out rfl HU5.out HD32.out HDL.out HS5.out ?_)
          intro vl2 w6 hown6 hgrow
          have HJ : Hid (Rf w gx (.slice ad m cap) l p2 b2 30 prfK.z (prfV vl2 0 zb32 zb32) (w6.setCell ⟨gx, 0, none⟩ vl2) ∧ OwnD (w6.setCell ⟨gx, 0, none⟩ vl2) (gx + 1) vl2 (ds ++ [d])) := HNext.out w6 vl2 hown6 hgrow
          have hb6 : Blk w6 gx (prfV (.slice adl nl cpl) 0 zb32 zb32) 30 := HB5.out.grown hgrow (by intro he; have := HLO.out _ he.symm; omega)
          have c6 : w6.cell? ⟨gx, 0, none⟩ = some (.slice adl nl cpl) := hb6.cell 0
          have f6 : w6.frozen? ⟨gx, 0, none⟩ = false := hb6.frozen 0
          obtain ⟨ad6, cp6, hv6⟩ := hown6.slice
          obtain ⟨nn6, HN6⟩ : ∃ x : Nat, Hid (x = (ds ++ [d]).length) := ⟨_, rfl⟩
          rw [← HN6.out] at hv6
          subst hv6
          clear hown6 hgrow hb6 HNext
          simp only [Act.put, List.getElem_toArray, List.getElem_cons_succ, List.getElem_cons_zero, List.setIfInBounds_toArray, List.set_cons_zero, List.set_cons_succ]
          refine wpAny_take (i := 6) (v := .pointer (some ⟨gx, 0, none⟩)) rfl (by kernel_rfl) (by kernel_rfl) (by kernel_rfl) (fun _ _ _ h => h) (Or.inl ⟨by rfl, fun wx => by simp [go_sem]⟩) ?_
          simp only [Act.put, List.getElem_toArray, List.getElem_cons_succ, List.getElem_cons_zero, List.setIfInBounds_toArray, List.set_cons_zero, List.set_cons_succ]
          refine wpAny_skip 7 (w6.setCell ⟨gx, 0, none⟩ (.slice ad6 nn6 cp6)) (by kernel_rfl) rfl (by rfl) (by simp [go_sem, c6, f6]) ?_
          simp only [Act.put, List.getElem_toArray, List.getElem_cons_succ, List.getElem_cons_zero]
          refine wpAny_done (by kernel_rfl) ?_ _
          have HLE2 : Hid ((ds ++ [d]).length = k + 1) := by show _ = _; rw [List.length_append, HLE.out]; rfl
          have hn256 : n < 1000 := by
            rcases HPG.out with ⟨_, hb1, _, _⟩ | ⟨h, _⟩
            · have h2 := mg_good HM1.out hb1
              rw [List.drop_zero] at h2
              have := readCount_le h2
              omega
            · cases h
          clear HO5 HU5 HB5 c6 f6 cl4 cl5 cl HG HO HPG HDL HLE
          generalize w6.setCell ⟨gx, 0, none⟩ (.slice ad6 nn6 cp6) = w7 at *
          have hltn := HLT.out
          go_wp2
          go_roundw
          case rel => exact ⟨k + 1, ds ++ [d], p2, b2, _, by go_num, HJ.out.1, HJ.out.2, HLE2.out, HPG2.out⟩
          case measure => simp [intOf]; have := HLT.out; omega
        · skip
          refine wpOp_enP 3 (by rfl) (by rfl) (f := 53) (args := #[.pointer (some ⟨w.heap.size + 1, 0, none⟩)]) (by simp [go_sem]) (indigest_n _ _ l p false w3 HG.out.st.inp HL.out) ?_
          rintro e w4 ⟨d, p2, b2, rfl, hd32, hs, hon, hm⟩
          refine Or.inl ⟨_, rfl, ?_⟩
          have HD32 : Hid (d.length = 32) := hd32
          have hb4 : Blk w4 gx (prfV (.slice adl nl cpl) 0 zb32 zb32) 30 := HG.out.thg.only hon (by have := HG.out.lt; omega)
          have cl4 : w4.cell? ⟨gx, 0, none⟩ = some (.slice adl nl cpl) := hb4.cell 0
          have cl5 : (w4.alloc (.cells (cb d).toArray 28)).cell? ⟨gx, 0, none⟩ = some (.slice adl nl cpl) := (hb4.alloc _).cell 0
          have ho4 : OwnD w4 (gx + 1) (.slice adl nl cpl) ds := HO.out.only1 hon (by have := HG.out.lt; omega)
          have HO5 : Hid (OwnD (w4.alloc (.cells (cb d).toArray 28)) (gx + 1) (.slice adl nl cpl) ds) := ho4.keep fun k _ h2 => (below_alloc _ _).block k h2
          have HB5 : Hid (Blk (w4.alloc (.cells (cb d).toArray 28)) gx (prfV (.slice adl nl cpl) 0 zb32 zb32) 30) := hb4.alloc _
          have HU5 : Hid (Blk (w4.alloc (.cells (cb d).toArray 28)) w4.heap.size (cb d) 28) := Blk.new _ _ _
          have HS5 : Hid (gx + 1 ≤ (w4.alloc (.cells (cb d).toArray 28)).heap.size) := HB5.out.lt
          have HNext : Hid (∀ w6 vl2, OwnD w6 (gx + 1) vl2 (ds ++ [d]) → (w4.alloc (.cells (cb d).toArray 28)).grownBy w6 (Value.ownBlock (.slice adl nl cpl)) → Rf w gx (.slice ad m cap) l p2 b2 30 prfK.z (prfV vl2 0 zb32 zb32) (w6.setCell ⟨gx, 0, none⟩ vl2) ∧ OwnD (w6.setCell ⟨gx, 0, none⟩ vl2) (gx + 1) vl2 (ds ++ [d])) := fun w6 vl2 h1 h2 => pf_step HG.out HO.out hs hon h1 h2
          have HPG2 : Hid (PfG l n p1 b1 (k + 1) (ds ++ [d]) p2 b2) := HPG.out.next HLT.out hm
          have HLO : Hid (∀ k, Value.ownBlock (.slice adl nl cpl) = some k → gx + 1 ≤ k) := fun k hk => (ho4.lt k hk).1
          clear hs hon hm hd32 hb4 ho4
          simp only [Act.put, List.getElem_toArray, List.getElem_cons_succ, List.getElem_cons_zero, List.setIfInBounds_toArray, List.set_cons_zero, List.set_cons_succ]
          refine wpAny_pair 1 4 (by kernel_rfl) ?_ ?_
          · skip
            refine wpOp_vl 1 (.slice adl nl cpl) w4 (by rfl) (by rfl) (by simp [go_sem, cl4]) ?_
            simp only [Act.put, List.getElem_toArray, List.getElem_cons_succ, List.getElem_cons_zero, List.setIfInBounds_toArray, List.set_cons_zero, List.set_cons_succ]
            refine wpAny_step 4 (.slice (some ⟨w4.heap.size, 0, none⟩) 1 1) (w4.alloc (.cells (cb d).toArray 28)) (by kernel_rfl) rfl (by rfl) (buildD _ _ _ rfl d HD32.out rfl _) ?_
            simp only [Act.put, List.getElem_toArray, List.getElem_cons_succ, List.getElem_cons_zero, List.setIfInBounds_toArray, List.set_cons_zero, List.set_cons_succ]
            refine wpAny_law 5 (by kernel_rfl) rfl (by rfl) (wp_appendD (.tmp 27) (.tmp 30) rfl (gx + 1) (.slice adl nl cpl) ds d w4.heap.size rfl HO5.out rfl HU5.out HD32.out HDL.out HS5.out ?_)
            intro vl2 w6 hown6 hgrow
            have HJ : Hid (Rf w gx (.slice ad m cap) l p2 b2 30 prfK.z (prfV vl2 0 zb32 zb32) (w6.setCell ⟨gx, 0, none⟩ vl2) ∧ OwnD (w6.setCell ⟨gx, 0, none⟩ vl2) (gx + 1) vl2 (ds ++ [d])) := HNext.out w6 vl2 hown6 hgrow
            have hb6 : Blk w6 gx (prfV (.slice adl nl cpl) 0 zb32 zb32) 30 := HB5.out.grown hgrow (by intro he; have := HLO.out _ he.symm; omega)
            have c6 : w6.cell? ⟨gx, 0, none⟩ = some (.slice adl nl cpl) := hb6.cell 0
            have f6 : w6.frozen? ⟨gx, 0, none⟩ = false := hb6.frozen 0
            obtain ⟨ad6, cp6, hv6⟩ := hown6.slice
            obtain ⟨nn6, HN6⟩ : ∃ x : Nat, Hid (x = (ds ++ [d]).length) := ⟨_, rfl⟩
            rw [← HN6.out] at hv6
            subst hv6
            clear hown6 hgrow hb6 HNext
            simp only [Act.put, List.getElem_toArray, List.getElem_cons_succ, List.getElem_cons_zero, List.setIfInBounds_toArray, List.set_cons_zero, List.set_cons_succ]
            refine wpAny_take (i := 6) (v := .pointer (some ⟨gx, 0, none⟩)) rfl (by kernel_rfl) (by kernel_rfl) (by kernel_rfl) (fun _ _ _ h => h) (Or.inl ⟨by rfl, fun wx => by simp [go_sem]⟩) ?_
            simp only [Act.put, List.getElem_toArray, List.getElem_cons_succ, List.getElem_cons_zero, List.setIfInBounds_toArray, List.set_cons_zero, List.set_cons_succ]
            refine wpAny_skip 7 (w6.setCell ⟨gx, 0, none⟩ (.slice ad6 nn6 cp6)) (by kernel_rfl) rfl (by rfl) (by simp [go_sem, c6, f6]) ?_
            simp only [Act.put, List.getElem_toArray, List.getElem_cons_succ, List.getElem_cons_zero]
            refine wpAny_done (by kernel_rfl) ?_ _
            have HLE2 : Hid ((ds ++ [d]).length = k + 1) := by show _ = _; rw [List.length_append, HLE.out]; rfl
            have hn256 : n < 1000 := by
              rcases HPG.out with ⟨_, hb1, _, _⟩ | ⟨h, _⟩
              · have h2 := mg_good HM1.out hb1
                rw [List.drop_zero] at h2
                have := readCount_le h2
                omega
              · cases h
            clear HO5 HU5 HB5 c6 f6 cl4 cl5 cl HG HO HPG HDL HLE
            generalize w6.setCell ⟨gx, 0, none⟩ (.slice ad6 nn6 cp6) = w7 at *
            have hltn := HLT.out
            go_wp2
            go_roundw
            case rel => exact ⟨k + 1, ds ++ [d], p2, b2, _, by go_num, HJ.out.1, HJ.out.2, HLE2.out, HPG2.out⟩
            case measure => simp [intOf]; have := HLT.out; omega
          · skip
            refine wpOp_vl 4 (.slice (some ⟨w4.heap.size, 0, none⟩) 1 1) (w4.alloc (.cells (cb d).toArray 28)) (by rfl) (by rfl) (buildD _ _ _ rfl d HD32.out rfl _) ?_
            simp only [Act.put, List.getElem_toArray, List.getElem_cons_succ, List.getElem_cons_zero, List.setIfInBounds_toArray, List.set_cons_zero, List.set_cons_succ]
            refine wpAny_step 1 (.slice adl nl cpl) (w4.alloc (.cells (cb d).toArray 28)) (by kernel_rfl) rfl (by rfl) (by simp [go_sem, cl5]) ?_
            simp only [Act.put, List.getElem_toArray, List.getElem_cons_succ, List.getElem_cons_zero, List.setIfInBounds_toArray, List.set_cons_zero, List.set_cons_succ]
            refine wpAny_law 5 (by kernel_rfl) rfl (by rfl) (wp_appendD (.tmp 27) (.tmp 30) rfl (gx + 1) (.slice adl nl cpl) ds d w4.heap.size rfl HO5.out rfl HU5.out HD32.out HDL.out HS5.out ?_)
            intro vl2 w6 hown6 hgrow
            have HJ : Hid (Rf w gx (.slice ad m cap) l p2 b2 30 prfK.z (prfV vl2 0 zb32 zb32) (w6.setCell ⟨gx, 0, none⟩ vl2) ∧ OwnD (w6.setCell ⟨gx, 0, none⟩ vl2) (gx + 1) vl2 (ds ++ [d])) := HNext.out w6 vl2 hown6 hgrow
            have hb6 : Blk w6 gx (prfV (.slice adl nl cpl) 0 zb32 zb32) 30 := HB5.out.grown hgrow (by intro he; have := HLO.out _ he.symm; omega)
            have c6 : w6.cell? ⟨gx, 0, none⟩ = some (.slice adl nl cpl) := hb6.cell 0
            have f6 : w6.frozen? ⟨gx, 0, none⟩ = false := hb6.frozen 0
            obtain ⟨ad6, cp6, hv6⟩ := hown6.slice
            obtain ⟨nn6, HN6⟩ : ∃ x : Nat, Hid (x = (ds ++ [d]).length) := ⟨_, rfl⟩
            rw [← HN6.out] at hv6
            subst hv6
            clear hown6 hgrow hb6 HNext
            simp only [Act.put, List.getElem_toArray, List.getElem_cons_succ, List.getElem_cons_zero, List.setIfInBounds_toArray, List.set_cons_zero, List.set_cons_succ]
            refine wpAny_take (i := 6) (v := .pointer (some ⟨gx, 0, none⟩)) rfl (by kernel_rfl) (by kernel_rfl) (by kernel_rfl) (fun _ _ _ h => h) (Or.inl ⟨by rfl, fun wx => by simp [go_sem]⟩) ?_
            simp only [Act.put, List.getElem_toArray, List.getElem_cons_succ, List.getElem_cons_zero, List.setIfInBounds_toArray, List.set_cons_zero, List.set_cons_succ]
            refine wpAny_skip 7 (w6.setCell ⟨gx, 0, none⟩ (.slice ad6 nn6 cp6)) (by kernel_rfl) rfl (by rfl) (by simp [go_sem, c6, f6]) ?_
            simp only [Act.put, List.getElem_toArray, List.getElem_cons_succ, List.getElem_cons_zero]
            refine wpAny_done (by kernel_rfl) ?_ _
            have HLE2 : Hid ((ds ++ [d]).length = k + 1) := by show _ = _; rw [List.length_append, HLE.out]; rfl
            have hn256 : n < 1000 := by
              rcases HPG.out with ⟨_, hb1, _, _⟩ | ⟨h, _⟩
              · have h2 := mg_good HM1.out hb1
                rw [List.drop_zero] at h2
                have := readCount_le h2
                omega
              · cases h
            clear HO5 HU5 HB5 c6 f6 cl4 cl5 cl HG HO HPG HDL HLE
            generalize w6.setCell ⟨gx, 0, none⟩ (.slice ad6 nn6 cp6) = w7 at *
            have hltn := HLT.out
            go_wp2
            go_roundw
            case rel => exact ⟨k + 1, ds ++ [d], p2, b2, _, by go_num, HJ.out.1, HJ.out.2, HLE2.out, HPG2.out⟩
            case measure => simp [intOf]; have := HLT.out; omega
    · have hlti : ¬ ((k : Int) < (n : Int)) := by omega
      have hltb : decide ((k : Int) < (n : Int)) = false := decide_eq_false hlti
      have hge : n ≤ k := by omega
      clear hlt
      have HGE : Hid (n ≤ k) := hge
      clear hge
      have HM2 : Hid (Mg (readAll (cut 32) n (l.drop p1)) b1 b ds l p) := HPG.out.done (Or.inl HGE.out)
      clear HPG HLE
      go_wp2_with fail
      clear cb2
      refine (incount_m _ _ l p b wr 1 (by omega) HG.out.st.inp HL.out).mono ?_
      rintro e wa ⟨en, p3, u, b3, rfl, rfl, hs, hon, hm⟩
      have HM3 : Hid (Mg (readCount 1 (l.drop p)) b b3 en l p3) := hm
      have HGn : Hid (Rf w gx (.slice ad m cap) l p3 b3 30 prfK.z (prfV (.slice adl nl cpl) 0 zb32 zb32) wa) := HG.out.call hs hon
      have HOn : Hid (OwnD wa (gx + 1) (.slice adl nl cpl) ds) := HO.out.only1 hon (by have := HG.out.lt; omega)
      clear HG HO
      have HG := HGn
      have HO := HOn
      clear HGn HOn hs hon hm
      obtain ⟨ez, HEZ⟩ : ∃ x : Int, Hid (x = (en : Int)) := ⟨_, rfl⟩
      rw [← HEZ.out]
      have ce : (wa.setCell ⟨gx, 1, none⟩ (.int .i64 ez)).cell? ⟨gx, 1, none⟩ = some (.int .i64 ez) := by rw [(HG.out.thg.set 1 _).cell]; rfl
      by_cases he : ez = 1
      · subst he
        have cq : wa.cell? ⟨gx, 1, none⟩ = some (.int .i64 0) := HG.out.thg.cell 1
        have fq : wa.frozen? ⟨gx, 1, none⟩ = false := HG.out.thg.frozen 1
        have HGn : Hid (Rf w gx (.slice ad m cap) l p3 b3 30 prfK.z (prfV (.slice adl nl cpl) 1 zb32 zb32) (wa.setCell ⟨gx, 1, none⟩ (.int .i64 1))) := HG.out.at ((At.refl _ _).setCell _ _) (HG.out.thg.set 1 _)
        have HOn : Hid (OwnD (wa.setCell ⟨gx, 1, none⟩ (.int .i64 1)) (gx + 1) (.slice adl nl cpl) ds) := HO.out.at1 ((At.refl _ _).setCell _ _) (Nat.lt_succ_self _)
        clear HG HO 
        have HG := HGn
        have HO := HOn
        clear HGn HOn
        go_wp2_with fail
        clear cq fq
        generalize wa.setCell ⟨gx, 1, none⟩ (.int .i64 1) = wb at *
        clear ce
        refine (indigest_n _ _ l p3 b3 wb HG.out.st.inp HL.out).mono ?_
        rintro e wc ⟨ix, p4, b4, rfl, hlen, hs, hon, hm⟩
        have HM4 : Hid (Mg (cut 32 (l.drop p3)) b3 b4 ix l p4) := hm
        have HDL : Hid (ix.length = 32) := hlen
        have HGn : Hid (Rf w gx (.slice ad m cap) l p4 b4 30 prfK.z (prfV (.slice adl nl cpl) 1 zb32 zb32) wc) := HG.out.call hs hon
        have HOn : Hid (OwnD wc (gx + 1) (.slice adl nl cpl) ds) := HO.out.only1 hon (by have := HG.out.lt; omega)
        clear HG HO
        have HG := HGn
        have HO := HOn
        clear HGn HOn hs hon hm hlen
        have HGn : Hid (Rf w gx (.slice ad m cap) l p4 b4 30 prfK.z (prfV (.slice adl nl cpl) 1 ix zb32) (wc.setCells gx 2 (cb ix))) := HG.out.at (At.setCells _ _ _ (At.refl _ _)) (prfV_ix HG.out.thg len0 HDL.out)
        have HT : Hid (wc.there gx 2 (cb ix).toArray.size) := HG.out.thg.there 2 _ (by rw [List.size_toArray, cb_len, HDL.out, prfV_len len0 len0]; omega)
        have HIZ : Hid ((Try.prog.info? 28).map (·.size) = some (cb ix).toArray.size) := by show _ = _; rw [List.size_toArray, cb_len, HDL.out]; exact Try.infodig
        have HOn : Hid (OwnD (wc.setCells gx 2 (cb ix)) (gx + 1) (.slice adl nl cpl) ds) := HO.out.at1 (At.setCells _ _ _ (At.refl _ _)) (Nat.lt_succ_self _)
        clear HG HO
        have HG := HGn
        have HO := HOn
        clear HGn HOn
        go_wp2_with (refine wpList_store_mid rfl 28 _ _ rfl gx 2 (cb ix).toArray rfl rfl HT.out HIZ.out (all_oneCell_toArray (cb_one ix)) ?_)
        clear HT HIZ
        change Calls _ _ _ (wc.setCells gx 2 (cb ix)) _
        generalize wc.setCells gx 2 (cb ix) = wd at *
        have HX := HDL
        clear HDL
        refine (indigest_n _ _ l p4 b4 wd HG.out.st.inp HL.out).mono ?_
        rintro e we ⟨va, p5, b5, rfl, hlen, hs, hon, hm⟩
        have HM5 : Hid (Mg (cut 32 (l.drop p4)) b4 b5 va l p5) := hm
        have HDL : Hid (va.length = 32) := hlen
        have HGn : Hid (Rf w gx (.slice ad m cap) l p5 b5 30 prfK.z (prfV (.slice adl nl cpl) 1 ix zb32) we) := HG.out.call hs hon
        have HOn : Hid (OwnD we (gx + 1) (.slice adl nl cpl) ds) := HO.out.only1 hon (by have := HG.out.lt; omega)
        clear HG HO
        have HG := HGn
        have HO := HOn
        clear HGn HOn hs hon hm hlen
        have HGn : Hid (Rf w gx (.slice ad m cap) l p5 b5 30 prfK.z (prfV (.slice adl nl cpl) 1 ix va) (we.setCells gx 34 (cb va))) := HG.out.at (At.setCells _ _ _ (At.refl _ _)) (prfV_va HG.out.thg HX.out len0 HDL.out)
        have HT : Hid (we.there gx 34 (cb va).toArray.size) := HG.out.thg.there 34 _ (by rw [List.size_toArray, cb_len, HDL.out, prfV_len HX.out len0]; omega)
        have HIZ : Hid ((Try.prog.info? 28).map (·.size) = some (cb va).toArray.size) := by show _ = _; rw [List.size_toArray, cb_len, HDL.out]; exact Try.infodig
        have HOn : Hid (OwnD (we.setCells gx 34 (cb va)) (gx + 1) (.slice adl nl cpl) ds) := HO.out.at1 (At.setCells _ _ _ (At.refl _ _)) (Nat.lt_succ_self _)
        clear HG HO
        have HG := HGn
        have HO := HOn
        clear HGn HOn
        go_wp2_with (refine wpList_store_mid rfl 28 _ _ rfl gx 34 (cb va).toArray rfl rfl HT.out HIZ.out (all_oneCell_toArray (cb_one va)) ?_)
        clear HT HIZ
        change Calls _ _ _ (we.setCells gx 34 (cb va)) _
        generalize we.setCells gx 34 (cb va) = wf at *
        have HY := HDL
        clear HDL
        have hen : en = 1 := by have := HEZ.out; omega
        have hM4 : Mg (endR en (l.drop p3)) b3 b5 (ix, va) l p5 := by unfold endR; rw [if_pos hen]; exact HM4.out.then HM5.out
        have hpm := prf_mg HM1.out HM2.out HM3.out hM4 HG.out.st.inp.le
        have HBO : Hid (b5 = false → en ≤ 1 ∧ ds.length ≤ 256) := hpm.2
        have HWH := hpm.1
        clear HM1 HM2 HM3 HM4 HM5 hM4 hpm
        refine (indone_any _ _ l p5 b5 wf HG.out.st.inp).mono ?_
        rintro e wd ⟨rfl, q, rfl⟩
        have HGn : Hid (Rf w gx (.slice ad m cap) l p5 b5 30 prfK.z (prfV (.slice adl nl cpl) 1 ix va) (wf.drewN q)) := HG.out.drewN q
        have HOn : Hid (OwnD (wf.drewN q) (gx + 1) (.slice adl nl cpl) ds) := HO.out.keep fun _ _ _ => rfl
        clear HG HO
        have HG := HGn
        have HO := HOn
        clear HGn HOn
        have HB3 : Hid ((!b5 && decide (p5 = l.length)) = true → b5 = false) := fun h => by cases b5 with | true => simp at h | false => rfl
        generalize wf.drewN q = wz at *
        obtain ⟨dn, HDN⟩ : ∃ x, Hid (x = (!b5 && decide (p5 = l.length))) := ⟨_, rfl⟩
        rw [← HDN.out] at HWH HB3 ⊢
        replace HWH : Hid _ := HWH
        clear HDN
        cases dn with
        | false =>
          have HRES : Hid (Blk wz w.heap.size prfK.z 30) := HG.out.st.res
          obtain ⟨zs, HZS⟩ : ∃ x, Hid (x = prfK.z) := ⟨_, rfl⟩
          have HI : Hid ((Try.prog.info? 30).map (·.size) = some zs.length) := by show _ = _; rw [HZS.out]; exact prfK_ok.info
          have H1 : Hid (zs.toArray.all (·.oneCell') = true) := by show _ = _; rw [HZS.out]; exact all_oneCell_toArray prfK_ok.zone
          have HLN : Hid (zs.length = prfK.z.length) := by show _ = _; rw [HZS.out]
          have HNO : Hid (RdRes prfK w (whole (proofR l)) (.returned (.tuple #[.agg zs.toArray, .int .i64 3])) (wz.setCells w.heap.size 0 zs)) := by rw [HZS.out]; exact rf_no (K := prfK) HG.out (by have h := HWH.out; simpa using h)
          have hB6 : Hid (Blk (wz.setCells w.heap.size 0 zs) w.heap.size zs 30) := HRES.out.whole zs HLN.out
          clear HG
          go_wp2_with (first
            | (with_reducible refine wpSeq_buildK buildZprfK ?_ ?_ HZS.out ?_
               · rfl
               · rfl
               skip)
            | (with_reducible refine wpList_store_mid ?_ 30 (.tmp 2) (.tmp 48) ?_ w.heap.size 0 zs.toArray ?_ ?_ (HRES.out.there 0 _ (by rw [List.size_toArray, HLN.out]; omega)) (by rw [List.size_toArray]; exact HI.out) H1.out ?_
               · rfl
               · rfl
               · rfl
               · rfl))
          exact bodyPost_ret (v := .tuple #[.agg zs.toArray, .int .i64 3]) (results_row_tmp (by rfl) _ _ _ w.heap.size 30 zs _ (.int .i64 3) rfl rfl hB6.out Try.underlying30 rfl HI.out) rfl HNO.out
        | true =>
          have HBO2 : Hid (en ≤ 1 ∧ ds.length ≤ 256) := HBO.out (HB3.out rfl)
          have hw2 : whole (proofR l) = some (n, ds, en, ix, va) := by have h := HWH.out; simpa using h
          clear HB3 HBO HWH
          obtain ⟨cs, HCS⟩ : ∃ cs, Hid (cs = (prfV (.slice adl nl cpl) 1 ix va)) := ⟨_, rfl⟩
          have hG : prfK.G wz (w.heap.size + 2) (n, ds, en, ix, va) cs := by rw [HCS.out]; exact ⟨_, by rw [HEZ.out], HO.out.mono (by have := HG.out.lt; omega), HX.out, HY.out, HBO2.out.1, HBO2.out.2⟩
          rw [← HCS.out] at HG
          have HRES : Hid (Blk wz w.heap.size prfK.z 30) := HG.out.st.res
          have HTH : Hid (Blk wz gx cs 30) := HG.out.thg
          have HI : Hid ((Try.prog.info? 30).map (·.size) = some cs.length) := by have := prfK_ok.size hG; rw [List.size_toArray] at this; exact this
          have H1 : Hid (cs.toArray.all (·.oneCell') = true) := all_oneCell_toArray (prfK_ok.one hG)
          have HLN : Hid (cs.length = prfK.z.length) := prfK_ok.len hG
          have HYS : Hid (RdRes prfK w (whole (proofR l)) (.returned (.tuple #[.agg cs.toArray, .int .i64 0])) (wz.setCells w.heap.size 0 cs)) := rf_yes prfK_ok HG.out hw2 hG
          have hB6 : Hid (Blk (wz.setCells w.heap.size 0 cs) w.heap.size cs 30) := HRES.out.whole cs HLN.out
          clear HG hG
          go_wp2_with (first
            | (with_reducible refine wpSeq_loadK 30 (.tmp 5) ?_ ?_ gx ?_ cs _ HTH.out Try.underlying30 ?_ HI.out ?_
               · rfl
               · rfl
               · rfl
               · rfl)
            | (with_reducible refine wpList_store_mid ?_ 30 (.tmp 2) (.tmp 49) ?_ w.heap.size 0 cs.toArray ?_ ?_ (HRES.out.there 0 _ (by rw [List.size_toArray, HLN.out]; omega)) (by rw [List.size_toArray]; exact HI.out) H1.out ?_
               · rfl
               · rfl
               · rfl
               · rfl))
          exact bodyPost_ret (v := .tuple #[.agg cs.toArray, .int .i64 0]) (results_row_tmp (by rfl) _ _ _ w.heap.size 30 cs _ (.int .i64 0) rfl rfl hB6.out Try.underlying30 rfl HI.out) rfl HYS.out
      · have heb : (ez == 1) = false := by simpa using he
        have hen : en ≠ 1 := by have := HEZ.out; omega
        have hM4 : Mg (endR en (l.drop p3)) b3 b3 (zb32, zb32) l p3 := by unfold endR; rw [if_neg hen]; exact mg_none
        have hpm := prf_mg HM1.out HM2.out HM3.out hM4 HG.out.st.inp.le
        have HBO : Hid (b3 = false → en ≤ 1 ∧ ds.length ≤ 256) := hpm.2
        have HWH := hpm.1
        replace HWH : Hid _ := HWH
        clear HM1 HM2 HM3 hM4 hpm
        have cq : wa.cell? ⟨gx, 1, none⟩ = some (.int .i64 0) := HG.out.thg.cell 1
        have fq : wa.frozen? ⟨gx, 1, none⟩ = false := HG.out.thg.frozen 1
        have HGn : Hid (Rf w gx (.slice ad m cap) l p3 b3 30 prfK.z (prfV (.slice adl nl cpl) ez zb32 zb32) (wa.setCell ⟨gx, 1, none⟩ (.int .i64 ez))) := HG.out.at ((At.refl _ _).setCell _ _) (HG.out.thg.set 1 _)
        have HOn : Hid (OwnD (wa.setCell ⟨gx, 1, none⟩ (.int .i64 ez)) (gx + 1) (.slice adl nl cpl) ds) := HO.out.at1 ((At.refl _ _).setCell _ _) (Nat.lt_succ_self _)
        clear HG HO 
        have HG := HGn
        have HO := HOn
        clear HGn HOn
        go_wp2_with fail
        clear cq fq
        generalize wa.setCell ⟨gx, 1, none⟩ (.int .i64 ez) = wb at *
        clear ce
        replace HWH := HWH.out
        refine (indone_any _ _ l p3 b3 wb HG.out.st.inp).mono ?_
        rintro e wd ⟨rfl, q, rfl⟩
        have HGn : Hid (Rf w gx (.slice ad m cap) l p3 b3 30 prfK.z (prfV (.slice adl nl cpl) ez zb32 zb32) (wb.drewN q)) := HG.out.drewN q
        have HOn : Hid (OwnD (wb.drewN q) (gx + 1) (.slice adl nl cpl) ds) := HO.out.keep fun _ _ _ => rfl
        clear HG HO
        have HG := HGn
        have HO := HOn
        clear HGn HOn
        have HB3 : Hid ((!b3 && decide (p3 = l.length)) = true → b3 = false) := fun h => by cases b3 with | true => simp at h | false => rfl
        generalize wb.drewN q = wz at *
        obtain ⟨dn, HDN⟩ : ∃ x, Hid (x = (!b3 && decide (p3 = l.length))) := ⟨_, rfl⟩
        rw [← HDN.out] at HWH HB3 ⊢
        replace HWH : Hid _ := HWH
        clear HDN
        cases dn with
        | false =>
          have HRES : Hid (Blk wz w.heap.size prfK.z 30) := HG.out.st.res
          obtain ⟨zs, HZS⟩ : ∃ x, Hid (x = prfK.z) := ⟨_, rfl⟩
          have HI : Hid ((Try.prog.info? 30).map (·.size) = some zs.length) := by show _ = _; rw [HZS.out]; exact prfK_ok.info
          have H1 : Hid (zs.toArray.all (·.oneCell') = true) := by show _ = _; rw [HZS.out]; exact all_oneCell_toArray prfK_ok.zone
          have HLN : Hid (zs.length = prfK.z.length) := by show _ = _; rw [HZS.out]
          have HNO : Hid (RdRes prfK w (whole (proofR l)) (.returned (.tuple #[.agg zs.toArray, .int .i64 3])) (wz.setCells w.heap.size 0 zs)) := by rw [HZS.out]; exact rf_no (K := prfK) HG.out (by have h := HWH.out; simpa using h)
          have hB6 : Hid (Blk (wz.setCells w.heap.size 0 zs) w.heap.size zs 30) := HRES.out.whole zs HLN.out
          clear HG
          go_wp2_with (first
            | (with_reducible refine wpSeq_buildK buildZprfK ?_ ?_ HZS.out ?_
               · rfl
               · rfl
               skip)
            | (with_reducible refine wpList_store_mid ?_ 30 (.tmp 2) (.tmp 48) ?_ w.heap.size 0 zs.toArray ?_ ?_ (HRES.out.there 0 _ (by rw [List.size_toArray, HLN.out]; omega)) (by rw [List.size_toArray]; exact HI.out) H1.out ?_
               · rfl
               · rfl
               · rfl
               · rfl))
          exact bodyPost_ret (v := .tuple #[.agg zs.toArray, .int .i64 3]) (results_row_tmp (by rfl) _ _ _ w.heap.size 30 zs _ (.int .i64 3) rfl rfl hB6.out Try.underlying30 rfl HI.out) rfl HNO.out
        | true =>
          have HBO2 : Hid (en ≤ 1 ∧ ds.length ≤ 256) := HBO.out (HB3.out rfl)
          have hw2 : whole (proofR l) = some (n, ds, en, zb32, zb32) := by have h := HWH.out; simpa using h
          clear HB3 HBO HWH
          obtain ⟨cs, HCS⟩ : ∃ cs, Hid (cs = (prfV (.slice adl nl cpl) ez zb32 zb32)) := ⟨_, rfl⟩
          have hG : prfK.G wz (w.heap.size + 2) (n, ds, en, zb32, zb32) cs := by rw [HCS.out]; exact ⟨_, by rw [HEZ.out], HO.out.mono (by have := HG.out.lt; omega), len0, len0, HBO2.out.1, HBO2.out.2⟩
          rw [← HCS.out] at HG
          have HRES : Hid (Blk wz w.heap.size prfK.z 30) := HG.out.st.res
          have HTH : Hid (Blk wz gx cs 30) := HG.out.thg
          have HI : Hid ((Try.prog.info? 30).map (·.size) = some cs.length) := by have := prfK_ok.size hG; rw [List.size_toArray] at this; exact this
          have H1 : Hid (cs.toArray.all (·.oneCell') = true) := all_oneCell_toArray (prfK_ok.one hG)
          have HLN : Hid (cs.length = prfK.z.length) := prfK_ok.len hG
          have HYS : Hid (RdRes prfK w (whole (proofR l)) (.returned (.tuple #[.agg cs.toArray, .int .i64 0])) (wz.setCells w.heap.size 0 cs)) := rf_yes prfK_ok HG.out hw2 hG
          have hB6 : Hid (Blk (wz.setCells w.heap.size 0 cs) w.heap.size cs 30) := HRES.out.whole cs HLN.out
          clear HG hG
          go_wp2_with (first
            | (with_reducible refine wpSeq_loadK 30 (.tmp 5) ?_ ?_ gx ?_ cs _ HTH.out Try.underlying30 ?_ HI.out ?_
               · rfl
               · rfl
               · rfl
               · rfl)
            | (with_reducible refine wpList_store_mid ?_ 30 (.tmp 2) (.tmp 49) ?_ w.heap.size 0 cs.toArray ?_ ?_ (HRES.out.there 0 _ (by rw [List.size_toArray, HLN.out]; omega)) (by rw [List.size_toArray]; exact HI.out) H1.out ?_
               · rfl
               · rfl
               · rfl
               · rfl))
          exact bodyPost_ret (v := .tuple #[.agg cs.toArray, .int .i64 0]) (results_row_tmp (by rfl) _ _ _ w.heap.size 30 cs _ (.int .i64 0) rfl rfl hB6.out Try.underlying30 rfl HI.out) rfl HYS.out
end Go.Proofs.Ytldbcglakeggaaa

/- Texts that the proof leans on, one behind the other: The walk of the statement TreeStays, over any way in which trees lie in memory. Trees in memory (layer 7): a tree's cells, and what lies below it. The walks of tree.Empty, single and joined. .. -/
import Derived.Test.YtphacinnnepdoaaDoorMgc
/- The walk of the statement TreeStays, over any way in which trees lie in memory. -/
namespace Go.Proofs.YtphacinnnepdoaaDoor
open Go.RowKit
set_option maxRecDepth 100000
theorem wpAnyH_tri {P : Program} {md : Region.Mode} {ops : Array Oper} {Q : Exit → Act → World → Prop} {S : World → Prop} {fuel : Nat} {listed : Array Bool} {a : Act} {w : World} (i j k : Nat) (hr : Region.ready md ops listed = [i, j, k])
    (h1 : wpOp P ops Q i (fun a' w' => S w' ∧ wpAnyH P md ops Q S fuel (listed.setIfInBounds i true) a' w') a w) (h2 : wpOp P ops Q j (fun a' w' => S w' ∧ wpAnyH P md ops Q S fuel (listed.setIfInBounds j true) a' w') a w) (h3 : wpOp P ops Q k (fun a' w' => S w' ∧ wpAnyH P md ops Q S fuel (listed.setIfInBounds k true) a' w') a w) : wpAnyH P md ops Q S (fuel + 1) listed a w := by
  refine wpAnyH_all hr (by simp) (fun q hq => ?_)
  rcases List.mem_cons.1 hq with rfl | hq
  · exact h1
  · rcases List.mem_cons.1 hq with rfl | hq
    · exact h2
    · obtain rfl : q = k := by simpa using hq
      exact h3
theorem Over.sets {w0 W : World} {g o : Nat} {cs : List Value} (h : Over w0 W) (hg : w0.heap.size ≤ g) : Over w0 (W.setCells g o cs) := Below.setCells _ hg _ _ _ h
/-- where the statement stands -/
structure StS (T : World → Nat → List Lf → Prop) (w : World) (g : Nat) (l : List Lf) (gx gv gu : Nat) (x v u : List (BitVec 8)) (W : World) : Prop where
  kk : KOk W
  bel : Below w.heap.size w W
  t : T W g l
  bx : Blk W gx (cb x) 24
  bv : Blk W gv (cb v) 24
  bu : Blk W gu (cb u) 24
theorem StS.next {T : World → Nat → List Lf → Prop} (hT : TrOps T) {w W W' : World} {g : Nat} {l : List Lf} {gx gv gu : Nat} {x v u : List (BitVec 8)} (h : StS T w g l gx gv gu x v u W) (hb : Below W.heap.size W W') : StS T w g l gx gv gu x v u W' :=
  ⟨h.kk.below hb h.kk.lt, h.bel.trans (hb.mono h.bel.size), hT.next h.t hb, h.bx.below hb h.bx.lt, h.bv.below hb h.bv.lt, h.bu.below hb h.bu.lt⟩
theorem getD_len2 {l : List Lf} (h : okLf l ∧ Up l) (x : List (BitVec 8)) : ((getL l x).getD zb32).length = 32 := by
  cases hg : getL l x with
  | none => rfl
  | some v => exact (h.1 _ ((getL_mem h.2).1 hg)).2
theorem fin_st {T : World → Nat → List Lf → Prop} (hT : TrOps T) {w ys W W1 : World} {g : Nat} {l : List Lf} {gx gv gu : Nat} {x v u r : List (BitVec 8)} {gr gp : Nat} {vs : Value} {sd : List (List (BitVec 8))} {cs : List Value} (hI : StS T w g l gx gv gu x v u ys) (hS : Over ys (W1.setCells gp 0 cs))
    (hb9 : Blk W1 gr (cb r) 24) (hbp : Blk W1 gp (prfV nilV 0 zb32 zb32) 41) (hk : ∀ k, k ≠ gr → W1.heap[k]? = W.heap[k]?) (hne : gr ≠ gp) (hl : cs.length = 66) (hr : ReadsD W vs sd) (hvr : ∀ j, vs.ownBlock = some j → j ≠ gr) (hvp : ∀ j, vs.ownBlock = some j → j ≠ gp) :
    StS T w g l gx gv gu x v u (W1.setCells gp 0 cs) ∧ Blk (W1.setCells gp 0 cs) gr (cb r) 24 ∧ Blk (W1.setCells gp 0 cs) gp cs 41 ∧ ReadsD (W1.setCells gp 0 cs) vs sd := by
  have hk2 : ∀ k, k ≠ gp → (W1.setCells gp 0 cs).heap[k]? = W1.heap[k]? := At'.setCells _ _ _ (fun _ _ => rfl)
  refine ⟨hI.next hT hS, ?_, hbp.whole cs (by rw [hl, prfV_len zb32_len zb32_len]), hr.same fun _ j hj => (hk2 j (hvp j hj)).trans (hk j (hvr j hj))⟩
  unfold Blk at *
  rw [hk2 gr hne]
  exact hb9
set_option maxRecDepth 100000 in
set_option maxHeartbeats 8000000 in
theorem treeStays_law {T : World → Nat → List Lf → Prop} (hT : TrOps T) (vt vu : Value) (ds es : List (List (BitVec 8))) (x v u : List (BitVec 8)) (hx : x.length = 32) (hv : v.length = 32) (hu : u.length = 32) (w : World) (hK : KOk w) (hD : ReadsD w vt ds) (hE : ReadsD w vu es) :
    Calls Tryd.prog 6 #[vt, vu, .agg (cb x).toArray, .agg (cb v).toArray, .agg (cb u).toArray] w fun e w' => e = .returned (.bool true) ∧ Below w.heap.size w w' := by
  have HT : Hid (TrOps T) := hT
  have HX32 : Hid (x.length = 32) := hx
  have HV32 : Hid (v.length = 32) := hv
  have HU32 : Hid (u.length = 32) := hu
  have HD : Hid (ReadsD w vt ds) := hD
  have HE : Hid (ReadsD w vu es) := hE
  have HK : Hid (KOk w) := hK
  have HBW : Hid (Below w.heap.size w w) := Below.refl _ _
  obtain ⟨c, HC⟩ : ∃ c, Hid (c = decide (ds.length ≤ 60)) := ⟨_, rfl⟩
  obtain ⟨adt, cpt, hvt⟩ := hD.slice
  obtain ⟨adu, cpu, hvu⟩ := hE.slice
  obtain ⟨n, HN⟩ : ∃ n, Hid (n = ds.length) := ⟨_, rfl⟩
  obtain ⟨m, HM⟩ : ∃ n, Hid (n = es.length) := ⟨_, rfl⟩
  rw [← HN.out] at hvt
  rw [← HM.out] at hvu
  subst hvt hvu
  clear hT hx hv hu hD hE hK
  go_enter Tryd.func6, Tryd.ntmps6
  go_upto_if 23 with (first
    | (with_reducible refine wpSeq_boxD (.tmp 2) x ?_ ?_ ?_ ?_
       · rfl
       · rfl
       · rfl
       intro gx wb0 nn
       have Hgx : Hid (Blk wb0 gx (cb x) 24) := nn.blk
       replace HD : Hid (ReadsD wb0 (.slice adt n cpt) ds) := HD.out.below (nn.below.mono (Nat.le_refl _))
       replace HE : Hid (ReadsD wb0 (.slice adu m cpu) es) := HE.out.below (nn.below.mono (Nat.le_refl _))
       replace HK : Hid (KOk wb0) := HK.out.below nn.below HK.out.lt
       replace HBW : Hid (Below w.heap.size w wb0) := HBW.out.trans (nn.below.mono HBW.out.size)
       clear nn)
    | (with_reducible refine wpSeq_boxD (.tmp 3) v ?_ ?_ ?_ ?_
       · rfl
       · rfl
       · rfl
       intro gv wb1 nn
       replace Hgx : Hid (Blk wb1 gx (cb x) 24) := Hgx.out.below nn.below Hgx.out.lt
       have Hgv : Hid (Blk wb1 gv (cb v) 24) := nn.blk
       replace HD : Hid (ReadsD wb1 (.slice adt n cpt) ds) := HD.out.below (nn.below.mono (Nat.le_refl _))
       replace HE : Hid (ReadsD wb1 (.slice adu m cpu) es) := HE.out.below (nn.below.mono (Nat.le_refl _))
       replace HK : Hid (KOk wb1) := HK.out.below nn.below HK.out.lt
       replace HBW : Hid (Below w.heap.size w wb1) := HBW.out.trans (nn.below.mono HBW.out.size)
       clear nn)
    | (with_reducible refine wpSeq_boxD (.tmp 4) u ?_ ?_ ?_ ?_
       · rfl
       · rfl
       · rfl
       intro gu wb2 nn
       replace Hgx : Hid (Blk wb2 gx (cb x) 24) := Hgx.out.below nn.below Hgx.out.lt
       replace Hgv : Hid (Blk wb2 gv (cb v) 24) := Hgv.out.below nn.below Hgv.out.lt
       have Hgu : Hid (Blk wb2 gu (cb u) 24) := nn.blk
       replace HD : Hid (ReadsD wb2 (.slice adt n cpt) ds) := HD.out.below (nn.below.mono (Nat.le_refl _))
       replace HE : Hid (ReadsD wb2 (.slice adu m cpu) es) := HE.out.below (nn.below.mono (Nat.le_refl _))
       replace HK : Hid (KOk wb2) := HK.out.below nn.below HK.out.lt
       replace HBW : Hid (Below w.heap.size w wb2) := HBW.out.trans (nn.below.mono HBW.out.size)
       clear nn)
    | (go_at_call 9; refine (trfew_any _ ds _ HD.out).mono ?_; rintro e w1 ⟨rfl, hb⟩; rw [← HC.out]
       replace Hgx : Hid (Blk w1 gx (cb x) 24) := Hgx.out.below hb Hgx.out.lt
       replace Hgv : Hid (Blk w1 gv (cb v) 24) := Hgv.out.below hb Hgv.out.lt
       replace Hgu : Hid (Blk w1 gu (cb u) 24) := Hgu.out.below hb Hgu.out.lt
       replace HD : Hid (ReadsD w1 (.slice adt n cpt) ds) := HD.out.below hb
       replace HE : Hid (ReadsD w1 (.slice adu m cpu) es) := HE.out.below hb
       replace HK : Hid (KOk w1) := HK.out.below hb HK.out.lt
       replace HBW : Hid (Below w.heap.size w w1) := HBW.out.trans (hb.mono HBW.out.size)
       clear hb))
  cases c with
  | false =>
    go_wp2_with (first
      | (go_at_call 10; refine (trworks_any HT.out _ HK.out).mono ?_; rintro e wz ⟨rfl, hb⟩
         replace HBW : Hid (Below w.heap.size w wz) := HBW.out.trans (hb.mono HBW.out.size)
         clear hb))
    go_ret
    exact ⟨rfl, HBW.out⟩
  | true =>
    have h60 : ds.length ≤ 60 := of_decide_eq_true HC.out.symm
    have H60 : Hid (ds.length ≤ 60) := h60
    obtain ⟨l, HLD⟩ : ∃ l, Hid (l = ofL (ds.zip es)) := ⟨_, rfl⟩
    have HLL : Hid (l.length ≤ 60) := by show _ ≤ _; rw [HLD.out]; exact len60 h60
    clear h60
    go_upto_region 6 with (first
      | (go_at_call 11; refine (HT.out.ofs _ _ _ ds es HK.out HD.out HE.out H60.out).mono ?_; rintro e w2 ⟨g0, rfl, ht, hb⟩
         rw [← HLD.out] at ht
         have HT0 : Hid (T w2 g0 l) := ht
         replace Hgx : Hid (Blk w2 gx (cb x) 24) := Hgx.out.below hb Hgx.out.lt
         replace Hgv : Hid (Blk w2 gv (cb v) 24) := Hgv.out.below hb Hgv.out.lt
         replace Hgu : Hid (Blk w2 gu (cb u) 24) := Hgu.out.below hb Hgu.out.lt
         replace HK : Hid (KOk w2) := HK.out.below hb HK.out.lt
         replace HBW : Hid (Below w.heap.size w w2) := HBW.out.trans (hb.mono HBW.out.size)
         clear hb ht HD HE))
    have HI : Hid (StS T w g0 l gx gv gu x v u w2) := ⟨HK.out, HBW.out, HT0.out, Hgx.out, Hgv.out, Hgu.out⟩
    have HOK : Hid (okLf l ∧ Up l) := HT.out.good HT0.out
    clear HK HBW HT0 Hgx Hgv Hgu
    obtain ⟨r, HRD⟩ : ∃ r, Hid (r = rootL l 0) := ⟨_, rfl⟩
    have HRL : Hid (r.length = 32) := by show _ = _; rw [HRD.out]; exact rootL_len (ok_fits HOK.out)
    obtain ⟨nl, HNL⟩ : ∃ z, Hid (z = l.length) := ⟨_, rfl⟩
    obtain ⟨sd, HSD⟩ : ∃ z, Hid (z = (wayL l u 0).1) := ⟨_, rfl⟩
    obtain ⟨pe, HPE⟩ : ∃ z, Hid (z = pend (wayL l u 0).2) := ⟨_, rfl⟩
    have HP32 : Hid (pe.2.1.length = 32 ∧ pe.2.2.length = 32) := by show _ ∧ _; rw [HPE.out]; exact pend_len HOK.out.1 u
    have HCP : Hid (∀ W, KOk W → T W g0 l → Calls Tryd.prog 19 #[.pointer (some ⟨g0, 0, none⟩), .agg (cb u).toArray] W fun e w' => ∃ vs, e = .returned (.agg (prfV vs pe.1 pe.2.1 pe.2.2).toArray) ∧ OwnD w' W.heap.size vs sd ∧ Below W.heap.size W w') := fun W h1 h2 => by rw [HPE.out, HSD.out]; exact HT.out.prove W g0 l u h1 h2 HU32.out
    have HCR : Hid (∀ W, KOk W → T W g0 l → Calls Tryd.prog 13 #[.pointer (some ⟨g0, 0, none⟩)] W fun e w' => e = .returned (.agg (cb r).toArray) ∧ Below W.heap.size W w') := fun W h1 h2 => by rw [HRD.out]; exact HT.out.root W g0 l h1 h2
    have HCL : Hid (∀ W, T W g0 l → Calls Tryd.prog 15 #[.pointer (some ⟨g0, 0, none⟩)] W fun e w' => e = .returned (.int .i64 (nl : Int)) ∧ Below W.heap.size W w') := fun W h2 => by rw [HNL.out]; exact HT.out.len W g0 l h2
    go_cut [12, 13, 14] from 30 to 36 (fun a b c W => ∃ gr gp vs, a = .pointer (some ⟨gr, 0, none⟩) ∧ b = .int .i64 (nl : Int) ∧ c = .pointer (some ⟨gp, 0, none⟩) ∧ StS T w g0 l gx gv gu x v u W ∧ Blk W gr (cb r) 24 ∧ Blk W gp (prfV vs pe.1 pe.2.1 pe.2.2) 41 ∧ ReadsD W vs sd)
    case first =>
      obtain ⟨ys, HYS⟩ : ∃ z, Hid (z = w2.drew) := ⟨_, rfl⟩
      refine wp_region_held_drew (S := Over ys) (by kernel_rfl) (by rw [HYS.out]; exact Over.refl _) ?_
      intro hS
      have hI := HI.out.next HT.out (Below.refl _ _).drew
      have hIs : StS T w g0 l gx gv gu x v u ys := by rw [HYS.out]; exact hI
      have HUB : Hid (Blk ys gu (cb u) 24) := hIs.bu
      have HIS : Hid (StS T w g0 l gx gv gu x v u ys) := hIs
      clear HI HYS hIs
      change wpAnyH _ _ _ _ _ _ _ _ (World.drew w2)
      generalize World.drew w2 = y0 at *
      refine wpAnyH_take (i := 0) (v := .pointer (some ⟨g0, 0, none⟩)) rfl (by kernel_rfl) (by kernel_rfl) (by kernel_rfl) (fun _ _ _ h => h) (Or.inl ⟨by rfl, fun wx hx => by simp [go_sem]⟩) hS ?_
      simp only [Act.put, List.getElem_toArray, List.getElem_cons_zero, List.setIfInBounds_toArray, List.set_cons_zero, List.set_cons_succ]
      refine wpAnyH_take (i := 2) (v := .pointer (some ⟨g0, 0, none⟩)) rfl (by kernel_rfl) (by kernel_rfl) (by kernel_rfl) (fun _ _ _ h => h) (Or.inl ⟨by rfl, fun wx hx => by simp [go_sem]⟩) hS ?_
      simp only [Act.put, List.getElem_toArray, List.getElem_cons_succ, List.getElem_cons_zero, List.setIfInBounds_toArray, List.set_cons_zero, List.set_cons_succ]
      refine wpAnyH_take (i := 4) (v := .pointer (some ⟨g0, 0, none⟩)) rfl (by kernel_rfl) (by kernel_rfl) (by kernel_rfl) (fun _ _ _ h => h) (Or.inl ⟨by rfl, fun wx hx => by simp [go_sem]⟩) hS ?_
      simp only [Act.put, List.getElem_toArray, List.getElem_cons_succ, List.getElem_cons_zero, List.setIfInBounds_toArray, List.set_cons_zero, List.set_cons_succ]
      refine wpAnyH_take (i := 5) (v := .agg (cb u).toArray) rfl (by kernel_rfl) (by kernel_rfl) (by kernel_rfl) (fun _ _ _ h => h) (Or.inl ⟨by rfl, fun wx hx => by exact loadDigest _ gu u HU32.out (Over.blk hx HUB.out) rfl rfl⟩) hS ?_
      simp only [Act.put, List.getElem_toArray, List.getElem_cons_succ, List.getElem_cons_zero, List.setIfInBounds_toArray, List.set_cons_zero, List.set_cons_succ]
      refine wpAnyH_tri 1 7 8 (by kernel_rfl) ?_ ?_ ?_
      · skip
        refine wpOp_en 1 (by rfl) (by rfl) (f := 13) (args := #[.pointer (some ⟨g0, 0, none⟩)]) (by simp [go_sem]) (HCR.out _ hI.kk hI.t) ?_
        rintro e z1 ⟨rfl, hb⟩
        replace hI := hI.next HT.out hb
        replace hS := hS.more hb
        refine ⟨_, rfl, hS, ?_⟩
        clear hb
        simp only [Act.put, List.getElem_toArray, List.getElem_cons_succ, List.getElem_cons_zero, List.setIfInBounds_toArray, List.set_cons_zero, List.set_cons_succ]
        refine wpAnyH_tri 3 7 8 (by kernel_rfl) ?_ ?_ ?_
        · skip
          refine wpOp_en 3 (by rfl) (by rfl) (f := 15) (args := #[.pointer (some ⟨g0, 0, none⟩)]) (by simp [go_sem]) (HCL.out _ hI.t) ?_
          rintro e z2 ⟨rfl, hb⟩
          replace hI := hI.next HT.out hb
          replace hS := hS.more hb
          refine ⟨_, rfl, hS, ?_⟩
          clear hb
          simp only [Act.put, List.getElem_toArray, List.getElem_cons_succ, List.getElem_cons_zero, List.setIfInBounds_toArray, List.set_cons_zero, List.set_cons_succ]
          refine wpAnyH_tri 6 7 8 (by kernel_rfl) ?_ ?_ ?_
          · skip
            refine wpOp_en 6 (by rfl) (by rfl) (f := 19) (args := #[.pointer (some ⟨g0, 0, none⟩), .agg (cb u).toArray]) (by simp [go_sem]) (HCP.out _ hI.kk hI.t) ?_
            rintro e z3 ⟨vs, rfl, hvs, hb⟩
            replace hI := hI.next HT.out hb
            replace hS := hS.more hb
            have hrs := hvs.readsD
            have hvl : ∀ j, vs.ownBlock = some j → j < z3.heap.size := fun j hj => (hvs.lt j hj).2
            clear hvs
            refine ⟨_, rfl, hS, ?_⟩
            clear hb
            simp only [Act.put, List.getElem_toArray, List.getElem_cons_succ, List.getElem_cons_zero, List.setIfInBounds_toArray, List.set_cons_zero, List.set_cons_succ]
            refine wpAnyH_pair 7 8 (by kernel_rfl) ?_ ?_
            · skip
              have hb := below_alloc z3 (.cells (cb zb32).toArray 24)
              have hnew : Blk (z3.alloc (.cells (cb zb32).toArray 24)) z3.heap.size (cb zb32) 24 := Blk.new _ _ _
              have hge : ys.heap.size ≤ z3.heap.size := hS.out.size
              replace hI := hI.next HT.out hb
              replace hS := hS.more hb
              replace hrs := hrs.below hb
              have hvr : ∀ j, vs.ownBlock = some j → j ≠ z3.heap.size := fun j hj e => by have h1 := hvl j hj; omega
              replace hvl : ∀ j, vs.ownBlock = some j → j < (z3.alloc (.cells (cb zb32).toArray 24)).heap.size := fun j hj => Nat.lt_of_lt_of_le (hvl j hj) hb.size
              refine wpOp_vl 7 (.pointer (some ⟨z3.heap.size, 0, none⟩)) (z3.alloc (.cells (cb zb32).toArray 24)) (by rfl) (by rfl) (allocDigest _ _ rfl _) ⟨hS, ?_⟩
              simp only [Act.put, List.getElem_toArray, List.getElem_cons_succ, List.getElem_cons_zero, List.setIfInBounds_toArray, List.set_cons_zero, List.set_cons_succ]
              have hbr := hnew
              have hgr := hge
              clear hb hnew hge
              generalize z3.alloc (.cells (cb zb32).toArray 24) = z4 at *
              generalize z3.heap.size = gr at *
              have hb := below_alloc z4 (.cells (prfV nilV 0 zb32 zb32).toArray 41)
              have hnew : Blk (z4.alloc (.cells (prfV nilV 0 zb32 zb32).toArray 41)) z4.heap.size (prfV nilV 0 zb32 zb32) 41 := Blk.new _ _ _
              have hge : ys.heap.size ≤ z4.heap.size := hS.out.size
              replace hI := hI.next HT.out hb
              replace hS := hS.more hb
              replace hbr := hbr.below hb hbr.lt
              replace hrs := hrs.below hb
              have hvp : ∀ j, vs.ownBlock = some j → j ≠ z4.heap.size := fun j hj e => by have h1 := hvl j hj; omega
              replace hvl : ∀ j, vs.ownBlock = some j → j < (z4.alloc (.cells (prfV nilV 0 zb32 zb32).toArray 41)).heap.size := fun j hj => Nat.lt_of_lt_of_le (hvl j hj) hb.size
              refine wpAnyH_step 8 (.pointer (some ⟨z4.heap.size, 0, none⟩)) (z4.alloc (.cells (prfV nilV 0 zb32 zb32).toArray 41)) (by kernel_rfl) rfl (by rfl) (allocPrf _ _ rfl _) hS ?_
              simp only [Act.put, List.getElem_toArray, List.getElem_cons_succ, List.getElem_cons_zero, List.setIfInBounds_toArray, List.set_cons_zero, List.set_cons_succ]
              have hbp := hnew
              have hgp := hge
              clear hb hnew hge
              generalize z4.alloc (.cells (prfV nilV 0 zb32 zb32).toArray 41) = z5 at *
              generalize z4.heap.size = gp at *
              have hvo : vs.oneCell' = true := by obtain ⟨ad9, cp9, hv9⟩ := hrs.slice; rw [hv9]; rfl
              have hne : gr ≠ gp := by
                intro e
                subst e
                unfold Blk at hbr hbp
                rw [hbr] at hbp
                simp only [Option.some.injEq, Obj.cells.injEq] at hbp
                exact absurd hbp.2.1 (by decide)
              refine wpAnyH_law 9 (by kernel_rfl) rfl (by rfl) (wp_store_mid 24 _ _ rfl gr 0 (cb r).toArray rfl rfl (hbr.there 0 _ (by rw [List.size_toArray, cb_len, cb_len, HRL.out]; decide)) (by rw [List.size_toArray, cb_len, HRL.out]; exact info_digest) (all_oneCell_toArray (cb_one r)) ?_)
              rw [List.toList_toArray]
              have hk9 : ∀ k, k ≠ gr → (z5.setCells gr 0 (cb r)).heap[k]? = z5.heap[k]? := At'.setCells _ _ _ (fun _ _ => rfl)
              have hb9 := hbr.whole (cb r) (by rw [cb_len, cb_len, HRL.out]; rfl)
              have hS9 : Over ys (z5.setCells gr 0 (cb r)) := Over.sets hS hgr
              refine ⟨hS9, ?_⟩
              simp only [Act.put, List.getElem_toArray, List.getElem_cons_succ, List.getElem_cons_zero]
              refine wpAnyH_take (i := 10) (v := .int .i64 (nl : Int)) rfl (by kernel_rfl) (by kernel_rfl) (by kernel_rfl) (fun _ _ _ h => h) (Or.inl ⟨by rfl, fun wx hx => by simp [go_sem]⟩) hS9 ?_
              simp only [Act.put, List.getElem_toArray, List.getElem_cons_succ, List.getElem_cons_zero, List.setIfInBounds_toArray, List.set_cons_zero, List.set_cons_succ]
              have hbp9 : Blk (z5.setCells gr 0 (cb r)) gp (prfV nilV 0 zb32 zb32) 41 := by have h := hbp; unfold Blk at *; rw [hk9 gp (Ne.symm hne)]; exact h
              refine wpAnyH_law 11 (by kernel_rfl) rfl (by rfl) (wp_store_mid 41 _ _ rfl gp 0 (prfV vs pe.1 pe.2.1 pe.2.2).toArray rfl rfl (hbp9.there 0 _ (by rw [List.size_toArray, prfV_len HP32.out.1 HP32.out.2, prfV_len zb32_len zb32_len]; decide)) (by rw [List.size_toArray, prfV_len HP32.out.1 HP32.out.2]; exact info_proof) (all_oneCell_toArray (prfV_one hvo)) ?_)
              rw [List.toList_toArray]
              have hS11 := Over.sets (o := 0) (cs := prfV vs pe.1 pe.2.1 pe.2.2) hS9 hgp
              refine ⟨hS11, ?_⟩
              simp only [Act.put, List.getElem_toArray, List.getElem_cons_succ, List.getElem_cons_zero]
              refine wpAnyH_done (by kernel_rfl) ?_ _
              have HFN : Hid (StS T w g0 l gx gv gu x v u ((z5.setCells gr 0 (cb r)).setCells gp 0 (prfV vs pe.1 pe.2.1 pe.2.2)) ∧ Blk ((z5.setCells gr 0 (cb r)).setCells gp 0 (prfV vs pe.1 pe.2.1 pe.2.2)) gr (cb r) 24 ∧ Blk ((z5.setCells gr 0 (cb r)).setCells gp 0 (prfV vs pe.1 pe.2.1 pe.2.2)) gp (prfV vs pe.1 pe.2.1 pe.2.2) 41 ∧ ReadsD ((z5.setCells gr 0 (cb r)).setCells gp 0 (prfV vs pe.1 pe.2.1 pe.2.2)) vs sd) := fin_st HT.out HIS.out hS11 hb9 hbp9 hk9 hne (prfV_len HP32.out.1 HP32.out.2) hrs hvr hvp
              clear hS hS9 hS11 hI hbr hbp hbp9 hb9 hk9 hrs hvr hvp hvl
              generalize (z5.setCells gr 0 (cb r)).setCells gp 0 (prfV vs pe.1 pe.2.1 pe.2.2) = wE at *
              go_wp2
              go_meet
              case rel => exact ⟨gr, gp, vs, rfl, rfl, rfl, HFN.out.1, HFN.out.2.1, HFN.out.2.2.1, HFN.out.2.2.2⟩
            · skip
              have hb := below_alloc z3 (.cells (prfV nilV 0 zb32 zb32).toArray 41)
              have hnew : Blk (z3.alloc (.cells (prfV nilV 0 zb32 zb32).toArray 41)) z3.heap.size (prfV nilV 0 zb32 zb32) 41 := Blk.new _ _ _
              have hge : ys.heap.size ≤ z3.heap.size := hS.out.size
              replace hI := hI.next HT.out hb
              replace hS := hS.more hb
              replace hrs := hrs.below hb
              have hvp : ∀ j, vs.ownBlock = some j → j ≠ z3.heap.size := fun j hj e => by have h1 := hvl j hj; omega
              replace hvl : ∀ j, vs.ownBlock = some j → j < (z3.alloc (.cells (prfV nilV 0 zb32 zb32).toArray 41)).heap.size := fun j hj => Nat.lt_of_lt_of_le (hvl j hj) hb.size
              refine wpOp_vl 8 (.pointer (some ⟨z3.heap.size, 0, none⟩)) (z3.alloc (.cells (prfV nilV 0 zb32 zb32).toArray 41)) (by rfl) (by rfl) (allocPrf _ _ rfl _) ⟨hS, ?_⟩
              simp only [Act.put, List.getElem_toArray, List.getElem_cons_succ, List.getElem_cons_zero, List.setIfInBounds_toArray, List.set_cons_zero, List.set_cons_succ]
              have hbp := hnew
              have hgp := hge
              clear hb hnew hge
              generalize z3.alloc (.cells (prfV nilV 0 zb32 zb32).toArray 41) = z6 at *
              generalize z3.heap.size = gp at *
              have hb := below_alloc z6 (.cells (cb zb32).toArray 24)
              have hnew : Blk (z6.alloc (.cells (cb zb32).toArray 24)) z6.heap.size (cb zb32) 24 := Blk.new _ _ _
              have hge : ys.heap.size ≤ z6.heap.size := hS.out.size
              replace hI := hI.next HT.out hb
              replace hS := hS.more hb
              replace hbp := hbp.below hb hbp.lt
              replace hrs := hrs.below hb
              have hvr : ∀ j, vs.ownBlock = some j → j ≠ z6.heap.size := fun j hj e => by have h1 := hvl j hj; omega
              replace hvl : ∀ j, vs.ownBlock = some j → j < (z6.alloc (.cells (cb zb32).toArray 24)).heap.size := fun j hj => Nat.lt_of_lt_of_le (hvl j hj) hb.size
              refine wpAnyH_step 7 (.pointer (some ⟨z6.heap.size, 0, none⟩)) (z6.alloc (.cells (cb zb32).toArray 24)) (by kernel_rfl) rfl (by rfl) (allocDigest _ _ rfl _) hS ?_
              simp only [Act.put, List.getElem_toArray, List.getElem_cons_succ, List.getElem_cons_zero, List.setIfInBounds_toArray, List.set_cons_zero, List.set_cons_succ]
              have hbr := hnew
              have hgr := hge
              clear hb hnew hge
              generalize z6.alloc (.cells (cb zb32).toArray 24) = z7 at *
              generalize z6.heap.size = gr at *
              have hvo : vs.oneCell' = true := by obtain ⟨ad9, cp9, hv9⟩ := hrs.slice; rw [hv9]; rfl
              have hne : gr ≠ gp := by
                intro e
                subst e
                unfold Blk at hbr hbp
                rw [hbr] at hbp
                simp only [Option.some.injEq, Obj.cells.injEq] at hbp
                exact absurd hbp.2.1 (by decide)
              refine wpAnyH_law 9 (by kernel_rfl) rfl (by rfl) (wp_store_mid 24 _ _ rfl gr 0 (cb r).toArray rfl rfl (hbr.there 0 _ (by rw [List.size_toArray, cb_len, cb_len, HRL.out]; decide)) (by rw [List.size_toArray, cb_len, HRL.out]; exact info_digest) (all_oneCell_toArray (cb_one r)) ?_)
              rw [List.toList_toArray]
              have hk9 : ∀ k, k ≠ gr → (z7.setCells gr 0 (cb r)).heap[k]? = z7.heap[k]? := At'.setCells _ _ _ (fun _ _ => rfl)
              have hb9 := hbr.whole (cb r) (by rw [cb_len, cb_len, HRL.out]; rfl)
              have hS9 : Over ys (z7.setCells gr 0 (cb r)) := Over.sets hS hgr
              refine ⟨hS9, ?_⟩
              simp only [Act.put, List.getElem_toArray, List.getElem_cons_succ, List.getElem_cons_zero]
              refine wpAnyH_take (i := 10) (v := .int .i64 (nl : Int)) rfl (by kernel_rfl) (by kernel_rfl) (by kernel_rfl) (fun _ _ _ h => h) (Or.inl ⟨by rfl, fun wx hx => by simp [go_sem]⟩) hS9 ?_
              simp only [Act.put, List.getElem_toArray, List.getElem_cons_succ, List.getElem_cons_zero, List.setIfInBounds_toArray, List.set_cons_zero, List.set_cons_succ]
              have hbp9 : Blk (z7.setCells gr 0 (cb r)) gp (prfV nilV 0 zb32 zb32) 41 := by have h := hbp; unfold Blk at *; rw [hk9 gp (Ne.symm hne)]; exact h
              refine wpAnyH_law 11 (by kernel_rfl) rfl (by rfl) (wp_store_mid 41 _ _ rfl gp 0 (prfV vs pe.1 pe.2.1 pe.2.2).toArray rfl rfl (hbp9.there 0 _ (by rw [List.size_toArray, prfV_len HP32.out.1 HP32.out.2, prfV_len zb32_len zb32_len]; decide)) (by rw [List.size_toArray, prfV_len HP32.out.1 HP32.out.2]; exact info_proof) (all_oneCell_toArray (prfV_one hvo)) ?_)
              rw [List.toList_toArray]
              have hS11 := Over.sets (o := 0) (cs := prfV vs pe.1 pe.2.1 pe.2.2) hS9 hgp
              refine ⟨hS11, ?_⟩
              simp only [Act.put, List.getElem_toArray, List.getElem_cons_succ, List.getElem_cons_zero]
              refine wpAnyH_done (by kernel_rfl) ?_ _
              have HFN : Hid (StS T w g0 l gx gv gu x v u ((z7.setCells gr 0 (cb r)).setCells gp 0 (prfV vs pe.1 pe.2.1 pe.2.2)) ∧ Blk ((z7.setCells gr 0 (cb r)).setCells gp 0 (prfV vs pe.1 pe.2.1 pe.2.2)) gr (cb r) 24 ∧ Blk ((z7.setCells gr 0 (cb r)).setCells gp 0 (prfV vs pe.1 pe.2.1 pe.2.2)) gp (prfV vs pe.1 pe.2.1 pe.2.2) 41 ∧ ReadsD ((z7.setCells gr 0 (cb r)).setCells gp 0 (prfV vs pe.1 pe.2.1 pe.2.2)) vs sd) := fin_st HT.out HIS.out hS11 hb9 hbp9 hk9 hne (prfV_len HP32.out.1 HP32.out.2) hrs hvr hvp
              clear hS hS9 hS11 hI hbr hbp hbp9 hb9 hk9 hrs hvr hvp hvl
              generalize (z7.setCells gr 0 (cb r)).setCells gp 0 (prfV vs pe.1 pe.2.1 pe.2.2) = wE at *
              go_wp2
              go_meet
              case rel => exact ⟨gr, gp, vs, rfl, rfl, rfl, HFN.out.1, HFN.out.2.1, HFN.out.2.2.1, HFN.out.2.2.2⟩
          · skip
            have hb := below_alloc z2 (.cells (cb zb32).toArray 24)
            have hnew : Blk (z2.alloc (.cells (cb zb32).toArray 24)) z2.heap.size (cb zb32) 24 := Blk.new _ _ _
            have hge : ys.heap.size ≤ z2.heap.size := hS.out.size
            replace hI := hI.next HT.out hb
            replace hS := hS.more hb
            refine wpOp_vl 7 (.pointer (some ⟨z2.heap.size, 0, none⟩)) (z2.alloc (.cells (cb zb32).toArray 24)) (by rfl) (by rfl) (allocDigest _ _ rfl _) ⟨hS, ?_⟩
            simp only [Act.put, List.getElem_toArray, List.getElem_cons_succ, List.getElem_cons_zero, List.setIfInBounds_toArray, List.set_cons_zero, List.set_cons_succ]
            have hbr := hnew
            have hgr := hge
            clear hb hnew hge
            generalize z2.alloc (.cells (cb zb32).toArray 24) = z8 at *
            generalize z2.heap.size = gr at *
            refine wpAnyH_pair 6 8 (by kernel_rfl) ?_ ?_
            · skip
              refine wpOp_en 6 (by rfl) (by rfl) (f := 19) (args := #[.pointer (some ⟨g0, 0, none⟩), .agg (cb u).toArray]) (by simp [go_sem]) (HCP.out _ hI.kk hI.t) ?_
              rintro e z9 ⟨vs, rfl, hvs, hb⟩
              have hltr := hbr.lt
              replace hI := hI.next HT.out hb
              replace hS := hS.more hb
              replace hbr := hbr.below hb hbr.lt
              have hrs := hvs.readsD
              have hvl : ∀ j, vs.ownBlock = some j → j < z9.heap.size := fun j hj => (hvs.lt j hj).2
              have hvr : ∀ j, vs.ownBlock = some j → j ≠ gr := fun j hj e => by have h1 := (hvs.lt j hj).1; have h2 := hltr; omega
              clear hvs
              refine ⟨_, rfl, hS, ?_⟩
              clear hb
              simp only [Act.put, List.getElem_toArray, List.getElem_cons_succ, List.getElem_cons_zero, List.setIfInBounds_toArray, List.set_cons_zero, List.set_cons_succ]
              have hb := below_alloc z9 (.cells (prfV nilV 0 zb32 zb32).toArray 41)
              have hnew : Blk (z9.alloc (.cells (prfV nilV 0 zb32 zb32).toArray 41)) z9.heap.size (prfV nilV 0 zb32 zb32) 41 := Blk.new _ _ _
              have hge : ys.heap.size ≤ z9.heap.size := hS.out.size
              replace hI := hI.next HT.out hb
              replace hS := hS.more hb
              replace hbr := hbr.below hb hbr.lt
              replace hrs := hrs.below hb
              have hvp : ∀ j, vs.ownBlock = some j → j ≠ z9.heap.size := fun j hj e => by have h1 := hvl j hj; omega
              replace hvl : ∀ j, vs.ownBlock = some j → j < (z9.alloc (.cells (prfV nilV 0 zb32 zb32).toArray 41)).heap.size := fun j hj => Nat.lt_of_lt_of_le (hvl j hj) hb.size
              refine wpAnyH_step 8 (.pointer (some ⟨z9.heap.size, 0, none⟩)) (z9.alloc (.cells (prfV nilV 0 zb32 zb32).toArray 41)) (by kernel_rfl) rfl (by rfl) (allocPrf _ _ rfl _) hS ?_
              simp only [Act.put, List.getElem_toArray, List.getElem_cons_succ, List.getElem_cons_zero, List.setIfInBounds_toArray, List.set_cons_zero, List.set_cons_succ]
              have hbp := hnew
              have hgp := hge
              clear hb hnew hge
              generalize z9.alloc (.cells (prfV nilV 0 zb32 zb32).toArray 41) = z10 at *
              generalize z9.heap.size = gp at *
              have hvo : vs.oneCell' = true := by obtain ⟨ad9, cp9, hv9⟩ := hrs.slice; rw [hv9]; rfl
              have hne : gr ≠ gp := by
                intro e
                subst e
                unfold Blk at hbr hbp
                rw [hbr] at hbp
                simp only [Option.some.injEq, Obj.cells.injEq] at hbp
                exact absurd hbp.2.1 (by decide)
              refine wpAnyH_law 9 (by kernel_rfl) rfl (by rfl) (wp_store_mid 24 _ _ rfl gr 0 (cb r).toArray rfl rfl (hbr.there 0 _ (by rw [List.size_toArray, cb_len, cb_len, HRL.out]; decide)) (by rw [List.size_toArray, cb_len, HRL.out]; exact info_digest) (all_oneCell_toArray (cb_one r)) ?_)
              rw [List.toList_toArray]
              have hk9 : ∀ k, k ≠ gr → (z10.setCells gr 0 (cb r)).heap[k]? = z10.heap[k]? := At'.setCells _ _ _ (fun _ _ => rfl)
              have hb9 := hbr.whole (cb r) (by rw [cb_len, cb_len, HRL.out]; rfl)
              have hS9 : Over ys (z10.setCells gr 0 (cb r)) := Over.sets hS hgr
              refine ⟨hS9, ?_⟩
              simp only [Act.put, List.getElem_toArray, List.getElem_cons_succ, List.getElem_cons_zero]
              refine wpAnyH_take (i := 10) (v := .int .i64 (nl : Int)) rfl (by kernel_rfl) (by kernel_rfl) (by kernel_rfl) (fun _ _ _ h => h) (Or.inl ⟨by rfl, fun wx hx => by simp [go_sem]⟩) hS9 ?_
              simp only [Act.put, List.getElem_toArray, List.getElem_cons_succ, List.getElem_cons_zero, List.setIfInBounds_toArray, List.set_cons_zero, List.set_cons_succ]
              have hbp9 : Blk (z10.setCells gr 0 (cb r)) gp (prfV nilV 0 zb32 zb32) 41 := by have h := hbp; unfold Blk at *; rw [hk9 gp (Ne.symm hne)]; exact h
              refine wpAnyH_law 11 (by kernel_rfl) rfl (by rfl) (wp_store_mid 41 _ _ rfl gp 0 (prfV vs pe.1 pe.2.1 pe.2.2).toArray rfl rfl (hbp9.there 0 _ (by rw [List.size_toArray, prfV_len HP32.out.1 HP32.out.2, prfV_len zb32_len zb32_len]; decide)) (by rw [List.size_toArray, prfV_len HP32.out.1 HP32.out.2]; exact info_proof) (all_oneCell_toArray (prfV_one hvo)) ?_)
              rw [List.toList_toArray]
              have hS11 := Over.sets (o := 0) (cs := prfV vs pe.1 pe.2.1 pe.2.2) hS9 hgp
              refine ⟨hS11, ?_⟩
              simp only [Act.put, List.getElem_toArray, List.getElem_cons_succ, List.getElem_cons_zero]
              refine wpAnyH_done (by kernel_rfl) ?_ _
              have HFN : Hid (StS T w g0 l gx gv gu x v u ((z10.setCells gr 0 (cb r)).setCells gp 0 (prfV vs pe.1 pe.2.1 pe.2.2)) ∧ Blk ((z10.setCells gr 0 (cb r)).setCells gp 0 (prfV vs pe.1 pe.2.1 pe.2.2)) gr (cb r) 24 ∧ Blk ((z10.setCells gr 0 (cb r)).setCells gp 0 (prfV vs pe.1 pe.2.1 pe.2.2)) gp (prfV vs pe.1 pe.2.1 pe.2.2) 41 ∧ ReadsD ((z10.setCells gr 0 (cb r)).setCells gp 0 (prfV vs pe.1 pe.2.1 pe.2.2)) vs sd) := fin_st HT.out HIS.out hS11 hb9 hbp9 hk9 hne (prfV_len HP32.out.1 HP32.out.2) hrs hvr hvp
              clear hS hS9 hS11 hI hbr hbp hbp9 hb9 hk9 hrs hvr hvp hvl
              generalize (z10.setCells gr 0 (cb r)).setCells gp 0 (prfV vs pe.1 pe.2.1 pe.2.2) = wE at *
              go_wp2
              go_meet
              case rel => exact ⟨gr, gp, vs, rfl, rfl, rfl, HFN.out.1, HFN.out.2.1, HFN.out.2.2.1, HFN.out.2.2.2⟩
            · skip
              have hb := below_alloc z8 (.cells (prfV nilV 0 zb32 zb32).toArray 41)
              have hnew : Blk (z8.alloc (.cells (prfV nilV 0 zb32 zb32).toArray 41)) z8.heap.size (prfV nilV 0 zb32 zb32) 41 := Blk.new _ _ _
              have hge : ys.heap.size ≤ z8.heap.size := hS.out.size
              replace hI := hI.next HT.out hb
              replace hS := hS.more hb
              replace hbr := hbr.below hb hbr.lt
              refine wpOp_vl 8 (.pointer (some ⟨z8.heap.size, 0, none⟩)) (z8.alloc (.cells (prfV nilV 0 zb32 zb32).toArray 41)) (by rfl) (by rfl) (allocPrf _ _ rfl _) ⟨hS, ?_⟩
              simp only [Act.put, List.getElem_toArray, List.getElem_cons_succ, List.getElem_cons_zero, List.setIfInBounds_toArray, List.set_cons_zero, List.set_cons_succ]
              have hbp := hnew
              have hgp := hge
              clear hb hnew hge
              generalize z8.alloc (.cells (prfV nilV 0 zb32 zb32).toArray 41) = z11 at *
              generalize z8.heap.size = gp at *
              refine wpAnyH_enter 6 (by kernel_rfl) rfl (by rfl) (f := 19) (args := #[.pointer (some ⟨g0, 0, none⟩), .agg (cb u).toArray]) (by simp [go_sem]) (HCP.out _ hI.kk hI.t) ?_
              rintro e z12 ⟨vs, rfl, hvs, hb⟩
              have hltr := hbr.lt
              have hltp := hbp.lt
              replace hI := hI.next HT.out hb
              replace hS := hS.more hb
              replace hbr := hbr.below hb hbr.lt
              replace hbp := hbp.below hb hbp.lt
              have hrs := hvs.readsD
              have hvl : ∀ j, vs.ownBlock = some j → j < z12.heap.size := fun j hj => (hvs.lt j hj).2
              have hvr : ∀ j, vs.ownBlock = some j → j ≠ gr := fun j hj e => by have h1 := (hvs.lt j hj).1; have h2 := hltr; omega
              have hvp : ∀ j, vs.ownBlock = some j → j ≠ gp := fun j hj e => by have h1 := (hvs.lt j hj).1; have h2 := hltp; omega
              clear hvs
              refine ⟨_, rfl, hS, ?_⟩
              clear hb
              simp only [Act.put, List.getElem_toArray, List.getElem_cons_succ, List.getElem_cons_zero, List.setIfInBounds_toArray, List.set_cons_zero, List.set_cons_succ]
              have hvo : vs.oneCell' = true := by obtain ⟨ad9, cp9, hv9⟩ := hrs.slice; rw [hv9]; rfl
              have hne : gr ≠ gp := by
                intro e
                subst e
                unfold Blk at hbr hbp
                rw [hbr] at hbp
                simp only [Option.some.injEq, Obj.cells.injEq] at hbp
                exact absurd hbp.2.1 (by decide)
              refine wpAnyH_law 9 (by kernel_rfl) rfl (by rfl) (wp_store_mid 24 _ _ rfl gr 0 (cb r).toArray rfl rfl (hbr.there 0 _ (by rw [List.size_toArray, cb_len, cb_len, HRL.out]; decide)) (by rw [List.size_toArray, cb_len, HRL.out]; exact info_digest) (all_oneCell_toArray (cb_one r)) ?_)
              rw [List.toList_toArray]
              have hk9 : ∀ k, k ≠ gr → (z12.setCells gr 0 (cb r)).heap[k]? = z12.heap[k]? := At'.setCells _ _ _ (fun _ _ => rfl)
              have hb9 := hbr.whole (cb r) (by rw [cb_len, cb_len, HRL.out]; rfl)
              have hS9 : Over ys (z12.setCells gr 0 (cb r)) := Over.sets hS hgr
              refine ⟨hS9, ?_⟩
              simp only [Act.put, List.getElem_toArray, List.getElem_cons_succ, List.getElem_cons_zero]
              refine wpAnyH_take (i := 10) (v := .int .i64 (nl : Int)) rfl (by kernel_rfl) (by kernel_rfl) (by kernel_rfl) (fun _ _ _ h => h) (Or.inl ⟨by rfl, fun wx hx => by simp [go_sem]⟩) hS9 ?_
              simp only [Act.put, List.getElem_toArray, List.getElem_cons_succ, List.getElem_cons_zero, List.setIfInBounds_toArray, List.set_cons_zero, List.set_cons_succ]
              have hbp9 : Blk (z12.setCells gr 0 (cb r)) gp (prfV nilV 0 zb32 zb32) 41 := by have h := hbp; unfold Blk at *; rw [hk9 gp (Ne.symm hne)]; exact h
              refine wpAnyH_law 11 (by kernel_rfl) rfl (by rfl) (wp_store_mid 41 _ _ rfl gp 0 (prfV vs pe.1 pe.2.1 pe.2.2).toArray rfl rfl (hbp9.there 0 _ (by rw [List.size_toArray, prfV_len HP32.out.1 HP32.out.2, prfV_len zb32_len zb32_len]; decide)) (by rw [List.size_toArray, prfV_len HP32.out.1 HP32.out.2]; exact info_proof) (all_oneCell_toArray (prfV_one hvo)) ?_)
              rw [List.toList_toArray]
              have hS11 := Over.sets (o := 0) (cs := prfV vs pe.1 pe.2.1 pe.2.2) hS9 hgp
              refine ⟨hS11, ?_⟩
              simp only [Act.put, List.getElem_toArray, List.getElem_cons_succ, List.getElem_cons_zero]
              refine wpAnyH_done (by kernel_rfl) ?_ _
              have HFN : Hid (StS T w g0 l gx gv gu x v u ((z12.setCells gr 0 (cb r)).setCells gp 0 (prfV vs pe.1 pe.2.1 pe.2.2)) ∧ Blk ((z12.setCells gr 0 (cb r)).setCells gp 0 (prfV vs pe.1 pe.2.1 pe.2.2)) gr (cb r) 24 ∧ Blk ((z12.setCells gr 0 (cb r)).setCells gp 0 (prfV vs pe.1 pe.2.1 pe.2.2)) gp (prfV vs pe.1 pe.2.1 pe.2.2) 41 ∧ ReadsD ((z12.setCells gr 0 (cb r)).setCells gp 0 (prfV vs pe.1 pe.2.1 pe.2.2)) vs sd) := fin_st HT.out HIS.out hS11 hb9 hbp9 hk9 hne (prfV_len HP32.out.1 HP32.out.2) hrs hvr hvp
              clear hS hS9 hS11 hI hbr hbp hbp9 hb9 hk9 hrs hvr hvp hvl
              generalize (z12.setCells gr 0 (cb r)).setCells gp 0 (prfV vs pe.1 pe.2.1 pe.2.2) = wE at *
              go_wp2
              go_meet
              case rel => exact ⟨gr, gp, vs, rfl, rfl, rfl, HFN.out.1, HFN.out.2.1, HFN.out.2.2.1, HFN.out.2.2.2⟩
          · skip
            have hb := below_alloc z2 (.cells (prfV nilV 0 zb32 zb32).toArray 41)
            have hnew : Blk (z2.alloc (.cells (prfV nilV 0 zb32 zb32).toArray 41)) z2.heap.size (prfV nilV 0 zb32 zb32) 41 := Blk.new _ _ _
            have hge : ys.heap.size ≤ z2.heap.size := hS.out.size
            replace hI := hI.next HT.out hb
            replace hS := hS.more hb
            refine wpOp_vl 8 (.pointer (some ⟨z2.heap.size, 0, none⟩)) (z2.alloc (.cells (prfV nilV 0 zb32 zb32).toArray 41)) (by rfl) (by rfl) (allocPrf _ _ rfl _) ⟨hS, ?_⟩
            simp only [Act.put, List.getElem_toArray, List.getElem_cons_succ, List.getElem_cons_zero, List.setIfInBounds_toArray, List.set_cons_zero, List.set_cons_succ]
            have hbp := hnew
            have hgp := hge
            clear hb hnew hge
            generalize z2.alloc (.cells (prfV nilV 0 zb32 zb32).toArray 41) = z13 at *
            generalize z2.heap.size = gp at *
            refine wpAnyH_pair 6 7 (by kernel_rfl) ?_ ?_
            · skip
              refine wpOp_en 6 (by rfl) (by rfl) (f := 19) (args := #[.pointer (some ⟨g0, 0, none⟩), .agg (cb u).toArray]) (by simp [go_sem]) (HCP.out _ hI.kk hI.t) ?_
              rintro e z14 ⟨vs, rfl, hvs, hb⟩
              have hltp := hbp.lt
              replace hI := hI.next HT.out hb
              replace hS := hS.more hb
              replace hbp := hbp.below hb hbp.lt
              have hrs := hvs.readsD
              have hvl : ∀ j, vs.ownBlock = some j → j < z14.heap.size := fun j hj => (hvs.lt j hj).2
              have hvp : ∀ j, vs.ownBlock = some j → j ≠ gp := fun j hj e => by have h1 := (hvs.lt j hj).1; have h2 := hltp; omega
              clear hvs
              refine ⟨_, rfl, hS, ?_⟩
              clear hb
              simp only [Act.put, List.getElem_toArray, List.getElem_cons_succ, List.getElem_cons_zero, List.setIfInBounds_toArray, List.set_cons_zero, List.set_cons_succ]
              have hb := below_alloc z14 (.cells (cb zb32).toArray 24)
              have hnew : Blk (z14.alloc (.cells (cb zb32).toArray 24)) z14.heap.size (cb zb32) 24 := Blk.new _ _ _
              have hge : ys.heap.size ≤ z14.heap.size := hS.out.size
              replace hI := hI.next HT.out hb
              replace hS := hS.more hb
              replace hbp := hbp.below hb hbp.lt
              replace hrs := hrs.below hb
              have hvr : ∀ j, vs.ownBlock = some j → j ≠ z14.heap.size := fun j hj e => by have h1 := hvl j hj; omega
              replace hvl : ∀ j, vs.ownBlock = some j → j < (z14.alloc (.cells (cb zb32).toArray 24)).heap.size := fun j hj => Nat.lt_of_lt_of_le (hvl j hj) hb.size
              refine wpAnyH_step 7 (.pointer (some ⟨z14.heap.size, 0, none⟩)) (z14.alloc (.cells (cb zb32).toArray 24)) (by kernel_rfl) rfl (by rfl) (allocDigest _ _ rfl _) hS ?_
              simp only [Act.put, List.getElem_toArray, List.getElem_cons_succ, List.getElem_cons_zero, List.setIfInBounds_toArray, List.set_cons_zero, List.set_cons_succ]
              have hbr := hnew
              have hgr := hge
              clear hb hnew hge
              generalize z14.alloc (.cells (cb zb32).toArray 24) = z15 at *
              generalize z14.heap.size = gr at *
              have hvo : vs.oneCell' = true := by obtain ⟨ad9, cp9, hv9⟩ := hrs.slice; rw [hv9]; rfl
              have hne : gr ≠ gp := by
                intro e
                subst e
                unfold Blk at hbr hbp
                rw [hbr] at hbp
                simp only [Option.some.injEq, Obj.cells.injEq] at hbp
                exact absurd hbp.2.1 (by decide)
              refine wpAnyH_law 9 (by kernel_rfl) rfl (by rfl) (wp_store_mid 24 _ _ rfl gr 0 (cb r).toArray rfl rfl (hbr.there 0 _ (by rw [List.size_toArray, cb_len, cb_len, HRL.out]; decide)) (by rw [List.size_toArray, cb_len, HRL.out]; exact info_digest) (all_oneCell_toArray (cb_one r)) ?_)
              rw [List.toList_toArray]
              have hk9 : ∀ k, k ≠ gr → (z15.setCells gr 0 (cb r)).heap[k]? = z15.heap[k]? := At'.setCells _ _ _ (fun _ _ => rfl)
              have hb9 := hbr.whole (cb r) (by rw [cb_len, cb_len, HRL.out]; rfl)
              have hS9 : Over ys (z15.setCells gr 0 (cb r)) := Over.sets hS hgr
              refine ⟨hS9, ?_⟩
              simp only [Act.put, List.getElem_toArray, List.getElem_cons_succ, List.getElem_cons_zero]
              refine wpAnyH_take (i := 10) (v := .int .i64 (nl : Int)) rfl (by kernel_rfl) (by kernel_rfl) (by kernel_rfl) (fun _ _ _ h => h) (Or.inl ⟨by rfl, fun wx hx => by simp [go_sem]⟩) hS9 ?_
              simp only [Act.put, List.getElem_toArray, List.getElem_cons_succ, List.getElem_cons_zero, List.setIfInBounds_toArray, List.set_cons_zero, List.set_cons_succ]
              have hbp9 : Blk (z15.setCells gr 0 (cb r)) gp (prfV nilV 0 zb32 zb32) 41 := by have h := hbp; unfold Blk at *; rw [hk9 gp (Ne.symm hne)]; exact h
              refine wpAnyH_law 11 (by kernel_rfl) rfl (by rfl) (wp_store_mid 41 _ _ rfl gp 0 (prfV vs pe.1 pe.2.1 pe.2.2).toArray rfl rfl (hbp9.there 0 _ (by rw [List.size_toArray, prfV_len HP32.out.1 HP32.out.2, prfV_len zb32_len zb32_len]; decide)) (by rw [List.size_toArray, prfV_len HP32.out.1 HP32.out.2]; exact info_proof) (all_oneCell_toArray (prfV_one hvo)) ?_)
              rw [List.toList_toArray]
              have hS11 := Over.sets (o := 0) (cs := prfV vs pe.1 pe.2.1 pe.2.2) hS9 hgp
              refine ⟨hS11, ?_⟩
              simp only [Act.put, List.getElem_toArray, List.getElem_cons_succ, List.getElem_cons_zero]
              refine wpAnyH_done (by kernel_rfl) ?_ _
              have HFN : Hid (StS T w g0 l gx gv gu x v u ((z15.setCells gr 0 (cb r)).setCells gp 0 (prfV vs pe.1 pe.2.1 pe.2.2)) ∧ Blk ((z15.setCells gr 0 (cb r)).setCells gp 0 (prfV vs pe.1 pe.2.1 pe.2.2)) gr (cb r) 24 ∧ Blk ((z15.setCells gr 0 (cb r)).setCells gp 0 (prfV vs pe.1 pe.2.1 pe.2.2)) gp (prfV vs pe.1 pe.2.1 pe.2.2) 41 ∧ ReadsD ((z15.setCells gr 0 (cb r)).setCells gp 0 (prfV vs pe.1 pe.2.1 pe.2.2)) vs sd) := fin_st HT.out HIS.out hS11 hb9 hbp9 hk9 hne (prfV_len HP32.out.1 HP32.out.2) hrs hvr hvp
              clear hS hS9 hS11 hI hbr hbp hbp9 hb9 hk9 hrs hvr hvp hvl
              generalize (z15.setCells gr 0 (cb r)).setCells gp 0 (prfV vs pe.1 pe.2.1 pe.2.2) = wE at *
              go_wp2
              go_meet
              case rel => exact ⟨gr, gp, vs, rfl, rfl, rfl, HFN.out.1, HFN.out.2.1, HFN.out.2.2.1, HFN.out.2.2.2⟩
            · skip
              have hb := below_alloc z13 (.cells (cb zb32).toArray 24)
              have hnew : Blk (z13.alloc (.cells (cb zb32).toArray 24)) z13.heap.size (cb zb32) 24 := Blk.new _ _ _
              have hge : ys.heap.size ≤ z13.heap.size := hS.out.size
              replace hI := hI.next HT.out hb
              replace hS := hS.more hb
              replace hbp := hbp.below hb hbp.lt
              refine wpOp_vl 7 (.pointer (some ⟨z13.heap.size, 0, none⟩)) (z13.alloc (.cells (cb zb32).toArray 24)) (by rfl) (by rfl) (allocDigest _ _ rfl _) ⟨hS, ?_⟩
              simp only [Act.put, List.getElem_toArray, List.getElem_cons_succ, List.getElem_cons_zero, List.setIfInBounds_toArray, List.set_cons_zero, List.set_cons_succ]
              have hbr := hnew
              have hgr := hge
              clear hb hnew hge
              generalize z13.alloc (.cells (cb zb32).toArray 24) = z16 at *
              generalize z13.heap.size = gr at *
              refine wpAnyH_enter 6 (by kernel_rfl) rfl (by rfl) (f := 19) (args := #[.pointer (some ⟨g0, 0, none⟩), .agg (cb u).toArray]) (by simp [go_sem]) (HCP.out _ hI.kk hI.t) ?_
              rintro e z17 ⟨vs, rfl, hvs, hb⟩
              have hltr := hbr.lt
              have hltp := hbp.lt
              replace hI := hI.next HT.out hb
              replace hS := hS.more hb
              replace hbr := hbr.below hb hbr.lt
              replace hbp := hbp.below hb hbp.lt
              have hrs := hvs.readsD
              have hvl : ∀ j, vs.ownBlock = some j → j < z17.heap.size := fun j hj => (hvs.lt j hj).2
              have hvr : ∀ j, vs.ownBlock = some j → j ≠ gr := fun j hj e => by have h1 := (hvs.lt j hj).1; have h2 := hltr; omega
              have hvp : ∀ j, vs.ownBlock = some j → j ≠ gp := fun j hj e => by have h1 := (hvs.lt j hj).1; have h2 := hltp; omega
              clear hvs
              refine ⟨_, rfl, hS, ?_⟩
              clear hb
              simp only [Act.put, List.getElem_toArray, List.getElem_cons_succ, List.getElem_cons_zero, List.setIfInBounds_toArray, List.set_cons_zero, List.set_cons_succ]
              have hvo : vs.oneCell' = true := by obtain ⟨ad9, cp9, hv9⟩ := hrs.slice; rw [hv9]; rfl
              have hne : gr ≠ gp := by
                intro e
                subst e
                unfold Blk at hbr hbp
                rw [hbr] at hbp
                simp only [Option.some.injEq, Obj.cells.injEq] at hbp
                exact absurd hbp.2.1 (by decide)
              refine wpAnyH_law 9 (by kernel_rfl) rfl (by rfl) (wp_store_mid 24 _ _ rfl gr 0 (cb r).toArray rfl rfl (hbr.there 0 _ (by rw [List.size_toArray, cb_len, cb_len, HRL.out]; decide)) (by rw [List.size_toArray, cb_len, HRL.out]; exact info_digest) (all_oneCell_toArray (cb_one r)) ?_)
              rw [List.toList_toArray]
              have hk9 : ∀ k, k ≠ gr → (z17.setCells gr 0 (cb r)).heap[k]? = z17.heap[k]? := At'.setCells _ _ _ (fun _ _ => rfl)
              have hb9 := hbr.whole (cb r) (by rw [cb_len, cb_len, HRL.out]; rfl)
              have hS9 : Over ys (z17.setCells gr 0 (cb r)) := Over.sets hS hgr
              refine ⟨hS9, ?_⟩
              simp only [Act.put, List.getElem_toArray, List.getElem_cons_succ, List.getElem_cons_zero]
              refine wpAnyH_take (i := 10) (v := .int .i64 (nl : Int)) rfl (by kernel_rfl) (by kernel_rfl) (by kernel_rfl) (fun _ _ _ h => h) (Or.inl ⟨by rfl, fun wx hx => by simp [go_sem]⟩) hS9 ?_
              simp only [Act.put, List.getElem_toArray, List.getElem_cons_succ, List.getElem_cons_zero, List.setIfInBounds_toArray, List.set_cons_zero, List.set_cons_succ]
              have hbp9 : Blk (z17.setCells gr 0 (cb r)) gp (prfV nilV 0 zb32 zb32) 41 := by have h := hbp; unfold Blk at *; rw [hk9 gp (Ne.symm hne)]; exact h
              refine wpAnyH_law 11 (by kernel_rfl) rfl (by rfl) (wp_store_mid 41 _ _ rfl gp 0 (prfV vs pe.1 pe.2.1 pe.2.2).toArray rfl rfl (hbp9.there 0 _ (by rw [List.size_toArray, prfV_len HP32.out.1 HP32.out.2, prfV_len zb32_len zb32_len]; decide)) (by rw [List.size_toArray, prfV_len HP32.out.1 HP32.out.2]; exact info_proof) (all_oneCell_toArray (prfV_one hvo)) ?_)
              rw [List.toList_toArray]
              have hS11 := Over.sets (o := 0) (cs := prfV vs pe.1 pe.2.1 pe.2.2) hS9 hgp
              refine ⟨hS11, ?_⟩
              simp only [Act.put, List.getElem_toArray, List.getElem_cons_succ, List.getElem_cons_zero]
              refine wpAnyH_done (by kernel_rfl) ?_ _
              have HFN : Hid (StS T w g0 l gx gv gu x v u ((z17.setCells gr 0 (cb r)).setCells gp 0 (prfV vs pe.1 pe.2.1 pe.2.2)) ∧ Blk ((z17.setCells gr 0 (cb r)).setCells gp 0 (prfV vs pe.1 pe.2.1 pe.2.2)) gr (cb r) 24 ∧ Blk ((z17.setCells gr 0 (cb r)).setCells gp 0 (prfV vs pe.1 pe.2.1 pe.2.2)) gp (prfV vs pe.1 pe.2.1 pe.2.2) 41 ∧ ReadsD ((z17.setCells gr 0 (cb r)).setCells gp 0 (prfV vs pe.1 pe.2.1 pe.2.2)) vs sd) := fin_st HT.out HIS.out hS11 hb9 hbp9 hk9 hne (prfV_len HP32.out.1 HP32.out.2) hrs hvr hvp
              clear hS hS9 hS11 hI hbr hbp hbp9 hb9 hk9 hrs hvr hvp hvl
              generalize (z17.setCells gr 0 (cb r)).setCells gp 0 (prfV vs pe.1 pe.2.1 pe.2.2) = wE at *
              go_wp2
              go_meet
              case rel => exact ⟨gr, gp, vs, rfl, rfl, rfl, HFN.out.1, HFN.out.2.1, HFN.out.2.2.1, HFN.out.2.2.2⟩
        · skip
          have hb := below_alloc z1 (.cells (cb zb32).toArray 24)
          have hnew : Blk (z1.alloc (.cells (cb zb32).toArray 24)) z1.heap.size (cb zb32) 24 := Blk.new _ _ _
          have hge : ys.heap.size ≤ z1.heap.size := hS.out.size
          replace hI := hI.next HT.out hb
          replace hS := hS.more hb
          refine wpOp_vl 7 (.pointer (some ⟨z1.heap.size, 0, none⟩)) (z1.alloc (.cells (cb zb32).toArray 24)) (by rfl) (by rfl) (allocDigest _ _ rfl _) ⟨hS, ?_⟩
          simp only [Act.put, List.getElem_toArray, List.getElem_cons_succ, List.getElem_cons_zero, List.setIfInBounds_toArray, List.set_cons_zero, List.set_cons_succ]
          have hbr := hnew
          have hgr := hge
          clear hb hnew hge
          generalize z1.alloc (.cells (cb zb32).toArray 24) = z18 at *
          generalize z1.heap.size = gr at *
          refine wpAnyH_pair 3 8 (by kernel_rfl) ?_ ?_
          · skip
            refine wpOp_en 3 (by rfl) (by rfl) (f := 15) (args := #[.pointer (some ⟨g0, 0, none⟩)]) (by simp [go_sem]) (HCL.out _ hI.t) ?_
            rintro e z19 ⟨rfl, hb⟩
            replace hI := hI.next HT.out hb
            replace hS := hS.more hb
            replace hbr := hbr.below hb hbr.lt
            refine ⟨_, rfl, hS, ?_⟩
            clear hb
            simp only [Act.put, List.getElem_toArray, List.getElem_cons_succ, List.getElem_cons_zero, List.setIfInBounds_toArray, List.set_cons_zero, List.set_cons_succ]
            refine wpAnyH_pair 6 8 (by kernel_rfl) ?_ ?_
            · skip
              refine wpOp_en 6 (by rfl) (by rfl) (f := 19) (args := #[.pointer (some ⟨g0, 0, none⟩), .agg (cb u).toArray]) (by simp [go_sem]) (HCP.out _ hI.kk hI.t) ?_
              rintro e z20 ⟨vs, rfl, hvs, hb⟩
              have hltr := hbr.lt
              replace hI := hI.next HT.out hb
              replace hS := hS.more hb
              replace hbr := hbr.below hb hbr.lt
              have hrs := hvs.readsD
              have hvl : ∀ j, vs.ownBlock = some j → j < z20.heap.size := fun j hj => (hvs.lt j hj).2
              have hvr : ∀ j, vs.ownBlock = some j → j ≠ gr := fun j hj e => by have h1 := (hvs.lt j hj).1; have h2 := hltr; omega
              clear hvs
              refine ⟨_, rfl, hS, ?_⟩
              clear hb
              simp only [Act.put, List.getElem_toArray, List.getElem_cons_succ, List.getElem_cons_zero, List.setIfInBounds_toArray, List.set_cons_zero, List.set_cons_succ]
              have hb := below_alloc z20 (.cells (prfV nilV 0 zb32 zb32).toArray 41)
              have hnew : Blk (z20.alloc (.cells (prfV nilV 0 zb32 zb32).toArray 41)) z20.heap.size (prfV nilV 0 zb32 zb32) 41 := Blk.new _ _ _
              have hge : ys.heap.size ≤ z20.heap.size := hS.out.size
              replace hI := hI.next HT.out hb
              replace hS := hS.more hb
              replace hbr := hbr.below hb hbr.lt
              replace hrs := hrs.below hb
              have hvp : ∀ j, vs.ownBlock = some j → j ≠ z20.heap.size := fun j hj e => by have h1 := hvl j hj; omega
              replace hvl : ∀ j, vs.ownBlock = some j → j < (z20.alloc (.cells (prfV nilV 0 zb32 zb32).toArray 41)).heap.size := fun j hj => Nat.lt_of_lt_of_le (hvl j hj) hb.size
              refine wpAnyH_step 8 (.pointer (some ⟨z20.heap.size, 0, none⟩)) (z20.alloc (.cells (prfV nilV 0 zb32 zb32).toArray 41)) (by kernel_rfl) rfl (by rfl) (allocPrf _ _ rfl _) hS ?_
              simp only [Act.put, List.getElem_toArray, List.getElem_cons_succ, List.getElem_cons_zero, List.setIfInBounds_toArray, List.set_cons_zero, List.set_cons_succ]
              have hbp := hnew
              have hgp := hge
              clear hb hnew hge
              generalize z20.alloc (.cells (prfV nilV 0 zb32 zb32).toArray 41) = z21 at *
              generalize z20.heap.size = gp at *
              have hvo : vs.oneCell' = true := by obtain ⟨ad9, cp9, hv9⟩ := hrs.slice; rw [hv9]; rfl
              have hne : gr ≠ gp := by
                intro e
                subst e
                unfold Blk at hbr hbp
                rw [hbr] at hbp
                simp only [Option.some.injEq, Obj.cells.injEq] at hbp
                exact absurd hbp.2.1 (by decide)
              refine wpAnyH_law 9 (by kernel_rfl) rfl (by rfl) (wp_store_mid 24 _ _ rfl gr 0 (cb r).toArray rfl rfl (hbr.there 0 _ (by rw [List.size_toArray, cb_len, cb_len, HRL.out]; decide)) (by rw [List.size_toArray, cb_len, HRL.out]; exact info_digest) (all_oneCell_toArray (cb_one r)) ?_)
              rw [List.toList_toArray]
              have hk9 : ∀ k, k ≠ gr → (z21.setCells gr 0 (cb r)).heap[k]? = z21.heap[k]? := At'.setCells _ _ _ (fun _ _ => rfl)
              have hb9 := hbr.whole (cb r) (by rw [cb_len, cb_len, HRL.out]; rfl)
              have hS9 : Over ys (z21.setCells gr 0 (cb r)) := Over.sets hS hgr
              refine ⟨hS9, ?_⟩
              simp only [Act.put, List.getElem_toArray, List.getElem_cons_succ, List.getElem_cons_zero]
              refine wpAnyH_take (i := 10) (v := .int .i64 (nl : Int)) rfl (by kernel_rfl) (by kernel_rfl) (by kernel_rfl) (fun _ _ _ h => h) (Or.inl ⟨by rfl, fun wx hx => by simp [go_sem]⟩) hS9 ?_
              simp only [Act.put, List.getElem_toArray, List.getElem_cons_succ, List.getElem_cons_zero, List.setIfInBounds_toArray, List.set_cons_zero, List.set_cons_succ]
              have hbp9 : Blk (z21.setCells gr 0 (cb r)) gp (prfV nilV 0 zb32 zb32) 41 := by have h := hbp; unfold Blk at *; rw [hk9 gp (Ne.symm hne)]; exact h
              refine wpAnyH_law 11 (by kernel_rfl) rfl (by rfl) (wp_store_mid 41 _ _ rfl gp 0 (prfV vs pe.1 pe.2.1 pe.2.2).toArray rfl rfl (hbp9.there 0 _ (by rw [List.size_toArray, prfV_len HP32.out.1 HP32.out.2, prfV_len zb32_len zb32_len]; decide)) (by rw [List.size_toArray, prfV_len HP32.out.1 HP32.out.2]; exact info_proof) (all_oneCell_toArray (prfV_one hvo)) ?_)
              rw [List.toList_toArray]
              have hS11 := Over.sets (o := 0) (cs := prfV vs pe.1 pe.2.1 pe.2.2) hS9 hgp
              refine ⟨hS11, ?_⟩
              simp only [Act.put, List.getElem_toArray, List.getElem_cons_succ, List.getElem_cons_zero]
              refine wpAnyH_done (by kernel_rfl) ?_ _
              have HFN : Hid (StS T w g0 l gx gv gu x v u ((z21.setCells gr 0 (cb r)).setCells gp 0 (prfV vs pe.1 pe.2.1 pe.2.2)) ∧ Blk ((z21.setCells gr 0 (cb r)).setCells gp 0 (prfV vs pe.1 pe.2.1 pe.2.2)) gr (cb r) 24 ∧ Blk ((z21.setCells gr 0 (cb r)).setCells gp 0 (prfV vs pe.1 pe.2.1 pe.2.2)) gp (prfV vs pe.1 pe.2.1 pe.2.2) 41 ∧ ReadsD ((z21.setCells gr 0 (cb r)).setCells gp 0 (prfV vs pe.1 pe.2.1 pe.2.2)) vs sd) := fin_st HT.out HIS.out hS11 hb9 hbp9 hk9 hne (prfV_len HP32.out.1 HP32.out.2) hrs hvr hvp
              clear hS hS9 hS11 hI hbr hbp hbp9 hb9 hk9 hrs hvr hvp hvl
              generalize (z21.setCells gr 0 (cb r)).setCells gp 0 (prfV vs pe.1 pe.2.1 pe.2.2) = wE at *
              go_wp2
              go_meet
              case rel => exact ⟨gr, gp, vs, rfl, rfl, rfl, HFN.out.1, HFN.out.2.1, HFN.out.2.2.1, HFN.out.2.2.2⟩
            · skip
              have hb := below_alloc z19 (.cells (prfV nilV 0 zb32 zb32).toArray 41)
              have hnew : Blk (z19.alloc (.cells (prfV nilV 0 zb32 zb32).toArray 41)) z19.heap.size (prfV nilV 0 zb32 zb32) 41 := Blk.new _ _ _
              have hge : ys.heap.size ≤ z19.heap.size := hS.out.size
              replace hI := hI.next HT.out hb
              replace hS := hS.more hb
              replace hbr := hbr.below hb hbr.lt
              refine wpOp_vl 8 (.pointer (some ⟨z19.heap.size, 0, none⟩)) (z19.alloc (.cells (prfV nilV 0 zb32 zb32).toArray 41)) (by rfl) (by rfl) (allocPrf _ _ rfl _) ⟨hS, ?_⟩
              simp only [Act.put, List.getElem_toArray, List.getElem_cons_succ, List.getElem_cons_zero, List.setIfInBounds_toArray, List.set_cons_zero, List.set_cons_succ]
              have hbp := hnew
              have hgp := hge
              clear hb hnew hge
              generalize z19.alloc (.cells (prfV nilV 0 zb32 zb32).toArray 41) = z22 at *
              generalize z19.heap.size = gp at *
              refine wpAnyH_enter 6 (by kernel_rfl) rfl (by rfl) (f := 19) (args := #[.pointer (some ⟨g0, 0, none⟩), .agg (cb u).toArray]) (by simp [go_sem]) (HCP.out _ hI.kk hI.t) ?_
              rintro e z23 ⟨vs, rfl, hvs, hb⟩
              have hltr := hbr.lt
              have hltp := hbp.lt
              replace hI := hI.next HT.out hb
              replace hS := hS.more hb
              replace hbr := hbr.below hb hbr.lt
              replace hbp := hbp.below hb hbp.lt
              have hrs := hvs.readsD
              have hvl : ∀ j, vs.ownBlock = some j → j < z23.heap.size := fun j hj => (hvs.lt j hj).2
              have hvr : ∀ j, vs.ownBlock = some j → j ≠ gr := fun j hj e => by have h1 := (hvs.lt j hj).1; have h2 := hltr; omega
              have hvp : ∀ j, vs.ownBlock = some j → j ≠ gp := fun j hj e => by have h1 := (hvs.lt j hj).1; have h2 := hltp; omega
              clear hvs
              refine ⟨_, rfl, hS, ?_⟩
              clear hb
              simp only [Act.put, List.getElem_toArray, List.getElem_cons_succ, List.getElem_cons_zero, List.setIfInBounds_toArray, List.set_cons_zero, List.set_cons_succ]
              have hvo : vs.oneCell' = true := by obtain ⟨ad9, cp9, hv9⟩ := hrs.slice; rw [hv9]; rfl
              have hne : gr ≠ gp := by
                intro e
                subst e
                unfold Blk at hbr hbp
                rw [hbr] at hbp
                simp only [Option.some.injEq, Obj.cells.injEq] at hbp
                exact absurd hbp.2.1 (by decide)
              refine wpAnyH_law 9 (by kernel_rfl) rfl (by rfl) (wp_store_mid 24 _ _ rfl gr 0 (cb r).toArray rfl rfl (hbr.there 0 _ (by rw [List.size_toArray, cb_len, cb_len, HRL.out]; decide)) (by rw [List.size_toArray, cb_len, HRL.out]; exact info_digest) (all_oneCell_toArray (cb_one r)) ?_)
              rw [List.toList_toArray]
              have hk9 : ∀ k, k ≠ gr → (z23.setCells gr 0 (cb r)).heap[k]? = z23.heap[k]? := At'.setCells _ _ _ (fun _ _ => rfl)
              have hb9 := hbr.whole (cb r) (by rw [cb_len, cb_len, HRL.out]; rfl)
              have hS9 : Over ys (z23.setCells gr 0 (cb r)) := Over.sets hS hgr
              refine ⟨hS9, ?_⟩
              simp only [Act.put, List.getElem_toArray, List.getElem_cons_succ, List.getElem_cons_zero]
              refine wpAnyH_take (i := 10) (v := .int .i64 (nl : Int)) rfl (by kernel_rfl) (by kernel_rfl) (by kernel_rfl) (fun _ _ _ h => h) (Or.inl ⟨by rfl, fun wx hx => by simp [go_sem]⟩) hS9 ?_
              simp only [Act.put, List.getElem_toArray, List.getElem_cons_succ, List.getElem_cons_zero, List.setIfInBounds_toArray, List.set_cons_zero, List.set_cons_succ]
              have hbp9 : Blk (z23.setCells gr 0 (cb r)) gp (prfV nilV 0 zb32 zb32) 41 := by have h := hbp; unfold Blk at *; rw [hk9 gp (Ne.symm hne)]; exact h
              refine wpAnyH_law 11 (by kernel_rfl) rfl (by rfl) (wp_store_mid 41 _ _ rfl gp 0 (prfV vs pe.1 pe.2.1 pe.2.2).toArray rfl rfl (hbp9.there 0 _ (by rw [List.size_toArray, prfV_len HP32.out.1 HP32.out.2, prfV_len zb32_len zb32_len]; decide)) (by rw [List.size_toArray, prfV_len HP32.out.1 HP32.out.2]; exact info_proof) (all_oneCell_toArray (prfV_one hvo)) ?_)
              rw [List.toList_toArray]
              have hS11 := Over.sets (o := 0) (cs := prfV vs pe.1 pe.2.1 pe.2.2) hS9 hgp
              refine ⟨hS11, ?_⟩
              simp only [Act.put, List.getElem_toArray, List.getElem_cons_succ, List.getElem_cons_zero]
              refine wpAnyH_done (by kernel_rfl) ?_ _
              have HFN : Hid (StS T w g0 l gx gv gu x v u ((z23.setCells gr 0 (cb r)).setCells gp 0 (prfV vs pe.1 pe.2.1 pe.2.2)) ∧ Blk ((z23.setCells gr 0 (cb r)).setCells gp 0 (prfV vs pe.1 pe.2.1 pe.2.2)) gr (cb r) 24 ∧ Blk ((z23.setCells gr 0 (cb r)).setCells gp 0 (prfV vs pe.1 pe.2.1 pe.2.2)) gp (prfV vs pe.1 pe.2.1 pe.2.2) 41 ∧ ReadsD ((z23.setCells gr 0 (cb r)).setCells gp 0 (prfV vs pe.1 pe.2.1 pe.2.2)) vs sd) := fin_st HT.out HIS.out hS11 hb9 hbp9 hk9 hne (prfV_len HP32.out.1 HP32.out.2) hrs hvr hvp
              clear hS hS9 hS11 hI hbr hbp hbp9 hb9 hk9 hrs hvr hvp hvl
              generalize (z23.setCells gr 0 (cb r)).setCells gp 0 (prfV vs pe.1 pe.2.1 pe.2.2) = wE at *
              go_wp2
              go_meet
              case rel => exact ⟨gr, gp, vs, rfl, rfl, rfl, HFN.out.1, HFN.out.2.1, HFN.out.2.2.1, HFN.out.2.2.2⟩
          · skip
            have hb := below_alloc z18 (.cells (prfV nilV 0 zb32 zb32).toArray 41)
            have hnew : Blk (z18.alloc (.cells (prfV nilV 0 zb32 zb32).toArray 41)) z18.heap.size (prfV nilV 0 zb32 zb32) 41 := Blk.new _ _ _
            have hge : ys.heap.size ≤ z18.heap.size := hS.out.size
            replace hI := hI.next HT.out hb
            replace hS := hS.more hb
            replace hbr := hbr.below hb hbr.lt
            refine wpOp_vl 8 (.pointer (some ⟨z18.heap.size, 0, none⟩)) (z18.alloc (.cells (prfV nilV 0 zb32 zb32).toArray 41)) (by rfl) (by rfl) (allocPrf _ _ rfl _) ⟨hS, ?_⟩
            simp only [Act.put, List.getElem_toArray, List.getElem_cons_succ, List.getElem_cons_zero, List.setIfInBounds_toArray, List.set_cons_zero, List.set_cons_succ]
            have hbp := hnew
            have hgp := hge
            clear hb hnew hge
            generalize z18.alloc (.cells (prfV nilV 0 zb32 zb32).toArray 41) = z24 at *
            generalize z18.heap.size = gp at *
            refine wpAnyH_enter 3 (by kernel_rfl) rfl (by rfl) (f := 15) (args := #[.pointer (some ⟨g0, 0, none⟩)]) (by simp [go_sem]) (HCL.out _ hI.t) ?_
            rintro e z25 ⟨rfl, hb⟩
            replace hI := hI.next HT.out hb
            replace hS := hS.more hb
            replace hbr := hbr.below hb hbr.lt
            replace hbp := hbp.below hb hbp.lt
            refine ⟨_, rfl, hS, ?_⟩
            clear hb
            simp only [Act.put, List.getElem_toArray, List.getElem_cons_succ, List.getElem_cons_zero, List.setIfInBounds_toArray, List.set_cons_zero, List.set_cons_succ]
            refine wpAnyH_enter 6 (by kernel_rfl) rfl (by rfl) (f := 19) (args := #[.pointer (some ⟨g0, 0, none⟩), .agg (cb u).toArray]) (by simp [go_sem]) (HCP.out _ hI.kk hI.t) ?_
            rintro e z26 ⟨vs, rfl, hvs, hb⟩
            have hltr := hbr.lt
            have hltp := hbp.lt
            replace hI := hI.next HT.out hb
            replace hS := hS.more hb
            replace hbr := hbr.below hb hbr.lt
            replace hbp := hbp.below hb hbp.lt
            have hrs := hvs.readsD
            have hvl : ∀ j, vs.ownBlock = some j → j < z26.heap.size := fun j hj => (hvs.lt j hj).2
            have hvr : ∀ j, vs.ownBlock = some j → j ≠ gr := fun j hj e => by have h1 := (hvs.lt j hj).1; have h2 := hltr; omega
            have hvp : ∀ j, vs.ownBlock = some j → j ≠ gp := fun j hj e => by have h1 := (hvs.lt j hj).1; have h2 := hltp; omega
            clear hvs
            refine ⟨_, rfl, hS, ?_⟩
            clear hb
            simp only [Act.put, List.getElem_toArray, List.getElem_cons_succ, List.getElem_cons_zero, List.setIfInBounds_toArray, List.set_cons_zero, List.set_cons_succ]
            have hvo : vs.oneCell' = true := by obtain ⟨ad9, cp9, hv9⟩ := hrs.slice; rw [hv9]; rfl
            have hne : gr ≠ gp := by
              intro e
              subst e
              unfold Blk at hbr hbp
              rw [hbr] at hbp
              simp only [Option.some.injEq, Obj.cells.injEq] at hbp
              exact absurd hbp.2.1 (by decide)
            refine wpAnyH_law 9 (by kernel_rfl) rfl (by rfl) (wp_store_mid 24 _ _ rfl gr 0 (cb r).toArray rfl rfl (hbr.there 0 _ (by rw [List.size_toArray, cb_len, cb_len, HRL.out]; decide)) (by rw [List.size_toArray, cb_len, HRL.out]; exact info_digest) (all_oneCell_toArray (cb_one r)) ?_)
            rw [List.toList_toArray]
            have hk9 : ∀ k, k ≠ gr → (z26.setCells gr 0 (cb r)).heap[k]? = z26.heap[k]? := At'.setCells _ _ _ (fun _ _ => rfl)
            have hb9 := hbr.whole (cb r) (by rw [cb_len, cb_len, HRL.out]; rfl)
            have hS9 : Over ys (z26.setCells gr 0 (cb r)) := Over.sets hS hgr
            refine ⟨hS9, ?_⟩
            simp only [Act.put, List.getElem_toArray, List.getElem_cons_succ, List.getElem_cons_zero]
            refine wpAnyH_take (i := 10) (v := .int .i64 (nl : Int)) rfl (by kernel_rfl) (by kernel_rfl) (by kernel_rfl) (fun _ _ _ h => h) (Or.inl ⟨by rfl, fun wx hx => by simp [go_sem]⟩) hS9 ?_
            simp only [Act.put, List.getElem_toArray, List.getElem_cons_succ, List.getElem_cons_zero, List.setIfInBounds_toArray, List.set_cons_zero, List.set_cons_succ]
            have hbp9 : Blk (z26.setCells gr 0 (cb r)) gp (prfV nilV 0 zb32 zb32) 41 := by have h := hbp; unfold Blk at *; rw [hk9 gp (Ne.symm hne)]; exact h
            refine wpAnyH_law 11 (by kernel_rfl) rfl (by rfl) (wp_store_mid 41 _ _ rfl gp 0 (prfV vs pe.1 pe.2.1 pe.2.2).toArray rfl rfl (hbp9.there 0 _ (by rw [List.size_toArray, prfV_len HP32.out.1 HP32.out.2, prfV_len zb32_len zb32_len]; decide)) (by rw [List.size_toArray, prfV_len HP32.out.1 HP32.out.2]; exact info_proof) (all_oneCell_toArray (prfV_one hvo)) ?_)
            rw [List.toList_toArray]
            have hS11 := Over.sets (o := 0) (cs := prfV vs pe.1 pe.2.1 pe.2.2) hS9 hgp
            refine ⟨hS11, ?_⟩
            simp only [Act.put, List.getElem_toArray, List.getElem_cons_succ, List.getElem_cons_zero]
            refine wpAnyH_done (by kernel_rfl) ?_ _
            have HFN : Hid (StS T w g0 l gx gv gu x v u ((z26.setCells gr 0 (cb r)).setCells gp 0 (prfV vs pe.1 pe.2.1 pe.2.2)) ∧ Blk ((z26.setCells gr 0 (cb r)).setCells gp 0 (prfV vs pe.1 pe.2.1 pe.2.2)) gr (cb r) 24 ∧ Blk ((z26.setCells gr 0 (cb r)).setCells gp 0 (prfV vs pe.1 pe.2.1 pe.2.2)) gp (prfV vs pe.1 pe.2.1 pe.2.2) 41 ∧ ReadsD ((z26.setCells gr 0 (cb r)).setCells gp 0 (prfV vs pe.1 pe.2.1 pe.2.2)) vs sd) := fin_st HT.out HIS.out hS11 hb9 hbp9 hk9 hne (prfV_len HP32.out.1 HP32.out.2) hrs hvr hvp
            clear hS hS9 hS11 hI hbr hbp hbp9 hb9 hk9 hrs hvr hvp hvl
            generalize (z26.setCells gr 0 (cb r)).setCells gp 0 (prfV vs pe.1 pe.2.1 pe.2.2) = wE at *
            go_wp2
            go_meet
            case rel => exact ⟨gr, gp, vs, rfl, rfl, rfl, HFN.out.1, HFN.out.2.1, HFN.out.2.2.1, HFN.out.2.2.2⟩
        · skip
          have hb := below_alloc z1 (.cells (prfV nilV 0 zb32 zb32).toArray 41)
          have hnew : Blk (z1.alloc (.cells (prfV nilV 0 zb32 zb32).toArray 41)) z1.heap.size (prfV nilV 0 zb32 zb32) 41 := Blk.new _ _ _
          have hge : ys.heap.size ≤ z1.heap.size := hS.out.size
          replace hI := hI.next HT.out hb
          replace hS := hS.more hb
          refine wpOp_vl 8 (.pointer (some ⟨z1.heap.size, 0, none⟩)) (z1.alloc (.cells (prfV nilV 0 zb32 zb32).toArray 41)) (by rfl) (by rfl) (allocPrf _ _ rfl _) ⟨hS, ?_⟩
          simp only [Act.put, List.getElem_toArray, List.getElem_cons_succ, List.getElem_cons_zero, List.setIfInBounds_toArray, List.set_cons_zero, List.set_cons_succ]
          have hbp := hnew
          have hgp := hge
          clear hb hnew hge
          generalize z1.alloc (.cells (prfV nilV 0 zb32 zb32).toArray 41) = z27 at *
          generalize z1.heap.size = gp at *
          refine wpAnyH_pair 3 7 (by kernel_rfl) ?_ ?_
          · skip
            refine wpOp_en 3 (by rfl) (by rfl) (f := 15) (args := #[.pointer (some ⟨g0, 0, none⟩)]) (by simp [go_sem]) (HCL.out _ hI.t) ?_
            rintro e z28 ⟨rfl, hb⟩
            replace hI := hI.next HT.out hb
            replace hS := hS.more hb
            replace hbp := hbp.below hb hbp.lt
            refine ⟨_, rfl, hS, ?_⟩
            clear hb
            simp only [Act.put, List.getElem_toArray, List.getElem_cons_succ, List.getElem_cons_zero, List.setIfInBounds_toArray, List.set_cons_zero, List.set_cons_succ]
            refine wpAnyH_pair 6 7 (by kernel_rfl) ?_ ?_
            · skip
              refine wpOp_en 6 (by rfl) (by rfl) (f := 19) (args := #[.pointer (some ⟨g0, 0, none⟩), .agg (cb u).toArray]) (by simp [go_sem]) (HCP.out _ hI.kk hI.t) ?_
              rintro e z29 ⟨vs, rfl, hvs, hb⟩
              have hltp := hbp.lt
              replace hI := hI.next HT.out hb
              replace hS := hS.more hb
              replace hbp := hbp.below hb hbp.lt
              have hrs := hvs.readsD
              have hvl : ∀ j, vs.ownBlock = some j → j < z29.heap.size := fun j hj => (hvs.lt j hj).2
              have hvp : ∀ j, vs.ownBlock = some j → j ≠ gp := fun j hj e => by have h1 := (hvs.lt j hj).1; have h2 := hltp; omega
              clear hvs
              refine ⟨_, rfl, hS, ?_⟩
              clear hb
              simp only [Act.put, List.getElem_toArray, List.getElem_cons_succ, List.getElem_cons_zero, List.setIfInBounds_toArray, List.set_cons_zero, List.set_cons_succ]
              have hb := below_alloc z29 (.cells (cb zb32).toArray 24)
              have hnew : Blk (z29.alloc (.cells (cb zb32).toArray 24)) z29.heap.size (cb zb32) 24 := Blk.new _ _ _
              have hge : ys.heap.size ≤ z29.heap.size := hS.out.size
              replace hI := hI.next HT.out hb
              replace hS := hS.more hb
              replace hbp := hbp.below hb hbp.lt
              replace hrs := hrs.below hb
              have hvr : ∀ j, vs.ownBlock = some j → j ≠ z29.heap.size := fun j hj e => by have h1 := hvl j hj; omega
              replace hvl : ∀ j, vs.ownBlock = some j → j < (z29.alloc (.cells (cb zb32).toArray 24)).heap.size := fun j hj => Nat.lt_of_lt_of_le (hvl j hj) hb.size
              refine wpAnyH_step 7 (.pointer (some ⟨z29.heap.size, 0, none⟩)) (z29.alloc (.cells (cb zb32).toArray 24)) (by kernel_rfl) rfl (by rfl) (allocDigest _ _ rfl _) hS ?_
              simp only [Act.put, List.getElem_toArray, List.getElem_cons_succ, List.getElem_cons_zero, List.setIfInBounds_toArray, List.set_cons_zero, List.set_cons_succ]
              have hbr := hnew
              have hgr := hge
              clear hb hnew hge
              generalize z29.alloc (.cells (cb zb32).toArray 24) = z30 at *
              generalize z29.heap.size = gr at *
              have hvo : vs.oneCell' = true := by obtain ⟨ad9, cp9, hv9⟩ := hrs.slice; rw [hv9]; rfl
              have hne : gr ≠ gp := by
                intro e
                subst e
                unfold Blk at hbr hbp
                rw [hbr] at hbp
                simp only [Option.some.injEq, Obj.cells.injEq] at hbp
                exact absurd hbp.2.1 (by decide)
              refine wpAnyH_law 9 (by kernel_rfl) rfl (by rfl) (wp_store_mid 24 _ _ rfl gr 0 (cb r).toArray rfl rfl (hbr.there 0 _ (by rw [List.size_toArray, cb_len, cb_len, HRL.out]; decide)) (by rw [List.size_toArray, cb_len, HRL.out]; exact info_digest) (all_oneCell_toArray (cb_one r)) ?_)
              rw [List.toList_toArray]
              have hk9 : ∀ k, k ≠ gr → (z30.setCells gr 0 (cb r)).heap[k]? = z30.heap[k]? := At'.setCells _ _ _ (fun _ _ => rfl)
              have hb9 := hbr.whole (cb r) (by rw [cb_len, cb_len, HRL.out]; rfl)
              have hS9 : Over ys (z30.setCells gr 0 (cb r)) := Over.sets hS hgr
              refine ⟨hS9, ?_⟩
              simp only [Act.put, List.getElem_toArray, List.getElem_cons_succ, List.getElem_cons_zero]
              refine wpAnyH_take (i := 10) (v := .int .i64 (nl : Int)) rfl (by kernel_rfl) (by kernel_rfl) (by kernel_rfl) (fun _ _ _ h => h) (Or.inl ⟨by rfl, fun wx hx => by simp [go_sem]⟩) hS9 ?_
              simp only [Act.put, List.getElem_toArray, List.getElem_cons_succ, List.getElem_cons_zero, List.setIfInBounds_toArray, List.set_cons_zero, List.set_cons_succ]
              have hbp9 : Blk (z30.setCells gr 0 (cb r)) gp (prfV nilV 0 zb32 zb32) 41 := by have h := hbp; unfold Blk at *; rw [hk9 gp (Ne.symm hne)]; exact h
              refine wpAnyH_law 11 (by kernel_rfl) rfl (by rfl) (wp_store_mid 41 _ _ rfl gp 0 (prfV vs pe.1 pe.2.1 pe.2.2).toArray rfl rfl (hbp9.there 0 _ (by rw [List.size_toArray, prfV_len HP32.out.1 HP32.out.2, prfV_len zb32_len zb32_len]; decide)) (by rw [List.size_toArray, prfV_len HP32.out.1 HP32.out.2]; exact info_proof) (all_oneCell_toArray (prfV_one hvo)) ?_)
              rw [List.toList_toArray]
              have hS11 := Over.sets (o := 0) (cs := prfV vs pe.1 pe.2.1 pe.2.2) hS9 hgp
              refine ⟨hS11, ?_⟩
              simp only [Act.put, List.getElem_toArray, List.getElem_cons_succ, List.getElem_cons_zero]
              refine wpAnyH_done (by kernel_rfl) ?_ _
              have HFN : Hid (StS T w g0 l gx gv gu x v u ((z30.setCells gr 0 (cb r)).setCells gp 0 (prfV vs pe.1 pe.2.1 pe.2.2)) ∧ Blk ((z30.setCells gr 0 (cb r)).setCells gp 0 (prfV vs pe.1 pe.2.1 pe.2.2)) gr (cb r) 24 ∧ Blk ((z30.setCells gr 0 (cb r)).setCells gp 0 (prfV vs pe.1 pe.2.1 pe.2.2)) gp (prfV vs pe.1 pe.2.1 pe.2.2) 41 ∧ ReadsD ((z30.setCells gr 0 (cb r)).setCells gp 0 (prfV vs pe.1 pe.2.1 pe.2.2)) vs sd) := fin_st HT.out HIS.out hS11 hb9 hbp9 hk9 hne (prfV_len HP32.out.1 HP32.out.2) hrs hvr hvp
              clear hS hS9 hS11 hI hbr hbp hbp9 hb9 hk9 hrs hvr hvp hvl
              generalize (z30.setCells gr 0 (cb r)).setCells gp 0 (prfV vs pe.1 pe.2.1 pe.2.2) = wE at *
              go_wp2
              go_meet
              case rel => exact ⟨gr, gp, vs, rfl, rfl, rfl, HFN.out.1, HFN.out.2.1, HFN.out.2.2.1, HFN.out.2.2.2⟩
            · skip
              have hb := below_alloc z28 (.cells (cb zb32).toArray 24)
              have hnew : Blk (z28.alloc (.cells (cb zb32).toArray 24)) z28.heap.size (cb zb32) 24 := Blk.new _ _ _
              have hge : ys.heap.size ≤ z28.heap.size := hS.out.size
              replace hI := hI.next HT.out hb
              replace hS := hS.more hb
              replace hbp := hbp.below hb hbp.lt
              refine wpOp_vl 7 (.pointer (some ⟨z28.heap.size, 0, none⟩)) (z28.alloc (.cells (cb zb32).toArray 24)) (by rfl) (by rfl) (allocDigest _ _ rfl _) ⟨hS, ?_⟩
              simp only [Act.put, List.getElem_toArray, List.getElem_cons_succ, List.getElem_cons_zero, List.setIfInBounds_toArray, List.set_cons_zero, List.set_cons_succ]
              have hbr := hnew
              have hgr := hge
              clear hb hnew hge
              generalize z28.alloc (.cells (cb zb32).toArray 24) = z31 at *
              generalize z28.heap.size = gr at *
              refine wpAnyH_enter 6 (by kernel_rfl) rfl (by rfl) (f := 19) (args := #[.pointer (some ⟨g0, 0, none⟩), .agg (cb u).toArray]) (by simp [go_sem]) (HCP.out _ hI.kk hI.t) ?_
              rintro e z32 ⟨vs, rfl, hvs, hb⟩
              have hltr := hbr.lt
              have hltp := hbp.lt
              replace hI := hI.next HT.out hb
              replace hS := hS.more hb
              replace hbr := hbr.below hb hbr.lt
              replace hbp := hbp.below hb hbp.lt
              have hrs := hvs.readsD
              have hvl : ∀ j, vs.ownBlock = some j → j < z32.heap.size := fun j hj => (hvs.lt j hj).2
              have hvr : ∀ j, vs.ownBlock = some j → j ≠ gr := fun j hj e => by have h1 := (hvs.lt j hj).1; have h2 := hltr; omega
              have hvp : ∀ j, vs.ownBlock = some j → j ≠ gp := fun j hj e => by have h1 := (hvs.lt j hj).1; have h2 := hltp; omega
              clear hvs
              refine ⟨_, rfl, hS, ?_⟩
              clear hb
              simp only [Act.put, List.getElem_toArray, List.getElem_cons_succ, List.getElem_cons_zero, List.setIfInBounds_toArray, List.set_cons_zero, List.set_cons_succ]
              have hvo : vs.oneCell' = true := by obtain ⟨ad9, cp9, hv9⟩ := hrs.slice; rw [hv9]; rfl
              have hne : gr ≠ gp := by
                intro e
                subst e
                unfold Blk at hbr hbp
                rw [hbr] at hbp
                simp only [Option.some.injEq, Obj.cells.injEq] at hbp
                exact absurd hbp.2.1 (by decide)
              refine wpAnyH_law 9 (by kernel_rfl) rfl (by rfl) (wp_store_mid 24 _ _ rfl gr 0 (cb r).toArray rfl rfl (hbr.there 0 _ (by rw [List.size_toArray, cb_len, cb_len, HRL.out]; decide)) (by rw [List.size_toArray, cb_len, HRL.out]; exact info_digest) (all_oneCell_toArray (cb_one r)) ?_)
              rw [List.toList_toArray]
              have hk9 : ∀ k, k ≠ gr → (z32.setCells gr 0 (cb r)).heap[k]? = z32.heap[k]? := At'.setCells _ _ _ (fun _ _ => rfl)
              have hb9 := hbr.whole (cb r) (by rw [cb_len, cb_len, HRL.out]; rfl)
              have hS9 : Over ys (z32.setCells gr 0 (cb r)) := Over.sets hS hgr
              refine ⟨hS9, ?_⟩
              simp only [Act.put, List.getElem_toArray, List.getElem_cons_succ, List.getElem_cons_zero]
              refine wpAnyH_take (i := 10) (v := .int .i64 (nl : Int)) rfl (by kernel_rfl) (by kernel_rfl) (by kernel_rfl) (fun _ _ _ h => h) (Or.inl ⟨by rfl, fun wx hx => by simp [go_sem]⟩) hS9 ?_
              simp only [Act.put, List.getElem_toArray, List.getElem_cons_succ, List.getElem_cons_zero, List.setIfInBounds_toArray, List.set_cons_zero, List.set_cons_succ]
              have hbp9 : Blk (z32.setCells gr 0 (cb r)) gp (prfV nilV 0 zb32 zb32) 41 := by have h := hbp; unfold Blk at *; rw [hk9 gp (Ne.symm hne)]; exact h
              refine wpAnyH_law 11 (by kernel_rfl) rfl (by rfl) (wp_store_mid 41 _ _ rfl gp 0 (prfV vs pe.1 pe.2.1 pe.2.2).toArray rfl rfl (hbp9.there 0 _ (by rw [List.size_toArray, prfV_len HP32.out.1 HP32.out.2, prfV_len zb32_len zb32_len]; decide)) (by rw [List.size_toArray, prfV_len HP32.out.1 HP32.out.2]; exact info_proof) (all_oneCell_toArray (prfV_one hvo)) ?_)
              rw [List.toList_toArray]
              have hS11 := Over.sets (o := 0) (cs := prfV vs pe.1 pe.2.1 pe.2.2) hS9 hgp
              refine ⟨hS11, ?_⟩
              simp only [Act.put, List.getElem_toArray, List.getElem_cons_succ, List.getElem_cons_zero]
              refine wpAnyH_done (by kernel_rfl) ?_ _
              have HFN : Hid (StS T w g0 l gx gv gu x v u ((z32.setCells gr 0 (cb r)).setCells gp 0 (prfV vs pe.1 pe.2.1 pe.2.2)) ∧ Blk ((z32.setCells gr 0 (cb r)).setCells gp 0 (prfV vs pe.1 pe.2.1 pe.2.2)) gr (cb r) 24 ∧ Blk ((z32.setCells gr 0 (cb r)).setCells gp 0 (prfV vs pe.1 pe.2.1 pe.2.2)) gp (prfV vs pe.1 pe.2.1 pe.2.2) 41 ∧ ReadsD ((z32.setCells gr 0 (cb r)).setCells gp 0 (prfV vs pe.1 pe.2.1 pe.2.2)) vs sd) := fin_st HT.out HIS.out hS11 hb9 hbp9 hk9 hne (prfV_len HP32.out.1 HP32.out.2) hrs hvr hvp
              clear hS hS9 hS11 hI hbr hbp hbp9 hb9 hk9 hrs hvr hvp hvl
              generalize (z32.setCells gr 0 (cb r)).setCells gp 0 (prfV vs pe.1 pe.2.1 pe.2.2) = wE at *
              go_wp2
              go_meet
              case rel => exact ⟨gr, gp, vs, rfl, rfl, rfl, HFN.out.1, HFN.out.2.1, HFN.out.2.2.1, HFN.out.2.2.2⟩
          · skip
            have hb := below_alloc z27 (.cells (cb zb32).toArray 24)
            have hnew : Blk (z27.alloc (.cells (cb zb32).toArray 24)) z27.heap.size (cb zb32) 24 := Blk.new _ _ _
            have hge : ys.heap.size ≤ z27.heap.size := hS.out.size
            replace hI := hI.next HT.out hb
            replace hS := hS.more hb
            replace hbp := hbp.below hb hbp.lt
            refine wpOp_vl 7 (.pointer (some ⟨z27.heap.size, 0, none⟩)) (z27.alloc (.cells (cb zb32).toArray 24)) (by rfl) (by rfl) (allocDigest _ _ rfl _) ⟨hS, ?_⟩
            simp only [Act.put, List.getElem_toArray, List.getElem_cons_succ, List.getElem_cons_zero, List.setIfInBounds_toArray, List.set_cons_zero, List.set_cons_succ]
            have hbr := hnew
            have hgr := hge
            clear hb hnew hge
            generalize z27.alloc (.cells (cb zb32).toArray 24) = z33 at *
            generalize z27.heap.size = gr at *
            refine wpAnyH_enter 3 (by kernel_rfl) rfl (by rfl) (f := 15) (args := #[.pointer (some ⟨g0, 0, none⟩)]) (by simp [go_sem]) (HCL.out _ hI.t) ?_
            rintro e z34 ⟨rfl, hb⟩
            replace hI := hI.next HT.out hb
            replace hS := hS.more hb
            replace hbr := hbr.below hb hbr.lt
            replace hbp := hbp.below hb hbp.lt
            refine ⟨_, rfl, hS, ?_⟩
            clear hb
            simp only [Act.put, List.getElem_toArray, List.getElem_cons_succ, List.getElem_cons_zero, List.setIfInBounds_toArray, List.set_cons_zero, List.set_cons_succ]
            refine wpAnyH_enter 6 (by kernel_rfl) rfl (by rfl) (f := 19) (args := #[.pointer (some ⟨g0, 0, none⟩), .agg (cb u).toArray]) (by simp [go_sem]) (HCP.out _ hI.kk hI.t) ?_
            rintro e z35 ⟨vs, rfl, hvs, hb⟩
            have hltr := hbr.lt
            have hltp := hbp.lt
            replace hI := hI.next HT.out hb
            replace hS := hS.more hb
            replace hbr := hbr.below hb hbr.lt
            replace hbp := hbp.below hb hbp.lt
            have hrs := hvs.readsD
            have hvl : ∀ j, vs.ownBlock = some j → j < z35.heap.size := fun j hj => (hvs.lt j hj).2
            have hvr : ∀ j, vs.ownBlock = some j → j ≠ gr := fun j hj e => by have h1 := (hvs.lt j hj).1; have h2 := hltr; omega
            have hvp : ∀ j, vs.ownBlock = some j → j ≠ gp := fun j hj e => by have h1 := (hvs.lt j hj).1; have h2 := hltp; omega
            clear hvs
            refine ⟨_, rfl, hS, ?_⟩
            clear hb
            simp only [Act.put, List.getElem_toArray, List.getElem_cons_succ, List.getElem_cons_zero, List.setIfInBounds_toArray, List.set_cons_zero, List.set_cons_succ]
            have hvo : vs.oneCell' = true := by obtain ⟨ad9, cp9, hv9⟩ := hrs.slice; rw [hv9]; rfl
            have hne : gr ≠ gp := by
              intro e
              subst e
              unfold Blk at hbr hbp
              rw [hbr] at hbp
              simp only [Option.some.injEq, Obj.cells.injEq] at hbp
              exact absurd hbp.2.1 (by decide)
            refine wpAnyH_law 9 (by kernel_rfl) rfl (by rfl) (wp_store_mid 24 _ _ rfl gr 0 (cb r).toArray rfl rfl (hbr.there 0 _ (by rw [List.size_toArray, cb_len, cb_len, HRL.out]; decide)) (by rw [List.size_toArray, cb_len, HRL.out]; exact info_digest) (all_oneCell_toArray (cb_one r)) ?_)
            rw [List.toList_toArray]
            have hk9 : ∀ k, k ≠ gr → (z35.setCells gr 0 (cb r)).heap[k]? = z35.heap[k]? := At'.setCells _ _ _ (fun _ _ => rfl)
            have hb9 := hbr.whole (cb r) (by rw [cb_len, cb_len, HRL.out]; rfl)
            have hS9 : Over ys (z35.setCells gr 0 (cb r)) := Over.sets hS hgr
            refine ⟨hS9, ?_⟩
            simp only [Act.put, List.getElem_toArray, List.getElem_cons_succ, List.getElem_cons_zero]
            refine wpAnyH_take (i := 10) (v := .int .i64 (nl : Int)) rfl (by kernel_rfl) (by kernel_rfl) (by kernel_rfl) (fun _ _ _ h => h) (Or.inl ⟨by rfl, fun wx hx => by simp [go_sem]⟩) hS9 ?_
            simp only [Act.put, List.getElem_toArray, List.getElem_cons_succ, List.getElem_cons_zero, List.setIfInBounds_toArray, List.set_cons_zero, List.set_cons_succ]
            have hbp9 : Blk (z35.setCells gr 0 (cb r)) gp (prfV nilV 0 zb32 zb32) 41 := by have h := hbp; unfold Blk at *; rw [hk9 gp (Ne.symm hne)]; exact h
            refine wpAnyH_law 11 (by kernel_rfl) rfl (by rfl) (wp_store_mid 41 _ _ rfl gp 0 (prfV vs pe.1 pe.2.1 pe.2.2).toArray rfl rfl (hbp9.there 0 _ (by rw [List.size_toArray, prfV_len HP32.out.1 HP32.out.2, prfV_len zb32_len zb32_len]; decide)) (by rw [List.size_toArray, prfV_len HP32.out.1 HP32.out.2]; exact info_proof) (all_oneCell_toArray (prfV_one hvo)) ?_)
            rw [List.toList_toArray]
            have hS11 := Over.sets (o := 0) (cs := prfV vs pe.1 pe.2.1 pe.2.2) hS9 hgp
            refine ⟨hS11, ?_⟩
            simp only [Act.put, List.getElem_toArray, List.getElem_cons_succ, List.getElem_cons_zero]
            refine wpAnyH_done (by kernel_rfl) ?_ _
            have HFN : Hid (StS T w g0 l gx gv gu x v u ((z35.setCells gr 0 (cb r)).setCells gp 0 (prfV vs pe.1 pe.2.1 pe.2.2)) ∧ Blk ((z35.setCells gr 0 (cb r)).setCells gp 0 (prfV vs pe.1 pe.2.1 pe.2.2)) gr (cb r) 24 ∧ Blk ((z35.setCells gr 0 (cb r)).setCells gp 0 (prfV vs pe.1 pe.2.1 pe.2.2)) gp (prfV vs pe.1 pe.2.1 pe.2.2) 41 ∧ ReadsD ((z35.setCells gr 0 (cb r)).setCells gp 0 (prfV vs pe.1 pe.2.1 pe.2.2)) vs sd) := fin_st HT.out HIS.out hS11 hb9 hbp9 hk9 hne (prfV_len HP32.out.1 HP32.out.2) hrs hvr hvp
            clear hS hS9 hS11 hI hbr hbp hbp9 hb9 hk9 hrs hvr hvp hvl
            generalize (z35.setCells gr 0 (cb r)).setCells gp 0 (prfV vs pe.1 pe.2.1 pe.2.2) = wE at *
            go_wp2
            go_meet
            case rel => exact ⟨gr, gp, vs, rfl, rfl, rfl, HFN.out.1, HFN.out.2.1, HFN.out.2.2.1, HFN.out.2.2.2⟩
      · skip
        have hb := below_alloc y0 (.cells (cb zb32).toArray 24)
        have hnew : Blk (y0.alloc (.cells (cb zb32).toArray 24)) y0.heap.size (cb zb32) 24 := Blk.new _ _ _
        have hge : ys.heap.size ≤ y0.heap.size := hS.out.size
        replace hI := hI.next HT.out hb
        replace hS := hS.more hb
        refine wpOp_vl 7 (.pointer (some ⟨y0.heap.size, 0, none⟩)) (y0.alloc (.cells (cb zb32).toArray 24)) (by rfl) (by rfl) (allocDigest _ _ rfl _) ⟨hS, ?_⟩
        simp only [Act.put, List.getElem_toArray, List.getElem_cons_succ, List.getElem_cons_zero, List.setIfInBounds_toArray, List.set_cons_zero, List.set_cons_succ]
        have hbr := hnew
        have hgr := hge
        clear hb hnew hge
        generalize y0.alloc (.cells (cb zb32).toArray 24) = z36 at *
        generalize y0.heap.size = gr at *
        refine wpAnyH_pair 1 8 (by kernel_rfl) ?_ ?_
        · skip
          refine wpOp_en 1 (by rfl) (by rfl) (f := 13) (args := #[.pointer (some ⟨g0, 0, none⟩)]) (by simp [go_sem]) (HCR.out _ hI.kk hI.t) ?_
          rintro e z37 ⟨rfl, hb⟩
          replace hI := hI.next HT.out hb
          replace hS := hS.more hb
          replace hbr := hbr.below hb hbr.lt
          refine ⟨_, rfl, hS, ?_⟩
          clear hb
          simp only [Act.put, List.getElem_toArray, List.getElem_cons_succ, List.getElem_cons_zero, List.setIfInBounds_toArray, List.set_cons_zero, List.set_cons_succ]
          refine wpAnyH_pair 3 8 (by kernel_rfl) ?_ ?_
          · skip
            refine wpOp_en 3 (by rfl) (by rfl) (f := 15) (args := #[.pointer (some ⟨g0, 0, none⟩)]) (by simp [go_sem]) (HCL.out _ hI.t) ?_
            rintro e z38 ⟨rfl, hb⟩
            replace hI := hI.next HT.out hb
            replace hS := hS.more hb
            replace hbr := hbr.below hb hbr.lt
            refine ⟨_, rfl, hS, ?_⟩
            clear hb
            simp only [Act.put, List.getElem_toArray, List.getElem_cons_succ, List.getElem_cons_zero, List.setIfInBounds_toArray, List.set_cons_zero, List.set_cons_succ]
            refine wpAnyH_pair 6 8 (by kernel_rfl) ?_ ?_
            · skip
              refine wpOp_en 6 (by rfl) (by rfl) (f := 19) (args := #[.pointer (some ⟨g0, 0, none⟩), .agg (cb u).toArray]) (by simp [go_sem]) (HCP.out _ hI.kk hI.t) ?_
              rintro e z39 ⟨vs, rfl, hvs, hb⟩
              have hltr := hbr.lt
              replace hI := hI.next HT.out hb
              replace hS := hS.more hb
              replace hbr := hbr.below hb hbr.lt
              have hrs := hvs.readsD
              have hvl : ∀ j, vs.ownBlock = some j → j < z39.heap.size := fun j hj => (hvs.lt j hj).2
              have hvr : ∀ j, vs.ownBlock = some j → j ≠ gr := fun j hj e => by have h1 := (hvs.lt j hj).1; have h2 := hltr; omega
              clear hvs
              refine ⟨_, rfl, hS, ?_⟩
              clear hb
              simp only [Act.put, List.getElem_toArray, List.getElem_cons_succ, List.getElem_cons_zero, List.setIfInBounds_toArray, List.set_cons_zero, List.set_cons_succ]
              have hb := below_alloc z39 (.cells (prfV nilV 0 zb32 zb32).toArray 41)
              have hnew : Blk (z39.alloc (.cells (prfV nilV 0 zb32 zb32).toArray 41)) z39.heap.size (prfV nilV 0 zb32 zb32) 41 := Blk.new _ _ _
              have hge : ys.heap.size ≤ z39.heap.size := hS.out.size
              replace hI := hI.next HT.out hb
              replace hS := hS.more hb
              replace hbr := hbr.below hb hbr.lt
              replace hrs := hrs.below hb
              have hvp : ∀ j, vs.ownBlock = some j → j ≠ z39.heap.size := fun j hj e => by have h1 := hvl j hj; omega
              replace hvl : ∀ j, vs.ownBlock = some j → j < (z39.alloc (.cells (prfV nilV 0 zb32 zb32).toArray 41)).heap.size := fun j hj => Nat.lt_of_lt_of_le (hvl j hj) hb.size
              refine wpAnyH_step 8 (.pointer (some ⟨z39.heap.size, 0, none⟩)) (z39.alloc (.cells (prfV nilV 0 zb32 zb32).toArray 41)) (by kernel_rfl) rfl (by rfl) (allocPrf _ _ rfl _) hS ?_
              simp only [Act.put, List.getElem_toArray, List.getElem_cons_succ, List.getElem_cons_zero, List.setIfInBounds_toArray, List.set_cons_zero, List.set_cons_succ]
              have hbp := hnew
              have hgp := hge
              clear hb hnew hge
              generalize z39.alloc (.cells (prfV nilV 0 zb32 zb32).toArray 41) = z40 at *
              generalize z39.heap.size = gp at *
              have hvo : vs.oneCell' = true := by obtain ⟨ad9, cp9, hv9⟩ := hrs.slice; rw [hv9]; rfl
              have hne : gr ≠ gp := by
                intro e
                subst e
                unfold Blk at hbr hbp
                rw [hbr] at hbp
                simp only [Option.some.injEq, Obj.cells.injEq] at hbp
                exact absurd hbp.2.1 (by decide)
              refine wpAnyH_law 9 (by kernel_rfl) rfl (by rfl) (wp_store_mid 24 _ _ rfl gr 0 (cb r).toArray rfl rfl (hbr.there 0 _ (by rw [List.size_toArray, cb_len, cb_len, HRL.out]; decide)) (by rw [List.size_toArray, cb_len, HRL.out]; exact info_digest) (all_oneCell_toArray (cb_one r)) ?_)
              rw [List.toList_toArray]
              have hk9 : ∀ k, k ≠ gr → (z40.setCells gr 0 (cb r)).heap[k]? = z40.heap[k]? := At'.setCells _ _ _ (fun _ _ => rfl)
              have hb9 := hbr.whole (cb r) (by rw [cb_len, cb_len, HRL.out]; rfl)
              have hS9 : Over ys (z40.setCells gr 0 (cb r)) := Over.sets hS hgr
              refine ⟨hS9, ?_⟩
              simp only [Act.put, List.getElem_toArray, List.getElem_cons_succ, List.getElem_cons_zero]
              refine wpAnyH_take (i := 10) (v := .int .i64 (nl : Int)) rfl (by kernel_rfl) (by kernel_rfl) (by kernel_rfl) (fun _ _ _ h => h) (Or.inl ⟨by rfl, fun wx hx => by simp [go_sem]⟩) hS9 ?_
              simp only [Act.put, List.getElem_toArray, List.getElem_cons_succ, List.getElem_cons_zero, List.setIfInBounds_toArray, List.set_cons_zero, List.set_cons_succ]
              have hbp9 : Blk (z40.setCells gr 0 (cb r)) gp (prfV nilV 0 zb32 zb32) 41 := by have h := hbp; unfold Blk at *; rw [hk9 gp (Ne.symm hne)]; exact h
              refine wpAnyH_law 11 (by kernel_rfl) rfl (by rfl) (wp_store_mid 41 _ _ rfl gp 0 (prfV vs pe.1 pe.2.1 pe.2.2).toArray rfl rfl (hbp9.there 0 _ (by rw [List.size_toArray, prfV_len HP32.out.1 HP32.out.2, prfV_len zb32_len zb32_len]; decide)) (by rw [List.size_toArray, prfV_len HP32.out.1 HP32.out.2]; exact info_proof) (all_oneCell_toArray (prfV_one hvo)) ?_)
              rw [List.toList_toArray]
              have hS11 := Over.sets (o := 0) (cs := prfV vs pe.1 pe.2.1 pe.2.2) hS9 hgp
              refine ⟨hS11, ?_⟩
              simp only [Act.put, List.getElem_toArray, List.getElem_cons_succ, List.getElem_cons_zero]
              refine wpAnyH_done (by kernel_rfl) ?_ _
              have HFN : Hid (StS T w g0 l gx gv gu x v u ((z40.setCells gr 0 (cb r)).setCells gp 0 (prfV vs pe.1 pe.2.1 pe.2.2)) ∧ Blk ((z40.setCells gr 0 (cb r)).setCells gp 0 (prfV vs pe.1 pe.2.1 pe.2.2)) gr (cb r) 24 ∧ Blk ((z40.setCells gr 0 (cb r)).setCells gp 0 (prfV vs pe.1 pe.2.1 pe.2.2)) gp (prfV vs pe.1 pe.2.1 pe.2.2) 41 ∧ ReadsD ((z40.setCells gr 0 (cb r)).setCells gp 0 (prfV vs pe.1 pe.2.1 pe.2.2)) vs sd) := fin_st HT.out HIS.out hS11 hb9 hbp9 hk9 hne (prfV_len HP32.out.1 HP32.out.2) hrs hvr hvp
              clear hS hS9 hS11 hI hbr hbp hbp9 hb9 hk9 hrs hvr hvp hvl
              generalize (z40.setCells gr 0 (cb r)).setCells gp 0 (prfV vs pe.1 pe.2.1 pe.2.2) = wE at *
              go_wp2
              go_meet
              case rel => exact ⟨gr, gp, vs, rfl, rfl, rfl, HFN.out.1, HFN.out.2.1, HFN.out.2.2.1, HFN.out.2.2.2⟩
            · skip
              have hb := below_alloc z38 (.cells (prfV nilV 0 zb32 zb32).toArray 41)
              have hnew : Blk (z38.alloc (.cells (prfV nilV 0 zb32 zb32).toArray 41)) z38.heap.size (prfV nilV 0 zb32 zb32) 41 := Blk.new _ _ _
              have hge : ys.heap.size ≤ z38.heap.size := hS.out.size
              replace hI := hI.next HT.out hb
              replace hS := hS.more hb
              replace hbr := hbr.below hb hbr.lt
              refine wpOp_vl 8 (.pointer (some ⟨z38.heap.size, 0, none⟩)) (z38.alloc (.cells (prfV nilV 0 zb32 zb32).toArray 41)) (by rfl) (by rfl) (allocPrf _ _ rfl _) ⟨hS, ?_⟩
              simp only [Act.put, List.getElem_toArray, List.getElem_cons_succ, List.getElem_cons_zero, List.setIfInBounds_toArray, List.set_cons_zero, List.set_cons_succ]
              have hbp := hnew
              have hgp := hge
              clear hb hnew hge
              generalize z38.alloc (.cells (prfV nilV 0 zb32 zb32).toArray 41) = z41 at *
              generalize z38.heap.size = gp at *
              refine wpAnyH_enter 6 (by kernel_rfl) rfl (by rfl) (f := 19) (args := #[.pointer (some ⟨g0, 0, none⟩), .agg (cb u).toArray]) (by simp [go_sem]) (HCP.out _ hI.kk hI.t) ?_
              rintro e z42 ⟨vs, rfl, hvs, hb⟩
              have hltr := hbr.lt
              have hltp := hbp.lt
              replace hI := hI.next HT.out hb
              replace hS := hS.more hb
              replace hbr := hbr.below hb hbr.lt
              replace hbp := hbp.below hb hbp.lt
              have hrs := hvs.readsD
              have hvl : ∀ j, vs.ownBlock = some j → j < z42.heap.size := fun j hj => (hvs.lt j hj).2
              have hvr : ∀ j, vs.ownBlock = some j → j ≠ gr := fun j hj e => by have h1 := (hvs.lt j hj).1; have h2 := hltr; omega
              have hvp : ∀ j, vs.ownBlock = some j → j ≠ gp := fun j hj e => by have h1 := (hvs.lt j hj).1; have h2 := hltp; omega
              clear hvs
              refine ⟨_, rfl, hS, ?_⟩
              clear hb
              simp only [Act.put, List.getElem_toArray, List.getElem_cons_succ, List.getElem_cons_zero, List.setIfInBounds_toArray, List.set_cons_zero, List.set_cons_succ]
              have hvo : vs.oneCell' = true := by obtain ⟨ad9, cp9, hv9⟩ := hrs.slice; rw [hv9]; rfl
              have hne : gr ≠ gp := by
                intro e
                subst e
                unfold Blk at hbr hbp
                rw [hbr] at hbp
                simp only [Option.some.injEq, Obj.cells.injEq] at hbp
                exact absurd hbp.2.1 (by decide)
              refine wpAnyH_law 9 (by kernel_rfl) rfl (by rfl) (wp_store_mid 24 _ _ rfl gr 0 (cb r).toArray rfl rfl (hbr.there 0 _ (by rw [List.size_toArray, cb_len, cb_len, HRL.out]; decide)) (by rw [List.size_toArray, cb_len, HRL.out]; exact info_digest) (all_oneCell_toArray (cb_one r)) ?_)
              rw [List.toList_toArray]
              have hk9 : ∀ k, k ≠ gr → (z42.setCells gr 0 (cb r)).heap[k]? = z42.heap[k]? := At'.setCells _ _ _ (fun _ _ => rfl)
              have hb9 := hbr.whole (cb r) (by rw [cb_len, cb_len, HRL.out]; rfl)
              have hS9 : Over ys (z42.setCells gr 0 (cb r)) := Over.sets hS hgr
              refine ⟨hS9, ?_⟩
              simp only [Act.put, List.getElem_toArray, List.getElem_cons_succ, List.getElem_cons_zero]
              refine wpAnyH_take (i := 10) (v := .int .i64 (nl : Int)) rfl (by kernel_rfl) (by kernel_rfl) (by kernel_rfl) (fun _ _ _ h => h) (Or.inl ⟨by rfl, fun wx hx => by simp [go_sem]⟩) hS9 ?_
              simp only [Act.put, List.getElem_toArray, List.getElem_cons_succ, List.getElem_cons_zero, List.setIfInBounds_toArray, List.set_cons_zero, List.set_cons_succ]
              have hbp9 : Blk (z42.setCells gr 0 (cb r)) gp (prfV nilV 0 zb32 zb32) 41 := by have h := hbp; unfold Blk at *; rw [hk9 gp (Ne.symm hne)]; exact h
              refine wpAnyH_law 11 (by kernel_rfl) rfl (by rfl) (wp_store_mid 41 _ _ rfl gp 0 (prfV vs pe.1 pe.2.1 pe.2.2).toArray rfl rfl (hbp9.there 0 _ (by rw [List.size_toArray, prfV_len HP32.out.1 HP32.out.2, prfV_len zb32_len zb32_len]; decide)) (by rw [List.size_toArray, prfV_len HP32.out.1 HP32.out.2]; exact info_proof) (all_oneCell_toArray (prfV_one hvo)) ?_)
              rw [List.toList_toArray]
              have hS11 := Over.sets (o := 0) (cs := prfV vs pe.1 pe.2.1 pe.2.2) hS9 hgp
              refine ⟨hS11, ?_⟩
              simp only [Act.put, List.getElem_toArray, List.getElem_cons_succ, List.getElem_cons_zero]
              refine wpAnyH_done (by kernel_rfl) ?_ _
              have HFN : Hid (StS T w g0 l gx gv gu x v u ((z42.setCells gr 0 (cb r)).setCells gp 0 (prfV vs pe.1 pe.2.1 pe.2.2)) ∧ Blk ((z42.setCells gr 0 (cb r)).setCells gp 0 (prfV vs pe.1 pe.2.1 pe.2.2)) gr (cb r) 24 ∧ Blk ((z42.setCells gr 0 (cb r)).setCells gp 0 (prfV vs pe.1 pe.2.1 pe.2.2)) gp (prfV vs pe.1 pe.2.1 pe.2.2) 41 ∧ ReadsD ((z42.setCells gr 0 (cb r)).setCells gp 0 (prfV vs pe.1 pe.2.1 pe.2.2)) vs sd) := fin_st HT.out HIS.out hS11 hb9 hbp9 hk9 hne (prfV_len HP32.out.1 HP32.out.2) hrs hvr hvp
              clear hS hS9 hS11 hI hbr hbp hbp9 hb9 hk9 hrs hvr hvp hvl
              generalize (z42.setCells gr 0 (cb r)).setCells gp 0 (prfV vs pe.1 pe.2.1 pe.2.2) = wE at *
              go_wp2
              go_meet
              case rel => exact ⟨gr, gp, vs, rfl, rfl, rfl, HFN.out.1, HFN.out.2.1, HFN.out.2.2.1, HFN.out.2.2.2⟩
          · skip
            have hb := below_alloc z37 (.cells (prfV nilV 0 zb32 zb32).toArray 41)
            have hnew : Blk (z37.alloc (.cells (prfV nilV 0 zb32 zb32).toArray 41)) z37.heap.size (prfV nilV 0 zb32 zb32) 41 := Blk.new _ _ _
            have hge : ys.heap.size ≤ z37.heap.size := hS.out.size
            replace hI := hI.next HT.out hb
            replace hS := hS.more hb
            replace hbr := hbr.below hb hbr.lt
            refine wpOp_vl 8 (.pointer (some ⟨z37.heap.size, 0, none⟩)) (z37.alloc (.cells (prfV nilV 0 zb32 zb32).toArray 41)) (by rfl) (by rfl) (allocPrf _ _ rfl _) ⟨hS, ?_⟩
            simp only [Act.put, List.getElem_toArray, List.getElem_cons_succ, List.getElem_cons_zero, List.setIfInBounds_toArray, List.set_cons_zero, List.set_cons_succ]
            have hbp := hnew
            have hgp := hge
            clear hb hnew hge
            generalize z37.alloc (.cells (prfV nilV 0 zb32 zb32).toArray 41) = z43 at *
            generalize z37.heap.size = gp at *
            refine wpAnyH_enter 3 (by kernel_rfl) rfl (by rfl) (f := 15) (args := #[.pointer (some ⟨g0, 0, none⟩)]) (by simp [go_sem]) (HCL.out _ hI.t) ?_
            rintro e z44 ⟨rfl, hb⟩
            replace hI := hI.next HT.out hb
            replace hS := hS.more hb
            replace hbr := hbr.below hb hbr.lt
            replace hbp := hbp.below hb hbp.lt
            refine ⟨_, rfl, hS, ?_⟩
            clear hb
            simp only [Act.put, List.getElem_toArray, List.getElem_cons_succ, List.getElem_cons_zero, List.setIfInBounds_toArray, List.set_cons_zero, List.set_cons_succ]
            refine wpAnyH_enter 6 (by kernel_rfl) rfl (by rfl) (f := 19) (args := #[.pointer (some ⟨g0, 0, none⟩), .agg (cb u).toArray]) (by simp [go_sem]) (HCP.out _ hI.kk hI.t) ?_
            rintro e z45 ⟨vs, rfl, hvs, hb⟩
            have hltr := hbr.lt
            have hltp := hbp.lt
            replace hI := hI.next HT.out hb
            replace hS := hS.more hb
            replace hbr := hbr.below hb hbr.lt
            replace hbp := hbp.below hb hbp.lt
            have hrs := hvs.readsD
            have hvl : ∀ j, vs.ownBlock = some j → j < z45.heap.size := fun j hj => (hvs.lt j hj).2
            have hvr : ∀ j, vs.ownBlock = some j → j ≠ gr := fun j hj e => by have h1 := (hvs.lt j hj).1; have h2 := hltr; omega
            have hvp : ∀ j, vs.ownBlock = some j → j ≠ gp := fun j hj e => by have h1 := (hvs.lt j hj).1; have h2 := hltp; omega
            clear hvs
            refine ⟨_, rfl, hS, ?_⟩
            clear hb
            simp only [Act.put, List.getElem_toArray, List.getElem_cons_succ, List.getElem_cons_zero, List.setIfInBounds_toArray, List.set_cons_zero, List.set_cons_succ]
            have hvo : vs.oneCell' = true := by obtain ⟨ad9, cp9, hv9⟩ := hrs.slice; rw [hv9]; rfl
            have hne : gr ≠ gp := by
              intro e
              subst e
              unfold Blk at hbr hbp
              rw [hbr] at hbp
              simp only [Option.some.injEq, Obj.cells.injEq] at hbp
              exact absurd hbp.2.1 (by decide)
            refine wpAnyH_law 9 (by kernel_rfl) rfl (by rfl) (wp_store_mid 24 _ _ rfl gr 0 (cb r).toArray rfl rfl (hbr.there 0 _ (by rw [List.size_toArray, cb_len, cb_len, HRL.out]; decide)) (by rw [List.size_toArray, cb_len, HRL.out]; exact info_digest) (all_oneCell_toArray (cb_one r)) ?_)
            rw [List.toList_toArray]
            have hk9 : ∀ k, k ≠ gr → (z45.setCells gr 0 (cb r)).heap[k]? = z45.heap[k]? := At'.setCells _ _ _ (fun _ _ => rfl)
            have hb9 := hbr.whole (cb r) (by rw [cb_len, cb_len, HRL.out]; rfl)
            have hS9 : Over ys (z45.setCells gr 0 (cb r)) := Over.sets hS hgr
            refine ⟨hS9, ?_⟩
            simp only [Act.put, List.getElem_toArray, List.getElem_cons_succ, List.getElem_cons_zero]
            refine wpAnyH_take (i := 10) (v := .int .i64 (nl : Int)) rfl (by kernel_rfl) (by kernel_rfl) (by kernel_rfl) (fun _ _ _ h => h) (Or.inl ⟨by rfl, fun wx hx => by simp [go_sem]⟩) hS9 ?_
            simp only [Act.put, List.getElem_toArray, List.getElem_cons_succ, List.getElem_cons_zero, List.setIfInBounds_toArray, List.set_cons_zero, List.set_cons_succ]
            have hbp9 : Blk (z45.setCells gr 0 (cb r)) gp (prfV nilV 0 zb32 zb32) 41 := by have h := hbp; unfold Blk at *; rw [hk9 gp (Ne.symm hne)]; exact h
            refine wpAnyH_law 11 (by kernel_rfl) rfl (by rfl) (wp_store_mid 41 _ _ rfl gp 0 (prfV vs pe.1 pe.2.1 pe.2.2).toArray rfl rfl (hbp9.there 0 _ (by rw [List.size_toArray, prfV_len HP32.out.1 HP32.out.2, prfV_len zb32_len zb32_len]; decide)) (by rw [List.size_toArray, prfV_len HP32.out.1 HP32.out.2]; exact info_proof) (all_oneCell_toArray (prfV_one hvo)) ?_)
            rw [List.toList_toArray]
            have hS11 := Over.sets (o := 0) (cs := prfV vs pe.1 pe.2.1 pe.2.2) hS9 hgp
            refine ⟨hS11, ?_⟩
            simp only [Act.put, List.getElem_toArray, List.getElem_cons_succ, List.getElem_cons_zero]
            refine wpAnyH_done (by kernel_rfl) ?_ _
            have HFN : Hid (StS T w g0 l gx gv gu x v u ((z45.setCells gr 0 (cb r)).setCells gp 0 (prfV vs pe.1 pe.2.1 pe.2.2)) ∧ Blk ((z45.setCells gr 0 (cb r)).setCells gp 0 (prfV vs pe.1 pe.2.1 pe.2.2)) gr (cb r) 24 ∧ Blk ((z45.setCells gr 0 (cb r)).setCells gp 0 (prfV vs pe.1 pe.2.1 pe.2.2)) gp (prfV vs pe.1 pe.2.1 pe.2.2) 41 ∧ ReadsD ((z45.setCells gr 0 (cb r)).setCells gp 0 (prfV vs pe.1 pe.2.1 pe.2.2)) vs sd) := fin_st HT.out HIS.out hS11 hb9 hbp9 hk9 hne (prfV_len HP32.out.1 HP32.out.2) hrs hvr hvp
            clear hS hS9 hS11 hI hbr hbp hbp9 hb9 hk9 hrs hvr hvp hvl
            generalize (z45.setCells gr 0 (cb r)).setCells gp 0 (prfV vs pe.1 pe.2.1 pe.2.2) = wE at *
            go_wp2
            go_meet
            case rel => exact ⟨gr, gp, vs, rfl, rfl, rfl, HFN.out.1, HFN.out.2.1, HFN.out.2.2.1, HFN.out.2.2.2⟩
        · skip
          have hb := below_alloc z36 (.cells (prfV nilV 0 zb32 zb32).toArray 41)
          have hnew : Blk (z36.alloc (.cells (prfV nilV 0 zb32 zb32).toArray 41)) z36.heap.size (prfV nilV 0 zb32 zb32) 41 := Blk.new _ _ _
          have hge : ys.heap.size ≤ z36.heap.size := hS.out.size
          replace hI := hI.next HT.out hb
          replace hS := hS.more hb
          replace hbr := hbr.below hb hbr.lt
          refine wpOp_vl 8 (.pointer (some ⟨z36.heap.size, 0, none⟩)) (z36.alloc (.cells (prfV nilV 0 zb32 zb32).toArray 41)) (by rfl) (by rfl) (allocPrf _ _ rfl _) ⟨hS, ?_⟩
          simp only [Act.put, List.getElem_toArray, List.getElem_cons_succ, List.getElem_cons_zero, List.setIfInBounds_toArray, List.set_cons_zero, List.set_cons_succ]
          have hbp := hnew
          have hgp := hge
          clear hb hnew hge
          generalize z36.alloc (.cells (prfV nilV 0 zb32 zb32).toArray 41) = z46 at *
          generalize z36.heap.size = gp at *
          refine wpAnyH_enter 1 (by kernel_rfl) rfl (by rfl) (f := 13) (args := #[.pointer (some ⟨g0, 0, none⟩)]) (by simp [go_sem]) (HCR.out _ hI.kk hI.t) ?_
          rintro e z47 ⟨rfl, hb⟩
          replace hI := hI.next HT.out hb
          replace hS := hS.more hb
          replace hbr := hbr.below hb hbr.lt
          replace hbp := hbp.below hb hbp.lt
          refine ⟨_, rfl, hS, ?_⟩
          clear hb
          simp only [Act.put, List.getElem_toArray, List.getElem_cons_succ, List.getElem_cons_zero, List.setIfInBounds_toArray, List.set_cons_zero, List.set_cons_succ]
          refine wpAnyH_enter 3 (by kernel_rfl) rfl (by rfl) (f := 15) (args := #[.pointer (some ⟨g0, 0, none⟩)]) (by simp [go_sem]) (HCL.out _ hI.t) ?_
          rintro e z48 ⟨rfl, hb⟩
          replace hI := hI.next HT.out hb
          replace hS := hS.more hb
          replace hbr := hbr.below hb hbr.lt
          replace hbp := hbp.below hb hbp.lt
          refine ⟨_, rfl, hS, ?_⟩
          clear hb
          simp only [Act.put, List.getElem_toArray, List.getElem_cons_succ, List.getElem_cons_zero, List.setIfInBounds_toArray, List.set_cons_zero, List.set_cons_succ]
          refine wpAnyH_enter 6 (by kernel_rfl) rfl (by rfl) (f := 19) (args := #[.pointer (some ⟨g0, 0, none⟩), .agg (cb u).toArray]) (by simp [go_sem]) (HCP.out _ hI.kk hI.t) ?_
          rintro e z49 ⟨vs, rfl, hvs, hb⟩
          have hltr := hbr.lt
          have hltp := hbp.lt
          replace hI := hI.next HT.out hb
          replace hS := hS.more hb
          replace hbr := hbr.below hb hbr.lt
          replace hbp := hbp.below hb hbp.lt
          have hrs := hvs.readsD
          have hvl : ∀ j, vs.ownBlock = some j → j < z49.heap.size := fun j hj => (hvs.lt j hj).2
          have hvr : ∀ j, vs.ownBlock = some j → j ≠ gr := fun j hj e => by have h1 := (hvs.lt j hj).1; have h2 := hltr; omega
          have hvp : ∀ j, vs.ownBlock = some j → j ≠ gp := fun j hj e => by have h1 := (hvs.lt j hj).1; have h2 := hltp; omega
          clear hvs
          refine ⟨_, rfl, hS, ?_⟩
          clear hb
          simp only [Act.put, List.getElem_toArray, List.getElem_cons_succ, List.getElem_cons_zero, List.setIfInBounds_toArray, List.set_cons_zero, List.set_cons_succ]
          have hvo : vs.oneCell' = true := by obtain ⟨ad9, cp9, hv9⟩ := hrs.slice; rw [hv9]; rfl
          have hne : gr ≠ gp := by
            intro e
            subst e
            unfold Blk at hbr hbp
            rw [hbr] at hbp
            simp only [Option.some.injEq, Obj.cells.injEq] at hbp
            exact absurd hbp.2.1 (by decide)
          refine wpAnyH_law 9 (by kernel_rfl) rfl (by rfl) (wp_store_mid 24 _ _ rfl gr 0 (cb r).toArray rfl rfl (hbr.there 0 _ (by rw [List.size_toArray, cb_len, cb_len, HRL.out]; decide)) (by rw [List.size_toArray, cb_len, HRL.out]; exact info_digest) (all_oneCell_toArray (cb_one r)) ?_)
          rw [List.toList_toArray]
          have hk9 : ∀ k, k ≠ gr → (z49.setCells gr 0 (cb r)).heap[k]? = z49.heap[k]? := At'.setCells _ _ _ (fun _ _ => rfl)
          have hb9 := hbr.whole (cb r) (by rw [cb_len, cb_len, HRL.out]; rfl)
          have hS9 : Over ys (z49.setCells gr 0 (cb r)) := Over.sets hS hgr
          refine ⟨hS9, ?_⟩
          simp only [Act.put, List.getElem_toArray, List.getElem_cons_succ, List.getElem_cons_zero]
          refine wpAnyH_take (i := 10) (v := .int .i64 (nl : Int)) rfl (by kernel_rfl) (by kernel_rfl) (by kernel_rfl) (fun _ _ _ h => h) (Or.inl ⟨by rfl, fun wx hx => by simp [go_sem]⟩) hS9 ?_
          simp only [Act.put, List.getElem_toArray, List.getElem_cons_succ, List.getElem_cons_zero, List.setIfInBounds_toArray, List.set_cons_zero, List.set_cons_succ]
          have hbp9 : Blk (z49.setCells gr 0 (cb r)) gp (prfV nilV 0 zb32 zb32) 41 := by have h := hbp; unfold Blk at *; rw [hk9 gp (Ne.symm hne)]; exact h
          refine wpAnyH_law 11 (by kernel_rfl) rfl (by rfl) (wp_store_mid 41 _ _ rfl gp 0 (prfV vs pe.1 pe.2.1 pe.2.2).toArray rfl rfl (hbp9.there 0 _ (by rw [List.size_toArray, prfV_len HP32.out.1 HP32.out.2, prfV_len zb32_len zb32_len]; decide)) (by rw [List.size_toArray, prfV_len HP32.out.1 HP32.out.2]; exact info_proof) (all_oneCell_toArray (prfV_one hvo)) ?_)
          rw [List.toList_toArray]
          have hS11 := Over.sets (o := 0) (cs := prfV vs pe.1 pe.2.1 pe.2.2) hS9 hgp
          refine ⟨hS11, ?_⟩
          simp only [Act.put, List.getElem_toArray, List.getElem_cons_succ, List.getElem_cons_zero]
          refine wpAnyH_done (by kernel_rfl) ?_ _
          have HFN : Hid (StS T w g0 l gx gv gu x v u ((z49.setCells gr 0 (cb r)).setCells gp 0 (prfV vs pe.1 pe.2.1 pe.2.2)) ∧ Blk ((z49.setCells gr 0 (cb r)).setCells gp 0 (prfV vs pe.1 pe.2.1 pe.2.2)) gr (cb r) 24 ∧ Blk ((z49.setCells gr 0 (cb r)).setCells gp 0 (prfV vs pe.1 pe.2.1 pe.2.2)) gp (prfV vs pe.1 pe.2.1 pe.2.2) 41 ∧ ReadsD ((z49.setCells gr 0 (cb r)).setCells gp 0 (prfV vs pe.1 pe.2.1 pe.2.2)) vs sd) := fin_st HT.out HIS.out hS11 hb9 hbp9 hk9 hne (prfV_len HP32.out.1 HP32.out.2) hrs hvr hvp
          clear hS hS9 hS11 hI hbr hbp hbp9 hb9 hk9 hrs hvr hvp hvl
          generalize (z49.setCells gr 0 (cb r)).setCells gp 0 (prfV vs pe.1 pe.2.1 pe.2.2) = wE at *
          go_wp2
          go_meet
          case rel => exact ⟨gr, gp, vs, rfl, rfl, rfl, HFN.out.1, HFN.out.2.1, HFN.out.2.2.1, HFN.out.2.2.2⟩
      · skip
        have hb := below_alloc y0 (.cells (prfV nilV 0 zb32 zb32).toArray 41)
        have hnew : Blk (y0.alloc (.cells (prfV nilV 0 zb32 zb32).toArray 41)) y0.heap.size (prfV nilV 0 zb32 zb32) 41 := Blk.new _ _ _
        have hge : ys.heap.size ≤ y0.heap.size := hS.out.size
        replace hI := hI.next HT.out hb
        replace hS := hS.more hb
        refine wpOp_vl 8 (.pointer (some ⟨y0.heap.size, 0, none⟩)) (y0.alloc (.cells (prfV nilV 0 zb32 zb32).toArray 41)) (by rfl) (by rfl) (allocPrf _ _ rfl _) ⟨hS, ?_⟩
        simp only [Act.put, List.getElem_toArray, List.getElem_cons_succ, List.getElem_cons_zero, List.setIfInBounds_toArray, List.set_cons_zero, List.set_cons_succ]
        have hbp := hnew
        have hgp := hge
        clear hb hnew hge
        generalize y0.alloc (.cells (prfV nilV 0 zb32 zb32).toArray 41) = z50 at *
        generalize y0.heap.size = gp at *
        refine wpAnyH_pair 1 7 (by kernel_rfl) ?_ ?_
        · skip
          refine wpOp_en 1 (by rfl) (by rfl) (f := 13) (args := #[.pointer (some ⟨g0, 0, none⟩)]) (by simp [go_sem]) (HCR.out _ hI.kk hI.t) ?_
          rintro e z51 ⟨rfl, hb⟩
          replace hI := hI.next HT.out hb
          replace hS := hS.more hb
          replace hbp := hbp.below hb hbp.lt
          refine ⟨_, rfl, hS, ?_⟩
          clear hb
          simp only [Act.put, List.getElem_toArray, List.getElem_cons_succ, List.getElem_cons_zero, List.setIfInBounds_toArray, List.set_cons_zero, List.set_cons_succ]
          refine wpAnyH_pair 3 7 (by kernel_rfl) ?_ ?_
          · skip
            refine wpOp_en 3 (by rfl) (by rfl) (f := 15) (args := #[.pointer (some ⟨g0, 0, none⟩)]) (by simp [go_sem]) (HCL.out _ hI.t) ?_
            rintro e z52 ⟨rfl, hb⟩
            replace hI := hI.next HT.out hb
            replace hS := hS.more hb
            replace hbp := hbp.below hb hbp.lt
            refine ⟨_, rfl, hS, ?_⟩
            clear hb
            simp only [Act.put, List.getElem_toArray, List.getElem_cons_succ, List.getElem_cons_zero, List.setIfInBounds_toArray, List.set_cons_zero, List.set_cons_succ]
            refine wpAnyH_pair 6 7 (by kernel_rfl) ?_ ?_
            · skip
              refine wpOp_en 6 (by rfl) (by rfl) (f := 19) (args := #[.pointer (some ⟨g0, 0, none⟩), .agg (cb u).toArray]) (by simp [go_sem]) (HCP.out _ hI.kk hI.t) ?_
              rintro e z53 ⟨vs, rfl, hvs, hb⟩
              have hltp := hbp.lt
              replace hI := hI.next HT.out hb
              replace hS := hS.more hb
              replace hbp := hbp.below hb hbp.lt
              have hrs := hvs.readsD
              have hvl : ∀ j, vs.ownBlock = some j → j < z53.heap.size := fun j hj => (hvs.lt j hj).2
              have hvp : ∀ j, vs.ownBlock = some j → j ≠ gp := fun j hj e => by have h1 := (hvs.lt j hj).1; have h2 := hltp; omega
              clear hvs
              refine ⟨_, rfl, hS, ?_⟩
              clear hb
              simp only [Act.put, List.getElem_toArray, List.getElem_cons_succ, List.getElem_cons_zero, List.setIfInBounds_toArray, List.set_cons_zero, List.set_cons_succ]
              have hb := below_alloc z53 (.cells (cb zb32).toArray 24)
              have hnew : Blk (z53.alloc (.cells (cb zb32).toArray 24)) z53.heap.size (cb zb32) 24 := Blk.new _ _ _
              have hge : ys.heap.size ≤ z53.heap.size := hS.out.size
              replace hI := hI.next HT.out hb
              replace hS := hS.more hb
              replace hbp := hbp.below hb hbp.lt
              replace hrs := hrs.below hb
              have hvr : ∀ j, vs.ownBlock = some j → j ≠ z53.heap.size := fun j hj e => by have h1 := hvl j hj; omega
              replace hvl : ∀ j, vs.ownBlock = some j → j < (z53.alloc (.cells (cb zb32).toArray 24)).heap.size := fun j hj => Nat.lt_of_lt_of_le (hvl j hj) hb.size
              refine wpAnyH_step 7 (.pointer (some ⟨z53.heap.size, 0, none⟩)) (z53.alloc (.cells (cb zb32).toArray 24)) (by kernel_rfl) rfl (by rfl) (allocDigest _ _ rfl _) hS ?_
              simp only [Act.put, List.getElem_toArray, List.getElem_cons_succ, List.getElem_cons_zero, List.setIfInBounds_toArray, List.set_cons_zero, List.set_cons_succ]
              have hbr := hnew
              have hgr := hge
              clear hb hnew hge
              generalize z53.alloc (.cells (cb zb32).toArray 24) = z54 at *
              generalize z53.heap.size = gr at *
              have hvo : vs.oneCell' = true := by obtain ⟨ad9, cp9, hv9⟩ := hrs.slice; rw [hv9]; rfl
              have hne : gr ≠ gp := by
                intro e
                subst e
                unfold Blk at hbr hbp
                rw [hbr] at hbp
                simp only [Option.some.injEq, Obj.cells.injEq] at hbp
                exact absurd hbp.2.1 (by decide)
              refine wpAnyH_law 9 (by kernel_rfl) rfl (by rfl) (wp_store_mid 24 _ _ rfl gr 0 (cb r).toArray rfl rfl (hbr.there 0 _ (by rw [List.size_toArray, cb_len, cb_len, HRL.out]; decide)) (by rw [List.size_toArray, cb_len, HRL.out]; exact info_digest) (all_oneCell_toArray (cb_one r)) ?_)
              rw [List.toList_toArray]
              have hk9 : ∀ k, k ≠ gr → (z54.setCells gr 0 (cb r)).heap[k]? = z54.heap[k]? := At'.setCells _ _ _ (fun _ _ => rfl)
              have hb9 := hbr.whole (cb r) (by rw [cb_len, cb_len, HRL.out]; rfl)
              have hS9 : Over ys (z54.setCells gr 0 (cb r)) := Over.sets hS hgr
              refine ⟨hS9, ?_⟩
              simp only [Act.put, List.getElem_toArray, List.getElem_cons_succ, List.getElem_cons_zero]
              refine wpAnyH_take (i := 10) (v := .int .i64 (nl : Int)) rfl (by kernel_rfl) (by kernel_rfl) (by kernel_rfl) (fun _ _ _ h => h) (Or.inl ⟨by rfl, fun wx hx => by simp [go_sem]⟩) hS9 ?_
              simp only [Act.put, List.getElem_toArray, List.getElem_cons_succ, List.getElem_cons_zero, List.setIfInBounds_toArray, List.set_cons_zero, List.set_cons_succ]
              have hbp9 : Blk (z54.setCells gr 0 (cb r)) gp (prfV nilV 0 zb32 zb32) 41 := by have h := hbp; unfold Blk at *; rw [hk9 gp (Ne.symm hne)]; exact h
              refine wpAnyH_law 11 (by kernel_rfl) rfl (by rfl) (wp_store_mid 41 _ _ rfl gp 0 (prfV vs pe.1 pe.2.1 pe.2.2).toArray rfl rfl (hbp9.there 0 _ (by rw [List.size_toArray, prfV_len HP32.out.1 HP32.out.2, prfV_len zb32_len zb32_len]; decide)) (by rw [List.size_toArray, prfV_len HP32.out.1 HP32.out.2]; exact info_proof) (all_oneCell_toArray (prfV_one hvo)) ?_)
              rw [List.toList_toArray]
              have hS11 := Over.sets (o := 0) (cs := prfV vs pe.1 pe.2.1 pe.2.2) hS9 hgp
              refine ⟨hS11, ?_⟩
              simp only [Act.put, List.getElem_toArray, List.getElem_cons_succ, List.getElem_cons_zero]
              refine wpAnyH_done (by kernel_rfl) ?_ _
              have HFN : Hid (StS T w g0 l gx gv gu x v u ((z54.setCells gr 0 (cb r)).setCells gp 0 (prfV vs pe.1 pe.2.1 pe.2.2)) ∧ Blk ((z54.setCells gr 0 (cb r)).setCells gp 0 (prfV vs pe.1 pe.2.1 pe.2.2)) gr (cb r) 24 ∧ Blk ((z54.setCells gr 0 (cb r)).setCells gp 0 (prfV vs pe.1 pe.2.1 pe.2.2)) gp (prfV vs pe.1 pe.2.1 pe.2.2) 41 ∧ ReadsD ((z54.setCells gr 0 (cb r)).setCells gp 0 (prfV vs pe.1 pe.2.1 pe.2.2)) vs sd) := fin_st HT.out HIS.out hS11 hb9 hbp9 hk9 hne (prfV_len HP32.out.1 HP32.out.2) hrs hvr hvp
              clear hS hS9 hS11 hI hbr hbp hbp9 hb9 hk9 hrs hvr hvp hvl
              generalize (z54.setCells gr 0 (cb r)).setCells gp 0 (prfV vs pe.1 pe.2.1 pe.2.2) = wE at *
              go_wp2
              go_meet
              case rel => exact ⟨gr, gp, vs, rfl, rfl, rfl, HFN.out.1, HFN.out.2.1, HFN.out.2.2.1, HFN.out.2.2.2⟩
            · skip
              have hb := below_alloc z52 (.cells (cb zb32).toArray 24)
              have hnew : Blk (z52.alloc (.cells (cb zb32).toArray 24)) z52.heap.size (cb zb32) 24 := Blk.new _ _ _
              have hge : ys.heap.size ≤ z52.heap.size := hS.out.size
              replace hI := hI.next HT.out hb
              replace hS := hS.more hb
              replace hbp := hbp.below hb hbp.lt
              refine wpOp_vl 7 (.pointer (some ⟨z52.heap.size, 0, none⟩)) (z52.alloc (.cells (cb zb32).toArray 24)) (by rfl) (by rfl) (allocDigest _ _ rfl _) ⟨hS, ?_⟩
              simp only [Act.put, List.getElem_toArray, List.getElem_cons_succ, List.getElem_cons_zero, List.setIfInBounds_toArray, List.set_cons_zero, List.set_cons_succ]
              have hbr := hnew
              have hgr := hge
              clear hb hnew hge
              generalize z52.alloc (.cells (cb zb32).toArray 24) = z55 at *
              generalize z52.heap.size = gr at *
              refine wpAnyH_enter 6 (by kernel_rfl) rfl (by rfl) (f := 19) (args := #[.pointer (some ⟨g0, 0, none⟩), .agg (cb u).toArray]) (by simp [go_sem]) (HCP.out _ hI.kk hI.t) ?_
              rintro e z56 ⟨vs, rfl, hvs, hb⟩
              have hltr := hbr.lt
              have hltp := hbp.lt
              replace hI := hI.next HT.out hb
              replace hS := hS.more hb
              replace hbr := hbr.below hb hbr.lt
              replace hbp := hbp.below hb hbp.lt
              have hrs := hvs.readsD
              have hvl : ∀ j, vs.ownBlock = some j → j < z56.heap.size := fun j hj => (hvs.lt j hj).2
              have hvr : ∀ j, vs.ownBlock = some j → j ≠ gr := fun j hj e => by have h1 := (hvs.lt j hj).1; have h2 := hltr; omega
              have hvp : ∀ j, vs.ownBlock = some j → j ≠ gp := fun j hj e => by have h1 := (hvs.lt j hj).1; have h2 := hltp; omega
              clear hvs
              refine ⟨_, rfl, hS, ?_⟩
              clear hb
              simp only [Act.put, List.getElem_toArray, List.getElem_cons_succ, List.getElem_cons_zero, List.setIfInBounds_toArray, List.set_cons_zero, List.set_cons_succ]
              have hvo : vs.oneCell' = true := by obtain ⟨ad9, cp9, hv9⟩ := hrs.slice; rw [hv9]; rfl
              have hne : gr ≠ gp := by
                intro e
                subst e
                unfold Blk at hbr hbp
                rw [hbr] at hbp
                simp only [Option.some.injEq, Obj.cells.injEq] at hbp
                exact absurd hbp.2.1 (by decide)
              refine wpAnyH_law 9 (by kernel_rfl) rfl (by rfl) (wp_store_mid 24 _ _ rfl gr 0 (cb r).toArray rfl rfl (hbr.there 0 _ (by rw [List.size_toArray, cb_len, cb_len, HRL.out]; decide)) (by rw [List.size_toArray, cb_len, HRL.out]; exact info_digest) (all_oneCell_toArray (cb_one r)) ?_)
              rw [List.toList_toArray]
              have hk9 : ∀ k, k ≠ gr → (z56.setCells gr 0 (cb r)).heap[k]? = z56.heap[k]? := At'.setCells _ _ _ (fun _ _ => rfl)
              have hb9 := hbr.whole (cb r) (by rw [cb_len, cb_len, HRL.out]; rfl)
              have hS9 : Over ys (z56.setCells gr 0 (cb r)) := Over.sets hS hgr
              refine ⟨hS9, ?_⟩
              simp only [Act.put, List.getElem_toArray, List.getElem_cons_succ, List.getElem_cons_zero]
              refine wpAnyH_take (i := 10) (v := .int .i64 (nl : Int)) rfl (by kernel_rfl) (by kernel_rfl) (by kernel_rfl) (fun _ _ _ h => h) (Or.inl ⟨by rfl, fun wx hx => by simp [go_sem]⟩) hS9 ?_
              simp only [Act.put, List.getElem_toArray, List.getElem_cons_succ, List.getElem_cons_zero, List.setIfInBounds_toArray, List.set_cons_zero, List.set_cons_succ]
              have hbp9 : Blk (z56.setCells gr 0 (cb r)) gp (prfV nilV 0 zb32 zb32) 41 := by have h := hbp; unfold Blk at *; rw [hk9 gp (Ne.symm hne)]; exact h
              refine wpAnyH_law 11 (by kernel_rfl) rfl (by rfl) (wp_store_mid 41 _ _ rfl gp 0 (prfV vs pe.1 pe.2.1 pe.2.2).toArray rfl rfl (hbp9.there 0 _ (by rw [List.size_toArray, prfV_len HP32.out.1 HP32.out.2, prfV_len zb32_len zb32_len]; decide)) (by rw [List.size_toArray, prfV_len HP32.out.1 HP32.out.2]; exact info_proof) (all_oneCell_toArray (prfV_one hvo)) ?_)
              rw [List.toList_toArray]
              have hS11 := Over.sets (o := 0) (cs := prfV vs pe.1 pe.2.1 pe.2.2) hS9 hgp
              refine ⟨hS11, ?_⟩
              simp only [Act.put, List.getElem_toArray, List.getElem_cons_succ, List.getElem_cons_zero]
              refine wpAnyH_done (by kernel_rfl) ?_ _
              have HFN : Hid (StS T w g0 l gx gv gu x v u ((z56.setCells gr 0 (cb r)).setCells gp 0 (prfV vs pe.1 pe.2.1 pe.2.2)) ∧ Blk ((z56.setCells gr 0 (cb r)).setCells gp 0 (prfV vs pe.1 pe.2.1 pe.2.2)) gr (cb r) 24 ∧ Blk ((z56.setCells gr 0 (cb r)).setCells gp 0 (prfV vs pe.1 pe.2.1 pe.2.2)) gp (prfV vs pe.1 pe.2.1 pe.2.2) 41 ∧ ReadsD ((z56.setCells gr 0 (cb r)).setCells gp 0 (prfV vs pe.1 pe.2.1 pe.2.2)) vs sd) := fin_st HT.out HIS.out hS11 hb9 hbp9 hk9 hne (prfV_len HP32.out.1 HP32.out.2) hrs hvr hvp
              clear hS hS9 hS11 hI hbr hbp hbp9 hb9 hk9 hrs hvr hvp hvl
              generalize (z56.setCells gr 0 (cb r)).setCells gp 0 (prfV vs pe.1 pe.2.1 pe.2.2) = wE at *
              go_wp2
              go_meet
              case rel => exact ⟨gr, gp, vs, rfl, rfl, rfl, HFN.out.1, HFN.out.2.1, HFN.out.2.2.1, HFN.out.2.2.2⟩
          · skip
            have hb := below_alloc z51 (.cells (cb zb32).toArray 24)
            have hnew : Blk (z51.alloc (.cells (cb zb32).toArray 24)) z51.heap.size (cb zb32) 24 := Blk.new _ _ _
            have hge : ys.heap.size ≤ z51.heap.size := hS.out.size
            replace hI := hI.next HT.out hb
            replace hS := hS.more hb
            replace hbp := hbp.below hb hbp.lt
            refine wpOp_vl 7 (.pointer (some ⟨z51.heap.size, 0, none⟩)) (z51.alloc (.cells (cb zb32).toArray 24)) (by rfl) (by rfl) (allocDigest _ _ rfl _) ⟨hS, ?_⟩
            simp only [Act.put, List.getElem_toArray, List.getElem_cons_succ, List.getElem_cons_zero, List.setIfInBounds_toArray, List.set_cons_zero, List.set_cons_succ]
            have hbr := hnew
            have hgr := hge
            clear hb hnew hge
            generalize z51.alloc (.cells (cb zb32).toArray 24) = z57 at *
            generalize z51.heap.size = gr at *
            refine wpAnyH_enter 3 (by kernel_rfl) rfl (by rfl) (f := 15) (args := #[.pointer (some ⟨g0, 0, none⟩)]) (by simp [go_sem]) (HCL.out _ hI.t) ?_
            rintro e z58 ⟨rfl, hb⟩
            replace hI := hI.next HT.out hb
            replace hS := hS.more hb
            replace hbr := hbr.below hb hbr.lt
            replace hbp := hbp.below hb hbp.lt
            refine ⟨_, rfl, hS, ?_⟩
            clear hb
            simp only [Act.put, List.getElem_toArray, List.getElem_cons_succ, List.getElem_cons_zero, List.setIfInBounds_toArray, List.set_cons_zero, List.set_cons_succ]
            refine wpAnyH_enter 6 (by kernel_rfl) rfl (by rfl) (f := 19) (args := #[.pointer (some ⟨g0, 0, none⟩), .agg (cb u).toArray]) (by simp [go_sem]) (HCP.out _ hI.kk hI.t) ?_
            rintro e z59 ⟨vs, rfl, hvs, hb⟩
            have hltr := hbr.lt
            have hltp := hbp.lt
            replace hI := hI.next HT.out hb
            replace hS := hS.more hb
            replace hbr := hbr.below hb hbr.lt
            replace hbp := hbp.below hb hbp.lt
            have hrs := hvs.readsD
            have hvl : ∀ j, vs.ownBlock = some j → j < z59.heap.size := fun j hj => (hvs.lt j hj).2
            have hvr : ∀ j, vs.ownBlock = some j → j ≠ gr := fun j hj e => by have h1 := (hvs.lt j hj).1; have h2 := hltr; omega
            have hvp : ∀ j, vs.ownBlock = some j → j ≠ gp := fun j hj e => by have h1 := (hvs.lt j hj).1; have h2 := hltp; omega
            clear hvs
            refine ⟨_, rfl, hS, ?_⟩
            clear hb
            simp only [Act.put, List.getElem_toArray, List.getElem_cons_succ, List.getElem_cons_zero, List.setIfInBounds_toArray, List.set_cons_zero, List.set_cons_succ]
            have hvo : vs.oneCell' = true := by obtain ⟨ad9, cp9, hv9⟩ := hrs.slice; rw [hv9]; rfl
            have hne : gr ≠ gp := by
              intro e
              subst e
              unfold Blk at hbr hbp
              rw [hbr] at hbp
              simp only [Option.some.injEq, Obj.cells.injEq] at hbp
              exact absurd hbp.2.1 (by decide)
            refine wpAnyH_law 9 (by kernel_rfl) rfl (by rfl) (wp_store_mid 24 _ _ rfl gr 0 (cb r).toArray rfl rfl (hbr.there 0 _ (by rw [List.size_toArray, cb_len, cb_len, HRL.out]; decide)) (by rw [List.size_toArray, cb_len, HRL.out]; exact info_digest) (all_oneCell_toArray (cb_one r)) ?_)
            rw [List.toList_toArray]
            have hk9 : ∀ k, k ≠ gr → (z59.setCells gr 0 (cb r)).heap[k]? = z59.heap[k]? := At'.setCells _ _ _ (fun _ _ => rfl)
            have hb9 := hbr.whole (cb r) (by rw [cb_len, cb_len, HRL.out]; rfl)
            have hS9 : Over ys (z59.setCells gr 0 (cb r)) := Over.sets hS hgr
            refine ⟨hS9, ?_⟩
            simp only [Act.put, List.getElem_toArray, List.getElem_cons_succ, List.getElem_cons_zero]
            refine wpAnyH_take (i := 10) (v := .int .i64 (nl : Int)) rfl (by kernel_rfl) (by kernel_rfl) (by kernel_rfl) (fun _ _ _ h => h) (Or.inl ⟨by rfl, fun wx hx => by simp [go_sem]⟩) hS9 ?_
            simp only [Act.put, List.getElem_toArray, List.getElem_cons_succ, List.getElem_cons_zero, List.setIfInBounds_toArray, List.set_cons_zero, List.set_cons_succ]
            have hbp9 : Blk (z59.setCells gr 0 (cb r)) gp (prfV nilV 0 zb32 zb32) 41 := by have h := hbp; unfold Blk at *; rw [hk9 gp (Ne.symm hne)]; exact h
            refine wpAnyH_law 11 (by kernel_rfl) rfl (by rfl) (wp_store_mid 41 _ _ rfl gp 0 (prfV vs pe.1 pe.2.1 pe.2.2).toArray rfl rfl (hbp9.there 0 _ (by rw [List.size_toArray, prfV_len HP32.out.1 HP32.out.2, prfV_len zb32_len zb32_len]; decide)) (by rw [List.size_toArray, prfV_len HP32.out.1 HP32.out.2]; exact info_proof) (all_oneCell_toArray (prfV_one hvo)) ?_)
            rw [List.toList_toArray]
            have hS11 := Over.sets (o := 0) (cs := prfV vs pe.1 pe.2.1 pe.2.2) hS9 hgp
            refine ⟨hS11, ?_⟩
            simp only [Act.put, List.getElem_toArray, List.getElem_cons_succ, List.getElem_cons_zero]
            refine wpAnyH_done (by kernel_rfl) ?_ _
            have HFN : Hid (StS T w g0 l gx gv gu x v u ((z59.setCells gr 0 (cb r)).setCells gp 0 (prfV vs pe.1 pe.2.1 pe.2.2)) ∧ Blk ((z59.setCells gr 0 (cb r)).setCells gp 0 (prfV vs pe.1 pe.2.1 pe.2.2)) gr (cb r) 24 ∧ Blk ((z59.setCells gr 0 (cb r)).setCells gp 0 (prfV vs pe.1 pe.2.1 pe.2.2)) gp (prfV vs pe.1 pe.2.1 pe.2.2) 41 ∧ ReadsD ((z59.setCells gr 0 (cb r)).setCells gp 0 (prfV vs pe.1 pe.2.1 pe.2.2)) vs sd) := fin_st HT.out HIS.out hS11 hb9 hbp9 hk9 hne (prfV_len HP32.out.1 HP32.out.2) hrs hvr hvp
            clear hS hS9 hS11 hI hbr hbp hbp9 hb9 hk9 hrs hvr hvp hvl
            generalize (z59.setCells gr 0 (cb r)).setCells gp 0 (prfV vs pe.1 pe.2.1 pe.2.2) = wE at *
            go_wp2
            go_meet
            case rel => exact ⟨gr, gp, vs, rfl, rfl, rfl, HFN.out.1, HFN.out.2.1, HFN.out.2.2.1, HFN.out.2.2.2⟩
        · skip
          have hb := below_alloc z50 (.cells (cb zb32).toArray 24)
          have hnew : Blk (z50.alloc (.cells (cb zb32).toArray 24)) z50.heap.size (cb zb32) 24 := Blk.new _ _ _
          have hge : ys.heap.size ≤ z50.heap.size := hS.out.size
          replace hI := hI.next HT.out hb
          replace hS := hS.more hb
          replace hbp := hbp.below hb hbp.lt
          refine wpOp_vl 7 (.pointer (some ⟨z50.heap.size, 0, none⟩)) (z50.alloc (.cells (cb zb32).toArray 24)) (by rfl) (by rfl) (allocDigest _ _ rfl _) ⟨hS, ?_⟩
          simp only [Act.put, List.getElem_toArray, List.getElem_cons_succ, List.getElem_cons_zero, List.setIfInBounds_toArray, List.set_cons_zero, List.set_cons_succ]
          have hbr := hnew
          have hgr := hge
          clear hb hnew hge
          generalize z50.alloc (.cells (cb zb32).toArray 24) = z60 at *
          generalize z50.heap.size = gr at *
          refine wpAnyH_enter 1 (by kernel_rfl) rfl (by rfl) (f := 13) (args := #[.pointer (some ⟨g0, 0, none⟩)]) (by simp [go_sem]) (HCR.out _ hI.kk hI.t) ?_
          rintro e z61 ⟨rfl, hb⟩
          replace hI := hI.next HT.out hb
          replace hS := hS.more hb
          replace hbr := hbr.below hb hbr.lt
          replace hbp := hbp.below hb hbp.lt
          refine ⟨_, rfl, hS, ?_⟩
          clear hb
          simp only [Act.put, List.getElem_toArray, List.getElem_cons_succ, List.getElem_cons_zero, List.setIfInBounds_toArray, List.set_cons_zero, List.set_cons_succ]
          refine wpAnyH_enter 3 (by kernel_rfl) rfl (by rfl) (f := 15) (args := #[.pointer (some ⟨g0, 0, none⟩)]) (by simp [go_sem]) (HCL.out _ hI.t) ?_
          rintro e z62 ⟨rfl, hb⟩
          replace hI := hI.next HT.out hb
          replace hS := hS.more hb
          replace hbr := hbr.below hb hbr.lt
          replace hbp := hbp.below hb hbp.lt
          refine ⟨_, rfl, hS, ?_⟩
          clear hb
          simp only [Act.put, List.getElem_toArray, List.getElem_cons_succ, List.getElem_cons_zero, List.setIfInBounds_toArray, List.set_cons_zero, List.set_cons_succ]
          refine wpAnyH_enter 6 (by kernel_rfl) rfl (by rfl) (f := 19) (args := #[.pointer (some ⟨g0, 0, none⟩), .agg (cb u).toArray]) (by simp [go_sem]) (HCP.out _ hI.kk hI.t) ?_
          rintro e z63 ⟨vs, rfl, hvs, hb⟩
          have hltr := hbr.lt
          have hltp := hbp.lt
          replace hI := hI.next HT.out hb
          replace hS := hS.more hb
          replace hbr := hbr.below hb hbr.lt
          replace hbp := hbp.below hb hbp.lt
          have hrs := hvs.readsD
          have hvl : ∀ j, vs.ownBlock = some j → j < z63.heap.size := fun j hj => (hvs.lt j hj).2
          have hvr : ∀ j, vs.ownBlock = some j → j ≠ gr := fun j hj e => by have h1 := (hvs.lt j hj).1; have h2 := hltr; omega
          have hvp : ∀ j, vs.ownBlock = some j → j ≠ gp := fun j hj e => by have h1 := (hvs.lt j hj).1; have h2 := hltp; omega
          clear hvs
          refine ⟨_, rfl, hS, ?_⟩
          clear hb
          simp only [Act.put, List.getElem_toArray, List.getElem_cons_succ, List.getElem_cons_zero, List.setIfInBounds_toArray, List.set_cons_zero, List.set_cons_succ]
          have hvo : vs.oneCell' = true := by obtain ⟨ad9, cp9, hv9⟩ := hrs.slice; rw [hv9]; rfl
          have hne : gr ≠ gp := by
            intro e
            subst e
            unfold Blk at hbr hbp
            rw [hbr] at hbp
            simp only [Option.some.injEq, Obj.cells.injEq] at hbp
            exact absurd hbp.2.1 (by decide)
          refine wpAnyH_law 9 (by kernel_rfl) rfl (by rfl) (wp_store_mid 24 _ _ rfl gr 0 (cb r).toArray rfl rfl (hbr.there 0 _ (by rw [List.size_toArray, cb_len, cb_len, HRL.out]; decide)) (by rw [List.size_toArray, cb_len, HRL.out]; exact info_digest) (all_oneCell_toArray (cb_one r)) ?_)
          rw [List.toList_toArray]
          have hk9 : ∀ k, k ≠ gr → (z63.setCells gr 0 (cb r)).heap[k]? = z63.heap[k]? := At'.setCells _ _ _ (fun _ _ => rfl)
          have hb9 := hbr.whole (cb r) (by rw [cb_len, cb_len, HRL.out]; rfl)
          have hS9 : Over ys (z63.setCells gr 0 (cb r)) := Over.sets hS hgr
          refine ⟨hS9, ?_⟩
          simp only [Act.put, List.getElem_toArray, List.getElem_cons_succ, List.getElem_cons_zero]
          refine wpAnyH_take (i := 10) (v := .int .i64 (nl : Int)) rfl (by kernel_rfl) (by kernel_rfl) (by kernel_rfl) (fun _ _ _ h => h) (Or.inl ⟨by rfl, fun wx hx => by simp [go_sem]⟩) hS9 ?_
          simp only [Act.put, List.getElem_toArray, List.getElem_cons_succ, List.getElem_cons_zero, List.setIfInBounds_toArray, List.set_cons_zero, List.set_cons_succ]
          have hbp9 : Blk (z63.setCells gr 0 (cb r)) gp (prfV nilV 0 zb32 zb32) 41 := by have h := hbp; unfold Blk at *; rw [hk9 gp (Ne.symm hne)]; exact h
          refine wpAnyH_law 11 (by kernel_rfl) rfl (by rfl) (wp_store_mid 41 _ _ rfl gp 0 (prfV vs pe.1 pe.2.1 pe.2.2).toArray rfl rfl (hbp9.there 0 _ (by rw [List.size_toArray, prfV_len HP32.out.1 HP32.out.2, prfV_len zb32_len zb32_len]; decide)) (by rw [List.size_toArray, prfV_len HP32.out.1 HP32.out.2]; exact info_proof) (all_oneCell_toArray (prfV_one hvo)) ?_)
          rw [List.toList_toArray]
          have hS11 := Over.sets (o := 0) (cs := prfV vs pe.1 pe.2.1 pe.2.2) hS9 hgp
          refine ⟨hS11, ?_⟩
          simp only [Act.put, List.getElem_toArray, List.getElem_cons_succ, List.getElem_cons_zero]
          refine wpAnyH_done (by kernel_rfl) ?_ _
          have HFN : Hid (StS T w g0 l gx gv gu x v u ((z63.setCells gr 0 (cb r)).setCells gp 0 (prfV vs pe.1 pe.2.1 pe.2.2)) ∧ Blk ((z63.setCells gr 0 (cb r)).setCells gp 0 (prfV vs pe.1 pe.2.1 pe.2.2)) gr (cb r) 24 ∧ Blk ((z63.setCells gr 0 (cb r)).setCells gp 0 (prfV vs pe.1 pe.2.1 pe.2.2)) gp (prfV vs pe.1 pe.2.1 pe.2.2) 41 ∧ ReadsD ((z63.setCells gr 0 (cb r)).setCells gp 0 (prfV vs pe.1 pe.2.1 pe.2.2)) vs sd) := fin_st HT.out HIS.out hS11 hb9 hbp9 hk9 hne (prfV_len HP32.out.1 HP32.out.2) hrs hvr hvp
          clear hS hS9 hS11 hI hbr hbp hbp9 hb9 hk9 hrs hvr hvp hvl
          generalize (z63.setCells gr 0 (cb r)).setCells gp 0 (prfV vs pe.1 pe.2.1 pe.2.2) = wE at *
          go_wp2
          go_meet
          case rel => exact ⟨gr, gp, vs, rfl, rfl, rfl, HFN.out.1, HFN.out.2.1, HFN.out.2.2.1, HFN.out.2.2.2⟩
    case rest =>
      clear HI
      obtain ⟨gr, gp, vs, rfl, rfl, rfl, hI, hbr, hbp, hrs⟩ := hcut
      have HI : Hid (StS T w g0 l gx gv gu x v u wc) := hI
      have HBR : Hid (Blk wc gr (cb r) 24) := hbr
      obtain ⟨cs, HCS⟩ : ∃ z, Hid (z = prfV vs pe.1 pe.2.1 pe.2.2) := ⟨_, rfl⟩
      have HBP : Hid (Blk wc gp cs 41) := by rw [HCS.out]; exact hbp
      have HRS : Hid (ReadsD wc vs sd) := hrs
      have HIC : Hid ((Tryd.prog.info? 41).map (·.size) = some cs.length) := by show _ = _; rw [HCS.out, prfV_len HP32.out.1 HP32.out.2]; exact info_proof
      clear hI hbr hbp hrs
      obtain ⟨w3, HWQ⟩ : ∃ z, Hid (z = wc) := ⟨_, rfl⟩
      rw [← HWQ.out] at HI HBR HBP HRS ⊢
      clear HWQ
      obtain ⟨la, HLA⟩ : ∃ z, Hid (z = putL l x v) := ⟨_, rfl⟩
      have HGA : Hid (okLf la ∧ Up la) := by show _ ∧ _; rw [HLA.out]; exact ⟨putL_ok HOK.out.1 HX32.out HV32.out, putL_up HOK.out.1 HX32.out HOK.out.2⟩
      have HEG : Hid (getL la x = some v) := (getL_mem HGA.out.2).2 (by rw [HLA.out]; exact mem_putL.2 (Or.inl rfl))
      have HL1 : Hid (la.length ≤ 61) := by show _ ≤ _; have h1 := putL_len l x v; have h2 := HLL.out; rw [HLA.out]; omega
      obtain ⟨od, HOD⟩ : ∃ z, Hid (z = (getL l x).getD zb32) := ⟨_, rfl⟩
      obtain ⟨is, HIS⟩ : ∃ z, Hid (z = (getL l x).isSome) := ⟨_, rfl⟩
      have HO32 : Hid (od.length = 32) := by show _ = _; rw [HOD.out]; exact getD_len2 HOK.out x
      have HEB : Hid (is = true → rootL (putL la x od) 0 = r) := fun hi => by
        cases hg : getL l x with
        | none => rw [HIS.out, hg] at hi; cases hi
        | some y =>
          have hy : od = y := by rw [HOD.out, hg]; rfl
          have hm : (x, y) ∈ l := (getL_mem HOK.out.2).1 hg
          rw [hy, HLA.out, putL_putL HOK.out.1 HX32.out HV32.out HOK.out.2, putL_same HOK.out.1 HX32.out HOK.out.2 hm, HRD.out]
      have qv : ∀ wx : World, (Op.equalIn 10000 24 (.agg (cb v).toArray) (.agg (cb v).toArray)).run Tryd.prog wx = .ok true wx := fun wx => eq_dig_same v HV32.out wx
      have qr : ∀ wx : World, (Op.equalIn 10000 24 (.agg (cb r).toArray) (.agg (cb r).toArray)).run Tryd.prog wx = .ok true wx := fun wx => eq_dig_same r HRL.out wx
      go_upto_region 11 with (first
        | (with_reducible refine wpSeq_loadD (.tmp 7) gx x ?_ ?_ ?_ ?_ ?_ ?_
           · exact HX32.out
           · exact HI.out.bx
           · rfl
           · rfl
           · rfl)
        | (with_reducible refine wpSeq_loadD (.tmp 8) gv v ?_ ?_ ?_ ?_ ?_ ?_
           · exact HV32.out
           · exact HI.out.bv
           · rfl
           · rfl
           · rfl)
        | (go_at_call 22; refine (HT.out.put _ g0 l x v HI.out.kk HI.out.t (by have := HLL.out; omega) HX32.out HV32.out).mono ?_; rintro e w4 ⟨g1, rfl, ht, hb⟩
           rw [← HLA.out] at ht
           have HT1 : Hid (T w4 g1 la) := ht
           replace HI : Hid (StS T w g0 l gx gv gu x v u w4) := HI.out.next HT.out hb
           replace HBR : Hid (Blk w4 gr (cb r) 24) := HBR.out.below hb HBR.out.lt
           replace HBP : Hid (Blk w4 gp cs 41) := HBP.out.below hb HBP.out.lt
           replace HRS : Hid (ReadsD w4 vs sd) := HRS.out.below hb
           clear hb ht)
        | (go_at_call 16; refine (HT.out.get _ g1 la x HT1.out HX32.out).mono ?_; rintro e w5 ⟨rfl, hb⟩; rw [HEG.out]
           replace HT1 : Hid (T w5 g1 la) := HT.out.next HT1.out hb
           replace HI : Hid (StS T w g0 l gx gv gu x v u w5) := HI.out.next HT.out hb
           replace HBR : Hid (Blk w5 gr (cb r) 24) := HBR.out.below hb HBR.out.lt
           replace HBP : Hid (Blk w5 gp cs 41) := HBP.out.below hb HBP.out.lt
           replace HRS : Hid (ReadsD w5 vs sd) := HRS.out.below hb
           clear hb)
        | (with_reducible refine wpSeq_allocD ?_ ?_ ?_
           · rfl
           · rfl
           intro gw w6 nn)
        | (with_reducible refine wpSeq_storeD (.tmp 16) (.tmp 47) gw zb32 v ?_ ?_ ?_ ?_ ?_ ?_ ?_ ?_
           · rfl
           · exact HV32.out
           · exact nn.blk
           · rfl
           · rfl
           · rfl
           · rfl
           intro w7 h9
           have hb : Below w5.heap.size w5 w7 := nn.below.trans (h9.only.below nn.ge nn.below.size)
           replace HT1 : Hid (T w7 g1 la) := HT.out.next HT1.out hb
           replace HI : Hid (StS T w g0 l gx gv gu x v u w7) := HI.out.next HT.out hb
           replace HBR : Hid (Blk w7 gr (cb r) 24) := HBR.out.below hb HBR.out.lt
           replace HBP : Hid (Blk w7 gp cs 41) := HBP.out.below hb HBP.out.lt
           replace HRS : Hid (ReadsD w7 vs sd) := HRS.out.below hb
           have HBV : Hid (Blk w7 gw (cb v) 24) := h9.blk
           clear hb nn h9))
      refine wp_region_held_drew (S := Over w7.drew) (by kernel_rfl) (Over.refl _) ?_
      intro hS
      have hI := HI.out.next HT.out (Below.refl _ _).drew
      have ht1 := HT.out.next HT1.out (Below.refl _ w7).drew
      have hI0 : Hid (Blk w7.drew gw (cb v) 24 ∧ Blk w7.drew gv (cb v) 24 ∧ Blk w7.drew gr (cb r) 24 ∧ Blk w7.drew gu (cb u) 24 ∧ Blk w7.drew gp cs 41) := ⟨HBV.out, hI.bv, HBR.out, hI.bu, HBP.out⟩
      have hrs := HRS.out.below (Below.refl _ w7).drew
      clear HI HT1 HRS HBV
      change wpAnyH _ _ _ _ _ _ _ _ (World.drew w7)
      have HBRd : Hid (Blk w7.drew gr (cb r) 24) := hI0.out.2.2.1
      clear HBR HBP
      generalize World.drew w7 = y0 at *
      refine wpAnyH_take (i := 0) (v := .bool true) rfl (by kernel_rfl) (by kernel_rfl) (by kernel_rfl) (fun _ _ _ h => h) (Or.inl ⟨by rfl, fun wx hx => by simp [go_sem]⟩) hS ?_
      simp only [Act.put, List.getElem_toArray, List.getElem_cons_zero, List.setIfInBounds_toArray, List.set_cons_zero, List.set_cons_succ]
      refine wpAnyH_take (i := 1) (v := .bool false) rfl (by kernel_rfl) (by kernel_rfl) (by kernel_rfl) (fun _ _ _ h => h) (Or.inl ⟨by rfl, fun wx hx => by simp [go_sem]⟩) hS ?_
      simp only [Act.put, List.getElem_toArray, List.getElem_cons_succ, List.getElem_cons_zero, List.setIfInBounds_toArray, List.set_cons_zero, List.set_cons_succ]
      refine wpAnyH_take (i := 2) (v := .bool false) rfl (by kernel_rfl) (by kernel_rfl) (by kernel_rfl) (fun _ _ _ h => h) (Or.inl ⟨by rfl, fun wx hx => by simp [go_sem]⟩) hS ?_
      simp only [Act.put, List.getElem_toArray, List.getElem_cons_succ, List.getElem_cons_zero, List.setIfInBounds_toArray, List.set_cons_zero, List.set_cons_succ]
      refine wpAnyH_take (i := 3) (v := .agg (cb v).toArray) rfl (by kernel_rfl) (by kernel_rfl) (by kernel_rfl) (fun _ _ _ h => h) (Or.inl ⟨by rfl, fun wx hx => by exact loadDigest _ gw v HV32.out (Over.blk hx hI0.out.1) rfl rfl⟩) hS ?_
      simp only [Act.put, List.getElem_toArray, List.getElem_cons_succ, List.getElem_cons_zero, List.setIfInBounds_toArray, List.set_cons_zero, List.set_cons_succ]
      refine wpAnyH_take (i := 4) (v := .agg (cb v).toArray) rfl (by kernel_rfl) (by kernel_rfl) (by kernel_rfl) (fun _ _ _ h => h) (Or.inl ⟨by rfl, fun wx hx => by exact loadDigest _ gv v HV32.out (Over.blk hx hI0.out.2.1) rfl rfl⟩) hS ?_
      simp only [Act.put, List.getElem_toArray, List.getElem_cons_succ, List.getElem_cons_zero, List.setIfInBounds_toArray, List.set_cons_zero, List.set_cons_succ]
      refine wpAnyH_take (i := 5) (v := .bool false) rfl (by kernel_rfl) (by kernel_rfl) (by kernel_rfl) (fun _ _ _ h => h) (Or.inl ⟨by rfl, fun wx hx => by (have hq := qv wx; simp [go_sem, hq])⟩) hS ?_
      simp only [Act.put, List.getElem_toArray, List.getElem_cons_succ, List.getElem_cons_zero, List.setIfInBounds_toArray, List.set_cons_zero, List.set_cons_succ]
      refine wpAnyH_take (i := 6) (v := .bool false) rfl (by kernel_rfl) (by kernel_rfl) (by kernel_rfl) (fun _ _ _ h => h) (Or.inl ⟨by rfl, fun wx hx => by simp [go_sem]⟩) hS ?_
      simp only [Act.put, List.getElem_toArray, List.getElem_cons_succ, List.getElem_cons_zero, List.setIfInBounds_toArray, List.set_cons_zero, List.set_cons_succ]
      refine wpAnyH_take (i := 7) (v := .bool false) rfl (by kernel_rfl) (by kernel_rfl) (by kernel_rfl) (fun _ _ _ h => h) (Or.inl ⟨by rfl, fun wx hx => by simp [go_sem]⟩) hS ?_
      simp only [Act.put, List.getElem_toArray, List.getElem_cons_succ, List.getElem_cons_zero, List.setIfInBounds_toArray, List.set_cons_zero, List.set_cons_succ]
      refine wpAnyH_take (i := 8) (v := .pointer (some ⟨g0, 0, none⟩)) rfl (by kernel_rfl) (by kernel_rfl) (by kernel_rfl) (fun _ _ _ h => h) (Or.inl ⟨by rfl, fun wx hx => by simp [go_sem]⟩) hS ?_
      simp only [Act.put, List.getElem_toArray, List.getElem_cons_succ, List.getElem_cons_zero, List.setIfInBounds_toArray, List.set_cons_zero, List.set_cons_succ]
      refine wpAnyH_take (i := 10) (v := .agg (cb r).toArray) rfl (by kernel_rfl) (by kernel_rfl) (by kernel_rfl) (fun _ _ _ h => h) (Or.inl ⟨by rfl, fun wx hx => by exact loadDigest _ gr r HRL.out (Over.blk hx hI0.out.2.2.1) rfl rfl⟩) hS ?_
      simp only [Act.put, List.getElem_toArray, List.getElem_cons_succ, List.getElem_cons_zero, List.setIfInBounds_toArray, List.set_cons_zero, List.set_cons_succ]
      refine wpAnyH_enter 9 (by kernel_rfl) rfl (by rfl) (f := 13) (args := #[.pointer (some ⟨g0, 0, none⟩)]) (by simp [go_sem]) (HCR.out _ hI.kk hI.t) ?_
      rintro e y1 ⟨rfl, hb⟩
      replace hI := hI.next HT.out hb
      replace ht1 := HT.out.next ht1 hb
      replace hrs := hrs.below hb
      replace hS := hS.more hb
      refine ⟨_, rfl, hS, ?_⟩
      clear hb
      simp only [Act.put, List.getElem_toArray, List.getElem_cons_succ, List.getElem_cons_zero, List.setIfInBounds_toArray, List.set_cons_zero, List.set_cons_succ]
      refine wpAnyH_take (i := 11) (v := .bool false) rfl (by kernel_rfl) (by kernel_rfl) (by kernel_rfl) (fun _ _ _ h => h) (Or.inl ⟨by rfl, fun wx hx => by (have hq := qr wx; simp [go_sem, hq])⟩) hS ?_
      simp only [Act.put, List.getElem_toArray, List.getElem_cons_succ, List.getElem_cons_zero, List.setIfInBounds_toArray, List.set_cons_zero, List.set_cons_succ]
      refine wpAnyH_take (i := 12) (v := .bool false) rfl (by kernel_rfl) (by kernel_rfl) (by kernel_rfl) (fun _ _ _ h => h) (Or.inl ⟨by rfl, fun wx hx => by simp [go_sem]⟩) hS ?_
      simp only [Act.put, List.getElem_toArray, List.getElem_cons_succ, List.getElem_cons_zero, List.setIfInBounds_toArray, List.set_cons_zero, List.set_cons_succ]
      refine wpAnyH_take (i := 13) (v := .bool false) rfl (by kernel_rfl) (by kernel_rfl) (by kernel_rfl) (fun _ _ _ h => h) (Or.inl ⟨by rfl, fun wx hx => by simp [go_sem]⟩) hS ?_
      simp only [Act.put, List.getElem_toArray, List.getElem_cons_succ, List.getElem_cons_zero, List.setIfInBounds_toArray, List.set_cons_zero, List.set_cons_succ]
      refine wpAnyH_take (i := 14) (v := .pointer (some ⟨g0, 0, none⟩)) rfl (by kernel_rfl) (by kernel_rfl) (by kernel_rfl) (fun _ _ _ h => h) (Or.inl ⟨by rfl, fun wx hx => by simp [go_sem]⟩) hS ?_
      simp only [Act.put, List.getElem_toArray, List.getElem_cons_succ, List.getElem_cons_zero, List.setIfInBounds_toArray, List.set_cons_zero, List.set_cons_succ]
      refine wpAnyH_take (i := 16) (v := .int .i64 (nl : Int)) rfl (by kernel_rfl) (by kernel_rfl) (by kernel_rfl) (fun _ _ _ h => h) (Or.inl ⟨by rfl, fun wx hx => by simp [go_sem]⟩) hS ?_
      simp only [Act.put, List.getElem_toArray, List.getElem_cons_succ, List.getElem_cons_zero, List.setIfInBounds_toArray, List.set_cons_zero, List.set_cons_succ]
      refine wpAnyH_enter 15 (by kernel_rfl) rfl (by rfl) (f := 15) (args := #[.pointer (some ⟨g0, 0, none⟩)]) (by simp [go_sem]) (HCL.out _ hI.t) ?_
      rintro e y1 ⟨rfl, hb⟩
      replace hI := hI.next HT.out hb
      replace ht1 := HT.out.next ht1 hb
      replace hrs := hrs.below hb
      replace hS := hS.more hb
      refine ⟨_, rfl, hS, ?_⟩
      clear hb
      simp only [Act.put, List.getElem_toArray, List.getElem_cons_succ, List.getElem_cons_zero, List.setIfInBounds_toArray, List.set_cons_zero, List.set_cons_succ]
      refine wpAnyH_take (i := 17) (v := .bool false) rfl (by kernel_rfl) (by kernel_rfl) (by kernel_rfl) (fun _ _ _ h => h) (Or.inl ⟨by rfl, fun wx hx => by simp [go_sem]⟩) hS ?_
      simp only [Act.put, List.getElem_toArray, List.getElem_cons_succ, List.getElem_cons_zero, List.setIfInBounds_toArray, List.set_cons_zero, List.set_cons_succ]
      refine wpAnyH_take (i := 18) (v := .bool false) rfl (by kernel_rfl) (by kernel_rfl) (by kernel_rfl) (fun _ _ _ h => h) (Or.inl ⟨by rfl, fun wx hx => by simp [go_sem]⟩) hS ?_
      simp only [Act.put, List.getElem_toArray, List.getElem_cons_succ, List.getElem_cons_zero, List.setIfInBounds_toArray, List.set_cons_zero, List.set_cons_succ]
      refine wpAnyH_take (i := 19) (v := .bool false) rfl (by kernel_rfl) (by kernel_rfl) (by kernel_rfl) (fun _ _ _ h => h) (Or.inl ⟨by rfl, fun wx hx => by simp [go_sem]⟩) hS ?_
      simp only [Act.put, List.getElem_toArray, List.getElem_cons_succ, List.getElem_cons_zero, List.setIfInBounds_toArray, List.set_cons_zero, List.set_cons_succ]
      refine wpAnyH_take (i := 20) (v := .pointer (some ⟨g0, 0, none⟩)) rfl (by kernel_rfl) (by kernel_rfl) (by kernel_rfl) (fun _ _ _ h => h) (Or.inl ⟨by rfl, fun wx hx => by simp [go_sem]⟩) hS ?_
      simp only [Act.put, List.getElem_toArray, List.getElem_cons_succ, List.getElem_cons_zero, List.setIfInBounds_toArray, List.set_cons_zero, List.set_cons_succ]
      refine wpAnyH_take (i := 21) (v := .agg (cb u).toArray) rfl (by kernel_rfl) (by kernel_rfl) (by kernel_rfl) (fun _ _ _ h => h) (Or.inl ⟨by rfl, fun wx hx => by exact loadDigest _ gu u HU32.out (Over.blk hx hI0.out.2.2.2.1) rfl rfl⟩) hS ?_
      simp only [Act.put, List.getElem_toArray, List.getElem_cons_succ, List.getElem_cons_zero, List.setIfInBounds_toArray, List.set_cons_zero, List.set_cons_succ]
      refine wpAnyH_take (i := 23) (v := .agg cs.toArray) rfl (by kernel_rfl) (by kernel_rfl) (by kernel_rfl) (fun _ _ _ h => h) (Or.inl ⟨by rfl, fun wx hx => by exact load_run 41 _ rfl gp 0 rfl cs _ (Over.blk hx hI0.out.2.2.2.2).range Tryd.underlying41 rfl HIC.out⟩) hS ?_
      simp only [Act.put, List.getElem_toArray, List.getElem_cons_succ, List.getElem_cons_zero, List.setIfInBounds_toArray, List.set_cons_zero, List.set_cons_succ]
      refine wpAnyH_enter 22 (by kernel_rfl) rfl (by rfl) (f := 19) (args := #[.pointer (some ⟨g0, 0, none⟩), .agg (cb u).toArray]) (by simp [go_sem]) (HCP.out _ hI.kk hI.t) ?_
      rintro e y1 ⟨vs2, rfl, hv2, hb⟩
      replace hI := hI.next HT.out hb
      replace ht1 := HT.out.next ht1 hb
      replace hrs := hrs.below hb
      replace hS := hS.more hb
      refine ⟨_, rfl, hS, ?_⟩
      clear hb
      simp only [Act.put, List.getElem_toArray, List.getElem_cons_succ, List.getElem_cons_zero, List.setIfInBounds_toArray, List.set_cons_zero, List.set_cons_succ]
      have hrs2 := hv2.readsD
      clear hv2
      have hsm : Calls Tryd.prog 18 #[.agg (prfV vs2 pe.1 pe.2.1 pe.2.2).toArray, .agg cs.toArray] y1 fun e w' => e = .returned (.bool true) ∧ Below y1.heap.size y1 w' := by
        rw [HCS.out]
        have h := samePrf_any sd sd pe.1 pe.1 _ _ _ _ vs2 vs y1 HP32.out HP32.out hrs2 hrs (by rw [HSD.out]; exact Nat.lt_of_le_of_lt (wayF_len u _ _ _) (by decide))
        rwa [decide_eq_true (by simp)] at h
      refine wpAnyH_enter 24 (by kernel_rfl) rfl (by rfl) (f := 18) (args := #[.agg (prfV vs2 pe.1 pe.2.1 pe.2.2).toArray, .agg cs.toArray]) (by simp [go_sem]) (hsm) ?_
      rintro e y2 ⟨rfl, hb⟩
      replace hI := hI.next HT.out hb
      replace ht1 := HT.out.next ht1 hb
      replace hrs := hrs.below hb
      replace hS := hS.more hb
      refine ⟨_, rfl, hS, ?_⟩
      clear hb
      simp only [Act.put, List.getElem_toArray, List.getElem_cons_succ, List.getElem_cons_zero, List.setIfInBounds_toArray, List.set_cons_zero, List.set_cons_succ]
      refine wpAnyH_take (i := 25) (v := .bool false) rfl (by kernel_rfl) (by kernel_rfl) (by kernel_rfl) (fun _ _ _ h => h) (Or.inl ⟨by rfl, fun wx hx => by simp [go_sem]⟩) hS ?_
      simp only [Act.put, List.getElem_toArray, List.getElem_cons_succ, List.getElem_cons_zero, List.setIfInBounds_toArray, List.set_cons_zero, List.set_cons_succ]
      refine wpAnyH_take (i := 26) (v := .bool false) rfl (by kernel_rfl) (by kernel_rfl) (by kernel_rfl) (fun _ _ _ h => h) (Or.inl ⟨by rfl, fun wx hx => by simp [go_sem]⟩) hS ?_
      simp only [Act.put, List.getElem_toArray, List.getElem_cons_succ, List.getElem_cons_zero, List.setIfInBounds_toArray, List.set_cons_zero, List.set_cons_succ]
      refine wpAnyH_done (by kernel_rfl) ?_ _
      have HI : Hid (StS T w g0 l gx gv gu x v u y2) := hI
      have HT1 : Hid (T y2 g1 la) := ht1
      have HBR : Hid (Blk y2 gr (cb r) 24) := Over.blk hS HBRd.out
      clear hI ht1 hS hrs hrs2 hI0 HBRd hsm
      obtain ⟨w8, HWQ⟩ : ∃ z, Hid (z = y2) := ⟨_, rfl⟩
      rw [← HWQ.out] at HI HT1 HBR ⊢
      clear HWQ qv
      go_upto_region 15 with (first
        | (with_reducible refine wpSeq_loadD (.tmp 7) gx x ?_ ?_ ?_ ?_ ?_ ?_
           · exact HX32.out
           · exact HI.out.bx
           · rfl
           · rfl
           · rfl)
        | (go_at_call 16; refine (HT.out.get _ g0 l x HI.out.t HX32.out).mono ?_; rintro e w9 ⟨rfl, hb⟩; rw [← HOD.out, ← HIS.out]
           replace HT1 : Hid (T w9 g1 la) := HT.out.next HT1.out hb
           replace HI : Hid (StS T w g0 l gx gv gu x v u w9) := HI.out.next HT.out hb
           replace HBR : Hid (Blk w9 gr (cb r) 24) := HBR.out.below hb HBR.out.lt
           clear hb)
        | (with_reducible refine wpSeq_allocD ?_ ?_ ?_
           · rfl
           · rfl
           intro gq w10 nn)
        | (with_reducible refine wpSeq_storeD (.tmp 18) (.tmp 80) gq zb32 od ?_ ?_ ?_ ?_ ?_ ?_ ?_ ?_
           · rfl
           · exact HO32.out
           · exact nn.blk
           · rfl
           · rfl
           · rfl
           · rfl
           intro w11 h9
           have hb : Below w9.heap.size w9 w11 := nn.below.trans (h9.only.below nn.ge nn.below.size)
           replace HT1 : Hid (T w11 g1 la) := HT.out.next HT1.out hb
           replace HI : Hid (StS T w g0 l gx gv gu x v u w11) := HI.out.next HT.out hb
           replace HBR : Hid (Blk w11 gr (cb r) 24) := HBR.out.below hb HBR.out.lt
           have HBQ : Hid (Blk w11 gq (cb od) 24) := h9.blk
           clear hb nn h9)
        | (with_reducible refine wpSeq_loadD (.tmp 18) gq od ?_ ?_ ?_ ?_ ?_ ?_
           · exact HO32.out
           · exact HBQ.out
           · rfl
           · rfl
           · rfl)
        | (go_at_call 22; refine (HT.out.put _ g1 la x od HI.out.kk HT1.out (by have := HL1.out; omega) HX32.out HO32.out).mono ?_; rintro e w12 ⟨g2, rfl, ht, hb⟩
           have HT2 : Hid (T w12 g2 (putL la x od)) := ht
           replace HI : Hid (StS T w g0 l gx gv gu x v u w12) := HI.out.next HT.out hb
           replace HBR : Hid (Blk w12 gr (cb r) 24) := HBR.out.below hb HBR.out.lt
           clear hb ht))
      cases is with
      | false =>
        refine wp_region_held_drew (S := Over w12.drew) (by kernel_rfl) (Over.refl _) ?_
        intro hS
        have hI := HI.out.next HT.out (Below.refl _ _).drew
        have ht2 := HT.out.next HT2.out (Below.refl _ w12).drew
        have HBRd : Hid (Blk w12.drew gr (cb r) 24) := HBR.out
        clear HI HT2 HBR
        change wpAnyH _ _ _ _ _ _ _ _ (World.drew w12)
        generalize World.drew w12 = y5 at *
        refine wpAnyH_take (i := 0) (v := .bool false) rfl (by kernel_rfl) (by kernel_rfl) (by kernel_rfl) (fun _ _ _ h => h) (Or.inl ⟨by rfl, fun wx hx => by simp [go_sem]⟩) hS ?_
        simp only [Act.put, List.getElem_toArray, List.getElem_cons_zero, List.setIfInBounds_toArray, List.set_cons_zero, List.set_cons_succ]
        refine wpAnyH_take (i := 1) (v := .bool true) rfl (by kernel_rfl) (by kernel_rfl) (by kernel_rfl) (fun _ _ _ h => h) (Or.inl ⟨by rfl, fun wx hx => by simp [go_sem]⟩) hS ?_
        simp only [Act.put, List.getElem_toArray, List.getElem_cons_succ, List.getElem_cons_zero, List.setIfInBounds_toArray, List.set_cons_zero, List.set_cons_succ]
        refine wpAnyH_take (i := 2) (v := .bool true) rfl (by kernel_rfl) (by kernel_rfl) (by kernel_rfl) (fun _ _ _ h => h) (Or.inl ⟨by rfl, fun wx hx => by simp [go_sem]⟩) hS ?_
        simp only [Act.put, List.getElem_toArray, List.getElem_cons_succ, List.getElem_cons_zero, List.setIfInBounds_toArray, List.set_cons_zero, List.set_cons_succ]
        refine wpAnyH_take (i := 3) (v := undef) rfl (by kernel_rfl) (by kernel_rfl) (by kernel_rfl) (fun _ _ _ h => h) (Or.inr ⟨by rfl, rfl⟩) hS ?_
        simp only [Act.put, List.getElem_toArray, List.getElem_cons_succ, List.getElem_cons_zero, List.setIfInBounds_toArray, List.set_cons_zero, List.set_cons_succ]
        refine wpAnyH_take (i := 4) (v := undef) rfl (by kernel_rfl) (by kernel_rfl) (by kernel_rfl) (fun _ _ _ h => h) (Or.inr ⟨by rfl, rfl⟩) hS ?_
        simp only [Act.put, List.getElem_toArray, List.getElem_cons_succ, List.getElem_cons_zero, List.setIfInBounds_toArray, List.set_cons_zero, List.set_cons_succ]
        refine wpAnyH_take (i := 5) (v := undef) rfl (by kernel_rfl) (by kernel_rfl) (by kernel_rfl) (fun _ _ _ h => h) (Or.inr ⟨by rfl, rfl⟩) hS ?_
        simp only [Act.put, List.getElem_toArray, List.getElem_cons_succ, List.getElem_cons_zero, List.setIfInBounds_toArray, List.set_cons_zero, List.set_cons_succ]
        refine wpAnyH_take (i := 6) (v := undef) rfl (by kernel_rfl) (by kernel_rfl) (by kernel_rfl) (fun _ _ _ h => h) (Or.inr ⟨by rfl, rfl⟩) hS ?_
        simp only [Act.put, List.getElem_toArray, List.getElem_cons_succ, List.getElem_cons_zero, List.setIfInBounds_toArray, List.set_cons_zero, List.set_cons_succ]
        refine wpAnyH_take (i := 7) (v := undef) rfl (by kernel_rfl) (by kernel_rfl) (by kernel_rfl) (fun _ _ _ h => h) (Or.inr ⟨by rfl, rfl⟩) hS ?_
        simp only [Act.put, List.getElem_toArray, List.getElem_cons_succ, List.getElem_cons_zero, List.setIfInBounds_toArray, List.set_cons_zero, List.set_cons_succ]
        refine wpAnyH_take (i := 8) (v := undef) rfl (by kernel_rfl) (by kernel_rfl) (by kernel_rfl) (fun _ _ _ h => h) (Or.inr ⟨by rfl, rfl⟩) hS ?_
        simp only [Act.put, List.getElem_toArray, List.getElem_cons_succ, List.getElem_cons_zero, List.setIfInBounds_toArray, List.set_cons_zero, List.set_cons_succ]
        refine wpAnyH_take (i := 9) (v := undef) rfl (by kernel_rfl) (by kernel_rfl) (by kernel_rfl) (fun _ _ _ h => h) (Or.inr ⟨by rfl, rfl⟩) hS ?_
        simp only [Act.put, List.getElem_toArray, List.getElem_cons_succ, List.getElem_cons_zero, List.setIfInBounds_toArray, List.set_cons_zero, List.set_cons_succ]
        refine wpAnyH_take (i := 10) (v := undef) rfl (by kernel_rfl) (by kernel_rfl) (by kernel_rfl) (fun _ _ _ h => h) (Or.inr ⟨by rfl, rfl⟩) hS ?_
        simp only [Act.put, List.getElem_toArray, List.getElem_cons_succ, List.getElem_cons_zero, List.setIfInBounds_toArray, List.set_cons_zero, List.set_cons_succ]
        refine wpAnyH_take (i := 11) (v := .bool true) rfl (by kernel_rfl) (by kernel_rfl) (by kernel_rfl) (fun _ _ _ h => h) (Or.inl ⟨by rfl, fun wx hx => by simp [go_sem]⟩) hS ?_
        simp only [Act.put, List.getElem_toArray, List.getElem_cons_succ, List.getElem_cons_zero, List.setIfInBounds_toArray, List.set_cons_zero, List.set_cons_succ]
        refine wpAnyH_take (i := 12) (v := .bool true) rfl (by kernel_rfl) (by kernel_rfl) (by kernel_rfl) (fun _ _ _ h => h) (Or.inl ⟨by rfl, fun wx hx => by simp [go_sem]⟩) hS ?_
        simp only [Act.put, List.getElem_toArray, List.getElem_cons_succ, List.getElem_cons_zero, List.setIfInBounds_toArray, List.set_cons_zero, List.set_cons_succ]
        refine wpAnyH_enter 13 (by kernel_rfl) rfl (by rfl) (f := 10) (args := #[]) (by simp [go_sem]) (trworks_any HT.out _ hI.kk) ?_
        rintro e y6 ⟨rfl, hb⟩
        replace hI := hI.next HT.out hb
        replace ht2 := HT.out.next ht2 hb
        replace hS := hS.more hb
        refine ⟨_, rfl, hS, ?_⟩
        clear hb
        simp only [Act.put, List.getElem_toArray, List.getElem_cons_succ, List.getElem_cons_zero, List.setIfInBounds_toArray, List.set_cons_zero, List.set_cons_succ]
        refine wpAnyH_take (i := 14) (v := .bool true) rfl (by kernel_rfl) (by kernel_rfl) (by kernel_rfl) (fun _ _ _ h => h) (Or.inl ⟨by rfl, fun wx hx => by simp [go_sem]⟩) hS ?_
        simp only [Act.put, List.getElem_toArray, List.getElem_cons_succ, List.getElem_cons_zero, List.setIfInBounds_toArray, List.set_cons_zero, List.set_cons_succ]
        refine wpAnyH_take (i := 15) (v := .bool true) rfl (by kernel_rfl) (by kernel_rfl) (by kernel_rfl) (fun _ _ _ h => h) (Or.inl ⟨by rfl, fun wx hx => by simp [go_sem]⟩) hS ?_
        simp only [Act.put, List.getElem_toArray, List.getElem_cons_succ, List.getElem_cons_zero, List.setIfInBounds_toArray, List.set_cons_zero, List.set_cons_succ]
        refine wpAnyH_done (by kernel_rfl) ?_ _
        have HF : Hid (Below w.heap.size w y6) := hI.bel
        clear hI ht2 hS HBRd qr
        go_wp2
        go_ret
        exact ⟨rfl, HF.out⟩
      | true =>
        refine wp_region_held_drew (S := Over w12.drew) (by kernel_rfl) (Over.refl _) ?_
        intro hS
        have hI := HI.out.next HT.out (Below.refl _ _).drew
        have ht2 := HT.out.next HT2.out (Below.refl _ w12).drew
        have HBRd : Hid (Blk w12.drew gr (cb r) 24) := HBR.out
        clear HI HT2 HBR
        change wpAnyH _ _ _ _ _ _ _ _ (World.drew w12)
        generalize World.drew w12 = y5 at *
        have HR2 : Hid (rootL (putL la x od) 0 = r) := HEB.out rfl
        refine wpAnyH_take (i := 0) (v := .bool true) rfl (by kernel_rfl) (by kernel_rfl) (by kernel_rfl) (fun _ _ _ h => h) (Or.inl ⟨by rfl, fun wx hx => by simp [go_sem]⟩) hS ?_
        simp only [Act.put, List.getElem_toArray, List.getElem_cons_zero, List.setIfInBounds_toArray, List.set_cons_zero, List.set_cons_succ]
        refine wpAnyH_take (i := 1) (v := .bool false) rfl (by kernel_rfl) (by kernel_rfl) (by kernel_rfl) (fun _ _ _ h => h) (Or.inl ⟨by rfl, fun wx hx => by simp [go_sem]⟩) hS ?_
        simp only [Act.put, List.getElem_toArray, List.getElem_cons_succ, List.getElem_cons_zero, List.setIfInBounds_toArray, List.set_cons_zero, List.set_cons_succ]
        refine wpAnyH_take (i := 2) (v := .bool false) rfl (by kernel_rfl) (by kernel_rfl) (by kernel_rfl) (fun _ _ _ h => h) (Or.inl ⟨by rfl, fun wx hx => by simp [go_sem]⟩) hS ?_
        simp only [Act.put, List.getElem_toArray, List.getElem_cons_succ, List.getElem_cons_zero, List.setIfInBounds_toArray, List.set_cons_zero, List.set_cons_succ]
        refine wpAnyH_take (i := 3) (v := .pointer (some ⟨g2, 0, none⟩)) rfl (by kernel_rfl) (by kernel_rfl) (by kernel_rfl) (fun _ _ _ h => h) (Or.inl ⟨by rfl, fun wx hx => by simp [go_sem]⟩) hS ?_
        simp only [Act.put, List.getElem_toArray, List.getElem_cons_succ, List.getElem_cons_zero, List.setIfInBounds_toArray, List.set_cons_zero, List.set_cons_succ]
        refine wpAnyH_take (i := 4) (v := .bool true) rfl (by kernel_rfl) (by kernel_rfl) (by kernel_rfl) (fun _ _ _ h => h) (Or.inl ⟨by rfl, fun wx hx => by simp [go_sem]⟩) hS ?_
        simp only [Act.put, List.getElem_toArray, List.getElem_cons_succ, List.getElem_cons_zero, List.setIfInBounds_toArray, List.set_cons_zero, List.set_cons_succ]
        refine wpAnyH_take (i := 5) (v := .bool true) rfl (by kernel_rfl) (by kernel_rfl) (by kernel_rfl) (fun _ _ _ h => h) (Or.inl ⟨by rfl, fun wx hx => by simp [go_sem]⟩) hS ?_
        simp only [Act.put, List.getElem_toArray, List.getElem_cons_succ, List.getElem_cons_zero, List.setIfInBounds_toArray, List.set_cons_zero, List.set_cons_succ]
        refine wpAnyH_take (i := 6) (v := .pointer (some ⟨g2, 0, none⟩)) rfl (by kernel_rfl) (by kernel_rfl) (by kernel_rfl) (fun _ _ _ h => h) (Or.inl ⟨by rfl, fun wx hx => by simp [go_sem]⟩) hS ?_
        simp only [Act.put, List.getElem_toArray, List.getElem_cons_succ, List.getElem_cons_zero, List.setIfInBounds_toArray, List.set_cons_zero, List.set_cons_succ]
        refine wpAnyH_take (i := 8) (v := .agg (cb r).toArray) rfl (by kernel_rfl) (by kernel_rfl) (by kernel_rfl) (fun _ _ _ h => h) (Or.inl ⟨by rfl, fun wx hx => by exact loadDigest _ gr r HRL.out (Over.blk hx HBRd.out) rfl rfl⟩) hS ?_
        simp only [Act.put, List.getElem_toArray, List.getElem_cons_succ, List.getElem_cons_zero, List.setIfInBounds_toArray, List.set_cons_zero, List.set_cons_succ]
        refine wpAnyH_enter 7 (by kernel_rfl) rfl (by rfl) (f := 13) (args := #[.pointer (some ⟨g2, 0, none⟩)]) (by simp [go_sem]) (HT.out.root _ g2 (putL la x od) hI.kk ht2) ?_
        rintro e y6 ⟨rfl, hb⟩
        rw [HR2.out]
        replace hI := hI.next HT.out hb
        replace ht2 := HT.out.next ht2 hb
        replace hS := hS.more hb
        refine ⟨_, rfl, hS, ?_⟩
        clear hb
        simp only [Act.put, List.getElem_toArray, List.getElem_cons_succ, List.getElem_cons_zero, List.setIfInBounds_toArray, List.set_cons_zero, List.set_cons_succ]
        refine wpAnyH_take (i := 9) (v := .bool true) rfl (by kernel_rfl) (by kernel_rfl) (by kernel_rfl) (fun _ _ _ h => h) (Or.inl ⟨by rfl, fun wx hx => by (have hq := qr wx; simp [go_sem, hq])⟩) hS ?_
        simp only [Act.put, List.getElem_toArray, List.getElem_cons_succ, List.getElem_cons_zero, List.setIfInBounds_toArray, List.set_cons_zero, List.set_cons_succ]
        refine wpAnyH_take (i := 10) (v := .bool true) rfl (by kernel_rfl) (by kernel_rfl) (by kernel_rfl) (fun _ _ _ h => h) (Or.inl ⟨by rfl, fun wx hx => by simp [go_sem]⟩) hS ?_
        simp only [Act.put, List.getElem_toArray, List.getElem_cons_succ, List.getElem_cons_zero, List.setIfInBounds_toArray, List.set_cons_zero, List.set_cons_succ]
        refine wpAnyH_take (i := 11) (v := .bool true) rfl (by kernel_rfl) (by kernel_rfl) (by kernel_rfl) (fun _ _ _ h => h) (Or.inl ⟨by rfl, fun wx hx => by simp [go_sem]⟩) hS ?_
        simp only [Act.put, List.getElem_toArray, List.getElem_cons_succ, List.getElem_cons_zero, List.setIfInBounds_toArray, List.set_cons_zero, List.set_cons_succ]
        refine wpAnyH_take (i := 12) (v := .bool true) rfl (by kernel_rfl) (by kernel_rfl) (by kernel_rfl) (fun _ _ _ h => h) (Or.inl ⟨by rfl, fun wx hx => by simp [go_sem]⟩) hS ?_
        simp only [Act.put, List.getElem_toArray, List.getElem_cons_succ, List.getElem_cons_zero, List.setIfInBounds_toArray, List.set_cons_zero, List.set_cons_succ]
        refine wpAnyH_enter 13 (by kernel_rfl) rfl (by rfl) (f := 10) (args := #[]) (by simp [go_sem]) (trworks_any HT.out _ hI.kk) ?_
        rintro e y6 ⟨rfl, hb⟩
        replace hI := hI.next HT.out hb
        replace ht2 := HT.out.next ht2 hb
        replace hS := hS.more hb
        refine ⟨_, rfl, hS, ?_⟩
        clear hb
        simp only [Act.put, List.getElem_toArray, List.getElem_cons_succ, List.getElem_cons_zero, List.setIfInBounds_toArray, List.set_cons_zero, List.set_cons_succ]
        refine wpAnyH_take (i := 14) (v := .bool true) rfl (by kernel_rfl) (by kernel_rfl) (by kernel_rfl) (fun _ _ _ h => h) (Or.inl ⟨by rfl, fun wx hx => by simp [go_sem]⟩) hS ?_
        simp only [Act.put, List.getElem_toArray, List.getElem_cons_succ, List.getElem_cons_zero, List.setIfInBounds_toArray, List.set_cons_zero, List.set_cons_succ]
        refine wpAnyH_take (i := 15) (v := .bool true) rfl (by kernel_rfl) (by kernel_rfl) (by kernel_rfl) (fun _ _ _ h => h) (Or.inl ⟨by rfl, fun wx hx => by simp [go_sem]⟩) hS ?_
        simp only [Act.put, List.getElem_toArray, List.getElem_cons_succ, List.getElem_cons_zero, List.setIfInBounds_toArray, List.set_cons_zero, List.set_cons_succ]
        refine wpAnyH_done (by kernel_rfl) ?_ _
        have HF : Hid (Below w.heap.size w y6) := hI.bel
        clear hI ht2 hS HBRd qr
        go_wp2
        go_ret
        exact ⟨rfl, HF.out⟩
end Go.Proofs.YtphacinnnepdoaaDoor
/- Trees in memory (layer 7): a tree's cells, and what lies below it. -/
namespace Go.Proofs.YtphacinnnepdoaaDoor
open Go.RowKit
/-- a tree's cells: count, root, index, value, off, on -/
def treeV (c : Nat) (rt ix vl : List (BitVec 8)) (p q : Value) : List Value := .int .i64 (c : Int) :: (cb rt ++ (cb ix ++ (cb vl ++ [p, q])))
structure TreeC (W : World) (g c : Nat) (rt ix vl : List (BitVec 8)) (p q : Value) : Prop where
  blk : Blk W g (treeV c rt ix vl p q) 59
  l1 : rt.length = 32
  l2 : ix.length = 32
  l3 : vl.length = 32
theorem TreeC.below {W W' : World} {g c B : Nat} {rt ix vl : List (BitVec 8)} {p q : Value} (h : TreeC W g c rt ix vl p q) (hb : Below B W W') (hB : g < B) : TreeC W' g c rt ix vl p q := ⟨h.blk.below hb hB, h.l1, h.l2, h.l3⟩
theorem TreeC.next {W W' : World} {g c : Nat} {rt ix vl : List (BitVec 8)} {p q : Value} (h : TreeC W g c rt ix vl p q) (hb : Below W.heap.size W W') : TreeC W' g c rt ix vl p q := h.below hb h.blk.lt
theorem TreeC.drew {W : World} {g c : Nat} {rt ix vl : List (BitVec 8)} {p q : Value} (h : TreeC W g c rt ix vl p q) : TreeC W.drew g c rt ix vl p q := ⟨h.blk.drew, h.l1, h.l2, h.l3⟩
theorem TreeC.cnt {W : World} {g c : Nat} {rt ix vl : List (BitVec 8)} {p q : Value} (h : TreeC W g c rt ix vl p q) : W.cell? ⟨g, 0, none⟩ = some (.int .i64 (c : Int)) := by rw [h.blk.cell]; rfl
theorem TreeC.root {W : World} {g c : Nat} {rt ix vl : List (BitVec 8)} {p q : Value} (h : TreeC W g c rt ix vl p q) : W.rangeAt g 1 (cb rt) := fun j v hv => by
  have hj : j < (cb rt).length := (List.getElem?_eq_some_iff.1 hv).1
  rw [h.blk.cell, treeV, Nat.add_comm, List.getElem?_cons_succ, List.getElem?_append_left hj, hv]
theorem TreeC.index {W : World} {g c : Nat} {rt ix vl : List (BitVec 8)} {p q : Value} (h : TreeC W g c rt ix vl p q) : W.rangeAt g 33 (cb ix) := fun j v hv => by
  have hj : j < (cb ix).length := (List.getElem?_eq_some_iff.1 hv).1
  have e1 : (cb rt).length = 32 := by rw [cb_len, h.l1]
  rw [h.blk.cell, treeV, show 33 + j = (32 + j) + 1 by omega, List.getElem?_cons_succ, List.getElem?_append_right (by omega), e1, Nat.add_sub_cancel_left, List.getElem?_append_left hj, hv]
theorem TreeC.value {W : World} {g c : Nat} {rt ix vl : List (BitVec 8)} {p q : Value} (h : TreeC W g c rt ix vl p q) : W.rangeAt g 65 (cb vl) := fun j v hv => by
  have hj : j < (cb vl).length := (List.getElem?_eq_some_iff.1 hv).1
  have e1 : (cb rt).length = 32 := by rw [cb_len, h.l1]
  have e2 : (cb ix).length = 32 := by rw [cb_len, h.l2]
  rw [h.blk.cell, treeV, show 65 + j = (32 + (32 + j)) + 1 by omega, List.getElem?_cons_succ, List.getElem?_append_right (by omega), e1, Nat.add_sub_cancel_left, List.getElem?_append_right (by omega), e2, Nat.add_sub_cancel_left, List.getElem?_append_left hj, hv]
theorem TreeC.tail {W : World} {g c : Nat} {rt ix vl : List (BitVec 8)} {p q : Value} (h : TreeC W g c rt ix vl p q) (j : Nat) : W.cell? ⟨g, 97 + j, none⟩ = [p, q][j]? := by
  have e1 : (cb rt).length = 32 := by rw [cb_len, h.l1]
  have e2 : (cb ix).length = 32 := by rw [cb_len, h.l2]
  have e3 : (cb vl).length = 32 := by rw [cb_len, h.l3]
  rw [h.blk.cell, treeV, show 97 + j = (32 + (32 + (32 + j))) + 1 by omega, List.getElem?_cons_succ, List.getElem?_append_right (by omega), e1, Nat.add_sub_cancel_left, List.getElem?_append_right (by omega), e2, Nat.add_sub_cancel_left, List.getElem?_append_right (by omega), e3, Nat.add_sub_cancel_left]
theorem TreeC.off {W : World} {g c : Nat} {rt ix vl : List (BitVec 8)} {p q : Value} (h : TreeC W g c rt ix vl p q) : W.cell? ⟨g, 97, none⟩ = some p := h.tail 0
theorem TreeC.on {W : World} {g c : Nat} {rt ix vl : List (BitVec 8)} {p q : Value} (h : TreeC W g c rt ix vl p q) : W.cell? ⟨g, 98, none⟩ = some q := h.tail 1
def ptr (g : Nat) : Value := .pointer (some ⟨g, 0, none⟩)
/-- a tree of the leaves l, that stands below d bits, lies at block g -/
inductive TreeIs (W : World) : Nat → Nat → List Lf → Prop
  | none (d g : Nat) : TreeC W g 0 (dig [69]) zb32 zb32 (.pointer none) (.pointer none) → TreeIs W d g []
  | leaf (d g : Nat) (x v : List (BitVec 8)) : TreeC W g 1 (dig (pairB 76 x v)) x v (.pointer none) (.pointer none) → TreeIs W d g [(x, v)]
  | node (d g g0 g1 : Nat) (l : List Lf) : 2 ≤ l.length → Fits l d → TreeIs W (d + 1) g0 (halfL l d false) → TreeIs W (d + 1) g1 (halfL l d true) → TreeC W g l.length (rootL l d) zb32 zb32 (ptr g0) (ptr g1) → TreeIs W d g l
theorem TreeIs.next {W W' : World} {d g : Nat} {l : List Lf} (h : TreeIs W d g l) (hb : Below W.heap.size W W') : TreeIs W' d g l := by
  induction h with
  | none d g hc => exact .none d g (hc.next hb)
  | leaf d g x v hc => exact .leaf d g x v (hc.next hb)
  | node d g g0 g1 l h2 hf _ _ hc i0 i1 => exact .node d g g0 g1 l h2 hf i0 i1 (hc.next hb)
/-- what a tree's own cells tell -/
theorem TreeIs.cells {W : World} {d g : Nat} {l : List Lf} (h : TreeIs W d g l) : ∃ ix vl p q, TreeC W g l.length (rootL l d) ix vl p q := by
  cases h with
  | none _ _ hc => exact ⟨_, _, _, _, by rw [rootL_nil]; exact hc⟩
  | leaf _ _ x v hc => exact ⟨_, _, _, _, by rw [rootL_one]; exact hc⟩
  | node _ _ g0 g1 _ h2 hf _ _ hc => exact ⟨_, _, _, _, hc⟩
/-- a leaf does not depend on how deep it stands -/
theorem TreeIs.single {W : World} {d d' g : Nat} {p : Lf} (h : TreeIs W d g [p]) : TreeIs W d' g [p] := by
  cases h with
  | leaf _ _ x v hc => exact .leaf d' g x v hc
  | node _ _ g0 g1 _ h2 => simp at h2
/-- a whole tree -/
def TT (W : World) (g : Nat) (l : List Lf) : Prop := TreeIs W 0 g l ∧ okLf l ∧ Up l
theorem TT.next {W W' : World} {g : Nat} {l : List Lf} (h : TT W g l) (hb : Below W.heap.size W W') : TT W' g l := ⟨h.1.next hb, h.2⟩
theorem fits_zero {l : List Lf} (h1 : okLf l) (h2 : Up l) : Fits l 0 := ⟨h1, h2, fun _ _ _ _ j hj => by omega⟩
theorem trLen_any (W : World) (d g : Nat) (l : List Lf) (h : TreeIs W d g l) : Calls Tryd.prog 15 #[.pointer (some ⟨g, 0, none⟩)] W fun e w' => e = .returned (.int .i64 (l.length : Int)) ∧ Below W.heap.size W w' := by
  obtain ⟨ix, vl, p, q, hc⟩ := h.cells
  have c0 := hc.cnt
  clear h hc
  go_enter Tryd.func15, Tryd.ntmps15
  go_wp2
  go_ret
  exact ⟨rfl, Below.refl _ _⟩
end Go.Proofs.YtphacinnnepdoaaDoor
/- The walks of tree.Empty, single and joined. -/
namespace Go.Proofs.YtphacinnnepdoaaDoor
open Go.RowKit
theorem builtE (f : Operand → Value) (o : Oper) (x : Operand) (ho : o.op = .build 59 #[(1, x)]) (rt : List (BitVec 8)) (hl : rt.length = 32) (hx : f x = .agg (cb rt).toArray) (w : World) : (execOp f o).run Tryd.prog w = .ok (.value (.agg (treeV 0 rt zb32 zb32 (.pointer none) (.pointer none)).toArray)) w := by
  unfold execOp
  rw [ho]
  simp only [List.map_toArray, List.map_cons, List.map_nil, hx]
  match rt, hl with
  | [x0, x1, x2, x3, x4, x5, x6, x7, x8, x9, x10, x11, x12, x13, x14, x15, x16, x17, x18, x19, x20, x21, x22, x23, x24, x25, x26, x27, x28, x29, x30, x31], _ =>
    refine id ?_
    show _ = _
    kernel_rfl
theorem builtS (f : Operand → Value) (o : Oper) (x y z : Operand) (ho : o.op = .build 59 #[(0, .const (.int .i64 1)), (1, x), (2, y), (3, z)]) (rt ix vl : List (BitVec 8)) (hl : rt.length = 32) (hl2 : ix.length = 32) (hl3 : vl.length = 32) (hc : f (.const (.int .i64 1)) = .int .i64 1) (hx : f x = .agg (cb rt).toArray) (hy : f y = .agg (cb ix).toArray) (hz : f z = .agg (cb vl).toArray) (w : World) : (execOp f o).run Tryd.prog w = .ok (.value (.agg (treeV 1 rt ix vl (.pointer none) (.pointer none)).toArray)) w := by
  unfold execOp
  rw [ho]
  simp only [List.map_toArray, List.map_cons, List.map_nil, hc, hx, hy, hz]
  match rt, hl, ix, hl2, vl, hl3 with
  | [x0, x1, x2, x3, x4, x5, x6, x7, x8, x9, x10, x11, x12, x13, x14, x15, x16, x17, x18, x19, x20, x21, x22, x23, x24, x25, x26, x27, x28, x29, x30, x31], _, [y0, y1, y2, y3, y4, y5, y6, y7, y8, y9, y10, y11, y12, y13, y14, y15, y16, y17, y18, y19, y20, y21, y22, y23, y24, y25, y26, y27, y28, y29, y30, y31], _, [z0, z1, z2, z3, z4, z5, z6, z7, z8, z9, z10, z11, z12, z13, z14, z15, z16, z17, z18, z19, z20, z21, z22, z23, z24, z25, z26, z27, z28, z29, z30, z31], _ =>
    refine id ?_
    show _ = _
    kernel_rfl
theorem builtJ (f : Operand → Value) (o : Oper) (c x y z : Operand) (ho : o.op = .build 59 #[(0, c), (1, x), (4, y), (5, z)]) (n g0 g1 : Nat) (rt : List (BitVec 8)) (hl : rt.length = 32) (hc : f c = .int .i64 (n : Int)) (hx : f x = .agg (cb rt).toArray) (hy : f y = ptr g0) (hz : f z = ptr g1) (w : World) : (execOp f o).run Tryd.prog w = .ok (.value (.agg (treeV n rt zb32 zb32 (ptr g0) (ptr g1)).toArray)) w := by
  unfold execOp
  rw [ho]
  simp only [List.map_toArray, List.map_cons, List.map_nil, hc, hx, hy, hz]
  match rt, hl with
  | [x0, x1, x2, x3, x4, x5, x6, x7, x8, x9, x10, x11, x12, x13, x14, x15, x16, x17, x18, x19, x20, x21, x22, x23, x24, x25, x26, x27, x28, x29, x30, x31], _ =>
    refine id ?_
    show _ = _
    kernel_rfl
theorem boxTree (f : Operand → Value) (o : Oper) (x : Operand) (ho : o.op = .box 59 x) (cs : List Value) (hx : f x = .agg cs.toArray) (w : World) : (execOp f o).run Tryd.prog w = .ok (.value (.pointer (some ⟨w.heap.size, 0, none⟩))) (w.alloc (.cells cs.toArray 59)) := by
  unfold execOp
  rw [ho]
  simp only [hx]
  rfl
set_option maxRecDepth 100000 in
set_option maxHeartbeats 1000000 in
theorem trEmpty_any (w : World) (hK : KOk w) : Calls Tryd.prog 23 #[] w fun e w' => ∃ g, e = .returned (.pointer (some ⟨g, 0, none⟩)) ∧ TreeC w' g 0 (dig [69]) zb32 zb32 (.pointer none) (.pointer none) ∧ Below w.heap.size w w' := by
  obtain ⟨r, HRD⟩ : ∃ r, Hid (r = dig [69]) := ⟨_, rfl⟩
  have HRL : Hid (r.length = 32) := by show _ = _; rw [HRD.out]; exact len_dig' _
  have HK : Hid (KOk w) := hK
  clear hK
  rw [← HRD.out]
  go_enter Tryd.func23, Tryd.ntmps23
  go_wp2_with (first
    | (go_at_call 38; refine (tEmpty_any _).mono ?_; rintro e w1 ⟨v1, rfl, hr1, hb1⟩
       have HR1 : Hid (Reads w1 v1 [69]) := hr1
       have HBW : Hid (Below w.heap.size w w1) := hb1
       replace HK : Hid (KOk w1) := HK.out.below hb1 HK.out.lt
       clear hr1 hb1)
    | (go_at_call 37; refine (tOf_any v1 _ _ HK.out HR1.out (by decide)).mono ?_; rintro e w2 ⟨rfl, hb1⟩
       rw [← HRD.out]
       replace HBW : Hid (Below w.heap.size w w2) := HBW.out.trans (hb1.mono HBW.out.size)
       clear hb1 HR1 HK)
    | (refine wpSeq_val _ _ (by rfl) (builtE _ _ (.tmp 2) rfl r HRL.out rfl _) ?_)
    | (refine wpSeq_val _ _ (by rfl) (boxTree _ _ (.tmp 3) rfl _ rfl _) ?_
       obtain ⟨w3, HW3⟩ : ∃ z, Hid (z = w2.alloc (.cells (treeV 0 r zb32 zb32 (.pointer none) (.pointer none)).toArray 59)) := ⟨_, rfl⟩
       rw [← HW3.out]))
  go_ret
  refine ⟨w2.heap.size, rfl, ⟨by rw [HW3.out]; exact Blk.new _ _ _, HRL.out, rfl, rfl⟩, by rw [HW3.out]; exact HBW.out.trans ((below_alloc w2 _).mono HBW.out.size)⟩
set_option maxRecDepth 100000 in
set_option maxHeartbeats 2000000 in
theorem trSingle_any (x v : List (BitVec 8)) (hx : x.length = 32) (hv : v.length = 32) (w : World) (hK : KOk w) : Calls Tryd.prog 36 #[.agg (cb x).toArray, .agg (cb v).toArray] w fun e w' => ∃ g, e = .returned (.pointer (some ⟨g, 0, none⟩)) ∧ w.heap.size ≤ g ∧ TreeC w' g 1 (dig (pairB 76 x v)) x v (.pointer none) (.pointer none) ∧ Below w.heap.size w w' := by
  obtain ⟨r, HRD⟩ : ∃ r, Hid (r = dig (pairB 76 x v)) := ⟨_, rfl⟩
  have HRL : Hid (r.length = 32) := by show _ = _; rw [HRD.out]; exact len_dig' _
  have HK : Hid (KOk w) := hK
  have HX : Hid (x.length = 32) := hx
  have HV : Hid (v.length = 32) := hv
  clear hK hx hv
  rw [← HRD.out]
  go_enter Tryd.func36, Tryd.ntmps36
  go_wp2_with (first
    | (with_reducible refine wpSeq_boxD (.tmp 0) x ?_ ?_ ?_ ?_
       · rfl
       · rfl
       · rfl
       intro gx wx nn
       have HBX : Hid (Blk wx gx (cb x) 24) := nn.blk
       have HBW : Hid (Below w.heap.size w wx) := nn.below
       clear nn)
    | (with_reducible refine wpSeq_boxD (.tmp 1) v ?_ ?_ ?_ ?_
       · rfl
       · rfl
       · rfl
       intro gv wv nn
       replace HBX : Hid (Blk wv gx (cb x) 24) := HBX.out.below nn.below HBX.out.lt
       have HBV : Hid (Blk wv gv (cb v) 24) := nn.blk
       replace HBW : Hid (Below w.heap.size w wv) := HBW.out.trans (nn.below.mono HBW.out.size)
       clear nn))
  replace HK : Hid (KOk wv.drew) := (HK.out.below HBW.out HK.out.lt : KOk wv)
  refine wp_region_held_drew (S := Over wv.drew) (by kernel_rfl) (Over.refl _) ?_
  intro hS
  refine wpAnyH_take (i := 0) (v := .agg (cb x).toArray) rfl (by kernel_rfl) (by kernel_rfl) (by kernel_rfl) (fun _ _ _ h => h) (Or.inl ⟨by rfl, fun wx hx => by exact loadDigest _ gx x HX.out (Over.blk hx HBX.out.drew) rfl rfl⟩) hS ?_
  simp only [Act.put, List.getElem_toArray, List.getElem_cons_zero, List.setIfInBounds_toArray, List.set_cons_zero, List.set_cons_succ]
  refine wpAnyH_take (i := 1) (v := .agg (cb v).toArray) rfl (by kernel_rfl) (by kernel_rfl) (by kernel_rfl) (fun _ _ _ h => h) (Or.inl ⟨by rfl, fun wx hx => by exact loadDigest _ gv v HV.out (Over.blk hx HBV.out.drew) rfl rfl⟩) hS ?_
  simp only [Act.put, List.getElem_toArray, List.getElem_cons_succ, List.getElem_cons_zero, List.setIfInBounds_toArray, List.set_cons_zero, List.set_cons_succ]
  refine wpAnyH_take (i := 4) (v := .agg (cb x).toArray) rfl (by kernel_rfl) (by kernel_rfl) (by kernel_rfl) (fun _ _ _ h => h) (Or.inl ⟨by rfl, fun wx hx => by exact loadDigest _ gx x HX.out (Over.blk hx HBX.out.drew) rfl rfl⟩) hS ?_
  simp only [Act.put, List.getElem_toArray, List.getElem_cons_succ, List.getElem_cons_zero, List.setIfInBounds_toArray, List.set_cons_zero, List.set_cons_succ]
  refine wpAnyH_take (i := 5) (v := .agg (cb v).toArray) rfl (by kernel_rfl) (by kernel_rfl) (by kernel_rfl) (fun _ _ _ h => h) (Or.inl ⟨by rfl, fun wx hx => by exact loadDigest _ gv v HV.out (Over.blk hx HBV.out.drew) rfl rfl⟩) hS ?_
  simp only [Act.put, List.getElem_toArray, List.getElem_cons_succ, List.getElem_cons_zero, List.setIfInBounds_toArray, List.set_cons_zero, List.set_cons_succ]
  refine wpAnyH_enter 2 (by kernel_rfl) rfl (by rfl) (f := 55) (args := #[.agg (cb x).toArray, .agg (cb v).toArray]) (by simp [go_sem]) (tLeaf_any x v HX.out HV.out _) ?_
  rintro e wy ⟨v7, rfl, hr7, hbq⟩
  refine ⟨_, rfl, hS.more hbq, ?_⟩
  replace hS := hS.more hbq
  clear hbq
  generalize HVV : v7 = vv at *
  clear HVV
  simp only [Act.put, List.getElem_toArray, List.getElem_cons_succ, List.getElem_cons_zero, List.setIfInBounds_toArray, List.set_cons_zero, List.set_cons_succ]
  refine wpAnyH_enter 3 (by kernel_rfl) rfl (by rfl) (f := 37) (args := #[vv]) (by simp [go_sem]) (tOf_any vv _ _ (HK.out.below hS.out HK.out.lt) hr7 (by have h1 := HX.out; have h2 := HV.out; simp [pairB]; omega)) ?_
  rintro e wz ⟨rfl, hbq⟩
  have HGE : Hid (w.heap.size ≤ wz.heap.size) := Nat.le_trans HBW.out.size (hS.more hbq).out.size
  refine ⟨_, rfl, hS.more hbq, ?_⟩
  replace hS := hS.more hbq
  clear hbq hr7
  rw [← HRD.out]
  simp only [Act.put, List.getElem_toArray, List.getElem_cons_succ, List.getElem_cons_zero, List.setIfInBounds_toArray, List.set_cons_zero, List.set_cons_succ]
  refine wpAnyH_take (i := 6) (v := .agg (treeV 1 r x v (.pointer none) (.pointer none)).toArray) rfl (by kernel_rfl) (by kernel_rfl) (by kernel_rfl) (fun _ _ _ h => h) (Or.inl ⟨by rfl, fun wx hx => by exact builtS _ _ (.tmp 8) (.tmp 9) (.tmp 10) rfl r x v HRL.out HX.out HV.out rfl rfl rfl rfl _⟩) hS ?_
  simp only [Act.put, List.getElem_toArray, List.getElem_cons_succ, List.getElem_cons_zero, List.setIfInBounds_toArray, List.set_cons_zero, List.set_cons_succ]
  refine wpAnyH_step 7 (.pointer (some ⟨wz.heap.size, 0, none⟩)) (wz.alloc (.cells (treeV 1 r x v (.pointer none) (.pointer none)).toArray 59)) (by kernel_rfl) rfl (by rfl) (boxTree _ _ (.tmp 11) rfl _ rfl _) (hS.more (below_alloc _ _)) ?_
  simp only [Act.put, List.getElem_toArray, List.getElem_cons_succ, List.getElem_cons_zero, List.setIfInBounds_toArray, List.set_cons_zero, List.set_cons_succ]
  replace hS := hS.more (below_alloc wz (.cells (treeV 1 r x v (.pointer none) (.pointer none)).toArray 59))
  have HBN : Hid (Blk (wz.alloc (.cells (treeV 1 r x v (.pointer none) (.pointer none)).toArray 59)) wz.heap.size (treeV 1 r x v (.pointer none) (.pointer none)) 59) := Blk.new _ _ _
  generalize wz.alloc (.cells (treeV 1 r x v (.pointer none) (.pointer none)).toArray 59) = wn at *
  refine wpAnyH_take (i := 8) (v := .pointer (some ⟨wz.heap.size, 0, none⟩)) rfl (by kernel_rfl) (by kernel_rfl) (by kernel_rfl) (fun _ _ _ h => h) (Or.inl ⟨by rfl, fun wx hx => by simp [go_sem]⟩) hS ?_
  simp only [Act.put, List.getElem_toArray, List.getElem_cons_succ, List.getElem_cons_zero, List.setIfInBounds_toArray, List.set_cons_zero, List.set_cons_succ]
  refine wpAnyH_done (by kernel_rfl) ?_ _
  go_wp2
  go_ret
  exact ⟨wz.heap.size, rfl, HGE.out, ⟨HBN.out, HRL.out, HX.out, HV.out⟩, hS.after HBW.out.drew⟩
set_option maxRecDepth 100000 in
set_option maxHeartbeats 4000000 in
theorem trJoined_any (g0 g1 n0 n1 : Nat) (r0 r1 ix0 vl0 ix1 vl1 : List (BitVec 8)) (p0 q0 p1 q1 : Value) (w : World) (hK : KOk w) (h0 : TreeC w g0 n0 r0 ix0 vl0 p0 q0) (h1 : TreeC w g1 n1 r1 ix1 vl1 p1 q1) (hn : n0 + n1 < 1000000) : Calls Tryd.prog 45 #[.pointer (some ⟨g0, 0, none⟩), .pointer (some ⟨g1, 0, none⟩)] w fun e w' => ∃ g, e = .returned (.pointer (some ⟨g, 0, none⟩)) ∧ TreeC w' g (n0 + n1) (dig (pairB 78 r0 r1)) zb32 zb32 (ptr g0) (ptr g1) ∧ Below w.heap.size w w' := by
  obtain ⟨r, HRD⟩ : ∃ r, Hid (r = dig (pairB 78 r0 r1)) := ⟨_, rfl⟩
  have HRL : Hid (r.length = 32) := by show _ = _; rw [HRD.out]; exact len_dig' _
  have HK : Hid (KOk w.drew) := hK
  have H0 : Hid (TreeC w g0 n0 r0 ix0 vl0 p0 q0) := h0
  have H1 : Hid (TreeC w g1 n1 r1 ix1 vl1 p1 q1) := h1
  have HL0 : Hid (r0.length = 32) := h0.l1
  have HL1 : Hid (r1.length = 32) := h1.l1
  have rn : IntKind.i64.wrap ((n0 : Int) + (n1 : Int)) = (n0 : Int) + (n1 : Int) := by rw [IntKind.wrap_i64]; omega
  clear hK h0 h1
  rw [← HRD.out]
  go_enter Tryd.func45, Tryd.ntmps45
  go_wp2_with fail
  refine wp_region_held_drew (S := Over w.drew) (by kernel_rfl) (Over.refl _) ?_
  intro hS
  refine wpAnyH_take (i := 0) (v := .pointer (some ⟨g0, 0, none⟩)) rfl (by kernel_rfl) (by kernel_rfl) (by kernel_rfl) (fun _ _ _ h => h) (Or.inl ⟨by rfl, fun wx hx => by simp [go_sem]⟩) hS ?_
  simp only [Act.put, List.getElem_toArray, List.getElem_cons_zero, List.setIfInBounds_toArray, List.set_cons_zero, List.set_cons_succ]
  refine wpAnyH_take (i := 1) (v := .pointer (some ⟨g0, 0, none⟩)) rfl (by kernel_rfl) (by kernel_rfl) (by kernel_rfl) (fun _ _ _ h => h) (Or.inl ⟨by rfl, fun wx hx => by simp [go_sem]⟩) hS ?_
  simp only [Act.put, List.getElem_toArray, List.getElem_cons_succ, List.getElem_cons_zero, List.setIfInBounds_toArray, List.set_cons_zero, List.set_cons_succ]
  refine wpAnyH_take (i := 2) (v := .pointer (some ⟨g0, 0, none⟩)) rfl (by kernel_rfl) (by kernel_rfl) (by kernel_rfl) (fun _ _ _ h => h) (Or.inl ⟨by rfl, fun wx hx => by simp [go_sem]⟩) hS ?_
  simp only [Act.put, List.getElem_toArray, List.getElem_cons_succ, List.getElem_cons_zero, List.setIfInBounds_toArray, List.set_cons_zero, List.set_cons_succ]
  refine wpAnyH_take (i := 3) (v := .int .i64 (n0 : Int)) rfl (by kernel_rfl) (by kernel_rfl) (by kernel_rfl) (fun _ _ _ h => h) (Or.inl ⟨by rfl, fun wx hx => by (have hc := (H0.out.drew.below hx.out H0.out.blk.lt).cnt; simp [go_sem, hc])⟩) hS ?_
  simp only [Act.put, List.getElem_toArray, List.getElem_cons_succ, List.getElem_cons_zero, List.setIfInBounds_toArray, List.set_cons_zero, List.set_cons_succ]
  refine wpAnyH_take (i := 4) (v := .pointer (some ⟨g1, 0, none⟩)) rfl (by kernel_rfl) (by kernel_rfl) (by kernel_rfl) (fun _ _ _ h => h) (Or.inl ⟨by rfl, fun wx hx => by simp [go_sem]⟩) hS ?_
  simp only [Act.put, List.getElem_toArray, List.getElem_cons_succ, List.getElem_cons_zero, List.setIfInBounds_toArray, List.set_cons_zero, List.set_cons_succ]
  refine wpAnyH_take (i := 5) (v := .pointer (some ⟨g1, 0, none⟩)) rfl (by kernel_rfl) (by kernel_rfl) (by kernel_rfl) (fun _ _ _ h => h) (Or.inl ⟨by rfl, fun wx hx => by simp [go_sem]⟩) hS ?_
  simp only [Act.put, List.getElem_toArray, List.getElem_cons_succ, List.getElem_cons_zero, List.setIfInBounds_toArray, List.set_cons_zero, List.set_cons_succ]
  refine wpAnyH_take (i := 6) (v := .pointer (some ⟨g1, 0, none⟩)) rfl (by kernel_rfl) (by kernel_rfl) (by kernel_rfl) (fun _ _ _ h => h) (Or.inl ⟨by rfl, fun wx hx => by simp [go_sem]⟩) hS ?_
  simp only [Act.put, List.getElem_toArray, List.getElem_cons_succ, List.getElem_cons_zero, List.setIfInBounds_toArray, List.set_cons_zero, List.set_cons_succ]
  refine wpAnyH_take (i := 7) (v := .int .i64 (n1 : Int)) rfl (by kernel_rfl) (by kernel_rfl) (by kernel_rfl) (fun _ _ _ h => h) (Or.inl ⟨by rfl, fun wx hx => by (have hc := (H1.out.drew.below hx.out H1.out.blk.lt).cnt; simp [go_sem, hc])⟩) hS ?_
  simp only [Act.put, List.getElem_toArray, List.getElem_cons_succ, List.getElem_cons_zero, List.setIfInBounds_toArray, List.set_cons_zero, List.set_cons_succ]
  refine wpAnyH_take (i := 8) (v := .int .i64 ((n0 + n1 : Nat) : Int)) rfl (by kernel_rfl) (by kernel_rfl) (by kernel_rfl) (fun _ _ _ h => h) (Or.inl ⟨by rfl, fun wx hx => by simp [go_sem, rn]⟩) hS ?_
  simp only [Act.put, List.getElem_toArray, List.getElem_cons_succ, List.getElem_cons_zero, List.setIfInBounds_toArray, List.set_cons_zero, List.set_cons_succ]
  refine wpAnyH_take (i := 9) (v := .pointer (some ⟨g0, 0, none⟩)) rfl (by kernel_rfl) (by kernel_rfl) (by kernel_rfl) (fun _ _ _ h => h) (Or.inl ⟨by rfl, fun wx hx => by simp [go_sem]⟩) hS ?_
  simp only [Act.put, List.getElem_toArray, List.getElem_cons_succ, List.getElem_cons_zero, List.setIfInBounds_toArray, List.set_cons_zero, List.set_cons_succ]
  refine wpAnyH_take (i := 10) (v := .pointer (some ⟨g0, 0, none⟩)) rfl (by kernel_rfl) (by kernel_rfl) (by kernel_rfl) (fun _ _ _ h => h) (Or.inl ⟨by rfl, fun wx hx => by simp [go_sem]⟩) hS ?_
  simp only [Act.put, List.getElem_toArray, List.getElem_cons_succ, List.getElem_cons_zero, List.setIfInBounds_toArray, List.set_cons_zero, List.set_cons_succ]
  refine wpAnyH_take (i := 11) (v := .pointer (some ⟨g0, 1, none⟩)) rfl (by kernel_rfl) (by kernel_rfl) (by kernel_rfl) (fun _ _ _ h => h) (Or.inl ⟨by rfl, fun wx hx => by simp [go_sem]⟩) hS ?_
  simp only [Act.put, List.getElem_toArray, List.getElem_cons_succ, List.getElem_cons_zero, List.setIfInBounds_toArray, List.set_cons_zero, List.set_cons_succ]
  refine wpAnyH_take (i := 12) (v := .agg (cb r0).toArray) rfl (by kernel_rfl) (by kernel_rfl) (by kernel_rfl) (fun _ _ _ h => h) (Or.inl ⟨by rfl, fun wx hx => by exact load_run 24 _ rfl _ _ rfl (cb r0) _ ((H0.out.drew.below hx.out H0.out.blk.lt).root) Tryd.underlying24 rfl (by rw [cb_len, HL0.out]; exact info_digest)⟩) hS ?_
  simp only [Act.put, List.getElem_toArray, List.getElem_cons_succ, List.getElem_cons_zero, List.setIfInBounds_toArray, List.set_cons_zero, List.set_cons_succ]
  refine wpAnyH_take (i := 13) (v := .pointer (some ⟨g1, 0, none⟩)) rfl (by kernel_rfl) (by kernel_rfl) (by kernel_rfl) (fun _ _ _ h => h) (Or.inl ⟨by rfl, fun wx hx => by simp [go_sem]⟩) hS ?_
  simp only [Act.put, List.getElem_toArray, List.getElem_cons_succ, List.getElem_cons_zero, List.setIfInBounds_toArray, List.set_cons_zero, List.set_cons_succ]
  refine wpAnyH_take (i := 14) (v := .pointer (some ⟨g1, 0, none⟩)) rfl (by kernel_rfl) (by kernel_rfl) (by kernel_rfl) (fun _ _ _ h => h) (Or.inl ⟨by rfl, fun wx hx => by simp [go_sem]⟩) hS ?_
  simp only [Act.put, List.getElem_toArray, List.getElem_cons_succ, List.getElem_cons_zero, List.setIfInBounds_toArray, List.set_cons_zero, List.set_cons_succ]
  refine wpAnyH_take (i := 15) (v := .pointer (some ⟨g1, 1, none⟩)) rfl (by kernel_rfl) (by kernel_rfl) (by kernel_rfl) (fun _ _ _ h => h) (Or.inl ⟨by rfl, fun wx hx => by simp [go_sem]⟩) hS ?_
  simp only [Act.put, List.getElem_toArray, List.getElem_cons_succ, List.getElem_cons_zero, List.setIfInBounds_toArray, List.set_cons_zero, List.set_cons_succ]
  refine wpAnyH_take (i := 16) (v := .agg (cb r1).toArray) rfl (by kernel_rfl) (by kernel_rfl) (by kernel_rfl) (fun _ _ _ h => h) (Or.inl ⟨by rfl, fun wx hx => by exact load_run 24 _ rfl _ _ rfl (cb r1) _ ((H1.out.drew.below hx.out H1.out.blk.lt).root) Tryd.underlying24 rfl (by rw [cb_len, HL1.out]; exact info_digest)⟩) hS ?_
  simp only [Act.put, List.getElem_toArray, List.getElem_cons_succ, List.getElem_cons_zero, List.setIfInBounds_toArray, List.set_cons_zero, List.set_cons_succ]
  refine wpAnyH_take (i := 19) (v := .pointer (some ⟨g0, 0, none⟩)) rfl (by kernel_rfl) (by kernel_rfl) (by kernel_rfl) (fun _ _ _ h => h) (Or.inl ⟨by rfl, fun wx hx => by simp [go_sem]⟩) hS ?_
  simp only [Act.put, List.getElem_toArray, List.getElem_cons_succ, List.getElem_cons_zero, List.setIfInBounds_toArray, List.set_cons_zero, List.set_cons_succ]
  refine wpAnyH_take (i := 20) (v := .pointer (some ⟨g1, 0, none⟩)) rfl (by kernel_rfl) (by kernel_rfl) (by kernel_rfl) (fun _ _ _ h => h) (Or.inl ⟨by rfl, fun wx hx => by simp [go_sem]⟩) hS ?_
  simp only [Act.put, List.getElem_toArray, List.getElem_cons_succ, List.getElem_cons_zero, List.setIfInBounds_toArray, List.set_cons_zero, List.set_cons_succ]
  refine wpAnyH_enter 17 (by kernel_rfl) rfl (by rfl) (f := 62) (args := #[.agg (cb r0).toArray, .agg (cb r1).toArray]) (by simp [go_sem]) (tNode_any r0 r1 HL0.out HL1.out _) ?_
  rintro e wy ⟨v7, rfl, hr7, hbq⟩
  refine ⟨_, rfl, hS.more hbq, ?_⟩
  replace hS := hS.more hbq
  clear hbq
  generalize HVV : v7 = vv at *
  clear HVV
  simp only [Act.put, List.getElem_toArray, List.getElem_cons_succ, List.getElem_cons_zero, List.setIfInBounds_toArray, List.set_cons_zero, List.set_cons_succ]
  refine wpAnyH_enter 18 (by kernel_rfl) rfl (by rfl) (f := 37) (args := #[vv]) (by simp [go_sem]) (tOf_any vv _ _ (HK.out.below hS.out HK.out.lt) hr7 (by have h1 := HL0.out; have h2 := HL1.out; simp [pairB]; omega)) ?_
  rintro e wz ⟨rfl, hbq⟩
  refine ⟨_, rfl, hS.more hbq, ?_⟩
  replace hS := hS.more hbq
  clear hbq hr7
  rw [← HRD.out]
  simp only [Act.put, List.getElem_toArray, List.getElem_cons_succ, List.getElem_cons_zero, List.setIfInBounds_toArray, List.set_cons_zero, List.set_cons_succ]
  refine wpAnyH_take (i := 21) (v := .agg (treeV (n0 + n1) r zb32 zb32 (ptr g0) (ptr g1)).toArray) rfl (by kernel_rfl) (by kernel_rfl) (by kernel_rfl) (fun _ _ _ h => h) (Or.inl ⟨by rfl, fun wx hx => by exact builtJ _ _ (.tmp 13) (.tmp 23) (.tmp 24) (.tmp 25) rfl (n0 + n1) g0 g1 r HRL.out rfl rfl rfl rfl _⟩) hS ?_
  simp only [Act.put, List.getElem_toArray, List.getElem_cons_succ, List.getElem_cons_zero, List.setIfInBounds_toArray, List.set_cons_zero, List.set_cons_succ]
  refine wpAnyH_step 22 (.pointer (some ⟨wz.heap.size, 0, none⟩)) (wz.alloc (.cells (treeV (n0 + n1) r zb32 zb32 (ptr g0) (ptr g1)).toArray 59)) (by kernel_rfl) rfl (by rfl) (boxTree _ _ (.tmp 26) rfl _ rfl _) (hS.more (below_alloc _ _)) ?_
  simp only [Act.put, List.getElem_toArray, List.getElem_cons_succ, List.getElem_cons_zero, List.setIfInBounds_toArray, List.set_cons_zero, List.set_cons_succ]
  replace hS := hS.more (below_alloc wz (.cells (treeV (n0 + n1) r zb32 zb32 (ptr g0) (ptr g1)).toArray 59))
  have HBN : Hid (Blk (wz.alloc (.cells (treeV (n0 + n1) r zb32 zb32 (ptr g0) (ptr g1)).toArray 59)) wz.heap.size (treeV (n0 + n1) r zb32 zb32 (ptr g0) (ptr g1)) 59) := Blk.new _ _ _
  generalize wz.alloc (.cells (treeV (n0 + n1) r zb32 zb32 (ptr g0) (ptr g1)).toArray 59) = wn at *
  refine wpAnyH_take (i := 23) (v := .pointer (some ⟨wz.heap.size, 0, none⟩)) rfl (by kernel_rfl) (by kernel_rfl) (by kernel_rfl) (fun _ _ _ h => h) (Or.inl ⟨by rfl, fun wx hx => by simp [go_sem]⟩) hS ?_
  simp only [Act.put, List.getElem_toArray, List.getElem_cons_succ, List.getElem_cons_zero, List.setIfInBounds_toArray, List.set_cons_zero, List.set_cons_succ]
  refine wpAnyH_done (by kernel_rfl) ?_ _
  go_wp2
  go_ret
  exact ⟨wz.heap.size, rfl, ⟨HBN.out, HRL.out, rfl, rfl⟩, hS.after (Below.refl _ w).drew⟩
end Go.Proofs.YtphacinnnepdoaaDoor
/- The walks of tree's Root, sides and Get. -/
namespace Go.Proofs.YtphacinnnepdoaaDoor
open Go.RowKit
theorem below_drewN {B : Nat} {w w' : World} (h : Below B w w') (n : Nat) : Below B w (w'.drewN n) := ⟨h.os, h.tape, h.output, h.size, h.block⟩
theorem RETD {w w' W9 : World} {gr : Nat} {r : List (BitVec 8)} (h9 : SetB r w' gr W9) (hg : w.heap.size ≤ gr) (hb : Below w.heap.size w w') : Below w.heap.size w W9 := hb.trans (h9.only.below hg hb.size)
set_option maxRecDepth 100000 in
set_option maxHeartbeats 2000000 in
theorem trRoot_any (w : World) (d g : Nat) (l : List Lf) (hK : KOk w) (h : TreeIs w d g l) (hF : Fits l d) : Calls Tryd.prog 13 #[.pointer (some ⟨g, 0, none⟩)] w fun e w' => e = .returned (.agg (cb (rootL l d)).toArray) ∧ Below w.heap.size w w' := by
  obtain ⟨r, HRD⟩ : ∃ r, Hid (r = rootL l d) := ⟨_, rfl⟩
  have HRL : Hid (r.length = 32) := by show _ = _; rw [HRD.out]; exact rootL_len hF
  obtain ⟨ix, vl, p, q, hc⟩ := h.cells
  rw [← HRD.out] at hc ⊢
  have HC : Hid (TreeC w g l.length r ix vl p q) := hc
  have HK : Hid (KOk w) := hK
  obtain ⟨n, HN⟩ : ∃ n, Hid (n = l.length) := ⟨_, rfl⟩
  rw [← HN.out] at HC
  have HE : Hid (n = 0 → r = dig [69]) := fun e => by
    have : l = [] := List.length_eq_zero_iff.1 (by rw [← HN.out, e])
    rw [HRD.out, this, rootL_nil]
  clear h hF hc hK
  go_enter Tryd.func13, Tryd.ntmps13
  go_upto_region 1 with (first
    | (with_reducible refine wpSeq_allocD ?_ ?_ ?_
       · rfl
       · rfl
       intro gr wa nn
       have HGR : Hid (w.heap.size ≤ gr) := nn.ge
       have HB : Hid (Blk wa gr (cb zb32) 24) := nn.blk
       have HBW : Hid (Below w.heap.size w wa) := nn.below
       replace HC : Hid (TreeC wa g n r ix vl p q) := HC.out.next nn.below
       replace HK : Hid (KOk wa) := HK.out.below nn.below HK.out.lt
       clear nn))
  have c0 := HC.out.cnt
  by_cases hz : n = 0
  · subst hz
    have HRE := HE.out rfl
    clear HE
    go_wp2_with (first
      | (go_at_call 23; refine (trEmpty_any _ HK.out).mono ?_; rintro e wb ⟨ge, rfl, hce, hb⟩
         rw [← HRE] at hce
         have HCE : Hid (TreeC wb ge 0 r zb32 zb32 (.pointer none) (.pointer none)) := hce
         replace HB : Hid (Blk wb gr (cb zb32) 24) := HB.out.below hb HB.out.lt
         replace HBW : Hid (Below w.heap.size w wb) := HBW.out.trans (hb.mono HBW.out.size)
         clear hce hb c0 HRE)
      | (with_reducible refine wpSeq_loadAt (.tmp 10) ge 1 r ?_ ?_ ?_ ?_ ?_ ?_
         · exact HRL.out
         · exact HCE.out.root
         · with_reducible rfl
         · rfl
         · rfl)
      | (with_reducible refine wpSeq_storeD (.tmp 2) (.tmp 11) gr zb32 r ?_ ?_ ?_ ?_ ?_ ?_ ?_ ?_
         · rfl
         · exact HRL.out
         · exact HB.out
         · rfl
         · rfl
         · rfl
         · rfl
         intro W9 h9))
    exact bodyPost_ret (v := .agg (cb r).toArray) (results_cell_row (by rfl) _ _ gr 24 _ (0, 0) _ rfl h9.blk Tryd.underlying24 rfl (by rw [List.size_toArray, cb_len, HRL.out]; exact info_digest)) rfl ⟨rfl, RETD h9 HGR.out HBW.out⟩
  · have hz' : ¬ ((n : Int) = 0) := by omega
    have hz2 : ((n : Int) == 0) = false := by rw [beq_eq_false_iff_ne]; exact hz'
    clear HE HK
    go_wp2_with (first
      | (with_reducible refine wpSeq_loadAt (.tmp 14) g 1 r ?_ ?_ ?_ ?_ ?_ ?_
         · exact HRL.out
         · exact HC.out.root
         · with_reducible rfl
         · rfl
         · rfl)
      | (with_reducible refine wpSeq_storeD (.tmp 2) (.tmp 15) gr zb32 r ?_ ?_ ?_ ?_ ?_ ?_ ?_ ?_
         · rfl
         · exact HRL.out
         · exact HB.out
         · rfl
         · rfl
         · rfl
         · rfl
         intro W9 h9))
    exact bodyPost_ret (v := .agg (cb r).toArray) (results_cell_row (by rfl) _ _ gr 24 _ (0, 0) _ rfl h9.blk Tryd.underlying24 rfl (by rw [List.size_toArray, cb_len, HRL.out]; exact info_digest)) rfl ⟨rfl, RETD h9 HGR.out HBW.out⟩
set_option maxRecDepth 100000 in
set_option maxHeartbeats 2000000 in
theorem trSides_any (w : World) (g c g0 g1 dd : Nat) (rt ix vl x : List (BitVec 8)) (hc : TreeC w g c rt ix vl (ptr g0) (ptr g1)) (hx : x.length = 32) (hd : dd < 256) : Calls Tryd.prog 31 #[.pointer (some ⟨g, 0, none⟩), .agg (cb x).toArray, .int .i64 (dd : Int)] w fun e w' => e = .returned (.tuple #[bif bt x dd then ptr g1 else ptr g0, bif bt x dd then ptr g0 else ptr g1]) ∧ Below w.heap.size w w' := by
  have HC : Hid (TreeC w g c rt ix vl (ptr g0) (ptr g1)) := hc
  have HX : Hid (x.length = 32) := hx
  obtain ⟨b, HB⟩ : ∃ b, Hid (b = bt x dd) := ⟨_, rfl⟩
  have HBB : Hid (bitI x (dd : Int) = b) := by show _ = _; rw [bitI_nat x dd hd, HB.out]
  rw [← HB.out]
  clear hc hx
  go_enter Tryd.func31, Tryd.ntmps31
  go_upto_if 10 with (first
    | (with_reducible refine wpSeq_boxD (.tmp 1) x ?_ ?_ ?_ ?_
       · rfl
       · rfl
       · rfl
       intro gx wx nn
       have HBX : Hid (Blk wx gx (cb x) 24) := nn.blk
       have HBW : Hid (Below w.heap.size w wx) := nn.below
       replace HC : Hid (TreeC wx g c rt ix vl (ptr g0) (ptr g1)) := HC.out.next nn.below
       clear nn)
    | (with_reducible refine wpSeq_loadD (.tmp 4) gx x ?_ ?_ ?_ ?_ ?_ ?_
       · exact HX.out
       · exact HBX.out
       · rfl
       · rfl
       · rfl)
    | (go_at_call 44; refine (pBit_any x HX.out _ _).mono ?_; rintro e w2 ⟨rfl, hb⟩; rw [HBB.out]
       replace HBW : Hid (Below w.heap.size w w2) := HBW.out.trans (hb.mono HBW.out.size)
       replace HC : Hid (TreeC w2 g c rt ix vl (ptr g0) (ptr g1)) := HC.out.next hb
       clear hb HBX))
  have c97 : w2.cell? ⟨g, 97, none⟩ = some (.pointer (some ⟨g0, 0, none⟩)) := HC.out.off
  have c98 : w2.cell? ⟨g, 98, none⟩ = some (.pointer (some ⟨g1, 0, none⟩)) := HC.out.on
  clear HC HB HBB
  cases b with
  | true =>
    go_wp2_with fail
    go_quiet (fail)
    go_wp2_with fail
    go_ret2
    exact ⟨rfl, below_drewN HBW.out _⟩
  | false =>
    go_wp2_with fail
    go_quiet (fail)
    go_wp2_with fail
    go_ret2
    exact ⟨rfl, below_drewN HBW.out _⟩
/-- where Get stands -/
structure Gt (w : World) (x : List (BitVec 8)) (gx gr : Nat) (l0 : List Lf) (d g : Nat) (l : List Lf) (W : World) : Prop where
  le : d ≤ 256
  tree : TreeIs W d g l
  fit : Fits l d
  eq : getL l x = getL l0 x
  xb : Blk W gx (cb x) 24
  rb : Blk W gr (cb zb32) 24
  ge : w.heap.size ≤ gr
  bel : Below w.heap.size w W
theorem Gt.next {w W W' : World} {x : List (BitVec 8)} {gx gr d g : Nat} {l0 l : List Lf} (h : Gt w x gx gr l0 d g l W) (hb : Below W.heap.size W W') : Gt w x gx gr l0 d g l W' :=
  ⟨h.le, h.tree.next hb, h.fit, h.eq, h.xb.below hb h.xb.lt, h.rb.below hb h.rb.lt, h.ge, h.bel.trans (hb.mono h.bel.size)⟩
theorem Gt.down {w W : World} {x : List (BitVec 8)} {gx gr d g g2 : Nat} {l0 l : List Lf} (h : Gt w x gx gr l0 d g l W) (h2 : 2 ≤ l.length) (ht : TreeIs W (d + 1) g2 (halfL l d (bt x d))) : Gt w x gx gr l0 (d + 1) g2 (halfL l d (bt x d)) W :=
  ⟨h.fit.lt h2, ht, h.fit.half _, by rw [getL_half, h.eq], h.xb, h.rb, h.ge, h.bel⟩
/-- a tree of two leaves or more -/
theorem TreeIs.two {W : World} {d g : Nat} {l : List Lf} (h : TreeIs W d g l) (h2 : 2 ≤ l.length) : ∃ g0 g1, TreeIs W (d + 1) g0 (halfL l d false) ∧ TreeIs W (d + 1) g1 (halfL l d true) ∧ TreeC W g l.length (rootL l d) zb32 zb32 (ptr g0) (ptr g1) := by
  cases h with
  | none _ _ _ => simp at h2
  | leaf _ _ _ _ _ => simp at h2
  | node _ _ g0 g1 _ _ _ h0 h1 hc => exact ⟨g0, g1, h0, h1, hc⟩
theorem TreeIs.one {W : World} {d g : Nat} {p : Lf} (h : TreeIs W d g [p]) : TreeC W g 1 (dig (pairB 76 p.1 p.2)) p.1 p.2 (.pointer Option.none) (.pointer Option.none) := by
  cases h with
  | leaf _ _ x v hc => exact hc
  | node _ _ g0 g1 _ h2 => simp at h2
theorem TreeIs.nil {W : World} {d g : Nat} (h : TreeIs W d g []) : TreeC W g 0 (dig [69]) zb32 zb32 (.pointer Option.none) (.pointer Option.none) := by
  cases h with
  | none _ _ hc => exact hc
  | node _ _ g0 g1 _ h2 => simp at h2
set_option maxRecDepth 100000 in
set_option maxHeartbeats 4000000 in
theorem trGet_any (w : World) (g : Nat) (l : List Lf) (x : List (BitVec 8)) (h : TreeIs w 0 g l) (hF : Fits l 0) (hx : x.length = 32) : Calls Tryd.prog 16 #[.pointer (some ⟨g, 0, none⟩), .agg (cb x).toArray] w fun e w' => e = .returned (.tuple #[.agg (cb ((getL l x).getD zb32)).toArray, .bool (getL l x).isSome]) ∧ Below w.heap.size w w' := by
  have HX : Hid (x.length = 32) := hx
  have HT : Hid (TreeIs w 0 g l) := h
  have HFI : Hid (Fits l 0) := hF
  clear h hF hx
  go_enter Tryd.func16, Tryd.ntmps16
  go_wp2_with (first
    | (with_reducible refine wpSeq_boxD (.tmp 1) x ?_ ?_ ?_ ?_
       · rfl
       · rfl
       · rfl
       intro gx wx nn
       have HBX : Hid (Blk wx gx (cb x) 24) := nn.blk
       have HBW : Hid (Below w.heap.size w wx) := nn.below
       clear nn)
    | (with_reducible refine wpSeq_allocD ?_ ?_ ?_
       · rfl
       · rfl
       intro gr wa nn
       have HGT : Hid (Gt w x gx gr l 0 g l wa) := ⟨by omega, (HT.out.next HBW.out).next nn.below, HFI.out, rfl, HBX.out.below nn.below HBX.out.lt, nn.blk, Nat.le_trans HBW.out.size nn.ge, HBW.out.trans (nn.below.mono HBW.out.size)⟩
       clear nn HBX HBW HT HFI))
  go_loopg [0, 6] 300 (fun kx s0 s6 wr => ∃ (d g2 : Nat) (l2 : List Lf), s0 = .pointer (some ⟨g2, 0, none⟩) ∧ s6 = .int .i64 (d : Int) ∧ 257 - d ≤ kx ∧ Hid (Gt w x gx gr l d g2 l2 wr))
  case atStart => exact ⟨0, g, l, rfl, rfl, by omega, HGT⟩
  case round =>
    clear HGT
    obtain ⟨d, g2, l2, rfl, rfl, hkx, HG⟩ := hrel
    obtain ⟨n, HN⟩ : ∃ n, Hid (n = l2.length) := ⟨_, rfl⟩
    obtain ⟨ix, vl, pp, qq, hcc⟩ := HG.out.tree.cells
    have c0 : wr.cell? ⟨g2, 0, none⟩ = some (.int .i64 (n : Int)) := by rw [HN.out]; exact hcc.cnt
    clear hcc ix vl pp qq
    by_cases h2 : 2 ≤ n
    · have h2z : (n : Int) > 1 := by omega
      have h2z' : (1 : Int) < (n : Int) := by omega
      have h2d : decide ((n : Int) > 1) = true := decide_eq_true h2z
      obtain ⟨g0, g1, t0, t1, hcc⟩ := HG.out.tree.two (by rw [← HN.out]; exact h2)
      have hdlt : d < 256 := HG.out.fit.lt (by rw [← HN.out]; exact h2)
      have HCC : Hid (TreeC wr g2 l2.length (rootL l2 d) zb32 zb32 (ptr g0) (ptr g1)) := hcc
      have HT0 : Hid (TreeIs wr (d + 1) g0 (halfL l2 d false)) := t0
      have HT1 : Hid (TreeIs wr (d + 1) g1 (halfL l2 d true)) := t1
      clear hcc t0 t1
      have rd : IntKind.i64.wrap ((d : Int) + 1) = (d : Int) + 1 := by rw [IntKind.wrap_i64]; omega
      cases hb : bt x d with
      | false =>
        go_wp2_with (first
          | (with_reducible refine wpSeq_loadD (.tmp 3) gx x ?_ ?_ ?_ ?_ ?_ ?_
             · exact HX.out
             · exact HG.out.xb
             · rfl
             · rfl
             · rfl)
          | (go_at_call 31; refine (trSides_any _ g2 _ g0 g1 d _ _ _ x HCC.out HX.out hdlt).mono ?_; rintro e w2 ⟨rfl, hbq⟩
             simp only [hb, cond_false, ptr]
             replace HG : Hid (Gt w x gx gr l d g2 l2 w2) := HG.out.next hbq
             replace HT0 : Hid (TreeIs w2 (d + 1) g0 (halfL l2 d false)) := HT0.out.next hbq
             clear hbq HCC HT1 c0))
        go_roundg (257 - (d + 1))
        case measure => omega
        case rel => exact ⟨d + 1, g0, halfL l2 d (bt x d), rfl, by go_num, Nat.le_refl _, HG.out.down (by rw [← HN.out]; exact h2) (by rw [hb]; exact HT0.out)⟩
      | true =>
        go_wp2_with (first
          | (with_reducible refine wpSeq_loadD (.tmp 3) gx x ?_ ?_ ?_ ?_ ?_ ?_
             · exact HX.out
             · exact HG.out.xb
             · rfl
             · rfl
             · rfl)
          | (go_at_call 31; refine (trSides_any _ g2 _ g0 g1 d _ _ _ x HCC.out HX.out hdlt).mono ?_; rintro e w2 ⟨rfl, hbq⟩
             simp only [hb, cond_true, ptr]
             replace HG : Hid (Gt w x gx gr l d g2 l2 w2) := HG.out.next hbq
             replace HT1 : Hid (TreeIs w2 (d + 1) g1 (halfL l2 d true)) := HT1.out.next hbq
             clear hbq HCC HT0 c0))
        go_roundg (257 - (d + 1))
        case measure => omega
        case rel => exact ⟨d + 1, g1, halfL l2 d (bt x d), rfl, by go_num, Nat.le_refl _, HG.out.down (by rw [← HN.out]; exact h2) (by rw [hb]; exact HT1.out)⟩
    · have h2z : ¬ ((n : Int) > 1) := by omega
      have h2z' : ¬ ((1 : Int) < (n : Int)) := by omega
      have h2d : decide ((n : Int) > 1) = false := decide_eq_false h2z
      go_upto_region 5 with fail
      clear h2z h2z' h2d
      by_cases hz : n = 0
      · subst hz
        have hnil : l2 = [] := List.length_eq_zero_iff.1 HN.out.symm
        have HQ : Hid (getL l x = none) := by show _ = _; rw [← HG.out.eq, hnil]; rfl
        have c0d : wr.drew.cell? ⟨g2, 0, none⟩ = some (.int .i64 0) := c0
        have HLT : Hid (g2 < wr.drew.heap.size) := block_lt_of_cell c0
        go_cut [33] from 21 to 33 (fun b W => b = .bool true ∧ Gt w x gx gr l d g2 l2 W)
        case first =>
          refine wp_region_held_drew (S := Over wr.drew) (by kernel_rfl) (Over.refl _) ?_
          intro hS
          refine wpAnyH_take (i := 0) (v := .pointer (some ⟨g2, 0, none⟩)) rfl (by kernel_rfl) (by kernel_rfl) (by kernel_rfl) (fun _ _ _ h => h) (Or.inl ⟨by rfl, fun wx hx => by simp [go_sem]⟩) hS ?_
          simp only [Act.put, List.getElem_toArray, List.getElem_cons_zero, List.setIfInBounds_toArray, List.set_cons_zero, List.set_cons_succ]
          refine wpAnyH_take (i := 1) (v := .pointer (some ⟨g2, 0, none⟩)) rfl (by kernel_rfl) (by kernel_rfl) (by kernel_rfl) (fun _ _ _ h => h) (Or.inl ⟨by rfl, fun wx hx => by simp [go_sem]⟩) hS ?_
          simp only [Act.put, List.getElem_toArray, List.getElem_cons_succ, List.getElem_cons_zero, List.setIfInBounds_toArray, List.set_cons_zero, List.set_cons_succ]
          refine wpAnyH_take (i := 2) (v := .pointer (some ⟨g2, 0, none⟩)) rfl (by kernel_rfl) (by kernel_rfl) (by kernel_rfl) (fun _ _ _ h => h) (Or.inl ⟨by rfl, fun wx hx => by simp [go_sem]⟩) hS ?_
          simp only [Act.put, List.getElem_toArray, List.getElem_cons_succ, List.getElem_cons_zero, List.setIfInBounds_toArray, List.set_cons_zero, List.set_cons_succ]
          refine wpAnyH_take (i := 3) (v := .int .i64 0) rfl (by kernel_rfl) (by kernel_rfl) (by kernel_rfl) (fun _ _ _ h => h) (Or.inl ⟨by rfl, fun wx hx => by (have hc := (hx.out.cell (p := ⟨g2, 0, none⟩) HLT.out).trans c0d; simp [go_sem, hc])⟩) hS ?_
          simp only [Act.put, List.getElem_toArray, List.getElem_cons_succ, List.getElem_cons_zero, List.setIfInBounds_toArray, List.set_cons_zero, List.set_cons_succ]
          refine wpAnyH_take (i := 4) (v := .bool true) rfl (by kernel_rfl) (by kernel_rfl) (by kernel_rfl) (fun _ _ _ h => h) (Or.inl ⟨by rfl, fun wx hx => by simp [go_sem]⟩) hS ?_
          simp only [Act.put, List.getElem_toArray, List.getElem_cons_succ, List.getElem_cons_zero, List.setIfInBounds_toArray, List.set_cons_zero, List.set_cons_succ]
          refine wpAnyH_take (i := 5) (v := .bool true) rfl (by kernel_rfl) (by kernel_rfl) (by kernel_rfl) (fun _ _ _ h => h) (Or.inl ⟨by rfl, fun wx hx => by simp [go_sem]⟩) hS ?_
          simp only [Act.put, List.getElem_toArray, List.getElem_cons_succ, List.getElem_cons_zero, List.setIfInBounds_toArray, List.set_cons_zero, List.set_cons_succ]
          refine wpAnyH_take (i := 6) (v := undef) rfl (by kernel_rfl) (by kernel_rfl) (by kernel_rfl) (fun _ _ _ h => h) (Or.inr ⟨by rfl, rfl⟩) hS ?_
          simp only [Act.put, List.getElem_toArray, List.getElem_cons_succ, List.getElem_cons_zero, List.setIfInBounds_toArray, List.set_cons_zero, List.set_cons_succ]
          refine wpAnyH_take (i := 7) (v := undef) rfl (by kernel_rfl) (by kernel_rfl) (by kernel_rfl) (fun _ _ _ h => h) (Or.inr ⟨by rfl, rfl⟩) hS ?_
          simp only [Act.put, List.getElem_toArray, List.getElem_cons_succ, List.getElem_cons_zero, List.setIfInBounds_toArray, List.set_cons_zero, List.set_cons_succ]
          refine wpAnyH_take (i := 8) (v := undef) rfl (by kernel_rfl) (by kernel_rfl) (by kernel_rfl) (fun _ _ _ h => h) (Or.inr ⟨by rfl, rfl⟩) hS ?_
          simp only [Act.put, List.getElem_toArray, List.getElem_cons_succ, List.getElem_cons_zero, List.setIfInBounds_toArray, List.set_cons_zero, List.set_cons_succ]
          refine wpAnyH_take (i := 9) (v := undef) rfl (by kernel_rfl) (by kernel_rfl) (by kernel_rfl) (fun _ _ _ h => h) (Or.inr ⟨by rfl, rfl⟩) hS ?_
          simp only [Act.put, List.getElem_toArray, List.getElem_cons_succ, List.getElem_cons_zero, List.setIfInBounds_toArray, List.set_cons_zero, List.set_cons_succ]
          refine wpAnyH_take (i := 10) (v := undef) rfl (by kernel_rfl) (by kernel_rfl) (by kernel_rfl) (fun _ _ _ h => h) (Or.inr ⟨by rfl, rfl⟩) hS ?_
          simp only [Act.put, List.getElem_toArray, List.getElem_cons_succ, List.getElem_cons_zero, List.setIfInBounds_toArray, List.set_cons_zero, List.set_cons_succ]
          refine wpAnyH_take (i := 11) (v := undef) rfl (by kernel_rfl) (by kernel_rfl) (by kernel_rfl) (fun _ _ _ h => h) (Or.inr ⟨by rfl, rfl⟩) hS ?_
          simp only [Act.put, List.getElem_toArray, List.getElem_cons_succ, List.getElem_cons_zero, List.setIfInBounds_toArray, List.set_cons_zero, List.set_cons_succ]
          refine wpAnyH_take (i := 12) (v := .bool true) rfl (by kernel_rfl) (by kernel_rfl) (by kernel_rfl) (fun _ _ _ h => h) (Or.inl ⟨by rfl, fun wx hx => by simp [go_sem]⟩) hS ?_
          simp only [Act.put, List.getElem_toArray, List.getElem_cons_succ, List.getElem_cons_zero, List.setIfInBounds_toArray, List.set_cons_zero, List.set_cons_succ]
          refine wpAnyH_done (by kernel_rfl) ?_ _
          go_wp2_with fail
          go_meet
          case rel => exact ⟨rfl, HG.out.next (Below.refl _ wr).drew⟩
        case rest =>
          obtain ⟨rfl, hG⟩ := hcut
          replace HG : Hid (Gt w x gx gr l d g2 l2 wc) := hG
          clear hG c0 c0d
          go_wp2_with (first
            | (with_reducible refine wpSeq_buildZ0 ?_ ?_ ?_
               · rfl
               · rfl
               skip)
            | (with_reducible refine wpSeq_storeD (.tmp 4) (.tmp 34) gr zb32 zb32 ?_ ?_ ?_ ?_ ?_ ?_ ?_ ?_
               · rfl
               · rfl
               · exact HG.out.rb
               · rfl
               · rfl
               · rfl
               · rfl
               intro W9 h9))
          refine bodyPost_ret (v := Value.tuple #[Value.agg (cb zb32).toArray, Value.bool false]) ?_ rfl ⟨by rw [HQ.out]; rfl, RETD h9 HG.out.ge HG.out.bel⟩
          exact results_row_tmp (by rfl) _ _ _ gr 24 (cb zb32) _ (.bool false) rfl rfl h9.blk Tryd.underlying24 rfl (by rw [cb_len, zb32_len]; exact info_digest)
      · have h1 : n = 1 := by omega
        subst h1
        obtain ⟨p, hp⟩ : ∃ p, l2 = [p] := List.length_eq_one_iff.1 HN.out.symm
        subst hp
        obtain ⟨px, pv⟩ := p
        have HTC : Hid (TreeC wr g2 1 (dig (pairB 76 px pv)) px pv (.pointer none) (.pointer none)) := HG.out.tree.one
        have HPX : Hid (px.length = 32) := HTC.out.l2
        have HPV : Hid (pv.length = 32) := HTC.out.l3
        have heq : ∀ wx : World, (Op.equalIn 10000 24 (.agg (cb px).toArray) (.agg (cb x).toArray)).run Tryd.prog wx = .ok (decide (px = x)) wx := fun wx => eq_dig px x HPX.out HX.out wx
        have HQ : Hid (getL l x = if px = x then some pv else none) := by
          show _ = _
          rw [← HG.out.eq]
          unfold getL
          by_cases e : px = x <;> simp [e]
        go_cut [33] from 21 to 33 (fun b W => b = .bool (!decide (px = x)) ∧ Gt w x gx gr l d g2 [(px, pv)] W)
        case first =>
          refine wp_region_held_drew (S := Over wr.drew) (by kernel_rfl) (Over.refl _) ?_
          intro hS
          refine wpAnyH_take (i := 0) (v := .pointer (some ⟨g2, 0, none⟩)) rfl (by kernel_rfl) (by kernel_rfl) (by kernel_rfl) (fun _ _ _ h => h) (Or.inl ⟨by rfl, fun wx hx => by simp [go_sem]⟩) hS ?_
          simp only [Act.put, List.getElem_toArray, List.getElem_cons_zero, List.setIfInBounds_toArray, List.set_cons_zero, List.set_cons_succ]
          refine wpAnyH_take (i := 1) (v := .pointer (some ⟨g2, 0, none⟩)) rfl (by kernel_rfl) (by kernel_rfl) (by kernel_rfl) (fun _ _ _ h => h) (Or.inl ⟨by rfl, fun wx hx => by simp [go_sem]⟩) hS ?_
          simp only [Act.put, List.getElem_toArray, List.getElem_cons_succ, List.getElem_cons_zero, List.setIfInBounds_toArray, List.set_cons_zero, List.set_cons_succ]
          refine wpAnyH_take (i := 2) (v := .pointer (some ⟨g2, 0, none⟩)) rfl (by kernel_rfl) (by kernel_rfl) (by kernel_rfl) (fun _ _ _ h => h) (Or.inl ⟨by rfl, fun wx hx => by simp [go_sem]⟩) hS ?_
          simp only [Act.put, List.getElem_toArray, List.getElem_cons_succ, List.getElem_cons_zero, List.setIfInBounds_toArray, List.set_cons_zero, List.set_cons_succ]
          refine wpAnyH_take (i := 3) (v := .int .i64 1) rfl (by kernel_rfl) (by kernel_rfl) (by kernel_rfl) (fun _ _ _ h => h) (Or.inl ⟨by rfl, fun wx hx => by (have hc := (HTC.out.drew.below hx.out HTC.out.blk.lt).cnt; simp [go_sem, hc])⟩) hS ?_
          simp only [Act.put, List.getElem_toArray, List.getElem_cons_succ, List.getElem_cons_zero, List.setIfInBounds_toArray, List.set_cons_zero, List.set_cons_succ]
          refine wpAnyH_take (i := 4) (v := .bool false) rfl (by kernel_rfl) (by kernel_rfl) (by kernel_rfl) (fun _ _ _ h => h) (Or.inl ⟨by rfl, fun wx hx => by simp [go_sem]⟩) hS ?_
          simp only [Act.put, List.getElem_toArray, List.getElem_cons_succ, List.getElem_cons_zero, List.setIfInBounds_toArray, List.set_cons_zero, List.set_cons_succ]
          refine wpAnyH_take (i := 5) (v := .bool false) rfl (by kernel_rfl) (by kernel_rfl) (by kernel_rfl) (fun _ _ _ h => h) (Or.inl ⟨by rfl, fun wx hx => by simp [go_sem]⟩) hS ?_
          simp only [Act.put, List.getElem_toArray, List.getElem_cons_succ, List.getElem_cons_zero, List.setIfInBounds_toArray, List.set_cons_zero, List.set_cons_succ]
          refine wpAnyH_take (i := 6) (v := .pointer (some ⟨g2, 0, none⟩)) rfl (by kernel_rfl) (by kernel_rfl) (by kernel_rfl) (fun _ _ _ h => h) (Or.inl ⟨by rfl, fun wx hx => by simp [go_sem]⟩) hS ?_
          simp only [Act.put, List.getElem_toArray, List.getElem_cons_succ, List.getElem_cons_zero, List.setIfInBounds_toArray, List.set_cons_zero, List.set_cons_succ]
          refine wpAnyH_take (i := 7) (v := .pointer (some ⟨g2, 0, none⟩)) rfl (by kernel_rfl) (by kernel_rfl) (by kernel_rfl) (fun _ _ _ h => h) (Or.inl ⟨by rfl, fun wx hx => by simp [go_sem]⟩) hS ?_
          simp only [Act.put, List.getElem_toArray, List.getElem_cons_succ, List.getElem_cons_zero, List.setIfInBounds_toArray, List.set_cons_zero, List.set_cons_succ]
          refine wpAnyH_take (i := 8) (v := .pointer (some ⟨g2, 33, none⟩)) rfl (by kernel_rfl) (by kernel_rfl) (by kernel_rfl) (fun _ _ _ h => h) (Or.inl ⟨by rfl, fun wx hx => by simp [go_sem]⟩) hS ?_
          simp only [Act.put, List.getElem_toArray, List.getElem_cons_succ, List.getElem_cons_zero, List.setIfInBounds_toArray, List.set_cons_zero, List.set_cons_succ]
          refine wpAnyH_take (i := 9) (v := .agg (cb px).toArray) rfl (by kernel_rfl) (by kernel_rfl) (by kernel_rfl) (fun _ _ _ h => h) (Or.inl ⟨by rfl, fun wx hx => by exact load_run 24 _ rfl _ _ rfl (cb px) _ ((HTC.out.drew.below hx.out HTC.out.blk.lt).index) Tryd.underlying24 rfl (by rw [cb_len, HPX.out]; exact info_digest)⟩) hS ?_
          simp only [Act.put, List.getElem_toArray, List.getElem_cons_succ, List.getElem_cons_zero, List.setIfInBounds_toArray, List.set_cons_zero, List.set_cons_succ]
          refine wpAnyH_take (i := 10) (v := .agg (cb x).toArray) rfl (by kernel_rfl) (by kernel_rfl) (by kernel_rfl) (fun _ _ _ h => h) (Or.inl ⟨by rfl, fun wx hx => by exact loadDigest _ gx x HX.out (Over.blk hx HG.out.xb.drew) rfl rfl⟩) hS ?_
          simp only [Act.put, List.getElem_toArray, List.getElem_cons_succ, List.getElem_cons_zero, List.setIfInBounds_toArray, List.set_cons_zero, List.set_cons_succ]
          refine wpAnyH_take (i := 11) (v := .bool (!decide (px = x))) rfl (by kernel_rfl) (by kernel_rfl) (by kernel_rfl) (fun _ _ _ h => h) (Or.inl ⟨by rfl, fun wx hx => by simp [go_sem, heq]⟩) hS ?_
          simp only [Act.put, List.getElem_toArray, List.getElem_cons_succ, List.getElem_cons_zero, List.setIfInBounds_toArray, List.set_cons_zero, List.set_cons_succ]
          refine wpAnyH_take (i := 12) (v := .bool (!decide (px = x))) rfl (by kernel_rfl) (by kernel_rfl) (by kernel_rfl) (fun _ _ _ h => h) (Or.inl ⟨by rfl, fun wx hx => by simp [go_sem]⟩) hS ?_
          simp only [Act.put, List.getElem_toArray, List.getElem_cons_succ, List.getElem_cons_zero, List.setIfInBounds_toArray, List.set_cons_zero, List.set_cons_succ]
          refine wpAnyH_done (by kernel_rfl) ?_ _
          go_wp2_with fail
          go_meet
          case rel => exact ⟨rfl, HG.out.next (Below.refl _ wr).drew⟩
        case rest =>
          obtain ⟨rfl, hG⟩ := hcut
          replace HG : Hid (Gt w x gx gr l d g2 [(px, pv)] wc) := hG
          clear hG heq HTC c0
          by_cases e : px = x
          · have HQ2 : Hid (getL l x = some pv) := by show _ = _; rw [HQ.out, if_pos e]
            rw [decide_eq_true e]
            have HTC : Hid (TreeC wc g2 1 (dig (pairB 76 px pv)) px pv (.pointer none) (.pointer none)) := HG.out.tree.one
            clear e
            go_wp2_with (first
              | (with_reducible refine wpSeq_loadAt (.tmp 37) g2 65 pv ?_ ?_ ?_ ?_ ?_ ?_
                 · exact HPV.out
                 · exact HTC.out.value
                 · with_reducible rfl
                 · rfl
                 · rfl)
              | (with_reducible refine wpSeq_storeD (.tmp 4) (.tmp 38) gr zb32 pv ?_ ?_ ?_ ?_ ?_ ?_ ?_ ?_
                 · rfl
                 · exact HPV.out
                 · exact HG.out.rb
                 · rfl
                 · rfl
                 · rfl
                 · rfl
                 intro W9 h9))
            refine bodyPost_ret (v := Value.tuple #[Value.agg (cb pv).toArray, Value.bool true]) ?_ rfl ⟨by rw [HQ2.out]; rfl, RETD h9 HG.out.ge HG.out.bel⟩
            exact results_row_tmp (by rfl) _ _ _ gr 24 (cb pv) _ (.bool true) rfl rfl h9.blk Tryd.underlying24 rfl (by rw [cb_len, HPV.out]; exact info_digest)
          · replace HQ : Hid (getL l x = none) := by show _ = _; rw [HQ.out, if_neg e]
            rw [decide_eq_false e]
            clear e
            go_wp2_with (first
              | (with_reducible refine wpSeq_buildZ0 ?_ ?_ ?_
                 · rfl
                 · rfl
                 skip)
              | (with_reducible refine wpSeq_storeD (.tmp 4) (.tmp 34) gr zb32 zb32 ?_ ?_ ?_ ?_ ?_ ?_ ?_ ?_
                 · rfl
                 · rfl
                 · exact HG.out.rb
                 · rfl
                 · rfl
                 · rfl
                 · rfl
                 intro W9 h9))
            refine bodyPost_ret (v := Value.tuple #[Value.agg (cb zb32).toArray, Value.bool false]) ?_ rfl ⟨by rw [HQ.out]; rfl, RETD h9 HG.out.ge HG.out.bel⟩
            exact results_row_tmp (by rfl) _ _ _ gr 24 (cb zb32) _ (.bool false) rfl rfl h9.blk Tryd.underlying24 rfl (by rw [cb_len, zb32_len]; exact info_digest)
end Go.Proofs.YtphacinnnepdoaaDoor

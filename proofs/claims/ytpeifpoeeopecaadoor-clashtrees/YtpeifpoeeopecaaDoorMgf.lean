/- Texts that the proof leans on, one behind the other: The statement ClashTrees, over clash's functions (layer 9). What the listed variable gives: the rounds' words lie where the walks look for them. What a slice of bytes that came in gives: the bytes that it reads as; and that it reads so still behind a call that changed no old block. .. -/
import Derived.Test.YtpeifpoeeopecaaDoorMge
import Derived.Test.YtpeifpoeeopecaaDoorRows
import Derived.Test.YtpeifpoeeopecaaDoorMga
import Derived.ProofKit
import Derived.LaidMore
import Derived.OpenShut
import Derived.Stop.Joined
import Derived.Lib.LaidTab
import Derived.Carry
import Derived.ChangeSlices
import Derived.Test.YtpeifpoeeopecaaDoorMgc
import Derived.Deep.Slices
import Derived.Deep.Strs
import Derived.Lib.SmallJoins
/- The statement ClashTrees, over clash's functions (layer 9). -/
namespace Go.Proofs.YtpeifpoeeopecaaDoor
open Go.RowKit
set_option maxRecDepth 100000
/-- where the statement stands -/
structure Ct (w : World) (gi gq gL : Nat) (i : List (BitVec 8)) (cq : List Value) (xa xv : Value) (l : List Lf) (W : World) : Prop where
  ib : Blk W gi (cb i) 33
  qb : Blk W gq cq 36
  lb : Blk W gL [xa, xv] 47
  lr : ReadsLf W xa xv l
  bel : Below w.heap.size w W
theorem Ct.next {w W W' : World} {gi gq gL : Nat} {i : List (BitVec 8)} {cq : List Value} {xa xv : Value} {l : List Lf} (h : Ct w gi gq gL i cq xa xv l W) (hb : Below W.heap.size W W') : Ct w gi gq gL i cq xa xv l W' := ⟨h.ib.below hb h.ib.lt, h.qb.below hb h.qb.lt, h.lb.below hb h.lb.lt, h.lr.below hb, h.bel.trans (hb.mono h.bel.size)⟩
set_option maxRecDepth 100000 in
set_option maxHeartbeats 16000000 in
theorem clashTrees_law (hP : PfOps) (hC : ClOps) (vt vu : Value) (ds es : List (List (BitVec 8))) (i : List (BitVec 8)) (vq : Value) (sq : List (List (BitVec 8))) (eq : Int) (ixq vaq : List (BitVec 8)) (hi : i.length = 32) (h3 : ixq.length = 32) (h4 : vaq.length = 32) (w : World) (hK : KOk w) (hD : ReadsD w vt ds) (hE : ReadsD w vu es) (hq : ReadsD w vq sq) :
    Calls Tryd.prog 6 #[vt, vu, .agg (cb i).toArray, .agg (prfV vq eq ixq vaq).toArray] w fun e w' => e = .returned (.bool true) ∧ Below w.heap.size w w' := by
  have HPO : Hid PfOps := hP
  have HCO : Hid ClOps := hC
  have HK0 : Hid (KOk w) := hK
  have HIL : Hid (i.length = 32) := hi
  have HQ1 : Hid (ixq.length = 32) := h3
  have HQ2 : Hid (vaq.length = 32) := h4
  have HRQ : Hid (ReadsD w vq sq) := hq
  have HD : Hid (ReadsD w vt ds) := hD
  have HE : Hid (ReadsD w vu es) := hE
  obtain ⟨adt, cpt, hvt⟩ := hD.slice
  obtain ⟨adu, cpu, hvu⟩ := hE.slice
  obtain ⟨n, HN⟩ : ∃ n, Hid (n = ds.length) := ⟨_, rfl⟩
  obtain ⟨m, HM⟩ : ∃ n, Hid (n = es.length) := ⟨_, rfl⟩
  rw [← HN.out] at hvt
  rw [← HM.out] at hvu
  subst hvt hvu
  have HF0 : Hid (Fits (ofL (ds.zip es)) 0) := Fits.zero (ofL_good _ (zip_okR hD hE)).1 (ofL_good _ (zip_okR hD hE)).2
  obtain ⟨cq, HCQ⟩ : ∃ c, Hid (c = prfV vq eq ixq vaq) := ⟨_, rfl⟩
  have HQ6 : Hid (cq.length = 66) := by show _ = _; rw [HCQ.out]; exact prfV_len h3 h4
  obtain ⟨fq, HFQ⟩ : ∃ z, Hid (z = decide (sq.length ≤ 300)) := ⟨_, rfl⟩
  have HC2 : Hid (∀ W, Below w.heap.size w W → Calls Tryd.prog 14 #[.agg cq.toArray] W fun e w' => e = .returned (.bool fq) ∧ Below W.heap.size W w') := fun W hh => by rw [HCQ.out, HFQ.out]; exact few9_any _ sq eq ixq vaq W (hq.below hh)
  have HWK : Hid (∀ W, Below w.heap.size w W → Calls Tryd.prog 13 #[] W fun e w' => e = .returned (.bool true) ∧ Below W.heap.size W w') := fun W hh => works9_any HPO.out HCO.out W (HK0.out.below hh HK0.out.lt)
  rw [← HCQ.out]
  clear hi h3 h4 hq hP hC hK hD hE
  by_cases hn60 : n ≤ 60
  · have h60i : ¬ ((60 : Int) < (n : Int)) := by omega
    have H60 : Hid (ds.length ≤ 60) := by show _ ≤ _; rw [← HN.out]; exact hn60
    clear hn60
    go_enter Tryd.func6, Tryd.ntmps6
    go_upto_region 1 with (first
      | (with_reducible refine wpSeq_boxD (.tmp 2) i ?_ ?_ ?_ ?_
         · rfl
         · rfl
         · rfl
         intro gi w0 nn0)
      | (with_reducible refine wpSeq_boxP (.tmp 3) cq ?_ ?_ ?_ ?_
         · rfl
         · rfl
         · rfl
         intro gq w1 nn1
         have HB0 : Hid (Below w.heap.size w w1 ∧ Blk w1 gi (cb i) 33 ∧ Blk w1 gq cq 36) := ⟨nn0.below.trans (nn1.below.mono nn0.below.size), nn0.blk.below nn1.below nn0.blk.lt, nn1.blk⟩
         clear nn0 nn1))
    cases fq with
    | false =>
      go_wp2_with (first
        | (with_reducible refine wpSeq_loadP (.tmp 7) gq cq ?_ ?_ ?_ ?_ ?_ ?_
           · exact HQ6.out
           · exact HB0.out.2.2
           · rfl
           · rfl
           · rfl)
        | (go_at_call 14; refine (HC2.out _ HB0.out.1).mono ?_; rintro e w2 ⟨rfl, hbz⟩
           replace HB0 : Hid (Below w.heap.size w w2 ∧ Blk w2 gi (cb i) 33 ∧ Blk w2 gq cq 36) := ⟨HB0.out.1.trans (hbz.mono HB0.out.1.size), HB0.out.2.1.below hbz HB0.out.2.1.lt, HB0.out.2.2.below hbz HB0.out.2.2.lt⟩
           clear hbz HC2)
        | (go_at_call 13; refine (HWK.out _ HB0.out.1).mono ?_; rintro e wz ⟨rfl, hbz⟩
           replace HB0 : Hid (Below w.heap.size w wz ∧ Blk wz gi (cb i) 33 ∧ Blk wz gq cq 36) := ⟨HB0.out.1.trans (hbz.mono HB0.out.1.size), HB0.out.2.1.below hbz HB0.out.2.1.lt, HB0.out.2.2.below hbz HB0.out.2.2.lt⟩
           clear hbz))
      go_ret
      exact ⟨rfl, HB0.out.1⟩
    | true =>
      have HQ3 : Hid (sq.length ≤ 300) := show sq.length ≤ 300 from of_decide_eq_true HFQ.out.symm
      obtain ⟨l, HLD⟩ : ∃ l, Hid (l = ofL (ds.zip es)) := ⟨_, rfl⟩
      have HFT : Hid (Fits l 0) := by show Fits _ _; rw [HLD.out]; exact HF0.out
      have HLL : Hid (l.length ≤ 60) := by show _ ≤ _; rw [HLD.out]; exact len60 H60.out
      obtain ⟨r, HRT⟩ : ∃ r, Hid (r = rootL l 0) := ⟨_, rfl⟩
      have HRL : Hid (r.length = 32) := by show _ = _; rw [HRT.out]; exact rootL_len HFT.out
      go_upto_region 3 with (first
        | (with_reducible refine wpSeq_loadP (.tmp 7) gq cq ?_ ?_ ?_ ?_ ?_ ?_
           · exact HQ6.out
           · exact HB0.out.2.2
           · rfl
           · rfl
           · rfl)
        | (go_at_call 14; refine (HC2.out _ HB0.out.1).mono ?_; rintro e w2 ⟨rfl, hbz⟩
           replace HB0 : Hid (Below w.heap.size w w2 ∧ Blk w2 gi (cb i) 33 ∧ Blk w2 gq cq 36) := ⟨HB0.out.1.trans (hbz.mono HB0.out.1.size), HB0.out.2.1.below hbz HB0.out.2.1.lt, HB0.out.2.2.below hbz HB0.out.2.2.lt⟩
           clear hbz HC2))
      clear h60i
      go_upto_region 4 with (first
        | (go_at_call 19; refine (lfOf_any _ _ ds es _ (HD.out.below HB0.out.1) (HE.out.below HB0.out.1) (by have := H60.out; omega)).mono ?_; rintro e w3 ⟨xa, xv, rfl, ho, hbz⟩
           rw [← HLD.out] at ho
           have HO : Hid (ReadsLf w3 xa xv l) := ho.reads
           replace HB0 : Hid (Below w.heap.size w w3 ∧ Blk w3 gi (cb i) 33 ∧ Blk w3 gq cq 36) := ⟨HB0.out.1.trans (hbz.mono HB0.out.1.size), HB0.out.2.1.below hbz HB0.out.2.1.lt, HB0.out.2.2.below hbz HB0.out.2.2.lt⟩
           obtain ⟨nx, HNX⟩ : ∃ z : Nat, Hid (z = l.length) := ⟨_, rfl⟩
           obtain ⟨adx, cpx, hxa⟩ := ho.a.slice
           obtain ⟨adw, cpw, hxv⟩ := ho.v.slice
           rw [List.length_map, ← HNX.out] at hxa hxv
           subst hxa hxv
           clear hbz ho HE HD))
      have hb9 := below_alloc w3 (.cells [Value.slice adx nx cpx, .slice adw nx cpw].toArray 47)
      have HI : Hid (Ct w gi gq w3.heap.size i cq (.slice adx nx cpx) (.slice adw nx cpw) l (w3.alloc (.cells [Value.slice adx nx cpx, .slice adw nx cpw].toArray 47))) := ⟨HB0.out.2.1.below hb9 HB0.out.2.1.lt, HB0.out.2.2.below hb9 HB0.out.2.2.lt, Blk.new _ _ _, HO.out.below hb9, HB0.out.1.trans (hb9.mono HB0.out.1.size)⟩
      clear hb9 HO HB0 HLD
      obtain ⟨gL, HGL⟩ : ∃ z, Hid (z = w3.heap.size) := ⟨_, rfl⟩
      have e0 : (some ⟨w3.heap.size, 0, none⟩ : Option Addr) = some ⟨gL, 0, none⟩ := by rw [HGL.out]
      simp only [e0]
      rw [← HGL.out] at HI
      clear e0 HGL
      generalize w3.alloc (.cells [Value.slice adx nx cpx, .slice adw nx cpw].toArray 47) = w4 at *
      obtain ⟨v2, HV2⟩ : ∃ z, Hid (z = chkV (checkW r i sq eq ixq vaq)) := ⟨_, rfl⟩
      obtain ⟨b2, HB2⟩ : ∃ z, Hid (z = chkB (checkW r i sq eq ixq vaq)) := ⟨_, rfl⟩
      obtain ⟨e2, HE2⟩ : ∃ z, Hid (z = chkE (checkW r i sq eq ixq vaq)) := ⟨_, rfl⟩
      have HL2 : Hid (v2.length = 32) := by show _ = _; rw [HV2.out]; exact checkW_len HQ2.out
      have HCR : Hid (∀ W, Ct w gi gq gL i cq (.slice adx nx cpx) (.slice adw nx cpw) l W → Calls Tryd.prog 20 #[.agg #[.slice adx nx cpx, .slice adw nx cpw], .int .i64 0] W fun e w' => e = .returned (.agg (cb r).toArray) ∧ Below W.heap.size W w') := fun W h => by rw [HRT.out]; exact lfRoot_any 256 l 0 _ _ _ (by omega) HFT.out h.lr (by have := HLL.out; omega) (by omega)
      have HCK : Hid (∀ W, Ct w gi gq gL i cq (.slice adx nx cpx) (.slice adw nx cpw) l W → Calls Tryd.prog 18 #[.agg (cb r).toArray, .agg (cb i).toArray, .agg cq.toArray] W fun e w' => e = .returned (.tuple #[.agg (cb v2).toArray, .bool b2, .int .i64 e2]) ∧ Below W.heap.size W w') := fun W h => by
        rw [HCQ.out, HV2.out, HB2.out, HE2.out]
        exact HPO.out.check W r i vq sq eq ixq vaq (HK0.out.below h.bel HK0.out.lt) HRL.out HIL.out HQ1.out HQ2.out (HRQ.out.below h.bel) HQ3.out
      obtain ⟨a1, HA1⟩ : ∃ z, Hid (z = getL l i) := ⟨_, rfl⟩
      obtain ⟨v1, HV1⟩ : ∃ z, Hid (z = a1.getD zb32) := ⟨_, rfl⟩
      obtain ⟨b1, HB1⟩ : ∃ z, Hid (z = a1.isSome) := ⟨_, rfl⟩
      have HCG : Hid (∀ W, Ct w gi gq gL i cq (.slice adx nx cpx) (.slice adw nx cpw) l W → Calls Tryd.prog 21 #[.agg #[.slice adx nx cpx, .slice adw nx cpw], .agg (cb i).toArray] W fun e w' => e = .returned (.tuple #[.agg (cb v1).toArray, .bool b1]) ∧ Below W.heap.size W w') := fun W h => by rw [HV1.out, HB1.out, HA1.out]; exact lfGet_any _ _ l i W h.lr (by have := HLL.out; omega) HIL.out
      obtain ⟨sp, HSP⟩ : ∃ z, Hid (z = (wayL l i 0).1) := ⟨_, rfl⟩
      obtain ⟨pe, HPE⟩ : ∃ z, Hid (z = pend (wayL l i 0).2) := ⟨_, rfl⟩
      have HP32 : Hid (pe.2.1.length = 32 ∧ pe.2.2.length = 32) := by show _ ∧ _; rw [HPE.out]; exact pend_len8 HFT.out i
      have HS3 : Hid (sp.length ≤ 256) := by
        show _ ≤ _
        rw [HSP.out]
        rcases wayL_side i HFT.out with h1 | h1
        · omega
        · rw [h1]; simp
      have HSL : Hid (∀ s ∈ sp, s.length = 32) := by rw [HSP.out]; exact wayL_len32 i HFT.out
      have HWY : Hid (checkW r i sp pe.1 pe.2.1 pe.2.2 = some a1) := by
        show _ = _
        have h := way_check i HFT.out
        rw [endW_pend, ← HPE.out, ← HSP.out, ← HRT.out, ← HA1.out] at h
        exact h
      have HL1 : Hid (v1.length = 32) := by
        have h := checkW_len (r := r) (x := i) (sd := sp) (en := pe.1) (ix := pe.2.1) HP32.out.2
        rw [HWY.out] at h
        show _ = _
        rw [HV1.out]
        exact h
      have HCV : Hid (∀ W, Ct w gi gq gL i cq (.slice adx nx cpx) (.slice adw nx cpw) l W → Calls Tryd.prog 22 #[.agg #[.slice adx nx cpx, .slice adw nx cpw], .agg (cb i).toArray] W fun e w' => ∃ vs, e = .returned (.agg (prfV vs pe.1 pe.2.1 pe.2.2).toArray) ∧ ReadsD w' vs sp ∧ Below W.heap.size W w') := fun W h => (lfProve_any _ _ l i W h.lr HFT.out (by have := HLL.out; omega) HIL.out).mono fun e w' h => by
        obtain ⟨vs, h1, h2, h3⟩ := h
        exact ⟨vs, by rw [h1, HPE.out], by rw [HSP.out]; exact h2.readsD, h3⟩
      have HTWO : Hid (∀ a2, checkW r i sq eq ixq vaq = some a2 → a1 ≠ a2 → twoL (hashL i (endB pe.1 pe.2.1 pe.2.2) 0 sp) (hashL i (endB eq ixq vaq) 0 sq)) := fun a2 q2 q3 => bind_two HP32.out.1 HQ1.out HSL.out HRQ.out.2 HWY.out q2 q3
      go_cut [10, 11, 12] from 30 to 38 (fun a b c W => ∃ g10, a = .pointer (some ⟨g10, 0, none⟩) ∧ b = .bool b2 ∧ c = .int .i64 e2 ∧ Ct w gi gq gL i cq (.slice adx nx cpx) (.slice adw nx cpw) l W ∧ Blk W g10 (cb v2) 33)
      case first =>
        have HY : Hid (Ct w gi gq gL i cq (.slice adx nx cpx) (.slice adw nx cpw) l (World.drew w4)) := HI.out.next (Below.refl _ _).drew
        clear HI
        refine wp_region_held_drew (S := Over (World.drew w4)) (by kernel_rfl) (Over.refl _) ?_
        intro hS
        change wpAnyH _ _ _ _ _ _ _ _ (World.drew w4)
        generalize World.drew w4 = y0 at *
        refine wpAnyH_take (i := 0) (v := .agg #[.slice adx nx cpx, .slice adw nx cpw]) rfl (by kernel_rfl) (by kernel_rfl) (by kernel_rfl) (fun _ _ _ h => h) (Or.inl ⟨by rfl, fun wx hx => by exact load_run 47 _ rfl gL 0 rfl [.slice adx nx cpx, .slice adw nx cpw] _ (HY.out.next hx).lb.range Tryd.underlying47 rfl info_leaves⟩) hS ?_
        simp only [Act.put, List.getElem_toArray, List.getElem_cons_zero, List.setIfInBounds_toArray, List.set_cons_zero, List.set_cons_succ]
        refine wpAnyH_take (i := 2) (v := .agg (cb i).toArray) rfl (by kernel_rfl) (by kernel_rfl) (by kernel_rfl) (fun _ _ _ h => h) (Or.inl ⟨by rfl, fun wx hx => by exact loadDigest _ gi i HIL.out (HY.out.next hx).ib rfl rfl⟩) hS ?_
        simp only [Act.put, List.getElem_toArray, List.getElem_cons_succ, List.getElem_cons_zero, List.setIfInBounds_toArray, List.set_cons_zero, List.set_cons_succ]
        refine wpAnyH_take (i := 3) (v := .agg cq.toArray) rfl (by kernel_rfl) (by kernel_rfl) (by kernel_rfl) (fun _ _ _ h => h) (Or.inl ⟨by rfl, fun wx hx => by exact load_run 36 _ rfl gq 0 rfl cq _ (HY.out.next hx).qb.range Tryd.underlying36 rfl (by rw [HQ6.out]; exact info_proof)⟩) hS ?_
        simp only [Act.put, List.getElem_toArray, List.getElem_cons_succ, List.getElem_cons_zero, List.setIfInBounds_toArray, List.set_cons_zero, List.set_cons_succ]
        refine wpAnyH_pair 1 9 (by kernel_rfl) ?_ ?_
        · refine wpOp_en 1 (by rfl) (by rfl) (f := 20) (args := #[.agg #[.slice adx nx cpx, .slice adw nx cpw], .int .i64 0]) (by simp [go_sem]) (HCR.out _ (HY.out.next hS)) ?_
          rintro e z1 ⟨rfl, hb⟩
          replace hS := Over.more hS hb
          refine ⟨_, rfl, hS, ?_⟩
          clear hb
          simp only [Act.put, List.getElem_toArray, List.getElem_cons_succ, List.getElem_cons_zero, List.setIfInBounds_toArray, List.set_cons_zero, List.set_cons_succ]
          refine wpAnyH_pair 4 9 (by kernel_rfl) ?_ ?_
          · refine wpOp_en 4 (by rfl) (by rfl) (f := 18) (args := #[.agg (cb r).toArray, .agg (cb i).toArray, .agg cq.toArray]) (by simp [go_sem]) (HCK.out _ (HY.out.next hS)) ?_
            rintro e z2 ⟨rfl, hb⟩
            replace hS := Over.more hS hb
            refine ⟨_, rfl, hS, ?_⟩
            clear hb
            simp only [Act.put, List.getElem_toArray, List.getElem_cons_succ, List.getElem_cons_zero, List.setIfInBounds_toArray, List.set_cons_zero, List.set_cons_succ]
            refine wpAnyH_take (i := 5) (v := .tuple #[.agg (cb v2).toArray, .bool b2, .int .i64 e2]) rfl (by kernel_rfl) (by kernel_rfl) (by kernel_rfl) (fun _ _ _ h => h) (Or.inl ⟨by rfl, fun wx hx => by simp [go_sem]⟩) hS ?_
            simp only [Act.put, List.getElem_toArray, List.getElem_cons_succ, List.getElem_cons_zero, List.setIfInBounds_toArray, List.set_cons_zero, List.set_cons_succ]
            refine wpAnyH_take (i := 6) (v := .agg (cb v2).toArray) rfl (by kernel_rfl) (by kernel_rfl) (by kernel_rfl) (fun _ _ _ h => h) (Or.inl ⟨by rfl, fun wx hx => by simp [go_sem]⟩) hS ?_
            simp only [Act.put, List.getElem_toArray, List.getElem_cons_succ, List.getElem_cons_zero, List.setIfInBounds_toArray, List.set_cons_zero, List.set_cons_succ]
            refine wpAnyH_take (i := 7) (v := .bool b2) rfl (by kernel_rfl) (by kernel_rfl) (by kernel_rfl) (fun _ _ _ h => h) (Or.inl ⟨by rfl, fun wx hx => by simp [go_sem]⟩) hS ?_
            simp only [Act.put, List.getElem_toArray, List.getElem_cons_succ, List.getElem_cons_zero, List.setIfInBounds_toArray, List.set_cons_zero, List.set_cons_succ]
            refine wpAnyH_take (i := 8) (v := .int .i64 e2) rfl (by kernel_rfl) (by kernel_rfl) (by kernel_rfl) (fun _ _ _ h => h) (Or.inl ⟨by rfl, fun wx hx => by simp [go_sem]⟩) hS ?_
            simp only [Act.put, List.getElem_toArray, List.getElem_cons_succ, List.getElem_cons_zero, List.setIfInBounds_toArray, List.set_cons_zero, List.set_cons_succ]
            have hb := below_alloc z2 (.cells (cb zb32).toArray 33)
            have hba : Blk (z2.alloc (.cells (cb zb32).toArray 33)) z2.heap.size (cb zb32) 33 := Blk.new _ _ _
            have hsz : y0.heap.size ≤ z2.heap.size := Below.size hS
            replace hS := Over.more hS hb
            refine wpAnyH_step 9 (.pointer (some ⟨z2.heap.size, 0, none⟩)) (z2.alloc (.cells (cb zb32).toArray 33)) (by kernel_rfl) rfl (by rfl) (allocDigest _ _ rfl _) hS ?_
            simp only [Act.put, List.getElem_toArray, List.getElem_cons_succ, List.getElem_cons_zero, List.setIfInBounds_toArray, List.set_cons_zero, List.set_cons_succ]
            clear hb
            generalize z2.alloc (.cells (cb zb32).toArray 33) = z3 at *
            obtain ⟨ga, HGA⟩ : ∃ z, Hid (z = z2.heap.size) := ⟨_, rfl⟩
            have hgw : y0.heap.size ≤ ga := by rw [HGA.out]; exact hsz
            rw [← HGA.out] at hba ⊢
            clear HGA hsz
            refine wpAnyH_law 10 (by kernel_rfl) rfl (by rfl) (wp_store_mid 33 _ _ rfl ga 0 (cb v2).toArray rfl rfl (hba.there 0 _ (by rw [List.size_toArray, cb_len, cb_len, HL2.out]; decide)) (by rw [List.size_toArray, cb_len, HL2.out]; exact info_digest) (all_oneCell_toArray (cb_one v2)) ?_)
            rw [List.toList_toArray]
            have hb9 := hba.whole (cb v2) (by rw [cb_len, cb_len, HL2.out]; rfl)
            have hS9 : Over y0 (z3.setCells ga 0 (cb v2)) := Below.setCells _ hgw _ _ _ hS
            refine ⟨hS9, ?_⟩
            simp only [Act.put, List.getElem_toArray, List.getElem_cons_succ, List.getElem_cons_zero]
            generalize z3.setCells ga 0 (cb v2) = wE at *
            refine wpAnyH_take (i := 11) (v := .bool b2) rfl (by kernel_rfl) (by kernel_rfl) (by kernel_rfl) (fun _ _ _ h => h) (Or.inl ⟨by rfl, fun wx hx => by simp [go_sem]⟩) hS9 ?_
            simp only [Act.put, List.getElem_toArray, List.getElem_cons_succ, List.getElem_cons_zero, List.setIfInBounds_toArray, List.set_cons_zero, List.set_cons_succ]
            refine wpAnyH_take (i := 12) (v := .int .i64 e2) rfl (by kernel_rfl) (by kernel_rfl) (by kernel_rfl) (fun _ _ _ h => h) (Or.inl ⟨by rfl, fun wx hx => by simp [go_sem]⟩) hS9 ?_
            simp only [Act.put, List.getElem_toArray, List.getElem_cons_succ, List.getElem_cons_zero, List.setIfInBounds_toArray, List.set_cons_zero, List.set_cons_succ]
            refine wpAnyH_done (by kernel_rfl) ?_ _
            have HI : Hid (Ct w gi gq gL i cq (.slice adx nx cpx) (.slice adw nx cpw) l wE) := HY.out.next hS9
            have H10 : Hid (Blk wE ga (cb v2) 33) := hb9
            clear hS hS9 hba hb9 hgw HY
            go_wp2
            go_meet
            case rel => exact ⟨ga, rfl, rfl, rfl, HI.out, H10.out⟩
          · have hb := below_alloc z1 (.cells (cb zb32).toArray 33)
            have hba : Blk (z1.alloc (.cells (cb zb32).toArray 33)) z1.heap.size (cb zb32) 33 := Blk.new _ _ _
            have hsz : y0.heap.size ≤ z1.heap.size := Below.size hS
            replace hS := Over.more hS hb
            refine wpOp_vl 9 (.pointer (some ⟨z1.heap.size, 0, none⟩)) (z1.alloc (.cells (cb zb32).toArray 33)) (by rfl) (by rfl) (allocDigest _ _ rfl _) ⟨hS, ?_⟩
            simp only [Act.put, List.getElem_toArray, List.getElem_cons_succ, List.getElem_cons_zero, List.setIfInBounds_toArray, List.set_cons_zero, List.set_cons_succ]
            clear hb
            generalize z1.alloc (.cells (cb zb32).toArray 33) = z4 at *
            obtain ⟨ga, HGA⟩ : ∃ z, Hid (z = z1.heap.size) := ⟨_, rfl⟩
            have hgw : y0.heap.size ≤ ga := by rw [HGA.out]; exact hsz
            rw [← HGA.out] at hba ⊢
            clear HGA hsz
            refine wpAnyH_enter 4 (by kernel_rfl) rfl (by rfl) (f := 18) (args := #[.agg (cb r).toArray, .agg (cb i).toArray, .agg cq.toArray]) (by simp [go_sem]) (HCK.out _ (HY.out.next hS)) ?_
            rintro e z5 ⟨rfl, hb⟩
            replace hS := Over.more hS hb
            replace hba := hba.below hb hba.lt
            refine ⟨_, rfl, hS, ?_⟩
            clear hb
            simp only [Act.put, List.getElem_toArray, List.getElem_cons_succ, List.getElem_cons_zero, List.setIfInBounds_toArray, List.set_cons_zero, List.set_cons_succ]
            refine wpAnyH_take (i := 5) (v := .tuple #[.agg (cb v2).toArray, .bool b2, .int .i64 e2]) rfl (by kernel_rfl) (by kernel_rfl) (by kernel_rfl) (fun _ _ _ h => h) (Or.inl ⟨by rfl, fun wx hx => by simp [go_sem]⟩) hS ?_
            simp only [Act.put, List.getElem_toArray, List.getElem_cons_succ, List.getElem_cons_zero, List.setIfInBounds_toArray, List.set_cons_zero, List.set_cons_succ]
            refine wpAnyH_take (i := 6) (v := .agg (cb v2).toArray) rfl (by kernel_rfl) (by kernel_rfl) (by kernel_rfl) (fun _ _ _ h => h) (Or.inl ⟨by rfl, fun wx hx => by simp [go_sem]⟩) hS ?_
            simp only [Act.put, List.getElem_toArray, List.getElem_cons_succ, List.getElem_cons_zero, List.setIfInBounds_toArray, List.set_cons_zero, List.set_cons_succ]
            refine wpAnyH_take (i := 7) (v := .bool b2) rfl (by kernel_rfl) (by kernel_rfl) (by kernel_rfl) (fun _ _ _ h => h) (Or.inl ⟨by rfl, fun wx hx => by simp [go_sem]⟩) hS ?_
            simp only [Act.put, List.getElem_toArray, List.getElem_cons_succ, List.getElem_cons_zero, List.setIfInBounds_toArray, List.set_cons_zero, List.set_cons_succ]
            refine wpAnyH_take (i := 8) (v := .int .i64 e2) rfl (by kernel_rfl) (by kernel_rfl) (by kernel_rfl) (fun _ _ _ h => h) (Or.inl ⟨by rfl, fun wx hx => by simp [go_sem]⟩) hS ?_
            simp only [Act.put, List.getElem_toArray, List.getElem_cons_succ, List.getElem_cons_zero, List.setIfInBounds_toArray, List.set_cons_zero, List.set_cons_succ]
            refine wpAnyH_law 10 (by kernel_rfl) rfl (by rfl) (wp_store_mid 33 _ _ rfl ga 0 (cb v2).toArray rfl rfl (hba.there 0 _ (by rw [List.size_toArray, cb_len, cb_len, HL2.out]; decide)) (by rw [List.size_toArray, cb_len, HL2.out]; exact info_digest) (all_oneCell_toArray (cb_one v2)) ?_)
            rw [List.toList_toArray]
            have hb9 := hba.whole (cb v2) (by rw [cb_len, cb_len, HL2.out]; rfl)
            have hS9 : Over y0 (z5.setCells ga 0 (cb v2)) := Below.setCells _ hgw _ _ _ hS
            refine ⟨hS9, ?_⟩
            simp only [Act.put, List.getElem_toArray, List.getElem_cons_succ, List.getElem_cons_zero]
            generalize z5.setCells ga 0 (cb v2) = wE at *
            refine wpAnyH_take (i := 11) (v := .bool b2) rfl (by kernel_rfl) (by kernel_rfl) (by kernel_rfl) (fun _ _ _ h => h) (Or.inl ⟨by rfl, fun wx hx => by simp [go_sem]⟩) hS9 ?_
            simp only [Act.put, List.getElem_toArray, List.getElem_cons_succ, List.getElem_cons_zero, List.setIfInBounds_toArray, List.set_cons_zero, List.set_cons_succ]
            refine wpAnyH_take (i := 12) (v := .int .i64 e2) rfl (by kernel_rfl) (by kernel_rfl) (by kernel_rfl) (fun _ _ _ h => h) (Or.inl ⟨by rfl, fun wx hx => by simp [go_sem]⟩) hS9 ?_
            simp only [Act.put, List.getElem_toArray, List.getElem_cons_succ, List.getElem_cons_zero, List.setIfInBounds_toArray, List.set_cons_zero, List.set_cons_succ]
            refine wpAnyH_done (by kernel_rfl) ?_ _
            have HI : Hid (Ct w gi gq gL i cq (.slice adx nx cpx) (.slice adw nx cpw) l wE) := HY.out.next hS9
            have H10 : Hid (Blk wE ga (cb v2) 33) := hb9
            clear hS hS9 hba hb9 hgw HY
            go_wp2
            go_meet
            case rel => exact ⟨ga, rfl, rfl, rfl, HI.out, H10.out⟩
        · have hb := below_alloc y0 (.cells (cb zb32).toArray 33)
          have hba : Blk (y0.alloc (.cells (cb zb32).toArray 33)) y0.heap.size (cb zb32) 33 := Blk.new _ _ _
          have hsz : y0.heap.size ≤ y0.heap.size := Below.size hS
          replace hS := Over.more hS hb
          refine wpOp_vl 9 (.pointer (some ⟨y0.heap.size, 0, none⟩)) (y0.alloc (.cells (cb zb32).toArray 33)) (by rfl) (by rfl) (allocDigest _ _ rfl _) ⟨hS, ?_⟩
          simp only [Act.put, List.getElem_toArray, List.getElem_cons_succ, List.getElem_cons_zero, List.setIfInBounds_toArray, List.set_cons_zero, List.set_cons_succ]
          clear hb
          generalize y0.alloc (.cells (cb zb32).toArray 33) = z6 at *
          obtain ⟨ga, HGA⟩ : ∃ z, Hid (z = y0.heap.size) := ⟨_, rfl⟩
          have hgw : y0.heap.size ≤ ga := by rw [HGA.out]; exact hsz
          rw [← HGA.out] at hba ⊢
          clear HGA hsz
          refine wpAnyH_enter 1 (by kernel_rfl) rfl (by rfl) (f := 20) (args := #[.agg #[.slice adx nx cpx, .slice adw nx cpw], .int .i64 0]) (by simp [go_sem]) (HCR.out _ (HY.out.next hS)) ?_
          rintro e z7 ⟨rfl, hb⟩
          replace hS := Over.more hS hb
          replace hba := hba.below hb hba.lt
          refine ⟨_, rfl, hS, ?_⟩
          clear hb
          simp only [Act.put, List.getElem_toArray, List.getElem_cons_succ, List.getElem_cons_zero, List.setIfInBounds_toArray, List.set_cons_zero, List.set_cons_succ]
          refine wpAnyH_enter 4 (by kernel_rfl) rfl (by rfl) (f := 18) (args := #[.agg (cb r).toArray, .agg (cb i).toArray, .agg cq.toArray]) (by simp [go_sem]) (HCK.out _ (HY.out.next hS)) ?_
          rintro e z8 ⟨rfl, hb⟩
          replace hS := Over.more hS hb
          replace hba := hba.below hb hba.lt
          refine ⟨_, rfl, hS, ?_⟩
          clear hb
          simp only [Act.put, List.getElem_toArray, List.getElem_cons_succ, List.getElem_cons_zero, List.setIfInBounds_toArray, List.set_cons_zero, List.set_cons_succ]
          refine wpAnyH_take (i := 5) (v := .tuple #[.agg (cb v2).toArray, .bool b2, .int .i64 e2]) rfl (by kernel_rfl) (by kernel_rfl) (by kernel_rfl) (fun _ _ _ h => h) (Or.inl ⟨by rfl, fun wx hx => by simp [go_sem]⟩) hS ?_
          simp only [Act.put, List.getElem_toArray, List.getElem_cons_succ, List.getElem_cons_zero, List.setIfInBounds_toArray, List.set_cons_zero, List.set_cons_succ]
          refine wpAnyH_take (i := 6) (v := .agg (cb v2).toArray) rfl (by kernel_rfl) (by kernel_rfl) (by kernel_rfl) (fun _ _ _ h => h) (Or.inl ⟨by rfl, fun wx hx => by simp [go_sem]⟩) hS ?_
          simp only [Act.put, List.getElem_toArray, List.getElem_cons_succ, List.getElem_cons_zero, List.setIfInBounds_toArray, List.set_cons_zero, List.set_cons_succ]
          refine wpAnyH_take (i := 7) (v := .bool b2) rfl (by kernel_rfl) (by kernel_rfl) (by kernel_rfl) (fun _ _ _ h => h) (Or.inl ⟨by rfl, fun wx hx => by simp [go_sem]⟩) hS ?_
          simp only [Act.put, List.getElem_toArray, List.getElem_cons_succ, List.getElem_cons_zero, List.setIfInBounds_toArray, List.set_cons_zero, List.set_cons_succ]
          refine wpAnyH_take (i := 8) (v := .int .i64 e2) rfl (by kernel_rfl) (by kernel_rfl) (by kernel_rfl) (fun _ _ _ h => h) (Or.inl ⟨by rfl, fun wx hx => by simp [go_sem]⟩) hS ?_
          simp only [Act.put, List.getElem_toArray, List.getElem_cons_succ, List.getElem_cons_zero, List.setIfInBounds_toArray, List.set_cons_zero, List.set_cons_succ]
          refine wpAnyH_law 10 (by kernel_rfl) rfl (by rfl) (wp_store_mid 33 _ _ rfl ga 0 (cb v2).toArray rfl rfl (hba.there 0 _ (by rw [List.size_toArray, cb_len, cb_len, HL2.out]; decide)) (by rw [List.size_toArray, cb_len, HL2.out]; exact info_digest) (all_oneCell_toArray (cb_one v2)) ?_)
          rw [List.toList_toArray]
          have hb9 := hba.whole (cb v2) (by rw [cb_len, cb_len, HL2.out]; rfl)
          have hS9 : Over y0 (z8.setCells ga 0 (cb v2)) := Below.setCells _ hgw _ _ _ hS
          refine ⟨hS9, ?_⟩
          simp only [Act.put, List.getElem_toArray, List.getElem_cons_succ, List.getElem_cons_zero]
          generalize z8.setCells ga 0 (cb v2) = wE at *
          refine wpAnyH_take (i := 11) (v := .bool b2) rfl (by kernel_rfl) (by kernel_rfl) (by kernel_rfl) (fun _ _ _ h => h) (Or.inl ⟨by rfl, fun wx hx => by simp [go_sem]⟩) hS9 ?_
          simp only [Act.put, List.getElem_toArray, List.getElem_cons_succ, List.getElem_cons_zero, List.setIfInBounds_toArray, List.set_cons_zero, List.set_cons_succ]
          refine wpAnyH_take (i := 12) (v := .int .i64 e2) rfl (by kernel_rfl) (by kernel_rfl) (by kernel_rfl) (fun _ _ _ h => h) (Or.inl ⟨by rfl, fun wx hx => by simp [go_sem]⟩) hS9 ?_
          simp only [Act.put, List.getElem_toArray, List.getElem_cons_succ, List.getElem_cons_zero, List.setIfInBounds_toArray, List.set_cons_zero, List.set_cons_succ]
          refine wpAnyH_done (by kernel_rfl) ?_ _
          have HI : Hid (Ct w gi gq gL i cq (.slice adx nx cpx) (.slice adw nx cpw) l wE) := HY.out.next hS9
          have H10 : Hid (Blk wE ga (cb v2) 33) := hb9
          clear hS hS9 hba hb9 hgw HY
          go_wp2
          go_meet
          case rel => exact ⟨ga, rfl, rfl, rfl, HI.out, H10.out⟩
      case rest =>
        clear HI
        obtain ⟨g10, rfl, rfl, rfl, hI, h10⟩ := hcut
        have HI : Hid (Ct w gi gq gL i cq (.slice adx nx cpx) (.slice adw nx cpw) l wc) := hI
        have H10 : Hid (Blk wc g10 (cb v2) 33) := h10
        clear hI h10
        go_upto_region 6 with (first
          | (with_reducible refine wpSeq_loadLv (.tmp 9) gL (.slice adx nx cpx) (.slice adw nx cpw) ?_ ?_ ?_ ?_ ?_
             · exact HI.out.lb
             · rfl
             · rfl
             · rfl)
          | (with_reducible refine wpSeq_loadD (.tmp 6) gi i ?_ ?_ ?_ ?_ ?_ ?_
             · exact HIL.out
             · exact HI.out.ib
             · with_reducible rfl
             · rfl
             · rfl)
          | (go_at_call 21; refine (HCG.out _ HI.out).mono ?_; rintro e wa ⟨rfl, hbz⟩
             replace HI : Hid (Ct w gi gq gL i cq (.slice adx nx cpx) (.slice adw nx cpw) l wa) := HI.out.next hbz
             replace H10 : Hid (Blk wa g10 (cb v2) 33) := H10.out.below hbz H10.out.lt
             clear hbz HCG)
          | (with_reducible refine wpSeq_allocD ?_ ?_ ?_
             · rfl
             · rfl
             intro g13 wb nn13)
          | (with_reducible refine wpSeq_storeD (.tmp 13) (.tmp 43) g13 zb32 v1 ?_ ?_ ?_ ?_ ?_ ?_ ?_ ?_
             · rfl
             · exact HL1.out
             · exact nn13.blk
             · rfl
             · rfl
             · rfl
             · rfl
             intro wd h8
             have N13 := nn13.set h8
             replace HI : Hid (Ct w gi gq gL i cq (.slice adx nx cpx) (.slice adw nx cpw) l wd) := HI.out.next N13.below
             replace H10 : Hid (Blk wd g10 (cb v2) 33) := H10.out.below N13.below H10.out.lt
             have H13 : Hid (Blk wd g13 (cb v1) 33) := N13.blk
             clear nn13 h8 N13))
        rcases chk_open (checkW r i sq eq ixq vaq) with ⟨_, q2⟩ | ⟨a2, q2, q2e, q2v, q2b⟩
        · obtain rfl : e2 = 15 := by rw [HE2.out, q2]
          clear q2
          go_wp2_with (first
            | (with_reducible refine wpSeq_loadD (.tmp 10) g10 v2 ?_ ?_ ?_ ?_ ?_ ?_
               · exact HL2.out
               · exact H10.out
               · with_reducible rfl
               · rfl
               · rfl)
            | (with_reducible refine wpSeq_loadD (.tmp 13) g13 v1 ?_ ?_ ?_ ?_ ?_ ?_
               · exact HL1.out
               · exact H13.out
               · with_reducible rfl
               · rfl
               · rfl)
            | (go_at_call 13; refine (HWK.out _ HI.out.bel).mono ?_; rintro e wz ⟨rfl, hbz⟩
               replace HI : Hid (Ct w gi gq gL i cq (.slice adx nx cpx) (.slice adw nx cpw) l wz) := HI.out.next hbz
               clear hbz))
          go_ret
          exact ⟨rfl, HI.out.bel⟩
        · obtain rfl : e2 = 0 := by rw [HE2.out, q2e]
          have HD1 : Hid (v2 ≠ v1 → a1 ≠ a2) := fun h e => h (by rw [HV1.out, HV2.out, q2v, e])
          have HD2 : Hid (b2 ≠ b1 → a1 ≠ a2) := fun h e => h (by rw [HB1.out, HB2.out, q2b, e])
          clear q2e q2v q2b HV1 HV2 HB1 HB2 HE2
          by_cases hv : v2 = v1
          · have hq : ∀ wx : World, (Op.equalIn 10000 33 (.agg (cb v2).toArray) (.agg (cb v1).toArray)).run Tryd.prog wx = .ok true wx := fun wx => by rw [hv]; exact eq_dig_same v1 HL1.out wx
            clear hv
            cases b2 <;> cases b1
            · clear HD1 HD2 q2 HTWO
              go_wp2_with (first
                | (with_reducible refine wpSeq_loadD (.tmp 10) g10 v2 ?_ ?_ ?_ ?_ ?_ ?_
                   · exact HL2.out
                   · exact H10.out
                   · with_reducible rfl
                   · rfl
                   · rfl)
                | (with_reducible refine wpSeq_loadD (.tmp 13) g13 v1 ?_ ?_ ?_ ?_ ?_ ?_
                   · exact HL1.out
                   · exact H13.out
                   · with_reducible rfl
                   · rfl
                   · rfl)
                | (go_at_call 13; refine (HWK.out _ HI.out.bel).mono ?_; rintro e wz ⟨rfl, hbz⟩
                   replace HI : Hid (Ct w gi gq gL i cq (.slice adx nx cpx) (.slice adw nx cpw) l wz) := HI.out.next hbz
                   clear hbz))
              go_ret
              exact ⟨rfl, HI.out.bel⟩
            · have hne : a1 ≠ a2 := HD2.out (by decide)
              clear HD1 HD2
              have HTW2 : Hid (twoL (hashL i (endB pe.1 pe.2.1 pe.2.2) 0 sp) (hashL i (endB eq ixq vaq) 0 sq)) := HTWO.out a2 q2 hne
              clear HTWO q2 hne
              go_upto_region 8 with (first
                | (with_reducible refine wpSeq_loadD (.tmp 10) g10 v2 ?_ ?_ ?_ ?_ ?_ ?_
                   · exact HL2.out
                   · exact H10.out
                   · with_reducible rfl
                   · rfl
                   · rfl)
                | (with_reducible refine wpSeq_loadD (.tmp 13) g13 v1 ?_ ?_ ?_ ?_ ?_ ?_
                   · exact HL1.out
                   · exact H13.out
                   · with_reducible rfl
                   · rfl
                   · rfl))
              clear hq
              have HY : Hid (Ct w gi gq gL i cq (.slice adx nx cpx) (.slice adw nx cpw) l (World.drew wd)) := HI.out.next (Below.refl _ _).drew
              clear HI H10 H13
              refine wp_region_held_drew (S := Over (World.drew wd)) (by kernel_rfl) (Over.refl _) ?_
              intro hS
              change wpAnyH _ _ _ _ _ _ _ _ (World.drew wd)
              generalize World.drew wd = y5 at *
              refine wpAnyH_take (i := 0) (v := .agg (cb i).toArray) rfl (by kernel_rfl) (by kernel_rfl) (by kernel_rfl) (fun _ _ _ h => h) (Or.inl ⟨by rfl, fun wx hx => by exact loadDigest _ gi i HIL.out (HY.out.next hx).ib rfl rfl⟩) hS ?_
              simp only [Act.put, List.getElem_toArray, List.getElem_cons_zero, List.setIfInBounds_toArray, List.set_cons_zero, List.set_cons_succ]
              refine wpAnyH_take (i := 1) (v := .agg #[.slice adx nx cpx, .slice adw nx cpw]) rfl (by kernel_rfl) (by kernel_rfl) (by kernel_rfl) (fun _ _ _ h => h) (Or.inl ⟨by rfl, fun wx hx => by exact load_run 47 _ rfl gL 0 rfl [.slice adx nx cpx, .slice adw nx cpw] _ (HY.out.next hx).lb.range Tryd.underlying47 rfl info_leaves⟩) hS ?_
              simp only [Act.put, List.getElem_toArray, List.getElem_cons_succ, List.getElem_cons_zero, List.setIfInBounds_toArray, List.set_cons_zero, List.set_cons_succ]
              refine wpAnyH_take (i := 2) (v := .agg (cb i).toArray) rfl (by kernel_rfl) (by kernel_rfl) (by kernel_rfl) (fun _ _ _ h => h) (Or.inl ⟨by rfl, fun wx hx => by exact loadDigest _ gi i HIL.out (HY.out.next hx).ib rfl rfl⟩) hS ?_
              simp only [Act.put, List.getElem_toArray, List.getElem_cons_succ, List.getElem_cons_zero, List.setIfInBounds_toArray, List.set_cons_zero, List.set_cons_succ]
              refine wpAnyH_take (i := 4) (v := .agg cq.toArray) rfl (by kernel_rfl) (by kernel_rfl) (by kernel_rfl) (fun _ _ _ h => h) (Or.inl ⟨by rfl, fun wx hx => by exact load_run 36 _ rfl gq 0 rfl cq _ (HY.out.next hx).qb.range Tryd.underlying36 rfl (by rw [HQ6.out]; exact info_proof)⟩) hS ?_
              simp only [Act.put, List.getElem_toArray, List.getElem_cons_succ, List.getElem_cons_zero, List.setIfInBounds_toArray, List.set_cons_zero, List.set_cons_succ]
              refine wpAnyH_enter 3 (by kernel_rfl) rfl (by rfl) (f := 22) (args := #[.agg #[.slice adx nx cpx, .slice adw nx cpw], .agg (cb i).toArray]) (by simp [go_sem]) (HCV.out _ (HY.out.next hS)) ?_
              rintro e y6 ⟨vs, rfl, hvs, hb⟩
              obtain ⟨av, cv, hsv⟩ := hvs.slice
              obtain ⟨nv, HNV⟩ : ∃ z, Hid (z = sp.length) := ⟨_, rfl⟩
              rw [← HNV.out] at hsv
              subst hsv
              replace hS := Over.more hS hb
              refine ⟨_, rfl, hS, ?_⟩
              clear hb
              simp only [Act.put, List.getElem_toArray, List.getElem_cons_succ, List.getElem_cons_zero, List.setIfInBounds_toArray, List.set_cons_zero, List.set_cons_succ]
              have HC8 : Hid (Calls Tryd.prog 15 #[.agg (cb i).toArray, .agg (prfV (.slice av nv cv) pe.1 pe.2.1 pe.2.2).toArray, .agg cq.toArray] y6 fun e w' => ∃ x y s t, e = .returned (.tuple #[x, y, .bool true]) ∧ Reads w' x s ∧ Reads w' y t ∧ s.length ≤ 65 ∧ t.length ≤ 65 ∧ pairB9 s t = true ∧ Below y6.heap.size y6 w') := by
                have h0 := (HY.out.next hS).bel
                rw [HCQ.out]
                refine (HCO.out.ways y6 i _ sp pe.1 pe.2.1 pe.2.2 vq sq eq ixq vaq (HK0.out.below h0 HK0.out.lt) HIL.out HP32.out.1 HP32.out.2 HQ1.out HQ2.out hvs (HRQ.out.below h0) (by have := HS3.out; omega) HQ3.out).mono fun e w' h => ?_
                obtain ⟨x, y, o, g1, g2, g3⟩ := h
                obtain ⟨s, t, g4, g5, g6⟩ := g2.both
                have g7 := first_len (hashL_le i _ (endB_le HP32.out.1 HP32.out.2) sp 0 HSL.out) (hashL_le i _ (endB_le HQ1.out HQ2.out) sq 0 HRQ.out.2) g6
                obtain ⟨k, hfk⟩ := twoL_first HTW2.out
                rcases g6 with ⟨k', rfl, _, _, _, g8⟩ | ⟨_, g8, _⟩
                · exact ⟨x, y, s, t, g1, g4, g5, g7.1, g7.2, g8, g3⟩
                · rw [hfk] at g8; cases g8
              refine wpAnyH_enter 5 (by kernel_rfl) rfl (by rfl) (f := 15) (args := #[.agg (cb i).toArray, .agg (prfV (.slice av nv cv) pe.1 pe.2.1 pe.2.2).toArray, .agg cq.toArray]) (by simp [go_sem]) HC8.out ?_
              rintro e y7 ⟨vx, vy, s, t, rfl, hs, ht, hsl, htl, hpt, hb⟩
              obtain ⟨ax, nx2, cx, hvx⟩ := hs.form
              subst hvx
              obtain ⟨ay, ny, cy, hvy⟩ := ht.form
              subst hvy
              replace hS := Over.more hS hb
              refine ⟨_, rfl, hS, ?_⟩
              clear hb HC8 hvs
              simp only [Act.put, List.getElem_toArray, List.getElem_cons_succ, List.getElem_cons_zero, List.setIfInBounds_toArray, List.set_cons_zero, List.set_cons_succ]
              refine wpAnyH_take (i := 6) (v := .tuple #[.slice ax nx2 cx, .slice ay ny cy, .bool true]) rfl (by kernel_rfl) (by kernel_rfl) (by kernel_rfl) (fun _ _ _ h => h) (Or.inl ⟨by rfl, fun wx hx => by simp [go_sem]⟩) hS ?_
              simp only [Act.put, List.getElem_toArray, List.getElem_cons_succ, List.getElem_cons_zero, List.setIfInBounds_toArray, List.set_cons_zero, List.set_cons_succ]
              refine wpAnyH_take (i := 7) (v := .slice ax nx2 cx) rfl (by kernel_rfl) (by kernel_rfl) (by kernel_rfl) (fun _ _ _ h => h) (Or.inl ⟨by rfl, fun wx hx => by simp [go_sem]⟩) hS ?_
              simp only [Act.put, List.getElem_toArray, List.getElem_cons_succ, List.getElem_cons_zero, List.setIfInBounds_toArray, List.set_cons_zero, List.set_cons_succ]
              refine wpAnyH_take (i := 8) (v := .slice ay ny cy) rfl (by kernel_rfl) (by kernel_rfl) (by kernel_rfl) (fun _ _ _ h => h) (Or.inl ⟨by rfl, fun wx hx => by simp [go_sem]⟩) hS ?_
              simp only [Act.put, List.getElem_toArray, List.getElem_cons_succ, List.getElem_cons_zero, List.setIfInBounds_toArray, List.set_cons_zero, List.set_cons_succ]
              refine wpAnyH_take (i := 9) (v := .bool true) rfl (by kernel_rfl) (by kernel_rfl) (by kernel_rfl) (fun _ _ _ h => h) (Or.inl ⟨by rfl, fun wx hx => by simp [go_sem]⟩) hS ?_
              simp only [Act.put, List.getElem_toArray, List.getElem_cons_succ, List.getElem_cons_zero, List.setIfInBounds_toArray, List.set_cons_zero, List.set_cons_succ]
              refine wpAnyH_take (i := 10) (v := .slice ax nx2 cx) rfl (by kernel_rfl) (by kernel_rfl) (by kernel_rfl) (fun _ _ _ h => h) (Or.inl ⟨by rfl, fun wx hx => by simp [go_sem]⟩) hS ?_
              simp only [Act.put, List.getElem_toArray, List.getElem_cons_succ, List.getElem_cons_zero, List.setIfInBounds_toArray, List.set_cons_zero, List.set_cons_succ]
              refine wpAnyH_take (i := 11) (v := .slice ay ny cy) rfl (by kernel_rfl) (by kernel_rfl) (by kernel_rfl) (fun _ _ _ h => h) (Or.inl ⟨by rfl, fun wx hx => by simp [go_sem]⟩) hS ?_
              simp only [Act.put, List.getElem_toArray, List.getElem_cons_succ, List.getElem_cons_zero, List.setIfInBounds_toArray, List.set_cons_zero, List.set_cons_succ]
              refine wpAnyH_take (i := 12) (v := .bool true) rfl (by kernel_rfl) (by kernel_rfl) (by kernel_rfl) (fun _ _ _ h => h) (Or.inl ⟨by rfl, fun wx hx => by simp [go_sem]⟩) hS ?_
              simp only [Act.put, List.getElem_toArray, List.getElem_cons_succ, List.getElem_cons_zero, List.setIfInBounds_toArray, List.set_cons_zero, List.set_cons_succ]
              refine wpAnyH_done (by kernel_rfl) ?_ _
              have HI : Hid (Ct w gi gq gL i cq (.slice adx nx cpx) (.slice adw nx cpw) l y7) := HY.out.next hS
              have HC5 : Hid (Calls Tryd.prog 12 #[.slice ax nx2 cx, .slice ay ny cy] y7 fun e w' => e = .returned (.bool true) ∧ Below y7.heap.size y7 w') := by
                have h := qPair_any _ _ s t y7 hs ht (by omega) (by omega)
                rw [hpt] at h
                exact h
              clear hS hs ht hsl htl hpt HY
              go_wp2_with (first
                | (go_at_call 12; refine HC5.out.mono ?_; rintro e wf ⟨rfl, hbz⟩
                   replace HI : Hid (Ct w gi gq gL i cq (.slice adx nx cpx) (.slice adw nx cpw) l wf) := HI.out.next hbz
                   clear hbz HC5)
                | (go_at_call 13; refine (HWK.out _ HI.out.bel).mono ?_; rintro e wz ⟨rfl, hbz⟩
                   replace HI : Hid (Ct w gi gq gL i cq (.slice adx nx cpx) (.slice adw nx cpw) l wz) := HI.out.next hbz
                   clear hbz))
              go_ret
              exact ⟨rfl, HI.out.bel⟩
            · have hne : a1 ≠ a2 := HD2.out (by decide)
              clear HD1 HD2
              have HTW2 : Hid (twoL (hashL i (endB pe.1 pe.2.1 pe.2.2) 0 sp) (hashL i (endB eq ixq vaq) 0 sq)) := HTWO.out a2 q2 hne
              clear HTWO q2 hne
              go_upto_region 8 with (first
                | (with_reducible refine wpSeq_loadD (.tmp 10) g10 v2 ?_ ?_ ?_ ?_ ?_ ?_
                   · exact HL2.out
                   · exact H10.out
                   · with_reducible rfl
                   · rfl
                   · rfl)
                | (with_reducible refine wpSeq_loadD (.tmp 13) g13 v1 ?_ ?_ ?_ ?_ ?_ ?_
                   · exact HL1.out
                   · exact H13.out
                   · with_reducible rfl
                   · rfl
                   · rfl))
              clear hq
              have HY : Hid (Ct w gi gq gL i cq (.slice adx nx cpx) (.slice adw nx cpw) l (World.drew wd)) := HI.out.next (Below.refl _ _).drew
              clear HI H10 H13
              refine wp_region_held_drew (S := Over (World.drew wd)) (by kernel_rfl) (Over.refl _) ?_
              intro hS
              change wpAnyH _ _ _ _ _ _ _ _ (World.drew wd)
              generalize World.drew wd = y5 at *
              refine wpAnyH_take (i := 0) (v := .agg (cb i).toArray) rfl (by kernel_rfl) (by kernel_rfl) (by kernel_rfl) (fun _ _ _ h => h) (Or.inl ⟨by rfl, fun wx hx => by exact loadDigest _ gi i HIL.out (HY.out.next hx).ib rfl rfl⟩) hS ?_
              simp only [Act.put, List.getElem_toArray, List.getElem_cons_zero, List.setIfInBounds_toArray, List.set_cons_zero, List.set_cons_succ]
              refine wpAnyH_take (i := 1) (v := .agg #[.slice adx nx cpx, .slice adw nx cpw]) rfl (by kernel_rfl) (by kernel_rfl) (by kernel_rfl) (fun _ _ _ h => h) (Or.inl ⟨by rfl, fun wx hx => by exact load_run 47 _ rfl gL 0 rfl [.slice adx nx cpx, .slice adw nx cpw] _ (HY.out.next hx).lb.range Tryd.underlying47 rfl info_leaves⟩) hS ?_
              simp only [Act.put, List.getElem_toArray, List.getElem_cons_succ, List.getElem_cons_zero, List.setIfInBounds_toArray, List.set_cons_zero, List.set_cons_succ]
              refine wpAnyH_take (i := 2) (v := .agg (cb i).toArray) rfl (by kernel_rfl) (by kernel_rfl) (by kernel_rfl) (fun _ _ _ h => h) (Or.inl ⟨by rfl, fun wx hx => by exact loadDigest _ gi i HIL.out (HY.out.next hx).ib rfl rfl⟩) hS ?_
              simp only [Act.put, List.getElem_toArray, List.getElem_cons_succ, List.getElem_cons_zero, List.setIfInBounds_toArray, List.set_cons_zero, List.set_cons_succ]
              refine wpAnyH_take (i := 4) (v := .agg cq.toArray) rfl (by kernel_rfl) (by kernel_rfl) (by kernel_rfl) (fun _ _ _ h => h) (Or.inl ⟨by rfl, fun wx hx => by exact load_run 36 _ rfl gq 0 rfl cq _ (HY.out.next hx).qb.range Tryd.underlying36 rfl (by rw [HQ6.out]; exact info_proof)⟩) hS ?_
              simp only [Act.put, List.getElem_toArray, List.getElem_cons_succ, List.getElem_cons_zero, List.setIfInBounds_toArray, List.set_cons_zero, List.set_cons_succ]
              refine wpAnyH_enter 3 (by kernel_rfl) rfl (by rfl) (f := 22) (args := #[.agg #[.slice adx nx cpx, .slice adw nx cpw], .agg (cb i).toArray]) (by simp [go_sem]) (HCV.out _ (HY.out.next hS)) ?_
              rintro e y6 ⟨vs, rfl, hvs, hb⟩
              obtain ⟨av, cv, hsv⟩ := hvs.slice
              obtain ⟨nv, HNV⟩ : ∃ z, Hid (z = sp.length) := ⟨_, rfl⟩
              rw [← HNV.out] at hsv
              subst hsv
              replace hS := Over.more hS hb
              refine ⟨_, rfl, hS, ?_⟩
              clear hb
              simp only [Act.put, List.getElem_toArray, List.getElem_cons_succ, List.getElem_cons_zero, List.setIfInBounds_toArray, List.set_cons_zero, List.set_cons_succ]
              have HC8 : Hid (Calls Tryd.prog 15 #[.agg (cb i).toArray, .agg (prfV (.slice av nv cv) pe.1 pe.2.1 pe.2.2).toArray, .agg cq.toArray] y6 fun e w' => ∃ x y s t, e = .returned (.tuple #[x, y, .bool true]) ∧ Reads w' x s ∧ Reads w' y t ∧ s.length ≤ 65 ∧ t.length ≤ 65 ∧ pairB9 s t = true ∧ Below y6.heap.size y6 w') := by
                have h0 := (HY.out.next hS).bel
                rw [HCQ.out]
                refine (HCO.out.ways y6 i _ sp pe.1 pe.2.1 pe.2.2 vq sq eq ixq vaq (HK0.out.below h0 HK0.out.lt) HIL.out HP32.out.1 HP32.out.2 HQ1.out HQ2.out hvs (HRQ.out.below h0) (by have := HS3.out; omega) HQ3.out).mono fun e w' h => ?_
                obtain ⟨x, y, o, g1, g2, g3⟩ := h
                obtain ⟨s, t, g4, g5, g6⟩ := g2.both
                have g7 := first_len (hashL_le i _ (endB_le HP32.out.1 HP32.out.2) sp 0 HSL.out) (hashL_le i _ (endB_le HQ1.out HQ2.out) sq 0 HRQ.out.2) g6
                obtain ⟨k, hfk⟩ := twoL_first HTW2.out
                rcases g6 with ⟨k', rfl, _, _, _, g8⟩ | ⟨_, g8, _⟩
                · exact ⟨x, y, s, t, g1, g4, g5, g7.1, g7.2, g8, g3⟩
                · rw [hfk] at g8; cases g8
              refine wpAnyH_enter 5 (by kernel_rfl) rfl (by rfl) (f := 15) (args := #[.agg (cb i).toArray, .agg (prfV (.slice av nv cv) pe.1 pe.2.1 pe.2.2).toArray, .agg cq.toArray]) (by simp [go_sem]) HC8.out ?_
              rintro e y7 ⟨vx, vy, s, t, rfl, hs, ht, hsl, htl, hpt, hb⟩
              obtain ⟨ax, nx2, cx, hvx⟩ := hs.form
              subst hvx
              obtain ⟨ay, ny, cy, hvy⟩ := ht.form
              subst hvy
              replace hS := Over.more hS hb
              refine ⟨_, rfl, hS, ?_⟩
              clear hb HC8 hvs
              simp only [Act.put, List.getElem_toArray, List.getElem_cons_succ, List.getElem_cons_zero, List.setIfInBounds_toArray, List.set_cons_zero, List.set_cons_succ]
              refine wpAnyH_take (i := 6) (v := .tuple #[.slice ax nx2 cx, .slice ay ny cy, .bool true]) rfl (by kernel_rfl) (by kernel_rfl) (by kernel_rfl) (fun _ _ _ h => h) (Or.inl ⟨by rfl, fun wx hx => by simp [go_sem]⟩) hS ?_
              simp only [Act.put, List.getElem_toArray, List.getElem_cons_succ, List.getElem_cons_zero, List.setIfInBounds_toArray, List.set_cons_zero, List.set_cons_succ]
              refine wpAnyH_take (i := 7) (v := .slice ax nx2 cx) rfl (by kernel_rfl) (by kernel_rfl) (by kernel_rfl) (fun _ _ _ h => h) (Or.inl ⟨by rfl, fun wx hx => by simp [go_sem]⟩) hS ?_
              simp only [Act.put, List.getElem_toArray, List.getElem_cons_succ, List.getElem_cons_zero, List.setIfInBounds_toArray, List.set_cons_zero, List.set_cons_succ]
              refine wpAnyH_take (i := 8) (v := .slice ay ny cy) rfl (by kernel_rfl) (by kernel_rfl) (by kernel_rfl) (fun _ _ _ h => h) (Or.inl ⟨by rfl, fun wx hx => by simp [go_sem]⟩) hS ?_
              simp only [Act.put, List.getElem_toArray, List.getElem_cons_succ, List.getElem_cons_zero, List.setIfInBounds_toArray, List.set_cons_zero, List.set_cons_succ]
              refine wpAnyH_take (i := 9) (v := .bool true) rfl (by kernel_rfl) (by kernel_rfl) (by kernel_rfl) (fun _ _ _ h => h) (Or.inl ⟨by rfl, fun wx hx => by simp [go_sem]⟩) hS ?_
              simp only [Act.put, List.getElem_toArray, List.getElem_cons_succ, List.getElem_cons_zero, List.setIfInBounds_toArray, List.set_cons_zero, List.set_cons_succ]
              refine wpAnyH_take (i := 10) (v := .slice ax nx2 cx) rfl (by kernel_rfl) (by kernel_rfl) (by kernel_rfl) (fun _ _ _ h => h) (Or.inl ⟨by rfl, fun wx hx => by simp [go_sem]⟩) hS ?_
              simp only [Act.put, List.getElem_toArray, List.getElem_cons_succ, List.getElem_cons_zero, List.setIfInBounds_toArray, List.set_cons_zero, List.set_cons_succ]
              refine wpAnyH_take (i := 11) (v := .slice ay ny cy) rfl (by kernel_rfl) (by kernel_rfl) (by kernel_rfl) (fun _ _ _ h => h) (Or.inl ⟨by rfl, fun wx hx => by simp [go_sem]⟩) hS ?_
              simp only [Act.put, List.getElem_toArray, List.getElem_cons_succ, List.getElem_cons_zero, List.setIfInBounds_toArray, List.set_cons_zero, List.set_cons_succ]
              refine wpAnyH_take (i := 12) (v := .bool true) rfl (by kernel_rfl) (by kernel_rfl) (by kernel_rfl) (fun _ _ _ h => h) (Or.inl ⟨by rfl, fun wx hx => by simp [go_sem]⟩) hS ?_
              simp only [Act.put, List.getElem_toArray, List.getElem_cons_succ, List.getElem_cons_zero, List.setIfInBounds_toArray, List.set_cons_zero, List.set_cons_succ]
              refine wpAnyH_done (by kernel_rfl) ?_ _
              have HI : Hid (Ct w gi gq gL i cq (.slice adx nx cpx) (.slice adw nx cpw) l y7) := HY.out.next hS
              have HC5 : Hid (Calls Tryd.prog 12 #[.slice ax nx2 cx, .slice ay ny cy] y7 fun e w' => e = .returned (.bool true) ∧ Below y7.heap.size y7 w') := by
                have h := qPair_any _ _ s t y7 hs ht (by omega) (by omega)
                rw [hpt] at h
                exact h
              clear hS hs ht hsl htl hpt HY
              go_wp2_with (first
                | (go_at_call 12; refine HC5.out.mono ?_; rintro e wf ⟨rfl, hbz⟩
                   replace HI : Hid (Ct w gi gq gL i cq (.slice adx nx cpx) (.slice adw nx cpw) l wf) := HI.out.next hbz
                   clear hbz HC5)
                | (go_at_call 13; refine (HWK.out _ HI.out.bel).mono ?_; rintro e wz ⟨rfl, hbz⟩
                   replace HI : Hid (Ct w gi gq gL i cq (.slice adx nx cpx) (.slice adw nx cpw) l wz) := HI.out.next hbz
                   clear hbz))
              go_ret
              exact ⟨rfl, HI.out.bel⟩
            · clear HD1 HD2 q2 HTWO
              go_wp2_with (first
                | (with_reducible refine wpSeq_loadD (.tmp 10) g10 v2 ?_ ?_ ?_ ?_ ?_ ?_
                   · exact HL2.out
                   · exact H10.out
                   · with_reducible rfl
                   · rfl
                   · rfl)
                | (with_reducible refine wpSeq_loadD (.tmp 13) g13 v1 ?_ ?_ ?_ ?_ ?_ ?_
                   · exact HL1.out
                   · exact H13.out
                   · with_reducible rfl
                   · rfl
                   · rfl)
                | (go_at_call 13; refine (HWK.out _ HI.out.bel).mono ?_; rintro e wz ⟨rfl, hbz⟩
                   replace HI : Hid (Ct w gi gq gL i cq (.slice adx nx cpx) (.slice adw nx cpw) l wz) := HI.out.next hbz
                   clear hbz))
              go_ret
              exact ⟨rfl, HI.out.bel⟩
          · have hq : ∀ wx : World, (Op.equalIn 10000 33 (.agg (cb v2).toArray) (.agg (cb v1).toArray)).run Tryd.prog wx = .ok false wx := fun wx => by have h := eq_dig v2 v1 HL2.out HL1.out wx; rw [decide_eq_false hv] at h; exact h
            have hne : a1 ≠ a2 := HD1.out hv
            clear hv HD1 HD2
            have HTW2 : Hid (twoL (hashL i (endB pe.1 pe.2.1 pe.2.2) 0 sp) (hashL i (endB eq ixq vaq) 0 sq)) := HTWO.out a2 q2 hne
            clear HTWO q2 hne
            go_upto_region 8 with (first
              | (with_reducible refine wpSeq_loadD (.tmp 10) g10 v2 ?_ ?_ ?_ ?_ ?_ ?_
                 · exact HL2.out
                 · exact H10.out
                 · with_reducible rfl
                 · rfl
                 · rfl)
              | (with_reducible refine wpSeq_loadD (.tmp 13) g13 v1 ?_ ?_ ?_ ?_ ?_ ?_
                 · exact HL1.out
                 · exact H13.out
                 · with_reducible rfl
                 · rfl
                 · rfl))
            clear hq
            have HY : Hid (Ct w gi gq gL i cq (.slice adx nx cpx) (.slice adw nx cpw) l (World.drew wd)) := HI.out.next (Below.refl _ _).drew
            clear HI H10 H13
            refine wp_region_held_drew (S := Over (World.drew wd)) (by kernel_rfl) (Over.refl _) ?_
            intro hS
            change wpAnyH _ _ _ _ _ _ _ _ (World.drew wd)
            generalize World.drew wd = y5 at *
            refine wpAnyH_take (i := 0) (v := .agg (cb i).toArray) rfl (by kernel_rfl) (by kernel_rfl) (by kernel_rfl) (fun _ _ _ h => h) (Or.inl ⟨by rfl, fun wx hx => by exact loadDigest _ gi i HIL.out (HY.out.next hx).ib rfl rfl⟩) hS ?_
            simp only [Act.put, List.getElem_toArray, List.getElem_cons_zero, List.setIfInBounds_toArray, List.set_cons_zero, List.set_cons_succ]
            refine wpAnyH_take (i := 1) (v := .agg #[.slice adx nx cpx, .slice adw nx cpw]) rfl (by kernel_rfl) (by kernel_rfl) (by kernel_rfl) (fun _ _ _ h => h) (Or.inl ⟨by rfl, fun wx hx => by exact load_run 47 _ rfl gL 0 rfl [.slice adx nx cpx, .slice adw nx cpw] _ (HY.out.next hx).lb.range Tryd.underlying47 rfl info_leaves⟩) hS ?_
            simp only [Act.put, List.getElem_toArray, List.getElem_cons_succ, List.getElem_cons_zero, List.setIfInBounds_toArray, List.set_cons_zero, List.set_cons_succ]
            refine wpAnyH_take (i := 2) (v := .agg (cb i).toArray) rfl (by kernel_rfl) (by kernel_rfl) (by kernel_rfl) (fun _ _ _ h => h) (Or.inl ⟨by rfl, fun wx hx => by exact loadDigest _ gi i HIL.out (HY.out.next hx).ib rfl rfl⟩) hS ?_
            simp only [Act.put, List.getElem_toArray, List.getElem_cons_succ, List.getElem_cons_zero, List.setIfInBounds_toArray, List.set_cons_zero, List.set_cons_succ]
            refine wpAnyH_take (i := 4) (v := .agg cq.toArray) rfl (by kernel_rfl) (by kernel_rfl) (by kernel_rfl) (fun _ _ _ h => h) (Or.inl ⟨by rfl, fun wx hx => by exact load_run 36 _ rfl gq 0 rfl cq _ (HY.out.next hx).qb.range Tryd.underlying36 rfl (by rw [HQ6.out]; exact info_proof)⟩) hS ?_
            simp only [Act.put, List.getElem_toArray, List.getElem_cons_succ, List.getElem_cons_zero, List.setIfInBounds_toArray, List.set_cons_zero, List.set_cons_succ]
            refine wpAnyH_enter 3 (by kernel_rfl) rfl (by rfl) (f := 22) (args := #[.agg #[.slice adx nx cpx, .slice adw nx cpw], .agg (cb i).toArray]) (by simp [go_sem]) (HCV.out _ (HY.out.next hS)) ?_
            rintro e y6 ⟨vs, rfl, hvs, hb⟩
            obtain ⟨av, cv, hsv⟩ := hvs.slice
            obtain ⟨nv, HNV⟩ : ∃ z, Hid (z = sp.length) := ⟨_, rfl⟩
            rw [← HNV.out] at hsv
            subst hsv
            replace hS := Over.more hS hb
            refine ⟨_, rfl, hS, ?_⟩
            clear hb
            simp only [Act.put, List.getElem_toArray, List.getElem_cons_succ, List.getElem_cons_zero, List.setIfInBounds_toArray, List.set_cons_zero, List.set_cons_succ]
            have HC8 : Hid (Calls Tryd.prog 15 #[.agg (cb i).toArray, .agg (prfV (.slice av nv cv) pe.1 pe.2.1 pe.2.2).toArray, .agg cq.toArray] y6 fun e w' => ∃ x y s t, e = .returned (.tuple #[x, y, .bool true]) ∧ Reads w' x s ∧ Reads w' y t ∧ s.length ≤ 65 ∧ t.length ≤ 65 ∧ pairB9 s t = true ∧ Below y6.heap.size y6 w') := by
              have h0 := (HY.out.next hS).bel
              rw [HCQ.out]
              refine (HCO.out.ways y6 i _ sp pe.1 pe.2.1 pe.2.2 vq sq eq ixq vaq (HK0.out.below h0 HK0.out.lt) HIL.out HP32.out.1 HP32.out.2 HQ1.out HQ2.out hvs (HRQ.out.below h0) (by have := HS3.out; omega) HQ3.out).mono fun e w' h => ?_
              obtain ⟨x, y, o, g1, g2, g3⟩ := h
              obtain ⟨s, t, g4, g5, g6⟩ := g2.both
              have g7 := first_len (hashL_le i _ (endB_le HP32.out.1 HP32.out.2) sp 0 HSL.out) (hashL_le i _ (endB_le HQ1.out HQ2.out) sq 0 HRQ.out.2) g6
              obtain ⟨k, hfk⟩ := twoL_first HTW2.out
              rcases g6 with ⟨k', rfl, _, _, _, g8⟩ | ⟨_, g8, _⟩
              · exact ⟨x, y, s, t, g1, g4, g5, g7.1, g7.2, g8, g3⟩
              · rw [hfk] at g8; cases g8
            refine wpAnyH_enter 5 (by kernel_rfl) rfl (by rfl) (f := 15) (args := #[.agg (cb i).toArray, .agg (prfV (.slice av nv cv) pe.1 pe.2.1 pe.2.2).toArray, .agg cq.toArray]) (by simp [go_sem]) HC8.out ?_
            rintro e y7 ⟨vx, vy, s, t, rfl, hs, ht, hsl, htl, hpt, hb⟩
            obtain ⟨ax, nx2, cx, hvx⟩ := hs.form
            subst hvx
            obtain ⟨ay, ny, cy, hvy⟩ := ht.form
            subst hvy
            replace hS := Over.more hS hb
            refine ⟨_, rfl, hS, ?_⟩
            clear hb HC8 hvs
            simp only [Act.put, List.getElem_toArray, List.getElem_cons_succ, List.getElem_cons_zero, List.setIfInBounds_toArray, List.set_cons_zero, List.set_cons_succ]
            refine wpAnyH_take (i := 6) (v := .tuple #[.slice ax nx2 cx, .slice ay ny cy, .bool true]) rfl (by kernel_rfl) (by kernel_rfl) (by kernel_rfl) (fun _ _ _ h => h) (Or.inl ⟨by rfl, fun wx hx => by simp [go_sem]⟩) hS ?_
            simp only [Act.put, List.getElem_toArray, List.getElem_cons_succ, List.getElem_cons_zero, List.setIfInBounds_toArray, List.set_cons_zero, List.set_cons_succ]
            refine wpAnyH_take (i := 7) (v := .slice ax nx2 cx) rfl (by kernel_rfl) (by kernel_rfl) (by kernel_rfl) (fun _ _ _ h => h) (Or.inl ⟨by rfl, fun wx hx => by simp [go_sem]⟩) hS ?_
            simp only [Act.put, List.getElem_toArray, List.getElem_cons_succ, List.getElem_cons_zero, List.setIfInBounds_toArray, List.set_cons_zero, List.set_cons_succ]
            refine wpAnyH_take (i := 8) (v := .slice ay ny cy) rfl (by kernel_rfl) (by kernel_rfl) (by kernel_rfl) (fun _ _ _ h => h) (Or.inl ⟨by rfl, fun wx hx => by simp [go_sem]⟩) hS ?_
            simp only [Act.put, List.getElem_toArray, List.getElem_cons_succ, List.getElem_cons_zero, List.setIfInBounds_toArray, List.set_cons_zero, List.set_cons_succ]
            refine wpAnyH_take (i := 9) (v := .bool true) rfl (by kernel_rfl) (by kernel_rfl) (by kernel_rfl) (fun _ _ _ h => h) (Or.inl ⟨by rfl, fun wx hx => by simp [go_sem]⟩) hS ?_
            simp only [Act.put, List.getElem_toArray, List.getElem_cons_succ, List.getElem_cons_zero, List.setIfInBounds_toArray, List.set_cons_zero, List.set_cons_succ]
            refine wpAnyH_take (i := 10) (v := .slice ax nx2 cx) rfl (by kernel_rfl) (by kernel_rfl) (by kernel_rfl) (fun _ _ _ h => h) (Or.inl ⟨by rfl, fun wx hx => by simp [go_sem]⟩) hS ?_
            simp only [Act.put, List.getElem_toArray, List.getElem_cons_succ, List.getElem_cons_zero, List.setIfInBounds_toArray, List.set_cons_zero, List.set_cons_succ]
            refine wpAnyH_take (i := 11) (v := .slice ay ny cy) rfl (by kernel_rfl) (by kernel_rfl) (by kernel_rfl) (fun _ _ _ h => h) (Or.inl ⟨by rfl, fun wx hx => by simp [go_sem]⟩) hS ?_
            simp only [Act.put, List.getElem_toArray, List.getElem_cons_succ, List.getElem_cons_zero, List.setIfInBounds_toArray, List.set_cons_zero, List.set_cons_succ]
            refine wpAnyH_take (i := 12) (v := .bool true) rfl (by kernel_rfl) (by kernel_rfl) (by kernel_rfl) (fun _ _ _ h => h) (Or.inl ⟨by rfl, fun wx hx => by simp [go_sem]⟩) hS ?_
            simp only [Act.put, List.getElem_toArray, List.getElem_cons_succ, List.getElem_cons_zero, List.setIfInBounds_toArray, List.set_cons_zero, List.set_cons_succ]
            refine wpAnyH_done (by kernel_rfl) ?_ _
            have HI : Hid (Ct w gi gq gL i cq (.slice adx nx cpx) (.slice adw nx cpw) l y7) := HY.out.next hS
            have HC5 : Hid (Calls Tryd.prog 12 #[.slice ax nx2 cx, .slice ay ny cy] y7 fun e w' => e = .returned (.bool true) ∧ Below y7.heap.size y7 w') := by
              have h := qPair_any _ _ s t y7 hs ht (by omega) (by omega)
              rw [hpt] at h
              exact h
            clear hS hs ht hsl htl hpt HY
            go_wp2_with (first
              | (go_at_call 12; refine HC5.out.mono ?_; rintro e wf ⟨rfl, hbz⟩
                 replace HI : Hid (Ct w gi gq gL i cq (.slice adx nx cpx) (.slice adw nx cpw) l wf) := HI.out.next hbz
                 clear hbz HC5)
              | (go_at_call 13; refine (HWK.out _ HI.out.bel).mono ?_; rintro e wz ⟨rfl, hbz⟩
                 replace HI : Hid (Ct w gi gq gL i cq (.slice adx nx cpx) (.slice adw nx cpw) l wz) := HI.out.next hbz
                 clear hbz))
            go_ret
            exact ⟨rfl, HI.out.bel⟩
  · have h60i : (60 : Int) < (n : Int) := by omega
    go_enter Tryd.func6, Tryd.ntmps6
    go_wp2_with (first
      | (with_reducible refine wpSeq_boxD (.tmp 2) i ?_ ?_ ?_ ?_
         · rfl
         · rfl
         · rfl
         intro gi w0 nn0)
      | (with_reducible refine wpSeq_boxP (.tmp 3) cq ?_ ?_ ?_ ?_
         · rfl
         · rfl
         · rfl
         intro gq w1 nn1
         have HB0 : Hid (Below w.heap.size w w1 ∧ Blk w1 gi (cb i) 33 ∧ Blk w1 gq cq 36) := ⟨nn0.below.trans (nn1.below.mono nn0.below.size), nn0.blk.below nn1.below nn0.blk.lt, nn1.blk⟩
         clear nn0 nn1)
      | (go_at_call 13; refine (HWK.out _ HB0.out.1).mono ?_; rintro e wz ⟨rfl, hbz⟩
         replace HB0 : Hid (Below w.heap.size w wz ∧ Blk wz gi (cb i) 33 ∧ Blk wz gq cq 36) := ⟨HB0.out.1.trans (hbz.mono HB0.out.1.size), HB0.out.2.1.below hbz HB0.out.2.1.lt, HB0.out.2.2.below hbz HB0.out.2.2.lt⟩
         clear hbz))
    go_ret
    exact ⟨rfl, HB0.out.1⟩
end Go.Proofs.YtpeifpoeeopecaaDoor
/- What the listed variable gives: the rounds' words lie where the walks look for them. -/
namespace Go.Proofs.YtpeifpoeeopecaaDoor
open Go.ChangeShapes Go.WideShapes Go.ChangeAt Go.WideMaps Go.WideElems Go.RowKit
set_option maxRecDepth 100000
theorem own : ownKnob Tryd.prog.godebug = none := by kernel_rfl
theorem gKw : Tryd.prog.globalNamed "blazon/sha.roundWords" = some 0 := by kernel_rfl
theorem tKw : (Tryd.prog.globals[0]?).map (·.type) = some 111 := by kernel_rfl
def laidK : List (String × DataW Unit) := [("blazon/sha.roundWords", Rows.laid_blazon_sha_roundWords)]
def kzs : List Int := kw.map fun x => (x.toNat : Int)
theorem laid_tab : (Rows.laid_blazon_sha_roundWords : DataW Unit) = Lib.tabData .u32 kzs := by kernel_rfl
theorem door_met (os : Os) (args : Array Value) : laidMetH Tryd.prog laidK ((World.doorLaid Tryd.prog 400 os).forCall (fun _ _ => 0) ⟨#[], args, []⟩).memory :=
  laidMetH_of_parts3 (fuel := 8) (laidMet_of_run' 8 (by kernel_rfl) (by kernel_rfl)) (by kernel_rfl) (by kernel_rfl)
theorem getD_toNat (l : List (BitVec 32)) (j : Nat) : (l.map fun x => (x.toNat : Int)).getD j 0 = ((l.getD j 0).toNat : Int) := by
  rw [List.getD_eq_getElem?_getD, List.getD_eq_getElem?_getD, List.getElem?_map]
  cases l[j]? <;> rfl
theorem kok_of_laid {W : World} (h : laidMetH Tryd.prog laidK W) : KOk W := by
  rw [MakeChecks.laidMetH_plain _ _ _ (by kernel_rfl)] at h
  unfold laidK at h
  rw [laid_tab] at h
  have hT := Lib.tabIs_of_head gKw tKw Tryd.underlying111 Tryd.underlying95 (by kernel_rfl) (by kernel_rfl) h
  intro j hj
  rw [hT.cell gKw j (by simpa [kzs, kw] using hj), kzs, getD_toNat]
end Go.Proofs.YtpeifpoeeopecaaDoor
/- What a slice of bytes that came in gives: the bytes that it reads as; and that it reads so still behind a call that changed no old block. -/
namespace Go.Proofs.YtpeifpoeeopecaaDoor
open Go.ChangeShapes Go.WideShapes Go.ChangeAt Go.WideMaps Go.WideElems Go.RowKit
set_option maxRecDepth 100000
theorem cells_byte : Tryd.prog.cellsOf 5 = 1 := by kernel_rfl
theorem laid_out : laidOutB Tryd.prog = true := by kernel_rfl
theorem readable_bytes : Tryd.prog.readableRec 23 = true := by kernel_rfl
theorem row_bytes : 23 < Tryd.prog.types.size := of_decide_eq_true (by kernel_rfl)
theorem byte_range {zs : List Int} (h : ∀ n ∈ zs, (Lit.int .u8 n).wf = true) (j : Nat) : 0 ≤ zs.getD j 0 ∧ zs.getD j 0 < 256 := by
  rw [List.getD_eq_getElem?_getD]
  cases hj : zs[j]? with
  | none => simp
  | some n =>
    have := h n (List.mem_of_getElem? hj)
    have := bounds_u8 this
    simp
    omega
theorem reads_of_trod {H : Type} {enc : TypeId × Value → H} {W : World} {base : Nat} {v : Value} {d : DataW H} {p : List MemPlace} (hval : Value.okWide Tryd.prog W .any base 23 v)
    (h : DataW.Trod enc Tryd.prog W 0 (fun _ => true) true 23 v d p) :
    ∃ bs, Reads W v bs ∧ bs.length ≤ maxLen ∧ ∀ x ∈ p, x.block < W.heap.size := by
  obtain ⟨a1, len, cap, rfl⟩ := okWide_slice Tryd.underlying23 hval
  obtain ⟨fuel, hf⟩ := h
  rcases open_ints Tryd.underlying23 Tryd.underlying5 cells_byte hf with ⟨hcs, hx⟩ | ⟨a, len', cap', zs, hcs, _, hl, hm, hz, hx, hcell, hwz⟩
  · simp [Value.cells] at hcs
    obtain ⟨rfl, rfl, rfl⟩ := hcs
    simp only [Prod.mk.injEq] at hx
    obtain ⟨rfl, rfl⟩ := hx
    exact ⟨[], ⟨none, 0, rfl, Nat.le_refl _, fun _ => rfl, fun h => by cases h⟩, Nat.zero_le _, fun _ h => by cases h⟩
  · simp [Value.cells] at hcs
    obtain ⟨rfl, rfl, rfl⟩ := hcs
    simp only [Prod.mk.injEq] at hx
    obtain ⟨rfl, rfl⟩ := hx
    simp only [if_true] at hz
    have hlen : ((zs.take len).map fun n => BitVec.ofInt 8 n).length = len := by simp; omega
    obtain ⟨ab, ao, spot⟩ := a
    refine ⟨(zs.take len).map fun n => BitVec.ofInt 8 n, ⟨some ⟨ab, ao, spot⟩, cap, by rw [hlen], by rw [hlen]; exact hl, (fun h => by cases h), fun hp => ?_⟩, by rw [hlen]; omega, fun x hx => ?_⟩
    · rw [hlen] at hp ⊢
      have hspot : spot = none := by simpa [Addr.add] using World.cell?_spot (hcell 0 (by omega))
      subst hspot
      refine ⟨ab, ao, rfl, fun j hj => ?_⟩
      have hcj := hcell j (by omega)
      rw [Addr.add_lit] at hcj
      rw [hcj]
      have hb := byte_range hwz j
      have e : ((zs.take len).map fun n => BitVec.ofInt 8 n).getD j 0 = BitVec.ofInt 8 (zs.getD j 0) := by
        rw [List.getD_eq_getElem?_getD, List.getElem?_map, List.getElem?_take_of_lt hj, List.getD_eq_getElem?_getD, List.getElem?_eq_getElem (show j < zs.length by omega)]
        rfl
      rw [e, BitVec.toNat_ofInt]
      congr 2
      omega
    · simp only [MemPlace.row, List.mem_map, List.mem_range] at hx
      obtain ⟨i, hi, rfl⟩ := hx
      have hcj := hcell i (by omega)
      have := block_lt_of_cell hcj
      simp only [Addr.add] at this
      split at this <;> exact this
end Go.Proofs.YtpeifpoeeopecaaDoor
/- What a digest that came in gives: its 32 bytes. -/
namespace Go.Proofs.YtpeifpoeeopecaaDoor
open Go.ChangeShapes Go.WideShapes Go.ChangeAt Go.WideMaps Go.WideElems Go.RowKit
set_option maxRecDepth 100000
theorem cells_digest : Tryd.prog.cellsOf 33 = 32 := by kernel_rfl
theorem readable_digest : Tryd.prog.readableRec 33 = true := by kernel_rfl
theorem row_digest : 33 < Tryd.prog.types.size := of_decide_eq_true (by kernel_rfl)
def numOf8 : Value → BitVec 8
  | .int _ n => BitVec.ofInt 8 n
  | _ => 0
theorem digest_of_trod {H : Type} {enc : TypeId × Value → H} {W : World} {base : Nat} {v : Value} {d : DataW H} {p : List MemPlace} (hval : Value.okWide Tryd.prog W .any base 33 v)
    (h : DataW.Trod enc Tryd.prog W 0 (fun _ => true) true 33 v d p) :
    ∃ dg, v = .agg (cb dg).toArray ∧ dg.length = 32 ∧ ∀ x ∈ p, x.block < W.heap.size := by
  simp only [Value.okWide, Tryd.underlying33] at hval
  obtain ⟨cs, rfl, hcs, _⟩ := hval
  obtain ⟨fuel, hf⟩ := h
  obtain ⟨xs, m, _, hx, hl, hn, hi⟩ := DataW.trod_array Tryd.underlying33 hf
  simp only [Value.cells] at hl hi
  rw [cells_digest] at hl
  rw [cells_byte] at hi
  have each : ∀ i, i < 32 → ∃ n, cs.toList[i]? = some (.int .u8 n) ∧ xs[i]? = some (.lit (.int .u8 n), []) ∧ (Lit.int .u8 n).wf = true := by
    intro i h32
    have h1 := hi i h32
    rw [List.getElem?_eq_getElem (by omega)] at h1
    obtain ⟨n, hc, hxx, hw⟩ := DataW.trod_int Tryd.underlying5 h1
    refine ⟨n, ?_, by rw [List.getElem?_eq_getElem (by omega), hxx], hw⟩
    rw [Nat.mul_one] at hc
    have h2 := congrArg (fun l => l[0]?) hc
    simpa using h2
  have hlen : (cs.toList.map numOf8).length = 32 := by simpa using hl
  refine ⟨cs.toList.map numOf8, ?_, hlen, ?_⟩
  · congr 1
    apply Array.ext'
    rw [List.toList_toArray]
    apply List.ext_getElem?
    intro i
    by_cases h32 : i < 32
    · obtain ⟨n, h1, _, hw⟩ := each i h32
      have hb := bounds_u8 hw
      rw [h1, cb_get _ _ (by omega), List.getD_eq_getElem?_getD, List.getElem?_map, h1]
      simp only [Option.map_some, Option.getD_some, numOf8, BitVec.toNat_ofInt]
      congr 2
      omega
    · rw [List.getElem?_eq_none (by omega), List.getElem?_eq_none (by rw [cb_len]; omega)]
  · simp only [Prod.mk.injEq] at hx
    rw [hx.2]
    intro x hmem
    obtain ⟨y, hy, hxy⟩ := List.mem_flatMap.1 hmem
    obtain ⟨i, hlt, rfl⟩ := List.getElem_of_mem hy
    obtain ⟨n, _, h2, _⟩ := each i (by omega)
    rw [List.getElem?_eq_getElem hlt] at h2
    rw [Option.some.inj h2] at hxy
    cases hxy
end Go.Proofs.YtpeifpoeeopecaaDoor
/- What a slice of digests that came in gives; five arguments that came in, opened and shut (for the statements of layer 7). -/
namespace Go.Proofs.YtpeifpoeeopecaaDoor
open Go.ChangeShapes Go.WideShapes Go.ChangeAt Go.WideMaps Go.WideElems Go.RowKit
set_option maxRecDepth 100000
set_option maxRecDepth 100000 in
theorem bulk_pos {H : Type} (d : DataW H) : 1 ≤ Rows.uptoBulk d := by
  cases d with
  | lit l => cases l <;> simp [Rows.uptoBulk]
  | _ => simp [Rows.uptoBulk]
set_option maxRecDepth 100000 in
theorem bulk_slice {H : Type} (e s : List (DataW H)) : Rows.uptoBulkAll e ≤ Rows.uptoBulk (DataW.slice e s) := by
  simp only [Rows.uptoBulk]; omega
set_option maxRecDepth 100000 in
theorem bulk_len {H : Type} : ∀ l : List (DataW H), l.length ≤ Rows.uptoBulkAll l
  | [] => Nat.zero_le _
  | d :: r => by
    have h1 := bulk_len r
    have h2 := bulk_pos d
    simp only [Rows.uptoBulkAll, List.length_cons]
    omega
theorem digest_of_cells {H : Type} {enc : TypeId × Value → H} {W : World} {cs : List Value} {d : DataW H} {p : List MemPlace} {fuel : Nat} (hf : DataW.trod enc Tryd.prog W 0 (fun _ => true) true fuel 33 cs = some (d, p)) :
    ∃ dg, cs = cb dg ∧ dg.length = 32 ∧ ∀ x ∈ p, x.block < W.heap.size := by
  obtain ⟨xs, m, _, hx, hl, hn, hi⟩ := DataW.trod_array Tryd.underlying33 hf
  rw [cells_digest] at hl
  rw [cells_byte] at hi
  have each : ∀ i, i < 32 → ∃ n, cs[i]? = some (.int .u8 n) ∧ xs[i]? = some (.lit (.int .u8 n), []) ∧ (Lit.int .u8 n).wf = true := by
    intro i h32
    have h1 := hi i h32
    rw [List.getElem?_eq_getElem (by omega)] at h1
    obtain ⟨n, hc, hxx, hw⟩ := DataW.trod_int Tryd.underlying5 h1
    refine ⟨n, ?_, by rw [List.getElem?_eq_getElem (by omega), hxx], hw⟩
    rw [Nat.mul_one] at hc
    have h2 := congrArg (fun l => l[0]?) hc
    simpa using h2
  have hlen : (cs.map numOf8).length = 32 := by simpa using hl
  refine ⟨cs.map numOf8, ?_, hlen, ?_⟩
  · apply List.ext_getElem?
    intro i
    by_cases h32 : i < 32
    · obtain ⟨n, h1, _, hw⟩ := each i h32
      have hb := bounds_u8 hw
      rw [h1, cb_get _ _ (by omega), List.getD_eq_getElem?_getD, List.getElem?_map, h1]
      simp only [Option.map_some, Option.getD_some, numOf8, BitVec.toNat_ofInt]
      congr 2
      omega
    · rw [List.getElem?_eq_none (by omega), List.getElem?_eq_none (by rw [cb_len]; omega)]
  · simp only [Prod.mk.injEq] at hx
    rw [hx.2]
    intro x hmem
    obtain ⟨y, hy, hxy⟩ := List.mem_flatMap.1 hmem
    obtain ⟨i, hlt, rfl⟩ := List.getElem_of_mem hy
    obtain ⟨n, _, h2, _⟩ := each i (by omega)
    rw [List.getElem?_eq_getElem hlt] at h2
    rw [Option.some.inj h2] at hxy
    cases hxy
set_option maxRecDepth 100000 in
theorem readable_digests : Tryd.prog.readableRec 34 = true := by kernel_rfl
set_option maxRecDepth 100000 in
theorem row_digests : 34 < Tryd.prog.types.size := of_decide_eq_true (by kernel_rfl)
theorem readsD_of_trod {H : Type} {enc : TypeId × Value → H} {W : World} {base : Nat} {v : Value} {d : DataW H} {p : List MemPlace} (hval : Value.okWide Tryd.prog W .any base 34 v)
    (h : DataW.Trod enc Tryd.prog W 0 (fun _ => true) true 34 v d p) :
    ∃ ds, ReadsD W v ds ∧ ds.length ≤ Rows.uptoBulk d ∧ ∀ x ∈ p, x.block < W.heap.size := by
  obtain ⟨a1, len, cap, rfl⟩ := okWide_slice Tryd.underlying34 hval
  obtain ⟨fuel, hf⟩ := h
  rcases Go.Deep.open_slice Tryd.underlying34 hf with ⟨hcs, hx⟩ | ⟨a, len', cap', m, n, D, Pl, hcs, _, hl, hm, hmm, hx, hV⟩
  · simp [Value.cells] at hcs
    obtain ⟨rfl, rfl, rfl⟩ := hcs
    simp only [Prod.mk.injEq] at hx
    obtain ⟨rfl, rfl⟩ := hx
    exact ⟨[], ⟨⟨none, 0, rfl, Nat.le_refl _, fun _ => rfl, fun h => by cases h⟩, fun _ h => by cases h⟩, Nat.zero_le _, fun _ h => by cases h⟩
  · simp [Value.cells] at hcs
    obtain ⟨rfl, rfl, rfl⟩ := hcs
    simp only [Prod.mk.injEq] at hx
    obtain ⟨rfl, rfl⟩ := hx
    simp only [if_true] at hmm
    subst hmm
    rw [cells_digest] at hV
    obtain ⟨B, hB⟩ := Go.Deep.choose_lt (α := List (BitVec 8)) (p := fun i dg => W.cells? 0 (a.add (i * 32)) 32 = some (cb dg) ∧ dg.length = 32 ∧ ∀ x ∈ Pl i, x.block < W.heap.size) (fun i hi => by
      obtain ⟨cs', h1, h2⟩ := hV i hi
      obtain ⟨dg, rfl, h3, h4⟩ := digest_of_cells h2
      exact ⟨dg, h1, h3, h4⟩)
    have hlen : ((List.range len).map B).length = len := by simp
    obtain ⟨ab, ao, spot⟩ := a
    have cell : ∀ i, i < m → ∀ j, j < 32 → W.cell? ((⟨ab, ao, spot⟩ : Addr).add (i * 32 + j)) = (cb (B i))[j]? := by
      intro i hi j hj
      obtain ⟨h1, _, _⟩ := hB i hi
      obtain ⟨_, _, h4⟩ := World.cells?_some h1
      have := h4 j hj
      rw [Go.Deep.add_add] at this
      exact this
    have hspot : 0 < m → spot = none := fun hp => by
      have h := cell 0 hp 0 (by omega)
      rw [cb_get _ 0 (by rw [(hB 0 hp).2.1]; omega)] at h
      simpa [Addr.add] using World.cell?_spot h
    refine ⟨(List.range len).map B, ⟨⟨some ⟨ab, ao, spot⟩, m, by rw [hlen], by rw [hlen]; exact hl, (fun h => by cases h), fun hp => ?_⟩, ?_⟩, by rw [hlen]; exact Nat.le_trans (by have := bulk_len ((List.range len).map D); simpa using this) (bulk_slice _ _), fun x hx => ?_⟩
    · rw [hlen] at hp ⊢
      have hs := hspot (by omega)
      subst hs
      refine ⟨ab, ao, rfl, fun j hj i v hv => ?_⟩
      have e : ((List.range len).map B).getD j [] = B j := by simp [hj]
      rw [e] at hv
      have hi : i < 32 := by have := (List.getElem?_eq_some_iff.1 hv).1; rwa [cb_len, (hB j (by omega)).2.1] at this
      have h := cell j (by omega) i hi
      rw [hv, Addr.add_lit] at h
      rw [Nat.add_assoc]; exact h
    · intro dg hd
      obtain ⟨i, hi, rfl⟩ := List.mem_map.1 hd
      exact (hB i (by have := List.mem_range.1 hi; omega)).2.1
    · rcases List.mem_append.1 hx with hx | hx
      · rw [cells_digest] at hx
        simp only [MemPlace.row, List.mem_map, List.mem_range] at hx
        obtain ⟨i, hi, rfl⟩ := hx
        have h := cell (i / 32) (by omega) (i % 32) (by omega)
        rw [cb_get _ _ (by rw [(hB (i / 32) (by omega)).2.1]; omega), show i / 32 * 32 + i % 32 = i by omega] at h
        have := block_lt_of_cell h
        simp only [Addr.add] at this
        split at this <;> exact this
      · obtain ⟨i, hi, hx⟩ := List.mem_flatMap.1 hx
        exact (hB i (List.mem_range.1 hi)).2.2 x hx
theorem trodAll_five {H : Type} {enc : TypeId × Value → H} {P : Program} {w : World} {base : Nat} {spare : Nat → Bool} {held : Bool} {t0 t1 t2 t3 t4 : TypeId} {args : Array Value} {ds : List (DataW H)} {ps : List MemPlace} (h : DataW.TrodAll enc P w base spare held [t0, t1, t2, t3, t4] args.toList ds ps) :
    ∃ v0 v1 v2 v3 v4 d0 d1 d2 d3 d4 p0 p1 p2 p3 p4, args = #[v0, v1, v2, v3, v4] ∧ ds = [d0, d1, d2, d3, d4] ∧ ps = p0 ++ p1 ++ p2 ++ p3 ++ p4 ∧ DataW.Trod enc P w base spare held t0 v0 d0 p0 ∧ DataW.Trod enc P w base spare held t1 v1 d1 p1 ∧ DataW.Trod enc P w base spare held t2 v2 d2 p2 ∧ DataW.Trod enc P w base spare held t3 v3 d3 p3 ∧ DataW.Trod enc P w base spare held t4 v4 d4 p4 := by
  obtain ⟨v0, vs0, d0, ds0, p0, q0, hargs, rfl, rfl, h0, r0⟩ := trodAll_cons h
  obtain ⟨v1, vs1, d1, ds1, p1, q1, rfl, rfl, rfl, h1, r1⟩ := trodAll_cons r0
  obtain ⟨v2, vs2, d2, ds2, p2, q2, rfl, rfl, rfl, h2, r2⟩ := trodAll_cons r1
  obtain ⟨v3, vs3, d3, ds3, p3, q3, rfl, rfl, rfl, h3, r3⟩ := trodAll_cons r2
  obtain ⟨v4, vs4, d4, ds4, p4, q4, rfl, rfl, rfl, h4, r4⟩ := trodAll_cons r3
  obtain ⟨rfl, rfl, rfl⟩ := trodAll_nil r4
  exact ⟨v0, v1, v2, v3, v4, d0, d1, d2, d3, d4, p0, p1, p2, p3, p4, by cases args; simp_all, rfl, by simp, h0, h1, h2, h3, h4⟩
theorem trodAll_mk5 {H : Type} {enc : TypeId × Value → H} {P : Program} {w : World} {base : Nat} {spare : Nat → Bool} {held : Bool} {t0 t1 t2 t3 t4 : TypeId} {v0 v1 v2 v3 v4 : Value} {d0 d1 d2 d3 d4 : DataW H} {p0 p1 p2 p3 p4 : List MemPlace} (h0 : DataW.Trod enc P w base spare held t0 v0 d0 p0) (h1 : DataW.Trod enc P w base spare held t1 v1 d1 p1) (h2 : DataW.Trod enc P w base spare held t2 v2 d2 p2) (h3 : DataW.Trod enc P w base spare held t3 v3 d3 p3) (h4 : DataW.Trod enc P w base spare held t4 v4 d4 p4) : DataW.TrodAll enc P w base spare held [t0, t1, t2, t3, t4] [v0, v1, v2, v3, v4] [d0, d1, d2, d3, d4] (p0 ++ (p1 ++ (p2 ++ (p3 ++ p4)))) :=
  ⟨p0, _, h0, trodAll_mk4 h1 h2 h3 h4, rfl⟩
end Go.Proofs.YtpeifpoeeopecaaDoor
/- What a binding and a proof that came in give: their parts. -/
namespace Go.Proofs.YtpeifpoeeopecaaDoor
open Go.ChangeShapes Go.WideShapes Go.ChangeAt Go.WideMaps Go.WideElems Go.RowKit
set_option maxRecDepth 100000
set_option maxRecDepth 100000 in
theorem readable_binding : Tryd.prog.readableRec 59 = true := by kernel_rfl
set_option maxRecDepth 100000 in
theorem row_binding : 59 < Tryd.prog.types.size := of_decide_eq_true (by kernel_rfl)
set_option maxRecDepth 100000 in
theorem readable_proof : Tryd.prog.readableRec 36 = true := by kernel_rfl
set_option maxRecDepth 100000 in
theorem row_proof : 36 < Tryd.prog.types.size := of_decide_eq_true (by kernel_rfl)
set_option maxRecDepth 100000 in
theorem cells_proof : Tryd.prog.cellsOf 36 = 66 := by kernel_rfl
set_option maxRecDepth 100000 in
theorem cells_digests : Tryd.prog.cellsOf 34 = 1 := by kernel_rfl
set_option maxRecDepth 100000 in
theorem cells_int1 : Tryd.prog.cellsOf 3 = 1 := by kernel_rfl
theorem cells_binding : Tryd.prog.cellsOf 59 = 3 := by kernel_rfl
theorem cells_string : Tryd.prog.cellsOf 9 = 1 := by kernel_rfl
theorem cells_u64 : Tryd.prog.cellsOf 54 = 1 := by kernel_rfl
theorem cells_bytes1 : Tryd.prog.cellsOf 23 = 1 := by kernel_rfl
theorem strB_of (s : ByteArray) : ∃ nm, s = strB nm := by
  refine ⟨s.data.toList.map fun b => BitVec.ofNat 8 b.toNat, ?_⟩
  have h := strB_data (s.data.toList.map fun b => BitVec.ofNat 8 b.toNat)
  have h2 : (s.data.toList.map fun b => BitVec.ofNat 8 b.toNat).map (fun b => UInt8.ofNat b.toNat) = s.data.toList := by
    rw [List.map_map]
    have : ((fun b : BitVec 8 => UInt8.ofNat b.toNat) ∘ fun b : UInt8 => BitVec.ofNat 8 b.toNat) = id := by
      funext b
      simp only [Function.comp, BitVec.toNat_ofNat, id]
      have := b.toNat_lt
      rw [Nat.mod_eq_of_lt (by omega)]
      simp
    rw [this, List.map_id]
  rw [h2] at h
  obtain ⟨d⟩ := s
  generalize strB _ = t at *
  obtain ⟨e⟩ := t
  simp only at h
  rw [Array.ext' h]
theorem reads_of_cells0 {H : Type} {enc : TypeId × Value → H} {W : World} {v : Value} {y : DataW H × List MemPlace} {fuel : Nat} (hf : DataW.trod enc Tryd.prog W 0 (fun _ => true) true fuel 23 [v] = some y) :
    ∃ bs, Reads W v bs := by
  rcases open_ints Tryd.underlying23 Tryd.underlying5 cells_byte hf with ⟨hcs, hx⟩ | ⟨a, len, cap, zs, hcs, _, hl, hm, hz, hx, hcell, hwz⟩
  · simp only [List.cons.injEq, and_true] at hcs
    subst hcs
    exact ⟨[], ⟨none, 0, rfl, Nat.le_refl _, fun _ => rfl, fun h => by cases h⟩⟩
  · simp only [List.cons.injEq, and_true] at hcs
    subst hcs
    simp only [if_true] at hz
    have hlen : ((zs.take len).map fun n => BitVec.ofInt 8 n).length = len := by simp; omega
    obtain ⟨ab, ao, spot⟩ := a
    refine ⟨(zs.take len).map fun n => BitVec.ofInt 8 n, ⟨some ⟨ab, ao, spot⟩, cap, by rw [hlen], by rw [hlen]; exact hl, (fun h => by cases h), fun hp => ?_⟩⟩
    rw [hlen] at hp ⊢
    have hspot : spot = none := by simpa [Addr.add] using World.cell?_spot (hcell 0 (by omega))
    subst hspot
    refine ⟨ab, ao, rfl, fun j hj => ?_⟩
    have hcj := hcell j (by omega)
    rw [Addr.add_lit] at hcj
    rw [hcj]
    have hb := byte_range hwz j
    have e : ((zs.take len).map fun n => BitVec.ofInt 8 n).getD j 0 = BitVec.ofInt 8 (zs.getD j 0) := by
      rw [List.getD_eq_getElem?_getD, List.getElem?_map, List.getElem?_take_of_lt hj, List.getD_eq_getElem?_getD, List.getElem?_eq_getElem (show j < zs.length by omega)]
      rfl
    rw [e, BitVec.toNat_ofInt]
    congr 2
    omega
set_option maxRecDepth 100000 in
theorem binding_of_trod {H : Type} {enc : TypeId × Value → H} {W : World} {base : Nat} {v : Value} {d : DataW H} {p : List MemPlace} (hval : Value.okWide Tryd.prog W .any base 59 v)
    (h : DataW.Trod enc Tryd.prog W 0 (fun _ => true) true 59 v d p) :
    ∃ nm vk ky sr, v = .agg #[.string (strB nm), vk, .int .u64 ((sr : Nat) : Int)] ∧ Reads W vk ky ∧ sr < 18446744073709551616 ∧ ∀ x ∈ p, x.block < W.heap.size := by
  simp only [Value.okWide, Tryd.underlying59] at hval
  obtain ⟨cs, rfl, hcs, _⟩ := hval
  obtain ⟨fuel, hf⟩ := h
  have hp := DataW.trod_lt _ _ _ _ hf
  obtain ⟨y0, y1, y2, n, hx, hl, h0, h1, h2⟩ := Go.Deep.trod_struct3 Tryd.underlying59 hf
  simp only [Value.cells] at hl h0 h1 h2
  rw [cells_binding] at hl
  rw [cells_string] at h0
  rw [cells_bytes1] at h1
  rw [cells_u64] at h2
  obtain ⟨l⟩ := cs
  match l, hl with
  | [c0, c1, c2], _ =>
    obtain ⟨s, e0, _, _⟩ := DataW.trod_string Tryd.underlying9 h0
    obtain ⟨bs, hr⟩ := reads_of_cells0 (v := c1) h1
    obtain ⟨m, e2, _, hw⟩ := DataW.trod_int Tryd.underlying54 h2
    simp at e0 e2
    subst e0 e2
    obtain ⟨nm, rfl⟩ := strB_of s
    have hb := bounds_u64 hw
    refine ⟨nm, c1, bs, m.toNat, ?_, hr, by omega, hp⟩
    rw [Int.toNat_of_nonneg (by omega)]
set_option maxRecDepth 100000 in
theorem readsD_of_cells {H : Type} {enc : TypeId × Value → H} {W : World} {a1 : Option Addr} {len cap : Nat} {d : DataW H} {p : List MemPlace} {fuel : Nat} (hf : DataW.trod enc Tryd.prog W 0 (fun _ => true) true fuel 34 [.slice a1 len cap] = some (d, p)) :
    ∃ ds, ReadsD W (.slice a1 len cap) ds ∧ ds.length ≤ Rows.uptoBulk d ∧ ∀ x ∈ p, x.block < W.heap.size := by
  rcases Go.Deep.open_slice Tryd.underlying34 hf with ⟨hcs, hx⟩ | ⟨a, len', cap', m, n, D, Pl, hcs, _, hl, hm, hmm, hx, hV⟩
  · simp at hcs
    obtain ⟨rfl, rfl, rfl⟩ := hcs
    simp only [Prod.mk.injEq] at hx
    obtain ⟨rfl, rfl⟩ := hx
    exact ⟨[], ⟨⟨none, 0, rfl, Nat.le_refl _, fun _ => rfl, fun h => by cases h⟩, fun _ h => by cases h⟩, Nat.zero_le _, fun _ h => by cases h⟩
  · simp at hcs
    obtain ⟨rfl, rfl, rfl⟩ := hcs
    simp only [Prod.mk.injEq] at hx
    obtain ⟨rfl, rfl⟩ := hx
    simp only [if_true] at hmm
    subst hmm
    rw [cells_digest] at hV
    obtain ⟨B, hB⟩ := Go.Deep.choose_lt (α := List (BitVec 8)) (p := fun i dg => W.cells? 0 (a.add (i * 32)) 32 = some (cb dg) ∧ dg.length = 32 ∧ ∀ x ∈ Pl i, x.block < W.heap.size) (fun i hi => by
      obtain ⟨cs', h1, h2⟩ := hV i hi
      obtain ⟨dg, rfl, h3, h4⟩ := digest_of_cells h2
      exact ⟨dg, h1, h3, h4⟩)
    have hlen : ((List.range len).map B).length = len := by simp
    obtain ⟨ab, ao, spot⟩ := a
    have cell : ∀ i, i < m → ∀ j, j < 32 → W.cell? ((⟨ab, ao, spot⟩ : Addr).add (i * 32 + j)) = (cb (B i))[j]? := by
      intro i hi j hj
      obtain ⟨h1, _, _⟩ := hB i hi
      obtain ⟨_, _, h4⟩ := World.cells?_some h1
      have := h4 j hj
      rw [Go.Deep.add_add] at this
      exact this
    have hspot : 0 < m → spot = none := fun hp => by
      have h := cell 0 hp 0 (by omega)
      rw [cb_get _ 0 (by rw [(hB 0 hp).2.1]; omega)] at h
      simpa [Addr.add] using World.cell?_spot h
    refine ⟨(List.range len).map B, ⟨⟨some ⟨ab, ao, spot⟩, m, by rw [hlen], by rw [hlen]; exact hl, (fun h => by cases h), fun hp => ?_⟩, ?_⟩, by rw [hlen]; exact Nat.le_trans (by have := bulk_len ((List.range len).map D); simpa using this) (bulk_slice _ _), fun x hx => ?_⟩
    · rw [hlen] at hp ⊢
      have hs := hspot (by omega)
      subst hs
      refine ⟨ab, ao, rfl, fun j hj i v hv => ?_⟩
      have e : ((List.range len).map B).getD j [] = B j := by simp [hj]
      rw [e] at hv
      have hi : i < 32 := by have := (List.getElem?_eq_some_iff.1 hv).1; rwa [cb_len, (hB j (by omega)).2.1] at this
      have h := cell j (by omega) i hi
      rw [hv, Addr.add_lit] at h
      rw [Nat.add_assoc]; exact h
    · intro dg hd
      obtain ⟨i, hi, rfl⟩ := List.mem_map.1 hd
      exact (hB i (by have := List.mem_range.1 hi; omega)).2.1
    · rcases List.mem_append.1 hx with hx | hx
      · rw [cells_digest] at hx
        simp only [MemPlace.row, List.mem_map, List.mem_range] at hx
        obtain ⟨i, hi, rfl⟩ := hx
        have h := cell (i / 32) (by omega) (i % 32) (by omega)
        rw [cb_get _ _ (by rw [(hB (i / 32) (by omega)).2.1]; omega), show i / 32 * 32 + i % 32 = i by omega] at h
        have := block_lt_of_cell h
        simp only [Addr.add] at this
        split at this <;> exact this
      · obtain ⟨i, hi, hx⟩ := List.mem_flatMap.1 hx
        exact (hB i (List.mem_range.1 hi)).2.2 x hx
set_option maxRecDepth 100000 in
theorem proof_of_trod {H : Type} {enc : TypeId × Value → H} {W : World} {base : Nat} {v : Value} {d : DataW H} {p : List MemPlace} (hval : Value.okWide Tryd.prog W .any base 36 v)
    (h : DataW.Trod enc Tryd.prog W 0 (fun _ => true) true 36 v d p) :
    ∃ vs ds en ix va, v = .agg (prfV vs en ix va).toArray ∧ ReadsD W vs ds ∧ (ix.length = 32 ∧ va.length = 32 ∧ (Lit.int .i64 en).wf = true) ∧ ∀ q ∈ p, q.block < W.heap.size := by
  simp only [Value.okWide, Tryd.underlying36] at hval
  obtain ⟨cs, rfl, hcs, _⟩ := hval
  obtain ⟨fuel, hf⟩ := h
  have hp := DataW.trod_lt _ _ _ _ hf
  obtain ⟨y0, y1, y2, y3, n, hx, hl, h0, h1, h2, h3⟩ := Go.Joins.trod_struct4 Tryd.underlying36 hf
  simp only [Value.cells] at hl h0 h1 h2 h3
  rw [cells_proof] at hl
  rw [cells_digests] at h0
  rw [cells_int1] at h1
  rw [cells_digest] at h2 h3
  obtain ⟨l⟩ := cs
  simp only at hl h0 h1 h2 h3
  have d0 : l = l.take 1 ++ l.drop 1 := (List.take_append_drop 1 l).symm
  have d1 : l.drop 1 = (l.drop 1).take 1 ++ l.drop 2 := by
    have := (List.take_append_drop 1 (l.drop 1)).symm
    rwa [List.drop_drop] at this
  have d2 : l.drop 2 = (l.drop 2).take 32 ++ l.drop 34 := by
    have := (List.take_append_drop 32 (l.drop 2)).symm
    rwa [List.drop_drop] at this
  have d3 : l.drop 34 = (l.drop 34).take 32 := by rw [List.take_of_length_le (by rw [List.length_drop]; omega)]
  obtain ⟨m, e1, _, hw⟩ := DataW.trod_int Tryd.underlying3 h1
  obtain ⟨z2, q2⟩ := y2
  obtain ⟨z3, q3⟩ := y3
  obtain ⟨z0, q0⟩ := y0
  obtain ⟨ix, e2, lx, _⟩ := digest_of_cells h2
  obtain ⟨va, e3, ly, _⟩ := digest_of_cells h3
  rw [List.drop_zero] at h0
  obtain ⟨c0, e0⟩ : ∃ c, l.take 1 = [c] := by
    match l, hl with
    | c :: r, _ => exact ⟨c, rfl⟩
  rw [e0] at h0
  obtain ⟨ad, n0, cp, rfl⟩ : ∃ ad n cp, c0 = .slice ad n cp := by
    rcases Go.Deep.open_slice Tryd.underlying34 h0 with ⟨hcs', _⟩ | ⟨a, len', cap', m', n', D, Pl, hcs', _⟩
    · exact ⟨none, 0, 0, by simpa using hcs'⟩
    · exact ⟨some a, len', cap', by simpa using hcs'⟩
  obtain ⟨ds, hr, _, _⟩ := readsD_of_cells h0
  refine ⟨_, ds, m, ix, va, ?_, hr, ⟨lx, ly, hw⟩, hp⟩
  congr 1
  rw [d0, d1, d2, d3, e0, e1, e2, e3]
  rfl
end Go.Proofs.YtpeifpoeeopecaaDoor

/- Texts that the proof leans on, one behind the other: The statement ProofShort, over proof's functions (layer 8). What the listed variable gives: the rounds' words lie where the walks look for them. What a slice of bytes that came in gives: the bytes that it reads as; and that it reads so still behind a call that changed no old block. .. -/
import Derived.Test.YtmmhdchhajmbfaaDoorMge
import Derived.Test.YtmmhdchhajmbfaaDoorRows
import Derived.Test.YtmmhdchhajmbfaaDoorMga
import Derived.ProofKit
import Derived.LaidMore
import Derived.OpenShut
import Derived.Stop.Joined
import Derived.Lib.LaidTab
import Derived.Carry
import Derived.ChangeSlices
import Derived.Test.YtmmhdchhajmbfaaDoorMgb
import Derived.Deep.Slices
/- The statement ProofShort, over proof's functions (layer 8). -/
namespace Go.Proofs.YtmmhdchhajmbfaaDoor
open Go.RowKit
set_option maxRecDepth 100000
/-- one side less -/
theorem ReadsD.init {W : World} {g c m : Nat} {ds : List (List (BitVec 8))} (h : ReadsD W (.slice (some ⟨g, 0, none⟩) (m + 1) c) ds) (hm : m + 1 = ds.length) : ReadsD W (.slice (some ⟨g, 0, none⟩) m c) (ds.take m) := by
  obtain ⟨⟨ad, cap, hv, hc, hn, hx⟩, h2⟩ := h
  simp only [Value.slice.injEq] at hv
  obtain ⟨rfl, _, rfl⟩ := hv
  have hl : (ds.take m).length = m := by rw [List.length_take]; omega
  refine ⟨⟨_, c, by rw [hl], by omega, hn, fun hp => ?_⟩, fun d hd => h2 d (List.mem_of_mem_take hd)⟩
  obtain ⟨b, off, h3, h4⟩ := hx (by omega)
  refine ⟨b, off, h3, fun j hj => ?_⟩
  rw [hl] at hj
  have := h4 j (by omega)
  rw [List.getD_eq_getElem?_getD, List.getElem?_take, if_pos hj, ← List.getD_eq_getElem?_getD]
  exact this
/-- where the statement stands -/
structure Ts (w : World) (gA : Nat) (k : List (BitVec 8)) (gM : Nat) (mo : List (BitVec 8)) (gR : Nat) (r : List (BitVec 8)) (gP : Nat) (vs : Value) (sd : List (List (BitVec 8))) (en : Int) (ix va : List (BitVec 8)) (W : World) : Prop where
  k0 : KOk w
  ab : Blk W gA (cb k) 23
  mb : Blk W gM (cb mo) 23
  rb : Blk W gR (cb r) 23
  pb : Blk W gP (prfV vs en ix va) 26
  rd : ReadsD W vs sd
  bel : Below w.heap.size w W
theorem Ts.kk {w : World} {gA : Nat} {k : List (BitVec 8)} {gM : Nat} {mo : List (BitVec 8)} {gR : Nat} {r : List (BitVec 8)} {gP : Nat} {vs : Value} {sd : List (List (BitVec 8))} {en : Int} {ix va : List (BitVec 8)} {W : World} (h : Ts w gA k gM mo gR r gP vs sd en ix va W) : KOk W := h.k0.below h.bel h.k0.lt
theorem Ts.next {w : World} {gA : Nat} {k : List (BitVec 8)} {gM : Nat} {mo : List (BitVec 8)} {gR : Nat} {r : List (BitVec 8)} {gP : Nat} {vs : Value} {sd : List (List (BitVec 8))} {en : Int} {ix va : List (BitVec 8)} {W W' : World} (h : Ts w gA k gM mo gR r gP vs sd en ix va W) (hb : Below W.heap.size W W') : Ts w gA k gM mo gR r gP vs sd en ix va W' :=
  ⟨h.k0, h.ab.below hb h.ab.lt, h.mb.below hb h.mb.lt, h.rb.below hb h.rb.lt, h.pb.below hb h.pb.lt, h.rd.below hb, h.bel.trans (hb.mono h.bel.size)⟩
set_option maxRecDepth 100000 in
set_option maxHeartbeats 8000000 in
theorem proofShort_law (hP : PfOps) (vt vu : Value) (ds es : List (List (BitVec 8))) (k mo : List (BitVec 8)) (hk : k.length = 32) (hm : mo.length = 32) (w : World) (hK : KOk w) (hD : ReadsD w vt ds) (hE : ReadsD w vu es) :
    Calls Tryd.prog 7 #[vt, vu, .agg (cb k).toArray, .agg (cb mo).toArray] w fun e w' => e = .returned (.bool true) ∧ Below w.heap.size w w' := by
  have HP : Hid PfOps := hP
  have HKL : Hid (k.length = 32) := hk
  have HML : Hid (mo.length = 32) := hm
  have HD : Hid (ReadsD w vt ds) := hD
  have HE : Hid (ReadsD w vu es) := hE
  have HK : Hid (KOk w) := hK
  obtain ⟨adt, cpt, hvt⟩ := hD.slice
  obtain ⟨adu, cpu, hvu⟩ := hE.slice
  obtain ⟨n, HN⟩ : ∃ n, Hid (n = ds.length) := ⟨_, rfl⟩
  obtain ⟨m, HM⟩ : ∃ n, Hid (n = es.length) := ⟨_, rfl⟩
  rw [← HN.out] at hvt
  rw [← HM.out] at hvu
  subst hvt hvu
  have HF0 : Hid (Fits (ofL (ds.zip es)) 0) := Fits.zero (ofL_good _ (zip_okR hD hE)).1 (ofL_good _ (zip_okR hD hE)).2
  clear hP hk hm hK hD hE
  by_cases hn60 : n ≤ 60
  · have h60i : ¬ ((60 : Int) < (n : Int)) := by omega
    have H60 : Hid (ds.length ≤ 60) := by show _ ≤ _; rw [← HN.out]; exact hn60
    obtain ⟨l, HLD⟩ : ∃ l, Hid (l = ofL (ds.zip es)) := ⟨_, rfl⟩
    have HFT : Hid (Fits l 0) := by show Fits _ _; rw [HLD.out]; exact HF0.out
    have HLL : Hid (l.length ≤ 60) := by show _ ≤ _; rw [HLD.out]; exact len60 H60.out
    obtain ⟨r, HRT⟩ : ∃ r, Hid (r = rootL l 0) := ⟨_, rfl⟩
    have HRL : Hid (r.length = 32) := by show _ = _; rw [HRT.out]; exact rootL_len HFT.out
    go_enter Tryd.func7, Tryd.ntmps7
    go_upto_region 4 with (first
      | (with_reducible refine wpSeq_boxD (.tmp 2) k ?_ ?_ ?_ ?_
         · rfl
         · rfl
         · rfl
         intro gA w0 nn0)
      | (with_reducible refine wpSeq_boxD (.tmp 3) mo ?_ ?_ ?_ ?_
         · rfl
         · rfl
         · rfl
         intro gM w1 nn1
         have hb01 := nn0.below.trans (nn1.below.mono nn0.below.size)
         have HMB : Hid (Blk w1 gM (cb mo) 23) := nn1.blk
         have HAB : Hid (Blk w1 gA (cb k) 23) := nn0.blk.below nn1.below nn0.blk.lt
         have HB01 : Hid (Below w.heap.size w w1) := hb01
         clear nn0 nn1 hb01)
      | (go_at_call 17; refine (lfOf_any _ _ ds es _ (HD.out.below HB01.out) (HE.out.below HB01.out) (by have := H60.out; omega)).mono ?_; rintro e w3 ⟨xa, xv, rfl, ho, hb⟩
         rw [← HLD.out] at ho
         have HO : Hid (ReadsLf w3 xa xv l) := ho.reads
         have HA : Hid (Blk w3 gA (cb k) 23) := HAB.out.below hb HAB.out.lt
         have HM : Hid (Blk w3 gM (cb mo) 23) := HMB.out.below hb HMB.out.lt
         have HBW : Hid (Below w.heap.size w w3) := HB01.out.trans (hb.mono HB01.out.size)
         obtain ⟨nx, HNX⟩ : ∃ z : Nat, Hid (z = l.length) := ⟨_, rfl⟩
         obtain ⟨adx, cpx, hxa⟩ := ho.a.slice
         obtain ⟨adw, cpw, hxv⟩ := ho.v.slice
         rw [List.length_map, ← HNX.out] at hxa hxv
         subst hxa hxv
         clear hb ho HAB HMB HB01 HE))
    have hb9 := below_alloc w3 (.cells [Value.slice adx nx cpx, .slice adw nx cpw].toArray 39)
    have HA4 : Hid (Blk (w3.alloc (.cells [Value.slice adx nx cpx, .slice adw nx cpw].toArray 39)) gA (cb k) 23) := HA.out.below hb9 HA.out.lt
    have HM4 : Hid (Blk (w3.alloc (.cells [Value.slice adx nx cpx, .slice adw nx cpw].toArray 39)) gM (cb mo) 23) := HM.out.below hb9 HM.out.lt
    have HO4 : Hid (ReadsLf (w3.alloc (.cells [Value.slice adx nx cpx, .slice adw nx cpw].toArray 39)) (.slice adx nx cpx) (.slice adw nx cpw) l) := HO.out.below hb9
    have HL4 : Hid (Blk (w3.alloc (.cells [Value.slice adx nx cpx, .slice adw nx cpw].toArray 39)) w3.heap.size [Value.slice adx nx cpx, .slice adw nx cpw] 39) := Blk.new _ _ _
    have HB4 : Hid (Below w.heap.size w (w3.alloc (.cells [Value.slice adx nx cpx, .slice adw nx cpw].toArray 39))) := HBW.out.trans (hb9.mono HBW.out.size)
    clear hb9 HA HM HO HBW HLD
    obtain ⟨gL, HGL⟩ : ∃ z, Hid (z = w3.heap.size) := ⟨_, rfl⟩
    have e0 : (some ⟨w3.heap.size, 0, none⟩ : Option Addr) = some ⟨gL, 0, none⟩ := by rw [HGL.out]
    simp only [e0]
    rw [← HGL.out] at HL4
    clear e0 HGL
    generalize w3.alloc (.cells [Value.slice adx nx cpx, .slice adw nx cpw].toArray 39) = w4 at *
    go_upto_region 5 with (first
      | (with_reducible refine wpSeq_loadLv (.tmp 9) gL (.slice adx nx cpx) (.slice adw nx cpw) ?_ ?_ ?_ ?_ ?_
         · exact HL4.out
         · rfl
         · rfl
         · rfl)
      | (go_at_call 18; refine (lfRoot_any 256 l 0 _ _ _ (by omega) HFT.out HO4.out (by have := HLL.out; omega) (by omega)).mono ?_; rintro e w5 ⟨rfl, hb⟩
         rw [← HRT.out]
         replace HA4 : Hid (Blk w5 gA (cb k) 23) := HA4.out.below hb HA4.out.lt
         replace HM4 : Hid (Blk w5 gM (cb mo) 23) := HM4.out.below hb HM4.out.lt
         replace HO4 : Hid (ReadsLf w5 (.slice adx nx cpx) (.slice adw nx cpw) l) := HO4.out.below hb
         replace HL4 : Hid (Blk w5 gL [Value.slice adx nx cpx, .slice adw nx cpw] 39) := HL4.out.below hb HL4.out.lt
         replace HB4 : Hid (Below w.heap.size w w5) := HB4.out.trans (hb.mono HB4.out.size)
         clear hb)
      | (with_reducible refine wpSeq_allocD ?_ ?_ ?_
         · rfl
         · rfl
         intro gR w6 nn6)
      | (with_reducible refine wpSeq_storeD (.tmp 10) (.tmp 26) gR zb32 r ?_ ?_ ?_ ?_ ?_ ?_ ?_ ?_
         · rfl
         · exact HRL.out
         · exact nn6.blk
         · rfl
         · rfl
         · rfl
         · rfl
         intro w7 h7
         have N7 := nn6.set h7
         replace HA4 : Hid (Blk w7 gA (cb k) 23) := HA4.out.below N7.below HA4.out.lt
         replace HM4 : Hid (Blk w7 gM (cb mo) 23) := HM4.out.below N7.below HM4.out.lt
         replace HO4 : Hid (ReadsLf w7 (.slice adx nx cpx) (.slice adw nx cpw) l) := HO4.out.below N7.below
         replace HL4 : Hid (Blk w7 gL [Value.slice adx nx cpx, .slice adw nx cpw] 39) := HL4.out.below N7.below HL4.out.lt
         have HR7 : Hid (Blk w7 gR (cb r) 23) := N7.blk
         replace HB4 : Hid (Below w.heap.size w w7) := HB4.out.trans (N7.below.mono HB4.out.size)
         clear nn6 h7 N7))
    obtain ⟨sd, HSD⟩ : ∃ z, Hid (z = (wayL l k 0).1) := ⟨_, rfl⟩
    obtain ⟨pe, HPE⟩ : ∃ z, Hid (z = pend (wayL l k 0).2) := ⟨_, rfl⟩
    have HP32 : Hid (pe.2.1.length = 32 ∧ pe.2.2.length = 32) := by show _ ∧ _; rw [HPE.out]; exact pend_len8 HFT.out k
    have HS3 : Hid (sd.length ≤ 256) := by
      show _ ≤ _
      rw [HSD.out]
      rcases wayL_side k HFT.out with h1 | h1
      · omega
      · rw [h1]; simp
    have HTP : Hid (topL k (endB pe.1 pe.2.1 pe.2.2) 0 sd = r) := by
      show _ = _
      have h := way_check k HFT.out
      rw [endW_pend, ← HPE.out, ← HSD.out, ← HRT.out] at h
      unfold checkW at h
      split at h
      · cases h
      · rename_i hc
        exact Classical.byContradiction fun hn => hc (Or.inr (Or.inr hn))
    obtain ⟨ns, HNS⟩ : ∃ z : Nat, Hid (z = sd.length) := ⟨_, rfl⟩
    have HC4 : Hid (∀ W, ReadsLf W (.slice adx nx cpx) (.slice adw nx cpw) l → Calls Tryd.prog 19 #[.agg #[.slice adx nx cpx, .slice adw nx cpw], .agg (cb k).toArray] W fun e w' => ∃ vs, e = .returned (.agg (prfV vs pe.1 pe.2.1 pe.2.2).toArray) ∧ OwnD w' W.heap.size vs sd ∧ Below W.heap.size W w') := fun W hh => (lfProve_any _ _ l k W hh HFT.out (by have := HLL.out; omega) HKL.out).mono fun e w' h => by
      obtain ⟨vs, h1, h2, h3⟩ := h
      exact ⟨vs, by rw [h1, HPE.out], by rw [HSD.out]; exact h2, h3⟩
    go_upto_region 6 with (first
      | (with_reducible refine wpSeq_loadLv (.tmp 9) gL (.slice adx nx cpx) (.slice adw nx cpw) ?_ ?_ ?_ ?_ ?_
         · exact HL4.out
         · rfl
         · rfl
         · rfl)
      | (with_reducible refine wpSeq_loadD (.tmp 6) gA k ?_ ?_ ?_ ?_ ?_ ?_
         · exact HKL.out
         · exact HA4.out
         · with_reducible rfl
         · rfl
         · rfl)
      | (go_at_call 19; refine (HC4.out _ HO4.out).mono ?_; rintro e w8 ⟨vs, rfl, ho8, hb8⟩
         obtain ⟨ads, cps, hvs8⟩ := ho8.slice
         rw [← HNS.out] at hvs8
         subst hvs8
         have HRV : Hid (ReadsD w8 (.slice ads ns cps) sd) := ho8.readsD
         have HV1 : Hid (Value.oneCell' (.slice ads ns cps) = true) := ho8.one
         replace HA4 : Hid (Blk w8 gA (cb k) 23) := HA4.out.below hb8 HA4.out.lt
         replace HM4 : Hid (Blk w8 gM (cb mo) 23) := HM4.out.below hb8 HM4.out.lt
         replace HR7 : Hid (Blk w8 gR (cb r) 23) := HR7.out.below hb8 HR7.out.lt
         replace HB4 : Hid (Below w.heap.size w w8) := HB4.out.trans (hb8.mono HB4.out.size)
         clear ho8 hb8 HO4 HL4)
      | (with_reducible refine wpSeq_allocPN ?_ ?_ ?_
         · rfl
         · rfl
         intro gP w9 nn9)
      | (with_reducible refine wpSeq_storeNP (.tmp 11) (.tmp 29) gP (prfV nilV 0 zb32 zb32) (prfV (.slice ads ns cps) pe.1 pe.2.1 pe.2.2) nn9 ?_ ?_ ?_ ?_ ?_ ?_ ?_ ?_
         · rfl
         · exact prfV_len HP32.out.1 HP32.out.2
         · exact prfV_one HV1.out
         · rfl
         · rfl
         · rfl
         · rfl
         intro w10 n10
         have HI : Hid (Ts w gA k gM mo gR r gP (.slice ads ns cps) sd pe.1 pe.2.1 pe.2.2 w10) := ⟨HK.out, HA4.out.below n10.below HA4.out.lt, HM4.out.below n10.below HM4.out.lt, HR7.out.below n10.below HR7.out.lt, n10.blk, HRV.out.below n10.below, HB4.out.trans (n10.below.mono HB4.out.size)⟩
         clear nn9 n10 HA4 HM4 HR7 HRV HB4))
    have c0 : w10.cell? ⟨gP, 0, none⟩ = some (.slice ads ns cps) := HI.out.pb.cell 0
    go_wp2
    clear c0
    go_loopw [13] (fun j wr => ∃ q : Nat, q ≤ 2 ∧ j = .int .i64 (q : Int) ∧ Ts w gA k gM mo gR r gP (.slice ads ns cps) sd pe.1 pe.2.1 pe.2.2 wr) (fun j _ => 2 - (intOf j).toNat)
    case atStart => exact ⟨0, by omega, rfl, HI.out⟩
    case round =>
      clear HI
      obtain ⟨q, hq, rfl, hI⟩ := hrel
      have HI : Hid (Ts w gA k gM mo gR r gP (.slice ads ns cps) sd pe.1 pe.2.1 pe.2.2 wr) := hI
      clear hI
      by_cases hq2 : q < 2
      · have hq2i : (q : Int) < 2 := by omega
        have c1 : wr.cell? ⟨gP, 1, none⟩ = some (.int .i64 pe.1) := HI.out.pb.cell 1
        go_upto_region 11 with (first
          | (with_reducible refine wpSeq_loadR (.tmp 39) ?_ ?_ gP 2 ?_ (cb pe.2.1) (prfV_rix HI.out.pb) (infoD pe.2.1 HP32.out.1) ?_
             · rfl
             · rfl
             · rfl)
          | (with_reducible refine wpSeq_loadR (.tmp 41) ?_ ?_ gP 34 ?_ (cb pe.2.2) (prfV_rva HI.out.pb HP32.out.1) (infoD pe.2.2 HP32.out.2) ?_
             · rfl
             · rfl
             · rfl)
          | (refine wpSeq_val _ _ (by rfl) (builtW _ _ (.tmp 38) (.tmp 40) (.tmp 42) rfl pe.1 pe.2.1 pe.2.2 HP32.out.1 HP32.out.2 rfl rfl rfl _) ?_)
          | (with_reducible refine wpSeq_allocPN ?_ ?_ ?_
             · rfl
             · rfl
             intro gQ wB nnB)
          | (with_reducible refine wpSeq_storeNP (.tmp 14) (.tmp 43) gQ (prfV nilV 0 zb32 zb32) (prfV nilV pe.1 pe.2.1 pe.2.2) nnB ?_ ?_ ?_ ?_ ?_ ?_ ?_ ?_
             · rfl
             · exact prfV_len HP32.out.1 HP32.out.2
             · exact prfV_one rfl
             · rfl
             · rfl
             · rfl
             · rfl
             intro wC nC
             have HQ : Hid (NewP (prfV nilV pe.1 pe.2.1 pe.2.2) wr gQ wC) := nC
             clear nnB nC c1))
        have HW : Hid (Ts w gA k gM mo gR r gP (.slice ads ns cps) sd pe.1 pe.2.1 pe.2.2 wr) := HI.out
        replace HI : Hid (Ts w gA k gM mo gR r gP (.slice ads ns cps) sd pe.1 pe.2.1 pe.2.2 wC) := HI.out.next HQ.out.below
        have cp : wC.cell? ⟨gP, 0, none⟩ = some (.slice ads ns cps) := HI.out.pb.cell 0
        have cq : wC.cell? ⟨gQ, 0, none⟩ = some (.slice none 0 0) := HQ.out.blk.cell 0
        go_upto_region 12 with (first
          | (with_reducible refine wpSeq_copyD (.tmp 45) (.tmp 47) (.slice ads ns cps) sd HI.out.rd (by have := HS3.out; omega) ?_ ?_ ?_ ?_ ?_
             · rfl
             · rfl
             · rfl
             · rfl
             intro v2 w2 own2 hb2
             clear cp cq
             have NQ : NewP (prfV nilV pe.1 pe.2.1 pe.2.2) wr gQ w2 := ⟨HQ.out.ge, HQ.out.blk.below hb2 HQ.out.blk.lt, HQ.out.below.trans (hb2.mono HQ.out.below.size)⟩
             obtain ⟨ad2, cp2, hv2⟩ := own2.slice
             rw [← HNS.out] at hv2
             subst hv2
             have cq : w2.cell? ⟨gQ, 0, none⟩ = some (.slice none 0 0) := NQ.blk.cell 0
             have fq : w2.frozen? ⟨gQ, 0, none⟩ = false := NQ.blk.frozen 0
             have HLT : Hid (gQ < wC.heap.size) := HQ.out.blk.lt
             have HWR : Hid (wr.heap.size ≤ wC.heap.size) := HQ.out.below.size
             have HWC : Hid (wC.heap.size ≤ (w2.setCell ⟨gQ, 0, none⟩ (.slice ad2 ns cp2)).heap.size) := by have := hb2.size; show _ ≤ _; simpa using this
             replace HQ : Hid (NewP (prfV (.slice ad2 ns cp2) pe.1 pe.2.1 pe.2.2) wr gQ (w2.setCell ⟨gQ, 0, none⟩ (.slice ad2 ns cp2))) := NQ.side
             have HO2 : Hid (OwnD (w2.setCell ⟨gQ, 0, none⟩ (.slice ad2 ns cp2)) wC.heap.size (.slice ad2 ns cp2) sd) := own2.keep fun j h1 _ => heap_one (by have := HLT.out; omega)
             replace HI : Hid (Ts w gA k gM mo gR r gP (.slice ads ns cps) sd pe.1 pe.2.1 pe.2.2 (w2.setCell ⟨gQ, 0, none⟩ (.slice ad2 ns cp2))) := HW.out.next HQ.out.below
             clear own2 hb2 NQ))
        clear cq fq
        generalize w2.setCell ⟨gQ, 0, none⟩ (.slice ad2 ns cp2) = w3x at *
        have hq0 : q = 0 ∨ q = 1 := by omega
        rcases hq0 with rfl | rfl
        · obtain ⟨sq, HSQD⟩ : ∃ z, Hid (z = sd ++ [mo]) := ⟨_, rfl⟩
          have HLQ0 : sq.length ≤ 300 := by rw [HSQD.out, List.length_append]; have := HS3.out; simp only [List.length_cons, List.length_nil]; omega
          have HTW : Hid (checkW r k sq pe.1 pe.2.1 pe.2.2 ≠ Option.none → twoL (hashL k (endB pe.1 pe.2.1 pe.2.2) 0 sd) (hashL k (endB pe.1 pe.2.1 pe.2.2) 0 sq)) := fun hne => by
            have ht : topL k (endB pe.1 pe.2.1 pe.2.2) 0 sq = r := by
              unfold checkW at hne
              split at hne
              · exact absurd rfl hne
              · rename_i hc
                exact Classical.byContradiction fun hn => hc (Or.inr (Or.inr hn))
            rw [HSQD.out] at ht ⊢
            exact hash_short k _ _ (endB_head _ _ _) sd mo 0 HI.out.rd.2 (by rw [HTP.out, ht])
          have cq : w3x.cell? ⟨gQ, 0, none⟩ = some (.slice ad2 ns cp2) := HQ.out.blk.cell 0
          go_upto_region 16 with (first
            | (with_reducible refine wpSeq_loadD (.tmp 7) gM mo ?_ ?_ ?_ ?_ ?_ ?_
               · exact HML.out
               · exact HI.out.mb
               · with_reducible rfl
               · rfl
               · rfl)
            | (with_reducible refine wpSeq_buildD (.tmp 54) mo HML.out ?_ ?_ ?_ ?_
               · rfl
               · rfl
               · rfl
               intro gB w4 nB
               clear cq
               have NQ : NewP (prfV (.slice ad2 ns cp2) pe.1 pe.2.1 pe.2.2) wr gQ w4 := ⟨HQ.out.ge, HQ.out.blk.below nB.below HQ.out.blk.lt, HQ.out.below.trans (nB.below.mono HQ.out.below.size)⟩
               replace HQ : Hid (NewP (prfV (.slice ad2 ns cp2) pe.1 pe.2.1 pe.2.2) wr gQ w4) := NQ
               replace HWC : Hid (wC.heap.size ≤ w4.heap.size) := Nat.le_trans HWC.out nB.below.size
               replace HO2 : Hid (OwnD w4 wC.heap.size (.slice ad2 ns cp2) sd) := HO2.out.keep fun j _ h2 => nB.below.block j h2
               have HBB : Hid (Blk w4 gB (cb mo) 23) := nB.blk
               clear NQ nB)
            | (with_reducible refine wpSeq_appendD (.tmp 53) (.tmp 55) wC.heap.size (.slice ad2 ns cp2) sd mo gB HO2.out HBB.out HML.out (by have := HS3.out; omega) HWC.out ?_ ?_ ?_ ?_ ?_
               · rfl
               · rfl
               · rfl
               · rfl
               intro v5 w5 own5 gr5
               have NQ : NewP (prfV (.slice ad2 ns cp2) pe.1 pe.2.1 pe.2.2) wr gQ w5 := ⟨HQ.out.ge, HQ.out.blk.below gr5.below HLT.out, HQ.out.below.trans (gr5.below.mono HWR.out)⟩
               obtain ⟨ad5, cp5, hv5⟩ := own5.slice
               obtain ⟨n5, HN5⟩ : ∃ z, Hid (z = (sd ++ [mo]).length) := ⟨_, rfl⟩
               rw [← HN5.out] at hv5
               subst hv5
               have cq : w5.cell? ⟨gQ, 0, none⟩ = some (.slice ad2 ns cp2) := NQ.blk.cell 0
               have fq : w5.frozen? ⟨gQ, 0, none⟩ = false := NQ.blk.frozen 0
               replace HQ : Hid (NewP (prfV (.slice ad5 n5 cp5) pe.1 pe.2.1 pe.2.2) wr gQ (w5.setCell ⟨gQ, 0, none⟩ (.slice ad5 n5 cp5))) := NQ.side
               have HSQ : Hid (ReadsD (w5.setCell ⟨gQ, 0, none⟩ (.slice ad5 n5 cp5)) (.slice ad5 n5 cp5) sq) := by rw [HSQD.out]; exact (own5.keep fun j h1 _ => heap_one (by have := HLT.out; omega)).readsD
               replace HI : Hid (Ts w gA k gM mo gR r gP (.slice ads ns cps) sd pe.1 pe.2.1 pe.2.2 (w5.setCell ⟨gQ, 0, none⟩ (.slice ad5 n5 cp5))) := HW.out.next HQ.out.below
               have HQB : Hid (Blk (w5.setCell ⟨gQ, 0, none⟩ (.slice ad5 n5 cp5)) gQ (prfV (.slice ad5 n5 cp5) pe.1 pe.2.1 pe.2.2) 26) := HQ.out.blk
               clear own5 gr5 NQ HO2 HBB HQ HW HWC))
          clear cq fq
          generalize w5.setCell ⟨gQ, 0, none⟩ (.slice ad5 n5 cp5) = w9x at *
          have HLQ : Hid (sq.length ≤ 300) := HLQ0
          have HCC : Hid (∃ (vv : List (BitVec 8)) (bb : Bool) (ee : Int), vv.length = 32 ∧ ((ee = 15) ∨ (ee = 0 ∧ twoL (hashL k (endB pe.1 pe.2.1 pe.2.2) 0 sd) (hashL k (endB pe.1 pe.2.1 pe.2.2) 0 sq))) ∧ (∀ W, KOk W → ReadsD W (.slice ad5 n5 cp5) sq → Calls Tryd.prog 15 #[.agg (cb r).toArray, .agg (cb k).toArray, .agg (prfV (.slice ad5 n5 cp5) pe.1 pe.2.1 pe.2.2).toArray] W fun e w' => e = .returned (.tuple #[.agg (cb vv).toArray, .bool bb, .int .i64 ee]) ∧ Below W.heap.size W w')) := by
            refine ⟨_, _, _, checkW_len HP32.out.2, ?_, fun W hk hh => HP.out.check W r k (.slice ad5 n5 cp5) sq pe.1 pe.2.1 pe.2.2 hk HRL.out HKL.out HP32.out.1 HP32.out.2 hh HLQ.out⟩
            cases hcw : checkW r k sq pe.1 pe.2.1 pe.2.2 with
            | none => exact Or.inl rfl
            | some z => exact Or.inr ⟨rfl, HTW.out (by rw [hcw]; simp)⟩
          obtain ⟨vv, bb, ee, hvl, hee, hcc⟩ := HCC.out
          have HVL : Hid (vv.length = 32) := hvl
          have HEE : Hid ((ee = 15) ∨ (ee = 0 ∧ twoL (hashL k (endB pe.1 pe.2.1 pe.2.2) 0 sd) (hashL k (endB pe.1 pe.2.1 pe.2.2) 0 sq))) := hee
          have HC5 : Hid (∀ W, KOk W → ReadsD W (.slice ad5 n5 cp5) sq → Calls Tryd.prog 15 #[.agg (cb r).toArray, .agg (cb k).toArray, .agg (prfV (.slice ad5 n5 cp5) pe.1 pe.2.1 pe.2.2).toArray] W fun e w' => e = .returned (.tuple #[.agg (cb vv).toArray, .bool bb, .int .i64 ee]) ∧ Below W.heap.size W w') := hcc
          clear HCC hvl hee hcc
          go_upto_region 17 with (first
            | (with_reducible refine wpSeq_loadD (.tmp 10) gR r ?_ ?_ ?_ ?_ ?_ ?_
               · exact HRL.out
               · exact HI.out.rb
               · with_reducible rfl
               · rfl
               · rfl)
            | (with_reducible refine wpSeq_loadD (.tmp 6) gA k ?_ ?_ ?_ ?_ ?_ ?_
               · exact HKL.out
               · exact HI.out.ab
               · with_reducible rfl
               · rfl
               · rfl)
            | (with_reducible refine wpSeq_loadP (.tmp 14) gQ (prfV (.slice ad5 n5 cp5) pe.1 pe.2.1 pe.2.2) ?_ ?_ ?_ ?_ ?_ ?_
               · exact prfV_len HP32.out.1 HP32.out.2
               · exact HQB.out
               · rfl
               · rfl
               · rfl)
            | (go_at_call 15; refine (HC5.out _ HI.out.kk HSQ.out).mono ?_; rintro e w6 ⟨rfl, hb6⟩
               replace HI : Hid (Ts w gA k gM mo gR r gP (.slice ads ns cps) sd pe.1 pe.2.1 pe.2.2 w6) := HI.out.next hb6
               replace HQB : Hid (Blk w6 gQ (prfV (.slice ad5 n5 cp5) pe.1 pe.2.1 pe.2.2) 26) := HQB.out.below hb6 HQB.out.lt
               replace HSQ : Hid (ReadsD w6 (.slice ad5 n5 cp5) sq) := HSQ.out.below hb6
               clear hb6)
            | (with_reducible refine wpSeq_allocD ?_ ?_ ?_
               · rfl
               · rfl
               intro g15 w7x nn15)
            | (with_reducible refine wpSeq_storeD (.tmp 15) (.tmp 71) g15 zb32 vv ?_ ?_ ?_ ?_ ?_ ?_ ?_ ?_
               · rfl
               · exact HVL.out
               · exact nn15.blk
               · rfl
               · rfl
               · rfl
               · rfl
               intro w8x h8
               have N15 := nn15.set h8
               replace HI : Hid (Ts w gA k gM mo gR r gP (.slice ads ns cps) sd pe.1 pe.2.1 pe.2.2 w8x) := HI.out.next N15.below
               replace HQB : Hid (Blk w8x gQ (prfV (.slice ad5 n5 cp5) pe.1 pe.2.1 pe.2.2) 26) := HQB.out.below N15.below HQB.out.lt
               replace HSQ : Hid (ReadsD w8x (.slice ad5 n5 cp5) sq) := HSQ.out.below N15.below
               clear nn15 h8 N15))
          rcases HEE.out with hee | ⟨hee, htw⟩
          · subst hee
            clear HEE
            refine wp_region_held_drew (S := fun wx => Ts w gA k gM mo gR r gP (.slice ads ns cps) sd pe.1 pe.2.1 pe.2.2 wx ∧ Blk wx gQ (prfV (.slice ad5 n5 cp5) pe.1 pe.2.1 pe.2.2) 26) (by kernel_rfl) ⟨HI.out.next (Below.refl _ _).drew, HQB.out⟩ ?_
            intro hS
            have hsq : ReadsD (World.drew w8x) (.slice ad5 n5 cp5) sq := HSQ.out
            clear HI HQB HSQ
            change wpAnyH _ _ _ _ _ _ _ _ (World.drew w8x)
            generalize World.drew w8x = y0 at *
            refine wpAnyH_take (i := 0) (v := .int .i64 15) rfl (by kernel_rfl) (by kernel_rfl) (by kernel_rfl) (fun _ _ _ h => h) (Or.inl ⟨by rfl, fun wx hx => by simp [go_sem]⟩) hS ?_
            simp only [Act.put, List.getElem_toArray, List.getElem_cons_zero, List.setIfInBounds_toArray, List.set_cons_zero, List.set_cons_succ]
            refine wpAnyH_take (i := 1) (v := .bool false) rfl (by kernel_rfl) (by kernel_rfl) (by kernel_rfl) (fun _ _ _ h => h) (Or.inl ⟨by rfl, fun wx hx => by simp [go_sem]⟩) hS ?_
            simp only [Act.put, List.getElem_toArray, List.getElem_cons_succ, List.getElem_cons_zero, List.setIfInBounds_toArray, List.set_cons_zero, List.set_cons_succ]
            refine wpAnyH_take (i := 2) (v := .bool false) rfl (by kernel_rfl) (by kernel_rfl) (by kernel_rfl) (fun _ _ _ h => h) (Or.inl ⟨by rfl, fun wx hx => by simp [go_sem]⟩) hS ?_
            simp only [Act.put, List.getElem_toArray, List.getElem_cons_succ, List.getElem_cons_zero, List.setIfInBounds_toArray, List.set_cons_zero, List.set_cons_succ]
            refine wpAnyH_take (i := 3) (v := undef) rfl (by kernel_rfl) (by kernel_rfl) (by kernel_rfl) (fun _ _ _ h => h) (Or.inr ⟨by rfl, rfl⟩) hS ?_
            simp only [Act.put, List.getElem_toArray, List.getElem_cons_succ, List.getElem_cons_zero, List.setIfInBounds_toArray, List.set_cons_zero, List.set_cons_succ]
            refine wpAnyH_take (i := 4) (v := undef) rfl (by kernel_rfl) (by kernel_rfl) (by kernel_rfl) (fun _ _ _ h => h) (Or.inr ⟨by rfl, rfl⟩) hS ?_
            simp only [Act.put, List.getElem_toArray, List.getElem_cons_succ, List.getElem_cons_zero, List.setIfInBounds_toArray, List.set_cons_zero, List.set_cons_succ]
            refine wpAnyH_take (i := 5) (v := undef) rfl (by kernel_rfl) (by kernel_rfl) (by kernel_rfl) (fun _ _ _ h => h) (Or.inr ⟨by rfl, rfl⟩) hS ?_
            simp only [Act.put, List.getElem_toArray, List.getElem_cons_succ, List.getElem_cons_zero, List.setIfInBounds_toArray, List.set_cons_zero, List.set_cons_succ]
            refine wpAnyH_take (i := 6) (v := undef) rfl (by kernel_rfl) (by kernel_rfl) (by kernel_rfl) (fun _ _ _ h => h) (Or.inr ⟨by rfl, rfl⟩) hS ?_
            simp only [Act.put, List.getElem_toArray, List.getElem_cons_succ, List.getElem_cons_zero, List.setIfInBounds_toArray, List.set_cons_zero, List.set_cons_succ]
            refine wpAnyH_take (i := 7) (v := undef) rfl (by kernel_rfl) (by kernel_rfl) (by kernel_rfl) (fun _ _ _ h => h) (Or.inr ⟨by rfl, rfl⟩) hS ?_
            simp only [Act.put, List.getElem_toArray, List.getElem_cons_succ, List.getElem_cons_zero, List.setIfInBounds_toArray, List.set_cons_zero, List.set_cons_succ]
            refine wpAnyH_take (i := 8) (v := undef) rfl (by kernel_rfl) (by kernel_rfl) (by kernel_rfl) (fun _ _ _ h => h) (Or.inr ⟨by rfl, rfl⟩) hS ?_
            simp only [Act.put, List.getElem_toArray, List.getElem_cons_succ, List.getElem_cons_zero, List.setIfInBounds_toArray, List.set_cons_zero, List.set_cons_succ]
            refine wpAnyH_take (i := 9) (v := undef) rfl (by kernel_rfl) (by kernel_rfl) (by kernel_rfl) (fun _ _ _ h => h) (Or.inr ⟨by rfl, rfl⟩) hS ?_
            simp only [Act.put, List.getElem_toArray, List.getElem_cons_succ, List.getElem_cons_zero, List.setIfInBounds_toArray, List.set_cons_zero, List.set_cons_succ]
            refine wpAnyH_take (i := 10) (v := undef) rfl (by kernel_rfl) (by kernel_rfl) (by kernel_rfl) (fun _ _ _ h => h) (Or.inr ⟨by rfl, rfl⟩) hS ?_
            simp only [Act.put, List.getElem_toArray, List.getElem_cons_succ, List.getElem_cons_zero, List.setIfInBounds_toArray, List.set_cons_zero, List.set_cons_succ]
            refine wpAnyH_take (i := 11) (v := .bool false) rfl (by kernel_rfl) (by kernel_rfl) (by kernel_rfl) (fun _ _ _ h => h) (Or.inl ⟨by rfl, fun wx hx => by simp [go_sem]⟩) hS ?_
            simp only [Act.put, List.getElem_toArray, List.getElem_cons_succ, List.getElem_cons_zero, List.setIfInBounds_toArray, List.set_cons_zero, List.set_cons_succ]
            refine wpAnyH_done (by kernel_rfl) ?_ _
            go_wp2
            go_roundw
            case rel => exact ⟨1, by omega, by simp, hS.1⟩
            case measure => simp [intOf]
          · subst hee
            have HTWO : Hid (twoL (hashL k (endB pe.1 pe.2.1 pe.2.2) 0 sd) (hashL k (endB pe.1 pe.2.1 pe.2.2) 0 sq)) := htw
            clear HEE htw
            refine wp_region_held_drew (S := fun wx => Ts w gA k gM mo gR r gP (.slice ads ns cps) sd pe.1 pe.2.1 pe.2.2 wx ∧ Blk wx gQ (prfV (.slice ad5 n5 cp5) pe.1 pe.2.1 pe.2.2) 26) (by kernel_rfl) ⟨HI.out.next (Below.refl _ _).drew, HQB.out⟩ ?_
            intro hS
            have hsq : ReadsD (World.drew w8x) (.slice ad5 n5 cp5) sq := HSQ.out
            clear HI HQB HSQ
            change wpAnyH _ _ _ _ _ _ _ _ (World.drew w8x)
            generalize World.drew w8x = y0 at *
            refine wpAnyH_take (i := 0) (v := .int .i64 0) rfl (by kernel_rfl) (by kernel_rfl) (by kernel_rfl) (fun _ _ _ h => h) (Or.inl ⟨by rfl, fun wx hx => by simp [go_sem]⟩) hS ?_
            simp only [Act.put, List.getElem_toArray, List.getElem_cons_zero, List.setIfInBounds_toArray, List.set_cons_zero, List.set_cons_succ]
            refine wpAnyH_take (i := 1) (v := .bool true) rfl (by kernel_rfl) (by kernel_rfl) (by kernel_rfl) (fun _ _ _ h => h) (Or.inl ⟨by rfl, fun wx hx => by simp [go_sem]⟩) hS ?_
            simp only [Act.put, List.getElem_toArray, List.getElem_cons_succ, List.getElem_cons_zero, List.setIfInBounds_toArray, List.set_cons_zero, List.set_cons_succ]
            refine wpAnyH_take (i := 2) (v := .bool true) rfl (by kernel_rfl) (by kernel_rfl) (by kernel_rfl) (fun _ _ _ h => h) (Or.inl ⟨by rfl, fun wx hx => by simp [go_sem]⟩) hS ?_
            simp only [Act.put, List.getElem_toArray, List.getElem_cons_succ, List.getElem_cons_zero, List.setIfInBounds_toArray, List.set_cons_zero, List.set_cons_succ]
            refine wpAnyH_take (i := 3) (v := .agg (cb k).toArray) rfl (by kernel_rfl) (by kernel_rfl) (by kernel_rfl) (fun _ _ _ h => h) (Or.inl ⟨by rfl, fun wx hx => by exact loadDigest _ gA k HKL.out hx.1.ab rfl rfl⟩) hS ?_
            simp only [Act.put, List.getElem_toArray, List.getElem_cons_succ, List.getElem_cons_zero, List.setIfInBounds_toArray, List.set_cons_zero, List.set_cons_succ]
            refine wpAnyH_take (i := 4) (v := .agg (prfV (.slice ads ns cps) pe.1 pe.2.1 pe.2.2).toArray) rfl (by kernel_rfl) (by kernel_rfl) (by kernel_rfl) (fun _ _ _ h => h) (Or.inl ⟨by rfl, fun wx hx => by exact load_run 26 _ rfl gP 0 rfl (prfV (.slice ads ns cps) pe.1 pe.2.1 pe.2.2) _ hx.1.pb.range Tryd.underlying26 rfl (by rw [prfV_len HP32.out.1 HP32.out.2]; exact info_proof)⟩) hS ?_
            simp only [Act.put, List.getElem_toArray, List.getElem_cons_succ, List.getElem_cons_zero, List.setIfInBounds_toArray, List.set_cons_zero, List.set_cons_succ]
            refine wpAnyH_take (i := 6) (v := .agg (cb k).toArray) rfl (by kernel_rfl) (by kernel_rfl) (by kernel_rfl) (fun _ _ _ h => h) (Or.inl ⟨by rfl, fun wx hx => by exact loadDigest _ gA k HKL.out hx.1.ab rfl rfl⟩) hS ?_
            simp only [Act.put, List.getElem_toArray, List.getElem_cons_succ, List.getElem_cons_zero, List.setIfInBounds_toArray, List.set_cons_zero, List.set_cons_succ]
            refine wpAnyH_take (i := 7) (v := .agg (prfV (.slice ad5 n5 cp5) pe.1 pe.2.1 pe.2.2).toArray) rfl (by kernel_rfl) (by kernel_rfl) (by kernel_rfl) (fun _ _ _ h => h) (Or.inl ⟨by rfl, fun wx hx => by exact load_run 26 _ rfl gQ 0 rfl (prfV (.slice ad5 n5 cp5) pe.1 pe.2.1 pe.2.2) _ hx.2.range Tryd.underlying26 rfl (by rw [prfV_len HP32.out.1 HP32.out.2]; exact info_proof)⟩) hS ?_
            simp only [Act.put, List.getElem_toArray, List.getElem_cons_succ, List.getElem_cons_zero, List.setIfInBounds_toArray, List.set_cons_zero, List.set_cons_succ]
            refine wpAnyH_enter 5 (by kernel_rfl) rfl (by rfl) (f := 10) (args := #[.agg (cb k).toArray, .agg (prfV (.slice ads ns cps) pe.1 pe.2.1 pe.2.2).toArray]) (by simp [go_sem]) (HP.out.hashed _ k (.slice ads ns cps) sd pe.1 pe.2.1 pe.2.2 hS.1.kk HKL.out HP32.out.1 HP32.out.2 hS.1.rd (by have := HS3.out; omega)) ?_
            rintro e y1 ⟨u1, rfl, hu1, hb⟩
            replace hS : Ts w gA k gM mo gR r gP (.slice ads ns cps) sd pe.1 pe.2.1 pe.2.2 y1 ∧ Blk y1 gQ (prfV (.slice ad5 n5 cp5) pe.1 pe.2.1 pe.2.2) 26 := ⟨hS.1.next hb, hS.2.below hb hS.2.lt⟩
            replace hsq := hsq.below hb
            refine ⟨_, rfl, hS, ?_⟩
            clear hb
            simp only [Act.put, List.getElem_toArray, List.getElem_cons_succ, List.getElem_cons_zero, List.setIfInBounds_toArray, List.set_cons_zero, List.set_cons_succ]
            refine wpAnyH_enter 8 (by kernel_rfl) rfl (by rfl) (f := 10) (args := #[.agg (cb k).toArray, .agg (prfV (.slice ad5 n5 cp5) pe.1 pe.2.1 pe.2.2).toArray]) (by simp [go_sem]) (HP.out.hashed _ k (.slice ad5 n5 cp5) sq pe.1 pe.2.1 pe.2.2 hS.1.kk HKL.out HP32.out.1 HP32.out.2 hsq (by have := HLQ.out; omega)) ?_
            rintro e y2 ⟨u2, rfl, hu2, hb⟩
            replace hS : Ts w gA k gM mo gR r gP (.slice ads ns cps) sd pe.1 pe.2.1 pe.2.2 y2 ∧ Blk y2 gQ (prfV (.slice ad5 n5 cp5) pe.1 pe.2.1 pe.2.2) 26 := ⟨hS.1.next hb, hS.2.below hb hS.2.lt⟩
            replace hu1 := hu1.below hb
            refine ⟨_, rfl, hS, ?_⟩
            clear hb
            simp only [Act.put, List.getElem_toArray, List.getElem_cons_succ, List.getElem_cons_zero, List.setIfInBounds_toArray, List.set_cons_zero, List.set_cons_succ]
            have hle1 : ∀ t ∈ hashL k (endB pe.1 pe.2.1 pe.2.2) 0 sd, t.length ≤ 65 := hashL_le k _ (endB_le HP32.out.1 HP32.out.2) _ _ hS.1.rd.2
            have hle2 : ∀ t ∈ hashL k (endB pe.1 pe.2.1 pe.2.2) 0 sq, t.length ≤ 65 := hashL_le k _ (endB_le HP32.out.1 HP32.out.2) _ _ hsq.2
            refine wpAnyH_enter 9 (by kernel_rfl) rfl (by rfl) (f := 22) (args := #[u1, u2]) (by simp [go_sem]) (pftwo_any u1 u2 _ _ _ hu1 hu2 (by rw [hashL_len]; have := HS3.out; omega) (by rw [hashL_len]; have := HLQ.out; omega) hle1 hle2) ?_
            rintro e y3 ⟨o3, rfl, ho3, hb⟩
            obtain rfl : o3 = true := ho3.2 HTWO.out
            replace hS : Ts w gA k gM mo gR r gP (.slice ads ns cps) sd pe.1 pe.2.1 pe.2.2 y3 ∧ Blk y3 gQ (prfV (.slice ad5 n5 cp5) pe.1 pe.2.1 pe.2.2) 26 := ⟨hS.1.next hb, hS.2.below hb hS.2.lt⟩
            refine ⟨_, rfl, hS, ?_⟩
            clear hb hu1 hu2 hsq hle1 hle2 ho3
            simp only [Act.put, List.getElem_toArray, List.getElem_cons_succ, List.getElem_cons_zero, List.setIfInBounds_toArray, List.set_cons_zero, List.set_cons_succ]
            refine wpAnyH_take (i := 10) (v := .bool false) rfl (by kernel_rfl) (by kernel_rfl) (by kernel_rfl) (fun _ _ _ h => h) (Or.inl ⟨by rfl, fun wx hx => by simp [go_sem]⟩) hS ?_
            simp only [Act.put, List.getElem_toArray, List.getElem_cons_succ, List.getElem_cons_zero, List.setIfInBounds_toArray, List.set_cons_zero, List.set_cons_succ]
            refine wpAnyH_take (i := 11) (v := .bool false) rfl (by kernel_rfl) (by kernel_rfl) (by kernel_rfl) (fun _ _ _ h => h) (Or.inl ⟨by rfl, fun wx hx => by simp [go_sem]⟩) hS ?_
            simp only [Act.put, List.getElem_toArray, List.getElem_cons_succ, List.getElem_cons_zero, List.setIfInBounds_toArray, List.set_cons_zero, List.set_cons_succ]
            refine wpAnyH_done (by kernel_rfl) ?_ _
            go_wp2
            go_roundw
            case rel => exact ⟨1, by omega, by simp, hS.1⟩
            case measure => simp [intOf]
        · by_cases hz : ns = 0
          · have f5 : ((ns : Int) == 0) = true := by rw [beq_iff_eq]; omega
            clear hz
            go_wp2
            go_roundw
            case rel => exact ⟨2, by omega, by simp, HI.out⟩
            case measure => simp [intOf]
          · obtain ⟨m5, HM5⟩ : ∃ m : Nat, Hid (ns = m + 1) := ⟨ns - 1, by show _ = _; omega⟩
            obtain ⟨sq, HSQD⟩ : ∃ z, Hid (z = sd.take m5) := ⟨_, rfl⟩
            have HLQ0 : sq.length ≤ 300 := by rw [HSQD.out, List.length_take]; have := HS3.out; omega
            have HTW : Hid (checkW r k sq pe.1 pe.2.1 pe.2.2 ≠ Option.none → twoL (hashL k (endB pe.1 pe.2.1 pe.2.2) 0 sd) (hashL k (endB pe.1 pe.2.1 pe.2.2) 0 sq)) := fun hne => by
              have ht : topL k (endB pe.1 pe.2.1 pe.2.2) 0 sq = r := by
                unfold checkW at hne
                split at hne
                · exact absurd rfl hne
                · rename_i hc
                  exact Classical.byContradiction fun hn => hc (Or.inr (Or.inr hn))
              have hlt : m5 < sd.length := by rw [← HNS.out, HM5.out]; omega
              have he : sd = sq ++ [sd[m5]] := by
                rw [HSQD.out]
                have h1 : sd.take (m5 + 1) = sd := List.take_of_length_le (by rw [← HNS.out, HM5.out]; omega)
                conv => lhs; rw [← h1, List.take_add_one, List.getElem?_eq_getElem hlt]
                rfl
              have h2 := hash_short k (endB pe.1 pe.2.1 pe.2.2) (endB pe.1 pe.2.1 pe.2.2) (endB_head _ _ _) sq sd[m5] 0 (fun t h => HI.out.rd.2 t (by rw [HSQD.out] at h; exact List.mem_of_mem_take h)) (by rw [← he, HTP.out, ht])
              rw [← he] at h2
              exact h2.symm
            obtain ⟨g9, hg9⟩ : ∃ g, ad2 = some ⟨g, 0, none⟩ := by
              rcases HO2.out.1 with ⟨_, ⟨h1, h2⟩ | ⟨g, cap, cur, h1, _⟩⟩
              · rw [← HNS.out] at h2; omega
              · cases h1; exact ⟨g, rfl⟩
            subst hg9
            have HCP2 : Hid (ns ≤ cp2) := by
              show _ ≤ _
              rcases HO2.out.1 with ⟨_, ⟨h1, h2⟩ | ⟨g, cap, cur, h1, _, _, h3, _⟩⟩
              · rw [← HNS.out] at h2; omega
              · cases h1; rw [← HNS.out] at h3; exact h3
            have cq : w3x.cell? ⟨gQ, 0, none⟩ = some (.slice (some ⟨g9, 0, none⟩) ns cp2) := HQ.out.blk.cell 0
            have fq : w3x.frozen? ⟨gQ, 0, none⟩ = false := HQ.out.blk.frozen 0
            have f1 : IntKind.i64.wrap ((ns : Int) - 1) = (m5 : Int) := by rw [IntKind.wrap_i64]; have h1 := HS3.out; have h2 := HNS.out; have h3 := HM5.out; omega
            have f2 : (0 : Int) ≤ (m5 : Int) := by omega
            have f3 : (m5 : Int) ≤ (cp2 : Int) := by have h1 := HCP2.out; have h2 := HM5.out; omega
            have f5 : ((ns : Int) == 0) = false := by rw [beq_eq_false_iff_ne]; omega
            clear hz
            go_upto_region 16 with fail
            clear cq fq f1 f2 f3 f5
            replace HQ : Hid (NewP (prfV (.slice (some ⟨g9, 0, none⟩) m5 cp2) pe.1 pe.2.1 pe.2.2) wr gQ (w3x.setCell ⟨gQ, 0, none⟩ (.slice (some ⟨g9, 0, none⟩) m5 cp2))) := HQ.out.side
            have HSQ : Hid (ReadsD (w3x.setCell ⟨gQ, 0, none⟩ (.slice (some ⟨g9, 0, none⟩) m5 cp2)) (.slice (some ⟨g9, 0, none⟩) m5 cp2) sq) := by
              have h1 := (HO2.out.keep (w' := w3x.setCell ⟨gQ, 0, none⟩ (.slice (some ⟨g9, 0, none⟩) m5 cp2)) fun j h1 _ => heap_one (by have := HLT.out; omega)).readsD
              have h2 := HNS.out
              rw [HM5.out] at h1 h2
              rw [HSQD.out]
              exact h1.init h2
            replace HI : Hid (Ts w gA k gM mo gR r gP (.slice ads ns cps) sd pe.1 pe.2.1 pe.2.2 (w3x.setCell ⟨gQ, 0, none⟩ (.slice (some ⟨g9, 0, none⟩) m5 cp2))) := HW.out.next HQ.out.below
            have HQB : Hid (Blk (w3x.setCell ⟨gQ, 0, none⟩ (.slice (some ⟨g9, 0, none⟩) m5 cp2)) gQ (prfV (.slice (some ⟨g9, 0, none⟩) m5 cp2) pe.1 pe.2.1 pe.2.2) 26) := HQ.out.blk
            clear HO2 HQ HW HWC
            generalize w3x.setCell ⟨gQ, 0, none⟩ (.slice (some ⟨g9, 0, none⟩) m5 cp2) = w9x at *
            have HLQ : Hid (sq.length ≤ 300) := HLQ0
            have HCC : Hid (∃ (vv : List (BitVec 8)) (bb : Bool) (ee : Int), vv.length = 32 ∧ ((ee = 15) ∨ (ee = 0 ∧ twoL (hashL k (endB pe.1 pe.2.1 pe.2.2) 0 sd) (hashL k (endB pe.1 pe.2.1 pe.2.2) 0 sq))) ∧ (∀ W, KOk W → ReadsD W (.slice (some ⟨g9, 0, none⟩) m5 cp2) sq → Calls Tryd.prog 15 #[.agg (cb r).toArray, .agg (cb k).toArray, .agg (prfV (.slice (some ⟨g9, 0, none⟩) m5 cp2) pe.1 pe.2.1 pe.2.2).toArray] W fun e w' => e = .returned (.tuple #[.agg (cb vv).toArray, .bool bb, .int .i64 ee]) ∧ Below W.heap.size W w')) := by
              refine ⟨_, _, _, checkW_len HP32.out.2, ?_, fun W hk hh => HP.out.check W r k (.slice (some ⟨g9, 0, none⟩) m5 cp2) sq pe.1 pe.2.1 pe.2.2 hk HRL.out HKL.out HP32.out.1 HP32.out.2 hh HLQ.out⟩
              cases hcw : checkW r k sq pe.1 pe.2.1 pe.2.2 with
              | none => exact Or.inl rfl
              | some z => exact Or.inr ⟨rfl, HTW.out (by rw [hcw]; simp)⟩
            obtain ⟨vv, bb, ee, hvl, hee, hcc⟩ := HCC.out
            have HVL : Hid (vv.length = 32) := hvl
            have HEE : Hid ((ee = 15) ∨ (ee = 0 ∧ twoL (hashL k (endB pe.1 pe.2.1 pe.2.2) 0 sd) (hashL k (endB pe.1 pe.2.1 pe.2.2) 0 sq))) := hee
            have HC5 : Hid (∀ W, KOk W → ReadsD W (.slice (some ⟨g9, 0, none⟩) m5 cp2) sq → Calls Tryd.prog 15 #[.agg (cb r).toArray, .agg (cb k).toArray, .agg (prfV (.slice (some ⟨g9, 0, none⟩) m5 cp2) pe.1 pe.2.1 pe.2.2).toArray] W fun e w' => e = .returned (.tuple #[.agg (cb vv).toArray, .bool bb, .int .i64 ee]) ∧ Below W.heap.size W w') := hcc
            clear HCC hvl hee hcc
            go_upto_region 17 with (first
              | (with_reducible refine wpSeq_loadD (.tmp 10) gR r ?_ ?_ ?_ ?_ ?_ ?_
                 · exact HRL.out
                 · exact HI.out.rb
                 · with_reducible rfl
                 · rfl
                 · rfl)
              | (with_reducible refine wpSeq_loadD (.tmp 6) gA k ?_ ?_ ?_ ?_ ?_ ?_
                 · exact HKL.out
                 · exact HI.out.ab
                 · with_reducible rfl
                 · rfl
                 · rfl)
              | (with_reducible refine wpSeq_loadP (.tmp 14) gQ (prfV (.slice (some ⟨g9, 0, none⟩) m5 cp2) pe.1 pe.2.1 pe.2.2) ?_ ?_ ?_ ?_ ?_ ?_
                 · exact prfV_len HP32.out.1 HP32.out.2
                 · exact HQB.out
                 · rfl
                 · rfl
                 · rfl)
              | (go_at_call 15; refine (HC5.out _ HI.out.kk HSQ.out).mono ?_; rintro e w6 ⟨rfl, hb6⟩
                 replace HI : Hid (Ts w gA k gM mo gR r gP (.slice ads ns cps) sd pe.1 pe.2.1 pe.2.2 w6) := HI.out.next hb6
                 replace HQB : Hid (Blk w6 gQ (prfV (.slice (some ⟨g9, 0, none⟩) m5 cp2) pe.1 pe.2.1 pe.2.2) 26) := HQB.out.below hb6 HQB.out.lt
                 replace HSQ : Hid (ReadsD w6 (.slice (some ⟨g9, 0, none⟩) m5 cp2) sq) := HSQ.out.below hb6
                 clear hb6)
              | (with_reducible refine wpSeq_allocD ?_ ?_ ?_
                 · rfl
                 · rfl
                 intro g15 w7x nn15)
              | (with_reducible refine wpSeq_storeD (.tmp 15) (.tmp 71) g15 zb32 vv ?_ ?_ ?_ ?_ ?_ ?_ ?_ ?_
                 · rfl
                 · exact HVL.out
                 · exact nn15.blk
                 · rfl
                 · rfl
                 · rfl
                 · rfl
                 intro w8x h8
                 have N15 := nn15.set h8
                 replace HI : Hid (Ts w gA k gM mo gR r gP (.slice ads ns cps) sd pe.1 pe.2.1 pe.2.2 w8x) := HI.out.next N15.below
                 replace HQB : Hid (Blk w8x gQ (prfV (.slice (some ⟨g9, 0, none⟩) m5 cp2) pe.1 pe.2.1 pe.2.2) 26) := HQB.out.below N15.below HQB.out.lt
                 replace HSQ : Hid (ReadsD w8x (.slice (some ⟨g9, 0, none⟩) m5 cp2) sq) := HSQ.out.below N15.below
                 clear nn15 h8 N15))
            rcases HEE.out with hee | ⟨hee, htw⟩
            · subst hee
              clear HEE
              refine wp_region_held_drew (S := fun wx => Ts w gA k gM mo gR r gP (.slice ads ns cps) sd pe.1 pe.2.1 pe.2.2 wx ∧ Blk wx gQ (prfV (.slice (some ⟨g9, 0, none⟩) m5 cp2) pe.1 pe.2.1 pe.2.2) 26) (by kernel_rfl) ⟨HI.out.next (Below.refl _ _).drew, HQB.out⟩ ?_
              intro hS
              have hsq : ReadsD (World.drew w8x) (.slice (some ⟨g9, 0, none⟩) m5 cp2) sq := HSQ.out
              clear HI HQB HSQ
              change wpAnyH _ _ _ _ _ _ _ _ (World.drew w8x)
              generalize World.drew w8x = y0 at *
              refine wpAnyH_take (i := 0) (v := .int .i64 15) rfl (by kernel_rfl) (by kernel_rfl) (by kernel_rfl) (fun _ _ _ h => h) (Or.inl ⟨by rfl, fun wx hx => by simp [go_sem]⟩) hS ?_
              simp only [Act.put, List.getElem_toArray, List.getElem_cons_zero, List.setIfInBounds_toArray, List.set_cons_zero, List.set_cons_succ]
              refine wpAnyH_take (i := 1) (v := .bool false) rfl (by kernel_rfl) (by kernel_rfl) (by kernel_rfl) (fun _ _ _ h => h) (Or.inl ⟨by rfl, fun wx hx => by simp [go_sem]⟩) hS ?_
              simp only [Act.put, List.getElem_toArray, List.getElem_cons_succ, List.getElem_cons_zero, List.setIfInBounds_toArray, List.set_cons_zero, List.set_cons_succ]
              refine wpAnyH_take (i := 2) (v := .bool false) rfl (by kernel_rfl) (by kernel_rfl) (by kernel_rfl) (fun _ _ _ h => h) (Or.inl ⟨by rfl, fun wx hx => by simp [go_sem]⟩) hS ?_
              simp only [Act.put, List.getElem_toArray, List.getElem_cons_succ, List.getElem_cons_zero, List.setIfInBounds_toArray, List.set_cons_zero, List.set_cons_succ]
              refine wpAnyH_take (i := 3) (v := undef) rfl (by kernel_rfl) (by kernel_rfl) (by kernel_rfl) (fun _ _ _ h => h) (Or.inr ⟨by rfl, rfl⟩) hS ?_
              simp only [Act.put, List.getElem_toArray, List.getElem_cons_succ, List.getElem_cons_zero, List.setIfInBounds_toArray, List.set_cons_zero, List.set_cons_succ]
              refine wpAnyH_take (i := 4) (v := undef) rfl (by kernel_rfl) (by kernel_rfl) (by kernel_rfl) (fun _ _ _ h => h) (Or.inr ⟨by rfl, rfl⟩) hS ?_
              simp only [Act.put, List.getElem_toArray, List.getElem_cons_succ, List.getElem_cons_zero, List.setIfInBounds_toArray, List.set_cons_zero, List.set_cons_succ]
              refine wpAnyH_take (i := 5) (v := undef) rfl (by kernel_rfl) (by kernel_rfl) (by kernel_rfl) (fun _ _ _ h => h) (Or.inr ⟨by rfl, rfl⟩) hS ?_
              simp only [Act.put, List.getElem_toArray, List.getElem_cons_succ, List.getElem_cons_zero, List.setIfInBounds_toArray, List.set_cons_zero, List.set_cons_succ]
              refine wpAnyH_take (i := 6) (v := undef) rfl (by kernel_rfl) (by kernel_rfl) (by kernel_rfl) (fun _ _ _ h => h) (Or.inr ⟨by rfl, rfl⟩) hS ?_
              simp only [Act.put, List.getElem_toArray, List.getElem_cons_succ, List.getElem_cons_zero, List.setIfInBounds_toArray, List.set_cons_zero, List.set_cons_succ]
              refine wpAnyH_take (i := 7) (v := undef) rfl (by kernel_rfl) (by kernel_rfl) (by kernel_rfl) (fun _ _ _ h => h) (Or.inr ⟨by rfl, rfl⟩) hS ?_
              simp only [Act.put, List.getElem_toArray, List.getElem_cons_succ, List.getElem_cons_zero, List.setIfInBounds_toArray, List.set_cons_zero, List.set_cons_succ]
              refine wpAnyH_take (i := 8) (v := undef) rfl (by kernel_rfl) (by kernel_rfl) (by kernel_rfl) (fun _ _ _ h => h) (Or.inr ⟨by rfl, rfl⟩) hS ?_
              simp only [Act.put, List.getElem_toArray, List.getElem_cons_succ, List.getElem_cons_zero, List.setIfInBounds_toArray, List.set_cons_zero, List.set_cons_succ]
              refine wpAnyH_take (i := 9) (v := undef) rfl (by kernel_rfl) (by kernel_rfl) (by kernel_rfl) (fun _ _ _ h => h) (Or.inr ⟨by rfl, rfl⟩) hS ?_
              simp only [Act.put, List.getElem_toArray, List.getElem_cons_succ, List.getElem_cons_zero, List.setIfInBounds_toArray, List.set_cons_zero, List.set_cons_succ]
              refine wpAnyH_take (i := 10) (v := undef) rfl (by kernel_rfl) (by kernel_rfl) (by kernel_rfl) (fun _ _ _ h => h) (Or.inr ⟨by rfl, rfl⟩) hS ?_
              simp only [Act.put, List.getElem_toArray, List.getElem_cons_succ, List.getElem_cons_zero, List.setIfInBounds_toArray, List.set_cons_zero, List.set_cons_succ]
              refine wpAnyH_take (i := 11) (v := .bool false) rfl (by kernel_rfl) (by kernel_rfl) (by kernel_rfl) (fun _ _ _ h => h) (Or.inl ⟨by rfl, fun wx hx => by simp [go_sem]⟩) hS ?_
              simp only [Act.put, List.getElem_toArray, List.getElem_cons_succ, List.getElem_cons_zero, List.setIfInBounds_toArray, List.set_cons_zero, List.set_cons_succ]
              refine wpAnyH_done (by kernel_rfl) ?_ _
              go_wp2
              go_roundw
              case rel => exact ⟨2, by omega, by simp, hS.1⟩
              case measure => simp [intOf]
            · subst hee
              have HTWO : Hid (twoL (hashL k (endB pe.1 pe.2.1 pe.2.2) 0 sd) (hashL k (endB pe.1 pe.2.1 pe.2.2) 0 sq)) := htw
              clear HEE htw
              refine wp_region_held_drew (S := fun wx => Ts w gA k gM mo gR r gP (.slice ads ns cps) sd pe.1 pe.2.1 pe.2.2 wx ∧ Blk wx gQ (prfV (.slice (some ⟨g9, 0, none⟩) m5 cp2) pe.1 pe.2.1 pe.2.2) 26) (by kernel_rfl) ⟨HI.out.next (Below.refl _ _).drew, HQB.out⟩ ?_
              intro hS
              have hsq : ReadsD (World.drew w8x) (.slice (some ⟨g9, 0, none⟩) m5 cp2) sq := HSQ.out
              clear HI HQB HSQ
              change wpAnyH _ _ _ _ _ _ _ _ (World.drew w8x)
              generalize World.drew w8x = y0 at *
              refine wpAnyH_take (i := 0) (v := .int .i64 0) rfl (by kernel_rfl) (by kernel_rfl) (by kernel_rfl) (fun _ _ _ h => h) (Or.inl ⟨by rfl, fun wx hx => by simp [go_sem]⟩) hS ?_
              simp only [Act.put, List.getElem_toArray, List.getElem_cons_zero, List.setIfInBounds_toArray, List.set_cons_zero, List.set_cons_succ]
              refine wpAnyH_take (i := 1) (v := .bool true) rfl (by kernel_rfl) (by kernel_rfl) (by kernel_rfl) (fun _ _ _ h => h) (Or.inl ⟨by rfl, fun wx hx => by simp [go_sem]⟩) hS ?_
              simp only [Act.put, List.getElem_toArray, List.getElem_cons_succ, List.getElem_cons_zero, List.setIfInBounds_toArray, List.set_cons_zero, List.set_cons_succ]
              refine wpAnyH_take (i := 2) (v := .bool true) rfl (by kernel_rfl) (by kernel_rfl) (by kernel_rfl) (fun _ _ _ h => h) (Or.inl ⟨by rfl, fun wx hx => by simp [go_sem]⟩) hS ?_
              simp only [Act.put, List.getElem_toArray, List.getElem_cons_succ, List.getElem_cons_zero, List.setIfInBounds_toArray, List.set_cons_zero, List.set_cons_succ]
              refine wpAnyH_take (i := 3) (v := .agg (cb k).toArray) rfl (by kernel_rfl) (by kernel_rfl) (by kernel_rfl) (fun _ _ _ h => h) (Or.inl ⟨by rfl, fun wx hx => by exact loadDigest _ gA k HKL.out hx.1.ab rfl rfl⟩) hS ?_
              simp only [Act.put, List.getElem_toArray, List.getElem_cons_succ, List.getElem_cons_zero, List.setIfInBounds_toArray, List.set_cons_zero, List.set_cons_succ]
              refine wpAnyH_take (i := 4) (v := .agg (prfV (.slice ads ns cps) pe.1 pe.2.1 pe.2.2).toArray) rfl (by kernel_rfl) (by kernel_rfl) (by kernel_rfl) (fun _ _ _ h => h) (Or.inl ⟨by rfl, fun wx hx => by exact load_run 26 _ rfl gP 0 rfl (prfV (.slice ads ns cps) pe.1 pe.2.1 pe.2.2) _ hx.1.pb.range Tryd.underlying26 rfl (by rw [prfV_len HP32.out.1 HP32.out.2]; exact info_proof)⟩) hS ?_
              simp only [Act.put, List.getElem_toArray, List.getElem_cons_succ, List.getElem_cons_zero, List.setIfInBounds_toArray, List.set_cons_zero, List.set_cons_succ]
              refine wpAnyH_take (i := 6) (v := .agg (cb k).toArray) rfl (by kernel_rfl) (by kernel_rfl) (by kernel_rfl) (fun _ _ _ h => h) (Or.inl ⟨by rfl, fun wx hx => by exact loadDigest _ gA k HKL.out hx.1.ab rfl rfl⟩) hS ?_
              simp only [Act.put, List.getElem_toArray, List.getElem_cons_succ, List.getElem_cons_zero, List.setIfInBounds_toArray, List.set_cons_zero, List.set_cons_succ]
              refine wpAnyH_take (i := 7) (v := .agg (prfV (.slice (some ⟨g9, 0, none⟩) m5 cp2) pe.1 pe.2.1 pe.2.2).toArray) rfl (by kernel_rfl) (by kernel_rfl) (by kernel_rfl) (fun _ _ _ h => h) (Or.inl ⟨by rfl, fun wx hx => by exact load_run 26 _ rfl gQ 0 rfl (prfV (.slice (some ⟨g9, 0, none⟩) m5 cp2) pe.1 pe.2.1 pe.2.2) _ hx.2.range Tryd.underlying26 rfl (by rw [prfV_len HP32.out.1 HP32.out.2]; exact info_proof)⟩) hS ?_
              simp only [Act.put, List.getElem_toArray, List.getElem_cons_succ, List.getElem_cons_zero, List.setIfInBounds_toArray, List.set_cons_zero, List.set_cons_succ]
              refine wpAnyH_enter 5 (by kernel_rfl) rfl (by rfl) (f := 10) (args := #[.agg (cb k).toArray, .agg (prfV (.slice ads ns cps) pe.1 pe.2.1 pe.2.2).toArray]) (by simp [go_sem]) (HP.out.hashed _ k (.slice ads ns cps) sd pe.1 pe.2.1 pe.2.2 hS.1.kk HKL.out HP32.out.1 HP32.out.2 hS.1.rd (by have := HS3.out; omega)) ?_
              rintro e y1 ⟨u1, rfl, hu1, hb⟩
              replace hS : Ts w gA k gM mo gR r gP (.slice ads ns cps) sd pe.1 pe.2.1 pe.2.2 y1 ∧ Blk y1 gQ (prfV (.slice (some ⟨g9, 0, none⟩) m5 cp2) pe.1 pe.2.1 pe.2.2) 26 := ⟨hS.1.next hb, hS.2.below hb hS.2.lt⟩
              replace hsq := hsq.below hb
              refine ⟨_, rfl, hS, ?_⟩
              clear hb
              simp only [Act.put, List.getElem_toArray, List.getElem_cons_succ, List.getElem_cons_zero, List.setIfInBounds_toArray, List.set_cons_zero, List.set_cons_succ]
              refine wpAnyH_enter 8 (by kernel_rfl) rfl (by rfl) (f := 10) (args := #[.agg (cb k).toArray, .agg (prfV (.slice (some ⟨g9, 0, none⟩) m5 cp2) pe.1 pe.2.1 pe.2.2).toArray]) (by simp [go_sem]) (HP.out.hashed _ k (.slice (some ⟨g9, 0, none⟩) m5 cp2) sq pe.1 pe.2.1 pe.2.2 hS.1.kk HKL.out HP32.out.1 HP32.out.2 hsq (by have := HLQ.out; omega)) ?_
              rintro e y2 ⟨u2, rfl, hu2, hb⟩
              replace hS : Ts w gA k gM mo gR r gP (.slice ads ns cps) sd pe.1 pe.2.1 pe.2.2 y2 ∧ Blk y2 gQ (prfV (.slice (some ⟨g9, 0, none⟩) m5 cp2) pe.1 pe.2.1 pe.2.2) 26 := ⟨hS.1.next hb, hS.2.below hb hS.2.lt⟩
              replace hu1 := hu1.below hb
              refine ⟨_, rfl, hS, ?_⟩
              clear hb
              simp only [Act.put, List.getElem_toArray, List.getElem_cons_succ, List.getElem_cons_zero, List.setIfInBounds_toArray, List.set_cons_zero, List.set_cons_succ]
              have hle1 : ∀ t ∈ hashL k (endB pe.1 pe.2.1 pe.2.2) 0 sd, t.length ≤ 65 := hashL_le k _ (endB_le HP32.out.1 HP32.out.2) _ _ hS.1.rd.2
              have hle2 : ∀ t ∈ hashL k (endB pe.1 pe.2.1 pe.2.2) 0 sq, t.length ≤ 65 := hashL_le k _ (endB_le HP32.out.1 HP32.out.2) _ _ hsq.2
              refine wpAnyH_enter 9 (by kernel_rfl) rfl (by rfl) (f := 22) (args := #[u1, u2]) (by simp [go_sem]) (pftwo_any u1 u2 _ _ _ hu1 hu2 (by rw [hashL_len]; have := HS3.out; omega) (by rw [hashL_len]; have := HLQ.out; omega) hle1 hle2) ?_
              rintro e y3 ⟨o3, rfl, ho3, hb⟩
              obtain rfl : o3 = true := ho3.2 HTWO.out
              replace hS : Ts w gA k gM mo gR r gP (.slice ads ns cps) sd pe.1 pe.2.1 pe.2.2 y3 ∧ Blk y3 gQ (prfV (.slice (some ⟨g9, 0, none⟩) m5 cp2) pe.1 pe.2.1 pe.2.2) 26 := ⟨hS.1.next hb, hS.2.below hb hS.2.lt⟩
              refine ⟨_, rfl, hS, ?_⟩
              clear hb hu1 hu2 hsq hle1 hle2 ho3
              simp only [Act.put, List.getElem_toArray, List.getElem_cons_succ, List.getElem_cons_zero, List.setIfInBounds_toArray, List.set_cons_zero, List.set_cons_succ]
              refine wpAnyH_take (i := 10) (v := .bool false) rfl (by kernel_rfl) (by kernel_rfl) (by kernel_rfl) (fun _ _ _ h => h) (Or.inl ⟨by rfl, fun wx hx => by simp [go_sem]⟩) hS ?_
              simp only [Act.put, List.getElem_toArray, List.getElem_cons_succ, List.getElem_cons_zero, List.setIfInBounds_toArray, List.set_cons_zero, List.set_cons_succ]
              refine wpAnyH_take (i := 11) (v := .bool false) rfl (by kernel_rfl) (by kernel_rfl) (by kernel_rfl) (fun _ _ _ h => h) (Or.inl ⟨by rfl, fun wx hx => by simp [go_sem]⟩) hS ?_
              simp only [Act.put, List.getElem_toArray, List.getElem_cons_succ, List.getElem_cons_zero, List.setIfInBounds_toArray, List.set_cons_zero, List.set_cons_succ]
              refine wpAnyH_done (by kernel_rfl) ?_ _
              go_wp2
              go_roundw
              case rel => exact ⟨2, by omega, by simp, hS.1⟩
              case measure => simp [intOf]
      · have hq2i : ¬ ((q : Int) < 2) := by omega
        go_wp2_with (go_at_call 9; refine (pfworks_any HP.out _ HI.out.kk).mono ?_; rintro e wz ⟨rfl, hbz⟩
                     replace HI : Hid (Ts w gA k gM mo gR r gP (.slice ads ns cps) sd pe.1 pe.2.1 pe.2.2 wz) := HI.out.next hbz
                     clear hbz)
        go_ret
        exact ⟨rfl, HI.out.bel⟩
  · have h60i : (60 : Int) < (n : Int) := by omega
    go_enter Tryd.func7, Tryd.ntmps7
    go_wp2_with (first
      | (with_reducible refine wpSeq_boxD (.tmp 2) k ?_ ?_ ?_ ?_
         · rfl
         · rfl
         · rfl
         intro gA w0 nn0)
      | (with_reducible refine wpSeq_boxD (.tmp 3) mo ?_ ?_ ?_ ?_
         · rfl
         · rfl
         · rfl
         intro gM w1 nn1
         have HB1 : Hid (Below w.heap.size w w1) := nn0.below.trans (nn1.below.mono nn0.below.size)
         clear nn0 nn1)
      | (go_at_call 9; refine (pfworks_any HP.out _ (HK.out.below HB1.out HK.out.lt)).mono ?_; rintro e wz ⟨rfl, hbz⟩
         replace HB1 : Hid (Below w.heap.size w wz) := HB1.out.trans (hbz.mono HB1.out.size)
         clear hbz))
    go_ret
    exact ⟨rfl, HB1.out⟩
end Go.Proofs.YtmmhdchhajmbfaaDoor
/- What the listed variable gives: the rounds' words lie where the walks look for them. -/
namespace Go.Proofs.YtmmhdchhajmbfaaDoor
open Go.ChangeShapes Go.WideShapes Go.ChangeAt Go.WideMaps Go.WideElems Go.RowKit
set_option maxRecDepth 100000
theorem own : ownKnob Tryd.prog.godebug = none := by kernel_rfl
theorem gKw : Tryd.prog.globalNamed "blazon/sha.roundWords" = some 0 := by kernel_rfl
theorem tKw : (Tryd.prog.globals[0]?).map (·.type) = some 84 := by kernel_rfl
def laidK : List (String × DataW Unit) := [("blazon/sha.roundWords", Rows.laid_blazon_sha_roundWords)]
def kzs : List Int := kw.map fun x => (x.toNat : Int)
theorem laid_tab : (Rows.laid_blazon_sha_roundWords : DataW Unit) = Lib.tabData .u32 kzs := by kernel_rfl
theorem door_met (os : Os) (args : Array Value) : laidMetH Tryd.prog laidK ((World.doorLaid Tryd.prog 400 os).forCall (fun _ _ => 0) ⟨#[], args, []⟩).memory :=
  laidMetH_of_parts3 (fuel := 8) (laidMet_of_run' 8 (by kernel_rfl) (by kernel_rfl)) (by kernel_rfl) (by kernel_rfl)
theorem getD_toNat (l : List (BitVec 32)) (j : Nat) : (l.map fun x => (x.toNat : Int)).getD j 0 = ((l.getD j 0).toNat : Int) := by
  rw [List.getD_eq_getElem?_getD, List.getD_eq_getElem?_getD, List.getElem?_map]
  cases l[j]? <;> rfl
theorem kok_of_laid {W : World} (h : laidMetH Tryd.prog laidK W) : KOk W := by
  rw [MakeChecks.laidMetH_plain _ _ _ (by kernel_rfl)] at h
  unfold laidK at h
  rw [laid_tab] at h
  have hT := Lib.tabIs_of_head gKw tKw Tryd.underlying84 Tryd.underlying76 (by kernel_rfl) (by kernel_rfl) h
  intro j hj
  rw [hT.cell gKw j (by simpa [kzs, kw] using hj), kzs, getD_toNat]
end Go.Proofs.YtmmhdchhajmbfaaDoor
/- What a slice of bytes that came in gives: the bytes that it reads as; and that it reads so still behind a call that changed no old block. -/
namespace Go.Proofs.YtmmhdchhajmbfaaDoor
open Go.ChangeShapes Go.WideShapes Go.ChangeAt Go.WideMaps Go.WideElems Go.RowKit
set_option maxRecDepth 100000
theorem cells_byte : Tryd.prog.cellsOf 5 = 1 := by kernel_rfl
theorem laid_out : laidOutB Tryd.prog = true := by kernel_rfl
theorem readable_bytes : Tryd.prog.readableRec 51 = true := by kernel_rfl
theorem row_bytes : 51 < Tryd.prog.types.size := of_decide_eq_true (by kernel_rfl)
theorem byte_range {zs : List Int} (h : ∀ n ∈ zs, (Lit.int .u8 n).wf = true) (j : Nat) : 0 ≤ zs.getD j 0 ∧ zs.getD j 0 < 256 := by
  rw [List.getD_eq_getElem?_getD]
  cases hj : zs[j]? with
  | none => simp
  | some n =>
    have := h n (List.mem_of_getElem? hj)
    have := bounds_u8 this
    simp
    omega
theorem reads_of_trod {H : Type} {enc : TypeId × Value → H} {W : World} {base : Nat} {v : Value} {d : DataW H} {p : List MemPlace} (hval : Value.okWide Tryd.prog W .any base 51 v)
    (h : DataW.Trod enc Tryd.prog W 0 (fun _ => true) true 51 v d p) :
    ∃ bs, Reads W v bs ∧ bs.length ≤ maxLen ∧ ∀ x ∈ p, x.block < W.heap.size := by
  obtain ⟨a1, len, cap, rfl⟩ := okWide_slice Tryd.underlying51 hval
  obtain ⟨fuel, hf⟩ := h
  rcases open_ints Tryd.underlying51 Tryd.underlying5 cells_byte hf with ⟨hcs, hx⟩ | ⟨a, len', cap', zs, hcs, _, hl, hm, hz, hx, hcell, hwz⟩
  · simp [Value.cells] at hcs
    obtain ⟨rfl, rfl, rfl⟩ := hcs
    simp only [Prod.mk.injEq] at hx
    obtain ⟨rfl, rfl⟩ := hx
    exact ⟨[], ⟨none, 0, rfl, Nat.le_refl _, fun _ => rfl, fun h => by cases h⟩, Nat.zero_le _, fun _ h => by cases h⟩
  · simp [Value.cells] at hcs
    obtain ⟨rfl, rfl, rfl⟩ := hcs
    simp only [Prod.mk.injEq] at hx
    obtain ⟨rfl, rfl⟩ := hx
    simp only [if_true] at hz
    have hlen : ((zs.take len).map fun n => BitVec.ofInt 8 n).length = len := by simp; omega
    obtain ⟨ab, ao, spot⟩ := a
    refine ⟨(zs.take len).map fun n => BitVec.ofInt 8 n, ⟨some ⟨ab, ao, spot⟩, cap, by rw [hlen], by rw [hlen]; exact hl, (fun h => by cases h), fun hp => ?_⟩, by rw [hlen]; omega, fun x hx => ?_⟩
    · rw [hlen] at hp ⊢
      have hspot : spot = none := by simpa [Addr.add] using World.cell?_spot (hcell 0 (by omega))
      subst hspot
      refine ⟨ab, ao, rfl, fun j hj => ?_⟩
      have hcj := hcell j (by omega)
      rw [Addr.add_lit] at hcj
      rw [hcj]
      have hb := byte_range hwz j
      have e : ((zs.take len).map fun n => BitVec.ofInt 8 n).getD j 0 = BitVec.ofInt 8 (zs.getD j 0) := by
        rw [List.getD_eq_getElem?_getD, List.getElem?_map, List.getElem?_take_of_lt hj, List.getD_eq_getElem?_getD, List.getElem?_eq_getElem (show j < zs.length by omega)]
        rfl
      rw [e, BitVec.toNat_ofInt]
      congr 2
      omega
    · simp only [MemPlace.row, List.mem_map, List.mem_range] at hx
      obtain ⟨i, hi, rfl⟩ := hx
      have hcj := hcell i (by omega)
      have := block_lt_of_cell hcj
      simp only [Addr.add] at this
      split at this <;> exact this
end Go.Proofs.YtmmhdchhajmbfaaDoor
/- What a digest that came in gives: its 32 bytes. -/
namespace Go.Proofs.YtmmhdchhajmbfaaDoor
open Go.ChangeShapes Go.WideShapes Go.ChangeAt Go.WideMaps Go.WideElems Go.RowKit
set_option maxRecDepth 100000
theorem cells_digest : Tryd.prog.cellsOf 23 = 32 := by kernel_rfl
theorem readable_digest : Tryd.prog.readableRec 23 = true := by kernel_rfl
theorem row_digest : 23 < Tryd.prog.types.size := of_decide_eq_true (by kernel_rfl)
def numOf8 : Value → BitVec 8
  | .int _ n => BitVec.ofInt 8 n
  | _ => 0
theorem digest_of_trod {H : Type} {enc : TypeId × Value → H} {W : World} {base : Nat} {v : Value} {d : DataW H} {p : List MemPlace} (hval : Value.okWide Tryd.prog W .any base 23 v)
    (h : DataW.Trod enc Tryd.prog W 0 (fun _ => true) true 23 v d p) :
    ∃ dg, v = .agg (cb dg).toArray ∧ dg.length = 32 ∧ ∀ x ∈ p, x.block < W.heap.size := by
  simp only [Value.okWide, Tryd.underlying23] at hval
  obtain ⟨cs, rfl, hcs, _⟩ := hval
  obtain ⟨fuel, hf⟩ := h
  obtain ⟨xs, m, _, hx, hl, hn, hi⟩ := DataW.trod_array Tryd.underlying23 hf
  simp only [Value.cells] at hl hi
  rw [cells_digest] at hl
  rw [cells_byte] at hi
  have each : ∀ i, i < 32 → ∃ n, cs.toList[i]? = some (.int .u8 n) ∧ xs[i]? = some (.lit (.int .u8 n), []) ∧ (Lit.int .u8 n).wf = true := by
    intro i h32
    have h1 := hi i h32
    rw [List.getElem?_eq_getElem (by omega)] at h1
    obtain ⟨n, hc, hxx, hw⟩ := DataW.trod_int Tryd.underlying5 h1
    refine ⟨n, ?_, by rw [List.getElem?_eq_getElem (by omega), hxx], hw⟩
    rw [Nat.mul_one] at hc
    have h2 := congrArg (fun l => l[0]?) hc
    simpa using h2
  have hlen : (cs.toList.map numOf8).length = 32 := by simpa using hl
  refine ⟨cs.toList.map numOf8, ?_, hlen, ?_⟩
  · congr 1
    apply Array.ext'
    rw [List.toList_toArray]
    apply List.ext_getElem?
    intro i
    by_cases h32 : i < 32
    · obtain ⟨n, h1, _, hw⟩ := each i h32
      have hb := bounds_u8 hw
      rw [h1, cb_get _ _ (by omega), List.getD_eq_getElem?_getD, List.getElem?_map, h1]
      simp only [Option.map_some, Option.getD_some, numOf8, BitVec.toNat_ofInt]
      congr 2
      omega
    · rw [List.getElem?_eq_none (by omega), List.getElem?_eq_none (by rw [cb_len]; omega)]
  · simp only [Prod.mk.injEq] at hx
    rw [hx.2]
    intro x hmem
    obtain ⟨y, hy, hxy⟩ := List.mem_flatMap.1 hmem
    obtain ⟨i, hlt, rfl⟩ := List.getElem_of_mem hy
    obtain ⟨n, _, h2, _⟩ := each i (by omega)
    rw [List.getElem?_eq_getElem hlt] at h2
    rw [Option.some.inj h2] at hxy
    cases hxy
end Go.Proofs.YtmmhdchhajmbfaaDoor
/- What a slice of digests that came in gives; five arguments that came in, opened and shut (for the statements of layer 7). -/
namespace Go.Proofs.YtmmhdchhajmbfaaDoor
open Go.ChangeShapes Go.WideShapes Go.ChangeAt Go.WideMaps Go.WideElems Go.RowKit
set_option maxRecDepth 100000
set_option maxRecDepth 100000 in
theorem bulk_pos {H : Type} (d : DataW H) : 1 ≤ Rows.uptoBulk d := by
  cases d with
  | lit l => cases l <;> simp [Rows.uptoBulk]
  | _ => simp [Rows.uptoBulk]
set_option maxRecDepth 100000 in
theorem bulk_slice {H : Type} (e s : List (DataW H)) : Rows.uptoBulkAll e ≤ Rows.uptoBulk (DataW.slice e s) := by
  simp only [Rows.uptoBulk]; omega
set_option maxRecDepth 100000 in
theorem bulk_len {H : Type} : ∀ l : List (DataW H), l.length ≤ Rows.uptoBulkAll l
  | [] => Nat.zero_le _
  | d :: r => by
    have h1 := bulk_len r
    have h2 := bulk_pos d
    simp only [Rows.uptoBulkAll, List.length_cons]
    omega
theorem digest_of_cells {H : Type} {enc : TypeId × Value → H} {W : World} {cs : List Value} {d : DataW H} {p : List MemPlace} {fuel : Nat} (hf : DataW.trod enc Tryd.prog W 0 (fun _ => true) true fuel 23 cs = some (d, p)) :
    ∃ dg, cs = cb dg ∧ dg.length = 32 ∧ ∀ x ∈ p, x.block < W.heap.size := by
  obtain ⟨xs, m, _, hx, hl, hn, hi⟩ := DataW.trod_array Tryd.underlying23 hf
  rw [cells_digest] at hl
  rw [cells_byte] at hi
  have each : ∀ i, i < 32 → ∃ n, cs[i]? = some (.int .u8 n) ∧ xs[i]? = some (.lit (.int .u8 n), []) ∧ (Lit.int .u8 n).wf = true := by
    intro i h32
    have h1 := hi i h32
    rw [List.getElem?_eq_getElem (by omega)] at h1
    obtain ⟨n, hc, hxx, hw⟩ := DataW.trod_int Tryd.underlying5 h1
    refine ⟨n, ?_, by rw [List.getElem?_eq_getElem (by omega), hxx], hw⟩
    rw [Nat.mul_one] at hc
    have h2 := congrArg (fun l => l[0]?) hc
    simpa using h2
  have hlen : (cs.map numOf8).length = 32 := by simpa using hl
  refine ⟨cs.map numOf8, ?_, hlen, ?_⟩
  · apply List.ext_getElem?
    intro i
    by_cases h32 : i < 32
    · obtain ⟨n, h1, _, hw⟩ := each i h32
      have hb := bounds_u8 hw
      rw [h1, cb_get _ _ (by omega), List.getD_eq_getElem?_getD, List.getElem?_map, h1]
      simp only [Option.map_some, Option.getD_some, numOf8, BitVec.toNat_ofInt]
      congr 2
      omega
    · rw [List.getElem?_eq_none (by omega), List.getElem?_eq_none (by rw [cb_len]; omega)]
  · simp only [Prod.mk.injEq] at hx
    rw [hx.2]
    intro x hmem
    obtain ⟨y, hy, hxy⟩ := List.mem_flatMap.1 hmem
    obtain ⟨i, hlt, rfl⟩ := List.getElem_of_mem hy
    obtain ⟨n, _, h2, _⟩ := each i (by omega)
    rw [List.getElem?_eq_getElem hlt] at h2
    rw [Option.some.inj h2] at hxy
    cases hxy
set_option maxRecDepth 100000 in
theorem readable_digests : Tryd.prog.readableRec 24 = true := by kernel_rfl
set_option maxRecDepth 100000 in
theorem row_digests : 24 < Tryd.prog.types.size := of_decide_eq_true (by kernel_rfl)
theorem readsD_of_trod {H : Type} {enc : TypeId × Value → H} {W : World} {base : Nat} {v : Value} {d : DataW H} {p : List MemPlace} (hval : Value.okWide Tryd.prog W .any base 24 v)
    (h : DataW.Trod enc Tryd.prog W 0 (fun _ => true) true 24 v d p) :
    ∃ ds, ReadsD W v ds ∧ ds.length ≤ Rows.uptoBulk d ∧ ∀ x ∈ p, x.block < W.heap.size := by
  obtain ⟨a1, len, cap, rfl⟩ := okWide_slice Tryd.underlying24 hval
  obtain ⟨fuel, hf⟩ := h
  rcases Go.Deep.open_slice Tryd.underlying24 hf with ⟨hcs, hx⟩ | ⟨a, len', cap', m, n, D, Pl, hcs, _, hl, hm, hmm, hx, hV⟩
  · simp [Value.cells] at hcs
    obtain ⟨rfl, rfl, rfl⟩ := hcs
    simp only [Prod.mk.injEq] at hx
    obtain ⟨rfl, rfl⟩ := hx
    exact ⟨[], ⟨⟨none, 0, rfl, Nat.le_refl _, fun _ => rfl, fun h => by cases h⟩, fun _ h => by cases h⟩, Nat.zero_le _, fun _ h => by cases h⟩
  · simp [Value.cells] at hcs
    obtain ⟨rfl, rfl, rfl⟩ := hcs
    simp only [Prod.mk.injEq] at hx
    obtain ⟨rfl, rfl⟩ := hx
    simp only [if_true] at hmm
    subst hmm
    rw [cells_digest] at hV
    obtain ⟨B, hB⟩ := Go.Deep.choose_lt (α := List (BitVec 8)) (p := fun i dg => W.cells? 0 (a.add (i * 32)) 32 = some (cb dg) ∧ dg.length = 32 ∧ ∀ x ∈ Pl i, x.block < W.heap.size) (fun i hi => by
      obtain ⟨cs', h1, h2⟩ := hV i hi
      obtain ⟨dg, rfl, h3, h4⟩ := digest_of_cells h2
      exact ⟨dg, h1, h3, h4⟩)
    have hlen : ((List.range len).map B).length = len := by simp
    obtain ⟨ab, ao, spot⟩ := a
    have cell : ∀ i, i < m → ∀ j, j < 32 → W.cell? ((⟨ab, ao, spot⟩ : Addr).add (i * 32 + j)) = (cb (B i))[j]? := by
      intro i hi j hj
      obtain ⟨h1, _, _⟩ := hB i hi
      obtain ⟨_, _, h4⟩ := World.cells?_some h1
      have := h4 j hj
      rw [Go.Deep.add_add] at this
      exact this
    have hspot : 0 < m → spot = none := fun hp => by
      have h := cell 0 hp 0 (by omega)
      rw [cb_get _ 0 (by rw [(hB 0 hp).2.1]; omega)] at h
      simpa [Addr.add] using World.cell?_spot h
    refine ⟨(List.range len).map B, ⟨⟨some ⟨ab, ao, spot⟩, m, by rw [hlen], by rw [hlen]; exact hl, (fun h => by cases h), fun hp => ?_⟩, ?_⟩, by rw [hlen]; exact Nat.le_trans (by have := bulk_len ((List.range len).map D); simpa using this) (bulk_slice _ _), fun x hx => ?_⟩
    · rw [hlen] at hp ⊢
      have hs := hspot (by omega)
      subst hs
      refine ⟨ab, ao, rfl, fun j hj i v hv => ?_⟩
      have e : ((List.range len).map B).getD j [] = B j := by simp [hj]
      rw [e] at hv
      have hi : i < 32 := by have := (List.getElem?_eq_some_iff.1 hv).1; rwa [cb_len, (hB j (by omega)).2.1] at this
      have h := cell j (by omega) i hi
      rw [hv, Addr.add_lit] at h
      rw [Nat.add_assoc]; exact h
    · intro dg hd
      obtain ⟨i, hi, rfl⟩ := List.mem_map.1 hd
      exact (hB i (by have := List.mem_range.1 hi; omega)).2.1
    · rcases List.mem_append.1 hx with hx | hx
      · rw [cells_digest] at hx
        simp only [MemPlace.row, List.mem_map, List.mem_range] at hx
        obtain ⟨i, hi, rfl⟩ := hx
        have h := cell (i / 32) (by omega) (i % 32) (by omega)
        rw [cb_get _ _ (by rw [(hB (i / 32) (by omega)).2.1]; omega), show i / 32 * 32 + i % 32 = i by omega] at h
        have := block_lt_of_cell h
        simp only [Addr.add] at this
        split at this <;> exact this
      · obtain ⟨i, hi, hx⟩ := List.mem_flatMap.1 hx
        exact (hB i (List.mem_range.1 hi)).2.2 x hx
theorem trodAll_five {H : Type} {enc : TypeId × Value → H} {P : Program} {w : World} {base : Nat} {spare : Nat → Bool} {held : Bool} {t0 t1 t2 t3 t4 : TypeId} {args : Array Value} {ds : List (DataW H)} {ps : List MemPlace} (h : DataW.TrodAll enc P w base spare held [t0, t1, t2, t3, t4] args.toList ds ps) :
    ∃ v0 v1 v2 v3 v4 d0 d1 d2 d3 d4 p0 p1 p2 p3 p4, args = #[v0, v1, v2, v3, v4] ∧ ds = [d0, d1, d2, d3, d4] ∧ ps = p0 ++ p1 ++ p2 ++ p3 ++ p4 ∧ DataW.Trod enc P w base spare held t0 v0 d0 p0 ∧ DataW.Trod enc P w base spare held t1 v1 d1 p1 ∧ DataW.Trod enc P w base spare held t2 v2 d2 p2 ∧ DataW.Trod enc P w base spare held t3 v3 d3 p3 ∧ DataW.Trod enc P w base spare held t4 v4 d4 p4 := by
  obtain ⟨v0, vs0, d0, ds0, p0, q0, hargs, rfl, rfl, h0, r0⟩ := trodAll_cons h
  obtain ⟨v1, vs1, d1, ds1, p1, q1, rfl, rfl, rfl, h1, r1⟩ := trodAll_cons r0
  obtain ⟨v2, vs2, d2, ds2, p2, q2, rfl, rfl, rfl, h2, r2⟩ := trodAll_cons r1
  obtain ⟨v3, vs3, d3, ds3, p3, q3, rfl, rfl, rfl, h3, r3⟩ := trodAll_cons r2
  obtain ⟨v4, vs4, d4, ds4, p4, q4, rfl, rfl, rfl, h4, r4⟩ := trodAll_cons r3
  obtain ⟨rfl, rfl, rfl⟩ := trodAll_nil r4
  exact ⟨v0, v1, v2, v3, v4, d0, d1, d2, d3, d4, p0, p1, p2, p3, p4, by cases args; simp_all, rfl, by simp, h0, h1, h2, h3, h4⟩
theorem trodAll_mk5 {H : Type} {enc : TypeId × Value → H} {P : Program} {w : World} {base : Nat} {spare : Nat → Bool} {held : Bool} {t0 t1 t2 t3 t4 : TypeId} {v0 v1 v2 v3 v4 : Value} {d0 d1 d2 d3 d4 : DataW H} {p0 p1 p2 p3 p4 : List MemPlace} (h0 : DataW.Trod enc P w base spare held t0 v0 d0 p0) (h1 : DataW.Trod enc P w base spare held t1 v1 d1 p1) (h2 : DataW.Trod enc P w base spare held t2 v2 d2 p2) (h3 : DataW.Trod enc P w base spare held t3 v3 d3 p3) (h4 : DataW.Trod enc P w base spare held t4 v4 d4 p4) : DataW.TrodAll enc P w base spare held [t0, t1, t2, t3, t4] [v0, v1, v2, v3, v4] [d0, d1, d2, d3, d4] (p0 ++ (p1 ++ (p2 ++ (p3 ++ p4)))) :=
  ⟨p0, _, h0, trodAll_mk4 h1 h2 h3 h4, rfl⟩
end Go.Proofs.YtmmhdchhajmbfaaDoor

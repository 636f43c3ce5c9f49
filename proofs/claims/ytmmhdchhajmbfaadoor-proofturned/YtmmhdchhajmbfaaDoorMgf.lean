/- Texts that the proof leans on, one behind the other: The statement ProofTurned, over proof's functions (layer 8). What the listed variable gives: the rounds' words lie where the walks look for them. What a slice of bytes that came in gives: the bytes that it reads as; and that it reads so still behind a call that changed no old block. .. -/
import Derived.Test.YtmmhdchhajmbfaaDoorMge
import Derived.Test.YtmmhdchhajmbfaaDoorMgc
import Derived.Test.YtmmhdchhajmbfaaDoorRows
import Derived.Test.YtmmhdchhajmbfaaDoorMga
import Derived.ProofKit
import Derived.LaidMore
import Derived.OpenShut
import Derived.Stop.Joined
import Derived.Lib.LaidTab
import Derived.Carry
import Derived.ChangeSlices
import Derived.Test.YtmmhdchhajmbfaaDoorMgb
import Derived.Deep.Slices
import Derived.Deep.Strs
import Derived.Lib.SmallJoins
/- The statement ProofTurned, over proof's functions (layer 8). -/
namespace Go.Proofs.YtmmhdchhajmbfaaDoor
open Go.RowKit
set_option maxRecDepth 100000
/-- where the statement stands, ahead of the turning -/
structure Tv (w : World) (gx gy gp : Nat) (x b : List (BitVec 8)) (vs : Value) (sd : List (List (BitVec 8))) (en : Int) (ix va : List (BitVec 8)) (W : World) : Prop where
  k0 : KOk w
  xb : Blk W gx (cb x) 23
  yb : Blk W gy (cb b) 23
  pb : Blk W gp (prfV vs en ix va) 26
  rd : ReadsD W vs sd
  bel : Below w.heap.size w W
theorem Tv.next {w W W' : World} {gx gy gp : Nat} {x b : List (BitVec 8)} {vs : Value} {sd : List (List (BitVec 8))} {en : Int} {ix va : List (BitVec 8)} (h : Tv w gx gy gp x b vs sd en ix va W) (hb : Below W.heap.size W W') : Tv w gx gy gp x b vs sd en ix va W' :=
  ⟨h.k0, h.xb.below hb h.xb.lt, h.yb.below hb h.yb.lt, h.pb.below hb h.pb.lt, h.rd.below hb, h.bel.trans (hb.mono h.bel.size)⟩
theorem Tv.kok {w W : World} {gx gy gp : Nat} {x b : List (BitVec 8)} {vs : Value} {sd : List (List (BitVec 8))} {en : Int} {ix va : List (BitVec 8)} (h : Tv w gx gy gp x b vs sd en ix va W) : KOk W := h.k0.below h.bel h.k0.lt
set_option maxRecDepth 100000 in
set_option maxHeartbeats 32000000 in
theorem proofTurned_law (hP : PfOps) (x : List (BitVec 8)) (vs : Value) (sd : List (List (BitVec 8))) (en : Int) (ix va : List (BitVec 8)) (ta : Int) (b : List (BitVec 8)) (hx : x.length = 32) (hix : ix.length = 32) (hva : va.length = 32) (hb : b.length = 32) (w : World) (hK : KOk w) (hR : ReadsD w vs sd) :
    Calls Tryd.prog 6 #[.agg (cb x).toArray, .agg (prfV vs en ix va).toArray, .int .i64 ta, .agg (cb b).toArray] w fun e w' => e = .returned (.bool true) ∧ Below w.heap.size w w' := by
  have HP : Hid PfOps := hP
  have HXL : Hid (x.length = 32) := hx
  have HIL : Hid (ix.length = 32) := hix
  have HVL : Hid (va.length = 32) := hva
  have HBL : Hid (b.length = 32) := hb
  have H32 : Hid (∀ s ∈ sd, s.length = 32) := hR.2
  have HK0 : Hid (KOk w) := hK
  have HRD : Hid (ReadsD w vs sd) := hR
  obtain ⟨n, HN⟩ : ∃ n, Hid (n = sd.length) := ⟨_, rfl⟩
  obtain ⟨ads, cps, hvs⟩ := hR.slice
  rw [← HN.out] at hvs
  subst hvs
  obtain ⟨cs, HCS⟩ : ∃ c, Hid (c = prfV (.slice ads n cps) en ix va) := ⟨_, rfl⟩
  have HC6 : Hid (cs.length = 66) := by show _ = _; rw [HCS.out]; exact prfV_len hix hva
  obtain ⟨fw, HFW⟩ : ∃ z, Hid (z = decide (sd.length ≤ 300)) := ⟨_, rfl⟩
  obtain ⟨rt, HRT⟩ : ∃ z, Hid (z = rightB sd.length en ix va) := ⟨_, rfl⟩
  have HCF : Hid (∀ W, ReadsD W (.slice ads n cps) sd → Calls Tryd.prog 8 #[.agg cs.toArray] W fun e w' => e = .returned (.bool fw) ∧ Below W.heap.size W w') := fun W hh => by rw [HCS.out, HFW.out]; exact pffew_any _ sd en ix va W hh
  have HCR : Hid (∀ W, ReadsD W (.slice ads n cps) sd → Calls Tryd.prog 21 #[.agg cs.toArray] W fun e w' => e = .returned (.bool rt) ∧ Below W.heap.size W w') := fun W hh => by rw [HCS.out, HRT.out]; exact rfright_any _ sd en ix va hix hva W hh
  rw [← HCS.out]
  clear hx hix hva hb hK hR hP
  go_enter Tryd.func6, Tryd.ntmps6
  go_upto_region 1 with (first
    | (with_reducible refine wpSeq_boxD (.tmp 0) x ?_ ?_ ?_ ?_
       · rfl
       · rfl
       · rfl
       intro gx w0 nn0)
    | (with_reducible refine wpSeq_boxP (.tmp 1) cs ?_ ?_ ?_ ?_
       · rfl
       · rfl
       · rfl
       intro gp w1 nn1)
    | (with_reducible refine wpSeq_boxD (.tmp 3) b ?_ ?_ ?_ ?_
       · rfl
       · rfl
       · rfl
       intro gy w2 nn2
       have HI : Hid (Tv w gx gy gp x b (.slice ads n cps) sd en ix va w2) := by
         have hb1 := nn0.below.trans (nn1.below.mono nn0.below.size)
         have hb2 := hb1.trans (nn2.below.mono hb1.size)
         have x1 := nn0.blk.below nn1.below nn0.blk.lt
         refine ⟨HK0.out, x1.below nn2.below x1.lt, nn2.blk, ?_, HRD.out.below hb2, hb2⟩
         rw [← HCS.out]; exact nn1.blk.below nn2.below nn1.blk.lt
       clear nn0 nn1 nn2 HRD HK0))
  have HCP : Hid (∀ W, Tv w gx gy gp x b (.slice ads n cps) sd en ix va W → Blk W gp cs 26) := fun W h => by rw [HCS.out]; exact h.pb
  cases fw with
  | false =>
    clear HCR
    go_wp2_with (first
      | (with_reducible refine wpSeq_loadP (.tmp 5) gp cs ?_ ?_ ?_ ?_ ?_ ?_
         · exact HC6.out
         · exact HCP.out _ HI.out
         · rfl
         · rfl
         · rfl)
      | (go_at_call 8; refine (HCF.out _ HI.out.rd).mono ?_; rintro e w3 ⟨rfl, hbz⟩
         replace HI : Hid (Tv w gx gy gp x b (.slice ads n cps) sd en ix va w3) := HI.out.next hbz
         clear hbz)
      | (go_at_call 9; refine (pfworks_any HP.out _ HI.out.kok).mono ?_; rintro e wz ⟨rfl, hbz⟩
         replace HI : Hid (Tv w gx gy gp x b (.slice ads n cps) sd en ix va wz) := HI.out.next hbz
         clear hbz))
    go_ret
    exact ⟨rfl, HI.out.bel⟩
  | true =>
    have HFEW : Hid (sd.length ≤ 300) := show sd.length ≤ 300 from of_decide_eq_true HFW.out.symm
    cases rt with
    | false =>
      go_wp2_with (first
        | (with_reducible refine wpSeq_loadP (.tmp 5) gp cs ?_ ?_ ?_ ?_ ?_ ?_
           · exact HC6.out
           · exact HCP.out _ HI.out
           · rfl
           · rfl
           · rfl)
        | (go_at_call 8; refine (HCF.out _ HI.out.rd).mono ?_; rintro e w3 ⟨rfl, hbz⟩
           replace HI : Hid (Tv w gx gy gp x b (.slice ads n cps) sd en ix va w3) := HI.out.next hbz
           clear hbz)
        | (go_at_call 21; refine (HCR.out _ HI.out.rd).mono ?_; rintro e w4 ⟨rfl, hbz⟩
           replace HI : Hid (Tv w gx gy gp x b (.slice ads n cps) sd en ix va w4) := HI.out.next hbz
           clear hbz)
        | (go_at_call 9; refine (pfworks_any HP.out _ HI.out.kok).mono ?_; rintro e wz ⟨rfl, hbz⟩
           replace HI : Hid (Tv w gx gy gp x b (.slice ads n cps) sd en ix va wz) := HI.out.next hbz
           clear hbz))
      go_ret
      exact ⟨rfl, HI.out.bel⟩
    | true =>
      by_cases hbz : b = zb32
      · have hq : ∀ wx : World, (Op.equalIn 10000 23 (.agg (cb b).toArray) (.agg (cb zb32).toArray)).run Tryd.prog wx = .ok true wx := fun wx => by rw [hbz]; exact eq_dig_same zb32 rfl wx
        clear hbz
        go_wp2_with (first
          | (with_reducible refine wpSeq_loadP (.tmp 5) gp cs ?_ ?_ ?_ ?_ ?_ ?_
             · exact HC6.out
             · exact HCP.out _ HI.out
             · rfl
             · rfl
             · rfl)
          | (go_at_call 8; refine (HCF.out _ HI.out.rd).mono ?_; rintro e w3 ⟨rfl, hbz⟩
             replace HI : Hid (Tv w gx gy gp x b (.slice ads n cps) sd en ix va w3) := HI.out.next hbz
             clear hbz)
          | (go_at_call 21; refine (HCR.out _ HI.out.rd).mono ?_; rintro e w4 ⟨rfl, hbz⟩
             replace HI : Hid (Tv w gx gy gp x b (.slice ads n cps) sd en ix va w4) := HI.out.next hbz
             clear hbz)
          | (with_reducible refine wpSeq_loadD (.tmp 7) gy b ?_ ?_ ?_ ?_ ?_ ?_
             · exact HBL.out
             · exact HI.out.yb
             · with_reducible rfl
             · rfl
             · rfl)
          | (with_reducible refine wpSeq_buildZ0 ?_ ?_ ?_
             · rfl
             · rfl
             skip)
          | (go_at_call 9; refine (pfworks_any HP.out _ HI.out.kok).mono ?_; rintro e wz ⟨rfl, hbz⟩
             replace HI : Hid (Tv w gx gy gp x b (.slice ads n cps) sd en ix va wz) := HI.out.next hbz
             clear hbz))
        go_ret
        exact ⟨rfl, HI.out.bel⟩
      · have hq : ∀ wx : World, (Op.equalIn 10000 23 (.agg (cb b).toArray) (.agg (cb zb32).toArray)).run Tryd.prog wx = .ok false wx := fun wx => by have := eq_dig b zb32 HBL.out rfl wx; rw [decide_eq_false hbz] at this; exact this
        have HBN : Hid (b ≠ zb32) := hbz
        clear hbz
        go_upto_region 3 with (first
          | (with_reducible refine wpSeq_loadP (.tmp 5) gp cs ?_ ?_ ?_ ?_ ?_ ?_
             · exact HC6.out
             · exact HCP.out _ HI.out
             · rfl
             · rfl
             · rfl)
          | (go_at_call 8; refine (HCF.out _ HI.out.rd).mono ?_; rintro e w3 ⟨rfl, hbz⟩
             replace HI : Hid (Tv w gx gy gp x b (.slice ads n cps) sd en ix va w3) := HI.out.next hbz
             clear hbz)
          | (go_at_call 21; refine (HCR.out _ HI.out.rd).mono ?_; rintro e w4 ⟨rfl, hbz⟩
             replace HI : Hid (Tv w gx gy gp x b (.slice ads n cps) sd en ix va w4) := HI.out.next hbz
             clear hbz)
          | (with_reducible refine wpSeq_loadD (.tmp 7) gy b ?_ ?_ ?_ ?_ ?_ ?_
             · exact HBL.out
             · exact HI.out.yb
             · with_reducible rfl
             · rfl
             · rfl)
          | (with_reducible refine wpSeq_buildZ0 ?_ ?_ ?_
             · rfl
             · rfl
             skip))
        clear hq HCF HCR
        have c1 : w4.cell? ⟨gp, 1, none⟩ = some (.int .i64 en) := HI.out.pb.cell 1
        go_upto_region 4 with (first
          | (with_reducible refine wpSeq_loadR (.tmp 29) ?_ ?_ gp 2 ?_ (cb ix) (prfV_rix HI.out.pb) (infoD ix HIL.out) ?_
             · rfl
             · rfl
             · rfl)
          | (with_reducible refine wpSeq_loadR (.tmp 31) ?_ ?_ gp 34 ?_ (cb va) (prfV_rva HI.out.pb HIL.out) (infoD va HVL.out) ?_
             · rfl
             · rfl
             · rfl)
          | (refine wpSeq_val _ _ (by rfl) (builtW _ _ (.tmp 28) (.tmp 30) (.tmp 32) rfl en ix va HIL.out HVL.out rfl rfl rfl _) ?_)
          | (with_reducible refine wpSeq_allocPN ?_ ?_ ?_
             · rfl
             · rfl
             intro gQ wB nnB)
          | (with_reducible refine wpSeq_storeNP (.tmp 9) (.tmp 33) gQ (prfV nilV 0 zb32 zb32) (prfV nilV en ix va) nnB ?_ ?_ ?_ ?_ ?_ ?_ ?_ ?_
             · rfl
             · exact prfV_len HIL.out HVL.out
             · exact prfV_one rfl
             · rfl
             · rfl
             · rfl
             · rfl
             intro wC nC
             have HQ : Hid (NewP (prfV nilV en ix va) w4 gQ wC) := nC
             clear nnB nC c1))
        have HW : Hid (Tv w gx gy gp x b (.slice ads n cps) sd en ix va w4) := HI.out
        have HLV : Hid (0 < sd.length → ∀ k, (Value.slice ads n cps).ownBlock = some k → k < gQ) := fun hp k hk => Nat.lt_of_lt_of_le (HI.out.rd.ltD hp k hk) HQ.out.ge
        have HLQ : Hid (gx < gQ ∧ gy < gQ ∧ gp < gQ ∧ gQ < wC.heap.size ∧ w.heap.size ≤ gQ) := ⟨Nat.lt_of_lt_of_le HI.out.xb.lt HQ.out.ge, Nat.lt_of_lt_of_le HI.out.yb.lt HQ.out.ge, Nat.lt_of_lt_of_le HI.out.pb.lt HQ.out.ge, HQ.out.blk.lt, Nat.le_trans HI.out.bel.size HQ.out.ge⟩
        replace HI : Hid (Tv w gx gy gp x b (.slice ads n cps) sd en ix va wC) := HI.out.next HQ.out.below
        have cp : wC.cell? ⟨gp, 0, none⟩ = some (.slice ads n cps) := HI.out.pb.cell 0
        have cq : wC.cell? ⟨gQ, 0, none⟩ = some (.slice none 0 0) := HQ.out.blk.cell 0
        go_upto_region 5 with (first
          | (with_reducible refine wpSeq_copyD (.tmp 35) (.tmp 37) (.slice ads n cps) sd HI.out.rd (by have := HFEW.out; omega) ?_ ?_ ?_ ?_ ?_
             · rfl
             · rfl
             · rfl
             · rfl
             intro v2 w5 own2 hb2
             clear cp cq
             have NQ : NewP (prfV nilV en ix va) w4 gQ w5 := ⟨HQ.out.ge, HQ.out.blk.below hb2 HQ.out.blk.lt, HQ.out.below.trans (hb2.mono HQ.out.below.size)⟩
             obtain ⟨ad2, cp2, hv2⟩ := own2.slice
             rw [← HN.out] at hv2
             subst hv2
             have cq : w5.cell? ⟨gQ, 0, none⟩ = some (.slice none 0 0) := NQ.blk.cell 0
             have fq : w5.frozen? ⟨gQ, 0, none⟩ = false := NQ.blk.frozen 0
             have HLT : Hid (gQ < wC.heap.size) := HQ.out.blk.lt
             have HWC : Hid (wC.heap.size ≤ (w5.setCell ⟨gQ, 0, none⟩ (.slice ad2 n cp2)).heap.size) := by have := hb2.size; show _ ≤ _; simpa using this
             replace HQ : Hid (NewP (prfV (.slice ad2 n cp2) en ix va) w4 gQ (w5.setCell ⟨gQ, 0, none⟩ (.slice ad2 n cp2))) := NQ.side
             have HO2 : Hid (OwnD (w5.setCell ⟨gQ, 0, none⟩ (.slice ad2 n cp2)) wC.heap.size (.slice ad2 n cp2) sd) := own2.keep fun j h1 _ => heap_one (by have := HLT.out; omega)
             replace HI : Hid (Tv w gx gy gp x b (.slice ads n cps) sd en ix va (w5.setCell ⟨gQ, 0, none⟩ (.slice ad2 n cp2))) := HW.out.next HQ.out.below
             clear own2 hb2 NQ HLT))
        clear cq fq
        generalize w5.setCell ⟨gQ, 0, none⟩ (.slice ad2 n cp2) = w6 at *
        obtain ⟨base, HBS⟩ : ∃ z, Hid (z = wC.heap.size) := ⟨_, rfl⟩
        rw [← HBS.out] at HLQ HWC HO2
        have HT : Hid (∀ kk, Tu w gx gy gp gQ base x b (.slice ads n cps) sd en ix va (.slice ad2 n cp2) kk 0 w6) := fun kk => ⟨HI.out.k0, HI.out.xb, HI.out.yb, HI.out.pb, HI.out.rd, by rw [ixq_zero, vaq_zero]; exact HQ.out.blk, by rw [sdq_zero]; exact HO2.out, HI.out.bel, HLQ.out, HLV.out, HWC.out⟩
        clear HQ HO2 HW HLQ HLV HWC HBS
        have cp : w6.cell? ⟨gp, 0, none⟩ = some (.slice ads n cps) := HI.out.pb.cell 0
        go_upto_region 6 with fail
        clear cp
        have HNL : Hid (n ≤ 300) := by show _ ≤ _; rw [HN.out]; exact HFEW.out
        obtain ⟨A, fA, hAL⟩ := wrapU ta
        obtain ⟨M, HM⟩ : ∃ M, Hid (M = n + 2) := ⟨_, rfl⟩
        obtain ⟨K, HKD⟩ : ∃ K, Hid (K = A % M) := ⟨_, rfl⟩
        have HKL : Hid (K < n + 2) := by show _ < _; rw [HKD.out, HM.out]; exact Nat.mod_lt _ (by omega)
        have HM0 : Hid (0 < M) := by show _ < _; rw [HM.out]; omega
        have f1 : IntKind.i64.wrap ((n : Int) + 2) = (M : Int) := by rw [IntKind.wrap_i64]; have h1 := HNL.out; have h2 := HM.out; omega
        have f2 : IntKind.u64.wrap (M : Int) = (M : Int) := by simp [IntKind.wrap, IntKind.bits, IntKind.signed]; have h1 := HNL.out; have h2 := HM.out; omega
        have f3 : IntKind.i64.wrap (K : Int) = (K : Int) := by rw [IntKind.wrap_i64]; have h1 := HNL.out; have h2 := HKL.out; omega
        clear hAL
        go_upto_region 7 with (first
          | (refine wpSeq_val (.int .u64 (K : Int)) _ (by rfl) (by rw [HKD.out]; exact remU _ _ (.tmp 44) (.tmp 47) rfl A M rfl rfl HM0.out _) ?_))
        clear f1 f2 f3 fA
        by_cases he : en = 1
        · subst he
          have c1 : w6.cell? ⟨gp, 1, none⟩ = some (.int .i64 1) := HI.out.pb.cell 1
          go_wp2
          clear c1
          go_loopw [12] (fun j wr => ∃ i : Nat, i ≤ 32 ∧ j = .int .i64 (i : Int) ∧ Tu w gx gy gp gQ base x b (.slice ads n cps) sd 1 ix va (.slice ad2 n cp2) K i wr) (fun j _ => 32 - (intOf j).toNat)
          case atStart => exact ⟨0, by omega, rfl, HT.out K⟩
          case round =>
            clear HT HI HCP
            obtain ⟨i, hi, rfl, hT⟩ := hrel
            have HTU : Hid (Tu w gx gy gp gQ base x b (.slice ads n cps) sd 1 ix va (.slice ad2 n cp2) K i wr) := hT
            clear hT
            by_cases hlt : i < 32
            · have l0 : (0 : Int) ≤ (i : Int) := by omega
              have l1 : (i : Int) < 32 := by omega
              by_cases h1 : K < n
              · have k3 : (K : Int) < (n : Int) := by omega
                obtain ⟨g9, hg9⟩ : ∃ g, ad2 = some ⟨g, 0, none⟩ := by
                  rcases HTU.out.qo.1 with ⟨_, ⟨h1, h2⟩ | ⟨g, cap, cur, h1, _⟩⟩
                  · rw [sdq_len, ← HN.out] at h2; omega
                  · cases h1; exact ⟨g, rfl⟩
                subst hg9
                have HTD : Hid (Tu w gx gy gp gQ base x b (.slice ads n cps) sd 1 ix va (.slice (some ⟨g9, 0, none⟩) n cp2) K i wr.drew) := HTU.out.drew
                obtain ⟨bi, HBI⟩ : ∃ z, Hid (z = b.getD i 0) := ⟨_, rfl⟩
                obtain ⟨si, HSI⟩ : ∃ z, Hid (z = (sd.getD K []).getD i 0) := ⟨_, rfl⟩
                have hst := HTD.out.stepS H32.out hlt (by rw [← HN.out]; exact h1)
                have hcy := HTD.out.by HBL.out hlt
                rw [← HBI.out] at hst hcy
                rw [← HSI.out] at hst
                obtain ⟨hc, hf, hne1, hne2, hT2⟩ := hst
                have HT2 : Hid (Tu w gx gy gp gQ base x b (.slice ads n cps) sd 1 ix va (.slice (some ⟨g9, 0, none⟩) n cp2) K (i + 1) (wr.drew.setCell ⟨g9, K * 32 + i, none⟩ (.int .u8 ((si ^^^ bi).toNat : Int)))) := hT2
                have cq : wr.drew.cell? ⟨gQ, 0, none⟩ = some (.slice (some ⟨g9, 0, none⟩) n cp2) := HTD.out.qb.cell 0
                have k0 : (0 : Int) ≤ (K : Int) := by omega
                have k1 : (K : Int) < (n : Int) := by omega
                go_upto_region 16 with fail
                clear hT2 HTU
                refine wp_region_held_drew (S := fun wx => wx.cell? ⟨gQ, 0, none⟩ = some (.slice (some ⟨g9, 0, none⟩) n cp2) ∧ wx.cell? ⟨gy, i, none⟩ = some (.int .u8 (bi.toNat : Int))) (by kernel_rfl) ⟨cq, hcy⟩ ?_
                intro hS
                refine wpAnyH_take (i := 0) (v := .pointer (some ⟨gQ, 0, none⟩)) rfl (by kernel_rfl) (by kernel_rfl) (by kernel_rfl) (fun _ _ _ h => h) (Or.inl ⟨by rfl, fun wx hx => by simp [go_sem]⟩) hS ?_
                simp only [Act.put, List.getElem_toArray, List.getElem_cons_zero, List.setIfInBounds_toArray, List.set_cons_zero, List.set_cons_succ]
                refine wpAnyH_take (i := 1) (v := .slice (some ⟨g9, 0, none⟩) n cp2) rfl (by kernel_rfl) (by kernel_rfl) (by kernel_rfl) (fun _ _ _ h => h) (Or.inl ⟨by rfl, fun wx hx => by simp [go_sem, hx.1]⟩) hS ?_
                simp only [Act.put, List.getElem_toArray, List.getElem_cons_succ, List.getElem_cons_zero, List.setIfInBounds_toArray, List.set_cons_zero, List.set_cons_succ]
                refine wpAnyH_take (i := 2) (v := .int .i64 (K : Int)) rfl (by kernel_rfl) (by kernel_rfl) (by kernel_rfl) (fun _ _ _ h => h) (Or.inl ⟨by rfl, fun wx hx => by simp [go_sem]⟩) hS ?_
                simp only [Act.put, List.getElem_toArray, List.getElem_cons_succ, List.getElem_cons_zero, List.setIfInBounds_toArray, List.set_cons_zero, List.set_cons_succ]
                refine wpAnyH_take (i := 3) (v := .int .i64 (i : Int)) rfl (by kernel_rfl) (by kernel_rfl) (by kernel_rfl) (fun _ _ _ h => h) (Or.inl ⟨by rfl, fun wx hx => by simp [go_sem]⟩) hS ?_
                simp only [Act.put, List.getElem_toArray, List.getElem_cons_succ, List.getElem_cons_zero, List.setIfInBounds_toArray, List.set_cons_zero, List.set_cons_succ]
                refine wpAnyH_take (i := 4) (v := .pointer (some ⟨gQ, 0, none⟩)) rfl (by kernel_rfl) (by kernel_rfl) (by kernel_rfl) (fun _ _ _ h => h) (Or.inl ⟨by rfl, fun wx hx => by simp [go_sem]⟩) hS ?_
                simp only [Act.put, List.getElem_toArray, List.getElem_cons_succ, List.getElem_cons_zero, List.setIfInBounds_toArray, List.set_cons_zero, List.set_cons_succ]
                refine wpAnyH_take (i := 5) (v := .slice (some ⟨g9, 0, none⟩) n cp2) rfl (by kernel_rfl) (by kernel_rfl) (by kernel_rfl) (fun _ _ _ h => h) (Or.inl ⟨by rfl, fun wx hx => by simp [go_sem, hx.1]⟩) hS ?_
                simp only [Act.put, List.getElem_toArray, List.getElem_cons_succ, List.getElem_cons_zero, List.setIfInBounds_toArray, List.set_cons_zero, List.set_cons_succ]
                refine wpAnyH_take (i := 6) (v := .int .i64 (K : Int)) rfl (by kernel_rfl) (by kernel_rfl) (by kernel_rfl) (fun _ _ _ h => h) (Or.inl ⟨by rfl, fun wx hx => by simp [go_sem]⟩) hS ?_
                simp only [Act.put, List.getElem_toArray, List.getElem_cons_succ, List.getElem_cons_zero, List.setIfInBounds_toArray, List.set_cons_zero, List.set_cons_succ]
                refine wpAnyH_take (i := 7) (v := .int .i64 (i : Int)) rfl (by kernel_rfl) (by kernel_rfl) (by kernel_rfl) (fun _ _ _ h => h) (Or.inl ⟨by rfl, fun wx hx => by simp [go_sem]⟩) hS ?_
                simp only [Act.put, List.getElem_toArray, List.getElem_cons_succ, List.getElem_cons_zero, List.setIfInBounds_toArray, List.set_cons_zero, List.set_cons_succ]
                refine wpAnyH_take (i := 8) (v := .pointer (some ⟨g9, K * 32, none⟩)) rfl (by kernel_rfl) (by kernel_rfl) (by kernel_rfl) (fun _ _ _ h => h) (Or.inl ⟨by rfl, fun wx hx => by simp [go_sem, k0, k1]⟩) hS ?_
                simp only [Act.put, List.getElem_toArray, List.getElem_cons_succ, List.getElem_cons_zero, List.setIfInBounds_toArray, List.set_cons_zero, List.set_cons_succ]
                refine wpAnyH_take (i := 9) (v := .pointer (some ⟨g9, K * 32 + i, none⟩)) rfl (by kernel_rfl) (by kernel_rfl) (by kernel_rfl) (fun _ _ _ h => h) (Or.inl ⟨by rfl, fun wx hx => by simp [go_sem, l0, l1]⟩) hS ?_
                simp only [Act.put, List.getElem_toArray, List.getElem_cons_succ, List.getElem_cons_zero, List.setIfInBounds_toArray, List.set_cons_zero, List.set_cons_succ]
                refine wpAnyH_take (i := 11) (v := .int .i64 (i : Int)) rfl (by kernel_rfl) (by kernel_rfl) (by kernel_rfl) (fun _ _ _ h => h) (Or.inl ⟨by rfl, fun wx hx => by simp [go_sem]⟩) hS ?_
                simp only [Act.put, List.getElem_toArray, List.getElem_cons_succ, List.getElem_cons_zero, List.setIfInBounds_toArray, List.set_cons_zero, List.set_cons_succ]
                refine wpAnyH_take (i := 12) (v := .pointer (some ⟨gy, i, none⟩)) rfl (by kernel_rfl) (by kernel_rfl) (by kernel_rfl) (fun _ _ _ h => h) (Or.inl ⟨by rfl, fun wx hx => by simp [go_sem, l0, l1]⟩) hS ?_
                simp only [Act.put, List.getElem_toArray, List.getElem_cons_succ, List.getElem_cons_zero, List.setIfInBounds_toArray, List.set_cons_zero, List.set_cons_succ]
                refine wpAnyH_take (i := 13) (v := .int .u8 (bi.toNat : Int)) rfl (by kernel_rfl) (by kernel_rfl) (by kernel_rfl) (fun _ _ _ h => h) (Or.inl ⟨by rfl, fun wx hx => by simp [go_sem, hx.2]⟩) hS ?_
                simp only [Act.put, List.getElem_toArray, List.getElem_cons_succ, List.getElem_cons_zero, List.setIfInBounds_toArray, List.set_cons_zero, List.set_cons_succ]
                refine wpAnyH_take (i := 15) (v := .pointer (some ⟨g9, K * 32, none⟩)) rfl (by kernel_rfl) (by kernel_rfl) (by kernel_rfl) (fun _ _ _ h => h) (Or.inl ⟨by rfl, fun wx hx => by simp [go_sem, k0, k1]⟩) hS ?_
                simp only [Act.put, List.getElem_toArray, List.getElem_cons_succ, List.getElem_cons_zero, List.setIfInBounds_toArray, List.set_cons_zero, List.set_cons_succ]
                refine wpAnyH_step 10 (.int .u8 (si.toNat : Int)) wr.drew (by kernel_rfl) rfl (by rfl) (by simp [go_sem, hc]) hS ?_
                simp only [Act.put, List.getElem_toArray, List.getElem_cons_succ, List.getElem_cons_zero, List.setIfInBounds_toArray, List.set_cons_zero, List.set_cons_succ]
                refine wpAnyH_take (i := 14) (v := .int .u8 ((si ^^^ bi).toNat : Int)) rfl (by kernel_rfl) (by kernel_rfl) (by kernel_rfl) (fun _ _ _ h => h) (Or.inl ⟨by rfl, fun wx hx => by exact binXor _ _ (.tmp 88) (.tmp 91) rfl si bi rfl rfl wx⟩) hS ?_
                simp only [Act.put, List.getElem_toArray, List.getElem_cons_succ, List.getElem_cons_zero, List.setIfInBounds_toArray, List.set_cons_zero, List.set_cons_succ]
                refine wpAnyH_take (i := 16) (v := .pointer (some ⟨g9, K * 32 + i, none⟩)) rfl (by kernel_rfl) (by kernel_rfl) (by kernel_rfl) (fun _ _ _ h => h) (Or.inl ⟨by rfl, fun wx hx => by simp [go_sem, l0, l1]⟩) hS ?_
                simp only [Act.put, List.getElem_toArray, List.getElem_cons_succ, List.getElem_cons_zero, List.setIfInBounds_toArray, List.set_cons_zero, List.set_cons_succ]
                have hS2 : (wr.drew.setCell ⟨g9, K * 32 + i, none⟩ (.int .u8 ((si ^^^ bi).toNat : Int))).cell? ⟨gQ, 0, none⟩ = some (.slice (some ⟨g9, 0, none⟩) n cp2) ∧ (wr.drew.setCell ⟨g9, K * 32 + i, none⟩ (.int .u8 ((si ^^^ bi).toNat : Int))).cell? ⟨gy, i, none⟩ = some (.int .u8 (bi.toNat : Int)) := ⟨by rw [World.cell?_setCell_far _ _ _ _ (by show g9 ≠ gQ; exact hne2)]; exact hS.1, by rw [World.cell?_setCell_far _ _ _ _ (by show g9 ≠ gy; exact hne1)]; exact hS.2⟩
                refine wpAnyH_skip 17 (wr.drew.setCell ⟨g9, K * 32 + i, none⟩ (.int .u8 ((si ^^^ bi).toNat : Int))) (by kernel_rfl) rfl (by rfl) (by simp [go_sem, hc, hf]) hS2 ?_
                simp only [Act.put, List.getElem_toArray, List.getElem_cons_succ, List.getElem_cons_zero]
                refine wpAnyH_done (by kernel_rfl) ?_ _
                clear hS hS2 hc hf hcy
                generalize wr.drew.setCell ⟨g9, K * 32 + i, none⟩ (.int .u8 ((si ^^^ bi).toNat : Int)) = wN at *
                have f5 : IntKind.i64.wrap ((i : Int) + 1) = (i : Int) + 1 := by rw [IntKind.wrap_i64]; omega
                go_wp2
                go_roundw
                case rel => exact ⟨i + 1, by omega, by simp, HT2.out⟩
                case measure => simp [intOf]; omega
              · by_cases h2 : K = n
                · have k3 : ¬ (K : Int) < (n : Int) := by omega
                  have k4 : ((K : Int) == (n : Int)) = true := by rw [beq_iff_eq]; omega
                  have HTD : Hid (Tu w gx gy gp gQ base x b (.slice ads n cps) sd 1 ix va (.slice ad2 n cp2) K i wr.drew) := HTU.out.drew
                  obtain ⟨bi, HBI⟩ : ∃ z, Hid (z = b.getD i 0) := ⟨_, rfl⟩
                  obtain ⟨si, HSI⟩ : ∃ z, Hid (z = va.getD i 0) := ⟨_, rfl⟩
                  have hst := HTD.out.stepV HIL.out HVL.out hlt (by rw [← HN.out]; exact h2)
                  have hcy := HTD.out.by HBL.out hlt
                  rw [← HBI.out] at hst hcy
                  rw [← HSI.out] at hst
                  obtain ⟨hc, hf, hT2⟩ := hst
                  have HT2 : Hid (Tu w gx gy gp gQ base x b (.slice ads n cps) sd 1 ix va (.slice ad2 n cp2) K (i + 1) (wr.drew.setCell ⟨gQ, 34 + i, none⟩ (.int .u8 ((si ^^^ bi).toNat : Int)))) := hT2
                  have hgy : gy ≠ gQ := by have := HTD.out.lq; omega
                  go_upto_region 18 with fail
                  clear hT2 HTU
                  refine wp_region_held_drew (S := fun wx => wx.cell? ⟨gy, i, none⟩ = some (.int .u8 (bi.toNat : Int))) (by kernel_rfl) hcy ?_
                  intro hS
                  refine wpAnyH_take (i := 0) (v := .int .i64 (i : Int)) rfl (by kernel_rfl) (by kernel_rfl) (by kernel_rfl) (fun _ _ _ h => h) (Or.inl ⟨by rfl, fun wx hx => by simp [go_sem]⟩) hS ?_
                  simp only [Act.put, List.getElem_toArray, List.getElem_cons_zero, List.setIfInBounds_toArray, List.set_cons_zero, List.set_cons_succ]
                  refine wpAnyH_take (i := 1) (v := .int .i64 (i : Int)) rfl (by kernel_rfl) (by kernel_rfl) (by kernel_rfl) (fun _ _ _ h => h) (Or.inl ⟨by rfl, fun wx hx => by simp [go_sem]⟩) hS ?_
                  simp only [Act.put, List.getElem_toArray, List.getElem_cons_succ, List.getElem_cons_zero, List.setIfInBounds_toArray, List.set_cons_zero, List.set_cons_succ]
                  refine wpAnyH_take (i := 2) (v := .pointer (some ⟨gQ, 34, none⟩)) rfl (by kernel_rfl) (by kernel_rfl) (by kernel_rfl) (fun _ _ _ h => h) (Or.inl ⟨by rfl, fun wx hx => by simp [go_sem]⟩) hS ?_
                  simp only [Act.put, List.getElem_toArray, List.getElem_cons_succ, List.getElem_cons_zero, List.setIfInBounds_toArray, List.set_cons_zero, List.set_cons_succ]
                  refine wpAnyH_take (i := 3) (v := .pointer (some ⟨gQ, 34 + i, none⟩)) rfl (by kernel_rfl) (by kernel_rfl) (by kernel_rfl) (fun _ _ _ h => h) (Or.inl ⟨by rfl, fun wx hx => by simp [go_sem, l0, l1]⟩) hS ?_
                  simp only [Act.put, List.getElem_toArray, List.getElem_cons_succ, List.getElem_cons_zero, List.setIfInBounds_toArray, List.set_cons_zero, List.set_cons_succ]
                  refine wpAnyH_take (i := 5) (v := .int .i64 (i : Int)) rfl (by kernel_rfl) (by kernel_rfl) (by kernel_rfl) (fun _ _ _ h => h) (Or.inl ⟨by rfl, fun wx hx => by simp [go_sem]⟩) hS ?_
                  simp only [Act.put, List.getElem_toArray, List.getElem_cons_succ, List.getElem_cons_zero, List.setIfInBounds_toArray, List.set_cons_zero, List.set_cons_succ]
                  refine wpAnyH_take (i := 6) (v := .pointer (some ⟨gy, i, none⟩)) rfl (by kernel_rfl) (by kernel_rfl) (by kernel_rfl) (fun _ _ _ h => h) (Or.inl ⟨by rfl, fun wx hx => by simp [go_sem, l0, l1]⟩) hS ?_
                  simp only [Act.put, List.getElem_toArray, List.getElem_cons_succ, List.getElem_cons_zero, List.setIfInBounds_toArray, List.set_cons_zero, List.set_cons_succ]
                  refine wpAnyH_take (i := 7) (v := .int .u8 (bi.toNat : Int)) rfl (by kernel_rfl) (by kernel_rfl) (by kernel_rfl) (fun _ _ _ h => h) (Or.inl ⟨by rfl, fun wx hx => by simp [go_sem, hx]⟩) hS ?_
                  simp only [Act.put, List.getElem_toArray, List.getElem_cons_succ, List.getElem_cons_zero, List.setIfInBounds_toArray, List.set_cons_zero, List.set_cons_succ]
                  refine wpAnyH_take (i := 9) (v := .pointer (some ⟨gQ, 34, none⟩)) rfl (by kernel_rfl) (by kernel_rfl) (by kernel_rfl) (fun _ _ _ h => h) (Or.inl ⟨by rfl, fun wx hx => by simp [go_sem]⟩) hS ?_
                  simp only [Act.put, List.getElem_toArray, List.getElem_cons_succ, List.getElem_cons_zero, List.setIfInBounds_toArray, List.set_cons_zero, List.set_cons_succ]
                  refine wpAnyH_step 4 (.int .u8 (si.toNat : Int)) wr.drew (by kernel_rfl) rfl (by rfl) (by simp [go_sem, hc]) hS ?_
                  simp only [Act.put, List.getElem_toArray, List.getElem_cons_succ, List.getElem_cons_zero, List.setIfInBounds_toArray, List.set_cons_zero, List.set_cons_succ]
                  refine wpAnyH_take (i := 8) (v := .int .u8 ((si ^^^ bi).toNat : Int)) rfl (by kernel_rfl) (by kernel_rfl) (by kernel_rfl) (fun _ _ _ h => h) (Or.inl ⟨by rfl, fun wx hx => by exact binXor _ _ (.tmp 103) (.tmp 106) rfl si bi rfl rfl wx⟩) hS ?_
                  simp only [Act.put, List.getElem_toArray, List.getElem_cons_succ, List.getElem_cons_zero, List.setIfInBounds_toArray, List.set_cons_zero, List.set_cons_succ]
                  refine wpAnyH_take (i := 10) (v := .pointer (some ⟨gQ, 34 + i, none⟩)) rfl (by kernel_rfl) (by kernel_rfl) (by kernel_rfl) (fun _ _ _ h => h) (Or.inl ⟨by rfl, fun wx hx => by simp [go_sem, l0, l1]⟩) hS ?_
                  simp only [Act.put, List.getElem_toArray, List.getElem_cons_succ, List.getElem_cons_zero, List.setIfInBounds_toArray, List.set_cons_zero, List.set_cons_succ]
                  have hS2 : (wr.drew.setCell ⟨gQ, 34 + i, none⟩ (.int .u8 ((si ^^^ bi).toNat : Int))).cell? ⟨gy, i, none⟩ = some (.int .u8 (bi.toNat : Int)) := by rw [World.cell?_setCell_far _ _ _ _ (by show gQ ≠ gy; exact hgy.symm)]; exact hS
                  refine wpAnyH_skip 11 (wr.drew.setCell ⟨gQ, 34 + i, none⟩ (.int .u8 ((si ^^^ bi).toNat : Int))) (by kernel_rfl) rfl (by rfl) (by simp [go_sem, hc, hf]) hS2 ?_
                  simp only [Act.put, List.getElem_toArray, List.getElem_cons_succ, List.getElem_cons_zero]
                  refine wpAnyH_done (by kernel_rfl) ?_ _
                  clear hS hS2 hc hf hcy
                  generalize wr.drew.setCell ⟨gQ, 34 + i, none⟩ (.int .u8 ((si ^^^ bi).toNat : Int)) = wN at *
                  have f5 : IntKind.i64.wrap ((i : Int) + 1) = (i : Int) + 1 := by rw [IntKind.wrap_i64]; omega
                  go_wp2
                  go_roundw
                  case rel => exact ⟨i + 1, by omega, by simp, HT2.out⟩
                  case measure => simp [intOf]; omega
                · have k3 : ¬ (K : Int) < (n : Int) := by omega
                  have k4 : ((K : Int) == (n : Int)) = false := by rw [beq_eq_false_iff_ne]; omega
                  have HTD : Hid (Tu w gx gy gp gQ base x b (.slice ads n cps) sd 1 ix va (.slice ad2 n cp2) K i wr.drew) := HTU.out.drew
                  obtain ⟨bi, HBI⟩ : ∃ z, Hid (z = b.getD i 0) := ⟨_, rfl⟩
                  obtain ⟨si, HSI⟩ : ∃ z, Hid (z = ix.getD i 0) := ⟨_, rfl⟩
                  have hst := HTD.out.stepI HIL.out hlt (by rw [← HN.out]; omega)
                  have hcy := HTD.out.by HBL.out hlt
                  rw [← HBI.out] at hst hcy
                  rw [← HSI.out] at hst
                  obtain ⟨hc, hf, hT2⟩ := hst
                  have HT2 : Hid (Tu w gx gy gp gQ base x b (.slice ads n cps) sd 1 ix va (.slice ad2 n cp2) K (i + 1) (wr.drew.setCell ⟨gQ, 2 + i, none⟩ (.int .u8 ((si ^^^ bi).toNat : Int)))) := hT2
                  have hgy : gy ≠ gQ := by have := HTD.out.lq; omega
                  go_upto_region 14 with fail
                  clear hT2 HTU
                  refine wp_region_held_drew (S := fun wx => wx.cell? ⟨gy, i, none⟩ = some (.int .u8 (bi.toNat : Int))) (by kernel_rfl) hcy ?_
                  intro hS
                  refine wpAnyH_take (i := 0) (v := .int .i64 (i : Int)) rfl (by kernel_rfl) (by kernel_rfl) (by kernel_rfl) (fun _ _ _ h => h) (Or.inl ⟨by rfl, fun wx hx => by simp [go_sem]⟩) hS ?_
                  simp only [Act.put, List.getElem_toArray, List.getElem_cons_zero, List.setIfInBounds_toArray, List.set_cons_zero, List.set_cons_succ]
                  refine wpAnyH_take (i := 1) (v := .int .i64 (i : Int)) rfl (by kernel_rfl) (by kernel_rfl) (by kernel_rfl) (fun _ _ _ h => h) (Or.inl ⟨by rfl, fun wx hx => by simp [go_sem]⟩) hS ?_
                  simp only [Act.put, List.getElem_toArray, List.getElem_cons_succ, List.getElem_cons_zero, List.setIfInBounds_toArray, List.set_cons_zero, List.set_cons_succ]
                  refine wpAnyH_take (i := 2) (v := .pointer (some ⟨gQ, 2, none⟩)) rfl (by kernel_rfl) (by kernel_rfl) (by kernel_rfl) (fun _ _ _ h => h) (Or.inl ⟨by rfl, fun wx hx => by simp [go_sem]⟩) hS ?_
                  simp only [Act.put, List.getElem_toArray, List.getElem_cons_succ, List.getElem_cons_zero, List.setIfInBounds_toArray, List.set_cons_zero, List.set_cons_succ]
                  refine wpAnyH_take (i := 3) (v := .pointer (some ⟨gQ, 2 + i, none⟩)) rfl (by kernel_rfl) (by kernel_rfl) (by kernel_rfl) (fun _ _ _ h => h) (Or.inl ⟨by rfl, fun wx hx => by simp [go_sem, l0, l1]⟩) hS ?_
                  simp only [Act.put, List.getElem_toArray, List.getElem_cons_succ, List.getElem_cons_zero, List.setIfInBounds_toArray, List.set_cons_zero, List.set_cons_succ]
                  refine wpAnyH_take (i := 5) (v := .int .i64 (i : Int)) rfl (by kernel_rfl) (by kernel_rfl) (by kernel_rfl) (fun _ _ _ h => h) (Or.inl ⟨by rfl, fun wx hx => by simp [go_sem]⟩) hS ?_
                  simp only [Act.put, List.getElem_toArray, List.getElem_cons_succ, List.getElem_cons_zero, List.setIfInBounds_toArray, List.set_cons_zero, List.set_cons_succ]
                  refine wpAnyH_take (i := 6) (v := .pointer (some ⟨gy, i, none⟩)) rfl (by kernel_rfl) (by kernel_rfl) (by kernel_rfl) (fun _ _ _ h => h) (Or.inl ⟨by rfl, fun wx hx => by simp [go_sem, l0, l1]⟩) hS ?_
                  simp only [Act.put, List.getElem_toArray, List.getElem_cons_succ, List.getElem_cons_zero, List.setIfInBounds_toArray, List.set_cons_zero, List.set_cons_succ]
                  refine wpAnyH_take (i := 7) (v := .int .u8 (bi.toNat : Int)) rfl (by kernel_rfl) (by kernel_rfl) (by kernel_rfl) (fun _ _ _ h => h) (Or.inl ⟨by rfl, fun wx hx => by simp [go_sem, hx]⟩) hS ?_
                  simp only [Act.put, List.getElem_toArray, List.getElem_cons_succ, List.getElem_cons_zero, List.setIfInBounds_toArray, List.set_cons_zero, List.set_cons_succ]
                  refine wpAnyH_take (i := 9) (v := .pointer (some ⟨gQ, 2, none⟩)) rfl (by kernel_rfl) (by kernel_rfl) (by kernel_rfl) (fun _ _ _ h => h) (Or.inl ⟨by rfl, fun wx hx => by simp [go_sem]⟩) hS ?_
                  simp only [Act.put, List.getElem_toArray, List.getElem_cons_succ, List.getElem_cons_zero, List.setIfInBounds_toArray, List.set_cons_zero, List.set_cons_succ]
                  refine wpAnyH_step 4 (.int .u8 (si.toNat : Int)) wr.drew (by kernel_rfl) rfl (by rfl) (by simp [go_sem, hc]) hS ?_
                  simp only [Act.put, List.getElem_toArray, List.getElem_cons_succ, List.getElem_cons_zero, List.setIfInBounds_toArray, List.set_cons_zero, List.set_cons_succ]
                  refine wpAnyH_take (i := 8) (v := .int .u8 ((si ^^^ bi).toNat : Int)) rfl (by kernel_rfl) (by kernel_rfl) (by kernel_rfl) (fun _ _ _ h => h) (Or.inl ⟨by rfl, fun wx hx => by exact binXor _ _ (.tmp 67) (.tmp 70) rfl si bi rfl rfl wx⟩) hS ?_
                  simp only [Act.put, List.getElem_toArray, List.getElem_cons_succ, List.getElem_cons_zero, List.setIfInBounds_toArray, List.set_cons_zero, List.set_cons_succ]
                  refine wpAnyH_take (i := 10) (v := .pointer (some ⟨gQ, 2 + i, none⟩)) rfl (by kernel_rfl) (by kernel_rfl) (by kernel_rfl) (fun _ _ _ h => h) (Or.inl ⟨by rfl, fun wx hx => by simp [go_sem, l0, l1]⟩) hS ?_
                  simp only [Act.put, List.getElem_toArray, List.getElem_cons_succ, List.getElem_cons_zero, List.setIfInBounds_toArray, List.set_cons_zero, List.set_cons_succ]
                  have hS2 : (wr.drew.setCell ⟨gQ, 2 + i, none⟩ (.int .u8 ((si ^^^ bi).toNat : Int))).cell? ⟨gy, i, none⟩ = some (.int .u8 (bi.toNat : Int)) := by rw [World.cell?_setCell_far _ _ _ _ (by show gQ ≠ gy; exact hgy.symm)]; exact hS
                  refine wpAnyH_skip 11 (wr.drew.setCell ⟨gQ, 2 + i, none⟩ (.int .u8 ((si ^^^ bi).toNat : Int))) (by kernel_rfl) rfl (by rfl) (by simp [go_sem, hc, hf]) hS2 ?_
                  simp only [Act.put, List.getElem_toArray, List.getElem_cons_succ, List.getElem_cons_zero]
                  refine wpAnyH_done (by kernel_rfl) ?_ _
                  clear hS hS2 hc hf hcy
                  generalize wr.drew.setCell ⟨gQ, 2 + i, none⟩ (.int .u8 ((si ^^^ bi).toNat : Int)) = wN at *
                  have f5 : IntKind.i64.wrap ((i : Int) + 1) = (i : Int) + 1 := by rw [IntKind.wrap_i64]; omega
                  go_wp2
                  go_roundw
                  case rel => exact ⟨i + 1, by omega, by simp, HT2.out⟩
                  case measure => simp [intOf]; omega
            · obtain rfl : i = 32 := by omega
              have l1 : ¬ (((32 : Nat) : Int) < 32) := by omega
              obtain ⟨ix2, HIX⟩ : ∃ z, Hid (z = (ixq K sd.length 32 ix b)) := ⟨_, rfl⟩
              obtain ⟨va2, HVA⟩ : ∃ z, Hid (z = (vaq K sd.length 32 va b)) := ⟨_, rfl⟩
              obtain ⟨sd2, HSD⟩ : ∃ z, Hid (z = (sdq K 32 sd b)) := ⟨_, rfl⟩
              have HI2 : Hid (ix2.length = 32) := by show _ = _; rw [HIX.out, ixq_len]; exact HIL.out
              have HV2 : Hid (va2.length = 32) := by show _ = _; rw [HVA.out, vaq_len]; exact HVL.out
              have HS2 : Hid (sd2.length ≤ 300) := by show _ ≤ _; rw [HSD.out, sdq_len]; exact HFEW.out
              have HQE : Hid (∀ W, Tu w gx gy gp gQ base x b (.slice ads n cps) sd 1 ix va (.slice ad2 n cp2) K 32 W → Blk W gQ (prfV (.slice ad2 n cp2) 1 ix2 va2) 26) := fun W h => by rw [HIX.out, HVA.out]; exact h.qb
              have HQR : Hid (∀ W, Tu w gx gy gp gQ base x b (.slice ads n cps) sd 1 ix va (.slice ad2 n cp2) K 32 W → ReadsD W (.slice ad2 n cp2) sd2) := fun W h => by rw [HSD.out]; exact h.qo.readsD
              have HTT : Hid (topL x (endB 1 ix va) 0 sd = topL x (endB 1 ix2 va2) 0 sd2 → twoL (hashL x (endB 1 ix va) 0 sd) (hashL x (endB 1 ix2 va2) 0 sd2)) := by
                rw [HIX.out, HVA.out, HSD.out]
                exact turned_two HBL.out HBN.out HIL.out HVL.out H32.out (Or.inr rfl)
              obtain ⟨r1, HR1⟩ : ∃ z, Hid (z = topL x (endB 1 ix va) 0 sd) := ⟨_, rfl⟩
              obtain ⟨r2, HR2⟩ : ∃ z, Hid (z = topL x (endB 1 ix2 va2) 0 sd2) := ⟨_, rfl⟩
              rw [← HR1.out, ← HR2.out] at HTT
              have HCA : Hid (∀ W, Tu w gx gy gp gQ base x b (.slice ads n cps) sd 1 ix va (.slice ad2 n cp2) K 32 W → Calls Tryd.prog 13 #[.agg (cb x).toArray, .agg (prfV (.slice ads n cps) 1 ix va).toArray] W fun e w' => e = .returned (.agg (cb r1).toArray) ∧ Below W.heap.size W w') := fun W h => by rw [HR1.out]; exact HP.out.root W x _ sd 1 ix va h.kok HXL.out HIL.out HVL.out h.rd HFEW.out
              have HCB : Hid (∀ W, Tu w gx gy gp gQ base x b (.slice ads n cps) sd 1 ix va (.slice ad2 n cp2) K 32 W → Calls Tryd.prog 13 #[.agg (cb x).toArray, .agg (prfV (.slice ad2 n cp2) 1 ix2 va2).toArray] W fun e w' => e = .returned (.agg (cb r2).toArray) ∧ Below W.heap.size W w') := fun W h => by rw [HR2.out]; exact HP.out.root W x _ sd2 1 ix2 va2 h.kok HXL.out HI2.out HV2.out (HQR.out W h) HS2.out
              have hey : ∀ wx : World, (Op.equalIn 10000 23 (.agg (cb r1).toArray) (.agg (cb r2).toArray)).run Tryd.prog wx = .ok (decide (r1 = r2)) wx := fun wx => eq_dig r1 r2 (by rw [HR1.out]; exact topL_len _ _ _ _) (by rw [HR2.out]; exact topL_len _ _ _ _) wx
              clear HIX HVA HSD
              go_upto_region 19 with fail
              refine wp_region_held_drew (S := Tu w gx gy gp gQ base x b (.slice ads n cps) sd 1 ix va (.slice ad2 n cp2) K 32) (by kernel_rfl) HTU.out.drew ?_
              intro hS
              clear HTU
              change wpAnyH _ _ _ _ _ _ _ _ (World.drew wr)
              generalize World.drew wr = y0 at *
              refine wpAnyH_take (i := 0) (v := .agg (cb x).toArray) rfl (by kernel_rfl) (by kernel_rfl) (by kernel_rfl) (fun _ _ _ h => h) (Or.inl ⟨by rfl, fun wx hx => by exact loadDigest _ gx x HXL.out hx.xb rfl rfl⟩) hS ?_
              simp only [Act.put, List.getElem_toArray, List.getElem_cons_zero, List.setIfInBounds_toArray, List.set_cons_zero, List.set_cons_succ]
              refine wpAnyH_take (i := 1) (v := .agg (prfV (.slice ads n cps) 1 ix va).toArray) rfl (by kernel_rfl) (by kernel_rfl) (by kernel_rfl) (fun _ _ _ h => h) (Or.inl ⟨by rfl, fun wx hx => by exact load_run 26 _ rfl gp 0 rfl (prfV (.slice ads n cps) 1 ix va) _ hx.pb.range Tryd.underlying26 rfl (by rw [prfV_len HIL.out HVL.out]; exact info_proof)⟩) hS ?_
              simp only [Act.put, List.getElem_toArray, List.getElem_cons_succ, List.getElem_cons_zero, List.setIfInBounds_toArray, List.set_cons_zero, List.set_cons_succ]
              refine wpAnyH_take (i := 3) (v := .agg (cb x).toArray) rfl (by kernel_rfl) (by kernel_rfl) (by kernel_rfl) (fun _ _ _ h => h) (Or.inl ⟨by rfl, fun wx hx => by exact loadDigest _ gx x HXL.out hx.xb rfl rfl⟩) hS ?_
              simp only [Act.put, List.getElem_toArray, List.getElem_cons_succ, List.getElem_cons_zero, List.setIfInBounds_toArray, List.set_cons_zero, List.set_cons_succ]
              refine wpAnyH_take (i := 4) (v := .agg (prfV (.slice ad2 n cp2) 1 ix2 va2).toArray) rfl (by kernel_rfl) (by kernel_rfl) (by kernel_rfl) (fun _ _ _ h => h) (Or.inl ⟨by rfl, fun wx hx => by exact load_run 26 _ rfl gQ 0 rfl (prfV (.slice ad2 n cp2) 1 ix2 va2) _ (HQE.out _ hx).range Tryd.underlying26 rfl (by rw [prfV_len HI2.out HV2.out]; exact info_proof)⟩) hS ?_
              simp only [Act.put, List.getElem_toArray, List.getElem_cons_succ, List.getElem_cons_zero, List.setIfInBounds_toArray, List.set_cons_zero, List.set_cons_succ]
              refine wpAnyH_enter 2 (by kernel_rfl) rfl (by rfl) (f := 13) (args := #[.agg (cb x).toArray, .agg (prfV (.slice ads n cps) 1 ix va).toArray]) (by simp [go_sem]) (HCA.out _ hS) ?_
              rintro e y1 ⟨rfl, hbq⟩
              replace hS := hS.next hbq
              refine ⟨_, rfl, hS, ?_⟩
              clear hbq
              simp only [Act.put, List.getElem_toArray, List.getElem_cons_succ, List.getElem_cons_zero, List.setIfInBounds_toArray, List.set_cons_zero, List.set_cons_succ]
              refine wpAnyH_enter 5 (by kernel_rfl) rfl (by rfl) (f := 13) (args := #[.agg (cb x).toArray, .agg (prfV (.slice ad2 n cp2) 1 ix2 va2).toArray]) (by simp [go_sem]) (HCB.out _ hS) ?_
              rintro e y2 ⟨rfl, hbq⟩
              replace hS := hS.next hbq
              refine ⟨_, rfl, hS, ?_⟩
              clear hbq
              simp only [Act.put, List.getElem_toArray, List.getElem_cons_succ, List.getElem_cons_zero, List.setIfInBounds_toArray, List.set_cons_zero, List.set_cons_succ]
              refine wpAnyH_take (i := 6) (v := .bool (!decide (r1 = r2))) rfl (by kernel_rfl) (by kernel_rfl) (by kernel_rfl) (fun _ _ _ h => h) (Or.inl ⟨by rfl, fun wx hx => by (have hq := hey wx; simp [go_sem, hq])⟩) hS ?_
              simp only [Act.put, List.getElem_toArray, List.getElem_cons_succ, List.getElem_cons_zero, List.setIfInBounds_toArray, List.set_cons_zero, List.set_cons_succ]
              refine wpAnyH_done (by kernel_rfl) ?_ _
              have HTU : Hid (Tu w gx gy gp gQ base x b (.slice ads n cps) sd 1 ix va (.slice ad2 n cp2) K 32 y2) := hS
              clear hS hey HCA HCB
              by_cases hrr : r1 = r2
              · rw [decide_eq_true hrr, Bool.not_true]
                have HTWO : Hid (twoL (hashL x (endB 1 ix va) 0 sd) (hashL x (endB 1 ix2 va2) 0 sd2)) := HTT.out hrr
                clear hrr HTT HR1 HR2
                go_upto_region 21 with fail
                refine wp_region_held_drew (S := Tu w gx gy gp gQ base x b (.slice ads n cps) sd 1 ix va (.slice ad2 n cp2) K 32) (by kernel_rfl) HTU.out.drew ?_
                intro hS
                clear HTU
                change wpAnyH _ _ _ _ _ _ _ _ (World.drew y2)
                generalize World.drew y2 = z0 at *
                refine wpAnyH_take (i := 0) (v := .agg (cb x).toArray) rfl (by kernel_rfl) (by kernel_rfl) (by kernel_rfl) (fun _ _ _ h => h) (Or.inl ⟨by rfl, fun wx hx => by exact loadDigest _ gx x HXL.out hx.xb rfl rfl⟩) hS ?_
                simp only [Act.put, List.getElem_toArray, List.getElem_cons_zero, List.setIfInBounds_toArray, List.set_cons_zero, List.set_cons_succ]
                refine wpAnyH_take (i := 1) (v := .agg (prfV (.slice ads n cps) 1 ix va).toArray) rfl (by kernel_rfl) (by kernel_rfl) (by kernel_rfl) (fun _ _ _ h => h) (Or.inl ⟨by rfl, fun wx hx => by exact load_run 26 _ rfl gp 0 rfl (prfV (.slice ads n cps) 1 ix va) _ hx.pb.range Tryd.underlying26 rfl (by rw [prfV_len HIL.out HVL.out]; exact info_proof)⟩) hS ?_
                simp only [Act.put, List.getElem_toArray, List.getElem_cons_succ, List.getElem_cons_zero, List.setIfInBounds_toArray, List.set_cons_zero, List.set_cons_succ]
                refine wpAnyH_take (i := 3) (v := .agg (cb x).toArray) rfl (by kernel_rfl) (by kernel_rfl) (by kernel_rfl) (fun _ _ _ h => h) (Or.inl ⟨by rfl, fun wx hx => by exact loadDigest _ gx x HXL.out hx.xb rfl rfl⟩) hS ?_
                simp only [Act.put, List.getElem_toArray, List.getElem_cons_succ, List.getElem_cons_zero, List.setIfInBounds_toArray, List.set_cons_zero, List.set_cons_succ]
                refine wpAnyH_take (i := 4) (v := .agg (prfV (.slice ad2 n cp2) 1 ix2 va2).toArray) rfl (by kernel_rfl) (by kernel_rfl) (by kernel_rfl) (fun _ _ _ h => h) (Or.inl ⟨by rfl, fun wx hx => by exact load_run 26 _ rfl gQ 0 rfl (prfV (.slice ad2 n cp2) 1 ix2 va2) _ (HQE.out _ hx).range Tryd.underlying26 rfl (by rw [prfV_len HI2.out HV2.out]; exact info_proof)⟩) hS ?_
                simp only [Act.put, List.getElem_toArray, List.getElem_cons_succ, List.getElem_cons_zero, List.setIfInBounds_toArray, List.set_cons_zero, List.set_cons_succ]
                refine wpAnyH_enter 2 (by kernel_rfl) rfl (by rfl) (f := 10) (args := #[.agg (cb x).toArray, .agg (prfV (.slice ads n cps) 1 ix va).toArray]) (by simp [go_sem]) (HP.out.hashed _ x (.slice ads n cps) sd 1 ix va hS.kok HXL.out HIL.out HVL.out hS.rd HFEW.out) ?_
                rintro e z1 ⟨u1, rfl, hu1, hb⟩
                replace hS := hS.next hb
                refine ⟨_, rfl, hS, ?_⟩
                clear hb
                simp only [Act.put, List.getElem_toArray, List.getElem_cons_succ, List.getElem_cons_zero, List.setIfInBounds_toArray, List.set_cons_zero, List.set_cons_succ]
                refine wpAnyH_enter 5 (by kernel_rfl) rfl (by rfl) (f := 10) (args := #[.agg (cb x).toArray, .agg (prfV (.slice ad2 n cp2) 1 ix2 va2).toArray]) (by simp [go_sem]) (HP.out.hashed _ x (.slice ad2 n cp2) sd2 1 ix2 va2 hS.kok HXL.out HI2.out HV2.out (HQR.out _ hS) HS2.out) ?_
                rintro e z2 ⟨u2, rfl, hu2, hb⟩
                replace hS := hS.next hb
                replace hu1 := hu1.below hb
                refine ⟨_, rfl, hS, ?_⟩
                clear hb
                simp only [Act.put, List.getElem_toArray, List.getElem_cons_succ, List.getElem_cons_zero, List.setIfInBounds_toArray, List.set_cons_zero, List.set_cons_succ]
                have hle1 : ∀ t ∈ hashL x (endB 1 ix va) 0 sd, t.length ≤ 65 := hashL_le x _ (endB_le HIL.out HVL.out) _ _ H32.out
                have hle2 : ∀ t ∈ hashL x (endB 1 ix2 va2) 0 sd2, t.length ≤ 65 := hashL_le x _ (endB_le HI2.out HV2.out) _ _ (HQR.out _ hS).2
                refine wpAnyH_enter 6 (by kernel_rfl) rfl (by rfl) (f := 22) (args := #[u1, u2]) (by simp [go_sem]) (pftwo_any u1 u2 _ _ _ hu1 hu2 (by rw [hashL_len]; have := HFEW.out; omega) (by rw [hashL_len]; have := HS2.out; omega) hle1 hle2) ?_
                rintro e z3 ⟨o3, rfl, ho3, hb⟩
                obtain rfl : o3 = true := ho3.2 HTWO.out
                replace hS := hS.next hb
                refine ⟨_, rfl, hS, ?_⟩
                clear hb hu1 hu2 hle1 hle2 ho3
                simp only [Act.put, List.getElem_toArray, List.getElem_cons_succ, List.getElem_cons_zero, List.setIfInBounds_toArray, List.set_cons_zero, List.set_cons_succ]
                refine wpAnyH_take (i := 7) (v := .bool true) rfl (by kernel_rfl) (by kernel_rfl) (by kernel_rfl) (fun _ _ _ h => h) (Or.inl ⟨by rfl, fun wx hx => by simp [go_sem]⟩) hS ?_
                simp only [Act.put, List.getElem_toArray, List.getElem_cons_succ, List.getElem_cons_zero, List.setIfInBounds_toArray, List.set_cons_zero, List.set_cons_succ]
                refine wpAnyH_enter 8 (by kernel_rfl) rfl (by rfl) (f := 9) (args := #[]) (by simp [go_sem]) (pfworks_any HP.out _ hS.kok) ?_
                rintro e z4 ⟨rfl, hb⟩
                replace hS := hS.next hb
                refine ⟨_, rfl, hS, ?_⟩
                clear hb
                simp only [Act.put, List.getElem_toArray, List.getElem_cons_succ, List.getElem_cons_zero, List.setIfInBounds_toArray, List.set_cons_zero, List.set_cons_succ]
                refine wpAnyH_take (i := 9) (v := .bool true) rfl (by kernel_rfl) (by kernel_rfl) (by kernel_rfl) (fun _ _ _ h => h) (Or.inl ⟨by rfl, fun wx hx => by simp [go_sem]⟩) hS ?_
                simp only [Act.put, List.getElem_toArray, List.getElem_cons_succ, List.getElem_cons_zero, List.setIfInBounds_toArray, List.set_cons_zero, List.set_cons_succ]
                refine wpAnyH_take (i := 10) (v := .bool true) rfl (by kernel_rfl) (by kernel_rfl) (by kernel_rfl) (fun _ _ _ h => h) (Or.inl ⟨by rfl, fun wx hx => by simp [go_sem]⟩) hS ?_
                simp only [Act.put, List.getElem_toArray, List.getElem_cons_succ, List.getElem_cons_zero, List.setIfInBounds_toArray, List.set_cons_zero, List.set_cons_succ]
                refine wpAnyH_done (by kernel_rfl) ?_ _
                have HBW : Hid (Below w.heap.size w z4) := hS.bel
                clear hS HTWO
                go_wp2
                go_ret
                exact ⟨rfl, HBW.out⟩
              · rw [decide_eq_false hrr, Bool.not_false]
                clear HTT
                go_wp2_with (first
                  | (go_at_call 9; refine (pfworks_any HP.out _ HTU.out.kok).mono ?_; rintro e wz ⟨rfl, hbz⟩
                     replace HTU : Hid (Tu w gx gy gp gQ base x b (.slice ads n cps) sd 1 ix va (.slice ad2 n cp2) K 32 wz) := HTU.out.next hbz
                     clear hbz))
                go_ret
                exact ⟨rfl, HTU.out.bel⟩
        · have he2 : (en == 1) = false := by rw [beq_eq_false_iff_ne]; exact he
          have c1 : w6.cell? ⟨gp, 1, none⟩ = some (.int .i64 en) := HI.out.pb.cell 1
          by_cases hn : n = 0
          · have f5 : ((n : Int) == 0) = true := by rw [beq_iff_eq]; omega
            clear hn HT
            go_wp2_with (first
              | (go_at_call 9; refine (pfworks_any HP.out _ HI.out.kok).mono ?_; rintro e wz ⟨rfl, hbz⟩
                 replace HI : Hid (Tv w gx gy gp x b (.slice ads n cps) sd en ix va wz) := HI.out.next hbz
                 clear hbz))
            go_ret
            exact ⟨rfl, HI.out.bel⟩
          · have f5 : ((n : Int) == 0) = false := by rw [beq_eq_false_iff_ne]; omega
            obtain ⟨kk, HKK⟩ : ∃ z, Hid (z = K % n) := ⟨_, rfl⟩
            have HKN : Hid (kk < n) := by show _ < _; rw [HKK.out]; exact Nat.mod_lt _ (by omega)
            have HN0 : Hid (0 < n) := by show _ < _; omega
            clear hn
            go_wp2_with (first
              | (refine wpSeq_val (.int .i64 (kk : Int)) _ (by rfl) (by rw [HKK.out]; exact remI _ _ (.tmp 56) (.tmp 57) rfl K n rfl rfl HN0.out _) ?_))
            clear c1 f5 he2
            go_loopw [12] (fun j wr => ∃ i : Nat, i ≤ 32 ∧ j = .int .i64 (i : Int) ∧ Tu w gx gy gp gQ base x b (.slice ads n cps) sd en ix va (.slice ad2 n cp2) kk i wr) (fun j _ => 32 - (intOf j).toNat)
            case atStart => exact ⟨0, by omega, rfl, HT.out kk⟩
            case round =>
              clear HT HI HCP
              obtain ⟨i, hi, rfl, hT⟩ := hrel
              have HTU : Hid (Tu w gx gy gp gQ base x b (.slice ads n cps) sd en ix va (.slice ad2 n cp2) kk i wr) := hT
              clear hT
              by_cases hlt : i < 32
              · have l0 : (0 : Int) ≤ (i : Int) := by omega
                have l1 : (i : Int) < 32 := by omega
                by_cases h1 : kk < n
                · have k3 : (kk : Int) < (n : Int) := by omega
                  obtain ⟨g9, hg9⟩ : ∃ g, ad2 = some ⟨g, 0, none⟩ := by
                    rcases HTU.out.qo.1 with ⟨_, ⟨h1, h2⟩ | ⟨g, cap, cur, h1, _⟩⟩
                    · rw [sdq_len, ← HN.out] at h2; omega
                    · cases h1; exact ⟨g, rfl⟩
                  subst hg9
                  have HTD : Hid (Tu w gx gy gp gQ base x b (.slice ads n cps) sd en ix va (.slice (some ⟨g9, 0, none⟩) n cp2) kk i wr.drew) := HTU.out.drew
                  obtain ⟨bi, HBI⟩ : ∃ z, Hid (z = b.getD i 0) := ⟨_, rfl⟩
                  obtain ⟨si, HSI⟩ : ∃ z, Hid (z = (sd.getD kk []).getD i 0) := ⟨_, rfl⟩
                  have hst := HTD.out.stepS H32.out hlt (by rw [← HN.out]; exact h1)
                  have hcy := HTD.out.by HBL.out hlt
                  rw [← HBI.out] at hst hcy
                  rw [← HSI.out] at hst
                  obtain ⟨hc, hf, hne1, hne2, hT2⟩ := hst
                  have HT2 : Hid (Tu w gx gy gp gQ base x b (.slice ads n cps) sd en ix va (.slice (some ⟨g9, 0, none⟩) n cp2) kk (i + 1) (wr.drew.setCell ⟨g9, kk * 32 + i, none⟩ (.int .u8 ((si ^^^ bi).toNat : Int)))) := hT2
                  have cq : wr.drew.cell? ⟨gQ, 0, none⟩ = some (.slice (some ⟨g9, 0, none⟩) n cp2) := HTD.out.qb.cell 0
                  have k0 : (0 : Int) ≤ (kk : Int) := by omega
                  have k1 : (kk : Int) < (n : Int) := by omega
                  go_upto_region 16 with fail
                  clear hT2 HTU
                  refine wp_region_held_drew (S := fun wx => wx.cell? ⟨gQ, 0, none⟩ = some (.slice (some ⟨g9, 0, none⟩) n cp2) ∧ wx.cell? ⟨gy, i, none⟩ = some (.int .u8 (bi.toNat : Int))) (by kernel_rfl) ⟨cq, hcy⟩ ?_
                  intro hS
                  refine wpAnyH_take (i := 0) (v := .pointer (some ⟨gQ, 0, none⟩)) rfl (by kernel_rfl) (by kernel_rfl) (by kernel_rfl) (fun _ _ _ h => h) (Or.inl ⟨by rfl, fun wx hx => by simp [go_sem]⟩) hS ?_
                  simp only [Act.put, List.getElem_toArray, List.getElem_cons_zero, List.setIfInBounds_toArray, List.set_cons_zero, List.set_cons_succ]
                  refine wpAnyH_take (i := 1) (v := .slice (some ⟨g9, 0, none⟩) n cp2) rfl (by kernel_rfl) (by kernel_rfl) (by kernel_rfl) (fun _ _ _ h => h) (Or.inl ⟨by rfl, fun wx hx => by simp [go_sem, hx.1]⟩) hS ?_
                  simp only [Act.put, List.getElem_toArray, List.getElem_cons_succ, List.getElem_cons_zero, List.setIfInBounds_toArray, List.set_cons_zero, List.set_cons_succ]
                  refine wpAnyH_take (i := 2) (v := .int .i64 (kk : Int)) rfl (by kernel_rfl) (by kernel_rfl) (by kernel_rfl) (fun _ _ _ h => h) (Or.inl ⟨by rfl, fun wx hx => by simp [go_sem]⟩) hS ?_
                  simp only [Act.put, List.getElem_toArray, List.getElem_cons_succ, List.getElem_cons_zero, List.setIfInBounds_toArray, List.set_cons_zero, List.set_cons_succ]
                  refine wpAnyH_take (i := 3) (v := .int .i64 (i : Int)) rfl (by kernel_rfl) (by kernel_rfl) (by kernel_rfl) (fun _ _ _ h => h) (Or.inl ⟨by rfl, fun wx hx => by simp [go_sem]⟩) hS ?_
                  simp only [Act.put, List.getElem_toArray, List.getElem_cons_succ, List.getElem_cons_zero, List.setIfInBounds_toArray, List.set_cons_zero, List.set_cons_succ]
                  refine wpAnyH_take (i := 4) (v := .pointer (some ⟨gQ, 0, none⟩)) rfl (by kernel_rfl) (by kernel_rfl) (by kernel_rfl) (fun _ _ _ h => h) (Or.inl ⟨by rfl, fun wx hx => by simp [go_sem]⟩) hS ?_
                  simp only [Act.put, List.getElem_toArray, List.getElem_cons_succ, List.getElem_cons_zero, List.setIfInBounds_toArray, List.set_cons_zero, List.set_cons_succ]
                  refine wpAnyH_take (i := 5) (v := .slice (some ⟨g9, 0, none⟩) n cp2) rfl (by kernel_rfl) (by kernel_rfl) (by kernel_rfl) (fun _ _ _ h => h) (Or.inl ⟨by rfl, fun wx hx => by simp [go_sem, hx.1]⟩) hS ?_
                  simp only [Act.put, List.getElem_toArray, List.getElem_cons_succ, List.getElem_cons_zero, List.setIfInBounds_toArray, List.set_cons_zero, List.set_cons_succ]
                  refine wpAnyH_take (i := 6) (v := .int .i64 (kk : Int)) rfl (by kernel_rfl) (by kernel_rfl) (by kernel_rfl) (fun _ _ _ h => h) (Or.inl ⟨by rfl, fun wx hx => by simp [go_sem]⟩) hS ?_
                  simp only [Act.put, List.getElem_toArray, List.getElem_cons_succ, List.getElem_cons_zero, List.setIfInBounds_toArray, List.set_cons_zero, List.set_cons_succ]
                  refine wpAnyH_take (i := 7) (v := .int .i64 (i : Int)) rfl (by kernel_rfl) (by kernel_rfl) (by kernel_rfl) (fun _ _ _ h => h) (Or.inl ⟨by rfl, fun wx hx => by simp [go_sem]⟩) hS ?_
                  simp only [Act.put, List.getElem_toArray, List.getElem_cons_succ, List.getElem_cons_zero, List.setIfInBounds_toArray, List.set_cons_zero, List.set_cons_succ]
                  refine wpAnyH_take (i := 8) (v := .pointer (some ⟨g9, kk * 32, none⟩)) rfl (by kernel_rfl) (by kernel_rfl) (by kernel_rfl) (fun _ _ _ h => h) (Or.inl ⟨by rfl, fun wx hx => by simp [go_sem, k0, k1]⟩) hS ?_
                  simp only [Act.put, List.getElem_toArray, List.getElem_cons_succ, List.getElem_cons_zero, List.setIfInBounds_toArray, List.set_cons_zero, List.set_cons_succ]
                  refine wpAnyH_take (i := 9) (v := .pointer (some ⟨g9, kk * 32 + i, none⟩)) rfl (by kernel_rfl) (by kernel_rfl) (by kernel_rfl) (fun _ _ _ h => h) (Or.inl ⟨by rfl, fun wx hx => by simp [go_sem, l0, l1]⟩) hS ?_
                  simp only [Act.put, List.getElem_toArray, List.getElem_cons_succ, List.getElem_cons_zero, List.setIfInBounds_toArray, List.set_cons_zero, List.set_cons_succ]
                  refine wpAnyH_take (i := 11) (v := .int .i64 (i : Int)) rfl (by kernel_rfl) (by kernel_rfl) (by kernel_rfl) (fun _ _ _ h => h) (Or.inl ⟨by rfl, fun wx hx => by simp [go_sem]⟩) hS ?_
                  simp only [Act.put, List.getElem_toArray, List.getElem_cons_succ, List.getElem_cons_zero, List.setIfInBounds_toArray, List.set_cons_zero, List.set_cons_succ]
                  refine wpAnyH_take (i := 12) (v := .pointer (some ⟨gy, i, none⟩)) rfl (by kernel_rfl) (by kernel_rfl) (by kernel_rfl) (fun _ _ _ h => h) (Or.inl ⟨by rfl, fun wx hx => by simp [go_sem, l0, l1]⟩) hS ?_
                  simp only [Act.put, List.getElem_toArray, List.getElem_cons_succ, List.getElem_cons_zero, List.setIfInBounds_toArray, List.set_cons_zero, List.set_cons_succ]
                  refine wpAnyH_take (i := 13) (v := .int .u8 (bi.toNat : Int)) rfl (by kernel_rfl) (by kernel_rfl) (by kernel_rfl) (fun _ _ _ h => h) (Or.inl ⟨by rfl, fun wx hx => by simp [go_sem, hx.2]⟩) hS ?_
                  simp only [Act.put, List.getElem_toArray, List.getElem_cons_succ, List.getElem_cons_zero, List.setIfInBounds_toArray, List.set_cons_zero, List.set_cons_succ]
                  refine wpAnyH_take (i := 15) (v := .pointer (some ⟨g9, kk * 32, none⟩)) rfl (by kernel_rfl) (by kernel_rfl) (by kernel_rfl) (fun _ _ _ h => h) (Or.inl ⟨by rfl, fun wx hx => by simp [go_sem, k0, k1]⟩) hS ?_
                  simp only [Act.put, List.getElem_toArray, List.getElem_cons_succ, List.getElem_cons_zero, List.setIfInBounds_toArray, List.set_cons_zero, List.set_cons_succ]
                  refine wpAnyH_step 10 (.int .u8 (si.toNat : Int)) wr.drew (by kernel_rfl) rfl (by rfl) (by simp [go_sem, hc]) hS ?_
                  simp only [Act.put, List.getElem_toArray, List.getElem_cons_succ, List.getElem_cons_zero, List.setIfInBounds_toArray, List.set_cons_zero, List.set_cons_succ]
                  refine wpAnyH_take (i := 14) (v := .int .u8 ((si ^^^ bi).toNat : Int)) rfl (by kernel_rfl) (by kernel_rfl) (by kernel_rfl) (fun _ _ _ h => h) (Or.inl ⟨by rfl, fun wx hx => by exact binXor _ _ (.tmp 88) (.tmp 91) rfl si bi rfl rfl wx⟩) hS ?_
                  simp only [Act.put, List.getElem_toArray, List.getElem_cons_succ, List.getElem_cons_zero, List.setIfInBounds_toArray, List.set_cons_zero, List.set_cons_succ]
                  refine wpAnyH_take (i := 16) (v := .pointer (some ⟨g9, kk * 32 + i, none⟩)) rfl (by kernel_rfl) (by kernel_rfl) (by kernel_rfl) (fun _ _ _ h => h) (Or.inl ⟨by rfl, fun wx hx => by simp [go_sem, l0, l1]⟩) hS ?_
                  simp only [Act.put, List.getElem_toArray, List.getElem_cons_succ, List.getElem_cons_zero, List.setIfInBounds_toArray, List.set_cons_zero, List.set_cons_succ]
                  have hS2 : (wr.drew.setCell ⟨g9, kk * 32 + i, none⟩ (.int .u8 ((si ^^^ bi).toNat : Int))).cell? ⟨gQ, 0, none⟩ = some (.slice (some ⟨g9, 0, none⟩) n cp2) ∧ (wr.drew.setCell ⟨g9, kk * 32 + i, none⟩ (.int .u8 ((si ^^^ bi).toNat : Int))).cell? ⟨gy, i, none⟩ = some (.int .u8 (bi.toNat : Int)) := ⟨by rw [World.cell?_setCell_far _ _ _ _ (by show g9 ≠ gQ; exact hne2)]; exact hS.1, by rw [World.cell?_setCell_far _ _ _ _ (by show g9 ≠ gy; exact hne1)]; exact hS.2⟩
                  refine wpAnyH_skip 17 (wr.drew.setCell ⟨g9, kk * 32 + i, none⟩ (.int .u8 ((si ^^^ bi).toNat : Int))) (by kernel_rfl) rfl (by rfl) (by simp [go_sem, hc, hf]) hS2 ?_
                  simp only [Act.put, List.getElem_toArray, List.getElem_cons_succ, List.getElem_cons_zero]
                  refine wpAnyH_done (by kernel_rfl) ?_ _
                  clear hS hS2 hc hf hcy
                  generalize wr.drew.setCell ⟨g9, kk * 32 + i, none⟩ (.int .u8 ((si ^^^ bi).toNat : Int)) = wN at *
                  have f5 : IntKind.i64.wrap ((i : Int) + 1) = (i : Int) + 1 := by rw [IntKind.wrap_i64]; omega
                  go_wp2
                  go_roundw
                  case rel => exact ⟨i + 1, by omega, by simp, HT2.out⟩
                  case measure => simp [intOf]; omega
                · by_cases h2 : kk = n
                  · have k3 : ¬ (kk : Int) < (n : Int) := by omega
                    have k4 : ((kk : Int) == (n : Int)) = true := by rw [beq_iff_eq]; omega
                    have HTD : Hid (Tu w gx gy gp gQ base x b (.slice ads n cps) sd en ix va (.slice ad2 n cp2) kk i wr.drew) := HTU.out.drew
                    obtain ⟨bi, HBI⟩ : ∃ z, Hid (z = b.getD i 0) := ⟨_, rfl⟩
                    obtain ⟨si, HSI⟩ : ∃ z, Hid (z = va.getD i 0) := ⟨_, rfl⟩
                    have hst := HTD.out.stepV HIL.out HVL.out hlt (by rw [← HN.out]; exact h2)
                    have hcy := HTD.out.by HBL.out hlt
                    rw [← HBI.out] at hst hcy
                    rw [← HSI.out] at hst
                    obtain ⟨hc, hf, hT2⟩ := hst
                    have HT2 : Hid (Tu w gx gy gp gQ base x b (.slice ads n cps) sd en ix va (.slice ad2 n cp2) kk (i + 1) (wr.drew.setCell ⟨gQ, 34 + i, none⟩ (.int .u8 ((si ^^^ bi).toNat : Int)))) := hT2
                    have hgy : gy ≠ gQ := by have := HTD.out.lq; omega
                    go_upto_region 18 with fail
                    clear hT2 HTU
                    refine wp_region_held_drew (S := fun wx => wx.cell? ⟨gy, i, none⟩ = some (.int .u8 (bi.toNat : Int))) (by kernel_rfl) hcy ?_
                    intro hS
                    refine wpAnyH_take (i := 0) (v := .int .i64 (i : Int)) rfl (by kernel_rfl) (by kernel_rfl) (by kernel_rfl) (fun _ _ _ h => h) (Or.inl ⟨by rfl, fun wx hx => by simp [go_sem]⟩) hS ?_
                    simp only [Act.put, List.getElem_toArray, List.getElem_cons_zero, List.setIfInBounds_toArray, List.set_cons_zero, List.set_cons_succ]
                    refine wpAnyH_take (i := 1) (v := .int .i64 (i : Int)) rfl (by kernel_rfl) (by kernel_rfl) (by kernel_rfl) (fun _ _ _ h => h) (Or.inl ⟨by rfl, fun wx hx => by simp [go_sem]⟩) hS ?_
                    simp only [Act.put, List.getElem_toArray, List.getElem_cons_succ, List.getElem_cons_zero, List.setIfInBounds_toArray, List.set_cons_zero, List.set_cons_succ]
                    refine wpAnyH_take (i := 2) (v := .pointer (some ⟨gQ, 34, none⟩)) rfl (by kernel_rfl) (by kernel_rfl) (by kernel_rfl) (fun _ _ _ h => h) (Or.inl ⟨by rfl, fun wx hx => by simp [go_sem]⟩) hS ?_
                    simp only [Act.put, List.getElem_toArray, List.getElem_cons_succ, List.getElem_cons_zero, List.setIfInBounds_toArray, List.set_cons_zero, List.set_cons_succ]
                    refine wpAnyH_take (i := 3) (v := .pointer (some ⟨gQ, 34 + i, none⟩)) rfl (by kernel_rfl) (by kernel_rfl) (by kernel_rfl) (fun _ _ _ h => h) (Or.inl ⟨by rfl, fun wx hx => by simp [go_sem, l0, l1]⟩) hS ?_
                    simp only [Act.put, List.getElem_toArray, List.getElem_cons_succ, List.getElem_cons_zero, List.setIfInBounds_toArray, List.set_cons_zero, List.set_cons_succ]
                    refine wpAnyH_take (i := 5) (v := .int .i64 (i : Int)) rfl (by kernel_rfl) (by kernel_rfl) (by kernel_rfl) (fun _ _ _ h => h) (Or.inl ⟨by rfl, fun wx hx => by simp [go_sem]⟩) hS ?_
                    simp only [Act.put, List.getElem_toArray, List.getElem_cons_succ, List.getElem_cons_zero, List.setIfInBounds_toArray, List.set_cons_zero, List.set_cons_succ]
                    refine wpAnyH_take (i := 6) (v := .pointer (some ⟨gy, i, none⟩)) rfl (by kernel_rfl) (by kernel_rfl) (by kernel_rfl) (fun _ _ _ h => h) (Or.inl ⟨by rfl, fun wx hx => by simp [go_sem, l0, l1]⟩) hS ?_
                    simp only [Act.put, List.getElem_toArray, List.getElem_cons_succ, List.getElem_cons_zero, List.setIfInBounds_toArray, List.set_cons_zero, List.set_cons_succ]
                    refine wpAnyH_take (i := 7) (v := .int .u8 (bi.toNat : Int)) rfl (by kernel_rfl) (by kernel_rfl) (by kernel_rfl) (fun _ _ _ h => h) (Or.inl ⟨by rfl, fun wx hx => by simp [go_sem, hx]⟩) hS ?_
                    simp only [Act.put, List.getElem_toArray, List.getElem_cons_succ, List.getElem_cons_zero, List.setIfInBounds_toArray, List.set_cons_zero, List.set_cons_succ]
                    refine wpAnyH_take (i := 9) (v := .pointer (some ⟨gQ, 34, none⟩)) rfl (by kernel_rfl) (by kernel_rfl) (by kernel_rfl) (fun _ _ _ h => h) (Or.inl ⟨by rfl, fun wx hx => by simp [go_sem]⟩) hS ?_
                    simp only [Act.put, List.getElem_toArray, List.getElem_cons_succ, List.getElem_cons_zero, List.setIfInBounds_toArray, List.set_cons_zero, List.set_cons_succ]
                    refine wpAnyH_step 4 (.int .u8 (si.toNat : Int)) wr.drew (by kernel_rfl) rfl (by rfl) (by simp [go_sem, hc]) hS ?_
                    simp only [Act.put, List.getElem_toArray, List.getElem_cons_succ, List.getElem_cons_zero, List.setIfInBounds_toArray, List.set_cons_zero, List.set_cons_succ]
                    refine wpAnyH_take (i := 8) (v := .int .u8 ((si ^^^ bi).toNat : Int)) rfl (by kernel_rfl) (by kernel_rfl) (by kernel_rfl) (fun _ _ _ h => h) (Or.inl ⟨by rfl, fun wx hx => by exact binXor _ _ (.tmp 103) (.tmp 106) rfl si bi rfl rfl wx⟩) hS ?_
                    simp only [Act.put, List.getElem_toArray, List.getElem_cons_succ, List.getElem_cons_zero, List.setIfInBounds_toArray, List.set_cons_zero, List.set_cons_succ]
                    refine wpAnyH_take (i := 10) (v := .pointer (some ⟨gQ, 34 + i, none⟩)) rfl (by kernel_rfl) (by kernel_rfl) (by kernel_rfl) (fun _ _ _ h => h) (Or.inl ⟨by rfl, fun wx hx => by simp [go_sem, l0, l1]⟩) hS ?_
                    simp only [Act.put, List.getElem_toArray, List.getElem_cons_succ, List.getElem_cons_zero, List.setIfInBounds_toArray, List.set_cons_zero, List.set_cons_succ]
                    have hS2 : (wr.drew.setCell ⟨gQ, 34 + i, none⟩ (.int .u8 ((si ^^^ bi).toNat : Int))).cell? ⟨gy, i, none⟩ = some (.int .u8 (bi.toNat : Int)) := by rw [World.cell?_setCell_far _ _ _ _ (by show gQ ≠ gy; exact hgy.symm)]; exact hS
                    refine wpAnyH_skip 11 (wr.drew.setCell ⟨gQ, 34 + i, none⟩ (.int .u8 ((si ^^^ bi).toNat : Int))) (by kernel_rfl) rfl (by rfl) (by simp [go_sem, hc, hf]) hS2 ?_
                    simp only [Act.put, List.getElem_toArray, List.getElem_cons_succ, List.getElem_cons_zero]
                    refine wpAnyH_done (by kernel_rfl) ?_ _
                    clear hS hS2 hc hf hcy
                    generalize wr.drew.setCell ⟨gQ, 34 + i, none⟩ (.int .u8 ((si ^^^ bi).toNat : Int)) = wN at *
                    have f5 : IntKind.i64.wrap ((i : Int) + 1) = (i : Int) + 1 := by rw [IntKind.wrap_i64]; omega
                    go_wp2
                    go_roundw
                    case rel => exact ⟨i + 1, by omega, by simp, HT2.out⟩
                    case measure => simp [intOf]; omega
                  · have k3 : ¬ (kk : Int) < (n : Int) := by omega
                    have k4 : ((kk : Int) == (n : Int)) = false := by rw [beq_eq_false_iff_ne]; omega
                    have HTD : Hid (Tu w gx gy gp gQ base x b (.slice ads n cps) sd en ix va (.slice ad2 n cp2) kk i wr.drew) := HTU.out.drew
                    obtain ⟨bi, HBI⟩ : ∃ z, Hid (z = b.getD i 0) := ⟨_, rfl⟩
                    obtain ⟨si, HSI⟩ : ∃ z, Hid (z = ix.getD i 0) := ⟨_, rfl⟩
                    have hst := HTD.out.stepI HIL.out hlt (by rw [← HN.out]; omega)
                    have hcy := HTD.out.by HBL.out hlt
                    rw [← HBI.out] at hst hcy
                    rw [← HSI.out] at hst
                    obtain ⟨hc, hf, hT2⟩ := hst
                    have HT2 : Hid (Tu w gx gy gp gQ base x b (.slice ads n cps) sd en ix va (.slice ad2 n cp2) kk (i + 1) (wr.drew.setCell ⟨gQ, 2 + i, none⟩ (.int .u8 ((si ^^^ bi).toNat : Int)))) := hT2
                    have hgy : gy ≠ gQ := by have := HTD.out.lq; omega
                    go_upto_region 14 with fail
                    clear hT2 HTU
                    refine wp_region_held_drew (S := fun wx => wx.cell? ⟨gy, i, none⟩ = some (.int .u8 (bi.toNat : Int))) (by kernel_rfl) hcy ?_
                    intro hS
                    refine wpAnyH_take (i := 0) (v := .int .i64 (i : Int)) rfl (by kernel_rfl) (by kernel_rfl) (by kernel_rfl) (fun _ _ _ h => h) (Or.inl ⟨by rfl, fun wx hx => by simp [go_sem]⟩) hS ?_
                    simp only [Act.put, List.getElem_toArray, List.getElem_cons_zero, List.setIfInBounds_toArray, List.set_cons_zero, List.set_cons_succ]
                    refine wpAnyH_take (i := 1) (v := .int .i64 (i : Int)) rfl (by kernel_rfl) (by kernel_rfl) (by kernel_rfl) (fun _ _ _ h => h) (Or.inl ⟨by rfl, fun wx hx => by simp [go_sem]⟩) hS ?_
                    simp only [Act.put, List.getElem_toArray, List.getElem_cons_succ, List.getElem_cons_zero, List.setIfInBounds_toArray, List.set_cons_zero, List.set_cons_succ]
                    refine wpAnyH_take (i := 2) (v := .pointer (some ⟨gQ, 2, none⟩)) rfl (by kernel_rfl) (by kernel_rfl) (by kernel_rfl) (fun _ _ _ h => h) (Or.inl ⟨by rfl, fun wx hx => by simp [go_sem]⟩) hS ?_
                    simp only [Act.put, List.getElem_toArray, List.getElem_cons_succ, List.getElem_cons_zero, List.setIfInBounds_toArray, List.set_cons_zero, List.set_cons_succ]
                    refine wpAnyH_take (i := 3) (v := .pointer (some ⟨gQ, 2 + i, none⟩)) rfl (by kernel_rfl) (by kernel_rfl) (by kernel_rfl) (fun _ _ _ h => h) (Or.inl ⟨by rfl, fun wx hx => by simp [go_sem, l0, l1]⟩) hS ?_
                    simp only [Act.put, List.getElem_toArray, List.getElem_cons_succ, List.getElem_cons_zero, List.setIfInBounds_toArray, List.set_cons_zero, List.set_cons_succ]
                    refine wpAnyH_take (i := 5) (v := .int .i64 (i : Int)) rfl (by kernel_rfl) (by kernel_rfl) (by kernel_rfl) (fun _ _ _ h => h) (Or.inl ⟨by rfl, fun wx hx => by simp [go_sem]⟩) hS ?_
                    simp only [Act.put, List.getElem_toArray, List.getElem_cons_succ, List.getElem_cons_zero, List.setIfInBounds_toArray, List.set_cons_zero, List.set_cons_succ]
                    refine wpAnyH_take (i := 6) (v := .pointer (some ⟨gy, i, none⟩)) rfl (by kernel_rfl) (by kernel_rfl) (by kernel_rfl) (fun _ _ _ h => h) (Or.inl ⟨by rfl, fun wx hx => by simp [go_sem, l0, l1]⟩) hS ?_
                    simp only [Act.put, List.getElem_toArray, List.getElem_cons_succ, List.getElem_cons_zero, List.setIfInBounds_toArray, List.set_cons_zero, List.set_cons_succ]
                    refine wpAnyH_take (i := 7) (v := .int .u8 (bi.toNat : Int)) rfl (by kernel_rfl) (by kernel_rfl) (by kernel_rfl) (fun _ _ _ h => h) (Or.inl ⟨by rfl, fun wx hx => by simp [go_sem, hx]⟩) hS ?_
                    simp only [Act.put, List.getElem_toArray, List.getElem_cons_succ, List.getElem_cons_zero, List.setIfInBounds_toArray, List.set_cons_zero, List.set_cons_succ]
                    refine wpAnyH_take (i := 9) (v := .pointer (some ⟨gQ, 2, none⟩)) rfl (by kernel_rfl) (by kernel_rfl) (by kernel_rfl) (fun _ _ _ h => h) (Or.inl ⟨by rfl, fun wx hx => by simp [go_sem]⟩) hS ?_
                    simp only [Act.put, List.getElem_toArray, List.getElem_cons_succ, List.getElem_cons_zero, List.setIfInBounds_toArray, List.set_cons_zero, List.set_cons_succ]
                    refine wpAnyH_step 4 (.int .u8 (si.toNat : Int)) wr.drew (by kernel_rfl) rfl (by rfl) (by simp [go_sem, hc]) hS ?_
                    simp only [Act.put, List.getElem_toArray, List.getElem_cons_succ, List.getElem_cons_zero, List.setIfInBounds_toArray, List.set_cons_zero, List.set_cons_succ]
                    refine wpAnyH_take (i := 8) (v := .int .u8 ((si ^^^ bi).toNat : Int)) rfl (by kernel_rfl) (by kernel_rfl) (by kernel_rfl) (fun _ _ _ h => h) (Or.inl ⟨by rfl, fun wx hx => by exact binXor _ _ (.tmp 67) (.tmp 70) rfl si bi rfl rfl wx⟩) hS ?_
                    simp only [Act.put, List.getElem_toArray, List.getElem_cons_succ, List.getElem_cons_zero, List.setIfInBounds_toArray, List.set_cons_zero, List.set_cons_succ]
                    refine wpAnyH_take (i := 10) (v := .pointer (some ⟨gQ, 2 + i, none⟩)) rfl (by kernel_rfl) (by kernel_rfl) (by kernel_rfl) (fun _ _ _ h => h) (Or.inl ⟨by rfl, fun wx hx => by simp [go_sem, l0, l1]⟩) hS ?_
                    simp only [Act.put, List.getElem_toArray, List.getElem_cons_succ, List.getElem_cons_zero, List.setIfInBounds_toArray, List.set_cons_zero, List.set_cons_succ]
                    have hS2 : (wr.drew.setCell ⟨gQ, 2 + i, none⟩ (.int .u8 ((si ^^^ bi).toNat : Int))).cell? ⟨gy, i, none⟩ = some (.int .u8 (bi.toNat : Int)) := by rw [World.cell?_setCell_far _ _ _ _ (by show gQ ≠ gy; exact hgy.symm)]; exact hS
                    refine wpAnyH_skip 11 (wr.drew.setCell ⟨gQ, 2 + i, none⟩ (.int .u8 ((si ^^^ bi).toNat : Int))) (by kernel_rfl) rfl (by rfl) (by simp [go_sem, hc, hf]) hS2 ?_
                    simp only [Act.put, List.getElem_toArray, List.getElem_cons_succ, List.getElem_cons_zero]
                    refine wpAnyH_done (by kernel_rfl) ?_ _
                    clear hS hS2 hc hf hcy
                    generalize wr.drew.setCell ⟨gQ, 2 + i, none⟩ (.int .u8 ((si ^^^ bi).toNat : Int)) = wN at *
                    have f5 : IntKind.i64.wrap ((i : Int) + 1) = (i : Int) + 1 := by rw [IntKind.wrap_i64]; omega
                    go_wp2
                    go_roundw
                    case rel => exact ⟨i + 1, by omega, by simp, HT2.out⟩
                    case measure => simp [intOf]; omega
              · obtain rfl : i = 32 := by omega
                have l1 : ¬ (((32 : Nat) : Int) < 32) := by omega
                obtain ⟨ix2, HIX⟩ : ∃ z, Hid (z = (ixq kk sd.length 32 ix b)) := ⟨_, rfl⟩
                obtain ⟨va2, HVA⟩ : ∃ z, Hid (z = (vaq kk sd.length 32 va b)) := ⟨_, rfl⟩
                obtain ⟨sd2, HSD⟩ : ∃ z, Hid (z = (sdq kk 32 sd b)) := ⟨_, rfl⟩
                have HI2 : Hid (ix2.length = 32) := by show _ = _; rw [HIX.out, ixq_len]; exact HIL.out
                have HV2 : Hid (va2.length = 32) := by show _ = _; rw [HVA.out, vaq_len]; exact HVL.out
                have HS2 : Hid (sd2.length ≤ 300) := by show _ ≤ _; rw [HSD.out, sdq_len]; exact HFEW.out
                have HQE : Hid (∀ W, Tu w gx gy gp gQ base x b (.slice ads n cps) sd en ix va (.slice ad2 n cp2) kk 32 W → Blk W gQ (prfV (.slice ad2 n cp2) en ix2 va2) 26) := fun W h => by rw [HIX.out, HVA.out]; exact h.qb
                have HQR : Hid (∀ W, Tu w gx gy gp gQ base x b (.slice ads n cps) sd en ix va (.slice ad2 n cp2) kk 32 W → ReadsD W (.slice ad2 n cp2) sd2) := fun W h => by rw [HSD.out]; exact h.qo.readsD
                have HTT : Hid (topL x (endB en ix va) 0 sd = topL x (endB en ix2 va2) 0 sd2 → twoL (hashL x (endB en ix va) 0 sd) (hashL x (endB en ix2 va2) 0 sd2)) := by
                  rw [HIX.out, HVA.out, HSD.out]
                  exact turned_two HBL.out HBN.out HIL.out HVL.out H32.out (Or.inl (by rw [← HN.out]; exact HKN.out))
                obtain ⟨r1, HR1⟩ : ∃ z, Hid (z = topL x (endB en ix va) 0 sd) := ⟨_, rfl⟩
                obtain ⟨r2, HR2⟩ : ∃ z, Hid (z = topL x (endB en ix2 va2) 0 sd2) := ⟨_, rfl⟩
                rw [← HR1.out, ← HR2.out] at HTT
                have HCA : Hid (∀ W, Tu w gx gy gp gQ base x b (.slice ads n cps) sd en ix va (.slice ad2 n cp2) kk 32 W → Calls Tryd.prog 13 #[.agg (cb x).toArray, .agg (prfV (.slice ads n cps) en ix va).toArray] W fun e w' => e = .returned (.agg (cb r1).toArray) ∧ Below W.heap.size W w') := fun W h => by rw [HR1.out]; exact HP.out.root W x _ sd en ix va h.kok HXL.out HIL.out HVL.out h.rd HFEW.out
                have HCB : Hid (∀ W, Tu w gx gy gp gQ base x b (.slice ads n cps) sd en ix va (.slice ad2 n cp2) kk 32 W → Calls Tryd.prog 13 #[.agg (cb x).toArray, .agg (prfV (.slice ad2 n cp2) en ix2 va2).toArray] W fun e w' => e = .returned (.agg (cb r2).toArray) ∧ Below W.heap.size W w') := fun W h => by rw [HR2.out]; exact HP.out.root W x _ sd2 en ix2 va2 h.kok HXL.out HI2.out HV2.out (HQR.out W h) HS2.out
                have hey : ∀ wx : World, (Op.equalIn 10000 23 (.agg (cb r1).toArray) (.agg (cb r2).toArray)).run Tryd.prog wx = .ok (decide (r1 = r2)) wx := fun wx => eq_dig r1 r2 (by rw [HR1.out]; exact topL_len _ _ _ _) (by rw [HR2.out]; exact topL_len _ _ _ _) wx
                clear HIX HVA HSD
                go_upto_region 19 with fail
                refine wp_region_held_drew (S := Tu w gx gy gp gQ base x b (.slice ads n cps) sd en ix va (.slice ad2 n cp2) kk 32) (by kernel_rfl) HTU.out.drew ?_
                intro hS
                clear HTU
                change wpAnyH _ _ _ _ _ _ _ _ (World.drew wr)
                generalize World.drew wr = y0 at *
                refine wpAnyH_take (i := 0) (v := .agg (cb x).toArray) rfl (by kernel_rfl) (by kernel_rfl) (by kernel_rfl) (fun _ _ _ h => h) (Or.inl ⟨by rfl, fun wx hx => by exact loadDigest _ gx x HXL.out hx.xb rfl rfl⟩) hS ?_
                simp only [Act.put, List.getElem_toArray, List.getElem_cons_zero, List.setIfInBounds_toArray, List.set_cons_zero, List.set_cons_succ]
                refine wpAnyH_take (i := 1) (v := .agg (prfV (.slice ads n cps) en ix va).toArray) rfl (by kernel_rfl) (by kernel_rfl) (by kernel_rfl) (fun _ _ _ h => h) (Or.inl ⟨by rfl, fun wx hx => by exact load_run 26 _ rfl gp 0 rfl (prfV (.slice ads n cps) en ix va) _ hx.pb.range Tryd.underlying26 rfl (by rw [prfV_len HIL.out HVL.out]; exact info_proof)⟩) hS ?_
                simp only [Act.put, List.getElem_toArray, List.getElem_cons_succ, List.getElem_cons_zero, List.setIfInBounds_toArray, List.set_cons_zero, List.set_cons_succ]
                refine wpAnyH_take (i := 3) (v := .agg (cb x).toArray) rfl (by kernel_rfl) (by kernel_rfl) (by kernel_rfl) (fun _ _ _ h => h) (Or.inl ⟨by rfl, fun wx hx => by exact loadDigest _ gx x HXL.out hx.xb rfl rfl⟩) hS ?_
                simp only [Act.put, List.getElem_toArray, List.getElem_cons_succ, List.getElem_cons_zero, List.setIfInBounds_toArray, List.set_cons_zero, List.set_cons_succ]
                refine wpAnyH_take (i := 4) (v := .agg (prfV (.slice ad2 n cp2) en ix2 va2).toArray) rfl (by kernel_rfl) (by kernel_rfl) (by kernel_rfl) (fun _ _ _ h => h) (Or.inl ⟨by rfl, fun wx hx => by exact load_run 26 _ rfl gQ 0 rfl (prfV (.slice ad2 n cp2) en ix2 va2) _ (HQE.out _ hx).range Tryd.underlying26 rfl (by rw [prfV_len HI2.out HV2.out]; exact info_proof)⟩) hS ?_
                simp only [Act.put, List.getElem_toArray, List.getElem_cons_succ, List.getElem_cons_zero, List.setIfInBounds_toArray, List.set_cons_zero, List.set_cons_succ]
                refine wpAnyH_enter 2 (by kernel_rfl) rfl (by rfl) (f := 13) (args := #[.agg (cb x).toArray, .agg (prfV (.slice ads n cps) en ix va).toArray]) (by simp [go_sem]) (HCA.out _ hS) ?_
                rintro e y1 ⟨rfl, hbq⟩
                replace hS := hS.next hbq
                refine ⟨_, rfl, hS, ?_⟩
                clear hbq
                simp only [Act.put, List.getElem_toArray, List.getElem_cons_succ, List.getElem_cons_zero, List.setIfInBounds_toArray, List.set_cons_zero, List.set_cons_succ]
                refine wpAnyH_enter 5 (by kernel_rfl) rfl (by rfl) (f := 13) (args := #[.agg (cb x).toArray, .agg (prfV (.slice ad2 n cp2) en ix2 va2).toArray]) (by simp [go_sem]) (HCB.out _ hS) ?_
                rintro e y2 ⟨rfl, hbq⟩
                replace hS := hS.next hbq
                refine ⟨_, rfl, hS, ?_⟩
                clear hbq
                simp only [Act.put, List.getElem_toArray, List.getElem_cons_succ, List.getElem_cons_zero, List.setIfInBounds_toArray, List.set_cons_zero, List.set_cons_succ]
                refine wpAnyH_take (i := 6) (v := .bool (!decide (r1 = r2))) rfl (by kernel_rfl) (by kernel_rfl) (by kernel_rfl) (fun _ _ _ h => h) (Or.inl ⟨by rfl, fun wx hx => by (have hq := hey wx; simp [go_sem, hq])⟩) hS ?_
                simp only [Act.put, List.getElem_toArray, List.getElem_cons_succ, List.getElem_cons_zero, List.setIfInBounds_toArray, List.set_cons_zero, List.set_cons_succ]
                refine wpAnyH_done (by kernel_rfl) ?_ _
                have HTU : Hid (Tu w gx gy gp gQ base x b (.slice ads n cps) sd en ix va (.slice ad2 n cp2) kk 32 y2) := hS
                clear hS hey HCA HCB
                by_cases hrr : r1 = r2
                · rw [decide_eq_true hrr, Bool.not_true]
                  have HTWO : Hid (twoL (hashL x (endB en ix va) 0 sd) (hashL x (endB en ix2 va2) 0 sd2)) := HTT.out hrr
                  clear hrr HTT HR1 HR2
                  go_upto_region 21 with fail
                  refine wp_region_held_drew (S := Tu w gx gy gp gQ base x b (.slice ads n cps) sd en ix va (.slice ad2 n cp2) kk 32) (by kernel_rfl) HTU.out.drew ?_
                  intro hS
                  clear HTU
                  change wpAnyH _ _ _ _ _ _ _ _ (World.drew y2)
                  generalize World.drew y2 = z0 at *
                  refine wpAnyH_take (i := 0) (v := .agg (cb x).toArray) rfl (by kernel_rfl) (by kernel_rfl) (by kernel_rfl) (fun _ _ _ h => h) (Or.inl ⟨by rfl, fun wx hx => by exact loadDigest _ gx x HXL.out hx.xb rfl rfl⟩) hS ?_
                  simp only [Act.put, List.getElem_toArray, List.getElem_cons_zero, List.setIfInBounds_toArray, List.set_cons_zero, List.set_cons_succ]
                  refine wpAnyH_take (i := 1) (v := .agg (prfV (.slice ads n cps) en ix va).toArray) rfl (by kernel_rfl) (by kernel_rfl) (by kernel_rfl) (fun _ _ _ h => h) (Or.inl ⟨by rfl, fun wx hx => by exact load_run 26 _ rfl gp 0 rfl (prfV (.slice ads n cps) en ix va) _ hx.pb.range Tryd.underlying26 rfl (by rw [prfV_len HIL.out HVL.out]; exact info_proof)⟩) hS ?_
                  simp only [Act.put, List.getElem_toArray, List.getElem_cons_succ, List.getElem_cons_zero, List.setIfInBounds_toArray, List.set_cons_zero, List.set_cons_succ]
                  refine wpAnyH_take (i := 3) (v := .agg (cb x).toArray) rfl (by kernel_rfl) (by kernel_rfl) (by kernel_rfl) (fun _ _ _ h => h) (Or.inl ⟨by rfl, fun wx hx => by exact loadDigest _ gx x HXL.out hx.xb rfl rfl⟩) hS ?_
                  simp only [Act.put, List.getElem_toArray, List.getElem_cons_succ, List.getElem_cons_zero, List.setIfInBounds_toArray, List.set_cons_zero, List.set_cons_succ]
                  refine wpAnyH_take (i := 4) (v := .agg (prfV (.slice ad2 n cp2) en ix2 va2).toArray) rfl (by kernel_rfl) (by kernel_rfl) (by kernel_rfl) (fun _ _ _ h => h) (Or.inl ⟨by rfl, fun wx hx => by exact load_run 26 _ rfl gQ 0 rfl (prfV (.slice ad2 n cp2) en ix2 va2) _ (HQE.out _ hx).range Tryd.underlying26 rfl (by rw [prfV_len HI2.out HV2.out]; exact info_proof)⟩) hS ?_
                  simp only [Act.put, List.getElem_toArray, List.getElem_cons_succ, List.getElem_cons_zero, List.setIfInBounds_toArray, List.set_cons_zero, List.set_cons_succ]
                  refine wpAnyH_enter 2 (by kernel_rfl) rfl (by rfl) (f := 10) (args := #[.agg (cb x).toArray, .agg (prfV (.slice ads n cps) en ix va).toArray]) (by simp [go_sem]) (HP.out.hashed _ x (.slice ads n cps) sd en ix va hS.kok HXL.out HIL.out HVL.out hS.rd HFEW.out) ?_
                  rintro e z1 ⟨u1, rfl, hu1, hb⟩
                  replace hS := hS.next hb
                  refine ⟨_, rfl, hS, ?_⟩
                  clear hb
                  simp only [Act.put, List.getElem_toArray, List.getElem_cons_succ, List.getElem_cons_zero, List.setIfInBounds_toArray, List.set_cons_zero, List.set_cons_succ]
                  refine wpAnyH_enter 5 (by kernel_rfl) rfl (by rfl) (f := 10) (args := #[.agg (cb x).toArray, .agg (prfV (.slice ad2 n cp2) en ix2 va2).toArray]) (by simp [go_sem]) (HP.out.hashed _ x (.slice ad2 n cp2) sd2 en ix2 va2 hS.kok HXL.out HI2.out HV2.out (HQR.out _ hS) HS2.out) ?_
                  rintro e z2 ⟨u2, rfl, hu2, hb⟩
                  replace hS := hS.next hb
                  replace hu1 := hu1.below hb
                  refine ⟨_, rfl, hS, ?_⟩
                  clear hb
                  simp only [Act.put, List.getElem_toArray, List.getElem_cons_succ, List.getElem_cons_zero, List.setIfInBounds_toArray, List.set_cons_zero, List.set_cons_succ]
                  have hle1 : ∀ t ∈ hashL x (endB en ix va) 0 sd, t.length ≤ 65 := hashL_le x _ (endB_le HIL.out HVL.out) _ _ H32.out
                  have hle2 : ∀ t ∈ hashL x (endB en ix2 va2) 0 sd2, t.length ≤ 65 := hashL_le x _ (endB_le HI2.out HV2.out) _ _ (HQR.out _ hS).2
                  refine wpAnyH_enter 6 (by kernel_rfl) rfl (by rfl) (f := 22) (args := #[u1, u2]) (by simp [go_sem]) (pftwo_any u1 u2 _ _ _ hu1 hu2 (by rw [hashL_len]; have := HFEW.out; omega) (by rw [hashL_len]; have := HS2.out; omega) hle1 hle2) ?_
                  rintro e z3 ⟨o3, rfl, ho3, hb⟩
                  obtain rfl : o3 = true := ho3.2 HTWO.out
                  replace hS := hS.next hb
                  refine ⟨_, rfl, hS, ?_⟩
                  clear hb hu1 hu2 hle1 hle2 ho3
                  simp only [Act.put, List.getElem_toArray, List.getElem_cons_succ, List.getElem_cons_zero, List.setIfInBounds_toArray, List.set_cons_zero, List.set_cons_succ]
                  refine wpAnyH_take (i := 7) (v := .bool true) rfl (by kernel_rfl) (by kernel_rfl) (by kernel_rfl) (fun _ _ _ h => h) (Or.inl ⟨by rfl, fun wx hx => by simp [go_sem]⟩) hS ?_
                  simp only [Act.put, List.getElem_toArray, List.getElem_cons_succ, List.getElem_cons_zero, List.setIfInBounds_toArray, List.set_cons_zero, List.set_cons_succ]
                  refine wpAnyH_enter 8 (by kernel_rfl) rfl (by rfl) (f := 9) (args := #[]) (by simp [go_sem]) (pfworks_any HP.out _ hS.kok) ?_
                  rintro e z4 ⟨rfl, hb⟩
                  replace hS := hS.next hb
                  refine ⟨_, rfl, hS, ?_⟩
                  clear hb
                  simp only [Act.put, List.getElem_toArray, List.getElem_cons_succ, List.getElem_cons_zero, List.setIfInBounds_toArray, List.set_cons_zero, List.set_cons_succ]
                  refine wpAnyH_take (i := 9) (v := .bool true) rfl (by kernel_rfl) (by kernel_rfl) (by kernel_rfl) (fun _ _ _ h => h) (Or.inl ⟨by rfl, fun wx hx => by simp [go_sem]⟩) hS ?_
                  simp only [Act.put, List.getElem_toArray, List.getElem_cons_succ, List.getElem_cons_zero, List.setIfInBounds_toArray, List.set_cons_zero, List.set_cons_succ]
                  refine wpAnyH_take (i := 10) (v := .bool true) rfl (by kernel_rfl) (by kernel_rfl) (by kernel_rfl) (fun _ _ _ h => h) (Or.inl ⟨by rfl, fun wx hx => by simp [go_sem]⟩) hS ?_
                  simp only [Act.put, List.getElem_toArray, List.getElem_cons_succ, List.getElem_cons_zero, List.setIfInBounds_toArray, List.set_cons_zero, List.set_cons_succ]
                  refine wpAnyH_done (by kernel_rfl) ?_ _
                  have HBW : Hid (Below w.heap.size w z4) := hS.bel
                  clear hS HTWO
                  go_wp2
                  go_ret
                  exact ⟨rfl, HBW.out⟩
                · rw [decide_eq_false hrr, Bool.not_false]
                  clear HTT
                  go_wp2_with (first
                    | (go_at_call 9; refine (pfworks_any HP.out _ HTU.out.kok).mono ?_; rintro e wz ⟨rfl, hbz⟩
                       replace HTU : Hid (Tu w gx gy gp gQ base x b (.slice ads n cps) sd en ix va (.slice ad2 n cp2) kk 32 wz) := HTU.out.next hbz
                       clear hbz))
                  go_ret
                  exact ⟨rfl, HTU.out.bel⟩
end Go.Proofs.YtmmhdchhajmbfaaDoor
/- What the listed variable gives: the rounds' words lie where the walks look for them. -/
namespace Go.Proofs.YtmmhdchhajmbfaaDoor
open Go.ChangeShapes Go.WideShapes Go.ChangeAt Go.WideMaps Go.WideElems Go.RowKit
set_option maxRecDepth 100000
theorem own : ownKnob Tryd.prog.godebug = none := by kernel_rfl
theorem gKw : Tryd.prog.globalNamed "blazon/sha.roundWords" = some 0 := by kernel_rfl
theorem tKw : (Tryd.prog.globals[0]?).map (·.type) = some 84 := by kernel_rfl
def laidK : List (String × DataW Unit) := [("blazon/sha.roundWords", Rows.laid_blazon_sha_roundWords)]
def kzs : List Int := kw.map fun x => (x.toNat : Int)
theorem laid_tab : (Rows.laid_blazon_sha_roundWords : DataW Unit) = Lib.tabData .u32 kzs := by kernel_rfl
theorem door_met (os : Os) (args : Array Value) : laidMetH Tryd.prog laidK ((World.doorLaid Tryd.prog 400 os).forCall (fun _ _ => 0) ⟨#[], args, []⟩).memory :=
  laidMetH_of_parts3 (fuel := 8) (laidMet_of_run' 8 (by kernel_rfl) (by kernel_rfl)) (by kernel_rfl) (by kernel_rfl)
theorem getD_toNat (l : List (BitVec 32)) (j : Nat) : (l.map fun x => (x.toNat : Int)).getD j 0 = ((l.getD j 0).toNat : Int) := by
  rw [List.getD_eq_getElem?_getD, List.getD_eq_getElem?_getD, List.getElem?_map]
  cases l[j]? <;> rfl
theorem kok_of_laid {W : World} (h : laidMetH Tryd.prog laidK W) : KOk W := by
  rw [MakeChecks.laidMetH_plain _ _ _ (by kernel_rfl)] at h
  unfold laidK at h
  rw [laid_tab] at h
  have hT := Lib.tabIs_of_head gKw tKw Tryd.underlying84 Tryd.underlying76 (by kernel_rfl) (by kernel_rfl) h
  intro j hj
  rw [hT.cell gKw j (by simpa [kzs, kw] using hj), kzs, getD_toNat]
end Go.Proofs.YtmmhdchhajmbfaaDoor
/- What a slice of bytes that came in gives: the bytes that it reads as; and that it reads so still behind a call that changed no old block. -/
namespace Go.Proofs.YtmmhdchhajmbfaaDoor
open Go.ChangeShapes Go.WideShapes Go.ChangeAt Go.WideMaps Go.WideElems Go.RowKit
set_option maxRecDepth 100000
theorem cells_byte : Tryd.prog.cellsOf 5 = 1 := by kernel_rfl
theorem laid_out : laidOutB Tryd.prog = true := by kernel_rfl
theorem readable_bytes : Tryd.prog.readableRec 51 = true := by kernel_rfl
theorem row_bytes : 51 < Tryd.prog.types.size := of_decide_eq_true (by kernel_rfl)
theorem byte_range {zs : List Int} (h : ∀ n ∈ zs, (Lit.int .u8 n).wf = true) (j : Nat) : 0 ≤ zs.getD j 0 ∧ zs.getD j 0 < 256 := by
  rw [List.getD_eq_getElem?_getD]
  cases hj : zs[j]? with
  | none => simp
  | some n =>
    have := h n (List.mem_of_getElem? hj)
    have := bounds_u8 this
    simp
    omega
theorem reads_of_trod {H : Type} {enc : TypeId × Value → H} {W : World} {base : Nat} {v : Value} {d : DataW H} {p : List MemPlace} (hval : Value.okWide Tryd.prog W .any base 51 v)
    (h : DataW.Trod enc Tryd.prog W 0 (fun _ => true) true 51 v d p) :
    ∃ bs, Reads W v bs ∧ bs.length ≤ maxLen ∧ ∀ x ∈ p, x.block < W.heap.size := by
  obtain ⟨a1, len, cap, rfl⟩ := okWide_slice Tryd.underlying51 hval
  obtain ⟨fuel, hf⟩ := h
  rcases open_ints Tryd.underlying51 Tryd.underlying5 cells_byte hf with ⟨hcs, hx⟩ | ⟨a, len', cap', zs, hcs, _, hl, hm, hz, hx, hcell, hwz⟩
  · simp [Value.cells] at hcs
    obtain ⟨rfl, rfl, rfl⟩ := hcs
    simp only [Prod.mk.injEq] at hx
    obtain ⟨rfl, rfl⟩ := hx
    exact ⟨[], ⟨none, 0, rfl, Nat.le_refl _, fun _ => rfl, fun h => by cases h⟩, Nat.zero_le _, fun _ h => by cases h⟩
  · simp [Value.cells] at hcs
    obtain ⟨rfl, rfl, rfl⟩ := hcs
    simp only [Prod.mk.injEq] at hx
    obtain ⟨rfl, rfl⟩ := hx
    simp only [if_true] at hz
    have hlen : ((zs.take len).map fun n => BitVec.ofInt 8 n).length = len := by simp; omega
    obtain ⟨ab, ao, spot⟩ := a
    refine ⟨(zs.take len).map fun n => BitVec.ofInt 8 n, ⟨some ⟨ab, ao, spot⟩, cap, by rw [hlen], by rw [hlen]; exact hl, (fun h => by cases h), fun hp => ?_⟩, by rw [hlen]; omega, fun x hx => ?_⟩
    · rw [hlen] at hp ⊢
      have hspot : spot = none := by simpa [Addr.add] using World.cell?_spot (hcell 0 (by omega))
      subst hspot
      refine ⟨ab, ao, rfl, fun j hj => ?_⟩
      have hcj := hcell j (by omega)
      rw [Addr.add_lit] at hcj
      rw [hcj]
      have hb := byte_range hwz j
      have e : ((zs.take len).map fun n => BitVec.ofInt 8 n).getD j 0 = BitVec.ofInt 8 (zs.getD j 0) := by
        rw [List.getD_eq_getElem?_getD, List.getElem?_map, List.getElem?_take_of_lt hj, List.getD_eq_getElem?_getD, List.getElem?_eq_getElem (show j < zs.length by omega)]
        rfl
      rw [e, BitVec.toNat_ofInt]
      congr 2
      omega
    · simp only [MemPlace.row, List.mem_map, List.mem_range] at hx
      obtain ⟨i, hi, rfl⟩ := hx
      have hcj := hcell i (by omega)
      have := block_lt_of_cell hcj
      simp only [Addr.add] at this
      split at this <;> exact this
end Go.Proofs.YtmmhdchhajmbfaaDoor
/- What a digest that came in gives: its 32 bytes. -/
namespace Go.Proofs.YtmmhdchhajmbfaaDoor
open Go.ChangeShapes Go.WideShapes Go.ChangeAt Go.WideMaps Go.WideElems Go.RowKit
set_option maxRecDepth 100000
theorem cells_digest : Tryd.prog.cellsOf 23 = 32 := by kernel_rfl
theorem readable_digest : Tryd.prog.readableRec 23 = true := by kernel_rfl
theorem row_digest : 23 < Tryd.prog.types.size := of_decide_eq_true (by kernel_rfl)
def numOf8 : Value → BitVec 8
  | .int _ n => BitVec.ofInt 8 n
  | _ => 0
theorem digest_of_trod {H : Type} {enc : TypeId × Value → H} {W : World} {base : Nat} {v : Value} {d : DataW H} {p : List MemPlace} (hval : Value.okWide Tryd.prog W .any base 23 v)
    (h : DataW.Trod enc Tryd.prog W 0 (fun _ => true) true 23 v d p) :
    ∃ dg, v = .agg (cb dg).toArray ∧ dg.length = 32 ∧ ∀ x ∈ p, x.block < W.heap.size := by
  simp only [Value.okWide, Tryd.underlying23] at hval
  obtain ⟨cs, rfl, hcs, _⟩ := hval
  obtain ⟨fuel, hf⟩ := h
  obtain ⟨xs, m, _, hx, hl, hn, hi⟩ := DataW.trod_array Tryd.underlying23 hf
  simp only [Value.cells] at hl hi
  rw [cells_digest] at hl
  rw [cells_byte] at hi
  have each : ∀ i, i < 32 → ∃ n, cs.toList[i]? = some (.int .u8 n) ∧ xs[i]? = some (.lit (.int .u8 n), []) ∧ (Lit.int .u8 n).wf = true := by
    intro i h32
    have h1 := hi i h32
    rw [List.getElem?_eq_getElem (by omega)] at h1
    obtain ⟨n, hc, hxx, hw⟩ := DataW.trod_int Tryd.underlying5 h1
    refine ⟨n, ?_, by rw [List.getElem?_eq_getElem (by omega), hxx], hw⟩
    rw [Nat.mul_one] at hc
    have h2 := congrArg (fun l => l[0]?) hc
    simpa using h2
  have hlen : (cs.toList.map numOf8).length = 32 := by simpa using hl
  refine ⟨cs.toList.map numOf8, ?_, hlen, ?_⟩
  · congr 1
    apply Array.ext'
    rw [List.toList_toArray]
    apply List.ext_getElem?
    intro i
    by_cases h32 : i < 32
    · obtain ⟨n, h1, _, hw⟩ := each i h32
      have hb := bounds_u8 hw
      rw [h1, cb_get _ _ (by omega), List.getD_eq_getElem?_getD, List.getElem?_map, h1]
      simp only [Option.map_some, Option.getD_some, numOf8, BitVec.toNat_ofInt]
      congr 2
      omega
    · rw [List.getElem?_eq_none (by omega), List.getElem?_eq_none (by rw [cb_len]; omega)]
  · simp only [Prod.mk.injEq] at hx
    rw [hx.2]
    intro x hmem
    obtain ⟨y, hy, hxy⟩ := List.mem_flatMap.1 hmem
    obtain ⟨i, hlt, rfl⟩ := List.getElem_of_mem hy
    obtain ⟨n, _, h2, _⟩ := each i (by omega)
    rw [List.getElem?_eq_getElem hlt] at h2
    rw [Option.some.inj h2] at hxy
    cases hxy
end Go.Proofs.YtmmhdchhajmbfaaDoor
/- What a slice of digests that came in gives; five arguments that came in, opened and shut (for the statements of layer 7). -/
namespace Go.Proofs.YtmmhdchhajmbfaaDoor
open Go.ChangeShapes Go.WideShapes Go.ChangeAt Go.WideMaps Go.WideElems Go.RowKit
set_option maxRecDepth 100000
set_option maxRecDepth 100000 in
theorem bulk_pos {H : Type} (d : DataW H) : 1 ≤ Rows.uptoBulk d := by
  cases d with
  | lit l => cases l <;> simp [Rows.uptoBulk]
  | _ => simp [Rows.uptoBulk]
set_option maxRecDepth 100000 in
theorem bulk_slice {H : Type} (e s : List (DataW H)) : Rows.uptoBulkAll e ≤ Rows.uptoBulk (DataW.slice e s) := by
  simp only [Rows.uptoBulk]; omega
set_option maxRecDepth 100000 in
theorem bulk_len {H : Type} : ∀ l : List (DataW H), l.length ≤ Rows.uptoBulkAll l
  | [] => Nat.zero_le _
  | d :: r => by
    have h1 := bulk_len r
    have h2 := bulk_pos d
    simp only [Rows.uptoBulkAll, List.length_cons]
    omega
theorem digest_of_cells {H : Type} {enc : TypeId × Value → H} {W : World} {cs : List Value} {d : DataW H} {p : List MemPlace} {fuel : Nat} (hf : DataW.trod enc Tryd.prog W 0 (fun _ => true) true fuel 23 cs = some (d, p)) :
    ∃ dg, cs = cb dg ∧ dg.length = 32 ∧ ∀ x ∈ p, x.block < W.heap.size := by
  obtain ⟨xs, m, _, hx, hl, hn, hi⟩ := DataW.trod_array Tryd.underlying23 hf
  rw [cells_digest] at hl
  rw [cells_byte] at hi
  have each : ∀ i, i < 32 → ∃ n, cs[i]? = some (.int .u8 n) ∧ xs[i]? = some (.lit (.int .u8 n), []) ∧ (Lit.int .u8 n).wf = true := by
    intro i h32
    have h1 := hi i h32
    rw [List.getElem?_eq_getElem (by omega)] at h1
    obtain ⟨n, hc, hxx, hw⟩ := DataW.trod_int Tryd.underlying5 h1
    refine ⟨n, ?_, by rw [List.getElem?_eq_getElem (by omega), hxx], hw⟩
    rw [Nat.mul_one] at hc
    have h2 := congrArg (fun l => l[0]?) hc
    simpa using h2
  have hlen : (cs.map numOf8).length = 32 := by simpa using hl
  refine ⟨cs.map numOf8, ?_, hlen, ?_⟩
  · apply List.ext_getElem?
    intro i
    by_cases h32 : i < 32
    · obtain ⟨n, h1, _, hw⟩ := each i h32
      have hb := bounds_u8 hw
      rw [h1, cb_get _ _ (by omega), List.getD_eq_getElem?_getD, List.getElem?_map, h1]
      simp only [Option.map_some, Option.getD_some, numOf8, BitVec.toNat_ofInt]
      congr 2
      omega
    · rw [List.getElem?_eq_none (by omega), List.getElem?_eq_none (by rw [cb_len]; omega)]
  · simp only [Prod.mk.injEq] at hx
    rw [hx.2]
    intro x hmem
    obtain ⟨y, hy, hxy⟩ := List.mem_flatMap.1 hmem
    obtain ⟨i, hlt, rfl⟩ := List.getElem_of_mem hy
    obtain ⟨n, _, h2, _⟩ := each i (by omega)
    rw [List.getElem?_eq_getElem hlt] at h2
    rw [Option.some.inj h2] at hxy
    cases hxy
set_option maxRecDepth 100000 in
theorem readable_digests : Tryd.prog.readableRec 24 = true := by kernel_rfl
set_option maxRecDepth 100000 in
theorem row_digests : 24 < Tryd.prog.types.size := of_decide_eq_true (by kernel_rfl)
theorem readsD_of_trod {H : Type} {enc : TypeId × Value → H} {W : World} {base : Nat} {v : Value} {d : DataW H} {p : List MemPlace} (hval : Value.okWide Tryd.prog W .any base 24 v)
    (h : DataW.Trod enc Tryd.prog W 0 (fun _ => true) true 24 v d p) :
    ∃ ds, ReadsD W v ds ∧ ds.length ≤ Rows.uptoBulk d ∧ ∀ x ∈ p, x.block < W.heap.size := by
  obtain ⟨a1, len, cap, rfl⟩ := okWide_slice Tryd.underlying24 hval
  obtain ⟨fuel, hf⟩ := h
  rcases Go.Deep.open_slice Tryd.underlying24 hf with ⟨hcs, hx⟩ | ⟨a, len', cap', m, n, D, Pl, hcs, _, hl, hm, hmm, hx, hV⟩
  · simp [Value.cells] at hcs
    obtain ⟨rfl, rfl, rfl⟩ := hcs
    simp only [Prod.mk.injEq] at hx
    obtain ⟨rfl, rfl⟩ := hx
    exact ⟨[], ⟨⟨none, 0, rfl, Nat.le_refl _, fun _ => rfl, fun h => by cases h⟩, fun _ h => by cases h⟩, Nat.zero_le _, fun _ h => by cases h⟩
  · simp [Value.cells] at hcs
    obtain ⟨rfl, rfl, rfl⟩ := hcs
    simp only [Prod.mk.injEq] at hx
    obtain ⟨rfl, rfl⟩ := hx
    simp only [if_true] at hmm
    subst hmm
    rw [cells_digest] at hV
    obtain ⟨B, hB⟩ := Go.Deep.choose_lt (α := List (BitVec 8)) (p := fun i dg => W.cells? 0 (a.add (i * 32)) 32 = some (cb dg) ∧ dg.length = 32 ∧ ∀ x ∈ Pl i, x.block < W.heap.size) (fun i hi => by
      obtain ⟨cs', h1, h2⟩ := hV i hi
      obtain ⟨dg, rfl, h3, h4⟩ := digest_of_cells h2
      exact ⟨dg, h1, h3, h4⟩)
    have hlen : ((List.range len).map B).length = len := by simp
    obtain ⟨ab, ao, spot⟩ := a
    have cell : ∀ i, i < m → ∀ j, j < 32 → W.cell? ((⟨ab, ao, spot⟩ : Addr).add (i * 32 + j)) = (cb (B i))[j]? := by
      intro i hi j hj
      obtain ⟨h1, _, _⟩ := hB i hi
      obtain ⟨_, _, h4⟩ := World.cells?_some h1
      have := h4 j hj
      rw [Go.Deep.add_add] at this
      exact this
    have hspot : 0 < m → spot = none := fun hp => by
      have h := cell 0 hp 0 (by omega)
      rw [cb_get _ 0 (by rw [(hB 0 hp).2.1]; omega)] at h
      simpa [Addr.add] using World.cell?_spot h
    refine ⟨(List.range len).map B, ⟨⟨some ⟨ab, ao, spot⟩, m, by rw [hlen], by rw [hlen]; exact hl, (fun h => by cases h), fun hp => ?_⟩, ?_⟩, by rw [hlen]; exact Nat.le_trans (by have := bulk_len ((List.range len).map D); simpa using this) (bulk_slice _ _), fun x hx => ?_⟩
    · rw [hlen] at hp ⊢
      have hs := hspot (by omega)
      subst hs
      refine ⟨ab, ao, rfl, fun j hj i v hv => ?_⟩
      have e : ((List.range len).map B).getD j [] = B j := by simp [hj]
      rw [e] at hv
      have hi : i < 32 := by have := (List.getElem?_eq_some_iff.1 hv).1; rwa [cb_len, (hB j (by omega)).2.1] at this
      have h := cell j (by omega) i hi
      rw [hv, Addr.add_lit] at h
      rw [Nat.add_assoc]; exact h
    · intro dg hd
      obtain ⟨i, hi, rfl⟩ := List.mem_map.1 hd
      exact (hB i (by have := List.mem_range.1 hi; omega)).2.1
    · rcases List.mem_append.1 hx with hx | hx
      · rw [cells_digest] at hx
        simp only [MemPlace.row, List.mem_map, List.mem_range] at hx
        obtain ⟨i, hi, rfl⟩ := hx
        have h := cell (i / 32) (by omega) (i % 32) (by omega)
        rw [cb_get _ _ (by rw [(hB (i / 32) (by omega)).2.1]; omega), show i / 32 * 32 + i % 32 = i by omega] at h
        have := block_lt_of_cell h
        simp only [Addr.add] at this
        split at this <;> exact this
      · obtain ⟨i, hi, hx⟩ := List.mem_flatMap.1 hx
        exact (hB i (List.mem_range.1 hi)).2.2 x hx
theorem trodAll_five {H : Type} {enc : TypeId × Value → H} {P : Program} {w : World} {base : Nat} {spare : Nat → Bool} {held : Bool} {t0 t1 t2 t3 t4 : TypeId} {args : Array Value} {ds : List (DataW H)} {ps : List MemPlace} (h : DataW.TrodAll enc P w base spare held [t0, t1, t2, t3, t4] args.toList ds ps) :
    ∃ v0 v1 v2 v3 v4 d0 d1 d2 d3 d4 p0 p1 p2 p3 p4, args = #[v0, v1, v2, v3, v4] ∧ ds = [d0, d1, d2, d3, d4] ∧ ps = p0 ++ p1 ++ p2 ++ p3 ++ p4 ∧ DataW.Trod enc P w base spare held t0 v0 d0 p0 ∧ DataW.Trod enc P w base spare held t1 v1 d1 p1 ∧ DataW.Trod enc P w base spare held t2 v2 d2 p2 ∧ DataW.Trod enc P w base spare held t3 v3 d3 p3 ∧ DataW.Trod enc P w base spare held t4 v4 d4 p4 := by
  obtain ⟨v0, vs0, d0, ds0, p0, q0, hargs, rfl, rfl, h0, r0⟩ := trodAll_cons h
  obtain ⟨v1, vs1, d1, ds1, p1, q1, rfl, rfl, rfl, h1, r1⟩ := trodAll_cons r0
  obtain ⟨v2, vs2, d2, ds2, p2, q2, rfl, rfl, rfl, h2, r2⟩ := trodAll_cons r1
  obtain ⟨v3, vs3, d3, ds3, p3, q3, rfl, rfl, rfl, h3, r3⟩ := trodAll_cons r2
  obtain ⟨v4, vs4, d4, ds4, p4, q4, rfl, rfl, rfl, h4, r4⟩ := trodAll_cons r3
  obtain ⟨rfl, rfl, rfl⟩ := trodAll_nil r4
  exact ⟨v0, v1, v2, v3, v4, d0, d1, d2, d3, d4, p0, p1, p2, p3, p4, by cases args; simp_all, rfl, by simp, h0, h1, h2, h3, h4⟩
theorem trodAll_mk5 {H : Type} {enc : TypeId × Value → H} {P : Program} {w : World} {base : Nat} {spare : Nat → Bool} {held : Bool} {t0 t1 t2 t3 t4 : TypeId} {v0 v1 v2 v3 v4 : Value} {d0 d1 d2 d3 d4 : DataW H} {p0 p1 p2 p3 p4 : List MemPlace} (h0 : DataW.Trod enc P w base spare held t0 v0 d0 p0) (h1 : DataW.Trod enc P w base spare held t1 v1 d1 p1) (h2 : DataW.Trod enc P w base spare held t2 v2 d2 p2) (h3 : DataW.Trod enc P w base spare held t3 v3 d3 p3) (h4 : DataW.Trod enc P w base spare held t4 v4 d4 p4) : DataW.TrodAll enc P w base spare held [t0, t1, t2, t3, t4] [v0, v1, v2, v3, v4] [d0, d1, d2, d3, d4] (p0 ++ (p1 ++ (p2 ++ (p3 ++ p4)))) :=
  ⟨p0, _, h0, trodAll_mk4 h1 h2 h3 h4, rfl⟩
end Go.Proofs.YtmmhdchhajmbfaaDoor
/- What a binding and a proof that came in give: their parts. -/
namespace Go.Proofs.YtmmhdchhajmbfaaDoor
open Go.ChangeShapes Go.WideShapes Go.ChangeAt Go.WideMaps Go.WideElems Go.RowKit
set_option maxRecDepth 100000
set_option maxRecDepth 100000 in
theorem readable_proof : Tryd.prog.readableRec 26 = true := by kernel_rfl
set_option maxRecDepth 100000 in
theorem row_proof : 26 < Tryd.prog.types.size := of_decide_eq_true (by kernel_rfl)
set_option maxRecDepth 100000 in
theorem cells_proof : Tryd.prog.cellsOf 26 = 66 := by kernel_rfl
set_option maxRecDepth 100000 in
theorem cells_digests : Tryd.prog.cellsOf 24 = 1 := by kernel_rfl
set_option maxRecDepth 100000 in
theorem cells_int1 : Tryd.prog.cellsOf 3 = 1 := by kernel_rfl
theorem cells_string : Tryd.prog.cellsOf 9 = 1 := by kernel_rfl
theorem cells_bytes1 : Tryd.prog.cellsOf 51 = 1 := by kernel_rfl
theorem strB_of (s : ByteArray) : ∃ nm, s = strB nm := by
  refine ⟨s.data.toList.map fun b => BitVec.ofNat 8 b.toNat, ?_⟩
  have h := strB_data (s.data.toList.map fun b => BitVec.ofNat 8 b.toNat)
  have h2 : (s.data.toList.map fun b => BitVec.ofNat 8 b.toNat).map (fun b => UInt8.ofNat b.toNat) = s.data.toList := by
    rw [List.map_map]
    have : ((fun b : BitVec 8 => UInt8.ofNat b.toNat) ∘ fun b : UInt8 => BitVec.ofNat 8 b.toNat) = id := by
      funext b
      simp only [Function.comp, BitVec.toNat_ofNat, id]
      have := b.toNat_lt
      rw [Nat.mod_eq_of_lt (by omega)]
      simp
    rw [this, List.map_id]
  rw [h2] at h
  obtain ⟨d⟩ := s
  generalize strB _ = t at *
  obtain ⟨e⟩ := t
  simp only at h
  rw [Array.ext' h]
theorem reads_of_cells0 {H : Type} {enc : TypeId × Value → H} {W : World} {v : Value} {y : DataW H × List MemPlace} {fuel : Nat} (hf : DataW.trod enc Tryd.prog W 0 (fun _ => true) true fuel 51 [v] = some y) :
    ∃ bs, Reads W v bs := by
  rcases open_ints Tryd.underlying51 Tryd.underlying5 cells_byte hf with ⟨hcs, hx⟩ | ⟨a, len, cap, zs, hcs, _, hl, hm, hz, hx, hcell, hwz⟩
  · simp only [List.cons.injEq, and_true] at hcs
    subst hcs
    exact ⟨[], ⟨none, 0, rfl, Nat.le_refl _, fun _ => rfl, fun h => by cases h⟩⟩
  · simp only [List.cons.injEq, and_true] at hcs
    subst hcs
    simp only [if_true] at hz
    have hlen : ((zs.take len).map fun n => BitVec.ofInt 8 n).length = len := by simp; omega
    obtain ⟨ab, ao, spot⟩ := a
    refine ⟨(zs.take len).map fun n => BitVec.ofInt 8 n, ⟨some ⟨ab, ao, spot⟩, cap, by rw [hlen], by rw [hlen]; exact hl, (fun h => by cases h), fun hp => ?_⟩⟩
    rw [hlen] at hp ⊢
    have hspot : spot = none := by simpa [Addr.add] using World.cell?_spot (hcell 0 (by omega))
    subst hspot
    refine ⟨ab, ao, rfl, fun j hj => ?_⟩
    have hcj := hcell j (by omega)
    rw [Addr.add_lit] at hcj
    rw [hcj]
    have hb := byte_range hwz j
    have e : ((zs.take len).map fun n => BitVec.ofInt 8 n).getD j 0 = BitVec.ofInt 8 (zs.getD j 0) := by
      rw [List.getD_eq_getElem?_getD, List.getElem?_map, List.getElem?_take_of_lt hj, List.getD_eq_getElem?_getD, List.getElem?_eq_getElem (show j < zs.length by omega)]
      rfl
    rw [e, BitVec.toNat_ofInt]
    congr 2
    omega
set_option maxRecDepth 100000 in
theorem readsD_of_cells {H : Type} {enc : TypeId × Value → H} {W : World} {a1 : Option Addr} {len cap : Nat} {d : DataW H} {p : List MemPlace} {fuel : Nat} (hf : DataW.trod enc Tryd.prog W 0 (fun _ => true) true fuel 24 [.slice a1 len cap] = some (d, p)) :
    ∃ ds, ReadsD W (.slice a1 len cap) ds ∧ ds.length ≤ Rows.uptoBulk d ∧ ∀ x ∈ p, x.block < W.heap.size := by
  rcases Go.Deep.open_slice Tryd.underlying24 hf with ⟨hcs, hx⟩ | ⟨a, len', cap', m, n, D, Pl, hcs, _, hl, hm, hmm, hx, hV⟩
  · simp at hcs
    obtain ⟨rfl, rfl, rfl⟩ := hcs
    simp only [Prod.mk.injEq] at hx
    obtain ⟨rfl, rfl⟩ := hx
    exact ⟨[], ⟨⟨none, 0, rfl, Nat.le_refl _, fun _ => rfl, fun h => by cases h⟩, fun _ h => by cases h⟩, Nat.zero_le _, fun _ h => by cases h⟩
  · simp at hcs
    obtain ⟨rfl, rfl, rfl⟩ := hcs
    simp only [Prod.mk.injEq] at hx
    obtain ⟨rfl, rfl⟩ := hx
    simp only [if_true] at hmm
    subst hmm
    rw [cells_digest] at hV
    obtain ⟨B, hB⟩ := Go.Deep.choose_lt (α := List (BitVec 8)) (p := fun i dg => W.cells? 0 (a.add (i * 32)) 32 = some (cb dg) ∧ dg.length = 32 ∧ ∀ x ∈ Pl i, x.block < W.heap.size) (fun i hi => by
      obtain ⟨cs', h1, h2⟩ := hV i hi
      obtain ⟨dg, rfl, h3, h4⟩ := digest_of_cells h2
      exact ⟨dg, h1, h3, h4⟩)
    have hlen : ((List.range len).map B).length = len := by simp
    obtain ⟨ab, ao, spot⟩ := a
    have cell : ∀ i, i < m → ∀ j, j < 32 → W.cell? ((⟨ab, ao, spot⟩ : Addr).add (i * 32 + j)) = (cb (B i))[j]? := by
      intro i hi j hj
      obtain ⟨h1, _, _⟩ := hB i hi
      obtain ⟨_, _, h4⟩ := World.cells?_some h1
      have := h4 j hj
      rw [Go.Deep.add_add] at this
      exact this
    have hspot : 0 < m → spot = none := fun hp => by
      have h := cell 0 hp 0 (by omega)
      rw [cb_get _ 0 (by rw [(hB 0 hp).2.1]; omega)] at h
      simpa [Addr.add] using World.cell?_spot h
    refine ⟨(List.range len).map B, ⟨⟨some ⟨ab, ao, spot⟩, m, by rw [hlen], by rw [hlen]; exact hl, (fun h => by cases h), fun hp => ?_⟩, ?_⟩, by rw [hlen]; exact Nat.le_trans (by have := bulk_len ((List.range len).map D); simpa using this) (bulk_slice _ _), fun x hx => ?_⟩
    · rw [hlen] at hp ⊢
      have hs := hspot (by omega)
      subst hs
      refine ⟨ab, ao, rfl, fun j hj i v hv => ?_⟩
      have e : ((List.range len).map B).getD j [] = B j := by simp [hj]
      rw [e] at hv
      have hi : i < 32 := by have := (List.getElem?_eq_some_iff.1 hv).1; rwa [cb_len, (hB j (by omega)).2.1] at this
      have h := cell j (by omega) i hi
      rw [hv, Addr.add_lit] at h
      rw [Nat.add_assoc]; exact h
    · intro dg hd
      obtain ⟨i, hi, rfl⟩ := List.mem_map.1 hd
      exact (hB i (by have := List.mem_range.1 hi; omega)).2.1
    · rcases List.mem_append.1 hx with hx | hx
      · rw [cells_digest] at hx
        simp only [MemPlace.row, List.mem_map, List.mem_range] at hx
        obtain ⟨i, hi, rfl⟩ := hx
        have h := cell (i / 32) (by omega) (i % 32) (by omega)
        rw [cb_get _ _ (by rw [(hB (i / 32) (by omega)).2.1]; omega), show i / 32 * 32 + i % 32 = i by omega] at h
        have := block_lt_of_cell h
        simp only [Addr.add] at this
        split at this <;> exact this
      · obtain ⟨i, hi, hx⟩ := List.mem_flatMap.1 hx
        exact (hB i (List.mem_range.1 hi)).2.2 x hx
set_option maxRecDepth 100000 in
theorem proof_of_trod {H : Type} {enc : TypeId × Value → H} {W : World} {base : Nat} {v : Value} {d : DataW H} {p : List MemPlace} (hval : Value.okWide Tryd.prog W .any base 26 v)
    (h : DataW.Trod enc Tryd.prog W 0 (fun _ => true) true 26 v d p) :
    ∃ vs ds en ix va, v = .agg (prfV vs en ix va).toArray ∧ ReadsD W vs ds ∧ (ix.length = 32 ∧ va.length = 32 ∧ (Lit.int .i64 en).wf = true) ∧ ∀ q ∈ p, q.block < W.heap.size := by
  simp only [Value.okWide, Tryd.underlying26] at hval
  obtain ⟨cs, rfl, hcs, _⟩ := hval
  obtain ⟨fuel, hf⟩ := h
  have hp := DataW.trod_lt _ _ _ _ hf
  obtain ⟨y0, y1, y2, y3, n, hx, hl, h0, h1, h2, h3⟩ := Go.Joins.trod_struct4 Tryd.underlying26 hf
  simp only [Value.cells] at hl h0 h1 h2 h3
  rw [cells_proof] at hl
  rw [cells_digests] at h0
  rw [cells_int1] at h1
  rw [cells_digest] at h2 h3
  obtain ⟨l⟩ := cs
  simp only at hl h0 h1 h2 h3
  have d0 : l = l.take 1 ++ l.drop 1 := (List.take_append_drop 1 l).symm
  have d1 : l.drop 1 = (l.drop 1).take 1 ++ l.drop 2 := by
    have := (List.take_append_drop 1 (l.drop 1)).symm
    rwa [List.drop_drop] at this
  have d2 : l.drop 2 = (l.drop 2).take 32 ++ l.drop 34 := by
    have := (List.take_append_drop 32 (l.drop 2)).symm
    rwa [List.drop_drop] at this
  have d3 : l.drop 34 = (l.drop 34).take 32 := by rw [List.take_of_length_le (by rw [List.length_drop]; omega)]
  obtain ⟨m, e1, _, hw⟩ := DataW.trod_int Tryd.underlying3 h1
  obtain ⟨z2, q2⟩ := y2
  obtain ⟨z3, q3⟩ := y3
  obtain ⟨z0, q0⟩ := y0
  obtain ⟨ix, e2, lx, _⟩ := digest_of_cells h2
  obtain ⟨va, e3, ly, _⟩ := digest_of_cells h3
  rw [List.drop_zero] at h0
  obtain ⟨c0, e0⟩ : ∃ c, l.take 1 = [c] := by
    match l, hl with
    | c :: r, _ => exact ⟨c, rfl⟩
  rw [e0] at h0
  obtain ⟨ad, n0, cp, rfl⟩ : ∃ ad n cp, c0 = .slice ad n cp := by
    rcases Go.Deep.open_slice Tryd.underlying24 h0 with ⟨hcs', _⟩ | ⟨a, len', cap', m', n', D, Pl, hcs', _⟩
    · exact ⟨none, 0, 0, by simpa using hcs'⟩
    · exact ⟨some a, len', cap', by simpa using hcs'⟩
  obtain ⟨ds, hr, _, _⟩ := readsD_of_cells h0
  refine ⟨_, ds, m, ix, va, ?_, hr, ⟨lx, ly, hw⟩, hp⟩
  congr 1
  rw [d0, d1, d2, d3, e0, e1, e2, e3]
  rfl
end Go.Proofs.YtmmhdchhajmbfaaDoor

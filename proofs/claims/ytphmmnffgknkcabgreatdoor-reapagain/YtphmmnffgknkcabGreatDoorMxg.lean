import Derived.Test.YtphmmnffgknkcabGreatDoorMxf
import Derived.Test.YtphmmnffgknkcabGreatDoorMxe
import Derived.Test.YtphmmnffgknkcabGreatDoorRows
import Derived.Test.YtphmmnffgknkcabGreatDoorMxa
import Derived.ProofKit
import Derived.LaidMore
import Derived.OpenShut
import Derived.Stop.Joined
import Derived.Lib.LaidTab
import Derived.Carry
import Derived.ChangeSlices
import Derived.Test.YtphmmnffgknkcabGreatDoorMxb
import Derived.Deep.Slices
import Derived.Deep.Strs
import Derived.Lib.SmallJoins
namespace Go.Proofs.YtphmmnffgknkcabGreatDoor
open Go.RowKit
set_option maxRecDepth 100000
theorem below_drewN18 (w : World) (q : Nat) : Below w.heap.size w (w.drewN q) := ⟨rfl, rfl, rfl, Nat.le_refl _, fun _ _ => rfl⟩
theorem xHiD (b off n cap k : Nat) (h : k ≤ n) (w : World) : (Instr.sliceAt 22 (.slice (some ⟨b, off, none⟩) n cap) (some (.int .i64 (k : Int))) none none).run Tryz.prog w = .ok (.slice (some ⟨b, if cap = k then off else off + k * 32, none⟩) (n - k) (cap - k)) w := by
  have hs : (sizeOf 40).run Tryz.prog w = .ok 32 w := by kernel_rfl
  rw [run_sliceAt_slice w 22 _ _ _ _ (by kernel_rfl), run_slice_l w 22 _ _ _ (by kernel_rfl) .i64 _ (by omega) (by omega)]
  rw [show Tryz.prog.elem 22 = 40 from by kernel_rfl, hs]
  simp only [Result.andThen_ok, sliced, Int.toNat_natCast, Option.map_some]
  split <;> simp [Addr.add_mid]
theorem readsD_tail {w : World} {b off n c : Nat} {ds : List By} (h : ReadsD w (.slice (some ⟨b, off, none⟩) n c) ds) (hn : 0 < n) : ReadsD w (.slice (some ⟨b, if c = 1 then off else off + 1 * 32, none⟩) (n - 1) (c - 1)) (ds.drop 1) := by
  obtain ⟨⟨ad, cap, hv, hc, _, hx⟩, h32⟩ := h
  simp only [Value.slice.injEq] at hv
  obtain ⟨rfl, rfl, rfl⟩ := hv
  obtain ⟨b2, o2, e, hy⟩ := hx hn
  simp only [Option.some.injEq, Addr.mk.injEq, and_true] at e
  obtain ⟨rfl, rfl⟩ := e
  refine ⟨⟨_, c - 1, by rw [List.length_drop], by rw [List.length_drop]; omega, (fun e => by cases e), fun hp => ⟨b, _, rfl, fun j hj i v hv => ?_⟩⟩, fun d hd => h32 d (List.mem_of_mem_drop hd)⟩
  rw [List.length_drop] at hp hj
  rw [if_neg (by omega)]
  have e2 : (ds.drop 1).getD j [] = ds.getD (j + 1) [] := by rw [List.getD_eq_getElem?_getD, List.getElem?_drop, List.getD_eq_getElem?_getD, Nat.add_comm]
  rw [e2] at hv
  have := hy (j + 1) (by omega) i v hv
  rw [show off + 1 * 32 + j * 32 + i = off + (j + 1) * 32 + i by omega]
  exact this
theorem rise_at {ts : List Dg} (h : RiseD ts) {i j : Nat} (hi : i < ts.length) (hj : j < ts.length) (hl : lessB (ts[i]'hi).1 (ts[j]'hj).1 = true) : i < j := by
  rcases Nat.lt_trichotomy i j with h1 | h1 | h1
  · exact h1
  · subst h1
    rw [lessB_self] at hl
    cases hl
  · have := (List.pairwise_iff_getElem.1 h) j i hj hi h1
    rw [lessB_asym this] at hl
    cases hl
theorem rise_nd2 {ts : List Dg} (h : RiseD ts) : ts.Nodup := by
  exact List.Pairwise.imp (fun {a b} hl e => by rw [e, lessB_self] at hl; cases hl) h
theorem nd_inj {l : List Dg} (h : l.Nodup) {i j : Nat} (hi : i < l.length) (hj : j < l.length) (e : l[i] = l[j]) : i = j := by
  rcases Nat.lt_trichotomy i j with h1 | h1 | h1
  · exact absurd e ((List.pairwise_iff_getElem.1 h) i j hi hj h1)
  · exact h1
  · exact absurd e.symm ((List.pairwise_iff_getElem.1 h) j i hj hi h1)
theorem step_in {a b : List Dg} (ha : RiseD a) (hb : RiseD b) (hs : ∀ x ∈ b, x ∈ a) {i m : Nat} (hi : i < a.length) (hm : m ≤ b.length) (H : (a.take i).filter (fun x => decide (x ∈ b)) = b.take m) :
    (∀ h : m < b.length, a[i] = b[m] → (a.take (i + 1)).filter (fun x => decide (x ∈ b)) = b.take (m + 1)) ∧ ((∀ h : m < b.length, a[i] ≠ b[m]) → (a.take (i + 1)).filter (fun x => decide (x ∈ b)) = b.take m) := by
  have e1 : a.take (i + 1) = a.take i ++ [a[i]] := by rw [List.take_add_one, List.getElem?_eq_getElem hi]; rfl
  have hnd := rise_nd2 ha
  have hni : a[i] ∉ a.take i := fun h => by
    obtain ⟨j, hj, e⟩ := List.getElem_of_mem h
    rw [List.length_take] at hj
    rw [List.getElem_take] at e
    have := nd_inj hnd (by omega) hi e
    omega
  refine ⟨fun h e => ?_, fun hne => ?_⟩
  · have hmem : a[i] ∈ b := by rw [e]; exact List.getElem_mem h
    rw [e1, List.filter_append, H, List.take_add_one, List.getElem?_eq_getElem h, ← e]
    congr 1
    rw [List.filter_cons, if_pos (decide_eq_true hmem)]
    rfl
  · have hout : a[i] ∉ b := fun hin => by
      obtain ⟨q, hq, e⟩ := List.getElem_of_mem hin
      by_cases hqm : q < m
      · have h1 : b[q] ∈ b.take m := List.mem_take_iff_getElem.2 ⟨q, by omega, rfl⟩
        rw [← H, e] at h1
        exact hni (List.mem_filter.1 h1).1
      · have hml : m < b.length := by omega
        have hqne : q ≠ m := fun h => hne hml (by subst h; exact e.symm)
        have hlt : lessB (b[m]).1 (b[q]).1 = true := (List.pairwise_iff_getElem.1 hb) m q hml hq (by omega)
        obtain ⟨j, hj, e2⟩ := List.getElem_of_mem (hs _ (List.getElem_mem hml))
        rw [e, ← e2] at hlt
        have hji := rise_at ha hj hi hlt
        have h1 : b[m] ∈ (a.take i).filter (fun x => decide (x ∈ b)) := List.mem_filter.2 ⟨List.mem_take_iff_getElem.2 ⟨j, by omega, e2⟩, decide_eq_true (List.getElem_mem hml)⟩
        rw [H] at h1
        obtain ⟨r, hr, e3⟩ := List.mem_take_iff_getElem.1 h1
        have := nd_inj (rise_nd2 hb) (by omega) hml e3
        omega
    rw [e1, List.filter_append, H, List.filter_cons, if_neg (by simp [hout])]
    simp
theorem end_in {a b : List Dg} (hb : RiseD b) (hs : ∀ x ∈ b, x ∈ a) {m : Nat} (hm : m ≤ b.length) (H : a.filter (fun x => decide (x ∈ b)) = b.take m) : m = b.length := by
  have h := nodup_sub_len (rise_nd2 hb) (b := b.take m) fun x hx => by
    rw [← H]
    exact List.mem_filter.2 ⟨hs x hx, decide_eq_true hx⟩
  rw [List.length_take] at h
  omega
set_option maxRecDepth 100000 in
set_option maxHeartbeats 16000000 in
theorem reapAgain_law (va vv vk : Value) (ds es : List By) (bs : List Bool) (w : World) (hK : KOk w) (hA : ReadsD w va ds) (hV : ReadsD w vv es) (hB : ReadsBo w vk bs) :
    Calls Tryz.prog 4 #[.agg #[va, vv, vk]] w fun e w' => e = .returned (.bool true) ∧ Below w.heap.size w w' := by
  obtain ⟨z, HZ⟩ : ∃ z, Hid (z = ds.zip es) := ⟨_, rfl⟩
  obtain ⟨n, HNN⟩ : ∃ n, Hid (n = min (min ds.length es.length) 20) := ⟨_, rfl⟩
  have HZO : okLf z := by rw [HZ.out]; exact zip_okR hA hV
  have hn20 : n ≤ 20 := by rw [HNN.out]; omega
  obtain ⟨ks, HKS⟩ : ∃ x, Hid (x = kps z bs n) := ⟨_, rfl⟩
  obtain ⟨ps, HPS⟩ : ∃ x, Hid (x = pgs z n) := ⟨_, rfl⟩
  have HG : Hid (∀ l ∈ ks, GoodT ps l) := by rw [HKS.out, HPS.out]; exact kps_good HZO hn20
  have HKL : Hid (ks.length ≤ 20) := by rw [HKS.out]; exact Nat.le_trans (kps_len n) hn20
  have HLL : Hid (∀ l ∈ ks, l.length ≤ 20) := by
    rw [HKS.out]
    intro l hl
    obtain ⟨j, h1, h2, rfl⟩ := kps_of n l hl
    have := (allL_ok HZO j).2.2
    omega
  have HPL : Hid (ps.length < 100000 ∧ ∀ p ∈ ps, 1 ≤ p.length ∧ p.length ≤ 512) := by
    rw [HPS.out]
    have h := pgs_spec HZO n
    refine ⟨Nat.lt_of_le_of_lt h.2.2.2 ?_, fun p hp => (h.2.2.1 p hp)⟩
    have : n * (n + 1) ≤ 20 * 21 := Nat.mul_le_mul hn20 (by omega)
    omega
  have HND : Hid ps.Nodup := by rw [HPS.out]; exact (pgs_spec HZO n).1
  have HALL : Hid (∀ W, Below w.heap.size w W → Calls Tryz.prog 6 #[.agg #[va, vv, vk]] W fun e w' => ∃ v2 v3 v4, e = .returned (.tuple #[v2, v3, v4]) ∧ ReadsD w' v2 (ks.map fun l => dig (topPg 0 l)) ∧ ReadsL w' v3 ps ∧ TrsR w' v4 ks ∧ Below W.heap.size W w') := fun W hW => by
    rw [HKS.out, HPS.out, HZ.out, HNN.out]
    exact all18_any va vv vk ds es bs W (hK.below hW hK.lt) (hA.below hW) (hV.below hW) (hB.below hW)
  obtain ⟨nd, HNDD⟩ : ∃ x, Hid (x = ps.filter (needB ks)) := ⟨_, rfl⟩
  have HN2 : Hid (Apart17 ps → (∀ l ∈ ks, GoodT nd l) ∧ Apart17 nd ∧ nd.filter (needB ks) = nd ∧ (nd.filter fun p => !needB ks p) = [] ∧ nd.length < 100000 ∧ (∀ p ∈ nd, p.length < 1000000)) := fun hap => by
    rw [HNDD.out]
    have hm : ∀ p ∈ ps.filter (needB ks), p ∈ ps := fun p hp => (List.mem_filter.1 hp).1
    refine ⟨fun l hl => ⟨(HG.out l hl).ok, (HG.out l hl).up, (HG.out l hl).few, fun p hp => List.mem_filter.2 ⟨(HG.out l hl).has p hp, needB_iff.2 ⟨l, hl, p, hp, rfl⟩⟩⟩, apart_of fun p hp q hq he => apart_mem hap p (hm p hp) q (hm q hq) he, ?_, ?_, Nat.lt_of_le_of_lt (List.length_filter_le _ _) HPL.out.1, fun p hp => Nat.lt_of_le_of_lt (HPL.out.2 p (hm p hp)).2 (by decide)⟩
    · rw [List.filter_filter]; simp
    · rw [List.filter_filter, List.filter_eq_nil_iff]
      intro p _
      cases needB ks p <;> simp
  obtain ⟨ada, cpa, hva⟩ := hA.slice
  obtain ⟨adv, cpv, hvv⟩ := hV.slice
  obtain ⟨adk, cpk, hvk, _⟩ := hB
  generalize ds.length = nA at hva
  generalize es.length = nV at hvv
  generalize bs.length = nK at hvk
  subst hva hvv hvk
  have HK : Hid (KOk w) := hK
  have HBW : Hid (Below w.heap.size w w) := Below.refl _ _
  clear hK hA hV HZO hn20
  go_enter Tryz.func4, Tryz.ntmps4
  have ta0 : Hid True := trivial
  have ta1 : Hid True := trivial
  have ta2 : Hid True := trivial
  have ta3 : Hid True := trivial
  have ta4 : Hid True := trivial
  have ta5 : Hid True := trivial
  have ta6 : Hid True := trivial
  have ta7 : Hid True := trivial
  go_upto_region 8 with (first
    | (clear ta0; with_reducible refine wpSeq_boxW 25 (.tmp 0) [Value.slice ada nA cpa, .slice adv nV cpv, .slice adk nK cpk] ?_ ?_ ?_ ?_
       · rfl
       · rfl
       · rfl
       intro g1 w1 nn
       have hb := nn.below
       have H1 : Hid (Blk w1 g1 [Value.slice ada nA cpa, .slice adv nV cpv, .slice adk nK cpk] 25) := nn.blk
       replace HBW : Hid (Below w.heap.size w w1) := HBW.out.trans (hb.mono HBW.out.size)
       clear nn hb)
    | (clear ta1; with_reducible refine wpSeq_loadW 25 (.tmp 1) g1 0 [Value.slice ada nA cpa, .slice adv nV cpv, .slice adk nK cpk] _ H1.out.range Tryz.underlying25 rfl info_trees18 ?_ ?_ ?_ ?_
       · rfl
       · rfl
       · rfl
       have HQ1 : Hid True := trivial)
    | (clear ta2; go_at_call 6; refine (HALL.out _ HBW.out).mono ?_; rintro e w2 ⟨v2, v3, v4, rfl, h2, h3, h4, hb⟩
       obtain ⟨a2, c2, e2⟩ := h2.slice
       obtain ⟨a3, c3, e3, _⟩ := id h3
       obtain ⟨a4, c4, e4, _⟩ := id h4
       rw [List.length_map] at e2
       obtain ⟨nk, HNK⟩ : ∃ z, Hid (z = ks.length) := ⟨_, rfl⟩
       obtain ⟨np, HNP⟩ : ∃ z, Hid (z = ps.length) := ⟨_, rfl⟩
       rw [← HNK.out] at e2 e4
       rw [← HNP.out] at e3
       subst e2 e3 e4
       have HD : Hid (ReadsD w2 (.slice a2 nk c2) (ks.map fun l => dig (topPg 0 l))) := h2
       have HL : Hid (ReadsL w2 (.slice a3 np c3) ps) := h3
       replace HBW : Hid (Below w.heap.size w w2) := HBW.out.trans (hb.mono HBW.out.size)
       clear h2 h3 h4 hb H1 HALL)
    | (clear ta3; go_at_call 7; refine (any9_any _ ps _ HL.out (fun p hp => Nat.lt_of_le_of_lt (HPL.out.2 p hp).2 (by decide)) (Nat.lt_trans HPL.out.1 (by decide))).mono ?_; rintro e w3 ⟨t, rfl, hap, hb⟩
       replace HD : Hid (ReadsD w3 (.slice a2 nk c2) (ks.map fun l => dig (topPg 0 l))) := HD.out.below hb
       replace HL : Hid (ReadsL w3 (.slice a3 np c3) ps) := HL.out.below hb
       replace HBW : Hid (Below w.heap.size w w3) := HBW.out.trans (hb.mono HBW.out.size)
       clear hb
       cases t <;> first | (have HAP : Hid (Apart17 ps) := hap rfl; clear hap) | clear hap)
    | (clear ta4; go_at_call 8; refine (works18_any _ (HK.out.below HBW.out HK.out.lt)).mono ?_; rintro e wz ⟨rfl, hz⟩
       have HBZ : Hid (Below w.heap.size w wz) := HBW.out.trans (hz.mono HBW.out.size)
       clear hz)
    | (clear ta5; go_at_call 9; refine (reapSplit_any _ _ ks ps _ (HK.out.below HBW.out HK.out.lt) HD.out HL.out HG.out HAP.out (Nat.le_trans HKL.out (by decide)) HPL.out.1 (fun p hp => Nat.lt_of_le_of_lt (HPL.out.2 p hp).2 (by decide))).mono ?_; rintro e w4 ⟨v6, v7, rfl, h1, h2, hb⟩
       rw [← HNDD.out] at h1
       obtain ⟨a6, c6, e6, _⟩ := id h1
       obtain ⟨a7, c7, e7, _⟩ := id h2
       generalize hn6 : nd.length = n6 at e6
       clear hn6
       generalize (ps.filter fun p => !needB ks p).length = n7 at e7
       subst e6 e7
       have H6 : Hid (ReadsL w4 (.slice a6 n6 c6) nd) := h1
       replace HD : Hid (ReadsD w4 (.slice a2 nk c2) (ks.map fun l => dig (topPg 0 l))) := HD.out.below hb
       replace HL : Hid (ReadsL w4 (.slice a3 np c3) ps) := HL.out.below hb
       replace HBW : Hid (Below w.heap.size w w4) := HBW.out.trans (hb.mono HBW.out.size)
       clear h1 h2 hb)
    | (clear ta6; go_at_call 9; refine (reapSplit_any _ _ ks nd _ (HK.out.below HBW.out HK.out.lt) HD.out H6.out (HN2.out HAP.out).1 (HN2.out HAP.out).2.1 (Nat.le_trans HKL.out (by decide)) (HN2.out HAP.out).2.2.2.2.1 (HN2.out HAP.out).2.2.2.2.2).mono ?_; rintro e w5 ⟨v9, v10, rfl, h1, h2, hb⟩
       rw [(HN2.out HAP.out).2.2.1] at h1
       rw [(HN2.out HAP.out).2.2.2.1] at h2
       obtain ⟨a9, c9, e9, _⟩ := id h1
       obtain ⟨a10, c10, e10, _⟩ := id h2
       generalize hn9 : nd.length = n9 at e9
       clear hn9
       have e10 : v10 = .slice a10 0 c10 := e10
       subst e9 e10
       have H9 : Hid (ReadsL w5 (.slice a9 n9 c9) nd) := h1
       replace HD : Hid (ReadsD w5 (.slice a2 nk c2) (ks.map fun l => dig (topPg 0 l))) := HD.out.below hb
       replace HL : Hid (ReadsL w5 (.slice a3 np c3) ps) := HL.out.below hb
       replace H6 : Hid (ReadsL w5 (.slice a6 n6 c6) nd) := H6.out.below hb
       replace HBW : Hid (Below w.heap.size w w5) := HBW.out.trans (hb.mono HBW.out.size)
       clear h1 h2 hb)
    | (clear ta7; go_at_call 11; refine (sametexts_any _ _ nd nd _ H6.out H9.out (Nat.lt_trans (HN2.out HAP.out).2.2.2.2.1 (by decide))).mono ?_; rintro e w6 ⟨rfl, qd, hq⟩
       rw [decide_eq_true (rfl : nd = nd)]
       have hb : Below w5.heap.size w5 w6 := by rw [hq]; exact below_drewN18 _ _
       clear hq
       replace HD : Hid (ReadsD w6 (.slice a2 nk c2) (ks.map fun l => dig (topPg 0 l))) := HD.out.below hb
       replace HL : Hid (ReadsL w6 (.slice a3 np c3) ps) := HL.out.below hb
       replace HBW : Hid (Below w.heap.size w w6) := HBW.out.trans (hb.mono HBW.out.size)
       clear hb H6 H9))
  · by_cases hk0 : nk = 0
    case pos =>
      have e1 : ((nk : Int) == 0) = true := by rw [hk0]; rfl
      clear hk0
      have tb0 : Hid True := trivial
      go_wp2_with (first
        | (clear tb0; go_at_call 8; refine (works18_any _ (HK.out.below HBW.out HK.out.lt)).mono ?_; rintro e wz ⟨rfl, hz⟩
           have HBZ : Hid (Below w.heap.size w wz) := HBW.out.trans (hz.mono HBW.out.size)
           clear hz))
      go_ret
      exact ⟨rfl, HBZ.out⟩
    case neg =>
      have e1 : ((nk : Int) == 0) = false := by rw [beq_eq_false_iff_ne]; omega
      have hkp : 0 < (ks.map fun l => dig (topPg 0 l)).length := by rw [List.length_map, ← HNK.out]; omega
      obtain ⟨b2, o2, c2b, e2, _⟩ := HD.out.at hkp
      simp only [Value.slice.injEq] at e2
      obtain ⟨rfl, hcx, rfl⟩ := e2
      clear hcx
      have HLN : Hid (∀ {ts : List Dg}, (RiseD ts ∧ ∀ x : Dg, x ∈ ts ↔ keyIn ks x.1) → ts.length < 1000000) := fun h => by
        refine Nat.lt_of_le_of_lt (live_few h.1 h.2 fun l hl => (HG.out l hl).fits) ?_
        have h1 := mostL_le (ks := ks) HLL.out
        have h2 := HKL.out
        omega
      obtain ⟨ks1, HKS1⟩ : ∃ x, Hid (x = ks.drop 1) := ⟨_, rfl⟩
      have HM1 : Hid (∀ l ∈ ks1, l ∈ ks) := by rw [HKS1.out]; exact fun l hl => List.mem_of_mem_drop hl
      have HT0 : Hid (ReadsD w6 (.slice (some ⟨b2, if c2 = 1 then o2 else o2 + 1 * 32, none⟩) (nk - 1) (c2 - 1)) (ks1.map fun l => dig (topPg 0 l))) := by
        show ReadsD _ _ _
        rw [HKS1.out, List.map_drop]
        exact readsD_tail HD.out (by omega)
      have sh0 : ∀ W, (Instr.sliceAt 22 (.slice (some ⟨b2, o2, none⟩) nk c2) (some (.int .i64 1)) none none).run Tryz.prog W = .ok (.slice (some ⟨b2, if c2 = 1 then o2 else o2 + 1 * 32, none⟩) (nk - 1) (c2 - 1)) W := fun W => xHiD b2 o2 nk c2 1 (by omega) W
      generalize (if c2 = 1 then o2 else o2 + 1 * 32) = o3 at HT0 sh0
      generalize nk - 1 = nk1 at HT0 sh0
      generalize c2 - 1 = c21 at HT0 sh0
      clear hkp hk0
      have tc0 : Hid True := trivial
      have tc1 : Hid True := trivial
      go_wp2_with (first
        | (clear tc0; go_at_call 12; refine (live_any _ _ ks ps _ (HK.out.below HBW.out HK.out.lt) HD.out HL.out HG.out HAP.out HKL.out HPL.out.1 (fun p hp => Nat.lt_of_le_of_lt (HPL.out.2 p hp).2 (by decide))).mono ?_; rintro e w7 ⟨v12, ts1, rfl, h1, h2, h3, hb⟩
           obtain ⟨a12, c12, e6⟩ := h3.slice
           rw [List.length_map] at e6
           obtain ⟨n12, Hn12⟩ : ∃ z, Hid (z = ts1.length) := ⟨_, rfl⟩
           rw [← Hn12.out] at e6
           subst e6
           have HT1 : Hid (RiseD ts1 ∧ (∀ x : Dg, x ∈ ts1 ↔ keyIn ks x.1)) := ⟨h1, h2⟩
           have HR1 : Hid (ReadsD w7 (.slice a12 n12 c12) (ts1.map (·.1))) := h3.readsD
           replace HL : Hid (ReadsL w7 (.slice a3 np c3) ps) := HL.out.below hb
           replace HT0 : Hid (ReadsD w7 (.slice (some ⟨b2, o3, none⟩) nk1 c21) (ks1.map fun l => dig (topPg 0 l))) := HT0.out.below hb
           clear HD
           replace HBW : Hid (Below w.heap.size w w7) := HBW.out.trans (hb.mono HBW.out.size)
           clear h1 h2 h3 hb)
        | (clear tc1; go_at_call 12; refine (live_any _ _ ks1 ps _ (HK.out.below HBW.out HK.out.lt) HT0.out HL.out (fun l hl => HG.out l (HM1.out l hl)) HAP.out (by rw [HKS1.out, List.length_drop]; have := HKL.out; omega) HPL.out.1 (fun p hp => Nat.lt_of_le_of_lt (HPL.out.2 p hp).2 (by decide))).mono ?_; rintro e w8 ⟨v14, ts2, rfl, h1, h2, h3, hb⟩
           obtain ⟨a14, c14, e6⟩ := h3.slice
           rw [List.length_map] at e6
           obtain ⟨n14, Hn14⟩ : ∃ z, Hid (z = ts2.length) := ⟨_, rfl⟩
           rw [← Hn14.out] at e6
           subst e6
           have HT2 : Hid (RiseD ts2 ∧ (∀ x : Dg, x ∈ ts2 ↔ keyIn ks1 x.1)) := ⟨h1, h2⟩
           have HR2 : Hid (ReadsD w8 (.slice a14 n14 c14) (ts2.map (·.1))) := h3.readsD
           replace HR1 : Hid (ReadsD w8 (.slice a12 n12 c12) (ts1.map (·.1))) := HR1.out.below hb
           have HSB : Hid (∀ x ∈ ts2, x ∈ ts1) := fun x hx => by
             obtain ⟨l, hl, h⟩ := (h2 x).1 hx
             exact (HT1.out.2 x).2 ⟨l, HM1.out l hl, h⟩
           have hgt : ¬ ((n12 : Int) < (n14 : Int)) := by
             have h := nodup_sub_len (rise_nd2 h1) HSB.out
             rw [Hn12.out, Hn14.out]
             omega
           have hgt2 : ¬ (n12 < n14) := by omega
           replace HBW : Hid (Below w.heap.size w w8) := HBW.out.trans (hb.mono HBW.out.size)
           clear h1 h2 h3 hb))
      clear HL HT0 HG HAP HN2 hgt hgt2 sh0
      have HN14 : Hid (n14 ≤ n12 ∧ n14 < 1000000) := by
        have h := nodup_sub_len (rise_nd2 HT2.out.1) HSB.out
        have h2 := HLN.out HT1.out
        rw [← Hn12.out, ← Hn14.out] at h
        rw [← Hn12.out] at h2
        exact ⟨h, by omega⟩
      have HNB : Hid (n12 < 1000000) := by have h2 := HLN.out HT1.out; rw [← Hn12.out] at h2; exact h2
      go_loopw [16, 17] (fun u v W => ∃ (m i : Nat), i ≤ n12 ∧ m ≤ n14 ∧ u = .int .i64 (m : Int) ∧ v = .int .i64 (i : Int) ∧ Hid ((ts1.take i).filter (fun x => decide (x ∈ ts2)) = ts2.take m) ∧ Hid (Below w8.heap.size w8 W)) (fun _ v _ => n12 - (intOf v).toNat)
      case atStart => exact ⟨0, 0, Nat.zero_le _, Nat.zero_le _, rfl, rfl, rfl, Below.refl _ _⟩
      case round =>
        obtain ⟨m, i, hi, hm, rfl, rfl, HF, HW⟩ := hrel
        by_cases hil : i < n12
        case pos =>
          have hili : (i : Int) < (n12 : Int) := by omega
          have fi : IntKind.i64.wrap ((i : Int) + 1) = (i : Int) + 1 := by rw [IntKind.wrap_i64]; have := HNB.out; omega
          have hi1 : i < ts1.length := by rw [← Hn12.out]; exact hil
          have HST : Hid (_ ∧ _) := step_in HT1.out.1 HT2.out.1 HSB.out hi1 (by rw [← Hn14.out]; exact hm) HF.out
          obtain ⟨x, HXD⟩ : ∃ x, Hid (x = (ts1[i]'hi1).1) := ⟨_, rfl⟩
          have HXL : Hid (x.length = 32) := by show _ = _; rw [HXD.out]; exact (ts1[i]'hi1).2
          obtain ⟨b6, o6, c6b, e6, hy6⟩ := HR1.out.at (by rw [List.length_map]; omega)
          rw [List.length_map, ← Hn12.out] at e6
          simp only [Value.slice.injEq, true_and] at e6
          obtain ⟨rfl, rfl⟩ := e6
          have hr6 := hy6 i (by rw [List.length_map]; exact hi1)
          rw [show (ts1.map (·.1)).getD i [] = x from by rw [HXD.out, List.getD_eq_getElem?_getD, List.getElem?_map, List.getElem?_eq_getElem hi1, Option.map_some, Option.getD_some]] at hr6
          have HX6 : Hid (∀ W, Below w8.heap.size w8 W → W.rangeAt b6 (o6 + i * 32) (cb x)) := fun W hW => rangeAt_grow hr6 hW
          clear hy6 hr6
          by_cases hml : m < n14
          case pos =>
            have hmli : (m : Int) < (n14 : Int) := by omega
            have fm : IntKind.i64.wrap ((m : Int) + 1) = (m : Int) + 1 := by rw [IntKind.wrap_i64]; have := HN14.out; omega
            have hm2 : m < ts2.length := by rw [← Hn14.out]; exact hml
            obtain ⟨y, HYD⟩ : ∃ y, Hid (y = (ts2[m]'hm2).1) := ⟨_, rfl⟩
            have HYL : Hid (y.length = 32) := by show _ = _; rw [HYD.out]; exact (ts2[m]'hm2).2
            obtain ⟨b7, o7, c7b, e7, hy7⟩ := HR2.out.at (by rw [List.length_map]; omega)
            rw [List.length_map, ← Hn14.out] at e7
            simp only [Value.slice.injEq, true_and] at e7
            obtain ⟨rfl, rfl⟩ := e7
            have hr7 := hy7 m (by rw [List.length_map]; exact hm2)
            rw [show (ts2.map (·.1)).getD m [] = y from by rw [HYD.out, List.getD_eq_getElem?_getD, List.getElem?_map, List.getElem?_eq_getElem hm2, Option.map_some, Option.getD_some]] at hr7
            have HX7 : Hid (∀ W, Below w8.heap.size w8 W → W.rangeAt b7 (o7 + m * 32) (cb y)) := fun W hW => rangeAt_grow hr7 hW
            have hst := HST.out
            obtain ⟨t2, HT3⟩ : ∃ z : Bool, Hid (z = decide (x = y)) := ⟨_, rfl⟩
            have HR3 : Hid ((t2 = true → (ts1.take (i + 1)).filter (fun x => decide (x ∈ ts2)) = ts2.take (m + 1)) ∧ (t2 = false → (ts1.take (i + 1)).filter (fun x => decide (x ∈ ts2)) = ts2.take m)) := by
              rw [HT3.out]
              refine ⟨fun h => hst.1 hm2 (Subtype.ext ?_), fun h => hst.2 fun _ e => ?_⟩
              · have := of_decide_eq_true h
                rw [← HXD.out, ← HYD.out]; exact this
              · refine of_decide_eq_false h ?_
                rw [HXD.out, HYD.out, e]
            have hq : ∀ wx : World, (Op.equalIn 10000 40 (.agg (cb x).toArray) (.agg (cb y).toArray)).run Tryz.prog wx = .ok t2 wx := fun wx => by rw [HT3.out]; exact eq_dig x y HXL.out HYL.out wx
            clear hy7 hr7 hst HST HYD HXD hm2 hi1
            go_wp2_with fail
            refine wp_region_held_drew (S := fun wx => Below w8.heap.size w8 wx) (by kernel_rfl) HW.out.drew ?_
            intro hS
            change wpAnyH _ _ _ _ _ _ _ _ (World.drew wr)
            generalize World.drew wr = wd at *
            refine wpAnyH_take (i := 0) (v := .int .i64 (m : Int)) rfl (by kernel_rfl) (by kernel_rfl) (by kernel_rfl) (fun _ _ _ h => h) (Or.inl ⟨by rfl, fun wx hx => by simp [go_sem]⟩) hS ?_
            simp only [Act.put, List.getElem_toArray, List.getElem_cons_zero, List.setIfInBounds_toArray, List.set_cons_zero, List.set_cons_succ]
            refine wpAnyH_take (i := 1) (v := .slice (some ⟨b7, o7, none⟩) n14 c14) rfl (by kernel_rfl) (by kernel_rfl) (by kernel_rfl) (fun _ _ _ h => h) (Or.inl ⟨by rfl, fun wx hx => by simp [go_sem]⟩) hS ?_
            simp only [Act.put, List.getElem_toArray, List.getElem_cons_succ, List.getElem_cons_zero, List.setIfInBounds_toArray, List.set_cons_zero, List.set_cons_succ]
            refine wpAnyH_take (i := 2) (v := .int .i64 (n14 : Int)) rfl (by kernel_rfl) (by kernel_rfl) (by kernel_rfl) (fun _ _ _ h => h) (Or.inl ⟨by rfl, fun wx hx => by simp [go_sem]⟩) hS ?_
            simp only [Act.put, List.getElem_toArray, List.getElem_cons_succ, List.getElem_cons_zero, List.setIfInBounds_toArray, List.set_cons_zero, List.set_cons_succ]
            refine wpAnyH_take (i := 3) (v := .bool true) rfl (by kernel_rfl) (by kernel_rfl) (by kernel_rfl) (fun _ _ _ h => h) (Or.inl ⟨by rfl, fun wx hx => by simp [go_sem, hmli]⟩) hS ?_
            simp only [Act.put, List.getElem_toArray, List.getElem_cons_succ, List.getElem_cons_zero, List.setIfInBounds_toArray, List.set_cons_zero, List.set_cons_succ]
            refine wpAnyH_take (i := 4) (v := .bool true) rfl (by kernel_rfl) (by kernel_rfl) (by kernel_rfl) (fun _ _ _ h => h) (Or.inl ⟨by rfl, fun wx hx => by simp [go_sem]⟩) hS ?_
            simp only [Act.put, List.getElem_toArray, List.getElem_cons_succ, List.getElem_cons_zero, List.setIfInBounds_toArray, List.set_cons_zero, List.set_cons_succ]
            refine wpAnyH_take (i := 5) (v := .slice (some ⟨b6, o6, none⟩) n12 c12) rfl (by kernel_rfl) (by kernel_rfl) (by kernel_rfl) (fun _ _ _ h => h) (Or.inl ⟨by rfl, fun wx hx => by simp [go_sem]⟩) hS ?_
            simp only [Act.put, List.getElem_toArray, List.getElem_cons_succ, List.getElem_cons_zero, List.setIfInBounds_toArray, List.set_cons_zero, List.set_cons_succ]
            refine wpAnyH_take (i := 6) (v := .int .i64 (i : Int)) rfl (by kernel_rfl) (by kernel_rfl) (by kernel_rfl) (fun _ _ _ h => h) (Or.inl ⟨by rfl, fun wx hx => by simp [go_sem]⟩) hS ?_
            simp only [Act.put, List.getElem_toArray, List.getElem_cons_succ, List.getElem_cons_zero, List.setIfInBounds_toArray, List.set_cons_zero, List.set_cons_succ]
            refine wpAnyH_take (i := 7) (v := .pointer (some ⟨b6, o6 + i * 32, none⟩)) rfl (by kernel_rfl) (by kernel_rfl) (by kernel_rfl) (fun _ _ _ h => h) (Or.inl ⟨by rfl, fun wx hx => by exact idxD17 b6 o6 c12 n12 i hil _ _ (.tmp 99) (.tmp 100) rfl rfl rfl wx⟩) hS ?_
            simp only [Act.put, List.getElem_toArray, List.getElem_cons_succ, List.getElem_cons_zero, List.setIfInBounds_toArray, List.set_cons_zero, List.set_cons_succ]
            refine wpAnyH_take (i := 8) (v := .agg (cb x).toArray) rfl (by kernel_rfl) (by kernel_rfl) (by kernel_rfl) (fun _ _ _ h => h) (Or.inl ⟨by rfl, fun wx hx => by exact load_run 40 (.tmp 101) rfl b6 (o6 + i * 32) rfl (cb x) _ (HX6.out wx hx) Tryz.underlying40 rfl (by rw [cb_len, HXL.out]; exact info_digest)⟩) hS ?_
            simp only [Act.put, List.getElem_toArray, List.getElem_cons_succ, List.getElem_cons_zero, List.setIfInBounds_toArray, List.set_cons_zero, List.set_cons_succ]
            refine wpAnyH_take (i := 9) (v := .slice (some ⟨b7, o7, none⟩) n14 c14) rfl (by kernel_rfl) (by kernel_rfl) (by kernel_rfl) (fun _ _ _ h => h) (Or.inl ⟨by rfl, fun wx hx => by simp [go_sem]⟩) hS ?_
            simp only [Act.put, List.getElem_toArray, List.getElem_cons_succ, List.getElem_cons_zero, List.setIfInBounds_toArray, List.set_cons_zero, List.set_cons_succ]
            refine wpAnyH_take (i := 10) (v := .int .i64 (m : Int)) rfl (by kernel_rfl) (by kernel_rfl) (by kernel_rfl) (fun _ _ _ h => h) (Or.inl ⟨by rfl, fun wx hx => by simp [go_sem]⟩) hS ?_
            simp only [Act.put, List.getElem_toArray, List.getElem_cons_succ, List.getElem_cons_zero, List.setIfInBounds_toArray, List.set_cons_zero, List.set_cons_succ]
            refine wpAnyH_take (i := 11) (v := .pointer (some ⟨b7, o7 + m * 32, none⟩)) rfl (by kernel_rfl) (by kernel_rfl) (by kernel_rfl) (fun _ _ _ h => h) (Or.inl ⟨by rfl, fun wx hx => by exact idxD17 b7 o7 c14 n14 m hml _ _ (.tmp 103) (.tmp 104) rfl rfl rfl wx⟩) hS ?_
            simp only [Act.put, List.getElem_toArray, List.getElem_cons_succ, List.getElem_cons_zero, List.setIfInBounds_toArray, List.set_cons_zero, List.set_cons_succ]
            refine wpAnyH_take (i := 12) (v := .agg (cb y).toArray) rfl (by kernel_rfl) (by kernel_rfl) (by kernel_rfl) (fun _ _ _ h => h) (Or.inl ⟨by rfl, fun wx hx => by exact load_run 40 (.tmp 105) rfl b7 (o7 + m * 32) rfl (cb y) _ (HX7.out wx hx) Tryz.underlying40 rfl (by rw [cb_len, HYL.out]; exact info_digest)⟩) hS ?_
            simp only [Act.put, List.getElem_toArray, List.getElem_cons_succ, List.getElem_cons_zero, List.setIfInBounds_toArray, List.set_cons_zero, List.set_cons_succ]
            refine wpAnyH_take (i := 13) (v := .bool t2) rfl (by kernel_rfl) (by kernel_rfl) (by kernel_rfl) (fun _ _ _ h => h) (Or.inl ⟨by rfl, fun wx hx => by simp [go_sem, hq]⟩) hS ?_
            simp only [Act.put, List.getElem_toArray, List.getElem_cons_succ, List.getElem_cons_zero, List.setIfInBounds_toArray, List.set_cons_zero, List.set_cons_succ]
            refine wpAnyH_take (i := 14) (v := .bool t2) rfl (by kernel_rfl) (by kernel_rfl) (by kernel_rfl) (fun _ _ _ h => h) (Or.inl ⟨by rfl, fun wx hx => by simp [go_sem]⟩) hS ?_
            simp only [Act.put, List.getElem_toArray, List.getElem_cons_succ, List.getElem_cons_zero, List.setIfInBounds_toArray, List.set_cons_zero, List.set_cons_succ]
            refine wpAnyH_done (by kernel_rfl) ?_ _
            have HSY : Hid (Below w8.heap.size w8 wd) := hS
            have HML : Hid (m + 1 ≤ n14 ∧ m ≤ n14) := ⟨hml, hm⟩
            clear hq hS
            cases t2
            · have HG3 : Hid ((ts1.take (i + 1)).filter (fun x => decide (x ∈ ts2)) = ts2.take m) := HR3.out.2 rfl
              clear HR3 HT3
              go_wp2
              go_roundw
              case rel => exact ⟨m, i + 1, by omega, HML.out.2, rfl, by simp, HG3.out, HSY.out⟩
              case measure => simp [intOf]; omega
            · have HG3 : Hid ((ts1.take (i + 1)).filter (fun x => decide (x ∈ ts2)) = ts2.take (m + 1)) := HR3.out.1 rfl
              clear HR3 HT3
              go_wp2
              go_roundw
              case rel => exact ⟨m + 1, i + 1, by omega, HML.out.1, by simp, by simp, HG3.out, HSY.out⟩
              case measure => simp [intOf]; omega
          case neg =>
            have hmn : ¬ ((m : Int) < (n14 : Int)) := by omega
            have HG3 : Hid ((ts1.take (i + 1)).filter (fun x => decide (x ∈ ts2)) = ts2.take m) := HST.out.2 fun h => absurd h (by rw [← Hn14.out]; exact hml)
            clear HST HXD hi1
            go_wp2_with fail
            refine wp_region_held_drew (S := fun wx => Below w8.heap.size w8 wx) (by kernel_rfl) HW.out.drew ?_
            intro hS
            change wpAnyH _ _ _ _ _ _ _ _ (World.drew wr)
            generalize World.drew wr = wd at *
            refine wpAnyH_take (i := 0) (v := .int .i64 (m : Int)) rfl (by kernel_rfl) (by kernel_rfl) (by kernel_rfl) (fun _ _ _ h => h) (Or.inl ⟨by rfl, fun wx hx => by simp [go_sem]⟩) hS ?_
            simp only [Act.put, List.getElem_toArray, List.getElem_cons_zero, List.setIfInBounds_toArray, List.set_cons_zero, List.set_cons_succ]
            refine wpAnyH_take (i := 1) (v := .slice a14 n14 c14) rfl (by kernel_rfl) (by kernel_rfl) (by kernel_rfl) (fun _ _ _ h => h) (Or.inl ⟨by rfl, fun wx hx => by simp [go_sem]⟩) hS ?_
            simp only [Act.put, List.getElem_toArray, List.getElem_cons_succ, List.getElem_cons_zero, List.setIfInBounds_toArray, List.set_cons_zero, List.set_cons_succ]
            refine wpAnyH_take (i := 2) (v := .int .i64 (n14 : Int)) rfl (by kernel_rfl) (by kernel_rfl) (by kernel_rfl) (fun _ _ _ h => h) (Or.inl ⟨by rfl, fun wx hx => by simp [go_sem]⟩) hS ?_
            simp only [Act.put, List.getElem_toArray, List.getElem_cons_succ, List.getElem_cons_zero, List.setIfInBounds_toArray, List.set_cons_zero, List.set_cons_succ]
            refine wpAnyH_take (i := 3) (v := .bool false) rfl (by kernel_rfl) (by kernel_rfl) (by kernel_rfl) (fun _ _ _ h => h) (Or.inl ⟨by rfl, fun wx hx => by (simp [go_sem]; omega)⟩) hS ?_
            simp only [Act.put, List.getElem_toArray, List.getElem_cons_succ, List.getElem_cons_zero, List.setIfInBounds_toArray, List.set_cons_zero, List.set_cons_succ]
            refine wpAnyH_take (i := 4) (v := .bool false) rfl (by kernel_rfl) (by kernel_rfl) (by kernel_rfl) (fun _ _ _ h => h) (Or.inl ⟨by rfl, fun wx hx => by simp [go_sem]⟩) hS ?_
            simp only [Act.put, List.getElem_toArray, List.getElem_cons_succ, List.getElem_cons_zero, List.setIfInBounds_toArray, List.set_cons_zero, List.set_cons_succ]
            refine wpAnyH_take (i := 5) (v := undef) rfl (by kernel_rfl) (by kernel_rfl) (by kernel_rfl) (fun _ _ _ h => h) (Or.inr ⟨by rfl, rfl⟩) hS ?_
            simp only [Act.put, List.getElem_toArray, List.getElem_cons_succ, List.getElem_cons_zero, List.setIfInBounds_toArray, List.set_cons_zero, List.set_cons_succ]
            refine wpAnyH_take (i := 6) (v := undef) rfl (by kernel_rfl) (by kernel_rfl) (by kernel_rfl) (fun _ _ _ h => h) (Or.inr ⟨by rfl, rfl⟩) hS ?_
            simp only [Act.put, List.getElem_toArray, List.getElem_cons_succ, List.getElem_cons_zero, List.setIfInBounds_toArray, List.set_cons_zero, List.set_cons_succ]
            refine wpAnyH_take (i := 7) (v := undef) rfl (by kernel_rfl) (by kernel_rfl) (by kernel_rfl) (fun _ _ _ h => h) (Or.inr ⟨by rfl, rfl⟩) hS ?_
            simp only [Act.put, List.getElem_toArray, List.getElem_cons_succ, List.getElem_cons_zero, List.setIfInBounds_toArray, List.set_cons_zero, List.set_cons_succ]
            refine wpAnyH_take (i := 8) (v := undef) rfl (by kernel_rfl) (by kernel_rfl) (by kernel_rfl) (fun _ _ _ h => h) (Or.inr ⟨by rfl, rfl⟩) hS ?_
            simp only [Act.put, List.getElem_toArray, List.getElem_cons_succ, List.getElem_cons_zero, List.setIfInBounds_toArray, List.set_cons_zero, List.set_cons_succ]
            refine wpAnyH_take (i := 9) (v := undef) rfl (by kernel_rfl) (by kernel_rfl) (by kernel_rfl) (fun _ _ _ h => h) (Or.inr ⟨by rfl, rfl⟩) hS ?_
            simp only [Act.put, List.getElem_toArray, List.getElem_cons_succ, List.getElem_cons_zero, List.setIfInBounds_toArray, List.set_cons_zero, List.set_cons_succ]
            refine wpAnyH_take (i := 10) (v := undef) rfl (by kernel_rfl) (by kernel_rfl) (by kernel_rfl) (fun _ _ _ h => h) (Or.inr ⟨by rfl, rfl⟩) hS ?_
            simp only [Act.put, List.getElem_toArray, List.getElem_cons_succ, List.getElem_cons_zero, List.setIfInBounds_toArray, List.set_cons_zero, List.set_cons_succ]
            refine wpAnyH_take (i := 11) (v := undef) rfl (by kernel_rfl) (by kernel_rfl) (by kernel_rfl) (fun _ _ _ h => h) (Or.inr ⟨by rfl, rfl⟩) hS ?_
            simp only [Act.put, List.getElem_toArray, List.getElem_cons_succ, List.getElem_cons_zero, List.setIfInBounds_toArray, List.set_cons_zero, List.set_cons_succ]
            refine wpAnyH_take (i := 12) (v := undef) rfl (by kernel_rfl) (by kernel_rfl) (by kernel_rfl) (fun _ _ _ h => h) (Or.inr ⟨by rfl, rfl⟩) hS ?_
            simp only [Act.put, List.getElem_toArray, List.getElem_cons_succ, List.getElem_cons_zero, List.setIfInBounds_toArray, List.set_cons_zero, List.set_cons_succ]
            refine wpAnyH_take (i := 13) (v := undef) rfl (by kernel_rfl) (by kernel_rfl) (by kernel_rfl) (fun _ _ _ h => h) (Or.inr ⟨by rfl, rfl⟩) hS ?_
            simp only [Act.put, List.getElem_toArray, List.getElem_cons_succ, List.getElem_cons_zero, List.setIfInBounds_toArray, List.set_cons_zero, List.set_cons_succ]
            refine wpAnyH_take (i := 14) (v := .bool false) rfl (by kernel_rfl) (by kernel_rfl) (by kernel_rfl) (fun _ _ _ h => h) (Or.inl ⟨by rfl, fun wx hx => by simp [go_sem]⟩) hS ?_
            simp only [Act.put, List.getElem_toArray, List.getElem_cons_succ, List.getElem_cons_zero, List.setIfInBounds_toArray, List.set_cons_zero, List.set_cons_succ]
            refine wpAnyH_done (by kernel_rfl) ?_ _
            have HSY : Hid (Below w8.heap.size w8 wd) := hS
            clear hS
            go_wp2
            go_roundw
            case rel => exact ⟨m, i + 1, by omega, hm, rfl, by simp, HG3.out, HSY.out⟩
            case measure => simp [intOf]; omega
        case neg =>
          have hie : i = n12 := by omega
          have hme : m = n14 := by
            rw [Hn14.out]
            refine end_in HT2.out.1 HSB.out (by rw [← Hn14.out]; exact hm) ?_
            have h := HF.out
            rw [hie, Hn12.out, List.take_length] at h
            exact h
          have hnl : ¬ ((i : Int) < (n12 : Int)) := by omega
          have HBQ : Hid (Below w.heap.size w wr) := HBW.out.trans (HW.out.mono HBW.out.size)
          subst hme
          clear hie HF
          have tf0 : Hid True := trivial
          go_wp2_with (first
            | (clear tf0; go_at_call 8; refine (works18_any _ (HK.out.below HBQ.out HK.out.lt)).mono ?_; rintro e wz ⟨rfl, hz⟩
               have HBZ : Hid (Below w.heap.size w wz) := HBQ.out.trans (hz.mono HBQ.out.size)
               clear hz))
          go_ret
          exact ⟨rfl, HBZ.out⟩
  · go_ret
    exact ⟨rfl, HBZ.out⟩
end Go.Proofs.YtphmmnffgknkcabGreatDoor
namespace Go.Proofs.YtphmmnffgknkcabGreatDoor
open Go.ChangeShapes Go.WideShapes Go.ChangeAt Go.WideMaps Go.WideElems Go.RowKit
set_option maxRecDepth 100000
theorem own : ownKnob Tryz.prog.godebug = none := by kernel_rfl
theorem gKw : Tryz.prog.globalNamed "blazon/sha.roundWords" = some 1 := by kernel_rfl
theorem tKw : (Tryz.prog.globals[1]?).map (·.type) = some 123 := by kernel_rfl
def laidK : List (String × DataW Unit) := [("blazon/sha.roundWords", Rows.laid_blazon_sha_roundWords)]
def kzs : List Int := kw.map fun x => (x.toNat : Int)
theorem laid_tab : (Rows.laid_blazon_sha_roundWords : DataW Unit) = Lib.tabData .u32 kzs := by kernel_rfl
theorem door_met (os : Os) (args : Array Value) : laidMetH Tryz.prog laidK ((World.doorLaid Tryz.prog 400 os).forCall (fun _ _ => 0) ⟨#[], args, []⟩).memory :=
  laidMetH_of_parts3 (fuel := 8) (laidMet_of_run' 8 (by kernel_rfl) (by kernel_rfl)) (by kernel_rfl) (by kernel_rfl)
theorem getD_toNat (l : List (BitVec 32)) (j : Nat) : (l.map fun x => (x.toNat : Int)).getD j 0 = ((l.getD j 0).toNat : Int) := by
  rw [List.getD_eq_getElem?_getD, List.getD_eq_getElem?_getD, List.getElem?_map]
  cases l[j]? <;> rfl
theorem kok_of_laid {W : World} (h : laidMetH Tryz.prog laidK W) : KOk W := by
  rw [MakeChecks.laidMetH_plain _ _ _ (by kernel_rfl)] at h
  unfold laidK at h
  rw [laid_tab] at h
  have hT := Lib.tabIs_of_head gKw tKw Tryz.underlying123 Tryz.underlying87 (by kernel_rfl) (by kernel_rfl) h
  intro j hj
  rw [hT.cell gKw j (by simpa [kzs, kw] using hj), kzs, getD_toNat]
end Go.Proofs.YtphmmnffgknkcabGreatDoor
namespace Go.Proofs.YtphmmnffgknkcabGreatDoor
open Go.ChangeShapes Go.WideShapes Go.ChangeAt Go.WideMaps Go.WideElems Go.RowKit
set_option maxRecDepth 100000
theorem cells_byte : Tryz.prog.cellsOf 5 = 1 := by kernel_rfl
theorem laid_out : laidOutB Tryz.prog = true := by kernel_rfl
end Go.Proofs.YtphmmnffgknkcabGreatDoor
namespace Go.Proofs.YtphmmnffgknkcabGreatDoor
open Go.ChangeShapes Go.WideShapes Go.ChangeAt Go.WideMaps Go.WideElems Go.RowKit
set_option maxRecDepth 100000
theorem cells_digest : Tryz.prog.cellsOf 40 = 32 := by kernel_rfl
def numOf8 : Value → BitVec 8
  | .int _ n => BitVec.ofInt 8 n
  | _ => 0
end Go.Proofs.YtphmmnffgknkcabGreatDoor
namespace Go.Proofs.YtphmmnffgknkcabGreatDoor
open Go.ChangeShapes Go.WideShapes Go.ChangeAt Go.WideMaps Go.WideElems Go.RowKit
set_option maxRecDepth 100000
set_option maxRecDepth 100000 in
theorem bulk_pos {H : Type} (d : DataW H) : 1 ≤ Rows.uptoBulk d := by
  cases d with
  | lit l => cases l <;> simp [Rows.uptoBulk]
  | _ => simp [Rows.uptoBulk]
set_option maxRecDepth 100000 in
theorem bulk_slice {H : Type} (e s : List (DataW H)) : Rows.uptoBulkAll e ≤ Rows.uptoBulk (DataW.slice e s) := by
  simp only [Rows.uptoBulk]; omega
set_option maxRecDepth 100000 in
theorem bulk_len {H : Type} : ∀ l : List (DataW H), l.length ≤ Rows.uptoBulkAll l
  | [] => Nat.zero_le _
  | d :: r => by
    have h1 := bulk_len r
    have h2 := bulk_pos d
    simp only [Rows.uptoBulkAll, List.length_cons]
    omega
theorem digest_of_cells {H : Type} {enc : TypeId × Value → H} {W : World} {cs : List Value} {d : DataW H} {p : List MemPlace} {fuel : Nat} (hf : DataW.trod enc Tryz.prog W 0 (fun _ => true) true fuel 40 cs = some (d, p)) :
    ∃ dg, cs = cb dg ∧ dg.length = 32 ∧ ∀ x ∈ p, x.block < W.heap.size := by
  obtain ⟨xs, m, _, hx, hl, hn, hi⟩ := DataW.trod_array Tryz.underlying40 hf
  rw [cells_digest] at hl
  rw [cells_byte] at hi
  have each : ∀ i, i < 32 → ∃ n, cs[i]? = some (.int .u8 n) ∧ xs[i]? = some (.lit (.int .u8 n), []) ∧ (Lit.int .u8 n).wf = true := by
    intro i h32
    have h1 := hi i h32
    rw [List.getElem?_eq_getElem (by omega)] at h1
    obtain ⟨n, hc, hxx, hw⟩ := DataW.trod_int Tryz.underlying5 h1
    refine ⟨n, ?_, by rw [List.getElem?_eq_getElem (by omega), hxx], hw⟩
    rw [Nat.mul_one] at hc
    have h2 := congrArg (fun l => l[0]?) hc
    simpa using h2
  have hlen : (cs.map numOf8).length = 32 := by simpa using hl
  refine ⟨cs.map numOf8, ?_, hlen, ?_⟩
  · apply List.ext_getElem?
    intro i
    by_cases h32 : i < 32
    · obtain ⟨n, h1, _, hw⟩ := each i h32
      have hb := bounds_u8 hw
      rw [h1, cb_get _ _ (by omega), List.getD_eq_getElem?_getD, List.getElem?_map, h1]
      simp only [Option.map_some, Option.getD_some, numOf8, BitVec.toNat_ofInt]
      congr 2
      omega
    · rw [List.getElem?_eq_none (by omega), List.getElem?_eq_none (by rw [cb_len]; omega)]
  · simp only [Prod.mk.injEq] at hx
    rw [hx.2]
    intro x hmem
    obtain ⟨y, hy, hxy⟩ := List.mem_flatMap.1 hmem
    obtain ⟨i, hlt, rfl⟩ := List.getElem_of_mem hy
    obtain ⟨n, _, h2, _⟩ := each i (by omega)
    rw [List.getElem?_eq_getElem hlt] at h2
    rw [Option.some.inj h2] at hxy
    cases hxy
end Go.Proofs.YtphmmnffgknkcabGreatDoor
namespace Go.Proofs.YtphmmnffgknkcabGreatDoor
open Go.ChangeShapes Go.WideShapes Go.ChangeAt Go.WideMaps Go.WideElems Go.RowKit
set_option maxRecDepth 100000
set_option maxRecDepth 100000 in
theorem readable_trees18 : Tryz.prog.readableRec 25 = true := by kernel_rfl
set_option maxRecDepth 100000 in
theorem row_trees18 : 25 < Tryz.prog.types.size := of_decide_eq_true (by kernel_rfl)
theorem cells_digests18 : Tryz.prog.cellsOf 22 = 1 := by kernel_rfl
theorem cells_bools18 : Tryz.prog.cellsOf 23 = 1 := by kernel_rfl
theorem cells_bool18 : Tryz.prog.cellsOf 4 = 1 := by kernel_rfl
theorem cells_trees18 : Tryz.prog.cellsOf 25 = 3 := by kernel_rfl
set_option maxRecDepth 100000 in
theorem readsD_of_cells {H : Type} {enc : TypeId × Value → H} {W : World} {a1 : Option Addr} {len cap : Nat} {d : DataW H} {p : List MemPlace} {fuel : Nat} (hf : DataW.trod enc Tryz.prog W 0 (fun _ => true) true fuel 22 [.slice a1 len cap] = some (d, p)) :
    ∃ ds, ReadsD W (.slice a1 len cap) ds ∧ ds.length ≤ Rows.uptoBulk d ∧ ∀ x ∈ p, x.block < W.heap.size := by
  rcases Go.Deep.open_slice Tryz.underlying22 hf with ⟨hcs, hx⟩ | ⟨a, len', cap', m, n, D, Pl, hcs, _, hl, hm, hmm, hx, hV⟩
  · simp at hcs
    obtain ⟨rfl, rfl, rfl⟩ := hcs
    simp only [Prod.mk.injEq] at hx
    obtain ⟨rfl, rfl⟩ := hx
    exact ⟨[], ⟨⟨none, 0, rfl, Nat.le_refl _, fun _ => rfl, fun h => by cases h⟩, fun _ h => by cases h⟩, Nat.zero_le _, fun _ h => by cases h⟩
  · simp at hcs
    obtain ⟨rfl, rfl, rfl⟩ := hcs
    simp only [Prod.mk.injEq] at hx
    obtain ⟨rfl, rfl⟩ := hx
    simp only [if_true] at hmm
    subst hmm
    rw [cells_digest] at hV
    obtain ⟨B, hB⟩ := Go.Deep.choose_lt (α := List (BitVec 8)) (p := fun i dg => W.cells? 0 (a.add (i * 32)) 32 = some (cb dg) ∧ dg.length = 32 ∧ ∀ x ∈ Pl i, x.block < W.heap.size) (fun i hi => by
      obtain ⟨cs', h1, h2⟩ := hV i hi
      obtain ⟨dg, rfl, h3, h4⟩ := digest_of_cells h2
      exact ⟨dg, h1, h3, h4⟩)
    have hlen : ((List.range len).map B).length = len := by simp
    obtain ⟨ab, ao, spot⟩ := a
    have cell : ∀ i, i < m → ∀ j, j < 32 → W.cell? ((⟨ab, ao, spot⟩ : Addr).add (i * 32 + j)) = (cb (B i))[j]? := by
      intro i hi j hj
      obtain ⟨h1, _, _⟩ := hB i hi
      obtain ⟨_, _, h4⟩ := World.cells?_some h1
      have := h4 j hj
      rw [Go.Deep.add_add] at this
      exact this
    have hspot : 0 < m → spot = none := fun hp => by
      have h := cell 0 hp 0 (by omega)
      rw [cb_get _ 0 (by rw [(hB 0 hp).2.1]; omega)] at h
      simpa [Addr.add] using World.cell?_spot h
    refine ⟨(List.range len).map B, ⟨⟨some ⟨ab, ao, spot⟩, m, by rw [hlen], by rw [hlen]; exact hl, (fun h => by cases h), fun hp => ?_⟩, ?_⟩, by rw [hlen]; exact Nat.le_trans (by have := bulk_len ((List.range len).map D); simpa using this) (bulk_slice _ _), fun x hx => ?_⟩
    · rw [hlen] at hp ⊢
      have hs := hspot (by omega)
      subst hs
      refine ⟨ab, ao, rfl, fun j hj i v hv => ?_⟩
      have e : ((List.range len).map B).getD j [] = B j := by simp [hj]
      rw [e] at hv
      have hi : i < 32 := by have := (List.getElem?_eq_some_iff.1 hv).1; rwa [cb_len, (hB j (by omega)).2.1] at this
      have h := cell j (by omega) i hi
      rw [hv, Addr.add_lit] at h
      rw [Nat.add_assoc]; exact h
    · intro dg hd
      obtain ⟨i, hi, rfl⟩ := List.mem_map.1 hd
      exact (hB i (by have := List.mem_range.1 hi; omega)).2.1
    · rcases List.mem_append.1 hx with hx | hx
      · rw [cells_digest] at hx
        simp only [MemPlace.row, List.mem_map, List.mem_range] at hx
        obtain ⟨i, hi, rfl⟩ := hx
        have h := cell (i / 32) (by omega) (i % 32) (by omega)
        rw [cb_get _ _ (by rw [(hB (i / 32) (by omega)).2.1]; omega), show i / 32 * 32 + i % 32 = i by omega] at h
        have := block_lt_of_cell h
        simp only [Addr.add] at this
        split at this <;> exact this
      · obtain ⟨i, hi, hx⟩ := List.mem_flatMap.1 hx
        exact (hB i (List.mem_range.1 hi)).2.2 x hx
set_option maxRecDepth 100000 in
theorem readsBo_of_cells {H : Type} {enc : TypeId × Value → H} {W : World} {a1 : Option Addr} {len cap : Nat} {d : DataW H} {p : List MemPlace} {fuel : Nat} (hf : DataW.trod enc Tryz.prog W 0 (fun _ => true) true fuel 23 [.slice a1 len cap] = some (d, p)) :
    ∃ bs, ReadsBo W (.slice a1 len cap) bs := by
  rcases Go.Deep.open_slice Tryz.underlying23 hf with ⟨hcs, hx⟩ | ⟨a, len', cap', m, n, D, Pl, hcs, _, hl, hm, hmm, hx, hV⟩
  · simp at hcs
    obtain ⟨rfl, rfl, rfl⟩ := hcs
    exact ⟨[], none, 0, rfl, fun h => by cases h⟩
  · simp at hcs
    obtain ⟨rfl, rfl, rfl⟩ := hcs
    simp only [if_true] at hmm
    subst hmm
    rw [cells_bool18] at hV
    obtain ⟨B, hB⟩ := Go.Deep.choose_lt (α := Bool) (p := fun i b => W.cells? 0 (a.add (i * 1)) 1 = some [.bool b]) (fun i hi => by
      obtain ⟨cs', h1, h2⟩ := hV i hi
      obtain ⟨b, rfl, _⟩ := DataW.trod_bool Tryz.underlying4 h2
      exact ⟨b, h1⟩)
    have hlen : ((List.range len).map B).length = len := by simp
    obtain ⟨ab, ao, spot⟩ := a
    have cell : ∀ i, i < m → W.cell? ((⟨ab, ao, spot⟩ : Addr).add i) = some (.bool (B i)) := by
      intro i hi
      obtain ⟨_, _, h4⟩ := World.cells?_some (hB i hi)
      have := h4 0 (by omega)
      rw [Go.Deep.add_add] at this
      simpa using this
    have hspot : 0 < m → spot = none := fun hp => by
      have h := cell 0 hp
      simpa [Addr.add] using World.cell?_spot h
    refine ⟨(List.range len).map B, some ⟨ab, ao, spot⟩, m, by rw [hlen], fun hp => ?_⟩
    rw [hlen] at hp ⊢
    have hs := hspot (by omega)
    subst hs
    refine ⟨ab, ao, rfl, fun j hj => ?_⟩
    have e : ((List.range len).map B).getD j false = B j := by simp [hj]
    rw [e]
    have h := cell j (by omega)
    rw [Addr.add_lit] at h
    exact h
theorem slice_of_trod {H : Type} {enc : TypeId × Value → H} {W : World} {t e : TypeId} (ht : Tryz.prog.underlying t = some (.slice e)) {v : Value} {y : DataW H × List MemPlace} {fuel : Nat} (hf : DataW.trod enc Tryz.prog W 0 (fun _ => true) true fuel t [v] = some y) : ∃ a n c, v = .slice a n c := by
  rcases Go.Deep.open_slice ht hf with ⟨hcs, _⟩ | ⟨a, n, c, _, _, _, _, hcs, _⟩
  · simp at hcs
    exact ⟨_, _, _, hcs⟩
  · simp at hcs
    exact ⟨_, _, _, hcs⟩
set_option maxRecDepth 100000 in
theorem trees18_of_trod {H : Type} {enc : TypeId × Value → H} {W : World} {base : Nat} {v : Value} {d : DataW H} {p : List MemPlace} (hval : Value.okWide Tryz.prog W .any base 25 v)
    (h : DataW.Trod enc Tryz.prog W 0 (fun _ => true) true 25 v d p) :
    ∃ va vv vk ds es bs, v = .agg #[va, vv, vk] ∧ ReadsD W va ds ∧ ReadsD W vv es ∧ ReadsBo W vk bs ∧ ∀ x ∈ p, x.block < W.heap.size := by
  simp only [Value.okWide, Tryz.underlying25] at hval
  obtain ⟨cs, rfl, hcs, _⟩ := hval
  obtain ⟨fuel, hf⟩ := h
  have hp := DataW.trod_lt _ _ _ _ hf
  obtain ⟨y0, y1, y2, n, hx, hl, h0, h1, h2⟩ := Go.Deep.trod_struct3 Tryz.underlying25 hf
  simp only [Value.cells] at hl h0 h1 h2
  rw [cells_trees18] at hl
  rw [cells_digests18] at h0 h1
  rw [cells_bools18] at h2
  obtain ⟨l⟩ := cs
  match l, hl with
  | [c0, c1, c2], _ =>
    simp at h0 h1 h2
    obtain ⟨a0, n0, k0, rfl⟩ := slice_of_trod Tryz.underlying22 h0
    obtain ⟨a1, n1, k1, rfl⟩ := slice_of_trod Tryz.underlying22 h1
    obtain ⟨a2, n2, k2, rfl⟩ := slice_of_trod Tryz.underlying23 h2
    obtain ⟨ds, hr0, _⟩ := readsD_of_cells (d := y0.1) (p := y0.2) h0
    obtain ⟨es, hr1, _⟩ := readsD_of_cells (d := y1.1) (p := y1.2) h1
    obtain ⟨bs, hr2⟩ := readsBo_of_cells (d := y2.1) (p := y2.2) h2
    exact ⟨_, _, _, ds, es, bs, rfl, hr0, hr1, hr2, hp⟩
end Go.Proofs.YtphmmnffgknkcabGreatDoor

import Derived.Test.YtphmmnffgknkcabGreatDoorMyf
import Derived.Test.YtphmmnffgknkcabGreatDoorRows
import Derived.Test.YtphmmnffgknkcabGreatDoorMya
import Derived.ProofKit
import Derived.LaidMore
import Derived.OpenShut
import Derived.Stop.Joined
import Derived.Lib.LaidTab
import Derived.Carry
import Derived.ChangeSlices
import Derived.Test.YtphmmnffgknkcabGreatDoorMyb
import Derived.Deep.Slices
import Derived.Deep.Strs
import Derived.Lib.SmallJoins
namespace Go.Proofs.YtphmmnffgknkcabGreatDoor
open Go.RowKit
set_option maxRecDepth 100000
theorem reads_lt17 {w : World} {v : Value} {l : By} (h : Reads w v l) (hp : 0 < l.length) : ∀ k, v.ownBlock = some k → k < w.heap.size := fun k hk => by
  obtain ⟨ad, c, rfl, _, _, hx⟩ := h
  obtain ⟨b, off, rfl, hy⟩ := hx hp
  cases hk
  exact block_lt_of_cell (hy 0 hp)
theorem xLo (b off n cap k : Nat) (h : k ≤ cap) (w : World) : (Instr.sliceAt 26 (.slice (some ⟨b, off, none⟩) n cap) none (some (.int .i64 (k : Int))) none).run Tryz.prog w = .ok (.slice (some ⟨b, off, none⟩) k cap) w := by
  have hs : (sizeOf 49).run Tryz.prog w = .ok 1 w := by kernel_rfl
  rw [run_sliceAt_slice w 26 _ _ _ _ (by kernel_rfl), run_slice_h w 26 _ _ _ (by kernel_rfl) .i64 _ (by omega) (by omega)]
  rw [show Tryz.prog.elem 26 = 49 from by kernel_rfl, hs]
  simp only [Result.andThen_ok, sliced, Int.toNat_natCast, Option.map_some]
  split <;> simp [Addr.add_mid]
theorem xHi (b off n cap k : Nat) (h : k ≤ n) (w : World) : (Instr.sliceAt 26 (.slice (some ⟨b, off, none⟩) n cap) (some (.int .i64 (k : Int))) none none).run Tryz.prog w = .ok (.slice (some ⟨b, if cap = k then off else off + k, none⟩) (n - k) (cap - k)) w := by
  have hs : (sizeOf 49).run Tryz.prog w = .ok 1 w := by kernel_rfl
  rw [run_sliceAt_slice w 26 _ _ _ _ (by kernel_rfl), run_slice_l w 26 _ _ _ (by kernel_rfl) .i64 _ (by omega) (by omega)]
  rw [show Tryz.prog.elem 26 = 49 from by kernel_rfl, hs]
  simp only [Result.andThen_ok, sliced, Int.toNat_natCast, Option.map_some]
  split <;> simp [Addr.add_mid]
theorem drop_one {S : List By} (hn : S.Nodup) {k : Nat} (hk : k < S.length) : S.getD k [] ∉ S.take k ++ S.drop (k + 1) := by
  have e : S = S.take k ++ (S.getD k [] :: S.drop (k + 1)) := by
    rw [List.getD_eq_getElem?_getD, List.getElem?_eq_getElem hk, Option.getD_some, List.getElem_cons_drop, List.take_append_drop]
  generalize hx : S.getD k [] = x at *
  generalize S.take k = A at *
  generalize S.drop (k + 1) = C at *
  rw [e] at hn
  have h := List.nodup_append.1 hn
  have h2 := List.nodup_cons.1 h.2.1
  rw [List.mem_append]
  rintro (hm | hm)
  · exact h.2.2 x hm x (by simp) rfl
  · exact h2.1 hm
theorem readsL_us {w : World} {v : Value} {ps : List By} (h : ReadsL w v ps) (hp : 0 < ps.length) : ∃ (b off c : Nat) (us : List Value), v = .slice (some ⟨b, off, none⟩) ps.length c ∧ ps.length ≤ c ∧ us.length = ps.length ∧ (∀ j u, us[j]? = some u → w.cell? ⟨b, off + j, none⟩ = some u ∧ Reads w u (ps.getD j [])) ∧ ∀ u ∈ us, u.oneCell' = true := by
  obtain ⟨ad, c, hv, hc, _, hx⟩ := h
  obtain ⟨b, off, rfl, hy⟩ := hx hp
  have hat : ∀ j u, ((List.range ps.length).map fun j => (w.cell? ⟨b, off + j, none⟩).getD undef)[j]? = some u → w.cell? ⟨b, off + j, none⟩ = some u ∧ Reads w u (ps.getD j []) := fun j u hj => by
    have hl := (List.getElem?_eq_some_iff.1 hj).1
    simp only [List.length_map, List.length_range] at hl
    obtain ⟨v, h1, h2⟩ := hy j hl
    rw [List.getElem?_map, List.getElem?_range hl, Option.map_some, h1] at hj
    cases hj
    exact ⟨h1, h2⟩
  refine ⟨b, off, c, _, hv, hc, by simp, hat, fun u hu => ?_⟩
  obtain ⟨j, hj, rfl⟩ := List.mem_iff_getElem.1 hu
  exact reads_one (hat j _ (List.getElem?_eq_getElem hj)).2
set_option maxRecDepth 100000 in
set_option maxHeartbeats 16000000 in
theorem reapNeeds_law (va vv vk : Value) (tn : Int) (ds es : List By) (bs : List Bool) (w : World) (hK : KOk w) (hA : ReadsD w va ds) (hV : ReadsD w vv es) (hB : ReadsBo w vk bs) :
    Calls Tryz.prog 3 #[.agg #[va, vv, vk], .int .i64 tn] w fun e w' => e = .returned (.bool true) ∧ Below w.heap.size w w' := by
  obtain ⟨z, HZ⟩ : ∃ z, Hid (z = ds.zip es) := ⟨_, rfl⟩
  obtain ⟨n, HNN⟩ : ∃ n, Hid (n = min (min ds.length es.length) 20) := ⟨_, rfl⟩
  have HZO : okLf z := by rw [HZ.out]; exact zip_okR hA hV
  have hn20 : n ≤ 20 := by rw [HNN.out]; omega
  obtain ⟨ks, HKS⟩ : ∃ x, Hid (x = kps z bs n) := ⟨_, rfl⟩
  obtain ⟨ps, HPS⟩ : ∃ x, Hid (x = pgs z n) := ⟨_, rfl⟩
  have HG : Hid (∀ l ∈ ks, GoodT ps l) := by rw [HKS.out, HPS.out]; exact kps_good HZO hn20
  have HKL : Hid (ks.length ≤ 20) := by rw [HKS.out]; exact Nat.le_trans (kps_len n) hn20
  have HLL : Hid (∀ l ∈ ks, l.length ≤ 20) := by
    rw [HKS.out]
    intro l hl
    obtain ⟨j, h1, h2, rfl⟩ := kps_of n l hl
    have := (allL_ok HZO j).2.2
    omega
  have HPL : Hid (ps.length < 100000 ∧ ∀ p ∈ ps, 1 ≤ p.length ∧ p.length ≤ 512) := by
    rw [HPS.out]
    have h := pgs_spec HZO n
    refine ⟨Nat.lt_of_le_of_lt h.2.2.2 ?_, fun p hp => (h.2.2.1 p hp)⟩
    have : n * (n + 1) ≤ 20 * 21 := Nat.mul_le_mul hn20 (by omega)
    omega
  have HND : Hid ps.Nodup := by rw [HPS.out]; exact (pgs_spec HZO n).1
  have HALL : Hid (∀ W, Below w.heap.size w W → Calls Tryz.prog 6 #[.agg #[va, vv, vk]] W fun e w' => ∃ v2 v3 v4, e = .returned (.tuple #[v2, v3, v4]) ∧ ReadsD w' v2 (ks.map fun l => dig (topPg 0 l)) ∧ ReadsL w' v3 ps ∧ TrsR w' v4 ks ∧ Below W.heap.size W w') := fun W hW => by
    rw [HKS.out, HPS.out, HZ.out, HNN.out]
    exact all18_any va vv vk ds es bs W (hK.below hW hK.lt) (hA.below hW) (hV.below hW) (hB.below hW)
  obtain ⟨ada, cpa, hva⟩ := hA.slice
  obtain ⟨adv, cpv, hvv⟩ := hV.slice
  obtain ⟨adk, cpk, hvk, _⟩ := hB
  generalize ds.length = nA at hva
  generalize es.length = nV at hvv
  generalize bs.length = nK at hvk
  subst hva hvv hvk
  have HK : Hid (KOk w) := hK
  have HBW : Hid (Below w.heap.size w w) := Below.refl _ _
  clear hK hA hV HZO hn20
  go_enter Tryz.func3, Tryz.ntmps3
  have ta0 : Hid True := trivial
  have ta1 : Hid True := trivial
  have ta2 : Hid True := trivial
  have ta3 : Hid True := trivial
  have ta4 : Hid True := trivial
  have ta5 : Hid True := trivial
  go_upto_region 7 with (first
    | (clear ta0; with_reducible refine wpSeq_boxW 25 (.tmp 0) [Value.slice ada nA cpa, .slice adv nV cpv, .slice adk nK cpk] ?_ ?_ ?_ ?_
       · rfl
       · rfl
       · rfl
       intro g1 w1 nn
       have hb := nn.below
       have H1 : Hid (Blk w1 g1 [Value.slice ada nA cpa, .slice adv nV cpv, .slice adk nK cpk] 25) := nn.blk
       replace HBW : Hid (Below w.heap.size w w1) := HBW.out.trans (hb.mono HBW.out.size)
       clear nn hb)
    | (clear ta1; with_reducible refine wpSeq_loadW 25 (.tmp 2) g1 0 [Value.slice ada nA cpa, .slice adv nV cpv, .slice adk nK cpk] _ H1.out.range Tryz.underlying25 rfl info_trees18 ?_ ?_ ?_ ?_
       · rfl
       · rfl
       · rfl
       have HQ1 : Hid True := trivial)
    | (clear ta2; go_at_call 6; refine (HALL.out _ HBW.out).mono ?_; rintro e w2 ⟨v2, v3, v4, rfl, h2, h3, h4, hb⟩
       obtain ⟨a2, c2, e2⟩ := h2.slice
       obtain ⟨a3, c3, e3, _⟩ := id h3
       obtain ⟨a4, c4, e4, _⟩ := id h4
       rw [List.length_map] at e2
       obtain ⟨nk, HNK⟩ : ∃ z, Hid (z = ks.length) := ⟨_, rfl⟩
       obtain ⟨np, HNP⟩ : ∃ z, Hid (z = ps.length) := ⟨_, rfl⟩
       rw [← HNK.out] at e2 e4
       rw [← HNP.out] at e3
       subst e2 e3 e4
       have HD : Hid (ReadsD w2 (.slice a2 nk c2) (ks.map fun l => dig (topPg 0 l))) := h2
       have HL : Hid (ReadsL w2 (.slice a3 np c3) ps) := h3
       replace HBW : Hid (Below w.heap.size w w2) := HBW.out.trans (hb.mono HBW.out.size)
       clear h2 h3 h4 hb H1 HALL)
    | (clear ta3; go_at_call 7; refine (any9_any _ ps _ HL.out (fun p hp => Nat.lt_of_le_of_lt (HPL.out.2 p hp).2 (by decide)) (Nat.lt_trans HPL.out.1 (by decide))).mono ?_; rintro e w3 ⟨t, rfl, hap, hb⟩
       replace HD : Hid (ReadsD w3 (.slice a2 nk c2) (ks.map fun l => dig (topPg 0 l))) := HD.out.below hb
       replace HL : Hid (ReadsL w3 (.slice a3 np c3) ps) := HL.out.below hb
       replace HBW : Hid (Below w.heap.size w w3) := HBW.out.trans (hb.mono HBW.out.size)
       clear hb
       cases t <;> first | (have HAP : Hid (Apart17 ps) := hap rfl; clear hap) | clear hap)
    | (clear ta4; go_at_call 8; refine (works18_any _ (HK.out.below HBW.out HK.out.lt)).mono ?_; rintro e wz ⟨rfl, hz⟩
       have HBZ : Hid (Below w.heap.size w wz) := HBW.out.trans (hz.mono HBW.out.size)
       clear hz)
    | (clear ta5; go_at_call 9; refine (reapSplit_any _ _ ks ps _ (HK.out.below HBW.out HK.out.lt) HD.out HL.out HG.out HAP.out (Nat.le_trans HKL.out (by decide)) HPL.out.1 (fun p hp => Nat.lt_of_le_of_lt (HPL.out.2 p hp).2 (by decide))).mono ?_; rintro e w4 ⟨v8, v9, rfl, h1, h2, hb⟩
       obtain ⟨nd, HNDD⟩ : ∃ x, Hid (x = ps.filter (needB ks)) := ⟨_, rfl⟩
       rw [← HNDD.out] at h1
       obtain ⟨a8, c8, e8, _⟩ := id h1
       obtain ⟨a9, c9, e9, _⟩ := id h2
       obtain ⟨nn, HNN2⟩ : ∃ z, Hid (z = nd.length) := ⟨_, rfl⟩
       rw [← HNN2.out] at e8
       generalize (ps.filter fun p => !needB ks p).length = n9 at e9
       subst e8 e9
       have HND8 : Hid (ReadsL w4 (.slice a8 nn c8) nd) := h1
       replace HD : Hid (ReadsD w4 (.slice a2 nk c2) (ks.map fun l => dig (topPg 0 l))) := HD.out.below hb
       replace HBW : Hid (Below w.heap.size w w4) := HBW.out.trans (hb.mono HBW.out.size)
       clear h1 h2 hb HL))
  · have HNF : Hid (nd.Nodup ∧ (∀ p ∈ nd, p ∈ ps) ∧ (∀ p ∈ nd, 1 ≤ p.length ∧ p.length ≤ 512) ∧ nd.length ≤ 100000 ∧ (∀ l ∈ ks, ∀ p ∈ saveL 0 l, p ∈ nd) ∧ ∀ p ∈ nd, ∃ l ∈ ks, p ∈ saveL 0 l) := by
      rw [HNDD.out]
      have hm : ∀ p ∈ ps.filter (needB ks), p ∈ ps := fun p hp => (List.mem_filter.1 hp).1
      refine ⟨HND.out.filter _, hm, fun p hp => HPL.out.2 p (hm p hp), Nat.le_trans (List.length_filter_le _ _) (Nat.le_of_lt HPL.out.1), fun l hl p hp => ?_, fun p hp => ?_⟩
      · exact List.mem_filter.2 ⟨(HG.out l hl).has p hp, needB_iff.2 ⟨l, hl, p, hp, rfl⟩⟩
      · obtain ⟨h1, h2⟩ := List.mem_filter.1 hp
        obtain ⟨l, hl, q, hq, e⟩ := needB_iff.1 h2
        have e2 : q = p := apart_mem HAP.out q ((HG.out l hl).has q hq) p h1 e
        exact ⟨l, hl, by rw [← e2]; exact hq⟩
    by_cases hn0 : nn = 0
    case pos =>
      have hk0 : nk = 0 := by
        rw [HNK.out]
        cases hks : ks with
        | nil => rfl
        | cons l r =>
          have hl : l ∈ ks := by rw [hks]; simp
          have h := HNF.out.2.2.2.2.1 l hl _ (top_mem l)
          have h2 := List.length_pos_of_mem h
          rw [← HNN2.out, hn0] at h2
          exact absurd h2 (Nat.lt_irrefl _)
      have e1 : ((nn : Int) == 0) = true := by rw [hn0]; rfl
      have e2 : ((nk : Int) == 0) = true := by rw [hk0]; rfl
      clear hn0 hk0
      have tb0 : Hid True := trivial
      go_wp2_with (first
        | (clear tb0; go_at_call 8; refine (works18_any _ (HK.out.below HBW.out HK.out.lt)).mono ?_; rintro e wz ⟨rfl, hz⟩
           have HBZ : Hid (Below w.heap.size w wz) := HBW.out.trans (hz.mono HBW.out.size)
           clear hz))
      go_ret
      exact ⟨rfl, HBZ.out⟩
    case neg =>
      have hn1 : nn ≤ 100000 := by rw [HNN2.out]; exact HNF.out.2.2.2.1
      have e0 : ((nn : Int) == 0) = false := by rw [beq_eq_false_iff_ne]; omega
      obtain ⟨tu, htu⟩ : ∃ t : Nat, IntKind.u64.wrap tn = (t : Int) := ⟨(IntKind.u64.wrap tn).toNat, by have := wrap_nonneg tn; omega⟩
      obtain ⟨K, HKD⟩ : ∃ K, Hid (K = tu % nn) := ⟨_, rfl⟩
      have hKn : K < nn := by rw [HKD.out]; exact Nat.mod_lt _ (by omega)
      have hw2 : IntKind.u64.wrap (nn : Int) = (nn : Int) := by simp [IntKind.wrap, IntKind.bits, IntKind.signed]; omega
      have hrem : Int.tmod (tu : Int) (nn : Int) = (K : Int) := by rw [HKD.out]; rfl
      have hw3 : IntKind.i64.wrap (K : Int) = (K : Int) := wrap_small2 _ (by omega) (by omega)
      have hw4 : IntKind.u64.wrap (K : Int) = (K : Int) := by simp [IntKind.wrap, IntKind.bits, IntKind.signed]; omega
      obtain ⟨gl, go0, cl, us, hv8, hcl, husl, husa, huso⟩ := readsL_us HND8.out (by rw [← HNN2.out]; omega)
      simp only [Value.slice.injEq] at hv8
      obtain ⟨rfl, hcx, rfl⟩ := hv8
      rw [← HNN2.out] at hcl husl
      clear hcx
      obtain ⟨B, HBB⟩ : ∃ z, Hid (z = w4.heap.size) := ⟨_, rfl⟩
      have HCL : Hid (nn ≤ c8) := hcl
      have HUS : Hid (us.length = nn ∧ ∀ u ∈ us, u.oneCell' = true) := ⟨husl, huso⟩
      have HUE : Hid (∀ (j : Nat) (u : Value), us[j]? = some u → ∀ k, u.ownBlock = some k → k < B) := fun j u hj k hk => by
        obtain ⟨h1, h2⟩ := husa j u hj
        have hjn : j < nd.length := by rw [← HNN2.out, ← HUS.out.1]; exact (List.getElem?_eq_some_iff.1 hj).1
        have hp := (HNF.out.2.2.1 (nd.getD j []) (by rw [List.getD_eq_getElem?_getD, List.getElem?_eq_getElem hjn]; exact List.getElem_mem hjn)).1
        rw [HBB.out]; exact reads_lt17 h2 hp k hk
      have HX : Hid (∀ W, Below B w4 W → B ≤ W.heap.size ∧ KOk W ∧ Below w.heap.size w W ∧ ReadsD W (.slice a2 nk c2) (ks.map fun l => dig (topPg 0 l)) ∧ ∀ (j : Nat) (u : Value), us[j]? = some u → W.cell? ⟨gl, go0 + j, none⟩ = some u ∧ Reads W u (nd.getD j [])) := fun W hW =>
        have hW2 : Below w4.heap.size w4 W := by rw [← HBB.out]; exact hW
        ⟨by rw [HBB.out]; exact hW2.size, (HK.out.below HBW.out HK.out.lt).below hW2 (HK.out.below HBW.out HK.out.lt).lt, HBW.out.trans (hW2.mono HBW.out.size), HD.out.below hW2, fun j u hj => by
          obtain ⟨h1, h2⟩ := husa j u hj
          exact ⟨by rw [hW2.cell (p := ⟨gl, go0 + j, none⟩) (block_lt_of_cell h1)]; exact h1, h2.below hW2⟩⟩
      have HB0 : Hid (Below B w4 w4) := Below.refl _ _
      clear husl husa huso hcl HD HBW HND8
      obtain ⟨pk, HPK⟩ : ∃ z, Hid (z = nd.getD K []) := ⟨_, rfl⟩
      have hKp : K < nd.length := by rw [← HNN2.out]; exact hKn
      have HPM : Hid (pk ∈ nd) := by show _ ∈ _; rw [HPK.out, List.getD_eq_getElem?_getD, List.getElem?_eq_getElem hKp]; exact List.getElem_mem hKp
      obtain ⟨rest, HRS⟩ : ∃ z, Hid (z = nd.take K ++ nd.drop (K + 1)) := ⟨_, rfl⟩
      have HRM : Hid ((∀ p ∈ rest, p ∈ nd) ∧ (∀ p ∈ nd, p ≠ pk → p ∈ rest)) := by
        refine ⟨fun p hp => ?_, fun p hp hne => ?_⟩
        · rw [HRS.out] at hp
          rcases List.mem_append.1 hp with hp | hp
          · exact List.mem_of_mem_take hp
          · exact List.mem_of_mem_drop hp
        · rw [HRS.out]
          have e : nd = nd.take K ++ (nd.getD K [] :: nd.drop (K + 1)) := by rw [List.getD_eq_getElem?_getD, List.getElem?_eq_getElem hKp, Option.getD_some, List.getElem_cons_drop, List.take_append_drop]
          rw [e] at hp
          rcases List.mem_append.1 hp with h | h
          · exact List.mem_append_left _ h
          · rcases List.mem_cons.1 h with h | h
            · exact absurd (h.trans HPK.out.symm) hne
            · exact List.mem_append_right _ h
      have HRN : Hid (rest.length + 1 = nn) := by show _ = _; rw [HRS.out, List.length_append, List.length_take, List.length_drop, ← HNN2.out]; omega
      have HNR : Hid (pk ∉ rest) := by
        show pk ∉ rest
        rw [HPK.out, HRS.out]
        exact drop_one HNF.out.1 hKp
      obtain ⟨i0, HI0⟩ : ∃ i0, Hid (i0 < nk ∧ pk ∈ saveL 0 (ks.getD i0 [])) := by
        obtain ⟨l, hl, hp⟩ := HNF.out.2.2.2.2.2 pk HPM.out
        obtain ⟨i0, h1, h2⟩ := List.getElem_of_mem hl
        exact ⟨i0, by rw [HNK.out]; exact h1, by rw [List.getD_eq_getElem?_getD, List.getElem?_eq_getElem h1, Option.getD_some, h2]; exact hp⟩
      have fK : IntKind.i64.wrap ((K : Int) + 1) = ((K + 1 : Nat) : Int) := by rw [IntKind.wrap_i64]; omega
      obtain ⟨K1, HK1⟩ : ∃ z, Hid (z = K + 1) := ⟨_, rfl⟩
      rw [← HK1.out] at fK
      have sl := xLo gl go0 nn c8 K (by have := HCL.out; omega)
      have sh := xHi gl go0 nn c8 K1 (by rw [HK1.out]; omega)
      obtain ⟨o2, HO2⟩ : ∃ z, Hid (z = if c8 = K1 then go0 else go0 + K1) := ⟨_, rfl⟩
      obtain ⟨n2, HN2⟩ : ∃ z, Hid (z = nn - K1) := ⟨_, rfl⟩
      obtain ⟨c2x, HC2⟩ : ∃ z, Hid (z = c8 - K1) := ⟨_, rfl⟩
      rw [← HO2.out, ← HN2.out, ← HC2.out] at sh
      have HT1 : Hid ((us.take K).length = K ∧ (nd.take K).length = K ∧ (us.drop K1).length = n2 ∧ (nd.drop K1).length = n2 ∧ n2 ≤ c2x ∧ K ≤ c8 ∧ rest = nd.take K ++ nd.drop K1) := by
        have h1 := HUS.out.1
        have h2 := HNN2.out
        have h3 := HCL.out
        refine ⟨?_, ?_, ?_, ?_, ?_, ?_, by rw [HRS.out, HK1.out]⟩
        · rw [List.length_take]; omega
        · rw [List.length_take]; omega
        · rw [List.length_drop, HN2.out, h1]
        · rw [List.length_drop, HN2.out, h2]
        · rw [HN2.out, HC2.out]; omega
        · omega
      have HE1 : Hid (∀ W, Below B w4 W → ∀ (j : Nat) (u : Value), (us.take K)[j]? = some u → W.cell? ⟨gl, go0 + j, none⟩ = some u ∧ Reads W u ((nd.take K).getD j []) ∧ ∀ k, u.ownBlock = some k → k < B) := fun W hW j u hj => by
        have hjk : j < K := by have := (List.getElem?_eq_some_iff.1 hj).1; rw [HT1.out.1] at this; exact this
        rw [List.getElem?_take_of_lt hjk] at hj
        have h := (HX.out W hW).2.2.2.2 j u hj
        exact ⟨h.1, by rw [getD_take _ _ _ _ hjk]; exact h.2, HUE.out j u hj⟩
      have HE2 : Hid (∀ W, Below B w4 W → ∀ (j : Nat) (u : Value), (us.drop K1)[j]? = some u → W.cell? ⟨gl, o2 + j, none⟩ = some u ∧ Reads W u ((nd.drop K1).getD j []) ∧ ∀ k, u.ownBlock = some k → k < B) := fun W hW j u hj => by
        have hjn : j < n2 := by have := (List.getElem?_eq_some_iff.1 hj).1; rw [HT1.out.2.2.1] at this; exact this
        rw [List.getElem?_drop] at hj
        have h := (HX.out W hW).2.2.2.2 (K1 + j) u hj
        have ho : o2 = go0 + K1 := by rw [HO2.out, if_neg (by have := HT1.out.2.2.2.2.1; have := HC2.out; omega)]
        refine ⟨by rw [ho, Nat.add_assoc]; exact h.1, ?_, HUE.out (K1 + j) u hj⟩
        rw [List.getD_eq_getElem?_getD, List.getElem?_drop, ← List.getD_eq_getElem?_getD]
        exact h.2
      have HO1 : Hid ((∀ u ∈ us.take K, u.oneCell' = true) ∧ ∀ u ∈ us.drop K1, u.oneCell' = true) := ⟨fun u hu => HUS.out.2 u (List.mem_of_mem_take hu), fun u hu => HUS.out.2 u (List.mem_of_mem_drop hu)⟩
      have HLD : Hid (∀ W v l, KOk W → ReadsL W v rest → l ∈ ks → Calls Tryz.prog 10 #[.agg (cb (dig (topPg 0 l))).toArray, v] W fun e w' => ∃ (x : Value) (c : Int), e = .returned (.tuple #[x, .int .i64 c]) ∧ (pk ∈ saveL 0 l → c = 7) ∧ Below W.heap.size W w') := fun W v l hk hr hl => by
        have hg := HG.out l hl
        have hsub : ∀ p ∈ saveL 0 l, p ∈ nd := fun p hp => HNF.out.2.2.2.2.1 l hl p hp
        have hfree : Free rest (saveL 0 l) := fun p hp q hq he => apart_mem HAP.out q (HNF.out.2.1 q (HRM.out.1 q hq)) p (hg.has p hp) he
        have hlen : (saveL 0 l).length ≤ rest.length + 1 := by
          rw [HRN.out, HNN2.out]
          exact nodup_sub_len (save_nodup 256 0 l (by omega) hg.fits (fun p hp q hq hd => apart_mem HAP.out p (hg.has p hp) q (hg.has q hq) hd)) hsub
        have hrn : rest.length < 100000 := by have := HRN.out; omega
        have hrb : ∀ p ∈ rest, p.length < 1125899906842624 := fun p hp => by have := (HNF.out.2.2.1 p (HRM.out.1 p hp)).2; omega
        by_cases hpk : pk ∈ saveL 0 l
        · refine (pgLoad_no l v rest W hk hg.ok hg.up hg.few hr hrn hrb hfree hlen fun h => HNR.out (h pk hpk)).mono ?_
          rintro e w' ⟨rfl, hb⟩
          exact ⟨_, _, rfl, fun _ => rfl, hb⟩
        · refine (pgLoad_ok l v rest W hk hg.ok hg.up hg.few hr hrn hrb hfree hlen fun p hp => HRM.out.2 p (hsub p hp) fun e => hpk (e ▸ hp)).mono ?_
          rintro e w' ⟨g, rfl, _, hb⟩
          exact ⟨_, _, rfl, fun h => absurd h hpk, hb⟩
      have tc0 : Hid True := trivial
      have tc1 : Hid True := trivial
      go_wp2_with (first
        | (clear tc0; with_reducible refine wpSeq_appXs (.tmp 51) (.tmp 54) B (.slice none 0 0) [] (us.take K) gl go0 K c8 (OwnX.nil _ _) HT1.out.1 HT1.out.2.2.2.2.2.1 (fun j u hj => (HE1.out _ HB0.out j u hj).1) HO1.out.1 (by have := HT1.out.1; simp; omega) (HX.out _ HB0.out).1 ?_ ?_ ?_ ?_ ?_
           · rfl
           · rfl
           · rfl
           · rfl
           intro v5 w5 ho hg
           obtain ⟨a5, c5, hv5⟩ := ho.form
           generalize hn5 : (([] : List Value) ++ us.take K).length = n5 at hv5
           clear hn5
           subst hv5
           have HR : Hid (PgS w5 B (.slice a5 n5 c5) (us.take K) (nd.take K) (fun _ => False)) := (PgS.nil _ _ _).mores ho hg (by rw [HT1.out.1, HT1.out.2.1]) fun j u hj => ⟨(HE1.out _ HB0.out j u hj).2.1, fun k hk => ⟨Nat.lt_of_lt_of_le ((HE1.out _ HB0.out j u hj).2.2 k hk) (HX.out _ HB0.out).1, (by intro e; cases e), fun e => e⟩⟩
           replace HB0 : Hid (Below B w4 w5) := HB0.out.trans (hg.below (HX.out _ HB0.out).1 fun k hk => by cases hk)
           clear ho hg)
        | (clear tc1; with_reducible refine wpSeq_appXs (.tmp 56) (.tmp 60) B (.slice a5 n5 c5) (us.take K) (us.drop K1) gl o2 n2 c2x HR.out.own HT1.out.2.2.1 HT1.out.2.2.2.2.1 (fun j u hj => (HE2.out _ HB0.out j u hj).1) HO1.out.2 (by have h1 := HT1.out.1; have h2 := HN2.out; omega) (HX.out _ HB0.out).1 ?_ ?_ ?_ ?_ ?_
           · rfl
           · rfl
           · rfl
           · rfl
           intro v6 w6 ho hg
           obtain ⟨a6, c6, hv6⟩ := ho.form
           generalize hn6 : (us.take K ++ us.drop K1).length = n6 at hv6
           clear hn6
           subst hv6
           have hR6 : PgS w6 B (.slice a6 n6 c6) (us.take K ++ us.drop K1) (nd.take K ++ nd.drop K1) (fun _ => False) := HR.out.mores ho hg (by rw [HT1.out.2.2.1, HT1.out.2.2.2.1]) fun j u hj => ⟨(HE2.out _ HB0.out j u hj).2.1, fun k hk => ⟨Nat.lt_of_lt_of_le ((HE2.out _ HB0.out j u hj).2.2 k hk) (HX.out _ HB0.out).1, (fun e => by have h1 := (HR.out.own.lt k e).1; have h2 := (HE2.out _ HB0.out j u hj).2.2 k hk; omega), fun e => e⟩⟩
           rw [← HT1.out.2.2.2.2.2.2] at hR6
           replace HB0 : Hid (Below B w4 w6) := HB0.out.trans (hg.below (HX.out _ HB0.out).1 fun k hk => (HR.out.own.lt k hk).1)
           have HR6 : Hid (ReadsL w6 (.slice a6 n6 c6) rest) := hR6.readsL
           clear ho hg hR6 HR))
      have HY : Hid (∀ W, Below w6.heap.size w6 W → KOk W ∧ Below w.heap.size w W ∧ ReadsD W (.slice a2 nk c2) (ks.map fun l => dig (topPg 0 l)) ∧ ReadsL W (.slice a6 n6 c6) rest) := fun W hW => by
        have h := HX.out W (HB0.out.trans (hW.mono (HX.out _ HB0.out).1))
        exact ⟨h.2.1, h.2.2.1, h.2.2.2.1, HR6.out.below hW⟩
      clear HX HE1 HE2 HUE HB0 HR6 sl sh
      go_loopw [13, 14] (fun u v W => ∃ (i : Nat) (t : Bool), i ≤ nk ∧ u = .bool t ∧ v = .int .i64 (i : Int) ∧ Hid (i0 < i → t = true) ∧ Hid (Below w6.heap.size w6 W)) (fun _ v _ => nk - (intOf v).toNat)
      case atStart => exact ⟨0, false, Nat.zero_le _, rfl, rfl, (fun h => absurd h (Nat.not_lt_zero _)), Below.refl _ _⟩
      case round =>
        obtain ⟨i, t, hi, rfl, rfl, HT0, HW⟩ := hrel
        by_cases hil : i < nk
        case pos =>
          have hili : (i : Int) < (nk : Int) := by omega
          have hik : i < ks.length := by rw [← HNK.out]; exact hil
          have fi : IntKind.i64.wrap ((i : Int) + 1) = (i : Int) + 1 := by rw [IntKind.wrap_i64]; have := HKL.out; omega
          obtain ⟨l, HLT⟩ : ∃ l, Hid (l = ks.getD i []) := ⟨_, rfl⟩
          have HLM : Hid (l ∈ ks) := by show _ ∈ _; rw [HLT.out, List.getD_eq_getElem?_getD, List.getElem?_eq_getElem hik]; exact List.getElem_mem hik
          obtain ⟨d, HDD⟩ : ∃ z, Hid (z = dig (topPg 0 l)) := ⟨_, rfl⟩
          have HDL : Hid (d.length = 32) := by show _ = _; rw [HDD.out]; exact len_dig' _
          obtain ⟨bl, ol, cl2, hva, hya⟩ := (HY.out wr HW.out).2.2.1.at (by rw [List.length_map]; omega)
          rw [List.length_map, ← HNK.out] at hva
          simp only [Value.slice.injEq, true_and] at hva
          obtain ⟨rfl, rfl⟩ := hva
          have hrk := hya i (by rw [List.length_map]; exact hik)
          have hdk : (ks.map fun l => dig (topPg 0 l)).getD i [] = d := by
            rw [HDD.out, HLT.out, List.getD_eq_getElem?_getD, List.getElem?_map, List.getElem?_eq_getElem hik, List.getD_eq_getElem?_getD, List.getElem?_eq_getElem hik, Option.map_some, Option.getD_some, Option.getD_some]
          rw [hdk] at hrk
          have HRK : Hid (wr.rangeAt bl (ol + i * 32) (cb d)) := hrk
          have HLC : Hid (Calls Tryz.prog 10 #[.agg (cb d).toArray, .slice a6 n6 c6] wr fun e w' => ∃ (x : Value) (c : Int), e = .returned (.tuple #[x, .int .i64 c]) ∧ (pk ∈ saveL 0 l → c = 7) ∧ Below wr.heap.size wr w') := by
            rw [HDD.out]
            exact HLD.out wr _ l (HY.out wr HW.out).1 (HY.out wr HW.out).2.2.2 HLM.out
          clear hya hrk hdk hik
          cases t
          · skip
            have td0 : Hid True := trivial
            have td1 : Hid True := trivial
            have td2 : Hid True := trivial
            go_wp2_with (first
              | (clear td0; with_reducible refine wpSeq_idxD17 (.tmp 69) (.tmp 70) bl ol nk c2 i hil ?_ ?_ ?_ ?_ ?_
                 · rfl
                 · rfl
                 · rfl
                 · rfl
                 have HQ2 : Hid True := trivial)
              | (clear td1; with_reducible refine wpSeq_ldAt17 (.tmp 71) bl (ol + i * 32) d HDL.out HRK.out ?_ ?_ ?_ ?_
                 · rfl
                 · rfl
                 · rfl
                 have HQ3 : Hid True := trivial)
              | (clear td2; go_at_call 10; refine (HLC.out).mono ?_; rintro e w7 ⟨x, c, rfl, h7, hb⟩
                 have H7 : Hid (pk ∈ saveL 0 l → c = 7) := h7
                 have HW7 : Hid (Below w6.heap.size w6 w7) := HW.out.trans (hb.mono HW.out.size)
                 obtain ⟨t2, HT2⟩ : ∃ t2, Hid ((c == 7) = t2) := ⟨_, rfl⟩
                 have ht2 := HT2.out
                 clear h7 hb))
            go_roundw
            case rel => exact ⟨i + 1, t2, by omega, rfl, by simp, (fun h => by
              by_cases h2 : i0 < i
              · exact absurd (HT0.out h2) (by simp)
              · have h3 : i0 = i := by omega
                have h4 : c = 7 := H7.out (by rw [HLT.out, ← h3]; exact HI0.out.2)
                rw [← HT2.out, h4]; rfl), HW7.out⟩
            case measure => simp [intOf]; omega
          · skip
            have te0 : Hid True := trivial
            have te1 : Hid True := trivial
            have te2 : Hid True := trivial
            go_wp2_with (first
              | (clear te0; with_reducible refine wpSeq_idxD17 (.tmp 69) (.tmp 70) bl ol nk c2 i hil ?_ ?_ ?_ ?_ ?_
                 · rfl
                 · rfl
                 · rfl
                 · rfl
                 have HQ2 : Hid True := trivial)
              | (clear te1; with_reducible refine wpSeq_ldAt17 (.tmp 71) bl (ol + i * 32) d HDL.out HRK.out ?_ ?_ ?_ ?_
                 · rfl
                 · rfl
                 · rfl
                 have HQ3 : Hid True := trivial)
              | (clear te2; go_at_call 10; refine (HLC.out).mono ?_; rintro e w7 ⟨x, c, rfl, h7, hb⟩
                 have H7 : Hid (pk ∈ saveL 0 l → c = 7) := h7
                 have HW7 : Hid (Below w6.heap.size w6 w7) := HW.out.trans (hb.mono HW.out.size)
                 obtain ⟨t2, HT2⟩ : ∃ t2, Hid ((c == 7) = t2) := ⟨_, rfl⟩
                 have ht2 := HT2.out
                 clear h7 hb))
            go_roundw
            case rel => exact ⟨i + 1, true, by omega, rfl, by simp, (fun _ => rfl), HW7.out⟩
            case measure => simp [intOf]; omega
        case neg =>
          have hie : i = nk := by omega
          obtain rfl : t = true := HT0.out (by rw [hie]; exact HI0.out.1)
          have hnl : ¬ ((i : Int) < (nk : Int)) := by omega
          clear hie
          have tf0 : Hid True := trivial
          go_wp2_with (first
            | (clear tf0; go_at_call 8; refine (works18_any _ (HY.out wr HW.out).1).mono ?_; rintro e wz ⟨rfl, hz⟩
               have HBZ : Hid (Below w.heap.size w wz) := (HY.out wr HW.out).2.1.trans (hz.mono (HY.out wr HW.out).2.1.size)
               clear hz))
          go_ret
          exact ⟨rfl, HBZ.out⟩
  · go_ret
    exact ⟨rfl, HBZ.out⟩
end Go.Proofs.YtphmmnffgknkcabGreatDoor
namespace Go.Proofs.YtphmmnffgknkcabGreatDoor
open Go.ChangeShapes Go.WideShapes Go.ChangeAt Go.WideMaps Go.WideElems Go.RowKit
set_option maxRecDepth 100000
theorem own : ownKnob Tryz.prog.godebug = none := by kernel_rfl
theorem gKw : Tryz.prog.globalNamed "blazon/sha.roundWords" = some 1 := by kernel_rfl
theorem tKw : (Tryz.prog.globals[1]?).map (·.type) = some 123 := by kernel_rfl
def laidK : List (String × DataW Unit) := [("blazon/sha.roundWords", Rows.laid_blazon_sha_roundWords)]
def kzs : List Int := kw.map fun x => (x.toNat : Int)
theorem laid_tab : (Rows.laid_blazon_sha_roundWords : DataW Unit) = Lib.tabData .u32 kzs := by kernel_rfl
theorem door_met (os : Os) (args : Array Value) : laidMetH Tryz.prog laidK ((World.doorLaid Tryz.prog 400 os).forCall (fun _ _ => 0) ⟨#[], args, []⟩).memory :=
  laidMetH_of_parts3 (fuel := 8) (laidMet_of_run' 8 (by kernel_rfl) (by kernel_rfl)) (by kernel_rfl) (by kernel_rfl)
theorem getD_toNat (l : List (BitVec 32)) (j : Nat) : (l.map fun x => (x.toNat : Int)).getD j 0 = ((l.getD j 0).toNat : Int) := by
  rw [List.getD_eq_getElem?_getD, List.getD_eq_getElem?_getD, List.getElem?_map]
  cases l[j]? <;> rfl
theorem kok_of_laid {W : World} (h : laidMetH Tryz.prog laidK W) : KOk W := by
  rw [MakeChecks.laidMetH_plain _ _ _ (by kernel_rfl)] at h
  unfold laidK at h
  rw [laid_tab] at h
  have hT := Lib.tabIs_of_head gKw tKw Tryz.underlying123 Tryz.underlying87 (by kernel_rfl) (by kernel_rfl) h
  intro j hj
  rw [hT.cell gKw j (by simpa [kzs, kw] using hj), kzs, getD_toNat]
end Go.Proofs.YtphmmnffgknkcabGreatDoor
namespace Go.Proofs.YtphmmnffgknkcabGreatDoor
open Go.ChangeShapes Go.WideShapes Go.ChangeAt Go.WideMaps Go.WideElems Go.RowKit
set_option maxRecDepth 100000
theorem cells_byte : Tryz.prog.cellsOf 5 = 1 := by kernel_rfl
theorem laid_out : laidOutB Tryz.prog = true := by kernel_rfl
end Go.Proofs.YtphmmnffgknkcabGreatDoor
namespace Go.Proofs.YtphmmnffgknkcabGreatDoor
open Go.ChangeShapes Go.WideShapes Go.ChangeAt Go.WideMaps Go.WideElems Go.RowKit
set_option maxRecDepth 100000
theorem cells_digest : Tryz.prog.cellsOf 40 = 32 := by kernel_rfl
def numOf8 : Value → BitVec 8
  | .int _ n => BitVec.ofInt 8 n
  | _ => 0
end Go.Proofs.YtphmmnffgknkcabGreatDoor
namespace Go.Proofs.YtphmmnffgknkcabGreatDoor
open Go.ChangeShapes Go.WideShapes Go.ChangeAt Go.WideMaps Go.WideElems Go.RowKit
set_option maxRecDepth 100000
set_option maxRecDepth 100000 in
theorem bulk_pos {H : Type} (d : DataW H) : 1 ≤ Rows.uptoBulk d := by
  cases d with
  | lit l => cases l <;> simp [Rows.uptoBulk]
  | _ => simp [Rows.uptoBulk]
set_option maxRecDepth 100000 in
theorem bulk_slice {H : Type} (e s : List (DataW H)) : Rows.uptoBulkAll e ≤ Rows.uptoBulk (DataW.slice e s) := by
  simp only [Rows.uptoBulk]; omega
set_option maxRecDepth 100000 in
theorem bulk_len {H : Type} : ∀ l : List (DataW H), l.length ≤ Rows.uptoBulkAll l
  | [] => Nat.zero_le _
  | d :: r => by
    have h1 := bulk_len r
    have h2 := bulk_pos d
    simp only [Rows.uptoBulkAll, List.length_cons]
    omega
theorem digest_of_cells {H : Type} {enc : TypeId × Value → H} {W : World} {cs : List Value} {d : DataW H} {p : List MemPlace} {fuel : Nat} (hf : DataW.trod enc Tryz.prog W 0 (fun _ => true) true fuel 40 cs = some (d, p)) :
    ∃ dg, cs = cb dg ∧ dg.length = 32 ∧ ∀ x ∈ p, x.block < W.heap.size := by
  obtain ⟨xs, m, _, hx, hl, hn, hi⟩ := DataW.trod_array Tryz.underlying40 hf
  rw [cells_digest] at hl
  rw [cells_byte] at hi
  have each : ∀ i, i < 32 → ∃ n, cs[i]? = some (.int .u8 n) ∧ xs[i]? = some (.lit (.int .u8 n), []) ∧ (Lit.int .u8 n).wf = true := by
    intro i h32
    have h1 := hi i h32
    rw [List.getElem?_eq_getElem (by omega)] at h1
    obtain ⟨n, hc, hxx, hw⟩ := DataW.trod_int Tryz.underlying5 h1
    refine ⟨n, ?_, by rw [List.getElem?_eq_getElem (by omega), hxx], hw⟩
    rw [Nat.mul_one] at hc
    have h2 := congrArg (fun l => l[0]?) hc
    simpa using h2
  have hlen : (cs.map numOf8).length = 32 := by simpa using hl
  refine ⟨cs.map numOf8, ?_, hlen, ?_⟩
  · apply List.ext_getElem?
    intro i
    by_cases h32 : i < 32
    · obtain ⟨n, h1, _, hw⟩ := each i h32
      have hb := bounds_u8 hw
      rw [h1, cb_get _ _ (by omega), List.getD_eq_getElem?_getD, List.getElem?_map, h1]
      simp only [Option.map_some, Option.getD_some, numOf8, BitVec.toNat_ofInt]
      congr 2
      omega
    · rw [List.getElem?_eq_none (by omega), List.getElem?_eq_none (by rw [cb_len]; omega)]
  · simp only [Prod.mk.injEq] at hx
    rw [hx.2]
    intro x hmem
    obtain ⟨y, hy, hxy⟩ := List.mem_flatMap.1 hmem
    obtain ⟨i, hlt, rfl⟩ := List.getElem_of_mem hy
    obtain ⟨n, _, h2, _⟩ := each i (by omega)
    rw [List.getElem?_eq_getElem hlt] at h2
    rw [Option.some.inj h2] at hxy
    cases hxy
end Go.Proofs.YtphmmnffgknkcabGreatDoor
namespace Go.Proofs.YtphmmnffgknkcabGreatDoor
open Go.ChangeShapes Go.WideShapes Go.ChangeAt Go.WideMaps Go.WideElems Go.RowKit
set_option maxRecDepth 100000
set_option maxRecDepth 100000 in
theorem readable_trees18 : Tryz.prog.readableRec 25 = true := by kernel_rfl
set_option maxRecDepth 100000 in
theorem row_trees18 : 25 < Tryz.prog.types.size := of_decide_eq_true (by kernel_rfl)
theorem cells_digests18 : Tryz.prog.cellsOf 22 = 1 := by kernel_rfl
theorem cells_bools18 : Tryz.prog.cellsOf 23 = 1 := by kernel_rfl
theorem cells_bool18 : Tryz.prog.cellsOf 4 = 1 := by kernel_rfl
theorem cells_trees18 : Tryz.prog.cellsOf 25 = 3 := by kernel_rfl
set_option maxRecDepth 100000 in
theorem readsD_of_cells {H : Type} {enc : TypeId × Value → H} {W : World} {a1 : Option Addr} {len cap : Nat} {d : DataW H} {p : List MemPlace} {fuel : Nat} (hf : DataW.trod enc Tryz.prog W 0 (fun _ => true) true fuel 22 [.slice a1 len cap] = some (d, p)) :
    ∃ ds, ReadsD W (.slice a1 len cap) ds ∧ ds.length ≤ Rows.uptoBulk d ∧ ∀ x ∈ p, x.block < W.heap.size := by
  rcases Go.Deep.open_slice Tryz.underlying22 hf with ⟨hcs, hx⟩ | ⟨a, len', cap', m, n, D, Pl, hcs, _, hl, hm, hmm, hx, hV⟩
  · simp at hcs
    obtain ⟨rfl, rfl, rfl⟩ := hcs
    simp only [Prod.mk.injEq] at hx
    obtain ⟨rfl, rfl⟩ := hx
    exact ⟨[], ⟨⟨none, 0, rfl, Nat.le_refl _, fun _ => rfl, fun h => by cases h⟩, fun _ h => by cases h⟩, Nat.zero_le _, fun _ h => by cases h⟩
  · simp at hcs
    obtain ⟨rfl, rfl, rfl⟩ := hcs
    simp only [Prod.mk.injEq] at hx
    obtain ⟨rfl, rfl⟩ := hx
    simp only [if_true] at hmm
    subst hmm
    rw [cells_digest] at hV
    obtain ⟨B, hB⟩ := Go.Deep.choose_lt (α := List (BitVec 8)) (p := fun i dg => W.cells? 0 (a.add (i * 32)) 32 = some (cb dg) ∧ dg.length = 32 ∧ ∀ x ∈ Pl i, x.block < W.heap.size) (fun i hi => by
      obtain ⟨cs', h1, h2⟩ := hV i hi
      obtain ⟨dg, rfl, h3, h4⟩ := digest_of_cells h2
      exact ⟨dg, h1, h3, h4⟩)
    have hlen : ((List.range len).map B).length = len := by simp
    obtain ⟨ab, ao, spot⟩ := a
    have cell : ∀ i, i < m → ∀ j, j < 32 → W.cell? ((⟨ab, ao, spot⟩ : Addr).add (i * 32 + j)) = (cb (B i))[j]? := by
      intro i hi j hj
      obtain ⟨h1, _, _⟩ := hB i hi
      obtain ⟨_, _, h4⟩ := World.cells?_some h1
      have := h4 j hj
      rw [Go.Deep.add_add] at this
      exact this
    have hspot : 0 < m → spot = none := fun hp => by
      have h := cell 0 hp 0 (by omega)
      rw [cb_get _ 0 (by rw [(hB 0 hp).2.1]; omega)] at h
      simpa [Addr.add] using World.cell?_spot h
    refine ⟨(List.range len).map B, ⟨⟨some ⟨ab, ao, spot⟩, m, by rw [hlen], by rw [hlen]; exact hl, (fun h => by cases h), fun hp => ?_⟩, ?_⟩, by rw [hlen]; exact Nat.le_trans (by have := bulk_len ((List.range len).map D); simpa using this) (bulk_slice _ _), fun x hx => ?_⟩
    · rw [hlen] at hp ⊢
      have hs := hspot (by omega)
      subst hs
      refine ⟨ab, ao, rfl, fun j hj i v hv => ?_⟩
      have e : ((List.range len).map B).getD j [] = B j := by simp [hj]
      rw [e] at hv
      have hi : i < 32 := by have := (List.getElem?_eq_some_iff.1 hv).1; rwa [cb_len, (hB j (by omega)).2.1] at this
      have h := cell j (by omega) i hi
      rw [hv, Addr.add_lit] at h
      rw [Nat.add_assoc]; exact h
    · intro dg hd
      obtain ⟨i, hi, rfl⟩ := List.mem_map.1 hd
      exact (hB i (by have := List.mem_range.1 hi; omega)).2.1
    · rcases List.mem_append.1 hx with hx | hx
      · rw [cells_digest] at hx
        simp only [MemPlace.row, List.mem_map, List.mem_range] at hx
        obtain ⟨i, hi, rfl⟩ := hx
        have h := cell (i / 32) (by omega) (i % 32) (by omega)
        rw [cb_get _ _ (by rw [(hB (i / 32) (by omega)).2.1]; omega), show i / 32 * 32 + i % 32 = i by omega] at h
        have := block_lt_of_cell h
        simp only [Addr.add] at this
        split at this <;> exact this
      · obtain ⟨i, hi, hx⟩ := List.mem_flatMap.1 hx
        exact (hB i (List.mem_range.1 hi)).2.2 x hx
set_option maxRecDepth 100000 in
theorem readsBo_of_cells {H : Type} {enc : TypeId × Value → H} {W : World} {a1 : Option Addr} {len cap : Nat} {d : DataW H} {p : List MemPlace} {fuel : Nat} (hf : DataW.trod enc Tryz.prog W 0 (fun _ => true) true fuel 23 [.slice a1 len cap] = some (d, p)) :
    ∃ bs, ReadsBo W (.slice a1 len cap) bs := by
  rcases Go.Deep.open_slice Tryz.underlying23 hf with ⟨hcs, hx⟩ | ⟨a, len', cap', m, n, D, Pl, hcs, _, hl, hm, hmm, hx, hV⟩
  · simp at hcs
    obtain ⟨rfl, rfl, rfl⟩ := hcs
    exact ⟨[], none, 0, rfl, fun h => by cases h⟩
  · simp at hcs
    obtain ⟨rfl, rfl, rfl⟩ := hcs
    simp only [if_true] at hmm
    subst hmm
    rw [cells_bool18] at hV
    obtain ⟨B, hB⟩ := Go.Deep.choose_lt (α := Bool) (p := fun i b => W.cells? 0 (a.add (i * 1)) 1 = some [.bool b]) (fun i hi => by
      obtain ⟨cs', h1, h2⟩ := hV i hi
      obtain ⟨b, rfl, _⟩ := DataW.trod_bool Tryz.underlying4 h2
      exact ⟨b, h1⟩)
    have hlen : ((List.range len).map B).length = len := by simp
    obtain ⟨ab, ao, spot⟩ := a
    have cell : ∀ i, i < m → W.cell? ((⟨ab, ao, spot⟩ : Addr).add i) = some (.bool (B i)) := by
      intro i hi
      obtain ⟨_, _, h4⟩ := World.cells?_some (hB i hi)
      have := h4 0 (by omega)
      rw [Go.Deep.add_add] at this
      simpa using this
    have hspot : 0 < m → spot = none := fun hp => by
      have h := cell 0 hp
      simpa [Addr.add] using World.cell?_spot h
    refine ⟨(List.range len).map B, some ⟨ab, ao, spot⟩, m, by rw [hlen], fun hp => ?_⟩
    rw [hlen] at hp ⊢
    have hs := hspot (by omega)
    subst hs
    refine ⟨ab, ao, rfl, fun j hj => ?_⟩
    have e : ((List.range len).map B).getD j false = B j := by simp [hj]
    rw [e]
    have h := cell j (by omega)
    rw [Addr.add_lit] at h
    exact h
theorem slice_of_trod {H : Type} {enc : TypeId × Value → H} {W : World} {t e : TypeId} (ht : Tryz.prog.underlying t = some (.slice e)) {v : Value} {y : DataW H × List MemPlace} {fuel : Nat} (hf : DataW.trod enc Tryz.prog W 0 (fun _ => true) true fuel t [v] = some y) : ∃ a n c, v = .slice a n c := by
  rcases Go.Deep.open_slice ht hf with ⟨hcs, _⟩ | ⟨a, n, c, _, _, _, _, hcs, _⟩
  · simp at hcs
    exact ⟨_, _, _, hcs⟩
  · simp at hcs
    exact ⟨_, _, _, hcs⟩
set_option maxRecDepth 100000 in
theorem trees18_of_trod {H : Type} {enc : TypeId × Value → H} {W : World} {base : Nat} {v : Value} {d : DataW H} {p : List MemPlace} (hval : Value.okWide Tryz.prog W .any base 25 v)
    (h : DataW.Trod enc Tryz.prog W 0 (fun _ => true) true 25 v d p) :
    ∃ va vv vk ds es bs, v = .agg #[va, vv, vk] ∧ ReadsD W va ds ∧ ReadsD W vv es ∧ ReadsBo W vk bs ∧ ∀ x ∈ p, x.block < W.heap.size := by
  simp only [Value.okWide, Tryz.underlying25] at hval
  obtain ⟨cs, rfl, hcs, _⟩ := hval
  obtain ⟨fuel, hf⟩ := h
  have hp := DataW.trod_lt _ _ _ _ hf
  obtain ⟨y0, y1, y2, n, hx, hl, h0, h1, h2⟩ := Go.Deep.trod_struct3 Tryz.underlying25 hf
  simp only [Value.cells] at hl h0 h1 h2
  rw [cells_trees18] at hl
  rw [cells_digests18] at h0 h1
  rw [cells_bools18] at h2
  obtain ⟨l⟩ := cs
  match l, hl with
  | [c0, c1, c2], _ =>
    simp at h0 h1 h2
    obtain ⟨a0, n0, k0, rfl⟩ := slice_of_trod Tryz.underlying22 h0
    obtain ⟨a1, n1, k1, rfl⟩ := slice_of_trod Tryz.underlying22 h1
    obtain ⟨a2, n2, k2, rfl⟩ := slice_of_trod Tryz.underlying23 h2
    obtain ⟨ds, hr0, _⟩ := readsD_of_cells (d := y0.1) (p := y0.2) h0
    obtain ⟨es, hr1, _⟩ := readsD_of_cells (d := y1.1) (p := y1.2) h1
    obtain ⟨bs, hr2⟩ := readsBo_of_cells (d := y2.1) (p := y2.2) h2
    exact ⟨_, _, _, ds, es, bs, rfl, hr0, hr1, hr2, hp⟩
end Go.Proofs.YtphmmnffgknkcabGreatDoor

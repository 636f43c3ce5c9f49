import Derived.Test.YtphmmnffgknkcabGreatDoorMzf
import Derived.Test.YtphmmnffgknkcabGreatDoorMze
import Derived.Test.YtphmmnffgknkcabGreatDoorRows
import Derived.Test.YtphmmnffgknkcabGreatDoorMza
import Derived.ProofKit
import Derived.LaidMore
import Derived.OpenShut
import Derived.Stop.Joined
import Derived.Lib.LaidTab
import Derived.Carry
import Derived.ChangeSlices
import Derived.Test.YtphmmnffgknkcabGreatDoorMzb
import Derived.Deep.Slices
import Derived.Deep.Strs
import Derived.Lib.SmallJoins
namespace Go.Proofs.YtphmmnffgknkcabGreatDoor
open Go.RowKit
set_option maxRecDepth 100000
def mostL : List (List Lf) → Nat
  | [] => 0
  | l :: r => 1 + 256 * l.length + mostL r
theorem mostL_snoc : ∀ (ks : List (List Lf)) (l : List Lf), mostL (ks ++ [l]) = mostL ks + (1 + 256 * l.length)
  | [], l => by simp [mostL]
  | k :: ks, l => by rw [List.cons_append, mostL, mostL_snoc ks l, mostL]; omega
theorem mostL_le : ∀ {ks : List (List Lf)}, (∀ l ∈ ks, l.length ≤ 20) → mostL ks ≤ ks.length * 5121
  | [], _ => Nat.le_refl _
  | k :: ks, h => by
    have h1 := mostL_le (ks := ks) fun l hl => h l (List.mem_cons_of_mem _ hl)
    have h2 := h k (by simp)
    rw [mostL, List.length_cons]
    omega
theorem saves_most : ∀ {ks : List (List Lf)}, (∀ l ∈ ks, Fits l 0) → (ks.flatMap fun l => (saveL 0 l).map dig).length ≤ mostL ks
  | [], _ => Nat.le_refl _
  | k :: ks, h => by
    have h1 := saves_most (ks := ks) fun l hl => h l (List.mem_cons_of_mem _ hl)
    have h2 := save_count 256 0 k rfl (h k (by simp))
    rw [List.flatMap_cons, List.length_append, List.length_map, mostL]
    omega
theorem rise_nd : ∀ {ts : List Dg}, RiseD ts → (ts.map (·.1)).Nodup
  | [], _ => List.nodup_nil
  | t :: ts, h => by
    obtain ⟨h1, h2⟩ := List.pairwise_cons.1 h
    rw [List.map_cons]
    refine List.nodup_cons.2 ⟨fun hm => ?_, rise_nd h2⟩
    obtain ⟨y, hy, e⟩ := List.mem_map.1 hm
    have := h1 y hy
    rw [e, lessB_self] at this
    cases this
theorem live_few {ts : List Dg} {ks : List (List Lf)} (hr : RiseD ts) (hm : ∀ x : Dg, x ∈ ts ↔ keyIn ks x.1) (hf : ∀ l ∈ ks, Fits l 0) : ts.length ≤ mostL ks := by
  refine Nat.le_trans ?_ (saves_most hf)
  have h := nodup_sub_len (rise_nd hr) (b := ks.flatMap fun l => (saveL 0 l).map dig) fun x hx => by
    obtain ⟨y, hy, e⟩ := List.mem_map.1 hx
    obtain ⟨l, hl, p, hp, e2⟩ := (hm y).1 hy
    rw [← e, ← e2]
    exact List.mem_flatMap.2 ⟨l, hl, List.mem_map.2 ⟨p, hp, rfl⟩⟩
  rwa [List.length_map] at h
theorem idxT18 (b off c n k : Nat) (hk : k < n) (f : Operand → Value) (o : Oper) (x y : Operand) (ho : o.op = .indexAddr 27 x y) (hx : f x = .slice (some ⟨b, off, none⟩) n c) (hy : f y = .int .i64 (k : Int)) (w : World) :
    (execOp f o).run Tryz.prog w = .ok (.value (.pointer (some ⟨b, off + k * 2, none⟩))) w := by
  have k0 : (0 : Int) ≤ (k : Int) := by omega
  have k1 : (k : Int) < (n : Int) := by omega
  have hs : (Go.sizeOf 47).run Tryz.prog w = .ok 2 w := by kernel_rfl
  unfold execOp
  rw [ho]
  simp [go_sem, hx, hy, k0, k1, Addr.add_mid, hs]
theorem wpSeq_idxT18 {ops : Array Oper} {Q : Exit → Act → World → Prop} {rest : List Oper} {o : Oper} {a : Act} {w : World} (x y : Operand) (b off n c k : Nat) (hk : k < n) (ho : o.op = .indexAddr 27 x y) (hx : a.eval x = .slice (some ⟨b, off, none⟩) n c) (hy : a.eval y = .int .i64 (k : Int)) (hw : Region.wanted o (yielded ops a.tmps) = true)
    (h : wpList Tryz.prog ops Q rest (a.put o.dst (.pointer (some ⟨b, off + k * 2, none⟩))) w) : wpList Tryz.prog ops Q (o :: rest) a w :=
  wpSeq_val _ _ hw (idxT18 b off c n k hk _ _ x y ho hx hy w) h
theorem TrsR.below {w w' : World} {v : Value} {ks : List (List Lf)} (h : TrsR w v ks) (hb : Below w.heap.size w w') : TrsR w' v ks := by
  obtain ⟨ad, cap, h1, h2⟩ := h
  refine ⟨ad, cap, h1, fun hp => ?_⟩
  obtain ⟨g, h3, h4⟩ := h2 hp
  refine ⟨g, h3, fun j hj => ?_⟩
  obtain ⟨a1, n1, c1, a2, n2, c2, h5, h6⟩ := h4 j hj
  exact ⟨a1, n1, c1, a2, n2, c2, fun i v hi => by rw [hb.cell (p := ⟨g, j * 2 + i, none⟩) (block_lt_of_cell (h5 i v hi))]; exact h5 i v hi, h6.below hb⟩
theorem info_trees18 {a b c : Value} : (Tryz.prog.info? 25).map (·.size) = some [a, b, c].length := by kernel_rfl
set_option maxRecDepth 100000 in
set_option maxHeartbeats 16000000 in
theorem reapBound_law (va vv vk : Value) (ds es : List By) (bs : List Bool) (w : World) (hK : KOk w) (hA : ReadsD w va ds) (hV : ReadsD w vv es) (hB : ReadsBo w vk bs) :
    Calls Tryz.prog 5 #[.agg #[va, vv, vk]] w fun e w' => e = .returned (.bool true) ∧ Below w.heap.size w w' := by
  obtain ⟨z, HZ⟩ : ∃ z, Hid (z = ds.zip es) := ⟨_, rfl⟩
  obtain ⟨n, HNN⟩ : ∃ n, Hid (n = min (min ds.length es.length) 20) := ⟨_, rfl⟩
  have HZO : okLf z := by rw [HZ.out]; exact zip_okR hA hV
  have hn20 : n ≤ 20 := by rw [HNN.out]; omega
  obtain ⟨ks, HKS⟩ : ∃ x, Hid (x = kps z bs n) := ⟨_, rfl⟩
  obtain ⟨ps, HPS⟩ : ∃ x, Hid (x = pgs z n) := ⟨_, rfl⟩
  have HG : Hid (∀ l ∈ ks, GoodT ps l) := by rw [HKS.out, HPS.out]; exact kps_good HZO hn20
  have HKL : Hid (ks.length ≤ 20) := by rw [HKS.out]; exact Nat.le_trans (kps_len n) hn20
  have HLL : Hid (∀ l ∈ ks, l.length ≤ 20) := by
    rw [HKS.out]
    intro l hl
    obtain ⟨j, h1, h2, rfl⟩ := kps_of n l hl
    have := (allL_ok HZO j).2.2
    omega
  have HPL : Hid (ps.length < 100000 ∧ ∀ p ∈ ps, p.length ≤ 512) := by
    rw [HPS.out]
    have h := pgs_spec HZO n
    refine ⟨Nat.lt_of_le_of_lt h.2.2.2 ?_, fun p hp => (h.2.2.1 p hp).2⟩
    have : n * (n + 1) ≤ 20 * 21 := Nat.mul_le_mul hn20 (by omega)
    omega
  have HALL : Hid (∀ W, Below w.heap.size w W → Calls Tryz.prog 6 #[.agg #[va, vv, vk]] W fun e w' => ∃ v2 v3 v4, e = .returned (.tuple #[v2, v3, v4]) ∧ ReadsD w' v2 (ks.map fun l => dig (topPg 0 l)) ∧ ReadsL w' v3 ps ∧ TrsR w' v4 ks ∧ Below W.heap.size W w') := fun W hW => by
    rw [HKS.out, HPS.out, HZ.out, HNN.out]
    exact all18_any va vv vk ds es bs W (hK.below hW hK.lt) (hA.below hW) (hV.below hW) (hB.below hW)
  obtain ⟨ada, cpa, hva⟩ := hA.slice
  obtain ⟨adv, cpv, hvv⟩ := hV.slice
  obtain ⟨adk, cpk, hvk, _⟩ := hB
  generalize ds.length = nA at hva
  generalize es.length = nV at hvv
  generalize bs.length = nK at hvk
  subst hva hvv hvk
  have HK : Hid (KOk w) := hK
  have HBW : Hid (Below w.heap.size w w) := Below.refl _ _
  clear hK hA hV HZO hn20
  go_enter Tryz.func5, Tryz.ntmps5
  have ta0 : Hid True := trivial
  have ta1 : Hid True := trivial
  have ta2 : Hid True := trivial
  have ta3 : Hid True := trivial
  have ta4 : Hid True := trivial
  have ta5 : Hid True := trivial
  go_wp2_with (first
    | (clear ta0; with_reducible refine wpSeq_boxW 25 (.tmp 0) [Value.slice ada nA cpa, .slice adv nV cpv, .slice adk nK cpk] ?_ ?_ ?_ ?_
       · rfl
       · rfl
       · rfl
       intro g1 w1 nn
       have hb := nn.below
       have H1 : Hid (Blk w1 g1 [Value.slice ada nA cpa, .slice adv nV cpv, .slice adk nK cpk] 25) := nn.blk
       replace HBW : Hid (Below w.heap.size w w1) := HBW.out.trans (hb.mono HBW.out.size)
       clear nn hb)
    | (clear ta1; with_reducible refine wpSeq_loadW 25 (.tmp 1) g1 0 [Value.slice ada nA cpa, .slice adv nV cpv, .slice adk nK cpk] _ H1.out.range Tryz.underlying25 rfl info_trees18 ?_ ?_ ?_ ?_
       · rfl
       · rfl
       · rfl
       have HQ1 : Hid True := trivial)
    | (clear ta2; go_at_call 6; refine (HALL.out _ HBW.out).mono ?_; rintro e w2 ⟨v2, v3, v4, rfl, h2, h3, h4, hb⟩
       obtain ⟨a2, c2, e2⟩ := h2.slice
       obtain ⟨a3, c3, e3, _⟩ := id h3
       obtain ⟨a4, c4, e4, _⟩ := id h4
       rw [List.length_map] at e2
       obtain ⟨nk, HNK⟩ : ∃ z, Hid (z = ks.length) := ⟨_, rfl⟩
       obtain ⟨np, HNP⟩ : ∃ z, Hid (z = ps.length) := ⟨_, rfl⟩
       rw [← HNK.out] at e2 e4
       rw [← HNP.out] at e3
       subst e2 e3 e4
       have HD : Hid (ReadsD w2 (.slice a2 nk c2) (ks.map fun l => dig (topPg 0 l))) := h2
       have HL : Hid (ReadsL w2 (.slice a3 np c3) ps) := h3
       have HT : Hid (TrsR w2 (.slice a4 nk c4) ks) := h4
       replace HBW : Hid (Below w.heap.size w w2) := HBW.out.trans (hb.mono HBW.out.size)
       clear h2 h3 h4 hb H1 HALL)
    | (clear ta3; go_at_call 7; refine (any9_any _ ps _ HL.out (fun p hp => Nat.lt_of_le_of_lt (HPL.out.2 p hp) (by decide)) (Nat.lt_trans HPL.out.1 (by decide))).mono ?_; rintro e w3 ⟨t, rfl, hap, hb⟩
       replace HD : Hid (ReadsD w3 (.slice a2 nk c2) (ks.map fun l => dig (topPg 0 l))) := HD.out.below hb
       replace HL : Hid (ReadsL w3 (.slice a3 np c3) ps) := HL.out.below hb
       replace HT : Hid (TrsR w3 (.slice a4 nk c4) ks) := HT.out.below hb
       replace HBW : Hid (Below w.heap.size w w3) := HBW.out.trans (hb.mono HBW.out.size)
       clear hb
       cases t <;> first | (have HAP : Hid (Apart17 ps) := hap rfl; clear hap) | clear hap)
    | (clear ta4; go_at_call 8; refine (works18_any _ (HK.out.below HBW.out HK.out.lt)).mono ?_; rintro e wz ⟨rfl, hz⟩
       have HBZ : Hid (Below w.heap.size w wz) := HBW.out.trans (hz.mono HBW.out.size)
       clear hz)
    | (clear ta5; go_at_call 12; refine (live_any _ _ ks ps _ (HK.out.below HBW.out HK.out.lt) HD.out HL.out HG.out HAP.out HKL.out HPL.out.1 (fun p hp => Nat.lt_of_le_of_lt (HPL.out.2 p hp) (by decide))).mono ?_; rintro e w4 ⟨v6, ts, rfl, h1, h2, h3, hb⟩
       obtain ⟨a6, c6, e6⟩ := h3.slice
       rw [List.length_map] at e6
       obtain ⟨na, HNA⟩ : ∃ z, Hid (z = ts.length) := ⟨_, rfl⟩
       rw [← HNA.out] at e6
       subst e6
       have HTS : Hid (RiseD ts ∧ (∀ x : Dg, x ∈ ts ↔ keyIn ks x.1)) := ⟨h1, h2⟩
       have HR6 : Hid (ReadsD w4 (.slice a6 na c6) (ts.map (·.1))) := h3.readsD
       replace HL : Hid (ReadsL w4 (.slice a3 np c3) ps) := HL.out.below hb
       replace HT : Hid (TrsR w4 (.slice a4 nk c4) ks) := HT.out.below hb
       replace HBW : Hid (Below w.heap.size w w4) := HBW.out.trans (hb.mono HBW.out.size)
       clear h1 h2 h3 hb HD HAP))
  · skip
    go_loopw [8, 9] (fun u v W => ∃ i m : Nat, i ≤ nk ∧ u = .int .i64 (m : Int) ∧ v = .int .i64 (i : Int) ∧ Hid (m = mostL (ks.take i)) ∧ Hid (Below w4.heap.size w4 W)) (fun _ v _ => nk - (intOf v).toNat)
    case atStart => exact ⟨0, 0, Nat.zero_le _, rfl, rfl, rfl, Below.refl _ _⟩
    case round =>
      obtain ⟨i, m, hi, rfl, rfl, HM, HW⟩ := hrel
      by_cases hlt : i < nk
      case pos =>
        have hlti : (i : Int) < (nk : Int) := by omega
        obtain ⟨ad4, cp4, ev, hx4⟩ := HT.out
        obtain ⟨g4, rfl, hat⟩ := hx4 (by rw [← HNK.out]; omega)
        simp only [Value.slice.injEq] at ev
        obtain ⟨rfl, hcl, rfl⟩ := ev
        clear hcl
        obtain ⟨b1, n1, c1, b2, n2, c2v, hr4, hlf⟩ := hat i (by rw [← HNK.out]; exact hlt)
        obtain ⟨l, HLT⟩ : ∃ l, Hid (l = ks.getD i []) := ⟨_, rfl⟩
        have hik : i < ks.length := by rw [← HNK.out]; exact hlt
        have hlm : l ∈ ks := by rw [HLT.out, List.getD_eq_getElem?_getD, List.getElem?_eq_getElem hik]; exact List.getElem_mem hik
        have HTK : Hid (ks.take (i + 1) = ks.take i ++ [l]) := by show _ = _; rw [HLT.out, List.take_add_one, List.getElem?_eq_getElem hik, List.getD_eq_getElem?_getD, List.getElem?_eq_getElem hik, Option.toList_some, Option.getD_some]
        have HN1 : Hid (n1 = l.length ∧ l.length ≤ 20) := by
          obtain ⟨ad, cp, e⟩ := hlf.1.slice
          simp only [Value.slice.injEq] at e
          exact ⟨by rw [e.2.1, List.length_map, HLT.out], HLL.out l hlm⟩
        have HMB : Hid (m ≤ 20 * 5121) := by
          show _ ≤ _
          rw [HM.out]
          refine Nat.le_trans (mostL_le fun l hl => HLL.out l (List.mem_of_mem_take hl)) (Nat.mul_le_mul_right _ ?_)
          rw [List.length_take]
          have := HKL.out
          omega
        have hce : ∀ W, Below w4.heap.size w4 W → W.cell? ⟨g4, i * 2, none⟩ = some (.slice b1 n1 c1) := fun W hW => by
          have h := hr4 0 _ rfl
          rw [Nat.add_zero] at h
          rw [hW.cell (p := ⟨g4, i * 2, none⟩) (block_lt_of_cell h)]
          exact h
        have cx := hce wr HW.out
        have f1 : IntKind.i64.wrap ((m : Int) + 1) = (m : Int) + 1 := by rw [IntKind.wrap_i64]; have := HMB.out; omega
        have f2 : IntKind.i64.wrap (256 * (n1 : Int)) = 256 * (n1 : Int) := by rw [IntKind.wrap_i64]; have := HN1.out; omega
        have f3 : IntKind.i64.wrap ((m : Int) + 1 + 256 * (n1 : Int)) = (m : Int) + 1 + 256 * (n1 : Int) := by rw [IntKind.wrap_i64]; have := HMB.out; have := HN1.out; omega
        have fk : IntKind.i64.wrap ((i : Int) + 1) = (i : Int) + 1 := by rw [IntKind.wrap_i64]; have := HKL.out; have := HNK.out; omega
        clear hat hr4 hlf hlm hce hik
        have tb0 : Hid True := trivial
        go_wp2_with (first
          | (clear tb0; with_reducible refine wpSeq_idxT18 (.tmp 38) (.tmp 39) g4 0 nk c4 i hlt ?_ ?_ ?_ ?_ ?_
             · rfl
             · rfl
             · rfl
             · rfl
             rw [Nat.zero_add]))
        go_roundw
        case rel => exact ⟨i + 1, m + (1 + 256 * n1), by omega, by simp; omega, by simp, by show _ = _; rw [HTK.out, mostL_snoc, ← HM.out, HN1.out.1], HW.out⟩
        case measure => simp [intOf]; omega
      case neg =>
        have hie : i = nk := by omega
        have HMM : Hid (m = mostL ks) := by
          show _ = _
          rw [HM.out, hie, HNK.out, List.take_length]
        subst hie
        have HTN : Hid (na ≤ m) := by
          show _ ≤ _
          rw [HNA.out, HMM.out]
          exact live_few HTS.out.1 HTS.out.2 fun l hl => (HG.out l hl).fits
        have HMB2 : Hid (m ≤ 20 * 5121) := by
          show _ ≤ _
          rw [HMM.out]
          exact Nat.le_trans (mostL_le HLL.out) (Nat.mul_le_mul_right _ HKL.out)
        clear HM HMM HT
        have hnl : ¬ ((i : Int) < (i : Int)) := by omega
        go_wp2
        go_loopw [10] (fun u W => ∃ j : Nat, j ≤ na ∧ u = .int .i64 (j : Int) ∧ Hid (Below w4.heap.size w4 W)) (fun u _ => na - (intOf u).toNat)
        case atStart => exact ⟨0, Nat.zero_le _, rfl, HW.out⟩
        case round =>
          rename World => wq
          clear HW
          obtain ⟨j, hj, rfl, HW⟩ := hrel
          by_cases hjl : j < na
          case pos =>
            have hjli : (j : Int) < (na : Int) := by omega
            have fj : IntKind.i64.wrap ((j : Int) + 1) = (j : Int) + 1 := by rw [IntKind.wrap_i64]; have := HTN.out; have := HMB2.out; omega
            have hjt : j < ts.length := by rw [← HNA.out]; exact hjl
            obtain ⟨x, HXD⟩ : ∃ x, Hid (x = (ts.map (·.1)).getD j []) := ⟨_, rfl⟩
            have hxe : x = (ts[j]'hjt).1 := by rw [HXD.out, List.getD_eq_getElem?_getD, List.getElem?_map, List.getElem?_eq_getElem hjt, Option.map_some, Option.getD_some]
            have HXL : Hid (x.length = 32) := by show _ = _; rw [hxe]; exact (ts[j]'hjt).2
            obtain ⟨k0, HK0⟩ : ∃ k0, Hid (k0 < np ∧ dig (ps.getD k0 []) = x) := by
              obtain ⟨l, hl, p, hp, e⟩ := (HTS.out.2 (ts[j]'hjt)).1 (List.getElem_mem hjt)
              obtain ⟨k0, hk0, e2⟩ := List.getElem_of_mem ((HG.out l hl).has p hp)
              exact ⟨k0, by rw [HNP.out]; exact hk0, by rw [List.getD_eq_getElem?_getD, List.getElem?_eq_getElem hk0, Option.getD_some, e2, e, hxe]⟩
            obtain ⟨b6, o6, c6b, e6, hy6⟩ := HR6.out.at (by rw [List.length_map]; omega)
            rw [List.length_map, ← HNA.out] at e6
            simp only [Value.slice.injEq, true_and] at e6
            obtain ⟨rfl, rfl⟩ := e6
            have hr6 := hy6 j (by rw [List.length_map]; exact hjt)
            rw [← HXD.out] at hr6
            have HX6 : Hid (∀ W, Below w4.heap.size w4 W → W.rangeAt b6 (o6 + j * 32) (cb x)) := fun W hW => rangeAt_grow hr6 hW
            clear hy6 hr6 hxe hjt
            go_wp2
            go_loopw [11, 12] (fun u v W => ∃ (k : Nat) (t : Bool), k ≤ np ∧ u = .bool t ∧ v = .int .i64 (k : Int) ∧ Hid (k0 < k → t = true) ∧ Hid (Below w4.heap.size w4 W)) (fun _ v _ => np - (intOf v).toNat)
            case atStart => exact ⟨0, false, Nat.zero_le _, rfl, rfl, (fun h => absurd h (Nat.not_lt_zero _)), HW.out⟩
            case round =>
              rename World => wv
              clear HW
              obtain ⟨k, t, hk, rfl, rfl, HT0, HW⟩ := hrel
              by_cases hkl : k < np
              case pos =>
                have hkli : (k : Int) < (np : Int) := by omega
                have fk : IntKind.i64.wrap ((k : Int) + 1) = (k : Int) + 1 := by rw [IntKind.wrap_i64]; have := HPL.out.1; have := HNP.out; omega
                obtain ⟨ad3, cp3, e3, _, _, hx3⟩ := id HL.out
                obtain ⟨b3, o3, rfl, hy3⟩ := hx3 (by rw [← HNP.out]; omega)
                simp only [Value.slice.injEq] at e3
                obtain ⟨rfl, hcl, rfl⟩ := e3
                clear hcl
                obtain ⟨q, HQ⟩ : ∃ q, Hid (q = ps.getD k []) := ⟨_, rfl⟩
                obtain ⟨u, hcu, hru⟩ := hy3 k (by rw [← HNP.out]; exact hkl)
                rw [← HQ.out] at hru
                obtain ⟨ap, cq, e5, _, _, _⟩ := id hru
                obtain ⟨nq, HNQ⟩ : ∃ z, Hid (z = q.length) := ⟨_, rfl⟩
                rw [← HNQ.out] at e5
                subst e5
                have HU : Hid (∀ W, Below w4.heap.size w4 W → W.cell? ⟨b3, o3 + k, none⟩ = some (.slice ap nq cq) ∧ Reads W (.slice ap nq cq) q) := fun W hW => ⟨by rw [hW.cell (p := ⟨b3, o3 + k, none⟩) (block_lt_of_cell hcu)]; exact hcu, hru.below hW⟩
                have HQL : Hid (q.length < 140737488355000) := by
                  have hm : q ∈ ps := by rw [HQ.out, List.getD_eq_getElem?_getD, List.getElem?_eq_getElem (by rw [← HNP.out]; exact hkl)]; exact List.getElem_mem _
                  exact Nat.lt_of_le_of_lt (HPL.out.2 q hm) (by decide)
                clear hy3 hcu hru hx3
                cases t
                · go_wp2_with fail
                  refine wp_region_held_drew (S := fun wx => Below w4.heap.size w4 wx) (by kernel_rfl) HW.out.drew ?_
                  intro hS
                  change wpAnyH _ _ _ _ _ _ _ _ (World.drew wv)
                  generalize World.drew wv = wd at *
                  refine wpAnyH_take (i := 0) (v := .bool false) rfl (by kernel_rfl) (by kernel_rfl) (by kernel_rfl) (fun _ _ _ h => h) (Or.inl ⟨by rfl, fun wx hx => by simp [go_sem]⟩) hS ?_
                  simp only [Act.put, List.getElem_toArray, List.getElem_cons_zero, List.setIfInBounds_toArray, List.set_cons_zero, List.set_cons_succ]
                  refine wpAnyH_take (i := 1) (v := .bool false) rfl (by kernel_rfl) (by kernel_rfl) (by kernel_rfl) (fun _ _ _ h => h) (Or.inl ⟨by rfl, fun wx hx => by simp [go_sem]⟩) hS ?_
                  simp only [Act.put, List.getElem_toArray, List.getElem_cons_succ, List.getElem_cons_zero, List.setIfInBounds_toArray, List.set_cons_zero, List.set_cons_succ]
                  refine wpAnyH_take (i := 2) (v := .slice (some ⟨b3, o3, none⟩) np c3) rfl (by kernel_rfl) (by kernel_rfl) (by kernel_rfl) (fun _ _ _ h => h) (Or.inl ⟨by rfl, fun wx hx => by simp [go_sem]⟩) hS ?_
                  simp only [Act.put, List.getElem_toArray, List.getElem_cons_succ, List.getElem_cons_zero, List.setIfInBounds_toArray, List.set_cons_zero, List.set_cons_succ]
                  refine wpAnyH_take (i := 3) (v := .int .i64 (k : Int)) rfl (by kernel_rfl) (by kernel_rfl) (by kernel_rfl) (fun _ _ _ h => h) (Or.inl ⟨by rfl, fun wx hx => by simp [go_sem]⟩) hS ?_
                  simp only [Act.put, List.getElem_toArray, List.getElem_cons_succ, List.getElem_cons_zero, List.setIfInBounds_toArray, List.set_cons_zero, List.set_cons_succ]
                  refine wpAnyH_take (i := 4) (v := .pointer (some ⟨b3, o3 + k, none⟩)) rfl (by kernel_rfl) (by kernel_rfl) (by kernel_rfl) (fun _ _ _ h => h) (Or.inl ⟨by rfl, fun wx hx => by exact idxQ b3 o3 np c3 k hkl _ _ (.tmp 60) (.tmp 61) rfl rfl rfl wx⟩) hS ?_
                  simp only [Act.put, List.getElem_toArray, List.getElem_cons_succ, List.getElem_cons_zero, List.setIfInBounds_toArray, List.set_cons_zero, List.set_cons_succ]
                  refine wpAnyH_take (i := 5) (v := .slice ap nq cq) rfl (by kernel_rfl) (by kernel_rfl) (by kernel_rfl) (fun _ _ _ h => h) (Or.inl ⟨by rfl, fun wx hx => by (have cx := (HU.out wx hx).1; simp [go_sem, cx])⟩) hS ?_
                  simp only [Act.put, List.getElem_toArray, List.getElem_cons_succ, List.getElem_cons_zero, List.setIfInBounds_toArray, List.set_cons_zero, List.set_cons_succ]
                  refine wpAnyH_take (i := 7) (v := .slice (some ⟨b6, o6, none⟩) na c6) rfl (by kernel_rfl) (by kernel_rfl) (by kernel_rfl) (fun _ _ _ h => h) (Or.inl ⟨by rfl, fun wx hx => by simp [go_sem]⟩) hS ?_
                  simp only [Act.put, List.getElem_toArray, List.getElem_cons_succ, List.getElem_cons_zero, List.setIfInBounds_toArray, List.set_cons_zero, List.set_cons_succ]
                  refine wpAnyH_take (i := 8) (v := .int .i64 (j : Int)) rfl (by kernel_rfl) (by kernel_rfl) (by kernel_rfl) (fun _ _ _ h => h) (Or.inl ⟨by rfl, fun wx hx => by simp [go_sem]⟩) hS ?_
                  simp only [Act.put, List.getElem_toArray, List.getElem_cons_succ, List.getElem_cons_zero, List.setIfInBounds_toArray, List.set_cons_zero, List.set_cons_succ]
                  refine wpAnyH_take (i := 9) (v := .pointer (some ⟨b6, o6 + j * 32, none⟩)) rfl (by kernel_rfl) (by kernel_rfl) (by kernel_rfl) (fun _ _ _ h => h) (Or.inl ⟨by rfl, fun wx hx => by exact idxD17 b6 o6 c6 na j hjl _ _ (.tmp 65) (.tmp 66) rfl rfl rfl wx⟩) hS ?_
                  simp only [Act.put, List.getElem_toArray, List.getElem_cons_succ, List.getElem_cons_zero, List.setIfInBounds_toArray, List.set_cons_zero, List.set_cons_succ]
                  refine wpAnyH_take (i := 10) (v := .agg (cb x).toArray) rfl (by kernel_rfl) (by kernel_rfl) (by kernel_rfl) (fun _ _ _ h => h) (Or.inl ⟨by rfl, fun wx hx => by exact load_run 40 (.tmp 67) rfl b6 (o6 + j * 32) rfl (cb x) _ (HX6.out wx hx) Tryz.underlying40 rfl (by rw [cb_len, HXL.out]; exact info_digest)⟩) hS ?_
                  simp only [Act.put, List.getElem_toArray, List.getElem_cons_succ, List.getElem_cons_zero, List.setIfInBounds_toArray, List.set_cons_zero, List.set_cons_succ]
                  refine wpAnyH_enter 6 (by kernel_rfl) rfl (by rfl) (f := 13) (args := #[.slice ap nq cq]) (by simp [go_sem]) (rOf_big _ q wd (HU.out wd hS).2 HQL.out) ?_
                  rintro e wy ⟨rfl, hby⟩
                  have hSy : Below w4.heap.size w4 wy := hS.trans (hby.mono hS.size)
                  refine ⟨_, rfl, hSy, ?_⟩
                  simp only [Act.put, List.getElem_toArray, List.getElem_cons_succ, List.getElem_cons_zero, List.setIfInBounds_toArray, List.set_cons_zero, List.set_cons_succ]
                  obtain ⟨dq, HDQ⟩ : ∃ z, Hid (z = dig q) := ⟨_, rfl⟩
                  have HDL : Hid (dq.length = 32) := by show _ = _; rw [HDQ.out]; exact len_dig' _
                  obtain ⟨t2, HT2⟩ : ∃ z : Bool, Hid (z = decide (dq = x)) := ⟨_, rfl⟩
                  rw [← HDQ.out]
                  have hq : ∀ wx : World, (Op.equalIn 10000 40 (.agg (cb dq).toArray) (.agg (cb x).toArray)).run Tryz.prog wx = .ok t2 wx := fun wx => by rw [HT2.out]; exact eq_dig dq x HDL.out HXL.out wx
                  refine wpAnyH_take (i := 11) (v := .bool t2) rfl (by kernel_rfl) (by kernel_rfl) (by kernel_rfl) (fun _ _ _ h => h) (Or.inl ⟨by rfl, fun wx hx => by simp [go_sem, hq]⟩) hSy ?_
                  simp only [Act.put, List.getElem_toArray, List.getElem_cons_succ, List.getElem_cons_zero, List.setIfInBounds_toArray, List.set_cons_zero, List.set_cons_succ]
                  refine wpAnyH_take (i := 12) (v := .bool t2) rfl (by kernel_rfl) (by kernel_rfl) (by kernel_rfl) (fun _ _ _ h => h) (Or.inl ⟨by rfl, fun wx hx => by simp [go_sem]⟩) hSy ?_
                  simp only [Act.put, List.getElem_toArray, List.getElem_cons_succ, List.getElem_cons_zero, List.setIfInBounds_toArray, List.set_cons_zero, List.set_cons_succ]
                  refine wpAnyH_take (i := 13) (v := .bool t2) rfl (by kernel_rfl) (by kernel_rfl) (by kernel_rfl) (fun _ _ _ h => h) (Or.inl ⟨by rfl, fun wx hx => by simp [go_sem]⟩) hSy ?_
                  simp only [Act.put, List.getElem_toArray, List.getElem_cons_succ, List.getElem_cons_zero, List.setIfInBounds_toArray, List.set_cons_zero, List.set_cons_succ]
                  refine wpAnyH_done (by kernel_rfl) ?_ _
                  have HTN2 : Hid (k0 < k + 1 → t2 = true) := fun h => by
                    by_cases h2 : k0 < k
                    · exact absurd (HT0.out h2) (by simp)
                    · have h3 : k0 = k := by omega
                      rw [HT2.out, HDQ.out, HQ.out, ← h3]
                      exact decide_eq_true HK0.out.2
                  have HSY : Hid (Below w4.heap.size w4 wy) := hSy
                  clear hSy hq hby hS
                  go_wp2
                  go_roundw
                  case rel => exact ⟨k + 1, t2, by omega, rfl, by simp, HTN2.out, HSY.out⟩
                  case measure => simp [intOf]; omega
                · go_wp2_with fail
                  refine wp_region_held_drew (S := fun wx => Below w4.heap.size w4 wx) (by kernel_rfl) HW.out.drew ?_
                  intro hS
                  change wpAnyH _ _ _ _ _ _ _ _ (World.drew wv)
                  generalize World.drew wv = wd at *
                  refine wpAnyH_take (i := 0) (v := .bool true) rfl (by kernel_rfl) (by kernel_rfl) (by kernel_rfl) (fun _ _ _ h => h) (Or.inl ⟨by rfl, fun wx hx => by simp [go_sem]⟩) hS ?_
                  simp only [Act.put, List.getElem_toArray, List.getElem_cons_zero, List.setIfInBounds_toArray, List.set_cons_zero, List.set_cons_succ]
                  refine wpAnyH_take (i := 1) (v := .bool true) rfl (by kernel_rfl) (by kernel_rfl) (by kernel_rfl) (fun _ _ _ h => h) (Or.inl ⟨by rfl, fun wx hx => by simp [go_sem]⟩) hS ?_
                  simp only [Act.put, List.getElem_toArray, List.getElem_cons_succ, List.getElem_cons_zero, List.setIfInBounds_toArray, List.set_cons_zero, List.set_cons_succ]
                  refine wpAnyH_take (i := 2) (v := undef) rfl (by kernel_rfl) (by kernel_rfl) (by kernel_rfl) (fun _ _ _ h => h) (Or.inr ⟨by rfl, rfl⟩) hS ?_
                  simp only [Act.put, List.getElem_toArray, List.getElem_cons_succ, List.getElem_cons_zero, List.setIfInBounds_toArray, List.set_cons_zero, List.set_cons_succ]
                  refine wpAnyH_take (i := 3) (v := undef) rfl (by kernel_rfl) (by kernel_rfl) (by kernel_rfl) (fun _ _ _ h => h) (Or.inr ⟨by rfl, rfl⟩) hS ?_
                  simp only [Act.put, List.getElem_toArray, List.getElem_cons_succ, List.getElem_cons_zero, List.setIfInBounds_toArray, List.set_cons_zero, List.set_cons_succ]
                  refine wpAnyH_take (i := 4) (v := undef) rfl (by kernel_rfl) (by kernel_rfl) (by kernel_rfl) (fun _ _ _ h => h) (Or.inr ⟨by rfl, rfl⟩) hS ?_
                  simp only [Act.put, List.getElem_toArray, List.getElem_cons_succ, List.getElem_cons_zero, List.setIfInBounds_toArray, List.set_cons_zero, List.set_cons_succ]
                  refine wpAnyH_take (i := 5) (v := undef) rfl (by kernel_rfl) (by kernel_rfl) (by kernel_rfl) (fun _ _ _ h => h) (Or.inr ⟨by rfl, rfl⟩) hS ?_
                  simp only [Act.put, List.getElem_toArray, List.getElem_cons_succ, List.getElem_cons_zero, List.setIfInBounds_toArray, List.set_cons_zero, List.set_cons_succ]
                  refine wpAnyH_take (i := 6) (v := undef) rfl (by kernel_rfl) (by kernel_rfl) (by kernel_rfl) (fun _ _ _ h => h) (Or.inr ⟨by rfl, rfl⟩) hS ?_
                  simp only [Act.put, List.getElem_toArray, List.getElem_cons_succ, List.getElem_cons_zero, List.setIfInBounds_toArray, List.set_cons_zero, List.set_cons_succ]
                  refine wpAnyH_take (i := 7) (v := undef) rfl (by kernel_rfl) (by kernel_rfl) (by kernel_rfl) (fun _ _ _ h => h) (Or.inr ⟨by rfl, rfl⟩) hS ?_
                  simp only [Act.put, List.getElem_toArray, List.getElem_cons_succ, List.getElem_cons_zero, List.setIfInBounds_toArray, List.set_cons_zero, List.set_cons_succ]
                  refine wpAnyH_take (i := 8) (v := undef) rfl (by kernel_rfl) (by kernel_rfl) (by kernel_rfl) (fun _ _ _ h => h) (Or.inr ⟨by rfl, rfl⟩) hS ?_
                  simp only [Act.put, List.getElem_toArray, List.getElem_cons_succ, List.getElem_cons_zero, List.setIfInBounds_toArray, List.set_cons_zero, List.set_cons_succ]
                  refine wpAnyH_take (i := 9) (v := undef) rfl (by kernel_rfl) (by kernel_rfl) (by kernel_rfl) (fun _ _ _ h => h) (Or.inr ⟨by rfl, rfl⟩) hS ?_
                  simp only [Act.put, List.getElem_toArray, List.getElem_cons_succ, List.getElem_cons_zero, List.setIfInBounds_toArray, List.set_cons_zero, List.set_cons_succ]
                  refine wpAnyH_take (i := 10) (v := undef) rfl (by kernel_rfl) (by kernel_rfl) (by kernel_rfl) (fun _ _ _ h => h) (Or.inr ⟨by rfl, rfl⟩) hS ?_
                  simp only [Act.put, List.getElem_toArray, List.getElem_cons_succ, List.getElem_cons_zero, List.setIfInBounds_toArray, List.set_cons_zero, List.set_cons_succ]
                  refine wpAnyH_take (i := 11) (v := undef) rfl (by kernel_rfl) (by kernel_rfl) (by kernel_rfl) (fun _ _ _ h => h) (Or.inr ⟨by rfl, rfl⟩) hS ?_
                  simp only [Act.put, List.getElem_toArray, List.getElem_cons_succ, List.getElem_cons_zero, List.setIfInBounds_toArray, List.set_cons_zero, List.set_cons_succ]
                  refine wpAnyH_take (i := 12) (v := .bool true) rfl (by kernel_rfl) (by kernel_rfl) (by kernel_rfl) (fun _ _ _ h => h) (Or.inl ⟨by rfl, fun wx hx => by simp [go_sem]⟩) hS ?_
                  simp only [Act.put, List.getElem_toArray, List.getElem_cons_succ, List.getElem_cons_zero, List.setIfInBounds_toArray, List.set_cons_zero, List.set_cons_succ]
                  refine wpAnyH_take (i := 13) (v := .bool true) rfl (by kernel_rfl) (by kernel_rfl) (by kernel_rfl) (fun _ _ _ h => h) (Or.inl ⟨by rfl, fun wx hx => by simp [go_sem]⟩) hS ?_
                  simp only [Act.put, List.getElem_toArray, List.getElem_cons_succ, List.getElem_cons_zero, List.setIfInBounds_toArray, List.set_cons_zero, List.set_cons_succ]
                  refine wpAnyH_done (by kernel_rfl) ?_ _
                  have HSY : Hid (Below w4.heap.size w4 wd) := hS
                  clear hS
                  go_wp2
                  go_roundw
                  case rel => exact ⟨k + 1, true, by omega, rfl, by simp, (fun _ => rfl), HSY.out⟩
                  case measure => simp [intOf]; omega
              case neg =>
                have hke : k = np := by omega
                obtain rfl : t = true := HT0.out (by rw [hke]; exact HK0.out.1)
                have HWW : Hid (Below w4.heap.size w4 wv) := HW.out
                have hnl2 : ¬ ((k : Int) < (np : Int)) := by omega
                clear hke
                go_wp2
                go_roundw
                case rel => exact ⟨j + 1, by omega, by simp, HWW.out⟩
                case measure => simp [intOf]; omega
          case neg =>
            have hnl3 : ¬ ((j : Int) < (na : Int)) := by omega
            have hle : (na : Int) ≤ (m : Int) := by have := HTN.out; omega
            have HBQ : Hid (Below w.heap.size w wq) := HBW.out.trans (HW.out.mono HBW.out.size)
            go_wp2_with (first
              | (go_at_call 8; refine (works18_any _ (HK.out.below HBQ.out HK.out.lt)).mono ?_; rintro e wz ⟨rfl, hz⟩
                 have HBZ : Hid (Below w.heap.size w wz) := HBQ.out.trans (hz.mono HBQ.out.size)
                 clear hz))
            go_ret
            exact ⟨rfl, HBZ.out⟩
  · go_ret
    exact ⟨rfl, HBZ.out⟩
end Go.Proofs.YtphmmnffgknkcabGreatDoor
namespace Go.Proofs.YtphmmnffgknkcabGreatDoor
open Go.ChangeShapes Go.WideShapes Go.ChangeAt Go.WideMaps Go.WideElems Go.RowKit
set_option maxRecDepth 100000
theorem own : ownKnob Tryz.prog.godebug = none := by kernel_rfl
theorem gKw : Tryz.prog.globalNamed "blazon/sha.roundWords" = some 1 := by kernel_rfl
theorem tKw : (Tryz.prog.globals[1]?).map (·.type) = some 123 := by kernel_rfl
def laidK : List (String × DataW Unit) := [("blazon/sha.roundWords", Rows.laid_blazon_sha_roundWords)]
def kzs : List Int := kw.map fun x => (x.toNat : Int)
theorem laid_tab : (Rows.laid_blazon_sha_roundWords : DataW Unit) = Lib.tabData .u32 kzs := by kernel_rfl
theorem door_met (os : Os) (args : Array Value) : laidMetH Tryz.prog laidK ((World.doorLaid Tryz.prog 400 os).forCall (fun _ _ => 0) ⟨#[], args, []⟩).memory :=
  laidMetH_of_parts3 (fuel := 8) (laidMet_of_run' 8 (by kernel_rfl) (by kernel_rfl)) (by kernel_rfl) (by kernel_rfl)
theorem getD_toNat (l : List (BitVec 32)) (j : Nat) : (l.map fun x => (x.toNat : Int)).getD j 0 = ((l.getD j 0).toNat : Int) := by
  rw [List.getD_eq_getElem?_getD, List.getD_eq_getElem?_getD, List.getElem?_map]
  cases l[j]? <;> rfl
theorem kok_of_laid {W : World} (h : laidMetH Tryz.prog laidK W) : KOk W := by
  rw [MakeChecks.laidMetH_plain _ _ _ (by kernel_rfl)] at h
  unfold laidK at h
  rw [laid_tab] at h
  have hT := Lib.tabIs_of_head gKw tKw Tryz.underlying123 Tryz.underlying87 (by kernel_rfl) (by kernel_rfl) h
  intro j hj
  rw [hT.cell gKw j (by simpa [kzs, kw] using hj), kzs, getD_toNat]
end Go.Proofs.YtphmmnffgknkcabGreatDoor
namespace Go.Proofs.YtphmmnffgknkcabGreatDoor
open Go.ChangeShapes Go.WideShapes Go.ChangeAt Go.WideMaps Go.WideElems Go.RowKit
set_option maxRecDepth 100000
theorem cells_byte : Tryz.prog.cellsOf 5 = 1 := by kernel_rfl
theorem laid_out : laidOutB Tryz.prog = true := by kernel_rfl
end Go.Proofs.YtphmmnffgknkcabGreatDoor
namespace Go.Proofs.YtphmmnffgknkcabGreatDoor
open Go.ChangeShapes Go.WideShapes Go.ChangeAt Go.WideMaps Go.WideElems Go.RowKit
set_option maxRecDepth 100000
theorem cells_digest : Tryz.prog.cellsOf 40 = 32 := by kernel_rfl
def numOf8 : Value → BitVec 8
  | .int _ n => BitVec.ofInt 8 n
  | _ => 0
end Go.Proofs.YtphmmnffgknkcabGreatDoor
namespace Go.Proofs.YtphmmnffgknkcabGreatDoor
open Go.ChangeShapes Go.WideShapes Go.ChangeAt Go.WideMaps Go.WideElems Go.RowKit
set_option maxRecDepth 100000
set_option maxRecDepth 100000 in
theorem bulk_pos {H : Type} (d : DataW H) : 1 ≤ Rows.uptoBulk d := by
  cases d with
  | lit l => cases l <;> simp [Rows.uptoBulk]
  | _ => simp [Rows.uptoBulk]
set_option maxRecDepth 100000 in
theorem bulk_slice {H : Type} (e s : List (DataW H)) : Rows.uptoBulkAll e ≤ Rows.uptoBulk (DataW.slice e s) := by
  simp only [Rows.uptoBulk]; omega
set_option maxRecDepth 100000 in
theorem bulk_len {H : Type} : ∀ l : List (DataW H), l.length ≤ Rows.uptoBulkAll l
  | [] => Nat.zero_le _
  | d :: r => by
    have h1 := bulk_len r
    have h2 := bulk_pos d
    simp only [Rows.uptoBulkAll, List.length_cons]
    omega
theorem digest_of_cells {H : Type} {enc : TypeId × Value → H} {W : World} {cs : List Value} {d : DataW H} {p : List MemPlace} {fuel : Nat} (hf : DataW.trod enc Tryz.prog W 0 (fun _ => true) true fuel 40 cs = some (d, p)) :
    ∃ dg, cs = cb dg ∧ dg.length = 32 ∧ ∀ x ∈ p, x.block < W.heap.size := by
  obtain ⟨xs, m, _, hx, hl, hn, hi⟩ := DataW.trod_array Tryz.underlying40 hf
  rw [cells_digest] at hl
  rw [cells_byte] at hi
  have each : ∀ i, i < 32 → ∃ n, cs[i]? = some (.int .u8 n) ∧ xs[i]? = some (.lit (.int .u8 n), []) ∧ (Lit.int .u8 n).wf = true := by
    intro i h32
    have h1 := hi i h32
    rw [List.getElem?_eq_getElem (by omega)] at h1
    obtain ⟨n, hc, hxx, hw⟩ := DataW.trod_int Tryz.underlying5 h1
    refine ⟨n, ?_, by rw [List.getElem?_eq_getElem (by omega), hxx], hw⟩
    rw [Nat.mul_one] at hc
    have h2 := congrArg (fun l => l[0]?) hc
    simpa using h2
  have hlen : (cs.map numOf8).length = 32 := by simpa using hl
  refine ⟨cs.map numOf8, ?_, hlen, ?_⟩
  · apply List.ext_getElem?
    intro i
    by_cases h32 : i < 32
    · obtain ⟨n, h1, _, hw⟩ := each i h32
      have hb := bounds_u8 hw
      rw [h1, cb_get _ _ (by omega), List.getD_eq_getElem?_getD, List.getElem?_map, h1]
      simp only [Option.map_some, Option.getD_some, numOf8, BitVec.toNat_ofInt]
      congr 2
      omega
    · rw [List.getElem?_eq_none (by omega), List.getElem?_eq_none (by rw [cb_len]; omega)]
  · simp only [Prod.mk.injEq] at hx
    rw [hx.2]
    intro x hmem
    obtain ⟨y, hy, hxy⟩ := List.mem_flatMap.1 hmem
    obtain ⟨i, hlt, rfl⟩ := List.getElem_of_mem hy
    obtain ⟨n, _, h2, _⟩ := each i (by omega)
    rw [List.getElem?_eq_getElem hlt] at h2
    rw [Option.some.inj h2] at hxy
    cases hxy
end Go.Proofs.YtphmmnffgknkcabGreatDoor
namespace Go.Proofs.YtphmmnffgknkcabGreatDoor
open Go.ChangeShapes Go.WideShapes Go.ChangeAt Go.WideMaps Go.WideElems Go.RowKit
set_option maxRecDepth 100000
set_option maxRecDepth 100000 in
theorem readable_trees18 : Tryz.prog.readableRec 25 = true := by kernel_rfl
set_option maxRecDepth 100000 in
theorem row_trees18 : 25 < Tryz.prog.types.size := of_decide_eq_true (by kernel_rfl)
theorem cells_digests18 : Tryz.prog.cellsOf 22 = 1 := by kernel_rfl
theorem cells_bools18 : Tryz.prog.cellsOf 23 = 1 := by kernel_rfl
theorem cells_bool18 : Tryz.prog.cellsOf 4 = 1 := by kernel_rfl
theorem cells_trees18 : Tryz.prog.cellsOf 25 = 3 := by kernel_rfl
set_option maxRecDepth 100000 in
theorem readsD_of_cells {H : Type} {enc : TypeId × Value → H} {W : World} {a1 : Option Addr} {len cap : Nat} {d : DataW H} {p : List MemPlace} {fuel : Nat} (hf : DataW.trod enc Tryz.prog W 0 (fun _ => true) true fuel 22 [.slice a1 len cap] = some (d, p)) :
    ∃ ds, ReadsD W (.slice a1 len cap) ds ∧ ds.length ≤ Rows.uptoBulk d ∧ ∀ x ∈ p, x.block < W.heap.size := by
  rcases Go.Deep.open_slice Tryz.underlying22 hf with ⟨hcs, hx⟩ | ⟨a, len', cap', m, n, D, Pl, hcs, _, hl, hm, hmm, hx, hV⟩
  · simp at hcs
    obtain ⟨rfl, rfl, rfl⟩ := hcs
    simp only [Prod.mk.injEq] at hx
    obtain ⟨rfl, rfl⟩ := hx
    exact ⟨[], ⟨⟨none, 0, rfl, Nat.le_refl _, fun _ => rfl, fun h => by cases h⟩, fun _ h => by cases h⟩, Nat.zero_le _, fun _ h => by cases h⟩
  · simp at hcs
    obtain ⟨rfl, rfl, rfl⟩ := hcs
    simp only [Prod.mk.injEq] at hx
    obtain ⟨rfl, rfl⟩ := hx
    simp only [if_true] at hmm
    subst hmm
    rw [cells_digest] at hV
    obtain ⟨B, hB⟩ := Go.Deep.choose_lt (α := List (BitVec 8)) (p := fun i dg => W.cells? 0 (a.add (i * 32)) 32 = some (cb dg) ∧ dg.length = 32 ∧ ∀ x ∈ Pl i, x.block < W.heap.size) (fun i hi => by
      obtain ⟨cs', h1, h2⟩ := hV i hi
      obtain ⟨dg, rfl, h3, h4⟩ := digest_of_cells h2
      exact ⟨dg, h1, h3, h4⟩)
    have hlen : ((List.range len).map B).length = len := by simp
    obtain ⟨ab, ao, spot⟩ := a
    have cell : ∀ i, i < m → ∀ j, j < 32 → W.cell? ((⟨ab, ao, spot⟩ : Addr).add (i * 32 + j)) = (cb (B i))[j]? := by
      intro i hi j hj
      obtain ⟨h1, _, _⟩ := hB i hi
      obtain ⟨_, _, h4⟩ := World.cells?_some h1
      have := h4 j hj
      rw [Go.Deep.add_add] at this
      exact this
    have hspot : 0 < m → spot = none := fun hp => by
      have h := cell 0 hp 0 (by omega)
      rw [cb_get _ 0 (by rw [(hB 0 hp).2.1]; omega)] at h
      simpa [Addr.add] using World.cell?_spot h
    refine ⟨(List.range len).map B, ⟨⟨some ⟨ab, ao, spot⟩, m, by rw [hlen], by rw [hlen]; exact hl, (fun h => by cases h), fun hp => ?_⟩, ?_⟩, by rw [hlen]; exact Nat.le_trans (by have := bulk_len ((List.range len).map D); simpa using this) (bulk_slice _ _), fun x hx => ?_⟩
    · rw [hlen] at hp ⊢
      have hs := hspot (by omega)
      subst hs
      refine ⟨ab, ao, rfl, fun j hj i v hv => ?_⟩
      have e : ((List.range len).map B).getD j [] = B j := by simp [hj]
      rw [e] at hv
      have hi : i < 32 := by have := (List.getElem?_eq_some_iff.1 hv).1; rwa [cb_len, (hB j (by omega)).2.1] at this
      have h := cell j (by omega) i hi
      rw [hv, Addr.add_lit] at h
      rw [Nat.add_assoc]; exact h
    · intro dg hd
      obtain ⟨i, hi, rfl⟩ := List.mem_map.1 hd
      exact (hB i (by have := List.mem_range.1 hi; omega)).2.1
    · rcases List.mem_append.1 hx with hx | hx
      · rw [cells_digest] at hx
        simp only [MemPlace.row, List.mem_map, List.mem_range] at hx
        obtain ⟨i, hi, rfl⟩ := hx
        have h := cell (i / 32) (by omega) (i % 32) (by omega)
        rw [cb_get _ _ (by rw [(hB (i / 32) (by omega)).2.1]; omega), show i / 32 * 32 + i % 32 = i by omega] at h
        have := block_lt_of_cell h
        simp only [Addr.add] at this
        split at this <;> exact this
      · obtain ⟨i, hi, hx⟩ := List.mem_flatMap.1 hx
        exact (hB i (List.mem_range.1 hi)).2.2 x hx
set_option maxRecDepth 100000 in
theorem readsBo_of_cells {H : Type} {enc : TypeId × Value → H} {W : World} {a1 : Option Addr} {len cap : Nat} {d : DataW H} {p : List MemPlace} {fuel : Nat} (hf : DataW.trod enc Tryz.prog W 0 (fun _ => true) true fuel 23 [.slice a1 len cap] = some (d, p)) :
    ∃ bs, ReadsBo W (.slice a1 len cap) bs := by
  rcases Go.Deep.open_slice Tryz.underlying23 hf with ⟨hcs, hx⟩ | ⟨a, len', cap', m, n, D, Pl, hcs, _, hl, hm, hmm, hx, hV⟩
  · simp at hcs
    obtain ⟨rfl, rfl, rfl⟩ := hcs
    exact ⟨[], none, 0, rfl, fun h => by cases h⟩
  · simp at hcs
    obtain ⟨rfl, rfl, rfl⟩ := hcs
    simp only [if_true] at hmm
    subst hmm
    rw [cells_bool18] at hV
    obtain ⟨B, hB⟩ := Go.Deep.choose_lt (α := Bool) (p := fun i b => W.cells? 0 (a.add (i * 1)) 1 = some [.bool b]) (fun i hi => by
      obtain ⟨cs', h1, h2⟩ := hV i hi
      obtain ⟨b, rfl, _⟩ := DataW.trod_bool Tryz.underlying4 h2
      exact ⟨b, h1⟩)
    have hlen : ((List.range len).map B).length = len := by simp
    obtain ⟨ab, ao, spot⟩ := a
    have cell : ∀ i, i < m → W.cell? ((⟨ab, ao, spot⟩ : Addr).add i) = some (.bool (B i)) := by
      intro i hi
      obtain ⟨_, _, h4⟩ := World.cells?_some (hB i hi)
      have := h4 0 (by omega)
      rw [Go.Deep.add_add] at this
      simpa using this
    have hspot : 0 < m → spot = none := fun hp => by
      have h := cell 0 hp
      simpa [Addr.add] using World.cell?_spot h
    refine ⟨(List.range len).map B, some ⟨ab, ao, spot⟩, m, by rw [hlen], fun hp => ?_⟩
    rw [hlen] at hp ⊢
    have hs := hspot (by omega)
    subst hs
    refine ⟨ab, ao, rfl, fun j hj => ?_⟩
    have e : ((List.range len).map B).getD j false = B j := by simp [hj]
    rw [e]
    have h := cell j (by omega)
    rw [Addr.add_lit] at h
    exact h
theorem slice_of_trod {H : Type} {enc : TypeId × Value → H} {W : World} {t e : TypeId} (ht : Tryz.prog.underlying t = some (.slice e)) {v : Value} {y : DataW H × List MemPlace} {fuel : Nat} (hf : DataW.trod enc Tryz.prog W 0 (fun _ => true) true fuel t [v] = some y) : ∃ a n c, v = .slice a n c := by
  rcases Go.Deep.open_slice ht hf with ⟨hcs, _⟩ | ⟨a, n, c, _, _, _, _, hcs, _⟩
  · simp at hcs
    exact ⟨_, _, _, hcs⟩
  · simp at hcs
    exact ⟨_, _, _, hcs⟩
set_option maxRecDepth 100000 in
theorem trees18_of_trod {H : Type} {enc : TypeId × Value → H} {W : World} {base : Nat} {v : Value} {d : DataW H} {p : List MemPlace} (hval : Value.okWide Tryz.prog W .any base 25 v)
    (h : DataW.Trod enc Tryz.prog W 0 (fun _ => true) true 25 v d p) :
    ∃ va vv vk ds es bs, v = .agg #[va, vv, vk] ∧ ReadsD W va ds ∧ ReadsD W vv es ∧ ReadsBo W vk bs ∧ ∀ x ∈ p, x.block < W.heap.size := by
  simp only [Value.okWide, Tryz.underlying25] at hval
  obtain ⟨cs, rfl, hcs, _⟩ := hval
  obtain ⟨fuel, hf⟩ := h
  have hp := DataW.trod_lt _ _ _ _ hf
  obtain ⟨y0, y1, y2, n, hx, hl, h0, h1, h2⟩ := Go.Deep.trod_struct3 Tryz.underlying25 hf
  simp only [Value.cells] at hl h0 h1 h2
  rw [cells_trees18] at hl
  rw [cells_digests18] at h0 h1
  rw [cells_bools18] at h2
  obtain ⟨l⟩ := cs
  match l, hl with
  | [c0, c1, c2], _ =>
    simp at h0 h1 h2
    obtain ⟨a0, n0, k0, rfl⟩ := slice_of_trod Tryz.underlying22 h0
    obtain ⟨a1, n1, k1, rfl⟩ := slice_of_trod Tryz.underlying22 h1
    obtain ⟨a2, n2, k2, rfl⟩ := slice_of_trod Tryz.underlying23 h2
    obtain ⟨ds, hr0, _⟩ := readsD_of_cells (d := y0.1) (p := y0.2) h0
    obtain ⟨es, hr1, _⟩ := readsD_of_cells (d := y1.1) (p := y1.2) h1
    obtain ⟨bs, hr2⟩ := readsBo_of_cells (d := y2.1) (p := y2.2) h2
    exact ⟨_, _, _, ds, es, bs, rfl, hr0, hr1, hr2, hp⟩
end Go.Proofs.YtphmmnffgknkcabGreatDoor

/- The walks of the reference's Bit and Set. -/
import Derived.Test.YthjkihbobdollaaPathW1
namespace Go.Proofs.Ythjkihbobdollaa
open Go.RowKit
theorem wrap_small (k : Int) (h0 : 0 ≤ k) (h1 : k < 1000000) : IntKind.i64.wrap k = k := by simp [IntKind.wrap, IntKind.bits, IntKind.signed]; omega
theorem notB {i : Int} (h : isB i = false) : (i < 0) ∨ (0 ≤ i ∧ 255 < i) := by
  have h2 : ¬ (0 ≤ i ∧ i < 256) := fun hh => by rw [(isB_iff i).2 hh] at h; cases h
  omega
set_option maxHeartbeats 1000000 in
theorem sBit_any (x : List (BitVec 8)) (hx : x.length = 32) (i : Int) (w : World) : Calls Try.prog 10 #[.agg (cb x).toArray, .int .i64 i] w fun e w' => e = .returned (.bool (bitI x i)) ∧ Below w.heap.size w w' := by
  by_cases hb : isB i = true
  · obtain ⟨h0, h1⟩ := (isB_iff i).1 hb
    obtain ⟨n, rfl⟩ : ∃ n : Nat, i = (n : Int) := ⟨i.toNat, by omega⟩
    obtain ⟨k, hk⟩ : ∃ k, k = n / 8 := ⟨_, rfl⟩
    obtain ⟨m, hm⟩ : ∃ m, m = n % 8 := ⟨_, rfl⟩
    have e1 : Int.tdiv (n : Int) 8 = (k : Int) := by rw [Int.tdiv_eq_ediv_of_nonneg (by omega)]; omega
    have e2 : IntKind.i64.wrap (k : Int) = (k : Int) := wrap_small _ (by omega) (by omega)
    have e3 : Int.tmod (n : Int) 8 = (m : Int) := by rw [Int.tmod_eq_emod_of_nonneg (by omega)]; omega
    have e4 : IntKind.i64.wrap (m : Int) = (m : Int) := wrap_small _ (by omega) (by omega)
    have g1 : ¬ ((n : Int) < 0) := by omega
    have g2 : ¬ ((255 : Int) < (n : Int)) := by omega
    have HK32 : Hid (k < 32) := by show _ < _; omega
    have HKX : Hid (k < x.length) := by show _ < _; omega
    have HM : Hid (m < 8) := by show _ < _; omega
    obtain ⟨b, hbb⟩ : ∃ b, b = x.getD k 0 := ⟨_, rfl⟩
    have HR : Hid (bitI x (n : Int) = decide (b.toNat / 2 ^ (7 - m) % 2 = 1)) := by
      show _ = _
      rw [bitI, hb, Bool.true_and, Int.toNat_natCast, bt, ← hk, ← hbb, ← hm]
      exact (mask_div b ⟨m, HM.out⟩).symm
    have HBB : Hid (b = x.getD k 0) := hbb
    have HBL : Hid (b.toNat < 256) := b.isLt
    clear h0 h1 hb hk hm hbb hx
    obtain ⟨o, HO⟩ : ∃ o, Hid (o = bitI x (n : Int)) := ⟨_, rfl⟩
    rw [← HO.out]
    go_enter Try.func10, Try.ntmps10
    go_wp2_with (first
        | (with_reducible refine wpSeq_boxD (.tmp 0) x ?_ ?_ ?_ ?_
           · rfl
           · rfl
           · rfl
           intro g0 w1 n1
           have hcell : w1.cell? ⟨g0, k, none⟩ = some (.int .u8 (b.toNat : Int)) := by rw [n1.blk.cell, cb_get x k HKX.out, HBB.out]
           have HBW : Hid (Below w.heap.size w w1) := n1.below
           clear n1)
        | (with_reducible refine wpSeq_val (.pointer (some ⟨g0, k, none⟩)) w1 ?_ ?_ ?_
           · rfl
           · exact indexDig k g0 HK32.out _ _ _ _ rfl rfl rfl w1))
    go_loopw [5, 6] (fun c kk wr => ∃ q C : Nat, m ≤ q ∧ q ≤ 7 ∧ kk = .int .i64 (q : Int) ∧ c = .int .i64 (C : Int) ∧ C = b.toNat / 2 ^ (7 - q) ∧ wr = w1) (fun _ kk _ => (intOf kk).toNat)
    case atStart => exact ⟨7, b.toNat, by have := HM.out; omega, by omega, rfl, rfl, by simp, rfl⟩
    case round =>
      obtain ⟨q, C, hmq, hq7, rfl, rfl, hC, rfl⟩ := hrel
      have HC : Hid (C = b.toNat / 2 ^ (7 - q)) := hC
      have HC2 : Hid (C < 256) := by show _ < _; rw [hC]; exact Nat.lt_of_le_of_lt (Nat.div_le_self _ _) HBL.out
      have HQ : Hid (m ≤ q ∧ q ≤ 7) := ⟨hmq, hq7⟩
      by_cases hlt : m < q
      · have i1 : (m : Int) < (q : Int) := by omega
        obtain ⟨C2, hC2⟩ : ∃ C2, C2 = C / 2 := ⟨_, rfl⟩
        obtain ⟨q2, hq2⟩ : ∃ q2, q = q2 + 1 := ⟨q - 1, by omega⟩
        have f1 : Int.tdiv (C : Int) 2 = (C2 : Int) := by rw [Int.tdiv_eq_ediv_of_nonneg (by omega)]; omega
        have f2 : IntKind.i64.wrap (C2 : Int) = (C2 : Int) := wrap_small _ (by omega) (by have := HC2.out; omega)
        have f3 : (q : Int) - 1 = (q2 : Int) := by omega
        have f4 : IntKind.i64.wrap (q2 : Int) = (q2 : Int) := wrap_small _ (by omega) (by omega)
        have HN : Hid (C2 = b.toNat / 2 ^ (7 - q2)) := by
          show _ = _
          rw [hC2, hC, Nat.div_div_eq_div_mul, show 7 - q2 = (7 - q) + 1 by omega, Nat.pow_succ]
        have HQ2 : Hid (q = q2 + 1) := hq2
        clear hmq hq7 hC hlt hC2 hq2 HC
        go_wp2
        go_roundw
        case rel => exact ⟨q2, C2, by have := HQ.out; have := HQ2.out; have : (m : Int) < (q : Int) := i1; omega, by have := HQ.out; have := HQ2.out; omega, rfl, rfl, HN.out, by first | trivial | rfl⟩
        case measure => have := HQ2.out; simp [intOf]; omega
      · have hqm : q = m := by omega
        subst hqm
        have i1 : ¬ ((q : Int) < (q : Int)) := by omega
        obtain ⟨r, hr⟩ : ∃ r, r = C % 2 := ⟨_, rfl⟩
        have f1 : Int.tmod (C : Int) 2 = (r : Int) := by rw [Int.tmod_eq_emod_of_nonneg (by omega)]; omega
        have f2 : IntKind.i64.wrap (r : Int) = (r : Int) := wrap_small _ (by omega) (by omega)
        have HN : Hid (o = ((r : Int) == 1)) := by
          show _ = _
          rw [HO.out, HR.out, hr, hC, Bool.eq_iff_iff, decide_eq_true_iff, beq_iff_eq]; omega
        clear hmq hq7 hC hlt hr HC HR HO
        go_wp2
        go_ret
        exact ⟨by rw [HN.out]; rfl, HBW.out⟩
  · have hb' : isB i = false := by simpa using hb
    have HR : Hid (bitI x i = false) := by show _ = _; rw [bitI, hb']; rfl
    have hc := notB hb'
    clear hb hb' hx
    rw [HR.out]
    rcases hc with h1 | ⟨h0, h1⟩
    all_goals
      go_enter Try.func10, Try.ntmps10
      go_wp2
      go_ret
      exact ⟨rfl, below_alloc w _⟩
set_option maxHeartbeats 1000000 in
theorem sSet_same (x : List (BitVec 8)) (hx : x.length = 32) (i : Int) (on : Bool) (w : World) (hs : isB i = false ∨ (isB i = true ∧ bitI x i = on)) :
    Calls Try.prog 11 #[.agg (cb x).toArray, .int .i64 i, .bool on] w fun e w' => e = .returned (.agg (cb (setI x i on)).toArray) ∧ Below w.heap.size w w' := by
  have HL : Hid (x.length = 32) := hx
  rcases hs with hb | ⟨hb, hs⟩
  · have HF : Hid (setI x i on = x) := by show _ = _; rw [setI, if_neg (by rw [hb]; simp)]
    have hc := notB hb
    clear hb hx
    rcases hc with h1 | ⟨h0, h1⟩
    all_goals
      go_enter Try.func11, Try.ntmps11
      go_wp2_with (first
        | (with_reducible refine wpSeq_boxD (.tmp 0) x ?_ ?_ ?_ ?_
           · rfl
           · rfl
           · rfl
           intro g0 w1 n1)
        | (with_reducible refine wpSeq_allocD ?_ ?_ ?_
           · rfl
           · rfl
           intro g1 w2 n2
           have H0 : Hid (Blk w2 g0 (cb x) 23) := n1.blk.below n2.below n1.blk.lt
           have H1 : Hid (Blk w2 g1 (cb zb32) 23) := n2.blk
           have HG : Hid (w.heap.size ≤ g0 ∧ g0 < g1 ∧ w.heap.size ≤ w2.heap.size) := ⟨n1.ge, Nat.lt_of_lt_of_le n1.blk.lt n2.ge, Nat.le_trans n1.below.size n2.below.size⟩
           have HBW : Hid (Below w.heap.size w w2) := n1.below.trans (n2.below.mono n1.below.size)
           clear n1 n2)
        | (with_reducible refine wpSeq_loadD (.tmp 3) g0 x ?_ ?_ ?_ ?_ ?_ ?_
           · exact HL.out
           · exact H0.out
           · rfl
           · rfl
           · rfl)
        | (with_reducible refine wpSeq_storeD (.tmp 6) (.tmp 23) g1 zb32 x ?_ ?_ ?_ ?_ ?_ ?_ ?_ ?_
           · exact rfl
           · exact HL.out
           · exact H1.out
           · rfl
           · rfl
           · rfl
           · rfl
           intro w4 h4))
      exact bodyPost_ret (v := .agg (cb x).toArray) (results_cell_row (by rfl) _ _ g1 23 _ (0, 0) _ rfl h4.blk Try.underlying23 rfl (by rw [List.size_toArray, cb_len, HL.out]; exact info_digest)) rfl ⟨by rw [HF.out], HBW.out.trans (h4.only.below (by have := HG.out; omega) HG.out.2.2)⟩
  · have HF : Hid (setI x i on = x) := setI_same x hx i on hb hs
    have HBI : Hid (bitI x i = on) := hs
    obtain ⟨h0, h1⟩ := (isB_iff i).1 hb
    have g1' : ¬ (i < 0) := by omega
    have g2' : ¬ ((255 : Int) < i) := by omega
    clear hb hx hs h0 h1
    go_enter Try.func11, Try.ntmps11
    cases on
    all_goals
      go_wp2_with (first
        | (with_reducible refine wpSeq_boxD (.tmp 0) x ?_ ?_ ?_ ?_
           · rfl
           · rfl
           · rfl
           intro g0 w1 n1)
        | (with_reducible refine wpSeq_allocD ?_ ?_ ?_
           · rfl
           · rfl
           intro g1 w2 n2
           have H0 : Hid (Blk w2 g0 (cb x) 23) := n1.blk.below n2.below n1.blk.lt
           have H1 : Hid (Blk w2 g1 (cb zb32) 23) := n2.blk
           have HG : Hid (w.heap.size ≤ g0 ∧ g0 < g1 ∧ w.heap.size ≤ w2.heap.size) := ⟨n1.ge, Nat.lt_of_lt_of_le n1.blk.lt n2.ge, Nat.le_trans n1.below.size n2.below.size⟩
           have HBW : Hid (Below w.heap.size w w2) := n1.below.trans (n2.below.mono n1.below.size)
           clear n1 n2)
        | (go_at_call 10; refine (sBit_any x HL.out _ _).mono ?_; rintro e w3 ⟨rfl, hb3⟩; rw [HBI.out]
           replace H0 : Hid (Blk w3 g0 (cb x) 23) := H0.out.below hb3 H0.out.lt
           replace H1 : Hid (Blk w3 g1 (cb zb32) 23) := H1.out.below hb3 H1.out.lt
           replace HBW : Hid (Below w.heap.size w w3) := HBW.out.trans (hb3.mono HG.out.2.2)
           replace HG : Hid (w.heap.size ≤ g0 ∧ g0 < g1 ∧ w.heap.size ≤ w3.heap.size) := ⟨HG.out.1, HG.out.2.1, Nat.le_trans HG.out.2.2 hb3.size⟩
           clear hb3)
        | (with_reducible refine wpSeq_loadD (.tmp 3) g0 x ?_ ?_ ?_ ?_ ?_ ?_
           · exact HL.out
           · exact H0.out
           · rfl
           · rfl
           · rfl)
        | (with_reducible refine wpSeq_storeD (.tmp 6) (.tmp 23) g1 zb32 x ?_ ?_ ?_ ?_ ?_ ?_ ?_ ?_
           · exact rfl
           · exact HL.out
           · exact H1.out
           · rfl
           · rfl
           · rfl
           · rfl
           intro w4 h4))
      exact bodyPost_ret (v := .agg (cb x).toArray) (results_cell_row (by rfl) _ _ g1 23 _ (0, 0) _ rfl h4.blk Try.underlying23 rfl (by rw [List.size_toArray, cb_len, HL.out]; exact info_digest)) rfl ⟨by rw [HF.out], HBW.out.trans (h4.only.below (by have := HG.out; omega) HG.out.2.2)⟩
set_option maxRecDepth 100000 in
set_option maxHeartbeats 2000000 in
theorem sSet_on (x : List (BitVec 8)) (hx : x.length = 32) (n : Nat) (hn : n < 256) (w : World) (hs : bt x n = false) :
    Calls Try.prog 11 #[.agg (cb x).toArray, .int .i64 (n : Int), .bool true] w fun e w' => e = .returned (.agg (cb (setI x (n : Int) true)).toArray) ∧ Below w.heap.size w w' := by
  have HL : Hid (x.length = 32) := hx
  obtain ⟨k, hk⟩ : ∃ k, k = n / 8 := ⟨_, rfl⟩
  obtain ⟨m, hm⟩ : ∃ m, m = n % 8 := ⟨_, rfl⟩
  have e1 : Int.tdiv (n : Int) 8 = (k : Int) := by rw [Int.tdiv_eq_ediv_of_nonneg (by omega)]; omega
  have e2 : IntKind.i64.wrap (k : Int) = (k : Int) := wrap_small _ (by omega) (by omega)
  have e3 : Int.tmod (n : Int) 8 = (m : Int) := by rw [Int.tmod_eq_emod_of_nonneg (by omega)]; omega
  have e4 : IntKind.i64.wrap (m : Int) = (m : Int) := wrap_small _ (by omega) (by omega)
  have g1' : ¬ ((n : Int) < 0) := by omega
  have g2' : ¬ ((255 : Int) < (n : Int)) := by omega
  have HK32 : Hid (k < 32) := by show _ < _; omega
  have HKX : Hid (k < x.length) := by show _ < _; omega
  have HM : Hid (m < 8) := by show _ < _; omega
  obtain ⟨b, hbb⟩ : ∃ b, b = x.getD k 0 := ⟨_, rfl⟩
  have HBB : Hid (b = x.getD k 0) := hbb
  have HBI : Hid (bitI x (n : Int) = false) := by show _ = _; rw [bitI_nat x n hn, hs]
  obtain ⟨d, hd⟩ : ∃ d, d = b ||| mask n := ⟨_, rfl⟩
  have HF : Hid (setI x (n : Int) true = x.set k d) := by
    show _ = _
    rw [setI_nat x n _ hn, setN, ← hk, ← hbb, hd]; rfl
  have HD : Hid (IntKind.u8.wrap ((b.toNat : Int) + ((2 ^ (7 - m) : Nat) : Int)) = (d.toNat : Int)) := by
    have h := mask_add b ⟨m, HM.out⟩ (by show b.getMsbD m = _; rw [hbb, hk, hm]; exact hs)
    have hm2 : mask n = 128#8 >>> m := by rw [hm]; rfl
    show _ = _
    rw [hd, hm2, ← h]
    have hp : 2 ^ (7 - m) ≤ 128 := by have := Nat.pow_le_pow_right (n := 2) (by omega) (show 7 - m ≤ 7 by omega); simpa using this
    have hb2 := b.isLt
    generalize 2 ^ (7 - m) = p at *
    simp only [BitVec.toNat_add, BitVec.toNat_ofNat]
    simp [IntKind.wrap, IntKind.bits, IntKind.signed]
    all_goals omega
  have HL2 : Hid ((x.set k d).length = 32) := by show _ = _; rw [List.length_set]; exact hx
  clear hn hx hs hk hm hbb hd
  go_enter Try.func11, Try.ntmps11
  go_wp2_with (first
    | (with_reducible refine wpSeq_boxD (.tmp 0) x ?_ ?_ ?_ ?_
       · rfl
       · rfl
       · rfl
       intro g0 w1 n1)
    | (with_reducible refine wpSeq_allocD ?_ ?_ ?_
       · rfl
       · rfl
       intro g1 w2 n2
       have H0 : Hid (Blk w2 g0 (cb x) 23) := n1.blk.below n2.below n1.blk.lt
       have H1 : Hid (Blk w2 g1 (cb zb32) 23) := n2.blk
       have HG : Hid (w.heap.size ≤ g0 ∧ g0 < g1 ∧ w.heap.size ≤ w2.heap.size) := ⟨n1.ge, Nat.lt_of_lt_of_le n1.blk.lt n2.ge, Nat.le_trans n1.below.size n2.below.size⟩
       have HBW : Hid (Below w.heap.size w w2) := n1.below.trans (n2.below.mono n1.below.size)
       clear n1 n2)
    | (go_at_call 10; refine (sBit_any x HL.out _ _).mono ?_; rintro e w3 ⟨rfl, hb3⟩; rw [HBI.out]
       replace H0 : Hid (Blk w3 g0 (cb x) 23) := H0.out.below hb3 H0.out.lt
       replace H1 : Hid (Blk w3 g1 (cb zb32) 23) := H1.out.below hb3 H1.out.lt
       replace HBW : Hid (Below w.heap.size w w3) := HBW.out.trans (hb3.mono HG.out.2.2)
       replace HG : Hid (w.heap.size ≤ g0 ∧ g0 < g1 ∧ w.heap.size ≤ w3.heap.size) := ⟨HG.out.1, HG.out.2.1, Nat.le_trans HG.out.2.2 hb3.size⟩
       clear hb3)
    | (with_reducible refine wpSeq_loadD (.tmp 3) g0 x ?_ ?_ ?_ ?_ ?_ ?_
       · exact HL.out
       · exact H0.out
       · rfl
       · rfl
       · rfl))
  go_loopw [7, 8] (fun c kk wr => ∃ q C : Nat, m ≤ q ∧ q ≤ 7 ∧ kk = .int .i64 (q : Int) ∧ c = .int .i64 (C : Int) ∧ C = 2 ^ (7 - q) ∧ wr = w3) (fun _ kk _ => (intOf kk).toNat)
  case atStart => exact ⟨7, 1, by have := HM.out; omega, by omega, rfl, rfl, by simp, rfl⟩
  case round =>
    obtain ⟨q, C, hmq, hq7, rfl, rfl, hC, rfl⟩ := hrel
    have hC2 : C ≤ 128 := by rw [hC]; have := Nat.pow_le_pow_right (n := 2) (by omega) (show 7 - q ≤ 7 by omega); simpa using this
    have HC2 : Hid (C ≤ 128) := hC2
    have HQ : Hid (m ≤ q ∧ q ≤ 7) := ⟨hmq, hq7⟩
    by_cases hlt : m < q
    · have i1 : (m : Int) < (q : Int) := by omega
      obtain ⟨C2, hC2⟩ : ∃ C2, C2 = C * 2 := ⟨_, rfl⟩
      obtain ⟨q2, hq2⟩ : ∃ q2, q = q2 + 1 := ⟨q - 1, by omega⟩
      have f1 : (C : Int) * 2 = (C2 : Int) := by omega
      have f2 : IntKind.i64.wrap (C2 : Int) = (C2 : Int) := wrap_small _ (by omega) (by have := HC2.out; omega)
      have f3 : (q : Int) - 1 = (q2 : Int) := by omega
      have f4 : IntKind.i64.wrap (q2 : Int) = (q2 : Int) := wrap_small _ (by omega) (by omega)
      have HN : Hid (C2 = 2 ^ (7 - q2)) := by
        show _ = _
        rw [hC2, hC, show 7 - q2 = (7 - q) + 1 by omega, Nat.pow_succ]
      have HQ2 : Hid (q = q2 + 1) := hq2
      clear hmq hq7 hC hlt hC2 hq2
      go_wp2
      go_roundw
      case rel => exact ⟨q2, C2, by have := HQ.out; have := HQ2.out; have : (m : Int) < (q : Int) := i1; omega, by have := HQ.out; have := HQ2.out; omega, rfl, rfl, HN.out, by first | trivial | rfl⟩
      case measure => have := HQ2.out; simp [intOf]; omega
    · have hqm : q = m := by omega
      subst hqm
      have i1 : ¬ ((q : Int) < (q : Int)) := by omega
      have f1 : IntKind.u8.wrap (C : Int) = (C : Int) := by simp [IntKind.wrap, IntKind.bits, IntKind.signed]; omega
      have f2 : IntKind.u8.wrap ((b.toNat : Int) + (C : Int)) = (d.toNat : Int) := by rw [hC]; exact HD.out
      clear hmq hq7 hC hlt hC2 HD
      go_wp2_with (first
        | (with_reducible refine wpSeq_loadD (.tmp 3) g0 x ?_ ?_ ?_ ?_ ?_ ?_
           · exact HL.out
           · exact H0.out
           · rfl
           · rfl
           · rfl)
        | (with_reducible refine wpSeq_allocD ?_ ?_ ?_
           · rfl
           · rfl
           intro g2 w4 n4
           have K0 : Hid (Blk w4 g0 (cb x) 23) := H0.out.below n4.below H0.out.lt
           have K1 : Hid (Blk w4 g1 (cb zb32) 23) := H1.out.below n4.below H1.out.lt
           have K2 : Hid (Blk w4 g2 (cb zb32) 23) := n4.blk
           have KG : Hid (w.heap.size ≤ g1 ∧ g0 ≠ g2 ∧ g1 ≠ g2 ∧ w.heap.size ≤ g2 ∧ w.heap.size ≤ w4.heap.size) := ⟨by have := HG.out; omega, by have := n4.ge; have := H0.out.lt; omega, by have := n4.ge; have := H1.out.lt; omega, by have := n4.ge; have := HG.out; omega, Nat.le_trans HG.out.2.2 n4.below.size⟩
           have KB : Hid (Below w.heap.size w w4) := HBW.out.trans (n4.below.mono HG.out.2.2)
           clear n4)
        | (with_reducible refine wpSeq_storeD (.tmp 9) (.tmp 32) g2 zb32 x ?_ ?_ ?_ ?_ ?_ ?_ ?_ ?_
           · exact rfl
           · exact HL.out
           · exact K2.out
           · rfl
           · rfl
           · rfl
           · rfl
           intro w5 h5
           have hcell : w5.cell? ⟨g0, k, none⟩ = some (.int .u8 (b.toNat : Int)) := by rw [(K0.out.only h5.only KG.out.2.1).cell, cb_get x k HKX.out, HBB.out]
           have KB5 : Hid (Below w.heap.size w w5) := KB.out.trans (h5.only.below KG.out.2.2.2.1 KG.out.2.2.2.2)
           have KS5 : Hid (w.heap.size ≤ w5.heap.size) := Nat.le_trans KG.out.2.2.2.2 h5.only.size
           have K15 : Hid (Blk w5 g1 (cb zb32) 23) := K1.out.only h5.only KG.out.2.2.1
           have K25 : Hid (Blk w5 g2 (cb x) 23) := h5.blk
           clear h5)
        | (with_reducible refine wpSeq_val (.pointer (some ⟨g0, k, none⟩)) w5 ?_ ?_ ?_
           · rfl
           · exact indexDig k g0 HK32.out _ _ (.tmp 3) _ rfl rfl rfl w5)
        | (with_reducible refine wpSeq_val (.pointer (some ⟨g2, k, none⟩)) w5 ?_ ?_ ?_
           · rfl
           · exact indexDig k g2 HK32.out _ _ (.tmp 9) _ rfl rfl rfl w5)
        | (with_reducible refine wpSeq_storeB (.tmp 43) (.tmp 42) g2 k x d ?_ ?_ ?_ ?_ ?_ ?_ ?_
           · exact HKX.out
           · exact K25.out
           · rfl
           · rfl
           · rfl
           · rfl
           intro w6 h6
           have KB6 : Hid (Below w.heap.size w w6) := KB5.out.trans (h6.only.below KG.out.2.2.2.1 KS5.out)
           have KS6 : Hid (w.heap.size ≤ w6.heap.size) := Nat.le_trans KS5.out h6.only.size
           have K16 : Hid (Blk w6 g1 (cb zb32) 23) := K15.out.only h6.only KG.out.2.2.1
           have K26 : Hid (Blk w6 g2 (cb (x.set k d)) 23) := h6.blk
           clear h6)
        | (with_reducible refine wpSeq_loadD (.tmp 9) g2 (x.set k d) ?_ ?_ ?_ ?_ ?_ ?_
           · exact HL2.out
           · exact K26.out
           · rfl
           · rfl
           · rfl)
        | (with_reducible refine wpSeq_storeD (.tmp 6) (.tmp 54) g1 zb32 (x.set k d) ?_ ?_ ?_ ?_ ?_ ?_ ?_ ?_
           · exact rfl
           · exact HL2.out
           · exact K16.out
           · rfl
           · rfl
           · rfl
           · rfl
           intro w7 h7))
      exact bodyPost_ret (v := .agg (cb (x.set k d)).toArray) (results_cell_row (by rfl) _ _ g1 23 _ (0, 0) _ rfl h7.blk Try.underlying23 rfl (by rw [List.size_toArray, cb_len, HL2.out]; exact info_digest)) rfl ⟨by rw [HF.out], KB6.out.trans (h7.only.below KG.out.1 KS6.out)⟩
set_option maxRecDepth 100000 in
set_option maxHeartbeats 2000000 in
theorem sSet_off (x : List (BitVec 8)) (hx : x.length = 32) (n : Nat) (hn : n < 256) (w : World) (hs : bt x n = true) :
    Calls Try.prog 11 #[.agg (cb x).toArray, .int .i64 (n : Int), .bool false] w fun e w' => e = .returned (.agg (cb (setI x (n : Int) false)).toArray) ∧ Below w.heap.size w w' := by
  have HL : Hid (x.length = 32) := hx
  obtain ⟨k, hk⟩ : ∃ k, k = n / 8 := ⟨_, rfl⟩
  obtain ⟨m, hm⟩ : ∃ m, m = n % 8 := ⟨_, rfl⟩
  have e1 : Int.tdiv (n : Int) 8 = (k : Int) := by rw [Int.tdiv_eq_ediv_of_nonneg (by omega)]; omega
  have e2 : IntKind.i64.wrap (k : Int) = (k : Int) := wrap_small _ (by omega) (by omega)
  have e3 : Int.tmod (n : Int) 8 = (m : Int) := by rw [Int.tmod_eq_emod_of_nonneg (by omega)]; omega
  have e4 : IntKind.i64.wrap (m : Int) = (m : Int) := wrap_small _ (by omega) (by omega)
  have g1' : ¬ ((n : Int) < 0) := by omega
  have g2' : ¬ ((255 : Int) < (n : Int)) := by omega
  have HK32 : Hid (k < 32) := by show _ < _; omega
  have HKX : Hid (k < x.length) := by show _ < _; omega
  have HM : Hid (m < 8) := by show _ < _; omega
  obtain ⟨b, hbb⟩ : ∃ b, b = x.getD k 0 := ⟨_, rfl⟩
  have HBB : Hid (b = x.getD k 0) := hbb
  have HBI : Hid (bitI x (n : Int) = true) := by show _ = _; rw [bitI_nat x n hn, hs]
  obtain ⟨d, hd⟩ : ∃ d, d = b &&& ~~~(mask n) := ⟨_, rfl⟩
  have HF : Hid (setI x (n : Int) false = x.set k d) := by
    show _ = _
    rw [setI_nat x n _ hn, setN, ← hk, ← hbb, hd]; rfl
  have HD : Hid (IntKind.u8.wrap ((b.toNat : Int) - ((2 ^ (7 - m) : Nat) : Int)) = (d.toNat : Int)) := by
    have h := mask_sub b ⟨m, HM.out⟩ (by show b.getMsbD m = _; rw [hbb, hk, hm]; exact hs)
    have hm2 : mask n = 128#8 >>> m := by rw [hm]; rfl
    show _ = _
    rw [hd, hm2, ← h]
    have hp : 2 ^ (7 - m) ≤ 128 := by have := Nat.pow_le_pow_right (n := 2) (by omega) (show 7 - m ≤ 7 by omega); simpa using this
    have hb2 := b.isLt
    generalize 2 ^ (7 - m) = p at *
    simp only [BitVec.toNat_sub, BitVec.toNat_ofNat]
    simp [IntKind.wrap, IntKind.bits, IntKind.signed]
    all_goals omega
  have HL2 : Hid ((x.set k d).length = 32) := by show _ = _; rw [List.length_set]; exact hx
  clear hn hx hs hk hm hbb hd
  go_enter Try.func11, Try.ntmps11
  go_wp2_with (first
    | (with_reducible refine wpSeq_boxD (.tmp 0) x ?_ ?_ ?_ ?_
       · rfl
       · rfl
       · rfl
       intro g0 w1 n1)
    | (with_reducible refine wpSeq_allocD ?_ ?_ ?_
       · rfl
       · rfl
       intro g1 w2 n2
       have H0 : Hid (Blk w2 g0 (cb x) 23) := n1.blk.below n2.below n1.blk.lt
       have H1 : Hid (Blk w2 g1 (cb zb32) 23) := n2.blk
       have HG : Hid (w.heap.size ≤ g0 ∧ g0 < g1 ∧ w.heap.size ≤ w2.heap.size) := ⟨n1.ge, Nat.lt_of_lt_of_le n1.blk.lt n2.ge, Nat.le_trans n1.below.size n2.below.size⟩
       have HBW : Hid (Below w.heap.size w w2) := n1.below.trans (n2.below.mono n1.below.size)
       clear n1 n2)
    | (go_at_call 10; refine (sBit_any x HL.out _ _).mono ?_; rintro e w3 ⟨rfl, hb3⟩; rw [HBI.out]
       replace H0 : Hid (Blk w3 g0 (cb x) 23) := H0.out.below hb3 H0.out.lt
       replace H1 : Hid (Blk w3 g1 (cb zb32) 23) := H1.out.below hb3 H1.out.lt
       replace HBW : Hid (Below w.heap.size w w3) := HBW.out.trans (hb3.mono HG.out.2.2)
       replace HG : Hid (w.heap.size ≤ g0 ∧ g0 < g1 ∧ w.heap.size ≤ w3.heap.size) := ⟨HG.out.1, HG.out.2.1, Nat.le_trans HG.out.2.2 hb3.size⟩
       clear hb3)
    | (with_reducible refine wpSeq_loadD (.tmp 3) g0 x ?_ ?_ ?_ ?_ ?_ ?_
       · exact HL.out
       · exact H0.out
       · rfl
       · rfl
       · rfl))
  go_loopw [7, 8] (fun c kk wr => ∃ q C : Nat, m ≤ q ∧ q ≤ 7 ∧ kk = .int .i64 (q : Int) ∧ c = .int .i64 (C : Int) ∧ C = 2 ^ (7 - q) ∧ wr = w3) (fun _ kk _ => (intOf kk).toNat)
  case atStart => exact ⟨7, 1, by have := HM.out; omega, by omega, rfl, rfl, by simp, rfl⟩
  case round =>
    obtain ⟨q, C, hmq, hq7, rfl, rfl, hC, rfl⟩ := hrel
    have hC2 : C ≤ 128 := by rw [hC]; have := Nat.pow_le_pow_right (n := 2) (by omega) (show 7 - q ≤ 7 by omega); simpa using this
    have HC2 : Hid (C ≤ 128) := hC2
    have HQ : Hid (m ≤ q ∧ q ≤ 7) := ⟨hmq, hq7⟩
    by_cases hlt : m < q
    · have i1 : (m : Int) < (q : Int) := by omega
      obtain ⟨C2, hC2⟩ : ∃ C2, C2 = C * 2 := ⟨_, rfl⟩
      obtain ⟨q2, hq2⟩ : ∃ q2, q = q2 + 1 := ⟨q - 1, by omega⟩
      have f1 : (C : Int) * 2 = (C2 : Int) := by omega
      have f2 : IntKind.i64.wrap (C2 : Int) = (C2 : Int) := wrap_small _ (by omega) (by have := HC2.out; omega)
      have f3 : (q : Int) - 1 = (q2 : Int) := by omega
      have f4 : IntKind.i64.wrap (q2 : Int) = (q2 : Int) := wrap_small _ (by omega) (by omega)
      have HN : Hid (C2 = 2 ^ (7 - q2)) := by
        show _ = _
        rw [hC2, hC, show 7 - q2 = (7 - q) + 1 by omega, Nat.pow_succ]
      have HQ2 : Hid (q = q2 + 1) := hq2
      clear hmq hq7 hC hlt hC2 hq2
      go_wp2
      go_roundw
      case rel => exact ⟨q2, C2, by have := HQ.out; have := HQ2.out; have : (m : Int) < (q : Int) := i1; omega, by have := HQ.out; have := HQ2.out; omega, rfl, rfl, HN.out, by first | trivial | rfl⟩
      case measure => have := HQ2.out; simp [intOf]; omega
    · have hqm : q = m := by omega
      subst hqm
      have i1 : ¬ ((q : Int) < (q : Int)) := by omega
      have f1 : IntKind.u8.wrap (C : Int) = (C : Int) := by simp [IntKind.wrap, IntKind.bits, IntKind.signed]; omega
      have f2 : IntKind.u8.wrap ((b.toNat : Int) - (C : Int)) = (d.toNat : Int) := by rw [hC]; exact HD.out
      clear hmq hq7 hC hlt hC2 HD
      go_wp2_with (first
        | (with_reducible refine wpSeq_loadD (.tmp 3) g0 x ?_ ?_ ?_ ?_ ?_ ?_
           · exact HL.out
           · exact H0.out
           · rfl
           · rfl
           · rfl)
        | (with_reducible refine wpSeq_allocD ?_ ?_ ?_
           · rfl
           · rfl
           intro g2 w4 n4
           have K0 : Hid (Blk w4 g0 (cb x) 23) := H0.out.below n4.below H0.out.lt
           have K1 : Hid (Blk w4 g1 (cb zb32) 23) := H1.out.below n4.below H1.out.lt
           have K2 : Hid (Blk w4 g2 (cb zb32) 23) := n4.blk
           have KG : Hid (w.heap.size ≤ g1 ∧ g0 ≠ g2 ∧ g1 ≠ g2 ∧ w.heap.size ≤ g2 ∧ w.heap.size ≤ w4.heap.size) := ⟨by have := HG.out; omega, by have := n4.ge; have := H0.out.lt; omega, by have := n4.ge; have := H1.out.lt; omega, by have := n4.ge; have := HG.out; omega, Nat.le_trans HG.out.2.2 n4.below.size⟩
           have KB : Hid (Below w.heap.size w w4) := HBW.out.trans (n4.below.mono HG.out.2.2)
           clear n4)
        | (with_reducible refine wpSeq_storeD (.tmp 9) (.tmp 32) g2 zb32 x ?_ ?_ ?_ ?_ ?_ ?_ ?_ ?_
           · exact rfl
           · exact HL.out
           · exact K2.out
           · rfl
           · rfl
           · rfl
           · rfl
           intro w5 h5
           have hcell : w5.cell? ⟨g0, k, none⟩ = some (.int .u8 (b.toNat : Int)) := by rw [(K0.out.only h5.only KG.out.2.1).cell, cb_get x k HKX.out, HBB.out]
           have KB5 : Hid (Below w.heap.size w w5) := KB.out.trans (h5.only.below KG.out.2.2.2.1 KG.out.2.2.2.2)
           have KS5 : Hid (w.heap.size ≤ w5.heap.size) := Nat.le_trans KG.out.2.2.2.2 h5.only.size
           have K15 : Hid (Blk w5 g1 (cb zb32) 23) := K1.out.only h5.only KG.out.2.2.1
           have K25 : Hid (Blk w5 g2 (cb x) 23) := h5.blk
           clear h5)
        | (with_reducible refine wpSeq_val (.pointer (some ⟨g0, k, none⟩)) w5 ?_ ?_ ?_
           · rfl
           · exact indexDig k g0 HK32.out _ _ (.tmp 3) _ rfl rfl rfl w5)
        | (with_reducible refine wpSeq_val (.pointer (some ⟨g2, k, none⟩)) w5 ?_ ?_ ?_
           · rfl
           · exact indexDig k g2 HK32.out _ _ (.tmp 9) _ rfl rfl rfl w5)
        | (with_reducible refine wpSeq_storeB (.tmp 53) (.tmp 52) g2 k x d ?_ ?_ ?_ ?_ ?_ ?_ ?_
           · exact HKX.out
           · exact K25.out
           · rfl
           · rfl
           · rfl
           · rfl
           intro w6 h6
           have KB6 : Hid (Below w.heap.size w w6) := KB5.out.trans (h6.only.below KG.out.2.2.2.1 KS5.out)
           have KS6 : Hid (w.heap.size ≤ w6.heap.size) := Nat.le_trans KS5.out h6.only.size
           have K16 : Hid (Blk w6 g1 (cb zb32) 23) := K15.out.only h6.only KG.out.2.2.1
           have K26 : Hid (Blk w6 g2 (cb (x.set k d)) 23) := h6.blk
           clear h6)
        | (with_reducible refine wpSeq_loadD (.tmp 9) g2 (x.set k d) ?_ ?_ ?_ ?_ ?_ ?_
           · exact HL2.out
           · exact K26.out
           · rfl
           · rfl
           · rfl)
        | (with_reducible refine wpSeq_storeD (.tmp 6) (.tmp 54) g1 zb32 (x.set k d) ?_ ?_ ?_ ?_ ?_ ?_ ?_ ?_
           · exact rfl
           · exact HL2.out
           · exact K16.out
           · rfl
           · rfl
           · rfl
           · rfl
           intro w7 h7))
      exact bodyPost_ret (v := .agg (cb (x.set k d)).toArray) (results_cell_row (by rfl) _ _ g1 23 _ (0, 0) _ rfl h7.blk Try.underlying23 rfl (by rw [List.size_toArray, cb_len, HL2.out]; exact info_digest)) rfl ⟨by rw [HF.out], KB6.out.trans (h7.only.below KG.out.1 KS6.out)⟩
theorem sSet_any (x : List (BitVec 8)) (hx : x.length = 32) (i : Int) (on : Bool) (w : World) :
    Calls Try.prog 11 #[.agg (cb x).toArray, .int .i64 i, .bool on] w fun e w' => e = .returned (.agg (cb (setI x i on)).toArray) ∧ Below w.heap.size w w' := by
  by_cases hb : isB i = true
  · by_cases hs : bitI x i = on
    · exact sSet_same x hx i on w (Or.inr ⟨hb, hs⟩)
    · obtain ⟨h0, h1⟩ := (isB_iff i).1 hb
      obtain ⟨n, rfl⟩ : ∃ n : Nat, i = (n : Int) := ⟨i.toNat, by omega⟩
      rw [bitI_nat x n (by omega)] at hs
      cases on
      · exact sSet_off x hx n (by omega) w (by simpa using hs)
      · exact sSet_on x hx n (by omega) w (by simpa using hs)
  · exact sSet_same x hx i on w (Or.inl (by simpa using hb))
end Go.Proofs.Ythjkihbobdollaa

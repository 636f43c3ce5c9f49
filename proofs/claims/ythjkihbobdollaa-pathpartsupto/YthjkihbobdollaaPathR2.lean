/- The walk of the reference's Cut. -/
import Derived.Test.YthjkihbobdollaaPathR
namespace Go.Proofs.Ythjkihbobdollaa
open Go.RowKit
structure SuI (x : List (BitVec 8)) (n : Int) (g0 gr : Nat) (w : World) (k : Nat) (d : List (BitVec 8)) (W : World) : Prop where
  b0 : Blk W g0 (cb d) 23
  br : Blk W gr (cb zb32) 23
  bel : Below w.heap.size w W
  len : d.length = 32
  bits : ∀ j, j < 256 → bt d j = (bt x j && !(decide (j < k) && decide (n ≤ (j : Int))))
set_option maxRecDepth 100000 in
set_option maxHeartbeats 2000000 in
theorem sCut_any (x : List (BitVec 8)) (hx : x.length = 32) (n : Int) (w : World) : Calls Try.prog 17 #[.agg (cb x).toArray, .int .i64 n] w fun e w' => ∃ y, e = .returned (.agg (cb y).toArray) ∧ IsCut x n y ∧ Below w.heap.size w w' := by
  have HX : Hid (x.length = 32) := hx
  clear hx
  go_enter Try.func17, Try.ntmps17
  go_wp2_with (first
    | (with_reducible refine wpSeq_boxD (.tmp 0) x ?_ ?_ ?_ ?_
       · rfl
       · rfl
       · rfl
       intro g0 w1 n1)
    | (with_reducible refine wpSeq_allocD ?_ ?_ ?_
       · rfl
       · rfl
       intro gr w2 n2
       have HI : Hid (SuI x n g0 gr w 0 x w2) := ⟨n1.blk.below n2.below n1.blk.lt, n2.blk, n1.below.trans (n2.below.mono n1.below.size), HX.out, fun j _ => by simp⟩
       have HG : Hid (w.heap.size ≤ g0 ∧ g0 < gr) := ⟨n1.ge, Nat.lt_of_lt_of_le n1.blk.lt n2.ge⟩
       clear n1 n2))
  go_loopw [5] (fun i wr => ∃ (k : Nat) (d : List (BitVec 8)), k ≤ 256 ∧ i = .int .i64 (k : Int) ∧ SuI x n g0 gr w k d wr) (fun i _ => 256 - (intOf i).toNat)
  case atStart => exact ⟨0, x, by omega, rfl, HI.out⟩
  case round =>
    clear HI
    obtain ⟨k, d, hk, rfl, hI⟩ := hrel
    have HI : Hid (SuI x n g0 gr w k d wr) := hI
    clear hI
    by_cases hlt : k < 256
    · have k1 : (k : Int) < 256 := by omega
      have f5 : IntKind.i64.wrap ((k : Int) + 1) = (k : Int) + 1 := wrap_small _ (by omega) (by omega)
      have HLT : Hid (k < 256) := hlt
      clear hlt hk
      by_cases hn : n ≤ (k : Int)
      · have HN : Hid (n ≤ (k : Int)) := hn
        obtain ⟨y2, HY2⟩ : ∃ y2, Hid (y2 = setI d (k : Int) false) := ⟨_, rfl⟩
        have HL2 : Hid (y2.length = 32) := by show _ = _; rw [HY2.out, setI_len]; exact HI.out.len
        go_wp2_with (first
          | (with_reducible refine wpSeq_loadD (.tmp 2) g0 d ?_ ?_ ?_ ?_ ?_ ?_
             · exact HI.out.len
             · exact HI.out.b0
             · rfl
             · rfl
             · rfl)
          | (go_at_call 11; refine (sSet_any d HI.out.len _ _ _).mono ?_; rintro e W2 ⟨rfl, hb2⟩
             rw [← HY2.out]
             have HC2 : Hid (Blk W2 g0 (cb d) 23) := HI.out.b0.below hb2 HI.out.b0.lt
             have HR2 : Hid (Blk W2 gr (cb zb32) 23) := HI.out.br.below hb2 HI.out.br.lt
             have HB2 : Hid (Below w.heap.size w W2) := HI.out.bel.trans (hb2.mono HI.out.bel.size)
             clear hb2)
          | (with_reducible refine wpSeq_storeD (.tmp 2) (.tmp 15) g0 d y2 ?_ ?_ ?_ ?_ ?_ ?_ ?_ ?_
             · exact HI.out.len
             · exact HL2.out
             · exact HC2.out
             · rfl
             · rfl
             · rfl
             · rfl
             intro W3 h3
             have HJ : Hid (SuI x n g0 gr w (k + 1) y2 W3) := ⟨h3.blk, HR2.out.only h3.only (by have := HG.out; omega), HB2.out.trans (h3.only.below HG.out.1 HB2.out.size), HL2.out, fun j hj => by
               rw [HY2.out, setI_nat _ _ _ HLT.out, bt_set _ HI.out.len _ _ _ HLT.out hj, HI.out.bits j hj]
               have := HN.out
               by_cases e : j = k
               · subst e; simp [this]
               · rw [if_neg e]
                 have e2 : decide (j < k + 1) = decide (j < k) := by rw [decide_eq_decide]; omega
                 rw [e2]⟩
             clear h3))
        go_roundw
        case rel => exact ⟨k + 1, y2, by have := HLT.out; omega, by simp, HJ.out⟩
        case measure => simp [intOf]; omega
      · have HJ : Hid (SuI x n g0 gr w (k + 1) d wr) := ⟨HI.out.b0, HI.out.br, HI.out.bel, HI.out.len, fun j hj => by
          rw [HI.out.bits j hj]
          by_cases e : j = k
          · subst e; simp [hn]
          · have e2 : decide (j < k + 1) = decide (j < k) := by rw [decide_eq_decide]; omega
            rw [e2]⟩
        go_wp2
        go_roundw
        case rel => exact ⟨k + 1, d, by have := HLT.out; omega, by simp, HJ.out⟩
        case measure => simp [intOf]; omega
    · have hk256 : k = 256 := by omega
      subst hk256
      clear hlt hk
      go_wp2_with (first
        | (with_reducible refine wpSeq_loadD (.tmp 2) g0 d ?_ ?_ ?_ ?_ ?_ ?_
           · exact HI.out.len
           · exact HI.out.b0
           · rfl
           · rfl
           · rfl)
        | (with_reducible refine wpSeq_storeD (.tmp 4) (.tmp 16) gr zb32 d ?_ ?_ ?_ ?_ ?_ ?_ ?_ ?_
           · rfl
           · exact HI.out.len
           · exact HI.out.br
           · rfl
           · rfl
           · rfl
           · rfl
           intro W3 h3))
      refine bodyPost_ret (v := .agg (cb d).toArray) (results_cell_row (by rfl) _ _ gr 23 _ (0, 0) _ rfl h3.blk Try.underlying23 rfl (by rw [List.size_toArray, cb_len, HI.out.len]; exact info_digest)) rfl ⟨d, rfl, ⟨HI.out.len, fun j hj => ?_⟩, HI.out.bel.trans (h3.only.below (by have := HG.out; omega) HI.out.bel.size)⟩
      rw [HI.out.bits j hj, decide_eq_true hj, Bool.true_and]
      by_cases h : (j : Int) < n
      · have h2 : ¬ (n ≤ (j : Int)) := by omega
        simp [h, h2]
      · have h2 : n ≤ (j : Int) := by omega
        simp [h, h2]
end Go.Proofs.Ythjkihbobdollaa

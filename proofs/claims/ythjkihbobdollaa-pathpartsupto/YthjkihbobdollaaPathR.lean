/- The walks of the reference's Common, Cut and Less. -/
import Derived.Test.YthjkihbobdollaaPathCut
namespace Go.Proofs.Ythjkihbobdollaa
open Go.RowKit
def ScI (x y : List (BitVec 8)) (g0 g1 : Nat) (w : World) (k : Nat) (W : World) : Prop := Blk W g0 (cb x) 23 ∧ Blk W g1 (cb y) 23 ∧ Below w.heap.size w W ∧ ∀ j, j < k → bt x j = bt y j
theorem ScI.over {x y : List (BitVec 8)} {g0 g1 k : Nat} {w W W' : World} (h : ScI x y g0 g1 w k W) (ho : Over W.drew W') : ScI x y g0 g1 w k W' :=
  ⟨ho.blk h.1.drew, ho.blk h.2.1.drew, h.2.2.1.drew.trans (Below.mono ho h.2.2.1.size), h.2.2.2⟩
set_option maxRecDepth 100000 in
set_option maxHeartbeats 2000000 in
theorem sCommon_any (x y : List (BitVec 8)) (hx : x.length = 32) (hy : y.length = 32) (w : World) : Calls Try.prog 15 #[.agg (cb x).toArray, .agg (cb y).toArray] w fun e w' => e = .returned (.int .i64 (common x y : Int)) ∧ Below w.heap.size w w' := by
  have HX : Hid (x.length = 32) := hx
  have HY : Hid (y.length = 32) := hy
  clear hx hy
  go_enter Try.func15, Try.ntmps15
  go_wp2_with (first
    | (with_reducible refine wpSeq_boxD (.tmp 0) x ?_ ?_ ?_ ?_
       · rfl
       · rfl
       · rfl
       intro g0 w1 n1)
    | (with_reducible refine wpSeq_boxD (.tmp 1) y ?_ ?_ ?_ ?_
       · rfl
       · rfl
       · rfl
       intro g1 w2 n2
       have HI : Hid (ScI x y g0 g1 w 0 w2) := ⟨n1.blk.below n2.below n1.blk.lt, n2.blk, n1.below.trans (n2.below.mono n1.below.size), by omega⟩
       clear n1 n2))
  go_loopw [5] (fun i wr => ∃ k : Nat, k ≤ 256 ∧ i = .int .i64 (k : Int) ∧ ScI x y g0 g1 w k wr) (fun i _ => 256 - (intOf i).toNat)
  case atStart => exact ⟨0, by omega, rfl, HI.out⟩
  case round =>
    clear HI
    obtain ⟨k, hk, rfl, hI⟩ := hrel
    have HI : Hid (ScI x y g0 g1 w k wr) := hI
    clear hI
    by_cases hlt : k < 256
    · have k1 : (k : Int) < 256 := by omega
      obtain ⟨p, HP⟩ : ∃ p, Hid (p = bt x k) := ⟨_, rfl⟩
      obtain ⟨q, HQ⟩ : ∃ q, Hid (q = bt y k) := ⟨_, rfl⟩
      have HBX : Hid (bitI x (k : Int) = p) := by show _ = _; rw [HP.out, bitI_nat x k hlt]
      have HBY : Hid (bitI y (k : Int) = q) := by show _ = _; rw [HQ.out, bitI_nat y k hlt]
      have f5 : IntKind.i64.wrap ((k : Int) + 1) = (k : Int) + 1 := wrap_small _ (by omega) (by omega)
      have HLT : Hid (k < 256) := hlt
      clear hlt hk
      by_cases heq : p = q
      · have HE : Hid (∀ j, j < k + 1 → bt x j = bt y j) := by
          intro j hj
          rcases Nat.lt_or_ge j k with h | h
          · exact HI.out.2.2.2 j h
          · obtain rfl : j = k := by omega
            rw [← HP.out, ← HQ.out, heq]
        subst heq
        go_wp2_with fail
        refine wp_region_held_drew (S := Over wr.drew) (by kernel_rfl) (Over.refl _) ?_
        intro hS
        refine wpAnyH_take (i := 0) (v := .int .i64 (k : Int)) rfl (by kernel_rfl) (by kernel_rfl) (by kernel_rfl) (fun _ _ _ h => h) (Or.inl ⟨by rfl, fun wx hx => by simp [go_sem]⟩) hS ?_
        simp only [Act.put, List.getElem_toArray, List.getElem_cons_zero, List.setIfInBounds_toArray, List.set_cons_zero, List.set_cons_succ]
        refine wpAnyH_take (i := 1) (v := .bool true) rfl (by kernel_rfl) (by kernel_rfl) (by kernel_rfl) (fun _ _ _ h => h) (Or.inl ⟨by rfl, fun wx hx => by simp [go_sem, k1]⟩) hS ?_
        simp only [Act.put, List.getElem_toArray, List.getElem_cons_succ, List.getElem_cons_zero, List.setIfInBounds_toArray, List.set_cons_zero, List.set_cons_succ]
        refine wpAnyH_take (i := 2) (v := .bool true) rfl (by kernel_rfl) (by kernel_rfl) (by kernel_rfl) (fun _ _ _ h => h) (Or.inl ⟨by rfl, fun wx hx => by simp [go_sem]⟩) hS ?_
        simp only [Act.put, List.getElem_toArray, List.getElem_cons_succ, List.getElem_cons_zero, List.setIfInBounds_toArray, List.set_cons_zero, List.set_cons_succ]
        refine wpAnyH_take (i := 3) (v := .agg (cb x).toArray) rfl (by kernel_rfl) (by kernel_rfl) (by kernel_rfl) (fun _ _ _ h => h) (Or.inl ⟨by rfl, fun wx hx => by exact loadDigest _ g0 x HX.out (Over.blk hx HI.out.1.drew) rfl rfl⟩) hS ?_
        simp only [Act.put, List.getElem_toArray, List.getElem_cons_succ, List.getElem_cons_zero, List.setIfInBounds_toArray, List.set_cons_zero, List.set_cons_succ]
        refine wpAnyH_take (i := 4) (v := .int .i64 (k : Int)) rfl (by kernel_rfl) (by kernel_rfl) (by kernel_rfl) (fun _ _ _ h => h) (Or.inl ⟨by rfl, fun wx hx => by simp [go_sem]⟩) hS ?_
        simp only [Act.put, List.getElem_toArray, List.getElem_cons_succ, List.getElem_cons_zero, List.setIfInBounds_toArray, List.set_cons_zero, List.set_cons_succ]
        refine wpAnyH_take (i := 6) (v := .agg (cb y).toArray) rfl (by kernel_rfl) (by kernel_rfl) (by kernel_rfl) (fun _ _ _ h => h) (Or.inl ⟨by rfl, fun wx hx => by exact loadDigest _ g1 y HY.out (Over.blk hx HI.out.2.1.drew) rfl rfl⟩) hS ?_
        simp only [Act.put, List.getElem_toArray, List.getElem_cons_succ, List.getElem_cons_zero, List.setIfInBounds_toArray, List.set_cons_zero, List.set_cons_succ]
        refine wpAnyH_take (i := 7) (v := .int .i64 (k : Int)) rfl (by kernel_rfl) (by kernel_rfl) (by kernel_rfl) (fun _ _ _ h => h) (Or.inl ⟨by rfl, fun wx hx => by simp [go_sem]⟩) hS ?_
        simp only [Act.put, List.getElem_toArray, List.getElem_cons_succ, List.getElem_cons_zero, List.setIfInBounds_toArray, List.set_cons_zero, List.set_cons_succ]
        refine wpAnyH_enter 5 (by kernel_rfl) rfl (by rfl) (f := 10) (args := #[.agg (cb x).toArray, .int .i64 (k : Int)]) (by simp [go_sem]) (sBit_any x HX.out _ _) ?_
        rintro e wy ⟨rfl, hbq⟩
        refine ⟨_, rfl, hS.more hbq, ?_⟩
        replace hS := hS.more hbq
        clear hbq
        rw [HBX.out]
        simp only [Act.put, List.getElem_toArray, List.getElem_cons_succ, List.getElem_cons_zero, List.setIfInBounds_toArray, List.set_cons_zero, List.set_cons_succ]
        refine wpAnyH_enter 8 (by kernel_rfl) rfl (by rfl) (f := 10) (args := #[.agg (cb y).toArray, .int .i64 (k : Int)]) (by simp [go_sem]) (sBit_any y HY.out _ _) ?_
        rintro e wy ⟨rfl, hbq⟩
        refine ⟨_, rfl, hS.more hbq, ?_⟩
        replace hS := hS.more hbq
        clear hbq
        rw [HBY.out]
        simp only [Act.put, List.getElem_toArray, List.getElem_cons_succ, List.getElem_cons_zero, List.setIfInBounds_toArray, List.set_cons_zero, List.set_cons_succ]
        refine wpAnyH_take (i := 9) (v := .bool true) rfl (by kernel_rfl) (by kernel_rfl) (by kernel_rfl) (fun _ _ _ h => h) (Or.inl ⟨by rfl, fun wx hx => by simp [go_sem]⟩) hS ?_
        simp only [Act.put, List.getElem_toArray, List.getElem_cons_succ, List.getElem_cons_zero, List.setIfInBounds_toArray, List.set_cons_zero, List.set_cons_succ]
        refine wpAnyH_take (i := 10) (v := .bool true) rfl (by kernel_rfl) (by kernel_rfl) (by kernel_rfl) (fun _ _ _ h => h) (Or.inl ⟨by rfl, fun wx hx => by simp [go_sem]⟩) hS ?_
        simp only [Act.put, List.getElem_toArray, List.getElem_cons_succ, List.getElem_cons_zero, List.setIfInBounds_toArray, List.set_cons_zero, List.set_cons_succ]
        refine wpAnyH_done (by kernel_rfl) ?_ _
        have HI2 := HI.out.over hS
        generalize wy = wz at *
        clear hS HI
        go_wp2
        go_roundw
        case rel => exact ⟨k + 1, by have := HLT.out; omega, by simp, HI2.1, HI2.2.1, HI2.2.2.1, HE.out⟩
        case measure => simp [intOf]; omega
      · have HC : Hid (common x y = k) := common_is x y k (by have := HLT.out; omega) HI.out.2.2.2 (fun _ e => heq (by rw [HP.out, HQ.out, e]))
        have heq : (p == q) = false := by simpa using heq
        go_wp2_with fail
        refine wp_region_held_drew (S := Over wr.drew) (by kernel_rfl) (Over.refl _) ?_
        intro hS
        refine wpAnyH_take (i := 0) (v := .int .i64 (k : Int)) rfl (by kernel_rfl) (by kernel_rfl) (by kernel_rfl) (fun _ _ _ h => h) (Or.inl ⟨by rfl, fun wx hx => by simp [go_sem]⟩) hS ?_
        simp only [Act.put, List.getElem_toArray, List.getElem_cons_zero, List.setIfInBounds_toArray, List.set_cons_zero, List.set_cons_succ]
        refine wpAnyH_take (i := 1) (v := .bool true) rfl (by kernel_rfl) (by kernel_rfl) (by kernel_rfl) (fun _ _ _ h => h) (Or.inl ⟨by rfl, fun wx hx => by simp [go_sem, k1]⟩) hS ?_
        simp only [Act.put, List.getElem_toArray, List.getElem_cons_succ, List.getElem_cons_zero, List.setIfInBounds_toArray, List.set_cons_zero, List.set_cons_succ]
        refine wpAnyH_take (i := 2) (v := .bool true) rfl (by kernel_rfl) (by kernel_rfl) (by kernel_rfl) (fun _ _ _ h => h) (Or.inl ⟨by rfl, fun wx hx => by simp [go_sem]⟩) hS ?_
        simp only [Act.put, List.getElem_toArray, List.getElem_cons_succ, List.getElem_cons_zero, List.setIfInBounds_toArray, List.set_cons_zero, List.set_cons_succ]
        refine wpAnyH_take (i := 3) (v := .agg (cb x).toArray) rfl (by kernel_rfl) (by kernel_rfl) (by kernel_rfl) (fun _ _ _ h => h) (Or.inl ⟨by rfl, fun wx hx => by exact loadDigest _ g0 x HX.out (Over.blk hx HI.out.1.drew) rfl rfl⟩) hS ?_
        simp only [Act.put, List.getElem_toArray, List.getElem_cons_succ, List.getElem_cons_zero, List.setIfInBounds_toArray, List.set_cons_zero, List.set_cons_succ]
        refine wpAnyH_take (i := 4) (v := .int .i64 (k : Int)) rfl (by kernel_rfl) (by kernel_rfl) (by kernel_rfl) (fun _ _ _ h => h) (Or.inl ⟨by rfl, fun wx hx => by simp [go_sem]⟩) hS ?_
        simp only [Act.put, List.getElem_toArray, List.getElem_cons_succ, List.getElem_cons_zero, List.setIfInBounds_toArray, List.set_cons_zero, List.set_cons_succ]
        refine wpAnyH_take (i := 6) (v := .agg (cb y).toArray) rfl (by kernel_rfl) (by kernel_rfl) (by kernel_rfl) (fun _ _ _ h => h) (Or.inl ⟨by rfl, fun wx hx => by exact loadDigest _ g1 y HY.out (Over.blk hx HI.out.2.1.drew) rfl rfl⟩) hS ?_
        simp only [Act.put, List.getElem_toArray, List.getElem_cons_succ, List.getElem_cons_zero, List.setIfInBounds_toArray, List.set_cons_zero, List.set_cons_succ]
        refine wpAnyH_take (i := 7) (v := .int .i64 (k : Int)) rfl (by kernel_rfl) (by kernel_rfl) (by kernel_rfl) (fun _ _ _ h => h) (Or.inl ⟨by rfl, fun wx hx => by simp [go_sem]⟩) hS ?_
        simp only [Act.put, List.getElem_toArray, List.getElem_cons_succ, List.getElem_cons_zero, List.setIfInBounds_toArray, List.set_cons_zero, List.set_cons_succ]
        refine wpAnyH_enter 5 (by kernel_rfl) rfl (by rfl) (f := 10) (args := #[.agg (cb x).toArray, .int .i64 (k : Int)]) (by simp [go_sem]) (sBit_any x HX.out _ _) ?_
        rintro e wy ⟨rfl, hbq⟩
        refine ⟨_, rfl, hS.more hbq, ?_⟩
        replace hS := hS.more hbq
        clear hbq
        rw [HBX.out]
        simp only [Act.put, List.getElem_toArray, List.getElem_cons_succ, List.getElem_cons_zero, List.setIfInBounds_toArray, List.set_cons_zero, List.set_cons_succ]
        refine wpAnyH_enter 8 (by kernel_rfl) rfl (by rfl) (f := 10) (args := #[.agg (cb y).toArray, .int .i64 (k : Int)]) (by simp [go_sem]) (sBit_any y HY.out _ _) ?_
        rintro e wy ⟨rfl, hbq⟩
        refine ⟨_, rfl, hS.more hbq, ?_⟩
        replace hS := hS.more hbq
        clear hbq
        rw [HBY.out]
        simp only [Act.put, List.getElem_toArray, List.getElem_cons_succ, List.getElem_cons_zero, List.setIfInBounds_toArray, List.set_cons_zero, List.set_cons_succ]
        refine wpAnyH_take (i := 9) (v := .bool false) rfl (by kernel_rfl) (by kernel_rfl) (by kernel_rfl) (fun _ _ _ h => h) (Or.inl ⟨by rfl, fun wx hx => by simp [go_sem, heq]⟩) hS ?_
        simp only [Act.put, List.getElem_toArray, List.getElem_cons_succ, List.getElem_cons_zero, List.setIfInBounds_toArray, List.set_cons_zero, List.set_cons_succ]
        refine wpAnyH_take (i := 10) (v := .bool false) rfl (by kernel_rfl) (by kernel_rfl) (by kernel_rfl) (fun _ _ _ h => h) (Or.inl ⟨by rfl, fun wx hx => by simp [go_sem]⟩) hS ?_
        simp only [Act.put, List.getElem_toArray, List.getElem_cons_succ, List.getElem_cons_zero, List.setIfInBounds_toArray, List.set_cons_zero, List.set_cons_succ]
        refine wpAnyH_done (by kernel_rfl) ?_ _
        have HI2 := HI.out.over hS
        generalize wy = wz at *
        clear hS HI
        go_wp2
        go_ret
        exact ⟨by rw [HC.out]; rfl, HI2.2.2.1⟩
    · have hk256 : k = 256 := by omega
      subst hk256
      have HC : Hid (common x y = 256) := common_is x y 256 (by omega) HI.out.2.2.2 (by omega)
      clear hlt hk
      go_wp2_with fail
      refine wp_region_held_drew (S := Over wr.drew) (by kernel_rfl) (Over.refl _) ?_
      intro hS
      refine wpAnyH_take (i := 0) (v := .int .i64 256) rfl (by kernel_rfl) (by kernel_rfl) (by kernel_rfl) (fun _ _ _ h => h) (Or.inl ⟨by rfl, fun wx hx => by simp [go_sem]⟩) hS ?_
      simp only [Act.put, List.getElem_toArray, List.getElem_cons_zero, List.setIfInBounds_toArray, List.set_cons_zero, List.set_cons_succ]
      refine wpAnyH_take (i := 1) (v := .bool false) rfl (by kernel_rfl) (by kernel_rfl) (by kernel_rfl) (fun _ _ _ h => h) (Or.inl ⟨by rfl, fun wx hx => by simp [go_sem]⟩) hS ?_
      simp only [Act.put, List.getElem_toArray, List.getElem_cons_succ, List.getElem_cons_zero, List.setIfInBounds_toArray, List.set_cons_zero, List.set_cons_succ]
      refine wpAnyH_take (i := 2) (v := .bool false) rfl (by kernel_rfl) (by kernel_rfl) (by kernel_rfl) (fun _ _ _ h => h) (Or.inl ⟨by rfl, fun wx hx => by simp [go_sem]⟩) hS ?_
      simp only [Act.put, List.getElem_toArray, List.getElem_cons_succ, List.getElem_cons_zero, List.setIfInBounds_toArray, List.set_cons_zero, List.set_cons_succ]
      refine wpAnyH_take (i := 3) (v := undef) rfl (by kernel_rfl) (by kernel_rfl) (by kernel_rfl) (fun _ _ _ h => h) (Or.inr ⟨by rfl, rfl⟩) hS ?_
      simp only [Act.put, List.getElem_toArray, List.getElem_cons_succ, List.getElem_cons_zero, List.setIfInBounds_toArray, List.set_cons_zero, List.set_cons_succ]
      refine wpAnyH_take (i := 4) (v := undef) rfl (by kernel_rfl) (by kernel_rfl) (by kernel_rfl) (fun _ _ _ h => h) (Or.inr ⟨by rfl, rfl⟩) hS ?_
      simp only [Act.put, List.getElem_toArray, List.getElem_cons_succ, List.getElem_cons_zero, List.setIfInBounds_toArray, List.set_cons_zero, List.set_cons_succ]
      refine wpAnyH_take (i := 5) (v := undef) rfl (by kernel_rfl) (by kernel_rfl) (by kernel_rfl) (fun _ _ _ h => h) (Or.inr ⟨by rfl, rfl⟩) hS ?_
      simp only [Act.put, List.getElem_toArray, List.getElem_cons_succ, List.getElem_cons_zero, List.setIfInBounds_toArray, List.set_cons_zero, List.set_cons_succ]
      refine wpAnyH_take (i := 6) (v := undef) rfl (by kernel_rfl) (by kernel_rfl) (by kernel_rfl) (fun _ _ _ h => h) (Or.inr ⟨by rfl, rfl⟩) hS ?_
      simp only [Act.put, List.getElem_toArray, List.getElem_cons_succ, List.getElem_cons_zero, List.setIfInBounds_toArray, List.set_cons_zero, List.set_cons_succ]
      refine wpAnyH_take (i := 7) (v := undef) rfl (by kernel_rfl) (by kernel_rfl) (by kernel_rfl) (fun _ _ _ h => h) (Or.inr ⟨by rfl, rfl⟩) hS ?_
      simp only [Act.put, List.getElem_toArray, List.getElem_cons_succ, List.getElem_cons_zero, List.setIfInBounds_toArray, List.set_cons_zero, List.set_cons_succ]
      refine wpAnyH_take (i := 8) (v := undef) rfl (by kernel_rfl) (by kernel_rfl) (by kernel_rfl) (fun _ _ _ h => h) (Or.inr ⟨by rfl, rfl⟩) hS ?_
      simp only [Act.put, List.getElem_toArray, List.getElem_cons_succ, List.getElem_cons_zero, List.setIfInBounds_toArray, List.set_cons_zero, List.set_cons_succ]
      refine wpAnyH_take (i := 9) (v := undef) rfl (by kernel_rfl) (by kernel_rfl) (by kernel_rfl) (fun _ _ _ h => h) (Or.inr ⟨by rfl, rfl⟩) hS ?_
      simp only [Act.put, List.getElem_toArray, List.getElem_cons_succ, List.getElem_cons_zero, List.setIfInBounds_toArray, List.set_cons_zero, List.set_cons_succ]
      refine wpAnyH_take (i := 10) (v := .bool false) rfl (by kernel_rfl) (by kernel_rfl) (by kernel_rfl) (fun _ _ _ h => h) (Or.inl ⟨by rfl, fun wx hx => by simp [go_sem]⟩) hS ?_
      simp only [Act.put, List.getElem_toArray, List.getElem_cons_succ, List.getElem_cons_zero, List.setIfInBounds_toArray, List.set_cons_zero, List.set_cons_succ]
      refine wpAnyH_done (by kernel_rfl) ?_ _
      have HI2 := HI.out.over hS
      go_wp2
      go_ret
      exact ⟨by rw [HC.out]; rfl, HI2.2.2.1⟩
end Go.Proofs.Ythjkihbobdollaa

/- PathBits, walked. -/
import Derived.Test.YthjkihbobdollaaPathWk
namespace Go.Proofs.Ythjkihbobdollaa
open Go.RowKit
set_option maxRecDepth 100000 in
set_option maxHeartbeats 4000000 in
theorem pathBits_walk (x : List (BitVec 8)) (hx : x.length = 32) (i : Int) (on : Bool) (w : World) : Calls Try.prog 3 #[.agg (cb x).toArray, .int .i64 i, .bool on] w fun e w' => e = .returned (.bool true) ∧ Below w.heap.size w w' := by
  have HX : Hid (x.length = 32) := hx
  obtain ⟨y, HY⟩ : ∃ y, Hid (y = setI x i on) := ⟨_, rfl⟩
  have HYL : Hid (y.length = 32) := by show _ = _; rw [HY.out, setI_len]; exact hx
  obtain ⟨p, HP⟩ : ∃ p, Hid (p = bitI x i) := ⟨_, rfl⟩
  have HS : Hid (0 ≤ i → i ≤ 255 → bitI y i = on) := by
    intro h0 h1
    obtain ⟨n, rfl⟩ : ∃ n : Nat, i = (n : Int) := ⟨i.toNat, by omega⟩
    rw [HY.out, setI_nat x n on (by omega), bitI_nat _ n (by omega), bt_set x hx n n on (by omega) (by omega), if_pos rfl]
  have heqy : ∀ w, (Op.equalIn 10000 23 (.agg (cb y).toArray) (.agg (cb y).toArray)).run Try.prog w = .ok true w := fun w => eq_dig_same y HYL.out w
  clear hx
  go_enter Try.func3, Try.ntmps3
  go_wp2_with (first
    | (with_reducible refine wpSeq_boxD (.tmp 0) x ?_ ?_ ?_ ?_
       · rfl
       · rfl
       · rfl
       intro g0 w1 n1)
    | (with_reducible refine wpSeq_loadD (.tmp 3) g0 x ?_ ?_ ?_ ?_ ?_ ?_
       · exact HX.out
       · exact n1.blk
       · with_reducible rfl
       · rfl
       · rfl)
    | (go_at_call 8; refine (pSet_any x HX.out _ _ _).mono ?_; rintro e w2 ⟨rfl, hb2⟩; rw [← HY.out]
       have H0 : Hid (Blk w2 g0 (cb x) 23) := n1.blk.below hb2 n1.blk.lt
       have HBW : Hid (Below w.heap.size w w2) := n1.below.trans (hb2.mono n1.below.size)
       have HLT : Hid (g0 < w2.heap.size) := Nat.lt_of_lt_of_le n1.blk.lt hb2.size
       clear n1 hb2)
    | (with_reducible refine wpSeq_allocD ?_ ?_ ?_
       · rfl
       · rfl
       intro g1 w3 n3
       replace H0 : Hid (Blk w3 g0 (cb x) 23) := H0.out.below n3.below H0.out.lt
       have HG : Hid (w.heap.size ≤ g1 ∧ g0 < g1) := ⟨Nat.le_trans HBW.out.size n3.ge, Nat.lt_of_lt_of_le HLT.out n3.ge⟩
       replace HBW : Hid (Below w.heap.size w w3) := HBW.out.trans (n3.below.mono HBW.out.size)
       have H1 : Hid (Blk w3 g1 (cb zb32) 23) := n3.blk
       clear n3 HLT)
    | (with_reducible refine wpSeq_storeD (.tmp 7) (.tmp 11) g1 zb32 y ?_ ?_ ?_ ?_ ?_ ?_ ?_ ?_
       · rfl
       · exact HYL.out
       · exact H1.out
       · rfl
       · rfl
       · rfl
       · rfl
       intro w4 h4
       replace H0 : Hid (Blk w4 g0 (cb x) 23) := H0.out.only h4.only (by have := HG.out; omega)
       replace HBW : Hid (Below w.heap.size w w4) := HBW.out.trans (h4.only.below HG.out.1 HBW.out.size)
       replace H1 : Hid (Blk w4 g1 (cb y) 23) := h4.blk
       clear h4))
  refine wp_region_held_drew (S := Over w4.drew) (by kernel_rfl) (Over.refl _) ?_
  intro hS
  refine wpAnyH_take (i := 0) (v := .agg (cb x).toArray) rfl (by kernel_rfl) (by kernel_rfl) (by kernel_rfl) (fun _ _ _ h => h) (Or.inl ⟨by rfl, fun wx hx => by exact loadDigest _ g0 x HX.out (Over.blk hx H0.out.drew) rfl rfl⟩) hS ?_
  simp only [Act.put, List.getElem_toArray, List.getElem_cons_zero, List.setIfInBounds_toArray, List.set_cons_zero, List.set_cons_succ]
  refine wpAnyH_take (i := 1) (v := .int .i64 i) rfl (by kernel_rfl) (by kernel_rfl) (by kernel_rfl) (fun _ _ _ h => h) (Or.inl ⟨by rfl, fun wx hx => by simp [go_sem]⟩) hS ?_
  simp only [Act.put, List.getElem_toArray, List.getElem_cons_succ, List.getElem_cons_zero, List.setIfInBounds_toArray, List.set_cons_zero, List.set_cons_succ]
  refine wpAnyH_take (i := 3) (v := .agg (cb x).toArray) rfl (by kernel_rfl) (by kernel_rfl) (by kernel_rfl) (fun _ _ _ h => h) (Or.inl ⟨by rfl, fun wx hx => by exact loadDigest _ g0 x HX.out (Over.blk hx H0.out.drew) rfl rfl⟩) hS ?_
  simp only [Act.put, List.getElem_toArray, List.getElem_cons_succ, List.getElem_cons_zero, List.setIfInBounds_toArray, List.set_cons_zero, List.set_cons_succ]
  refine wpAnyH_take (i := 4) (v := .int .i64 i) rfl (by kernel_rfl) (by kernel_rfl) (by kernel_rfl) (fun _ _ _ h => h) (Or.inl ⟨by rfl, fun wx hx => by simp [go_sem]⟩) hS ?_
  simp only [Act.put, List.getElem_toArray, List.getElem_cons_succ, List.getElem_cons_zero, List.setIfInBounds_toArray, List.set_cons_zero, List.set_cons_succ]
  refine wpAnyH_enter 2 (by kernel_rfl) rfl (by rfl) (f := 9) (args := #[.agg (cb x).toArray, .int .i64 i]) (by simp [go_sem]) (pBit_any x HX.out _ _) ?_
  rintro e wy ⟨rfl, hbq⟩
  refine ⟨_, rfl, hS.more hbq, ?_⟩
  replace hS := hS.more hbq
  clear hbq
  rw [← HP.out]
  simp only [Act.put, List.getElem_toArray, List.getElem_cons_succ, List.getElem_cons_zero, List.setIfInBounds_toArray, List.set_cons_zero, List.set_cons_succ]
  refine wpAnyH_enter 5 (by kernel_rfl) rfl (by rfl) (f := 10) (args := #[.agg (cb x).toArray, .int .i64 i]) (by simp [go_sem]) (sBit_any x HX.out _ _) ?_
  rintro e wy ⟨rfl, hbq⟩
  refine ⟨_, rfl, hS.more hbq, ?_⟩
  replace hS := hS.more hbq
  clear hbq
  rw [← HP.out]
  simp only [Act.put, List.getElem_toArray, List.getElem_cons_succ, List.getElem_cons_zero, List.setIfInBounds_toArray, List.set_cons_zero, List.set_cons_succ]
  refine wpAnyH_take (i := 6) (v := .bool false) rfl (by kernel_rfl) (by kernel_rfl) (by kernel_rfl) (fun _ _ _ h => h) (Or.inl ⟨by rfl, fun wx hx => by simp [go_sem]⟩) hS ?_
  simp only [Act.put, List.getElem_toArray, List.getElem_cons_succ, List.getElem_cons_zero, List.setIfInBounds_toArray, List.set_cons_zero, List.set_cons_succ]
  refine wpAnyH_take (i := 7) (v := .bool false) rfl (by kernel_rfl) (by kernel_rfl) (by kernel_rfl) (fun _ _ _ h => h) (Or.inl ⟨by rfl, fun wx hx => by simp [go_sem]⟩) hS ?_
  simp only [Act.put, List.getElem_toArray, List.getElem_cons_succ, List.getElem_cons_zero, List.setIfInBounds_toArray, List.set_cons_zero, List.set_cons_succ]
  refine wpAnyH_take (i := 8) (v := .agg (cb y).toArray) rfl (by kernel_rfl) (by kernel_rfl) (by kernel_rfl) (fun _ _ _ h => h) (Or.inl ⟨by rfl, fun wx hx => by exact loadDigest _ g1 y HYL.out (Over.blk hx H1.out.drew) rfl rfl⟩) hS ?_
  simp only [Act.put, List.getElem_toArray, List.getElem_cons_succ, List.getElem_cons_zero, List.setIfInBounds_toArray, List.set_cons_zero, List.set_cons_succ]
  refine wpAnyH_take (i := 9) (v := .agg (cb x).toArray) rfl (by kernel_rfl) (by kernel_rfl) (by kernel_rfl) (fun _ _ _ h => h) (Or.inl ⟨by rfl, fun wx hx => by exact loadDigest _ g0 x HX.out (Over.blk hx H0.out.drew) rfl rfl⟩) hS ?_
  simp only [Act.put, List.getElem_toArray, List.getElem_cons_succ, List.getElem_cons_zero, List.setIfInBounds_toArray, List.set_cons_zero, List.set_cons_succ]
  refine wpAnyH_take (i := 10) (v := .int .i64 i) rfl (by kernel_rfl) (by kernel_rfl) (by kernel_rfl) (fun _ _ _ h => h) (Or.inl ⟨by rfl, fun wx hx => by simp [go_sem]⟩) hS ?_
  simp only [Act.put, List.getElem_toArray, List.getElem_cons_succ, List.getElem_cons_zero, List.setIfInBounds_toArray, List.set_cons_zero, List.set_cons_succ]
  refine wpAnyH_take (i := 11) (v := .bool on) rfl (by kernel_rfl) (by kernel_rfl) (by kernel_rfl) (fun _ _ _ h => h) (Or.inl ⟨by rfl, fun wx hx => by simp [go_sem]⟩) hS ?_
  simp only [Act.put, List.getElem_toArray, List.getElem_cons_succ, List.getElem_cons_zero, List.setIfInBounds_toArray, List.set_cons_zero, List.set_cons_succ]
  refine wpAnyH_enter 12 (by kernel_rfl) rfl (by rfl) (f := 11) (args := #[.agg (cb x).toArray, .int .i64 i, .bool on]) (by simp [go_sem]) (sSet_any x HX.out _ _ _) ?_
  rintro e wy ⟨rfl, hbq⟩
  refine ⟨_, rfl, hS.more hbq, ?_⟩
  replace hS := hS.more hbq
  clear hbq
  rw [← HY.out]
  simp only [Act.put, List.getElem_toArray, List.getElem_cons_succ, List.getElem_cons_zero, List.setIfInBounds_toArray, List.set_cons_zero, List.set_cons_succ]
  refine wpAnyH_take (i := 13) (v := .bool false) rfl (by kernel_rfl) (by kernel_rfl) (by kernel_rfl) (fun _ _ _ h => h) (Or.inl ⟨by rfl, fun wx hx => by simp [go_sem, heqy]⟩) hS ?_
  simp only [Act.put, List.getElem_toArray, List.getElem_cons_succ, List.getElem_cons_zero, List.setIfInBounds_toArray, List.set_cons_zero, List.set_cons_succ]
  refine wpAnyH_take (i := 14) (v := .bool false) rfl (by kernel_rfl) (by kernel_rfl) (by kernel_rfl) (fun _ _ _ h => h) (Or.inl ⟨by rfl, fun wx hx => by simp [go_sem]⟩) hS ?_
  simp only [Act.put, List.getElem_toArray, List.getElem_cons_succ, List.getElem_cons_zero, List.setIfInBounds_toArray, List.set_cons_zero, List.set_cons_succ]
  refine wpAnyH_done (by kernel_rfl) ?_ _
  replace HBW : Hid (Below w.heap.size w wy) := HBW.out.drew.trans (Below.mono hS HBW.out.size)
  have H1' : Hid (Blk wy g1 (cb y) 23) := hS.blk H1.out.drew
  clear hS H0 H1
  generalize wy = wv at *
  by_cases h0 : i < 0
  · go_wp2_with (go_at_call 12; refine (pworks_any _).mono ?_; rintro e wz ⟨rfl, hbz⟩; replace HBW : Hid (Below w.heap.size w wz) := (HBW.out.trans (hbz.mono HBW.out.size)); clear hbz)
    go_ret
    exact ⟨rfl, HBW.out⟩
  · by_cases h1 : 255 < i
    · go_wp2_with (go_at_call 12; refine (pworks_any _).mono ?_; rintro e wz ⟨rfl, hbz⟩; replace HBW : Hid (Below w.heap.size w wz) := (HBW.out.trans (hbz.mono HBW.out.size)); clear hbz)
      go_ret
      exact ⟨rfl, HBW.out⟩
    · replace h0 : 0 ≤ i := by omega
      replace h1 : i ≤ 255 := by omega
      have d0 : decide (i < 0) = false := decide_eq_false (by omega)
      have d1 : decide (255 < i) = false := decide_eq_false (by omega)
      have HS2 : Hid (bitI y i = on) := HS.out h0 h1
      clear h0 h1 HS
      cases on
      all_goals
        go_wp2_with (first
          | (with_reducible refine wpSeq_loadD (.tmp 7) g1 y ?_ ?_ ?_ ?_ ?_ ?_
             · exact HYL.out
             · exact H1'.out
             · with_reducible rfl
             · rfl
             · rfl)
          | (go_at_call 9; refine (pBit_any y HYL.out _ _).mono ?_; rintro e wz ⟨rfl, hbz⟩; rw [HS2.out]
             replace HBW : Hid (Below w.heap.size w wz) := HBW.out.trans (hbz.mono HBW.out.size)
             clear hbz)
          | (go_at_call 12; refine (pworks_any _).mono ?_; rintro e wz ⟨rfl, hbz⟩
             replace HBW : Hid (Below w.heap.size w wz) := HBW.out.trans (hbz.mono HBW.out.size)
             clear hbz))
        go_ret
        exact ⟨rfl, HBW.out⟩
end Go.Proofs.Ythjkihbobdollaa

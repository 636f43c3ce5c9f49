/- PathOrders, walked. -/
import Derived.Test.YthjkihbobdollaaPathWk
namespace Go.Proofs.Ythjkihbobdollaa
open Go.RowKit
set_option maxRecDepth 100000 in
set_option maxHeartbeats 4000000 in
theorem pathOrders_same (x z : List (BitVec 8)) (hx : x.length = 32) (hz : z.length = 32) (w : World) : Calls Try.prog 7 #[.agg (cb x).toArray, .agg (cb x).toArray, .agg (cb z).toArray] w fun e w' => e = .returned (.bool true) ∧ Below w.heap.size w w' := by
  obtain ⟨y, hyx⟩ : ∃ y, y = x := ⟨_, rfl⟩
  have HX : Hid (x.length = 32) := hx
  have HY : Hid (x.length = 32) := hx
  have HZ : Hid (z.length = 32) := hz
  have HC : Hid (common x x = 256) := common_same x
  have HL : Hid (lessB x x = false) := lessB_self x
  have heq : ∀ w, (Op.equalIn 10000 23 (.agg (cb x).toArray) (.agg (cb x).toArray)).run Try.prog w = .ok true w := fun w => eq_dig_same x hx w
  clear hx hz hyx y
  go_enter Try.func7, Try.ntmps7
  go_wp2_with (first
    | (with_reducible refine wpSeq_boxD (.tmp 0) x ?_ ?_ ?_ ?_
       · rfl
       · rfl
       · rfl
       intro g0 w1 n1)
    | (with_reducible refine wpSeq_boxD (.tmp 1) x ?_ ?_ ?_ ?_
       · rfl
       · rfl
       · rfl
       intro g1 w2 n2)
    | (with_reducible refine wpSeq_boxD (.tmp 2) z ?_ ?_ ?_ ?_
       · rfl
       · rfl
       · rfl
       intro g2 w3 n3
       have H0 : Hid (Blk w3 g0 (cb x) 23) := (n1.blk.below n2.below n1.blk.lt).below n3.below (Nat.lt_of_lt_of_le n1.blk.lt n2.below.size)
       have H1 : Hid (Blk w3 g1 (cb x) 23) := n2.blk.below n3.below n2.blk.lt
       have H2 : Hid (Blk w3 g2 (cb z) 23) := n3.blk
       have HBW : Hid (Below w.heap.size w w3) := (n1.below.trans (n2.below.mono n1.below.size)).trans (n3.below.mono (Nat.le_trans n1.below.size n2.below.size))
       clear n1 n2 n3)
    | (with_reducible refine wpSeq_loadD (.tmp 3) g0 x ?_ ?_ ?_ ?_ ?_ ?_
       · exact HX.out
       · exact H0.out
       · with_reducible rfl
       · rfl
       · rfl)
    | (with_reducible refine wpSeq_loadD (.tmp 4) g1 x ?_ ?_ ?_ ?_ ?_ ?_
       · exact HY.out
       · exact H1.out
       · with_reducible rfl
       · rfl
       · rfl)
    | (with_reducible refine wpSeq_loadD (.tmp 5) g2 z ?_ ?_ ?_ ?_ ?_ ?_
       · exact HZ.out
       · exact H2.out
       · with_reducible rfl
       · rfl
       · rfl)
    | (go_at_call 14; refine (pCommon_any x x HX.out HX.out _).mono ?_; rintro e wz ⟨rfl, hbz⟩; rw [HC.out]
       replace H0 : Hid (Blk wz g0 (cb x) 23) := H0.out.below hbz H0.out.lt
       replace H1 : Hid (Blk wz g1 (cb x) 23) := H1.out.below hbz H1.out.lt
       replace H2 : Hid (Blk wz g2 (cb z) 23) := H2.out.below hbz H2.out.lt
       replace HBW : Hid (Below w.heap.size w wz) := HBW.out.trans (hbz.mono HBW.out.size)
       clear hbz)
    | (go_at_call 20; refine (pLess_any x x HX.out HX.out _).mono ?_; rintro e wz ⟨rfl, hbz⟩; rw [HL.out]
       replace H0 : Hid (Blk wz g0 (cb x) 23) := H0.out.below hbz H0.out.lt
       replace H1 : Hid (Blk wz g1 (cb x) 23) := H1.out.below hbz H1.out.lt
       replace H2 : Hid (Blk wz g2 (cb z) 23) := H2.out.below hbz H2.out.lt
       replace HBW : Hid (Below w.heap.size w wz) := HBW.out.trans (hbz.mono HBW.out.size)
       clear hbz)
    | (go_at_call 12; refine (pworks_any _).mono ?_; rintro e wz ⟨rfl, hbz⟩
       replace H0 : Hid (Blk wz g0 (cb x) 23) := H0.out.below hbz H0.out.lt
       replace H1 : Hid (Blk wz g1 (cb x) 23) := H1.out.below hbz H1.out.lt
       replace H2 : Hid (Blk wz g2 (cb z) 23) := H2.out.below hbz H2.out.lt
       replace HBW : Hid (Below w.heap.size w wz) := HBW.out.trans (hbz.mono HBW.out.size)
       clear hbz))
  go_ret
  exact ⟨rfl, HBW.out⟩
set_option maxRecDepth 100000 in
set_option maxHeartbeats 4000000 in
theorem pathOrders_apart (x y z : List (BitVec 8)) (hx : x.length = 32) (hy : y.length = 32) (hz : z.length = 32) (hne : x ≠ y) (w : World) : Calls Try.prog 7 #[.agg (cb x).toArray, .agg (cb y).toArray, .agg (cb z).toArray] w fun e w' => e = .returned (.bool true) ∧ Below w.heap.size w w' := by
  have HX : Hid (x.length = 32) := hx
  have HY : Hid (y.length = 32) := hy
  have HZ : Hid (z.length = 32) := hz
  obtain ⟨c, HC⟩ : ∃ c, Hid (c = common x y) := ⟨_, rfl⟩
  have hc256 : c < 256 := by rw [HC.out]; exact common_lt x y hx hy hne
  obtain ⟨l, HL⟩ : ∃ l, Hid (l = lessB x y) := ⟨_, rfl⟩
  have HBY : Hid (bitI y (c : Int) = l) := by show _ = _; rw [bitI_nat y c hc256, HL.out, less_common x y hx hy hne, HC.out]
  have HBX : Hid (bitI x (c : Int) = !l) := by
    show _ = _
    have h := (common_spec x y).2.2 (by rw [← HC.out]; exact hc256)
    rw [← HC.out, ← bitI_nat x c hc256, ← bitI_nat y c hc256, HBY.out] at h
    cases l <;> simpa using h
  have HLY : Hid (lessB y x = !l) := by show _ = _; rw [less_common y x hy hx (Ne.symm hne), common_comm, ← HC.out, ← HBX.out, bitI_nat x c hc256]
  obtain ⟨m, HM⟩ : ∃ m, Hid (m = lessB y z) := ⟨_, rfl⟩
  obtain ⟨r, HR⟩ : ∃ r, Hid (r = lessB x z) := ⟨_, rfl⟩
  have HT : Hid (l = true → m = true → r = true) := by
    intro h1 h2
    rw [HR.out]; exact lessB_trans x y z (by rw [← HL.out]; exact h1) (by rw [← HM.out]; exact h2)
  have heq : ∀ w, (Op.equalIn 10000 23 (.agg (cb x).toArray) (.agg (cb y).toArray)).run Try.prog w = .ok false w := fun w => by rw [eq_dig x y hx hy w, decide_eq_false hne]
  have i1 : ¬ ((256 : Int) ≤ (c : Int)) := by omega
  clear hx hy hz hne hc256
  go_enter Try.func7, Try.ntmps7
  go_wp2_with (first
    | (with_reducible refine wpSeq_boxD (.tmp 0) x ?_ ?_ ?_ ?_
       · rfl
       · rfl
       · rfl
       intro g0 w1 n1)
    | (with_reducible refine wpSeq_boxD (.tmp 1) y ?_ ?_ ?_ ?_
       · rfl
       · rfl
       · rfl
       intro g1 w2 n2)
    | (with_reducible refine wpSeq_boxD (.tmp 2) z ?_ ?_ ?_ ?_
       · rfl
       · rfl
       · rfl
       intro g2 w3 n3
       have H0 : Hid (Blk w3 g0 (cb x) 23) := (n1.blk.below n2.below n1.blk.lt).below n3.below (Nat.lt_of_lt_of_le n1.blk.lt n2.below.size)
       have H1 : Hid (Blk w3 g1 (cb y) 23) := n2.blk.below n3.below n2.blk.lt
       have H2 : Hid (Blk w3 g2 (cb z) 23) := n3.blk
       have HBW : Hid (Below w.heap.size w w3) := (n1.below.trans (n2.below.mono n1.below.size)).trans (n3.below.mono (Nat.le_trans n1.below.size n2.below.size))
       clear n1 n2 n3)
    | (with_reducible refine wpSeq_loadD (.tmp 3) g0 x ?_ ?_ ?_ ?_ ?_ ?_
       · exact HX.out
       · exact H0.out
       · with_reducible rfl
       · rfl
       · rfl)
    | (with_reducible refine wpSeq_loadD (.tmp 4) g1 y ?_ ?_ ?_ ?_ ?_ ?_
       · exact HY.out
       · exact H1.out
       · with_reducible rfl
       · rfl
       · rfl)
    | (with_reducible refine wpSeq_loadD (.tmp 5) g2 z ?_ ?_ ?_ ?_ ?_ ?_
       · exact HZ.out
       · exact H2.out
       · with_reducible rfl
       · rfl
       · rfl)
    | (go_at_call 14; refine (pCommon_any x y HX.out HY.out _).mono ?_; rintro e wz ⟨rfl, hbz⟩; rw [← HC.out]
       replace H0 : Hid (Blk wz g0 (cb x) 23) := H0.out.below hbz H0.out.lt
       replace H1 : Hid (Blk wz g1 (cb y) 23) := H1.out.below hbz H1.out.lt
       replace H2 : Hid (Blk wz g2 (cb z) 23) := H2.out.below hbz H2.out.lt
       replace HBW : Hid (Below w.heap.size w wz) := HBW.out.trans (hbz.mono HBW.out.size)
       clear hbz))
  refine wp_region_held_drew (S := Over wz.drew) (by kernel_rfl) (Over.refl _) ?_
  intro hS
  refine wpAnyH_take (i := 0) (v := .int .i64 (c : Int)) rfl (by kernel_rfl) (by kernel_rfl) (by kernel_rfl) (fun _ _ _ h => h) (Or.inl ⟨by rfl, fun wx hx => by simp [go_sem]⟩) hS ?_
  simp only [Act.put, List.getElem_toArray, List.getElem_cons_zero, List.setIfInBounds_toArray, List.set_cons_zero, List.set_cons_succ]
  refine wpAnyH_take (i := 1) (v := .bool false) rfl (by kernel_rfl) (by kernel_rfl) (by kernel_rfl) (fun _ _ _ h => h) (Or.inl ⟨by rfl, fun wx hx => by simp [go_sem, i1]⟩) hS ?_
  simp only [Act.put, List.getElem_toArray, List.getElem_cons_succ, List.getElem_cons_zero, List.setIfInBounds_toArray, List.set_cons_zero, List.set_cons_succ]
  refine wpAnyH_take (i := 2) (v := .bool false) rfl (by kernel_rfl) (by kernel_rfl) (by kernel_rfl) (fun _ _ _ h => h) (Or.inl ⟨by rfl, fun wx hx => by simp [go_sem]⟩) hS ?_
  simp only [Act.put, List.getElem_toArray, List.getElem_cons_succ, List.getElem_cons_zero, List.setIfInBounds_toArray, List.set_cons_zero, List.set_cons_succ]
  refine wpAnyH_take (i := 3) (v := .agg (cb x).toArray) rfl (by kernel_rfl) (by kernel_rfl) (by kernel_rfl) (fun _ _ _ h => h) (Or.inl ⟨by rfl, fun wx hx => by exact loadDigest _ g0 x HX.out (Over.blk hx H0.out.drew) rfl rfl⟩) hS ?_
  simp only [Act.put, List.getElem_toArray, List.getElem_cons_succ, List.getElem_cons_zero, List.setIfInBounds_toArray, List.set_cons_zero, List.set_cons_succ]
  refine wpAnyH_take (i := 4) (v := .agg (cb y).toArray) rfl (by kernel_rfl) (by kernel_rfl) (by kernel_rfl) (fun _ _ _ h => h) (Or.inl ⟨by rfl, fun wx hx => by exact loadDigest _ g1 y HY.out (Over.blk hx H1.out.drew) rfl rfl⟩) hS ?_
  simp only [Act.put, List.getElem_toArray, List.getElem_cons_succ, List.getElem_cons_zero, List.setIfInBounds_toArray, List.set_cons_zero, List.set_cons_succ]
  refine wpAnyH_take (i := 6) (v := .agg (cb y).toArray) rfl (by kernel_rfl) (by kernel_rfl) (by kernel_rfl) (fun _ _ _ h => h) (Or.inl ⟨by rfl, fun wx hx => by exact loadDigest _ g1 y HY.out (Over.blk hx H1.out.drew) rfl rfl⟩) hS ?_
  simp only [Act.put, List.getElem_toArray, List.getElem_cons_succ, List.getElem_cons_zero, List.setIfInBounds_toArray, List.set_cons_zero, List.set_cons_succ]
  refine wpAnyH_take (i := 7) (v := .agg (cb x).toArray) rfl (by kernel_rfl) (by kernel_rfl) (by kernel_rfl) (fun _ _ _ h => h) (Or.inl ⟨by rfl, fun wx hx => by exact loadDigest _ g0 x HX.out (Over.blk hx H0.out.drew) rfl rfl⟩) hS ?_
  simp only [Act.put, List.getElem_toArray, List.getElem_cons_succ, List.getElem_cons_zero, List.setIfInBounds_toArray, List.set_cons_zero, List.set_cons_succ]
  refine wpAnyH_enter 5 (by kernel_rfl) rfl (by rfl) (f := 20) (args := #[.agg (cb x).toArray, .agg (cb y).toArray]) (by simp [go_sem]) (pLess_any x y HX.out HY.out _) ?_
  rintro e wy ⟨rfl, hbq⟩
  refine ⟨_, rfl, hS.more hbq, ?_⟩
  replace hS := hS.more hbq
  clear hbq
  rw [← HL.out]
  simp only [Act.put, List.getElem_toArray, List.getElem_cons_succ, List.getElem_cons_zero, List.setIfInBounds_toArray, List.set_cons_zero, List.set_cons_succ]
  refine wpAnyH_enter 8 (by kernel_rfl) rfl (by rfl) (f := 20) (args := #[.agg (cb y).toArray, .agg (cb x).toArray]) (by simp [go_sem]) (pLess_any y x HY.out HX.out _) ?_
  rintro e wy ⟨rfl, hbq⟩
  refine ⟨_, rfl, hS.more hbq, ?_⟩
  replace hS := hS.more hbq
  clear hbq
  rw [HLY.out]
  simp only [Act.put, List.getElem_toArray, List.getElem_cons_succ, List.getElem_cons_zero, List.setIfInBounds_toArray, List.set_cons_zero, List.set_cons_succ]
  refine wpAnyH_take (i := 9) (v := .bool false) rfl (by kernel_rfl) (by kernel_rfl) (by kernel_rfl) (fun _ _ _ h => h) (Or.inl ⟨by rfl, fun wx hx => by cases l <;> simp [go_sem]⟩) hS ?_
  simp only [Act.put, List.getElem_toArray, List.getElem_cons_succ, List.getElem_cons_zero, List.setIfInBounds_toArray, List.set_cons_zero, List.set_cons_succ]
  refine wpAnyH_take (i := 10) (v := .bool false) rfl (by kernel_rfl) (by kernel_rfl) (by kernel_rfl) (fun _ _ _ h => h) (Or.inl ⟨by rfl, fun wx hx => by simp [go_sem]⟩) hS ?_
  simp only [Act.put, List.getElem_toArray, List.getElem_cons_succ, List.getElem_cons_zero, List.setIfInBounds_toArray, List.set_cons_zero, List.set_cons_succ]
  refine wpAnyH_take (i := 11) (v := .bool false) rfl (by kernel_rfl) (by kernel_rfl) (by kernel_rfl) (fun _ _ _ h => h) (Or.inl ⟨by rfl, fun wx hx => by simp [go_sem]⟩) hS ?_
  simp only [Act.put, List.getElem_toArray, List.getElem_cons_succ, List.getElem_cons_zero, List.setIfInBounds_toArray, List.set_cons_zero, List.set_cons_succ]
  refine wpAnyH_take (i := 12) (v := .agg (cb x).toArray) rfl (by kernel_rfl) (by kernel_rfl) (by kernel_rfl) (fun _ _ _ h => h) (Or.inl ⟨by rfl, fun wx hx => by exact loadDigest _ g0 x HX.out (Over.blk hx H0.out.drew) rfl rfl⟩) hS ?_
  simp only [Act.put, List.getElem_toArray, List.getElem_cons_succ, List.getElem_cons_zero, List.setIfInBounds_toArray, List.set_cons_zero, List.set_cons_succ]
  refine wpAnyH_take (i := 13) (v := .agg (cb y).toArray) rfl (by kernel_rfl) (by kernel_rfl) (by kernel_rfl) (fun _ _ _ h => h) (Or.inl ⟨by rfl, fun wx hx => by exact loadDigest _ g1 y HY.out (Over.blk hx H1.out.drew) rfl rfl⟩) hS ?_
  simp only [Act.put, List.getElem_toArray, List.getElem_cons_succ, List.getElem_cons_zero, List.setIfInBounds_toArray, List.set_cons_zero, List.set_cons_succ]
  refine wpAnyH_take (i := 15) (v := .agg (cb y).toArray) rfl (by kernel_rfl) (by kernel_rfl) (by kernel_rfl) (fun _ _ _ h => h) (Or.inl ⟨by rfl, fun wx hx => by exact loadDigest _ g1 y HY.out (Over.blk hx H1.out.drew) rfl rfl⟩) hS ?_
  simp only [Act.put, List.getElem_toArray, List.getElem_cons_succ, List.getElem_cons_zero, List.setIfInBounds_toArray, List.set_cons_zero, List.set_cons_succ]
  refine wpAnyH_take (i := 16) (v := .int .i64 (c : Int)) rfl (by kernel_rfl) (by kernel_rfl) (by kernel_rfl) (fun _ _ _ h => h) (Or.inl ⟨by rfl, fun wx hx => by simp [go_sem]⟩) hS ?_
  simp only [Act.put, List.getElem_toArray, List.getElem_cons_succ, List.getElem_cons_zero, List.setIfInBounds_toArray, List.set_cons_zero, List.set_cons_succ]
  refine wpAnyH_enter 14 (by kernel_rfl) rfl (by rfl) (f := 20) (args := #[.agg (cb x).toArray, .agg (cb y).toArray]) (by simp [go_sem]) (pLess_any x y HX.out HY.out _) ?_
  rintro e wy ⟨rfl, hbq⟩
  refine ⟨_, rfl, hS.more hbq, ?_⟩
  replace hS := hS.more hbq
  clear hbq
  rw [← HL.out]
  simp only [Act.put, List.getElem_toArray, List.getElem_cons_succ, List.getElem_cons_zero, List.setIfInBounds_toArray, List.set_cons_zero, List.set_cons_succ]
  refine wpAnyH_enter 17 (by kernel_rfl) rfl (by rfl) (f := 9) (args := #[.agg (cb y).toArray, .int .i64 (c : Int)]) (by simp [go_sem]) (pBit_any y HY.out _ _) ?_
  rintro e wy ⟨rfl, hbq⟩
  refine ⟨_, rfl, hS.more hbq, ?_⟩
  replace hS := hS.more hbq
  clear hbq
  rw [HBY.out]
  simp only [Act.put, List.getElem_toArray, List.getElem_cons_succ, List.getElem_cons_zero, List.setIfInBounds_toArray, List.set_cons_zero, List.set_cons_succ]
  refine wpAnyH_take (i := 18) (v := .bool false) rfl (by kernel_rfl) (by kernel_rfl) (by kernel_rfl) (fun _ _ _ h => h) (Or.inl ⟨by rfl, fun wx hx => by simp [go_sem]⟩) hS ?_
  simp only [Act.put, List.getElem_toArray, List.getElem_cons_succ, List.getElem_cons_zero, List.setIfInBounds_toArray, List.set_cons_zero, List.set_cons_succ]
  refine wpAnyH_take (i := 19) (v := .bool false) rfl (by kernel_rfl) (by kernel_rfl) (by kernel_rfl) (fun _ _ _ h => h) (Or.inl ⟨by rfl, fun wx hx => by simp [go_sem]⟩) hS ?_
  simp only [Act.put, List.getElem_toArray, List.getElem_cons_succ, List.getElem_cons_zero, List.setIfInBounds_toArray, List.set_cons_zero, List.set_cons_succ]
  refine wpAnyH_take (i := 20) (v := .bool false) rfl (by kernel_rfl) (by kernel_rfl) (by kernel_rfl) (fun _ _ _ h => h) (Or.inl ⟨by rfl, fun wx hx => by simp [go_sem]⟩) hS ?_
  simp only [Act.put, List.getElem_toArray, List.getElem_cons_succ, List.getElem_cons_zero, List.setIfInBounds_toArray, List.set_cons_zero, List.set_cons_succ]
  refine wpAnyH_take (i := 21) (v := .agg (cb x).toArray) rfl (by kernel_rfl) (by kernel_rfl) (by kernel_rfl) (fun _ _ _ h => h) (Or.inl ⟨by rfl, fun wx hx => by exact loadDigest _ g0 x HX.out (Over.blk hx H0.out.drew) rfl rfl⟩) hS ?_
  simp only [Act.put, List.getElem_toArray, List.getElem_cons_succ, List.getElem_cons_zero, List.setIfInBounds_toArray, List.set_cons_zero, List.set_cons_succ]
  refine wpAnyH_take (i := 22) (v := .int .i64 (c : Int)) rfl (by kernel_rfl) (by kernel_rfl) (by kernel_rfl) (fun _ _ _ h => h) (Or.inl ⟨by rfl, fun wx hx => by simp [go_sem]⟩) hS ?_
  simp only [Act.put, List.getElem_toArray, List.getElem_cons_succ, List.getElem_cons_zero, List.setIfInBounds_toArray, List.set_cons_zero, List.set_cons_succ]
  refine wpAnyH_take (i := 24) (v := .agg (cb y).toArray) rfl (by kernel_rfl) (by kernel_rfl) (by kernel_rfl) (fun _ _ _ h => h) (Or.inl ⟨by rfl, fun wx hx => by exact loadDigest _ g1 y HY.out (Over.blk hx H1.out.drew) rfl rfl⟩) hS ?_
  simp only [Act.put, List.getElem_toArray, List.getElem_cons_succ, List.getElem_cons_zero, List.setIfInBounds_toArray, List.set_cons_zero, List.set_cons_succ]
  refine wpAnyH_take (i := 25) (v := .int .i64 (c : Int)) rfl (by kernel_rfl) (by kernel_rfl) (by kernel_rfl) (fun _ _ _ h => h) (Or.inl ⟨by rfl, fun wx hx => by simp [go_sem]⟩) hS ?_
  simp only [Act.put, List.getElem_toArray, List.getElem_cons_succ, List.getElem_cons_zero, List.setIfInBounds_toArray, List.set_cons_zero, List.set_cons_succ]
  refine wpAnyH_enter 23 (by kernel_rfl) rfl (by rfl) (f := 9) (args := #[.agg (cb x).toArray, .int .i64 (c : Int)]) (by simp [go_sem]) (pBit_any x HX.out _ _) ?_
  rintro e wy ⟨rfl, hbq⟩
  refine ⟨_, rfl, hS.more hbq, ?_⟩
  replace hS := hS.more hbq
  clear hbq
  rw [HBX.out]
  simp only [Act.put, List.getElem_toArray, List.getElem_cons_succ, List.getElem_cons_zero, List.setIfInBounds_toArray, List.set_cons_zero, List.set_cons_succ]
  refine wpAnyH_enter 26 (by kernel_rfl) rfl (by rfl) (f := 9) (args := #[.agg (cb y).toArray, .int .i64 (c : Int)]) (by simp [go_sem]) (pBit_any y HY.out _ _) ?_
  rintro e wy ⟨rfl, hbq⟩
  refine ⟨_, rfl, hS.more hbq, ?_⟩
  replace hS := hS.more hbq
  clear hbq
  rw [HBY.out]
  simp only [Act.put, List.getElem_toArray, List.getElem_cons_succ, List.getElem_cons_zero, List.setIfInBounds_toArray, List.set_cons_zero, List.set_cons_succ]
  refine wpAnyH_take (i := 27) (v := .bool false) rfl (by kernel_rfl) (by kernel_rfl) (by kernel_rfl) (fun _ _ _ h => h) (Or.inl ⟨by rfl, fun wx hx => by cases l <;> simp [go_sem]⟩) hS ?_
  simp only [Act.put, List.getElem_toArray, List.getElem_cons_succ, List.getElem_cons_zero, List.setIfInBounds_toArray, List.set_cons_zero, List.set_cons_succ]
  refine wpAnyH_take (i := 28) (v := .bool false) rfl (by kernel_rfl) (by kernel_rfl) (by kernel_rfl) (fun _ _ _ h => h) (Or.inl ⟨by rfl, fun wx hx => by simp [go_sem]⟩) hS ?_
  simp only [Act.put, List.getElem_toArray, List.getElem_cons_succ, List.getElem_cons_zero, List.setIfInBounds_toArray, List.set_cons_zero, List.set_cons_succ]
  refine wpAnyH_take (i := 29) (v := .bool false) rfl (by kernel_rfl) (by kernel_rfl) (by kernel_rfl) (fun _ _ _ h => h) (Or.inl ⟨by rfl, fun wx hx => by simp [go_sem]⟩) hS ?_
  simp only [Act.put, List.getElem_toArray, List.getElem_cons_succ, List.getElem_cons_zero, List.setIfInBounds_toArray, List.set_cons_zero, List.set_cons_succ]
  refine wpAnyH_take (i := 30) (v := .agg (cb x).toArray) rfl (by kernel_rfl) (by kernel_rfl) (by kernel_rfl) (fun _ _ _ h => h) (Or.inl ⟨by rfl, fun wx hx => by exact loadDigest _ g0 x HX.out (Over.blk hx H0.out.drew) rfl rfl⟩) hS ?_
  simp only [Act.put, List.getElem_toArray, List.getElem_cons_succ, List.getElem_cons_zero, List.setIfInBounds_toArray, List.set_cons_zero, List.set_cons_succ]
  refine wpAnyH_take (i := 31) (v := .int .i64 (c : Int)) rfl (by kernel_rfl) (by kernel_rfl) (by kernel_rfl) (fun _ _ _ h => h) (Or.inl ⟨by rfl, fun wx hx => by simp [go_sem]⟩) hS ?_
  simp only [Act.put, List.getElem_toArray, List.getElem_cons_succ, List.getElem_cons_zero, List.setIfInBounds_toArray, List.set_cons_zero, List.set_cons_succ]
  refine wpAnyH_take (i := 33) (v := .agg (cb y).toArray) rfl (by kernel_rfl) (by kernel_rfl) (by kernel_rfl) (fun _ _ _ h => h) (Or.inl ⟨by rfl, fun wx hx => by exact loadDigest _ g1 y HY.out (Over.blk hx H1.out.drew) rfl rfl⟩) hS ?_
  simp only [Act.put, List.getElem_toArray, List.getElem_cons_succ, List.getElem_cons_zero, List.setIfInBounds_toArray, List.set_cons_zero, List.set_cons_succ]
  refine wpAnyH_take (i := 34) (v := .int .i64 (c : Int)) rfl (by kernel_rfl) (by kernel_rfl) (by kernel_rfl) (fun _ _ _ h => h) (Or.inl ⟨by rfl, fun wx hx => by simp [go_sem]⟩) hS ?_
  simp only [Act.put, List.getElem_toArray, List.getElem_cons_succ, List.getElem_cons_zero, List.setIfInBounds_toArray, List.set_cons_zero, List.set_cons_succ]
  refine wpAnyH_enter 32 (by kernel_rfl) rfl (by rfl) (f := 16) (args := #[.agg (cb x).toArray, .int .i64 (c : Int)]) (by simp [go_sem]) (pCut_any x HX.out _ _) ?_
  rintro e wy ⟨k, rfl, hk1, hbq⟩
  refine ⟨_, rfl, hS.more hbq, ?_⟩
  replace hS := hS.more hbq
  clear hbq
  simp only [Act.put, List.getElem_toArray, List.getElem_cons_succ, List.getElem_cons_zero, List.setIfInBounds_toArray, List.set_cons_zero, List.set_cons_succ]
  refine wpAnyH_enter 35 (by kernel_rfl) rfl (by rfl) (f := 16) (args := #[.agg (cb y).toArray, .int .i64 (c : Int)]) (by simp [go_sem]) (pCut_any y HY.out _ _) ?_
  rintro e wy ⟨k2, rfl, hk2, hbq⟩
  refine ⟨_, rfl, hS.more hbq, ?_⟩
  replace hS := hS.more hbq
  clear hbq
  rw [HC.out] at hk1 hk2
  obtain rfl : k = k2 := hk1.common hk2
  have heqk : ∀ w, (Op.equalIn 10000 23 (.agg (cb k).toArray) (.agg (cb k).toArray)).run Try.prog w = .ok true w := fun w => eq_dig_same k hk1.1 w
  clear hk1 hk2
  simp only [Act.put, List.getElem_toArray, List.getElem_cons_succ, List.getElem_cons_zero, List.setIfInBounds_toArray, List.set_cons_zero, List.set_cons_succ]
  refine wpAnyH_take (i := 36) (v := .bool false) rfl (by kernel_rfl) (by kernel_rfl) (by kernel_rfl) (fun _ _ _ h => h) (Or.inl ⟨by rfl, fun wx hx => by simp [go_sem, heqk]⟩) hS ?_
  simp only [Act.put, List.getElem_toArray, List.getElem_cons_succ, List.getElem_cons_zero, List.setIfInBounds_toArray, List.set_cons_zero, List.set_cons_succ]
  refine wpAnyH_take (i := 37) (v := .bool false) rfl (by kernel_rfl) (by kernel_rfl) (by kernel_rfl) (fun _ _ _ h => h) (Or.inl ⟨by rfl, fun wx hx => by simp [go_sem]⟩) hS ?_
  simp only [Act.put, List.getElem_toArray, List.getElem_cons_succ, List.getElem_cons_zero, List.setIfInBounds_toArray, List.set_cons_zero, List.set_cons_succ]
  refine wpAnyH_done (by kernel_rfl) ?_ _
  replace HBW : Hid (Below w.heap.size w wy) := HBW.out.drew.trans (Below.mono hS HBW.out.size)
  replace H0 : Hid (Blk wy g0 (cb x) 23) := hS.blk H0.out.drew
  replace H1 : Hid (Blk wy g1 (cb y) 23) := hS.blk H1.out.drew
  replace H2 : Hid (Blk wy g2 (cb z) 23) := hS.blk H2.out.drew
  clear hS heqk heq HBX HBY HLY HC
  generalize wy = wv at *
  cases l
  · clear HT
    go_wp2_with (first
    | (with_reducible refine wpSeq_loadD (.tmp 3) g0 x ?_ ?_ ?_ ?_ ?_ ?_
       · exact HX.out
       · exact H0.out
       · with_reducible rfl
       · rfl
       · rfl)
    | (with_reducible refine wpSeq_loadD (.tmp 4) g1 y ?_ ?_ ?_ ?_ ?_ ?_
       · exact HY.out
       · exact H1.out
       · with_reducible rfl
       · rfl
       · rfl)
    | (with_reducible refine wpSeq_loadD (.tmp 5) g2 z ?_ ?_ ?_ ?_ ?_ ?_
       · exact HZ.out
       · exact H2.out
       · with_reducible rfl
       · rfl
       · rfl)
    | (go_at_call 20; refine (pLess_any _ _ (by first | exact HX.out | exact HY.out) (by first | exact HY.out | exact HZ.out) _).mono ?_; rintro e wz ⟨rfl, hbz⟩; first | rw [← HL.out] | rw [← HM.out] | rw [← HR.out]
       replace H0 : Hid (Blk wz g0 (cb x) 23) := H0.out.below hbz H0.out.lt
       replace H1 : Hid (Blk wz g1 (cb y) 23) := H1.out.below hbz H1.out.lt
       replace H2 : Hid (Blk wz g2 (cb z) 23) := H2.out.below hbz H2.out.lt
       replace HBW : Hid (Below w.heap.size w wz) := HBW.out.trans (hbz.mono HBW.out.size)
       clear hbz)
    | (go_at_call 12; refine (pworks_any _).mono ?_; rintro e wz ⟨rfl, hbz⟩
       replace H0 : Hid (Blk wz g0 (cb x) 23) := H0.out.below hbz H0.out.lt
       replace H1 : Hid (Blk wz g1 (cb y) 23) := H1.out.below hbz H1.out.lt
       replace H2 : Hid (Blk wz g2 (cb z) 23) := H2.out.below hbz H2.out.lt
       replace HBW : Hid (Below w.heap.size w wz) := HBW.out.trans (hbz.mono HBW.out.size)
       clear hbz))
    go_ret
    exact ⟨rfl, HBW.out⟩
  · cases m
    · clear HT
      go_wp2_with (first
      | (with_reducible refine wpSeq_loadD (.tmp 3) g0 x ?_ ?_ ?_ ?_ ?_ ?_
         · exact HX.out
         · exact H0.out
         · with_reducible rfl
         · rfl
         · rfl)
      | (with_reducible refine wpSeq_loadD (.tmp 4) g1 y ?_ ?_ ?_ ?_ ?_ ?_
         · exact HY.out
         · exact H1.out
         · with_reducible rfl
         · rfl
         · rfl)
      | (with_reducible refine wpSeq_loadD (.tmp 5) g2 z ?_ ?_ ?_ ?_ ?_ ?_
         · exact HZ.out
         · exact H2.out
         · with_reducible rfl
         · rfl
         · rfl)
      | (go_at_call 20; refine (pLess_any _ _ (by first | exact HX.out | exact HY.out) (by first | exact HY.out | exact HZ.out) _).mono ?_; rintro e wz ⟨rfl, hbz⟩; first | rw [← HL.out] | rw [← HM.out] | rw [← HR.out]
         replace H0 : Hid (Blk wz g0 (cb x) 23) := H0.out.below hbz H0.out.lt
         replace H1 : Hid (Blk wz g1 (cb y) 23) := H1.out.below hbz H1.out.lt
         replace H2 : Hid (Blk wz g2 (cb z) 23) := H2.out.below hbz H2.out.lt
         replace HBW : Hid (Below w.heap.size w wz) := HBW.out.trans (hbz.mono HBW.out.size)
         clear hbz)
      | (go_at_call 12; refine (pworks_any _).mono ?_; rintro e wz ⟨rfl, hbz⟩
         replace H0 : Hid (Blk wz g0 (cb x) 23) := H0.out.below hbz H0.out.lt
         replace H1 : Hid (Blk wz g1 (cb y) 23) := H1.out.below hbz H1.out.lt
         replace H2 : Hid (Blk wz g2 (cb z) 23) := H2.out.below hbz H2.out.lt
         replace HBW : Hid (Below w.heap.size w wz) := HBW.out.trans (hbz.mono HBW.out.size)
         clear hbz))
      go_ret
      exact ⟨rfl, HBW.out⟩
    · have hr : r = true := HT.out rfl rfl
      subst hr
      clear HT
      go_wp2_with (first
      | (with_reducible refine wpSeq_loadD (.tmp 3) g0 x ?_ ?_ ?_ ?_ ?_ ?_
         · exact HX.out
         · exact H0.out
         · with_reducible rfl
         · rfl
         · rfl)
      | (with_reducible refine wpSeq_loadD (.tmp 4) g1 y ?_ ?_ ?_ ?_ ?_ ?_
         · exact HY.out
         · exact H1.out
         · with_reducible rfl
         · rfl
         · rfl)
      | (with_reducible refine wpSeq_loadD (.tmp 5) g2 z ?_ ?_ ?_ ?_ ?_ ?_
         · exact HZ.out
         · exact H2.out
         · with_reducible rfl
         · rfl
         · rfl)
      | (go_at_call 20; refine (pLess_any _ _ (by first | exact HX.out | exact HY.out) (by first | exact HY.out | exact HZ.out) _).mono ?_; rintro e wz ⟨rfl, hbz⟩; first | rw [← HL.out] | rw [← HM.out] | rw [← HR.out]
         replace H0 : Hid (Blk wz g0 (cb x) 23) := H0.out.below hbz H0.out.lt
         replace H1 : Hid (Blk wz g1 (cb y) 23) := H1.out.below hbz H1.out.lt
         replace H2 : Hid (Blk wz g2 (cb z) 23) := H2.out.below hbz H2.out.lt
         replace HBW : Hid (Below w.heap.size w wz) := HBW.out.trans (hbz.mono HBW.out.size)
         clear hbz)
      | (go_at_call 12; refine (pworks_any _).mono ?_; rintro e wz ⟨rfl, hbz⟩
         replace H0 : Hid (Blk wz g0 (cb x) 23) := H0.out.below hbz H0.out.lt
         replace H1 : Hid (Blk wz g1 (cb y) 23) := H1.out.below hbz H1.out.lt
         replace H2 : Hid (Blk wz g2 (cb z) 23) := H2.out.below hbz H2.out.lt
         replace HBW : Hid (Below w.heap.size w wz) := HBW.out.trans (hbz.mono HBW.out.size)
         clear hbz))
      go_ret
      exact ⟨rfl, HBW.out⟩
theorem pathOrders_walk (x y z : List (BitVec 8)) (hx : x.length = 32) (hy : y.length = 32) (hz : z.length = 32) (w : World) : Calls Try.prog 7 #[.agg (cb x).toArray, .agg (cb y).toArray, .agg (cb z).toArray] w fun e w' => e = .returned (.bool true) ∧ Below w.heap.size w w' := by
  by_cases h : x = y
  · subst h; exact pathOrders_same x z hx hz w
  · exact pathOrders_apart x y z hx hy hz h w
end Go.Proofs.Ythjkihbobdollaa

/- Texts that the proof leans on, one behind the other: The walk of the statements' works (layer 8). Where the statements of layer 8 stand. The walk of the reference's Put. .. -/
import Derived.Test.YtmmhdchhajmbfaaDoorMgd
import Derived.Test.YtmmhdchhajmbfaaDoorMgc
import Derived.Laws.AppendOwnNone
import Derived.RangeFuncBox
/- The walk of the statements' works (layer 8). -/
namespace Go.Proofs.YtmmhdchhajmbfaaDoor
open Go.RowKit
set_option maxRecDepth 100000
def dgt (b : BitVec 8) : List (BitVec 8) := b :: List.replicate 31 0
theorem dig69_ne : dig [69] ≠ zb32 := by decide +kernel
theorem buildT1 (a : Act) (o : Oper) (ho : o.op = .build 23 #[(0, .const (.int .u8 1))]) (w : World) : (execOp a.eval o).run Tryd.prog w = .ok (.value (.agg (cb (dgt 1)).toArray)) w := by
  unfold execOp
  rw [ho]
  simp only [Act.eval, List.map_toArray, List.map_cons, List.map_nil]
  kernel_rfl
theorem buildW1 (f : Operand → Value) (o : Oper) (p q : Operand) (ho : o.op = .build 26 #[(1, .const (.int .i64 1)), (2, p), (3, q)]) (h0 : f (.const (.int .i64 1)) = .int .i64 1) (hp : f p = .agg (cb (dgt 1)).toArray) (hq : f q = .agg (cb (dgt 1)).toArray) (w : World) : (execOp f o).run Tryd.prog w = .ok (.value (.agg (prfV nilV 1 (dgt 1) (dgt 1)).toArray)) w := by
  unfold execOp
  rw [ho]
  simp only [List.map_toArray, List.map_cons, List.map_nil, h0, hp, hq]
  kernel_rfl
theorem common_self (x : List (BitVec 8)) : common x x = 256 := common_is x x 256 (Nat.le_refl _) (fun _ _ => rfl) (fun h => absurd h (Nat.lt_irrefl _))
theorem check_leaf (x : List (BitVec 8)) : checkW (dig (pairB 76 x x)) x [] 1 x x = some (some x) := by
  unfold checkW
  rw [if_neg, if_pos ⟨rfl, rfl⟩]
  rintro (h | ⟨_, h⟩ | h)
  · simp [rightW] at h
  · simp at h
  · exact h (topL_nil _ _ _)
theorem check_empty (x : List (BitVec 8)) : checkW (dig [69]) x [] 0 zb32 zb32 = some Option.none := by
  unfold checkW
  rw [if_neg, if_neg (fun h => absurd h.1 (by decide))]
  rintro (h | ⟨h, _⟩ | h)
  · simp [rightW] at h
  · exact absurd h (by decide)
  · exact h (topL_nil _ _ _)
theorem check_zero (x : List (BitVec 8)) : checkW zb32 x [] 0 zb32 zb32 = Option.none := by
  unfold checkW
  rw [if_pos (Or.inr (Or.inr (by rw [topL_nil]; exact dig69_ne)))]
/-- where works stands -/
structure Pw (w : World) (g : Nat) (x : List (BitVec 8)) (W : World) : Prop where
  k0 : KOk w
  xb : Blk W g (cb x) 23
  bel : Below w.heap.size w W
theorem Pw.kk {w W : World} {g : Nat} {x : List (BitVec 8)} (h : Pw w g x W) : KOk W := h.k0.below h.bel h.k0.lt
theorem Pw.next {w W W' : World} {g : Nat} {x : List (BitVec 8)} (h : Pw w g x W) (hb : Below W.heap.size W W') : Pw w g x W' :=
  ⟨h.k0, h.xb.below hb h.xb.lt, h.bel.trans (hb.mono h.bel.size)⟩
theorem Pw.set {w W W' : World} {g ga : Nat} {x : List (BitVec 8)} (h : Pw w g x W) (hne : ga ≠ g) (hk : ∀ k, k ≠ ga → W'.heap[k]? = W.heap[k]?) (hb : Below w.heap.size w W') : Pw w g x W' := by
  refine ⟨h.k0, ?_, hb⟩
  have h2 := h.xb
  unfold Blk at *
  rw [hk g (Ne.symm hne)]
  exact h2
theorem readsD_nil (W : World) : ReadsD W nilV [] := ⟨⟨Option.none, 0, rfl, Nat.le_refl _, fun _ => rfl, fun h => absurd h (by simp)⟩, fun _ h => by cases h⟩
set_option maxRecDepth 100000 in
set_option maxHeartbeats 8000000 in
theorem pfworks_any (hP : PfOps) (w : World) (hK : KOk w) : Calls Tryd.prog 9 #[] w fun e w' => e = .returned (.bool true) ∧ Below w.heap.size w w' := by
  have HP : Hid PfOps := hP
  have HK : Hid (KOk w) := hK
  clear hP hK
  obtain ⟨x, HX⟩ : ∃ x, Hid (x = dgt 1) := ⟨_, rfl⟩
  have HXL : Hid (x.length = 32) := by show _ = _; rw [HX.out]; rfl
  obtain ⟨l, HLF⟩ : ∃ r, Hid (r = dig (pairB 76 x x)) := ⟨_, rfl⟩
  obtain ⟨m, HEM⟩ : ∃ r, Hid (r = dig [69]) := ⟨_, rfl⟩
  have HLL : Hid (l.length = 32) := by show _ = _; rw [HLF.out]; exact len_dig' _
  have HML : Hid (m.length = 32) := by show _ = _; rw [HEM.out]; exact len_dig' _
  obtain ⟨p1, HP1⟩ : ∃ c, Hid (c = prfV nilV 1 x x) := ⟨_, rfl⟩
  obtain ⟨p0, HP0⟩ : ∃ c, Hid (c = prfV nilV 0 zb32 zb32) := ⟨_, rfl⟩
  have HCL : Hid (∀ W, Calls Tryd.prog 23 #[.agg (cb x).toArray, .agg (cb x).toArray] W fun e w' => e = .returned (.agg (cb l).toArray) ∧ Below W.heap.size W w') := fun W => by rw [HLF.out]; exact hLeaf_any x x HXL.out HXL.out W
  have HCE : Hid (∀ W, Calls Tryd.prog 24 #[] W fun e w' => e = .returned (.agg (cb m).toArray) ∧ Below W.heap.size W w') := fun W => by rw [HEM.out]; exact hEmpty_any W
  have HC1 : Hid (∀ W, KOk W → Calls Tryd.prog 15 #[.agg (cb l).toArray, .agg (cb x).toArray, .agg p1.toArray] W fun e w' => e = .returned (.tuple #[.agg (cb x).toArray, .bool true, .int .i64 0]) ∧ Below W.heap.size W w') := fun W hk => by
    have h := HP.out.check W l x nilV [] 1 x x hk HLL.out HXL.out HXL.out HXL.out (readsD_nil W) (by simp)
    rw [HLF.out, check_leaf, ← HLF.out, ← HP1.out] at h
    exact h
  have HC2 : Hid (∀ W, KOk W → Calls Tryd.prog 15 #[.agg (cb zb32).toArray, .agg (cb x).toArray, .agg p0.toArray] W fun e w' => e = .returned (.tuple #[.agg (cb zb32).toArray, .bool false, .int .i64 15]) ∧ Below W.heap.size W w') := fun W hk => by
    have h := HP.out.check W zb32 x nilV [] 0 zb32 zb32 hk rfl HXL.out rfl rfl (readsD_nil W) (by simp)
    rw [check_zero, ← HP0.out] at h
    exact h
  have HC3 : Hid (∀ W, KOk W → Calls Tryd.prog 15 #[.agg (cb m).toArray, .agg (cb x).toArray, .agg p0.toArray] W fun e w' => e = .returned (.tuple #[.agg (cb zb32).toArray, .bool false, .int .i64 0]) ∧ Below W.heap.size W w') := fun W hk => by
    have h := HP.out.check W m x nilV [] 0 zb32 zb32 hk HML.out HXL.out rfl rfl (readsD_nil W) (by simp)
    rw [HEM.out, check_empty, ← HEM.out, ← HP0.out] at h
    exact h
  have q1 : ∀ wx : World, (Op.equalIn 10000 23 (.agg (cb x).toArray) (.agg (cb x).toArray)).run Tryd.prog wx = .ok true wx := fun wx => eq_dig_same x HXL.out wx
  go_enter Tryd.func9, Tryd.ntmps9
  go_upto_region 2 with (first
    | (refine wpSeq_val _ _ (by rfl) (buildT1 _ _ rfl _) ?_; rw [← HX.out])
    | (with_reducible refine wpSeq_allocD ?_ ?_ ?_
       · rfl
       · rfl
       intro g1 w1 nn1)
    | (with_reducible refine wpSeq_storeD (.tmp 1) (.tmp 11) g1 zb32 x ?_ ?_ ?_ ?_ ?_ ?_ ?_ ?_
       · rfl
       · exact HXL.out
       · exact nn1.blk
       · rfl
       · rfl
       · rfl
       · rfl
       intro w2 h2
       have HI : Hid (Pw w g1 x w2) := ⟨HK.out, (nn1.set h2).blk, (nn1.set h2).below⟩
       clear nn1 h2 HK))
  simp only [Act.put, List.setIfInBounds_toArray, List.set_cons_zero, List.set_cons_succ]
  go_cut [2, 3, 4] from 12 to 23 (fun a b c W => ∃ g2, a = .pointer (some ⟨g2, 0, none⟩) ∧ b = .bool true ∧ c = .int .i64 0 ∧ Pw w g1 x W ∧ Blk W g2 (cb x) 23)
  case first =>
    refine wp_region_held_drew (S := Pw w g1 x) (by kernel_rfl) (HI.out.next (Below.refl _ _).drew) ?_
    intro hS
    change wpAnyH _ _ _ _ _ _ _ _ (World.drew w2)
    clear HI
    generalize World.drew w2 = y0 at *
    refine wpAnyH_take (i := 0) (v := .agg (cb x).toArray) rfl (by kernel_rfl) (by kernel_rfl) (by kernel_rfl) (fun _ _ _ h => h) (Or.inl ⟨by rfl, fun wx hx => by exact loadDigest _ g1 x HXL.out hx.xb rfl rfl⟩) hS ?_
    simp only [Act.put, List.getElem_toArray, List.getElem_cons_zero, List.setIfInBounds_toArray, List.set_cons_zero, List.set_cons_succ]
    refine wpAnyH_take (i := 1) (v := .agg (cb x).toArray) rfl (by kernel_rfl) (by kernel_rfl) (by kernel_rfl) (fun _ _ _ h => h) (Or.inl ⟨by rfl, fun wx hx => by exact loadDigest _ g1 x HXL.out hx.xb rfl rfl⟩) hS ?_
    simp only [Act.put, List.getElem_toArray, List.getElem_cons_succ, List.getElem_cons_zero, List.setIfInBounds_toArray, List.set_cons_zero, List.set_cons_succ]
    refine wpAnyH_take (i := 3) (v := .agg (cb x).toArray) rfl (by kernel_rfl) (by kernel_rfl) (by kernel_rfl) (fun _ _ _ h => h) (Or.inl ⟨by rfl, fun wx hx => by exact loadDigest _ g1 x HXL.out hx.xb rfl rfl⟩) hS ?_
    simp only [Act.put, List.getElem_toArray, List.getElem_cons_succ, List.getElem_cons_zero, List.setIfInBounds_toArray, List.set_cons_zero, List.set_cons_succ]
    refine wpAnyH_take (i := 4) (v := .agg (cb x).toArray) rfl (by kernel_rfl) (by kernel_rfl) (by kernel_rfl) (fun _ _ _ h => h) (Or.inl ⟨by rfl, fun wx hx => by exact loadDigest _ g1 x HXL.out hx.xb rfl rfl⟩) hS ?_
    simp only [Act.put, List.getElem_toArray, List.getElem_cons_succ, List.getElem_cons_zero, List.setIfInBounds_toArray, List.set_cons_zero, List.set_cons_succ]
    refine wpAnyH_take (i := 5) (v := .agg (cb x).toArray) rfl (by kernel_rfl) (by kernel_rfl) (by kernel_rfl) (fun _ _ _ h => h) (Or.inl ⟨by rfl, fun wx hx => by exact loadDigest _ g1 x HXL.out hx.xb rfl rfl⟩) hS ?_
    simp only [Act.put, List.getElem_toArray, List.getElem_cons_succ, List.getElem_cons_zero, List.setIfInBounds_toArray, List.set_cons_zero, List.set_cons_succ]
    refine wpAnyH_take (i := 6) (v := .agg p1.toArray) rfl (by kernel_rfl) (by kernel_rfl) (by kernel_rfl) (fun _ _ _ h => h) (Or.inl ⟨by rfl, fun wx hx => by (rw [HP1.out, HX.out]; exact buildW1 _ _ _ _ rfl rfl (by rw [← HX.out]; rfl) (by rw [← HX.out]; rfl) _)⟩) hS ?_
    simp only [Act.put, List.getElem_toArray, List.getElem_cons_succ, List.getElem_cons_zero, List.setIfInBounds_toArray, List.set_cons_zero, List.set_cons_succ]
    refine wpAnyH_pair 2 12 (by kernel_rfl) ?_ ?_
    · skip
      refine wpOp_en 2 (by rfl) (by rfl) (f := 23) (args := #[.agg (cb x).toArray, .agg (cb x).toArray]) (by simp [go_sem]) (HCL.out _) ?_
      rintro e z1 ⟨rfl, hb⟩
      replace hS := hS.next hb
      refine ⟨_, rfl, hS, ?_⟩
      clear hb
      simp only [Act.put, List.getElem_toArray, List.getElem_cons_succ, List.getElem_cons_zero, List.setIfInBounds_toArray, List.set_cons_zero, List.set_cons_succ]
      refine wpAnyH_pair 7 12 (by kernel_rfl) ?_ ?_
      · skip
        refine wpOp_en 7 (by rfl) (by rfl) (f := 15) (args := #[.agg (cb l).toArray, .agg (cb x).toArray, .agg p1.toArray]) (by simp [go_sem]) (HC1.out _ hS.kk) ?_
        rintro e z2 ⟨rfl, hb⟩
        replace hS := hS.next hb
        refine ⟨_, rfl, hS, ?_⟩
        clear hb
        simp only [Act.put, List.getElem_toArray, List.getElem_cons_succ, List.getElem_cons_zero, List.setIfInBounds_toArray, List.set_cons_zero, List.set_cons_succ]
        refine wpAnyH_take (i := 8) (v := .tuple #[.agg (cb x).toArray, .bool true, .int .i64 0]) rfl (by kernel_rfl) (by kernel_rfl) (by kernel_rfl) (fun _ _ _ h => h) (Or.inl ⟨by rfl, fun wx hx => by simp [go_sem]⟩) hS ?_
        simp only [Act.put, List.getElem_toArray, List.getElem_cons_succ, List.getElem_cons_zero, List.setIfInBounds_toArray, List.set_cons_zero, List.set_cons_succ]
        refine wpAnyH_take (i := 9) (v := .agg (cb x).toArray) rfl (by kernel_rfl) (by kernel_rfl) (by kernel_rfl) (fun _ _ _ h => h) (Or.inl ⟨by rfl, fun wx hx => by simp [go_sem]⟩) hS ?_
        simp only [Act.put, List.getElem_toArray, List.getElem_cons_succ, List.getElem_cons_zero, List.setIfInBounds_toArray, List.set_cons_zero, List.set_cons_succ]
        refine wpAnyH_take (i := 10) (v := .bool true) rfl (by kernel_rfl) (by kernel_rfl) (by kernel_rfl) (fun _ _ _ h => h) (Or.inl ⟨by rfl, fun wx hx => by simp [go_sem]⟩) hS ?_
        simp only [Act.put, List.getElem_toArray, List.getElem_cons_succ, List.getElem_cons_zero, List.setIfInBounds_toArray, List.set_cons_zero, List.set_cons_succ]
        refine wpAnyH_take (i := 11) (v := .int .i64 0) rfl (by kernel_rfl) (by kernel_rfl) (by kernel_rfl) (fun _ _ _ h => h) (Or.inl ⟨by rfl, fun wx hx => by simp [go_sem]⟩) hS ?_
        simp only [Act.put, List.getElem_toArray, List.getElem_cons_succ, List.getElem_cons_zero, List.setIfInBounds_toArray, List.set_cons_zero, List.set_cons_succ]
        have hb := below_alloc z2 (.cells (cb zb32).toArray 23)
        have hnew : Blk (z2.alloc (.cells (cb zb32).toArray 23)) z2.heap.size (cb zb32) 23 := Blk.new _ _ _
        have hgw : w.heap.size ≤ z2.heap.size := hS.bel.size
        have hne : z2.heap.size ≠ g1 := Nat.ne_of_gt hS.xb.lt
        replace hS := hS.next hb
        refine wpAnyH_step 12 (.pointer (some ⟨z2.heap.size, 0, none⟩)) (z2.alloc (.cells (cb zb32).toArray 23)) (by kernel_rfl) rfl (by rfl) (allocDigest _ _ rfl _) hS ?_
        simp only [Act.put, List.getElem_toArray, List.getElem_cons_succ, List.getElem_cons_zero, List.setIfInBounds_toArray, List.set_cons_zero, List.set_cons_succ]
        clear hb
        have hba := hnew
        clear hnew
        generalize z2.alloc (.cells (cb zb32).toArray 23) = z3 at *
        obtain ⟨ga, HGA⟩ : ∃ z, Hid (z = z2.heap.size) := ⟨_, rfl⟩
        rw [← HGA.out] at hba hgw hne ⊢
        clear HGA
        refine wpAnyH_law 13 (by kernel_rfl) rfl (by rfl) (wp_store_mid 23 _ _ rfl ga 0 (cb x).toArray rfl rfl (hba.there 0 _ (by rw [List.size_toArray, cb_len, cb_len, HXL.out]; decide)) (by rw [List.size_toArray, cb_len, HXL.out]; exact info_digest) (all_oneCell_toArray (cb_one x)) ?_)
        rw [List.toList_toArray]
        have hk9 : ∀ k, k ≠ ga → (z3.setCells ga 0 (cb x)).heap[k]? = z3.heap[k]? := At'.setCells _ _ _ (fun _ _ => rfl)
        have hb9 := hba.whole (cb x) (by rw [cb_len, cb_len, HXL.out]; rfl)
        have hS9 : Pw w g1 x (z3.setCells ga 0 (cb x)) := hS.set hne hk9 (Below.setCells _ hgw _ _ _ hS.bel)
        refine ⟨hS9, ?_⟩
        simp only [Act.put, List.getElem_toArray, List.getElem_cons_succ, List.getElem_cons_zero]
        generalize z3.setCells ga 0 (cb x) = wE at *
        refine wpAnyH_take (i := 14) (v := .bool true) rfl (by kernel_rfl) (by kernel_rfl) (by kernel_rfl) (fun _ _ _ h => h) (Or.inl ⟨by rfl, fun wx hx => by simp [go_sem]⟩) hS9 ?_
        simp only [Act.put, List.getElem_toArray, List.getElem_cons_succ, List.getElem_cons_zero, List.setIfInBounds_toArray, List.set_cons_zero, List.set_cons_succ]
        refine wpAnyH_take (i := 15) (v := .int .i64 0) rfl (by kernel_rfl) (by kernel_rfl) (by kernel_rfl) (fun _ _ _ h => h) (Or.inl ⟨by rfl, fun wx hx => by simp [go_sem]⟩) hS9 ?_
        simp only [Act.put, List.getElem_toArray, List.getElem_cons_succ, List.getElem_cons_zero, List.setIfInBounds_toArray, List.set_cons_zero, List.set_cons_succ]
        refine wpAnyH_done (by kernel_rfl) ?_ _
        clear hk9 hS hba
        go_wp2
        go_meet
        case rel => exact ⟨ga, rfl, rfl, rfl, hS9, hb9⟩
      · skip
        have hb := below_alloc z1 (.cells (cb zb32).toArray 23)
        have hnew : Blk (z1.alloc (.cells (cb zb32).toArray 23)) z1.heap.size (cb zb32) 23 := Blk.new _ _ _
        have hgw : w.heap.size ≤ z1.heap.size := hS.bel.size
        have hne : z1.heap.size ≠ g1 := Nat.ne_of_gt hS.xb.lt
        replace hS := hS.next hb
        refine wpOp_vl 12 (.pointer (some ⟨z1.heap.size, 0, none⟩)) (z1.alloc (.cells (cb zb32).toArray 23)) (by rfl) (by rfl) (allocDigest _ _ rfl _) ⟨hS, ?_⟩
        simp only [Act.put, List.getElem_toArray, List.getElem_cons_succ, List.getElem_cons_zero, List.setIfInBounds_toArray, List.set_cons_zero, List.set_cons_succ]
        clear hb
        have hba := hnew
        clear hnew
        generalize z1.alloc (.cells (cb zb32).toArray 23) = z4 at *
        obtain ⟨ga, HGA⟩ : ∃ z, Hid (z = z1.heap.size) := ⟨_, rfl⟩
        rw [← HGA.out] at hba hgw hne ⊢
        clear HGA
        refine wpAnyH_enter 7 (by kernel_rfl) rfl (by rfl) (f := 15) (args := #[.agg (cb l).toArray, .agg (cb x).toArray, .agg p1.toArray]) (by simp [go_sem]) (HC1.out _ hS.kk) ?_
        rintro e z5 ⟨rfl, hb⟩
        replace hS := hS.next hb
        replace hba := hba.below hb hba.lt
        refine ⟨_, rfl, hS, ?_⟩
        clear hb
        simp only [Act.put, List.getElem_toArray, List.getElem_cons_succ, List.getElem_cons_zero, List.setIfInBounds_toArray, List.set_cons_zero, List.set_cons_succ]
        refine wpAnyH_take (i := 8) (v := .tuple #[.agg (cb x).toArray, .bool true, .int .i64 0]) rfl (by kernel_rfl) (by kernel_rfl) (by kernel_rfl) (fun _ _ _ h => h) (Or.inl ⟨by rfl, fun wx hx => by simp [go_sem]⟩) hS ?_
        simp only [Act.put, List.getElem_toArray, List.getElem_cons_succ, List.getElem_cons_zero, List.setIfInBounds_toArray, List.set_cons_zero, List.set_cons_succ]
        refine wpAnyH_take (i := 9) (v := .agg (cb x).toArray) rfl (by kernel_rfl) (by kernel_rfl) (by kernel_rfl) (fun _ _ _ h => h) (Or.inl ⟨by rfl, fun wx hx => by simp [go_sem]⟩) hS ?_
        simp only [Act.put, List.getElem_toArray, List.getElem_cons_succ, List.getElem_cons_zero, List.setIfInBounds_toArray, List.set_cons_zero, List.set_cons_succ]
        refine wpAnyH_take (i := 10) (v := .bool true) rfl (by kernel_rfl) (by kernel_rfl) (by kernel_rfl) (fun _ _ _ h => h) (Or.inl ⟨by rfl, fun wx hx => by simp [go_sem]⟩) hS ?_
        simp only [Act.put, List.getElem_toArray, List.getElem_cons_succ, List.getElem_cons_zero, List.setIfInBounds_toArray, List.set_cons_zero, List.set_cons_succ]
        refine wpAnyH_take (i := 11) (v := .int .i64 0) rfl (by kernel_rfl) (by kernel_rfl) (by kernel_rfl) (fun _ _ _ h => h) (Or.inl ⟨by rfl, fun wx hx => by simp [go_sem]⟩) hS ?_
        simp only [Act.put, List.getElem_toArray, List.getElem_cons_succ, List.getElem_cons_zero, List.setIfInBounds_toArray, List.set_cons_zero, List.set_cons_succ]
        refine wpAnyH_law 13 (by kernel_rfl) rfl (by rfl) (wp_store_mid 23 _ _ rfl ga 0 (cb x).toArray rfl rfl (hba.there 0 _ (by rw [List.size_toArray, cb_len, cb_len, HXL.out]; decide)) (by rw [List.size_toArray, cb_len, HXL.out]; exact info_digest) (all_oneCell_toArray (cb_one x)) ?_)
        rw [List.toList_toArray]
        have hk9 : ∀ k, k ≠ ga → (z5.setCells ga 0 (cb x)).heap[k]? = z5.heap[k]? := At'.setCells _ _ _ (fun _ _ => rfl)
        have hb9 := hba.whole (cb x) (by rw [cb_len, cb_len, HXL.out]; rfl)
        have hS9 : Pw w g1 x (z5.setCells ga 0 (cb x)) := hS.set hne hk9 (Below.setCells _ hgw _ _ _ hS.bel)
        refine ⟨hS9, ?_⟩
        simp only [Act.put, List.getElem_toArray, List.getElem_cons_succ, List.getElem_cons_zero]
        generalize z5.setCells ga 0 (cb x) = wE at *
        refine wpAnyH_take (i := 14) (v := .bool true) rfl (by kernel_rfl) (by kernel_rfl) (by kernel_rfl) (fun _ _ _ h => h) (Or.inl ⟨by rfl, fun wx hx => by simp [go_sem]⟩) hS9 ?_
        simp only [Act.put, List.getElem_toArray, List.getElem_cons_succ, List.getElem_cons_zero, List.setIfInBounds_toArray, List.set_cons_zero, List.set_cons_succ]
        refine wpAnyH_take (i := 15) (v := .int .i64 0) rfl (by kernel_rfl) (by kernel_rfl) (by kernel_rfl) (fun _ _ _ h => h) (Or.inl ⟨by rfl, fun wx hx => by simp [go_sem]⟩) hS9 ?_
        simp only [Act.put, List.getElem_toArray, List.getElem_cons_succ, List.getElem_cons_zero, List.setIfInBounds_toArray, List.set_cons_zero, List.set_cons_succ]
        refine wpAnyH_done (by kernel_rfl) ?_ _
        clear hk9 hS hba
        go_wp2
        go_meet
        case rel => exact ⟨ga, rfl, rfl, rfl, hS9, hb9⟩
    · skip
      have hb := below_alloc y0 (.cells (cb zb32).toArray 23)
      have hnew : Blk (y0.alloc (.cells (cb zb32).toArray 23)) y0.heap.size (cb zb32) 23 := Blk.new _ _ _
      have hgw : w.heap.size ≤ y0.heap.size := hS.bel.size
      have hne : y0.heap.size ≠ g1 := Nat.ne_of_gt hS.xb.lt
      replace hS := hS.next hb
      refine wpOp_vl 12 (.pointer (some ⟨y0.heap.size, 0, none⟩)) (y0.alloc (.cells (cb zb32).toArray 23)) (by rfl) (by rfl) (allocDigest _ _ rfl _) ⟨hS, ?_⟩
      simp only [Act.put, List.getElem_toArray, List.getElem_cons_succ, List.getElem_cons_zero, List.setIfInBounds_toArray, List.set_cons_zero, List.set_cons_succ]
      clear hb
      have hba := hnew
      clear hnew
      generalize y0.alloc (.cells (cb zb32).toArray 23) = z6 at *
      obtain ⟨ga, HGA⟩ : ∃ z, Hid (z = y0.heap.size) := ⟨_, rfl⟩
      rw [← HGA.out] at hba hgw hne ⊢
      clear HGA
      refine wpAnyH_enter 2 (by kernel_rfl) rfl (by rfl) (f := 23) (args := #[.agg (cb x).toArray, .agg (cb x).toArray]) (by simp [go_sem]) (HCL.out _) ?_
      rintro e z7 ⟨rfl, hb⟩
      replace hS := hS.next hb
      replace hba := hba.below hb hba.lt
      refine ⟨_, rfl, hS, ?_⟩
      clear hb
      simp only [Act.put, List.getElem_toArray, List.getElem_cons_succ, List.getElem_cons_zero, List.setIfInBounds_toArray, List.set_cons_zero, List.set_cons_succ]
      refine wpAnyH_enter 7 (by kernel_rfl) rfl (by rfl) (f := 15) (args := #[.agg (cb l).toArray, .agg (cb x).toArray, .agg p1.toArray]) (by simp [go_sem]) (HC1.out _ hS.kk) ?_
      rintro e z8 ⟨rfl, hb⟩
      replace hS := hS.next hb
      replace hba := hba.below hb hba.lt
      refine ⟨_, rfl, hS, ?_⟩
      clear hb
      simp only [Act.put, List.getElem_toArray, List.getElem_cons_succ, List.getElem_cons_zero, List.setIfInBounds_toArray, List.set_cons_zero, List.set_cons_succ]
      refine wpAnyH_take (i := 8) (v := .tuple #[.agg (cb x).toArray, .bool true, .int .i64 0]) rfl (by kernel_rfl) (by kernel_rfl) (by kernel_rfl) (fun _ _ _ h => h) (Or.inl ⟨by rfl, fun wx hx => by simp [go_sem]⟩) hS ?_
      simp only [Act.put, List.getElem_toArray, List.getElem_cons_succ, List.getElem_cons_zero, List.setIfInBounds_toArray, List.set_cons_zero, List.set_cons_succ]
      refine wpAnyH_take (i := 9) (v := .agg (cb x).toArray) rfl (by kernel_rfl) (by kernel_rfl) (by kernel_rfl) (fun _ _ _ h => h) (Or.inl ⟨by rfl, fun wx hx => by simp [go_sem]⟩) hS ?_
      simp only [Act.put, List.getElem_toArray, List.getElem_cons_succ, List.getElem_cons_zero, List.setIfInBounds_toArray, List.set_cons_zero, List.set_cons_succ]
      refine wpAnyH_take (i := 10) (v := .bool true) rfl (by kernel_rfl) (by kernel_rfl) (by kernel_rfl) (fun _ _ _ h => h) (Or.inl ⟨by rfl, fun wx hx => by simp [go_sem]⟩) hS ?_
      simp only [Act.put, List.getElem_toArray, List.getElem_cons_succ, List.getElem_cons_zero, List.setIfInBounds_toArray, List.set_cons_zero, List.set_cons_succ]
      refine wpAnyH_take (i := 11) (v := .int .i64 0) rfl (by kernel_rfl) (by kernel_rfl) (by kernel_rfl) (fun _ _ _ h => h) (Or.inl ⟨by rfl, fun wx hx => by simp [go_sem]⟩) hS ?_
      simp only [Act.put, List.getElem_toArray, List.getElem_cons_succ, List.getElem_cons_zero, List.setIfInBounds_toArray, List.set_cons_zero, List.set_cons_succ]
      refine wpAnyH_law 13 (by kernel_rfl) rfl (by rfl) (wp_store_mid 23 _ _ rfl ga 0 (cb x).toArray rfl rfl (hba.there 0 _ (by rw [List.size_toArray, cb_len, cb_len, HXL.out]; decide)) (by rw [List.size_toArray, cb_len, HXL.out]; exact info_digest) (all_oneCell_toArray (cb_one x)) ?_)
      rw [List.toList_toArray]
      have hk9 : ∀ k, k ≠ ga → (z8.setCells ga 0 (cb x)).heap[k]? = z8.heap[k]? := At'.setCells _ _ _ (fun _ _ => rfl)
      have hb9 := hba.whole (cb x) (by rw [cb_len, cb_len, HXL.out]; rfl)
      have hS9 : Pw w g1 x (z8.setCells ga 0 (cb x)) := hS.set hne hk9 (Below.setCells _ hgw _ _ _ hS.bel)
      refine ⟨hS9, ?_⟩
      simp only [Act.put, List.getElem_toArray, List.getElem_cons_succ, List.getElem_cons_zero]
      generalize z8.setCells ga 0 (cb x) = wE at *
      refine wpAnyH_take (i := 14) (v := .bool true) rfl (by kernel_rfl) (by kernel_rfl) (by kernel_rfl) (fun _ _ _ h => h) (Or.inl ⟨by rfl, fun wx hx => by simp [go_sem]⟩) hS9 ?_
      simp only [Act.put, List.getElem_toArray, List.getElem_cons_succ, List.getElem_cons_zero, List.setIfInBounds_toArray, List.set_cons_zero, List.set_cons_succ]
      refine wpAnyH_take (i := 15) (v := .int .i64 0) rfl (by kernel_rfl) (by kernel_rfl) (by kernel_rfl) (fun _ _ _ h => h) (Or.inl ⟨by rfl, fun wx hx => by simp [go_sem]⟩) hS9 ?_
      simp only [Act.put, List.getElem_toArray, List.getElem_cons_succ, List.getElem_cons_zero, List.setIfInBounds_toArray, List.set_cons_zero, List.set_cons_succ]
      refine wpAnyH_done (by kernel_rfl) ?_ _
      clear hk9 hS hba
      go_wp2
      go_meet
      case rel => exact ⟨ga, rfl, rfl, rfl, hS9, hb9⟩
  case rest =>
    clear HI
    obtain ⟨g2, rfl, rfl, rfl, hI, hk2⟩ := hcut
    have HI : Hid (Pw w g1 x wc) := hI
    have HK2 : Hid (Blk wc g2 (cb x) 23) := hk2
    clear hI hk2
    go_upto_region 4 with (first
      | (with_reducible refine wpSeq_buildZ0 ?_ ?_ ?_
         · rfl
         · rfl
         skip)
      | (with_reducible refine wpSeq_loadD (.tmp 1) g1 x ?_ ?_ ?_ ?_ ?_ ?_
         · exact HXL.out
         · exact HI.out.xb
         · with_reducible rfl
         · rfl
         · rfl)
      | (with_reducible refine wpSeq_buildP ?_ ?_ HP0.out ?_
         · rfl
         · rfl
         skip)
      | (go_at_call 15; refine (HC2.out _ HI.out.kk).mono ?_; rintro e w4 ⟨rfl, hb4⟩
         replace HI : Hid (Pw w g1 x w4) := HI.out.next hb4
         replace HK2 : Hid (Blk w4 g2 (cb x) 23) := HK2.out.below hb4 HK2.out.lt
         clear hb4)
      | (with_reducible refine wpSeq_allocD ?_ ?_ ?_
         · rfl
         · rfl
         intro g5 w5 nn5)
      | (with_reducible refine wpSeq_storeD (.tmp 5) (.tmp 29) g5 zb32 zb32 ?_ ?_ ?_ ?_ ?_ ?_ ?_ ?_
         · rfl
         · rfl
         · exact nn5.blk
         · rfl
         · rfl
         · rfl
         · rfl
         intro w6 h6
         replace HI : Hid (Pw w g1 x w6) := HI.out.next (nn5.set h6).below
         replace HK2 : Hid (Blk w6 g2 (cb x) 23) := HK2.out.below (nn5.set h6).below HK2.out.lt
         clear nn5 h6))
    go_cut [8, 9, 10] from 32 to 39 (fun a b c W => ∃ g8, a = .pointer (some ⟨g8, 0, none⟩) ∧ b = .bool false ∧ c = .int .i64 0 ∧ Pw w g1 x W ∧ Blk W g8 (cb zb32) 23 ∧ Blk W g2 (cb x) 23)
    case first =>
      refine wp_region_held_drew (S := Pw w g1 x) (by kernel_rfl) (HI.out.next (Below.refl _ _).drew) ?_
      intro hS
      have hk2 : Blk (World.drew w6) g2 (cb x) 23 := HK2.out
      change wpAnyH _ _ _ _ _ _ _ _ (World.drew w6)
      clear HI HK2
      generalize World.drew w6 = y0 at *
      refine wpAnyH_take (i := 1) (v := .agg (cb x).toArray) rfl (by kernel_rfl) (by kernel_rfl) (by kernel_rfl) (fun _ _ _ h => h) (Or.inl ⟨by rfl, fun wx hx => by exact loadDigest _ g1 x HXL.out hx.xb rfl rfl⟩) hS ?_
      simp only [Act.put, List.getElem_toArray, List.getElem_cons_succ, List.getElem_cons_zero, List.setIfInBounds_toArray, List.set_cons_zero, List.set_cons_succ]
      refine wpAnyH_take (i := 2) (v := .agg p0.toArray) rfl (by kernel_rfl) (by kernel_rfl) (by kernel_rfl) (fun _ _ _ h => h) (Or.inl ⟨by rfl, fun wx hx => by (rw [HP0.out]; exact buildPrf _ _ rfl _)⟩) hS ?_
      simp only [Act.put, List.getElem_toArray, List.getElem_cons_succ, List.getElem_cons_zero, List.setIfInBounds_toArray, List.set_cons_zero, List.set_cons_succ]
      refine wpAnyH_pair 0 8 (by kernel_rfl) ?_ ?_
      · skip
        refine wpOp_en 0 (by rfl) (by rfl) (f := 24) (args := #[]) (by simp [go_sem]) (HCE.out _) ?_
        rintro e z1 ⟨rfl, hb⟩
        replace hS := hS.next hb
        replace hk2 := hk2.below hb hk2.lt
        refine ⟨_, rfl, hS, ?_⟩
        clear hb
        simp only [Act.put, List.getElem_toArray, List.getElem_cons_zero, List.setIfInBounds_toArray, List.set_cons_zero, List.set_cons_succ]
        refine wpAnyH_pair 3 8 (by kernel_rfl) ?_ ?_
        · skip
          refine wpOp_en 3 (by rfl) (by rfl) (f := 15) (args := #[.agg (cb m).toArray, .agg (cb x).toArray, .agg p0.toArray]) (by simp [go_sem]) (HC3.out _ hS.kk) ?_
          rintro e z2 ⟨rfl, hb⟩
          replace hS := hS.next hb
          replace hk2 := hk2.below hb hk2.lt
          refine ⟨_, rfl, hS, ?_⟩
          clear hb
          simp only [Act.put, List.getElem_toArray, List.getElem_cons_succ, List.getElem_cons_zero, List.setIfInBounds_toArray, List.set_cons_zero, List.set_cons_succ]
          refine wpAnyH_take (i := 4) (v := .tuple #[.agg (cb zb32).toArray, .bool false, .int .i64 0]) rfl (by kernel_rfl) (by kernel_rfl) (by kernel_rfl) (fun _ _ _ h => h) (Or.inl ⟨by rfl, fun wx hx => by simp [go_sem]⟩) hS ?_
          simp only [Act.put, List.getElem_toArray, List.getElem_cons_succ, List.getElem_cons_zero, List.setIfInBounds_toArray, List.set_cons_zero, List.set_cons_succ]
          refine wpAnyH_take (i := 5) (v := .agg (cb zb32).toArray) rfl (by kernel_rfl) (by kernel_rfl) (by kernel_rfl) (fun _ _ _ h => h) (Or.inl ⟨by rfl, fun wx hx => by simp [go_sem]⟩) hS ?_
          simp only [Act.put, List.getElem_toArray, List.getElem_cons_succ, List.getElem_cons_zero, List.setIfInBounds_toArray, List.set_cons_zero, List.set_cons_succ]
          refine wpAnyH_take (i := 6) (v := .bool false) rfl (by kernel_rfl) (by kernel_rfl) (by kernel_rfl) (fun _ _ _ h => h) (Or.inl ⟨by rfl, fun wx hx => by simp [go_sem]⟩) hS ?_
          simp only [Act.put, List.getElem_toArray, List.getElem_cons_succ, List.getElem_cons_zero, List.setIfInBounds_toArray, List.set_cons_zero, List.set_cons_succ]
          refine wpAnyH_take (i := 7) (v := .int .i64 0) rfl (by kernel_rfl) (by kernel_rfl) (by kernel_rfl) (fun _ _ _ h => h) (Or.inl ⟨by rfl, fun wx hx => by simp [go_sem]⟩) hS ?_
          simp only [Act.put, List.getElem_toArray, List.getElem_cons_succ, List.getElem_cons_zero, List.setIfInBounds_toArray, List.set_cons_zero, List.set_cons_succ]
          have hb := below_alloc z2 (.cells (cb zb32).toArray 23)
          have hnew : Blk (z2.alloc (.cells (cb zb32).toArray 23)) z2.heap.size (cb zb32) 23 := Blk.new _ _ _
          have hgw : w.heap.size ≤ z2.heap.size := hS.bel.size
          have hne : z2.heap.size ≠ g1 := Nat.ne_of_gt hS.xb.lt
          have hnk : z2.heap.size ≠ g2 := Nat.ne_of_gt hk2.lt
          replace hk2 := hk2.below hb hk2.lt
          replace hS := hS.next hb
          refine wpAnyH_step 8 (.pointer (some ⟨z2.heap.size, 0, none⟩)) (z2.alloc (.cells (cb zb32).toArray 23)) (by kernel_rfl) rfl (by rfl) (allocDigest _ _ rfl _) hS ?_
          simp only [Act.put, List.getElem_toArray, List.getElem_cons_succ, List.getElem_cons_zero, List.setIfInBounds_toArray, List.set_cons_zero, List.set_cons_succ]
          clear hb
          have hba := hnew
          clear hnew
          generalize z2.alloc (.cells (cb zb32).toArray 23) = z3 at *
          obtain ⟨ga, HGA⟩ : ∃ z, Hid (z = z2.heap.size) := ⟨_, rfl⟩
          rw [← HGA.out] at hba hgw hne ⊢ hnk
          clear HGA
          refine wpAnyH_law 9 (by kernel_rfl) rfl (by rfl) (wp_store_mid 23 _ _ rfl ga 0 (cb zb32).toArray rfl rfl (hba.there 0 _ (by rw [List.size_toArray]; exact Nat.le_of_eq (Nat.zero_add _))) (by rw [List.size_toArray, cb_len, zb32_len]; exact info_digest) (all_oneCell_toArray (cb_one zb32)) ?_)
          rw [List.toList_toArray]
          have hk9 : ∀ k, k ≠ ga → (z3.setCells ga 0 (cb zb32)).heap[k]? = z3.heap[k]? := At'.setCells _ _ _ (fun _ _ => rfl)
          have hb9 := hba.whole (cb zb32) rfl
          have hS9 : Pw w g1 x (z3.setCells ga 0 (cb zb32)) := hS.set hne hk9 (Below.setCells _ hgw _ _ _ hS.bel)
          have hk29 : Blk (z3.setCells ga 0 (cb zb32)) g2 (cb x) 23 := by have h := hk2; unfold Blk at *; rw [hk9 g2 (Ne.symm hnk)]; exact h
          refine ⟨hS9, ?_⟩
          simp only [Act.put, List.getElem_toArray, List.getElem_cons_succ, List.getElem_cons_zero]
          generalize z3.setCells ga 0 (cb zb32) = wE at *
          refine wpAnyH_take (i := 10) (v := .bool false) rfl (by kernel_rfl) (by kernel_rfl) (by kernel_rfl) (fun _ _ _ h => h) (Or.inl ⟨by rfl, fun wx hx => by simp [go_sem]⟩) hS9 ?_
          simp only [Act.put, List.getElem_toArray, List.getElem_cons_succ, List.getElem_cons_zero, List.setIfInBounds_toArray, List.set_cons_zero, List.set_cons_succ]
          refine wpAnyH_take (i := 11) (v := .int .i64 0) rfl (by kernel_rfl) (by kernel_rfl) (by kernel_rfl) (fun _ _ _ h => h) (Or.inl ⟨by rfl, fun wx hx => by simp [go_sem]⟩) hS9 ?_
          simp only [Act.put, List.getElem_toArray, List.getElem_cons_succ, List.getElem_cons_zero, List.setIfInBounds_toArray, List.set_cons_zero, List.set_cons_succ]
          refine wpAnyH_done (by kernel_rfl) ?_ _
          clear hk9 hS hba
          go_wp2
          go_meet
          case rel => exact ⟨ga, rfl, rfl, rfl, hS9, hb9, hk29⟩
        · skip
          have hb := below_alloc z1 (.cells (cb zb32).toArray 23)
          have hnew : Blk (z1.alloc (.cells (cb zb32).toArray 23)) z1.heap.size (cb zb32) 23 := Blk.new _ _ _
          have hgw : w.heap.size ≤ z1.heap.size := hS.bel.size
          have hne : z1.heap.size ≠ g1 := Nat.ne_of_gt hS.xb.lt
          have hnk : z1.heap.size ≠ g2 := Nat.ne_of_gt hk2.lt
          replace hk2 := hk2.below hb hk2.lt
          replace hS := hS.next hb
          refine wpOp_vl 8 (.pointer (some ⟨z1.heap.size, 0, none⟩)) (z1.alloc (.cells (cb zb32).toArray 23)) (by rfl) (by rfl) (allocDigest _ _ rfl _) ⟨hS, ?_⟩
          simp only [Act.put, List.getElem_toArray, List.getElem_cons_succ, List.getElem_cons_zero, List.setIfInBounds_toArray, List.set_cons_zero, List.set_cons_succ]
          clear hb
          have hba := hnew
          clear hnew
          generalize z1.alloc (.cells (cb zb32).toArray 23) = z4 at *
          obtain ⟨ga, HGA⟩ : ∃ z, Hid (z = z1.heap.size) := ⟨_, rfl⟩
          rw [← HGA.out] at hba hgw hne ⊢ hnk
          clear HGA
          refine wpAnyH_enter 3 (by kernel_rfl) rfl (by rfl) (f := 15) (args := #[.agg (cb m).toArray, .agg (cb x).toArray, .agg p0.toArray]) (by simp [go_sem]) (HC3.out _ hS.kk) ?_
          rintro e z5 ⟨rfl, hb⟩
          replace hS := hS.next hb
          replace hba := hba.below hb hba.lt
          replace hk2 := hk2.below hb hk2.lt
          refine ⟨_, rfl, hS, ?_⟩
          clear hb
          simp only [Act.put, List.getElem_toArray, List.getElem_cons_succ, List.getElem_cons_zero, List.setIfInBounds_toArray, List.set_cons_zero, List.set_cons_succ]
          refine wpAnyH_take (i := 4) (v := .tuple #[.agg (cb zb32).toArray, .bool false, .int .i64 0]) rfl (by kernel_rfl) (by kernel_rfl) (by kernel_rfl) (fun _ _ _ h => h) (Or.inl ⟨by rfl, fun wx hx => by simp [go_sem]⟩) hS ?_
          simp only [Act.put, List.getElem_toArray, List.getElem_cons_succ, List.getElem_cons_zero, List.setIfInBounds_toArray, List.set_cons_zero, List.set_cons_succ]
          refine wpAnyH_take (i := 5) (v := .agg (cb zb32).toArray) rfl (by kernel_rfl) (by kernel_rfl) (by kernel_rfl) (fun _ _ _ h => h) (Or.inl ⟨by rfl, fun wx hx => by simp [go_sem]⟩) hS ?_
          simp only [Act.put, List.getElem_toArray, List.getElem_cons_succ, List.getElem_cons_zero, List.setIfInBounds_toArray, List.set_cons_zero, List.set_cons_succ]
          refine wpAnyH_take (i := 6) (v := .bool false) rfl (by kernel_rfl) (by kernel_rfl) (by kernel_rfl) (fun _ _ _ h => h) (Or.inl ⟨by rfl, fun wx hx => by simp [go_sem]⟩) hS ?_
          simp only [Act.put, List.getElem_toArray, List.getElem_cons_succ, List.getElem_cons_zero, List.setIfInBounds_toArray, List.set_cons_zero, List.set_cons_succ]
          refine wpAnyH_take (i := 7) (v := .int .i64 0) rfl (by kernel_rfl) (by kernel_rfl) (by kernel_rfl) (fun _ _ _ h => h) (Or.inl ⟨by rfl, fun wx hx => by simp [go_sem]⟩) hS ?_
          simp only [Act.put, List.getElem_toArray, List.getElem_cons_succ, List.getElem_cons_zero, List.setIfInBounds_toArray, List.set_cons_zero, List.set_cons_succ]
          refine wpAnyH_law 9 (by kernel_rfl) rfl (by rfl) (wp_store_mid 23 _ _ rfl ga 0 (cb zb32).toArray rfl rfl (hba.there 0 _ (by rw [List.size_toArray]; exact Nat.le_of_eq (Nat.zero_add _))) (by rw [List.size_toArray, cb_len, zb32_len]; exact info_digest) (all_oneCell_toArray (cb_one zb32)) ?_)
          rw [List.toList_toArray]
          have hk9 : ∀ k, k ≠ ga → (z5.setCells ga 0 (cb zb32)).heap[k]? = z5.heap[k]? := At'.setCells _ _ _ (fun _ _ => rfl)
          have hb9 := hba.whole (cb zb32) rfl
          have hS9 : Pw w g1 x (z5.setCells ga 0 (cb zb32)) := hS.set hne hk9 (Below.setCells _ hgw _ _ _ hS.bel)
          have hk29 : Blk (z5.setCells ga 0 (cb zb32)) g2 (cb x) 23 := by have h := hk2; unfold Blk at *; rw [hk9 g2 (Ne.symm hnk)]; exact h
          refine ⟨hS9, ?_⟩
          simp only [Act.put, List.getElem_toArray, List.getElem_cons_succ, List.getElem_cons_zero]
          generalize z5.setCells ga 0 (cb zb32) = wE at *
          refine wpAnyH_take (i := 10) (v := .bool false) rfl (by kernel_rfl) (by kernel_rfl) (by kernel_rfl) (fun _ _ _ h => h) (Or.inl ⟨by rfl, fun wx hx => by simp [go_sem]⟩) hS9 ?_
          simp only [Act.put, List.getElem_toArray, List.getElem_cons_succ, List.getElem_cons_zero, List.setIfInBounds_toArray, List.set_cons_zero, List.set_cons_succ]
          refine wpAnyH_take (i := 11) (v := .int .i64 0) rfl (by kernel_rfl) (by kernel_rfl) (by kernel_rfl) (fun _ _ _ h => h) (Or.inl ⟨by rfl, fun wx hx => by simp [go_sem]⟩) hS9 ?_
          simp only [Act.put, List.getElem_toArray, List.getElem_cons_succ, List.getElem_cons_zero, List.setIfInBounds_toArray, List.set_cons_zero, List.set_cons_succ]
          refine wpAnyH_done (by kernel_rfl) ?_ _
          clear hk9 hS hba
          go_wp2
          go_meet
          case rel => exact ⟨ga, rfl, rfl, rfl, hS9, hb9, hk29⟩
      · skip
        have hb := below_alloc y0 (.cells (cb zb32).toArray 23)
        have hnew : Blk (y0.alloc (.cells (cb zb32).toArray 23)) y0.heap.size (cb zb32) 23 := Blk.new _ _ _
        have hgw : w.heap.size ≤ y0.heap.size := hS.bel.size
        have hne : y0.heap.size ≠ g1 := Nat.ne_of_gt hS.xb.lt
        have hnk : y0.heap.size ≠ g2 := Nat.ne_of_gt hk2.lt
        replace hk2 := hk2.below hb hk2.lt
        replace hS := hS.next hb
        refine wpOp_vl 8 (.pointer (some ⟨y0.heap.size, 0, none⟩)) (y0.alloc (.cells (cb zb32).toArray 23)) (by rfl) (by rfl) (allocDigest _ _ rfl _) ⟨hS, ?_⟩
        simp only [Act.put, List.getElem_toArray, List.getElem_cons_succ, List.getElem_cons_zero, List.setIfInBounds_toArray, List.set_cons_zero, List.set_cons_succ]
        clear hb
        have hba := hnew
        clear hnew
        generalize y0.alloc (.cells (cb zb32).toArray 23) = z6 at *
        obtain ⟨ga, HGA⟩ : ∃ z, Hid (z = y0.heap.size) := ⟨_, rfl⟩
        rw [← HGA.out] at hba hgw hne ⊢ hnk
        clear HGA
        refine wpAnyH_enter 0 (by kernel_rfl) rfl (by rfl) (f := 24) (args := #[]) (by simp [go_sem]) (HCE.out _) ?_
        rintro e z7 ⟨rfl, hb⟩
        replace hS := hS.next hb
        replace hba := hba.below hb hba.lt
        replace hk2 := hk2.below hb hk2.lt
        refine ⟨_, rfl, hS, ?_⟩
        clear hb
        simp only [Act.put, List.getElem_toArray, List.getElem_cons_zero, List.setIfInBounds_toArray, List.set_cons_zero, List.set_cons_succ]
        refine wpAnyH_enter 3 (by kernel_rfl) rfl (by rfl) (f := 15) (args := #[.agg (cb m).toArray, .agg (cb x).toArray, .agg p0.toArray]) (by simp [go_sem]) (HC3.out _ hS.kk) ?_
        rintro e z8 ⟨rfl, hb⟩
        replace hS := hS.next hb
        replace hba := hba.below hb hba.lt
        replace hk2 := hk2.below hb hk2.lt
        refine ⟨_, rfl, hS, ?_⟩
        clear hb
        simp only [Act.put, List.getElem_toArray, List.getElem_cons_succ, List.getElem_cons_zero, List.setIfInBounds_toArray, List.set_cons_zero, List.set_cons_succ]
        refine wpAnyH_take (i := 4) (v := .tuple #[.agg (cb zb32).toArray, .bool false, .int .i64 0]) rfl (by kernel_rfl) (by kernel_rfl) (by kernel_rfl) (fun _ _ _ h => h) (Or.inl ⟨by rfl, fun wx hx => by simp [go_sem]⟩) hS ?_
        simp only [Act.put, List.getElem_toArray, List.getElem_cons_succ, List.getElem_cons_zero, List.setIfInBounds_toArray, List.set_cons_zero, List.set_cons_succ]
        refine wpAnyH_take (i := 5) (v := .agg (cb zb32).toArray) rfl (by kernel_rfl) (by kernel_rfl) (by kernel_rfl) (fun _ _ _ h => h) (Or.inl ⟨by rfl, fun wx hx => by simp [go_sem]⟩) hS ?_
        simp only [Act.put, List.getElem_toArray, List.getElem_cons_succ, List.getElem_cons_zero, List.setIfInBounds_toArray, List.set_cons_zero, List.set_cons_succ]
        refine wpAnyH_take (i := 6) (v := .bool false) rfl (by kernel_rfl) (by kernel_rfl) (by kernel_rfl) (fun _ _ _ h => h) (Or.inl ⟨by rfl, fun wx hx => by simp [go_sem]⟩) hS ?_
        simp only [Act.put, List.getElem_toArray, List.getElem_cons_succ, List.getElem_cons_zero, List.setIfInBounds_toArray, List.set_cons_zero, List.set_cons_succ]
        refine wpAnyH_take (i := 7) (v := .int .i64 0) rfl (by kernel_rfl) (by kernel_rfl) (by kernel_rfl) (fun _ _ _ h => h) (Or.inl ⟨by rfl, fun wx hx => by simp [go_sem]⟩) hS ?_
        simp only [Act.put, List.getElem_toArray, List.getElem_cons_succ, List.getElem_cons_zero, List.setIfInBounds_toArray, List.set_cons_zero, List.set_cons_succ]
        refine wpAnyH_law 9 (by kernel_rfl) rfl (by rfl) (wp_store_mid 23 _ _ rfl ga 0 (cb zb32).toArray rfl rfl (hba.there 0 _ (by rw [List.size_toArray]; exact Nat.le_of_eq (Nat.zero_add _))) (by rw [List.size_toArray, cb_len, zb32_len]; exact info_digest) (all_oneCell_toArray (cb_one zb32)) ?_)
        rw [List.toList_toArray]
        have hk9 : ∀ k, k ≠ ga → (z8.setCells ga 0 (cb zb32)).heap[k]? = z8.heap[k]? := At'.setCells _ _ _ (fun _ _ => rfl)
        have hb9 := hba.whole (cb zb32) rfl
        have hS9 : Pw w g1 x (z8.setCells ga 0 (cb zb32)) := hS.set hne hk9 (Below.setCells _ hgw _ _ _ hS.bel)
        have hk29 : Blk (z8.setCells ga 0 (cb zb32)) g2 (cb x) 23 := by have h := hk2; unfold Blk at *; rw [hk9 g2 (Ne.symm hnk)]; exact h
        refine ⟨hS9, ?_⟩
        simp only [Act.put, List.getElem_toArray, List.getElem_cons_succ, List.getElem_cons_zero]
        generalize z8.setCells ga 0 (cb zb32) = wE at *
        refine wpAnyH_take (i := 10) (v := .bool false) rfl (by kernel_rfl) (by kernel_rfl) (by kernel_rfl) (fun _ _ _ h => h) (Or.inl ⟨by rfl, fun wx hx => by simp [go_sem]⟩) hS9 ?_
        simp only [Act.put, List.getElem_toArray, List.getElem_cons_succ, List.getElem_cons_zero, List.setIfInBounds_toArray, List.set_cons_zero, List.set_cons_succ]
        refine wpAnyH_take (i := 11) (v := .int .i64 0) rfl (by kernel_rfl) (by kernel_rfl) (by kernel_rfl) (fun _ _ _ h => h) (Or.inl ⟨by rfl, fun wx hx => by simp [go_sem]⟩) hS9 ?_
        simp only [Act.put, List.getElem_toArray, List.getElem_cons_succ, List.getElem_cons_zero, List.setIfInBounds_toArray, List.set_cons_zero, List.set_cons_succ]
        refine wpAnyH_done (by kernel_rfl) ?_ _
        clear hk9 hS hba
        go_wp2
        go_meet
        case rel => exact ⟨ga, rfl, rfl, rfl, hS9, hb9, hk29⟩
    case rest =>
      clear HI HK2
      obtain ⟨g8, rfl, rfl, rfl, hI, hk8, hk2⟩ := hcut
      have HI : Hid (Pw w g1 x wc) := hI
      have HK2 : Hid (Blk wc g2 (cb x) 23) := hk2
      clear hI hk2 hk8
      go_wp2_with (first
        | (with_reducible refine wpSeq_loadD (.tmp 1) g1 x ?_ ?_ ?_ ?_ ?_ ?_
           · exact HXL.out
           · exact HI.out.xb
           · with_reducible rfl
           · rfl
           · rfl)
        | (with_reducible refine wpSeq_loadD (.tmp 2) g2 x ?_ ?_ ?_ ?_ ?_ ?_
           · exact HXL.out
           · exact HK2.out
           · with_reducible rfl
           · rfl
           · rfl))
      go_ret
      exact ⟨rfl, HI.out.bel⟩
end Go.Proofs.YtmmhdchhajmbfaaDoor
/- Where the statements of layer 8 stand. -/
namespace Go.Proofs.YtmmhdchhajmbfaaDoor
open Go.RowKit
set_option maxRecDepth 100000
/-- a root, an index and a way, laid by the call -/
structure Lc (w : World) (gr gx gp : Nat) (r x : List (BitVec 8)) (vs : Value) (sd : List (List (BitVec 8))) (en : Int) (ix va : List (BitVec 8)) (W : World) : Prop where
  k0 : KOk w
  r0 : ReadsD w vs sd
  rb : Blk W gr (cb r) 23
  xb : Blk W gx (cb x) 23
  pb : Blk W gp (prfV vs en ix va) 26
  bel : Below w.heap.size w W
  ge : w.heap.size ≤ gr
  nx : gx ≠ gr
  np : gp ≠ gr
theorem Lc.kk {w W : World} {gr gx gp : Nat} {r x : List (BitVec 8)} {vs : Value} {sd : List (List (BitVec 8))} {en : Int} {ix va : List (BitVec 8)} (h : Lc w gr gx gp r x vs sd en ix va W) : KOk W := h.k0.below h.bel h.k0.lt
theorem Lc.rd {w W : World} {gr gx gp : Nat} {r x : List (BitVec 8)} {vs : Value} {sd : List (List (BitVec 8))} {en : Int} {ix va : List (BitVec 8)} (h : Lc w gr gx gp r x vs sd en ix va W) : ReadsD W vs sd := h.r0.below h.bel
theorem Lc.next {w W W' : World} {gr gx gp : Nat} {r x : List (BitVec 8)} {vs : Value} {sd : List (List (BitVec 8))} {en : Int} {ix va : List (BitVec 8)} (h : Lc w gr gx gp r x vs sd en ix va W) (hb : Below W.heap.size W W') : Lc w gr gx gp r x vs sd en ix va W' :=
  ⟨h.k0, h.r0, h.rb.below hb h.rb.lt, h.xb.below hb h.xb.lt, h.pb.below hb h.pb.lt, h.bel.trans (hb.mono h.bel.size), h.ge, h.nx, h.np⟩
theorem Lc.set {w W W' : World} {gr gx gp : Nat} {r r' x : List (BitVec 8)} {vs : Value} {sd : List (List (BitVec 8))} {en : Int} {ix va : List (BitVec 8)} (h : Lc w gr gx gp r x vs sd en ix va W) (h9 : SetB r' W gr W') : Lc w gr gx gp r' x vs sd en ix va W' :=
  ⟨h.k0, h.r0, h9.blk, h.xb.only h9.only h.nx, h.pb.only h9.only h.np, h.bel.trans (h9.only.below h.ge h.bel.size), h.ge, h.nx, h.np⟩
end Go.Proofs.YtmmhdchhajmbfaaDoor
/- The walk of the reference's Put. -/
namespace Go.Proofs.YtmmhdchhajmbfaaDoor
open Go.RowKit
set_option maxRecDepth 100000
theorem putL_all {l : List Lf} {x v : List (BitVec 8)} (h : ∀ p ∈ l, lessB p.1 x = true) : putL l x v = l ++ [(x, v)] := by
  unfold putL
  have h1 : (l.takeWhile fun p => lessB p.1 x) = l := by
    have := List.takeWhile_append_of_pos (l₁ := l) (l₂ := []) (p := fun p : Lf => lessB p.1 x) (fun p hp => h p hp)
    simpa using this
  have h2 : (l.dropWhile fun p => lessB p.1 x) = [] := by
    have := List.dropWhile_append_of_pos (l₁ := l) (l₂ := []) (p := fun p : Lf => lessB p.1 x) (fun p hp => h p hp)
    simpa using this
  rw [h1, h2]
  rfl
theorem putL_new {l : List Lf} {x v : List (BitVec 8)} {e : Lf} (h : ∀ p ∈ l, lessB p.1 x = true) (he : lessB e.1 x = false) : putL (l ++ [e]) x v = l ++ [(x, v)] ++ (if decide (e.1 ≠ x) then [e] else []) := by
  unfold putL
  have h1 : ((l ++ [e]).takeWhile fun p => lessB p.1 x) = l := by
    rw [List.takeWhile_append_of_pos (fun p hp => h p hp)]
    simp [he]
  have h2 : ((l ++ [e]).dropWhile fun p => lessB p.1 x) = [e] := by
    rw [List.dropWhile_append_of_pos (fun p hp => h p hp)]
    simp [he]
  rw [h1, h2]
  simp only [List.filter_cons, List.filter_nil, List.append_assoc, List.cons_append, List.nil_append]
theorem putL_old {l : List Lf} {x v : List (BitVec 8)} {e : Lf} (h : ∃ p ∈ l, lessB p.1 x = false) : putL (l ++ [e]) x v = putL l x v ++ (if decide (e.1 ≠ x) then [e] else []) := by
  have key : ∀ l : List Lf, (∃ p ∈ l, lessB p.1 x = false) → ((l ++ [e]).takeWhile fun p => lessB p.1 x) = (l.takeWhile fun p => lessB p.1 x) ∧ ((l ++ [e]).dropWhile fun p => lessB p.1 x) = (l.dropWhile fun p => lessB p.1 x) ++ [e] := by
    intro l
    induction l with
    | nil => rintro ⟨p, hp, _⟩; cases hp
    | cons a r ih =>
      rintro ⟨p, hp, hpx⟩
      cases ha : lessB a.1 x with
      | false => simp [ha]
      | true =>
        have hr : ∃ p ∈ r, lessB p.1 x = false := by
          rcases List.mem_cons.1 hp with rfl | hp
          · rw [ha] at hpx; cases hpx
          · exact ⟨p, hp, hpx⟩
        have := ih hr
        simp [ha, this.1, this.2]
  unfold putL
  rw [(key l h).1, (key l h).2, List.filter_append]
  simp only [List.filter_cons, List.filter_nil, List.append_assoc, List.cons_append]
/-- what Put has made of the first k -/
def PtI (l : List Lf) (x v : List (BitVec 8)) (k : Nat) (pt : Bool) (A : List Lf) : Prop :=
  (pt = false ∧ A = l.take k ∧ ∀ p ∈ l.take k, lessB p.1 x = true) ∨ (pt = true ∧ A = putL (l.take k) x v ∧ ∃ p ∈ l.take k, lessB p.1 x = false)
theorem PtI.start (l : List Lf) (x v : List (BitVec 8)) : PtI l x v 0 false [] := Or.inl ⟨rfl, rfl, fun p hp => by cases hp⟩
/-- behind the first question: x is put, if it is its turn -/
def mid (x v : List (BitVec 8)) (pt : Bool) (da : List (BitVec 8)) (A : List Lf) : List Lf := if !pt && !lessB da x then A ++ [(x, v)] else A
theorem PtI.next {l : List Lf} {x v : List (BitVec 8)} {k : Nat} {pt : Bool} {A : List Lf} {e : Lf} (h : PtI l x v k pt A) (ht : l.take (k + 1) = l.take k ++ [e]) : PtI l x v (k + 1) (pt || !lessB e.1 x) (mid x v pt e.1 A ++ if decide (e.1 ≠ x) then [e] else []) := by
  rcases h with ⟨rfl, rfl, h⟩ | ⟨rfl, rfl, h⟩
  · cases he : lessB e.1 x with
    | true =>
      refine Or.inl ⟨rfl, ?_, ?_⟩
      · rw [ht]
        have hn := less_ne he
        simp [mid, he, hn]
      · rw [ht]
        intro p hp
        rcases List.mem_append.1 hp with hp | hp
        · exact h p hp
        · rw [List.mem_singleton] at hp; subst hp; exact he
    | false =>
      refine Or.inr ⟨rfl, ?_, e, by rw [ht]; simp, he⟩
      rw [ht, putL_new h he]
      simp [mid, he]
  · refine Or.inr ⟨rfl, ?_, ?_⟩
    · rw [ht, putL_old h]
      simp [mid]
    · obtain ⟨p, hp, hpx⟩ := h
      exact ⟨p, by rw [ht]; exact List.mem_append_left _ hp, hpx⟩
theorem PtI.len {l : List Lf} {x v : List (BitVec 8)} {k : Nat} {pt : Bool} {A : List Lf} (h : PtI l x v k pt A) : A.length ≤ l.length + 1 := by
  rcases h with ⟨_, rfl, _⟩ | ⟨_, rfl, _⟩
  · rw [List.length_take]; omega
  · unfold putL
    have h1 := congrArg List.length (take_drop_while (l.take k) fun p => lessB p.1 x)
    rw [List.length_append, List.length_take] at h1
    rw [List.length_append, List.length_cons]
    refine Nat.le_trans (Nat.add_le_add_left (Nat.succ_le_succ (List.length_filter_le _ _)) _) ?_
    omega
theorem PtI.done {l : List Lf} {x v : List (BitVec 8)} {k : Nat} {pt : Bool} {A : List Lf} (h : PtI l x v k pt A) (hk : l.take k = l) : putL l x v = A ++ if pt then [] else [(x, v)] := by
  rcases h with ⟨rfl, rfl, h⟩ | ⟨rfl, rfl, h⟩
  · rw [hk] at h ⊢
    rw [putL_all h]
    rfl
  · rw [hk]
    simp
theorem putL_len (l : List Lf) (x v : List (BitVec 8)) : (putL l x v).length ≤ l.length + 1 := by
  unfold putL
  have h1 := congrArg List.length (take_drop_while l fun p => lessB p.1 x)
  rw [List.length_append] at h1
  rw [List.length_append, List.length_cons]
  refine Nat.le_trans (Nat.add_le_add_left (Nat.succ_le_succ (List.length_filter_le _ _)) _) ?_
  omega
set_option maxRecDepth 100000 in
set_option maxHeartbeats 8000000 in
theorem lfPut_any (va vv : Value) (l : List Lf) (x v : List (BitVec 8)) (w : World) (hR : ReadsLf w va vv l) (hl : l.length < 1000000) (hx : x.length = 32) (hv : v.length = 32) :
    Calls Tryd.prog 39 #[.agg #[va, vv], .agg (cb x).toArray, .agg (cb v).toArray] w fun e w' => ∃ xa xv, e = .returned (.agg #[xa, xv]) ∧ OwnLf w' w.heap.size xa xv ((putL l x v).map (·.1)) ((putL l x v).map (·.2)) ∧ Below w.heap.size w w' := by
  have HR : Hid (ReadsLf w va vv l) := hR
  have HL : Hid (l.length < 1000000) := hl
  have HX32 : Hid (x.length = 32) := hx
  have HY32 : Hid (v.length = 32) := hv
  obtain ⟨n, HN⟩ : ∃ n, Hid (n = l.length) := ⟨_, rfl⟩
  obtain ⟨ada, cpa, hva⟩ := hR.1.slice
  obtain ⟨adv, cpv, hvv⟩ := hR.2.slice
  rw [List.length_map, ← HN.out] at hva hvv
  subst hva hvv
  clear hR hl hx hv
  obtain ⟨gl, HGL⟩ : ∃ g, Hid (g = w.heap.size) := ⟨_, rfl⟩
  obtain ⟨w1, HW1⟩ : ∃ z, Hid (z = w.alloc (.cells [Value.slice ada n cpa, .slice adv n cpv].toArray 39)) := ⟨_, rfl⟩
  obtain ⟨w2, HW2⟩ : ∃ z, Hid (z = w1.alloc (.cells (cb x).toArray 23)) := ⟨_, rfl⟩
  obtain ⟨w3, HW3⟩ : ∃ z, Hid (z = w2.alloc (.cells (cb v).toArray 23)) := ⟨_, rfl⟩
  obtain ⟨wG, HWG⟩ : ∃ z, Hid (z = w3.alloc (.cells [nilV, nilV].toArray 39)) := ⟨_, rfl⟩
  have s1 : w1.heap.size = gl + 1 := by rw [HW1.out, HGL.out]; simp
  have s2 : w2.heap.size = gl + 2 := by rw [HW2.out]; simp [s1]
  have s3 : w3.heap.size = gl + 3 := by rw [HW3.out]; simp [s2]
  have s4 : wG.heap.size = gl + 4 := by rw [HWG.out]; simp [s3]
  have t1 : Below (gl + 1) w1 w2 := by rw [← s1, HW2.out]; exact below_alloc _ _
  have t2 : Below (gl + 2) w2 w3 := by rw [← s2, HW3.out]; exact below_alloc _ _
  have t3 : Below (gl + 3) w3 wG := by rw [← s3, HWG.out]; exact below_alloc _ _
  have HLB : Hid (Blk wG gl [Value.slice ada n cpa, .slice adv n cpv] 39) := by
    have h1 : Blk w1 gl [Value.slice ada n cpa, .slice adv n cpv] 39 := by rw [HW1.out, HGL.out]; exact Blk.new w _ _
    exact ((h1.below t1 (by omega)).below t2 (by omega)).below t3 (by omega)
  have HXB : Hid (Blk wG (gl + 1) (cb x) 23) := by
    have h1 : Blk w2 (gl + 1) (cb x) 23 := by rw [HW2.out, ← s1]; exact Blk.new w1 _ _
    exact (h1.below t2 (by omega)).below t3 (by omega)
  have HYB : Hid (Blk wG (gl + 2) (cb v) 23) := by
    have h1 : Blk w3 (gl + 2) (cb v) 23 := by rw [HW3.out, ← s2]; exact Blk.new w2 _ _
    exact h1.below t3 (by omega)
  have HRB : Hid (Blk wG (gl + 3) [nilV, nilV] 39) := by rw [HWG.out, ← s3]; exact Blk.new w3 _ _
  have HBW : Hid (Below w.heap.size w wG) := by
    have h1 : Below gl w w1 := by rw [HW1.out, HGL.out]; exact below_alloc _ _
    rw [← HGL.out]
    exact ((h1.trans (t1.mono (by omega))).trans (t2.mono (by omega))).trans (t3.mono (by omega))
  obtain ⟨go, HGO⟩ : ∃ g, Hid (g = wG.heap.size) := ⟨_, rfl⟩
  have HSZ : Hid (go = gl + 4) := by show _ = _; rw [HGO.out, s4]
  have HCA : Hid (∀ wx, Below go wG wx → wx.cell? ⟨gl, 0, none⟩ = some (.slice ada n cpa)) := fun wx hx => (HLB.out.below hx (by have := HSZ.out; omega)).cell 0
  have HCV : Hid (∀ wx, Below go wG wx → wx.cell? ⟨gl, 1, none⟩ = some (.slice adv n cpv)) := fun wx hx => (HLB.out.below hx (by have := HSZ.out; omega)).cell 1
  have HCX : Hid (∀ wx, Below go wG wx → Blk wx (gl + 1) (cb x) 23) := fun wx hx => HXB.out.below hx (by have := HSZ.out; omega)
  have HCY : Hid (∀ wx, Below go wG wx → Blk wx (gl + 2) (cb v) 23) := fun wx hx => HYB.out.below hx (by have := HSZ.out; omega)
  have HI : Hid (Lv wG go nilV nilV [] [] (wG.alloc (.cells [nilV, nilV].toArray 39))) := by rw [HGO.out]; exact Lv.start wG
  clear t1 t2 t3 HXB HYB HLB
  clear s1 s2 s3 s4
  go_enter Tryd.func39, Tryd.ntmps39
  go_wp2_with (first
    | (refine wpSeq_val _ _ (by rfl) (boxDigest _ _ (.tmp 1) rfl x rfl _) ?_)
    | (refine wpSeq_val _ _ (by rfl) (boxDigest _ _ (.tmp 2) rfl v rfl _) ?_))
  have e0 : (some ⟨w.heap.size, 0, none⟩ : Option Addr) = some ⟨gl, 0, none⟩ := by rw [HGL.out]
  have e1 : (some ⟨w.heap.size + 1, 0, none⟩ : Option Addr) = some ⟨gl + 1, 0, none⟩ := by rw [HGL.out]
  have e2 : (some ⟨w.heap.size + 1 + 1, 0, none⟩ : Option Addr) = some ⟨gl + 2, 0, none⟩ := by rw [HGL.out]
  have e3 : (some ⟨w.heap.size + 1 + 1 + 1, 0, none⟩ : Option Addr) = some ⟨gl + 3, 0, none⟩ := by rw [HGL.out]
  have e4 : (some ⟨w.heap.size + 1 + 1 + 1 + 1, 0, none⟩ : Option Addr) = some ⟨go, 0, none⟩ := by rw [HSZ.out, HGL.out]
  simp only [e0, e1, e2, e3, e4]
  clear e0 e1 e2 e3 e4
  change Code.wp _ _ _ _ (((((w.alloc (.cells [Value.slice ada n cpa, .slice adv n cpv].toArray 39)).alloc (.cells (cb x).toArray 23)).alloc (.cells (cb v).toArray 23)).alloc (.cells [nilV, nilV].toArray 39)).alloc (.cells [nilV, nilV].toArray 39))
  rw [← HW1.out, ← HW2.out, ← HW3.out, ← HWG.out]
  generalize wG.alloc (.cells [nilV, nilV].toArray 39) = w0 at *
  clear HW1 HW2 HW3 HWG HGO
  go_loopw [8, 9] (fun b j wr => ∃ (k : Nat) (xa xv : Value) (pt : Bool) (A : List Lf), k ≤ n ∧ b = .bool pt ∧ j = .int .i64 (k : Int) ∧ Lv wG go xa xv (A.map (·.1)) (A.map (·.2)) wr ∧ PtI l x v k pt A) (fun _ j _ => n - (intOf j).toNat)
  case atStart => exact ⟨0, nilV, nilV, false, [], by omega, rfl, rfl, by simpa using HI.out, PtI.start l x v⟩
  case round =>
    clear HI
    obtain ⟨k, xa, xv, pt, A, hk, rfl, rfl, hI, hP⟩ := hrel
    have HI : Hid (Lv wG go xa xv (A.map (·.1)) (A.map (·.2)) wr) := hI
    have HPT : Hid (PtI l x v k pt A) := hP
    clear hI hP
    have ca : wr.cell? ⟨gl, 0, none⟩ = some (.slice ada n cpa) := HCA.out wr HI.out.bel
    have HAL : Hid (A.length < 1500000) := by show _ < _; have h1 := HPT.out.len; have h2 := HL.out; omega
    by_cases hlt : k < n
    · have hlti : (k : Int) < (n : Int) := by omega
      have k0 : (0 : Int) ≤ (k : Int) := by omega
      have hn6 : n < 1000000 := by rw [HN.out]; exact HL.out
      have f5 : IntKind.i64.wrap ((k : Int) + 1) = (k : Int) + 1 := wrap_small2 _ (by omega) (by omega)
      have HKL : Hid (k < l.length) := by show _ < _; rw [← HN.out]; exact hlt
      obtain ⟨ba, offa, cpa', hva, hya⟩ := HR.out.1.at (by rw [List.length_map]; have := HKL.out; omega)
      obtain ⟨bv, offv, cpv', hvv, hyv⟩ := HR.out.2.at (by rw [List.length_map]; have := HKL.out; omega)
      rw [List.length_map, ← HN.out] at hva hvv hya hyv
      simp only [Value.slice.injEq, true_and] at hva hvv
      obtain ⟨rfl, rfl⟩ := hva
      obtain ⟨rfl, rfl⟩ := hvv
      obtain ⟨da, HDA⟩ : ∃ d, Hid (d = (l.getD k ([], [])).1) := ⟨_, rfl⟩
      obtain ⟨dv, HDV⟩ : ∃ d, Hid (d = (l.getD k ([], [])).2) := ⟨_, rfl⟩
      have HA32 : Hid (da.length = 32) := by show _ = _; rw [HDA.out]; exact (HR.out.ok _ (getD_mem HKL.out)).1
      have HV32 : Hid (dv.length = 32) := by show _ = _; rw [HDV.out]; exact (HR.out.ok _ (getD_mem HKL.out)).2
      have HRA : Hid (∀ wx, Below go wG wx → wx.rangeAt ba (offa + k * 32) (cb da)) := fun wx hx => by
        have h := hya k hlt
        rw [map_getD1 HKL.out, ← HDA.out] at h
        have hb := rangeAt_lt h HA32.out
        exact rangeAt_below (rangeAt_below h HBW.out hb) hx (by have h1 := HSZ.out; have h2 := HGL.out; omega)
      have HRV : Hid (∀ wx, Below go wG wx → wx.rangeAt bv (offv + k * 32) (cb dv)) := fun wx hx => by
        have h := hyv k hlt
        rw [map_getD2 HKL.out, ← HDV.out] at h
        have hb := rangeAt_lt h HV32.out
        exact rangeAt_below (rangeAt_below h HBW.out hb) hx (by have h1 := HSZ.out; have h2 := HGL.out; omega)
      clear hya hyv
      have HNX : Hid (PtI l x v (k + 1) (pt || !lessB da x) (mid x v pt da A ++ if decide (da ≠ x) then [(da, dv)] else [])) := by
        have h := HPT.out.next (take_map HKL.out)
        rw [HDA.out, HDV.out]
        exact h
      obtain ⟨ls, HLS⟩ : ∃ p, Hid (lessB da x = p) := ⟨_, rfl⟩
      rw [HLS.out] at HNX
      unfold mid at HNX
      rw [HLS.out] at HNX
      go_upto_region 6 with fail
      go_cut [29] from 18 to 29 (fun b W => b = .bool (!pt && !ls) ∧ Lv wG go xa xv (A.map (·.1)) (A.map (·.2)) W)
      case first =>
        cases pt with
        | true =>
          refine wp_region_held_drew (S := Below go wG) (by kernel_rfl) HI.out.drew.bel ?_
          intro hS
          have hI := HI.out.drew
          clear HI
          change wpAnyH _ _ _ _ _ _ _ _ (World.drew wr)
          generalize World.drew wr = y0 at *
          refine wpAnyH_take (i := 0) (v := .bool true) rfl (by kernel_rfl) (by kernel_rfl) (by kernel_rfl) (fun _ _ _ h => h) (Or.inl ⟨by rfl, fun wx hx => by simp [go_sem]⟩) hS ?_
          simp only [Act.put, List.getElem_toArray, List.getElem_cons_zero, List.setIfInBounds_toArray, List.set_cons_zero, List.set_cons_succ]
          refine wpAnyH_take (i := 1) (v := .bool false) rfl (by kernel_rfl) (by kernel_rfl) (by kernel_rfl) (fun _ _ _ h => h) (Or.inl ⟨by rfl, fun wx hx => by simp [go_sem]⟩) hS ?_
          simp only [Act.put, List.getElem_toArray, List.getElem_cons_succ, List.getElem_cons_zero, List.setIfInBounds_toArray, List.set_cons_zero, List.set_cons_succ]
          refine wpAnyH_take (i := 2) (v := .bool false) rfl (by kernel_rfl) (by kernel_rfl) (by kernel_rfl) (fun _ _ _ h => h) (Or.inl ⟨by rfl, fun wx hx => by simp [go_sem]⟩) hS ?_
          simp only [Act.put, List.getElem_toArray, List.getElem_cons_succ, List.getElem_cons_zero, List.setIfInBounds_toArray, List.set_cons_zero, List.set_cons_succ]
          refine wpAnyH_take (i := 3) (v := undef) rfl (by kernel_rfl) (by kernel_rfl) (by kernel_rfl) (fun _ _ _ h => h) (Or.inr ⟨by rfl, rfl⟩) hS ?_
          simp only [Act.put, List.getElem_toArray, List.getElem_cons_succ, List.getElem_cons_zero, List.setIfInBounds_toArray, List.set_cons_zero, List.set_cons_succ]
          refine wpAnyH_take (i := 4) (v := undef) rfl (by kernel_rfl) (by kernel_rfl) (by kernel_rfl) (fun _ _ _ h => h) (Or.inr ⟨by rfl, rfl⟩) hS ?_
          simp only [Act.put, List.getElem_toArray, List.getElem_cons_succ, List.getElem_cons_zero, List.setIfInBounds_toArray, List.set_cons_zero, List.set_cons_succ]
          refine wpAnyH_take (i := 5) (v := undef) rfl (by kernel_rfl) (by kernel_rfl) (by kernel_rfl) (fun _ _ _ h => h) (Or.inr ⟨by rfl, rfl⟩) hS ?_
          simp only [Act.put, List.getElem_toArray, List.getElem_cons_succ, List.getElem_cons_zero, List.setIfInBounds_toArray, List.set_cons_zero, List.set_cons_succ]
          refine wpAnyH_take (i := 6) (v := undef) rfl (by kernel_rfl) (by kernel_rfl) (by kernel_rfl) (fun _ _ _ h => h) (Or.inr ⟨by rfl, rfl⟩) hS ?_
          simp only [Act.put, List.getElem_toArray, List.getElem_cons_succ, List.getElem_cons_zero, List.setIfInBounds_toArray, List.set_cons_zero, List.set_cons_succ]
          refine wpAnyH_take (i := 7) (v := undef) rfl (by kernel_rfl) (by kernel_rfl) (by kernel_rfl) (fun _ _ _ h => h) (Or.inr ⟨by rfl, rfl⟩) hS ?_
          simp only [Act.put, List.getElem_toArray, List.getElem_cons_succ, List.getElem_cons_zero, List.setIfInBounds_toArray, List.set_cons_zero, List.set_cons_succ]
          refine wpAnyH_take (i := 8) (v := undef) rfl (by kernel_rfl) (by kernel_rfl) (by kernel_rfl) (fun _ _ _ h => h) (Or.inr ⟨by rfl, rfl⟩) hS ?_
          simp only [Act.put, List.getElem_toArray, List.getElem_cons_succ, List.getElem_cons_zero, List.setIfInBounds_toArray, List.set_cons_zero, List.set_cons_succ]
          refine wpAnyH_take (i := 9) (v := undef) rfl (by kernel_rfl) (by kernel_rfl) (by kernel_rfl) (fun _ _ _ h => h) (Or.inr ⟨by rfl, rfl⟩) hS ?_
          simp only [Act.put, List.getElem_toArray, List.getElem_cons_succ, List.getElem_cons_zero, List.setIfInBounds_toArray, List.set_cons_zero, List.set_cons_succ]
          refine wpAnyH_take (i := 10) (v := undef) rfl (by kernel_rfl) (by kernel_rfl) (by kernel_rfl) (fun _ _ _ h => h) (Or.inr ⟨by rfl, rfl⟩) hS ?_
          simp only [Act.put, List.getElem_toArray, List.getElem_cons_succ, List.getElem_cons_zero, List.setIfInBounds_toArray, List.set_cons_zero, List.set_cons_succ]
          refine wpAnyH_take (i := 11) (v := .bool false) rfl (by kernel_rfl) (by kernel_rfl) (by kernel_rfl) (fun _ _ _ h => h) (Or.inl ⟨by rfl, fun wx hx => by simp [go_sem]⟩) hS ?_
          simp only [Act.put, List.getElem_toArray, List.getElem_cons_succ, List.getElem_cons_zero, List.setIfInBounds_toArray, List.set_cons_zero, List.set_cons_succ]
          refine wpAnyH_done (by kernel_rfl) ?_ _
          go_wp2
          go_meet
          case rel => exact ⟨rfl, hI⟩
        | false =>
          refine wp_region_held_drew (S := Below go wG) (by kernel_rfl) HI.out.drew.bel ?_
          intro hS
          have hI := HI.out.drew
          clear HI
          change wpAnyH _ _ _ _ _ _ _ _ (World.drew wr)
          generalize World.drew wr = y0 at *
          refine wpAnyH_take (i := 0) (v := .bool false) rfl (by kernel_rfl) (by kernel_rfl) (by kernel_rfl) (fun _ _ _ h => h) (Or.inl ⟨by rfl, fun wx hx => by simp [go_sem]⟩) hS ?_
          simp only [Act.put, List.getElem_toArray, List.getElem_cons_zero, List.setIfInBounds_toArray, List.set_cons_zero, List.set_cons_succ]
          refine wpAnyH_take (i := 1) (v := .bool true) rfl (by kernel_rfl) (by kernel_rfl) (by kernel_rfl) (fun _ _ _ h => h) (Or.inl ⟨by rfl, fun wx hx => by simp [go_sem]⟩) hS ?_
          simp only [Act.put, List.getElem_toArray, List.getElem_cons_succ, List.getElem_cons_zero, List.setIfInBounds_toArray, List.set_cons_zero, List.set_cons_succ]
          refine wpAnyH_take (i := 2) (v := .bool true) rfl (by kernel_rfl) (by kernel_rfl) (by kernel_rfl) (fun _ _ _ h => h) (Or.inl ⟨by rfl, fun wx hx => by simp [go_sem]⟩) hS ?_
          simp only [Act.put, List.getElem_toArray, List.getElem_cons_succ, List.getElem_cons_zero, List.setIfInBounds_toArray, List.set_cons_zero, List.set_cons_succ]
          refine wpAnyH_take (i := 3) (v := .pointer (some ⟨gl, 0, none⟩)) rfl (by kernel_rfl) (by kernel_rfl) (by kernel_rfl) (fun _ _ _ h => h) (Or.inl ⟨by rfl, fun wx hx => by simp [go_sem]⟩) hS ?_
          simp only [Act.put, List.getElem_toArray, List.getElem_cons_succ, List.getElem_cons_zero, List.setIfInBounds_toArray, List.set_cons_zero, List.set_cons_succ]
          refine wpAnyH_take (i := 4) (v := .slice (some ⟨ba, offa, none⟩) n cpa) rfl (by kernel_rfl) (by kernel_rfl) (by kernel_rfl) (fun _ _ _ h => h) (Or.inl ⟨by rfl, fun wx hx => by (have hc := HCA.out wx hx; simp [go_sem, hc])⟩) hS ?_
          simp only [Act.put, List.getElem_toArray, List.getElem_cons_succ, List.getElem_cons_zero, List.setIfInBounds_toArray, List.set_cons_zero, List.set_cons_succ]
          refine wpAnyH_take (i := 5) (v := .int .i64 (k : Int)) rfl (by kernel_rfl) (by kernel_rfl) (by kernel_rfl) (fun _ _ _ h => h) (Or.inl ⟨by rfl, fun wx hx => by simp [go_sem]⟩) hS ?_
          simp only [Act.put, List.getElem_toArray, List.getElem_cons_succ, List.getElem_cons_zero, List.setIfInBounds_toArray, List.set_cons_zero, List.set_cons_succ]
          refine wpAnyH_take (i := 6) (v := .pointer (some ⟨ba, offa + k * 32, none⟩)) rfl (by kernel_rfl) (by kernel_rfl) (by kernel_rfl) (fun _ _ _ h => h) (Or.inl ⟨by rfl, fun wx hx => by (simp [go_sem, hlti, k0])⟩) hS ?_
          simp only [Act.put, List.getElem_toArray, List.getElem_cons_succ, List.getElem_cons_zero, List.setIfInBounds_toArray, List.set_cons_zero, List.set_cons_succ]
          refine wpAnyH_take (i := 7) (v := .agg (cb da).toArray) rfl (by kernel_rfl) (by kernel_rfl) (by kernel_rfl) (fun _ _ _ h => h) (Or.inl ⟨by rfl, fun wx hx => by exact load_run 23 _ rfl _ _ rfl (cb da) _ (HRA.out wx hx) Tryd.underlying23 rfl (by rw [cb_len, HA32.out]; exact info_digest)⟩) hS ?_
          simp only [Act.put, List.getElem_toArray, List.getElem_cons_succ, List.getElem_cons_zero, List.setIfInBounds_toArray, List.set_cons_zero, List.set_cons_succ]
          refine wpAnyH_take (i := 8) (v := .agg (cb x).toArray) rfl (by kernel_rfl) (by kernel_rfl) (by kernel_rfl) (fun _ _ _ h => h) (Or.inl ⟨by rfl, fun wx hx => by exact loadDigest _ (gl + 1) x HX32.out (HCX.out wx hx) rfl rfl⟩) hS ?_
          simp only [Act.put, List.getElem_toArray, List.getElem_cons_succ, List.getElem_cons_zero, List.setIfInBounds_toArray, List.set_cons_zero, List.set_cons_succ]
          refine wpAnyH_enter 9 (by kernel_rfl) rfl (by rfl) (f := 54) (args := #[.agg (cb da).toArray, .agg (cb x).toArray]) (by simp [go_sem]) (sLess_any da x HA32.out HX32.out _) ?_
          rintro e wy ⟨rfl, hbq⟩
          rw [HLS.out]
          replace hI := hI.next hbq
          refine ⟨_, rfl, hI.bel, ?_⟩
          replace hS := hI.bel
          clear hbq
          simp only [Act.put, List.getElem_toArray, List.getElem_cons_succ, List.getElem_cons_zero, List.setIfInBounds_toArray, List.set_cons_zero, List.set_cons_succ]
          refine wpAnyH_take (i := 10) (v := .bool (!ls)) rfl (by kernel_rfl) (by kernel_rfl) (by kernel_rfl) (fun _ _ _ h => h) (Or.inl ⟨by rfl, fun wx hx => by simp [go_sem]⟩) hS ?_
          simp only [Act.put, List.getElem_toArray, List.getElem_cons_succ, List.getElem_cons_zero, List.setIfInBounds_toArray, List.set_cons_zero, List.set_cons_succ]
          refine wpAnyH_take (i := 11) (v := .bool (!ls)) rfl (by kernel_rfl) (by kernel_rfl) (by kernel_rfl) (fun _ _ _ h => h) (Or.inl ⟨by rfl, fun wx hx => by simp [go_sem]⟩) hS ?_
          simp only [Act.put, List.getElem_toArray, List.getElem_cons_succ, List.getElem_cons_zero, List.setIfInBounds_toArray, List.set_cons_zero, List.set_cons_succ]
          refine wpAnyH_done (by kernel_rfl) ?_ _
          go_wp2
          go_meet
          case rel => exact ⟨rfl, hI⟩
      case rest =>
        clear HI ca
        obtain ⟨rfl, hcut⟩ := hcut
        have HI : Hid (Lv wG go xa xv (A.map (·.1)) (A.map (·.2)) wc) := hcut
        clear hcut
        obtain ⟨wz, HWQ⟩ : ∃ z, Hid (z = wc) := ⟨_, rfl⟩
        rw [← HWQ.out] at HI ⊢
        clear HWQ
        obtain ⟨A2, HA2⟩ : ∃ z, Hid (z = if !pt && !ls then A ++ [(x, v)] else A) := ⟨_, rfl⟩
        rw [← HA2.out] at HNX
        go_upto_if 29 with fail
        go_cut [8] from 29 to 41 (fun b W => b = .bool (pt || !ls) ∧ ∃ xa xv, Lv wG go xa xv (A2.map (·.1)) (A2.map (·.2)) W)
        case first =>
          by_cases hc : (!pt && !ls) = true
          · rw [hc]
            have HA3 : Hid (A2 = A ++ [(x, v)]) := by show _ = _; rw [HA2.out, hc]; rfl
            obtain ⟨hp1, hp2⟩ : pt = false ∧ ls = false := by cases pt <;> cases ls <;> simp at hc ⊢
            subst hp1 hp2
            clear hc
            have hI := HI.out
            obtain ⟨aB, cB, hxB⟩ := hI.own.a.slice
            obtain ⟨nB, HNB⟩ : ∃ z : Nat, Hid (z = (A.map (·.1)).length) := ⟨_, rfl⟩
            rw [← HNB.out] at hxB
            have hce : wz.cell? ⟨go, 0, none⟩ = some xa := hI.out.cell 0
            subst hxB
            clear hI
            go_upto_region 8 with (first
              | (with_reducible refine wpSeq_loadD (.tmp 4) (gl + 1) x ?_ ?_ ?_ ?_ ?_ ?_
                 · exact HX32.out
                 · exact HCX.out _ HI.out.bel
                 · with_reducible rfl
                 · rfl
                 · rfl)
              | (with_reducible refine wpSeq_buildD (.tmp 32) x ?_ ?_ ?_ ?_ ?_
                 · exact HX32.out
                 · with_reducible rfl
                 · rfl
                 · rfl
                 intro g8 w8 n8
                 have hI8 := HI.out.next n8.below
                 have HU : Hid (Blk w8 g8 (cb x) 23) := n8.blk
                 clear n8 HI hce)
              | (with_reducible refine wpSeq_appendD (.tmp 31) (.tmp 33) (go + 1) (.slice aB nB cB) _ x g8 hI8.own.a HU.out HX32.out ?_ (Nat.succ_le_of_lt hI8.out.lt) ?_ ?_ ?_ ?_ ?_
                 · rw [List.length_map]; exact Nat.lt_of_lt_of_le HAL.out (by decide)
                 · with_reducible rfl
                 · rfl
                 · rfl
                 · rfl
                 intro z9 w9 o9 g9
                 have hJ := hI8.addA o9 g9
                 have hb9 := hI8.out.grow g9 (fun j hj => (hI8.own.a.lt j hj).1) (Nat.lt_succ_self _)
                 have hc9 := hb9.cell 0
                 have hf9 := hb9.frozen 0
                 simp only [List.getElem?_cons_zero] at hc9
                 obtain ⟨aB2, cB2, hxB⟩ := o9.slice
                 obtain ⟨nB2, HNB2⟩ : ∃ z : Nat, Hid (z = (A.map (·.1) ++ [x]).length) := ⟨_, rfl⟩
                 rw [← HNB2.out] at hxB
                 subst hxB
                 have HJ : Hid _ := hJ
                 clear o9 g9 hb9 hI8 HU hJ))
            have HI := HJ
            clear HJ hc9 hf9
            generalize w9.setCell ⟨go, 0, none⟩ (.slice aB2 nB2 cB2) = w10 at *
            generalize Value.slice aB2 nB2 cB2 = xa2 at *
            have hI := HI.out
            obtain ⟨aC, cC, hxC⟩ := hI.own.v.slice
            obtain ⟨nC, HNC⟩ : ∃ z : Nat, Hid (z = (A.map (·.2)).length) := ⟨_, rfl⟩
            rw [← HNC.out] at hxC
            have hce : w10.cell? ⟨go, 1, none⟩ = some xv := hI.out.cell 1
            subst hxC
            clear hI
            go_wp2_with (first
              | (with_reducible refine wpSeq_loadD (.tmp 5) (gl + 2) v ?_ ?_ ?_ ?_ ?_ ?_
                 · exact HY32.out
                 · exact HCY.out _ HI.out.bel
                 · with_reducible rfl
                 · rfl
                 · rfl)
              | (with_reducible refine wpSeq_buildD (.tmp 38) v ?_ ?_ ?_ ?_ ?_
                 · exact HY32.out
                 · with_reducible rfl
                 · rfl
                 · rfl
                 intro g8 w8 n8
                 have hI8 := HI.out.next n8.below
                 have HU : Hid (Blk w8 g8 (cb v) 23) := n8.blk
                 clear n8 HI hce)
              | (with_reducible refine wpSeq_appendD (.tmp 37) (.tmp 39) (go + 1) (.slice aC nC cC) _ v g8 hI8.own.v HU.out HY32.out ?_ (Nat.succ_le_of_lt hI8.out.lt) ?_ ?_ ?_ ?_ ?_
                 · rw [List.length_map]; exact Nat.lt_of_lt_of_le HAL.out (by decide)
                 · with_reducible rfl
                 · rfl
                 · rfl
                 · rfl
                 intro z9 w9 o9 g9
                 have hJ := hI8.addV o9 g9
                 have hb9 := hI8.out.grow g9 (fun j hj => (hI8.own.v.lt j hj).1) (Nat.lt_succ_self _)
                 have hc9 := hb9.cell 1
                 have hf9 := hb9.frozen 1
                 simp only [List.getElem?_cons_succ, List.getElem?_cons_zero] at hc9
                 obtain ⟨aC2, cC2, hxC⟩ := o9.slice
                 obtain ⟨nC2, HNC2⟩ : ∃ z : Nat, Hid (z = (A.map (·.2) ++ [v]).length) := ⟨_, rfl⟩
                 rw [← HNC2.out] at hxC
                 subst hxC
                 have HJ : Hid _ := hJ
                 clear o9 g9 hb9 hI8 HU hJ))
            go_meet
            case rel => exact ⟨rfl, _, _, by rw [HA3.out]; simpa using HJ.out⟩
          · have hc2 : (!pt && !ls) = false := by simpa using hc
            rw [hc2]
            have HA3 : Hid (A2 = A) := by show _ = _; rw [HA2.out, hc2]; rfl
            have HPL : Hid ((pt || !ls) = pt) := by show _ = _; cases pt <;> cases ls <;> simp at hc2 ⊢
            go_wp2
            go_meet
            case rel => exact ⟨by rw [HPL.out], _, _, by rw [HA3.out]; exact HI.out⟩
        case rest =>
          clear HI
          obtain ⟨rfl, xa1, xv1, hcut⟩ := hcut
          have HI : Hid (Lv wG go xa1 xv1 (A2.map (·.1)) (A2.map (·.2)) wc) := hcut
          clear hcut
          have HAL2 : Hid (A2.length < 1600000) := by
            show _ < _
            have h1 := HAL.out
            rw [HA2.out]
            split
            · rw [List.length_append]; simp; omega
            · omega
          obtain ⟨wz2, HWQ⟩ : ∃ z, Hid (z = wc) := ⟨_, rfl⟩
          rw [← HWQ.out] at HI ⊢
          clear HWQ HA2 HAL HPT
          have heq : ∀ wx : World, (Op.equalIn 10000 23 (.agg (cb da).toArray) (.agg (cb x).toArray)).run Tryd.prog wx = .ok (decide (da = x)) wx := fun wx => eq_dig da x HA32.out HX32.out wx
          go_upto_region 10 with fail
          go_cut [48] from 42 to 48 (fun b W => b = .bool (!decide (da = x)) ∧ Lv wG go xa1 xv1 (A2.map (·.1)) (A2.map (·.2)) W)
          case first =>
            refine wp_region_held_drew (S := Below go wG) (by kernel_rfl) HI.out.drew.bel ?_
            intro hS
            have hI := HI.out.drew
            clear HI
            change wpAnyH _ _ _ _ _ _ _ _ (World.drew wz2)
            generalize World.drew wz2 = y0 at *
            refine wpAnyH_take (i := 0) (v := .pointer (some ⟨gl, 0, none⟩)) rfl (by kernel_rfl) (by kernel_rfl) (by kernel_rfl) (fun _ _ _ h => h) (Or.inl ⟨by rfl, fun wx hx => by simp [go_sem]⟩) hS ?_
            simp only [Act.put, List.getElem_toArray, List.getElem_cons_zero, List.setIfInBounds_toArray, List.set_cons_zero, List.set_cons_succ]
            refine wpAnyH_take (i := 1) (v := .slice (some ⟨ba, offa, none⟩) n cpa) rfl (by kernel_rfl) (by kernel_rfl) (by kernel_rfl) (fun _ _ _ h => h) (Or.inl ⟨by rfl, fun wx hx => by (have hc := HCA.out wx hx; simp [go_sem, hc])⟩) hS ?_
            simp only [Act.put, List.getElem_toArray, List.getElem_cons_succ, List.getElem_cons_zero, List.setIfInBounds_toArray, List.set_cons_zero, List.set_cons_succ]
            refine wpAnyH_take (i := 2) (v := .int .i64 (k : Int)) rfl (by kernel_rfl) (by kernel_rfl) (by kernel_rfl) (fun _ _ _ h => h) (Or.inl ⟨by rfl, fun wx hx => by simp [go_sem]⟩) hS ?_
            simp only [Act.put, List.getElem_toArray, List.getElem_cons_succ, List.getElem_cons_zero, List.setIfInBounds_toArray, List.set_cons_zero, List.set_cons_succ]
            refine wpAnyH_take (i := 3) (v := .pointer (some ⟨ba, offa + k * 32, none⟩)) rfl (by kernel_rfl) (by kernel_rfl) (by kernel_rfl) (fun _ _ _ h => h) (Or.inl ⟨by rfl, fun wx hx => by (simp [go_sem, hlti, k0])⟩) hS ?_
            simp only [Act.put, List.getElem_toArray, List.getElem_cons_succ, List.getElem_cons_zero, List.setIfInBounds_toArray, List.set_cons_zero, List.set_cons_succ]
            refine wpAnyH_take (i := 4) (v := .agg (cb da).toArray) rfl (by kernel_rfl) (by kernel_rfl) (by kernel_rfl) (fun _ _ _ h => h) (Or.inl ⟨by rfl, fun wx hx => by exact load_run 23 _ rfl _ _ rfl (cb da) _ (HRA.out wx hx) Tryd.underlying23 rfl (by rw [cb_len, HA32.out]; exact info_digest)⟩) hS ?_
            simp only [Act.put, List.getElem_toArray, List.getElem_cons_succ, List.getElem_cons_zero, List.setIfInBounds_toArray, List.set_cons_zero, List.set_cons_succ]
            refine wpAnyH_take (i := 5) (v := .agg (cb x).toArray) rfl (by kernel_rfl) (by kernel_rfl) (by kernel_rfl) (fun _ _ _ h => h) (Or.inl ⟨by rfl, fun wx hx => by exact loadDigest _ (gl + 1) x HX32.out (HCX.out wx hx) rfl rfl⟩) hS ?_
            simp only [Act.put, List.getElem_toArray, List.getElem_cons_succ, List.getElem_cons_zero, List.setIfInBounds_toArray, List.set_cons_zero, List.set_cons_succ]
            refine wpAnyH_take (i := 6) (v := .bool (!decide (da = x))) rfl (by kernel_rfl) (by kernel_rfl) (by kernel_rfl) (fun _ _ _ h => h) (Or.inl ⟨by rfl, fun wx hx => by (have hq := heq wx; simp [go_sem, hq])⟩) hS ?_
            simp only [Act.put, List.getElem_toArray, List.getElem_cons_succ, List.getElem_cons_zero, List.setIfInBounds_toArray, List.set_cons_zero, List.set_cons_succ]
            refine wpAnyH_done (by kernel_rfl) ?_ _
            go_wp2
            go_meet
            case rel => exact ⟨rfl, hI⟩
          case rest =>
            clear HI heq
            obtain ⟨rfl, hcut⟩ := hcut
            have HI : Hid (Lv wG go xa1 xv1 (A2.map (·.1)) (A2.map (·.2)) wc) := hcut
            clear hcut
            obtain ⟨wq, HWQ⟩ : ∃ z, Hid (z = wc) := ⟨_, rfl⟩
            rw [← HWQ.out] at HI ⊢
            clear HWQ
            by_cases hne : da = x
            · have HN3 : Hid (PtI l x v (k + 1) (pt || !ls) A2) := by
                have h := HNX.out
                rw [decide_eq_false (by simp [hne])] at h
                show PtI _ _ _ _ _ _
                simpa using h
              rw [decide_eq_true hne]
              clear hne HNX
              go_wp2
              go_roundw
              case rel => exact ⟨k + 1, _, _, _, _, by omega, rfl, by simp, HI.out, HN3.out⟩
              case measure => simp [intOf]; omega
            · have HN3 : Hid (PtI l x v (k + 1) (pt || !ls) (A2 ++ [(da, dv)])) := by
                have h := HNX.out
                rw [decide_eq_true (by simpa using hne)] at h
                exact h
              rw [decide_eq_false hne]
              clear hne HNX
              go_wp2_with fail
              refine wp_region_held_drew (S := Below go wG) (by kernel_rfl) HI.out.drew.bel ?_
              intro hS
              have hI := HI.out.drew
              clear HI
              change wpAnyH _ _ _ _ _ _ _ _ (World.drew wq)
              generalize World.drew wq = yD at *
              refine wpAnyH_take (i := 0) (v := .pointer (some ⟨go, 0, none⟩)) rfl (by kernel_rfl) (by kernel_rfl) (by kernel_rfl) (fun _ _ _ h => h) (Or.inl ⟨by rfl, fun wx hx => by simp [go_sem]⟩) hS ?_
              simp only [Act.put, List.getElem_toArray, List.getElem_cons_zero, List.setIfInBounds_toArray, List.set_cons_zero, List.set_cons_succ]
              refine wpAnyH_take (i := 2) (v := .pointer (some ⟨gl, 0, none⟩)) rfl (by kernel_rfl) (by kernel_rfl) (by kernel_rfl) (fun _ _ _ h => h) (Or.inl ⟨by rfl, fun wx hx => by simp [go_sem]⟩) hS ?_
              simp only [Act.put, List.getElem_toArray, List.getElem_cons_succ, List.getElem_cons_zero, List.setIfInBounds_toArray, List.set_cons_zero, List.set_cons_succ]
              refine wpAnyH_take (i := 4) (v := .int .i64 (k : Int)) rfl (by kernel_rfl) (by kernel_rfl) (by kernel_rfl) (fun _ _ _ h => h) (Or.inl ⟨by rfl, fun wx hx => by simp [go_sem]⟩) hS ?_
              simp only [Act.put, List.getElem_toArray, List.getElem_cons_succ, List.getElem_cons_zero, List.setIfInBounds_toArray, List.set_cons_zero, List.set_cons_succ]
              refine wpAnyH_take (i := 3) (v := .slice (some ⟨ba, offa, none⟩) n cpa) rfl (by kernel_rfl) (by kernel_rfl) (by kernel_rfl) (fun _ _ _ h => h) (Or.inl ⟨by rfl, fun wx hx => by (have hc := HCA.out wx hx; simp [go_sem, hc])⟩) hS ?_
              simp only [Act.put, List.getElem_toArray, List.getElem_cons_succ, List.getElem_cons_zero, List.setIfInBounds_toArray, List.set_cons_zero, List.set_cons_succ]
              refine wpAnyH_take (i := 5) (v := .pointer (some ⟨ba, offa + k * 32, none⟩)) rfl (by kernel_rfl) (by kernel_rfl) (by kernel_rfl) (fun _ _ _ h => h) (Or.inl ⟨by rfl, fun wx hx => by (simp [go_sem, hlti, k0])⟩) hS ?_
              simp only [Act.put, List.getElem_toArray, List.getElem_cons_succ, List.getElem_cons_zero, List.setIfInBounds_toArray, List.set_cons_zero, List.set_cons_succ]
              refine wpAnyH_take (i := 6) (v := .agg (cb da).toArray) rfl (by kernel_rfl) (by kernel_rfl) (by kernel_rfl) (fun _ _ _ h => h) (Or.inl ⟨by rfl, fun wx hx => by exact load_run 23 _ rfl _ _ rfl (cb da) _ (HRA.out wx hx) Tryd.underlying23 rfl (by rw [cb_len, HA32.out]; exact info_digest)⟩) hS ?_
              simp only [Act.put, List.getElem_toArray, List.getElem_cons_succ, List.getElem_cons_zero, List.setIfInBounds_toArray, List.set_cons_zero, List.set_cons_succ]
              have hnb := NewB.of da yD
              have hn1 := hI.next hnb.below
              obtain ⟨aD, cD, hxD⟩ := hI.own.a.slice
              obtain ⟨nD, HND⟩ : ∃ z : Nat, Hid (z = (A2.map (·.1)).length) := ⟨_, rfl⟩
              rw [← HND.out] at hxD
              have hce : yD.cell? ⟨go, 0, none⟩ = some xa1 := hI.out.cell 0
              have hce2 : (yD.alloc (.cells (cb da).toArray 23)).cell? ⟨go, 0, none⟩ = some xa1 := hn1.out.cell 0
              subst hxD
              refine wpAnyH_comm 1 7 (.slice aD nD cD) (.slice (some ⟨yD.heap.size, 0, none⟩) 1 1) (yD.alloc (.cells (cb da).toArray 23)) (by kernel_rfl) rfl rfl (by rfl) (by rfl) (by rfl) (by rfl) (by simp [go_sem, hce]) (buildD _ _ _ rfl da HA32.out rfl _) (by simp [go_sem, hce2]) (buildD _ _ _ rfl da HA32.out rfl _) (by kernel_rfl) (by kernel_rfl) (by rfl) (by rfl) hS hn1.bel ?_
              simp only [Act.put, List.getElem_toArray, List.getElem_cons_succ, List.getElem_cons_zero, List.setIfInBounds_toArray, List.set_cons_zero, List.set_cons_succ]
              have hI2 := hn1
              have HU : Hid (Blk (yD.alloc (.cells (cb da).toArray 23)) yD.heap.size (cb da) 23) := hnb.blk
              clear hn1 hnb hce hce2 hS hI
              refine wpAnyH_law 8 (by kernel_rfl) rfl (by rfl) (wp_appendG (.tmp 50) (.tmp 56) (go + 1) (.slice aD nD cD) _ da yD.heap.size hI2.own.a HU.out HA32.out (by rw [List.length_map]; exact Nat.lt_of_lt_of_le HAL2.out (by decide)) hI2.out.lt rfl rfl rfl ?_)
              intro zD qD hoD hgD
              have hI := hI2.addA hoD hgD
              have hsq : Below go wG qD := hI2.bel.trans (hgD.below.mono (Nat.le_succ _))
              have hbq := hI2.out.grow hgD (fun j hj => (hI2.own.a.lt j hj).1) (Nat.lt_succ_self _)
              have hcq := hbq.cell 0
              have hfq := hbq.frozen 0
              obtain ⟨aD2, cD2, hxD⟩ := hoD.slice
              obtain ⟨nD2, HND2⟩ : ∃ z : Nat, Hid (z = (A2.map (·.1) ++ [da]).length) := ⟨_, rfl⟩
              rw [← HND2.out] at hxD
              subst hxD
              refine ⟨hsq, ?_⟩
              simp only [Act.put, List.getElem_toArray, List.getElem_cons_succ, List.getElem_cons_zero, List.setIfInBounds_toArray, List.set_cons_zero, List.set_cons_succ]
              refine wpAnyH_take (i := 9) (v := .pointer (some ⟨go, 0, none⟩)) rfl (by kernel_rfl) (by kernel_rfl) (by kernel_rfl) (fun _ _ _ h => h) (Or.inl ⟨by rfl, fun wx hx => by simp [go_sem]⟩) hsq ?_
              simp only [Act.put, List.getElem_toArray, List.getElem_cons_succ, List.getElem_cons_zero, List.setIfInBounds_toArray, List.set_cons_zero, List.set_cons_succ]
              refine wpAnyH_skip 10 (qD.setCell ⟨go, 0, none⟩ (.slice aD2 nD2 cD2)) (by kernel_rfl) rfl (by rfl) (by simp [go_sem, hcq, hfq]) hI.bel ?_
              simp only [Act.put, List.getElem_toArray, List.getElem_cons_succ, List.getElem_cons_zero]
              refine wpAnyH_done (by kernel_rfl) ?_ _
              clear hoD hgD hsq hbq hcq hfq hI2 HU
              generalize qD.setCell ⟨go, 0, none⟩ (.slice aD2 nD2 cD2) = WD at *
              have HI : Hid (Lv wG go (.slice aD2 nD2 cD2) xv1 (A2.map (·.1) ++ [da]) (A2.map (·.2)) WD) := hI
              clear hI HRA HCA
              generalize Value.slice aD2 nD2 cD2 = xa2 at *
              go_wp2_with fail
              refine wp_region_held_drew (S := Below go wG) (by kernel_rfl) HI.out.drew.bel ?_
              intro hS
              have hI := HI.out.drew
              clear HI
              change wpAnyH _ _ _ _ _ _ _ _ (World.drew WD)
              generalize World.drew WD = yE at *
              refine wpAnyH_take (i := 0) (v := .pointer (some ⟨go, 1, none⟩)) rfl (by kernel_rfl) (by kernel_rfl) (by kernel_rfl) (fun _ _ _ h => h) (Or.inl ⟨by rfl, fun wx hx => by simp [go_sem]⟩) hS ?_
              simp only [Act.put, List.getElem_toArray, List.getElem_cons_zero, List.setIfInBounds_toArray, List.set_cons_zero, List.set_cons_succ]
              refine wpAnyH_take (i := 2) (v := .pointer (some ⟨gl, 1, none⟩)) rfl (by kernel_rfl) (by kernel_rfl) (by kernel_rfl) (fun _ _ _ h => h) (Or.inl ⟨by rfl, fun wx hx => by simp [go_sem]⟩) hS ?_
              simp only [Act.put, List.getElem_toArray, List.getElem_cons_succ, List.getElem_cons_zero, List.setIfInBounds_toArray, List.set_cons_zero, List.set_cons_succ]
              refine wpAnyH_take (i := 4) (v := .int .i64 (k : Int)) rfl (by kernel_rfl) (by kernel_rfl) (by kernel_rfl) (fun _ _ _ h => h) (Or.inl ⟨by rfl, fun wx hx => by simp [go_sem]⟩) hS ?_
              simp only [Act.put, List.getElem_toArray, List.getElem_cons_succ, List.getElem_cons_zero, List.setIfInBounds_toArray, List.set_cons_zero, List.set_cons_succ]
              refine wpAnyH_take (i := 3) (v := .slice (some ⟨bv, offv, none⟩) n cpv) rfl (by kernel_rfl) (by kernel_rfl) (by kernel_rfl) (fun _ _ _ h => h) (Or.inl ⟨by rfl, fun wx hx => by (have hc := HCV.out wx hx; simp [go_sem, hc])⟩) hS ?_
              simp only [Act.put, List.getElem_toArray, List.getElem_cons_succ, List.getElem_cons_zero, List.setIfInBounds_toArray, List.set_cons_zero, List.set_cons_succ]
              refine wpAnyH_take (i := 5) (v := .pointer (some ⟨bv, offv + k * 32, none⟩)) rfl (by kernel_rfl) (by kernel_rfl) (by kernel_rfl) (fun _ _ _ h => h) (Or.inl ⟨by rfl, fun wx hx => by (simp [go_sem, hlti, k0])⟩) hS ?_
              simp only [Act.put, List.getElem_toArray, List.getElem_cons_succ, List.getElem_cons_zero, List.setIfInBounds_toArray, List.set_cons_zero, List.set_cons_succ]
              refine wpAnyH_take (i := 6) (v := .agg (cb dv).toArray) rfl (by kernel_rfl) (by kernel_rfl) (by kernel_rfl) (fun _ _ _ h => h) (Or.inl ⟨by rfl, fun wx hx => by exact load_run 23 _ rfl _ _ rfl (cb dv) _ (HRV.out wx hx) Tryd.underlying23 rfl (by rw [cb_len, HV32.out]; exact info_digest)⟩) hS ?_
              simp only [Act.put, List.getElem_toArray, List.getElem_cons_succ, List.getElem_cons_zero, List.setIfInBounds_toArray, List.set_cons_zero, List.set_cons_succ]
              have hnb := NewB.of dv yE
              have hn1 := hI.next hnb.below
              obtain ⟨aE, cE, hxE⟩ := hI.own.v.slice
              obtain ⟨nE, HNE⟩ : ∃ z : Nat, Hid (z = (A2.map (·.2)).length) := ⟨_, rfl⟩
              rw [← HNE.out] at hxE
              have hce : yE.cell? ⟨go, 1, none⟩ = some xv1 := hI.out.cell 1
              have hce2 : (yE.alloc (.cells (cb dv).toArray 23)).cell? ⟨go, 1, none⟩ = some xv1 := hn1.out.cell 1
              subst hxE
              refine wpAnyH_comm 1 7 (.slice aE nE cE) (.slice (some ⟨yE.heap.size, 0, none⟩) 1 1) (yE.alloc (.cells (cb dv).toArray 23)) (by kernel_rfl) rfl rfl (by rfl) (by rfl) (by rfl) (by rfl) (by simp [go_sem, hce]) (buildD _ _ _ rfl dv HV32.out rfl _) (by simp [go_sem, hce2]) (buildD _ _ _ rfl dv HV32.out rfl _) (by kernel_rfl) (by kernel_rfl) (by rfl) (by rfl) hS hn1.bel ?_
              simp only [Act.put, List.getElem_toArray, List.getElem_cons_succ, List.getElem_cons_zero, List.setIfInBounds_toArray, List.set_cons_zero, List.set_cons_succ]
              have hI2 := hn1
              have HU : Hid (Blk (yE.alloc (.cells (cb dv).toArray 23)) yE.heap.size (cb dv) 23) := hnb.blk
              clear hn1 hnb hce hce2 hS hI
              refine wpAnyH_law 8 (by kernel_rfl) rfl (by rfl) (wp_appendG (.tmp 60) (.tmp 66) (go + 1) (.slice aE nE cE) _ dv yE.heap.size hI2.own.v HU.out HV32.out (by rw [List.length_map]; exact Nat.lt_of_lt_of_le HAL2.out (by decide)) hI2.out.lt rfl rfl rfl ?_)
              intro zE qE hoE hgE
              have hI := hI2.addV hoE hgE
              have hsq : Below go wG qE := hI2.bel.trans (hgE.below.mono (Nat.le_succ _))
              have hbq := hI2.out.grow hgE (fun j hj => (hI2.own.v.lt j hj).1) (Nat.lt_succ_self _)
              have hcq := hbq.cell 1
              have hfq := hbq.frozen 1
              obtain ⟨aE2, cE2, hxE⟩ := hoE.slice
              obtain ⟨nE2, HNE2⟩ : ∃ z : Nat, Hid (z = (A2.map (·.2) ++ [dv]).length) := ⟨_, rfl⟩
              rw [← HNE2.out] at hxE
              subst hxE
              refine ⟨hsq, ?_⟩
              simp only [Act.put, List.getElem_toArray, List.getElem_cons_succ, List.getElem_cons_zero, List.setIfInBounds_toArray, List.set_cons_zero, List.set_cons_succ]
              refine wpAnyH_take (i := 9) (v := .pointer (some ⟨go, 1, none⟩)) rfl (by kernel_rfl) (by kernel_rfl) (by kernel_rfl) (fun _ _ _ h => h) (Or.inl ⟨by rfl, fun wx hx => by simp [go_sem]⟩) hsq ?_
              simp only [Act.put, List.getElem_toArray, List.getElem_cons_succ, List.getElem_cons_zero, List.setIfInBounds_toArray, List.set_cons_zero, List.set_cons_succ]
              refine wpAnyH_skip 10 (qE.setCell ⟨go, 1, none⟩ (.slice aE2 nE2 cE2)) (by kernel_rfl) rfl (by rfl) (by simp [go_sem, hcq, hfq]) hI.bel ?_
              simp only [Act.put, List.getElem_toArray, List.getElem_cons_succ, List.getElem_cons_zero]
              refine wpAnyH_done (by kernel_rfl) ?_ _
              clear hoE hgE hsq hbq hcq hfq hI2 HU
              generalize qE.setCell ⟨go, 1, none⟩ (.slice aE2 nE2 cE2) = WE at *
              have HJ : Hid (Lv wG go xa2 (.slice aE2 nE2 cE2) ((A2 ++ [(da, dv)]).map (·.1)) ((A2 ++ [(da, dv)]).map (·.2)) WE) := by
                show Lv _ _ _ _ _ _ _
                simpa using hI
              clear hI
              go_wp2
              go_roundw
              case rel => exact ⟨k + 1, _, _, _, _, by omega, rfl, by simp, HJ.out, HN3.out⟩
              case measure => simp [intOf]; omega
    · have hkn : k = n := by omega
      subst hkn
      have ht : l.take k = l := by rw [HN.out]; exact List.take_length
      have HDN : Hid (putL l x v = A ++ if pt then [] else [(x, v)]) := HPT.out.done ht
      clear HPT ht
      cases pt with
      | true =>
        replace HDN : Hid (putL l x v = A) := by have h := HDN.out; show _ = _; simpa using h
        have hI2 := HI.out
        obtain ⟨adx, cpx, hxa⟩ := hI2.own.a.slice
        obtain ⟨adw, cpw, hxv⟩ := hI2.own.v.slice
        obtain ⟨nx, HNX⟩ : ∃ z : Nat, Hid (z = (A.map (·.1)).length) := ⟨_, rfl⟩
        obtain ⟨nw, HNW⟩ : ∃ z : Nat, Hid (z = (A.map (·.2)).length) := ⟨_, rfl⟩
        rw [← HNX.out] at hxa
        rw [← HNW.out] at hxv
        subst hxa hxv
        have HE : Hid (Lv wG go (.slice adx nx cpx) (.slice adw nw cpw) (A.map (·.1)) (A.map (·.2)) wr) := hI2
        have d0 : wr.cell? ⟨go, 0, none⟩ = some (.slice adx nx cpx) := hI2.out.cell 0
        have d1 : wr.cell? ⟨go, 1, none⟩ = some (.slice adw nw cpw) := hI2.out.cell 1
        have hr := HRB.out.below hI2.bel (by have := HSZ.out; omega)
        have r0 : wr.cell? ⟨gl + 3, 0, none⟩ = some (.slice none 0 0) := hr.cell 0
        have r1 : wr.cell? ⟨gl + 3, 1, none⟩ = some (.slice none 0 0) := hr.cell 1
        have q0 : wr.frozen? ⟨gl + 3, 0, none⟩ = false := hr.frozen 0
        have q1 : wr.frozen? ⟨gl + 3, 1, none⟩ = false := hr.frozen 1
        have HRR : Hid (Blk wr (gl + 3) [nilV, nilV] 39) := hr
        clear hI2 hr HI
        go_wp2
        have hB6 : Blk ((wr.setCell ⟨gl + 3, 0, none⟩ (.slice adx nx cpx)).setCell ⟨gl + 3, 1, none⟩ (.slice adw nw cpw)) (gl + 3) [.slice adx nx cpx, .slice adw nw cpw] 39 := (HRR.out.set 0 _).set 1 _
        refine bodyPost_ret (v := .agg [.slice adx nx cpx, .slice adw nw cpw].toArray) (results_cell_row (by rfl) _ _ (gl + 3) 39 _ (0, 0) _ rfl hB6 Tryd.underlying39 rfl (by kernel_rfl)) rfl ⟨_, _, rfl, ?_, ?_⟩
        · rw [HDN.out]
          refine (HE.out.own.keep fun j h1 _ => ?_).mono (by have h1 := HSZ.out; have h2 := HGL.out; omega)
          rw [Below.heap_setCell _ _ _ _ (by show j ≠ gl + 3; have := HSZ.out; omega), Below.heap_setCell _ _ _ _ (by show j ≠ gl + 3; have := HSZ.out; omega)]
        · exact ((HBW.out.trans (HE.out.bel.mono (by have h1 := HSZ.out; have h2 := HGL.out; omega))).setCell (by show w.heap.size ≤ gl + 3; have := HGL.out; omega) _).setCell (by show w.heap.size ≤ gl + 3; have := HGL.out; omega) _
      | false =>
        replace HDN : Hid (putL l x v = A ++ [(x, v)]) := by have h := HDN.out; show _ = _; simpa using h
        have hI := HI.out
        obtain ⟨aB, cB, hxB⟩ := hI.own.a.slice
        obtain ⟨nB, HNB⟩ : ∃ z : Nat, Hid (z = (A.map (·.1)).length) := ⟨_, rfl⟩
        rw [← HNB.out] at hxB
        have hce : wr.cell? ⟨go, 0, none⟩ = some xa := hI.out.cell 0
        subst hxB
        clear hI
        go_upto_region 15 with (first
          | (with_reducible refine wpSeq_loadD (.tmp 4) (gl + 1) x ?_ ?_ ?_ ?_ ?_ ?_
             · exact HX32.out
             · exact HCX.out _ HI.out.bel
             · with_reducible rfl
             · rfl
             · rfl)
          | (with_reducible refine wpSeq_buildD (.tmp 73) x ?_ ?_ ?_ ?_ ?_
             · exact HX32.out
             · with_reducible rfl
             · rfl
             · rfl
             intro g8 w8 n8
             have hI8 := HI.out.next n8.below
             have HU : Hid (Blk w8 g8 (cb x) 23) := n8.blk
             clear n8 HI hce)
          | (with_reducible refine wpSeq_appendD (.tmp 72) (.tmp 74) (go + 1) (.slice aB nB cB) _ x g8 hI8.own.a HU.out HX32.out ?_ (Nat.succ_le_of_lt hI8.out.lt) ?_ ?_ ?_ ?_ ?_
             · rw [List.length_map]; exact Nat.lt_of_lt_of_le HAL.out (by decide)
             · with_reducible rfl
             · rfl
             · rfl
             · rfl
             intro z9 w9 o9 g9
             have hJ := hI8.addA o9 g9
             have hb9 := hI8.out.grow g9 (fun j hj => (hI8.own.a.lt j hj).1) (Nat.lt_succ_self _)
             have hc9 := hb9.cell 0
             have hf9 := hb9.frozen 0
             simp only [List.getElem?_cons_zero] at hc9
             obtain ⟨aB2, cB2, hxB⟩ := o9.slice
             obtain ⟨nB2, HNB2⟩ : ∃ z : Nat, Hid (z = (A.map (·.1) ++ [x]).length) := ⟨_, rfl⟩
             rw [← HNB2.out] at hxB
             subst hxB
             have HJ : Hid _ := hJ
             clear o9 g9 hb9 hI8 HU hJ))
        have HI := HJ
        clear HJ hc9 hf9
        generalize w9.setCell ⟨go, 0, none⟩ (.slice aB2 nB2 cB2) = w10 at *
        generalize Value.slice aB2 nB2 cB2 = xa2 at *
        have hI := HI.out
        obtain ⟨aC, cC, hxC⟩ := hI.own.v.slice
        obtain ⟨nC, HNC⟩ : ∃ z : Nat, Hid (z = (A.map (·.2)).length) := ⟨_, rfl⟩
        rw [← HNC.out] at hxC
        have hce : w10.cell? ⟨go, 1, none⟩ = some xv := hI.out.cell 1
        subst hxC
        clear hI
        go_upto_region 16 with (first
          | (with_reducible refine wpSeq_loadD (.tmp 5) (gl + 2) v ?_ ?_ ?_ ?_ ?_ ?_
             · exact HY32.out
             · exact HCY.out _ HI.out.bel
             · with_reducible rfl
             · rfl
             · rfl)
          | (with_reducible refine wpSeq_buildD (.tmp 79) v ?_ ?_ ?_ ?_ ?_
             · exact HY32.out
             · with_reducible rfl
             · rfl
             · rfl
             intro g8 w8 n8
             have hI8 := HI.out.next n8.below
             have HU : Hid (Blk w8 g8 (cb v) 23) := n8.blk
             clear n8 HI hce)
          | (with_reducible refine wpSeq_appendD (.tmp 78) (.tmp 80) (go + 1) (.slice aC nC cC) _ v g8 hI8.own.v HU.out HY32.out ?_ (Nat.succ_le_of_lt hI8.out.lt) ?_ ?_ ?_ ?_ ?_
             · rw [List.length_map]; exact Nat.lt_of_lt_of_le HAL.out (by decide)
             · with_reducible rfl
             · rfl
             · rfl
             · rfl
             intro z9 w9 o9 g9
             have hJ := hI8.addV o9 g9
             have hb9 := hI8.out.grow g9 (fun j hj => (hI8.own.v.lt j hj).1) (Nat.lt_succ_self _)
             have hc9 := hb9.cell 1
             have hf9 := hb9.frozen 1
             simp only [List.getElem?_cons_succ, List.getElem?_cons_zero] at hc9
             obtain ⟨aC2, cC2, hxC⟩ := o9.slice
             obtain ⟨nC2, HNC2⟩ : ∃ z : Nat, Hid (z = (A.map (·.2) ++ [v]).length) := ⟨_, rfl⟩
             rw [← HNC2.out] at hxC
             subst hxC
             have HJ : Hid _ := hJ
             clear o9 g9 hb9 hI8 HU hJ))
        have HI : Hid (Lv wG go xa2 (.slice aC2 nC2 cC2) ((A ++ [(x, v)]).map (·.1)) ((A ++ [(x, v)]).map (·.2)) (w9.setCell ⟨go, 1, none⟩ (.slice aC2 nC2 cC2))) := by
          show Lv _ _ _ _ _ _ _
          simpa using HJ.out
        clear HJ hc9 hf9
        generalize w9.setCell ⟨go, 1, none⟩ (.slice aC2 nC2 cC2) = w11 at *
        generalize Value.slice aC2 nC2 cC2 = xv2 at *
        have hI2 := HI.out
        obtain ⟨adx, cpx, hxa⟩ := hI2.own.a.slice
        obtain ⟨adw, cpw, hxv⟩ := hI2.own.v.slice
        obtain ⟨nx, HNX⟩ : ∃ z : Nat, Hid (z = ((A ++ [(x, v)]).map (·.1)).length) := ⟨_, rfl⟩
        obtain ⟨nw, HNW⟩ : ∃ z : Nat, Hid (z = ((A ++ [(x, v)]).map (·.2)).length) := ⟨_, rfl⟩
        rw [← HNX.out] at hxa
        rw [← HNW.out] at hxv
        subst hxa hxv
        have HE : Hid (Lv wG go (.slice adx nx cpx) (.slice adw nw cpw) ((A ++ [(x, v)]).map (·.1)) ((A ++ [(x, v)]).map (·.2)) w11) := hI2
        have d0 : w11.cell? ⟨go, 0, none⟩ = some (.slice adx nx cpx) := hI2.out.cell 0
        have d1 : w11.cell? ⟨go, 1, none⟩ = some (.slice adw nw cpw) := hI2.out.cell 1
        have hr := HRB.out.below hI2.bel (by have := HSZ.out; omega)
        have r0 : w11.cell? ⟨gl + 3, 0, none⟩ = some (.slice none 0 0) := hr.cell 0
        have r1 : w11.cell? ⟨gl + 3, 1, none⟩ = some (.slice none 0 0) := hr.cell 1
        have q0 : w11.frozen? ⟨gl + 3, 0, none⟩ = false := hr.frozen 0
        have q1 : w11.frozen? ⟨gl + 3, 1, none⟩ = false := hr.frozen 1
        have HRR : Hid (Blk w11 (gl + 3) [nilV, nilV] 39) := hr
        clear hI2 hr HI
        go_wp2
        have hB6 : Blk ((w11.setCell ⟨gl + 3, 0, none⟩ (.slice adx nx cpx)).setCell ⟨gl + 3, 1, none⟩ (.slice adw nw cpw)) (gl + 3) [.slice adx nx cpx, .slice adw nw cpw] 39 := (HRR.out.set 0 _).set 1 _
        refine bodyPost_ret (v := .agg [.slice adx nx cpx, .slice adw nw cpw].toArray) (results_cell_row (by rfl) _ _ (gl + 3) 39 _ (0, 0) _ rfl hB6 Tryd.underlying39 rfl (by kernel_rfl)) rfl ⟨_, _, rfl, ?_, ?_⟩
        · rw [HDN.out]
          refine (HE.out.own.keep fun j h1 _ => ?_).mono (by have h1 := HSZ.out; have h2 := HGL.out; omega)
          rw [Below.heap_setCell _ _ _ _ (by show j ≠ gl + 3; have := HSZ.out; omega), Below.heap_setCell _ _ _ _ (by show j ≠ gl + 3; have := HSZ.out; omega)]
        · exact ((HBW.out.trans (HE.out.bel.mono (by have h1 := HSZ.out; have h2 := HGL.out; omega))).setCell (by show w.heap.size ≤ gl + 3; have := HGL.out; omega) _).setCell (by show w.heap.size ≤ gl + 3; have := HGL.out; omega) _
end Go.Proofs.YtmmhdchhajmbfaaDoor
/- The walk of the reference's Of. -/
namespace Go.Proofs.YtmmhdchhajmbfaaDoor
open Go.RowKit
set_option maxRecDepth 100000
theorem Lv.renew {wG W W' : World} {go : Nat} {xa xv xa' xv' : Value} {la lv la' lv' : List (List (BitVec 8))} (h : Lv wG go xa xv la lv W) (hb : Below W.heap.size W W') (ho : OwnLf W' W.heap.size xa' xv' la' lv') : Lv wG go xa' xv' la' lv' ((W'.setCell ⟨go, 0, none⟩ xa').setCell ⟨go, 1, none⟩ xv') := by
  have hn := h.next hb
  have hlt := h.out.lt
  refine ⟨h.sz, (hn.out.set 0 _).set 1 _, (ho.mono (Nat.succ_le_of_lt hlt)).keep fun j h1 _ => ?_, (hn.bel.setCell (Nat.le_refl _) _).setCell (Nat.le_refl _) _⟩
  rw [Below.heap_setCell _ _ _ _ (by show j ≠ go; omega), Below.heap_setCell _ _ _ _ (by show j ≠ go; omega)]
theorem ofL_len (z : List Lf) : (ofL z).length ≤ z.length := by
  have key : ∀ (z l : List Lf), (z.foldl (fun l p => putL l p.1 p.2) l).length ≤ l.length + z.length := by
    intro z
    induction z with
    | nil => intro l; exact Nat.le_refl _
    | cons a r ih =>
      intro l
      have h1 := ih (putL l a.1 a.2)
      have h2 := putL_len l a.1 a.2
      rw [List.foldl_cons, List.length_cons]
      omega
  have := key z []
  simpa [ofL] using this
theorem zip_take {ds es : List (List (BitVec 8))} {k : Nat} (h1 : k < ds.length) (h2 : k < es.length) : (ds.zip es).take (k + 1) = (ds.zip es).take k ++ [(ds.getD k [], es.getD k [])] := by
  have hk : k < (ds.zip es).length := by rw [List.length_zip]; omega
  rw [List.take_add_one, List.getElem?_eq_getElem hk, List.getElem_zip, List.getD_eq_getElem?_getD, List.getD_eq_getElem?_getD, List.getElem?_eq_getElem h1, List.getElem?_eq_getElem h2]
  rfl
theorem zip_whole {ds es : List (List (BitVec 8))} {k : Nat} (h : ds.length ≤ k ∨ es.length ≤ k) : (ds.zip es).take k = ds.zip es := by
  apply List.take_of_length_le
  rw [List.length_zip]
  omega
set_option maxRecDepth 100000 in
set_option maxHeartbeats 4000000 in
theorem lfOf_any (vt vu : Value) (ds es : List (List (BitVec 8))) (w : World) (hT : ReadsD w vt ds) (hU : ReadsD w vu es) (hl : ds.length < 1000000) :
    Calls Tryd.prog 17 #[vt, vu] w fun e w' => ∃ xa xv, e = .returned (.agg #[xa, xv]) ∧ OwnLf w' w.heap.size xa xv ((ofL (ds.zip es)).map (·.1)) ((ofL (ds.zip es)).map (·.2)) ∧ Below w.heap.size w w' := by
  have HT : Hid (ReadsD w vt ds) := hT
  have HU : Hid (ReadsD w vu es) := hU
  have HL : Hid (ds.length < 1000000) := hl
  obtain ⟨n, HN⟩ : ∃ n, Hid (n = ds.length) := ⟨_, rfl⟩
  obtain ⟨m, HM⟩ : ∃ n, Hid (n = es.length) := ⟨_, rfl⟩
  obtain ⟨adt, cpt, hvt⟩ := hT.slice
  obtain ⟨adu, cpu, hvu⟩ := hU.slice
  rw [← HN.out] at hvt
  rw [← HM.out] at hvu
  subst hvt hvu
  clear hT hU hl
  obtain ⟨gr, HGL⟩ : ∃ g, Hid (g = w.heap.size) := ⟨_, rfl⟩
  obtain ⟨wG, HWG⟩ : ∃ z, Hid (z = w.alloc (.cells [nilV, nilV].toArray 39)) := ⟨_, rfl⟩
  have HRB : Hid (Blk wG gr [nilV, nilV] 39) := by rw [HWG.out, HGL.out]; exact Blk.new w _ _
  have HBW : Hid (Below w.heap.size w wG) := by rw [HWG.out]; exact below_alloc w _
  obtain ⟨go, HGO⟩ : ∃ g, Hid (g = wG.heap.size) := ⟨_, rfl⟩
  have HSZ : Hid (go = gr + 1) := by show _ = _; rw [HGO.out, HWG.out, HGL.out]; simp
  have HI : Hid (Lv wG go nilV nilV [] [] (wG.alloc (.cells [nilV, nilV].toArray 39))) := by rw [HGO.out]; exact Lv.start wG
  go_enter Tryd.func17, Tryd.ntmps17
  go_wp2
  have e0 : (some ⟨w.heap.size, 0, none⟩ : Option Addr) = some ⟨gr, 0, none⟩ := by rw [HGL.out]
  have e1 : (some ⟨w.heap.size + 1, 0, none⟩ : Option Addr) = some ⟨go, 0, none⟩ := by rw [HSZ.out, HGL.out]
  simp only [e0, e1]
  clear e0 e1
  change Code.wp _ _ _ _ ((w.alloc (.cells [nilV, nilV].toArray 39)).alloc (.cells [nilV, nilV].toArray 39))
  rw [← HWG.out]
  generalize wG.alloc (.cells [nilV, nilV].toArray 39) = w0 at *
  clear HWG HGO
  go_loopw [6] (fun j wr => ∃ (k : Nat) (xa xv : Value), k ≤ n ∧ j = .int .i64 (k : Int) ∧ Lv wG go xa xv ((ofL ((ds.zip es).take k)).map (·.1)) ((ofL ((ds.zip es).take k)).map (·.2)) wr) (fun j _ => n - (intOf j).toNat)
  case atStart => exact ⟨0, nilV, nilV, by omega, rfl, by simpa [ofL] using HI.out⟩
  case round =>
    clear HI
    obtain ⟨k, xa, xv, hk, rfl, hI⟩ := hrel
    have hI2 := hI
    obtain ⟨adx, cpx, hxa⟩ := hI2.own.a.slice
    obtain ⟨adw, cpw, hxv⟩ := hI2.own.v.slice
    obtain ⟨nx, HNX⟩ : ∃ z : Nat, Hid (z = ((ofL ((ds.zip es).take k)).map (·.1)).length) := ⟨_, rfl⟩
    obtain ⟨nw, HNW⟩ : ∃ z : Nat, Hid (z = ((ofL ((ds.zip es).take k)).map (·.2)).length) := ⟨_, rfl⟩
    rw [← HNX.out] at hxa
    rw [← HNW.out] at hxv
    subst hxa hxv
    have HI : Hid (Lv wG go (.slice adx nx cpx) (.slice adw nw cpw) ((ofL ((ds.zip es).take k)).map (·.1)) ((ofL ((ds.zip es).take k)).map (·.2)) wr) := hI
    clear hI hI2
    by_cases hlt : k < n ∧ k < m
    · obtain ⟨hlt1, hlt2⟩ := hlt
      have hlti : (k : Int) < (n : Int) := by omega
      have hltj : (k : Int) < (m : Int) := by omega
      have k0 : (0 : Int) ≤ (k : Int) := by omega
      have hn6 : n < 1000000 := by rw [HN.out]; exact HL.out
      have f5 : IntKind.i64.wrap ((k : Int) + 1) = (k : Int) + 1 := wrap_small2 _ (by omega) (by omega)
      have HK1 : Hid (k < ds.length) := by show _ < _; rw [← HN.out]; exact hlt1
      have HK2 : Hid (k < es.length) := by show _ < _; rw [← HM.out]; exact hlt2
      obtain ⟨ba, offa, cpa', hva, hya⟩ := HT.out.at (by have := HK1.out; omega)
      obtain ⟨bv, offv, cpv', hvv, hyv⟩ := HU.out.at (by have := HK2.out; omega)
      rw [← HN.out] at hva hya
      rw [← HM.out] at hvv hyv
      simp only [Value.slice.injEq, true_and] at hva hvv
      obtain ⟨rfl, rfl⟩ := hva
      obtain ⟨rfl, rfl⟩ := hvv
      obtain ⟨da, HDA⟩ : ∃ d, Hid (d = ds.getD k []) := ⟨_, rfl⟩
      obtain ⟨dv, HDV⟩ : ∃ d, Hid (d = es.getD k []) := ⟨_, rfl⟩
      have HA32 : Hid (da.length = 32) := by show _ = _; rw [HDA.out]; exact getD_mem32 HT.out.2 HK1.out
      have HV32 : Hid (dv.length = 32) := by show _ = _; rw [HDV.out]; exact getD_mem32 HU.out.2 HK2.out
      have HRA : Hid (∀ wx, Below go wG wx → wx.rangeAt ba (offa + k * 32) (cb da)) := fun wx hx => by
        have h := hya k hlt1
        rw [← HDA.out] at h
        have hb := rangeAt_lt h HA32.out
        exact rangeAt_below (rangeAt_below h HBW.out hb) hx (by have h1 := HSZ.out; have h2 := HGL.out; omega)
      have HRV : Hid (∀ wx, Below go wG wx → wx.rangeAt bv (offv + k * 32) (cb dv)) := fun wx hx => by
        have h := hyv k hlt2
        rw [← HDV.out] at h
        have hb := rangeAt_lt h HV32.out
        exact rangeAt_below (rangeAt_below h HBW.out hb) hx (by have h1 := HSZ.out; have h2 := HGL.out; omega)
      clear hya hyv
      have HNK : Hid (ofL ((ds.zip es).take (k + 1)) = putL (ofL ((ds.zip es).take k)) da dv) := by show _ = _; rw [zip_take HK1.out HK2.out, ofL_snoc, ← HDA.out, ← HDV.out]
      have HLK : Hid ((ofL ((ds.zip es).take k)).length < 1000000) := by show _ < _; have h1 := ofL_len ((ds.zip es).take k); rw [List.length_take] at h1; omega
      go_wp2_with fail
      refine wp_region_held_drew (S := Below go wG) (by kernel_rfl) HI.out.drew.bel ?_
      intro hS
      have hI := HI.out.drew
      clear HI
      change wpAnyH _ _ _ _ _ _ _ _ (World.drew wr)
      generalize World.drew wr = y0 at *
      refine wpAnyH_take (i := 1) (v := .slice (some ⟨ba, offa, none⟩) n cpt) rfl (by kernel_rfl) (by kernel_rfl) (by kernel_rfl) (fun _ _ _ h => h) (Or.inl ⟨by rfl, fun wx hx => by simp [go_sem]⟩) hS ?_
      simp only [Act.put, List.getElem_toArray, List.getElem_cons_succ, List.getElem_cons_zero, List.setIfInBounds_toArray, List.set_cons_zero, List.set_cons_succ]
      refine wpAnyH_take (i := 2) (v := .int .i64 (k : Int)) rfl (by kernel_rfl) (by kernel_rfl) (by kernel_rfl) (fun _ _ _ h => h) (Or.inl ⟨by rfl, fun wx hx => by simp [go_sem]⟩) hS ?_
      simp only [Act.put, List.getElem_toArray, List.getElem_cons_succ, List.getElem_cons_zero, List.setIfInBounds_toArray, List.set_cons_zero, List.set_cons_succ]
      refine wpAnyH_take (i := 5) (v := .slice (some ⟨bv, offv, none⟩) m cpu) rfl (by kernel_rfl) (by kernel_rfl) (by kernel_rfl) (fun _ _ _ h => h) (Or.inl ⟨by rfl, fun wx hx => by simp [go_sem]⟩) hS ?_
      simp only [Act.put, List.getElem_toArray, List.getElem_cons_succ, List.getElem_cons_zero, List.setIfInBounds_toArray, List.set_cons_zero, List.set_cons_succ]
      refine wpAnyH_take (i := 6) (v := .int .i64 (k : Int)) rfl (by kernel_rfl) (by kernel_rfl) (by kernel_rfl) (fun _ _ _ h => h) (Or.inl ⟨by rfl, fun wx hx => by simp [go_sem]⟩) hS ?_
      simp only [Act.put, List.getElem_toArray, List.getElem_cons_succ, List.getElem_cons_zero, List.setIfInBounds_toArray, List.set_cons_zero, List.set_cons_succ]
      refine wpAnyH_take (i := 3) (v := .pointer (some ⟨ba, offa + k * 32, none⟩)) rfl (by kernel_rfl) (by kernel_rfl) (by kernel_rfl) (fun _ _ _ h => h) (Or.inl ⟨by rfl, fun wx hx => by (simp [go_sem, hlti, k0])⟩) hS ?_
      simp only [Act.put, List.getElem_toArray, List.getElem_cons_succ, List.getElem_cons_zero, List.setIfInBounds_toArray, List.set_cons_zero, List.set_cons_succ]
      refine wpAnyH_take (i := 7) (v := .pointer (some ⟨bv, offv + k * 32, none⟩)) rfl (by kernel_rfl) (by kernel_rfl) (by kernel_rfl) (fun _ _ _ h => h) (Or.inl ⟨by rfl, fun wx hx => by (simp [go_sem, hltj, k0])⟩) hS ?_
      simp only [Act.put, List.getElem_toArray, List.getElem_cons_succ, List.getElem_cons_zero, List.setIfInBounds_toArray, List.set_cons_zero, List.set_cons_succ]
      refine wpAnyH_take (i := 4) (v := .agg (cb da).toArray) rfl (by kernel_rfl) (by kernel_rfl) (by kernel_rfl) (fun _ _ _ h => h) (Or.inl ⟨by rfl, fun wx hx => by exact load_run 23 _ rfl _ _ rfl (cb da) _ (HRA.out wx hx) Tryd.underlying23 rfl (by rw [cb_len, HA32.out]; exact info_digest)⟩) hS ?_
      simp only [Act.put, List.getElem_toArray, List.getElem_cons_succ, List.getElem_cons_zero, List.setIfInBounds_toArray, List.set_cons_zero, List.set_cons_succ]
      refine wpAnyH_take (i := 8) (v := .agg (cb dv).toArray) rfl (by kernel_rfl) (by kernel_rfl) (by kernel_rfl) (fun _ _ _ h => h) (Or.inl ⟨by rfl, fun wx hx => by exact load_run 23 _ rfl _ _ rfl (cb dv) _ (HRV.out wx hx) Tryd.underlying23 rfl (by rw [cb_len, HV32.out]; exact info_digest)⟩) hS ?_
      simp only [Act.put, List.getElem_toArray, List.getElem_cons_succ, List.getElem_cons_zero, List.setIfInBounds_toArray, List.set_cons_zero, List.set_cons_succ]
      have c0 : y0.cell? ⟨go, 0, none⟩ = some (.slice adx nx cpx) := hI.out.cell 0
      have c1 : y0.cell? ⟨go, 1, none⟩ = some (.slice adw nw cpw) := hI.out.cell 1
      refine wpAnyH_step 0 (.agg #[.slice adx nx cpx, .slice adw nw cpw]) y0 (by kernel_rfl) rfl (by rfl) (by simp [go_sem, c0, c1]) hS ?_
      simp only [Act.put, List.getElem_toArray, List.getElem_cons_zero, List.setIfInBounds_toArray, List.set_cons_zero, List.set_cons_succ]
      clear c0 c1
      refine wpAnyH_enter 9 (by kernel_rfl) rfl (by rfl) (f := 39) (args := #[.agg #[.slice adx nx cpx, .slice adw nw cpw], .agg (cb da).toArray, .agg (cb dv).toArray]) (by simp [go_sem]) (lfPut_any _ _ (ofL ((ds.zip es).take k)) da dv y0 hI.own.reads HLK.out HA32.out HV32.out) ?_
      rintro e wy ⟨xa2, xv2, rfl, ho, hbq⟩
      have hn := hI.next hbq
      refine ⟨_, rfl, hn.bel, ?_⟩
      obtain ⟨a2, p2, hx2⟩ := ho.a.slice
      obtain ⟨a3, p3, hx3⟩ := ho.v.slice
      obtain ⟨n2, HN2⟩ : ∃ z : Nat, Hid (z = ((putL (ofL ((ds.zip es).take k)) da dv).map (·.1)).length) := ⟨_, rfl⟩
      obtain ⟨n3, HN3⟩ : ∃ z : Nat, Hid (z = ((putL (ofL ((ds.zip es).take k)) da dv).map (·.2)).length) := ⟨_, rfl⟩
      rw [← HN2.out] at hx2
      rw [← HN3.out] at hx3
      subst hx2 hx3
      have hJ := hI.renew hbq ho
      rw [← HNK.out] at hJ
      have c0 := hn.out.cell 0
      have c1 : (wy.setCell ⟨go, 0, none⟩ (.slice a2 n2 p2)).cell? ⟨go, 1, none⟩ = some (.slice adw nw cpw) := (hn.out.set 0 _).cell 1
      have f0 := hn.out.frozen 0
      have f1 : (wy.setCell ⟨go, 0, none⟩ (.slice a2 n2 p2)).frozen? ⟨go, 1, none⟩ = false := (hn.out.set 0 _).frozen 1
      simp only [List.getElem?_cons_zero] at c0
      simp only [Act.put, List.getElem_toArray, List.getElem_cons_succ, List.getElem_cons_zero, List.setIfInBounds_toArray, List.set_cons_zero, List.set_cons_succ]
      refine wpAnyH_skip 10 ((wy.setCell ⟨go, 0, none⟩ (.slice a2 n2 p2)).setCell ⟨go, 1, none⟩ (.slice a3 n3 p3)) (by kernel_rfl) rfl (by rfl) (by simp [go_sem, c0, c1, f0, f1]) hJ.bel ?_
      simp only [Act.put, List.getElem_toArray, List.getElem_cons_succ, List.getElem_cons_zero]
      refine wpAnyH_done (by kernel_rfl) ?_ _
      have HJ : Hid (Lv wG go (.slice a2 n2 p2) (.slice a3 n3 p3) ((ofL ((ds.zip es).take (k + 1))).map (·.1)) ((ofL ((ds.zip es).take (k + 1))).map (·.2)) ((wy.setCell ⟨go, 0, none⟩ (.slice a2 n2 p2)).setCell ⟨go, 1, none⟩ (.slice a3 n3 p3))) := hJ
      clear hJ hn ho hbq c0 c1 f0 f1 hI hS
      generalize (wy.setCell ⟨go, 0, none⟩ (.slice a2 n2 p2)).setCell ⟨go, 1, none⟩ (.slice a3 n3 p3) = w9 at *
      go_wp2
      go_roundw
      case rel => exact ⟨k + 1, _, _, by omega, by simp, HJ.out⟩
      case measure => simp [intOf]; omega
    · have ht : (ds.zip es).take k = ds.zip es := zip_whole (by rw [← HN.out, ← HM.out]; omega)
      have hI2 := HI.out
      rw [ht] at hI2
      have HE : Hid (Lv wG go (.slice adx nx cpx) (.slice adw nw cpw) ((ofL (ds.zip es)).map (·.1)) ((ofL (ds.zip es)).map (·.2)) wr) := hI2
      have d0 : wr.cell? ⟨go, 0, none⟩ = some (.slice adx nx cpx) := hI2.out.cell 0
      have d1 : wr.cell? ⟨go, 1, none⟩ = some (.slice adw nw cpw) := hI2.out.cell 1
      have hr := HRB.out.below hI2.bel (by have := HSZ.out; omega)
      have r0 : wr.cell? ⟨gr, 0, none⟩ = some (.slice none 0 0) := hr.cell 0
      have r1 : wr.cell? ⟨gr, 1, none⟩ = some (.slice none 0 0) := hr.cell 1
      have q0 : wr.frozen? ⟨gr, 0, none⟩ = false := hr.frozen 0
      have q1 : wr.frozen? ⟨gr, 1, none⟩ = false := hr.frozen 1
      have HRR : Hid (Blk wr gr [nilV, nilV] 39) := hr
      clear ht hI2 hr HI
      by_cases h1 : k < n
      · have hlti : (k : Int) < (n : Int) := by omega
        have hltj : ¬ ((k : Int) < (m : Int)) := by omega
        have hd1 : decide ((k : Int) < (n : Int)) = true := decide_eq_true hlti
        have hd2 : decide ((k : Int) < (m : Int)) = false := decide_eq_false hltj
        clear hlt h1
        go_wp2
        have hB6 : Blk ((wr.setCell ⟨gr, 0, none⟩ (.slice adx nx cpx)).setCell ⟨gr, 1, none⟩ (.slice adw nw cpw)) gr [.slice adx nx cpx, .slice adw nw cpw] 39 := (HRR.out.set 0 _).set 1 _
        refine bodyPost_ret (v := Value.agg #[Value.slice adx nx cpx, Value.slice adw nw cpw]) ?_ rfl ⟨Value.slice adx nx cpx, Value.slice adw nw cpw, rfl, ?_, ?_⟩
        · exact results_cell_row (by rfl) _ _ gr 39 _ (0, 0) _ rfl hB6 Tryd.underlying39 rfl (by kernel_rfl)
        · refine (HE.out.own.keep fun j h1 _ => ?_).mono (by have h1 := HSZ.out; have h2 := HGL.out; omega)
          rw [Below.heap_setCell _ _ _ _ (by show j ≠ gr; have := HSZ.out; omega), Below.heap_setCell _ _ _ _ (by show j ≠ gr; have := HSZ.out; omega)]
        · exact ((HBW.out.trans (HE.out.bel.mono (by have h1 := HSZ.out; have h2 := HGL.out; omega))).setCell (by show w.heap.size ≤ gr; have := HGL.out; omega) _).setCell (by show w.heap.size ≤ gr; have := HGL.out; omega) _
      · have hlti : ¬ ((k : Int) < (n : Int)) := by omega
        have hd1 : decide ((k : Int) < (n : Int)) = false := decide_eq_false hlti
        clear hlt h1
        go_wp2
        have hB6 : Blk ((wr.setCell ⟨gr, 0, none⟩ (.slice adx nx cpx)).setCell ⟨gr, 1, none⟩ (.slice adw nw cpw)) gr [.slice adx nx cpx, .slice adw nw cpw] 39 := (HRR.out.set 0 _).set 1 _
        refine bodyPost_ret (v := Value.agg #[Value.slice adx nx cpx, Value.slice adw nw cpw]) ?_ rfl ⟨Value.slice adx nx cpx, Value.slice adw nw cpw, rfl, ?_, ?_⟩
        · exact results_cell_row (by rfl) _ _ gr 39 _ (0, 0) _ rfl hB6 Tryd.underlying39 rfl (by kernel_rfl)
        · refine (HE.out.own.keep fun j h1 _ => ?_).mono (by have h1 := HSZ.out; have h2 := HGL.out; omega)
          rw [Below.heap_setCell _ _ _ _ (by show j ≠ gr; have := HSZ.out; omega), Below.heap_setCell _ _ _ _ (by show j ≠ gr; have := HSZ.out; omega)]
        · exact ((HBW.out.trans (HE.out.bel.mono (by have h1 := HSZ.out; have h2 := HGL.out; omega))).setCell (by show w.heap.size ≤ gr; have := HGL.out; omega) _).setCell (by show w.heap.size ≤ gr; have := HGL.out; omega) _
end Go.Proofs.YtmmhdchhajmbfaaDoor
/- The statement ProofTrees, over proof's functions (layer 8). -/
namespace Go.Proofs.YtmmhdchhajmbfaaDoor
open Go.RowKit
set_option maxRecDepth 100000
theorem len60 {ds es : List (List (BitVec 8))} (h : ds.length ≤ 60) : (ofL (ds.zip es)).length ≤ 60 := by
  have h1 := ofL_len (ds.zip es)
  rw [List.length_zip] at h1
  omega
theorem zip_okR {W : World} {vt vu : Value} {ds es : List (List (BitVec 8))} (h1 : ReadsD W vt ds) (h2 : ReadsD W vu es) : okLf (ds.zip es) := fun _ hp => ⟨h1.2 _ (List.of_mem_zip hp).1, h2.2 _ (List.of_mem_zip hp).2⟩
theorem info_leaves : (Tryd.prog.info? 39).map (·.size) = some 2 := by kernel_rfl
theorem wpSeq_loadLv {ops : Array Oper} {Q : Exit → Act → World → Prop} {rest : List Oper} {o : Oper} {a : Act} {w : World} (x : Operand) (g : Nat) (u v : Value) (hb : Blk w g [u, v] 39) (ho : o.op = .load 39 x) (hx : a.eval x = .pointer (some ⟨g, 0, none⟩)) (hw : Region.wanted o (yielded ops a.tmps) = true)
    (h : wpList Tryd.prog ops Q rest (a.put o.dst (.agg #[u, v])) w) : wpList Tryd.prog ops Q (o :: rest) a w :=
  wpSeq_val _ _ hw (load_run 39 x ho g 0 hx [u, v] _ hb.range Tryd.underlying39 rfl info_leaves) h
theorem pend_len8 {l : List Lf} (h : Fits l 0) (x : List (BitVec 8)) : (pend (wayL l x 0).2).2.1.length = 32 ∧ (pend (wayL l x 0).2).2.2.length = 32 := by
  cases hw : (wayL l x 0).2 with
  | none => exact ⟨rfl, rfl⟩
  | some p => exact h.1 p (way_end x h p hw).1
theorem getD_len8 {l : List Lf} (h : Fits l 0) (x : List (BitVec 8)) : ((getL l x).getD zb32).length = 32 := by
  cases hg : getL l x with
  | none => rfl
  | some v => exact (h.1 _ ((getL_mem h.2.1).1 hg)).2
/-- where the statement stands -/
structure Tt (w : World) (vt : Value) (ds : List (List (BitVec 8))) (gA : Nat) (k : List (BitVec 8)) (gL : Nat) (xa xv : Value) (l : List Lf) (gR : Nat) (r : List (BitVec 8)) (W : World) : Prop where
  k0 : KOk w
  r0 : ReadsD w vt ds
  ab : Blk W gA (cb k) 23
  lb : Blk W gL [xa, xv] 39
  rl : ReadsLf W xa xv l
  rb : Blk W gR (cb r) 23
  bel : Below w.heap.size w W
theorem Tt.kk {w : World} {vt : Value} {ds : List (List (BitVec 8))} {gA : Nat} {k : List (BitVec 8)} {gL : Nat} {xa xv : Value} {l : List Lf} {gR : Nat} {r : List (BitVec 8)} {W : World} (h : Tt w vt ds gA k gL xa xv l gR r W) : KOk W := h.k0.below h.bel h.k0.lt
theorem Tt.rd {w : World} {vt : Value} {ds : List (List (BitVec 8))} {gA : Nat} {k : List (BitVec 8)} {gL : Nat} {xa xv : Value} {l : List Lf} {gR : Nat} {r : List (BitVec 8)} {W : World} (h : Tt w vt ds gA k gL xa xv l gR r W) : ReadsD W vt ds := h.r0.below h.bel
theorem Tt.next {w : World} {vt : Value} {ds : List (List (BitVec 8))} {gA : Nat} {k : List (BitVec 8)} {gL : Nat} {xa xv : Value} {l : List Lf} {gR : Nat} {r : List (BitVec 8)} {W W' : World} (h : Tt w vt ds gA k gL xa xv l gR r W) (hb : Below W.heap.size W W') : Tt w vt ds gA k gL xa xv l gR r W' :=
  ⟨h.k0, h.r0, h.ab.below hb h.ab.lt, h.lb.below hb h.lb.lt, h.rl.below hb, h.rb.below hb h.rb.lt, h.bel.trans (hb.mono h.bel.size)⟩
set_option maxRecDepth 100000 in
set_option maxHeartbeats 8000000 in
theorem proofTrees_law (hP : PfOps) (vt vu : Value) (ds es : List (List (BitVec 8))) (k : List (BitVec 8)) (hk : k.length = 32) (w : World) (hK : KOk w) (hD : ReadsD w vt ds) (hE : ReadsD w vu es) :
    Calls Tryd.prog 5 #[vt, vu, .agg (cb k).toArray] w fun e w' => e = .returned (.bool true) ∧ Below w.heap.size w w' := by
  have HP : Hid PfOps := hP
  have HKL : Hid (k.length = 32) := hk
  have HD : Hid (ReadsD w vt ds) := hD
  have HE : Hid (ReadsD w vu es) := hE
  have HK : Hid (KOk w) := hK
  obtain ⟨adt, cpt, hvt⟩ := hD.slice
  obtain ⟨adu, cpu, hvu⟩ := hE.slice
  obtain ⟨n, HN⟩ : ∃ n, Hid (n = ds.length) := ⟨_, rfl⟩
  obtain ⟨m, HM⟩ : ∃ n, Hid (n = es.length) := ⟨_, rfl⟩
  rw [← HN.out] at hvt
  rw [← HM.out] at hvu
  subst hvt hvu
  have HF0 : Hid (Fits (ofL (ds.zip es)) 0) := Fits.zero (ofL_good _ (zip_okR hD hE)).1 (ofL_good _ (zip_okR hD hE)).2
  clear hP hk hK hD hE
  by_cases hn60 : n ≤ 60
  · have h60i : ¬ ((60 : Int) < (n : Int)) := by omega
    have H60 : Hid (ds.length ≤ 60) := by show _ ≤ _; rw [← HN.out]; exact hn60
    obtain ⟨l, HLD⟩ : ∃ l, Hid (l = ofL (ds.zip es)) := ⟨_, rfl⟩
    have HFT : Hid (Fits l 0) := by show Fits _ _; rw [HLD.out]; exact HF0.out
    have HLL : Hid (l.length ≤ 60) := by show _ ≤ _; rw [HLD.out]; exact len60 H60.out
    obtain ⟨r, HRT⟩ : ∃ r, Hid (r = rootL l 0) := ⟨_, rfl⟩
    have HRL : Hid (r.length = 32) := by show _ = _; rw [HRT.out]; exact rootL_len HFT.out
    go_enter Tryd.func5, Tryd.ntmps5
    go_upto_region 4 with (first
      | (with_reducible refine wpSeq_boxD (.tmp 2) k ?_ ?_ ?_ ?_
         · rfl
         · rfl
         · rfl
         intro gA w1 nn1)
      | (go_at_call 17; refine (lfOf_any _ _ ds es _ (HD.out.below nn1.below) (HE.out.below nn1.below) (by have := H60.out; omega)).mono ?_; rintro e w3 ⟨xa, xv, rfl, ho, hb⟩
         rw [← HLD.out] at ho
         have HO : Hid (ReadsLf w3 xa xv l) := ho.reads
         have HA : Hid (Blk w3 gA (cb k) 23) := nn1.blk.below hb nn1.blk.lt
         have HBW : Hid (Below w.heap.size w w3) := nn1.below.trans (hb.mono nn1.below.size)
         obtain ⟨nx, HNX⟩ : ∃ z : Nat, Hid (z = l.length) := ⟨_, rfl⟩
         obtain ⟨adx, cpx, hxa⟩ := ho.a.slice
         obtain ⟨adw, cpw, hxv⟩ := ho.v.slice
         rw [List.length_map, ← HNX.out] at hxa hxv
         subst hxa hxv
         clear hb ho nn1 HE))
    have hb9 := below_alloc w3 (.cells [Value.slice adx nx cpx, .slice adw nx cpw].toArray 39)
    have HA4 : Hid (Blk (w3.alloc (.cells [Value.slice adx nx cpx, .slice adw nx cpw].toArray 39)) gA (cb k) 23) := HA.out.below hb9 HA.out.lt
    have HO4 : Hid (ReadsLf (w3.alloc (.cells [Value.slice adx nx cpx, .slice adw nx cpw].toArray 39)) (.slice adx nx cpx) (.slice adw nx cpw) l) := HO.out.below hb9
    have HL4 : Hid (Blk (w3.alloc (.cells [Value.slice adx nx cpx, .slice adw nx cpw].toArray 39)) w3.heap.size [Value.slice adx nx cpx, .slice adw nx cpw] 39) := Blk.new _ _ _
    have HB4 : Hid (Below w.heap.size w (w3.alloc (.cells [Value.slice adx nx cpx, .slice adw nx cpw].toArray 39))) := HBW.out.trans (hb9.mono HBW.out.size)
    clear hb9 HA HO HBW HLD
    obtain ⟨gL, HGL⟩ : ∃ z, Hid (z = w3.heap.size) := ⟨_, rfl⟩
    have e0 : (some ⟨w3.heap.size, 0, none⟩ : Option Addr) = some ⟨gL, 0, none⟩ := by rw [HGL.out]
    simp only [e0]
    rw [← HGL.out] at HL4
    clear e0 HGL
    generalize w3.alloc (.cells [Value.slice adx nx cpx, .slice adw nx cpw].toArray 39) = w4 at *
    go_upto_region 5 with (first
      | (with_reducible refine wpSeq_loadLv (.tmp 7) gL (.slice adx nx cpx) (.slice adw nx cpw) ?_ ?_ ?_ ?_ ?_
         · exact HL4.out
         · rfl
         · rfl
         · rfl)
      | (go_at_call 18; refine (lfRoot_any 256 l 0 _ _ _ (by omega) HFT.out HO4.out (by have := HLL.out; omega) (by omega)).mono ?_; rintro e w5 ⟨rfl, hb⟩
         rw [← HRT.out]
         replace HA4 : Hid (Blk w5 gA (cb k) 23) := HA4.out.below hb HA4.out.lt
         replace HO4 : Hid (ReadsLf w5 (.slice adx nx cpx) (.slice adw nx cpw) l) := HO4.out.below hb
         replace HL4 : Hid (Blk w5 gL [Value.slice adx nx cpx, .slice adw nx cpw] 39) := HL4.out.below hb HL4.out.lt
         replace HB4 : Hid (Below w.heap.size w w5) := HB4.out.trans (hb.mono HB4.out.size)
         clear hb)
      | (with_reducible refine wpSeq_allocD ?_ ?_ ?_
         · rfl
         · rfl
         intro gR w6 nn6)
      | (with_reducible refine wpSeq_storeD (.tmp 8) (.tmp 24) gR zb32 r ?_ ?_ ?_ ?_ ?_ ?_ ?_ ?_
         · rfl
         · exact HRL.out
         · exact nn6.blk
         · rfl
         · rfl
         · rfl
         · rfl
         intro w7 h7
         have N7 := nn6.set h7
         have HI : Hid (Tt w (.slice adt n cpt) ds gA k gL (.slice adx nx cpx) (.slice adw nx cpw) l gR r w7) := ⟨HK.out, HD.out, HA4.out.below N7.below HA4.out.lt, HL4.out.below N7.below HL4.out.lt, HO4.out.below N7.below, N7.blk, HB4.out.trans (N7.below.mono HB4.out.size)⟩
         clear nn6 h7 N7 HA4 HO4 HL4 HB4))
    go_wp2_with fail
    go_loopw [9] (fun j wr => ∃ q : Nat, q ≤ n + 1 ∧ q ≤ 6 ∧ j = .int .i64 (q : Int) ∧ Tt w (.slice adt n cpt) ds gA k gL (.slice adx nx cpx) (.slice adw nx cpw) l gR r wr) (fun j _ => 7 - (intOf j).toNat)
    case atStart => exact ⟨0, by omega, by omega, rfl, HI.out⟩
    case round =>
      clear HI
      obtain ⟨q, hq, hq6, rfl, hI⟩ := hrel
      have HI : Hid (Tt w (.slice adt n cpt) ds gA k gL (.slice adx nx cpx) (.slice adw nx cpw) l gR r wr) := hI
      clear hI
      have f5 : IntKind.i64.wrap ((q : Int) + 1) = (q : Int) + 1 := wrap_small2 _ (by omega) (by omega)
      by_cases hgo : q ≤ n ∧ q < 6
      · obtain ⟨hg1, hg2⟩ := hgo
        have hg1i : (q : Int) ≤ (n : Int) := by omega
        have hg2i : (q : Int) < 6 := by omega
        go_upto_region 9 with (first
          | (with_reducible refine wpSeq_loadD (.tmp 5) gA k ?_ ?_ ?_ ?_ ?_ ?_
             · exact HKL.out
             · exact HI.out.ab
             · with_reducible rfl
             · rfl
             · rfl)
          | (with_reducible refine wpSeq_allocD ?_ ?_ ?_
             · rfl
             · rfl
             intro gx w8 nn8)
          | (with_reducible refine wpSeq_storeD (.tmp 10) (.tmp 35) gx zb32 k ?_ ?_ ?_ ?_ ?_ ?_ ?_ ?_
             · rfl
             · exact HKL.out
             · exact nn8.blk
             · rfl
             · rfl
             · rfl
             · rfl
             intro w9 h9
             have HGX : Hid (wr.heap.size ≤ gx) := nn8.ge
             have N9 := nn8.set h9
             have HIW : Hid (Tt w (.slice adt n cpt) ds gA k gL (.slice adx nx cpx) (.slice adw nx cpw) l gR r wr) := HI.out
             replace HI : Hid (Tt w (.slice adt n cpt) ds gA k gL (.slice adx nx cpx) (.slice adw nx cpw) l gR r w9) := HI.out.next N9.below
             have HX : Hid (Blk w9 gx (cb k) 23) := N9.blk
             have HBX : Hid (Below wr.heap.size wr w9) := N9.below
             clear nn8 h9 N9))
        by_cases hlt : q < n
        · have hlti : (q : Int) < (n : Int) := by omega
          have k0 : (0 : Int) ≤ (q : Int) := by omega
          have HQ : Hid (q < ds.length) := by show _ < _; rw [← HN.out]; exact hlt
          obtain ⟨ba, offa, cpa', hva, hya⟩ := HI.out.rd.at (by have := HQ.out; omega)
          rw [← HN.out] at hva hya
          simp only [Value.slice.injEq, true_and] at hva
          obtain ⟨rfl, rfl⟩ := hva
          obtain ⟨x, HDA⟩ : ∃ d, Hid (d = ds.getD q []) := ⟨_, rfl⟩
          have HXL : Hid (x.length = 32) := by show _ = _; rw [HDA.out]; exact getD_mem32 HI.out.rd.2 HQ.out
          have HRA : Hid (w9.rangeAt ba (offa + q * 32) (cb x)) := by have h := hya q hlt; rw [← HDA.out] at h; exact h
          clear hya
          go_upto_region 11 with (first
            | (with_reducible refine wpSeq_loadAt (.tmp 42) ba (offa + q * 32) x ?_ ?_ ?_ ?_ ?_ ?_
               · exact HXL.out
               · exact HRA.out
               · with_reducible rfl
               · rfl
               · rfl)
            | (with_reducible refine wpSeq_storeD (.tmp 10) (.tmp 43) gx k x ?_ ?_ ?_ ?_ ?_ ?_ ?_ ?_
               · exact HKL.out
               · exact HXL.out
               · exact HX.out
               · rfl
               · rfl
               · rfl
               · rfl
               intro wA hA
               have HBA : Hid (Below wr.heap.size wr wA) := HBX.out.trans (hA.only.below HGX.out HBX.out.size)
               replace HI : Hid (Tt w (.slice (some ⟨ba, offa, none⟩) n cpt) ds gA k gL (.slice adx nx cpx) (.slice adw nx cpw) l gR r wA) := HIW.out.next HBA.out
               replace HX : Hid (Blk wA gx (cb x) 23) := hA.blk
               clear hA HBA))
          clear HRA HBX HIW HGX
          obtain ⟨sd, HSD⟩ : ∃ z, Hid (z = (wayL l x 0).1) := ⟨_, rfl⟩
          obtain ⟨pe, HPE⟩ : ∃ z, Hid (z = pend (wayL l x 0).2) := ⟨_, rfl⟩
          obtain ⟨vv, HVV⟩ : ∃ z, Hid (z = (getL l x).getD zb32) := ⟨_, rfl⟩
          obtain ⟨bb, HBB⟩ : ∃ z, Hid (z = (getL l x).isSome) := ⟨_, rfl⟩
          have HVL : Hid (vv.length = 32) := by show _ = _; rw [HVV.out]; exact getD_len8 HFT.out x
          have HP32 : Hid (pe.2.1.length = 32 ∧ pe.2.2.length = 32) := by show _ ∧ _; rw [HPE.out]; exact pend_len8 HFT.out x
          have HS3 : Hid (sd.length ≤ 300) := by
            show _ ≤ _
            rw [HSD.out]
            rcases wayL_side x HFT.out with h1 | h1
            · omega
            · rw [h1]; simp
          have HC4 : Hid (∀ W, ReadsLf W (.slice adx nx cpx) (.slice adw nx cpw) l → Calls Tryd.prog 19 #[.agg #[.slice adx nx cpx, .slice adw nx cpw], .agg (cb x).toArray] W fun e w' => ∃ vs, e = .returned (.agg (prfV vs pe.1 pe.2.1 pe.2.2).toArray) ∧ ReadsD w' vs sd ∧ Below W.heap.size W w') := fun W hh => (lfProve_any _ _ l x W hh HFT.out (by have := HLL.out; omega) HXL.out).mono fun e w' h => by
            obtain ⟨vs, h1, h2, h3⟩ := h
            exact ⟨vs, by rw [h1, HPE.out], by rw [HSD.out]; exact h2.readsD, h3⟩
          have HCW : Hid (checkW r x sd pe.1 pe.2.1 pe.2.2 = some (getL l x)) := by
            show _ = _
            have h := way_check x HFT.out
            rw [endW_pend, ← HPE.out, ← HSD.out, ← HRT.out] at h
            exact h
          have HC5 : Hid (∀ W vs, KOk W → ReadsD W vs sd → Calls Tryd.prog 15 #[.agg (cb r).toArray, .agg (cb x).toArray, .agg (prfV vs pe.1 pe.2.1 pe.2.2).toArray] W fun e w' => e = .returned (.tuple #[.agg (cb vv).toArray, .bool bb, .int .i64 0]) ∧ Below W.heap.size W w') := fun W vs hk hh => by
            have h := HP.out.check W r x vs sd pe.1 pe.2.1 pe.2.2 hk HRL.out HXL.out HP32.out.1 HP32.out.2 hh HS3.out
            rw [HCW.out] at h
            rw [HVV.out, HBB.out]
            exact h
          have HC6 : Hid (∀ W, ReadsLf W (.slice adx nx cpx) (.slice adw nx cpw) l → Calls Tryd.prog 20 #[.agg #[.slice adx nx cpx, .slice adw nx cpw], .agg (cb x).toArray] W fun e w' => e = .returned (.tuple #[.agg (cb vv).toArray, .bool bb]) ∧ Below W.heap.size W w') := fun W hh => by rw [HVV.out, HBB.out]; exact lfGet_any _ _ l x W hh (by have := HLL.out; omega) HXL.out
          clear HCW HVV HBB HSD HPE HDA
          have q1 : ∀ wx : World, (Op.equalIn 10000 23 (.agg (cb vv).toArray) (.agg (cb vv).toArray)).run Tryd.prog wx = .ok true wx := fun wx => eq_dig_same vv HVL.out wx
          simp only [Act.put, List.setIfInBounds_toArray, List.set_cons_zero, List.set_cons_succ]
          go_cut [11, 12, 13] from 44 to 53 (fun a b c W => ∃ g11, a = .pointer (some ⟨g11, 0, none⟩) ∧ b = .bool bb ∧ c = .int .i64 0 ∧ Tt w (.slice (some ⟨ba, offa, none⟩) n cpt) ds gA k gL (.slice adx nx cpx) (.slice adw nx cpw) l gR r W ∧ Blk W gx (cb x) 23 ∧ Blk W g11 (cb vv) 23)
          case first =>
            refine wp_region_held_drew (S := fun wx => Tt w (.slice (some ⟨ba, offa, none⟩) n cpt) ds gA k gL (.slice adx nx cpx) (.slice adw nx cpw) l gR r wx ∧ Blk wx gx (cb x) 23) (by kernel_rfl) ⟨HI.out.next (Below.refl _ _).drew, HX.out⟩ ?_
            intro hS
            clear HI HX
            change wpAnyH _ _ _ _ _ _ _ _ (World.drew wA)
            generalize World.drew wA = y0 at *
            refine wpAnyH_take (i := 0) (v := .agg (cb r).toArray) rfl (by kernel_rfl) (by kernel_rfl) (by kernel_rfl) (fun _ _ _ h => h) (Or.inl ⟨by rfl, fun wx hx => by exact loadDigest _ gR r HRL.out hx.1.rb rfl rfl⟩) hS ?_
            simp only [Act.put, List.getElem_toArray, List.getElem_cons_zero, List.setIfInBounds_toArray, List.set_cons_zero, List.set_cons_succ]
            refine wpAnyH_take (i := 1) (v := .agg (cb x).toArray) rfl (by kernel_rfl) (by kernel_rfl) (by kernel_rfl) (fun _ _ _ h => h) (Or.inl ⟨by rfl, fun wx hx => by exact loadDigest _ gx x HXL.out hx.2 rfl rfl⟩) hS ?_
            simp only [Act.put, List.getElem_toArray, List.getElem_cons_succ, List.getElem_cons_zero, List.setIfInBounds_toArray, List.set_cons_zero, List.set_cons_succ]
            refine wpAnyH_take (i := 2) (v := .agg #[.slice adx nx cpx, .slice adw nx cpw]) rfl (by kernel_rfl) (by kernel_rfl) (by kernel_rfl) (fun _ _ _ h => h) (Or.inl ⟨by rfl, fun wx hx => by exact load_run 39 _ rfl gL 0 rfl [Value.slice adx nx cpx, .slice adw nx cpw] _ hx.1.lb.range Tryd.underlying39 rfl info_leaves⟩) hS ?_
            simp only [Act.put, List.getElem_toArray, List.getElem_cons_succ, List.getElem_cons_zero, List.setIfInBounds_toArray, List.set_cons_zero, List.set_cons_succ]
            refine wpAnyH_take (i := 3) (v := .agg (cb x).toArray) rfl (by kernel_rfl) (by kernel_rfl) (by kernel_rfl) (fun _ _ _ h => h) (Or.inl ⟨by rfl, fun wx hx => by exact loadDigest _ gx x HXL.out hx.2 rfl rfl⟩) hS ?_
            simp only [Act.put, List.getElem_toArray, List.getElem_cons_succ, List.getElem_cons_zero, List.setIfInBounds_toArray, List.set_cons_zero, List.set_cons_succ]
            refine wpAnyH_pair 4 10 (by kernel_rfl) ?_ ?_
            · skip
              refine wpOp_en 4 (by rfl) (by rfl) (f := 19) (args := #[.agg #[.slice adx nx cpx, .slice adw nx cpw], .agg (cb x).toArray]) (by simp [go_sem]) (HC4.out _ hS.1.rl) ?_
              rintro e z1 ⟨vs, rfl, hrv, hb⟩
              replace hS : Tt w (.slice (some ⟨ba, offa, none⟩) n cpt) ds gA k gL (.slice adx nx cpx) (.slice adw nx cpw) l gR r z1 ∧ Blk z1 gx (cb x) 23 := ⟨hS.1.next hb, hS.2.below hb hS.2.lt⟩
              refine ⟨_, rfl, hS, ?_⟩
              clear hb
              simp only [Act.put, List.getElem_toArray, List.getElem_cons_succ, List.getElem_cons_zero, List.setIfInBounds_toArray, List.set_cons_zero, List.set_cons_succ]
              refine wpAnyH_pair 5 10 (by kernel_rfl) ?_ ?_
              · skip
                refine wpOp_en 5 (by rfl) (by rfl) (f := 15) (args := #[.agg (cb r).toArray, .agg (cb x).toArray, .agg (prfV vs pe.1 pe.2.1 pe.2.2).toArray]) (by simp [go_sem]) (HC5.out _ vs hS.1.kk hrv) ?_
                rintro e z2 ⟨rfl, hb⟩
                replace hS : Tt w (.slice (some ⟨ba, offa, none⟩) n cpt) ds gA k gL (.slice adx nx cpx) (.slice adw nx cpw) l gR r z2 ∧ Blk z2 gx (cb x) 23 := ⟨hS.1.next hb, hS.2.below hb hS.2.lt⟩
                refine ⟨_, rfl, hS, ?_⟩
                clear hb hrv
                simp only [Act.put, List.getElem_toArray, List.getElem_cons_succ, List.getElem_cons_zero, List.setIfInBounds_toArray, List.set_cons_zero, List.set_cons_succ]
                refine wpAnyH_take (i := 6) (v := .tuple #[.agg (cb vv).toArray, .bool bb, .int .i64 0]) rfl (by kernel_rfl) (by kernel_rfl) (by kernel_rfl) (fun _ _ _ h => h) (Or.inl ⟨by rfl, fun wx hx => by simp [go_sem]⟩) hS ?_
                simp only [Act.put, List.getElem_toArray, List.getElem_cons_succ, List.getElem_cons_zero, List.setIfInBounds_toArray, List.set_cons_zero, List.set_cons_succ]
                refine wpAnyH_take (i := 7) (v := .agg (cb vv).toArray) rfl (by kernel_rfl) (by kernel_rfl) (by kernel_rfl) (fun _ _ _ h => h) (Or.inl ⟨by rfl, fun wx hx => by simp [go_sem]⟩) hS ?_
                simp only [Act.put, List.getElem_toArray, List.getElem_cons_succ, List.getElem_cons_zero, List.setIfInBounds_toArray, List.set_cons_zero, List.set_cons_succ]
                refine wpAnyH_take (i := 8) (v := .bool bb) rfl (by kernel_rfl) (by kernel_rfl) (by kernel_rfl) (fun _ _ _ h => h) (Or.inl ⟨by rfl, fun wx hx => by simp [go_sem]⟩) hS ?_
                simp only [Act.put, List.getElem_toArray, List.getElem_cons_succ, List.getElem_cons_zero, List.setIfInBounds_toArray, List.set_cons_zero, List.set_cons_succ]
                refine wpAnyH_take (i := 9) (v := .int .i64 0) rfl (by kernel_rfl) (by kernel_rfl) (by kernel_rfl) (fun _ _ _ h => h) (Or.inl ⟨by rfl, fun wx hx => by simp [go_sem]⟩) hS ?_
                simp only [Act.put, List.getElem_toArray, List.getElem_cons_succ, List.getElem_cons_zero, List.setIfInBounds_toArray, List.set_cons_zero, List.set_cons_succ]
                have hbl := below_alloc z2 (.cells (cb zb32).toArray 23)
                have hba : Blk (z2.alloc (.cells (cb zb32).toArray 23)) z2.heap.size (cb zb32) 23 := Blk.new _ _ _
                have hT0 := hS
                replace hS : Tt w (.slice (some ⟨ba, offa, none⟩) n cpt) ds gA k gL (.slice adx nx cpx) (.slice adw nx cpw) l gR r (z2.alloc (.cells (cb zb32).toArray 23)) ∧ Blk (z2.alloc (.cells (cb zb32).toArray 23)) gx (cb x) 23 := ⟨hS.1.next hbl, hS.2.below hbl hS.2.lt⟩
                refine wpAnyH_step 10 (.pointer (some ⟨z2.heap.size, 0, none⟩)) (z2.alloc (.cells (cb zb32).toArray 23)) (by kernel_rfl) rfl (by rfl) (allocDigest _ _ rfl _) hS ?_
                simp only [Act.put, List.getElem_toArray, List.getElem_cons_succ, List.getElem_cons_zero, List.setIfInBounds_toArray, List.set_cons_zero, List.set_cons_succ]
                obtain ⟨yA, HYA⟩ : ∃ z, Hid (z = z2) := ⟨_, rfl⟩
                obtain ⟨ga, HGA⟩ : ∃ z, Hid (z = z2.heap.size) := ⟨_, rfl⟩
                have hga : yA.heap.size ≤ ga := by rw [HYA.out, HGA.out]; exact Nat.le_refl _
                replace hbl : Below yA.heap.size yA (z2.alloc (.cells (cb zb32).toArray 23)) := by rw [HYA.out]; exact hbl
                replace hT0 : Tt w (.slice (some ⟨ba, offa, none⟩) n cpt) ds gA k gL (.slice adx nx cpx) (.slice adw nx cpw) l gR r yA ∧ Blk yA gx (cb x) 23 := by rw [HYA.out]; exact hT0
                rw [← HGA.out] at hba ⊢
                clear HGA HYA
                generalize z2.alloc (.cells (cb zb32).toArray 23) = z3 at *
                refine wpAnyH_law 11 (by kernel_rfl) rfl (by rfl) (wp_store_mid 23 _ _ rfl ga 0 (cb vv).toArray rfl rfl (hba.there 0 _ (by rw [List.size_toArray, cb_len, cb_len, HVL.out]; decide)) (by rw [List.size_toArray, cb_len, HVL.out]; exact info_digest) (all_oneCell_toArray (cb_one vv)) ?_)
                rw [List.toList_toArray]
                have hb9 := hba.whole (cb vv) (by rw [cb_len, cb_len, HVL.out]; rfl)
                have hbf : Below yA.heap.size yA (z3.setCells ga 0 (cb vv)) := Below.setCells _ hga _ _ _ hbl
                have hS9 : Tt w (.slice (some ⟨ba, offa, none⟩) n cpt) ds gA k gL (.slice adx nx cpx) (.slice adw nx cpw) l gR r (z3.setCells ga 0 (cb vv)) ∧ Blk (z3.setCells ga 0 (cb vv)) gx (cb x) 23 := ⟨hT0.1.next hbf, hT0.2.below hbf hT0.2.lt⟩
                refine ⟨hS9, ?_⟩
                simp only [Act.put, List.getElem_toArray, List.getElem_cons_succ, List.getElem_cons_zero]
                clear hbf hbl hba hS
                generalize z3.setCells ga 0 (cb vv) = wE at *
                refine wpAnyH_take (i := 12) (v := .bool bb) rfl (by kernel_rfl) (by kernel_rfl) (by kernel_rfl) (fun _ _ _ h => h) (Or.inl ⟨by rfl, fun wx hx => by simp [go_sem]⟩) hS9 ?_
                simp only [Act.put, List.getElem_toArray, List.getElem_cons_succ, List.getElem_cons_zero, List.setIfInBounds_toArray, List.set_cons_zero, List.set_cons_succ]
                refine wpAnyH_take (i := 13) (v := .int .i64 0) rfl (by kernel_rfl) (by kernel_rfl) (by kernel_rfl) (fun _ _ _ h => h) (Or.inl ⟨by rfl, fun wx hx => by simp [go_sem]⟩) hS9 ?_
                simp only [Act.put, List.getElem_toArray, List.getElem_cons_succ, List.getElem_cons_zero, List.setIfInBounds_toArray, List.set_cons_zero, List.set_cons_succ]
                refine wpAnyH_done (by kernel_rfl) ?_ _
                go_wp2
                go_meet
                case rel => exact ⟨ga, rfl, rfl, rfl, hS9.1, hS9.2, hb9⟩
              · skip
                have hbl := below_alloc z1 (.cells (cb zb32).toArray 23)
                have hba : Blk (z1.alloc (.cells (cb zb32).toArray 23)) z1.heap.size (cb zb32) 23 := Blk.new _ _ _
                have hT0 := hS
                replace hS : Tt w (.slice (some ⟨ba, offa, none⟩) n cpt) ds gA k gL (.slice adx nx cpx) (.slice adw nx cpw) l gR r (z1.alloc (.cells (cb zb32).toArray 23)) ∧ Blk (z1.alloc (.cells (cb zb32).toArray 23)) gx (cb x) 23 := ⟨hS.1.next hbl, hS.2.below hbl hS.2.lt⟩
                replace hrv := hrv.below hbl
                refine wpOp_vl 10 (.pointer (some ⟨z1.heap.size, 0, none⟩)) (z1.alloc (.cells (cb zb32).toArray 23)) (by rfl) (by rfl) (allocDigest _ _ rfl _) ⟨hS, ?_⟩
                simp only [Act.put, List.getElem_toArray, List.getElem_cons_succ, List.getElem_cons_zero, List.setIfInBounds_toArray, List.set_cons_zero, List.set_cons_succ]
                obtain ⟨yA, HYA⟩ : ∃ z, Hid (z = z1) := ⟨_, rfl⟩
                obtain ⟨ga, HGA⟩ : ∃ z, Hid (z = z1.heap.size) := ⟨_, rfl⟩
                have hga : yA.heap.size ≤ ga := by rw [HYA.out, HGA.out]; exact Nat.le_refl _
                replace hbl : Below yA.heap.size yA (z1.alloc (.cells (cb zb32).toArray 23)) := by rw [HYA.out]; exact hbl
                replace hT0 : Tt w (.slice (some ⟨ba, offa, none⟩) n cpt) ds gA k gL (.slice adx nx cpx) (.slice adw nx cpw) l gR r yA ∧ Blk yA gx (cb x) 23 := by rw [HYA.out]; exact hT0
                rw [← HGA.out] at hba ⊢
                clear HGA HYA
                generalize z1.alloc (.cells (cb zb32).toArray 23) = z4 at *
                refine wpAnyH_enter 5 (by kernel_rfl) rfl (by rfl) (f := 15) (args := #[.agg (cb r).toArray, .agg (cb x).toArray, .agg (prfV vs pe.1 pe.2.1 pe.2.2).toArray]) (by simp [go_sem]) (HC5.out _ vs hS.1.kk hrv) ?_
                rintro e z5 ⟨rfl, hb⟩
                replace hS : Tt w (.slice (some ⟨ba, offa, none⟩) n cpt) ds gA k gL (.slice adx nx cpx) (.slice adw nx cpw) l gR r z5 ∧ Blk z5 gx (cb x) 23 := ⟨hS.1.next hb, hS.2.below hb hS.2.lt⟩
                replace hbl := hbl.trans (hb.mono hbl.size)
                replace hba := hba.below hb hba.lt
                refine ⟨_, rfl, hS, ?_⟩
                clear hb hrv
                simp only [Act.put, List.getElem_toArray, List.getElem_cons_succ, List.getElem_cons_zero, List.setIfInBounds_toArray, List.set_cons_zero, List.set_cons_succ]
                refine wpAnyH_take (i := 6) (v := .tuple #[.agg (cb vv).toArray, .bool bb, .int .i64 0]) rfl (by kernel_rfl) (by kernel_rfl) (by kernel_rfl) (fun _ _ _ h => h) (Or.inl ⟨by rfl, fun wx hx => by simp [go_sem]⟩) hS ?_
                simp only [Act.put, List.getElem_toArray, List.getElem_cons_succ, List.getElem_cons_zero, List.setIfInBounds_toArray, List.set_cons_zero, List.set_cons_succ]
                refine wpAnyH_take (i := 7) (v := .agg (cb vv).toArray) rfl (by kernel_rfl) (by kernel_rfl) (by kernel_rfl) (fun _ _ _ h => h) (Or.inl ⟨by rfl, fun wx hx => by simp [go_sem]⟩) hS ?_
                simp only [Act.put, List.getElem_toArray, List.getElem_cons_succ, List.getElem_cons_zero, List.setIfInBounds_toArray, List.set_cons_zero, List.set_cons_succ]
                refine wpAnyH_take (i := 8) (v := .bool bb) rfl (by kernel_rfl) (by kernel_rfl) (by kernel_rfl) (fun _ _ _ h => h) (Or.inl ⟨by rfl, fun wx hx => by simp [go_sem]⟩) hS ?_
                simp only [Act.put, List.getElem_toArray, List.getElem_cons_succ, List.getElem_cons_zero, List.setIfInBounds_toArray, List.set_cons_zero, List.set_cons_succ]
                refine wpAnyH_take (i := 9) (v := .int .i64 0) rfl (by kernel_rfl) (by kernel_rfl) (by kernel_rfl) (fun _ _ _ h => h) (Or.inl ⟨by rfl, fun wx hx => by simp [go_sem]⟩) hS ?_
                simp only [Act.put, List.getElem_toArray, List.getElem_cons_succ, List.getElem_cons_zero, List.setIfInBounds_toArray, List.set_cons_zero, List.set_cons_succ]
                refine wpAnyH_law 11 (by kernel_rfl) rfl (by rfl) (wp_store_mid 23 _ _ rfl ga 0 (cb vv).toArray rfl rfl (hba.there 0 _ (by rw [List.size_toArray, cb_len, cb_len, HVL.out]; decide)) (by rw [List.size_toArray, cb_len, HVL.out]; exact info_digest) (all_oneCell_toArray (cb_one vv)) ?_)
                rw [List.toList_toArray]
                have hb9 := hba.whole (cb vv) (by rw [cb_len, cb_len, HVL.out]; rfl)
                have hbf : Below yA.heap.size yA (z5.setCells ga 0 (cb vv)) := Below.setCells _ hga _ _ _ hbl
                have hS9 : Tt w (.slice (some ⟨ba, offa, none⟩) n cpt) ds gA k gL (.slice adx nx cpx) (.slice adw nx cpw) l gR r (z5.setCells ga 0 (cb vv)) ∧ Blk (z5.setCells ga 0 (cb vv)) gx (cb x) 23 := ⟨hT0.1.next hbf, hT0.2.below hbf hT0.2.lt⟩
                refine ⟨hS9, ?_⟩
                simp only [Act.put, List.getElem_toArray, List.getElem_cons_succ, List.getElem_cons_zero]
                clear hbf hbl hba hS
                generalize z5.setCells ga 0 (cb vv) = wE at *
                refine wpAnyH_take (i := 12) (v := .bool bb) rfl (by kernel_rfl) (by kernel_rfl) (by kernel_rfl) (fun _ _ _ h => h) (Or.inl ⟨by rfl, fun wx hx => by simp [go_sem]⟩) hS9 ?_
                simp only [Act.put, List.getElem_toArray, List.getElem_cons_succ, List.getElem_cons_zero, List.setIfInBounds_toArray, List.set_cons_zero, List.set_cons_succ]
                refine wpAnyH_take (i := 13) (v := .int .i64 0) rfl (by kernel_rfl) (by kernel_rfl) (by kernel_rfl) (fun _ _ _ h => h) (Or.inl ⟨by rfl, fun wx hx => by simp [go_sem]⟩) hS9 ?_
                simp only [Act.put, List.getElem_toArray, List.getElem_cons_succ, List.getElem_cons_zero, List.setIfInBounds_toArray, List.set_cons_zero, List.set_cons_succ]
                refine wpAnyH_done (by kernel_rfl) ?_ _
                go_wp2
                go_meet
                case rel => exact ⟨ga, rfl, rfl, rfl, hS9.1, hS9.2, hb9⟩
            · skip
              have hbl := below_alloc y0 (.cells (cb zb32).toArray 23)
              have hba : Blk (y0.alloc (.cells (cb zb32).toArray 23)) y0.heap.size (cb zb32) 23 := Blk.new _ _ _
              have hT0 := hS
              replace hS : Tt w (.slice (some ⟨ba, offa, none⟩) n cpt) ds gA k gL (.slice adx nx cpx) (.slice adw nx cpw) l gR r (y0.alloc (.cells (cb zb32).toArray 23)) ∧ Blk (y0.alloc (.cells (cb zb32).toArray 23)) gx (cb x) 23 := ⟨hS.1.next hbl, hS.2.below hbl hS.2.lt⟩
              refine wpOp_vl 10 (.pointer (some ⟨y0.heap.size, 0, none⟩)) (y0.alloc (.cells (cb zb32).toArray 23)) (by rfl) (by rfl) (allocDigest _ _ rfl _) ⟨hS, ?_⟩
              simp only [Act.put, List.getElem_toArray, List.getElem_cons_succ, List.getElem_cons_zero, List.setIfInBounds_toArray, List.set_cons_zero, List.set_cons_succ]
              obtain ⟨yA, HYA⟩ : ∃ z, Hid (z = y0) := ⟨_, rfl⟩
              obtain ⟨ga, HGA⟩ : ∃ z, Hid (z = y0.heap.size) := ⟨_, rfl⟩
              have hga : yA.heap.size ≤ ga := by rw [HYA.out, HGA.out]; exact Nat.le_refl _
              replace hbl : Below yA.heap.size yA (y0.alloc (.cells (cb zb32).toArray 23)) := by rw [HYA.out]; exact hbl
              replace hT0 : Tt w (.slice (some ⟨ba, offa, none⟩) n cpt) ds gA k gL (.slice adx nx cpx) (.slice adw nx cpw) l gR r yA ∧ Blk yA gx (cb x) 23 := by rw [HYA.out]; exact hT0
              rw [← HGA.out] at hba ⊢
              clear HGA HYA
              generalize y0.alloc (.cells (cb zb32).toArray 23) = z6 at *
              refine wpAnyH_enter 4 (by kernel_rfl) rfl (by rfl) (f := 19) (args := #[.agg #[.slice adx nx cpx, .slice adw nx cpw], .agg (cb x).toArray]) (by simp [go_sem]) (HC4.out _ hS.1.rl) ?_
              rintro e z7 ⟨vs, rfl, hrv, hb⟩
              replace hS : Tt w (.slice (some ⟨ba, offa, none⟩) n cpt) ds gA k gL (.slice adx nx cpx) (.slice adw nx cpw) l gR r z7 ∧ Blk z7 gx (cb x) 23 := ⟨hS.1.next hb, hS.2.below hb hS.2.lt⟩
              replace hbl := hbl.trans (hb.mono hbl.size)
              replace hba := hba.below hb hba.lt
              refine ⟨_, rfl, hS, ?_⟩
              clear hb
              simp only [Act.put, List.getElem_toArray, List.getElem_cons_succ, List.getElem_cons_zero, List.setIfInBounds_toArray, List.set_cons_zero, List.set_cons_succ]
              refine wpAnyH_enter 5 (by kernel_rfl) rfl (by rfl) (f := 15) (args := #[.agg (cb r).toArray, .agg (cb x).toArray, .agg (prfV vs pe.1 pe.2.1 pe.2.2).toArray]) (by simp [go_sem]) (HC5.out _ vs hS.1.kk hrv) ?_
              rintro e z8 ⟨rfl, hb⟩
              replace hS : Tt w (.slice (some ⟨ba, offa, none⟩) n cpt) ds gA k gL (.slice adx nx cpx) (.slice adw nx cpw) l gR r z8 ∧ Blk z8 gx (cb x) 23 := ⟨hS.1.next hb, hS.2.below hb hS.2.lt⟩
              replace hbl := hbl.trans (hb.mono hbl.size)
              replace hba := hba.below hb hba.lt
              refine ⟨_, rfl, hS, ?_⟩
              clear hb hrv
              simp only [Act.put, List.getElem_toArray, List.getElem_cons_succ, List.getElem_cons_zero, List.setIfInBounds_toArray, List.set_cons_zero, List.set_cons_succ]
              refine wpAnyH_take (i := 6) (v := .tuple #[.agg (cb vv).toArray, .bool bb, .int .i64 0]) rfl (by kernel_rfl) (by kernel_rfl) (by kernel_rfl) (fun _ _ _ h => h) (Or.inl ⟨by rfl, fun wx hx => by simp [go_sem]⟩) hS ?_
              simp only [Act.put, List.getElem_toArray, List.getElem_cons_succ, List.getElem_cons_zero, List.setIfInBounds_toArray, List.set_cons_zero, List.set_cons_succ]
              refine wpAnyH_take (i := 7) (v := .agg (cb vv).toArray) rfl (by kernel_rfl) (by kernel_rfl) (by kernel_rfl) (fun _ _ _ h => h) (Or.inl ⟨by rfl, fun wx hx => by simp [go_sem]⟩) hS ?_
              simp only [Act.put, List.getElem_toArray, List.getElem_cons_succ, List.getElem_cons_zero, List.setIfInBounds_toArray, List.set_cons_zero, List.set_cons_succ]
              refine wpAnyH_take (i := 8) (v := .bool bb) rfl (by kernel_rfl) (by kernel_rfl) (by kernel_rfl) (fun _ _ _ h => h) (Or.inl ⟨by rfl, fun wx hx => by simp [go_sem]⟩) hS ?_
              simp only [Act.put, List.getElem_toArray, List.getElem_cons_succ, List.getElem_cons_zero, List.setIfInBounds_toArray, List.set_cons_zero, List.set_cons_succ]
              refine wpAnyH_take (i := 9) (v := .int .i64 0) rfl (by kernel_rfl) (by kernel_rfl) (by kernel_rfl) (fun _ _ _ h => h) (Or.inl ⟨by rfl, fun wx hx => by simp [go_sem]⟩) hS ?_
              simp only [Act.put, List.getElem_toArray, List.getElem_cons_succ, List.getElem_cons_zero, List.setIfInBounds_toArray, List.set_cons_zero, List.set_cons_succ]
              refine wpAnyH_law 11 (by kernel_rfl) rfl (by rfl) (wp_store_mid 23 _ _ rfl ga 0 (cb vv).toArray rfl rfl (hba.there 0 _ (by rw [List.size_toArray, cb_len, cb_len, HVL.out]; decide)) (by rw [List.size_toArray, cb_len, HVL.out]; exact info_digest) (all_oneCell_toArray (cb_one vv)) ?_)
              rw [List.toList_toArray]
              have hb9 := hba.whole (cb vv) (by rw [cb_len, cb_len, HVL.out]; rfl)
              have hbf : Below yA.heap.size yA (z8.setCells ga 0 (cb vv)) := Below.setCells _ hga _ _ _ hbl
              have hS9 : Tt w (.slice (some ⟨ba, offa, none⟩) n cpt) ds gA k gL (.slice adx nx cpx) (.slice adw nx cpw) l gR r (z8.setCells ga 0 (cb vv)) ∧ Blk (z8.setCells ga 0 (cb vv)) gx (cb x) 23 := ⟨hT0.1.next hbf, hT0.2.below hbf hT0.2.lt⟩
              refine ⟨hS9, ?_⟩
              simp only [Act.put, List.getElem_toArray, List.getElem_cons_succ, List.getElem_cons_zero]
              clear hbf hbl hba hS
              generalize z8.setCells ga 0 (cb vv) = wE at *
              refine wpAnyH_take (i := 12) (v := .bool bb) rfl (by kernel_rfl) (by kernel_rfl) (by kernel_rfl) (fun _ _ _ h => h) (Or.inl ⟨by rfl, fun wx hx => by simp [go_sem]⟩) hS9 ?_
              simp only [Act.put, List.getElem_toArray, List.getElem_cons_succ, List.getElem_cons_zero, List.setIfInBounds_toArray, List.set_cons_zero, List.set_cons_succ]
              refine wpAnyH_take (i := 13) (v := .int .i64 0) rfl (by kernel_rfl) (by kernel_rfl) (by kernel_rfl) (fun _ _ _ h => h) (Or.inl ⟨by rfl, fun wx hx => by simp [go_sem]⟩) hS9 ?_
              simp only [Act.put, List.getElem_toArray, List.getElem_cons_succ, List.getElem_cons_zero, List.setIfInBounds_toArray, List.set_cons_zero, List.set_cons_succ]
              refine wpAnyH_done (by kernel_rfl) ?_ _
              go_wp2
              go_meet
              case rel => exact ⟨ga, rfl, rfl, rfl, hS9.1, hS9.2, hb9⟩
          case rest =>
            clear HI HX
            obtain ⟨g11, rfl, rfl, rfl, hI, hx, h11⟩ := hcut
            have HI : Hid (Tt w (.slice (some ⟨ba, offa, none⟩) n cpt) ds gA k gL (.slice adx nx cpx) (.slice adw nx cpw) l gR r wc) := hI
            have HX : Hid (Blk wc gx (cb x) 23) := hx
            have H11 : Hid (Blk wc g11 (cb vv) 23) := h11
            clear hI hx h11
            go_wp2_with (first
              | (with_reducible refine wpSeq_loadLv (.tmp 7) gL (.slice adx nx cpx) (.slice adw nx cpw) ?_ ?_ ?_ ?_ ?_
                 · exact HI.out.lb
                 · rfl
                 · rfl
                 · rfl)
              | (with_reducible refine wpSeq_loadD (.tmp 10) gx x ?_ ?_ ?_ ?_ ?_ ?_
                 · exact HXL.out
                 · exact HX.out
                 · with_reducible rfl
                 · rfl
                 · rfl)
              | (go_at_call 20; refine (HC6.out _ HI.out.rl).mono ?_; rintro e wG ⟨rfl, hbG⟩
                 replace HI : Hid (Tt w (.slice (some ⟨ba, offa, none⟩) n cpt) ds gA k gL (.slice adx nx cpx) (.slice adw nx cpw) l gR r wG) := HI.out.next hbG
                 replace H11 : Hid (Blk wG g11 (cb vv) 23) := H11.out.below hbG H11.out.lt
                 clear hbG HX)
              | (with_reducible refine wpSeq_allocD ?_ ?_ ?_
                 · rfl
                 · rfl
                 intro g14 wH nnH)
              | (with_reducible refine wpSeq_storeD (.tmp 14) (.tmp 58) g14 zb32 vv ?_ ?_ ?_ ?_ ?_ ?_ ?_ ?_
                 · rfl
                 · exact HVL.out
                 · exact nnH.blk
                 · rfl
                 · rfl
                 · rfl
                 · rfl
                 intro wI hI9
                 have N14 := nnH.set hI9
                 replace HI : Hid (Tt w (.slice (some ⟨ba, offa, none⟩) n cpt) ds gA k gL (.slice adx nx cpx) (.slice adw nx cpw) l gR r wI) := HI.out.next N14.below
                 replace H11 : Hid (Blk wI g11 (cb vv) 23) := H11.out.below N14.below H11.out.lt
                 have H14 : Hid (Blk wI g14 (cb vv) 23) := N14.blk
                 clear nnH hI9 N14)
              | (with_reducible refine wpSeq_loadD (.tmp 11) g11 vv ?_ ?_ ?_ ?_ ?_ ?_
                 · exact HVL.out
                 · exact H11.out
                 · with_reducible rfl
                 · rfl
                 · rfl)
              | (with_reducible refine wpSeq_loadD (.tmp 14) g14 vv ?_ ?_ ?_ ?_ ?_ ?_
                 · exact HVL.out
                 · exact H14.out
                 · with_reducible rfl
                 · rfl
                 · rfl))
            go_roundw
            case rel => exact ⟨q + 1, by omega, by omega, by simp, HI.out⟩
            case measure => simp [intOf]; omega
        · have hlti : ¬ ((q : Int) < (n : Int)) := by omega
          obtain ⟨x, HDA⟩ : ∃ d, Hid (d = k) := ⟨_, rfl⟩
          have HXL : Hid (x.length = 32) := by show _ = _; rw [HDA.out]; exact HKL.out
          rw [← HDA.out] at HX
          go_upto_region 11 with fail
          clear HBX HIW HGX
          obtain ⟨sd, HSD⟩ : ∃ z, Hid (z = (wayL l x 0).1) := ⟨_, rfl⟩
          obtain ⟨pe, HPE⟩ : ∃ z, Hid (z = pend (wayL l x 0).2) := ⟨_, rfl⟩
          obtain ⟨vv, HVV⟩ : ∃ z, Hid (z = (getL l x).getD zb32) := ⟨_, rfl⟩
          obtain ⟨bb, HBB⟩ : ∃ z, Hid (z = (getL l x).isSome) := ⟨_, rfl⟩
          have HVL : Hid (vv.length = 32) := by show _ = _; rw [HVV.out]; exact getD_len8 HFT.out x
          have HP32 : Hid (pe.2.1.length = 32 ∧ pe.2.2.length = 32) := by show _ ∧ _; rw [HPE.out]; exact pend_len8 HFT.out x
          have HS3 : Hid (sd.length ≤ 300) := by
            show _ ≤ _
            rw [HSD.out]
            rcases wayL_side x HFT.out with h1 | h1
            · omega
            · rw [h1]; simp
          have HC4 : Hid (∀ W, ReadsLf W (.slice adx nx cpx) (.slice adw nx cpw) l → Calls Tryd.prog 19 #[.agg #[.slice adx nx cpx, .slice adw nx cpw], .agg (cb x).toArray] W fun e w' => ∃ vs, e = .returned (.agg (prfV vs pe.1 pe.2.1 pe.2.2).toArray) ∧ ReadsD w' vs sd ∧ Below W.heap.size W w') := fun W hh => (lfProve_any _ _ l x W hh HFT.out (by have := HLL.out; omega) HXL.out).mono fun e w' h => by
            obtain ⟨vs, h1, h2, h3⟩ := h
            exact ⟨vs, by rw [h1, HPE.out], by rw [HSD.out]; exact h2.readsD, h3⟩
          have HCW : Hid (checkW r x sd pe.1 pe.2.1 pe.2.2 = some (getL l x)) := by
            show _ = _
            have h := way_check x HFT.out
            rw [endW_pend, ← HPE.out, ← HSD.out, ← HRT.out] at h
            exact h
          have HC5 : Hid (∀ W vs, KOk W → ReadsD W vs sd → Calls Tryd.prog 15 #[.agg (cb r).toArray, .agg (cb x).toArray, .agg (prfV vs pe.1 pe.2.1 pe.2.2).toArray] W fun e w' => e = .returned (.tuple #[.agg (cb vv).toArray, .bool bb, .int .i64 0]) ∧ Below W.heap.size W w') := fun W vs hk hh => by
            have h := HP.out.check W r x vs sd pe.1 pe.2.1 pe.2.2 hk HRL.out HXL.out HP32.out.1 HP32.out.2 hh HS3.out
            rw [HCW.out] at h
            rw [HVV.out, HBB.out]
            exact h
          have HC6 : Hid (∀ W, ReadsLf W (.slice adx nx cpx) (.slice adw nx cpw) l → Calls Tryd.prog 20 #[.agg #[.slice adx nx cpx, .slice adw nx cpw], .agg (cb x).toArray] W fun e w' => e = .returned (.tuple #[.agg (cb vv).toArray, .bool bb]) ∧ Below W.heap.size W w') := fun W hh => by rw [HVV.out, HBB.out]; exact lfGet_any _ _ l x W hh (by have := HLL.out; omega) HXL.out
          clear HCW HVV HBB HSD HPE HDA
          have q1 : ∀ wx : World, (Op.equalIn 10000 23 (.agg (cb vv).toArray) (.agg (cb vv).toArray)).run Tryd.prog wx = .ok true wx := fun wx => eq_dig_same vv HVL.out wx
          go_cut [11, 12, 13] from 44 to 53 (fun a b c W => ∃ g11, a = .pointer (some ⟨g11, 0, none⟩) ∧ b = .bool bb ∧ c = .int .i64 0 ∧ Tt w (.slice adt n cpt) ds gA k gL (.slice adx nx cpx) (.slice adw nx cpw) l gR r W ∧ Blk W gx (cb x) 23 ∧ Blk W g11 (cb vv) 23)
          case first =>
            refine wp_region_held_drew (S := fun wx => Tt w (.slice adt n cpt) ds gA k gL (.slice adx nx cpx) (.slice adw nx cpw) l gR r wx ∧ Blk wx gx (cb x) 23) (by kernel_rfl) ⟨HI.out.next (Below.refl _ _).drew, HX.out⟩ ?_
            intro hS
            clear HI HX
            change wpAnyH _ _ _ _ _ _ _ _ (World.drew w9)
            generalize World.drew w9 = y0 at *
            refine wpAnyH_take (i := 0) (v := .agg (cb r).toArray) rfl (by kernel_rfl) (by kernel_rfl) (by kernel_rfl) (fun _ _ _ h => h) (Or.inl ⟨by rfl, fun wx hx => by exact loadDigest _ gR r HRL.out hx.1.rb rfl rfl⟩) hS ?_
            simp only [Act.put, List.getElem_toArray, List.getElem_cons_zero, List.setIfInBounds_toArray, List.set_cons_zero, List.set_cons_succ]
            refine wpAnyH_take (i := 1) (v := .agg (cb x).toArray) rfl (by kernel_rfl) (by kernel_rfl) (by kernel_rfl) (fun _ _ _ h => h) (Or.inl ⟨by rfl, fun wx hx => by exact loadDigest _ gx x HXL.out hx.2 rfl rfl⟩) hS ?_
            simp only [Act.put, List.getElem_toArray, List.getElem_cons_succ, List.getElem_cons_zero, List.setIfInBounds_toArray, List.set_cons_zero, List.set_cons_succ]
            refine wpAnyH_take (i := 2) (v := .agg #[.slice adx nx cpx, .slice adw nx cpw]) rfl (by kernel_rfl) (by kernel_rfl) (by kernel_rfl) (fun _ _ _ h => h) (Or.inl ⟨by rfl, fun wx hx => by exact load_run 39 _ rfl gL 0 rfl [Value.slice adx nx cpx, .slice adw nx cpw] _ hx.1.lb.range Tryd.underlying39 rfl info_leaves⟩) hS ?_
            simp only [Act.put, List.getElem_toArray, List.getElem_cons_succ, List.getElem_cons_zero, List.setIfInBounds_toArray, List.set_cons_zero, List.set_cons_succ]
            refine wpAnyH_take (i := 3) (v := .agg (cb x).toArray) rfl (by kernel_rfl) (by kernel_rfl) (by kernel_rfl) (fun _ _ _ h => h) (Or.inl ⟨by rfl, fun wx hx => by exact loadDigest _ gx x HXL.out hx.2 rfl rfl⟩) hS ?_
            simp only [Act.put, List.getElem_toArray, List.getElem_cons_succ, List.getElem_cons_zero, List.setIfInBounds_toArray, List.set_cons_zero, List.set_cons_succ]
            refine wpAnyH_pair 4 10 (by kernel_rfl) ?_ ?_
            · skip
              refine wpOp_en 4 (by rfl) (by rfl) (f := 19) (args := #[.agg #[.slice adx nx cpx, .slice adw nx cpw], .agg (cb x).toArray]) (by simp [go_sem]) (HC4.out _ hS.1.rl) ?_
              rintro e z1 ⟨vs, rfl, hrv, hb⟩
              replace hS : Tt w (.slice adt n cpt) ds gA k gL (.slice adx nx cpx) (.slice adw nx cpw) l gR r z1 ∧ Blk z1 gx (cb x) 23 := ⟨hS.1.next hb, hS.2.below hb hS.2.lt⟩
              refine ⟨_, rfl, hS, ?_⟩
              clear hb
              simp only [Act.put, List.getElem_toArray, List.getElem_cons_succ, List.getElem_cons_zero, List.setIfInBounds_toArray, List.set_cons_zero, List.set_cons_succ]
              refine wpAnyH_pair 5 10 (by kernel_rfl) ?_ ?_
              · skip
                refine wpOp_en 5 (by rfl) (by rfl) (f := 15) (args := #[.agg (cb r).toArray, .agg (cb x).toArray, .agg (prfV vs pe.1 pe.2.1 pe.2.2).toArray]) (by simp [go_sem]) (HC5.out _ vs hS.1.kk hrv) ?_
                rintro e z2 ⟨rfl, hb⟩
                replace hS : Tt w (.slice adt n cpt) ds gA k gL (.slice adx nx cpx) (.slice adw nx cpw) l gR r z2 ∧ Blk z2 gx (cb x) 23 := ⟨hS.1.next hb, hS.2.below hb hS.2.lt⟩
                refine ⟨_, rfl, hS, ?_⟩
                clear hb hrv
                simp only [Act.put, List.getElem_toArray, List.getElem_cons_succ, List.getElem_cons_zero, List.setIfInBounds_toArray, List.set_cons_zero, List.set_cons_succ]
                refine wpAnyH_take (i := 6) (v := .tuple #[.agg (cb vv).toArray, .bool bb, .int .i64 0]) rfl (by kernel_rfl) (by kernel_rfl) (by kernel_rfl) (fun _ _ _ h => h) (Or.inl ⟨by rfl, fun wx hx => by simp [go_sem]⟩) hS ?_
                simp only [Act.put, List.getElem_toArray, List.getElem_cons_succ, List.getElem_cons_zero, List.setIfInBounds_toArray, List.set_cons_zero, List.set_cons_succ]
                refine wpAnyH_take (i := 7) (v := .agg (cb vv).toArray) rfl (by kernel_rfl) (by kernel_rfl) (by kernel_rfl) (fun _ _ _ h => h) (Or.inl ⟨by rfl, fun wx hx => by simp [go_sem]⟩) hS ?_
                simp only [Act.put, List.getElem_toArray, List.getElem_cons_succ, List.getElem_cons_zero, List.setIfInBounds_toArray, List.set_cons_zero, List.set_cons_succ]
                refine wpAnyH_take (i := 8) (v := .bool bb) rfl (by kernel_rfl) (by kernel_rfl) (by kernel_rfl) (fun _ _ _ h => h) (Or.inl ⟨by rfl, fun wx hx => by simp [go_sem]⟩) hS ?_
                simp only [Act.put, List.getElem_toArray, List.getElem_cons_succ, List.getElem_cons_zero, List.setIfInBounds_toArray, List.set_cons_zero, List.set_cons_succ]
                refine wpAnyH_take (i := 9) (v := .int .i64 0) rfl (by kernel_rfl) (by kernel_rfl) (by kernel_rfl) (fun _ _ _ h => h) (Or.inl ⟨by rfl, fun wx hx => by simp [go_sem]⟩) hS ?_
                simp only [Act.put, List.getElem_toArray, List.getElem_cons_succ, List.getElem_cons_zero, List.setIfInBounds_toArray, List.set_cons_zero, List.set_cons_succ]
                have hbl := below_alloc z2 (.cells (cb zb32).toArray 23)
                have hba : Blk (z2.alloc (.cells (cb zb32).toArray 23)) z2.heap.size (cb zb32) 23 := Blk.new _ _ _
                have hT0 := hS
                replace hS : Tt w (.slice adt n cpt) ds gA k gL (.slice adx nx cpx) (.slice adw nx cpw) l gR r (z2.alloc (.cells (cb zb32).toArray 23)) ∧ Blk (z2.alloc (.cells (cb zb32).toArray 23)) gx (cb x) 23 := ⟨hS.1.next hbl, hS.2.below hbl hS.2.lt⟩
                refine wpAnyH_step 10 (.pointer (some ⟨z2.heap.size, 0, none⟩)) (z2.alloc (.cells (cb zb32).toArray 23)) (by kernel_rfl) rfl (by rfl) (allocDigest _ _ rfl _) hS ?_
                simp only [Act.put, List.getElem_toArray, List.getElem_cons_succ, List.getElem_cons_zero, List.setIfInBounds_toArray, List.set_cons_zero, List.set_cons_succ]
                obtain ⟨yA, HYA⟩ : ∃ z, Hid (z = z2) := ⟨_, rfl⟩
                obtain ⟨ga, HGA⟩ : ∃ z, Hid (z = z2.heap.size) := ⟨_, rfl⟩
                have hga : yA.heap.size ≤ ga := by rw [HYA.out, HGA.out]; exact Nat.le_refl _
                replace hbl : Below yA.heap.size yA (z2.alloc (.cells (cb zb32).toArray 23)) := by rw [HYA.out]; exact hbl
                replace hT0 : Tt w (.slice adt n cpt) ds gA k gL (.slice adx nx cpx) (.slice adw nx cpw) l gR r yA ∧ Blk yA gx (cb x) 23 := by rw [HYA.out]; exact hT0
                rw [← HGA.out] at hba ⊢
                clear HGA HYA
                generalize z2.alloc (.cells (cb zb32).toArray 23) = z3 at *
                refine wpAnyH_law 11 (by kernel_rfl) rfl (by rfl) (wp_store_mid 23 _ _ rfl ga 0 (cb vv).toArray rfl rfl (hba.there 0 _ (by rw [List.size_toArray, cb_len, cb_len, HVL.out]; decide)) (by rw [List.size_toArray, cb_len, HVL.out]; exact info_digest) (all_oneCell_toArray (cb_one vv)) ?_)
                rw [List.toList_toArray]
                have hb9 := hba.whole (cb vv) (by rw [cb_len, cb_len, HVL.out]; rfl)
                have hbf : Below yA.heap.size yA (z3.setCells ga 0 (cb vv)) := Below.setCells _ hga _ _ _ hbl
                have hS9 : Tt w (.slice adt n cpt) ds gA k gL (.slice adx nx cpx) (.slice adw nx cpw) l gR r (z3.setCells ga 0 (cb vv)) ∧ Blk (z3.setCells ga 0 (cb vv)) gx (cb x) 23 := ⟨hT0.1.next hbf, hT0.2.below hbf hT0.2.lt⟩
                refine ⟨hS9, ?_⟩
                simp only [Act.put, List.getElem_toArray, List.getElem_cons_succ, List.getElem_cons_zero]
                clear hbf hbl hba hS
                generalize z3.setCells ga 0 (cb vv) = wE at *
                refine wpAnyH_take (i := 12) (v := .bool bb) rfl (by kernel_rfl) (by kernel_rfl) (by kernel_rfl) (fun _ _ _ h => h) (Or.inl ⟨by rfl, fun wx hx => by simp [go_sem]⟩) hS9 ?_
                simp only [Act.put, List.getElem_toArray, List.getElem_cons_succ, List.getElem_cons_zero, List.setIfInBounds_toArray, List.set_cons_zero, List.set_cons_succ]
                refine wpAnyH_take (i := 13) (v := .int .i64 0) rfl (by kernel_rfl) (by kernel_rfl) (by kernel_rfl) (fun _ _ _ h => h) (Or.inl ⟨by rfl, fun wx hx => by simp [go_sem]⟩) hS9 ?_
                simp only [Act.put, List.getElem_toArray, List.getElem_cons_succ, List.getElem_cons_zero, List.setIfInBounds_toArray, List.set_cons_zero, List.set_cons_succ]
                refine wpAnyH_done (by kernel_rfl) ?_ _
                go_wp2
                go_meet
                case rel => exact ⟨ga, rfl, rfl, rfl, hS9.1, hS9.2, hb9⟩
              · skip
                have hbl := below_alloc z1 (.cells (cb zb32).toArray 23)
                have hba : Blk (z1.alloc (.cells (cb zb32).toArray 23)) z1.heap.size (cb zb32) 23 := Blk.new _ _ _
                have hT0 := hS
                replace hS : Tt w (.slice adt n cpt) ds gA k gL (.slice adx nx cpx) (.slice adw nx cpw) l gR r (z1.alloc (.cells (cb zb32).toArray 23)) ∧ Blk (z1.alloc (.cells (cb zb32).toArray 23)) gx (cb x) 23 := ⟨hS.1.next hbl, hS.2.below hbl hS.2.lt⟩
                replace hrv := hrv.below hbl
                refine wpOp_vl 10 (.pointer (some ⟨z1.heap.size, 0, none⟩)) (z1.alloc (.cells (cb zb32).toArray 23)) (by rfl) (by rfl) (allocDigest _ _ rfl _) ⟨hS, ?_⟩
                simp only [Act.put, List.getElem_toArray, List.getElem_cons_succ, List.getElem_cons_zero, List.setIfInBounds_toArray, List.set_cons_zero, List.set_cons_succ]
                obtain ⟨yA, HYA⟩ : ∃ z, Hid (z = z1) := ⟨_, rfl⟩
                obtain ⟨ga, HGA⟩ : ∃ z, Hid (z = z1.heap.size) := ⟨_, rfl⟩
                have hga : yA.heap.size ≤ ga := by rw [HYA.out, HGA.out]; exact Nat.le_refl _
                replace hbl : Below yA.heap.size yA (z1.alloc (.cells (cb zb32).toArray 23)) := by rw [HYA.out]; exact hbl
                replace hT0 : Tt w (.slice adt n cpt) ds gA k gL (.slice adx nx cpx) (.slice adw nx cpw) l gR r yA ∧ Blk yA gx (cb x) 23 := by rw [HYA.out]; exact hT0
                rw [← HGA.out] at hba ⊢
                clear HGA HYA
                generalize z1.alloc (.cells (cb zb32).toArray 23) = z4 at *
                refine wpAnyH_enter 5 (by kernel_rfl) rfl (by rfl) (f := 15) (args := #[.agg (cb r).toArray, .agg (cb x).toArray, .agg (prfV vs pe.1 pe.2.1 pe.2.2).toArray]) (by simp [go_sem]) (HC5.out _ vs hS.1.kk hrv) ?_
                rintro e z5 ⟨rfl, hb⟩
                replace hS : Tt w (.slice adt n cpt) ds gA k gL (.slice adx nx cpx) (.slice adw nx cpw) l gR r z5 ∧ Blk z5 gx (cb x) 23 := ⟨hS.1.next hb, hS.2.below hb hS.2.lt⟩
                replace hbl := hbl.trans (hb.mono hbl.size)
                replace hba := hba.below hb hba.lt
                refine ⟨_, rfl, hS, ?_⟩
                clear hb hrv
                simp only [Act.put, List.getElem_toArray, List.getElem_cons_succ, List.getElem_cons_zero, List.setIfInBounds_toArray, List.set_cons_zero, List.set_cons_succ]
                refine wpAnyH_take (i := 6) (v := .tuple #[.agg (cb vv).toArray, .bool bb, .int .i64 0]) rfl (by kernel_rfl) (by kernel_rfl) (by kernel_rfl) (fun _ _ _ h => h) (Or.inl ⟨by rfl, fun wx hx => by simp [go_sem]⟩) hS ?_
                simp only [Act.put, List.getElem_toArray, List.getElem_cons_succ, List.getElem_cons_zero, List.setIfInBounds_toArray, List.set_cons_zero, List.set_cons_succ]
                refine wpAnyH_take (i := 7) (v := .agg (cb vv).toArray) rfl (by kernel_rfl) (by kernel_rfl) (by kernel_rfl) (fun _ _ _ h => h) (Or.inl ⟨by rfl, fun wx hx => by simp [go_sem]⟩) hS ?_
                simp only [Act.put, List.getElem_toArray, List.getElem_cons_succ, List.getElem_cons_zero, List.setIfInBounds_toArray, List.set_cons_zero, List.set_cons_succ]
                refine wpAnyH_take (i := 8) (v := .bool bb) rfl (by kernel_rfl) (by kernel_rfl) (by kernel_rfl) (fun _ _ _ h => h) (Or.inl ⟨by rfl, fun wx hx => by simp [go_sem]⟩) hS ?_
                simp only [Act.put, List.getElem_toArray, List.getElem_cons_succ, List.getElem_cons_zero, List.setIfInBounds_toArray, List.set_cons_zero, List.set_cons_succ]
                refine wpAnyH_take (i := 9) (v := .int .i64 0) rfl (by kernel_rfl) (by kernel_rfl) (by kernel_rfl) (fun _ _ _ h => h) (Or.inl ⟨by rfl, fun wx hx => by simp [go_sem]⟩) hS ?_
                simp only [Act.put, List.getElem_toArray, List.getElem_cons_succ, List.getElem_cons_zero, List.setIfInBounds_toArray, List.set_cons_zero, List.set_cons_succ]
                refine wpAnyH_law 11 (by kernel_rfl) rfl (by rfl) (wp_store_mid 23 _ _ rfl ga 0 (cb vv).toArray rfl rfl (hba.there 0 _ (by rw [List.size_toArray, cb_len, cb_len, HVL.out]; decide)) (by rw [List.size_toArray, cb_len, HVL.out]; exact info_digest) (all_oneCell_toArray (cb_one vv)) ?_)
                rw [List.toList_toArray]
                have hb9 := hba.whole (cb vv) (by rw [cb_len, cb_len, HVL.out]; rfl)
                have hbf : Below yA.heap.size yA (z5.setCells ga 0 (cb vv)) := Below.setCells _ hga _ _ _ hbl
                have hS9 : Tt w (.slice adt n cpt) ds gA k gL (.slice adx nx cpx) (.slice adw nx cpw) l gR r (z5.setCells ga 0 (cb vv)) ∧ Blk (z5.setCells ga 0 (cb vv)) gx (cb x) 23 := ⟨hT0.1.next hbf, hT0.2.below hbf hT0.2.lt⟩
                refine ⟨hS9, ?_⟩
                simp only [Act.put, List.getElem_toArray, List.getElem_cons_succ, List.getElem_cons_zero]
                clear hbf hbl hba hS
                generalize z5.setCells ga 0 (cb vv) = wE at *
                refine wpAnyH_take (i := 12) (v := .bool bb) rfl (by kernel_rfl) (by kernel_rfl) (by kernel_rfl) (fun _ _ _ h => h) (Or.inl ⟨by rfl, fun wx hx => by simp [go_sem]⟩) hS9 ?_
                simp only [Act.put, List.getElem_toArray, List.getElem_cons_succ, List.getElem_cons_zero, List.setIfInBounds_toArray, List.set_cons_zero, List.set_cons_succ]
                refine wpAnyH_take (i := 13) (v := .int .i64 0) rfl (by kernel_rfl) (by kernel_rfl) (by kernel_rfl) (fun _ _ _ h => h) (Or.inl ⟨by rfl, fun wx hx => by simp [go_sem]⟩) hS9 ?_
                simp only [Act.put, List.getElem_toArray, List.getElem_cons_succ, List.getElem_cons_zero, List.setIfInBounds_toArray, List.set_cons_zero, List.set_cons_succ]
                refine wpAnyH_done (by kernel_rfl) ?_ _
                go_wp2
                go_meet
                case rel => exact ⟨ga, rfl, rfl, rfl, hS9.1, hS9.2, hb9⟩
            · skip
              have hbl := below_alloc y0 (.cells (cb zb32).toArray 23)
              have hba : Blk (y0.alloc (.cells (cb zb32).toArray 23)) y0.heap.size (cb zb32) 23 := Blk.new _ _ _
              have hT0 := hS
              replace hS : Tt w (.slice adt n cpt) ds gA k gL (.slice adx nx cpx) (.slice adw nx cpw) l gR r (y0.alloc (.cells (cb zb32).toArray 23)) ∧ Blk (y0.alloc (.cells (cb zb32).toArray 23)) gx (cb x) 23 := ⟨hS.1.next hbl, hS.2.below hbl hS.2.lt⟩
              refine wpOp_vl 10 (.pointer (some ⟨y0.heap.size, 0, none⟩)) (y0.alloc (.cells (cb zb32).toArray 23)) (by rfl) (by rfl) (allocDigest _ _ rfl _) ⟨hS, ?_⟩
              simp only [Act.put, List.getElem_toArray, List.getElem_cons_succ, List.getElem_cons_zero, List.setIfInBounds_toArray, List.set_cons_zero, List.set_cons_succ]
              obtain ⟨yA, HYA⟩ : ∃ z, Hid (z = y0) := ⟨_, rfl⟩
              obtain ⟨ga, HGA⟩ : ∃ z, Hid (z = y0.heap.size) := ⟨_, rfl⟩
              have hga : yA.heap.size ≤ ga := by rw [HYA.out, HGA.out]; exact Nat.le_refl _
              replace hbl : Below yA.heap.size yA (y0.alloc (.cells (cb zb32).toArray 23)) := by rw [HYA.out]; exact hbl
              replace hT0 : Tt w (.slice adt n cpt) ds gA k gL (.slice adx nx cpx) (.slice adw nx cpw) l gR r yA ∧ Blk yA gx (cb x) 23 := by rw [HYA.out]; exact hT0
              rw [← HGA.out] at hba ⊢
              clear HGA HYA
              generalize y0.alloc (.cells (cb zb32).toArray 23) = z6 at *
              refine wpAnyH_enter 4 (by kernel_rfl) rfl (by rfl) (f := 19) (args := #[.agg #[.slice adx nx cpx, .slice adw nx cpw], .agg (cb x).toArray]) (by simp [go_sem]) (HC4.out _ hS.1.rl) ?_
              rintro e z7 ⟨vs, rfl, hrv, hb⟩
              replace hS : Tt w (.slice adt n cpt) ds gA k gL (.slice adx nx cpx) (.slice adw nx cpw) l gR r z7 ∧ Blk z7 gx (cb x) 23 := ⟨hS.1.next hb, hS.2.below hb hS.2.lt⟩
              replace hbl := hbl.trans (hb.mono hbl.size)
              replace hba := hba.below hb hba.lt
              refine ⟨_, rfl, hS, ?_⟩
              clear hb
              simp only [Act.put, List.getElem_toArray, List.getElem_cons_succ, List.getElem_cons_zero, List.setIfInBounds_toArray, List.set_cons_zero, List.set_cons_succ]
              refine wpAnyH_enter 5 (by kernel_rfl) rfl (by rfl) (f := 15) (args := #[.agg (cb r).toArray, .agg (cb x).toArray, .agg (prfV vs pe.1 pe.2.1 pe.2.2).toArray]) (by simp [go_sem]) (HC5.out _ vs hS.1.kk hrv) ?_
              rintro e z8 ⟨rfl, hb⟩
              replace hS : Tt w (.slice adt n cpt) ds gA k gL (.slice adx nx cpx) (.slice adw nx cpw) l gR r z8 ∧ Blk z8 gx (cb x) 23 := ⟨hS.1.next hb, hS.2.below hb hS.2.lt⟩
              replace hbl := hbl.trans (hb.mono hbl.size)
              replace hba := hba.below hb hba.lt
              refine ⟨_, rfl, hS, ?_⟩
              clear hb hrv
              simp only [Act.put, List.getElem_toArray, List.getElem_cons_succ, List.getElem_cons_zero, List.setIfInBounds_toArray, List.set_cons_zero, List.set_cons_succ]
              refine wpAnyH_take (i := 6) (v := .tuple #[.agg (cb vv).toArray, .bool bb, .int .i64 0]) rfl (by kernel_rfl) (by kernel_rfl) (by kernel_rfl) (fun _ _ _ h => h) (Or.inl ⟨by rfl, fun wx hx => by simp [go_sem]⟩) hS ?_
              simp only [Act.put, List.getElem_toArray, List.getElem_cons_succ, List.getElem_cons_zero, List.setIfInBounds_toArray, List.set_cons_zero, List.set_cons_succ]
              refine wpAnyH_take (i := 7) (v := .agg (cb vv).toArray) rfl (by kernel_rfl) (by kernel_rfl) (by kernel_rfl) (fun _ _ _ h => h) (Or.inl ⟨by rfl, fun wx hx => by simp [go_sem]⟩) hS ?_
              simp only [Act.put, List.getElem_toArray, List.getElem_cons_succ, List.getElem_cons_zero, List.setIfInBounds_toArray, List.set_cons_zero, List.set_cons_succ]
              refine wpAnyH_take (i := 8) (v := .bool bb) rfl (by kernel_rfl) (by kernel_rfl) (by kernel_rfl) (fun _ _ _ h => h) (Or.inl ⟨by rfl, fun wx hx => by simp [go_sem]⟩) hS ?_
              simp only [Act.put, List.getElem_toArray, List.getElem_cons_succ, List.getElem_cons_zero, List.setIfInBounds_toArray, List.set_cons_zero, List.set_cons_succ]
              refine wpAnyH_take (i := 9) (v := .int .i64 0) rfl (by kernel_rfl) (by kernel_rfl) (by kernel_rfl) (fun _ _ _ h => h) (Or.inl ⟨by rfl, fun wx hx => by simp [go_sem]⟩) hS ?_
              simp only [Act.put, List.getElem_toArray, List.getElem_cons_succ, List.getElem_cons_zero, List.setIfInBounds_toArray, List.set_cons_zero, List.set_cons_succ]
              refine wpAnyH_law 11 (by kernel_rfl) rfl (by rfl) (wp_store_mid 23 _ _ rfl ga 0 (cb vv).toArray rfl rfl (hba.there 0 _ (by rw [List.size_toArray, cb_len, cb_len, HVL.out]; decide)) (by rw [List.size_toArray, cb_len, HVL.out]; exact info_digest) (all_oneCell_toArray (cb_one vv)) ?_)
              rw [List.toList_toArray]
              have hb9 := hba.whole (cb vv) (by rw [cb_len, cb_len, HVL.out]; rfl)
              have hbf : Below yA.heap.size yA (z8.setCells ga 0 (cb vv)) := Below.setCells _ hga _ _ _ hbl
              have hS9 : Tt w (.slice adt n cpt) ds gA k gL (.slice adx nx cpx) (.slice adw nx cpw) l gR r (z8.setCells ga 0 (cb vv)) ∧ Blk (z8.setCells ga 0 (cb vv)) gx (cb x) 23 := ⟨hT0.1.next hbf, hT0.2.below hbf hT0.2.lt⟩
              refine ⟨hS9, ?_⟩
              simp only [Act.put, List.getElem_toArray, List.getElem_cons_succ, List.getElem_cons_zero]
              clear hbf hbl hba hS
              generalize z8.setCells ga 0 (cb vv) = wE at *
              refine wpAnyH_take (i := 12) (v := .bool bb) rfl (by kernel_rfl) (by kernel_rfl) (by kernel_rfl) (fun _ _ _ h => h) (Or.inl ⟨by rfl, fun wx hx => by simp [go_sem]⟩) hS9 ?_
              simp only [Act.put, List.getElem_toArray, List.getElem_cons_succ, List.getElem_cons_zero, List.setIfInBounds_toArray, List.set_cons_zero, List.set_cons_succ]
              refine wpAnyH_take (i := 13) (v := .int .i64 0) rfl (by kernel_rfl) (by kernel_rfl) (by kernel_rfl) (fun _ _ _ h => h) (Or.inl ⟨by rfl, fun wx hx => by simp [go_sem]⟩) hS9 ?_
              simp only [Act.put, List.getElem_toArray, List.getElem_cons_succ, List.getElem_cons_zero, List.setIfInBounds_toArray, List.set_cons_zero, List.set_cons_succ]
              refine wpAnyH_done (by kernel_rfl) ?_ _
              go_wp2
              go_meet
              case rel => exact ⟨ga, rfl, rfl, rfl, hS9.1, hS9.2, hb9⟩
          case rest =>
            clear HI HX
            obtain ⟨g11, rfl, rfl, rfl, hI, hx, h11⟩ := hcut
            have HI : Hid (Tt w (.slice adt n cpt) ds gA k gL (.slice adx nx cpx) (.slice adw nx cpw) l gR r wc) := hI
            have HX : Hid (Blk wc gx (cb x) 23) := hx
            have H11 : Hid (Blk wc g11 (cb vv) 23) := h11
            clear hI hx h11
            go_wp2_with (first
              | (with_reducible refine wpSeq_loadLv (.tmp 7) gL (.slice adx nx cpx) (.slice adw nx cpw) ?_ ?_ ?_ ?_ ?_
                 · exact HI.out.lb
                 · rfl
                 · rfl
                 · rfl)
              | (with_reducible refine wpSeq_loadD (.tmp 10) gx x ?_ ?_ ?_ ?_ ?_ ?_
                 · exact HXL.out
                 · exact HX.out
                 · with_reducible rfl
                 · rfl
                 · rfl)
              | (go_at_call 20; refine (HC6.out _ HI.out.rl).mono ?_; rintro e wG ⟨rfl, hbG⟩
                 replace HI : Hid (Tt w (.slice adt n cpt) ds gA k gL (.slice adx nx cpx) (.slice adw nx cpw) l gR r wG) := HI.out.next hbG
                 replace H11 : Hid (Blk wG g11 (cb vv) 23) := H11.out.below hbG H11.out.lt
                 clear hbG HX)
              | (with_reducible refine wpSeq_allocD ?_ ?_ ?_
                 · rfl
                 · rfl
                 intro g14 wH nnH)
              | (with_reducible refine wpSeq_storeD (.tmp 14) (.tmp 58) g14 zb32 vv ?_ ?_ ?_ ?_ ?_ ?_ ?_ ?_
                 · rfl
                 · exact HVL.out
                 · exact nnH.blk
                 · rfl
                 · rfl
                 · rfl
                 · rfl
                 intro wI hI9
                 have N14 := nnH.set hI9
                 replace HI : Hid (Tt w (.slice adt n cpt) ds gA k gL (.slice adx nx cpx) (.slice adw nx cpw) l gR r wI) := HI.out.next N14.below
                 replace H11 : Hid (Blk wI g11 (cb vv) 23) := H11.out.below N14.below H11.out.lt
                 have H14 : Hid (Blk wI g14 (cb vv) 23) := N14.blk
                 clear nnH hI9 N14)
              | (with_reducible refine wpSeq_loadD (.tmp 11) g11 vv ?_ ?_ ?_ ?_ ?_ ?_
                 · exact HVL.out
                 · exact H11.out
                 · with_reducible rfl
                 · rfl
                 · rfl)
              | (with_reducible refine wpSeq_loadD (.tmp 14) g14 vv ?_ ?_ ?_ ?_ ?_ ?_
                 · exact HVL.out
                 · exact H14.out
                 · with_reducible rfl
                 · rfl
                 · rfl))
            go_roundw
            case rel => exact ⟨q + 1, by omega, by omega, by simp, HI.out⟩
            case measure => simp [intOf]; omega
      · have HE2 : Hid (¬ (q ≤ n ∧ q < 6)) := hgo
        by_cases hg1 : q ≤ n
        · have hg1i : (q : Int) ≤ (n : Int) := by omega
          have hg2i : ¬ ((q : Int) < 6) := by omega
          go_wp2_with (go_at_call 9; refine (pfworks_any HP.out _ HI.out.kk).mono ?_; rintro e wz ⟨rfl, hbz⟩
                       replace HI : Hid (Tt w (.slice adt n cpt) ds gA k gL (.slice adx nx cpx) (.slice adw nx cpw) l gR r wz) := HI.out.next hbz
                       clear hbz)
          go_ret
          exact ⟨rfl, HI.out.bel⟩
        · have hg1i : ¬ ((q : Int) ≤ (n : Int)) := by omega
          go_wp2_with (go_at_call 9; refine (pfworks_any HP.out _ HI.out.kk).mono ?_; rintro e wz ⟨rfl, hbz⟩
                       replace HI : Hid (Tt w (.slice adt n cpt) ds gA k gL (.slice adx nx cpx) (.slice adw nx cpw) l gR r wz) := HI.out.next hbz
                       clear hbz)
          go_ret
          exact ⟨rfl, HI.out.bel⟩
  · have h60i : (60 : Int) < (n : Int) := by omega
    go_enter Tryd.func5, Tryd.ntmps5
    go_wp2_with (first
      | (with_reducible refine wpSeq_boxD (.tmp 2) k ?_ ?_ ?_ ?_
         · rfl
         · rfl
         · rfl
         intro gA w1 nn1)
      | (go_at_call 9; refine (pfworks_any HP.out _ (HK.out.below nn1.below HK.out.lt)).mono ?_; rintro e wz ⟨rfl, hbz⟩
         have HBW : Hid (Below w.heap.size w wz) := nn1.below.trans (hbz.mono nn1.below.size)
         clear hbz nn1))
    go_ret
    exact ⟨rfl, HBW.out⟩
end Go.Proofs.YtmmhdchhajmbfaaDoor
/- A way built out of parts; all of its sides copied behind a nil slice (layer 8). -/
namespace Go.Proofs.YtmmhdchhajmbfaaDoor
open Go.RowKit
set_option maxRecDepth 100000
theorem builtW (f : Operand → Value) (o : Oper) (c x y : Operand) (ho : o.op = .build 26 #[(1, c), (2, x), (3, y)]) (en : Int) (ix va : List (BitVec 8)) (hl : ix.length = 32) (hl2 : va.length = 32) (hc : f c = .int .i64 en) (hx : f x = .agg (cb ix).toArray) (hy : f y = .agg (cb va).toArray) (w : World) : (execOp f o).run Tryd.prog w = .ok (.value (.agg (prfV nilV en ix va).toArray)) w := by
  unfold execOp
  rw [ho]
  simp only [List.map_toArray, List.map_cons, List.map_nil, hc, hx, hy]
  match ix, hl, va, hl2 with
  | [x0, x1, x2, x3, x4, x5, x6, x7, x8, x9, x10, x11, x12, x13, x14, x15, x16, x17, x18, x19, x20, x21, x22, x23, x24, x25, x26, x27, x28, x29, x30, x31], _, [y0, y1, y2, y3, y4, y5, y6, y7, y8, y9, y10, y11, y12, y13, y14, y15, y16, y17, y18, y19, y20, y21, y22, y23, y24, y25, y26, y27, y28, y29, y30, y31], _ =>
    refine id ?_
    show _ = _
    kernel_rfl
/-- all digests of a slice behind a nil slice: new memory -/
theorem wpSeq_appendAll {ops : Array Oper} {Q : Exit → Act → World → Prop} {rest : List Oper} {o : Oper} {a : Act} {w : World} (s x : Operand) (vs : Value) (sd : List (List (BitVec 8))) (hR : ReadsD w vs sd) (hp : 0 < sd.length) (hl : sd.length < 1000000)
    (ho : o.op = .call { callee := .builtin .append, args := #[s, x], argTypes := #[24, 24] }) (hs : a.eval s = nilV) (hx : a.eval x = vs) (hgd : o.guard = none)
    (h : ∀ v' w', OwnD w' w.heap.size v' sd → Below w.heap.size w w' → wpList Tryd.prog ops Q rest (a.put o.dst v') w') : wpList Tryd.prog ops Q (o :: rest) a w := by
  obtain ⟨i0, hi, hz0, hz1, hz2⟩ := info_parts Tryd.infod3
  obtain ⟨b, off, cp, hvs, hy⟩ := hR.at hp
  subst hvs
  refine wpList_append_own_at w hgd s x 24 ho w.heap.size 23 i0 (.agg (cb zb32).toArray) 32 32 Tryd.underlying24 hi hz0 hz1 hz2 (by show (cb zb32).toArray.size = 32; rw [List.size_toArray, cb_len]; rfl) (by decide) nilV 0 [] hs (World.ownsRow_nil _ _ _ _) ⟨b, off, none⟩ sd.length cp (flatD sd) hx (flatD_len _ hR.2) ?_ ?_ (by unfold maxLen; omega) (by omega) (Nat.le_refl _) ?_
  · intro j u hj
    have hjl : j < sd.length * 32 := by have h1 := (List.getElem?_eq_some_iff.1 hj).1; rwa [flatD_len _ hR.2] at h1
    have hq : j / 32 < sd.length := Nat.div_lt_of_lt_mul (by omega)
    have h32 := getD_mem32 hR.2 hq
    have hm : j % 32 < 32 := Nat.mod_lt _ (by decide)
    have hc := cb_get (sd.getD (j / 32) []) (j % 32) (by omega)
    have hf := flatD_at hR.2 (j / 32) (j % 32) _ hq hc
    have e : j / 32 * 32 + j % 32 = j := by omega
    rw [e, hj] at hf
    cases hf
    have h9 := hy (j / 32) hq (j % 32) _ hc
    rw [Addr.add_mid, show off + j = off + j / 32 * 32 + j % 32 by omega]
    exact h9
  · intro u hu
    obtain ⟨c, hc, hu2⟩ := List.mem_flatten.1 hu
    obtain ⟨d, _, rfl⟩ := List.mem_map.1 hc
    exact cb_one d u hu2
  · intro v' w' h2 h3 _ _
    refine h v' w' ⟨?_, hR.2⟩ ((Below.refl _ _).grown h3 (Nat.le_refl _) (fun k hk => by cases hk))
    rw [Nat.zero_add, List.nil_append] at h2
    exact h2
/-- all digests of a slice, also of an empty one, behind a nil slice -/
theorem wpSeq_copyD {ops : Array Oper} {Q : Exit → Act → World → Prop} {rest : List Oper} {o : Oper} {a : Act} {w : World} (s x : Operand) (vs : Value) (sd : List (List (BitVec 8))) (hR : ReadsD w vs sd) (hl : sd.length < 1000000)
    (ho : o.op = .call { callee := .builtin .append, args := #[s, x], argTypes := #[24, 24] }) (hs : a.eval s = nilV) (hx : a.eval x = vs) (hgd : o.guard = none)
    (h : ∀ v' w', OwnD w' w.heap.size v' sd → Below w.heap.size w w' → wpList Tryd.prog ops Q rest (a.put o.dst v') w') : wpList Tryd.prog ops Q (o :: rest) a w := by
  by_cases hp : 0 < sd.length
  · exact wpSeq_appendAll s x vs sd hR hp hl ho hs hx hgd h
  · obtain rfl : sd = [] := List.length_eq_zero_iff.1 (by omega)
    obtain ⟨⟨ad, cp, hv, hc, hn, _⟩, _⟩ := hR
    obtain ⟨i0, hi, hz0, hz1, hz2⟩ := info_parts Tryd.infod3
    cases ad with
    | none =>
      obtain rfl := hn rfl
      subst hv
      exact wpList_append_own_none hgd s x 24 ho w.heap.size 23 i0 32 Tryd.underlying24 hi nilV 0 [] hs (World.ownsRow_nil _ _ _ _) hx (h nilV w (OwnD.nil _ _) (Below.refl _ _))
    | some ad =>
      subst hv
      refine wpList_append_own_at w hgd s x 24 ho w.heap.size 23 i0 (.agg (cb zb32).toArray) 32 32 Tryd.underlying24 hi hz0 hz1 hz2 (by show (cb zb32).toArray.size = 32; rw [List.size_toArray, cb_len]; rfl) (by decide) nilV 0 [] hs (World.ownsRow_nil _ _ _ _) ad 0 cp [] hx rfl (fun j u hj => by simp at hj) (fun u hu => by cases hu) (by unfold maxLen; omega) (by omega) (Nat.le_refl _) ?_
      intro v' w' h2 h3 h4 _
      obtain rfl := h4.2 ⟨rfl, rfl⟩
      exact h nilV w' (OwnD.nil _ _) ((Below.refl _ _).grown h3 (Nat.le_refl _) (fun k hk => by cases hk))
theorem wpSeq_allocPN {ops : Array Oper} {Q : Exit → Act → World → Prop} {rest : List Oper} {o : Oper} {a : Act} {w : World} (ho : o.op = .alloc 26) (hw : Region.wanted o (yielded ops a.tmps) = true)
    (h : ∀ g w', NewP (prfV nilV 0 zb32 zb32) w g w' → wpList Tryd.prog ops Q rest (a.put o.dst (.pointer (some ⟨g, 0, none⟩))) w') : wpList Tryd.prog ops Q (o :: rest) a w :=
  wpSeq_val _ _ hw (allocPrf _ _ ho _) (h _ _ ⟨Nat.le_refl _, Blk.new w _ _, below_alloc w _⟩)
/-- a way stored whole into a new block -/
theorem wpSeq_storeNP {ops : Array Oper} {Q : Exit → Act → World → Prop} {rest : List Oper} {o : Oper} {a : Act} {w0 w : World} (x y : Operand) (g : Nat) (cs ns : List Value) (hN : NewP cs w0 g w) (hl : cs.length = 66) (hn : ns.length = 66) (h1 : ∀ v ∈ ns, v.oneCell' = true)
    (ho : o.op = .store 26 x y) (hx : a.eval x = .pointer (some ⟨g, 0, none⟩)) (hy : a.eval y = .agg ns.toArray) (hgd : o.guard = none)
    (h : ∀ w', NewP ns w0 g w' → wpList Tryd.prog ops Q rest (a.put o.dst undef) w') : wpList Tryd.prog ops Q (o :: rest) a w :=
  wpList_store_mid hgd 26 x y ho g 0 ns.toArray hx hy (hN.blk.there 0 _ (by rw [List.size_toArray, hl, hn]; decide)) (by rw [List.size_toArray, hn]; exact info_proof) (all_oneCell_toArray h1)
    (by rw [List.toList_toArray]; exact h _ ⟨hN.ge, hN.blk.whole ns (by rw [hl, hn]), Below.setCells _ hN.ge _ _ _ hN.below⟩)
/-- the slice of sides of a new way set anew -/
theorem NewP.side {vs vs' : Value} {en : Int} {ix va : List (BitVec 8)} {w0 w : World} {g : Nat} (h : NewP (prfV vs en ix va) w0 g w) : NewP (prfV vs' en ix va) w0 g (w.setCell ⟨g, 0, none⟩ vs') :=
  ⟨h.ge, h.blk.set 0 vs', h.below.setCell h.ge _⟩
end Go.Proofs.YtmmhdchhajmbfaaDoor
/- A way of which one part is turned: plain, and in memory. -/
namespace Go.Proofs.YtmmhdchhajmbfaaDoor
open Go.RowKit
set_option maxRecDepth 100000
/-- the first i bytes turned by those of b -/
def xr (i : Nat) (s b : List (BitVec 8)) : List (BitVec 8) := (List.range s.length).map fun j => if j < i then s.getD j 0 ^^^ b.getD j 0 else s.getD j 0
theorem xr_len (i : Nat) (s b : List (BitVec 8)) : (xr i s b).length = s.length := by simp [xr]
theorem xr_at (i : Nat) (s b : List (BitVec 8)) (j : Nat) (hj : j < s.length) : (xr i s b).getD j 0 = if j < i then s.getD j 0 ^^^ b.getD j 0 else s.getD j 0 := by
  unfold xr
  rw [List.getD_eq_getElem?_getD, List.getElem?_map, List.getElem?_range hj]
  rfl
theorem ext_getD {s t : List (BitVec 8)} (hl : s.length = t.length) (h : ∀ j, j < s.length → s.getD j 0 = t.getD j 0) : s = t := by
  apply List.ext_getElem hl
  intro j h1 h2
  have := h j h1
  rw [List.getD_eq_getElem?_getD, List.getD_eq_getElem?_getD, List.getElem?_eq_getElem h1, List.getElem?_eq_getElem h2] at this
  exact this
theorem xr_zero (s b : List (BitVec 8)) : xr 0 s b = s := ext_getD (xr_len _ _ _) fun j hj => by
  rw [xr_len] at hj
  rw [xr_at _ _ _ _ hj, if_neg (by omega)]
theorem xr_succ (i : Nat) (s b : List (BitVec 8)) (hi : i < s.length) : xr (i + 1) s b = (xr i s b).set i (s.getD i 0 ^^^ b.getD i 0) := by
  refine ext_getD (by rw [List.length_set, xr_len, xr_len]) fun j hj => ?_
  rw [xr_len] at hj
  rw [xr_at _ _ _ _ hj, List.getD_eq_getElem?_getD (l := List.set _ _ _), List.getElem?_set]
  by_cases e : i = j
  · subst e
    rw [if_pos (Nat.lt_succ_self i), if_pos rfl, if_pos (by rw [xr_len]; exact hi)]
    rfl
  · rw [if_neg e, ← List.getD_eq_getElem?_getD, xr_at _ _ _ _ hj]
    by_cases h2 : j < i
    · rw [if_pos h2, if_pos (by omega)]
    · rw [if_neg h2, if_neg (by omega)]
theorem xr_ne {s b : List (BitVec 8)} (hs : s.length = 32) (hb : b.length = 32) (hn : b ≠ zb32) : xr 32 s b ≠ s := fun h => hn (ext_getD (by rw [hb]; rfl) fun j hj => by
  rw [hb] at hj
  have h1 := xr_at 32 s b j (by omega)
  rw [h, if_pos hj] at h1
  have h2 : b.getD j 0 = 0 := by
    have : s.getD j 0 ^^^ (s.getD j 0 ^^^ b.getD j 0) = s.getD j 0 ^^^ s.getD j 0 := by rw [← h1]
    rw [← BitVec.xor_assoc, BitVec.xor_self, BitVec.zero_xor] at this
    exact this
  rw [h2]
  have hz : zb32 = List.replicate 32 0 := rfl
  rw [hz, List.getD_eq_getElem?_getD, List.getElem?_replicate, if_pos hj]
  rfl)
def sdq (kk i : Nat) (sd : List (List (BitVec 8))) (b : List (BitVec 8)) : List (List (BitVec 8)) := if kk < sd.length then sd.set kk (xr i (sd.getD kk []) b) else sd
def vaq (kk n i : Nat) (va b : List (BitVec 8)) : List (BitVec 8) := if kk = n then xr i va b else va
def ixq (kk n i : Nat) (ix b : List (BitVec 8)) : List (BitVec 8) := if n < kk then xr i ix b else ix
theorem vaq_len (kk n i : Nat) (va b : List (BitVec 8)) : (vaq kk n i va b).length = va.length := by unfold vaq; split; exact xr_len _ _ _; rfl
theorem ixq_len (kk n i : Nat) (ix b : List (BitVec 8)) : (ixq kk n i ix b).length = ix.length := by unfold ixq; split; exact xr_len _ _ _; rfl
theorem sdq_len (kk i : Nat) (sd : List (List (BitVec 8))) (b : List (BitVec 8)) : (sdq kk i sd b).length = sd.length := by unfold sdq; split; rw [List.length_set]; rfl
theorem set_getD_self {α : Type} (l : List α) (k : Nat) (z : α) : l.set k (l.getD k z) = l := by
  apply List.ext_getElem?
  intro j
  rw [List.getElem?_set]
  split
  · rename_i e
    subst e
    split
    · rename_i h
      rw [List.getD_eq_getElem?_getD, List.getElem?_eq_getElem h]; rfl
    · rename_i h
      rw [List.getElem?_eq_none (by omega)]
  · rfl
theorem sdq_zero (kk : Nat) (sd : List (List (BitVec 8))) (b : List (BitVec 8)) : sdq kk 0 sd b = sd := by
  unfold sdq
  split
  · rw [xr_zero, set_getD_self]
  · rfl
theorem vaq_zero (kk n : Nat) (va b : List (BitVec 8)) : vaq kk n 0 va b = va := by unfold vaq; split; exact xr_zero _ _; rfl
theorem ixq_zero (kk n : Nat) (ix b : List (BitVec 8)) : ixq kk n 0 ix b = ix := by unfold ixq; split; exact xr_zero _ _; rfl
theorem sdq_32 (kk i : Nat) {sd : List (List (BitVec 8))} (b : List (BitVec 8)) (h : ∀ s ∈ sd, s.length = 32) : ∀ s ∈ sdq kk i sd b, s.length = 32 := by
  intro s hs
  unfold sdq at hs
  split at hs
  · rename_i hk
    rcases List.mem_or_eq_of_mem_set hs with h1 | h1
    · exact h s h1
    · rw [h1, xr_len]
      exact getD_mem32 h hk
  · exact h s hs
/-- two ways that part somewhere, from one root -/
theorem turned_two {x b ix va : List (BitVec 8)} {sd : List (List (BitVec 8))} {en : Int} {kk : Nat} (hb : b.length = 32) (hn : b ≠ zb32) (hix : ix.length = 32) (hva : va.length = 32) (h32 : ∀ s ∈ sd, s.length = 32) (hk : kk < sd.length ∨ en = 1)
    (h : topL x (endB en ix va) 0 sd = topL x (endB en (ixq kk sd.length 32 ix b) (vaq kk sd.length 32 va b)) 0 (sdq kk 32 sd b)) : twoL (hashL x (endB en ix va) 0 sd) (hashL x (endB en (ixq kk sd.length 32 ix b) (vaq kk sd.length 32 va b)) 0 (sdq kk 32 sd b)) := by
  rcases hash_two x _ _ sd (sdq kk 32 sd b) 0 (sdq_len _ _ _ _).symm h32 (sdq_32 _ _ _ h32) h with h1 | ⟨h1, h2⟩
  · exact h1
  · exfalso
    by_cases hlt : kk < sd.length
    · unfold sdq at h1
      rw [if_pos hlt] at h1
      have h3 : sd[kk]? = (sd.set kk (xr 32 (sd.getD kk []) b))[kk]? := by rw [← h1]
      rw [List.getElem?_set, if_pos rfl, if_pos hlt, List.getElem?_eq_getElem hlt, Option.some.injEq] at h3
      have h4 : sd.getD kk [] = sd[kk] := by rw [List.getD_eq_getElem?_getD, List.getElem?_eq_getElem hlt]; rfl
      rw [← h4] at h3
      exact xr_ne (getD_mem32 h32 hlt) hb hn h3.symm
    · have he : en = 1 := by
        rcases hk with h3 | h3
        · exact absurd h3 hlt
        · exact h3
      subst he
      unfold endB at h2
      rw [if_pos rfl, if_pos rfl] at h2
      obtain ⟨_, h3, h4⟩ := pairB_eq hix (by rw [ixq_len, hix]) h2
      by_cases e : kk = sd.length
      · unfold vaq at h4
        rw [if_pos e] at h4
        exact xr_ne hva hb hn h4.symm
      · unfold ixq at h3
        rw [if_pos (by omega)] at h3
        exact xr_ne hix hb hn h3.symm
/-! in memory -/
theorem ReadsD.ltD {W : World} {v : Value} {ds : List (List (BitVec 8))} (h : ReadsD W v ds) (hp : 0 < ds.length) : ∀ k, v.ownBlock = some k → k < W.heap.size := by
  obtain ⟨⟨ad, cap, hv, _, _, hx⟩, h2⟩ := h
  obtain ⟨b, off, h3, h4⟩ := hx hp
  intro k hk
  rw [hv, h3] at hk
  simp only [Value.ownBlock, Option.some.injEq] at hk
  subst hk
  exact rangeAt_lt (h4 0 hp) (getD_mem32 h2 hp)
theorem ReadsD.away {W W' : World} {g : Nat} {v : Value} {ds : List (List (BitVec 8))} (h : ReadsD W v ds) (hg : W.grownBy W' (some g)) (hn : 0 < ds.length → ∀ k, v.ownBlock = some k → k ≠ g) : ReadsD W' v ds := by
  have hlt := h.ltD
  obtain ⟨⟨ad, cap, hv, hc, hz, hx⟩, h2⟩ := h
  refine ⟨⟨ad, cap, hv, hc, hz, fun hp => ?_⟩, h2⟩
  obtain ⟨b, off, h3, h4⟩ := hx hp
  have hb : v.ownBlock = some b := by rw [hv, h3]; rfl
  have hh := hg.block b (hlt hp b hb) (fun e => hn hp b hb (Option.some.inj e))
  refine ⟨b, off, h3, fun j hj i u hi => ?_⟩
  have := h4 j hj i u hi
  unfold World.cell? at this ⊢
  rw [hh]
  exact this
theorem flatD_set {ds : List (List (BitVec 8))} (h : ∀ d ∈ ds, d.length = 32) (k i : Nat) (b : BitVec 8) (hk : k < ds.length) (hi : i < 32) : flatD (ds.set k ((ds.getD k []).set i b)) = (flatD ds).set (k * 32 + i) (.int .u8 (b.toNat : Int)) := by
  induction ds generalizing k with
  | nil => simp at hk
  | cons d r ih =>
    have hd : d.length = 32 := h d (by simp)
    cases k with
    | zero =>
      rw [List.set_cons_zero, List.getD_cons_zero, Nat.zero_mul, Nat.zero_add]
      unfold flatD
      rw [List.map_cons, List.flatten_cons, List.map_cons, List.flatten_cons, List.set_append_left _ _ (by rw [cb_len]; omega), cb_set]
    | succ k =>
      have := ih (fun e he => h e (by simp [he])) k (by simpa using hk)
      rw [List.set_cons_succ, List.getD_cons_succ]
      unfold flatD at this ⊢
      rw [List.map_cons, List.flatten_cons, List.map_cons, List.flatten_cons, this, List.set_append_right _ _ (by rw [cb_len]; omega), cb_len, hd]
      congr 2
      omega
theorem OwnD.setB {W : World} {base g n cap : Nat} {ds : List (List (BitVec 8))} (h : OwnD W base (.slice (some ⟨g, 0, none⟩) n cap) ds) (k i : Nat) (b : BitVec 8) (hk : k < ds.length) (hi : i < 32) :
    OwnD (W.setCell ⟨g, k * 32 + i, none⟩ (.int .u8 (b.toNat : Int))) base (.slice (some ⟨g, 0, none⟩) n cap) (ds.set k ((ds.getD k []).set i b)) := by
  obtain ⟨⟨h1, hc⟩, h2⟩ := h
  refine ⟨⟨?_, ?_⟩, fun d hd => ?_⟩
  · rw [flatD_set h2 k i b hk hi, List.length_set, h1, List.length_set]
  · rcases hc with ⟨h3, _⟩ | ⟨g', cap', cur, h3, hb, hh, h4, h5, h6, h7⟩
    · cases h3
    · cases h3
      refine Or.inr ⟨g, cap, cur.setIfInBounds (k * 32 + i) (.int .u8 (b.toNat : Int)), by rw [List.length_set], hb, ?_, by rw [List.length_set]; exact h4, h5, by rw [Array.size_setIfInBounds]; exact h6, ?_⟩
      · rw [heap_setCell_same W g (k * 32 + i) cur _ _ hh]
      · rw [flatD_set h2 k i b hk hi, List.length_set, ← h7, Array.toList_setIfInBounds, List.take_set]
  · rcases List.mem_or_eq_of_mem_set hd with h3 | h3
    · exact h2 d h3
    · rw [h3, List.length_set]; exact getD_mem32 h2 hk
end Go.Proofs.YtmmhdchhajmbfaaDoor
/- A way that is being turned, byte by byte, in memory. -/
namespace Go.Proofs.YtmmhdchhajmbfaaDoor
open Go.RowKit
set_option maxRecDepth 100000
theorem prfV_ix_at (vs : Value) (en : Int) (ix va : List (BitVec 8)) (hix : ix.length = 32) (i : Nat) (hi : i < 32) : (prfV vs en ix va)[2 + i]? = some (.int .u8 ((ix.getD i 0).toNat : Int)) := by
  unfold prfV
  rw [Nat.add_comm, List.getElem?_cons_succ, List.getElem?_cons_succ, List.getElem?_append_left (by rw [cb_len]; omega), cb_get ix i (by omega)]
theorem prfV_va_at (vs : Value) (en : Int) (ix va : List (BitVec 8)) (hix : ix.length = 32) (hva : va.length = 32) (i : Nat) (hi : i < 32) : (prfV vs en ix va)[34 + i]? = some (.int .u8 ((va.getD i 0).toNat : Int)) := by
  unfold prfV
  rw [show 34 + i = (32 + i) + 1 + 1 by omega, List.getElem?_cons_succ, List.getElem?_cons_succ, List.getElem?_append_right (by rw [cb_len]; omega), cb_len, hix, show 32 + i - 32 = i by omega, cb_get va i (by omega)]
theorem prfV_ix_set (vs : Value) (en : Int) (ix va : List (BitVec 8)) (hix : ix.length = 32) (i : Nat) (hi : i < 32) (b : BitVec 8) : (prfV vs en ix va).set (2 + i) (.int .u8 (b.toNat : Int)) = prfV vs en (ix.set i b) va := by
  unfold prfV
  rw [Nat.add_comm, List.set_cons_succ, List.set_cons_succ, List.set_append_left _ _ (by rw [cb_len]; omega), cb_set]
theorem prfV_va_set (vs : Value) (en : Int) (ix va : List (BitVec 8)) (hix : ix.length = 32) (i : Nat) (b : BitVec 8) : (prfV vs en ix va).set (34 + i) (.int .u8 (b.toNat : Int)) = prfV vs en ix (va.set i b) := by
  unfold prfV
  rw [show 34 + i = (32 + i) + 1 + 1 by omega, List.set_cons_succ, List.set_cons_succ, List.set_append_right _ _ (by rw [cb_len]; omega), cb_len, hix, show 32 + i - 32 = i by omega, cb_set]
structure Tu (w : World) (gx gy gp gQ base : Nat) (x b : List (BitVec 8)) (vs : Value) (sd : List (List (BitVec 8))) (en : Int) (ix va : List (BitVec 8)) (vq : Value) (kk i : Nat) (W : World) : Prop where
  k0 : KOk w
  xb : Blk W gx (cb x) 23
  yb : Blk W gy (cb b) 23
  pb : Blk W gp (prfV vs en ix va) 26
  rd : ReadsD W vs sd
  qb : Blk W gQ (prfV vq en (ixq kk sd.length i ix b) (vaq kk sd.length i va b)) 26
  qo : OwnD W base vq (sdq kk i sd b)
  bel : Below w.heap.size w W
  lq : gx < gQ ∧ gy < gQ ∧ gp < gQ ∧ gQ < base ∧ w.heap.size ≤ gQ
  lv : 0 < sd.length → ∀ k, vs.ownBlock = some k → k < gQ
  sz : base ≤ W.heap.size
section
variable {w : World} {gx gy gp gQ base : Nat} {x b : List (BitVec 8)} {vs : Value} {sd : List (List (BitVec 8))} {en : Int} {ix va : List (BitVec 8)} {vq : Value} {kk i : Nat} {W W' : World}
theorem Tu.kok (h : Tu w gx gy gp gQ base x b vs sd en ix va vq kk i W) : KOk W := h.k0.below h.bel h.k0.lt
theorem Tu.next (h : Tu w gx gy gp gQ base x b vs sd en ix va vq kk i W) (hb : Below W.heap.size W W') : Tu w gx gy gp gQ base x b vs sd en ix va vq kk i W' :=
  ⟨h.k0, h.xb.below hb h.xb.lt, h.yb.below hb h.yb.lt, h.pb.below hb h.pb.lt, h.rd.below hb, h.qb.below hb h.qb.lt, h.qo.keep fun j _ hj => hb.block j hj, h.bel.trans (hb.mono h.bel.size), h.lq, h.lv, Nat.le_trans h.sz hb.size⟩
theorem Tu.drew (h : Tu w gx gy gp gQ base x b vs sd en ix va vq kk i W) : Tu w gx gy gp gQ base x b vs sd en ix va vq kk i W.drew := h.next (Below.refl _ _).drew
theorem Tu.by (h : Tu w gx gy gp gQ base x b vs sd en ix va vq kk i W) (hb : b.length = 32) (hi : i < 32) : W.cell? ⟨gy, i, none⟩ = some (.int .u8 ((b.getD i 0).toNat : Int)) := by rw [h.yb.cell, cb_get b i (by omega)]
theorem grown_one (W : World) (g o : Nat) (u : Value) : W.grownBy (W.setCell ⟨g, o, none⟩ u) (some g) := ⟨rfl, rfl, rfl, by simp, fun k _ hk => heap_one (fun e => hk (by rw [e]))⟩
/-- a byte of q's value is turned -/
theorem Tu.stepV (h : Tu w gx gy gp gQ base x b vs sd en ix va vq kk i W) (hix : ix.length = 32) (hva : va.length = 32) (hi : i < 32) (hk : kk = sd.length) :
    W.cell? ⟨gQ, 34 + i, none⟩ = some (.int .u8 ((va.getD i 0).toNat : Int)) ∧ W.frozen? ⟨gQ, 34 + i, none⟩ = false ∧ Tu w gx gy gp gQ base x b vs sd en ix va vq kk (i + 1) (W.setCell ⟨gQ, 34 + i, none⟩ (.int .u8 ((va.getD i 0 ^^^ b.getD i 0).toNat : Int))) := by
  obtain ⟨l1, l2, l3, l4, l5⟩ := h.lq
  have hq := h.qb
  have e1 : ∀ j, ixq kk sd.length j ix b = ix := fun j => by unfold ixq; rw [if_neg (by omega)]
  have e2 : ∀ j, vaq kk sd.length j va b = xr j va b := fun j => by unfold vaq; rw [if_pos hk]
  have e3 : ∀ j, sdq kk j sd b = sd := fun j => by unfold sdq; rw [if_neg (by omega)]
  have hqo := h.qo
  rw [e1, e2] at hq
  rw [e3] at hqo
  have hg := grown_one W gQ (34 + i) (.int .u8 ((va.getD i 0 ^^^ b.getD i 0).toNat : Int))
  refine ⟨?_, hq.frozen _, h.k0, h.xb.one (by omega), h.yb.one (by omega), h.pb.one (by omega), h.rd.away hg (fun hp k hk => by have := h.lv hp k hk; omega), ?_, ?_, h.bel.setCell (p := ⟨gQ, 34 + i, none⟩) l5 _, h.lq, h.lv, by simpa using h.sz⟩
  · rw [hq.cell, prfV_va_at _ _ _ _ hix (by rw [xr_len]; exact hva) i hi, xr_at _ _ _ _ (by omega), if_neg (by omega)]
  · rw [e1, e2, xr_succ i va b (by omega)]
    have := hq.set (34 + i) (.int .u8 ((va.getD i 0 ^^^ b.getD i 0).toNat : Int))
    rw [prfV_va_set _ _ _ _ hix] at this
    exact this
  · rw [e3]
    exact hqo.keep fun j hj _ => heap_one (by omega)
/-- a byte of q's index is turned -/
theorem Tu.stepI (h : Tu w gx gy gp gQ base x b vs sd en ix va vq kk i W) (hix : ix.length = 32) (hi : i < 32) (hk : sd.length < kk) :
    W.cell? ⟨gQ, 2 + i, none⟩ = some (.int .u8 ((ix.getD i 0).toNat : Int)) ∧ W.frozen? ⟨gQ, 2 + i, none⟩ = false ∧ Tu w gx gy gp gQ base x b vs sd en ix va vq kk (i + 1) (W.setCell ⟨gQ, 2 + i, none⟩ (.int .u8 ((ix.getD i 0 ^^^ b.getD i 0).toNat : Int))) := by
  obtain ⟨l1, l2, l3, l4, l5⟩ := h.lq
  have hq := h.qb
  have e1 : ∀ j, ixq kk sd.length j ix b = xr j ix b := fun j => by unfold ixq; rw [if_pos hk]
  have e2 : ∀ j, vaq kk sd.length j va b = va := fun j => by unfold vaq; rw [if_neg (by omega)]
  have e3 : ∀ j, sdq kk j sd b = sd := fun j => by unfold sdq; rw [if_neg (by omega)]
  have hqo := h.qo
  rw [e1, e2] at hq
  rw [e3] at hqo
  have hg := grown_one W gQ (2 + i) (.int .u8 ((ix.getD i 0 ^^^ b.getD i 0).toNat : Int))
  refine ⟨?_, hq.frozen _, h.k0, h.xb.one (by omega), h.yb.one (by omega), h.pb.one (by omega), h.rd.away hg (fun hp k hk => by have := h.lv hp k hk; omega), ?_, ?_, h.bel.setCell (p := ⟨gQ, 2 + i, none⟩) l5 _, h.lq, h.lv, by simpa using h.sz⟩
  · rw [hq.cell, prfV_ix_at _ _ _ _ (by rw [xr_len]; exact hix) i hi, xr_at _ _ _ _ (by omega), if_neg (by omega)]
  · rw [e1, e2, xr_succ i ix b (by omega)]
    have := hq.set (2 + i) (.int .u8 ((ix.getD i 0 ^^^ b.getD i 0).toNat : Int))
    rw [prfV_ix_set _ _ _ _ (by rw [xr_len]; exact hix) i hi] at this
    exact this
  · rw [e3]
    exact hqo.keep fun j hj _ => heap_one (by omega)
/-- a byte of a side of q is turned -/
theorem Tu.stepS {g9 nq cq : Nat} (h : Tu w gx gy gp gQ base x b vs sd en ix va (.slice (some ⟨g9, 0, none⟩) nq cq) kk i W) (h32 : ∀ s ∈ sd, s.length = 32) (hi : i < 32) (hk : kk < sd.length) :
    W.cell? ⟨g9, kk * 32 + i, none⟩ = some (.int .u8 (((sd.getD kk []).getD i 0).toNat : Int)) ∧ W.frozen? ⟨g9, kk * 32 + i, none⟩ = false ∧ g9 ≠ gy ∧ g9 ≠ gQ ∧ Tu w gx gy gp gQ base x b vs sd en ix va (.slice (some ⟨g9, 0, none⟩) nq cq) kk (i + 1) (W.setCell ⟨g9, kk * 32 + i, none⟩ (.int .u8 (((sd.getD kk []).getD i 0 ^^^ b.getD i 0).toNat : Int))) := by
  obtain ⟨l1, l2, l3, l4, l5⟩ := h.lq
  have hg9 := (h.qo.lt g9 rfl).1
  have hs := getD_mem32 h32 hk
  have e1 : ∀ j, ixq kk sd.length j ix b = ix := fun j => by unfold ixq; rw [if_neg (by omega)]
  have e2 : ∀ j, vaq kk sd.length j va b = va := fun j => by unfold vaq; rw [if_neg (by omega)]
  have e3 : ∀ j, sdq kk j sd b = sd.set kk (xr j (sd.getD kk []) b) := fun j => by unfold sdq; rw [if_pos hk]
  have hq := h.qb
  have hqo := h.qo
  rw [e1, e2] at hq
  rw [e3] at hqo
  have hl : kk < (sd.set kk (xr i (sd.getD kk []) b)).length := by rw [List.length_set]; exact hk
  have hget : (sd.set kk (xr i (sd.getD kk []) b)).getD kk [] = xr i (sd.getD kk []) b := by
    rw [List.getD_eq_getElem?_getD, List.getElem?_set, if_pos rfl, if_pos hk]; rfl
  have hg := grown_one W g9 (kk * 32 + i) (.int .u8 (((sd.getD kk []).getD i 0 ^^^ b.getD i 0).toNat : Int))
  refine ⟨?_, ?_, by omega, by omega, h.k0, h.xb.one (by omega), h.yb.one (by omega), h.pb.one (by omega), h.rd.away hg (fun hp k hk => by have := h.lv hp k hk; omega), ?_, ?_, h.bel.setCell (p := ⟨g9, kk * 32 + i, none⟩) (by show _ ≤ g9; omega) _, h.lq, h.lv, by simpa using h.sz⟩
  · obtain ⟨bb, off, cp, h1, h2⟩ := hqo.readsD.at (by omega)
    cases h1
    have h3 := h2 kk hl
    rw [hget] at h3
    have h4 := h3 i _ (cb_get _ i (by rw [xr_len]; omega))
    rw [xr_at _ _ _ _ (by omega), if_neg (by omega), Nat.zero_add] at h4
    exact h4
  · rcases hqo.1 with ⟨_, ⟨h1, _⟩ | ⟨g, cap, cur, h1, _, hh, _⟩⟩
    · cases h1
    · cases h1
      exact frozen_of_row W g9 _ _ _ hh
  · rw [e1, e2]; exact hq.one (by omega)
  · have := hqo.setB kk i ((sd.getD kk []).getD i 0 ^^^ b.getD i 0) hl hi
    rw [hget, ← xr_succ i _ b (by omega), List.set_set] at this
    rw [e3]
    exact this
end
theorem binXor (f : Operand → Value) (o : Oper) (x y : Operand) (ho : o.op = .binOp .xor 5 x y 5) (a b : BitVec 8) (hx : f x = .int .u8 (a.toNat : Int)) (hy : f y = .int .u8 (b.toNat : Int)) (w : World) : (execOp f o).run Tryd.prog w = .ok (.value (.int .u8 ((a ^^^ b).toNat : Int))) w := by
  unfold execOp
  rw [ho]
  simp only [hx, hy]
  have h := xor_byte a b
  simp [go_sem, h]
theorem remU (f : Operand → Value) (o : Oper) (x y : Operand) (ho : o.op = .binOp .rem 46 x y 46) (A M : Nat) (hx : f x = .int .u64 (A : Int)) (hy : f y = .int .u64 (M : Int)) (hM : 0 < M) (w : World) : (execOp f o).run Tryd.prog w = .ok (.value (.int .u64 ((A % M : Nat) : Int))) w := by
  unfold execOp
  rw [ho]
  simp only [hx, hy]
  simp [go_sem]
  rw [if_neg (by omega), Int.tmod_eq_emod_of_nonneg (by omega)]
theorem remI (f : Operand → Value) (o : Oper) (x y : Operand) (ho : o.op = .binOp .rem 3 x y 3) (A M : Nat) (hx : f x = .int .i64 (A : Int)) (hy : f y = .int .i64 (M : Int)) (hM : 0 < M) (w : World) : (execOp f o).run Tryd.prog w = .ok (.value (.int .i64 ((A % M : Nat) : Int))) w := by
  unfold execOp
  rw [ho]
  simp only [hx, hy]
  simp [go_sem]
  rw [if_neg (by omega), Int.tmod_eq_emod_of_nonneg (by omega)]
theorem convU (f : Operand → Value) (o : Oper) (x : Operand) (ho : o.op = .convert 3 46 x) (a : Int) (hx : f x = .int .i64 a) (w : World) : (execOp f o).run Tryd.prog w = .ok (.value (.int .u64 (IntKind.u64.wrap a))) w := by
  unfold execOp
  rw [ho]
  simp only [hx]
  simp [go_sem]
theorem convI (f : Operand → Value) (o : Oper) (x : Operand) (ho : o.op = .convert 46 3 x) (a : Int) (hx : f x = .int .u64 a) (w : World) : (execOp f o).run Tryd.prog w = .ok (.value (.int .i64 (IntKind.i64.wrap a))) w := by
  unfold execOp
  rw [ho]
  simp only [hx]
  simp [go_sem]
theorem wrapU (a : Int) : ∃ A : Nat, IntKind.u64.wrap a = (A : Int) ∧ A < 18446744073709551616 := by
  refine ⟨(a % 18446744073709551616).toNat, ?_, ?_⟩
  · simp [IntKind.wrap, IntKind.bits, IntKind.signed]
    omega
  · omega
end Go.Proofs.YtmmhdchhajmbfaaDoor

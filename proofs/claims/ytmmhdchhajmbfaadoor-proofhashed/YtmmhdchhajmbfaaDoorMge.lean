/- Texts that the proof leans on, one behind the other: The walk of the statements' works (layer 8). Where the statements of layer 8 stand. The walk of blazonref04.SameTexts (as in layer 4). .. -/
import Derived.Test.YtmmhdchhajmbfaaDoorMgd
import Derived.Test.YtmmhdchhajmbfaaDoorMgc
import Derived.Test.YtmmhdchhajmbfaaDoorRows
import Derived.Test.YtmmhdchhajmbfaaDoorMga
import Derived.ProofKit
import Derived.LaidMore
import Derived.OpenShut
import Derived.Stop.Joined
import Derived.Lib.LaidTab
import Derived.Carry
import Derived.ChangeSlices
import Derived.Test.YtmmhdchhajmbfaaDoorMgb
import Derived.Deep.Slices
import Derived.Deep.Strs
import Derived.Lib.SmallJoins
/- The walk of the statements' works (layer 8). -/
namespace Go.Proofs.YtmmhdchhajmbfaaDoor
open Go.RowKit
set_option maxRecDepth 100000
def dgt (b : BitVec 8) : List (BitVec 8) := b :: List.replicate 31 0
theorem dig69_ne : dig [69] ≠ zb32 := by decide +kernel
theorem buildT1 (a : Act) (o : Oper) (ho : o.op = .build 23 #[(0, .const (.int .u8 1))]) (w : World) : (execOp a.eval o).run Tryd.prog w = .ok (.value (.agg (cb (dgt 1)).toArray)) w := by
  unfold execOp
  rw [ho]
  simp only [Act.eval, List.map_toArray, List.map_cons, List.map_nil]
  kernel_rfl
theorem buildW1 (f : Operand → Value) (o : Oper) (p q : Operand) (ho : o.op = .build 26 #[(1, .const (.int .i64 1)), (2, p), (3, q)]) (h0 : f (.const (.int .i64 1)) = .int .i64 1) (hp : f p = .agg (cb (dgt 1)).toArray) (hq : f q = .agg (cb (dgt 1)).toArray) (w : World) : (execOp f o).run Tryd.prog w = .ok (.value (.agg (prfV nilV 1 (dgt 1) (dgt 1)).toArray)) w := by
  unfold execOp
  rw [ho]
  simp only [List.map_toArray, List.map_cons, List.map_nil, h0, hp, hq]
  kernel_rfl
theorem common_self (x : List (BitVec 8)) : common x x = 256 := common_is x x 256 (Nat.le_refl _) (fun _ _ => rfl) (fun h => absurd h (Nat.lt_irrefl _))
theorem check_leaf (x : List (BitVec 8)) : checkW (dig (pairB 76 x x)) x [] 1 x x = some (some x) := by
  unfold checkW
  rw [if_neg, if_pos ⟨rfl, rfl⟩]
  rintro (h | ⟨_, h⟩ | h)
  · simp [rightW] at h
  · simp at h
  · exact h (topL_nil _ _ _)
theorem check_empty (x : List (BitVec 8)) : checkW (dig [69]) x [] 0 zb32 zb32 = some Option.none := by
  unfold checkW
  rw [if_neg, if_neg (fun h => absurd h.1 (by decide))]
  rintro (h | ⟨h, _⟩ | h)
  · simp [rightW] at h
  · exact absurd h (by decide)
  · exact h (topL_nil _ _ _)
theorem check_zero (x : List (BitVec 8)) : checkW zb32 x [] 0 zb32 zb32 = Option.none := by
  unfold checkW
  rw [if_pos (Or.inr (Or.inr (by rw [topL_nil]; exact dig69_ne)))]
/-- where works stands -/
structure Pw (w : World) (g : Nat) (x : List (BitVec 8)) (W : World) : Prop where
  k0 : KOk w
  xb : Blk W g (cb x) 23
  bel : Below w.heap.size w W
theorem Pw.kk {w W : World} {g : Nat} {x : List (BitVec 8)} (h : Pw w g x W) : KOk W := h.k0.below h.bel h.k0.lt
theorem Pw.next {w W W' : World} {g : Nat} {x : List (BitVec 8)} (h : Pw w g x W) (hb : Below W.heap.size W W') : Pw w g x W' :=
  ⟨h.k0, h.xb.below hb h.xb.lt, h.bel.trans (hb.mono h.bel.size)⟩
theorem Pw.set {w W W' : World} {g ga : Nat} {x : List (BitVec 8)} (h : Pw w g x W) (hne : ga ≠ g) (hk : ∀ k, k ≠ ga → W'.heap[k]? = W.heap[k]?) (hb : Below w.heap.size w W') : Pw w g x W' := by
  refine ⟨h.k0, ?_, hb⟩
  have h2 := h.xb
  unfold Blk at *
  rw [hk g (Ne.symm hne)]
  exact h2
theorem readsD_nil (W : World) : ReadsD W nilV [] := ⟨⟨Option.none, 0, rfl, Nat.le_refl _, fun _ => rfl, fun h => absurd h (by simp)⟩, fun _ h => by cases h⟩
set_option maxRecDepth 100000 in
set_option maxHeartbeats 8000000 in
theorem pfworks_any (hP : PfOps) (w : World) (hK : KOk w) : Calls Tryd.prog 9 #[] w fun e w' => e = .returned (.bool true) ∧ Below w.heap.size w w' := by
  have HP : Hid PfOps := hP
  have HK : Hid (KOk w) := hK
  clear hP hK
  obtain ⟨x, HX⟩ : ∃ x, Hid (x = dgt 1) := ⟨_, rfl⟩
  have HXL : Hid (x.length = 32) := by show _ = _; rw [HX.out]; rfl
  obtain ⟨l, HLF⟩ : ∃ r, Hid (r = dig (pairB 76 x x)) := ⟨_, rfl⟩
  obtain ⟨m, HEM⟩ : ∃ r, Hid (r = dig [69]) := ⟨_, rfl⟩
  have HLL : Hid (l.length = 32) := by show _ = _; rw [HLF.out]; exact len_dig' _
  have HML : Hid (m.length = 32) := by show _ = _; rw [HEM.out]; exact len_dig' _
  obtain ⟨p1, HP1⟩ : ∃ c, Hid (c = prfV nilV 1 x x) := ⟨_, rfl⟩
  obtain ⟨p0, HP0⟩ : ∃ c, Hid (c = prfV nilV 0 zb32 zb32) := ⟨_, rfl⟩
  have HCL : Hid (∀ W, Calls Tryd.prog 23 #[.agg (cb x).toArray, .agg (cb x).toArray] W fun e w' => e = .returned (.agg (cb l).toArray) ∧ Below W.heap.size W w') := fun W => by rw [HLF.out]; exact hLeaf_any x x HXL.out HXL.out W
  have HCE : Hid (∀ W, Calls Tryd.prog 24 #[] W fun e w' => e = .returned (.agg (cb m).toArray) ∧ Below W.heap.size W w') := fun W => by rw [HEM.out]; exact hEmpty_any W
  have HC1 : Hid (∀ W, KOk W → Calls Tryd.prog 15 #[.agg (cb l).toArray, .agg (cb x).toArray, .agg p1.toArray] W fun e w' => e = .returned (.tuple #[.agg (cb x).toArray, .bool true, .int .i64 0]) ∧ Below W.heap.size W w') := fun W hk => by
    have h := HP.out.check W l x nilV [] 1 x x hk HLL.out HXL.out HXL.out HXL.out (readsD_nil W) (by simp)
    rw [HLF.out, check_leaf, ← HLF.out, ← HP1.out] at h
    exact h
  have HC2 : Hid (∀ W, KOk W → Calls Tryd.prog 15 #[.agg (cb zb32).toArray, .agg (cb x).toArray, .agg p0.toArray] W fun e w' => e = .returned (.tuple #[.agg (cb zb32).toArray, .bool false, .int .i64 15]) ∧ Below W.heap.size W w') := fun W hk => by
    have h := HP.out.check W zb32 x nilV [] 0 zb32 zb32 hk rfl HXL.out rfl rfl (readsD_nil W) (by simp)
    rw [check_zero, ← HP0.out] at h
    exact h
  have HC3 : Hid (∀ W, KOk W → Calls Tryd.prog 15 #[.agg (cb m).toArray, .agg (cb x).toArray, .agg p0.toArray] W fun e w' => e = .returned (.tuple #[.agg (cb zb32).toArray, .bool false, .int .i64 0]) ∧ Below W.heap.size W w') := fun W hk => by
    have h := HP.out.check W m x nilV [] 0 zb32 zb32 hk HML.out HXL.out rfl rfl (readsD_nil W) (by simp)
    rw [HEM.out, check_empty, ← HEM.out, ← HP0.out] at h
    exact h
  have q1 : ∀ wx : World, (Op.equalIn 10000 23 (.agg (cb x).toArray) (.agg (cb x).toArray)).run Tryd.prog wx = .ok true wx := fun wx => eq_dig_same x HXL.out wx
  go_enter Tryd.func9, Tryd.ntmps9
  go_upto_region 2 with (first
    | (refine wpSeq_val _ _ (by rfl) (buildT1 _ _ rfl _) ?_; rw [← HX.out])
    | (with_reducible refine wpSeq_allocD ?_ ?_ ?_
       · rfl
       · rfl
       intro g1 w1 nn1)
    | (with_reducible refine wpSeq_storeD (.tmp 1) (.tmp 11) g1 zb32 x ?_ ?_ ?_ ?_ ?_ ?_ ?_ ?_
       · rfl
       · exact HXL.out
       · exact nn1.blk
       · rfl
       · rfl
       · rfl
       · rfl
       intro w2 h2
       have HI : Hid (Pw w g1 x w2) := ⟨HK.out, (nn1.set h2).blk, (nn1.set h2).below⟩
       clear nn1 h2 HK))
  simp only [Act.put, List.setIfInBounds_toArray, List.set_cons_zero, List.set_cons_succ]
  go_cut [2, 3, 4] from 12 to 23 (fun a b c W => ∃ g2, a = .pointer (some ⟨g2, 0, none⟩) ∧ b = .bool true ∧ c = .int .i64 0 ∧ Pw w g1 x W ∧ Blk W g2 (cb x) 23)
  case first =>
    refine wp_region_held_drew (S := Pw w g1 x) (by kernel_rfl) (HI.out.next (Below.refl _ _).drew) ?_
    intro hS
    change wpAnyH _ _ _ _ _ _ _ _ (World.drew w2)
    clear HI
    generalize World.drew w2 = y0 at *
    refine wpAnyH_take (i := 0) (v := .agg (cb x).toArray) rfl (by kernel_rfl) (by kernel_rfl) (by kernel_rfl) (fun _ _ _ h => h) (Or.inl ⟨by rfl, fun wx hx => by exact loadDigest _ g1 x HXL.out hx.xb rfl rfl⟩) hS ?_
    simp only [Act.put, List.getElem_toArray, List.getElem_cons_zero, List.setIfInBounds_toArray, List.set_cons_zero, List.set_cons_succ]
    refine wpAnyH_take (i := 1) (v := .agg (cb x).toArray) rfl (by kernel_rfl) (by kernel_rfl) (by kernel_rfl) (fun _ _ _ h => h) (Or.inl ⟨by rfl, fun wx hx => by exact loadDigest _ g1 x HXL.out hx.xb rfl rfl⟩) hS ?_
    simp only [Act.put, List.getElem_toArray, List.getElem_cons_succ, List.getElem_cons_zero, List.setIfInBounds_toArray, List.set_cons_zero, List.set_cons_succ]
    refine wpAnyH_take (i := 3) (v := .agg (cb x).toArray) rfl (by kernel_rfl) (by kernel_rfl) (by kernel_rfl) (fun _ _ _ h => h) (Or.inl ⟨by rfl, fun wx hx => by exact loadDigest _ g1 x HXL.out hx.xb rfl rfl⟩) hS ?_
    simp only [Act.put, List.getElem_toArray, List.getElem_cons_succ, List.getElem_cons_zero, List.setIfInBounds_toArray, List.set_cons_zero, List.set_cons_succ]
    refine wpAnyH_take (i := 4) (v := .agg (cb x).toArray) rfl (by kernel_rfl) (by kernel_rfl) (by kernel_rfl) (fun _ _ _ h => h) (Or.inl ⟨by rfl, fun wx hx => by exact loadDigest _ g1 x HXL.out hx.xb rfl rfl⟩) hS ?_
    simp only [Act.put, List.getElem_toArray, List.getElem_cons_succ, List.getElem_cons_zero, List.setIfInBounds_toArray, List.set_cons_zero, List.set_cons_succ]
    refine wpAnyH_take (i := 5) (v := .agg (cb x).toArray) rfl (by kernel_rfl) (by kernel_rfl) (by kernel_rfl) (fun _ _ _ h => h) (Or.inl ⟨by rfl, fun wx hx => by exact loadDigest _ g1 x HXL.out hx.xb rfl rfl⟩) hS ?_
    simp only [Act.put, List.getElem_toArray, List.getElem_cons_succ, List.getElem_cons_zero, List.setIfInBounds_toArray, List.set_cons_zero, List.set_cons_succ]
    refine wpAnyH_take (i := 6) (v := .agg p1.toArray) rfl (by kernel_rfl) (by kernel_rfl) (by kernel_rfl) (fun _ _ _ h => h) (Or.inl ⟨by rfl, fun wx hx => by (rw [HP1.out, HX.out]; exact buildW1 _ _ _ _ rfl rfl (by rw [← HX.out]; rfl) (by rw [← HX.out]; rfl) _)⟩) hS ?_
    simp only [Act.put, List.getElem_toArray, List.getElem_cons_succ, List.getElem_cons_zero, List.setIfInBounds_toArray, List.set_cons_zero, List.set_cons_succ]
    refine wpAnyH_pair 2 12 (by kernel_rfl) ?_ ?_
    · skip
      refine wpOp_en 2 (by rfl) (by rfl) (f := 23) (args := #[.agg (cb x).toArray, .agg (cb x).toArray]) (by simp [go_sem]) (HCL.out _) ?_
      rintro e z1 ⟨rfl, hb⟩
      replace hS := hS.next hb
      refine ⟨_, rfl, hS, ?_⟩
      clear hb
      simp only [Act.put, List.getElem_toArray, List.getElem_cons_succ, List.getElem_cons_zero, List.setIfInBounds_toArray, List.set_cons_zero, List.set_cons_succ]
      refine wpAnyH_pair 7 12 (by kernel_rfl) ?_ ?_
      · skip
        refine wpOp_en 7 (by rfl) (by rfl) (f := 15) (args := #[.agg (cb l).toArray, .agg (cb x).toArray, .agg p1.toArray]) (by simp [go_sem]) (HC1.out _ hS.kk) ?_
        rintro e z2 ⟨rfl, hb⟩
        replace hS := hS.next hb
        refine ⟨_, rfl, hS, ?_⟩
        clear hb
        simp only [Act.put, List.getElem_toArray, List.getElem_cons_succ, List.getElem_cons_zero, List.setIfInBounds_toArray, List.set_cons_zero, List.set_cons_succ]
        refine wpAnyH_take (i := 8) (v := .tuple #[.agg (cb x).toArray, .bool true, .int .i64 0]) rfl (by kernel_rfl) (by kernel_rfl) (by kernel_rfl) (fun _ _ _ h => h) (Or.inl ⟨by rfl, fun wx hx => by simp [go_sem]⟩) hS ?_
        simp only [Act.put, List.getElem_toArray, List.getElem_cons_succ, List.getElem_cons_zero, List.setIfInBounds_toArray, List.set_cons_zero, List.set_cons_succ]
        refine wpAnyH_take (i := 9) (v := .agg (cb x).toArray) rfl (by kernel_rfl) (by kernel_rfl) (by kernel_rfl) (fun _ _ _ h => h) (Or.inl ⟨by rfl, fun wx hx => by simp [go_sem]⟩) hS ?_
        simp only [Act.put, List.getElem_toArray, List.getElem_cons_succ, List.getElem_cons_zero, List.setIfInBounds_toArray, List.set_cons_zero, List.set_cons_succ]
        refine wpAnyH_take (i := 10) (v := .bool true) rfl (by kernel_rfl) (by kernel_rfl) (by kernel_rfl) (fun _ _ _ h => h) (Or.inl ⟨by rfl, fun wx hx => by simp [go_sem]⟩) hS ?_
        simp only [Act.put, List.getElem_toArray, List.getElem_cons_succ, List.getElem_cons_zero, List.setIfInBounds_toArray, List.set_cons_zero, List.set_cons_succ]
        refine wpAnyH_take (i := 11) (v := .int .i64 0) rfl (by kernel_rfl) (by kernel_rfl) (by kernel_rfl) (fun _ _ _ h => h) (Or.inl ⟨by rfl, fun wx hx => by simp [go_sem]⟩) hS ?_
        simp only [Act.put, List.getElem_toArray, List.getElem_cons_succ, List.getElem_cons_zero, List.setIfInBounds_toArray, List.set_cons_zero, List.set_cons_succ]
        have hb := below_alloc z2 (.cells (cb zb32).toArray 23)
        have hnew : Blk (z2.alloc (.cells (cb zb32).toArray 23)) z2.heap.size (cb zb32) 23 := Blk.new _ _ _
        have hgw : w.heap.size ≤ z2.heap.size := hS.bel.size
        have hne : z2.heap.size ≠ g1 := Nat.ne_of_gt hS.xb.lt
        replace hS := hS.next hb
        refine wpAnyH_step 12 (.pointer (some ⟨z2.heap.size, 0, none⟩)) (z2.alloc (.cells (cb zb32).toArray 23)) (by kernel_rfl) rfl (by rfl) (allocDigest _ _ rfl _) hS ?_
        simp only [Act.put, List.getElem_toArray, List.getElem_cons_succ, List.getElem_cons_zero, List.setIfInBounds_toArray, List.set_cons_zero, List.set_cons_succ]
        clear hb
        have hba := hnew
        clear hnew
        generalize z2.alloc (.cells (cb zb32).toArray 23) = z3 at *
        obtain ⟨ga, HGA⟩ : ∃ z, Hid (z = z2.heap.size) := ⟨_, rfl⟩
        rw [← HGA.out] at hba hgw hne ⊢
        clear HGA
        refine wpAnyH_law 13 (by kernel_rfl) rfl (by rfl) (wp_store_mid 23 _ _ rfl ga 0 (cb x).toArray rfl rfl (hba.there 0 _ (by rw [List.size_toArray, cb_len, cb_len, HXL.out]; decide)) (by rw [List.size_toArray, cb_len, HXL.out]; exact info_digest) (all_oneCell_toArray (cb_one x)) ?_)
        rw [List.toList_toArray]
        have hk9 : ∀ k, k ≠ ga → (z3.setCells ga 0 (cb x)).heap[k]? = z3.heap[k]? := At'.setCells _ _ _ (fun _ _ => rfl)
        have hb9 := hba.whole (cb x) (by rw [cb_len, cb_len, HXL.out]; rfl)
        have hS9 : Pw w g1 x (z3.setCells ga 0 (cb x)) := hS.set hne hk9 (Below.setCells _ hgw _ _ _ hS.bel)
        refine ⟨hS9, ?_⟩
        simp only [Act.put, List.getElem_toArray, List.getElem_cons_succ, List.getElem_cons_zero]
        generalize z3.setCells ga 0 (cb x) = wE at *
        refine wpAnyH_take (i := 14) (v := .bool true) rfl (by kernel_rfl) (by kernel_rfl) (by kernel_rfl) (fun _ _ _ h => h) (Or.inl ⟨by rfl, fun wx hx => by simp [go_sem]⟩) hS9 ?_
        simp only [Act.put, List.getElem_toArray, List.getElem_cons_succ, List.getElem_cons_zero, List.setIfInBounds_toArray, List.set_cons_zero, List.set_cons_succ]
        refine wpAnyH_take (i := 15) (v := .int .i64 0) rfl (by kernel_rfl) (by kernel_rfl) (by kernel_rfl) (fun _ _ _ h => h) (Or.inl ⟨by rfl, fun wx hx => by simp [go_sem]⟩) hS9 ?_
        simp only [Act.put, List.getElem_toArray, List.getElem_cons_succ, List.getElem_cons_zero, List.setIfInBounds_toArray, List.set_cons_zero, List.set_cons_succ]
        refine wpAnyH_done (by kernel_rfl) ?_ _
        clear hk9 hS hba
        go_wp2
        go_meet
        case rel => exact ⟨ga, rfl, rfl, rfl, hS9, hb9⟩
      · skip
        have hb := below_alloc z1 (.cells (cb zb32).toArray 23)
        have hnew : Blk (z1.alloc (.cells (cb zb32).toArray 23)) z1.heap.size (cb zb32) 23 := Blk.new _ _ _
        have hgw : w.heap.size ≤ z1.heap.size := hS.bel.size
        have hne : z1.heap.size ≠ g1 := Nat.ne_of_gt hS.xb.lt
        replace hS := hS.next hb
        refine wpOp_vl 12 (.pointer (some ⟨z1.heap.size, 0, none⟩)) (z1.alloc (.cells (cb zb32).toArray 23)) (by rfl) (by rfl) (allocDigest _ _ rfl _) ⟨hS, ?_⟩
        simp only [Act.put, List.getElem_toArray, List.getElem_cons_succ, List.getElem_cons_zero, List.setIfInBounds_toArray, List.set_cons_zero, List.set_cons_succ]
        clear hb
        have hba := hnew
        clear hnew
        generalize z1.alloc (.cells (cb zb32).toArray 23) = z4 at *
        obtain ⟨ga, HGA⟩ : ∃ z, Hid (z = z1.heap.size) := ⟨_, rfl⟩
        rw [← HGA.out] at hba hgw hne ⊢
        clear HGA
        refine wpAnyH_enter 7 (by kernel_rfl) rfl (by rfl) (f := 15) (args := #[.agg (cb l).toArray, .agg (cb x).toArray, .agg p1.toArray]) (by simp [go_sem]) (HC1.out _ hS.kk) ?_
        rintro e z5 ⟨rfl, hb⟩
        replace hS := hS.next hb
        replace hba := hba.below hb hba.lt
        refine ⟨_, rfl, hS, ?_⟩
        clear hb
        simp only [Act.put, List.getElem_toArray, List.getElem_cons_succ, List.getElem_cons_zero, List.setIfInBounds_toArray, List.set_cons_zero, List.set_cons_succ]
        refine wpAnyH_take (i := 8) (v := .tuple #[.agg (cb x).toArray, .bool true, .int .i64 0]) rfl (by kernel_rfl) (by kernel_rfl) (by kernel_rfl) (fun _ _ _ h => h) (Or.inl ⟨by rfl, fun wx hx => by simp [go_sem]⟩) hS ?_
        simp only [Act.put, List.getElem_toArray, List.getElem_cons_succ, List.getElem_cons_zero, List.setIfInBounds_toArray, List.set_cons_zero, List.set_cons_succ]
        refine wpAnyH_take (i := 9) (v := .agg (cb x).toArray) rfl (by kernel_rfl) (by kernel_rfl) (by kernel_rfl) (fun _ _ _ h => h) (Or.inl ⟨by rfl, fun wx hx => by simp [go_sem]⟩) hS ?_
        simp only [Act.put, List.getElem_toArray, List.getElem_cons_succ, List.getElem_cons_zero, List.setIfInBounds_toArray, List.set_cons_zero, List.set_cons_succ]
        refine wpAnyH_take (i := 10) (v := .bool true) rfl (by kernel_rfl) (by kernel_rfl) (by kernel_rfl) (fun _ _ _ h => h) (Or.inl ⟨by rfl, fun wx hx => by simp [go_sem]⟩) hS ?_
        simp only [Act.put, List.getElem_toArray, List.getElem_cons_succ, List.getElem_cons_zero, List.setIfInBounds_toArray, List.set_cons_zero, List.set_cons_succ]
        refine wpAnyH_take (i := 11) (v := .int .i64 0) rfl (by kernel_rfl) (by kernel_rfl) (by kernel_rfl) (fun _ _ _ h => h) (Or.inl ⟨by rfl, fun wx hx => by simp [go_sem]⟩) hS ?_
        simp only [Act.put, List.getElem_toArray, List.getElem_cons_succ, List.getElem_cons_zero, List.setIfInBounds_toArray, List.set_cons_zero, List.set_cons_succ]
        refine wpAnyH_law 13 (by kernel_rfl) rfl (by rfl) (wp_store_mid 23 _ _ rfl ga 0 (cb x).toArray rfl rfl (hba.there 0 _ (by rw [List.size_toArray, cb_len, cb_len, HXL.out]; decide)) (by rw [List.size_toArray, cb_len, HXL.out]; exact info_digest) (all_oneCell_toArray (cb_one x)) ?_)
        rw [List.toList_toArray]
        have hk9 : ∀ k, k ≠ ga → (z5.setCells ga 0 (cb x)).heap[k]? = z5.heap[k]? := At'.setCells _ _ _ (fun _ _ => rfl)
        have hb9 := hba.whole (cb x) (by rw [cb_len, cb_len, HXL.out]; rfl)
        have hS9 : Pw w g1 x (z5.setCells ga 0 (cb x)) := hS.set hne hk9 (Below.setCells _ hgw _ _ _ hS.bel)
        refine ⟨hS9, ?_⟩
        simp only [Act.put, List.getElem_toArray, List.getElem_cons_succ, List.getElem_cons_zero]
        generalize z5.setCells ga 0 (cb x) = wE at *
        refine wpAnyH_take (i := 14) (v := .bool true) rfl (by kernel_rfl) (by kernel_rfl) (by kernel_rfl) (fun _ _ _ h => h) (Or.inl ⟨by rfl, fun wx hx => by simp [go_sem]⟩) hS9 ?_
        simp only [Act.put, List.getElem_toArray, List.getElem_cons_succ, List.getElem_cons_zero, List.setIfInBounds_toArray, List.set_cons_zero, List.set_cons_succ]
        refine wpAnyH_take (i := 15) (v := .int .i64 0) rfl (by kernel_rfl) (by kernel_rfl) (by kernel_rfl) (fun _ _ _ h => h) (Or.inl ⟨by rfl, fun wx hx => by simp [go_sem]⟩) hS9 ?_
        simp only [Act.put, List.getElem_toArray, List.getElem_cons_succ, List.getElem_cons_zero, List.setIfInBounds_toArray, List.set_cons_zero, List.set_cons_succ]
        refine wpAnyH_done (by kernel_rfl) ?_ _
        clear hk9 hS hba
        go_wp2
        go_meet
        case rel => exact ⟨ga, rfl, rfl, rfl, hS9, hb9⟩
    · skip
      have hb := below_alloc y0 (.cells (cb zb32).toArray 23)
      have hnew : Blk (y0.alloc (.cells (cb zb32).toArray 23)) y0.heap.size (cb zb32) 23 := Blk.new _ _ _
      have hgw : w.heap.size ≤ y0.heap.size := hS.bel.size
      have hne : y0.heap.size ≠ g1 := Nat.ne_of_gt hS.xb.lt
      replace hS := hS.next hb
      refine wpOp_vl 12 (.pointer (some ⟨y0.heap.size, 0, none⟩)) (y0.alloc (.cells (cb zb32).toArray 23)) (by rfl) (by rfl) (allocDigest _ _ rfl _) ⟨hS, ?_⟩
      simp only [Act.put, List.getElem_toArray, List.getElem_cons_succ, List.getElem_cons_zero, List.setIfInBounds_toArray, List.set_cons_zero, List.set_cons_succ]
      clear hb
      have hba := hnew
      clear hnew
      generalize y0.alloc (.cells (cb zb32).toArray 23) = z6 at *
      obtain ⟨ga, HGA⟩ : ∃ z, Hid (z = y0.heap.size) := ⟨_, rfl⟩
      rw [← HGA.out] at hba hgw hne ⊢
      clear HGA
      refine wpAnyH_enter 2 (by kernel_rfl) rfl (by rfl) (f := 23) (args := #[.agg (cb x).toArray, .agg (cb x).toArray]) (by simp [go_sem]) (HCL.out _) ?_
      rintro e z7 ⟨rfl, hb⟩
      replace hS := hS.next hb
      replace hba := hba.below hb hba.lt
      refine ⟨_, rfl, hS, ?_⟩
      clear hb
      simp only [Act.put, List.getElem_toArray, List.getElem_cons_succ, List.getElem_cons_zero, List.setIfInBounds_toArray, List.set_cons_zero, List.set_cons_succ]
      refine wpAnyH_enter 7 (by kernel_rfl) rfl (by rfl) (f := 15) (args := #[.agg (cb l).toArray, .agg (cb x).toArray, .agg p1.toArray]) (by simp [go_sem]) (HC1.out _ hS.kk) ?_
      rintro e z8 ⟨rfl, hb⟩
      replace hS := hS.next hb
      replace hba := hba.below hb hba.lt
      refine ⟨_, rfl, hS, ?_⟩
      clear hb
      simp only [Act.put, List.getElem_toArray, List.getElem_cons_succ, List.getElem_cons_zero, List.setIfInBounds_toArray, List.set_cons_zero, List.set_cons_succ]
      refine wpAnyH_take (i := 8) (v := .tuple #[.agg (cb x).toArray, .bool true, .int .i64 0]) rfl (by kernel_rfl) (by kernel_rfl) (by kernel_rfl) (fun _ _ _ h => h) (Or.inl ⟨by rfl, fun wx hx => by simp [go_sem]⟩) hS ?_
      simp only [Act.put, List.getElem_toArray, List.getElem_cons_succ, List.getElem_cons_zero, List.setIfInBounds_toArray, List.set_cons_zero, List.set_cons_succ]
      refine wpAnyH_take (i := 9) (v := .agg (cb x).toArray) rfl (by kernel_rfl) (by kernel_rfl) (by kernel_rfl) (fun _ _ _ h => h) (Or.inl ⟨by rfl, fun wx hx => by simp [go_sem]⟩) hS ?_
      simp only [Act.put, List.getElem_toArray, List.getElem_cons_succ, List.getElem_cons_zero, List.setIfInBounds_toArray, List.set_cons_zero, List.set_cons_succ]
      refine wpAnyH_take (i := 10) (v := .bool true) rfl (by kernel_rfl) (by kernel_rfl) (by kernel_rfl) (fun _ _ _ h => h) (Or.inl ⟨by rfl, fun wx hx => by simp [go_sem]⟩) hS ?_
      simp only [Act.put, List.getElem_toArray, List.getElem_cons_succ, List.getElem_cons_zero, List.setIfInBounds_toArray, List.set_cons_zero, List.set_cons_succ]
      refine wpAnyH_take (i := 11) (v := .int .i64 0) rfl (by kernel_rfl) (by kernel_rfl) (by kernel_rfl) (fun _ _ _ h => h) (Or.inl ⟨by rfl, fun wx hx => by simp [go_sem]⟩) hS ?_
      simp only [Act.put, List.getElem_toArray, List.getElem_cons_succ, List.getElem_cons_zero, List.setIfInBounds_toArray, List.set_cons_zero, List.set_cons_succ]
      refine wpAnyH_law 13 (by kernel_rfl) rfl (by rfl) (wp_store_mid 23 _ _ rfl ga 0 (cb x).toArray rfl rfl (hba.there 0 _ (by rw [List.size_toArray, cb_len, cb_len, HXL.out]; decide)) (by rw [List.size_toArray, cb_len, HXL.out]; exact info_digest) (all_oneCell_toArray (cb_one x)) ?_)
      rw [List.toList_toArray]
      have hk9 : ∀ k, k ≠ ga → (z8.setCells ga 0 (cb x)).heap[k]? = z8.heap[k]? := At'.setCells _ _ _ (fun _ _ => rfl)
      have hb9 := hba.whole (cb x) (by rw [cb_len, cb_len, HXL.out]; rfl)
      have hS9 : Pw w g1 x (z8.setCells ga 0 (cb x)) := hS.set hne hk9 (Below.setCells _ hgw _ _ _ hS.bel)
      refine ⟨hS9, ?_⟩
      simp only [Act.put, List.getElem_toArray, List.getElem_cons_succ, List.getElem_cons_zero]
      generalize z8.setCells ga 0 (cb x) = wE at *
      refine wpAnyH_take (i := 14) (v := .bool true) rfl (by kernel_rfl) (by kernel_rfl) (by kernel_rfl) (fun _ _ _ h => h) (Or.inl ⟨by rfl, fun wx hx => by simp [go_sem]⟩) hS9 ?_
      simp only [Act.put, List.getElem_toArray, List.getElem_cons_succ, List.getElem_cons_zero, List.setIfInBounds_toArray, List.set_cons_zero, List.set_cons_succ]
      refine wpAnyH_take (i := 15) (v := .int .i64 0) rfl (by kernel_rfl) (by kernel_rfl) (by kernel_rfl) (fun _ _ _ h => h) (Or.inl ⟨by rfl, fun wx hx => by simp [go_sem]⟩) hS9 ?_
      simp only [Act.put, List.getElem_toArray, List.getElem_cons_succ, List.getElem_cons_zero, List.setIfInBounds_toArray, List.set_cons_zero, List.set_cons_succ]
      refine wpAnyH_done (by kernel_rfl) ?_ _
      clear hk9 hS hba
      go_wp2
      go_meet
      case rel => exact ⟨ga, rfl, rfl, rfl, hS9, hb9⟩
  case rest =>
    clear HI
    obtain ⟨g2, rfl, rfl, rfl, hI, hk2⟩ := hcut
    have HI : Hid (Pw w g1 x wc) := hI
    have HK2 : Hid (Blk wc g2 (cb x) 23) := hk2
    clear hI hk2
    go_upto_region 4 with (first
      | (with_reducible refine wpSeq_buildZ0 ?_ ?_ ?_
         · rfl
         · rfl
         skip)
      | (with_reducible refine wpSeq_loadD (.tmp 1) g1 x ?_ ?_ ?_ ?_ ?_ ?_
         · exact HXL.out
         · exact HI.out.xb
         · with_reducible rfl
         · rfl
         · rfl)
      | (with_reducible refine wpSeq_buildP ?_ ?_ HP0.out ?_
         · rfl
         · rfl
         skip)
      | (go_at_call 15; refine (HC2.out _ HI.out.kk).mono ?_; rintro e w4 ⟨rfl, hb4⟩
         replace HI : Hid (Pw w g1 x w4) := HI.out.next hb4
         replace HK2 : Hid (Blk w4 g2 (cb x) 23) := HK2.out.below hb4 HK2.out.lt
         clear hb4)
      | (with_reducible refine wpSeq_allocD ?_ ?_ ?_
         · rfl
         · rfl
         intro g5 w5 nn5)
      | (with_reducible refine wpSeq_storeD (.tmp 5) (.tmp 29) g5 zb32 zb32 ?_ ?_ ?_ ?_ ?_ ?_ ?_ ?_
         · rfl
         · rfl
         · exact nn5.blk
         · rfl
         · rfl
         · rfl
         · rfl
         intro w6 h6
         replace HI : Hid (Pw w g1 x w6) := HI.out.next (nn5.set h6).below
         replace HK2 : Hid (Blk w6 g2 (cb x) 23) := HK2.out.below (nn5.set h6).below HK2.out.lt
         clear nn5 h6))
    go_cut [8, 9, 10] from 32 to 39 (fun a b c W => ∃ g8, a = .pointer (some ⟨g8, 0, none⟩) ∧ b = .bool false ∧ c = .int .i64 0 ∧ Pw w g1 x W ∧ Blk W g8 (cb zb32) 23 ∧ Blk W g2 (cb x) 23)
    case first =>
      refine wp_region_held_drew (S := Pw w g1 x) (by kernel_rfl) (HI.out.next (Below.refl _ _).drew) ?_
      intro hS
      have hk2 : Blk (World.drew w6) g2 (cb x) 23 := HK2.out
      change wpAnyH _ _ _ _ _ _ _ _ (World.drew w6)
      clear HI HK2
      generalize World.drew w6 = y0 at *
      refine wpAnyH_take (i := 1) (v := .agg (cb x).toArray) rfl (by kernel_rfl) (by kernel_rfl) (by kernel_rfl) (fun _ _ _ h => h) (Or.inl ⟨by rfl, fun wx hx => by exact loadDigest _ g1 x HXL.out hx.xb rfl rfl⟩) hS ?_
      simp only [Act.put, List.getElem_toArray, List.getElem_cons_succ, List.getElem_cons_zero, List.setIfInBounds_toArray, List.set_cons_zero, List.set_cons_succ]
      refine wpAnyH_take (i := 2) (v := .agg p0.toArray) rfl (by kernel_rfl) (by kernel_rfl) (by kernel_rfl) (fun _ _ _ h => h) (Or.inl ⟨by rfl, fun wx hx => by (rw [HP0.out]; exact buildPrf _ _ rfl _)⟩) hS ?_
      simp only [Act.put, List.getElem_toArray, List.getElem_cons_succ, List.getElem_cons_zero, List.setIfInBounds_toArray, List.set_cons_zero, List.set_cons_succ]
      refine wpAnyH_pair 0 8 (by kernel_rfl) ?_ ?_
      · skip
        refine wpOp_en 0 (by rfl) (by rfl) (f := 24) (args := #[]) (by simp [go_sem]) (HCE.out _) ?_
        rintro e z1 ⟨rfl, hb⟩
        replace hS := hS.next hb
        replace hk2 := hk2.below hb hk2.lt
        refine ⟨_, rfl, hS, ?_⟩
        clear hb
        simp only [Act.put, List.getElem_toArray, List.getElem_cons_zero, List.setIfInBounds_toArray, List.set_cons_zero, List.set_cons_succ]
        refine wpAnyH_pair 3 8 (by kernel_rfl) ?_ ?_
        · skip
          refine wpOp_en 3 (by rfl) (by rfl) (f := 15) (args := #[.agg (cb m).toArray, .agg (cb x).toArray, .agg p0.toArray]) (by simp [go_sem]) (HC3.out _ hS.kk) ?_
          rintro e z2 ⟨rfl, hb⟩
          replace hS := hS.next hb
          replace hk2 := hk2.below hb hk2.lt
          refine ⟨_, rfl, hS, ?_⟩
          clear hb
          simp only [Act.put, List.getElem_toArray, List.getElem_cons_succ, List.getElem_cons_zero, List.setIfInBounds_toArray, List.set_cons_zero, List.set_cons_succ]
          refine wpAnyH_take (i := 4) (v := .tuple #[.agg (cb zb32).toArray, .bool false, .int .i64 0]) rfl (by kernel_rfl) (by kernel_rfl) (by kernel_rfl) (fun _ _ _ h => h) (Or.inl ⟨by rfl, fun wx hx => by simp [go_sem]⟩) hS ?_
          simp only [Act.put, List.getElem_toArray, List.getElem_cons_succ, List.getElem_cons_zero, List.setIfInBounds_toArray, List.set_cons_zero, List.set_cons_succ]
          refine wpAnyH_take (i := 5) (v := .agg (cb zb32).toArray) rfl (by kernel_rfl) (by kernel_rfl) (by kernel_rfl) (fun _ _ _ h => h) (Or.inl ⟨by rfl, fun wx hx => by simp [go_sem]⟩) hS ?_
          simp only [Act.put, List.getElem_toArray, List.getElem_cons_succ, List.getElem_cons_zero, List.setIfInBounds_toArray, List.set_cons_zero, List.set_cons_succ]
          refine wpAnyH_take (i := 6) (v := .bool false) rfl (by kernel_rfl) (by kernel_rfl) (by kernel_rfl) (fun _ _ _ h => h) (Or.inl ⟨by rfl, fun wx hx => by simp [go_sem]⟩) hS ?_
          simp only [Act.put, List.getElem_toArray, List.getElem_cons_succ, List.getElem_cons_zero, List.setIfInBounds_toArray, List.set_cons_zero, List.set_cons_succ]
          refine wpAnyH_take (i := 7) (v := .int .i64 0) rfl (by kernel_rfl) (by kernel_rfl) (by kernel_rfl) (fun _ _ _ h => h) (Or.inl ⟨by rfl, fun wx hx => by simp [go_sem]⟩) hS ?_
          simp only [Act.put, List.getElem_toArray, List.getElem_cons_succ, List.getElem_cons_zero, List.setIfInBounds_toArray, List.set_cons_zero, List.set_cons_succ]
          have hb := below_alloc z2 (.cells (cb zb32).toArray 23)
          have hnew : Blk (z2.alloc (.cells (cb zb32).toArray 23)) z2.heap.size (cb zb32) 23 := Blk.new _ _ _
          have hgw : w.heap.size ≤ z2.heap.size := hS.bel.size
          have hne : z2.heap.size ≠ g1 := Nat.ne_of_gt hS.xb.lt
          have hnk : z2.heap.size ≠ g2 := Nat.ne_of_gt hk2.lt
          replace hk2 := hk2.below hb hk2.lt
          replace hS := hS.next hb
          refine wpAnyH_step 8 (.pointer (some ⟨z2.heap.size, 0, none⟩)) (z2.alloc (.cells (cb zb32).toArray 23)) (by kernel_rfl) rfl (by rfl) (allocDigest _ _ rfl _) hS ?_
          simp only [Act.put, List.getElem_toArray, List.getElem_cons_succ, List.getElem_cons_zero, List.setIfInBounds_toArray, List.set_cons_zero, List.set_cons_succ]
          clear hb
          have hba := hnew
          clear hnew
          generalize z2.alloc (.cells (cb zb32).toArray 23) = z3 at *
          obtain ⟨ga, HGA⟩ : ∃ z, Hid (z = z2.heap.size) := ⟨_, rfl⟩
          rw [← HGA.out] at hba hgw hne ⊢ hnk
          clear HGA
          refine wpAnyH_law 9 (by kernel_rfl) rfl (by rfl) (wp_store_mid 23 _ _ rfl ga 0 (cb zb32).toArray rfl rfl (hba.there 0 _ (by rw [List.size_toArray]; exact Nat.le_of_eq (Nat.zero_add _))) (by rw [List.size_toArray, cb_len, zb32_len]; exact info_digest) (all_oneCell_toArray (cb_one zb32)) ?_)
          rw [List.toList_toArray]
          have hk9 : ∀ k, k ≠ ga → (z3.setCells ga 0 (cb zb32)).heap[k]? = z3.heap[k]? := At'.setCells _ _ _ (fun _ _ => rfl)
          have hb9 := hba.whole (cb zb32) rfl
          have hS9 : Pw w g1 x (z3.setCells ga 0 (cb zb32)) := hS.set hne hk9 (Below.setCells _ hgw _ _ _ hS.bel)
          have hk29 : Blk (z3.setCells ga 0 (cb zb32)) g2 (cb x) 23 := by have h := hk2; unfold Blk at *; rw [hk9 g2 (Ne.symm hnk)]; exact h
          refine ⟨hS9, ?_⟩
          simp only [Act.put, List.getElem_toArray, List.getElem_cons_succ, List.getElem_cons_zero]
          generalize z3.setCells ga 0 (cb zb32) = wE at *
          refine wpAnyH_take (i := 10) (v := .bool false) rfl (by kernel_rfl) (by kernel_rfl) (by kernel_rfl) (fun _ _ _ h => h) (Or.inl ⟨by rfl, fun wx hx => by simp [go_sem]⟩) hS9 ?_
          simp only [Act.put, List.getElem_toArray, List.getElem_cons_succ, List.getElem_cons_zero, List.setIfInBounds_toArray, List.set_cons_zero, List.set_cons_succ]
          refine wpAnyH_take (i := 11) (v := .int .i64 0) rfl (by kernel_rfl) (by kernel_rfl) (by kernel_rfl) (fun _ _ _ h => h) (Or.inl ⟨by rfl, fun wx hx => by simp [go_sem]⟩) hS9 ?_
          simp only [Act.put, List.getElem_toArray, List.getElem_cons_succ, List.getElem_cons_zero, List.setIfInBounds_toArray, List.set_cons_zero, List.set_cons_succ]
          refine wpAnyH_done (by kernel_rfl) ?_ _
          clear hk9 hS hba
          go_wp2
          go_meet
          case rel => exact ⟨ga, rfl, rfl, rfl, hS9, hb9, hk29⟩
        · skip
          have hb := below_alloc z1 (.cells (cb zb32).toArray 23)
          have hnew : Blk (z1.alloc (.cells (cb zb32).toArray 23)) z1.heap.size (cb zb32) 23 := Blk.new _ _ _
          have hgw : w.heap.size ≤ z1.heap.size := hS.bel.size
          have hne : z1.heap.size ≠ g1 := Nat.ne_of_gt hS.xb.lt
          have hnk : z1.heap.size ≠ g2 := Nat.ne_of_gt hk2.lt
          replace hk2 := hk2.below hb hk2.lt
          replace hS := hS.next hb
          refine wpOp_vl 8 (.pointer (some ⟨z1.heap.size, 0, none⟩)) (z1.alloc (.cells (cb zb32).toArray 23)) (by rfl) (by rfl) (allocDigest _ _ rfl _) ⟨hS, ?_⟩
          simp only [Act.put, List.getElem_toArray, List.getElem_cons_succ, List.getElem_cons_zero, List.setIfInBounds_toArray, List.set_cons_zero, List.set_cons_succ]
          clear hb
          have hba := hnew
          clear hnew
          generalize z1.alloc (.cells (cb zb32).toArray 23) = z4 at *
          obtain ⟨ga, HGA⟩ : ∃ z, Hid (z = z1.heap.size) := ⟨_, rfl⟩
          rw [← HGA.out] at hba hgw hne ⊢ hnk
          clear HGA
          refine wpAnyH_enter 3 (by kernel_rfl) rfl (by rfl) (f := 15) (args := #[.agg (cb m).toArray, .agg (cb x).toArray, .agg p0.toArray]) (by simp [go_sem]) (HC3.out _ hS.kk) ?_
          rintro e z5 ⟨rfl, hb⟩
          replace hS := hS.next hb
          replace hba := hba.below hb hba.lt
          replace hk2 := hk2.below hb hk2.lt
          refine ⟨_, rfl, hS, ?_⟩
          clear hb
          simp only [Act.put, List.getElem_toArray, List.getElem_cons_succ, List.getElem_cons_zero, List.setIfInBounds_toArray, List.set_cons_zero, List.set_cons_succ]
          refine wpAnyH_take (i := 4) (v := .tuple #[.agg (cb zb32).toArray, .bool false, .int .i64 0]) rfl (by kernel_rfl) (by kernel_rfl) (by kernel_rfl) (fun _ _ _ h => h) (Or.inl ⟨by rfl, fun wx hx => by simp [go_sem]⟩) hS ?_
          simp only [Act.put, List.getElem_toArray, List.getElem_cons_succ, List.getElem_cons_zero, List.setIfInBounds_toArray, List.set_cons_zero, List.set_cons_succ]
          refine wpAnyH_take (i := 5) (v := .agg (cb zb32).toArray) rfl (by kernel_rfl) (by kernel_rfl) (by kernel_rfl) (fun _ _ _ h => h) (Or.inl ⟨by rfl, fun wx hx => by simp [go_sem]⟩) hS ?_
          simp only [Act.put, List.getElem_toArray, List.getElem_cons_succ, List.getElem_cons_zero, List.setIfInBounds_toArray, List.set_cons_zero, List.set_cons_succ]
          refine wpAnyH_take (i := 6) (v := .bool false) rfl (by kernel_rfl) (by kernel_rfl) (by kernel_rfl) (fun _ _ _ h => h) (Or.inl ⟨by rfl, fun wx hx => by simp [go_sem]⟩) hS ?_
          simp only [Act.put, List.getElem_toArray, List.getElem_cons_succ, List.getElem_cons_zero, List.setIfInBounds_toArray, List.set_cons_zero, List.set_cons_succ]
          refine wpAnyH_take (i := 7) (v := .int .i64 0) rfl (by kernel_rfl) (by kernel_rfl) (by kernel_rfl) (fun _ _ _ h => h) (Or.inl ⟨by rfl, fun wx hx => by simp [go_sem]⟩) hS ?_
          simp only [Act.put, List.getElem_toArray, List.getElem_cons_succ, List.getElem_cons_zero, List.setIfInBounds_toArray, List.set_cons_zero, List.set_cons_succ]
          refine wpAnyH_law 9 (by kernel_rfl) rfl (by rfl) (wp_store_mid 23 _ _ rfl ga 0 (cb zb32).toArray rfl rfl (hba.there 0 _ (by rw [List.size_toArray]; exact Nat.le_of_eq (Nat.zero_add _))) (by rw [List.size_toArray, cb_len, zb32_len]; exact info_digest) (all_oneCell_toArray (cb_one zb32)) ?_)
          rw [List.toList_toArray]
          have hk9 : ∀ k, k ≠ ga → (z5.setCells ga 0 (cb zb32)).heap[k]? = z5.heap[k]? := At'.setCells _ _ _ (fun _ _ => rfl)
          have hb9 := hba.whole (cb zb32) rfl
          have hS9 : Pw w g1 x (z5.setCells ga 0 (cb zb32)) := hS.set hne hk9 (Below.setCells _ hgw _ _ _ hS.bel)
          have hk29 : Blk (z5.setCells ga 0 (cb zb32)) g2 (cb x) 23 := by have h := hk2; unfold Blk at *; rw [hk9 g2 (Ne.symm hnk)]; exact h
          refine ⟨hS9, ?_⟩
          simp only [Act.put, List.getElem_toArray, List.getElem_cons_succ, List.getElem_cons_zero]
          generalize z5.setCells ga 0 (cb zb32) = wE at *
          refine wpAnyH_take (i := 10) (v := .bool false) rfl (by kernel_rfl) (by kernel_rfl) (by kernel_rfl) (fun _ _ _ h => h) (Or.inl ⟨by rfl, fun wx hx => by simp [go_sem]⟩) hS9 ?_
          simp only [Act.put, List.getElem_toArray, List.getElem_cons_succ, List.getElem_cons_zero, List.setIfInBounds_toArray, List.set_cons_zero, List.set_cons_succ]
          refine wpAnyH_take (i := 11) (v := .int .i64 0) rfl (by kernel_rfl) (by kernel_rfl) (by kernel_rfl) (fun _ _ _ h => h) (Or.inl ⟨by rfl, fun wx hx => by simp [go_sem]⟩) hS9 ?_
          simp only [Act.put, List.getElem_toArray, List.getElem_cons_succ, List.getElem_cons_zero, List.setIfInBounds_toArray, List.set_cons_zero, List.set_cons_succ]
          refine wpAnyH_done (by kernel_rfl) ?_ _
          clear hk9 hS hba
          go_wp2
          go_meet
          case rel => exact ⟨ga, rfl, rfl, rfl, hS9, hb9, hk29⟩
      · skip
        have hb := below_alloc y0 (.cells (cb zb32).toArray 23)
        have hnew : Blk (y0.alloc (.cells (cb zb32).toArray 23)) y0.heap.size (cb zb32) 23 := Blk.new _ _ _
        have hgw : w.heap.size ≤ y0.heap.size := hS.bel.size
        have hne : y0.heap.size ≠ g1 := Nat.ne_of_gt hS.xb.lt
        have hnk : y0.heap.size ≠ g2 := Nat.ne_of_gt hk2.lt
        replace hk2 := hk2.below hb hk2.lt
        replace hS := hS.next hb
        refine wpOp_vl 8 (.pointer (some ⟨y0.heap.size, 0, none⟩)) (y0.alloc (.cells (cb zb32).toArray 23)) (by rfl) (by rfl) (allocDigest _ _ rfl _) ⟨hS, ?_⟩
        simp only [Act.put, List.getElem_toArray, List.getElem_cons_succ, List.getElem_cons_zero, List.setIfInBounds_toArray, List.set_cons_zero, List.set_cons_succ]
        clear hb
        have hba := hnew
        clear hnew
        generalize y0.alloc (.cells (cb zb32).toArray 23) = z6 at *
        obtain ⟨ga, HGA⟩ : ∃ z, Hid (z = y0.heap.size) := ⟨_, rfl⟩
        rw [← HGA.out] at hba hgw hne ⊢ hnk
        clear HGA
        refine wpAnyH_enter 0 (by kernel_rfl) rfl (by rfl) (f := 24) (args := #[]) (by simp [go_sem]) (HCE.out _) ?_
        rintro e z7 ⟨rfl, hb⟩
        replace hS := hS.next hb
        replace hba := hba.below hb hba.lt
        replace hk2 := hk2.below hb hk2.lt
        refine ⟨_, rfl, hS, ?_⟩
        clear hb
        simp only [Act.put, List.getElem_toArray, List.getElem_cons_zero, List.setIfInBounds_toArray, List.set_cons_zero, List.set_cons_succ]
        refine wpAnyH_enter 3 (by kernel_rfl) rfl (by rfl) (f := 15) (args := #[.agg (cb m).toArray, .agg (cb x).toArray, .agg p0.toArray]) (by simp [go_sem]) (HC3.out _ hS.kk) ?_
        rintro e z8 ⟨rfl, hb⟩
        replace hS := hS.next hb
        replace hba := hba.below hb hba.lt
        replace hk2 := hk2.below hb hk2.lt
        refine ⟨_, rfl, hS, ?_⟩
        clear hb
        simp only [Act.put, List.getElem_toArray, List.getElem_cons_succ, List.getElem_cons_zero, List.setIfInBounds_toArray, List.set_cons_zero, List.set_cons_succ]
        refine wpAnyH_take (i := 4) (v := .tuple #[.agg (cb zb32).toArray, .bool false, .int .i64 0]) rfl (by kernel_rfl) (by kernel_rfl) (by kernel_rfl) (fun _ _ _ h => h) (Or.inl ⟨by rfl, fun wx hx => by simp [go_sem]⟩) hS ?_
        simp only [Act.put, List.getElem_toArray, List.getElem_cons_succ, List.getElem_cons_zero, List.setIfInBounds_toArray, List.set_cons_zero, List.set_cons_succ]
        refine wpAnyH_take (i := 5) (v := .agg (cb zb32).toArray) rfl (by kernel_rfl) (by kernel_rfl) (by kernel_rfl) (fun _ _ _ h => h) (Or.inl ⟨by rfl, fun wx hx => by simp [go_sem]⟩) hS ?_
        simp only [Act.put, List.getElem_toArray, List.getElem_cons_succ, List.getElem_cons_zero, List.setIfInBounds_toArray, List.set_cons_zero, List.set_cons_succ]
        refine wpAnyH_take (i := 6) (v := .bool false) rfl (by kernel_rfl) (by kernel_rfl) (by kernel_rfl) (fun _ _ _ h => h) (Or.inl ⟨by rfl, fun wx hx => by simp [go_sem]⟩) hS ?_
        simp only [Act.put, List.getElem_toArray, List.getElem_cons_succ, List.getElem_cons_zero, List.setIfInBounds_toArray, List.set_cons_zero, List.set_cons_succ]
        refine wpAnyH_take (i := 7) (v := .int .i64 0) rfl (by kernel_rfl) (by kernel_rfl) (by kernel_rfl) (fun _ _ _ h => h) (Or.inl ⟨by rfl, fun wx hx => by simp [go_sem]⟩) hS ?_
        simp only [Act.put, List.getElem_toArray, List.getElem_cons_succ, List.getElem_cons_zero, List.setIfInBounds_toArray, List.set_cons_zero, List.set_cons_succ]
        refine wpAnyH_law 9 (by kernel_rfl) rfl (by rfl) (wp_store_mid 23 _ _ rfl ga 0 (cb zb32).toArray rfl rfl (hba.there 0 _ (by rw [List.size_toArray]; exact Nat.le_of_eq (Nat.zero_add _))) (by rw [List.size_toArray, cb_len, zb32_len]; exact info_digest) (all_oneCell_toArray (cb_one zb32)) ?_)
        rw [List.toList_toArray]
        have hk9 : ∀ k, k ≠ ga → (z8.setCells ga 0 (cb zb32)).heap[k]? = z8.heap[k]? := At'.setCells _ _ _ (fun _ _ => rfl)
        have hb9 := hba.whole (cb zb32) rfl
        have hS9 : Pw w g1 x (z8.setCells ga 0 (cb zb32)) := hS.set hne hk9 (Below.setCells _ hgw _ _ _ hS.bel)
        have hk29 : Blk (z8.setCells ga 0 (cb zb32)) g2 (cb x) 23 := by have h := hk2; unfold Blk at *; rw [hk9 g2 (Ne.symm hnk)]; exact h
        refine ⟨hS9, ?_⟩
        simp only [Act.put, List.getElem_toArray, List.getElem_cons_succ, List.getElem_cons_zero]
        generalize z8.setCells ga 0 (cb zb32) = wE at *
        refine wpAnyH_take (i := 10) (v := .bool false) rfl (by kernel_rfl) (by kernel_rfl) (by kernel_rfl) (fun _ _ _ h => h) (Or.inl ⟨by rfl, fun wx hx => by simp [go_sem]⟩) hS9 ?_
        simp only [Act.put, List.getElem_toArray, List.getElem_cons_succ, List.getElem_cons_zero, List.setIfInBounds_toArray, List.set_cons_zero, List.set_cons_succ]
        refine wpAnyH_take (i := 11) (v := .int .i64 0) rfl (by kernel_rfl) (by kernel_rfl) (by kernel_rfl) (fun _ _ _ h => h) (Or.inl ⟨by rfl, fun wx hx => by simp [go_sem]⟩) hS9 ?_
        simp only [Act.put, List.getElem_toArray, List.getElem_cons_succ, List.getElem_cons_zero, List.setIfInBounds_toArray, List.set_cons_zero, List.set_cons_succ]
        refine wpAnyH_done (by kernel_rfl) ?_ _
        clear hk9 hS hba
        go_wp2
        go_meet
        case rel => exact ⟨ga, rfl, rfl, rfl, hS9, hb9, hk29⟩
    case rest =>
      clear HI HK2
      obtain ⟨g8, rfl, rfl, rfl, hI, hk8, hk2⟩ := hcut
      have HI : Hid (Pw w g1 x wc) := hI
      have HK2 : Hid (Blk wc g2 (cb x) 23) := hk2
      clear hI hk2 hk8
      go_wp2_with (first
        | (with_reducible refine wpSeq_loadD (.tmp 1) g1 x ?_ ?_ ?_ ?_ ?_ ?_
           · exact HXL.out
           · exact HI.out.xb
           · with_reducible rfl
           · rfl
           · rfl)
        | (with_reducible refine wpSeq_loadD (.tmp 2) g2 x ?_ ?_ ?_ ?_ ?_ ?_
           · exact HXL.out
           · exact HK2.out
           · with_reducible rfl
           · rfl
           · rfl))
      go_ret
      exact ⟨rfl, HI.out.bel⟩
end Go.Proofs.YtmmhdchhajmbfaaDoor
/- Where the statements of layer 8 stand. -/
namespace Go.Proofs.YtmmhdchhajmbfaaDoor
open Go.RowKit
set_option maxRecDepth 100000
/-- a root, an index and a way, laid by the call -/
structure Lc (w : World) (gr gx gp : Nat) (r x : List (BitVec 8)) (vs : Value) (sd : List (List (BitVec 8))) (en : Int) (ix va : List (BitVec 8)) (W : World) : Prop where
  k0 : KOk w
  r0 : ReadsD w vs sd
  rb : Blk W gr (cb r) 23
  xb : Blk W gx (cb x) 23
  pb : Blk W gp (prfV vs en ix va) 26
  bel : Below w.heap.size w W
  ge : w.heap.size ≤ gr
  nx : gx ≠ gr
  np : gp ≠ gr
theorem Lc.kk {w W : World} {gr gx gp : Nat} {r x : List (BitVec 8)} {vs : Value} {sd : List (List (BitVec 8))} {en : Int} {ix va : List (BitVec 8)} (h : Lc w gr gx gp r x vs sd en ix va W) : KOk W := h.k0.below h.bel h.k0.lt
theorem Lc.rd {w W : World} {gr gx gp : Nat} {r x : List (BitVec 8)} {vs : Value} {sd : List (List (BitVec 8))} {en : Int} {ix va : List (BitVec 8)} (h : Lc w gr gx gp r x vs sd en ix va W) : ReadsD W vs sd := h.r0.below h.bel
theorem Lc.next {w W W' : World} {gr gx gp : Nat} {r x : List (BitVec 8)} {vs : Value} {sd : List (List (BitVec 8))} {en : Int} {ix va : List (BitVec 8)} (h : Lc w gr gx gp r x vs sd en ix va W) (hb : Below W.heap.size W W') : Lc w gr gx gp r x vs sd en ix va W' :=
  ⟨h.k0, h.r0, h.rb.below hb h.rb.lt, h.xb.below hb h.xb.lt, h.pb.below hb h.pb.lt, h.bel.trans (hb.mono h.bel.size), h.ge, h.nx, h.np⟩
theorem Lc.set {w W W' : World} {gr gx gp : Nat} {r r' x : List (BitVec 8)} {vs : Value} {sd : List (List (BitVec 8))} {en : Int} {ix va : List (BitVec 8)} (h : Lc w gr gx gp r x vs sd en ix va W) (h9 : SetB r' W gr W') : Lc w gr gx gp r' x vs sd en ix va W' :=
  ⟨h.k0, h.r0, h9.blk, h.xb.only h9.only h.nx, h.pb.only h9.only h.np, h.bel.trans (h9.only.below h.ge h.bel.size), h.ge, h.nx, h.np⟩
end Go.Proofs.YtmmhdchhajmbfaaDoor
/- The walk of blazonref04.SameTexts (as in layer 4). -/
namespace Go.Proofs.YtmmhdchhajmbfaaDoor
open Go.RowKit
set_option maxRecDepth 100000
theorem take_same {α : Type} {a b : List α} {k : Nat} (z : α) (h : a.take k = b.take k) (ha : k < a.length) (hb : k < b.length) (he : a.getD k z = b.getD k z) : a.take (k + 1) = b.take (k + 1) := by
  rw [List.getD_eq_getElem?_getD, List.getD_eq_getElem?_getD, List.getElem?_eq_getElem ha, List.getElem?_eq_getElem hb] at he
  rw [List.take_add_one, List.take_add_one, h, List.getElem?_eq_getElem ha, List.getElem?_eq_getElem hb]
  simp only [Option.getD_some] at he
  rw [he]
theorem Reads.drewN {w : World} {v : Value} {l : List (BitVec 8)} (h : Reads w v l) (q : Nat) : Reads (w.drewN q) v l := h
set_option maxRecDepth 100000 in
set_option maxHeartbeats 1000000 in
theorem sametexts_any (va vb : Value) (a b : List (List (BitVec 8))) (w : World) (ha : ReadsL w va a) (hb : ReadsL w vb b) (hl : a.length < 4611686018427387904) :
    Calls Tryd.prog 11 #[va, vb] w fun e w' => e = .returned (.bool (decide (a = b))) ∧ ∃ q, w' = w.drewN q := by
  have HA : Hid (ReadsL w va a) := ha
  have HB : Hid (ReadsL w vb b) := hb
  have hnot : ∀ (x : Bool) (w : World), (Op.unary .not (.bool x)).run Tryd.prog w = .ok (.bool (!x)) w := fun _ _ => rfl
  obtain ⟨ada, ca, hva, _, _, _⟩ := ha
  obtain ⟨adb, cb', hvb, _, _, _⟩ := hb
  obtain ⟨n, HN⟩ : ∃ n, Hid (n = a.length) := ⟨_, rfl⟩
  obtain ⟨m, HM⟩ : ∃ n, Hid (n = b.length) := ⟨_, rfl⟩
  rw [← HN.out] at hva hl
  rw [← HM.out] at hvb
  subst hva hvb
  obtain ⟨o, HO⟩ : ∃ o, Hid (o = decide (a = b)) := ⟨_, rfl⟩
  rw [← HO.out]
  by_cases hnm : n = m
  · subst hnm
    go_enter Tryd.func11, Tryd.ntmps11
    go_wp2
    go_loopw [5] (fun i wr => ∃ k q : Nat, k ≤ n ∧ i = .int .i64 (k : Int) ∧ a.take k = b.take k ∧ wr = w.drewN q) (fun i _ => n - (intOf i).toNat)
    case atStart => exact ⟨0, 0, by omega, rfl, rfl, rfl⟩
    case round =>
      obtain ⟨k, q, hk, rfl, heq, hwr⟩ := hrel
      have HW : Hid (wr = w.drewN q) := hwr
      clear hwr
      by_cases hlt : k < n
      · obtain ⟨ad1, cap1, hv1, _, _, hx1⟩ := HA.out
        rw [← HN.out] at hv1 hx1
        simp only [Value.slice.injEq, true_and] at hv1
        obtain ⟨rfl, rfl⟩ := hv1
        obtain ⟨b1, off1, rfl, hy1⟩ := hx1 (by omega)
        obtain ⟨ad2, cap2, hv2, _, _, hx2⟩ := HB.out
        rw [← HM.out] at hv2 hx2
        simp only [Value.slice.injEq, true_and] at hv2
        obtain ⟨rfl, rfl⟩ := hv2
        obtain ⟨b2, off2, rfl, hy2⟩ := hx2 (by omega)
        obtain ⟨v1, h1, r1⟩ := hy1 k hlt
        obtain ⟨v2, h2, r2⟩ := hy2 k hlt
        replace h1 : wr.cell? ⟨b1, off1 + k, none⟩ = some v1 := by rw [HW.out]; exact h1
        replace h2 : wr.cell? ⟨b2, off2 + k, none⟩ = some v2 := by rw [HW.out]; exact h2
        obtain ⟨x, HX⟩ : ∃ x, Hid (x = a.getD k []) := ⟨_, rfl⟩
        obtain ⟨y, HY⟩ : ∃ x, Hid (x = b.getD k []) := ⟨_, rfl⟩
        rw [← HX.out] at r1
        rw [← HY.out] at r2
        obtain ⟨p1, z1, hvv1, _, _, _⟩ := id r1
        obtain ⟨p2, z2, hvv2, _, _, _⟩ := id r2
        obtain ⟨l1, HL1⟩ : ∃ l1, Hid (l1 = x.length) := ⟨_, rfl⟩
        obtain ⟨l2, HL2⟩ : ∃ l2, Hid (l2 = y.length) := ⟨_, rfl⟩
        rw [← HL1.out] at hvv1
        rw [← HL2.out] at hvv2
        subst hvv1 hvv2
        have HR1 : Hid (∀ j, Reads (wr.drewN j) (.slice p1 l1 z1) x) := fun j => by rw [HW.out]; exact r1
        have HR2 : Hid (∀ j, Reads (wr.drewN j) (.slice p2 l2 z2) y) := fun j => by rw [HW.out]; exact r2
        have HQ : Hid (a.take k = b.take k) := heq
        clear heq hx1 hx2 hy1 hy2 r1 r2
        by_cases hxy : x = y
        · have HJ : Hid (a.take (k + 1) = b.take (k + 1)) := take_same [] HQ.out (by rw [← HN.out]; exact hlt) (by rw [← HM.out]; exact hlt) (by rw [← HX.out, ← HY.out, hxy])
          have HC : Hid (∀ j, Calls Tryd.prog 30 #[.slice p1 l1 z1, .slice p2 l2 z2] (wr.drewN j) fun e w' => e = .returned (.bool true) ∧ w' = wr.drewN j) := fun j => by
            have := same_any _ _ x y (wr.drewN j) (HR1.out j) (HR2.out j)
            rw [decide_eq_true hxy] at this
            exact this
          clear HR1 HR2 hxy
          go_wp2
          go_quiet (first | (go_at_call 30; refine Calls.quiet_of_same (HC.out _)))
          go_wp2
          go_roundw
          case rel => exact ⟨k + 1, _, by omega, by go_num, HJ.out, by rw [HW.out]; exact World.drewN_drewN ..⟩
          case measure => simp [intOf]; omega
        · have HF : Hid (o = false) := by
            show _ = _
            rw [HO.out, decide_eq_false_iff_not]
            intro he
            apply hxy
            rw [HX.out, HY.out, he]
          have HC : Hid (∀ j, Calls Tryd.prog 30 #[.slice p1 l1 z1, .slice p2 l2 z2] (wr.drewN j) fun e w' => e = .returned (.bool false) ∧ w' = wr.drewN j) := fun j => by
            have := same_any _ _ x y (wr.drewN j) (HR1.out j) (HR2.out j)
            rw [decide_eq_false hxy] at this
            exact this
          clear HR1 HR2 hxy
          go_wp2
          go_quiet (first | (go_at_call 30; refine Calls.quiet_of_same (HC.out _)))
          go_wp2
          go_ret
          exact ⟨by rw [HF.out]; rfl, _, by rw [HW.out]; exact World.drewN_drewN ..⟩
      · have hkn : k = n := by omega
        subst hkn
        have HF : Hid (o = true) := by
          show _ = _
          rw [HO.out, decide_eq_true_iff]
          have h1 := heq
          rw [List.take_of_length_le (by rw [← HN.out]; exact Nat.le_refl _), List.take_of_length_le (by rw [← HM.out]; exact Nat.le_refl _)] at h1
          exact h1
        clear heq
        go_wp2
        go_ret
        exact ⟨by rw [HF.out]; rfl, q, HW.out⟩
  · have hnm2 : ¬ ((n : Int) = (m : Int)) := by omega
    have HF : Hid (o = false) := by
      show _ = _
      rw [HO.out, decide_eq_false_iff_not]
      intro he
      apply hnm
      rw [HN.out, HM.out, he]
    go_enter Tryd.func11, Tryd.ntmps11
    go_wp2
    go_ret
    exact ⟨by rw [HF.out]; rfl, 0, rfl⟩
theorem below_drewN (w : World) (q : Nat) : Below w.heap.size w (w.drewN q) := ⟨rfl, rfl, rfl, Nat.le_refl _, fun _ _ => rfl⟩
end Go.Proofs.YtmmhdchhajmbfaaDoor
/- The statement ProofHashed, over proof's functions (layer 8). -/
namespace Go.Proofs.YtmmhdchhajmbfaaDoor
open Go.RowKit
set_option maxRecDepth 100000
/-- an index and a way, laid by the call -/
structure Lh (w : World) (gx gp : Nat) (x : List (BitVec 8)) (vs : Value) (sd : List (List (BitVec 8))) (en : Int) (ix va : List (BitVec 8)) (W : World) : Prop where
  k0 : KOk w
  r0 : ReadsD w vs sd
  xb : Blk W gx (cb x) 23
  pb : Blk W gp (prfV vs en ix va) 26
  bel : Below w.heap.size w W
theorem Lh.kk {w W : World} {gx gp : Nat} {x : List (BitVec 8)} {vs : Value} {sd : List (List (BitVec 8))} {en : Int} {ix va : List (BitVec 8)} (h : Lh w gx gp x vs sd en ix va W) : KOk W := h.k0.below h.bel h.k0.lt
theorem Lh.rd {w W : World} {gx gp : Nat} {x : List (BitVec 8)} {vs : Value} {sd : List (List (BitVec 8))} {en : Int} {ix va : List (BitVec 8)} (h : Lh w gx gp x vs sd en ix va W) : ReadsD W vs sd := h.r0.below h.bel
theorem Lh.next {w W W' : World} {gx gp : Nat} {x : List (BitVec 8)} {vs : Value} {sd : List (List (BitVec 8))} {en : Int} {ix va : List (BitVec 8)} (h : Lh w gx gp x vs sd en ix va W) (hb : Below W.heap.size W W') : Lh w gx gp x vs sd en ix va W' :=
  ⟨h.k0, h.r0, h.xb.below hb h.xb.lt, h.pb.below hb h.pb.lt, h.bel.trans (hb.mono h.bel.size)⟩
set_option maxRecDepth 100000 in
set_option maxHeartbeats 8000000 in
theorem proofHashed_law (hP : PfOps) (x : List (BitVec 8)) (vs : Value) (sd : List (List (BitVec 8))) (en : Int) (ix va : List (BitVec 8)) (hx : x.length = 32) (hix : ix.length = 32) (hva : va.length = 32) (w : World) (hK : KOk w) (hR : ReadsD w vs sd) :
    Calls Tryd.prog 3 #[.agg (cb x).toArray, .agg (prfV vs en ix va).toArray] w fun e w' => e = .returned (.bool true) ∧ Below w.heap.size w w' := by
  have HP : Hid PfOps := hP
  have HK : Hid (KOk w) := hK
  have HXL : Hid (x.length = 32) := hx
  have HIL : Hid (ix.length = 32) := hix
  have HVL : Hid (va.length = 32) := hva
  have HRD : Hid (ReadsD w vs sd) := hR
  obtain ⟨cs, HCS⟩ : ∃ c, Hid (c = prfV vs en ix va) := ⟨_, rfl⟩
  have HC6 : Hid (cs.length = 66) := by show _ = _; rw [HCS.out]; exact prfV_len hix hva
  obtain ⟨y, HRT⟩ : ∃ r, Hid (r = topL x (endB en ix va) 0 sd) := ⟨_, rfl⟩
  have HYL : Hid (y.length = 32) := by show _ = _; rw [HRT.out]; exact topL_len _ _ _ _
  obtain ⟨H, HHD⟩ : ∃ H, Hid (H = hashL x (endB en ix va) 0 sd) := ⟨_, rfl⟩
  have HCF : Hid (∀ W, ReadsD W vs sd → Calls Tryd.prog 8 #[.agg cs.toArray] W fun e w' => e = .returned (.bool (decide (sd.length ≤ 300))) ∧ Below W.heap.size W w') := fun W hh => by rw [HCS.out]; exact pffew_any vs sd en ix va W hh
  rw [← HCS.out]
  clear hP hK hx hix hva hR
  by_cases hf : sd.length ≤ 300
  · have HF : Hid (sd.length ≤ 300) := hf
    rw [decide_eq_true hf] at HCF
    clear hf
    have HLH : Hid (H.length < 4611686018427387904) := by show _ < _; rw [HHD.out, hashL_len]; have h := HF.out; omega
    have HC1 : Hid (∀ W, KOk W → ReadsD W vs sd → Calls Tryd.prog 10 #[.agg (cb x).toArray, .agg cs.toArray] W fun e w' => ∃ v, e = .returned v ∧ ReadsL w' v H ∧ Below W.heap.size W w') := fun W hk hh => by rw [HCS.out, HHD.out]; exact HP.out.hashed W x vs sd en ix va hk HXL.out HIL.out HVL.out hh HF.out
    have HC2 : Hid (∀ W, ReadsD W vs sd → Calls Tryd.prog 12 #[.agg (cb x).toArray, .agg cs.toArray] W fun e w' => ∃ v, e = .returned v ∧ ReadsL w' v H ∧ Below W.heap.size W w') := fun W hh => by rw [HCS.out, HHD.out]; exact bHashed_any x vs sd en ix va W HXL.out HIL.out HVL.out hh (by have h := HF.out; omega)
    have HC3 : Hid (∀ W, KOk W → ReadsD W vs sd → Calls Tryd.prog 13 #[.agg (cb x).toArray, .agg cs.toArray] W fun e w' => e = .returned (.agg (cb y).toArray) ∧ Below W.heap.size W w') := fun W hk hh => by rw [HCS.out, HRT.out]; exact HP.out.root W x vs sd en ix va hk HXL.out HIL.out HVL.out hh HF.out
    have HC4 : Hid (∀ W, ReadsD W vs sd → Calls Tryd.prog 14 #[.agg (cb x).toArray, .agg cs.toArray] W fun e w' => e = .returned (.agg (cb y).toArray) ∧ Below W.heap.size W w') := fun W hh => by rw [HCS.out, HRT.out]; exact bRoot_any x vs sd en ix va W HXL.out HIL.out HVL.out hh (by have h := HF.out; omega)
    have HC5 : Hid (∀ W va' vb', ReadsL W va' H → ReadsL W vb' H → Calls Tryd.prog 11 #[va', vb'] W fun e w' => e = .returned (.bool true) ∧ Below W.heap.size W w') := fun W va' vb' h1 h2 => (sametexts_any va' vb' H H W h1 h2 HLH.out).mono fun e w' h => by
      obtain ⟨h3, q, h4⟩ := h
      exact ⟨by rw [h3, decide_eq_true rfl], by rw [h4]; exact below_drewN _ _⟩
    have q1 : ∀ wx : World, (Op.equalIn 10000 23 (.agg (cb y).toArray) (.agg (cb y).toArray)).run Tryd.prog wx = .ok true wx := fun wx => eq_dig_same y HYL.out wx
    go_enter Tryd.func3, Tryd.ntmps3
    go_upto_region 4 with (first
      | (with_reducible refine wpSeq_boxD (.tmp 0) x ?_ ?_ ?_ ?_
         · rfl
         · rfl
         · rfl
         intro gx w1 nn1)
      | (with_reducible refine wpSeq_boxP (.tmp 1) cs ?_ ?_ ?_ ?_
         · rfl
         · rfl
         · rfl
         intro gp w2 nn2
         have HI : Hid (Lh w gx gp x vs sd en ix va w2) := by
           refine ⟨HK.out, HRD.out, nn1.blk.below nn2.below nn1.blk.lt, ?_, nn1.below.trans (nn2.below.mono nn1.below.size)⟩
           rw [← HCS.out]; exact nn2.blk
         clear nn1 nn2 HRD HK)
      | (with_reducible refine wpSeq_loadP (.tmp 3) gp cs ?_ ?_ ?_ ?_ ?_ ?_
         · exact HC6.out
         · rw [HCS.out]; exact HI.out.pb
         · rfl
         · rfl
         · rfl)
      | (go_at_call 8; refine (HCF.out _ HI.out.rd).mono ?_; rintro e w3 ⟨rfl, hb3⟩
         replace HI : Hid (Lh w gx gp x vs sd en ix va w3) := HI.out.next hb3
         clear hb3)
      | (with_reducible refine wpSeq_loadD (.tmp 2) gx x ?_ ?_ ?_ ?_ ?_ ?_
         · exact HXL.out
         · exact HI.out.xb
         · with_reducible rfl
         · rfl
         · rfl)
      | (go_at_call 10; refine (HC1.out _ HI.out.kk HI.out.rd).mono ?_; rintro e w4 ⟨v4, rfl, hr4, hb4⟩
         replace HI : Hid (Lh w gx gp x vs sd en ix va w4) := HI.out.next hb4
         have HR4 : Hid (ReadsL w4 v4 H) := hr4
         clear hr4 hb4))
    refine wp_region_held_drew (S := Lh w gx gp x vs sd en ix va) (by kernel_rfl) (HI.out.next (Below.refl _ _).drew) ?_
    intro hS
    have hr4 : ReadsL (World.drew w4) v4 H := HR4.out
    clear HI HR4
    change wpAnyH _ _ _ _ _ _ _ _ (World.drew w4)
    generalize World.drew w4 = y0 at *
    refine wpAnyH_take (i := 0) (v := v4) rfl (by kernel_rfl) (by kernel_rfl) (by kernel_rfl) (fun _ _ _ h => h) (Or.inl ⟨by rfl, fun wx hx => by simp [go_sem]⟩) hS ?_
    simp only [Act.put, List.getElem_toArray, List.getElem_cons_zero, List.setIfInBounds_toArray, List.set_cons_zero, List.set_cons_succ]
    refine wpAnyH_take (i := 1) (v := .agg (cb x).toArray) rfl (by kernel_rfl) (by kernel_rfl) (by kernel_rfl) (fun _ _ _ h => h) (Or.inl ⟨by rfl, fun wx hx => by exact loadDigest _ gx x HXL.out hx.xb rfl rfl⟩) hS ?_
    simp only [Act.put, List.getElem_toArray, List.getElem_cons_succ, List.getElem_cons_zero, List.setIfInBounds_toArray, List.set_cons_zero, List.set_cons_succ]
    refine wpAnyH_take (i := 2) (v := .agg cs.toArray) rfl (by kernel_rfl) (by kernel_rfl) (by kernel_rfl) (fun _ _ _ h => h) (Or.inl ⟨by rfl, fun wx hx => by exact load_run 26 _ rfl gp 0 rfl cs _ (by rw [HCS.out]; exact hx.pb.range) Tryd.underlying26 rfl (by rw [HC6.out]; exact info_proof)⟩) hS ?_
    simp only [Act.put, List.getElem_toArray, List.getElem_cons_succ, List.getElem_cons_zero, List.setIfInBounds_toArray, List.set_cons_zero, List.set_cons_succ]
    refine wpAnyH_enter 3 (by kernel_rfl) rfl (by rfl) (f := 12) (args := #[.agg (cb x).toArray, .agg cs.toArray]) (by simp [go_sem]) (HC2.out _ hS.rd) ?_
    rintro e y3 ⟨v5, rfl, hr5, hbq⟩
    replace hS := hS.next hbq
    replace hr4 := hr4.below hbq
    refine ⟨_, rfl, hS, ?_⟩
    clear hbq
    simp only [Act.put, List.getElem_toArray, List.getElem_cons_succ, List.getElem_cons_zero, List.setIfInBounds_toArray, List.set_cons_zero, List.set_cons_succ]
    refine wpAnyH_enter 4 (by kernel_rfl) rfl (by rfl) (f := 11) (args := #[v4, v5]) (by simp [go_sem]) (HC5.out _ _ _ hr4 hr5) ?_
    rintro e y4 ⟨rfl, hbq⟩
    replace hS := hS.next hbq
    clear hr4 hr5
    refine ⟨_, rfl, hS, ?_⟩
    clear hbq
    simp only [Act.put, List.getElem_toArray, List.getElem_cons_succ, List.getElem_cons_zero, List.setIfInBounds_toArray, List.set_cons_zero, List.set_cons_succ]
    refine wpAnyH_take (i := 5) (v := .bool true) rfl (by kernel_rfl) (by kernel_rfl) (by kernel_rfl) (fun _ _ _ h => h) (Or.inl ⟨by rfl, fun wx hx => by simp [go_sem]⟩) hS ?_
    simp only [Act.put, List.getElem_toArray, List.getElem_cons_succ, List.getElem_cons_zero, List.setIfInBounds_toArray, List.set_cons_zero, List.set_cons_succ]
    refine wpAnyH_take (i := 6) (v := .agg (cb x).toArray) rfl (by kernel_rfl) (by kernel_rfl) (by kernel_rfl) (fun _ _ _ h => h) (Or.inl ⟨by rfl, fun wx hx => by exact loadDigest _ gx x HXL.out hx.xb rfl rfl⟩) hS ?_
    simp only [Act.put, List.getElem_toArray, List.getElem_cons_succ, List.getElem_cons_zero, List.setIfInBounds_toArray, List.set_cons_zero, List.set_cons_succ]
    refine wpAnyH_take (i := 7) (v := .agg cs.toArray) rfl (by kernel_rfl) (by kernel_rfl) (by kernel_rfl) (fun _ _ _ h => h) (Or.inl ⟨by rfl, fun wx hx => by exact load_run 26 _ rfl gp 0 rfl cs _ (by rw [HCS.out]; exact hx.pb.range) Tryd.underlying26 rfl (by rw [HC6.out]; exact info_proof)⟩) hS ?_
    simp only [Act.put, List.getElem_toArray, List.getElem_cons_succ, List.getElem_cons_zero, List.setIfInBounds_toArray, List.set_cons_zero, List.set_cons_succ]
    refine wpAnyH_take (i := 9) (v := .agg (cb x).toArray) rfl (by kernel_rfl) (by kernel_rfl) (by kernel_rfl) (fun _ _ _ h => h) (Or.inl ⟨by rfl, fun wx hx => by exact loadDigest _ gx x HXL.out hx.xb rfl rfl⟩) hS ?_
    simp only [Act.put, List.getElem_toArray, List.getElem_cons_succ, List.getElem_cons_zero, List.setIfInBounds_toArray, List.set_cons_zero, List.set_cons_succ]
    refine wpAnyH_take (i := 10) (v := .agg cs.toArray) rfl (by kernel_rfl) (by kernel_rfl) (by kernel_rfl) (fun _ _ _ h => h) (Or.inl ⟨by rfl, fun wx hx => by exact load_run 26 _ rfl gp 0 rfl cs _ (by rw [HCS.out]; exact hx.pb.range) Tryd.underlying26 rfl (by rw [HC6.out]; exact info_proof)⟩) hS ?_
    simp only [Act.put, List.getElem_toArray, List.getElem_cons_succ, List.getElem_cons_zero, List.setIfInBounds_toArray, List.set_cons_zero, List.set_cons_succ]
    refine wpAnyH_enter 8 (by kernel_rfl) rfl (by rfl) (f := 13) (args := #[.agg (cb x).toArray, .agg cs.toArray]) (by simp [go_sem]) (HC3.out _ hS.kk hS.rd) ?_
    rintro e y8 ⟨rfl, hbq⟩
    replace hS := hS.next hbq
    refine ⟨_, rfl, hS, ?_⟩
    clear hbq
    simp only [Act.put, List.getElem_toArray, List.getElem_cons_succ, List.getElem_cons_zero, List.setIfInBounds_toArray, List.set_cons_zero, List.set_cons_succ]
    refine wpAnyH_enter 11 (by kernel_rfl) rfl (by rfl) (f := 14) (args := #[.agg (cb x).toArray, .agg cs.toArray]) (by simp [go_sem]) (HC4.out _ hS.rd) ?_
    rintro e y11 ⟨rfl, hbq⟩
    replace hS := hS.next hbq
    refine ⟨_, rfl, hS, ?_⟩
    clear hbq
    simp only [Act.put, List.getElem_toArray, List.getElem_cons_succ, List.getElem_cons_zero, List.setIfInBounds_toArray, List.set_cons_zero, List.set_cons_succ]
    refine wpAnyH_take (i := 12) (v := .bool true) rfl (by kernel_rfl) (by kernel_rfl) (by kernel_rfl) (fun _ _ _ h => h) (Or.inl ⟨by rfl, fun wx hx => by (have hq := q1 wx; simp [go_sem, hq])⟩) hS ?_
    simp only [Act.put, List.getElem_toArray, List.getElem_cons_succ, List.getElem_cons_zero, List.setIfInBounds_toArray, List.set_cons_zero, List.set_cons_succ]
    refine wpAnyH_take (i := 13) (v := .bool true) rfl (by kernel_rfl) (by kernel_rfl) (by kernel_rfl) (fun _ _ _ h => h) (Or.inl ⟨by rfl, fun wx hx => by simp [go_sem]⟩) hS ?_
    simp only [Act.put, List.getElem_toArray, List.getElem_cons_succ, List.getElem_cons_zero, List.setIfInBounds_toArray, List.set_cons_zero, List.set_cons_succ]
    refine wpAnyH_take (i := 14) (v := .bool true) rfl (by kernel_rfl) (by kernel_rfl) (by kernel_rfl) (fun _ _ _ h => h) (Or.inl ⟨by rfl, fun wx hx => by simp [go_sem]⟩) hS ?_
    simp only [Act.put, List.getElem_toArray, List.getElem_cons_succ, List.getElem_cons_zero, List.setIfInBounds_toArray, List.set_cons_zero, List.set_cons_succ]
    refine wpAnyH_enter 15 (by kernel_rfl) rfl (by rfl) (f := 9) (args := #[]) (by simp [go_sem]) (pfworks_any HP.out _ hS.kk) ?_
    rintro e y15 ⟨rfl, hbq⟩
    replace hS := hS.next hbq
    refine ⟨_, rfl, hS, ?_⟩
    clear hbq
    simp only [Act.put, List.getElem_toArray, List.getElem_cons_succ, List.getElem_cons_zero, List.setIfInBounds_toArray, List.set_cons_zero, List.set_cons_succ]
    refine wpAnyH_take (i := 16) (v := .bool true) rfl (by kernel_rfl) (by kernel_rfl) (by kernel_rfl) (fun _ _ _ h => h) (Or.inl ⟨by rfl, fun wx hx => by simp [go_sem]⟩) hS ?_
    simp only [Act.put, List.getElem_toArray, List.getElem_cons_succ, List.getElem_cons_zero, List.setIfInBounds_toArray, List.set_cons_zero, List.set_cons_succ]
    refine wpAnyH_take (i := 17) (v := .bool true) rfl (by kernel_rfl) (by kernel_rfl) (by kernel_rfl) (fun _ _ _ h => h) (Or.inl ⟨by rfl, fun wx hx => by simp [go_sem]⟩) hS ?_
    simp only [Act.put, List.getElem_toArray, List.getElem_cons_succ, List.getElem_cons_zero, List.setIfInBounds_toArray, List.set_cons_zero, List.set_cons_succ]
    refine wpAnyH_done (by kernel_rfl) ?_ _
    go_wp2
    go_ret
    exact ⟨rfl, hS.bel⟩
  · rw [decide_eq_false hf] at HCF
    clear hf
    go_enter Tryd.func3, Tryd.ntmps3
    go_wp2_with (first
      | (with_reducible refine wpSeq_boxD (.tmp 0) x ?_ ?_ ?_ ?_
         · rfl
         · rfl
         · rfl
         intro gx w1 nn1)
      | (with_reducible refine wpSeq_boxP (.tmp 1) cs ?_ ?_ ?_ ?_
         · rfl
         · rfl
         · rfl
         intro gp w2 nn2
         have HI : Hid (Lh w gx gp x vs sd en ix va w2) := by
           refine ⟨HK.out, HRD.out, nn1.blk.below nn2.below nn1.blk.lt, ?_, nn1.below.trans (nn2.below.mono nn1.below.size)⟩
           rw [← HCS.out]; exact nn2.blk
         clear nn1 nn2 HRD HK)
      | (with_reducible refine wpSeq_loadP (.tmp 3) gp cs ?_ ?_ ?_ ?_ ?_ ?_
         · exact HC6.out
         · rw [HCS.out]; exact HI.out.pb
         · rfl
         · rfl
         · rfl)
      | (go_at_call 8; refine (HCF.out _ HI.out.rd).mono ?_; rintro e w3 ⟨rfl, hb3⟩
         replace HI : Hid (Lh w gx gp x vs sd en ix va w3) := HI.out.next hb3
         clear hb3)
      | (go_at_call 9; refine (pfworks_any HP.out _ HI.out.kk).mono ?_; rintro e w4 ⟨rfl, hb4⟩
         replace HI : Hid (Lh w gx gp x vs sd en ix va w4) := HI.out.next hb4
         clear hb4))
    go_ret
    exact ⟨rfl, HI.out.bel⟩
end Go.Proofs.YtmmhdchhajmbfaaDoor
/- What the listed variable gives: the rounds' words lie where the walks look for them. -/
namespace Go.Proofs.YtmmhdchhajmbfaaDoor
open Go.ChangeShapes Go.WideShapes Go.ChangeAt Go.WideMaps Go.WideElems Go.RowKit
set_option maxRecDepth 100000
theorem own : ownKnob Tryd.prog.godebug = none := by kernel_rfl
theorem gKw : Tryd.prog.globalNamed "blazon/sha.roundWords" = some 0 := by kernel_rfl
theorem tKw : (Tryd.prog.globals[0]?).map (·.type) = some 84 := by kernel_rfl
def laidK : List (String × DataW Unit) := [("blazon/sha.roundWords", Rows.laid_blazon_sha_roundWords)]
def kzs : List Int := kw.map fun x => (x.toNat : Int)
theorem laid_tab : (Rows.laid_blazon_sha_roundWords : DataW Unit) = Lib.tabData .u32 kzs := by kernel_rfl
theorem door_met (os : Os) (args : Array Value) : laidMetH Tryd.prog laidK ((World.doorLaid Tryd.prog 400 os).forCall (fun _ _ => 0) ⟨#[], args, []⟩).memory :=
  laidMetH_of_parts3 (fuel := 8) (laidMet_of_run' 8 (by kernel_rfl) (by kernel_rfl)) (by kernel_rfl) (by kernel_rfl)
theorem getD_toNat (l : List (BitVec 32)) (j : Nat) : (l.map fun x => (x.toNat : Int)).getD j 0 = ((l.getD j 0).toNat : Int) := by
  rw [List.getD_eq_getElem?_getD, List.getD_eq_getElem?_getD, List.getElem?_map]
  cases l[j]? <;> rfl
theorem kok_of_laid {W : World} (h : laidMetH Tryd.prog laidK W) : KOk W := by
  rw [MakeChecks.laidMetH_plain _ _ _ (by kernel_rfl)] at h
  unfold laidK at h
  rw [laid_tab] at h
  have hT := Lib.tabIs_of_head gKw tKw Tryd.underlying84 Tryd.underlying76 (by kernel_rfl) (by kernel_rfl) h
  intro j hj
  rw [hT.cell gKw j (by simpa [kzs, kw] using hj), kzs, getD_toNat]
end Go.Proofs.YtmmhdchhajmbfaaDoor
/- What a slice of bytes that came in gives: the bytes that it reads as; and that it reads so still behind a call that changed no old block. -/
namespace Go.Proofs.YtmmhdchhajmbfaaDoor
open Go.ChangeShapes Go.WideShapes Go.ChangeAt Go.WideMaps Go.WideElems Go.RowKit
set_option maxRecDepth 100000
theorem cells_byte : Tryd.prog.cellsOf 5 = 1 := by kernel_rfl
theorem laid_out : laidOutB Tryd.prog = true := by kernel_rfl
theorem readable_bytes : Tryd.prog.readableRec 51 = true := by kernel_rfl
theorem row_bytes : 51 < Tryd.prog.types.size := of_decide_eq_true (by kernel_rfl)
theorem byte_range {zs : List Int} (h : ∀ n ∈ zs, (Lit.int .u8 n).wf = true) (j : Nat) : 0 ≤ zs.getD j 0 ∧ zs.getD j 0 < 256 := by
  rw [List.getD_eq_getElem?_getD]
  cases hj : zs[j]? with
  | none => simp
  | some n =>
    have := h n (List.mem_of_getElem? hj)
    have := bounds_u8 this
    simp
    omega
theorem reads_of_trod {H : Type} {enc : TypeId × Value → H} {W : World} {base : Nat} {v : Value} {d : DataW H} {p : List MemPlace} (hval : Value.okWide Tryd.prog W .any base 51 v)
    (h : DataW.Trod enc Tryd.prog W 0 (fun _ => true) true 51 v d p) :
    ∃ bs, Reads W v bs ∧ bs.length ≤ maxLen ∧ ∀ x ∈ p, x.block < W.heap.size := by
  obtain ⟨a1, len, cap, rfl⟩ := okWide_slice Tryd.underlying51 hval
  obtain ⟨fuel, hf⟩ := h
  rcases open_ints Tryd.underlying51 Tryd.underlying5 cells_byte hf with ⟨hcs, hx⟩ | ⟨a, len', cap', zs, hcs, _, hl, hm, hz, hx, hcell, hwz⟩
  · simp [Value.cells] at hcs
    obtain ⟨rfl, rfl, rfl⟩ := hcs
    simp only [Prod.mk.injEq] at hx
    obtain ⟨rfl, rfl⟩ := hx
    exact ⟨[], ⟨none, 0, rfl, Nat.le_refl _, fun _ => rfl, fun h => by cases h⟩, Nat.zero_le _, fun _ h => by cases h⟩
  · simp [Value.cells] at hcs
    obtain ⟨rfl, rfl, rfl⟩ := hcs
    simp only [Prod.mk.injEq] at hx
    obtain ⟨rfl, rfl⟩ := hx
    simp only [if_true] at hz
    have hlen : ((zs.take len).map fun n => BitVec.ofInt 8 n).length = len := by simp; omega
    obtain ⟨ab, ao, spot⟩ := a
    refine ⟨(zs.take len).map fun n => BitVec.ofInt 8 n, ⟨some ⟨ab, ao, spot⟩, cap, by rw [hlen], by rw [hlen]; exact hl, (fun h => by cases h), fun hp => ?_⟩, by rw [hlen]; omega, fun x hx => ?_⟩
    · rw [hlen] at hp ⊢
      have hspot : spot = none := by simpa [Addr.add] using World.cell?_spot (hcell 0 (by omega))
      subst hspot
      refine ⟨ab, ao, rfl, fun j hj => ?_⟩
      have hcj := hcell j (by omega)
      rw [Addr.add_lit] at hcj
      rw [hcj]
      have hb := byte_range hwz j
      have e : ((zs.take len).map fun n => BitVec.ofInt 8 n).getD j 0 = BitVec.ofInt 8 (zs.getD j 0) := by
        rw [List.getD_eq_getElem?_getD, List.getElem?_map, List.getElem?_take_of_lt hj, List.getD_eq_getElem?_getD, List.getElem?_eq_getElem (show j < zs.length by omega)]
        rfl
      rw [e, BitVec.toNat_ofInt]
      congr 2
      omega
    · simp only [MemPlace.row, List.mem_map, List.mem_range] at hx
      obtain ⟨i, hi, rfl⟩ := hx
      have hcj := hcell i (by omega)
      have := block_lt_of_cell hcj
      simp only [Addr.add] at this
      split at this <;> exact this
end Go.Proofs.YtmmhdchhajmbfaaDoor
/- What a digest that came in gives: its 32 bytes. -/
namespace Go.Proofs.YtmmhdchhajmbfaaDoor
open Go.ChangeShapes Go.WideShapes Go.ChangeAt Go.WideMaps Go.WideElems Go.RowKit
set_option maxRecDepth 100000
theorem cells_digest : Tryd.prog.cellsOf 23 = 32 := by kernel_rfl
theorem readable_digest : Tryd.prog.readableRec 23 = true := by kernel_rfl
theorem row_digest : 23 < Tryd.prog.types.size := of_decide_eq_true (by kernel_rfl)
def numOf8 : Value → BitVec 8
  | .int _ n => BitVec.ofInt 8 n
  | _ => 0
theorem digest_of_trod {H : Type} {enc : TypeId × Value → H} {W : World} {base : Nat} {v : Value} {d : DataW H} {p : List MemPlace} (hval : Value.okWide Tryd.prog W .any base 23 v)
    (h : DataW.Trod enc Tryd.prog W 0 (fun _ => true) true 23 v d p) :
    ∃ dg, v = .agg (cb dg).toArray ∧ dg.length = 32 ∧ ∀ x ∈ p, x.block < W.heap.size := by
  simp only [Value.okWide, Tryd.underlying23] at hval
  obtain ⟨cs, rfl, hcs, _⟩ := hval
  obtain ⟨fuel, hf⟩ := h
  obtain ⟨xs, m, _, hx, hl, hn, hi⟩ := DataW.trod_array Tryd.underlying23 hf
  simp only [Value.cells] at hl hi
  rw [cells_digest] at hl
  rw [cells_byte] at hi
  have each : ∀ i, i < 32 → ∃ n, cs.toList[i]? = some (.int .u8 n) ∧ xs[i]? = some (.lit (.int .u8 n), []) ∧ (Lit.int .u8 n).wf = true := by
    intro i h32
    have h1 := hi i h32
    rw [List.getElem?_eq_getElem (by omega)] at h1
    obtain ⟨n, hc, hxx, hw⟩ := DataW.trod_int Tryd.underlying5 h1
    refine ⟨n, ?_, by rw [List.getElem?_eq_getElem (by omega), hxx], hw⟩
    rw [Nat.mul_one] at hc
    have h2 := congrArg (fun l => l[0]?) hc
    simpa using h2
  have hlen : (cs.toList.map numOf8).length = 32 := by simpa using hl
  refine ⟨cs.toList.map numOf8, ?_, hlen, ?_⟩
  · congr 1
    apply Array.ext'
    rw [List.toList_toArray]
    apply List.ext_getElem?
    intro i
    by_cases h32 : i < 32
    · obtain ⟨n, h1, _, hw⟩ := each i h32
      have hb := bounds_u8 hw
      rw [h1, cb_get _ _ (by omega), List.getD_eq_getElem?_getD, List.getElem?_map, h1]
      simp only [Option.map_some, Option.getD_some, numOf8, BitVec.toNat_ofInt]
      congr 2
      omega
    · rw [List.getElem?_eq_none (by omega), List.getElem?_eq_none (by rw [cb_len]; omega)]
  · simp only [Prod.mk.injEq] at hx
    rw [hx.2]
    intro x hmem
    obtain ⟨y, hy, hxy⟩ := List.mem_flatMap.1 hmem
    obtain ⟨i, hlt, rfl⟩ := List.getElem_of_mem hy
    obtain ⟨n, _, h2, _⟩ := each i (by omega)
    rw [List.getElem?_eq_getElem hlt] at h2
    rw [Option.some.inj h2] at hxy
    cases hxy
end Go.Proofs.YtmmhdchhajmbfaaDoor
/- What a slice of digests that came in gives; five arguments that came in, opened and shut (for the statements of layer 7). -/
namespace Go.Proofs.YtmmhdchhajmbfaaDoor
open Go.ChangeShapes Go.WideShapes Go.ChangeAt Go.WideMaps Go.WideElems Go.RowKit
set_option maxRecDepth 100000
set_option maxRecDepth 100000 in
theorem bulk_pos {H : Type} (d : DataW H) : 1 ≤ Rows.uptoBulk d := by
  cases d with
  | lit l => cases l <;> simp [Rows.uptoBulk]
  | _ => simp [Rows.uptoBulk]
set_option maxRecDepth 100000 in
theorem bulk_slice {H : Type} (e s : List (DataW H)) : Rows.uptoBulkAll e ≤ Rows.uptoBulk (DataW.slice e s) := by
  simp only [Rows.uptoBulk]; omega
set_option maxRecDepth 100000 in
theorem bulk_len {H : Type} : ∀ l : List (DataW H), l.length ≤ Rows.uptoBulkAll l
  | [] => Nat.zero_le _
  | d :: r => by
    have h1 := bulk_len r
    have h2 := bulk_pos d
    simp only [Rows.uptoBulkAll, List.length_cons]
    omega
theorem digest_of_cells {H : Type} {enc : TypeId × Value → H} {W : World} {cs : List Value} {d : DataW H} {p : List MemPlace} {fuel : Nat} (hf : DataW.trod enc Tryd.prog W 0 (fun _ => true) true fuel 23 cs = some (d, p)) :
    ∃ dg, cs = cb dg ∧ dg.length = 32 ∧ ∀ x ∈ p, x.block < W.heap.size := by
  obtain ⟨xs, m, _, hx, hl, hn, hi⟩ := DataW.trod_array Tryd.underlying23 hf
  rw [cells_digest] at hl
  rw [cells_byte] at hi
  have each : ∀ i, i < 32 → ∃ n, cs[i]? = some (.int .u8 n) ∧ xs[i]? = some (.lit (.int .u8 n), []) ∧ (Lit.int .u8 n).wf = true := by
    intro i h32
    have h1 := hi i h32
    rw [List.getElem?_eq_getElem (by omega)] at h1
    obtain ⟨n, hc, hxx, hw⟩ := DataW.trod_int Tryd.underlying5 h1
    refine ⟨n, ?_, by rw [List.getElem?_eq_getElem (by omega), hxx], hw⟩
    rw [Nat.mul_one] at hc
    have h2 := congrArg (fun l => l[0]?) hc
    simpa using h2
  have hlen : (cs.map numOf8).length = 32 := by simpa using hl
  refine ⟨cs.map numOf8, ?_, hlen, ?_⟩
  · apply List.ext_getElem?
    intro i
    by_cases h32 : i < 32
    · obtain ⟨n, h1, _, hw⟩ := each i h32
      have hb := bounds_u8 hw
      rw [h1, cb_get _ _ (by omega), List.getD_eq_getElem?_getD, List.getElem?_map, h1]
      simp only [Option.map_some, Option.getD_some, numOf8, BitVec.toNat_ofInt]
      congr 2
      omega
    · rw [List.getElem?_eq_none (by omega), List.getElem?_eq_none (by rw [cb_len]; omega)]
  · simp only [Prod.mk.injEq] at hx
    rw [hx.2]
    intro x hmem
    obtain ⟨y, hy, hxy⟩ := List.mem_flatMap.1 hmem
    obtain ⟨i, hlt, rfl⟩ := List.getElem_of_mem hy
    obtain ⟨n, _, h2, _⟩ := each i (by omega)
    rw [List.getElem?_eq_getElem hlt] at h2
    rw [Option.some.inj h2] at hxy
    cases hxy
set_option maxRecDepth 100000 in
theorem readable_digests : Tryd.prog.readableRec 24 = true := by kernel_rfl
set_option maxRecDepth 100000 in
theorem row_digests : 24 < Tryd.prog.types.size := of_decide_eq_true (by kernel_rfl)
theorem readsD_of_trod {H : Type} {enc : TypeId × Value → H} {W : World} {base : Nat} {v : Value} {d : DataW H} {p : List MemPlace} (hval : Value.okWide Tryd.prog W .any base 24 v)
    (h : DataW.Trod enc Tryd.prog W 0 (fun _ => true) true 24 v d p) :
    ∃ ds, ReadsD W v ds ∧ ds.length ≤ Rows.uptoBulk d ∧ ∀ x ∈ p, x.block < W.heap.size := by
  obtain ⟨a1, len, cap, rfl⟩ := okWide_slice Tryd.underlying24 hval
  obtain ⟨fuel, hf⟩ := h
  rcases Go.Deep.open_slice Tryd.underlying24 hf with ⟨hcs, hx⟩ | ⟨a, len', cap', m, n, D, Pl, hcs, _, hl, hm, hmm, hx, hV⟩
  · simp [Value.cells] at hcs
    obtain ⟨rfl, rfl, rfl⟩ := hcs
    simp only [Prod.mk.injEq] at hx
    obtain ⟨rfl, rfl⟩ := hx
    exact ⟨[], ⟨⟨none, 0, rfl, Nat.le_refl _, fun _ => rfl, fun h => by cases h⟩, fun _ h => by cases h⟩, Nat.zero_le _, fun _ h => by cases h⟩
  · simp [Value.cells] at hcs
    obtain ⟨rfl, rfl, rfl⟩ := hcs
    simp only [Prod.mk.injEq] at hx
    obtain ⟨rfl, rfl⟩ := hx
    simp only [if_true] at hmm
    subst hmm
    rw [cells_digest] at hV
    obtain ⟨B, hB⟩ := Go.Deep.choose_lt (α := List (BitVec 8)) (p := fun i dg => W.cells? 0 (a.add (i * 32)) 32 = some (cb dg) ∧ dg.length = 32 ∧ ∀ x ∈ Pl i, x.block < W.heap.size) (fun i hi => by
      obtain ⟨cs', h1, h2⟩ := hV i hi
      obtain ⟨dg, rfl, h3, h4⟩ := digest_of_cells h2
      exact ⟨dg, h1, h3, h4⟩)
    have hlen : ((List.range len).map B).length = len := by simp
    obtain ⟨ab, ao, spot⟩ := a
    have cell : ∀ i, i < m → ∀ j, j < 32 → W.cell? ((⟨ab, ao, spot⟩ : Addr).add (i * 32 + j)) = (cb (B i))[j]? := by
      intro i hi j hj
      obtain ⟨h1, _, _⟩ := hB i hi
      obtain ⟨_, _, h4⟩ := World.cells?_some h1
      have := h4 j hj
      rw [Go.Deep.add_add] at this
      exact this
    have hspot : 0 < m → spot = none := fun hp => by
      have h := cell 0 hp 0 (by omega)
      rw [cb_get _ 0 (by rw [(hB 0 hp).2.1]; omega)] at h
      simpa [Addr.add] using World.cell?_spot h
    refine ⟨(List.range len).map B, ⟨⟨some ⟨ab, ao, spot⟩, m, by rw [hlen], by rw [hlen]; exact hl, (fun h => by cases h), fun hp => ?_⟩, ?_⟩, by rw [hlen]; exact Nat.le_trans (by have := bulk_len ((List.range len).map D); simpa using this) (bulk_slice _ _), fun x hx => ?_⟩
    · rw [hlen] at hp ⊢
      have hs := hspot (by omega)
      subst hs
      refine ⟨ab, ao, rfl, fun j hj i v hv => ?_⟩
      have e : ((List.range len).map B).getD j [] = B j := by simp [hj]
      rw [e] at hv
      have hi : i < 32 := by have := (List.getElem?_eq_some_iff.1 hv).1; rwa [cb_len, (hB j (by omega)).2.1] at this
      have h := cell j (by omega) i hi
      rw [hv, Addr.add_lit] at h
      rw [Nat.add_assoc]; exact h
    · intro dg hd
      obtain ⟨i, hi, rfl⟩ := List.mem_map.1 hd
      exact (hB i (by have := List.mem_range.1 hi; omega)).2.1
    · rcases List.mem_append.1 hx with hx | hx
      · rw [cells_digest] at hx
        simp only [MemPlace.row, List.mem_map, List.mem_range] at hx
        obtain ⟨i, hi, rfl⟩ := hx
        have h := cell (i / 32) (by omega) (i % 32) (by omega)
        rw [cb_get _ _ (by rw [(hB (i / 32) (by omega)).2.1]; omega), show i / 32 * 32 + i % 32 = i by omega] at h
        have := block_lt_of_cell h
        simp only [Addr.add] at this
        split at this <;> exact this
      · obtain ⟨i, hi, hx⟩ := List.mem_flatMap.1 hx
        exact (hB i (List.mem_range.1 hi)).2.2 x hx
theorem trodAll_five {H : Type} {enc : TypeId × Value → H} {P : Program} {w : World} {base : Nat} {spare : Nat → Bool} {held : Bool} {t0 t1 t2 t3 t4 : TypeId} {args : Array Value} {ds : List (DataW H)} {ps : List MemPlace} (h : DataW.TrodAll enc P w base spare held [t0, t1, t2, t3, t4] args.toList ds ps) :
    ∃ v0 v1 v2 v3 v4 d0 d1 d2 d3 d4 p0 p1 p2 p3 p4, args = #[v0, v1, v2, v3, v4] ∧ ds = [d0, d1, d2, d3, d4] ∧ ps = p0 ++ p1 ++ p2 ++ p3 ++ p4 ∧ DataW.Trod enc P w base spare held t0 v0 d0 p0 ∧ DataW.Trod enc P w base spare held t1 v1 d1 p1 ∧ DataW.Trod enc P w base spare held t2 v2 d2 p2 ∧ DataW.Trod enc P w base spare held t3 v3 d3 p3 ∧ DataW.Trod enc P w base spare held t4 v4 d4 p4 := by
  obtain ⟨v0, vs0, d0, ds0, p0, q0, hargs, rfl, rfl, h0, r0⟩ := trodAll_cons h
  obtain ⟨v1, vs1, d1, ds1, p1, q1, rfl, rfl, rfl, h1, r1⟩ := trodAll_cons r0
  obtain ⟨v2, vs2, d2, ds2, p2, q2, rfl, rfl, rfl, h2, r2⟩ := trodAll_cons r1
  obtain ⟨v3, vs3, d3, ds3, p3, q3, rfl, rfl, rfl, h3, r3⟩ := trodAll_cons r2
  obtain ⟨v4, vs4, d4, ds4, p4, q4, rfl, rfl, rfl, h4, r4⟩ := trodAll_cons r3
  obtain ⟨rfl, rfl, rfl⟩ := trodAll_nil r4
  exact ⟨v0, v1, v2, v3, v4, d0, d1, d2, d3, d4, p0, p1, p2, p3, p4, by cases args; simp_all, rfl, by simp, h0, h1, h2, h3, h4⟩
theorem trodAll_mk5 {H : Type} {enc : TypeId × Value → H} {P : Program} {w : World} {base : Nat} {spare : Nat → Bool} {held : Bool} {t0 t1 t2 t3 t4 : TypeId} {v0 v1 v2 v3 v4 : Value} {d0 d1 d2 d3 d4 : DataW H} {p0 p1 p2 p3 p4 : List MemPlace} (h0 : DataW.Trod enc P w base spare held t0 v0 d0 p0) (h1 : DataW.Trod enc P w base spare held t1 v1 d1 p1) (h2 : DataW.Trod enc P w base spare held t2 v2 d2 p2) (h3 : DataW.Trod enc P w base spare held t3 v3 d3 p3) (h4 : DataW.Trod enc P w base spare held t4 v4 d4 p4) : DataW.TrodAll enc P w base spare held [t0, t1, t2, t3, t4] [v0, v1, v2, v3, v4] [d0, d1, d2, d3, d4] (p0 ++ (p1 ++ (p2 ++ (p3 ++ p4)))) :=
  ⟨p0, _, h0, trodAll_mk4 h1 h2 h3 h4, rfl⟩
end Go.Proofs.YtmmhdchhajmbfaaDoor
/- What a binding and a proof that came in give: their parts. -/
namespace Go.Proofs.YtmmhdchhajmbfaaDoor
open Go.ChangeShapes Go.WideShapes Go.ChangeAt Go.WideMaps Go.WideElems Go.RowKit
set_option maxRecDepth 100000
set_option maxRecDepth 100000 in
theorem readable_proof : Tryd.prog.readableRec 26 = true := by kernel_rfl
set_option maxRecDepth 100000 in
theorem row_proof : 26 < Tryd.prog.types.size := of_decide_eq_true (by kernel_rfl)
set_option maxRecDepth 100000 in
theorem cells_proof : Tryd.prog.cellsOf 26 = 66 := by kernel_rfl
set_option maxRecDepth 100000 in
theorem cells_digests : Tryd.prog.cellsOf 24 = 1 := by kernel_rfl
set_option maxRecDepth 100000 in
theorem cells_int1 : Tryd.prog.cellsOf 3 = 1 := by kernel_rfl
theorem cells_string : Tryd.prog.cellsOf 9 = 1 := by kernel_rfl
theorem cells_bytes1 : Tryd.prog.cellsOf 51 = 1 := by kernel_rfl
theorem strB_of (s : ByteArray) : ∃ nm, s = strB nm := by
  refine ⟨s.data.toList.map fun b => BitVec.ofNat 8 b.toNat, ?_⟩
  have h := strB_data (s.data.toList.map fun b => BitVec.ofNat 8 b.toNat)
  have h2 : (s.data.toList.map fun b => BitVec.ofNat 8 b.toNat).map (fun b => UInt8.ofNat b.toNat) = s.data.toList := by
    rw [List.map_map]
    have : ((fun b : BitVec 8 => UInt8.ofNat b.toNat) ∘ fun b : UInt8 => BitVec.ofNat 8 b.toNat) = id := by
      funext b
      simp only [Function.comp, BitVec.toNat_ofNat, id]
      have := b.toNat_lt
      rw [Nat.mod_eq_of_lt (by omega)]
      simp
    rw [this, List.map_id]
  rw [h2] at h
  obtain ⟨d⟩ := s
  generalize strB _ = t at *
  obtain ⟨e⟩ := t
  simp only at h
  rw [Array.ext' h]
theorem reads_of_cells0 {H : Type} {enc : TypeId × Value → H} {W : World} {v : Value} {y : DataW H × List MemPlace} {fuel : Nat} (hf : DataW.trod enc Tryd.prog W 0 (fun _ => true) true fuel 51 [v] = some y) :
    ∃ bs, Reads W v bs := by
  rcases open_ints Tryd.underlying51 Tryd.underlying5 cells_byte hf with ⟨hcs, hx⟩ | ⟨a, len, cap, zs, hcs, _, hl, hm, hz, hx, hcell, hwz⟩
  · simp only [List.cons.injEq, and_true] at hcs
    subst hcs
    exact ⟨[], ⟨none, 0, rfl, Nat.le_refl _, fun _ => rfl, fun h => by cases h⟩⟩
  · simp only [List.cons.injEq, and_true] at hcs
    subst hcs
    simp only [if_true] at hz
    have hlen : ((zs.take len).map fun n => BitVec.ofInt 8 n).length = len := by simp; omega
    obtain ⟨ab, ao, spot⟩ := a
    refine ⟨(zs.take len).map fun n => BitVec.ofInt 8 n, ⟨some ⟨ab, ao, spot⟩, cap, by rw [hlen], by rw [hlen]; exact hl, (fun h => by cases h), fun hp => ?_⟩⟩
    rw [hlen] at hp ⊢
    have hspot : spot = none := by simpa [Addr.add] using World.cell?_spot (hcell 0 (by omega))
    subst hspot
    refine ⟨ab, ao, rfl, fun j hj => ?_⟩
    have hcj := hcell j (by omega)
    rw [Addr.add_lit] at hcj
    rw [hcj]
    have hb := byte_range hwz j
    have e : ((zs.take len).map fun n => BitVec.ofInt 8 n).getD j 0 = BitVec.ofInt 8 (zs.getD j 0) := by
      rw [List.getD_eq_getElem?_getD, List.getElem?_map, List.getElem?_take_of_lt hj, List.getD_eq_getElem?_getD, List.getElem?_eq_getElem (show j < zs.length by omega)]
      rfl
    rw [e, BitVec.toNat_ofInt]
    congr 2
    omega
set_option maxRecDepth 100000 in
theorem readsD_of_cells {H : Type} {enc : TypeId × Value → H} {W : World} {a1 : Option Addr} {len cap : Nat} {d : DataW H} {p : List MemPlace} {fuel : Nat} (hf : DataW.trod enc Tryd.prog W 0 (fun _ => true) true fuel 24 [.slice a1 len cap] = some (d, p)) :
    ∃ ds, ReadsD W (.slice a1 len cap) ds ∧ ds.length ≤ Rows.uptoBulk d ∧ ∀ x ∈ p, x.block < W.heap.size := by
  rcases Go.Deep.open_slice Tryd.underlying24 hf with ⟨hcs, hx⟩ | ⟨a, len', cap', m, n, D, Pl, hcs, _, hl, hm, hmm, hx, hV⟩
  · simp at hcs
    obtain ⟨rfl, rfl, rfl⟩ := hcs
    simp only [Prod.mk.injEq] at hx
    obtain ⟨rfl, rfl⟩ := hx
    exact ⟨[], ⟨⟨none, 0, rfl, Nat.le_refl _, fun _ => rfl, fun h => by cases h⟩, fun _ h => by cases h⟩, Nat.zero_le _, fun _ h => by cases h⟩
  · simp at hcs
    obtain ⟨rfl, rfl, rfl⟩ := hcs
    simp only [Prod.mk.injEq] at hx
    obtain ⟨rfl, rfl⟩ := hx
    simp only [if_true] at hmm
    subst hmm
    rw [cells_digest] at hV
    obtain ⟨B, hB⟩ := Go.Deep.choose_lt (α := List (BitVec 8)) (p := fun i dg => W.cells? 0 (a.add (i * 32)) 32 = some (cb dg) ∧ dg.length = 32 ∧ ∀ x ∈ Pl i, x.block < W.heap.size) (fun i hi => by
      obtain ⟨cs', h1, h2⟩ := hV i hi
      obtain ⟨dg, rfl, h3, h4⟩ := digest_of_cells h2
      exact ⟨dg, h1, h3, h4⟩)
    have hlen : ((List.range len).map B).length = len := by simp
    obtain ⟨ab, ao, spot⟩ := a
    have cell : ∀ i, i < m → ∀ j, j < 32 → W.cell? ((⟨ab, ao, spot⟩ : Addr).add (i * 32 + j)) = (cb (B i))[j]? := by
      intro i hi j hj
      obtain ⟨h1, _, _⟩ := hB i hi
      obtain ⟨_, _, h4⟩ := World.cells?_some h1
      have := h4 j hj
      rw [Go.Deep.add_add] at this
      exact this
    have hspot : 0 < m → spot = none := fun hp => by
      have h := cell 0 hp 0 (by omega)
      rw [cb_get _ 0 (by rw [(hB 0 hp).2.1]; omega)] at h
      simpa [Addr.add] using World.cell?_spot h
    refine ⟨(List.range len).map B, ⟨⟨some ⟨ab, ao, spot⟩, m, by rw [hlen], by rw [hlen]; exact hl, (fun h => by cases h), fun hp => ?_⟩, ?_⟩, by rw [hlen]; exact Nat.le_trans (by have := bulk_len ((List.range len).map D); simpa using this) (bulk_slice _ _), fun x hx => ?_⟩
    · rw [hlen] at hp ⊢
      have hs := hspot (by omega)
      subst hs
      refine ⟨ab, ao, rfl, fun j hj i v hv => ?_⟩
      have e : ((List.range len).map B).getD j [] = B j := by simp [hj]
      rw [e] at hv
      have hi : i < 32 := by have := (List.getElem?_eq_some_iff.1 hv).1; rwa [cb_len, (hB j (by omega)).2.1] at this
      have h := cell j (by omega) i hi
      rw [hv, Addr.add_lit] at h
      rw [Nat.add_assoc]; exact h
    · intro dg hd
      obtain ⟨i, hi, rfl⟩ := List.mem_map.1 hd
      exact (hB i (by have := List.mem_range.1 hi; omega)).2.1
    · rcases List.mem_append.1 hx with hx | hx
      · rw [cells_digest] at hx
        simp only [MemPlace.row, List.mem_map, List.mem_range] at hx
        obtain ⟨i, hi, rfl⟩ := hx
        have h := cell (i / 32) (by omega) (i % 32) (by omega)
        rw [cb_get _ _ (by rw [(hB (i / 32) (by omega)).2.1]; omega), show i / 32 * 32 + i % 32 = i by omega] at h
        have := block_lt_of_cell h
        simp only [Addr.add] at this
        split at this <;> exact this
      · obtain ⟨i, hi, hx⟩ := List.mem_flatMap.1 hx
        exact (hB i (List.mem_range.1 hi)).2.2 x hx
set_option maxRecDepth 100000 in
theorem proof_of_trod {H : Type} {enc : TypeId × Value → H} {W : World} {base : Nat} {v : Value} {d : DataW H} {p : List MemPlace} (hval : Value.okWide Tryd.prog W .any base 26 v)
    (h : DataW.Trod enc Tryd.prog W 0 (fun _ => true) true 26 v d p) :
    ∃ vs ds en ix va, v = .agg (prfV vs en ix va).toArray ∧ ReadsD W vs ds ∧ (ix.length = 32 ∧ va.length = 32 ∧ (Lit.int .i64 en).wf = true) ∧ ∀ q ∈ p, q.block < W.heap.size := by
  simp only [Value.okWide, Tryd.underlying26] at hval
  obtain ⟨cs, rfl, hcs, _⟩ := hval
  obtain ⟨fuel, hf⟩ := h
  have hp := DataW.trod_lt _ _ _ _ hf
  obtain ⟨y0, y1, y2, y3, n, hx, hl, h0, h1, h2, h3⟩ := Go.Joins.trod_struct4 Tryd.underlying26 hf
  simp only [Value.cells] at hl h0 h1 h2 h3
  rw [cells_proof] at hl
  rw [cells_digests] at h0
  rw [cells_int1] at h1
  rw [cells_digest] at h2 h3
  obtain ⟨l⟩ := cs
  simp only at hl h0 h1 h2 h3
  have d0 : l = l.take 1 ++ l.drop 1 := (List.take_append_drop 1 l).symm
  have d1 : l.drop 1 = (l.drop 1).take 1 ++ l.drop 2 := by
    have := (List.take_append_drop 1 (l.drop 1)).symm
    rwa [List.drop_drop] at this
  have d2 : l.drop 2 = (l.drop 2).take 32 ++ l.drop 34 := by
    have := (List.take_append_drop 32 (l.drop 2)).symm
    rwa [List.drop_drop] at this
  have d3 : l.drop 34 = (l.drop 34).take 32 := by rw [List.take_of_length_le (by rw [List.length_drop]; omega)]
  obtain ⟨m, e1, _, hw⟩ := DataW.trod_int Tryd.underlying3 h1
  obtain ⟨z2, q2⟩ := y2
  obtain ⟨z3, q3⟩ := y3
  obtain ⟨z0, q0⟩ := y0
  obtain ⟨ix, e2, lx, _⟩ := digest_of_cells h2
  obtain ⟨va, e3, ly, _⟩ := digest_of_cells h3
  rw [List.drop_zero] at h0
  obtain ⟨c0, e0⟩ : ∃ c, l.take 1 = [c] := by
    match l, hl with
    | c :: r, _ => exact ⟨c, rfl⟩
  rw [e0] at h0
  obtain ⟨ad, n0, cp, rfl⟩ : ∃ ad n cp, c0 = .slice ad n cp := by
    rcases Go.Deep.open_slice Tryd.underlying24 h0 with ⟨hcs', _⟩ | ⟨a, len', cap', m', n', D, Pl, hcs', _⟩
    · exact ⟨none, 0, 0, by simpa using hcs'⟩
    · exact ⟨some a, len', cap', by simpa using hcs'⟩
  obtain ⟨ds, hr, _, _⟩ := readsD_of_cells h0
  refine ⟨_, ds, m, ix, va, ?_, hr, ⟨lx, ly, hw⟩, hp⟩
  congr 1
  rw [d0, d1, d2, d3, e0, e1, e2, e3]
  rfl
end Go.Proofs.YtmmhdchhajmbfaaDoor

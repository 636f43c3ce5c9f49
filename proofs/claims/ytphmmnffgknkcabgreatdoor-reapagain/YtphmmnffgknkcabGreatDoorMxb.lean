import Derived.Test.YtphmmnffgknkcabGreatDoorMxa
import Derived.RangeFuncNested
import Derived.RangeFuncBound
import Derived.RangeFuncCalls
import Derived.RangeFuncLeaves
import Derived.Shelf.Abstract
import Derived.Shelf.RegionOpen
import Derived.WalkKit
import Derived.OwnWalkIn
import Derived.TacticsInMore
import Derived.LoopNIn
import Derived.LoopIn
import Derived.Scope
import Derived.Lib.BytesEntry
import Derived.Great.BuildSlice
import Derived.Maps.AppendAt
import Derived.Deep.DeepCutAuto
import Derived.RangeFuncFrom
namespace Go.Proofs.YtphmmnffgknkcabGreatDoor
open Go.RowKit
set_option maxRecDepth 100000
theorem isBit_any (i : Int) (w : World) : Calls Tryz.prog 82 #[.int .i64 i] w fun e w' => e = .returned (.bool (isB i)) ∧ w' = w := by
  go_enter Tryz.func82, Tryz.ntmps82
  go_wp2
  · rename_i h
    go_ret
    exact ⟨by simp [isB, h], rfl⟩
  · rename_i h
    go_ret
    exact ⟨by simp [isB]; omega, rfl⟩
theorem mask_nat : ∀ k : Fin 8, ((128#8 >>> k.val).toNat : Int) = 128 / 2 ^ k.val := by decide +kernel
theorem bitOf_any (n : Nat) (w : World) : Calls Tryz.prog 83 #[.int .i64 (n : Int)] w fun e w' => e = .returned (.int .u8 ((mask n).toNat : Int)) ∧ w' = w := by
  have e1 : Int.tmod (n : Int) 8 = ((n % 8 : Nat) : Int) := by rw [Int.tmod_eq_emod_of_nonneg (by omega)]; omega
  have e2 := mask_nat ⟨n % 8, by omega⟩
  simp only at e2
  go_enter Tryz.func83, Tryz.ntmps83
  go_wp2
  go_ret
  exact ⟨by rw [mask, e2]; rfl, rfl⟩
theorem ofInt_toNat8 (x : BitVec 8) : BitVec.ofInt 8 (x.toNat : Int) = x := by apply BitVec.eq_of_toNat_eq; simp
theorem wrap_lt8 (x : BitVec 8) : IntKind.u8.wrap (x.toNat : Int) = (x.toNat : Int) := by
  have := x.isLt
  simp [IntKind.wrap, IntKind.bits, IntKind.signed]; omega
theorem u8_and (x y : BitVec 8) : bits .and .u8 (x.toNat : Int) (y.toNat : Int) = ((x &&& y).toNat : Int) := by
  show IntKind.u8.wrap ((BitVec.ofInt 8 (x.toNat : Int) &&& BitVec.ofInt 8 (y.toNat : Int)).toNat : Int) = _
  rw [ofInt_toNat8, ofInt_toNat8, wrap_lt8]
theorem u8_or (x y : BitVec 8) : bits .or .u8 (x.toNat : Int) (y.toNat : Int) = ((x ||| y).toNat : Int) := by
  show IntKind.u8.wrap ((BitVec.ofInt 8 (x.toNat : Int) ||| BitVec.ofInt 8 (y.toNat : Int)).toNat : Int) = _
  rw [ofInt_toNat8, ofInt_toNat8, wrap_lt8]
theorem u8_andNot (x y : BitVec 8) : bits .andNot .u8 (x.toNat : Int) (y.toNat : Int) = ((x &&& ~~~y).toNat : Int) := by
  show IntKind.u8.wrap ((BitVec.ofInt 8 (x.toNat : Int) &&& ~~~(BitVec.ofInt 8 (y.toNat : Int))).toNat : Int) = _
  rw [ofInt_toNat8, ofInt_toNat8, wrap_lt8]
set_option maxHeartbeats 1000000 in
theorem pBit_any (x : List (BitVec 8)) (hx : x.length = 32) (i : Int) (w : World) : Calls Tryz.prog 56 #[.agg (cb x).toArray, .int .i64 i] w fun e w' => e = .returned (.bool (bitI x i)) ∧ Below w.heap.size w w' := by
  by_cases hb : isB i = true
  · obtain ⟨h0, h1⟩ := (isB_iff i).1 hb
    obtain ⟨n, rfl⟩ : ∃ n : Nat, i = (n : Int) := ⟨i.toNat, by omega⟩
    obtain ⟨k, hk⟩ : ∃ k, k = n / 8 := ⟨_, rfl⟩
    have e1 : Int.tdiv (n : Int) 8 = (k : Int) := by rw [Int.tdiv_eq_ediv_of_nonneg (by omega)]; omega
    have e2 : IntKind.i64.wrap (k : Int) = (k : Int) := by simp [IntKind.wrap, IntKind.bits, IntKind.signed]; omega
    have k0 : (0 : Int) ≤ (k : Int) := by omega
    have k1 : (k : Int) < 32 := by omega
    obtain ⟨b, hbb⟩ : ∃ b, b = x.getD k 0 := ⟨_, rfl⟩
    have hc : (w.alloc (.cells (cb x).toArray 40)).cell? ⟨w.heap.size, k, none⟩ = some (.int .u8 (b.toNat : Int)) := by
      rw [(Blk.new w (cb x) 40).cell, cb_get x k (by omega), hbb]
    have hand := u8_and b (mask n)
    have hz : Hid (((((b.toNat &&& (mask n).toNat : Nat) : Int)) != 0) = bt x n) := by
      have h := mask_and b ⟨n % 8, by omega⟩
      have hm : mask n = 128#8 >>> (n % 8) := rfl
      simp only [← hm] at h
      have e : bt x n = b.getMsbD (n % 8) := by rw [hbb, hk]; rfl
      show _ = _
      rw [e, ← BitVec.toNat_and]
      cases hg : b.getMsbD (n % 8)
      · rw [hg] at h
        have h2 := of_decide_eq_true (h.trans rfl)
        rw [h2]; rfl
      · rw [hg] at h
        have h2 := of_decide_eq_false (h.trans rfl)
        rw [bne_iff_ne]
        intro h3
        exact h2 (BitVec.eq_of_toNat_eq (by simpa using h3))
    clear h0 h1 hk hbb
    have HB : Hid (isB (n : Int) = true) := hb
    clear hb
    go_enter Tryz.func56, Tryz.ntmps56
    go_wp2_with fail
    go_region_held3 (fun wx => wx.cell? ⟨w.heap.size, k, none⟩ = some (.int .u8 (b.toNat : Int))) (go_keep)
      (first | (go_at_call 82; refine (isBit_any _ _).mono ?_; rintro e w' ⟨rfl, rfl⟩; rw [HB.out]) | (go_at_call 83; refine (bitOf_any _ _).mono ?_; rintro e w' ⟨rfl, rfl⟩))
    go_wp2
    go_ret
    refine ⟨?_, ?_⟩
    · rw [bitI, HB.out, Bool.true_and, Int.toNat_natCast, ← hz.out]; rfl
    · exact (below_alloc w _).drew
  · have hb' : isB i = false := by simpa using hb
    clear hb
    have HB : Hid (isB i = false) := hb'
    clear hb'
    go_enter Tryz.func56, Tryz.ntmps56
    go_wp2_with fail
    refine wp_region_any (by kernel_rfl) ?_
    change wpAny _ _ _ _ _ _ _ (World.drew _)
    refine wpAny_take (i := 0) (v := .int .i64 i) rfl (by kernel_rfl) (by kernel_rfl) (by kernel_rfl) (fun _ _ _ h => h) (Or.inl ⟨by rfl, fun wx => by simp [go_sem]⟩) ?_
    simp only [Act.put, List.getElem_toArray, List.getElem_cons_zero, List.setIfInBounds_toArray, List.set_cons_zero, List.set_cons_succ]
    refine wpAny_enter 1 (by kernel_rfl) rfl (by rfl) (f := 82) (args := #[.int .i64 i]) (by simp [go_sem]) (isBit_any _ _) ?_
    rintro e w1 ⟨rfl, rfl⟩
    refine ⟨_, rfl, ?_⟩
    rw [HB.out]
    simp only [Act.put, List.getElem_toArray, List.getElem_cons_succ, List.getElem_cons_zero, List.setIfInBounds_toArray, List.set_cons_zero, List.set_cons_succ]
    refine wpAny_take (i := 2) (v := .bool false) rfl (by kernel_rfl) (by kernel_rfl) (by kernel_rfl) (fun _ _ _ h => h) (Or.inl ⟨by rfl, fun wx => by simp [go_sem]⟩) ?_
    simp only [Act.put, List.getElem_toArray, List.getElem_cons_succ, List.getElem_cons_zero, List.setIfInBounds_toArray, List.set_cons_zero, List.set_cons_succ]
    refine wpAny_take (i := 3) (v := undef) rfl (by kernel_rfl) (by kernel_rfl) (by kernel_rfl) (fun _ _ _ h => h) (Or.inr ⟨by rfl, rfl⟩) ?_
    simp only [Act.put, List.getElem_toArray, List.getElem_cons_succ, List.getElem_cons_zero, List.setIfInBounds_toArray, List.set_cons_zero, List.set_cons_succ]
    refine wpAny_take (i := 4) (v := undef) rfl (by kernel_rfl) (by kernel_rfl) (by kernel_rfl) (fun _ _ _ h => h) (Or.inr ⟨by rfl, rfl⟩) ?_
    simp only [Act.put, List.getElem_toArray, List.getElem_cons_succ, List.getElem_cons_zero, List.setIfInBounds_toArray, List.set_cons_zero, List.set_cons_succ]
    refine wpAny_take (i := 5) (v := undef) rfl (by kernel_rfl) (by kernel_rfl) (by kernel_rfl) (fun _ _ _ h => h) (Or.inr ⟨by rfl, rfl⟩) ?_
    simp only [Act.put, List.getElem_toArray, List.getElem_cons_succ, List.getElem_cons_zero, List.setIfInBounds_toArray, List.set_cons_zero, List.set_cons_succ]
    refine wpAny_take (i := 6) (v := undef) rfl (by kernel_rfl) (by kernel_rfl) (by kernel_rfl) (fun _ _ _ h => h) (Or.inr ⟨by rfl, rfl⟩) ?_
    simp only [Act.put, List.getElem_toArray, List.getElem_cons_succ, List.getElem_cons_zero, List.setIfInBounds_toArray, List.set_cons_zero, List.set_cons_succ]
    refine wpAny_take (i := 7) (v := undef) rfl (by kernel_rfl) (by kernel_rfl) (by kernel_rfl) (fun _ _ _ h => h) (Or.inr ⟨by rfl, rfl⟩) ?_
    simp only [Act.put, List.getElem_toArray, List.getElem_cons_succ, List.getElem_cons_zero, List.setIfInBounds_toArray, List.set_cons_zero, List.set_cons_succ]
    refine wpAny_take (i := 8) (v := undef) rfl (by kernel_rfl) (by kernel_rfl) (by kernel_rfl) (fun _ _ _ h => h) (Or.inr ⟨by rfl, rfl⟩) ?_
    simp only [Act.put, List.getElem_toArray, List.getElem_cons_succ, List.getElem_cons_zero, List.setIfInBounds_toArray, List.set_cons_zero, List.set_cons_succ]
    refine wpAny_take (i := 9) (v := undef) rfl (by kernel_rfl) (by kernel_rfl) (by kernel_rfl) (fun _ _ _ h => h) (Or.inr ⟨by rfl, rfl⟩) ?_
    simp only [Act.put, List.getElem_toArray, List.getElem_cons_succ, List.getElem_cons_zero, List.setIfInBounds_toArray, List.set_cons_zero, List.set_cons_succ]
    refine wpAny_take (i := 10) (v := undef) rfl (by kernel_rfl) (by kernel_rfl) (by kernel_rfl) (fun _ _ _ h => h) (Or.inr ⟨by rfl, rfl⟩) ?_
    simp only [Act.put, List.getElem_toArray, List.getElem_cons_succ, List.getElem_cons_zero, List.setIfInBounds_toArray, List.set_cons_zero, List.set_cons_succ]
    refine wpAny_take (i := 11) (v := .bool false) rfl (by kernel_rfl) (by kernel_rfl) (by kernel_rfl) (fun _ _ _ h => h) (Or.inl ⟨by rfl, fun wx => by simp [go_sem]⟩) ?_
    simp only [Act.put, List.getElem_toArray, List.getElem_cons_succ, List.getElem_cons_zero, List.setIfInBounds_toArray, List.set_cons_zero, List.set_cons_succ]
    refine wpAny_take (i := 12) (v := .bool false) rfl (by kernel_rfl) (by kernel_rfl) (by kernel_rfl) (fun _ _ _ h => h) (Or.inl ⟨by rfl, fun wx => by simp [go_sem]⟩) ?_
    simp only [Act.put, List.getElem_toArray, List.getElem_cons_succ, List.getElem_cons_zero, List.setIfInBounds_toArray, List.set_cons_zero, List.set_cons_succ]
    refine wpAny_done (by kernel_rfl) ?_ _
    go_wp2
    go_ret
    exact ⟨by rw [bitI, HB.out]; rfl, (below_alloc w _).drew⟩
theorem binOr (f : Operand → Value) (o : Oper) (x y : Operand) (ho : o.op = .binOp .or 5 x y 5) (a b : BitVec 8) (hx : f x = .int .u8 (a.toNat : Int)) (hy : f y = .int .u8 (b.toNat : Int)) (w : World) : (execOp f o).run Tryz.prog w = .ok (.value (.int .u8 ((a ||| b).toNat : Int))) w := by
  unfold execOp
  rw [ho]
  simp only [hx, hy]
  have h := u8_or a b
  simp [go_sem, h]
theorem binAndNot (f : Operand → Value) (o : Oper) (x y : Operand) (ho : o.op = .binOp .andNot 5 x y 5) (a b : BitVec 8) (hx : f x = .int .u8 (a.toNat : Int)) (hy : f y = .int .u8 (b.toNat : Int)) (w : World) : (execOp f o).run Tryz.prog w = .ok (.value (.int .u8 ((a &&& ~~~b).toNat : Int))) w := by
  unfold execOp
  rw [ho]
  simp only [hx, hy]
  have h := u8_andNot a b
  simp [go_sem, h]
set_option maxHeartbeats 1000000 in
theorem pSet_any (x : List (BitVec 8)) (hx : x.length = 32) (i : Int) (on : Bool) (w : World) : Calls Tryz.prog 80 #[.agg (cb x).toArray, .int .i64 i, .bool on] w fun e w' => e = .returned (.agg (cb (setI x i on)).toArray) ∧ Below w.heap.size w w' := by
  by_cases hb : isB i = true
  · obtain ⟨h0, h1⟩ := (isB_iff i).1 hb
    obtain ⟨n, rfl⟩ : ∃ n : Nat, i = (n : Int) := ⟨i.toNat, by omega⟩
    obtain ⟨k, hk⟩ : ∃ k, k = n / 8 := ⟨_, rfl⟩
    have e1 : Int.tdiv (n : Int) 8 = (k : Int) := by rw [Int.tdiv_eq_ediv_of_nonneg (by omega)]; omega
    have e2 : IntKind.i64.wrap (k : Int) = (k : Int) := by simp [IntKind.wrap, IntKind.bits, IntKind.signed]; omega
    have HK32 : Hid (k < 32) := by show _ < _; omega
    have HKX : Hid (k < x.length) := by show _ < _; omega
    obtain ⟨b, hbb⟩ : ∃ b, b = x.getD k 0 := ⟨_, rfl⟩
    clear h0 h1
    have HB : Hid (isB (n : Int) = true) := hb
    clear hb
    have HK : Hid (k = n / 8) := hk
    clear hk
    have HBB : Hid (b = x.getD k 0) := hbb
    clear hbb
    have HX : Hid (x.length = 32) := hx
    clear hx
    cases on
    · have HF : Hid (setI x (n : Int) false = x.set k (b &&& ~~~(mask n))) := by
        show _ = _
        rw [setI, if_pos HB.out, Int.toNat_natCast, setN, ← HK.out, ← HBB.out]; rfl
      go_enter Tryz.func80, Tryz.ntmps80
      go_wp2_with (first
        | (with_reducible refine wpSeq_boxD (.tmp 0) x ?_ ?_ ?_ ?_
           · rfl
           · rfl
           · rfl
           intro g0 w1 n1)
        | (with_reducible refine wpSeq_allocD ?_ ?_ ?_
           · rfl
           · rfl
           intro g1 w2 n2
           have H0 : Hid (Blk w2 g0 (cb x) 40) := n1.blk.below n2.below n1.blk.lt
           have H1 : Hid (Blk w2 g1 (cb zb32) 40) := n2.blk
           have HG : Hid (w.heap.size ≤ g0 ∧ g0 < g1 ∧ w.heap.size ≤ w2.heap.size) := ⟨n1.ge, Nat.lt_of_lt_of_le n1.blk.lt n2.ge, Nat.le_trans n1.below.size n2.below.size⟩
           have HBW : Hid (Below w.heap.size w w2) := n1.below.trans (n2.below.mono n1.below.size)
           clear n1 n2)
        | (go_at_call 82; refine (isBit_any _ _).mono ?_; rintro e wz ⟨rfl, hz⟩; rw [hz, HB.out]; clear hz wz))
      have hcell : w2.drew.cell? ⟨g0, k, none⟩ = some (.int .u8 (b.toNat : Int)) := by rw [H0.out.drew.cell, cb_get x k HKX.out, HBB.out]
      refine wp_region_any (by kernel_rfl) ?_
      change wpAny _ _ _ _ _ _ _ (World.drew _)
      refine wpAny_take (i := 0) (v := .int .i64 (n : Int)) rfl (by kernel_rfl) (by kernel_rfl) (by kernel_rfl) (fun _ _ _ h => h) (Or.inl ⟨by rfl, fun wx => by simp [go_sem]⟩) ?_
      simp only [Act.put, List.getElem_toArray, List.getElem_cons_zero, List.setIfInBounds_toArray, List.set_cons_zero, List.set_cons_succ]
      refine wpAny_take (i := 1) (v := .int .i64 (k : Int)) rfl (by kernel_rfl) (by kernel_rfl) (by kernel_rfl) (fun _ _ _ h => h) (Or.inl ⟨by rfl, fun wx => by simp [go_sem, e1, e2]⟩) ?_
      simp only [Act.put, List.getElem_toArray, List.getElem_cons_succ, List.getElem_cons_zero, List.setIfInBounds_toArray, List.set_cons_zero, List.set_cons_succ]
      refine wpAny_take (i := 2) (v := .pointer (some ⟨g0, k, none⟩)) rfl (by kernel_rfl) (by kernel_rfl) (by kernel_rfl) (fun _ _ _ h => h) (Or.inl ⟨by rfl, fun wx => by exact indexDig k g0 HK32.out _ _ _ _ rfl rfl rfl wx⟩) ?_
      simp only [Act.put, List.getElem_toArray, List.getElem_cons_succ, List.getElem_cons_zero, List.setIfInBounds_toArray, List.set_cons_zero, List.set_cons_succ]
      refine wpAny_take (i := 4) (v := .int .i64 (n : Int)) rfl (by kernel_rfl) (by kernel_rfl) (by kernel_rfl) (fun _ _ _ h => h) (Or.inl ⟨by rfl, fun wx => by simp [go_sem]⟩) ?_
      simp only [Act.put, List.getElem_toArray, List.getElem_cons_succ, List.getElem_cons_zero, List.setIfInBounds_toArray, List.set_cons_zero, List.set_cons_succ]
      refine wpAny_pair 3 5 (by kernel_rfl) (wpOp_vl 3 (.int .u8 (b.toNat : Int)) w2.drew rfl (by rfl) (by simp [go_sem, hcell]) ?_) (wpOp_en 5 rfl (by rfl) (f := 83) (args := #[.int .i64 (n : Int)]) (by simp [go_sem]) (bitOf_any _ _) ?_)
      · skip
        simp only [Act.put, List.getElem_toArray, List.getElem_cons_succ, List.getElem_cons_zero, List.setIfInBounds_toArray, List.set_cons_zero, List.set_cons_succ]
        refine wpAny_enter 5 (by kernel_rfl) rfl (by rfl) (f := 83) (args := #[.int .i64 (n : Int)]) (by simp [go_sem]) (bitOf_any _ _) ?_
        rintro e wz ⟨rfl, hz⟩
        rw [hz]; clear hz wz
        refine ⟨_, rfl, ?_⟩
        simp only [Act.put, List.getElem_toArray, List.getElem_cons_succ, List.getElem_cons_zero, List.setIfInBounds_toArray, List.set_cons_zero, List.set_cons_succ]
        refine wpAny_take (i := 6) (v := .int .u8 ((b &&& ~~~(mask n)).toNat : Int)) rfl (by kernel_rfl) (by kernel_rfl) (by kernel_rfl) (fun _ _ _ h => h) (Or.inl ⟨by rfl, fun wx => by exact binAndNot _ _ _ _ rfl b (mask n) rfl rfl wx⟩) ?_
        simp only [Act.put, List.getElem_toArray, List.getElem_cons_succ, List.getElem_cons_zero, List.setIfInBounds_toArray, List.set_cons_zero, List.set_cons_succ]
        refine wpAny_take (i := 7) (v := .pointer (some ⟨g0, k, none⟩)) rfl (by kernel_rfl) (by kernel_rfl) (by kernel_rfl) (fun _ _ _ h => h) (Or.inl ⟨by rfl, fun wx => by exact indexDig k g0 HK32.out _ _ _ _ rfl rfl rfl wx⟩) ?_
        simp only [Act.put, List.getElem_toArray, List.getElem_cons_succ, List.getElem_cons_zero, List.setIfInBounds_toArray, List.set_cons_zero, List.set_cons_succ]
        refine wpAny_storeB 8 _ _ g0 k x (b &&& ~~~(mask n)) (by kernel_rfl) rfl (by rfl) rfl rfl rfl HKX.out H0.out.drew ?_
        intro w3 h3
        simp only [Act.put, List.getElem_toArray, List.getElem_cons_succ, List.getElem_cons_zero]
        refine wpAny_done (by kernel_rfl) ?_ _
        have HL : Hid ((x.set k (b &&& ~~~(mask n))).length = 32) := by show _ = _; rw [List.length_set]; exact HX.out
        have HG1 : Hid (Blk w3 g1 (cb zb32) 40) := H1.out.drew.only h3.only (by have := HG.out; omega)
        have HB3 : Hid (Below w.heap.size w w3) := HBW.out.drew.trans (h3.only.below HG.out.1 HG.out.2.2)
        have HS3 : Hid (w.heap.size ≤ w3.heap.size) := Nat.le_trans HG.out.2.2 h3.only.size
        have H3 : Hid (Blk w3 g0 (cb (x.set k (b &&& ~~~(mask n)))) 40) := h3.blk
        clear h3
        obtain ⟨y, HY⟩ : ∃ y, Hid (y = x.set k (b &&& ~~~(mask n))) := ⟨_, rfl⟩
        rw [← HY.out] at HL H3
        go_wp2_with (first
          | (with_reducible refine wpSeq_loadD (.tmp 3) g0 y ?_ ?_ ?_ ?_ ?_ ?_
             · exact HL.out
             · exact H3.out
             · rfl
             · rfl
             · rfl)
          | (with_reducible refine wpSeq_storeD (.tmp 6) (.tmp 28) g1 zb32 y ?_ ?_ ?_ ?_ ?_ ?_ ?_ ?_
             · rfl
             · exact HL.out
             · exact HG1.out
             · rfl
             · rfl
             · rfl
             · rfl
             intro w4 h4))
        exact bodyPost_ret (v := .agg (cb y).toArray) (results_cell_row (by rfl) _ _ g1 40 _ (0, 0) _ rfl h4.blk Tryz.underlying40 rfl (by rw [List.size_toArray, cb_len, HL.out]; exact info_digest)) rfl ⟨by rw [HF.out, HY.out], HB3.out.trans (h4.only.below (by have := HG.out; omega) HS3.out)⟩
      · skip
        rintro e wz ⟨rfl, hz⟩
        rw [hz]; clear hz wz
        refine ⟨_, rfl, ?_⟩
        simp only [Act.put, List.getElem_toArray, List.getElem_cons_succ, List.getElem_cons_zero, List.setIfInBounds_toArray, List.set_cons_zero, List.set_cons_succ]
        refine wpAny_step 3 (.int .u8 (b.toNat : Int)) w2.drew (by kernel_rfl) rfl (by rfl) (by simp [go_sem, hcell]) ?_
        simp only [Act.put, List.getElem_toArray, List.getElem_cons_succ, List.getElem_cons_zero, List.setIfInBounds_toArray, List.set_cons_zero, List.set_cons_succ]
        refine wpAny_take (i := 6) (v := .int .u8 ((b &&& ~~~(mask n)).toNat : Int)) rfl (by kernel_rfl) (by kernel_rfl) (by kernel_rfl) (fun _ _ _ h => h) (Or.inl ⟨by rfl, fun wx => by exact binAndNot _ _ _ _ rfl b (mask n) rfl rfl wx⟩) ?_
        simp only [Act.put, List.getElem_toArray, List.getElem_cons_succ, List.getElem_cons_zero, List.setIfInBounds_toArray, List.set_cons_zero, List.set_cons_succ]
        refine wpAny_take (i := 7) (v := .pointer (some ⟨g0, k, none⟩)) rfl (by kernel_rfl) (by kernel_rfl) (by kernel_rfl) (fun _ _ _ h => h) (Or.inl ⟨by rfl, fun wx => by exact indexDig k g0 HK32.out _ _ _ _ rfl rfl rfl wx⟩) ?_
        simp only [Act.put, List.getElem_toArray, List.getElem_cons_succ, List.getElem_cons_zero, List.setIfInBounds_toArray, List.set_cons_zero, List.set_cons_succ]
        refine wpAny_storeB 8 _ _ g0 k x (b &&& ~~~(mask n)) (by kernel_rfl) rfl (by rfl) rfl rfl rfl HKX.out H0.out.drew ?_
        intro w3 h3
        simp only [Act.put, List.getElem_toArray, List.getElem_cons_succ, List.getElem_cons_zero]
        refine wpAny_done (by kernel_rfl) ?_ _
        have HL : Hid ((x.set k (b &&& ~~~(mask n))).length = 32) := by show _ = _; rw [List.length_set]; exact HX.out
        have HG1 : Hid (Blk w3 g1 (cb zb32) 40) := H1.out.drew.only h3.only (by have := HG.out; omega)
        have HB3 : Hid (Below w.heap.size w w3) := HBW.out.drew.trans (h3.only.below HG.out.1 HG.out.2.2)
        have HS3 : Hid (w.heap.size ≤ w3.heap.size) := Nat.le_trans HG.out.2.2 h3.only.size
        have H3 : Hid (Blk w3 g0 (cb (x.set k (b &&& ~~~(mask n)))) 40) := h3.blk
        clear h3
        obtain ⟨y, HY⟩ : ∃ y, Hid (y = x.set k (b &&& ~~~(mask n))) := ⟨_, rfl⟩
        rw [← HY.out] at HL H3
        go_wp2_with (first
          | (with_reducible refine wpSeq_loadD (.tmp 3) g0 y ?_ ?_ ?_ ?_ ?_ ?_
             · exact HL.out
             · exact H3.out
             · rfl
             · rfl
             · rfl)
          | (with_reducible refine wpSeq_storeD (.tmp 6) (.tmp 28) g1 zb32 y ?_ ?_ ?_ ?_ ?_ ?_ ?_ ?_
             · rfl
             · exact HL.out
             · exact HG1.out
             · rfl
             · rfl
             · rfl
             · rfl
             intro w4 h4))
        exact bodyPost_ret (v := .agg (cb y).toArray) (results_cell_row (by rfl) _ _ g1 40 _ (0, 0) _ rfl h4.blk Tryz.underlying40 rfl (by rw [List.size_toArray, cb_len, HL.out]; exact info_digest)) rfl ⟨by rw [HF.out, HY.out], HB3.out.trans (h4.only.below (by have := HG.out; omega) HS3.out)⟩
    · have HF : Hid (setI x (n : Int) true = x.set k (b ||| mask n)) := by
        show _ = _
        rw [setI, if_pos HB.out, Int.toNat_natCast, setN, ← HK.out, ← HBB.out]; rfl
      go_enter Tryz.func80, Tryz.ntmps80
      go_wp2_with (first
        | (with_reducible refine wpSeq_boxD (.tmp 0) x ?_ ?_ ?_ ?_
           · rfl
           · rfl
           · rfl
           intro g0 w1 n1)
        | (with_reducible refine wpSeq_allocD ?_ ?_ ?_
           · rfl
           · rfl
           intro g1 w2 n2
           have H0 : Hid (Blk w2 g0 (cb x) 40) := n1.blk.below n2.below n1.blk.lt
           have H1 : Hid (Blk w2 g1 (cb zb32) 40) := n2.blk
           have HG : Hid (w.heap.size ≤ g0 ∧ g0 < g1 ∧ w.heap.size ≤ w2.heap.size) := ⟨n1.ge, Nat.lt_of_lt_of_le n1.blk.lt n2.ge, Nat.le_trans n1.below.size n2.below.size⟩
           have HBW : Hid (Below w.heap.size w w2) := n1.below.trans (n2.below.mono n1.below.size)
           clear n1 n2)
        | (go_at_call 82; refine (isBit_any _ _).mono ?_; rintro e wz ⟨rfl, hz⟩; rw [hz, HB.out]; clear hz wz))
      have hcell : w2.drew.cell? ⟨g0, k, none⟩ = some (.int .u8 (b.toNat : Int)) := by rw [H0.out.drew.cell, cb_get x k HKX.out, HBB.out]
      refine wp_region_any (by kernel_rfl) ?_
      change wpAny _ _ _ _ _ _ _ (World.drew _)
      refine wpAny_take (i := 0) (v := .int .i64 (n : Int)) rfl (by kernel_rfl) (by kernel_rfl) (by kernel_rfl) (fun _ _ _ h => h) (Or.inl ⟨by rfl, fun wx => by simp [go_sem]⟩) ?_
      simp only [Act.put, List.getElem_toArray, List.getElem_cons_zero, List.setIfInBounds_toArray, List.set_cons_zero, List.set_cons_succ]
      refine wpAny_take (i := 1) (v := .int .i64 (k : Int)) rfl (by kernel_rfl) (by kernel_rfl) (by kernel_rfl) (fun _ _ _ h => h) (Or.inl ⟨by rfl, fun wx => by simp [go_sem, e1, e2]⟩) ?_
      simp only [Act.put, List.getElem_toArray, List.getElem_cons_succ, List.getElem_cons_zero, List.setIfInBounds_toArray, List.set_cons_zero, List.set_cons_succ]
      refine wpAny_take (i := 2) (v := .pointer (some ⟨g0, k, none⟩)) rfl (by kernel_rfl) (by kernel_rfl) (by kernel_rfl) (fun _ _ _ h => h) (Or.inl ⟨by rfl, fun wx => by exact indexDig k g0 HK32.out _ _ _ _ rfl rfl rfl wx⟩) ?_
      simp only [Act.put, List.getElem_toArray, List.getElem_cons_succ, List.getElem_cons_zero, List.setIfInBounds_toArray, List.set_cons_zero, List.set_cons_succ]
      refine wpAny_take (i := 4) (v := .int .i64 (n : Int)) rfl (by kernel_rfl) (by kernel_rfl) (by kernel_rfl) (fun _ _ _ h => h) (Or.inl ⟨by rfl, fun wx => by simp [go_sem]⟩) ?_
      simp only [Act.put, List.getElem_toArray, List.getElem_cons_succ, List.getElem_cons_zero, List.setIfInBounds_toArray, List.set_cons_zero, List.set_cons_succ]
      refine wpAny_pair 3 5 (by kernel_rfl) (wpOp_vl 3 (.int .u8 (b.toNat : Int)) w2.drew rfl (by rfl) (by simp [go_sem, hcell]) ?_) (wpOp_en 5 rfl (by rfl) (f := 83) (args := #[.int .i64 (n : Int)]) (by simp [go_sem]) (bitOf_any _ _) ?_)
      · skip
        simp only [Act.put, List.getElem_toArray, List.getElem_cons_succ, List.getElem_cons_zero, List.setIfInBounds_toArray, List.set_cons_zero, List.set_cons_succ]
        refine wpAny_enter 5 (by kernel_rfl) rfl (by rfl) (f := 83) (args := #[.int .i64 (n : Int)]) (by simp [go_sem]) (bitOf_any _ _) ?_
        rintro e wz ⟨rfl, hz⟩
        rw [hz]; clear hz wz
        refine ⟨_, rfl, ?_⟩
        simp only [Act.put, List.getElem_toArray, List.getElem_cons_succ, List.getElem_cons_zero, List.setIfInBounds_toArray, List.set_cons_zero, List.set_cons_succ]
        refine wpAny_take (i := 6) (v := .int .u8 ((b ||| mask n).toNat : Int)) rfl (by kernel_rfl) (by kernel_rfl) (by kernel_rfl) (fun _ _ _ h => h) (Or.inl ⟨by rfl, fun wx => by exact binOr _ _ _ _ rfl b (mask n) rfl rfl wx⟩) ?_
        simp only [Act.put, List.getElem_toArray, List.getElem_cons_succ, List.getElem_cons_zero, List.setIfInBounds_toArray, List.set_cons_zero, List.set_cons_succ]
        refine wpAny_take (i := 7) (v := .pointer (some ⟨g0, k, none⟩)) rfl (by kernel_rfl) (by kernel_rfl) (by kernel_rfl) (fun _ _ _ h => h) (Or.inl ⟨by rfl, fun wx => by exact indexDig k g0 HK32.out _ _ _ _ rfl rfl rfl wx⟩) ?_
        simp only [Act.put, List.getElem_toArray, List.getElem_cons_succ, List.getElem_cons_zero, List.setIfInBounds_toArray, List.set_cons_zero, List.set_cons_succ]
        refine wpAny_storeB 8 _ _ g0 k x (b ||| mask n) (by kernel_rfl) rfl (by rfl) rfl rfl rfl HKX.out H0.out.drew ?_
        intro w3 h3
        simp only [Act.put, List.getElem_toArray, List.getElem_cons_succ, List.getElem_cons_zero]
        refine wpAny_done (by kernel_rfl) ?_ _
        have HL : Hid ((x.set k (b ||| mask n)).length = 32) := by show _ = _; rw [List.length_set]; exact HX.out
        have HG1 : Hid (Blk w3 g1 (cb zb32) 40) := H1.out.drew.only h3.only (by have := HG.out; omega)
        have HB3 : Hid (Below w.heap.size w w3) := HBW.out.drew.trans (h3.only.below HG.out.1 HG.out.2.2)
        have HS3 : Hid (w.heap.size ≤ w3.heap.size) := Nat.le_trans HG.out.2.2 h3.only.size
        have H3 : Hid (Blk w3 g0 (cb (x.set k (b ||| mask n))) 40) := h3.blk
        clear h3
        obtain ⟨y, HY⟩ : ∃ y, Hid (y = x.set k (b ||| mask n)) := ⟨_, rfl⟩
        rw [← HY.out] at HL H3
        go_wp2_with (first
          | (with_reducible refine wpSeq_loadD (.tmp 3) g0 y ?_ ?_ ?_ ?_ ?_ ?_
             · exact HL.out
             · exact H3.out
             · rfl
             · rfl
             · rfl)
          | (with_reducible refine wpSeq_storeD (.tmp 6) (.tmp 28) g1 zb32 y ?_ ?_ ?_ ?_ ?_ ?_ ?_ ?_
             · rfl
             · exact HL.out
             · exact HG1.out
             · rfl
             · rfl
             · rfl
             · rfl
             intro w4 h4))
        exact bodyPost_ret (v := .agg (cb y).toArray) (results_cell_row (by rfl) _ _ g1 40 _ (0, 0) _ rfl h4.blk Tryz.underlying40 rfl (by rw [List.size_toArray, cb_len, HL.out]; exact info_digest)) rfl ⟨by rw [HF.out, HY.out], HB3.out.trans (h4.only.below (by have := HG.out; omega) HS3.out)⟩
      · skip
        rintro e wz ⟨rfl, hz⟩
        rw [hz]; clear hz wz
        refine ⟨_, rfl, ?_⟩
        simp only [Act.put, List.getElem_toArray, List.getElem_cons_succ, List.getElem_cons_zero, List.setIfInBounds_toArray, List.set_cons_zero, List.set_cons_succ]
        refine wpAny_step 3 (.int .u8 (b.toNat : Int)) w2.drew (by kernel_rfl) rfl (by rfl) (by simp [go_sem, hcell]) ?_
        simp only [Act.put, List.getElem_toArray, List.getElem_cons_succ, List.getElem_cons_zero, List.setIfInBounds_toArray, List.set_cons_zero, List.set_cons_succ]
        refine wpAny_take (i := 6) (v := .int .u8 ((b ||| mask n).toNat : Int)) rfl (by kernel_rfl) (by kernel_rfl) (by kernel_rfl) (fun _ _ _ h => h) (Or.inl ⟨by rfl, fun wx => by exact binOr _ _ _ _ rfl b (mask n) rfl rfl wx⟩) ?_
        simp only [Act.put, List.getElem_toArray, List.getElem_cons_succ, List.getElem_cons_zero, List.setIfInBounds_toArray, List.set_cons_zero, List.set_cons_succ]
        refine wpAny_take (i := 7) (v := .pointer (some ⟨g0, k, none⟩)) rfl (by kernel_rfl) (by kernel_rfl) (by kernel_rfl) (fun _ _ _ h => h) (Or.inl ⟨by rfl, fun wx => by exact indexDig k g0 HK32.out _ _ _ _ rfl rfl rfl wx⟩) ?_
        simp only [Act.put, List.getElem_toArray, List.getElem_cons_succ, List.getElem_cons_zero, List.setIfInBounds_toArray, List.set_cons_zero, List.set_cons_succ]
        refine wpAny_storeB 8 _ _ g0 k x (b ||| mask n) (by kernel_rfl) rfl (by rfl) rfl rfl rfl HKX.out H0.out.drew ?_
        intro w3 h3
        simp only [Act.put, List.getElem_toArray, List.getElem_cons_succ, List.getElem_cons_zero]
        refine wpAny_done (by kernel_rfl) ?_ _
        have HL : Hid ((x.set k (b ||| mask n)).length = 32) := by show _ = _; rw [List.length_set]; exact HX.out
        have HG1 : Hid (Blk w3 g1 (cb zb32) 40) := H1.out.drew.only h3.only (by have := HG.out; omega)
        have HB3 : Hid (Below w.heap.size w w3) := HBW.out.drew.trans (h3.only.below HG.out.1 HG.out.2.2)
        have HS3 : Hid (w.heap.size ≤ w3.heap.size) := Nat.le_trans HG.out.2.2 h3.only.size
        have H3 : Hid (Blk w3 g0 (cb (x.set k (b ||| mask n))) 40) := h3.blk
        clear h3
        obtain ⟨y, HY⟩ : ∃ y, Hid (y = x.set k (b ||| mask n)) := ⟨_, rfl⟩
        rw [← HY.out] at HL H3
        go_wp2_with (first
          | (with_reducible refine wpSeq_loadD (.tmp 3) g0 y ?_ ?_ ?_ ?_ ?_ ?_
             · exact HL.out
             · exact H3.out
             · rfl
             · rfl
             · rfl)
          | (with_reducible refine wpSeq_storeD (.tmp 6) (.tmp 28) g1 zb32 y ?_ ?_ ?_ ?_ ?_ ?_ ?_ ?_
             · rfl
             · exact HL.out
             · exact HG1.out
             · rfl
             · rfl
             · rfl
             · rfl
             intro w4 h4))
        exact bodyPost_ret (v := .agg (cb y).toArray) (results_cell_row (by rfl) _ _ g1 40 _ (0, 0) _ rfl h4.blk Tryz.underlying40 rfl (by rw [List.size_toArray, cb_len, HL.out]; exact info_digest)) rfl ⟨by rw [HF.out, HY.out], HB3.out.trans (h4.only.below (by have := HG.out; omega) HS3.out)⟩
  · have hb' : isB i = false := by simpa using hb
    have HB : Hid (isB i = false) := hb'
    have HF : Hid (setI x i on = x) := by show _ = _; rw [setI, if_neg (by rw [hb']; simp)]
    clear hb hb'
    have HL : Hid (x.length = 32) := hx
    clear hx
    go_enter Tryz.func80, Tryz.ntmps80
    go_wp2_with (first
      | (with_reducible refine wpSeq_boxD (.tmp 0) x ?_ ?_ ?_ ?_
         · rfl
         · rfl
         · rfl
         intro g0 w1 n1)
      | (with_reducible refine wpSeq_allocD ?_ ?_ ?_
         · rfl
         · rfl
         intro g1 w2 n2
         have H0 : Hid (Blk w2 g0 (cb x) 40) := n1.blk.below n2.below n1.blk.lt
         have H1 : Hid (Blk w2 g1 (cb zb32) 40) := n2.blk
         have HG : Hid (w.heap.size ≤ g0 ∧ g0 < g1 ∧ w.heap.size ≤ w2.heap.size) := ⟨n1.ge, Nat.lt_of_lt_of_le n1.blk.lt n2.ge, Nat.le_trans n1.below.size n2.below.size⟩
         have HBW : Hid (Below w.heap.size w w2) := n1.below.trans (n2.below.mono n1.below.size)
         clear n1 n2)
      | (go_at_call 82; refine (isBit_any _ _).mono ?_; rintro e wz ⟨rfl, hz⟩; rw [hz, HB.out]; clear hz wz)
      | (with_reducible refine wpSeq_loadD (.tmp 3) g0 x ?_ ?_ ?_ ?_ ?_ ?_
         · exact HL.out
         · exact H0.out
         · rfl
         · rfl
         · rfl)
      | (with_reducible refine wpSeq_storeD (.tmp 6) (.tmp 10) g1 zb32 x ?_ ?_ ?_ ?_ ?_ ?_ ?_ ?_
         · rfl
         · exact HL.out
         · exact H1.out
         · rfl
         · rfl
         · rfl
         · rfl
         intro w4 h4))
    exact bodyPost_ret (v := .agg (cb x).toArray) (results_cell_row (by rfl) _ _ g1 40 _ (0, 0) _ rfl h4.blk Tryz.underlying40 rfl (by rw [List.size_toArray, cb_len, HL.out]; exact info_digest)) rfl ⟨by rw [HF.out], HBW.out.trans (h4.only.below (by have := HG.out; omega) HG.out.2.2)⟩
end Go.Proofs.YtphmmnffgknkcabGreatDoor
namespace Go.Proofs.YtphmmnffgknkcabGreatDoor
open Go.RowKit
set_option maxRecDepth 100000
theorem wrap_small (k : Int) (h0 : 0 ≤ k) (h1 : k < 1000000) : IntKind.i64.wrap k = k := by simp [IntKind.wrap, IntKind.bits, IntKind.signed]; omega
theorem notB {i : Int} (h : isB i = false) : (i < 0) ∨ (0 ≤ i ∧ 255 < i) := by
  have h2 : ¬ (0 ≤ i ∧ i < 256) := fun hh => by rw [(isB_iff i).2 hh] at h; cases h
  omega
set_option maxHeartbeats 1000000 in
theorem sBit_any (x : List (BitVec 8)) (hx : x.length = 32) (i : Int) (w : World) : Calls Tryz.prog 46 #[.agg (cb x).toArray, .int .i64 i] w fun e w' => e = .returned (.bool (bitI x i)) ∧ Below w.heap.size w w' := by
  by_cases hb : isB i = true
  · obtain ⟨h0, h1⟩ := (isB_iff i).1 hb
    obtain ⟨n, rfl⟩ : ∃ n : Nat, i = (n : Int) := ⟨i.toNat, by omega⟩
    obtain ⟨k, hk⟩ : ∃ k, k = n / 8 := ⟨_, rfl⟩
    obtain ⟨m, hm⟩ : ∃ m, m = n % 8 := ⟨_, rfl⟩
    have e1 : Int.tdiv (n : Int) 8 = (k : Int) := by rw [Int.tdiv_eq_ediv_of_nonneg (by omega)]; omega
    have e2 : IntKind.i64.wrap (k : Int) = (k : Int) := wrap_small _ (by omega) (by omega)
    have e3 : Int.tmod (n : Int) 8 = (m : Int) := by rw [Int.tmod_eq_emod_of_nonneg (by omega)]; omega
    have e4 : IntKind.i64.wrap (m : Int) = (m : Int) := wrap_small _ (by omega) (by omega)
    have g1 : ¬ ((n : Int) < 0) := by omega
    have g2 : ¬ ((255 : Int) < (n : Int)) := by omega
    have HK32 : Hid (k < 32) := by show _ < _; omega
    have HKX : Hid (k < x.length) := by show _ < _; omega
    have HM : Hid (m < 8) := by show _ < _; omega
    obtain ⟨b, hbb⟩ : ∃ b, b = x.getD k 0 := ⟨_, rfl⟩
    have HR : Hid (bitI x (n : Int) = decide (b.toNat / 2 ^ (7 - m) % 2 = 1)) := by
      show _ = _
      rw [bitI, hb, Bool.true_and, Int.toNat_natCast, bt, ← hk, ← hbb, ← hm]
      exact (mask_div b ⟨m, HM.out⟩).symm
    have HBB : Hid (b = x.getD k 0) := hbb
    have HBL : Hid (b.toNat < 256) := b.isLt
    clear h0 h1 hb hk hm hbb hx
    obtain ⟨o, HO⟩ : ∃ o, Hid (o = bitI x (n : Int)) := ⟨_, rfl⟩
    rw [← HO.out]
    go_enter Tryz.func46, Tryz.ntmps46
    go_wp2_with (first
        | (with_reducible refine wpSeq_boxD (.tmp 0) x ?_ ?_ ?_ ?_
           · rfl
           · rfl
           · rfl
           intro g0 w1 n1
           have hcell : w1.cell? ⟨g0, k, none⟩ = some (.int .u8 (b.toNat : Int)) := by rw [n1.blk.cell, cb_get x k HKX.out, HBB.out]
           have HBW : Hid (Below w.heap.size w w1) := n1.below
           clear n1)
        | (with_reducible refine wpSeq_val (.pointer (some ⟨g0, k, none⟩)) w1 ?_ ?_ ?_
           · rfl
           · exact indexDig k g0 HK32.out _ _ _ _ rfl rfl rfl w1))
    go_loopw [5, 6] (fun c kk wr => ∃ q C : Nat, m ≤ q ∧ q ≤ 7 ∧ kk = .int .i64 (q : Int) ∧ c = .int .i64 (C : Int) ∧ C = b.toNat / 2 ^ (7 - q) ∧ wr = w1) (fun _ kk _ => (intOf kk).toNat)
    case atStart => exact ⟨7, b.toNat, by have := HM.out; omega, by omega, rfl, rfl, by simp, rfl⟩
    case round =>
      obtain ⟨q, C, hmq, hq7, rfl, rfl, hC, rfl⟩ := hrel
      have HC : Hid (C = b.toNat / 2 ^ (7 - q)) := hC
      have HC2 : Hid (C < 256) := by show _ < _; rw [hC]; exact Nat.lt_of_le_of_lt (Nat.div_le_self _ _) HBL.out
      have HQ : Hid (m ≤ q ∧ q ≤ 7) := ⟨hmq, hq7⟩
      by_cases hlt : m < q
      · have i1 : (m : Int) < (q : Int) := by omega
        obtain ⟨C2, hC2⟩ : ∃ C2, C2 = C / 2 := ⟨_, rfl⟩
        obtain ⟨q2, hq2⟩ : ∃ q2, q = q2 + 1 := ⟨q - 1, by omega⟩
        have f1 : Int.tdiv (C : Int) 2 = (C2 : Int) := by rw [Int.tdiv_eq_ediv_of_nonneg (by omega)]; omega
        have f2 : IntKind.i64.wrap (C2 : Int) = (C2 : Int) := wrap_small _ (by omega) (by have := HC2.out; omega)
        have f3 : (q : Int) - 1 = (q2 : Int) := by omega
        have f4 : IntKind.i64.wrap (q2 : Int) = (q2 : Int) := wrap_small _ (by omega) (by omega)
        have HN : Hid (C2 = b.toNat / 2 ^ (7 - q2)) := by
          show _ = _
          rw [hC2, hC, Nat.div_div_eq_div_mul, show 7 - q2 = (7 - q) + 1 by omega, Nat.pow_succ]
        have HQ2 : Hid (q = q2 + 1) := hq2
        clear hmq hq7 hC hlt hC2 hq2 HC
        go_wp2
        go_roundw
        case rel => exact ⟨q2, C2, by have := HQ.out; have := HQ2.out; have : (m : Int) < (q : Int) := i1; omega, by have := HQ.out; have := HQ2.out; omega, rfl, rfl, HN.out, by first | trivial | rfl⟩
        case measure => have := HQ2.out; simp [intOf]; omega
      · have hqm : q = m := by omega
        subst hqm
        have i1 : ¬ ((q : Int) < (q : Int)) := by omega
        obtain ⟨r, hr⟩ : ∃ r, r = C % 2 := ⟨_, rfl⟩
        have f1 : Int.tmod (C : Int) 2 = (r : Int) := by rw [Int.tmod_eq_emod_of_nonneg (by omega)]; omega
        have f2 : IntKind.i64.wrap (r : Int) = (r : Int) := wrap_small _ (by omega) (by omega)
        have HN : Hid (o = ((r : Int) == 1)) := by
          show _ = _
          rw [HO.out, HR.out, hr, hC, Bool.eq_iff_iff, decide_eq_true_iff, beq_iff_eq]; omega
        clear hmq hq7 hC hlt hr HC HR HO
        go_wp2
        go_ret
        exact ⟨by rw [HN.out]; rfl, HBW.out⟩
  · have hb' : isB i = false := by simpa using hb
    have HR : Hid (bitI x i = false) := by show _ = _; rw [bitI, hb']; rfl
    have hc := notB hb'
    clear hb hb' hx
    rw [HR.out]
    rcases hc with h1 | ⟨h0, h1⟩
    all_goals
      go_enter Tryz.func46, Tryz.ntmps46
      go_wp2
      go_ret
      exact ⟨rfl, below_alloc w _⟩
end Go.Proofs.YtphmmnffgknkcabGreatDoor
namespace Go.Proofs.YtphmmnffgknkcabGreatDoor
open Go.RowKit Go.Shelf
set_option maxRecDepth 100000
attribute [local go_sem] Oper.semAt_some
theorem pBits_any (x : List (BitVec 8)) (w : World) : Calls Tryz.prog 112 #[.agg (cb x).toArray] w fun e w' => ∃ g, e = .returned (.func (.func 115) #[] #[.pointer (some ⟨g, 0, none⟩)]) ∧ NewB x w g w' := by
  go_enter Tryz.func112, Tryz.ntmps112
  go_wp2
  go_ret
  exact ⟨_, rfl, NewB.of x w⟩
theorem noGoto_normal {Q : Exit → Act → World → Prop} {a : Act} {w : World} (h : Q .normal a w) : Exit.noGoto Q .normal a w := h
theorem idx_dig (x : List (BitVec 8)) (hx : x.length = 32) (k : Nat) (hk : k < 32) (w : World) : (Instr.index 40 (.agg (cb x).toArray) (.int .i64 (k : Int))).run Tryz.prog w = .ok (.int .u8 ((x.getD k 0).toNat : Int)) w := by
  have hs : ∀ w, (sizeOf 5).run Tryz.prog w = .ok 1 w := fun w => by kernel_rfl
  have k0 : (0 : Int) ≤ (k : Int) ∧ (k : Int) < ((32 : Nat) : Int) := by omega
  unfold Instr.index
  simp only [asIntOf, Sem.run_bind, Sem.run_pure, Result.andThen_ok, run_underlying Tryz.underlying40]
  rw [if_pos k0]
  simp only [Sem.run_bind, hs, Result.andThen_ok, Int.toNat_natCast, Nat.mul_one]
  exact eq_part x hx k hk w
abbrev encsB (p : Nat × Bool) : Array Value := #[.int .i64 (p.1 : Int), .bool p.2]
set_option maxRecDepth 100000 in
set_option maxHeartbeats 2000000 in
theorem bits_stops (n : Nat) (hn : 1 ≤ n) (g : Nat) (x : List (BitVec 8)) (hx : x.length = 32) (w : World) (hb : Blk w g (cb x) 40) :
    SeqStopsK Fence.wide n Tryz.prog 115 #[.pointer (some ⟨g, 0, none⟩)] encsB (fun _ _ => True) (fun xs => xs = pathBits x 256) (fun pre => ∃ k, k ≤ 256 ∧ pre = pathBits x k) 256 w := fun l J Jx W hW hJ hJx hY h0 => by
  refine callsIn_of_wp Tryz.func115 rfl trivial ?_ rfl
  simp only [Tryz.ntmps115, List.size_toArray, List.length_cons, List.length_nil, Nat.reduceAdd, Nat.reduceSub, Array.replicate_succ, Array.replicate_zero, List.push_toArray, List.append_toArray, List.nil_append, List.cons_append]
  refine (wpIn_wide (n := n)).2 (wp_scope_straight ?_)
  have HW : Hid (Blk W g (cb x) 40) := hb.below hW hb.lt
  have HL : Hid (x.length = 32) := hx
  have HJ : Hid (AbidesFrom W.heap.size J) := hJ
  have HJX : Hid (AbidesFrom W.heap.size Jx) := hJx
  clear hb hx hJ hJx hW
  refine wp_seq (wp_label ?_)
  show Code.wp _ _ _ _ _
  go_wp2_with (first
    | (with_reducible refine wpSeq_loadD (.tmp 1) g x ?_ ?_ ?_ ?_ ?_ ?_
       · exact HL.out
       · exact HW.out
       · rfl
       · rfl
       · rfl))
  go_loopw [7] (fun p wr => ∃ k : Nat, k ≤ 32 ∧ p = .int .i64 (k : Int) ∧ J (pathBits x (8 * k)) wr) (fun p _ => 32 - (intOf p).toNat)
  case atStart => exact ⟨0, by omega, rfl, h0⟩
  case round =>
    obtain ⟨k, hk, rfl, hJk⟩ := hrel
    have HJK : Hid (J (pathBits x (8 * k)) wr) := hJk
    clear hJk
    by_cases hlt : k < 32
    · have HKX : Hid (k < x.length) := by show _ < _; rw [HL.out]; exact hlt
      obtain ⟨b, hbb⟩ : ∃ b, b = x.getD k 0 := ⟨_, rfl⟩
      have hix : ∀ wz, (Instr.index 40 (.agg (cb x).toArray) (.int .i64 (k : Int))).run Tryz.prog wz = .ok (.int .u8 (b.toNat : Int)) wz := fun wz => by rw [hbb]; exact idx_dig x HL.out k hlt wz
      have HBB : Hid (b = x.getD k 0) := hbb
      clear hbb
      have k0 : (0 : Int) ≤ (k : Int) := by omega
      have k1 : (k : Int) < 32 := by omega
      go_wp2
      go_loopw [11] (fun p wr => ∃ j : Nat, j ≤ 8 ∧ p = .int .i64 (j : Int) ∧ J (pathBits x (8 * k + j)) wr) (fun p _ => 8 - (intOf p).toNat)
      case atStart => exact ⟨0, by omega, rfl, HJK.out⟩
      case round =>
        rename_i wr2 _ _ _ _ _ _ _ _ _ _ _ _ _ _ _ _ _
        obtain ⟨j, hj, rfl, hJj⟩ := hrel
        clear HJK
        by_cases hlt2 : j < 8
        · obtain ⟨q, hq⟩ : ∃ q, q = 8 * k + j := ⟨_, rfl⟩
          obtain ⟨k8, hk8⟩ : ∃ k8, k8 = k * 8 := ⟨_, rfl⟩
          obtain ⟨o, ho⟩ : ∃ o, o = bt x q := ⟨_, rfl⟩
          have f1 : (k : Int) * 8 = (k8 : Int) := by omega
          have f2 : IntKind.i64.wrap (k8 : Int) = (k8 : Int) := wrap_small _ (by omega) (by omega)
          have f3 : (k8 : Int) + (j : Int) = (q : Int) := by omega
          have f4 : IntKind.i64.wrap (q : Int) = (q : Int) := wrap_small _ (by omega) (by omega)
          have j1 : (j : Int) < 8 := by omega
          have f5 : IntKind.i64.wrap ((j : Int) + 1) = (j : Int) + 1 := wrap_small _ (by omega) (by omega)
          have hand := u8_and b (mask j)
          have hz : ((((b.toNat &&& (mask j).toNat : Nat) : Int)) != 0) = o := by
            have h := mask_and b ⟨j, hlt2⟩
            have hm : mask j = 128#8 >>> j := by rw [mask, Nat.mod_eq_of_lt hlt2]
            simp only [← hm] at h
            have e : o = b.getMsbD j := by rw [ho, HBB.out, bt, hq, show (8 * k + j) / 8 = k by omega, show (8 * k + j) % 8 = j by omega]
            rw [e, ← BitVec.toNat_and]
            cases hg : b.getMsbD j
            · rw [hg] at h
              have h2 := of_decide_eq_true (h.trans rfl)
              rw [h2]; rfl
            · rw [hg] at h
              have h2 := of_decide_eq_false (h.trans rfl)
              rw [bne_iff_ne]
              intro h3
              exact h2 (BitVec.eq_of_toNat_eq (by simpa using h3))
          have HNX : Hid (pathBits x (8 * k + (j + 1)) = pathBits x (8 * k + j) ++ [(q, o)]) := by
            show _ = _
            rw [ho, hq, ← Nat.add_assoc, pathBits_succ]
          obtain ⟨fn, tmps, assign, body, hy, hR⟩ := hY (pathBits x (8 * k + j)) (q, o) _ hJj (by rw [pathBits_len]; omega)
          dsimp only [encsB] at hy
          clear hq hk8 ho hlt2 hj
          refine (wpIn_wide (n := n)).1 ?_
          gi_wp2_with (refine ⟨trivial, ?_⟩; gi_at_call 83; refine (callsIn_wide.2 (bitOf_any _ _)).mono ?_; rintro e wz ⟨rfl, hz2⟩; rw [hz2]; clear hz2 wz)
          refine hR.mono ?_
          clear hR hy hY hJj
          rintro e W3 (⟨rfl, hJ3, _⟩ | ⟨rfl, hJx3⟩)
          · rw [← HNX.out] at hJ3
            gi_wp2
            go_roundw
            case rel => exact ⟨j + 1, by omega, by simp, hJ3⟩
            case measure => simp [intOf]; omega
          · rw [← HNX.out] at hJx3
            gi_wp2
            refine noGoto_normal ?_
            go_end0
            exact ⟨⟨_, rfl⟩, .inr ⟨_, ⟨8 * k + (j + 1), by omega, rfl⟩, hJx3⟩⟩
        · have hj8 : j = 8 := by omega
          subst hj8
          have HJ8 : Hid (J (pathBits x (8 * (k + 1))) wr) := by rw [Nat.mul_add]; exact hJj
          have f5 : IntKind.i64.wrap ((k : Int) + 1) = (k : Int) + 1 := wrap_small _ (by omega) (by omega)
          clear hJj hj hlt2
          go_wp2
          go_roundw
          case rel => exact ⟨k + 1, by omega, by simp, HJ8.out⟩
          case measure => simp [intOf]; omega
    · have hk32 : k = 32 := by omega
      subst hk32
      go_wp2
      refine noGoto_normal ?_
      go_end0
      exact ⟨⟨_, rfl⟩, .inl ⟨_, rfl, HJK.out⟩⟩
end Go.Proofs.YtphmmnffgknkcabGreatDoor
namespace Go.Proofs.YtphmmnffgknkcabGreatDoor
open Go.RowKit Go.Shelf
set_option maxRecDepth 100000
attribute [local go_sem] Oper.semAt_some
theorem wpSeqIn_val {F : Fence} {n : Nat} {P : Program} {ops : Array Oper} {Q : Exit → Act → World → Prop} {rest : List Oper} {o : Oper} {a : Act} {w : World} (v : Value) (w' : World) (hw : Region.wanted o (yielded ops a.tmps) = true) (hd : ∀ c, o.op ≠ .defer c) (hab : o.about P w a.eval = none)
    (he : (execOp a.eval o).run P w = .ok (.value v) w') (h : wpListIn F n P ops Q rest (a.put o.dst v) w') : wpListIn F n P ops Q (o :: rest) a w := by
  unfold wpListIn
  simp only [hw, if_true]
  unfold Oper.wpIn
  refine ⟨fun f hf => (by rw [hab] at hf; cases hf), ?_⟩
  rw [Oper.semAt_eq _ _ _ hd, he]
  exact h
theorem wpSeqIn_loadD {F : Fence} {n : Nat} {ops : Array Oper} {Q : Exit → Act → World → Prop} {rest : List Oper} {o : Oper} {a : Act} {w : World} (x : Operand) (g : Nat) (l : List (BitVec 8)) (hl : l.length = 32) (hb : Blk w g (cb l) 40) (ho : o.op = .load 40 x) (hx : a.eval x = .pointer (some ⟨g, 0, none⟩)) (hw : Region.wanted o (yielded ops a.tmps) = true)
    (h : wpListIn F n Tryz.prog ops Q rest (a.put o.dst (.agg (cb l).toArray)) w) : wpListIn F n Tryz.prog ops Q (o :: rest) a w :=
  wpSeqIn_val _ _ hw (by rw [ho]; intro c hc; cases hc) (by simp [Oper.about, ho]) (loadDigest x g l hl hb ho hx) h
theorem wpSeqIn_storeD {F : Fence} {n : Nat} {ops : Array Oper} {Q : Exit → Act → World → Prop} {rest : List Oper} {o : Oper} {a : Act} {w : World} (x y : Operand) (g : Nat) (l m : List (BitVec 8)) (hl : l.length = 32) (hn : m.length = 32) (hb : Blk w g (cb l) 40) (ho : o.op = .store 40 x y) (hx : a.eval x = .pointer (some ⟨g, 0, none⟩)) (hy : a.eval y = .agg (cb m).toArray) (hw : Region.wanted o (yielded ops a.tmps) = true)
    (h : ∀ w', SetB m w g w' → KeepsOthers w w' → wpListIn F n Tryz.prog ops Q rest (a.put o.dst undef) w') : wpListIn F n Tryz.prog ops Q (o :: rest) a w := by
  have he : (execOp a.eval o).run Tryz.prog w = .ok .skip (w.setCells g 0 (cb m)) := by
    unfold execOp
    simp only [ho, hx, hy, Sem.run_bind]
    rw [run_storeAt_mid w g 0 40 _ (hb.there 0 _ (by rw [List.size_toArray, cb_len, cb_len]; omega)) (by rw [List.size_toArray, cb_len, hn]; exact info_digest) (all_oneCell_toArray (cb_one m))]
    rfl
  have hk : ∀ (vs : List Value) (i : Nat) (w : World), KeepsOthers w (w.setCells g i vs) := by
    intro vs
    induction vs with
    | nil => intro i w; exact KeepsOthers.refl _
    | cons v r ih => intro i w; rw [World.setCells]; exact (KeepsOthers.setCell w _ v).trans (ih _ _)
  unfold wpListIn
  simp only [hw, if_true]
  unfold Oper.wpIn
  refine ⟨fun f hf => (by simp [Oper.about, ho] at hf), ?_⟩
  rw [Oper.semAt_eq _ _ _ (by rw [ho]; intro c hc; cases hc), he]
  exact h _ (SetB.of l m hl hn hb) (hk _ _ _)
structure NewC (v : Value) (t : TypeId) (w : World) (g : Nat) (w' : World) : Prop where
  ge : w.heap.size ≤ g
  blk : Blk w' g [v] t
  below : Below w.heap.size w w'
theorem NewC.of (v : Value) (t : TypeId) (w : World) : NewC v t w w.heap.size (w.alloc (.cells #[v] t)) := ⟨Nat.le_refl _, Blk.new w [v] t, below_alloc w _⟩
theorem wpSeq_allocI {ops : Array Oper} {Q : Exit → Act → World → Prop} {rest : List Oper} {o : Oper} {a : Act} {w : World} (ho : o.op = .alloc 3) (hw : Region.wanted o (yielded ops a.tmps) = true)
    (h : ∀ g w', NewC (.int .i64 0) 3 w g w' → wpList Tryz.prog ops Q rest (a.put o.dst (.pointer (some ⟨g, 0, none⟩))) w') : wpList Tryz.prog ops Q (o :: rest) a w :=
  wpSeq_val _ _ hw (by unfold execOp; rw [ho]; kernel_rfl) (h _ _ (NewC.of (.int .i64 0) 3 w))
theorem blk_own {β : Type} (g : Nat) (cs : β → List Value) (t : TypeId) : Own (fun (s : β) W => Blk W g (cs s) t) := fun s X Y row hs hg hr => by
  have hs' : X.heap[g]? = some (.cells (cs s).toArray t (0, 0)) := hs
  show Y.heap[g]? = some (.cells (cs s).toArray t (0, 0))
  rw [hg.block g (Array.getElem?_eq_some_iff.1 hs').1 (fun e => ?_)]
  · exact hs'
  · obtain ⟨o, ho, hc⟩ := hr g e.symm
    rw [hs'] at ho; cases ho; cases hc
theorem Blk.put {W : World} {g : Nat} {cs : List Value} {t : TypeId} (h : Blk W g cs t) {D : Nat} {o o' : Obj} (hD : W.heap[D]? = some o) (ho : o.isCells = false) : Blk (W.putObj D o') g cs t :=
  blk_own (β := Unit) g (fun _ => cs) t () W _ (some D) h (grownBy_putObj' W D o') (fun r e => by cases e; exact ⟨o, hD, ho⟩)
theorem keepsOthers_of_below {W W' : World} (h : Below W.heap.size W W') : KeepsOthers W W' :=
  ⟨h.size, fun k _ hk _ => (h.block k (Array.getElem?_eq_some_iff.1 hk).1).trans hk⟩
end Go.Proofs.YtphmmnffgknkcabGreatDoor
namespace Go.Proofs.YtphmmnffgknkcabGreatDoor
open Go.RowKit Go.Shelf
set_option maxRecDepth 100000
attribute [local go_sem] Oper.semAt_some
theorem bits_split {x : List (BitVec 8)} {k : Nat} {pre : List (Nat × Bool)} {p : Nat × Bool} (h : pathBits x k = pre ++ [p]) : ∃ j, k = j + 1 ∧ pre = pathBits x j ∧ p = (j, bt x j) := by
  cases k with
  | zero => simp [pathBits] at h
  | succ j =>
    rw [pathBits_succ] at h
    obtain ⟨h1, h2⟩ := List.append_inj' h rfl
    exact ⟨j, rfl, h1.symm, by simpa using h2.symm⟩
theorem mem_bits {x : List (BitVec 8)} {k : Nat} {j : Nat} (h : j < k) : (j, bt x j) ∈ pathBits x k := by
  unfold pathBits
  exact List.mem_map.2 ⟨j, List.mem_range.2 h, rfl⟩
def CmI (y : List (BitVec 8)) (g1 g2 : Nat) (pre : List (Nat × Bool)) (W : World) : Prop := Blk W g1 (cb y) 40 ∧ Blk W g2 [.int .i64 0] 3 ∧ ∀ p ∈ pre, p.2 = bitI y (p.1 : Int)
def CmX (y : List (BitVec 8)) (g2 : Nat) (c : Code) (pre : List (Nat × Bool)) (W : World) : Prop :=
  ∃ pr p, c = .ret ∧ pre = pr ++ [p] ∧ (∀ q ∈ pr, q.2 = bitI y (q.1 : Int)) ∧ p.2 ≠ bitI y (p.1 : Int) ∧ Blk W g2 [.int .i64 (p.1 : Int)] 3
theorem CmI.own (y : List (BitVec 8)) (g1 g2 : Nat) : Own (CmI y g1 g2) := fun _ A B row hs hg hr =>
  ⟨blk_own (β := Unit) g1 (fun _ => cb y) _ () A B row hs.1 hg hr, blk_own (β := Unit) g2 (fun _ => [.int .i64 0]) _ () A B row hs.2.1 hg hr, hs.2.2⟩
theorem CmX.own (y : List (BitVec 8)) (g2 : Nat) (c : Code) : Own (CmX y g2 c) := fun _ A B row hs hg hr => by
  obtain ⟨pr, p, h1, h2, h3, h4, h5⟩ := hs
  exact ⟨pr, p, h1, h2, h3, h4, blk_own (β := Unit) g2 (fun _ => [.int .i64 (p.1 : Int)]) _ () A B row h5 hg hr⟩
theorem CmI.all {x y : List (BitVec 8)} {g1 g2 : Nat} {W : World} (h : CmI y g1 g2 (pathBits x 256) W) : common x y = 256 :=
  common_is x y 256 (Nat.le_refl _) (fun j hj => by have := h.2.2 _ (mem_bits (x := x) hj); rwa [bitI_nat y j hj] at this) (by omega)
theorem CmX.at {x y : List (BitVec 8)} {g2 : Nat} {c : Code} {k : Nat} {W : World} (hk : k ≤ 256) (h : CmX y g2 c (pathBits x k) W) : c = .ret ∧ Blk W g2 [.int .i64 (common x y : Int)] 3 := by
  obtain ⟨pr, p, h1, h2, h3, h4, h5⟩ := h
  obtain ⟨j, rfl, rfl, rfl⟩ := bits_split h2
  rw [bitI_nat y j (by omega)] at h4
  refine ⟨h1, ?_⟩
  rw [common_is x y j (by omega) (fun i hi => by have := h3 _ (mem_bits (x := x) hi); rwa [bitI_nat y i (by omega)] at this) (fun _ => h4)]
  exact h5
set_option maxRecDepth 100000 in
set_option maxHeartbeats 2000000 in
theorem pCommon_any (x y : List (BitVec 8)) (hx : x.length = 32) (hy : y.length = 32) (w : World) : Calls Tryz.prog 102 #[.agg (cb x).toArray, .agg (cb y).toArray] w fun e w' => e = .returned (.int .i64 (common x y : Int)) ∧ Below w.heap.size w w' := by
  have HX : Hid (x.length = 32) := hx
  have HY : Hid (y.length = 32) := hy
  clear hx hy
  refine (callsIn_wide (n := 4)).1 ?_
  refine callsIn_of_wp_marks Tryz.func102 rfl trivial ?_ rfl
  simp only [Tryz.ntmps102, List.size_toArray, List.length_cons, List.length_nil, Nat.reduceAdd, Nat.reduceSub, Array.replicate_succ, Array.replicate_zero, List.push_toArray, List.append_toArray, List.nil_append, List.cons_append]
  refine wpIn_wide.2 ?_
  go_wp2_with (first
    | (with_reducible refine wpSeq_boxD (.tmp 0) x ?_ ?_ ?_ ?_
       · rfl
       · rfl
       · rfl
       intro g0 w1 n1)
    | (with_reducible refine wpSeq_boxD (.tmp 1) y ?_ ?_ ?_ ?_
       · rfl
       · rfl
       · rfl
       intro g1 w2 n2
       have H0 : Hid (Blk w2 g0 (cb x) 40) := n1.blk.below n2.below n1.blk.lt
       have H1 : Hid (Blk w2 g1 (cb y) 40) := n2.blk
       have hlt1 : g1 < w2.heap.size := n2.blk.lt
       have HG : Hid (w.heap.size ≤ w2.heap.size) := Nat.le_trans n1.below.size n2.below.size
       have HBW : Hid (Below w.heap.size w w2) := n1.below.trans (n2.below.mono n1.below.size)
       clear n1 n2)
    | (with_reducible refine wpSeq_allocI ?_ ?_ ?_
       · rfl
       · rfl
       intro g2 w3 n3
       replace H0 : Hid (Blk w3 g0 (cb x) 40) := H0.out.below n3.below H0.out.lt
       replace H1 : Hid (Blk w3 g1 (cb y) 40) := H1.out.below n3.below H1.out.lt
       have H2 : Hid (Blk w3 g2 [.int .i64 0] 3) := n3.blk
       have HG2 : Hid (w.heap.size ≤ g2 ∧ g1 ≠ g2 ∧ w.heap.size ≤ w3.heap.size) := ⟨Nat.le_trans HG.out n3.ge, fun e => by have := n3.ge; have := H1.out; have := hlt1; omega, Nat.le_trans HG.out n3.below.size⟩
       replace HBW : Hid (Below w.heap.size w w3) := HBW.out.trans (n3.below.mono HG.out)
       clear n3 HG hlt1)
    | (with_reducible refine wpSeq_loadD (.tmp 2) g0 x ?_ ?_ ?_ ?_ ?_ ?_
       · exact HX.out
       · exact H0.out
       · rfl
       · rfl
       · rfl)
    | (go_at_call 112; refine (pBits_any x _).mono ?_; rintro e w4 ⟨g3, rfl, n4⟩
       replace H1 : Hid (Blk w4 g1 (cb y) 40) := H1.out.below n4.below H1.out.lt
       replace H2 : Hid (Blk w4 g2 [.int .i64 0] 3) := H2.out.below n4.below H2.out.lt
       have H3 : Hid (Blk w4 g3 (cb x) 40) := n4.blk
       replace HBW : Hid (Below w.heap.size w w4) := HBW.out.trans (n4.below.mono HG2.out.2.2)
       replace HG2 : Hid (w.heap.size ≤ g2 ∧ g1 ≠ g2 ∧ w.heap.size ≤ w4.heap.size) := ⟨HG2.out.1, HG2.out.2.1, Nat.le_trans HG2.out.2.2 n4.below.size⟩
       clear n4 H0))
  refine (wpIn_wide (n := 4)).1 ?_
  refine wpIn_rangeFunc_ownF (F := Fence.wide) rfl (by omega) (gf := 115) (lb := #[.pointer (some ⟨g3, 0, none⟩)]) rfl trivial (enters_of Tryz.func115 (by kernel_rfl) rfl)
    (bits_stops 3 (by omega) g3 x HX.out w4 H3.out) (fun _ _ => trivial) (fun _ _ _ _ _ _ _ _ => trivial) (Below.refl _ _) (fun _ => rfl)
    (fun pre W => CmI y g1 g2 pre W ∧ Below w.heap.size w W) (fun c pre W => CmX y g2 c pre W ∧ Below w.heap.size w W)
    (OwnFrom.and (Own.from (CmI.own y g1 g2) _) (ownFrom_below (Nat.le_refl _) HG2.out.2.2))
    (fun c => OwnFrom.and (Own.from (CmX.own y g2 c) _) (ownFrom_below (Nat.le_refl _) HG2.out.2.2))
    ⟨⟨H1.out, H2.out, by simp⟩, HBW.out⟩
    (fun z => { tmps := #[.agg (cb x).toArray, .agg (cb y).toArray, .pointer (some ⟨g0, 0, none⟩), .pointer (some ⟨g1, 0, none⟩), .pointer (some ⟨g2, 0, none⟩), .int .i64 (z.1 : Int), .bool z.2, .agg (cb x).toArray, .func (.func 115) #[] #[.pointer (some ⟨g3, 0, none⟩)], .int .i64 (z.1 : Int), .bool z.2, undef, undef, undef, undef, undef, undef], defers := [] }) ?assign ?body ?done ?stop
  case assign =>
    intro l z W K hK
    gi_wp2
    exact hK
  case body =>
    rintro l pre ⟨zi, zb⟩ W ⟨hI, hB⟩ _
    have HI : Hid (CmI y g1 g2 pre W) := hI
    have HB : Hid (Below w.heap.size w W) := hB
    clear hI hB
    gi_wp2_with (first
      | (with_reducible refine wpSeqIn_loadD (.tmp 3) g1 y ?_ ?_ ?_ ?_ ?_ ?_
         · exact HY.out
         · exact HI.out.1
         · rfl
         · rfl
         · rfl)
      | (refine ⟨trivial, ?_⟩; gi_at_call 56; refine (CallsIn.inRound l (callsIn_wide.2 (pBit_any y HY.out _ _))).mono ?_; rintro e W2 ⟨rfl, hb2⟩
         have HK2 : Hid (KeepsOthers W W2) := keepsOthers_of_below hb2
         have HC : Hid (Blk W2 g2 [.int .i64 0] 3) := HI.out.2.1.below hb2 HI.out.2.1.lt
         have HY2 : Hid (Blk W2 g1 (cb y) 40) := HI.out.1.below hb2 HI.out.1.lt
         have HB2 : Hid (Below w.heap.size w W2) := HB.out.trans (hb2.mono HB.out.size)
         have hc2 : W2.cell? ⟨g2, 0, none⟩ = some (.int .i64 0) := HC.out.cell 0
         have hf2 : W2.frozen? ⟨g2, 0, none⟩ = false := HC.out.frozen 0
         clear hb2))
    · rename_i hne
      refine ⟨HK2.out.trans (KeepsOthers.setCell _ _ _), ⟨pre, (zi, zb), rfl, rfl, HI.out.2.2, ?_, HC.out.set 0 _⟩, HB2.out.setCell (p := ⟨g2, 0, none⟩) HG2.out.1 _⟩
      intro e
      simp only at e
      rw [e] at hne
      cases hh : bitI y (zi : Int) <;> rw [hh] at hne <;> cases hne
    · rename_i hne
      refine ⟨HK2.out, trivial, ⟨HY2.out, HC.out, fun p hp => ?_⟩, HB2.out⟩
      rcases List.mem_append.1 hp with hp | hp
      · exact HI.out.2.2 p hp
      · obtain rfl : p = (zi, zb) := by simpa using hp
        cases zb <;> cases hh : bitI y (zi : Int) <;> rw [hh] at hne <;> first | rfl | cases hne
  case done =>
    rintro D ys W hD rfl ⟨hI, hB⟩ hK
    have HD : Hid (w.heap.size ≤ D) := Nat.le_trans HG2.out.2.2 hD
    have HCM : Hid (common x y = 256) := hI.all
    have HC : Hid (Blk W g2 [.int .i64 0] 3) := hI.2.1
    have hc2 : W.cell? ⟨g2, 0, none⟩ = some (.int .i64 0) := HC.out.cell 0
    have hf2 : W.frozen? ⟨g2, 0, none⟩ = false := HC.out.frozen 0
    have HB : Hid (Below w.heap.size w W) := hB
    have HK : Hid (W.heap[D]? = some (.deferred (some []))) := hK
    clear hI hB hK hD
    gi_wp2
    go_wp2
    have hK' := (KeepsOthers.setCell W ⟨g2, 0, none⟩ (.int .i64 256)).same D _ HK.out rfl
    refine ⟨by simp, .inl ⟨_, _, rfl, run_takeDeferred hK', ?_⟩⟩
    have hc5 := ((HC.out.set 0 (.int .i64 256)).put hK' rfl (o' := .deferred none)).cell 0
    refine ⟨.int .i64 256, ?_, by rw [HCM.out]; rfl, (HB.out.setCell (p := ⟨g2, 0, none⟩) HG2.out.1 _).trans (belowK_b (w := w) (Nat.le_refl _) _ D _ _ HD.out hK' rfl rfl)⟩
    simp at hc5
    simp [results, Tryz.f102, go_sem, hc5]
  case stop =>
    rintro D c pre W hD ⟨k, hk, rfl⟩ ⟨hX, hB⟩ hK
    obtain ⟨rfl, hC⟩ := hX.at hk
    have HD : Hid (w.heap.size ≤ D) := Nat.le_trans HG2.out.2.2 hD
    have HC : Hid (Blk W g2 [.int .i64 (common x y : Int)] 3) := hC
    have HB : Hid (Below w.heap.size w W) := hB
    have HK : Hid (W.heap[D]? = some (.deferred (some []))) := hK
    clear hX hB hK hD hC
    gi_wp2
    refine ⟨by simp, .inl ⟨_, _, rfl, run_takeDeferred HK.out, ?_⟩⟩
    have hc5 := (HC.out.put HK.out rfl (o' := .deferred none)).cell 0
    refine ⟨.int .i64 (common x y : Int), ?_, rfl, HB.out.trans (belowK_b (w := w) (Nat.le_refl _) _ D _ _ HD.out HK.out rfl rfl)⟩
    simp at hc5
    simp [results, Tryz.f102, go_sem, hc5]
end Go.Proofs.YtphmmnffgknkcabGreatDoor
namespace Go.Proofs.YtphmmnffgknkcabGreatDoor
open Go.RowKit Go.Shelf
set_option maxRecDepth 100000
attribute [local go_sem] Oper.semAt_some
def cutF (pre : List (Nat × Bool)) : List (BitVec 8) := pre.foldl (fun y p => setI y (p.1 : Int) p.2) zb32
theorem cutF_snoc (pre : List (Nat × Bool)) (p : Nat × Bool) : cutF (pre ++ [p]) = setI (cutF pre) (p.1 : Int) p.2 := by simp [cutF]
theorem foldl_set_len (l : List (Nat × Bool)) : ∀ y : List (BitVec 8), (l.foldl (fun y p => setI y (p.1 : Int) p.2) y).length = y.length := by
  induction l with
  | nil => intro y; rfl
  | cons p r ih => intro y; rw [List.foldl_cons, ih, setI_len]
theorem cutF_len (pre : List (Nat × Bool)) : (cutF pre).length = 32 := by rw [cutF, foldl_set_len]; rfl
theorem bt_zero (j : Nat) : bt zb32 j = false := by
  unfold bt zb32
  rw [List.getD_eq_getElem?_getD, List.getElem?_replicate]
  split <;> simp
theorem cutF_bits (x : List (BitVec 8)) : ∀ k, k ≤ 256 → ∀ j, j < 256 → bt (cutF (pathBits x k)) j = (decide (j < k) && bt x j)
  | 0, _, j, _ => by simp [pathBits, cutF, bt_zero]
  | k + 1, hk, j, hj => by
    rw [pathBits_succ, cutF_snoc, setI_nat _ _ _ (by omega), bt_set _ (cutF_len _) _ _ _ (by omega) hj, cutF_bits x k (by omega) j hj]
    by_cases e : j = k
    · subst e; simp
    · rw [if_neg e]
      by_cases h : j < k
      · have h2 : j < k + 1 := by omega
        simp [h, h2]
      · have h2 : ¬ j < k + 1 := by omega
        simp [h, h2]
def CuI (n : Int) (gn gr gc : Nat) (pre : List (Nat × Bool)) (W : World) : Prop := Blk W gn [.int .i64 n] 3 ∧ Blk W gr (cb zb32) 40 ∧ Blk W gc (cb (cutF pre)) 40 ∧ ∀ p ∈ pre, (p.1 : Int) < n
def CuX (n : Int) (gr gc : Nat) (c : Code) (pre : List (Nat × Bool)) (W : World) : Prop :=
  ∃ pr p, c = .exit 0 ∧ pre = pr ++ [p] ∧ (∀ q ∈ pr, (q.1 : Int) < n) ∧ n ≤ (p.1 : Int) ∧ Blk W gr (cb zb32) 40 ∧ Blk W gc (cb (cutF pr)) 40
theorem CuI.own (n : Int) (gn gr gc : Nat) : Own (CuI n gn gr gc) := fun s A B row hs hg hr =>
  ⟨blk_own (β := Unit) gn (fun _ => [.int .i64 n]) _ () A B row hs.1 hg hr, blk_own (β := Unit) gr (fun _ => cb zb32) _ () A B row hs.2.1 hg hr, blk_own (β := Unit) gc (fun _ => cb (cutF s)) _ () A B row hs.2.2.1 hg hr, hs.2.2.2⟩
theorem CuX.own (n : Int) (gr gc : Nat) (c : Code) : Own (CuX n gr gc c) := fun _ A B row hs hg hr => by
  obtain ⟨pr, p, h1, h2, h3, h4, h5, h6⟩ := hs
  exact ⟨pr, p, h1, h2, h3, h4, blk_own (β := Unit) gr (fun _ => cb zb32) _ () A B row h5 hg hr, blk_own (β := Unit) gc (fun _ => cb (cutF pr)) _ () A B row h6 hg hr⟩
theorem CuI.all {x : List (BitVec 8)} {n : Int} {gn gr gc : Nat} {W : World} (h : CuI n gn gr gc (pathBits x 256) W) : ∃ y, IsCut x n y ∧ Blk W gr (cb zb32) 40 ∧ Blk W gc (cb y) 40 := by
  refine ⟨_, ⟨cutF_len _, fun j hj => ?_⟩, h.2.1, h.2.2.1⟩
  have h1 := h.2.2.2 _ (mem_bits (x := x) hj)
  simp only at h1
  rw [cutF_bits x 256 (Nat.le_refl _) j hj, decide_eq_true hj, decide_eq_true h1]
theorem CuX.at {x : List (BitVec 8)} {n : Int} {gr gc : Nat} {c : Code} {k : Nat} {W : World} (hk : k ≤ 256) (h : CuX n gr gc c (pathBits x k) W) : c = .exit 0 ∧ ∃ y, IsCut x n y ∧ Blk W gr (cb zb32) 40 ∧ Blk W gc (cb y) 40 := by
  obtain ⟨pr, p, h1, h2, h3, h4, h5, h6⟩ := h
  obtain ⟨i, rfl, rfl, rfl⟩ := bits_split h2
  simp only at h4
  refine ⟨h1, _, ⟨cutF_len _, fun j hj => ?_⟩, h5, h6⟩
  rw [cutF_bits x i (by omega) j hj]
  by_cases h : j < i
  · have h7 := h3 _ (mem_bits (x := x) h)
    simp only at h7
    rw [decide_eq_true h, decide_eq_true h7]
  · have h7 : ¬ ((j : Int) < n) := by omega
    rw [decide_eq_false h, decide_eq_false h7]
end Go.Proofs.YtphmmnffgknkcabGreatDoor
namespace Go.Proofs.YtphmmnffgknkcabGreatDoor
open Go.RowKit
set_option maxRecDepth 100000
inductive Pc : Nat → List Lf → By → List By → Prop
  | few (d : Nat) (l : List Lf) : Fits l d → d ≤ 256 → l.length < 2 → Pc d l (oneP1 l) []
  | two (d : Nat) (l : List Lf) (t0 t1 : By) (S0 S1 : List By) : Fits l d → 2 ≤ l.length → Pc (d + 1) (halfL l d false) t0 S0 → Pc (d + 1) (halfL l d true) t1 S1 → Pc d l (2 :: (t0 ++ t1)) (S0 ++ S1)
  | link (d : Nat) (l : List Lf) (t : By) (S : List By) : 2 ≤ l.length → t.length ≤ 512 → Pc d l t S → Pc d l (3 :: dig t) (t :: S)
theorem Pc.fits {d : Nat} {l : List Lf} {t : By} {S : List By} (h : Pc d l t S) : Fits l d := by
  induction h with
  | few d l h1 h2 h3 => exact h1
  | two d l t0 t1 S0 S1 h1 => exact h1
  | link d l t S h1 h2 h3 ih => exact ih
theorem Pc.pos {d : Nat} {l : List Lf} {t : By} {S : List By} (h : Pc d l t S) : 0 < t.length := by
  cases h with
  | few d l h1 h2 h3 => rw [one_le h1.1 h3]; omega
  | two => simp
  | link => simp
theorem whole_pc : ∀ (f d : Nat) (l : List Lf), 256 = d + f → Fits l d → Pc d l (wholeL d l) [] := by
  intro f
  induction f with
  | zero =>
    intro d l hd hF
    have h2 : l.length < 2 := by
      rcases Nat.lt_or_ge l.length 2 with h | h
      · exact h
      · have := hF.lt h; omega
    rw [whole_few h2]
    exact .few d l hF (by omega) h2
  | succ f ih =>
    intro d l hd hF
    rcases Nat.lt_or_ge l.length 2 with h2 | h2
    · rw [whole_few h2]
      exact .few d l hF (by omega) h2
    · rw [whole_two (by omega) h2]
      exact .two d l _ _ [] [] hF h2 (ih (d + 1) _ (by omega) (hF.half false)) (ih (d + 1) _ (by omega) (hF.half true))
theorem side_pc {d : Nat} {l : List Lf} (hF : Fits l d) (hd : d ≤ 256) (ih : Pc d l (topPg d l) (saveL d l).tail) (hs : (topPg d l).length ≤ 512) : Pc d l (sidePg d l) (restPg d l) := by
  unfold sidePg restPg
  rcases Nat.lt_or_ge l.length 2 with h2 | h2
  · rw [if_pos h2, if_pos h2, whole_few h2]
    exact .few d l hF hd h2
  · rw [if_neg (by omega), if_neg (by omega)]
    obtain ⟨t, ht⟩ := save_cons d l
    have e : saveL d l = topPg d l :: (saveL d l).tail := by rw [ht]; rfl
    rw [e]
    exact .link d l _ _ h2 hs ih
theorem top_short {d : Nat} {l : List Lf} (hd : d ≤ 256) (hF : Fits l d) : 1 ≤ (topPg d l).length ∧ (topPg d l).length ≤ 512 := by
  obtain ⟨t, ht⟩ := save_cons d l
  exact save_short (256 - d) d l (by omega) hF _ (by rw [ht]; simp)
theorem top_pc : ∀ (f d : Nat) (l : List Lf), 256 = d + f → Fits l d → Pc d l (topPg d l) (saveL d l).tail := by
  intro f
  induction f with
  | zero =>
    intro d l hd hF
    have hs : (wholeL d l).length ≤ 512 := by
      rcases Nat.lt_or_ge 512 (wholeL d l).length with h | h
      · have := (long_two hF h).2; omega
      · exact h
    rw [top_one hs, save_one hs]
    exact whole_pc 0 d l hd hF
  | succ f ih =>
    intro d l hd hF
    rcases Nat.lt_or_ge 512 (wholeL d l).length with h | h
    · have h2 := long_two hF h
      rw [top_more h2.2 h, save_more h2.2 h]
      have hh : ∀ b, Pc (d + 1) (halfL l d b) (sidePg (d + 1) (halfL l d b)) (restPg (d + 1) (halfL l d b)) := fun b =>
        side_pc (hF.half b) (by omega) (ih (d + 1) _ (by omega) (hF.half b)) (top_short (by omega) (hF.half b)).2
      exact .two d l _ _ _ _ hF h2.1 (hh false) (hh true)
    · rw [top_one h, save_one h]
      exact whole_pc (f + 1) d l hd hF
theorem save_top (d : Nat) (l : List Lf) : saveL d l = topPg d l :: (saveL d l).tail := by
  obtain ⟨t, ht⟩ := save_cons d l
  rw [ht]; rfl
def plK (ps : List By) : Nat → By → Option Nat
  | 0, _ => none
  | k + 1, x => if x = dig (ps.getD k []) then some k else plK ps k x
theorem plK_some {ps : List By} {x : By} : ∀ {k i : Nat}, plK ps k x = some i → i < k ∧ dig (ps.getD i []) = x
  | 0, i, h => by cases h
  | k + 1, i, h => by
    unfold plK at h
    split at h
    · rename_i e; cases h; exact ⟨Nat.lt_succ_self _, e.symm⟩
    · have := plK_some h; exact ⟨Nat.lt_succ_of_lt this.1, this.2⟩
theorem plK_none {ps : List By} {x : By} : ∀ {k : Nat}, plK ps k x = none → ∀ i, i < k → dig (ps.getD i []) ≠ x
  | 0, _, i, hi => by omega
  | k + 1, h, i, hi => by
    unfold plK at h
    split at h
    · cases h
    · rename_i e
      rcases Nat.lt_or_ge i k with h1 | h1
      · exact plK_none h i h1
      · have : i = k := by omega
        subst this
        exact fun h2 => e h2.symm
def Free (ps S : List By) : Prop := ∀ p ∈ S, ∀ q ∈ ps, dig q = dig p → q = p
theorem plK_find {ps : List By} {t : By} (hf : ∀ q ∈ ps, dig q = dig t → q = t) : (t ∈ ps ∧ ∃ i, plK ps ps.length (dig t) = some i ∧ i < ps.length ∧ ps.getD i [] = t) ∨ (t ∉ ps ∧ plK ps ps.length (dig t) = none) := by
  cases hp : plK ps ps.length (dig t) with
  | none =>
    refine Or.inr ⟨fun ht => ?_, rfl⟩
    obtain ⟨i, hi, e⟩ := List.mem_iff_getElem.1 ht
    refine plK_none hp i hi ?_
    rw [List.getD_eq_getElem?_getD, List.getElem?_eq_getElem hi, Option.getD_some, e]
  | some i =>
    obtain ⟨h1, h2⟩ := plK_some hp
    have hm : ps.getD i [] ∈ ps := by rw [List.getD_eq_getElem?_getD, List.getElem?_eq_getElem h1]; exact List.getElem_mem h1
    have := hf _ hm h2
    exact Or.inl ⟨by rw [← this]; exact hm, i, rfl, h1, this⟩
structure WyP (way : By) (d : Nat) (l : List Lf) : Prop where
  len : way.length = 32
  on : ∀ p ∈ l, ∀ j, j < d → bt p.1 j = bt way j
  off : ∀ j, d ≤ j → j < 256 → bt way j = false
theorem WyP.left {way : By} {d : Nat} {l : List Lf} (h : WyP way d l) (hd : d < 256) : WyP way (d + 1) (halfL l d false) :=
  ⟨h.len, fun p hp j hj => by
    obtain ⟨h1, h2⟩ := mem_halfL.1 hp
    rcases Nat.lt_or_ge j d with h3 | h3
    · exact h.on p h1 j h3
    · have : j = d := by omega
      subst this
      rw [h2, h.off j (Nat.le_refl _) hd], fun j h1 h2 => h.off j (by omega) h2⟩
theorem WyP.right {way : By} {d : Nat} {l : List Lf} (h : WyP way d l) (hd : d < 256) : WyP (setI way (d : Int) true) (d + 1) (halfL l d true) := by
  have e : ∀ j, j < 256 → bt (setI way (d : Int) true) j = if j = d then true else bt way j := fun j hj => by
    rw [setI_nat way d true hd]
    exact bt_set way h.len d j true hd hj
  refine ⟨by rw [setI_len]; exact h.len, fun p hp j hj => ?_, fun j h1 h2 => ?_⟩
  · obtain ⟨h1, h2⟩ := mem_halfL.1 hp
    rw [e j (by omega)]
    split
    · rename_i h3; rw [h3, h2]
    · exact h.on p h1 j (by omega)
  · rw [e j h2, if_neg (by omega)]
    exact h.off j (by omega) h2
theorem WyP.under {way : By} {d : Nat} {l : List Lf} (h : WyP way d l) (hd : d ≤ 256) {p : Lf} (hp : p ∈ l) : (d : Int) ≤ (common p.1 way : Int) := by
  have h1 := common_spec p.1 way
  rcases Nat.lt_or_ge (common p.1 way) d with h2 | h2
  · exact absurd (h.on p hp _ h2) (h1.2.2 (by omega))
  · omega
theorem WyP.zero (l : List Lf) : WyP zb32 0 l := ⟨rfl, fun _ _ j hj => by omega, fun j _ _ => bt_zero j⟩
end Go.Proofs.YtphmmnffgknkcabGreatDoor
namespace Go.Proofs.YtphmmnffgknkcabGreatDoor
open Go.RowKit
set_option maxRecDepth 100000
def Inj17 (S S' : List By) : Prop := ∀ p ∈ S, ∀ q ∈ S', dig p = dig q → p = q
theorem Inj17.left {A B C : List By} (h : Inj17 (A ++ B) C) : Inj17 A C := fun p hp => h p (List.mem_append_left _ hp)
theorem Inj17.right {A B C : List By} (h : Inj17 (A ++ B) C) : Inj17 B C := fun p hp => h p (List.mem_append_right _ hp)
theorem Inj17.sub {A A' B B' : List By} (h : Inj17 A B) (ha : ∀ p ∈ A', p ∈ A) (hb : ∀ p ∈ B', p ∈ B) : Inj17 A' B' := fun p hp q hq => h p (ha p hp) q (hb q hq)
theorem halves_eq {d e : Nat} {l m : List Lf} (hl : Up l) (hm : Up m) (h0 : halfL l d false = halfL m e false) (h1 : halfL l d true = halfL m e true) : l = m := by
  refine up_ext hl hm fun p => ?_
  have key : ∀ {l : List Lf} {d : Nat}, p ∈ l ↔ p ∈ halfL l d false ∨ p ∈ halfL l d true := fun {l d} => by
    rw [mem_halfL, mem_halfL]
    cases bt p.1 d <;> simp
  rw [key (l := l) (d := d), key (l := m) (d := e), h0, h1]
theorem Pc.same {d1 : Nat} {l1 : List Lf} {t1 : By} {S1 : List By} (h1 : Pc d1 l1 t1 S1) : ∀ {d2 : Nat} {l2 : List Lf} {t2 : By} {S2 : List By} (r1 r2 : By), Pc d2 l2 t2 S2 → Inj17 S1 S2 → t1 ++ r1 = t2 ++ r2 → l1 = l2 ∧ t1 = t2 ∧ r1 = r2 := by
  induction h1 with
  | few d l hF hd hl =>
    intro d2 l2 t2 S2 r1 r2 h2 hI he
    have key : ∀ {m : List Lf}, okLf m → m.length < 2 → oneP1 l ++ r1 = oneP1 m ++ r2 → l = m ∧ oneP1 l = oneP1 m ∧ r1 = r2 := fun {m} hm hm2 he => by
      have ho := hF.1
      match l, m, hl, hm2, ho, hm, he with
      | [], [], _, _, _, _, he => exact ⟨rfl, rfl, by simpa [oneP1] using he⟩
      | [], [q], _, _, _, _, he => simp [oneP1] at he
      | [p], [], _, _, _, _, he => simp [oneP1] at he
      | [p], [q], _, _, ho, hm, he =>
        have hp := ho p (by simp)
        have hq := hm q (by simp)
        simp only [oneP1, List.cons_append, List.cons.injEq, true_and, List.append_assoc] at he
        have e1 := List.append_inj he (by rw [hp.1, hq.1])
        have e2 := List.append_inj e1.2 (by rw [hp.2, hq.2])
        have e3 : p = q := Prod.ext e1.1 e2.1
        subst e3
        exact ⟨rfl, rfl, e2.2⟩
    have hhd : ∀ x : BitVec 8, ∀ r, oneP1 l ++ r1 = x :: r → x = 0 ∨ x = 1 := fun x r he => by
      match l, hl, he with
      | [], _, he => simp only [oneP1, List.cons_append, List.cons.injEq] at he; exact Or.inl he.1.symm
      | [p], _, he => simp only [oneP1, List.cons_append, List.cons.injEq] at he; exact Or.inr he.1.symm
    cases h2 with
    | few _ _ hF2 hd2 hl2 => exact key hF2.1 hl2 he
    | two => rw [List.cons_append] at he; rcases hhd _ _ he with h | h <;> cases h
    | link => rw [List.cons_append] at he; rcases hhd _ _ he with h | h <;> cases h
  | two d l t0 t1 S0 S1 hF hl hp0 hp1 ih0 ih1 =>
    intro d2 l2 t2 S2 r1 r2 h2 hI he
    cases h2 with
    | few _ _ hF2 hd2 hl2 =>
      match l2, hl2, he with
      | [], _, he => simp [oneP1] at he
      | [p], _, he => simp [oneP1] at he
    | two _ _ u0 u1 V0 V1 hF2 hl2 hq0 hq1 =>
      simp only [List.cons_append, List.cons.injEq, true_and, List.append_assoc] at he
      obtain ⟨e1, e2, e3⟩ := ih0 (t1 ++ r1) (u1 ++ r2) hq0 (hI.sub (fun p hp => List.mem_append_left _ hp) fun p hp => List.mem_append_left _ hp) he
      obtain ⟨e4, e5, e6⟩ := ih1 r1 r2 hq1 (hI.sub (fun p hp => List.mem_append_right _ hp) fun p hp => List.mem_append_right _ hp) e3
      exact ⟨halves_eq hF.2.1 hF2.2.1 e1 e4, by rw [e2, e5], e6⟩
    | link => simp at he
  | link d l t S hl ht hp ih =>
    intro d2 l2 t2 S2 r1 r2 h2 hI he
    cases h2 with
    | few _ _ hF2 hd2 hl2 =>
      match l2, hl2, he with
      | [], _, he => simp [oneP1] at he
      | [p], _, he => simp [oneP1] at he
    | two => simp at he
    | link _ _ u V hl2 hu hq =>
      simp only [List.cons_append, List.cons.injEq, true_and] at he
      have e1 := List.append_inj he (by rw [len_dig', len_dig'])
      have e2 : t = u := hI t (by simp) u (by simp) e1.1
      subst e2
      obtain ⟨e3, _, _⟩ := ih [] [] hq (hI.sub (fun p hp => List.mem_cons_of_mem _ hp) fun p hp => List.mem_cons_of_mem _ hp) rfl
      exact ⟨e3, rfl, e1.2⟩
theorem half_all {l : List Lf} {d : Nat} {b : Bool} (h : ∀ p ∈ l, bt p.1 d = b) : halfL l d b = l := by
  unfold halfL
  rw [List.filter_eq_self]
  intro p hp
  rw [h p hp]
  simp
theorem Pc.deep {d : Nat} {l : List Lf} {t : By} {S : List By} (h : Pc d l t S) : 2 ≤ l.length → ∀ {e : Nat} {S' : List By}, Pc e l t S' → d < e → Inj17 S S' → False := by
  induction h with
  | few d l hF hd hl => intro h2; omega
  | two d l t0 t1 S0 S1 hF hl hp0 hp1 ih0 ih1 =>
    intro h2 e S' h3 hde hI
    generalize ht : 2 :: (t0 ++ t1) = t at h3
    cases h3 with
    | few _ _ _ _ hl3 => omega
    | two _ _ u0 u1 V0 V1 hF3 hl3 hq0 hq1 =>
      simp only [List.cons.injEq, true_and] at ht
      obtain ⟨e1, e2, e3⟩ := hp0.same t1 u1 hq0 (hI.sub (fun p hp => List.mem_append_left _ hp) fun p hp => List.mem_append_left _ hp) ht
      obtain ⟨e4, e5, _⟩ := hp1.same [] [] hq1 (hI.sub (fun p hp => List.mem_append_right _ hp) fun p hp => List.mem_append_right _ hp) (by rw [e3])
      obtain ⟨p0, hp0m⟩ : ∃ p, p ∈ l := ⟨l[0]'(by omega), List.getElem_mem _⟩
      have hall : ∀ p ∈ l, bt p.1 d = bt p0.1 d := fun p hp => hF3.2.2 p hp p0 hp0m d hde
      cases hb : bt p0.1 d with
      | false =>
        have hh := half_all (l := l) (d := d) (b := false) (fun p hp => by rw [hall p hp, hb])
        subst e2
        refine ih0 (by rw [hh]; exact h2) (S' := V0) (e := e + 1) (by rw [e1]; exact hq0) (by omega) (hI.sub (fun p hp => List.mem_append_left _ hp) fun p hp => List.mem_append_left _ hp)
      | true =>
        have hh := half_all (l := l) (d := d) (b := true) (fun p hp => by rw [hall p hp, hb])
        subst e5
        refine ih1 (by rw [hh]; exact h2) (S' := V1) (e := e + 1) (by rw [e4]; exact hq1) (by omega) (hI.sub (fun p hp => List.mem_append_right _ hp) fun p hp => List.mem_append_right _ hp)
    | link => cases ht
  | link d l t S hl ht hp ih =>
    intro h2 e S' h3 hde hI
    generalize ht2 : 3 :: dig t = t2 at h3
    cases h3 with
    | few _ _ _ _ hl3 => omega
    | two => cases ht2
    | link _ _ u V hl3 hu hq =>
      simp only [List.cons.injEq, true_and] at ht2
      have e2 : t = u := hI t (by simp) u (by simp) ht2
      subst e2
      exact ih h2 hq hde (hI.sub (fun p hp => List.mem_cons_of_mem _ hp) fun p hp => List.mem_cons_of_mem _ hp)
theorem save_mem : ∀ (f d : Nat) (l : List Lf), 256 = d + f → Fits l d → 2 ≤ l.length → ∀ p ∈ saveL d l, ∃ d' l', d ≤ d' ∧ Fits l' d' ∧ 2 ≤ l'.length ∧ Pc d' l' p (saveL d' l').tail ∧ (∀ q ∈ (saveL d' l').tail, q ∈ saveL d l) ∧ ∀ x ∈ l', x ∈ l := by
  intro f
  induction f with
  | zero => intro d l hd hF h2; have := hF.lt h2; omega
  | succ f ih =>
    intro d l hd hF h2 p hp
    rcases Nat.lt_or_ge 512 (wholeL d l).length with h | h
    · have e := save_more (by omega) h
      have hp2 := hp
      rw [e] at hp
      have hr : ∀ b, p ∈ restPg (d + 1) (halfL l d b) → ∃ d' l', d ≤ d' ∧ Fits l' d' ∧ 2 ≤ l'.length ∧ Pc d' l' p (saveL d' l').tail ∧ (∀ q ∈ (saveL d' l').tail, q ∈ saveL d l) ∧ ∀ x ∈ l', x ∈ l := fun b hb => by
        unfold restPg at hb
        split at hb
        · cases hb
        · rename_i h3
          obtain ⟨d', l', a1, a2, a3, a4, a5, a6⟩ := ih (d + 1) (halfL l d b) (by omega) (hF.half b) (by omega) p hb
          refine ⟨d', l', by omega, a2, a3, a4, fun q hq => ?_, fun x hx => (mem_halfL.1 (a6 x hx)).1⟩
          have h4 := a5 q hq
          rw [e]
          refine List.mem_cons_of_mem _ ?_
          have h5 : q ∈ restPg (d + 1) (halfL l d b) := by unfold restPg; rw [if_neg h3]; exact h4
          cases b with
          | false => exact List.mem_append_left _ h5
          | true => exact List.mem_append_right _ h5
      rcases List.mem_cons.1 hp with hp | hp
      · refine ⟨d, l, Nat.le_refl _, hF, h2, ?_, fun q hq => by rw [save_top]; exact List.mem_cons_of_mem _ hq, fun x hx => hx⟩
        rw [hp, ← top_more (by omega) h]
        exact top_pc (f + 1) d l hd hF
      · rcases List.mem_append.1 hp with hp | hp
        · exact hr false hp
        · exact hr true hp
    · refine ⟨d, l, Nat.le_refl _, hF, h2, ?_, fun q hq => by rw [save_top]; exact List.mem_cons_of_mem _ hq, fun x hx => hx⟩
      rw [save_one h] at hp
      rw [List.mem_singleton.1 hp, ← top_one h]
      exact top_pc (f + 1) d l hd hF
theorem save_nodup : ∀ (f d : Nat) (l : List Lf), 256 = d + f → Fits l d → Inj17 (saveL d l) (saveL d l) → (saveL d l).Nodup := by
  intro f
  induction f with
  | zero =>
    intro d l hd hF _
    have hs : (wholeL d l).length ≤ 512 := by
      rcases Nat.lt_or_ge 512 (wholeL d l).length with h | h
      · have := (long_two hF h).2; omega
      · exact h
    rw [save_one hs]; simp
  | succ f ih =>
    intro d l hd hF hI
    rcases Nat.lt_or_ge 512 (wholeL d l).length with h | h
    · have h2 := (long_two hF h).1
      have e := save_more (show d < 256 by omega) h
      have hsub : ∀ b, ∀ p ∈ restPg (d + 1) (halfL l d b), p ∈ saveL d l := fun b p hp => by
        rw [e]
        refine List.mem_cons_of_mem _ ?_
        cases b with
        | false => exact List.mem_append_left _ hp
        | true => exact List.mem_append_right _ hp
      have hnd : ∀ b, (restPg (d + 1) (halfL l d b)).Nodup := fun b => by
        have h3 := hsub b
        unfold restPg at h3 ⊢
        split
        · simp
        · rename_i h4
          rw [if_neg h4] at h3
          exact ih (d + 1) _ (by omega) (hF.half b) (hI.sub h3 h3)
      have hat : ∀ b, ∀ p ∈ restPg (d + 1) (halfL l d b), ∃ d' l', d < d' ∧ Fits l' d' ∧ 2 ≤ l'.length ∧ Pc d' l' p (saveL d' l').tail ∧ (∀ q ∈ (saveL d' l').tail, q ∈ saveL d l) ∧ ∀ x ∈ l', x ∈ halfL l d b := fun b p hp => by
        have h3 := hsub b
        unfold restPg at hp h3
        split at hp
        · cases hp
        · rename_i h4
          rw [if_neg h4] at h3
          obtain ⟨d', l', a1, a2, a3, a4, a5, a6⟩ := save_mem f (d + 1) _ (by omega) (hF.half b) (by omega) p hp
          exact ⟨d', l', by omega, a2, a3, a4, fun q hq => h3 q (a5 q hq), a6⟩
      have htop : ∀ b, topPg d l ∉ restPg (d + 1) (halfL l d b) := fun b hm => by
        obtain ⟨d', l', a1, a2, a3, a4, a5, a6⟩ := hat b _ hm
        have hpc := top_pc (f + 1) d l hd hF
        have hJ : Inj17 (saveL d l).tail (saveL d' l').tail := hI.sub (fun q hq => by rw [save_top]; exact List.mem_cons_of_mem _ hq) a5
        obtain ⟨e1, _, _⟩ := hpc.same [] [] a4 hJ rfl
        subst e1
        exact hpc.deep h2 a4 a1 hJ
      rw [e, ← top_more (by omega) h]
      refine List.nodup_cons.2 ⟨fun hm => ?_, List.nodup_append.2 ⟨hnd false, hnd true, fun p hp q hq hpq => ?_⟩⟩
      · rcases List.mem_append.1 hm with hm | hm
        · exact htop false hm
        · exact htop true hm
      · subst hpq
        obtain ⟨d1, l1, a1, a2, a3, a4, a5, a6⟩ := hat false _ hp
        obtain ⟨d2, l2, b1, b2, b3, b4, b5, b6⟩ := hat true _ hq
        obtain ⟨e1, _, _⟩ := a4.same [] [] b4 (hI.sub a5 b5) rfl
        subst e1
        have hm : l1[0]'(by omega) ∈ l1 := List.getElem_mem _
        have c1 := (mem_halfL.1 (a6 _ hm)).2
        have c2 := (mem_halfL.1 (b6 _ hm)).2
        rw [c1] at c2
        cases c2
    · rw [save_one h]; simp
end Go.Proofs.YtphmmnffgknkcabGreatDoor
namespace Go.Proofs.YtphmmnffgknkcabGreatDoor
open Go.RowKit
set_option maxRecDepth 100000
def ScI (x y : List (BitVec 8)) (g0 g1 : Nat) (w : World) (k : Nat) (W : World) : Prop := Blk W g0 (cb x) 40 ∧ Blk W g1 (cb y) 40 ∧ Below w.heap.size w W ∧ ∀ j, j < k → bt x j = bt y j
theorem ScI.over {x y : List (BitVec 8)} {g0 g1 k : Nat} {w W W' : World} (h : ScI x y g0 g1 w k W) (ho : Over W.drew W') : ScI x y g0 g1 w k W' :=
  ⟨ho.blk h.1.drew, ho.blk h.2.1.drew, h.2.2.1.drew.trans (Below.mono ho h.2.2.1.size), h.2.2.2⟩
end Go.Proofs.YtphmmnffgknkcabGreatDoor
namespace Go.Proofs.YtphmmnffgknkcabGreatDoor
open Go.RowKit
set_option maxRecDepth 100000
structure SuI (x : List (BitVec 8)) (n : Int) (g0 gr : Nat) (w : World) (k : Nat) (d : List (BitVec 8)) (W : World) : Prop where
  b0 : Blk W g0 (cb d) 40
  br : Blk W gr (cb zb32) 40
  bel : Below w.heap.size w W
  len : d.length = 32
  bits : ∀ j, j < 256 → bt d j = (bt x j && !(decide (j < k) && decide (n ≤ (j : Int))))
end Go.Proofs.YtphmmnffgknkcabGreatDoor
namespace Go.Proofs.YtphmmnffgknkcabGreatDoor
open Go.RowKit
set_option maxRecDepth 100000
theorem bytes_cb (x : List (BitVec 8)) : Lib.bytesOf (x.map fun b => (b.toNat : Int)) = x.map UInt8.ofBitVec := by
  simp only [Lib.bytesOf, List.map_map]
  apply List.map_congr_left
  intro b _
  apply UInt8.toNat_inj.1
  simp
set_option maxHeartbeats 1000000 in
theorem pUnder_any (x y : List (BitVec 8)) (hx : x.length = 32) (hy : y.length = 32) (n : Int) (w : World) : Calls Tryz.prog 79 #[.agg (cb x).toArray, .agg (cb y).toArray, .int .i64 n] w fun e w' => e = .returned (.bool (decide (n ≤ (common x y : Int)))) ∧ Below w.heap.size w w' := by
  have HX : Hid (x.length = 32) := hx
  have HY : Hid (y.length = 32) := hy
  clear hx hy
  go_enter Tryz.func79, Tryz.ntmps79
  go_wp2_with (first
    | (with_reducible refine wpSeq_boxD (.tmp 0) x ?_ ?_ ?_ ?_
       · rfl
       · rfl
       · rfl
       intro g0 w1 n1)
    | (with_reducible refine wpSeq_boxD (.tmp 1) y ?_ ?_ ?_ ?_
       · rfl
       · rfl
       · rfl
       intro g1 w2 n2
       have H0 : Hid (Blk w2 g0 (cb x) 40) := n1.blk.below n2.below n1.blk.lt
       have H1 : Hid (Blk w2 g1 (cb y) 40) := n2.blk
       have HBW : Hid (Below w.heap.size w w2) := n1.below.trans (n2.below.mono n1.below.size)
       clear n1 n2)
    | (with_reducible refine wpSeq_loadD (.tmp 3) g0 x ?_ ?_ ?_ ?_ ?_ ?_
       · exact HX.out
       · exact H0.out
       · rfl
       · rfl
       · rfl)
    | (with_reducible refine wpSeq_loadD (.tmp 4) g1 y ?_ ?_ ?_ ?_ ?_ ?_
       · exact HY.out
       · exact H1.out
       · rfl
       · rfl
       · rfl)
    | (go_at_call 102; refine (pCommon_any x y HX.out HY.out _).mono ?_; rintro e w3 ⟨rfl, hb3⟩
       replace HBW : Hid (Below w.heap.size w w3) := HBW.out.trans (hb3.mono HBW.out.size)
       clear hb3))
  go_ret
  exact ⟨rfl, HBW.out⟩
structure SlI (x y : List (BitVec 8)) (g0 g1 : Nat) (w : World) (k : Nat) (W : World) : Prop where
  b0 : Blk W g0 (cb x) 40
  b1 : Blk W g1 (cb y) 40
  bel : Below w.heap.size w W
  eq : ∀ j, j < k → x.getD j 0 = y.getD j 0
theorem SlI.drew {x y : List (BitVec 8)} {g0 g1 k : Nat} {w W : World} (h : SlI x y g0 g1 w k W) : SlI x y g0 g1 w k W.drew := ⟨h.b0.drew, h.b1.drew, h.bel.drew, h.eq⟩
set_option maxRecDepth 100000 in
set_option maxHeartbeats 2000000 in
theorem sLess_any (x y : List (BitVec 8)) (hx : x.length = 32) (hy : y.length = 32) (w : World) : Calls Tryz.prog 29 #[.agg (cb x).toArray, .agg (cb y).toArray] w fun e w' => e = .returned (.bool (lessB x y)) ∧ Below w.heap.size w w' := by
  have HX : Hid (x.length = 32) := hx
  have HY : Hid (y.length = 32) := hy
  clear hx hy
  obtain ⟨o, HO⟩ : ∃ o, Hid (o = lessB x y) := ⟨_, rfl⟩
  rw [← HO.out]
  go_enter Tryz.func29, Tryz.ntmps29
  go_wp2_with (first
    | (with_reducible refine wpSeq_boxD (.tmp 0) x ?_ ?_ ?_ ?_
       · rfl
       · rfl
       · rfl
       intro g0 w1 n1)
    | (with_reducible refine wpSeq_boxD (.tmp 1) y ?_ ?_ ?_ ?_
       · rfl
       · rfl
       · rfl
       intro g1 w2 n2
       have HI : Hid (SlI x y g0 g1 w 0 w2) := ⟨n1.blk.below n2.below n1.blk.lt, n2.blk, n1.below.trans (n2.below.mono n1.below.size), by omega⟩
       clear n1 n2))
  go_loopw [5] (fun i wr => ∃ k : Nat, k ≤ 32 ∧ i = .int .i64 (k : Int) ∧ SlI x y g0 g1 w k wr) (fun i _ => 32 - (intOf i).toNat)
  case atStart => exact ⟨0, by omega, rfl, HI.out⟩
  case round =>
    clear HI
    obtain ⟨k, hk, rfl, hI⟩ := hrel
    have HI : Hid (SlI x y g0 g1 w k wr) := hI
    clear hI
    by_cases hlt : k < 32
    · have k0 : (0 : Int) ≤ (k : Int) := by omega
      have k1 : (k : Int) < 32 := by omega
      obtain ⟨a, HA⟩ : ∃ a, Hid (a = x.getD k 0) := ⟨_, rfl⟩
      obtain ⟨b, HB⟩ : ∃ b, Hid (b = y.getD k 0) := ⟨_, rfl⟩
      have hca : wr.cell? ⟨g0, k, none⟩ = some (.int .u8 (a.toNat : Int)) := by rw [HI.out.b0.cell, cb_get x k (by rw [HX.out]; exact hlt), HA.out]
      have hcb : wr.cell? ⟨g1, k, none⟩ = some (.int .u8 (b.toNat : Int)) := by rw [HI.out.b1.cell, cb_get y k (by rw [HY.out]; exact hlt), HB.out]
      have f5 : IntKind.i64.wrap ((k : Int) + 1) = (k : Int) + 1 := wrap_small _ (by omega) (by omega)
      have HLT : Hid (k < 32) := hlt
      clear hlt hk
      by_cases heq : a = b
      · have HE : Hid (∀ j, j < k + 1 → x.getD j 0 = y.getD j 0) := by
          intro j hj
          rcases Nat.lt_or_ge j k with h | h
          · exact HI.out.eq j h
          · obtain rfl : j = k := by omega
            rw [← HA.out, ← HB.out, heq]
        subst heq
        go_wp2_with fail
        go_region_held3 (fun wx => wx.cell? ⟨g0, k, none⟩ = some (.int .u8 (a.toNat : Int)) ∧ wx.cell? ⟨g1, k, none⟩ = some (.int .u8 (a.toNat : Int))) (go_keep) (fail)
        go_wp2
        go_roundw
        case rel => exact ⟨k + 1, by have := HLT.out; omega, by simp, HI.out.drew.b0, HI.out.drew.b1, HI.out.drew.bel, HE.out⟩
        case measure => simp [intOf]; omega
      · have hne : (a.toNat : Int) ≠ (b.toNat : Int) := fun h => heq (BitVec.eq_of_toNat_eq (by omega))
        have hne2 : ((a.toNat : Int) != (b.toNat : Int)) = true := by rw [bne_iff_ne]; exact hne
        have HR : Hid (o = decide ((a.toNat : Int) < (b.toNat : Int))) := by
          show _ = _
          rw [HO.out, lessB_at k x y (by rw [HX.out, HY.out]) (by rw [HX.out]; exact HLT.out) HI.out.eq (by rw [← HA.out, ← HB.out]; exact heq), ← HA.out, ← HB.out, decide_eq_decide]
          omega
        clear heq hne
        go_wp2_with fail
        go_region_held3 (fun wx => wx.cell? ⟨g0, k, none⟩ = some (.int .u8 (a.toNat : Int)) ∧ wx.cell? ⟨g1, k, none⟩ = some (.int .u8 (b.toNat : Int))) (go_keep) (fail)
        go_wp2_with fail
        have HBL : Hid (Below w.heap.size w wr.drew) := HI.out.bel.drew
        have hca2 : wr.drew.cell? ⟨g0, k, none⟩ = some (.int .u8 (a.toNat : Int)) := hca
        have hcb2 : wr.drew.cell? ⟨g1, k, none⟩ = some (.int .u8 (b.toNat : Int)) := hcb
        clear hca hcb HI
        generalize wr.drew = wq at *
        go_region_held3 (fun wx => wx.cell? ⟨g0, k, none⟩ = some (.int .u8 (a.toNat : Int)) ∧ wx.cell? ⟨g1, k, none⟩ = some (.int .u8 (b.toNat : Int))) (go_keep) (fail)
        go_wp2
        go_ret
        exact ⟨by rw [HR.out]; simp, HBL.out.drew⟩
    · have hk32 : k = 32 := by omega
      subst hk32
      have HR : Hid (o = false) := by show _ = _; rw [HO.out]; exact lessB_none x y (by rw [HX.out, HY.out]) (fun j hj => HI.out.eq j (by rw [HX.out] at hj; exact hj))
      go_wp2
      go_ret
      exact ⟨by rw [HR.out]; rfl, HI.out.bel⟩
end Go.Proofs.YtphmmnffgknkcabGreatDoor
namespace Go.Proofs.YtphmmnffgknkcabGreatDoor
open Go.RowKit
set_option maxRecDepth 100000
theorem wrap_small2 (k : Int) (h0 : 0 ≤ k) (h1 : k < 1000000000) : IntKind.i64.wrap k = k := by simp [IntKind.wrap, IntKind.bits, IntKind.signed]; omega
def flatD (ds : List (List (BitVec 8))) : List Value := (ds.map cb).flatten
def OwnD (w : World) (base : Nat) (v : Value) (ds : List (List (BitVec 8))) : Prop := w.ownsRow base 40 32 v ds.length (flatD ds) ∧ ∀ d ∈ ds, d.length = 32
theorem OwnD.one {w : World} {base : Nat} {v : Value} {ds : List (List (BitVec 8))} (h : OwnD w base v ds) : v.oneCell' = true := by
  rcases h.1 with ⟨_, ⟨rfl, _⟩ | ⟨g, cap, cur, rfl, _⟩⟩
  · rfl
  · rfl
theorem OwnD.keep {w w' : World} {base : Nat} {v : Value} {ds : List (List (BitVec 8))} (h : OwnD w base v ds) (hs : ∀ k, base ≤ k → k < w.heap.size → w'.heap[k]? = w.heap[k]?) : OwnD w' base v ds := by
  refine ⟨?_, h.2⟩
  have hlt := World.ownsRow.lt h.1
  rcases h.1 with ⟨h1, ⟨rfl, h2⟩ | ⟨g, cap, cur, rfl, hg, hh, h3⟩⟩
  · exact ⟨h1, Or.inl ⟨rfl, h2⟩⟩
  · exact ⟨h1, Or.inr ⟨g, cap, cur, rfl, hg, by rw [hs g hg (hlt g rfl).2]; exact hh, h3⟩⟩
theorem OwnD.mono {w : World} {base B : Nat} {v : Value} {ds : List (List (BitVec 8))} (h : OwnD w base v ds) (hB : B ≤ base) : OwnD w B v ds := by
  refine ⟨?_, h.2⟩
  rcases h.1 with ⟨h1, ⟨rfl, h2⟩ | ⟨g, cap, cur, rfl, hg, hh⟩⟩
  · exact ⟨h1, Or.inl ⟨rfl, h2⟩⟩
  · exact ⟨h1, Or.inr ⟨g, cap, cur, rfl, Nat.le_trans hB hg, hh⟩⟩
def nilV : Value := .slice none 0 0
theorem fill_one (cs : List Value) (h : cs.length = 32) (a0 : Array Value) (ha : a0.size = 32) : Instr.fill (fun i => some (i * 32, 32)) a0 [(0, .agg cs.toArray)] = some cs.toArray := by
  have hc : (Value.agg cs.toArray).cells = cs.toArray := rfl
  simp only [Instr.fill, hc, List.size_toArray, h, ha]
  rw [if_neg (by decide)]
  congr 1
  match cs, h with
  | [x0, x1, x2, x3, x4, x5, x6, x7, x8, x9, x10, x11, x12, x13, x14, x15, x16, x17, x18, x19, x20, x21, x22, x23, x24, x25, x26, x27, x28, x29, x30, x31], _ =>
    obtain ⟨l⟩ := a0
    match l, ha with
    | [y0, y1, y2, y3, y4, y5, y6, y7, y8, y9, y10, y11, y12, y13, y14, y15, y16, y17, y18, y19, y20, y21, y22, y23, y24, y25, y26, y27, y28, y29, y30, y31], _ =>
      refine id ?_
      show _ = _
      kernel_rfl
theorem Tryz.infod3 : (Tryz.prog.info? 40).map (fun i => (i.zero, i.size, i.bytes)) = some (some (.agg (cb zb32).toArray), 32, 32) := by kernel_rfl
theorem buildD (f : Operand → Value) (o : Oper) (x : Operand) (ho : o.op = .buildSlice 22 1 #[(0, x)]) (d : List (BitVec 8)) (hd : d.length = 32) (hx : f x = .agg (cb d).toArray) (w : World) :
    (execOp f o).run Tryz.prog w = .ok (.value (.slice (some ⟨w.heap.size, 0, none⟩) 1 1)) (w.alloc (.cells (cb d).toArray 40)) := by
  obtain ⟨i0, hi, hz, hs, _⟩ := info_parts Tryz.infod3
  have hr := run_buildSlice (P := Tryz.prog) w 22 40 1 #[(0, .agg (cb d).toArray)] (cb d).toArray i0 _ Tryz.underlying22 hi hz (by rw [hs]; decide) (by rw [hs]; decide) (by rw [hs]; exact fill_one (cb d) (by rw [cb_len, hd]) _ (by simp))
  unfold execOp
  rw [ho]
  simp only [List.map_toArray, List.map_cons, List.map_nil, hx, Sem.run_bind, hr, Result.andThen_ok, Sem.run_pure]
theorem flatD_len (ds : List (List (BitVec 8))) (h : ∀ d ∈ ds, d.length = 32) : (flatD ds).length = ds.length * 32 := by
  unfold flatD
  induction ds with
  | nil => rfl
  | cons d r ih =>
    rw [List.map_cons, List.flatten_cons, List.length_append, cb_len, h d (by simp), ih (fun x hx => h x (by simp [hx])), List.length_cons]
    omega
theorem flatD_snoc (ds : List (List (BitVec 8))) (d : List (BitVec 8)) : flatD (ds ++ [d]) = flatD ds ++ cb d := by
  unfold flatD
  simp
theorem OwnD.lt {w : World} {base : Nat} {v : Value} {ds : List (List (BitVec 8))} (h : OwnD w base v ds) : ∀ k, v.ownBlock = some k → base ≤ k ∧ k < w.heap.size := World.ownsRow.lt h.1
theorem OwnD.nil (w : World) (base : Nat) : OwnD w base nilV [] := ⟨World.ownsRow_nil _ _ _ _, by simp⟩
theorem OwnD.slice {w : World} {base : Nat} {v : Value} {ds : List (List (BitVec 8))} (h : OwnD w base v ds) : ∃ ad c, v = .slice ad ds.length c := by
  rcases h.1 with ⟨_, ⟨rfl, h2⟩ | ⟨g, cap, cur, rfl, _⟩⟩
  · exact ⟨none, 0, by rw [h2]⟩
  · exact ⟨_, _, rfl⟩
def ReadsD (w : World) (v : Value) (ds : List (List (BitVec 8))) : Prop :=
  (∃ ad cap, v = .slice ad ds.length cap ∧ ds.length ≤ cap ∧ (ad = none → cap = 0) ∧ (0 < ds.length → ∃ b off, ad = some ⟨b, off, none⟩ ∧ ∀ j, j < ds.length → w.rangeAt b (off + j * 32) (cb (ds.getD j [])))) ∧ ∀ d ∈ ds, d.length = 32
theorem rangeAt_lt {w : World} {b off : Nat} {d : List (BitVec 8)} (h : w.rangeAt b off (cb d)) (hd : d.length = 32) : b < w.heap.size := by
  have := h 0 _ (cb_get d 0 (by omega))
  exact block_lt_of_cell this
theorem rangeAt_below {w w' : World} {b off B : Nat} {cs : List Value} (h : w.rangeAt b off cs) (hb : Below B w w') (hB : b < B) : w'.rangeAt b off cs := fun j v hj => by
  rw [hb.cell (p := ⟨b, off + j, none⟩) hB]
  exact h j v hj
theorem getD_mem32 {ds : List (List (BitVec 8))} (h : ∀ d ∈ ds, d.length = 32) {j : Nat} (hj : j < ds.length) : (ds.getD j []).length = 32 := by
  rw [List.getD_eq_getElem?_getD, List.getElem?_eq_getElem hj]
  exact h _ (List.getElem_mem hj)
theorem ReadsD.below {w w' : World} {v : Value} {ds : List (List (BitVec 8))} (h : ReadsD w v ds) (hb : Below w.heap.size w w') : ReadsD w' v ds := by
  obtain ⟨⟨ad, cap, hv, hc, hn, hx⟩, h32⟩ := h
  refine ⟨⟨ad, cap, hv, hc, hn, fun hp => ?_⟩, h32⟩
  obtain ⟨b, off, rfl, hy⟩ := hx hp
  exact ⟨b, off, rfl, fun j hj => rangeAt_below (hy j hj) hb (rangeAt_lt (hy j hj) (getD_mem32 h32 hj))⟩
theorem flatD_at {ds : List (List (BitVec 8))} (h : ∀ d ∈ ds, d.length = 32) : ∀ (j i : Nat) (v : Value), j < ds.length → (cb (ds.getD j []))[i]? = some v → (flatD ds)[j * 32 + i]? = some v := by
  unfold flatD
  induction ds with
  | nil => intro j i v hj; simp at hj
  | cons d r ih =>
    intro j i v hj hv
    rw [List.map_cons, List.flatten_cons]
    cases j with
    | zero =>
      rw [List.getD_cons_zero] at hv
      have hi : i < (cb d).length := (List.getElem?_eq_some_iff.1 hv).1
      rw [Nat.zero_mul, Nat.zero_add, List.getElem?_append_left hi, hv]
    | succ j =>
      rw [List.getD_cons_succ] at hv
      have hl : (cb d).length = 32 := by rw [cb_len, h d (by simp)]
      rw [List.getElem?_append_right (by rw [hl]; omega), hl, show (j + 1) * 32 + i - 32 = j * 32 + i by omega]
      exact ih (fun x hx => h x (by simp [hx])) j i v (by simpa using hj) hv
theorem OwnD.readsD {w : World} {base : Nat} {v : Value} {ds : List (List (BitVec 8))} (h : OwnD w base v ds) : ReadsD w v ds := by
  refine ⟨?_, h.2⟩
  rcases h.1 with ⟨h1, ⟨rfl, h2⟩ | ⟨g, cap, cur, rfl, hg, hh, hc, hm, hs, ht⟩⟩
  · exact ⟨none, 0, by rw [h2], by omega, fun _ => rfl, fun hp => by omega⟩
  · refine ⟨_, cap, rfl, hc, fun h => (by cases h), fun hp => ⟨g, 0, rfl, fun j hj i v hv => ?_⟩⟩
    have hi : i < 32 := by have := (List.getElem?_eq_some_iff.1 hv).1; rwa [cb_len, getD_mem32 h.2 hj] at this
    have hf := flatD_at h.2 j i v hj hv
    rw [← ht, List.getElem?_take] at hf
    rw [cell_of_row w g _ cur 40 (0, 0) hh, Nat.zero_add]
    rw [if_pos (by
      have : (j + 1) * 32 ≤ ds.length * 32 := Nat.mul_le_mul_right 32 hj
      omega)] at hf
    simpa using hf
structure Grow (base : Nat) (w : World) (v : Value) (w' : World) (v' : Value) : Prop where
  below : Below base w w'
  other : ∀ k, some k ≠ v.ownBlock → k < w.heap.size → w'.heap[k]? = w.heap[k]?
  lies : v'.ownBlock = v.ownBlock ∨ v'.ownBlock = some w.heap.size
theorem wpSeq_appendD {ops : Array Oper} {Q : Exit → Act → World → Prop} {rest : List Oper} {o : Oper} {a : Act} {w : World} (s x : Operand) (base : Nat) (v : Value) (ds : List (List (BitVec 8))) (d : List (BitVec 8)) (g : Nat)
    (hown : OwnD w base v ds) (hu : Blk w g (cb d) 40) (hd : d.length = 32) (hl : ds.length < 2000000) (hbase : base ≤ w.heap.size)
    (ho : o.op = .call { callee := .builtin .append, args := #[s, x], argTypes := #[22, 22] }) (hs : a.eval s = v) (hx : a.eval x = .slice (some ⟨g, 0, none⟩) 1 1) (hgd : o.guard = none)
    (h : ∀ v' w', OwnD w' base v' (ds ++ [d]) → Grow base w v w' v' → wpList Tryz.prog ops Q rest (a.put o.dst v') w') : wpList Tryz.prog ops Q (o :: rest) a w := by
  obtain ⟨i0, hi, hz0, hz1, hz2⟩ := info_parts Tryz.infod3
  refine wpList_append_own_at w hgd s x 22 ho base 40 i0 (.agg (cb zb32).toArray) 32 32 Tryz.underlying22 hi hz0 hz1 hz2 (by show (cb zb32).toArray.size = 32; rw [List.size_toArray, cb_len]; rfl) (by decide) v ds.length (flatD ds) hs hown.1 ⟨g, 0, none⟩ 1 1 (cb d) hx (by rw [cb_len, hd]) ?_ (cb_one d) (by unfold maxLen; omega) (by omega) hbase ?_
  · intro j u hj
    rw [Addr.add_mid, Nat.zero_add, hu.cell, hj]
  · intro v' w' h2 h3 _ h5
    refine h v' w' ⟨?_, ?_⟩ ⟨(Below.refl _ _).grown h3 hbase (fun k hk => (hown.lt k hk).1), fun k hk hlt => h3.block k hlt hk, h5⟩
    · rw [flatD_snoc, List.length_append]; exact h2
    · intro e he
      rcases List.mem_append.1 he with he | he
      · exact hown.2 e he
      · rw [List.mem_singleton] at he; subst he; exact hd
theorem wpSeq_buildD {ops : Array Oper} {Q : Exit → Act → World → Prop} {rest : List Oper} {o : Oper} {a : Act} {w : World} (x : Operand) (d : List (BitVec 8)) (hd : d.length = 32) (ho : o.op = .buildSlice 22 1 #[(0, x)]) (hx : a.eval x = .agg (cb d).toArray) (hw : Region.wanted o (yielded ops a.tmps) = true)
    (h : ∀ g w', NewB d w g w' → wpList Tryz.prog ops Q rest (a.put o.dst (.slice (some ⟨g, 0, none⟩) 1 1)) w') : wpList Tryz.prog ops Q (o :: rest) a w :=
  wpSeq_val _ _ hw (buildD _ o x ho d hd hx w) (h _ _ (NewB.of d w))
theorem wpSeq_loadAt {ops : Array Oper} {Q : Exit → Act → World → Prop} {rest : List Oper} {o : Oper} {a : Act} {w : World} (x : Operand) (b of : Nat) (l : List (BitVec 8)) (hl : l.length = 32) (hb : w.rangeAt b of (cb l)) (ho : o.op = .load 40 x) (hx : a.eval x = .pointer (some ⟨b, of, none⟩)) (hw : Region.wanted o (yielded ops a.tmps) = true)
    (h : wpList Tryz.prog ops Q rest (a.put o.dst (.agg (cb l).toArray)) w) : wpList Tryz.prog ops Q (o :: rest) a w :=
  wpSeq_val _ _ hw (load_run 40 x ho b of hx (cb l) _ hb Tryz.underlying40 rfl (by rw [cb_len, hl]; exact info_digest)) h
structure PpI (ds : List (List (BitVec 8))) (i : Int) (w : World) (k : Nat) (v1 v2 : Value) (W : World) : Prop where
  o1 : OwnD W w.heap.size v1 ((ds.take k).filter fun d => !bitI d i)
  o2 : OwnD W w.heap.size v2 ((ds.take k).filter fun d => bitI d i)
  ne : ∀ j, v1.ownBlock = some j → v2.ownBlock ≠ some j
  bel : Below w.heap.size w W
theorem PpI.next {ds : List (List (BitVec 8))} {i : Int} {w : World} {k : Nat} {v1 v2 : Value} {W W' : World} (h : PpI ds i w k v1 v2 W) (hb : Below W.heap.size W W') : PpI ds i w k v1 v2 W' :=
  ⟨h.o1.keep fun j _ hj => hb.block j hj, h.o2.keep fun j _ hj => hb.block j hj, h.ne, h.bel.trans (hb.mono h.bel.size)⟩
theorem take_next {ds : List (List (BitVec 8))} {k : Nat} (hk : k < ds.length) (p : List (BitVec 8) → Bool) : (ds.take (k + 1)).filter p = (ds.take k).filter p ++ (if p (ds.getD k []) then [ds.getD k []] else []) := by
  rw [List.take_add_one, List.getElem?_eq_getElem hk, List.filter_append, List.getD_eq_getElem?_getD, List.getElem?_eq_getElem hk]
  simp only [Option.toList_some, Option.getD_some, List.filter_cons, List.filter_nil]
theorem PpI.on {ds : List (List (BitVec 8))} {i : Int} {w : World} {k : Nat} {v1 v2 v' : Value} {W W' : World} (h : PpI ds i w k v1 v2 W) (hk : k < ds.length) (hb : bitI (ds.getD k []) i = true) (ho : OwnD W' w.heap.size v' (((ds.take k).filter fun d => bitI d i) ++ [ds.getD k []])) (hg : Grow w.heap.size W v2 W' v') : PpI ds i w (k + 1) v1 v' W' := by
  refine ⟨?_, ?_, ?_, h.bel.trans hg.below⟩
  · rw [take_next hk, hb]
    simp only [Bool.not_true, Bool.false_eq_true, if_false, List.append_nil]
    have h1 := h.o1
    refine ⟨?_, h1.2⟩
    have hlt := World.ownsRow.lt h1.1
    rcases h1.1 with ⟨e1, ⟨e2, e3⟩ | ⟨g, cap, cur, e2, hgg, hh, h3⟩⟩
    · exact ⟨e1, Or.inl ⟨e2, e3⟩⟩
    · subst e2
      exact ⟨e1, Or.inr ⟨g, cap, cur, rfl, hgg, by rw [hg.other g (fun e => h.ne g rfl e.symm) (hlt g rfl).2]; exact hh, h3⟩⟩
  · rw [take_next hk, hb]; exact ho
  · intro j hj
    rcases hg.lies with e | e
    · rw [e]; exact h.ne j hj
    · rw [e]; intro e2; cases e2
      exact absurd (h.o1.lt _ hj).2 (Nat.lt_irrefl _)
theorem PpI.off {ds : List (List (BitVec 8))} {i : Int} {w : World} {k : Nat} {v1 v2 v' : Value} {W W' : World} (h : PpI ds i w k v1 v2 W) (hk : k < ds.length) (hb : bitI (ds.getD k []) i = false) (ho : OwnD W' w.heap.size v' (((ds.take k).filter fun d => !bitI d i) ++ [ds.getD k []])) (hg : Grow w.heap.size W v1 W' v') : PpI ds i w (k + 1) v' v2 W' := by
  refine ⟨?_, ?_, ?_, h.bel.trans hg.below⟩
  · rw [take_next hk, hb]; exact ho
  · rw [take_next hk, hb]
    simp only [Bool.false_eq_true, if_false, List.append_nil]
    have h1 := h.o2
    refine ⟨?_, h1.2⟩
    have hlt := World.ownsRow.lt h1.1
    rcases h1.1 with ⟨e1, ⟨e2, e3⟩ | ⟨g, cap, cur, e2, hgg, hh, h3⟩⟩
    · exact ⟨e1, Or.inl ⟨e2, e3⟩⟩
    · subst e2
      exact ⟨e1, Or.inr ⟨g, cap, cur, rfl, hgg, by rw [hg.other g (fun e => h.ne g e.symm rfl) (hlt g rfl).2]; exact hh, h3⟩⟩
  · intro j hj
    rcases hg.lies with e | e
    · rw [e] at hj; exact h.ne j hj
    · rw [e] at hj; cases hj
      intro e2
      exact absurd (h.o2.lt _ e2).2 (Nat.lt_irrefl _)
end Go.Proofs.YtphmmnffgknkcabGreatDoor
namespace Go.Proofs.YtphmmnffgknkcabGreatDoor
open Go.RowKit
set_option maxRecDepth 100000
theorem wpAnyH_law {P : Program} {md : Region.Mode} {ops : Array Oper} {Q : Exit → Act → World → Prop} {S : World → Prop} {fuel : Nat} {listed : Array Bool} {a : Act} {w : World} (i : Nat) {oi : Oper}
    (hr : Region.ready md ops listed = [i]) (hi : ops[i]? = some oi) (hw : Region.wanted oi (yielded ops a.tmps) = true)
    (h : Oper.wp P oi a w (fun a' w' => S w' ∧ wpAnyH P md ops Q S fuel (listed.setIfInBounds i true) a' w') Q) : wpAnyH P md ops Q S (fuel + 1) listed a w := by
  refine wpAnyH_all hr (by simp) (fun j hj => ?_)
  obtain rfl : j = i := by simpa using hj
  unfold wpOp
  rw [hi]
  simp only [hw, if_true]
  exact Or.inl h
theorem wpAnyH_comm {P : Program} {md : Region.Mode} {ops : Array Oper} {Q : Exit → Act → World → Prop} {S : World → Prop} {fuel : Nat} {listed : Array Bool} {a : Act} {w : World} (i j : Nat) {oi oj : Oper} (v u : Value) (w' : World)
    (hr : Region.ready md ops listed = [i, j]) (hi : ops[i]? = some oi) (hj : ops[j]? = some oj)
    (wi : Region.wanted oi (yielded ops a.tmps) = true) (wj : Region.wanted oj (yielded ops a.tmps) = true) (wi2 : Region.wanted oi (yielded ops (a.put oj.dst u).tmps) = true) (wj2 : Region.wanted oj (yielded ops (a.put oi.dst v).tmps) = true)
    (ei : (execOp a.eval oi).run P w = .ok (.value v) w) (ej : (execOp a.eval oj).run P w = .ok (.value u) w') (ei2 : (execOp (a.put oj.dst u).eval oi).run P w' = .ok (.value v) w') (ej2 : (execOp (a.put oi.dst v).eval oj).run P w = .ok (.value u) w')
    (hr1 : Region.ready md ops (listed.setIfInBounds i true) = [j]) (hr2 : Region.ready md ops (listed.setIfInBounds j true) = [i])
    (hp : (a.put oj.dst u).put oi.dst v = (a.put oi.dst v).put oj.dst u) (hl : (listed.setIfInBounds j true).setIfInBounds i true = (listed.setIfInBounds i true).setIfInBounds j true)
    (hS : S w) (hS' : S w') (h : wpAnyH P md ops Q S fuel ((listed.setIfInBounds i true).setIfInBounds j true) ((a.put oi.dst v).put oj.dst u) w') : wpAnyH P md ops Q S (fuel + 2) listed a w := by
  refine wpAnyH_all hr (by simp) (fun k hk => ?_)
  rcases List.mem_cons.1 hk with rfl | hk
  · exact wpOp_vl k v w hi wi ei ⟨hS, wpAnyH_step j u w' hr1 hj wj2 ej2 hS' h⟩
  · obtain rfl : k = j := by simpa using hk
    refine wpOp_vl k u w' hj wj ej ⟨hS', wpAnyH_step i v w' hr2 hi wi2 ei2 hS' ?_⟩
    rw [hl, hp]
    exact h
theorem wp_appendG {o : Oper} {a : Act} {w : World} {K : Act → World → Prop} {Q : Exit → Act → World → Prop} (s x : Operand) (base : Nat) (v : Value) (ds : List (List (BitVec 8))) (d : List (BitVec 8)) (g : Nat)
    (hown : OwnD w base v ds) (hu : Blk w g (cb d) 40) (hd : d.length = 32) (hl : ds.length < 2000000) (hbase : base ≤ w.heap.size)
    (ho : o.op = .call { callee := .builtin .append, args := #[s, x], argTypes := #[22, 22] }) (hs : a.eval s = v) (hx : a.eval x = .slice (some ⟨g, 0, none⟩) 1 1)
    (h : ∀ v' w', OwnD w' base v' (ds ++ [d]) → Grow base w v w' v' → K (a.put o.dst v') w') : o.wp Tryz.prog a w K Q := by
  obtain ⟨i0, hi, hz0, hz1, hz2⟩ := info_parts Tryz.infod3
  obtain ⟨v', w', hr, h2, h3, h4, h5⟩ := run_append_own_at (P := Tryz.prog) w base 22 o.type 40 i0 (.agg (cb zb32).toArray) 32 32 Tryz.underlying22 hi hz0 hz1 hz2 (by show (cb zb32).toArray.size = 32; rw [List.size_toArray, cb_len]; rfl) (by decide) v ds.length (flatD ds) hown.1 ⟨g, 0, none⟩ 1 1 (cb d) (by rw [cb_len, hd]) (by intro j u hj; rw [Addr.add_mid, Nat.zero_add, hu.cell, hj]) (cb_one d) (by unfold maxLen; omega) (by omega) hbase
  unfold Oper.wp execOp
  simp only [ho, resolve, invoke, builtin, Sem.run_bind, Sem.run_pure, Result.andThen_ok, List.map_toArray, List.map_cons, List.map_nil, hs, hx, hr]
  refine h v' w' ⟨?_, ?_⟩ ⟨(Below.refl _ _).grown h3 hbase (fun k hk => (hown.lt k hk).1), fun k hk hlt => h3.block k hlt hk, h5⟩
  · rw [flatD_snoc, List.length_append]; exact h2
  · intro e he
    rcases List.mem_append.1 he with he | he
    · exact hown.2 e he
    · rw [List.mem_singleton] at he; subst he; exact hd
theorem OwnD.grow {w w' : World} {base B : Nat} {v x x' : Value} {ds : List (List (BitVec 8))} (h : OwnD w base v ds) (hg : Grow B w x w' x') (hn : ∀ j, v.ownBlock = some j → x.ownBlock ≠ some j) : OwnD w' base v ds := by
  refine ⟨?_, h.2⟩
  have hlt := World.ownsRow.lt h.1
  rcases h.1 with ⟨e1, ⟨e2, e3⟩ | ⟨g, cap, cur, e2, hgg, hh, h3⟩⟩
  · exact ⟨e1, Or.inl ⟨e2, e3⟩⟩
  · subst e2
    exact ⟨e1, Or.inr ⟨g, cap, cur, rfl, hgg, by rw [hg.other g (fun e => hn g rfl e.symm) (hlt g rfl).2]; exact hh, h3⟩⟩
theorem Blk.grow {w w' : World} {B g : Nat} {x x' : Value} {cs : List Value} {t : TypeId} (h : Blk w g cs t) (hg : Grow B w x w' x') (hn : ∀ j, x.ownBlock = some j → B ≤ j) (hlt : g < B) : Blk w' g cs t := by
  unfold Blk at *
  have hs : g < w.heap.size := Blk.lt (cs := cs) (t := t) h
  rw [hg.other g (fun e => by have := hn g e.symm; omega) hs]
  exact h
structure OwnLf (W : World) (b : Nat) (xa xv : Value) (la lv : List (List (BitVec 8))) : Prop where
  a : OwnD W b xa la
  v : OwnD W b xv lv
  ne : ∀ j, xa.ownBlock = some j → xv.ownBlock ≠ some j
theorem OwnLf.keep {W W' : World} {b : Nat} {xa xv : Value} {la lv : List (List (BitVec 8))} (h : OwnLf W b xa xv la lv) (hs : ∀ k, b ≤ k → k < W.heap.size → W'.heap[k]? = W.heap[k]?) : OwnLf W' b xa xv la lv := ⟨h.a.keep hs, h.v.keep hs, h.ne⟩
theorem OwnLf.mono {W : World} {b B : Nat} {xa xv : Value} {la lv : List (List (BitVec 8))} (h : OwnLf W b xa xv la lv) (hB : B ≤ b) : OwnLf W B xa xv la lv := ⟨h.a.mono hB, h.v.mono hB, h.ne⟩
theorem OwnLf.nil (W : World) (b : Nat) : OwnLf W b nilV nilV [] [] := ⟨OwnD.nil _ _, OwnD.nil _ _, fun j hj => by cases hj⟩
structure Lv (wG : World) (go : Nat) (xa xv : Value) (la lv : List (List (BitVec 8))) (W : World) : Prop where
  sz : wG.heap.size = go
  out : Blk W go [xa, xv] 47
  own : OwnLf W (go + 1) xa xv la lv
  bel : Below go wG W
theorem Lv.start (wG : World) : Lv wG wG.heap.size nilV nilV [] [] (wG.alloc (.cells [nilV, nilV].toArray 47)) := ⟨rfl, Blk.new _ _ _, OwnLf.nil _ _, below_alloc _ _⟩
theorem Lv.next {wG W W' : World} {go : Nat} {xa xv : Value} {la lv : List (List (BitVec 8))} (h : Lv wG go xa xv la lv W) (hb : Below W.heap.size W W') : Lv wG go xa xv la lv W' :=
  ⟨h.sz, h.out.below hb h.out.lt, h.own.keep fun k _ hk => hb.block k hk, h.bel.trans (hb.mono (by have := h.out.lt; omega))⟩
theorem Lv.drew {wG W : World} {go : Nat} {xa xv : Value} {la lv : List (List (BitVec 8))} (h : Lv wG go xa xv la lv W) : Lv wG go xa xv la lv W.drew :=
  ⟨h.sz, h.out, h.own.keep fun _ _ _ => rfl, ⟨h.bel.os, h.bel.tape, h.bel.output, h.bel.size, h.bel.block⟩⟩
theorem Lv.put {wG W W' : World} {go i : Nat} {xa xv x' : Value} {la lv : List (List (BitVec 8))} (hsz : wG.heap.size = go) (hb : Below go wG W') (ho : Blk W' go [xa, xv] 47) (hw : OwnLf W' (go + 1) ([xa, xv].set i x')[0]! ([xa, xv].set i x')[1]! la lv) (hi : i = 0 ∨ i = 1) (hW : W = W'.setCell ⟨go, i, none⟩ x') : Lv wG go ([xa, xv].set i x')[0]! ([xa, xv].set i x')[1]! la lv W := by
  subst hW
  have hat : ∀ k, k ≠ go → (W'.setCell ⟨go, i, none⟩ x').heap[k]? = W'.heap[k]? := fun k hk => Below.heap_setCell _ _ _ _ hk
  refine ⟨hsz, ?_, hw.keep fun k h1 _ => hat k (by omega), hb.setCell (Nat.le_refl _) _⟩
  have h2 := ho.set i x'
  rcases hi with rfl | rfl
  · exact h2
  · exact h2
theorem Lv.addA {wG W W' : World} {go : Nat} {xa xv x' : Value} {la lv : List (List (BitVec 8))} {d : List (BitVec 8)} (h : Lv wG go xa xv la lv W) (ho : OwnD W' (go + 1) x' (la ++ [d])) (hg : Grow (go + 1) W xa W' x') : Lv wG go x' xv (la ++ [d]) lv (W'.setCell ⟨go, 0, none⟩ x') :=
  Lv.put (xa := xa) (xv := xv) (i := 0) h.sz (h.bel.trans (hg.below.mono (Nat.le_succ _))) (h.out.grow hg (fun j hj => (h.own.a.lt j hj).1) (Nat.lt_succ_self _))
    ⟨ho, h.own.v.grow hg (fun j hj e => h.own.ne j e hj), fun j hj => by
      rcases hg.lies with e | e
      · exact h.own.ne j (by rw [← e]; exact hj)
      · intro e2
        have h1 := (h.own.v.lt j e2).2
        rw [show ([xa, xv].set 0 x')[0]! = x' from rfl, e] at hj
        cases hj
        omega⟩ (Or.inl rfl) rfl
theorem Lv.addV {wG W W' : World} {go : Nat} {xa xv x' : Value} {la lv : List (List (BitVec 8))} {d : List (BitVec 8)} (h : Lv wG go xa xv la lv W) (ho : OwnD W' (go + 1) x' (lv ++ [d])) (hg : Grow (go + 1) W xv W' x') : Lv wG go xa x' la (lv ++ [d]) (W'.setCell ⟨go, 1, none⟩ x') :=
  Lv.put (xa := xa) (xv := xv) (i := 1) h.sz (h.bel.trans (hg.below.mono (Nat.le_succ _))) (h.out.grow hg (fun j hj => (h.own.v.lt j hj).1) (Nat.lt_succ_self _))
    ⟨h.own.a.grow hg h.own.ne, ho, fun j hj => by
      rw [show ([xa, xv].set 1 x')[1]! = x' from rfl]
      rcases hg.lies with e | e
      · rw [e]; exact h.own.ne j hj
      · rw [e]
        intro e2
        cases e2
        exact absurd (h.own.a.lt _ hj).2 (Nat.lt_irrefl _)⟩ (Or.inr rfl) rfl
def ReadsLf (W : World) (va vv : Value) (l : List Lf) : Prop := ReadsD W va (l.map (·.1)) ∧ ReadsD W vv (l.map (·.2))
theorem ReadsLf.below {W W' : World} {va vv : Value} {l : List Lf} (h : ReadsLf W va vv l) (hb : Below W.heap.size W W') : ReadsLf W' va vv l := ⟨h.1.below hb, h.2.below hb⟩
theorem ReadsLf.ok {W : World} {va vv : Value} {l : List Lf} (h : ReadsLf W va vv l) : okLf l := fun _ hp => ⟨h.1.2 _ (List.mem_map_of_mem hp), h.2.2 _ (List.mem_map_of_mem hp)⟩
theorem OwnLf.reads {W : World} {b : Nat} {xa xv : Value} {l : List Lf} (h : OwnLf W b xa xv (l.map (·.1)) (l.map (·.2))) : ReadsLf W xa xv l := ⟨h.a.readsD, h.v.readsD⟩
theorem ReadsD.at {W : World} {v : Value} {ds : List (List (BitVec 8))} (h : ReadsD W v ds) (hp : 0 < ds.length) : ∃ b off cp, v = .slice (some ⟨b, off, none⟩) ds.length cp ∧ ∀ j, j < ds.length → W.rangeAt b (off + j * 32) (cb (ds.getD j [])) := by
  obtain ⟨⟨ad, cp, hv, q1, q2, q3⟩, q4⟩ := h
  obtain ⟨b, off, rfl, hy⟩ := q3 hp
  exact ⟨b, off, cp, hv, hy⟩
theorem ReadsD.slice {W : World} {v : Value} {ds : List (List (BitVec 8))} (h : ReadsD W v ds) : ∃ ad cp, v = .slice ad ds.length cp := by
  obtain ⟨⟨ad, cp, hv, _⟩, _⟩ := h
  exact ⟨ad, cp, hv⟩
end Go.Proofs.YtphmmnffgknkcabGreatDoor
namespace Go.Proofs.YtphmmnffgknkcabGreatDoor
open Go.RowKit
set_option maxRecDepth 100000
theorem wpAnyH_skip {P : Program} {md : Region.Mode} {ops : Array Oper} {Q : Exit → Act → World → Prop} {S : World → Prop} {fuel : Nat} {listed : Array Bool} {a : Act} {w : World} (i : Nat) {oi : Oper} (w' : World)
    (hr : Region.ready md ops listed = [i]) (hi : ops[i]? = some oi) (hw : Region.wanted oi (yielded ops a.tmps) = true) (he : (execOp a.eval oi).run P w = .ok .skip w') (hS : S w')
    (h : wpAnyH P md ops Q S fuel (listed.setIfInBounds i true) (a.put oi.dst undef) w') : wpAnyH P md ops Q S (fuel + 1) listed a w := by
  refine wpAnyH_law i hr hi hw ?_
  unfold Oper.wp
  rw [he]
  exact ⟨hS, h⟩
theorem take_map {l : List Lf} {k : Nat} (hk : k < l.length) : l.take (k + 1) = l.take k ++ [(l.getD k ([], []))] := by
  rw [List.take_add_one, List.getElem?_eq_getElem hk, List.getD_eq_getElem?_getD, List.getElem?_eq_getElem hk]
  rfl
theorem map_getD1 {l : List Lf} {k : Nat} (hk : k < l.length) : (l.map (·.1)).getD k [] = (l.getD k ([], [])).1 := by
  simp [List.getD_eq_getElem?_getD, List.getElem?_map, List.getElem?_eq_getElem hk]
theorem map_getD2 {l : List Lf} {k : Nat} (hk : k < l.length) : (l.map (·.2)).getD k [] = (l.getD k ([], [])).2 := by
  simp [List.getD_eq_getElem?_getD, List.getElem?_map, List.getElem?_eq_getElem hk]
theorem getD_mem {l : List Lf} {k : Nat} (hk : k < l.length) : l.getD k ([], []) ∈ l := by
  rw [List.getD_eq_getElem?_getD, List.getElem?_eq_getElem hk]
  exact List.getElem_mem hk
end Go.Proofs.YtphmmnffgknkcabGreatDoor
namespace Go.Proofs.YtphmmnffgknkcabGreatDoor
open Go.RowKit
set_option maxRecDepth 100000
end Go.Proofs.YtphmmnffgknkcabGreatDoor
namespace Go.Proofs.YtphmmnffgknkcabGreatDoor
open Go.RowKit
set_option maxRecDepth 100000
theorem Sb.more {B : Nat} {wB W W' : World} (h : Below B wB W) (hB : B ≤ wB.heap.size) (hb : Below W.heap.size W W') : Below B wB W' := h.trans (hb.mono (Nat.le_trans hB h.size))
theorem halfL_is (l : List Lf) (d : Nat) (hd : d < 256) (on : Bool) : (l.filter fun p => bitI p.1 (d : Int) == on) = halfL l d on := by
  unfold halfL
  exact List.filter_congr fun p _ => by rw [bitI_nat _ _ hd]
end Go.Proofs.YtphmmnffgknkcabGreatDoor
namespace Go.Proofs.YtphmmnffgknkcabGreatDoor
open Go.RowKit
set_option maxRecDepth 100000
theorem results_row_tmp {fn : Func} {p u : Tmp} {ty : TypeId} (h : fn.results = #[.cell p ty, .tmp u]) (tmps : Array Value) (P : Program) (w : World) (g : Nat) (t : TypeId) (cs : List Value) (d : TypeDesc) (x : Value)
    (hp : tmps.getD p undef = .pointer (some ⟨g, 0, none⟩)) (hx : tmps.getD u undef = x) (hg : Blk w g cs t) (hu : P.underlying ty = some d) (hd : d.isRow = true) (hi : (P.info? ty).map (·.size) = some cs.length) :
    (results fn tmps).run P w = .ok (.tuple #[.agg cs.toArray, x]) w := by
  rw [results_cell_tmp h, hp, hx]
  simp only [asAddr, Sem.run_pure, Result.andThen_ok, run_loadVar_mid w g 0 ty cs d hg.range hu hd hi]
theorem wpSeq_buildZ0 {ops : Array Oper} {Q : Exit → Act → World → Prop} {rest : List Oper} {o : Oper} {a : Act} {w : World} (ho : o.op = .build 40 #[]) (hw : Region.wanted o (yielded ops a.tmps) = true)
    (h : wpList Tryz.prog ops Q rest (a.put o.dst (.agg (cb zb32).toArray)) w) : wpList Tryz.prog ops Q (o :: rest) a w := by
  refine wpSeq_val _ _ hw ?_ h
  unfold execOp
  rw [ho]
  kernel_rfl
end Go.Proofs.YtphmmnffgknkcabGreatDoor
namespace Go.Proofs.YtphmmnffgknkcabGreatDoor
open Go.RowKit
set_option maxRecDepth 100000
theorem Blk.mid {w : World} {g off : Nat} {A B B2 C : List Value} {t : TypeId} (h : Blk w g (A ++ (B ++ C)) t) (hl : B2.length = B.length) (ho : A.length = off) : Blk (w.setCells g off B2) g (A ++ (B2 ++ C)) t := by
  subst ho
  have h2 := setCells_eq g B2 A.length w _ t h (by simp only [List.length_append]; omega)
  have e : (A ++ (B ++ C)).take A.length ++ B2 ++ (A ++ (B ++ C)).drop (A.length + B2.length) = A ++ (B2 ++ C) := by
    rw [List.take_left, ← List.drop_drop, List.drop_left, hl, List.drop_left, List.append_assoc]
  rwa [e] at h2
theorem wpSeq_box {ops : Array Oper} {Q : Exit → Act → World → Prop} {rest : List Oper} {o : Oper} {a : Act} {w : World} (ty : TypeId) (x : Operand) (ho : o.op = .box ty x) (cs : List Value) (hx : a.eval x = .agg cs.toArray) (hw : Region.wanted o (yielded ops a.tmps) = true) (w0 : World) (h0 : w0 = w.alloc (.cells cs.toArray ty))
    (h : wpList Tryz.prog ops Q rest (a.put o.dst (.pointer (some ⟨w.heap.size, 0, none⟩))) w0) : wpList Tryz.prog ops Q (o :: rest) a w := by
  refine wpSeq_val _ w0 hw ?_ h
  subst h0
  unfold execOp
  rw [ho]
  simp only [hx]
  rfl
end Go.Proofs.YtphmmnffgknkcabGreatDoor
namespace Go.Proofs.YtphmmnffgknkcabGreatDoor
open Go.RowKit
set_option maxRecDepth 100000
theorem ReadsD.same {W W' : World} {v : Value} {ds : List (List (BitVec 8))} (h : ReadsD W v ds) (hs : 0 < ds.length → ∀ j, v.ownBlock = some j → W'.heap[j]? = W.heap[j]?) : ReadsD W' v ds := by
  obtain ⟨⟨ad, cap, rfl, hc, hn, hx⟩, h32⟩ := h
  refine ⟨⟨ad, cap, rfl, hc, hn, fun hp => ?_⟩, h32⟩
  obtain ⟨b, off, rfl, hy⟩ := hx hp
  refine ⟨b, off, rfl, fun j hj => ?_⟩
  intro i u hi
  rw [World.cell?_of_block (w := W) (hs hp b rfl)]
  exact hy j hj i u hi
theorem heap_one {W : World} {g i k : Nat} {u : Value} (h : k ≠ g) : (W.setCell ⟨g, i, none⟩ u).heap[k]? = W.heap[k]? := Below.heap_setCell _ _ _ _ h
theorem Blk.one {W : World} {g g' i : Nat} {u : Value} {cs : List Value} {t : TypeId} (h : Blk W g cs t) (hn : g ≠ g') : Blk (W.setCell ⟨g', i, none⟩ u) g cs t := by
  unfold Blk at *
  rw [heap_one hn]
  exact h
theorem At'.setCells {g : Nat} {W0 : World} : ∀ (vs : List Value) (o : Nat) (W : World), (∀ k, k ≠ g → W.heap[k]? = W0.heap[k]?) → ∀ k, k ≠ g → (W.setCells g o vs).heap[k]? = W0.heap[k]?
  | [], _, _, h => h
  | v :: r, o, W, h => by
    rw [World.setCells]
    exact At'.setCells r (o + 1) _ fun k hk => (heap_one hk).trans (h k hk)
structure Wy (l0 : List Lf) (x : List (BitVec 8)) (d : Nat) (l : List Lf) (sd : List (List (BitVec 8))) : Prop where
  le : d ≤ 256
  fit : Fits l d
  eq : wayL l0 x 0 = (sd ++ (wayL l x d).1, (wayL l x d).2)
  len : l.length ≤ l0.length
  sides : sd.length = d
theorem Wy.start {l : List Lf} {x : List (BitVec 8)} (h : Fits l 0) : Wy l x 0 l [] := ⟨by omega, h, by simp, Nat.le_refl _, rfl⟩
theorem Wy.next {l0 l : List Lf} {x : List (BitVec 8)} {d : Nat} {sd : List (List (BitVec 8))} (h : Wy l0 x d l sd) (h2 : 2 ≤ l.length) : Wy l0 x (d + 1) (halfL l d (bt x d)) (sd ++ [rootL (halfL l d (!bt x d)) (d + 1)]) := by
  have hd := h.fit.lt h2
  refine ⟨by omega, h.fit.half _, ?_, Nat.le_trans (half_le _ _ _) h.len, by rw [List.length_append, h.sides]; rfl⟩
  rw [h.eq, wayL_two h.fit h2]
  simp
theorem Wy.done {l0 l : List Lf} {x : List (BitVec 8)} {d : Nat} {sd : List (List (BitVec 8))} (h : Wy l0 x d l sd) (h1 : l.length ≤ 1) : wayL l0 x 0 = (sd, l.head?) := by
  rw [h.eq, wayL_short x d h1]
  simp
theorem Wy.stop {l0 l : List Lf} {x : List (BitVec 8)} {d : Nat} {sd : List (List (BitVec 8))} (h : Wy l0 x d l sd) (h1 : ¬ (d < 256 ∧ 1 < l.length)) : l.length ≤ 1 := by
  rcases Nat.lt_or_ge l.length 2 with h2 | h2
  · omega
  · have := h.fit.lt h2
    omega
end Go.Proofs.YtphmmnffgknkcabGreatDoor
namespace Go.Proofs.YtphmmnffgknkcabGreatDoor
open Go.RowKit
set_option maxRecDepth 100000
theorem putL_all {l : List Lf} {x v : List (BitVec 8)} (h : ∀ p ∈ l, lessB p.1 x = true) : putL l x v = l ++ [(x, v)] := by
  unfold putL
  have h1 : (l.takeWhile fun p => lessB p.1 x) = l := by
    have := List.takeWhile_append_of_pos (l₁ := l) (l₂ := []) (p := fun p : Lf => lessB p.1 x) (fun p hp => h p hp)
    simpa using this
  have h2 : (l.dropWhile fun p => lessB p.1 x) = [] := by
    have := List.dropWhile_append_of_pos (l₁ := l) (l₂ := []) (p := fun p : Lf => lessB p.1 x) (fun p hp => h p hp)
    simpa using this
  rw [h1, h2]
  rfl
theorem putL_new {l : List Lf} {x v : List (BitVec 8)} {e : Lf} (h : ∀ p ∈ l, lessB p.1 x = true) (he : lessB e.1 x = false) : putL (l ++ [e]) x v = l ++ [(x, v)] ++ (if decide (e.1 ≠ x) then [e] else []) := by
  unfold putL
  have h1 : ((l ++ [e]).takeWhile fun p => lessB p.1 x) = l := by
    rw [List.takeWhile_append_of_pos (fun p hp => h p hp)]
    simp [he]
  have h2 : ((l ++ [e]).dropWhile fun p => lessB p.1 x) = [e] := by
    rw [List.dropWhile_append_of_pos (fun p hp => h p hp)]
    simp [he]
  rw [h1, h2]
  simp only [List.filter_cons, List.filter_nil, List.append_assoc, List.cons_append, List.nil_append]
theorem putL_old {l : List Lf} {x v : List (BitVec 8)} {e : Lf} (h : ∃ p ∈ l, lessB p.1 x = false) : putL (l ++ [e]) x v = putL l x v ++ (if decide (e.1 ≠ x) then [e] else []) := by
  have key : ∀ l : List Lf, (∃ p ∈ l, lessB p.1 x = false) → ((l ++ [e]).takeWhile fun p => lessB p.1 x) = (l.takeWhile fun p => lessB p.1 x) ∧ ((l ++ [e]).dropWhile fun p => lessB p.1 x) = (l.dropWhile fun p => lessB p.1 x) ++ [e] := by
    intro l
    induction l with
    | nil => rintro ⟨p, hp, _⟩; cases hp
    | cons a r ih =>
      rintro ⟨p, hp, hpx⟩
      cases ha : lessB a.1 x with
      | false => simp [ha]
      | true =>
        have hr : ∃ p ∈ r, lessB p.1 x = false := by
          rcases List.mem_cons.1 hp with rfl | hp
          · rw [ha] at hpx; cases hpx
          · exact ⟨p, hp, hpx⟩
        have := ih hr
        simp [ha, this.1, this.2]
  unfold putL
  rw [(key l h).1, (key l h).2, List.filter_append]
  simp only [List.filter_cons, List.filter_nil, List.append_assoc, List.cons_append]
def PtI (l : List Lf) (x v : List (BitVec 8)) (k : Nat) (pt : Bool) (A : List Lf) : Prop :=
  (pt = false ∧ A = l.take k ∧ ∀ p ∈ l.take k, lessB p.1 x = true) ∨ (pt = true ∧ A = putL (l.take k) x v ∧ ∃ p ∈ l.take k, lessB p.1 x = false)
theorem PtI.start (l : List Lf) (x v : List (BitVec 8)) : PtI l x v 0 false [] := Or.inl ⟨rfl, rfl, fun p hp => by cases hp⟩
def mid (x v : List (BitVec 8)) (pt : Bool) (da : List (BitVec 8)) (A : List Lf) : List Lf := if !pt && !lessB da x then A ++ [(x, v)] else A
theorem PtI.next {l : List Lf} {x v : List (BitVec 8)} {k : Nat} {pt : Bool} {A : List Lf} {e : Lf} (h : PtI l x v k pt A) (ht : l.take (k + 1) = l.take k ++ [e]) : PtI l x v (k + 1) (pt || !lessB e.1 x) (mid x v pt e.1 A ++ if decide (e.1 ≠ x) then [e] else []) := by
  rcases h with ⟨rfl, rfl, h⟩ | ⟨rfl, rfl, h⟩
  · cases he : lessB e.1 x with
    | true =>
      refine Or.inl ⟨rfl, ?_, ?_⟩
      · rw [ht]
        have hn := less_ne he
        simp [mid, he, hn]
      · rw [ht]
        intro p hp
        rcases List.mem_append.1 hp with hp | hp
        · exact h p hp
        · rw [List.mem_singleton] at hp; subst hp; exact he
    | false =>
      refine Or.inr ⟨rfl, ?_, e, by rw [ht]; simp, he⟩
      rw [ht, putL_new h he]
      simp [mid, he]
  · refine Or.inr ⟨rfl, ?_, ?_⟩
    · rw [ht, putL_old h]
      simp [mid]
    · obtain ⟨p, hp, hpx⟩ := h
      exact ⟨p, by rw [ht]; exact List.mem_append_left _ hp, hpx⟩
theorem PtI.len {l : List Lf} {x v : List (BitVec 8)} {k : Nat} {pt : Bool} {A : List Lf} (h : PtI l x v k pt A) : A.length ≤ l.length + 1 := by
  rcases h with ⟨_, rfl, _⟩ | ⟨_, rfl, _⟩
  · rw [List.length_take]; omega
  · unfold putL
    have h1 := congrArg List.length (take_drop_while (l.take k) fun p => lessB p.1 x)
    rw [List.length_append, List.length_take] at h1
    rw [List.length_append, List.length_cons]
    refine Nat.le_trans (Nat.add_le_add_left (Nat.succ_le_succ (List.length_filter_le _ _)) _) ?_
    omega
theorem PtI.done {l : List Lf} {x v : List (BitVec 8)} {k : Nat} {pt : Bool} {A : List Lf} (h : PtI l x v k pt A) (hk : l.take k = l) : putL l x v = A ++ if pt then [] else [(x, v)] := by
  rcases h with ⟨rfl, rfl, h⟩ | ⟨rfl, rfl, h⟩
  · rw [hk] at h ⊢
    rw [putL_all h]
    rfl
  · rw [hk]
    simp
theorem putL_len (l : List Lf) (x v : List (BitVec 8)) : (putL l x v).length ≤ l.length + 1 := by
  unfold putL
  have h1 := congrArg List.length (take_drop_while l fun p => lessB p.1 x)
  rw [List.length_append] at h1
  rw [List.length_append, List.length_cons]
  refine Nat.le_trans (Nat.add_le_add_left (Nat.succ_le_succ (List.length_filter_le _ _)) _) ?_
  omega
set_option maxRecDepth 100000 in
set_option maxHeartbeats 8000000 in
theorem lfPut_any (va vv : Value) (l : List Lf) (x v : List (BitVec 8)) (w : World) (hR : ReadsLf w va vv l) (hl : l.length < 1000000) (hx : x.length = 32) (hv : v.length = 32) :
    Calls Tryz.prog 14 #[.agg #[va, vv], .agg (cb x).toArray, .agg (cb v).toArray] w fun e w' => ∃ xa xv, e = .returned (.agg #[xa, xv]) ∧ OwnLf w' w.heap.size xa xv ((putL l x v).map (·.1)) ((putL l x v).map (·.2)) ∧ Below w.heap.size w w' := by
  have HR : Hid (ReadsLf w va vv l) := hR
  have HL : Hid (l.length < 1000000) := hl
  have HX32 : Hid (x.length = 32) := hx
  have HY32 : Hid (v.length = 32) := hv
  obtain ⟨n, HN⟩ : ∃ n, Hid (n = l.length) := ⟨_, rfl⟩
  obtain ⟨ada, cpa, hva⟩ := hR.1.slice
  obtain ⟨adv, cpv, hvv⟩ := hR.2.slice
  rw [List.length_map, ← HN.out] at hva hvv
  subst hva hvv
  clear hR hl hx hv
  obtain ⟨gl, HGL⟩ : ∃ g, Hid (g = w.heap.size) := ⟨_, rfl⟩
  obtain ⟨w1, HW1⟩ : ∃ z, Hid (z = w.alloc (.cells [Value.slice ada n cpa, .slice adv n cpv].toArray 47)) := ⟨_, rfl⟩
  obtain ⟨w2, HW2⟩ : ∃ z, Hid (z = w1.alloc (.cells (cb x).toArray 40)) := ⟨_, rfl⟩
  obtain ⟨w3, HW3⟩ : ∃ z, Hid (z = w2.alloc (.cells (cb v).toArray 40)) := ⟨_, rfl⟩
  obtain ⟨wG, HWG⟩ : ∃ z, Hid (z = w3.alloc (.cells [nilV, nilV].toArray 47)) := ⟨_, rfl⟩
  have s1 : w1.heap.size = gl + 1 := by rw [HW1.out, HGL.out]; simp
  have s2 : w2.heap.size = gl + 2 := by rw [HW2.out]; simp [s1]
  have s3 : w3.heap.size = gl + 3 := by rw [HW3.out]; simp [s2]
  have s4 : wG.heap.size = gl + 4 := by rw [HWG.out]; simp [s3]
  have t1 : Below (gl + 1) w1 w2 := by rw [← s1, HW2.out]; exact below_alloc _ _
  have t2 : Below (gl + 2) w2 w3 := by rw [← s2, HW3.out]; exact below_alloc _ _
  have t3 : Below (gl + 3) w3 wG := by rw [← s3, HWG.out]; exact below_alloc _ _
  have HLB : Hid (Blk wG gl [Value.slice ada n cpa, .slice adv n cpv] 47) := by
    have h1 : Blk w1 gl [Value.slice ada n cpa, .slice adv n cpv] 47 := by rw [HW1.out, HGL.out]; exact Blk.new w _ _
    exact ((h1.below t1 (by omega)).below t2 (by omega)).below t3 (by omega)
  have HXB : Hid (Blk wG (gl + 1) (cb x) 40) := by
    have h1 : Blk w2 (gl + 1) (cb x) 40 := by rw [HW2.out, ← s1]; exact Blk.new w1 _ _
    exact (h1.below t2 (by omega)).below t3 (by omega)
  have HYB : Hid (Blk wG (gl + 2) (cb v) 40) := by
    have h1 : Blk w3 (gl + 2) (cb v) 40 := by rw [HW3.out, ← s2]; exact Blk.new w2 _ _
    exact h1.below t3 (by omega)
  have HRB : Hid (Blk wG (gl + 3) [nilV, nilV] 47) := by rw [HWG.out, ← s3]; exact Blk.new w3 _ _
  have HBW : Hid (Below w.heap.size w wG) := by
    have h1 : Below gl w w1 := by rw [HW1.out, HGL.out]; exact below_alloc _ _
    rw [← HGL.out]
    exact ((h1.trans (t1.mono (by omega))).trans (t2.mono (by omega))).trans (t3.mono (by omega))
  obtain ⟨go, HGO⟩ : ∃ g, Hid (g = wG.heap.size) := ⟨_, rfl⟩
  have HSZ : Hid (go = gl + 4) := by show _ = _; rw [HGO.out, s4]
  have HCA : Hid (∀ wx, Below go wG wx → wx.cell? ⟨gl, 0, none⟩ = some (.slice ada n cpa)) := fun wx hx => (HLB.out.below hx (by have := HSZ.out; omega)).cell 0
  have HCV : Hid (∀ wx, Below go wG wx → wx.cell? ⟨gl, 1, none⟩ = some (.slice adv n cpv)) := fun wx hx => (HLB.out.below hx (by have := HSZ.out; omega)).cell 1
  have HCX : Hid (∀ wx, Below go wG wx → Blk wx (gl + 1) (cb x) 40) := fun wx hx => HXB.out.below hx (by have := HSZ.out; omega)
  have HCY : Hid (∀ wx, Below go wG wx → Blk wx (gl + 2) (cb v) 40) := fun wx hx => HYB.out.below hx (by have := HSZ.out; omega)
  have HI : Hid (Lv wG go nilV nilV [] [] (wG.alloc (.cells [nilV, nilV].toArray 47))) := by rw [HGO.out]; exact Lv.start wG
  clear t1 t2 t3 HXB HYB HLB
  clear s1 s2 s3 s4
  go_enter Tryz.func14, Tryz.ntmps14
  go_wp2_with (first
    | (refine wpSeq_val _ _ (by rfl) (boxDigest _ _ (.tmp 1) rfl x rfl _) ?_)
    | (refine wpSeq_val _ _ (by rfl) (boxDigest _ _ (.tmp 2) rfl v rfl _) ?_))
  have e0 : (some ⟨w.heap.size, 0, none⟩ : Option Addr) = some ⟨gl, 0, none⟩ := by rw [HGL.out]
  have e1 : (some ⟨w.heap.size + 1, 0, none⟩ : Option Addr) = some ⟨gl + 1, 0, none⟩ := by rw [HGL.out]
  have e2 : (some ⟨w.heap.size + 1 + 1, 0, none⟩ : Option Addr) = some ⟨gl + 2, 0, none⟩ := by rw [HGL.out]
  have e3 : (some ⟨w.heap.size + 1 + 1 + 1, 0, none⟩ : Option Addr) = some ⟨gl + 3, 0, none⟩ := by rw [HGL.out]
  have e4 : (some ⟨w.heap.size + 1 + 1 + 1 + 1, 0, none⟩ : Option Addr) = some ⟨go, 0, none⟩ := by rw [HSZ.out, HGL.out]
  simp only [e0, e1, e2, e3, e4]
  clear e0 e1 e2 e3 e4
  change Code.wp _ _ _ _ (((((w.alloc (.cells [Value.slice ada n cpa, .slice adv n cpv].toArray 47)).alloc (.cells (cb x).toArray 40)).alloc (.cells (cb v).toArray 40)).alloc (.cells [nilV, nilV].toArray 47)).alloc (.cells [nilV, nilV].toArray 47))
  rw [← HW1.out, ← HW2.out, ← HW3.out, ← HWG.out]
  generalize wG.alloc (.cells [nilV, nilV].toArray 47) = w0 at *
  clear HW1 HW2 HW3 HWG HGO
  go_loopw [8, 9] (fun b j wr => ∃ (k : Nat) (xa xv : Value) (pt : Bool) (A : List Lf), k ≤ n ∧ b = .bool pt ∧ j = .int .i64 (k : Int) ∧ Lv wG go xa xv (A.map (·.1)) (A.map (·.2)) wr ∧ PtI l x v k pt A) (fun _ j _ => n - (intOf j).toNat)
  case atStart => exact ⟨0, nilV, nilV, false, [], by omega, rfl, rfl, by simpa using HI.out, PtI.start l x v⟩
  case round =>
    clear HI
    obtain ⟨k, xa, xv, pt, A, hk, rfl, rfl, hI, hP⟩ := hrel
    have HI : Hid (Lv wG go xa xv (A.map (·.1)) (A.map (·.2)) wr) := hI
    have HPT : Hid (PtI l x v k pt A) := hP
    clear hI hP
    have ca : wr.cell? ⟨gl, 0, none⟩ = some (.slice ada n cpa) := HCA.out wr HI.out.bel
    have HAL : Hid (A.length < 1500000) := by show _ < _; have h1 := HPT.out.len; have h2 := HL.out; omega
    by_cases hlt : k < n
    · have hlti : (k : Int) < (n : Int) := by omega
      have k0 : (0 : Int) ≤ (k : Int) := by omega
      have hn6 : n < 1000000 := by rw [HN.out]; exact HL.out
      have f5 : IntKind.i64.wrap ((k : Int) + 1) = (k : Int) + 1 := wrap_small2 _ (by omega) (by omega)
      have HKL : Hid (k < l.length) := by show _ < _; rw [← HN.out]; exact hlt
      obtain ⟨ba, offa, cpa', hva, hya⟩ := HR.out.1.at (by rw [List.length_map]; have := HKL.out; omega)
      obtain ⟨bv, offv, cpv', hvv, hyv⟩ := HR.out.2.at (by rw [List.length_map]; have := HKL.out; omega)
      rw [List.length_map, ← HN.out] at hva hvv hya hyv
      simp only [Value.slice.injEq, true_and] at hva hvv
      obtain ⟨rfl, rfl⟩ := hva
      obtain ⟨rfl, rfl⟩ := hvv
      obtain ⟨da, HDA⟩ : ∃ d, Hid (d = (l.getD k ([], [])).1) := ⟨_, rfl⟩
      obtain ⟨dv, HDV⟩ : ∃ d, Hid (d = (l.getD k ([], [])).2) := ⟨_, rfl⟩
      have HA32 : Hid (da.length = 32) := by show _ = _; rw [HDA.out]; exact (HR.out.ok _ (getD_mem HKL.out)).1
      have HV32 : Hid (dv.length = 32) := by show _ = _; rw [HDV.out]; exact (HR.out.ok _ (getD_mem HKL.out)).2
      have HRA : Hid (∀ wx, Below go wG wx → wx.rangeAt ba (offa + k * 32) (cb da)) := fun wx hx => by
        have h := hya k hlt
        rw [map_getD1 HKL.out, ← HDA.out] at h
        have hb := rangeAt_lt h HA32.out
        exact rangeAt_below (rangeAt_below h HBW.out hb) hx (by have h1 := HSZ.out; have h2 := HGL.out; omega)
      have HRV : Hid (∀ wx, Below go wG wx → wx.rangeAt bv (offv + k * 32) (cb dv)) := fun wx hx => by
        have h := hyv k hlt
        rw [map_getD2 HKL.out, ← HDV.out] at h
        have hb := rangeAt_lt h HV32.out
        exact rangeAt_below (rangeAt_below h HBW.out hb) hx (by have h1 := HSZ.out; have h2 := HGL.out; omega)
      clear hya hyv
      have HNX : Hid (PtI l x v (k + 1) (pt || !lessB da x) (mid x v pt da A ++ if decide (da ≠ x) then [(da, dv)] else [])) := by
        have h := HPT.out.next (take_map HKL.out)
        rw [HDA.out, HDV.out]
        exact h
      obtain ⟨ls, HLS⟩ : ∃ p, Hid (lessB da x = p) := ⟨_, rfl⟩
      rw [HLS.out] at HNX
      unfold mid at HNX
      rw [HLS.out] at HNX
      go_upto_region 6 with fail
      go_cut [29] from 18 to 29 (fun b W => b = .bool (!pt && !ls) ∧ Lv wG go xa xv (A.map (·.1)) (A.map (·.2)) W)
      case first =>
        cases pt with
        | true =>
          refine wp_region_held_drew (S := Below go wG) (by kernel_rfl) HI.out.drew.bel ?_
          intro hS
          have hI := HI.out.drew
          clear HI
          change wpAnyH _ _ _ _ _ _ _ _ (World.drew wr)
          generalize World.drew wr = y0 at *
          refine wpAnyH_take (i := 0) (v := .bool true) rfl (by kernel_rfl) (by kernel_rfl) (by kernel_rfl) (fun _ _ _ h => h) (Or.inl ⟨by rfl, fun wx hx => by simp [go_sem]⟩) hS ?_
          simp only [Act.put, List.getElem_toArray, List.getElem_cons_zero, List.setIfInBounds_toArray, List.set_cons_zero, List.set_cons_succ]
          refine wpAnyH_take (i := 1) (v := .bool false) rfl (by kernel_rfl) (by kernel_rfl) (by kernel_rfl) (fun _ _ _ h => h) (Or.inl ⟨by rfl, fun wx hx => by simp [go_sem]⟩) hS ?_
          simp only [Act.put, List.getElem_toArray, List.getElem_cons_succ, List.getElem_cons_zero, List.setIfInBounds_toArray, List.set_cons_zero, List.set_cons_succ]
          refine wpAnyH_take (i := 2) (v := .bool false) rfl (by kernel_rfl) (by kernel_rfl) (by kernel_rfl) (fun _ _ _ h => h) (Or.inl ⟨by rfl, fun wx hx => by simp [go_sem]⟩) hS ?_
          simp only [Act.put, List.getElem_toArray, List.getElem_cons_succ, List.getElem_cons_zero, List.setIfInBounds_toArray, List.set_cons_zero, List.set_cons_succ]
          refine wpAnyH_take (i := 3) (v := undef) rfl (by kernel_rfl) (by kernel_rfl) (by kernel_rfl) (fun _ _ _ h => h) (Or.inr ⟨by rfl, rfl⟩) hS ?_
          simp only [Act.put, List.getElem_toArray, List.getElem_cons_succ, List.getElem_cons_zero, List.setIfInBounds_toArray, List.set_cons_zero, List.set_cons_succ]
          refine wpAnyH_take (i := 4) (v := undef) rfl (by kernel_rfl) (by kernel_rfl) (by kernel_rfl) (fun _ _ _ h => h) (Or.inr ⟨by rfl, rfl⟩) hS ?_
          simp only [Act.put, List.getElem_toArray, List.getElem_cons_succ, List.getElem_cons_zero, List.setIfInBounds_toArray, List.set_cons_zero, List.set_cons_succ]
          refine wpAnyH_take (i := 5) (v := undef) rfl (by kernel_rfl) (by kernel_rfl) (by kernel_rfl) (fun _ _ _ h => h) (Or.inr ⟨by rfl, rfl⟩) hS ?_
          simp only [Act.put, List.getElem_toArray, List.getElem_cons_succ, List.getElem_cons_zero, List.setIfInBounds_toArray, List.set_cons_zero, List.set_cons_succ]
          refine wpAnyH_take (i := 6) (v := undef) rfl (by kernel_rfl) (by kernel_rfl) (by kernel_rfl) (fun _ _ _ h => h) (Or.inr ⟨by rfl, rfl⟩) hS ?_
          simp only [Act.put, List.getElem_toArray, List.getElem_cons_succ, List.getElem_cons_zero, List.setIfInBounds_toArray, List.set_cons_zero, List.set_cons_succ]
          refine wpAnyH_take (i := 7) (v := undef) rfl (by kernel_rfl) (by kernel_rfl) (by kernel_rfl) (fun _ _ _ h => h) (Or.inr ⟨by rfl, rfl⟩) hS ?_
          simp only [Act.put, List.getElem_toArray, List.getElem_cons_succ, List.getElem_cons_zero, List.setIfInBounds_toArray, List.set_cons_zero, List.set_cons_succ]
          refine wpAnyH_take (i := 8) (v := undef) rfl (by kernel_rfl) (by kernel_rfl) (by kernel_rfl) (fun _ _ _ h => h) (Or.inr ⟨by rfl, rfl⟩) hS ?_
          simp only [Act.put, List.getElem_toArray, List.getElem_cons_succ, List.getElem_cons_zero, List.setIfInBounds_toArray, List.set_cons_zero, List.set_cons_succ]
          refine wpAnyH_take (i := 9) (v := undef) rfl (by kernel_rfl) (by kernel_rfl) (by kernel_rfl) (fun _ _ _ h => h) (Or.inr ⟨by rfl, rfl⟩) hS ?_
          simp only [Act.put, List.getElem_toArray, List.getElem_cons_succ, List.getElem_cons_zero, List.setIfInBounds_toArray, List.set_cons_zero, List.set_cons_succ]
          refine wpAnyH_take (i := 10) (v := undef) rfl (by kernel_rfl) (by kernel_rfl) (by kernel_rfl) (fun _ _ _ h => h) (Or.inr ⟨by rfl, rfl⟩) hS ?_
          simp only [Act.put, List.getElem_toArray, List.getElem_cons_succ, List.getElem_cons_zero, List.setIfInBounds_toArray, List.set_cons_zero, List.set_cons_succ]
          refine wpAnyH_take (i := 11) (v := .bool false) rfl (by kernel_rfl) (by kernel_rfl) (by kernel_rfl) (fun _ _ _ h => h) (Or.inl ⟨by rfl, fun wx hx => by simp [go_sem]⟩) hS ?_
          simp only [Act.put, List.getElem_toArray, List.getElem_cons_succ, List.getElem_cons_zero, List.setIfInBounds_toArray, List.set_cons_zero, List.set_cons_succ]
          refine wpAnyH_done (by kernel_rfl) ?_ _
          go_wp2
          go_meet
          case rel => exact ⟨rfl, hI⟩
        | false =>
          refine wp_region_held_drew (S := Below go wG) (by kernel_rfl) HI.out.drew.bel ?_
          intro hS
          have hI := HI.out.drew
          clear HI
          change wpAnyH _ _ _ _ _ _ _ _ (World.drew wr)
          generalize World.drew wr = y0 at *
          refine wpAnyH_take (i := 0) (v := .bool false) rfl (by kernel_rfl) (by kernel_rfl) (by kernel_rfl) (fun _ _ _ h => h) (Or.inl ⟨by rfl, fun wx hx => by simp [go_sem]⟩) hS ?_
          simp only [Act.put, List.getElem_toArray, List.getElem_cons_zero, List.setIfInBounds_toArray, List.set_cons_zero, List.set_cons_succ]
          refine wpAnyH_take (i := 1) (v := .bool true) rfl (by kernel_rfl) (by kernel_rfl) (by kernel_rfl) (fun _ _ _ h => h) (Or.inl ⟨by rfl, fun wx hx => by simp [go_sem]⟩) hS ?_
          simp only [Act.put, List.getElem_toArray, List.getElem_cons_succ, List.getElem_cons_zero, List.setIfInBounds_toArray, List.set_cons_zero, List.set_cons_succ]
          refine wpAnyH_take (i := 2) (v := .bool true) rfl (by kernel_rfl) (by kernel_rfl) (by kernel_rfl) (fun _ _ _ h => h) (Or.inl ⟨by rfl, fun wx hx => by simp [go_sem]⟩) hS ?_
          simp only [Act.put, List.getElem_toArray, List.getElem_cons_succ, List.getElem_cons_zero, List.setIfInBounds_toArray, List.set_cons_zero, List.set_cons_succ]
          refine wpAnyH_take (i := 3) (v := .pointer (some ⟨gl, 0, none⟩)) rfl (by kernel_rfl) (by kernel_rfl) (by kernel_rfl) (fun _ _ _ h => h) (Or.inl ⟨by rfl, fun wx hx => by simp [go_sem]⟩) hS ?_
          simp only [Act.put, List.getElem_toArray, List.getElem_cons_succ, List.getElem_cons_zero, List.setIfInBounds_toArray, List.set_cons_zero, List.set_cons_succ]
          refine wpAnyH_take (i := 4) (v := .slice (some ⟨ba, offa, none⟩) n cpa) rfl (by kernel_rfl) (by kernel_rfl) (by kernel_rfl) (fun _ _ _ h => h) (Or.inl ⟨by rfl, fun wx hx => by (have hc := HCA.out wx hx; simp [go_sem, hc])⟩) hS ?_
          simp only [Act.put, List.getElem_toArray, List.getElem_cons_succ, List.getElem_cons_zero, List.setIfInBounds_toArray, List.set_cons_zero, List.set_cons_succ]
          refine wpAnyH_take (i := 5) (v := .int .i64 (k : Int)) rfl (by kernel_rfl) (by kernel_rfl) (by kernel_rfl) (fun _ _ _ h => h) (Or.inl ⟨by rfl, fun wx hx => by simp [go_sem]⟩) hS ?_
          simp only [Act.put, List.getElem_toArray, List.getElem_cons_succ, List.getElem_cons_zero, List.setIfInBounds_toArray, List.set_cons_zero, List.set_cons_succ]
          refine wpAnyH_take (i := 6) (v := .pointer (some ⟨ba, offa + k * 32, none⟩)) rfl (by kernel_rfl) (by kernel_rfl) (by kernel_rfl) (fun _ _ _ h => h) (Or.inl ⟨by rfl, fun wx hx => by (simp [go_sem, hlti, k0])⟩) hS ?_
          simp only [Act.put, List.getElem_toArray, List.getElem_cons_succ, List.getElem_cons_zero, List.setIfInBounds_toArray, List.set_cons_zero, List.set_cons_succ]
          refine wpAnyH_take (i := 7) (v := .agg (cb da).toArray) rfl (by kernel_rfl) (by kernel_rfl) (by kernel_rfl) (fun _ _ _ h => h) (Or.inl ⟨by rfl, fun wx hx => by exact load_run 40 _ rfl _ _ rfl (cb da) _ (HRA.out wx hx) Tryz.underlying40 rfl (by rw [cb_len, HA32.out]; exact info_digest)⟩) hS ?_
          simp only [Act.put, List.getElem_toArray, List.getElem_cons_succ, List.getElem_cons_zero, List.setIfInBounds_toArray, List.set_cons_zero, List.set_cons_succ]
          refine wpAnyH_take (i := 8) (v := .agg (cb x).toArray) rfl (by kernel_rfl) (by kernel_rfl) (by kernel_rfl) (fun _ _ _ h => h) (Or.inl ⟨by rfl, fun wx hx => by exact loadDigest _ (gl + 1) x HX32.out (HCX.out wx hx) rfl rfl⟩) hS ?_
          simp only [Act.put, List.getElem_toArray, List.getElem_cons_succ, List.getElem_cons_zero, List.setIfInBounds_toArray, List.set_cons_zero, List.set_cons_succ]
          refine wpAnyH_enter 9 (by kernel_rfl) rfl (by rfl) (f := 29) (args := #[.agg (cb da).toArray, .agg (cb x).toArray]) (by simp [go_sem]) (sLess_any da x HA32.out HX32.out _) ?_
          rintro e wy ⟨rfl, hbq⟩
          rw [HLS.out]
          replace hI := hI.next hbq
          refine ⟨_, rfl, hI.bel, ?_⟩
          replace hS := hI.bel
          clear hbq
          simp only [Act.put, List.getElem_toArray, List.getElem_cons_succ, List.getElem_cons_zero, List.setIfInBounds_toArray, List.set_cons_zero, List.set_cons_succ]
          refine wpAnyH_take (i := 10) (v := .bool (!ls)) rfl (by kernel_rfl) (by kernel_rfl) (by kernel_rfl) (fun _ _ _ h => h) (Or.inl ⟨by rfl, fun wx hx => by simp [go_sem]⟩) hS ?_
          simp only [Act.put, List.getElem_toArray, List.getElem_cons_succ, List.getElem_cons_zero, List.setIfInBounds_toArray, List.set_cons_zero, List.set_cons_succ]
          refine wpAnyH_take (i := 11) (v := .bool (!ls)) rfl (by kernel_rfl) (by kernel_rfl) (by kernel_rfl) (fun _ _ _ h => h) (Or.inl ⟨by rfl, fun wx hx => by simp [go_sem]⟩) hS ?_
          simp only [Act.put, List.getElem_toArray, List.getElem_cons_succ, List.getElem_cons_zero, List.setIfInBounds_toArray, List.set_cons_zero, List.set_cons_succ]
          refine wpAnyH_done (by kernel_rfl) ?_ _
          go_wp2
          go_meet
          case rel => exact ⟨rfl, hI⟩
      case rest =>
        clear HI ca
        obtain ⟨rfl, hcut⟩ := hcut
        have HI : Hid (Lv wG go xa xv (A.map (·.1)) (A.map (·.2)) wc) := hcut
        clear hcut
        obtain ⟨wz, HWQ⟩ : ∃ z, Hid (z = wc) := ⟨_, rfl⟩
        rw [← HWQ.out] at HI ⊢
        clear HWQ
        obtain ⟨A2, HA2⟩ : ∃ z, Hid (z = if !pt && !ls then A ++ [(x, v)] else A) := ⟨_, rfl⟩
        rw [← HA2.out] at HNX
        go_upto_if 29 with fail
        go_cut [8] from 29 to 41 (fun b W => b = .bool (pt || !ls) ∧ ∃ xa xv, Lv wG go xa xv (A2.map (·.1)) (A2.map (·.2)) W)
        case first =>
          by_cases hc : (!pt && !ls) = true
          · rw [hc]
            have HA3 : Hid (A2 = A ++ [(x, v)]) := by show _ = _; rw [HA2.out, hc]; rfl
            obtain ⟨hp1, hp2⟩ : pt = false ∧ ls = false := by cases pt <;> cases ls <;> simp at hc ⊢
            subst hp1 hp2
            clear hc
            have hI := HI.out
            obtain ⟨aB, cB, hxB⟩ := hI.own.a.slice
            obtain ⟨nB, HNB⟩ : ∃ z : Nat, Hid (z = (A.map (·.1)).length) := ⟨_, rfl⟩
            rw [← HNB.out] at hxB
            have hce : wz.cell? ⟨go, 0, none⟩ = some xa := hI.out.cell 0
            subst hxB
            clear hI
            go_upto_region 8 with (first
              | (with_reducible refine wpSeq_loadD (.tmp 4) (gl + 1) x ?_ ?_ ?_ ?_ ?_ ?_
                 · exact HX32.out
                 · exact HCX.out _ HI.out.bel
                 · with_reducible rfl
                 · rfl
                 · rfl)
              | (with_reducible refine wpSeq_buildD (.tmp 32) x ?_ ?_ ?_ ?_ ?_
                 · exact HX32.out
                 · with_reducible rfl
                 · rfl
                 · rfl
                 intro g8 w8 n8
                 have hI8 := HI.out.next n8.below
                 have HU : Hid (Blk w8 g8 (cb x) 40) := n8.blk
                 clear n8 HI hce)
              | (with_reducible refine wpSeq_appendD (.tmp 31) (.tmp 33) (go + 1) (.slice aB nB cB) _ x g8 hI8.own.a HU.out HX32.out ?_ (Nat.succ_le_of_lt hI8.out.lt) ?_ ?_ ?_ ?_ ?_
                 · rw [List.length_map]; exact Nat.lt_of_lt_of_le HAL.out (by decide)
                 · with_reducible rfl
                 · rfl
                 · rfl
                 · rfl
                 intro z9 w9 o9 g9
                 have hJ := hI8.addA o9 g9
                 have hb9 := hI8.out.grow g9 (fun j hj => (hI8.own.a.lt j hj).1) (Nat.lt_succ_self _)
                 have hc9 := hb9.cell 0
                 have hf9 := hb9.frozen 0
                 simp only [List.getElem?_cons_zero] at hc9
                 obtain ⟨aB2, cB2, hxB⟩ := o9.slice
                 obtain ⟨nB2, HNB2⟩ : ∃ z : Nat, Hid (z = (A.map (·.1) ++ [x]).length) := ⟨_, rfl⟩
                 rw [← HNB2.out] at hxB
                 subst hxB
                 have HJ : Hid _ := hJ
                 clear o9 g9 hb9 hI8 HU hJ))
            have HI := HJ
            clear HJ hc9 hf9
            generalize w9.setCell ⟨go, 0, none⟩ (.slice aB2 nB2 cB2) = w10 at *
            generalize Value.slice aB2 nB2 cB2 = xa2 at *
            have hI := HI.out
            obtain ⟨aC, cC, hxC⟩ := hI.own.v.slice
            obtain ⟨nC, HNC⟩ : ∃ z : Nat, Hid (z = (A.map (·.2)).length) := ⟨_, rfl⟩
            rw [← HNC.out] at hxC
            have hce : w10.cell? ⟨go, 1, none⟩ = some xv := hI.out.cell 1
            subst hxC
            clear hI
            go_wp2_with (first
              | (with_reducible refine wpSeq_loadD (.tmp 5) (gl + 2) v ?_ ?_ ?_ ?_ ?_ ?_
                 · exact HY32.out
                 · exact HCY.out _ HI.out.bel
                 · with_reducible rfl
                 · rfl
                 · rfl)
              | (with_reducible refine wpSeq_buildD (.tmp 38) v ?_ ?_ ?_ ?_ ?_
                 · exact HY32.out
                 · with_reducible rfl
                 · rfl
                 · rfl
                 intro g8 w8 n8
                 have hI8 := HI.out.next n8.below
                 have HU : Hid (Blk w8 g8 (cb v) 40) := n8.blk
                 clear n8 HI hce)
              | (with_reducible refine wpSeq_appendD (.tmp 37) (.tmp 39) (go + 1) (.slice aC nC cC) _ v g8 hI8.own.v HU.out HY32.out ?_ (Nat.succ_le_of_lt hI8.out.lt) ?_ ?_ ?_ ?_ ?_
                 · rw [List.length_map]; exact Nat.lt_of_lt_of_le HAL.out (by decide)
                 · with_reducible rfl
                 · rfl
                 · rfl
                 · rfl
                 intro z9 w9 o9 g9
                 have hJ := hI8.addV o9 g9
                 have hb9 := hI8.out.grow g9 (fun j hj => (hI8.own.v.lt j hj).1) (Nat.lt_succ_self _)
                 have hc9 := hb9.cell 1
                 have hf9 := hb9.frozen 1
                 simp only [List.getElem?_cons_succ, List.getElem?_cons_zero] at hc9
                 obtain ⟨aC2, cC2, hxC⟩ := o9.slice
                 obtain ⟨nC2, HNC2⟩ : ∃ z : Nat, Hid (z = (A.map (·.2) ++ [v]).length) := ⟨_, rfl⟩
                 rw [← HNC2.out] at hxC
                 subst hxC
                 have HJ : Hid _ := hJ
                 clear o9 g9 hb9 hI8 HU hJ))
            go_meet
            case rel => exact ⟨rfl, _, _, by rw [HA3.out]; simpa using HJ.out⟩
          · have hc2 : (!pt && !ls) = false := by simpa using hc
            rw [hc2]
            have HA3 : Hid (A2 = A) := by show _ = _; rw [HA2.out, hc2]; rfl
            have HPL : Hid ((pt || !ls) = pt) := by show _ = _; cases pt <;> cases ls <;> simp at hc2 ⊢
            go_wp2
            go_meet
            case rel => exact ⟨by rw [HPL.out], _, _, by rw [HA3.out]; exact HI.out⟩
        case rest =>
          clear HI
          obtain ⟨rfl, xa1, xv1, hcut⟩ := hcut
          have HI : Hid (Lv wG go xa1 xv1 (A2.map (·.1)) (A2.map (·.2)) wc) := hcut
          clear hcut
          have HAL2 : Hid (A2.length < 1600000) := by
            show _ < _
            have h1 := HAL.out
            rw [HA2.out]
            split
            · rw [List.length_append]; simp; omega
            · omega
          obtain ⟨wz2, HWQ⟩ : ∃ z, Hid (z = wc) := ⟨_, rfl⟩
          rw [← HWQ.out] at HI ⊢
          clear HWQ HA2 HAL HPT
          have heq : ∀ wx : World, (Op.equalIn 10000 40 (.agg (cb da).toArray) (.agg (cb x).toArray)).run Tryz.prog wx = .ok (decide (da = x)) wx := fun wx => eq_dig da x HA32.out HX32.out wx
          go_upto_region 10 with fail
          go_cut [48] from 42 to 48 (fun b W => b = .bool (!decide (da = x)) ∧ Lv wG go xa1 xv1 (A2.map (·.1)) (A2.map (·.2)) W)
          case first =>
            refine wp_region_held_drew (S := Below go wG) (by kernel_rfl) HI.out.drew.bel ?_
            intro hS
            have hI := HI.out.drew
            clear HI
            change wpAnyH _ _ _ _ _ _ _ _ (World.drew wz2)
            generalize World.drew wz2 = y0 at *
            refine wpAnyH_take (i := 0) (v := .pointer (some ⟨gl, 0, none⟩)) rfl (by kernel_rfl) (by kernel_rfl) (by kernel_rfl) (fun _ _ _ h => h) (Or.inl ⟨by rfl, fun wx hx => by simp [go_sem]⟩) hS ?_
            simp only [Act.put, List.getElem_toArray, List.getElem_cons_zero, List.setIfInBounds_toArray, List.set_cons_zero, List.set_cons_succ]
            refine wpAnyH_take (i := 1) (v := .slice (some ⟨ba, offa, none⟩) n cpa) rfl (by kernel_rfl) (by kernel_rfl) (by kernel_rfl) (fun _ _ _ h => h) (Or.inl ⟨by rfl, fun wx hx => by (have hc := HCA.out wx hx; simp [go_sem, hc])⟩) hS ?_
            simp only [Act.put, List.getElem_toArray, List.getElem_cons_succ, List.getElem_cons_zero, List.setIfInBounds_toArray, List.set_cons_zero, List.set_cons_succ]
            refine wpAnyH_take (i := 2) (v := .int .i64 (k : Int)) rfl (by kernel_rfl) (by kernel_rfl) (by kernel_rfl) (fun _ _ _ h => h) (Or.inl ⟨by rfl, fun wx hx => by simp [go_sem]⟩) hS ?_
            simp only [Act.put, List.getElem_toArray, List.getElem_cons_succ, List.getElem_cons_zero, List.setIfInBounds_toArray, List.set_cons_zero, List.set_cons_succ]
            refine wpAnyH_take (i := 3) (v := .pointer (some ⟨ba, offa + k * 32, none⟩)) rfl (by kernel_rfl) (by kernel_rfl) (by kernel_rfl) (fun _ _ _ h => h) (Or.inl ⟨by rfl, fun wx hx => by (simp [go_sem, hlti, k0])⟩) hS ?_
            simp only [Act.put, List.getElem_toArray, List.getElem_cons_succ, List.getElem_cons_zero, List.setIfInBounds_toArray, List.set_cons_zero, List.set_cons_succ]
            refine wpAnyH_take (i := 4) (v := .agg (cb da).toArray) rfl (by kernel_rfl) (by kernel_rfl) (by kernel_rfl) (fun _ _ _ h => h) (Or.inl ⟨by rfl, fun wx hx => by exact load_run 40 _ rfl _ _ rfl (cb da) _ (HRA.out wx hx) Tryz.underlying40 rfl (by rw [cb_len, HA32.out]; exact info_digest)⟩) hS ?_
            simp only [Act.put, List.getElem_toArray, List.getElem_cons_succ, List.getElem_cons_zero, List.setIfInBounds_toArray, List.set_cons_zero, List.set_cons_succ]
            refine wpAnyH_take (i := 5) (v := .agg (cb x).toArray) rfl (by kernel_rfl) (by kernel_rfl) (by kernel_rfl) (fun _ _ _ h => h) (Or.inl ⟨by rfl, fun wx hx => by exact loadDigest _ (gl + 1) x HX32.out (HCX.out wx hx) rfl rfl⟩) hS ?_
            simp only [Act.put, List.getElem_toArray, List.getElem_cons_succ, List.getElem_cons_zero, List.setIfInBounds_toArray, List.set_cons_zero, List.set_cons_succ]
            refine wpAnyH_take (i := 6) (v := .bool (!decide (da = x))) rfl (by kernel_rfl) (by kernel_rfl) (by kernel_rfl) (fun _ _ _ h => h) (Or.inl ⟨by rfl, fun wx hx => by (have hq := heq wx; simp [go_sem, hq])⟩) hS ?_
            simp only [Act.put, List.getElem_toArray, List.getElem_cons_succ, List.getElem_cons_zero, List.setIfInBounds_toArray, List.set_cons_zero, List.set_cons_succ]
            refine wpAnyH_done (by kernel_rfl) ?_ _
            go_wp2
            go_meet
            case rel => exact ⟨rfl, hI⟩
          case rest =>
            clear HI heq
            obtain ⟨rfl, hcut⟩ := hcut
            have HI : Hid (Lv wG go xa1 xv1 (A2.map (·.1)) (A2.map (·.2)) wc) := hcut
            clear hcut
            obtain ⟨wq, HWQ⟩ : ∃ z, Hid (z = wc) := ⟨_, rfl⟩
            rw [← HWQ.out] at HI ⊢
            clear HWQ
            by_cases hne : da = x
            · have HN3 : Hid (PtI l x v (k + 1) (pt || !ls) A2) := by
                have h := HNX.out
                rw [decide_eq_false (by simp [hne])] at h
                show PtI _ _ _ _ _ _
                simpa using h
              rw [decide_eq_true hne]
              clear hne HNX
              go_wp2
              go_roundw
              case rel => exact ⟨k + 1, _, _, _, _, by omega, rfl, by simp, HI.out, HN3.out⟩
              case measure => simp [intOf]; omega
            · have HN3 : Hid (PtI l x v (k + 1) (pt || !ls) (A2 ++ [(da, dv)])) := by
                have h := HNX.out
                rw [decide_eq_true (by simpa using hne)] at h
                exact h
              rw [decide_eq_false hne]
              clear hne HNX
              go_wp2_with fail
              refine wp_region_held_drew (S := Below go wG) (by kernel_rfl) HI.out.drew.bel ?_
              intro hS
              have hI := HI.out.drew
              clear HI
              change wpAnyH _ _ _ _ _ _ _ _ (World.drew wq)
              generalize World.drew wq = yD at *
              refine wpAnyH_take (i := 0) (v := .pointer (some ⟨go, 0, none⟩)) rfl (by kernel_rfl) (by kernel_rfl) (by kernel_rfl) (fun _ _ _ h => h) (Or.inl ⟨by rfl, fun wx hx => by simp [go_sem]⟩) hS ?_
              simp only [Act.put, List.getElem_toArray, List.getElem_cons_zero, List.setIfInBounds_toArray, List.set_cons_zero, List.set_cons_succ]
              refine wpAnyH_take (i := 2) (v := .pointer (some ⟨gl, 0, none⟩)) rfl (by kernel_rfl) (by kernel_rfl) (by kernel_rfl) (fun _ _ _ h => h) (Or.inl ⟨by rfl, fun wx hx => by simp [go_sem]⟩) hS ?_
              simp only [Act.put, List.getElem_toArray, List.getElem_cons_succ, List.getElem_cons_zero, List.setIfInBounds_toArray, List.set_cons_zero, List.set_cons_succ]
              refine wpAnyH_take (i := 4) (v := .int .i64 (k : Int)) rfl (by kernel_rfl) (by kernel_rfl) (by kernel_rfl) (fun _ _ _ h => h) (Or.inl ⟨by rfl, fun wx hx => by simp [go_sem]⟩) hS ?_
              simp only [Act.put, List.getElem_toArray, List.getElem_cons_succ, List.getElem_cons_zero, List.setIfInBounds_toArray, List.set_cons_zero, List.set_cons_succ]
              refine wpAnyH_take (i := 3) (v := .slice (some ⟨ba, offa, none⟩) n cpa) rfl (by kernel_rfl) (by kernel_rfl) (by kernel_rfl) (fun _ _ _ h => h) (Or.inl ⟨by rfl, fun wx hx => by (have hc := HCA.out wx hx; simp [go_sem, hc])⟩) hS ?_
              simp only [Act.put, List.getElem_toArray, List.getElem_cons_succ, List.getElem_cons_zero, List.setIfInBounds_toArray, List.set_cons_zero, List.set_cons_succ]
              refine wpAnyH_take (i := 5) (v := .pointer (some ⟨ba, offa + k * 32, none⟩)) rfl (by kernel_rfl) (by kernel_rfl) (by kernel_rfl) (fun _ _ _ h => h) (Or.inl ⟨by rfl, fun wx hx => by (simp [go_sem, hlti, k0])⟩) hS ?_
              simp only [Act.put, List.getElem_toArray, List.getElem_cons_succ, List.getElem_cons_zero, List.setIfInBounds_toArray, List.set_cons_zero, List.set_cons_succ]
              refine wpAnyH_take (i := 6) (v := .agg (cb da).toArray) rfl (by kernel_rfl) (by kernel_rfl) (by kernel_rfl) (fun _ _ _ h => h) (Or.inl ⟨by rfl, fun wx hx => by exact load_run 40 _ rfl _ _ rfl (cb da) _ (HRA.out wx hx) Tryz.underlying40 rfl (by rw [cb_len, HA32.out]; exact info_digest)⟩) hS ?_
              simp only [Act.put, List.getElem_toArray, List.getElem_cons_succ, List.getElem_cons_zero, List.setIfInBounds_toArray, List.set_cons_zero, List.set_cons_succ]
              have hnb := NewB.of da yD
              have hn1 := hI.next hnb.below
              obtain ⟨aD, cD, hxD⟩ := hI.own.a.slice
              obtain ⟨nD, HND⟩ : ∃ z : Nat, Hid (z = (A2.map (·.1)).length) := ⟨_, rfl⟩
              rw [← HND.out] at hxD
              have hce : yD.cell? ⟨go, 0, none⟩ = some xa1 := hI.out.cell 0
              have hce2 : (yD.alloc (.cells (cb da).toArray 40)).cell? ⟨go, 0, none⟩ = some xa1 := hn1.out.cell 0
              subst hxD
              refine wpAnyH_comm 1 7 (.slice aD nD cD) (.slice (some ⟨yD.heap.size, 0, none⟩) 1 1) (yD.alloc (.cells (cb da).toArray 40)) (by kernel_rfl) rfl rfl (by rfl) (by rfl) (by rfl) (by rfl) (by simp [go_sem, hce]) (buildD _ _ _ rfl da HA32.out rfl _) (by simp [go_sem, hce2]) (buildD _ _ _ rfl da HA32.out rfl _) (by kernel_rfl) (by kernel_rfl) (by rfl) (by rfl) hS hn1.bel ?_
              simp only [Act.put, List.getElem_toArray, List.getElem_cons_succ, List.getElem_cons_zero, List.setIfInBounds_toArray, List.set_cons_zero, List.set_cons_succ]
              have hI2 := hn1
              have HU : Hid (Blk (yD.alloc (.cells (cb da).toArray 40)) yD.heap.size (cb da) 40) := hnb.blk
              clear hn1 hnb hce hce2 hS hI
              refine wpAnyH_law 8 (by kernel_rfl) rfl (by rfl) (wp_appendG (.tmp 50) (.tmp 56) (go + 1) (.slice aD nD cD) _ da yD.heap.size hI2.own.a HU.out HA32.out (by rw [List.length_map]; exact Nat.lt_of_lt_of_le HAL2.out (by decide)) hI2.out.lt rfl rfl rfl ?_)
              intro zD qD hoD hgD
              have hI := hI2.addA hoD hgD
              have hsq : Below go wG qD := hI2.bel.trans (hgD.below.mono (Nat.le_succ _))
              have hbq := hI2.out.grow hgD (fun j hj => (hI2.own.a.lt j hj).1) (Nat.lt_succ_self _)
              have hcq := hbq.cell 0
              have hfq := hbq.frozen 0
              obtain ⟨aD2, cD2, hxD⟩ := hoD.slice
              obtain ⟨nD2, HND2⟩ : ∃ z : Nat, Hid (z = (A2.map (·.1) ++ [da]).length) := ⟨_, rfl⟩
              rw [← HND2.out] at hxD
              subst hxD
              refine ⟨hsq, ?_⟩
              simp only [Act.put, List.getElem_toArray, List.getElem_cons_succ, List.getElem_cons_zero, List.setIfInBounds_toArray, List.set_cons_zero, List.set_cons_succ]
              refine wpAnyH_take (i := 9) (v := .pointer (some ⟨go, 0, none⟩)) rfl (by kernel_rfl) (by kernel_rfl) (by kernel_rfl) (fun _ _ _ h => h) (Or.inl ⟨by rfl, fun wx hx => by simp [go_sem]⟩) hsq ?_
              simp only [Act.put, List.getElem_toArray, List.getElem_cons_succ, List.getElem_cons_zero, List.setIfInBounds_toArray, List.set_cons_zero, List.set_cons_succ]
              refine wpAnyH_skip 10 (qD.setCell ⟨go, 0, none⟩ (.slice aD2 nD2 cD2)) (by kernel_rfl) rfl (by rfl) (by simp [go_sem, hcq, hfq]) hI.bel ?_
              simp only [Act.put, List.getElem_toArray, List.getElem_cons_succ, List.getElem_cons_zero]
              refine wpAnyH_done (by kernel_rfl) ?_ _
              clear hoD hgD hsq hbq hcq hfq hI2 HU
              generalize qD.setCell ⟨go, 0, none⟩ (.slice aD2 nD2 cD2) = WD at *
              have HI : Hid (Lv wG go (.slice aD2 nD2 cD2) xv1 (A2.map (·.1) ++ [da]) (A2.map (·.2)) WD) := hI
              clear hI HRA HCA
              generalize Value.slice aD2 nD2 cD2 = xa2 at *
              go_wp2_with fail
              refine wp_region_held_drew (S := Below go wG) (by kernel_rfl) HI.out.drew.bel ?_
              intro hS
              have hI := HI.out.drew
              clear HI
              change wpAnyH _ _ _ _ _ _ _ _ (World.drew WD)
              generalize World.drew WD = yE at *
              refine wpAnyH_take (i := 0) (v := .pointer (some ⟨go, 1, none⟩)) rfl (by kernel_rfl) (by kernel_rfl) (by kernel_rfl) (fun _ _ _ h => h) (Or.inl ⟨by rfl, fun wx hx => by simp [go_sem]⟩) hS ?_
              simp only [Act.put, List.getElem_toArray, List.getElem_cons_zero, List.setIfInBounds_toArray, List.set_cons_zero, List.set_cons_succ]
              refine wpAnyH_take (i := 2) (v := .pointer (some ⟨gl, 1, none⟩)) rfl (by kernel_rfl) (by kernel_rfl) (by kernel_rfl) (fun _ _ _ h => h) (Or.inl ⟨by rfl, fun wx hx => by simp [go_sem]⟩) hS ?_
              simp only [Act.put, List.getElem_toArray, List.getElem_cons_succ, List.getElem_cons_zero, List.setIfInBounds_toArray, List.set_cons_zero, List.set_cons_succ]
              refine wpAnyH_take (i := 4) (v := .int .i64 (k : Int)) rfl (by kernel_rfl) (by kernel_rfl) (by kernel_rfl) (fun _ _ _ h => h) (Or.inl ⟨by rfl, fun wx hx => by simp [go_sem]⟩) hS ?_
              simp only [Act.put, List.getElem_toArray, List.getElem_cons_succ, List.getElem_cons_zero, List.setIfInBounds_toArray, List.set_cons_zero, List.set_cons_succ]
              refine wpAnyH_take (i := 3) (v := .slice (some ⟨bv, offv, none⟩) n cpv) rfl (by kernel_rfl) (by kernel_rfl) (by kernel_rfl) (fun _ _ _ h => h) (Or.inl ⟨by rfl, fun wx hx => by (have hc := HCV.out wx hx; simp [go_sem, hc])⟩) hS ?_
              simp only [Act.put, List.getElem_toArray, List.getElem_cons_succ, List.getElem_cons_zero, List.setIfInBounds_toArray, List.set_cons_zero, List.set_cons_succ]
              refine wpAnyH_take (i := 5) (v := .pointer (some ⟨bv, offv + k * 32, none⟩)) rfl (by kernel_rfl) (by kernel_rfl) (by kernel_rfl) (fun _ _ _ h => h) (Or.inl ⟨by rfl, fun wx hx => by (simp [go_sem, hlti, k0])⟩) hS ?_
              simp only [Act.put, List.getElem_toArray, List.getElem_cons_succ, List.getElem_cons_zero, List.setIfInBounds_toArray, List.set_cons_zero, List.set_cons_succ]
              refine wpAnyH_take (i := 6) (v := .agg (cb dv).toArray) rfl (by kernel_rfl) (by kernel_rfl) (by kernel_rfl) (fun _ _ _ h => h) (Or.inl ⟨by rfl, fun wx hx => by exact load_run 40 _ rfl _ _ rfl (cb dv) _ (HRV.out wx hx) Tryz.underlying40 rfl (by rw [cb_len, HV32.out]; exact info_digest)⟩) hS ?_
              simp only [Act.put, List.getElem_toArray, List.getElem_cons_succ, List.getElem_cons_zero, List.setIfInBounds_toArray, List.set_cons_zero, List.set_cons_succ]
              have hnb := NewB.of dv yE
              have hn1 := hI.next hnb.below
              obtain ⟨aE, cE, hxE⟩ := hI.own.v.slice
              obtain ⟨nE, HNE⟩ : ∃ z : Nat, Hid (z = (A2.map (·.2)).length) := ⟨_, rfl⟩
              rw [← HNE.out] at hxE
              have hce : yE.cell? ⟨go, 1, none⟩ = some xv1 := hI.out.cell 1
              have hce2 : (yE.alloc (.cells (cb dv).toArray 40)).cell? ⟨go, 1, none⟩ = some xv1 := hn1.out.cell 1
              subst hxE
              refine wpAnyH_comm 1 7 (.slice aE nE cE) (.slice (some ⟨yE.heap.size, 0, none⟩) 1 1) (yE.alloc (.cells (cb dv).toArray 40)) (by kernel_rfl) rfl rfl (by rfl) (by rfl) (by rfl) (by rfl) (by simp [go_sem, hce]) (buildD _ _ _ rfl dv HV32.out rfl _) (by simp [go_sem, hce2]) (buildD _ _ _ rfl dv HV32.out rfl _) (by kernel_rfl) (by kernel_rfl) (by rfl) (by rfl) hS hn1.bel ?_
              simp only [Act.put, List.getElem_toArray, List.getElem_cons_succ, List.getElem_cons_zero, List.setIfInBounds_toArray, List.set_cons_zero, List.set_cons_succ]
              have hI2 := hn1
              have HU : Hid (Blk (yE.alloc (.cells (cb dv).toArray 40)) yE.heap.size (cb dv) 40) := hnb.blk
              clear hn1 hnb hce hce2 hS hI
              refine wpAnyH_law 8 (by kernel_rfl) rfl (by rfl) (wp_appendG (.tmp 60) (.tmp 66) (go + 1) (.slice aE nE cE) _ dv yE.heap.size hI2.own.v HU.out HV32.out (by rw [List.length_map]; exact Nat.lt_of_lt_of_le HAL2.out (by decide)) hI2.out.lt rfl rfl rfl ?_)
              intro zE qE hoE hgE
              have hI := hI2.addV hoE hgE
              have hsq : Below go wG qE := hI2.bel.trans (hgE.below.mono (Nat.le_succ _))
              have hbq := hI2.out.grow hgE (fun j hj => (hI2.own.v.lt j hj).1) (Nat.lt_succ_self _)
              have hcq := hbq.cell 1
              have hfq := hbq.frozen 1
              obtain ⟨aE2, cE2, hxE⟩ := hoE.slice
              obtain ⟨nE2, HNE2⟩ : ∃ z : Nat, Hid (z = (A2.map (·.2) ++ [dv]).length) := ⟨_, rfl⟩
              rw [← HNE2.out] at hxE
              subst hxE
              refine ⟨hsq, ?_⟩
              simp only [Act.put, List.getElem_toArray, List.getElem_cons_succ, List.getElem_cons_zero, List.setIfInBounds_toArray, List.set_cons_zero, List.set_cons_succ]
              refine wpAnyH_take (i := 9) (v := .pointer (some ⟨go, 1, none⟩)) rfl (by kernel_rfl) (by kernel_rfl) (by kernel_rfl) (fun _ _ _ h => h) (Or.inl ⟨by rfl, fun wx hx => by simp [go_sem]⟩) hsq ?_
              simp only [Act.put, List.getElem_toArray, List.getElem_cons_succ, List.getElem_cons_zero, List.setIfInBounds_toArray, List.set_cons_zero, List.set_cons_succ]
              refine wpAnyH_skip 10 (qE.setCell ⟨go, 1, none⟩ (.slice aE2 nE2 cE2)) (by kernel_rfl) rfl (by rfl) (by simp [go_sem, hcq, hfq]) hI.bel ?_
              simp only [Act.put, List.getElem_toArray, List.getElem_cons_succ, List.getElem_cons_zero]
              refine wpAnyH_done (by kernel_rfl) ?_ _
              clear hoE hgE hsq hbq hcq hfq hI2 HU
              generalize qE.setCell ⟨go, 1, none⟩ (.slice aE2 nE2 cE2) = WE at *
              have HJ : Hid (Lv wG go xa2 (.slice aE2 nE2 cE2) ((A2 ++ [(da, dv)]).map (·.1)) ((A2 ++ [(da, dv)]).map (·.2)) WE) := by
                show Lv _ _ _ _ _ _ _
                simpa using hI
              clear hI
              go_wp2
              go_roundw
              case rel => exact ⟨k + 1, _, _, _, _, by omega, rfl, by simp, HJ.out, HN3.out⟩
              case measure => simp [intOf]; omega
    · have hkn : k = n := by omega
      subst hkn
      have ht : l.take k = l := by rw [HN.out]; exact List.take_length
      have HDN : Hid (putL l x v = A ++ if pt then [] else [(x, v)]) := HPT.out.done ht
      clear HPT ht
      cases pt with
      | true =>
        replace HDN : Hid (putL l x v = A) := by have h := HDN.out; show _ = _; simpa using h
        have hI2 := HI.out
        obtain ⟨adx, cpx, hxa⟩ := hI2.own.a.slice
        obtain ⟨adw, cpw, hxv⟩ := hI2.own.v.slice
        obtain ⟨nx, HNX⟩ : ∃ z : Nat, Hid (z = (A.map (·.1)).length) := ⟨_, rfl⟩
        obtain ⟨nw, HNW⟩ : ∃ z : Nat, Hid (z = (A.map (·.2)).length) := ⟨_, rfl⟩
        rw [← HNX.out] at hxa
        rw [← HNW.out] at hxv
        subst hxa hxv
        have HE : Hid (Lv wG go (.slice adx nx cpx) (.slice adw nw cpw) (A.map (·.1)) (A.map (·.2)) wr) := hI2
        have d0 : wr.cell? ⟨go, 0, none⟩ = some (.slice adx nx cpx) := hI2.out.cell 0
        have d1 : wr.cell? ⟨go, 1, none⟩ = some (.slice adw nw cpw) := hI2.out.cell 1
        have hr := HRB.out.below hI2.bel (by have := HSZ.out; omega)
        have r0 : wr.cell? ⟨gl + 3, 0, none⟩ = some (.slice none 0 0) := hr.cell 0
        have r1 : wr.cell? ⟨gl + 3, 1, none⟩ = some (.slice none 0 0) := hr.cell 1
        have q0 : wr.frozen? ⟨gl + 3, 0, none⟩ = false := hr.frozen 0
        have q1 : wr.frozen? ⟨gl + 3, 1, none⟩ = false := hr.frozen 1
        have HRR : Hid (Blk wr (gl + 3) [nilV, nilV] 47) := hr
        clear hI2 hr HI
        go_wp2
        have hB6 : Blk ((wr.setCell ⟨gl + 3, 0, none⟩ (.slice adx nx cpx)).setCell ⟨gl + 3, 1, none⟩ (.slice adw nw cpw)) (gl + 3) [.slice adx nx cpx, .slice adw nw cpw] 47 := (HRR.out.set 0 _).set 1 _
        refine bodyPost_ret (v := .agg [.slice adx nx cpx, .slice adw nw cpw].toArray) (results_cell_row (by rfl) _ _ (gl + 3) 47 _ (0, 0) _ rfl hB6 Tryz.underlying47 rfl (by kernel_rfl)) rfl ⟨_, _, rfl, ?_, ?_⟩
        · rw [HDN.out]
          refine (HE.out.own.keep fun j h1 _ => ?_).mono (by have h1 := HSZ.out; have h2 := HGL.out; omega)
          rw [Below.heap_setCell _ _ _ _ (by show j ≠ gl + 3; have := HSZ.out; omega), Below.heap_setCell _ _ _ _ (by show j ≠ gl + 3; have := HSZ.out; omega)]
        · exact ((HBW.out.trans (HE.out.bel.mono (by have h1 := HSZ.out; have h2 := HGL.out; omega))).setCell (by show w.heap.size ≤ gl + 3; have := HGL.out; omega) _).setCell (by show w.heap.size ≤ gl + 3; have := HGL.out; omega) _
      | false =>
        replace HDN : Hid (putL l x v = A ++ [(x, v)]) := by have h := HDN.out; show _ = _; simpa using h
        have hI := HI.out
        obtain ⟨aB, cB, hxB⟩ := hI.own.a.slice
        obtain ⟨nB, HNB⟩ : ∃ z : Nat, Hid (z = (A.map (·.1)).length) := ⟨_, rfl⟩
        rw [← HNB.out] at hxB
        have hce : wr.cell? ⟨go, 0, none⟩ = some xa := hI.out.cell 0
        subst hxB
        clear hI
        go_upto_region 15 with (first
          | (with_reducible refine wpSeq_loadD (.tmp 4) (gl + 1) x ?_ ?_ ?_ ?_ ?_ ?_
             · exact HX32.out
             · exact HCX.out _ HI.out.bel
             · with_reducible rfl
             · rfl
             · rfl)
          | (with_reducible refine wpSeq_buildD (.tmp 73) x ?_ ?_ ?_ ?_ ?_
             · exact HX32.out
             · with_reducible rfl
             · rfl
             · rfl
             intro g8 w8 n8
             have hI8 := HI.out.next n8.below
             have HU : Hid (Blk w8 g8 (cb x) 40) := n8.blk
             clear n8 HI hce)
          | (with_reducible refine wpSeq_appendD (.tmp 72) (.tmp 74) (go + 1) (.slice aB nB cB) _ x g8 hI8.own.a HU.out HX32.out ?_ (Nat.succ_le_of_lt hI8.out.lt) ?_ ?_ ?_ ?_ ?_
             · rw [List.length_map]; exact Nat.lt_of_lt_of_le HAL.out (by decide)
             · with_reducible rfl
             · rfl
             · rfl
             · rfl
             intro z9 w9 o9 g9
             have hJ := hI8.addA o9 g9
             have hb9 := hI8.out.grow g9 (fun j hj => (hI8.own.a.lt j hj).1) (Nat.lt_succ_self _)
             have hc9 := hb9.cell 0
             have hf9 := hb9.frozen 0
             simp only [List.getElem?_cons_zero] at hc9
             obtain ⟨aB2, cB2, hxB⟩ := o9.slice
             obtain ⟨nB2, HNB2⟩ : ∃ z : Nat, Hid (z = (A.map (·.1) ++ [x]).length) := ⟨_, rfl⟩
             rw [← HNB2.out] at hxB
             subst hxB
             have HJ : Hid _ := hJ
             clear o9 g9 hb9 hI8 HU hJ))
        have HI := HJ
        clear HJ hc9 hf9
        generalize w9.setCell ⟨go, 0, none⟩ (.slice aB2 nB2 cB2) = w10 at *
        generalize Value.slice aB2 nB2 cB2 = xa2 at *
        have hI := HI.out
        obtain ⟨aC, cC, hxC⟩ := hI.own.v.slice
        obtain ⟨nC, HNC⟩ : ∃ z : Nat, Hid (z = (A.map (·.2)).length) := ⟨_, rfl⟩
        rw [← HNC.out] at hxC
        have hce : w10.cell? ⟨go, 1, none⟩ = some xv := hI.out.cell 1
        subst hxC
        clear hI
        go_upto_region 16 with (first
          | (with_reducible refine wpSeq_loadD (.tmp 5) (gl + 2) v ?_ ?_ ?_ ?_ ?_ ?_
             · exact HY32.out
             · exact HCY.out _ HI.out.bel
             · with_reducible rfl
             · rfl
             · rfl)
          | (with_reducible refine wpSeq_buildD (.tmp 79) v ?_ ?_ ?_ ?_ ?_
             · exact HY32.out
             · with_reducible rfl
             · rfl
             · rfl
             intro g8 w8 n8
             have hI8 := HI.out.next n8.below
             have HU : Hid (Blk w8 g8 (cb v) 40) := n8.blk
             clear n8 HI hce)
          | (with_reducible refine wpSeq_appendD (.tmp 78) (.tmp 80) (go + 1) (.slice aC nC cC) _ v g8 hI8.own.v HU.out HY32.out ?_ (Nat.succ_le_of_lt hI8.out.lt) ?_ ?_ ?_ ?_ ?_
             · rw [List.length_map]; exact Nat.lt_of_lt_of_le HAL.out (by decide)
             · with_reducible rfl
             · rfl
             · rfl
             · rfl
             intro z9 w9 o9 g9
             have hJ := hI8.addV o9 g9
             have hb9 := hI8.out.grow g9 (fun j hj => (hI8.own.v.lt j hj).1) (Nat.lt_succ_self _)
             have hc9 := hb9.cell 1
             have hf9 := hb9.frozen 1
             simp only [List.getElem?_cons_succ, List.getElem?_cons_zero] at hc9
             obtain ⟨aC2, cC2, hxC⟩ := o9.slice
             obtain ⟨nC2, HNC2⟩ : ∃ z : Nat, Hid (z = (A.map (·.2) ++ [v]).length) := ⟨_, rfl⟩
             rw [← HNC2.out] at hxC
             subst hxC
             have HJ : Hid _ := hJ
             clear o9 g9 hb9 hI8 HU hJ))
        have HI : Hid (Lv wG go xa2 (.slice aC2 nC2 cC2) ((A ++ [(x, v)]).map (·.1)) ((A ++ [(x, v)]).map (·.2)) (w9.setCell ⟨go, 1, none⟩ (.slice aC2 nC2 cC2))) := by
          show Lv _ _ _ _ _ _ _
          simpa using HJ.out
        clear HJ hc9 hf9
        generalize w9.setCell ⟨go, 1, none⟩ (.slice aC2 nC2 cC2) = w11 at *
        generalize Value.slice aC2 nC2 cC2 = xv2 at *
        have hI2 := HI.out
        obtain ⟨adx, cpx, hxa⟩ := hI2.own.a.slice
        obtain ⟨adw, cpw, hxv⟩ := hI2.own.v.slice
        obtain ⟨nx, HNX⟩ : ∃ z : Nat, Hid (z = ((A ++ [(x, v)]).map (·.1)).length) := ⟨_, rfl⟩
        obtain ⟨nw, HNW⟩ : ∃ z : Nat, Hid (z = ((A ++ [(x, v)]).map (·.2)).length) := ⟨_, rfl⟩
        rw [← HNX.out] at hxa
        rw [← HNW.out] at hxv
        subst hxa hxv
        have HE : Hid (Lv wG go (.slice adx nx cpx) (.slice adw nw cpw) ((A ++ [(x, v)]).map (·.1)) ((A ++ [(x, v)]).map (·.2)) w11) := hI2
        have d0 : w11.cell? ⟨go, 0, none⟩ = some (.slice adx nx cpx) := hI2.out.cell 0
        have d1 : w11.cell? ⟨go, 1, none⟩ = some (.slice adw nw cpw) := hI2.out.cell 1
        have hr := HRB.out.below hI2.bel (by have := HSZ.out; omega)
        have r0 : w11.cell? ⟨gl + 3, 0, none⟩ = some (.slice none 0 0) := hr.cell 0
        have r1 : w11.cell? ⟨gl + 3, 1, none⟩ = some (.slice none 0 0) := hr.cell 1
        have q0 : w11.frozen? ⟨gl + 3, 0, none⟩ = false := hr.frozen 0
        have q1 : w11.frozen? ⟨gl + 3, 1, none⟩ = false := hr.frozen 1
        have HRR : Hid (Blk w11 (gl + 3) [nilV, nilV] 47) := hr
        clear hI2 hr HI
        go_wp2
        have hB6 : Blk ((w11.setCell ⟨gl + 3, 0, none⟩ (.slice adx nx cpx)).setCell ⟨gl + 3, 1, none⟩ (.slice adw nw cpw)) (gl + 3) [.slice adx nx cpx, .slice adw nw cpw] 47 := (HRR.out.set 0 _).set 1 _
        refine bodyPost_ret (v := .agg [.slice adx nx cpx, .slice adw nw cpw].toArray) (results_cell_row (by rfl) _ _ (gl + 3) 47 _ (0, 0) _ rfl hB6 Tryz.underlying47 rfl (by kernel_rfl)) rfl ⟨_, _, rfl, ?_, ?_⟩
        · rw [HDN.out]
          refine (HE.out.own.keep fun j h1 _ => ?_).mono (by have h1 := HSZ.out; have h2 := HGL.out; omega)
          rw [Below.heap_setCell _ _ _ _ (by show j ≠ gl + 3; have := HSZ.out; omega), Below.heap_setCell _ _ _ _ (by show j ≠ gl + 3; have := HSZ.out; omega)]
        · exact ((HBW.out.trans (HE.out.bel.mono (by have h1 := HSZ.out; have h2 := HGL.out; omega))).setCell (by show w.heap.size ≤ gl + 3; have := HGL.out; omega) _).setCell (by show w.heap.size ≤ gl + 3; have := HGL.out; omega) _
end Go.Proofs.YtphmmnffgknkcabGreatDoor
namespace Go.Proofs.YtphmmnffgknkcabGreatDoor
open Go.RowKit
set_option maxRecDepth 100000
theorem ofL_len (z : List Lf) : (ofL z).length ≤ z.length := by
  have key : ∀ (z l : List Lf), (z.foldl (fun l p => putL l p.1 p.2) l).length ≤ l.length + z.length := by
    intro z
    induction z with
    | nil => intro l; exact Nat.le_refl _
    | cons a r ih =>
      intro l
      have h1 := ih (putL l a.1 a.2)
      have h2 := putL_len l a.1 a.2
      rw [List.foldl_cons, List.length_cons]
      omega
  have := key z []
  simpa [ofL] using this
theorem zip_take {ds es : List (List (BitVec 8))} {k : Nat} (h1 : k < ds.length) (h2 : k < es.length) : (ds.zip es).take (k + 1) = (ds.zip es).take k ++ [(ds.getD k [], es.getD k [])] := by
  have hk : k < (ds.zip es).length := by rw [List.length_zip]; omega
  rw [List.take_add_one, List.getElem?_eq_getElem hk, List.getElem_zip, List.getD_eq_getElem?_getD, List.getD_eq_getElem?_getD, List.getElem?_eq_getElem h1, List.getElem?_eq_getElem h2]
  rfl
end Go.Proofs.YtphmmnffgknkcabGreatDoor
namespace Go.Proofs.YtphmmnffgknkcabGreatDoor
open Go.RowKit
set_option maxRecDepth 100000
end Go.Proofs.YtphmmnffgknkcabGreatDoor
namespace Go.Proofs.YtphmmnffgknkcabGreatDoor
open Go.RowKit
set_option maxRecDepth 100000
def treeV (c : Nat) (rt ix vl : List (BitVec 8)) (p q : Value) : List Value := .int .i64 (c : Int) :: (cb rt ++ (cb ix ++ (cb vl ++ [p, q])))
structure TreeC (W : World) (g c : Nat) (rt ix vl : List (BitVec 8)) (p q : Value) : Prop where
  blk : Blk W g (treeV c rt ix vl p q) 101
  l1 : rt.length = 32
  l2 : ix.length = 32
  l3 : vl.length = 32
theorem TreeC.below {W W' : World} {g c B : Nat} {rt ix vl : List (BitVec 8)} {p q : Value} (h : TreeC W g c rt ix vl p q) (hb : Below B W W') (hB : g < B) : TreeC W' g c rt ix vl p q := ⟨h.blk.below hb hB, h.l1, h.l2, h.l3⟩
theorem TreeC.next {W W' : World} {g c : Nat} {rt ix vl : List (BitVec 8)} {p q : Value} (h : TreeC W g c rt ix vl p q) (hb : Below W.heap.size W W') : TreeC W' g c rt ix vl p q := h.below hb h.blk.lt
theorem TreeC.drew {W : World} {g c : Nat} {rt ix vl : List (BitVec 8)} {p q : Value} (h : TreeC W g c rt ix vl p q) : TreeC W.drew g c rt ix vl p q := ⟨h.blk.drew, h.l1, h.l2, h.l3⟩
theorem TreeC.cnt {W : World} {g c : Nat} {rt ix vl : List (BitVec 8)} {p q : Value} (h : TreeC W g c rt ix vl p q) : W.cell? ⟨g, 0, none⟩ = some (.int .i64 (c : Int)) := by rw [h.blk.cell]; rfl
theorem TreeC.root {W : World} {g c : Nat} {rt ix vl : List (BitVec 8)} {p q : Value} (h : TreeC W g c rt ix vl p q) : W.rangeAt g 1 (cb rt) := fun j v hv => by
  have hj : j < (cb rt).length := (List.getElem?_eq_some_iff.1 hv).1
  rw [h.blk.cell, treeV, Nat.add_comm, List.getElem?_cons_succ, List.getElem?_append_left hj, hv]
theorem TreeC.index {W : World} {g c : Nat} {rt ix vl : List (BitVec 8)} {p q : Value} (h : TreeC W g c rt ix vl p q) : W.rangeAt g 33 (cb ix) := fun j v hv => by
  have hj : j < (cb ix).length := (List.getElem?_eq_some_iff.1 hv).1
  have e1 : (cb rt).length = 32 := by rw [cb_len, h.l1]
  rw [h.blk.cell, treeV, show 33 + j = (32 + j) + 1 by omega, List.getElem?_cons_succ, List.getElem?_append_right (by omega), e1, Nat.add_sub_cancel_left, List.getElem?_append_left hj, hv]
theorem TreeC.value {W : World} {g c : Nat} {rt ix vl : List (BitVec 8)} {p q : Value} (h : TreeC W g c rt ix vl p q) : W.rangeAt g 65 (cb vl) := fun j v hv => by
  have hj : j < (cb vl).length := (List.getElem?_eq_some_iff.1 hv).1
  have e1 : (cb rt).length = 32 := by rw [cb_len, h.l1]
  have e2 : (cb ix).length = 32 := by rw [cb_len, h.l2]
  rw [h.blk.cell, treeV, show 65 + j = (32 + (32 + j)) + 1 by omega, List.getElem?_cons_succ, List.getElem?_append_right (by omega), e1, Nat.add_sub_cancel_left, List.getElem?_append_right (by omega), e2, Nat.add_sub_cancel_left, List.getElem?_append_left hj, hv]
theorem TreeC.tail {W : World} {g c : Nat} {rt ix vl : List (BitVec 8)} {p q : Value} (h : TreeC W g c rt ix vl p q) (j : Nat) : W.cell? ⟨g, 97 + j, none⟩ = [p, q][j]? := by
  have e1 : (cb rt).length = 32 := by rw [cb_len, h.l1]
  have e2 : (cb ix).length = 32 := by rw [cb_len, h.l2]
  have e3 : (cb vl).length = 32 := by rw [cb_len, h.l3]
  rw [h.blk.cell, treeV, show 97 + j = (32 + (32 + (32 + j))) + 1 by omega, List.getElem?_cons_succ, List.getElem?_append_right (by omega), e1, Nat.add_sub_cancel_left, List.getElem?_append_right (by omega), e2, Nat.add_sub_cancel_left, List.getElem?_append_right (by omega), e3, Nat.add_sub_cancel_left]
theorem TreeC.off {W : World} {g c : Nat} {rt ix vl : List (BitVec 8)} {p q : Value} (h : TreeC W g c rt ix vl p q) : W.cell? ⟨g, 97, none⟩ = some p := h.tail 0
theorem TreeC.on {W : World} {g c : Nat} {rt ix vl : List (BitVec 8)} {p q : Value} (h : TreeC W g c rt ix vl p q) : W.cell? ⟨g, 98, none⟩ = some q := h.tail 1
def ptr (g : Nat) : Value := .pointer (some ⟨g, 0, none⟩)
inductive TreeIs (W : World) : Nat → Nat → List Lf → Prop
  | none (d g : Nat) : TreeC W g 0 (dig [69]) zb32 zb32 (.pointer none) (.pointer none) → TreeIs W d g []
  | leaf (d g : Nat) (x v : List (BitVec 8)) : TreeC W g 1 (dig (pairB 76 x v)) x v (.pointer none) (.pointer none) → TreeIs W d g [(x, v)]
  | node (d g g0 g1 : Nat) (l : List Lf) : 2 ≤ l.length → Fits l d → TreeIs W (d + 1) g0 (halfL l d false) → TreeIs W (d + 1) g1 (halfL l d true) → TreeC W g l.length (rootL l d) zb32 zb32 (ptr g0) (ptr g1) → TreeIs W d g l
theorem TreeIs.next {W W' : World} {d g : Nat} {l : List Lf} (h : TreeIs W d g l) (hb : Below W.heap.size W W') : TreeIs W' d g l := by
  induction h with
  | none d g hc => exact .none d g (hc.next hb)
  | leaf d g x v hc => exact .leaf d g x v (hc.next hb)
  | node d g g0 g1 l h2 hf _ _ hc i0 i1 => exact .node d g g0 g1 l h2 hf i0 i1 (hc.next hb)
theorem TreeIs.cells {W : World} {d g : Nat} {l : List Lf} (h : TreeIs W d g l) : ∃ ix vl p q, TreeC W g l.length (rootL l d) ix vl p q := by
  cases h with
  | none _ _ hc => exact ⟨_, _, _, _, by rw [rootL_nil]; exact hc⟩
  | leaf _ _ x v hc => exact ⟨_, _, _, _, by rw [rootL_one]; exact hc⟩
  | node _ _ g0 g1 _ h2 hf _ _ hc => exact ⟨_, _, _, _, hc⟩
def TT (W : World) (g : Nat) (l : List Lf) : Prop := TreeIs W 0 g l ∧ okLf l ∧ Up l
theorem TT.next {W W' : World} {g : Nat} {l : List Lf} (h : TT W g l) (hb : Below W.heap.size W W') : TT W' g l := ⟨h.1.next hb, h.2⟩
theorem fits_zero {l : List Lf} (h1 : okLf l) (h2 : Up l) : Fits l 0 := ⟨h1, h2, fun _ _ _ _ j hj => by omega⟩
end Go.Proofs.YtphmmnffgknkcabGreatDoor
namespace Go.Proofs.YtphmmnffgknkcabGreatDoor
open Go.RowKit
set_option maxRecDepth 100000
theorem builtE (f : Operand → Value) (o : Oper) (x : Operand) (ho : o.op = .build 101 #[(1, x)]) (rt : List (BitVec 8)) (hl : rt.length = 32) (hx : f x = .agg (cb rt).toArray) (w : World) : (execOp f o).run Tryz.prog w = .ok (.value (.agg (treeV 0 rt zb32 zb32 (.pointer none) (.pointer none)).toArray)) w := by
  unfold execOp
  rw [ho]
  simp only [List.map_toArray, List.map_cons, List.map_nil, hx]
  match rt, hl with
  | [x0, x1, x2, x3, x4, x5, x6, x7, x8, x9, x10, x11, x12, x13, x14, x15, x16, x17, x18, x19, x20, x21, x22, x23, x24, x25, x26, x27, x28, x29, x30, x31], _ =>
    refine id ?_
    show _ = _
    kernel_rfl
theorem builtS (f : Operand → Value) (o : Oper) (x y z : Operand) (ho : o.op = .build 101 #[(0, .const (.int .i64 1)), (1, x), (2, y), (3, z)]) (rt ix vl : List (BitVec 8)) (hl : rt.length = 32) (hl2 : ix.length = 32) (hl3 : vl.length = 32) (hc : f (.const (.int .i64 1)) = .int .i64 1) (hx : f x = .agg (cb rt).toArray) (hy : f y = .agg (cb ix).toArray) (hz : f z = .agg (cb vl).toArray) (w : World) : (execOp f o).run Tryz.prog w = .ok (.value (.agg (treeV 1 rt ix vl (.pointer none) (.pointer none)).toArray)) w := by
  unfold execOp
  rw [ho]
  simp only [List.map_toArray, List.map_cons, List.map_nil, hc, hx, hy, hz]
  match rt, hl, ix, hl2, vl, hl3 with
  | [x0, x1, x2, x3, x4, x5, x6, x7, x8, x9, x10, x11, x12, x13, x14, x15, x16, x17, x18, x19, x20, x21, x22, x23, x24, x25, x26, x27, x28, x29, x30, x31], _, [y0, y1, y2, y3, y4, y5, y6, y7, y8, y9, y10, y11, y12, y13, y14, y15, y16, y17, y18, y19, y20, y21, y22, y23, y24, y25, y26, y27, y28, y29, y30, y31], _, [z0, z1, z2, z3, z4, z5, z6, z7, z8, z9, z10, z11, z12, z13, z14, z15, z16, z17, z18, z19, z20, z21, z22, z23, z24, z25, z26, z27, z28, z29, z30, z31], _ =>
    refine id ?_
    show _ = _
    kernel_rfl
theorem builtJ (f : Operand → Value) (o : Oper) (c x y z : Operand) (ho : o.op = .build 101 #[(0, c), (1, x), (4, y), (5, z)]) (n g0 g1 : Nat) (rt : List (BitVec 8)) (hl : rt.length = 32) (hc : f c = .int .i64 (n : Int)) (hx : f x = .agg (cb rt).toArray) (hy : f y = ptr g0) (hz : f z = ptr g1) (w : World) : (execOp f o).run Tryz.prog w = .ok (.value (.agg (treeV n rt zb32 zb32 (ptr g0) (ptr g1)).toArray)) w := by
  unfold execOp
  rw [ho]
  simp only [List.map_toArray, List.map_cons, List.map_nil, hc, hx, hy, hz]
  match rt, hl with
  | [x0, x1, x2, x3, x4, x5, x6, x7, x8, x9, x10, x11, x12, x13, x14, x15, x16, x17, x18, x19, x20, x21, x22, x23, x24, x25, x26, x27, x28, x29, x30, x31], _ =>
    refine id ?_
    show _ = _
    kernel_rfl
theorem boxTree (f : Operand → Value) (o : Oper) (x : Operand) (ho : o.op = .box 101 x) (cs : List Value) (hx : f x = .agg cs.toArray) (w : World) : (execOp f o).run Tryz.prog w = .ok (.value (.pointer (some ⟨w.heap.size, 0, none⟩))) (w.alloc (.cells cs.toArray 101)) := by
  unfold execOp
  rw [ho]
  simp only [hx]
  rfl
set_option maxRecDepth 100000 in
set_option maxHeartbeats 1000000 in
theorem trEmpty_any (w : World) (hK : KOk w) : Calls Tryz.prog 53 #[] w fun e w' => ∃ g, e = .returned (.pointer (some ⟨g, 0, none⟩)) ∧ TreeC w' g 0 (dig [69]) zb32 zb32 (.pointer none) (.pointer none) ∧ Below w.heap.size w w' := by
  obtain ⟨r, HRD⟩ : ∃ r, Hid (r = dig [69]) := ⟨_, rfl⟩
  have HRL : Hid (r.length = 32) := by show _ = _; rw [HRD.out]; exact len_dig' _
  have HK : Hid (KOk w) := hK
  clear hK
  rw [← HRD.out]
  go_enter Tryz.func53, Tryz.ntmps53
  go_wp2_with (first
    | (go_at_call 81; refine (tEmpty_any _).mono ?_; rintro e w1 ⟨v1, rfl, hr1, hb1⟩
       have HR1 : Hid (Reads w1 v1 [69]) := hr1
       have HBW : Hid (Below w.heap.size w w1) := hb1
       replace HK : Hid (KOk w1) := HK.out.below hb1 HK.out.lt
       clear hr1 hb1)
    | (go_at_call 17; refine (tOf_any v1 _ _ HK.out HR1.out (by decide)).mono ?_; rintro e w2 ⟨rfl, hb1⟩
       rw [← HRD.out]
       replace HBW : Hid (Below w.heap.size w w2) := HBW.out.trans (hb1.mono HBW.out.size)
       clear hb1 HR1 HK)
    | (refine wpSeq_val _ _ (by rfl) (builtE _ _ (.tmp 2) rfl r HRL.out rfl _) ?_)
    | (refine wpSeq_val _ _ (by rfl) (boxTree _ _ (.tmp 3) rfl _ rfl _) ?_
       obtain ⟨w3, HW3⟩ : ∃ z, Hid (z = w2.alloc (.cells (treeV 0 r zb32 zb32 (.pointer none) (.pointer none)).toArray 101)) := ⟨_, rfl⟩
       rw [← HW3.out]))
  go_ret
  refine ⟨w2.heap.size, rfl, ⟨by rw [HW3.out]; exact Blk.new _ _ _, HRL.out, rfl, rfl⟩, by rw [HW3.out]; exact HBW.out.trans ((below_alloc w2 _).mono HBW.out.size)⟩
set_option maxRecDepth 100000 in
set_option maxHeartbeats 2000000 in
theorem trSingle_any (x v : List (BitVec 8)) (hx : x.length = 32) (hv : v.length = 32) (w : World) (hK : KOk w) : Calls Tryz.prog 58 #[.agg (cb x).toArray, .agg (cb v).toArray] w fun e w' => ∃ g, e = .returned (.pointer (some ⟨g, 0, none⟩)) ∧ w.heap.size ≤ g ∧ TreeC w' g 1 (dig (pairB 76 x v)) x v (.pointer none) (.pointer none) ∧ Below w.heap.size w w' := by
  obtain ⟨r, HRD⟩ : ∃ r, Hid (r = dig (pairB 76 x v)) := ⟨_, rfl⟩
  have HRL : Hid (r.length = 32) := by show _ = _; rw [HRD.out]; exact len_dig' _
  have HK : Hid (KOk w) := hK
  have HX : Hid (x.length = 32) := hx
  have HV : Hid (v.length = 32) := hv
  clear hK hx hv
  rw [← HRD.out]
  go_enter Tryz.func58, Tryz.ntmps58
  go_wp2_with (first
    | (with_reducible refine wpSeq_boxD (.tmp 0) x ?_ ?_ ?_ ?_
       · rfl
       · rfl
       · rfl
       intro gx wx nn
       have HBX : Hid (Blk wx gx (cb x) 40) := nn.blk
       have HBW : Hid (Below w.heap.size w wx) := nn.below
       clear nn)
    | (with_reducible refine wpSeq_boxD (.tmp 1) v ?_ ?_ ?_ ?_
       · rfl
       · rfl
       · rfl
       intro gv wv nn
       replace HBX : Hid (Blk wv gx (cb x) 40) := HBX.out.below nn.below HBX.out.lt
       have HBV : Hid (Blk wv gv (cb v) 40) := nn.blk
       replace HBW : Hid (Below w.heap.size w wv) := HBW.out.trans (nn.below.mono HBW.out.size)
       clear nn))
  replace HK : Hid (KOk wv.drew) := (HK.out.below HBW.out HK.out.lt : KOk wv)
  refine wp_region_held_drew (S := Over wv.drew) (by kernel_rfl) (Over.refl _) ?_
  intro hS
  refine wpAnyH_take (i := 0) (v := .agg (cb x).toArray) rfl (by kernel_rfl) (by kernel_rfl) (by kernel_rfl) (fun _ _ _ h => h) (Or.inl ⟨by rfl, fun wx hx => by exact loadDigest _ gx x HX.out (Over.blk hx HBX.out.drew) rfl rfl⟩) hS ?_
  simp only [Act.put, List.getElem_toArray, List.getElem_cons_zero, List.setIfInBounds_toArray, List.set_cons_zero, List.set_cons_succ]
  refine wpAnyH_take (i := 1) (v := .agg (cb v).toArray) rfl (by kernel_rfl) (by kernel_rfl) (by kernel_rfl) (fun _ _ _ h => h) (Or.inl ⟨by rfl, fun wx hx => by exact loadDigest _ gv v HV.out (Over.blk hx HBV.out.drew) rfl rfl⟩) hS ?_
  simp only [Act.put, List.getElem_toArray, List.getElem_cons_succ, List.getElem_cons_zero, List.setIfInBounds_toArray, List.set_cons_zero, List.set_cons_succ]
  refine wpAnyH_take (i := 4) (v := .agg (cb x).toArray) rfl (by kernel_rfl) (by kernel_rfl) (by kernel_rfl) (fun _ _ _ h => h) (Or.inl ⟨by rfl, fun wx hx => by exact loadDigest _ gx x HX.out (Over.blk hx HBX.out.drew) rfl rfl⟩) hS ?_
  simp only [Act.put, List.getElem_toArray, List.getElem_cons_succ, List.getElem_cons_zero, List.setIfInBounds_toArray, List.set_cons_zero, List.set_cons_succ]
  refine wpAnyH_take (i := 5) (v := .agg (cb v).toArray) rfl (by kernel_rfl) (by kernel_rfl) (by kernel_rfl) (fun _ _ _ h => h) (Or.inl ⟨by rfl, fun wx hx => by exact loadDigest _ gv v HV.out (Over.blk hx HBV.out.drew) rfl rfl⟩) hS ?_
  simp only [Act.put, List.getElem_toArray, List.getElem_cons_succ, List.getElem_cons_zero, List.setIfInBounds_toArray, List.set_cons_zero, List.set_cons_succ]
  refine wpAnyH_enter 2 (by kernel_rfl) rfl (by rfl) (f := 85) (args := #[.agg (cb x).toArray, .agg (cb v).toArray]) (by simp [go_sem]) (tLeaf_any x v HX.out HV.out _) ?_
  rintro e wy ⟨v7, rfl, hr7, hbq⟩
  refine ⟨_, rfl, hS.more hbq, ?_⟩
  replace hS := hS.more hbq
  clear hbq
  generalize HVV : v7 = vv at *
  clear HVV
  simp only [Act.put, List.getElem_toArray, List.getElem_cons_succ, List.getElem_cons_zero, List.setIfInBounds_toArray, List.set_cons_zero, List.set_cons_succ]
  refine wpAnyH_enter 3 (by kernel_rfl) rfl (by rfl) (f := 17) (args := #[vv]) (by simp [go_sem]) (tOf_any vv _ _ (HK.out.below hS.out HK.out.lt) hr7 (by have h1 := HX.out; have h2 := HV.out; simp [pairB]; omega)) ?_
  rintro e wz ⟨rfl, hbq⟩
  have HGE : Hid (w.heap.size ≤ wz.heap.size) := Nat.le_trans HBW.out.size (hS.more hbq).out.size
  refine ⟨_, rfl, hS.more hbq, ?_⟩
  replace hS := hS.more hbq
  clear hbq hr7
  rw [← HRD.out]
  simp only [Act.put, List.getElem_toArray, List.getElem_cons_succ, List.getElem_cons_zero, List.setIfInBounds_toArray, List.set_cons_zero, List.set_cons_succ]
  refine wpAnyH_take (i := 6) (v := .agg (treeV 1 r x v (.pointer none) (.pointer none)).toArray) rfl (by kernel_rfl) (by kernel_rfl) (by kernel_rfl) (fun _ _ _ h => h) (Or.inl ⟨by rfl, fun wx hx => by exact builtS _ _ (.tmp 8) (.tmp 9) (.tmp 10) rfl r x v HRL.out HX.out HV.out rfl rfl rfl rfl _⟩) hS ?_
  simp only [Act.put, List.getElem_toArray, List.getElem_cons_succ, List.getElem_cons_zero, List.setIfInBounds_toArray, List.set_cons_zero, List.set_cons_succ]
  refine wpAnyH_step 7 (.pointer (some ⟨wz.heap.size, 0, none⟩)) (wz.alloc (.cells (treeV 1 r x v (.pointer none) (.pointer none)).toArray 101)) (by kernel_rfl) rfl (by rfl) (boxTree _ _ (.tmp 11) rfl _ rfl _) (hS.more (below_alloc _ _)) ?_
  simp only [Act.put, List.getElem_toArray, List.getElem_cons_succ, List.getElem_cons_zero, List.setIfInBounds_toArray, List.set_cons_zero, List.set_cons_succ]
  replace hS := hS.more (below_alloc wz (.cells (treeV 1 r x v (.pointer none) (.pointer none)).toArray 101))
  have HBN : Hid (Blk (wz.alloc (.cells (treeV 1 r x v (.pointer none) (.pointer none)).toArray 101)) wz.heap.size (treeV 1 r x v (.pointer none) (.pointer none)) 101) := Blk.new _ _ _
  generalize wz.alloc (.cells (treeV 1 r x v (.pointer none) (.pointer none)).toArray 101) = wn at *
  refine wpAnyH_take (i := 8) (v := .pointer (some ⟨wz.heap.size, 0, none⟩)) rfl (by kernel_rfl) (by kernel_rfl) (by kernel_rfl) (fun _ _ _ h => h) (Or.inl ⟨by rfl, fun wx hx => by simp [go_sem]⟩) hS ?_
  simp only [Act.put, List.getElem_toArray, List.getElem_cons_succ, List.getElem_cons_zero, List.setIfInBounds_toArray, List.set_cons_zero, List.set_cons_succ]
  refine wpAnyH_done (by kernel_rfl) ?_ _
  go_wp2
  go_ret
  exact ⟨wz.heap.size, rfl, HGE.out, ⟨HBN.out, HRL.out, HX.out, HV.out⟩, hS.after HBW.out.drew⟩
set_option maxRecDepth 100000 in
set_option maxHeartbeats 4000000 in
theorem trJoined_any (g0 g1 n0 n1 : Nat) (r0 r1 ix0 vl0 ix1 vl1 : List (BitVec 8)) (p0 q0 p1 q1 : Value) (w : World) (hK : KOk w) (h0 : TreeC w g0 n0 r0 ix0 vl0 p0 q0) (h1 : TreeC w g1 n1 r1 ix1 vl1 p1 q1) (hn : n0 + n1 < 1000000) : Calls Tryz.prog 57 #[.pointer (some ⟨g0, 0, none⟩), .pointer (some ⟨g1, 0, none⟩)] w fun e w' => ∃ g, e = .returned (.pointer (some ⟨g, 0, none⟩)) ∧ TreeC w' g (n0 + n1) (dig (pairB 78 r0 r1)) zb32 zb32 (ptr g0) (ptr g1) ∧ Below w.heap.size w w' := by
  obtain ⟨r, HRD⟩ : ∃ r, Hid (r = dig (pairB 78 r0 r1)) := ⟨_, rfl⟩
  have HRL : Hid (r.length = 32) := by show _ = _; rw [HRD.out]; exact len_dig' _
  have HK : Hid (KOk w.drew) := hK
  have H0 : Hid (TreeC w g0 n0 r0 ix0 vl0 p0 q0) := h0
  have H1 : Hid (TreeC w g1 n1 r1 ix1 vl1 p1 q1) := h1
  have HL0 : Hid (r0.length = 32) := h0.l1
  have HL1 : Hid (r1.length = 32) := h1.l1
  have rn : IntKind.i64.wrap ((n0 : Int) + (n1 : Int)) = (n0 : Int) + (n1 : Int) := by rw [IntKind.wrap_i64]; omega
  clear hK h0 h1
  rw [← HRD.out]
  go_enter Tryz.func57, Tryz.ntmps57
  go_wp2_with fail
  refine wp_region_held_drew (S := Over w.drew) (by kernel_rfl) (Over.refl _) ?_
  intro hS
  refine wpAnyH_take (i := 0) (v := .pointer (some ⟨g0, 0, none⟩)) rfl (by kernel_rfl) (by kernel_rfl) (by kernel_rfl) (fun _ _ _ h => h) (Or.inl ⟨by rfl, fun wx hx => by simp [go_sem]⟩) hS ?_
  simp only [Act.put, List.getElem_toArray, List.getElem_cons_zero, List.setIfInBounds_toArray, List.set_cons_zero, List.set_cons_succ]
  refine wpAnyH_take (i := 1) (v := .pointer (some ⟨g0, 0, none⟩)) rfl (by kernel_rfl) (by kernel_rfl) (by kernel_rfl) (fun _ _ _ h => h) (Or.inl ⟨by rfl, fun wx hx => by simp [go_sem]⟩) hS ?_
  simp only [Act.put, List.getElem_toArray, List.getElem_cons_succ, List.getElem_cons_zero, List.setIfInBounds_toArray, List.set_cons_zero, List.set_cons_succ]
  refine wpAnyH_take (i := 2) (v := .pointer (some ⟨g0, 0, none⟩)) rfl (by kernel_rfl) (by kernel_rfl) (by kernel_rfl) (fun _ _ _ h => h) (Or.inl ⟨by rfl, fun wx hx => by simp [go_sem]⟩) hS ?_
  simp only [Act.put, List.getElem_toArray, List.getElem_cons_succ, List.getElem_cons_zero, List.setIfInBounds_toArray, List.set_cons_zero, List.set_cons_succ]
  refine wpAnyH_take (i := 3) (v := .int .i64 (n0 : Int)) rfl (by kernel_rfl) (by kernel_rfl) (by kernel_rfl) (fun _ _ _ h => h) (Or.inl ⟨by rfl, fun wx hx => by (have hc := (H0.out.drew.below hx.out H0.out.blk.lt).cnt; simp [go_sem, hc])⟩) hS ?_
  simp only [Act.put, List.getElem_toArray, List.getElem_cons_succ, List.getElem_cons_zero, List.setIfInBounds_toArray, List.set_cons_zero, List.set_cons_succ]
  refine wpAnyH_take (i := 4) (v := .pointer (some ⟨g1, 0, none⟩)) rfl (by kernel_rfl) (by kernel_rfl) (by kernel_rfl) (fun _ _ _ h => h) (Or.inl ⟨by rfl, fun wx hx => by simp [go_sem]⟩) hS ?_
  simp only [Act.put, List.getElem_toArray, List.getElem_cons_succ, List.getElem_cons_zero, List.setIfInBounds_toArray, List.set_cons_zero, List.set_cons_succ]
  refine wpAnyH_take (i := 5) (v := .pointer (some ⟨g1, 0, none⟩)) rfl (by kernel_rfl) (by kernel_rfl) (by kernel_rfl) (fun _ _ _ h => h) (Or.inl ⟨by rfl, fun wx hx => by simp [go_sem]⟩) hS ?_
  simp only [Act.put, List.getElem_toArray, List.getElem_cons_succ, List.getElem_cons_zero, List.setIfInBounds_toArray, List.set_cons_zero, List.set_cons_succ]
  refine wpAnyH_take (i := 6) (v := .pointer (some ⟨g1, 0, none⟩)) rfl (by kernel_rfl) (by kernel_rfl) (by kernel_rfl) (fun _ _ _ h => h) (Or.inl ⟨by rfl, fun wx hx => by simp [go_sem]⟩) hS ?_
  simp only [Act.put, List.getElem_toArray, List.getElem_cons_succ, List.getElem_cons_zero, List.setIfInBounds_toArray, List.set_cons_zero, List.set_cons_succ]
  refine wpAnyH_take (i := 7) (v := .int .i64 (n1 : Int)) rfl (by kernel_rfl) (by kernel_rfl) (by kernel_rfl) (fun _ _ _ h => h) (Or.inl ⟨by rfl, fun wx hx => by (have hc := (H1.out.drew.below hx.out H1.out.blk.lt).cnt; simp [go_sem, hc])⟩) hS ?_
  simp only [Act.put, List.getElem_toArray, List.getElem_cons_succ, List.getElem_cons_zero, List.setIfInBounds_toArray, List.set_cons_zero, List.set_cons_succ]
  refine wpAnyH_take (i := 8) (v := .int .i64 ((n0 + n1 : Nat) : Int)) rfl (by kernel_rfl) (by kernel_rfl) (by kernel_rfl) (fun _ _ _ h => h) (Or.inl ⟨by rfl, fun wx hx => by simp [go_sem, rn]⟩) hS ?_
  simp only [Act.put, List.getElem_toArray, List.getElem_cons_succ, List.getElem_cons_zero, List.setIfInBounds_toArray, List.set_cons_zero, List.set_cons_succ]
  refine wpAnyH_take (i := 9) (v := .pointer (some ⟨g0, 0, none⟩)) rfl (by kernel_rfl) (by kernel_rfl) (by kernel_rfl) (fun _ _ _ h => h) (Or.inl ⟨by rfl, fun wx hx => by simp [go_sem]⟩) hS ?_
  simp only [Act.put, List.getElem_toArray, List.getElem_cons_succ, List.getElem_cons_zero, List.setIfInBounds_toArray, List.set_cons_zero, List.set_cons_succ]
  refine wpAnyH_take (i := 10) (v := .pointer (some ⟨g0, 0, none⟩)) rfl (by kernel_rfl) (by kernel_rfl) (by kernel_rfl) (fun _ _ _ h => h) (Or.inl ⟨by rfl, fun wx hx => by simp [go_sem]⟩) hS ?_
  simp only [Act.put, List.getElem_toArray, List.getElem_cons_succ, List.getElem_cons_zero, List.setIfInBounds_toArray, List.set_cons_zero, List.set_cons_succ]
  refine wpAnyH_take (i := 11) (v := .pointer (some ⟨g0, 1, none⟩)) rfl (by kernel_rfl) (by kernel_rfl) (by kernel_rfl) (fun _ _ _ h => h) (Or.inl ⟨by rfl, fun wx hx => by simp [go_sem]⟩) hS ?_
  simp only [Act.put, List.getElem_toArray, List.getElem_cons_succ, List.getElem_cons_zero, List.setIfInBounds_toArray, List.set_cons_zero, List.set_cons_succ]
  refine wpAnyH_take (i := 12) (v := .agg (cb r0).toArray) rfl (by kernel_rfl) (by kernel_rfl) (by kernel_rfl) (fun _ _ _ h => h) (Or.inl ⟨by rfl, fun wx hx => by exact load_run 40 _ rfl _ _ rfl (cb r0) _ ((H0.out.drew.below hx.out H0.out.blk.lt).root) Tryz.underlying40 rfl (by rw [cb_len, HL0.out]; exact info_digest)⟩) hS ?_
  simp only [Act.put, List.getElem_toArray, List.getElem_cons_succ, List.getElem_cons_zero, List.setIfInBounds_toArray, List.set_cons_zero, List.set_cons_succ]
  refine wpAnyH_take (i := 13) (v := .pointer (some ⟨g1, 0, none⟩)) rfl (by kernel_rfl) (by kernel_rfl) (by kernel_rfl) (fun _ _ _ h => h) (Or.inl ⟨by rfl, fun wx hx => by simp [go_sem]⟩) hS ?_
  simp only [Act.put, List.getElem_toArray, List.getElem_cons_succ, List.getElem_cons_zero, List.setIfInBounds_toArray, List.set_cons_zero, List.set_cons_succ]
  refine wpAnyH_take (i := 14) (v := .pointer (some ⟨g1, 0, none⟩)) rfl (by kernel_rfl) (by kernel_rfl) (by kernel_rfl) (fun _ _ _ h => h) (Or.inl ⟨by rfl, fun wx hx => by simp [go_sem]⟩) hS ?_
  simp only [Act.put, List.getElem_toArray, List.getElem_cons_succ, List.getElem_cons_zero, List.setIfInBounds_toArray, List.set_cons_zero, List.set_cons_succ]
  refine wpAnyH_take (i := 15) (v := .pointer (some ⟨g1, 1, none⟩)) rfl (by kernel_rfl) (by kernel_rfl) (by kernel_rfl) (fun _ _ _ h => h) (Or.inl ⟨by rfl, fun wx hx => by simp [go_sem]⟩) hS ?_
  simp only [Act.put, List.getElem_toArray, List.getElem_cons_succ, List.getElem_cons_zero, List.setIfInBounds_toArray, List.set_cons_zero, List.set_cons_succ]
  refine wpAnyH_take (i := 16) (v := .agg (cb r1).toArray) rfl (by kernel_rfl) (by kernel_rfl) (by kernel_rfl) (fun _ _ _ h => h) (Or.inl ⟨by rfl, fun wx hx => by exact load_run 40 _ rfl _ _ rfl (cb r1) _ ((H1.out.drew.below hx.out H1.out.blk.lt).root) Tryz.underlying40 rfl (by rw [cb_len, HL1.out]; exact info_digest)⟩) hS ?_
  simp only [Act.put, List.getElem_toArray, List.getElem_cons_succ, List.getElem_cons_zero, List.setIfInBounds_toArray, List.set_cons_zero, List.set_cons_succ]
  refine wpAnyH_take (i := 19) (v := .pointer (some ⟨g0, 0, none⟩)) rfl (by kernel_rfl) (by kernel_rfl) (by kernel_rfl) (fun _ _ _ h => h) (Or.inl ⟨by rfl, fun wx hx => by simp [go_sem]⟩) hS ?_
  simp only [Act.put, List.getElem_toArray, List.getElem_cons_succ, List.getElem_cons_zero, List.setIfInBounds_toArray, List.set_cons_zero, List.set_cons_succ]
  refine wpAnyH_take (i := 20) (v := .pointer (some ⟨g1, 0, none⟩)) rfl (by kernel_rfl) (by kernel_rfl) (by kernel_rfl) (fun _ _ _ h => h) (Or.inl ⟨by rfl, fun wx hx => by simp [go_sem]⟩) hS ?_
  simp only [Act.put, List.getElem_toArray, List.getElem_cons_succ, List.getElem_cons_zero, List.setIfInBounds_toArray, List.set_cons_zero, List.set_cons_succ]
  refine wpAnyH_enter 17 (by kernel_rfl) rfl (by rfl) (f := 84) (args := #[.agg (cb r0).toArray, .agg (cb r1).toArray]) (by simp [go_sem]) (tNode_any r0 r1 HL0.out HL1.out _) ?_
  rintro e wy ⟨v7, rfl, hr7, hbq⟩
  refine ⟨_, rfl, hS.more hbq, ?_⟩
  replace hS := hS.more hbq
  clear hbq
  generalize HVV : v7 = vv at *
  clear HVV
  simp only [Act.put, List.getElem_toArray, List.getElem_cons_succ, List.getElem_cons_zero, List.setIfInBounds_toArray, List.set_cons_zero, List.set_cons_succ]
  refine wpAnyH_enter 18 (by kernel_rfl) rfl (by rfl) (f := 17) (args := #[vv]) (by simp [go_sem]) (tOf_any vv _ _ (HK.out.below hS.out HK.out.lt) hr7 (by have h1 := HL0.out; have h2 := HL1.out; simp [pairB]; omega)) ?_
  rintro e wz ⟨rfl, hbq⟩
  refine ⟨_, rfl, hS.more hbq, ?_⟩
  replace hS := hS.more hbq
  clear hbq hr7
  rw [← HRD.out]
  simp only [Act.put, List.getElem_toArray, List.getElem_cons_succ, List.getElem_cons_zero, List.setIfInBounds_toArray, List.set_cons_zero, List.set_cons_succ]
  refine wpAnyH_take (i := 21) (v := .agg (treeV (n0 + n1) r zb32 zb32 (ptr g0) (ptr g1)).toArray) rfl (by kernel_rfl) (by kernel_rfl) (by kernel_rfl) (fun _ _ _ h => h) (Or.inl ⟨by rfl, fun wx hx => by exact builtJ _ _ (.tmp 13) (.tmp 23) (.tmp 24) (.tmp 25) rfl (n0 + n1) g0 g1 r HRL.out rfl rfl rfl rfl _⟩) hS ?_
  simp only [Act.put, List.getElem_toArray, List.getElem_cons_succ, List.getElem_cons_zero, List.setIfInBounds_toArray, List.set_cons_zero, List.set_cons_succ]
  refine wpAnyH_step 22 (.pointer (some ⟨wz.heap.size, 0, none⟩)) (wz.alloc (.cells (treeV (n0 + n1) r zb32 zb32 (ptr g0) (ptr g1)).toArray 101)) (by kernel_rfl) rfl (by rfl) (boxTree _ _ (.tmp 26) rfl _ rfl _) (hS.more (below_alloc _ _)) ?_
  simp only [Act.put, List.getElem_toArray, List.getElem_cons_succ, List.getElem_cons_zero, List.setIfInBounds_toArray, List.set_cons_zero, List.set_cons_succ]
  replace hS := hS.more (below_alloc wz (.cells (treeV (n0 + n1) r zb32 zb32 (ptr g0) (ptr g1)).toArray 101))
  have HBN : Hid (Blk (wz.alloc (.cells (treeV (n0 + n1) r zb32 zb32 (ptr g0) (ptr g1)).toArray 101)) wz.heap.size (treeV (n0 + n1) r zb32 zb32 (ptr g0) (ptr g1)) 101) := Blk.new _ _ _
  generalize wz.alloc (.cells (treeV (n0 + n1) r zb32 zb32 (ptr g0) (ptr g1)).toArray 101) = wn at *
  refine wpAnyH_take (i := 23) (v := .pointer (some ⟨wz.heap.size, 0, none⟩)) rfl (by kernel_rfl) (by kernel_rfl) (by kernel_rfl) (fun _ _ _ h => h) (Or.inl ⟨by rfl, fun wx hx => by simp [go_sem]⟩) hS ?_
  simp only [Act.put, List.getElem_toArray, List.getElem_cons_succ, List.getElem_cons_zero, List.setIfInBounds_toArray, List.set_cons_zero, List.set_cons_succ]
  refine wpAnyH_done (by kernel_rfl) ?_ _
  go_wp2
  go_ret
  exact ⟨wz.heap.size, rfl, ⟨HBN.out, HRL.out, rfl, rfl⟩, hS.after (Below.refl _ w).drew⟩
end Go.Proofs.YtphmmnffgknkcabGreatDoor
namespace Go.Proofs.YtphmmnffgknkcabGreatDoor
open Go.RowKit
set_option maxRecDepth 100000
structure Gt (w : World) (x : List (BitVec 8)) (gx gr : Nat) (l0 : List Lf) (d g : Nat) (l : List Lf) (W : World) : Prop where
  le : d ≤ 256
  tree : TreeIs W d g l
  fit : Fits l d
  eq : getL l x = getL l0 x
  xb : Blk W gx (cb x) 40
  rb : Blk W gr (cb zb32) 40
  ge : w.heap.size ≤ gr
  bel : Below w.heap.size w W
theorem Gt.next {w W W' : World} {x : List (BitVec 8)} {gx gr d g : Nat} {l0 l : List Lf} (h : Gt w x gx gr l0 d g l W) (hb : Below W.heap.size W W') : Gt w x gx gr l0 d g l W' :=
  ⟨h.le, h.tree.next hb, h.fit, h.eq, h.xb.below hb h.xb.lt, h.rb.below hb h.rb.lt, h.ge, h.bel.trans (hb.mono h.bel.size)⟩
theorem Gt.down {w W : World} {x : List (BitVec 8)} {gx gr d g g2 : Nat} {l0 l : List Lf} (h : Gt w x gx gr l0 d g l W) (h2 : 2 ≤ l.length) (ht : TreeIs W (d + 1) g2 (halfL l d (bt x d))) : Gt w x gx gr l0 (d + 1) g2 (halfL l d (bt x d)) W :=
  ⟨h.fit.lt h2, ht, h.fit.half _, by rw [getL_half, h.eq], h.xb, h.rb, h.ge, h.bel⟩
theorem TreeIs.two {W : World} {d g : Nat} {l : List Lf} (h : TreeIs W d g l) (h2 : 2 ≤ l.length) : ∃ g0 g1, TreeIs W (d + 1) g0 (halfL l d false) ∧ TreeIs W (d + 1) g1 (halfL l d true) ∧ TreeC W g l.length (rootL l d) zb32 zb32 (ptr g0) (ptr g1) := by
  cases h with
  | none _ _ _ => simp at h2
  | leaf _ _ _ _ _ => simp at h2
  | node _ _ g0 g1 _ _ _ h0 h1 hc => exact ⟨g0, g1, h0, h1, hc⟩
theorem TreeIs.one {W : World} {d g : Nat} {p : Lf} (h : TreeIs W d g [p]) : TreeC W g 1 (dig (pairB 76 p.1 p.2)) p.1 p.2 (.pointer Option.none) (.pointer Option.none) := by
  cases h with
  | leaf _ _ x v hc => exact hc
  | node _ _ g0 g1 _ h2 => simp at h2
theorem TreeIs.nil {W : World} {d g : Nat} (h : TreeIs W d g []) : TreeC W g 0 (dig [69]) zb32 zb32 (.pointer Option.none) (.pointer Option.none) := by
  cases h with
  | none _ _ hc => exact hc
  | node _ _ g0 g1 _ h2 => simp at h2
end Go.Proofs.YtphmmnffgknkcabGreatDoor
namespace Go.Proofs.YtphmmnffgknkcabGreatDoor
open Go.RowKit Go.Shelf
set_option maxRecDepth 100000
attribute [local go_sem] Oper.semAt_some
abbrev encsL (p : Lf) : Array Value := #[.agg (cb p.1).toArray, .agg (cb p.2).toArray]
theorem roundIn_wide {m k : Nat} {P : Program} {l : Nat} {f : FuncId} {tmps : Array Value} {assign body : Code} {w : World} {R : Ending → World → Prop} (h : RoundIn Fence.wide m P l f tmps assign body w R) : RoundIn Fence.wide k P l f tmps assign body w R :=
  ⟨h.1, fun c cs _ => h.2 c cs (room_wide _)⟩
theorem grownBy_drew (w : World) : w.grownBy w.drew none := ⟨rfl, rfl, rfl, Nat.le_refl _, fun _ _ _ => rfl⟩
section
variable {n : Nat} {P : Program} {ops : Array Oper} {Q : Exit → Act → World → Prop}
theorem wpOpIn_val {i : Nat} {o : Oper} {v : Value} {a : Act} {w w' : World} {K : Act → World → Prop} (hi : ops[i]? = some o) (hw : Region.wanted o (yielded ops a.tmps) = true) (he : (execOp a.eval o).run P w = .ok (.value v) w') (h : K (a.put o.dst v) w') : wpOpIn Fence.wide n P ops Q i K a w := by
  unfold wpOpIn
  simp only [hi, hw, if_true]
  refine ⟨fun _ _ => trivial, ?_⟩
  show Oper.uponIn _ _ _ _ _ _ _ ((execOp a.eval o).run P w)
  rw [he]
  exact h
theorem wpOpIn_round {i : Nat} {o : Oper} {l : Nat} {fn : FuncId} {tmps : Array Value} {assign body : Code} {a : Act} {w : World} {K : Act → World → Prop} {R : Ending → World → Prop} {m : Nat} (hi : ops[i]? = some o) (hw : Region.wanted o (yielded ops a.tmps) = true) (he : (execOp a.eval o).run P w = .ok (.round l fn tmps assign body) w) (hR : RoundIn Fence.wide m P l fn tmps assign body w R) (h : ∀ e w', R e w' → ∃ v, e = .returned v ∧ K (a.put o.dst v) w') : wpOpIn Fence.wide n P ops Q i K a w := by
  unfold wpOpIn
  simp only [hi, hw, if_true]
  refine ⟨fun _ _ => trivial, ?_⟩
  show Oper.uponIn _ _ _ _ _ _ _ ((execOp a.eval o).run P w)
  rw [he, Oper.uponIn_round]
  refine ⟨fun h => (by cases h), (roundIn_wide hR).mono fun e w' hr => ?_⟩
  obtain ⟨v, rfl, hk⟩ := h e w' hr
  exact hk
theorem wpAnyIn_pairs {md : Region.Mode} {fuel : Nat} {listed : Array Bool} {a : Act} {w : World} (i j : Nat) (hr : Region.ready md ops listed = [i, j]) (h1 : wpOpIn Fence.wide n P ops Q i (wpAnyIn Fence.wide n P md ops Q fuel (listed.setIfInBounds i true)) a w) (h2 : wpOpIn Fence.wide n P ops Q j (wpAnyIn Fence.wide n P md ops Q fuel (listed.setIfInBounds j true)) a w) : wpAnyIn Fence.wide n P md ops Q (fuel + 1) listed a w := by
  refine wpAnyIn_all hr (by simp) fun k hk => ?_
  simp only [List.mem_cons, List.not_mem_nil, or_false] at hk
  rcases hk with rfl | rfl
  · exact h1
  · exact h2
theorem wpAnyIn_lone {md : Region.Mode} {fuel : Nat} {listed : Array Bool} {a : Act} {w : World} (i : Nat) (hr : Region.ready md ops listed = [i]) (h1 : wpOpIn Fence.wide n P ops Q i (wpAnyIn Fence.wide n P md ops Q fuel (listed.setIfInBounds i true)) a w) : wpAnyIn Fence.wide n P md ops Q (fuel + 1) listed a w := by
  refine wpAnyIn_all hr (by simp) fun k hk => ?_
  simp only [List.mem_singleton] at hk
  rw [hk]; exact h1
end
def EachDoes (v0 : World) (n₀ lab : Nat) (J Jx : List Lf → World → Prop) (g : Nat) (l pre : List Lf) (W : World) : Prop :=
  Calls Tryz.prog 89 #[.pointer (some ⟨g, 0, none⟩), .func (.yield lab) #[] #[]] W fun e W' => (e = .returned (.bool true) ∧ J (pre ++ l) W' ∧ Below n₀ v0 W') ∨ (e = .returned (.bool false) ∧ ∃ k, k < l.length ∧ Jx (pre ++ l.take (k + 1)) W')
theorem each_none {v0 : World} {n₀ lab : Nat} {J Jx : List Lf → World → Prop} {g : Nat} {pre : List Lf} {W : World} (hc : TreeC W g 0 (dig [69]) zb32 zb32 (.pointer none) (.pointer none)) (hb : Below n₀ v0 W) (h : J pre W) : EachDoes v0 n₀ lab J Jx g [] pre W := by
  unfold EachDoes
  have c0 := hc.cnt
  have HJ : Hid (J (pre ++ []) W) := by rw [List.append_nil]; exact h
  have HB : Hid (Below n₀ v0 W) := hb
  clear hc h hb
  go_enter Tryz.func89, Tryz.ntmps89
  go_wp2
  go_ret
  exact Or.inl ⟨rfl, HJ.out, HB.out⟩
set_option maxRecDepth 100000 in
set_option maxHeartbeats 2000000 in
theorem each_leaf {v0 : World} {n₀ lab m : Nat} {J Jx : List Lf → World → Prop} {g : Nat} {x v : List (BitVec 8)} {pre : List Lf} {W : World} (hc : TreeC W g 1 (dig (pairB 76 x v)) x v (.pointer none) (.pointer none)) (hb : Below n₀ v0 W)
    (hy : YieldAt Fence.wide m Tryz.prog lab (encsL (x, v)) W.drew fun e W' => (e = .returned (.bool true) ∧ J (pre ++ [(x, v)]) W' ∧ Below n₀ W.drew W') ∨ (e = .returned (.bool false) ∧ Jx (pre ++ [(x, v)]) W')) : EachDoes v0 n₀ lab J Jx g [(x, v)] pre W := by
  unfold EachDoes
  have c0 := hc.cnt
  have HX : Hid (W.drew.rangeAt g 33 (cb x)) := hc.index
  have HV : Hid (W.drew.rangeAt g 65 (cb v)) := hc.value
  have HL2 : Hid (x.length = 32) := hc.l2
  have HL3 : Hid (v.length = 32) := hc.l3
  have HB : Hid (∀ W', Below n₀ W.drew W' → Below n₀ v0 W') := fun W' h => hb.trans ⟨h.os, h.tape, h.output, h.size, h.block⟩
  obtain ⟨fn, tmps, assign, body, hyr, hR⟩ := hy
  dsimp only [encsL] at hyr
  clear hc hb
  go_enter Tryz.func89, Tryz.ntmps89
  go_upto_region 5 with fail
  clear c0
  refine (wpIn_wide (n := 5)).1 ?_
  refine wpIn_region_any (by kernel_rfl) ?_
  change wpAnyIn _ _ _ _ _ _ _ _ _ (World.drew W)
  refine wpAnyIn_take (i := 0) (v := .func (.yield lab) #[] #[]) rfl rfl (by kernel_rfl) (by kernel_rfl) (by kernel_rfl) (fun _ _ _ h => h) ⟨Or.inl ⟨by rfl, fun wx => by simp [go_sem]⟩, fun _ => rfl⟩ ?_
  simp only [Act.put, List.getElem_toArray, List.getElem_cons_zero, List.setIfInBounds_toArray, List.set_cons_zero, List.set_cons_succ]
  refine wpAnyIn_take (i := 1) (v := .pointer (some ⟨g, 0, none⟩)) rfl rfl (by kernel_rfl) (by kernel_rfl) (by kernel_rfl) (fun _ _ _ h => h) ⟨Or.inl ⟨by rfl, fun wx => by simp [go_sem]⟩, fun _ => rfl⟩ ?_
  simp only [Act.put, List.getElem_toArray, List.getElem_cons_succ, List.getElem_cons_zero, List.setIfInBounds_toArray, List.set_cons_zero, List.set_cons_succ]
  refine wpAnyIn_take (i := 2) (v := .pointer (some ⟨g, 0, none⟩)) rfl rfl (by kernel_rfl) (by kernel_rfl) (by kernel_rfl) (fun _ _ _ h => h) ⟨Or.inl ⟨by rfl, fun wx => by simp [go_sem]⟩, fun _ => rfl⟩ ?_
  simp only [Act.put, List.getElem_toArray, List.getElem_cons_succ, List.getElem_cons_zero, List.setIfInBounds_toArray, List.set_cons_zero, List.set_cons_succ]
  refine wpAnyIn_take (i := 3) (v := .pointer (some ⟨g, 33, none⟩)) rfl rfl (by kernel_rfl) (by kernel_rfl) (by kernel_rfl) (fun _ _ _ h => h) ⟨Or.inl ⟨by rfl, fun wx => by simp [go_sem]⟩, fun _ => rfl⟩ ?_
  simp only [Act.put, List.getElem_toArray, List.getElem_cons_succ, List.getElem_cons_zero, List.setIfInBounds_toArray, List.set_cons_zero, List.set_cons_succ]
  refine wpAnyIn_take (i := 5) (v := .pointer (some ⟨g, 0, none⟩)) rfl rfl (by kernel_rfl) (by kernel_rfl) (by kernel_rfl) (fun _ _ _ h => h) ⟨Or.inl ⟨by rfl, fun wx => by simp [go_sem]⟩, fun _ => rfl⟩ ?_
  simp only [Act.put, List.getElem_toArray, List.getElem_cons_succ, List.getElem_cons_zero, List.setIfInBounds_toArray, List.set_cons_zero, List.set_cons_succ]
  refine wpAnyIn_take (i := 6) (v := .pointer (some ⟨g, 0, none⟩)) rfl rfl (by kernel_rfl) (by kernel_rfl) (by kernel_rfl) (fun _ _ _ h => h) ⟨Or.inl ⟨by rfl, fun wx => by simp [go_sem]⟩, fun _ => rfl⟩ ?_
  simp only [Act.put, List.getElem_toArray, List.getElem_cons_succ, List.getElem_cons_zero, List.setIfInBounds_toArray, List.set_cons_zero, List.set_cons_succ]
  refine wpAnyIn_take (i := 7) (v := .pointer (some ⟨g, 65, none⟩)) rfl rfl (by kernel_rfl) (by kernel_rfl) (by kernel_rfl) (fun _ _ _ h => h) ⟨Or.inl ⟨by rfl, fun wx => by simp [go_sem]⟩, fun _ => rfl⟩ ?_
  simp only [Act.put, List.getElem_toArray, List.getElem_cons_succ, List.getElem_cons_zero, List.setIfInBounds_toArray, List.set_cons_zero, List.set_cons_succ]
  refine wpAnyIn_pairs 4 8 (by kernel_rfl) ?_ ?_
  · skip
    refine wpOpIn_val (v := .agg (cb x).toArray) (w' := W.drew) rfl (by rfl) (load_run 40 _ rfl _ _ rfl (cb x) _ HX.out Tryz.underlying40 rfl (by rw [cb_len, HL2.out]; exact info_digest)) ?_
    simp only [Act.put, List.getElem_toArray, List.getElem_cons_succ, List.getElem_cons_zero, List.setIfInBounds_toArray, List.set_cons_zero, List.set_cons_succ]
    refine wpAnyIn_lone 8 (by kernel_rfl) ?_
    refine wpOpIn_val (v := .agg (cb v).toArray) (w' := W.drew) rfl (by rfl) (load_run 40 _ rfl _ _ rfl (cb v) _ HV.out Tryz.underlying40 rfl (by rw [cb_len, HL3.out]; exact info_digest)) ?_
    simp only [Act.put, List.getElem_toArray, List.getElem_cons_succ, List.getElem_cons_zero, List.setIfInBounds_toArray, List.set_cons_zero, List.set_cons_succ]
    refine wpAnyIn_lone 9 (by kernel_rfl) ?_
    refine wpOpIn_round rfl (by rfl) (by simp [go_sem, hyr]) hR ?_
    rintro e W' (⟨rfl, hj, hbb⟩ | ⟨rfl, hj⟩)
    · refine ⟨_, rfl, ?_⟩
      simp only [Act.put, List.getElem_toArray, List.getElem_cons_succ, List.getElem_cons_zero, List.setIfInBounds_toArray, List.set_cons_zero, List.set_cons_succ]
      refine wpAnyIn_lone 10 (by kernel_rfl) ?_
      refine wpOpIn_val (v := .bool true) (w' := W') rfl (by rfl) (by simp [go_sem]) ?_
      simp only [Act.put, List.getElem_toArray, List.getElem_cons_succ, List.getElem_cons_zero, List.setIfInBounds_toArray, List.set_cons_zero, List.set_cons_succ]
      refine wpAnyIn_done (by kernel_rfl) ?_ _
      have HJ : Hid (J (pre ++ [(x, v)]) W') := hj
      have HB2 : Hid (Below n₀ v0 W') := HB.out W' hbb
      clear hj hbb hyr hR
      go_wp2
      go_ret
      exact Or.inl ⟨rfl, HJ.out, HB2.out⟩
    · refine ⟨_, rfl, ?_⟩
      simp only [Act.put, List.getElem_toArray, List.getElem_cons_succ, List.getElem_cons_zero, List.setIfInBounds_toArray, List.set_cons_zero, List.set_cons_succ]
      refine wpAnyIn_lone 10 (by kernel_rfl) ?_
      refine wpOpIn_val (v := .bool false) (w' := W') rfl (by rfl) (by simp [go_sem]) ?_
      simp only [Act.put, List.getElem_toArray, List.getElem_cons_succ, List.getElem_cons_zero, List.setIfInBounds_toArray, List.set_cons_zero, List.set_cons_succ]
      refine wpAnyIn_done (by kernel_rfl) ?_ _
      have HJ : Hid (Jx (pre ++ [(x, v)]) W') := hj
      clear hj hyr hR
      go_wp2
      go_ret
      exact Or.inr ⟨rfl, 0, by simp, HJ.out⟩
  · skip
    refine wpOpIn_val (v := .agg (cb v).toArray) (w' := W.drew) rfl (by rfl) (load_run 40 _ rfl _ _ rfl (cb v) _ HV.out Tryz.underlying40 rfl (by rw [cb_len, HL3.out]; exact info_digest)) ?_
    simp only [Act.put, List.getElem_toArray, List.getElem_cons_succ, List.getElem_cons_zero, List.setIfInBounds_toArray, List.set_cons_zero, List.set_cons_succ]
    refine wpAnyIn_lone 4 (by kernel_rfl) ?_
    refine wpOpIn_val (v := .agg (cb x).toArray) (w' := W.drew) rfl (by rfl) (load_run 40 _ rfl _ _ rfl (cb x) _ HX.out Tryz.underlying40 rfl (by rw [cb_len, HL2.out]; exact info_digest)) ?_
    simp only [Act.put, List.getElem_toArray, List.getElem_cons_succ, List.getElem_cons_zero, List.setIfInBounds_toArray, List.set_cons_zero, List.set_cons_succ]
    refine wpAnyIn_lone 9 (by kernel_rfl) ?_
    refine wpOpIn_round rfl (by rfl) (by simp [go_sem, hyr]) hR ?_
    rintro e W' (⟨rfl, hj, hbb⟩ | ⟨rfl, hj⟩)
    · refine ⟨_, rfl, ?_⟩
      simp only [Act.put, List.getElem_toArray, List.getElem_cons_succ, List.getElem_cons_zero, List.setIfInBounds_toArray, List.set_cons_zero, List.set_cons_succ]
      refine wpAnyIn_lone 10 (by kernel_rfl) ?_
      refine wpOpIn_val (v := .bool true) (w' := W') rfl (by rfl) (by simp [go_sem]) ?_
      simp only [Act.put, List.getElem_toArray, List.getElem_cons_succ, List.getElem_cons_zero, List.setIfInBounds_toArray, List.set_cons_zero, List.set_cons_succ]
      refine wpAnyIn_done (by kernel_rfl) ?_ _
      have HJ : Hid (J (pre ++ [(x, v)]) W') := hj
      have HB2 : Hid (Below n₀ v0 W') := HB.out W' hbb
      clear hj hbb hyr hR
      go_wp2
      go_ret
      exact Or.inl ⟨rfl, HJ.out, HB2.out⟩
    · refine ⟨_, rfl, ?_⟩
      simp only [Act.put, List.getElem_toArray, List.getElem_cons_succ, List.getElem_cons_zero, List.setIfInBounds_toArray, List.set_cons_zero, List.set_cons_succ]
      refine wpAnyIn_lone 10 (by kernel_rfl) ?_
      refine wpOpIn_val (v := .bool false) (w' := W') rfl (by rfl) (by simp [go_sem]) ?_
      simp only [Act.put, List.getElem_toArray, List.getElem_cons_succ, List.getElem_cons_zero, List.setIfInBounds_toArray, List.set_cons_zero, List.set_cons_succ]
      refine wpAnyIn_done (by kernel_rfl) ?_ _
      have HJ : Hid (Jx (pre ++ [(x, v)]) W') := hj
      clear hj hyr hR
      go_wp2
      go_ret
      exact Or.inr ⟨rfl, 0, by simp, HJ.out⟩
set_option maxRecDepth 100000 in
set_option maxHeartbeats 2000000 in
theorem each_node {v0 : World} {n₀ lab : Nat} {J Jx : List Lf → World → Prop} {g g0 g1 c : Nat} {rt : List (BitVec 8)} {A B pre : List Lf} {W : World} (hc : ∀ W', Below n₀ v0 W' → TreeC W' g c rt zb32 zb32 (ptr g0) (ptr g1)) (hb : Below n₀ v0 W) (h2 : 2 ≤ c)
    (h0 : EachDoes v0 n₀ lab J Jx g0 A pre W) (h1 : ∀ W', J (pre ++ A) W' → Below n₀ v0 W' → EachDoes v0 n₀ lab J Jx g1 B (pre ++ A) W') : EachDoes v0 n₀ lab J Jx g (A ++ B) pre W := by
  unfold EachDoes at *
  have HC : Hid (∀ W', Below n₀ v0 W' → TreeC W' g c rt zb32 zb32 (ptr g0) (ptr g1)) := hc
  have H0 : Hid (Calls Tryz.prog 89 #[.pointer (some ⟨g0, 0, none⟩), .func (.yield lab) #[] #[]] W fun e W' => (e = .returned (.bool true) ∧ J (pre ++ A) W' ∧ Below n₀ v0 W') ∨ (e = .returned (.bool false) ∧ ∃ k, k < A.length ∧ Jx (pre ++ A.take (k + 1)) W')) := h0
  have H1 : Hid (∀ W', J (pre ++ A) W' → Below n₀ v0 W' → Calls Tryz.prog 89 #[.pointer (some ⟨g1, 0, none⟩), .func (.yield lab) #[] #[]] W' fun e W'' => (e = .returned (.bool true) ∧ J (pre ++ A ++ B) W'' ∧ Below n₀ v0 W'') ∨ (e = .returned (.bool false) ∧ ∃ k, k < B.length ∧ Jx (pre ++ A ++ B.take (k + 1)) W'')) := h1
  have c0 : W.cell? ⟨g, 0, none⟩ = some (.int .i64 (c : Int)) := (hc W hb).cnt
  have c97 : W.cell? ⟨g, 97, none⟩ = some (.pointer (some ⟨g0, 0, none⟩)) := (hc W hb).off
  have z0 : ¬ ((c : Int) = 0) := by omega
  have z0' : ((c : Int) == 0) = false := by rw [beq_eq_false_iff_ne]; omega
  have z1 : ¬ ((c : Int) = 1) := by omega
  have z1' : ((c : Int) == 1) = false := by rw [beq_eq_false_iff_ne]; omega
  clear hc hb h0 h1
  go_enter Tryz.func89, Tryz.ntmps89
  go_wp2_with fail
  refine H0.out.mono ?_
  clear H0 c0 c97 z0 z0' z1 z1'
  rintro e W1 (⟨rfl, hj, hbb⟩ | ⟨rfl, k, hk, hj⟩)
  · have HA : Hid (Calls Tryz.prog 89 #[.pointer (some ⟨g1, 0, none⟩), .func (.yield lab) #[] #[]] W1 fun e W'' => (e = .returned (.bool true) ∧ J (pre ++ A ++ B) W'' ∧ Below n₀ v0 W'') ∨ (e = .returned (.bool false) ∧ ∃ k, k < B.length ∧ Jx (pre ++ A ++ B.take (k + 1)) W'')) := H1.out W1 hj hbb
    have c98 : W1.cell? ⟨g, 98, none⟩ = some (.pointer (some ⟨g1, 0, none⟩)) := (HC.out W1 hbb).on
    clear hj hbb H1 HC
    go_wp2_with fail
    refine HA.out.mono ?_
    clear HA c98
    rintro e W2 (⟨rfl, hj, hbb⟩ | ⟨rfl, k, hk, hj⟩)
    · have HJ : Hid (J (pre ++ (A ++ B)) W2) := by rw [← List.append_assoc]; exact hj
      have HB : Hid (Below n₀ v0 W2) := hbb
      clear hj hbb
      go_wp2
      go_ret
      exact Or.inl ⟨rfl, HJ.out, HB.out⟩
    · have HJ : Hid (∃ k, k < (A ++ B).length ∧ Jx (pre ++ (A ++ B).take (k + 1)) W2) := by
        refine ⟨A.length + k, by rw [List.length_append]; omega, ?_⟩
        rw [show A.length + k + 1 = A.length + (k + 1) by omega, List.take_length_add_append, ← List.append_assoc]
        exact hj
      clear hj hk
      go_wp2
      go_ret
      exact Or.inr ⟨rfl, HJ.out⟩
  · have HJ : Hid (∃ k, k < (A ++ B).length ∧ Jx (pre ++ (A ++ B).take (k + 1)) W1) := by
      refine ⟨k, by rw [List.length_append]; omega, ?_⟩
      rw [List.take_append_of_le_length (by omega)]
      exact hj
    clear hj hk H1 HC
    go_wp2
    go_ret
    exact Or.inr ⟨rfl, HJ.out⟩
theorem each_any {v0 : World} {n₀ lab m N B : Nat} {J Jx : List Lf → World → Prop} (hz : v0.heap.size = n₀) (hJ : AbidesFrom B J)
    (hY : ∀ pre x W1, x.1.length = 32 ∧ x.2.length = 32 → J pre W1 → pre.length < N → YieldAt Fence.wide m Tryz.prog lab (encsL x) W1 fun e W' => (e = .returned (.bool true) ∧ J (pre ++ [x]) W' ∧ Below n₀ W1 W') ∨ (e = .returned (.bool false) ∧ Jx (pre ++ [x]) W')) {d g : Nat} {l : List Lf} (h : TreeIs v0 d g l) :
    ∀ (pre : List Lf) (W : World), Below n₀ v0 W → J pre W → pre.length + l.length ≤ N → EachDoes v0 n₀ lab J Jx g l pre W := by
  induction h with
  | none d g hc => exact fun pre W hb hj _ => each_none (hc.below hb (by rw [← hz]; exact hc.blk.lt)) hb hj
  | leaf d g x v hc => exact fun pre W hb hj hl => each_leaf (hc.below hb (by rw [← hz]; exact hc.blk.lt)) hb (hY pre (x, v) W.drew ⟨hc.l2, hc.l3⟩ (hJ _ _ _ none hj (grownBy_drew W) (fun r e => by cases e)) (by simp at hl; omega))
  | node d g g0 g1 l h2 hf _ _ hc i0 i1 =>
    intro pre W hb hj hl
    have ho := half_order hf
    have hlen := half_len hf
    rw [ho]
    refine each_node (fun W' hb' => hc.below hb' (by rw [← hz]; exact hc.blk.lt)) hb h2 (i0 pre W hb hj (by omega)) fun W' hj' hb' => i1 _ W' hb' hj' (by rw [List.length_append]; omega)
theorem trAll_any (w : World) (g : Nat) : Calls Tryz.prog 67 #[.pointer (some ⟨g, 0, none⟩)] w fun e w' => ∃ gb, e = .returned (.func (.func 88) #[] #[.pointer (some ⟨gb, 0, none⟩)]) ∧ Blk w' gb [ptr g] 36 ∧ Below w.heap.size w w' := by
  go_enter Tryz.func67, Tryz.ntmps67
  go_wp2
  go_ret
  exact ⟨_, rfl, Blk.new w [ptr g] _, below_alloc w _⟩
abbrev Lf32 : Type := { p : Lf // p.1.length = 32 ∧ p.2.length = 32 }
abbrev encs32 (p : Lf32) : Array Value := encsL p.1
set_option maxRecDepth 100000 in
set_option maxHeartbeats 2000000 in
theorem all_stops (n : Nat) {v0 : World} {n₀ g gb : Nat} {l : List Lf} (hz : v0.heap.size = n₀) (hT : TreeIs v0 0 g l) (w : World) (hw : Below n₀ v0 w) (hnw : n₀ ≤ w.heap.size) (hB : Blk w gb [ptr g] 36) :
    SeqStopsK Fence.wide n Tryz.prog 88 #[.pointer (some ⟨gb, 0, none⟩)] encs32 (Below n₀) (fun xs => xs.map (·.1) = l) (fun pre => ∃ k, k ≤ l.length ∧ pre.map (·.1) = l.take k) l.length w := fun lab J Jx W hW hJ hJx hY h0 => by
  have HE : Hid (EachDoes v0 n₀ lab (fun pre W => ∃ p : List Lf32, p.map (·.1) = pre ∧ J p W) (fun pre W => ∃ p : List Lf32, p.map (·.1) = pre ∧ Jx p W) g l [] W) := by
    refine each_any (m := n - 1) (N := l.length) (B := W.heap.size) hz (fun s A A' row hs hg hr => ?_) (fun pre x W1 hx hp hl => ?_) hT [] W (hw.trans (hW.mono hnw)) ⟨[], rfl, h0⟩ (by simp)
    · obtain ⟨p, e, hp⟩ := hs
      exact ⟨p, e, hJ p A A' row hp hg hr⟩
    · obtain ⟨p, e, hp⟩ := hp
      refine (hY p ⟨x, hx⟩ W1 hp (by rw [← e, List.length_map] at hl; exact hl)).mono fun e' W' he => ?_
      rcases he with ⟨h1, h2, h3⟩ | ⟨h1, h2⟩
      · exact Or.inl ⟨h1, ⟨p ++ [⟨x, hx⟩], by rw [List.map_append, e]; rfl, h2⟩, h3⟩
      · exact Or.inr ⟨h1, ⟨p ++ [⟨x, hx⟩], by rw [List.map_append, e]; rfl, h2⟩⟩
  have c0 : W.cell? ⟨gb, 0, none⟩ = some (.pointer (some ⟨g, 0, none⟩)) := (hB.below hW hB.lt).cell 0
  clear hB hW hw hT hY h0 hJ hJx
  refine callsIn_wide.2 ?_
  simp only [List.append_toArray, List.cons_append, List.nil_append]
  go_enter Tryz.func88, Tryz.ntmps88
  go_wp2_with fail
  have HE2 := HE.out
  unfold EachDoes at HE2
  refine HE2.mono ?_
  clear HE HE2 c0
  rintro e W2 (⟨rfl, hj, hbb⟩ | ⟨rfl, k, hk, hj⟩)
  · have HJ : Hid (∃ p : List Lf32, p.map (·.1) = l ∧ J p W2) := by simp only [List.nil_append] at hj; exact hj
    clear hj hbb
    go_wp2
    go_end0
    exact ⟨⟨_, rfl⟩, .inl HJ.out⟩
  · have HJ : Hid (∃ p : List Lf32, p.map (·.1) = l.take (k + 1) ∧ Jx p W2) := by simp only [List.nil_append] at hj; exact hj
    clear hj
    go_wp2
    go_end0
    obtain ⟨p, e, hp⟩ := HJ.out
    exact ⟨⟨_, rfl⟩, .inr ⟨p, ⟨k + 1, hk, e⟩, hp⟩⟩
end Go.Proofs.YtphmmnffgknkcabGreatDoor

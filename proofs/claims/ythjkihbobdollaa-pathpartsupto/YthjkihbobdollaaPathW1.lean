/- The walks of path's smallest functions. -/
import Derived.Test.YthjkihbobdollaaPathLaws
namespace Go.Proofs.Ythjkihbobdollaa
open Go.RowKit
theorem isBit_any (i : Int) (w : World) : Calls Try.prog 25 #[.int .i64 i] w fun e w' => e = .returned (.bool (isB i)) ∧ w' = w := by
  go_enter Try.func25, Try.ntmps25
  go_wp2
  · rename_i h
    go_ret
    exact ⟨by simp [isB, h], rfl⟩
  · rename_i h
    go_ret
    exact ⟨by simp [isB]; omega, rfl⟩
theorem mask_nat : ∀ k : Fin 8, ((128#8 >>> k.val).toNat : Int) = 128 / 2 ^ k.val := by decide +kernel
theorem bitOf_any (n : Nat) (w : World) : Calls Try.prog 26 #[.int .i64 (n : Int)] w fun e w' => e = .returned (.int .u8 ((mask n).toNat : Int)) ∧ w' = w := by
  have e1 : Int.tmod (n : Int) 8 = ((n % 8 : Nat) : Int) := by rw [Int.tmod_eq_emod_of_nonneg (by omega)]; omega
  have e2 := mask_nat ⟨n % 8, by omega⟩
  simp only at e2
  go_enter Try.func26, Try.ntmps26
  go_wp2
  go_ret
  exact ⟨by rw [mask, e2]; rfl, rfl⟩
theorem ofInt_toNat8 (x : BitVec 8) : BitVec.ofInt 8 (x.toNat : Int) = x := by apply BitVec.eq_of_toNat_eq; simp
theorem wrap_lt8 (x : BitVec 8) : IntKind.u8.wrap (x.toNat : Int) = (x.toNat : Int) := by
  have := x.isLt
  simp [IntKind.wrap, IntKind.bits, IntKind.signed]; omega
theorem u8_and (x y : BitVec 8) : bits .and .u8 (x.toNat : Int) (y.toNat : Int) = ((x &&& y).toNat : Int) := by
  show IntKind.u8.wrap ((BitVec.ofInt 8 (x.toNat : Int) &&& BitVec.ofInt 8 (y.toNat : Int)).toNat : Int) = _
  rw [ofInt_toNat8, ofInt_toNat8, wrap_lt8]
theorem u8_or (x y : BitVec 8) : bits .or .u8 (x.toNat : Int) (y.toNat : Int) = ((x ||| y).toNat : Int) := by
  show IntKind.u8.wrap ((BitVec.ofInt 8 (x.toNat : Int) ||| BitVec.ofInt 8 (y.toNat : Int)).toNat : Int) = _
  rw [ofInt_toNat8, ofInt_toNat8, wrap_lt8]
theorem u8_andNot (x y : BitVec 8) : bits .andNot .u8 (x.toNat : Int) (y.toNat : Int) = ((x &&& ~~~y).toNat : Int) := by
  show IntKind.u8.wrap ((BitVec.ofInt 8 (x.toNat : Int) &&& ~~~(BitVec.ofInt 8 (y.toNat : Int))).toNat : Int) = _
  rw [ofInt_toNat8, ofInt_toNat8, wrap_lt8]
set_option maxHeartbeats 1000000 in
theorem pBit_any (x : List (BitVec 8)) (hx : x.length = 32) (i : Int) (w : World) : Calls Try.prog 9 #[.agg (cb x).toArray, .int .i64 i] w fun e w' => e = .returned (.bool (bitI x i)) ∧ Below w.heap.size w w' := by
  by_cases hb : isB i = true
  · obtain ⟨h0, h1⟩ := (isB_iff i).1 hb
    obtain ⟨n, rfl⟩ : ∃ n : Nat, i = (n : Int) := ⟨i.toNat, by omega⟩
    obtain ⟨k, hk⟩ : ∃ k, k = n / 8 := ⟨_, rfl⟩
    have e1 : Int.tdiv (n : Int) 8 = (k : Int) := by rw [Int.tdiv_eq_ediv_of_nonneg (by omega)]; omega
    have e2 : IntKind.i64.wrap (k : Int) = (k : Int) := by simp [IntKind.wrap, IntKind.bits, IntKind.signed]; omega
    have k0 : (0 : Int) ≤ (k : Int) := by omega
    have k1 : (k : Int) < 32 := by omega
    obtain ⟨b, hbb⟩ : ∃ b, b = x.getD k 0 := ⟨_, rfl⟩
    have hc : (w.alloc (.cells (cb x).toArray 23)).cell? ⟨w.heap.size, k, none⟩ = some (.int .u8 (b.toNat : Int)) := by
      rw [(Blk.new w (cb x) 23).cell, cb_get x k (by omega), hbb]
    have hand := u8_and b (mask n)
    have hz : Hid (((((b.toNat &&& (mask n).toNat : Nat) : Int)) != 0) = bt x n) := by
      have h := mask_and b ⟨n % 8, by omega⟩
      have hm : mask n = 128#8 >>> (n % 8) := rfl
      simp only [← hm] at h
      have e : bt x n = b.getMsbD (n % 8) := by rw [hbb, hk]; rfl
      show _ = _
      rw [e, ← BitVec.toNat_and]
      cases hg : b.getMsbD (n % 8)
      · rw [hg] at h
        have h2 := of_decide_eq_true (h.trans rfl)
        rw [h2]; rfl
      · rw [hg] at h
        have h2 := of_decide_eq_false (h.trans rfl)
        rw [bne_iff_ne]
        intro h3
        exact h2 (BitVec.eq_of_toNat_eq (by simpa using h3))
    clear h0 h1 hk hbb
    have HB : Hid (isB (n : Int) = true) := hb
    clear hb
    go_enter Try.func9, Try.ntmps9
    go_wp2_with fail
    go_region_held3 (fun wx => wx.cell? ⟨w.heap.size, k, none⟩ = some (.int .u8 (b.toNat : Int))) (go_keep)
      (first | (go_at_call 25; refine (isBit_any _ _).mono ?_; rintro e w' ⟨rfl, rfl⟩; rw [HB.out]) | (go_at_call 26; refine (bitOf_any _ _).mono ?_; rintro e w' ⟨rfl, rfl⟩))
    go_wp2
    go_ret
    refine ⟨?_, ?_⟩
    · rw [bitI, HB.out, Bool.true_and, Int.toNat_natCast, ← hz.out]; rfl
    · exact (below_alloc w _).drew
  · have hb' : isB i = false := by simpa using hb
    clear hb
    have HB : Hid (isB i = false) := hb'
    clear hb'
    go_enter Try.func9, Try.ntmps9
    go_wp2_with fail
    refine wp_region_any (by kernel_rfl) ?_
    change wpAny _ _ _ _ _ _ _ (World.drew _)
    refine wpAny_take (i := 0) (v := .int .i64 i) rfl (by kernel_rfl) (by kernel_rfl) (by kernel_rfl) (fun _ _ _ h => h) (Or.inl ⟨by rfl, fun wx => by simp [go_sem]⟩) ?_
    simp only [Act.put, List.getElem_toArray, List.getElem_cons_zero, List.setIfInBounds_toArray, List.set_cons_zero, List.set_cons_succ]
    refine wpAny_enter 1 (by kernel_rfl) rfl (by rfl) (f := 25) (args := #[.int .i64 i]) (by simp [go_sem]) (isBit_any _ _) ?_
    rintro e w1 ⟨rfl, rfl⟩
    refine ⟨_, rfl, ?_⟩
    rw [HB.out]
    simp only [Act.put, List.getElem_toArray, List.getElem_cons_succ, List.getElem_cons_zero, List.setIfInBounds_toArray, List.set_cons_zero, List.set_cons_succ]
    refine wpAny_take (i := 2) (v := .bool false) rfl (by kernel_rfl) (by kernel_rfl) (by kernel_rfl) (fun _ _ _ h => h) (Or.inl ⟨by rfl, fun wx => by simp [go_sem]⟩) ?_
    simp only [Act.put, List.getElem_toArray, List.getElem_cons_succ, List.getElem_cons_zero, List.setIfInBounds_toArray, List.set_cons_zero, List.set_cons_succ]
    refine wpAny_take (i := 3) (v := undef) rfl (by kernel_rfl) (by kernel_rfl) (by kernel_rfl) (fun _ _ _ h => h) (Or.inr ⟨by rfl, rfl⟩) ?_
    simp only [Act.put, List.getElem_toArray, List.getElem_cons_succ, List.getElem_cons_zero, List.setIfInBounds_toArray, List.set_cons_zero, List.set_cons_succ]
    refine wpAny_take (i := 4) (v := undef) rfl (by kernel_rfl) (by kernel_rfl) (by kernel_rfl) (fun _ _ _ h => h) (Or.inr ⟨by rfl, rfl⟩) ?_
    simp only [Act.put, List.getElem_toArray, List.getElem_cons_succ, List.getElem_cons_zero, List.setIfInBounds_toArray, List.set_cons_zero, List.set_cons_succ]
    refine wpAny_take (i := 5) (v := undef) rfl (by kernel_rfl) (by kernel_rfl) (by kernel_rfl) (fun _ _ _ h => h) (Or.inr ⟨by rfl, rfl⟩) ?_
    simp only [Act.put, List.getElem_toArray, List.getElem_cons_succ, List.getElem_cons_zero, List.setIfInBounds_toArray, List.set_cons_zero, List.set_cons_succ]
    refine wpAny_take (i := 6) (v := undef) rfl (by kernel_rfl) (by kernel_rfl) (by kernel_rfl) (fun _ _ _ h => h) (Or.inr ⟨by rfl, rfl⟩) ?_
    simp only [Act.put, List.getElem_toArray, List.getElem_cons_succ, List.getElem_cons_zero, List.setIfInBounds_toArray, List.set_cons_zero, List.set_cons_succ]
    refine wpAny_take (i := 7) (v := undef) rfl (by kernel_rfl) (by kernel_rfl) (by kernel_rfl) (fun _ _ _ h => h) (Or.inr ⟨by rfl, rfl⟩) ?_
    simp only [Act.put, List.getElem_toArray, List.getElem_cons_succ, List.getElem_cons_zero, List.setIfInBounds_toArray, List.set_cons_zero, List.set_cons_succ]
    refine wpAny_take (i := 8) (v := undef) rfl (by kernel_rfl) (by kernel_rfl) (by kernel_rfl) (fun _ _ _ h => h) (Or.inr ⟨by rfl, rfl⟩) ?_
    simp only [Act.put, List.getElem_toArray, List.getElem_cons_succ, List.getElem_cons_zero, List.setIfInBounds_toArray, List.set_cons_zero, List.set_cons_succ]
    refine wpAny_take (i := 9) (v := undef) rfl (by kernel_rfl) (by kernel_rfl) (by kernel_rfl) (fun _ _ _ h => h) (Or.inr ⟨by rfl, rfl⟩) ?_
    simp only [Act.put, List.getElem_toArray, List.getElem_cons_succ, List.getElem_cons_zero, List.setIfInBounds_toArray, List.set_cons_zero, List.set_cons_succ]
    refine wpAny_take (i := 10) (v := undef) rfl (by kernel_rfl) (by kernel_rfl) (by kernel_rfl) (fun _ _ _ h => h) (Or.inr ⟨by rfl, rfl⟩) ?_
    simp only [Act.put, List.getElem_toArray, List.getElem_cons_succ, List.getElem_cons_zero, List.setIfInBounds_toArray, List.set_cons_zero, List.set_cons_succ]
    refine wpAny_take (i := 11) (v := .bool false) rfl (by kernel_rfl) (by kernel_rfl) (by kernel_rfl) (fun _ _ _ h => h) (Or.inl ⟨by rfl, fun wx => by simp [go_sem]⟩) ?_
    simp only [Act.put, List.getElem_toArray, List.getElem_cons_succ, List.getElem_cons_zero, List.setIfInBounds_toArray, List.set_cons_zero, List.set_cons_succ]
    refine wpAny_take (i := 12) (v := .bool false) rfl (by kernel_rfl) (by kernel_rfl) (by kernel_rfl) (fun _ _ _ h => h) (Or.inl ⟨by rfl, fun wx => by simp [go_sem]⟩) ?_
    simp only [Act.put, List.getElem_toArray, List.getElem_cons_succ, List.getElem_cons_zero, List.setIfInBounds_toArray, List.set_cons_zero, List.set_cons_succ]
    refine wpAny_done (by kernel_rfl) ?_ _
    go_wp2
    go_ret
    exact ⟨by rw [bitI, HB.out]; rfl, (below_alloc w _).drew⟩
theorem binOr (f : Operand → Value) (o : Oper) (x y : Operand) (ho : o.op = .binOp .or 5 x y 5) (a b : BitVec 8) (hx : f x = .int .u8 (a.toNat : Int)) (hy : f y = .int .u8 (b.toNat : Int)) (w : World) : (execOp f o).run Try.prog w = .ok (.value (.int .u8 ((a ||| b).toNat : Int))) w := by
  unfold execOp
  rw [ho]
  simp only [hx, hy]
  have h := u8_or a b
  simp [go_sem, h]
theorem binAndNot (f : Operand → Value) (o : Oper) (x y : Operand) (ho : o.op = .binOp .andNot 5 x y 5) (a b : BitVec 8) (hx : f x = .int .u8 (a.toNat : Int)) (hy : f y = .int .u8 (b.toNat : Int)) (w : World) : (execOp f o).run Try.prog w = .ok (.value (.int .u8 ((a &&& ~~~b).toNat : Int))) w := by
  unfold execOp
  rw [ho]
  simp only [hx, hy]
  have h := u8_andNot a b
  simp [go_sem, h]
theorem Only.toBelow {g B : Nat} {w w' : World} (h : Only g w w') (hg : B ≤ g) (hB : B ≤ w.heap.size) : Below B w w' := h.below hg hB
set_option maxHeartbeats 1000000 in
theorem pSet_any (x : List (BitVec 8)) (hx : x.length = 32) (i : Int) (on : Bool) (w : World) : Calls Try.prog 8 #[.agg (cb x).toArray, .int .i64 i, .bool on] w fun e w' => e = .returned (.agg (cb (setI x i on)).toArray) ∧ Below w.heap.size w w' := by
  by_cases hb : isB i = true
  · obtain ⟨h0, h1⟩ := (isB_iff i).1 hb
    obtain ⟨n, rfl⟩ : ∃ n : Nat, i = (n : Int) := ⟨i.toNat, by omega⟩
    obtain ⟨k, hk⟩ : ∃ k, k = n / 8 := ⟨_, rfl⟩
    have e1 : Int.tdiv (n : Int) 8 = (k : Int) := by rw [Int.tdiv_eq_ediv_of_nonneg (by omega)]; omega
    have e2 : IntKind.i64.wrap (k : Int) = (k : Int) := by simp [IntKind.wrap, IntKind.bits, IntKind.signed]; omega
    have HK32 : Hid (k < 32) := by show _ < _; omega
    have HKX : Hid (k < x.length) := by show _ < _; omega
    obtain ⟨b, hbb⟩ : ∃ b, b = x.getD k 0 := ⟨_, rfl⟩
    clear h0 h1
    have HB : Hid (isB (n : Int) = true) := hb
    clear hb
    have HK : Hid (k = n / 8) := hk
    clear hk
    have HBB : Hid (b = x.getD k 0) := hbb
    clear hbb
    have HX : Hid (x.length = 32) := hx
    clear hx
    cases on
    · have HF : Hid (setI x (n : Int) false = x.set k (b &&& ~~~(mask n))) := by
        show _ = _
        rw [setI, if_pos HB.out, Int.toNat_natCast, setN, ← HK.out, ← HBB.out]; rfl
      go_enter Try.func8, Try.ntmps8
      go_wp2_with (first
        | (with_reducible refine wpSeq_boxD (.tmp 0) x ?_ ?_ ?_ ?_
           · rfl
           · rfl
           · rfl
           intro g0 w1 n1)
        | (with_reducible refine wpSeq_allocD ?_ ?_ ?_
           · rfl
           · rfl
           intro g1 w2 n2
           have H0 : Hid (Blk w2 g0 (cb x) 23) := n1.blk.below n2.below n1.blk.lt
           have H1 : Hid (Blk w2 g1 (cb zb32) 23) := n2.blk
           have HG : Hid (w.heap.size ≤ g0 ∧ g0 < g1 ∧ w.heap.size ≤ w2.heap.size) := ⟨n1.ge, Nat.lt_of_lt_of_le n1.blk.lt n2.ge, Nat.le_trans n1.below.size n2.below.size⟩
           have HBW : Hid (Below w.heap.size w w2) := n1.below.trans (n2.below.mono n1.below.size)
           clear n1 n2)
        | (go_at_call 25; refine (isBit_any _ _).mono ?_; rintro e wz ⟨rfl, hz⟩; rw [hz, HB.out]; clear hz wz))
      have hcell : w2.drew.cell? ⟨g0, k, none⟩ = some (.int .u8 (b.toNat : Int)) := by rw [H0.out.drew.cell, cb_get x k HKX.out, HBB.out]
      refine wp_region_any (by kernel_rfl) ?_
      change wpAny _ _ _ _ _ _ _ (World.drew _)
      refine wpAny_take (i := 0) (v := .int .i64 (n : Int)) rfl (by kernel_rfl) (by kernel_rfl) (by kernel_rfl) (fun _ _ _ h => h) (Or.inl ⟨by rfl, fun wx => by simp [go_sem]⟩) ?_
      simp only [Act.put, List.getElem_toArray, List.getElem_cons_zero, List.setIfInBounds_toArray, List.set_cons_zero, List.set_cons_succ]
      refine wpAny_take (i := 1) (v := .int .i64 (k : Int)) rfl (by kernel_rfl) (by kernel_rfl) (by kernel_rfl) (fun _ _ _ h => h) (Or.inl ⟨by rfl, fun wx => by simp [go_sem, e1, e2]⟩) ?_
      simp only [Act.put, List.getElem_toArray, List.getElem_cons_succ, List.getElem_cons_zero, List.setIfInBounds_toArray, List.set_cons_zero, List.set_cons_succ]
      refine wpAny_take (i := 2) (v := .pointer (some ⟨g0, k, none⟩)) rfl (by kernel_rfl) (by kernel_rfl) (by kernel_rfl) (fun _ _ _ h => h) (Or.inl ⟨by rfl, fun wx => by exact indexDig k g0 HK32.out _ _ _ _ rfl rfl rfl wx⟩) ?_
      simp only [Act.put, List.getElem_toArray, List.getElem_cons_succ, List.getElem_cons_zero, List.setIfInBounds_toArray, List.set_cons_zero, List.set_cons_succ]
      refine wpAny_take (i := 4) (v := .int .i64 (n : Int)) rfl (by kernel_rfl) (by kernel_rfl) (by kernel_rfl) (fun _ _ _ h => h) (Or.inl ⟨by rfl, fun wx => by simp [go_sem]⟩) ?_
      simp only [Act.put, List.getElem_toArray, List.getElem_cons_succ, List.getElem_cons_zero, List.setIfInBounds_toArray, List.set_cons_zero, List.set_cons_succ]
      refine wpAny_pair 3 5 (by kernel_rfl) (wpOp_vl 3 (.int .u8 (b.toNat : Int)) w2.drew rfl (by rfl) (by simp [go_sem, hcell]) ?_) (wpOp_en 5 rfl (by rfl) (f := 26) (args := #[.int .i64 (n : Int)]) (by simp [go_sem]) (bitOf_any _ _) ?_)
      · skip
        simp only [Act.put, List.getElem_toArray, List.getElem_cons_succ, List.getElem_cons_zero, List.setIfInBounds_toArray, List.set_cons_zero, List.set_cons_succ]
        refine wpAny_enter 5 (by kernel_rfl) rfl (by rfl) (f := 26) (args := #[.int .i64 (n : Int)]) (by simp [go_sem]) (bitOf_any _ _) ?_
        rintro e wz ⟨rfl, hz⟩
        rw [hz]; clear hz wz
        refine ⟨_, rfl, ?_⟩
        simp only [Act.put, List.getElem_toArray, List.getElem_cons_succ, List.getElem_cons_zero, List.setIfInBounds_toArray, List.set_cons_zero, List.set_cons_succ]
        refine wpAny_take (i := 6) (v := .int .u8 ((b &&& ~~~(mask n)).toNat : Int)) rfl (by kernel_rfl) (by kernel_rfl) (by kernel_rfl) (fun _ _ _ h => h) (Or.inl ⟨by rfl, fun wx => by exact binAndNot _ _ _ _ rfl b (mask n) rfl rfl wx⟩) ?_
        simp only [Act.put, List.getElem_toArray, List.getElem_cons_succ, List.getElem_cons_zero, List.setIfInBounds_toArray, List.set_cons_zero, List.set_cons_succ]
        refine wpAny_take (i := 7) (v := .pointer (some ⟨g0, k, none⟩)) rfl (by kernel_rfl) (by kernel_rfl) (by kernel_rfl) (fun _ _ _ h => h) (Or.inl ⟨by rfl, fun wx => by exact indexDig k g0 HK32.out _ _ _ _ rfl rfl rfl wx⟩) ?_
        simp only [Act.put, List.getElem_toArray, List.getElem_cons_succ, List.getElem_cons_zero, List.setIfInBounds_toArray, List.set_cons_zero, List.set_cons_succ]
        refine wpAny_storeB 8 _ _ g0 k x (b &&& ~~~(mask n)) (by kernel_rfl) rfl (by rfl) rfl rfl rfl HKX.out H0.out.drew ?_
        intro w3 h3
        simp only [Act.put, List.getElem_toArray, List.getElem_cons_succ, List.getElem_cons_zero]
        refine wpAny_done (by kernel_rfl) ?_ _
        have HL : Hid ((x.set k (b &&& ~~~(mask n))).length = 32) := by show _ = _; rw [List.length_set]; exact HX.out
        have HG1 : Hid (Blk w3 g1 (cb zb32) 23) := H1.out.drew.only h3.only (by have := HG.out; omega)
        have HB3 : Hid (Below w.heap.size w w3) := HBW.out.drew.trans (h3.only.below HG.out.1 HG.out.2.2)
        have HS3 : Hid (w.heap.size ≤ w3.heap.size) := Nat.le_trans HG.out.2.2 h3.only.size
        have H3 : Hid (Blk w3 g0 (cb (x.set k (b &&& ~~~(mask n)))) 23) := h3.blk
        clear h3
        obtain ⟨y, HY⟩ : ∃ y, Hid (y = x.set k (b &&& ~~~(mask n))) := ⟨_, rfl⟩
        rw [← HY.out] at HL H3
        go_wp2_with (first
          | (with_reducible refine wpSeq_loadD (.tmp 3) g0 y ?_ ?_ ?_ ?_ ?_ ?_
             · exact HL.out
             · exact H3.out
             · rfl
             · rfl
             · rfl)
          | (with_reducible refine wpSeq_storeD (.tmp 6) (.tmp 28) g1 zb32 y ?_ ?_ ?_ ?_ ?_ ?_ ?_ ?_
             · rfl
             · exact HL.out
             · exact HG1.out
             · rfl
             · rfl
             · rfl
             · rfl
             intro w4 h4))
        exact bodyPost_ret (v := .agg (cb y).toArray) (results_cell_row (by rfl) _ _ g1 23 _ (0, 0) _ rfl h4.blk Try.underlying23 rfl (by rw [List.size_toArray, cb_len, HL.out]; exact info_digest)) rfl ⟨by rw [HF.out, HY.out], HB3.out.trans (h4.only.below (by have := HG.out; omega) HS3.out)⟩
      · skip
        rintro e wz ⟨rfl, hz⟩
        rw [hz]; clear hz wz
        refine ⟨_, rfl, ?_⟩
        simp only [Act.put, List.getElem_toArray, List.getElem_cons_succ, List.getElem_cons_zero, List.setIfInBounds_toArray, List.set_cons_zero, List.set_cons_succ]
        refine wpAny_step 3 (.int .u8 (b.toNat : Int)) w2.drew (by kernel_rfl) rfl (by rfl) (by simp [go_sem, hcell]) ?_
        simp only [Act.put, List.getElem_toArray, List.getElem_cons_succ, List.getElem_cons_zero, List.setIfInBounds_toArray, List.set_cons_zero, List.set_cons_succ]
        refine wpAny_take (i := 6) (v := .int .u8 ((b &&& ~~~(mask n)).toNat : Int)) rfl (by kernel_rfl) (by kernel_rfl) (by kernel_rfl) (fun _ _ _ h => h) (Or.inl ⟨by rfl, fun wx => by exact binAndNot _ _ _ _ rfl b (mask n) rfl rfl wx⟩) ?_
        simp only [Act.put, List.getElem_toArray, List.getElem_cons_succ, List.getElem_cons_zero, List.setIfInBounds_toArray, List.set_cons_zero, List.set_cons_succ]
        refine wpAny_take (i := 7) (v := .pointer (some ⟨g0, k, none⟩)) rfl (by kernel_rfl) (by kernel_rfl) (by kernel_rfl) (fun _ _ _ h => h) (Or.inl ⟨by rfl, fun wx => by exact indexDig k g0 HK32.out _ _ _ _ rfl rfl rfl wx⟩) ?_
        simp only [Act.put, List.getElem_toArray, List.getElem_cons_succ, List.getElem_cons_zero, List.setIfInBounds_toArray, List.set_cons_zero, List.set_cons_succ]
        refine wpAny_storeB 8 _ _ g0 k x (b &&& ~~~(mask n)) (by kernel_rfl) rfl (by rfl) rfl rfl rfl HKX.out H0.out.drew ?_
        intro w3 h3
        simp only [Act.put, List.getElem_toArray, List.getElem_cons_succ, List.getElem_cons_zero]
        refine wpAny_done (by kernel_rfl) ?_ _
        have HL : Hid ((x.set k (b &&& ~~~(mask n))).length = 32) := by show _ = _; rw [List.length_set]; exact HX.out
        have HG1 : Hid (Blk w3 g1 (cb zb32) 23) := H1.out.drew.only h3.only (by have := HG.out; omega)
        have HB3 : Hid (Below w.heap.size w w3) := HBW.out.drew.trans (h3.only.below HG.out.1 HG.out.2.2)
        have HS3 : Hid (w.heap.size ≤ w3.heap.size) := Nat.le_trans HG.out.2.2 h3.only.size
        have H3 : Hid (Blk w3 g0 (cb (x.set k (b &&& ~~~(mask n)))) 23) := h3.blk
        clear h3
        obtain ⟨y, HY⟩ : ∃ y, Hid (y = x.set k (b &&& ~~~(mask n))) := ⟨_, rfl⟩
        rw [← HY.out] at HL H3
        go_wp2_with (first
          | (with_reducible refine wpSeq_loadD (.tmp 3) g0 y ?_ ?_ ?_ ?_ ?_ ?_
             · exact HL.out
             · exact H3.out
             · rfl
             · rfl
             · rfl)
          | (with_reducible refine wpSeq_storeD (.tmp 6) (.tmp 28) g1 zb32 y ?_ ?_ ?_ ?_ ?_ ?_ ?_ ?_
             · rfl
             · exact HL.out
             · exact HG1.out
             · rfl
             · rfl
             · rfl
             · rfl
             intro w4 h4))
        exact bodyPost_ret (v := .agg (cb y).toArray) (results_cell_row (by rfl) _ _ g1 23 _ (0, 0) _ rfl h4.blk Try.underlying23 rfl (by rw [List.size_toArray, cb_len, HL.out]; exact info_digest)) rfl ⟨by rw [HF.out, HY.out], HB3.out.trans (h4.only.below (by have := HG.out; omega) HS3.out)⟩
    · have HF : Hid (setI x (n : Int) true = x.set k (b ||| mask n)) := by
        show _ = _
        rw [setI, if_pos HB.out, Int.toNat_natCast, setN, ← HK.out, ← HBB.out]; rfl
      go_enter Try.func8, Try.ntmps8
      go_wp2_with (first
        | (with_reducible refine wpSeq_boxD (.tmp 0) x ?_ ?_ ?_ ?_
           · rfl
           · rfl
           · rfl
           intro g0 w1 n1)
        | (with_reducible refine wpSeq_allocD ?_ ?_ ?_
           · rfl
           · rfl
           intro g1 w2 n2
           have H0 : Hid (Blk w2 g0 (cb x) 23) := n1.blk.below n2.below n1.blk.lt
           have H1 : Hid (Blk w2 g1 (cb zb32) 23) := n2.blk
           have HG : Hid (w.heap.size ≤ g0 ∧ g0 < g1 ∧ w.heap.size ≤ w2.heap.size) := ⟨n1.ge, Nat.lt_of_lt_of_le n1.blk.lt n2.ge, Nat.le_trans n1.below.size n2.below.size⟩
           have HBW : Hid (Below w.heap.size w w2) := n1.below.trans (n2.below.mono n1.below.size)
           clear n1 n2)
        | (go_at_call 25; refine (isBit_any _ _).mono ?_; rintro e wz ⟨rfl, hz⟩; rw [hz, HB.out]; clear hz wz))
      have hcell : w2.drew.cell? ⟨g0, k, none⟩ = some (.int .u8 (b.toNat : Int)) := by rw [H0.out.drew.cell, cb_get x k HKX.out, HBB.out]
      refine wp_region_any (by kernel_rfl) ?_
      change wpAny _ _ _ _ _ _ _ (World.drew _)
      refine wpAny_take (i := 0) (v := .int .i64 (n : Int)) rfl (by kernel_rfl) (by kernel_rfl) (by kernel_rfl) (fun _ _ _ h => h) (Or.inl ⟨by rfl, fun wx => by simp [go_sem]⟩) ?_
      simp only [Act.put, List.getElem_toArray, List.getElem_cons_zero, List.setIfInBounds_toArray, List.set_cons_zero, List.set_cons_succ]
      refine wpAny_take (i := 1) (v := .int .i64 (k : Int)) rfl (by kernel_rfl) (by kernel_rfl) (by kernel_rfl) (fun _ _ _ h => h) (Or.inl ⟨by rfl, fun wx => by simp [go_sem, e1, e2]⟩) ?_
      simp only [Act.put, List.getElem_toArray, List.getElem_cons_succ, List.getElem_cons_zero, List.setIfInBounds_toArray, List.set_cons_zero, List.set_cons_succ]
      refine wpAny_take (i := 2) (v := .pointer (some ⟨g0, k, none⟩)) rfl (by kernel_rfl) (by kernel_rfl) (by kernel_rfl) (fun _ _ _ h => h) (Or.inl ⟨by rfl, fun wx => by exact indexDig k g0 HK32.out _ _ _ _ rfl rfl rfl wx⟩) ?_
      simp only [Act.put, List.getElem_toArray, List.getElem_cons_succ, List.getElem_cons_zero, List.setIfInBounds_toArray, List.set_cons_zero, List.set_cons_succ]
      refine wpAny_take (i := 4) (v := .int .i64 (n : Int)) rfl (by kernel_rfl) (by kernel_rfl) (by kernel_rfl) (fun _ _ _ h => h) (Or.inl ⟨by rfl, fun wx => by simp [go_sem]⟩) ?_
      simp only [Act.put, List.getElem_toArray, List.getElem_cons_succ, List.getElem_cons_zero, List.setIfInBounds_toArray, List.set_cons_zero, List.set_cons_succ]
      refine wpAny_pair 3 5 (by kernel_rfl) (wpOp_vl 3 (.int .u8 (b.toNat : Int)) w2.drew rfl (by rfl) (by simp [go_sem, hcell]) ?_) (wpOp_en 5 rfl (by rfl) (f := 26) (args := #[.int .i64 (n : Int)]) (by simp [go_sem]) (bitOf_any _ _) ?_)
      · skip
        simp only [Act.put, List.getElem_toArray, List.getElem_cons_succ, List.getElem_cons_zero, List.setIfInBounds_toArray, List.set_cons_zero, List.set_cons_succ]
        refine wpAny_enter 5 (by kernel_rfl) rfl (by rfl) (f := 26) (args := #[.int .i64 (n : Int)]) (by simp [go_sem]) (bitOf_any _ _) ?_
        rintro e wz ⟨rfl, hz⟩
        rw [hz]; clear hz wz
        refine ⟨_, rfl, ?_⟩
        simp only [Act.put, List.getElem_toArray, List.getElem_cons_succ, List.getElem_cons_zero, List.setIfInBounds_toArray, List.set_cons_zero, List.set_cons_succ]
        refine wpAny_take (i := 6) (v := .int .u8 ((b ||| mask n).toNat : Int)) rfl (by kernel_rfl) (by kernel_rfl) (by kernel_rfl) (fun _ _ _ h => h) (Or.inl ⟨by rfl, fun wx => by exact binOr _ _ _ _ rfl b (mask n) rfl rfl wx⟩) ?_
        simp only [Act.put, List.getElem_toArray, List.getElem_cons_succ, List.getElem_cons_zero, List.setIfInBounds_toArray, List.set_cons_zero, List.set_cons_succ]
        refine wpAny_take (i := 7) (v := .pointer (some ⟨g0, k, none⟩)) rfl (by kernel_rfl) (by kernel_rfl) (by kernel_rfl) (fun _ _ _ h => h) (Or.inl ⟨by rfl, fun wx => by exact indexDig k g0 HK32.out _ _ _ _ rfl rfl rfl wx⟩) ?_
        simp only [Act.put, List.getElem_toArray, List.getElem_cons_succ, List.getElem_cons_zero, List.setIfInBounds_toArray, List.set_cons_zero, List.set_cons_succ]
        refine wpAny_storeB 8 _ _ g0 k x (b ||| mask n) (by kernel_rfl) rfl (by rfl) rfl rfl rfl HKX.out H0.out.drew ?_
        intro w3 h3
        simp only [Act.put, List.getElem_toArray, List.getElem_cons_succ, List.getElem_cons_zero]
        refine wpAny_done (by kernel_rfl) ?_ _
        have HL : Hid ((x.set k (b ||| mask n)).length = 32) := by show _ = _; rw [List.length_set]; exact HX.out
        have HG1 : Hid (Blk w3 g1 (cb zb32) 23) := H1.out.drew.only h3.only (by have := HG.out; omega)
        have HB3 : Hid (Below w.heap.size w w3) := HBW.out.drew.trans (h3.only.below HG.out.1 HG.out.2.2)
        have HS3 : Hid (w.heap.size ≤ w3.heap.size) := Nat.le_trans HG.out.2.2 h3.only.size
        have H3 : Hid (Blk w3 g0 (cb (x.set k (b ||| mask n))) 23) := h3.blk
        clear h3
        obtain ⟨y, HY⟩ : ∃ y, Hid (y = x.set k (b ||| mask n)) := ⟨_, rfl⟩
        rw [← HY.out] at HL H3
        go_wp2_with (first
          | (with_reducible refine wpSeq_loadD (.tmp 3) g0 y ?_ ?_ ?_ ?_ ?_ ?_
             · exact HL.out
             · exact H3.out
             · rfl
             · rfl
             · rfl)
          | (with_reducible refine wpSeq_storeD (.tmp 6) (.tmp 28) g1 zb32 y ?_ ?_ ?_ ?_ ?_ ?_ ?_ ?_
             · rfl
             · exact HL.out
             · exact HG1.out
             · rfl
             · rfl
             · rfl
             · rfl
             intro w4 h4))
        exact bodyPost_ret (v := .agg (cb y).toArray) (results_cell_row (by rfl) _ _ g1 23 _ (0, 0) _ rfl h4.blk Try.underlying23 rfl (by rw [List.size_toArray, cb_len, HL.out]; exact info_digest)) rfl ⟨by rw [HF.out, HY.out], HB3.out.trans (h4.only.below (by have := HG.out; omega) HS3.out)⟩
      · skip
        rintro e wz ⟨rfl, hz⟩
        rw [hz]; clear hz wz
        refine ⟨_, rfl, ?_⟩
        simp only [Act.put, List.getElem_toArray, List.getElem_cons_succ, List.getElem_cons_zero, List.setIfInBounds_toArray, List.set_cons_zero, List.set_cons_succ]
        refine wpAny_step 3 (.int .u8 (b.toNat : Int)) w2.drew (by kernel_rfl) rfl (by rfl) (by simp [go_sem, hcell]) ?_
        simp only [Act.put, List.getElem_toArray, List.getElem_cons_succ, List.getElem_cons_zero, List.setIfInBounds_toArray, List.set_cons_zero, List.set_cons_succ]
        refine wpAny_take (i := 6) (v := .int .u8 ((b ||| mask n).toNat : Int)) rfl (by kernel_rfl) (by kernel_rfl) (by kernel_rfl) (fun _ _ _ h => h) (Or.inl ⟨by rfl, fun wx => by exact binOr _ _ _ _ rfl b (mask n) rfl rfl wx⟩) ?_
        simp only [Act.put, List.getElem_toArray, List.getElem_cons_succ, List.getElem_cons_zero, List.setIfInBounds_toArray, List.set_cons_zero, List.set_cons_succ]
        refine wpAny_take (i := 7) (v := .pointer (some ⟨g0, k, none⟩)) rfl (by kernel_rfl) (by kernel_rfl) (by kernel_rfl) (fun _ _ _ h => h) (Or.inl ⟨by rfl, fun wx => by exact indexDig k g0 HK32.out _ _ _ _ rfl rfl rfl wx⟩) ?_
        simp only [Act.put, List.getElem_toArray, List.getElem_cons_succ, List.getElem_cons_zero, List.setIfInBounds_toArray, List.set_cons_zero, List.set_cons_succ]
        refine wpAny_storeB 8 _ _ g0 k x (b ||| mask n) (by kernel_rfl) rfl (by rfl) rfl rfl rfl HKX.out H0.out.drew ?_
        intro w3 h3
        simp only [Act.put, List.getElem_toArray, List.getElem_cons_succ, List.getElem_cons_zero]
        refine wpAny_done (by kernel_rfl) ?_ _
        have HL : Hid ((x.set k (b ||| mask n)).length = 32) := by show _ = _; rw [List.length_set]; exact HX.out
        have HG1 : Hid (Blk w3 g1 (cb zb32) 23) := H1.out.drew.only h3.only (by have := HG.out; omega)
        have HB3 : Hid (Below w.heap.size w w3) := HBW.out.drew.trans (h3.only.below HG.out.1 HG.out.2.2)
        have HS3 : Hid (w.heap.size ≤ w3.heap.size) := Nat.le_trans HG.out.2.2 h3.only.size
        have H3 : Hid (Blk w3 g0 (cb (x.set k (b ||| mask n))) 23) := h3.blk
        clear h3
        obtain ⟨y, HY⟩ : ∃ y, Hid (y = x.set k (b ||| mask n)) := ⟨_, rfl⟩
        rw [← HY.out] at HL H3
        go_wp2_with (first
          | (with_reducible refine wpSeq_loadD (.tmp 3) g0 y ?_ ?_ ?_ ?_ ?_ ?_
             · exact HL.out
             · exact H3.out
             · rfl
             · rfl
             · rfl)
          | (with_reducible refine wpSeq_storeD (.tmp 6) (.tmp 28) g1 zb32 y ?_ ?_ ?_ ?_ ?_ ?_ ?_ ?_
             · rfl
             · exact HL.out
             · exact HG1.out
             · rfl
             · rfl
             · rfl
             · rfl
             intro w4 h4))
        exact bodyPost_ret (v := .agg (cb y).toArray) (results_cell_row (by rfl) _ _ g1 23 _ (0, 0) _ rfl h4.blk Try.underlying23 rfl (by rw [List.size_toArray, cb_len, HL.out]; exact info_digest)) rfl ⟨by rw [HF.out, HY.out], HB3.out.trans (h4.only.below (by have := HG.out; omega) HS3.out)⟩
  · have hb' : isB i = false := by simpa using hb
    have HB : Hid (isB i = false) := hb'
    have HF : Hid (setI x i on = x) := by show _ = _; rw [setI, if_neg (by rw [hb']; simp)]
    clear hb hb'
    have HL : Hid (x.length = 32) := hx
    clear hx
    go_enter Try.func8, Try.ntmps8
    go_wp2_with (first
      | (with_reducible refine wpSeq_boxD (.tmp 0) x ?_ ?_ ?_ ?_
         · rfl
         · rfl
         · rfl
         intro g0 w1 n1)
      | (with_reducible refine wpSeq_allocD ?_ ?_ ?_
         · rfl
         · rfl
         intro g1 w2 n2
         have H0 : Hid (Blk w2 g0 (cb x) 23) := n1.blk.below n2.below n1.blk.lt
         have H1 : Hid (Blk w2 g1 (cb zb32) 23) := n2.blk
         have HG : Hid (w.heap.size ≤ g0 ∧ g0 < g1 ∧ w.heap.size ≤ w2.heap.size) := ⟨n1.ge, Nat.lt_of_lt_of_le n1.blk.lt n2.ge, Nat.le_trans n1.below.size n2.below.size⟩
         have HBW : Hid (Below w.heap.size w w2) := n1.below.trans (n2.below.mono n1.below.size)
         clear n1 n2)
      | (go_at_call 25; refine (isBit_any _ _).mono ?_; rintro e wz ⟨rfl, hz⟩; rw [hz, HB.out]; clear hz wz)
      | (with_reducible refine wpSeq_loadD (.tmp 3) g0 x ?_ ?_ ?_ ?_ ?_ ?_
         · exact HL.out
         · exact H0.out
         · rfl
         · rfl
         · rfl)
      | (with_reducible refine wpSeq_storeD (.tmp 6) (.tmp 10) g1 zb32 x ?_ ?_ ?_ ?_ ?_ ?_ ?_ ?_
         · rfl
         · exact HL.out
         · exact H1.out
         · rfl
         · rfl
         · rfl
         · rfl
         intro w4 h4))
    exact bodyPost_ret (v := .agg (cb x).toArray) (results_cell_row (by rfl) _ _ g1 23 _ (0, 0) _ rfl h4.blk Try.underlying23 rfl (by rw [List.size_toArray, cb_len, HL.out]; exact info_digest)) rfl ⟨by rw [HF.out], HBW.out.trans (h4.only.below (by have := HG.out; omega) HG.out.2.2)⟩
end Go.Proofs.Ythjkihbobdollaa

/- Texts that the proof leans on, one behind the other: The walk of the statements' works (layer 9). The statement ClashWays, over clash's functions (layer 9). Roots and bindings in memory, held against each other; the reference's Root and Value (layer 9). .. -/
import Derived.Test.YtpeifpoeeopecaaDoorMgd
import Derived.Lib.SlBytesConst
import Derived.Test.YtpeifpoeeopecaaDoorMgb
import Derived.Test.YtpeifpoeeopecaaDoorMgc
/- The walk of the statements' works (layer 9). -/
namespace Go.Proofs.YtpeifpoeeopecaaDoor
open Go.RowKit
set_option maxRecDepth 100000
theorem aa9 : pairB9 [97] [97] = false := by simp [pairB9]
theorem ab9 : pairB9 [97] [98] = false := by
  have h : dig [97] ≠ dig [98] := by decide +kernel
  unfold pairB9
  rw [decide_eq_false h, Bool.and_false]
/-- a text of one byte, of a constant -/
theorem wpSeq_const {ops : Array Oper} {Q : Exit → Act → World → Prop} {rest : List Oper} {o : Oper} {a : Act} (x : Operand) (W : World) (c : BitVec 8) (v : Value) (hv : v = .int .u8 (c.toNat : Int)) (ho : o.op = .convert 23 23 x) (hx : a.eval x = .slice (some ⟨W.heap.size, 0, none⟩) 1 1) (hw : Region.wanted o (yielded ops a.tmps) = true)
    (h : ∀ g w', Reads w' (.slice (some ⟨g, 0, none⟩) 1 1) [c] → Below W.heap.size W w' → wpList Tryd.prog ops Q rest (a.put o.dst (.slice (some ⟨g, 0, none⟩) 1 1)) w') : wpList Tryd.prog ops Q (o :: rest) a (W.alloc (.cells #[v] 5)) := by
  subst hv
  have hr := Go.Lib.run_convert_bytes_const (P := Tryd.prog) W 23 5 #[.int .u8 (c.toNat : Int)] 1 1 Tryd.underlying23 Tryd.underlying5
  refine wpSeq_val (.slice (some ⟨W.heap.size, 0, none⟩) 1 1) (W.alloc (.cells #[.int .u8 (c.toNat : Int)] 5 (1, 2))) hw ?_ (h W.heap.size (W.alloc (.cells #[.int .u8 (c.toNat : Int)] 5 (1, 2))) ?_ (below_alloc _ _))
  · unfold execOp
    rw [ho]
    simp only [hx, Sem.run_bind]
    rw [hr]
    rfl
  · refine ⟨_, 1, rfl, Nat.le_refl _, (fun h => by cases h), fun _ => ⟨_, 0, rfl, fun j hj => ?_⟩⟩
    have hj0 : j = 0 := by simp at hj; exact hj
    subst hj0
    unfold World.cell?
    rw [heap_alloc_new W _]
    rfl
set_option maxRecDepth 100000 in
set_option maxHeartbeats 8000000 in
theorem works9_any (hP : PfOps) (hC : ClOps) (w : World) (hK : KOk w) : Calls Tryd.prog 13 #[] w fun e w' => e = .returned (.bool true) ∧ Below w.heap.size w w' := by
  have HP : Hid PfOps := hP
  have HC : Hid ClOps := hC
  have HK : Hid (KOk w) := hK
  clear hP hK hC
  obtain ⟨x, HX⟩ : ∃ x, Hid (x = dgt 1) := ⟨_, rfl⟩
  have HXL : Hid (x.length = 32) := by show _ = _; rw [HX.out]; rfl
  obtain ⟨l, HLF⟩ : ∃ r, Hid (r = dig (pairB 76 x x)) := ⟨_, rfl⟩
  have HLL : Hid (l.length = 32) := by show _ = _; rw [HLF.out]; exact len_dig' _
  obtain ⟨p1, HP1⟩ : ∃ c, Hid (c = prfV nilV 1 x x) := ⟨_, rfl⟩
  have HCL : Hid (∀ W, Calls Tryd.prog 33 #[.agg (cb x).toArray, .agg (cb x).toArray] W fun e w' => e = .returned (.agg (cb l).toArray) ∧ Below W.heap.size W w') := fun W => by rw [HLF.out]; exact hLeaf_any x x HXL.out HXL.out W
  have HC1 : Hid (∀ W, KOk W → Calls Tryd.prog 18 #[.agg (cb l).toArray, .agg (cb x).toArray, .agg p1.toArray] W fun e w' => e = .returned (.tuple #[.agg (cb x).toArray, .bool true, .int .i64 0]) ∧ Below W.heap.size W w') := fun W hk => by
    have h := HP.out.check W l x nilV [] 1 x x hk HLL.out HXL.out HXL.out HXL.out (readsD_nil W) (by simp)
    rw [HLF.out, check_leaf, ← HLF.out, ← HP1.out] at h
    exact h
  have HCP : Hid (∀ (W : World) (va vb : Value) (a b : List (BitVec 8)), pairB9 a b = false → a.length = 1 → b.length = 1 → KOk W → Reads W va a → Reads W vb b → Calls Tryd.prog 11 #[va, vb] W fun e w' => ∃ x y, e = .returned (.tuple #[x, y, .bool false]) ∧ Below W.heap.size W w') := fun W va vb a b hp ha hb hk h1 h2 => (HC.out.pair W va vb a b hk h1 h2 (by omega) (by omega)).mono fun e w' h => by
    obtain ⟨x, y, o, h1, h2, h3⟩ := h
    have h4 := h2.eq
    rw [hp] at h4
    subst h4
    exact ⟨x, y, h1, h3⟩
  have HBW : Hid (Below w.heap.size w w) := Below.refl _ _
  go_enter Tryd.func13, Tryd.ntmps13
  go_upto_region 2 with (first
    | (refine wpSeq_const (.tmp 12) w 97 _ rfl ?_ ?_ ?_ ?_
       · rfl
       · rfl
       · rfl
       intro gwa wa hr1 hb1
       have HR1 : Hid (Reads wa (.slice (some ⟨gwa, 0, none⟩) 1 1) [97]) := hr1
       replace HBW : Hid (Below w.heap.size w wa) := HBW.out.trans (hb1.mono HBW.out.size)
       clear hr1 hb1)
    | (refine wpSeq_const (.tmp 14) wa 97 _ rfl ?_ ?_ ?_ ?_
       · rfl
       · rfl
       · rfl
       intro gwb wb hr2 hb2
       have HR2 : Hid (Reads wb (.slice (some ⟨gwb, 0, none⟩) 1 1) [97]) := hr2
       replace HR1 : Hid (Reads wb (.slice (some ⟨gwa, 0, none⟩) 1 1) [97]) := HR1.out.below hb2
       replace HBW : Hid (Below w.heap.size w wb) := HBW.out.trans (hb2.mono HBW.out.size)
       clear hr2 hb2)
    | (go_at_call 11
       refine (HCP.out _ _ _ [97] [97] aa9 rfl rfl (HK.out.below HBW.out HK.out.lt) HR1.out HR2.out).mono ?_
       rintro e wc ⟨x1, y1, rfl, hb3⟩
       replace HBW : Hid (Below w.heap.size w wc) := HBW.out.trans (hb3.mono HBW.out.size)
       clear hb3 HR1 HR2))
  go_upto_region 3 with (first
    | (refine wpSeq_const (.tmp 21) wc 97 _ rfl ?_ ?_ ?_ ?_
       · rfl
       · rfl
       · rfl
       intro gwd wd hr1 hb1
       have HR1 : Hid (Reads wd (.slice (some ⟨gwd, 0, none⟩) 1 1) [97]) := hr1
       replace HBW : Hid (Below w.heap.size w wd) := HBW.out.trans (hb1.mono HBW.out.size)
       clear hr1 hb1)
    | (refine wpSeq_const (.tmp 23) wd 98 _ rfl ?_ ?_ ?_ ?_
       · rfl
       · rfl
       · rfl
       intro gwe we hr2 hb2
       have HR2 : Hid (Reads we (.slice (some ⟨gwe, 0, none⟩) 1 1) [98]) := hr2
       replace HR1 : Hid (Reads we (.slice (some ⟨gwd, 0, none⟩) 1 1) [97]) := HR1.out.below hb2
       replace HBW : Hid (Below w.heap.size w we) := HBW.out.trans (hb2.mono HBW.out.size)
       clear hr2 hb2)
    | (go_at_call 11
       refine (HCP.out _ _ _ [97] [98] ab9 rfl rfl (HK.out.below HBW.out HK.out.lt) HR1.out HR2.out).mono ?_
       rintro e wf ⟨x3, y3, rfl, hb3⟩
       replace HBW : Hid (Below w.heap.size w wf) := HBW.out.trans (hb3.mono HBW.out.size)
       clear hb3 HR1 HR2))
  go_upto_region 4 with (first
    | (refine wpSeq_val _ _ (by rfl) (buildT1 _ _ rfl _) ?_; rw [← HX.out])
    | (with_reducible refine wpSeq_allocD ?_ ?_ ?_
       · rfl
       · rfl
       intro g1 w1 nn1)
    | (with_reducible refine wpSeq_storeD (.tmp 7) (.tmp 29) g1 zb32 x ?_ ?_ ?_ ?_ ?_ ?_ ?_ ?_
       · rfl
       · exact HXL.out
       · exact nn1.blk
       · rfl
       · rfl
       · rfl
       · rfl
       intro w2 h2
       have HI : Hid (Pw w g1 x w2) := ⟨HK.out, (nn1.set h2).blk, HBW.out.trans ((nn1.set h2).below.mono HBW.out.size)⟩
       clear nn1 h2 HK HBW))
  simp only [Act.put, List.setIfInBounds_toArray, List.set_cons_zero, List.set_cons_succ]
  go_cut [8, 9, 10] from 30 to 41 (fun a b c W => ∃ g2, a = .pointer (some ⟨g2, 0, none⟩) ∧ b = .bool true ∧ c = .int .i64 0 ∧ Pw w g1 x W ∧ Blk W g2 (cb x) 33)
  case first =>
    refine wp_region_held_drew (S := Pw w g1 x) (by kernel_rfl) (HI.out.next (Below.refl _ _).drew) ?_
    intro hS
    change wpAnyH _ _ _ _ _ _ _ _ (World.drew w2)
    clear HI
    generalize World.drew w2 = y0 at *
    refine wpAnyH_take (i := 0) (v := .agg (cb x).toArray) rfl (by kernel_rfl) (by kernel_rfl) (by kernel_rfl) (fun _ _ _ h => h) (Or.inl ⟨by rfl, fun wx hx => by exact loadDigest _ g1 x HXL.out hx.xb rfl rfl⟩) hS ?_
    simp only [Act.put, List.getElem_toArray, List.getElem_cons_zero, List.setIfInBounds_toArray, List.set_cons_zero, List.set_cons_succ]
    refine wpAnyH_take (i := 1) (v := .agg (cb x).toArray) rfl (by kernel_rfl) (by kernel_rfl) (by kernel_rfl) (fun _ _ _ h => h) (Or.inl ⟨by rfl, fun wx hx => by exact loadDigest _ g1 x HXL.out hx.xb rfl rfl⟩) hS ?_
    simp only [Act.put, List.getElem_toArray, List.getElem_cons_succ, List.getElem_cons_zero, List.setIfInBounds_toArray, List.set_cons_zero, List.set_cons_succ]
    refine wpAnyH_take (i := 3) (v := .agg (cb x).toArray) rfl (by kernel_rfl) (by kernel_rfl) (by kernel_rfl) (fun _ _ _ h => h) (Or.inl ⟨by rfl, fun wx hx => by exact loadDigest _ g1 x HXL.out hx.xb rfl rfl⟩) hS ?_
    simp only [Act.put, List.getElem_toArray, List.getElem_cons_succ, List.getElem_cons_zero, List.setIfInBounds_toArray, List.set_cons_zero, List.set_cons_succ]
    refine wpAnyH_take (i := 4) (v := .agg (cb x).toArray) rfl (by kernel_rfl) (by kernel_rfl) (by kernel_rfl) (fun _ _ _ h => h) (Or.inl ⟨by rfl, fun wx hx => by exact loadDigest _ g1 x HXL.out hx.xb rfl rfl⟩) hS ?_
    simp only [Act.put, List.getElem_toArray, List.getElem_cons_succ, List.getElem_cons_zero, List.setIfInBounds_toArray, List.set_cons_zero, List.set_cons_succ]
    refine wpAnyH_take (i := 5) (v := .agg (cb x).toArray) rfl (by kernel_rfl) (by kernel_rfl) (by kernel_rfl) (fun _ _ _ h => h) (Or.inl ⟨by rfl, fun wx hx => by exact loadDigest _ g1 x HXL.out hx.xb rfl rfl⟩) hS ?_
    simp only [Act.put, List.getElem_toArray, List.getElem_cons_succ, List.getElem_cons_zero, List.setIfInBounds_toArray, List.set_cons_zero, List.set_cons_succ]
    refine wpAnyH_take (i := 6) (v := .agg p1.toArray) rfl (by kernel_rfl) (by kernel_rfl) (by kernel_rfl) (fun _ _ _ h => h) (Or.inl ⟨by rfl, fun wx hx => by (rw [HP1.out, HX.out]; exact buildW1 _ _ _ _ rfl rfl (by rw [← HX.out]; rfl) (by rw [← HX.out]; rfl) _)⟩) hS ?_
    simp only [Act.put, List.getElem_toArray, List.getElem_cons_succ, List.getElem_cons_zero, List.setIfInBounds_toArray, List.set_cons_zero, List.set_cons_succ]
    refine wpAnyH_pair 2 12 (by kernel_rfl) ?_ ?_
    · skip
      refine wpOp_en 2 (by rfl) (by rfl) (f := 33) (args := #[.agg (cb x).toArray, .agg (cb x).toArray]) (by simp [go_sem]) (HCL.out _) ?_
      rintro e z1 ⟨rfl, hb⟩
      replace hS := hS.next hb
      refine ⟨_, rfl, hS, ?_⟩
      clear hb
      simp only [Act.put, List.getElem_toArray, List.getElem_cons_succ, List.getElem_cons_zero, List.setIfInBounds_toArray, List.set_cons_zero, List.set_cons_succ]
      refine wpAnyH_pair 7 12 (by kernel_rfl) ?_ ?_
      · skip
        refine wpOp_en 7 (by rfl) (by rfl) (f := 18) (args := #[.agg (cb l).toArray, .agg (cb x).toArray, .agg p1.toArray]) (by simp [go_sem]) (HC1.out _ hS.kk) ?_
        rintro e z2 ⟨rfl, hb⟩
        replace hS := hS.next hb
        refine ⟨_, rfl, hS, ?_⟩
        clear hb
        simp only [Act.put, List.getElem_toArray, List.getElem_cons_succ, List.getElem_cons_zero, List.setIfInBounds_toArray, List.set_cons_zero, List.set_cons_succ]
        refine wpAnyH_take (i := 8) (v := .tuple #[.agg (cb x).toArray, .bool true, .int .i64 0]) rfl (by kernel_rfl) (by kernel_rfl) (by kernel_rfl) (fun _ _ _ h => h) (Or.inl ⟨by rfl, fun wx hx => by simp [go_sem]⟩) hS ?_
        simp only [Act.put, List.getElem_toArray, List.getElem_cons_succ, List.getElem_cons_zero, List.setIfInBounds_toArray, List.set_cons_zero, List.set_cons_succ]
        refine wpAnyH_take (i := 9) (v := .agg (cb x).toArray) rfl (by kernel_rfl) (by kernel_rfl) (by kernel_rfl) (fun _ _ _ h => h) (Or.inl ⟨by rfl, fun wx hx => by simp [go_sem]⟩) hS ?_
        simp only [Act.put, List.getElem_toArray, List.getElem_cons_succ, List.getElem_cons_zero, List.setIfInBounds_toArray, List.set_cons_zero, List.set_cons_succ]
        refine wpAnyH_take (i := 10) (v := .bool true) rfl (by kernel_rfl) (by kernel_rfl) (by kernel_rfl) (fun _ _ _ h => h) (Or.inl ⟨by rfl, fun wx hx => by simp [go_sem]⟩) hS ?_
        simp only [Act.put, List.getElem_toArray, List.getElem_cons_succ, List.getElem_cons_zero, List.setIfInBounds_toArray, List.set_cons_zero, List.set_cons_succ]
        refine wpAnyH_take (i := 11) (v := .int .i64 0) rfl (by kernel_rfl) (by kernel_rfl) (by kernel_rfl) (fun _ _ _ h => h) (Or.inl ⟨by rfl, fun wx hx => by simp [go_sem]⟩) hS ?_
        simp only [Act.put, List.getElem_toArray, List.getElem_cons_succ, List.getElem_cons_zero, List.setIfInBounds_toArray, List.set_cons_zero, List.set_cons_succ]
        have hb := below_alloc z2 (.cells (cb zb32).toArray 33)
        have hnew : Blk (z2.alloc (.cells (cb zb32).toArray 33)) z2.heap.size (cb zb32) 33 := Blk.new _ _ _
        have hgw : w.heap.size ≤ z2.heap.size := hS.bel.size
        have hne : z2.heap.size ≠ g1 := Nat.ne_of_gt hS.xb.lt
        replace hS := hS.next hb
        refine wpAnyH_step 12 (.pointer (some ⟨z2.heap.size, 0, none⟩)) (z2.alloc (.cells (cb zb32).toArray 33)) (by kernel_rfl) rfl (by rfl) (allocDigest _ _ rfl _) hS ?_
        simp only [Act.put, List.getElem_toArray, List.getElem_cons_succ, List.getElem_cons_zero, List.setIfInBounds_toArray, List.set_cons_zero, List.set_cons_succ]
        clear hb
        have hba := hnew
        clear hnew
        generalize z2.alloc (.cells (cb zb32).toArray 33) = z3 at *
        obtain ⟨ga, HGA⟩ : ∃ z, Hid (z = z2.heap.size) := ⟨_, rfl⟩
        rw [← HGA.out] at hba hgw hne ⊢
        clear HGA
        refine wpAnyH_law 13 (by kernel_rfl) rfl (by rfl) (wp_store_mid 33 _ _ rfl ga 0 (cb x).toArray rfl rfl (hba.there 0 _ (by rw [List.size_toArray, cb_len, cb_len, HXL.out]; decide)) (by rw [List.size_toArray, cb_len, HXL.out]; exact info_digest) (all_oneCell_toArray (cb_one x)) ?_)
        rw [List.toList_toArray]
        have hk9 : ∀ k, k ≠ ga → (z3.setCells ga 0 (cb x)).heap[k]? = z3.heap[k]? := At'.setCells _ _ _ (fun _ _ => rfl)
        have hb9 := hba.whole (cb x) (by rw [cb_len, cb_len, HXL.out]; rfl)
        have hS9 : Pw w g1 x (z3.setCells ga 0 (cb x)) := hS.set hne hk9 (Below.setCells _ hgw _ _ _ hS.bel)
        refine ⟨hS9, ?_⟩
        simp only [Act.put, List.getElem_toArray, List.getElem_cons_succ, List.getElem_cons_zero]
        generalize z3.setCells ga 0 (cb x) = wE at *
        refine wpAnyH_take (i := 14) (v := .bool true) rfl (by kernel_rfl) (by kernel_rfl) (by kernel_rfl) (fun _ _ _ h => h) (Or.inl ⟨by rfl, fun wx hx => by simp [go_sem]⟩) hS9 ?_
        simp only [Act.put, List.getElem_toArray, List.getElem_cons_succ, List.getElem_cons_zero, List.setIfInBounds_toArray, List.set_cons_zero, List.set_cons_succ]
        refine wpAnyH_take (i := 15) (v := .int .i64 0) rfl (by kernel_rfl) (by kernel_rfl) (by kernel_rfl) (fun _ _ _ h => h) (Or.inl ⟨by rfl, fun wx hx => by simp [go_sem]⟩) hS9 ?_
        simp only [Act.put, List.getElem_toArray, List.getElem_cons_succ, List.getElem_cons_zero, List.setIfInBounds_toArray, List.set_cons_zero, List.set_cons_succ]
        refine wpAnyH_done (by kernel_rfl) ?_ _
        clear hk9 hS hba
        go_wp2
        go_meet
        case rel => exact ⟨ga, rfl, rfl, rfl, hS9, hb9⟩
      · skip
        have hb := below_alloc z1 (.cells (cb zb32).toArray 33)
        have hnew : Blk (z1.alloc (.cells (cb zb32).toArray 33)) z1.heap.size (cb zb32) 33 := Blk.new _ _ _
        have hgw : w.heap.size ≤ z1.heap.size := hS.bel.size
        have hne : z1.heap.size ≠ g1 := Nat.ne_of_gt hS.xb.lt
        replace hS := hS.next hb
        refine wpOp_vl 12 (.pointer (some ⟨z1.heap.size, 0, none⟩)) (z1.alloc (.cells (cb zb32).toArray 33)) (by rfl) (by rfl) (allocDigest _ _ rfl _) ⟨hS, ?_⟩
        simp only [Act.put, List.getElem_toArray, List.getElem_cons_succ, List.getElem_cons_zero, List.setIfInBounds_toArray, List.set_cons_zero, List.set_cons_succ]
        clear hb
        have hba := hnew
        clear hnew
        generalize z1.alloc (.cells (cb zb32).toArray 33) = z4 at *
        obtain ⟨ga, HGA⟩ : ∃ z, Hid (z = z1.heap.size) := ⟨_, rfl⟩
        rw [← HGA.out] at hba hgw hne ⊢
        clear HGA
        refine wpAnyH_enter 7 (by kernel_rfl) rfl (by rfl) (f := 18) (args := #[.agg (cb l).toArray, .agg (cb x).toArray, .agg p1.toArray]) (by simp [go_sem]) (HC1.out _ hS.kk) ?_
        rintro e z5 ⟨rfl, hb⟩
        replace hS := hS.next hb
        replace hba := hba.below hb hba.lt
        refine ⟨_, rfl, hS, ?_⟩
        clear hb
        simp only [Act.put, List.getElem_toArray, List.getElem_cons_succ, List.getElem_cons_zero, List.setIfInBounds_toArray, List.set_cons_zero, List.set_cons_succ]
        refine wpAnyH_take (i := 8) (v := .tuple #[.agg (cb x).toArray, .bool true, .int .i64 0]) rfl (by kernel_rfl) (by kernel_rfl) (by kernel_rfl) (fun _ _ _ h => h) (Or.inl ⟨by rfl, fun wx hx => by simp [go_sem]⟩) hS ?_
        simp only [Act.put, List.getElem_toArray, List.getElem_cons_succ, List.getElem_cons_zero, List.setIfInBounds_toArray, List.set_cons_zero, List.set_cons_succ]
        refine wpAnyH_take (i := 9) (v := .agg (cb x).toArray) rfl (by kernel_rfl) (by kernel_rfl) (by kernel_rfl) (fun _ _ _ h => h) (Or.inl ⟨by rfl, fun wx hx => by simp [go_sem]⟩) hS ?_
        simp only [Act.put, List.getElem_toArray, List.getElem_cons_succ, List.getElem_cons_zero, List.setIfInBounds_toArray, List.set_cons_zero, List.set_cons_succ]
        refine wpAnyH_take (i := 10) (v := .bool true) rfl (by kernel_rfl) (by kernel_rfl) (by kernel_rfl) (fun _ _ _ h => h) (Or.inl ⟨by rfl, fun wx hx => by simp [go_sem]⟩) hS ?_
        simp only [Act.put, List.getElem_toArray, List.getElem_cons_succ, List.getElem_cons_zero, List.setIfInBounds_toArray, List.set_cons_zero, List.set_cons_succ]
        refine wpAnyH_take (i := 11) (v := .int .i64 0) rfl (by kernel_rfl) (by kernel_rfl) (by kernel_rfl) (fun _ _ _ h => h) (Or.inl ⟨by rfl, fun wx hx => by simp [go_sem]⟩) hS ?_
        simp only [Act.put, List.getElem_toArray, List.getElem_cons_succ, List.getElem_cons_zero, List.setIfInBounds_toArray, List.set_cons_zero, List.set_cons_succ]
        refine wpAnyH_law 13 (by kernel_rfl) rfl (by rfl) (wp_store_mid 33 _ _ rfl ga 0 (cb x).toArray rfl rfl (hba.there 0 _ (by rw [List.size_toArray, cb_len, cb_len, HXL.out]; decide)) (by rw [List.size_toArray, cb_len, HXL.out]; exact info_digest) (all_oneCell_toArray (cb_one x)) ?_)
        rw [List.toList_toArray]
        have hk9 : ∀ k, k ≠ ga → (z5.setCells ga 0 (cb x)).heap[k]? = z5.heap[k]? := At'.setCells _ _ _ (fun _ _ => rfl)
        have hb9 := hba.whole (cb x) (by rw [cb_len, cb_len, HXL.out]; rfl)
        have hS9 : Pw w g1 x (z5.setCells ga 0 (cb x)) := hS.set hne hk9 (Below.setCells _ hgw _ _ _ hS.bel)
        refine ⟨hS9, ?_⟩
        simp only [Act.put, List.getElem_toArray, List.getElem_cons_succ, List.getElem_cons_zero]
        generalize z5.setCells ga 0 (cb x) = wE at *
        refine wpAnyH_take (i := 14) (v := .bool true) rfl (by kernel_rfl) (by kernel_rfl) (by kernel_rfl) (fun _ _ _ h => h) (Or.inl ⟨by rfl, fun wx hx => by simp [go_sem]⟩) hS9 ?_
        simp only [Act.put, List.getElem_toArray, List.getElem_cons_succ, List.getElem_cons_zero, List.setIfInBounds_toArray, List.set_cons_zero, List.set_cons_succ]
        refine wpAnyH_take (i := 15) (v := .int .i64 0) rfl (by kernel_rfl) (by kernel_rfl) (by kernel_rfl) (fun _ _ _ h => h) (Or.inl ⟨by rfl, fun wx hx => by simp [go_sem]⟩) hS9 ?_
        simp only [Act.put, List.getElem_toArray, List.getElem_cons_succ, List.getElem_cons_zero, List.setIfInBounds_toArray, List.set_cons_zero, List.set_cons_succ]
        refine wpAnyH_done (by kernel_rfl) ?_ _
        clear hk9 hS hba
        go_wp2
        go_meet
        case rel => exact ⟨ga, rfl, rfl, rfl, hS9, hb9⟩
    · skip
      have hb := below_alloc y0 (.cells (cb zb32).toArray 33)
      have hnew : Blk (y0.alloc (.cells (cb zb32).toArray 33)) y0.heap.size (cb zb32) 33 := Blk.new _ _ _
      have hgw : w.heap.size ≤ y0.heap.size := hS.bel.size
      have hne : y0.heap.size ≠ g1 := Nat.ne_of_gt hS.xb.lt
      replace hS := hS.next hb
      refine wpOp_vl 12 (.pointer (some ⟨y0.heap.size, 0, none⟩)) (y0.alloc (.cells (cb zb32).toArray 33)) (by rfl) (by rfl) (allocDigest _ _ rfl _) ⟨hS, ?_⟩
      simp only [Act.put, List.getElem_toArray, List.getElem_cons_succ, List.getElem_cons_zero, List.setIfInBounds_toArray, List.set_cons_zero, List.set_cons_succ]
      clear hb
      have hba := hnew
      clear hnew
      generalize y0.alloc (.cells (cb zb32).toArray 33) = z6 at *
      obtain ⟨ga, HGA⟩ : ∃ z, Hid (z = y0.heap.size) := ⟨_, rfl⟩
      rw [← HGA.out] at hba hgw hne ⊢
      clear HGA
      refine wpAnyH_enter 2 (by kernel_rfl) rfl (by rfl) (f := 33) (args := #[.agg (cb x).toArray, .agg (cb x).toArray]) (by simp [go_sem]) (HCL.out _) ?_
      rintro e z7 ⟨rfl, hb⟩
      replace hS := hS.next hb
      replace hba := hba.below hb hba.lt
      refine ⟨_, rfl, hS, ?_⟩
      clear hb
      simp only [Act.put, List.getElem_toArray, List.getElem_cons_succ, List.getElem_cons_zero, List.setIfInBounds_toArray, List.set_cons_zero, List.set_cons_succ]
      refine wpAnyH_enter 7 (by kernel_rfl) rfl (by rfl) (f := 18) (args := #[.agg (cb l).toArray, .agg (cb x).toArray, .agg p1.toArray]) (by simp [go_sem]) (HC1.out _ hS.kk) ?_
      rintro e z8 ⟨rfl, hb⟩
      replace hS := hS.next hb
      replace hba := hba.below hb hba.lt
      refine ⟨_, rfl, hS, ?_⟩
      clear hb
      simp only [Act.put, List.getElem_toArray, List.getElem_cons_succ, List.getElem_cons_zero, List.setIfInBounds_toArray, List.set_cons_zero, List.set_cons_succ]
      refine wpAnyH_take (i := 8) (v := .tuple #[.agg (cb x).toArray, .bool true, .int .i64 0]) rfl (by kernel_rfl) (by kernel_rfl) (by kernel_rfl) (fun _ _ _ h => h) (Or.inl ⟨by rfl, fun wx hx => by simp [go_sem]⟩) hS ?_
      simp only [Act.put, List.getElem_toArray, List.getElem_cons_succ, List.getElem_cons_zero, List.setIfInBounds_toArray, List.set_cons_zero, List.set_cons_succ]
      refine wpAnyH_take (i := 9) (v := .agg (cb x).toArray) rfl (by kernel_rfl) (by kernel_rfl) (by kernel_rfl) (fun _ _ _ h => h) (Or.inl ⟨by rfl, fun wx hx => by simp [go_sem]⟩) hS ?_
      simp only [Act.put, List.getElem_toArray, List.getElem_cons_succ, List.getElem_cons_zero, List.setIfInBounds_toArray, List.set_cons_zero, List.set_cons_succ]
      refine wpAnyH_take (i := 10) (v := .bool true) rfl (by kernel_rfl) (by kernel_rfl) (by kernel_rfl) (fun _ _ _ h => h) (Or.inl ⟨by rfl, fun wx hx => by simp [go_sem]⟩) hS ?_
      simp only [Act.put, List.getElem_toArray, List.getElem_cons_succ, List.getElem_cons_zero, List.setIfInBounds_toArray, List.set_cons_zero, List.set_cons_succ]
      refine wpAnyH_take (i := 11) (v := .int .i64 0) rfl (by kernel_rfl) (by kernel_rfl) (by kernel_rfl) (fun _ _ _ h => h) (Or.inl ⟨by rfl, fun wx hx => by simp [go_sem]⟩) hS ?_
      simp only [Act.put, List.getElem_toArray, List.getElem_cons_succ, List.getElem_cons_zero, List.setIfInBounds_toArray, List.set_cons_zero, List.set_cons_succ]
      refine wpAnyH_law 13 (by kernel_rfl) rfl (by rfl) (wp_store_mid 33 _ _ rfl ga 0 (cb x).toArray rfl rfl (hba.there 0 _ (by rw [List.size_toArray, cb_len, cb_len, HXL.out]; decide)) (by rw [List.size_toArray, cb_len, HXL.out]; exact info_digest) (all_oneCell_toArray (cb_one x)) ?_)
      rw [List.toList_toArray]
      have hk9 : ∀ k, k ≠ ga → (z8.setCells ga 0 (cb x)).heap[k]? = z8.heap[k]? := At'.setCells _ _ _ (fun _ _ => rfl)
      have hb9 := hba.whole (cb x) (by rw [cb_len, cb_len, HXL.out]; rfl)
      have hS9 : Pw w g1 x (z8.setCells ga 0 (cb x)) := hS.set hne hk9 (Below.setCells _ hgw _ _ _ hS.bel)
      refine ⟨hS9, ?_⟩
      simp only [Act.put, List.getElem_toArray, List.getElem_cons_succ, List.getElem_cons_zero]
      generalize z8.setCells ga 0 (cb x) = wE at *
      refine wpAnyH_take (i := 14) (v := .bool true) rfl (by kernel_rfl) (by kernel_rfl) (by kernel_rfl) (fun _ _ _ h => h) (Or.inl ⟨by rfl, fun wx hx => by simp [go_sem]⟩) hS9 ?_
      simp only [Act.put, List.getElem_toArray, List.getElem_cons_succ, List.getElem_cons_zero, List.setIfInBounds_toArray, List.set_cons_zero, List.set_cons_succ]
      refine wpAnyH_take (i := 15) (v := .int .i64 0) rfl (by kernel_rfl) (by kernel_rfl) (by kernel_rfl) (fun _ _ _ h => h) (Or.inl ⟨by rfl, fun wx hx => by simp [go_sem]⟩) hS9 ?_
      simp only [Act.put, List.getElem_toArray, List.getElem_cons_succ, List.getElem_cons_zero, List.setIfInBounds_toArray, List.set_cons_zero, List.set_cons_succ]
      refine wpAnyH_done (by kernel_rfl) ?_ _
      clear hk9 hS hba
      go_wp2
      go_meet
      case rel => exact ⟨ga, rfl, rfl, rfl, hS9, hb9⟩
  case rest =>
    clear HI
    obtain ⟨g2, rfl, rfl, rfl, hI, hk2⟩ := hcut
    have HBW : Hid (Below w.heap.size w wc) := hI.bel
    clear hI hk2
    go_wp2
    go_ret
    exact ⟨rfl, HBW.out⟩
end Go.Proofs.YtpeifpoeeopecaaDoor
/- The statement ClashWays, over clash's functions (layer 9). -/
namespace Go.Proofs.YtpeifpoeeopecaaDoor
open Go.RowKit
set_option maxRecDepth 100000
/-- where the statement stands -/
structure C9 (w : World) (gi gp gq : Nat) (i : List (BitVec 8)) (cp cq : List Value) (W : World) : Prop where
  ib : Blk W gi (cb i) 33
  pb : Blk W gp cp 36
  qb : Blk W gq cq 36
  bel : Below w.heap.size w W
theorem C9.next {w W W' : World} {gi gp gq : Nat} {i : List (BitVec 8)} {cp cq : List Value} (h : C9 w gi gp gq i cp cq W) (hb : Below W.heap.size W W') : C9 w gi gp gq i cp cq W' := ⟨h.ib.below hb h.ib.lt, h.pb.below hb h.pb.lt, h.qb.below hb h.qb.lt, h.bel.trans (hb.mono h.bel.size)⟩
theorem firstZ_nn (o : Option Nat) : decide ((0 : Int) ≤ firstZ o) = o.isSome := by cases o <;> simp [firstZ]
theorem right9_first {a b : List (List (BitVec 8))} {s t : List (BitVec 8)} {o : Bool} (h : (∃ k, o = true ∧ firstI a b = some k ∧ s = a.getD k [] ∧ t = b.getD k [] ∧ pairB9 s t = true) ∨ (o = false ∧ firstI a b = none ∧ s = [] ∧ t = [])) : right9 s t o (firstI a b).isSome = true := by
  rcases h with ⟨k, rfl, h2, _, _, h5⟩ | ⟨rfl, h2, rfl, rfl⟩
  · rw [h2]; simp [right9, h5]
  · rw [h2]; simp [right9]
theorem first_len {a b : List (List (BitVec 8))} {s t : List (BitVec 8)} {o : Bool} {N : Nat} (ha : ∀ t ∈ a, t.length ≤ N) (hb : ∀ t ∈ b, t.length ≤ N) (h : (∃ k, o = true ∧ firstI a b = some k ∧ s = a.getD k [] ∧ t = b.getD k [] ∧ pairB9 s t = true) ∨ (o = false ∧ firstI a b = none ∧ s = [] ∧ t = [])) : s.length ≤ N ∧ t.length ≤ N := by
  rcases h with ⟨k, _, h2, rfl, rfl, _⟩ | ⟨_, _, rfl, rfl⟩
  · obtain ⟨h6, h7, _⟩ := firstI_at h2
    exact ⟨mem_getD ha h6, mem_getD hb h7⟩
  · exact ⟨by simp, by simp⟩
set_option maxRecDepth 100000 in
set_option maxHeartbeats 8000000 in
theorem clashWays_law (hP : PfOps) (hC : ClOps) (i : List (BitVec 8)) (vp : Value) (sp : List (List (BitVec 8))) (ep : Int) (ixp vap : List (BitVec 8)) (vq : Value) (sq : List (List (BitVec 8))) (eq : Int) (ixq vaq : List (BitVec 8)) (hi : i.length = 32) (h1 : ixp.length = 32) (h2 : vap.length = 32) (h3 : ixq.length = 32) (h4 : vaq.length = 32) (w : World) (hK : KOk w) (hp : ReadsD w vp sp) (hq : ReadsD w vq sq) :
    Calls Tryd.prog 4 #[.agg (cb i).toArray, .agg (prfV vp ep ixp vap).toArray, .agg (prfV vq eq ixq vaq).toArray] w fun e w' => e = .returned (.bool true) ∧ Below w.heap.size w w' := by
  have HPO : Hid PfOps := hP
  have HCO : Hid ClOps := hC
  have HK0 : Hid (KOk w) := hK
  have HIL : Hid (i.length = 32) := hi
  have HP1 : Hid (ixp.length = 32) := h1
  have HP2 : Hid (vap.length = 32) := h2
  have HQ1 : Hid (ixq.length = 32) := h3
  have HQ2 : Hid (vaq.length = 32) := h4
  have HRP : Hid (ReadsD w vp sp) := hp
  have HRQ : Hid (ReadsD w vq sq) := hq
  obtain ⟨cp, HCP⟩ : ∃ c, Hid (c = prfV vp ep ixp vap) := ⟨_, rfl⟩
  obtain ⟨cq, HCQ⟩ : ∃ c, Hid (c = prfV vq eq ixq vaq) := ⟨_, rfl⟩
  have HP6 : Hid (cp.length = 66) := by show _ = _; rw [HCP.out]; exact prfV_len h1 h2
  have HQ6 : Hid (cq.length = 66) := by show _ = _; rw [HCQ.out]; exact prfV_len h3 h4
  obtain ⟨fp, HFP⟩ : ∃ z, Hid (z = decide (sp.length ≤ 300)) := ⟨_, rfl⟩
  obtain ⟨fq, HFQ⟩ : ∃ z, Hid (z = decide (sq.length ≤ 300)) := ⟨_, rfl⟩
  have HC1 : Hid (∀ W, Below w.heap.size w W → Calls Tryd.prog 14 #[.agg cp.toArray] W fun e w' => e = .returned (.bool fp) ∧ Below W.heap.size W w') := fun W hh => by rw [HCP.out, HFP.out]; exact few9_any _ sp ep ixp vap W (hp.below hh)
  have HC2 : Hid (∀ W, Below w.heap.size w W → Calls Tryd.prog 14 #[.agg cq.toArray] W fun e w' => e = .returned (.bool fq) ∧ Below W.heap.size W w') := fun W hh => by rw [HCQ.out, HFQ.out]; exact few9_any _ sq eq ixq vaq W (hq.below hh)
  have HWK : Hid (∀ W, Below w.heap.size w W → Calls Tryd.prog 13 #[] W fun e w' => e = .returned (.bool true) ∧ Below W.heap.size W w') := fun W hh => works9_any HPO.out HCO.out W (HK0.out.below hh HK0.out.lt)
  obtain ⟨lp, HLP⟩ : ∃ z, Hid (z = hashL i (endB ep ixp vap) 0 sp) := ⟨_, rfl⟩
  obtain ⟨lq, HLQ⟩ : ∃ z, Hid (z = hashL i (endB eq ixq vaq) 0 sq) := ⟨_, rfl⟩
  have HTP : Hid (∀ t ∈ lp, t.length ≤ 65) := fun t ht => hashL_le i _ (endB_le h1 h2) sp 0 hp.2 t (by rw [← HLP.out]; exact ht)
  have HTQ : Hid (∀ t ∈ lq, t.length ≤ 65) := fun t ht => hashL_le i _ (endB_le h3 h4) sq 0 hq.2 t (by rw [← HLQ.out]; exact ht)
  rw [← HCP.out, ← HCQ.out]
  go_enter Tryd.func4, Tryd.ntmps4
  clear hi h1 h2 h3 h4 hp hq hP hC hK
  go_upto_region 1 with (first
    | (with_reducible refine wpSeq_boxD (.tmp 0) i ?_ ?_ ?_ ?_
       · rfl
       · rfl
       · rfl
       intro gi w0 nn0)
    | (with_reducible refine wpSeq_boxP (.tmp 1) cp ?_ ?_ ?_ ?_
       · rfl
       · rfl
       · rfl
       intro gp w1 nn1)
    | (with_reducible refine wpSeq_boxP (.tmp 2) cq ?_ ?_ ?_ ?_
       · rfl
       · rfl
       · rfl
       intro gq w2 nn2
       have HI : Hid (C9 w gi gp gq i cp cq w2) := by
         have hb1 := nn0.below.trans (nn1.below.mono nn0.below.size)
         have x1 := nn0.blk.below nn1.below nn0.blk.lt
         exact ⟨x1.below nn2.below x1.lt, nn1.blk.below nn2.below nn1.blk.lt, nn2.blk, hb1.trans (nn2.below.mono hb1.size)⟩
       clear nn0 nn1 nn2))
  cases fp with
  | false =>
    clear HC2
    go_wp2_with (first
      | (with_reducible refine wpSeq_loadP (.tmp 4) gp cp ?_ ?_ ?_ ?_ ?_ ?_
         · exact HP6.out
         · exact HI.out.pb
         · rfl
         · rfl
         · rfl)
      | (go_at_call 14; refine (HC1.out _ HI.out.bel).mono ?_; rintro e w3 ⟨rfl, hbz⟩
         replace HI : Hid (C9 w gi gp gq i cp cq w3) := HI.out.next hbz
         clear hbz HC1)
      | (go_at_call 13; refine (HWK.out _ HI.out.bel).mono ?_; rintro e wz ⟨rfl, hbz⟩
         replace HI : Hid (C9 w gi gp gq i cp cq wz) := HI.out.next hbz
         clear hbz))
    go_ret
    exact ⟨rfl, HI.out.bel⟩
  | true =>
    have HP3 : Hid (sp.length ≤ 300) := show sp.length ≤ 300 from of_decide_eq_true HFP.out.symm
    cases fq with
    | false =>
      go_wp2_with (first
        | (with_reducible refine wpSeq_loadP (.tmp 4) gp cp ?_ ?_ ?_ ?_ ?_ ?_
           · exact HP6.out
           · exact HI.out.pb
           · rfl
           · rfl
           · rfl)
        | (with_reducible refine wpSeq_loadP (.tmp 5) gq cq ?_ ?_ ?_ ?_ ?_ ?_
           · exact HQ6.out
           · exact HI.out.qb
           · rfl
           · rfl
           · rfl)
        | (go_at_call 14; refine (HC1.out _ HI.out.bel).mono ?_; rintro e w3 ⟨rfl, hbz⟩
           replace HI : Hid (C9 w gi gp gq i cp cq w3) := HI.out.next hbz
           clear hbz HC1)
        | (go_at_call 14; refine (HC2.out _ HI.out.bel).mono ?_; rintro e w4 ⟨rfl, hbz⟩
           replace HI : Hid (C9 w gi gp gq i cp cq w4) := HI.out.next hbz
           clear hbz HC2)
        | (go_at_call 13; refine (HWK.out _ HI.out.bel).mono ?_; rintro e wz ⟨rfl, hbz⟩
           replace HI : Hid (C9 w gi gp gq i cp cq wz) := HI.out.next hbz
           clear hbz))
      go_ret
      exact ⟨rfl, HI.out.bel⟩
    | true =>
      have HQ3 : Hid (sq.length ≤ 300) := show sq.length ≤ 300 from of_decide_eq_true HFQ.out.symm
      have HCA : Hid (∀ W, Below w.heap.size w W → Calls Tryd.prog 15 #[.agg (cb i).toArray, .agg cp.toArray, .agg cq.toArray] W fun e w' => ∃ x y o, e = .returned (.tuple #[x, y, .bool o]) ∧ FirstR w' lp lq x y o ∧ Below W.heap.size W w') := fun W hh => by rw [HCP.out, HCQ.out, HLP.out, HLQ.out]; exact HCO.out.ways W i vp sp ep ixp vap vq sq eq ixq vaq (HK0.out.below hh HK0.out.lt) HIL.out HP1.out HP2.out HQ1.out HQ2.out (HRP.out.below hh) (HRQ.out.below hh) HP3.out HQ3.out
      obtain ⟨z, HZ⟩ : ∃ z, Hid (z = firstZ (firstI lp lq)) := ⟨_, rfl⟩
      have HCB : Hid (∀ W, Below w.heap.size w W → Calls Tryd.prog 16 #[.agg (cb i).toArray, .agg cp.toArray, .agg cq.toArray] W fun e w' => e = .returned (.int .i64 z) ∧ Below W.heap.size W w') := fun W hh => by rw [HCP.out, HCQ.out, HZ.out, HLP.out, HLQ.out]; exact qWays_any i vp sp ep ixp vap vq sq eq ixq vaq W HIL.out HP1.out HP2.out HQ1.out HQ2.out (HRP.out.below hh) (HRQ.out.below hh) HP3.out HQ3.out
      go_upto_region 3 with (first
        | (with_reducible refine wpSeq_loadP (.tmp 4) gp cp ?_ ?_ ?_ ?_ ?_ ?_
           · exact HP6.out
           · exact HI.out.pb
           · rfl
           · rfl
           · rfl)
        | (with_reducible refine wpSeq_loadP (.tmp 5) gq cq ?_ ?_ ?_ ?_ ?_ ?_
           · exact HQ6.out
           · exact HI.out.qb
           · rfl
           · rfl
           · rfl)
        | (go_at_call 14; refine (HC1.out _ HI.out.bel).mono ?_; rintro e w3 ⟨rfl, hbz⟩
           replace HI : Hid (C9 w gi gp gq i cp cq w3) := HI.out.next hbz
           clear hbz HC1)
        | (go_at_call 14; refine (HC2.out _ HI.out.bel).mono ?_; rintro e w4 ⟨rfl, hbz⟩
           replace HI : Hid (C9 w gi gp gq i cp cq w4) := HI.out.next hbz
           clear hbz HC2))
      go_upto_region 4 with (first
        | (with_reducible refine wpSeq_loadD (.tmp 3) gi i ?_ ?_ ?_ ?_ ?_ ?_
           · exact HIL.out
           · exact HI.out.ib
           · with_reducible rfl
           · rfl
           · rfl)
        | (with_reducible refine wpSeq_loadP (.tmp 4) gp cp ?_ ?_ ?_ ?_ ?_ ?_
           · exact HP6.out
           · exact HI.out.pb
           · rfl
           · rfl
           · rfl)
        | (with_reducible refine wpSeq_loadP (.tmp 5) gq cq ?_ ?_ ?_ ?_ ?_ ?_
           · exact HQ6.out
           · exact HI.out.qb
           · rfl
           · rfl
           · rfl)
        | (go_at_call 15; refine (HCA.out _ HI.out.bel).mono ?_; rintro e w5 ⟨vx, vy, o, rfl, hf, hbz⟩
           replace HI : Hid (C9 w gi gp gq i cp cq w5) := HI.out.next hbz
           obtain ⟨s, t, hs, ht, hst⟩ := hf.both
           have HRS : Hid (Reads w5 vx s) := hs
           have HRT : Hid (Reads w5 vy t) := ht
           have HRR : Hid (right9 s t o (firstI lp lq).isSome = true) := right9_first hst
           have HLL : Hid (s.length ≤ 65 ∧ t.length ≤ 65) := first_len HTP.out HTQ.out hst
           clear hbz hf hs ht hst HCA))
      obtain ⟨ax, nx, cx, hvx⟩ := HRS.out.form
      subst hvx
      obtain ⟨ay, ny, cy, hvy⟩ := HRT.out.form
      subst hvy
      obtain ⟨wt, HWT⟩ : ∃ q, Hid (q = (firstI lp lq).isSome) := ⟨_, rfl⟩
      have fz : decide ((0 : Int) ≤ z) = wt := by rw [HZ.out, HWT.out]; exact firstZ_nn _
      have HC5 : Hid (∀ W, Below w5.heap.size w5 W → Calls Tryd.prog 10 #[.slice ax nx cx, .slice ay ny cy, .bool o, .bool wt] W fun e w' => e = .returned (.bool true) ∧ Below W.heap.size W w') := fun W hh => by
        have h := right9_any _ _ s t o wt W (HRS.out.below hh) (HRT.out.below hh) (by have := HLL.out; omega) (by have := HLL.out; omega)
        rw [HWT.out, HRR.out, ← HWT.out] at h
        exact h
      have HB5 : Hid (Below w5.heap.size w5 w5) := Below.refl _ _
      go_wp2_with (first
        | (with_reducible refine wpSeq_loadD (.tmp 3) gi i ?_ ?_ ?_ ?_ ?_ ?_
           · exact HIL.out
           · exact HI.out.ib
           · with_reducible rfl
           · rfl
           · rfl)
        | (with_reducible refine wpSeq_loadP (.tmp 4) gp cp ?_ ?_ ?_ ?_ ?_ ?_
           · exact HP6.out
           · exact HI.out.pb
           · rfl
           · rfl
           · rfl)
        | (with_reducible refine wpSeq_loadP (.tmp 5) gq cq ?_ ?_ ?_ ?_ ?_ ?_
           · exact HQ6.out
           · exact HI.out.qb
           · rfl
           · rfl
           · rfl)
        | (go_at_call 16; refine (HCB.out _ HI.out.bel).mono ?_; rintro e w6 ⟨rfl, hbz⟩
           replace HI : Hid (C9 w gi gp gq i cp cq w6) := HI.out.next hbz
           replace HB5 : Hid (Below w5.heap.size w5 w6) := hbz
           clear hbz HCB)
        | (go_at_call 10; refine (HC5.out _ HB5.out).mono ?_; rintro e w7 ⟨rfl, hbz⟩
           replace HI : Hid (C9 w gi gp gq i cp cq w7) := HI.out.next hbz
           clear hbz HC5)
        | (go_at_call 13; refine (HWK.out _ HI.out.bel).mono ?_; rintro e wz ⟨rfl, hbz⟩
           replace HI : Hid (C9 w gi gp gq i cp cq wz) := HI.out.next hbz
           clear hbz))
      go_ret
      exact ⟨rfl, HI.out.bel⟩
end Go.Proofs.YtpeifpoeeopecaaDoor
/- Roots and bindings in memory, held against each other; the reference's Root and Value (layer 9). -/
namespace Go.Proofs.YtpeifpoeeopecaaDoor
open Go.RowKit
set_option maxRecDepth 100000
theorem part_dig (A C : List Value) (x : List (BitVec 8)) (off : Nat) (hA : A.length = off) (hx : x.length = 32) (w : World) : (part 33 (A ++ (cb x ++ C)).toArray off).run Tryd.prog w = .ok (.agg (cb x).toArray) w := by
  have ha : (isAgg 33).run Tryd.prog w = .ok true w := by kernel_rfl
  have hs : (sizeOf 33).run Tryd.prog w = .ok 32 w := by kernel_rfl
  have e : (A ++ (cb x ++ C)).toArray.extract off (off + 32) = (cb x).toArray := by
    rw [List.extract_toArray, List.extract_eq_take_drop, show off + 32 - off = 32 by omega, ← hA, List.drop_left, show (32 : Nat) = (cb x).length by rw [cb_len, hx], List.take_left]
  simp only [part, Sem.run_bind, ha, Result.andThen_ok, if_true, hs, Sem.run_pure, e]
theorem part_u64 (n : Nat) (r : List Value) (w : World) : (part 54 (Value.int .u64 (n : Int) :: r).toArray 0).run Tryd.prog w = .ok (.int .u64 (n : Int)) w := by
  have ha : (isAgg 54).run Tryd.prog w = .ok false w := by kernel_rfl
  simp only [part, Sem.run_bind, ha, Result.andThen_ok]
  simp
theorem eq_root (n m : Nat) (x y z a b c : List (BitVec 8)) (hx : x.length = 32) (hy : y.length = 32) (hz : z.length = 32) (ha : a.length = 32) (hb : b.length = 32) (hc : c.length = 32) (w : World) :
    (Op.equalIn 10000 56 (.agg (Value.int .u64 (n : Int) :: (cb x ++ (cb y ++ cb z))).toArray) (.agg (Value.int .u64 (m : Int) :: (cb a ++ (cb b ++ cb c))).toArray)).run Tryd.prog w = .ok (decide (n = m ∧ x = a ∧ y = b ∧ z = c)) w := by
  have hst : Tryd.prog.stoodInHeld 56 = false := by kernel_rfl
  have pn := fun w => part_u64 n (cb x ++ (cb y ++ cb z)) w
  have pm := fun w => part_u64 m (cb a ++ (cb b ++ cb c)) w
  have px : ∀ w, (part 33 (Value.int .u64 (n : Int) :: (cb x ++ (cb y ++ cb z))).toArray 1).run Tryd.prog w = .ok (.agg (cb x).toArray) w := fun w => part_dig [_] (cb y ++ cb z) x 1 rfl hx w
  have pa : ∀ w, (part 33 (Value.int .u64 (m : Int) :: (cb a ++ (cb b ++ cb c))).toArray 1).run Tryd.prog w = .ok (.agg (cb a).toArray) w := fun w => part_dig [_] (cb b ++ cb c) a 1 rfl ha w
  have py : ∀ w, (part 33 (Value.int .u64 (n : Int) :: (cb x ++ (cb y ++ cb z))).toArray 33).run Tryd.prog w = .ok (.agg (cb y).toArray) w := fun w => by
    have := part_dig (Value.int .u64 (n : Int) :: cb x) (cb z) y 33 (by rw [List.length_cons, cb_len, hx]) hy w
    rwa [List.cons_append] at this
  have pb : ∀ w, (part 33 (Value.int .u64 (m : Int) :: (cb a ++ (cb b ++ cb c))).toArray 33).run Tryd.prog w = .ok (.agg (cb b).toArray) w := fun w => by
    have := part_dig (Value.int .u64 (m : Int) :: cb a) (cb c) b 33 (by rw [List.length_cons, cb_len, ha]) hb w
    rwa [List.cons_append] at this
  have pz : ∀ w, (part 33 (Value.int .u64 (n : Int) :: (cb x ++ (cb y ++ cb z))).toArray 65).run Tryd.prog w = .ok (.agg (cb z).toArray) w := fun w => by
    have := part_dig (Value.int .u64 (n : Int) :: (cb x ++ cb y)) [] z 65 (by rw [List.length_cons, List.length_append, cb_len, cb_len, hx, hy]) hz w
    rwa [List.cons_append, List.append_nil, List.append_assoc] at this
  have pc : ∀ w, (part 33 (Value.int .u64 (m : Int) :: (cb a ++ (cb b ++ cb c))).toArray 65).run Tryd.prog w = .ok (.agg (cb c).toArray) w := fun w => by
    have := part_dig (Value.int .u64 (m : Int) :: (cb a ++ cb b)) [] c 65 (by rw [List.length_cons, List.length_append, cb_len, cb_len, ha, hb]) hc w
    rwa [List.cons_append, List.append_nil, List.append_assoc] at this
  have ex : ∀ w, (Op.equalIn 9999 33 (.agg (cb x).toArray) (.agg (cb a).toArray)).run Tryd.prog w = .ok (decide (x = a)) w := fun w => eq_digs 9997 x a hx ha w
  have ey : ∀ w, (Op.equalIn 9999 33 (.agg (cb y).toArray) (.agg (cb b).toArray)).run Tryd.prog w = .ok (decide (y = b)) w := fun w => eq_digs 9997 y b hy hb w
  have ez : ∀ w, (Op.equalIn 9999 33 (.agg (cb z).toArray) (.agg (cb c).toArray)).run Tryd.prog w = .ok (decide (z = c)) w := fun w => eq_digs 9997 z c hz hc w
  have en : ∀ w, (Op.equalIn 9999 54 (.int .u64 (n : Int)) (.int .u64 (m : Int))).run Tryd.prog w = .ok ((n : Int) == (m : Int)) w := fun w => run_equalIn_int w 9998 54 .u64 .u64 _ _ Tryd.underlying54
  rw [show (10000 : Nat) = 9999 + 1 from rfl, Op.equalIn]
  simp only [Sem.run_bind, run_underlying Tryd.underlying56, Result.andThen_ok]
  have hp : ∀ w, (program).run Tryd.prog w = .ok Tryd.prog w := fun _ => rfl
  have hd : decide (n = m ∧ x = a ∧ y = b ∧ z = c) = (((n : Int) == (m : Int)) && (decide (x = a) && (decide (y = b) && decide (z = c)))) := by
    have e : ((n : Int) == (m : Int)) = decide (n = m) := by
      rw [Bool.eq_iff_iff, beq_iff_eq, decide_eq_true_iff]; omega
    rw [e]; simp
  rw [hd]
  generalize ((n : Int) == (m : Int)) = bn at *
  generalize decide (x = a) = bx at *
  generalize decide (y = b) = by' at *
  generalize decide (z = c) = bz at *
  clear hd
  simp only [hp, Result.andThen_ok, hst, Bool.false_eq_true, if_false, List.forIn_toArray, List.forIn_cons, List.forIn_nil, Sem.run_bind]
  cases bn <;> cases bx <;> cases by' <;> cases bz <;> simp [pn, pm, px, pa, py, pb, pz, pc, en, ex, ey, ez]
theorem num8_inj {n m : Nat} (hn : n < 18446744073709551616) (hm : m < 18446744073709551616) (h : num8 n = num8 m) : n = m := by
  have e : ∀ j, j < 8 → n / 2 ^ (56 - 8 * j) % 256 = m / 2 ^ (56 - 8 * j) % 256 := by
    intro j hj
    have h1 := congrArg (fun l : List (BitVec 8) => (l.getD j 0).toNat) h
    simp only [num8, tl8] at h1
    simpa [List.getD_eq_getElem?_getD, hj] using h1
  have e0 := e 0 (by omega)
  have e1 := e 1 (by omega)
  have e2 := e 2 (by omega)
  have e3 := e 3 (by omega)
  have e4 := e 4 (by omega)
  have e5 := e 5 (by omega)
  have e6 := e 6 (by omega)
  have e7 := e 7 (by omega)
  simp at e0 e1 e2 e3 e4 e5 e6 e7
  omega
theorem app_inj {α : Type} {a b c d : List α} (hl : a.length = c.length) : a ++ b = c ++ d ↔ a = c ∧ b = d := by
  constructor
  · intro h
    exact List.append_inj h hl
  · rintro ⟨rfl, rfl⟩; rfl
theorem num8_iff {n m : Nat} (hn : n < 18446744073709551616) (hm : m < 18446744073709551616) : num8 n = num8 m ↔ n = m := ⟨num8_inj hn hm, fun h => by rw [h]⟩
theorem rootB_iff {n m : Nat} {x y z a b c : List (BitVec 8)} (h : x.length = 32 ∧ y.length = 32 ∧ z.length = 32 ∧ n < 18446744073709551616) (k : a.length = 32 ∧ b.length = 32 ∧ c.length = 32 ∧ m < 18446744073709551616) :
    rootB n x y z = rootB m a b c ↔ n = m ∧ x = a ∧ y = b ∧ z = c := by
  unfold rootB
  rw [List.cons_inj_right, app_inj (by rw [len_num8, len_num8]), app_inj (by omega), app_inj (by omega), num8_iff h.2.2.2 k.2.2.2]
theorem valueB_iff {x y nm nn ky kk : List (BitVec 8)} {s t : Nat} (h : x.length = 32) (k : y.length = 32) (h1 : nm.length ≤ 4000 ∧ s < 18446744073709551616) (k1 : nn.length ≤ 4000 ∧ t < 18446744073709551616) :
    valueB x nm s ky = valueB y nn t kk ↔ x = y ∧ nm = nn ∧ s = t ∧ ky = kk := by
  unfold valueB
  rw [List.cons_inj_right, app_inj (by omega), app_inj (by rw [len_num8, len_num8]), num8_iff (by omega) (by omega)]
  constructor
  · rintro ⟨rfl, hl, h2⟩
    obtain ⟨rfl, h3⟩ := (app_inj hl).1 h2
    obtain ⟨h4, rfl⟩ := (app_inj (by rw [len_num8, len_num8])).1 h3
    exact ⟨rfl, rfl, num8_inj h1.2 k1.2 h4, rfl⟩
  · rintro ⟨rfl, rfl, rfl, rfl⟩; exact ⟨rfl, rfl, rfl⟩
theorem info_binding : (Tryd.prog.info? 59).map (·.size) = some 3 := by kernel_rfl
theorem info_root0 : (Tryd.prog.info? 56).map (·.size) = some 97 := by kernel_rfl
theorem info_root (v : Value) (x y z : List (BitVec 8)) (h : x.length = 32 ∧ y.length = 32 ∧ z.length = 32) : (Tryd.prog.info? 56).map (·.size) = some (v :: (cb x ++ (cb y ++ cb z))).length := by
  rw [info_root0, List.length_cons, List.length_append, List.length_append, cb_len, cb_len, cb_len, h.1, h.2.1, h.2.2]
theorem len_rootB (n : Nat) (x y z : List (BitVec 8)) (h : x.length = 32 ∧ y.length = 32 ∧ z.length = 32) : (rootB n x y z).length = 105 := by simp [rootB, h.1, h.2.1, h.2.2, len_num8]
theorem len_valueB (x nm : List (BitVec 8)) (sr : Nat) (ky : List (BitVec 8)) (hx : x.length = 32) : (valueB x nm sr ky).length = 49 + nm.length + ky.length := by simp [valueB, hx, len_num8]; omega
/-- a row in a new block -/
theorem wpSeq_boxR {ops : Array Oper} {Q : Exit → Act → World → Prop} {rest : List Oper} {o : Oper} {a : Act} {w : World} (ty : TypeId) (x : Operand) (cs : List Value) (ho : o.op = .box ty x) (hx : a.eval x = .agg cs.toArray) (hw : Region.wanted o (yielded ops a.tmps) = true)
    (h : ∀ g w', Blk w' g cs ty → Below w.heap.size w w' → wpList Tryd.prog ops Q rest (a.put o.dst (.pointer (some ⟨g, 0, none⟩))) w') : wpList Tryd.prog ops Q (o :: rest) a w :=
  wpSeq_box ty x ho cs hx hw _ rfl (h _ _ (Blk.new w cs ty) (below_alloc _ _))
theorem wpSeq_loadRow {ops : Array Oper} {Q : Exit → Act → World → Prop} {rest : List Oper} {o : Oper} {a : Act} {w : World} (ty : TypeId) (x : Operand) (g : Nat) (cs : List Value) (d : TypeDesc) (hb : Blk w g cs ty) (hu : Tryd.prog.underlying ty = some d) (hd : d.isRow = true) (hi : (Tryd.prog.info? ty).map (·.size) = some cs.length) (ho : o.op = .load ty x) (hx : a.eval x = .pointer (some ⟨g, 0, none⟩)) (hw : Region.wanted o (yielded ops a.tmps) = true)
    (h : wpList Tryd.prog ops Q rest (a.put o.dst (.agg cs.toArray)) w) : wpList Tryd.prog ops Q (o :: rest) a w :=
  wpSeq_val _ _ hw (load_run ty x ho g 0 hx cs d hb.range hu hd hi) h
def rootC (n : Nat) (x y z : List (BitVec 8)) : List Value := Value.int .u64 (n : Int) :: (cb x ++ (cb y ++ cb z))
def bindC (nm : List (BitVec 8)) (vk : Value) (sr : Nat) : List Value := [.string (strB nm), vk, .int .u64 (sr : Int)]
set_option maxRecDepth 100000 in
set_option maxHeartbeats 4000000 in
theorem hRoot_any (n : Nat) (x y z : List (BitVec 8)) (w : World) (hn : x.length = 32 ∧ y.length = 32 ∧ z.length = 32 ∧ n < 18446744073709551616) :
    Calls Tryd.prog 24 #[.agg (rootC n x y z).toArray] w fun e w' => e = .returned (.agg (cb (dig (rootB n x y z))).toArray) ∧ Below w.heap.size w w' := by
  obtain ⟨r, HRD⟩ : ∃ r, Hid (r = dig (rootB n x y z)) := ⟨_, rfl⟩
  have HRL : Hid (r.length = 32) := by show _ = _; rw [HRD.out]; exact len_dig' _
  obtain ⟨cs, HCS⟩ : ∃ c, Hid (c = rootC n x y z) := ⟨_, rfl⟩
  have HIN : Hid ((Tryd.prog.info? 56).map (·.size) = some cs.length) := by rw [HCS.out]; exact info_root _ x y z ⟨hn.1, hn.2.1, hn.2.2.1⟩
  have HC : Hid (∀ W, Calls Tryd.prog 43 #[.agg cs.toArray] W fun e w' => ∃ v, e = .returned v ∧ Reads w' v (rootB n x y z) ∧ Below W.heap.size W w') := fun W => by rw [HCS.out]; exact rRoot_any x y z n W hn
  have HLB : Hid ((rootB n x y z).length = 105) := len_rootB n x y z ⟨hn.1, hn.2.1, hn.2.2.1⟩
  rw [← HRD.out, ← HCS.out]
  clear hn
  have HBW : Hid (Below w.heap.size w w) := Below.refl _ _
  go_enter Tryd.func24, Tryd.ntmps24
  go_wp2_with (first
    | (with_reducible refine wpSeq_boxR 56 (.tmp 0) cs ?_ ?_ ?_ ?_
       · rfl
       · rfl
       · rfl
       intro g1 w1 hb1 hl1
       have HX : Hid (Blk w1 g1 cs 56) := hb1
       replace HBW : Hid (Below w.heap.size w w1) := HBW.out.trans (hl1.mono HBW.out.size)
       clear hb1 hl1)
    | (with_reducible refine wpSeq_allocD ?_ ?_ ?_
       · rfl
       · rfl
       intro g2 w2 nn
       replace HX : Hid (Blk w2 g1 cs 56) := HX.out.below nn.below HX.out.lt
       have HZ : Hid (Blk w2 g2 (cb zb32) 33 ∧ w.heap.size ≤ g2) := ⟨nn.blk, Nat.le_trans HBW.out.size nn.ge⟩
       replace HBW : Hid (Below w.heap.size w w2) := HBW.out.trans (nn.below.mono HBW.out.size)
       clear nn)
    | (with_reducible refine wpSeq_loadRow 56 (.tmp 1) g1 cs _ ?_ Tryd.underlying56 rfl ?_ ?_ ?_ ?_ ?_
       · exact HX.out
       · exact HIN.out
       · rfl
       · rfl
       · rfl)
    | (go_at_call 43; refine (HC.out _).mono ?_; rintro e w3 ⟨v3, rfl, hr3, hb3⟩
       obtain ⟨a3, n3, c3, hv3⟩ := hr3.form
       subst hv3
       have HR3 : Hid (Reads w3 (.slice a3 n3 c3) (rootB n x y z)) := hr3
       replace HZ : Hid (Blk w3 g2 (cb zb32) 33 ∧ w.heap.size ≤ g2) := ⟨HZ.out.1.below hb3 HZ.out.1.lt, HZ.out.2⟩
       replace HBW : Hid (Below w.heap.size w w3) := HBW.out.trans (hb3.mono HBW.out.size)
       clear hb3 hr3)
    | (go_at_call 32; refine (rOf_any _ _ _ HR3.out (by have := HLB.out; omega)).mono ?_; rintro e w4 ⟨rfl, hb4⟩; rw [← HRD.out]
       replace HZ : Hid (Blk w4 g2 (cb zb32) 33 ∧ w.heap.size ≤ g2) := ⟨HZ.out.1.below hb4 HZ.out.1.lt, HZ.out.2⟩
       replace HBW : Hid (Below w.heap.size w w4) := HBW.out.trans (hb4.mono HBW.out.size)
       clear hb4 HR3)
    | (with_reducible refine wpSeq_storeD (.tmp 2) (.tmp 5) g2 zb32 r ?_ ?_ ?_ ?_ ?_ ?_ ?_ ?_
       · rfl
       · exact HRL.out
       · exact HZ.out.1
       · rfl
       · rfl
       · rfl
       · rfl
       intro w9 h9))
  exact bodyPost_ret (v := .agg (cb r).toArray) (results_cell_row (by rfl) _ _ g2 33 _ (0, 0) _ rfl h9.blk Tryd.underlying33 rfl (by rw [List.size_toArray, cb_len, HRL.out]; exact info_digest)) rfl ⟨rfl, HBW.out.trans (h9.only.below HZ.out.2 HBW.out.size)⟩
set_option maxRecDepth 100000 in
set_option maxHeartbeats 4000000 in
theorem hValue_any (x nm ky : List (BitVec 8)) (vk : Value) (sr : Nat) (w : World) (hx : x.length = 32) (hk : Reads w vk ky) (hn : nm.length ≤ 4000 ∧ ky.length ≤ 4000 ∧ sr < 18446744073709551616) :
    Calls Tryd.prog 27 #[.agg (cb x).toArray, .agg (bindC nm vk sr).toArray] w fun e w' => e = .returned (.agg (cb (dig (valueB x nm sr ky))).toArray) ∧ Below w.heap.size w w' := by
  obtain ⟨r, HRD⟩ : ∃ r, Hid (r = dig (valueB x nm sr ky)) := ⟨_, rfl⟩
  have HRL : Hid (r.length = 32) := by show _ = _; rw [HRD.out]; exact len_dig' _
  have HXL : Hid (x.length = 32) := hx
  obtain ⟨cs, HCS⟩ : ∃ c, Hid (c = bindC nm vk sr) := ⟨_, rfl⟩
  have HIN : Hid ((Tryd.prog.info? 59).map (·.size) = some cs.length) := by rw [HCS.out]; exact info_binding
  have HC : Hid (∀ W, Below w.heap.size w W → Calls Tryd.prog 45 #[.agg (cb x).toArray, .agg cs.toArray] W fun e w' => ∃ v, e = .returned v ∧ Reads w' v (valueB x nm sr ky) ∧ Below W.heap.size W w') := fun W hh => by rw [HCS.out]; exact rValue_any x nm ky vk sr W hx (hk.below hh) ⟨by omega, by omega, hn.2.2⟩
  have HLB : Hid ((valueB x nm sr ky).length ≤ 10000) := by show _ ≤ _; rw [len_valueB x nm sr ky hx]; omega
  rw [← HRD.out, ← HCS.out]
  clear hn hk hx
  have HBW : Hid (Below w.heap.size w w) := Below.refl _ _
  go_enter Tryd.func27, Tryd.ntmps27
  go_wp2_with (first
    | (with_reducible refine wpSeq_boxD (.tmp 0) x ?_ ?_ ?_ ?_
       · rfl
       · rfl
       · rfl
       intro g0 w0 nn0
       have HD0 : Hid (Blk w0 g0 (cb x) 33) := nn0.blk
       replace HBW : Hid (Below w.heap.size w w0) := HBW.out.trans (nn0.below.mono HBW.out.size)
       clear nn0)
    | (with_reducible refine wpSeq_boxR 59 (.tmp 1) cs ?_ ?_ ?_ ?_
       · rfl
       · rfl
       · rfl
       intro g1 w1 hb1 hl1
       have HX : Hid (Blk w1 g1 cs 59) := hb1
       replace HD0 : Hid (Blk w1 g0 (cb x) 33) := HD0.out.below hl1 HD0.out.lt
       replace HBW : Hid (Below w.heap.size w w1) := HBW.out.trans (hl1.mono HBW.out.size)
       clear hb1 hl1)
    | (with_reducible refine wpSeq_allocD ?_ ?_ ?_
       · rfl
       · rfl
       intro g2 w2 nn
       replace HX : Hid (Blk w2 g1 cs 59) := HX.out.below nn.below HX.out.lt
       replace HD0 : Hid (Blk w2 g0 (cb x) 33) := HD0.out.below nn.below HD0.out.lt
       have HZ : Hid (Blk w2 g2 (cb zb32) 33 ∧ w.heap.size ≤ g2) := ⟨nn.blk, Nat.le_trans HBW.out.size nn.ge⟩
       replace HBW : Hid (Below w.heap.size w w2) := HBW.out.trans (nn.below.mono HBW.out.size)
       clear nn)
    | (with_reducible refine wpSeq_loadD (.tmp 2) g0 x ?_ ?_ ?_ ?_ ?_ ?_
       · exact HXL.out
       · exact HD0.out
       · with_reducible rfl
       · rfl
       · rfl)
    | (with_reducible refine wpSeq_loadRow 59 (.tmp 3) g1 cs _ ?_ Tryd.underlying59 rfl ?_ ?_ ?_ ?_ ?_
       · exact HX.out
       · exact HIN.out
       · rfl
       · rfl
       · rfl)
    | (go_at_call 45; refine (HC.out _ HBW.out).mono ?_; rintro e w3 ⟨v3, rfl, hr3, hb3⟩
       obtain ⟨a3, n3, c3, hv3⟩ := hr3.form
       subst hv3
       have HR3 : Hid (Reads w3 (.slice a3 n3 c3) (valueB x nm sr ky)) := hr3
       replace HZ : Hid (Blk w3 g2 (cb zb32) 33 ∧ w.heap.size ≤ g2) := ⟨HZ.out.1.below hb3 HZ.out.1.lt, HZ.out.2⟩
       replace HBW : Hid (Below w.heap.size w w3) := HBW.out.trans (hb3.mono HBW.out.size)
       clear hb3 hr3)
    | (go_at_call 32; refine (rOf_any _ _ _ HR3.out (by have := HLB.out; omega)).mono ?_; rintro e w4 ⟨rfl, hb4⟩; rw [← HRD.out]
       replace HZ : Hid (Blk w4 g2 (cb zb32) 33 ∧ w.heap.size ≤ g2) := ⟨HZ.out.1.below hb4 HZ.out.1.lt, HZ.out.2⟩
       replace HBW : Hid (Below w.heap.size w w4) := HBW.out.trans (hb4.mono HBW.out.size)
       clear hb4 HR3)
    | (with_reducible refine wpSeq_storeD (.tmp 4) (.tmp 8) g2 zb32 r ?_ ?_ ?_ ?_ ?_ ?_ ?_ ?_
       · rfl
       · exact HRL.out
       · exact HZ.out.1
       · rfl
       · rfl
       · rfl
       · rfl
       intro w9 h9))
  exact bodyPost_ret (v := .agg (cb r).toArray) (results_cell_row (by rfl) _ _ g2 33 _ (0, 0) _ rfl h9.blk Tryd.underlying33 rfl (by rw [List.size_toArray, cb_len, HRL.out]; exact info_digest)) rfl ⟨rfl, HBW.out.trans (h9.only.below HZ.out.2 HBW.out.size)⟩
end Go.Proofs.YtpeifpoeeopecaaDoor
/- The walks of clash's Ways, Roots and Values as they landed; clash's functions do what the chapter says (layer 9). -/
namespace Go.Proofs.YtpeifpoeeopecaaDoor
open Go.RowKit
set_option maxRecDepth 100000
set_option maxRecDepth 100000 in
set_option maxHeartbeats 8000000 in
theorem cWays_any (hP : PfOps) (hF : ∀ (W : World) (va vb : Value) (a b : List (List (BitVec 8))), KOk W → ReadsL W va a → ReadsL W vb b → a.length < 4611686018427387904 → (∀ t ∈ a, t.length < 140737488355000) → (∀ t ∈ b, t.length < 140737488355000) → Calls Tryd.prog 8 #[va, vb] W fun e w' => ∃ x y o, e = .returned (.tuple #[x, y, .bool o]) ∧ FirstR w' a b x y o ∧ Below W.heap.size W w')
    (i : List (BitVec 8)) (vp : Value) (sp : List (List (BitVec 8))) (ep : Int) (ixp vap : List (BitVec 8)) (vq : Value) (sq : List (List (BitVec 8))) (eq : Int) (ixq vaq : List (BitVec 8)) (w : World) (hK : KOk w) (hi : i.length = 32) (h1 : ixp.length = 32) (h2 : vap.length = 32) (h3 : ixq.length = 32) (h4 : vaq.length = 32) (hp : ReadsD w vp sp) (hq : ReadsD w vq sq) (hlp : sp.length ≤ 300) (hlq : sq.length ≤ 300) :
    Calls Tryd.prog 15 #[.agg (cb i).toArray, .agg (prfV vp ep ixp vap).toArray, .agg (prfV vq eq ixq vaq).toArray] w fun e w' => ∃ x y o, e = .returned (.tuple #[x, y, .bool o]) ∧ FirstR w' (hashL i (endB ep ixp vap) 0 sp) (hashL i (endB eq ixq vaq) 0 sq) x y o ∧ Below w.heap.size w w' := by
  have HK : Hid (KOk w) := hK
  have HIL : Hid (i.length = 32) := hi
  obtain ⟨cp, HCP⟩ : ∃ c, Hid (c = prfV vp ep ixp vap) := ⟨_, rfl⟩
  obtain ⟨cq, HCQ⟩ : ∃ c, Hid (c = prfV vq eq ixq vaq) := ⟨_, rfl⟩
  have HP6 : Hid (cp.length = 66) := by show _ = _; rw [HCP.out]; exact prfV_len h1 h2
  have HQ6 : Hid (cq.length = 66) := by show _ = _; rw [HCQ.out]; exact prfV_len h3 h4
  obtain ⟨lp, HLP⟩ : ∃ z, Hid (z = hashL i (endB ep ixp vap) 0 sp) := ⟨_, rfl⟩
  obtain ⟨lq, HLQ⟩ : ∃ z, Hid (z = hashL i (endB eq ixq vaq) 0 sq) := ⟨_, rfl⟩
  have HTP : Hid (∀ t ∈ lp, t.length < 140737488355000) := fun t ht => by have := hashL_le i _ (endB_le h1 h2) sp 0 hp.2 t (by rw [← HLP.out]; exact ht); omega
  have HTQ : Hid (∀ t ∈ lq, t.length < 140737488355000) := fun t ht => by have := hashL_le i _ (endB_le h3 h4) sq 0 hq.2 t (by rw [← HLQ.out]; exact ht); omega
  have HNP : Hid (lp.length < 4611686018427387904) := by show _ < _; rw [HLP.out, hashL_len]; omega
  have HC1 : Hid (∀ W, Below w.heap.size w W → Calls Tryd.prog 34 #[.agg (cb i).toArray, .agg cp.toArray] W fun e w' => ∃ v, e = .returned v ∧ ReadsL w' v lp ∧ Below W.heap.size W w') := fun W hb => by rw [HCP.out, HLP.out]; exact hP.hashed W i vp sp ep ixp vap (hK.below hb hK.lt) hi h1 h2 (hp.below hb) hlp
  have HC2 : Hid (∀ W, Below w.heap.size w W → Calls Tryd.prog 34 #[.agg (cb i).toArray, .agg cq.toArray] W fun e w' => ∃ v, e = .returned v ∧ ReadsL w' v lq ∧ Below W.heap.size W w') := fun W hb => by rw [HCQ.out, HLQ.out]; exact hP.hashed W i vq sq eq ixq vaq (hK.below hb hK.lt) hi h3 h4 (hq.below hb) hlq
  have HF : Hid (∀ (W : World) (va vb : Value), KOk W → ReadsL W va lp → ReadsL W vb lq → Calls Tryd.prog 8 #[va, vb] W fun e w' => ∃ x y o, e = .returned (.tuple #[x, y, .bool o]) ∧ FirstR w' lp lq x y o ∧ Below W.heap.size W w') := fun W va vb hk ha hb => hF W va vb lp lq hk ha hb HNP.out HTP.out HTQ.out
  rw [← HLP.out, ← HLQ.out, ← HCP.out, ← HCQ.out]
  clear hi h1 h2 h3 h4 hp hq hlp hlq HLP HLQ HCP HCQ hP hF hK
  go_enter Tryd.func15, Tryd.ntmps15
  go_upto_region 1 with (first
    | (with_reducible refine wpSeq_boxD (.tmp 0) i ?_ ?_ ?_ ?_
       · rfl
       · rfl
       · rfl
       intro gi w0 nn0)
    | (with_reducible refine wpSeq_boxP (.tmp 1) cp ?_ ?_ ?_ ?_
       · rfl
       · rfl
       · rfl
       intro gp w1 nn1)
    | (with_reducible refine wpSeq_boxP (.tmp 2) cq ?_ ?_ ?_ ?_
       · rfl
       · rfl
       · rfl
       intro gq w2 nn2))
  have hb1 := nn0.below.trans (nn1.below.mono nn0.below.size)
  have hb2 := hb1.trans (nn2.below.mono hb1.size)
  have x1 := nn0.blk.below nn1.below nn0.blk.lt
  have HYB : Hid (Below w.heap.size w (World.drew w2)) := hb2.drew
  have HI : Hid (Blk (World.drew w2) gi (cb i) 33 ∧ Blk (World.drew w2) gp cp 36 ∧ Blk (World.drew w2) gq cq 36) := ⟨(x1.below nn2.below x1.lt).drew, (nn1.blk.below nn2.below nn1.blk.lt).drew, nn2.blk.drew⟩
  clear nn0 nn1 nn2 hb1 hb2 x1
  refine wp_region_held_drew (S := Over (World.drew w2)) (by kernel_rfl) (Over.refl _) ?_
  intro hS
  change wpAnyH _ _ _ _ _ _ _ _ (World.drew w2)
  generalize World.drew w2 = y0 at *
  refine wpAnyH_take (i := 0) (v := .agg (cb i).toArray) rfl (by kernel_rfl) (by kernel_rfl) (by kernel_rfl) (fun _ _ _ h => h) (Or.inl ⟨by rfl, fun wx hx => by exact loadDigest _ gi i HIL.out (HI.out.1.below hx HI.out.1.lt) rfl rfl⟩) hS ?_
  simp only [Act.put, List.getElem_toArray, List.getElem_cons_zero, List.setIfInBounds_toArray, List.set_cons_zero, List.set_cons_succ]
  refine wpAnyH_take (i := 1) (v := .agg cp.toArray) rfl (by kernel_rfl) (by kernel_rfl) (by kernel_rfl) (fun _ _ _ h => h) (Or.inl ⟨by rfl, fun wx hx => by exact load_run 36 _ rfl gp 0 rfl cp _ (HI.out.2.1.below hx HI.out.2.1.lt).range Tryd.underlying36 rfl (by rw [HP6.out]; exact info_proof)⟩) hS ?_
  simp only [Act.put, List.getElem_toArray, List.getElem_cons_succ, List.getElem_cons_zero, List.setIfInBounds_toArray, List.set_cons_zero, List.set_cons_succ]
  refine wpAnyH_take (i := 3) (v := .agg (cb i).toArray) rfl (by kernel_rfl) (by kernel_rfl) (by kernel_rfl) (fun _ _ _ h => h) (Or.inl ⟨by rfl, fun wx hx => by exact loadDigest _ gi i HIL.out (HI.out.1.below hx HI.out.1.lt) rfl rfl⟩) hS ?_
  simp only [Act.put, List.getElem_toArray, List.getElem_cons_succ, List.getElem_cons_zero, List.setIfInBounds_toArray, List.set_cons_zero, List.set_cons_succ]
  refine wpAnyH_take (i := 4) (v := .agg cq.toArray) rfl (by kernel_rfl) (by kernel_rfl) (by kernel_rfl) (fun _ _ _ h => h) (Or.inl ⟨by rfl, fun wx hx => by exact load_run 36 _ rfl gq 0 rfl cq _ (HI.out.2.2.below hx HI.out.2.2.lt).range Tryd.underlying36 rfl (by rw [HQ6.out]; exact info_proof)⟩) hS ?_
  simp only [Act.put, List.getElem_toArray, List.getElem_cons_succ, List.getElem_cons_zero, List.setIfInBounds_toArray, List.set_cons_zero, List.set_cons_succ]
  refine wpAnyH_enter 2 (by kernel_rfl) rfl (by rfl) (f := 34) (args := #[.agg (cb i).toArray, .agg cp.toArray]) (by simp [go_sem]) (HC1.out _ (HYB.out.trans (Below.mono hS HYB.out.size))) ?_
  rintro e y1 ⟨u1, rfl, hu1, hbq⟩
  replace hS := Over.more hS hbq
  refine ⟨_, rfl, hS, ?_⟩
  clear hbq
  simp only [Act.put, List.getElem_toArray, List.getElem_cons_succ, List.getElem_cons_zero, List.setIfInBounds_toArray, List.set_cons_zero, List.set_cons_succ]
  refine wpAnyH_enter 5 (by kernel_rfl) rfl (by rfl) (f := 34) (args := #[.agg (cb i).toArray, .agg cq.toArray]) (by simp [go_sem]) (HC2.out _ (HYB.out.trans (Below.mono hS HYB.out.size))) ?_
  rintro e y2 ⟨u2, rfl, hu2, hbq⟩
  replace hS := Over.more hS hbq
  replace hu1 := hu1.below hbq
  refine ⟨_, rfl, hS, ?_⟩
  clear hbq
  simp only [Act.put, List.getElem_toArray, List.getElem_cons_succ, List.getElem_cons_zero, List.setIfInBounds_toArray, List.set_cons_zero, List.set_cons_succ]
  refine wpAnyH_enter 6 (by kernel_rfl) rfl (by rfl) (f := 8) (args := #[u1, u2]) (by simp [go_sem]) (HF.out _ u1 u2 (HK.out.below (HYB.out.trans (Below.mono hS HYB.out.size)) HK.out.lt) hu1 hu2) ?_
  rintro e y3 ⟨vx, vy, o, rfl, hrr, hbq⟩
  replace hS := Over.more hS hbq
  refine ⟨_, rfl, hS, ?_⟩
  clear hbq hu1 hu2
  simp only [Act.put, List.getElem_toArray, List.getElem_cons_succ, List.getElem_cons_zero, List.setIfInBounds_toArray, List.set_cons_zero, List.set_cons_succ]
  refine wpAnyH_take (i := 7) (v := vx) rfl (by kernel_rfl) (by kernel_rfl) (by kernel_rfl) (fun _ _ _ h => h) (Or.inl ⟨by rfl, fun wx hx => by simp [go_sem]⟩) hS ?_
  simp only [Act.put, List.getElem_toArray, List.getElem_cons_succ, List.getElem_cons_zero, List.setIfInBounds_toArray, List.set_cons_zero, List.set_cons_succ]
  refine wpAnyH_take (i := 8) (v := vy) rfl (by kernel_rfl) (by kernel_rfl) (by kernel_rfl) (fun _ _ _ h => h) (Or.inl ⟨by rfl, fun wx hx => by simp [go_sem]⟩) hS ?_
  simp only [Act.put, List.getElem_toArray, List.getElem_cons_succ, List.getElem_cons_zero, List.setIfInBounds_toArray, List.set_cons_zero, List.set_cons_succ]
  refine wpAnyH_take (i := 9) (v := .bool o) rfl (by kernel_rfl) (by kernel_rfl) (by kernel_rfl) (fun _ _ _ h => h) (Or.inl ⟨by rfl, fun wx hx => by simp [go_sem]⟩) hS ?_
  simp only [Act.put, List.getElem_toArray, List.getElem_cons_succ, List.getElem_cons_zero, List.setIfInBounds_toArray, List.set_cons_zero, List.set_cons_succ]
  refine wpAnyH_take (i := 10) (v := vx) rfl (by kernel_rfl) (by kernel_rfl) (by kernel_rfl) (fun _ _ _ h => h) (Or.inl ⟨by rfl, fun wx hx => by simp [go_sem]⟩) hS ?_
  simp only [Act.put, List.getElem_toArray, List.getElem_cons_succ, List.getElem_cons_zero, List.setIfInBounds_toArray, List.set_cons_zero, List.set_cons_succ]
  refine wpAnyH_take (i := 11) (v := vy) rfl (by kernel_rfl) (by kernel_rfl) (by kernel_rfl) (fun _ _ _ h => h) (Or.inl ⟨by rfl, fun wx hx => by simp [go_sem]⟩) hS ?_
  simp only [Act.put, List.getElem_toArray, List.getElem_cons_succ, List.getElem_cons_zero, List.setIfInBounds_toArray, List.set_cons_zero, List.set_cons_succ]
  refine wpAnyH_take (i := 12) (v := .bool o) rfl (by kernel_rfl) (by kernel_rfl) (by kernel_rfl) (fun _ _ _ h => h) (Or.inl ⟨by rfl, fun wx hx => by simp [go_sem]⟩) hS ?_
  simp only [Act.put, List.getElem_toArray, List.getElem_cons_succ, List.getElem_cons_zero, List.setIfInBounds_toArray, List.set_cons_zero, List.set_cons_succ]
  refine wpAnyH_done (by kernel_rfl) ?_ _
  have HRR : Hid (FirstR y3 lp lq vx vy o) := hrr
  have HBW : Hid (Below w.heap.size w y3) := (HYB.out.trans (Below.mono hS HYB.out.size))
  clear hS hrr
  go_wp2
  refine bodyPost_ret (results_tmp3 rfl _ _ _) rfl ?_
  exact ⟨_, _, o, rfl, HRR.out, HBW.out⟩
set_option maxRecDepth 100000 in
set_option maxHeartbeats 8000000 in
theorem cRoots_any (hP : ∀ (W : World) (va vb : Value) (a b : List (BitVec 8)), KOk W → Reads W va a → Reads W vb b → a.length < 140737488355000 → b.length < 140737488355000 → Calls Tryd.prog 11 #[va, vb] W fun e w' => ∃ x y o, e = .returned (.tuple #[x, y, .bool o]) ∧ PairR w' a b x y o ∧ Below W.heap.size W w')
    (n m : Nat) (x y z x' y' z' : List (BitVec 8)) (w : World) (hK : KOk w) (hn : x.length = 32 ∧ y.length = 32 ∧ z.length = 32 ∧ n < 18446744073709551616) (hm : x'.length = 32 ∧ y'.length = 32 ∧ z'.length = 32 ∧ m < 18446744073709551616) :
    Calls Tryd.prog 23 #[root9V n x y z, root9V m x' y' z'] w fun e w' => ∃ v u o, e = .returned (.tuple #[v, u, .bool o]) ∧ PairR w' (rootB n x y z) (rootB m x' y' z') v u o ∧ Below w.heap.size w w' := by
  have HK : Hid (KOk w) := hK
  obtain ⟨cr, HCR⟩ : ∃ c, Hid (c = rootC n x y z) := ⟨_, rfl⟩
  obtain ⟨cs, HCS⟩ : ∃ c, Hid (c = rootC m x' y' z') := ⟨_, rfl⟩
  have HIR : Hid ((Tryd.prog.info? 56).map (·.size) = some cr.length) := by rw [HCR.out]; exact info_root _ x y z ⟨hn.1, hn.2.1, hn.2.2.1⟩
  have HIS : Hid ((Tryd.prog.info? 56).map (·.size) = some cs.length) := by rw [HCS.out]; exact info_root _ x' y' z' ⟨hm.1, hm.2.1, hm.2.2.1⟩
  obtain ⟨A, HA⟩ : ∃ q, Hid (q = rootB n x y z) := ⟨_, rfl⟩
  obtain ⟨B, HB⟩ : ∃ q, Hid (q = rootB m x' y' z') := ⟨_, rfl⟩
  have HLL : Hid (A.length = 105 ∧ B.length = 105) := by show _ ∧ _; rw [HA.out, HB.out]; exact ⟨len_rootB n x y z ⟨hn.1, hn.2.1, hn.2.2.1⟩, len_rootB m x' y' z' ⟨hm.1, hm.2.1, hm.2.2.1⟩⟩
  have HC1 : Hid (∀ W, Calls Tryd.prog 42 #[.agg cr.toArray] W fun e w' => ∃ v, e = .returned v ∧ Reads w' v A ∧ Below W.heap.size W w') := fun W => by rw [HCR.out, HA.out]; exact tRoot_any x y z n W hn
  have HC2 : Hid (∀ W, Calls Tryd.prog 42 #[.agg cs.toArray] W fun e w' => ∃ v, e = .returned v ∧ Reads w' v B ∧ Below W.heap.size W w') := fun W => by rw [HCS.out, HB.out]; exact tRoot_any x' y' z' m W hm
  have HF : Hid (∀ (W : World) (va vb : Value), KOk W → Reads W va A → Reads W vb B → Calls Tryd.prog 11 #[va, vb] W fun e w' => ∃ x y o, e = .returned (.tuple #[x, y, .bool o]) ∧ PairR w' A B x y o ∧ Below W.heap.size W w') := fun W va vb hk ha hb => hP W va vb A B hk ha hb (by have := HLL.out; omega) (by have := HLL.out; omega)
  show Calls Tryd.prog 23 #[.agg (rootC n x y z).toArray, .agg (rootC m x' y' z').toArray] _ _
  rw [← HA.out, ← HB.out, ← HCR.out, ← HCS.out]
  clear hn hm hK hP HA HB HCR HCS
  go_enter Tryd.func23, Tryd.ntmps23
  go_upto_region 1 with (first
    | (with_reducible refine wpSeq_boxR 56 (.tmp 0) cr ?_ ?_ ?_ ?_
       · rfl
       · rfl
       · rfl
       intro g1 w1 hb1 hl1)
    | (with_reducible refine wpSeq_boxR 56 (.tmp 1) cs ?_ ?_ ?_ ?_
       · rfl
       · rfl
       · rfl
       intro g2 w2 hb2 hl2))
  have HYB : Hid (Below w.heap.size w (World.drew w2)) := (hl1.trans (hl2.mono hl1.size)).drew
  have HI : Hid (Blk (World.drew w2) g1 cr 56 ∧ Blk (World.drew w2) g2 cs 56) := ⟨(hb1.below hl2 hb1.lt).drew, hb2.drew⟩
  clear hb1 hl1 hb2 hl2
  refine wp_region_held_drew (S := Over (World.drew w2)) (by kernel_rfl) (Over.refl _) ?_
  intro hS
  change wpAnyH _ _ _ _ _ _ _ _ (World.drew w2)
  generalize World.drew w2 = y0 at *
  refine wpAnyH_take (i := 0) (v := .agg cr.toArray) rfl (by kernel_rfl) (by kernel_rfl) (by kernel_rfl) (fun _ _ _ h => h) (Or.inl ⟨by rfl, fun wx hx => by exact load_run 56 _ rfl g1 0 rfl cr _ (HI.out.1.below hx HI.out.1.lt).range Tryd.underlying56 rfl HIR.out⟩) hS ?_
  simp only [Act.put, List.getElem_toArray, List.getElem_cons_zero, List.setIfInBounds_toArray, List.set_cons_zero, List.set_cons_succ]
  refine wpAnyH_take (i := 2) (v := .agg cs.toArray) rfl (by kernel_rfl) (by kernel_rfl) (by kernel_rfl) (fun _ _ _ h => h) (Or.inl ⟨by rfl, fun wx hx => by exact load_run 56 _ rfl g2 0 rfl cs _ (HI.out.2.below hx HI.out.2.lt).range Tryd.underlying56 rfl HIS.out⟩) hS ?_
  simp only [Act.put, List.getElem_toArray, List.getElem_cons_succ, List.getElem_cons_zero, List.setIfInBounds_toArray, List.set_cons_zero, List.set_cons_succ]
  refine wpAnyH_enter 1 (by kernel_rfl) rfl (by rfl) (f := 42) (args := #[.agg cr.toArray]) (by simp [go_sem]) (HC1.out _) ?_
  rintro e y1 ⟨u1, rfl, hu1, hbq⟩
  replace hS := Over.more hS hbq
  refine ⟨_, rfl, hS, ?_⟩
  clear hbq
  simp only [Act.put, List.getElem_toArray, List.getElem_cons_succ, List.getElem_cons_zero, List.setIfInBounds_toArray, List.set_cons_zero, List.set_cons_succ]
  refine wpAnyH_enter 3 (by kernel_rfl) rfl (by rfl) (f := 42) (args := #[.agg cs.toArray]) (by simp [go_sem]) (HC2.out _) ?_
  rintro e y2 ⟨u2, rfl, hu2, hbq⟩
  replace hS := Over.more hS hbq
  replace hu1 := hu1.below hbq
  refine ⟨_, rfl, hS, ?_⟩
  clear hbq
  simp only [Act.put, List.getElem_toArray, List.getElem_cons_succ, List.getElem_cons_zero, List.setIfInBounds_toArray, List.set_cons_zero, List.set_cons_succ]
  refine wpAnyH_enter 4 (by kernel_rfl) rfl (by rfl) (f := 11) (args := #[u1, u2]) (by simp [go_sem]) (HF.out _ u1 u2 (HK.out.below (HYB.out.trans (Below.mono hS HYB.out.size)) HK.out.lt) hu1 hu2) ?_
  rintro e y3 ⟨vx, vy, o, rfl, hrr, hbq⟩
  replace hS := Over.more hS hbq
  refine ⟨_, rfl, hS, ?_⟩
  clear hbq hu1 hu2
  simp only [Act.put, List.getElem_toArray, List.getElem_cons_succ, List.getElem_cons_zero, List.setIfInBounds_toArray, List.set_cons_zero, List.set_cons_succ]
  refine wpAnyH_take (i := 5) (v := vx) rfl (by kernel_rfl) (by kernel_rfl) (by kernel_rfl) (fun _ _ _ h => h) (Or.inl ⟨by rfl, fun wx hx => by simp [go_sem]⟩) hS ?_
  simp only [Act.put, List.getElem_toArray, List.getElem_cons_succ, List.getElem_cons_zero, List.setIfInBounds_toArray, List.set_cons_zero, List.set_cons_succ]
  refine wpAnyH_take (i := 6) (v := vy) rfl (by kernel_rfl) (by kernel_rfl) (by kernel_rfl) (fun _ _ _ h => h) (Or.inl ⟨by rfl, fun wx hx => by simp [go_sem]⟩) hS ?_
  simp only [Act.put, List.getElem_toArray, List.getElem_cons_succ, List.getElem_cons_zero, List.setIfInBounds_toArray, List.set_cons_zero, List.set_cons_succ]
  refine wpAnyH_take (i := 7) (v := .bool o) rfl (by kernel_rfl) (by kernel_rfl) (by kernel_rfl) (fun _ _ _ h => h) (Or.inl ⟨by rfl, fun wx hx => by simp [go_sem]⟩) hS ?_
  simp only [Act.put, List.getElem_toArray, List.getElem_cons_succ, List.getElem_cons_zero, List.setIfInBounds_toArray, List.set_cons_zero, List.set_cons_succ]
  refine wpAnyH_take (i := 8) (v := vx) rfl (by kernel_rfl) (by kernel_rfl) (by kernel_rfl) (fun _ _ _ h => h) (Or.inl ⟨by rfl, fun wx hx => by simp [go_sem]⟩) hS ?_
  simp only [Act.put, List.getElem_toArray, List.getElem_cons_succ, List.getElem_cons_zero, List.setIfInBounds_toArray, List.set_cons_zero, List.set_cons_succ]
  refine wpAnyH_take (i := 9) (v := vy) rfl (by kernel_rfl) (by kernel_rfl) (by kernel_rfl) (fun _ _ _ h => h) (Or.inl ⟨by rfl, fun wx hx => by simp [go_sem]⟩) hS ?_
  simp only [Act.put, List.getElem_toArray, List.getElem_cons_succ, List.getElem_cons_zero, List.setIfInBounds_toArray, List.set_cons_zero, List.set_cons_succ]
  refine wpAnyH_take (i := 10) (v := .bool o) rfl (by kernel_rfl) (by kernel_rfl) (by kernel_rfl) (fun _ _ _ h => h) (Or.inl ⟨by rfl, fun wx hx => by simp [go_sem]⟩) hS ?_
  simp only [Act.put, List.getElem_toArray, List.getElem_cons_succ, List.getElem_cons_zero, List.setIfInBounds_toArray, List.set_cons_zero, List.set_cons_succ]
  refine wpAnyH_done (by kernel_rfl) ?_ _
  have HRR : Hid (PairR y3 A B vx vy o) := hrr
  have HBW : Hid (Below w.heap.size w y3) := (HYB.out.trans (Below.mono hS HYB.out.size))
  clear hS hrr
  go_wp2
  refine bodyPost_ret (results_tmp3 rfl _ _ _) rfl ?_
  exact ⟨_, _, o, rfl, HRR.out, HBW.out⟩
set_option maxRecDepth 100000 in
set_option maxHeartbeats 8000000 in
theorem cValues_any (hP : ∀ (W : World) (va vb : Value) (a b : List (BitVec 8)), KOk W → Reads W va a → Reads W vb b → a.length < 140737488355000 → b.length < 140737488355000 → Calls Tryd.prog 11 #[va, vb] W fun e w' => ∃ x y o, e = .returned (.tuple #[x, y, .bool o]) ∧ PairR w' a b x y o ∧ Below W.heap.size W w')
    (x y na nb ka kb : List (BitVec 8)) (va vb : Value) (n m : Nat) (w : World) (hK : KOk w) (hx0 : x.length = 32) (hy0 : y.length = 32) (ha : Reads w va ka) (hb : Reads w vb kb) (hn : na.length ≤ 4000 ∧ ka.length ≤ 4000 ∧ n < 18446744073709551616) (hm : nb.length ≤ 4000 ∧ kb.length ≤ 4000 ∧ m < 18446744073709551616) :
    Calls Tryd.prog 25 #[.agg (cb x).toArray, bind9V na va n, .agg (cb y).toArray, bind9V nb vb m] w fun e w' => ∃ v u o, e = .returned (.tuple #[v, u, .bool o]) ∧ PairR w' (valueB x na n ka) (valueB y nb m kb) v u o ∧ Below w.heap.size w w' := by
  have HK : Hid (KOk w) := hK
  have HX0 : Hid (x.length = 32 ∧ y.length = 32) := ⟨hx0, hy0⟩
  obtain ⟨ca, HCA⟩ : ∃ c, Hid (c = bindC na va n) := ⟨_, rfl⟩
  obtain ⟨cc, HCC⟩ : ∃ c, Hid (c = bindC nb vb m) := ⟨_, rfl⟩
  have HIA : Hid ((Tryd.prog.info? 59).map (·.size) = some ca.length) := by rw [HCA.out]; exact info_binding
  have HIC : Hid ((Tryd.prog.info? 59).map (·.size) = some cc.length) := by rw [HCC.out]; exact info_binding
  obtain ⟨A, HA⟩ : ∃ q, Hid (q = valueB x na n ka) := ⟨_, rfl⟩
  obtain ⟨B, HB⟩ : ∃ q, Hid (q = valueB y nb m kb) := ⟨_, rfl⟩
  have HLL : Hid (A.length ≤ 10000 ∧ B.length ≤ 10000) := by show _ ∧ _; rw [HA.out, HB.out, len_valueB _ _ _ _ hx0, len_valueB _ _ _ _ hy0]; omega
  have HC1 : Hid (∀ W, Below w.heap.size w W → Calls Tryd.prog 44 #[.agg (cb x).toArray, .agg ca.toArray] W fun e w' => ∃ v, e = .returned v ∧ Reads w' v A ∧ Below W.heap.size W w') := fun W hh => by rw [HCA.out, HA.out]; exact tValue_any x na ka va n W hx0 (ha.below hh) ⟨by omega, by omega, hn.2.2⟩
  have HC2 : Hid (∀ W, Below w.heap.size w W → Calls Tryd.prog 44 #[.agg (cb y).toArray, .agg cc.toArray] W fun e w' => ∃ v, e = .returned v ∧ Reads w' v B ∧ Below W.heap.size W w') := fun W hh => by rw [HCC.out, HB.out]; exact tValue_any y nb kb vb m W hy0 (hb.below hh) ⟨by omega, by omega, hm.2.2⟩
  have HF : Hid (∀ (W : World) (va vb : Value), KOk W → Reads W va A → Reads W vb B → Calls Tryd.prog 11 #[va, vb] W fun e w' => ∃ x y o, e = .returned (.tuple #[x, y, .bool o]) ∧ PairR w' A B x y o ∧ Below W.heap.size W w') := fun W va vb hk ha hb => hP W va vb A B hk ha hb (by have := HLL.out; omega) (by have := HLL.out; omega)
  show Calls Tryd.prog 25 #[.agg (cb x).toArray, .agg (bindC na va n).toArray, .agg (cb y).toArray, .agg (bindC nb vb m).toArray] _ _
  rw [← HA.out, ← HB.out, ← HCA.out, ← HCC.out]
  clear hn hm hK hP HA HB HCA HCC hx0 hy0 ha hb
  go_enter Tryd.func25, Tryd.ntmps25
  go_upto_region 1 with (first
    | (with_reducible refine wpSeq_boxD (.tmp 0) x ?_ ?_ ?_ ?_
       · rfl
       · rfl
       · rfl
       intro g1 w1 nn1)
    | (with_reducible refine wpSeq_boxR 59 (.tmp 1) ca ?_ ?_ ?_ ?_
       · rfl
       · rfl
       · rfl
       intro g2 w2 hb2 hl2)
    | (with_reducible refine wpSeq_boxD (.tmp 2) y ?_ ?_ ?_ ?_
       · rfl
       · rfl
       · rfl
       intro g3 w3 nn3)
    | (with_reducible refine wpSeq_boxR 59 (.tmp 3) cc ?_ ?_ ?_ ?_
       · rfl
       · rfl
       · rfl
       intro g4 w4 hb4 hl4))
  have e2 := nn1.below.trans (hl2.mono nn1.below.size)
  have e3 := e2.trans (nn3.below.mono e2.size)
  have HYB : Hid (Below w.heap.size w (World.drew w4)) := (e3.trans (hl4.mono e3.size)).drew
  have r2 := nn1.blk.below hl2 nn1.blk.lt
  have r3 := r2.below nn3.below r2.lt
  have q3 := hb2.below nn3.below hb2.lt
  have HI : Hid (Blk (World.drew w4) g1 (cb x) 33 ∧ Blk (World.drew w4) g2 ca 59 ∧ Blk (World.drew w4) g3 (cb y) 33 ∧ Blk (World.drew w4) g4 cc 59) := ⟨(r3.below hl4 r3.lt).drew, (q3.below hl4 q3.lt).drew, (nn3.blk.below hl4 nn3.blk.lt).drew, hb4.drew⟩
  clear e2 e3 r2 r3 q3 nn1 nn3 hb2 hl2 hb4 hl4
  refine wp_region_held_drew (S := Over (World.drew w4)) (by kernel_rfl) (Over.refl _) ?_
  intro hS
  change wpAnyH _ _ _ _ _ _ _ _ (World.drew w4)
  generalize World.drew w4 = y0 at *
  refine wpAnyH_take (i := 0) (v := .agg (cb x).toArray) rfl (by kernel_rfl) (by kernel_rfl) (by kernel_rfl) (fun _ _ _ h => h) (Or.inl ⟨by rfl, fun wx hx => by exact loadDigest _ g1 x HX0.out.1 (HI.out.1.below hx HI.out.1.lt) rfl rfl⟩) hS ?_
  simp only [Act.put, List.getElem_toArray, List.getElem_cons_zero, List.setIfInBounds_toArray, List.set_cons_zero, List.set_cons_succ]
  refine wpAnyH_take (i := 1) (v := .agg ca.toArray) rfl (by kernel_rfl) (by kernel_rfl) (by kernel_rfl) (fun _ _ _ h => h) (Or.inl ⟨by rfl, fun wx hx => by exact load_run 59 _ rfl g2 0 rfl ca _ (HI.out.2.1.below hx HI.out.2.1.lt).range Tryd.underlying59 rfl HIA.out⟩) hS ?_
  simp only [Act.put, List.getElem_toArray, List.getElem_cons_succ, List.getElem_cons_zero, List.setIfInBounds_toArray, List.set_cons_zero, List.set_cons_succ]
  refine wpAnyH_take (i := 3) (v := .agg (cb y).toArray) rfl (by kernel_rfl) (by kernel_rfl) (by kernel_rfl) (fun _ _ _ h => h) (Or.inl ⟨by rfl, fun wx hx => by exact loadDigest _ g3 y HX0.out.2 (HI.out.2.2.1.below hx HI.out.2.2.1.lt) rfl rfl⟩) hS ?_
  simp only [Act.put, List.getElem_toArray, List.getElem_cons_succ, List.getElem_cons_zero, List.setIfInBounds_toArray, List.set_cons_zero, List.set_cons_succ]
  refine wpAnyH_take (i := 4) (v := .agg cc.toArray) rfl (by kernel_rfl) (by kernel_rfl) (by kernel_rfl) (fun _ _ _ h => h) (Or.inl ⟨by rfl, fun wx hx => by exact load_run 59 _ rfl g4 0 rfl cc _ (HI.out.2.2.2.below hx HI.out.2.2.2.lt).range Tryd.underlying59 rfl HIC.out⟩) hS ?_
  simp only [Act.put, List.getElem_toArray, List.getElem_cons_succ, List.getElem_cons_zero, List.setIfInBounds_toArray, List.set_cons_zero, List.set_cons_succ]
  refine wpAnyH_enter 2 (by kernel_rfl) rfl (by rfl) (f := 44) (args := #[.agg (cb x).toArray, .agg ca.toArray]) (by simp [go_sem]) (HC1.out _ (HYB.out.trans (Below.mono hS HYB.out.size))) ?_
  rintro e y1 ⟨u1, rfl, hu1, hbq⟩
  replace hS := Over.more hS hbq
  refine ⟨_, rfl, hS, ?_⟩
  clear hbq
  simp only [Act.put, List.getElem_toArray, List.getElem_cons_succ, List.getElem_cons_zero, List.setIfInBounds_toArray, List.set_cons_zero, List.set_cons_succ]
  refine wpAnyH_enter 5 (by kernel_rfl) rfl (by rfl) (f := 44) (args := #[.agg (cb y).toArray, .agg cc.toArray]) (by simp [go_sem]) (HC2.out _ (HYB.out.trans (Below.mono hS HYB.out.size))) ?_
  rintro e y2 ⟨u2, rfl, hu2, hbq⟩
  replace hS := Over.more hS hbq
  replace hu1 := hu1.below hbq
  refine ⟨_, rfl, hS, ?_⟩
  clear hbq
  simp only [Act.put, List.getElem_toArray, List.getElem_cons_succ, List.getElem_cons_zero, List.setIfInBounds_toArray, List.set_cons_zero, List.set_cons_succ]
  refine wpAnyH_enter 6 (by kernel_rfl) rfl (by rfl) (f := 11) (args := #[u1, u2]) (by simp [go_sem]) (HF.out _ u1 u2 (HK.out.below (HYB.out.trans (Below.mono hS HYB.out.size)) HK.out.lt) hu1 hu2) ?_
  rintro e y3 ⟨vx, vy, o, rfl, hrr, hbq⟩
  replace hS := Over.more hS hbq
  refine ⟨_, rfl, hS, ?_⟩
  clear hbq hu1 hu2
  simp only [Act.put, List.getElem_toArray, List.getElem_cons_succ, List.getElem_cons_zero, List.setIfInBounds_toArray, List.set_cons_zero, List.set_cons_succ]
  refine wpAnyH_take (i := 7) (v := vx) rfl (by kernel_rfl) (by kernel_rfl) (by kernel_rfl) (fun _ _ _ h => h) (Or.inl ⟨by rfl, fun wx hx => by simp [go_sem]⟩) hS ?_
  simp only [Act.put, List.getElem_toArray, List.getElem_cons_succ, List.getElem_cons_zero, List.setIfInBounds_toArray, List.set_cons_zero, List.set_cons_succ]
  refine wpAnyH_take (i := 8) (v := vy) rfl (by kernel_rfl) (by kernel_rfl) (by kernel_rfl) (fun _ _ _ h => h) (Or.inl ⟨by rfl, fun wx hx => by simp [go_sem]⟩) hS ?_
  simp only [Act.put, List.getElem_toArray, List.getElem_cons_succ, List.getElem_cons_zero, List.setIfInBounds_toArray, List.set_cons_zero, List.set_cons_succ]
  refine wpAnyH_take (i := 9) (v := .bool o) rfl (by kernel_rfl) (by kernel_rfl) (by kernel_rfl) (fun _ _ _ h => h) (Or.inl ⟨by rfl, fun wx hx => by simp [go_sem]⟩) hS ?_
  simp only [Act.put, List.getElem_toArray, List.getElem_cons_succ, List.getElem_cons_zero, List.setIfInBounds_toArray, List.set_cons_zero, List.set_cons_succ]
  refine wpAnyH_take (i := 10) (v := vx) rfl (by kernel_rfl) (by kernel_rfl) (by kernel_rfl) (fun _ _ _ h => h) (Or.inl ⟨by rfl, fun wx hx => by simp [go_sem]⟩) hS ?_
  simp only [Act.put, List.getElem_toArray, List.getElem_cons_succ, List.getElem_cons_zero, List.setIfInBounds_toArray, List.set_cons_zero, List.set_cons_succ]
  refine wpAnyH_take (i := 11) (v := vy) rfl (by kernel_rfl) (by kernel_rfl) (by kernel_rfl) (fun _ _ _ h => h) (Or.inl ⟨by rfl, fun wx hx => by simp [go_sem]⟩) hS ?_
  simp only [Act.put, List.getElem_toArray, List.getElem_cons_succ, List.getElem_cons_zero, List.setIfInBounds_toArray, List.set_cons_zero, List.set_cons_succ]
  refine wpAnyH_take (i := 12) (v := .bool o) rfl (by kernel_rfl) (by kernel_rfl) (by kernel_rfl) (fun _ _ _ h => h) (Or.inl ⟨by rfl, fun wx hx => by simp [go_sem]⟩) hS ?_
  simp only [Act.put, List.getElem_toArray, List.getElem_cons_succ, List.getElem_cons_zero, List.setIfInBounds_toArray, List.set_cons_zero, List.set_cons_succ]
  refine wpAnyH_done (by kernel_rfl) ?_ _
  have HRR : Hid (PairR y3 A B vx vy o) := hrr
  have HBW : Hid (Below w.heap.size w y3) := (HYB.out.trans (Below.mono hS HYB.out.size))
  clear hS hrr
  go_wp2
  refine bodyPost_ret (results_tmp3 rfl _ _ _) rfl ?_
  exact ⟨_, _, o, rfl, HRR.out, HBW.out⟩
theorem clOps (hP : PfOps) : ClOps where
  pair := fun W va vb a b hK ha hb hla hlb => cPair_any va vb a b W hK ha hb hla hlb
  first := fun W va vb a b hK ha hb hl hla hlb => cFirst_any va vb a b W hK ha hb hl hla hlb
  ways := fun W i vp sp ep ixp vap vq sq eq ixq vaq hK hi h1 h2 h3 h4 hp hq hlp hlq => cWays_any hP (fun W va vb a b hK ha hb hl hla hlb => cFirst_any va vb a b W hK ha hb hl hla hlb) i vp sp ep ixp vap vq sq eq ixq vaq W hK hi h1 h2 h3 h4 hp hq hlp hlq
  roots := fun W n m x y z x' y' z' hK hn hm => cRoots_any (fun W va vb a b hK ha hb hla hlb => cPair_any va vb a b W hK ha hb hla hlb) n m x y z x' y' z' W hK hn hm
  values := fun W x y na nb ka kb va vb n m hK hx hy ha hb hn hm => cValues_any (fun W va vb a b hK ha hb hla hlb => cPair_any va vb a b W hK ha hb hla hlb) x y na nb ka kb va vb n m W hK hx hy ha hb hn hm
end Go.Proofs.YtpeifpoeeopecaaDoor
/- The statement ClashPairs, over clash's functions (layer 9). -/
namespace Go.Proofs.YtpeifpoeeopecaaDoor
open Go.RowKit
set_option maxRecDepth 100000
theorem right9_pair {a b s t : List (BitVec 8)} {o : Bool} (h : (o = true ∧ s = a ∧ t = b ∧ pairB9 a b = true) ∨ (o = false ∧ s = [] ∧ t = [] ∧ pairB9 a b = false)) : right9 s t o (pairB9 a b) = true := by
  rcases h with ⟨rfl, rfl, rfl, h4⟩ | ⟨rfl, rfl, rfl, h4⟩
  · rw [h4]; simp [right9, h4]
  · rw [h4]; simp [right9]
theorem pair_len {a b s t : List (BitVec 8)} {o : Bool} {N : Nat} (ha : a.length < N) (hb : b.length < N) (h : (o = true ∧ s = a ∧ t = b ∧ pairB9 a b = true) ∨ (o = false ∧ s = [] ∧ t = [] ∧ pairB9 a b = false)) : s.length < N ∧ t.length < N := by
  rcases h with ⟨_, rfl, rfl, _⟩ | ⟨_, rfl, rfl, _⟩
  · exact ⟨ha, hb⟩
  · simp only [List.length_nil]; omega
set_option maxRecDepth 100000 in
set_option maxHeartbeats 16000000 in
theorem clashPairs_law (hP : PfOps) (hC : ClOps) (va vb : Value) (a b : List (List (BitVec 8))) (w : World) (hK : KOk w) (ha : ReadsL w va a) (hb : ReadsL w vb b) (hla : a.length < 4611686018427387904) (hta : ∀ t ∈ a, t.length < 140737488355000) (htb : ∀ t ∈ b, t.length < 140737488355000) :
    Calls Tryd.prog 3 #[va, vb] w fun e w' => e = .returned (.bool true) ∧ Below w.heap.size w w' := by
  have HPO : Hid PfOps := hP
  have HCO : Hid ClOps := hC
  have HK0 : Hid (KOk w) := hK
  have HA : Hid (ReadsL w va a) := ha
  have HB : Hid (ReadsL w vb b) := hb
  have HTA : Hid (∀ t ∈ a, t.length < 140737488355000) := hta
  have HTB : Hid (∀ t ∈ b, t.length < 140737488355000) := htb
  obtain ⟨ada, cpa, hva⟩ := ha.slice
  obtain ⟨adb, cpb, hvb⟩ := hb.slice
  obtain ⟨n, HN⟩ : ∃ n, Hid (n = a.length) := ⟨_, rfl⟩
  obtain ⟨m, HM⟩ : ∃ n, Hid (n = b.length) := ⟨_, rfl⟩
  rw [← HN.out] at hva
  rw [← HM.out] at hvb
  subst hva hvb
  obtain ⟨z, HZ⟩ : ∃ z, Hid (z = firstZ (firstI a b)) := ⟨_, rfl⟩
  have HLN : Hid (n < 4611686018427387904) := by show _ < _; rw [HN.out]; exact hla
  have HC1 : Hid (Calls Tryd.prog 8 #[.slice ada n cpa, .slice adb m cpb] w fun e w' => ∃ x y o, e = .returned (.tuple #[x, y, .bool o]) ∧ FirstR w' a b x y o ∧ Below w.heap.size w w') := hC.first w _ _ a b hK ha hb hla hta htb
  have HC2 : Hid (∀ W, Below w.heap.size w W → Calls Tryd.prog 9 #[.slice ada n cpa, .slice adb m cpb] W fun e w' => e = .returned (.int .i64 z) ∧ Below W.heap.size W w') := fun W hh => by rw [HZ.out]; exact qFirst_any _ _ a b W (ha.below hh) (hb.below hh) hla hta htb
  have HWK : Hid (∀ W, Below w.heap.size w W → Calls Tryd.prog 13 #[] W fun e w' => e = .returned (.bool true) ∧ Below W.heap.size W w') := fun W hh => works9_any HPO.out HCO.out W (HK0.out.below hh HK0.out.lt)
  clear ha hb hla hta htb hP hC hK
  go_enter Tryd.func3, Tryd.ntmps3
  go_upto_region 3 with (first
    | (go_at_call 8; refine HC1.out.mono ?_; rintro e w1 ⟨vx, vy, o, rfl, hf, hbz⟩
       have HBW : Hid (Below w.heap.size w w1) := hbz
       obtain ⟨s, t, hs, ht, hst⟩ := hf.both
       obtain ⟨ax, nx, cx, hvx⟩ := hs.form
       subst hvx
       obtain ⟨ay, ny, cy, hvy⟩ := ht.form
       subst hvy
       have HRS : Hid (Reads w1 (.slice ax nx cx) s) := hs
       have HRT : Hid (Reads w1 (.slice ay ny cy) t) := ht
       have HST : Hid ((∃ k, o = true ∧ firstI a b = some k ∧ s = a.getD k [] ∧ t = b.getD k [] ∧ pairB9 s t = true) ∨ (o = false ∧ firstI a b = none ∧ s = [] ∧ t = [])) := hst
       clear hbz hf hs ht hst HC1)
    | (go_at_call 9; refine (HC2.out _ HBW.out).mono ?_; rintro e w2 ⟨rfl, hbz⟩
       replace HBW : Hid (Below w.heap.size w w2) := HBW.out.trans (hbz.mono HBW.out.size)
       replace HRS : Hid (Reads w2 (.slice ax nx cx) s) := HRS.out.below hbz
       replace HRT : Hid (Reads w2 (.slice ay ny cy) t) := HRT.out.below hbz
       clear hbz HC2))
  obtain ⟨wt, HWT⟩ : ∃ q, Hid (q = (firstI a b).isSome) := ⟨_, rfl⟩
  have fz : decide ((0 : Int) ≤ z) = wt := by rw [HZ.out, HWT.out]; exact firstZ_nn _
  have HSL : Hid (s.length < 140737488355000 ∧ t.length < 140737488355000) := by
    show _ ∧ _
    rcases HST.out with ⟨k, _, h2, h3, h4, _⟩ | ⟨_, _, h3, h4⟩
    · obtain ⟨h6, h7, _⟩ := firstI_at h2
      rw [h3, h4]
      exact ⟨mem_getD HTA.out h6, mem_getD HTB.out h7⟩
    · rw [h3, h4]; simp only [List.length_nil]; omega
  have HC5 : Hid (∀ W, Below w2.heap.size w2 W → Calls Tryd.prog 10 #[.slice ax nx cx, .slice ay ny cy, .bool o, .bool wt] W fun e w' => e = .returned (.bool true) ∧ Below W.heap.size W w') := fun W hh => by
    have h := right9_any _ _ s t o wt W (HRS.out.below hh) (HRT.out.below hh) HSL.out.1 HSL.out.2
    rw [HWT.out, right9_first HST.out, ← HWT.out] at h
    exact h
  have HCUT : Hid (Below w.heap.size w w2) := HBW.out
  rcases HST.out with ⟨k, ho, hfk, hsk, htk, _⟩ | ⟨ho, hfk, hsk, htk⟩
  · subst ho
    obtain rfl : z = (k : Int) := by rw [HZ.out, hfk]; rfl
    obtain rfl : wt = true := by rw [HWT.out, hfk]; rfl
    obtain ⟨h6, h7, _⟩ := firstI_at hfk
    have h1 : k < n := by rw [HN.out]; exact h6
    have h2 : k < m := by rw [HM.out]; exact h7
    have h1i : (k : Int) < (n : Int) := by omega
    have h2i : (k : Int) < (m : Int) := by omega
    have k0 : (0 : Int) ≤ (k : Int) := by omega
    clear h6 h7 hfk
    have HK1 : Hid (k < a.length ∧ k < b.length) := by show _ ∧ _; rw [← HN.out, ← HM.out]; exact ⟨h1, h2⟩
    obtain ⟨ba, offa, cpa', ua, hva, hca, hra⟩ := HA.out.get (k := k) HK1.out.1
    obtain ⟨bb, offb, cpb', ub, hvb, hcb, hrb⟩ := HB.out.get (k := k) HK1.out.2
    rw [← HN.out] at hva
    rw [← HM.out] at hvb
    simp only [Value.slice.injEq, true_and] at hva hvb
    obtain ⟨hea, -⟩ := hva
    obtain ⟨heb, -⟩ := hvb
    have HEA : Hid (ada = some ⟨ba, offa, none⟩) := hea
    have HEB : Hid (adb = some ⟨bb, offb, none⟩) := heb
    clear hea heb
    have HCA : Hid (∀ wx, Below w.heap.size w wx → wx.cell? ⟨ba, offa + k, none⟩ = some ua) := hca
    have HCB : Hid (∀ wx, Below w.heap.size w wx → wx.cell? ⟨bb, offb + k, none⟩ = some ub) := hcb
    have HRA : Hid (∀ wx, Below w.heap.size w wx → Reads wx ua (a.getD k [])) := hra
    have HRB : Hid (∀ wx, Below w.heap.size w wx → Reads wx ub (b.getD k [])) := hrb
    clear hca hcb hra hrb
    rw [← hsk] at HRA
    rw [← htk] at HRB
    clear hsk htk
    refine wp_region_held_drew (S := Below w2.heap.size w2) (by kernel_rfl) (Below.refl _ _).drew ?_
    intro hS
    change wpAnyH _ _ _ _ _ _ _ _ (World.drew w2)
    generalize World.drew w2 = y0 at *
    refine wpAnyH_take (i := 0) (v := .slice ax nx cx) rfl (by kernel_rfl) (by kernel_rfl) (by kernel_rfl) (fun _ _ _ h => h) (Or.inl ⟨by rfl, fun wx hx => by simp [go_sem]⟩) hS ?_
    simp only [Act.put, List.getElem_toArray, List.getElem_cons_zero, List.setIfInBounds_toArray, List.set_cons_zero, List.set_cons_succ]
    refine wpAnyH_take (i := 1) (v := .slice ay ny cy) rfl (by kernel_rfl) (by kernel_rfl) (by kernel_rfl) (fun _ _ _ h => h) (Or.inl ⟨by rfl, fun wx hx => by simp [go_sem]⟩) hS ?_
    simp only [Act.put, List.getElem_toArray, List.getElem_cons_succ, List.getElem_cons_zero, List.setIfInBounds_toArray, List.set_cons_zero, List.set_cons_succ]
    refine wpAnyH_take (i := 2) (v := .bool true) rfl (by kernel_rfl) (by kernel_rfl) (by kernel_rfl) (fun _ _ _ h => h) (Or.inl ⟨by rfl, fun wx hx => by simp [go_sem]⟩) hS ?_
    simp only [Act.put, List.getElem_toArray, List.getElem_cons_succ, List.getElem_cons_zero, List.setIfInBounds_toArray, List.set_cons_zero, List.set_cons_succ]
    refine wpAnyH_take (i := 3) (v := .int .i64 (k : Int)) rfl (by kernel_rfl) (by kernel_rfl) (by kernel_rfl) (fun _ _ _ h => h) (Or.inl ⟨by rfl, fun wx hx => by simp [go_sem]⟩) hS ?_
    simp only [Act.put, List.getElem_toArray, List.getElem_cons_succ, List.getElem_cons_zero, List.setIfInBounds_toArray, List.set_cons_zero, List.set_cons_succ]
    refine wpAnyH_take (i := 4) (v := .bool true) rfl (by kernel_rfl) (by kernel_rfl) (by kernel_rfl) (fun _ _ _ h => h) (Or.inl ⟨by rfl, fun wx hx => by simp [go_sem]⟩) hS ?_
    simp only [Act.put, List.getElem_toArray, List.getElem_cons_succ, List.getElem_cons_zero, List.setIfInBounds_toArray, List.set_cons_zero, List.set_cons_succ]
    refine wpAnyH_enter 5 (by kernel_rfl) rfl (by rfl) (f := 10) (args := #[.slice ax nx cx, .slice ay ny cy, .bool true, .bool true]) (by simp [go_sem]) (HC5.out _ hS) ?_
    rintro e y1 ⟨rfl, hbq⟩
    replace hS := hS.trans (hbq.mono hS.size)
    refine ⟨_, rfl, hS, ?_⟩
    clear hbq
    simp only [Act.put, List.getElem_toArray, List.getElem_cons_succ, List.getElem_cons_zero, List.setIfInBounds_toArray, List.set_cons_zero, List.set_cons_succ]
    refine wpAnyH_take (i := 6) (v := .bool false) rfl (by kernel_rfl) (by kernel_rfl) (by kernel_rfl) (fun _ _ _ h => h) (Or.inl ⟨by rfl, fun wx hx => by simp [go_sem]⟩) hS ?_
    simp only [Act.put, List.getElem_toArray, List.getElem_cons_succ, List.getElem_cons_zero, List.setIfInBounds_toArray, List.set_cons_zero, List.set_cons_succ]
    refine wpAnyH_take (i := 7) (v := .bool false) rfl (by kernel_rfl) (by kernel_rfl) (by kernel_rfl) (fun _ _ _ h => h) (Or.inl ⟨by rfl, fun wx hx => by simp [go_sem]⟩) hS ?_
    simp only [Act.put, List.getElem_toArray, List.getElem_cons_succ, List.getElem_cons_zero, List.setIfInBounds_toArray, List.set_cons_zero, List.set_cons_succ]
    refine wpAnyH_take (i := 8) (v := .bool true) rfl (by kernel_rfl) (by kernel_rfl) (by kernel_rfl) (fun _ _ _ h => h) (Or.inl ⟨by rfl, fun wx hx => by simp [go_sem]⟩) hS ?_
    simp only [Act.put, List.getElem_toArray, List.getElem_cons_succ, List.getElem_cons_zero, List.setIfInBounds_toArray, List.set_cons_zero, List.set_cons_succ]
    refine wpAnyH_take (i := 9) (v := .bool true) rfl (by kernel_rfl) (by kernel_rfl) (by kernel_rfl) (fun _ _ _ h => h) (Or.inl ⟨by rfl, fun wx hx => by simp [go_sem]⟩) hS ?_
    simp only [Act.put, List.getElem_toArray, List.getElem_cons_succ, List.getElem_cons_zero, List.setIfInBounds_toArray, List.set_cons_zero, List.set_cons_succ]
    refine wpAnyH_take (i := 10) (v := .slice ax nx cx) rfl (by kernel_rfl) (by kernel_rfl) (by kernel_rfl) (fun _ _ _ h => h) (Or.inl ⟨by rfl, fun wx hx => by simp [go_sem]⟩) hS ?_
    simp only [Act.put, List.getElem_toArray, List.getElem_cons_succ, List.getElem_cons_zero, List.setIfInBounds_toArray, List.set_cons_zero, List.set_cons_succ]
    refine wpAnyH_take (i := 11) (v := .string (strB s)) rfl (by kernel_rfl) (by kernel_rfl) (by kernel_rfl) (fun _ _ _ h => h) (Or.inl ⟨by rfl, fun wx hx => by (have hc := conv_reads (HRS.out.below hx); simp [go_sem, hc])⟩) hS ?_
    simp only [Act.put, List.getElem_toArray, List.getElem_cons_succ, List.getElem_cons_zero, List.setIfInBounds_toArray, List.set_cons_zero, List.set_cons_succ]
    refine wpAnyH_take (i := 12) (v := .slice ada n cpa) rfl (by kernel_rfl) (by kernel_rfl) (by kernel_rfl) (fun _ _ _ h => h) (Or.inl ⟨by rfl, fun wx hx => by simp [go_sem]⟩) hS ?_
    simp only [Act.put, List.getElem_toArray, List.getElem_cons_succ, List.getElem_cons_zero, List.setIfInBounds_toArray, List.set_cons_zero, List.set_cons_succ]
    refine wpAnyH_take (i := 13) (v := .int .i64 (k : Int)) rfl (by kernel_rfl) (by kernel_rfl) (by kernel_rfl) (fun _ _ _ h => h) (Or.inl ⟨by rfl, fun wx hx => by simp [go_sem]⟩) hS ?_
    simp only [Act.put, List.getElem_toArray, List.getElem_cons_succ, List.getElem_cons_zero, List.setIfInBounds_toArray, List.set_cons_zero, List.set_cons_succ]
    refine wpAnyH_take (i := 14) (v := .pointer (some ⟨ba, offa + k, none⟩)) rfl (by kernel_rfl) (by kernel_rfl) (by kernel_rfl) (fun _ _ _ h => h) (Or.inl ⟨by rfl, fun wx hx => by simp [go_sem, HEA.out, h1i, k0]⟩) hS ?_
    simp only [Act.put, List.getElem_toArray, List.getElem_cons_succ, List.getElem_cons_zero, List.setIfInBounds_toArray, List.set_cons_zero, List.set_cons_succ]
    refine wpAnyH_take (i := 15) (v := ua) rfl (by kernel_rfl) (by kernel_rfl) (by kernel_rfl) (fun _ _ _ h => h) (Or.inl ⟨by rfl, fun wx hx => by (have hc := HCA.out wx (HCUT.out.trans (hx.mono HCUT.out.size)); simp [go_sem, hc])⟩) hS ?_
    simp only [Act.put, List.getElem_toArray, List.getElem_cons_succ, List.getElem_cons_zero, List.setIfInBounds_toArray, List.set_cons_zero, List.set_cons_succ]
    refine wpAnyH_take (i := 16) (v := .string (strB s)) rfl (by kernel_rfl) (by kernel_rfl) (by kernel_rfl) (fun _ _ _ h => h) (Or.inl ⟨by rfl, fun wx hx => by (have hc := conv_reads (HRA.out wx (HCUT.out.trans (hx.mono HCUT.out.size))); simp [go_sem, hc])⟩) hS ?_
    simp only [Act.put, List.getElem_toArray, List.getElem_cons_succ, List.getElem_cons_zero, List.setIfInBounds_toArray, List.set_cons_zero, List.set_cons_succ]
    refine wpAnyH_take (i := 17) (v := .bool false) rfl (by kernel_rfl) (by kernel_rfl) (by kernel_rfl) (fun _ _ _ h => h) (Or.inl ⟨by rfl, fun wx hx => by simp [go_sem]⟩) hS ?_
    simp only [Act.put, List.getElem_toArray, List.getElem_cons_succ, List.getElem_cons_zero, List.setIfInBounds_toArray, List.set_cons_zero, List.set_cons_succ]
    refine wpAnyH_take (i := 18) (v := .bool false) rfl (by kernel_rfl) (by kernel_rfl) (by kernel_rfl) (fun _ _ _ h => h) (Or.inl ⟨by rfl, fun wx hx => by simp [go_sem]⟩) hS ?_
    simp only [Act.put, List.getElem_toArray, List.getElem_cons_succ, List.getElem_cons_zero, List.setIfInBounds_toArray, List.set_cons_zero, List.set_cons_succ]
    refine wpAnyH_take (i := 19) (v := .slice ay ny cy) rfl (by kernel_rfl) (by kernel_rfl) (by kernel_rfl) (fun _ _ _ h => h) (Or.inl ⟨by rfl, fun wx hx => by simp [go_sem]⟩) hS ?_
    simp only [Act.put, List.getElem_toArray, List.getElem_cons_succ, List.getElem_cons_zero, List.setIfInBounds_toArray, List.set_cons_zero, List.set_cons_succ]
    refine wpAnyH_take (i := 20) (v := .string (strB t)) rfl (by kernel_rfl) (by kernel_rfl) (by kernel_rfl) (fun _ _ _ h => h) (Or.inl ⟨by rfl, fun wx hx => by (have hc := conv_reads (HRT.out.below hx); simp [go_sem, hc])⟩) hS ?_
    simp only [Act.put, List.getElem_toArray, List.getElem_cons_succ, List.getElem_cons_zero, List.setIfInBounds_toArray, List.set_cons_zero, List.set_cons_succ]
    refine wpAnyH_take (i := 21) (v := .slice adb m cpb) rfl (by kernel_rfl) (by kernel_rfl) (by kernel_rfl) (fun _ _ _ h => h) (Or.inl ⟨by rfl, fun wx hx => by simp [go_sem]⟩) hS ?_
    simp only [Act.put, List.getElem_toArray, List.getElem_cons_succ, List.getElem_cons_zero, List.setIfInBounds_toArray, List.set_cons_zero, List.set_cons_succ]
    refine wpAnyH_take (i := 22) (v := .int .i64 (k : Int)) rfl (by kernel_rfl) (by kernel_rfl) (by kernel_rfl) (fun _ _ _ h => h) (Or.inl ⟨by rfl, fun wx hx => by simp [go_sem]⟩) hS ?_
    simp only [Act.put, List.getElem_toArray, List.getElem_cons_succ, List.getElem_cons_zero, List.setIfInBounds_toArray, List.set_cons_zero, List.set_cons_succ]
    refine wpAnyH_take (i := 23) (v := .pointer (some ⟨bb, offb + k, none⟩)) rfl (by kernel_rfl) (by kernel_rfl) (by kernel_rfl) (fun _ _ _ h => h) (Or.inl ⟨by rfl, fun wx hx => by simp [go_sem, HEB.out, h2i, k0]⟩) hS ?_
    simp only [Act.put, List.getElem_toArray, List.getElem_cons_succ, List.getElem_cons_zero, List.setIfInBounds_toArray, List.set_cons_zero, List.set_cons_succ]
    refine wpAnyH_take (i := 24) (v := ub) rfl (by kernel_rfl) (by kernel_rfl) (by kernel_rfl) (fun _ _ _ h => h) (Or.inl ⟨by rfl, fun wx hx => by (have hc := HCB.out wx (HCUT.out.trans (hx.mono HCUT.out.size)); simp [go_sem, hc])⟩) hS ?_
    simp only [Act.put, List.getElem_toArray, List.getElem_cons_succ, List.getElem_cons_zero, List.setIfInBounds_toArray, List.set_cons_zero, List.set_cons_succ]
    refine wpAnyH_take (i := 25) (v := .string (strB t)) rfl (by kernel_rfl) (by kernel_rfl) (by kernel_rfl) (fun _ _ _ h => h) (Or.inl ⟨by rfl, fun wx hx => by (have hc := conv_reads (HRB.out wx (HCUT.out.trans (hx.mono HCUT.out.size))); simp [go_sem, hc])⟩) hS ?_
    simp only [Act.put, List.getElem_toArray, List.getElem_cons_succ, List.getElem_cons_zero, List.setIfInBounds_toArray, List.set_cons_zero, List.set_cons_succ]
    refine wpAnyH_take (i := 26) (v := .bool false) rfl (by kernel_rfl) (by kernel_rfl) (by kernel_rfl) (fun _ _ _ h => h) (Or.inl ⟨by rfl, fun wx hx => by simp [go_sem]⟩) hS ?_
    simp only [Act.put, List.getElem_toArray, List.getElem_cons_succ, List.getElem_cons_zero, List.setIfInBounds_toArray, List.set_cons_zero, List.set_cons_succ]
    refine wpAnyH_take (i := 27) (v := .bool false) rfl (by kernel_rfl) (by kernel_rfl) (by kernel_rfl) (fun _ _ _ h => h) (Or.inl ⟨by rfl, fun wx hx => by simp [go_sem]⟩) hS ?_
    simp only [Act.put, List.getElem_toArray, List.getElem_cons_succ, List.getElem_cons_zero, List.setIfInBounds_toArray, List.set_cons_zero, List.set_cons_succ]
    refine wpAnyH_take (i := 28) (v := .bool false) rfl (by kernel_rfl) (by kernel_rfl) (by kernel_rfl) (fun _ _ _ h => h) (Or.inl ⟨by rfl, fun wx hx => by simp [go_sem]⟩) hS ?_
    simp only [Act.put, List.getElem_toArray, List.getElem_cons_succ, List.getElem_cons_zero, List.setIfInBounds_toArray, List.set_cons_zero, List.set_cons_succ]
    refine wpAnyH_take (i := 29) (v := .bool false) rfl (by kernel_rfl) (by kernel_rfl) (by kernel_rfl) (fun _ _ _ h => h) (Or.inl ⟨by rfl, fun wx hx => by simp [go_sem]⟩) hS ?_
    simp only [Act.put, List.getElem_toArray, List.getElem_cons_succ, List.getElem_cons_zero, List.setIfInBounds_toArray, List.set_cons_zero, List.set_cons_succ]
    refine wpAnyH_done (by kernel_rfl) ?_ _
    have HBW : Hid (Below w.heap.size w y1) := HCUT.out.trans (hS.mono HCUT.out.size)
    clear h1i h2i k0 h1 h2 HCA HCB HRA HRB HK1 HEA HEB hS HC5 HCUT HRS HRT HST HSL fz HWT
    go_wp2
    go_loopw [9] (fun i wr => ∃ k : Nat, k ≤ n ∧ k ≤ m ∧ i = .int .i64 (k : Int) ∧ Below w.heap.size w wr) (fun i _ => n - (intOf i).toNat)
    case atStart => exact ⟨0, by omega, by omega, rfl, HBW.out⟩
    case round =>
      clear HBW
      obtain ⟨k, hkn, hkm, rfl, hS⟩ := hrel
      have HS : Hid (Below w.heap.size w wr) := hS
      clear hS
      by_cases h1 : k < n
      · by_cases h2 : k < m
        · have h1i : (k : Int) < (n : Int) := by omega
          have h2i : (k : Int) < (m : Int) := by omega
          have k0 : (0 : Int) ≤ (k : Int) := by omega
          have HK1 : Hid (k < a.length ∧ k < b.length) := by show _ ∧ _; rw [← HN.out, ← HM.out]; exact ⟨h1, h2⟩
          obtain ⟨ba, offa, cpa', ua, hva, hca, hra⟩ := HA.out.get (k := k) HK1.out.1
          obtain ⟨bb, offb, cpb', ub, hvb, hcb, hrb⟩ := HB.out.get (k := k) HK1.out.2
          rw [← HN.out] at hva
          rw [← HM.out] at hvb
          simp only [Value.slice.injEq, true_and] at hva hvb
          obtain ⟨rfl, rfl⟩ := hva
          obtain ⟨rfl, rfl⟩ := hvb
          have HCA : Hid (∀ wx, Below w.heap.size w wx → wx.cell? ⟨ba, offa + k, none⟩ = some ua) := hca
          have HCB : Hid (∀ wx, Below w.heap.size w wx → wx.cell? ⟨bb, offb + k, none⟩ = some ub) := hcb
          have HRA : Hid (∀ wx, Below w.heap.size w wx → Reads wx ua (a.getD k [])) := hra
          have HRB : Hid (∀ wx, Below w.heap.size w wx → Reads wx ub (b.getD k [])) := hrb
          clear hca hcb hra hrb
          obtain ⟨pb, HPB⟩ : ∃ o, Hid (o = pairB9 (a.getD k []) (b.getD k [])) := ⟨_, rfl⟩
          have HCP : Hid (∀ wx, Below w.heap.size w wx → Calls Tryd.prog 11 #[ua, ub] wx fun e w' => ∃ x y o s t, e = .returned (.tuple #[x, y, .bool o]) ∧ Reads w' x s ∧ Reads w' y t ∧ (s.length < 140737488355000 ∧ t.length < 140737488355000) ∧ right9 s t o pb = true ∧ Below wx.heap.size wx w') := fun wx hx => by
            refine (HCO.out.pair wx ua ub _ _ (HK0.out.below hx HK0.out.lt) (HRA.out wx hx) (HRB.out wx hx) (mem_getD HTA.out HK1.out.1) (mem_getD HTB.out HK1.out.2)).mono fun e w' h => ?_
            obtain ⟨x, y, o, g1, g2, g3⟩ := h
            obtain ⟨s, t, g4, g5, g6⟩ := g2.both
            exact ⟨x, y, o, s, t, g1, g4, g5, pair_len (mem_getD HTA.out HK1.out.1) (mem_getD HTB.out HK1.out.2) g6, by rw [HPB.out]; exact right9_pair g6, g3⟩
          have HCQ : Hid (∀ wx, Below w.heap.size w wx → Calls Tryd.prog 12 #[ua, ub] wx fun e w' => e = .returned (.bool pb) ∧ Below wx.heap.size wx w') := fun wx hx => by rw [HPB.out]; exact qPair_any ua ub _ _ wx (HRA.out wx hx) (HRB.out wx hx) (mem_getD HTA.out HK1.out.1) (mem_getD HTB.out HK1.out.2)
          go_upto_region 8 with fail
          refine wp_region_held_drew (S := Below w.heap.size w) (by kernel_rfl) HS.out.drew ?_
          intro hS
          clear HS
          change wpAnyH _ _ _ _ _ _ _ _ (World.drew wr)
          generalize World.drew wr = y2 at *
          refine wpAnyH_take (i := 0) (v := .slice (some ⟨ba, offa, none⟩) n cpa) rfl (by kernel_rfl) (by kernel_rfl) (by kernel_rfl) (fun _ _ _ h => h) (Or.inl ⟨by rfl, fun wx hx => by simp [go_sem]⟩) hS ?_
          simp only [Act.put, List.getElem_toArray, List.getElem_cons_zero, List.setIfInBounds_toArray, List.set_cons_zero, List.set_cons_succ]
          refine wpAnyH_take (i := 1) (v := .int .i64 (k : Int)) rfl (by kernel_rfl) (by kernel_rfl) (by kernel_rfl) (fun _ _ _ h => h) (Or.inl ⟨by rfl, fun wx hx => by simp [go_sem]⟩) hS ?_
          simp only [Act.put, List.getElem_toArray, List.getElem_cons_succ, List.getElem_cons_zero, List.setIfInBounds_toArray, List.set_cons_zero, List.set_cons_succ]
          refine wpAnyH_take (i := 2) (v := .pointer (some ⟨ba, offa + k, none⟩)) rfl (by kernel_rfl) (by kernel_rfl) (by kernel_rfl) (fun _ _ _ h => h) (Or.inl ⟨by rfl, fun wx hx => by simp [go_sem, h1i, k0]⟩) hS ?_
          simp only [Act.put, List.getElem_toArray, List.getElem_cons_succ, List.getElem_cons_zero, List.setIfInBounds_toArray, List.set_cons_zero, List.set_cons_succ]
          refine wpAnyH_take (i := 3) (v := ua) rfl (by kernel_rfl) (by kernel_rfl) (by kernel_rfl) (fun _ _ _ h => h) (Or.inl ⟨by rfl, fun wx hx => by (have hc := HCA.out wx hx; simp [go_sem, hc])⟩) hS ?_
          simp only [Act.put, List.getElem_toArray, List.getElem_cons_succ, List.getElem_cons_zero, List.setIfInBounds_toArray, List.set_cons_zero, List.set_cons_succ]
          refine wpAnyH_take (i := 4) (v := .slice (some ⟨bb, offb, none⟩) m cpb) rfl (by kernel_rfl) (by kernel_rfl) (by kernel_rfl) (fun _ _ _ h => h) (Or.inl ⟨by rfl, fun wx hx => by simp [go_sem]⟩) hS ?_
          simp only [Act.put, List.getElem_toArray, List.getElem_cons_succ, List.getElem_cons_zero, List.setIfInBounds_toArray, List.set_cons_zero, List.set_cons_succ]
          refine wpAnyH_take (i := 5) (v := .int .i64 (k : Int)) rfl (by kernel_rfl) (by kernel_rfl) (by kernel_rfl) (fun _ _ _ h => h) (Or.inl ⟨by rfl, fun wx hx => by simp [go_sem]⟩) hS ?_
          simp only [Act.put, List.getElem_toArray, List.getElem_cons_succ, List.getElem_cons_zero, List.setIfInBounds_toArray, List.set_cons_zero, List.set_cons_succ]
          refine wpAnyH_take (i := 6) (v := .pointer (some ⟨bb, offb + k, none⟩)) rfl (by kernel_rfl) (by kernel_rfl) (by kernel_rfl) (fun _ _ _ h => h) (Or.inl ⟨by rfl, fun wx hx => by simp [go_sem, h2i, k0]⟩) hS ?_
          simp only [Act.put, List.getElem_toArray, List.getElem_cons_succ, List.getElem_cons_zero, List.setIfInBounds_toArray, List.set_cons_zero, List.set_cons_succ]
          refine wpAnyH_take (i := 7) (v := ub) rfl (by kernel_rfl) (by kernel_rfl) (by kernel_rfl) (fun _ _ _ h => h) (Or.inl ⟨by rfl, fun wx hx => by (have hc := HCB.out wx hx; simp [go_sem, hc])⟩) hS ?_
          simp only [Act.put, List.getElem_toArray, List.getElem_cons_succ, List.getElem_cons_zero, List.setIfInBounds_toArray, List.set_cons_zero, List.set_cons_succ]
          refine wpAnyH_enter 8 (by kernel_rfl) rfl (by rfl) (f := 11) (args := #[ua, ub]) (by simp [go_sem]) (HCP.out _ hS) ?_
          rintro e y3 ⟨vx, vy, o, s, t, rfl, hs, ht, hst, hrt, hbq⟩
          obtain ⟨ax, nx, cx, hvx⟩ := hs.form
          subst hvx
          obtain ⟨ay, ny, cy, hvy⟩ := ht.form
          subst hvy
          replace hS := hS.trans (hbq.mono hS.size)
          refine ⟨_, rfl, hS, ?_⟩
          clear hbq
          simp only [Act.put, List.getElem_toArray, List.getElem_cons_succ, List.getElem_cons_zero, List.setIfInBounds_toArray, List.set_cons_zero, List.set_cons_succ]
          refine wpAnyH_take (i := 9) (v := .tuple #[.slice ax nx cx, .slice ay ny cy, .bool o]) rfl (by kernel_rfl) (by kernel_rfl) (by kernel_rfl) (fun _ _ _ h => h) (Or.inl ⟨by rfl, fun wx hx => by simp [go_sem]⟩) hS ?_
          simp only [Act.put, List.getElem_toArray, List.getElem_cons_succ, List.getElem_cons_zero, List.setIfInBounds_toArray, List.set_cons_zero, List.set_cons_succ]
          refine wpAnyH_take (i := 10) (v := .slice ax nx cx) rfl (by kernel_rfl) (by kernel_rfl) (by kernel_rfl) (fun _ _ _ h => h) (Or.inl ⟨by rfl, fun wx hx => by simp [go_sem]⟩) hS ?_
          simp only [Act.put, List.getElem_toArray, List.getElem_cons_succ, List.getElem_cons_zero, List.setIfInBounds_toArray, List.set_cons_zero, List.set_cons_succ]
          refine wpAnyH_take (i := 11) (v := .slice ay ny cy) rfl (by kernel_rfl) (by kernel_rfl) (by kernel_rfl) (fun _ _ _ h => h) (Or.inl ⟨by rfl, fun wx hx => by simp [go_sem]⟩) hS ?_
          simp only [Act.put, List.getElem_toArray, List.getElem_cons_succ, List.getElem_cons_zero, List.setIfInBounds_toArray, List.set_cons_zero, List.set_cons_succ]
          refine wpAnyH_take (i := 12) (v := .bool o) rfl (by kernel_rfl) (by kernel_rfl) (by kernel_rfl) (fun _ _ _ h => h) (Or.inl ⟨by rfl, fun wx hx => by simp [go_sem]⟩) hS ?_
          simp only [Act.put, List.getElem_toArray, List.getElem_cons_succ, List.getElem_cons_zero, List.setIfInBounds_toArray, List.set_cons_zero, List.set_cons_succ]
          refine wpAnyH_take (i := 13) (v := .slice ax nx cx) rfl (by kernel_rfl) (by kernel_rfl) (by kernel_rfl) (fun _ _ _ h => h) (Or.inl ⟨by rfl, fun wx hx => by simp [go_sem]⟩) hS ?_
          simp only [Act.put, List.getElem_toArray, List.getElem_cons_succ, List.getElem_cons_zero, List.setIfInBounds_toArray, List.set_cons_zero, List.set_cons_succ]
          refine wpAnyH_take (i := 14) (v := .slice ay ny cy) rfl (by kernel_rfl) (by kernel_rfl) (by kernel_rfl) (fun _ _ _ h => h) (Or.inl ⟨by rfl, fun wx hx => by simp [go_sem]⟩) hS ?_
          simp only [Act.put, List.getElem_toArray, List.getElem_cons_succ, List.getElem_cons_zero, List.setIfInBounds_toArray, List.set_cons_zero, List.set_cons_succ]
          refine wpAnyH_take (i := 15) (v := .bool o) rfl (by kernel_rfl) (by kernel_rfl) (by kernel_rfl) (fun _ _ _ h => h) (Or.inl ⟨by rfl, fun wx hx => by simp [go_sem]⟩) hS ?_
          simp only [Act.put, List.getElem_toArray, List.getElem_cons_succ, List.getElem_cons_zero, List.setIfInBounds_toArray, List.set_cons_zero, List.set_cons_succ]
          refine wpAnyH_done (by kernel_rfl) ?_ _
          have HBQ : Hid (Below w.heap.size w y3) := hS
          have HC5 : Hid (∀ W, Below y3.heap.size y3 W → Calls Tryd.prog 10 #[.slice ax nx cx, .slice ay ny cy, .bool o, .bool pb] W fun e w' => e = .returned (.bool true) ∧ Below W.heap.size W w') := fun W hh => by
            have h := right9_any _ _ s t o pb W (hs.below hh) (ht.below hh) hst.1 hst.2
            rw [hrt] at h
            exact h
          clear hS hs ht hst hrt HCP
          go_upto_region 9 with fail
          refine wp_region_held_drew (S := Below y3.heap.size y3) (by kernel_rfl) (Below.refl _ _).drew ?_
          intro hS
          change wpAnyH _ _ _ _ _ _ _ _ (World.drew y3)
          generalize World.drew y3 = z0 at *
          refine wpAnyH_take (i := 0) (v := .slice ax nx cx) rfl (by kernel_rfl) (by kernel_rfl) (by kernel_rfl) (fun _ _ _ h => h) (Or.inl ⟨by rfl, fun wx hx => by simp [go_sem]⟩) hS ?_
          simp only [Act.put, List.getElem_toArray, List.getElem_cons_zero, List.setIfInBounds_toArray, List.set_cons_zero, List.set_cons_succ]
          refine wpAnyH_take (i := 1) (v := .slice ay ny cy) rfl (by kernel_rfl) (by kernel_rfl) (by kernel_rfl) (fun _ _ _ h => h) (Or.inl ⟨by rfl, fun wx hx => by simp [go_sem]⟩) hS ?_
          simp only [Act.put, List.getElem_toArray, List.getElem_cons_succ, List.getElem_cons_zero, List.setIfInBounds_toArray, List.set_cons_zero, List.set_cons_succ]
          refine wpAnyH_take (i := 2) (v := .bool o) rfl (by kernel_rfl) (by kernel_rfl) (by kernel_rfl) (fun _ _ _ h => h) (Or.inl ⟨by rfl, fun wx hx => by simp [go_sem]⟩) hS ?_
          simp only [Act.put, List.getElem_toArray, List.getElem_cons_succ, List.getElem_cons_zero, List.setIfInBounds_toArray, List.set_cons_zero, List.set_cons_succ]
          refine wpAnyH_take (i := 3) (v := .slice (some ⟨ba, offa, none⟩) n cpa) rfl (by kernel_rfl) (by kernel_rfl) (by kernel_rfl) (fun _ _ _ h => h) (Or.inl ⟨by rfl, fun wx hx => by simp [go_sem]⟩) hS ?_
          simp only [Act.put, List.getElem_toArray, List.getElem_cons_succ, List.getElem_cons_zero, List.setIfInBounds_toArray, List.set_cons_zero, List.set_cons_succ]
          refine wpAnyH_take (i := 4) (v := .int .i64 (k : Int)) rfl (by kernel_rfl) (by kernel_rfl) (by kernel_rfl) (fun _ _ _ h => h) (Or.inl ⟨by rfl, fun wx hx => by simp [go_sem]⟩) hS ?_
          simp only [Act.put, List.getElem_toArray, List.getElem_cons_succ, List.getElem_cons_zero, List.setIfInBounds_toArray, List.set_cons_zero, List.set_cons_succ]
          refine wpAnyH_take (i := 5) (v := .pointer (some ⟨ba, offa + k, none⟩)) rfl (by kernel_rfl) (by kernel_rfl) (by kernel_rfl) (fun _ _ _ h => h) (Or.inl ⟨by rfl, fun wx hx => by simp [go_sem, h1i, k0]⟩) hS ?_
          simp only [Act.put, List.getElem_toArray, List.getElem_cons_succ, List.getElem_cons_zero, List.setIfInBounds_toArray, List.set_cons_zero, List.set_cons_succ]
          refine wpAnyH_take (i := 6) (v := ua) rfl (by kernel_rfl) (by kernel_rfl) (by kernel_rfl) (fun _ _ _ h => h) (Or.inl ⟨by rfl, fun wx hx => by (have hc := HCA.out wx (HBQ.out.trans (hx.mono HBQ.out.size)); simp [go_sem, hc])⟩) hS ?_
          simp only [Act.put, List.getElem_toArray, List.getElem_cons_succ, List.getElem_cons_zero, List.setIfInBounds_toArray, List.set_cons_zero, List.set_cons_succ]
          refine wpAnyH_take (i := 7) (v := .slice (some ⟨bb, offb, none⟩) m cpb) rfl (by kernel_rfl) (by kernel_rfl) (by kernel_rfl) (fun _ _ _ h => h) (Or.inl ⟨by rfl, fun wx hx => by simp [go_sem]⟩) hS ?_
          simp only [Act.put, List.getElem_toArray, List.getElem_cons_succ, List.getElem_cons_zero, List.setIfInBounds_toArray, List.set_cons_zero, List.set_cons_succ]
          refine wpAnyH_take (i := 8) (v := .int .i64 (k : Int)) rfl (by kernel_rfl) (by kernel_rfl) (by kernel_rfl) (fun _ _ _ h => h) (Or.inl ⟨by rfl, fun wx hx => by simp [go_sem]⟩) hS ?_
          simp only [Act.put, List.getElem_toArray, List.getElem_cons_succ, List.getElem_cons_zero, List.setIfInBounds_toArray, List.set_cons_zero, List.set_cons_succ]
          refine wpAnyH_take (i := 9) (v := .pointer (some ⟨bb, offb + k, none⟩)) rfl (by kernel_rfl) (by kernel_rfl) (by kernel_rfl) (fun _ _ _ h => h) (Or.inl ⟨by rfl, fun wx hx => by simp [go_sem, h2i, k0]⟩) hS ?_
          simp only [Act.put, List.getElem_toArray, List.getElem_cons_succ, List.getElem_cons_zero, List.setIfInBounds_toArray, List.set_cons_zero, List.set_cons_succ]
          refine wpAnyH_take (i := 10) (v := ub) rfl (by kernel_rfl) (by kernel_rfl) (by kernel_rfl) (fun _ _ _ h => h) (Or.inl ⟨by rfl, fun wx hx => by (have hc := HCB.out wx (HBQ.out.trans (hx.mono HBQ.out.size)); simp [go_sem, hc])⟩) hS ?_
          simp only [Act.put, List.getElem_toArray, List.getElem_cons_succ, List.getElem_cons_zero, List.setIfInBounds_toArray, List.set_cons_zero, List.set_cons_succ]
          refine wpAnyH_enter 11 (by kernel_rfl) rfl (by rfl) (f := 12) (args := #[ua, ub]) (by simp [go_sem]) (HCQ.out _ (HBQ.out.trans (hS.mono HBQ.out.size))) ?_
          rintro e z1 ⟨rfl, hbq⟩
          replace hS := hS.trans (hbq.mono hS.size)
          refine ⟨_, rfl, hS, ?_⟩
          clear hbq
          simp only [Act.put, List.getElem_toArray, List.getElem_cons_succ, List.getElem_cons_zero, List.setIfInBounds_toArray, List.set_cons_zero, List.set_cons_succ]
          refine wpAnyH_enter 12 (by kernel_rfl) rfl (by rfl) (f := 10) (args := #[.slice ax nx cx, .slice ay ny cy, .bool o, .bool pb]) (by simp [go_sem]) (HC5.out _ hS) ?_
          rintro e z2 ⟨rfl, hbq⟩
          replace hS := hS.trans (hbq.mono hS.size)
          refine ⟨_, rfl, hS, ?_⟩
          clear hbq
          simp only [Act.put, List.getElem_toArray, List.getElem_cons_succ, List.getElem_cons_zero, List.setIfInBounds_toArray, List.set_cons_zero, List.set_cons_succ]
          refine wpAnyH_take (i := 13) (v := .bool false) rfl (by kernel_rfl) (by kernel_rfl) (by kernel_rfl) (fun _ _ _ h => h) (Or.inl ⟨by rfl, fun wx hx => by simp [go_sem]⟩) hS ?_
          simp only [Act.put, List.getElem_toArray, List.getElem_cons_succ, List.getElem_cons_zero, List.setIfInBounds_toArray, List.set_cons_zero, List.set_cons_succ]
          refine wpAnyH_done (by kernel_rfl) ?_ _
          have HBW : Hid (Below w.heap.size w z2) := HBQ.out.trans (hS.mono HBQ.out.size)
          have f5 : IntKind.i64.wrap ((k : Int) + 1) = (k : Int) + 1 := by rw [IntKind.wrap_i64]; have := HLN.out; omega
          clear hS HBQ HC5
          go_wp2
          go_roundw
          case rel => exact ⟨k + 1, by omega, by omega, by simp, HBW.out⟩
          case measure => simp [intOf]; omega
        · have h1i : (k : Int) < (n : Int) := by omega
          have h2i : ¬ ((k : Int) < (m : Int)) := by omega
          go_wp2_with (first
            | (go_at_call 13; refine (HWK.out _ HS.out).mono ?_; rintro e wz ⟨rfl, hbz⟩
               replace HS : Hid (Below w.heap.size w wz) := HS.out.trans (hbz.mono HS.out.size)
               clear hbz))
          go_ret
          exact ⟨rfl, HS.out⟩
      · have h1i : ¬ ((k : Int) < (n : Int)) := by omega
        go_wp2_with (first
          | (go_at_call 13; refine (HWK.out _ HS.out).mono ?_; rintro e wz ⟨rfl, hbz⟩
             replace HS : Hid (Below w.heap.size w wz) := HS.out.trans (hbz.mono HS.out.size)
             clear hbz))
        go_ret
        exact ⟨rfl, HS.out⟩
  · subst ho
    clear hfk hsk htk
    refine wp_region_held_drew (S := Below w2.heap.size w2) (by kernel_rfl) (Below.refl _ _).drew ?_
    intro hS
    change wpAnyH _ _ _ _ _ _ _ _ (World.drew w2)
    generalize World.drew w2 = y0 at *
    refine wpAnyH_take (i := 0) (v := .slice ax nx cx) rfl (by kernel_rfl) (by kernel_rfl) (by kernel_rfl) (fun _ _ _ h => h) (Or.inl ⟨by rfl, fun wx hx => by simp [go_sem]⟩) hS ?_
    simp only [Act.put, List.getElem_toArray, List.getElem_cons_zero, List.setIfInBounds_toArray, List.set_cons_zero, List.set_cons_succ]
    refine wpAnyH_take (i := 1) (v := .slice ay ny cy) rfl (by kernel_rfl) (by kernel_rfl) (by kernel_rfl) (fun _ _ _ h => h) (Or.inl ⟨by rfl, fun wx hx => by simp [go_sem]⟩) hS ?_
    simp only [Act.put, List.getElem_toArray, List.getElem_cons_succ, List.getElem_cons_zero, List.setIfInBounds_toArray, List.set_cons_zero, List.set_cons_succ]
    refine wpAnyH_take (i := 2) (v := .bool false) rfl (by kernel_rfl) (by kernel_rfl) (by kernel_rfl) (fun _ _ _ h => h) (Or.inl ⟨by rfl, fun wx hx => by simp [go_sem]⟩) hS ?_
    simp only [Act.put, List.getElem_toArray, List.getElem_cons_succ, List.getElem_cons_zero, List.setIfInBounds_toArray, List.set_cons_zero, List.set_cons_succ]
    refine wpAnyH_take (i := 3) (v := .int .i64 z) rfl (by kernel_rfl) (by kernel_rfl) (by kernel_rfl) (fun _ _ _ h => h) (Or.inl ⟨by rfl, fun wx hx => by simp [go_sem]⟩) hS ?_
    simp only [Act.put, List.getElem_toArray, List.getElem_cons_succ, List.getElem_cons_zero, List.setIfInBounds_toArray, List.set_cons_zero, List.set_cons_succ]
    refine wpAnyH_take (i := 4) (v := .bool wt) rfl (by kernel_rfl) (by kernel_rfl) (by kernel_rfl) (fun _ _ _ h => h) (Or.inl ⟨by rfl, fun wx hx => by simp [go_sem, fz]⟩) hS ?_
    simp only [Act.put, List.getElem_toArray, List.getElem_cons_succ, List.getElem_cons_zero, List.setIfInBounds_toArray, List.set_cons_zero, List.set_cons_succ]
    refine wpAnyH_enter 5 (by kernel_rfl) rfl (by rfl) (f := 10) (args := #[.slice ax nx cx, .slice ay ny cy, .bool false, .bool wt]) (by simp [go_sem]) (HC5.out _ hS) ?_
    rintro e y1 ⟨rfl, hbq⟩
    replace hS := hS.trans (hbq.mono hS.size)
    refine ⟨_, rfl, hS, ?_⟩
    clear hbq
    simp only [Act.put, List.getElem_toArray, List.getElem_cons_succ, List.getElem_cons_zero, List.setIfInBounds_toArray, List.set_cons_zero, List.set_cons_succ]
    refine wpAnyH_take (i := 6) (v := .bool false) rfl (by kernel_rfl) (by kernel_rfl) (by kernel_rfl) (fun _ _ _ h => h) (Or.inl ⟨by rfl, fun wx hx => by simp [go_sem]⟩) hS ?_
    simp only [Act.put, List.getElem_toArray, List.getElem_cons_succ, List.getElem_cons_zero, List.setIfInBounds_toArray, List.set_cons_zero, List.set_cons_succ]
    refine wpAnyH_take (i := 7) (v := .bool false) rfl (by kernel_rfl) (by kernel_rfl) (by kernel_rfl) (fun _ _ _ h => h) (Or.inl ⟨by rfl, fun wx hx => by simp [go_sem]⟩) hS ?_
    simp only [Act.put, List.getElem_toArray, List.getElem_cons_succ, List.getElem_cons_zero, List.setIfInBounds_toArray, List.set_cons_zero, List.set_cons_succ]
    refine wpAnyH_take (i := 8) (v := .bool false) rfl (by kernel_rfl) (by kernel_rfl) (by kernel_rfl) (fun _ _ _ h => h) (Or.inl ⟨by rfl, fun wx hx => by simp [go_sem]⟩) hS ?_
    simp only [Act.put, List.getElem_toArray, List.getElem_cons_succ, List.getElem_cons_zero, List.setIfInBounds_toArray, List.set_cons_zero, List.set_cons_succ]
    refine wpAnyH_take (i := 9) (v := .bool false) rfl (by kernel_rfl) (by kernel_rfl) (by kernel_rfl) (fun _ _ _ h => h) (Or.inl ⟨by rfl, fun wx hx => by simp [go_sem]⟩) hS ?_
    simp only [Act.put, List.getElem_toArray, List.getElem_cons_succ, List.getElem_cons_zero, List.setIfInBounds_toArray, List.set_cons_zero, List.set_cons_succ]
    refine wpAnyH_take (i := 10) (v := undef) rfl (by kernel_rfl) (by kernel_rfl) (by kernel_rfl) (fun _ _ _ h => h) (Or.inr ⟨by rfl, rfl⟩) hS ?_
    simp only [Act.put, List.getElem_toArray, List.getElem_cons_succ, List.getElem_cons_zero, List.setIfInBounds_toArray, List.set_cons_zero, List.set_cons_succ]
    refine wpAnyH_take (i := 11) (v := undef) rfl (by kernel_rfl) (by kernel_rfl) (by kernel_rfl) (fun _ _ _ h => h) (Or.inr ⟨by rfl, rfl⟩) hS ?_
    simp only [Act.put, List.getElem_toArray, List.getElem_cons_succ, List.getElem_cons_zero, List.setIfInBounds_toArray, List.set_cons_zero, List.set_cons_succ]
    refine wpAnyH_take (i := 12) (v := undef) rfl (by kernel_rfl) (by kernel_rfl) (by kernel_rfl) (fun _ _ _ h => h) (Or.inr ⟨by rfl, rfl⟩) hS ?_
    simp only [Act.put, List.getElem_toArray, List.getElem_cons_succ, List.getElem_cons_zero, List.setIfInBounds_toArray, List.set_cons_zero, List.set_cons_succ]
    refine wpAnyH_take (i := 13) (v := undef) rfl (by kernel_rfl) (by kernel_rfl) (by kernel_rfl) (fun _ _ _ h => h) (Or.inr ⟨by rfl, rfl⟩) hS ?_
    simp only [Act.put, List.getElem_toArray, List.getElem_cons_succ, List.getElem_cons_zero, List.setIfInBounds_toArray, List.set_cons_zero, List.set_cons_succ]
    refine wpAnyH_take (i := 14) (v := undef) rfl (by kernel_rfl) (by kernel_rfl) (by kernel_rfl) (fun _ _ _ h => h) (Or.inr ⟨by rfl, rfl⟩) hS ?_
    simp only [Act.put, List.getElem_toArray, List.getElem_cons_succ, List.getElem_cons_zero, List.setIfInBounds_toArray, List.set_cons_zero, List.set_cons_succ]
    refine wpAnyH_take (i := 15) (v := undef) rfl (by kernel_rfl) (by kernel_rfl) (by kernel_rfl) (fun _ _ _ h => h) (Or.inr ⟨by rfl, rfl⟩) hS ?_
    simp only [Act.put, List.getElem_toArray, List.getElem_cons_succ, List.getElem_cons_zero, List.setIfInBounds_toArray, List.set_cons_zero, List.set_cons_succ]
    refine wpAnyH_take (i := 16) (v := undef) rfl (by kernel_rfl) (by kernel_rfl) (by kernel_rfl) (fun _ _ _ h => h) (Or.inr ⟨by rfl, rfl⟩) hS ?_
    simp only [Act.put, List.getElem_toArray, List.getElem_cons_succ, List.getElem_cons_zero, List.setIfInBounds_toArray, List.set_cons_zero, List.set_cons_succ]
    refine wpAnyH_take (i := 17) (v := undef) rfl (by kernel_rfl) (by kernel_rfl) (by kernel_rfl) (fun _ _ _ h => h) (Or.inr ⟨by rfl, rfl⟩) hS ?_
    simp only [Act.put, List.getElem_toArray, List.getElem_cons_succ, List.getElem_cons_zero, List.setIfInBounds_toArray, List.set_cons_zero, List.set_cons_succ]
    refine wpAnyH_take (i := 18) (v := undef) rfl (by kernel_rfl) (by kernel_rfl) (by kernel_rfl) (fun _ _ _ h => h) (Or.inr ⟨by rfl, rfl⟩) hS ?_
    simp only [Act.put, List.getElem_toArray, List.getElem_cons_succ, List.getElem_cons_zero, List.setIfInBounds_toArray, List.set_cons_zero, List.set_cons_succ]
    refine wpAnyH_take (i := 19) (v := undef) rfl (by kernel_rfl) (by kernel_rfl) (by kernel_rfl) (fun _ _ _ h => h) (Or.inr ⟨by rfl, rfl⟩) hS ?_
    simp only [Act.put, List.getElem_toArray, List.getElem_cons_succ, List.getElem_cons_zero, List.setIfInBounds_toArray, List.set_cons_zero, List.set_cons_succ]
    refine wpAnyH_take (i := 20) (v := undef) rfl (by kernel_rfl) (by kernel_rfl) (by kernel_rfl) (fun _ _ _ h => h) (Or.inr ⟨by rfl, rfl⟩) hS ?_
    simp only [Act.put, List.getElem_toArray, List.getElem_cons_succ, List.getElem_cons_zero, List.setIfInBounds_toArray, List.set_cons_zero, List.set_cons_succ]
    refine wpAnyH_take (i := 21) (v := undef) rfl (by kernel_rfl) (by kernel_rfl) (by kernel_rfl) (fun _ _ _ h => h) (Or.inr ⟨by rfl, rfl⟩) hS ?_
    simp only [Act.put, List.getElem_toArray, List.getElem_cons_succ, List.getElem_cons_zero, List.setIfInBounds_toArray, List.set_cons_zero, List.set_cons_succ]
    refine wpAnyH_take (i := 22) (v := undef) rfl (by kernel_rfl) (by kernel_rfl) (by kernel_rfl) (fun _ _ _ h => h) (Or.inr ⟨by rfl, rfl⟩) hS ?_
    simp only [Act.put, List.getElem_toArray, List.getElem_cons_succ, List.getElem_cons_zero, List.setIfInBounds_toArray, List.set_cons_zero, List.set_cons_succ]
    refine wpAnyH_take (i := 23) (v := undef) rfl (by kernel_rfl) (by kernel_rfl) (by kernel_rfl) (fun _ _ _ h => h) (Or.inr ⟨by rfl, rfl⟩) hS ?_
    simp only [Act.put, List.getElem_toArray, List.getElem_cons_succ, List.getElem_cons_zero, List.setIfInBounds_toArray, List.set_cons_zero, List.set_cons_succ]
    refine wpAnyH_take (i := 24) (v := undef) rfl (by kernel_rfl) (by kernel_rfl) (by kernel_rfl) (fun _ _ _ h => h) (Or.inr ⟨by rfl, rfl⟩) hS ?_
    simp only [Act.put, List.getElem_toArray, List.getElem_cons_succ, List.getElem_cons_zero, List.setIfInBounds_toArray, List.set_cons_zero, List.set_cons_succ]
    refine wpAnyH_take (i := 25) (v := undef) rfl (by kernel_rfl) (by kernel_rfl) (by kernel_rfl) (fun _ _ _ h => h) (Or.inr ⟨by rfl, rfl⟩) hS ?_
    simp only [Act.put, List.getElem_toArray, List.getElem_cons_succ, List.getElem_cons_zero, List.setIfInBounds_toArray, List.set_cons_zero, List.set_cons_succ]
    refine wpAnyH_take (i := 26) (v := undef) rfl (by kernel_rfl) (by kernel_rfl) (by kernel_rfl) (fun _ _ _ h => h) (Or.inr ⟨by rfl, rfl⟩) hS ?_
    simp only [Act.put, List.getElem_toArray, List.getElem_cons_succ, List.getElem_cons_zero, List.setIfInBounds_toArray, List.set_cons_zero, List.set_cons_succ]
    refine wpAnyH_take (i := 27) (v := undef) rfl (by kernel_rfl) (by kernel_rfl) (by kernel_rfl) (fun _ _ _ h => h) (Or.inr ⟨by rfl, rfl⟩) hS ?_
    simp only [Act.put, List.getElem_toArray, List.getElem_cons_succ, List.getElem_cons_zero, List.setIfInBounds_toArray, List.set_cons_zero, List.set_cons_succ]
    refine wpAnyH_take (i := 28) (v := .bool false) rfl (by kernel_rfl) (by kernel_rfl) (by kernel_rfl) (fun _ _ _ h => h) (Or.inl ⟨by rfl, fun wx hx => by simp [go_sem]⟩) hS ?_
    simp only [Act.put, List.getElem_toArray, List.getElem_cons_succ, List.getElem_cons_zero, List.setIfInBounds_toArray, List.set_cons_zero, List.set_cons_succ]
    refine wpAnyH_take (i := 29) (v := .bool false) rfl (by kernel_rfl) (by kernel_rfl) (by kernel_rfl) (fun _ _ _ h => h) (Or.inl ⟨by rfl, fun wx hx => by simp [go_sem]⟩) hS ?_
    simp only [Act.put, List.getElem_toArray, List.getElem_cons_succ, List.getElem_cons_zero, List.setIfInBounds_toArray, List.set_cons_zero, List.set_cons_succ]
    refine wpAnyH_done (by kernel_rfl) ?_ _
    have HBW : Hid (Below w.heap.size w y1) := HCUT.out.trans (hS.mono HCUT.out.size)
    clear hS HC5 HCUT HRS HRT HST HSL fz HWT
    go_wp2
    go_loopw [9] (fun i wr => ∃ k : Nat, k ≤ n ∧ k ≤ m ∧ i = .int .i64 (k : Int) ∧ Below w.heap.size w wr) (fun i _ => n - (intOf i).toNat)
    case atStart => exact ⟨0, by omega, by omega, rfl, HBW.out⟩
    case round =>
      clear HBW
      obtain ⟨k, hkn, hkm, rfl, hS⟩ := hrel
      have HS : Hid (Below w.heap.size w wr) := hS
      clear hS
      by_cases h1 : k < n
      · by_cases h2 : k < m
        · have h1i : (k : Int) < (n : Int) := by omega
          have h2i : (k : Int) < (m : Int) := by omega
          have k0 : (0 : Int) ≤ (k : Int) := by omega
          have HK1 : Hid (k < a.length ∧ k < b.length) := by show _ ∧ _; rw [← HN.out, ← HM.out]; exact ⟨h1, h2⟩
          obtain ⟨ba, offa, cpa', ua, hva, hca, hra⟩ := HA.out.get (k := k) HK1.out.1
          obtain ⟨bb, offb, cpb', ub, hvb, hcb, hrb⟩ := HB.out.get (k := k) HK1.out.2
          rw [← HN.out] at hva
          rw [← HM.out] at hvb
          simp only [Value.slice.injEq, true_and] at hva hvb
          obtain ⟨rfl, rfl⟩ := hva
          obtain ⟨rfl, rfl⟩ := hvb
          have HCA : Hid (∀ wx, Below w.heap.size w wx → wx.cell? ⟨ba, offa + k, none⟩ = some ua) := hca
          have HCB : Hid (∀ wx, Below w.heap.size w wx → wx.cell? ⟨bb, offb + k, none⟩ = some ub) := hcb
          have HRA : Hid (∀ wx, Below w.heap.size w wx → Reads wx ua (a.getD k [])) := hra
          have HRB : Hid (∀ wx, Below w.heap.size w wx → Reads wx ub (b.getD k [])) := hrb
          clear hca hcb hra hrb
          obtain ⟨pb, HPB⟩ : ∃ o, Hid (o = pairB9 (a.getD k []) (b.getD k [])) := ⟨_, rfl⟩
          have HCP : Hid (∀ wx, Below w.heap.size w wx → Calls Tryd.prog 11 #[ua, ub] wx fun e w' => ∃ x y o s t, e = .returned (.tuple #[x, y, .bool o]) ∧ Reads w' x s ∧ Reads w' y t ∧ (s.length < 140737488355000 ∧ t.length < 140737488355000) ∧ right9 s t o pb = true ∧ Below wx.heap.size wx w') := fun wx hx => by
            refine (HCO.out.pair wx ua ub _ _ (HK0.out.below hx HK0.out.lt) (HRA.out wx hx) (HRB.out wx hx) (mem_getD HTA.out HK1.out.1) (mem_getD HTB.out HK1.out.2)).mono fun e w' h => ?_
            obtain ⟨x, y, o, g1, g2, g3⟩ := h
            obtain ⟨s, t, g4, g5, g6⟩ := g2.both
            exact ⟨x, y, o, s, t, g1, g4, g5, pair_len (mem_getD HTA.out HK1.out.1) (mem_getD HTB.out HK1.out.2) g6, by rw [HPB.out]; exact right9_pair g6, g3⟩
          have HCQ : Hid (∀ wx, Below w.heap.size w wx → Calls Tryd.prog 12 #[ua, ub] wx fun e w' => e = .returned (.bool pb) ∧ Below wx.heap.size wx w') := fun wx hx => by rw [HPB.out]; exact qPair_any ua ub _ _ wx (HRA.out wx hx) (HRB.out wx hx) (mem_getD HTA.out HK1.out.1) (mem_getD HTB.out HK1.out.2)
          go_upto_region 8 with fail
          refine wp_region_held_drew (S := Below w.heap.size w) (by kernel_rfl) HS.out.drew ?_
          intro hS
          clear HS
          change wpAnyH _ _ _ _ _ _ _ _ (World.drew wr)
          generalize World.drew wr = y2 at *
          refine wpAnyH_take (i := 0) (v := .slice (some ⟨ba, offa, none⟩) n cpa) rfl (by kernel_rfl) (by kernel_rfl) (by kernel_rfl) (fun _ _ _ h => h) (Or.inl ⟨by rfl, fun wx hx => by simp [go_sem]⟩) hS ?_
          simp only [Act.put, List.getElem_toArray, List.getElem_cons_zero, List.setIfInBounds_toArray, List.set_cons_zero, List.set_cons_succ]
          refine wpAnyH_take (i := 1) (v := .int .i64 (k : Int)) rfl (by kernel_rfl) (by kernel_rfl) (by kernel_rfl) (fun _ _ _ h => h) (Or.inl ⟨by rfl, fun wx hx => by simp [go_sem]⟩) hS ?_
          simp only [Act.put, List.getElem_toArray, List.getElem_cons_succ, List.getElem_cons_zero, List.setIfInBounds_toArray, List.set_cons_zero, List.set_cons_succ]
          refine wpAnyH_take (i := 2) (v := .pointer (some ⟨ba, offa + k, none⟩)) rfl (by kernel_rfl) (by kernel_rfl) (by kernel_rfl) (fun _ _ _ h => h) (Or.inl ⟨by rfl, fun wx hx => by simp [go_sem, h1i, k0]⟩) hS ?_
          simp only [Act.put, List.getElem_toArray, List.getElem_cons_succ, List.getElem_cons_zero, List.setIfInBounds_toArray, List.set_cons_zero, List.set_cons_succ]
          refine wpAnyH_take (i := 3) (v := ua) rfl (by kernel_rfl) (by kernel_rfl) (by kernel_rfl) (fun _ _ _ h => h) (Or.inl ⟨by rfl, fun wx hx => by (have hc := HCA.out wx hx; simp [go_sem, hc])⟩) hS ?_
          simp only [Act.put, List.getElem_toArray, List.getElem_cons_succ, List.getElem_cons_zero, List.setIfInBounds_toArray, List.set_cons_zero, List.set_cons_succ]
          refine wpAnyH_take (i := 4) (v := .slice (some ⟨bb, offb, none⟩) m cpb) rfl (by kernel_rfl) (by kernel_rfl) (by kernel_rfl) (fun _ _ _ h => h) (Or.inl ⟨by rfl, fun wx hx => by simp [go_sem]⟩) hS ?_
          simp only [Act.put, List.getElem_toArray, List.getElem_cons_succ, List.getElem_cons_zero, List.setIfInBounds_toArray, List.set_cons_zero, List.set_cons_succ]
          refine wpAnyH_take (i := 5) (v := .int .i64 (k : Int)) rfl (by kernel_rfl) (by kernel_rfl) (by kernel_rfl) (fun _ _ _ h => h) (Or.inl ⟨by rfl, fun wx hx => by simp [go_sem]⟩) hS ?_
          simp only [Act.put, List.getElem_toArray, List.getElem_cons_succ, List.getElem_cons_zero, List.setIfInBounds_toArray, List.set_cons_zero, List.set_cons_succ]
          refine wpAnyH_take (i := 6) (v := .pointer (some ⟨bb, offb + k, none⟩)) rfl (by kernel_rfl) (by kernel_rfl) (by kernel_rfl) (fun _ _ _ h => h) (Or.inl ⟨by rfl, fun wx hx => by simp [go_sem, h2i, k0]⟩) hS ?_
          simp only [Act.put, List.getElem_toArray, List.getElem_cons_succ, List.getElem_cons_zero, List.setIfInBounds_toArray, List.set_cons_zero, List.set_cons_succ]
          refine wpAnyH_take (i := 7) (v := ub) rfl (by kernel_rfl) (by kernel_rfl) (by kernel_rfl) (fun _ _ _ h => h) (Or.inl ⟨by rfl, fun wx hx => by (have hc := HCB.out wx hx; simp [go_sem, hc])⟩) hS ?_
          simp only [Act.put, List.getElem_toArray, List.getElem_cons_succ, List.getElem_cons_zero, List.setIfInBounds_toArray, List.set_cons_zero, List.set_cons_succ]
          refine wpAnyH_enter 8 (by kernel_rfl) rfl (by rfl) (f := 11) (args := #[ua, ub]) (by simp [go_sem]) (HCP.out _ hS) ?_
          rintro e y3 ⟨vx, vy, o, s, t, rfl, hs, ht, hst, hrt, hbq⟩
          obtain ⟨ax, nx, cx, hvx⟩ := hs.form
          subst hvx
          obtain ⟨ay, ny, cy, hvy⟩ := ht.form
          subst hvy
          replace hS := hS.trans (hbq.mono hS.size)
          refine ⟨_, rfl, hS, ?_⟩
          clear hbq
          simp only [Act.put, List.getElem_toArray, List.getElem_cons_succ, List.getElem_cons_zero, List.setIfInBounds_toArray, List.set_cons_zero, List.set_cons_succ]
          refine wpAnyH_take (i := 9) (v := .tuple #[.slice ax nx cx, .slice ay ny cy, .bool o]) rfl (by kernel_rfl) (by kernel_rfl) (by kernel_rfl) (fun _ _ _ h => h) (Or.inl ⟨by rfl, fun wx hx => by simp [go_sem]⟩) hS ?_
          simp only [Act.put, List.getElem_toArray, List.getElem_cons_succ, List.getElem_cons_zero, List.setIfInBounds_toArray, List.set_cons_zero, List.set_cons_succ]
          refine wpAnyH_take (i := 10) (v := .slice ax nx cx) rfl (by kernel_rfl) (by kernel_rfl) (by kernel_rfl) (fun _ _ _ h => h) (Or.inl ⟨by rfl, fun wx hx => by simp [go_sem]⟩) hS ?_
          simp only [Act.put, List.getElem_toArray, List.getElem_cons_succ, List.getElem_cons_zero, List.setIfInBounds_toArray, List.set_cons_zero, List.set_cons_succ]
          refine wpAnyH_take (i := 11) (v := .slice ay ny cy) rfl (by kernel_rfl) (by kernel_rfl) (by kernel_rfl) (fun _ _ _ h => h) (Or.inl ⟨by rfl, fun wx hx => by simp [go_sem]⟩) hS ?_
          simp only [Act.put, List.getElem_toArray, List.getElem_cons_succ, List.getElem_cons_zero, List.setIfInBounds_toArray, List.set_cons_zero, List.set_cons_succ]
          refine wpAnyH_take (i := 12) (v := .bool o) rfl (by kernel_rfl) (by kernel_rfl) (by kernel_rfl) (fun _ _ _ h => h) (Or.inl ⟨by rfl, fun wx hx => by simp [go_sem]⟩) hS ?_
          simp only [Act.put, List.getElem_toArray, List.getElem_cons_succ, List.getElem_cons_zero, List.setIfInBounds_toArray, List.set_cons_zero, List.set_cons_succ]
          refine wpAnyH_take (i := 13) (v := .slice ax nx cx) rfl (by kernel_rfl) (by kernel_rfl) (by kernel_rfl) (fun _ _ _ h => h) (Or.inl ⟨by rfl, fun wx hx => by simp [go_sem]⟩) hS ?_
          simp only [Act.put, List.getElem_toArray, List.getElem_cons_succ, List.getElem_cons_zero, List.setIfInBounds_toArray, List.set_cons_zero, List.set_cons_succ]
          refine wpAnyH_take (i := 14) (v := .slice ay ny cy) rfl (by kernel_rfl) (by kernel_rfl) (by kernel_rfl) (fun _ _ _ h => h) (Or.inl ⟨by rfl, fun wx hx => by simp [go_sem]⟩) hS ?_
          simp only [Act.put, List.getElem_toArray, List.getElem_cons_succ, List.getElem_cons_zero, List.setIfInBounds_toArray, List.set_cons_zero, List.set_cons_succ]
          refine wpAnyH_take (i := 15) (v := .bool o) rfl (by kernel_rfl) (by kernel_rfl) (by kernel_rfl) (fun _ _ _ h => h) (Or.inl ⟨by rfl, fun wx hx => by simp [go_sem]⟩) hS ?_
          simp only [Act.put, List.getElem_toArray, List.getElem_cons_succ, List.getElem_cons_zero, List.setIfInBounds_toArray, List.set_cons_zero, List.set_cons_succ]
          refine wpAnyH_done (by kernel_rfl) ?_ _
          have HBQ : Hid (Below w.heap.size w y3) := hS
          have HC5 : Hid (∀ W, Below y3.heap.size y3 W → Calls Tryd.prog 10 #[.slice ax nx cx, .slice ay ny cy, .bool o, .bool pb] W fun e w' => e = .returned (.bool true) ∧ Below W.heap.size W w') := fun W hh => by
            have h := right9_any _ _ s t o pb W (hs.below hh) (ht.below hh) hst.1 hst.2
            rw [hrt] at h
            exact h
          clear hS hs ht hst hrt HCP
          go_upto_region 9 with fail
          refine wp_region_held_drew (S := Below y3.heap.size y3) (by kernel_rfl) (Below.refl _ _).drew ?_
          intro hS
          change wpAnyH _ _ _ _ _ _ _ _ (World.drew y3)
          generalize World.drew y3 = z0 at *
          refine wpAnyH_take (i := 0) (v := .slice ax nx cx) rfl (by kernel_rfl) (by kernel_rfl) (by kernel_rfl) (fun _ _ _ h => h) (Or.inl ⟨by rfl, fun wx hx => by simp [go_sem]⟩) hS ?_
          simp only [Act.put, List.getElem_toArray, List.getElem_cons_zero, List.setIfInBounds_toArray, List.set_cons_zero, List.set_cons_succ]
          refine wpAnyH_take (i := 1) (v := .slice ay ny cy) rfl (by kernel_rfl) (by kernel_rfl) (by kernel_rfl) (fun _ _ _ h => h) (Or.inl ⟨by rfl, fun wx hx => by simp [go_sem]⟩) hS ?_
          simp only [Act.put, List.getElem_toArray, List.getElem_cons_succ, List.getElem_cons_zero, List.setIfInBounds_toArray, List.set_cons_zero, List.set_cons_succ]
          refine wpAnyH_take (i := 2) (v := .bool o) rfl (by kernel_rfl) (by kernel_rfl) (by kernel_rfl) (fun _ _ _ h => h) (Or.inl ⟨by rfl, fun wx hx => by simp [go_sem]⟩) hS ?_
          simp only [Act.put, List.getElem_toArray, List.getElem_cons_succ, List.getElem_cons_zero, List.setIfInBounds_toArray, List.set_cons_zero, List.set_cons_succ]
          refine wpAnyH_take (i := 3) (v := .slice (some ⟨ba, offa, none⟩) n cpa) rfl (by kernel_rfl) (by kernel_rfl) (by kernel_rfl) (fun _ _ _ h => h) (Or.inl ⟨by rfl, fun wx hx => by simp [go_sem]⟩) hS ?_
          simp only [Act.put, List.getElem_toArray, List.getElem_cons_succ, List.getElem_cons_zero, List.setIfInBounds_toArray, List.set_cons_zero, List.set_cons_succ]
          refine wpAnyH_take (i := 4) (v := .int .i64 (k : Int)) rfl (by kernel_rfl) (by kernel_rfl) (by kernel_rfl) (fun _ _ _ h => h) (Or.inl ⟨by rfl, fun wx hx => by simp [go_sem]⟩) hS ?_
          simp only [Act.put, List.getElem_toArray, List.getElem_cons_succ, List.getElem_cons_zero, List.setIfInBounds_toArray, List.set_cons_zero, List.set_cons_succ]
          refine wpAnyH_take (i := 5) (v := .pointer (some ⟨ba, offa + k, none⟩)) rfl (by kernel_rfl) (by kernel_rfl) (by kernel_rfl) (fun _ _ _ h => h) (Or.inl ⟨by rfl, fun wx hx => by simp [go_sem, h1i, k0]⟩) hS ?_
          simp only [Act.put, List.getElem_toArray, List.getElem_cons_succ, List.getElem_cons_zero, List.setIfInBounds_toArray, List.set_cons_zero, List.set_cons_succ]
          refine wpAnyH_take (i := 6) (v := ua) rfl (by kernel_rfl) (by kernel_rfl) (by kernel_rfl) (fun _ _ _ h => h) (Or.inl ⟨by rfl, fun wx hx => by (have hc := HCA.out wx (HBQ.out.trans (hx.mono HBQ.out.size)); simp [go_sem, hc])⟩) hS ?_
          simp only [Act.put, List.getElem_toArray, List.getElem_cons_succ, List.getElem_cons_zero, List.setIfInBounds_toArray, List.set_cons_zero, List.set_cons_succ]
          refine wpAnyH_take (i := 7) (v := .slice (some ⟨bb, offb, none⟩) m cpb) rfl (by kernel_rfl) (by kernel_rfl) (by kernel_rfl) (fun _ _ _ h => h) (Or.inl ⟨by rfl, fun wx hx => by simp [go_sem]⟩) hS ?_
          simp only [Act.put, List.getElem_toArray, List.getElem_cons_succ, List.getElem_cons_zero, List.setIfInBounds_toArray, List.set_cons_zero, List.set_cons_succ]
          refine wpAnyH_take (i := 8) (v := .int .i64 (k : Int)) rfl (by kernel_rfl) (by kernel_rfl) (by kernel_rfl) (fun _ _ _ h => h) (Or.inl ⟨by rfl, fun wx hx => by simp [go_sem]⟩) hS ?_
          simp only [Act.put, List.getElem_toArray, List.getElem_cons_succ, List.getElem_cons_zero, List.setIfInBounds_toArray, List.set_cons_zero, List.set_cons_succ]
          refine wpAnyH_take (i := 9) (v := .pointer (some ⟨bb, offb + k, none⟩)) rfl (by kernel_rfl) (by kernel_rfl) (by kernel_rfl) (fun _ _ _ h => h) (Or.inl ⟨by rfl, fun wx hx => by simp [go_sem, h2i, k0]⟩) hS ?_
          simp only [Act.put, List.getElem_toArray, List.getElem_cons_succ, List.getElem_cons_zero, List.setIfInBounds_toArray, List.set_cons_zero, List.set_cons_succ]
          refine wpAnyH_take (i := 10) (v := ub) rfl (by kernel_rfl) (by kernel_rfl) (by kernel_rfl) (fun _ _ _ h => h) (Or.inl ⟨by rfl, fun wx hx => by (have hc := HCB.out wx (HBQ.out.trans (hx.mono HBQ.out.size)); simp [go_sem, hc])⟩) hS ?_
          simp only [Act.put, List.getElem_toArray, List.getElem_cons_succ, List.getElem_cons_zero, List.setIfInBounds_toArray, List.set_cons_zero, List.set_cons_succ]
          refine wpAnyH_enter 11 (by kernel_rfl) rfl (by rfl) (f := 12) (args := #[ua, ub]) (by simp [go_sem]) (HCQ.out _ (HBQ.out.trans (hS.mono HBQ.out.size))) ?_
          rintro e z1 ⟨rfl, hbq⟩
          replace hS := hS.trans (hbq.mono hS.size)
          refine ⟨_, rfl, hS, ?_⟩
          clear hbq
          simp only [Act.put, List.getElem_toArray, List.getElem_cons_succ, List.getElem_cons_zero, List.setIfInBounds_toArray, List.set_cons_zero, List.set_cons_succ]
          refine wpAnyH_enter 12 (by kernel_rfl) rfl (by rfl) (f := 10) (args := #[.slice ax nx cx, .slice ay ny cy, .bool o, .bool pb]) (by simp [go_sem]) (HC5.out _ hS) ?_
          rintro e z2 ⟨rfl, hbq⟩
          replace hS := hS.trans (hbq.mono hS.size)
          refine ⟨_, rfl, hS, ?_⟩
          clear hbq
          simp only [Act.put, List.getElem_toArray, List.getElem_cons_succ, List.getElem_cons_zero, List.setIfInBounds_toArray, List.set_cons_zero, List.set_cons_succ]
          refine wpAnyH_take (i := 13) (v := .bool false) rfl (by kernel_rfl) (by kernel_rfl) (by kernel_rfl) (fun _ _ _ h => h) (Or.inl ⟨by rfl, fun wx hx => by simp [go_sem]⟩) hS ?_
          simp only [Act.put, List.getElem_toArray, List.getElem_cons_succ, List.getElem_cons_zero, List.setIfInBounds_toArray, List.set_cons_zero, List.set_cons_succ]
          refine wpAnyH_done (by kernel_rfl) ?_ _
          have HBW : Hid (Below w.heap.size w z2) := HBQ.out.trans (hS.mono HBQ.out.size)
          have f5 : IntKind.i64.wrap ((k : Int) + 1) = (k : Int) + 1 := by rw [IntKind.wrap_i64]; have := HLN.out; omega
          clear hS HBQ HC5
          go_wp2
          go_roundw
          case rel => exact ⟨k + 1, by omega, by omega, by simp, HBW.out⟩
          case measure => simp [intOf]; omega
        · have h1i : (k : Int) < (n : Int) := by omega
          have h2i : ¬ ((k : Int) < (m : Int)) := by omega
          go_wp2_with (first
            | (go_at_call 13; refine (HWK.out _ HS.out).mono ?_; rintro e wz ⟨rfl, hbz⟩
               replace HS : Hid (Below w.heap.size w wz) := HS.out.trans (hbz.mono HS.out.size)
               clear hbz))
          go_ret
          exact ⟨rfl, HS.out⟩
      · have h1i : ¬ ((k : Int) < (n : Int)) := by omega
        go_wp2_with (first
          | (go_at_call 13; refine (HWK.out _ HS.out).mono ?_; rintro e wz ⟨rfl, hbz⟩
             replace HS : Hid (Below w.heap.size w wz) := HS.out.trans (hbz.mono HS.out.size)
             clear hbz))
        go_ret
        exact ⟨rfl, HS.out⟩
end Go.Proofs.YtpeifpoeeopecaaDoor

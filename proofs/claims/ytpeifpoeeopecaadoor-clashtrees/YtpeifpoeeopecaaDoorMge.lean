/- Texts that the proof leans on, one behind the other: The walk of the statements' works (layer 9). The statement ClashWays, over clash's functions (layer 9). Roots and bindings in memory, held against each other; the reference's Root and Value (layer 9). .. -/
import Derived.Test.YtpeifpoeeopecaaDoorMgd
import Derived.Lib.SlBytesConst
import Derived.Test.YtpeifpoeeopecaaDoorMgb
import Derived.Test.YtpeifpoeeopecaaDoorMgc
/- The walk of the statements' works (layer 9). -/
namespace Go.Proofs.YtpeifpoeeopecaaDoor
open Go.RowKit
set_option maxRecDepth 100000
theorem aa9 : pairB9 [97] [97] = false := by simp [pairB9]
theorem ab9 : pairB9 [97] [98] = false := by
  have h : dig [97] ≠ dig [98] := by decide +kernel
  unfold pairB9
  rw [decide_eq_false h, Bool.and_false]
/-- a text of one byte, of a constant -/
theorem wpSeq_const {ops : Array Oper} {Q : Exit → Act → World → Prop} {rest : List Oper} {o : Oper} {a : Act} (x : Operand) (W : World) (c : BitVec 8) (v : Value) (hv : v = .int .u8 (c.toNat : Int)) (ho : o.op = .convert 23 23 x) (hx : a.eval x = .slice (some ⟨W.heap.size, 0, none⟩) 1 1) (hw : Region.wanted o (yielded ops a.tmps) = true)
    (h : ∀ g w', Reads w' (.slice (some ⟨g, 0, none⟩) 1 1) [c] → Below W.heap.size W w' → wpList Tryd.prog ops Q rest (a.put o.dst (.slice (some ⟨g, 0, none⟩) 1 1)) w') : wpList Tryd.prog ops Q (o :: rest) a (W.alloc (.cells #[v] 5)) := by
  subst hv
  have hr := Go.Lib.run_convert_bytes_const (P := Tryd.prog) W 23 5 #[.int .u8 (c.toNat : Int)] 1 1 Tryd.underlying23 Tryd.underlying5
  refine wpSeq_val (.slice (some ⟨W.heap.size, 0, none⟩) 1 1) (W.alloc (.cells #[.int .u8 (c.toNat : Int)] 5 (1, 2))) hw ?_ (h W.heap.size (W.alloc (.cells #[.int .u8 (c.toNat : Int)] 5 (1, 2))) ?_ (below_alloc _ _))
  · unfold execOp
    rw [ho]
    simp only [hx, Sem.run_bind]
    rw [hr]
    rfl
  · refine ⟨_, 1, rfl, Nat.le_refl _, (fun h => by cases h), fun _ => ⟨_, 0, rfl, fun j hj => ?_⟩⟩
    have hj0 : j = 0 := by simp at hj; exact hj
    subst hj0
    unfold World.cell?
    rw [heap_alloc_new W _]
    rfl
set_option maxRecDepth 100000 in
set_option maxHeartbeats 8000000 in
theorem works9_any (hP : PfOps) (hC : ClOps) (w : World) (hK : KOk w) : Calls Tryd.prog 13 #[] w fun e w' => e = .returned (.bool true) ∧ Below w.heap.size w w' := by
  have HP : Hid PfOps := hP
  have HC : Hid ClOps := hC
  have HK : Hid (KOk w) := hK
  clear hP hK hC
  obtain ⟨x, HX⟩ : ∃ x, Hid (x = dgt 1) := ⟨_, rfl⟩
  have HXL : Hid (x.length = 32) := by show _ = _; rw [HX.out]; rfl
  obtain ⟨l, HLF⟩ : ∃ r, Hid (r = dig (pairB 76 x x)) := ⟨_, rfl⟩
  have HLL : Hid (l.length = 32) := by show _ = _; rw [HLF.out]; exact len_dig' _
  obtain ⟨p1, HP1⟩ : ∃ c, Hid (c = prfV nilV 1 x x) := ⟨_, rfl⟩
  have HCL : Hid (∀ W, Calls Tryd.prog 33 #[.agg (cb x).toArray, .agg (cb x).toArray] W fun e w' => e = .returned (.agg (cb l).toArray) ∧ Below W.heap.size W w') := fun W => by rw [HLF.out]; exact hLeaf_any x x HXL.out HXL.out W
  have HC1 : Hid (∀ W, KOk W → Calls Tryd.prog 18 #[.agg (cb l).toArray, .agg (cb x).toArray, .agg p1.toArray] W fun e w' => e = .returned (.tuple #[.agg (cb x).toArray, .bool true, .int .i64 0]) ∧ Below W.heap.size W w') := fun W hk => by
    have h := HP.out.check W l x nilV [] 1 x x hk HLL.out HXL.out HXL.out HXL.out (readsD_nil W) (by simp)
    rw [HLF.out, check_leaf, ← HLF.out, ← HP1.out] at h
    exact h
  have HCP : Hid (∀ (W : World) (va vb : Value) (a b : List (BitVec 8)), pairB9 a b = false → a.length = 1 → b.length = 1 → KOk W → Reads W va a → Reads W vb b → Calls Tryd.prog 11 #[va, vb] W fun e w' => ∃ x y, e = .returned (.tuple #[x, y, .bool false]) ∧ Below W.heap.size W w') := fun W va vb a b hp ha hb hk h1 h2 => (HC.out.pair W va vb a b hk h1 h2 (by omega) (by omega)).mono fun e w' h => by
    obtain ⟨x, y, o, h1, h2, h3⟩ := h
    have h4 := h2.eq
    rw [hp] at h4
    subst h4
    exact ⟨x, y, h1, h3⟩
  have HBW : Hid (Below w.heap.size w w) := Below.refl _ _
  go_enter Tryd.func13, Tryd.ntmps13
  go_upto_region 2 with (first
    | (refine wpSeq_const (.tmp 12) w 97 _ rfl ?_ ?_ ?_ ?_
       · rfl
       · rfl
       · rfl
       intro gwa wa hr1 hb1
       have HR1 : Hid (Reads wa (.slice (some ⟨gwa, 0, none⟩) 1 1) [97]) := hr1
       replace HBW : Hid (Below w.heap.size w wa) := HBW.out.trans (hb1.mono HBW.out.size)
       clear hr1 hb1)
    | (refine wpSeq_const (.tmp 14) wa 97 _ rfl ?_ ?_ ?_ ?_
       · rfl
       · rfl
       · rfl
       intro gwb wb hr2 hb2
       have HR2 : Hid (Reads wb (.slice (some ⟨gwb, 0, none⟩) 1 1) [97]) := hr2
       replace HR1 : Hid (Reads wb (.slice (some ⟨gwa, 0, none⟩) 1 1) [97]) := HR1.out.below hb2
       replace HBW : Hid (Below w.heap.size w wb) := HBW.out.trans (hb2.mono HBW.out.size)
       clear hr2 hb2)
    | (go_at_call 11
       refine (HCP.out _ _ _ [97] [97] aa9 rfl rfl (HK.out.below HBW.out HK.out.lt) HR1.out HR2.out).mono ?_
       rintro e wc ⟨x1, y1, rfl, hb3⟩
       replace HBW : Hid (Below w.heap.size w wc) := HBW.out.trans (hb3.mono HBW.out.size)
       clear hb3 HR1 HR2))
  go_upto_region 3 with (first
    | (refine wpSeq_const (.tmp 21) wc 97 _ rfl ?_ ?_ ?_ ?_
       · rfl
       · rfl
       · rfl
       intro gwd wd hr1 hb1
       have HR1 : Hid (Reads wd (.slice (some ⟨gwd, 0, none⟩) 1 1) [97]) := hr1
       replace HBW : Hid (Below w.heap.size w wd) := HBW.out.trans (hb1.mono HBW.out.size)
       clear hr1 hb1)
    | (refine wpSeq_const (.tmp 23) wd 98 _ rfl ?_ ?_ ?_ ?_
       · rfl
       · rfl
       · rfl
       intro gwe we hr2 hb2
       have HR2 : Hid (Reads we (.slice (some ⟨gwe, 0, none⟩) 1 1) [98]) := hr2
       replace HR1 : Hid (Reads we (.slice (some ⟨gwd, 0, none⟩) 1 1) [97]) := HR1.out.below hb2
       replace HBW : Hid (Below w.heap.size w we) := HBW.out.trans (hb2.mono HBW.out.size)
       clear hr2 hb2)
    | (go_at_call 11
       refine (HCP.out _ _ _ [97] [98] ab9 rfl rfl (HK.out.below HBW.out HK.out.lt) HR1.out HR2.out).mono ?_
       rintro e wf ⟨x3, y3, rfl, hb3⟩
       replace HBW : Hid (Below w.heap.size w wf) := HBW.out.trans (hb3.mono HBW.out.size)
       clear hb3 HR1 HR2))
  go_upto_region 4 with (first
    | (refine wpSeq_val _ _ (by rfl) (buildT1 _ _ rfl _) ?_; rw [← HX.out])
    | (with_reducible refine wpSeq_allocD ?_ ?_ ?_
       · rfl
       · rfl
       intro g1 w1 nn1)
    | (with_reducible refine wpSeq_storeD (.tmp 7) (.tmp 29) g1 zb32 x ?_ ?_ ?_ ?_ ?_ ?_ ?_ ?_
       · rfl
       · exact HXL.out
       · exact nn1.blk
       · rfl
       · rfl
       · rfl
       · rfl
       intro w2 h2
       have HI : Hid (Pw w g1 x w2) := ⟨HK.out, (nn1.set h2).blk, HBW.out.trans ((nn1.set h2).below.mono HBW.out.size)⟩
       clear nn1 h2 HK HBW))
  simp only [Act.put, List.setIfInBounds_toArray, List.set_cons_zero, List.set_cons_succ]
  go_cut [8, 9, 10] from 30 to 41 (fun a b c W => ∃ g2, a = .pointer (some ⟨g2, 0, none⟩) ∧ b = .bool true ∧ c = .int .i64 0 ∧ Pw w g1 x W ∧ Blk W g2 (cb x) 33)
  case first =>
    refine wp_region_held_drew (S := Pw w g1 x) (by kernel_rfl) (HI.out.next (Below.refl _ _).drew) ?_
    intro hS
    change wpAnyH _ _ _ _ _ _ _ _ (World.drew w2)
    clear HI
    generalize World.drew w2 = y0 at *
    refine wpAnyH_take (i := 0) (v := .agg (cb x).toArray) rfl (by kernel_rfl) (by kernel_rfl) (by kernel_rfl) (fun _ _ _ h => h) (Or.inl ⟨by rfl, fun wx hx => by exact loadDigest _ g1 x HXL.out hx.xb rfl rfl⟩) hS ?_
    simp only [Act.put, List.getElem_toArray, List.getElem_cons_zero, List.setIfInBounds_toArray, List.set_cons_zero, List.set_cons_succ]
    refine wpAnyH_take (i := 1) (v := .agg (cb x).toArray) rfl (by kernel_rfl) (by kernel_rfl) (by kernel_rfl) (fun _ _ _ h => h) (Or.inl ⟨by rfl, fun wx hx => by exact loadDigest _ g1 x HXL.out hx.xb rfl rfl⟩) hS ?_
    simp only [Act.put, List.getElem_toArray, List.getElem_cons_succ, List.getElem_cons_zero, List.setIfInBounds_toArray, List.set_cons_zero, List.set_cons_succ]
    refine wpAnyH_take (i := 3) (v := .agg (cb x).toArray) rfl (by kernel_rfl) (by kernel_rfl) (by kernel_rfl) (fun _ _ _ h => h) (Or.inl ⟨by rfl, fun wx hx => by exact loadDigest _ g1 x HXL.out hx.xb rfl rfl⟩) hS ?_
    simp only [Act.put, List.getElem_toArray, List.getElem_cons_succ, List.getElem_cons_zero, List.setIfInBounds_toArray, List.set_cons_zero, List.set_cons_succ]
    refine wpAnyH_take (i := 4) (v := .agg (cb x).toArray) rfl (by kernel_rfl) (by kernel_rfl) (by kernel_rfl) (fun _ _ _ h => h) (Or.inl ⟨by rfl, fun wx hx => by exact loadDigest _ g1 x HXL.out hx.xb rfl rfl⟩) hS ?_
    simp only [Act.put, List.getElem_toArray, List.getElem_cons_succ, List.getElem_cons_zero, List.setIfInBounds_toArray, List.set_cons_zero, List.set_cons_succ]
    refine wpAnyH_take (i := 5) (v := .agg (cb x).toArray) rfl (by kernel_rfl) (by kernel_rfl) (by kernel_rfl) (fun _ _ _ h => h) (Or.inl ⟨by rfl, fun wx hx => by exact loadDigest _ g1 x HXL.out hx.xb rfl rfl⟩) hS ?_
    simp only [Act.put, List.getElem_toArray, List.getElem_cons_succ, List.getElem_cons_zero, List.setIfInBounds_toArray, List.set_cons_zero, List.set_cons_succ]
    refine wpAnyH_take (i := 6) (v := .agg p1.toArray) rfl (by kernel_rfl) (by kernel_rfl) (by kernel_rfl) (fun _ _ _ h => h) (Or.inl ⟨by rfl, fun wx hx => by (rw [HP1.out, HX.out]; exact buildW1 _ _ _ _ rfl rfl (by rw [← HX.out]; rfl) (by rw [← HX.out]; rfl) _)⟩) hS ?_
    simp only [Act.put, List.getElem_toArray, List.getElem_cons_succ, List.getElem_cons_zero, List.setIfInBounds_toArray, List.set_cons_zero, List.set_cons_succ]
    refine wpAnyH_pair 2 12 (by kernel_rfl) ?_ ?_
    · skip
      refine wpOp_en 2 (by rfl) (by rfl) (f := 33) (args := #[.agg (cb x).toArray, .agg (cb x).toArray]) (by simp [go_sem]) (HCL.out _) ?_
      rintro e z1 ⟨rfl, hb⟩
      replace hS := hS.next hb
      refine ⟨_, rfl, hS, ?_⟩
      clear hb
      simp only [Act.put, List.getElem_toArray, List.getElem_cons_succ, List.getElem_cons_zero, List.setIfInBounds_toArray, List.set_cons_zero, List.set_cons_succ]
      refine wpAnyH_pair 7 12 (by kernel_rfl) ?_ ?_
      · skip
        refine wpOp_en 7 (by rfl) (by rfl) (f := 18) (args := #[.agg (cb l).toArray, .agg (cb x).toArray, .agg p1.toArray]) (by simp [go_sem]) (HC1.out _ hS.kk) ?_
        rintro e z2 ⟨rfl, hb⟩
        replace hS := hS.next hb
        refine ⟨_, rfl, hS, ?_⟩
        clear hb
        simp only [Act.put, List.getElem_toArray, List.getElem_cons_succ, List.getElem_cons_zero, List.setIfInBounds_toArray, List.set_cons_zero, List.set_cons_succ]
        refine wpAnyH_take (i := 8) (v := .tuple #[.agg (cb x).toArray, .bool true, .int .i64 0]) rfl (by kernel_rfl) (by kernel_rfl) (by kernel_rfl) (fun _ _ _ h => h) (Or.inl ⟨by rfl, fun wx hx => by simp [go_sem]⟩) hS ?_
        simp only [Act.put, List.getElem_toArray, List.getElem_cons_succ, List.getElem_cons_zero, List.setIfInBounds_toArray, List.set_cons_zero, List.set_cons_succ]
        refine wpAnyH_take (i := 9) (v := .agg (cb x).toArray) rfl (by kernel_rfl) (by kernel_rfl) (by kernel_rfl) (fun _ _ _ h => h) (Or.inl ⟨by rfl, fun wx hx => by simp [go_sem]⟩) hS ?_
        simp only [Act.put, List.getElem_toArray, List.getElem_cons_succ, List.getElem_cons_zero, List.setIfInBounds_toArray, List.set_cons_zero, List.set_cons_succ]
        refine wpAnyH_take (i := 10) (v := .bool true) rfl (by kernel_rfl) (by kernel_rfl) (by kernel_rfl) (fun _ _ _ h => h) (Or.inl ⟨by rfl, fun wx hx => by simp [go_sem]⟩) hS ?_
        simp only [Act.put, List.getElem_toArray, List.getElem_cons_succ, List.getElem_cons_zero, List.setIfInBounds_toArray, List.set_cons_zero, List.set_cons_succ]
        refine wpAnyH_take (i := 11) (v := .int .i64 0) rfl (by kernel_rfl) (by kernel_rfl) (by kernel_rfl) (fun _ _ _ h => h) (Or.inl ⟨by rfl, fun wx hx => by simp [go_sem]⟩) hS ?_
        simp only [Act.put, List.getElem_toArray, List.getElem_cons_succ, List.getElem_cons_zero, List.setIfInBounds_toArray, List.set_cons_zero, List.set_cons_succ]
        have hb := below_alloc z2 (.cells (cb zb32).toArray 33)
        have hnew : Blk (z2.alloc (.cells (cb zb32).toArray 33)) z2.heap.size (cb zb32) 33 := Blk.new _ _ _
        have hgw : w.heap.size ≤ z2.heap.size := hS.bel.size
        have hne : z2.heap.size ≠ g1 := Nat.ne_of_gt hS.xb.lt
        replace hS := hS.next hb
        refine wpAnyH_step 12 (.pointer (some ⟨z2.heap.size, 0, none⟩)) (z2.alloc (.cells (cb zb32).toArray 33)) (by kernel_rfl) rfl (by rfl) (allocDigest _ _ rfl _) hS ?_
        simp only [Act.put, List.getElem_toArray, List.getElem_cons_succ, List.getElem_cons_zero, List.setIfInBounds_toArray, List.set_cons_zero, List.set_cons_succ]
        clear hb
        have hba := hnew
        clear hnew
        generalize z2.alloc (.cells (cb zb32).toArray 33) = z3 at *
        obtain ⟨ga, HGA⟩ : ∃ z, Hid (z = z2.heap.size) := ⟨_, rfl⟩
        rw [← HGA.out] at hba hgw hne ⊢
        clear HGA
        refine wpAnyH_law 13 (by kernel_rfl) rfl (by rfl) (wp_store_mid 33 _ _ rfl ga 0 (cb x).toArray rfl rfl (hba.there 0 _ (by rw [List.size_toArray, cb_len, cb_len, HXL.out]; decide)) (by rw [List.size_toArray, cb_len, HXL.out]; exact info_digest) (all_oneCell_toArray (cb_one x)) ?_)
        rw [List.toList_toArray]
        have hk9 : ∀ k, k ≠ ga → (z3.setCells ga 0 (cb x)).heap[k]? = z3.heap[k]? := At'.setCells _ _ _ (fun _ _ => rfl)
        have hb9 := hba.whole (cb x) (by rw [cb_len, cb_len, HXL.out]; rfl)
        have hS9 : Pw w g1 x (z3.setCells ga 0 (cb x)) := hS.set hne hk9 (Below.setCells _ hgw _ _ _ hS.bel)
        refine ⟨hS9, ?_⟩
        simp only [Act.put, List.getElem_toArray, List.getElem_cons_succ, List.getElem_cons_zero]
        generalize z3.setCells ga 0 (cb x) = wE at *
        refine wpAnyH_take (i := 14) (v := .bool true) rfl (by kernel_rfl) (by kernel_rfl) (by kernel_rfl) (fun _ _ _ h => h) (Or.inl ⟨by rfl, fun wx hx => by simp [go_sem]⟩) hS9 ?_
        simp only [Act.put, List.getElem_toArray, List.getElem_cons_succ, List.getElem_cons_zero, List.setIfInBounds_toArray, List.set_cons_zero, List.set_cons_succ]
        refine wpAnyH_take (i := 15) (v := .int .i64 0) rfl (by kernel_rfl) (by kernel_rfl) (by kernel_rfl) (fun _ _ _ h => h) (Or.inl ⟨by rfl, fun wx hx => by simp [go_sem]⟩) hS9 ?_
        simp only [Act.put, List.getElem_toArray, List.getElem_cons_succ, List.getElem_cons_zero, List.setIfInBounds_toArray, List.set_cons_zero, List.set_cons_succ]
        refine wpAnyH_done (by kernel_rfl) ?_ _
        clear hk9 hS hba
        go_wp2
        go_meet
        case rel => exact ⟨ga, rfl, rfl, rfl, hS9, hb9⟩
      · skip
        have hb := below_alloc z1 (.cells (cb zb32).toArray 33)
        have hnew : Blk (z1.alloc (.cells (cb zb32).toArray 33)) z1.heap.size (cb zb32) 33 := Blk.new _ _ _
        have hgw : w.heap.size ≤ z1.heap.size := hS.bel.size
        have hne : z1.heap.size ≠ g1 := Nat.ne_of_gt hS.xb.lt
        replace hS := hS.next hb
        refine wpOp_vl 12 (.pointer (some ⟨z1.heap.size, 0, none⟩)) (z1.alloc (.cells (cb zb32).toArray 33)) (by rfl) (by rfl) (allocDigest _ _ rfl _) ⟨hS, ?_⟩
        simp only [Act.put, List.getElem_toArray, List.getElem_cons_succ, List.getElem_cons_zero, List.setIfInBounds_toArray, List.set_cons_zero, List.set_cons_succ]
        clear hb
        have hba := hnew
        clear hnew
        generalize z1.alloc (.cells (cb zb32).toArray 33) = z4 at *
        obtain ⟨ga, HGA⟩ : ∃ z, Hid (z = z1.heap.size) := ⟨_, rfl⟩
        rw [← HGA.out] at hba hgw hne ⊢
        clear HGA
        refine wpAnyH_enter 7 (by kernel_rfl) rfl (by rfl) (f := 18) (args := #[.agg (cb l).toArray, .agg (cb x).toArray, .agg p1.toArray]) (by simp [go_sem]) (HC1.out _ hS.kk) ?_
        rintro e z5 ⟨rfl, hb⟩
        replace hS := hS.next hb
        replace hba := hba.below hb hba.lt
        refine ⟨_, rfl, hS, ?_⟩
        clear hb
        simp only [Act.put, List.getElem_toArray, List.getElem_cons_succ, List.getElem_cons_zero, List.setIfInBounds_toArray, List.set_cons_zero, List.set_cons_succ]
        refine wpAnyH_take (i := 8) (v := .tuple #[.agg (cb x).toArray, .bool true, .int .i64 0]) rfl (by kernel_rfl) (by kernel_rfl) (by kernel_rfl) (fun _ _ _ h => h) (Or.inl ⟨by rfl, fun wx hx => by simp [go_sem]⟩) hS ?_
        simp only [Act.put, List.getElem_toArray, List.getElem_cons_succ, List.getElem_cons_zero, List.setIfInBounds_toArray, List.set_cons_zero, List.set_cons_succ]
        refine wpAnyH_take (i := 9) (v := .agg (cb x).toArray) rfl (by kernel_rfl) (by kernel_rfl) (by kernel_rfl) (fun _ _ _ h => h) (Or.inl ⟨by rfl, fun wx hx => by simp [go_sem]⟩) hS ?_
        simp only [Act.put, List.getElem_toArray, List.getElem_cons_succ, List.getElem_cons_zero, List.setIfInBounds_toArray, List.set_cons_zero, List.set_cons_succ]
        refine wpAnyH_take (i := 10) (v := .bool true) rfl (by kernel_rfl) (by kernel_rfl) (by kernel_rfl) (fun _ _ _ h => h) (Or.inl ⟨by rfl, fun wx hx => by simp [go_sem]⟩) hS ?_
        simp only [Act.put, List.getElem_toArray, List.getElem_cons_succ, List.getElem_cons_zero, List.setIfInBounds_toArray, List.set_cons_zero, List.set_cons_succ]
        refine wpAnyH_take (i := 11) (v := .int .i64 0) rfl (by kernel_rfl) (by kernel_rfl) (by kernel_rfl) (fun _ _ _ h => h) (Or.inl ⟨by rfl, fun wx hx => by simp [go_sem]⟩) hS ?_
        simp only [Act.put, List.getElem_toArray, List.getElem_cons_succ, List.getElem_cons_zero, List.setIfInBounds_toArray, List.set_cons_zero, List.set_cons_succ]
        refine wpAnyH_law 13 (by kernel_rfl) rfl (by rfl) (wp_store_mid 33 _ _ rfl ga 0 (cb x).toArray rfl rfl (hba.there 0 _ (by rw [List.size_toArray, cb_len, cb_len, HXL.out]; decide)) (by rw [List.size_toArray, cb_len, HXL.out]; exact info_digest) (all_oneCell_toArray (cb_one x)) ?_)
        rw [List.toList_toArray]
        have hk9 : ∀ k, k ≠ ga → (z5.setCells ga 0 (cb x)).heap[k]? = z5.heap[k]? := At'.setCells _ _ _ (fun _ _ => rfl)
        have hb9 := hba.whole (cb x) (by rw [cb_len, cb_len, HXL.out]; rfl)
        have hS9 : Pw w g1 x (z5.setCells ga 0 (cb x)) := hS.set hne hk9 (Below.setCells _ hgw _ _ _ hS.bel)
        refine ⟨hS9, ?_⟩
        simp only [Act.put, List.getElem_toArray, List.getElem_cons_succ, List.getElem_cons_zero]
        generalize z5.setCells ga 0 (cb x) = wE at *
        refine wpAnyH_take (i := 14) (v := .bool true) rfl (by kernel_rfl) (by kernel_rfl) (by kernel_rfl) (fun _ _ _ h => h) (Or.inl ⟨by rfl, fun wx hx => by simp [go_sem]⟩) hS9 ?_
        simp only [Act.put, List.getElem_toArray, List.getElem_cons_succ, List.getElem_cons_zero, List.setIfInBounds_toArray, List.set_cons_zero, List.set_cons_succ]
        refine wpAnyH_take (i := 15) (v := .int .i64 0) rfl (by kernel_rfl) (by kernel_rfl) (by kernel_rfl) (fun _ _ _ h => h) (Or.inl ⟨by rfl, fun wx hx => by simp [go_sem]⟩) hS9 ?_
        simp only [Act.put, List.getElem_toArray, List.getElem_cons_succ, List.getElem_cons_zero, List.setIfInBounds_toArray, List.set_cons_zero, List.set_cons_succ]
        refine wpAnyH_done (by kernel_rfl) ?_ _
        clear hk9 hS hba
        go_wp2
        go_meet
        case rel => exact ⟨ga, rfl, rfl, rfl, hS9, hb9⟩
    · skip
      have hb := below_alloc y0 (.cells (cb zb32).toArray 33)
      have hnew : Blk (y0.alloc (.cells (cb zb32).toArray 33)) y0.heap.size (cb zb32) 33 := Blk.new _ _ _
      have hgw : w.heap.size ≤ y0.heap.size := hS.bel.size
      have hne : y0.heap.size ≠ g1 := Nat.ne_of_gt hS.xb.lt
      replace hS := hS.next hb
      refine wpOp_vl 12 (.pointer (some ⟨y0.heap.size, 0, none⟩)) (y0.alloc (.cells (cb zb32).toArray 33)) (by rfl) (by rfl) (allocDigest _ _ rfl _) ⟨hS, ?_⟩
      simp only [Act.put, List.getElem_toArray, List.getElem_cons_succ, List.getElem_cons_zero, List.setIfInBounds_toArray, List.set_cons_zero, List.set_cons_succ]
      clear hb
      have hba := hnew
      clear hnew
      generalize y0.alloc (.cells (cb zb32).toArray 33) = z6 at *
      obtain ⟨ga, HGA⟩ : ∃ z, Hid (z = y0.heap.size) := ⟨_, rfl⟩
      rw [← HGA.out] at hba hgw hne ⊢
      clear HGA
      refine wpAnyH_enter 2 (by kernel_rfl) rfl (by rfl) (f := 33) (args := #[.agg (cb x).toArray, .agg (cb x).toArray]) (by simp [go_sem]) (HCL.out _) ?_
      rintro e z7 ⟨rfl, hb⟩
      replace hS := hS.next hb
      replace hba := hba.below hb hba.lt
      refine ⟨_, rfl, hS, ?_⟩
      clear hb
      simp only [Act.put, List.getElem_toArray, List.getElem_cons_succ, List.getElem_cons_zero, List.setIfInBounds_toArray, List.set_cons_zero, List.set_cons_succ]
      refine wpAnyH_enter 7 (by kernel_rfl) rfl (by rfl) (f := 18) (args := #[.agg (cb l).toArray, .agg (cb x).toArray, .agg p1.toArray]) (by simp [go_sem]) (HC1.out _ hS.kk) ?_
      rintro e z8 ⟨rfl, hb⟩
      replace hS := hS.next hb
      replace hba := hba.below hb hba.lt
      refine ⟨_, rfl, hS, ?_⟩
      clear hb
      simp only [Act.put, List.getElem_toArray, List.getElem_cons_succ, List.getElem_cons_zero, List.setIfInBounds_toArray, List.set_cons_zero, List.set_cons_succ]
      refine wpAnyH_take (i := 8) (v := .tuple #[.agg (cb x).toArray, .bool true, .int .i64 0]) rfl (by kernel_rfl) (by kernel_rfl) (by kernel_rfl) (fun _ _ _ h => h) (Or.inl ⟨by rfl, fun wx hx => by simp [go_sem]⟩) hS ?_
      simp only [Act.put, List.getElem_toArray, List.getElem_cons_succ, List.getElem_cons_zero, List.setIfInBounds_toArray, List.set_cons_zero, List.set_cons_succ]
      refine wpAnyH_take (i := 9) (v := .agg (cb x).toArray) rfl (by kernel_rfl) (by kernel_rfl) (by kernel_rfl) (fun _ _ _ h => h) (Or.inl ⟨by rfl, fun wx hx => by simp [go_sem]⟩) hS ?_
      simp only [Act.put, List.getElem_toArray, List.getElem_cons_succ, List.getElem_cons_zero, List.setIfInBounds_toArray, List.set_cons_zero, List.set_cons_succ]
      refine wpAnyH_take (i := 10) (v := .bool true) rfl (by kernel_rfl) (by kernel_rfl) (by kernel_rfl) (fun _ _ _ h => h) (Or.inl ⟨by rfl, fun wx hx => by simp [go_sem]⟩) hS ?_
      simp only [Act.put, List.getElem_toArray, List.getElem_cons_succ, List.getElem_cons_zero, List.setIfInBounds_toArray, List.set_cons_zero, List.set_cons_succ]
      refine wpAnyH_take (i := 11) (v := .int .i64 0) rfl (by kernel_rfl) (by kernel_rfl) (by kernel_rfl) (fun _ _ _ h => h) (Or.inl ⟨by rfl, fun wx hx => by simp [go_sem]⟩) hS ?_
      simp only [Act.put, List.getElem_toArray, List.getElem_cons_succ, List.getElem_cons_zero, List.setIfInBounds_toArray, List.set_cons_zero, List.set_cons_succ]
      refine wpAnyH_law 13 (by kernel_rfl) rfl (by rfl) (wp_store_mid 33 _ _ rfl ga 0 (cb x).toArray rfl rfl (hba.there 0 _ (by rw [List.size_toArray, cb_len, cb_len, HXL.out]; decide)) (by rw [List.size_toArray, cb_len, HXL.out]; exact info_digest) (all_oneCell_toArray (cb_one x)) ?_)
      rw [List.toList_toArray]
      have hk9 : ∀ k, k ≠ ga → (z8.setCells ga 0 (cb x)).heap[k]? = z8.heap[k]? := At'.setCells _ _ _ (fun _ _ => rfl)
      have hb9 := hba.whole (cb x) (by rw [cb_len, cb_len, HXL.out]; rfl)
      have hS9 : Pw w g1 x (z8.setCells ga 0 (cb x)) := hS.set hne hk9 (Below.setCells _ hgw _ _ _ hS.bel)
      refine ⟨hS9, ?_⟩
      simp only [Act.put, List.getElem_toArray, List.getElem_cons_succ, List.getElem_cons_zero]
      generalize z8.setCells ga 0 (cb x) = wE at *
      refine wpAnyH_take (i := 14) (v := .bool true) rfl (by kernel_rfl) (by kernel_rfl) (by kernel_rfl) (fun _ _ _ h => h) (Or.inl ⟨by rfl, fun wx hx => by simp [go_sem]⟩) hS9 ?_
      simp only [Act.put, List.getElem_toArray, List.getElem_cons_succ, List.getElem_cons_zero, List.setIfInBounds_toArray, List.set_cons_zero, List.set_cons_succ]
      refine wpAnyH_take (i := 15) (v := .int .i64 0) rfl (by kernel_rfl) (by kernel_rfl) (by kernel_rfl) (fun _ _ _ h => h) (Or.inl ⟨by rfl, fun wx hx => by simp [go_sem]⟩) hS9 ?_
      simp only [Act.put, List.getElem_toArray, List.getElem_cons_succ, List.getElem_cons_zero, List.setIfInBounds_toArray, List.set_cons_zero, List.set_cons_succ]
      refine wpAnyH_done (by kernel_rfl) ?_ _
      clear hk9 hS hba
      go_wp2
      go_meet
      case rel => exact ⟨ga, rfl, rfl, rfl, hS9, hb9⟩
  case rest =>
    clear HI
    obtain ⟨g2, rfl, rfl, rfl, hI, hk2⟩ := hcut
    have HBW : Hid (Below w.heap.size w wc) := hI.bel
    clear hI hk2
    go_wp2
    go_ret
    exact ⟨rfl, HBW.out⟩
end Go.Proofs.YtpeifpoeeopecaaDoor
/- The statement ClashWays, over clash's functions (layer 9). -/
namespace Go.Proofs.YtpeifpoeeopecaaDoor
open Go.RowKit
set_option maxRecDepth 100000
/-- where the statement stands -/
structure C9 (w : World) (gi gp gq : Nat) (i : List (BitVec 8)) (cp cq : List Value) (W : World) : Prop where
  ib : Blk W gi (cb i) 33
  pb : Blk W gp cp 36
  qb : Blk W gq cq 36
  bel : Below w.heap.size w W
theorem C9.next {w W W' : World} {gi gp gq : Nat} {i : List (BitVec 8)} {cp cq : List Value} (h : C9 w gi gp gq i cp cq W) (hb : Below W.heap.size W W') : C9 w gi gp gq i cp cq W' := ⟨h.ib.below hb h.ib.lt, h.pb.below hb h.pb.lt, h.qb.below hb h.qb.lt, h.bel.trans (hb.mono h.bel.size)⟩
theorem firstZ_nn (o : Option Nat) : decide ((0 : Int) ≤ firstZ o) = o.isSome := by cases o <;> simp [firstZ]
theorem right9_first {a b : List (List (BitVec 8))} {s t : List (BitVec 8)} {o : Bool} (h : (∃ k, o = true ∧ firstI a b = some k ∧ s = a.getD k [] ∧ t = b.getD k [] ∧ pairB9 s t = true) ∨ (o = false ∧ firstI a b = none ∧ s = [] ∧ t = [])) : right9 s t o (firstI a b).isSome = true := by
  rcases h with ⟨k, rfl, h2, _, _, h5⟩ | ⟨rfl, h2, rfl, rfl⟩
  · rw [h2]; simp [right9, h5]
  · rw [h2]; simp [right9]
theorem first_len {a b : List (List (BitVec 8))} {s t : List (BitVec 8)} {o : Bool} {N : Nat} (ha : ∀ t ∈ a, t.length ≤ N) (hb : ∀ t ∈ b, t.length ≤ N) (h : (∃ k, o = true ∧ firstI a b = some k ∧ s = a.getD k [] ∧ t = b.getD k [] ∧ pairB9 s t = true) ∨ (o = false ∧ firstI a b = none ∧ s = [] ∧ t = [])) : s.length ≤ N ∧ t.length ≤ N := by
  rcases h with ⟨k, _, h2, rfl, rfl, _⟩ | ⟨_, _, rfl, rfl⟩
  · obtain ⟨h6, h7, _⟩ := firstI_at h2
    exact ⟨mem_getD ha h6, mem_getD hb h7⟩
  · exact ⟨by simp, by simp⟩
set_option maxRecDepth 100000 in
set_option maxHeartbeats 8000000 in
theorem clashWays_law (hP : PfOps) (hC : ClOps) (i : List (BitVec 8)) (vp : Value) (sp : List (List (BitVec 8))) (ep : Int) (ixp vap : List (BitVec 8)) (vq : Value) (sq : List (List (BitVec 8))) (eq : Int) (ixq vaq : List (BitVec 8)) (hi : i.length = 32) (h1 : ixp.length = 32) (h2 : vap.length = 32) (h3 : ixq.length = 32) (h4 : vaq.length = 32) (w : World) (hK : KOk w) (hp : ReadsD w vp sp) (hq : ReadsD w vq sq) :
    Calls Tryd.prog 4 #[.agg (cb i).toArray, .agg (prfV vp ep ixp vap).toArray, .agg (prfV vq eq ixq vaq).toArray] w fun e w' => e = .returned (.bool true) ∧ Below w.heap.size w w' := by
  have HPO : Hid PfOps := hP
  have HCO : Hid ClOps := hC
  have HK0 : Hid (KOk w) := hK
  have HIL : Hid (i.length = 32) := hi
  have HP1 : Hid (ixp.length = 32) := h1
  have HP2 : Hid (vap.length = 32) := h2
  have HQ1 : Hid (ixq.length = 32) := h3
  have HQ2 : Hid (vaq.length = 32) := h4
  have HRP : Hid (ReadsD w vp sp) := hp
  have HRQ : Hid (ReadsD w vq sq) := hq
  obtain ⟨cp, HCP⟩ : ∃ c, Hid (c = prfV vp ep ixp vap) := ⟨_, rfl⟩
  obtain ⟨cq, HCQ⟩ : ∃ c, Hid (c = prfV vq eq ixq vaq) := ⟨_, rfl⟩
  have HP6 : Hid (cp.length = 66) := by show _ = _; rw [HCP.out]; exact prfV_len h1 h2
  have HQ6 : Hid (cq.length = 66) := by show _ = _; rw [HCQ.out]; exact prfV_len h3 h4
  obtain ⟨fp, HFP⟩ : ∃ z, Hid (z = decide (sp.length ≤ 300)) := ⟨_, rfl⟩
  obtain ⟨fq, HFQ⟩ : ∃ z, Hid (z = decide (sq.length ≤ 300)) := ⟨_, rfl⟩
  have HC1 : Hid (∀ W, Below w.heap.size w W → Calls Tryd.prog 14 #[.agg cp.toArray] W fun e w' => e = .returned (.bool fp) ∧ Below W.heap.size W w') := fun W hh => by rw [HCP.out, HFP.out]; exact few9_any _ sp ep ixp vap W (hp.below hh)
  have HC2 : Hid (∀ W, Below w.heap.size w W → Calls Tryd.prog 14 #[.agg cq.toArray] W fun e w' => e = .returned (.bool fq) ∧ Below W.heap.size W w') := fun W hh => by rw [HCQ.out, HFQ.out]; exact few9_any _ sq eq ixq vaq W (hq.below hh)
  have HWK : Hid (∀ W, Below w.heap.size w W → Calls Tryd.prog 13 #[] W fun e w' => e = .returned (.bool true) ∧ Below W.heap.size W w') := fun W hh => works9_any HPO.out HCO.out W (HK0.out.below hh HK0.out.lt)
  obtain ⟨lp, HLP⟩ : ∃ z, Hid (z = hashL i (endB ep ixp vap) 0 sp) := ⟨_, rfl⟩
  obtain ⟨lq, HLQ⟩ : ∃ z, Hid (z = hashL i (endB eq ixq vaq) 0 sq) := ⟨_, rfl⟩
  have HTP : Hid (∀ t ∈ lp, t.length ≤ 65) := fun t ht => hashL_le i _ (endB_le h1 h2) sp 0 hp.2 t (by rw [← HLP.out]; exact ht)
  have HTQ : Hid (∀ t ∈ lq, t.length ≤ 65) := fun t ht => hashL_le i _ (endB_le h3 h4) sq 0 hq.2 t (by rw [← HLQ.out]; exact ht)
  rw [← HCP.out, ← HCQ.out]
  go_enter Tryd.func4, Tryd.ntmps4
  clear hi h1 h2 h3 h4 hp hq hP hC hK
  go_upto_region 1 with (first
    | (with_reducible refine wpSeq_boxD (.tmp 0) i ?_ ?_ ?_ ?_
       · rfl
       · rfl
       · rfl
       intro gi w0 nn0)
    | (with_reducible refine wpSeq_boxP (.tmp 1) cp ?_ ?_ ?_ ?_
       · rfl
       · rfl
       · rfl
       intro gp w1 nn1)
    | (with_reducible refine wpSeq_boxP (.tmp 2) cq ?_ ?_ ?_ ?_
       · rfl
       · rfl
       · rfl
       intro gq w2 nn2
       have HI : Hid (C9 w gi gp gq i cp cq w2) := by
         have hb1 := nn0.below.trans (nn1.below.mono nn0.below.size)
         have x1 := nn0.blk.below nn1.below nn0.blk.lt
         exact ⟨x1.below nn2.below x1.lt, nn1.blk.below nn2.below nn1.blk.lt, nn2.blk, hb1.trans (nn2.below.mono hb1.size)⟩
       clear nn0 nn1 nn2))
  cases fp with
  | false =>
    clear HC2
    go_wp2_with (first
      | (with_reducible refine wpSeq_loadP (.tmp 4) gp cp ?_ ?_ ?_ ?_ ?_ ?_
         · exact HP6.out
         · exact HI.out.pb
         · rfl
         · rfl
         · rfl)
      | (go_at_call 14; refine (HC1.out _ HI.out.bel).mono ?_; rintro e w3 ⟨rfl, hbz⟩
         replace HI : Hid (C9 w gi gp gq i cp cq w3) := HI.out.next hbz
         clear hbz HC1)
      | (go_at_call 13; refine (HWK.out _ HI.out.bel).mono ?_; rintro e wz ⟨rfl, hbz⟩
         replace HI : Hid (C9 w gi gp gq i cp cq wz) := HI.out.next hbz
         clear hbz))
    go_ret
    exact ⟨rfl, HI.out.bel⟩
  | true =>
    have HP3 : Hid (sp.length ≤ 300) := show sp.length ≤ 300 from of_decide_eq_true HFP.out.symm
    cases fq with
    | false =>
      go_wp2_with (first
        | (with_reducible refine wpSeq_loadP (.tmp 4) gp cp ?_ ?_ ?_ ?_ ?_ ?_
           · exact HP6.out
           · exact HI.out.pb
           · rfl
           · rfl
           · rfl)
        | (with_reducible refine wpSeq_loadP (.tmp 5) gq cq ?_ ?_ ?_ ?_ ?_ ?_
           · exact HQ6.out
           · exact HI.out.qb
           · rfl
           · rfl
           · rfl)
        | (go_at_call 14; refine (HC1.out _ HI.out.bel).mono ?_; rintro e w3 ⟨rfl, hbz⟩
           replace HI : Hid (C9 w gi gp gq i cp cq w3) := HI.out.next hbz
           clear hbz HC1)
        | (go_at_call 14; refine (HC2.out _ HI.out.bel).mono ?_; rintro e w4 ⟨rfl, hbz⟩
           replace HI : Hid (C9 w gi gp gq i cp cq w4) := HI.out.next hbz
           clear hbz HC2)
        | (go_at_call 13; refine (HWK.out _ HI.out.bel).mono ?_; rintro e wz ⟨rfl, hbz⟩
           replace HI : Hid (C9 w gi gp gq i cp cq wz) := HI.out.next hbz
           clear hbz))
      go_ret
      exact ⟨rfl, HI.out.bel⟩
    | true =>
      have HQ3 : Hid (sq.length ≤ 300) := show sq.length ≤ 300 from of_decide_eq_true HFQ.out.symm
      have HCA : Hid (∀ W, Below w.heap.size w W → Calls Tryd.prog 15 #[.agg (cb i).toArray, .agg cp.toArray, .agg cq.toArray] W fun e w' => ∃ x y o, e = .returned (.tuple #[x, y, .bool o]) ∧ FirstR w' lp lq x y o ∧ Below W.heap.size W w') := fun W hh => by rw [HCP.out, HCQ.out, HLP.out, HLQ.out]; exact HCO.out.ways W i vp sp ep ixp vap vq sq eq ixq vaq (HK0.out.below hh HK0.out.lt) HIL.out HP1.out HP2.out HQ1.out HQ2.out (HRP.out.below hh) (HRQ.out.below hh) HP3.out HQ3.out
      obtain ⟨z, HZ⟩ : ∃ z, Hid (z = firstZ (firstI lp lq)) := ⟨_, rfl⟩
      have HCB : Hid (∀ W, Below w.heap.size w W → Calls Tryd.prog 16 #[.agg (cb i).toArray, .agg cp.toArray, .agg cq.toArray] W fun e w' => e = .returned (.int .i64 z) ∧ Below W.heap.size W w') := fun W hh => by rw [HCP.out, HCQ.out, HZ.out, HLP.out, HLQ.out]; exact qWays_any i vp sp ep ixp vap vq sq eq ixq vaq W HIL.out HP1.out HP2.out HQ1.out HQ2.out (HRP.out.below hh) (HRQ.out.below hh) HP3.out HQ3.out
      go_upto_region 3 with (first
        | (with_reducible refine wpSeq_loadP (.tmp 4) gp cp ?_ ?_ ?_ ?_ ?_ ?_
           · exact HP6.out
           · exact HI.out.pb
           · rfl
           · rfl
           · rfl)
        | (with_reducible refine wpSeq_loadP (.tmp 5) gq cq ?_ ?_ ?_ ?_ ?_ ?_
           · exact HQ6.out
           · exact HI.out.qb
           · rfl
           · rfl
           · rfl)
        | (go_at_call 14; refine (HC1.out _ HI.out.bel).mono ?_; rintro e w3 ⟨rfl, hbz⟩
           replace HI : Hid (C9 w gi gp gq i cp cq w3) := HI.out.next hbz
           clear hbz HC1)
        | (go_at_call 14; refine (HC2.out _ HI.out.bel).mono ?_; rintro e w4 ⟨rfl, hbz⟩
           replace HI : Hid (C9 w gi gp gq i cp cq w4) := HI.out.next hbz
           clear hbz HC2))
      go_upto_region 4 with (first
        | (with_reducible refine wpSeq_loadD (.tmp 3) gi i ?_ ?_ ?_ ?_ ?_ ?_
           · exact HIL.out
           · exact HI.out.ib
           · with_reducible rfl
           · rfl
           · rfl)
        | (with_reducible refine wpSeq_loadP (.tmp 4) gp cp ?_ ?_ ?_ ?_ ?_ ?_
           · exact HP6.out
           · exact HI.out.pb
           · rfl
           · rfl
           · rfl)
        | (with_reducible refine wpSeq_loadP (.tmp 5) gq cq ?_ ?_ ?_ ?_ ?_ ?_
           · exact HQ6.out
           · exact HI.out.qb
           · rfl
           · rfl
           · rfl)
        | (go_at_call 15; refine (HCA.out _ HI.out.bel).mono ?_; rintro e w5 ⟨vx, vy, o, rfl, hf, hbz⟩
           replace HI : Hid (C9 w gi gp gq i cp cq w5) := HI.out.next hbz
           obtain ⟨s, t, hs, ht, hst⟩ := hf.both
           have HRS : Hid (Reads w5 vx s) := hs
           have HRT : Hid (Reads w5 vy t) := ht
           have HRR : Hid (right9 s t o (firstI lp lq).isSome = true) := right9_first hst
           have HLL : Hid (s.length ≤ 65 ∧ t.length ≤ 65) := first_len HTP.out HTQ.out hst
           clear hbz hf hs ht hst HCA))
      obtain ⟨ax, nx, cx, hvx⟩ := HRS.out.form
      subst hvx
      obtain ⟨ay, ny, cy, hvy⟩ := HRT.out.form
      subst hvy
      obtain ⟨wt, HWT⟩ : ∃ q, Hid (q = (firstI lp lq).isSome) := ⟨_, rfl⟩
      have fz : decide ((0 : Int) ≤ z) = wt := by rw [HZ.out, HWT.out]; exact firstZ_nn _
      have HC5 : Hid (∀ W, Below w5.heap.size w5 W → Calls Tryd.prog 10 #[.slice ax nx cx, .slice ay ny cy, .bool o, .bool wt] W fun e w' => e = .returned (.bool true) ∧ Below W.heap.size W w') := fun W hh => by
        have h := right9_any _ _ s t o wt W (HRS.out.below hh) (HRT.out.below hh) (by have := HLL.out; omega) (by have := HLL.out; omega)
        rw [HWT.out, HRR.out, ← HWT.out] at h
        exact h
      have HB5 : Hid (Below w5.heap.size w5 w5) := Below.refl _ _
      go_wp2_with (first
        | (with_reducible refine wpSeq_loadD (.tmp 3) gi i ?_ ?_ ?_ ?_ ?_ ?_
           · exact HIL.out
           · exact HI.out.ib
           · with_reducible rfl
           · rfl
           · rfl)
        | (with_reducible refine wpSeq_loadP (.tmp 4) gp cp ?_ ?_ ?_ ?_ ?_ ?_
           · exact HP6.out
           · exact HI.out.pb
           · rfl
           · rfl
           · rfl)
        | (with_reducible refine wpSeq_loadP (.tmp 5) gq cq ?_ ?_ ?_ ?_ ?_ ?_
           · exact HQ6.out
           · exact HI.out.qb
           · rfl
           · rfl
           · rfl)
        | (go_at_call 16; refine (HCB.out _ HI.out.bel).mono ?_; rintro e w6 ⟨rfl, hbz⟩
           replace HI : Hid (C9 w gi gp gq i cp cq w6) := HI.out.next hbz
           replace HB5 : Hid (Below w5.heap.size w5 w6) := hbz
           clear hbz HCB)
        | (go_at_call 10; refine (HC5.out _ HB5.out).mono ?_; rintro e w7 ⟨rfl, hbz⟩
           replace HI : Hid (C9 w gi gp gq i cp cq w7) := HI.out.next hbz
           clear hbz HC5)
        | (go_at_call 13; refine (HWK.out _ HI.out.bel).mono ?_; rintro e wz ⟨rfl, hbz⟩
           replace HI : Hid (C9 w gi gp gq i cp cq wz) := HI.out.next hbz
           clear hbz))
      go_ret
      exact ⟨rfl, HI.out.bel⟩
end Go.Proofs.YtpeifpoeeopecaaDoor
/- Roots and bindings in memory, held against each other; the reference's Root and Value (layer 9). -/
namespace Go.Proofs.YtpeifpoeeopecaaDoor
open Go.RowKit
set_option maxRecDepth 100000
theorem part_dig (A C : List Value) (x : List (BitVec 8)) (off : Nat) (hA : A.length = off) (hx : x.length = 32) (w : World) : (part 33 (A ++ (cb x ++ C)).toArray off).run Tryd.prog w = .ok (.agg (cb x).toArray) w := by
  have ha : (isAgg 33).run Tryd.prog w = .ok true w := by kernel_rfl
  have hs : (sizeOf 33).run Tryd.prog w = .ok 32 w := by kernel_rfl
  have e : (A ++ (cb x ++ C)).toArray.extract off (off + 32) = (cb x).toArray := by
    rw [List.extract_toArray, List.extract_eq_take_drop, show off + 32 - off = 32 by omega, ← hA, List.drop_left, show (32 : Nat) = (cb x).length by rw [cb_len, hx], List.take_left]
  simp only [part, Sem.run_bind, ha, Result.andThen_ok, if_true, hs, Sem.run_pure, e]
theorem part_u64 (n : Nat) (r : List Value) (w : World) : (part 54 (Value.int .u64 (n : Int) :: r).toArray 0).run Tryd.prog w = .ok (.int .u64 (n : Int)) w := by
  have ha : (isAgg 54).run Tryd.prog w = .ok false w := by kernel_rfl
  simp only [part, Sem.run_bind, ha, Result.andThen_ok]
  simp
theorem eq_root (n m : Nat) (x y z a b c : List (BitVec 8)) (hx : x.length = 32) (hy : y.length = 32) (hz : z.length = 32) (ha : a.length = 32) (hb : b.length = 32) (hc : c.length = 32) (w : World) :
    (Op.equalIn 10000 56 (.agg (Value.int .u64 (n : Int) :: (cb x ++ (cb y ++ cb z))).toArray) (.agg (Value.int .u64 (m : Int) :: (cb a ++ (cb b ++ cb c))).toArray)).run Tryd.prog w = .ok (decide (n = m ∧ x = a ∧ y = b ∧ z = c)) w := by
  have hst : Tryd.prog.stoodInHeld 56 = false := by kernel_rfl
  have pn := fun w => part_u64 n (cb x ++ (cb y ++ cb z)) w
  have pm := fun w => part_u64 m (cb a ++ (cb b ++ cb c)) w
  have px : ∀ w, (part 33 (Value.int .u64 (n : Int) :: (cb x ++ (cb y ++ cb z))).toArray 1).run Tryd.prog w = .ok (.agg (cb x).toArray) w := fun w => part_dig [_] (cb y ++ cb z) x 1 rfl hx w
  have pa : ∀ w, (part 33 (Value.int .u64 (m : Int) :: (cb a ++ (cb b ++ cb c))).toArray 1).run Tryd.prog w = .ok (.agg (cb a).toArray) w := fun w => part_dig [_] (cb b ++ cb c) a 1 rfl ha w
  have py : ∀ w, (part 33 (Value.int .u64 (n : Int) :: (cb x ++ (cb y ++ cb z))).toArray 33).run Tryd.prog w = .ok (.agg (cb y).toArray) w := fun w => by
    have := part_dig (Value.int .u64 (n : Int) :: cb x) (cb z) y 33 (by rw [List.length_cons, cb_len, hx]) hy w
    rwa [List.cons_append] at this
  have pb : ∀ w, (part 33 (Value.int .u64 (m : Int) :: (cb a ++ (cb b ++ cb c))).toArray 33).run Tryd.prog w = .ok (.agg (cb b).toArray) w := fun w => by
    have := part_dig (Value.int .u64 (m : Int) :: cb a) (cb c) b 33 (by rw [List.length_cons, cb_len, ha]) hb w
    rwa [List.cons_append] at this
  have pz : ∀ w, (part 33 (Value.int .u64 (n : Int) :: (cb x ++ (cb y ++ cb z))).toArray 65).run Tryd.prog w = .ok (.agg (cb z).toArray) w := fun w => by
    have := part_dig (Value.int .u64 (n : Int) :: (cb x ++ cb y)) [] z 65 (by rw [List.length_cons, List.length_append, cb_len, cb_len, hx, hy]) hz w
    rwa [List.cons_append, List.append_nil, List.append_assoc] at this
  have pc : ∀ w, (part 33 (Value.int .u64 (m : Int) :: (cb a ++ (cb b ++ cb c))).toArray 65).run Tryd.prog w = .ok (.agg (cb c).toArray) w := fun w => by
    have := part_dig (Value.int .u64 (m : Int) :: (cb a ++ cb b)) [] c 65 (by rw [List.length_cons, List.length_append, cb_len, cb_len, ha, hb]) hc w
    rwa [List.cons_append, List.append_nil, List.append_assoc] at this
  have ex : ∀ w, (Op.equalIn 9999 33 (.agg (cb x).toArray) (.agg (cb a).toArray)).run Tryd.prog w = .ok (decide (x = a)) w := fun w => eq_digs 9997 x a hx ha w
  have ey : ∀ w, (Op.equalIn 9999 33 (.agg (cb y).toArray) (.agg (cb b).toArray)).run Tryd.prog w = .ok (decide (y = b)) w := fun w => eq_digs 9997 y b hy hb w
  have ez : ∀ w, (Op.equalIn 9999 33 (.agg (cb z).toArray) (.agg (cb c).toArray)).run Tryd.prog w = .ok (decide (z = c)) w := fun w => eq_digs 9997 z c hz hc w
  have en : ∀ w, (Op.equalIn 9999 54 (.int .u64 (n : Int)) (.int .u64 (m : Int))).run Tryd.prog w = .ok ((n : Int) == (m : Int)) w := fun w => run_equalIn_int w 9998 54 .u64 .u64 _ _ Tryd.underlying54
  rw [show (10000 : Nat) = 9999 + 1 from rfl, Op.equalIn]
  simp only [Sem.run_bind, run_underlying Tryd.underlying56, Result.andThen_ok]
  have hp : ∀ w, (program).run Tryd.prog w = .ok Tryd.prog w := fun _ => rfl
  have hd : decide (n = m ∧ x = a ∧ y = b ∧ z = c) = (((n : Int) == (m : Int)) && (decide (x = a) && (decide (y = b) && decide (z = c)))) := by
    have e : ((n : Int) == (m : Int)) = decide (n = m) := by
      rw [Bool.eq_iff_iff, beq_iff_eq, decide_eq_true_iff]; omega
    rw [e]; simp
  rw [hd]
  generalize ((n : Int) == (m : Int)) = bn at *
  generalize decide (x = a) = bx at *
  generalize decide (y = b) = by' at *
  generalize decide (z = c) = bz at *
  clear hd
  simp only [hp, Result.andThen_ok, hst, Bool.false_eq_true, if_false, List.forIn_toArray, List.forIn_cons, List.forIn_nil, Sem.run_bind]
  cases bn <;> cases bx <;> cases by' <;> cases bz <;> simp [pn, pm, px, pa, py, pb, pz, pc, en, ex, ey, ez]
theorem num8_inj {n m : Nat} (hn : n < 18446744073709551616) (hm : m < 18446744073709551616) (h : num8 n = num8 m) : n = m := by
  have e : ∀ j, j < 8 → n / 2 ^ (56 - 8 * j) % 256 = m / 2 ^ (56 - 8 * j) % 256 := by
    intro j hj
    have h1 := congrArg (fun l : List (BitVec 8) => (l.getD j 0).toNat) h
    simp only [num8, tl8] at h1
    simpa [List.getD_eq_getElem?_getD, hj] using h1
  have e0 := e 0 (by omega)
  have e1 := e 1 (by omega)
  have e2 := e 2 (by omega)
  have e3 := e 3 (by omega)
  have e4 := e 4 (by omega)
  have e5 := e 5 (by omega)
  have e6 := e 6 (by omega)
  have e7 := e 7 (by omega)
  simp at e0 e1 e2 e3 e4 e5 e6 e7
  omega
theorem app_inj {α : Type} {a b c d : List α} (hl : a.length = c.length) : a ++ b = c ++ d ↔ a = c ∧ b = d := by
  constructor
  · intro h
    exact List.append_inj h hl
  · rintro ⟨rfl, rfl⟩; rfl
theorem num8_iff {n m : Nat} (hn : n < 18446744073709551616) (hm : m < 18446744073709551616) : num8 n = num8 m ↔ n = m := ⟨num8_inj hn hm, fun h => by rw [h]⟩
theorem rootB_iff {n m : Nat} {x y z a b c : List (BitVec 8)} (h : x.length = 32 ∧ y.length = 32 ∧ z.length = 32 ∧ n < 18446744073709551616) (k : a.length = 32 ∧ b.length = 32 ∧ c.length = 32 ∧ m < 18446744073709551616) :
    rootB n x y z = rootB m a b c ↔ n = m ∧ x = a ∧ y = b ∧ z = c := by
  unfold rootB
  rw [List.cons_inj_right, app_inj (by rw [len_num8, len_num8]), app_inj (by omega), app_inj (by omega), num8_iff h.2.2.2 k.2.2.2]
theorem valueB_iff {x y nm nn ky kk : List (BitVec 8)} {s t : Nat} (h : x.length = 32) (k : y.length = 32) (h1 : nm.length ≤ 4000 ∧ s < 18446744073709551616) (k1 : nn.length ≤ 4000 ∧ t < 18446744073709551616) :
    valueB x nm s ky = valueB y nn t kk ↔ x = y ∧ nm = nn ∧ s = t ∧ ky = kk := by
  unfold valueB
  rw [List.cons_inj_right, app_inj (by omega), app_inj (by rw [len_num8, len_num8]), num8_iff (by omega) (by omega)]
  constructor
  · rintro ⟨rfl, hl, h2⟩
    obtain ⟨rfl, h3⟩ := (app_inj hl).1 h2
    obtain ⟨h4, rfl⟩ := (app_inj (by rw [len_num8, len_num8])).1 h3
    exact ⟨rfl, rfl, num8_inj h1.2 k1.2 h4, rfl⟩
  · rintro ⟨rfl, rfl, rfl, rfl⟩; exact ⟨rfl, rfl, rfl⟩
theorem info_binding : (Tryd.prog.info? 59).map (·.size) = some 3 := by kernel_rfl
theorem info_root0 : (Tryd.prog.info? 56).map (·.size) = some 97 := by kernel_rfl
theorem info_root (v : Value) (x y z : List (BitVec 8)) (h : x.length = 32 ∧ y.length = 32 ∧ z.length = 32) : (Tryd.prog.info? 56).map (·.size) = some (v :: (cb x ++ (cb y ++ cb z))).length := by
  rw [info_root0, List.length_cons, List.length_append, List.length_append, cb_len, cb_len, cb_len, h.1, h.2.1, h.2.2]
theorem len_rootB (n : Nat) (x y z : List (BitVec 8)) (h : x.length = 32 ∧ y.length = 32 ∧ z.length = 32) : (rootB n x y z).length = 105 := by simp [rootB, h.1, h.2.1, h.2.2, len_num8]
theorem len_valueB (x nm : List (BitVec 8)) (sr : Nat) (ky : List (BitVec 8)) (hx : x.length = 32) : (valueB x nm sr ky).length = 49 + nm.length + ky.length := by simp [valueB, hx, len_num8]; omega
/-- a row in a new block -/
theorem wpSeq_boxR {ops : Array Oper} {Q : Exit → Act → World → Prop} {rest : List Oper} {o : Oper} {a : Act} {w : World} (ty : TypeId) (x : Operand) (cs : List Value) (ho : o.op = .box ty x) (hx : a.eval x = .agg cs.toArray) (hw : Region.wanted o (yielded ops a.tmps) = true)
    (h : ∀ g w', Blk w' g cs ty → Below w.heap.size w w' → wpList Tryd.prog ops Q rest (a.put o.dst (.pointer (some ⟨g, 0, none⟩))) w') : wpList Tryd.prog ops Q (o :: rest) a w :=
  wpSeq_box ty x ho cs hx hw _ rfl (h _ _ (Blk.new w cs ty) (below_alloc _ _))
theorem wpSeq_loadRow {ops : Array Oper} {Q : Exit → Act → World → Prop} {rest : List Oper} {o : Oper} {a : Act} {w : World} (ty : TypeId) (x : Operand) (g : Nat) (cs : List Value) (d : TypeDesc) (hb : Blk w g cs ty) (hu : Tryd.prog.underlying ty = some d) (hd : d.isRow = true) (hi : (Tryd.prog.info? ty).map (·.size) = some cs.length) (ho : o.op = .load ty x) (hx : a.eval x = .pointer (some ⟨g, 0, none⟩)) (hw : Region.wanted o (yielded ops a.tmps) = true)
    (h : wpList Tryd.prog ops Q rest (a.put o.dst (.agg cs.toArray)) w) : wpList Tryd.prog ops Q (o :: rest) a w :=
  wpSeq_val _ _ hw (load_run ty x ho g 0 hx cs d hb.range hu hd hi) h
def rootC (n : Nat) (x y z : List (BitVec 8)) : List Value := Value.int .u64 (n : Int) :: (cb x ++ (cb y ++ cb z))
def bindC (nm : List (BitVec 8)) (vk : Value) (sr : Nat) : List Value := [.string (strB nm), vk, .int .u64 (sr : Int)]
set_option maxRecDepth 100000 in
set_option maxHeartbeats 4000000 in
theorem hRoot_any (n : Nat) (x y z : List (BitVec 8)) (w : World) (hn : x.length = 32 ∧ y.length = 32 ∧ z.length = 32 ∧ n < 18446744073709551616) :
    Calls Tryd.prog 24 #[.agg (rootC n x y z).toArray] w fun e w' => e = .returned (.agg (cb (dig (rootB n x y z))).toArray) ∧ Below w.heap.size w w' := by
  obtain ⟨r, HRD⟩ : ∃ r, Hid (r = dig (rootB n x y z)) := ⟨_, rfl⟩
  have HRL : Hid (r.length = 32) := by show _ = _; rw [HRD.out]; exact len_dig' _
  obtain ⟨cs, HCS⟩ : ∃ c, Hid (c = rootC n x y z) := ⟨_, rfl⟩
  have HIN : Hid ((Tryd.prog.info? 56).map (·.size) = some cs.length) := by rw [HCS.out]; exact info_root _ x y z ⟨hn.1, hn.2.1, hn.2.2.1⟩
  have HC : Hid (∀ W, Calls Tryd.prog 43 #[.agg cs.toArray] W fun e w' => ∃ v, e = .returned v ∧ Reads w' v (rootB n x y z) ∧ Below W.heap.size W w') := fun W => by rw [HCS.out]; exact rRoot_any x y z n W hn
  have HLB : Hid ((rootB n x y z).length = 105) := len_rootB n x y z ⟨hn.1, hn.2.1, hn.2.2.1⟩
  rw [← HRD.out, ← HCS.out]
  clear hn
  have HBW : Hid (Below w.heap.size w w) := Below.refl _ _
  go_enter Tryd.func24, Tryd.ntmps24
  go_wp2_with (first
    | (with_reducible refine wpSeq_boxR 56 (.tmp 0) cs ?_ ?_ ?_ ?_
       · rfl
       · rfl
       · rfl
       intro g1 w1 hb1 hl1
       have HX : Hid (Blk w1 g1 cs 56) := hb1
       replace HBW : Hid (Below w.heap.size w w1) := HBW.out.trans (hl1.mono HBW.out.size)
       clear hb1 hl1)
    | (with_reducible refine wpSeq_allocD ?_ ?_ ?_
       · rfl
       · rfl
       intro g2 w2 nn
       replace HX : Hid (Blk w2 g1 cs 56) := HX.out.below nn.below HX.out.lt
       have HZ : Hid (Blk w2 g2 (cb zb32) 33 ∧ w.heap.size ≤ g2) := ⟨nn.blk, Nat.le_trans HBW.out.size nn.ge⟩
       replace HBW : Hid (Below w.heap.size w w2) := HBW.out.trans (nn.below.mono HBW.out.size)
       clear nn)
    | (with_reducible refine wpSeq_loadRow 56 (.tmp 1) g1 cs _ ?_ Tryd.underlying56 rfl ?_ ?_ ?_ ?_ ?_
       · exact HX.out
       · exact HIN.out
       · rfl
       · rfl
       · rfl)
    | (go_at_call 43; refine (HC.out _).mono ?_; rintro e w3 ⟨v3, rfl, hr3, hb3⟩
       obtain ⟨a3, n3, c3, hv3⟩ := hr3.form
       subst hv3
       have HR3 : Hid (Reads w3 (.slice a3 n3 c3) (rootB n x y z)) := hr3
       replace HZ : Hid (Blk w3 g2 (cb zb32) 33 ∧ w.heap.size ≤ g2) := ⟨HZ.out.1.below hb3 HZ.out.1.lt, HZ.out.2⟩
       replace HBW : Hid (Below w.heap.size w w3) := HBW.out.trans (hb3.mono HBW.out.size)
       clear hb3 hr3)
    | (go_at_call 32; refine (rOf_any _ _ _ HR3.out (by have := HLB.out; omega)).mono ?_; rintro e w4 ⟨rfl, hb4⟩; rw [← HRD.out]
       replace HZ : Hid (Blk w4 g2 (cb zb32) 33 ∧ w.heap.size ≤ g2) := ⟨HZ.out.1.below hb4 HZ.out.1.lt, HZ.out.2⟩
       replace HBW : Hid (Below w.heap.size w w4) := HBW.out.trans (hb4.mono HBW.out.size)
       clear hb4 HR3)
    | (with_reducible refine wpSeq_storeD (.tmp 2) (.tmp 5) g2 zb32 r ?_ ?_ ?_ ?_ ?_ ?_ ?_ ?_
       · rfl
       · exact HRL.out
       · exact HZ.out.1
       · rfl
       · rfl
       · rfl
       · rfl
       intro w9 h9))
  exact bodyPost_ret (v := .agg (cb r).toArray) (results_cell_row (by rfl) _ _ g2 33 _ (0, 0) _ rfl h9.blk Tryd.underlying33 rfl (by rw [List.size_toArray, cb_len, HRL.out]; exact info_digest)) rfl ⟨rfl, HBW.out.trans (h9.only.below HZ.out.2 HBW.out.size)⟩
set_option maxRecDepth 100000 in
set_option maxHeartbeats 4000000 in
theorem hValue_any (x nm ky : List (BitVec 8)) (vk : Value) (sr : Nat) (w : World) (hx : x.length = 32) (hk : Reads w vk ky) (hn : nm.length ≤ 4000 ∧ ky.length ≤ 4000 ∧ sr < 18446744073709551616) :
    Calls Tryd.prog 27 #[.agg (cb x).toArray, .agg (bindC nm vk sr).toArray] w fun e w' => e = .returned (.agg (cb (dig (valueB x nm sr ky))).toArray) ∧ Below w.heap.size w w' := by
  obtain ⟨r, HRD⟩ : ∃ r, Hid (r = dig (valueB x nm sr ky)) := ⟨_, rfl⟩
  have HRL : Hid (r.length = 32) := by show _ = _; rw [HRD.out]; exact len_dig' _
  have HXL : Hid (x.length = 32) := hx
  obtain ⟨cs, HCS⟩ : ∃ c, Hid (c = bindC nm vk sr) := ⟨_, rfl⟩
  have HIN : Hid ((Tryd.prog.info? 59).map (·.size) = some cs.length) := by rw [HCS.out]; exact info_binding
  have HC : Hid (∀ W, Below w.heap.size w W → Calls Tryd.prog 45 #[.agg (cb x).toArray, .agg cs.toArray] W fun e w' => ∃ v, e = .returned v ∧ Reads w' v (valueB x nm sr ky) ∧ Below W.heap.size W w') := fun W hh => by rw [HCS.out]; exact rValue_any x nm ky vk sr W hx (hk.below hh) ⟨by omega, by omega, hn.2.2⟩
  have HLB : Hid ((valueB x nm sr ky).length ≤ 10000) := by show _ ≤ _; rw [len_valueB x nm sr ky hx]; omega
  rw [← HRD.out, ← HCS.out]
  clear hn hk hx
  have HBW : Hid (Below w.heap.size w w) := Below.refl _ _
  go_enter Tryd.func27, Tryd.ntmps27
  go_wp2_with (first
    | (with_reducible refine wpSeq_boxD (.tmp 0) x ?_ ?_ ?_ ?_
       · rfl
       · rfl
       · rfl
       intro g0 w0 nn0
       have HD0 : Hid (Blk w0 g0 (cb x) 33) := nn0.blk
       replace HBW : Hid (Below w.heap.size w w0) := HBW.out.trans (nn0.below.mono HBW.out.size)
       clear nn0)
    | (with_reducible refine wpSeq_boxR 59 (.tmp 1) cs ?_ ?_ ?_ ?_
       · rfl
       · rfl
       · rfl
       intro g1 w1 hb1 hl1
       have HX : Hid (Blk w1 g1 cs 59) := hb1
       replace HD0 : Hid (Blk w1 g0 (cb x) 33) := HD0.out.below hl1 HD0.out.lt
       replace HBW : Hid (Below w.heap.size w w1) := HBW.out.trans (hl1.mono HBW.out.size)
       clear hb1 hl1)
    | (with_reducible refine wpSeq_allocD ?_ ?_ ?_
       · rfl
       · rfl
       intro g2 w2 nn
       replace HX : Hid (Blk w2 g1 cs 59) := HX.out.below nn.below HX.out.lt
       replace HD0 : Hid (Blk w2 g0 (cb x) 33) := HD0.out.below nn.below HD0.out.lt
       have HZ : Hid (Blk w2 g2 (cb zb32) 33 ∧ w.heap.size ≤ g2) := ⟨nn.blk, Nat.le_trans HBW.out.size nn.ge⟩
       replace HBW : Hid (Below w.heap.size w w2) := HBW.out.trans (nn.below.mono HBW.out.size)
       clear nn)
    | (with_reducible refine wpSeq_loadD (.tmp 2) g0 x ?_ ?_ ?_ ?_ ?_ ?_
       · exact HXL.out
       · exact HD0.out
       · with_reducible rfl
       · rfl
       · rfl)
    | (with_reducible refine wpSeq_loadRow 59 (.tmp 3) g1 cs _ ?_ Tryd.underlying59 rfl ?_ ?_ ?_ ?_ ?_
       · exact HX.out
       · exact HIN.out
       · rfl
       · rfl
       · rfl)
    | (go_at_call 45; refine (HC.out _ HBW.out).mono ?_; rintro e w3 ⟨v3, rfl, hr3, hb3⟩
       obtain ⟨a3, n3, c3, hv3⟩ := hr3.form
       subst hv3
       have HR3 : Hid (Reads w3 (.slice a3 n3 c3) (valueB x nm sr ky)) := hr3
       replace HZ : Hid (Blk w3 g2 (cb zb32) 33 ∧ w.heap.size ≤ g2) := ⟨HZ.out.1.below hb3 HZ.out.1.lt, HZ.out.2⟩
       replace HBW : Hid (Below w.heap.size w w3) := HBW.out.trans (hb3.mono HBW.out.size)
       clear hb3 hr3)
    | (go_at_call 32; refine (rOf_any _ _ _ HR3.out (by have := HLB.out; omega)).mono ?_; rintro e w4 ⟨rfl, hb4⟩; rw [← HRD.out]
       replace HZ : Hid (Blk w4 g2 (cb zb32) 33 ∧ w.heap.size ≤ g2) := ⟨HZ.out.1.below hb4 HZ.out.1.lt, HZ.out.2⟩
       replace HBW : Hid (Below w.heap.size w w4) := HBW.out.trans (hb4.mono HBW.out.size)
       clear hb4 HR3)
    | (with_reducible refine wpSeq_storeD (.tmp 4) (.tmp 8) g2 zb32 r ?_ ?_ ?_ ?_ ?_ ?_ ?_ ?_
       · rfl
       · exact HRL.out
       · exact HZ.out.1
       · rfl
       · rfl
       · rfl
       · rfl
       intro w9 h9))
  exact bodyPost_ret (v := .agg (cb r).toArray) (results_cell_row (by rfl) _ _ g2 33 _ (0, 0) _ rfl h9.blk Tryd.underlying33 rfl (by rw [List.size_toArray, cb_len, HRL.out]; exact info_digest)) rfl ⟨rfl, HBW.out.trans (h9.only.below HZ.out.2 HBW.out.size)⟩
end Go.Proofs.YtpeifpoeeopecaaDoor
/- The walks of clash's Ways, Roots and Values as they landed; clash's functions do what the chapter says (layer 9). -/
namespace Go.Proofs.YtpeifpoeeopecaaDoor
open Go.RowKit
set_option maxRecDepth 100000
set_option maxRecDepth 100000 in
set_option maxHeartbeats 8000000 in
theorem cWays_any (hP : PfOps) (hF : ∀ (W : World) (va vb : Value) (a b : List (List (BitVec 8))), KOk W → ReadsL W va a → ReadsL W vb b → a.length < 4611686018427387904 → (∀ t ∈ a, t.length < 140737488355000) → (∀ t ∈ b, t.length < 140737488355000) → Calls Tryd.prog 8 #[va, vb] W fun e w' => ∃ x y o, e = .returned (.tuple #[x, y, .bool o]) ∧ FirstR w' a b x y o ∧ Below W.heap.size W w')
    (i : List (BitVec 8)) (vp : Value) (sp : List (List (BitVec 8))) (ep : Int) (ixp vap : List (BitVec 8)) (vq : Value) (sq : List (List (BitVec 8))) (eq : Int) (ixq vaq : List (BitVec 8)) (w : World) (hK : KOk w) (hi : i.length = 32) (h1 : ixp.length = 32) (h2 : vap.length = 32) (h3 : ixq.length = 32) (h4 : vaq.length = 32) (hp : ReadsD w vp sp) (hq : ReadsD w vq sq) (hlp : sp.length ≤ 300) (hlq : sq.length ≤ 300) :
    Calls Tryd.prog 15 #[.agg (cb i).toArray, .agg (prfV vp ep ixp vap).toArray, .agg (prfV vq eq ixq vaq).toArray] w fun e w' => ∃ x y o, e = .returned (.tuple #[x, y, .bool o]) ∧ FirstR w' (hashL i (endB ep ixp vap) 0 sp) (hashL i (endB eq ixq vaq) 0 sq) x y o ∧ Below w.heap.size w w' := by
  have HK : Hid (KOk w) := hK
  have HIL : Hid (i.length = 32) := hi
  obtain ⟨cp, HCP⟩ : ∃ c, Hid (c = prfV vp ep ixp vap) := ⟨_, rfl⟩
  obtain ⟨cq, HCQ⟩ : ∃ c, Hid (c = prfV vq eq ixq vaq) := ⟨_, rfl⟩
  have HP6 : Hid (cp.length = 66) := by show _ = _; rw [HCP.out]; exact prfV_len h1 h2
  have HQ6 : Hid (cq.length = 66) := by show _ = _; rw [HCQ.out]; exact prfV_len h3 h4
  obtain ⟨lp, HLP⟩ : ∃ z, Hid (z = hashL i (endB ep ixp vap) 0 sp) := ⟨_, rfl⟩
  obtain ⟨lq, HLQ⟩ : ∃ z, Hid (z = hashL i (endB eq ixq vaq) 0 sq) := ⟨_, rfl⟩
  have HTP : Hid (∀ t ∈ lp, t.length < 140737488355000) := fun t ht => by have := hashL_le i _ (endB_le h1 h2) sp 0 hp.2 t (by rw [← HLP.out]; exact ht); omega
  have HTQ : Hid (∀ t ∈ lq, t.length < 140737488355000) := fun t ht => by have := hashL_le i _ (endB_le h3 h4) sq 0 hq.2 t (by rw [← HLQ.out]; exact ht); omega
  have HNP : Hid (lp.length < 4611686018427387904) := by show _ < _; rw [HLP.out, hashL_len]; omega
  have HC1 : Hid (∀ W, Below w.heap.size w W → Calls Tryd.prog 34 #[.agg (cb i).toArray, .agg cp.toArray] W fun e w' => ∃ v, e = .returned v ∧ ReadsL w' v lp ∧ Below W.heap.size W w') := fun W hb => by rw [HCP.out, HLP.out]; exact hP.hashed W i vp sp ep ixp vap (hK.below hb hK.lt) hi h1 h2 (hp.below hb) hlp
  have HC2 : Hid (∀ W, Below w.heap.size w W → Calls Tryd.prog 34 #[.agg (cb i).toArray, .agg cq.toArray] W fun e w' => ∃ v, e = .returned v ∧ ReadsL w' v lq ∧ Below W.heap.size W w') := fun W hb => by rw [HCQ.out, HLQ.out]; exact hP.hashed W i vq sq eq ixq vaq (hK.below hb hK.lt) hi h3 h4 (hq.below hb) hlq
  have HF : Hid (∀ (W : World) (va vb : Value), KOk W → ReadsL W va lp → ReadsL W vb lq → Calls Tryd.prog 8 #[va, vb] W fun e w' => ∃ x y o, e = .returned (.tuple #[x, y, .bool o]) ∧ FirstR w' lp lq x y o ∧ Below W.heap.size W w') := fun W va vb hk ha hb => hF W va vb lp lq hk ha hb HNP.out HTP.out HTQ.out
  rw [← HLP.out, ← HLQ.out, ← HCP.out, ← HCQ.out]
  clear hi h1 h2 h3 h4 hp hq hlp hlq HLP HLQ HCP HCQ hP hF hK
  go_enter Tryd.func15, Tryd.ntmps15
  go_upto_region 1 with (first
    | (with_reducible refine wpSeq_boxD (.tmp 0) i ?_ ?_ ?_ ?_
       · rfl
       · rfl
       · rfl
       intro gi w0 nn0)
    | (with_reducible refine wpSeq_boxP (.tmp 1) cp ?_ ?_ ?_ ?_
       · rfl
       · rfl
       · rfl
       intro gp w1 nn1)
    | (with_reducible refine wpSeq_boxP (.tmp 2) cq ?_ ?_ ?_ ?_
       · rfl
       · rfl
       · rfl
       intro gq w2 nn2))
  have hb1 := nn0.below.trans (nn1.below.mono nn0.below.size)
  have hb2 := hb1.trans (nn2.below.mono hb1.size)
  have x1 := nn0.blk.below nn1.below nn0.blk.lt
  have HYB : Hid (Below w.heap.size w (World.drew w2)) := hb2.drew
  have HI : Hid (Blk (World.drew w2) gi (cb i) 33 ∧ Blk (World.drew w2) gp cp 36 ∧ Blk (World.drew w2) gq cq 36) := ⟨(x1.below nn2.below x1.lt).drew, (nn1.blk.below nn2.below nn1.blk.lt).drew, nn2.blk.drew⟩
  clear nn0 nn1 nn2 hb1 hb2 x1
  refine wp_region_held_drew (S := Over (World.drew w2)) (by kernel_rfl) (Over.refl _) ?_
  intro hS
  change wpAnyH _ _ _ _ _ _ _ _ (World.drew w2)
  generalize World.drew w2 = y0 at *
  refine wpAnyH_take (i := 0) (v := .agg (cb i).toArray) rfl (by kernel_rfl) (by kernel_rfl) (by kernel_rfl) (fun _ _ _ h => h) (Or.inl ⟨by rfl, fun wx hx => by exact loadDigest _ gi i HIL.out (HI.out.1.below hx HI.out.1.lt) rfl rfl⟩) hS ?_
  simp only [Act.put, List.getElem_toArray, List.getElem_cons_zero, List.setIfInBounds_toArray, List.set_cons_zero, List.set_cons_succ]
  refine wpAnyH_take (i := 1) (v := .agg cp.toArray) rfl (by kernel_rfl) (by kernel_rfl) (by kernel_rfl) (fun _ _ _ h => h) (Or.inl ⟨by rfl, fun wx hx => by exact load_run 36 _ rfl gp 0 rfl cp _ (HI.out.2.1.below hx HI.out.2.1.lt).range Tryd.underlying36 rfl (by rw [HP6.out]; exact info_proof)⟩) hS ?_
  simp only [Act.put, List.getElem_toArray, List.getElem_cons_succ, List.getElem_cons_zero, List.setIfInBounds_toArray, List.set_cons_zero, List.set_cons_succ]
  refine wpAnyH_take (i := 3) (v := .agg (cb i).toArray) rfl (by kernel_rfl) (by kernel_rfl) (by kernel_rfl) (fun _ _ _ h => h) (Or.inl ⟨by rfl, fun wx hx => by exact loadDigest _ gi i HIL.out (HI.out.1.below hx HI.out.1.lt) rfl rfl⟩) hS ?_
  simp only [Act.put, List.getElem_toArray, List.getElem_cons_succ, List.getElem_cons_zero, List.setIfInBounds_toArray, List.set_cons_zero, List.set_cons_succ]
  refine wpAnyH_take (i := 4) (v := .agg cq.toArray) rfl (by kernel_rfl) (by kernel_rfl) (by kernel_rfl) (fun _ _ _ h => h) (Or.inl ⟨by rfl, fun wx hx => by exact load_run 36 _ rfl gq 0 rfl cq _ (HI.out.2.2.below hx HI.out.2.2.lt).range Tryd.underlying36 rfl (by rw [HQ6.out]; exact info_proof)⟩) hS ?_
  simp only [Act.put, List.getElem_toArray, List.getElem_cons_succ, List.getElem_cons_zero, List.setIfInBounds_toArray, List.set_cons_zero, List.set_cons_succ]
  refine wpAnyH_enter 2 (by kernel_rfl) rfl (by rfl) (f := 34) (args := #[.agg (cb i).toArray, .agg cp.toArray]) (by simp [go_sem]) (HC1.out _ (HYB.out.trans (Below.mono hS HYB.out.size))) ?_
  rintro e y1 ⟨u1, rfl, hu1, hbq⟩
  replace hS := Over.more hS hbq
  refine ⟨_, rfl, hS, ?_⟩
  clear hbq
  simp only [Act.put, List.getElem_toArray, List.getElem_cons_succ, List.getElem_cons_zero, List.setIfInBounds_toArray, List.set_cons_zero, List.set_cons_succ]
  refine wpAnyH_enter 5 (by kernel_rfl) rfl (by rfl) (f := 34) (args := #[.agg (cb i).toArray, .agg cq.toArray]) (by simp [go_sem]) (HC2.out _ (HYB.out.trans (Below.mono hS HYB.out.size))) ?_
  rintro e y2 ⟨u2, rfl, hu2, hbq⟩
  replace hS := Over.more hS hbq
  replace hu1 := hu1.below hbq
  refine ⟨_, rfl, hS, ?_⟩
  clear hbq
  simp only [Act.put, List.getElem_toArray, List.getElem_cons_succ, List.getElem_cons_zero, List.setIfInBounds_toArray, List.set_cons_zero, List.set_cons_succ]
  refine wpAnyH_enter 6 (by kernel_rfl) rfl (by rfl) (f := 8) (args := #[u1, u2]) (by simp [go_sem]) (HF.out _ u1 u2 (HK.out.below (HYB.out.trans (Below.mono hS HYB.out.size)) HK.out.lt) hu1 hu2) ?_
  rintro e y3 ⟨vx, vy, o, rfl, hrr, hbq⟩
  replace hS := Over.more hS hbq
  refine ⟨_, rfl, hS, ?_⟩
  clear hbq hu1 hu2
  simp only [Act.put, List.getElem_toArray, List.getElem_cons_succ, List.getElem_cons_zero, List.setIfInBounds_toArray, List.set_cons_zero, List.set_cons_succ]
  refine wpAnyH_take (i := 7) (v := vx) rfl (by kernel_rfl) (by kernel_rfl) (by kernel_rfl) (fun _ _ _ h => h) (Or.inl ⟨by rfl, fun wx hx => by simp [go_sem]⟩) hS ?_
  simp only [Act.put, List.getElem_toArray, List.getElem_cons_succ, List.getElem_cons_zero, List.setIfInBounds_toArray, List.set_cons_zero, List.set_cons_succ]
  refine wpAnyH_take (i := 8) (v := vy) rfl (by kernel_rfl) (by kernel_rfl) (by kernel_rfl) (fun _ _ _ h => h) (Or.inl ⟨by rfl, fun wx hx => by simp [go_sem]⟩) hS ?_
  simp only [Act.put, List.getElem_toArray, List.getElem_cons_succ, List.getElem_cons_zero, List.setIfInBounds_toArray, List.set_cons_zero, List.set_cons_succ]
  refine wpAnyH_take (i := 9) (v := .bool o) rfl (by kernel_rfl) (by kernel_rfl) (by kernel_rfl) (fun _ _ _ h => h) (Or.inl ⟨by rfl, fun wx hx => by simp [go_sem]⟩) hS ?_
  simp only [Act.put, List.getElem_toArray, List.getElem_cons_succ, List.getElem_cons_zero, List.setIfInBounds_toArray, List.set_cons_zero, List.set_cons_succ]
  refine wpAnyH_take (i := 10) (v := vx) rfl (by kernel_rfl) (by kernel_rfl) (by kernel_rfl) (fun _ _ _ h => h) (Or.inl ⟨by rfl, fun wx hx => by simp [go_sem]⟩) hS ?_
  simp only [Act.put, List.getElem_toArray, List.getElem_cons_succ, List.getElem_cons_zero, List.setIfInBounds_toArray, List.set_cons_zero, List.set_cons_succ]
  refine wpAnyH_take (i := 11) (v := vy) rfl (by kernel_rfl) (by kernel_rfl) (by kernel_rfl) (fun _ _ _ h => h) (Or.inl ⟨by rfl, fun wx hx => by simp [go_sem]⟩) hS ?_
  simp only [Act.put, List.getElem_toArray, List.getElem_cons_succ, List.getElem_cons_zero, List.setIfInBounds_toArray, List.set_cons_zero, List.set_cons_succ]
  refine wpAnyH_take (i := 12) (v := .bool o) rfl (by kernel_rfl) (by kernel_rfl) (by kernel_rfl) (fun _ _ _ h => h) (Or.inl ⟨by rfl, fun wx hx => by simp [go_sem]⟩) hS ?_
  simp only [Act.put, List.getElem_toArray, List.getElem_cons_succ, List.getElem_cons_zero, List.setIfInBounds_toArray, List.set_cons_zero, List.set_cons_succ]
  refine wpAnyH_done (by kernel_rfl) ?_ _
  have HRR : Hid (FirstR y3 lp lq vx vy o) := hrr
  have HBW : Hid (Below w.heap.size w y3) := (HYB.out.trans (Below.mono hS HYB.out.size))
  clear hS hrr
  go_wp2
  refine bodyPost_ret (results_tmp3 rfl _ _ _) rfl ?_
  exact ⟨_, _, o, rfl, HRR.out, HBW.out⟩
set_option maxRecDepth 100000 in
set_option maxHeartbeats 8000000 in
theorem cRoots_any (hP : ∀ (W : World) (va vb : Value) (a b : List (BitVec 8)), KOk W → Reads W va a → Reads W vb b → a.length < 140737488355000 → b.length < 140737488355000 → Calls Tryd.prog 11 #[va, vb] W fun e w' => ∃ x y o, e = .returned (.tuple #[x, y, .bool o]) ∧ PairR w' a b x y o ∧ Below W.heap.size W w')
    (n m : Nat) (x y z x' y' z' : List (BitVec 8)) (w : World) (hK : KOk w) (hn : x.length = 32 ∧ y.length = 32 ∧ z.length = 32 ∧ n < 18446744073709551616) (hm : x'.length = 32 ∧ y'.length = 32 ∧ z'.length = 32 ∧ m < 18446744073709551616) :
    Calls Tryd.prog 23 #[root9V n x y z, root9V m x' y' z'] w fun e w' => ∃ v u o, e = .returned (.tuple #[v, u, .bool o]) ∧ PairR w' (rootB n x y z) (rootB m x' y' z') v u o ∧ Below w.heap.size w w' := by
  have HK : Hid (KOk w) := hK
  obtain ⟨cr, HCR⟩ : ∃ c, Hid (c = rootC n x y z) := ⟨_, rfl⟩
  obtain ⟨cs, HCS⟩ : ∃ c, Hid (c = rootC m x' y' z') := ⟨_, rfl⟩
  have HIR : Hid ((Tryd.prog.info? 56).map (·.size) = some cr.length) := by rw [HCR.out]; exact info_root _ x y z ⟨hn.1, hn.2.1, hn.2.2.1⟩
  have HIS : Hid ((Tryd.prog.info? 56).map (·.size) = some cs.length) := by rw [HCS.out]; exact info_root _ x' y' z' ⟨hm.1, hm.2.1, hm.2.2.1⟩
  obtain ⟨A, HA⟩ : ∃ q, Hid (q = rootB n x y z) := ⟨_, rfl⟩
  obtain ⟨B, HB⟩ : ∃ q, Hid (q = rootB m x' y' z') := ⟨_, rfl⟩
  have HLL : Hid (A.length = 105 ∧ B.length = 105) := by show _ ∧ _; rw [HA.out, HB.out]; exact ⟨len_rootB n x y z ⟨hn.1, hn.2.1, hn.2.2.1⟩, len_rootB m x' y' z' ⟨hm.1, hm.2.1, hm.2.2.1⟩⟩
  have HC1 : Hid (∀ W, Calls Tryd.prog 42 #[.agg cr.toArray] W fun e w' => ∃ v, e = .returned v ∧ Reads w' v A ∧ Below W.heap.size W w') := fun W => by rw [HCR.out, HA.out]; exact tRoot_any x y z n W hn
  have HC2 : Hid (∀ W, Calls Tryd.prog 42 #[.agg cs.toArray] W fun e w' => ∃ v, e = .returned v ∧ Reads w' v B ∧ Below W.heap.size W w') := fun W => by rw [HCS.out, HB.out]; exact tRoot_any x' y' z' m W hm
  have HF : Hid (∀ (W : World) (va vb : Value), KOk W → Reads W va A → Reads W vb B → Calls Tryd.prog 11 #[va, vb] W fun e w' => ∃ x y o, e = .returned (.tuple #[x, y, .bool o]) ∧ PairR w' A B x y o ∧ Below W.heap.size W w') := fun W va vb hk ha hb => hP W va vb A B hk ha hb (by have := HLL.out; omega) (by have := HLL.out; omega)
  show Calls Tryd.prog 23 #[.agg (rootC n x y z).toArray, .agg (rootC m x' y' z').toArray] _ _
  rw [← HA.out, ← HB.out, ← HCR.out, ← HCS.out]
  clear hn hm hK hP HA HB HCR HCS
  go_enter Tryd.func23, Tryd.ntmps23
  go_upto_region 1 with (first
    | (with_reducible refine wpSeq_boxR 56 (.tmp 0) cr ?_ ?_ ?_ ?_
       · rfl
       · rfl
       · rfl
       intro g1 w1 hb1 hl1)
    | (with_reducible refine wpSeq_boxR 56 (.tmp 1) cs ?_ ?_ ?_ ?_
       · rfl
       · rfl
       · rfl
       intro g2 w2 hb2 hl2))
  have HYB : Hid (Below w.heap.size w (World.drew w2)) := (hl1.trans (hl2.mono hl1.size)).drew
  have HI : Hid (Blk (World.drew w2) g1 cr 56 ∧ Blk (World.drew w2) g2 cs 56) := ⟨(hb1.below hl2 hb1.lt).drew, hb2.drew⟩
  clear hb1 hl1 hb2 hl2
  refine wp_region_held_drew (S := Over (World.drew w2)) (by kernel_rfl) (Over.refl _) ?_
  intro hS
  change wpAnyH _ _ _ _ _ _ _ _ (World.drew w2)
  generalize World.drew w2 = y0 at *
  refine wpAnyH_take (i := 0) (v := .agg cr.toArray) rfl (by kernel_rfl) (by kernel_rfl) (by kernel_rfl) (fun _ _ _ h => h) (Or.inl ⟨by rfl, fun wx hx => by exact load_run 56 _ rfl g1 0 rfl cr _ (HI.out.1.below hx HI.out.1.lt).range Tryd.underlying56 rfl HIR.out⟩) hS ?_
  simp only [Act.put, List.getElem_toArray, List.getElem_cons_zero, List.setIfInBounds_toArray, List.set_cons_zero, List.set_cons_succ]
  refine wpAnyH_take (i := 2) (v := .agg cs.toArray) rfl (by kernel_rfl) (by kernel_rfl) (by kernel_rfl) (fun _ _ _ h => h) (Or.inl ⟨by rfl, fun wx hx => by exact load_run 56 _ rfl g2 0 rfl cs _ (HI.out.2.below hx HI.out.2.lt).range Tryd.underlying56 rfl HIS.out⟩) hS ?_
  simp only [Act.put, List.getElem_toArray, List.getElem_cons_succ, List.getElem_cons_zero, List.setIfInBounds_toArray, List.set_cons_zero, List.set_cons_succ]
  refine wpAnyH_enter 1 (by kernel_rfl) rfl (by rfl) (f := 42) (args := #[.agg cr.toArray]) (by simp [go_sem]) (HC1.out _) ?_
  rintro e y1 ⟨u1, rfl, hu1, hbq⟩
  replace hS := Over.more hS hbq
  refine ⟨_, rfl, hS, ?_⟩
  clear hbq
  simp only [Act.put, List.getElem_toArray, List.getElem_cons_succ, List.getElem_cons_zero, List.setIfInBounds_toArray, List.set_cons_zero, List.set_cons_succ]
  refine wpAnyH_enter 3 (by kernel_rfl) rfl (by rfl) (f := 42) (args := #[.agg cs.toArray]) (by simp [go_sem]) (HC2.out _) ?_
  rintro e y2 ⟨u2, rfl, hu2, hbq⟩
  replace hS := Over.more hS hbq
  replace hu1 := hu1.below hbq
  refine ⟨_, rfl, hS, ?_⟩
  clear hbq
  simp only [Act.put, List.getElem_toArray, List.getElem_cons_succ, List.getElem_cons_zero, List.setIfInBounds_toArray, List.set_cons_zero, List.set_cons_succ]
  refine wpAnyH_enter 4 (by kernel_rfl) rfl (by rfl) (f := 11) (args := #[u1, u2]) (by simp [go_sem]) (HF.out _ u1 u2 (HK.out.below (HYB.out.trans (Below.mono hS HYB.out.size)) HK.out.lt) hu1 hu2) ?_
  rintro e y3 ⟨vx, vy, o, rfl, hrr, hbq⟩
  replace hS := Over.more hS hbq
  refine ⟨_, rfl, hS, ?_⟩
  clear hbq hu1 hu2
  simp only [Act.put, List.getElem_toArray, List.getElem_cons_succ, List.getElem_cons_zero, List.setIfInBounds_toArray, List.set_cons_zero, List.set_cons_succ]
  refine wpAnyH_take (i := 5) (v := vx) rfl (by kernel_rfl) (by kernel_rfl) (by kernel_rfl) (fun _ _ _ h => h) (Or.inl ⟨by rfl, fun wx hx => by simp [go_sem]⟩) hS ?_
  simp only [Act.put, List.getElem_toArray, List.getElem_cons_succ, List.getElem_cons_zero, List.setIfInBounds_toArray, List.set_cons_zero, List.set_cons_succ]
  refine wpAnyH_take (i := 6) (v := vy) rfl (by kernel_rfl) (by kernel_rfl) (by kernel_rfl) (fun _ _ _ h => h) (Or.inl ⟨by rfl, fun wx hx => by simp [go_sem]⟩) hS ?_
  simp only [Act.put, List.getElem_toArray, List.getElem_cons_succ, List.getElem_cons_zero, List.setIfInBounds_toArray, List.set_cons_zero, List.set_cons_succ]
  refine wpAnyH_take (i := 7) (v := .bool o) rfl (by kernel_rfl) (by kernel_rfl) (by kernel_rfl) (fun _ _ _ h => h) (Or.inl ⟨by rfl, fun wx hx => by simp [go_sem]⟩) hS ?_
  simp only [Act.put, List.getElem_toArray, List.getElem_cons_succ, List.getElem_cons_zero, List.setIfInBounds_toArray, List.set_cons_zero, List.set_cons_succ]
  refine wpAnyH_take (i := 8) (v := vx) rfl (by kernel_rfl) (by kernel_rfl) (by kernel_rfl) (fun _ _ _ h => h) (Or.inl ⟨by rfl, fun wx hx => by simp [go_sem]⟩) hS ?_
  simp only [Act.put, List.getElem_toArray, List.getElem_cons_succ, List.getElem_cons_zero, List.setIfInBounds_toArray, List.set_cons_zero, List.set_cons_succ]
  refine wpAnyH_take (i := 9) (v := vy) rfl (by kernel_rfl) (by kernel_rfl) (by kernel_rfl) (fun _ _ _ h => h) (Or.inl ⟨by rfl, fun wx hx => by simp [go_sem]⟩) hS ?_
  simp only [Act.put, List.getElem_toArray, List.getElem_cons_succ, List.getElem_cons_zero, List.setIfInBounds_toArray, List.set_cons_zero, List.set_cons_succ]
  refine wpAnyH_take (i := 10) (v := .bool o) rfl (by kernel_rfl) (by kernel_rfl) (by kernel_rfl) (fun _ _ _ h => h) (Or.inl ⟨by rfl, fun wx hx => by simp [go_sem]⟩) hS ?_
  simp only [Act.put, List.getElem_toArray, List.getElem_cons_succ, List.getElem_cons_zero, List.setIfInBounds_toArray, List.set_cons_zero, List.set_cons_succ]
  refine wpAnyH_done (by kernel_rfl) ?_ _
  have HRR : Hid (PairR y3 A B vx vy o) := hrr
  have HBW : Hid (Below w.heap.size w y3) := (HYB.out.trans (Below.mono hS HYB.out.size))
  clear hS hrr
  go_wp2
  refine bodyPost_ret (results_tmp3 rfl _ _ _) rfl ?_
  exact ⟨_, _, o, rfl, HRR.out, HBW.out⟩
set_option maxRecDepth 100000 in
set_option maxHeartbeats 8000000 in
theorem cValues_any (hP : ∀ (W : World) (va vb : Value) (a b : List (BitVec 8)), KOk W → Reads W va a → Reads W vb b → a.length < 140737488355000 → b.length < 140737488355000 → Calls Tryd.prog 11 #[va, vb] W fun e w' => ∃ x y o, e = .returned (.tuple #[x, y, .bool o]) ∧ PairR w' a b x y o ∧ Below W.heap.size W w')
    (x y na nb ka kb : List (BitVec 8)) (va vb : Value) (n m : Nat) (w : World) (hK : KOk w) (hx0 : x.length = 32) (hy0 : y.length = 32) (ha : Reads w va ka) (hb : Reads w vb kb) (hn : na.length ≤ 4000 ∧ ka.length ≤ 4000 ∧ n < 18446744073709551616) (hm : nb.length ≤ 4000 ∧ kb.length ≤ 4000 ∧ m < 18446744073709551616) :
    Calls Tryd.prog 25 #[.agg (cb x).toArray, bind9V na va n, .agg (cb y).toArray, bind9V nb vb m] w fun e w' => ∃ v u o, e = .returned (.tuple #[v, u, .bool o]) ∧ PairR w' (valueB x na n ka) (valueB y nb m kb) v u o ∧ Below w.heap.size w w' := by
  have HK : Hid (KOk w) := hK
  have HX0 : Hid (x.length = 32 ∧ y.length = 32) := ⟨hx0, hy0⟩
  obtain ⟨ca, HCA⟩ : ∃ c, Hid (c = bindC na va n) := ⟨_, rfl⟩
  obtain ⟨cc, HCC⟩ : ∃ c, Hid (c = bindC nb vb m) := ⟨_, rfl⟩
  have HIA : Hid ((Tryd.prog.info? 59).map (·.size) = some ca.length) := by rw [HCA.out]; exact info_binding
  have HIC : Hid ((Tryd.prog.info? 59).map (·.size) = some cc.length) := by rw [HCC.out]; exact info_binding
  obtain ⟨A, HA⟩ : ∃ q, Hid (q = valueB x na n ka) := ⟨_, rfl⟩
  obtain ⟨B, HB⟩ : ∃ q, Hid (q = valueB y nb m kb) := ⟨_, rfl⟩
  have HLL : Hid (A.length ≤ 10000 ∧ B.length ≤ 10000) := by show _ ∧ _; rw [HA.out, HB.out, len_valueB _ _ _ _ hx0, len_valueB _ _ _ _ hy0]; omega
  have HC1 : Hid (∀ W, Below w.heap.size w W → Calls Tryd.prog 44 #[.agg (cb x).toArray, .agg ca.toArray] W fun e w' => ∃ v, e = .returned v ∧ Reads w' v A ∧ Below W.heap.size W w') := fun W hh => by rw [HCA.out, HA.out]; exact tValue_any x na ka va n W hx0 (ha.below hh) ⟨by omega, by omega, hn.2.2⟩
  have HC2 : Hid (∀ W, Below w.heap.size w W → Calls Tryd.prog 44 #[.agg (cb y).toArray, .agg cc.toArray] W fun e w' => ∃ v, e = .returned v ∧ Reads w' v B ∧ Below W.heap.size W w') := fun W hh => by rw [HCC.out, HB.out]; exact tValue_any y nb kb vb m W hy0 (hb.below hh) ⟨by omega, by omega, hm.2.2⟩
  have HF : Hid (∀ (W : World) (va vb : Value), KOk W → Reads W va A → Reads W vb B → Calls Tryd.prog 11 #[va, vb] W fun e w' => ∃ x y o, e = .returned (.tuple #[x, y, .bool o]) ∧ PairR w' A B x y o ∧ Below W.heap.size W w') := fun W va vb hk ha hb => hP W va vb A B hk ha hb (by have := HLL.out; omega) (by have := HLL.out; omega)
  show Calls Tryd.prog 25 #[.agg (cb x).toArray, .agg (bindC na va n).toArray, .agg (cb y).toArray, .agg (bindC nb vb m).toArray] _ _
  rw [← HA.out, ← HB.out, ← HCA.out, ← HCC.out]
  clear hn hm hK hP HA HB HCA HCC hx0 hy0 ha hb
  go_enter Tryd.func25, Tryd.ntmps25
  go_upto_region 1 with (first
    | (with_reducible refine wpSeq_boxD (.tmp 0) x ?_ ?_ ?_ ?_
       · rfl
       · rfl
       · rfl
       intro g1 w1 nn1)
    | (with_reducible refine wpSeq_boxR 59 (.tmp 1) ca ?_ ?_ ?_ ?_
       · rfl
       · rfl
       · rfl
       intro g2 w2 hb2 hl2)
    | (with_reducible refine wpSeq_boxD (.tmp 2) y ?_ ?_ ?_ ?_
       · rfl
       · rfl
       · rfl
       intro g3 w3 nn3)
    | (with_reducible refine wpSeq_boxR 59 (.tmp 3) cc ?_ ?_ ?_ ?_
       · rfl
       · rfl
       · rfl
       intro g4 w4 hb4 hl4))
  have e2 := nn1.below.trans (hl2.mono nn1.below.size)
  have e3 := e2.trans (nn3.below.mono e2.size)
  have HYB : Hid (Below w.heap.size w (World.drew w4)) := (e3.trans (hl4.mono e3.size)).drew
  have r2 := nn1.blk.below hl2 nn1.blk.lt
  have r3 := r2.below nn3.below r2.lt
  have q3 := hb2.below nn3.below hb2.lt
  have HI : Hid (Blk (World.drew w4) g1 (cb x) 33 ∧ Blk (World.drew w4) g2 ca 59 ∧ Blk (World.drew w4) g3 (cb y) 33 ∧ Blk (World.drew w4) g4 cc 59) := ⟨(r3.below hl4 r3.lt).drew, (q3.below hl4 q3.lt).drew, (nn3.blk.below hl4 nn3.blk.lt).drew, hb4.drew⟩
  clear e2 e3 r2 r3 q3 nn1 nn3 hb2 hl2 hb4 hl4
  refine wp_region_held_drew (S := Over (World.drew w4)) (by kernel_rfl) (Over.refl _) ?_
  intro hS
  change wpAnyH _ _ _ _ _ _ _ _ (World.drew w4)
  generalize World.drew w4 = y0 at *
  refine wpAnyH_take (i := 0) (v := .agg (cb x).toArray) rfl (by kernel_rfl) (by kernel_rfl) (by kernel_rfl) (fun _ _ _ h => h) (Or.inl ⟨by rfl, fun wx hx => by exact loadDigest _ g1 x HX0.out.1 (HI.out.1.below hx HI.out.1.lt) rfl rfl⟩) hS ?_
  simp only [Act.put, List.getElem_toArray, List.getElem_cons_zero, List.setIfInBounds_toArray, List.set_cons_zero, List.set_cons_succ]
  refine wpAnyH_take (i := 1) (v := .agg ca.toArray) rfl (by kernel_rfl) (by kernel_rfl) (by kernel_rfl) (fun _ _ _ h => h) (Or.inl ⟨by rfl, fun wx hx => by exact load_run 59 _ rfl g2 0 rfl ca _ (HI.out.2.1.below hx HI.out.2.1.lt).range Tryd.underlying59 rfl HIA.out⟩) hS ?_
  simp only [Act.put, List.getElem_toArray, List.getElem_cons_succ, List.getElem_cons_zero, List.setIfInBounds_toArray, List.set_cons_zero, List.set_cons_succ]
  refine wpAnyH_take (i := 3) (v := .agg (cb y).toArray) rfl (by kernel_rfl) (by kernel_rfl) (by kernel_rfl) (fun _ _ _ h => h) (Or.inl ⟨by rfl, fun wx hx => by exact loadDigest _ g3 y HX0.out.2 (HI.out.2.2.1.below hx HI.out.2.2.1.lt) rfl rfl⟩) hS ?_
  simp only [Act.put, List.getElem_toArray, List.getElem_cons_succ, List.getElem_cons_zero, List.setIfInBounds_toArray, List.set_cons_zero, List.set_cons_succ]
  refine wpAnyH_take (i := 4) (v := .agg cc.toArray) rfl (by kernel_rfl) (by kernel_rfl) (by kernel_rfl) (fun _ _ _ h => h) (Or.inl ⟨by rfl, fun wx hx => by exact load_run 59 _ rfl g4 0 rfl cc _ (HI.out.2.2.2.below hx HI.out.2.2.2.lt).range Tryd.underlying59 rfl HIC.out⟩) hS ?_
  simp only [Act.put, List.getElem_toArray, List.getElem_cons_succ, List.getElem_cons_zero, List.setIfInBounds_toArray, List.set_cons_zero, List.set_cons_succ]
  refine wpAnyH_enter 2 (by kernel_rfl) rfl (by rfl) (f := 44) (args := #[.agg (cb x).toArray, .agg ca.toArray]) (by simp [go_sem]) (HC1.out _ (HYB.out.trans (Below.mono hS HYB.out.size))) ?_
  rintro e y1 ⟨u1, rfl, hu1, hbq⟩
  replace hS := Over.more hS hbq
  refine ⟨_, rfl, hS, ?_⟩
  clear hbq
  simp only [Act.put, List.getElem_toArray, List.getElem_cons_succ, List.getElem_cons_zero, List.setIfInBounds_toArray, List.set_cons_zero, List.set_cons_succ]
  refine wpAnyH_enter 5 (by kernel_rfl) rfl (by rfl) (f := 44) (args := #[.agg (cb y).toArray, .agg cc.toArray]) (by simp [go_sem]) (HC2.out _ (HYB.out.trans (Below.mono hS HYB.out.size))) ?_
  rintro e y2 ⟨u2, rfl, hu2, hbq⟩
  replace hS := Over.more hS hbq
  replace hu1 := hu1.below hbq
  refine ⟨_, rfl, hS, ?_⟩
  clear hbq
  simp only [Act.put, List.getElem_toArray, List.getElem_cons_succ, List.getElem_cons_zero, List.setIfInBounds_toArray, List.set_cons_zero, List.set_cons_succ]
  refine wpAnyH_enter 6 (by kernel_rfl) rfl (by rfl) (f := 11) (args := #[u1, u2]) (by simp [go_sem]) (HF.out _ u1 u2 (HK.out.below (HYB.out.trans (Below.mono hS HYB.out.size)) HK.out.lt) hu1 hu2) ?_
  rintro e y3 ⟨vx, vy, o, rfl, hrr, hbq⟩
  replace hS := Over.more hS hbq
  refine ⟨_, rfl, hS, ?_⟩
  clear hbq hu1 hu2
  simp only [Act.put, List.getElem_toArray, List.getElem_cons_succ, List.getElem_cons_zero, List.setIfInBounds_toArray, List.set_cons_zero, List.set_cons_succ]
  refine wpAnyH_take (i := 7) (v := vx) rfl (by kernel_rfl) (by kernel_rfl) (by kernel_rfl) (fun _ _ _ h => h) (Or.inl ⟨by rfl, fun wx hx => by simp [go_sem]⟩) hS ?_
  simp only [Act.put, List.getElem_toArray, List.getElem_cons_succ, List.getElem_cons_zero, List.setIfInBounds_toArray, List.set_cons_zero, List.set_cons_succ]
  refine wpAnyH_take (i := 8) (v := vy) rfl (by kernel_rfl) (by kernel_rfl) (by kernel_rfl) (fun _ _ _ h => h) (Or.inl ⟨by rfl, fun wx hx => by simp [go_sem]⟩) hS ?_
  simp only [Act.put, List.getElem_toArray, List.getElem_cons_succ, List.getElem_cons_zero, List.setIfInBounds_toArray, List.set_cons_zero, List.set_cons_succ]
  refine wpAnyH_take (i := 9) (v := .bool o) rfl (by kernel_rfl) (by kernel_rfl) (by kernel_rfl) (fun _ _ _ h => h) (Or.inl ⟨by rfl, fun wx hx => by simp [go_sem]⟩) hS ?_
  simp only [Act.put, List.getElem_toArray, List.getElem_cons_succ, List.getElem_cons_zero, List.setIfInBounds_toArray, List.set_cons_zero, List.set_cons_succ]
  refine wpAnyH_take (i := 10) (v := vx) rfl (by kernel_rfl) (by kernel_rfl) (by kernel_rfl) (fun _ _ _ h => h) (Or.inl ⟨by rfl, fun wx hx => by simp [go_sem]⟩) hS ?_
  simp only [Act.put, List.getElem_toArray, List.getElem_cons_succ, List.getElem_cons_zero, List.setIfInBounds_toArray, List.set_cons_zero, List.set_cons_succ]
  refine wpAnyH_take (i := 11) (v := vy) rfl (by kernel_rfl) (by kernel_rfl) (by kernel_rfl) (fun _ _ _ h => h) (Or.inl ⟨by rfl, fun wx hx => by simp [go_sem]⟩) hS ?_
  simp only [Act.put, List.getElem_toArray, List.getElem_cons_succ, List.getElem_cons_zero, List.setIfInBounds_toArray, List.set_cons_zero, List.set_cons_succ]
  refine wpAnyH_take (i := 12) (v := .bool o) rfl (by kernel_rfl) (by kernel_rfl) (by kernel_rfl) (fun _ _ _ h => h) (Or.inl ⟨by rfl, fun wx hx => by simp [go_sem]⟩) hS ?_
  simp only [Act.put, List.getElem_toArray, List.getElem_cons_succ, List.getElem_cons_zero, List.setIfInBounds_toArray, List.set_cons_zero, List.set_cons_succ]
  refine wpAnyH_done (by kernel_rfl) ?_ _
  have HRR : Hid (PairR y3 A B vx vy o) := hrr
  have HBW : Hid (Below w.heap.size w y3) := (HYB.out.trans (Below.mono hS HYB.out.size))
  clear hS hrr
  go_wp2
  refine bodyPost_ret (results_tmp3 rfl _ _ _) rfl ?_
  exact ⟨_, _, o, rfl, HRR.out, HBW.out⟩
theorem clOps (hP : PfOps) : ClOps where
  pair := fun W va vb a b hK ha hb hla hlb => cPair_any va vb a b W hK ha hb hla hlb
  first := fun W va vb a b hK ha hb hl hla hlb => cFirst_any va vb a b W hK ha hb hl hla hlb
  ways := fun W i vp sp ep ixp vap vq sq eq ixq vaq hK hi h1 h2 h3 h4 hp hq hlp hlq => cWays_any hP (fun W va vb a b hK ha hb hl hla hlb => cFirst_any va vb a b W hK ha hb hl hla hlb) i vp sp ep ixp vap vq sq eq ixq vaq W hK hi h1 h2 h3 h4 hp hq hlp hlq
  roots := fun W n m x y z x' y' z' hK hn hm => cRoots_any (fun W va vb a b hK ha hb hla hlb => cPair_any va vb a b W hK ha hb hla hlb) n m x y z x' y' z' W hK hn hm
  values := fun W x y na nb ka kb va vb n m hK hx hy ha hb hn hm => cValues_any (fun W va vb a b hK ha hb hla hlb => cPair_any va vb a b W hK ha hb hla hlb) x y na nb ka kb va vb n m W hK hx hy ha hb hn hm
end Go.Proofs.YtpeifpoeeopecaaDoor
/- The statement ClashBinds, over clash's functions (layer 9). -/
namespace Go.Proofs.YtpeifpoeeopecaaDoor
open Go.RowKit
set_option maxRecDepth 100000
/-- where the statement stands -/
structure C10 (w : World) (gr gi gp gq : Nat) (r i : List (BitVec 8)) (cp cq : List Value) (W : World) : Prop where
  rb : Blk W gr (cb r) 33
  ib : Blk W gi (cb i) 33
  pb : Blk W gp cp 36
  qb : Blk W gq cq 36
  bel : Below w.heap.size w W
  ge : w.heap.size ≤ gr ∧ gr < gi ∧ gr < gp ∧ gr < gq
theorem C10.next {w W W' : World} {gr gi gp gq : Nat} {r i : List (BitVec 8)} {cp cq : List Value} (h : C10 w gr gi gp gq r i cp cq W) (hb : Below W.heap.size W W') : C10 w gr gi gp gq r i cp cq W' := ⟨h.rb.below hb h.rb.lt, h.ib.below hb h.ib.lt, h.pb.below hb h.pb.lt, h.qb.below hb h.qb.lt, h.bel.trans (hb.mono h.bel.size), h.ge⟩
theorem C10.set {w W W' : World} {gr gi gp gq : Nat} {r r' i : List (BitVec 8)} {cp cq : List Value} (h : C10 w gr gi gp gq r i cp cq W) (hs : SetB r' W gr W') : C10 w gr gi gp gq r' i cp cq W' := ⟨hs.blk, h.ib.only hs.only (by have := h.ge; omega), h.pb.only hs.only (by have := h.ge; omega), h.qb.only hs.only (by have := h.ge; omega), h.bel.trans (hs.only.below h.ge.1 h.bel.size), h.ge⟩
/-- what Check tells, opened -/
theorem chk_open (o : Option (Option (List (BitVec 8)))) : (o = Option.none ∧ chkE o = 15) ∨ (∃ a, o = some a ∧ chkE o = 0 ∧ chkV o = a.getD zb32 ∧ chkB o = a.isSome) := by
  cases o with
  | none => exact Or.inl ⟨rfl, rfl⟩
  | some a => exact Or.inr ⟨a, rfl, rfl, rfl, rfl⟩
set_option maxRecDepth 100000 in
set_option maxHeartbeats 16000000 in
theorem clashBinds_law (hP : PfOps) (hC : ClOps) (rr i : List (BitVec 8)) (vp : Value) (sp : List (List (BitVec 8))) (ep : Int) (ixp vap : List (BitVec 8)) (vq : Value) (sq : List (List (BitVec 8))) (eq : Int) (ixq vaq : List (BitVec 8)) (own : Bool) (hr : rr.length = 32) (hi : i.length = 32) (h1 : ixp.length = 32) (h2 : vap.length = 32) (h3 : ixq.length = 32) (h4 : vaq.length = 32) (w : World) (hK : KOk w) (hp : ReadsD w vp sp) (hq : ReadsD w vq sq) :
    Calls Tryd.prog 5 #[.agg (cb rr).toArray, .agg (cb i).toArray, .agg (prfV vp ep ixp vap).toArray, .agg (prfV vq eq ixq vaq).toArray, .bool own] w fun e w' => e = .returned (.bool true) ∧ Below w.heap.size w w' := by
  have HPO : Hid PfOps := hP
  have HCO : Hid ClOps := hC
  have HK0 : Hid (KOk w) := hK
  have HIL : Hid (i.length = 32) := hi
  have HP1 : Hid (ixp.length = 32) := h1
  have HP2 : Hid (vap.length = 32) := h2
  have HQ1 : Hid (ixq.length = 32) := h3
  have HQ2 : Hid (vaq.length = 32) := h4
  have HRP : Hid (ReadsD w vp sp) := hp
  have HRQ : Hid (ReadsD w vq sq) := hq
  obtain ⟨cp, HCP⟩ : ∃ c, Hid (c = prfV vp ep ixp vap) := ⟨_, rfl⟩
  obtain ⟨cq, HCQ⟩ : ∃ c, Hid (c = prfV vq eq ixq vaq) := ⟨_, rfl⟩
  have HP6 : Hid (cp.length = 66) := by show _ = _; rw [HCP.out]; exact prfV_len h1 h2
  have HQ6 : Hid (cq.length = 66) := by show _ = _; rw [HCQ.out]; exact prfV_len h3 h4
  obtain ⟨fp, HFP⟩ : ∃ z, Hid (z = decide (sp.length ≤ 300)) := ⟨_, rfl⟩
  obtain ⟨fq, HFQ⟩ : ∃ z, Hid (z = decide (sq.length ≤ 300)) := ⟨_, rfl⟩
  have HC1 : Hid (∀ W, Below w.heap.size w W → Calls Tryd.prog 14 #[.agg cp.toArray] W fun e w' => e = .returned (.bool fp) ∧ Below W.heap.size W w') := fun W hh => by rw [HCP.out, HFP.out]; exact few9_any _ sp ep ixp vap W (hp.below hh)
  have HC2 : Hid (∀ W, Below w.heap.size w W → Calls Tryd.prog 14 #[.agg cq.toArray] W fun e w' => e = .returned (.bool fq) ∧ Below W.heap.size W w') := fun W hh => by rw [HCQ.out, HFQ.out]; exact few9_any _ sq eq ixq vaq W (hq.below hh)
  have HWK : Hid (∀ W, Below w.heap.size w W → Calls Tryd.prog 13 #[] W fun e w' => e = .returned (.bool true) ∧ Below W.heap.size W w') := fun W hh => works9_any HPO.out HCO.out W (HK0.out.below hh HK0.out.lt)
  obtain ⟨lp, HLP⟩ : ∃ z, Hid (z = hashL i (endB ep ixp vap) 0 sp) := ⟨_, rfl⟩
  obtain ⟨lq, HLQ⟩ : ∃ z, Hid (z = hashL i (endB eq ixq vaq) 0 sq) := ⟨_, rfl⟩
  have HTP : Hid (∀ t ∈ lp, t.length ≤ 65) := fun t ht => hashL_le i _ (endB_le h1 h2) sp 0 hp.2 t (by rw [← HLP.out]; exact ht)
  have HTQ : Hid (∀ t ∈ lq, t.length ≤ 65) := fun t ht => hashL_le i _ (endB_le h3 h4) sq 0 hq.2 t (by rw [← HLQ.out]; exact ht)
  have HRL : Hid (rr.length = 32) := hr
  have H3P : Hid (∀ s ∈ sp, s.length = 32) := hp.2
  have H3Q : Hid (∀ s ∈ sq, s.length = 32) := hq.2
  rw [← HCP.out, ← HCQ.out]
  go_enter Tryd.func5, Tryd.ntmps5
  clear hi h1 h2 h3 h4 hp hq hP hC hK hr
  go_upto_region 1 with (first
    | (with_reducible refine wpSeq_boxD (.tmp 0) rr ?_ ?_ ?_ ?_
       · rfl
       · rfl
       · rfl
       intro gr w9 nn9)
    | (with_reducible refine wpSeq_boxD (.tmp 1) i ?_ ?_ ?_ ?_
       · rfl
       · rfl
       · rfl
       intro gi w0 nn0)
    | (with_reducible refine wpSeq_boxP (.tmp 2) cp ?_ ?_ ?_ ?_
       · rfl
       · rfl
       · rfl
       intro gp w1 nn1)
    | (with_reducible refine wpSeq_boxP (.tmp 3) cq ?_ ?_ ?_ ?_
       · rfl
       · rfl
       · rfl
       intro gq w2 nn2
       have HI : Hid (C10 w gr gi gp gq rr i cp cq w2) := by
         have hb0 := nn9.below.trans (nn0.below.mono nn9.below.size)
         have hb1 := hb0.trans (nn1.below.mono hb0.size)
         have r0 := nn9.blk.below nn0.below nn9.blk.lt
         have r1 := r0.below nn1.below r0.lt
         have x1 := nn0.blk.below nn1.below nn0.blk.lt
         exact ⟨r1.below nn2.below r1.lt, x1.below nn2.below x1.lt, nn1.blk.below nn2.below nn1.blk.lt, nn2.blk, hb1.trans (nn2.below.mono hb1.size), nn9.ge, Nat.lt_of_lt_of_le nn9.blk.lt nn0.ge, Nat.lt_of_lt_of_le r0.lt nn1.ge, Nat.lt_of_lt_of_le r1.lt nn2.ge⟩
       clear nn9 nn0 nn1 nn2))
  cases fp with
  | false =>
    clear HC2
    go_wp2_with (first
      | (with_reducible refine wpSeq_loadP (.tmp 7) gp cp ?_ ?_ ?_ ?_ ?_ ?_
         · exact HP6.out
         · exact HI.out.pb
         · rfl
         · rfl
         · rfl)
      | (go_at_call 14; refine (HC1.out _ HI.out.bel).mono ?_; rintro e w3 ⟨rfl, hbz⟩
         replace HI : Hid (C10 w gr gi gp gq rr i cp cq w3) := HI.out.next hbz
         clear hbz HC1)
      | (go_at_call 13; refine (HWK.out _ HI.out.bel).mono ?_; rintro e wz ⟨rfl, hbz⟩
         replace HI : Hid (C10 w gr gi gp gq rr i cp cq wz) := HI.out.next hbz
         clear hbz))
    go_ret
    exact ⟨rfl, HI.out.bel⟩
  | true =>
    have HP3 : Hid (sp.length ≤ 300) := show sp.length ≤ 300 from of_decide_eq_true HFP.out.symm
    cases fq with
    | false =>
      go_wp2_with (first
        | (with_reducible refine wpSeq_loadP (.tmp 7) gp cp ?_ ?_ ?_ ?_ ?_ ?_
           · exact HP6.out
           · exact HI.out.pb
           · rfl
           · rfl
           · rfl)
        | (with_reducible refine wpSeq_loadP (.tmp 8) gq cq ?_ ?_ ?_ ?_ ?_ ?_
           · exact HQ6.out
           · exact HI.out.qb
           · rfl
           · rfl
           · rfl)
        | (go_at_call 14; refine (HC1.out _ HI.out.bel).mono ?_; rintro e w3 ⟨rfl, hbz⟩
           replace HI : Hid (C10 w gr gi gp gq rr i cp cq w3) := HI.out.next hbz
           clear hbz HC1)
        | (go_at_call 14; refine (HC2.out _ HI.out.bel).mono ?_; rintro e w4 ⟨rfl, hbz⟩
           replace HI : Hid (C10 w gr gi gp gq rr i cp cq w4) := HI.out.next hbz
           clear hbz HC2)
        | (go_at_call 13; refine (HWK.out _ HI.out.bel).mono ?_; rintro e wz ⟨rfl, hbz⟩
           replace HI : Hid (C10 w gr gi gp gq rr i cp cq wz) := HI.out.next hbz
           clear hbz))
      go_ret
      exact ⟨rfl, HI.out.bel⟩
    | true =>
      have HQ3 : Hid (sq.length ≤ 300) := show sq.length ≤ 300 from of_decide_eq_true HFQ.out.symm
      cases own with
      | false =>
        go_upto_region 5 with (first
          | (with_reducible refine wpSeq_loadP (.tmp 7) gp cp ?_ ?_ ?_ ?_ ?_ ?_
             · exact HP6.out
             · exact HI.out.pb
             · rfl
             · rfl
             · rfl)
          | (with_reducible refine wpSeq_loadP (.tmp 8) gq cq ?_ ?_ ?_ ?_ ?_ ?_
             · exact HQ6.out
             · exact HI.out.qb
             · rfl
             · rfl
             · rfl)
          | (go_at_call 14; refine (HC1.out _ HI.out.bel).mono ?_; rintro e w3 ⟨rfl, hbz⟩
             replace HI : Hid (C10 w gr gi gp gq rr i cp cq w3) := HI.out.next hbz
             clear hbz HC1)
          | (go_at_call 14; refine (HC2.out _ HI.out.bel).mono ?_; rintro e w4 ⟨rfl, hbz⟩
             replace HI : Hid (C10 w gr gi gp gq rr i cp cq w4) := HI.out.next hbz
             clear hbz HC2))
        obtain ⟨v1, HV1⟩ : ∃ z, Hid (z = chkV (checkW rr i sp ep ixp vap)) := ⟨_, rfl⟩
        obtain ⟨b1, HB1⟩ : ∃ z, Hid (z = chkB (checkW rr i sp ep ixp vap)) := ⟨_, rfl⟩
        obtain ⟨e1, HE1⟩ : ∃ z, Hid (z = chkE (checkW rr i sp ep ixp vap)) := ⟨_, rfl⟩
        obtain ⟨v2, HV2⟩ : ∃ z, Hid (z = chkV (checkW rr i sq eq ixq vaq)) := ⟨_, rfl⟩
        obtain ⟨b2, HB2⟩ : ∃ z, Hid (z = chkB (checkW rr i sq eq ixq vaq)) := ⟨_, rfl⟩
        obtain ⟨e2, HE2⟩ : ∃ z, Hid (z = chkE (checkW rr i sq eq ixq vaq)) := ⟨_, rfl⟩
        have HL1 : Hid (v1.length = 32) := by show _ = _; rw [HV1.out]; exact checkW_len HP2.out
        have HL2 : Hid (v2.length = 32) := by show _ = _; rw [HV2.out]; exact checkW_len HQ2.out
        have HK1 : Hid (∀ W, Below w.heap.size w W → Calls Tryd.prog 18 #[.agg (cb rr).toArray, .agg (cb i).toArray, .agg cp.toArray] W fun e w' => e = .returned (.tuple #[.agg (cb v1).toArray, .bool b1, .int .i64 e1]) ∧ Below W.heap.size W w') := fun W hh => by
          rw [HCP.out, HV1.out, HB1.out, HE1.out]
          exact HPO.out.check W rr i vp sp ep ixp vap (HK0.out.below hh HK0.out.lt) HRL.out HIL.out HP1.out HP2.out (HRP.out.below hh) HP3.out
        have HK2 : Hid (∀ W, Below w.heap.size w W → Calls Tryd.prog 18 #[.agg (cb rr).toArray, .agg (cb i).toArray, .agg cq.toArray] W fun e w' => e = .returned (.tuple #[.agg (cb v2).toArray, .bool b2, .int .i64 e2]) ∧ Below W.heap.size W w') := fun W hh => by
          rw [HCQ.out, HV2.out, HB2.out, HE2.out]
          exact HPO.out.check W rr i vq sq eq ixq vaq (HK0.out.below hh HK0.out.lt) HRL.out HIL.out HQ1.out HQ2.out (HRQ.out.below hh) HQ3.out
        have HTWO : Hid (∀ a1 a2, checkW rr i sp ep ixp vap = some a1 → checkW rr i sq eq ixq vaq = some a2 → a1 ≠ a2 → ∃ k, firstI lp lq = some k) := fun a1 a2 q1 q2 q3 => by
          have h := twoL_first (bind_two HP1.out HQ1.out H3P.out H3Q.out q1 q2 q3)
          rw [← HLP.out, ← HLQ.out] at h
          exact h
        go_upto_region 6 with (first
          | (with_reducible refine wpSeq_loadD (.tmp 5) gr rr ?_ ?_ ?_ ?_ ?_ ?_
             · exact HRL.out
             · exact HI.out.rb
             · with_reducible rfl
             · rfl
             · rfl)
          | (with_reducible refine wpSeq_loadD (.tmp 6) gi i ?_ ?_ ?_ ?_ ?_ ?_
             · exact HIL.out
             · exact HI.out.ib
             · with_reducible rfl
             · rfl
             · rfl)
          | (with_reducible refine wpSeq_loadP (.tmp 7) gp cp ?_ ?_ ?_ ?_ ?_ ?_
             · exact HP6.out
             · exact HI.out.pb
             · rfl
             · rfl
             · rfl)
          | (go_at_call 18; refine (HK1.out _ HI.out.bel).mono ?_; rintro e w6 ⟨rfl, hbz⟩
             replace HI : Hid (C10 w gr gi gp gq rr i cp cq w6) := HI.out.next hbz
             clear hbz HK1)
          | (with_reducible refine wpSeq_allocD ?_ ?_ ?_
             · rfl
             · rfl
             intro g11 w7 nn11)
          | (with_reducible refine wpSeq_storeD (.tmp 11) (.tmp 38) g11 zb32 v1 ?_ ?_ ?_ ?_ ?_ ?_ ?_ ?_
             · rfl
             · exact HL1.out
             · exact nn11.blk
             · rfl
             · rfl
             · rfl
             · rfl
             intro w8 h8
             have N11 := nn11.set h8
             replace HI : Hid (C10 w gr gi gp gq rr i cp cq w8) := HI.out.next N11.below
             have H11 : Hid (Blk w8 g11 (cb v1) 33) := N11.blk
             clear nn11 h8 N11))
        go_upto_region 7 with (first
          | (with_reducible refine wpSeq_loadD (.tmp 5) gr rr ?_ ?_ ?_ ?_ ?_ ?_
             · exact HRL.out
             · exact HI.out.rb
             · with_reducible rfl
             · rfl
             · rfl)
          | (with_reducible refine wpSeq_loadD (.tmp 6) gi i ?_ ?_ ?_ ?_ ?_ ?_
             · exact HIL.out
             · exact HI.out.ib
             · with_reducible rfl
             · rfl
             · rfl)
          | (with_reducible refine wpSeq_loadP (.tmp 8) gq cq ?_ ?_ ?_ ?_ ?_ ?_
             · exact HQ6.out
             · exact HI.out.qb
             · rfl
             · rfl
             · rfl)
          | (go_at_call 18; refine (HK2.out _ HI.out.bel).mono ?_; rintro e wa ⟨rfl, hbz⟩
             replace HI : Hid (C10 w gr gi gp gq rr i cp cq wa) := HI.out.next hbz
             replace H11 : Hid (Blk wa g11 (cb v1) 33) := H11.out.below hbz H11.out.lt
             clear hbz HK2)
          | (with_reducible refine wpSeq_allocD ?_ ?_ ?_
             · rfl
             · rfl
             intro g14 wb nn14)
          | (with_reducible refine wpSeq_storeD (.tmp 14) (.tmp 46) g14 zb32 v2 ?_ ?_ ?_ ?_ ?_ ?_ ?_ ?_
             · rfl
             · exact HL2.out
             · exact nn14.blk
             · rfl
             · rfl
             · rfl
             · rfl
             intro wd h8
             have N14 := nn14.set h8
             replace HI : Hid (C10 w gr gi gp gq rr i cp cq wd) := HI.out.next N14.below
             replace H11 : Hid (Blk wd g11 (cb v1) 33) := H11.out.below N14.below H11.out.lt
             have H14 : Hid (Blk wd g14 (cb v2) 33) := N14.blk
             clear nn14 h8 N14))
        rcases chk_open (checkW rr i sp ep ixp vap) with ⟨_, q1⟩ | ⟨a1, q1, q1e, q1v, q1b⟩
        · obtain rfl : e1 = 15 := by rw [HE1.out, q1]
          clear q1
          go_wp2_with (first
            | (with_reducible refine wpSeq_loadD (.tmp 11) g11 v1 ?_ ?_ ?_ ?_ ?_ ?_
               · exact HL1.out
               · exact H11.out
               · with_reducible rfl
               · rfl
               · rfl)
            | (with_reducible refine wpSeq_loadD (.tmp 14) g14 v2 ?_ ?_ ?_ ?_ ?_ ?_
               · exact HL2.out
               · exact H14.out
               · with_reducible rfl
               · rfl
               · rfl)
            | (go_at_call 13; refine (HWK.out _ HI.out.bel).mono ?_; rintro e wz ⟨rfl, hbz⟩
               replace HI : Hid (C10 w gr gi gp gq rr i cp cq wz) := HI.out.next hbz
               clear hbz))
          go_ret
          exact ⟨rfl, HI.out.bel⟩
        · obtain rfl : e1 = 0 := by rw [HE1.out, q1e]
          rcases chk_open (checkW rr i sq eq ixq vaq) with ⟨_, q2⟩ | ⟨a2, q2, q2e, q2v, q2b⟩
          · obtain rfl : e2 = 15 := by rw [HE2.out, q2]
            clear q2 q1 q1e q1v q1b
            go_wp2_with (first
              | (with_reducible refine wpSeq_loadD (.tmp 11) g11 v1 ?_ ?_ ?_ ?_ ?_ ?_
                 · exact HL1.out
                 · exact H11.out
                 · with_reducible rfl
                 · rfl
                 · rfl)
              | (with_reducible refine wpSeq_loadD (.tmp 14) g14 v2 ?_ ?_ ?_ ?_ ?_ ?_
                 · exact HL2.out
                 · exact H14.out
                 · with_reducible rfl
                 · rfl
                 · rfl)
              | (go_at_call 13; refine (HWK.out _ HI.out.bel).mono ?_; rintro e wz ⟨rfl, hbz⟩
                 replace HI : Hid (C10 w gr gi gp gq rr i cp cq wz) := HI.out.next hbz
                 clear hbz))
            go_ret
            exact ⟨rfl, HI.out.bel⟩
          · obtain rfl : e2 = 0 := by rw [HE2.out, q2e]
            have HD1 : Hid (v1 ≠ v2 → a1 ≠ a2) := fun h e => h (by rw [HV1.out, HV2.out, q1v, q2v, e])
            have HD2 : Hid (b1 ≠ b2 → a1 ≠ a2) := fun h e => h (by rw [HB1.out, HB2.out, q1b, q2b, e])
            clear q1e q1v q1b q2e q2v q2b HV1 HV2 HB1 HB2 HE1 HE2
            by_cases hv : v1 = v2
            · have hq : ∀ wx : World, (Op.equalIn 10000 33 (.agg (cb v1).toArray) (.agg (cb v2).toArray)).run Tryd.prog wx = .ok true wx := fun wx => by rw [hv]; exact eq_dig_same v2 HL2.out wx
              clear hv
              cases b1 <;> cases b2
              · clear HD1 HD2 q1 q2 HTWO
                go_wp2_with (first
                  | (with_reducible refine wpSeq_loadD (.tmp 11) g11 v1 ?_ ?_ ?_ ?_ ?_ ?_
                     · exact HL1.out
                     · exact H11.out
                     · with_reducible rfl
                     · rfl
                     · rfl)
                  | (with_reducible refine wpSeq_loadD (.tmp 14) g14 v2 ?_ ?_ ?_ ?_ ?_ ?_
                     · exact HL2.out
                     · exact H14.out
                     · with_reducible rfl
                     · rfl
                     · rfl)
                  | (go_at_call 13; refine (HWK.out _ HI.out.bel).mono ?_; rintro e wz ⟨rfl, hbz⟩
                     replace HI : Hid (C10 w gr gi gp gq rr i cp cq wz) := HI.out.next hbz
                     clear hbz))
                go_ret
                exact ⟨rfl, HI.out.bel⟩
              · have hne : a1 ≠ a2 := HD2.out (by decide)
                obtain ⟨k, HFK⟩ : ∃ k, Hid (firstI lp lq = some k) := HTWO.out a1 a2 q1 q2 hne
                have HCA : Hid (∀ W, Below w.heap.size w W → Calls Tryd.prog 15 #[.agg (cb i).toArray, .agg cp.toArray, .agg cq.toArray] W fun e w' => ∃ x y s t, e = .returned (.tuple #[x, y, .bool true]) ∧ Reads w' x s ∧ Reads w' y t ∧ s.length ≤ 65 ∧ t.length ≤ 65 ∧ pairB9 s t = true ∧ Below W.heap.size W w') := fun W hh => by
                  rw [HCP.out, HCQ.out]
                  refine (HCO.out.ways W i vp sp ep ixp vap vq sq eq ixq vaq (HK0.out.below hh HK0.out.lt) HIL.out HP1.out HP2.out HQ1.out HQ2.out (HRP.out.below hh) (HRQ.out.below hh) HP3.out HQ3.out).mono fun e w' h => ?_
                  obtain ⟨x, y, o, g1, g2, g3⟩ := h
                  rw [← HLP.out, ← HLQ.out] at g2
                  obtain ⟨s, t, g4, g5, g6⟩ := g2.both
                  have g7 := first_len HTP.out HTQ.out g6
                  rcases g6 with ⟨k', rfl, _, _, _, g8⟩ | ⟨_, g8, _⟩
                  · exact ⟨x, y, s, t, g1, g4, g5, g7.1, g7.2, g8, g3⟩
                  · rw [HFK.out] at g8; cases g8
                clear HTWO HFK q1 q2
                go_upto_region 9 with (first
                  | (with_reducible refine wpSeq_loadD (.tmp 11) g11 v1 ?_ ?_ ?_ ?_ ?_ ?_
                     · exact HL1.out
                     · exact H11.out
                     · with_reducible rfl
                     · rfl
                     · rfl)
                  | (with_reducible refine wpSeq_loadD (.tmp 14) g14 v2 ?_ ?_ ?_ ?_ ?_ ?_
                     · exact HL2.out
                     · exact H14.out
                     · with_reducible rfl
                     · rfl
                     · rfl))
                clear hq H11 H14
                go_upto_region 10 with (first
                  | (with_reducible refine wpSeq_loadD (.tmp 6) gi i ?_ ?_ ?_ ?_ ?_ ?_
                     · exact HIL.out
                     · exact HI.out.ib
                     · with_reducible rfl
                     · rfl
                     · rfl)
                  | (with_reducible refine wpSeq_loadP (.tmp 7) gp cp ?_ ?_ ?_ ?_ ?_ ?_
                     · exact HP6.out
                     · exact HI.out.pb
                     · rfl
                     · rfl
                     · rfl)
                  | (with_reducible refine wpSeq_loadP (.tmp 8) gq cq ?_ ?_ ?_ ?_ ?_ ?_
                     · exact HQ6.out
                     · exact HI.out.qb
                     · rfl
                     · rfl
                     · rfl)
                  | (go_at_call 15; refine (HCA.out _ HI.out.bel).mono ?_; rintro e we ⟨vx, vy, s, t, rfl, hs, ht, hsl, htl, hpt, hbz⟩
                     replace HI : Hid (C10 w gr gi gp gq rr i cp cq we) := HI.out.next hbz
                     obtain ⟨ax, nx, cx, hvx⟩ := hs.form
                     subst hvx
                     obtain ⟨ay, ny, cy, hvy⟩ := ht.form
                     subst hvy
                     have HC5 : Hid (Calls Tryd.prog 12 #[.slice ax nx cx, .slice ay ny cy] we fun e w' => e = .returned (.bool true) ∧ Below we.heap.size we w') := by
                       have h := qPair_any _ _ s t we hs ht (by omega) (by omega)
                       rw [hpt] at h
                       exact h
                     clear hbz hs ht hsl htl hpt HCA))
                go_wp2_with (first
                  | (go_at_call 12; refine HC5.out.mono ?_; rintro e wf ⟨rfl, hbz⟩
                     replace HI : Hid (C10 w gr gi gp gq rr i cp cq wf) := HI.out.next hbz
                     clear hbz HC5)
                  | (go_at_call 13; refine (HWK.out _ HI.out.bel).mono ?_; rintro e wz ⟨rfl, hbz⟩
                     replace HI : Hid (C10 w gr gi gp gq rr i cp cq wz) := HI.out.next hbz
                     clear hbz))
                go_ret
                exact ⟨rfl, HI.out.bel⟩
              · have hne : a1 ≠ a2 := HD2.out (by decide)
                obtain ⟨k, HFK⟩ : ∃ k, Hid (firstI lp lq = some k) := HTWO.out a1 a2 q1 q2 hne
                have HCA : Hid (∀ W, Below w.heap.size w W → Calls Tryd.prog 15 #[.agg (cb i).toArray, .agg cp.toArray, .agg cq.toArray] W fun e w' => ∃ x y s t, e = .returned (.tuple #[x, y, .bool true]) ∧ Reads w' x s ∧ Reads w' y t ∧ s.length ≤ 65 ∧ t.length ≤ 65 ∧ pairB9 s t = true ∧ Below W.heap.size W w') := fun W hh => by
                  rw [HCP.out, HCQ.out]
                  refine (HCO.out.ways W i vp sp ep ixp vap vq sq eq ixq vaq (HK0.out.below hh HK0.out.lt) HIL.out HP1.out HP2.out HQ1.out HQ2.out (HRP.out.below hh) (HRQ.out.below hh) HP3.out HQ3.out).mono fun e w' h => ?_
                  obtain ⟨x, y, o, g1, g2, g3⟩ := h
                  rw [← HLP.out, ← HLQ.out] at g2
                  obtain ⟨s, t, g4, g5, g6⟩ := g2.both
                  have g7 := first_len HTP.out HTQ.out g6
                  rcases g6 with ⟨k', rfl, _, _, _, g8⟩ | ⟨_, g8, _⟩
                  · exact ⟨x, y, s, t, g1, g4, g5, g7.1, g7.2, g8, g3⟩
                  · rw [HFK.out] at g8; cases g8
                clear HTWO HFK q1 q2
                go_upto_region 9 with (first
                  | (with_reducible refine wpSeq_loadD (.tmp 11) g11 v1 ?_ ?_ ?_ ?_ ?_ ?_
                     · exact HL1.out
                     · exact H11.out
                     · with_reducible rfl
                     · rfl
                     · rfl)
                  | (with_reducible refine wpSeq_loadD (.tmp 14) g14 v2 ?_ ?_ ?_ ?_ ?_ ?_
                     · exact HL2.out
                     · exact H14.out
                     · with_reducible rfl
                     · rfl
                     · rfl))
                clear hq H11 H14
                go_upto_region 10 with (first
                  | (with_reducible refine wpSeq_loadD (.tmp 6) gi i ?_ ?_ ?_ ?_ ?_ ?_
                     · exact HIL.out
                     · exact HI.out.ib
                     · with_reducible rfl
                     · rfl
                     · rfl)
                  | (with_reducible refine wpSeq_loadP (.tmp 7) gp cp ?_ ?_ ?_ ?_ ?_ ?_
                     · exact HP6.out
                     · exact HI.out.pb
                     · rfl
                     · rfl
                     · rfl)
                  | (with_reducible refine wpSeq_loadP (.tmp 8) gq cq ?_ ?_ ?_ ?_ ?_ ?_
                     · exact HQ6.out
                     · exact HI.out.qb
                     · rfl
                     · rfl
                     · rfl)
                  | (go_at_call 15; refine (HCA.out _ HI.out.bel).mono ?_; rintro e we ⟨vx, vy, s, t, rfl, hs, ht, hsl, htl, hpt, hbz⟩
                     replace HI : Hid (C10 w gr gi gp gq rr i cp cq we) := HI.out.next hbz
                     obtain ⟨ax, nx, cx, hvx⟩ := hs.form
                     subst hvx
                     obtain ⟨ay, ny, cy, hvy⟩ := ht.form
                     subst hvy
                     have HC5 : Hid (Calls Tryd.prog 12 #[.slice ax nx cx, .slice ay ny cy] we fun e w' => e = .returned (.bool true) ∧ Below we.heap.size we w') := by
                       have h := qPair_any _ _ s t we hs ht (by omega) (by omega)
                       rw [hpt] at h
                       exact h
                     clear hbz hs ht hsl htl hpt HCA))
                go_wp2_with (first
                  | (go_at_call 12; refine HC5.out.mono ?_; rintro e wf ⟨rfl, hbz⟩
                     replace HI : Hid (C10 w gr gi gp gq rr i cp cq wf) := HI.out.next hbz
                     clear hbz HC5)
                  | (go_at_call 13; refine (HWK.out _ HI.out.bel).mono ?_; rintro e wz ⟨rfl, hbz⟩
                     replace HI : Hid (C10 w gr gi gp gq rr i cp cq wz) := HI.out.next hbz
                     clear hbz))
                go_ret
                exact ⟨rfl, HI.out.bel⟩
              · clear HD1 HD2 q1 q2 HTWO
                go_wp2_with (first
                  | (with_reducible refine wpSeq_loadD (.tmp 11) g11 v1 ?_ ?_ ?_ ?_ ?_ ?_
                     · exact HL1.out
                     · exact H11.out
                     · with_reducible rfl
                     · rfl
                     · rfl)
                  | (with_reducible refine wpSeq_loadD (.tmp 14) g14 v2 ?_ ?_ ?_ ?_ ?_ ?_
                     · exact HL2.out
                     · exact H14.out
                     · with_reducible rfl
                     · rfl
                     · rfl)
                  | (go_at_call 13; refine (HWK.out _ HI.out.bel).mono ?_; rintro e wz ⟨rfl, hbz⟩
                     replace HI : Hid (C10 w gr gi gp gq rr i cp cq wz) := HI.out.next hbz
                     clear hbz))
                go_ret
                exact ⟨rfl, HI.out.bel⟩
            · have hq : ∀ wx : World, (Op.equalIn 10000 33 (.agg (cb v1).toArray) (.agg (cb v2).toArray)).run Tryd.prog wx = .ok false wx := fun wx => by have h := eq_dig v1 v2 HL1.out HL2.out wx; rw [decide_eq_false hv] at h; exact h
              have hne : a1 ≠ a2 := HD1.out hv
              clear hv HD1 HD2
              obtain ⟨k, HFK⟩ : ∃ k, Hid (firstI lp lq = some k) := HTWO.out a1 a2 q1 q2 hne
              have HCA : Hid (∀ W, Below w.heap.size w W → Calls Tryd.prog 15 #[.agg (cb i).toArray, .agg cp.toArray, .agg cq.toArray] W fun e w' => ∃ x y s t, e = .returned (.tuple #[x, y, .bool true]) ∧ Reads w' x s ∧ Reads w' y t ∧ s.length ≤ 65 ∧ t.length ≤ 65 ∧ pairB9 s t = true ∧ Below W.heap.size W w') := fun W hh => by
                rw [HCP.out, HCQ.out]
                refine (HCO.out.ways W i vp sp ep ixp vap vq sq eq ixq vaq (HK0.out.below hh HK0.out.lt) HIL.out HP1.out HP2.out HQ1.out HQ2.out (HRP.out.below hh) (HRQ.out.below hh) HP3.out HQ3.out).mono fun e w' h => ?_
                obtain ⟨x, y, o, g1, g2, g3⟩ := h
                rw [← HLP.out, ← HLQ.out] at g2
                obtain ⟨s, t, g4, g5, g6⟩ := g2.both
                have g7 := first_len HTP.out HTQ.out g6
                rcases g6 with ⟨k', rfl, _, _, _, g8⟩ | ⟨_, g8, _⟩
                · exact ⟨x, y, s, t, g1, g4, g5, g7.1, g7.2, g8, g3⟩
                · rw [HFK.out] at g8; cases g8
              clear HTWO HFK q1 q2
              go_upto_region 9 with (first
                | (with_reducible refine wpSeq_loadD (.tmp 11) g11 v1 ?_ ?_ ?_ ?_ ?_ ?_
                   · exact HL1.out
                   · exact H11.out
                   · with_reducible rfl
                   · rfl
                   · rfl)
                | (with_reducible refine wpSeq_loadD (.tmp 14) g14 v2 ?_ ?_ ?_ ?_ ?_ ?_
                   · exact HL2.out
                   · exact H14.out
                   · with_reducible rfl
                   · rfl
                   · rfl))
              clear hq H11 H14
              go_upto_region 10 with (first
                | (with_reducible refine wpSeq_loadD (.tmp 6) gi i ?_ ?_ ?_ ?_ ?_ ?_
                   · exact HIL.out
                   · exact HI.out.ib
                   · with_reducible rfl
                   · rfl
                   · rfl)
                | (with_reducible refine wpSeq_loadP (.tmp 7) gp cp ?_ ?_ ?_ ?_ ?_ ?_
                   · exact HP6.out
                   · exact HI.out.pb
                   · rfl
                   · rfl
                   · rfl)
                | (with_reducible refine wpSeq_loadP (.tmp 8) gq cq ?_ ?_ ?_ ?_ ?_ ?_
                   · exact HQ6.out
                   · exact HI.out.qb
                   · rfl
                   · rfl
                   · rfl)
                | (go_at_call 15; refine (HCA.out _ HI.out.bel).mono ?_; rintro e we ⟨vx, vy, s, t, rfl, hs, ht, hsl, htl, hpt, hbz⟩
                   replace HI : Hid (C10 w gr gi gp gq rr i cp cq we) := HI.out.next hbz
                   obtain ⟨ax, nx, cx, hvx⟩ := hs.form
                   subst hvx
                   obtain ⟨ay, ny, cy, hvy⟩ := ht.form
                   subst hvy
                   have HC5 : Hid (Calls Tryd.prog 12 #[.slice ax nx cx, .slice ay ny cy] we fun e w' => e = .returned (.bool true) ∧ Below we.heap.size we w') := by
                     have h := qPair_any _ _ s t we hs ht (by omega) (by omega)
                     rw [hpt] at h
                     exact h
                   clear hbz hs ht hsl htl hpt HCA))
              go_wp2_with (first
                | (go_at_call 12; refine HC5.out.mono ?_; rintro e wf ⟨rfl, hbz⟩
                   replace HI : Hid (C10 w gr gi gp gq rr i cp cq wf) := HI.out.next hbz
                   clear hbz HC5)
                | (go_at_call 13; refine (HWK.out _ HI.out.bel).mono ?_; rintro e wz ⟨rfl, hbz⟩
                   replace HI : Hid (C10 w gr gi gp gq rr i cp cq wz) := HI.out.next hbz
                   clear hbz))
              go_ret
              exact ⟨rfl, HI.out.bel⟩
      | true =>
        obtain ⟨rt, HRT⟩ : ∃ z, Hid (z = topL i (endB ep ixp vap) 0 sp) := ⟨_, rfl⟩
        have HTL : Hid (rt.length = 32) := by show _ = _; rw [HRT.out]; exact topL_len _ _ _ _
        have HCR : Hid (∀ W, Below w.heap.size w W → Calls Tryd.prog 17 #[.agg (cb i).toArray, .agg cp.toArray] W fun e w' => e = .returned (.agg (cb rt).toArray) ∧ Below W.heap.size W w') := fun W hh => by rw [HCP.out, HRT.out]; exact bRoot_any i vp sp ep ixp vap W HIL.out HP1.out HP2.out (HRP.out.below hh) (by have := HP3.out; omega)
        go_upto_region 4 with (first
          | (with_reducible refine wpSeq_loadP (.tmp 7) gp cp ?_ ?_ ?_ ?_ ?_ ?_
             · exact HP6.out
             · exact HI.out.pb
             · rfl
             · rfl
             · rfl)
          | (with_reducible refine wpSeq_loadP (.tmp 8) gq cq ?_ ?_ ?_ ?_ ?_ ?_
             · exact HQ6.out
             · exact HI.out.qb
             · rfl
             · rfl
             · rfl)
          | (go_at_call 14; refine (HC1.out _ HI.out.bel).mono ?_; rintro e w3 ⟨rfl, hbz⟩
             replace HI : Hid (C10 w gr gi gp gq rr i cp cq w3) := HI.out.next hbz
             clear hbz HC1)
          | (go_at_call 14; refine (HC2.out _ HI.out.bel).mono ?_; rintro e w4 ⟨rfl, hbz⟩
             replace HI : Hid (C10 w gr gi gp gq rr i cp cq w4) := HI.out.next hbz
             clear hbz HC2))
        go_upto_region 5 with (first
          | (with_reducible refine wpSeq_loadD (.tmp 6) gi i ?_ ?_ ?_ ?_ ?_ ?_
             · exact HIL.out
             · exact HI.out.ib
             · with_reducible rfl
             · rfl
             · rfl)
          | (with_reducible refine wpSeq_loadP (.tmp 7) gp cp ?_ ?_ ?_ ?_ ?_ ?_
             · exact HP6.out
             · exact HI.out.pb
             · rfl
             · rfl
             · rfl)
          | (go_at_call 17; refine (HCR.out _ HI.out.bel).mono ?_; rintro e w5 ⟨rfl, hbz⟩
             replace HI : Hid (C10 w gr gi gp gq rr i cp cq w5) := HI.out.next hbz
             clear hbz HCR)
          | (with_reducible refine wpSeq_storeD (.tmp 5) (.tmp 32) gr rr rt ?_ ?_ ?_ ?_ ?_ ?_ ?_ ?_
             · exact HRL.out
             · exact HTL.out
             · exact HI.out.rb
             · rfl
             · rfl
             · rfl
             · rfl
             intro wc hsc
             replace HI : Hid (C10 w gr gi gp gq rt i cp cq wc) := HI.out.set hsc
             clear hsc))
        obtain ⟨v1, HV1⟩ : ∃ z, Hid (z = chkV (checkW rt i sp ep ixp vap)) := ⟨_, rfl⟩
        obtain ⟨b1, HB1⟩ : ∃ z, Hid (z = chkB (checkW rt i sp ep ixp vap)) := ⟨_, rfl⟩
        obtain ⟨e1, HE1⟩ : ∃ z, Hid (z = chkE (checkW rt i sp ep ixp vap)) := ⟨_, rfl⟩
        obtain ⟨v2, HV2⟩ : ∃ z, Hid (z = chkV (checkW rt i sq eq ixq vaq)) := ⟨_, rfl⟩
        obtain ⟨b2, HB2⟩ : ∃ z, Hid (z = chkB (checkW rt i sq eq ixq vaq)) := ⟨_, rfl⟩
        obtain ⟨e2, HE2⟩ : ∃ z, Hid (z = chkE (checkW rt i sq eq ixq vaq)) := ⟨_, rfl⟩
        have HL1 : Hid (v1.length = 32) := by show _ = _; rw [HV1.out]; exact checkW_len HP2.out
        have HL2 : Hid (v2.length = 32) := by show _ = _; rw [HV2.out]; exact checkW_len HQ2.out
        have HK1 : Hid (∀ W, Below w.heap.size w W → Calls Tryd.prog 18 #[.agg (cb rt).toArray, .agg (cb i).toArray, .agg cp.toArray] W fun e w' => e = .returned (.tuple #[.agg (cb v1).toArray, .bool b1, .int .i64 e1]) ∧ Below W.heap.size W w') := fun W hh => by
          rw [HCP.out, HV1.out, HB1.out, HE1.out]
          exact HPO.out.check W rt i vp sp ep ixp vap (HK0.out.below hh HK0.out.lt) HTL.out HIL.out HP1.out HP2.out (HRP.out.below hh) HP3.out
        have HK2 : Hid (∀ W, Below w.heap.size w W → Calls Tryd.prog 18 #[.agg (cb rt).toArray, .agg (cb i).toArray, .agg cq.toArray] W fun e w' => e = .returned (.tuple #[.agg (cb v2).toArray, .bool b2, .int .i64 e2]) ∧ Below W.heap.size W w') := fun W hh => by
          rw [HCQ.out, HV2.out, HB2.out, HE2.out]
          exact HPO.out.check W rt i vq sq eq ixq vaq (HK0.out.below hh HK0.out.lt) HTL.out HIL.out HQ1.out HQ2.out (HRQ.out.below hh) HQ3.out
        have HTWO : Hid (∀ a1 a2, checkW rt i sp ep ixp vap = some a1 → checkW rt i sq eq ixq vaq = some a2 → a1 ≠ a2 → ∃ k, firstI lp lq = some k) := fun a1 a2 q1 q2 q3 => by
          have h := twoL_first (bind_two HP1.out HQ1.out H3P.out H3Q.out q1 q2 q3)
          rw [← HLP.out, ← HLQ.out] at h
          exact h
        go_upto_region 6 with (first
          | (with_reducible refine wpSeq_loadD (.tmp 5) gr rt ?_ ?_ ?_ ?_ ?_ ?_
             · exact HTL.out
             · exact HI.out.rb
             · with_reducible rfl
             · rfl
             · rfl)
          | (with_reducible refine wpSeq_loadD (.tmp 6) gi i ?_ ?_ ?_ ?_ ?_ ?_
             · exact HIL.out
             · exact HI.out.ib
             · with_reducible rfl
             · rfl
             · rfl)
          | (with_reducible refine wpSeq_loadP (.tmp 7) gp cp ?_ ?_ ?_ ?_ ?_ ?_
             · exact HP6.out
             · exact HI.out.pb
             · rfl
             · rfl
             · rfl)
          | (go_at_call 18; refine (HK1.out _ HI.out.bel).mono ?_; rintro e w6 ⟨rfl, hbz⟩
             replace HI : Hid (C10 w gr gi gp gq rt i cp cq w6) := HI.out.next hbz
             clear hbz HK1)
          | (with_reducible refine wpSeq_allocD ?_ ?_ ?_
             · rfl
             · rfl
             intro g11 w7 nn11)
          | (with_reducible refine wpSeq_storeD (.tmp 11) (.tmp 38) g11 zb32 v1 ?_ ?_ ?_ ?_ ?_ ?_ ?_ ?_
             · rfl
             · exact HL1.out
             · exact nn11.blk
             · rfl
             · rfl
             · rfl
             · rfl
             intro w8 h8
             have N11 := nn11.set h8
             replace HI : Hid (C10 w gr gi gp gq rt i cp cq w8) := HI.out.next N11.below
             have H11 : Hid (Blk w8 g11 (cb v1) 33) := N11.blk
             clear nn11 h8 N11))
        go_upto_region 7 with (first
          | (with_reducible refine wpSeq_loadD (.tmp 5) gr rt ?_ ?_ ?_ ?_ ?_ ?_
             · exact HTL.out
             · exact HI.out.rb
             · with_reducible rfl
             · rfl
             · rfl)
          | (with_reducible refine wpSeq_loadD (.tmp 6) gi i ?_ ?_ ?_ ?_ ?_ ?_
             · exact HIL.out
             · exact HI.out.ib
             · with_reducible rfl
             · rfl
             · rfl)
          | (with_reducible refine wpSeq_loadP (.tmp 8) gq cq ?_ ?_ ?_ ?_ ?_ ?_
             · exact HQ6.out
             · exact HI.out.qb
             · rfl
             · rfl
             · rfl)
          | (go_at_call 18; refine (HK2.out _ HI.out.bel).mono ?_; rintro e wa ⟨rfl, hbz⟩
             replace HI : Hid (C10 w gr gi gp gq rt i cp cq wa) := HI.out.next hbz
             replace H11 : Hid (Blk wa g11 (cb v1) 33) := H11.out.below hbz H11.out.lt
             clear hbz HK2)
          | (with_reducible refine wpSeq_allocD ?_ ?_ ?_
             · rfl
             · rfl
             intro g14 wb nn14)
          | (with_reducible refine wpSeq_storeD (.tmp 14) (.tmp 46) g14 zb32 v2 ?_ ?_ ?_ ?_ ?_ ?_ ?_ ?_
             · rfl
             · exact HL2.out
             · exact nn14.blk
             · rfl
             · rfl
             · rfl
             · rfl
             intro wd h8
             have N14 := nn14.set h8
             replace HI : Hid (C10 w gr gi gp gq rt i cp cq wd) := HI.out.next N14.below
             replace H11 : Hid (Blk wd g11 (cb v1) 33) := H11.out.below N14.below H11.out.lt
             have H14 : Hid (Blk wd g14 (cb v2) 33) := N14.blk
             clear nn14 h8 N14))
        rcases chk_open (checkW rt i sp ep ixp vap) with ⟨_, q1⟩ | ⟨a1, q1, q1e, q1v, q1b⟩
        · obtain rfl : e1 = 15 := by rw [HE1.out, q1]
          clear q1
          go_wp2_with (first
            | (with_reducible refine wpSeq_loadD (.tmp 11) g11 v1 ?_ ?_ ?_ ?_ ?_ ?_
               · exact HL1.out
               · exact H11.out
               · with_reducible rfl
               · rfl
               · rfl)
            | (with_reducible refine wpSeq_loadD (.tmp 14) g14 v2 ?_ ?_ ?_ ?_ ?_ ?_
               · exact HL2.out
               · exact H14.out
               · with_reducible rfl
               · rfl
               · rfl)
            | (go_at_call 13; refine (HWK.out _ HI.out.bel).mono ?_; rintro e wz ⟨rfl, hbz⟩
               replace HI : Hid (C10 w gr gi gp gq rt i cp cq wz) := HI.out.next hbz
               clear hbz))
          go_ret
          exact ⟨rfl, HI.out.bel⟩
        · obtain rfl : e1 = 0 := by rw [HE1.out, q1e]
          rcases chk_open (checkW rt i sq eq ixq vaq) with ⟨_, q2⟩ | ⟨a2, q2, q2e, q2v, q2b⟩
          · obtain rfl : e2 = 15 := by rw [HE2.out, q2]
            clear q2 q1 q1e q1v q1b
            go_wp2_with (first
              | (with_reducible refine wpSeq_loadD (.tmp 11) g11 v1 ?_ ?_ ?_ ?_ ?_ ?_
                 · exact HL1.out
                 · exact H11.out
                 · with_reducible rfl
                 · rfl
                 · rfl)
              | (with_reducible refine wpSeq_loadD (.tmp 14) g14 v2 ?_ ?_ ?_ ?_ ?_ ?_
                 · exact HL2.out
                 · exact H14.out
                 · with_reducible rfl
                 · rfl
                 · rfl)
              | (go_at_call 13; refine (HWK.out _ HI.out.bel).mono ?_; rintro e wz ⟨rfl, hbz⟩
                 replace HI : Hid (C10 w gr gi gp gq rt i cp cq wz) := HI.out.next hbz
                 clear hbz))
            go_ret
            exact ⟨rfl, HI.out.bel⟩
          · obtain rfl : e2 = 0 := by rw [HE2.out, q2e]
            have HD1 : Hid (v1 ≠ v2 → a1 ≠ a2) := fun h e => h (by rw [HV1.out, HV2.out, q1v, q2v, e])
            have HD2 : Hid (b1 ≠ b2 → a1 ≠ a2) := fun h e => h (by rw [HB1.out, HB2.out, q1b, q2b, e])
            clear q1e q1v q1b q2e q2v q2b HV1 HV2 HB1 HB2 HE1 HE2
            by_cases hv : v1 = v2
            · have hq : ∀ wx : World, (Op.equalIn 10000 33 (.agg (cb v1).toArray) (.agg (cb v2).toArray)).run Tryd.prog wx = .ok true wx := fun wx => by rw [hv]; exact eq_dig_same v2 HL2.out wx
              clear hv
              cases b1 <;> cases b2
              · clear HD1 HD2 q1 q2 HTWO
                go_wp2_with (first
                  | (with_reducible refine wpSeq_loadD (.tmp 11) g11 v1 ?_ ?_ ?_ ?_ ?_ ?_
                     · exact HL1.out
                     · exact H11.out
                     · with_reducible rfl
                     · rfl
                     · rfl)
                  | (with_reducible refine wpSeq_loadD (.tmp 14) g14 v2 ?_ ?_ ?_ ?_ ?_ ?_
                     · exact HL2.out
                     · exact H14.out
                     · with_reducible rfl
                     · rfl
                     · rfl)
                  | (go_at_call 13; refine (HWK.out _ HI.out.bel).mono ?_; rintro e wz ⟨rfl, hbz⟩
                     replace HI : Hid (C10 w gr gi gp gq rt i cp cq wz) := HI.out.next hbz
                     clear hbz))
                go_ret
                exact ⟨rfl, HI.out.bel⟩
              · have hne : a1 ≠ a2 := HD2.out (by decide)
                obtain ⟨k, HFK⟩ : ∃ k, Hid (firstI lp lq = some k) := HTWO.out a1 a2 q1 q2 hne
                have HCA : Hid (∀ W, Below w.heap.size w W → Calls Tryd.prog 15 #[.agg (cb i).toArray, .agg cp.toArray, .agg cq.toArray] W fun e w' => ∃ x y s t, e = .returned (.tuple #[x, y, .bool true]) ∧ Reads w' x s ∧ Reads w' y t ∧ s.length ≤ 65 ∧ t.length ≤ 65 ∧ pairB9 s t = true ∧ Below W.heap.size W w') := fun W hh => by
                  rw [HCP.out, HCQ.out]
                  refine (HCO.out.ways W i vp sp ep ixp vap vq sq eq ixq vaq (HK0.out.below hh HK0.out.lt) HIL.out HP1.out HP2.out HQ1.out HQ2.out (HRP.out.below hh) (HRQ.out.below hh) HP3.out HQ3.out).mono fun e w' h => ?_
                  obtain ⟨x, y, o, g1, g2, g3⟩ := h
                  rw [← HLP.out, ← HLQ.out] at g2
                  obtain ⟨s, t, g4, g5, g6⟩ := g2.both
                  have g7 := first_len HTP.out HTQ.out g6
                  rcases g6 with ⟨k', rfl, _, _, _, g8⟩ | ⟨_, g8, _⟩
                  · exact ⟨x, y, s, t, g1, g4, g5, g7.1, g7.2, g8, g3⟩
                  · rw [HFK.out] at g8; cases g8
                clear HTWO HFK q1 q2
                go_upto_region 9 with (first
                  | (with_reducible refine wpSeq_loadD (.tmp 11) g11 v1 ?_ ?_ ?_ ?_ ?_ ?_
                     · exact HL1.out
                     · exact H11.out
                     · with_reducible rfl
                     · rfl
                     · rfl)
                  | (with_reducible refine wpSeq_loadD (.tmp 14) g14 v2 ?_ ?_ ?_ ?_ ?_ ?_
                     · exact HL2.out
                     · exact H14.out
                     · with_reducible rfl
                     · rfl
                     · rfl))
                clear hq H11 H14
                go_upto_region 10 with (first
                  | (with_reducible refine wpSeq_loadD (.tmp 6) gi i ?_ ?_ ?_ ?_ ?_ ?_
                     · exact HIL.out
                     · exact HI.out.ib
                     · with_reducible rfl
                     · rfl
                     · rfl)
                  | (with_reducible refine wpSeq_loadP (.tmp 7) gp cp ?_ ?_ ?_ ?_ ?_ ?_
                     · exact HP6.out
                     · exact HI.out.pb
                     · rfl
                     · rfl
                     · rfl)
                  | (with_reducible refine wpSeq_loadP (.tmp 8) gq cq ?_ ?_ ?_ ?_ ?_ ?_
                     · exact HQ6.out
                     · exact HI.out.qb
                     · rfl
                     · rfl
                     · rfl)
                  | (go_at_call 15; refine (HCA.out _ HI.out.bel).mono ?_; rintro e we ⟨vx, vy, s, t, rfl, hs, ht, hsl, htl, hpt, hbz⟩
                     replace HI : Hid (C10 w gr gi gp gq rt i cp cq we) := HI.out.next hbz
                     obtain ⟨ax, nx, cx, hvx⟩ := hs.form
                     subst hvx
                     obtain ⟨ay, ny, cy, hvy⟩ := ht.form
                     subst hvy
                     have HC5 : Hid (Calls Tryd.prog 12 #[.slice ax nx cx, .slice ay ny cy] we fun e w' => e = .returned (.bool true) ∧ Below we.heap.size we w') := by
                       have h := qPair_any _ _ s t we hs ht (by omega) (by omega)
                       rw [hpt] at h
                       exact h
                     clear hbz hs ht hsl htl hpt HCA))
                go_wp2_with (first
                  | (go_at_call 12; refine HC5.out.mono ?_; rintro e wf ⟨rfl, hbz⟩
                     replace HI : Hid (C10 w gr gi gp gq rt i cp cq wf) := HI.out.next hbz
                     clear hbz HC5)
                  | (go_at_call 13; refine (HWK.out _ HI.out.bel).mono ?_; rintro e wz ⟨rfl, hbz⟩
                     replace HI : Hid (C10 w gr gi gp gq rt i cp cq wz) := HI.out.next hbz
                     clear hbz))
                go_ret
                exact ⟨rfl, HI.out.bel⟩
              · have hne : a1 ≠ a2 := HD2.out (by decide)
                obtain ⟨k, HFK⟩ : ∃ k, Hid (firstI lp lq = some k) := HTWO.out a1 a2 q1 q2 hne
                have HCA : Hid (∀ W, Below w.heap.size w W → Calls Tryd.prog 15 #[.agg (cb i).toArray, .agg cp.toArray, .agg cq.toArray] W fun e w' => ∃ x y s t, e = .returned (.tuple #[x, y, .bool true]) ∧ Reads w' x s ∧ Reads w' y t ∧ s.length ≤ 65 ∧ t.length ≤ 65 ∧ pairB9 s t = true ∧ Below W.heap.size W w') := fun W hh => by
                  rw [HCP.out, HCQ.out]
                  refine (HCO.out.ways W i vp sp ep ixp vap vq sq eq ixq vaq (HK0.out.below hh HK0.out.lt) HIL.out HP1.out HP2.out HQ1.out HQ2.out (HRP.out.below hh) (HRQ.out.below hh) HP3.out HQ3.out).mono fun e w' h => ?_
                  obtain ⟨x, y, o, g1, g2, g3⟩ := h
                  rw [← HLP.out, ← HLQ.out] at g2
                  obtain ⟨s, t, g4, g5, g6⟩ := g2.both
                  have g7 := first_len HTP.out HTQ.out g6
                  rcases g6 with ⟨k', rfl, _, _, _, g8⟩ | ⟨_, g8, _⟩
                  · exact ⟨x, y, s, t, g1, g4, g5, g7.1, g7.2, g8, g3⟩
                  · rw [HFK.out] at g8; cases g8
                clear HTWO HFK q1 q2
                go_upto_region 9 with (first
                  | (with_reducible refine wpSeq_loadD (.tmp 11) g11 v1 ?_ ?_ ?_ ?_ ?_ ?_
                     · exact HL1.out
                     · exact H11.out
                     · with_reducible rfl
                     · rfl
                     · rfl)
                  | (with_reducible refine wpSeq_loadD (.tmp 14) g14 v2 ?_ ?_ ?_ ?_ ?_ ?_
                     · exact HL2.out
                     · exact H14.out
                     · with_reducible rfl
                     · rfl
                     · rfl))
                clear hq H11 H14
                go_upto_region 10 with (first
                  | (with_reducible refine wpSeq_loadD (.tmp 6) gi i ?_ ?_ ?_ ?_ ?_ ?_
                     · exact HIL.out
                     · exact HI.out.ib
                     · with_reducible rfl
                     · rfl
                     · rfl)
                  | (with_reducible refine wpSeq_loadP (.tmp 7) gp cp ?_ ?_ ?_ ?_ ?_ ?_
                     · exact HP6.out
                     · exact HI.out.pb
                     · rfl
                     · rfl
                     · rfl)
                  | (with_reducible refine wpSeq_loadP (.tmp 8) gq cq ?_ ?_ ?_ ?_ ?_ ?_
                     · exact HQ6.out
                     · exact HI.out.qb
                     · rfl
                     · rfl
                     · rfl)
                  | (go_at_call 15; refine (HCA.out _ HI.out.bel).mono ?_; rintro e we ⟨vx, vy, s, t, rfl, hs, ht, hsl, htl, hpt, hbz⟩
                     replace HI : Hid (C10 w gr gi gp gq rt i cp cq we) := HI.out.next hbz
                     obtain ⟨ax, nx, cx, hvx⟩ := hs.form
                     subst hvx
                     obtain ⟨ay, ny, cy, hvy⟩ := ht.form
                     subst hvy
                     have HC5 : Hid (Calls Tryd.prog 12 #[.slice ax nx cx, .slice ay ny cy] we fun e w' => e = .returned (.bool true) ∧ Below we.heap.size we w') := by
                       have h := qPair_any _ _ s t we hs ht (by omega) (by omega)
                       rw [hpt] at h
                       exact h
                     clear hbz hs ht hsl htl hpt HCA))
                go_wp2_with (first
                  | (go_at_call 12; refine HC5.out.mono ?_; rintro e wf ⟨rfl, hbz⟩
                     replace HI : Hid (C10 w gr gi gp gq rt i cp cq wf) := HI.out.next hbz
                     clear hbz HC5)
                  | (go_at_call 13; refine (HWK.out _ HI.out.bel).mono ?_; rintro e wz ⟨rfl, hbz⟩
                     replace HI : Hid (C10 w gr gi gp gq rt i cp cq wz) := HI.out.next hbz
                     clear hbz))
                go_ret
                exact ⟨rfl, HI.out.bel⟩
              · clear HD1 HD2 q1 q2 HTWO
                go_wp2_with (first
                  | (with_reducible refine wpSeq_loadD (.tmp 11) g11 v1 ?_ ?_ ?_ ?_ ?_ ?_
                     · exact HL1.out
                     · exact H11.out
                     · with_reducible rfl
                     · rfl
                     · rfl)
                  | (with_reducible refine wpSeq_loadD (.tmp 14) g14 v2 ?_ ?_ ?_ ?_ ?_ ?_
                     · exact HL2.out
                     · exact H14.out
                     · with_reducible rfl
                     · rfl
                     · rfl)
                  | (go_at_call 13; refine (HWK.out _ HI.out.bel).mono ?_; rintro e wz ⟨rfl, hbz⟩
                     replace HI : Hid (C10 w gr gi gp gq rt i cp cq wz) := HI.out.next hbz
                     clear hbz))
                go_ret
                exact ⟨rfl, HI.out.bel⟩
            · have hq : ∀ wx : World, (Op.equalIn 10000 33 (.agg (cb v1).toArray) (.agg (cb v2).toArray)).run Tryd.prog wx = .ok false wx := fun wx => by have h := eq_dig v1 v2 HL1.out HL2.out wx; rw [decide_eq_false hv] at h; exact h
              have hne : a1 ≠ a2 := HD1.out hv
              clear hv HD1 HD2
              obtain ⟨k, HFK⟩ : ∃ k, Hid (firstI lp lq = some k) := HTWO.out a1 a2 q1 q2 hne
              have HCA : Hid (∀ W, Below w.heap.size w W → Calls Tryd.prog 15 #[.agg (cb i).toArray, .agg cp.toArray, .agg cq.toArray] W fun e w' => ∃ x y s t, e = .returned (.tuple #[x, y, .bool true]) ∧ Reads w' x s ∧ Reads w' y t ∧ s.length ≤ 65 ∧ t.length ≤ 65 ∧ pairB9 s t = true ∧ Below W.heap.size W w') := fun W hh => by
                rw [HCP.out, HCQ.out]
                refine (HCO.out.ways W i vp sp ep ixp vap vq sq eq ixq vaq (HK0.out.below hh HK0.out.lt) HIL.out HP1.out HP2.out HQ1.out HQ2.out (HRP.out.below hh) (HRQ.out.below hh) HP3.out HQ3.out).mono fun e w' h => ?_
                obtain ⟨x, y, o, g1, g2, g3⟩ := h
                rw [← HLP.out, ← HLQ.out] at g2
                obtain ⟨s, t, g4, g5, g6⟩ := g2.both
                have g7 := first_len HTP.out HTQ.out g6
                rcases g6 with ⟨k', rfl, _, _, _, g8⟩ | ⟨_, g8, _⟩
                · exact ⟨x, y, s, t, g1, g4, g5, g7.1, g7.2, g8, g3⟩
                · rw [HFK.out] at g8; cases g8
              clear HTWO HFK q1 q2
              go_upto_region 9 with (first
                | (with_reducible refine wpSeq_loadD (.tmp 11) g11 v1 ?_ ?_ ?_ ?_ ?_ ?_
                   · exact HL1.out
                   · exact H11.out
                   · with_reducible rfl
                   · rfl
                   · rfl)
                | (with_reducible refine wpSeq_loadD (.tmp 14) g14 v2 ?_ ?_ ?_ ?_ ?_ ?_
                   · exact HL2.out
                   · exact H14.out
                   · with_reducible rfl
                   · rfl
                   · rfl))
              clear hq H11 H14
              go_upto_region 10 with (first
                | (with_reducible refine wpSeq_loadD (.tmp 6) gi i ?_ ?_ ?_ ?_ ?_ ?_
                   · exact HIL.out
                   · exact HI.out.ib
                   · with_reducible rfl
                   · rfl
                   · rfl)
                | (with_reducible refine wpSeq_loadP (.tmp 7) gp cp ?_ ?_ ?_ ?_ ?_ ?_
                   · exact HP6.out
                   · exact HI.out.pb
                   · rfl
                   · rfl
                   · rfl)
                | (with_reducible refine wpSeq_loadP (.tmp 8) gq cq ?_ ?_ ?_ ?_ ?_ ?_
                   · exact HQ6.out
                   · exact HI.out.qb
                   · rfl
                   · rfl
                   · rfl)
                | (go_at_call 15; refine (HCA.out _ HI.out.bel).mono ?_; rintro e we ⟨vx, vy, s, t, rfl, hs, ht, hsl, htl, hpt, hbz⟩
                   replace HI : Hid (C10 w gr gi gp gq rt i cp cq we) := HI.out.next hbz
                   obtain ⟨ax, nx, cx, hvx⟩ := hs.form
                   subst hvx
                   obtain ⟨ay, ny, cy, hvy⟩ := ht.form
                   subst hvy
                   have HC5 : Hid (Calls Tryd.prog 12 #[.slice ax nx cx, .slice ay ny cy] we fun e w' => e = .returned (.bool true) ∧ Below we.heap.size we w') := by
                     have h := qPair_any _ _ s t we hs ht (by omega) (by omega)
                     rw [hpt] at h
                     exact h
                   clear hbz hs ht hsl htl hpt HCA))
              go_wp2_with (first
                | (go_at_call 12; refine HC5.out.mono ?_; rintro e wf ⟨rfl, hbz⟩
                   replace HI : Hid (C10 w gr gi gp gq rt i cp cq wf) := HI.out.next hbz
                   clear hbz HC5)
                | (go_at_call 13; refine (HWK.out _ HI.out.bel).mono ?_; rintro e wz ⟨rfl, hbz⟩
                   replace HI : Hid (C10 w gr gi gp gq rt i cp cq wz) := HI.out.next hbz
                   clear hbz))
              go_ret
              exact ⟨rfl, HI.out.bel⟩
end Go.Proofs.YtpeifpoeeopecaaDoor
/- Where the statements of layer 8 stand. -/
namespace Go.Proofs.YtpeifpoeeopecaaDoor
open Go.RowKit
set_option maxRecDepth 100000
/-- a root, an index and a way, laid by the call -/
structure Lc (w : World) (gr gx gp : Nat) (r x : List (BitVec 8)) (vs : Value) (sd : List (List (BitVec 8))) (en : Int) (ix va : List (BitVec 8)) (W : World) : Prop where
  k0 : KOk w
  r0 : ReadsD w vs sd
  rb : Blk W gr (cb r) 33
  xb : Blk W gx (cb x) 33
  pb : Blk W gp (prfV vs en ix va) 36
  bel : Below w.heap.size w W
  ge : w.heap.size ≤ gr
  nx : gx ≠ gr
  np : gp ≠ gr
theorem Lc.kk {w W : World} {gr gx gp : Nat} {r x : List (BitVec 8)} {vs : Value} {sd : List (List (BitVec 8))} {en : Int} {ix va : List (BitVec 8)} (h : Lc w gr gx gp r x vs sd en ix va W) : KOk W := h.k0.below h.bel h.k0.lt
theorem Lc.rd {w W : World} {gr gx gp : Nat} {r x : List (BitVec 8)} {vs : Value} {sd : List (List (BitVec 8))} {en : Int} {ix va : List (BitVec 8)} (h : Lc w gr gx gp r x vs sd en ix va W) : ReadsD W vs sd := h.r0.below h.bel
theorem Lc.next {w W W' : World} {gr gx gp : Nat} {r x : List (BitVec 8)} {vs : Value} {sd : List (List (BitVec 8))} {en : Int} {ix va : List (BitVec 8)} (h : Lc w gr gx gp r x vs sd en ix va W) (hb : Below W.heap.size W W') : Lc w gr gx gp r x vs sd en ix va W' :=
  ⟨h.k0, h.r0, h.rb.below hb h.rb.lt, h.xb.below hb h.xb.lt, h.pb.below hb h.pb.lt, h.bel.trans (hb.mono h.bel.size), h.ge, h.nx, h.np⟩
theorem Lc.set {w W W' : World} {gr gx gp : Nat} {r r' x : List (BitVec 8)} {vs : Value} {sd : List (List (BitVec 8))} {en : Int} {ix va : List (BitVec 8)} (h : Lc w gr gx gp r x vs sd en ix va W) (h9 : SetB r' W gr W') : Lc w gr gx gp r' x vs sd en ix va W' :=
  ⟨h.k0, h.r0, h9.blk, h.xb.only h9.only h.nx, h.pb.only h9.only h.np, h.bel.trans (h9.only.below h.ge h.bel.size), h.ge, h.nx, h.np⟩
end Go.Proofs.YtpeifpoeeopecaaDoor
/- The walk of the reference's Put. -/
namespace Go.Proofs.YtpeifpoeeopecaaDoor
open Go.RowKit
set_option maxRecDepth 100000
theorem putL_all {l : List Lf} {x v : List (BitVec 8)} (h : ∀ p ∈ l, lessB p.1 x = true) : putL l x v = l ++ [(x, v)] := by
  unfold putL
  have h1 : (l.takeWhile fun p => lessB p.1 x) = l := by
    have := List.takeWhile_append_of_pos (l₁ := l) (l₂ := []) (p := fun p : Lf => lessB p.1 x) (fun p hp => h p hp)
    simpa using this
  have h2 : (l.dropWhile fun p => lessB p.1 x) = [] := by
    have := List.dropWhile_append_of_pos (l₁ := l) (l₂ := []) (p := fun p : Lf => lessB p.1 x) (fun p hp => h p hp)
    simpa using this
  rw [h1, h2]
  rfl
theorem putL_new {l : List Lf} {x v : List (BitVec 8)} {e : Lf} (h : ∀ p ∈ l, lessB p.1 x = true) (he : lessB e.1 x = false) : putL (l ++ [e]) x v = l ++ [(x, v)] ++ (if decide (e.1 ≠ x) then [e] else []) := by
  unfold putL
  have h1 : ((l ++ [e]).takeWhile fun p => lessB p.1 x) = l := by
    rw [List.takeWhile_append_of_pos (fun p hp => h p hp)]
    simp [he]
  have h2 : ((l ++ [e]).dropWhile fun p => lessB p.1 x) = [e] := by
    rw [List.dropWhile_append_of_pos (fun p hp => h p hp)]
    simp [he]
  rw [h1, h2]
  simp only [List.filter_cons, List.filter_nil, List.append_assoc, List.cons_append, List.nil_append]
theorem putL_old {l : List Lf} {x v : List (BitVec 8)} {e : Lf} (h : ∃ p ∈ l, lessB p.1 x = false) : putL (l ++ [e]) x v = putL l x v ++ (if decide (e.1 ≠ x) then [e] else []) := by
  have key : ∀ l : List Lf, (∃ p ∈ l, lessB p.1 x = false) → ((l ++ [e]).takeWhile fun p => lessB p.1 x) = (l.takeWhile fun p => lessB p.1 x) ∧ ((l ++ [e]).dropWhile fun p => lessB p.1 x) = (l.dropWhile fun p => lessB p.1 x) ++ [e] := by
    intro l
    induction l with
    | nil => rintro ⟨p, hp, _⟩; cases hp
    | cons a r ih =>
      rintro ⟨p, hp, hpx⟩
      cases ha : lessB a.1 x with
      | false => simp [ha]
      | true =>
        have hr : ∃ p ∈ r, lessB p.1 x = false := by
          rcases List.mem_cons.1 hp with rfl | hp
          · rw [ha] at hpx; cases hpx
          · exact ⟨p, hp, hpx⟩
        have := ih hr
        simp [ha, this.1, this.2]
  unfold putL
  rw [(key l h).1, (key l h).2, List.filter_append]
  simp only [List.filter_cons, List.filter_nil, List.append_assoc, List.cons_append]
/-- what Put has made of the first k -/
def PtI (l : List Lf) (x v : List (BitVec 8)) (k : Nat) (pt : Bool) (A : List Lf) : Prop :=
  (pt = false ∧ A = l.take k ∧ ∀ p ∈ l.take k, lessB p.1 x = true) ∨ (pt = true ∧ A = putL (l.take k) x v ∧ ∃ p ∈ l.take k, lessB p.1 x = false)
theorem PtI.start (l : List Lf) (x v : List (BitVec 8)) : PtI l x v 0 false [] := Or.inl ⟨rfl, rfl, fun p hp => by cases hp⟩
/-- behind the first question: x is put, if it is its turn -/
def mid (x v : List (BitVec 8)) (pt : Bool) (da : List (BitVec 8)) (A : List Lf) : List Lf := if !pt && !lessB da x then A ++ [(x, v)] else A
theorem PtI.next {l : List Lf} {x v : List (BitVec 8)} {k : Nat} {pt : Bool} {A : List Lf} {e : Lf} (h : PtI l x v k pt A) (ht : l.take (k + 1) = l.take k ++ [e]) : PtI l x v (k + 1) (pt || !lessB e.1 x) (mid x v pt e.1 A ++ if decide (e.1 ≠ x) then [e] else []) := by
  rcases h with ⟨rfl, rfl, h⟩ | ⟨rfl, rfl, h⟩
  · cases he : lessB e.1 x with
    | true =>
      refine Or.inl ⟨rfl, ?_, ?_⟩
      · rw [ht]
        have hn := less_ne he
        simp [mid, he, hn]
      · rw [ht]
        intro p hp
        rcases List.mem_append.1 hp with hp | hp
        · exact h p hp
        · rw [List.mem_singleton] at hp; subst hp; exact he
    | false =>
      refine Or.inr ⟨rfl, ?_, e, by rw [ht]; simp, he⟩
      rw [ht, putL_new h he]
      simp [mid, he]
  · refine Or.inr ⟨rfl, ?_, ?_⟩
    · rw [ht, putL_old h]
      simp [mid]
    · obtain ⟨p, hp, hpx⟩ := h
      exact ⟨p, by rw [ht]; exact List.mem_append_left _ hp, hpx⟩
theorem PtI.len {l : List Lf} {x v : List (BitVec 8)} {k : Nat} {pt : Bool} {A : List Lf} (h : PtI l x v k pt A) : A.length ≤ l.length + 1 := by
  rcases h with ⟨_, rfl, _⟩ | ⟨_, rfl, _⟩
  · rw [List.length_take]; omega
  · unfold putL
    have h1 := congrArg List.length (take_drop_while (l.take k) fun p => lessB p.1 x)
    rw [List.length_append, List.length_take] at h1
    rw [List.length_append, List.length_cons]
    refine Nat.le_trans (Nat.add_le_add_left (Nat.succ_le_succ (List.length_filter_le _ _)) _) ?_
    omega
theorem PtI.done {l : List Lf} {x v : List (BitVec 8)} {k : Nat} {pt : Bool} {A : List Lf} (h : PtI l x v k pt A) (hk : l.take k = l) : putL l x v = A ++ if pt then [] else [(x, v)] := by
  rcases h with ⟨rfl, rfl, h⟩ | ⟨rfl, rfl, h⟩
  · rw [hk] at h ⊢
    rw [putL_all h]
    rfl
  · rw [hk]
    simp
theorem putL_len (l : List Lf) (x v : List (BitVec 8)) : (putL l x v).length ≤ l.length + 1 := by
  unfold putL
  have h1 := congrArg List.length (take_drop_while l fun p => lessB p.1 x)
  rw [List.length_append] at h1
  rw [List.length_append, List.length_cons]
  refine Nat.le_trans (Nat.add_le_add_left (Nat.succ_le_succ (List.length_filter_le _ _)) _) ?_
  omega
set_option maxRecDepth 100000 in
set_option maxHeartbeats 8000000 in
theorem lfPut_any (va vv : Value) (l : List Lf) (x v : List (BitVec 8)) (w : World) (hR : ReadsLf w va vv l) (hl : l.length < 1000000) (hx : x.length = 32) (hv : v.length = 32) :
    Calls Tryd.prog 37 #[.agg #[va, vv], .agg (cb x).toArray, .agg (cb v).toArray] w fun e w' => ∃ xa xv, e = .returned (.agg #[xa, xv]) ∧ OwnLf w' w.heap.size xa xv ((putL l x v).map (·.1)) ((putL l x v).map (·.2)) ∧ Below w.heap.size w w' := by
  have HR : Hid (ReadsLf w va vv l) := hR
  have HL : Hid (l.length < 1000000) := hl
  have HX32 : Hid (x.length = 32) := hx
  have HY32 : Hid (v.length = 32) := hv
  obtain ⟨n, HN⟩ : ∃ n, Hid (n = l.length) := ⟨_, rfl⟩
  obtain ⟨ada, cpa, hva⟩ := hR.1.slice
  obtain ⟨adv, cpv, hvv⟩ := hR.2.slice
  rw [List.length_map, ← HN.out] at hva hvv
  subst hva hvv
  clear hR hl hx hv
  obtain ⟨gl, HGL⟩ : ∃ g, Hid (g = w.heap.size) := ⟨_, rfl⟩
  obtain ⟨w1, HW1⟩ : ∃ z, Hid (z = w.alloc (.cells [Value.slice ada n cpa, .slice adv n cpv].toArray 47)) := ⟨_, rfl⟩
  obtain ⟨w2, HW2⟩ : ∃ z, Hid (z = w1.alloc (.cells (cb x).toArray 33)) := ⟨_, rfl⟩
  obtain ⟨w3, HW3⟩ : ∃ z, Hid (z = w2.alloc (.cells (cb v).toArray 33)) := ⟨_, rfl⟩
  obtain ⟨wG, HWG⟩ : ∃ z, Hid (z = w3.alloc (.cells [nilV, nilV].toArray 47)) := ⟨_, rfl⟩
  have s1 : w1.heap.size = gl + 1 := by rw [HW1.out, HGL.out]; simp
  have s2 : w2.heap.size = gl + 2 := by rw [HW2.out]; simp [s1]
  have s3 : w3.heap.size = gl + 3 := by rw [HW3.out]; simp [s2]
  have s4 : wG.heap.size = gl + 4 := by rw [HWG.out]; simp [s3]
  have t1 : Below (gl + 1) w1 w2 := by rw [← s1, HW2.out]; exact below_alloc _ _
  have t2 : Below (gl + 2) w2 w3 := by rw [← s2, HW3.out]; exact below_alloc _ _
  have t3 : Below (gl + 3) w3 wG := by rw [← s3, HWG.out]; exact below_alloc _ _
  have HLB : Hid (Blk wG gl [Value.slice ada n cpa, .slice adv n cpv] 47) := by
    have h1 : Blk w1 gl [Value.slice ada n cpa, .slice adv n cpv] 47 := by rw [HW1.out, HGL.out]; exact Blk.new w _ _
    exact ((h1.below t1 (by omega)).below t2 (by omega)).below t3 (by omega)
  have HXB : Hid (Blk wG (gl + 1) (cb x) 33) := by
    have h1 : Blk w2 (gl + 1) (cb x) 33 := by rw [HW2.out, ← s1]; exact Blk.new w1 _ _
    exact (h1.below t2 (by omega)).below t3 (by omega)
  have HYB : Hid (Blk wG (gl + 2) (cb v) 33) := by
    have h1 : Blk w3 (gl + 2) (cb v) 33 := by rw [HW3.out, ← s2]; exact Blk.new w2 _ _
    exact h1.below t3 (by omega)
  have HRB : Hid (Blk wG (gl + 3) [nilV, nilV] 47) := by rw [HWG.out, ← s3]; exact Blk.new w3 _ _
  have HBW : Hid (Below w.heap.size w wG) := by
    have h1 : Below gl w w1 := by rw [HW1.out, HGL.out]; exact below_alloc _ _
    rw [← HGL.out]
    exact ((h1.trans (t1.mono (by omega))).trans (t2.mono (by omega))).trans (t3.mono (by omega))
  obtain ⟨go, HGO⟩ : ∃ g, Hid (g = wG.heap.size) := ⟨_, rfl⟩
  have HSZ : Hid (go = gl + 4) := by show _ = _; rw [HGO.out, s4]
  have HCA : Hid (∀ wx, Below go wG wx → wx.cell? ⟨gl, 0, none⟩ = some (.slice ada n cpa)) := fun wx hx => (HLB.out.below hx (by have := HSZ.out; omega)).cell 0
  have HCV : Hid (∀ wx, Below go wG wx → wx.cell? ⟨gl, 1, none⟩ = some (.slice adv n cpv)) := fun wx hx => (HLB.out.below hx (by have := HSZ.out; omega)).cell 1
  have HCX : Hid (∀ wx, Below go wG wx → Blk wx (gl + 1) (cb x) 33) := fun wx hx => HXB.out.below hx (by have := HSZ.out; omega)
  have HCY : Hid (∀ wx, Below go wG wx → Blk wx (gl + 2) (cb v) 33) := fun wx hx => HYB.out.below hx (by have := HSZ.out; omega)
  have HI : Hid (Lv wG go nilV nilV [] [] (wG.alloc (.cells [nilV, nilV].toArray 47))) := by rw [HGO.out]; exact Lv.start wG
  clear t1 t2 t3 HXB HYB HLB
  clear s1 s2 s3 s4
  go_enter Tryd.func37, Tryd.ntmps37
  go_wp2_with (first
    | (refine wpSeq_val _ _ (by rfl) (boxDigest _ _ (.tmp 1) rfl x rfl _) ?_)
    | (refine wpSeq_val _ _ (by rfl) (boxDigest _ _ (.tmp 2) rfl v rfl _) ?_))
  have e0 : (some ⟨w.heap.size, 0, none⟩ : Option Addr) = some ⟨gl, 0, none⟩ := by rw [HGL.out]
  have e1 : (some ⟨w.heap.size + 1, 0, none⟩ : Option Addr) = some ⟨gl + 1, 0, none⟩ := by rw [HGL.out]
  have e2 : (some ⟨w.heap.size + 1 + 1, 0, none⟩ : Option Addr) = some ⟨gl + 2, 0, none⟩ := by rw [HGL.out]
  have e3 : (some ⟨w.heap.size + 1 + 1 + 1, 0, none⟩ : Option Addr) = some ⟨gl + 3, 0, none⟩ := by rw [HGL.out]
  have e4 : (some ⟨w.heap.size + 1 + 1 + 1 + 1, 0, none⟩ : Option Addr) = some ⟨go, 0, none⟩ := by rw [HSZ.out, HGL.out]
  simp only [e0, e1, e2, e3, e4]
  clear e0 e1 e2 e3 e4
  change Code.wp _ _ _ _ (((((w.alloc (.cells [Value.slice ada n cpa, .slice adv n cpv].toArray 47)).alloc (.cells (cb x).toArray 33)).alloc (.cells (cb v).toArray 33)).alloc (.cells [nilV, nilV].toArray 47)).alloc (.cells [nilV, nilV].toArray 47))
  rw [← HW1.out, ← HW2.out, ← HW3.out, ← HWG.out]
  generalize wG.alloc (.cells [nilV, nilV].toArray 47) = w0 at *
  clear HW1 HW2 HW3 HWG HGO
  go_loopw [8, 9] (fun b j wr => ∃ (k : Nat) (xa xv : Value) (pt : Bool) (A : List Lf), k ≤ n ∧ b = .bool pt ∧ j = .int .i64 (k : Int) ∧ Lv wG go xa xv (A.map (·.1)) (A.map (·.2)) wr ∧ PtI l x v k pt A) (fun _ j _ => n - (intOf j).toNat)
  case atStart => exact ⟨0, nilV, nilV, false, [], by omega, rfl, rfl, by simpa using HI.out, PtI.start l x v⟩
  case round =>
    clear HI
    obtain ⟨k, xa, xv, pt, A, hk, rfl, rfl, hI, hP⟩ := hrel
    have HI : Hid (Lv wG go xa xv (A.map (·.1)) (A.map (·.2)) wr) := hI
    have HPT : Hid (PtI l x v k pt A) := hP
    clear hI hP
    have ca : wr.cell? ⟨gl, 0, none⟩ = some (.slice ada n cpa) := HCA.out wr HI.out.bel
    have HAL : Hid (A.length < 1500000) := by show _ < _; have h1 := HPT.out.len; have h2 := HL.out; omega
    by_cases hlt : k < n
    · have hlti : (k : Int) < (n : Int) := by omega
      have k0 : (0 : Int) ≤ (k : Int) := by omega
      have hn6 : n < 1000000 := by rw [HN.out]; exact HL.out
      have f5 : IntKind.i64.wrap ((k : Int) + 1) = (k : Int) + 1 := wrap_small2 _ (by omega) (by omega)
      have HKL : Hid (k < l.length) := by show _ < _; rw [← HN.out]; exact hlt
      obtain ⟨ba, offa, cpa', hva, hya⟩ := HR.out.1.at (by rw [List.length_map]; have := HKL.out; omega)
      obtain ⟨bv, offv, cpv', hvv, hyv⟩ := HR.out.2.at (by rw [List.length_map]; have := HKL.out; omega)
      rw [List.length_map, ← HN.out] at hva hvv hya hyv
      simp only [Value.slice.injEq, true_and] at hva hvv
      obtain ⟨rfl, rfl⟩ := hva
      obtain ⟨rfl, rfl⟩ := hvv
      obtain ⟨da, HDA⟩ : ∃ d, Hid (d = (l.getD k ([], [])).1) := ⟨_, rfl⟩
      obtain ⟨dv, HDV⟩ : ∃ d, Hid (d = (l.getD k ([], [])).2) := ⟨_, rfl⟩
      have HA32 : Hid (da.length = 32) := by show _ = _; rw [HDA.out]; exact (HR.out.ok _ (getD_mem HKL.out)).1
      have HV32 : Hid (dv.length = 32) := by show _ = _; rw [HDV.out]; exact (HR.out.ok _ (getD_mem HKL.out)).2
      have HRA : Hid (∀ wx, Below go wG wx → wx.rangeAt ba (offa + k * 32) (cb da)) := fun wx hx => by
        have h := hya k hlt
        rw [map_getD1 HKL.out, ← HDA.out] at h
        have hb := rangeAt_lt h HA32.out
        exact rangeAt_below (rangeAt_below h HBW.out hb) hx (by have h1 := HSZ.out; have h2 := HGL.out; omega)
      have HRV : Hid (∀ wx, Below go wG wx → wx.rangeAt bv (offv + k * 32) (cb dv)) := fun wx hx => by
        have h := hyv k hlt
        rw [map_getD2 HKL.out, ← HDV.out] at h
        have hb := rangeAt_lt h HV32.out
        exact rangeAt_below (rangeAt_below h HBW.out hb) hx (by have h1 := HSZ.out; have h2 := HGL.out; omega)
      clear hya hyv
      have HNX : Hid (PtI l x v (k + 1) (pt || !lessB da x) (mid x v pt da A ++ if decide (da ≠ x) then [(da, dv)] else [])) := by
        have h := HPT.out.next (take_map HKL.out)
        rw [HDA.out, HDV.out]
        exact h
      obtain ⟨ls, HLS⟩ : ∃ p, Hid (lessB da x = p) := ⟨_, rfl⟩
      rw [HLS.out] at HNX
      unfold mid at HNX
      rw [HLS.out] at HNX
      go_upto_region 6 with fail
      go_cut [29] from 18 to 29 (fun b W => b = .bool (!pt && !ls) ∧ Lv wG go xa xv (A.map (·.1)) (A.map (·.2)) W)
      case first =>
        cases pt with
        | true =>
          refine wp_region_held_drew (S := Below go wG) (by kernel_rfl) HI.out.drew.bel ?_
          intro hS
          have hI := HI.out.drew
          clear HI
          change wpAnyH _ _ _ _ _ _ _ _ (World.drew wr)
          generalize World.drew wr = y0 at *
          refine wpAnyH_take (i := 0) (v := .bool true) rfl (by kernel_rfl) (by kernel_rfl) (by kernel_rfl) (fun _ _ _ h => h) (Or.inl ⟨by rfl, fun wx hx => by simp [go_sem]⟩) hS ?_
          simp only [Act.put, List.getElem_toArray, List.getElem_cons_zero, List.setIfInBounds_toArray, List.set_cons_zero, List.set_cons_succ]
          refine wpAnyH_take (i := 1) (v := .bool false) rfl (by kernel_rfl) (by kernel_rfl) (by kernel_rfl) (fun _ _ _ h => h) (Or.inl ⟨by rfl, fun wx hx => by simp [go_sem]⟩) hS ?_
          simp only [Act.put, List.getElem_toArray, List.getElem_cons_succ, List.getElem_cons_zero, List.setIfInBounds_toArray, List.set_cons_zero, List.set_cons_succ]
          refine wpAnyH_take (i := 2) (v := .bool false) rfl (by kernel_rfl) (by kernel_rfl) (by kernel_rfl) (fun _ _ _ h => h) (Or.inl ⟨by rfl, fun wx hx => by simp [go_sem]⟩) hS ?_
          simp only [Act.put, List.getElem_toArray, List.getElem_cons_succ, List.getElem_cons_zero, List.setIfInBounds_toArray, List.set_cons_zero, List.set_cons_succ]
          refine wpAnyH_take (i := 3) (v := undef) rfl (by kernel_rfl) (by kernel_rfl) (by kernel_rfl) (fun _ _ _ h => h) (Or.inr ⟨by rfl, rfl⟩) hS ?_
          simp only [Act.put, List.getElem_toArray, List.getElem_cons_succ, List.getElem_cons_zero, List.setIfInBounds_toArray, List.set_cons_zero, List.set_cons_succ]
          refine wpAnyH_take (i := 4) (v := undef) rfl (by kernel_rfl) (by kernel_rfl) (by kernel_rfl) (fun _ _ _ h => h) (Or.inr ⟨by rfl, rfl⟩) hS ?_
          simp only [Act.put, List.getElem_toArray, List.getElem_cons_succ, List.getElem_cons_zero, List.setIfInBounds_toArray, List.set_cons_zero, List.set_cons_succ]
          refine wpAnyH_take (i := 5) (v := undef) rfl (by kernel_rfl) (by kernel_rfl) (by kernel_rfl) (fun _ _ _ h => h) (Or.inr ⟨by rfl, rfl⟩) hS ?_
          simp only [Act.put, List.getElem_toArray, List.getElem_cons_succ, List.getElem_cons_zero, List.setIfInBounds_toArray, List.set_cons_zero, List.set_cons_succ]
          refine wpAnyH_take (i := 6) (v := undef) rfl (by kernel_rfl) (by kernel_rfl) (by kernel_rfl) (fun _ _ _ h => h) (Or.inr ⟨by rfl, rfl⟩) hS ?_
          simp only [Act.put, List.getElem_toArray, List.getElem_cons_succ, List.getElem_cons_zero, List.setIfInBounds_toArray, List.set_cons_zero, List.set_cons_succ]
          refine wpAnyH_take (i := 7) (v := undef) rfl (by kernel_rfl) (by kernel_rfl) (by kernel_rfl) (fun _ _ _ h => h) (Or.inr ⟨by rfl, rfl⟩) hS ?_
          simp only [Act.put, List.getElem_toArray, List.getElem_cons_succ, List.getElem_cons_zero, List.setIfInBounds_toArray, List.set_cons_zero, List.set_cons_succ]
          refine wpAnyH_take (i := 8) (v := undef) rfl (by kernel_rfl) (by kernel_rfl) (by kernel_rfl) (fun _ _ _ h => h) (Or.inr ⟨by rfl, rfl⟩) hS ?_
          simp only [Act.put, List.getElem_toArray, List.getElem_cons_succ, List.getElem_cons_zero, List.setIfInBounds_toArray, List.set_cons_zero, List.set_cons_succ]
          refine wpAnyH_take (i := 9) (v := undef) rfl (by kernel_rfl) (by kernel_rfl) (by kernel_rfl) (fun _ _ _ h => h) (Or.inr ⟨by rfl, rfl⟩) hS ?_
          simp only [Act.put, List.getElem_toArray, List.getElem_cons_succ, List.getElem_cons_zero, List.setIfInBounds_toArray, List.set_cons_zero, List.set_cons_succ]
          refine wpAnyH_take (i := 10) (v := undef) rfl (by kernel_rfl) (by kernel_rfl) (by kernel_rfl) (fun _ _ _ h => h) (Or.inr ⟨by rfl, rfl⟩) hS ?_
          simp only [Act.put, List.getElem_toArray, List.getElem_cons_succ, List.getElem_cons_zero, List.setIfInBounds_toArray, List.set_cons_zero, List.set_cons_succ]
          refine wpAnyH_take (i := 11) (v := .bool false) rfl (by kernel_rfl) (by kernel_rfl) (by kernel_rfl) (fun _ _ _ h => h) (Or.inl ⟨by rfl, fun wx hx => by simp [go_sem]⟩) hS ?_
          simp only [Act.put, List.getElem_toArray, List.getElem_cons_succ, List.getElem_cons_zero, List.setIfInBounds_toArray, List.set_cons_zero, List.set_cons_succ]
          refine wpAnyH_done (by kernel_rfl) ?_ _
          go_wp2
          go_meet
          case rel => exact ⟨rfl, hI⟩
        | false =>
          refine wp_region_held_drew (S := Below go wG) (by kernel_rfl) HI.out.drew.bel ?_
          intro hS
          have hI := HI.out.drew
          clear HI
          change wpAnyH _ _ _ _ _ _ _ _ (World.drew wr)
          generalize World.drew wr = y0 at *
          refine wpAnyH_take (i := 0) (v := .bool false) rfl (by kernel_rfl) (by kernel_rfl) (by kernel_rfl) (fun _ _ _ h => h) (Or.inl ⟨by rfl, fun wx hx => by simp [go_sem]⟩) hS ?_
          simp only [Act.put, List.getElem_toArray, List.getElem_cons_zero, List.setIfInBounds_toArray, List.set_cons_zero, List.set_cons_succ]
          refine wpAnyH_take (i := 1) (v := .bool true) rfl (by kernel_rfl) (by kernel_rfl) (by kernel_rfl) (fun _ _ _ h => h) (Or.inl ⟨by rfl, fun wx hx => by simp [go_sem]⟩) hS ?_
          simp only [Act.put, List.getElem_toArray, List.getElem_cons_succ, List.getElem_cons_zero, List.setIfInBounds_toArray, List.set_cons_zero, List.set_cons_succ]
          refine wpAnyH_take (i := 2) (v := .bool true) rfl (by kernel_rfl) (by kernel_rfl) (by kernel_rfl) (fun _ _ _ h => h) (Or.inl ⟨by rfl, fun wx hx => by simp [go_sem]⟩) hS ?_
          simp only [Act.put, List.getElem_toArray, List.getElem_cons_succ, List.getElem_cons_zero, List.setIfInBounds_toArray, List.set_cons_zero, List.set_cons_succ]
          refine wpAnyH_take (i := 3) (v := .pointer (some ⟨gl, 0, none⟩)) rfl (by kernel_rfl) (by kernel_rfl) (by kernel_rfl) (fun _ _ _ h => h) (Or.inl ⟨by rfl, fun wx hx => by simp [go_sem]⟩) hS ?_
          simp only [Act.put, List.getElem_toArray, List.getElem_cons_succ, List.getElem_cons_zero, List.setIfInBounds_toArray, List.set_cons_zero, List.set_cons_succ]
          refine wpAnyH_take (i := 4) (v := .slice (some ⟨ba, offa, none⟩) n cpa) rfl (by kernel_rfl) (by kernel_rfl) (by kernel_rfl) (fun _ _ _ h => h) (Or.inl ⟨by rfl, fun wx hx => by (have hc := HCA.out wx hx; simp [go_sem, hc])⟩) hS ?_
          simp only [Act.put, List.getElem_toArray, List.getElem_cons_succ, List.getElem_cons_zero, List.setIfInBounds_toArray, List.set_cons_zero, List.set_cons_succ]
          refine wpAnyH_take (i := 5) (v := .int .i64 (k : Int)) rfl (by kernel_rfl) (by kernel_rfl) (by kernel_rfl) (fun _ _ _ h => h) (Or.inl ⟨by rfl, fun wx hx => by simp [go_sem]⟩) hS ?_
          simp only [Act.put, List.getElem_toArray, List.getElem_cons_succ, List.getElem_cons_zero, List.setIfInBounds_toArray, List.set_cons_zero, List.set_cons_succ]
          refine wpAnyH_take (i := 6) (v := .pointer (some ⟨ba, offa + k * 32, none⟩)) rfl (by kernel_rfl) (by kernel_rfl) (by kernel_rfl) (fun _ _ _ h => h) (Or.inl ⟨by rfl, fun wx hx => by (simp [go_sem, hlti, k0])⟩) hS ?_
          simp only [Act.put, List.getElem_toArray, List.getElem_cons_succ, List.getElem_cons_zero, List.setIfInBounds_toArray, List.set_cons_zero, List.set_cons_succ]
          refine wpAnyH_take (i := 7) (v := .agg (cb da).toArray) rfl (by kernel_rfl) (by kernel_rfl) (by kernel_rfl) (fun _ _ _ h => h) (Or.inl ⟨by rfl, fun wx hx => by exact load_run 33 _ rfl _ _ rfl (cb da) _ (HRA.out wx hx) Tryd.underlying33 rfl (by rw [cb_len, HA32.out]; exact info_digest)⟩) hS ?_
          simp only [Act.put, List.getElem_toArray, List.getElem_cons_succ, List.getElem_cons_zero, List.setIfInBounds_toArray, List.set_cons_zero, List.set_cons_succ]
          refine wpAnyH_take (i := 8) (v := .agg (cb x).toArray) rfl (by kernel_rfl) (by kernel_rfl) (by kernel_rfl) (fun _ _ _ h => h) (Or.inl ⟨by rfl, fun wx hx => by exact loadDigest _ (gl + 1) x HX32.out (HCX.out wx hx) rfl rfl⟩) hS ?_
          simp only [Act.put, List.getElem_toArray, List.getElem_cons_succ, List.getElem_cons_zero, List.setIfInBounds_toArray, List.set_cons_zero, List.set_cons_succ]
          refine wpAnyH_enter 9 (by kernel_rfl) rfl (by rfl) (f := 59) (args := #[.agg (cb da).toArray, .agg (cb x).toArray]) (by simp [go_sem]) (sLess_any da x HA32.out HX32.out _) ?_
          rintro e wy ⟨rfl, hbq⟩
          rw [HLS.out]
          replace hI := hI.next hbq
          refine ⟨_, rfl, hI.bel, ?_⟩
          replace hS := hI.bel
          clear hbq
          simp only [Act.put, List.getElem_toArray, List.getElem_cons_succ, List.getElem_cons_zero, List.setIfInBounds_toArray, List.set_cons_zero, List.set_cons_succ]
          refine wpAnyH_take (i := 10) (v := .bool (!ls)) rfl (by kernel_rfl) (by kernel_rfl) (by kernel_rfl) (fun _ _ _ h => h) (Or.inl ⟨by rfl, fun wx hx => by simp [go_sem]⟩) hS ?_
          simp only [Act.put, List.getElem_toArray, List.getElem_cons_succ, List.getElem_cons_zero, List.setIfInBounds_toArray, List.set_cons_zero, List.set_cons_succ]
          refine wpAnyH_take (i := 11) (v := .bool (!ls)) rfl (by kernel_rfl) (by kernel_rfl) (by kernel_rfl) (fun _ _ _ h => h) (Or.inl ⟨by rfl, fun wx hx => by simp [go_sem]⟩) hS ?_
          simp only [Act.put, List.getElem_toArray, List.getElem_cons_succ, List.getElem_cons_zero, List.setIfInBounds_toArray, List.set_cons_zero, List.set_cons_succ]
          refine wpAnyH_done (by kernel_rfl) ?_ _
          go_wp2
          go_meet
          case rel => exact ⟨rfl, hI⟩
      case rest =>
        clear HI ca
        obtain ⟨rfl, hcut⟩ := hcut
        have HI : Hid (Lv wG go xa xv (A.map (·.1)) (A.map (·.2)) wc) := hcut
        clear hcut
        obtain ⟨wz, HWQ⟩ : ∃ z, Hid (z = wc) := ⟨_, rfl⟩
        rw [← HWQ.out] at HI ⊢
        clear HWQ
        obtain ⟨A2, HA2⟩ : ∃ z, Hid (z = if !pt && !ls then A ++ [(x, v)] else A) := ⟨_, rfl⟩
        rw [← HA2.out] at HNX
        go_upto_if 29 with fail
        go_cut [8] from 29 to 41 (fun b W => b = .bool (pt || !ls) ∧ ∃ xa xv, Lv wG go xa xv (A2.map (·.1)) (A2.map (·.2)) W)
        case first =>
          by_cases hc : (!pt && !ls) = true
          · rw [hc]
            have HA3 : Hid (A2 = A ++ [(x, v)]) := by show _ = _; rw [HA2.out, hc]; rfl
            obtain ⟨hp1, hp2⟩ : pt = false ∧ ls = false := by cases pt <;> cases ls <;> simp at hc ⊢
            subst hp1 hp2
            clear hc
            have hI := HI.out
            obtain ⟨aB, cB, hxB⟩ := hI.own.a.slice
            obtain ⟨nB, HNB⟩ : ∃ z : Nat, Hid (z = (A.map (·.1)).length) := ⟨_, rfl⟩
            rw [← HNB.out] at hxB
            have hce : wz.cell? ⟨go, 0, none⟩ = some xa := hI.out.cell 0
            subst hxB
            clear hI
            go_upto_region 8 with (first
              | (with_reducible refine wpSeq_loadD (.tmp 4) (gl + 1) x ?_ ?_ ?_ ?_ ?_ ?_
                 · exact HX32.out
                 · exact HCX.out _ HI.out.bel
                 · with_reducible rfl
                 · rfl
                 · rfl)
              | (with_reducible refine wpSeq_buildD (.tmp 32) x ?_ ?_ ?_ ?_ ?_
                 · exact HX32.out
                 · with_reducible rfl
                 · rfl
                 · rfl
                 intro g8 w8 n8
                 have hI8 := HI.out.next n8.below
                 have HU : Hid (Blk w8 g8 (cb x) 33) := n8.blk
                 clear n8 HI hce)
              | (with_reducible refine wpSeq_appendD (.tmp 31) (.tmp 33) (go + 1) (.slice aB nB cB) _ x g8 hI8.own.a HU.out HX32.out ?_ (Nat.succ_le_of_lt hI8.out.lt) ?_ ?_ ?_ ?_ ?_
                 · rw [List.length_map]; exact Nat.lt_of_lt_of_le HAL.out (by decide)
                 · with_reducible rfl
                 · rfl
                 · rfl
                 · rfl
                 intro z9 w9 o9 g9
                 have hJ := hI8.addA o9 g9
                 have hb9 := hI8.out.grow g9 (fun j hj => (hI8.own.a.lt j hj).1) (Nat.lt_succ_self _)
                 have hc9 := hb9.cell 0
                 have hf9 := hb9.frozen 0
                 simp only [List.getElem?_cons_zero] at hc9
                 obtain ⟨aB2, cB2, hxB⟩ := o9.slice
                 obtain ⟨nB2, HNB2⟩ : ∃ z : Nat, Hid (z = (A.map (·.1) ++ [x]).length) := ⟨_, rfl⟩
                 rw [← HNB2.out] at hxB
                 subst hxB
                 have HJ : Hid _ := hJ
                 clear o9 g9 hb9 hI8 HU hJ))
            have HI := HJ
            clear HJ hc9 hf9
            generalize w9.setCell ⟨go, 0, none⟩ (.slice aB2 nB2 cB2) = w10 at *
            generalize Value.slice aB2 nB2 cB2 = xa2 at *
            have hI := HI.out
            obtain ⟨aC, cC, hxC⟩ := hI.own.v.slice
            obtain ⟨nC, HNC⟩ : ∃ z : Nat, Hid (z = (A.map (·.2)).length) := ⟨_, rfl⟩
            rw [← HNC.out] at hxC
            have hce : w10.cell? ⟨go, 1, none⟩ = some xv := hI.out.cell 1
            subst hxC
            clear hI
            go_wp2_with (first
              | (with_reducible refine wpSeq_loadD (.tmp 5) (gl + 2) v ?_ ?_ ?_ ?_ ?_ ?_
                 · exact HY32.out
                 · exact HCY.out _ HI.out.bel
                 · with_reducible rfl
                 · rfl
                 · rfl)
              | (with_reducible refine wpSeq_buildD (.tmp 38) v ?_ ?_ ?_ ?_ ?_
                 · exact HY32.out
                 · with_reducible rfl
                 · rfl
                 · rfl
                 intro g8 w8 n8
                 have hI8 := HI.out.next n8.below
                 have HU : Hid (Blk w8 g8 (cb v) 33) := n8.blk
                 clear n8 HI hce)
              | (with_reducible refine wpSeq_appendD (.tmp 37) (.tmp 39) (go + 1) (.slice aC nC cC) _ v g8 hI8.own.v HU.out HY32.out ?_ (Nat.succ_le_of_lt hI8.out.lt) ?_ ?_ ?_ ?_ ?_
                 · rw [List.length_map]; exact Nat.lt_of_lt_of_le HAL.out (by decide)
                 · with_reducible rfl
                 · rfl
                 · rfl
                 · rfl
                 intro z9 w9 o9 g9
                 have hJ := hI8.addV o9 g9
                 have hb9 := hI8.out.grow g9 (fun j hj => (hI8.own.v.lt j hj).1) (Nat.lt_succ_self _)
                 have hc9 := hb9.cell 1
                 have hf9 := hb9.frozen 1
                 simp only [List.getElem?_cons_succ, List.getElem?_cons_zero] at hc9
                 obtain ⟨aC2, cC2, hxC⟩ := o9.slice
                 obtain ⟨nC2, HNC2⟩ : ∃ z : Nat, Hid (z = (A.map (·.2) ++ [v]).length) := ⟨_, rfl⟩
                 rw [← HNC2.out] at hxC
                 subst hxC
                 have HJ : Hid _ := hJ
                 clear o9 g9 hb9 hI8 HU hJ))
            go_meet
            case rel => exact ⟨rfl, _, _, by rw [HA3.out]; simpa using HJ.out⟩
          · have hc2 : (!pt && !ls) = false := by simpa using hc
            rw [hc2]
            have HA3 : Hid (A2 = A) := by show _ = _; rw [HA2.out, hc2]; rfl
            have HPL : Hid ((pt || !ls) = pt) := by show _ = _; cases pt <;> cases ls <;> simp at hc2 ⊢
            go_wp2
            go_meet
            case rel => exact ⟨by rw [HPL.out], _, _, by rw [HA3.out]; exact HI.out⟩
        case rest =>
          clear HI
          obtain ⟨rfl, xa1, xv1, hcut⟩ := hcut
          have HI : Hid (Lv wG go xa1 xv1 (A2.map (·.1)) (A2.map (·.2)) wc) := hcut
          clear hcut
          have HAL2 : Hid (A2.length < 1600000) := by
            show _ < _
            have h1 := HAL.out
            rw [HA2.out]
            split
            · rw [List.length_append]; simp; omega
            · omega
          obtain ⟨wz2, HWQ⟩ : ∃ z, Hid (z = wc) := ⟨_, rfl⟩
          rw [← HWQ.out] at HI ⊢
          clear HWQ HA2 HAL HPT
          have heq : ∀ wx : World, (Op.equalIn 10000 33 (.agg (cb da).toArray) (.agg (cb x).toArray)).run Tryd.prog wx = .ok (decide (da = x)) wx := fun wx => eq_dig da x HA32.out HX32.out wx
          go_upto_region 10 with fail
          go_cut [48] from 42 to 48 (fun b W => b = .bool (!decide (da = x)) ∧ Lv wG go xa1 xv1 (A2.map (·.1)) (A2.map (·.2)) W)
          case first =>
            refine wp_region_held_drew (S := Below go wG) (by kernel_rfl) HI.out.drew.bel ?_
            intro hS
            have hI := HI.out.drew
            clear HI
            change wpAnyH _ _ _ _ _ _ _ _ (World.drew wz2)
            generalize World.drew wz2 = y0 at *
            refine wpAnyH_take (i := 0) (v := .pointer (some ⟨gl, 0, none⟩)) rfl (by kernel_rfl) (by kernel_rfl) (by kernel_rfl) (fun _ _ _ h => h) (Or.inl ⟨by rfl, fun wx hx => by simp [go_sem]⟩) hS ?_
            simp only [Act.put, List.getElem_toArray, List.getElem_cons_zero, List.setIfInBounds_toArray, List.set_cons_zero, List.set_cons_succ]
            refine wpAnyH_take (i := 1) (v := .slice (some ⟨ba, offa, none⟩) n cpa) rfl (by kernel_rfl) (by kernel_rfl) (by kernel_rfl) (fun _ _ _ h => h) (Or.inl ⟨by rfl, fun wx hx => by (have hc := HCA.out wx hx; simp [go_sem, hc])⟩) hS ?_
            simp only [Act.put, List.getElem_toArray, List.getElem_cons_succ, List.getElem_cons_zero, List.setIfInBounds_toArray, List.set_cons_zero, List.set_cons_succ]
            refine wpAnyH_take (i := 2) (v := .int .i64 (k : Int)) rfl (by kernel_rfl) (by kernel_rfl) (by kernel_rfl) (fun _ _ _ h => h) (Or.inl ⟨by rfl, fun wx hx => by simp [go_sem]⟩) hS ?_
            simp only [Act.put, List.getElem_toArray, List.getElem_cons_succ, List.getElem_cons_zero, List.setIfInBounds_toArray, List.set_cons_zero, List.set_cons_succ]
            refine wpAnyH_take (i := 3) (v := .pointer (some ⟨ba, offa + k * 32, none⟩)) rfl (by kernel_rfl) (by kernel_rfl) (by kernel_rfl) (fun _ _ _ h => h) (Or.inl ⟨by rfl, fun wx hx => by (simp [go_sem, hlti, k0])⟩) hS ?_
            simp only [Act.put, List.getElem_toArray, List.getElem_cons_succ, List.getElem_cons_zero, List.setIfInBounds_toArray, List.set_cons_zero, List.set_cons_succ]
            refine wpAnyH_take (i := 4) (v := .agg (cb da).toArray) rfl (by kernel_rfl) (by kernel_rfl) (by kernel_rfl) (fun _ _ _ h => h) (Or.inl ⟨by rfl, fun wx hx => by exact load_run 33 _ rfl _ _ rfl (cb da) _ (HRA.out wx hx) Tryd.underlying33 rfl (by rw [cb_len, HA32.out]; exact info_digest)⟩) hS ?_
            simp only [Act.put, List.getElem_toArray, List.getElem_cons_succ, List.getElem_cons_zero, List.setIfInBounds_toArray, List.set_cons_zero, List.set_cons_succ]
            refine wpAnyH_take (i := 5) (v := .agg (cb x).toArray) rfl (by kernel_rfl) (by kernel_rfl) (by kernel_rfl) (fun _ _ _ h => h) (Or.inl ⟨by rfl, fun wx hx => by exact loadDigest _ (gl + 1) x HX32.out (HCX.out wx hx) rfl rfl⟩) hS ?_
            simp only [Act.put, List.getElem_toArray, List.getElem_cons_succ, List.getElem_cons_zero, List.setIfInBounds_toArray, List.set_cons_zero, List.set_cons_succ]
            refine wpAnyH_take (i := 6) (v := .bool (!decide (da = x))) rfl (by kernel_rfl) (by kernel_rfl) (by kernel_rfl) (fun _ _ _ h => h) (Or.inl ⟨by rfl, fun wx hx => by (have hq := heq wx; simp [go_sem, hq])⟩) hS ?_
            simp only [Act.put, List.getElem_toArray, List.getElem_cons_succ, List.getElem_cons_zero, List.setIfInBounds_toArray, List.set_cons_zero, List.set_cons_succ]
            refine wpAnyH_done (by kernel_rfl) ?_ _
            go_wp2
            go_meet
            case rel => exact ⟨rfl, hI⟩
          case rest =>
            clear HI heq
            obtain ⟨rfl, hcut⟩ := hcut
            have HI : Hid (Lv wG go xa1 xv1 (A2.map (·.1)) (A2.map (·.2)) wc) := hcut
            clear hcut
            obtain ⟨wq, HWQ⟩ : ∃ z, Hid (z = wc) := ⟨_, rfl⟩
            rw [← HWQ.out] at HI ⊢
            clear HWQ
            by_cases hne : da = x
            · have HN3 : Hid (PtI l x v (k + 1) (pt || !ls) A2) := by
                have h := HNX.out
                rw [decide_eq_false (by simp [hne])] at h
                show PtI _ _ _ _ _ _
                simpa using h
              rw [decide_eq_true hne]
              clear hne HNX
              go_wp2
              go_roundw
              case rel => exact ⟨k + 1, _, _, _, _, by omega, rfl, by simp, HI.out, HN3.out⟩
              case measure => simp [intOf]; omega
            · have HN3 : Hid (PtI l x v (k + 1) (pt || !ls) (A2 ++ [(da, dv)])) := by
                have h := HNX.out
                rw [decide_eq_true (by simpa using hne)] at h
                exact h
              rw [decide_eq_false hne]
              clear hne HNX
              go_wp2_with fail
              refine wp_region_held_drew (S := Below go wG) (by kernel_rfl) HI.out.drew.bel ?_
              intro hS
              have hI := HI.out.drew
              clear HI
              change wpAnyH _ _ _ _ _ _ _ _ (World.drew wq)
              generalize World.drew wq = yD at *
              refine wpAnyH_take (i := 0) (v := .pointer (some ⟨go, 0, none⟩)) rfl (by kernel_rfl) (by kernel_rfl) (by kernel_rfl) (fun _ _ _ h => h) (Or.inl ⟨by rfl, fun wx hx => by simp [go_sem]⟩) hS ?_
              simp only [Act.put, List.getElem_toArray, List.getElem_cons_zero, List.setIfInBounds_toArray, List.set_cons_zero, List.set_cons_succ]
              refine wpAnyH_take (i := 2) (v := .pointer (some ⟨gl, 0, none⟩)) rfl (by kernel_rfl) (by kernel_rfl) (by kernel_rfl) (fun _ _ _ h => h) (Or.inl ⟨by rfl, fun wx hx => by simp [go_sem]⟩) hS ?_
              simp only [Act.put, List.getElem_toArray, List.getElem_cons_succ, List.getElem_cons_zero, List.setIfInBounds_toArray, List.set_cons_zero, List.set_cons_succ]
              refine wpAnyH_take (i := 4) (v := .int .i64 (k : Int)) rfl (by kernel_rfl) (by kernel_rfl) (by kernel_rfl) (fun _ _ _ h => h) (Or.inl ⟨by rfl, fun wx hx => by simp [go_sem]⟩) hS ?_
              simp only [Act.put, List.getElem_toArray, List.getElem_cons_succ, List.getElem_cons_zero, List.setIfInBounds_toArray, List.set_cons_zero, List.set_cons_succ]
              refine wpAnyH_take (i := 3) (v := .slice (some ⟨ba, offa, none⟩) n cpa) rfl (by kernel_rfl) (by kernel_rfl) (by kernel_rfl) (fun _ _ _ h => h) (Or.inl ⟨by rfl, fun wx hx => by (have hc := HCA.out wx hx; simp [go_sem, hc])⟩) hS ?_
              simp only [Act.put, List.getElem_toArray, List.getElem_cons_succ, List.getElem_cons_zero, List.setIfInBounds_toArray, List.set_cons_zero, List.set_cons_succ]
              refine wpAnyH_take (i := 5) (v := .pointer (some ⟨ba, offa + k * 32, none⟩)) rfl (by kernel_rfl) (by kernel_rfl) (by kernel_rfl) (fun _ _ _ h => h) (Or.inl ⟨by rfl, fun wx hx => by (simp [go_sem, hlti, k0])⟩) hS ?_
              simp only [Act.put, List.getElem_toArray, List.getElem_cons_succ, List.getElem_cons_zero, List.setIfInBounds_toArray, List.set_cons_zero, List.set_cons_succ]
              refine wpAnyH_take (i := 6) (v := .agg (cb da).toArray) rfl (by kernel_rfl) (by kernel_rfl) (by kernel_rfl) (fun _ _ _ h => h) (Or.inl ⟨by rfl, fun wx hx => by exact load_run 33 _ rfl _ _ rfl (cb da) _ (HRA.out wx hx) Tryd.underlying33 rfl (by rw [cb_len, HA32.out]; exact info_digest)⟩) hS ?_
              simp only [Act.put, List.getElem_toArray, List.getElem_cons_succ, List.getElem_cons_zero, List.setIfInBounds_toArray, List.set_cons_zero, List.set_cons_succ]
              have hnb := NewB.of da yD
              have hn1 := hI.next hnb.below
              obtain ⟨aD, cD, hxD⟩ := hI.own.a.slice
              obtain ⟨nD, HND⟩ : ∃ z : Nat, Hid (z = (A2.map (·.1)).length) := ⟨_, rfl⟩
              rw [← HND.out] at hxD
              have hce : yD.cell? ⟨go, 0, none⟩ = some xa1 := hI.out.cell 0
              have hce2 : (yD.alloc (.cells (cb da).toArray 33)).cell? ⟨go, 0, none⟩ = some xa1 := hn1.out.cell 0
              subst hxD
              refine wpAnyH_comm 1 7 (.slice aD nD cD) (.slice (some ⟨yD.heap.size, 0, none⟩) 1 1) (yD.alloc (.cells (cb da).toArray 33)) (by kernel_rfl) rfl rfl (by rfl) (by rfl) (by rfl) (by rfl) (by simp [go_sem, hce]) (buildD _ _ _ rfl da HA32.out rfl _) (by simp [go_sem, hce2]) (buildD _ _ _ rfl da HA32.out rfl _) (by kernel_rfl) (by kernel_rfl) (by rfl) (by rfl) hS hn1.bel ?_
              simp only [Act.put, List.getElem_toArray, List.getElem_cons_succ, List.getElem_cons_zero, List.setIfInBounds_toArray, List.set_cons_zero, List.set_cons_succ]
              have hI2 := hn1
              have HU : Hid (Blk (yD.alloc (.cells (cb da).toArray 33)) yD.heap.size (cb da) 33) := hnb.blk
              clear hn1 hnb hce hce2 hS hI
              refine wpAnyH_law 8 (by kernel_rfl) rfl (by rfl) (wp_appendG (.tmp 50) (.tmp 56) (go + 1) (.slice aD nD cD) _ da yD.heap.size hI2.own.a HU.out HA32.out (by rw [List.length_map]; exact Nat.lt_of_lt_of_le HAL2.out (by decide)) hI2.out.lt rfl rfl rfl ?_)
              intro zD qD hoD hgD
              have hI := hI2.addA hoD hgD
              have hsq : Below go wG qD := hI2.bel.trans (hgD.below.mono (Nat.le_succ _))
              have hbq := hI2.out.grow hgD (fun j hj => (hI2.own.a.lt j hj).1) (Nat.lt_succ_self _)
              have hcq := hbq.cell 0
              have hfq := hbq.frozen 0
              obtain ⟨aD2, cD2, hxD⟩ := hoD.slice
              obtain ⟨nD2, HND2⟩ : ∃ z : Nat, Hid (z = (A2.map (·.1) ++ [da]).length) := ⟨_, rfl⟩
              rw [← HND2.out] at hxD
              subst hxD
              refine ⟨hsq, ?_⟩
              simp only [Act.put, List.getElem_toArray, List.getElem_cons_succ, List.getElem_cons_zero, List.setIfInBounds_toArray, List.set_cons_zero, List.set_cons_succ]
              refine wpAnyH_take (i := 9) (v := .pointer (some ⟨go, 0, none⟩)) rfl (by kernel_rfl) (by kernel_rfl) (by kernel_rfl) (fun _ _ _ h => h) (Or.inl ⟨by rfl, fun wx hx => by simp [go_sem]⟩) hsq ?_
              simp only [Act.put, List.getElem_toArray, List.getElem_cons_succ, List.getElem_cons_zero, List.setIfInBounds_toArray, List.set_cons_zero, List.set_cons_succ]
              refine wpAnyH_skip 10 (qD.setCell ⟨go, 0, none⟩ (.slice aD2 nD2 cD2)) (by kernel_rfl) rfl (by rfl) (by simp [go_sem, hcq, hfq]) hI.bel ?_
              simp only [Act.put, List.getElem_toArray, List.getElem_cons_succ, List.getElem_cons_zero]
              refine wpAnyH_done (by kernel_rfl) ?_ _
              clear hoD hgD hsq hbq hcq hfq hI2 HU
              generalize qD.setCell ⟨go, 0, none⟩ (.slice aD2 nD2 cD2) = WD at *
              have HI : Hid (Lv wG go (.slice aD2 nD2 cD2) xv1 (A2.map (·.1) ++ [da]) (A2.map (·.2)) WD) := hI
              clear hI HRA HCA
              generalize Value.slice aD2 nD2 cD2 = xa2 at *
              go_wp2_with fail
              refine wp_region_held_drew (S := Below go wG) (by kernel_rfl) HI.out.drew.bel ?_
              intro hS
              have hI := HI.out.drew
              clear HI
              change wpAnyH _ _ _ _ _ _ _ _ (World.drew WD)
              generalize World.drew WD = yE at *
              refine wpAnyH_take (i := 0) (v := .pointer (some ⟨go, 1, none⟩)) rfl (by kernel_rfl) (by kernel_rfl) (by kernel_rfl) (fun _ _ _ h => h) (Or.inl ⟨by rfl, fun wx hx => by simp [go_sem]⟩) hS ?_
              simp only [Act.put, List.getElem_toArray, List.getElem_cons_zero, List.setIfInBounds_toArray, List.set_cons_zero, List.set_cons_succ]
              refine wpAnyH_take (i := 2) (v := .pointer (some ⟨gl, 1, none⟩)) rfl (by kernel_rfl) (by kernel_rfl) (by kernel_rfl) (fun _ _ _ h => h) (Or.inl ⟨by rfl, fun wx hx => by simp [go_sem]⟩) hS ?_
              simp only [Act.put, List.getElem_toArray, List.getElem_cons_succ, List.getElem_cons_zero, List.setIfInBounds_toArray, List.set_cons_zero, List.set_cons_succ]
              refine wpAnyH_take (i := 4) (v := .int .i64 (k : Int)) rfl (by kernel_rfl) (by kernel_rfl) (by kernel_rfl) (fun _ _ _ h => h) (Or.inl ⟨by rfl, fun wx hx => by simp [go_sem]⟩) hS ?_
              simp only [Act.put, List.getElem_toArray, List.getElem_cons_succ, List.getElem_cons_zero, List.setIfInBounds_toArray, List.set_cons_zero, List.set_cons_succ]
              refine wpAnyH_take (i := 3) (v := .slice (some ⟨bv, offv, none⟩) n cpv) rfl (by kernel_rfl) (by kernel_rfl) (by kernel_rfl) (fun _ _ _ h => h) (Or.inl ⟨by rfl, fun wx hx => by (have hc := HCV.out wx hx; simp [go_sem, hc])⟩) hS ?_
              simp only [Act.put, List.getElem_toArray, List.getElem_cons_succ, List.getElem_cons_zero, List.setIfInBounds_toArray, List.set_cons_zero, List.set_cons_succ]
              refine wpAnyH_take (i := 5) (v := .pointer (some ⟨bv, offv + k * 32, none⟩)) rfl (by kernel_rfl) (by kernel_rfl) (by kernel_rfl) (fun _ _ _ h => h) (Or.inl ⟨by rfl, fun wx hx => by (simp [go_sem, hlti, k0])⟩) hS ?_
              simp only [Act.put, List.getElem_toArray, List.getElem_cons_succ, List.getElem_cons_zero, List.setIfInBounds_toArray, List.set_cons_zero, List.set_cons_succ]
              refine wpAnyH_take (i := 6) (v := .agg (cb dv).toArray) rfl (by kernel_rfl) (by kernel_rfl) (by kernel_rfl) (fun _ _ _ h => h) (Or.inl ⟨by rfl, fun wx hx => by exact load_run 33 _ rfl _ _ rfl (cb dv) _ (HRV.out wx hx) Tryd.underlying33 rfl (by rw [cb_len, HV32.out]; exact info_digest)⟩) hS ?_
              simp only [Act.put, List.getElem_toArray, List.getElem_cons_succ, List.getElem_cons_zero, List.setIfInBounds_toArray, List.set_cons_zero, List.set_cons_succ]
              have hnb := NewB.of dv yE
              have hn1 := hI.next hnb.below
              obtain ⟨aE, cE, hxE⟩ := hI.own.v.slice
              obtain ⟨nE, HNE⟩ : ∃ z : Nat, Hid (z = (A2.map (·.2)).length) := ⟨_, rfl⟩
              rw [← HNE.out] at hxE
              have hce : yE.cell? ⟨go, 1, none⟩ = some xv1 := hI.out.cell 1
              have hce2 : (yE.alloc (.cells (cb dv).toArray 33)).cell? ⟨go, 1, none⟩ = some xv1 := hn1.out.cell 1
              subst hxE
              refine wpAnyH_comm 1 7 (.slice aE nE cE) (.slice (some ⟨yE.heap.size, 0, none⟩) 1 1) (yE.alloc (.cells (cb dv).toArray 33)) (by kernel_rfl) rfl rfl (by rfl) (by rfl) (by rfl) (by rfl) (by simp [go_sem, hce]) (buildD _ _ _ rfl dv HV32.out rfl _) (by simp [go_sem, hce2]) (buildD _ _ _ rfl dv HV32.out rfl _) (by kernel_rfl) (by kernel_rfl) (by rfl) (by rfl) hS hn1.bel ?_
              simp only [Act.put, List.getElem_toArray, List.getElem_cons_succ, List.getElem_cons_zero, List.setIfInBounds_toArray, List.set_cons_zero, List.set_cons_succ]
              have hI2 := hn1
              have HU : Hid (Blk (yE.alloc (.cells (cb dv).toArray 33)) yE.heap.size (cb dv) 33) := hnb.blk
              clear hn1 hnb hce hce2 hS hI
              refine wpAnyH_law 8 (by kernel_rfl) rfl (by rfl) (wp_appendG (.tmp 60) (.tmp 66) (go + 1) (.slice aE nE cE) _ dv yE.heap.size hI2.own.v HU.out HV32.out (by rw [List.length_map]; exact Nat.lt_of_lt_of_le HAL2.out (by decide)) hI2.out.lt rfl rfl rfl ?_)
              intro zE qE hoE hgE
              have hI := hI2.addV hoE hgE
              have hsq : Below go wG qE := hI2.bel.trans (hgE.below.mono (Nat.le_succ _))
              have hbq := hI2.out.grow hgE (fun j hj => (hI2.own.v.lt j hj).1) (Nat.lt_succ_self _)
              have hcq := hbq.cell 1
              have hfq := hbq.frozen 1
              obtain ⟨aE2, cE2, hxE⟩ := hoE.slice
              obtain ⟨nE2, HNE2⟩ : ∃ z : Nat, Hid (z = (A2.map (·.2) ++ [dv]).length) := ⟨_, rfl⟩
              rw [← HNE2.out] at hxE
              subst hxE
              refine ⟨hsq, ?_⟩
              simp only [Act.put, List.getElem_toArray, List.getElem_cons_succ, List.getElem_cons_zero, List.setIfInBounds_toArray, List.set_cons_zero, List.set_cons_succ]
              refine wpAnyH_take (i := 9) (v := .pointer (some ⟨go, 1, none⟩)) rfl (by kernel_rfl) (by kernel_rfl) (by kernel_rfl) (fun _ _ _ h => h) (Or.inl ⟨by rfl, fun wx hx => by simp [go_sem]⟩) hsq ?_
              simp only [Act.put, List.getElem_toArray, List.getElem_cons_succ, List.getElem_cons_zero, List.setIfInBounds_toArray, List.set_cons_zero, List.set_cons_succ]
              refine wpAnyH_skip 10 (qE.setCell ⟨go, 1, none⟩ (.slice aE2 nE2 cE2)) (by kernel_rfl) rfl (by rfl) (by simp [go_sem, hcq, hfq]) hI.bel ?_
              simp only [Act.put, List.getElem_toArray, List.getElem_cons_succ, List.getElem_cons_zero]
              refine wpAnyH_done (by kernel_rfl) ?_ _
              clear hoE hgE hsq hbq hcq hfq hI2 HU
              generalize qE.setCell ⟨go, 1, none⟩ (.slice aE2 nE2 cE2) = WE at *
              have HJ : Hid (Lv wG go xa2 (.slice aE2 nE2 cE2) ((A2 ++ [(da, dv)]).map (·.1)) ((A2 ++ [(da, dv)]).map (·.2)) WE) := by
                show Lv _ _ _ _ _ _ _
                simpa using hI
              clear hI
              go_wp2
              go_roundw
              case rel => exact ⟨k + 1, _, _, _, _, by omega, rfl, by simp, HJ.out, HN3.out⟩
              case measure => simp [intOf]; omega
    · have hkn : k = n := by omega
      subst hkn
      have ht : l.take k = l := by rw [HN.out]; exact List.take_length
      have HDN : Hid (putL l x v = A ++ if pt then [] else [(x, v)]) := HPT.out.done ht
      clear HPT ht
      cases pt with
      | true =>
        replace HDN : Hid (putL l x v = A) := by have h := HDN.out; show _ = _; simpa using h
        have hI2 := HI.out
        obtain ⟨adx, cpx, hxa⟩ := hI2.own.a.slice
        obtain ⟨adw, cpw, hxv⟩ := hI2.own.v.slice
        obtain ⟨nx, HNX⟩ : ∃ z : Nat, Hid (z = (A.map (·.1)).length) := ⟨_, rfl⟩
        obtain ⟨nw, HNW⟩ : ∃ z : Nat, Hid (z = (A.map (·.2)).length) := ⟨_, rfl⟩
        rw [← HNX.out] at hxa
        rw [← HNW.out] at hxv
        subst hxa hxv
        have HE : Hid (Lv wG go (.slice adx nx cpx) (.slice adw nw cpw) (A.map (·.1)) (A.map (·.2)) wr) := hI2
        have d0 : wr.cell? ⟨go, 0, none⟩ = some (.slice adx nx cpx) := hI2.out.cell 0
        have d1 : wr.cell? ⟨go, 1, none⟩ = some (.slice adw nw cpw) := hI2.out.cell 1
        have hr := HRB.out.below hI2.bel (by have := HSZ.out; omega)
        have r0 : wr.cell? ⟨gl + 3, 0, none⟩ = some (.slice none 0 0) := hr.cell 0
        have r1 : wr.cell? ⟨gl + 3, 1, none⟩ = some (.slice none 0 0) := hr.cell 1
        have q0 : wr.frozen? ⟨gl + 3, 0, none⟩ = false := hr.frozen 0
        have q1 : wr.frozen? ⟨gl + 3, 1, none⟩ = false := hr.frozen 1
        have HRR : Hid (Blk wr (gl + 3) [nilV, nilV] 47) := hr
        clear hI2 hr HI
        go_wp2
        have hB6 : Blk ((wr.setCell ⟨gl + 3, 0, none⟩ (.slice adx nx cpx)).setCell ⟨gl + 3, 1, none⟩ (.slice adw nw cpw)) (gl + 3) [.slice adx nx cpx, .slice adw nw cpw] 47 := (HRR.out.set 0 _).set 1 _
        refine bodyPost_ret (v := .agg [.slice adx nx cpx, .slice adw nw cpw].toArray) (results_cell_row (by rfl) _ _ (gl + 3) 47 _ (0, 0) _ rfl hB6 Tryd.underlying47 rfl (by kernel_rfl)) rfl ⟨_, _, rfl, ?_, ?_⟩
        · rw [HDN.out]
          refine (HE.out.own.keep fun j h1 _ => ?_).mono (by have h1 := HSZ.out; have h2 := HGL.out; omega)
          rw [Below.heap_setCell _ _ _ _ (by show j ≠ gl + 3; have := HSZ.out; omega), Below.heap_setCell _ _ _ _ (by show j ≠ gl + 3; have := HSZ.out; omega)]
        · exact ((HBW.out.trans (HE.out.bel.mono (by have h1 := HSZ.out; have h2 := HGL.out; omega))).setCell (by show w.heap.size ≤ gl + 3; have := HGL.out; omega) _).setCell (by show w.heap.size ≤ gl + 3; have := HGL.out; omega) _
      | false =>
        replace HDN : Hid (putL l x v = A ++ [(x, v)]) := by have h := HDN.out; show _ = _; simpa using h
        have hI := HI.out
        obtain ⟨aB, cB, hxB⟩ := hI.own.a.slice
        obtain ⟨nB, HNB⟩ : ∃ z : Nat, Hid (z = (A.map (·.1)).length) := ⟨_, rfl⟩
        rw [← HNB.out] at hxB
        have hce : wr.cell? ⟨go, 0, none⟩ = some xa := hI.out.cell 0
        subst hxB
        clear hI
        go_upto_region 15 with (first
          | (with_reducible refine wpSeq_loadD (.tmp 4) (gl + 1) x ?_ ?_ ?_ ?_ ?_ ?_
             · exact HX32.out
             · exact HCX.out _ HI.out.bel
             · with_reducible rfl
             · rfl
             · rfl)
          | (with_reducible refine wpSeq_buildD (.tmp 73) x ?_ ?_ ?_ ?_ ?_
             · exact HX32.out
             · with_reducible rfl
             · rfl
             · rfl
             intro g8 w8 n8
             have hI8 := HI.out.next n8.below
             have HU : Hid (Blk w8 g8 (cb x) 33) := n8.blk
             clear n8 HI hce)
          | (with_reducible refine wpSeq_appendD (.tmp 72) (.tmp 74) (go + 1) (.slice aB nB cB) _ x g8 hI8.own.a HU.out HX32.out ?_ (Nat.succ_le_of_lt hI8.out.lt) ?_ ?_ ?_ ?_ ?_
             · rw [List.length_map]; exact Nat.lt_of_lt_of_le HAL.out (by decide)
             · with_reducible rfl
             · rfl
             · rfl
             · rfl
             intro z9 w9 o9 g9
             have hJ := hI8.addA o9 g9
             have hb9 := hI8.out.grow g9 (fun j hj => (hI8.own.a.lt j hj).1) (Nat.lt_succ_self _)
             have hc9 := hb9.cell 0
             have hf9 := hb9.frozen 0
             simp only [List.getElem?_cons_zero] at hc9
             obtain ⟨aB2, cB2, hxB⟩ := o9.slice
             obtain ⟨nB2, HNB2⟩ : ∃ z : Nat, Hid (z = (A.map (·.1) ++ [x]).length) := ⟨_, rfl⟩
             rw [← HNB2.out] at hxB
             subst hxB
             have HJ : Hid _ := hJ
             clear o9 g9 hb9 hI8 HU hJ))
        have HI := HJ
        clear HJ hc9 hf9
        generalize w9.setCell ⟨go, 0, none⟩ (.slice aB2 nB2 cB2) = w10 at *
        generalize Value.slice aB2 nB2 cB2 = xa2 at *
        have hI := HI.out
        obtain ⟨aC, cC, hxC⟩ := hI.own.v.slice
        obtain ⟨nC, HNC⟩ : ∃ z : Nat, Hid (z = (A.map (·.2)).length) := ⟨_, rfl⟩
        rw [← HNC.out] at hxC
        have hce : w10.cell? ⟨go, 1, none⟩ = some xv := hI.out.cell 1
        subst hxC
        clear hI
        go_upto_region 16 with (first
          | (with_reducible refine wpSeq_loadD (.tmp 5) (gl + 2) v ?_ ?_ ?_ ?_ ?_ ?_
             · exact HY32.out
             · exact HCY.out _ HI.out.bel
             · with_reducible rfl
             · rfl
             · rfl)
          | (with_reducible refine wpSeq_buildD (.tmp 79) v ?_ ?_ ?_ ?_ ?_
             · exact HY32.out
             · with_reducible rfl
             · rfl
             · rfl
             intro g8 w8 n8
             have hI8 := HI.out.next n8.below
             have HU : Hid (Blk w8 g8 (cb v) 33) := n8.blk
             clear n8 HI hce)
          | (with_reducible refine wpSeq_appendD (.tmp 78) (.tmp 80) (go + 1) (.slice aC nC cC) _ v g8 hI8.own.v HU.out HY32.out ?_ (Nat.succ_le_of_lt hI8.out.lt) ?_ ?_ ?_ ?_ ?_
             · rw [List.length_map]; exact Nat.lt_of_lt_of_le HAL.out (by decide)
             · with_reducible rfl
             · rfl
             · rfl
             · rfl
             intro z9 w9 o9 g9
             have hJ := hI8.addV o9 g9
             have hb9 := hI8.out.grow g9 (fun j hj => (hI8.own.v.lt j hj).1) (Nat.lt_succ_self _)
             have hc9 := hb9.cell 1
             have hf9 := hb9.frozen 1
             simp only [List.getElem?_cons_succ, List.getElem?_cons_zero] at hc9
             obtain ⟨aC2, cC2, hxC⟩ := o9.slice
             obtain ⟨nC2, HNC2⟩ : ∃ z : Nat, Hid (z = (A.map (·.2) ++ [v]).length) := ⟨_, rfl⟩
             rw [← HNC2.out] at hxC
             subst hxC
             have HJ : Hid _ := hJ
             clear o9 g9 hb9 hI8 HU hJ))
        have HI : Hid (Lv wG go xa2 (.slice aC2 nC2 cC2) ((A ++ [(x, v)]).map (·.1)) ((A ++ [(x, v)]).map (·.2)) (w9.setCell ⟨go, 1, none⟩ (.slice aC2 nC2 cC2))) := by
          show Lv _ _ _ _ _ _ _
          simpa using HJ.out
        clear HJ hc9 hf9
        generalize w9.setCell ⟨go, 1, none⟩ (.slice aC2 nC2 cC2) = w11 at *
        generalize Value.slice aC2 nC2 cC2 = xv2 at *
        have hI2 := HI.out
        obtain ⟨adx, cpx, hxa⟩ := hI2.own.a.slice
        obtain ⟨adw, cpw, hxv⟩ := hI2.own.v.slice
        obtain ⟨nx, HNX⟩ : ∃ z : Nat, Hid (z = ((A ++ [(x, v)]).map (·.1)).length) := ⟨_, rfl⟩
        obtain ⟨nw, HNW⟩ : ∃ z : Nat, Hid (z = ((A ++ [(x, v)]).map (·.2)).length) := ⟨_, rfl⟩
        rw [← HNX.out] at hxa
        rw [← HNW.out] at hxv
        subst hxa hxv
        have HE : Hid (Lv wG go (.slice adx nx cpx) (.slice adw nw cpw) ((A ++ [(x, v)]).map (·.1)) ((A ++ [(x, v)]).map (·.2)) w11) := hI2
        have d0 : w11.cell? ⟨go, 0, none⟩ = some (.slice adx nx cpx) := hI2.out.cell 0
        have d1 : w11.cell? ⟨go, 1, none⟩ = some (.slice adw nw cpw) := hI2.out.cell 1
        have hr := HRB.out.below hI2.bel (by have := HSZ.out; omega)
        have r0 : w11.cell? ⟨gl + 3, 0, none⟩ = some (.slice none 0 0) := hr.cell 0
        have r1 : w11.cell? ⟨gl + 3, 1, none⟩ = some (.slice none 0 0) := hr.cell 1
        have q0 : w11.frozen? ⟨gl + 3, 0, none⟩ = false := hr.frozen 0
        have q1 : w11.frozen? ⟨gl + 3, 1, none⟩ = false := hr.frozen 1
        have HRR : Hid (Blk w11 (gl + 3) [nilV, nilV] 47) := hr
        clear hI2 hr HI
        go_wp2
        have hB6 : Blk ((w11.setCell ⟨gl + 3, 0, none⟩ (.slice adx nx cpx)).setCell ⟨gl + 3, 1, none⟩ (.slice adw nw cpw)) (gl + 3) [.slice adx nx cpx, .slice adw nw cpw] 47 := (HRR.out.set 0 _).set 1 _
        refine bodyPost_ret (v := .agg [.slice adx nx cpx, .slice adw nw cpw].toArray) (results_cell_row (by rfl) _ _ (gl + 3) 47 _ (0, 0) _ rfl hB6 Tryd.underlying47 rfl (by kernel_rfl)) rfl ⟨_, _, rfl, ?_, ?_⟩
        · rw [HDN.out]
          refine (HE.out.own.keep fun j h1 _ => ?_).mono (by have h1 := HSZ.out; have h2 := HGL.out; omega)
          rw [Below.heap_setCell _ _ _ _ (by show j ≠ gl + 3; have := HSZ.out; omega), Below.heap_setCell _ _ _ _ (by show j ≠ gl + 3; have := HSZ.out; omega)]
        · exact ((HBW.out.trans (HE.out.bel.mono (by have h1 := HSZ.out; have h2 := HGL.out; omega))).setCell (by show w.heap.size ≤ gl + 3; have := HGL.out; omega) _).setCell (by show w.heap.size ≤ gl + 3; have := HGL.out; omega) _
end Go.Proofs.YtpeifpoeeopecaaDoor
/- The walk of the reference's Of. -/
namespace Go.Proofs.YtpeifpoeeopecaaDoor
open Go.RowKit
set_option maxRecDepth 100000
theorem Lv.renew {wG W W' : World} {go : Nat} {xa xv xa' xv' : Value} {la lv la' lv' : List (List (BitVec 8))} (h : Lv wG go xa xv la lv W) (hb : Below W.heap.size W W') (ho : OwnLf W' W.heap.size xa' xv' la' lv') : Lv wG go xa' xv' la' lv' ((W'.setCell ⟨go, 0, none⟩ xa').setCell ⟨go, 1, none⟩ xv') := by
  have hn := h.next hb
  have hlt := h.out.lt
  refine ⟨h.sz, (hn.out.set 0 _).set 1 _, (ho.mono (Nat.succ_le_of_lt hlt)).keep fun j h1 _ => ?_, (hn.bel.setCell (Nat.le_refl _) _).setCell (Nat.le_refl _) _⟩
  rw [Below.heap_setCell _ _ _ _ (by show j ≠ go; omega), Below.heap_setCell _ _ _ _ (by show j ≠ go; omega)]
theorem ofL_len (z : List Lf) : (ofL z).length ≤ z.length := by
  have key : ∀ (z l : List Lf), (z.foldl (fun l p => putL l p.1 p.2) l).length ≤ l.length + z.length := by
    intro z
    induction z with
    | nil => intro l; exact Nat.le_refl _
    | cons a r ih =>
      intro l
      have h1 := ih (putL l a.1 a.2)
      have h2 := putL_len l a.1 a.2
      rw [List.foldl_cons, List.length_cons]
      omega
  have := key z []
  simpa [ofL] using this
theorem zip_take {ds es : List (List (BitVec 8))} {k : Nat} (h1 : k < ds.length) (h2 : k < es.length) : (ds.zip es).take (k + 1) = (ds.zip es).take k ++ [(ds.getD k [], es.getD k [])] := by
  have hk : k < (ds.zip es).length := by rw [List.length_zip]; omega
  rw [List.take_add_one, List.getElem?_eq_getElem hk, List.getElem_zip, List.getD_eq_getElem?_getD, List.getD_eq_getElem?_getD, List.getElem?_eq_getElem h1, List.getElem?_eq_getElem h2]
  rfl
theorem zip_whole {ds es : List (List (BitVec 8))} {k : Nat} (h : ds.length ≤ k ∨ es.length ≤ k) : (ds.zip es).take k = ds.zip es := by
  apply List.take_of_length_le
  rw [List.length_zip]
  omega
set_option maxRecDepth 100000 in
set_option maxHeartbeats 4000000 in
theorem lfOf_any (vt vu : Value) (ds es : List (List (BitVec 8))) (w : World) (hT : ReadsD w vt ds) (hU : ReadsD w vu es) (hl : ds.length < 1000000) :
    Calls Tryd.prog 19 #[vt, vu] w fun e w' => ∃ xa xv, e = .returned (.agg #[xa, xv]) ∧ OwnLf w' w.heap.size xa xv ((ofL (ds.zip es)).map (·.1)) ((ofL (ds.zip es)).map (·.2)) ∧ Below w.heap.size w w' := by
  have HT : Hid (ReadsD w vt ds) := hT
  have HU : Hid (ReadsD w vu es) := hU
  have HL : Hid (ds.length < 1000000) := hl
  obtain ⟨n, HN⟩ : ∃ n, Hid (n = ds.length) := ⟨_, rfl⟩
  obtain ⟨m, HM⟩ : ∃ n, Hid (n = es.length) := ⟨_, rfl⟩
  obtain ⟨adt, cpt, hvt⟩ := hT.slice
  obtain ⟨adu, cpu, hvu⟩ := hU.slice
  rw [← HN.out] at hvt
  rw [← HM.out] at hvu
  subst hvt hvu
  clear hT hU hl
  obtain ⟨gr, HGL⟩ : ∃ g, Hid (g = w.heap.size) := ⟨_, rfl⟩
  obtain ⟨wG, HWG⟩ : ∃ z, Hid (z = w.alloc (.cells [nilV, nilV].toArray 47)) := ⟨_, rfl⟩
  have HRB : Hid (Blk wG gr [nilV, nilV] 47) := by rw [HWG.out, HGL.out]; exact Blk.new w _ _
  have HBW : Hid (Below w.heap.size w wG) := by rw [HWG.out]; exact below_alloc w _
  obtain ⟨go, HGO⟩ : ∃ g, Hid (g = wG.heap.size) := ⟨_, rfl⟩
  have HSZ : Hid (go = gr + 1) := by show _ = _; rw [HGO.out, HWG.out, HGL.out]; simp
  have HI : Hid (Lv wG go nilV nilV [] [] (wG.alloc (.cells [nilV, nilV].toArray 47))) := by rw [HGO.out]; exact Lv.start wG
  go_enter Tryd.func19, Tryd.ntmps19
  go_wp2
  have e0 : (some ⟨w.heap.size, 0, none⟩ : Option Addr) = some ⟨gr, 0, none⟩ := by rw [HGL.out]
  have e1 : (some ⟨w.heap.size + 1, 0, none⟩ : Option Addr) = some ⟨go, 0, none⟩ := by rw [HSZ.out, HGL.out]
  simp only [e0, e1]
  clear e0 e1
  change Code.wp _ _ _ _ ((w.alloc (.cells [nilV, nilV].toArray 47)).alloc (.cells [nilV, nilV].toArray 47))
  rw [← HWG.out]
  generalize wG.alloc (.cells [nilV, nilV].toArray 47) = w0 at *
  clear HWG HGO
  go_loopw [6] (fun j wr => ∃ (k : Nat) (xa xv : Value), k ≤ n ∧ j = .int .i64 (k : Int) ∧ Lv wG go xa xv ((ofL ((ds.zip es).take k)).map (·.1)) ((ofL ((ds.zip es).take k)).map (·.2)) wr) (fun j _ => n - (intOf j).toNat)
  case atStart => exact ⟨0, nilV, nilV, by omega, rfl, by simpa [ofL] using HI.out⟩
  case round =>
    clear HI
    obtain ⟨k, xa, xv, hk, rfl, hI⟩ := hrel
    have hI2 := hI
    obtain ⟨adx, cpx, hxa⟩ := hI2.own.a.slice
    obtain ⟨adw, cpw, hxv⟩ := hI2.own.v.slice
    obtain ⟨nx, HNX⟩ : ∃ z : Nat, Hid (z = ((ofL ((ds.zip es).take k)).map (·.1)).length) := ⟨_, rfl⟩
    obtain ⟨nw, HNW⟩ : ∃ z : Nat, Hid (z = ((ofL ((ds.zip es).take k)).map (·.2)).length) := ⟨_, rfl⟩
    rw [← HNX.out] at hxa
    rw [← HNW.out] at hxv
    subst hxa hxv
    have HI : Hid (Lv wG go (.slice adx nx cpx) (.slice adw nw cpw) ((ofL ((ds.zip es).take k)).map (·.1)) ((ofL ((ds.zip es).take k)).map (·.2)) wr) := hI
    clear hI hI2
    by_cases hlt : k < n ∧ k < m
    · obtain ⟨hlt1, hlt2⟩ := hlt
      have hlti : (k : Int) < (n : Int) := by omega
      have hltj : (k : Int) < (m : Int) := by omega
      have k0 : (0 : Int) ≤ (k : Int) := by omega
      have hn6 : n < 1000000 := by rw [HN.out]; exact HL.out
      have f5 : IntKind.i64.wrap ((k : Int) + 1) = (k : Int) + 1 := wrap_small2 _ (by omega) (by omega)
      have HK1 : Hid (k < ds.length) := by show _ < _; rw [← HN.out]; exact hlt1
      have HK2 : Hid (k < es.length) := by show _ < _; rw [← HM.out]; exact hlt2
      obtain ⟨ba, offa, cpa', hva, hya⟩ := HT.out.at (by have := HK1.out; omega)
      obtain ⟨bv, offv, cpv', hvv, hyv⟩ := HU.out.at (by have := HK2.out; omega)
      rw [← HN.out] at hva hya
      rw [← HM.out] at hvv hyv
      simp only [Value.slice.injEq, true_and] at hva hvv
      obtain ⟨rfl, rfl⟩ := hva
      obtain ⟨rfl, rfl⟩ := hvv
      obtain ⟨da, HDA⟩ : ∃ d, Hid (d = ds.getD k []) := ⟨_, rfl⟩
      obtain ⟨dv, HDV⟩ : ∃ d, Hid (d = es.getD k []) := ⟨_, rfl⟩
      have HA32 : Hid (da.length = 32) := by show _ = _; rw [HDA.out]; exact getD_mem32 HT.out.2 HK1.out
      have HV32 : Hid (dv.length = 32) := by show _ = _; rw [HDV.out]; exact getD_mem32 HU.out.2 HK2.out
      have HRA : Hid (∀ wx, Below go wG wx → wx.rangeAt ba (offa + k * 32) (cb da)) := fun wx hx => by
        have h := hya k hlt1
        rw [← HDA.out] at h
        have hb := rangeAt_lt h HA32.out
        exact rangeAt_below (rangeAt_below h HBW.out hb) hx (by have h1 := HSZ.out; have h2 := HGL.out; omega)
      have HRV : Hid (∀ wx, Below go wG wx → wx.rangeAt bv (offv + k * 32) (cb dv)) := fun wx hx => by
        have h := hyv k hlt2
        rw [← HDV.out] at h
        have hb := rangeAt_lt h HV32.out
        exact rangeAt_below (rangeAt_below h HBW.out hb) hx (by have h1 := HSZ.out; have h2 := HGL.out; omega)
      clear hya hyv
      have HNK : Hid (ofL ((ds.zip es).take (k + 1)) = putL (ofL ((ds.zip es).take k)) da dv) := by show _ = _; rw [zip_take HK1.out HK2.out, ofL_snoc, ← HDA.out, ← HDV.out]
      have HLK : Hid ((ofL ((ds.zip es).take k)).length < 1000000) := by show _ < _; have h1 := ofL_len ((ds.zip es).take k); rw [List.length_take] at h1; omega
      go_wp2_with fail
      refine wp_region_held_drew (S := Below go wG) (by kernel_rfl) HI.out.drew.bel ?_
      intro hS
      have hI := HI.out.drew
      clear HI
      change wpAnyH _ _ _ _ _ _ _ _ (World.drew wr)
      generalize World.drew wr = y0 at *
      refine wpAnyH_take (i := 1) (v := .slice (some ⟨ba, offa, none⟩) n cpt) rfl (by kernel_rfl) (by kernel_rfl) (by kernel_rfl) (fun _ _ _ h => h) (Or.inl ⟨by rfl, fun wx hx => by simp [go_sem]⟩) hS ?_
      simp only [Act.put, List.getElem_toArray, List.getElem_cons_succ, List.getElem_cons_zero, List.setIfInBounds_toArray, List.set_cons_zero, List.set_cons_succ]
      refine wpAnyH_take (i := 2) (v := .int .i64 (k : Int)) rfl (by kernel_rfl) (by kernel_rfl) (by kernel_rfl) (fun _ _ _ h => h) (Or.inl ⟨by rfl, fun wx hx => by simp [go_sem]⟩) hS ?_
      simp only [Act.put, List.getElem_toArray, List.getElem_cons_succ, List.getElem_cons_zero, List.setIfInBounds_toArray, List.set_cons_zero, List.set_cons_succ]
      refine wpAnyH_take (i := 5) (v := .slice (some ⟨bv, offv, none⟩) m cpu) rfl (by kernel_rfl) (by kernel_rfl) (by kernel_rfl) (fun _ _ _ h => h) (Or.inl ⟨by rfl, fun wx hx => by simp [go_sem]⟩) hS ?_
      simp only [Act.put, List.getElem_toArray, List.getElem_cons_succ, List.getElem_cons_zero, List.setIfInBounds_toArray, List.set_cons_zero, List.set_cons_succ]
      refine wpAnyH_take (i := 6) (v := .int .i64 (k : Int)) rfl (by kernel_rfl) (by kernel_rfl) (by kernel_rfl) (fun _ _ _ h => h) (Or.inl ⟨by rfl, fun wx hx => by simp [go_sem]⟩) hS ?_
      simp only [Act.put, List.getElem_toArray, List.getElem_cons_succ, List.getElem_cons_zero, List.setIfInBounds_toArray, List.set_cons_zero, List.set_cons_succ]
      refine wpAnyH_take (i := 3) (v := .pointer (some ⟨ba, offa + k * 32, none⟩)) rfl (by kernel_rfl) (by kernel_rfl) (by kernel_rfl) (fun _ _ _ h => h) (Or.inl ⟨by rfl, fun wx hx => by (simp [go_sem, hlti, k0])⟩) hS ?_
      simp only [Act.put, List.getElem_toArray, List.getElem_cons_succ, List.getElem_cons_zero, List.setIfInBounds_toArray, List.set_cons_zero, List.set_cons_succ]
      refine wpAnyH_take (i := 7) (v := .pointer (some ⟨bv, offv + k * 32, none⟩)) rfl (by kernel_rfl) (by kernel_rfl) (by kernel_rfl) (fun _ _ _ h => h) (Or.inl ⟨by rfl, fun wx hx => by (simp [go_sem, hltj, k0])⟩) hS ?_
      simp only [Act.put, List.getElem_toArray, List.getElem_cons_succ, List.getElem_cons_zero, List.setIfInBounds_toArray, List.set_cons_zero, List.set_cons_succ]
      refine wpAnyH_take (i := 4) (v := .agg (cb da).toArray) rfl (by kernel_rfl) (by kernel_rfl) (by kernel_rfl) (fun _ _ _ h => h) (Or.inl ⟨by rfl, fun wx hx => by exact load_run 33 _ rfl _ _ rfl (cb da) _ (HRA.out wx hx) Tryd.underlying33 rfl (by rw [cb_len, HA32.out]; exact info_digest)⟩) hS ?_
      simp only [Act.put, List.getElem_toArray, List.getElem_cons_succ, List.getElem_cons_zero, List.setIfInBounds_toArray, List.set_cons_zero, List.set_cons_succ]
      refine wpAnyH_take (i := 8) (v := .agg (cb dv).toArray) rfl (by kernel_rfl) (by kernel_rfl) (by kernel_rfl) (fun _ _ _ h => h) (Or.inl ⟨by rfl, fun wx hx => by exact load_run 33 _ rfl _ _ rfl (cb dv) _ (HRV.out wx hx) Tryd.underlying33 rfl (by rw [cb_len, HV32.out]; exact info_digest)⟩) hS ?_
      simp only [Act.put, List.getElem_toArray, List.getElem_cons_succ, List.getElem_cons_zero, List.setIfInBounds_toArray, List.set_cons_zero, List.set_cons_succ]
      have c0 : y0.cell? ⟨go, 0, none⟩ = some (.slice adx nx cpx) := hI.out.cell 0
      have c1 : y0.cell? ⟨go, 1, none⟩ = some (.slice adw nw cpw) := hI.out.cell 1
      refine wpAnyH_step 0 (.agg #[.slice adx nx cpx, .slice adw nw cpw]) y0 (by kernel_rfl) rfl (by rfl) (by simp [go_sem, c0, c1]) hS ?_
      simp only [Act.put, List.getElem_toArray, List.getElem_cons_zero, List.setIfInBounds_toArray, List.set_cons_zero, List.set_cons_succ]
      clear c0 c1
      refine wpAnyH_enter 9 (by kernel_rfl) rfl (by rfl) (f := 37) (args := #[.agg #[.slice adx nx cpx, .slice adw nw cpw], .agg (cb da).toArray, .agg (cb dv).toArray]) (by simp [go_sem]) (lfPut_any _ _ (ofL ((ds.zip es).take k)) da dv y0 hI.own.reads HLK.out HA32.out HV32.out) ?_
      rintro e wy ⟨xa2, xv2, rfl, ho, hbq⟩
      have hn := hI.next hbq
      refine ⟨_, rfl, hn.bel, ?_⟩
      obtain ⟨a2, p2, hx2⟩ := ho.a.slice
      obtain ⟨a3, p3, hx3⟩ := ho.v.slice
      obtain ⟨n2, HN2⟩ : ∃ z : Nat, Hid (z = ((putL (ofL ((ds.zip es).take k)) da dv).map (·.1)).length) := ⟨_, rfl⟩
      obtain ⟨n3, HN3⟩ : ∃ z : Nat, Hid (z = ((putL (ofL ((ds.zip es).take k)) da dv).map (·.2)).length) := ⟨_, rfl⟩
      rw [← HN2.out] at hx2
      rw [← HN3.out] at hx3
      subst hx2 hx3
      have hJ := hI.renew hbq ho
      rw [← HNK.out] at hJ
      have c0 := hn.out.cell 0
      have c1 : (wy.setCell ⟨go, 0, none⟩ (.slice a2 n2 p2)).cell? ⟨go, 1, none⟩ = some (.slice adw nw cpw) := (hn.out.set 0 _).cell 1
      have f0 := hn.out.frozen 0
      have f1 : (wy.setCell ⟨go, 0, none⟩ (.slice a2 n2 p2)).frozen? ⟨go, 1, none⟩ = false := (hn.out.set 0 _).frozen 1
      simp only [List.getElem?_cons_zero] at c0
      simp only [Act.put, List.getElem_toArray, List.getElem_cons_succ, List.getElem_cons_zero, List.setIfInBounds_toArray, List.set_cons_zero, List.set_cons_succ]
      refine wpAnyH_skip 10 ((wy.setCell ⟨go, 0, none⟩ (.slice a2 n2 p2)).setCell ⟨go, 1, none⟩ (.slice a3 n3 p3)) (by kernel_rfl) rfl (by rfl) (by simp [go_sem, c0, c1, f0, f1]) hJ.bel ?_
      simp only [Act.put, List.getElem_toArray, List.getElem_cons_succ, List.getElem_cons_zero]
      refine wpAnyH_done (by kernel_rfl) ?_ _
      have HJ : Hid (Lv wG go (.slice a2 n2 p2) (.slice a3 n3 p3) ((ofL ((ds.zip es).take (k + 1))).map (·.1)) ((ofL ((ds.zip es).take (k + 1))).map (·.2)) ((wy.setCell ⟨go, 0, none⟩ (.slice a2 n2 p2)).setCell ⟨go, 1, none⟩ (.slice a3 n3 p3))) := hJ
      clear hJ hn ho hbq c0 c1 f0 f1 hI hS
      generalize (wy.setCell ⟨go, 0, none⟩ (.slice a2 n2 p2)).setCell ⟨go, 1, none⟩ (.slice a3 n3 p3) = w9 at *
      go_wp2
      go_roundw
      case rel => exact ⟨k + 1, _, _, by omega, by simp, HJ.out⟩
      case measure => simp [intOf]; omega
    · have ht : (ds.zip es).take k = ds.zip es := zip_whole (by rw [← HN.out, ← HM.out]; omega)
      have hI2 := HI.out
      rw [ht] at hI2
      have HE : Hid (Lv wG go (.slice adx nx cpx) (.slice adw nw cpw) ((ofL (ds.zip es)).map (·.1)) ((ofL (ds.zip es)).map (·.2)) wr) := hI2
      have d0 : wr.cell? ⟨go, 0, none⟩ = some (.slice adx nx cpx) := hI2.out.cell 0
      have d1 : wr.cell? ⟨go, 1, none⟩ = some (.slice adw nw cpw) := hI2.out.cell 1
      have hr := HRB.out.below hI2.bel (by have := HSZ.out; omega)
      have r0 : wr.cell? ⟨gr, 0, none⟩ = some (.slice none 0 0) := hr.cell 0
      have r1 : wr.cell? ⟨gr, 1, none⟩ = some (.slice none 0 0) := hr.cell 1
      have q0 : wr.frozen? ⟨gr, 0, none⟩ = false := hr.frozen 0
      have q1 : wr.frozen? ⟨gr, 1, none⟩ = false := hr.frozen 1
      have HRR : Hid (Blk wr gr [nilV, nilV] 47) := hr
      clear ht hI2 hr HI
      by_cases h1 : k < n
      · have hlti : (k : Int) < (n : Int) := by omega
        have hltj : ¬ ((k : Int) < (m : Int)) := by omega
        have hd1 : decide ((k : Int) < (n : Int)) = true := decide_eq_true hlti
        have hd2 : decide ((k : Int) < (m : Int)) = false := decide_eq_false hltj
        clear hlt h1
        go_wp2
        have hB6 : Blk ((wr.setCell ⟨gr, 0, none⟩ (.slice adx nx cpx)).setCell ⟨gr, 1, none⟩ (.slice adw nw cpw)) gr [.slice adx nx cpx, .slice adw nw cpw] 47 := (HRR.out.set 0 _).set 1 _
        refine bodyPost_ret (v := Value.agg #[Value.slice adx nx cpx, Value.slice adw nw cpw]) ?_ rfl ⟨Value.slice adx nx cpx, Value.slice adw nw cpw, rfl, ?_, ?_⟩
        · exact results_cell_row (by rfl) _ _ gr 47 _ (0, 0) _ rfl hB6 Tryd.underlying47 rfl (by kernel_rfl)
        · refine (HE.out.own.keep fun j h1 _ => ?_).mono (by have h1 := HSZ.out; have h2 := HGL.out; omega)
          rw [Below.heap_setCell _ _ _ _ (by show j ≠ gr; have := HSZ.out; omega), Below.heap_setCell _ _ _ _ (by show j ≠ gr; have := HSZ.out; omega)]
        · exact ((HBW.out.trans (HE.out.bel.mono (by have h1 := HSZ.out; have h2 := HGL.out; omega))).setCell (by show w.heap.size ≤ gr; have := HGL.out; omega) _).setCell (by show w.heap.size ≤ gr; have := HGL.out; omega) _
      · have hlti : ¬ ((k : Int) < (n : Int)) := by omega
        have hd1 : decide ((k : Int) < (n : Int)) = false := decide_eq_false hlti
        clear hlt h1
        go_wp2
        have hB6 : Blk ((wr.setCell ⟨gr, 0, none⟩ (.slice adx nx cpx)).setCell ⟨gr, 1, none⟩ (.slice adw nw cpw)) gr [.slice adx nx cpx, .slice adw nw cpw] 47 := (HRR.out.set 0 _).set 1 _
        refine bodyPost_ret (v := Value.agg #[Value.slice adx nx cpx, Value.slice adw nw cpw]) ?_ rfl ⟨Value.slice adx nx cpx, Value.slice adw nw cpw, rfl, ?_, ?_⟩
        · exact results_cell_row (by rfl) _ _ gr 47 _ (0, 0) _ rfl hB6 Tryd.underlying47 rfl (by kernel_rfl)
        · refine (HE.out.own.keep fun j h1 _ => ?_).mono (by have h1 := HSZ.out; have h2 := HGL.out; omega)
          rw [Below.heap_setCell _ _ _ _ (by show j ≠ gr; have := HSZ.out; omega), Below.heap_setCell _ _ _ _ (by show j ≠ gr; have := HSZ.out; omega)]
        · exact ((HBW.out.trans (HE.out.bel.mono (by have h1 := HSZ.out; have h2 := HGL.out; omega))).setCell (by show w.heap.size ≤ gr; have := HGL.out; omega) _).setCell (by show w.heap.size ≤ gr; have := HGL.out; omega) _
end Go.Proofs.YtpeifpoeeopecaaDoor
/- The statement ProofTrees, over proof's functions (layer 8). -/
namespace Go.Proofs.YtpeifpoeeopecaaDoor
open Go.RowKit
set_option maxRecDepth 100000
theorem len60 {ds es : List (List (BitVec 8))} (h : ds.length ≤ 60) : (ofL (ds.zip es)).length ≤ 60 := by
  have h1 := ofL_len (ds.zip es)
  rw [List.length_zip] at h1
  omega
theorem zip_okR {W : World} {vt vu : Value} {ds es : List (List (BitVec 8))} (h1 : ReadsD W vt ds) (h2 : ReadsD W vu es) : okLf (ds.zip es) := fun _ hp => ⟨h1.2 _ (List.of_mem_zip hp).1, h2.2 _ (List.of_mem_zip hp).2⟩
theorem info_leaves : (Tryd.prog.info? 47).map (·.size) = some 2 := by kernel_rfl
theorem wpSeq_loadLv {ops : Array Oper} {Q : Exit → Act → World → Prop} {rest : List Oper} {o : Oper} {a : Act} {w : World} (x : Operand) (g : Nat) (u v : Value) (hb : Blk w g [u, v] 47) (ho : o.op = .load 47 x) (hx : a.eval x = .pointer (some ⟨g, 0, none⟩)) (hw : Region.wanted o (yielded ops a.tmps) = true)
    (h : wpList Tryd.prog ops Q rest (a.put o.dst (.agg #[u, v])) w) : wpList Tryd.prog ops Q (o :: rest) a w :=
  wpSeq_val _ _ hw (load_run 47 x ho g 0 hx [u, v] _ hb.range Tryd.underlying47 rfl info_leaves) h
theorem pend_len8 {l : List Lf} (h : Fits l 0) (x : List (BitVec 8)) : (pend (wayL l x 0).2).2.1.length = 32 ∧ (pend (wayL l x 0).2).2.2.length = 32 := by
  cases hw : (wayL l x 0).2 with
  | none => exact ⟨rfl, rfl⟩
  | some p => exact h.1 p (way_end x h p hw).1
theorem getD_len8 {l : List Lf} (h : Fits l 0) (x : List (BitVec 8)) : ((getL l x).getD zb32).length = 32 := by
  cases hg : getL l x with
  | none => rfl
  | some v => exact (h.1 _ ((getL_mem h.2.1).1 hg)).2
/-- where the statement stands -/
structure Tt (w : World) (vt : Value) (ds : List (List (BitVec 8))) (gA : Nat) (k : List (BitVec 8)) (gL : Nat) (xa xv : Value) (l : List Lf) (gR : Nat) (r : List (BitVec 8)) (W : World) : Prop where
  k0 : KOk w
  r0 : ReadsD w vt ds
  ab : Blk W gA (cb k) 33
  lb : Blk W gL [xa, xv] 47
  rl : ReadsLf W xa xv l
  rb : Blk W gR (cb r) 33
  bel : Below w.heap.size w W
theorem Tt.kk {w : World} {vt : Value} {ds : List (List (BitVec 8))} {gA : Nat} {k : List (BitVec 8)} {gL : Nat} {xa xv : Value} {l : List Lf} {gR : Nat} {r : List (BitVec 8)} {W : World} (h : Tt w vt ds gA k gL xa xv l gR r W) : KOk W := h.k0.below h.bel h.k0.lt
theorem Tt.rd {w : World} {vt : Value} {ds : List (List (BitVec 8))} {gA : Nat} {k : List (BitVec 8)} {gL : Nat} {xa xv : Value} {l : List Lf} {gR : Nat} {r : List (BitVec 8)} {W : World} (h : Tt w vt ds gA k gL xa xv l gR r W) : ReadsD W vt ds := h.r0.below h.bel
theorem Tt.next {w : World} {vt : Value} {ds : List (List (BitVec 8))} {gA : Nat} {k : List (BitVec 8)} {gL : Nat} {xa xv : Value} {l : List Lf} {gR : Nat} {r : List (BitVec 8)} {W W' : World} (h : Tt w vt ds gA k gL xa xv l gR r W) (hb : Below W.heap.size W W') : Tt w vt ds gA k gL xa xv l gR r W' :=
  ⟨h.k0, h.r0, h.ab.below hb h.ab.lt, h.lb.below hb h.lb.lt, h.rl.below hb, h.rb.below hb h.rb.lt, h.bel.trans (hb.mono h.bel.size)⟩
end Go.Proofs.YtpeifpoeeopecaaDoor

/- Texts that the proof leans on, one behind the other: A proof in memory; the walk of the reference's SameProof (as in layer 5). The walk of the reference's Prove. The walk of the reference's Put. .. -/
import Derived.Test.YtphacinnnepdoaaDoorMgb
/- A proof in memory; the walk of the reference's SameProof (as in layer 5). -/
namespace Go.Proofs.YtphacinnnepdoaaDoor
open Go.RowKit
set_option maxRecDepth 100000
def prfV (vs : Value) (en : Int) (ix va : List (BitVec 8)) : List Value := vs :: .int .i64 en :: (cb ix ++ cb va)
theorem Blk.mid {w : World} {g off : Nat} {A B B2 C : List Value} {t : TypeId} (h : Blk w g (A ++ (B ++ C)) t) (hl : B2.length = B.length) (ho : A.length = off) : Blk (w.setCells g off B2) g (A ++ (B2 ++ C)) t := by
  subst ho
  have h2 := setCells_eq g B2 A.length w _ t h (by simp only [List.length_append]; omega)
  have e : (A ++ (B ++ C)).take A.length ++ B2 ++ (A ++ (B ++ C)).drop (A.length + B2.length) = A ++ (B2 ++ C) := by
    rw [List.take_left, ← List.drop_drop, List.drop_left, hl, List.drop_left, List.append_assoc]
  rwa [e] at h2
theorem prfV_ix {vs : Value} {en : Int} {x y x2 : List (BitVec 8)} {w : World} {g : Nat} {t : TypeId} (h : Blk w g (prfV vs en x y) t) (hx : x.length = 32) (h2 : x2.length = 32) : Blk (w.setCells g 2 (cb x2)) g (prfV vs en x2 y) t :=
  Blk.mid (A := [vs, .int .i64 en]) (B := cb x) (C := cb y) h (by rw [cb_len, cb_len, hx, h2]) rfl
theorem prfV_va {vs : Value} {en : Int} {x y y2 : List (BitVec 8)} {w : World} {g : Nat} {t : TypeId} (h : Blk w g (prfV vs en x y) t) (hx : x.length = 32) (hy : y.length = 32) (h2 : y2.length = 32) : Blk (w.setCells g 34 (cb y2)) g (prfV vs en x y2) t := by
  have e : ∀ u, prfV vs en x u = (vs :: .int .i64 en :: cb x) ++ (cb u ++ []) := fun u => by simp only [prfV, List.cons_append, List.append_nil]
  rw [e] at h ⊢
  exact h.mid (by rw [cb_len, cb_len, hy, h2]) (by rw [List.length_cons, List.length_cons, cb_len, hx])
theorem prfV_len {vs : Value} {en : Int} {x y : List (BitVec 8)} (hx : x.length = 32) (hy : y.length = 32) : (prfV vs en x y).length = 66 := by simp only [prfV, List.length_cons, List.length_append, cb_len, hx, hy]
theorem Blk.rangeMid {w : World} {g off : Nat} {A B C : List Value} {t : TypeId} (h : Blk w g (A ++ (B ++ C)) t) (ho : A.length = off) : w.rangeAt g off B := by
  subst ho
  intro j v hj
  have hlt : j < B.length := (List.getElem?_eq_some_iff.1 hj).1
  rw [h.cell, List.getElem?_append_right (by omega), Nat.add_sub_cancel_left, List.getElem?_append_left hlt, hj]
theorem prfV_rix {vs : Value} {en : Int} {x y : List (BitVec 8)} {w : World} {g : Nat} {t : TypeId} (h : Blk w g (prfV vs en x y) t) : w.rangeAt g 2 (cb x) :=
  Blk.rangeMid (A := [vs, .int .i64 en]) (B := cb x) (C := cb y) h rfl
theorem prfV_rva {vs : Value} {en : Int} {x y : List (BitVec 8)} {w : World} {g : Nat} {t : TypeId} (h : Blk w g (prfV vs en x y) t) (hx : x.length = 32) : w.rangeAt g 34 (cb y) := by
  have e : prfV vs en x y = (vs :: .int .i64 en :: cb x) ++ (cb y ++ []) := by simp only [prfV, List.cons_append, List.append_nil]
  rw [e] at h
  exact h.rangeMid (by rw [List.length_cons, List.length_cons, cb_len, hx])
theorem infoD (d : List (BitVec 8)) (h : d.length = 32) : (Tryd.prog.info? 24).map (·.size) = some (cb d).length := by rw [cb_len, h]; exact info_digest
theorem wpSeq_box {ops : Array Oper} {Q : Exit → Act → World → Prop} {rest : List Oper} {o : Oper} {a : Act} {w : World} (ty : TypeId) (x : Operand) (ho : o.op = .box ty x) (cs : List Value) (hx : a.eval x = .agg cs.toArray) (hw : Region.wanted o (yielded ops a.tmps) = true) (w0 : World) (h0 : w0 = w.alloc (.cells cs.toArray ty))
    (h : wpList Tryd.prog ops Q rest (a.put o.dst (.pointer (some ⟨w.heap.size, 0, none⟩))) w0) : wpList Tryd.prog ops Q (o :: rest) a w := by
  refine wpSeq_val _ w0 hw ?_ h
  subst h0
  unfold execOp
  rw [ho]
  simp only [hx]
  rfl
theorem wpSeq_boxAt {ops : Array Oper} {Q : Exit → Act → World → Prop} {rest : List Oper} {o : Oper} {a : Act} {w : World} (ty : TypeId) (x : Operand) (ho : o.op = .box ty x) (cs : List Value) (hx : a.eval x = .agg cs.toArray) (hw : Region.wanted o (yielded ops a.tmps) = true) (w0 : World) (h0 : w0 = w.alloc (.cells cs.toArray ty)) {n : Nat} (hn : w.heap.size = n)
    (h : wpList Tryd.prog ops Q rest (a.put o.dst (.pointer (some ⟨n, 0, none⟩))) w0) : wpList Tryd.prog ops Q (o :: rest) a w := by
  subst hn
  exact wpSeq_box ty x ho cs hx hw w0 h0 h
theorem wpSeq_loadR {ops : Array Oper} {Q : Exit → Act → World → Prop} {rest : List Oper} {o : Oper} {a : Act} {w : World} (x : Operand) (ho : o.op = .load 24 x) (hw : Region.wanted o (yielded ops a.tmps) = true) (b of : Nat) (hx : a.eval x = .pointer (some ⟨b, of, none⟩)) (cs : List Value) (hc : w.rangeAt b of cs) (hi : (Tryd.prog.info? 24).map (·.size) = some cs.length)
    (h : wpList Tryd.prog ops Q rest (a.put o.dst (.agg cs.toArray)) w) : wpList Tryd.prog ops Q (o :: rest) a w :=
  wpSeq_val _ _ hw (load_run 24 x ho b of hx cs _ hc Tryd.underlying24 rfl hi) h
theorem takeD_same {a b : List (List (BitVec 8))} {k : Nat} (h : a.take k = b.take k) (ha : k < a.length) (hb : k < b.length) (he : a.getD k [] = b.getD k []) : a.take (k + 1) = b.take (k + 1) := by
  rw [List.take_add_one, List.take_add_one, h, List.getElem?_eq_getElem ha, List.getElem?_eq_getElem hb]
  rw [List.getD_eq_getElem?_getD, List.getD_eq_getElem?_getD, List.getElem?_eq_getElem ha, List.getElem?_eq_getElem hb] at he
  simp only [Option.getD_some] at he
  rw [he]
set_option maxRecDepth 100000 in
set_option maxHeartbeats 2000000 in
theorem samePrf_any (da db : List (List (BitVec 8))) (ea eb : Int) (xa ya xb yb : List (BitVec 8)) (va vb : Value) (w : World) (ha : xa.length = 32 ∧ ya.length = 32) (hb : xb.length = 32 ∧ yb.length = 32) (hra : ReadsD w va da) (hrb : ReadsD w vb db) (hdl : da.length < 1000000000) :
    Calls Tryd.prog 18 #[.agg (prfV va ea xa ya).toArray, .agg (prfV vb eb xb yb).toArray] w fun e w' => e = .returned (.bool (decide (da = db ∧ ea = eb ∧ xa = xb ∧ ya = yb))) ∧ Below w.heap.size w w' := by
  have HRA : Hid (ReadsD w va da) := hra
  have HRB : Hid (ReadsD w vb db) := hrb
  have HLA : Hid (xa.length = 32 ∧ ya.length = 32) := ha
  have HLB : Hid (xb.length = 32 ∧ yb.length = 32) := hb
  have HDL : Hid (da.length < 1000000000) := hdl
  obtain ⟨⟨ada, cpa, hva, q1, q2, q3⟩, q7⟩ := hra
  obtain ⟨⟨adb, cpb, hvb, q4, q5, q6⟩, q8⟩ := hrb
  clear q1 q2 q3 q4 q5 q6 q7 q8 ha hb hdl
  obtain ⟨na, HNA⟩ : ∃ m, Hid (m = da.length) := ⟨_, rfl⟩
  obtain ⟨nb, HNB⟩ : ∃ m, Hid (m = db.length) := ⟨_, rfl⟩
  rw [← HNA.out] at hva
  rw [← HNB.out] at hvb
  subst hva hvb
  obtain ⟨o, HO⟩ : ∃ o, Hid (o = decide (da = db ∧ ea = eb ∧ xa = xb ∧ ya = yb)) := ⟨_, rfl⟩
  rw [← HO.out]
  obtain ⟨ca, HCA⟩ : ∃ c, Hid (c = prfV (.slice ada na cpa) ea xa ya) := ⟨_, rfl⟩
  obtain ⟨cb2, HCB⟩ : ∃ c, Hid (c = prfV (.slice adb nb cpb) eb xb yb) := ⟨_, rfl⟩
  rw [← HCA.out, ← HCB.out]
  obtain ⟨w0, HW0⟩ : ∃ x, Hid (x = w.alloc (.cells ca.toArray 41)) := ⟨_, rfl⟩
  obtain ⟨w1, HW1⟩ : ∃ x, Hid (x = w0.alloc (.cells cb2.toArray 41)) := ⟨_, rfl⟩
  have HZ0 : Hid (w0.heap.size = w.heap.size + 1) := by show _ = _; rw [HW0.out]; simp
  have hB : Below w.heap.size w w1 := by rw [HW1.out, HW0.out]; exact (below_alloc _ _).trans ((below_alloc _ _).mono (by simp))
  have HB : Hid (Below w.heap.size w w1) := hB
  have hBA : Blk w1 w.heap.size (prfV (.slice ada na cpa) ea xa ya) 41 := by rw [HW1.out, HW0.out, ← HCA.out]; exact (Blk.new _ _ _).alloc _
  have hBB : Blk w1 (w.heap.size + 1) (prfV (.slice adb nb cpb) eb xb yb) 41 := by rw [HW1.out, ← HCB.out]; exact Blk.new_at HZ0.out _ _
  have HDA : Hid (ReadsD w1 (.slice ada na cpa) da) := HRA.out.below HB.out
  have HDB : Hid (ReadsD w1 (.slice adb nb cpb) db) := HRB.out.below HB.out
  have c0 : w1.cell? ⟨w.heap.size, 0, none⟩ = some (.slice ada na cpa) := hBA.cell 0
  have c1 : w1.cell? ⟨w.heap.size, 1, none⟩ = some (.int .i64 ea) := hBA.cell 1
  have d0 : w1.cell? ⟨w.heap.size + 1, 0, none⟩ = some (.slice adb nb cpb) := hBB.cell 0
  have d1 : w1.cell? ⟨w.heap.size + 1, 1, none⟩ = some (.int .i64 eb) := hBB.cell 1
  obtain ⟨xs, HXS⟩ : ∃ c, Hid (c = cb xa) := ⟨_, rfl⟩
  obtain ⟨ys, HYS⟩ : ∃ c, Hid (c = cb xb) := ⟨_, rfl⟩
  obtain ⟨us, HUS⟩ : ∃ c, Hid (c = cb ya) := ⟨_, rfl⟩
  obtain ⟨zs, HZS⟩ : ∃ c, Hid (c = cb yb) := ⟨_, rfl⟩
  have HRX : Hid (w1.rangeAt w.heap.size 2 xs) := by rw [HXS.out]; exact prfV_rix hBA
  have HRY : Hid (w1.rangeAt (w.heap.size + 1) 2 ys) := by rw [HYS.out]; exact prfV_rix hBB
  have HRU : Hid (w1.rangeAt w.heap.size 34 us) := by rw [HUS.out]; exact prfV_rva hBA HLA.out.1
  have HRZ : Hid (w1.rangeAt (w.heap.size + 1) 34 zs) := by rw [HZS.out]; exact prfV_rva hBB HLB.out.1
  have HIX : Hid ((Tryd.prog.info? 24).map (·.size) = some xs.length) := by show _ = _; rw [HXS.out]; exact infoD xa HLA.out.1
  have HIY : Hid ((Tryd.prog.info? 24).map (·.size) = some ys.length) := by show _ = _; rw [HYS.out]; exact infoD xb HLB.out.1
  have HIU : Hid ((Tryd.prog.info? 24).map (·.size) = some us.length) := by show _ = _; rw [HUS.out]; exact infoD ya HLA.out.2
  have HIZ : Hid ((Tryd.prog.info? 24).map (·.size) = some zs.length) := by show _ = _; rw [HZS.out]; exact infoD yb HLB.out.2
  have hx : ∀ wx : World, (Op.equalIn 10000 24 (.agg xs.toArray) (.agg ys.toArray)).run Tryd.prog wx = .ok (decide (xa = xb)) wx := fun wx => by rw [HXS.out, HYS.out]; exact eq_dig xa xb HLA.out.1 HLB.out.1 wx
  have hy : ∀ wx : World, (Op.equalIn 10000 24 (.agg us.toArray) (.agg zs.toArray)).run Tryd.prog wx = .ok (decide (ya = yb)) wx := fun wx => by rw [HUS.out, HZS.out]; exact eq_dig ya yb HLA.out.2 HLB.out.2 wx
  clear hB hBA hBB
  by_cases h1 : na = nb
  · have e1 : ((na : Int) != (nb : Int)) = false := by simp [h1]
    by_cases h2 : ea = eb
    · have e2 : (ea != eb) = false := by simp [h2]
      by_cases h3 : xa = xb
      · rw [decide_eq_true h3] at hx
        by_cases h4 : ya = yb
        · rw [decide_eq_true h4] at hy
          have HO2 : Hid (o = decide (da = db)) := by show o = _; rw [HO.out]; simp [h2, h3, h4]
          subst h1
          clear HO h3 h4
          go_enter Tryd.func18, Tryd.ntmps18
          go_wp2_with (first
            | (with_reducible refine wpSeq_box 41 (.tmp 0) ?_ ca ?_ ?_ w0 ?_ ?_
               · rfl
               · rfl
               · rfl
               · exact HW0.out
               clear HW0)
            | (with_reducible refine wpSeq_boxAt 41 (.tmp 1) ?_ cb2 ?_ ?_ w1 ?_ HZ0.out ?_
               · rfl
               · rfl
               · rfl
               · exact HW1.out
               clear HW1)
            | (with_reducible refine wpSeq_loadR (.tmp 21) ?_ ?_ w.heap.size 2 ?_ xs HRX.out HIX.out ?_
               · rfl
               · rfl
               · rfl)
            | (with_reducible refine wpSeq_loadR (.tmp 23) ?_ ?_ (w.heap.size + 1) 2 ?_ ys HRY.out HIY.out ?_
               · rfl
               · rfl
               · rfl)
            | (with_reducible refine wpSeq_loadR (.tmp 28) ?_ ?_ w.heap.size 34 ?_ us HRU.out HIU.out ?_
               · rfl
               · rfl
               · rfl)
            | (with_reducible refine wpSeq_loadR (.tmp 30) ?_ ?_ (w.heap.size + 1) 34 ?_ zs HRZ.out HIZ.out ?_
               · rfl
               · rfl
               · rfl))
          go_loopw [5] (fun i wr => ∃ k q : Nat, k ≤ na ∧ i = .int .i64 (k : Int) ∧ da.take k = db.take k ∧ wr = w1.drewN q) (fun i _ => na - (intOf i).toNat)
          case atStart => exact ⟨0, 0, by omega, rfl, rfl, rfl⟩
          case round =>
            obtain ⟨k, q, hk, rfl, heq, hwr⟩ := hrel
            have cA : wr.cell? ⟨w.heap.size, 0, none⟩ = some (.slice ada na cpa) := by rw [hwr]; exact c0
            have cB : wr.cell? ⟨w.heap.size + 1, 0, none⟩ = some (.slice adb na cpb) := by rw [hwr]; exact d0
            have HWR : Hid (wr = w1.drewN q) := hwr
            have HEQ : Hid (da.take k = db.take k) := heq
            have hnb : na < 1000000000 := by rw [HNA.out]; exact HDL.out
            clear hwr heq
            by_cases hlt : k < na
            · have hlti : (k : Int) < (na : Int) := by omega
              obtain ⟨⟨ad1, cap1, hv1, _, _, hx1⟩, h32a⟩ := HDA.out
              rw [← HNA.out] at hv1 hx1
              simp only [Value.slice.injEq, true_and] at hv1
              obtain ⟨rfl, rfl⟩ := hv1
              obtain ⟨b1, off1, rfl, hy1⟩ := hx1 (by omega)
              obtain ⟨⟨ad2, cap2, hv2, _, _, hx2⟩, h32b⟩ := HDB.out
              rw [← HNB.out] at hv2 hx2
              simp only [Value.slice.injEq, true_and] at hv2
              obtain ⟨rfl, rfl⟩ := hv2
              obtain ⟨b2, off2, rfl, hy2⟩ := hx2 (by omega)
              obtain ⟨d, HD⟩ : ∃ d, Hid (d = da.getD k []) := ⟨_, rfl⟩
              obtain ⟨e, HE⟩ : ∃ d, Hid (d = db.getD k []) := ⟨_, rfl⟩
              have HD32 : Hid (d.length = 32) := by show _ = _; rw [HD.out]; exact getD_mem32 h32a (by rw [← HNA.out]; exact hlt)
              have HE32 : Hid (e.length = 32) := by show _ = _; rw [HE.out]; exact getD_mem32 h32b (by rw [← HNB.out]; exact hlt)
              have HR1 : Hid (wr.drew.rangeAt b1 (off1 + k * 32) (cb d)) := by have := hy1 k hlt; rw [← HD.out] at this; show World.rangeAt _ _ _ _; rw [HWR.out]; exact this
              have HR2 : Hid (wr.drew.rangeAt b2 (off2 + k * 32) (cb e)) := by have := hy2 k hlt; rw [← HE.out] at this; show World.rangeAt _ _ _ _; rw [HWR.out]; exact this
              have cA2 : wr.drew.cell? ⟨w.heap.size, 0, none⟩ = some (.slice (some ⟨b1, off1, none⟩) na cpa) := cA
              have cB2 : wr.drew.cell? ⟨w.heap.size + 1, 0, none⟩ = some (.slice (some ⟨b2, off2, none⟩) na cpb) := cB
              have HQ : Hid (∀ wx : World, (Op.equalIn 10000 24 (.agg (cb d).toArray) (.agg (cb e).toArray)).run Tryd.prog wx = .ok (decide (d = e)) wx) := fun wx => eq_dig d e HD32.out HE32.out wx
              clear hx1 hx2 hy1 hy2 h32a h32b
              go_wp2_with fail
              refine wp_region_held_drew (S := fun wx => wx = wr.drew) (by kernel_rfl) rfl ?_
              intro hS
              refine wpAnyH_take (i := 0) (v := .pointer (some ⟨w.heap.size, 0, none⟩)) rfl (by kernel_rfl) (by kernel_rfl) (by kernel_rfl) (fun _ _ _ h => h) (Or.inl ⟨by rfl, fun wx hxx => by subst hxx; simp [go_sem]⟩) hS ?_
              simp only [Act.put, List.getElem_toArray, List.getElem_cons_zero, List.setIfInBounds_toArray, List.set_cons_zero, List.set_cons_succ]
              refine wpAnyH_take (i := 1) (v := .slice (some ⟨b1, off1, none⟩) na cpa) rfl (by kernel_rfl) (by kernel_rfl) (by kernel_rfl) (fun _ _ _ h => h) (Or.inl ⟨by rfl, fun wx hxx => by subst hxx; simp [go_sem, cA2]⟩) hS ?_
              simp only [Act.put, List.getElem_toArray, List.getElem_cons_succ, List.getElem_cons_zero, List.setIfInBounds_toArray, List.set_cons_zero, List.set_cons_succ]
              refine wpAnyH_take (i := 2) (v := .int .i64 (k : Int)) rfl (by kernel_rfl) (by kernel_rfl) (by kernel_rfl) (fun _ _ _ h => h) (Or.inl ⟨by rfl, fun wx hxx => by subst hxx; simp [go_sem]⟩) hS ?_
              simp only [Act.put, List.getElem_toArray, List.getElem_cons_succ, List.getElem_cons_zero, List.setIfInBounds_toArray, List.set_cons_zero, List.set_cons_succ]
              refine wpAnyH_take (i := 3) (v := .pointer (some ⟨b1, off1 + k * 32, none⟩)) rfl (by kernel_rfl) (by kernel_rfl) (by kernel_rfl) (fun _ _ _ h => h) (Or.inl ⟨by rfl, fun wx hxx => by subst hxx; simp [go_sem, hlti]⟩) hS ?_
              simp only [Act.put, List.getElem_toArray, List.getElem_cons_succ, List.getElem_cons_zero, List.setIfInBounds_toArray, List.set_cons_zero, List.set_cons_succ]
              refine wpAnyH_take (i := 4) (v := .agg (cb d).toArray) rfl (by kernel_rfl) (by kernel_rfl) (by kernel_rfl) (fun _ _ _ h => h) (Or.inl ⟨by rfl, fun wx hxx => by subst hxx; exact load_run 24 _ rfl b1 (off1 + k * 32) rfl (cb d) _ HR1.out Tryd.underlying24 rfl (infoD d HD32.out)⟩) hS ?_
              simp only [Act.put, List.getElem_toArray, List.getElem_cons_succ, List.getElem_cons_zero, List.setIfInBounds_toArray, List.set_cons_zero, List.set_cons_succ]
              refine wpAnyH_take (i := 5) (v := .pointer (some ⟨w.heap.size + 1, 0, none⟩)) rfl (by kernel_rfl) (by kernel_rfl) (by kernel_rfl) (fun _ _ _ h => h) (Or.inl ⟨by rfl, fun wx hxx => by subst hxx; simp [go_sem]⟩) hS ?_
              simp only [Act.put, List.getElem_toArray, List.getElem_cons_succ, List.getElem_cons_zero, List.setIfInBounds_toArray, List.set_cons_zero, List.set_cons_succ]
              refine wpAnyH_take (i := 6) (v := .slice (some ⟨b2, off2, none⟩) na cpb) rfl (by kernel_rfl) (by kernel_rfl) (by kernel_rfl) (fun _ _ _ h => h) (Or.inl ⟨by rfl, fun wx hxx => by subst hxx; simp [go_sem, cB2]⟩) hS ?_
              simp only [Act.put, List.getElem_toArray, List.getElem_cons_succ, List.getElem_cons_zero, List.setIfInBounds_toArray, List.set_cons_zero, List.set_cons_succ]
              refine wpAnyH_take (i := 7) (v := .int .i64 (k : Int)) rfl (by kernel_rfl) (by kernel_rfl) (by kernel_rfl) (fun _ _ _ h => h) (Or.inl ⟨by rfl, fun wx hxx => by subst hxx; simp [go_sem]⟩) hS ?_
              simp only [Act.put, List.getElem_toArray, List.getElem_cons_succ, List.getElem_cons_zero, List.setIfInBounds_toArray, List.set_cons_zero, List.set_cons_succ]
              refine wpAnyH_take (i := 8) (v := .pointer (some ⟨b2, off2 + k * 32, none⟩)) rfl (by kernel_rfl) (by kernel_rfl) (by kernel_rfl) (fun _ _ _ h => h) (Or.inl ⟨by rfl, fun wx hxx => by subst hxx; simp [go_sem, hlti]⟩) hS ?_
              simp only [Act.put, List.getElem_toArray, List.getElem_cons_succ, List.getElem_cons_zero, List.setIfInBounds_toArray, List.set_cons_zero, List.set_cons_succ]
              refine wpAnyH_take (i := 9) (v := .agg (cb e).toArray) rfl (by kernel_rfl) (by kernel_rfl) (by kernel_rfl) (fun _ _ _ h => h) (Or.inl ⟨by rfl, fun wx hxx => by subst hxx; exact load_run 24 _ rfl b2 (off2 + k * 32) rfl (cb e) _ HR2.out Tryd.underlying24 rfl (infoD e HE32.out)⟩) hS ?_
              simp only [Act.put, List.getElem_toArray, List.getElem_cons_succ, List.getElem_cons_zero, List.setIfInBounds_toArray, List.set_cons_zero, List.set_cons_succ]
              refine wpAnyH_take (i := 10) (v := .bool (!decide (d = e))) rfl (by kernel_rfl) (by kernel_rfl) (by kernel_rfl) (fun _ _ _ h => h) (Or.inl ⟨by rfl, fun wx hxx => by subst hxx; simp [go_sem, HQ.out]⟩) hS ?_
              simp only [Act.put, List.getElem_toArray, List.getElem_cons_succ, List.getElem_cons_zero, List.setIfInBounds_toArray, List.set_cons_zero, List.set_cons_succ]
              refine wpAnyH_done (by kernel_rfl) ?_ _
              by_cases hde : d = e
              · rw [decide_eq_true hde]
                have HT : Hid (da.take (k + 1) = db.take (k + 1)) := takeD_same HEQ.out (by rw [← HNA.out]; exact hlt) (by rw [← HNB.out]; exact hlt) (by rw [← HD.out, ← HE.out]; exact hde)
                have HW2 : Hid (wr.drew = w1.drewN (q + 1)) := by show _ = _; rw [HWR.out]; rfl
                clear hde HR1 HR2 HQ
                go_wp2
                go_roundw
                case rel => exact ⟨k + 1, q + 1, by omega, by go_num, HT.out, HW2.out⟩
                case measure => simp [intOf]; omega
              · rw [decide_eq_false hde]
                have ho : o = false := by
                  rw [HO2.out]
                  exact decide_eq_false (fun hh => hde (by rw [HD.out, HE.out, hh]))
                subst ho
                have HF : Hid (Below w.heap.size w wr.drew) := by rw [HWR.out]; exact (below_drewN HB.out q).drew
                clear hde HR1 HR2 HQ
                go_wp2
                go_ret
                exact ⟨rfl, HF.out⟩
            · have hkn : k = na := by omega
              subst hkn
              have ho : o = true := by
                rw [HO2.out]
                have h9 := HEQ.out
                rw [List.take_of_length_le (by rw [← HNA.out]; exact Nat.le_refl _), List.take_of_length_le (by rw [← HNB.out]; exact Nat.le_refl _)] at h9
                exact decide_eq_true h9
              subst ho
              have HF : Hid (Below w.heap.size w wr) := by rw [HWR.out]; exact below_drewN HB.out q
              go_wp2
              go_ret
              exact ⟨rfl, HF.out⟩
        · rw [decide_eq_false h4] at hy
          have ho : o = false := by rw [HO.out]; first | exact decide_eq_true ⟨by assumption, by assumption, by assumption, by assumption⟩ | exact decide_eq_true ⟨by assumption, by assumption⟩ | exact decide_eq_false (fun hh => by simp_all)
          subst ho
          clear HO
          go_enter Tryd.func18, Tryd.ntmps18
          go_wp2_with (first
            | (with_reducible refine wpSeq_box 41 (.tmp 0) ?_ ca ?_ ?_ w0 ?_ ?_
               · rfl
               · rfl
               · rfl
               · exact HW0.out
               clear HW0)
            | (with_reducible refine wpSeq_boxAt 41 (.tmp 1) ?_ cb2 ?_ ?_ w1 ?_ HZ0.out ?_
               · rfl
               · rfl
               · rfl
               · exact HW1.out
               clear HW1)
            | (with_reducible refine wpSeq_loadR (.tmp 21) ?_ ?_ w.heap.size 2 ?_ xs HRX.out HIX.out ?_
               · rfl
               · rfl
               · rfl)
            | (with_reducible refine wpSeq_loadR (.tmp 23) ?_ ?_ (w.heap.size + 1) 2 ?_ ys HRY.out HIY.out ?_
               · rfl
               · rfl
               · rfl)
            | (with_reducible refine wpSeq_loadR (.tmp 28) ?_ ?_ w.heap.size 34 ?_ us HRU.out HIU.out ?_
               · rfl
               · rfl
               · rfl)
            | (with_reducible refine wpSeq_loadR (.tmp 30) ?_ ?_ (w.heap.size + 1) 34 ?_ zs HRZ.out HIZ.out ?_
               · rfl
               · rfl
               · rfl))
          go_ret
          exact ⟨by first | rfl | simp, HB.out⟩
      · rw [decide_eq_false h3] at hx
        have ho : o = false := by rw [HO.out]; first | exact decide_eq_true ⟨by assumption, by assumption, by assumption, by assumption⟩ | exact decide_eq_true ⟨by assumption, by assumption⟩ | exact decide_eq_false (fun hh => by simp_all)
        subst ho
        clear HO
        go_enter Tryd.func18, Tryd.ntmps18
        go_wp2_with (first
          | (with_reducible refine wpSeq_box 41 (.tmp 0) ?_ ca ?_ ?_ w0 ?_ ?_
             · rfl
             · rfl
             · rfl
             · exact HW0.out
             clear HW0)
          | (with_reducible refine wpSeq_boxAt 41 (.tmp 1) ?_ cb2 ?_ ?_ w1 ?_ HZ0.out ?_
             · rfl
             · rfl
             · rfl
             · exact HW1.out
             clear HW1)
          | (with_reducible refine wpSeq_loadR (.tmp 21) ?_ ?_ w.heap.size 2 ?_ xs HRX.out HIX.out ?_
             · rfl
             · rfl
             · rfl)
          | (with_reducible refine wpSeq_loadR (.tmp 23) ?_ ?_ (w.heap.size + 1) 2 ?_ ys HRY.out HIY.out ?_
             · rfl
             · rfl
             · rfl)
          | (with_reducible refine wpSeq_loadR (.tmp 28) ?_ ?_ w.heap.size 34 ?_ us HRU.out HIU.out ?_
             · rfl
             · rfl
             · rfl)
          | (with_reducible refine wpSeq_loadR (.tmp 30) ?_ ?_ (w.heap.size + 1) 34 ?_ zs HRZ.out HIZ.out ?_
             · rfl
             · rfl
             · rfl))
        go_ret
        exact ⟨by first | rfl | simp, HB.out⟩
    · have e2 : (ea != eb) = true := by simp [h2]
      have ho : o = false := by rw [HO.out]; first | exact decide_eq_true ⟨by assumption, by assumption, by assumption, by assumption⟩ | exact decide_eq_true ⟨by assumption, by assumption⟩ | exact decide_eq_false (fun hh => by simp_all)
      subst ho
      clear HO
      go_enter Tryd.func18, Tryd.ntmps18
      go_wp2_with (first
        | (with_reducible refine wpSeq_box 41 (.tmp 0) ?_ ca ?_ ?_ w0 ?_ ?_
           · rfl
           · rfl
           · rfl
           · exact HW0.out
           clear HW0)
        | (with_reducible refine wpSeq_boxAt 41 (.tmp 1) ?_ cb2 ?_ ?_ w1 ?_ HZ0.out ?_
           · rfl
           · rfl
           · rfl
           · exact HW1.out
           clear HW1)
        | (with_reducible refine wpSeq_loadR (.tmp 21) ?_ ?_ w.heap.size 2 ?_ xs HRX.out HIX.out ?_
           · rfl
           · rfl
           · rfl)
        | (with_reducible refine wpSeq_loadR (.tmp 23) ?_ ?_ (w.heap.size + 1) 2 ?_ ys HRY.out HIY.out ?_
           · rfl
           · rfl
           · rfl)
        | (with_reducible refine wpSeq_loadR (.tmp 28) ?_ ?_ w.heap.size 34 ?_ us HRU.out HIU.out ?_
           · rfl
           · rfl
           · rfl)
        | (with_reducible refine wpSeq_loadR (.tmp 30) ?_ ?_ (w.heap.size + 1) 34 ?_ zs HRZ.out HIZ.out ?_
           · rfl
           · rfl
           · rfl))
      go_ret
      exact ⟨by first | rfl | simp, HB.out⟩
  · have e1 : ((na : Int) != (nb : Int)) = true := by simp; omega
    have hdd : ¬ (da = db) := fun hh => h1 (by rw [HNA.out, HNB.out, hh])
    have ho : o = false := by rw [HO.out]; first | exact decide_eq_true ⟨by assumption, by assumption, by assumption, by assumption⟩ | exact decide_eq_true ⟨by assumption, by assumption⟩ | exact decide_eq_false (fun hh => by simp_all)
    subst ho
    clear HO
    go_enter Tryd.func18, Tryd.ntmps18
    go_wp2_with (first
      | (with_reducible refine wpSeq_box 41 (.tmp 0) ?_ ca ?_ ?_ w0 ?_ ?_
         · rfl
         · rfl
         · rfl
         · exact HW0.out
         clear HW0)
      | (with_reducible refine wpSeq_boxAt 41 (.tmp 1) ?_ cb2 ?_ ?_ w1 ?_ HZ0.out ?_
         · rfl
         · rfl
         · rfl
         · exact HW1.out
         clear HW1)
      | (with_reducible refine wpSeq_loadR (.tmp 21) ?_ ?_ w.heap.size 2 ?_ xs HRX.out HIX.out ?_
         · rfl
         · rfl
         · rfl)
      | (with_reducible refine wpSeq_loadR (.tmp 23) ?_ ?_ (w.heap.size + 1) 2 ?_ ys HRY.out HIY.out ?_
         · rfl
         · rfl
         · rfl)
      | (with_reducible refine wpSeq_loadR (.tmp 28) ?_ ?_ w.heap.size 34 ?_ us HRU.out HIU.out ?_
         · rfl
         · rfl
         · rfl)
      | (with_reducible refine wpSeq_loadR (.tmp 30) ?_ ?_ (w.heap.size + 1) 34 ?_ zs HRZ.out HIZ.out ?_
         · rfl
         · rfl
         · rfl))
    go_ret
    exact ⟨by first | rfl | simp, HB.out⟩
end Go.Proofs.YtphacinnnepdoaaDoor
/- The walk of the reference's Prove. -/
namespace Go.Proofs.YtphacinnnepdoaaDoor
open Go.RowKit
set_option maxRecDepth 100000
theorem ReadsD.same {W W' : World} {v : Value} {ds : List (List (BitVec 8))} (h : ReadsD W v ds) (hs : 0 < ds.length → ∀ j, v.ownBlock = some j → W'.heap[j]? = W.heap[j]?) : ReadsD W' v ds := by
  obtain ⟨⟨ad, cap, rfl, hc, hn, hx⟩, h32⟩ := h
  refine ⟨⟨ad, cap, rfl, hc, hn, fun hp => ?_⟩, h32⟩
  obtain ⟨b, off, rfl, hy⟩ := hx hp
  refine ⟨b, off, rfl, fun j hj => ?_⟩
  intro i u hi
  rw [World.cell?_of_block (w := W) (hs hp b rfl)]
  exact hy j hj i u hi
theorem ReadsD.inB {W : World} {v : Value} {ds : List (List (BitVec 8))} (h : ReadsD W v ds) (hp : 0 < ds.length) : ∀ j, v.ownBlock = some j → j < W.heap.size := by
  intro j hj
  obtain ⟨⟨ad, cap, rfl, hc, hn, hx⟩, h32⟩ := h
  obtain ⟨b, off, rfl, hy⟩ := hx hp
  simp only [Value.ownBlock, Option.some.injEq] at hj
  subst hj
  exact rangeAt_lt (hy 0 hp) (getD_mem32 h32 hp)
/-- where Prove stands -/
structure Pv (w : World) (gl : Nat) (x : List (BitVec 8)) (xa xv vs : Value) (l : List Lf) (sd : List (List (BitVec 8))) (W : World) : Prop where
  lb : Blk W gl [xa, xv] 30
  xb : Blk W (gl + 1) (cb x) 24
  rb : Blk W (gl + 2) (prfV nilV 0 zb32 zb32) 41
  pb : Blk W (gl + 3) (prfV vs 0 zb32 zb32) 41
  os : OwnD W (gl + 4) vs sd
  rl : ReadsLf W xa xv l
  na : 0 < l.length → ∀ j, xa.ownBlock = some j → (j < gl ∨ gl + 4 ≤ j) ∧ vs.ownBlock ≠ some j
  nv : 0 < l.length → ∀ j, xv.ownBlock = some j → (j < gl ∨ gl + 4 ≤ j) ∧ vs.ownBlock ≠ some j
  bel : Below gl w W
theorem Pv.next {w W W' : World} {gl : Nat} {x : List (BitVec 8)} {xa xv vs : Value} {l : List Lf} {sd : List (List (BitVec 8))} (h : Pv w gl x xa xv vs l sd W) (hb : Below W.heap.size W W') : Pv w gl x xa xv vs l sd W' :=
  ⟨h.lb.below hb h.lb.lt, h.xb.below hb h.xb.lt, h.rb.below hb h.rb.lt, h.pb.below hb h.pb.lt, h.os.keep fun k _ hk => hb.block k hk, h.rl.below hb, h.na, h.nv, h.bel.trans (hb.mono (Nat.le_of_lt h.lb.lt))⟩
theorem Pv.drew {w W : World} {gl : Nat} {x : List (BitVec 8)} {xa xv vs : Value} {l : List Lf} {sd : List (List (BitVec 8))} (h : Pv w gl x xa xv vs l sd W) : Pv w gl x xa xv vs l sd W.drew :=
  ⟨h.lb, h.xb, h.rb, h.pb, h.os.keep fun _ _ _ => rfl, ⟨h.rl.1.same fun _ _ _ => rfl, h.rl.2.same fun _ _ _ => rfl⟩, h.na, h.nv, ⟨h.bel.os, h.bel.tape, h.bel.output, h.bel.size, h.bel.block⟩⟩
theorem heap_one {W : World} {g i k : Nat} {u : Value} (h : k ≠ g) : (W.setCell ⟨g, i, none⟩ u).heap[k]? = W.heap[k]? := Below.heap_setCell _ _ _ _ h
theorem Blk.one {W : World} {g g' i : Nat} {u : Value} {cs : List Value} {t : TypeId} (h : Blk W g cs t) (hn : g ≠ g') : Blk (W.setCell ⟨g', i, none⟩ u) g cs t := by
  unfold Blk at *
  rw [heap_one hn]
  exact h
theorem Pv.side {w W W' : World} {gl : Nat} {x r : List (BitVec 8)} {xa xv vs vs' : Value} {l : List Lf} {sd : List (List (BitVec 8))} (h : Pv w gl x xa xv vs l sd W) (ho : OwnD W' (gl + 4) vs' (sd ++ [r])) (hg : Grow (gl + 4) W vs W' vs') : Pv w gl x xa xv vs' l (sd ++ [r]) (W'.setCell ⟨gl + 3, 0, none⟩ vs') := by
  have hv : ∀ j, vs.ownBlock = some j → gl + 4 ≤ j := fun j hj => (h.os.lt j hj).1
  have keep : ∀ v : Value, (∀ j, v.ownBlock = some j → (j < gl ∨ gl + 4 ≤ j) ∧ vs.ownBlock ≠ some j) → (∀ j, v.ownBlock = some j → j < W.heap.size) → ∀ j, v.ownBlock = some j → (W'.setCell ⟨gl + 3, 0, none⟩ vs').heap[j]? = W.heap[j]? := fun v h1 h2 j hj => by
    have h3 := h1 j hj
    rw [heap_one (by omega), hg.other j (fun e => h3.2 e.symm) (h2 j hj)]
  have apart : ∀ v : Value, (∀ j, v.ownBlock = some j → (j < gl ∨ gl + 4 ≤ j) ∧ vs.ownBlock ≠ some j) → (∀ j, v.ownBlock = some j → j < W.heap.size) → ∀ j, v.ownBlock = some j → (j < gl ∨ gl + 4 ≤ j) ∧ vs'.ownBlock ≠ some j := fun v h1 h2 j hj => by
    refine ⟨(h1 j hj).1, ?_⟩
    rcases hg.lies with e | e
    · rw [e]; exact (h1 j hj).2
    · rw [e]; intro e2; cases e2; exact absurd (h2 _ hj) (Nat.lt_irrefl _)
  have la : 0 < l.length → ∀ j, xa.ownBlock = some j → j < W.heap.size := fun hp => h.rl.1.inB (by rw [List.length_map]; exact hp)
  have lv : 0 < l.length → ∀ j, xv.ownBlock = some j → j < W.heap.size := fun hp => h.rl.2.inB (by rw [List.length_map]; exact hp)
  refine ⟨(h.lb.grow hg hv (by omega)).one (by omega), (h.xb.grow hg hv (by omega)).one (by omega), (h.rb.grow hg hv (by omega)).one (by omega), (h.pb.grow hg hv (by omega)).set 0 vs', ho.keep fun k h1 _ => heap_one (by omega), ⟨?_, ?_⟩, fun hp => apart xa (h.na hp) (la hp), fun hp => apart xv (h.nv hp) (lv hp), (h.bel.trans (hg.below.mono (by omega))).setCell (by show gl ≤ gl + 3; omega) _⟩
  · exact h.rl.1.same fun hp => by rw [List.length_map] at hp; exact keep xa (h.na hp) (la hp)
  · exact h.rl.2.same fun hp => by rw [List.length_map] at hp; exact keep xv (h.nv hp) (lv hp)
theorem Pv.half {w W W' : World} {gl : Nat} {x : List (BitVec 8)} {xa xv ya yv vs : Value} {l l2 : List Lf} {sd : List (List (BitVec 8))} (h : Pv w gl x xa xv vs l sd W) (hb : Below W.heap.size W W') (ho : OwnLf W' W.heap.size ya yv (l2.map (·.1)) (l2.map (·.2))) : Pv w gl x ya yv vs l2 sd ((W'.setCell ⟨gl, 0, none⟩ ya).setCell ⟨gl, 1, none⟩ yv) := by
  have hn := h.next hb
  have hz : gl + 4 ≤ W.heap.size := h.pb.lt
  have hk : ∀ k, k ≠ gl → ((W'.setCell ⟨gl, 0, none⟩ ya).setCell ⟨gl, 1, none⟩ yv).heap[k]? = W'.heap[k]? := fun k hk => (heap_one hk).trans (heap_one hk)
  have ap : ∀ v : Value, (∀ j, v.ownBlock = some j → W.heap.size ≤ j) → ∀ j, v.ownBlock = some j → (j < gl ∨ gl + 4 ≤ j) ∧ vs.ownBlock ≠ some j := fun v h1 j hj => by
    have h2 := h1 j hj
    refine ⟨Or.inr (by omega), fun e => ?_⟩
    have h3 := (h.os.lt j e).2
    omega
  refine ⟨(hn.lb.set 0 _).set 1 _, (hn.xb.one (by omega)).one (by omega), (hn.rb.one (by omega)).one (by omega), (hn.pb.one (by omega)).one (by omega), hn.os.keep fun k h1 _ => hk k (by omega), ⟨?_, ?_⟩, fun _ => ap ya fun j hj => (ho.a.lt j hj).1, fun _ => ap yv fun j hj => (ho.v.lt j hj).1, (hn.bel.setCell (Nat.le_refl _) _).setCell (Nat.le_refl _) _⟩
  · exact ho.a.readsD.same fun _ j hj => hk j (by have := (ho.a.lt j hj).1; omega)
  · exact ho.v.readsD.same fun _ j hj => hk j (by have := (ho.v.lt j hj).1; omega)
/-- where Prove stands behind its loop; cs: the proof's cells -/
structure Fn (w : World) (gl : Nat) (xa xv vs : Value) (sd : List (List (BitVec 8))) (cs : List Value) (ba offa : Nat) (da : List (BitVec 8)) (bv offv : Nat) (dv : List (BitVec 8)) (W : World) : Prop where
  lb : Blk W gl [xa, xv] 30
  rb : Blk W (gl + 2) (prfV nilV 0 zb32 zb32) 41
  pb : Blk W (gl + 3) cs 41
  os : OwnD W (gl + 4) vs sd
  ra : W.rangeAt ba offa (cb da)
  rv : W.rangeAt bv offv (cb dv)
  ba : ba ≠ gl + 3
  bv : bv ≠ gl + 3
  bel : Below gl w W
theorem Fn.at {w W W' : World} {gl : Nat} {xa xv vs : Value} {sd : List (List (BitVec 8))} {cs cs2 : List Value} {ba offa : Nat} {da : List (BitVec 8)} {bv offv : Nat} {dv : List (BitVec 8)} (h : Fn w gl xa xv vs sd cs ba offa da bv offv dv W) (hk : ∀ k, k ≠ gl + 3 → W'.heap[k]? = W.heap[k]?) (hb : Blk W' (gl + 3) cs2 41) (hbel : Below gl w W') : Fn w gl xa xv vs sd cs2 ba offa da bv offv dv W' := by
  refine ⟨?_, ?_, hb, h.os.keep fun k h1 _ => hk k (by omega), ?_, ?_, h.ba, h.bv, hbel⟩
  · have := h.lb; unfold Blk at *; rw [hk gl (by omega)]; exact this
  · have := h.rb; unfold Blk at *; rw [hk (gl + 2) (by omega)]; exact this
  · intro j u hj
    rw [World.cell?_of_block (w := W) (hk ba h.ba)]
    exact h.ra j u hj
  · intro j u hj
    rw [World.cell?_of_block (w := W) (hk bv h.bv)]
    exact h.rv j u hj
theorem At'.setCells {g : Nat} {W0 : World} : ∀ (vs : List Value) (o : Nat) (W : World), (∀ k, k ≠ g → W.heap[k]? = W0.heap[k]?) → ∀ k, k ≠ g → (W.setCells g o vs).heap[k]? = W0.heap[k]?
  | [], _, _, h => h
  | v :: r, o, W, h => by
    rw [World.setCells]
    exact At'.setCells r (o + 1) _ fun k hk => (heap_one hk).trans (h k hk)
def pend (o : Option Lf) : Int × List (BitVec 8) × List (BitVec 8) :=
  match o with
  | none => (0, zb32, zb32)
  | some p => (1, p.1, p.2)
/-- how far the way was told -/
structure Wy (l0 : List Lf) (x : List (BitVec 8)) (d : Nat) (l : List Lf) (sd : List (List (BitVec 8))) : Prop where
  le : d ≤ 256
  fit : Fits l d
  eq : wayL l0 x 0 = (sd ++ (wayL l x d).1, (wayL l x d).2)
  len : l.length ≤ l0.length
  sides : sd.length = d
theorem Wy.start {l : List Lf} {x : List (BitVec 8)} (h : Fits l 0) : Wy l x 0 l [] := ⟨by omega, h, by simp, Nat.le_refl _, rfl⟩
theorem Wy.next {l0 l : List Lf} {x : List (BitVec 8)} {d : Nat} {sd : List (List (BitVec 8))} (h : Wy l0 x d l sd) (h2 : 2 ≤ l.length) : Wy l0 x (d + 1) (halfL l d (bt x d)) (sd ++ [rootL (halfL l d (!bt x d)) (d + 1)]) := by
  have hd := h.fit.lt h2
  refine ⟨by omega, h.fit.half _, ?_, Nat.le_trans (half_le _ _ _) h.len, by rw [List.length_append, h.sides]; rfl⟩
  rw [h.eq, wayL_two h.fit h2]
  simp
theorem Wy.done {l0 l : List Lf} {x : List (BitVec 8)} {d : Nat} {sd : List (List (BitVec 8))} (h : Wy l0 x d l sd) (h1 : l.length ≤ 1) : wayL l0 x 0 = (sd, l.head?) := by
  rw [h.eq, wayL_short x d h1]
  simp
theorem Wy.stop {l0 l : List Lf} {x : List (BitVec 8)} {d : Nat} {sd : List (List (BitVec 8))} (h : Wy l0 x d l sd) (h1 : ¬ (d < 256 ∧ 1 < l.length)) : l.length ≤ 1 := by
  rcases Nat.lt_or_ge l.length 2 with h2 | h2
  · omega
  · have := h.fit.lt h2
    omega
theorem allocPrf (f : Operand → Value) (o : Oper) (ho : o.op = .alloc 41) (w : World) : (execOp f o).run Tryd.prog w = .ok (.value (.pointer (some ⟨w.heap.size, 0, none⟩))) (w.alloc (.cells (prfV nilV 0 zb32 zb32).toArray 41)) := by
  unfold execOp
  rw [ho]
  kernel_rfl
theorem buildPrf (f : Operand → Value) (o : Oper) (ho : o.op = .build 41 #[]) (w : World) : (execOp f o).run Tryd.prog w = .ok (.value (.agg (prfV nilV 0 zb32 zb32).toArray)) w := by
  unfold execOp
  rw [ho]
  kernel_rfl
theorem info_proof : (Tryd.prog.info? 41).map (·.size) = some 66 := by kernel_rfl
theorem prfV_one {vs : Value} {en : Int} {x y : List (BitVec 8)} (h : vs.oneCell' = true) : ∀ v ∈ prfV vs en x y, v.oneCell' = true := by
  intro v hv
  simp only [prfV, List.mem_cons, List.mem_append] at hv
  rcases hv with rfl | rfl | hv | hv
  · exact h
  · rfl
  · exact cb_one _ v hv
  · exact cb_one _ v hv
theorem wpSeq_buildP {ops : Array Oper} {Q : Exit → Act → World → Prop} {rest : List Oper} {o : Oper} {a : Act} {w : World} (ho : o.op = .build 41 #[]) (hw : Region.wanted o (yielded ops a.tmps) = true) {zs : List Value} (hz : zs = prfV nilV 0 zb32 zb32)
    (h : wpList Tryd.prog ops Q rest (a.put o.dst (.agg zs.toArray)) w) : wpList Tryd.prog ops Q (o :: rest) a w := by
  subst hz
  exact wpSeq_val _ _ hw (buildPrf _ _ ho _) h
theorem wpSeq_allocP {ops : Array Oper} {Q : Exit → Act → World → Prop} {rest : List Oper} {o : Oper} {a : Act} {w : World} (ho : o.op = .alloc 41) (hw : Region.wanted o (yielded ops a.tmps) = true) {zs : List Value} (hz : zs = prfV nilV 0 zb32 zb32)
    (h : wpList Tryd.prog ops Q rest (a.put o.dst (.pointer (some ⟨w.heap.size, 0, none⟩))) (w.alloc (.cells zs.toArray 41))) : wpList Tryd.prog ops Q (o :: rest) a w := by
  subst hz
  exact wpSeq_val _ _ hw (allocPrf _ _ ho _) h
set_option maxRecDepth 100000 in
set_option maxHeartbeats 8000000 in
theorem lfProve_any (va vv : Value) (l0 : List Lf) (x : List (BitVec 8)) (w : World) (hR : ReadsLf w va vv l0) (hF : Fits l0 0) (hl : l0.length < 1000000) (hx : x.length = 32) :
    Calls Tryd.prog 20 #[.agg #[va, vv], .agg (cb x).toArray] w fun e w' => ∃ vs, e = .returned (.agg (prfV vs (pend (wayL l0 x 0).2).1 (pend (wayL l0 x 0).2).2.1 (pend (wayL l0 x 0).2).2.2).toArray) ∧ OwnD w' w.heap.size vs (wayL l0 x 0).1 ∧ Below w.heap.size w w' := by
  have HL : Hid (l0.length < 1000000) := hl
  have HX32 : Hid (x.length = 32) := hx
  have HWY : Hid (Wy l0 x 0 l0 []) := Wy.start hF
  obtain ⟨n, HN⟩ : ∃ n, Hid (n = l0.length) := ⟨_, rfl⟩
  obtain ⟨ada, cpa, hva⟩ := hR.1.slice
  obtain ⟨adv, cpv, hvv⟩ := hR.2.slice
  rw [List.length_map, ← HN.out] at hva hvv
  subst hva hvv
  obtain ⟨gl, HGL⟩ : ∃ g, Hid (g = w.heap.size) := ⟨_, rfl⟩
  obtain ⟨w1, HW1⟩ : ∃ z, Hid (z = w.alloc (.cells [Value.slice ada n cpa, .slice adv n cpv].toArray 30)) := ⟨_, rfl⟩
  obtain ⟨w2, HW2⟩ : ∃ z, Hid (z = w1.alloc (.cells (cb x).toArray 24)) := ⟨_, rfl⟩
  obtain ⟨zs, HZS⟩ : ∃ z, Hid (z = prfV nilV 0 zb32 zb32) := ⟨_, rfl⟩
  obtain ⟨w3, HW3⟩ : ∃ z, Hid (z = w2.alloc (.cells zs.toArray 41)) := ⟨_, rfl⟩
  obtain ⟨w4, HW4⟩ : ∃ z, Hid (z = (w3.alloc (.cells zs.toArray 41)).setCells w3.heap.size 0 zs) := ⟨_, rfl⟩
  have s1 : w1.heap.size = gl + 1 := by rw [HW1.out, HGL.out]; simp
  have s2 : w2.heap.size = gl + 2 := by rw [HW2.out]; simp [s1]
  have s3 : w3.heap.size = gl + 3 := by rw [HW3.out]; simp [s2]
  have t0 : Below gl w w1 := by rw [HW1.out, HGL.out]; exact below_alloc _ _
  have t1 : Below (gl + 1) w1 w2 := by rw [← s1, HW2.out]; exact below_alloc _ _
  have t2 : Below (gl + 2) w2 w3 := by rw [← s2, HW3.out]; exact below_alloc _ _
  have t3 : Below (gl + 3) w3 w4 := by rw [← s3, HW4.out]; exact Below.setCells _ (Nat.le_refl _) _ _ _ (below_alloc _ _)
  have HI : Hid (Pv w gl x (.slice ada n cpa) (.slice adv n cpv) nilV l0 [] w4) := by
    have h1 : Blk w1 gl [Value.slice ada n cpa, .slice adv n cpv] 30 := by rw [HW1.out, HGL.out]; exact Blk.new w _ _
    have h2 : Blk w2 (gl + 1) (cb x) 24 := by rw [HW2.out, ← s1]; exact Blk.new w1 _ _
    have h3 : Blk w3 (gl + 2) zs 41 := by rw [HW3.out, ← s2]; exact Blk.new w2 _ _
    have h4 : Blk w4 (gl + 3) zs 41 := by rw [HW4.out, ← s3]; exact (Blk.new w3 _ _).whole zs rfl
    have hb : Below gl w w4 := ((t0.trans (t1.mono (by omega))).trans (t2.mono (by omega))).trans (t3.mono (by omega))
    rw [HZS.out] at h3 h4
    have hb' : Below w.heap.size w w4 := by rw [← HGL.out]; exact hb
    exact ⟨((h1.below t1 (by omega)).below t2 (by omega)).below t3 (by omega), (h2.below t2 (by omega)).below t3 (by omega), h3.below t3 (by omega), h4, OwnD.nil _ _, hR.below hb', fun hp j hj => ⟨Or.inl (by rw [HGL.out]; exact hR.1.inB (by rw [List.length_map]; exact hp) j hj), by simp [nilV, Value.ownBlock]⟩, fun hp j hj => ⟨Or.inl (by rw [HGL.out]; exact hR.2.inB (by rw [List.length_map]; exact hp) j hj), by simp [nilV, Value.ownBlock]⟩, hb⟩
  have HIZ : Hid ((Tryd.prog.info? 41).map (·.size) = some zs.length) := by show _ = _; rw [HZS.out]; exact info_proof
  have H1Z : Hid (zs.toArray.all (·.oneCell') = true) := by show _ = _; rw [HZS.out]; exact all_oneCell_toArray (prfV_one rfl)
  clear t0 t1 t2 t3 hR hF hl hx
  have HS : Hid (w1.heap.size = gl + 1 ∧ w2.heap.size = gl + 2 ∧ w3.heap.size = gl + 3) := ⟨s1, s2, s3⟩
  clear s1 s2 s3
  go_enter Tryd.func20, Tryd.ntmps20
  go_upto_region 1 with (first
    | (refine wpSeq_val _ _ (by rfl) (boxDigest _ _ (.tmp 1) rfl x rfl _) ?_)
    | (refine wpSeq_val _ _ (by rfl) (allocPrf _ _ rfl _) ?_))
  have e0 : (some ⟨w.heap.size, 0, none⟩ : Option Addr) = some ⟨gl, 0, none⟩ := by rw [HGL.out]
  simp only [e0]
  clear e0
  rw [← HW1.out, ← HW2.out, ← HZS.out, ← HW3.out, HS.out.1, HS.out.2.1]
  clear HW1 HW2 HW3
  go_wp2_with (first
    | (with_reducible refine wpSeq_buildP ?_ ?_ HZS.out ?_
       · rfl
       · rfl
       skip)
    | (with_reducible refine wpSeq_allocP ?_ ?_ HZS.out ?_
       · rfl
       · rfl
       skip)
    | (with_reducible refine wpList_store_mid ?_ 41 (.tmp 5) (.tmp 8) ?_ w3.heap.size 0 zs.toArray ?_ ?_ ((Blk.new w3 zs 41).there 0 _ (by rw [List.size_toArray]; omega)) (by rw [List.size_toArray]; exact HIZ.out) H1Z.out ?_
       · rfl
       · rfl
       · rfl
       · rfl))
  change Code.wp _ _ _ _ ((w3.alloc (.cells zs.toArray 41)).setCells w3.heap.size 0 zs)
  rw [← HW4.out]
  have e3 : (some ⟨w3.heap.size, 0, none⟩ : Option Addr) = some ⟨gl + 3, 0, none⟩ := by rw [HS.out.2.2]
  simp only [e3]
  clear e3 HW4 HS
  go_loopw [6] (fun j wr => ∃ (d : Nat) (xa xv vs : Value) (l : List Lf) (sd : List (List (BitVec 8))), j = .int .i64 (d : Int) ∧ Pv w gl x xa xv vs l sd wr ∧ Wy l0 x d l sd) (fun j _ => 256 - (intOf j).toNat)
  case atStart => exact ⟨0, _, _, _, _, _, rfl, HI.out, HWY.out⟩
  case round =>
    clear HI HWY
    obtain ⟨d, xa, xv, vs, l, sd, rfl, hI, hW⟩ := hrel
    obtain ⟨na, HNA⟩ : ∃ z : Nat, Hid (z = l.length) := ⟨_, rfl⟩
    obtain ⟨adx, cpx, hxa⟩ := hI.rl.1.slice
    obtain ⟨adw, cpw, hxv⟩ := hI.rl.2.slice
    rw [List.length_map, ← HNA.out] at hxa hxv
    subst hxa hxv
    obtain ⟨ns, HNS⟩ : ∃ z : Nat, Hid (z = sd.length) := ⟨_, rfl⟩
    obtain ⟨ads, cps, hvs⟩ := hI.os.slice
    rw [← HNS.out] at hvs
    subst hvs
    have HI : Hid (Pv w gl x (.slice adx na cpx) (.slice adw na cpw) (.slice ads ns cps) l sd wr) := hI
    have HW : Hid (Wy l0 x d l sd) := hW
    have HLL : Hid (l.length < 1000000) := by show _ < _; have h1 := hW.len; have h2 := HL.out; omega
    have ca : wr.cell? ⟨gl, 0, none⟩ = some (.slice adx na cpx) := hI.lb.cell 0
    clear hI hW
    by_cases hgo : d < 256 ∧ 1 < na
    · obtain ⟨hd, hn1⟩ := hgo
      have hdi : (d : Int) < 256 := by omega
      have hni : (1 : Int) < (na : Int) := by omega
      have f5 : IntKind.i64.wrap ((d : Int) + 1) = (d : Int) + 1 := wrap_small2 _ (by omega) (by omega)
      have HD : Hid (d < 256) := hd
      have HN2 : Hid (2 ≤ l.length) := by show _ ≤ _; rw [← HNA.out]; omega
      have HNX : Hid (Wy l0 x (d + 1) (halfL l d (bt x d)) (sd ++ [rootL (halfL l d (!bt x d)) (d + 1)])) := HW.out.next HN2.out
      obtain ⟨on, HON⟩ : ∃ b, Hid (bt x d = b) := ⟨_, rfl⟩
      rw [HON.out] at HNX
      have HBI : Hid (bitI x (d : Int) = on) := by show _ = _; rw [bitI_nat _ _ HD.out]; exact HON.out
      obtain ⟨r, HRD⟩ : ∃ r, Hid (r = rootL (halfL l d (!on)) (d + 1)) := ⟨_, rfl⟩
      rw [← HRD.out] at HNX
      have HRL : Hid (r.length = 32) := by show _ = _; rw [HRD.out]; exact rootL_len (HW.out.fit.half _)
      obtain ⟨d1, HD1⟩ : ∃ z, Hid (z = d + 1) := ⟨_, rfl⟩
      have hwr : IntKind.i64.wrap ((d : Int) + 1) = (d1 : Int) := by rw [f5, HD1.out]; rfl
      have HCR : Hid (∀ ya yv W, ReadsLf W ya yv (halfL l d (!on)) → Calls Tryd.prog 14 #[.agg #[ya, yv], .int .i64 (d1 : Int)] W fun e w' => e = .returned (.agg (cb r).toArray) ∧ Below W.heap.size W w') := fun ya yv W hh => by rw [HRD.out, HD1.out]; exact lfRoot_any 256 _ _ _ _ _ (by omega) (HW.out.fit.half _) hh (Nat.lt_of_le_of_lt (half_le _ _ _) (Nat.lt_of_lt_of_le HLL.out (by decide))) (by omega)
      have HCH : Hid (∀ b W, ReadsLf W (.slice adx na cpx) (.slice adw na cpw) l → Calls Tryd.prog 30 #[.agg #[.slice adx na cpx, .slice adw na cpw], .int .i64 (d : Int), .bool b] W fun e w' => ∃ ya yv, e = .returned (.agg #[ya, yv]) ∧ OwnLf w' W.heap.size ya yv ((halfL l d b).map (·.1)) ((halfL l d b).map (·.2)) ∧ Below W.heap.size W w') := fun b W hh => lfHalf_b _ _ l d HD.out b W hh (Nat.lt_of_lt_of_le HLL.out (by decide))
      have HSL : Hid (sd.length < 2000000) := by show _ < _; have h1 := HW.out.sides; have h2 := HD.out; omega
      go_wp2_with (first
        | (with_reducible refine wpSeq_loadD (.tmp 3) (gl + 1) x ?_ ?_ ?_ ?_ ?_ ?_
           · exact HX32.out
           · exact HI.out.xb
           · with_reducible rfl
           · rfl
           · rfl)
        | (go_at_call 32; refine (sBit_any x HX32.out _ _).mono ?_; rintro e w7 ⟨rfl, hb7⟩; rw [HBI.out]
           replace HI : Hid (Pv w gl x (.slice adx na cpx) (.slice adw na cpw) (.slice ads ns cps) l sd w7) := HI.out.next hb7
           clear hb7 ca))
      refine wp_region_held_drew (S := fun wx => Blk wx gl [.slice adx na cpx, .slice adw na cpw] 30) (by kernel_rfl) HI.out.drew.lb ?_
      intro hS
      have hI := HI.out.drew
      clear HI
      change wpAnyH _ _ _ _ _ _ _ _ (World.drew w7)
      generalize World.drew w7 = y0 at *
      refine wpAnyH_take (i := 0) (v := .pointer (some ⟨gl + 3, 0, none⟩)) rfl (by kernel_rfl) (by kernel_rfl) (by kernel_rfl) (fun _ _ _ h => h) (Or.inl ⟨by rfl, fun wx hx => by simp [go_sem]⟩) hS ?_
      simp only [Act.put, List.getElem_toArray, List.getElem_cons_zero, List.setIfInBounds_toArray, List.set_cons_zero, List.set_cons_succ]
      refine wpAnyH_take (i := 2) (v := .agg #[.slice adx na cpx, .slice adw na cpw]) rfl (by kernel_rfl) (by kernel_rfl) (by kernel_rfl) (fun _ _ _ h => h) (Or.inl ⟨by rfl, fun wx hx => by (have c0 := Blk.cell hx 0; have c1 := Blk.cell hx 1; simp only [List.getElem?_cons_zero, List.getElem?_cons_succ] at c0 c1; simp [go_sem, c0, c1])⟩) hS ?_
      simp only [Act.put, List.getElem_toArray, List.getElem_cons_succ, List.getElem_cons_zero, List.setIfInBounds_toArray, List.set_cons_zero, List.set_cons_succ]
      refine wpAnyH_take (i := 3) (v := .int .i64 (d : Int)) rfl (by kernel_rfl) (by kernel_rfl) (by kernel_rfl) (fun _ _ _ h => h) (Or.inl ⟨by rfl, fun wx hx => by simp [go_sem]⟩) hS ?_
      simp only [Act.put, List.getElem_toArray, List.getElem_cons_succ, List.getElem_cons_zero, List.setIfInBounds_toArray, List.set_cons_zero, List.set_cons_succ]
      refine wpAnyH_take (i := 4) (v := .bool on) rfl (by kernel_rfl) (by kernel_rfl) (by kernel_rfl) (fun _ _ _ h => h) (Or.inl ⟨by rfl, fun wx hx => by simp [go_sem]⟩) hS ?_
      simp only [Act.put, List.getElem_toArray, List.getElem_cons_succ, List.getElem_cons_zero, List.setIfInBounds_toArray, List.set_cons_zero, List.set_cons_succ]
      refine wpAnyH_take (i := 5) (v := .bool (!on)) rfl (by kernel_rfl) (by kernel_rfl) (by kernel_rfl) (fun _ _ _ h => h) (Or.inl ⟨by rfl, fun wx hx => by simp [go_sem]⟩) hS ?_
      simp only [Act.put, List.getElem_toArray, List.getElem_cons_succ, List.getElem_cons_zero, List.setIfInBounds_toArray, List.set_cons_zero, List.set_cons_succ]
      refine wpAnyH_take (i := 7) (v := .int .i64 (d : Int)) rfl (by kernel_rfl) (by kernel_rfl) (by kernel_rfl) (fun _ _ _ h => h) (Or.inl ⟨by rfl, fun wx hx => by simp [go_sem]⟩) hS ?_
      simp only [Act.put, List.getElem_toArray, List.getElem_cons_succ, List.getElem_cons_zero, List.setIfInBounds_toArray, List.set_cons_zero, List.set_cons_succ]
      refine wpAnyH_take (i := 8) (v := .int .i64 (d1 : Int)) rfl (by kernel_rfl) (by kernel_rfl) (by kernel_rfl) (fun _ _ _ h => h) (Or.inl ⟨by rfl, fun wx hx => by simp [go_sem, hwr]⟩) hS ?_
      simp only [Act.put, List.getElem_toArray, List.getElem_cons_succ, List.getElem_cons_zero, List.setIfInBounds_toArray, List.set_cons_zero, List.set_cons_succ]
      refine wpAnyH_pair 1 6 (by kernel_rfl) ?_ ?_
      · skip
        have hcs : y0.cell? ⟨gl + 3, 0, none⟩ = some (.slice ads ns cps) := hI.pb.cell 0
        refine wpOp_vl 1 (.slice ads ns cps) y0 (by rfl) (by rfl) (by simp [go_sem, hcs]) ⟨hI.lb, ?_⟩
        clear hcs
        simp only [Act.put, List.getElem_toArray, List.getElem_cons_succ, List.getElem_cons_zero, List.setIfInBounds_toArray, List.set_cons_zero, List.set_cons_succ]
        refine wpAnyH_enter 6 (by kernel_rfl) rfl (by rfl) (f := 30) (args := #[.agg #[.slice adx na cpx, .slice adw na cpw], .int .i64 (d : Int), .bool (!on)]) (by simp [go_sem]) (HCH.out (!on) y0 hI.rl) ?_
        rintro e y1 ⟨ya, yv, rfl, ho, hbq⟩
        replace hI := hI.next hbq
        have hrd : ReadsLf y1 ya yv (halfL l d (!on)) := ho.reads
        refine ⟨_, rfl, hI.lb, ?_⟩
        clear ho hbq
        simp only [Act.put, List.getElem_toArray, List.getElem_cons_succ, List.getElem_cons_zero, List.setIfInBounds_toArray, List.set_cons_zero, List.set_cons_succ]
        refine wpAnyH_enter 9 (by kernel_rfl) rfl (by rfl) (f := 14) (args := #[.agg #[ya, yv], .int .i64 (d1 : Int)]) (by simp [go_sem]) (HCR.out ya yv y1 hrd) ?_
        rintro e y2 ⟨rfl, hbq⟩
        replace hI := hI.next hbq
        refine ⟨_, rfl, hI.lb, ?_⟩
        clear hbq hrd
        simp only [Act.put, List.getElem_toArray, List.getElem_cons_succ, List.getElem_cons_zero, List.setIfInBounds_toArray, List.set_cons_zero, List.set_cons_succ]
        have hnb := NewB.of r y2
        have hn1 := hI.next hnb.below
        refine wpAnyH_step 10 (.slice (some ⟨y2.heap.size, 0, none⟩) 1 1) (y2.alloc (.cells (cb r).toArray 24)) (by kernel_rfl) rfl (by rfl) (buildD _ _ _ rfl r HRL.out rfl _) hn1.lb ?_
        simp only [Act.put, List.getElem_toArray, List.getElem_cons_succ, List.getElem_cons_zero, List.setIfInBounds_toArray, List.set_cons_zero, List.set_cons_succ]
        refine wpAnyH_law 11 (by kernel_rfl) rfl (by rfl) (wp_appendG (.tmp 23) (.tmp 32) (gl + 4) (.slice ads ns cps) sd r y2.heap.size hn1.os hnb.blk HRL.out HSL.out hn1.pb.lt rfl rfl rfl ?_)
        intro z9 q9 ho hg
        have hJ := hn1.side ho hg
        have hb9 := hn1.pb.grow hg (fun j hj => (hn1.os.lt j hj).1) (Nat.lt_succ_self _)
        have hl9 := hn1.lb.grow hg (fun j hj => (hn1.os.lt j hj).1) (by omega)
        have hc9 : q9.cell? ⟨gl + 3, 0, none⟩ = some (.slice ads ns cps) := hb9.cell 0
        have hf9 := hb9.frozen 0
        obtain ⟨a9, c9, hx9⟩ := ho.slice
        obtain ⟨n9, HN9⟩ : ∃ z : Nat, Hid (z = (sd ++ [r]).length) := ⟨_, rfl⟩
        rw [← HN9.out] at hx9
        subst hx9
        refine ⟨hl9, ?_⟩
        simp only [Act.put, List.getElem_toArray, List.getElem_cons_succ, List.getElem_cons_zero, List.setIfInBounds_toArray, List.set_cons_zero, List.set_cons_succ]
        refine wpAnyH_take (i := 12) (v := .pointer (some ⟨gl + 3, 0, none⟩)) rfl (by kernel_rfl) (by kernel_rfl) (by kernel_rfl) (fun _ _ _ h => h) (Or.inl ⟨by rfl, fun wx hx => by simp [go_sem]⟩) hl9 ?_
        simp only [Act.put, List.getElem_toArray, List.getElem_cons_succ, List.getElem_cons_zero, List.setIfInBounds_toArray, List.set_cons_zero, List.set_cons_succ]
        refine wpAnyH_skip 13 (q9.setCell ⟨gl + 3, 0, none⟩ (.slice a9 n9 c9)) (by kernel_rfl) rfl (by rfl) (by simp [go_sem, hc9, hf9]) hJ.lb ?_
        simp only [Act.put, List.getElem_toArray, List.getElem_cons_succ, List.getElem_cons_zero]
        refine wpAnyH_done (by kernel_rfl) ?_ _
        have HI : Hid (Pv w gl x (.slice adx na cpx) (.slice adw na cpw) (.slice a9 n9 c9) l (sd ++ [r]) (q9.setCell ⟨gl + 3, 0, none⟩ (.slice a9 n9 c9))) := hJ
        clear hI hn1 hnb ho hg hJ hb9 hl9 hc9 hf9 hS
        generalize q9.setCell ⟨gl + 3, 0, none⟩ (.slice a9 n9 c9) = w8 at *
        generalize Value.slice a9 n9 c9 = vs2 at *
        have ca : w8.cell? ⟨gl, 0, none⟩ = some (.slice adx na cpx) := HI.out.lb.cell 0
        have cv : w8.cell? ⟨gl, 1, none⟩ = some (.slice adw na cpw) := HI.out.lb.cell 1
        go_wp2_with (go_at_call 30; refine (HCH.out on _ HI.out.rl).mono ?_
                     rintro e w9 ⟨ua, uv, rfl, ho, hbq⟩
                     have hJ := HI.out.half hbq ho
                     have hn := HI.out.next hbq
                     obtain ⟨a2, p2, hx2⟩ := ho.a.slice
                     obtain ⟨a3, p3, hx3⟩ := ho.v.slice
                     obtain ⟨n2, HN2'⟩ : ∃ z : Nat, Hid (z = ((halfL l d on).map (·.1)).length) := ⟨_, rfl⟩
                     obtain ⟨n3, HN3'⟩ : ∃ z : Nat, Hid (z = ((halfL l d on).map (·.2)).length) := ⟨_, rfl⟩
                     rw [← HN2'.out] at hx2
                     rw [← HN3'.out] at hx3
                     subst hx2 hx3
                     have c0 : w9.cell? ⟨gl, 0, none⟩ = some (.slice adx na cpx) := hn.lb.cell 0
                     have c1 : (w9.setCell ⟨gl, 0, none⟩ (.slice a2 n2 p2)).cell? ⟨gl, 1, none⟩ = some (.slice adw na cpw) := (hn.lb.set 0 _).cell 1
                     have f0 : w9.frozen? ⟨gl, 0, none⟩ = false := hn.lb.frozen 0
                     have f1 : (w9.setCell ⟨gl, 0, none⟩ (.slice a2 n2 p2)).frozen? ⟨gl, 1, none⟩ = false := (hn.lb.set 0 _).frozen 1
                     have HJ : Hid (Pv w gl x (.slice a2 n2 p2) (.slice a3 n3 p3) vs2 (halfL l d on) (sd ++ [r]) ((w9.setCell ⟨gl, 0, none⟩ (.slice a2 n2 p2)).setCell ⟨gl, 1, none⟩ (.slice a3 n3 p3))) := hJ
                     clear hJ hn ho hbq ca cv HI)
        go_roundw
        case rel => exact ⟨d + 1, _, _, _, _, _, by simp, HJ.out, HNX.out⟩
        case measure => simp [intOf]; omega
      · skip
        refine wpOp_en 6 (by rfl) (by rfl) (f := 30) (args := #[.agg #[.slice adx na cpx, .slice adw na cpw], .int .i64 (d : Int), .bool (!on)]) (by simp [go_sem]) (HCH.out (!on) y0 hI.rl) ?_
        rintro e y1 ⟨ya, yv, rfl, ho, hbq⟩
        replace hI := hI.next hbq
        have hrd : ReadsLf y1 ya yv (halfL l d (!on)) := ho.reads
        refine ⟨_, rfl, hI.lb, ?_⟩
        clear ho hbq
        simp only [Act.put, List.getElem_toArray, List.getElem_cons_succ, List.getElem_cons_zero, List.setIfInBounds_toArray, List.set_cons_zero, List.set_cons_succ]
        refine wpAnyH_pair 1 9 (by kernel_rfl) ?_ ?_
        · skip
          have hcs : y1.cell? ⟨gl + 3, 0, none⟩ = some (.slice ads ns cps) := hI.pb.cell 0
          refine wpOp_vl 1 (.slice ads ns cps) y1 (by rfl) (by rfl) (by simp [go_sem, hcs]) ⟨hI.lb, ?_⟩
          clear hcs
          simp only [Act.put, List.getElem_toArray, List.getElem_cons_succ, List.getElem_cons_zero, List.setIfInBounds_toArray, List.set_cons_zero, List.set_cons_succ]
          refine wpAnyH_enter 9 (by kernel_rfl) rfl (by rfl) (f := 14) (args := #[.agg #[ya, yv], .int .i64 (d1 : Int)]) (by simp [go_sem]) (HCR.out ya yv y1 hrd) ?_
          rintro e y2 ⟨rfl, hbq⟩
          replace hI := hI.next hbq
          refine ⟨_, rfl, hI.lb, ?_⟩
          clear hbq hrd
          simp only [Act.put, List.getElem_toArray, List.getElem_cons_succ, List.getElem_cons_zero, List.setIfInBounds_toArray, List.set_cons_zero, List.set_cons_succ]
          have hnb := NewB.of r y2
          have hn1 := hI.next hnb.below
          refine wpAnyH_step 10 (.slice (some ⟨y2.heap.size, 0, none⟩) 1 1) (y2.alloc (.cells (cb r).toArray 24)) (by kernel_rfl) rfl (by rfl) (buildD _ _ _ rfl r HRL.out rfl _) hn1.lb ?_
          simp only [Act.put, List.getElem_toArray, List.getElem_cons_succ, List.getElem_cons_zero, List.setIfInBounds_toArray, List.set_cons_zero, List.set_cons_succ]
          refine wpAnyH_law 11 (by kernel_rfl) rfl (by rfl) (wp_appendG (.tmp 23) (.tmp 32) (gl + 4) (.slice ads ns cps) sd r y2.heap.size hn1.os hnb.blk HRL.out HSL.out hn1.pb.lt rfl rfl rfl ?_)
          intro z9 q9 ho hg
          have hJ := hn1.side ho hg
          have hb9 := hn1.pb.grow hg (fun j hj => (hn1.os.lt j hj).1) (Nat.lt_succ_self _)
          have hl9 := hn1.lb.grow hg (fun j hj => (hn1.os.lt j hj).1) (by omega)
          have hc9 : q9.cell? ⟨gl + 3, 0, none⟩ = some (.slice ads ns cps) := hb9.cell 0
          have hf9 := hb9.frozen 0
          obtain ⟨a9, c9, hx9⟩ := ho.slice
          obtain ⟨n9, HN9⟩ : ∃ z : Nat, Hid (z = (sd ++ [r]).length) := ⟨_, rfl⟩
          rw [← HN9.out] at hx9
          subst hx9
          refine ⟨hl9, ?_⟩
          simp only [Act.put, List.getElem_toArray, List.getElem_cons_succ, List.getElem_cons_zero, List.setIfInBounds_toArray, List.set_cons_zero, List.set_cons_succ]
          refine wpAnyH_take (i := 12) (v := .pointer (some ⟨gl + 3, 0, none⟩)) rfl (by kernel_rfl) (by kernel_rfl) (by kernel_rfl) (fun _ _ _ h => h) (Or.inl ⟨by rfl, fun wx hx => by simp [go_sem]⟩) hl9 ?_
          simp only [Act.put, List.getElem_toArray, List.getElem_cons_succ, List.getElem_cons_zero, List.setIfInBounds_toArray, List.set_cons_zero, List.set_cons_succ]
          refine wpAnyH_skip 13 (q9.setCell ⟨gl + 3, 0, none⟩ (.slice a9 n9 c9)) (by kernel_rfl) rfl (by rfl) (by simp [go_sem, hc9, hf9]) hJ.lb ?_
          simp only [Act.put, List.getElem_toArray, List.getElem_cons_succ, List.getElem_cons_zero]
          refine wpAnyH_done (by kernel_rfl) ?_ _
          have HI : Hid (Pv w gl x (.slice adx na cpx) (.slice adw na cpw) (.slice a9 n9 c9) l (sd ++ [r]) (q9.setCell ⟨gl + 3, 0, none⟩ (.slice a9 n9 c9))) := hJ
          clear hI hn1 hnb ho hg hJ hb9 hl9 hc9 hf9 hS
          generalize q9.setCell ⟨gl + 3, 0, none⟩ (.slice a9 n9 c9) = w8 at *
          generalize Value.slice a9 n9 c9 = vs2 at *
          have ca : w8.cell? ⟨gl, 0, none⟩ = some (.slice adx na cpx) := HI.out.lb.cell 0
          have cv : w8.cell? ⟨gl, 1, none⟩ = some (.slice adw na cpw) := HI.out.lb.cell 1
          go_wp2_with (go_at_call 30; refine (HCH.out on _ HI.out.rl).mono ?_
                       rintro e w9 ⟨ua, uv, rfl, ho, hbq⟩
                       have hJ := HI.out.half hbq ho
                       have hn := HI.out.next hbq
                       obtain ⟨a2, p2, hx2⟩ := ho.a.slice
                       obtain ⟨a3, p3, hx3⟩ := ho.v.slice
                       obtain ⟨n2, HN2'⟩ : ∃ z : Nat, Hid (z = ((halfL l d on).map (·.1)).length) := ⟨_, rfl⟩
                       obtain ⟨n3, HN3'⟩ : ∃ z : Nat, Hid (z = ((halfL l d on).map (·.2)).length) := ⟨_, rfl⟩
                       rw [← HN2'.out] at hx2
                       rw [← HN3'.out] at hx3
                       subst hx2 hx3
                       have c0 : w9.cell? ⟨gl, 0, none⟩ = some (.slice adx na cpx) := hn.lb.cell 0
                       have c1 : (w9.setCell ⟨gl, 0, none⟩ (.slice a2 n2 p2)).cell? ⟨gl, 1, none⟩ = some (.slice adw na cpw) := (hn.lb.set 0 _).cell 1
                       have f0 : w9.frozen? ⟨gl, 0, none⟩ = false := hn.lb.frozen 0
                       have f1 : (w9.setCell ⟨gl, 0, none⟩ (.slice a2 n2 p2)).frozen? ⟨gl, 1, none⟩ = false := (hn.lb.set 0 _).frozen 1
                       have HJ : Hid (Pv w gl x (.slice a2 n2 p2) (.slice a3 n3 p3) vs2 (halfL l d on) (sd ++ [r]) ((w9.setCell ⟨gl, 0, none⟩ (.slice a2 n2 p2)).setCell ⟨gl, 1, none⟩ (.slice a3 n3 p3))) := hJ
                       clear hJ hn ho hbq ca cv HI)
          go_roundw
          case rel => exact ⟨d + 1, _, _, _, _, _, by simp, HJ.out, HNX.out⟩
          case measure => simp [intOf]; omega
        · skip
          refine wpOp_en 9 (by rfl) (by rfl) (f := 14) (args := #[.agg #[ya, yv], .int .i64 (d1 : Int)]) (by simp [go_sem]) (HCR.out ya yv y1 hrd) ?_
          rintro e y2 ⟨rfl, hbq⟩
          replace hI := hI.next hbq
          refine ⟨_, rfl, hI.lb, ?_⟩
          clear hbq hrd
          simp only [Act.put, List.getElem_toArray, List.getElem_cons_succ, List.getElem_cons_zero, List.setIfInBounds_toArray, List.set_cons_zero, List.set_cons_succ]
          have hnb := NewB.of r y2
          have hn1 := hI.next hnb.below
          have hce : y2.cell? ⟨gl + 3, 0, none⟩ = some (.slice ads ns cps) := hI.pb.cell 0
          have hce2 : (y2.alloc (.cells (cb r).toArray 24)).cell? ⟨gl + 3, 0, none⟩ = some (.slice ads ns cps) := hn1.pb.cell 0
          refine wpAnyH_comm 1 10 (.slice ads ns cps) (.slice (some ⟨y2.heap.size, 0, none⟩) 1 1) (y2.alloc (.cells (cb r).toArray 24)) (by kernel_rfl) rfl rfl (by rfl) (by rfl) (by rfl) (by rfl) (by simp [go_sem, hce]) (buildD _ _ _ rfl r HRL.out rfl _) (by simp [go_sem, hce2]) (buildD _ _ _ rfl r HRL.out rfl _) (by kernel_rfl) (by kernel_rfl) (by rfl) (by rfl) hI.lb hn1.lb ?_
          clear hce hce2
          simp only [Act.put, List.getElem_toArray, List.getElem_cons_succ, List.getElem_cons_zero, List.setIfInBounds_toArray, List.set_cons_zero, List.set_cons_succ]
          refine wpAnyH_law 11 (by kernel_rfl) rfl (by rfl) (wp_appendG (.tmp 23) (.tmp 32) (gl + 4) (.slice ads ns cps) sd r y2.heap.size hn1.os hnb.blk HRL.out HSL.out hn1.pb.lt rfl rfl rfl ?_)
          intro z9 q9 ho hg
          have hJ := hn1.side ho hg
          have hb9 := hn1.pb.grow hg (fun j hj => (hn1.os.lt j hj).1) (Nat.lt_succ_self _)
          have hl9 := hn1.lb.grow hg (fun j hj => (hn1.os.lt j hj).1) (by omega)
          have hc9 : q9.cell? ⟨gl + 3, 0, none⟩ = some (.slice ads ns cps) := hb9.cell 0
          have hf9 := hb9.frozen 0
          obtain ⟨a9, c9, hx9⟩ := ho.slice
          obtain ⟨n9, HN9⟩ : ∃ z : Nat, Hid (z = (sd ++ [r]).length) := ⟨_, rfl⟩
          rw [← HN9.out] at hx9
          subst hx9
          refine ⟨hl9, ?_⟩
          simp only [Act.put, List.getElem_toArray, List.getElem_cons_succ, List.getElem_cons_zero, List.setIfInBounds_toArray, List.set_cons_zero, List.set_cons_succ]
          refine wpAnyH_take (i := 12) (v := .pointer (some ⟨gl + 3, 0, none⟩)) rfl (by kernel_rfl) (by kernel_rfl) (by kernel_rfl) (fun _ _ _ h => h) (Or.inl ⟨by rfl, fun wx hx => by simp [go_sem]⟩) hl9 ?_
          simp only [Act.put, List.getElem_toArray, List.getElem_cons_succ, List.getElem_cons_zero, List.setIfInBounds_toArray, List.set_cons_zero, List.set_cons_succ]
          refine wpAnyH_skip 13 (q9.setCell ⟨gl + 3, 0, none⟩ (.slice a9 n9 c9)) (by kernel_rfl) rfl (by rfl) (by simp [go_sem, hc9, hf9]) hJ.lb ?_
          simp only [Act.put, List.getElem_toArray, List.getElem_cons_succ, List.getElem_cons_zero]
          refine wpAnyH_done (by kernel_rfl) ?_ _
          have HI : Hid (Pv w gl x (.slice adx na cpx) (.slice adw na cpw) (.slice a9 n9 c9) l (sd ++ [r]) (q9.setCell ⟨gl + 3, 0, none⟩ (.slice a9 n9 c9))) := hJ
          clear hI hn1 hnb ho hg hJ hb9 hl9 hc9 hf9 hS
          generalize q9.setCell ⟨gl + 3, 0, none⟩ (.slice a9 n9 c9) = w8 at *
          generalize Value.slice a9 n9 c9 = vs2 at *
          have ca : w8.cell? ⟨gl, 0, none⟩ = some (.slice adx na cpx) := HI.out.lb.cell 0
          have cv : w8.cell? ⟨gl, 1, none⟩ = some (.slice adw na cpw) := HI.out.lb.cell 1
          go_wp2_with (go_at_call 30; refine (HCH.out on _ HI.out.rl).mono ?_
                       rintro e w9 ⟨ua, uv, rfl, ho, hbq⟩
                       have hJ := HI.out.half hbq ho
                       have hn := HI.out.next hbq
                       obtain ⟨a2, p2, hx2⟩ := ho.a.slice
                       obtain ⟨a3, p3, hx3⟩ := ho.v.slice
                       obtain ⟨n2, HN2'⟩ : ∃ z : Nat, Hid (z = ((halfL l d on).map (·.1)).length) := ⟨_, rfl⟩
                       obtain ⟨n3, HN3'⟩ : ∃ z : Nat, Hid (z = ((halfL l d on).map (·.2)).length) := ⟨_, rfl⟩
                       rw [← HN2'.out] at hx2
                       rw [← HN3'.out] at hx3
                       subst hx2 hx3
                       have c0 : w9.cell? ⟨gl, 0, none⟩ = some (.slice adx na cpx) := hn.lb.cell 0
                       have c1 : (w9.setCell ⟨gl, 0, none⟩ (.slice a2 n2 p2)).cell? ⟨gl, 1, none⟩ = some (.slice adw na cpw) := (hn.lb.set 0 _).cell 1
                       have f0 : w9.frozen? ⟨gl, 0, none⟩ = false := hn.lb.frozen 0
                       have f1 : (w9.setCell ⟨gl, 0, none⟩ (.slice a2 n2 p2)).frozen? ⟨gl, 1, none⟩ = false := (hn.lb.set 0 _).frozen 1
                       have HJ : Hid (Pv w gl x (.slice a2 n2 p2) (.slice a3 n3 p3) vs2 (halfL l d on) (sd ++ [r]) ((w9.setCell ⟨gl, 0, none⟩ (.slice a2 n2 p2)).setCell ⟨gl, 1, none⟩ (.slice a3 n3 p3))) := hJ
                       clear hJ hn ho hbq ca cv HI)
          go_roundw
          case rel => exact ⟨d + 1, _, _, _, _, _, by simp, HJ.out, HNX.out⟩
          case measure => simp [intOf]; omega
    · have hst : l.length ≤ 1 := HW.out.stop (by rw [← HNA.out]; exact hgo)
      have HDN : Hid (wayL l0 x 0 = (sd, l.head?)) := HW.out.done hst
      have HNL : Hid (na ≤ 1) := by show _ ≤ _; rw [HNA.out]; exact hst
      clear hst
      by_cases hd : d < 256
      · have hdi : (d : Int) < 256 := by omega
        have hdb : decide ((d : Int) < 256) = true := decide_eq_true hdi
        have hn1 : ¬ ((1 : Int) < (na : Int)) := by have := HNL.out; omega
        have hnb : decide ((1 : Int) < (na : Int)) = false := decide_eq_false hn1
        clear hgo hd
        go_upto_region 8 with fail
        clear hnb hdb
        by_cases hz : na = 0
        · subst hz
          have hnil : l = [] := List.length_eq_zero_iff.1 HNA.out.symm
          obtain ⟨cs, HCS⟩ : ∃ c, Hid (c = (prfV (.slice ads ns cps) 0 zb32 zb32)) := ⟨_, rfl⟩
          have HF : Hid (Fn w gl (.slice adx 0 cpx) (.slice adw 0 cpw) (.slice ads ns cps) sd cs 0 0 [] 0 0 [] wr) := by
            rw [HCS.out]
            exact ⟨HI.out.lb, HI.out.rb, HI.out.pb, HI.out.os, fun j u hj => by simp [cb] at hj, fun j u hj => by simp [cb] at hj, by omega, by omega, HI.out.bel⟩
          have HCE : Hid (prfV (.slice ads ns cps) (pend (wayL l0 x 0).2).1 (pend (wayL l0 x 0).2).2.1 (pend (wayL l0 x 0).2).2.2 = cs) := by show _ = _; rw [HDN.out, hnil, HCS.out]; rfl
          have HIC : Hid ((Tryd.prog.info? 41).map (·.size) = some cs.length) := by show _ = _; rw [HCS.out, prfV_len zb32_len zb32_len]; exact info_proof
          have H1C : Hid (cs.toArray.all (·.oneCell') = true) := by show _ = _; rw [HCS.out]; exact all_oneCell_toArray (prfV_one rfl)
          have HLC : Hid (cs.length = 66) := by show _ = _; rw [HCS.out, prfV_len zb32_len zb32_len]
          clear hnil HCS HI
          go_wp2_with (first
            | (refine wpSeq_val (.agg cs.toArray) _ (by rfl) (load_run 41 _ rfl (gl + 3) 0 rfl cs _ HF.out.pb.range Tryd.underlying41 rfl HIC.out) ?_)
            | (with_reducible refine wpList_store_mid ?_ 41 (.tmp 4) (.tmp 54) ?_ (gl + 2) 0 cs.toArray ?_ ?_ (HF.out.rb.there 0 _ (by rw [List.size_toArray, HLC.out, prfV_len zb32_len zb32_len]; omega)) (by rw [List.size_toArray]; exact HIC.out) H1C.out ?_
               · rfl
               · rfl
               · rfl
               · rfl))
          have hB6 := HF.out.rb.whole cs (by rw [HLC.out, prfV_len zb32_len zb32_len])
          refine bodyPost_ret (v := Value.agg cs.toArray) ?_ rfl ⟨.slice ads ns cps, by rw [HCE.out], ?_, ?_⟩
          · exact results_cell_row (by rfl) _ _ (gl + 2) 41 _ (0, 0) _ rfl hB6 Tryd.underlying41 rfl (by rw [List.size_toArray]; exact HIC.out)
          · rw [HDN.out]
            refine (HF.out.os.keep fun j h1 _ => ?_).mono (by have := HGL.out; omega)
            exact (At'.setCells cs 0 wr (fun _ _ => rfl) j (by omega))
          · have hbb : Below gl w (wr.setCells (gl + 2) 0 cs) := Below.setCells _ (by omega) _ _ _ HF.out.bel
            rw [← HGL.out]
            exact hbb
        · have h1 : na = 1 := by have := HNL.out; omega
          subst h1
          obtain ⟨p, hp⟩ : ∃ p, l = [p] := List.length_eq_one_iff.1 HNA.out.symm
          have HP : Hid (p.1.length = 32 ∧ p.2.length = 32) := HI.out.rl.ok p (by rw [hp]; simp)
          have hA := HI.out.rl.1
          have hV := HI.out.rl.2
          have hna := HI.out.na (by rw [hp]; simp)
          have hnv := HI.out.nv (by rw [hp]; simp)
          rw [hp] at hA hV
          obtain ⟨ba, offa, cpa', hva, hya⟩ := hA.at (by simp)
          obtain ⟨bv, offv, cpv', hvv, hyv⟩ := hV.at (by simp)
          simp only [Value.slice.injEq] at hva hvv
          obtain ⟨rfl, hq1, rfl⟩ := hva
          obtain ⟨rfl, hq2, rfl⟩ := hvv
          clear hq1 hq2
          obtain ⟨da, HDA⟩ : ∃ d, Hid (d = p.1) := ⟨_, rfl⟩
          obtain ⟨dv, HDV⟩ : ∃ d, Hid (d = p.2) := ⟨_, rfl⟩
          rw [← HDA.out, ← HDV.out] at HP
          have hra := hya 0 (by simp)
          have hrv := hyv 0 (by simp)
          simp only [List.map_cons, List.map_nil, List.getD_cons_zero, Nat.zero_mul, Nat.add_zero, ← HDA.out] at hra
          simp only [List.map_cons, List.map_nil, List.getD_cons_zero, Nat.zero_mul, Nat.add_zero, ← HDV.out] at hrv
          have HF0 : Hid (Fn w gl (.slice (some ⟨ba, offa, none⟩) 1 cpx) (.slice (some ⟨bv, offv, none⟩) 1 cpw) (.slice ads ns cps) sd (prfV (.slice ads ns cps) 0 zb32 zb32) ba offa da bv offv dv wr) := ⟨HI.out.lb, HI.out.rb, HI.out.pb, HI.out.os, hra, hrv, by have := (hna ba rfl).1; omega, by have := (hnv bv rfl).1; omega, HI.out.bel⟩
          have HPE : Hid (wayL l0 x 0 = (sd, some p)) := by show _ = _; rw [HDN.out, hp]; rfl
          clear hya hyv hA hV hp hna hnv hra hrv HI
          have ce : wr.cell? ⟨gl + 3, 1, none⟩ = some (.int .i64 0) := HF0.out.pb.cell 1
          have fe : wr.frozen? ⟨gl + 3, 1, none⟩ = false := HF0.out.pb.frozen 1
          have HF1 : Hid (Fn w gl (.slice (some ⟨ba, offa, none⟩) 1 cpx) (.slice (some ⟨bv, offv, none⟩) 1 cpw) (.slice ads ns cps) sd (prfV (.slice ads ns cps) 1 zb32 zb32) ba offa da bv offv dv (wr.setCell ⟨gl + 3, 1, none⟩ (.int .i64 1))) := HF0.out.at (fun k hk => heap_one hk) (HF0.out.pb.set 1 _) (HF0.out.bel.setCell (by show gl ≤ gl + 3; omega) _)
          go_upto_region 10 with fail
          clear ce fe HF0 ca
          generalize wr.setCell ⟨gl + 3, 1, none⟩ (.int .i64 1) = u1 at *
          have ca : u1.cell? ⟨gl, 0, none⟩ = some (.slice (some ⟨ba, offa, none⟩) 1 cpx) := HF1.out.lb.cell 0
          have HF2 : Hid (Fn w gl (.slice (some ⟨ba, offa, none⟩) 1 cpx) (.slice (some ⟨bv, offv, none⟩) 1 cpw) (.slice ads ns cps) sd (prfV (.slice ads ns cps) 1 da zb32) ba offa da bv offv dv (u1.setCells (gl + 3) 2 (cb da))) := HF1.out.at (fun k hk => At'.setCells _ _ _ (fun _ _ => rfl) k hk) (prfV_ix HF1.out.pb zb32_len HP.out.1) (Below.setCells _ (by omega) _ _ _ HF1.out.bel)
          go_upto_region 11 with (first
            | (with_reducible refine wpSeq_loadAt (.tmp 46) ba offa da ?_ ?_ ?_ ?_ ?_ ?_
               · exact HP.out.1
               · exact HF1.out.ra
               · with_reducible rfl
               · rfl
               · rfl)
            | (with_reducible refine wpList_store_mid ?_ 24 (.tmp 48) (.tmp 47) ?_ (gl + 3) 2 (cb da).toArray ?_ ?_ (HF1.out.pb.there 2 _ (by rw [List.size_toArray, cb_len, HP.out.1, prfV_len zb32_len zb32_len]; omega)) (by rw [List.size_toArray, cb_len, HP.out.1]; exact info_digest) (all_oneCell_toArray (cb_one da)) ?_
               · rfl
               · rfl
               · rfl
               · rfl
               rw [List.toList_toArray]))
          clear ca HF1
          generalize u1.setCells (gl + 3) 2 (cb da) = u2 at *
          have cv : u2.cell? ⟨gl, 1, none⟩ = some (.slice (some ⟨bv, offv, none⟩) 1 cpw) := HF2.out.lb.cell 1
          obtain ⟨cs, HCS⟩ : ∃ c, Hid (c = (prfV (.slice ads ns cps) 1 da dv)) := ⟨_, rfl⟩
          have HF : Hid (Fn w gl (.slice (some ⟨ba, offa, none⟩) 1 cpx) (.slice (some ⟨bv, offv, none⟩) 1 cpw) (.slice ads ns cps) sd cs ba offa da bv offv dv (u2.setCells (gl + 3) 34 (cb dv))) := by rw [HCS.out]; exact HF2.out.at (fun k hk => At'.setCells _ _ _ (fun _ _ => rfl) k hk) (prfV_va HF2.out.pb HP.out.1 zb32_len HP.out.2) (Below.setCells _ (by omega) _ _ _ HF2.out.bel)
          go_upto_region 12 with (first
            | (with_reducible refine wpSeq_loadAt (.tmp 51) bv offv dv ?_ ?_ ?_ ?_ ?_ ?_
               · exact HP.out.2
               · exact HF2.out.rv
               · with_reducible rfl
               · rfl
               · rfl)
            | (with_reducible refine wpList_store_mid ?_ 24 (.tmp 53) (.tmp 52) ?_ (gl + 3) 34 (cb dv).toArray ?_ ?_ (HF2.out.pb.there 34 _ (by rw [List.size_toArray, cb_len, HP.out.2, prfV_len HP.out.1 zb32_len]; omega)) (by rw [List.size_toArray, cb_len, HP.out.2]; exact info_digest) (all_oneCell_toArray (cb_one dv)) ?_
               · rfl
               · rfl
               · rfl
               · rfl
               rw [List.toList_toArray]))
          clear cv HF2
          generalize u2.setCells (gl + 3) 34 (cb dv) = u3 at *
          have HCE : Hid (prfV (.slice ads ns cps) (pend (wayL l0 x 0).2).1 (pend (wayL l0 x 0).2).2.1 (pend (wayL l0 x 0).2).2.2 = cs) := by show _ = _; rw [HPE.out, HCS.out, HDA.out, HDV.out]; rfl
          have HIC : Hid ((Tryd.prog.info? 41).map (·.size) = some cs.length) := by show _ = _; rw [HCS.out, prfV_len HP.out.1 HP.out.2]; exact info_proof
          have H1C : Hid (cs.toArray.all (·.oneCell') = true) := by show _ = _; rw [HCS.out]; exact all_oneCell_toArray (prfV_one rfl)
          have HLC : Hid (cs.length = 66) := by show _ = _; rw [HCS.out, prfV_len HP.out.1 HP.out.2]
          clear HCS HPE
          go_wp2_with (first
            | (refine wpSeq_val (.agg cs.toArray) _ (by rfl) (load_run 41 _ rfl (gl + 3) 0 rfl cs _ HF.out.pb.range Tryd.underlying41 rfl HIC.out) ?_)
            | (with_reducible refine wpList_store_mid ?_ 41 (.tmp 4) (.tmp 54) ?_ (gl + 2) 0 cs.toArray ?_ ?_ (HF.out.rb.there 0 _ (by rw [List.size_toArray, HLC.out, prfV_len zb32_len zb32_len]; omega)) (by rw [List.size_toArray]; exact HIC.out) H1C.out ?_
               · rfl
               · rfl
               · rfl
               · rfl))
          have hB6 := HF.out.rb.whole cs (by rw [HLC.out, prfV_len zb32_len zb32_len])
          refine bodyPost_ret (v := Value.agg cs.toArray) ?_ rfl ⟨.slice ads ns cps, by rw [HCE.out], ?_, ?_⟩
          · exact results_cell_row (by rfl) _ _ (gl + 2) 41 _ (0, 0) _ rfl hB6 Tryd.underlying41 rfl (by rw [List.size_toArray]; exact HIC.out)
          · rw [HDN.out]
            refine (HF.out.os.keep fun j h1 _ => ?_).mono (by have := HGL.out; omega)
            exact (At'.setCells cs 0 u3 (fun _ _ => rfl) j (by omega))
          · have hbb : Below gl w (u3.setCells (gl + 2) 0 cs) := Below.setCells _ (by omega) _ _ _ HF.out.bel
            rw [← HGL.out]
            exact hbb
      · have hdi : ¬ ((d : Int) < 256) := by omega
        have hdb : decide ((d : Int) < 256) = false := decide_eq_false hdi
        clear hgo hd
        go_upto_region 8 with fail
        clear hdb
        by_cases hz : na = 0
        · subst hz
          have hnil : l = [] := List.length_eq_zero_iff.1 HNA.out.symm
          obtain ⟨cs, HCS⟩ : ∃ c, Hid (c = (prfV (.slice ads ns cps) 0 zb32 zb32)) := ⟨_, rfl⟩
          have HF : Hid (Fn w gl (.slice adx 0 cpx) (.slice adw 0 cpw) (.slice ads ns cps) sd cs 0 0 [] 0 0 [] wr) := by
            rw [HCS.out]
            exact ⟨HI.out.lb, HI.out.rb, HI.out.pb, HI.out.os, fun j u hj => by simp [cb] at hj, fun j u hj => by simp [cb] at hj, by omega, by omega, HI.out.bel⟩
          have HCE : Hid (prfV (.slice ads ns cps) (pend (wayL l0 x 0).2).1 (pend (wayL l0 x 0).2).2.1 (pend (wayL l0 x 0).2).2.2 = cs) := by show _ = _; rw [HDN.out, hnil, HCS.out]; rfl
          have HIC : Hid ((Tryd.prog.info? 41).map (·.size) = some cs.length) := by show _ = _; rw [HCS.out, prfV_len zb32_len zb32_len]; exact info_proof
          have H1C : Hid (cs.toArray.all (·.oneCell') = true) := by show _ = _; rw [HCS.out]; exact all_oneCell_toArray (prfV_one rfl)
          have HLC : Hid (cs.length = 66) := by show _ = _; rw [HCS.out, prfV_len zb32_len zb32_len]
          clear hnil HCS HI
          go_wp2_with (first
            | (refine wpSeq_val (.agg cs.toArray) _ (by rfl) (load_run 41 _ rfl (gl + 3) 0 rfl cs _ HF.out.pb.range Tryd.underlying41 rfl HIC.out) ?_)
            | (with_reducible refine wpList_store_mid ?_ 41 (.tmp 4) (.tmp 54) ?_ (gl + 2) 0 cs.toArray ?_ ?_ (HF.out.rb.there 0 _ (by rw [List.size_toArray, HLC.out, prfV_len zb32_len zb32_len]; omega)) (by rw [List.size_toArray]; exact HIC.out) H1C.out ?_
               · rfl
               · rfl
               · rfl
               · rfl))
          have hB6 := HF.out.rb.whole cs (by rw [HLC.out, prfV_len zb32_len zb32_len])
          refine bodyPost_ret (v := Value.agg cs.toArray) ?_ rfl ⟨.slice ads ns cps, by rw [HCE.out], ?_, ?_⟩
          · exact results_cell_row (by rfl) _ _ (gl + 2) 41 _ (0, 0) _ rfl hB6 Tryd.underlying41 rfl (by rw [List.size_toArray]; exact HIC.out)
          · rw [HDN.out]
            refine (HF.out.os.keep fun j h1 _ => ?_).mono (by have := HGL.out; omega)
            exact (At'.setCells cs 0 wr (fun _ _ => rfl) j (by omega))
          · have hbb : Below gl w (wr.setCells (gl + 2) 0 cs) := Below.setCells _ (by omega) _ _ _ HF.out.bel
            rw [← HGL.out]
            exact hbb
        · have h1 : na = 1 := by have := HNL.out; omega
          subst h1
          obtain ⟨p, hp⟩ : ∃ p, l = [p] := List.length_eq_one_iff.1 HNA.out.symm
          have HP : Hid (p.1.length = 32 ∧ p.2.length = 32) := HI.out.rl.ok p (by rw [hp]; simp)
          have hA := HI.out.rl.1
          have hV := HI.out.rl.2
          have hna := HI.out.na (by rw [hp]; simp)
          have hnv := HI.out.nv (by rw [hp]; simp)
          rw [hp] at hA hV
          obtain ⟨ba, offa, cpa', hva, hya⟩ := hA.at (by simp)
          obtain ⟨bv, offv, cpv', hvv, hyv⟩ := hV.at (by simp)
          simp only [Value.slice.injEq] at hva hvv
          obtain ⟨rfl, hq1, rfl⟩ := hva
          obtain ⟨rfl, hq2, rfl⟩ := hvv
          clear hq1 hq2
          obtain ⟨da, HDA⟩ : ∃ d, Hid (d = p.1) := ⟨_, rfl⟩
          obtain ⟨dv, HDV⟩ : ∃ d, Hid (d = p.2) := ⟨_, rfl⟩
          rw [← HDA.out, ← HDV.out] at HP
          have hra := hya 0 (by simp)
          have hrv := hyv 0 (by simp)
          simp only [List.map_cons, List.map_nil, List.getD_cons_zero, Nat.zero_mul, Nat.add_zero, ← HDA.out] at hra
          simp only [List.map_cons, List.map_nil, List.getD_cons_zero, Nat.zero_mul, Nat.add_zero, ← HDV.out] at hrv
          have HF0 : Hid (Fn w gl (.slice (some ⟨ba, offa, none⟩) 1 cpx) (.slice (some ⟨bv, offv, none⟩) 1 cpw) (.slice ads ns cps) sd (prfV (.slice ads ns cps) 0 zb32 zb32) ba offa da bv offv dv wr) := ⟨HI.out.lb, HI.out.rb, HI.out.pb, HI.out.os, hra, hrv, by have := (hna ba rfl).1; omega, by have := (hnv bv rfl).1; omega, HI.out.bel⟩
          have HPE : Hid (wayL l0 x 0 = (sd, some p)) := by show _ = _; rw [HDN.out, hp]; rfl
          clear hya hyv hA hV hp hna hnv hra hrv HI
          have ce : wr.cell? ⟨gl + 3, 1, none⟩ = some (.int .i64 0) := HF0.out.pb.cell 1
          have fe : wr.frozen? ⟨gl + 3, 1, none⟩ = false := HF0.out.pb.frozen 1
          have HF1 : Hid (Fn w gl (.slice (some ⟨ba, offa, none⟩) 1 cpx) (.slice (some ⟨bv, offv, none⟩) 1 cpw) (.slice ads ns cps) sd (prfV (.slice ads ns cps) 1 zb32 zb32) ba offa da bv offv dv (wr.setCell ⟨gl + 3, 1, none⟩ (.int .i64 1))) := HF0.out.at (fun k hk => heap_one hk) (HF0.out.pb.set 1 _) (HF0.out.bel.setCell (by show gl ≤ gl + 3; omega) _)
          go_upto_region 10 with fail
          clear ce fe HF0 ca
          generalize wr.setCell ⟨gl + 3, 1, none⟩ (.int .i64 1) = u1 at *
          have ca : u1.cell? ⟨gl, 0, none⟩ = some (.slice (some ⟨ba, offa, none⟩) 1 cpx) := HF1.out.lb.cell 0
          have HF2 : Hid (Fn w gl (.slice (some ⟨ba, offa, none⟩) 1 cpx) (.slice (some ⟨bv, offv, none⟩) 1 cpw) (.slice ads ns cps) sd (prfV (.slice ads ns cps) 1 da zb32) ba offa da bv offv dv (u1.setCells (gl + 3) 2 (cb da))) := HF1.out.at (fun k hk => At'.setCells _ _ _ (fun _ _ => rfl) k hk) (prfV_ix HF1.out.pb zb32_len HP.out.1) (Below.setCells _ (by omega) _ _ _ HF1.out.bel)
          go_upto_region 11 with (first
            | (with_reducible refine wpSeq_loadAt (.tmp 46) ba offa da ?_ ?_ ?_ ?_ ?_ ?_
               · exact HP.out.1
               · exact HF1.out.ra
               · with_reducible rfl
               · rfl
               · rfl)
            | (with_reducible refine wpList_store_mid ?_ 24 (.tmp 48) (.tmp 47) ?_ (gl + 3) 2 (cb da).toArray ?_ ?_ (HF1.out.pb.there 2 _ (by rw [List.size_toArray, cb_len, HP.out.1, prfV_len zb32_len zb32_len]; omega)) (by rw [List.size_toArray, cb_len, HP.out.1]; exact info_digest) (all_oneCell_toArray (cb_one da)) ?_
               · rfl
               · rfl
               · rfl
               · rfl
               rw [List.toList_toArray]))
          clear ca HF1
          generalize u1.setCells (gl + 3) 2 (cb da) = u2 at *
          have cv : u2.cell? ⟨gl, 1, none⟩ = some (.slice (some ⟨bv, offv, none⟩) 1 cpw) := HF2.out.lb.cell 1
          obtain ⟨cs, HCS⟩ : ∃ c, Hid (c = (prfV (.slice ads ns cps) 1 da dv)) := ⟨_, rfl⟩
          have HF : Hid (Fn w gl (.slice (some ⟨ba, offa, none⟩) 1 cpx) (.slice (some ⟨bv, offv, none⟩) 1 cpw) (.slice ads ns cps) sd cs ba offa da bv offv dv (u2.setCells (gl + 3) 34 (cb dv))) := by rw [HCS.out]; exact HF2.out.at (fun k hk => At'.setCells _ _ _ (fun _ _ => rfl) k hk) (prfV_va HF2.out.pb HP.out.1 zb32_len HP.out.2) (Below.setCells _ (by omega) _ _ _ HF2.out.bel)
          go_upto_region 12 with (first
            | (with_reducible refine wpSeq_loadAt (.tmp 51) bv offv dv ?_ ?_ ?_ ?_ ?_ ?_
               · exact HP.out.2
               · exact HF2.out.rv
               · with_reducible rfl
               · rfl
               · rfl)
            | (with_reducible refine wpList_store_mid ?_ 24 (.tmp 53) (.tmp 52) ?_ (gl + 3) 34 (cb dv).toArray ?_ ?_ (HF2.out.pb.there 34 _ (by rw [List.size_toArray, cb_len, HP.out.2, prfV_len HP.out.1 zb32_len]; omega)) (by rw [List.size_toArray, cb_len, HP.out.2]; exact info_digest) (all_oneCell_toArray (cb_one dv)) ?_
               · rfl
               · rfl
               · rfl
               · rfl
               rw [List.toList_toArray]))
          clear cv HF2
          generalize u2.setCells (gl + 3) 34 (cb dv) = u3 at *
          have HCE : Hid (prfV (.slice ads ns cps) (pend (wayL l0 x 0).2).1 (pend (wayL l0 x 0).2).2.1 (pend (wayL l0 x 0).2).2.2 = cs) := by show _ = _; rw [HPE.out, HCS.out, HDA.out, HDV.out]; rfl
          have HIC : Hid ((Tryd.prog.info? 41).map (·.size) = some cs.length) := by show _ = _; rw [HCS.out, prfV_len HP.out.1 HP.out.2]; exact info_proof
          have H1C : Hid (cs.toArray.all (·.oneCell') = true) := by show _ = _; rw [HCS.out]; exact all_oneCell_toArray (prfV_one rfl)
          have HLC : Hid (cs.length = 66) := by show _ = _; rw [HCS.out, prfV_len HP.out.1 HP.out.2]
          clear HCS HPE
          go_wp2_with (first
            | (refine wpSeq_val (.agg cs.toArray) _ (by rfl) (load_run 41 _ rfl (gl + 3) 0 rfl cs _ HF.out.pb.range Tryd.underlying41 rfl HIC.out) ?_)
            | (with_reducible refine wpList_store_mid ?_ 41 (.tmp 4) (.tmp 54) ?_ (gl + 2) 0 cs.toArray ?_ ?_ (HF.out.rb.there 0 _ (by rw [List.size_toArray, HLC.out, prfV_len zb32_len zb32_len]; omega)) (by rw [List.size_toArray]; exact HIC.out) H1C.out ?_
               · rfl
               · rfl
               · rfl
               · rfl))
          have hB6 := HF.out.rb.whole cs (by rw [HLC.out, prfV_len zb32_len zb32_len])
          refine bodyPost_ret (v := Value.agg cs.toArray) ?_ rfl ⟨.slice ads ns cps, by rw [HCE.out], ?_, ?_⟩
          · exact results_cell_row (by rfl) _ _ (gl + 2) 41 _ (0, 0) _ rfl hB6 Tryd.underlying41 rfl (by rw [List.size_toArray]; exact HIC.out)
          · rw [HDN.out]
            refine (HF.out.os.keep fun j h1 _ => ?_).mono (by have := HGL.out; omega)
            exact (At'.setCells cs 0 u3 (fun _ _ => rfl) j (by omega))
          · have hbb : Below gl w (u3.setCells (gl + 2) 0 cs) := Below.setCells _ (by omega) _ _ _ HF.out.bel
            rw [← HGL.out]
            exact hbb
end Go.Proofs.YtphacinnnepdoaaDoor
/- The walk of the reference's Put. -/
namespace Go.Proofs.YtphacinnnepdoaaDoor
open Go.RowKit
set_option maxRecDepth 100000
theorem putL_all {l : List Lf} {x v : List (BitVec 8)} (h : ∀ p ∈ l, lessB p.1 x = true) : putL l x v = l ++ [(x, v)] := by
  unfold putL
  have h1 : (l.takeWhile fun p => lessB p.1 x) = l := by
    have := List.takeWhile_append_of_pos (l₁ := l) (l₂ := []) (p := fun p : Lf => lessB p.1 x) (fun p hp => h p hp)
    simpa using this
  have h2 : (l.dropWhile fun p => lessB p.1 x) = [] := by
    have := List.dropWhile_append_of_pos (l₁ := l) (l₂ := []) (p := fun p : Lf => lessB p.1 x) (fun p hp => h p hp)
    simpa using this
  rw [h1, h2]
  rfl
theorem putL_new {l : List Lf} {x v : List (BitVec 8)} {e : Lf} (h : ∀ p ∈ l, lessB p.1 x = true) (he : lessB e.1 x = false) : putL (l ++ [e]) x v = l ++ [(x, v)] ++ (if decide (e.1 ≠ x) then [e] else []) := by
  unfold putL
  have h1 : ((l ++ [e]).takeWhile fun p => lessB p.1 x) = l := by
    rw [List.takeWhile_append_of_pos (fun p hp => h p hp)]
    simp [he]
  have h2 : ((l ++ [e]).dropWhile fun p => lessB p.1 x) = [e] := by
    rw [List.dropWhile_append_of_pos (fun p hp => h p hp)]
    simp [he]
  rw [h1, h2]
  simp only [List.filter_cons, List.filter_nil, List.append_assoc, List.cons_append, List.nil_append]
theorem putL_old {l : List Lf} {x v : List (BitVec 8)} {e : Lf} (h : ∃ p ∈ l, lessB p.1 x = false) : putL (l ++ [e]) x v = putL l x v ++ (if decide (e.1 ≠ x) then [e] else []) := by
  have key : ∀ l : List Lf, (∃ p ∈ l, lessB p.1 x = false) → ((l ++ [e]).takeWhile fun p => lessB p.1 x) = (l.takeWhile fun p => lessB p.1 x) ∧ ((l ++ [e]).dropWhile fun p => lessB p.1 x) = (l.dropWhile fun p => lessB p.1 x) ++ [e] := by
    intro l
    induction l with
    | nil => rintro ⟨p, hp, _⟩; cases hp
    | cons a r ih =>
      rintro ⟨p, hp, hpx⟩
      cases ha : lessB a.1 x with
      | false => simp [ha]
      | true =>
        have hr : ∃ p ∈ r, lessB p.1 x = false := by
          rcases List.mem_cons.1 hp with rfl | hp
          · rw [ha] at hpx; cases hpx
          · exact ⟨p, hp, hpx⟩
        have := ih hr
        simp [ha, this.1, this.2]
  unfold putL
  rw [(key l h).1, (key l h).2, List.filter_append]
  simp only [List.filter_cons, List.filter_nil, List.append_assoc, List.cons_append]
/-- what Put has made of the first k -/
def PtI (l : List Lf) (x v : List (BitVec 8)) (k : Nat) (pt : Bool) (A : List Lf) : Prop :=
  (pt = false ∧ A = l.take k ∧ ∀ p ∈ l.take k, lessB p.1 x = true) ∨ (pt = true ∧ A = putL (l.take k) x v ∧ ∃ p ∈ l.take k, lessB p.1 x = false)
theorem PtI.start (l : List Lf) (x v : List (BitVec 8)) : PtI l x v 0 false [] := Or.inl ⟨rfl, rfl, fun p hp => by cases hp⟩
/-- behind the first question: x is put, if it is its turn -/
def mid (x v : List (BitVec 8)) (pt : Bool) (da : List (BitVec 8)) (A : List Lf) : List Lf := if !pt && !lessB da x then A ++ [(x, v)] else A
theorem PtI.next {l : List Lf} {x v : List (BitVec 8)} {k : Nat} {pt : Bool} {A : List Lf} {e : Lf} (h : PtI l x v k pt A) (ht : l.take (k + 1) = l.take k ++ [e]) : PtI l x v (k + 1) (pt || !lessB e.1 x) (mid x v pt e.1 A ++ if decide (e.1 ≠ x) then [e] else []) := by
  rcases h with ⟨rfl, rfl, h⟩ | ⟨rfl, rfl, h⟩
  · cases he : lessB e.1 x with
    | true =>
      refine Or.inl ⟨rfl, ?_, ?_⟩
      · rw [ht]
        have hn := less_ne he
        simp [mid, he, hn]
      · rw [ht]
        intro p hp
        rcases List.mem_append.1 hp with hp | hp
        · exact h p hp
        · rw [List.mem_singleton] at hp; subst hp; exact he
    | false =>
      refine Or.inr ⟨rfl, ?_, e, by rw [ht]; simp, he⟩
      rw [ht, putL_new h he]
      simp [mid, he]
  · refine Or.inr ⟨rfl, ?_, ?_⟩
    · rw [ht, putL_old h]
      simp [mid]
    · obtain ⟨p, hp, hpx⟩ := h
      exact ⟨p, by rw [ht]; exact List.mem_append_left _ hp, hpx⟩
theorem PtI.len {l : List Lf} {x v : List (BitVec 8)} {k : Nat} {pt : Bool} {A : List Lf} (h : PtI l x v k pt A) : A.length ≤ l.length + 1 := by
  rcases h with ⟨_, rfl, _⟩ | ⟨_, rfl, _⟩
  · rw [List.length_take]; omega
  · unfold putL
    have h1 := congrArg List.length (take_drop_while (l.take k) fun p => lessB p.1 x)
    rw [List.length_append, List.length_take] at h1
    rw [List.length_append, List.length_cons]
    refine Nat.le_trans (Nat.add_le_add_left (Nat.succ_le_succ (List.length_filter_le _ _)) _) ?_
    omega
theorem PtI.done {l : List Lf} {x v : List (BitVec 8)} {k : Nat} {pt : Bool} {A : List Lf} (h : PtI l x v k pt A) (hk : l.take k = l) : putL l x v = A ++ if pt then [] else [(x, v)] := by
  rcases h with ⟨rfl, rfl, h⟩ | ⟨rfl, rfl, h⟩
  · rw [hk] at h ⊢
    rw [putL_all h]
    rfl
  · rw [hk]
    simp
theorem putL_len (l : List Lf) (x v : List (BitVec 8)) : (putL l x v).length ≤ l.length + 1 := by
  unfold putL
  have h1 := congrArg List.length (take_drop_while l fun p => lessB p.1 x)
  rw [List.length_append] at h1
  rw [List.length_append, List.length_cons]
  refine Nat.le_trans (Nat.add_le_add_left (Nat.succ_le_succ (List.length_filter_le _ _)) _) ?_
  omega
set_option maxRecDepth 100000 in
set_option maxHeartbeats 8000000 in
theorem lfPut_any (va vv : Value) (l : List Lf) (x v : List (BitVec 8)) (w : World) (hR : ReadsLf w va vv l) (hl : l.length < 1000000) (hx : x.length = 32) (hv : v.length = 32) :
    Calls Tryd.prog 28 #[.agg #[va, vv], .agg (cb x).toArray, .agg (cb v).toArray] w fun e w' => ∃ xa xv, e = .returned (.agg #[xa, xv]) ∧ OwnLf w' w.heap.size xa xv ((putL l x v).map (·.1)) ((putL l x v).map (·.2)) ∧ Below w.heap.size w w' := by
  have HR : Hid (ReadsLf w va vv l) := hR
  have HL : Hid (l.length < 1000000) := hl
  have HX32 : Hid (x.length = 32) := hx
  have HY32 : Hid (v.length = 32) := hv
  obtain ⟨n, HN⟩ : ∃ n, Hid (n = l.length) := ⟨_, rfl⟩
  obtain ⟨ada, cpa, hva⟩ := hR.1.slice
  obtain ⟨adv, cpv, hvv⟩ := hR.2.slice
  rw [List.length_map, ← HN.out] at hva hvv
  subst hva hvv
  clear hR hl hx hv
  obtain ⟨gl, HGL⟩ : ∃ g, Hid (g = w.heap.size) := ⟨_, rfl⟩
  obtain ⟨w1, HW1⟩ : ∃ z, Hid (z = w.alloc (.cells [Value.slice ada n cpa, .slice adv n cpv].toArray 30)) := ⟨_, rfl⟩
  obtain ⟨w2, HW2⟩ : ∃ z, Hid (z = w1.alloc (.cells (cb x).toArray 24)) := ⟨_, rfl⟩
  obtain ⟨w3, HW3⟩ : ∃ z, Hid (z = w2.alloc (.cells (cb v).toArray 24)) := ⟨_, rfl⟩
  obtain ⟨wG, HWG⟩ : ∃ z, Hid (z = w3.alloc (.cells [nilV, nilV].toArray 30)) := ⟨_, rfl⟩
  have s1 : w1.heap.size = gl + 1 := by rw [HW1.out, HGL.out]; simp
  have s2 : w2.heap.size = gl + 2 := by rw [HW2.out]; simp [s1]
  have s3 : w3.heap.size = gl + 3 := by rw [HW3.out]; simp [s2]
  have s4 : wG.heap.size = gl + 4 := by rw [HWG.out]; simp [s3]
  have t1 : Below (gl + 1) w1 w2 := by rw [← s1, HW2.out]; exact below_alloc _ _
  have t2 : Below (gl + 2) w2 w3 := by rw [← s2, HW3.out]; exact below_alloc _ _
  have t3 : Below (gl + 3) w3 wG := by rw [← s3, HWG.out]; exact below_alloc _ _
  have HLB : Hid (Blk wG gl [Value.slice ada n cpa, .slice adv n cpv] 30) := by
    have h1 : Blk w1 gl [Value.slice ada n cpa, .slice adv n cpv] 30 := by rw [HW1.out, HGL.out]; exact Blk.new w _ _
    exact ((h1.below t1 (by omega)).below t2 (by omega)).below t3 (by omega)
  have HXB : Hid (Blk wG (gl + 1) (cb x) 24) := by
    have h1 : Blk w2 (gl + 1) (cb x) 24 := by rw [HW2.out, ← s1]; exact Blk.new w1 _ _
    exact (h1.below t2 (by omega)).below t3 (by omega)
  have HYB : Hid (Blk wG (gl + 2) (cb v) 24) := by
    have h1 : Blk w3 (gl + 2) (cb v) 24 := by rw [HW3.out, ← s2]; exact Blk.new w2 _ _
    exact h1.below t3 (by omega)
  have HRB : Hid (Blk wG (gl + 3) [nilV, nilV] 30) := by rw [HWG.out, ← s3]; exact Blk.new w3 _ _
  have HBW : Hid (Below w.heap.size w wG) := by
    have h1 : Below gl w w1 := by rw [HW1.out, HGL.out]; exact below_alloc _ _
    rw [← HGL.out]
    exact ((h1.trans (t1.mono (by omega))).trans (t2.mono (by omega))).trans (t3.mono (by omega))
  obtain ⟨go, HGO⟩ : ∃ g, Hid (g = wG.heap.size) := ⟨_, rfl⟩
  have HSZ : Hid (go = gl + 4) := by show _ = _; rw [HGO.out, s4]
  have HCA : Hid (∀ wx, Below go wG wx → wx.cell? ⟨gl, 0, none⟩ = some (.slice ada n cpa)) := fun wx hx => (HLB.out.below hx (by have := HSZ.out; omega)).cell 0
  have HCV : Hid (∀ wx, Below go wG wx → wx.cell? ⟨gl, 1, none⟩ = some (.slice adv n cpv)) := fun wx hx => (HLB.out.below hx (by have := HSZ.out; omega)).cell 1
  have HCX : Hid (∀ wx, Below go wG wx → Blk wx (gl + 1) (cb x) 24) := fun wx hx => HXB.out.below hx (by have := HSZ.out; omega)
  have HCY : Hid (∀ wx, Below go wG wx → Blk wx (gl + 2) (cb v) 24) := fun wx hx => HYB.out.below hx (by have := HSZ.out; omega)
  have HI : Hid (Lv wG go nilV nilV [] [] (wG.alloc (.cells [nilV, nilV].toArray 30))) := by rw [HGO.out]; exact Lv.start wG
  clear t1 t2 t3 HXB HYB HLB
  clear s1 s2 s3 s4
  go_enter Tryd.func28, Tryd.ntmps28
  go_wp2_with (first
    | (refine wpSeq_val _ _ (by rfl) (boxDigest _ _ (.tmp 1) rfl x rfl _) ?_)
    | (refine wpSeq_val _ _ (by rfl) (boxDigest _ _ (.tmp 2) rfl v rfl _) ?_))
  have e0 : (some ⟨w.heap.size, 0, none⟩ : Option Addr) = some ⟨gl, 0, none⟩ := by rw [HGL.out]
  have e1 : (some ⟨w.heap.size + 1, 0, none⟩ : Option Addr) = some ⟨gl + 1, 0, none⟩ := by rw [HGL.out]
  have e2 : (some ⟨w.heap.size + 1 + 1, 0, none⟩ : Option Addr) = some ⟨gl + 2, 0, none⟩ := by rw [HGL.out]
  have e3 : (some ⟨w.heap.size + 1 + 1 + 1, 0, none⟩ : Option Addr) = some ⟨gl + 3, 0, none⟩ := by rw [HGL.out]
  have e4 : (some ⟨w.heap.size + 1 + 1 + 1 + 1, 0, none⟩ : Option Addr) = some ⟨go, 0, none⟩ := by rw [HSZ.out, HGL.out]
  simp only [e0, e1, e2, e3, e4]
  clear e0 e1 e2 e3 e4
  change Code.wp _ _ _ _ (((((w.alloc (.cells [Value.slice ada n cpa, .slice adv n cpv].toArray 30)).alloc (.cells (cb x).toArray 24)).alloc (.cells (cb v).toArray 24)).alloc (.cells [nilV, nilV].toArray 30)).alloc (.cells [nilV, nilV].toArray 30))
  rw [← HW1.out, ← HW2.out, ← HW3.out, ← HWG.out]
  generalize wG.alloc (.cells [nilV, nilV].toArray 30) = w0 at *
  clear HW1 HW2 HW3 HWG HGO
  go_loopw [8, 9] (fun b j wr => ∃ (k : Nat) (xa xv : Value) (pt : Bool) (A : List Lf), k ≤ n ∧ b = .bool pt ∧ j = .int .i64 (k : Int) ∧ Lv wG go xa xv (A.map (·.1)) (A.map (·.2)) wr ∧ PtI l x v k pt A) (fun _ j _ => n - (intOf j).toNat)
  case atStart => exact ⟨0, nilV, nilV, false, [], by omega, rfl, rfl, by simpa using HI.out, PtI.start l x v⟩
  case round =>
    clear HI
    obtain ⟨k, xa, xv, pt, A, hk, rfl, rfl, hI, hP⟩ := hrel
    have HI : Hid (Lv wG go xa xv (A.map (·.1)) (A.map (·.2)) wr) := hI
    have HPT : Hid (PtI l x v k pt A) := hP
    clear hI hP
    have ca : wr.cell? ⟨gl, 0, none⟩ = some (.slice ada n cpa) := HCA.out wr HI.out.bel
    have HAL : Hid (A.length < 1500000) := by show _ < _; have h1 := HPT.out.len; have h2 := HL.out; omega
    by_cases hlt : k < n
    · have hlti : (k : Int) < (n : Int) := by omega
      have k0 : (0 : Int) ≤ (k : Int) := by omega
      have hn6 : n < 1000000 := by rw [HN.out]; exact HL.out
      have f5 : IntKind.i64.wrap ((k : Int) + 1) = (k : Int) + 1 := wrap_small2 _ (by omega) (by omega)
      have HKL : Hid (k < l.length) := by show _ < _; rw [← HN.out]; exact hlt
      obtain ⟨ba, offa, cpa', hva, hya⟩ := HR.out.1.at (by rw [List.length_map]; have := HKL.out; omega)
      obtain ⟨bv, offv, cpv', hvv, hyv⟩ := HR.out.2.at (by rw [List.length_map]; have := HKL.out; omega)
      rw [List.length_map, ← HN.out] at hva hvv hya hyv
      simp only [Value.slice.injEq, true_and] at hva hvv
      obtain ⟨rfl, rfl⟩ := hva
      obtain ⟨rfl, rfl⟩ := hvv
      obtain ⟨da, HDA⟩ : ∃ d, Hid (d = (l.getD k ([], [])).1) := ⟨_, rfl⟩
      obtain ⟨dv, HDV⟩ : ∃ d, Hid (d = (l.getD k ([], [])).2) := ⟨_, rfl⟩
      have HA32 : Hid (da.length = 32) := by show _ = _; rw [HDA.out]; exact (HR.out.ok _ (getD_mem HKL.out)).1
      have HV32 : Hid (dv.length = 32) := by show _ = _; rw [HDV.out]; exact (HR.out.ok _ (getD_mem HKL.out)).2
      have HRA : Hid (∀ wx, Below go wG wx → wx.rangeAt ba (offa + k * 32) (cb da)) := fun wx hx => by
        have h := hya k hlt
        rw [map_getD1 HKL.out, ← HDA.out] at h
        have hb := rangeAt_lt h HA32.out
        exact rangeAt_below (rangeAt_below h HBW.out hb) hx (by have h1 := HSZ.out; have h2 := HGL.out; omega)
      have HRV : Hid (∀ wx, Below go wG wx → wx.rangeAt bv (offv + k * 32) (cb dv)) := fun wx hx => by
        have h := hyv k hlt
        rw [map_getD2 HKL.out, ← HDV.out] at h
        have hb := rangeAt_lt h HV32.out
        exact rangeAt_below (rangeAt_below h HBW.out hb) hx (by have h1 := HSZ.out; have h2 := HGL.out; omega)
      clear hya hyv
      have HNX : Hid (PtI l x v (k + 1) (pt || !lessB da x) (mid x v pt da A ++ if decide (da ≠ x) then [(da, dv)] else [])) := by
        have h := HPT.out.next (take_map HKL.out)
        rw [HDA.out, HDV.out]
        exact h
      obtain ⟨ls, HLS⟩ : ∃ p, Hid (lessB da x = p) := ⟨_, rfl⟩
      rw [HLS.out] at HNX
      unfold mid at HNX
      rw [HLS.out] at HNX
      go_upto_region 6 with fail
      go_cut [29] from 18 to 29 (fun b W => b = .bool (!pt && !ls) ∧ Lv wG go xa xv (A.map (·.1)) (A.map (·.2)) W)
      case first =>
        cases pt with
        | true =>
          refine wp_region_held_drew (S := Below go wG) (by kernel_rfl) HI.out.drew.bel ?_
          intro hS
          have hI := HI.out.drew
          clear HI
          change wpAnyH _ _ _ _ _ _ _ _ (World.drew wr)
          generalize World.drew wr = y0 at *
          refine wpAnyH_take (i := 0) (v := .bool true) rfl (by kernel_rfl) (by kernel_rfl) (by kernel_rfl) (fun _ _ _ h => h) (Or.inl ⟨by rfl, fun wx hx => by simp [go_sem]⟩) hS ?_
          simp only [Act.put, List.getElem_toArray, List.getElem_cons_zero, List.setIfInBounds_toArray, List.set_cons_zero, List.set_cons_succ]
          refine wpAnyH_take (i := 1) (v := .bool false) rfl (by kernel_rfl) (by kernel_rfl) (by kernel_rfl) (fun _ _ _ h => h) (Or.inl ⟨by rfl, fun wx hx => by simp [go_sem]⟩) hS ?_
          simp only [Act.put, List.getElem_toArray, List.getElem_cons_succ, List.getElem_cons_zero, List.setIfInBounds_toArray, List.set_cons_zero, List.set_cons_succ]
          refine wpAnyH_take (i := 2) (v := .bool false) rfl (by kernel_rfl) (by kernel_rfl) (by kernel_rfl) (fun _ _ _ h => h) (Or.inl ⟨by rfl, fun wx hx => by simp [go_sem]⟩) hS ?_
          simp only [Act.put, List.getElem_toArray, List.getElem_cons_succ, List.getElem_cons_zero, List.setIfInBounds_toArray, List.set_cons_zero, List.set_cons_succ]
          refine wpAnyH_take (i := 3) (v := undef) rfl (by kernel_rfl) (by kernel_rfl) (by kernel_rfl) (fun _ _ _ h => h) (Or.inr ⟨by rfl, rfl⟩) hS ?_
          simp only [Act.put, List.getElem_toArray, List.getElem_cons_succ, List.getElem_cons_zero, List.setIfInBounds_toArray, List.set_cons_zero, List.set_cons_succ]
          refine wpAnyH_take (i := 4) (v := undef) rfl (by kernel_rfl) (by kernel_rfl) (by kernel_rfl) (fun _ _ _ h => h) (Or.inr ⟨by rfl, rfl⟩) hS ?_
          simp only [Act.put, List.getElem_toArray, List.getElem_cons_succ, List.getElem_cons_zero, List.setIfInBounds_toArray, List.set_cons_zero, List.set_cons_succ]
          refine wpAnyH_take (i := 5) (v := undef) rfl (by kernel_rfl) (by kernel_rfl) (by kernel_rfl) (fun _ _ _ h => h) (Or.inr ⟨by rfl, rfl⟩) hS ?_
          simp only [Act.put, List.getElem_toArray, List.getElem_cons_succ, List.getElem_cons_zero, List.setIfInBounds_toArray, List.set_cons_zero, List.set_cons_succ]
          refine wpAnyH_take (i := 6) (v := undef) rfl (by kernel_rfl) (by kernel_rfl) (by kernel_rfl) (fun _ _ _ h => h) (Or.inr ⟨by rfl, rfl⟩) hS ?_
          simp only [Act.put, List.getElem_toArray, List.getElem_cons_succ, List.getElem_cons_zero, List.setIfInBounds_toArray, List.set_cons_zero, List.set_cons_succ]
          refine wpAnyH_take (i := 7) (v := undef) rfl (by kernel_rfl) (by kernel_rfl) (by kernel_rfl) (fun _ _ _ h => h) (Or.inr ⟨by rfl, rfl⟩) hS ?_
          simp only [Act.put, List.getElem_toArray, List.getElem_cons_succ, List.getElem_cons_zero, List.setIfInBounds_toArray, List.set_cons_zero, List.set_cons_succ]
          refine wpAnyH_take (i := 8) (v := undef) rfl (by kernel_rfl) (by kernel_rfl) (by kernel_rfl) (fun _ _ _ h => h) (Or.inr ⟨by rfl, rfl⟩) hS ?_
          simp only [Act.put, List.getElem_toArray, List.getElem_cons_succ, List.getElem_cons_zero, List.setIfInBounds_toArray, List.set_cons_zero, List.set_cons_succ]
          refine wpAnyH_take (i := 9) (v := undef) rfl (by kernel_rfl) (by kernel_rfl) (by kernel_rfl) (fun _ _ _ h => h) (Or.inr ⟨by rfl, rfl⟩) hS ?_
          simp only [Act.put, List.getElem_toArray, List.getElem_cons_succ, List.getElem_cons_zero, List.setIfInBounds_toArray, List.set_cons_zero, List.set_cons_succ]
          refine wpAnyH_take (i := 10) (v := undef) rfl (by kernel_rfl) (by kernel_rfl) (by kernel_rfl) (fun _ _ _ h => h) (Or.inr ⟨by rfl, rfl⟩) hS ?_
          simp only [Act.put, List.getElem_toArray, List.getElem_cons_succ, List.getElem_cons_zero, List.setIfInBounds_toArray, List.set_cons_zero, List.set_cons_succ]
          refine wpAnyH_take (i := 11) (v := .bool false) rfl (by kernel_rfl) (by kernel_rfl) (by kernel_rfl) (fun _ _ _ h => h) (Or.inl ⟨by rfl, fun wx hx => by simp [go_sem]⟩) hS ?_
          simp only [Act.put, List.getElem_toArray, List.getElem_cons_succ, List.getElem_cons_zero, List.setIfInBounds_toArray, List.set_cons_zero, List.set_cons_succ]
          refine wpAnyH_done (by kernel_rfl) ?_ _
          go_wp2
          go_meet
          case rel => exact ⟨rfl, hI⟩
        | false =>
          refine wp_region_held_drew (S := Below go wG) (by kernel_rfl) HI.out.drew.bel ?_
          intro hS
          have hI := HI.out.drew
          clear HI
          change wpAnyH _ _ _ _ _ _ _ _ (World.drew wr)
          generalize World.drew wr = y0 at *
          refine wpAnyH_take (i := 0) (v := .bool false) rfl (by kernel_rfl) (by kernel_rfl) (by kernel_rfl) (fun _ _ _ h => h) (Or.inl ⟨by rfl, fun wx hx => by simp [go_sem]⟩) hS ?_
          simp only [Act.put, List.getElem_toArray, List.getElem_cons_zero, List.setIfInBounds_toArray, List.set_cons_zero, List.set_cons_succ]
          refine wpAnyH_take (i := 1) (v := .bool true) rfl (by kernel_rfl) (by kernel_rfl) (by kernel_rfl) (fun _ _ _ h => h) (Or.inl ⟨by rfl, fun wx hx => by simp [go_sem]⟩) hS ?_
          simp only [Act.put, List.getElem_toArray, List.getElem_cons_succ, List.getElem_cons_zero, List.setIfInBounds_toArray, List.set_cons_zero, List.set_cons_succ]
          refine wpAnyH_take (i := 2) (v := .bool true) rfl (by kernel_rfl) (by kernel_rfl) (by kernel_rfl) (fun _ _ _ h => h) (Or.inl ⟨by rfl, fun wx hx => by simp [go_sem]⟩) hS ?_
          simp only [Act.put, List.getElem_toArray, List.getElem_cons_succ, List.getElem_cons_zero, List.setIfInBounds_toArray, List.set_cons_zero, List.set_cons_succ]
          refine wpAnyH_take (i := 3) (v := .pointer (some ⟨gl, 0, none⟩)) rfl (by kernel_rfl) (by kernel_rfl) (by kernel_rfl) (fun _ _ _ h => h) (Or.inl ⟨by rfl, fun wx hx => by simp [go_sem]⟩) hS ?_
          simp only [Act.put, List.getElem_toArray, List.getElem_cons_succ, List.getElem_cons_zero, List.setIfInBounds_toArray, List.set_cons_zero, List.set_cons_succ]
          refine wpAnyH_take (i := 4) (v := .slice (some ⟨ba, offa, none⟩) n cpa) rfl (by kernel_rfl) (by kernel_rfl) (by kernel_rfl) (fun _ _ _ h => h) (Or.inl ⟨by rfl, fun wx hx => by (have hc := HCA.out wx hx; simp [go_sem, hc])⟩) hS ?_
          simp only [Act.put, List.getElem_toArray, List.getElem_cons_succ, List.getElem_cons_zero, List.setIfInBounds_toArray, List.set_cons_zero, List.set_cons_succ]
          refine wpAnyH_take (i := 5) (v := .int .i64 (k : Int)) rfl (by kernel_rfl) (by kernel_rfl) (by kernel_rfl) (fun _ _ _ h => h) (Or.inl ⟨by rfl, fun wx hx => by simp [go_sem]⟩) hS ?_
          simp only [Act.put, List.getElem_toArray, List.getElem_cons_succ, List.getElem_cons_zero, List.setIfInBounds_toArray, List.set_cons_zero, List.set_cons_succ]
          refine wpAnyH_take (i := 6) (v := .pointer (some ⟨ba, offa + k * 32, none⟩)) rfl (by kernel_rfl) (by kernel_rfl) (by kernel_rfl) (fun _ _ _ h => h) (Or.inl ⟨by rfl, fun wx hx => by (simp [go_sem, hlti, k0])⟩) hS ?_
          simp only [Act.put, List.getElem_toArray, List.getElem_cons_succ, List.getElem_cons_zero, List.setIfInBounds_toArray, List.set_cons_zero, List.set_cons_succ]
          refine wpAnyH_take (i := 7) (v := .agg (cb da).toArray) rfl (by kernel_rfl) (by kernel_rfl) (by kernel_rfl) (fun _ _ _ h => h) (Or.inl ⟨by rfl, fun wx hx => by exact load_run 24 _ rfl _ _ rfl (cb da) _ (HRA.out wx hx) Tryd.underlying24 rfl (by rw [cb_len, HA32.out]; exact info_digest)⟩) hS ?_
          simp only [Act.put, List.getElem_toArray, List.getElem_cons_succ, List.getElem_cons_zero, List.setIfInBounds_toArray, List.set_cons_zero, List.set_cons_succ]
          refine wpAnyH_take (i := 8) (v := .agg (cb x).toArray) rfl (by kernel_rfl) (by kernel_rfl) (by kernel_rfl) (fun _ _ _ h => h) (Or.inl ⟨by rfl, fun wx hx => by exact loadDigest _ (gl + 1) x HX32.out (HCX.out wx hx) rfl rfl⟩) hS ?_
          simp only [Act.put, List.getElem_toArray, List.getElem_cons_succ, List.getElem_cons_zero, List.setIfInBounds_toArray, List.set_cons_zero, List.set_cons_succ]
          refine wpAnyH_enter 9 (by kernel_rfl) rfl (by rfl) (f := 52) (args := #[.agg (cb da).toArray, .agg (cb x).toArray]) (by simp [go_sem]) (sLess_any da x HA32.out HX32.out _) ?_
          rintro e wy ⟨rfl, hbq⟩
          rw [HLS.out]
          replace hI := hI.next hbq
          refine ⟨_, rfl, hI.bel, ?_⟩
          replace hS := hI.bel
          clear hbq
          simp only [Act.put, List.getElem_toArray, List.getElem_cons_succ, List.getElem_cons_zero, List.setIfInBounds_toArray, List.set_cons_zero, List.set_cons_succ]
          refine wpAnyH_take (i := 10) (v := .bool (!ls)) rfl (by kernel_rfl) (by kernel_rfl) (by kernel_rfl) (fun _ _ _ h => h) (Or.inl ⟨by rfl, fun wx hx => by simp [go_sem]⟩) hS ?_
          simp only [Act.put, List.getElem_toArray, List.getElem_cons_succ, List.getElem_cons_zero, List.setIfInBounds_toArray, List.set_cons_zero, List.set_cons_succ]
          refine wpAnyH_take (i := 11) (v := .bool (!ls)) rfl (by kernel_rfl) (by kernel_rfl) (by kernel_rfl) (fun _ _ _ h => h) (Or.inl ⟨by rfl, fun wx hx => by simp [go_sem]⟩) hS ?_
          simp only [Act.put, List.getElem_toArray, List.getElem_cons_succ, List.getElem_cons_zero, List.setIfInBounds_toArray, List.set_cons_zero, List.set_cons_succ]
          refine wpAnyH_done (by kernel_rfl) ?_ _
          go_wp2
          go_meet
          case rel => exact ⟨rfl, hI⟩
      case rest =>
        clear HI ca
        obtain ⟨rfl, hcut⟩ := hcut
        have HI : Hid (Lv wG go xa xv (A.map (·.1)) (A.map (·.2)) wc) := hcut
        clear hcut
        obtain ⟨wz, HWQ⟩ : ∃ z, Hid (z = wc) := ⟨_, rfl⟩
        rw [← HWQ.out] at HI ⊢
        clear HWQ
        obtain ⟨A2, HA2⟩ : ∃ z, Hid (z = if !pt && !ls then A ++ [(x, v)] else A) := ⟨_, rfl⟩
        rw [← HA2.out] at HNX
        go_upto_if 29 with fail
        go_cut [8] from 29 to 41 (fun b W => b = .bool (pt || !ls) ∧ ∃ xa xv, Lv wG go xa xv (A2.map (·.1)) (A2.map (·.2)) W)
        case first =>
          by_cases hc : (!pt && !ls) = true
          · rw [hc]
            have HA3 : Hid (A2 = A ++ [(x, v)]) := by show _ = _; rw [HA2.out, hc]; rfl
            obtain ⟨hp1, hp2⟩ : pt = false ∧ ls = false := by cases pt <;> cases ls <;> simp at hc ⊢
            subst hp1 hp2
            clear hc
            have hI := HI.out
            obtain ⟨aB, cB, hxB⟩ := hI.own.a.slice
            obtain ⟨nB, HNB⟩ : ∃ z : Nat, Hid (z = (A.map (·.1)).length) := ⟨_, rfl⟩
            rw [← HNB.out] at hxB
            have hce : wz.cell? ⟨go, 0, none⟩ = some xa := hI.out.cell 0
            subst hxB
            clear hI
            go_upto_region 8 with (first
              | (with_reducible refine wpSeq_loadD (.tmp 4) (gl + 1) x ?_ ?_ ?_ ?_ ?_ ?_
                 · exact HX32.out
                 · exact HCX.out _ HI.out.bel
                 · with_reducible rfl
                 · rfl
                 · rfl)
              | (with_reducible refine wpSeq_buildD (.tmp 32) x ?_ ?_ ?_ ?_ ?_
                 · exact HX32.out
                 · with_reducible rfl
                 · rfl
                 · rfl
                 intro g8 w8 n8
                 have hI8 := HI.out.next n8.below
                 have HU : Hid (Blk w8 g8 (cb x) 24) := n8.blk
                 clear n8 HI hce)
              | (with_reducible refine wpSeq_appendD (.tmp 31) (.tmp 33) (go + 1) (.slice aB nB cB) _ x g8 hI8.own.a HU.out HX32.out ?_ (Nat.succ_le_of_lt hI8.out.lt) ?_ ?_ ?_ ?_ ?_
                 · rw [List.length_map]; exact Nat.lt_of_lt_of_le HAL.out (by decide)
                 · with_reducible rfl
                 · rfl
                 · rfl
                 · rfl
                 intro z9 w9 o9 g9
                 have hJ := hI8.addA o9 g9
                 have hb9 := hI8.out.grow g9 (fun j hj => (hI8.own.a.lt j hj).1) (Nat.lt_succ_self _)
                 have hc9 := hb9.cell 0
                 have hf9 := hb9.frozen 0
                 simp only [List.getElem?_cons_zero] at hc9
                 obtain ⟨aB2, cB2, hxB⟩ := o9.slice
                 obtain ⟨nB2, HNB2⟩ : ∃ z : Nat, Hid (z = (A.map (·.1) ++ [x]).length) := ⟨_, rfl⟩
                 rw [← HNB2.out] at hxB
                 subst hxB
                 have HJ : Hid _ := hJ
                 clear o9 g9 hb9 hI8 HU hJ))
            have HI := HJ
            clear HJ hc9 hf9
            generalize w9.setCell ⟨go, 0, none⟩ (.slice aB2 nB2 cB2) = w10 at *
            generalize Value.slice aB2 nB2 cB2 = xa2 at *
            have hI := HI.out
            obtain ⟨aC, cC, hxC⟩ := hI.own.v.slice
            obtain ⟨nC, HNC⟩ : ∃ z : Nat, Hid (z = (A.map (·.2)).length) := ⟨_, rfl⟩
            rw [← HNC.out] at hxC
            have hce : w10.cell? ⟨go, 1, none⟩ = some xv := hI.out.cell 1
            subst hxC
            clear hI
            go_wp2_with (first
              | (with_reducible refine wpSeq_loadD (.tmp 5) (gl + 2) v ?_ ?_ ?_ ?_ ?_ ?_
                 · exact HY32.out
                 · exact HCY.out _ HI.out.bel
                 · with_reducible rfl
                 · rfl
                 · rfl)
              | (with_reducible refine wpSeq_buildD (.tmp 38) v ?_ ?_ ?_ ?_ ?_
                 · exact HY32.out
                 · with_reducible rfl
                 · rfl
                 · rfl
                 intro g8 w8 n8
                 have hI8 := HI.out.next n8.below
                 have HU : Hid (Blk w8 g8 (cb v) 24) := n8.blk
                 clear n8 HI hce)
              | (with_reducible refine wpSeq_appendD (.tmp 37) (.tmp 39) (go + 1) (.slice aC nC cC) _ v g8 hI8.own.v HU.out HY32.out ?_ (Nat.succ_le_of_lt hI8.out.lt) ?_ ?_ ?_ ?_ ?_
                 · rw [List.length_map]; exact Nat.lt_of_lt_of_le HAL.out (by decide)
                 · with_reducible rfl
                 · rfl
                 · rfl
                 · rfl
                 intro z9 w9 o9 g9
                 have hJ := hI8.addV o9 g9
                 have hb9 := hI8.out.grow g9 (fun j hj => (hI8.own.v.lt j hj).1) (Nat.lt_succ_self _)
                 have hc9 := hb9.cell 1
                 have hf9 := hb9.frozen 1
                 simp only [List.getElem?_cons_succ, List.getElem?_cons_zero] at hc9
                 obtain ⟨aC2, cC2, hxC⟩ := o9.slice
                 obtain ⟨nC2, HNC2⟩ : ∃ z : Nat, Hid (z = (A.map (·.2) ++ [v]).length) := ⟨_, rfl⟩
                 rw [← HNC2.out] at hxC
                 subst hxC
                 have HJ : Hid _ := hJ
                 clear o9 g9 hb9 hI8 HU hJ))
            go_meet
            case rel => exact ⟨rfl, _, _, by rw [HA3.out]; simpa using HJ.out⟩
          · have hc2 : (!pt && !ls) = false := by simpa using hc
            rw [hc2]
            have HA3 : Hid (A2 = A) := by show _ = _; rw [HA2.out, hc2]; rfl
            have HPL : Hid ((pt || !ls) = pt) := by show _ = _; cases pt <;> cases ls <;> simp at hc2 ⊢
            go_wp2
            go_meet
            case rel => exact ⟨by rw [HPL.out], _, _, by rw [HA3.out]; exact HI.out⟩
        case rest =>
          clear HI
          obtain ⟨rfl, xa1, xv1, hcut⟩ := hcut
          have HI : Hid (Lv wG go xa1 xv1 (A2.map (·.1)) (A2.map (·.2)) wc) := hcut
          clear hcut
          have HAL2 : Hid (A2.length < 1600000) := by
            show _ < _
            have h1 := HAL.out
            rw [HA2.out]
            split
            · rw [List.length_append]; simp; omega
            · omega
          obtain ⟨wz2, HWQ⟩ : ∃ z, Hid (z = wc) := ⟨_, rfl⟩
          rw [← HWQ.out] at HI ⊢
          clear HWQ HA2 HAL HPT
          have heq : ∀ wx : World, (Op.equalIn 10000 24 (.agg (cb da).toArray) (.agg (cb x).toArray)).run Tryd.prog wx = .ok (decide (da = x)) wx := fun wx => eq_dig da x HA32.out HX32.out wx
          go_upto_region 10 with fail
          go_cut [48] from 42 to 48 (fun b W => b = .bool (!decide (da = x)) ∧ Lv wG go xa1 xv1 (A2.map (·.1)) (A2.map (·.2)) W)
          case first =>
            refine wp_region_held_drew (S := Below go wG) (by kernel_rfl) HI.out.drew.bel ?_
            intro hS
            have hI := HI.out.drew
            clear HI
            change wpAnyH _ _ _ _ _ _ _ _ (World.drew wz2)
            generalize World.drew wz2 = y0 at *
            refine wpAnyH_take (i := 0) (v := .pointer (some ⟨gl, 0, none⟩)) rfl (by kernel_rfl) (by kernel_rfl) (by kernel_rfl) (fun _ _ _ h => h) (Or.inl ⟨by rfl, fun wx hx => by simp [go_sem]⟩) hS ?_
            simp only [Act.put, List.getElem_toArray, List.getElem_cons_zero, List.setIfInBounds_toArray, List.set_cons_zero, List.set_cons_succ]
            refine wpAnyH_take (i := 1) (v := .slice (some ⟨ba, offa, none⟩) n cpa) rfl (by kernel_rfl) (by kernel_rfl) (by kernel_rfl) (fun _ _ _ h => h) (Or.inl ⟨by rfl, fun wx hx => by (have hc := HCA.out wx hx; simp [go_sem, hc])⟩) hS ?_
            simp only [Act.put, List.getElem_toArray, List.getElem_cons_succ, List.getElem_cons_zero, List.setIfInBounds_toArray, List.set_cons_zero, List.set_cons_succ]
            refine wpAnyH_take (i := 2) (v := .int .i64 (k : Int)) rfl (by kernel_rfl) (by kernel_rfl) (by kernel_rfl) (fun _ _ _ h => h) (Or.inl ⟨by rfl, fun wx hx => by simp [go_sem]⟩) hS ?_
            simp only [Act.put, List.getElem_toArray, List.getElem_cons_succ, List.getElem_cons_zero, List.setIfInBounds_toArray, List.set_cons_zero, List.set_cons_succ]
            refine wpAnyH_take (i := 3) (v := .pointer (some ⟨ba, offa + k * 32, none⟩)) rfl (by kernel_rfl) (by kernel_rfl) (by kernel_rfl) (fun _ _ _ h => h) (Or.inl ⟨by rfl, fun wx hx => by (simp [go_sem, hlti, k0])⟩) hS ?_
            simp only [Act.put, List.getElem_toArray, List.getElem_cons_succ, List.getElem_cons_zero, List.setIfInBounds_toArray, List.set_cons_zero, List.set_cons_succ]
            refine wpAnyH_take (i := 4) (v := .agg (cb da).toArray) rfl (by kernel_rfl) (by kernel_rfl) (by kernel_rfl) (fun _ _ _ h => h) (Or.inl ⟨by rfl, fun wx hx => by exact load_run 24 _ rfl _ _ rfl (cb da) _ (HRA.out wx hx) Tryd.underlying24 rfl (by rw [cb_len, HA32.out]; exact info_digest)⟩) hS ?_
            simp only [Act.put, List.getElem_toArray, List.getElem_cons_succ, List.getElem_cons_zero, List.setIfInBounds_toArray, List.set_cons_zero, List.set_cons_succ]
            refine wpAnyH_take (i := 5) (v := .agg (cb x).toArray) rfl (by kernel_rfl) (by kernel_rfl) (by kernel_rfl) (fun _ _ _ h => h) (Or.inl ⟨by rfl, fun wx hx => by exact loadDigest _ (gl + 1) x HX32.out (HCX.out wx hx) rfl rfl⟩) hS ?_
            simp only [Act.put, List.getElem_toArray, List.getElem_cons_succ, List.getElem_cons_zero, List.setIfInBounds_toArray, List.set_cons_zero, List.set_cons_succ]
            refine wpAnyH_take (i := 6) (v := .bool (!decide (da = x))) rfl (by kernel_rfl) (by kernel_rfl) (by kernel_rfl) (fun _ _ _ h => h) (Or.inl ⟨by rfl, fun wx hx => by (have hq := heq wx; simp [go_sem, hq])⟩) hS ?_
            simp only [Act.put, List.getElem_toArray, List.getElem_cons_succ, List.getElem_cons_zero, List.setIfInBounds_toArray, List.set_cons_zero, List.set_cons_succ]
            refine wpAnyH_done (by kernel_rfl) ?_ _
            go_wp2
            go_meet
            case rel => exact ⟨rfl, hI⟩
          case rest =>
            clear HI heq
            obtain ⟨rfl, hcut⟩ := hcut
            have HI : Hid (Lv wG go xa1 xv1 (A2.map (·.1)) (A2.map (·.2)) wc) := hcut
            clear hcut
            obtain ⟨wq, HWQ⟩ : ∃ z, Hid (z = wc) := ⟨_, rfl⟩
            rw [← HWQ.out] at HI ⊢
            clear HWQ
            by_cases hne : da = x
            · have HN3 : Hid (PtI l x v (k + 1) (pt || !ls) A2) := by
                have h := HNX.out
                rw [decide_eq_false (by simp [hne])] at h
                show PtI _ _ _ _ _ _
                simpa using h
              rw [decide_eq_true hne]
              clear hne HNX
              go_wp2
              go_roundw
              case rel => exact ⟨k + 1, _, _, _, _, by omega, rfl, by simp, HI.out, HN3.out⟩
              case measure => simp [intOf]; omega
            · have HN3 : Hid (PtI l x v (k + 1) (pt || !ls) (A2 ++ [(da, dv)])) := by
                have h := HNX.out
                rw [decide_eq_true (by simpa using hne)] at h
                exact h
              rw [decide_eq_false hne]
              clear hne HNX
              go_wp2_with fail
              refine wp_region_held_drew (S := Below go wG) (by kernel_rfl) HI.out.drew.bel ?_
              intro hS
              have hI := HI.out.drew
              clear HI
              change wpAnyH _ _ _ _ _ _ _ _ (World.drew wq)
              generalize World.drew wq = yD at *
              refine wpAnyH_take (i := 0) (v := .pointer (some ⟨go, 0, none⟩)) rfl (by kernel_rfl) (by kernel_rfl) (by kernel_rfl) (fun _ _ _ h => h) (Or.inl ⟨by rfl, fun wx hx => by simp [go_sem]⟩) hS ?_
              simp only [Act.put, List.getElem_toArray, List.getElem_cons_zero, List.setIfInBounds_toArray, List.set_cons_zero, List.set_cons_succ]
              refine wpAnyH_take (i := 2) (v := .pointer (some ⟨gl, 0, none⟩)) rfl (by kernel_rfl) (by kernel_rfl) (by kernel_rfl) (fun _ _ _ h => h) (Or.inl ⟨by rfl, fun wx hx => by simp [go_sem]⟩) hS ?_
              simp only [Act.put, List.getElem_toArray, List.getElem_cons_succ, List.getElem_cons_zero, List.setIfInBounds_toArray, List.set_cons_zero, List.set_cons_succ]
              refine wpAnyH_take (i := 4) (v := .int .i64 (k : Int)) rfl (by kernel_rfl) (by kernel_rfl) (by kernel_rfl) (fun _ _ _ h => h) (Or.inl ⟨by rfl, fun wx hx => by simp [go_sem]⟩) hS ?_
              simp only [Act.put, List.getElem_toArray, List.getElem_cons_succ, List.getElem_cons_zero, List.setIfInBounds_toArray, List.set_cons_zero, List.set_cons_succ]
              refine wpAnyH_take (i := 3) (v := .slice (some ⟨ba, offa, none⟩) n cpa) rfl (by kernel_rfl) (by kernel_rfl) (by kernel_rfl) (fun _ _ _ h => h) (Or.inl ⟨by rfl, fun wx hx => by (have hc := HCA.out wx hx; simp [go_sem, hc])⟩) hS ?_
              simp only [Act.put, List.getElem_toArray, List.getElem_cons_succ, List.getElem_cons_zero, List.setIfInBounds_toArray, List.set_cons_zero, List.set_cons_succ]
              refine wpAnyH_take (i := 5) (v := .pointer (some ⟨ba, offa + k * 32, none⟩)) rfl (by kernel_rfl) (by kernel_rfl) (by kernel_rfl) (fun _ _ _ h => h) (Or.inl ⟨by rfl, fun wx hx => by (simp [go_sem, hlti, k0])⟩) hS ?_
              simp only [Act.put, List.getElem_toArray, List.getElem_cons_succ, List.getElem_cons_zero, List.setIfInBounds_toArray, List.set_cons_zero, List.set_cons_succ]
              refine wpAnyH_take (i := 6) (v := .agg (cb da).toArray) rfl (by kernel_rfl) (by kernel_rfl) (by kernel_rfl) (fun _ _ _ h => h) (Or.inl ⟨by rfl, fun wx hx => by exact load_run 24 _ rfl _ _ rfl (cb da) _ (HRA.out wx hx) Tryd.underlying24 rfl (by rw [cb_len, HA32.out]; exact info_digest)⟩) hS ?_
              simp only [Act.put, List.getElem_toArray, List.getElem_cons_succ, List.getElem_cons_zero, List.setIfInBounds_toArray, List.set_cons_zero, List.set_cons_succ]
              have hnb := NewB.of da yD
              have hn1 := hI.next hnb.below
              obtain ⟨aD, cD, hxD⟩ := hI.own.a.slice
              obtain ⟨nD, HND⟩ : ∃ z : Nat, Hid (z = (A2.map (·.1)).length) := ⟨_, rfl⟩
              rw [← HND.out] at hxD
              have hce : yD.cell? ⟨go, 0, none⟩ = some xa1 := hI.out.cell 0
              have hce2 : (yD.alloc (.cells (cb da).toArray 24)).cell? ⟨go, 0, none⟩ = some xa1 := hn1.out.cell 0
              subst hxD
              refine wpAnyH_comm 1 7 (.slice aD nD cD) (.slice (some ⟨yD.heap.size, 0, none⟩) 1 1) (yD.alloc (.cells (cb da).toArray 24)) (by kernel_rfl) rfl rfl (by rfl) (by rfl) (by rfl) (by rfl) (by simp [go_sem, hce]) (buildD _ _ _ rfl da HA32.out rfl _) (by simp [go_sem, hce2]) (buildD _ _ _ rfl da HA32.out rfl _) (by kernel_rfl) (by kernel_rfl) (by rfl) (by rfl) hS hn1.bel ?_
              simp only [Act.put, List.getElem_toArray, List.getElem_cons_succ, List.getElem_cons_zero, List.setIfInBounds_toArray, List.set_cons_zero, List.set_cons_succ]
              have hI2 := hn1
              have HU : Hid (Blk (yD.alloc (.cells (cb da).toArray 24)) yD.heap.size (cb da) 24) := hnb.blk
              clear hn1 hnb hce hce2 hS hI
              refine wpAnyH_law 8 (by kernel_rfl) rfl (by rfl) (wp_appendG (.tmp 50) (.tmp 56) (go + 1) (.slice aD nD cD) _ da yD.heap.size hI2.own.a HU.out HA32.out (by rw [List.length_map]; exact Nat.lt_of_lt_of_le HAL2.out (by decide)) hI2.out.lt rfl rfl rfl ?_)
              intro zD qD hoD hgD
              have hI := hI2.addA hoD hgD
              have hsq : Below go wG qD := hI2.bel.trans (hgD.below.mono (Nat.le_succ _))
              have hbq := hI2.out.grow hgD (fun j hj => (hI2.own.a.lt j hj).1) (Nat.lt_succ_self _)
              have hcq := hbq.cell 0
              have hfq := hbq.frozen 0
              obtain ⟨aD2, cD2, hxD⟩ := hoD.slice
              obtain ⟨nD2, HND2⟩ : ∃ z : Nat, Hid (z = (A2.map (·.1) ++ [da]).length) := ⟨_, rfl⟩
              rw [← HND2.out] at hxD
              subst hxD
              refine ⟨hsq, ?_⟩
              simp only [Act.put, List.getElem_toArray, List.getElem_cons_succ, List.getElem_cons_zero, List.setIfInBounds_toArray, List.set_cons_zero, List.set_cons_succ]
              refine wpAnyH_take (i := 9) (v := .pointer (some ⟨go, 0, none⟩)) rfl (by kernel_rfl) (by kernel_rfl) (by kernel_rfl) (fun _ _ _ h => h) (Or.inl ⟨by rfl, fun wx hx => by simp [go_sem]⟩) hsq ?_
              simp only [Act.put, List.getElem_toArray, List.getElem_cons_succ, List.getElem_cons_zero, List.setIfInBounds_toArray, List.set_cons_zero, List.set_cons_succ]
              refine wpAnyH_skip 10 (qD.setCell ⟨go, 0, none⟩ (.slice aD2 nD2 cD2)) (by kernel_rfl) rfl (by rfl) (by simp [go_sem, hcq, hfq]) hI.bel ?_
              simp only [Act.put, List.getElem_toArray, List.getElem_cons_succ, List.getElem_cons_zero]
              refine wpAnyH_done (by kernel_rfl) ?_ _
              clear hoD hgD hsq hbq hcq hfq hI2 HU
              generalize qD.setCell ⟨go, 0, none⟩ (.slice aD2 nD2 cD2) = WD at *
              have HI : Hid (Lv wG go (.slice aD2 nD2 cD2) xv1 (A2.map (·.1) ++ [da]) (A2.map (·.2)) WD) := hI
              clear hI HRA HCA
              generalize Value.slice aD2 nD2 cD2 = xa2 at *
              go_wp2_with fail
              refine wp_region_held_drew (S := Below go wG) (by kernel_rfl) HI.out.drew.bel ?_
              intro hS
              have hI := HI.out.drew
              clear HI
              change wpAnyH _ _ _ _ _ _ _ _ (World.drew WD)
              generalize World.drew WD = yE at *
              refine wpAnyH_take (i := 0) (v := .pointer (some ⟨go, 1, none⟩)) rfl (by kernel_rfl) (by kernel_rfl) (by kernel_rfl) (fun _ _ _ h => h) (Or.inl ⟨by rfl, fun wx hx => by simp [go_sem]⟩) hS ?_
              simp only [Act.put, List.getElem_toArray, List.getElem_cons_zero, List.setIfInBounds_toArray, List.set_cons_zero, List.set_cons_succ]
              refine wpAnyH_take (i := 2) (v := .pointer (some ⟨gl, 1, none⟩)) rfl (by kernel_rfl) (by kernel_rfl) (by kernel_rfl) (fun _ _ _ h => h) (Or.inl ⟨by rfl, fun wx hx => by simp [go_sem]⟩) hS ?_
              simp only [Act.put, List.getElem_toArray, List.getElem_cons_succ, List.getElem_cons_zero, List.setIfInBounds_toArray, List.set_cons_zero, List.set_cons_succ]
              refine wpAnyH_take (i := 4) (v := .int .i64 (k : Int)) rfl (by kernel_rfl) (by kernel_rfl) (by kernel_rfl) (fun _ _ _ h => h) (Or.inl ⟨by rfl, fun wx hx => by simp [go_sem]⟩) hS ?_
              simp only [Act.put, List.getElem_toArray, List.getElem_cons_succ, List.getElem_cons_zero, List.setIfInBounds_toArray, List.set_cons_zero, List.set_cons_succ]
              refine wpAnyH_take (i := 3) (v := .slice (some ⟨bv, offv, none⟩) n cpv) rfl (by kernel_rfl) (by kernel_rfl) (by kernel_rfl) (fun _ _ _ h => h) (Or.inl ⟨by rfl, fun wx hx => by (have hc := HCV.out wx hx; simp [go_sem, hc])⟩) hS ?_
              simp only [Act.put, List.getElem_toArray, List.getElem_cons_succ, List.getElem_cons_zero, List.setIfInBounds_toArray, List.set_cons_zero, List.set_cons_succ]
              refine wpAnyH_take (i := 5) (v := .pointer (some ⟨bv, offv + k * 32, none⟩)) rfl (by kernel_rfl) (by kernel_rfl) (by kernel_rfl) (fun _ _ _ h => h) (Or.inl ⟨by rfl, fun wx hx => by (simp [go_sem, hlti, k0])⟩) hS ?_
              simp only [Act.put, List.getElem_toArray, List.getElem_cons_succ, List.getElem_cons_zero, List.setIfInBounds_toArray, List.set_cons_zero, List.set_cons_succ]
              refine wpAnyH_take (i := 6) (v := .agg (cb dv).toArray) rfl (by kernel_rfl) (by kernel_rfl) (by kernel_rfl) (fun _ _ _ h => h) (Or.inl ⟨by rfl, fun wx hx => by exact load_run 24 _ rfl _ _ rfl (cb dv) _ (HRV.out wx hx) Tryd.underlying24 rfl (by rw [cb_len, HV32.out]; exact info_digest)⟩) hS ?_
              simp only [Act.put, List.getElem_toArray, List.getElem_cons_succ, List.getElem_cons_zero, List.setIfInBounds_toArray, List.set_cons_zero, List.set_cons_succ]
              have hnb := NewB.of dv yE
              have hn1 := hI.next hnb.below
              obtain ⟨aE, cE, hxE⟩ := hI.own.v.slice
              obtain ⟨nE, HNE⟩ : ∃ z : Nat, Hid (z = (A2.map (·.2)).length) := ⟨_, rfl⟩
              rw [← HNE.out] at hxE
              have hce : yE.cell? ⟨go, 1, none⟩ = some xv1 := hI.out.cell 1
              have hce2 : (yE.alloc (.cells (cb dv).toArray 24)).cell? ⟨go, 1, none⟩ = some xv1 := hn1.out.cell 1
              subst hxE
              refine wpAnyH_comm 1 7 (.slice aE nE cE) (.slice (some ⟨yE.heap.size, 0, none⟩) 1 1) (yE.alloc (.cells (cb dv).toArray 24)) (by kernel_rfl) rfl rfl (by rfl) (by rfl) (by rfl) (by rfl) (by simp [go_sem, hce]) (buildD _ _ _ rfl dv HV32.out rfl _) (by simp [go_sem, hce2]) (buildD _ _ _ rfl dv HV32.out rfl _) (by kernel_rfl) (by kernel_rfl) (by rfl) (by rfl) hS hn1.bel ?_
              simp only [Act.put, List.getElem_toArray, List.getElem_cons_succ, List.getElem_cons_zero, List.setIfInBounds_toArray, List.set_cons_zero, List.set_cons_succ]
              have hI2 := hn1
              have HU : Hid (Blk (yE.alloc (.cells (cb dv).toArray 24)) yE.heap.size (cb dv) 24) := hnb.blk
              clear hn1 hnb hce hce2 hS hI
              refine wpAnyH_law 8 (by kernel_rfl) rfl (by rfl) (wp_appendG (.tmp 60) (.tmp 66) (go + 1) (.slice aE nE cE) _ dv yE.heap.size hI2.own.v HU.out HV32.out (by rw [List.length_map]; exact Nat.lt_of_lt_of_le HAL2.out (by decide)) hI2.out.lt rfl rfl rfl ?_)
              intro zE qE hoE hgE
              have hI := hI2.addV hoE hgE
              have hsq : Below go wG qE := hI2.bel.trans (hgE.below.mono (Nat.le_succ _))
              have hbq := hI2.out.grow hgE (fun j hj => (hI2.own.v.lt j hj).1) (Nat.lt_succ_self _)
              have hcq := hbq.cell 1
              have hfq := hbq.frozen 1
              obtain ⟨aE2, cE2, hxE⟩ := hoE.slice
              obtain ⟨nE2, HNE2⟩ : ∃ z : Nat, Hid (z = (A2.map (·.2) ++ [dv]).length) := ⟨_, rfl⟩
              rw [← HNE2.out] at hxE
              subst hxE
              refine ⟨hsq, ?_⟩
              simp only [Act.put, List.getElem_toArray, List.getElem_cons_succ, List.getElem_cons_zero, List.setIfInBounds_toArray, List.set_cons_zero, List.set_cons_succ]
              refine wpAnyH_take (i := 9) (v := .pointer (some ⟨go, 1, none⟩)) rfl (by kernel_rfl) (by kernel_rfl) (by kernel_rfl) (fun _ _ _ h => h) (Or.inl ⟨by rfl, fun wx hx => by simp [go_sem]⟩) hsq ?_
              simp only [Act.put, List.getElem_toArray, List.getElem_cons_succ, List.getElem_cons_zero, List.setIfInBounds_toArray, List.set_cons_zero, List.set_cons_succ]
              refine wpAnyH_skip 10 (qE.setCell ⟨go, 1, none⟩ (.slice aE2 nE2 cE2)) (by kernel_rfl) rfl (by rfl) (by simp [go_sem, hcq, hfq]) hI.bel ?_
              simp only [Act.put, List.getElem_toArray, List.getElem_cons_succ, List.getElem_cons_zero]
              refine wpAnyH_done (by kernel_rfl) ?_ _
              clear hoE hgE hsq hbq hcq hfq hI2 HU
              generalize qE.setCell ⟨go, 1, none⟩ (.slice aE2 nE2 cE2) = WE at *
              have HJ : Hid (Lv wG go xa2 (.slice aE2 nE2 cE2) ((A2 ++ [(da, dv)]).map (·.1)) ((A2 ++ [(da, dv)]).map (·.2)) WE) := by
                show Lv _ _ _ _ _ _ _
                simpa using hI
              clear hI
              go_wp2
              go_roundw
              case rel => exact ⟨k + 1, _, _, _, _, by omega, rfl, by simp, HJ.out, HN3.out⟩
              case measure => simp [intOf]; omega
    · have hkn : k = n := by omega
      subst hkn
      have ht : l.take k = l := by rw [HN.out]; exact List.take_length
      have HDN : Hid (putL l x v = A ++ if pt then [] else [(x, v)]) := HPT.out.done ht
      clear HPT ht
      cases pt with
      | true =>
        replace HDN : Hid (putL l x v = A) := by have h := HDN.out; show _ = _; simpa using h
        have hI2 := HI.out
        obtain ⟨adx, cpx, hxa⟩ := hI2.own.a.slice
        obtain ⟨adw, cpw, hxv⟩ := hI2.own.v.slice
        obtain ⟨nx, HNX⟩ : ∃ z : Nat, Hid (z = (A.map (·.1)).length) := ⟨_, rfl⟩
        obtain ⟨nw, HNW⟩ : ∃ z : Nat, Hid (z = (A.map (·.2)).length) := ⟨_, rfl⟩
        rw [← HNX.out] at hxa
        rw [← HNW.out] at hxv
        subst hxa hxv
        have HE : Hid (Lv wG go (.slice adx nx cpx) (.slice adw nw cpw) (A.map (·.1)) (A.map (·.2)) wr) := hI2
        have d0 : wr.cell? ⟨go, 0, none⟩ = some (.slice adx nx cpx) := hI2.out.cell 0
        have d1 : wr.cell? ⟨go, 1, none⟩ = some (.slice adw nw cpw) := hI2.out.cell 1
        have hr := HRB.out.below hI2.bel (by have := HSZ.out; omega)
        have r0 : wr.cell? ⟨gl + 3, 0, none⟩ = some (.slice none 0 0) := hr.cell 0
        have r1 : wr.cell? ⟨gl + 3, 1, none⟩ = some (.slice none 0 0) := hr.cell 1
        have q0 : wr.frozen? ⟨gl + 3, 0, none⟩ = false := hr.frozen 0
        have q1 : wr.frozen? ⟨gl + 3, 1, none⟩ = false := hr.frozen 1
        have HRR : Hid (Blk wr (gl + 3) [nilV, nilV] 30) := hr
        clear hI2 hr HI
        go_wp2
        have hB6 : Blk ((wr.setCell ⟨gl + 3, 0, none⟩ (.slice adx nx cpx)).setCell ⟨gl + 3, 1, none⟩ (.slice adw nw cpw)) (gl + 3) [.slice adx nx cpx, .slice adw nw cpw] 30 := (HRR.out.set 0 _).set 1 _
        refine bodyPost_ret (v := .agg [.slice adx nx cpx, .slice adw nw cpw].toArray) (results_cell_row (by rfl) _ _ (gl + 3) 30 _ (0, 0) _ rfl hB6 Tryd.underlying30 rfl (by kernel_rfl)) rfl ⟨_, _, rfl, ?_, ?_⟩
        · rw [HDN.out]
          refine (HE.out.own.keep fun j h1 _ => ?_).mono (by have h1 := HSZ.out; have h2 := HGL.out; omega)
          rw [Below.heap_setCell _ _ _ _ (by show j ≠ gl + 3; have := HSZ.out; omega), Below.heap_setCell _ _ _ _ (by show j ≠ gl + 3; have := HSZ.out; omega)]
        · exact ((HBW.out.trans (HE.out.bel.mono (by have h1 := HSZ.out; have h2 := HGL.out; omega))).setCell (by show w.heap.size ≤ gl + 3; have := HGL.out; omega) _).setCell (by show w.heap.size ≤ gl + 3; have := HGL.out; omega) _
      | false =>
        replace HDN : Hid (putL l x v = A ++ [(x, v)]) := by have h := HDN.out; show _ = _; simpa using h
        have hI := HI.out
        obtain ⟨aB, cB, hxB⟩ := hI.own.a.slice
        obtain ⟨nB, HNB⟩ : ∃ z : Nat, Hid (z = (A.map (·.1)).length) := ⟨_, rfl⟩
        rw [← HNB.out] at hxB
        have hce : wr.cell? ⟨go, 0, none⟩ = some xa := hI.out.cell 0
        subst hxB
        clear hI
        go_upto_region 15 with (first
          | (with_reducible refine wpSeq_loadD (.tmp 4) (gl + 1) x ?_ ?_ ?_ ?_ ?_ ?_
             · exact HX32.out
             · exact HCX.out _ HI.out.bel
             · with_reducible rfl
             · rfl
             · rfl)
          | (with_reducible refine wpSeq_buildD (.tmp 73) x ?_ ?_ ?_ ?_ ?_
             · exact HX32.out
             · with_reducible rfl
             · rfl
             · rfl
             intro g8 w8 n8
             have hI8 := HI.out.next n8.below
             have HU : Hid (Blk w8 g8 (cb x) 24) := n8.blk
             clear n8 HI hce)
          | (with_reducible refine wpSeq_appendD (.tmp 72) (.tmp 74) (go + 1) (.slice aB nB cB) _ x g8 hI8.own.a HU.out HX32.out ?_ (Nat.succ_le_of_lt hI8.out.lt) ?_ ?_ ?_ ?_ ?_
             · rw [List.length_map]; exact Nat.lt_of_lt_of_le HAL.out (by decide)
             · with_reducible rfl
             · rfl
             · rfl
             · rfl
             intro z9 w9 o9 g9
             have hJ := hI8.addA o9 g9
             have hb9 := hI8.out.grow g9 (fun j hj => (hI8.own.a.lt j hj).1) (Nat.lt_succ_self _)
             have hc9 := hb9.cell 0
             have hf9 := hb9.frozen 0
             simp only [List.getElem?_cons_zero] at hc9
             obtain ⟨aB2, cB2, hxB⟩ := o9.slice
             obtain ⟨nB2, HNB2⟩ : ∃ z : Nat, Hid (z = (A.map (·.1) ++ [x]).length) := ⟨_, rfl⟩
             rw [← HNB2.out] at hxB
             subst hxB
             have HJ : Hid _ := hJ
             clear o9 g9 hb9 hI8 HU hJ))
        have HI := HJ
        clear HJ hc9 hf9
        generalize w9.setCell ⟨go, 0, none⟩ (.slice aB2 nB2 cB2) = w10 at *
        generalize Value.slice aB2 nB2 cB2 = xa2 at *
        have hI := HI.out
        obtain ⟨aC, cC, hxC⟩ := hI.own.v.slice
        obtain ⟨nC, HNC⟩ : ∃ z : Nat, Hid (z = (A.map (·.2)).length) := ⟨_, rfl⟩
        rw [← HNC.out] at hxC
        have hce : w10.cell? ⟨go, 1, none⟩ = some xv := hI.out.cell 1
        subst hxC
        clear hI
        go_upto_region 16 with (first
          | (with_reducible refine wpSeq_loadD (.tmp 5) (gl + 2) v ?_ ?_ ?_ ?_ ?_ ?_
             · exact HY32.out
             · exact HCY.out _ HI.out.bel
             · with_reducible rfl
             · rfl
             · rfl)
          | (with_reducible refine wpSeq_buildD (.tmp 79) v ?_ ?_ ?_ ?_ ?_
             · exact HY32.out
             · with_reducible rfl
             · rfl
             · rfl
             intro g8 w8 n8
             have hI8 := HI.out.next n8.below
             have HU : Hid (Blk w8 g8 (cb v) 24) := n8.blk
             clear n8 HI hce)
          | (with_reducible refine wpSeq_appendD (.tmp 78) (.tmp 80) (go + 1) (.slice aC nC cC) _ v g8 hI8.own.v HU.out HY32.out ?_ (Nat.succ_le_of_lt hI8.out.lt) ?_ ?_ ?_ ?_ ?_
             · rw [List.length_map]; exact Nat.lt_of_lt_of_le HAL.out (by decide)
             · with_reducible rfl
             · rfl
             · rfl
             · rfl
             intro z9 w9 o9 g9
             have hJ := hI8.addV o9 g9
             have hb9 := hI8.out.grow g9 (fun j hj => (hI8.own.v.lt j hj).1) (Nat.lt_succ_self _)
             have hc9 := hb9.cell 1
             have hf9 := hb9.frozen 1
             simp only [List.getElem?_cons_succ, List.getElem?_cons_zero] at hc9
             obtain ⟨aC2, cC2, hxC⟩ := o9.slice
             obtain ⟨nC2, HNC2⟩ : ∃ z : Nat, Hid (z = (A.map (·.2) ++ [v]).length) := ⟨_, rfl⟩
             rw [← HNC2.out] at hxC
             subst hxC
             have HJ : Hid _ := hJ
             clear o9 g9 hb9 hI8 HU hJ))
        have HI : Hid (Lv wG go xa2 (.slice aC2 nC2 cC2) ((A ++ [(x, v)]).map (·.1)) ((A ++ [(x, v)]).map (·.2)) (w9.setCell ⟨go, 1, none⟩ (.slice aC2 nC2 cC2))) := by
          show Lv _ _ _ _ _ _ _
          simpa using HJ.out
        clear HJ hc9 hf9
        generalize w9.setCell ⟨go, 1, none⟩ (.slice aC2 nC2 cC2) = w11 at *
        generalize Value.slice aC2 nC2 cC2 = xv2 at *
        have hI2 := HI.out
        obtain ⟨adx, cpx, hxa⟩ := hI2.own.a.slice
        obtain ⟨adw, cpw, hxv⟩ := hI2.own.v.slice
        obtain ⟨nx, HNX⟩ : ∃ z : Nat, Hid (z = ((A ++ [(x, v)]).map (·.1)).length) := ⟨_, rfl⟩
        obtain ⟨nw, HNW⟩ : ∃ z : Nat, Hid (z = ((A ++ [(x, v)]).map (·.2)).length) := ⟨_, rfl⟩
        rw [← HNX.out] at hxa
        rw [← HNW.out] at hxv
        subst hxa hxv
        have HE : Hid (Lv wG go (.slice adx nx cpx) (.slice adw nw cpw) ((A ++ [(x, v)]).map (·.1)) ((A ++ [(x, v)]).map (·.2)) w11) := hI2
        have d0 : w11.cell? ⟨go, 0, none⟩ = some (.slice adx nx cpx) := hI2.out.cell 0
        have d1 : w11.cell? ⟨go, 1, none⟩ = some (.slice adw nw cpw) := hI2.out.cell 1
        have hr := HRB.out.below hI2.bel (by have := HSZ.out; omega)
        have r0 : w11.cell? ⟨gl + 3, 0, none⟩ = some (.slice none 0 0) := hr.cell 0
        have r1 : w11.cell? ⟨gl + 3, 1, none⟩ = some (.slice none 0 0) := hr.cell 1
        have q0 : w11.frozen? ⟨gl + 3, 0, none⟩ = false := hr.frozen 0
        have q1 : w11.frozen? ⟨gl + 3, 1, none⟩ = false := hr.frozen 1
        have HRR : Hid (Blk w11 (gl + 3) [nilV, nilV] 30) := hr
        clear hI2 hr HI
        go_wp2
        have hB6 : Blk ((w11.setCell ⟨gl + 3, 0, none⟩ (.slice adx nx cpx)).setCell ⟨gl + 3, 1, none⟩ (.slice adw nw cpw)) (gl + 3) [.slice adx nx cpx, .slice adw nw cpw] 30 := (HRR.out.set 0 _).set 1 _
        refine bodyPost_ret (v := .agg [.slice adx nx cpx, .slice adw nw cpw].toArray) (results_cell_row (by rfl) _ _ (gl + 3) 30 _ (0, 0) _ rfl hB6 Tryd.underlying30 rfl (by kernel_rfl)) rfl ⟨_, _, rfl, ?_, ?_⟩
        · rw [HDN.out]
          refine (HE.out.own.keep fun j h1 _ => ?_).mono (by have h1 := HSZ.out; have h2 := HGL.out; omega)
          rw [Below.heap_setCell _ _ _ _ (by show j ≠ gl + 3; have := HSZ.out; omega), Below.heap_setCell _ _ _ _ (by show j ≠ gl + 3; have := HSZ.out; omega)]
        · exact ((HBW.out.trans (HE.out.bel.mono (by have h1 := HSZ.out; have h2 := HGL.out; omega))).setCell (by show w.heap.size ≤ gl + 3; have := HGL.out; omega) _).setCell (by show w.heap.size ≤ gl + 3; have := HGL.out; omega) _
end Go.Proofs.YtphacinnnepdoaaDoor
/- The walk of the reference's Of. -/
namespace Go.Proofs.YtphacinnnepdoaaDoor
open Go.RowKit
set_option maxRecDepth 100000
theorem Lv.renew {wG W W' : World} {go : Nat} {xa xv xa' xv' : Value} {la lv la' lv' : List (List (BitVec 8))} (h : Lv wG go xa xv la lv W) (hb : Below W.heap.size W W') (ho : OwnLf W' W.heap.size xa' xv' la' lv') : Lv wG go xa' xv' la' lv' ((W'.setCell ⟨go, 0, none⟩ xa').setCell ⟨go, 1, none⟩ xv') := by
  have hn := h.next hb
  have hlt := h.out.lt
  refine ⟨h.sz, (hn.out.set 0 _).set 1 _, (ho.mono (Nat.succ_le_of_lt hlt)).keep fun j h1 _ => ?_, (hn.bel.setCell (Nat.le_refl _) _).setCell (Nat.le_refl _) _⟩
  rw [Below.heap_setCell _ _ _ _ (by show j ≠ go; omega), Below.heap_setCell _ _ _ _ (by show j ≠ go; omega)]
theorem ofL_len (z : List Lf) : (ofL z).length ≤ z.length := by
  have key : ∀ (z l : List Lf), (z.foldl (fun l p => putL l p.1 p.2) l).length ≤ l.length + z.length := by
    intro z
    induction z with
    | nil => intro l; exact Nat.le_refl _
    | cons a r ih =>
      intro l
      have h1 := ih (putL l a.1 a.2)
      have h2 := putL_len l a.1 a.2
      rw [List.foldl_cons, List.length_cons]
      omega
  have := key z []
  simpa [ofL] using this
theorem zip_take {ds es : List (List (BitVec 8))} {k : Nat} (h1 : k < ds.length) (h2 : k < es.length) : (ds.zip es).take (k + 1) = (ds.zip es).take k ++ [(ds.getD k [], es.getD k [])] := by
  have hk : k < (ds.zip es).length := by rw [List.length_zip]; omega
  rw [List.take_add_one, List.getElem?_eq_getElem hk, List.getElem_zip, List.getD_eq_getElem?_getD, List.getD_eq_getElem?_getD, List.getElem?_eq_getElem h1, List.getElem?_eq_getElem h2]
  rfl
theorem zip_whole {ds es : List (List (BitVec 8))} {k : Nat} (h : ds.length ≤ k ∨ es.length ≤ k) : (ds.zip es).take k = ds.zip es := by
  apply List.take_of_length_le
  rw [List.length_zip]
  omega
set_option maxRecDepth 100000 in
set_option maxHeartbeats 4000000 in
theorem lfOf_any (vt vu : Value) (ds es : List (List (BitVec 8))) (w : World) (hT : ReadsD w vt ds) (hU : ReadsD w vu es) (hl : ds.length < 1000000) :
    Calls Tryd.prog 12 #[vt, vu] w fun e w' => ∃ xa xv, e = .returned (.agg #[xa, xv]) ∧ OwnLf w' w.heap.size xa xv ((ofL (ds.zip es)).map (·.1)) ((ofL (ds.zip es)).map (·.2)) ∧ Below w.heap.size w w' := by
  have HT : Hid (ReadsD w vt ds) := hT
  have HU : Hid (ReadsD w vu es) := hU
  have HL : Hid (ds.length < 1000000) := hl
  obtain ⟨n, HN⟩ : ∃ n, Hid (n = ds.length) := ⟨_, rfl⟩
  obtain ⟨m, HM⟩ : ∃ n, Hid (n = es.length) := ⟨_, rfl⟩
  obtain ⟨adt, cpt, hvt⟩ := hT.slice
  obtain ⟨adu, cpu, hvu⟩ := hU.slice
  rw [← HN.out] at hvt
  rw [← HM.out] at hvu
  subst hvt hvu
  clear hT hU hl
  obtain ⟨gr, HGL⟩ : ∃ g, Hid (g = w.heap.size) := ⟨_, rfl⟩
  obtain ⟨wG, HWG⟩ : ∃ z, Hid (z = w.alloc (.cells [nilV, nilV].toArray 30)) := ⟨_, rfl⟩
  have HRB : Hid (Blk wG gr [nilV, nilV] 30) := by rw [HWG.out, HGL.out]; exact Blk.new w _ _
  have HBW : Hid (Below w.heap.size w wG) := by rw [HWG.out]; exact below_alloc w _
  obtain ⟨go, HGO⟩ : ∃ g, Hid (g = wG.heap.size) := ⟨_, rfl⟩
  have HSZ : Hid (go = gr + 1) := by show _ = _; rw [HGO.out, HWG.out, HGL.out]; simp
  have HI : Hid (Lv wG go nilV nilV [] [] (wG.alloc (.cells [nilV, nilV].toArray 30))) := by rw [HGO.out]; exact Lv.start wG
  go_enter Tryd.func12, Tryd.ntmps12
  go_wp2
  have e0 : (some ⟨w.heap.size, 0, none⟩ : Option Addr) = some ⟨gr, 0, none⟩ := by rw [HGL.out]
  have e1 : (some ⟨w.heap.size + 1, 0, none⟩ : Option Addr) = some ⟨go, 0, none⟩ := by rw [HSZ.out, HGL.out]
  simp only [e0, e1]
  clear e0 e1
  change Code.wp _ _ _ _ ((w.alloc (.cells [nilV, nilV].toArray 30)).alloc (.cells [nilV, nilV].toArray 30))
  rw [← HWG.out]
  generalize wG.alloc (.cells [nilV, nilV].toArray 30) = w0 at *
  clear HWG HGO
  go_loopw [6] (fun j wr => ∃ (k : Nat) (xa xv : Value), k ≤ n ∧ j = .int .i64 (k : Int) ∧ Lv wG go xa xv ((ofL ((ds.zip es).take k)).map (·.1)) ((ofL ((ds.zip es).take k)).map (·.2)) wr) (fun j _ => n - (intOf j).toNat)
  case atStart => exact ⟨0, nilV, nilV, by omega, rfl, by simpa [ofL] using HI.out⟩
  case round =>
    clear HI
    obtain ⟨k, xa, xv, hk, rfl, hI⟩ := hrel
    have hI2 := hI
    obtain ⟨adx, cpx, hxa⟩ := hI2.own.a.slice
    obtain ⟨adw, cpw, hxv⟩ := hI2.own.v.slice
    obtain ⟨nx, HNX⟩ : ∃ z : Nat, Hid (z = ((ofL ((ds.zip es).take k)).map (·.1)).length) := ⟨_, rfl⟩
    obtain ⟨nw, HNW⟩ : ∃ z : Nat, Hid (z = ((ofL ((ds.zip es).take k)).map (·.2)).length) := ⟨_, rfl⟩
    rw [← HNX.out] at hxa
    rw [← HNW.out] at hxv
    subst hxa hxv
    have HI : Hid (Lv wG go (.slice adx nx cpx) (.slice adw nw cpw) ((ofL ((ds.zip es).take k)).map (·.1)) ((ofL ((ds.zip es).take k)).map (·.2)) wr) := hI
    clear hI hI2
    by_cases hlt : k < n ∧ k < m
    · obtain ⟨hlt1, hlt2⟩ := hlt
      have hlti : (k : Int) < (n : Int) := by omega
      have hltj : (k : Int) < (m : Int) := by omega
      have k0 : (0 : Int) ≤ (k : Int) := by omega
      have hn6 : n < 1000000 := by rw [HN.out]; exact HL.out
      have f5 : IntKind.i64.wrap ((k : Int) + 1) = (k : Int) + 1 := wrap_small2 _ (by omega) (by omega)
      have HK1 : Hid (k < ds.length) := by show _ < _; rw [← HN.out]; exact hlt1
      have HK2 : Hid (k < es.length) := by show _ < _; rw [← HM.out]; exact hlt2
      obtain ⟨ba, offa, cpa', hva, hya⟩ := HT.out.at (by have := HK1.out; omega)
      obtain ⟨bv, offv, cpv', hvv, hyv⟩ := HU.out.at (by have := HK2.out; omega)
      rw [← HN.out] at hva hya
      rw [← HM.out] at hvv hyv
      simp only [Value.slice.injEq, true_and] at hva hvv
      obtain ⟨rfl, rfl⟩ := hva
      obtain ⟨rfl, rfl⟩ := hvv
      obtain ⟨da, HDA⟩ : ∃ d, Hid (d = ds.getD k []) := ⟨_, rfl⟩
      obtain ⟨dv, HDV⟩ : ∃ d, Hid (d = es.getD k []) := ⟨_, rfl⟩
      have HA32 : Hid (da.length = 32) := by show _ = _; rw [HDA.out]; exact getD_mem32 HT.out.2 HK1.out
      have HV32 : Hid (dv.length = 32) := by show _ = _; rw [HDV.out]; exact getD_mem32 HU.out.2 HK2.out
      have HRA : Hid (∀ wx, Below go wG wx → wx.rangeAt ba (offa + k * 32) (cb da)) := fun wx hx => by
        have h := hya k hlt1
        rw [← HDA.out] at h
        have hb := rangeAt_lt h HA32.out
        exact rangeAt_below (rangeAt_below h HBW.out hb) hx (by have h1 := HSZ.out; have h2 := HGL.out; omega)
      have HRV : Hid (∀ wx, Below go wG wx → wx.rangeAt bv (offv + k * 32) (cb dv)) := fun wx hx => by
        have h := hyv k hlt2
        rw [← HDV.out] at h
        have hb := rangeAt_lt h HV32.out
        exact rangeAt_below (rangeAt_below h HBW.out hb) hx (by have h1 := HSZ.out; have h2 := HGL.out; omega)
      clear hya hyv
      have HNK : Hid (ofL ((ds.zip es).take (k + 1)) = putL (ofL ((ds.zip es).take k)) da dv) := by show _ = _; rw [zip_take HK1.out HK2.out, ofL_snoc, ← HDA.out, ← HDV.out]
      have HLK : Hid ((ofL ((ds.zip es).take k)).length < 1000000) := by show _ < _; have h1 := ofL_len ((ds.zip es).take k); rw [List.length_take] at h1; omega
      go_wp2_with fail
      refine wp_region_held_drew (S := Below go wG) (by kernel_rfl) HI.out.drew.bel ?_
      intro hS
      have hI := HI.out.drew
      clear HI
      change wpAnyH _ _ _ _ _ _ _ _ (World.drew wr)
      generalize World.drew wr = y0 at *
      refine wpAnyH_take (i := 1) (v := .slice (some ⟨ba, offa, none⟩) n cpt) rfl (by kernel_rfl) (by kernel_rfl) (by kernel_rfl) (fun _ _ _ h => h) (Or.inl ⟨by rfl, fun wx hx => by simp [go_sem]⟩) hS ?_
      simp only [Act.put, List.getElem_toArray, List.getElem_cons_succ, List.getElem_cons_zero, List.setIfInBounds_toArray, List.set_cons_zero, List.set_cons_succ]
      refine wpAnyH_take (i := 2) (v := .int .i64 (k : Int)) rfl (by kernel_rfl) (by kernel_rfl) (by kernel_rfl) (fun _ _ _ h => h) (Or.inl ⟨by rfl, fun wx hx => by simp [go_sem]⟩) hS ?_
      simp only [Act.put, List.getElem_toArray, List.getElem_cons_succ, List.getElem_cons_zero, List.setIfInBounds_toArray, List.set_cons_zero, List.set_cons_succ]
      refine wpAnyH_take (i := 5) (v := .slice (some ⟨bv, offv, none⟩) m cpu) rfl (by kernel_rfl) (by kernel_rfl) (by kernel_rfl) (fun _ _ _ h => h) (Or.inl ⟨by rfl, fun wx hx => by simp [go_sem]⟩) hS ?_
      simp only [Act.put, List.getElem_toArray, List.getElem_cons_succ, List.getElem_cons_zero, List.setIfInBounds_toArray, List.set_cons_zero, List.set_cons_succ]
      refine wpAnyH_take (i := 6) (v := .int .i64 (k : Int)) rfl (by kernel_rfl) (by kernel_rfl) (by kernel_rfl) (fun _ _ _ h => h) (Or.inl ⟨by rfl, fun wx hx => by simp [go_sem]⟩) hS ?_
      simp only [Act.put, List.getElem_toArray, List.getElem_cons_succ, List.getElem_cons_zero, List.setIfInBounds_toArray, List.set_cons_zero, List.set_cons_succ]
      refine wpAnyH_take (i := 3) (v := .pointer (some ⟨ba, offa + k * 32, none⟩)) rfl (by kernel_rfl) (by kernel_rfl) (by kernel_rfl) (fun _ _ _ h => h) (Or.inl ⟨by rfl, fun wx hx => by (simp [go_sem, hlti, k0])⟩) hS ?_
      simp only [Act.put, List.getElem_toArray, List.getElem_cons_succ, List.getElem_cons_zero, List.setIfInBounds_toArray, List.set_cons_zero, List.set_cons_succ]
      refine wpAnyH_take (i := 7) (v := .pointer (some ⟨bv, offv + k * 32, none⟩)) rfl (by kernel_rfl) (by kernel_rfl) (by kernel_rfl) (fun _ _ _ h => h) (Or.inl ⟨by rfl, fun wx hx => by (simp [go_sem, hltj, k0])⟩) hS ?_
      simp only [Act.put, List.getElem_toArray, List.getElem_cons_succ, List.getElem_cons_zero, List.setIfInBounds_toArray, List.set_cons_zero, List.set_cons_succ]
      refine wpAnyH_take (i := 4) (v := .agg (cb da).toArray) rfl (by kernel_rfl) (by kernel_rfl) (by kernel_rfl) (fun _ _ _ h => h) (Or.inl ⟨by rfl, fun wx hx => by exact load_run 24 _ rfl _ _ rfl (cb da) _ (HRA.out wx hx) Tryd.underlying24 rfl (by rw [cb_len, HA32.out]; exact info_digest)⟩) hS ?_
      simp only [Act.put, List.getElem_toArray, List.getElem_cons_succ, List.getElem_cons_zero, List.setIfInBounds_toArray, List.set_cons_zero, List.set_cons_succ]
      refine wpAnyH_take (i := 8) (v := .agg (cb dv).toArray) rfl (by kernel_rfl) (by kernel_rfl) (by kernel_rfl) (fun _ _ _ h => h) (Or.inl ⟨by rfl, fun wx hx => by exact load_run 24 _ rfl _ _ rfl (cb dv) _ (HRV.out wx hx) Tryd.underlying24 rfl (by rw [cb_len, HV32.out]; exact info_digest)⟩) hS ?_
      simp only [Act.put, List.getElem_toArray, List.getElem_cons_succ, List.getElem_cons_zero, List.setIfInBounds_toArray, List.set_cons_zero, List.set_cons_succ]
      have c0 : y0.cell? ⟨go, 0, none⟩ = some (.slice adx nx cpx) := hI.out.cell 0
      have c1 : y0.cell? ⟨go, 1, none⟩ = some (.slice adw nw cpw) := hI.out.cell 1
      refine wpAnyH_step 0 (.agg #[.slice adx nx cpx, .slice adw nw cpw]) y0 (by kernel_rfl) rfl (by rfl) (by simp [go_sem, c0, c1]) hS ?_
      simp only [Act.put, List.getElem_toArray, List.getElem_cons_zero, List.setIfInBounds_toArray, List.set_cons_zero, List.set_cons_succ]
      clear c0 c1
      refine wpAnyH_enter 9 (by kernel_rfl) rfl (by rfl) (f := 28) (args := #[.agg #[.slice adx nx cpx, .slice adw nw cpw], .agg (cb da).toArray, .agg (cb dv).toArray]) (by simp [go_sem]) (lfPut_any _ _ (ofL ((ds.zip es).take k)) da dv y0 hI.own.reads HLK.out HA32.out HV32.out) ?_
      rintro e wy ⟨xa2, xv2, rfl, ho, hbq⟩
      have hn := hI.next hbq
      refine ⟨_, rfl, hn.bel, ?_⟩
      obtain ⟨a2, p2, hx2⟩ := ho.a.slice
      obtain ⟨a3, p3, hx3⟩ := ho.v.slice
      obtain ⟨n2, HN2⟩ : ∃ z : Nat, Hid (z = ((putL (ofL ((ds.zip es).take k)) da dv).map (·.1)).length) := ⟨_, rfl⟩
      obtain ⟨n3, HN3⟩ : ∃ z : Nat, Hid (z = ((putL (ofL ((ds.zip es).take k)) da dv).map (·.2)).length) := ⟨_, rfl⟩
      rw [← HN2.out] at hx2
      rw [← HN3.out] at hx3
      subst hx2 hx3
      have hJ := hI.renew hbq ho
      rw [← HNK.out] at hJ
      have c0 := hn.out.cell 0
      have c1 : (wy.setCell ⟨go, 0, none⟩ (.slice a2 n2 p2)).cell? ⟨go, 1, none⟩ = some (.slice adw nw cpw) := (hn.out.set 0 _).cell 1
      have f0 := hn.out.frozen 0
      have f1 : (wy.setCell ⟨go, 0, none⟩ (.slice a2 n2 p2)).frozen? ⟨go, 1, none⟩ = false := (hn.out.set 0 _).frozen 1
      simp only [List.getElem?_cons_zero] at c0
      simp only [Act.put, List.getElem_toArray, List.getElem_cons_succ, List.getElem_cons_zero, List.setIfInBounds_toArray, List.set_cons_zero, List.set_cons_succ]
      refine wpAnyH_skip 10 ((wy.setCell ⟨go, 0, none⟩ (.slice a2 n2 p2)).setCell ⟨go, 1, none⟩ (.slice a3 n3 p3)) (by kernel_rfl) rfl (by rfl) (by simp [go_sem, c0, c1, f0, f1]) hJ.bel ?_
      simp only [Act.put, List.getElem_toArray, List.getElem_cons_succ, List.getElem_cons_zero]
      refine wpAnyH_done (by kernel_rfl) ?_ _
      have HJ : Hid (Lv wG go (.slice a2 n2 p2) (.slice a3 n3 p3) ((ofL ((ds.zip es).take (k + 1))).map (·.1)) ((ofL ((ds.zip es).take (k + 1))).map (·.2)) ((wy.setCell ⟨go, 0, none⟩ (.slice a2 n2 p2)).setCell ⟨go, 1, none⟩ (.slice a3 n3 p3))) := hJ
      clear hJ hn ho hbq c0 c1 f0 f1 hI hS
      generalize (wy.setCell ⟨go, 0, none⟩ (.slice a2 n2 p2)).setCell ⟨go, 1, none⟩ (.slice a3 n3 p3) = w9 at *
      go_wp2
      go_roundw
      case rel => exact ⟨k + 1, _, _, by omega, by simp, HJ.out⟩
      case measure => simp [intOf]; omega
    · have ht : (ds.zip es).take k = ds.zip es := zip_whole (by rw [← HN.out, ← HM.out]; omega)
      have hI2 := HI.out
      rw [ht] at hI2
      have HE : Hid (Lv wG go (.slice adx nx cpx) (.slice adw nw cpw) ((ofL (ds.zip es)).map (·.1)) ((ofL (ds.zip es)).map (·.2)) wr) := hI2
      have d0 : wr.cell? ⟨go, 0, none⟩ = some (.slice adx nx cpx) := hI2.out.cell 0
      have d1 : wr.cell? ⟨go, 1, none⟩ = some (.slice adw nw cpw) := hI2.out.cell 1
      have hr := HRB.out.below hI2.bel (by have := HSZ.out; omega)
      have r0 : wr.cell? ⟨gr, 0, none⟩ = some (.slice none 0 0) := hr.cell 0
      have r1 : wr.cell? ⟨gr, 1, none⟩ = some (.slice none 0 0) := hr.cell 1
      have q0 : wr.frozen? ⟨gr, 0, none⟩ = false := hr.frozen 0
      have q1 : wr.frozen? ⟨gr, 1, none⟩ = false := hr.frozen 1
      have HRR : Hid (Blk wr gr [nilV, nilV] 30) := hr
      clear ht hI2 hr HI
      by_cases h1 : k < n
      · have hlti : (k : Int) < (n : Int) := by omega
        have hltj : ¬ ((k : Int) < (m : Int)) := by omega
        have hd1 : decide ((k : Int) < (n : Int)) = true := decide_eq_true hlti
        have hd2 : decide ((k : Int) < (m : Int)) = false := decide_eq_false hltj
        clear hlt h1
        go_wp2
        have hB6 : Blk ((wr.setCell ⟨gr, 0, none⟩ (.slice adx nx cpx)).setCell ⟨gr, 1, none⟩ (.slice adw nw cpw)) gr [.slice adx nx cpx, .slice adw nw cpw] 30 := (HRR.out.set 0 _).set 1 _
        refine bodyPost_ret (v := Value.agg #[Value.slice adx nx cpx, Value.slice adw nw cpw]) ?_ rfl ⟨Value.slice adx nx cpx, Value.slice adw nw cpw, rfl, ?_, ?_⟩
        · exact results_cell_row (by rfl) _ _ gr 30 _ (0, 0) _ rfl hB6 Tryd.underlying30 rfl (by kernel_rfl)
        · refine (HE.out.own.keep fun j h1 _ => ?_).mono (by have h1 := HSZ.out; have h2 := HGL.out; omega)
          rw [Below.heap_setCell _ _ _ _ (by show j ≠ gr; have := HSZ.out; omega), Below.heap_setCell _ _ _ _ (by show j ≠ gr; have := HSZ.out; omega)]
        · exact ((HBW.out.trans (HE.out.bel.mono (by have h1 := HSZ.out; have h2 := HGL.out; omega))).setCell (by show w.heap.size ≤ gr; have := HGL.out; omega) _).setCell (by show w.heap.size ≤ gr; have := HGL.out; omega) _
      · have hlti : ¬ ((k : Int) < (n : Int)) := by omega
        have hd1 : decide ((k : Int) < (n : Int)) = false := decide_eq_false hlti
        clear hlt h1
        go_wp2
        have hB6 : Blk ((wr.setCell ⟨gr, 0, none⟩ (.slice adx nx cpx)).setCell ⟨gr, 1, none⟩ (.slice adw nw cpw)) gr [.slice adx nx cpx, .slice adw nw cpw] 30 := (HRR.out.set 0 _).set 1 _
        refine bodyPost_ret (v := Value.agg #[Value.slice adx nx cpx, Value.slice adw nw cpw]) ?_ rfl ⟨Value.slice adx nx cpx, Value.slice adw nw cpw, rfl, ?_, ?_⟩
        · exact results_cell_row (by rfl) _ _ gr 30 _ (0, 0) _ rfl hB6 Tryd.underlying30 rfl (by kernel_rfl)
        · refine (HE.out.own.keep fun j h1 _ => ?_).mono (by have h1 := HSZ.out; have h2 := HGL.out; omega)
          rw [Below.heap_setCell _ _ _ _ (by show j ≠ gr; have := HSZ.out; omega), Below.heap_setCell _ _ _ _ (by show j ≠ gr; have := HSZ.out; omega)]
        · exact ((HBW.out.trans (HE.out.bel.mono (by have h1 := HSZ.out; have h2 := HGL.out; omega))).setCell (by show w.heap.size ≤ gr; have := HGL.out; omega) _).setCell (by show w.heap.size ≤ gr; have := HGL.out; omega) _
end Go.Proofs.YtphacinnnepdoaaDoor
/- Plain: what putting does to the halves of leaves; leaves in order; a tree by its leaves (layer 7). -/
namespace Go.Proofs.YtphacinnnepdoaaDoor
/-- x has the first d bits of the leaves -/
def Near (l : List Lf) (x : List (BitVec 8)) (d : Nat) : Prop := ∀ p ∈ l, ∀ j, j < d → bt p.1 j = bt x j
theorem Near.zero (l : List Lf) (x : List (BitVec 8)) : Near l x 0 := fun _ _ j hj => by omega
theorem Near.half {l : List Lf} {x : List (BitVec 8)} {d : Nat} (h : Near l x d) : Near (halfL l d (bt x d)) x (d + 1) := by
  intro p hp j hj
  have hp' := List.mem_filter.1 hp
  by_cases hjd : j < d
  · exact h p hp'.1 j hjd
  · have : j = d := by omega
    subst this
    exact eq_of_beq hp'.2
theorem mem_halfL {l : List Lf} {d : Nat} {b : Bool} {p : Lf} : p ∈ halfL l d b ↔ p ∈ l ∧ bt p.1 d = b := by
  unfold halfL
  rw [List.mem_filter]
  exact ⟨fun h => ⟨h.1, eq_of_beq h.2⟩, fun h => ⟨h.1, by rw [h.2]; simp⟩⟩
theorem half_up {l : List Lf} (h : Up l) (d : Nat) (b : Bool) : Up (halfL l d b) := h.filter _
theorem half_ok {l : List Lf} (h : okLf l) (d : Nat) (b : Bool) : okLf (halfL l d b) := fun p hp => h p (mem_halfL.1 hp).1
theorem half_put_on {l : List Lf} {x v : List (BitVec 8)} {d : Nat} (h : okLf l) (hu : Up l) (hx : x.length = 32) : halfL (putL l x v) d (bt x d) = putL (halfL l d (bt x d)) x v := by
  refine up_ext (half_up (putL_up h hx hu) _ _) (putL_up (half_ok h _ _) hx (half_up hu _ _)) fun p => ?_
  rw [mem_halfL, mem_putL, mem_putL, mem_halfL]
  constructor
  · rintro ⟨h1 | ⟨h1, h2⟩, h3⟩
    · exact Or.inl h1
    · exact Or.inr ⟨h1, h2, h3⟩
  · rintro (h1 | ⟨h1, h2, h3⟩)
    · exact ⟨Or.inl h1, by rw [h1]⟩
    · exact ⟨Or.inr ⟨h1, h2⟩, h3⟩
theorem half_put_off {l : List Lf} {x v : List (BitVec 8)} {d : Nat} {b : Bool} (h : okLf l) (hu : Up l) (hx : x.length = 32) (hb : bt x d ≠ b) : halfL (putL l x v) d b = halfL l d b := by
  refine up_ext (half_up (putL_up h hx hu) _ _) (half_up hu _ _) fun p => ?_
  rw [mem_halfL, mem_putL, mem_halfL]
  constructor
  · rintro ⟨h1 | ⟨h1, h2⟩, h3⟩
    · rw [h1] at h3; exact absurd h3 hb
    · exact ⟨h2, h3⟩
  · rintro ⟨h1, h2⟩
    exact ⟨Or.inr ⟨fun e => hb (by rw [← e]; exact h2), h1⟩, h2⟩
theorem Fits.put {l : List Lf} {x v : List (BitVec 8)} {d : Nat} (h : Fits l d) (hn : Near l x d) (hx : x.length = 32) (hv : v.length = 32) : Fits (putL l x v) d := by
  refine ⟨putL_ok h.1 hx hv, putL_up h.1 hx h.2.1, fun p hp q hq j hj => ?_⟩
  have key : ∀ p ∈ putL l x v, bt p.1 j = bt x j := fun p hp => by
    rcases mem_putL.1 hp with rfl | ⟨_, h1⟩
    · rfl
    · exact hn p h1 j hj
  rw [key p hp, key q hq]
theorem putL_nil (x v : List (BitVec 8)) : putL [] x v = [(x, v)] := rfl
theorem putL_one (x u v : List (BitVec 8)) : putL [(x, u)] x v = [(x, v)] := by
  unfold putL
  simp [lessB_self]
theorem putL_two {y u x v : List (BitVec 8)} (h : y ≠ x) : (putL [(y, u)] x v).length = 2 := by
  unfold putL
  cases hl : lessB y x <;> simp [hl, h]
theorem putL_ge {l : List Lf} {x v : List (BitVec 8)} : l.length ≤ (putL l x v).length ∨ ∃ u, (x, u) ∈ l := by
  by_cases h : ∃ u, (x, u) ∈ l
  · exact Or.inr h
  · refine Or.inl ?_
    unfold putL
    have h1 := congrArg List.length (take_drop_while l fun p => lessB p.1 x)
    have h2 : ((l.dropWhile fun p => lessB p.1 x).filter fun p => decide (p.1 ≠ x)) = l.dropWhile fun p => lessB p.1 x := by
      rw [List.filter_eq_self]
      intro p hp
      have hm : p ∈ l := by rw [← take_drop_while l (fun p => lessB p.1 x)]; exact List.mem_append_right _ hp
      exact decide_eq_true fun e => h ⟨p.2, by rw [← e]; exact hm⟩
    rw [h2]
    rw [List.length_append] at h1
    rw [List.length_append, List.length_cons]
    omega
/-- how many leaves there are behind a Put -/
theorem putL_count {l : List Lf} {x v : List (BitVec 8)} (h : okLf l) (hu : Up l) (hx : x.length = 32) : (putL l x v).length = if (getL l x).isSome then l.length else l.length + 1 := by
  cases hg : getL l x with
  | none =>
    have hn := getL_none.1 hg
    have h2 : ((l.dropWhile fun p => lessB p.1 x).filter fun p => decide (p.1 ≠ x)) = l.dropWhile fun p => lessB p.1 x := by
      rw [List.filter_eq_self]
      intro p hp
      have hm : p ∈ l := by rw [← take_drop_while l (fun p => lessB p.1 x)]; exact List.mem_append_right _ hp
      exact decide_eq_true fun e => hn p.2 (by rw [← e]; exact hm)
    have h1 := congrArg List.length (take_drop_while l fun p => lessB p.1 x)
    unfold putL
    rw [h2]
    rw [List.length_append] at h1
    rw [List.length_append, List.length_cons]
    simp
    omega
  | some u =>
    have hm := (getL_mem hu).1 hg
    have h1 : (putL l x v).map (·.1) = l.map (·.1) := by
      have e : ∀ (m : List Lf), m.map (·.1) = (m.map fun p => (p.1, p.1)).map (·.1) := fun m => by rw [List.map_map]; rfl
      rw [e (putL l x v), e l]
      congr 1
      have up2 : ∀ m : List Lf, Up m → Up (m.map fun p => (p.1, p.1)) := fun m hm => by
        unfold Up
        rw [List.pairwise_map]
        exact hm
      refine up_ext (up2 _ (putL_up h hx hu)) (up2 _ hu) fun q => ?_
      simp only [List.mem_map]
      constructor
      · rintro ⟨p, hp, rfl⟩
        rcases mem_putL.1 hp with rfl | ⟨_, h1⟩
        · exact ⟨(x, u), hm, rfl⟩
        · exact ⟨p, h1, rfl⟩
      · rintro ⟨p, hp, rfl⟩
        by_cases hc : p.1 = x
        · exact ⟨(x, v), mem_putL.2 (Or.inl rfl), by rw [hc]⟩
        · exact ⟨p, mem_putL.2 (Or.inr ⟨hc, hp⟩), rfl⟩
    have h2 := congrArg List.length h1
    rw [List.length_map, List.length_map] at h2
    simpa using h2
theorem getL_half {l : List Lf} {x : List (BitVec 8)} {d : Nat} : getL (halfL l d (bt x d)) x = getL l x := by
  unfold getL halfL
  congr 1
  induction l with
  | nil => rfl
  | cons p r ih =>
    rw [List.filter_cons, List.find?_cons]
    by_cases hp : p.1 = x
    · have : (bt p.1 d == bt x d) = true := by rw [hp]; simp
      rw [if_pos this, List.find?_cons, decide_eq_true hp]
    · rw [decide_eq_false hp]
      split
      · rw [List.find?_cons, decide_eq_false hp]
        exact ih
      · exact ih
/-- the leaves whose next bit is off stand ahead of the others -/
theorem half_order {l : List Lf} {d : Nat} (h : Fits l d) : l = halfL l d false ++ halfL l d true := by
  have key : ∀ l : List Lf, okLf l → Up l → (∀ p ∈ l, ∀ q ∈ l, ∀ j, j < d → bt p.1 j = bt q.1 j) → l = halfL l d false ++ halfL l d true := by
    intro l
    induction l with
    | nil => intro _ _ _; rfl
    | cons p r ih =>
      intro ho hu hc
      have hu' := List.pairwise_cons.1 hu
      have hr := ih (fun q hq => ho q (List.mem_cons_of_mem _ hq)) hu'.2 (fun a ha b hb => hc a (List.mem_cons_of_mem _ ha) b (List.mem_cons_of_mem _ hb))
      cases hb : bt p.1 d with
      | false =>
        have e1 : halfL (p :: r) d false = p :: halfL r d false := by unfold halfL; rw [List.filter_cons, hb]; rfl
        have e2 : halfL (p :: r) d true = halfL r d true := by unfold halfL; rw [List.filter_cons, hb]; rfl
        rw [e1, e2, List.cons_append, ← hr]
      | true =>
        have e1 : halfL (p :: r) d false = halfL r d false := by unfold halfL; rw [List.filter_cons, hb]; rfl
        have e2 : halfL (p :: r) d true = p :: halfL r d true := by unfold halfL; rw [List.filter_cons, hb]; rfl
        have e3 : halfL r d false = [] := by
          unfold halfL
          rw [List.filter_eq_nil_iff]
          intro q hq hqb
          have hqf : bt q.1 d = false := eq_of_beq hqb
          have hlt := hu'.1 q hq
          have hp32 := (ho p List.mem_cons_self).1
          have hq32 := (ho q (List.mem_cons_of_mem _ hq)).1
          have hne := less_ne hlt
          have hcm := (common_spec p.1 q.1)
          rw [less_common p.1 q.1 hp32 hq32 hne] at hlt
          have hcd : common p.1 q.1 = d := by
            rcases Nat.lt_trichotomy (common p.1 q.1) d with h1 | h1 | h1
            · exact absurd (hc p List.mem_cons_self q (List.mem_cons_of_mem _ hq) _ h1) (hcm.2.2 (common_lt _ _ hp32 hq32 hne))
            · exact h1
            · have := hcm.2.1 d h1
              rw [hb, hqf] at this
              cases this
          rw [hcd, hqf] at hlt
          cases hlt
        rw [e1, e2, e3, List.nil_append]
        rw [e3, List.nil_append] at hr
        rw [← hr]
  exact key l h.1 h.2.1 h.2.2
theorem half_len {l : List Lf} {d : Nat} (h : Fits l d) : l.length = (halfL l d false).length + (halfL l d true).length := by
  have := congrArg List.length (half_order h)
  rwa [List.length_append] at this
end Go.Proofs.YtphacinnnepdoaaDoor
/- What the functions of a tree do, over any way in which trees lie in memory (T); the walk of the statements' works. -/
namespace Go.Proofs.YtphacinnnepdoaaDoor
open Go.RowKit
set_option maxRecDepth 100000
/-- the tree's functions, as the chapter says: T W g l: a tree with the leaves l lies at block g -/
structure TrOps (T : World → Nat → List Lf → Prop) : Prop where
  next : ∀ {W W' : World} {g : Nat} {l : List Lf}, T W g l → Below W.heap.size W W' → T W' g l
  good : ∀ {W : World} {g : Nat} {l : List Lf}, T W g l → okLf l ∧ Up l
  empty : ∀ (W : World), KOk W → Calls Tryd.prog 23 #[] W fun e w' => ∃ g, e = .returned (.pointer (some ⟨g, 0, none⟩)) ∧ T w' g [] ∧ Below W.heap.size W w'
  put : ∀ (W : World) (g : Nat) (l : List Lf) (x v : List (BitVec 8)), KOk W → T W g l → l.length < 100 → x.length = 32 → v.length = 32 → Calls Tryd.prog 22 #[.pointer (some ⟨g, 0, none⟩), .agg (cb x).toArray, .agg (cb v).toArray] W fun e w' => ∃ g', e = .returned (.pointer (some ⟨g', 0, none⟩)) ∧ T w' g' (putL l x v) ∧ Below W.heap.size W w'
  ofs : ∀ (W : World) (vt vu : Value) (ds es : List (List (BitVec 8))), KOk W → ReadsD W vt ds → ReadsD W vu es → ds.length ≤ 60 → Calls Tryd.prog 11 #[vt, vu] W fun e w' => ∃ g, e = .returned (.pointer (some ⟨g, 0, none⟩)) ∧ T w' g (ofL (ds.zip es)) ∧ Below W.heap.size W w'
  len : ∀ (W : World) (g : Nat) (l : List Lf), T W g l → Calls Tryd.prog 15 #[.pointer (some ⟨g, 0, none⟩)] W fun e w' => e = .returned (.int .i64 (l.length : Int)) ∧ Below W.heap.size W w'
  root : ∀ (W : World) (g : Nat) (l : List Lf), KOk W → T W g l → Calls Tryd.prog 13 #[.pointer (some ⟨g, 0, none⟩)] W fun e w' => e = .returned (.agg (cb (rootL l 0)).toArray) ∧ Below W.heap.size W w'
  get : ∀ (W : World) (g : Nat) (l : List Lf) (x : List (BitVec 8)), T W g l → x.length = 32 → Calls Tryd.prog 16 #[.pointer (some ⟨g, 0, none⟩), .agg (cb x).toArray] W fun e w' => e = .returned (.tuple #[.agg (cb ((getL l x).getD zb32)).toArray, .bool (getL l x).isSome]) ∧ Below W.heap.size W w'
  prove : ∀ (W : World) (g : Nat) (l : List Lf) (x : List (BitVec 8)), KOk W → T W g l → x.length = 32 → Calls Tryd.prog 19 #[.pointer (some ⟨g, 0, none⟩), .agg (cb x).toArray] W fun e w' => ∃ vs, e = .returned (.agg (prfV vs (pend (wayL l x 0).2).1 (pend (wayL l x 0).2).2.1 (pend (wayL l x 0).2).2.2).toArray) ∧ OwnD w' W.heap.size vs (wayL l x 0).1 ∧ Below W.heap.size W w'
def dgt (b : BitVec 8) : List (BitVec 8) := b :: List.replicate 31 0
theorem dgt_len (b : BitVec 8) : (dgt b).length = 32 := rfl
theorem buildT1 (a : Act) (o : Oper) (ho : o.op = .build 24 #[(0, .const (.int .u8 1))]) (w : World) : (execOp a.eval o).run Tryd.prog w = .ok (.value (.agg (cb (dgt 1)).toArray)) w := by
  unfold execOp
  rw [ho]
  simp only [Act.eval, List.map_toArray, List.map_cons, List.map_nil]
  kernel_rfl
theorem buildT2 (a : Act) (o : Oper) (ho : o.op = .build 24 #[(0, .const (.int .u8 2))]) (w : World) : (execOp a.eval o).run Tryd.prog w = .ok (.value (.agg (cb (dgt 2)).toArray)) w := by
  unfold execOp
  rw [ho]
  simp only [Act.eval, List.map_toArray, List.map_cons, List.map_nil]
  kernel_rfl
theorem trfew_any (v : Value) (ds : List (List (BitVec 8))) (w : World) (hR : ReadsD w v ds) : Calls Tryd.prog 9 #[v] w fun e w' => e = .returned (.bool (decide (ds.length ≤ 60))) ∧ Below w.heap.size w w' := by
  obtain ⟨ad, cp, hv⟩ := hR.slice
  obtain ⟨n, HN⟩ : ∃ n, Hid (n = ds.length) := ⟨_, rfl⟩
  rw [← HN.out] at hv
  subst hv
  have HB : Hid (decide (ds.length ≤ 60) = decide ((n : Int) ≤ 60)) := by
    show _ = _
    rw [← HN.out]
    exact decide_eq_decide.2 ⟨fun h => by omega, fun h => by omega⟩
  clear hR
  go_enter Tryd.func9, Tryd.ntmps9
  go_wp2
  go_ret
  exact ⟨by rw [HB.out]; rfl, Below.refl _ _⟩
set_option maxRecDepth 100000 in
set_option maxHeartbeats 4000000 in
theorem trworks_any {T : World → Nat → List Lf → Prop} (hT : TrOps T) (w : World) (hK : KOk w) : Calls Tryd.prog 10 #[] w fun e w' => e = .returned (.bool true) ∧ Below w.heap.size w w' := by
  have HT : Hid (TrOps T) := hT
  have HK : Hid (KOk w) := hK
  have HBW : Hid (Below w.heap.size w w) := Below.refl _ _
  clear hT hK
  obtain ⟨x, HX⟩ : ∃ x, Hid (x = dgt 1) := ⟨_, rfl⟩
  obtain ⟨v, HV⟩ : ∃ x, Hid (x = dgt 2) := ⟨_, rfl⟩
  have HX32 : Hid (x.length = 32) := by show _ = _; rw [HX.out]; rfl
  have HV32 : Hid (v.length = 32) := by show _ = _; rw [HV.out]; rfl
  obtain ⟨r0, HR0⟩ : ∃ r, Hid (r = dig [69]) := ⟨_, rfl⟩
  obtain ⟨r1, HR1⟩ : ∃ r, Hid (r = dig (pairB 76 x v)) := ⟨_, rfl⟩
  have HL0 : Hid (r0.length = 32) := by show _ = _; rw [HR0.out]; exact len_dig' _
  have HL1 : Hid (r1.length = 32) := by show _ = _; rw [HR1.out]; exact len_dig' _
  have q0 : ∀ wx : World, (Op.equalIn 10000 24 (.agg (cb r0).toArray) (.agg (cb r0).toArray)).run Tryd.prog wx = .ok true wx := fun wx => eq_dig_same r0 HL0.out wx
  have q1 : ∀ wx : World, (Op.equalIn 10000 24 (.agg (cb r1).toArray) (.agg (cb r1).toArray)).run Tryd.prog wx = .ok true wx := fun wx => eq_dig_same r1 HL1.out wx
  have q2 : ∀ wx : World, (Op.equalIn 10000 24 (.agg (cb v).toArray) (.agg (cb v).toArray)).run Tryd.prog wx = .ok true wx := fun wx => eq_dig_same v HV32.out wx
  have E0 : Hid (rootL [] 0 = r0) := by show _ = _; rw [rootL_nil, HR0.out]
  have E1 : Hid (putL [] x v = [(x, v)]) := putL_nil x v
  have E2 : Hid (rootL [(x, v)] 0 = r1) := by show _ = _; rw [rootL_one, HR1.out]
  have E3 : Hid (getL [(x, v)] x = some v) := by show _ = _; unfold getL; simp
  have E4 : Hid (getL [] x = none) := rfl
  go_enter Tryd.func10, Tryd.ntmps10
  go_upto_region 7 with (first
    | (go_at_call 23; refine (HT.out.empty _ HK.out).mono ?_; rintro e w1 ⟨g0, rfl, ht, hb⟩
       have HT0 : Hid (T w1 g0 []) := ht
       replace HK : Hid (KOk w1) := HK.out.below hb HK.out.lt
       replace HBW : Hid (Below w.heap.size w w1) := HBW.out.trans (hb.mono HBW.out.size)
       clear hb ht)
    | (go_at_call 13; refine (HT.out.root _ g0 [] HK.out HT0.out).mono ?_; rintro e w2 ⟨rfl, hb⟩
       rw [E0.out]
       replace HT0 : Hid (T w2 g0 []) := HT.out.next HT0.out hb
       replace HK : Hid (KOk w2) := HK.out.below hb HK.out.lt
       replace HBW : Hid (Below w.heap.size w w2) := HBW.out.trans (hb.mono HBW.out.size)
       clear hb)
    | (go_at_call 24; refine (hEmpty_any _).mono ?_; rintro e w3 ⟨rfl, hb⟩
       rw [← HR0.out]
       replace HT0 : Hid (T w3 g0 []) := HT.out.next HT0.out hb
       replace HK : Hid (KOk w3) := HK.out.below hb HK.out.lt
       replace HBW : Hid (Below w.heap.size w w3) := HBW.out.trans (hb.mono HBW.out.size)
       clear hb)
    | (refine wpSeq_val _ _ (by rfl) (buildT1 _ _ rfl _) ?_; rw [← HX.out])
    | (refine wpSeq_val _ _ (by rfl) (buildT2 _ _ rfl _) ?_; rw [← HV.out])
    | (go_at_call 22; refine (HT.out.put _ g0 [] x v HK.out HT0.out (by decide) HX32.out HV32.out).mono ?_; rintro e w4 ⟨g1, rfl, ht, hb⟩
       rw [E1.out] at ht
       have HT1 : Hid (T w4 g1 [(x, v)]) := ht
       replace HT0 : Hid (T w4 g0 []) := HT.out.next HT0.out hb
       replace HK : Hid (KOk w4) := HK.out.below hb HK.out.lt
       replace HBW : Hid (Below w.heap.size w w4) := HBW.out.trans (hb.mono HBW.out.size)
       clear hb ht))
  go_upto_region 8 with (first
    | (refine wpSeq_val _ _ (by rfl) (buildT1 _ _ rfl _) ?_; rw [← HX.out])
    | (go_at_call 16; refine (HT.out.get _ g1 [(x, v)] x HT1.out HX32.out).mono ?_; rintro e w5 ⟨rfl, hb⟩
       rw [E3.out]
       replace HT0 : Hid (T w5 g0 []) := HT.out.next HT0.out hb
       replace HT1 : Hid (T w5 g1 [(x, v)]) := HT.out.next HT1.out hb
       replace HK : Hid (KOk w5) := HK.out.below hb HK.out.lt
       replace HBW : Hid (Below w.heap.size w w5) := HBW.out.trans (hb.mono HBW.out.size)
       clear hb)
    | (with_reducible refine wpSeq_allocD ?_ ?_ ?_
       · rfl
       · rfl
       intro g3 w6 nn)
    | (with_reducible refine wpSeq_storeD (.tmp 3) (.tmp 26) g3 zb32 v ?_ ?_ ?_ ?_ ?_ ?_ ?_ ?_
       · rfl
       · exact HV32.out
       · exact nn.blk
       · rfl
       · rfl
       · rfl
       · rfl
       intro w7 h9
       have hb : Below w5.heap.size w5 w7 := nn.below.trans (h9.only.below nn.ge nn.below.size)
       have Hg3 : Hid (Blk w7 g3 (cb v) 24) := h9.blk
       replace HT0 : Hid (T w7 g0 []) := HT.out.next HT0.out hb
       replace HT1 : Hid (T w7 g1 [(x, v)]) := HT.out.next HT1.out hb
       replace HK : Hid (KOk w7) := HK.out.below hb HK.out.lt
       replace HBW : Hid (Below w.heap.size w w7) := HBW.out.trans (hb.mono HBW.out.size)
       clear nn hb h9))
  go_upto_region 9 with (first
    | (refine wpSeq_val _ _ (by rfl) (buildT1 _ _ rfl _) ?_; rw [← HX.out])
    | (go_at_call 16; refine (HT.out.get _ g0 [] x HT0.out HX32.out).mono ?_; rintro e w8 ⟨rfl, hb⟩
       rw [E4.out]
       replace Hg3 : Hid (Blk w8 g3 (cb v) 24) := Hg3.out.below hb Hg3.out.lt
       replace HT0 : Hid (T w8 g0 []) := HT.out.next HT0.out hb
       replace HT1 : Hid (T w8 g1 [(x, v)]) := HT.out.next HT1.out hb
       replace HK : Hid (KOk w8) := HK.out.below hb HK.out.lt
       replace HBW : Hid (Below w.heap.size w w8) := HBW.out.trans (hb.mono HBW.out.size)
       clear hb)
    | (with_reducible refine wpSeq_allocD ?_ ?_ ?_
       · rfl
       · rfl
       intro g5 w9 nn)
    | (with_reducible refine wpSeq_storeD (.tmp 5) (.tmp 32) g5 zb32 zb32 ?_ ?_ ?_ ?_ ?_ ?_ ?_ ?_
       · rfl
       · exact rfl
       · exact nn.blk
       · rfl
       · rfl
       · rfl
       · rfl
       intro w10 h9
       have hb : Below w8.heap.size w8 w10 := nn.below.trans (h9.only.below nn.ge nn.below.size)
       replace Hg3 : Hid (Blk w10 g3 (cb v) 24) := Hg3.out.below hb Hg3.out.lt
       have Hg5 : Hid (Blk w10 g5 (cb zb32) 24) := h9.blk
       replace HT0 : Hid (T w10 g0 []) := HT.out.next HT0.out hb
       replace HT1 : Hid (T w10 g1 [(x, v)]) := HT.out.next HT1.out hb
       replace HK : Hid (KOk w10) := HK.out.below hb HK.out.lt
       replace HBW : Hid (Below w.heap.size w w10) := HBW.out.trans (hb.mono HBW.out.size)
       clear nn hb h9))
  have HC1 : Hid (∀ W, T W g1 [(x, v)] → Calls Tryd.prog 15 #[.pointer (some ⟨g1, 0, none⟩)] W fun e w' => e = .returned (.int .i64 1) ∧ Below W.heap.size W w') := fun W h => HT.out.len W g1 [(x, v)] h
  have HC0 : Hid (∀ W, T W g0 [] → Calls Tryd.prog 15 #[.pointer (some ⟨g0, 0, none⟩)] W fun e w' => e = .returned (.int .i64 0) ∧ Below W.heap.size W w') := fun W h => HT.out.len W g0 [] h
  go_wp2_with (first
    | (go_at_call 15; refine (HC1.out _ HT1.out).mono ?_; rintro e w11 ⟨rfl, hb⟩
       replace Hg3 : Hid (Blk w11 g3 (cb v) 24) := Hg3.out.below hb Hg3.out.lt
       replace HT0 : Hid (T w11 g0 []) := HT.out.next HT0.out hb
       replace HT1 : Hid (T w11 g1 [(x, v)]) := HT.out.next HT1.out hb
       replace HK : Hid (KOk w11) := HK.out.below hb HK.out.lt
       replace HBW : Hid (Below w.heap.size w w11) := HBW.out.trans (hb.mono HBW.out.size)
       clear hb HC1)
    | (go_at_call 15; refine (HC0.out _ HT0.out).mono ?_; rintro e w12 ⟨rfl, hb⟩
       replace Hg3 : Hid (Blk w12 g3 (cb v) 24) := Hg3.out.below hb Hg3.out.lt
       replace HT0 : Hid (T w12 g0 []) := HT.out.next HT0.out hb
       replace HT1 : Hid (T w12 g1 [(x, v)]) := HT.out.next HT1.out hb
       replace HK : Hid (KOk w12) := HK.out.below hb HK.out.lt
       replace HBW : Hid (Below w.heap.size w w12) := HBW.out.trans (hb.mono HBW.out.size)
       clear hb HC0)
    | (with_reducible refine wpSeq_loadD (.tmp 3) g3 v ?_ ?_ ?_ ?_ ?_ ?_
       · exact HV32.out
       · exact Hg3.out
       · rfl
       · rfl
       · rfl)
    | (refine wpSeq_val _ _ (by rfl) (buildT1 _ _ rfl _) ?_; rw [← HX.out])
    | (refine wpSeq_val _ _ (by rfl) (buildT2 _ _ rfl _) ?_; rw [← HV.out])
    | (go_at_call 13; refine (HT.out.root _ g1 [(x, v)] HK.out HT1.out).mono ?_; rintro e w13 ⟨rfl, hb⟩
       rw [E2.out]
       replace HT0 : Hid (T w13 g0 []) := HT.out.next HT0.out hb
       replace HT1 : Hid (T w13 g1 [(x, v)]) := HT.out.next HT1.out hb
       replace HK : Hid (KOk w13) := HK.out.below hb HK.out.lt
       replace HBW : Hid (Below w.heap.size w w13) := HBW.out.trans (hb.mono HBW.out.size)
       clear hb)
    | (go_at_call 25; refine (hLeaf_any x v HX32.out HV32.out _).mono ?_; rintro e w14 ⟨rfl, hb⟩
       rw [← HR1.out]
       replace HT0 : Hid (T w14 g0 []) := HT.out.next HT0.out hb
       replace HT1 : Hid (T w14 g1 [(x, v)]) := HT.out.next HT1.out hb
       replace HK : Hid (KOk w14) := HK.out.below hb HK.out.lt
       replace HBW : Hid (Below w.heap.size w w14) := HBW.out.trans (hb.mono HBW.out.size)
       clear hb))
  go_ret
  exact ⟨rfl, HBW.out⟩
end Go.Proofs.YtphacinnnepdoaaDoor
/- Trees in memory (layer 7): a tree's cells, and what lies below it. -/
namespace Go.Proofs.YtphacinnnepdoaaDoor
open Go.RowKit
/-- a tree's cells: count, root, index, value, off, on -/
def treeV (c : Nat) (rt ix vl : List (BitVec 8)) (p q : Value) : List Value := .int .i64 (c : Int) :: (cb rt ++ (cb ix ++ (cb vl ++ [p, q])))
structure TreeC (W : World) (g c : Nat) (rt ix vl : List (BitVec 8)) (p q : Value) : Prop where
  blk : Blk W g (treeV c rt ix vl p q) 59
  l1 : rt.length = 32
  l2 : ix.length = 32
  l3 : vl.length = 32
theorem TreeC.below {W W' : World} {g c B : Nat} {rt ix vl : List (BitVec 8)} {p q : Value} (h : TreeC W g c rt ix vl p q) (hb : Below B W W') (hB : g < B) : TreeC W' g c rt ix vl p q := ⟨h.blk.below hb hB, h.l1, h.l2, h.l3⟩
theorem TreeC.next {W W' : World} {g c : Nat} {rt ix vl : List (BitVec 8)} {p q : Value} (h : TreeC W g c rt ix vl p q) (hb : Below W.heap.size W W') : TreeC W' g c rt ix vl p q := h.below hb h.blk.lt
theorem TreeC.drew {W : World} {g c : Nat} {rt ix vl : List (BitVec 8)} {p q : Value} (h : TreeC W g c rt ix vl p q) : TreeC W.drew g c rt ix vl p q := ⟨h.blk.drew, h.l1, h.l2, h.l3⟩
theorem TreeC.cnt {W : World} {g c : Nat} {rt ix vl : List (BitVec 8)} {p q : Value} (h : TreeC W g c rt ix vl p q) : W.cell? ⟨g, 0, none⟩ = some (.int .i64 (c : Int)) := by rw [h.blk.cell]; rfl
theorem TreeC.root {W : World} {g c : Nat} {rt ix vl : List (BitVec 8)} {p q : Value} (h : TreeC W g c rt ix vl p q) : W.rangeAt g 1 (cb rt) := fun j v hv => by
  have hj : j < (cb rt).length := (List.getElem?_eq_some_iff.1 hv).1
  rw [h.blk.cell, treeV, Nat.add_comm, List.getElem?_cons_succ, List.getElem?_append_left hj, hv]
theorem TreeC.index {W : World} {g c : Nat} {rt ix vl : List (BitVec 8)} {p q : Value} (h : TreeC W g c rt ix vl p q) : W.rangeAt g 33 (cb ix) := fun j v hv => by
  have hj : j < (cb ix).length := (List.getElem?_eq_some_iff.1 hv).1
  have e1 : (cb rt).length = 32 := by rw [cb_len, h.l1]
  rw [h.blk.cell, treeV, show 33 + j = (32 + j) + 1 by omega, List.getElem?_cons_succ, List.getElem?_append_right (by omega), e1, Nat.add_sub_cancel_left, List.getElem?_append_left hj, hv]
theorem TreeC.value {W : World} {g c : Nat} {rt ix vl : List (BitVec 8)} {p q : Value} (h : TreeC W g c rt ix vl p q) : W.rangeAt g 65 (cb vl) := fun j v hv => by
  have hj : j < (cb vl).length := (List.getElem?_eq_some_iff.1 hv).1
  have e1 : (cb rt).length = 32 := by rw [cb_len, h.l1]
  have e2 : (cb ix).length = 32 := by rw [cb_len, h.l2]
  rw [h.blk.cell, treeV, show 65 + j = (32 + (32 + j)) + 1 by omega, List.getElem?_cons_succ, List.getElem?_append_right (by omega), e1, Nat.add_sub_cancel_left, List.getElem?_append_right (by omega), e2, Nat.add_sub_cancel_left, List.getElem?_append_left hj, hv]
theorem TreeC.tail {W : World} {g c : Nat} {rt ix vl : List (BitVec 8)} {p q : Value} (h : TreeC W g c rt ix vl p q) (j : Nat) : W.cell? ⟨g, 97 + j, none⟩ = [p, q][j]? := by
  have e1 : (cb rt).length = 32 := by rw [cb_len, h.l1]
  have e2 : (cb ix).length = 32 := by rw [cb_len, h.l2]
  have e3 : (cb vl).length = 32 := by rw [cb_len, h.l3]
  rw [h.blk.cell, treeV, show 97 + j = (32 + (32 + (32 + j))) + 1 by omega, List.getElem?_cons_succ, List.getElem?_append_right (by omega), e1, Nat.add_sub_cancel_left, List.getElem?_append_right (by omega), e2, Nat.add_sub_cancel_left, List.getElem?_append_right (by omega), e3, Nat.add_sub_cancel_left]
theorem TreeC.off {W : World} {g c : Nat} {rt ix vl : List (BitVec 8)} {p q : Value} (h : TreeC W g c rt ix vl p q) : W.cell? ⟨g, 97, none⟩ = some p := h.tail 0
theorem TreeC.on {W : World} {g c : Nat} {rt ix vl : List (BitVec 8)} {p q : Value} (h : TreeC W g c rt ix vl p q) : W.cell? ⟨g, 98, none⟩ = some q := h.tail 1
def ptr (g : Nat) : Value := .pointer (some ⟨g, 0, none⟩)
/-- a tree of the leaves l, that stands below d bits, lies at block g -/
inductive TreeIs (W : World) : Nat → Nat → List Lf → Prop
  | none (d g : Nat) : TreeC W g 0 (dig [69]) zb32 zb32 (.pointer none) (.pointer none) → TreeIs W d g []
  | leaf (d g : Nat) (x v : List (BitVec 8)) : TreeC W g 1 (dig (pairB 76 x v)) x v (.pointer none) (.pointer none) → TreeIs W d g [(x, v)]
  | node (d g g0 g1 : Nat) (l : List Lf) : 2 ≤ l.length → Fits l d → TreeIs W (d + 1) g0 (halfL l d false) → TreeIs W (d + 1) g1 (halfL l d true) → TreeC W g l.length (rootL l d) zb32 zb32 (ptr g0) (ptr g1) → TreeIs W d g l
theorem TreeIs.next {W W' : World} {d g : Nat} {l : List Lf} (h : TreeIs W d g l) (hb : Below W.heap.size W W') : TreeIs W' d g l := by
  induction h with
  | none d g hc => exact .none d g (hc.next hb)
  | leaf d g x v hc => exact .leaf d g x v (hc.next hb)
  | node d g g0 g1 l h2 hf _ _ hc i0 i1 => exact .node d g g0 g1 l h2 hf i0 i1 (hc.next hb)
/-- what a tree's own cells tell -/
theorem TreeIs.cells {W : World} {d g : Nat} {l : List Lf} (h : TreeIs W d g l) : ∃ ix vl p q, TreeC W g l.length (rootL l d) ix vl p q := by
  cases h with
  | none _ _ hc => exact ⟨_, _, _, _, by rw [rootL_nil]; exact hc⟩
  | leaf _ _ x v hc => exact ⟨_, _, _, _, by rw [rootL_one]; exact hc⟩
  | node _ _ g0 g1 _ h2 hf _ _ hc => exact ⟨_, _, _, _, hc⟩
/-- a leaf does not depend on how deep it stands -/
theorem TreeIs.single {W : World} {d d' g : Nat} {p : Lf} (h : TreeIs W d g [p]) : TreeIs W d' g [p] := by
  cases h with
  | leaf _ _ x v hc => exact .leaf d' g x v hc
  | node _ _ g0 g1 _ h2 => simp at h2
/-- a whole tree -/
def TT (W : World) (g : Nat) (l : List Lf) : Prop := TreeIs W 0 g l ∧ okLf l ∧ Up l
theorem TT.next {W W' : World} {g : Nat} {l : List Lf} (h : TT W g l) (hb : Below W.heap.size W W') : TT W' g l := ⟨h.1.next hb, h.2⟩
theorem fits_zero {l : List Lf} (h1 : okLf l) (h2 : Up l) : Fits l 0 := ⟨h1, h2, fun _ _ _ _ j hj => by omega⟩
theorem trLen_any (W : World) (d g : Nat) (l : List Lf) (h : TreeIs W d g l) : Calls Tryd.prog 15 #[.pointer (some ⟨g, 0, none⟩)] W fun e w' => e = .returned (.int .i64 (l.length : Int)) ∧ Below W.heap.size W w' := by
  obtain ⟨ix, vl, p, q, hc⟩ := h.cells
  have c0 := hc.cnt
  clear h hc
  go_enter Tryd.func15, Tryd.ntmps15
  go_wp2
  go_ret
  exact ⟨rfl, Below.refl _ _⟩
end Go.Proofs.YtphacinnnepdoaaDoor
/- The walks of tree.Empty, single and joined. -/
namespace Go.Proofs.YtphacinnnepdoaaDoor
open Go.RowKit
theorem builtE (f : Operand → Value) (o : Oper) (x : Operand) (ho : o.op = .build 59 #[(1, x)]) (rt : List (BitVec 8)) (hl : rt.length = 32) (hx : f x = .agg (cb rt).toArray) (w : World) : (execOp f o).run Tryd.prog w = .ok (.value (.agg (treeV 0 rt zb32 zb32 (.pointer none) (.pointer none)).toArray)) w := by
  unfold execOp
  rw [ho]
  simp only [List.map_toArray, List.map_cons, List.map_nil, hx]
  match rt, hl with
  | [x0, x1, x2, x3, x4, x5, x6, x7, x8, x9, x10, x11, x12, x13, x14, x15, x16, x17, x18, x19, x20, x21, x22, x23, x24, x25, x26, x27, x28, x29, x30, x31], _ =>
    refine id ?_
    show _ = _
    kernel_rfl
theorem builtS (f : Operand → Value) (o : Oper) (x y z : Operand) (ho : o.op = .build 59 #[(0, .const (.int .i64 1)), (1, x), (2, y), (3, z)]) (rt ix vl : List (BitVec 8)) (hl : rt.length = 32) (hl2 : ix.length = 32) (hl3 : vl.length = 32) (hc : f (.const (.int .i64 1)) = .int .i64 1) (hx : f x = .agg (cb rt).toArray) (hy : f y = .agg (cb ix).toArray) (hz : f z = .agg (cb vl).toArray) (w : World) : (execOp f o).run Tryd.prog w = .ok (.value (.agg (treeV 1 rt ix vl (.pointer none) (.pointer none)).toArray)) w := by
  unfold execOp
  rw [ho]
  simp only [List.map_toArray, List.map_cons, List.map_nil, hc, hx, hy, hz]
  match rt, hl, ix, hl2, vl, hl3 with
  | [x0, x1, x2, x3, x4, x5, x6, x7, x8, x9, x10, x11, x12, x13, x14, x15, x16, x17, x18, x19, x20, x21, x22, x23, x24, x25, x26, x27, x28, x29, x30, x31], _, [y0, y1, y2, y3, y4, y5, y6, y7, y8, y9, y10, y11, y12, y13, y14, y15, y16, y17, y18, y19, y20, y21, y22, y23, y24, y25, y26, y27, y28, y29, y30, y31], _, [z0, z1, z2, z3, z4, z5, z6, z7, z8, z9, z10, z11, z12, z13, z14, z15, z16, z17, z18, z19, z20, z21, z22, z23, z24, z25, z26, z27, z28, z29, z30, z31], _ =>
    refine id ?_
    show _ = _
    kernel_rfl
theorem builtJ (f : Operand → Value) (o : Oper) (c x y z : Operand) (ho : o.op = .build 59 #[(0, c), (1, x), (4, y), (5, z)]) (n g0 g1 : Nat) (rt : List (BitVec 8)) (hl : rt.length = 32) (hc : f c = .int .i64 (n : Int)) (hx : f x = .agg (cb rt).toArray) (hy : f y = ptr g0) (hz : f z = ptr g1) (w : World) : (execOp f o).run Tryd.prog w = .ok (.value (.agg (treeV n rt zb32 zb32 (ptr g0) (ptr g1)).toArray)) w := by
  unfold execOp
  rw [ho]
  simp only [List.map_toArray, List.map_cons, List.map_nil, hc, hx, hy, hz]
  match rt, hl with
  | [x0, x1, x2, x3, x4, x5, x6, x7, x8, x9, x10, x11, x12, x13, x14, x15, x16, x17, x18, x19, x20, x21, x22, x23, x24, x25, x26, x27, x28, x29, x30, x31], _ =>
    refine id ?_
    show _ = _
    kernel_rfl
theorem boxTree (f : Operand → Value) (o : Oper) (x : Operand) (ho : o.op = .box 59 x) (cs : List Value) (hx : f x = .agg cs.toArray) (w : World) : (execOp f o).run Tryd.prog w = .ok (.value (.pointer (some ⟨w.heap.size, 0, none⟩))) (w.alloc (.cells cs.toArray 59)) := by
  unfold execOp
  rw [ho]
  simp only [hx]
  rfl
set_option maxRecDepth 100000 in
set_option maxHeartbeats 1000000 in
theorem trEmpty_any (w : World) (hK : KOk w) : Calls Tryd.prog 23 #[] w fun e w' => ∃ g, e = .returned (.pointer (some ⟨g, 0, none⟩)) ∧ TreeC w' g 0 (dig [69]) zb32 zb32 (.pointer none) (.pointer none) ∧ Below w.heap.size w w' := by
  obtain ⟨r, HRD⟩ : ∃ r, Hid (r = dig [69]) := ⟨_, rfl⟩
  have HRL : Hid (r.length = 32) := by show _ = _; rw [HRD.out]; exact len_dig' _
  have HK : Hid (KOk w) := hK
  clear hK
  rw [← HRD.out]
  go_enter Tryd.func23, Tryd.ntmps23
  go_wp2_with (first
    | (go_at_call 38; refine (tEmpty_any _).mono ?_; rintro e w1 ⟨v1, rfl, hr1, hb1⟩
       have HR1 : Hid (Reads w1 v1 [69]) := hr1
       have HBW : Hid (Below w.heap.size w w1) := hb1
       replace HK : Hid (KOk w1) := HK.out.below hb1 HK.out.lt
       clear hr1 hb1)
    | (go_at_call 37; refine (tOf_any v1 _ _ HK.out HR1.out (by decide)).mono ?_; rintro e w2 ⟨rfl, hb1⟩
       rw [← HRD.out]
       replace HBW : Hid (Below w.heap.size w w2) := HBW.out.trans (hb1.mono HBW.out.size)
       clear hb1 HR1 HK)
    | (refine wpSeq_val _ _ (by rfl) (builtE _ _ (.tmp 2) rfl r HRL.out rfl _) ?_)
    | (refine wpSeq_val _ _ (by rfl) (boxTree _ _ (.tmp 3) rfl _ rfl _) ?_
       obtain ⟨w3, HW3⟩ : ∃ z, Hid (z = w2.alloc (.cells (treeV 0 r zb32 zb32 (.pointer none) (.pointer none)).toArray 59)) := ⟨_, rfl⟩
       rw [← HW3.out]))
  go_ret
  refine ⟨w2.heap.size, rfl, ⟨by rw [HW3.out]; exact Blk.new _ _ _, HRL.out, rfl, rfl⟩, by rw [HW3.out]; exact HBW.out.trans ((below_alloc w2 _).mono HBW.out.size)⟩
set_option maxRecDepth 100000 in
set_option maxHeartbeats 2000000 in
theorem trSingle_any (x v : List (BitVec 8)) (hx : x.length = 32) (hv : v.length = 32) (w : World) (hK : KOk w) : Calls Tryd.prog 36 #[.agg (cb x).toArray, .agg (cb v).toArray] w fun e w' => ∃ g, e = .returned (.pointer (some ⟨g, 0, none⟩)) ∧ w.heap.size ≤ g ∧ TreeC w' g 1 (dig (pairB 76 x v)) x v (.pointer none) (.pointer none) ∧ Below w.heap.size w w' := by
  obtain ⟨r, HRD⟩ : ∃ r, Hid (r = dig (pairB 76 x v)) := ⟨_, rfl⟩
  have HRL : Hid (r.length = 32) := by show _ = _; rw [HRD.out]; exact len_dig' _
  have HK : Hid (KOk w) := hK
  have HX : Hid (x.length = 32) := hx
  have HV : Hid (v.length = 32) := hv
  clear hK hx hv
  rw [← HRD.out]
  go_enter Tryd.func36, Tryd.ntmps36
  go_wp2_with (first
    | (with_reducible refine wpSeq_boxD (.tmp 0) x ?_ ?_ ?_ ?_
       · rfl
       · rfl
       · rfl
       intro gx wx nn
       have HBX : Hid (Blk wx gx (cb x) 24) := nn.blk
       have HBW : Hid (Below w.heap.size w wx) := nn.below
       clear nn)
    | (with_reducible refine wpSeq_boxD (.tmp 1) v ?_ ?_ ?_ ?_
       · rfl
       · rfl
       · rfl
       intro gv wv nn
       replace HBX : Hid (Blk wv gx (cb x) 24) := HBX.out.below nn.below HBX.out.lt
       have HBV : Hid (Blk wv gv (cb v) 24) := nn.blk
       replace HBW : Hid (Below w.heap.size w wv) := HBW.out.trans (nn.below.mono HBW.out.size)
       clear nn))
  replace HK : Hid (KOk wv.drew) := (HK.out.below HBW.out HK.out.lt : KOk wv)
  refine wp_region_held_drew (S := Over wv.drew) (by kernel_rfl) (Over.refl _) ?_
  intro hS
  refine wpAnyH_take (i := 0) (v := .agg (cb x).toArray) rfl (by kernel_rfl) (by kernel_rfl) (by kernel_rfl) (fun _ _ _ h => h) (Or.inl ⟨by rfl, fun wx hx => by exact loadDigest _ gx x HX.out (Over.blk hx HBX.out.drew) rfl rfl⟩) hS ?_
  simp only [Act.put, List.getElem_toArray, List.getElem_cons_zero, List.setIfInBounds_toArray, List.set_cons_zero, List.set_cons_succ]
  refine wpAnyH_take (i := 1) (v := .agg (cb v).toArray) rfl (by kernel_rfl) (by kernel_rfl) (by kernel_rfl) (fun _ _ _ h => h) (Or.inl ⟨by rfl, fun wx hx => by exact loadDigest _ gv v HV.out (Over.blk hx HBV.out.drew) rfl rfl⟩) hS ?_
  simp only [Act.put, List.getElem_toArray, List.getElem_cons_succ, List.getElem_cons_zero, List.setIfInBounds_toArray, List.set_cons_zero, List.set_cons_succ]
  refine wpAnyH_take (i := 4) (v := .agg (cb x).toArray) rfl (by kernel_rfl) (by kernel_rfl) (by kernel_rfl) (fun _ _ _ h => h) (Or.inl ⟨by rfl, fun wx hx => by exact loadDigest _ gx x HX.out (Over.blk hx HBX.out.drew) rfl rfl⟩) hS ?_
  simp only [Act.put, List.getElem_toArray, List.getElem_cons_succ, List.getElem_cons_zero, List.setIfInBounds_toArray, List.set_cons_zero, List.set_cons_succ]
  refine wpAnyH_take (i := 5) (v := .agg (cb v).toArray) rfl (by kernel_rfl) (by kernel_rfl) (by kernel_rfl) (fun _ _ _ h => h) (Or.inl ⟨by rfl, fun wx hx => by exact loadDigest _ gv v HV.out (Over.blk hx HBV.out.drew) rfl rfl⟩) hS ?_
  simp only [Act.put, List.getElem_toArray, List.getElem_cons_succ, List.getElem_cons_zero, List.setIfInBounds_toArray, List.set_cons_zero, List.set_cons_succ]
  refine wpAnyH_enter 2 (by kernel_rfl) rfl (by rfl) (f := 55) (args := #[.agg (cb x).toArray, .agg (cb v).toArray]) (by simp [go_sem]) (tLeaf_any x v HX.out HV.out _) ?_
  rintro e wy ⟨v7, rfl, hr7, hbq⟩
  refine ⟨_, rfl, hS.more hbq, ?_⟩
  replace hS := hS.more hbq
  clear hbq
  generalize HVV : v7 = vv at *
  clear HVV
  simp only [Act.put, List.getElem_toArray, List.getElem_cons_succ, List.getElem_cons_zero, List.setIfInBounds_toArray, List.set_cons_zero, List.set_cons_succ]
  refine wpAnyH_enter 3 (by kernel_rfl) rfl (by rfl) (f := 37) (args := #[vv]) (by simp [go_sem]) (tOf_any vv _ _ (HK.out.below hS.out HK.out.lt) hr7 (by have h1 := HX.out; have h2 := HV.out; simp [pairB]; omega)) ?_
  rintro e wz ⟨rfl, hbq⟩
  have HGE : Hid (w.heap.size ≤ wz.heap.size) := Nat.le_trans HBW.out.size (hS.more hbq).out.size
  refine ⟨_, rfl, hS.more hbq, ?_⟩
  replace hS := hS.more hbq
  clear hbq hr7
  rw [← HRD.out]
  simp only [Act.put, List.getElem_toArray, List.getElem_cons_succ, List.getElem_cons_zero, List.setIfInBounds_toArray, List.set_cons_zero, List.set_cons_succ]
  refine wpAnyH_take (i := 6) (v := .agg (treeV 1 r x v (.pointer none) (.pointer none)).toArray) rfl (by kernel_rfl) (by kernel_rfl) (by kernel_rfl) (fun _ _ _ h => h) (Or.inl ⟨by rfl, fun wx hx => by exact builtS _ _ (.tmp 8) (.tmp 9) (.tmp 10) rfl r x v HRL.out HX.out HV.out rfl rfl rfl rfl _⟩) hS ?_
  simp only [Act.put, List.getElem_toArray, List.getElem_cons_succ, List.getElem_cons_zero, List.setIfInBounds_toArray, List.set_cons_zero, List.set_cons_succ]
  refine wpAnyH_step 7 (.pointer (some ⟨wz.heap.size, 0, none⟩)) (wz.alloc (.cells (treeV 1 r x v (.pointer none) (.pointer none)).toArray 59)) (by kernel_rfl) rfl (by rfl) (boxTree _ _ (.tmp 11) rfl _ rfl _) (hS.more (below_alloc _ _)) ?_
  simp only [Act.put, List.getElem_toArray, List.getElem_cons_succ, List.getElem_cons_zero, List.setIfInBounds_toArray, List.set_cons_zero, List.set_cons_succ]
  replace hS := hS.more (below_alloc wz (.cells (treeV 1 r x v (.pointer none) (.pointer none)).toArray 59))
  have HBN : Hid (Blk (wz.alloc (.cells (treeV 1 r x v (.pointer none) (.pointer none)).toArray 59)) wz.heap.size (treeV 1 r x v (.pointer none) (.pointer none)) 59) := Blk.new _ _ _
  generalize wz.alloc (.cells (treeV 1 r x v (.pointer none) (.pointer none)).toArray 59) = wn at *
  refine wpAnyH_take (i := 8) (v := .pointer (some ⟨wz.heap.size, 0, none⟩)) rfl (by kernel_rfl) (by kernel_rfl) (by kernel_rfl) (fun _ _ _ h => h) (Or.inl ⟨by rfl, fun wx hx => by simp [go_sem]⟩) hS ?_
  simp only [Act.put, List.getElem_toArray, List.getElem_cons_succ, List.getElem_cons_zero, List.setIfInBounds_toArray, List.set_cons_zero, List.set_cons_succ]
  refine wpAnyH_done (by kernel_rfl) ?_ _
  go_wp2
  go_ret
  exact ⟨wz.heap.size, rfl, HGE.out, ⟨HBN.out, HRL.out, HX.out, HV.out⟩, hS.after HBW.out.drew⟩
set_option maxRecDepth 100000 in
set_option maxHeartbeats 4000000 in
theorem trJoined_any (g0 g1 n0 n1 : Nat) (r0 r1 ix0 vl0 ix1 vl1 : List (BitVec 8)) (p0 q0 p1 q1 : Value) (w : World) (hK : KOk w) (h0 : TreeC w g0 n0 r0 ix0 vl0 p0 q0) (h1 : TreeC w g1 n1 r1 ix1 vl1 p1 q1) (hn : n0 + n1 < 1000000) : Calls Tryd.prog 45 #[.pointer (some ⟨g0, 0, none⟩), .pointer (some ⟨g1, 0, none⟩)] w fun e w' => ∃ g, e = .returned (.pointer (some ⟨g, 0, none⟩)) ∧ TreeC w' g (n0 + n1) (dig (pairB 78 r0 r1)) zb32 zb32 (ptr g0) (ptr g1) ∧ Below w.heap.size w w' := by
  obtain ⟨r, HRD⟩ : ∃ r, Hid (r = dig (pairB 78 r0 r1)) := ⟨_, rfl⟩
  have HRL : Hid (r.length = 32) := by show _ = _; rw [HRD.out]; exact len_dig' _
  have HK : Hid (KOk w.drew) := hK
  have H0 : Hid (TreeC w g0 n0 r0 ix0 vl0 p0 q0) := h0
  have H1 : Hid (TreeC w g1 n1 r1 ix1 vl1 p1 q1) := h1
  have HL0 : Hid (r0.length = 32) := h0.l1
  have HL1 : Hid (r1.length = 32) := h1.l1
  have rn : IntKind.i64.wrap ((n0 : Int) + (n1 : Int)) = (n0 : Int) + (n1 : Int) := by rw [IntKind.wrap_i64]; omega
  clear hK h0 h1
  rw [← HRD.out]
  go_enter Tryd.func45, Tryd.ntmps45
  go_wp2_with fail
  refine wp_region_held_drew (S := Over w.drew) (by kernel_rfl) (Over.refl _) ?_
  intro hS
  refine wpAnyH_take (i := 0) (v := .pointer (some ⟨g0, 0, none⟩)) rfl (by kernel_rfl) (by kernel_rfl) (by kernel_rfl) (fun _ _ _ h => h) (Or.inl ⟨by rfl, fun wx hx => by simp [go_sem]⟩) hS ?_
  simp only [Act.put, List.getElem_toArray, List.getElem_cons_zero, List.setIfInBounds_toArray, List.set_cons_zero, List.set_cons_succ]
  refine wpAnyH_take (i := 1) (v := .pointer (some ⟨g0, 0, none⟩)) rfl (by kernel_rfl) (by kernel_rfl) (by kernel_rfl) (fun _ _ _ h => h) (Or.inl ⟨by rfl, fun wx hx => by simp [go_sem]⟩) hS ?_
  simp only [Act.put, List.getElem_toArray, List.getElem_cons_succ, List.getElem_cons_zero, List.setIfInBounds_toArray, List.set_cons_zero, List.set_cons_succ]
  refine wpAnyH_take (i := 2) (v := .pointer (some ⟨g0, 0, none⟩)) rfl (by kernel_rfl) (by kernel_rfl) (by kernel_rfl) (fun _ _ _ h => h) (Or.inl ⟨by rfl, fun wx hx => by simp [go_sem]⟩) hS ?_
  simp only [Act.put, List.getElem_toArray, List.getElem_cons_succ, List.getElem_cons_zero, List.setIfInBounds_toArray, List.set_cons_zero, List.set_cons_succ]
  refine wpAnyH_take (i := 3) (v := .int .i64 (n0 : Int)) rfl (by kernel_rfl) (by kernel_rfl) (by kernel_rfl) (fun _ _ _ h => h) (Or.inl ⟨by rfl, fun wx hx => by (have hc := (H0.out.drew.below hx.out H0.out.blk.lt).cnt; simp [go_sem, hc])⟩) hS ?_
  simp only [Act.put, List.getElem_toArray, List.getElem_cons_succ, List.getElem_cons_zero, List.setIfInBounds_toArray, List.set_cons_zero, List.set_cons_succ]
  refine wpAnyH_take (i := 4) (v := .pointer (some ⟨g1, 0, none⟩)) rfl (by kernel_rfl) (by kernel_rfl) (by kernel_rfl) (fun _ _ _ h => h) (Or.inl ⟨by rfl, fun wx hx => by simp [go_sem]⟩) hS ?_
  simp only [Act.put, List.getElem_toArray, List.getElem_cons_succ, List.getElem_cons_zero, List.setIfInBounds_toArray, List.set_cons_zero, List.set_cons_succ]
  refine wpAnyH_take (i := 5) (v := .pointer (some ⟨g1, 0, none⟩)) rfl (by kernel_rfl) (by kernel_rfl) (by kernel_rfl) (fun _ _ _ h => h) (Or.inl ⟨by rfl, fun wx hx => by simp [go_sem]⟩) hS ?_
  simp only [Act.put, List.getElem_toArray, List.getElem_cons_succ, List.getElem_cons_zero, List.setIfInBounds_toArray, List.set_cons_zero, List.set_cons_succ]
  refine wpAnyH_take (i := 6) (v := .pointer (some ⟨g1, 0, none⟩)) rfl (by kernel_rfl) (by kernel_rfl) (by kernel_rfl) (fun _ _ _ h => h) (Or.inl ⟨by rfl, fun wx hx => by simp [go_sem]⟩) hS ?_
  simp only [Act.put, List.getElem_toArray, List.getElem_cons_succ, List.getElem_cons_zero, List.setIfInBounds_toArray, List.set_cons_zero, List.set_cons_succ]
  refine wpAnyH_take (i := 7) (v := .int .i64 (n1 : Int)) rfl (by kernel_rfl) (by kernel_rfl) (by kernel_rfl) (fun _ _ _ h => h) (Or.inl ⟨by rfl, fun wx hx => by (have hc := (H1.out.drew.below hx.out H1.out.blk.lt).cnt; simp [go_sem, hc])⟩) hS ?_
  simp only [Act.put, List.getElem_toArray, List.getElem_cons_succ, List.getElem_cons_zero, List.setIfInBounds_toArray, List.set_cons_zero, List.set_cons_succ]
  refine wpAnyH_take (i := 8) (v := .int .i64 ((n0 + n1 : Nat) : Int)) rfl (by kernel_rfl) (by kernel_rfl) (by kernel_rfl) (fun _ _ _ h => h) (Or.inl ⟨by rfl, fun wx hx => by simp [go_sem, rn]⟩) hS ?_
  simp only [Act.put, List.getElem_toArray, List.getElem_cons_succ, List.getElem_cons_zero, List.setIfInBounds_toArray, List.set_cons_zero, List.set_cons_succ]
  refine wpAnyH_take (i := 9) (v := .pointer (some ⟨g0, 0, none⟩)) rfl (by kernel_rfl) (by kernel_rfl) (by kernel_rfl) (fun _ _ _ h => h) (Or.inl ⟨by rfl, fun wx hx => by simp [go_sem]⟩) hS ?_
  simp only [Act.put, List.getElem_toArray, List.getElem_cons_succ, List.getElem_cons_zero, List.setIfInBounds_toArray, List.set_cons_zero, List.set_cons_succ]
  refine wpAnyH_take (i := 10) (v := .pointer (some ⟨g0, 0, none⟩)) rfl (by kernel_rfl) (by kernel_rfl) (by kernel_rfl) (fun _ _ _ h => h) (Or.inl ⟨by rfl, fun wx hx => by simp [go_sem]⟩) hS ?_
  simp only [Act.put, List.getElem_toArray, List.getElem_cons_succ, List.getElem_cons_zero, List.setIfInBounds_toArray, List.set_cons_zero, List.set_cons_succ]
  refine wpAnyH_take (i := 11) (v := .pointer (some ⟨g0, 1, none⟩)) rfl (by kernel_rfl) (by kernel_rfl) (by kernel_rfl) (fun _ _ _ h => h) (Or.inl ⟨by rfl, fun wx hx => by simp [go_sem]⟩) hS ?_
  simp only [Act.put, List.getElem_toArray, List.getElem_cons_succ, List.getElem_cons_zero, List.setIfInBounds_toArray, List.set_cons_zero, List.set_cons_succ]
  refine wpAnyH_take (i := 12) (v := .agg (cb r0).toArray) rfl (by kernel_rfl) (by kernel_rfl) (by kernel_rfl) (fun _ _ _ h => h) (Or.inl ⟨by rfl, fun wx hx => by exact load_run 24 _ rfl _ _ rfl (cb r0) _ ((H0.out.drew.below hx.out H0.out.blk.lt).root) Tryd.underlying24 rfl (by rw [cb_len, HL0.out]; exact info_digest)⟩) hS ?_
  simp only [Act.put, List.getElem_toArray, List.getElem_cons_succ, List.getElem_cons_zero, List.setIfInBounds_toArray, List.set_cons_zero, List.set_cons_succ]
  refine wpAnyH_take (i := 13) (v := .pointer (some ⟨g1, 0, none⟩)) rfl (by kernel_rfl) (by kernel_rfl) (by kernel_rfl) (fun _ _ _ h => h) (Or.inl ⟨by rfl, fun wx hx => by simp [go_sem]⟩) hS ?_
  simp only [Act.put, List.getElem_toArray, List.getElem_cons_succ, List.getElem_cons_zero, List.setIfInBounds_toArray, List.set_cons_zero, List.set_cons_succ]
  refine wpAnyH_take (i := 14) (v := .pointer (some ⟨g1, 0, none⟩)) rfl (by kernel_rfl) (by kernel_rfl) (by kernel_rfl) (fun _ _ _ h => h) (Or.inl ⟨by rfl, fun wx hx => by simp [go_sem]⟩) hS ?_
  simp only [Act.put, List.getElem_toArray, List.getElem_cons_succ, List.getElem_cons_zero, List.setIfInBounds_toArray, List.set_cons_zero, List.set_cons_succ]
  refine wpAnyH_take (i := 15) (v := .pointer (some ⟨g1, 1, none⟩)) rfl (by kernel_rfl) (by kernel_rfl) (by kernel_rfl) (fun _ _ _ h => h) (Or.inl ⟨by rfl, fun wx hx => by simp [go_sem]⟩) hS ?_
  simp only [Act.put, List.getElem_toArray, List.getElem_cons_succ, List.getElem_cons_zero, List.setIfInBounds_toArray, List.set_cons_zero, List.set_cons_succ]
  refine wpAnyH_take (i := 16) (v := .agg (cb r1).toArray) rfl (by kernel_rfl) (by kernel_rfl) (by kernel_rfl) (fun _ _ _ h => h) (Or.inl ⟨by rfl, fun wx hx => by exact load_run 24 _ rfl _ _ rfl (cb r1) _ ((H1.out.drew.below hx.out H1.out.blk.lt).root) Tryd.underlying24 rfl (by rw [cb_len, HL1.out]; exact info_digest)⟩) hS ?_
  simp only [Act.put, List.getElem_toArray, List.getElem_cons_succ, List.getElem_cons_zero, List.setIfInBounds_toArray, List.set_cons_zero, List.set_cons_succ]
  refine wpAnyH_take (i := 19) (v := .pointer (some ⟨g0, 0, none⟩)) rfl (by kernel_rfl) (by kernel_rfl) (by kernel_rfl) (fun _ _ _ h => h) (Or.inl ⟨by rfl, fun wx hx => by simp [go_sem]⟩) hS ?_
  simp only [Act.put, List.getElem_toArray, List.getElem_cons_succ, List.getElem_cons_zero, List.setIfInBounds_toArray, List.set_cons_zero, List.set_cons_succ]
  refine wpAnyH_take (i := 20) (v := .pointer (some ⟨g1, 0, none⟩)) rfl (by kernel_rfl) (by kernel_rfl) (by kernel_rfl) (fun _ _ _ h => h) (Or.inl ⟨by rfl, fun wx hx => by simp [go_sem]⟩) hS ?_
  simp only [Act.put, List.getElem_toArray, List.getElem_cons_succ, List.getElem_cons_zero, List.setIfInBounds_toArray, List.set_cons_zero, List.set_cons_succ]
  refine wpAnyH_enter 17 (by kernel_rfl) rfl (by rfl) (f := 62) (args := #[.agg (cb r0).toArray, .agg (cb r1).toArray]) (by simp [go_sem]) (tNode_any r0 r1 HL0.out HL1.out _) ?_
  rintro e wy ⟨v7, rfl, hr7, hbq⟩
  refine ⟨_, rfl, hS.more hbq, ?_⟩
  replace hS := hS.more hbq
  clear hbq
  generalize HVV : v7 = vv at *
  clear HVV
  simp only [Act.put, List.getElem_toArray, List.getElem_cons_succ, List.getElem_cons_zero, List.setIfInBounds_toArray, List.set_cons_zero, List.set_cons_succ]
  refine wpAnyH_enter 18 (by kernel_rfl) rfl (by rfl) (f := 37) (args := #[vv]) (by simp [go_sem]) (tOf_any vv _ _ (HK.out.below hS.out HK.out.lt) hr7 (by have h1 := HL0.out; have h2 := HL1.out; simp [pairB]; omega)) ?_
  rintro e wz ⟨rfl, hbq⟩
  refine ⟨_, rfl, hS.more hbq, ?_⟩
  replace hS := hS.more hbq
  clear hbq hr7
  rw [← HRD.out]
  simp only [Act.put, List.getElem_toArray, List.getElem_cons_succ, List.getElem_cons_zero, List.setIfInBounds_toArray, List.set_cons_zero, List.set_cons_succ]
  refine wpAnyH_take (i := 21) (v := .agg (treeV (n0 + n1) r zb32 zb32 (ptr g0) (ptr g1)).toArray) rfl (by kernel_rfl) (by kernel_rfl) (by kernel_rfl) (fun _ _ _ h => h) (Or.inl ⟨by rfl, fun wx hx => by exact builtJ _ _ (.tmp 13) (.tmp 23) (.tmp 24) (.tmp 25) rfl (n0 + n1) g0 g1 r HRL.out rfl rfl rfl rfl _⟩) hS ?_
  simp only [Act.put, List.getElem_toArray, List.getElem_cons_succ, List.getElem_cons_zero, List.setIfInBounds_toArray, List.set_cons_zero, List.set_cons_succ]
  refine wpAnyH_step 22 (.pointer (some ⟨wz.heap.size, 0, none⟩)) (wz.alloc (.cells (treeV (n0 + n1) r zb32 zb32 (ptr g0) (ptr g1)).toArray 59)) (by kernel_rfl) rfl (by rfl) (boxTree _ _ (.tmp 26) rfl _ rfl _) (hS.more (below_alloc _ _)) ?_
  simp only [Act.put, List.getElem_toArray, List.getElem_cons_succ, List.getElem_cons_zero, List.setIfInBounds_toArray, List.set_cons_zero, List.set_cons_succ]
  replace hS := hS.more (below_alloc wz (.cells (treeV (n0 + n1) r zb32 zb32 (ptr g0) (ptr g1)).toArray 59))
  have HBN : Hid (Blk (wz.alloc (.cells (treeV (n0 + n1) r zb32 zb32 (ptr g0) (ptr g1)).toArray 59)) wz.heap.size (treeV (n0 + n1) r zb32 zb32 (ptr g0) (ptr g1)) 59) := Blk.new _ _ _
  generalize wz.alloc (.cells (treeV (n0 + n1) r zb32 zb32 (ptr g0) (ptr g1)).toArray 59) = wn at *
  refine wpAnyH_take (i := 23) (v := .pointer (some ⟨wz.heap.size, 0, none⟩)) rfl (by kernel_rfl) (by kernel_rfl) (by kernel_rfl) (fun _ _ _ h => h) (Or.inl ⟨by rfl, fun wx hx => by simp [go_sem]⟩) hS ?_
  simp only [Act.put, List.getElem_toArray, List.getElem_cons_succ, List.getElem_cons_zero, List.setIfInBounds_toArray, List.set_cons_zero, List.set_cons_succ]
  refine wpAnyH_done (by kernel_rfl) ?_ _
  go_wp2
  go_ret
  exact ⟨wz.heap.size, rfl, ⟨HBN.out, HRL.out, rfl, rfl⟩, hS.after (Below.refl _ w).drew⟩
end Go.Proofs.YtphacinnnepdoaaDoor

/- The walks of the reference's SameRequest and SameSigned. -/
import Derived.Test.YtldbcglakeggaaaRecOneL
namespace Go.Proofs.Ytldbcglakeggaaa
open Go.RowKit
theorem part_dig (A C : List Value) (x : List (BitVec 8)) (off : Nat) (hA : A.length = off) (hx : x.length = 32) (w : World) : (part 28 (A ++ (cb x ++ C)).toArray off).run Try.prog w = .ok (.agg (cb x).toArray) w := by
  have ha : (isAgg 28).run Try.prog w = .ok true w := by kernel_rfl
  have hs : (sizeOf 28).run Try.prog w = .ok 32 w := by kernel_rfl
  have e : (A ++ (cb x ++ C)).toArray.extract off (off + 32) = (cb x).toArray := by
    rw [List.extract_toArray, List.extract_eq_take_drop, show off + 32 - off = 32 by omega, ← hA, List.drop_left, show (32 : Nat) = (cb x).length by rw [cb_len, hx], List.take_left]
  simp only [part, Sem.run_bind, ha, Result.andThen_ok, if_true, hs, Sem.run_pure, e]
def rootL (n : Nat) (x y z : List (BitVec 8)) : List Value := Value.int .u64 (n : Int) :: (cb x ++ (cb y ++ cb z))
theorem part_u64 (n : Nat) (r : List Value) (w : World) : (part 23 (Value.int .u64 (n : Int) :: r).toArray 0).run Try.prog w = .ok (.int .u64 (n : Int)) w := by
  have ha : (isAgg 23).run Try.prog w = .ok false w := by kernel_rfl
  simp only [part, Sem.run_bind, ha, Result.andThen_ok]
  simp
theorem eq_root (n m : Nat) (x y z a b c : List (BitVec 8)) (hx : x.length = 32) (hy : y.length = 32) (hz : z.length = 32) (ha : a.length = 32) (hb : b.length = 32) (hc : c.length = 32) (w : World) :
    (Op.equalIn 10000 40 (.agg (Value.int .u64 (n : Int) :: (cb x ++ (cb y ++ cb z))).toArray) (.agg (Value.int .u64 (m : Int) :: (cb a ++ (cb b ++ cb c))).toArray)).run Try.prog w = .ok (decide (n = m ∧ x = a ∧ y = b ∧ z = c)) w := by
  have hst : Try.prog.stoodInHeld 40 = false := by kernel_rfl
  have pn := fun w => part_u64 n (cb x ++ (cb y ++ cb z)) w
  have pm := fun w => part_u64 m (cb a ++ (cb b ++ cb c)) w
  have px : ∀ w, (part 28 (Value.int .u64 (n : Int) :: (cb x ++ (cb y ++ cb z))).toArray 1).run Try.prog w = .ok (.agg (cb x).toArray) w := fun w => part_dig [_] (cb y ++ cb z) x 1 rfl hx w
  have pa : ∀ w, (part 28 (Value.int .u64 (m : Int) :: (cb a ++ (cb b ++ cb c))).toArray 1).run Try.prog w = .ok (.agg (cb a).toArray) w := fun w => part_dig [_] (cb b ++ cb c) a 1 rfl ha w
  have py : ∀ w, (part 28 (Value.int .u64 (n : Int) :: (cb x ++ (cb y ++ cb z))).toArray 33).run Try.prog w = .ok (.agg (cb y).toArray) w := fun w => by
    have := part_dig (Value.int .u64 (n : Int) :: cb x) (cb z) y 33 (by rw [List.length_cons, cb_len, hx]) hy w
    rwa [List.cons_append] at this
  have pb : ∀ w, (part 28 (Value.int .u64 (m : Int) :: (cb a ++ (cb b ++ cb c))).toArray 33).run Try.prog w = .ok (.agg (cb b).toArray) w := fun w => by
    have := part_dig (Value.int .u64 (m : Int) :: cb a) (cb c) b 33 (by rw [List.length_cons, cb_len, ha]) hb w
    rwa [List.cons_append] at this
  have pz : ∀ w, (part 28 (Value.int .u64 (n : Int) :: (cb x ++ (cb y ++ cb z))).toArray 65).run Try.prog w = .ok (.agg (cb z).toArray) w := fun w => by
    have := part_dig (Value.int .u64 (n : Int) :: (cb x ++ cb y)) [] z 65 (by rw [List.length_cons, List.length_append, cb_len, cb_len, hx, hy]) hz w
    rwa [List.cons_append, List.append_nil, List.append_assoc] at this
  have pc : ∀ w, (part 28 (Value.int .u64 (m : Int) :: (cb a ++ (cb b ++ cb c))).toArray 65).run Try.prog w = .ok (.agg (cb c).toArray) w := fun w => by
    have := part_dig (Value.int .u64 (m : Int) :: (cb a ++ cb b)) [] c 65 (by rw [List.length_cons, List.length_append, cb_len, cb_len, ha, hb]) hc w
    rwa [List.cons_append, List.append_nil, List.append_assoc] at this
  have ex : ∀ w, (Op.equalIn 9999 28 (.agg (cb x).toArray) (.agg (cb a).toArray)).run Try.prog w = .ok (decide (x = a)) w := fun w => eq_digs 9997 x a hx ha w
  have ey : ∀ w, (Op.equalIn 9999 28 (.agg (cb y).toArray) (.agg (cb b).toArray)).run Try.prog w = .ok (decide (y = b)) w := fun w => eq_digs 9997 y b hy hb w
  have ez : ∀ w, (Op.equalIn 9999 28 (.agg (cb z).toArray) (.agg (cb c).toArray)).run Try.prog w = .ok (decide (z = c)) w := fun w => eq_digs 9997 z c hz hc w
  have en : ∀ w, (Op.equalIn 9999 23 (.int .u64 (n : Int)) (.int .u64 (m : Int))).run Try.prog w = .ok ((n : Int) == (m : Int)) w := fun w => run_equalIn_int w 9998 23 .u64 .u64 _ _ Try.underlying23
  rw [show (10000 : Nat) = 9999 + 1 from rfl, Op.equalIn]
  simp only [Sem.run_bind, run_underlying Try.underlying40, Result.andThen_ok]
  have hp : ∀ w, (program).run Try.prog w = .ok Try.prog w := fun _ => rfl
  have hd : decide (n = m ∧ x = a ∧ y = b ∧ z = c) = (((n : Int) == (m : Int)) && (decide (x = a) && (decide (y = b) && decide (z = c)))) := by
    have e : ((n : Int) == (m : Int)) = decide (n = m) := by
      rw [Bool.eq_iff_iff, beq_iff_eq, decide_eq_true_iff]; omega
    rw [e]; simp
  rw [hd]
  generalize ((n : Int) == (m : Int)) = bn at *
  generalize decide (x = a) = bx at *
  generalize decide (y = b) = by' at *
  generalize decide (z = c) = bz at *
  clear hd
  simp only [hp, Result.andThen_ok, hst, Bool.false_eq_true, if_false, List.forIn_toArray, List.forIn_cons, List.forIn_nil, Sem.run_bind]
  cases bn <;> cases bx <;> cases by' <;> cases bz <;> simp [pn, pm, px, pa, py, pb, pz, pc, en, ex, ey, ez]
theorem sgnV_root (ep : Nat) (x y z : List (BitVec 8)) (vs : Value) : sgnV ep x y z vs = rootL ep x y z ++ [vs] := by simp only [sgnV, rootL, List.cons_append, List.append_assoc]
theorem rootL_len {ep : Nat} {x y z : List (BitVec 8)} (hx : x.length = 32) (hy : y.length = 32) (hz : z.length = 32) : (rootL ep x y z).length = 97 := by simp only [rootL, List.length_cons, List.length_append, cb_len, hx, hy, hz]
theorem sgnV_rroot {ep : Nat} {x y z : List (BitVec 8)} {vs : Value} {w : World} {g : Nat} {t : TypeId} (h : Blk w g (sgnV ep x y z vs) t) : w.rangeAt g 0 (rootL ep x y z) :=
  Blk.rangeMid (A := []) (B := rootL ep x y z) (C := [vs]) (by rw [List.nil_append, ← sgnV_root]; exact h) rfl
theorem wpSeq_loadR {ops : Array Oper} {Q : Exit → Act → World → Prop} {rest : List Oper} {o : Oper} {a : Act} {w : World} (x : Operand) (ho : o.op = .load 40 x) (hw : Region.wanted o (yielded ops a.tmps) = true) (b : Nat) (hx : a.eval x = .pointer (some ⟨b, 0, none⟩)) (cs : List Value) (hc : w.rangeAt b 0 cs) (hi : (Try.prog.info? 40).map (·.size) = some cs.length)
    (h : wpList Try.prog ops Q rest (a.put o.dst (.agg cs.toArray)) w) : wpList Try.prog ops Q (o :: rest) a w :=
  wpSeq_val _ _ hw (load_run 40 x ho b 0 hx cs _ hc Try.underlying40 rfl hi) h
theorem wpSeq_boxAt {ops : Array Oper} {Q : Exit → Act → World → Prop} {rest : List Oper} {o : Oper} {a : Act} {w : World} (ty : TypeId) (x : Operand) (ho : o.op = .box ty x) (cs : List Value) (hx : a.eval x = .agg cs.toArray) (hw : Region.wanted o (yielded ops a.tmps) = true) (w0 : World) (h0 : w0 = w.alloc (.cells cs.toArray ty)) {n : Nat} (hn : w.heap.size = n)
    (h : wpList Try.prog ops Q rest (a.put o.dst (.pointer (some ⟨n, 0, none⟩))) w0) : wpList Try.prog ops Q (o :: rest) a w := by
  subst hn
  exact wpSeq_box ty x ho cs hx hw w0 h0 h
set_option maxRecDepth 100000 in
set_option maxHeartbeats 2000000 in
theorem sameReq_any (ka kb : Int) (ma mb ya yb aa ab : List (BitVec 8)) (va vb : Value) (w : World) (ha : aa.length = 32) (hb : ab.length = 32) (hra : Reads w va ya) (hrb : Reads w vb yb) :
    Calls Try.prog 28 #[.agg (reqV ka ma va aa).toArray, .agg (reqV kb mb vb ab).toArray] w fun e w' => e = .returned (.bool (decide (ka = kb ∧ ma = mb ∧ ya = yb ∧ aa = ab))) ∧ Below w.heap.size w w' := by
  have HAA : Hid (aa.length = 32) := ha
  have HAB : Hid (ab.length = 32) := hb
  have HRA : Hid (Reads w va ya) := hra
  have HRB : Hid (Reads w vb yb) := hrb
  obtain ⟨ada, cpa, hva, q1, q2, q3⟩ := hra
  obtain ⟨adb, cpb, hvb, q4, q5, q6⟩ := hrb
  clear q1 q2 q3 q4 q5 q6 ha hb
  obtain ⟨na, HNA⟩ : ∃ m, Hid (m = ya.length) := ⟨_, rfl⟩
  obtain ⟨nb, HNB⟩ : ∃ m, Hid (m = yb.length) := ⟨_, rfl⟩
  rw [← HNA.out] at hva
  rw [← HNB.out] at hvb
  subst hva hvb
  obtain ⟨o, HO⟩ : ∃ o, Hid (o = decide (ka = kb ∧ ma = mb ∧ ya = yb ∧ aa = ab)) := ⟨_, rfl⟩
  rw [← HO.out]
  obtain ⟨ca, HCA⟩ : ∃ c, Hid (c = reqV ka ma (.slice ada na cpa) aa) := ⟨_, rfl⟩
  obtain ⟨cb2, HCB⟩ : ∃ c, Hid (c = reqV kb mb (.slice adb nb cpb) ab) := ⟨_, rfl⟩
  rw [← HCA.out, ← HCB.out]
  obtain ⟨w0, HW0⟩ : ∃ x, Hid (x = w.alloc (.cells ca.toArray 38)) := ⟨_, rfl⟩
  obtain ⟨w1, HW1⟩ : ∃ x, Hid (x = w0.alloc (.cells cb2.toArray 38)) := ⟨_, rfl⟩
  have HZ0 : Hid (w0.heap.size = w.heap.size + 1) := by show _ = _; rw [HW0.out]; simp
  have hB : Below w.heap.size w w1 := by rw [HW1.out, HW0.out]; exact (below_alloc _ _).trans ((below_alloc _ _).mono (by simp))
  have HB : Hid (Below w.heap.size w w1) := hB
  have hBA : Blk w1 w.heap.size (reqV ka ma (.slice ada na cpa) aa) 38 := by rw [HW1.out, HW0.out, ← HCA.out]; exact (Blk.new _ _ _).alloc _
  have hBB : Blk w1 (w.heap.size + 1) (reqV kb mb (.slice adb nb cpb) ab) 38 := by rw [HW1.out, ← HCB.out]; exact Blk.new_at HZ0.out _ _
  have hca := conv_reads (HRA.out.below HB.out)
  have hcb := conv_reads (HRB.out.below HB.out)
  have hs1 := strB_inj ma mb
  have hs2 := strB_inj ya yb
  have c0 : w1.cell? ⟨w.heap.size, 0, none⟩ = some (.int .i64 ka) := hBA.cell 0
  have c1 : w1.cell? ⟨w.heap.size, 1, none⟩ = some (.string (strB ma)) := hBA.cell 1
  have c2 : w1.cell? ⟨w.heap.size, 2, none⟩ = some (.slice ada na cpa) := hBA.cell 2
  have d0 : w1.cell? ⟨w.heap.size + 1, 0, none⟩ = some (.int .i64 kb) := hBB.cell 0
  have d1 : w1.cell? ⟨w.heap.size + 1, 1, none⟩ = some (.string (strB mb)) := hBB.cell 1
  have d2 : w1.cell? ⟨w.heap.size + 1, 2, none⟩ = some (.slice adb nb cpb) := hBB.cell 2
  obtain ⟨xs, HXS⟩ : ∃ c, Hid (c = cb aa) := ⟨_, rfl⟩
  obtain ⟨ys, HYS⟩ : ∃ c, Hid (c = cb ab) := ⟨_, rfl⟩
  have HRX : Hid (w1.rangeAt w.heap.size 3 xs) := by rw [HXS.out]; exact reqV_rau hBA
  have HRY : Hid (w1.rangeAt (w.heap.size + 1) 3 ys) := by rw [HYS.out]; exact reqV_rau hBB
  have HIX : Hid ((Try.prog.info? 28).map (·.size) = some xs.length) := by show _ = _; rw [HXS.out]; exact infoD aa HAA.out
  have HIY : Hid ((Try.prog.info? 28).map (·.size) = some ys.length) := by show _ = _; rw [HYS.out]; exact infoD ab HAB.out
  have hx : ∀ wx : World, (Op.equalIn 10000 28 (.agg xs.toArray) (.agg ys.toArray)).run Try.prog wx = .ok (decide (aa = ab)) wx := fun wx => by rw [HXS.out, HYS.out]; exact eq_dig aa ab HAA.out HAB.out wx
  clear hB hBA hBB
  by_cases h1 : ka = kb
  · have e1 : (ka == kb) = true := by simp [h1]
    by_cases h2 : ma = mb
    · rw [decide_eq_true h2] at hs1
      by_cases h3 : ya = yb
      · rw [decide_eq_true h3] at hs2
        by_cases h4 : aa = ab
        · rw [decide_eq_true h4] at hx
          have ho : o = true := by rw [HO.out]; first | exact decide_eq_true ⟨by assumption, by assumption, by assumption, by assumption⟩ | exact decide_eq_true ⟨by assumption, by assumption⟩ | exact decide_eq_false (fun hh => by simp_all)
          subst ho
          clear HO
          go_enter Try.func28, Try.ntmps28
          go_wp2_with (first
            | (with_reducible refine wpSeq_box 38 (.tmp 0) ?_ ca ?_ ?_ w0 ?_ ?_
               · rfl
               · rfl
               · rfl
               · exact HW0.out
               clear HW0)
            | (with_reducible refine wpSeq_boxAt 38 (.tmp 1) ?_ cb2 ?_ ?_ w1 ?_ HZ0.out ?_
               · rfl
               · rfl
               · rfl
               · exact HW1.out
               clear HW1)
            | (with_reducible refine wpSeq_loadD (.tmp 27) ?_ ?_ w.heap.size 3 ?_ xs HRX.out HIX.out ?_
               · rfl
               · rfl
               · rfl)
            | (with_reducible refine wpSeq_loadD (.tmp 29) ?_ ?_ (w.heap.size + 1) 3 ?_ ys HRY.out HIY.out ?_
               · rfl
               · rfl
               · rfl))
          go_ret
          exact ⟨by first | rfl | simp, HB.out⟩
        · rw [decide_eq_false h4] at hx
          have ho : o = false := by rw [HO.out]; first | exact decide_eq_true ⟨by assumption, by assumption, by assumption, by assumption⟩ | exact decide_eq_true ⟨by assumption, by assumption⟩ | exact decide_eq_false (fun hh => by simp_all)
          subst ho
          clear HO
          go_enter Try.func28, Try.ntmps28
          go_wp2_with (first
            | (with_reducible refine wpSeq_box 38 (.tmp 0) ?_ ca ?_ ?_ w0 ?_ ?_
               · rfl
               · rfl
               · rfl
               · exact HW0.out
               clear HW0)
            | (with_reducible refine wpSeq_boxAt 38 (.tmp 1) ?_ cb2 ?_ ?_ w1 ?_ HZ0.out ?_
               · rfl
               · rfl
               · rfl
               · exact HW1.out
               clear HW1)
            | (with_reducible refine wpSeq_loadD (.tmp 27) ?_ ?_ w.heap.size 3 ?_ xs HRX.out HIX.out ?_
               · rfl
               · rfl
               · rfl)
            | (with_reducible refine wpSeq_loadD (.tmp 29) ?_ ?_ (w.heap.size + 1) 3 ?_ ys HRY.out HIY.out ?_
               · rfl
               · rfl
               · rfl))
          go_ret
          exact ⟨by first | rfl | simp, HB.out⟩
      · rw [decide_eq_false h3] at hs2
        have ho : o = false := by rw [HO.out]; first | exact decide_eq_true ⟨by assumption, by assumption, by assumption, by assumption⟩ | exact decide_eq_true ⟨by assumption, by assumption⟩ | exact decide_eq_false (fun hh => by simp_all)
        subst ho
        clear HO
        go_enter Try.func28, Try.ntmps28
        go_wp2_with (first
          | (with_reducible refine wpSeq_box 38 (.tmp 0) ?_ ca ?_ ?_ w0 ?_ ?_
             · rfl
             · rfl
             · rfl
             · exact HW0.out
             clear HW0)
          | (with_reducible refine wpSeq_boxAt 38 (.tmp 1) ?_ cb2 ?_ ?_ w1 ?_ HZ0.out ?_
             · rfl
             · rfl
             · rfl
             · exact HW1.out
             clear HW1)
          | (with_reducible refine wpSeq_loadD (.tmp 27) ?_ ?_ w.heap.size 3 ?_ xs HRX.out HIX.out ?_
             · rfl
             · rfl
             · rfl)
          | (with_reducible refine wpSeq_loadD (.tmp 29) ?_ ?_ (w.heap.size + 1) 3 ?_ ys HRY.out HIY.out ?_
             · rfl
             · rfl
             · rfl))
        go_ret
        exact ⟨by first | rfl | simp, HB.out⟩
    · rw [decide_eq_false h2] at hs1
      have ho : o = false := by rw [HO.out]; first | exact decide_eq_true ⟨by assumption, by assumption, by assumption, by assumption⟩ | exact decide_eq_true ⟨by assumption, by assumption⟩ | exact decide_eq_false (fun hh => by simp_all)
      subst ho
      clear HO
      go_enter Try.func28, Try.ntmps28
      go_wp2_with (first
        | (with_reducible refine wpSeq_box 38 (.tmp 0) ?_ ca ?_ ?_ w0 ?_ ?_
           · rfl
           · rfl
           · rfl
           · exact HW0.out
           clear HW0)
        | (with_reducible refine wpSeq_boxAt 38 (.tmp 1) ?_ cb2 ?_ ?_ w1 ?_ HZ0.out ?_
           · rfl
           · rfl
           · rfl
           · exact HW1.out
           clear HW1)
        | (with_reducible refine wpSeq_loadD (.tmp 27) ?_ ?_ w.heap.size 3 ?_ xs HRX.out HIX.out ?_
           · rfl
           · rfl
           · rfl)
        | (with_reducible refine wpSeq_loadD (.tmp 29) ?_ ?_ (w.heap.size + 1) 3 ?_ ys HRY.out HIY.out ?_
           · rfl
           · rfl
           · rfl))
      go_ret
      exact ⟨by first | rfl | simp, HB.out⟩
  · have e1 : (ka == kb) = false := by simp [h1]
    have ho : o = false := by rw [HO.out]; first | exact decide_eq_true ⟨by assumption, by assumption, by assumption, by assumption⟩ | exact decide_eq_true ⟨by assumption, by assumption⟩ | exact decide_eq_false (fun hh => by simp_all)
    subst ho
    clear HO
    go_enter Try.func28, Try.ntmps28
    go_wp2_with (first
      | (with_reducible refine wpSeq_box 38 (.tmp 0) ?_ ca ?_ ?_ w0 ?_ ?_
         · rfl
         · rfl
         · rfl
         · exact HW0.out
         clear HW0)
      | (with_reducible refine wpSeq_boxAt 38 (.tmp 1) ?_ cb2 ?_ ?_ w1 ?_ HZ0.out ?_
         · rfl
         · rfl
         · rfl
         · exact HW1.out
         clear HW1)
      | (with_reducible refine wpSeq_loadD (.tmp 27) ?_ ?_ w.heap.size 3 ?_ xs HRX.out HIX.out ?_
         · rfl
         · rfl
         · rfl)
      | (with_reducible refine wpSeq_loadD (.tmp 29) ?_ ?_ (w.heap.size + 1) 3 ?_ ys HRY.out HIY.out ?_
         · rfl
         · rfl
         · rfl))
    go_ret
    exact ⟨by first | rfl | simp, HB.out⟩

set_option maxRecDepth 100000 in
set_option maxHeartbeats 2000000 in
theorem sameSgn_any (n0 m0 : Nat) (xa ya za xb yb zb sa sb : List (BitVec 8)) (va vb : Value) (w : World) (ha : xa.length = 32 ∧ ya.length = 32 ∧ za.length = 32) (hb : xb.length = 32 ∧ yb.length = 32 ∧ zb.length = 32) (hra : Reads w va sa) (hrb : Reads w vb sb) :
    Calls Try.prog 31 #[.agg (sgnV n0 xa ya za va).toArray, .agg (sgnV m0 xb yb zb vb).toArray] w fun e w' => e = .returned (.bool (decide ((n0 = m0 ∧ xa = xb ∧ ya = yb ∧ za = zb) ∧ sa = sb))) ∧ Below w.heap.size w w' := by
  have HRA : Hid (Reads w va sa) := hra
  have HRB : Hid (Reads w vb sb) := hrb
  have HLA : Hid (xa.length = 32 ∧ ya.length = 32 ∧ za.length = 32) := ha
  have HLB : Hid (xb.length = 32 ∧ yb.length = 32 ∧ zb.length = 32) := hb
  obtain ⟨ada, cpa, hva, q1, q2, q3⟩ := hra
  obtain ⟨adb, cpb, hvb, q4, q5, q6⟩ := hrb
  clear q1 q2 q3 q4 q5 q6 ha hb
  obtain ⟨na, HNA⟩ : ∃ m, Hid (m = sa.length) := ⟨_, rfl⟩
  obtain ⟨nb, HNB⟩ : ∃ m, Hid (m = sb.length) := ⟨_, rfl⟩
  rw [← HNA.out] at hva
  rw [← HNB.out] at hvb
  subst hva hvb
  obtain ⟨o, HO⟩ : ∃ o, Hid (o = decide ((n0 = m0 ∧ xa = xb ∧ ya = yb ∧ za = zb) ∧ sa = sb)) := ⟨_, rfl⟩
  rw [← HO.out]
  obtain ⟨ca, HCA⟩ : ∃ c, Hid (c = sgnV n0 xa ya za (.slice ada na cpa)) := ⟨_, rfl⟩
  obtain ⟨cb2, HCB⟩ : ∃ c, Hid (c = sgnV m0 xb yb zb (.slice adb nb cpb)) := ⟨_, rfl⟩
  rw [← HCA.out, ← HCB.out]
  obtain ⟨w0, HW0⟩ : ∃ x, Hid (x = w.alloc (.cells ca.toArray 42)) := ⟨_, rfl⟩
  obtain ⟨w1, HW1⟩ : ∃ x, Hid (x = w0.alloc (.cells cb2.toArray 42)) := ⟨_, rfl⟩
  have HZ0 : Hid (w0.heap.size = w.heap.size + 1) := by show _ = _; rw [HW0.out]; simp
  have hB : Below w.heap.size w w1 := by rw [HW1.out, HW0.out]; exact (below_alloc _ _).trans ((below_alloc _ _).mono (by simp))
  have HB : Hid (Below w.heap.size w w1) := hB
  have hBA : Blk w1 w.heap.size (sgnV n0 xa ya za (.slice ada na cpa)) 42 := by rw [HW1.out, HW0.out, ← HCA.out]; exact (Blk.new _ _ _).alloc _
  have hBB : Blk w1 (w.heap.size + 1) (sgnV m0 xb yb zb (.slice adb nb cpb)) 42 := by rw [HW1.out, ← HCB.out]; exact Blk.new_at HZ0.out _ _
  have hca := conv_reads (HRA.out.below HB.out)
  have hcb := conv_reads (HRB.out.below HB.out)
  have hs2 := strB_inj sa sb
  have c9 : w1.cell? ⟨w.heap.size, 97, none⟩ = some (.slice ada na cpa) := sgnV_last hBA HLA.out.1 HLA.out.2.1 HLA.out.2.2
  have d9 : w1.cell? ⟨w.heap.size + 1, 97, none⟩ = some (.slice adb nb cpb) := sgnV_last hBB HLB.out.1 HLB.out.2.1 HLB.out.2.2
  obtain ⟨xs, HXS⟩ : ∃ c, Hid (c = rootL n0 xa ya za) := ⟨_, rfl⟩
  obtain ⟨ys, HYS⟩ : ∃ c, Hid (c = rootL m0 xb yb zb) := ⟨_, rfl⟩
  have HRX : Hid (w1.rangeAt w.heap.size 0 xs) := by rw [HXS.out]; exact sgnV_rroot hBA
  have HRY : Hid (w1.rangeAt (w.heap.size + 1) 0 ys) := by rw [HYS.out]; exact sgnV_rroot hBB
  have HIX : Hid ((Try.prog.info? 40).map (·.size) = some xs.length) := by show _ = _; rw [HXS.out, rootL_len HLA.out.1 HLA.out.2.1 HLA.out.2.2]; kernel_rfl
  have HIY : Hid ((Try.prog.info? 40).map (·.size) = some ys.length) := by show _ = _; rw [HYS.out, rootL_len HLB.out.1 HLB.out.2.1 HLB.out.2.2]; kernel_rfl
  have hx : ∀ wx : World, (Op.equalIn 10000 40 (.agg xs.toArray) (.agg ys.toArray)).run Try.prog wx = .ok (decide (n0 = m0 ∧ xa = xb ∧ ya = yb ∧ za = zb)) wx := fun wx => by rw [HXS.out, HYS.out]; exact eq_root n0 m0 xa ya za xb yb zb HLA.out.1 HLA.out.2.1 HLA.out.2.2 HLB.out.1 HLB.out.2.1 HLB.out.2.2 wx
  clear hB hBA hBB
  by_cases h1 : n0 = m0 ∧ xa = xb ∧ ya = yb ∧ za = zb
  · rw [decide_eq_true h1] at hx
    by_cases h2 : sa = sb
    · rw [decide_eq_true h2] at hs2
      have ho : o = true := by rw [HO.out]; first | exact decide_eq_true ⟨by assumption, by assumption, by assumption, by assumption⟩ | exact decide_eq_true ⟨by assumption, by assumption⟩ | exact decide_eq_false (fun hh => by simp_all)
      subst ho
      clear HO
      go_enter Try.func31, Try.ntmps31
      go_wp2_with (first
        | (with_reducible refine wpSeq_box 42 (.tmp 0) ?_ ca ?_ ?_ w0 ?_ ?_
           · rfl
           · rfl
           · rfl
           · exact HW0.out
           clear HW0)
        | (with_reducible refine wpSeq_boxAt 42 (.tmp 1) ?_ cb2 ?_ ?_ w1 ?_ HZ0.out ?_
           · rfl
           · rfl
           · rfl
           · exact HW1.out
           clear HW1)
        | (with_reducible refine wpSeq_loadR (.tmp 5) ?_ ?_ w.heap.size ?_ xs HRX.out HIX.out ?_
           · rfl
           · rfl
           · rfl)
        | (with_reducible refine wpSeq_loadR (.tmp 7) ?_ ?_ (w.heap.size + 1) ?_ ys HRY.out HIY.out ?_
           · rfl
           · rfl
           · rfl))
      go_ret
      exact ⟨by first | rfl | simp, HB.out⟩
    · rw [decide_eq_false h2] at hs2
      have ho : o = false := by rw [HO.out]; first | exact decide_eq_true ⟨by assumption, by assumption, by assumption, by assumption⟩ | exact decide_eq_true ⟨by assumption, by assumption⟩ | exact decide_eq_false (fun hh => by simp_all)
      subst ho
      clear HO
      go_enter Try.func31, Try.ntmps31
      go_wp2_with (first
        | (with_reducible refine wpSeq_box 42 (.tmp 0) ?_ ca ?_ ?_ w0 ?_ ?_
           · rfl
           · rfl
           · rfl
           · exact HW0.out
           clear HW0)
        | (with_reducible refine wpSeq_boxAt 42 (.tmp 1) ?_ cb2 ?_ ?_ w1 ?_ HZ0.out ?_
           · rfl
           · rfl
           · rfl
           · exact HW1.out
           clear HW1)
        | (with_reducible refine wpSeq_loadR (.tmp 5) ?_ ?_ w.heap.size ?_ xs HRX.out HIX.out ?_
           · rfl
           · rfl
           · rfl)
        | (with_reducible refine wpSeq_loadR (.tmp 7) ?_ ?_ (w.heap.size + 1) ?_ ys HRY.out HIY.out ?_
           · rfl
           · rfl
           · rfl))
      go_ret
      exact ⟨by first | rfl | simp, HB.out⟩
  · rw [decide_eq_false h1] at hx
    have ho : o = false := by rw [HO.out]; first | exact decide_eq_true ⟨by assumption, by assumption, by assumption, by assumption⟩ | exact decide_eq_true ⟨by assumption, by assumption⟩ | exact decide_eq_false (fun hh => by simp_all)
    subst ho
    clear HO
    go_enter Try.func31, Try.ntmps31
    go_wp2_with (first
      | (with_reducible refine wpSeq_box 42 (.tmp 0) ?_ ca ?_ ?_ w0 ?_ ?_
         · rfl
         · rfl
         · rfl
         · exact HW0.out
         clear HW0)
      | (with_reducible refine wpSeq_boxAt 42 (.tmp 1) ?_ cb2 ?_ ?_ w1 ?_ HZ0.out ?_
         · rfl
         · rfl
         · rfl
         · exact HW1.out
         clear HW1)
      | (with_reducible refine wpSeq_loadR (.tmp 5) ?_ ?_ w.heap.size ?_ xs HRX.out HIX.out ?_
         · rfl
         · rfl
         · rfl)
      | (with_reducible refine wpSeq_loadR (.tmp 7) ?_ ?_ (w.heap.size + 1) ?_ ys HRY.out HIY.out ?_
         · rfl
         · rfl
         · rfl))
    go_ret
    exact ⟨by first | rfl | simp, HB.out⟩
end Go.Proofs.Ytldbcglakeggaaa

/- The walk of the reference's Put (layer 13). -/
import Derived.Test.YtdllnedmhhajnaaDkRf3
import Derived.Great.BuildSlice
import Derived.Deep.CutRange
namespace Go.Proofs.Ytdllnedmhhajnaa
open Go.RowKit
set_option maxRecDepth 100000
theorem built_rw (i : Int) (ad : Option Addr) (n c : Nat) : Try.prog.built 51 [(0, .int .i64 i), (1, .slice ad n c)] = some [Value.int .i64 i, .slice ad n c].toArray := by kernel_rfl
theorem wpSeq_buildO {ops : Array Oper} {Q : Exit → Act → World → Prop} {rest : List Oper} {o : Oper} {a : Act} {w : World} (t : TypeId) (ps : List (Nat × Operand)) (vs : List (Nat × Value)) (cells : List Value) (ho : o.op = .build t ps.toArray) (hw : Region.wanted o (yielded ops a.tmps) = true) (hv : (ps.map fun p => (p.1, a.eval p.2)) = vs) (h1 : Try.prog.built t vs = some cells.toArray)
    (h : wpList Try.prog ops Q rest (a.put o.dst (.agg cells.toArray)) w) : wpList Try.prog ops Q (o :: rest) a w :=
  wpSeq_build t ps cells (by rw [hv]; exact h1) ho hw h
theorem fill_w1 (x y : Value) (a0 : Array Value) (ha : a0.size = 2) : Instr.fill (fun i => some (i * 2, 2)) a0 [(0, .agg [x, y].toArray)] = some [x, y].toArray := by
  have e : a0 = ([] ++ (a0.toList ++ [])).toArray := by simp
  rw [e, fill_seg (vs := [x, y]) (off := 0) (size := 2) (by simp) rfl (by simpa using ha) rfl rfl, Instr.fill]
  simp
theorem build_w1 (f : Operand → Value) (o : Oper) (x : Operand) (ho : o.op = .buildSlice 25 1 #[(0, x)]) (u v : Value) (hx : f x = .agg [u, v].toArray) (w : World) :
    (execOp f o).run Try.prog w = .ok (.value (.slice (some ⟨w.heap.size, 0, none⟩) 1 1)) (w.alloc (.cells [u, v].toArray 51)) := by
  obtain ⟨i0, hi, hz, hs, _⟩ := info_parts Try.infosW
  have hr := run_buildSlice (P := Try.prog) w 25 51 1 #[(0, .agg [u, v].toArray)] [u, v].toArray i0 _ Try.underlying25 hi hz (by rw [hs]; decide) (by rw [hs]; decide) (by rw [hs]; exact fill_w1 u v _ (by simp))
  unfold execOp
  rw [ho]
  simp only [List.map_toArray, List.map_cons, List.map_nil, hx, Sem.run_bind, hr, Result.andThen_ok, Sem.run_pure]
theorem wpSeq_buildW {ops : Array Oper} {Q : Exit → Act → World → Prop} {rest : List Oper} {o : Oper} {a : Act} {w : World} (x : Operand) (u v : Value) (ho : o.op = .buildSlice 25 1 #[(0, x)]) (hx : a.eval x = .agg [u, v].toArray) (hw : Region.wanted o (yielded ops a.tmps) = true)
    (h : ∀ g w', NewR [u, v] 51 w g w' → wpList Try.prog ops Q rest (a.put o.dst (.slice (some ⟨g, 0, none⟩) 1 1)) w') : wpList Try.prog ops Q (o :: rest) a w :=
  wpSeq_val _ _ hw (build_w1 _ o x ho u v hx w) (h _ _ (NewR.of _ _ w))
set_option maxRecDepth 100000 in
set_option maxHeartbeats 8000000 in
theorem rdPut_any (P : Nat → Prop) (D : DkT) (vs vw : Value) (i : Int) (v : Value) (b : Bs) (w : World) (hS : RdS P w D vs vw) (ok : okD D) (hw : D.wait.length ≤ 200) (hP : ∀ k, P k → k < w.heap.size) (hb : Reads w v b) (hbl : b.length ≤ 1000) :
    Calls Try.prog 27 #[.agg (rdC D vs vw).toArray, .int .i64 i, v] w fun r w' => ∃ vs' vw', r = .returned (.tuple #[.agg (rdC (putD13 D i b) vs' vw').toArray, .int .i64 (putX13 D i b)]) ∧ RdS P w' (putD13 D i b) vs' vw' ∧ Below w.heap.size w w' := by
  obtain ⟨ad, cs, aw, cw, hvs, hvw⟩ := hS.form
  obtain ⟨ns, HNS⟩ : ∃ n, Hid (n = D.safe.length) := ⟨_, rfl⟩
  obtain ⟨nw, HNW⟩ : ∃ n, Hid (n = D.wait.length) := ⟨_, rfl⟩
  rw [← HNS.out] at hvs
  rw [← HNW.out] at hvw
  subst hvs hvw
  have HS : Hid (RdS P w D (.slice ad ns cs) (.slice aw nw cw)) := hS
  have HOK : Hid (okD D) := ok
  have HW2 : Hid (nw ≤ 200) := by show _ ≤ _; rw [HNW.out]; exact hw
  have HPL : Hid (∀ k, P k → k < w.heap.size) := hP
  obtain ⟨lf, HLF⟩ : ∃ n, Hid (n = D.left) := ⟨_, rfl⟩
  obtain ⟨dn, HDN⟩ : ∃ n, Hid (n = D.down) := ⟨_, rfl⟩
  have HRC : Hid (rdC D (.slice ad ns cs) (.slice aw nw cw) = [.slice ad ns cs, .slice aw nw cw, .int .i64 lf, .bool dn]) := by show _ = _; rw [rdC, HLF.out, HDN.out]
  rw [HRC.out]
  have HBW : Hid (Below w.heap.size w w) := Below.refl _ _
  clear hS ok hw hP
  obtain ⟨ba, bc, hvb, hq0⟩ := id hb
  clear hq0
  obtain ⟨nb, HNB⟩ : ∃ n, Hid (n = b.length) := ⟨_, rfl⟩
  rw [← HNB.out] at hvb
  subst hvb
  have HRB : Hid (Reads w (.slice ba nb bc) b) := hb
  have HBL : Hid (nb ≤ 1000) := by show _ ≤ _; rw [HNB.out]; exact hbl
  obtain ⟨sz, HSZ⟩ : ∃ n, Hid (n = sizeD D) := ⟨_, rfl⟩
  have HN64 : Hid (ns = 64 * sz ∧ 1 ≤ sz ∧ sz ≤ 16384) := by have h := HOK.out.size; rw [HNS.out, HSZ.out]; exact h
  have hq : Int.tdiv (ns : Int) 64 = (sz : Int) := by have h := HN64.out.1; rw [Int.tdiv_eq_ediv_of_nonneg (by omega)]; omega
  have fq : IntKind.i64.wrap (sz : Int) = (sz : Int) := by rw [IntKind.wrap_i64]; have h := HN64.out; omega
  have HLB : Hid (-1 ≤ lf ∧ lf < 9223372036854775808) := by rw [HLF.out]; exact ⟨HOK.out.lo, HOK.out.hi⟩
  have HH : Hid (hasD D i = true ↔ 0 ≤ i ∧ i < (sz : Int)) := by rw [HSZ.out]; exact hasD_iff D i
  clear hb hbl
  cases dn with
  | true =>
    have HD1 : Hid (putD13 D i b = D) := by show _ = _; rw [putD13, ← HDN.out]; rfl
    have HX1 : Hid (putX13 D i b = 14) := by show _ = _; rw [putX13, ← HDN.out]; rfl
    rw [HD1.out, HX1.out]
    go_enter Try.func27, Try.ntmps27
    have tk0 : Hid True := trivial
    have tk1 : Hid True := trivial
    have tk2 : Hid True := trivial
    have tk3 : Hid True := trivial
    go_wp2_with (first
      | (clear tk0; with_reducible refine wpSeq_boxW 27 (.tmp 0) [.slice ad ns cs, .slice aw nw cw, .int .i64 lf, .bool true] ?_ ?_ ?_ ?_
         · rfl
         · rfl
         · rfl
         intro g3 y1 nn
         have GE_g3 : Hid (w.heap.size ≤ g3) := Nat.le_trans HBW.out.size nn.ge
         replace HBW : Hid (Below w.heap.size w y1) := HBW.out.trans (nn.below.mono HBW.out.size)
         have HG3 : Hid (Blk y1 g3 [.slice ad ns cs, .slice aw nw cw, .int .i64 lf, .bool true] 27) := nn.blk
         have c0 : y1.cell? ⟨g3, 0, none⟩ = some (.slice ad ns cs) := HG3.out.cell 0
         have c1 : y1.cell? ⟨g3, 1, none⟩ = some (.slice aw nw cw) := HG3.out.cell 1
         have c2 : y1.cell? ⟨g3, 2, none⟩ = some (.int .i64 lf) := HG3.out.cell 2
         have c3 : y1.cell? ⟨g3, 3, none⟩ = some (.bool true) := HG3.out.cell 3
         clear nn)
      | (clear tk1; with_reducible refine wpSeq_allocRd ?_ ?_ ?_
         · rfl
         · rfl
         intro g6 y2 nn
         have NE_g3_g6 : Hid (g3 ≠ g6) := by have h1 := HG3.out.lt; have h2 := nn.ge; show _ ≠ _; omega
         have GE_g6 : Hid (w.heap.size ≤ g6) := Nat.le_trans HBW.out.size nn.ge
         clear c0
         clear c1
         clear c2
         clear c3
         replace HG3 : Hid (Blk y2 g3 [.slice ad ns cs, .slice aw nw cw, .int .i64 lf, .bool true] 27) := HG3.out.below nn.below HG3.out.lt
         replace HBW : Hid (Below w.heap.size w y2) := HBW.out.trans (nn.below.mono HBW.out.size)
         have c0 : y2.cell? ⟨g3, 0, none⟩ = some (.slice ad ns cs) := HG3.out.cell 0
         have c1 : y2.cell? ⟨g3, 1, none⟩ = some (.slice aw nw cw) := HG3.out.cell 1
         have c2 : y2.cell? ⟨g3, 2, none⟩ = some (.int .i64 lf) := HG3.out.cell 2
         have c3 : y2.cell? ⟨g3, 3, none⟩ = some (.bool true) := HG3.out.cell 3
         have HG6 : Hid (Blk y2 g6 [.slice none 0 0, .slice none 0 0, .int .i64 0, .bool false] 27) := nn.blk
         clear nn)
      | (clear tk2; with_reducible refine wpSeq_loadW 27 (.tmp 3) g3 0 [.slice ad ns cs, .slice aw nw cw, .int .i64 lf, .bool true] _ ?_ Try.underlying27 rfl ?_ ?_ ?_ ?_ ?_
         · exact HG3.out.range
         · exact (info_rd _ _ _ _)
         · rfl
         · rfl
         · rfl)
      | (clear tk3; with_reducible refine wpSeq_storeRow 27 (.tmp 6) (.tmp 12) g6 [.slice none 0 0, .slice none 0 0, .int .i64 0, .bool false] [.slice ad ns cs, .slice aw nw cw, .int .i64 lf, .bool true] HG6.out (by simp) (info_rd _ _ _ _) (one_rd _ _ _ _ _ _ _ _) ?_ ?_ ?_ ?_ ?_
         · rfl
         · rfl
         · rfl
         · rfl
         intro y3 hs
         have hb := hs.blk
         have ho := hs.only
         clear c0
         clear c1
         clear c2
         clear c3
         replace HG3 : Hid (Blk y3 g3 [.slice ad ns cs, .slice aw nw cw, .int .i64 lf, .bool true] 27) := HG3.out.only ho NE_g3_g6.out
         replace HBW : Hid (Below w.heap.size w y3) := HBW.out.trans (ho.below GE_g6.out HBW.out.size)
         replace HG6 : Hid (Blk y3 g6 [.slice ad ns cs, .slice aw nw cw, .int .i64 lf, .bool true] 27) := hb
         have c0 : y3.cell? ⟨g3, 0, none⟩ = some (.slice ad ns cs) := HG3.out.cell 0
         have c1 : y3.cell? ⟨g3, 1, none⟩ = some (.slice aw nw cw) := HG3.out.cell 1
         have c2 : y3.cell? ⟨g3, 2, none⟩ = some (.int .i64 lf) := HG3.out.cell 2
         have c3 : y3.cell? ⟨g3, 3, none⟩ = some (.bool true) := HG3.out.cell 3
         clear hb ho hs))
    exact bodyPost_ret (results_row_tmp (by rfl) _ _ g6 _ rfl (var_rd HG6.out)) rfl ⟨_, _, by rw [HRC.out]; rfl, HS.out.below HBW.out, HBW.out⟩
  | false =>
    by_cases hi0 : i < 0
    · have HN : Hid (hasD D i = false) := by show _ = _; rw [← Bool.not_eq_true, HH.out]; omega
      have HD1 : Hid (putD13 D i b = D) := by show _ = _; rw [putD13, ← HDN.out, if_neg (by decide), if_pos HN.out]
      have HX1 : Hid (putX13 D i b = 2) := by show _ = _; rw [putX13, ← HDN.out, if_neg (by decide), if_pos HN.out]
      rw [HD1.out, HX1.out]
      go_enter Try.func27, Try.ntmps27
      have tk0 : Hid True := trivial
      have tk1 : Hid True := trivial
      have tk2 : Hid True := trivial
      have tk3 : Hid True := trivial
      go_wp2_with (first
        | (clear tk0; with_reducible refine wpSeq_boxW 27 (.tmp 0) [.slice ad ns cs, .slice aw nw cw, .int .i64 lf, .bool false] ?_ ?_ ?_ ?_
           · rfl
           · rfl
           · rfl
           intro g3 y1 nn
           have GE_g3 : Hid (w.heap.size ≤ g3) := Nat.le_trans HBW.out.size nn.ge
           replace HBW : Hid (Below w.heap.size w y1) := HBW.out.trans (nn.below.mono HBW.out.size)
           have HG3 : Hid (Blk y1 g3 [.slice ad ns cs, .slice aw nw cw, .int .i64 lf, .bool false] 27) := nn.blk
           have c0 : y1.cell? ⟨g3, 0, none⟩ = some (.slice ad ns cs) := HG3.out.cell 0
           have c1 : y1.cell? ⟨g3, 1, none⟩ = some (.slice aw nw cw) := HG3.out.cell 1
           have c2 : y1.cell? ⟨g3, 2, none⟩ = some (.int .i64 lf) := HG3.out.cell 2
           have c3 : y1.cell? ⟨g3, 3, none⟩ = some (.bool false) := HG3.out.cell 3
           clear nn)
        | (clear tk1; with_reducible refine wpSeq_allocRd ?_ ?_ ?_
           · rfl
           · rfl
           intro g6 y2 nn
           have NE_g3_g6 : Hid (g3 ≠ g6) := by have h1 := HG3.out.lt; have h2 := nn.ge; show _ ≠ _; omega
           have GE_g6 : Hid (w.heap.size ≤ g6) := Nat.le_trans HBW.out.size nn.ge
           clear c0
           clear c1
           clear c2
           clear c3
           replace HG3 : Hid (Blk y2 g3 [.slice ad ns cs, .slice aw nw cw, .int .i64 lf, .bool false] 27) := HG3.out.below nn.below HG3.out.lt
           replace HBW : Hid (Below w.heap.size w y2) := HBW.out.trans (nn.below.mono HBW.out.size)
           have c0 : y2.cell? ⟨g3, 0, none⟩ = some (.slice ad ns cs) := HG3.out.cell 0
           have c1 : y2.cell? ⟨g3, 1, none⟩ = some (.slice aw nw cw) := HG3.out.cell 1
           have c2 : y2.cell? ⟨g3, 2, none⟩ = some (.int .i64 lf) := HG3.out.cell 2
           have c3 : y2.cell? ⟨g3, 3, none⟩ = some (.bool false) := HG3.out.cell 3
           have HG6 : Hid (Blk y2 g6 [.slice none 0 0, .slice none 0 0, .int .i64 0, .bool false] 27) := nn.blk
           clear nn)
        | (clear tk2; with_reducible refine wpSeq_loadW 27 (.tmp 3) g3 0 [.slice ad ns cs, .slice aw nw cw, .int .i64 lf, .bool false] _ ?_ Try.underlying27 rfl ?_ ?_ ?_ ?_ ?_
           · exact HG3.out.range
           · exact (info_rd _ _ _ _)
           · rfl
           · rfl
           · rfl)
        | (clear tk3; with_reducible refine wpSeq_storeRow 27 (.tmp 6) (.tmp 23) g6 [.slice none 0 0, .slice none 0 0, .int .i64 0, .bool false] [.slice ad ns cs, .slice aw nw cw, .int .i64 lf, .bool false] HG6.out (by simp) (info_rd _ _ _ _) (one_rd _ _ _ _ _ _ _ _) ?_ ?_ ?_ ?_ ?_
           · rfl
           · rfl
           · rfl
           · rfl
           intro y3 hs
           have hb := hs.blk
           have ho := hs.only
           clear c0
           clear c1
           clear c2
           clear c3
           replace HG3 : Hid (Blk y3 g3 [.slice ad ns cs, .slice aw nw cw, .int .i64 lf, .bool false] 27) := HG3.out.only ho NE_g3_g6.out
           replace HBW : Hid (Below w.heap.size w y3) := HBW.out.trans (ho.below GE_g6.out HBW.out.size)
           replace HG6 : Hid (Blk y3 g6 [.slice ad ns cs, .slice aw nw cw, .int .i64 lf, .bool false] 27) := hb
           have c0 : y3.cell? ⟨g3, 0, none⟩ = some (.slice ad ns cs) := HG3.out.cell 0
           have c1 : y3.cell? ⟨g3, 1, none⟩ = some (.slice aw nw cw) := HG3.out.cell 1
           have c2 : y3.cell? ⟨g3, 2, none⟩ = some (.int .i64 lf) := HG3.out.cell 2
           have c3 : y3.cell? ⟨g3, 3, none⟩ = some (.bool false) := HG3.out.cell 3
           clear hb ho hs))
      exact bodyPost_ret (results_row_tmp (by rfl) _ _ g6 _ rfl (var_rd HG6.out)) rfl ⟨_, _, by rw [HRC.out]; rfl, HS.out.below HBW.out, HBW.out⟩
    by_cases hi1 : (sz : Int) ≤ i
    · have HN : Hid (hasD D i = false) := by show _ = _; rw [← Bool.not_eq_true, HH.out]; omega
      have HD1 : Hid (putD13 D i b = D) := by show _ = _; rw [putD13, ← HDN.out, if_neg (by decide), if_pos HN.out]
      have HX1 : Hid (putX13 D i b = 2) := by show _ = _; rw [putX13, ← HDN.out, if_neg (by decide), if_pos HN.out]
      have hi2 : i ≥ (sz : Int) := hi1
      rw [HD1.out, HX1.out]
      go_enter Try.func27, Try.ntmps27
      have tk0 : Hid True := trivial
      have tk1 : Hid True := trivial
      have tk2 : Hid True := trivial
      have tk3 : Hid True := trivial
      go_wp2_with (first
        | (clear tk0; with_reducible refine wpSeq_boxW 27 (.tmp 0) [.slice ad ns cs, .slice aw nw cw, .int .i64 lf, .bool false] ?_ ?_ ?_ ?_
           · rfl
           · rfl
           · rfl
           intro g3 y1 nn
           have GE_g3 : Hid (w.heap.size ≤ g3) := Nat.le_trans HBW.out.size nn.ge
           replace HBW : Hid (Below w.heap.size w y1) := HBW.out.trans (nn.below.mono HBW.out.size)
           have HG3 : Hid (Blk y1 g3 [.slice ad ns cs, .slice aw nw cw, .int .i64 lf, .bool false] 27) := nn.blk
           have c0 : y1.cell? ⟨g3, 0, none⟩ = some (.slice ad ns cs) := HG3.out.cell 0
           have c1 : y1.cell? ⟨g3, 1, none⟩ = some (.slice aw nw cw) := HG3.out.cell 1
           have c2 : y1.cell? ⟨g3, 2, none⟩ = some (.int .i64 lf) := HG3.out.cell 2
           have c3 : y1.cell? ⟨g3, 3, none⟩ = some (.bool false) := HG3.out.cell 3
           clear nn)
        | (clear tk1; with_reducible refine wpSeq_allocRd ?_ ?_ ?_
           · rfl
           · rfl
           intro g6 y2 nn
           have NE_g3_g6 : Hid (g3 ≠ g6) := by have h1 := HG3.out.lt; have h2 := nn.ge; show _ ≠ _; omega
           have GE_g6 : Hid (w.heap.size ≤ g6) := Nat.le_trans HBW.out.size nn.ge
           clear c0
           clear c1
           clear c2
           clear c3
           replace HG3 : Hid (Blk y2 g3 [.slice ad ns cs, .slice aw nw cw, .int .i64 lf, .bool false] 27) := HG3.out.below nn.below HG3.out.lt
           replace HBW : Hid (Below w.heap.size w y2) := HBW.out.trans (nn.below.mono HBW.out.size)
           have c0 : y2.cell? ⟨g3, 0, none⟩ = some (.slice ad ns cs) := HG3.out.cell 0
           have c1 : y2.cell? ⟨g3, 1, none⟩ = some (.slice aw nw cw) := HG3.out.cell 1
           have c2 : y2.cell? ⟨g3, 2, none⟩ = some (.int .i64 lf) := HG3.out.cell 2
           have c3 : y2.cell? ⟨g3, 3, none⟩ = some (.bool false) := HG3.out.cell 3
           have HG6 : Hid (Blk y2 g6 [.slice none 0 0, .slice none 0 0, .int .i64 0, .bool false] 27) := nn.blk
           clear nn)
        | (clear tk2; with_reducible refine wpSeq_loadW 27 (.tmp 3) g3 0 [.slice ad ns cs, .slice aw nw cw, .int .i64 lf, .bool false] _ ?_ Try.underlying27 rfl ?_ ?_ ?_ ?_ ?_
           · exact HG3.out.range
           · exact (info_rd _ _ _ _)
           · rfl
           · rfl
           · rfl)
        | (clear tk3; with_reducible refine wpSeq_storeRow 27 (.tmp 6) (.tmp 23) g6 [.slice none 0 0, .slice none 0 0, .int .i64 0, .bool false] [.slice ad ns cs, .slice aw nw cw, .int .i64 lf, .bool false] HG6.out (by simp) (info_rd _ _ _ _) (one_rd _ _ _ _ _ _ _ _) ?_ ?_ ?_ ?_ ?_
           · rfl
           · rfl
           · rfl
           · rfl
           intro y3 hs
           have hb := hs.blk
           have ho := hs.only
           clear c0
           clear c1
           clear c2
           clear c3
           replace HG3 : Hid (Blk y3 g3 [.slice ad ns cs, .slice aw nw cw, .int .i64 lf, .bool false] 27) := HG3.out.only ho NE_g3_g6.out
           replace HBW : Hid (Below w.heap.size w y3) := HBW.out.trans (ho.below GE_g6.out HBW.out.size)
           replace HG6 : Hid (Blk y3 g6 [.slice ad ns cs, .slice aw nw cw, .int .i64 lf, .bool false] 27) := hb
           have c0 : y3.cell? ⟨g3, 0, none⟩ = some (.slice ad ns cs) := HG3.out.cell 0
           have c1 : y3.cell? ⟨g3, 1, none⟩ = some (.slice aw nw cw) := HG3.out.cell 1
           have c2 : y3.cell? ⟨g3, 2, none⟩ = some (.int .i64 lf) := HG3.out.cell 2
           have c3 : y3.cell? ⟨g3, 3, none⟩ = some (.bool false) := HG3.out.cell 3
           clear hb ho hs))
      exact bodyPost_ret (results_row_tmp (by rfl) _ _ g6 _ rfl (var_rd HG6.out)) rfl ⟨_, _, by rw [HRC.out]; rfl, HS.out.below HBW.out, HBW.out⟩
    obtain ⟨ii, rfl⟩ : ∃ n : Nat, i = (n : Int) := ⟨i.toNat, by omega⟩
    have hi3 : ¬ ((ii : Int) ≥ (sz : Int)) := hi1
    have HHT : Hid (¬ hasD D (ii : Int) = false) := by show ¬ _; rw [HH.out.2 ⟨by omega, by omega⟩]; decide
    by_cases hn64 : nb = 64
    case neg =>
      have HB64 : Hid (b.length ≠ 64) := by show _ ≠ _; rw [← HNB.out]; exact hn64
      have HD1 : Hid (putD13 D (ii : Int) b = D) := by show _ = _; rw [putD13, ← HDN.out, if_neg (by decide), if_neg HHT.out, if_pos HB64.out]
      have HX1 : Hid (putX13 D (ii : Int) b = 1) := by show _ = _; rw [putX13, ← HDN.out, if_neg (by decide), if_neg HHT.out, if_pos HB64.out]
      have q6 : ((nb : Int) == 64) = false := by rw [beq_eq_false_iff_ne]; omega
      have p6 : ((nb : Int) != 64) = true := by rw [bne, q6]; rfl
      rw [HD1.out, HX1.out]
      go_enter Try.func27, Try.ntmps27
      have tk0 : Hid True := trivial
      have tk1 : Hid True := trivial
      have tk2 : Hid True := trivial
      have tk3 : Hid True := trivial
      go_wp2_with (first
        | (clear tk0; with_reducible refine wpSeq_boxW 27 (.tmp 0) [.slice ad ns cs, .slice aw nw cw, .int .i64 lf, .bool false] ?_ ?_ ?_ ?_
           · rfl
           · rfl
           · rfl
           intro g3 y1 nn
           have GE_g3 : Hid (w.heap.size ≤ g3) := Nat.le_trans HBW.out.size nn.ge
           replace HBW : Hid (Below w.heap.size w y1) := HBW.out.trans (nn.below.mono HBW.out.size)
           have HG3 : Hid (Blk y1 g3 [.slice ad ns cs, .slice aw nw cw, .int .i64 lf, .bool false] 27) := nn.blk
           have c0 : y1.cell? ⟨g3, 0, none⟩ = some (.slice ad ns cs) := HG3.out.cell 0
           have c1 : y1.cell? ⟨g3, 1, none⟩ = some (.slice aw nw cw) := HG3.out.cell 1
           have c2 : y1.cell? ⟨g3, 2, none⟩ = some (.int .i64 lf) := HG3.out.cell 2
           have c3 : y1.cell? ⟨g3, 3, none⟩ = some (.bool false) := HG3.out.cell 3
           clear nn)
        | (clear tk1; with_reducible refine wpSeq_allocRd ?_ ?_ ?_
           · rfl
           · rfl
           intro g6 y2 nn
           have NE_g3_g6 : Hid (g3 ≠ g6) := by have h1 := HG3.out.lt; have h2 := nn.ge; show _ ≠ _; omega
           have GE_g6 : Hid (w.heap.size ≤ g6) := Nat.le_trans HBW.out.size nn.ge
           clear c0
           clear c1
           clear c2
           clear c3
           replace HG3 : Hid (Blk y2 g3 [.slice ad ns cs, .slice aw nw cw, .int .i64 lf, .bool false] 27) := HG3.out.below nn.below HG3.out.lt
           replace HBW : Hid (Below w.heap.size w y2) := HBW.out.trans (nn.below.mono HBW.out.size)
           have c0 : y2.cell? ⟨g3, 0, none⟩ = some (.slice ad ns cs) := HG3.out.cell 0
           have c1 : y2.cell? ⟨g3, 1, none⟩ = some (.slice aw nw cw) := HG3.out.cell 1
           have c2 : y2.cell? ⟨g3, 2, none⟩ = some (.int .i64 lf) := HG3.out.cell 2
           have c3 : y2.cell? ⟨g3, 3, none⟩ = some (.bool false) := HG3.out.cell 3
           have HG6 : Hid (Blk y2 g6 [.slice none 0 0, .slice none 0 0, .int .i64 0, .bool false] 27) := nn.blk
           clear nn)
        | (clear tk2; with_reducible refine wpSeq_loadW 27 (.tmp 3) g3 0 [.slice ad ns cs, .slice aw nw cw, .int .i64 lf, .bool false] _ ?_ Try.underlying27 rfl ?_ ?_ ?_ ?_ ?_
           · exact HG3.out.range
           · exact (info_rd _ _ _ _)
           · rfl
           · rfl
           · rfl)
        | (clear tk3; with_reducible refine wpSeq_storeRow 27 (.tmp 6) (.tmp 27) g6 [.slice none 0 0, .slice none 0 0, .int .i64 0, .bool false] [.slice ad ns cs, .slice aw nw cw, .int .i64 lf, .bool false] HG6.out (by simp) (info_rd _ _ _ _) (one_rd _ _ _ _ _ _ _ _) ?_ ?_ ?_ ?_ ?_
           · rfl
           · rfl
           · rfl
           · rfl
           intro y3 hs
           have hb := hs.blk
           have ho := hs.only
           clear c0
           clear c1
           clear c2
           clear c3
           replace HG3 : Hid (Blk y3 g3 [.slice ad ns cs, .slice aw nw cw, .int .i64 lf, .bool false] 27) := HG3.out.only ho NE_g3_g6.out
           replace HBW : Hid (Below w.heap.size w y3) := HBW.out.trans (ho.below GE_g6.out HBW.out.size)
           replace HG6 : Hid (Blk y3 g6 [.slice ad ns cs, .slice aw nw cw, .int .i64 lf, .bool false] 27) := hb
           have c0 : y3.cell? ⟨g3, 0, none⟩ = some (.slice ad ns cs) := HG3.out.cell 0
           have c1 : y3.cell? ⟨g3, 1, none⟩ = some (.slice aw nw cw) := HG3.out.cell 1
           have c2 : y3.cell? ⟨g3, 2, none⟩ = some (.int .i64 lf) := HG3.out.cell 2
           have c3 : y3.cell? ⟨g3, 3, none⟩ = some (.bool false) := HG3.out.cell 3
           clear hb ho hs))
      exact bodyPost_ret (results_row_tmp (by rfl) _ _ g6 _ rfl (var_rd HG6.out)) rfl ⟨_, _, by rw [HRC.out]; rfl, HS.out.below HBW.out, HBW.out⟩
    subst hn64
    have HB64 : Hid (¬ b.length ≠ 64) := by show ¬ _; rw [← HNB.out]; decide
    have HD1 : Hid (putD13 D (ii : Int) b = ⟨D.safe, D.wait ++ [(ii, b)], lessL D.left, decide (D.left = 0)⟩) := by show _ = _; rw [putD13, ← HDN.out, if_neg (by decide), if_neg HHT.out, if_neg HB64.out, Int.toNat_natCast]
    have HX1 : Hid (putX13 D (ii : Int) b = if lf = 0 then 14 else 0) := by show _ = _; rw [putX13, ← HDN.out, if_neg (by decide), if_neg HHT.out, if_neg HB64.out, HLF.out]
    rw [HD1.out]
    by_cases h0 : lf = 0
    · rw [HX1.out, if_pos h0]
      have HR1 : Hid (∀ a n c, rdC ⟨D.safe, D.wait ++ [(ii, b)], lessL D.left, decide (D.left = 0)⟩ (.slice ad ns cs) (.slice a n c) = [.slice ad ns cs, .slice a n c, .int .i64 0, .bool true]) := fun a n c => by rw [rdC, ← HLF.out, h0]; rfl
      subst h0
      go_enter Try.func27, Try.ntmps27
      have tk0 : Hid True := trivial
      have tk1 : Hid True := trivial
      have tk2 : Hid True := trivial
      have tk3 : Hid True := trivial
      have tk4 : Hid True := trivial
      have tk5 : Hid True := trivial
      have tk6 : Hid True := trivial
      have tk7 : Hid True := trivial
      have tk8 : Hid True := trivial
      have tk9 : Hid True := trivial
      have tk10 : Hid True := trivial
      have tk11 : Hid True := trivial
      go_wp2_with (first
        | (clear tk0; with_reducible refine wpSeq_boxW 27 (.tmp 0) [.slice ad ns cs, .slice aw nw cw, .int .i64 0, .bool false] ?_ ?_ ?_ ?_
           · rfl
           · rfl
           · rfl
           intro g3 y1 nn
           have GE_g3 : Hid (w.heap.size ≤ g3) := Nat.le_trans HBW.out.size nn.ge
           replace HBW : Hid (Below w.heap.size w y1) := HBW.out.trans (nn.below.mono HBW.out.size)
           have HG3 : Hid (Blk y1 g3 [.slice ad ns cs, .slice aw nw cw, .int .i64 0, .bool false] 27) := nn.blk
           have c0 : y1.cell? ⟨g3, 0, none⟩ = some (.slice ad ns cs) := HG3.out.cell 0
           have c1 : y1.cell? ⟨g3, 1, none⟩ = some (.slice aw nw cw) := HG3.out.cell 1
           have c2 : y1.cell? ⟨g3, 2, none⟩ = some (.int .i64 0) := HG3.out.cell 2
           have c3 : y1.cell? ⟨g3, 3, none⟩ = some (.bool false) := HG3.out.cell 3
           clear nn)
        | (clear tk1; with_reducible refine wpSeq_allocRd ?_ ?_ ?_
           · rfl
           · rfl
           intro g6 y2 nn
           have NE_g3_g6 : Hid (g3 ≠ g6) := by have h1 := HG3.out.lt; have h2 := nn.ge; show _ ≠ _; omega
           have GE_g6 : Hid (w.heap.size ≤ g6) := Nat.le_trans HBW.out.size nn.ge
           clear c0
           clear c1
           clear c2
           clear c3
           replace HG3 : Hid (Blk y2 g3 [.slice ad ns cs, .slice aw nw cw, .int .i64 0, .bool false] 27) := HG3.out.below nn.below HG3.out.lt
           replace HBW : Hid (Below w.heap.size w y2) := HBW.out.trans (nn.below.mono HBW.out.size)
           have c0 : y2.cell? ⟨g3, 0, none⟩ = some (.slice ad ns cs) := HG3.out.cell 0
           have c1 : y2.cell? ⟨g3, 1, none⟩ = some (.slice aw nw cw) := HG3.out.cell 1
           have c2 : y2.cell? ⟨g3, 2, none⟩ = some (.int .i64 0) := HG3.out.cell 2
           have c3 : y2.cell? ⟨g3, 3, none⟩ = some (.bool false) := HG3.out.cell 3
           have HG6 : Hid (Blk y2 g6 [.slice none 0 0, .slice none 0 0, .int .i64 0, .bool false] 27) := nn.blk
           clear nn)
        | (clear tk2; with_reducible refine wpSeq_make (.const (.int .i64 64)) (.const (.int .i64 64)) 64 64 ?_ ?_ ?_ ?_ ?_ ?_ ?_
           · decide
           · decide
           · rfl
           · rfl
           · rfl
           · rfl
           intro g8 y3 z hz hge hzb hzl
           have H8 : Hid (Blk y3 g8 (cb z) 5) := hzb
           have HZL : Hid (z.length = 64) := by rw [hz]; exact List.length_replicate
           have N38 : Hid (g3 ≠ g8) := by have h := HG3.out.lt; show _ ≠ _; omega
           have N68 : Hid (g6 ≠ g8) := by have h := HG6.out.lt; show _ ≠ _; omega
           have GE_g8 : Hid (w.heap.size ≤ g8) := Nat.le_trans HBW.out.size hge
           clear c0
           clear c1
           clear c2
           clear c3
           replace HG3 : Hid (Blk y3 g3 [.slice ad ns cs, .slice aw nw cw, .int .i64 0, .bool false] 27) := HG3.out.below hzl HG3.out.lt
           replace HG6 : Hid (Blk y3 g6 [.slice none 0 0, .slice none 0 0, .int .i64 0, .bool false] 27) := HG6.out.below hzl HG6.out.lt
           replace HBW : Hid (Below w.heap.size w y3) := HBW.out.trans (hzl.mono HBW.out.size)
           have c0 : y3.cell? ⟨g3, 0, none⟩ = some (.slice ad ns cs) := HG3.out.cell 0
           have c1 : y3.cell? ⟨g3, 1, none⟩ = some (.slice aw nw cw) := HG3.out.cell 1
           have c2 : y3.cell? ⟨g3, 2, none⟩ = some (.int .i64 0) := HG3.out.cell 2
           have c3 : y3.cell? ⟨g3, 3, none⟩ = some (.bool false) := HG3.out.cell 3
           clear hz hge hzb hzl)
        | (clear tk3; with_reducible refine wpSeq_copyB (.tmp 29) (.tmp 30) g8 64 64 z b (.slice ba 64 bc) H8.out (by rw [HZL.out, HNB.out]) HNB.out (HRB.out.below HBW.out) ?_ ?_ ?_ ?_ ?_
           · rfl
           · rfl
           · rfl
           · rfl
           intro y4 hbk hon
           clear c0
           clear c1
           clear c2
           clear c3
           replace HG3 : Hid (Blk y4 g3 [.slice ad ns cs, .slice aw nw cw, .int .i64 0, .bool false] 27) := HG3.out.only hon N38.out
           replace HG6 : Hid (Blk y4 g6 [.slice none 0 0, .slice none 0 0, .int .i64 0, .bool false] 27) := HG6.out.only hon N68.out
           replace HBW : Hid (Below w.heap.size w y4) := HBW.out.trans (hon.below GE_g8.out HBW.out.size)
           have HR3 : Hid (RdS (Two P g3 g6) y4 D (.slice ad ns cs) (.slice aw nw cw)) := HS.out.two HBW.out GE_g3.out GE_g6.out
           have HSB : Hid (Sta (Two P g3 g6) y4 (fun W => Reads W (.slice (some ⟨g8, 0, none⟩) 64 64) b)) := hbk.stB (fun h => by rcases h with h | h | h; have h1 := HPL.out _ h; have h2 := GE_g8.out; omega; exact N38.out h.symm; exact N68.out h.symm) HNB.out (by rw [← HNB.out]; exact Nat.le_refl _)
           have HBY : Hid (w.heap.size ≤ y4.heap.size) := HBW.out.size
           have LT3 : Hid (g3 < y4.heap.size ∧ g6 < y4.heap.size) := ⟨HG3.out.lt, HG6.out.lt⟩
           have c0 : y4.cell? ⟨g3, 0, none⟩ = some (.slice ad ns cs) := HG3.out.cell 0
           have c1 : y4.cell? ⟨g3, 1, none⟩ = some (.slice aw nw cw) := HG3.out.cell 1
           have c2 : y4.cell? ⟨g3, 2, none⟩ = some (.int .i64 0) := HG3.out.cell 2
           have c3 : y4.cell? ⟨g3, 3, none⟩ = some (.bool false) := HG3.out.cell 3
           clear hbk hon H8 HZL)
        | (clear tk4; with_reducible refine wpSeq_appendWs (Two P g3 g6) (.tmp 32) (.tmp 34) y4.heap.size D.wait aw nw cw HR3.out.wt (by rw [← HNW.out]; have h := HW2.out; omega) (Nat.le_refl _) ?_ ?_ ?_ ?_ ?_
           · rfl
           · rfl
           · rfl
           · rfl
           intro v9 y5 T hT hown hbz
           have HTT : Hid (WrL (Two P g3 g6) y4 T D.wait) := hT
           have HOW : Hid (OwnW y5 y4.heap.size v9 T) := hown
           have HM1 : Hid (Below y4.heap.size y4 y5) := hbz
           clear c0
           clear c1
           clear c2
           clear c3
           replace HG3 : Hid (Blk y5 g3 [.slice ad ns cs, .slice aw nw cw, .int .i64 0, .bool false] 27) := HG3.out.below hbz HG3.out.lt
           replace HG6 : Hid (Blk y5 g6 [.slice none 0 0, .slice none 0 0, .int .i64 0, .bool false] 27) := HG6.out.below hbz HG6.out.lt
           replace HBW : Hid (Below w.heap.size w y5) := HBW.out.trans (hbz.mono HBW.out.size)
           have c0 : y5.cell? ⟨g3, 0, none⟩ = some (.slice ad ns cs) := HG3.out.cell 0
           have c1 : y5.cell? ⟨g3, 1, none⟩ = some (.slice aw nw cw) := HG3.out.cell 1
           have c2 : y5.cell? ⟨g3, 2, none⟩ = some (.int .i64 0) := HG3.out.cell 2
           have c3 : y5.cell? ⟨g3, 3, none⟩ = some (.bool false) := HG3.out.cell 3
           clear hT hown hbz)
        | (clear tk5; with_reducible refine wpSeq_buildO 51 [(0, .tmp 37), (1, .tmp 38)] [(0, .int .i64 (ii : Int)), (1, .slice (some ⟨g8, 0, none⟩) 64 64)] [.int .i64 (ii : Int), .slice (some ⟨g8, 0, none⟩) 64 64] ?_ ?_ ?_ ?_ ?_
           · rfl
           · rfl
           · rfl
           · exact built_rw _ _ _ _)
        | (clear tk6; with_reducible refine wpSeq_buildW (.tmp 39) (.int .i64 (ii : Int)) (.slice (some ⟨g8, 0, none⟩) 64 64) ?_ ?_ ?_ ?_
           · rfl
           · rfl
           · rfl
           intro g40 y6 nn
           have H40 : Hid (Blk y6 g40 [.int .i64 (ii : Int), .slice (some ⟨g8, 0, none⟩) 64 64] 51) := nn.blk
           replace HOW : Hid (OwnW y6 y4.heap.size v9 T) := HOW.out.below nn.below
           replace HM1 : Hid (Below y4.heap.size y4 y6) := HM1.out.trans (nn.below.mono HM1.out.size)
           clear c0
           clear c1
           clear c2
           clear c3
           replace HG3 : Hid (Blk y6 g3 [.slice ad ns cs, .slice aw nw cw, .int .i64 0, .bool false] 27) := HG3.out.below nn.below HG3.out.lt
           replace HG6 : Hid (Blk y6 g6 [.slice none 0 0, .slice none 0 0, .int .i64 0, .bool false] 27) := HG6.out.below nn.below HG6.out.lt
           replace HBW : Hid (Below w.heap.size w y6) := HBW.out.trans (nn.below.mono HBW.out.size)
           have c0 : y6.cell? ⟨g3, 0, none⟩ = some (.slice ad ns cs) := HG3.out.cell 0
           have c1 : y6.cell? ⟨g3, 1, none⟩ = some (.slice aw nw cw) := HG3.out.cell 1
           have c2 : y6.cell? ⟨g3, 2, none⟩ = some (.int .i64 0) := HG3.out.cell 2
           have c3 : y6.cell? ⟨g3, 3, none⟩ = some (.bool false) := HG3.out.cell 3
           clear nn)
        | (clear tk7; with_reducible refine wpSeq_appendW1 (.tmp 36) (.tmp 40) y4.heap.size v9 T ii (some ⟨g8, 0, none⟩) 64 64 g40 HOW.out H40.out (by rw [HTT.out.len, ← HNW.out]; have h := HW2.out; omega) HM1.out.size ?_ ?_ ?_ ?_ ?_
           · rfl
           · rfl
           · rfl
           · rfl
           intro v10 y7 hown hgr
           have hbz : Below y4.heap.size y6 y7 := (Below.refl _ _).grown hgr HM1.out.size (fun k hk => (HOW.out.lt k hk).1)
           clear c0
           clear c1
           clear c2
           clear c3
           replace HG3 : Hid (Blk y7 g3 [.slice ad ns cs, .slice aw nw cw, .int .i64 0, .bool false] 27) := HG3.out.below hbz LT3.out.1
           replace HG6 : Hid (Blk y7 g6 [.slice none 0 0, .slice none 0 0, .int .i64 0, .bool false] 27) := HG6.out.below hbz LT3.out.2
           replace HM1 : Hid (Below y4.heap.size y4 y7) := HM1.out.trans hbz
           replace HBW : Hid (Below w.heap.size w y7) := HBW.out.trans (hbz.mono HBY.out)
           have hst : StaW (Two P g3 g6) y7 v10 (D.wait ++ [(ii, b)]) := hown.st (fun k hk => by rcases hk with hk | rfl | rfl; exact Nat.lt_of_lt_of_le (HPL.out k hk) HBY.out; exact LT3.out.1; exact LT3.out.2) ((HTT.out.go (mut_below HM1.out _) (fun _ _ h => h)).snoc (HSB.out.below HM1.out))
           obtain ⟨a10, c10, hv10⟩ := hst.now.form
           subst hv10
           obtain ⟨n10, HN10⟩ : ∃ n, Hid (n = (D.wait ++ [(ii, b)]).length) := ⟨_, rfl⟩
           rw [← HN10.out] at hst ⊢
           have HST : Hid (StaW (Two P g3 g6) y7 (.slice a10 n10 c10) (D.wait ++ [(ii, b)])) := hst
           have HSF : Hid (Sta (Two P g3 g6) y7 (fun W => Reads W (.slice ad ns cs) D.safe)) := (HR3.out.below HM1.out).sf
           have HMT : Hid (Mut (Two P g3 g6) y7 y7) := Mut.refl _ _
           have c0 : y7.cell? ⟨g3, 0, none⟩ = some (.slice ad ns cs) := HG3.out.cell 0
           have c1 : y7.cell? ⟨g3, 1, none⟩ = some (.slice aw nw cw) := HG3.out.cell 1
           have c2 : y7.cell? ⟨g3, 2, none⟩ = some (.int .i64 0) := HG3.out.cell 2
           have c3 : y7.cell? ⟨g3, 3, none⟩ = some (.bool false) := HG3.out.cell 3
           clear hown hgr hbz hst HOW H40 HTT)
        | (clear tk8; with_reducible refine wpSeq_cellW (.tmp 42) (.tmp 41) g3 1 [.slice ad ns cs, .slice aw nw cw, .int .i64 0, .bool false] a10 n10 c10 27 (by simp) HG3.out ?_ ?_ ?_ ?_ ?_
           · rfl
           · rfl
           · rfl
           · rfl
           intro y8 hb ho
           clear c0
           clear c1
           clear c2
           clear c3
           replace HG6 : Hid (Blk y8 g6 [.slice none 0 0, .slice none 0 0, .int .i64 0, .bool false] 27) := HG6.out.only ho (Ne.symm NE_g3_g6.out)
           replace HBW : Hid (Below w.heap.size w y8) := HBW.out.trans (ho.below GE_g3.out HBW.out.size)
           replace HG3 : Hid (Blk y8 g3 [.slice ad ns cs, .slice a10 n10 c10, .int .i64 0, .bool false] 27) := hb
           replace HMT : Hid (Mut (Two P g3 g6) y7 y8) := HMT.out.trans (fun _ _ h => h) (ho.mut (Or.inr (Or.inl rfl)))
           have c2 : y8.cell? ⟨g3, 2, none⟩ = some (.int .i64 0) := HG3.out.cell 2
           clear hb ho)
        | (clear tk9; with_reducible refine wpSeq_cellB (.tmp 46) (.const (.bool true)) g3 3 [.slice ad ns cs, .slice a10 n10 c10, .int .i64 0, .bool false] true 27 (by simp) HG3.out ?_ ?_ ?_ ?_ ?_
           · rfl
           · rfl
           · rfl
           · rfl
           intro y9 hb ho
           clear c2
           replace HG6 : Hid (Blk y9 g6 [.slice none 0 0, .slice none 0 0, .int .i64 0, .bool false] 27) := HG6.out.only ho (Ne.symm NE_g3_g6.out)
           replace HBW : Hid (Below w.heap.size w y9) := HBW.out.trans (ho.below GE_g3.out HBW.out.size)
           replace HG3 : Hid (Blk y9 g3 [.slice ad ns cs, .slice a10 n10 c10, .int .i64 0, .bool true] 27) := hb
           replace HMT : Hid (Mut (Two P g3 g6) y7 y9) := HMT.out.trans (fun _ _ h => h) (ho.mut (Or.inr (Or.inl rfl)))
           clear hb ho)
        | (clear tk10; with_reducible refine wpSeq_loadW 27 (.tmp 3) g3 0 [.slice ad ns cs, .slice a10 n10 c10, .int .i64 0, .bool true] _ ?_ Try.underlying27 rfl ?_ ?_ ?_ ?_ ?_
           · exact HG3.out.range
           · exact (info_rd _ _ _ _)
           · rfl
           · rfl
           · rfl)
        | (clear tk11; with_reducible refine wpSeq_storeRow 27 (.tmp 6) (.tmp 47) g6 [.slice none 0 0, .slice none 0 0, .int .i64 0, .bool false] [.slice ad ns cs, .slice a10 n10 c10, .int .i64 0, .bool true] HG6.out (by simp) (info_rd _ _ _ _) (one_rd _ _ _ _ _ _ _ _) ?_ ?_ ?_ ?_ ?_
           · rfl
           · rfl
           · rfl
           · rfl
           intro y10 hs
           have hb := hs.blk
           have ho := hs.only
           replace HG3 : Hid (Blk y10 g3 [.slice ad ns cs, .slice a10 n10 c10, .int .i64 0, .bool true] 27) := HG3.out.only ho NE_g3_g6.out
           replace HBW : Hid (Below w.heap.size w y10) := HBW.out.trans (ho.below GE_g6.out HBW.out.size)
           replace HG6 : Hid (Blk y10 g6 [.slice ad ns cs, .slice a10 n10 c10, .int .i64 0, .bool true] 27) := hb
           replace HMT : Hid (Mut (Two P g3 g6) y7 y10) := HMT.out.trans (fun _ _ h => h) (ho.mut (Or.inr (Or.inr rfl)))
           clear hb ho hs))
      exact bodyPost_ret (results_row_tmp (by rfl) _ _ g6 _ rfl (var_rd HG6.out)) rfl ⟨.slice ad ns cs, .slice a10 n10 c10, by rw [HR1.out]; rfl, ⟨HSF.out.go HMT.out (fun _ _ h => Or.inl h), HST.out.go HMT.out (fun _ _ h => Or.inl h)⟩, HBW.out⟩
    have q0 : (lf == 0) = false := by rw [beq_eq_false_iff_ne]; exact h0
    rw [HX1.out, if_neg h0]
    by_cases hp : 0 < lf
    · have f1 : IntKind.i64.wrap (lf - 1) = lf - 1 := by rw [IntKind.wrap_i64]; have h := HLB.out; omega
      have HR1 : Hid (∀ a n c, rdC ⟨D.safe, D.wait ++ [(ii, b)], lessL D.left, decide (D.left = 0)⟩ (.slice ad ns cs) (.slice a n c) = [.slice ad ns cs, .slice a n c, .int .i64 (lf - 1), .bool false]) := fun a n c => by rw [rdC, ← HLF.out, lessL, if_pos hp, decide_eq_false h0]
      go_enter Try.func27, Try.ntmps27
      have tk0 : Hid True := trivial
      have tk1 : Hid True := trivial
      have tk2 : Hid True := trivial
      have tk3 : Hid True := trivial
      have tk4 : Hid True := trivial
      have tk5 : Hid True := trivial
      have tk6 : Hid True := trivial
      have tk7 : Hid True := trivial
      have tk8 : Hid True := trivial
      have tk9 : Hid True := trivial
      have tk10 : Hid True := trivial
      have tk11 : Hid True := trivial
      go_wp2_with (first
        | (clear tk0; with_reducible refine wpSeq_boxW 27 (.tmp 0) [.slice ad ns cs, .slice aw nw cw, .int .i64 lf, .bool false] ?_ ?_ ?_ ?_
           · rfl
           · rfl
           · rfl
           intro g3 y1 nn
           have GE_g3 : Hid (w.heap.size ≤ g3) := Nat.le_trans HBW.out.size nn.ge
           replace HBW : Hid (Below w.heap.size w y1) := HBW.out.trans (nn.below.mono HBW.out.size)
           have HG3 : Hid (Blk y1 g3 [.slice ad ns cs, .slice aw nw cw, .int .i64 lf, .bool false] 27) := nn.blk
           have c0 : y1.cell? ⟨g3, 0, none⟩ = some (.slice ad ns cs) := HG3.out.cell 0
           have c1 : y1.cell? ⟨g3, 1, none⟩ = some (.slice aw nw cw) := HG3.out.cell 1
           have c2 : y1.cell? ⟨g3, 2, none⟩ = some (.int .i64 lf) := HG3.out.cell 2
           have c3 : y1.cell? ⟨g3, 3, none⟩ = some (.bool false) := HG3.out.cell 3
           clear nn)
        | (clear tk1; with_reducible refine wpSeq_allocRd ?_ ?_ ?_
           · rfl
           · rfl
           intro g6 y2 nn
           have NE_g3_g6 : Hid (g3 ≠ g6) := by have h1 := HG3.out.lt; have h2 := nn.ge; show _ ≠ _; omega
           have GE_g6 : Hid (w.heap.size ≤ g6) := Nat.le_trans HBW.out.size nn.ge
           clear c0
           clear c1
           clear c2
           clear c3
           replace HG3 : Hid (Blk y2 g3 [.slice ad ns cs, .slice aw nw cw, .int .i64 lf, .bool false] 27) := HG3.out.below nn.below HG3.out.lt
           replace HBW : Hid (Below w.heap.size w y2) := HBW.out.trans (nn.below.mono HBW.out.size)
           have c0 : y2.cell? ⟨g3, 0, none⟩ = some (.slice ad ns cs) := HG3.out.cell 0
           have c1 : y2.cell? ⟨g3, 1, none⟩ = some (.slice aw nw cw) := HG3.out.cell 1
           have c2 : y2.cell? ⟨g3, 2, none⟩ = some (.int .i64 lf) := HG3.out.cell 2
           have c3 : y2.cell? ⟨g3, 3, none⟩ = some (.bool false) := HG3.out.cell 3
           have HG6 : Hid (Blk y2 g6 [.slice none 0 0, .slice none 0 0, .int .i64 0, .bool false] 27) := nn.blk
           clear nn)
        | (clear tk2; with_reducible refine wpSeq_make (.const (.int .i64 64)) (.const (.int .i64 64)) 64 64 ?_ ?_ ?_ ?_ ?_ ?_ ?_
           · decide
           · decide
           · rfl
           · rfl
           · rfl
           · rfl
           intro g8 y3 z hz hge hzb hzl
           have H8 : Hid (Blk y3 g8 (cb z) 5) := hzb
           have HZL : Hid (z.length = 64) := by rw [hz]; exact List.length_replicate
           have N38 : Hid (g3 ≠ g8) := by have h := HG3.out.lt; show _ ≠ _; omega
           have N68 : Hid (g6 ≠ g8) := by have h := HG6.out.lt; show _ ≠ _; omega
           have GE_g8 : Hid (w.heap.size ≤ g8) := Nat.le_trans HBW.out.size hge
           clear c0
           clear c1
           clear c2
           clear c3
           replace HG3 : Hid (Blk y3 g3 [.slice ad ns cs, .slice aw nw cw, .int .i64 lf, .bool false] 27) := HG3.out.below hzl HG3.out.lt
           replace HG6 : Hid (Blk y3 g6 [.slice none 0 0, .slice none 0 0, .int .i64 0, .bool false] 27) := HG6.out.below hzl HG6.out.lt
           replace HBW : Hid (Below w.heap.size w y3) := HBW.out.trans (hzl.mono HBW.out.size)
           have c0 : y3.cell? ⟨g3, 0, none⟩ = some (.slice ad ns cs) := HG3.out.cell 0
           have c1 : y3.cell? ⟨g3, 1, none⟩ = some (.slice aw nw cw) := HG3.out.cell 1
           have c2 : y3.cell? ⟨g3, 2, none⟩ = some (.int .i64 lf) := HG3.out.cell 2
           have c3 : y3.cell? ⟨g3, 3, none⟩ = some (.bool false) := HG3.out.cell 3
           clear hz hge hzb hzl)
        | (clear tk3; with_reducible refine wpSeq_copyB (.tmp 29) (.tmp 30) g8 64 64 z b (.slice ba 64 bc) H8.out (by rw [HZL.out, HNB.out]) HNB.out (HRB.out.below HBW.out) ?_ ?_ ?_ ?_ ?_
           · rfl
           · rfl
           · rfl
           · rfl
           intro y4 hbk hon
           clear c0
           clear c1
           clear c2
           clear c3
           replace HG3 : Hid (Blk y4 g3 [.slice ad ns cs, .slice aw nw cw, .int .i64 lf, .bool false] 27) := HG3.out.only hon N38.out
           replace HG6 : Hid (Blk y4 g6 [.slice none 0 0, .slice none 0 0, .int .i64 0, .bool false] 27) := HG6.out.only hon N68.out
           replace HBW : Hid (Below w.heap.size w y4) := HBW.out.trans (hon.below GE_g8.out HBW.out.size)
           have HR3 : Hid (RdS (Two P g3 g6) y4 D (.slice ad ns cs) (.slice aw nw cw)) := HS.out.two HBW.out GE_g3.out GE_g6.out
           have HSB : Hid (Sta (Two P g3 g6) y4 (fun W => Reads W (.slice (some ⟨g8, 0, none⟩) 64 64) b)) := hbk.stB (fun h => by rcases h with h | h | h; have h1 := HPL.out _ h; have h2 := GE_g8.out; omega; exact N38.out h.symm; exact N68.out h.symm) HNB.out (by rw [← HNB.out]; exact Nat.le_refl _)
           have HBY : Hid (w.heap.size ≤ y4.heap.size) := HBW.out.size
           have LT3 : Hid (g3 < y4.heap.size ∧ g6 < y4.heap.size) := ⟨HG3.out.lt, HG6.out.lt⟩
           have c0 : y4.cell? ⟨g3, 0, none⟩ = some (.slice ad ns cs) := HG3.out.cell 0
           have c1 : y4.cell? ⟨g3, 1, none⟩ = some (.slice aw nw cw) := HG3.out.cell 1
           have c2 : y4.cell? ⟨g3, 2, none⟩ = some (.int .i64 lf) := HG3.out.cell 2
           have c3 : y4.cell? ⟨g3, 3, none⟩ = some (.bool false) := HG3.out.cell 3
           clear hbk hon H8 HZL)
        | (clear tk4; with_reducible refine wpSeq_appendWs (Two P g3 g6) (.tmp 32) (.tmp 34) y4.heap.size D.wait aw nw cw HR3.out.wt (by rw [← HNW.out]; have h := HW2.out; omega) (Nat.le_refl _) ?_ ?_ ?_ ?_ ?_
           · rfl
           · rfl
           · rfl
           · rfl
           intro v9 y5 T hT hown hbz
           have HTT : Hid (WrL (Two P g3 g6) y4 T D.wait) := hT
           have HOW : Hid (OwnW y5 y4.heap.size v9 T) := hown
           have HM1 : Hid (Below y4.heap.size y4 y5) := hbz
           clear c0
           clear c1
           clear c2
           clear c3
           replace HG3 : Hid (Blk y5 g3 [.slice ad ns cs, .slice aw nw cw, .int .i64 lf, .bool false] 27) := HG3.out.below hbz HG3.out.lt
           replace HG6 : Hid (Blk y5 g6 [.slice none 0 0, .slice none 0 0, .int .i64 0, .bool false] 27) := HG6.out.below hbz HG6.out.lt
           replace HBW : Hid (Below w.heap.size w y5) := HBW.out.trans (hbz.mono HBW.out.size)
           have c0 : y5.cell? ⟨g3, 0, none⟩ = some (.slice ad ns cs) := HG3.out.cell 0
           have c1 : y5.cell? ⟨g3, 1, none⟩ = some (.slice aw nw cw) := HG3.out.cell 1
           have c2 : y5.cell? ⟨g3, 2, none⟩ = some (.int .i64 lf) := HG3.out.cell 2
           have c3 : y5.cell? ⟨g3, 3, none⟩ = some (.bool false) := HG3.out.cell 3
           clear hT hown hbz)
        | (clear tk5; with_reducible refine wpSeq_buildO 51 [(0, .tmp 37), (1, .tmp 38)] [(0, .int .i64 (ii : Int)), (1, .slice (some ⟨g8, 0, none⟩) 64 64)] [.int .i64 (ii : Int), .slice (some ⟨g8, 0, none⟩) 64 64] ?_ ?_ ?_ ?_ ?_
           · rfl
           · rfl
           · rfl
           · exact built_rw _ _ _ _)
        | (clear tk6; with_reducible refine wpSeq_buildW (.tmp 39) (.int .i64 (ii : Int)) (.slice (some ⟨g8, 0, none⟩) 64 64) ?_ ?_ ?_ ?_
           · rfl
           · rfl
           · rfl
           intro g40 y6 nn
           have H40 : Hid (Blk y6 g40 [.int .i64 (ii : Int), .slice (some ⟨g8, 0, none⟩) 64 64] 51) := nn.blk
           replace HOW : Hid (OwnW y6 y4.heap.size v9 T) := HOW.out.below nn.below
           replace HM1 : Hid (Below y4.heap.size y4 y6) := HM1.out.trans (nn.below.mono HM1.out.size)
           clear c0
           clear c1
           clear c2
           clear c3
           replace HG3 : Hid (Blk y6 g3 [.slice ad ns cs, .slice aw nw cw, .int .i64 lf, .bool false] 27) := HG3.out.below nn.below HG3.out.lt
           replace HG6 : Hid (Blk y6 g6 [.slice none 0 0, .slice none 0 0, .int .i64 0, .bool false] 27) := HG6.out.below nn.below HG6.out.lt
           replace HBW : Hid (Below w.heap.size w y6) := HBW.out.trans (nn.below.mono HBW.out.size)
           have c0 : y6.cell? ⟨g3, 0, none⟩ = some (.slice ad ns cs) := HG3.out.cell 0
           have c1 : y6.cell? ⟨g3, 1, none⟩ = some (.slice aw nw cw) := HG3.out.cell 1
           have c2 : y6.cell? ⟨g3, 2, none⟩ = some (.int .i64 lf) := HG3.out.cell 2
           have c3 : y6.cell? ⟨g3, 3, none⟩ = some (.bool false) := HG3.out.cell 3
           clear nn)
        | (clear tk7; with_reducible refine wpSeq_appendW1 (.tmp 36) (.tmp 40) y4.heap.size v9 T ii (some ⟨g8, 0, none⟩) 64 64 g40 HOW.out H40.out (by rw [HTT.out.len, ← HNW.out]; have h := HW2.out; omega) HM1.out.size ?_ ?_ ?_ ?_ ?_
           · rfl
           · rfl
           · rfl
           · rfl
           intro v10 y7 hown hgr
           have hbz : Below y4.heap.size y6 y7 := (Below.refl _ _).grown hgr HM1.out.size (fun k hk => (HOW.out.lt k hk).1)
           clear c0
           clear c1
           clear c2
           clear c3
           replace HG3 : Hid (Blk y7 g3 [.slice ad ns cs, .slice aw nw cw, .int .i64 lf, .bool false] 27) := HG3.out.below hbz LT3.out.1
           replace HG6 : Hid (Blk y7 g6 [.slice none 0 0, .slice none 0 0, .int .i64 0, .bool false] 27) := HG6.out.below hbz LT3.out.2
           replace HM1 : Hid (Below y4.heap.size y4 y7) := HM1.out.trans hbz
           replace HBW : Hid (Below w.heap.size w y7) := HBW.out.trans (hbz.mono HBY.out)
           have hst : StaW (Two P g3 g6) y7 v10 (D.wait ++ [(ii, b)]) := hown.st (fun k hk => by rcases hk with hk | rfl | rfl; exact Nat.lt_of_lt_of_le (HPL.out k hk) HBY.out; exact LT3.out.1; exact LT3.out.2) ((HTT.out.go (mut_below HM1.out _) (fun _ _ h => h)).snoc (HSB.out.below HM1.out))
           obtain ⟨a10, c10, hv10⟩ := hst.now.form
           subst hv10
           obtain ⟨n10, HN10⟩ : ∃ n, Hid (n = (D.wait ++ [(ii, b)]).length) := ⟨_, rfl⟩
           rw [← HN10.out] at hst ⊢
           have HST : Hid (StaW (Two P g3 g6) y7 (.slice a10 n10 c10) (D.wait ++ [(ii, b)])) := hst
           have HSF : Hid (Sta (Two P g3 g6) y7 (fun W => Reads W (.slice ad ns cs) D.safe)) := (HR3.out.below HM1.out).sf
           have HMT : Hid (Mut (Two P g3 g6) y7 y7) := Mut.refl _ _
           have c0 : y7.cell? ⟨g3, 0, none⟩ = some (.slice ad ns cs) := HG3.out.cell 0
           have c1 : y7.cell? ⟨g3, 1, none⟩ = some (.slice aw nw cw) := HG3.out.cell 1
           have c2 : y7.cell? ⟨g3, 2, none⟩ = some (.int .i64 lf) := HG3.out.cell 2
           have c3 : y7.cell? ⟨g3, 3, none⟩ = some (.bool false) := HG3.out.cell 3
           clear hown hgr hbz hst HOW H40 HTT)
        | (clear tk8; with_reducible refine wpSeq_cellW (.tmp 42) (.tmp 41) g3 1 [.slice ad ns cs, .slice aw nw cw, .int .i64 lf, .bool false] a10 n10 c10 27 (by simp) HG3.out ?_ ?_ ?_ ?_ ?_
           · rfl
           · rfl
           · rfl
           · rfl
           intro y8 hb ho
           clear c0
           clear c1
           clear c2
           clear c3
           replace HG6 : Hid (Blk y8 g6 [.slice none 0 0, .slice none 0 0, .int .i64 0, .bool false] 27) := HG6.out.only ho (Ne.symm NE_g3_g6.out)
           replace HBW : Hid (Below w.heap.size w y8) := HBW.out.trans (ho.below GE_g3.out HBW.out.size)
           replace HG3 : Hid (Blk y8 g3 [.slice ad ns cs, .slice a10 n10 c10, .int .i64 lf, .bool false] 27) := hb
           replace HMT : Hid (Mut (Two P g3 g6) y7 y8) := HMT.out.trans (fun _ _ h => h) (ho.mut (Or.inr (Or.inl rfl)))
           have c2 : y8.cell? ⟨g3, 2, none⟩ = some (.int .i64 lf) := HG3.out.cell 2
           clear hb ho)
        | (clear tk9; with_reducible refine wpSeq_cellI (.tmp 54) (.tmp 53) g3 2 [.slice ad ns cs, .slice a10 n10 c10, .int .i64 lf, .bool false] (lf - 1) 27 (by simp) HG3.out ?_ ?_ ?_ ?_ ?_
           · rfl
           · rfl
           · rfl
           · rfl
           intro y9 hb ho
           clear c2
           replace HG6 : Hid (Blk y9 g6 [.slice none 0 0, .slice none 0 0, .int .i64 0, .bool false] 27) := HG6.out.only ho (Ne.symm NE_g3_g6.out)
           replace HBW : Hid (Below w.heap.size w y9) := HBW.out.trans (ho.below GE_g3.out HBW.out.size)
           replace HG3 : Hid (Blk y9 g3 [.slice ad ns cs, .slice a10 n10 c10, .int .i64 (lf - 1), .bool false] 27) := hb
           replace HMT : Hid (Mut (Two P g3 g6) y7 y9) := HMT.out.trans (fun _ _ h => h) (ho.mut (Or.inr (Or.inl rfl)))
           clear hb ho)
        | (clear tk10; with_reducible refine wpSeq_loadW 27 (.tmp 3) g3 0 [.slice ad ns cs, .slice a10 n10 c10, .int .i64 (lf - 1), .bool false] _ ?_ Try.underlying27 rfl ?_ ?_ ?_ ?_ ?_
           · exact HG3.out.range
           · exact (info_rd _ _ _ _)
           · rfl
           · rfl
           · rfl)
        | (clear tk11; with_reducible refine wpSeq_storeRow 27 (.tmp 6) (.tmp 55) g6 [.slice none 0 0, .slice none 0 0, .int .i64 0, .bool false] [.slice ad ns cs, .slice a10 n10 c10, .int .i64 (lf - 1), .bool false] HG6.out (by simp) (info_rd _ _ _ _) (one_rd _ _ _ _ _ _ _ _) ?_ ?_ ?_ ?_ ?_
           · rfl
           · rfl
           · rfl
           · rfl
           intro y10 hs
           have hb := hs.blk
           have ho := hs.only
           replace HG3 : Hid (Blk y10 g3 [.slice ad ns cs, .slice a10 n10 c10, .int .i64 (lf - 1), .bool false] 27) := HG3.out.only ho NE_g3_g6.out
           replace HBW : Hid (Below w.heap.size w y10) := HBW.out.trans (ho.below GE_g6.out HBW.out.size)
           replace HG6 : Hid (Blk y10 g6 [.slice ad ns cs, .slice a10 n10 c10, .int .i64 (lf - 1), .bool false] 27) := hb
           replace HMT : Hid (Mut (Two P g3 g6) y7 y10) := HMT.out.trans (fun _ _ h => h) (ho.mut (Or.inr (Or.inr rfl)))
           clear hb ho hs))
      exact bodyPost_ret (results_row_tmp (by rfl) _ _ g6 _ rfl (var_rd HG6.out)) rfl ⟨.slice ad ns cs, .slice a10 n10 c10, by rw [HR1.out]; rfl, ⟨HSF.out.go HMT.out (fun _ _ h => Or.inl h), HST.out.go HMT.out (fun _ _ h => Or.inl h)⟩, HBW.out⟩
    · have HR1 : Hid (∀ a n c, rdC ⟨D.safe, D.wait ++ [(ii, b)], lessL D.left, decide (D.left = 0)⟩ (.slice ad ns cs) (.slice a n c) = [.slice ad ns cs, .slice a n c, .int .i64 lf, .bool false]) := fun a n c => by rw [rdC, ← HLF.out, lessL, if_neg hp, decide_eq_false h0]
      go_enter Try.func27, Try.ntmps27
      have tk0 : Hid True := trivial
      have tk1 : Hid True := trivial
      have tk2 : Hid True := trivial
      have tk3 : Hid True := trivial
      have tk4 : Hid True := trivial
      have tk5 : Hid True := trivial
      have tk6 : Hid True := trivial
      have tk7 : Hid True := trivial
      have tk8 : Hid True := trivial
      have tk9 : Hid True := trivial
      have tk10 : Hid True := trivial
      go_wp2_with (first
        | (clear tk0; with_reducible refine wpSeq_boxW 27 (.tmp 0) [.slice ad ns cs, .slice aw nw cw, .int .i64 lf, .bool false] ?_ ?_ ?_ ?_
           · rfl
           · rfl
           · rfl
           intro g3 y1 nn
           have GE_g3 : Hid (w.heap.size ≤ g3) := Nat.le_trans HBW.out.size nn.ge
           replace HBW : Hid (Below w.heap.size w y1) := HBW.out.trans (nn.below.mono HBW.out.size)
           have HG3 : Hid (Blk y1 g3 [.slice ad ns cs, .slice aw nw cw, .int .i64 lf, .bool false] 27) := nn.blk
           have c0 : y1.cell? ⟨g3, 0, none⟩ = some (.slice ad ns cs) := HG3.out.cell 0
           have c1 : y1.cell? ⟨g3, 1, none⟩ = some (.slice aw nw cw) := HG3.out.cell 1
           have c2 : y1.cell? ⟨g3, 2, none⟩ = some (.int .i64 lf) := HG3.out.cell 2
           have c3 : y1.cell? ⟨g3, 3, none⟩ = some (.bool false) := HG3.out.cell 3
           clear nn)
        | (clear tk1; with_reducible refine wpSeq_allocRd ?_ ?_ ?_
           · rfl
           · rfl
           intro g6 y2 nn
           have NE_g3_g6 : Hid (g3 ≠ g6) := by have h1 := HG3.out.lt; have h2 := nn.ge; show _ ≠ _; omega
           have GE_g6 : Hid (w.heap.size ≤ g6) := Nat.le_trans HBW.out.size nn.ge
           clear c0
           clear c1
           clear c2
           clear c3
           replace HG3 : Hid (Blk y2 g3 [.slice ad ns cs, .slice aw nw cw, .int .i64 lf, .bool false] 27) := HG3.out.below nn.below HG3.out.lt
           replace HBW : Hid (Below w.heap.size w y2) := HBW.out.trans (nn.below.mono HBW.out.size)
           have c0 : y2.cell? ⟨g3, 0, none⟩ = some (.slice ad ns cs) := HG3.out.cell 0
           have c1 : y2.cell? ⟨g3, 1, none⟩ = some (.slice aw nw cw) := HG3.out.cell 1
           have c2 : y2.cell? ⟨g3, 2, none⟩ = some (.int .i64 lf) := HG3.out.cell 2
           have c3 : y2.cell? ⟨g3, 3, none⟩ = some (.bool false) := HG3.out.cell 3
           have HG6 : Hid (Blk y2 g6 [.slice none 0 0, .slice none 0 0, .int .i64 0, .bool false] 27) := nn.blk
           clear nn)
        | (clear tk2; with_reducible refine wpSeq_make (.const (.int .i64 64)) (.const (.int .i64 64)) 64 64 ?_ ?_ ?_ ?_ ?_ ?_ ?_
           · decide
           · decide
           · rfl
           · rfl
           · rfl
           · rfl
           intro g8 y3 z hz hge hzb hzl
           have H8 : Hid (Blk y3 g8 (cb z) 5) := hzb
           have HZL : Hid (z.length = 64) := by rw [hz]; exact List.length_replicate
           have N38 : Hid (g3 ≠ g8) := by have h := HG3.out.lt; show _ ≠ _; omega
           have N68 : Hid (g6 ≠ g8) := by have h := HG6.out.lt; show _ ≠ _; omega
           have GE_g8 : Hid (w.heap.size ≤ g8) := Nat.le_trans HBW.out.size hge
           clear c0
           clear c1
           clear c2
           clear c3
           replace HG3 : Hid (Blk y3 g3 [.slice ad ns cs, .slice aw nw cw, .int .i64 lf, .bool false] 27) := HG3.out.below hzl HG3.out.lt
           replace HG6 : Hid (Blk y3 g6 [.slice none 0 0, .slice none 0 0, .int .i64 0, .bool false] 27) := HG6.out.below hzl HG6.out.lt
           replace HBW : Hid (Below w.heap.size w y3) := HBW.out.trans (hzl.mono HBW.out.size)
           have c0 : y3.cell? ⟨g3, 0, none⟩ = some (.slice ad ns cs) := HG3.out.cell 0
           have c1 : y3.cell? ⟨g3, 1, none⟩ = some (.slice aw nw cw) := HG3.out.cell 1
           have c2 : y3.cell? ⟨g3, 2, none⟩ = some (.int .i64 lf) := HG3.out.cell 2
           have c3 : y3.cell? ⟨g3, 3, none⟩ = some (.bool false) := HG3.out.cell 3
           clear hz hge hzb hzl)
        | (clear tk3; with_reducible refine wpSeq_copyB (.tmp 29) (.tmp 30) g8 64 64 z b (.slice ba 64 bc) H8.out (by rw [HZL.out, HNB.out]) HNB.out (HRB.out.below HBW.out) ?_ ?_ ?_ ?_ ?_
           · rfl
           · rfl
           · rfl
           · rfl
           intro y4 hbk hon
           clear c0
           clear c1
           clear c2
           clear c3
           replace HG3 : Hid (Blk y4 g3 [.slice ad ns cs, .slice aw nw cw, .int .i64 lf, .bool false] 27) := HG3.out.only hon N38.out
           replace HG6 : Hid (Blk y4 g6 [.slice none 0 0, .slice none 0 0, .int .i64 0, .bool false] 27) := HG6.out.only hon N68.out
           replace HBW : Hid (Below w.heap.size w y4) := HBW.out.trans (hon.below GE_g8.out HBW.out.size)
           have HR3 : Hid (RdS (Two P g3 g6) y4 D (.slice ad ns cs) (.slice aw nw cw)) := HS.out.two HBW.out GE_g3.out GE_g6.out
           have HSB : Hid (Sta (Two P g3 g6) y4 (fun W => Reads W (.slice (some ⟨g8, 0, none⟩) 64 64) b)) := hbk.stB (fun h => by rcases h with h | h | h; have h1 := HPL.out _ h; have h2 := GE_g8.out; omega; exact N38.out h.symm; exact N68.out h.symm) HNB.out (by rw [← HNB.out]; exact Nat.le_refl _)
           have HBY : Hid (w.heap.size ≤ y4.heap.size) := HBW.out.size
           have LT3 : Hid (g3 < y4.heap.size ∧ g6 < y4.heap.size) := ⟨HG3.out.lt, HG6.out.lt⟩
           have c0 : y4.cell? ⟨g3, 0, none⟩ = some (.slice ad ns cs) := HG3.out.cell 0
           have c1 : y4.cell? ⟨g3, 1, none⟩ = some (.slice aw nw cw) := HG3.out.cell 1
           have c2 : y4.cell? ⟨g3, 2, none⟩ = some (.int .i64 lf) := HG3.out.cell 2
           have c3 : y4.cell? ⟨g3, 3, none⟩ = some (.bool false) := HG3.out.cell 3
           clear hbk hon H8 HZL)
        | (clear tk4; with_reducible refine wpSeq_appendWs (Two P g3 g6) (.tmp 32) (.tmp 34) y4.heap.size D.wait aw nw cw HR3.out.wt (by rw [← HNW.out]; have h := HW2.out; omega) (Nat.le_refl _) ?_ ?_ ?_ ?_ ?_
           · rfl
           · rfl
           · rfl
           · rfl
           intro v9 y5 T hT hown hbz
           have HTT : Hid (WrL (Two P g3 g6) y4 T D.wait) := hT
           have HOW : Hid (OwnW y5 y4.heap.size v9 T) := hown
           have HM1 : Hid (Below y4.heap.size y4 y5) := hbz
           clear c0
           clear c1
           clear c2
           clear c3
           replace HG3 : Hid (Blk y5 g3 [.slice ad ns cs, .slice aw nw cw, .int .i64 lf, .bool false] 27) := HG3.out.below hbz HG3.out.lt
           replace HG6 : Hid (Blk y5 g6 [.slice none 0 0, .slice none 0 0, .int .i64 0, .bool false] 27) := HG6.out.below hbz HG6.out.lt
           replace HBW : Hid (Below w.heap.size w y5) := HBW.out.trans (hbz.mono HBW.out.size)
           have c0 : y5.cell? ⟨g3, 0, none⟩ = some (.slice ad ns cs) := HG3.out.cell 0
           have c1 : y5.cell? ⟨g3, 1, none⟩ = some (.slice aw nw cw) := HG3.out.cell 1
           have c2 : y5.cell? ⟨g3, 2, none⟩ = some (.int .i64 lf) := HG3.out.cell 2
           have c3 : y5.cell? ⟨g3, 3, none⟩ = some (.bool false) := HG3.out.cell 3
           clear hT hown hbz)
        | (clear tk5; with_reducible refine wpSeq_buildO 51 [(0, .tmp 37), (1, .tmp 38)] [(0, .int .i64 (ii : Int)), (1, .slice (some ⟨g8, 0, none⟩) 64 64)] [.int .i64 (ii : Int), .slice (some ⟨g8, 0, none⟩) 64 64] ?_ ?_ ?_ ?_ ?_
           · rfl
           · rfl
           · rfl
           · exact built_rw _ _ _ _)
        | (clear tk6; with_reducible refine wpSeq_buildW (.tmp 39) (.int .i64 (ii : Int)) (.slice (some ⟨g8, 0, none⟩) 64 64) ?_ ?_ ?_ ?_
           · rfl
           · rfl
           · rfl
           intro g40 y6 nn
           have H40 : Hid (Blk y6 g40 [.int .i64 (ii : Int), .slice (some ⟨g8, 0, none⟩) 64 64] 51) := nn.blk
           replace HOW : Hid (OwnW y6 y4.heap.size v9 T) := HOW.out.below nn.below
           replace HM1 : Hid (Below y4.heap.size y4 y6) := HM1.out.trans (nn.below.mono HM1.out.size)
           clear c0
           clear c1
           clear c2
           clear c3
           replace HG3 : Hid (Blk y6 g3 [.slice ad ns cs, .slice aw nw cw, .int .i64 lf, .bool false] 27) := HG3.out.below nn.below HG3.out.lt
           replace HG6 : Hid (Blk y6 g6 [.slice none 0 0, .slice none 0 0, .int .i64 0, .bool false] 27) := HG6.out.below nn.below HG6.out.lt
           replace HBW : Hid (Below w.heap.size w y6) := HBW.out.trans (nn.below.mono HBW.out.size)
           have c0 : y6.cell? ⟨g3, 0, none⟩ = some (.slice ad ns cs) := HG3.out.cell 0
           have c1 : y6.cell? ⟨g3, 1, none⟩ = some (.slice aw nw cw) := HG3.out.cell 1
           have c2 : y6.cell? ⟨g3, 2, none⟩ = some (.int .i64 lf) := HG3.out.cell 2
           have c3 : y6.cell? ⟨g3, 3, none⟩ = some (.bool false) := HG3.out.cell 3
           clear nn)
        | (clear tk7; with_reducible refine wpSeq_appendW1 (.tmp 36) (.tmp 40) y4.heap.size v9 T ii (some ⟨g8, 0, none⟩) 64 64 g40 HOW.out H40.out (by rw [HTT.out.len, ← HNW.out]; have h := HW2.out; omega) HM1.out.size ?_ ?_ ?_ ?_ ?_
           · rfl
           · rfl
           · rfl
           · rfl
           intro v10 y7 hown hgr
           have hbz : Below y4.heap.size y6 y7 := (Below.refl _ _).grown hgr HM1.out.size (fun k hk => (HOW.out.lt k hk).1)
           clear c0
           clear c1
           clear c2
           clear c3
           replace HG3 : Hid (Blk y7 g3 [.slice ad ns cs, .slice aw nw cw, .int .i64 lf, .bool false] 27) := HG3.out.below hbz LT3.out.1
           replace HG6 : Hid (Blk y7 g6 [.slice none 0 0, .slice none 0 0, .int .i64 0, .bool false] 27) := HG6.out.below hbz LT3.out.2
           replace HM1 : Hid (Below y4.heap.size y4 y7) := HM1.out.trans hbz
           replace HBW : Hid (Below w.heap.size w y7) := HBW.out.trans (hbz.mono HBY.out)
           have hst : StaW (Two P g3 g6) y7 v10 (D.wait ++ [(ii, b)]) := hown.st (fun k hk => by rcases hk with hk | rfl | rfl; exact Nat.lt_of_lt_of_le (HPL.out k hk) HBY.out; exact LT3.out.1; exact LT3.out.2) ((HTT.out.go (mut_below HM1.out _) (fun _ _ h => h)).snoc (HSB.out.below HM1.out))
           obtain ⟨a10, c10, hv10⟩ := hst.now.form
           subst hv10
           obtain ⟨n10, HN10⟩ : ∃ n, Hid (n = (D.wait ++ [(ii, b)]).length) := ⟨_, rfl⟩
           rw [← HN10.out] at hst ⊢
           have HST : Hid (StaW (Two P g3 g6) y7 (.slice a10 n10 c10) (D.wait ++ [(ii, b)])) := hst
           have HSF : Hid (Sta (Two P g3 g6) y7 (fun W => Reads W (.slice ad ns cs) D.safe)) := (HR3.out.below HM1.out).sf
           have HMT : Hid (Mut (Two P g3 g6) y7 y7) := Mut.refl _ _
           have c0 : y7.cell? ⟨g3, 0, none⟩ = some (.slice ad ns cs) := HG3.out.cell 0
           have c1 : y7.cell? ⟨g3, 1, none⟩ = some (.slice aw nw cw) := HG3.out.cell 1
           have c2 : y7.cell? ⟨g3, 2, none⟩ = some (.int .i64 lf) := HG3.out.cell 2
           have c3 : y7.cell? ⟨g3, 3, none⟩ = some (.bool false) := HG3.out.cell 3
           clear hown hgr hbz hst HOW H40 HTT)
        | (clear tk8; with_reducible refine wpSeq_cellW (.tmp 42) (.tmp 41) g3 1 [.slice ad ns cs, .slice aw nw cw, .int .i64 lf, .bool false] a10 n10 c10 27 (by simp) HG3.out ?_ ?_ ?_ ?_ ?_
           · rfl
           · rfl
           · rfl
           · rfl
           intro y8 hb ho
           clear c0
           clear c1
           clear c2
           clear c3
           replace HG6 : Hid (Blk y8 g6 [.slice none 0 0, .slice none 0 0, .int .i64 0, .bool false] 27) := HG6.out.only ho (Ne.symm NE_g3_g6.out)
           replace HBW : Hid (Below w.heap.size w y8) := HBW.out.trans (ho.below GE_g3.out HBW.out.size)
           replace HG3 : Hid (Blk y8 g3 [.slice ad ns cs, .slice a10 n10 c10, .int .i64 lf, .bool false] 27) := hb
           replace HMT : Hid (Mut (Two P g3 g6) y7 y8) := HMT.out.trans (fun _ _ h => h) (ho.mut (Or.inr (Or.inl rfl)))
           have c2 : y8.cell? ⟨g3, 2, none⟩ = some (.int .i64 lf) := HG3.out.cell 2
           clear hb ho)
        | (clear tk9; with_reducible refine wpSeq_loadW 27 (.tmp 3) g3 0 [.slice ad ns cs, .slice a10 n10 c10, .int .i64 lf, .bool false] _ ?_ Try.underlying27 rfl ?_ ?_ ?_ ?_ ?_
           · exact HG3.out.range
           · exact (info_rd _ _ _ _)
           · rfl
           · rfl
           · rfl)
        | (clear tk10; with_reducible refine wpSeq_storeRow 27 (.tmp 6) (.tmp 55) g6 [.slice none 0 0, .slice none 0 0, .int .i64 0, .bool false] [.slice ad ns cs, .slice a10 n10 c10, .int .i64 lf, .bool false] HG6.out (by simp) (info_rd _ _ _ _) (one_rd _ _ _ _ _ _ _ _) ?_ ?_ ?_ ?_ ?_
           · rfl
           · rfl
           · rfl
           · rfl
           intro y9 hs
           have hb := hs.blk
           have ho := hs.only
           clear c2
           replace HG3 : Hid (Blk y9 g3 [.slice ad ns cs, .slice a10 n10 c10, .int .i64 lf, .bool false] 27) := HG3.out.only ho NE_g3_g6.out
           replace HBW : Hid (Below w.heap.size w y9) := HBW.out.trans (ho.below GE_g6.out HBW.out.size)
           replace HG6 : Hid (Blk y9 g6 [.slice ad ns cs, .slice a10 n10 c10, .int .i64 lf, .bool false] 27) := hb
           replace HMT : Hid (Mut (Two P g3 g6) y7 y9) := HMT.out.trans (fun _ _ h => h) (ho.mut (Or.inr (Or.inr rfl)))
           have c2 : y9.cell? ⟨g3, 2, none⟩ = some (.int .i64 lf) := HG3.out.cell 2
           clear hb ho hs))
      exact bodyPost_ret (results_row_tmp (by rfl) _ _ g6 _ rfl (var_rd HG6.out)) rfl ⟨.slice ad ns cs, .slice a10 n10 c10, by rw [HR1.out]; rfl, ⟨HSF.out.go HMT.out (fun _ _ h => Or.inl h), HST.out.go HMT.out (fun _ _ h => Or.inl h)⟩, HBW.out⟩
end Go.Proofs.Ytdllnedmhhajnaa

/- The walks of disk's New, Size, Pending, refused, change and Fuse (layer 13). -/
import Derived.Test.YtdllnedmhhajnaaDkVm
namespace Go.Proofs.Ytdllnedmhhajnaa
open Go.RowKit
set_option maxRecDepth 100000
theorem cb_rep (n j : Nat) (h : j < (cb (List.replicate n (0 : BitVec 8))).length) : (cb (List.replicate n (0 : BitVec 8)))[j] = .int .u8 0 := by
  simp only [cb, List.getElem_map, List.getElem_replicate]
  rfl
theorem madeSc (n : Nat) : madeCells (cb zs64).toArray (n * 64) = (cb (List.replicate (64 * n) (0 : BitVec 8))).toArray := by
  apply Array.ext
  · rw [size_madeCells, List.size_toArray, cb_len, List.length_replicate, Nat.mul_comm]
  · intro j h1 h2
    have hm : j % 64 < 64 := Nat.mod_lt _ (by decide)
    have hz : (cb zs64).toArray.size = 64 := by rw [List.size_toArray, cb_len, len_zs64]
    simp only [madeCells, Array.getElem_map, Array.getElem_range, hz]
    rw [getElem!_pos _ _ (by rw [hz]; exact hm), List.getElem_toArray, List.getElem_toArray]
    unfold zs64
    rw [cb_rep, cb_rep]
theorem make_sc (f : Operand → Value) (o : Oper) (x y : Operand) (n : Nat) (hn : n ≤ 1000000) (ho : o.op = .makeSlice 65 x y) (hx : f x = .int .i64 (n : Int)) (hy : f y = .int .i64 (n : Int)) (w : World) :
    (execOp f o).run Try.prog w = .ok (.value (.slice (some ⟨w.heap.size, 0, none⟩) n n)) (w.alloc (.cells (cb (List.replicate (64 * n) (0 : BitVec 8))).toArray 70)) := by
  obtain ⟨i0, hi, hz, hs, hby⟩ := info_parts Try.infoSc
  have hr := run_make (P := Try.prog) w 65 70 i0 _ Try.underlying65 hi hz .i64 .i64 (n : Int) (n : Int) (by omega) (Int.le_refl _) (by rw [hby]; omega) (by omega)
  rw [Int.toNat_natCast, hs] at hr
  rw [show Value.cells (.agg (cb zs64).toArray) = (cb zs64).toArray from rfl, madeSc] at hr
  unfold execOp
  rw [ho]
  simp only [hx, hy, Sem.run_bind, hr, Result.andThen_ok, Sem.run_pure]
theorem wpSeq_makeSc {ops : Array Oper} {Q : Exit → Act → World → Prop} {rest : List Oper} {o : Oper} {a : Act} {w : World} (x y : Operand) (n : Nat) (hn : n ≤ 1000000) (ho : o.op = .makeSlice 65 x y) (hx : a.eval x = .int .i64 (n : Int)) (hy : a.eval y = .int .i64 (n : Int)) (hw : Region.wanted o (yielded ops a.tmps) = true)
    (h : ∀ g w', NewR (cb (List.replicate (64 * n) (0 : BitVec 8))) 70 w g w' → wpList Try.prog ops Q rest (a.put o.dst (.slice (some ⟨g, 0, none⟩) n n)) w') : wpList Try.prog ops Q (o :: rest) a w :=
  wpSeq_val _ _ hw (make_sc _ o x y n hn ho hx hy w) (h _ _ (NewR.of _ _ w))
theorem built_dk (ad : Option Addr) (n c : Nat) : ∀ ps, ps = [(0, Value.slice ad n c)] → Try.prog.built 68 ps = some [Value.slice ad n c, .slice none 0 0, .bool false, .bool false, .int .i64 0].toArray := fun ps h => by subst h; kernel_rfl
theorem size_zero (n : Nat) : sizeD (zeroD n) = n := by show (List.replicate (64 * n) (0 : BitVec 8)).length / 64 = n; rw [List.length_replicate, Nat.mul_div_cancel_left _ (by decide)]
set_option maxRecDepth 100000 in
set_option maxHeartbeats 8000000 in
theorem dkNew_m (w : World) (n : Nat) (h1 : 1 ≤ n) (h2 : n ≤ 16384) : Calls Try.prog 19 #[.int .i64 (n : Int)] w fun r w' => ∃ g gs, r = .returned (.tuple #[.pointer (some ⟨g, 0, none⟩), .int .i64 0]) ∧ DkM w' g gs (.slice none 0 0) false 0 (zeroD n) ∧ Below w.heap.size w w' ∧ w.heap.size ≤ g ∧ w.heap.size ≤ gs := by
  have q1 : ¬ ((n : Int) < 1) := by omega
  have q2 : ¬ ((16384 : Int) < (n : Int)) := by omega
  have HR : Hid (1 ≤ n ∧ n ≤ 16384) := ⟨h1, h2⟩
  have HMX : Hid (n ≤ 1000000) := Nat.le_trans h2 (by decide)
  clear h1 h2
  go_enter Try.func19, Try.ntmps19
  have tk0 : Hid True := trivial
  have tk1 : Hid True := trivial
  have tk2 : Hid True := trivial
  go_wp2_with (first
    | (clear tk0; with_reducible refine wpSeq_makeSc (.tmp 10) (.tmp 10) n HMX.out ?_ ?_ ?_ ?_ ?_
       · rfl
       · rfl
       · rfl
       · rfl
       intro gs y1 nn
       have HS : Hid (Blk y1 gs (cb (List.replicate (64 * n) (0 : BitVec 8))) 70) := nn.blk
       have HB : Hid (Below w.heap.size w y1) := nn.below
       have HG : Hid (w.heap.size ≤ gs) := nn.ge
       clear nn)
    | (clear tk1; with_reducible refine wpSeq_build 68 [(0, .tmp 11)] [.slice (some ⟨gs, 0, none⟩) n n, .slice none 0 0, .bool false, .bool false, .int .i64 0] ?_ ?_ ?_ ?_
       rotate_left
       · rfl
       · rfl
       rotate_left
       · exact built_dk _ _ _ _ rfl)
    | (clear tk2; with_reducible refine wpSeq_boxW 68 (.tmp 12) [.slice (some ⟨gs, 0, none⟩) n n, .slice none 0 0, .bool false, .bool false, .int .i64 0] ?_ ?_ ?_ ?_
       · rfl
       · rfl
       · rfl
       intro g y2 nn
       have HD : Hid (Blk y2 g [.slice (some ⟨gs, 0, none⟩) n n, .slice none 0 0, .bool false, .bool false, .int .i64 0] 68) := nn.blk
       replace HS : Hid (Blk y2 gs (cb (List.replicate (64 * n) (0 : BitVec 8))) 70) := HS.out.below nn.below HS.out.lt
       have HGG : Hid (w.heap.size ≤ g) := Nat.le_trans HB.out.size nn.ge
       replace HB : Hid (Below w.heap.size w y2) := HB.out.trans (nn.below.mono HB.out.size)
       clear nn))
  refine bodyPost_ret (results_tmp2 rfl _ _ _) rfl ?_
  refine ⟨g, rfl, gs, ⟨?_, HS.out, OwnV.nil _, okD_zero HR.out.1 HR.out.2, rfl, fun h => absurd h (by show ¬ (0 : Int) ≤ -1; decide)⟩, HB.out, HGG.out, HG.out⟩
  rw [size_zero]
  exact HD.out
set_option maxRecDepth 100000 in
set_option maxHeartbeats 8000000 in
theorem dkNew_bad (w : World) (n : Int) (hn : n < 1 ∨ 16384 < n) : Calls Try.prog 19 #[.int .i64 n] w fun r w' => r = .returned (.tuple #[.pointer none, .int .i64 2]) ∧ Below w.heap.size w w' := by
  go_enter Try.func19, Try.ntmps19
  by_cases q1 : n < 1
  · clear hn
    go_wp2
    refine bodyPost_ret (results_tmp2 rfl _ _ _) rfl ?_
    exact ⟨rfl, Below.refl _ _⟩
  · have q2 : (16384 : Int) < n := by omega
    clear hn
    go_wp2
    refine bodyPost_ret (results_tmp2 rfl _ _ _) rfl ?_
    exact ⟨rfl, Below.refl _ _⟩
set_option maxRecDepth 100000 in
set_option maxHeartbeats 8000000 in
theorem dkSize_any {w : World} {g : Nat} {P : Nat → Prop} {D : DkT} (h : DkIs w g P D) : Calls Try.prog 16 #[.pointer (some ⟨g, 0, none⟩)] w fun r w' => ∃ P', r = .returned (.int .i64 (sizeD D : Int)) ∧ DkIs w' g P' D ∧ Mut P w w' ∧ Grew w P P' := by
  have HK : Hid (DkIs w g P D) := h
  obtain ⟨gs, vw, fu, lf, hm, hP⟩ := h
  clear hP
  obtain ⟨n, HN⟩ : ∃ n, Hid (n = sizeD D) := ⟨_, rfl⟩
  obtain ⟨aw, cw, hvw⟩ := hm.wt.form
  obtain ⟨nw, HNW⟩ : ∃ n, Hid (n = D.wait.length) := ⟨_, rfl⟩
  rw [← HNW.out] at hvw
  subst hvw
  obtain ⟨dn, HDN⟩ : ∃ b, Hid (b = D.down) := ⟨_, rfl⟩
  have HM : Hid (DkM w g gs (.slice aw nw cw) fu lf D) := hm
  have HME : Hid (Blk w g [.slice (some ⟨gs, 0, none⟩) n n, .slice aw nw cw, .bool dn, .bool fu, .int .i64 lf] 68) := by have h9 := hm.me; rw [dkC, ← HN.out, ← HDN.out] at h9; exact h9
  have c0 : w.cell? ⟨g, 0, none⟩ = some (.slice (some ⟨gs, 0, none⟩) n n) := HME.out.cell 0
  have c1 : w.cell? ⟨g, 1, none⟩ = some (.slice aw nw cw) := HME.out.cell 1
  have c2 : w.cell? ⟨g, 2, none⟩ = some (.bool dn) := HME.out.cell 2
  have c3 : w.cell? ⟨g, 3, none⟩ = some (.bool fu) := HME.out.cell 3
  have c4 : w.cell? ⟨g, 4, none⟩ = some (.int .i64 lf) := HME.out.cell 4
  rw [← HN.out]
  clear hm
  go_enter Try.func16, Try.ntmps16
  go_wp2
  go_ret
  exact ⟨P, rfl, HK.out, Mut.refl _ _, Grew.refl _ _⟩
set_option maxRecDepth 100000 in
set_option maxHeartbeats 8000000 in
theorem dkPending_any {w : World} {g : Nat} {P : Nat → Prop} {D : DkT} (h : DkIs w g P D) : Calls Try.prog 12 #[.pointer (some ⟨g, 0, none⟩)] w fun r w' => ∃ P', r = .returned (.int .i64 (D.wait.length : Int)) ∧ DkIs w' g P' D ∧ Mut P w w' ∧ Grew w P P' := by
  have HK : Hid (DkIs w g P D) := h
  obtain ⟨gs, vw, fu, lf, hm, hP⟩ := h
  clear hP
  obtain ⟨n, HN⟩ : ∃ n, Hid (n = sizeD D) := ⟨_, rfl⟩
  obtain ⟨aw, cw, hvw⟩ := hm.wt.form
  obtain ⟨nw, HNW⟩ : ∃ n, Hid (n = D.wait.length) := ⟨_, rfl⟩
  rw [← HNW.out] at hvw
  subst hvw
  obtain ⟨dn, HDN⟩ : ∃ b, Hid (b = D.down) := ⟨_, rfl⟩
  have HM : Hid (DkM w g gs (.slice aw nw cw) fu lf D) := hm
  have HME : Hid (Blk w g [.slice (some ⟨gs, 0, none⟩) n n, .slice aw nw cw, .bool dn, .bool fu, .int .i64 lf] 68) := by have h9 := hm.me; rw [dkC, ← HN.out, ← HDN.out] at h9; exact h9
  have c0 : w.cell? ⟨g, 0, none⟩ = some (.slice (some ⟨gs, 0, none⟩) n n) := HME.out.cell 0
  have c1 : w.cell? ⟨g, 1, none⟩ = some (.slice aw nw cw) := HME.out.cell 1
  have c2 : w.cell? ⟨g, 2, none⟩ = some (.bool dn) := HME.out.cell 2
  have c3 : w.cell? ⟨g, 3, none⟩ = some (.bool fu) := HME.out.cell 3
  have c4 : w.cell? ⟨g, 4, none⟩ = some (.int .i64 lf) := HME.out.cell 4
  rw [← HNW.out]
  clear hm
  go_enter Try.func12, Try.ntmps12
  go_wp2
  go_ret
  exact ⟨P, rfl, HK.out, Mut.refl _ _, Grew.refl _ _⟩
set_option maxRecDepth 100000 in
set_option maxHeartbeats 8000000 in
theorem dkRefused_any {w : World} {g gs : Nat} {vw : Value} {fu : Bool} {lf : Int} {D : DkT} (i : Int) (hm : DkM w g gs vw fu lf D) : Calls Try.prog 33 #[.pointer (some ⟨g, 0, none⟩), .int .i64 i] w fun r w' => r = .returned (.int .i64 (readX13 D i)) ∧ w' = w := by
  obtain ⟨n, HN⟩ : ∃ n, Hid (n = sizeD D) := ⟨_, rfl⟩
  obtain ⟨aw, cw, hvw⟩ := hm.wt.form
  obtain ⟨nw, HNW⟩ : ∃ n, Hid (n = D.wait.length) := ⟨_, rfl⟩
  rw [← HNW.out] at hvw
  subst hvw
  obtain ⟨dn, HDN⟩ : ∃ b, Hid (b = D.down) := ⟨_, rfl⟩
  have HM : Hid (DkM w g gs (.slice aw nw cw) fu lf D) := hm
  have HME : Hid (Blk w g [.slice (some ⟨gs, 0, none⟩) n n, .slice aw nw cw, .bool dn, .bool fu, .int .i64 lf] 68) := by have h9 := hm.me; rw [dkC, ← HN.out, ← HDN.out] at h9; exact h9
  have c0 : w.cell? ⟨g, 0, none⟩ = some (.slice (some ⟨gs, 0, none⟩) n n) := HME.out.cell 0
  have c1 : w.cell? ⟨g, 1, none⟩ = some (.slice aw nw cw) := HME.out.cell 1
  have c2 : w.cell? ⟨g, 2, none⟩ = some (.bool dn) := HME.out.cell 2
  have c3 : w.cell? ⟨g, 3, none⟩ = some (.bool fu) := HME.out.cell 3
  have c4 : w.cell? ⟨g, 4, none⟩ = some (.int .i64 lf) := HME.out.cell 4
  clear hm
  cases dn with
  | true =>
    have HX : Hid (readX13 D i = 14) := by show _ = _; rw [readX13, ← HDN.out]; rfl
    rw [HX.out]
    go_enter Try.func33, Try.ntmps33
    go_wp2
    go_ret
    exact ⟨rfl, rfl⟩
  | false =>
    by_cases hi : 0 ≤ i ∧ i < (n : Int)
    · have HX : Hid (readX13 D i = 0) := by show _ = _; rw [readX13, ← HDN.out, if_neg (by decide), if_neg (by rw [hasD_not, ← HN.out]; exact fun h => h hi)]
      rw [HX.out]
      have q1 : ¬ (i < 0) := by omega
      have q2 : ¬ ((n : Int) ≤ i) := by omega
      clear hi
      go_enter Try.func33, Try.ntmps33
      go_wp2
      go_ret
      exact ⟨rfl, rfl⟩
    · have HX : Hid (readX13 D i = 2) := by show _ = _; rw [readX13, ← HDN.out, if_neg (by decide), if_pos (by rw [hasD_not, ← HN.out]; exact hi)]
      rw [HX.out]
      by_cases q1 : i < 0
      · clear hi
        go_enter Try.func33, Try.ntmps33
        go_wp2
        go_ret
        exact ⟨rfl, rfl⟩
      · have q2 : (n : Int) ≤ i := by omega
        clear hi
        go_enter Try.func33, Try.ntmps33
        go_wp2
        go_ret
        exact ⟨rfl, rfl⟩
/-- a disk behind a change -/
def chD (D : DkT) : DkT := ⟨D.safe, D.wait, lessL D.left, decide (D.left = 0)⟩
theorem okD.ch {D : DkT} (h : okD D) : okD (chD D) := by
  refine ⟨h.ex, ?_, ?_⟩
  · show -1 ≤ lessL D.left; have := h.lo; unfold lessL; split <;> omega
  · show lessL D.left < _; have := h.hi; unfold lessL; split <;> omega
set_option maxRecDepth 100000 in
set_option maxHeartbeats 8000000 in
theorem dkChange_any {w : World} {g gs : Nat} {vw : Value} {fu : Bool} {lf : Int} {D : DkT} (hd : D.down = false) (hm : DkM w g gs vw fu lf D) : Calls Try.prog 32 #[.pointer (some ⟨g, 0, none⟩)] w fun r w' => ∃ lf', r = .returned (.int .i64 (if D.left = 0 then 14 else 0)) ∧ DkM w' g gs vw fu lf' (chD D) ∧ Only g w w' := by
  obtain ⟨n, HN⟩ : ∃ n, Hid (n = sizeD D) := ⟨_, rfl⟩
  obtain ⟨aw, cw, hvw⟩ := hm.wt.form
  obtain ⟨nw, HNW⟩ : ∃ n, Hid (n = D.wait.length) := ⟨_, rfl⟩
  rw [← HNW.out] at hvw
  subst hvw
  obtain ⟨dn, HDN⟩ : ∃ b, Hid (b = D.down) := ⟨_, rfl⟩
  have HM : Hid (DkM w g gs (.slice aw nw cw) fu lf D) := hm
  have HME : Hid (Blk w g [.slice (some ⟨gs, 0, none⟩) n n, .slice aw nw cw, .bool dn, .bool fu, .int .i64 lf] 68) := by have h9 := hm.me; rw [dkC, ← HN.out, ← HDN.out] at h9; exact h9
  have c0 : w.cell? ⟨g, 0, none⟩ = some (.slice (some ⟨gs, 0, none⟩) n n) := HME.out.cell 0
  have c1 : w.cell? ⟨g, 1, none⟩ = some (.slice aw nw cw) := HME.out.cell 1
  have c2 : w.cell? ⟨g, 2, none⟩ = some (.bool dn) := HME.out.cell 2
  have c3 : w.cell? ⟨g, 3, none⟩ = some (.bool fu) := HME.out.cell 3
  have c4 : w.cell? ⟨g, 4, none⟩ = some (.int .i64 lf) := HME.out.cell 4
  have HL : Hid (-1 ≤ D.left ∧ D.left < 9223372036854775808) := ⟨hm.ok.lo, hm.ok.hi⟩
  have HF : Hid (fu = decide (0 ≤ D.left)) := hm.fs
  have HLF : Hid (0 ≤ D.left → lf = D.left) := hm.ls
  rw [hd] at HDN
  clear hm
  cases fu with
  | false =>
    have HN0 : Hid (¬ 0 ≤ D.left) := by have h9 := HF.out; exact of_decide_eq_false (p := 0 ≤ D.left) h9.symm
    have HX : Hid ((if D.left = 0 then (14 : Int) else 0) = 0) := if_neg (by have := HN0.out; omega)
    have HC : Hid (chD D = D) := by
      show _ = _
      have := HN0.out
      rw [chD, lessL, if_neg (by omega), decide_eq_false (by omega), ← hd]
    rw [HX.out]
    go_enter Try.func32, Try.ntmps32
    go_wp2
    go_ret
    exact ⟨rfl, ⟨lf, by rw [HC.out]; exact HM.out⟩, Only.refl _ _⟩
  | true =>
    have HP0 : Hid (0 ≤ D.left) := by have h9 := HF.out; exact of_decide_eq_true (p := 0 ≤ D.left) h9.symm
    have hlf := HLF.out HP0.out
    by_cases h0 : lf = 0
    · have HX : Hid ((if D.left = 0 then (14 : Int) else 0) = 14) := if_pos (by omega)
      rw [HX.out]
      have HE : Hid (D.left = 0) := by show _ = _; omega
      clear hlf
      subst h0
      go_enter Try.func32, Try.ntmps32
      have tk0 : Hid True := trivial
      go_wp2_with (first
        | (clear tk0; with_reducible refine wpSeq_cellB (.tmp 15) (.const (.bool true)) g 2 [.slice (some ⟨gs, 0, none⟩) n n, .slice aw nw cw, .bool dn, .bool true, .int .i64 0] true 68 (by simp) HME.out ?_ ?_ ?_ ?_ ?_
           · rfl
           · rfl
           · rfl
           · rfl
           intro y1 hb ho
           have HB1 : Hid (Blk y1 g [.slice (some ⟨gs, 0, none⟩) n n, .slice aw nw cw, .bool true, .bool true, .int .i64 0] 68) := hb
           have HO1 : Hid (Only g w y1) := ho
           clear hb ho c0 c1 c2 c3 c4))
      go_ret
      refine ⟨0, rfl, HM.out.mine HO1.out ?_ rfl (HM.out.wtOnly HO1.out) HM.out.ok.ch ?_ ?_, HO1.out⟩
      · show Blk y1 g (dkC gs (sizeD D) _ (decide (D.left = 0)) true 0) _
        rw [← HN.out, decide_eq_true HE.out]
        exact HB1.out
      · show _ = decide (0 ≤ lessL D.left); rw [HE.out]; rfl
      · intro _; show _ = lessL D.left; rw [HE.out]; rfl
    · have HX : Hid ((if D.left = 0 then (14 : Int) else 0) = 0) := if_neg (by omega)
      rw [HX.out]
      have HE : Hid (0 < D.left ∧ lf = D.left) := ⟨by have := HP0.out; omega, hlf⟩
      have f1 : IntKind.i64.wrap (lf - 1) = lf - 1 := by rw [IntKind.wrap_i64]; have h := HL.out; have h2 := HE.out; omega
      have q0 : (lf == 0) = false := by rw [beq_eq_false_iff_ne]; exact h0
      clear hlf
      go_enter Try.func32, Try.ntmps32
      have tk0 : Hid True := trivial
      go_wp2_with (first
        | (clear tk0; with_reducible refine wpSeq_cellI (.tmp 22) (.tmp 20) g 4 [.slice (some ⟨gs, 0, none⟩) n n, .slice aw nw cw, .bool dn, .bool true, .int .i64 lf] (lf - 1) 68 (by simp) HME.out ?_ ?_ ?_ ?_ ?_
           · rfl
           · rfl
           · rfl
           · rfl
           intro y1 hb ho
           have HB1 : Hid (Blk y1 g [.slice (some ⟨gs, 0, none⟩) n n, .slice aw nw cw, .bool dn, .bool true, .int .i64 (lf - 1)] 68) := hb
           have HO1 : Hid (Only g w y1) := ho
           clear hb ho c0 c1 c2 c3 c4))
      go_ret
      have hE := HE.out
      have e1 : lessL D.left = lf - 1 := by rw [lessL, if_pos hE.1, hE.2]
      refine ⟨lf - 1, rfl, HM.out.mine HO1.out ?_ rfl (HM.out.wtOnly HO1.out) HM.out.ok.ch ?_ ?_, HO1.out⟩
      · show Blk y1 g (dkC gs (sizeD D) _ (decide (D.left = 0)) true (lf - 1)) _
        rw [← HN.out, decide_eq_false (by omega), ← HDN.out]
        exact HB1.out
      · show _ = decide (0 ≤ lessL D.left); rw [e1, decide_eq_true (by omega)]
      · intro _; show _ = lessL D.left; rw [e1]
set_option maxRecDepth 100000 in
set_option maxHeartbeats 8000000 in
theorem dkFuse_any {w : World} {g : Nat} {P : Nat → Prop} {D : DkT} (m : Int) (hm9 : m < 9223372036854775808) (h : DkIs w g P D) : Calls Try.prog 21 #[.pointer (some ⟨g, 0, none⟩), .int .i64 m] w fun r w' => ∃ P', r = .returned (.tuple #[]) ∧ DkIs w' g P' (fuseD13 D m) ∧ Mut P w w' ∧ Grew w P P' := by
  obtain ⟨gs, vw, fu, lf, hm, hP⟩ := h
  subst hP
  obtain ⟨n, HN⟩ : ∃ n, Hid (n = sizeD D) := ⟨_, rfl⟩
  obtain ⟨aw, cw, hvw⟩ := hm.wt.form
  obtain ⟨nw, HNW⟩ : ∃ n, Hid (n = D.wait.length) := ⟨_, rfl⟩
  rw [← HNW.out] at hvw
  subst hvw
  obtain ⟨dn, HDN⟩ : ∃ b, Hid (b = D.down) := ⟨_, rfl⟩
  have HM : Hid (DkM w g gs (.slice aw nw cw) fu lf D) := hm
  have HME : Hid (Blk w g [.slice (some ⟨gs, 0, none⟩) n n, .slice aw nw cw, .bool dn, .bool fu, .int .i64 lf] 68) := by have h9 := hm.me; rw [dkC, ← HN.out, ← HDN.out] at h9; exact h9
  clear hm
  have HM9 : Hid (m < 9223372036854775808) := hm9
  clear hm9
  by_cases h0 : 0 ≤ m
  · have HE : Hid (fuseD13 D m = ⟨D.safe, D.wait, m, D.down⟩) := by show _ = _; rw [fuseD13, if_neg (by omega)]
    go_enter Try.func21, Try.ntmps21
    have tk0 : Hid True := trivial
    have tk1 : Hid True := trivial
    go_wp2_with (first
      | (clear tk0; with_reducible refine wpSeq_cellB (.tmp 8) (.tmp 6) g 3 [.slice (some ⟨gs, 0, none⟩) n n, .slice aw nw cw, .bool dn, .bool fu, .int .i64 lf] true 68 (by simp) HME.out ?_ ?_ ?_ ?_ ?_
         · rfl
         · rfl
         · rfl
         · rfl
         intro y1 hb ho
         have HB1 : Hid (Blk y1 g [.slice (some ⟨gs, 0, none⟩) n n, .slice aw nw cw, .bool dn, .bool true, .int .i64 lf] 68) := hb
         have HO1 : Hid (Only g w y1) := ho
         clear hb ho)
      | (clear tk1; with_reducible refine wpSeq_cellI (.tmp 12) (.tmp 10) g 4 [.slice (some ⟨gs, 0, none⟩) n n, .slice aw nw cw, .bool dn, .bool true, .int .i64 lf] m 68 (by simp) HB1.out ?_ ?_ ?_ ?_ ?_
         · rfl
         · rfl
         · rfl
         · rfl
         intro y2 hb ho
         have HB2 : Hid (Blk y2 g [.slice (some ⟨gs, 0, none⟩) n n, .slice aw nw cw, .bool dn, .bool true, .int .i64 m] 68) := hb
         have HO2 : Hid (Only g w y2) := HO1.out.trans ho
         clear hb ho))
    refine bodyPost_end (results_none rfl _ _ _) rfl ?_
    rw [HE.out]
    refine ⟨rfl, _, ⟨gs, .slice aw nw cw, true, m, HM.out.mine HO2.out ?_ rfl (HM.out.wtOnly HO2.out) ⟨HM.out.ok.ex, by show -1 ≤ m; omega, HM9.out⟩ ?_ (fun _ => rfl), rfl⟩, HO2.out.mut (Or.inl rfl), Grew.refl _ _⟩
    · show Blk y2 g (dkC gs (sizeD D) _ D.down true m) _
      rw [← HN.out, ← HDN.out]
      exact HB2.out
    · exact (decide_eq_true h0).symm
  · have HE : Hid (fuseD13 D m = ⟨D.safe, D.wait, -1, D.down⟩) := by show _ = _; rw [fuseD13, if_pos (by omega)]
    go_enter Try.func21, Try.ntmps21
    have tk0 : Hid True := trivial
    have tk1 : Hid True := trivial
    go_wp2_with (first
      | (clear tk0; with_reducible refine wpSeq_cellB (.tmp 8) (.tmp 6) g 3 [.slice (some ⟨gs, 0, none⟩) n n, .slice aw nw cw, .bool dn, .bool fu, .int .i64 lf] false 68 (by simp) HME.out ?_ ?_ ?_ ?_ ?_
         · rfl
         · rfl
         · rfl
         · rfl
         intro y1 hb ho
         have HB1 : Hid (Blk y1 g [.slice (some ⟨gs, 0, none⟩) n n, .slice aw nw cw, .bool dn, .bool false, .int .i64 lf] 68) := hb
         have HO1 : Hid (Only g w y1) := ho
         clear hb ho)
      | (clear tk1; with_reducible refine wpSeq_cellI (.tmp 12) (.tmp 10) g 4 [.slice (some ⟨gs, 0, none⟩) n n, .slice aw nw cw, .bool dn, .bool false, .int .i64 lf] m 68 (by simp) HB1.out ?_ ?_ ?_ ?_ ?_
         · rfl
         · rfl
         · rfl
         · rfl
         intro y2 hb ho
         have HB2 : Hid (Blk y2 g [.slice (some ⟨gs, 0, none⟩) n n, .slice aw nw cw, .bool dn, .bool false, .int .i64 m] 68) := hb
         have HO2 : Hid (Only g w y2) := HO1.out.trans ho
         clear hb ho))
    refine bodyPost_end (results_none rfl _ _ _) rfl ?_
    rw [HE.out]
    refine ⟨rfl, _, ⟨gs, .slice aw nw cw, false, m, HM.out.mine HO2.out ?_ rfl (HM.out.wtOnly HO2.out) ⟨HM.out.ok.ex, by show (-1 : Int) ≤ -1; decide, by show (-1 : Int) < _; decide⟩ rfl (fun h => absurd h (by show ¬ (0 : Int) ≤ -1; decide)), rfl⟩, HO2.out.mut (Or.inl rfl), Grew.refl _ _⟩
    show Blk y2 g (dkC gs (sizeD D) _ D.down false m) _
    rw [← HN.out, ← HDN.out]
    exact HB2.out
end Go.Proofs.Ytdllnedmhhajnaa

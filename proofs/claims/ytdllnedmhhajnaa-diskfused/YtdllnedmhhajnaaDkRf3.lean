/- The walks of the reference's Sync and Put (layer 13). -/
import Derived.Test.YtdllnedmhhajnaaDkRf2
namespace Go.Proofs.Ytdllnedmhhajnaa
open Go.RowKit
set_option maxRecDepth 100000
/-- blocks of P, and two more -/
def Two (P : Nat → Prop) (a b : Nat) : Nat → Prop := fun k => P k ∨ k = a ∨ k = b
theorem RdS.two {P : Nat → Prop} {w w' : World} {D : DkT} {vs vw : Value} (h : RdS P w D vs vw) (hb : Below w.heap.size w w') {a b : Nat} (ha : w.heap.size ≤ a) (hb2 : w.heap.size ≤ b) : RdS (Two P a b) w' D vs vw := h.go (mut_below hb P) (fun k hk h => h.elim id (fun h => by rcases h with rfl | rfl <;> omega))
set_option maxRecDepth 100000 in
set_option maxHeartbeats 8000000 in
theorem rdSync_any (P : Nat → Prop) (D : DkT) (vs vw : Value) (w : World) (hS : RdS P w D vs vw) (ok : okD D) (hw : D.wait.length ≤ 200) (hP : ∀ k, P k → k < w.heap.size) :
    Calls Try.prog 28 #[.agg (rdC D vs vw).toArray] w fun r w' => ∃ vs' vw', r = .returned (.tuple #[.agg (rdC (syncD13 D) vs' vw').toArray, .int .i64 (syncX13 D)]) ∧ RdS P w' (syncD13 D) vs' vw' ∧ Below w.heap.size w w' := by
  obtain ⟨ad, cs, aw, cw, hvs, hvw⟩ := hS.form
  obtain ⟨ns, HNS⟩ : ∃ n, Hid (n = D.safe.length) := ⟨_, rfl⟩
  obtain ⟨nw, HNW⟩ : ∃ n, Hid (n = D.wait.length) := ⟨_, rfl⟩
  rw [← HNS.out] at hvs
  rw [← HNW.out] at hvw
  subst hvs hvw
  have HS : Hid (RdS P w D (.slice ad ns cs) (.slice aw nw cw)) := hS
  have HOK : Hid (okD D) := ok
  have HW2 : Hid (nw ≤ 200) := by show _ ≤ _; rw [HNW.out]; exact hw
  have HPL : Hid (∀ k, P k → k < w.heap.size) := hP
  obtain ⟨lf, HLF⟩ : ∃ n, Hid (n = D.left) := ⟨_, rfl⟩
  obtain ⟨dn, HDN⟩ : ∃ n, Hid (n = D.down) := ⟨_, rfl⟩
  have HRC : Hid (rdC D (.slice ad ns cs) (.slice aw nw cw) = [.slice ad ns cs, .slice aw nw cw, .int .i64 lf, .bool dn]) := by show _ = _; rw [rdC, HLF.out, HDN.out]
  rw [HRC.out]
  have HBW : Hid (Below w.heap.size w w) := Below.refl _ _
  clear hS ok hw hP
  have HLD : Hid ((dumpD D).length = ns) := by show _ = _; rw [len_dumpD HOK.out, HNS.out]
  have HLB : Hid (-1 ≤ lf ∧ lf < 9223372036854775808) := by rw [HLF.out]; exact ⟨HOK.out.lo, HOK.out.hi⟩
  have HCD : Hid (∀ (W : World) (m : Int) (g1 g2 : Nat), -1 ≤ m → m < 9223372036854775808 → Below w.heap.size w W → w.heap.size ≤ g1 → w.heap.size ≤ g2 → g1 < W.heap.size → g2 < W.heap.size → Calls Try.prog 15 #[.agg [.slice ad ns cs, .slice aw nw cw, .int .i64 m, .bool false].toArray] W fun r w' => ∃ v, r = .returned v ∧ Sta (Two P g1 g2) w' (fun X => Reads X v (dumpD D)) ∧ Below W.heap.size W w') := fun W m g1 g2 h1 h2 hh ha hb hla hlb =>
    rdDump_any (Two P g1 g2) ⟨D.safe, D.wait, m, false⟩ (.slice ad ns cs) (.slice aw nw cw) W ((HS.out.two hh ha hb).of rfl rfl) ⟨HOK.out.ex, h1, h2⟩ (by show D.wait.length ≤ _; rw [← HNW.out]; exact HW2.out) (fun k hk => by rcases hk with hk | rfl | rfl; exact Nat.lt_of_lt_of_le (HPL.out k hk) hh.size; exact hla; exact hlb)
  cases dn with
  | true =>
    have HD1 : Hid (syncD13 D = D) := by show _ = _; rw [syncD13, ← HDN.out]; rfl
    have HX1 : Hid (syncX13 D = 14) := by show _ = _; rw [syncX13, ← HDN.out]; rfl
    rw [HD1.out, HX1.out]
    go_enter Try.func28, Try.ntmps28
    have tk0 : Hid True := trivial
    have tk1 : Hid True := trivial
    have tk2 : Hid True := trivial
    have tk3 : Hid True := trivial
    go_wp2_with (first
      | (clear tk0; with_reducible refine wpSeq_boxW 27 (.tmp 0) [.slice ad ns cs, .slice aw nw cw, .int .i64 lf, .bool true] ?_ ?_ ?_ ?_
         · rfl
         · rfl
         · rfl
         intro g1 y1 nn
         have GE_g1 : Hid (w.heap.size ≤ g1) := Nat.le_trans HBW.out.size nn.ge
         replace HBW : Hid (Below w.heap.size w y1) := HBW.out.trans (nn.below.mono HBW.out.size)
         have HG1 : Hid (Blk y1 g1 [.slice ad ns cs, .slice aw nw cw, .int .i64 lf, .bool true] 27) := nn.blk
         have c0 : y1.cell? ⟨g1, 0, none⟩ = some (.slice ad ns cs) := HG1.out.cell 0
         have c1 : y1.cell? ⟨g1, 1, none⟩ = some (.slice aw nw cw) := HG1.out.cell 1
         have c2 : y1.cell? ⟨g1, 2, none⟩ = some (.int .i64 lf) := HG1.out.cell 2
         have c3 : y1.cell? ⟨g1, 3, none⟩ = some (.bool true) := HG1.out.cell 3
         clear nn)
      | (clear tk1; with_reducible refine wpSeq_allocRd ?_ ?_ ?_
         · rfl
         · rfl
         intro g2 y2 nn
         have NE_g1_g2 : Hid (g1 ≠ g2) := by have h1 := HG1.out.lt; have h2 := nn.ge; show _ ≠ _; omega
         have GE_g2 : Hid (w.heap.size ≤ g2) := Nat.le_trans HBW.out.size nn.ge
         clear c0
         clear c1
         clear c2
         clear c3
         replace HG1 : Hid (Blk y2 g1 [.slice ad ns cs, .slice aw nw cw, .int .i64 lf, .bool true] 27) := HG1.out.below nn.below HG1.out.lt
         replace HBW : Hid (Below w.heap.size w y2) := HBW.out.trans (nn.below.mono HBW.out.size)
         have c0 : y2.cell? ⟨g1, 0, none⟩ = some (.slice ad ns cs) := HG1.out.cell 0
         have c1 : y2.cell? ⟨g1, 1, none⟩ = some (.slice aw nw cw) := HG1.out.cell 1
         have c2 : y2.cell? ⟨g1, 2, none⟩ = some (.int .i64 lf) := HG1.out.cell 2
         have c3 : y2.cell? ⟨g1, 3, none⟩ = some (.bool true) := HG1.out.cell 3
         have HG2 : Hid (Blk y2 g2 [.slice none 0 0, .slice none 0 0, .int .i64 0, .bool false] 27) := nn.blk
         clear nn)
      | (clear tk2; with_reducible refine wpSeq_loadW 27 (.tmp 1) g1 0 [.slice ad ns cs, .slice aw nw cw, .int .i64 lf, .bool true] _ ?_ Try.underlying27 rfl ?_ ?_ ?_ ?_ ?_
         · exact HG1.out.range
         · exact (info_rd _ _ _ _)
         · rfl
         · rfl
         · rfl)
      | (clear tk3; with_reducible refine wpSeq_storeRow 27 (.tmp 2) (.tmp 6) g2 [.slice none 0 0, .slice none 0 0, .int .i64 0, .bool false] [.slice ad ns cs, .slice aw nw cw, .int .i64 lf, .bool true] HG2.out (by simp) (info_rd _ _ _ _) (one_rd _ _ _ _ _ _ _ _) ?_ ?_ ?_ ?_ ?_
         · rfl
         · rfl
         · rfl
         · rfl
         intro y3 hs
         have hb := hs.blk
         have ho := hs.only
         clear c0
         clear c1
         clear c2
         clear c3
         replace HG1 : Hid (Blk y3 g1 [.slice ad ns cs, .slice aw nw cw, .int .i64 lf, .bool true] 27) := HG1.out.only ho NE_g1_g2.out
         replace HBW : Hid (Below w.heap.size w y3) := HBW.out.trans (ho.below GE_g2.out HBW.out.size)
         replace HG2 : Hid (Blk y3 g2 [.slice ad ns cs, .slice aw nw cw, .int .i64 lf, .bool true] 27) := hb
         have c0 : y3.cell? ⟨g1, 0, none⟩ = some (.slice ad ns cs) := HG1.out.cell 0
         have c1 : y3.cell? ⟨g1, 1, none⟩ = some (.slice aw nw cw) := HG1.out.cell 1
         have c2 : y3.cell? ⟨g1, 2, none⟩ = some (.int .i64 lf) := HG1.out.cell 2
         have c3 : y3.cell? ⟨g1, 3, none⟩ = some (.bool true) := HG1.out.cell 3
         clear hb ho hs))
    exact bodyPost_ret (results_row_tmp (by rfl) _ _ g2 _ rfl (var_rd HG2.out)) rfl ⟨_, _, by rw [HRC.out]; rfl, HS.out.below HBW.out, HBW.out⟩
  | false =>
    by_cases h0 : lf = 0
    · have HD1 : Hid (syncD13 D = ⟨D.safe, D.wait, D.left, true⟩) := by show _ = _; rw [syncD13, ← HDN.out, if_neg (by decide), if_pos (by rw [← HLF.out]; exact h0)]
      have HX1 : Hid (syncX13 D = 14) := by show _ = _; rw [syncX13, ← HDN.out, if_neg (by decide), if_pos (by rw [← HLF.out]; exact h0)]
      have HR1 : Hid (rdC ⟨D.safe, D.wait, D.left, true⟩ (.slice ad ns cs) (.slice aw nw cw) = [.slice ad ns cs, .slice aw nw cw, .int .i64 0, .bool true]) := by show _ = _; rw [rdC, ← HLF.out, h0]
      rw [HD1.out, HX1.out]
      subst h0
      go_enter Try.func28, Try.ntmps28
      have tk0 : Hid True := trivial
      have tk1 : Hid True := trivial
      have tk2 : Hid True := trivial
      have tk3 : Hid True := trivial
      have tk4 : Hid True := trivial
      go_wp2_with (first
        | (clear tk0; with_reducible refine wpSeq_boxW 27 (.tmp 0) [.slice ad ns cs, .slice aw nw cw, .int .i64 0, .bool false] ?_ ?_ ?_ ?_
           · rfl
           · rfl
           · rfl
           intro g1 y1 nn
           have GE_g1 : Hid (w.heap.size ≤ g1) := Nat.le_trans HBW.out.size nn.ge
           replace HBW : Hid (Below w.heap.size w y1) := HBW.out.trans (nn.below.mono HBW.out.size)
           have HG1 : Hid (Blk y1 g1 [.slice ad ns cs, .slice aw nw cw, .int .i64 0, .bool false] 27) := nn.blk
           have c0 : y1.cell? ⟨g1, 0, none⟩ = some (.slice ad ns cs) := HG1.out.cell 0
           have c1 : y1.cell? ⟨g1, 1, none⟩ = some (.slice aw nw cw) := HG1.out.cell 1
           have c2 : y1.cell? ⟨g1, 2, none⟩ = some (.int .i64 0) := HG1.out.cell 2
           have c3 : y1.cell? ⟨g1, 3, none⟩ = some (.bool false) := HG1.out.cell 3
           clear nn)
        | (clear tk1; with_reducible refine wpSeq_allocRd ?_ ?_ ?_
           · rfl
           · rfl
           intro g2 y2 nn
           have NE_g1_g2 : Hid (g1 ≠ g2) := by have h1 := HG1.out.lt; have h2 := nn.ge; show _ ≠ _; omega
           have GE_g2 : Hid (w.heap.size ≤ g2) := Nat.le_trans HBW.out.size nn.ge
           clear c0
           clear c1
           clear c2
           clear c3
           replace HG1 : Hid (Blk y2 g1 [.slice ad ns cs, .slice aw nw cw, .int .i64 0, .bool false] 27) := HG1.out.below nn.below HG1.out.lt
           replace HBW : Hid (Below w.heap.size w y2) := HBW.out.trans (nn.below.mono HBW.out.size)
           have c0 : y2.cell? ⟨g1, 0, none⟩ = some (.slice ad ns cs) := HG1.out.cell 0
           have c1 : y2.cell? ⟨g1, 1, none⟩ = some (.slice aw nw cw) := HG1.out.cell 1
           have c2 : y2.cell? ⟨g1, 2, none⟩ = some (.int .i64 0) := HG1.out.cell 2
           have c3 : y2.cell? ⟨g1, 3, none⟩ = some (.bool false) := HG1.out.cell 3
           have HG2 : Hid (Blk y2 g2 [.slice none 0 0, .slice none 0 0, .int .i64 0, .bool false] 27) := nn.blk
           clear nn)
        | (clear tk2; with_reducible refine wpSeq_cellB (.tmp 10) (.const (.bool true)) g1 3 [.slice ad ns cs, .slice aw nw cw, .int .i64 0, .bool false] true 27 (by simp) HG1.out ?_ ?_ ?_ ?_ ?_
           · rfl
           · rfl
           · rfl
           · rfl
           intro y3 hb ho
           clear c0
           clear c1
           clear c2
           clear c3
           replace HG2 : Hid (Blk y3 g2 [.slice none 0 0, .slice none 0 0, .int .i64 0, .bool false] 27) := HG2.out.only ho (Ne.symm NE_g1_g2.out)
           replace HBW : Hid (Below w.heap.size w y3) := HBW.out.trans (ho.below GE_g1.out HBW.out.size)
           replace HG1 : Hid (Blk y3 g1 [.slice ad ns cs, .slice aw nw cw, .int .i64 0, .bool true] 27) := hb
           clear hb ho)
        | (clear tk3; with_reducible refine wpSeq_loadW 27 (.tmp 1) g1 0 [.slice ad ns cs, .slice aw nw cw, .int .i64 0, .bool true] _ ?_ Try.underlying27 rfl ?_ ?_ ?_ ?_ ?_
           · exact HG1.out.range
           · exact (info_rd _ _ _ _)
           · rfl
           · rfl
           · rfl)
        | (clear tk4; with_reducible refine wpSeq_storeRow 27 (.tmp 2) (.tmp 11) g2 [.slice none 0 0, .slice none 0 0, .int .i64 0, .bool false] [.slice ad ns cs, .slice aw nw cw, .int .i64 0, .bool true] HG2.out (by simp) (info_rd _ _ _ _) (one_rd _ _ _ _ _ _ _ _) ?_ ?_ ?_ ?_ ?_
           · rfl
           · rfl
           · rfl
           · rfl
           intro y4 hs
           have hb := hs.blk
           have ho := hs.only
           replace HG1 : Hid (Blk y4 g1 [.slice ad ns cs, .slice aw nw cw, .int .i64 0, .bool true] 27) := HG1.out.only ho NE_g1_g2.out
           replace HBW : Hid (Below w.heap.size w y4) := HBW.out.trans (ho.below GE_g2.out HBW.out.size)
           replace HG2 : Hid (Blk y4 g2 [.slice ad ns cs, .slice aw nw cw, .int .i64 0, .bool true] 27) := hb
           clear hb ho hs))
      exact bodyPost_ret (results_row_tmp (by rfl) _ _ g2 _ rfl (var_rd HG2.out)) rfl ⟨_, _, by rw [HR1.out]; rfl, (HS.out.below HBW.out).of rfl rfl, HBW.out⟩
    have HX1 : Hid (syncX13 D = 0) := by show _ = _; rw [syncX13, ← HDN.out, if_neg (by decide), if_neg (by rw [← HLF.out]; exact h0)]
    have HD1 : Hid (syncD13 D = ⟨dumpD D, [], lessL D.left, false⟩) := by show _ = _; rw [syncD13, ← HDN.out, if_neg (by decide), if_neg (by rw [← HLF.out]; exact h0)]
    have q0 : (lf == 0) = false := by rw [beq_eq_false_iff_ne]; exact h0
    rw [HD1.out, HX1.out]
    by_cases hp : 0 < lf
    · have f1 : IntKind.i64.wrap (lf - 1) = lf - 1 := by rw [IntKind.wrap_i64]; have h := HLB.out; omega
      have HMB : Hid (-1 ≤ lf - 1 ∧ lf - 1 < 9223372036854775808) := by have h := HLB.out; exact ⟨by omega, by omega⟩
      have HR1 : Hid (∀ xa ns2 xc, rdC ⟨dumpD D, [], lessL D.left, false⟩ (.slice xa ns2 xc) (.slice none 0 0) = [.slice xa ns2 xc, .slice none 0 0, .int .i64 (lf - 1), .bool false]) := fun xa ns2 xc => by rw [rdC, ← HLF.out, lessL, if_pos hp]
      go_enter Try.func28, Try.ntmps28
      have tk0 : Hid True := trivial
      have tk1 : Hid True := trivial
      have tk2 : Hid True := trivial
      have tk3 : Hid True := trivial
      have tk4 : Hid True := trivial
      have tk5 : Hid True := trivial
      have tk6 : Hid True := trivial
      have tk7 : Hid True := trivial
      have tk8 : Hid True := trivial
      go_wp2_with (first
        | (clear tk0; with_reducible refine wpSeq_boxW 27 (.tmp 0) [.slice ad ns cs, .slice aw nw cw, .int .i64 lf, .bool false] ?_ ?_ ?_ ?_
           · rfl
           · rfl
           · rfl
           intro g1 y1 nn
           have GE_g1 : Hid (w.heap.size ≤ g1) := Nat.le_trans HBW.out.size nn.ge
           replace HBW : Hid (Below w.heap.size w y1) := HBW.out.trans (nn.below.mono HBW.out.size)
           have HG1 : Hid (Blk y1 g1 [.slice ad ns cs, .slice aw nw cw, .int .i64 lf, .bool false] 27) := nn.blk
           have c0 : y1.cell? ⟨g1, 0, none⟩ = some (.slice ad ns cs) := HG1.out.cell 0
           have c1 : y1.cell? ⟨g1, 1, none⟩ = some (.slice aw nw cw) := HG1.out.cell 1
           have c2 : y1.cell? ⟨g1, 2, none⟩ = some (.int .i64 lf) := HG1.out.cell 2
           have c3 : y1.cell? ⟨g1, 3, none⟩ = some (.bool false) := HG1.out.cell 3
           clear nn)
        | (clear tk1; with_reducible refine wpSeq_allocRd ?_ ?_ ?_
           · rfl
           · rfl
           intro g2 y2 nn
           have NE_g1_g2 : Hid (g1 ≠ g2) := by have h1 := HG1.out.lt; have h2 := nn.ge; show _ ≠ _; omega
           have GE_g2 : Hid (w.heap.size ≤ g2) := Nat.le_trans HBW.out.size nn.ge
           clear c0
           clear c1
           clear c2
           clear c3
           replace HG1 : Hid (Blk y2 g1 [.slice ad ns cs, .slice aw nw cw, .int .i64 lf, .bool false] 27) := HG1.out.below nn.below HG1.out.lt
           replace HBW : Hid (Below w.heap.size w y2) := HBW.out.trans (nn.below.mono HBW.out.size)
           have c0 : y2.cell? ⟨g1, 0, none⟩ = some (.slice ad ns cs) := HG1.out.cell 0
           have c1 : y2.cell? ⟨g1, 1, none⟩ = some (.slice aw nw cw) := HG1.out.cell 1
           have c2 : y2.cell? ⟨g1, 2, none⟩ = some (.int .i64 lf) := HG1.out.cell 2
           have c3 : y2.cell? ⟨g1, 3, none⟩ = some (.bool false) := HG1.out.cell 3
           have HG2 : Hid (Blk y2 g2 [.slice none 0 0, .slice none 0 0, .int .i64 0, .bool false] 27) := nn.blk
           clear nn)
        | (clear tk2; with_reducible refine wpSeq_cellI (.tmp 18) (.tmp 17) g1 2 [.slice ad ns cs, .slice aw nw cw, .int .i64 lf, .bool false] (lf - 1) 27 (by simp) HG1.out ?_ ?_ ?_ ?_ ?_
           · rfl
           · rfl
           · rfl
           · rfl
           intro y3 hb ho
           clear c0
           clear c1
           clear c2
           clear c3
           replace HG2 : Hid (Blk y3 g2 [.slice none 0 0, .slice none 0 0, .int .i64 0, .bool false] 27) := HG2.out.only ho (Ne.symm NE_g1_g2.out)
           replace HBW : Hid (Below w.heap.size w y3) := HBW.out.trans (ho.below GE_g1.out HBW.out.size)
           replace HG1 : Hid (Blk y3 g1 [.slice ad ns cs, .slice aw nw cw, .int .i64 (lf - 1), .bool false] 27) := hb
           have c0 : y3.cell? ⟨g1, 0, none⟩ = some (.slice ad ns cs) := HG1.out.cell 0
           have c1 : y3.cell? ⟨g1, 1, none⟩ = some (.slice aw nw cw) := HG1.out.cell 1
           have c2 : y3.cell? ⟨g1, 2, none⟩ = some (.int .i64 (lf - 1)) := HG1.out.cell 2
           have c3 : y3.cell? ⟨g1, 3, none⟩ = some (.bool false) := HG1.out.cell 3
           clear hb ho)
        | (clear tk3; with_reducible refine wpSeq_loadW 27 (.tmp 1) g1 0 [.slice ad ns cs, .slice aw nw cw, .int .i64 (lf - 1), .bool false] _ ?_ Try.underlying27 rfl ?_ ?_ ?_ ?_ ?_
           · exact HG1.out.range
           · exact (info_rd _ _ _ _)
           · rfl
           · rfl
           · rfl)
        | (clear tk4; go_at_call 15; refine (HCD.out y3 (lf - 1) g1 g2 HMB.out.1 HMB.out.2 HBW.out GE_g1.out GE_g2.out HG1.out.lt HG2.out.lt).mono ?_; rintro e y4 ⟨vd, rfl, hrd, hbz⟩
           clear c0
           clear c1
           clear c2
           clear c3
           replace HG1 : Hid (Blk y4 g1 [.slice ad ns cs, .slice aw nw cw, .int .i64 (lf - 1), .bool false] 27) := HG1.out.below hbz HG1.out.lt
           replace HG2 : Hid (Blk y4 g2 [.slice none 0 0, .slice none 0 0, .int .i64 0, .bool false] 27) := HG2.out.below hbz HG2.out.lt
           replace HBW : Hid (Below w.heap.size w y4) := HBW.out.trans (hbz.mono HBW.out.size)
           have c0 : y4.cell? ⟨g1, 0, none⟩ = some (.slice ad ns cs) := HG1.out.cell 0
           have c1 : y4.cell? ⟨g1, 1, none⟩ = some (.slice aw nw cw) := HG1.out.cell 1
           have c2 : y4.cell? ⟨g1, 2, none⟩ = some (.int .i64 (lf - 1)) := HG1.out.cell 2
           have c3 : y4.cell? ⟨g1, 3, none⟩ = some (.bool false) := HG1.out.cell 3
           have hnow := hrd.now
           obtain ⟨xa, xc, hvd, hxc, hq4⟩ := id hnow
           rw [HLD.out] at hvd
           subst hvd
           clear hq4 hxc hnow
           have HRD : Hid (Sta (Two P g1 g2) y4 (fun X => Reads X (.slice xa ns xc) (dumpD D))) := hrd
           have HMT : Hid (Mut (Two P g1 g2) y4 y4) := Mut.refl _ _
           clear hbz hrd)
        | (clear tk5; with_reducible refine wpSeq_cellY (.tmp 21) (.tmp 20) g1 0 [.slice ad ns cs, .slice aw nw cw, .int .i64 (lf - 1), .bool false] xa ns xc 27 (by simp) HG1.out ?_ ?_ ?_ ?_ ?_
           · rfl
           · rfl
           · rfl
           · rfl
           intro y5 hb ho
           clear c0
           clear c1
           clear c2
           clear c3
           replace HG2 : Hid (Blk y5 g2 [.slice none 0 0, .slice none 0 0, .int .i64 0, .bool false] 27) := HG2.out.only ho (Ne.symm NE_g1_g2.out)
           replace HBW : Hid (Below w.heap.size w y5) := HBW.out.trans (ho.below GE_g1.out HBW.out.size)
           replace HG1 : Hid (Blk y5 g1 [.slice xa ns xc, .slice aw nw cw, .int .i64 (lf - 1), .bool false] 27) := hb
           replace HMT : Hid (Mut (Two P g1 g2) y4 y5) := HMT.out.trans (fun _ _ h => h) (ho.mut (Or.inr (Or.inl rfl)))
           clear hb ho)
        | (clear tk6; with_reducible refine wpSeq_cellW (.tmp 22) (.const (.slice none 0 0)) g1 1 [.slice xa ns xc, .slice aw nw cw, .int .i64 (lf - 1), .bool false] none 0 0 27 (by simp) HG1.out ?_ ?_ ?_ ?_ ?_
           · rfl
           · rfl
           · rfl
           · rfl
           intro y6 hb ho
           replace HG2 : Hid (Blk y6 g2 [.slice none 0 0, .slice none 0 0, .int .i64 0, .bool false] 27) := HG2.out.only ho (Ne.symm NE_g1_g2.out)
           replace HBW : Hid (Below w.heap.size w y6) := HBW.out.trans (ho.below GE_g1.out HBW.out.size)
           replace HG1 : Hid (Blk y6 g1 [.slice xa ns xc, .slice none 0 0, .int .i64 (lf - 1), .bool false] 27) := hb
           replace HMT : Hid (Mut (Two P g1 g2) y4 y6) := HMT.out.trans (fun _ _ h => h) (ho.mut (Or.inr (Or.inl rfl)))
           clear hb ho)
        | (clear tk7; with_reducible refine wpSeq_loadW 27 (.tmp 1) g1 0 [.slice xa ns xc, .slice none 0 0, .int .i64 (lf - 1), .bool false] _ ?_ Try.underlying27 rfl ?_ ?_ ?_ ?_ ?_
           · exact HG1.out.range
           · exact (info_rd _ _ _ _)
           · rfl
           · rfl
           · rfl)
        | (clear tk8; with_reducible refine wpSeq_storeRow 27 (.tmp 2) (.tmp 23) g2 [.slice none 0 0, .slice none 0 0, .int .i64 0, .bool false] [.slice xa ns xc, .slice none 0 0, .int .i64 (lf - 1), .bool false] HG2.out (by simp) (info_rd _ _ _ _) (one_rd _ _ _ _ _ _ _ _) ?_ ?_ ?_ ?_ ?_
           · rfl
           · rfl
           · rfl
           · rfl
           intro y7 hs
           have hb := hs.blk
           have ho := hs.only
           replace HG1 : Hid (Blk y7 g1 [.slice xa ns xc, .slice none 0 0, .int .i64 (lf - 1), .bool false] 27) := HG1.out.only ho NE_g1_g2.out
           replace HBW : Hid (Below w.heap.size w y7) := HBW.out.trans (ho.below GE_g2.out HBW.out.size)
           replace HG2 : Hid (Blk y7 g2 [.slice xa ns xc, .slice none 0 0, .int .i64 (lf - 1), .bool false] 27) := hb
           replace HMT : Hid (Mut (Two P g1 g2) y4 y7) := HMT.out.trans (fun _ _ h => h) (ho.mut (Or.inr (Or.inr rfl)))
           clear hb ho hs))
      exact bodyPost_ret (results_row_tmp (by rfl) _ _ g2 _ rfl (var_rd HG2.out)) rfl ⟨.slice xa ns xc, .slice none 0 0, by rw [HR1.out]; rfl, ⟨HRD.out.go HMT.out (fun _ _ h => Or.inl h), StaW.nil _ _⟩, HBW.out⟩
    · have HMB : Hid (-1 ≤ lf ∧ lf < 9223372036854775808) := HLB.out
      have HR1 : Hid (∀ xa ns2 xc, rdC ⟨dumpD D, [], lessL D.left, false⟩ (.slice xa ns2 xc) (.slice none 0 0) = [.slice xa ns2 xc, .slice none 0 0, .int .i64 lf, .bool false]) := fun xa ns2 xc => by rw [rdC, ← HLF.out, lessL, if_neg hp]
      go_enter Try.func28, Try.ntmps28
      have tk0 : Hid True := trivial
      have tk1 : Hid True := trivial
      have tk2 : Hid True := trivial
      have tk3 : Hid True := trivial
      have tk4 : Hid True := trivial
      have tk5 : Hid True := trivial
      have tk6 : Hid True := trivial
      have tk7 : Hid True := trivial
      go_wp2_with (first
        | (clear tk0; with_reducible refine wpSeq_boxW 27 (.tmp 0) [.slice ad ns cs, .slice aw nw cw, .int .i64 lf, .bool false] ?_ ?_ ?_ ?_
           · rfl
           · rfl
           · rfl
           intro g1 y1 nn
           have GE_g1 : Hid (w.heap.size ≤ g1) := Nat.le_trans HBW.out.size nn.ge
           replace HBW : Hid (Below w.heap.size w y1) := HBW.out.trans (nn.below.mono HBW.out.size)
           have HG1 : Hid (Blk y1 g1 [.slice ad ns cs, .slice aw nw cw, .int .i64 lf, .bool false] 27) := nn.blk
           have c0 : y1.cell? ⟨g1, 0, none⟩ = some (.slice ad ns cs) := HG1.out.cell 0
           have c1 : y1.cell? ⟨g1, 1, none⟩ = some (.slice aw nw cw) := HG1.out.cell 1
           have c2 : y1.cell? ⟨g1, 2, none⟩ = some (.int .i64 lf) := HG1.out.cell 2
           have c3 : y1.cell? ⟨g1, 3, none⟩ = some (.bool false) := HG1.out.cell 3
           clear nn)
        | (clear tk1; with_reducible refine wpSeq_allocRd ?_ ?_ ?_
           · rfl
           · rfl
           intro g2 y2 nn
           have NE_g1_g2 : Hid (g1 ≠ g2) := by have h1 := HG1.out.lt; have h2 := nn.ge; show _ ≠ _; omega
           have GE_g2 : Hid (w.heap.size ≤ g2) := Nat.le_trans HBW.out.size nn.ge
           clear c0
           clear c1
           clear c2
           clear c3
           replace HG1 : Hid (Blk y2 g1 [.slice ad ns cs, .slice aw nw cw, .int .i64 lf, .bool false] 27) := HG1.out.below nn.below HG1.out.lt
           replace HBW : Hid (Below w.heap.size w y2) := HBW.out.trans (nn.below.mono HBW.out.size)
           have c0 : y2.cell? ⟨g1, 0, none⟩ = some (.slice ad ns cs) := HG1.out.cell 0
           have c1 : y2.cell? ⟨g1, 1, none⟩ = some (.slice aw nw cw) := HG1.out.cell 1
           have c2 : y2.cell? ⟨g1, 2, none⟩ = some (.int .i64 lf) := HG1.out.cell 2
           have c3 : y2.cell? ⟨g1, 3, none⟩ = some (.bool false) := HG1.out.cell 3
           have HG2 : Hid (Blk y2 g2 [.slice none 0 0, .slice none 0 0, .int .i64 0, .bool false] 27) := nn.blk
           clear nn)
        | (clear tk2; with_reducible refine wpSeq_loadW 27 (.tmp 1) g1 0 [.slice ad ns cs, .slice aw nw cw, .int .i64 lf, .bool false] _ ?_ Try.underlying27 rfl ?_ ?_ ?_ ?_ ?_
           · exact HG1.out.range
           · exact (info_rd _ _ _ _)
           · rfl
           · rfl
           · rfl)
        | (clear tk3; go_at_call 15; refine (HCD.out y2 lf g1 g2 HMB.out.1 HMB.out.2 HBW.out GE_g1.out GE_g2.out HG1.out.lt HG2.out.lt).mono ?_; rintro e y3 ⟨vd, rfl, hrd, hbz⟩
           clear c0
           clear c1
           clear c2
           clear c3
           replace HG1 : Hid (Blk y3 g1 [.slice ad ns cs, .slice aw nw cw, .int .i64 lf, .bool false] 27) := HG1.out.below hbz HG1.out.lt
           replace HG2 : Hid (Blk y3 g2 [.slice none 0 0, .slice none 0 0, .int .i64 0, .bool false] 27) := HG2.out.below hbz HG2.out.lt
           replace HBW : Hid (Below w.heap.size w y3) := HBW.out.trans (hbz.mono HBW.out.size)
           have c0 : y3.cell? ⟨g1, 0, none⟩ = some (.slice ad ns cs) := HG1.out.cell 0
           have c1 : y3.cell? ⟨g1, 1, none⟩ = some (.slice aw nw cw) := HG1.out.cell 1
           have c2 : y3.cell? ⟨g1, 2, none⟩ = some (.int .i64 lf) := HG1.out.cell 2
           have c3 : y3.cell? ⟨g1, 3, none⟩ = some (.bool false) := HG1.out.cell 3
           have hnow := hrd.now
           obtain ⟨xa, xc, hvd, hxc, hq4⟩ := id hnow
           rw [HLD.out] at hvd
           subst hvd
           clear hq4 hxc hnow
           have HRD : Hid (Sta (Two P g1 g2) y3 (fun X => Reads X (.slice xa ns xc) (dumpD D))) := hrd
           have HMT : Hid (Mut (Two P g1 g2) y3 y3) := Mut.refl _ _
           clear hbz hrd)
        | (clear tk4; with_reducible refine wpSeq_cellY (.tmp 21) (.tmp 20) g1 0 [.slice ad ns cs, .slice aw nw cw, .int .i64 lf, .bool false] xa ns xc 27 (by simp) HG1.out ?_ ?_ ?_ ?_ ?_
           · rfl
           · rfl
           · rfl
           · rfl
           intro y4 hb ho
           clear c0
           clear c1
           clear c2
           clear c3
           replace HG2 : Hid (Blk y4 g2 [.slice none 0 0, .slice none 0 0, .int .i64 0, .bool false] 27) := HG2.out.only ho (Ne.symm NE_g1_g2.out)
           replace HBW : Hid (Below w.heap.size w y4) := HBW.out.trans (ho.below GE_g1.out HBW.out.size)
           replace HG1 : Hid (Blk y4 g1 [.slice xa ns xc, .slice aw nw cw, .int .i64 lf, .bool false] 27) := hb
           replace HMT : Hid (Mut (Two P g1 g2) y3 y4) := HMT.out.trans (fun _ _ h => h) (ho.mut (Or.inr (Or.inl rfl)))
           clear hb ho)
        | (clear tk5; with_reducible refine wpSeq_cellW (.tmp 22) (.const (.slice none 0 0)) g1 1 [.slice xa ns xc, .slice aw nw cw, .int .i64 lf, .bool false] none 0 0 27 (by simp) HG1.out ?_ ?_ ?_ ?_ ?_
           · rfl
           · rfl
           · rfl
           · rfl
           intro y5 hb ho
           replace HG2 : Hid (Blk y5 g2 [.slice none 0 0, .slice none 0 0, .int .i64 0, .bool false] 27) := HG2.out.only ho (Ne.symm NE_g1_g2.out)
           replace HBW : Hid (Below w.heap.size w y5) := HBW.out.trans (ho.below GE_g1.out HBW.out.size)
           replace HG1 : Hid (Blk y5 g1 [.slice xa ns xc, .slice none 0 0, .int .i64 lf, .bool false] 27) := hb
           replace HMT : Hid (Mut (Two P g1 g2) y3 y5) := HMT.out.trans (fun _ _ h => h) (ho.mut (Or.inr (Or.inl rfl)))
           clear hb ho)
        | (clear tk6; with_reducible refine wpSeq_loadW 27 (.tmp 1) g1 0 [.slice xa ns xc, .slice none 0 0, .int .i64 lf, .bool false] _ ?_ Try.underlying27 rfl ?_ ?_ ?_ ?_ ?_
           · exact HG1.out.range
           · exact (info_rd _ _ _ _)
           · rfl
           · rfl
           · rfl)
        | (clear tk7; with_reducible refine wpSeq_storeRow 27 (.tmp 2) (.tmp 23) g2 [.slice none 0 0, .slice none 0 0, .int .i64 0, .bool false] [.slice xa ns xc, .slice none 0 0, .int .i64 lf, .bool false] HG2.out (by simp) (info_rd _ _ _ _) (one_rd _ _ _ _ _ _ _ _) ?_ ?_ ?_ ?_ ?_
           · rfl
           · rfl
           · rfl
           · rfl
           intro y6 hs
           have hb := hs.blk
           have ho := hs.only
           replace HG1 : Hid (Blk y6 g1 [.slice xa ns xc, .slice none 0 0, .int .i64 lf, .bool false] 27) := HG1.out.only ho NE_g1_g2.out
           replace HBW : Hid (Below w.heap.size w y6) := HBW.out.trans (ho.below GE_g2.out HBW.out.size)
           replace HG2 : Hid (Blk y6 g2 [.slice xa ns xc, .slice none 0 0, .int .i64 lf, .bool false] 27) := hb
           replace HMT : Hid (Mut (Two P g1 g2) y3 y6) := HMT.out.trans (fun _ _ h => h) (ho.mut (Or.inr (Or.inr rfl)))
           clear hb ho hs))
      exact bodyPost_ret (results_row_tmp (by rfl) _ _ g2 _ rfl (var_rd HG2.out)) rfl ⟨.slice xa ns xc, .slice none 0 0, by rw [HR1.out]; rfl, ⟨HRD.out.go HMT.out (fun _ _ h => Or.inl h), StaW.nil _ _⟩, HBW.out⟩
end Go.Proofs.Ytdllnedmhhajnaa

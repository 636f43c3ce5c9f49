/- The walks of the reference's Read, Fuse, Sync (layer 13). -/
import Derived.Test.YtdllnedmhhajnaaDkRef
namespace Go.Proofs.Ytdllnedmhhajnaa
open Go.RowKit
set_option maxRecDepth 100000
theorem Reads.cutN {w : World} {ga off n cap : Nat} {bs : Bs} (h : Reads w (.slice (some ⟨ga, off, none⟩) n cap) bs) (k m : Nat) (hm : k + m ≤ bs.length) : Reads w (.slice (some ⟨ga, off + k, none⟩) m (cap - k)) ((bs.drop k).take m) := by
  obtain ⟨ad, cap', hv, hc, hn, hx⟩ := h
  simp only [Value.slice.injEq] at hv
  obtain ⟨rfl, rfl, rfl⟩ := hv
  have hl : ((bs.drop k).take m).length = m := by rw [List.length_take, List.length_drop]; omega
  refine ⟨_, _, by rw [hl], by rw [hl]; omega, (fun h => by cases h), fun hp => ?_⟩
  rw [hl] at hp
  obtain ⟨b, off', h1, h2⟩ := hx (by omega)
  simp only [Option.some.injEq, Addr.mk.injEq, and_true] at h1
  obtain ⟨rfl, rfl⟩ := h1
  refine ⟨ga, off + k, rfl, fun j hj => ?_⟩
  rw [hl] at hj
  have e : ((bs.drop k).take m).getD j 0 = bs.getD (k + j) 0 := by
    rw [List.getD_eq_getElem?_getD, List.getD_eq_getElem?_getD, List.getElem?_take_of_lt hj, List.getElem?_drop]
  rw [e, Nat.add_assoc]
  exact h2 (k + j) (by omega)
theorem ret_rd {fn : Func} {p : Tmp} (h : fn.results = #[.cell p 27]) (tmps : Array Value) (w : World) (g : Nat) (x y z u : Value) (hp : tmps.getD p undef = .pointer (some ⟨g, 0, none⟩)) (hb : Blk w g [x, y, z, u] 27) : (results fn tmps).run Try.prog w = .ok (.agg [x, y, z, u].toArray) w :=
  results_cell_row h tmps w g 27 [x, y, z, u].toArray (0, 0) _ hp hb Try.underlying27 rfl (by rw [List.size_toArray]; exact info_rd _ _ _ _)
set_option maxRecDepth 100000 in
set_option maxHeartbeats 8000000 in
theorem rdRead_any (P : Nat → Prop) (D : DkT) (vs vw : Value) (i : Int) (w : World) (hS : RdS P w D vs vw) (ok : okD D) (hw : D.wait.length ≤ 200) (hP : ∀ k, P k → k < w.heap.size) :
    Calls Try.prog 26 #[.agg (rdC D vs vw).toArray, .int .i64 i] w fun r w' => ∃ v, r = .returned (.tuple #[v, .int .i64 (readX13 D i)]) ∧ Sta P w' (fun W => Reads W v (readB13 D i)) ∧ Below w.heap.size w w' := by
  obtain ⟨ad, cs, aw, cw, hvs, hvw⟩ := hS.form
  obtain ⟨ns, HNS⟩ : ∃ n, Hid (n = D.safe.length) := ⟨_, rfl⟩
  obtain ⟨nw, HNW⟩ : ∃ n, Hid (n = D.wait.length) := ⟨_, rfl⟩
  rw [← HNS.out] at hvs
  rw [← HNW.out] at hvw
  subst hvs hvw
  have HS : Hid (RdS P w D (.slice ad ns cs) (.slice aw nw cw)) := hS
  have HOK : Hid (okD D) := ok
  have HW2 : Hid (nw ≤ 200) := by show _ ≤ _; rw [HNW.out]; exact hw
  have HPL : Hid (∀ k, P k → k < w.heap.size) := hP
  obtain ⟨lf, HLF⟩ : ∃ n, Hid (n = D.left) := ⟨_, rfl⟩
  obtain ⟨dn, HDN⟩ : ∃ n, Hid (n = D.down) := ⟨_, rfl⟩
  have HRC : Hid (rdC D (.slice ad ns cs) (.slice aw nw cw) = [.slice ad ns cs, .slice aw nw cw, .int .i64 lf, .bool dn]) := by show _ = _; rw [rdC, HLF.out, HDN.out]
  rw [HRC.out]
  have HBW : Hid (Below w.heap.size w w) := Below.refl _ _
  clear hS ok hw hP
  have HCD : Hid (∀ W : World, Below w.heap.size w W → Calls Try.prog 15 #[.agg [.slice ad ns cs, .slice aw nw cw, .int .i64 lf, .bool dn].toArray] W fun r w' => ∃ v, r = .returned v ∧ Sta P w' (fun X => Reads X v (dumpD D)) ∧ Below W.heap.size W w') := fun W hh => by rw [← HRC.out]; exact rdDump_any P D _ _ W (HS.out.below hh) HOK.out (by rw [← HNW.out]; exact HW2.out) (fun k hk => Nat.lt_of_lt_of_le (HPL.out k hk) hh.size)
  obtain ⟨sz, HSZ⟩ : ∃ n, Hid (n = sizeD D) := ⟨_, rfl⟩
  have HN64 : Hid (ns = 64 * sz ∧ 1 ≤ sz ∧ sz ≤ 16384) := by have h := HOK.out.size; rw [HNS.out, HSZ.out]; exact h
  have hq : Int.tdiv (ns : Int) 64 = (sz : Int) := by have h := HN64.out.1; rw [Int.tdiv_eq_ediv_of_nonneg (by omega)]; omega
  have fq : IntKind.i64.wrap (sz : Int) = (sz : Int) := by rw [IntKind.wrap_i64]; have h := HN64.out; omega
  have HX : Hid (readX13 D i = if dn then 14 else if hasD D i = false then 2 else 0) := by show _ = _; rw [readX13, HDN.out]
  have HY : Hid (readB13 D i = if dn then [] else if hasD D i = false then [] else ((dumpD D).drop (64 * i.toNat)).take 64) := by show _ = _; rw [readB13, HDN.out]
  have HH : Hid (hasD D i = true ↔ 0 ≤ i ∧ i < (sz : Int)) := by rw [HSZ.out]; exact hasD_iff D i
  clear HDN HLF HRC
  cases dn with
  | true =>
    have HX1 : Hid (readX13 D i = 14) := by rw [HX.out]; rfl
    have HY1 : Hid (readB13 D i = []) := by rw [HY.out]; rfl
    go_enter Try.func26, Try.ntmps26
    have tk0 : Hid True := trivial
    go_wp2_with (first
      | (clear tk0; with_reducible refine wpSeq_boxW 27 (.tmp 0) [.slice ad ns cs, .slice aw nw cw, .int .i64 lf, .bool true] ?_ ?_ ?_ ?_
         · rfl
         · rfl
         · rfl
         intro g1 y1 nn
         have GE_g1 : Hid (w.heap.size ≤ g1) := Nat.le_trans HBW.out.size nn.ge
         replace HBW : Hid (Below w.heap.size w y1) := HBW.out.trans (nn.below.mono HBW.out.size)
         have HG1 : Hid (Blk y1 g1 [.slice ad ns cs, .slice aw nw cw, .int .i64 lf, .bool true] 27) := nn.blk
         have c0 : y1.cell? ⟨g1, 0, none⟩ = some (.slice ad ns cs) := HG1.out.cell 0
         have c1 : y1.cell? ⟨g1, 1, none⟩ = some (.slice aw nw cw) := HG1.out.cell 1
         have c2 : y1.cell? ⟨g1, 2, none⟩ = some (.int .i64 lf) := HG1.out.cell 2
         have c3 : y1.cell? ⟨g1, 3, none⟩ = some (.bool true) := HG1.out.cell 3
         clear nn))
    refine bodyPost_ret (results_tmp2 rfl _ _ _) rfl ?_
    exact ⟨_, by rw [HX1.out]; rfl, by rw [HY1.out]; exact Sta.nil _ _, HBW.out⟩
  | false =>
    by_cases hi0 : i < 0
    · have HX1 : Hid (readX13 D i = 2) := by rw [HX.out, if_neg (by decide), if_pos (by rw [← Bool.not_eq_true, HH.out]; omega)]; rfl
      have HY1 : Hid (readB13 D i = []) := by rw [HY.out, if_neg (by decide), if_pos (by rw [← Bool.not_eq_true, HH.out]; omega)]; rfl
      go_enter Try.func26, Try.ntmps26
      have tk0 : Hid True := trivial
      go_wp2_with (first
        | (clear tk0; with_reducible refine wpSeq_boxW 27 (.tmp 0) [.slice ad ns cs, .slice aw nw cw, .int .i64 lf, .bool false] ?_ ?_ ?_ ?_
           · rfl
           · rfl
           · rfl
           intro g1 y1 nn
           have GE_g1 : Hid (w.heap.size ≤ g1) := Nat.le_trans HBW.out.size nn.ge
           replace HBW : Hid (Below w.heap.size w y1) := HBW.out.trans (nn.below.mono HBW.out.size)
           have HG1 : Hid (Blk y1 g1 [.slice ad ns cs, .slice aw nw cw, .int .i64 lf, .bool false] 27) := nn.blk
           have c0 : y1.cell? ⟨g1, 0, none⟩ = some (.slice ad ns cs) := HG1.out.cell 0
           have c1 : y1.cell? ⟨g1, 1, none⟩ = some (.slice aw nw cw) := HG1.out.cell 1
           have c2 : y1.cell? ⟨g1, 2, none⟩ = some (.int .i64 lf) := HG1.out.cell 2
           have c3 : y1.cell? ⟨g1, 3, none⟩ = some (.bool false) := HG1.out.cell 3
           clear nn))
      refine bodyPost_ret (results_tmp2 rfl _ _ _) rfl ?_
      exact ⟨_, by rw [HX1.out]; rfl, by rw [HY1.out]; exact Sta.nil _ _, HBW.out⟩
    by_cases hi1 : (sz : Int) ≤ i
    · have HX1 : Hid (readX13 D i = 2) := by rw [HX.out, if_neg (by decide), if_pos (by rw [← Bool.not_eq_true, HH.out]; omega)]; rfl
      have HY1 : Hid (readB13 D i = []) := by rw [HY.out, if_neg (by decide), if_pos (by rw [← Bool.not_eq_true, HH.out]; omega)]; rfl
      have hi2 : i ≥ (sz : Int) := hi1
      go_enter Try.func26, Try.ntmps26
      have tk0 : Hid True := trivial
      go_wp2_with (first
        | (clear tk0; with_reducible refine wpSeq_boxW 27 (.tmp 0) [.slice ad ns cs, .slice aw nw cw, .int .i64 lf, .bool false] ?_ ?_ ?_ ?_
           · rfl
           · rfl
           · rfl
           intro g1 y1 nn
           have GE_g1 : Hid (w.heap.size ≤ g1) := Nat.le_trans HBW.out.size nn.ge
           replace HBW : Hid (Below w.heap.size w y1) := HBW.out.trans (nn.below.mono HBW.out.size)
           have HG1 : Hid (Blk y1 g1 [.slice ad ns cs, .slice aw nw cw, .int .i64 lf, .bool false] 27) := nn.blk
           have c0 : y1.cell? ⟨g1, 0, none⟩ = some (.slice ad ns cs) := HG1.out.cell 0
           have c1 : y1.cell? ⟨g1, 1, none⟩ = some (.slice aw nw cw) := HG1.out.cell 1
           have c2 : y1.cell? ⟨g1, 2, none⟩ = some (.int .i64 lf) := HG1.out.cell 2
           have c3 : y1.cell? ⟨g1, 3, none⟩ = some (.bool false) := HG1.out.cell 3
           clear nn))
      refine bodyPost_ret (results_tmp2 rfl _ _ _) rfl ?_
      exact ⟨_, by rw [HX1.out]; rfl, by rw [HY1.out]; exact Sta.nil _ _, HBW.out⟩
    obtain ⟨ii, rfl⟩ : ∃ n : Nat, i = (n : Int) := ⟨i.toNat, by omega⟩
    have hi3 : ¬ ((ii : Int) ≥ (sz : Int)) := hi1
    have HX1 : Hid (readX13 D (ii : Int) = 0) := by
      have h : hasD D (ii : Int) = true := HH.out.2 ⟨by omega, by omega⟩
      rw [HX.out, if_neg (by decide), if_neg (by rw [h]; decide)]; rfl
    have HY1 : Hid (readB13 D (ii : Int) = ((dumpD D).drop (64 * ii)).take 64) := by
      have h : hasD D (ii : Int) = true := HH.out.2 ⟨by omega, by omega⟩
      rw [HY.out, if_neg (by decide), if_neg (by rw [h]; decide), Int.toNat_natCast]; rfl
    have HIB : Hid (64 * ii + 64 ≤ ns) := by have h := HN64.out; show _ ≤ _; omega
    have HLD : Hid ((dumpD D).length = ns) := by show _ = _; rw [len_dumpD HOK.out, HNS.out]
    have f1 : IntKind.i64.wrap (64 * (ii : Int)) = 64 * (ii : Int) := by rw [IntKind.wrap_i64]; have h := HN64.out; omega
    have f2 : IntKind.i64.wrap (64 * (ii : Int) + 64) = 64 * (ii : Int) + 64 := by rw [IntKind.wrap_i64]; have h := HN64.out; omega
    go_enter Try.func26, Try.ntmps26
    have tk0 : Hid True := trivial
    have tk1 : Hid True := trivial
    have tk2 : Hid True := trivial
    have tk3 : Hid True := trivial
    go_wp2_with (first
      | (clear tk0; with_reducible refine wpSeq_boxW 27 (.tmp 0) [.slice ad ns cs, .slice aw nw cw, .int .i64 lf, .bool false] ?_ ?_ ?_ ?_
         · rfl
         · rfl
         · rfl
         intro g1 y1 nn
         have GE_g1 : Hid (w.heap.size ≤ g1) := Nat.le_trans HBW.out.size nn.ge
         replace HBW : Hid (Below w.heap.size w y1) := HBW.out.trans (nn.below.mono HBW.out.size)
         have HG1 : Hid (Blk y1 g1 [.slice ad ns cs, .slice aw nw cw, .int .i64 lf, .bool false] 27) := nn.blk
         have c0 : y1.cell? ⟨g1, 0, none⟩ = some (.slice ad ns cs) := HG1.out.cell 0
         have c1 : y1.cell? ⟨g1, 1, none⟩ = some (.slice aw nw cw) := HG1.out.cell 1
         have c2 : y1.cell? ⟨g1, 2, none⟩ = some (.int .i64 lf) := HG1.out.cell 2
         have c3 : y1.cell? ⟨g1, 3, none⟩ = some (.bool false) := HG1.out.cell 3
         clear nn)
      | (clear tk1; with_reducible refine wpSeq_loadW 27 (.tmp 2) g1 0 [.slice ad ns cs, .slice aw nw cw, .int .i64 lf, .bool false] _ ?_ Try.underlying27 rfl ?_ ?_ ?_ ?_ ?_
         · exact HG1.out.range
         · exact (info_rd _ _ _ _)
         · rfl
         · rfl
         · rfl)
      | (clear tk2; go_at_call 15; refine (HCD.out y1 HBW.out).mono ?_; rintro e y2 ⟨vd, rfl, hrd, hbz⟩
         clear c0
         clear c1
         clear c2
         clear c3
         replace HG1 : Hid (Blk y2 g1 [.slice ad ns cs, .slice aw nw cw, .int .i64 lf, .bool false] 27) := HG1.out.below hbz HG1.out.lt
         replace HBW : Hid (Below w.heap.size w y2) := HBW.out.trans (hbz.mono HBW.out.size)
         have c0 : y2.cell? ⟨g1, 0, none⟩ = some (.slice ad ns cs) := HG1.out.cell 0
         have c1 : y2.cell? ⟨g1, 1, none⟩ = some (.slice aw nw cw) := HG1.out.cell 1
         have c2 : y2.cell? ⟨g1, 2, none⟩ = some (.int .i64 lf) := HG1.out.cell 2
         have c3 : y2.cell? ⟨g1, 3, none⟩ = some (.bool false) := HG1.out.cell 3
         have hnow := hrd.now
         obtain ⟨xa, xc, hvd, hxc, hq4⟩ := id hnow
         rw [HLD.out] at hvd hxc
         subst hvd
         clear hq4
         obtain ⟨gb, go, rfl, hq5⟩ := hnow.atB (by rw [HLD.out]; have h := HIB.out; omega)
         clear hq5 hnow
         have HRD : Hid (Sta P y2 (fun X => Reads X (.slice (some ⟨gb, go, none⟩) ns xc) (dumpD D))) := hrd
         have HXC : Hid (ns ≤ xc) := hxc
         clear hbz hrd hxc)
      | (clear tk3; with_reducible refine wpSeq_cut (.tmp 19) (.tmp 21) (.tmp 24) gb go ns xc (64 * ii) 64 (64 * (ii : Int)) (64 * (ii : Int) + 64) (by omega) (by omega) (by decide) HIB.out HXC.out ?_ ?_ ?_ ?_ ?_ ?_
         · rfl
         · rfl
         · rfl
         · rfl
         · rfl))
    refine bodyPost_ret (results_tmp2 rfl _ _ _) rfl ?_
    exact ⟨_, by rw [HX1.out]; rfl, by rw [HY1.out]; exact HRD.out.mono fun W h => h.cutN (64 * ii) 64 (by rw [HLD.out]; exact HIB.out), HBW.out⟩
set_option maxRecDepth 100000 in
set_option maxHeartbeats 8000000 in
theorem rdFuse_any (D : DkT) (ad : Option Addr) (ns cs : Nat) (aw : Option Addr) (nw cw : Nat) (n : Int) (w : World) :
    Calls Try.prog 29 #[.agg (rdC D (.slice ad ns cs) (.slice aw nw cw)).toArray, .int .i64 n] w fun r w' => r = .returned (.agg (rdC (fuseD13 D n) (.slice ad ns cs) (.slice aw nw cw)).toArray) ∧ Below w.heap.size w w' := by
  obtain ⟨lf, HLF⟩ : ∃ n, Hid (n = D.left) := ⟨_, rfl⟩
  obtain ⟨dn, HDN⟩ : ∃ n, Hid (n = D.down) := ⟨_, rfl⟩
  have HRC : Hid (rdC D (.slice ad ns cs) (.slice aw nw cw) = [.slice ad ns cs, .slice aw nw cw, .int .i64 lf, .bool dn]) := by show _ = _; rw [rdC, HLF.out, HDN.out]
  have HRF : Hid (rdC (fuseD13 D n) (.slice ad ns cs) (.slice aw nw cw) = [.slice ad ns cs, .slice aw nw cw, .int .i64 (if n < 0 then -1 else n), .bool dn]) := by show _ = _; rw [rdC, HDN.out]; rfl
  rw [HRC.out]
  have HBW : Hid (Below w.heap.size w w) := Below.refl _ _
  clear HLF HDN HRC
  by_cases hn : n < 0
  · have HIF : Hid ((if n < 0 then -1 else n) = -1) := if_pos hn
    go_enter Try.func29, Try.ntmps29
    have tk0 : Hid True := trivial
    have tk1 : Hid True := trivial
    have tk2 : Hid True := trivial
    have tk3 : Hid True := trivial
    have tk4 : Hid True := trivial
    have tk5 : Hid True := trivial
    go_wp2_with (first
      | (clear tk0; with_reducible refine wpSeq_boxW 27 (.tmp 0) [.slice ad ns cs, .slice aw nw cw, .int .i64 lf, .bool dn] ?_ ?_ ?_ ?_
         · rfl
         · rfl
         · rfl
         intro g2 y1 nn
         have GE_g2 : Hid (w.heap.size ≤ g2) := Nat.le_trans HBW.out.size nn.ge
         replace HBW : Hid (Below w.heap.size w y1) := HBW.out.trans (nn.below.mono HBW.out.size)
         have HG2 : Hid (Blk y1 g2 [.slice ad ns cs, .slice aw nw cw, .int .i64 lf, .bool dn] 27) := nn.blk
         clear nn)
      | (clear tk1; with_reducible refine wpSeq_allocRd ?_ ?_ ?_
         · rfl
         · rfl
         intro g4 y2 nn
         have NE_g2_g4 : Hid (g2 ≠ g4) := by have h1 := HG2.out.lt; have h2 := nn.ge; show _ ≠ _; omega
         have GE_g4 : Hid (w.heap.size ≤ g4) := Nat.le_trans HBW.out.size nn.ge
         replace HG2 : Hid (Blk y2 g2 [.slice ad ns cs, .slice aw nw cw, .int .i64 lf, .bool dn] 27) := HG2.out.below nn.below HG2.out.lt
         replace HBW : Hid (Below w.heap.size w y2) := HBW.out.trans (nn.below.mono HBW.out.size)
         have HG4 : Hid (Blk y2 g4 [.slice none 0 0, .slice none 0 0, .int .i64 0, .bool false] 27) := nn.blk
         clear nn)
      | (clear tk2; with_reducible refine wpSeq_cellI (.tmp 6) (.tmp 5) g2 2 [.slice ad ns cs, .slice aw nw cw, .int .i64 lf, .bool dn] n 27 (by simp) HG2.out ?_ ?_ ?_ ?_ ?_
         · rfl
         · rfl
         · rfl
         · rfl
         intro y3 hb ho
         replace HG4 : Hid (Blk y3 g4 [.slice none 0 0, .slice none 0 0, .int .i64 0, .bool false] 27) := HG4.out.only ho (Ne.symm NE_g2_g4.out)
         replace HBW : Hid (Below w.heap.size w y3) := HBW.out.trans (ho.below GE_g2.out HBW.out.size)
         replace HG2 : Hid (Blk y3 g2 [.slice ad ns cs, .slice aw nw cw, .int .i64 n, .bool dn] 27) := hb
         clear hb ho)
      | (clear tk3; with_reducible refine wpSeq_cellI (.tmp 9) (.const (.int .i64 (-1))) g2 2 [.slice ad ns cs, .slice aw nw cw, .int .i64 n, .bool dn] (-1) 27 (by simp) HG2.out ?_ ?_ ?_ ?_ ?_
         · rfl
         · rfl
         · rfl
         · rfl
         intro y4 hb ho
         replace HG4 : Hid (Blk y4 g4 [.slice none 0 0, .slice none 0 0, .int .i64 0, .bool false] 27) := HG4.out.only ho (Ne.symm NE_g2_g4.out)
         replace HBW : Hid (Below w.heap.size w y4) := HBW.out.trans (ho.below GE_g2.out HBW.out.size)
         replace HG2 : Hid (Blk y4 g2 [.slice ad ns cs, .slice aw nw cw, .int .i64 (-1), .bool dn] 27) := hb
         clear hb ho)
      | (clear tk4; with_reducible refine wpSeq_loadW 27 (.tmp 2) g2 0 [.slice ad ns cs, .slice aw nw cw, .int .i64 (-1), .bool dn] _ ?_ Try.underlying27 rfl ?_ ?_ ?_ ?_ ?_
         · exact HG2.out.range
         · exact (info_rd _ _ _ _)
         · rfl
         · rfl
         · rfl)
      | (clear tk5; with_reducible refine wpSeq_storeRow 27 (.tmp 4) (.tmp 10) g4 [.slice none 0 0, .slice none 0 0, .int .i64 0, .bool false] [.slice ad ns cs, .slice aw nw cw, .int .i64 (-1), .bool dn] HG4.out (by simp) (info_rd _ _ _ _) (one_rd _ _ _ _ _ _ _ _) ?_ ?_ ?_ ?_ ?_
         · rfl
         · rfl
         · rfl
         · rfl
         intro y5 hs
         have hb := hs.blk
         have ho := hs.only
         replace HG2 : Hid (Blk y5 g2 [.slice ad ns cs, .slice aw nw cw, .int .i64 (-1), .bool dn] 27) := HG2.out.only ho NE_g2_g4.out
         replace HBW : Hid (Below w.heap.size w y5) := HBW.out.trans (ho.below GE_g4.out HBW.out.size)
         replace HG4 : Hid (Blk y5 g4 [.slice ad ns cs, .slice aw nw cw, .int .i64 (-1), .bool dn] 27) := hb
         clear hb ho hs))
    exact bodyPost_ret (v := .agg [.slice ad ns cs, .slice aw nw cw, .int .i64 (-1), .bool dn].toArray) (ret_rd (by rfl) _ _ g4 _ _ _ _ rfl HG4.out) rfl ⟨by rw [HRF.out, HIF.out], HBW.out⟩
  · have HIF : Hid ((if n < 0 then -1 else n) = n) := if_neg hn
    go_enter Try.func29, Try.ntmps29
    have tk0 : Hid True := trivial
    have tk1 : Hid True := trivial
    have tk2 : Hid True := trivial
    have tk3 : Hid True := trivial
    have tk4 : Hid True := trivial
    go_wp2_with (first
      | (clear tk0; with_reducible refine wpSeq_boxW 27 (.tmp 0) [.slice ad ns cs, .slice aw nw cw, .int .i64 lf, .bool dn] ?_ ?_ ?_ ?_
         · rfl
         · rfl
         · rfl
         intro g2 y1 nn
         have GE_g2 : Hid (w.heap.size ≤ g2) := Nat.le_trans HBW.out.size nn.ge
         replace HBW : Hid (Below w.heap.size w y1) := HBW.out.trans (nn.below.mono HBW.out.size)
         have HG2 : Hid (Blk y1 g2 [.slice ad ns cs, .slice aw nw cw, .int .i64 lf, .bool dn] 27) := nn.blk
         clear nn)
      | (clear tk1; with_reducible refine wpSeq_allocRd ?_ ?_ ?_
         · rfl
         · rfl
         intro g4 y2 nn
         have NE_g2_g4 : Hid (g2 ≠ g4) := by have h1 := HG2.out.lt; have h2 := nn.ge; show _ ≠ _; omega
         have GE_g4 : Hid (w.heap.size ≤ g4) := Nat.le_trans HBW.out.size nn.ge
         replace HG2 : Hid (Blk y2 g2 [.slice ad ns cs, .slice aw nw cw, .int .i64 lf, .bool dn] 27) := HG2.out.below nn.below HG2.out.lt
         replace HBW : Hid (Below w.heap.size w y2) := HBW.out.trans (nn.below.mono HBW.out.size)
         have HG4 : Hid (Blk y2 g4 [.slice none 0 0, .slice none 0 0, .int .i64 0, .bool false] 27) := nn.blk
         clear nn)
      | (clear tk2; with_reducible refine wpSeq_cellI (.tmp 6) (.tmp 5) g2 2 [.slice ad ns cs, .slice aw nw cw, .int .i64 lf, .bool dn] n 27 (by simp) HG2.out ?_ ?_ ?_ ?_ ?_
         · rfl
         · rfl
         · rfl
         · rfl
         intro y3 hb ho
         replace HG4 : Hid (Blk y3 g4 [.slice none 0 0, .slice none 0 0, .int .i64 0, .bool false] 27) := HG4.out.only ho (Ne.symm NE_g2_g4.out)
         replace HBW : Hid (Below w.heap.size w y3) := HBW.out.trans (ho.below GE_g2.out HBW.out.size)
         replace HG2 : Hid (Blk y3 g2 [.slice ad ns cs, .slice aw nw cw, .int .i64 n, .bool dn] 27) := hb
         clear hb ho)
      | (clear tk3; with_reducible refine wpSeq_loadW 27 (.tmp 2) g2 0 [.slice ad ns cs, .slice aw nw cw, .int .i64 n, .bool dn] _ ?_ Try.underlying27 rfl ?_ ?_ ?_ ?_ ?_
         · exact HG2.out.range
         · exact (info_rd _ _ _ _)
         · rfl
         · rfl
         · rfl)
      | (clear tk4; with_reducible refine wpSeq_storeRow 27 (.tmp 4) (.tmp 10) g4 [.slice none 0 0, .slice none 0 0, .int .i64 0, .bool false] [.slice ad ns cs, .slice aw nw cw, .int .i64 n, .bool dn] HG4.out (by simp) (info_rd _ _ _ _) (one_rd _ _ _ _ _ _ _ _) ?_ ?_ ?_ ?_ ?_
         · rfl
         · rfl
         · rfl
         · rfl
         intro y4 hs
         have hb := hs.blk
         have ho := hs.only
         replace HG2 : Hid (Blk y4 g2 [.slice ad ns cs, .slice aw nw cw, .int .i64 n, .bool dn] 27) := HG2.out.only ho NE_g2_g4.out
         replace HBW : Hid (Below w.heap.size w y4) := HBW.out.trans (ho.below GE_g4.out HBW.out.size)
         replace HG4 : Hid (Blk y4 g4 [.slice ad ns cs, .slice aw nw cw, .int .i64 n, .bool dn] 27) := hb
         clear hb ho hs))
    exact bodyPost_ret (v := .agg [.slice ad ns cs, .slice aw nw cw, .int .i64 n, .bool dn].toArray) (ret_rd (by rfl) _ _ g4 _ _ _ _ rfl HG4.out) rfl ⟨by rw [HRF.out, HIF.out], HBW.out⟩
end Go.Proofs.Ytdllnedmhhajnaa

/- The walks of the reference's Dump, Read, Fuse, Sync, Load (layer 13). -/
import Derived.Test.YtdllnedmhhajnaaDkWr
namespace Go.Proofs.Ytdllnedmhhajnaa
open Go.RowKit
set_option maxRecDepth 100000
theorem range2 {w : World} {b off : Nat} {x y : Value} (h1 : w.cell? ⟨b, off, none⟩ = some x) (h2 : w.cell? ⟨b, off + 1, none⟩ = some y) : w.rangeAt b off [x, y] := fun j v hv => by
  match j with
  | 0 => simp only [List.getElem?_cons_zero, Option.some.injEq] at hv; subst hv; exact h1
  | 1 => simp only [List.getElem?_cons_succ, List.getElem?_cons_zero, Option.some.injEq] at hv; subst hv; exact h2
  | j + 2 => simp at hv
theorem info_rw (x y : Value) : (Try.prog.info? 51).map (·.size) = some [x, y].length := by kernel_rfl
theorem info_rd (x y z u : Value) : (Try.prog.info? 27).map (·.size) = some [x, y, z, u].length := by kernel_rfl
theorem alloc_rd (f : Operand → Value) (o : Oper) (ho : o.op = .alloc 27) (w : World) : (execOp f o).run Try.prog w = .ok (.value (.pointer (some ⟨w.heap.size, 0, none⟩))) (w.alloc (.cells [Value.slice none 0 0, .slice none 0 0, .int .i64 0, .bool false].toArray 27)) := by
  unfold execOp
  rw [ho]
  kernel_rfl
theorem wpSeq_allocRd {ops : Array Oper} {Q : Exit → Act → World → Prop} {rest : List Oper} {o : Oper} {a : Act} {w : World} (ho : o.op = .alloc 27) (hw : Region.wanted o (yielded ops a.tmps) = true)
    (h : ∀ g w', NewR [Value.slice none 0 0, .slice none 0 0, .int .i64 0, .bool false] 27 w g w' → wpList Try.prog ops Q rest (a.put o.dst (.pointer (some ⟨g, 0, none⟩))) w') : wpList Try.prog ops Q (o :: rest) a w :=
  wpSeq_val _ _ hw (alloc_rd _ _ ho _) (h _ _ (NewR.of _ _ w))
theorem one_rd (ad : Option Addr) (ns cs : Nat) (aw : Option Addr) (nw cw : Nat) (lf : Int) (dn : Bool) : ∀ v ∈ [Value.slice ad ns cs, .slice aw nw cw, .int .i64 lf, .bool dn], v.oneCell' = true := by
  intro v hv
  simp only [List.mem_cons, List.not_mem_nil, or_false] at hv
  rcases hv with rfl | rfl | rfl | rfl <;> rfl
theorem var_rd {w : World} {g : Nat} {x y z u : Value} (hb : Blk w g [x, y, z, u] 27) : (loadVar 27 ⟨g, 0, none⟩).run Try.prog w = .ok (.agg [x, y, z, u].toArray) w :=
  run_loadVar_row (P := Try.prog) w g 27 27 [x, y, z, u].toArray (0, 0) _ hb Try.underlying27 rfl (by rw [List.size_toArray]; exact info_rd _ _ _ _)
theorem getD_memW {l : List (Nat × Bs)} {k : Nat} (hk : k < l.length) : l.getD k (0, []) ∈ l ∧ l.take (k + 1) = l.take k ++ [l.getD k (0, [])] := by
  have e : l.getD k (0, []) = l[k] := by rw [List.getD_eq_getElem?_getD, List.getElem?_eq_getElem hk]; rfl
  rw [e]
  exact ⟨List.getElem_mem hk, take_snocW hk⟩
set_option maxRecDepth 100000 in
set_option maxHeartbeats 8000000 in
theorem rdDump_any (P : Nat → Prop) (D : DkT) (vs vw : Value) (w : World) (hS : RdS P w D vs vw) (ok : okD D) (hw : D.wait.length ≤ 200) (hP : ∀ k, P k → k < w.heap.size) :
    Calls Try.prog 15 #[.agg (rdC D vs vw).toArray] w fun r w' => ∃ v, r = .returned v ∧ Sta P w' (fun W => Reads W v (dumpD D)) ∧ Below w.heap.size w w' := by
  obtain ⟨ad, cs, aw, cw, hvs, hvw⟩ := hS.form
  obtain ⟨ns, HNS⟩ : ∃ n, Hid (n = D.safe.length) := ⟨_, rfl⟩
  obtain ⟨nw, HNW⟩ : ∃ n, Hid (n = D.wait.length) := ⟨_, rfl⟩
  rw [← HNS.out] at hvs
  rw [← HNW.out] at hvw
  subst hvs hvw
  have HS : Hid (RdS P w D (.slice ad ns cs) (.slice aw nw cw)) := hS
  have HOK : Hid (okD D) := ok
  have HW2 : Hid (nw ≤ 200) := by show _ ≤ _; rw [HNW.out]; exact hw
  have HPL : Hid (∀ k, P k → k < w.heap.size) := hP
  obtain ⟨lf, HLF⟩ : ∃ n, Hid (n = D.left) := ⟨_, rfl⟩
  obtain ⟨dn, HDN⟩ : ∃ n, Hid (n = D.down) := ⟨_, rfl⟩
  have HRC : Hid (rdC D (.slice ad ns cs) (.slice aw nw cw) = [.slice ad ns cs, .slice aw nw cw, .int .i64 lf, .bool dn]) := by show _ = _; rw [rdC, HLF.out, HDN.out]
  rw [HRC.out]
  have HBW : Hid (Below w.heap.size w w) := Below.refl _ _
  clear hS ok hw hP
  go_enter Try.func15, Try.ntmps15
  have tk0 : Hid True := trivial
  go_wp2_with (first
    | (clear tk0; with_reducible refine wpSeq_boxW 27 (.tmp 0) [.slice ad ns cs, .slice aw nw cw, .int .i64 lf, .bool dn] ?_ ?_ ?_ ?_
       · rfl
       · rfl
       · rfl
       intro g1 y1 nn
       have HG1 : Hid (Blk y1 g1 [.slice ad ns cs, .slice aw nw cw, .int .i64 lf, .bool dn] 27) := nn.blk
       have HG1W : Hid (w.heap.size ≤ g1) := nn.ge
       replace HBW : Hid (Below w.heap.size w y1) := nn.below
       have c0 : y1.cell? ⟨g1, 0, none⟩ = some (.slice ad ns cs) := HG1.out.cell 0
       have c1 : y1.cell? ⟨g1, 1, none⟩ = some (.slice aw nw cw) := HG1.out.cell 1
       have c2 : y1.cell? ⟨g1, 2, none⟩ = some (.int .i64 lf) := HG1.out.cell 2
       have c3 : y1.cell? ⟨g1, 3, none⟩ = some (.bool dn) := HG1.out.cell 3
       clear nn))
  have HI0 : Hid (Sta P y1 (fun W => Reads W (.slice ad ns cs) (dumpW D.safe (D.wait.take 0)))) := HS.out.sf.below HBW.out
  have HIG := HG1
  have HIB := HBW
  clear HG1 HBW c0 c1 c2 c3
  go_loopw [3, 4] (fun b i wr => ∃ (k : Nat) (xa : Option Addr) (xc : Nat), k ≤ nw ∧ i = .int .i64 (k : Int) ∧ b = .slice xa ns xc ∧ Hid (Sta P wr (fun W => Reads W (.slice xa ns xc) (dumpW D.safe (D.wait.take k)))) ∧ Hid (Blk wr g1 [.slice ad ns cs, .slice aw nw cw, .int .i64 lf, .bool dn] 27) ∧ Hid (Below w.heap.size w wr)) (fun _ i _ => nw - (intOf i).toNat)
  case atStart => exact ⟨0, ad, cs, Nat.zero_le _, rfl, rfl, HI0, HIG, HIB⟩
  case round =>
    obtain ⟨k, xa, xc, hkn, rfl, rfl, HI, HG1, HBW⟩ := hrel
    clear HI0 HIG HIB
    have c1 : wr.cell? ⟨g1, 1, none⟩ = some (.slice aw nw cw) := HG1.out.cell 1
    by_cases hlt : k < nw
    case neg =>
      have hlk : ¬ ((k : Int) < (nw : Int)) := by omega
      have HO : Hid (Sta P wr (fun W => Reads W (.slice xa ns xc) (dumpD D))) := by
        have h := HI.out
        rw [List.take_of_length_le (by rw [← HNW.out]; omega)] at h
        exact h
      go_wp2
      go_ret
      exact ⟨_, rfl, HO.out, HBW.out⟩
    case pos =>
      have hlk : (k : Int) < (nw : Int) := by omega
      have k0 : (0 : Int) ≤ (k : Int) := by omega
      have f5 : IntKind.i64.wrap ((k : Int) + 1) = (k : Int) + 1 := by rw [IntKind.wrap_i64]; have := HW2.out; omega
      have HLT : Hid (k < D.wait.length) := by show _ < _; rw [← HNW.out]; exact hlt
      obtain ⟨hmem, htk⟩ := getD_memW HLT.out
      obtain ⟨p, HPP⟩ : ∃ p, Hid (p = D.wait.getD k (0, [])) := ⟨_, rfl⟩
      rw [← HPP.out] at hmem htk
      have HTK : Hid (dumpW D.safe (D.wait.take (k + 1)) = layD (dumpW D.safe (D.wait.take k)) p.1 p.2 64) := by show _ = _; rw [htk, dumpW_snoc]
      have HDL : Hid ((dumpW D.safe (D.wait.take k)).length = ns) := by
        show _ = _
        rw [len_dumpW _ _ HOK.out.size.1 (fun q hq => HOK.out.wait q (List.mem_of_mem_take hq)), ← HOK.out.size.1, HNS.out]
      have HPB : Hid (64 * p.1 + 64 ≤ ns ∧ ns ≤ 1048576 ∧ p.2.length = 64) := by
        have h1 := HOK.out.wait p hmem
        have h2 := HOK.out.size
        have h3 := HNS.out
        exact ⟨by omega, by omega, h1.2⟩
      have hwt := (HS.out.below HBW.out).wt.now
      obtain ⟨b, off, rfl, hat⟩ := hwt.at (Nat.lt_of_le_of_lt (Nat.zero_le _) HLT.out)
      obtain ⟨vj, hc1, hc2, hrj⟩ := hat k HLT.out
      rw [← HPP.out] at hc1 hrj
      obtain ⟨aj, nj, cj, hvj⟩ := hrj.form
      subst hvj
      have HRG : Hid (wr.rangeAt b (off + k * 2) [.int .i64 (p.1 : Int), .slice aj nj cj]) := range2 hc1 hc2
      have HCC : Hid (Calls Try.prog 31 #[.slice xa ns xc, .agg #[.int .i64 (p.1 : Int), .slice aj nj cj], .int .i64 64] wr fun r w' => ∃ v', r = .returned v' ∧ OwnB w' wr.heap.size v' (layD (dumpW D.safe (D.wait.take k)) p.1 p.2 64) ∧ Below wr.heap.size wr w') := rdLaid_any _ _ _ p.2 p.1 64 wr HI.out.now hrj (by rw [HDL.out]; have := HPB.out; omega) (by rw [HDL.out]; exact HPB.out.1) (by rw [HPB.out.2.2]; exact Nat.le_refl _)
      clear hmem htk hwt hat hc1 hc2 hrj
      have tk1 : Hid True := trivial
      have tk2 : Hid True := trivial
      go_wp2_with (first
        | (clear tk1; with_reducible refine wpSeq_loadW 51 (.tmp 18) b (off + k * 2) [.int .i64 (p.1 : Int), .slice aj nj cj] _ ?_ Try.underlying51 rfl ?_ ?_ ?_ ?_ ?_
           · exact HRG.out
           · exact info_rw _ _
           · rfl
           · rfl
           · rfl)
        | (clear tk2; go_at_call 31; refine (HCC.out).mono ?_; rintro e0 y5 ⟨v5, rfl, ho5, hb5⟩
           have hl5 : (layD (dumpW D.safe (D.wait.take k)) p.1 p.2 64).length = ns := by rw [len_layD (by rw [HDL.out]; exact HPB.out.1) (by rw [HPB.out.2.2]; exact Nat.le_refl _), HDL.out]
           obtain ⟨xa5, xc5, hv5, hq⟩ := id ho5.reads
           clear hq
           rw [hl5] at hv5
           subst hv5
           have HI5 : Hid (Sta P y5 (fun W => Reads W (.slice xa5 ns xc5) (dumpW D.safe (D.wait.take (k + 1))))) := by rw [HTK.out]; exact ho5.st (fun j hj => Nat.lt_of_lt_of_le (HPL.out j hj) HBW.out.size)
           have HG5 : Hid (Blk y5 g1 [.slice ad ns cs, .slice (some ⟨b, off, none⟩) nw cw, .int .i64 lf, .bool dn] 27) := HG1.out.below hb5 HG1.out.lt
           have HB5 : Hid (Below w.heap.size w y5) := HBW.out.trans (hb5.mono HBW.out.size)
           clear ho5 hb5 hl5 c1))
      go_roundw
      case rel => exact ⟨k + 1, _, _, by omega, by simp, rfl, HI5, HG5, HB5⟩
      case measure => simp [intOf]; omega
end Go.Proofs.Ytdllnedmhhajnaa

/- Texts that the proof leans on, one behind the other: The walk of the reference's Follow (layer 11). The walk of the reference's Walk (layer 11). The walk of the reference's Seal (layer 11). .. -/
import Derived.Test.YtableajopaappaaDoorMgb
import Derived.Deep.CutRange
import Derived.Deep.DeepCutAuto
import Derived.Shelf.Spec.SlicesInsertGrow
import Derived.Defers
import Derived.Recover
import Derived.Laws.Pointers
import Derived.Lib.ConvBytes
import Derived.BigQuiet
/- The walk of the reference's Follow (layer 11). -/
namespace Go.Proofs.YtableajopaappaaDoor
open Go.RowKit Go.Shelf
set_option maxRecDepth 100000
theorem Only.still {g : Nat} {w w1 w2 : World} (h : Only g w w1) (hb : Below w1.heap.size w1 w2) : Only g w w2 :=
  ⟨hb.os.trans h.os, hb.tape.trans h.tape, hb.output.trans h.output, Nat.le_trans h.size hb.size, fun k hk hlt => by rw [hb.block k (Nat.lt_of_lt_of_le hlt h.size), h.block k hk hlt]⟩
theorem HdAt.over {y0 wx : World} {b off : Nat} {h : HdT} (r : HdAt y0 b off h) (hx : Over y0 wx) : HdAt wx b off h := r.below hx (Nat.le_refl _)
theorem SgAt.over {y0 wx : World} {b off : Nat} {s : SgT} {vs : Value} (r : SgAt y0 b off s vs) (hx : Over y0 wx) : SgAt wx b off s vs := r.below hx (Nat.le_refl _)
theorem rangeAt_only {w w' : World} {b off g : Nat} {cs : List Value} (h : w.rangeAt b off cs) (ho : Only g w w') (hne : b ≠ g) : w'.rangeAt b off cs := fun j v hj => ho.cell (p := ⟨b, off + j, none⟩) hne (h j v hj)
theorem SgAt.only {y0 wx : World} {b off g : Nat} {s : SgT} {vs : Value} (r : SgAt y0 b off s vs) (hx : Only g y0 wx) (hne : b ≠ g) : SgAt wx b off s vs := ⟨rangeAt_only r.all hx hne, r.ok⟩
theorem HdAt.only {y0 wx : World} {b off g : Nat} {h : HdT} (r : HdAt y0 b off h) (hx : Only g y0 wx) (hne : b ≠ g) : HdAt wx b off h := ⟨rangeAt_only r.all hx hne, r.ok⟩
theorem loadDigAt {a : Act} {o : Oper} {w : World} (x : Operand) (b off : Nat) (l : List (BitVec 8)) (hl : l.length = 32) (hb : w.rangeAt b off (cb l)) (ho : o.op = .load 23 x) (hx : a.eval x = .pointer (some ⟨b, off, none⟩)) : (execOp a.eval o).run Tryd.prog w = .ok (.value (.agg (cb l).toArray)) w :=
  load_run 23 x ho b off hx (cb l) _ hb Tryd.underlying23 rfl (by rw [cb_len, hl]; exact info_digest)
theorem loadRtAt {a : Act} {o : Oper} {w : World} (x : Operand) (b off : Nat) (s : SgT) (os : okS s) (hb : w.rangeAt b off (rtC s)) (ho : o.op = .load 27 x) (hx : a.eval x = .pointer (some ⟨b, off, none⟩)) : (execOp a.eval o).run Tryd.prog w = .ok (.value (.agg (rtC s).toArray)) w :=
  load_run 27 x ho b off hx (rtC s) _ hb Tryd.underlying27 rfl (info_rtC os)
theorem loadSgAt {a : Act} {o : Oper} {w : World} (x : Operand) (b off : Nat) (s : SgT) (vs : Value) (r : SgAt w b off s vs) (ho : o.op = .load 30 x) (hx : a.eval x = .pointer (some ⟨b, off, none⟩)) : (execOp a.eval o).run Tryd.prog w = .ok (.value (.agg (sgC s vs).toArray)) w :=
  load_run 30 x ho b off hx (sgC s vs) _ r.all Tryd.underlying30 rfl (info_sgC r.ok vs)
theorem loadHdAt {a : Act} {o : Oper} {w : World} (x : Operand) (b off : Nat) (h : HdT) (r : HdAt w b off h) (ho : o.op = .load 50 x) (hx : a.eval x = .pointer (some ⟨b, off, none⟩)) : (execOp a.eval o).run Tryd.prog w = .ok (.value (.agg (hdC h).toArray)) w :=
  load_run 50 x ho b off hx (hdC h) _ r.all Tryd.underlying50 rfl (info_hdC r.ok)
set_option maxRecDepth 100000 in
set_option maxHeartbeats 8000000 in
theorem qcFollow_any (h : HdT) (s : SgT) (vs : Value) (w : World) (oh : okH h) (os : okS s) (hr : Reads w vs s.2) :
    Calls Tryd.prog 31 #[.agg (hdC h).toArray, .agg (sgC s vs).toArray] w fun e w' => e = .returned (.tuple #[.agg (hdC (followR h s).1).toArray, .int .i64 (followR h s).2]) ∧ Below w.heap.size w w' := by
  obtain ⟨ads, cps, hvs, hqs⟩ := id hr
  clear hqs
  obtain ⟨ns, HNS⟩ : ∃ n, Hid (n = s.2.length) := ⟨_, rfl⟩
  rw [← HNS.out] at hvs
  have HR : Hid (Reads w vs s.2) := hr
  subst hvs
  obtain ⟨ch, HCH⟩ : ∃ c, Hid (c = hdC h) := ⟨_, rfl⟩
  obtain ⟨csg, HCS⟩ : ∃ c, Hid (c = sgC s (.slice ads ns cps)) := ⟨_, rfl⟩
  obtain ⟨n, HNN⟩ : ∃ n, Hid (n = h.1) := ⟨_, rfl⟩
  obtain ⟨m, HMM⟩ : ∃ n, Hid (n = s.1.1) := ⟨_, rfl⟩
  rw [← HCH.out, ← HCS.out]
  have HOH : Hid (okH h) := oh
  have HOS : Hid (okS s) := os
  have HBW : Hid (Below w.heap.size w w) := Below.refl _ _
  have hm0 : (m : Int) < 18446744073709551616 := by have := os.2.2.2; rw [HMM.out]; omega
  clear oh os hr
  by_cases h64 : 64 ≤ n
  · have HFR : Hid (followR h s = (zeroH, 10)) := by show _ = _; unfold followR; rw [if_pos (Or.inl (by rw [← HNN.out]; exact h64))]
    have c64 : (64 : Int) ≤ (n : Int) := by omega
    have d64 : decide ((64 : Int) ≤ (n : Int)) = true := decide_eq_true c64
    clear hm0
    go_enter Tryd.func31, Tryd.ntmps31
    have tk0 : Hid True := trivial
    have tk1 : Hid True := trivial
    have tk2 : Hid True := trivial
    have tk3 : Hid True := trivial
    have tk4 : Hid True := trivial
    go_wp2_with (first
    | (clear tk0; with_reducible refine wpSeq_boxW 50 (.tmp 0) ch ?_ ?_ ?_ ?_
       · rfl
       · rfl
       · rfl
       intro g2 y1 nn
       have HG2 : Hid (Blk y1 g2 ch 50) := nn.blk
       replace HBW : Hid (Below w.heap.size w y1) := HBW.out.trans (nn.below.mono HBW.out.size)
       clear nn)
    | (clear tk1; with_reducible refine wpSeq_boxW 30 (.tmp 1) csg ?_ ?_ ?_ ?_
       · rfl
       · rfl
       · rfl
       intro g3 y2 nn
       replace HG2 : Hid (Blk y2 g2 ch 50) := HG2.out.below nn.below HG2.out.lt
       have HG3 : Hid (Blk y2 g3 csg 30) := nn.blk
       replace HBW : Hid (Below w.heap.size w y2) := HBW.out.trans (nn.below.mono HBW.out.size)
       clear nn)
    | (clear tk2; with_reducible refine wpSeq_allocH ?_ ?_ ?_
       · rfl
       · rfl
       intro g4 y3 nn
       have HN4 : Hid (g2 ≠ g4 ∧ g3 ≠ g4 ∧ w.heap.size ≤ g4) := by have h1 := HG2.out.lt; have h2 := HG3.out.lt; have h3 := nn.ge; have h4 := HBW.out.size; exact ⟨by omega, by omega, by omega⟩
       replace HG2 : Hid (Blk y3 g2 ch 50) := HG2.out.below nn.below HG2.out.lt
       replace HG3 : Hid (Blk y3 g3 csg 30) := HG3.out.below nn.below HG3.out.lt
       have HG4 : Hid (Blk y3 g4 (hdC zeroH) 50) := nn.blk
       replace HBW : Hid (Below w.heap.size w y3) := HBW.out.trans (nn.below.mono HBW.out.size)
       have ce : y3.cell? ⟨g2, 0, none⟩ = some (.int .u64 (n : Int)) := by have := HG2.out.cell 0; rw [HCH.out] at this; rw [HNN.out]; exact this
       have cm : y3.cell? ⟨g3, 0, none⟩ = some (.int .u64 (m : Int)) := by have := HG3.out.cell 0; rw [HCS.out] at this; rw [HMM.out]; exact this
       clear nn)
    | (clear tk3; with_reducible refine wpSeq_build 50 [] (hdC zeroH) ?_ ?_ ?_ ?_
       · exact built_head []
       · rfl
       · rfl)
    | (clear tk4; with_reducible refine wpSeq_storeRow 50 (.tmp 4) (.tmp 18) g4 (hdC zeroH) (hdC zeroH) ?_ ?_ ?_ ?_ ?_ ?_ ?_ ?_ ?_
       · exact HG4.out
       · rfl
       · exact info_hdC okH_zero
       · exact hdC_one _
       · rfl
       · rfl
       · rfl
       · rfl
       intro y4 hs))
    exact bodyPost_ret (results_row_tmp (by rfl) _ _ g4 _ rfl (var_hd hs.blk okH_zero)) rfl ⟨by rw [HFR.out]; rfl, HBW.out.trans (hs.only.below HN4.out.2.2 HBW.out.size)⟩
  have hn64 : n < 64 := by omega
  have c64 : ¬ ((64 : Int) ≤ (n : Int)) := by omega
  have d64 : decide ((64 : Int) ≤ (n : Int)) = false := decide_eq_false c64
  have f1 : IntKind.u64.wrap ((n : Int) + 1) = (n : Int) + 1 := by rw [IntKind.wrap_u64]; omega
  by_cases hep : m = n + 1
  case neg =>
    have HFR : Hid (followR h s = (zeroH, 10)) := by show _ = _; unfold followR; rw [if_pos (Or.inr (by rw [← HNN.out, ← HMM.out]; exact hep))]
    have e1 : ((m : Int) == (n : Int) + 1) = false := by rw [beq_eq_false_iff_ne]; omega
    have e2 : ((m : Int) != (n : Int) + 1) = true := by rw [bne, e1]; rfl
    clear hm0 hep h64
    go_enter Tryd.func31, Tryd.ntmps31
    have tk0 : Hid True := trivial
    have tk1 : Hid True := trivial
    have tk2 : Hid True := trivial
    have tk3 : Hid True := trivial
    have tk4 : Hid True := trivial
    go_wp2_with (first
    | (clear tk0; with_reducible refine wpSeq_boxW 50 (.tmp 0) ch ?_ ?_ ?_ ?_
       · rfl
       · rfl
       · rfl
       intro g2 y1 nn
       have HG2 : Hid (Blk y1 g2 ch 50) := nn.blk
       replace HBW : Hid (Below w.heap.size w y1) := HBW.out.trans (nn.below.mono HBW.out.size)
       clear nn)
    | (clear tk1; with_reducible refine wpSeq_boxW 30 (.tmp 1) csg ?_ ?_ ?_ ?_
       · rfl
       · rfl
       · rfl
       intro g3 y2 nn
       replace HG2 : Hid (Blk y2 g2 ch 50) := HG2.out.below nn.below HG2.out.lt
       have HG3 : Hid (Blk y2 g3 csg 30) := nn.blk
       replace HBW : Hid (Below w.heap.size w y2) := HBW.out.trans (nn.below.mono HBW.out.size)
       clear nn)
    | (clear tk2; with_reducible refine wpSeq_allocH ?_ ?_ ?_
       · rfl
       · rfl
       intro g4 y3 nn
       have HN4 : Hid (g2 ≠ g4 ∧ g3 ≠ g4 ∧ w.heap.size ≤ g4) := by have h1 := HG2.out.lt; have h2 := HG3.out.lt; have h3 := nn.ge; have h4 := HBW.out.size; exact ⟨by omega, by omega, by omega⟩
       replace HG2 : Hid (Blk y3 g2 ch 50) := HG2.out.below nn.below HG2.out.lt
       replace HG3 : Hid (Blk y3 g3 csg 30) := HG3.out.below nn.below HG3.out.lt
       have HG4 : Hid (Blk y3 g4 (hdC zeroH) 50) := nn.blk
       replace HBW : Hid (Below w.heap.size w y3) := HBW.out.trans (nn.below.mono HBW.out.size)
       have ce : y3.cell? ⟨g2, 0, none⟩ = some (.int .u64 (n : Int)) := by have := HG2.out.cell 0; rw [HCH.out] at this; rw [HNN.out]; exact this
       have cm : y3.cell? ⟨g3, 0, none⟩ = some (.int .u64 (m : Int)) := by have := HG3.out.cell 0; rw [HCS.out] at this; rw [HMM.out]; exact this
       clear nn)
    | (clear tk3; with_reducible refine wpSeq_build 50 [] (hdC zeroH) ?_ ?_ ?_ ?_
       · exact built_head []
       · rfl
       · rfl)
    | (clear tk4; with_reducible refine wpSeq_storeRow 50 (.tmp 4) (.tmp 18) g4 (hdC zeroH) (hdC zeroH) ?_ ?_ ?_ ?_ ?_ ?_ ?_ ?_ ?_
       · exact HG4.out
       · rfl
       · exact info_hdC okH_zero
       · exact hdC_one _
       · rfl
       · rfl
       · rfl
       · rfl
       intro y4 hs))
    exact bodyPost_ret (results_row_tmp (by rfl) _ _ g4 _ rfl (var_hd hs.blk okH_zero)) rfl ⟨by rw [HFR.out]; rfl, HBW.out.trans (hs.only.below HN4.out.2.2 HBW.out.size)⟩
  case pos =>
    have e1 : ((m : Int) == (n : Int) + 1) = true := by rw [beq_iff_eq]; omega
    have e2 : ((m : Int) != (n : Int) + 1) = false := by rw [bne, e1]; rfl
    have HEP : Hid (¬ (64 ≤ h.1 ∨ s.1.1 ≠ h.1 + 1)) := by show ¬ _; rw [← HNN.out, ← HMM.out]; rintro (h1 | h1); exact h64 h1; exact h1 hep
    obtain ⟨pv, HPV⟩ : ∃ c, Hid (c = s.1.2.1) := ⟨_, rfl⟩
    obtain ⟨nx, HNX⟩ : ∃ c, Hid (c = s.1.2.2.2) := ⟨_, rfl⟩
    obtain ⟨hr0, HHR⟩ : ∃ c, Hid (c = h.2.1) := ⟨_, rfl⟩
    obtain ⟨ky, HKY⟩ : ∃ c, Hid (c = h.2.2) := ⟨_, rfl⟩
    have HLN : Hid (pv.length = 32 ∧ nx.length = 32 ∧ hr0.length = 32 ∧ ky.length = 32) := by rw [HPV.out, HNX.out, HHR.out, HKY.out]; exact ⟨HOS.out.1, HOS.out.2.2.1, HOH.out.1, HOH.out.2.1⟩
    obtain ⟨o, HO⟩ : ∃ o, Hid (o = decide (pv = hr0)) := ⟨_, rfl⟩
    have heq : ∀ wx : World, (Op.equalIn 10000 23 (.agg (cb pv).toArray) (.agg (cb hr0).toArray)).run Tryd.prog wx = .ok o wx := fun wx => by rw [HO.out]; exact eq_dig pv hr0 HLN.out.1 HLN.out.2.2.1 wx
    obtain ⟨rt, HRT⟩ : ∃ c, Hid (c = rtC s) := ⟨_, rfl⟩
    obtain ⟨rb, HRB⟩ : ∃ c, Hid (c = rbS s) := ⟨_, rfl⟩
    have HLB : Hid (rb.length = 105) := by show _ = _; rw [HRB.out]; exact len_rbS HOS.out
    obtain ⟨dg, HDG⟩ : ∃ c, Hid (c = dig rb) := ⟨_, rfl⟩
    have HDL : Hid (dg.length = 32) := by show _ = _; rw [HDG.out]; exact len_dig' _
    obtain ⟨ck, HCK⟩ : ∃ c, Hid (c = checkE ky rb s.2) := ⟨_, rfl⟩
    have HC1 : Hid (∀ W : World, Below w.heap.size w W → Calls Tryd.prog 27 #[.agg rt.toArray] W fun e w' => ∃ v, e = .returned v ∧ Reads w' v rb ∧ Below W.heap.size W w') := fun W hh => by rw [HRT.out, HRB.out]; exact rRoot_any _ _ _ _ W ⟨HOS.out.1, HOS.out.2.1, HOS.out.2.2.1, HOS.out.2.2.2⟩
    have HC2 : Hid (∀ (W : World) (v : Value), Below w.heap.size w W → Reads W v rb → Calls Tryd.prog 55 #[.agg (cb ky).toArray, v, .slice ads ns cps] W fun e w' => e = .returned (.int .i64 ck) ∧ Below W.heap.size W w') := fun W v hh hv => by rw [HCK.out]; exact qlCheck_any ky v _ rb s.2 W HLN.out.2.2.2 hv (HR.out.below hh) (by rw [HLB.out]; decide)
    have HC3 : Hid (∀ W : World, Below w.heap.size w W → Calls Tryd.prog 47 #[.agg rt.toArray] W fun e w' => e = .returned (.agg (cb dg).toArray) ∧ Below W.heap.size W w') := fun W hh => by rw [HRT.out, HDG.out, HRB.out]; exact hRoot_any _ _ _ _ W ⟨HOS.out.1, HOS.out.2.1, HOS.out.2.2.1, HOS.out.2.2.2⟩
    have HFR : Hid (followR h s = if o = true ∧ ck = 0 then ((m, dg, nx), 0) else (zeroH, 15)) := by
      show _ = _
      unfold followR
      rw [if_neg HEP.out, HMM.out, HDG.out, HNX.out, HRB.out, HCK.out, HRB.out, HKY.out, HO.out, HPV.out, HHR.out]
      by_cases q1 : s.1.2.1 = h.2.1
      · by_cases q2 : checkE h.2.2 (rbS s) s.2 = 0
        · rw [if_neg (by rintro (k | k); exact k q1; exact k q2), if_pos ⟨decide_eq_true q1, q2⟩]
        · rw [if_pos (Or.inr q2), if_neg (fun k => q2 k.2)]
      · rw [if_pos (Or.inl q1), if_neg (fun k => q1 (of_decide_eq_true k.1))]
    have HTC : Hid (∀ (W : World) (g : Nat), Blk W g ch 50 → HdAt W g 0 h) := fun W g hg => by rw [HCH.out] at hg; exact hg.hdAt HOH.out
    have HTS : Hid (∀ (W : World) (g : Nat), Blk W g csg 30 → SgAt W g 0 s (.slice ads ns cps)) := fun W g hg => by rw [HCS.out] at hg; exact hg.sgAt HOS.out
    clear hep h64 hm0 HEP HO HDG HCK HRB
    go_enter Tryd.func31, Tryd.ntmps31
    have tk0 : Hid True := trivial
    have tk1 : Hid True := trivial
    have tk2 : Hid True := trivial
    go_wp2_with (first
    | (clear tk0; with_reducible refine wpSeq_boxW 50 (.tmp 0) ch ?_ ?_ ?_ ?_
       · rfl
       · rfl
       · rfl
       intro g2 y1 nn
       have HG2 : Hid (Blk y1 g2 ch 50) := nn.blk
       replace HBW : Hid (Below w.heap.size w y1) := HBW.out.trans (nn.below.mono HBW.out.size)
       clear nn)
    | (clear tk1; with_reducible refine wpSeq_boxW 30 (.tmp 1) csg ?_ ?_ ?_ ?_
       · rfl
       · rfl
       · rfl
       intro g3 y2 nn
       replace HG2 : Hid (Blk y2 g2 ch 50) := HG2.out.below nn.below HG2.out.lt
       have HG3 : Hid (Blk y2 g3 csg 30) := nn.blk
       replace HBW : Hid (Below w.heap.size w y2) := HBW.out.trans (nn.below.mono HBW.out.size)
       clear nn)
    | (clear tk2; with_reducible refine wpSeq_allocH ?_ ?_ ?_
       · rfl
       · rfl
       intro g4 y3 nn
       have HN4 : Hid (g2 ≠ g4 ∧ g3 ≠ g4 ∧ w.heap.size ≤ g4) := by have h1 := HG2.out.lt; have h2 := HG3.out.lt; have h3 := nn.ge; have h4 := HBW.out.size; exact ⟨by omega, by omega, by omega⟩
       replace HG2 : Hid (Blk y3 g2 ch 50) := HG2.out.below nn.below HG2.out.lt
       replace HG3 : Hid (Blk y3 g3 csg 30) := HG3.out.below nn.below HG3.out.lt
       have HG4 : Hid (Blk y3 g4 (hdC zeroH) 50) := nn.blk
       replace HBW : Hid (Below w.heap.size w y3) := HBW.out.trans (nn.below.mono HBW.out.size)
       have ce : y3.cell? ⟨g2, 0, none⟩ = some (.int .u64 (n : Int)) := by have := HG2.out.cell 0; rw [HCH.out] at this; rw [HNN.out]; exact this
       have cm : y3.cell? ⟨g3, 0, none⟩ = some (.int .u64 (m : Int)) := by have := HG3.out.cell 0; rw [HCS.out] at this; rw [HMM.out]; exact this
       clear nn))
    clear ce cm
    refine wp_region_held_drew (S := Over (World.drew y3)) (by kernel_rfl) (Over.refl _) ?_
    intro hS
    replace HG2 : Hid (Blk (World.drew y3) g2 ch 50) := HG2.out.drew
    replace HG3 : Hid (Blk (World.drew y3) g3 csg 30) := HG3.out.drew
    replace HG4 : Hid (Blk (World.drew y3) g4 (hdC zeroH) 50) := HG4.out.drew
    replace HBW : Hid (Below w.heap.size w (World.drew y3)) := HBW.out.drew
    change wpAnyH _ _ _ _ _ _ _ _ (World.drew y3)
    generalize World.drew y3 = y0 at *
    have HHA : Hid (HdAt y0 g2 0 h) := HTC.out _ _ HG2.out
    have HSA : Hid (SgAt y0 g3 0 s (.slice ads ns cps)) := HTS.out _ _ HG3.out
    try simp only [Act.put, List.setIfInBounds_toArray, List.set_cons_zero, List.set_cons_succ]
    refine wpAnyH_take (i := 0) (v := .pointer (some ⟨g3, 0, none⟩)) rfl (by kernel_rfl) (by kernel_rfl) (by kernel_rfl) (fun _ _ _ h => h) (Or.inl ⟨by rfl, fun wx hx => by simp [go_sem]⟩) hS ?_
    simp only [Act.put, List.getElem_toArray, List.getElem_cons_zero, List.setIfInBounds_toArray, List.set_cons_zero, List.set_cons_succ]
    refine wpAnyH_take (i := 1) (v := .pointer (some ⟨g3, 1, none⟩)) rfl (by kernel_rfl) (by kernel_rfl) (by kernel_rfl) (fun _ _ _ h => h) (Or.inl ⟨by rfl, fun wx hx => by simp [go_sem]⟩) hS ?_
    simp only [Act.put, List.getElem_toArray, List.getElem_cons_succ, List.getElem_cons_zero, List.setIfInBounds_toArray, List.set_cons_zero, List.set_cons_succ]
    refine wpAnyH_take (i := 2) (v := .agg (cb pv).toArray) rfl (by kernel_rfl) (by kernel_rfl) (by kernel_rfl) (fun _ _ _ h => h) (Or.inl ⟨by rfl, fun wx hx => by exact loadDigAt _ g3 1 pv HLN.out.1 (by rw [HPV.out]; exact (HSA.out.over hx).prev) rfl rfl⟩) hS ?_
    simp only [Act.put, List.getElem_toArray, List.getElem_cons_succ, List.getElem_cons_zero, List.setIfInBounds_toArray, List.set_cons_zero, List.set_cons_succ]
    refine wpAnyH_take (i := 3) (v := .pointer (some ⟨g2, 1, none⟩)) rfl (by kernel_rfl) (by kernel_rfl) (by kernel_rfl) (fun _ _ _ h => h) (Or.inl ⟨by rfl, fun wx hx => by simp [go_sem]⟩) hS ?_
    simp only [Act.put, List.getElem_toArray, List.getElem_cons_succ, List.getElem_cons_zero, List.setIfInBounds_toArray, List.set_cons_zero, List.set_cons_succ]
    refine wpAnyH_take (i := 4) (v := .agg (cb hr0).toArray) rfl (by kernel_rfl) (by kernel_rfl) (by kernel_rfl) (fun _ _ _ h => h) (Or.inl ⟨by rfl, fun wx hx => by exact loadDigAt _ g2 1 hr0 HLN.out.2.2.1 (by rw [HHR.out]; exact (HHA.out.over hx).rt) rfl rfl⟩) hS ?_
    simp only [Act.put, List.getElem_toArray, List.getElem_cons_succ, List.getElem_cons_zero, List.setIfInBounds_toArray, List.set_cons_zero, List.set_cons_succ]
    refine wpAnyH_take (i := 5) (v := .bool (!o)) rfl (by kernel_rfl) (by kernel_rfl) (by kernel_rfl) (fun _ _ _ h => h) (Or.inl ⟨by rfl, fun wx hx => by simp [go_sem, heq]⟩) hS ?_
    simp only [Act.put, List.getElem_toArray, List.getElem_cons_succ, List.getElem_cons_zero, List.setIfInBounds_toArray, List.set_cons_zero, List.set_cons_succ]
    refine wpAnyH_take (i := 6) (v := .bool (!o)) rfl (by kernel_rfl) (by kernel_rfl) (by kernel_rfl) (fun _ _ _ h => h) (Or.inl ⟨by rfl, fun wx hx => by simp [go_sem]⟩) hS ?_
    simp only [Act.put, List.getElem_toArray, List.getElem_cons_succ, List.getElem_cons_zero, List.setIfInBounds_toArray, List.set_cons_zero, List.set_cons_succ]
    cases o with
    | false =>
      simp only [Bool.not_false]
      refine wpAnyH_take (i := 7) (v := undef) rfl (by kernel_rfl) (by kernel_rfl) (by kernel_rfl) (fun _ _ _ h => h) (Or.inr ⟨by rfl, rfl⟩) hS ?_
      simp only [Act.put, List.getElem_toArray, List.getElem_cons_succ, List.getElem_cons_zero, List.setIfInBounds_toArray, List.set_cons_zero, List.set_cons_succ]
      refine wpAnyH_take (i := 8) (v := undef) rfl (by kernel_rfl) (by kernel_rfl) (by kernel_rfl) (fun _ _ _ h => h) (Or.inr ⟨by rfl, rfl⟩) hS ?_
      simp only [Act.put, List.getElem_toArray, List.getElem_cons_succ, List.getElem_cons_zero, List.setIfInBounds_toArray, List.set_cons_zero, List.set_cons_succ]
      refine wpAnyH_take (i := 9) (v := undef) rfl (by kernel_rfl) (by kernel_rfl) (by kernel_rfl) (fun _ _ _ h => h) (Or.inr ⟨by rfl, rfl⟩) hS ?_
      simp only [Act.put, List.getElem_toArray, List.getElem_cons_succ, List.getElem_cons_zero, List.setIfInBounds_toArray, List.set_cons_zero, List.set_cons_succ]
      refine wpAnyH_take (i := 10) (v := undef) rfl (by kernel_rfl) (by kernel_rfl) (by kernel_rfl) (fun _ _ _ h => h) (Or.inr ⟨by rfl, rfl⟩) hS ?_
      simp only [Act.put, List.getElem_toArray, List.getElem_cons_succ, List.getElem_cons_zero, List.setIfInBounds_toArray, List.set_cons_zero, List.set_cons_succ]
      refine wpAnyH_take (i := 11) (v := undef) rfl (by kernel_rfl) (by kernel_rfl) (by kernel_rfl) (fun _ _ _ h => h) (Or.inr ⟨by rfl, rfl⟩) hS ?_
      simp only [Act.put, List.getElem_toArray, List.getElem_cons_succ, List.getElem_cons_zero, List.setIfInBounds_toArray, List.set_cons_zero, List.set_cons_succ]
      refine wpAnyH_take (i := 12) (v := undef) rfl (by kernel_rfl) (by kernel_rfl) (by kernel_rfl) (fun _ _ _ h => h) (Or.inr ⟨by rfl, rfl⟩) hS ?_
      simp only [Act.put, List.getElem_toArray, List.getElem_cons_succ, List.getElem_cons_zero, List.setIfInBounds_toArray, List.set_cons_zero, List.set_cons_succ]
      refine wpAnyH_take (i := 13) (v := undef) rfl (by kernel_rfl) (by kernel_rfl) (by kernel_rfl) (fun _ _ _ h => h) (Or.inr ⟨by rfl, rfl⟩) hS ?_
      simp only [Act.put, List.getElem_toArray, List.getElem_cons_succ, List.getElem_cons_zero, List.setIfInBounds_toArray, List.set_cons_zero, List.set_cons_succ]
      refine wpAnyH_take (i := 14) (v := undef) rfl (by kernel_rfl) (by kernel_rfl) (by kernel_rfl) (fun _ _ _ h => h) (Or.inr ⟨by rfl, rfl⟩) hS ?_
      simp only [Act.put, List.getElem_toArray, List.getElem_cons_succ, List.getElem_cons_zero, List.setIfInBounds_toArray, List.set_cons_zero, List.set_cons_succ]
      refine wpAnyH_take (i := 15) (v := undef) rfl (by kernel_rfl) (by kernel_rfl) (by kernel_rfl) (fun _ _ _ h => h) (Or.inr ⟨by rfl, rfl⟩) hS ?_
      simp only [Act.put, List.getElem_toArray, List.getElem_cons_succ, List.getElem_cons_zero, List.setIfInBounds_toArray, List.set_cons_zero, List.set_cons_succ]
      refine wpAnyH_take (i := 16) (v := .bool true) rfl (by kernel_rfl) (by kernel_rfl) (by kernel_rfl) (fun _ _ _ h => h) (Or.inl ⟨by rfl, fun wx hx => by simp [go_sem]⟩) hS ?_
      simp only [Act.put, List.getElem_toArray, List.getElem_cons_succ, List.getElem_cons_zero, List.setIfInBounds_toArray, List.set_cons_zero, List.set_cons_succ]
      refine wpAnyH_done (by kernel_rfl) ?_ _
      replace HBW : Hid (Below w.heap.size w y0) := HBW.out.trans (Below.mono hS HBW.out.size)
      replace HG4 : Hid (Blk y0 g4 (hdC zeroH) 50) := HG4.out.below hS HG4.out.lt
      have tk3 : Hid True := trivial
      have tk4 : Hid True := trivial
      go_wp2_with (first
      | (clear tk3; with_reducible refine wpSeq_build 50 [] (hdC zeroH) ?_ ?_ ?_ ?_
         · exact built_head []
         · rfl
         · rfl)
      | (clear tk4; with_reducible refine wpSeq_storeRow 50 (.tmp 4) (.tmp 36) g4 (hdC zeroH) (hdC zeroH) ?_ ?_ ?_ ?_ ?_ ?_ ?_ ?_ ?_
         · exact HG4.out
         · rfl
         · exact info_hdC okH_zero
         · exact hdC_one _
         · rfl
         · rfl
         · rfl
         · rfl
         intro y4 hs))
      exact bodyPost_ret (results_row_tmp (by rfl) _ _ g4 _ rfl (var_hd hs.blk okH_zero)) rfl ⟨by rw [HFR.out, if_neg (fun k => by cases k.1)]; rfl, HBW.out.trans (hs.only.below HN4.out.2.2 HBW.out.size)⟩
    | true =>
      simp only [Bool.not_true]
      refine wpAnyH_take (i := 7) (v := .pointer (some ⟨g2, 33, none⟩)) rfl (by kernel_rfl) (by kernel_rfl) (by kernel_rfl) (fun _ _ _ h => h) (Or.inl ⟨by rfl, fun wx hx => by simp [go_sem]⟩) hS ?_
      simp only [Act.put, List.getElem_toArray, List.getElem_cons_succ, List.getElem_cons_zero, List.setIfInBounds_toArray, List.set_cons_zero, List.set_cons_succ]
      refine wpAnyH_take (i := 8) (v := .agg (cb ky).toArray) rfl (by kernel_rfl) (by kernel_rfl) (by kernel_rfl) (fun _ _ _ h => h) (Or.inl ⟨by rfl, fun wx hx => by exact loadDigAt _ g2 33 ky HLN.out.2.2.2 (by rw [HKY.out]; exact (HHA.out.over hx).ky) rfl rfl⟩) hS ?_
      simp only [Act.put, List.getElem_toArray, List.getElem_cons_succ, List.getElem_cons_zero, List.setIfInBounds_toArray, List.set_cons_zero, List.set_cons_succ]
      refine wpAnyH_take (i := 9) (v := .pointer (some ⟨g3, 0, none⟩)) rfl (by kernel_rfl) (by kernel_rfl) (by kernel_rfl) (fun _ _ _ h => h) (Or.inl ⟨by rfl, fun wx hx => by simp [go_sem]⟩) hS ?_
      simp only [Act.put, List.getElem_toArray, List.getElem_cons_succ, List.getElem_cons_zero, List.setIfInBounds_toArray, List.set_cons_zero, List.set_cons_succ]
      refine wpAnyH_take (i := 10) (v := .agg rt.toArray) rfl (by kernel_rfl) (by kernel_rfl) (by kernel_rfl) (fun _ _ _ h => h) (Or.inl ⟨by rfl, fun wx hx => by rw [HRT.out]; exact loadRtAt _ g3 0 s HOS.out (HSA.out.over hx).root rfl rfl⟩) hS ?_
      simp only [Act.put, List.getElem_toArray, List.getElem_cons_succ, List.getElem_cons_zero, List.setIfInBounds_toArray, List.set_cons_zero, List.set_cons_succ]
      refine wpAnyH_take (i := 12) (v := .pointer (some ⟨g3, 97, none⟩)) rfl (by kernel_rfl) (by kernel_rfl) (by kernel_rfl) (fun _ _ _ h => h) (Or.inl ⟨by rfl, fun wx hx => by simp [go_sem]⟩) hS ?_
      simp only [Act.put, List.getElem_toArray, List.getElem_cons_succ, List.getElem_cons_zero, List.setIfInBounds_toArray, List.set_cons_zero, List.set_cons_succ]
      refine wpAnyH_take (i := 13) (v := .slice ads ns cps) rfl (by kernel_rfl) (by kernel_rfl) (by kernel_rfl) (fun _ _ _ h => h) (Or.inl ⟨by rfl, fun wx hx => by (have cv : wx.cell? ⟨g3, 97, none⟩ = some (.slice ads ns cps) := by have := (HSA.out.over hx).sig; rwa [Nat.zero_add] at this); simp [go_sem, cv]⟩) hS ?_
      simp only [Act.put, List.getElem_toArray, List.getElem_cons_succ, List.getElem_cons_zero, List.setIfInBounds_toArray, List.set_cons_zero, List.set_cons_succ]
      refine wpAnyH_enter 11 (by kernel_rfl) rfl (by rfl) (f := 27) (args := #[.agg rt.toArray]) (by simp [go_sem]) (HC1.out _ (HBW.out.trans (Below.mono hS HBW.out.size))) ?_
      rintro e y5 ⟨vb, rfl, hvb, hbq⟩
      replace hS := Over.more hS hbq
      refine ⟨_, rfl, hS, ?_⟩
      clear hbq
      simp only [Act.put, List.getElem_toArray, List.getElem_cons_succ, List.getElem_cons_zero, List.setIfInBounds_toArray, List.set_cons_zero, List.set_cons_succ]
      refine wpAnyH_enter 14 (by kernel_rfl) rfl (by rfl) (f := 55) (args := #[.agg (cb ky).toArray, vb, .slice ads ns cps]) (by simp [go_sem]) (HC2.out _ vb (HBW.out.trans (Below.mono hS HBW.out.size)) hvb) ?_
      rintro e y6 ⟨rfl, hbq⟩
      replace hS := Over.more hS hbq
      refine ⟨_, rfl, hS, ?_⟩
      clear hbq
      simp only [Act.put, List.getElem_toArray, List.getElem_cons_succ, List.getElem_cons_zero, List.setIfInBounds_toArray, List.set_cons_zero, List.set_cons_succ]
      refine wpAnyH_take (i := 15) (v := .bool (ck != 0)) rfl (by kernel_rfl) (by kernel_rfl) (by kernel_rfl) (fun _ _ _ h => h) (Or.inl ⟨by rfl, fun wx hx => by simp [go_sem]⟩) hS ?_
      simp only [Act.put, List.getElem_toArray, List.getElem_cons_succ, List.getElem_cons_zero, List.setIfInBounds_toArray, List.set_cons_zero, List.set_cons_succ]
      refine wpAnyH_take (i := 16) (v := .bool (ck != 0)) rfl (by kernel_rfl) (by kernel_rfl) (by kernel_rfl) (fun _ _ _ h => h) (Or.inl ⟨by rfl, fun wx hx => by simp [go_sem]⟩) hS ?_
      simp only [Act.put, List.getElem_toArray, List.getElem_cons_succ, List.getElem_cons_zero, List.setIfInBounds_toArray, List.set_cons_zero, List.set_cons_succ]
      by_cases hck : ck = 0
      case neg =>
        have k1 : (ck == 0) = false := by rw [beq_eq_false_iff_ne]; exact hck
        have k2 : (ck != 0) = true := by rw [bne, k1]; rfl
        simp only [k2]
        refine wpAnyH_done (by kernel_rfl) ?_ _
        replace HBW : Hid (Below w.heap.size w y6) := HBW.out.trans (Below.mono hS HBW.out.size)
        replace HG4 : Hid (Blk y6 g4 (hdC zeroH) 50) := HG4.out.below hS HG4.out.lt
        have tk3 : Hid True := trivial
        have tk4 : Hid True := trivial
        go_wp2_with (first
        | (clear tk3; with_reducible refine wpSeq_build 50 [] (hdC zeroH) ?_ ?_ ?_ ?_
           · exact built_head []
           · rfl
           · rfl)
        | (clear tk4; with_reducible refine wpSeq_storeRow 50 (.tmp 4) (.tmp 36) g4 (hdC zeroH) (hdC zeroH) ?_ ?_ ?_ ?_ ?_ ?_ ?_ ?_ ?_
           · exact HG4.out
           · rfl
           · exact info_hdC okH_zero
           · exact hdC_one _
           · rfl
           · rfl
           · rfl
           · rfl
           intro y4 hs))
        exact bodyPost_ret (results_row_tmp (by rfl) _ _ g4 _ rfl (var_hd hs.blk okH_zero)) rfl ⟨by rw [HFR.out, if_neg (fun k => hck k.2)]; rfl, HBW.out.trans (hs.only.below HN4.out.2.2 HBW.out.size)⟩
      case pos =>
        have k1 : (ck == 0) = true := by rw [beq_iff_eq]; exact hck
        have k2 : (ck != 0) = false := by rw [bne, k1]; rfl
        simp only [k2]
        have HKK : Hid (ck = 0) := hck
        have HOK : Hid (okH (m, dg, nx)) := okH_mk HDL.out HLN.out.2.1 (by have := HOS.out.2.2.2; rw [HMM.out]; exact this)
        clear hck k1 k2
        refine wpAnyH_done (by kernel_rfl) ?_ _
        replace HBW : Hid (Below w.heap.size w y6) := HBW.out.trans (Below.mono hS HBW.out.size)
        replace HG4 : Hid (Blk y6 g4 (hdC zeroH) 50) := HG4.out.below hS HG4.out.lt
        replace HSA : Hid (SgAt y6 g3 0 s (.slice ads ns cps)) := HSA.out.over hS
        clear hS hvb HG2 HG3 HHA
        go_wp2
        refine wp_region_held_drew (S := Only g4 (World.drew y6)) (by kernel_rfl) (Only.refl _ _) ?_
        intro hS
        replace HG4 : Hid (Blk (World.drew y6) g4 (hdC zeroH) 50) := HG4.out.drew
        replace HBW : Hid (Below w.heap.size w (World.drew y6)) := HBW.out.drew
        replace HSA : Hid (SgAt (World.drew y6) g3 0 s (.slice ads ns cps)) := ⟨HSA.out.all, HSA.out.ok⟩
        change wpAnyH _ _ _ _ _ _ _ _ (World.drew y6)
        generalize World.drew y6 = y7 at *
        try simp only [Act.put, List.setIfInBounds_toArray, List.set_cons_zero, List.set_cons_succ]
        refine wpAnyH_take (i := 0) (v := .pointer (some ⟨g3, 0, none⟩)) rfl (by kernel_rfl) (by kernel_rfl) (by kernel_rfl) (fun _ _ _ h => h) (Or.inl ⟨by rfl, fun wx hx => by simp [go_sem]⟩) hS ?_
        simp only [Act.put, List.getElem_toArray, List.getElem_cons_zero, List.setIfInBounds_toArray, List.set_cons_zero, List.set_cons_succ]
        refine wpAnyH_take (i := 1) (v := .pointer (some ⟨g3, 0, none⟩)) rfl (by kernel_rfl) (by kernel_rfl) (by kernel_rfl) (fun _ _ _ h => h) (Or.inl ⟨by rfl, fun wx hx => by simp [go_sem]⟩) hS ?_
        simp only [Act.put, List.getElem_toArray, List.getElem_cons_succ, List.getElem_cons_zero, List.setIfInBounds_toArray, List.set_cons_zero, List.set_cons_succ]
        refine wpAnyH_take (i := 2) (v := .int .u64 (m : Int)) rfl (by kernel_rfl) (by kernel_rfl) (by kernel_rfl) (fun _ _ _ h => h) (Or.inl ⟨by rfl, fun wx hx => by (have cm : wx.cell? ⟨g3, 0, none⟩ = some (.int .u64 (m : Int)) := by rw [HMM.out]; exact (HSA.out.only hx HN4.out.2.1).ep); simp [go_sem, cm]⟩) hS ?_
        simp only [Act.put, List.getElem_toArray, List.getElem_cons_succ, List.getElem_cons_zero, List.setIfInBounds_toArray, List.set_cons_zero, List.set_cons_succ]
        refine wpAnyH_take (i := 3) (v := .pointer (some ⟨g3, 0, none⟩)) rfl (by kernel_rfl) (by kernel_rfl) (by kernel_rfl) (fun _ _ _ h => h) (Or.inl ⟨by rfl, fun wx hx => by simp [go_sem]⟩) hS ?_
        simp only [Act.put, List.getElem_toArray, List.getElem_cons_succ, List.getElem_cons_zero, List.setIfInBounds_toArray, List.set_cons_zero, List.set_cons_succ]
        refine wpAnyH_take (i := 4) (v := .agg rt.toArray) rfl (by kernel_rfl) (by kernel_rfl) (by kernel_rfl) (fun _ _ _ h => h) (Or.inl ⟨by rfl, fun wx hx => by rw [HRT.out]; exact loadRtAt _ g3 0 s HOS.out (HSA.out.only hx HN4.out.2.1).root rfl rfl⟩) hS ?_
        simp only [Act.put, List.getElem_toArray, List.getElem_cons_succ, List.getElem_cons_zero, List.setIfInBounds_toArray, List.set_cons_zero, List.set_cons_succ]
        refine wpAnyH_take (i := 6) (v := .pointer (some ⟨g3, 0, none⟩)) rfl (by kernel_rfl) (by kernel_rfl) (by kernel_rfl) (fun _ _ _ h => h) (Or.inl ⟨by rfl, fun wx hx => by simp [go_sem]⟩) hS ?_
        simp only [Act.put, List.getElem_toArray, List.getElem_cons_succ, List.getElem_cons_zero, List.setIfInBounds_toArray, List.set_cons_zero, List.set_cons_succ]
        refine wpAnyH_take (i := 7) (v := .pointer (some ⟨g3, 65, none⟩)) rfl (by kernel_rfl) (by kernel_rfl) (by kernel_rfl) (fun _ _ _ h => h) (Or.inl ⟨by rfl, fun wx hx => by simp [go_sem]⟩) hS ?_
        simp only [Act.put, List.getElem_toArray, List.getElem_cons_succ, List.getElem_cons_zero, List.setIfInBounds_toArray, List.set_cons_zero, List.set_cons_succ]
        refine wpAnyH_take (i := 8) (v := .agg (cb nx).toArray) rfl (by kernel_rfl) (by kernel_rfl) (by kernel_rfl) (fun _ _ _ h => h) (Or.inl ⟨by rfl, fun wx hx => by exact loadDigAt _ g3 65 nx HLN.out.2.1 (by rw [HNX.out]; exact (HSA.out.only hx HN4.out.2.1).next) rfl rfl⟩) hS ?_
        simp only [Act.put, List.getElem_toArray, List.getElem_cons_succ, List.getElem_cons_zero, List.setIfInBounds_toArray, List.set_cons_zero, List.set_cons_succ]
        refine wpAnyH_enter 5 (by kernel_rfl) rfl (by rfl) (f := 47) (args := #[.agg rt.toArray]) (by simp [go_sem]) (HC3.out _ HBW.out) ?_
        rintro e y8 ⟨rfl, hbq⟩
        replace hS := hS.still hbq
        replace HG4 : Hid (Blk y8 g4 (hdC zeroH) 50) := HG4.out.below hbq HG4.out.lt
        replace HBW : Hid (Below w.heap.size w y8) := HBW.out.trans (hbq.mono HBW.out.size)
        refine ⟨_, rfl, hS, ?_⟩
        clear hbq
        simp only [Act.put, List.getElem_toArray, List.getElem_cons_succ, List.getElem_cons_zero, List.setIfInBounds_toArray, List.set_cons_zero, List.set_cons_succ]
        refine wpAnyH_take (i := 9) (v := .agg (hdC (m, dg, nx)).toArray) rfl (by kernel_rfl) (by kernel_rfl) (by kernel_rfl) (fun _ _ _ h => h) (Or.inl ⟨by rfl, fun wx hx => by refine build_op _ _ 50 [(0, .tmp 39), (1, .tmp 42), (2, .tmp 45)] rfl _ ?_ _; exact (built_head _).trans (fill_hd HDL.out HLN.out.2.1)⟩) hS ?_
        simp only [Act.put, List.getElem_toArray, List.getElem_cons_succ, List.getElem_cons_zero, List.setIfInBounds_toArray, List.set_cons_zero, List.set_cons_succ]
        refine wpAnyH_storeRow 10 50 (.tmp 4) (.tmp 46) g4 (hdC zeroH) (hdC (m, dg, nx)) HG4.out (by rw [len_hdC HOK.out, len_hdC okH_zero]) (info_hdC HOK.out) (hdC_one _) (by kernel_rfl) rfl (by rfl) rfl rfl rfl ?_
        intro y9 hs
        replace hS := hS.trans hs.only
        refine ⟨hS, ?_⟩
        simp only [Act.put, List.getElem_toArray, List.getElem_cons_succ, List.getElem_cons_zero]
        refine wpAnyH_take (i := 11) (v := .int .i64 0) rfl (by kernel_rfl) (by kernel_rfl) (by kernel_rfl) (fun _ _ _ h => h) (Or.inl ⟨by rfl, fun wx hx => by simp [go_sem]⟩) hS ?_
        simp only [Act.put, List.getElem_toArray, List.getElem_cons_succ, List.getElem_cons_zero, List.setIfInBounds_toArray, List.set_cons_zero, List.set_cons_succ]
        refine wpAnyH_done (by kernel_rfl) ?_ _
        go_wp2
        exact bodyPost_ret (results_row_tmp (by rfl) _ _ g4 _ rfl (var_hd hs.blk HOK.out)) rfl ⟨by rw [HFR.out, if_pos ⟨by trivial, HKK.out⟩]; rfl, HBW.out.trans (hs.only.below HN4.out.2.2 HBW.out.size)⟩

end Go.Proofs.YtableajopaappaaDoor
/- The walk of the reference's Walk (layer 11). -/
namespace Go.Proofs.YtableajopaappaaDoor
open Go.RowKit Go.Shelf
set_option maxRecDepth 100000
/-- where a walk stands: the head, and the answer that is to be -/
structure WkI (w : World) (g2 g4 : Nat) (h : HdT) (W : World) : Prop where
  hd : Blk W g2 (hdC h) 50
  rs : Blk W g4 (hdC zeroH) 50
  bel : Below w.heap.size w W
theorem WkI.next {w W W' : World} {g2 g4 : Nat} {h : HdT} (i : WkI w g2 g4 h W) (hb : Below W.heap.size W W') : WkI w g2 g4 h W' := ⟨i.hd.below hb i.hd.lt, i.rs.below hb i.rs.lt, i.bel.trans (hb.mono i.bel.size)⟩
theorem WkI.drew {w W : World} {g2 g4 : Nat} {h : HdT} (i : WkI w g2 g4 h W) : WkI w g2 g4 h W.drew := ⟨i.hd.drew, i.rs.drew, i.bel.drew⟩
theorem idx98 (b off cap n k : Nat) (hk : k < n) (f : Operand → Value) (o : Oper) (x y : Operand) (ho : o.op = .indexAddr 24 x y) (hx : f x = .slice (some ⟨b, off, none⟩) n cap) (hy : f y = .int .i64 (k : Int)) (w : World) :
    (execOp f o).run Tryd.prog w = .ok (.value (.pointer (some ⟨b, off + k * 98, none⟩))) w := by
  have k0 : (0 : Int) ≤ (k : Int) := by omega
  have k1 : (k : Int) < (n : Int) := by omega
  unfold execOp
  rw [ho]
  simp [go_sem, hx, hy, k0, k1, Addr.add_mid]
set_option maxRecDepth 100000 in
set_option maxHeartbeats 8000000 in
theorem qcWalk_any (h : HdT) (v : Value) (l : List SgT) (w : World) (oh : okH h) (hl : ReadsS w v l) (hn : l.length < 1000000) :
    Calls Tryd.prog 30 #[.agg (hdC h).toArray, v] w fun e w' => e = .returned (.tuple #[.agg (hdC (walkR h l).1).toArray, .int .i64 ((walkR h l).2.1 : Int), .int .i64 (walkR h l).2.2]) ∧ Below w.heap.size w w' := by
  obtain ⟨⟨ad, cap, hv, hq1, hq2, hq3⟩, hok⟩ := id hl
  clear hq1 hq2 hq3
  obtain ⟨n, HN⟩ : ∃ n, Hid (n = l.length) := ⟨_, rfl⟩
  rw [← HN.out] at hv
  have HNL : Hid (n < 1000000) := by show _ < _; rw [HN.out]; exact hn
  have HL : Hid (ReadsS w v l) := hl
  have HOK : Hid (∀ s ∈ l, okS s) := hok
  have HOH : Hid (okH h) := oh
  have HCF : Hid (∀ (W : World) (g : HdT) (s : SgT) (vs : Value), Below w.heap.size w W → okH g → okS s → Reads W vs s.2 → Calls Tryd.prog 31 #[.agg (hdC g).toArray, .agg (sgC s vs).toArray] W fun e w' => e = .returned (.tuple #[.agg (hdC (followR g s).1).toArray, .int .i64 (followR g s).2]) ∧ Below W.heap.size W w') := fun W g s vs hh og os hr => qcFollow_any g s vs W og os hr
  have HBW : Hid (Below w.heap.size w w) := Below.refl _ _
  obtain ⟨ch, HCH⟩ : ∃ c, Hid (c = hdC h) := ⟨_, rfl⟩
  rw [← HCH.out]
  subst hv
  clear hl hok oh hn
  go_enter Tryd.func30, Tryd.ntmps30
  have tk0 : Hid True := trivial
  have tk1 : Hid True := trivial
  go_wp2_with (first
    | (clear tk0; with_reducible refine wpSeq_boxW 50 (.tmp 0) ch ?_ ?_ ?_ ?_
       · rfl
       · rfl
       · rfl
       intro g2 y1 nn
       have HG2 : Hid (Blk y1 g2 ch 50) := nn.blk
       have HGE2 : Hid (w.heap.size ≤ g2) := Nat.le_trans HBW.out.size nn.ge
       replace HBW : Hid (Below w.heap.size w y1) := HBW.out.trans (nn.below.mono HBW.out.size)
       clear nn)
    | (clear tk1; with_reducible refine wpSeq_allocH ?_ ?_ ?_
       · rfl
       · rfl
       intro g4 y2 nn
       have HN4 : Hid (g2 ≠ g4 ∧ w.heap.size ≤ g4) := by have h1 := HG2.out.lt; have h3 := nn.ge; have h4 := HBW.out.size; exact ⟨by omega, by omega⟩
       replace HG2 : Hid (Blk y2 g2 ch 50) := HG2.out.below nn.below HG2.out.lt
       have HG4 : Hid (Blk y2 g4 (hdC zeroH) 50) := nn.blk
       replace HBW : Hid (Below w.heap.size w y2) := HBW.out.trans (nn.below.mono HBW.out.size)
       clear nn))
  have HI : Hid (WkI w g2 g4 h y2) := ⟨by rw [← HCH.out]; exact HG2.out, HG4.out, HBW.out⟩
  clear HG2 HG4 HBW
  go_loopw [7] (fun i wr => ∃ (k : Nat) (g : HdT), k ≤ n ∧ i = .int .i64 (k : Int) ∧ okH g ∧ walkR h (l.take k) = (g, k, 0) ∧ WkI w g2 g4 g wr) (fun i _ => n - (intOf i).toNat)
  case atStart => exact ⟨0, h, by omega, rfl, HOH.out, rfl, HI.out⟩
  case round =>
    clear HI
    obtain ⟨k, g, hkn, rfl, hog, hwk, hI⟩ := hrel
    have HI : Hid (WkI w g2 g4 g wr) := hI
    have HWK : Hid (walkR h (l.take k) = (g, k, 0)) := hwk
    have HOG : Hid (okH g) := hog
    clear hI hwk hog
    by_cases hlt : k < n
    · have hi : (k : Int) < (n : Int) := by omega
      have f5 : IntKind.i64.wrap ((k : Int) + 1) = (k : Int) + 1 := by have := HNL.out; rw [IntKind.wrap_i64]; omega
      obtain ⟨b, off, cap', hv2, hat⟩ := HL.out.at (by rw [← HN.out]; omega)
      simp only [Value.slice.injEq] at hv2
      obtain ⟨rfl, hnl, rfl⟩ := hv2
      clear hnl
      obtain ⟨s, HS⟩ : ∃ s, Hid (s = l.getD k zeroS) := ⟨_, rfl⟩
      obtain ⟨vs, hsa, hrs⟩ := hat k (by rw [← HN.out]; exact hlt)
      rw [← HS.out] at hsa hrs
      have HOS : Hid (okS s) := hsa.ok
      have HSA : Hid (∀ W, Below w.heap.size w W → SgAt W b (off + k * 98) s vs) := fun W hh => hsa.below hh (Nat.le_refl _)
      have HRS : Hid (∀ W, Below w.heap.size w W → Reads W vs s.2) := fun W hh => hrs.below hh
      have HST : Hid (((followR g s).2 = 0 → walkR h (l.take (k + 1)) = ((followR g s).1, k + 1, 0)) ∧ ((followR g s).2 ≠ 0 → walkR h l = (zeroH, k, (followR g s).2))) := walk_take (by rw [← HN.out]; exact hlt) HWK.out s HS.out.symm
      have HOF : Hid (okH (followR g s).1) := follow_okH g s HOS.out
      obtain ⟨hf, HHF⟩ : ∃ c, Hid (c = (followR g s).1) := ⟨_, rfl⟩
      obtain ⟨ef, HEF⟩ : ∃ c, Hid (c = (followR g s).2) := ⟨_, rfl⟩
      have HC : Hid (∀ W, WkI w g2 g4 g W → Calls Tryd.prog 31 #[.agg (hdC g).toArray, .agg (sgC s vs).toArray] W fun e w' => e = .returned (.tuple #[.agg (hdC hf).toArray, .int .i64 ef]) ∧ Below W.heap.size W w') := fun W hW => by rw [HHF.out, HEF.out]; exact HCF.out W g s vs hW.bel HOG.out HOS.out (HRS.out W hW.bel)
      rw [← HHF.out] at HST HOF
      rw [← HEF.out] at HST
      clear hat hsa hrs HHF HEF HWK HS
      go_wp2
      go_cut [8, 9] from 16 to 24 (fun a b W => ∃ g8, a = .pointer (some ⟨g8, 0, none⟩) ∧ b = .int .i64 ef ∧ WkI w g2 g4 g W ∧ Blk W g8 (hdC hf) 50 ∧ g8 ≠ g2)
      case first =>
        refine wp_region_held_drew (S := Over (World.drew wr)) (by kernel_rfl) (Over.refl _) ?_
        intro hS
        replace HI : Hid (WkI w g2 g4 g (World.drew wr)) := HI.out.drew
        change wpAnyH _ _ _ _ _ _ _ _ (World.drew wr)
        generalize World.drew wr = y0 at *
        try simp only [Act.put, List.setIfInBounds_toArray, List.set_cons_zero, List.set_cons_succ]
        refine wpAnyH_take (i := 0) (v := .agg (hdC g).toArray) rfl (by kernel_rfl) (by kernel_rfl) (by kernel_rfl) (fun _ _ _ h => h) (Or.inl ⟨by rfl, fun wx hx => by exact loadHdAt _ g2 0 g ((HI.out.next hx).hd.hdAt HOG.out) rfl rfl⟩) hS ?_
        simp only [Act.put, List.getElem_toArray, List.getElem_cons_zero, List.setIfInBounds_toArray, List.set_cons_zero, List.set_cons_succ]
        refine wpAnyH_take (i := 1) (v := .slice (some ⟨b, off, none⟩) n cap) rfl (by kernel_rfl) (by kernel_rfl) (by kernel_rfl) (fun _ _ _ h => h) (Or.inl ⟨by rfl, fun wx hx => by simp [go_sem]⟩) hS ?_
        simp only [Act.put, List.getElem_toArray, List.getElem_cons_succ, List.getElem_cons_zero, List.setIfInBounds_toArray, List.set_cons_zero, List.set_cons_succ]
        refine wpAnyH_take (i := 2) (v := .int .i64 (k : Int)) rfl (by kernel_rfl) (by kernel_rfl) (by kernel_rfl) (fun _ _ _ h => h) (Or.inl ⟨by rfl, fun wx hx => by simp [go_sem]⟩) hS ?_
        simp only [Act.put, List.getElem_toArray, List.getElem_cons_succ, List.getElem_cons_zero, List.setIfInBounds_toArray, List.set_cons_zero, List.set_cons_succ]
        refine wpAnyH_take (i := 3) (v := .pointer (some ⟨b, off + k * 98, none⟩)) rfl (by kernel_rfl) (by kernel_rfl) (by kernel_rfl) (fun _ _ _ h => h) (Or.inl ⟨by rfl, fun wx hx => by exact idx98 b off cap n k hlt _ _ _ _ rfl rfl rfl _⟩) hS ?_
        simp only [Act.put, List.getElem_toArray, List.getElem_cons_succ, List.getElem_cons_zero, List.setIfInBounds_toArray, List.set_cons_zero, List.set_cons_succ]
        refine wpAnyH_take (i := 4) (v := .agg (sgC s vs).toArray) rfl (by kernel_rfl) (by kernel_rfl) (by kernel_rfl) (fun _ _ _ h => h) (Or.inl ⟨by rfl, fun wx hx => by exact loadSgAt _ b (off + k * 98) s vs (HSA.out _ (HI.out.next hx).bel) rfl rfl⟩) hS ?_
        simp only [Act.put, List.getElem_toArray, List.getElem_cons_succ, List.getElem_cons_zero, List.setIfInBounds_toArray, List.set_cons_zero, List.set_cons_succ]
        refine wpAnyH_pair 5 9 (by kernel_rfl) ?_ ?_
        · refine wpOp_en 5 (by rfl) (by rfl) (f := 31) (args := #[.agg (hdC g).toArray, .agg (sgC s vs).toArray]) (by simp [go_sem]) (HC.out _ (HI.out.next hS)) ?_
          rintro e z1 ⟨rfl, hb⟩
          replace hS := Over.more hS hb
          refine ⟨_, rfl, hS, ?_⟩
          clear hb
          simp only [Act.put, List.getElem_toArray, List.getElem_cons_succ, List.getElem_cons_zero, List.setIfInBounds_toArray, List.set_cons_zero, List.set_cons_succ]
          refine wpAnyH_take (i := 6) (v := .tuple #[.agg (hdC hf).toArray, .int .i64 ef]) rfl (by kernel_rfl) (by kernel_rfl) (by kernel_rfl) (fun _ _ _ h => h) (Or.inl ⟨by rfl, fun wx hx => by simp [go_sem]⟩) hS ?_
          simp only [Act.put, List.getElem_toArray, List.getElem_cons_succ, List.getElem_cons_zero, List.setIfInBounds_toArray, List.set_cons_zero, List.set_cons_succ]
          refine wpAnyH_take (i := 7) (v := .agg (hdC hf).toArray) rfl (by kernel_rfl) (by kernel_rfl) (by kernel_rfl) (fun _ _ _ h => h) (Or.inl ⟨by rfl, fun wx hx => by simp [go_sem]⟩) hS ?_
          simp only [Act.put, List.getElem_toArray, List.getElem_cons_succ, List.getElem_cons_zero, List.setIfInBounds_toArray, List.set_cons_zero, List.set_cons_succ]
          refine wpAnyH_take (i := 8) (v := .int .i64 ef) rfl (by kernel_rfl) (by kernel_rfl) (by kernel_rfl) (fun _ _ _ h => h) (Or.inl ⟨by rfl, fun wx hx => by simp [go_sem]⟩) hS ?_
          simp only [Act.put, List.getElem_toArray, List.getElem_cons_succ, List.getElem_cons_zero, List.setIfInBounds_toArray, List.set_cons_zero, List.set_cons_succ]
          have hb := below_alloc z1 (.cells (hdC zeroH).toArray 50)
          have hba : Blk (z1.alloc (.cells (hdC zeroH).toArray 50)) z1.heap.size (hdC zeroH) 50 := Blk.new _ _ _
          have hsz : y0.heap.size ≤ z1.heap.size := Below.size hS
          replace hS := Over.more hS hb
          refine wpAnyH_step 9 (.pointer (some ⟨z1.heap.size, 0, none⟩)) (z1.alloc (.cells (hdC zeroH).toArray 50)) (by kernel_rfl) rfl (by rfl) (alloc_hd _ _ rfl _) hS ?_
          simp only [Act.put, List.getElem_toArray, List.getElem_cons_succ, List.getElem_cons_zero, List.setIfInBounds_toArray, List.set_cons_zero, List.set_cons_succ]
          clear hb
          generalize z1.alloc (.cells (hdC zeroH).toArray 50) = z2 at *
          obtain ⟨ga, HGA⟩ : ∃ z, Hid (z = z1.heap.size) := ⟨_, rfl⟩
          have hgw : y0.heap.size ≤ ga := by rw [HGA.out]; exact hsz
          rw [← HGA.out] at hba ⊢
          clear HGA hsz
          refine wpAnyH_storeRow 10 50 (.tmp 8) (.tmp 23) ga (hdC zeroH) (hdC hf) hba (by rw [len_hdC HOF.out, len_hdC okH_zero]) (info_hdC HOF.out) (hdC_one _) (by kernel_rfl) rfl (by rfl) rfl rfl rfl ?_
          intro yE hs
          replace hS : Over y0 yE := Below.trans hS (hs.only.below hgw (Below.size hS))
          refine ⟨hS, ?_⟩
          simp only [Act.put, List.getElem_toArray, List.getElem_cons_succ, List.getElem_cons_zero]
          refine wpAnyH_take (i := 11) (v := .int .i64 ef) rfl (by kernel_rfl) (by kernel_rfl) (by kernel_rfl) (fun _ _ _ h => h) (Or.inl ⟨by rfl, fun wx hx => by simp [go_sem]⟩) hS ?_
          simp only [Act.put, List.getElem_toArray, List.getElem_cons_succ, List.getElem_cons_zero, List.setIfInBounds_toArray, List.set_cons_zero, List.set_cons_succ]
          refine wpAnyH_done (by kernel_rfl) ?_ _
          go_wp2
          go_meet
          case rel => exact ⟨ga, rfl, rfl, HI.out.next hS, hs.blk, by have h1 := HI.out.hd.lt; omega⟩
        · have hb := below_alloc y0 (.cells (hdC zeroH).toArray 50)
          have hba : Blk (y0.alloc (.cells (hdC zeroH).toArray 50)) y0.heap.size (hdC zeroH) 50 := Blk.new _ _ _
          have hsz : y0.heap.size ≤ y0.heap.size := Below.size hS
          replace hS := Over.more hS hb
          refine wpOp_vl 9 (.pointer (some ⟨y0.heap.size, 0, none⟩)) (y0.alloc (.cells (hdC zeroH).toArray 50)) (by rfl) (by rfl) (alloc_hd _ _ rfl _) ⟨hS, ?_⟩
          simp only [Act.put, List.getElem_toArray, List.getElem_cons_succ, List.getElem_cons_zero, List.setIfInBounds_toArray, List.set_cons_zero, List.set_cons_succ]
          clear hb
          generalize y0.alloc (.cells (hdC zeroH).toArray 50) = z1 at *
          obtain ⟨ga, HGA⟩ : ∃ z, Hid (z = y0.heap.size) := ⟨_, rfl⟩
          have hgw : y0.heap.size ≤ ga := by rw [HGA.out]; exact hsz
          rw [← HGA.out] at hba ⊢
          clear HGA hsz
          refine wpAnyH_enter 5 (by kernel_rfl) rfl (by rfl) (f := 31) (args := #[.agg (hdC g).toArray, .agg (sgC s vs).toArray]) (by simp [go_sem]) (HC.out _ (HI.out.next hS)) ?_
          rintro e z2 ⟨rfl, hb⟩
          replace hS := Over.more hS hb
          replace hba := hba.below hb hba.lt
          refine ⟨_, rfl, hS, ?_⟩
          clear hb
          simp only [Act.put, List.getElem_toArray, List.getElem_cons_succ, List.getElem_cons_zero, List.setIfInBounds_toArray, List.set_cons_zero, List.set_cons_succ]
          refine wpAnyH_take (i := 6) (v := .tuple #[.agg (hdC hf).toArray, .int .i64 ef]) rfl (by kernel_rfl) (by kernel_rfl) (by kernel_rfl) (fun _ _ _ h => h) (Or.inl ⟨by rfl, fun wx hx => by simp [go_sem]⟩) hS ?_
          simp only [Act.put, List.getElem_toArray, List.getElem_cons_succ, List.getElem_cons_zero, List.setIfInBounds_toArray, List.set_cons_zero, List.set_cons_succ]
          refine wpAnyH_take (i := 7) (v := .agg (hdC hf).toArray) rfl (by kernel_rfl) (by kernel_rfl) (by kernel_rfl) (fun _ _ _ h => h) (Or.inl ⟨by rfl, fun wx hx => by simp [go_sem]⟩) hS ?_
          simp only [Act.put, List.getElem_toArray, List.getElem_cons_succ, List.getElem_cons_zero, List.setIfInBounds_toArray, List.set_cons_zero, List.set_cons_succ]
          refine wpAnyH_take (i := 8) (v := .int .i64 ef) rfl (by kernel_rfl) (by kernel_rfl) (by kernel_rfl) (fun _ _ _ h => h) (Or.inl ⟨by rfl, fun wx hx => by simp [go_sem]⟩) hS ?_
          simp only [Act.put, List.getElem_toArray, List.getElem_cons_succ, List.getElem_cons_zero, List.setIfInBounds_toArray, List.set_cons_zero, List.set_cons_succ]
          refine wpAnyH_storeRow 10 50 (.tmp 8) (.tmp 23) ga (hdC zeroH) (hdC hf) hba (by rw [len_hdC HOF.out, len_hdC okH_zero]) (info_hdC HOF.out) (hdC_one _) (by kernel_rfl) rfl (by rfl) rfl rfl rfl ?_
          intro yE hs
          replace hS : Over y0 yE := Below.trans hS (hs.only.below hgw (Below.size hS))
          refine ⟨hS, ?_⟩
          simp only [Act.put, List.getElem_toArray, List.getElem_cons_succ, List.getElem_cons_zero]
          refine wpAnyH_take (i := 11) (v := .int .i64 ef) rfl (by kernel_rfl) (by kernel_rfl) (by kernel_rfl) (fun _ _ _ h => h) (Or.inl ⟨by rfl, fun wx hx => by simp [go_sem]⟩) hS ?_
          simp only [Act.put, List.getElem_toArray, List.getElem_cons_succ, List.getElem_cons_zero, List.setIfInBounds_toArray, List.set_cons_zero, List.set_cons_succ]
          refine wpAnyH_done (by kernel_rfl) ?_ _
          go_wp2
          go_meet
          case rel => exact ⟨ga, rfl, rfl, HI.out.next hS, hs.blk, by have h1 := HI.out.hd.lt; omega⟩
      case rest =>
        obtain ⟨g8, rfl, rfl, hI2, hb8, hne⟩ := hcut
        have HI2 : Hid (WkI w g2 g4 g wc) := hI2
        have HB8 : Hid (Blk wc g8 (hdC hf) 50) := hb8
        clear hI2 hb8 HI
        have tk2 : Hid True := trivial
        have tk3 : Hid True := trivial
        by_cases hef : ef = 0
        case pos =>
          have k1 : (ef == 0) = true := by rw [beq_iff_eq]; exact hef
          have k2 : (ef != 0) = false := by rw [bne, k1]; rfl
          have HEZ : Hid (ef = 0) := hef
          clear hef
          go_wp2_with (first
            | (clear tk2; with_reducible refine wpSeq_loadW 50 (.tmp 8) g8 0 (hdC hf) _ ?_ Tryd.underlying50 rfl ?_ ?_ ?_ ?_ ?_
               · exact HB8.out.range
               · exact info_hdC HOF.out
               · rfl
               · rfl
               · rfl)
            | (clear tk3; with_reducible refine wpSeq_storeRow 50 (.tmp 2) (.tmp 30) g2 (hdC g) (hdC hf) ?_ ?_ ?_ ?_ ?_ ?_ ?_ ?_ ?_
               · exact HI2.out.hd
               · rw [len_hdC HOF.out, len_hdC HOG.out]
               · exact info_hdC HOF.out
               · exact hdC_one _
               · rfl
               · rfl
               · rfl
               · rfl
               intro yF hs
               have HIF : Hid (WkI w g2 g4 hf yF) := ⟨hs.blk, HI2.out.rs.only hs.only (fun e => HN4.out.1 e.symm), HI2.out.bel.trans (hs.only.below HGE2.out HI2.out.bel.size)⟩
               clear hs HI2 HB8))
          go_roundw
          case rel => exact ⟨k + 1, hf, by omega, by simp, HOF.out, HST.out.1 HEZ.out, HIF.out⟩
          case measure => simp [intOf]; omega
        case neg =>
          have k1 : (ef == 0) = false := by rw [beq_eq_false_iff_ne]; exact hef
          have k2 : (ef != 0) = true := by rw [bne, k1]; rfl
          go_wp2_with (first
            | (clear tk2; with_reducible refine wpSeq_build 50 [] (hdC zeroH) ?_ ?_ ?_ ?_
               · exact built_head []
               · rfl
               · rfl)
            | (clear tk3; with_reducible refine wpSeq_storeRow 50 (.tmp 4) (.tmp 27) g4 (hdC zeroH) (hdC zeroH) ?_ ?_ ?_ ?_ ?_ ?_ ?_ ?_ ?_
               · exact HI2.out.rs
               · rfl
               · exact info_hdC okH_zero
               · exact hdC_one _
               · rfl
               · rfl
               · rfl
               · rfl
               intro yF hs))
          exact bodyPost_ret (results_row_tmp2 (by rfl) _ _ g4 _ rfl (var_hd hs.blk okH_zero)) rfl ⟨by rw [HST.out.2 hef]; rfl, HI2.out.bel.trans (hs.only.below HN4.out.2 HI2.out.bel.size)⟩
    · have hi : ¬ ((k : Int) < (n : Int)) := by omega
      have hk : k = n := by omega
      subst hk
      have HWL : Hid (walkR h l = (g, k, 0)) := by have h1 := HWK.out; rw [List.take_of_length_le (by have := HN.out; omega)] at h1; exact h1
      have tk2 : Hid True := trivial
      have tk3 : Hid True := trivial
      go_wp2_with (first
        | (clear tk2; with_reducible refine wpSeq_loadW 50 (.tmp 2) g2 0 (hdC g) _ ?_ Tryd.underlying50 rfl ?_ ?_ ?_ ?_ ?_
           · exact HI.out.hd.range
           · exact info_hdC HOG.out
           · rfl
           · rfl
           · rfl)
        | (clear tk3; with_reducible refine wpSeq_storeRow 50 (.tmp 4) (.tmp 31) g4 (hdC zeroH) (hdC g) ?_ ?_ ?_ ?_ ?_ ?_ ?_ ?_ ?_
           · exact HI.out.rs
           · rw [len_hdC HOG.out, len_hdC okH_zero]
           · exact info_hdC HOG.out
           · exact hdC_one _
           · rfl
           · rfl
           · rfl
           · rfl
           intro yF hs))
      exact bodyPost_ret (results_row_tmp2 (by rfl) _ _ g4 _ rfl (var_hd hs.blk HOG.out)) rfl ⟨by rw [HWL.out]; rfl, HI.out.bel.trans (hs.only.below HN4.out.2 HI.out.bel.size)⟩
end Go.Proofs.YtableajopaappaaDoor
/- The walk of the reference's Seal (layer 11). -/
namespace Go.Proofs.YtableajopaappaaDoor
open Go.RowKit Go.Shelf
set_option maxRecDepth 100000
theorem Blk.seg {w : World} {g off : Nat} {A B B2 C : List Value} {t : TypeId} (h : Blk w g (A ++ (B ++ C)) t) (hl : B2.length = B.length) (ho : A.length = off) : Blk (w.setCells g off B2) g (A ++ (B2 ++ C)) t := by
  subst ho
  have h2 := setCells_eq g B2 A.length w _ t h (by simp only [List.length_append]; omega)
  have e : (A ++ (B ++ C)).take A.length ++ B2 ++ (A ++ (B ++ C)).drop (A.length + B2.length) = A ++ (B2 ++ C) := by
    rw [List.take_left, ← List.drop_drop, List.drop_left, hl, List.drop_left, List.append_assoc]
  rwa [e] at h2
end Go.Proofs.YtableajopaappaaDoor
/- What the functions of layer 11 do (ChOps); the statements' own works and few. -/
namespace Go.Proofs.YtableajopaappaaDoor
open Go.RowKit Go.Shelf
set_option maxRecDepth 100000
end Go.Proofs.YtableajopaappaaDoor
/- The walks of chain's spent, Pin, Start and Walk (layer 11). -/
namespace Go.Proofs.YtableajopaappaaDoor
open Go.RowKit Go.Shelf
set_option maxRecDepth 100000
set_option maxRecDepth 100000 in
set_option maxHeartbeats 8000000 in
theorem chSpent_any (h : HdT) (w : World) : Calls Tryd.prog 72 #[.agg (hdC h).toArray] w fun e w' => e = .returned (.bool (decide (64 ≤ h.1))) ∧ Below w.heap.size w w' := by
  obtain ⟨ch, HCH⟩ : ∃ c, Hid (c = hdC h) := ⟨_, rfl⟩
  obtain ⟨n, HNN⟩ : ∃ n, Hid (n = h.1) := ⟨_, rfl⟩
  rw [← HCH.out]
  by_cases h64 : 64 ≤ n
  · have c64 : (64 : Int) ≤ (n : Int) := by omega
    go_enter Tryd.func72, Tryd.ntmps72
    have tk0 : Hid True := trivial
    go_wp2_with (first
      | (clear tk0; with_reducible refine wpSeq_boxW 50 (.tmp 0) ch ?_ ?_ ?_ ?_
         · rfl
         · rfl
         · rfl
         intro g1 y1 nn
         have ce : y1.cell? ⟨g1, 0, none⟩ = some (.int .u64 (n : Int)) := by have := nn.blk.cell 0; rw [HCH.out] at this; rw [HNN.out]; exact this))
    go_ret
    exact ⟨by rw [← HNN.out, decide_eq_true h64]; rfl, nn.below⟩
  · have c64 : ¬ ((64 : Int) ≤ (n : Int)) := by omega
    go_enter Tryd.func72, Tryd.ntmps72
    have tk0 : Hid True := trivial
    go_wp2_with (first
      | (clear tk0; with_reducible refine wpSeq_boxW 50 (.tmp 0) ch ?_ ?_ ?_ ?_
         · rfl
         · rfl
         · rfl
         intro g1 y1 nn
         have ce : y1.cell? ⟨g1, 0, none⟩ = some (.int .u64 (n : Int)) := by have := nn.blk.cell 0; rw [HCH.out] at this; rw [HNN.out]; exact this))
    go_ret
    exact ⟨by rw [← HNN.out, decide_eq_false h64]; rfl, nn.below⟩
set_option maxRecDepth 100000 in
set_option maxHeartbeats 8000000 in
theorem chStart_any (p : List (BitVec 8)) (w : World) (hp : p.length = 32) : Calls Tryd.prog 24 #[.agg (cb p).toArray] w fun e w' => e = .returned (.agg (hdC (0, zb32, p)).toArray) ∧ Below w.heap.size w w' := by
  have HPL : Hid (p.length = 32) := hp
  have HOK : Hid (okH (0, zb32, p)) := okH_mk rfl hp (by decide)
  have HID : Hid ((Tryd.prog.info? 23).map (·.size) = some (cb p).length) := by show _ = _; rw [cb_len, hp]; exact info_digest
  have HBW : Hid (Below w.heap.size w w) := Below.refl _ _
  clear hp
  go_enter Tryd.func24, Tryd.ntmps24
  have tk0 : Hid True := trivial
  have tk1 : Hid True := trivial
  have tk2 : Hid True := trivial
  have tk3 : Hid True := trivial
  have tk4 : Hid True := trivial
  go_wp2_with (first
    | (clear tk0; with_reducible refine wpSeq_boxW 23 (.tmp 0) (cb p) ?_ ?_ ?_ ?_
       · rfl
       · rfl
       · rfl
       intro g1 y1 nn
       replace HBW : Hid (Below w.heap.size w y1) := HBW.out.trans (nn.below.mono HBW.out.size)
       have HG1 : Hid (Blk y1 g1 (cb p) 23) := nn.blk
       clear nn)
    | (clear tk1; with_reducible refine wpSeq_allocH ?_ ?_ ?_
       · rfl
       · rfl
       intro g2 y2 nn
       have HGE : Hid (w.heap.size ≤ g2) := Nat.le_trans HBW.out.size nn.ge
       replace HG1 : Hid (Blk y2 g1 (cb p) 23) := HG1.out.below nn.below HG1.out.lt
       replace HBW : Hid (Below w.heap.size w y2) := HBW.out.trans (nn.below.mono HBW.out.size)
       have HG2 : Hid (Blk y2 g2 (hdC zeroH) 50) := nn.blk
       clear nn)
    | (clear tk2; with_reducible refine wpSeq_loadW 23 (.tmp 1) g1 0 (cb p) _ ?_ Tryd.underlying23 rfl ?_ ?_ ?_ ?_ ?_
       · exact HG1.out.range
       · exact HID.out
       · rfl
       · rfl
       · rfl)
    | (clear tk3; with_reducible refine wpSeq_build 50 [(2, .tmp 3)] (hdC (0, zb32, p)) ?_ ?_ ?_ ?_
       · exact (built_head _).trans (fill_hk HPL.out)
       · rfl
       · rfl)
    | (clear tk4; with_reducible refine wpSeq_storeRow 50 (.tmp 2) (.tmp 4) g2 (hdC zeroH) (hdC (0, zb32, p)) ?_ ?_ ?_ ?_ ?_ ?_ ?_ ?_ ?_
       · exact HG2.out
       · rw [len_hdC HOK.out, len_hdC okH_zero]
       · exact info_hdC HOK.out
       · exact hdC_one _
       · rfl
       · rfl
       · rfl
       · rfl
       intro yE hs))
  exact bodyPost_ret (v := .agg (hdC (0, zb32, p)).toArray) (results_cell_row (by rfl) _ _ g2 50 _ (0, 0) _ rfl hs.blk Tryd.underlying50 rfl (by rw [List.size_toArray]; exact info_hdC HOK.out)) rfl ⟨rfl, HBW.out.trans (hs.only.below HGE.out HBW.out.size)⟩
set_option maxRecDepth 100000 in
set_option maxHeartbeats 8000000 in
theorem chWalk_any (h : HdT) (v : Value) (l : List SgT) (w : World) (hFo : ∀ (W : World) (h : HdT) (s : SgT) (vs : Value), KOk W → okH h → okS s → Reads W vs s.2 → Calls Tryd.prog 44 #[.agg (hdC h).toArray, .agg (sgC s vs).toArray] W fun e w' => e = .returned (.tuple #[.agg (hdC (followR h s).1).toArray, .int .i64 (followR h s).2]) ∧ Below W.heap.size W w') (hK : KOk w) (oh : okH h) (hl : ReadsS w v l) (hn : l.length < 1000000) :
    Calls Tryd.prog 23 #[.agg (hdC h).toArray, v] w fun e w' => e = .returned (.tuple #[.agg (hdC (walkR h l).1).toArray, .int .i64 ((walkR h l).2.1 : Int), .int .i64 (walkR h l).2.2]) ∧ Below w.heap.size w w' := by
  obtain ⟨⟨ad, cap, hv, hq1, hq2, hq3⟩, hok⟩ := id hl
  clear hq1 hq2 hq3
  obtain ⟨n, HN⟩ : ∃ n, Hid (n = l.length) := ⟨_, rfl⟩
  rw [← HN.out] at hv
  have HNL : Hid (n < 1000000) := by show _ < _; rw [HN.out]; exact hn
  have HL : Hid (ReadsS w v l) := hl
  have HOK : Hid (∀ s ∈ l, okS s) := hok
  have HOH : Hid (okH h) := oh
  have HCF : Hid (∀ (W : World) (g : HdT) (s : SgT) (vs : Value), Below w.heap.size w W → okH g → okS s → Reads W vs s.2 → Calls Tryd.prog 44 #[.agg (hdC g).toArray, .agg (sgC s vs).toArray] W fun e w' => e = .returned (.tuple #[.agg (hdC (followR g s).1).toArray, .int .i64 (followR g s).2]) ∧ Below W.heap.size W w') := fun W g s vs hh og os hr => hFo W g s vs (hK.below hh hK.lt) og os hr
  have HBW : Hid (Below w.heap.size w w) := Below.refl _ _
  obtain ⟨ch, HCH⟩ : ∃ c, Hid (c = hdC h) := ⟨_, rfl⟩
  rw [← HCH.out]
  subst hv
  clear hl hok oh hn hK hFo
  go_enter Tryd.func23, Tryd.ntmps23
  have tk0 : Hid True := trivial
  have tk1 : Hid True := trivial
  go_wp2_with (first
    | (clear tk0; with_reducible refine wpSeq_boxW 50 (.tmp 0) ch ?_ ?_ ?_ ?_
       · rfl
       · rfl
       · rfl
       intro g2 y1 nn
       have HG2 : Hid (Blk y1 g2 ch 50) := nn.blk
       have HGE2 : Hid (w.heap.size ≤ g2) := Nat.le_trans HBW.out.size nn.ge
       replace HBW : Hid (Below w.heap.size w y1) := HBW.out.trans (nn.below.mono HBW.out.size)
       clear nn)
    | (clear tk1; with_reducible refine wpSeq_allocH ?_ ?_ ?_
       · rfl
       · rfl
       intro g4 y2 nn
       have HN4 : Hid (g2 ≠ g4 ∧ w.heap.size ≤ g4) := by have h1 := HG2.out.lt; have h3 := nn.ge; have h4 := HBW.out.size; exact ⟨by omega, by omega⟩
       replace HG2 : Hid (Blk y2 g2 ch 50) := HG2.out.below nn.below HG2.out.lt
       have HG4 : Hid (Blk y2 g4 (hdC zeroH) 50) := nn.blk
       replace HBW : Hid (Below w.heap.size w y2) := HBW.out.trans (nn.below.mono HBW.out.size)
       clear nn))
  have HI : Hid (WkI w g2 g4 h y2) := ⟨by rw [← HCH.out]; exact HG2.out, HG4.out, HBW.out⟩
  clear HG2 HG4 HBW
  go_loopw [12] (fun i wr => ∃ (k : Nat) (g : HdT), k ≤ n ∧ i = .int .i64 (k : Int) ∧ okH g ∧ walkR h (l.take k) = (g, k, 0) ∧ WkI w g2 g4 g wr) (fun i _ => n - (intOf i).toNat)
  case atStart => exact ⟨0, h, by omega, rfl, HOH.out, rfl, HI.out⟩
  case round =>
    clear HI
    obtain ⟨k, g, hkn, rfl, hog, hwk, hI⟩ := hrel
    have HI : Hid (WkI w g2 g4 g wr) := hI
    have HWK : Hid (walkR h (l.take k) = (g, k, 0)) := hwk
    have HOG : Hid (okH g) := hog
    clear hI hwk hog
    by_cases hlt : k < n
    · have hi : (k : Int) < (n : Int) := by omega
      have f5 : IntKind.i64.wrap ((k : Int) + 1) = (k : Int) + 1 := by have := HNL.out; rw [IntKind.wrap_i64]; omega
      obtain ⟨b, off, cap', hv2, hat⟩ := HL.out.at (by rw [← HN.out]; omega)
      simp only [Value.slice.injEq] at hv2
      obtain ⟨rfl, hnl, rfl⟩ := hv2
      clear hnl
      obtain ⟨s, HS⟩ : ∃ s, Hid (s = l.getD k zeroS) := ⟨_, rfl⟩
      obtain ⟨vs, hsa, hrs⟩ := hat k (by rw [← HN.out]; exact hlt)
      rw [← HS.out] at hsa hrs
      have HOS : Hid (okS s) := hsa.ok
      have HSA : Hid (∀ W, Below w.heap.size w W → SgAt W b (off + k * 98) s vs) := fun W hh => hsa.below hh (Nat.le_refl _)
      have HRS : Hid (∀ W, Below w.heap.size w W → Reads W vs s.2) := fun W hh => hrs.below hh
      have HST : Hid (((followR g s).2 = 0 → walkR h (l.take (k + 1)) = ((followR g s).1, k + 1, 0)) ∧ ((followR g s).2 ≠ 0 → walkR h l = (zeroH, k, (followR g s).2))) := walk_take (by rw [← HN.out]; exact hlt) HWK.out s HS.out.symm
      have HOF : Hid (okH (followR g s).1) := follow_okH g s HOS.out
      obtain ⟨hf, HHF⟩ : ∃ c, Hid (c = (followR g s).1) := ⟨_, rfl⟩
      obtain ⟨ef, HEF⟩ : ∃ c, Hid (c = (followR g s).2) := ⟨_, rfl⟩
      have HC : Hid (∀ W, WkI w g2 g4 g W → Calls Tryd.prog 44 #[.agg (hdC g).toArray, .agg (sgC s vs).toArray] W fun e w' => e = .returned (.tuple #[.agg (hdC hf).toArray, .int .i64 ef]) ∧ Below W.heap.size W w') := fun W hW => by rw [HHF.out, HEF.out]; exact HCF.out W g s vs hW.bel HOG.out HOS.out (HRS.out W hW.bel)
      rw [← HHF.out] at HST HOF
      rw [← HEF.out] at HST
      clear hat hsa hrs HHF HEF HWK HS
      go_wp2
      go_cut [8, 9] from 15 to 23 (fun a b W => ∃ g8, a = .pointer (some ⟨g8, 0, none⟩) ∧ b = .int .i64 ef ∧ WkI w g2 g4 g W ∧ Blk W g8 (hdC hf) 50 ∧ g8 ≠ g2)
      case first =>
        refine wp_region_held_drew (S := Over (World.drew wr)) (by kernel_rfl) (Over.refl _) ?_
        intro hS
        replace HI : Hid (WkI w g2 g4 g (World.drew wr)) := HI.out.drew
        change wpAnyH _ _ _ _ _ _ _ _ (World.drew wr)
        generalize World.drew wr = y0 at *
        try simp only [Act.put, List.setIfInBounds_toArray, List.set_cons_zero, List.set_cons_succ]
        refine wpAnyH_take (i := 0) (v := .agg (hdC g).toArray) rfl (by kernel_rfl) (by kernel_rfl) (by kernel_rfl) (fun _ _ _ h => h) (Or.inl ⟨by rfl, fun wx hx => by exact loadHdAt _ g2 0 g ((HI.out.next hx).hd.hdAt HOG.out) rfl rfl⟩) hS ?_
        simp only [Act.put, List.getElem_toArray, List.getElem_cons_zero, List.setIfInBounds_toArray, List.set_cons_zero, List.set_cons_succ]
        refine wpAnyH_take (i := 1) (v := .slice (some ⟨b, off, none⟩) n cap) rfl (by kernel_rfl) (by kernel_rfl) (by kernel_rfl) (fun _ _ _ h => h) (Or.inl ⟨by rfl, fun wx hx => by simp [go_sem]⟩) hS ?_
        simp only [Act.put, List.getElem_toArray, List.getElem_cons_succ, List.getElem_cons_zero, List.setIfInBounds_toArray, List.set_cons_zero, List.set_cons_succ]
        refine wpAnyH_take (i := 2) (v := .int .i64 (k : Int)) rfl (by kernel_rfl) (by kernel_rfl) (by kernel_rfl) (fun _ _ _ h => h) (Or.inl ⟨by rfl, fun wx hx => by simp [go_sem]⟩) hS ?_
        simp only [Act.put, List.getElem_toArray, List.getElem_cons_succ, List.getElem_cons_zero, List.setIfInBounds_toArray, List.set_cons_zero, List.set_cons_succ]
        refine wpAnyH_take (i := 3) (v := .pointer (some ⟨b, off + k * 98, none⟩)) rfl (by kernel_rfl) (by kernel_rfl) (by kernel_rfl) (fun _ _ _ h => h) (Or.inl ⟨by rfl, fun wx hx => by exact idx98 b off cap n k hlt _ _ _ _ rfl rfl rfl _⟩) hS ?_
        simp only [Act.put, List.getElem_toArray, List.getElem_cons_succ, List.getElem_cons_zero, List.setIfInBounds_toArray, List.set_cons_zero, List.set_cons_succ]
        refine wpAnyH_take (i := 4) (v := .agg (sgC s vs).toArray) rfl (by kernel_rfl) (by kernel_rfl) (by kernel_rfl) (fun _ _ _ h => h) (Or.inl ⟨by rfl, fun wx hx => by exact loadSgAt _ b (off + k * 98) s vs (HSA.out _ (HI.out.next hx).bel) rfl rfl⟩) hS ?_
        simp only [Act.put, List.getElem_toArray, List.getElem_cons_succ, List.getElem_cons_zero, List.setIfInBounds_toArray, List.set_cons_zero, List.set_cons_succ]
        refine wpAnyH_pair 5 9 (by kernel_rfl) ?_ ?_
        · refine wpOp_en 5 (by rfl) (by rfl) (f := 44) (args := #[.agg (hdC g).toArray, .agg (sgC s vs).toArray]) (by simp [go_sem]) (HC.out _ (HI.out.next hS)) ?_
          rintro e z1 ⟨rfl, hb⟩
          replace hS := Over.more hS hb
          refine ⟨_, rfl, hS, ?_⟩
          clear hb
          simp only [Act.put, List.getElem_toArray, List.getElem_cons_succ, List.getElem_cons_zero, List.setIfInBounds_toArray, List.set_cons_zero, List.set_cons_succ]
          refine wpAnyH_take (i := 6) (v := .tuple #[.agg (hdC hf).toArray, .int .i64 ef]) rfl (by kernel_rfl) (by kernel_rfl) (by kernel_rfl) (fun _ _ _ h => h) (Or.inl ⟨by rfl, fun wx hx => by simp [go_sem]⟩) hS ?_
          simp only [Act.put, List.getElem_toArray, List.getElem_cons_succ, List.getElem_cons_zero, List.setIfInBounds_toArray, List.set_cons_zero, List.set_cons_succ]
          refine wpAnyH_take (i := 7) (v := .agg (hdC hf).toArray) rfl (by kernel_rfl) (by kernel_rfl) (by kernel_rfl) (fun _ _ _ h => h) (Or.inl ⟨by rfl, fun wx hx => by simp [go_sem]⟩) hS ?_
          simp only [Act.put, List.getElem_toArray, List.getElem_cons_succ, List.getElem_cons_zero, List.setIfInBounds_toArray, List.set_cons_zero, List.set_cons_succ]
          refine wpAnyH_take (i := 8) (v := .int .i64 ef) rfl (by kernel_rfl) (by kernel_rfl) (by kernel_rfl) (fun _ _ _ h => h) (Or.inl ⟨by rfl, fun wx hx => by simp [go_sem]⟩) hS ?_
          simp only [Act.put, List.getElem_toArray, List.getElem_cons_succ, List.getElem_cons_zero, List.setIfInBounds_toArray, List.set_cons_zero, List.set_cons_succ]
          have hb := below_alloc z1 (.cells (hdC zeroH).toArray 50)
          have hba : Blk (z1.alloc (.cells (hdC zeroH).toArray 50)) z1.heap.size (hdC zeroH) 50 := Blk.new _ _ _
          have hsz : y0.heap.size ≤ z1.heap.size := Below.size hS
          replace hS := Over.more hS hb
          refine wpAnyH_step 9 (.pointer (some ⟨z1.heap.size, 0, none⟩)) (z1.alloc (.cells (hdC zeroH).toArray 50)) (by kernel_rfl) rfl (by rfl) (alloc_hd _ _ rfl _) hS ?_
          simp only [Act.put, List.getElem_toArray, List.getElem_cons_succ, List.getElem_cons_zero, List.setIfInBounds_toArray, List.set_cons_zero, List.set_cons_succ]
          clear hb
          generalize z1.alloc (.cells (hdC zeroH).toArray 50) = z2 at *
          obtain ⟨ga, HGA⟩ : ∃ z, Hid (z = z1.heap.size) := ⟨_, rfl⟩
          have hgw : y0.heap.size ≤ ga := by rw [HGA.out]; exact hsz
          rw [← HGA.out] at hba ⊢
          clear HGA hsz
          refine wpAnyH_storeRow 10 50 (.tmp 8) (.tmp 22) ga (hdC zeroH) (hdC hf) hba (by rw [len_hdC HOF.out, len_hdC okH_zero]) (info_hdC HOF.out) (hdC_one _) (by kernel_rfl) rfl (by rfl) rfl rfl rfl ?_
          intro yE hs
          replace hS : Over y0 yE := Below.trans hS (hs.only.below hgw (Below.size hS))
          refine ⟨hS, ?_⟩
          simp only [Act.put, List.getElem_toArray, List.getElem_cons_succ, List.getElem_cons_zero]
          refine wpAnyH_take (i := 11) (v := .int .i64 ef) rfl (by kernel_rfl) (by kernel_rfl) (by kernel_rfl) (fun _ _ _ h => h) (Or.inl ⟨by rfl, fun wx hx => by simp [go_sem]⟩) hS ?_
          simp only [Act.put, List.getElem_toArray, List.getElem_cons_succ, List.getElem_cons_zero, List.setIfInBounds_toArray, List.set_cons_zero, List.set_cons_succ]
          refine wpAnyH_done (by kernel_rfl) ?_ _
          go_wp2
          go_meet
          case rel => exact ⟨ga, rfl, rfl, HI.out.next hS, hs.blk, by have h1 := HI.out.hd.lt; omega⟩
        · have hb := below_alloc y0 (.cells (hdC zeroH).toArray 50)
          have hba : Blk (y0.alloc (.cells (hdC zeroH).toArray 50)) y0.heap.size (hdC zeroH) 50 := Blk.new _ _ _
          have hsz : y0.heap.size ≤ y0.heap.size := Below.size hS
          replace hS := Over.more hS hb
          refine wpOp_vl 9 (.pointer (some ⟨y0.heap.size, 0, none⟩)) (y0.alloc (.cells (hdC zeroH).toArray 50)) (by rfl) (by rfl) (alloc_hd _ _ rfl _) ⟨hS, ?_⟩
          simp only [Act.put, List.getElem_toArray, List.getElem_cons_succ, List.getElem_cons_zero, List.setIfInBounds_toArray, List.set_cons_zero, List.set_cons_succ]
          clear hb
          generalize y0.alloc (.cells (hdC zeroH).toArray 50) = z1 at *
          obtain ⟨ga, HGA⟩ : ∃ z, Hid (z = y0.heap.size) := ⟨_, rfl⟩
          have hgw : y0.heap.size ≤ ga := by rw [HGA.out]; exact hsz
          rw [← HGA.out] at hba ⊢
          clear HGA hsz
          refine wpAnyH_enter 5 (by kernel_rfl) rfl (by rfl) (f := 44) (args := #[.agg (hdC g).toArray, .agg (sgC s vs).toArray]) (by simp [go_sem]) (HC.out _ (HI.out.next hS)) ?_
          rintro e z2 ⟨rfl, hb⟩
          replace hS := Over.more hS hb
          replace hba := hba.below hb hba.lt
          refine ⟨_, rfl, hS, ?_⟩
          clear hb
          simp only [Act.put, List.getElem_toArray, List.getElem_cons_succ, List.getElem_cons_zero, List.setIfInBounds_toArray, List.set_cons_zero, List.set_cons_succ]
          refine wpAnyH_take (i := 6) (v := .tuple #[.agg (hdC hf).toArray, .int .i64 ef]) rfl (by kernel_rfl) (by kernel_rfl) (by kernel_rfl) (fun _ _ _ h => h) (Or.inl ⟨by rfl, fun wx hx => by simp [go_sem]⟩) hS ?_
          simp only [Act.put, List.getElem_toArray, List.getElem_cons_succ, List.getElem_cons_zero, List.setIfInBounds_toArray, List.set_cons_zero, List.set_cons_succ]
          refine wpAnyH_take (i := 7) (v := .agg (hdC hf).toArray) rfl (by kernel_rfl) (by kernel_rfl) (by kernel_rfl) (fun _ _ _ h => h) (Or.inl ⟨by rfl, fun wx hx => by simp [go_sem]⟩) hS ?_
          simp only [Act.put, List.getElem_toArray, List.getElem_cons_succ, List.getElem_cons_zero, List.setIfInBounds_toArray, List.set_cons_zero, List.set_cons_succ]
          refine wpAnyH_take (i := 8) (v := .int .i64 ef) rfl (by kernel_rfl) (by kernel_rfl) (by kernel_rfl) (fun _ _ _ h => h) (Or.inl ⟨by rfl, fun wx hx => by simp [go_sem]⟩) hS ?_
          simp only [Act.put, List.getElem_toArray, List.getElem_cons_succ, List.getElem_cons_zero, List.setIfInBounds_toArray, List.set_cons_zero, List.set_cons_succ]
          refine wpAnyH_storeRow 10 50 (.tmp 8) (.tmp 22) ga (hdC zeroH) (hdC hf) hba (by rw [len_hdC HOF.out, len_hdC okH_zero]) (info_hdC HOF.out) (hdC_one _) (by kernel_rfl) rfl (by rfl) rfl rfl rfl ?_
          intro yE hs
          replace hS : Over y0 yE := Below.trans hS (hs.only.below hgw (Below.size hS))
          refine ⟨hS, ?_⟩
          simp only [Act.put, List.getElem_toArray, List.getElem_cons_succ, List.getElem_cons_zero]
          refine wpAnyH_take (i := 11) (v := .int .i64 ef) rfl (by kernel_rfl) (by kernel_rfl) (by kernel_rfl) (fun _ _ _ h => h) (Or.inl ⟨by rfl, fun wx hx => by simp [go_sem]⟩) hS ?_
          simp only [Act.put, List.getElem_toArray, List.getElem_cons_succ, List.getElem_cons_zero, List.setIfInBounds_toArray, List.set_cons_zero, List.set_cons_succ]
          refine wpAnyH_done (by kernel_rfl) ?_ _
          go_wp2
          go_meet
          case rel => exact ⟨ga, rfl, rfl, HI.out.next hS, hs.blk, by have h1 := HI.out.hd.lt; omega⟩
      case rest =>
        obtain ⟨g8, rfl, rfl, hI2, hb8, hne⟩ := hcut
        have HI2 : Hid (WkI w g2 g4 g wc) := hI2
        have HB8 : Hid (Blk wc g8 (hdC hf) 50) := hb8
        clear hI2 hb8 HI
        have tk2 : Hid True := trivial
        have tk3 : Hid True := trivial
        by_cases hef : ef = 0
        case pos =>
          have k1 : (ef == 0) = true := by rw [beq_iff_eq]; exact hef
          have k2 : (ef != 0) = false := by rw [bne, k1]; rfl
          have HEZ : Hid (ef = 0) := hef
          clear hef
          go_wp2_with (first
            | (clear tk2; with_reducible refine wpSeq_loadW 50 (.tmp 8) g8 0 (hdC hf) _ ?_ Tryd.underlying50 rfl ?_ ?_ ?_ ?_ ?_
               · exact HB8.out.range
               · exact info_hdC HOF.out
               · rfl
               · rfl
               · rfl)
            | (clear tk3; with_reducible refine wpSeq_storeRow 50 (.tmp 2) (.tmp 29) g2 (hdC g) (hdC hf) ?_ ?_ ?_ ?_ ?_ ?_ ?_ ?_ ?_
               · exact HI2.out.hd
               · rw [len_hdC HOF.out, len_hdC HOG.out]
               · exact info_hdC HOF.out
               · exact hdC_one _
               · rfl
               · rfl
               · rfl
               · rfl
               intro yF hs
               have HIF : Hid (WkI w g2 g4 hf yF) := ⟨hs.blk, HI2.out.rs.only hs.only (fun e => HN4.out.1 e.symm), HI2.out.bel.trans (hs.only.below HGE2.out HI2.out.bel.size)⟩
               clear hs HI2 HB8))
          go_roundw
          case rel => exact ⟨k + 1, hf, by omega, by simp, HOF.out, HST.out.1 HEZ.out, HIF.out⟩
          case measure => simp [intOf]; omega
        case neg =>
          have k1 : (ef == 0) = false := by rw [beq_eq_false_iff_ne]; exact hef
          have k2 : (ef != 0) = true := by rw [bne, k1]; rfl
          go_wp2_with (first
            | (clear tk2; with_reducible refine wpSeq_build 50 [] (hdC zeroH) ?_ ?_ ?_ ?_
               · exact built_head []
               · rfl
               · rfl)
            | (clear tk3; with_reducible refine wpSeq_storeRow 50 (.tmp 4) (.tmp 26) g4 (hdC zeroH) (hdC zeroH) ?_ ?_ ?_ ?_ ?_ ?_ ?_ ?_ ?_
               · exact HI2.out.rs
               · rfl
               · exact info_hdC okH_zero
               · exact hdC_one _
               · rfl
               · rfl
               · rfl
               · rfl
               intro yF hs))
          exact bodyPost_ret (results_row_tmp2 (by rfl) _ _ g4 _ rfl (var_hd hs.blk okH_zero)) rfl ⟨by rw [HST.out.2 hef]; rfl, HI2.out.bel.trans (hs.only.below HN4.out.2 HI2.out.bel.size)⟩
    · have hi : ¬ ((k : Int) < (n : Int)) := by omega
      have hk : k = n := by omega
      subst hk
      have HWL : Hid (walkR h l = (g, k, 0)) := by have h1 := HWK.out; rw [List.take_of_length_le (by have := HN.out; omega)] at h1; exact h1
      have tk2 : Hid True := trivial
      have tk3 : Hid True := trivial
      go_wp2_with (first
        | (clear tk2; with_reducible refine wpSeq_loadW 50 (.tmp 2) g2 0 (hdC g) _ ?_ Tryd.underlying50 rfl ?_ ?_ ?_ ?_ ?_
           · exact HI.out.hd.range
           · exact info_hdC HOG.out
           · rfl
           · rfl
           · rfl)
        | (clear tk3; with_reducible refine wpSeq_storeRow 50 (.tmp 4) (.tmp 31) g4 (hdC zeroH) (hdC g) ?_ ?_ ?_ ?_ ?_ ?_ ?_ ?_ ?_
           · exact HI.out.rs
           · rw [len_hdC HOG.out, len_hdC okH_zero]
           · exact info_hdC HOG.out
           · exact hdC_one _
           · rfl
           · rfl
           · rfl
           · rfl
           intro yF hs))
      exact bodyPost_ret (results_row_tmp2 (by rfl) _ _ g4 _ rfl (var_hd hs.blk HOG.out)) rfl ⟨by rw [HWL.out]; rfl, HI.out.bel.trans (hs.only.below HN4.out.2 HI.out.bel.size)⟩
end Go.Proofs.YtableajopaappaaDoor
/- The walk of chain's Follow (layer 11). -/
namespace Go.Proofs.YtableajopaappaaDoor
open Go.RowKit Go.Shelf
set_option maxRecDepth 100000
set_option maxRecDepth 100000 in
set_option maxHeartbeats 8000000 in
theorem chFollow_any (h : HdT) (s : SgT) (vs : Value) (w : World) (hK : KOk w) (oh : okH h) (os : okS s) (hr : Reads w vs s.2) :
    Calls Tryd.prog 44 #[.agg (hdC h).toArray, .agg (sgC s vs).toArray] w fun e w' => e = .returned (.tuple #[.agg (hdC (followR h s).1).toArray, .int .i64 (followR h s).2]) ∧ Below w.heap.size w w' := by
  obtain ⟨ads, cps, hvs, hqs⟩ := id hr
  clear hqs
  obtain ⟨ns, HNS⟩ : ∃ n, Hid (n = s.2.length) := ⟨_, rfl⟩
  rw [← HNS.out] at hvs
  have HR : Hid (Reads w vs s.2) := hr
  subst hvs
  obtain ⟨ch, HCH⟩ : ∃ c, Hid (c = hdC h) := ⟨_, rfl⟩
  obtain ⟨csg, HCS⟩ : ∃ c, Hid (c = sgC s (.slice ads ns cps)) := ⟨_, rfl⟩
  obtain ⟨n, HNN⟩ : ∃ n, Hid (n = h.1) := ⟨_, rfl⟩
  obtain ⟨m, HMM⟩ : ∃ n, Hid (n = s.1.1) := ⟨_, rfl⟩
  rw [← HCH.out, ← HCS.out]
  have HOH : Hid (okH h) := oh
  have HOS : Hid (okS s) := os
  have HIH : Hid ((Tryd.prog.info? 50).map (·.size) = some ch.length) := by show _ = _; rw [HCH.out]; exact info_hdC HOH.out
  have HBW : Hid (Below w.heap.size w w) := Below.refl _ _
  have hm0 : (m : Int) < 18446744073709551616 := by have := os.2.2.2; rw [HMM.out]; omega
  have HKW : Hid (∀ W : World, Below w.heap.size w W → KOk W) := fun W hh => hK.below hh hK.lt
  clear oh os hr hK
  by_cases h64 : 64 ≤ n
  · have HFR : Hid (followR h s = (zeroH, 10)) := by show _ = _; unfold followR; rw [if_pos (Or.inl (by rw [← HNN.out]; exact h64))]
    have HSP : Hid (∀ W : World, Calls Tryd.prog 72 #[.agg ch.toArray] W fun e w' => e = .returned (.bool true) ∧ Below W.heap.size W w') := fun W => by have := chSpent_any h W; rw [← HCH.out, ← HNN.out, decide_eq_true h64] at this; exact this
    have c64 : (64 : Int) ≤ (n : Int) := by omega
    have d64 : decide ((64 : Int) ≤ (n : Int)) = true := decide_eq_true c64
    clear hm0
    go_enter Tryd.func44, Tryd.ntmps44
    have tk0 : Hid True := trivial
    have tk1 : Hid True := trivial
    have tk2 : Hid True := trivial
    have tk3 : Hid True := trivial
    have tk4 : Hid True := trivial
    have tk90 : Hid True := trivial
    have tk91 : Hid True := trivial
    go_wp2_with (first
    | (clear tk0; with_reducible refine wpSeq_boxW 50 (.tmp 0) ch ?_ ?_ ?_ ?_
       · rfl
       · rfl
       · rfl
       intro g2 y1 nn
       have HG2 : Hid (Blk y1 g2 ch 50) := nn.blk
       replace HBW : Hid (Below w.heap.size w y1) := HBW.out.trans (nn.below.mono HBW.out.size)
       clear nn)
    | (clear tk1; with_reducible refine wpSeq_boxW 30 (.tmp 1) csg ?_ ?_ ?_ ?_
       · rfl
       · rfl
       · rfl
       intro g3 y2 nn
       replace HG2 : Hid (Blk y2 g2 ch 50) := HG2.out.below nn.below HG2.out.lt
       have HG3 : Hid (Blk y2 g3 csg 30) := nn.blk
       replace HBW : Hid (Below w.heap.size w y2) := HBW.out.trans (nn.below.mono HBW.out.size)
       clear nn)
    | (clear tk2; with_reducible refine wpSeq_allocH ?_ ?_ ?_
       · rfl
       · rfl
       intro g4 y2b nn
       have HN4 : Hid (g2 ≠ g4 ∧ g3 ≠ g4 ∧ w.heap.size ≤ g4) := by have h1 := HG2.out.lt; have h2 := HG3.out.lt; have h3 := nn.ge; have h4 := HBW.out.size; exact ⟨by omega, by omega, by omega⟩
       replace HG2 : Hid (Blk y2b g2 ch 50) := HG2.out.below nn.below HG2.out.lt
       replace HG3 : Hid (Blk y2b g3 csg 30) := HG3.out.below nn.below HG3.out.lt
       have HG4 : Hid (Blk y2b g4 (hdC zeroH) 50) := nn.blk
       replace HBW : Hid (Below w.heap.size w y2b) := HBW.out.trans (nn.below.mono HBW.out.size)
       clear nn)
    | (clear tk90; with_reducible refine wpSeq_loadW 50 (.tmp 2) g2 0 ch _ ?_ Tryd.underlying50 rfl ?_ ?_ ?_ ?_ ?_
       · exact HG2.out.range
       · exact HIH.out
       · rfl
       · rfl
       · rfl)
    | (clear tk91; go_at_call 72; refine (HSP.out y2b).mono ?_; rintro e y3 ⟨rfl, hbz⟩
       replace HG2 : Hid (Blk y3 g2 ch 50) := HG2.out.below hbz HG2.out.lt
       replace HG3 : Hid (Blk y3 g3 csg 30) := HG3.out.below hbz HG3.out.lt
       replace HG4 : Hid (Blk y3 g4 (hdC zeroH) 50) := HG4.out.below hbz HG4.out.lt
       replace HBW : Hid (Below w.heap.size w y3) := HBW.out.trans (hbz.mono HBW.out.size)
       have ce : y3.cell? ⟨g2, 0, none⟩ = some (.int .u64 (n : Int)) := by have := HG2.out.cell 0; rw [HCH.out] at this; rw [HNN.out]; exact this
       have cm : y3.cell? ⟨g3, 0, none⟩ = some (.int .u64 (m : Int)) := by have := HG3.out.cell 0; rw [HCS.out] at this; rw [HMM.out]; exact this
       clear hbz)
    | (clear tk3; with_reducible refine wpSeq_build 50 [] (hdC zeroH) ?_ ?_ ?_ ?_
       · exact built_head []
       · rfl
       · rfl)
    | (clear tk4; with_reducible refine wpSeq_storeRow 50 (.tmp 4) (.tmp 18) g4 (hdC zeroH) (hdC zeroH) ?_ ?_ ?_ ?_ ?_ ?_ ?_ ?_ ?_
       · exact HG4.out
       · rfl
       · exact info_hdC okH_zero
       · exact hdC_one _
       · rfl
       · rfl
       · rfl
       · rfl
       intro y4 hs))
    exact bodyPost_ret (results_row_tmp (by rfl) _ _ g4 _ rfl (var_hd hs.blk okH_zero)) rfl ⟨by rw [HFR.out]; rfl, HBW.out.trans (hs.only.below HN4.out.2.2 HBW.out.size)⟩
  have HSP : Hid (∀ W : World, Calls Tryd.prog 72 #[.agg ch.toArray] W fun e w' => e = .returned (.bool false) ∧ Below W.heap.size W w') := fun W => by have := chSpent_any h W; rw [← HCH.out, ← HNN.out, decide_eq_false h64] at this; exact this
  have hn64 : n < 64 := by omega
  have c64 : ¬ ((64 : Int) ≤ (n : Int)) := by omega
  have d64 : decide ((64 : Int) ≤ (n : Int)) = false := decide_eq_false c64
  have f1 : IntKind.u64.wrap ((n : Int) + 1) = (n : Int) + 1 := by rw [IntKind.wrap_u64]; omega
  by_cases hep : m = n + 1
  case neg =>
    have HFR : Hid (followR h s = (zeroH, 10)) := by show _ = _; unfold followR; rw [if_pos (Or.inr (by rw [← HNN.out, ← HMM.out]; exact hep))]
    have e1 : ((m : Int) == (n : Int) + 1) = false := by rw [beq_eq_false_iff_ne]; omega
    have e2 : ((m : Int) != (n : Int) + 1) = true := by rw [bne, e1]; rfl
    clear hm0 hep h64
    go_enter Tryd.func44, Tryd.ntmps44
    have tk0 : Hid True := trivial
    have tk1 : Hid True := trivial
    have tk2 : Hid True := trivial
    have tk3 : Hid True := trivial
    have tk4 : Hid True := trivial
    have tk90 : Hid True := trivial
    have tk91 : Hid True := trivial
    go_wp2_with (first
    | (clear tk0; with_reducible refine wpSeq_boxW 50 (.tmp 0) ch ?_ ?_ ?_ ?_
       · rfl
       · rfl
       · rfl
       intro g2 y1 nn
       have HG2 : Hid (Blk y1 g2 ch 50) := nn.blk
       replace HBW : Hid (Below w.heap.size w y1) := HBW.out.trans (nn.below.mono HBW.out.size)
       clear nn)
    | (clear tk1; with_reducible refine wpSeq_boxW 30 (.tmp 1) csg ?_ ?_ ?_ ?_
       · rfl
       · rfl
       · rfl
       intro g3 y2 nn
       replace HG2 : Hid (Blk y2 g2 ch 50) := HG2.out.below nn.below HG2.out.lt
       have HG3 : Hid (Blk y2 g3 csg 30) := nn.blk
       replace HBW : Hid (Below w.heap.size w y2) := HBW.out.trans (nn.below.mono HBW.out.size)
       clear nn)
    | (clear tk2; with_reducible refine wpSeq_allocH ?_ ?_ ?_
       · rfl
       · rfl
       intro g4 y2b nn
       have HN4 : Hid (g2 ≠ g4 ∧ g3 ≠ g4 ∧ w.heap.size ≤ g4) := by have h1 := HG2.out.lt; have h2 := HG3.out.lt; have h3 := nn.ge; have h4 := HBW.out.size; exact ⟨by omega, by omega, by omega⟩
       replace HG2 : Hid (Blk y2b g2 ch 50) := HG2.out.below nn.below HG2.out.lt
       replace HG3 : Hid (Blk y2b g3 csg 30) := HG3.out.below nn.below HG3.out.lt
       have HG4 : Hid (Blk y2b g4 (hdC zeroH) 50) := nn.blk
       replace HBW : Hid (Below w.heap.size w y2b) := HBW.out.trans (nn.below.mono HBW.out.size)
       clear nn)
    | (clear tk90; with_reducible refine wpSeq_loadW 50 (.tmp 2) g2 0 ch _ ?_ Tryd.underlying50 rfl ?_ ?_ ?_ ?_ ?_
       · exact HG2.out.range
       · exact HIH.out
       · rfl
       · rfl
       · rfl)
    | (clear tk91; go_at_call 72; refine (HSP.out y2b).mono ?_; rintro e y3 ⟨rfl, hbz⟩
       replace HG2 : Hid (Blk y3 g2 ch 50) := HG2.out.below hbz HG2.out.lt
       replace HG3 : Hid (Blk y3 g3 csg 30) := HG3.out.below hbz HG3.out.lt
       replace HG4 : Hid (Blk y3 g4 (hdC zeroH) 50) := HG4.out.below hbz HG4.out.lt
       replace HBW : Hid (Below w.heap.size w y3) := HBW.out.trans (hbz.mono HBW.out.size)
       have ce : y3.cell? ⟨g2, 0, none⟩ = some (.int .u64 (n : Int)) := by have := HG2.out.cell 0; rw [HCH.out] at this; rw [HNN.out]; exact this
       have cm : y3.cell? ⟨g3, 0, none⟩ = some (.int .u64 (m : Int)) := by have := HG3.out.cell 0; rw [HCS.out] at this; rw [HMM.out]; exact this
       clear hbz)
    | (clear tk3; with_reducible refine wpSeq_build 50 [] (hdC zeroH) ?_ ?_ ?_ ?_
       · exact built_head []
       · rfl
       · rfl)
    | (clear tk4; with_reducible refine wpSeq_storeRow 50 (.tmp 4) (.tmp 18) g4 (hdC zeroH) (hdC zeroH) ?_ ?_ ?_ ?_ ?_ ?_ ?_ ?_ ?_
       · exact HG4.out
       · rfl
       · exact info_hdC okH_zero
       · exact hdC_one _
       · rfl
       · rfl
       · rfl
       · rfl
       intro y4 hs))
    exact bodyPost_ret (results_row_tmp (by rfl) _ _ g4 _ rfl (var_hd hs.blk okH_zero)) rfl ⟨by rw [HFR.out]; rfl, HBW.out.trans (hs.only.below HN4.out.2.2 HBW.out.size)⟩
  case pos =>
    have e1 : ((m : Int) == (n : Int) + 1) = true := by rw [beq_iff_eq]; omega
    have e2 : ((m : Int) != (n : Int) + 1) = false := by rw [bne, e1]; rfl
    have HEP : Hid (¬ (64 ≤ h.1 ∨ s.1.1 ≠ h.1 + 1)) := by show ¬ _; rw [← HNN.out, ← HMM.out]; rintro (h1 | h1); exact h64 h1; exact h1 hep
    obtain ⟨pv, HPV⟩ : ∃ c, Hid (c = s.1.2.1) := ⟨_, rfl⟩
    obtain ⟨nx, HNX⟩ : ∃ c, Hid (c = s.1.2.2.2) := ⟨_, rfl⟩
    obtain ⟨hr0, HHR⟩ : ∃ c, Hid (c = h.2.1) := ⟨_, rfl⟩
    obtain ⟨ky, HKY⟩ : ∃ c, Hid (c = h.2.2) := ⟨_, rfl⟩
    have HLN : Hid (pv.length = 32 ∧ nx.length = 32 ∧ hr0.length = 32 ∧ ky.length = 32) := by rw [HPV.out, HNX.out, HHR.out, HKY.out]; exact ⟨HOS.out.1, HOS.out.2.2.1, HOH.out.1, HOH.out.2.1⟩
    obtain ⟨o, HO⟩ : ∃ o, Hid (o = decide (pv = hr0)) := ⟨_, rfl⟩
    have heq : ∀ wx : World, (Op.equalIn 10000 23 (.agg (cb pv).toArray) (.agg (cb hr0).toArray)).run Tryd.prog wx = .ok o wx := fun wx => by rw [HO.out]; exact eq_dig pv hr0 HLN.out.1 HLN.out.2.2.1 wx
    obtain ⟨rt, HRT⟩ : ∃ c, Hid (c = rtC s) := ⟨_, rfl⟩
    obtain ⟨rb, HRB⟩ : ∃ c, Hid (c = rbS s) := ⟨_, rfl⟩
    have HLB : Hid (rb.length = 105) := by show _ = _; rw [HRB.out]; exact len_rbS HOS.out
    obtain ⟨dg, HDG⟩ : ∃ c, Hid (c = dig rb) := ⟨_, rfl⟩
    have HDL : Hid (dg.length = 32) := by show _ = _; rw [HDG.out]; exact len_dig' _
    obtain ⟨ck, HCK⟩ : ∃ c, Hid (c = checkE ky rb s.2) := ⟨_, rfl⟩
    have HC1 : Hid (∀ W : World, Below w.heap.size w W → Calls Tryd.prog 73 #[.agg rt.toArray] W fun e w' => ∃ v, e = .returned v ∧ Reads w' v rb ∧ Below W.heap.size W w') := fun W hh => by rw [HRT.out, HRB.out]; exact tRoot_any _ _ _ _ W ⟨HOS.out.1, HOS.out.2.1, HOS.out.2.2.1, HOS.out.2.2.2⟩
    have HC2 : Hid (∀ (W : World) (v : Value), Below w.heap.size w W → Reads W v rb → Calls Tryd.prog 74 #[.agg (cb ky).toArray, v, .slice ads ns cps] W fun e w' => e = .returned (.int .i64 ck) ∧ Below W.heap.size W w') := fun W v hh hv => by rw [HCK.out]; exact lCheck_any ky v _ rb s.2 W (HKW.out W hh) HLN.out.2.2.2 hv (HR.out.below hh) (by rw [HLB.out]; decide)
    have HC3 : Hid (∀ (W : World) (v : Value), Below w.heap.size w W → Reads W v rb → Calls Tryd.prog 75 #[v] W fun e w' => e = .returned (.agg (cb dg).toArray) ∧ Below W.heap.size W w') := fun W v hh hv => by rw [HDG.out]; exact tOf_any v rb W (HKW.out W hh) hv (by rw [HLB.out]; omega)
    have HFR : Hid (followR h s = if o = true ∧ ck = 0 then ((m, dg, nx), 0) else (zeroH, 15)) := by
      show _ = _
      unfold followR
      rw [if_neg HEP.out, HMM.out, HDG.out, HNX.out, HRB.out, HCK.out, HRB.out, HKY.out, HO.out, HPV.out, HHR.out]
      by_cases q1 : s.1.2.1 = h.2.1
      · by_cases q2 : checkE h.2.2 (rbS s) s.2 = 0
        · rw [if_neg (by rintro (k | k); exact k q1; exact k q2), if_pos ⟨decide_eq_true q1, q2⟩]
        · rw [if_pos (Or.inr q2), if_neg (fun k => q2 k.2)]
      · rw [if_pos (Or.inl q1), if_neg (fun k => q1 (of_decide_eq_true k.1))]
    have HTC : Hid (∀ (W : World) (g : Nat), Blk W g ch 50 → HdAt W g 0 h) := fun W g hg => by rw [HCH.out] at hg; exact hg.hdAt HOH.out
    have HTS : Hid (∀ (W : World) (g : Nat), Blk W g csg 30 → SgAt W g 0 s (.slice ads ns cps)) := fun W g hg => by rw [HCS.out] at hg; exact hg.sgAt HOS.out
    clear hep h64 hm0 HEP HO HDG HCK HRB
    have HIR : Hid ((Tryd.prog.info? 27).map (·.size) = some rt.length) := by show _ = _; rw [HRT.out]; exact info_rtC HOS.out
    cases o with
    | false =>
      go_enter Tryd.func44, Tryd.ntmps44
      have tk0 : Hid True := trivial
      have tk1 : Hid True := trivial
      have tk2 : Hid True := trivial
      have tk90 : Hid True := trivial
      have tk91 : Hid True := trivial
      have tk30 : Hid True := trivial
      have tk31 : Hid True := trivial
      have tk32 : Hid True := trivial
      have tk33 : Hid True := trivial
      have tk34 : Hid True := trivial
      have tk35 : Hid True := trivial
      go_wp2_with (first
        | (clear tk0; with_reducible refine wpSeq_boxW 50 (.tmp 0) ch ?_ ?_ ?_ ?_
           · rfl
           · rfl
           · rfl
           intro g2 y1 nn
           have HG2 : Hid (Blk y1 g2 ch 50) := nn.blk
           replace HBW : Hid (Below w.heap.size w y1) := HBW.out.trans (nn.below.mono HBW.out.size)
           clear nn)
        | (clear tk1; with_reducible refine wpSeq_boxW 30 (.tmp 1) csg ?_ ?_ ?_ ?_
           · rfl
           · rfl
           · rfl
           intro g3 y2 nn
           replace HG2 : Hid (Blk y2 g2 ch 50) := HG2.out.below nn.below HG2.out.lt
           have HG3 : Hid (Blk y2 g3 csg 30) := nn.blk
           replace HBW : Hid (Below w.heap.size w y2) := HBW.out.trans (nn.below.mono HBW.out.size)
           clear nn)
        | (clear tk2; with_reducible refine wpSeq_allocH ?_ ?_ ?_
           · rfl
           · rfl
           intro g4 y2b nn
           have HN4 : Hid (g2 ≠ g4 ∧ g3 ≠ g4 ∧ w.heap.size ≤ g4) := by have h1 := HG2.out.lt; have h2 := HG3.out.lt; have h3 := nn.ge; have h4 := HBW.out.size; exact ⟨by omega, by omega, by omega⟩
           replace HG2 : Hid (Blk y2b g2 ch 50) := HG2.out.below nn.below HG2.out.lt
           replace HG3 : Hid (Blk y2b g3 csg 30) := HG3.out.below nn.below HG3.out.lt
           have HG4 : Hid (Blk y2b g4 (hdC zeroH) 50) := nn.blk
           replace HBW : Hid (Below w.heap.size w y2b) := HBW.out.trans (nn.below.mono HBW.out.size)
           clear nn)
        | (clear tk90; with_reducible refine wpSeq_loadW 50 (.tmp 2) g2 0 ch _ ?_ Tryd.underlying50 rfl ?_ ?_ ?_ ?_ ?_
           · exact HG2.out.range
           · exact HIH.out
           · rfl
           · rfl
           · rfl)
        | (clear tk91; go_at_call 72; refine (HSP.out y2b).mono ?_; rintro e y3 ⟨rfl, hbz⟩
           replace HG2 : Hid (Blk y3 g2 ch 50) := HG2.out.below hbz HG2.out.lt
           replace HG3 : Hid (Blk y3 g3 csg 30) := HG3.out.below hbz HG3.out.lt
           replace HG4 : Hid (Blk y3 g4 (hdC zeroH) 50) := HG4.out.below hbz HG4.out.lt
           replace HBW : Hid (Below w.heap.size w y3) := HBW.out.trans (hbz.mono HBW.out.size)
           have ce : y3.cell? ⟨g2, 0, none⟩ = some (.int .u64 (n : Int)) := by have := HG2.out.cell 0; rw [HCH.out] at this; rw [HNN.out]; exact this
           have cm : y3.cell? ⟨g3, 0, none⟩ = some (.int .u64 (m : Int)) := by have := HG3.out.cell 0; rw [HCS.out] at this; rw [HMM.out]; exact this
           clear hbz)
        | (clear tk30; with_reducible refine wpSeq_loadW 27 (.tmp 19) g3 0 rt _ ?_ Tryd.underlying27 rfl ?_ ?_ ?_ ?_ ?_
           · exact (by rw [HRT.out]; exact (HTS.out _ _ HG3.out).root)
           · exact HIR.out
           · rfl
           · rfl
           · rfl)
        | (clear tk31; go_at_call 73; refine (HC1.out y3 HBW.out).mono ?_; rintro e y31 ⟨vb, rfl, hvb, hbz⟩
           clear ce cm
           replace HG2 : Hid (Blk y31 g2 ch 50) := HG2.out.below hbz HG2.out.lt
           replace HG3 : Hid (Blk y31 g3 csg 30) := HG3.out.below hbz HG3.out.lt
           replace HG4 : Hid (Blk y31 g4 (hdC zeroH) 50) := HG4.out.below hbz HG4.out.lt
           replace HBW : Hid (Below w.heap.size w y31) := HBW.out.trans (hbz.mono HBW.out.size)
           have HVB : Hid (Reads y31 vb rb) := hvb
           have cv : y31.cell? ⟨g3, 97, none⟩ = some (.slice ads ns cps) := by have := (HTS.out _ _ HG3.out).sig; rwa [Nat.zero_add] at this
           clear hbz hvb)
        | (clear tk32; with_reducible refine wpSeq_loadAt (.tmp 23) g3 1 pv ?_ ?_ ?_ ?_ ?_ ?_
           · exact HLN.out.1
           · rw [HPV.out]; exact (HTS.out _ _ HG3.out).prev
           · rfl
           · rfl
           · rfl)
        | (clear tk33; with_reducible refine wpSeq_loadAt (.tmp 25) g2 1 hr0 ?_ ?_ ?_ ?_ ?_ ?_
           · exact HLN.out.2.2.1
           · rw [HHR.out]; exact (HTC.out _ _ HG2.out).rt
           · rfl
           · rfl
           · rfl)
        | (clear tk34; with_reducible refine wpSeq_build 50 [] (hdC zeroH) ?_ ?_ ?_ ?_
           · exact built_head []
           · rfl
           · rfl)
        | (clear tk35; with_reducible refine wpSeq_storeRow 50 (.tmp 4) (.tmp 37) g4 (hdC zeroH) (hdC zeroH) ?_ ?_ ?_ ?_ ?_ ?_ ?_ ?_ ?_
           · exact HG4.out
           · rfl
           · exact info_hdC okH_zero
           · exact hdC_one _
           · rfl
           · rfl
           · rfl
           · rfl
           intro y99 hs))
      exact bodyPost_ret (results_row_tmp (by rfl) _ _ g4 _ rfl (var_hd hs.blk okH_zero)) rfl ⟨by rw [HFR.out, if_neg (fun k => by cases k.1)]; rfl, HBW.out.trans (hs.only.below HN4.out.2.2 HBW.out.size)⟩
    | true =>
      by_cases hck : ck = 0
      case neg =>
        have k1 : (ck == 0) = false := by rw [beq_eq_false_iff_ne]; exact hck
        have k2 : (ck != 0) = true := by rw [bne, k1]; rfl
        go_enter Tryd.func44, Tryd.ntmps44
        have tk0 : Hid True := trivial
        have tk1 : Hid True := trivial
        have tk2 : Hid True := trivial
        have tk90 : Hid True := trivial
        have tk91 : Hid True := trivial
        have tk30 : Hid True := trivial
        have tk31 : Hid True := trivial
        have tk32 : Hid True := trivial
        have tk33 : Hid True := trivial
        have tk34 : Hid True := trivial
        have tk35 : Hid True := trivial
        have tk36 : Hid True := trivial
        have tk37 : Hid True := trivial
        go_wp2_with (first
          | (clear tk0; with_reducible refine wpSeq_boxW 50 (.tmp 0) ch ?_ ?_ ?_ ?_
             · rfl
             · rfl
             · rfl
             intro g2 y1 nn
             have HG2 : Hid (Blk y1 g2 ch 50) := nn.blk
             replace HBW : Hid (Below w.heap.size w y1) := HBW.out.trans (nn.below.mono HBW.out.size)
             clear nn)
          | (clear tk1; with_reducible refine wpSeq_boxW 30 (.tmp 1) csg ?_ ?_ ?_ ?_
             · rfl
             · rfl
             · rfl
             intro g3 y2 nn
             replace HG2 : Hid (Blk y2 g2 ch 50) := HG2.out.below nn.below HG2.out.lt
             have HG3 : Hid (Blk y2 g3 csg 30) := nn.blk
             replace HBW : Hid (Below w.heap.size w y2) := HBW.out.trans (nn.below.mono HBW.out.size)
             clear nn)
          | (clear tk2; with_reducible refine wpSeq_allocH ?_ ?_ ?_
             · rfl
             · rfl
             intro g4 y2b nn
             have HN4 : Hid (g2 ≠ g4 ∧ g3 ≠ g4 ∧ w.heap.size ≤ g4) := by have h1 := HG2.out.lt; have h2 := HG3.out.lt; have h3 := nn.ge; have h4 := HBW.out.size; exact ⟨by omega, by omega, by omega⟩
             replace HG2 : Hid (Blk y2b g2 ch 50) := HG2.out.below nn.below HG2.out.lt
             replace HG3 : Hid (Blk y2b g3 csg 30) := HG3.out.below nn.below HG3.out.lt
             have HG4 : Hid (Blk y2b g4 (hdC zeroH) 50) := nn.blk
             replace HBW : Hid (Below w.heap.size w y2b) := HBW.out.trans (nn.below.mono HBW.out.size)
             clear nn)
          | (clear tk90; with_reducible refine wpSeq_loadW 50 (.tmp 2) g2 0 ch _ ?_ Tryd.underlying50 rfl ?_ ?_ ?_ ?_ ?_
             · exact HG2.out.range
             · exact HIH.out
             · rfl
             · rfl
             · rfl)
          | (clear tk91; go_at_call 72; refine (HSP.out y2b).mono ?_; rintro e y3 ⟨rfl, hbz⟩
             replace HG2 : Hid (Blk y3 g2 ch 50) := HG2.out.below hbz HG2.out.lt
             replace HG3 : Hid (Blk y3 g3 csg 30) := HG3.out.below hbz HG3.out.lt
             replace HG4 : Hid (Blk y3 g4 (hdC zeroH) 50) := HG4.out.below hbz HG4.out.lt
             replace HBW : Hid (Below w.heap.size w y3) := HBW.out.trans (hbz.mono HBW.out.size)
             have ce : y3.cell? ⟨g2, 0, none⟩ = some (.int .u64 (n : Int)) := by have := HG2.out.cell 0; rw [HCH.out] at this; rw [HNN.out]; exact this
             have cm : y3.cell? ⟨g3, 0, none⟩ = some (.int .u64 (m : Int)) := by have := HG3.out.cell 0; rw [HCS.out] at this; rw [HMM.out]; exact this
             clear hbz)
          | (clear tk30; with_reducible refine wpSeq_loadW 27 (.tmp 19) g3 0 rt _ ?_ Tryd.underlying27 rfl ?_ ?_ ?_ ?_ ?_
             · exact (by rw [HRT.out]; exact (HTS.out _ _ HG3.out).root)
             · exact HIR.out
             · rfl
             · rfl
             · rfl)
          | (clear tk31; go_at_call 73; refine (HC1.out y3 HBW.out).mono ?_; rintro e y31 ⟨vb, rfl, hvb, hbz⟩
             clear ce cm
             replace HG2 : Hid (Blk y31 g2 ch 50) := HG2.out.below hbz HG2.out.lt
             replace HG3 : Hid (Blk y31 g3 csg 30) := HG3.out.below hbz HG3.out.lt
             replace HG4 : Hid (Blk y31 g4 (hdC zeroH) 50) := HG4.out.below hbz HG4.out.lt
             replace HBW : Hid (Below w.heap.size w y31) := HBW.out.trans (hbz.mono HBW.out.size)
             have HVB : Hid (Reads y31 vb rb) := hvb
             have cv : y31.cell? ⟨g3, 97, none⟩ = some (.slice ads ns cps) := by have := (HTS.out _ _ HG3.out).sig; rwa [Nat.zero_add] at this
             clear hbz hvb)
          | (clear tk32; with_reducible refine wpSeq_loadAt (.tmp 23) g3 1 pv ?_ ?_ ?_ ?_ ?_ ?_
             · exact HLN.out.1
             · rw [HPV.out]; exact (HTS.out _ _ HG3.out).prev
             · rfl
             · rfl
             · rfl)
          | (clear tk33; with_reducible refine wpSeq_loadAt (.tmp 25) g2 1 hr0 ?_ ?_ ?_ ?_ ?_ ?_
             · exact HLN.out.2.2.1
             · rw [HHR.out]; exact (HTC.out _ _ HG2.out).rt
             · rfl
             · rfl
             · rfl)
          | (clear tk34; with_reducible refine wpSeq_loadAt (.tmp 29) g2 33 ky ?_ ?_ ?_ ?_ ?_ ?_
             · exact HLN.out.2.2.2
             · rw [HKY.out]; exact (HTC.out _ _ HG2.out).ky
             · rfl
             · rfl
             · rfl)
          | (clear tk35; go_at_call 74; refine (HC2.out y31 vb HBW.out HVB.out).mono ?_; rintro e y32 ⟨rfl, hbz⟩
             clear cv
             replace HG2 : Hid (Blk y32 g2 ch 50) := HG2.out.below hbz HG2.out.lt
             replace HG3 : Hid (Blk y32 g3 csg 30) := HG3.out.below hbz HG3.out.lt
             replace HG4 : Hid (Blk y32 g4 (hdC zeroH) 50) := HG4.out.below hbz HG4.out.lt
             replace HBW : Hid (Below w.heap.size w y32) := HBW.out.trans (hbz.mono HBW.out.size)
             replace HVB : Hid (Reads y32 vb rb) := HVB.out.below hbz
             clear hbz )
          | (clear tk36; with_reducible refine wpSeq_build 50 [] (hdC zeroH) ?_ ?_ ?_ ?_
             · exact built_head []
             · rfl
             · rfl)
          | (clear tk37; with_reducible refine wpSeq_storeRow 50 (.tmp 4) (.tmp 37) g4 (hdC zeroH) (hdC zeroH) ?_ ?_ ?_ ?_ ?_ ?_ ?_ ?_ ?_
             · exact HG4.out
             · rfl
             · exact info_hdC okH_zero
             · exact hdC_one _
             · rfl
             · rfl
             · rfl
             · rfl
             intro y99 hs))
        exact bodyPost_ret (results_row_tmp (by rfl) _ _ g4 _ rfl (var_hd hs.blk okH_zero)) rfl ⟨by rw [HFR.out, if_neg (fun k => hck k.2)]; rfl, HBW.out.trans (hs.only.below HN4.out.2.2 HBW.out.size)⟩
      case pos =>
        have k1 : (ck == 0) = true := by rw [beq_iff_eq]; exact hck
        have k2 : (ck != 0) = false := by rw [bne, k1]; rfl
        have HKK : Hid (ck = 0) := hck
        have HOK : Hid (okH (m, dg, nx)) := okH_mk HDL.out HLN.out.2.1 (by have := HOS.out.2.2.2; rw [HMM.out]; exact this)
        clear hck
        go_enter Tryd.func44, Tryd.ntmps44
        have tk0 : Hid True := trivial
        have tk1 : Hid True := trivial
        have tk2 : Hid True := trivial
        have tk90 : Hid True := trivial
        have tk91 : Hid True := trivial
        have tk30 : Hid True := trivial
        have tk31 : Hid True := trivial
        have tk32 : Hid True := trivial
        have tk33 : Hid True := trivial
        have tk34 : Hid True := trivial
        have tk35 : Hid True := trivial
        go_upto_region 6 with (first
          | (clear tk0; with_reducible refine wpSeq_boxW 50 (.tmp 0) ch ?_ ?_ ?_ ?_
             · rfl
             · rfl
             · rfl
             intro g2 y1 nn
             have HG2 : Hid (Blk y1 g2 ch 50) := nn.blk
             replace HBW : Hid (Below w.heap.size w y1) := HBW.out.trans (nn.below.mono HBW.out.size)
             clear nn)
          | (clear tk1; with_reducible refine wpSeq_boxW 30 (.tmp 1) csg ?_ ?_ ?_ ?_
             · rfl
             · rfl
             · rfl
             intro g3 y2 nn
             replace HG2 : Hid (Blk y2 g2 ch 50) := HG2.out.below nn.below HG2.out.lt
             have HG3 : Hid (Blk y2 g3 csg 30) := nn.blk
             replace HBW : Hid (Below w.heap.size w y2) := HBW.out.trans (nn.below.mono HBW.out.size)
             clear nn)
          | (clear tk2; with_reducible refine wpSeq_allocH ?_ ?_ ?_
             · rfl
             · rfl
             intro g4 y2b nn
             have HN4 : Hid (g2 ≠ g4 ∧ g3 ≠ g4 ∧ w.heap.size ≤ g4) := by have h1 := HG2.out.lt; have h2 := HG3.out.lt; have h3 := nn.ge; have h4 := HBW.out.size; exact ⟨by omega, by omega, by omega⟩
             replace HG2 : Hid (Blk y2b g2 ch 50) := HG2.out.below nn.below HG2.out.lt
             replace HG3 : Hid (Blk y2b g3 csg 30) := HG3.out.below nn.below HG3.out.lt
             have HG4 : Hid (Blk y2b g4 (hdC zeroH) 50) := nn.blk
             replace HBW : Hid (Below w.heap.size w y2b) := HBW.out.trans (nn.below.mono HBW.out.size)
             clear nn)
          | (clear tk90; with_reducible refine wpSeq_loadW 50 (.tmp 2) g2 0 ch _ ?_ Tryd.underlying50 rfl ?_ ?_ ?_ ?_ ?_
             · exact HG2.out.range
             · exact HIH.out
             · rfl
             · rfl
             · rfl)
          | (clear tk91; go_at_call 72; refine (HSP.out y2b).mono ?_; rintro e y3 ⟨rfl, hbz⟩
             replace HG2 : Hid (Blk y3 g2 ch 50) := HG2.out.below hbz HG2.out.lt
             replace HG3 : Hid (Blk y3 g3 csg 30) := HG3.out.below hbz HG3.out.lt
             replace HG4 : Hid (Blk y3 g4 (hdC zeroH) 50) := HG4.out.below hbz HG4.out.lt
             replace HBW : Hid (Below w.heap.size w y3) := HBW.out.trans (hbz.mono HBW.out.size)
             have ce : y3.cell? ⟨g2, 0, none⟩ = some (.int .u64 (n : Int)) := by have := HG2.out.cell 0; rw [HCH.out] at this; rw [HNN.out]; exact this
             have cm : y3.cell? ⟨g3, 0, none⟩ = some (.int .u64 (m : Int)) := by have := HG3.out.cell 0; rw [HCS.out] at this; rw [HMM.out]; exact this
             clear hbz)
          | (clear tk30; with_reducible refine wpSeq_loadW 27 (.tmp 19) g3 0 rt _ ?_ Tryd.underlying27 rfl ?_ ?_ ?_ ?_ ?_
             · exact (by rw [HRT.out]; exact (HTS.out _ _ HG3.out).root)
             · exact HIR.out
             · rfl
             · rfl
             · rfl)
          | (clear tk31; go_at_call 73; refine (HC1.out y3 HBW.out).mono ?_; rintro e y31 ⟨vb, rfl, hvb, hbz⟩
             clear ce cm
             replace HG2 : Hid (Blk y31 g2 ch 50) := HG2.out.below hbz HG2.out.lt
             replace HG3 : Hid (Blk y31 g3 csg 30) := HG3.out.below hbz HG3.out.lt
             replace HG4 : Hid (Blk y31 g4 (hdC zeroH) 50) := HG4.out.below hbz HG4.out.lt
             replace HBW : Hid (Below w.heap.size w y31) := HBW.out.trans (hbz.mono HBW.out.size)
             have HVB : Hid (Reads y31 vb rb) := hvb
             have cv : y31.cell? ⟨g3, 97, none⟩ = some (.slice ads ns cps) := by have := (HTS.out _ _ HG3.out).sig; rwa [Nat.zero_add] at this
             clear hbz hvb)
          | (clear tk32; with_reducible refine wpSeq_loadAt (.tmp 23) g3 1 pv ?_ ?_ ?_ ?_ ?_ ?_
             · exact HLN.out.1
             · rw [HPV.out]; exact (HTS.out _ _ HG3.out).prev
             · rfl
             · rfl
             · rfl)
          | (clear tk33; with_reducible refine wpSeq_loadAt (.tmp 25) g2 1 hr0 ?_ ?_ ?_ ?_ ?_ ?_
             · exact HLN.out.2.2.1
             · rw [HHR.out]; exact (HTC.out _ _ HG2.out).rt
             · rfl
             · rfl
             · rfl)
          | (clear tk34; with_reducible refine wpSeq_loadAt (.tmp 29) g2 33 ky ?_ ?_ ?_ ?_ ?_ ?_
             · exact HLN.out.2.2.2
             · rw [HKY.out]; exact (HTC.out _ _ HG2.out).ky
             · rfl
             · rfl
             · rfl)
          | (clear tk35; go_at_call 74; refine (HC2.out y31 vb HBW.out HVB.out).mono ?_; rintro e y32 ⟨rfl, hbz⟩
             clear cv
             replace HG2 : Hid (Blk y32 g2 ch 50) := HG2.out.below hbz HG2.out.lt
             replace HG3 : Hid (Blk y32 g3 csg 30) := HG3.out.below hbz HG3.out.lt
             replace HG4 : Hid (Blk y32 g4 (hdC zeroH) 50) := HG4.out.below hbz HG4.out.lt
             replace HBW : Hid (Below w.heap.size w y32) := HBW.out.trans (hbz.mono HBW.out.size)
             replace HVB : Hid (Reads y32 vb rb) := HVB.out.below hbz
             clear hbz ))
        have HSA : Hid (SgAt y32 g3 0 s (.slice ads ns cps)) := HTS.out _ _ HG3.out
        refine wp_region_held_drew (S := Only g4 (World.drew y32)) (by kernel_rfl) (Only.refl _ _) ?_
        intro hS
        replace HG4 : Hid (Blk (World.drew y32) g4 (hdC zeroH) 50) := HG4.out.drew
        replace HBW : Hid (Below w.heap.size w (World.drew y32)) := HBW.out.drew
        replace HSA : Hid (SgAt (World.drew y32) g3 0 s (.slice ads ns cps)) := ⟨HSA.out.all, HSA.out.ok⟩
        replace HVB : Hid (Reads (World.drew y32) vb rb) := reads_drew HVB.out
        clear HG2 HG3
        change wpAnyH _ _ _ _ _ _ _ _ (World.drew y32)
        generalize World.drew y32 = y7 at *
        try simp only [Act.put]
        refine wpAnyH_take (i := 0) (v := .pointer (some ⟨g3, 0, none⟩)) rfl (by kernel_rfl) (by kernel_rfl) (by kernel_rfl) (fun _ _ _ h => h) (Or.inl ⟨by rfl, fun wx hx => by simp [go_sem]⟩) hS ?_
        simp only [Act.put, List.getElem_toArray, List.getElem_cons_zero, List.setIfInBounds_toArray, List.set_cons_zero, List.set_cons_succ]
        refine wpAnyH_take (i := 1) (v := .pointer (some ⟨g3, 0, none⟩)) rfl (by kernel_rfl) (by kernel_rfl) (by kernel_rfl) (fun _ _ _ h => h) (Or.inl ⟨by rfl, fun wx hx => by simp [go_sem]⟩) hS ?_
        simp only [Act.put, List.getElem_toArray, List.getElem_cons_succ, List.getElem_cons_zero, List.setIfInBounds_toArray, List.set_cons_zero, List.set_cons_succ]
        refine wpAnyH_take (i := 2) (v := .int .u64 (m : Int)) rfl (by kernel_rfl) (by kernel_rfl) (by kernel_rfl) (fun _ _ _ h => h) (Or.inl ⟨by rfl, fun wx hx => by (have cm : wx.cell? ⟨g3, 0, none⟩ = some (.int .u64 (m : Int)) := by rw [HMM.out]; exact (HSA.out.only hx HN4.out.2.1).ep); simp [go_sem, cm]⟩) hS ?_
        simp only [Act.put, List.getElem_toArray, List.getElem_cons_succ, List.getElem_cons_zero, List.setIfInBounds_toArray, List.set_cons_zero, List.set_cons_succ]
        refine wpAnyH_take (i := 3) (v := vb) rfl (by kernel_rfl) (by kernel_rfl) (by kernel_rfl) (fun _ _ _ h => h) (Or.inl ⟨by rfl, fun wx hx => by simp [go_sem]⟩) hS ?_
        simp only [Act.put, List.getElem_toArray, List.getElem_cons_succ, List.getElem_cons_zero, List.setIfInBounds_toArray, List.set_cons_zero, List.set_cons_succ]
        refine wpAnyH_take (i := 5) (v := .pointer (some ⟨g3, 0, none⟩)) rfl (by kernel_rfl) (by kernel_rfl) (by kernel_rfl) (fun _ _ _ h => h) (Or.inl ⟨by rfl, fun wx hx => by simp [go_sem]⟩) hS ?_
        simp only [Act.put, List.getElem_toArray, List.getElem_cons_succ, List.getElem_cons_zero, List.setIfInBounds_toArray, List.set_cons_zero, List.set_cons_succ]
        refine wpAnyH_take (i := 6) (v := .pointer (some ⟨g3, 65, none⟩)) rfl (by kernel_rfl) (by kernel_rfl) (by kernel_rfl) (fun _ _ _ h => h) (Or.inl ⟨by rfl, fun wx hx => by simp [go_sem]⟩) hS ?_
        simp only [Act.put, List.getElem_toArray, List.getElem_cons_succ, List.getElem_cons_zero, List.setIfInBounds_toArray, List.set_cons_zero, List.set_cons_succ]
        refine wpAnyH_take (i := 7) (v := .agg (cb nx).toArray) rfl (by kernel_rfl) (by kernel_rfl) (by kernel_rfl) (fun _ _ _ h => h) (Or.inl ⟨by rfl, fun wx hx => by exact loadDigAt _ g3 65 nx HLN.out.2.1 (by rw [HNX.out]; exact (HSA.out.only hx HN4.out.2.1).next) rfl rfl⟩) hS ?_
        simp only [Act.put, List.getElem_toArray, List.getElem_cons_succ, List.getElem_cons_zero, List.setIfInBounds_toArray, List.set_cons_zero, List.set_cons_succ]
        refine wpAnyH_enter 4 (by kernel_rfl) rfl (by rfl) (f := 75) (args := #[vb]) (by simp [go_sem]) (HC3.out _ vb HBW.out HVB.out) ?_
        rintro e y8 ⟨rfl, hbq⟩
        replace hS := hS.still hbq
        replace HG4 : Hid (Blk y8 g4 (hdC zeroH) 50) := HG4.out.below hbq HG4.out.lt
        replace HBW : Hid (Below w.heap.size w y8) := HBW.out.trans (hbq.mono HBW.out.size)
        refine ⟨_, rfl, hS, ?_⟩
        clear hbq
        simp only [Act.put, List.getElem_toArray, List.getElem_cons_succ, List.getElem_cons_zero, List.setIfInBounds_toArray, List.set_cons_zero, List.set_cons_succ]
        refine wpAnyH_take (i := 8) (v := .agg (hdC (m, dg, nx)).toArray) rfl (by kernel_rfl) (by kernel_rfl) (by kernel_rfl) (fun _ _ _ h => h) (Or.inl ⟨by rfl, fun wx hx => by refine build_op _ _ 50 [(0, .tmp 40), (1, .tmp 42), (2, .tmp 45)] rfl _ ?_ _; exact (built_head _).trans (fill_hd HDL.out HLN.out.2.1)⟩) hS ?_
        simp only [Act.put, List.getElem_toArray, List.getElem_cons_succ, List.getElem_cons_zero, List.setIfInBounds_toArray, List.set_cons_zero, List.set_cons_succ]
        refine wpAnyH_storeRow 9 50 (.tmp 4) (.tmp 46) g4 (hdC zeroH) (hdC (m, dg, nx)) HG4.out (by rw [len_hdC HOK.out, len_hdC okH_zero]) (info_hdC HOK.out) (hdC_one _) (by kernel_rfl) rfl (by rfl) rfl rfl rfl ?_
        intro y9 hs
        replace hS := hS.trans hs.only
        refine ⟨hS, ?_⟩
        simp only [Act.put, List.getElem_toArray, List.getElem_cons_succ, List.getElem_cons_zero]
        refine wpAnyH_take (i := 10) (v := .int .i64 0) rfl (by kernel_rfl) (by kernel_rfl) (by kernel_rfl) (fun _ _ _ h => h) (Or.inl ⟨by rfl, fun wx hx => by simp [go_sem]⟩) hS ?_
        simp only [Act.put, List.getElem_toArray, List.getElem_cons_succ, List.getElem_cons_zero, List.setIfInBounds_toArray, List.set_cons_zero, List.set_cons_succ]
        refine wpAnyH_done (by kernel_rfl) ?_ _
        go_wp2
        exact bodyPost_ret (results_row_tmp (by rfl) _ _ g4 _ rfl (var_hd hs.blk HOK.out)) rfl ⟨by rw [HFR.out, if_pos ⟨by trivial, HKK.out⟩]; rfl, HBW.out.trans (hs.only.below HN4.out.2.2 HBW.out.size)⟩
end Go.Proofs.YtableajopaappaaDoor
/- The walk of chain's Seal; all that chain does (layer 11). -/
namespace Go.Proofs.YtableajopaappaaDoor
open Go.RowKit Go.Shelf
set_option maxRecDepth 100000
end Go.Proofs.YtableajopaappaaDoor
/- The walks of codec.Num and blazonref04.Num: a number's groups of seven bits behind bytes. -/
namespace Go.Proofs.YtableajopaappaaDoor
open Go.RowKit
set_option maxRecDepth 100000
theorem enc_len (n : Nat) (k : Nat) (h : n < 128 ^ (k + 1)) : (encNum n).length ≤ k + 1 := by
  induction k generalizing n with
  | zero => rw [encNum_lt (by simpa using h)]; simp
  | succ k ih =>
    by_cases h1 : n < 128
    · rw [encNum_lt h1]; simp
    · rw [encNum_ge h1, List.length_cons]
      have := ih (n / 128) (by rw [Nat.pow_succ] at h; omega)
      omega
theorem enc_len10 (n : Nat) (h : n < 18446744073709551616) : (encNum n).length ≤ 10 := enc_len n 9 (by omega)
theorem or128 (m : Nat) : bits .or .u8 ((m : Int) % 256) 128 = (((BitVec.ofNat 8 (m % 128 + 128)).toNat : Nat) : Int) := by
  have key : ∀ x : BitVec 8, (x ||| 128#8).toNat = x.toNat % 128 + 128 := by decide
  have e : BitVec.ofInt 8 ((m : Int) % 256) = BitVec.ofNat 8 (m % 256) := by
    rw [show ((m : Int) % 256) = ((m % 256 : Nat) : Int) by omega, BitVec.ofInt_natCast]
  show IntKind.u8.wrap ((BitVec.ofInt 8 ((m : Int) % 256) ||| BitVec.ofInt 8 128).toNat : Int) = _
  rw [e, show (BitVec.ofInt 8 128 : BitVec 8) = 128#8 from rfl, key, BitVec.toNat_ofNat, BitVec.toNat_ofNat]
  simp [IntKind.wrap, IntKind.bits, IntKind.signed]
theorem enc_step {p : List (BitVec 8)} {m n : Nat} (hm : ¬ m < 128) (hp : p ++ encNum m = encNum n) : (p ++ [BitVec.ofNat 8 (m % 128 + 128)]) ++ encNum (m / 128) = encNum n := by
  rw [← hp, encNum_ge hm]; simp
structure NuInv (base : Nat) (w : World) (l : List (BitVec 8)) (n m : Nat) (p : List (BitVec 8)) (u : Value) (wr : World) : Prop where
  own : OwnB wr base u (l ++ p)
  bel : Below base w wr
  eq : p ++ encNum m = encNum n
  lt : m < 18446744073709551616
theorem NuInv.le {base : Nat} {w wr : World} {l p : List (BitVec 8)} {n m : Nat} {u : Value} (h : NuInv base w l n m p u wr) (hn : n < 18446744073709551616) : p.length < 10 := by
  have := enc_len10 n hn
  have h2 := congrArg List.length h.eq
  have h3 := encNum_pos m
  rw [List.length_append] at h2
  omega
set_option maxHeartbeats 400000 in
theorem cnum_any (base : Nat) (v : Value) (l : List (BitVec 8)) (n : Nat) (hn : n < 18446744073709551616) (w : World) (hown : OwnB w base v l) (hb : base ≤ w.heap.size) (hl : l.length + 10 ≤ 140737488355328) :
    Calls Tryd.prog 65 #[v, .int .u64 (n : Int)] w fun e w' => ∃ v', e = .returned v' ∧ OwnB w' base v' (l ++ encNum n) ∧ Below base w w' := by
  have HO : Hid (OwnB w base v l) := hown
  have HN : Hid (n < 18446744073709551616) := hn
  have HL : Hid (l.length + 10 ≤ 140737488355328) := hl
  have HB : Hid (base ≤ w.heap.size) := hb
  clear hown hn hl hb
  go_enter Tryd.func65, Tryd.ntmps65
  go_wp2
  go_loopw [0, 1] (fun u x wr => ∃ (p : List (BitVec 8)) (m : Nat), x = .int .u64 m ∧ NuInv base w l n m p u wr) (fun _ x _ => (intOf x).toNat)
  case atStart => exact ⟨[], n, rfl, by simpa using HO.out, Below.refl _ _, rfl, HN.out⟩
  case round =>
    obtain ⟨p, m, rfl, hI⟩ := hrel
    have HI : Hid (NuInv base w l n m p u0 wr) := hI
    have HP : Hid (p.length < 10) := hI.le HN.out
    have HS : Hid (base ≤ wr.heap.size) := Nat.le_trans HB.out hI.bel.size
    clear hI
    by_cases hlt : m < 128
    · have hge : ¬ (128 ≤ (m : Int)) := by omega
      have hx : (m : Int) % 256 = (m : Int) := by omega
      go_wp2_with (at_builtin; refine wpList_appendB rfl (.tmp 15) (.tmp 18) rfl base _ (l ++ p) rfl (HI.out.own.below ((Below.refl _ _).alloc (Nat.le_refl _) _) (Nat.le_refl _)) _ [BitVec.ofNat 8 m] rfl (reads_val wr _ _ ?_) (by have := HL.out; have := HP.out; simp; omega) (by have := HS.out; simp; omega) ?_; simp; omega; intro v2 w2 hown2 hb2 _)
      have HR : Hid (OwnB w2 base v2 (l ++ encNum n)) := by
        rw [← HI.out.eq, encNum_lt hlt, ← List.append_assoc]; exact hown2
      have hB : Below base w w2 := HI.out.bel.trans (((Below.refl _ _).alloc HS.out _).trans hb2)
      clear hown2 hb2 HI
      go_wp2
      go_ret
      exact ⟨_, rfl, HR.out, hB⟩
    · have hge : 128 ≤ (m : Int) := by omega
      have HLT : Hid (¬ m < 128) := hlt
      have hw : IntKind.u64.wrap ((m : Int) / 128) = (m : Int) / 128 := by have := HI.out.lt; rw [IntKind.wrap_u64]; omega
      clear hlt
      go_wp2_with (at_builtin; refine wpList_appendB rfl (.tmp 7) (.tmp 11) rfl base _ (l ++ p) rfl (HI.out.own.below ((Below.refl _ _).alloc (Nat.le_refl _) _) (Nat.le_refl _)) _ [BitVec.ofNat 8 (m % 128 + 128)] rfl (reads_val wr _ _ ?_) (by have := HL.out; have := HP.out; simp; omega) (by have := HS.out; simp; omega) ?_; (go_loud (rw [or128 m])); intro v2 w2 hown2 hb2 _)
      have hJ : NuInv base w l n (m / 128) (p ++ [BitVec.ofNat 8 (m % 128 + 128)]) v2 w2 := ⟨by rw [List.append_assoc] at hown2; exact hown2, HI.out.bel.trans (((Below.refl _ _).alloc HS.out _).trans hb2), enc_step HLT.out HI.out.eq, by have := HI.out.lt; omega⟩
      clear hown2 hb2 HI
      go_wp2
      go_roundw
      case rel => exact ⟨_, m / 128, by simp, hJ⟩
      case measure => simp [intOf]; omega
end Go.Proofs.YtableajopaappaaDoor
/- The walk of slices.Insert at bytes, where what is put in lies in a block of its own: what stood ahead, what is put in, what stood behind. -/
namespace Go.Proofs.YtableajopaappaaDoor
open Go.RowKit
set_option maxRecDepth 100000
theorem overlaps_no (w : World) (b vb x y m vc lb kb : Nat) (cs vs : List Value) (tA tB : TypeId) (hne : vb ≠ b) (hv : Blk w vb vs tA) (hb : Blk w b cs tB) (hc : cs ≠ []) :
    (callFunc 99 #[.slice (some ⟨vb, x, none⟩) m vc, .slice (some ⟨b, y, none⟩) lb kb]).run Tryd.prog w = .ok (.value (.bool false)) w := by
  have hz : ∀ w, (Go.sizeOf 5).run Tryd.prog w = .ok 1 w := fun w => by kernel_rfl
  have sa : w.shape? vb = some (tA, vs.length) := by have h := hv; unfold Blk at h; simp [World.shape?, h]
  have sb : w.shape? b = some (tB, cs.length) := by have h := hb; unfold Blk at h; simp [World.shape?, h]
  rw [run_callFunc_extern Tryd.func99 (by kernel_rfl) (by kernel_rfl) (by kernel_rfl) (e := Extern.SlicesOverlaps.overlaps #[28, 28] #[4]) (by kernel_rfl),
    Lib.run_overlaps_apart w 28 4 5 Tryd.underlying28 1 hz ⟨vb, x, none⟩ ⟨b, y, none⟩ m vc lb kb hne tA tB vs.length cs.length sa sb (by simpa using hc) (hv.frozen _) (hv.frozen _)]
  rfl
set_option maxHeartbeats 4000000 in
set_option maxRecDepth 100000 in
/-- there is room: in place -/
theorem ins_shift (b n c i vb m vc : Nat) (cs vs cur vcur : List Value) (w : World) (hi : i < n) (hm : 0 < m) (hroom : n + m ≤ c) (hc63 : c ≤ 9223372036854775807) (hvb : vb ≠ b)
    (hcl : cs.length = n) (hvl : vs.length = m) (hB : Blk w b cur 5) (hV : Blk w vb vcur 5) (hcap : cur.length = c) (hcs : cur.take n = cs) (hvs : vcur.take m = vs) (h1c : ∀ v ∈ cs, v.oneCell' = true) (h1v : ∀ v ∈ vs, v.oneCell' = true) :
    Calls Tryd.prog 88 #[.slice (some ⟨b, 0, none⟩) n c, .int .i64 i, .slice (some ⟨vb, 0, none⟩) m vc] w fun e w' =>
      e = .returned (.slice (some ⟨b, 0, none⟩) (n + m) c) ∧ w' = (w.drew.setCells b (i + m) (cs.drop i)).setCells b i vs := by
  have mixed : Tryd.prog.follows Departure.mixedOrders = true := by kernel_rfl
  have hz1 : ¬ ((m : Int) = 0) := by omega
  have hz2 : ¬ ((i : Int) = (n : Int)) := by omega
  have hsz : (Tryd.prog.info? 5).map (·.size) = some 1 := by kernel_rfl
  have hov : ∀ lb kb, (callFunc 99 #[.slice (some ⟨vb, 0, none⟩) m vc, .slice (some ⟨b, i + m, none⟩) lb kb]).run Tryd.prog w = .ok (.value (.bool false)) w := fun lb kb => overlaps_no w b vb 0 (i + m) m vc lb kb cur vcur _ _ hvb hV hB (by intro h; subst h; simp at hcap; omega)
  have hdl : (cs.drop i).length = n - i := by rw [List.length_drop, hcl]
  have hcc : ∀ j v, cs[j]? = some v → w.cell? ⟨b, j, none⟩ = some v := fun j v hj => by
    rw [hB.cell, ← hj, ← hcs, List.getElem?_take_of_lt (by have := (List.getElem?_eq_some_iff.1 hj).1; omega)]
  have hvv : ∀ j v, vs[j]? = some v → w.cell? ⟨vb, j, none⟩ = some v := fun j v hj => by
    rw [hV.cell, ← hj, ← hvs, List.getElem?_take_of_lt (by have := (List.getElem?_eq_some_iff.1 hj).1; omega)]
  have hsp : ∀ j, j < n + m → (w.cell? ⟨b, j, none⟩).isSome = true := fun j hj => by rw [hB.cell, List.getElem?_eq_getElem (by omega)]; rfl
  have hfz : ∀ j, w.frozen? ⟨b, j, none⟩ = false := fun j => hB.frozen j
  have hw1 : IntKind.i64.wrap ((i : Int) + (m : Int)) = (i : Int) + (m : Int) := by rw [IntKind.wrap_i64]; omega
  have hb1 : (0 : Int) ≤ (i : Int) + (m : Int) := by omega
  have hin : i ≤ n := by omega
  have htn : ((i : Int) + (m : Int)).toNat = i + m := by omega
  have hb2 : ¬ (c = i + m) := by omega
  have hb3 : (i : Int) ≤ (n : Int) + (m : Int) := by omega
  have hb4 : ¬ (c = i) := by omega
  have hcp1 : ∀ ty dc sc, (Builtin.copy_ #[28, 28] ty #[.slice (some ⟨b, i + m, none⟩) (n + m - (i + m)) dc, .slice (some ⟨b, i, none⟩) (n + m - i) sc]).run Tryd.prog w.drew = .ok (goInt (cs.drop i).length) (w.drew.setCells b (i + m) (cs.drop i)) := fun ty dc sc =>
    run_copy_cells w.drew _ _ ty 5 b (i + m) (n + m - (i + m)) dc ⟨b, i, none⟩ (n + m - i) sc (cs.drop i) Tryd.underlying28 hsz (by rw [hdl]; simp only [Nat.min_def]; split <;> omega)
      (fun j v hj => by rw [Addr.add_lit]; exact hcc (i + j) v (by rwa [List.getElem?_drop] at hj))
      (fun j hj => hsp _ (by omega)) (fun j hj => hfz _) (fun v hv => h1c v (List.mem_of_mem_drop hv))
  obtain ⟨W1, hW1⟩ : ∃ W1, W1 = w.drew.setCells b (i + m) (cs.drop i) := ⟨_, rfl⟩
  have hsp1 : ∀ k, k < n + m → (W1.cell? ⟨b, k, none⟩).isSome = true := fun k hk => by
    rw [hW1]
    exact isSome_setCells b (cs.drop i) (i + m) w.drew (fun j hj => hsp (i + m + j) (by omega)) k (hsp k hk)
  have hcp2 : ∀ (W : World), (∀ x, W.cell? x = W1.cell? x) → (∀ x, W.frozen? x = W1.frozen? x) → ∀ ty dc, (Builtin.copy_ #[28, 28] ty #[.slice (some ⟨b, i, none⟩) (n + m - i) dc, .slice (some ⟨vb, 0, none⟩) m vc]).run Tryd.prog W = .ok (goInt vs.length) (W.setCells b i vs) := fun W hWc hWf ty dc =>
    run_copy_cells W _ _ ty 5 b i (n + m - i) dc ⟨vb, 0, none⟩ m vc vs Tryd.underlying28 hsz (by rw [hvl]; simp only [Nat.min_def]; split <;> omega)
      (fun j v hj => by
        rw [Addr.add_lit, hWc, hW1, World.cell?_setCells_out b _ _ _ _ (fun h _ => absurd h hvb), Nat.zero_add]
        exact hvv j v hj)
      (fun j hj => by rw [hWc]; exact hsp1 _ (by omega)) (fun j hj => by rw [hWf, hW1, World.frozen?_setCells]; exact hfz _) h1v
  rw [← hW1] at hcp1
  clear hcs hvs
  go_enter Tryd.func88, Tryd.ntmps88
  go_wp2_with (simp only [hov])
  go_region_law_o (refine step_copy_runI rfl _ _ 28 28 rfl _ _ (by simp [Act.eval, Act.put]) (by simp [Act.eval, Act.put]) (hcp1 _ _ _) ?_)
  go_wp2_with (at_builtin; refine wpList_copy_runI _ rfl _ _ 28 28 rfl _ _ rfl rfl (hcp2 _ (fun _ => rfl) (fun _ => rfl) _ _) ?_)
  go_ret
  first | exact ⟨rfl, rfl⟩ | exact ⟨rfl, by rw [hW1]⟩
set_option maxHeartbeats 4000000 in
set_option maxRecDepth 100000 in
/-- there is no room: a new row -/
theorem ins_grow (b n c i vb m vc : Nat) (cs vs cur vcur : List Value) (w : World) (hi : i < n) (hm : 0 < m) (hnc : n ≤ c) (hroom : c < n + m) (hbig : n + m ≤ 140737488355328)
    (hcl : cs.length = n) (hvl : vs.length = m) (hB : Blk w b cur 5) (hV : Blk w vb vcur 5) (hcs : cur.take n = cs) (hvs : vcur.take m = vs) (h1c : ∀ v ∈ cs, v.oneCell' = true) (h1v : ∀ v ∈ vs, v.oneCell' = true) :
    Calls Tryd.prog 88 #[.slice (some ⟨b, 0, none⟩) n c, .int .i64 i, .slice (some ⟨vb, 0, none⟩) m vc] w fun e w' =>
      ∃ (G : Nat) (row : List Value), e = .returned (.slice (some ⟨w.heap.size, 0, none⟩) (n + m) G) ∧ n + m ≤ G ∧ G ≤ maxLen ∧ row.length = G ∧ row.take i = cs.take i ∧
      w' = (((w.alloc (.cells row.toArray 5)).drew.setCells w.heap.size i vs).drew).setCells w.heap.size (i + m) (cs.drop i) := by
  have mixed : Tryd.prog.follows Departure.mixedOrders = true := by kernel_rfl
  obtain ⟨i0, hi0, hz0, hzs, hzb⟩ := info_parts Tryd.infob
  have hz1 : ¬ ((m : Int) = 0) := by omega
  have hz2 : ¬ ((i : Int) = (n : Int)) := by omega
  have hz3 : (c : Int) < (n : Int) + (m : Int) := by omega
  have hsz : (Tryd.prog.info? 5).map (·.size) = some 1 := by kernel_rfl
  have hcc : ∀ j v, cs[j]? = some v → w.cell? ⟨b, j, none⟩ = some v := fun j v hj => by
    rw [hB.cell, ← hj, ← hcs, List.getElem?_take_of_lt (by have := (List.getElem?_eq_some_iff.1 hj).1; omega)]
  have hvv : ∀ j v, vs[j]? = some v → w.cell? ⟨vb, j, none⟩ = some v := fun j v hj => by
    rw [hV.cell, ← hj, ← hvs, List.getElem?_take_of_lt (by have := (List.getElem?_eq_some_iff.1 hj).1; omega)]
  have hbw : b < w.heap.size := hB.lt
  have hvw : vb < w.heap.size := hV.lt
  have hkk : (n : Int) + (m : Int) - (i : Int) = ((n + m - i : Nat) : Int) := by omega
  have hik : i + (n + m - i) = n + m := by omega
  have hold : (Builtin.firstCells i0.size i (.slice (some ⟨b, 0, none⟩) i c)).run Tryd.prog w.drew = .ok (cs.take i).toArray w.drew := by
    rw [hzs]
    exact run_firstCells_some w.drew 1 i ⟨b, 0, none⟩ i c (cs.take i) (by rw [List.length_take]; omega) (fun j v hj => by
      rw [Addr.add_lit, Nat.zero_add]
      rw [List.getElem?_take] at hj
      split at hj
      · exact hcc j v hj
      · cases hj)
  have hrz : ∀ ty, (Builtin.append_ #[28, 3] ty #[.slice (some ⟨b, 0, none⟩) i c, .int .i64 ((n : Int) + (m : Int) - (i : Int))]).run Tryd.prog w =
      .ok (.slice (some ⟨w.heap.size, 0, none⟩) (n + m) (grownCap w (n + m) c 5)) (w.drew.alloc (.cells ((cs.take i).toArray ++ Builtin.zeroCells (Value.int .u8 0).cells (n + m - i) ++ Builtin.zeroCells (Value.int .u8 0).cells (grownCap w (n + m) c 5 - (n + m))) 5)) := fun ty => by
    have h := Lib.run_append_grow_zeros w 28 3 ty 5 i0 _ .i64 .i64 Tryd.underlying28 Tryd.underlying3 hi0 hz0 (some ⟨b, 0, none⟩) i c (cs.take i) hold (n + m - i) (by omega) (by omega) (by omega) (by omega) (by rw [hzb]; omega) (by rw [hzb, hik]; exact growslice_fits hroom (by omega))
    rw [hik] at h
    rw [hkk]
    exact h
  obtain ⟨G, hG⟩ : ∃ G, G = grownCap w (n + m) c 5 := ⟨_, rfl⟩
  have hGn : n + m ≤ G := by rw [hG]; exact grownCap_ge w _ _ _
  have hGm : G ≤ maxLen := by rw [hG]; exact grownCap_le_maxLen w (n + m) c 5 (by unfold maxLen; omega)
  obtain ⟨ROW, hROW⟩ : ∃ ROW : Array Value, ROW = (cs.take i).toArray ++ Builtin.zeroCells (Value.int .u8 0).cells (n + m - i) ++ Builtin.zeroCells (Value.int .u8 0).cells (G - (n + m)) := ⟨_, rfl⟩
  rw [← hG] at hrz
  rw [← hROW] at hrz
  have hRs : ROW.size = G := by
    have hzc : ∀ k, (Builtin.zeroCells (Value.int .u8 0).cells k).size = k := fun k => by simp [Builtin.zeroCells, Value.cells]
    rw [hROW, Array.size_append, Array.size_append, hzc, hzc, List.size_toArray, List.length_take]
    omega
  have hRt : ROW.toList.take i = cs.take i := by
    rw [hROW]
    simp only [Array.toList_append, List.append_assoc]
    rw [List.take_append_of_le_length (by rw [List.length_take]; omega), List.take_take, Nat.min_self]
  obtain ⟨W1, hW1⟩ : ∃ W1, W1 = w.drew.alloc (.cells ROW 5) := ⟨_, rfl⟩
  rw [← hW1] at hrz
  have hN : ∀ j, j < n + m → (W1.cell? ⟨w.heap.size, j, none⟩).isSome = true := fun j hj => by
    rw [hW1, World.cell?_alloc_at (w := w.drew) ROW _ w.heap.size j rfl, Array.getElem?_eq_getElem (by omega)]; rfl
  have hNf : ∀ j, W1.frozen? ⟨w.heap.size, j, none⟩ = false := fun j => by rw [hW1]; exact World.frozen?_alloc_at (w := w.drew) ROW _ w.heap.size j rfl
  have hOb : ∀ j v, w.cell? ⟨b, j, none⟩ = some v → W1.cell? ⟨b, j, none⟩ = some v := fun j v h => by rw [hW1, World.cell?_alloc_past (w := w.drew) _ b j hbw]; exact h
  have hOv : ∀ j v, w.cell? ⟨vb, j, none⟩ = some v → W1.cell? ⟨vb, j, none⟩ = some v := fun j v h => by rw [hW1, World.cell?_alloc_past (w := w.drew) _ vb j hvw]; exact h
  have hcpA : ∀ (W : World), (∀ x, W.cell? x = W1.cell? x) → (∀ x, W.frozen? x = W1.frozen? x) → ∀ ty dc, (Builtin.copy_ #[28, 28] ty #[.slice (some ⟨w.heap.size, i, none⟩) (n + m - i) dc, .slice (some ⟨vb, 0, none⟩) m vc]).run Tryd.prog W = .ok (goInt vs.length) (W.setCells w.heap.size i vs) := fun W hWc hWf ty dc =>
    run_copy_cells W _ _ ty 5 w.heap.size i (n + m - i) dc ⟨vb, 0, none⟩ m vc vs Tryd.underlying28 hsz (by rw [hvl]; simp only [Nat.min_def]; split <;> omega)
      (fun j v hj => by rw [Addr.add_lit, hWc, Nat.zero_add]; exact hOv _ v (hvv j v hj))
      (fun j hj => by rw [hWc]; exact hN _ (by omega)) (fun j hj => by rw [hWf]; exact hNf _) h1v
  have hG63 : G ≤ 9223372036854775807 := by unfold maxLen at hGm; omega
  have hGi : ¬ (G = i) := by omega
  have hGim : ¬ (G = i + m) := by omega
  have hci : ¬ (c = i) := by omega
  have hbN : b ≠ w.heap.size := by omega
  have hdl : (cs.drop i).length = n - i := by rw [List.length_drop, hcl]
  have hcpB : ∀ (W : World), (∀ x, W.cell? x = (W1.setCells w.heap.size i vs).cell? x) → (∀ x, W.frozen? x = (W1.setCells w.heap.size i vs).frozen? x) → ∀ ty dc sc, (Builtin.copy_ #[28, 28] ty #[.slice (some ⟨w.heap.size, i + m, none⟩) (n + m - (i + m)) dc, .slice (some ⟨b, i, none⟩) (n - i) sc]).run Tryd.prog W = .ok (goInt (cs.drop i).length) (W.setCells w.heap.size (i + m) (cs.drop i)) := fun W hWc hWf ty dc sc =>
    run_copy_cells W _ _ ty 5 w.heap.size (i + m) (n + m - (i + m)) dc ⟨b, i, none⟩ (n - i) sc (cs.drop i) Tryd.underlying28 hsz (by rw [hdl]; simp only [Nat.min_def]; split <;> omega)
      (fun j v hj => by
        rw [Addr.add_lit, hWc, World.cell?_setCells_out _ _ _ _ _ (fun h _ => absurd h hbN)]
        exact hOb _ v (hcc (i + j) v (by rwa [List.getElem?_drop] at hj)))
      (fun j hj => by rw [hWc]; exact isSome_setCells _ _ _ _ (fun t ht => hN _ (by omega)) _ (hN _ (by omega)))
      (fun j hj => by rw [hWf, World.frozen?_setCells]; exact hNf _) (fun v hv => h1c v (List.mem_of_mem_drop hv))
  subst hW1
  have hE1 : ∀ x, ((w.alloc (.cells ROW 5)).drew).cell? x = (w.drew.alloc (.cells ROW 5)).cell? x := fun x => rfl
  have hE2 : ∀ x, ((w.alloc (.cells ROW 5)).drew).frozen? x = (w.drew.alloc (.cells ROW 5)).frozen? x := fun x => rfl
  have hF1 : ∀ x, (((w.alloc (.cells ROW 5)).drew.setCells w.heap.size i vs).drew).cell? x = ((w.drew.alloc (.cells ROW 5)).setCells w.heap.size i vs).cell? x := fun x => rfl
  have hF2 : ∀ x, (((w.alloc (.cells ROW 5)).drew.setCells w.heap.size i vs).drew).frozen? x = ((w.drew.alloc (.cells ROW 5)).setCells w.heap.size i vs).frozen? x := fun x => rfl
  have hw1 : IntKind.i64.wrap ((i : Int) + (m : Int)) = (i : Int) + (m : Int) := by rw [IntKind.wrap_i64]; omega
  have hb1 : (0 : Int) ≤ (i : Int) + (m : Int) := by omega
  have hin : i ≤ n := by omega
  have htn : ((i : Int) + (m : Int)).toNat = i + m := by omega
  have hb3 : (i : Int) ≤ (n : Int) := by omega
  have HRR : Hid (ROW.size = G ∧ ROW.toList.take i = cs.take i) := ⟨hRs, hRt⟩
  clear hkk hik hold hROW hG hRs hRt hcs hvs hi0 hz0 hzs hzb
  go_enter Tryd.func88, Tryd.ntmps88
  go_wp2_with (first
    | (at_builtin; refine Lib.wpList_append_run _ rfl _ _ _ _ rfl _ _ rfl rfl _ _ (hrz _) ?_)
    | (at_builtin; refine wpList_copy_runI _ rfl _ _ 28 28 rfl _ _ rfl rfl (hcpA _ hE1 hE2 _ _) ?_)
    | (at_builtin; refine wpList_copy_runI _ rfl _ _ 28 28 rfl _ _ rfl rfl (hcpB _ (fun _ => rfl) (fun _ => rfl) _ _ _) ?_))
  go_region_law_o (refine step_copy_runI rfl _ _ 28 28 rfl (.slice (some ⟨w.heap.size, i + m, none⟩) (n + m - (i + m)) (G - (i + m))) (.slice (some ⟨b, i, none⟩) (n - i) (c - i)) (by simp [Act.eval, Act.put]) (by simp [Act.eval, Act.put]) (hcpB _ hF1 hF2 3 (G - (i + m)) (c - i)) ?_)
  go_wp2
  go_ret
  exact ⟨G, ROW.toList, rfl, hGn, hGm, by simpa using HRR.out.1, HRR.out.2, rfl⟩
theorem put_two {w : World} {b : Nat} {cur : List Value} {t : TypeId} (hB : Blk w b cur t) (x y : List Value) (i : Nat) (hl : i + x.length + y.length ≤ cur.length) :
    Blk ((w.setCells b (i + x.length) y).setCells b i x) b (cur.take i ++ x ++ y ++ cur.drop (i + x.length + y.length)) t := by
  have h1 := setCells_eq b y (i + x.length) w cur t hB (by omega)
  have h2 := setCells_eq b x i _ _ t h1 (by simp; omega)
  have e : (cur.take (i + x.length) ++ y ++ cur.drop (i + x.length + y.length)).take i ++ x ++ (cur.take (i + x.length) ++ y ++ cur.drop (i + x.length + y.length)).drop (i + x.length) = cur.take i ++ x ++ y ++ cur.drop (i + x.length + y.length) := by
    have e1 : (cur.take (i + x.length)).length = i + x.length := by rw [List.length_take]; omega
    rw [List.append_assoc (cur.take (i + x.length)), List.take_append_of_le_length (by omega), List.take_take, Nat.min_eq_left (by omega), List.drop_append_of_le_length (by omega), List.drop_of_length_le (by omega), List.nil_append]
    simp
  rw [e] at h2; exact h2
theorem put_two' {w : World} {b : Nat} {cur : List Value} {t : TypeId} (hB : Blk w b cur t) (x y : List Value) (i : Nat) (hl : i + x.length + y.length ≤ cur.length) :
    Blk (((w.setCells b i x).drew).setCells b (i + x.length) y) b (cur.take i ++ x ++ y ++ cur.drop (i + x.length + y.length)) t := by
  have h1 := setCells_eq b x i w cur t hB (by omega)
  have h2 := setCells_eq b y (i + x.length) _ _ t h1.drew (by simp; omega)
  have e : (cur.take i ++ x ++ cur.drop (i + x.length)).take (i + x.length) ++ y ++ (cur.take i ++ x ++ cur.drop (i + x.length)).drop (i + x.length + y.length) = cur.take i ++ x ++ y ++ cur.drop (i + x.length + y.length) := by
    have e1 : (cur.take i ++ x).length = i + x.length := by rw [List.length_append, List.length_take]; omega
    rw [List.take_append_of_le_length (by omega), List.take_of_length_le (by omega), List.drop_append, List.drop_of_length_le (by omega), List.nil_append, e1, List.drop_drop]
    congr 2
    omega
  rw [e] at h2; exact h2
theorem cb_app (a b : List (BitVec 8)) : cb (a ++ b) = cb a ++ cb b := by simp [cb]
theorem cb_drop (a : List (BitVec 8)) (k : Nat) : (cb a).drop k = cb (a.drop k) := by simp [cb]
theorem cb_take (a : List (BitVec 8)) (k : Nat) : (cb a).take k = cb (a.take k) := by simp [cb]
theorem OwnB.of_blk {w : World} {base b : Nat} {row : List Value} {l : List (BitVec 8)} {c : Nat} (h : Blk w b row 5) (hb : base ≤ b) (hc : row.length = c) (hm : c ≤ maxLen) (hl : l.length ≤ c) (ht : row.take l.length = cb l) : OwnB w base (.slice (some ⟨b, 0, none⟩) l.length c) l :=
  ⟨by rw [cb_len]; omega, Or.inr ⟨b, c, row.toArray, rfl, hb, h, hl, hm, by simpa using hc, by simpa using ht⟩⟩
set_option maxHeartbeats 1000000 in
theorem ins_any (base bv : Nat) (s v : Value) (l t e : List (BitVec 8)) (w : World) (hs : OwnB w base s (l ++ t)) (hv : OwnB w bv v e) (hsep : ∀ k, s.ownBlock = some k → k < bv) (he : e ≠ []) (hbase : base ≤ bv) (hbv : bv ≤ w.heap.size) (hlen : l.length + t.length + e.length ≤ 140737488355328) :
    Calls Tryd.prog 88 #[s, .int .i64 (l.length : Int), v] w fun en w' => ∃ v', en = .returned v' ∧ OwnB w' base v' (l ++ (e ++ t)) ∧ Below base w w' := by
  have hm : 0 < e.length := List.length_pos_iff.2 he
  have hR := hv.reads
  have HS : Hid (OwnB w base s (l ++ t)) := hs
  obtain ⟨hv1, hv2⟩ := hv
  rcases hv2 with ⟨rfl, h0⟩ | ⟨vb, vc, vcur, rfl, hvg, hvh, hvc, hvm, hvs, hvt⟩
  · omega
  have HV : Blk w vb vcur.toList 5 := hvh
  rw [Nat.mul_one] at hvs hvt
  by_cases ht : t = []
  · subst ht
    rw [List.append_nil] at hs HS
    have HRV : Hid (Reads w (.slice (some ⟨vb, 0, none⟩) e.length vc) e) := hR
    have hz1 : ¬ ((e.length : Int) = 0) := by omega
    obtain ⟨ad, cap, rfl, hcap, _, _⟩ := id hs.reads
    have hcb : cap ≤ maxLen := by
      obtain ⟨_, h2⟩ := hs
      rcases h2 with ⟨h, _⟩ | ⟨g, cc, cur, h, _, _, _, h3, _⟩
      · simp only [Value.slice.injEq] at h; omega
      · simp only [Value.slice.injEq] at h; omega
    unfold maxLen at hcb
    clear hs hR hvh HV hvs hvt hv1 hsep
    obtain ⟨m, HM⟩ : ∃ m, Hid (m = e.length) := ⟨_, rfl⟩
    obtain ⟨n, HNN⟩ : ∃ n, Hid (n = l.length) := ⟨_, rfl⟩
    rw [← HM.out] at hm hlen hz1 hvc HRV
    rw [← HM.out]
    rw [← HNN.out] at hlen hcap HS
    rw [← HNN.out]
    have HB : Hid (base ≤ w.heap.size) := Nat.le_trans hbase hbv
    clear hvm hvg
    rw [List.append_nil]
    have HLN : Hid (l.length + e.length ≤ 140737488355328) := by show _ ≤ _; rw [← HM.out, ← HNN.out]; simp at hlen; omega
    by_cases hcn : cap = n
    · subst hcn
      go_enter Tryd.func88, Tryd.ntmps88
      go_wp2_with (at_builtin; refine wpList_appendB rfl _ _ rfl base _ l rfl HS.out _ e rfl HRV.out HLN.out HB.out ?_; intro v2 w2 hown2 hb2 _)
      go_ret
      exact ⟨_, rfl, hown2, hb2⟩
    · go_enter Tryd.func88, Tryd.ntmps88
      go_wp2_with (at_builtin; refine wpList_appendB rfl _ _ rfl base _ l rfl HS.out _ e rfl HRV.out HLN.out HB.out ?_; intro v2 w2 hown2 hb2 _)
      go_ret
      exact ⟨_, rfl, hown2, hb2⟩
  · have htl : 0 < t.length := List.length_pos_iff.2 ht
    obtain ⟨hs1, hs2⟩ := hs
    rcases hs2 with ⟨rfl, h0⟩ | ⟨b, c, cur, rfl, hg, hh, hc, hcm, hcs, hct⟩
    · rw [List.length_append] at h0; omega
    have HB : Blk w b cur.toList 5 := hh
    rw [Nat.mul_one] at hcs hct
    have hlt : b < bv := hsep b rfl
    have hne : vb ≠ b := by omega
    have hmx : maxLen = 9223372036854775807 := rfl
    by_cases hroom : (l ++ t).length + e.length ≤ c
    · refine (ins_shift b (l ++ t).length c l.length vb e.length vc (cb (l ++ t)) (cb e) cur.toList vcur.toList w (by rw [List.length_append]; omega) hm hroom (by omega) hne (cb_len _) (cb_len _) HB HV (by simpa using hcs) hct hvt (cb_one _) (cb_one _)).mono ?_
      rintro en w' ⟨rfl, rfl⟩
      have hd : (cb (l ++ t)).drop l.length = cb t := by rw [cb_drop, List.drop_left]
      rw [hd]
      have hcl : cur.toList.length = c := by simpa using hcs
      have hk := put_two HB.drew (cb e) (cb t) l.length (by rw [cb_len, cb_len, hcl]; rw [List.length_append] at hroom; omega)
      rw [cb_len] at hk
      have hb' : Below base w ((w.drew.setCells b (l.length + e.length) (cb t)).setCells b l.length (cb e)) := Below.setCells _ hg _ _ _ (Below.setCells _ hg _ _ _ (Below.refl _ _).drew)
      refine ⟨_, rfl, ?_, hb'⟩
      have := OwnB.of_blk (base := base) (l := l ++ (e ++ t)) hk hg (c := c) (by rw [List.length_append] at hroom; simp only [List.length_append, List.length_take, List.length_drop, cb_len, hcl]; omega) hcm (by simp; simp at hroom; omega) (by
        have e1 : cur.toList.take l.length = cb l := by
          have := congrArg (List.take l.length) hct
          rw [List.take_take, Nat.min_eq_left (by simp), cb_take, List.take_left] at this
          exact this
        rw [e1, List.take_append_of_le_length (by simp only [List.length_append, cb_len]; omega), List.take_of_length_le (by simp only [List.length_append, cb_len]; omega), cb_app, cb_app, List.append_assoc])
      have e2 : (l ++ (e ++ t)).length = (l ++ t).length + e.length := by simp; omega
      rw [e2] at this
      exact this
    · refine (ins_grow b (l ++ t).length c l.length vb e.length vc (cb (l ++ t)) (cb e) cur.toList vcur.toList w (by rw [List.length_append]; omega) hm hc (by omega) (by rw [List.length_append]; omega) (cb_len _) (cb_len _) HB HV hct hvt (cb_one _) (cb_one _)).mono ?_
      rintro en w' ⟨G, row, rfl, hG1, hG2, hG3, hG4, rfl⟩
      have hd : (cb (l ++ t)).drop l.length = cb t := by rw [cb_drop, List.drop_left]
      rw [hd]
      have hN := Blk.new w row 5
      have hk := put_two' hN.drew (cb e) (cb t) l.length (by rw [cb_len, cb_len, hG3]; rw [List.length_append] at hG1; omega)
      rw [cb_len] at hk
      have hwb : base ≤ w.heap.size := Nat.le_trans hbase hbv
      have hb' : Below base w (((w.alloc (.cells row.toArray 5)).drew.setCells w.heap.size l.length (cb e)).drew.setCells w.heap.size (l.length + e.length) (cb t)) := Below.setCells _ hwb _ _ _ (Below.setCells _ hwb _ _ _ ((Below.refl _ _).alloc hwb _).drew).drew
      refine ⟨_, rfl, ?_, hb'⟩
      have := OwnB.of_blk (base := base) (l := l ++ (e ++ t)) hk hwb (c := G) (by simp [cb_len, hG3]; rw [List.length_append] at hG1; omega) hG2 (by simp; simp at hG1; omega) (by
        have e1 : row.take l.length = cb l := by rw [hG4, cb_take, List.take_left]
        rw [e1, List.take_append_of_le_length (by simp only [List.length_append, cb_len]; omega), List.take_of_length_le (by simp only [List.length_append, cb_len]; omega), cb_app, cb_app, List.append_assoc])
      have e2 : (l ++ (e ++ t)).length = (l ++ t).length + e.length := by simp; omega
      rw [e2] at this
      exact this
end Go.Proofs.YtableajopaappaaDoor
/- The walks of codec.Text, codec.Digest and blazonref04.Text: a text, a digest behind bytes. -/
namespace Go.Proofs.YtableajopaappaaDoor
open Go.RowKit
set_option maxRecDepth 100000
theorem OwnB.below' {w w' : World} {base B : Nat} {v : Value} {l : List (BitVec 8)} (h : OwnB w base v l) (hb : Below B w w') (hB : ∀ k, v.ownBlock = some k → k < B) : OwnB w' base v l := by
  obtain ⟨h1, h2⟩ := h
  refine ⟨h1, ?_⟩
  rcases h2 with h2 | ⟨g, cap, cur, rfl, hg, hh, r⟩
  · exact Or.inl h2
  · exact Or.inr ⟨g, cap, cur, rfl, hg, by rw [hb.block g (hB g rfl)]; exact hh, r⟩
theorem OwnB.lt {w : World} {base : Nat} {v : Value} {l : List (BitVec 8)} (h : OwnB w base v l) : ∀ k, v.ownBlock = some k → k < w.heap.size := by
  obtain ⟨h1, h2⟩ := h
  rcases h2 with ⟨rfl, h0⟩ | ⟨g, cap, cur, rfl, hg, hh, _⟩
  · intro k hk; simp [Value.ownBlock] at hk
  · intro k hk
    simp [Value.ownBlock] at hk
    subst hk
    rcases Nat.lt_or_ge g w.heap.size with h' | h'
    · exact h'
    · rw [Array.getElem?_eq_none h'] at hh; cases hh
set_option maxHeartbeats 400000 in
theorem ctext_any (base : Nat) (v vt : Value) (l t : List (BitVec 8)) (w : World) (hown : OwnB w base v l) (hr : Reads w vt t) (hb : base ≤ w.heap.size) (hl : l.length + t.length + 10 ≤ 140737488355328) :
    Calls Tryd.prog 67 #[v, vt] w fun e w' => ∃ v', e = .returned v' ∧ OwnB w' base v' (l ++ encText t) ∧ Below base w w' := by
  have HO : Hid (OwnB w base v l) := hown
  have HR : Hid (Reads w vt t) := hr
  have HL : Hid (l.length + t.length + 10 ≤ 140737488355328) := hl
  have HB : Hid (base ≤ w.heap.size) := hb
  obtain ⟨ad, cap, rfl, _, _, _⟩ := id hown.reads
  obtain ⟨at', capt, rfl, _, _, _⟩ := id hr
  obtain ⟨n, HNN⟩ : ∃ n, Hid (n = l.length) := ⟨_, rfl⟩
  obtain ⟨m, HM⟩ : ∃ m, Hid (m = t.length) := ⟨_, rfl⟩
  rw [← HNN.out] at HO
  rw [← HM.out] at HR
  rw [← HNN.out, ← HM.out]
  have hm : m < 140737488355328 := by have := HL.out; have := HM.out; omega
  clear hown hr hl hb
  go_enter Tryd.func67, Tryd.ntmps67
  go_wp2_with (at_builtin; refine wpList_appendB rfl (.tmp 5) (.tmp 6) rfl base _ l rfl HO.out _ t rfl HR.out (by have := HL.out; omega) HB.out ?_; intro v2 w2 hown2 hb2 _)
  have HO2 : Hid (OwnB w2 base v2 (l ++ t)) := hown2
  have HB2 : Hid (Below base w w2) := hb2
  have HS2 : Hid (base ≤ w2.heap.size) := Nat.le_trans HB.out hb2.size
  clear hown2 hb2
  have hw : IntKind.u64.wrap (m : Int) = (m : Int) := by rw [IntKind.wrap_u64]; omega
  go_wp2_with fail
  refine (cnum_any w2.heap.size _ [] m (by omega) w2 (OwnB.nil _ _) (Nat.le_refl _) (by simp)).mono ?_
  rintro e w3 ⟨v3, rfl, ho3, hb3⟩
  have HO3 : Hid (OwnB w3 w2.heap.size v3 (encNum m)) := ho3
  have HB3 : Hid (Below w2.heap.size w2 w3) := hb3
  clear ho3 hb3
  go_wp2_with fail
  have hO := HO2.out.below' HB3.out (HO2.out.lt)
  have hn : (n : Int) = (l.length : Int) := by rw [HNN.out]
  rw [hn]
  refine (ins_any base w2.heap.size v2 v3 l t (encNum m) w3 hO HO3.out HO2.out.lt (by intro h; have := encNum_pos m; rw [h] at this; simp at this) HS2.out HB3.out.size (by have := HL.out; have := enc_len10 m (by omega); omega)).mono ?_
  rintro e w4 ⟨v4, rfl, ho4, hb4⟩
  have HO4 : Hid (OwnB w4 base v4 (l ++ encText t)) := by show OwnB _ _ _ _; unfold encText; rw [← HM.out]; exact ho4
  have HB4 : Hid (Below base w w4) := HB2.out.trans ((HB3.out.mono HS2.out).trans hb4)
  clear ho4 hb4 hO
  go_wp2
  go_ret
  exact ⟨_, rfl, HO4.out, HB4.out⟩
set_option maxHeartbeats 400000 in
theorem cdigest_any (base : Nat) (v : Value) (l d : List (BitVec 8)) (hd : d.length = 32) (w : World) (hown : OwnB w base v l) (hb : base ≤ w.heap.size) (hl : l.length + 32 ≤ 140737488355328) :
    Calls Tryd.prog 66 #[v, .agg (cb d).toArray] w fun e w' => ∃ v', e = .returned v' ∧ OwnB w' base v' (l ++ d) ∧ Below base w w' := by
  have HO : Hid (OwnB w base v l) := hown
  have HD : Hid (d.length = 32) := hd
  have HL : Hid (l.length + 32 ≤ 140737488355328) := hl
  have HB : Hid (base ≤ w.heap.size) := hb
  have hs := slice_dig_at w.heap.size 0
  clear hown hd hl hb
  have b0 := below_alloc w (.cells (cb d).toArray 23)
  have HR : Hid (Reads (w.alloc (.cells (cb d).toArray 23)) (.slice (some ⟨w.heap.size, 0, none⟩) 32 32) d) := (Blk.new w (cb d) 23).reads HD.out.symm (by rw [HD.out]; omega)
  have HO1 : Hid (OwnB (w.alloc (.cells (cb d).toArray 23)) base v l) := HO.out.below b0 (Nat.le_refl _)
  have HB1 : Hid (Below base w (w.alloc (.cells (cb d).toArray 23))) := b0.mono HB.out
  have HS1 : Hid (base ≤ (w.alloc (.cells (cb d).toArray 23)).heap.size) := Nat.le_trans HB.out b0.size
  clear b0
  go_enter Tryd.func66, Tryd.ntmps66
  go_wp2_with (at_builtin; refine wpList_appendB rfl (.tmp 5) (.tmp 6) rfl base _ l rfl HO1.out _ d rfl HR.out (by have := HL.out; have := HD.out; omega) HS1.out ?_; intro v2 w2 hown2 hb2 _)
  have hB2 := HB1.out.trans hb2
  go_wp2
  go_ret
  exact ⟨_, rfl, hown2, hB2⟩
end Go.Proofs.YtableajopaappaaDoor
/- The walks of the reader's Fail and take: bytes from their front on; what is thrown. -/
namespace Go.Proofs.YtableajopaappaaDoor
open Go.RowKit
set_option maxRecDepth 100000
/-- the reader at gr, of the input at gi, which still has the bytes l -/
structure Rd (w : World) (gr gi : Nat) (v : Value) (l : List (BitVec 8)) : Prop where
  rd : Blk w gr [.pointer (some ⟨gi, 0, none⟩)] 122
  inp : Blk w gi [v, .bool true, .bool false] 120
  byt : Reads w v l
/-- what a reader throws -/
def thrown (gi : Nat) : Ending := .panicked [{ v := .iface 118 (.pointer (some ⟨gi, 0, none⟩)), recovered := false }]
structure Threw (gi : Nat) (w : World) (e : Ending) (w' : World) : Prop where
  eq : e = thrown gi
  bad : ∃ v, Blk w' gi [v, .bool true, .bool true] 120 ∧ ∃ ad n c, v = .slice ad n c
  onl : Only gi w w'
theorem Rd.ne {w : World} {gr gi : Nat} {v : Value} {l : List (BitVec 8)} (h : Rd w gr gi v l) : gr ≠ gi := by
  intro he
  have h1 := h.rd
  have h2 := h.inp
  subst he
  unfold Blk at h1 h2
  rw [h1] at h2
  simp at h2
theorem Rd.slice {w : World} {gr gi : Nat} {v : Value} {l : List (BitVec 8)} (h : Rd w gr gi v l) : ∃ ad c, v = .slice ad l.length c := by
  obtain ⟨ad, c, hv, _⟩ := h.byt
  exact ⟨ad, c, hv⟩
/-- no byte lies in a block of a slice and two bools -/
theorem Blk.apart {w : World} {gi : Nat} {u : Value} {x y : Bool} {t : TypeId} {l : List (BitVec 8)} (hb : Blk w gi [u, .bool x, .bool y] t) (hu : ∃ ad n c, u = .slice ad n c) : ∀ b off, 0 < l.length → (∀ j, j < l.length → w.cell? ⟨b, off + j, none⟩ = some (.int .u8 ((l.getD j 0).toNat : Int))) → b ≠ gi := by
  intro b off hp hc he
  subst he
  have h0 := hc 0 hp
  rw [hb.cell] at h0
  obtain ⟨ad, n, c, rfl⟩ := hu
  match off, h0 with
  | 0, h0 => simp at h0
  | 1, h0 => simp at h0
  | 2, h0 => simp at h0
  | k + 3, h0 => simp at h0
theorem Reads.only {w w' : World} {gi : Nat} {v u : Value} {x y : Bool} {t : TypeId} {l : List (BitVec 8)} (h : Reads w v l) (hb : Blk w gi [u, .bool x, .bool y] t) (hu : ∃ ad n c, u = .slice ad n c) (ho : Only gi w w') : Reads w' v l := by
  have ha := hb.apart (l := l) hu
  obtain ⟨ad, cap, rfl, hc, hn, hx⟩ := h
  refine ⟨ad, cap, rfl, hc, hn, fun hp => ?_⟩
  obtain ⟨b, off, h1, h2⟩ := hx hp
  exact ⟨b, off, h1, fun j hj => ho.cell (p := ⟨b, off + j, none⟩) (ha b off hp h2) (h2 j hj)⟩
theorem Reads.take {w : World} {ad : Option Addr} {n c : Nat} {l : List (BitVec 8)} (h : Reads w (.slice ad n c) l) (k : Nat) (hk : k ≤ l.length) : Reads w (.slice ad k c) (l.take k) := by
  obtain ⟨ad', cap, hv, hc, hn, hx⟩ := h
  simp only [Value.slice.injEq] at hv
  obtain ⟨rfl, rfl, rfl⟩ := hv
  have hl : (l.take k).length = k := by rw [List.length_take]; omega
  refine ⟨ad, c, by rw [hl], by omega, hn, fun hp => ?_⟩
  rw [hl] at hp ⊢
  obtain ⟨b, off, h1, h2⟩ := hx (by omega)
  refine ⟨b, off, h1, fun j hj => ?_⟩
  rw [h2 j (by omega)]
  simp [hj]
theorem Reads.drop {w : World} {ad : Addr} {n c : Nat} {l : List (BitVec 8)} (h : Reads w (.slice (some ad) n c) l) (k : Nat) (hk : k ≤ l.length) (o : Addr) (ho : k < l.length → o = ad.add k) : Reads w (.slice (some o) (n - k) (c - k)) (l.drop k) := by
  obtain ⟨ad', cap, hv, hc, hn, hx⟩ := h
  simp only [Value.slice.injEq] at hv
  obtain ⟨rfl, rfl, rfl⟩ := hv
  have hl : (l.drop k).length = l.length - k := by rw [List.length_drop]
  refine ⟨_, c - k, by rw [hl], by omega, (fun h => by cases h), fun hp => ?_⟩
  rw [hl] at hp ⊢
  obtain ⟨b', off', h1, h2⟩ := hx (by omega)
  simp only [Option.some.injEq] at h1
  subst h1
  have := ho (by omega)
  rw [Addr.add_mid] at this
  subst this
  refine ⟨b', _, rfl, fun j hj => ?_⟩
  rw [Nat.add_assoc, h2 (k + j) (by omega)]
  simp
theorem Rd.next {w : World} {gr gi : Nat} {v : Value} {l : List (BitVec 8)} (h : Rd w gr gi v l) (v2 : Value) (l2 : List (BitVec 8)) (h2 : Reads w v2 l2) : Rd (w.setCell ⟨gi, 0, none⟩ v2) gr gi v2 l2 := by
  obtain ⟨ad, c, hv⟩ := h.slice
  exact ⟨h.rd.other _ _ (by exact h.ne), h.inp.set 0 v2, h2.only h.inp ⟨ad, _, c, hv⟩ ((Only.refl _ _).setCell _ _)⟩
set_option maxHeartbeats 400000 in
theorem cfail_any (gr gi : Nat) (v : Value) (l : List (BitVec 8)) (w : World) (h : Rd w gr gi v l) :
    Calls Tryd.prog 98 #[.pointer (some ⟨gr, 0, none⟩)] w fun e w' => e = thrown gi ∧ w' = w.setCell ⟨gi, 2, none⟩ (.bool true) := by
  have c1 : w.cell? ⟨gr, 0, none⟩ = some (.pointer (some ⟨gi, 0, none⟩)) := h.rd.cell 0
  have c2 : w.cell? ⟨gi, 1, none⟩ = some (.bool true) := h.inp.cell 1
  have c3 : w.cell? ⟨gi, 2, none⟩ = some (.bool false) := h.inp.cell 2
  have f3 : w.frozen? ⟨gi, 2, none⟩ = false := h.inp.frozen 2
  have hne := h.ne
  unfold thrown
  clear h
  go_enter Tryd.func98, Tryd.ntmps98
  go_wp2
  exact ⟨rfl, rfl, rfl⟩
theorem Rd.threw {w : World} {gr gi : Nat} {v : Value} {l : List (BitVec 8)} (h : Rd w gr gi v l) : Threw gi w (thrown gi) (w.setCell ⟨gi, 2, none⟩ (.bool true)) := by
  obtain ⟨ad, c, hv⟩ := h.slice
  exact ⟨rfl, ⟨v, h.inp.set 2 (.bool true), ad, _, c, hv⟩, (Only.refl _ _).setCell _ _⟩
theorem Threw.after {gi : Nat} {w w1 w2 : World} {e : Ending} (ho : Only gi w w1) (h : Threw gi w1 e w2) : Threw gi w e w2 := ⟨h.eq, h.bad, ho.trans h.onl⟩
/-- what a call of the reader's does: it hands out what was there, or throws -/
def RdDoes {α : Type} (gr gi : Nat) (v0 : Value) (w : World) (o : Option (α × List (BitVec 8))) (R : α → World → Value → Prop) (e : Ending) (w' : World) : Prop :=
  (∃ a r v v', o = some (a, r) ∧ e = .returned v ∧ R a w' v ∧ Rd w' gr gi v' r ∧ Only gi w w' ∧ v'.ownBlock = v0.ownBlock) ∨ (o = none ∧ Threw gi w e w')
def cut (n : Nat) (l : List (BitVec 8)) : Option (List (BitVec 8) × List (BitVec 8)) := if n ≤ l.length then some (l.take n, l.drop n) else none
set_option maxHeartbeats 400000 in
theorem take_any (gr gi n : Nat) (v : Value) (l : List (BitVec 8)) (w : World) (h : Rd w gr gi v l) (hn : n < 4611686018427387904) :
    Calls Tryd.prog 83 #[.pointer (some ⟨gr, 0, none⟩), .int .i64 (n : Int)] w fun e w' => RdDoes gr gi v w (cut n l) (fun a w' v => Reads w' v a) e w' := by
  have HR : Hid (Rd w gr gi v l) := h
  have c1 : w.cell? ⟨gr, 0, none⟩ = some (.pointer (some ⟨gi, 0, none⟩)) := h.rd.cell 0
  have c0 : w.cell? ⟨gi, 0, none⟩ = some v := h.inp.cell 0
  have c3 : w.cell? ⟨gi, 2, none⟩ = some (.bool false) := h.inp.cell 2
  have f0 : w.frozen? ⟨gi, 0, none⟩ = false := h.inp.frozen 0
  have hne := h.ne
  obtain ⟨ad, cap, rfl, hcap, hnn, hx⟩ := id h.byt
  obtain ⟨m, HM⟩ : ∃ m, Hid (m = l.length) := ⟨_, rfl⟩
  rw [← HM.out] at HR c0 hcap
  rw [← HM.out]
  clear hx h
  by_cases hlt : n ≤ m
  · have hng : ¬ ((m : Int) < (n : Int)) := by omega
    have HC : Hid (cut n l = some (l.take n, l.drop n)) := by show cut n l = _; unfold cut; rw [if_pos (by rw [← HM.out]; exact hlt)]
    have HK : Hid (n ≤ l.length) := by rw [← HM.out]; exact hlt
    have hfin : ∀ v1 v2, Reads w v1 (l.take n) → Reads w v2 (l.drop n) → v2.ownBlock = (Value.slice ad m cap).ownBlock → RdDoes gr gi (.slice ad m cap) w (cut n l) (fun a w' v => Reads w' v a) (.returned v1) (w.setCell ⟨gi, 0, none⟩ v2) := fun v1 v2 h1 h2 h3 =>
      Or.inl ⟨_, _, v1, v2, HC.out, rfl, h1.only HR.out.inp ⟨_, _, _, rfl⟩ ((Only.refl _ _).setCell _ _), HR.out.next v2 _ h2, (Only.refl _ _).setCell _ _, h3⟩
    have HF : Hid (∀ v1 v2, Reads w v1 (l.take n) → Reads w v2 (l.drop n) → v2.ownBlock = (Value.slice ad m cap).ownBlock → RdDoes gr gi (.slice ad m cap) w (cut n l) (fun a w' v => Reads w' v a) (.returned v1) (w.setCell ⟨gi, 0, none⟩ v2)) := hfin
    clear hfin
    cases ad with
    | none =>
      have hc0 := hnn rfl
      subst hc0
      have hm0 : m = 0 := by omega
      subst hm0
      have hn0 : n = 0 := by omega
      subst hn0
      clear hnn hng hlt hcap
      go_enter Tryd.func83, Tryd.ntmps83
      go_wp2
      go_ret
      have hl0 : l = [] := List.eq_nil_of_length_eq_zero HM.out.symm
      refine HF.out _ _ ?_ ?_ rfl
      · rw [List.take_zero]; exact ⟨none, 0, rfl, Nat.le_refl _, fun _ => rfl, fun h => by cases h⟩
      · rw [List.drop_zero, hl0]; exact ⟨none, 0, rfl, Nat.le_refl _, fun _ => rfl, fun h => by cases h⟩
    | some ad =>
      clear hnn
      by_cases hcn : cap = n
      · subst hcn
        have hmn : m = cap := by omega
        subst hmn
        have HZ : Hid (m - m = 0) := Nat.sub_self m
        go_enter Tryd.func83, Tryd.ntmps83
        go_wp2
        go_ret
        refine HF.out _ _ ((HR.out.byt).take m HK.out) ?_ rfl
        have := HR.out.byt.drop m HK.out ad (fun h => by have := HM.out; omega)
        rw [HZ.out] at this
        first | exact this | (rw [HZ.out]; exact this)
      · go_enter Tryd.func83, Tryd.ntmps83
        go_wp2
        go_ret
        exact HF.out _ _ ((HR.out.byt).take n HK.out) (HR.out.byt.drop n HK.out _ (fun _ => rfl)) (by simp [Value.ownBlock, Addr.add]; split <;> rfl)
  · have hgt : (m : Int) < (n : Int) := by omega
    have HC : Hid (cut n l = none) := by show cut n l = _; unfold cut; rw [if_neg (by rw [← HM.out]; exact hlt)]
    go_enter Tryd.func83, Tryd.ntmps83
    go_wp2_with fail
    refine (cfail_any gr gi (.slice ad m cap) l w HR.out).mono ?_
    rintro e w1 ⟨rfl, rfl⟩
    have hT := HR.out.threw
    obtain ⟨w1, HW1⟩ : ∃ x, Hid (x = w.setCell ⟨gi, 2, none⟩ (.bool true)) := ⟨_, rfl⟩
    rw [← HW1.out] at hT ⊢
    unfold thrown at hT ⊢
    go_wp2
    exact ⟨rfl, Or.inr ⟨HC.out, hT⟩⟩
end Go.Proofs.YtableajopaappaaDoor
/- The walks of the reader's Num and Count. -/
namespace Go.Proofs.YtableajopaappaaDoor
open Go.RowKit
set_option maxRecDepth 100000
structure RnInv (gr gi : Nat) (v0 : Value) (w : World) (l : List (BitVec 8)) (k acc : Nat) (rest : List (BitVec 8)) (wr : World) : Prop where
  le : k ≤ 10
  lt : acc < 2 ^ (7 * k)
  eq : readNum l = decNum (10 - k) k acc rest
  rd : ∃ v, Rd wr gr gi v rest ∧ v.ownBlock = v0.ownBlock
  onl : Only gi w wr
theorem dec_step (k acc : Nat) (hk : k < 10) (c : BitVec 8) (r : List (BitVec 8)) : decNum (10 - k) k acc (c :: r) =
    if (k = 9 ∧ 1 < c.toNat) ∨ (0 < k ∧ c.toNat = 0) then none else if c.toNat < 128 then some (acc + c.toNat % 128 * 2 ^ (7 * k), r) else decNum (10 - (k + 1)) (k + 1) (acc + c.toNat % 128 * 2 ^ (7 * k)) r := by
  rw [show 10 - k = (10 - (k + 1)) + 1 by omega, decNum]
theorem dec_nil (k acc : Nat) (hk : k < 10) : decNum (10 - k) k acc [] = none := by
  rw [show 10 - k = (10 - (k + 1)) + 1 by omega, decNum]
theorem or_add (acc g k : Nat) (hk : k < 10) (h : acc < 2 ^ (7 * k)) (h2 : g * 2 ^ (7 * k) < 18446744073709551616) : bits .or .u64 (acc : Int) (IntKind.u64.wrap ((g : Int) * 2 ^ (7 * k))) = ((acc + g * 2 ^ (7 * k) : Nat) : Int) := by
  have e : (g : Int) * 2 ^ (7 * k) = ((g * 2 ^ (7 * k) : Nat) : Int) := by simp
  have hs : acc + g * 2 ^ (7 * k) < 18446744073709551616 ∧ acc ||| g * 2 ^ (7 * k) = acc + g * 2 ^ (7 * k) := by
    have h3 := Nat.two_pow_add_eq_or_of_lt h g
    rw [Nat.mul_comm] at h3
    have h4 : g * 2 ^ (7 * k) ||| acc = acc ||| g * 2 ^ (7 * k) := Nat.or_comm _ _
    have h5 : acc ||| g * 2 ^ (7 * k) < 2 ^ 64 := by
      by_cases hg : g = 0
      · subst hg
        simp only [Nat.zero_mul, Nat.or_zero] at *
        exact Nat.lt_of_lt_of_le h (Nat.pow_le_pow_right (by omega) (by omega))
      · apply Nat.or_lt_two_pow
        · have : 2 ^ (7 * k) ≤ g * 2 ^ (7 * k) := Nat.le_mul_of_pos_left _ (by omega)
          omega
        · omega
    omega
  rw [e]
  have hw : IntKind.u64.wrap ((g * 2 ^ (7 * k) : Nat) : Int) = ((g * 2 ^ (7 * k) : Nat) : Int) := by rw [IntKind.wrap_u64]; omega
  rw [hw]
  generalize g * 2 ^ (7 * k) = x at *
  show IntKind.u64.wrap ((BitVec.ofInt 64 (acc : Int) ||| BitVec.ofInt 64 (x : Int)).toNat : Int) = _
  rw [BitVec.ofInt_natCast, BitVec.ofInt_natCast, BitVec.toNat_or, BitVec.toNat_ofNat, BitVec.toNat_ofNat, Nat.mod_eq_of_lt (by omega), Nat.mod_eq_of_lt (by omega), hs.2, IntKind.wrap_u64]
  omega
theorem top_small (k g : Nat) (hk : k < 10) (hg : g < 128) (h : 18446744073709551615 / 2 ^ (7 * k) < g) : k = 9 ∧ 1 < g := by
  by_cases h9 : k = 9
  · subst h9
    simp only [Nat.reduceMul, Nat.reducePow, Nat.reduceDiv] at h
    omega
  · exfalso
    have h1 : 18446744073709551615 / 2 ^ 56 ≤ 18446744073709551615 / 2 ^ (7 * k) := Nat.div_le_div_left (Nat.pow_le_pow_right (by omega) (by omega)) (Nat.pow_pos (by omega))
    simp only [Nat.reducePow, Nat.reduceDiv] at h1
    omega
theorem top_cast (k : Nat) : (18446744073709551615 : Int) / 2 ^ (7 * k) = ((18446744073709551615 / 2 ^ (7 * k) : Nat) : Int) := by simp
set_option maxRecDepth 100000 in
set_option maxHeartbeats 1000000 in
theorem crnum_any (gr gi : Nat) (v : Value) (l : List (BitVec 8)) (w : World) (h : Rd w gr gi v l) :
    Calls Tryd.prog 85 #[.pointer (some ⟨gr, 0, none⟩)] w fun e w' => RdDoes gr gi v w (readNum l) (fun a _ v => v = .int .u64 (a : Int)) e w' := by
  have hI : RnInv gr gi v w l 0 0 l w := ⟨by omega, by simp, rfl, ⟨v, h, rfl⟩, Only.refl _ _⟩
  clear h
  go_enter Tryd.func85, Tryd.ntmps85
  go_wp2
  go_loopw [3, 8] (fun x i wr => ∃ (k acc : Nat) (rest : List (BitVec 8)), i = .int .i64 (k : Int) ∧ x = .int .u64 (acc : Int) ∧ RnInv gr gi v w l k acc rest wr) (fun _ i _ => 10 - (intOf i).toNat)
  case atStart => exact ⟨0, 0, l, rfl, rfl, hI⟩
  case round =>
    clear hI
    obtain ⟨k, acc, rest, rfl, rfl, hI⟩ := hrel
    have hk := hI.le
    have HI : Hid (RnInv gr gi v w l k acc rest wr) := hI
    clear hI
    by_cases hlt : k < 10
    · go_wp2_with fail
      obtain ⟨v1, h1, hob1⟩ := HI.out.rd
      refine (take_any gr gi 1 v1 rest wr h1 (by omega)).mono ?_
      rintro e w1 hT
      rcases hT with ⟨a, r, va, v2, hc, rfl, hr, hrd, ho, hob⟩ | ⟨hc, hT⟩
      · obtain ⟨c, rest2, rfl⟩ : ∃ c rest2, rest = c :: rest2 := by
          cases rest with
          | nil => simp [cut] at hc
          | cons c r => exact ⟨c, r, rfl⟩
        simp [cut] at hc
        obtain ⟨rfl, rfl⟩ := hc
        obtain ⟨ad, cap, rfl, _, _, hx⟩ := hr
        obtain ⟨b, off, rfl, hy⟩ := hx (by simp)
        have cc := hy 0 (by simp)
        simp at cc
        have hc8 := c.isLt
        have HE : Hid (readNum l = if (k = 9 ∧ 1 < c.toNat) ∨ (0 < k ∧ c.toNat = 0) then none else if c.toNat < 128 then some (acc + c.toNat % 128 * 2 ^ (7 * k), rest2) else decNum (10 - (k + 1)) (k + 1) (acc + c.toNat % 128 * 2 ^ (7 * k)) rest2) := by
          show _ = _; rw [HI.out.eq, dec_step k acc hlt]
        obtain ⟨cn, HCN⟩ : ∃ x, Hid (x = c.toNat) := ⟨_, rfl⟩
        rw [← HCN.out] at cc hc8 HE
        have HRD : Hid (Rd w1 gr gi v2 rest2) := hrd
        have HOB : Hid (v2.ownBlock = v.ownBlock) := hob.trans hob1
        clear hob hob1
        have HO : Hid (Only gi w w1) := HI.out.onl.trans ho
        have HA : Hid (acc < 2 ^ (7 * k)) := HI.out.lt
        clear hx hy hrd ho h1 HI
        have h7 : IntKind.i64.wrap (7 * (k : Int)) = 7 * (k : Int) := by rw [IntKind.wrap_i64]; omega
        have h70 : ¬ (7 * (k : Int) < 0) := by omega
        have HT := top_cast k
        by_cases hA : 18446744073709551615 / 2 ^ (7 * k) < cn % 128
        · have hAi : (18446744073709551615 : Int) / 2 ^ (7 * k) < (cn : Int) % 128 := by rw [HT]; omega
          have HNo : Hid (readNum l = none) := by
            show _ = _
            obtain ⟨h9, h10⟩ := top_small k _ hlt (by omega) hA
            rw [HE.out, if_pos (Or.inl ⟨h9, by omega⟩)]
          clear HT hA HE
          go_wp2_with fail
          refine (cfail_any gr gi v2 rest2 w1 HRD.out).mono ?_
          rintro e w2 ⟨rfl, rfl⟩
          have hT := HRD.out.threw.after HO.out
          obtain ⟨w2, HW2⟩ : ∃ x, Hid (x = w1.setCell ⟨gi, 2, none⟩ (.bool true)) := ⟨_, rfl⟩
          rw [← HW2.out] at hT ⊢
          unfold thrown at hT ⊢
          go_wp2
          exact ⟨rfl, Or.inr ⟨HNo.out, hT⟩⟩
        · have hAi : ¬ ((18446744073709551615 : Int) / 2 ^ (7 * k) < (cn : Int) % 128) := by rw [HT]; omega
          have HG : Hid (cn % 128 * 2 ^ (7 * k) < 18446744073709551616) := by
            have h1 : cn % 128 * 2 ^ (7 * k) ≤ 18446744073709551615 / 2 ^ (7 * k) * 2 ^ (7 * k) := Nat.mul_le_mul_right _ (by omega)
            have h2 := Nat.div_mul_le_self 18446744073709551615 (2 ^ (7 * k))
            show _ < _
            omega
          have hor := or_add acc (cn % 128) k hlt HA.out HG.out
          rw [show ((cn % 128 : Nat) : Int) = (cn : Int) % 128 by omega] at hor
          obtain ⟨sm, HSM⟩ : ∃ x, Hid (x = acc + cn % 128 * 2 ^ (7 * k)) := ⟨_, rfl⟩
          rw [← HSM.out] at hor HE
          have HS2 : Hid (sm < 2 ^ (7 * (k + 1))) := by
            show _ < _
            rw [HSM.out, pow7]
            have h1 := HA.out
            have h2 : cn % 128 * 2 ^ (7 * k) ≤ 127 * 2 ^ (7 * k) := Nat.mul_le_mul_right _ (by omega)
            omega
          clear HT hA
          by_cases hB : 0 < k ∧ cn = 0
          · obtain ⟨hk0, rfl⟩ := hB
            have HNo : Hid (readNum l = none) := by show _ = _; rw [HE.out, if_pos (Or.inr ⟨hk0, rfl⟩)]
            clear HE hor
            go_wp2_with fail
            refine (cfail_any gr gi v2 rest2 w1 HRD.out).mono ?_
            rintro e w2 ⟨rfl, rfl⟩
            have hT := HRD.out.threw.after HO.out
            obtain ⟨w2, HW2⟩ : ∃ x, Hid (x = w1.setCell ⟨gi, 2, none⟩ (.bool true)) := ⟨_, rfl⟩
            rw [← HW2.out] at hT ⊢
            unfold thrown at hT ⊢
            go_wp2
            exact ⟨rfl, Or.inr ⟨HNo.out, hT⟩⟩
          · by_cases hC : cn < 128
            · have hC2 : (cn : Int) < 128 := by omega
              have HYes : Hid (readNum l = if k = 9 ∧ 1 < cn then none else some (sm, rest2)) := by
                show _ = _
                rw [HE.out, if_pos hC]
                by_cases h9 : k = 9 ∧ 1 < cn
                · rw [if_pos (Or.inl h9), if_pos h9]
                · rw [if_neg (by rintro (h | h); exact h9 h; exact hB h), if_neg h9]
              have H9 : Hid (¬ (k = 9 ∧ 1 < cn)) := by
                rintro ⟨rfl, h⟩
                have := HG.out
                simp only [Nat.reduceMul, Nat.reducePow] at this
                omega
              have HY2 : Hid (readNum l = some (sm, rest2)) := by show _ = _; rw [HYes.out, if_neg H9.out]
              clear HE HYes
              by_cases hz : cn = 0
              · have hk0 : k = 0 := by omega
                subst hz hk0
                have ha0 : acc = 0 := by have := HA.out; simp at this; omega
                subst ha0
                have hs0 : sm = 0 := HSM.out
                subst hs0
                clear hor hB h70 h7 hAi
                go_wp2
                go_ret
                exact Or.inl ⟨0, rest2, _, v2, HY2.out, rfl, rfl, HRD.out, HO.out, HOB.out⟩
              · have hz2 : ¬ ((cn : Int) = 0) := by omega
                clear hB
                go_wp2
                go_ret
                exact Or.inl ⟨sm, rest2, _, v2, HY2.out, rfl, rfl, HRD.out, HO.out, HOB.out⟩
            · have hC2 : ¬ ((cn : Int) < 128) := by omega
              have hz2 : ¬ ((cn : Int) = 0) := by omega
              have HD : Hid (readNum l = decNum (10 - (k + 1)) (k + 1) sm rest2) := by
                show _ = _
                rw [HE.out, if_neg hC]
                by_cases h9 : k = 9
                · subst h9
                  rw [if_pos (Or.inl ⟨rfl, by omega⟩)]; rfl
                · rw [if_neg (by omega)]
              clear HE hB hC
              go_wp2
              go_roundw
              case rel => exact ⟨k + 1, sm, rest2, by go_num, rfl, by omega, HS2.out, HD.out, ⟨v2, HRD.out, HOB.out⟩, HO.out⟩
              case measure => simp [intOf]; omega
      · have hn : rest = [] := by
          cases rest with
          | nil => rfl
          | cons c r => simp [cut] at hc
        subst hn
        have HNo : Hid (readNum l = none) := by show _ = _; rw [HI.out.eq, dec_nil k acc hlt]
        have hT2 := hT.after HI.out.onl
        obtain rfl := hT.eq
        unfold thrown at hT2 ⊢
        clear hT HI h1
        go_wp2
        exact ⟨rfl, Or.inr ⟨HNo.out, hT2⟩⟩
    · have hk10 : k = 10 := by omega
      subst hk10
      have HNo : Hid (readNum l = none) := by show _ = _; rw [HI.out.eq]; rfl
      obtain ⟨v1, h1, hob1⟩ := HI.out.rd
      have HO := HI.out.onl
      have HRD : Hid (Rd wr gr gi v1 rest) := h1
      clear HI h1
      go_wp2_with fail
      refine (cfail_any gr gi v1 rest wr HRD.out).mono ?_
      rintro e w2 ⟨rfl, rfl⟩
      have hT := HRD.out.threw.after HO
      obtain ⟨w2, HW2⟩ : ∃ x, Hid (x = wr.setCell ⟨gi, 2, none⟩ (.bool true)) := ⟨_, rfl⟩
      rw [← HW2.out] at hT ⊢
      unfold thrown at hT ⊢
      go_wp2
      exact ⟨rfl, Or.inr ⟨HNo.out, hT⟩⟩
def readCount (most : Nat) (l : List (BitVec 8)) : Option (Nat × List (BitVec 8)) :=
  match readNum l with
  | none => none
  | some (n, r) => if n ≤ most then some (n, r) else none
set_option maxHeartbeats 400000 in
theorem ccount_any (gr gi most : Nat) (hm : most < 9223372036854775808) (v : Value) (l : List (BitVec 8)) (w : World) (h : Rd w gr gi v l) :
    Calls Tryd.prog 81 #[.pointer (some ⟨gr, 0, none⟩), .int .i64 (most : Int)] w fun e w' => RdDoes gr gi v w (readCount most l) (fun a _ v => v = .int .i64 (a : Int)) e w' := by
  have HR : Hid (Rd w gr gi v l) := h
  have hw : IntKind.u64.wrap (most : Int) = (most : Int) := by rw [IntKind.wrap_u64]; omega
  have h0 : ¬ ((most : Int) < 0) := by omega
  clear h
  go_enter Tryd.func81, Tryd.ntmps81
  go_wp2_with fail
  refine (crnum_any gr gi v l w HR.out).mono ?_
  rintro e w1 (⟨n, r, va, v2, hc, rfl, rfl, hrd, ho, hob⟩ | ⟨hc, hT⟩)
  · have HRD : Hid (Rd w1 gr gi v2 r) := hrd
    have HOB : Hid (v2.ownBlock = v.ownBlock) := hob
    clear hob
    have HO : Hid (Only gi w w1) := ho
    have HC : Hid (readCount most l = if n ≤ most then some (n, r) else none) := by show _ = _; unfold readCount; rw [hc]
    clear hrd ho hc
    by_cases hle : n ≤ most
    · have hng : ¬ ((most : Int) < (n : Int)) := by omega
      have hwn : IntKind.i64.wrap (n : Int) = (n : Int) := by rw [IntKind.wrap_i64]; omega
      have HC2 : Hid (readCount most l = some (n, r)) := by show _ = _; rw [HC.out, if_pos hle]
      clear HC
      go_wp2
      go_ret
      exact Or.inl ⟨n, r, _, v2, HC2.out, rfl, rfl, HRD.out, HO.out, HOB.out⟩
    · have hg : (most : Int) < (n : Int) := by omega
      have HC2 : Hid (readCount most l = none) := by show _ = _; rw [HC.out, if_neg hle]
      clear HC hle
      go_wp2_with fail
      refine (cfail_any gr gi v2 r w1 HRD.out).mono ?_
      rintro e w2 ⟨rfl, rfl⟩
      have hT := HRD.out.threw.after HO.out
      obtain ⟨w2, HW2⟩ : ∃ x, Hid (x = w1.setCell ⟨gi, 2, none⟩ (.bool true)) := ⟨_, rfl⟩
      rw [← HW2.out] at hT ⊢
      unfold thrown at hT ⊢
      go_wp2
      exact ⟨rfl, Or.inr ⟨HC2.out, hT⟩⟩
  · have HC2 : Hid (readCount most l = none) := by show _ = _; unfold readCount; rw [hc]
    have hT2 := hT
    obtain rfl := hT.eq
    unfold thrown at hT2 ⊢
    clear hT hc
    go_wp2
    exact ⟨rfl, Or.inr ⟨HC2.out, hT2⟩⟩
end Go.Proofs.YtableajopaappaaDoor
/- The walks of bytes.Clone, of the reader's Text and Digest. -/
namespace Go.Proofs.YtableajopaappaaDoor
open Go.RowKit
set_option maxRecDepth 100000
theorem OwnB.zero (w : World) (base g : Nat) (hg : base ≤ g) (h : Blk w g [] 5) : OwnB w base (.slice (some ⟨g, 0, none⟩) 0 0) [] :=
  OwnB.of_blk (l := []) (c := 0) h hg rfl (by unfold maxLen; omega) (Nat.le_refl _) rfl
set_option maxHeartbeats 400000 in
theorem clone_any (v : Value) (l : List (BitVec 8)) (w : World) (h : Reads w v l) (hl : l.length ≤ 140737488355328) :
    Calls Tryd.prog 82 #[v] w fun e w' => ∃ v', e = .returned v' ∧ OwnB w' w.heap.size v' l ∧ Below w.heap.size w w' := by
  have HR : Hid (Reads w v l) := h
  have HL : Hid (l.length ≤ 140737488355328) := hl
  obtain ⟨ad, cap, rfl, _, hn, hx⟩ := h
  cases ad with
  | none =>
    have h0 : l = [] := by
      cases l with
      | nil => rfl
      | cons b r => obtain ⟨b, off, h1, _⟩ := hx (by simp); cases h1
    subst h0
    have := hn rfl
    subst this
    clear hx hn hl
    have hnil : ∀ (a : Option Addr) (n c : Nat) (w : World), (binOp .eql 28 (.slice a n c) (.slice none 0 0)).run Tryd.prog w = .ok (.bool a.isNone) w := fun a n c w => Lib.run_eql_slice_nil w 28 5 a n c 0 0 Tryd.underlying28
    go_enter Tryd.func82, Tryd.ntmps82
    go_wp2
    go_ret
    exact ⟨_, rfl, OwnB.nil _ _, Below.refl _ _⟩
  | some ad =>
    clear hx hn hl
    obtain ⟨m, HM⟩ : ∃ m, Hid (m = l.length) := ⟨_, rfl⟩
    rw [← HM.out] at HR ⊢
    have HB := below_alloc w (.cells ([] : List Value).toArray 5)
    have HO : Hid (OwnB (w.alloc (.cells ([] : List Value).toArray 5)) w.heap.size (.slice (some ⟨w.heap.size, 0, none⟩) 0 0) []) := OwnB.zero _ _ _ (Nat.le_refl _) (Blk.new w [] 5)
    have HR1 : Hid (Reads (w.alloc (.cells ([] : List Value).toArray 5)) (.slice (some ad) m cap) l) := HR.out.below HB
    have HBB : Hid (Below w.heap.size w (w.alloc (.cells ([] : List Value).toArray 5))) := HB
    clear HB
    have hnil : ∀ (a : Option Addr) (n c : Nat) (w : World), (binOp .eql 28 (.slice a n c) (.slice none 0 0)).run Tryd.prog w = .ok (.bool a.isNone) w := fun a n c w => Lib.run_eql_slice_nil w 28 5 a n c 0 0 Tryd.underlying28
    go_enter Tryd.func82, Tryd.ntmps82
    go_wp2_with (at_builtin; refine wpList_appendB rfl (.tmp 5) (.tmp 6) rfl w.heap.size _ [] rfl HO.out _ l rfl HR1.out (by have := HL.out; simp; omega) HBB.out.size ?_; intro v2 w2 hown2 hb2 _)
    have hB2 := HBB.out.trans hb2
    go_wp2
    go_ret
    exact ⟨_, rfl, hown2, hB2⟩
theorem Rd.below {w w' : World} {gr gi : Nat} {v : Value} {l : List (BitVec 8)} (h : Rd w gr gi v l) (hb : Below w.heap.size w w') : Rd w' gr gi v l := ⟨h.rd.below hb h.rd.lt, h.inp.below hb h.inp.lt, h.byt.below hb⟩
theorem Threw.down {gi : Nat} {w w1 : World} {e : Ending} (h : Threw gi w e w1) : e = .panicked [{ v := .iface 118 (.pointer (some ⟨gi, 0, none⟩)), recovered := false }] := h.eq
set_option maxHeartbeats 400000 in
theorem crtext_any (gr gi : Nat) (v : Value) (l : List (BitVec 8)) (w : World) (h : Rd w gr gi v l) :
    Calls Tryd.prog 57 #[.pointer (some ⟨gr, 0, none⟩)] w fun e w' => RdDoes gr gi v w (readText l) (fun a w' v => OwnB w' w.heap.size v a) e w' := by
  have HR : Hid (Rd w gr gi v l) := h
  clear h
  go_enter Tryd.func57, Tryd.ntmps57
  go_wp2_with fail
  refine (ccount_any gr gi 1048576 (by omega) v l w HR.out).mono ?_
  rintro e w1 (⟨n, r, va, v2, hc, rfl, rfl, hrd, ho, hob⟩ | ⟨hc, hT⟩)
  · obtain ⟨hn, HT⟩ : n ≤ 1048576 ∧ Hid (readText l = if n ≤ r.length then some (r.take n, r.drop n) else none) := by
      unfold readCount at hc
      cases h1 : readNum l with
      | none => rw [h1] at hc; cases hc
      | some p =>
        obtain ⟨m, s⟩ := p
        rw [h1] at hc
        simp only at hc
        split at hc
        · rename_i hle
          simp only [Option.some.injEq, Prod.mk.injEq] at hc
          obtain ⟨rfl, rfl⟩ := hc
          refine ⟨hle, ?_⟩
          show _ = _
          unfold readText
          rw [h1]
          simp only [hle, true_and]
        · cases hc
    have HRD : Hid (Rd w1 gr gi v2 r) := hrd
    have HO : Hid (Only gi w w1) := ho
    clear hrd ho hc
    go_wp2_with fail
    refine (take_any gr gi n v2 r w1 HRD.out (by omega)).mono ?_
    rintro e w2 (⟨a, r2, va, v3, hc, rfl, hr, hrd, ho, hob2⟩ | ⟨hc, hT⟩)
    · have hle : n ≤ r.length := by
        unfold cut at hc
        split at hc
        · assumption
        · cases hc
      have HT2 : Hid (readText l = some (a, r2)) := by
        show _ = _
        rw [HT.out, if_pos hle]
        unfold cut at hc
        rw [if_pos hle] at hc
        exact hc
      have HA : Hid (a.length ≤ 1048576) := by
        unfold cut at hc
        rw [if_pos hle] at hc
        simp only [Option.some.injEq, Prod.mk.injEq] at hc
        show _ ≤ _
        rw [← hc.1, List.length_take]; omega
      have HRD2 : Hid (Rd w2 gr gi v3 r2) := hrd
      have HO2 : Hid (Only gi w w2) := HO.out.trans ho
      have HRR : Hid (Reads w2 va a) := hr
      clear hrd ho hc hr HT HRD HO hle
      go_wp2_with fail
      refine (clone_any va a w2 HRR.out (by have := HA.out; omega)).mono ?_
      rintro e w3 ⟨v4, rfl, hown, hb⟩
      have HF : Hid (RdDoes gr gi v w (readText l) (fun a w' v => OwnB w' w.heap.size v a) (.returned v4) w3) :=
        Or.inl ⟨a, r2, v4, v3, HT2.out, rfl, ⟨hown.1, hown.2.imp id (fun ⟨g, c, cur, h1, h2, h3⟩ => ⟨g, c, cur, h1, Nat.le_trans HO2.out.size h2, h3⟩)⟩, HRD2.out.below hb, HO2.out.trans (Only.of_below hb), hob2.trans hob⟩
      clear hown hb
      go_wp2
      go_ret
      exact HF.out
    · have hle : ¬ n ≤ r.length := by
        unfold cut at hc
        split at hc
        · cases hc
        · assumption
      have HT2 : Hid (readText l = none) := by show _ = _; rw [HT.out, if_neg hle]
      have hT2 := hT.after HO.out
      obtain rfl := hT.down
      clear hT hc HT hle
      go_wp2
      exact ⟨rfl, Or.inr ⟨HT2.out, hT2⟩⟩
  · have HC2 : Hid (readText l = none) := by
      show _ = _
      unfold readText
      unfold readCount at hc
      cases h1 : readNum l with
      | none => rfl
      | some p =>
        obtain ⟨m, s⟩ := p
        rw [h1] at hc
        simp only at hc ⊢
        split at hc
        · cases hc
        · rename_i hle
          rw [if_neg (by omega)]
    have hT2 := hT
    obtain rfl := hT.down
    clear hT hc
    go_wp2
    exact ⟨rfl, Or.inr ⟨HC2.out, hT2⟩⟩
theorem wpAny_enterP {P : Program} {md : Region.Mode} {ops : Array Oper} {Q : Exit → Act → World → Prop} {fuel : Nat} {listed : Array Bool} {a : Act} {w : World} (i : Nat) {oi : Oper} {f : FuncId} {args : Array Value} {R : Ending → World → Prop}
    (hr : Region.ready md ops listed = [i]) (hi : ops[i]? = some oi) (hw : Region.wanted oi (yielded ops a.tmps) = true) (he : (execOp a.eval oi).run P w = .ok (.enter f args) w) (hc : Calls P f args w R)
    (h : ∀ e w', R e w' → (∃ v, e = .returned v ∧ wpAny P md ops Q fuel (listed.setIfInBounds i true) (a.put oi.dst v) w') ∨ (∃ ch, e = .panicked ch ∧ Q (.panic ch) a w')) : wpAny P md ops Q (fuel + 1) listed a w := by
  refine wpAny_all hr (by simp) (fun j hj => ?_)
  obtain rfl : j = i := by simpa using hj
  unfold wpOp
  rw [hi]
  simp only [hw, if_true]
  left
  unfold Oper.wp
  rw [he, Oper.upon_enter]
  refine hc.mono ?_
  intro e w' hR
  rcases h e w' hR with ⟨v, rfl, hv⟩ | ⟨ch, rfl, hv⟩
  · exact hv
  · exact hv
theorem Rd.others {w w' : World} {gr gi B : Nat} {v : Value} {l : List (BitVec 8)} (h : Rd w gr gi v l) (hgr : gr < B) (hgi : gi < B) (hv : 0 < l.length → ∀ k, v.ownBlock = some k → k < B) {C : Nat} (hC : B ≤ C) (hb : Below C w w') : Rd w' gr gi v l := by
  refine ⟨h.rd.below hb (by omega), h.inp.below hb (by omega), ?_⟩
  obtain ⟨ad, cap, rfl, hc, hn, hx⟩ := h.byt
  refine ⟨ad, cap, rfl, hc, hn, fun hp => ?_⟩
  obtain ⟨b, off, rfl, hy⟩ := hx hp
  refine ⟨b, off, rfl, fun j hj => ?_⟩
  have : b < C := Nat.lt_of_lt_of_le (hv hp b rfl) hC
  rw [hb.cell (p := ⟨b, off + j, none⟩) this]
  exact hy j hj
theorem Only.more {g B : Nat} {w w1 w2 : World} (h : Only g w w1) (hb : Below B w1 w2) (hB : w.heap.size ≤ B) : Only g w w2 :=
  ⟨hb.os.trans h.os, hb.tape.trans h.tape, hb.output.trans h.output, Nat.le_trans h.size hb.size, fun k hk hl => (hb.block k (by omega)).trans (h.block k hk hl)⟩
theorem Tryd.infodig : (Tryd.prog.info? 23).map (·.size) = some 32 := by kernel_rfl
set_option maxHeartbeats 400000 in
theorem crdigest_any (gr gi : Nat) (v : Value) (l : List (BitVec 8)) (w : World) (h : Rd w gr gi v l) :
    Calls Tryd.prog 86 #[.pointer (some ⟨gr, 0, none⟩)] w fun e w' => RdDoes gr gi v w (cut 32 l) (fun a _ v => v = .agg (cb a).toArray) e w' := by
  have hB1 : Below w.heap.size w ((w.alloc (.cells (cb zb32).toArray 23)).alloc (.cells (cb zb32).toArray 23)) := ((Below.refl _ _).alloc (Nat.le_refl _) _).alloc (by simp) _
  have HA : Hid (Blk ((w.alloc (.cells (cb zb32).toArray 23)).alloc (.cells (cb zb32).toArray 23)) w.heap.size (cb zb32) 23) := (Blk.new w (cb zb32) 23).alloc _
  have HD : Hid (Blk ((w.alloc (.cells (cb zb32).toArray 23)).alloc (.cells (cb zb32).toArray 23)) (w.heap.size + 1) (cb zb32) 23) := Blk.new_at (w := w.alloc (.cells (cb zb32).toArray 23)) (by simp) (cb zb32) 23
  have HR : Hid (Rd ((w.alloc (.cells (cb zb32).toArray 23)).alloc (.cells (cb zb32).toArray 23)) gr gi v l) := h.below hB1
  have HGI : Hid (gi < w.heap.size) := h.inp.lt
  have HGG : Hid (gr < w.heap.size) := h.rd.lt
  have HVB : Hid (0 < l.length → ∀ k, v.ownBlock = some k → k < w.heap.size) := by
    intro hp k hk
    obtain ⟨ad, cap, rfl, _, _, hx⟩ := h.byt
    obtain ⟨b, off, rfl, hy⟩ := hx hp
    simp only [Value.ownBlock, Option.some.injEq] at hk
    subst hk
    exact block_lt_of_cell (hy 0 hp)
  have HB1 : Hid (Only gi w ((w.alloc (.cells (cb zb32).toArray 23)).alloc (.cells (cb zb32).toArray 23))) := Only.of_below hB1
  clear h hB1
  go_enter Tryd.func86, Tryd.ntmps86
  go_wp2_with fail
  generalize h0 : Obj.cells _ 23 = o32
  have ho : o32 = Obj.cells (cb zb32).toArray 23 := h0.symm
  clear h0
  subst ho
  generalize (w.alloc (.cells (cb zb32).toArray 23)).alloc (.cells (cb zb32).toArray 23) = w1 at *
  refine wp_region_any (by kernel_rfl) ?_
  change wpAny _ _ _ _ _ _ _ (World.drew _)
  refine wpAny_take (i := 0) (v := .slice (some ⟨w.heap.size + 1, 0, none⟩) 32 32) rfl (by kernel_rfl) (by kernel_rfl) (by kernel_rfl) (fun _ _ _ h => h) (Or.inl ⟨by rfl, fun wx => by simp [execOp, Act.eval, slice_dig_at]⟩) ?_
  simp only [Act.put, List.getElem_toArray, List.getElem_cons_zero, List.setIfInBounds_toArray, List.set_cons_zero, List.set_cons_succ]
  refine wpAny_take (i := 1) (v := .pointer (some ⟨gr, 0, none⟩)) rfl (by kernel_rfl) (by kernel_rfl) (by kernel_rfl) (fun _ _ _ h => h) (Or.inl ⟨by rfl, fun wx => by simp [go_sem]⟩) ?_
  simp only [Act.put, List.getElem_toArray, List.getElem_cons_succ, List.getElem_cons_zero, List.setIfInBounds_toArray, List.set_cons_zero, List.set_cons_succ]
  have HR5 : Hid (Rd w1.drew gr gi v l) := ⟨HR.out.rd.drew, HR.out.inp.drew, HR.out.byt⟩
  have HA5 : Hid (Blk w1.drew w.heap.size (cb zb32) 23) := HA.out.drew
  have HD5 : Hid (Blk w1.drew (w.heap.size + 1) (cb zb32) 23) := HD.out.drew
  have HO5 : Hid (Only gi w w1.drew) := HB1.out.drew
  generalize w1.drew = w5 at *
  clear HR HA HD HB1
  refine wpAny_enterP 2 (by kernel_rfl) rfl (by rfl) (f := 83) (args := #[.pointer (some ⟨gr, 0, none⟩), .int .i64 ((32 : Nat) : Int)]) (by simp [go_sem]) (take_any gr gi 32 v l w5 HR5.out (by omega)) ?_
  rintro e w6 (⟨a, r, va, v2, hc, rfl, hr, hrd, ho, hob⟩ | ⟨hc, hT⟩)
  · refine Or.inl ⟨_, rfl, ?_⟩
    have HAL : Hid (a.length = 32) := by
      unfold cut at hc
      split at hc
      · simp only [Option.some.injEq, Prod.mk.injEq] at hc
        show _ = _
        rw [← hc.1, List.length_take]; omega
      · cases hc
    have HCC : Hid (cut 32 l = some (a, r)) := hc
    have HOB : Hid (v2.ownBlock = v.ownBlock) := hob
    have HGR : Hid (gr < w.heap.size) := HGG.out
    have HVR : Hid (0 < r.length → ∀ k, v2.ownBlock = some k → k < w.heap.size) := by
      intro hp k hk
      have hl : 0 < l.length := by
        unfold cut at hc
        split at hc
        · omega
        · cases hc
      exact HVB.out hl k (hob ▸ hk)
    clear hob
    have HA6 : Hid (Blk w6 w.heap.size (cb zb32) 23) := HA5.out.only ho (by have := HGI.out; omega)
    have HD6 : Hid (Blk w6 (w.heap.size + 1) (cb zb32) 23) := HD5.out.only ho (by have := HGI.out; omega)
    have HO6 : Hid (Only gi w w6) := HO5.out.trans ho
    have HRD : Hid (Rd w6 gr gi v2 r) := hrd
    obtain ⟨ad, cap, rfl, hcap, _, hx⟩ := hr
    obtain ⟨b, off, rfl, hy⟩ := hx (by rw [HAL.out]; omega)
    have HY : Hid (∀ j, j < a.length → w6.cell? ⟨b, off + j, none⟩ = some (.int .u8 ((a.getD j 0).toNat : Int))) := hy
    rw [HAL.out]
    have hcp : ∀ ty, (Builtin.copy_ #[28, 28] ty #[.slice (some ⟨w.heap.size + 1, 0, none⟩) 32 32, .slice (some ⟨b, off, none⟩) 32 cap]).run Tryd.prog w6 = .ok (goInt (cb a).length) (w6.setCells (w.heap.size + 1) 0 (cb a)) := fun ty =>
      run_copy_cells w6 _ _ ty 5 (w.heap.size + 1) 0 32 32 ⟨b, off, none⟩ 32 cap (cb a) Tryd.underlying28 (by kernel_rfl) (by rw [cb_len, HAL.out]; rfl)
        (fun j u hj => by
          have hjl : j < a.length := by have := (List.getElem?_eq_some_iff.1 hj).1; rwa [cb_len] at this
          rw [Addr.add_mid, HY.out j hjl, ← hj, cb_get a j hjl])
        (fun j hj => by rw [HD6.out.cell, List.getElem?_eq_getElem (by rw [cb_len, len_zb32]; rw [cb_len, HAL.out] at hj; omega)]; rfl) (fun j _ => HD6.out.frozen _) (cb_one _)
    have HE7 : Hid (Blk (w6.setCells (w.heap.size + 1) 0 (cb a)) (w.heap.size + 1) (cb a) 23) := HD6.out.whole (cb a) (by rw [cb_len, cb_len, HAL.out, len_zb32])
    have HA7 : Hid (Blk (w6.setCells (w.heap.size + 1) 0 (cb a)) w.heap.size (cb zb32) 23) := Blk.others _ _ _ _ HA6.out (by omega)
    have hbel6 : Below w.heap.size w6 (w6.setCells (w.heap.size + 1) 0 (cb a)) := Below.setCells _ (by omega) _ _ _ (Below.refl _ _)
    obtain ⟨a', HAA⟩ : ∃ x, Hid (x = cb a) := ⟨_, rfl⟩
    clear hx hy hrd ho hcap hc
    simp only [Act.put, List.getElem_toArray, List.getElem_cons_succ, List.getElem_cons_zero, List.setIfInBounds_toArray, List.set_cons_zero, List.set_cons_succ]
    refine wpAny_step 3 (goInt (cb a).length) (w6.setCells (w.heap.size + 1) 0 (cb a)) (by kernel_rfl) rfl (by rfl) (by simp [execOp, resolve, invoke, builtin, Act.eval, hcp, Result.andThen]) ?_
    simp only [Act.put, List.getElem_toArray, List.getElem_cons_succ, List.getElem_cons_zero, List.setIfInBounds_toArray, List.set_cons_zero, List.set_cons_succ]
    refine wpAny_done (by kernel_rfl) ?_ _
    have HRD7 : Hid (Rd (w6.setCells (w.heap.size + 1) 0 (cb a)) gr gi v2 r) := HRD.out.others HGR.out HGI.out HVR.out (Nat.le_refl _) hbel6
    have HO7 : Hid (Only gi w (w6.setCells (w.heap.size + 1) 0 (cb a))) := HO6.out.more hbel6 (Nat.le_refl _)
    have hcl : (cb a).length = 32 := by rw [cb_len, HAL.out]
    have H1 : Hid (∀ u ∈ cb a, u.oneCell' = true) := cb_one a
    have HZ : Hid ((Tryd.prog.info? 23).map (·.size) = some (cb a).length) := by show _ = _; rw [hcl]; exact Tryd.infodig
    have HCL : Hid ((cb a).length = 32) := hcl
    clear hcp hcl hbel6 HA6 HD6 HO6 HRD HY
    generalize w6.setCells (w.heap.size + 1) 0 (cb a) = w7 at *
    obtain ⟨cs, HCS⟩ : ∃ x, Hid (x = cb a) := ⟨_, rfl⟩
    have HAA2 : Hid (a' = cb a) := HAA.out
    clear HAA HAA2
    rw [← HCS.out] at HE7 H1 HZ HCL ⊢
    go_wp2_with (first
        | (refine wpList_load_mid rfl 23 _ rfl (w.heap.size + 1) 0 rfl cs _ HE7.out.range Tryd.underlying23 rfl HZ.out ?_)
        | (refine wpList_store_mid rfl 23 _ _ rfl w.heap.size 0 cs.toArray rfl rfl (HA7.out.there 0 _ (by rw [List.size_toArray, HCL.out, cb_len, len_zb32]; omega)) (by simpa using HZ.out) (all_oneCell_toArray H1.out) ?_))
    have hB := HA7.out.whole cs (by rw [HCL.out, cb_len, len_zb32])
    have hb8 : Below w.heap.size w7 (w7.setCells w.heap.size 0 cs) := Below.setCells _ (Nat.le_refl _) _ _ _ (Below.refl _ _)
    refine bodyPost_ret (v := .agg cs.toArray) (results_cell_row (by rfl) _ _ w.heap.size 23 _ (0, 0) _ rfl hB Tryd.underlying23 rfl (by simpa using HZ.out)) rfl ?_
    exact Or.inl ⟨a, r, _, v2, HCC.out, rfl, by rw [HCS.out], HRD7.out.others HGR.out HGI.out HVR.out (Nat.le_refl _) hb8, HO7.out.more hb8 (Nat.le_refl _), HOB.out⟩
  · refine Or.inr ⟨_, hT.down, ?_⟩
    exact ⟨rfl, Or.inr ⟨hc, hT.down ▸ (hT.after HO5.out)⟩⟩
end Go.Proofs.YtableajopaappaaDoor
/- Bindings, requests, signed roots and proofs as bytes, each in one way: plain lists (layer 5; no program is named here but by what it imports). -/
namespace Go.Proofs.YtableajopaappaaDoor
abbrev Bs := List (BitVec 8)
/-- g reads just what f writes of what is ok -/
def Codes {α : Type} (g : Bs → Option (α × Bs)) (f : α → Bs) (ok : α → Prop) : Prop := ∀ b r a, g b = some (a, r) ↔ ok a ∧ b = f a ++ r
/-- of what is ok no one's bytes begin another one's -/
def Pre {α : Type} (f : α → Bs) (ok : α → Prop) : Prop := ∀ a b r s, ok a → ok b → f a ++ r = f b ++ s → a = b ∧ r = s
theorem Codes.pre {α : Type} {g : Bs → Option (α × Bs)} {f : α → Bs} {ok : α → Prop} (h : Codes g f ok) : Pre f ok := by
  intro a b r s ha hb he
  have h1 := (h (f a ++ r) r a).2 ⟨ha, rfl⟩
  have h2 := (h (f a ++ r) s b).2 ⟨hb, he⟩
  rw [h1] at h2
  simpa using h2
theorem Pre.inj {α : Type} {f : α → Bs} {ok : α → Prop} (h : Pre f ok) {a b : α} (ha : ok a) (hb : ok b) : f a = f b ↔ a = b :=
  ⟨fun he => (h a b [] [] ha hb (by rw [he])).1, fun he => by rw [he]⟩
def thenR {α β : Type} (g : Bs → Option (α × Bs)) (h : α → Bs → Option (β × Bs)) (b : Bs) : Option ((α × β) × Bs) :=
  match g b with
  | none => none
  | some (a, r) =>
    match h a r with
    | none => none
    | some (c, s) => some ((a, c), s)
theorem thenR_none {α β : Type} {g : Bs → Option (α × Bs)} {h : α → Bs → Option (β × Bs)} {b : Bs} (h1 : g b = none) : thenR g h b = none := by unfold thenR; rw [h1]
theorem thenR_no {α β : Type} {g : Bs → Option (α × Bs)} {h : α → Bs → Option (β × Bs)} {b r : Bs} {a : α} (h1 : g b = some (a, r)) (h2 : h a r = none) : thenR g h b = none := by unfold thenR; rw [h1]; simp only [h2]
theorem thenR_some {α β : Type} {g : Bs → Option (α × Bs)} {h : α → Bs → Option (β × Bs)} {b r s : Bs} {a : α} {c : β} (h1 : g b = some (a, r)) (h2 : h a r = some (c, s)) : thenR g h b = some ((a, c), s) := by unfold thenR; rw [h1]; simp only [h2]
theorem Codes.andThen {α β : Type} {g : Bs → Option (α × Bs)} {f : α → Bs} {ok : α → Prop} {h : α → Bs → Option (β × Bs)} {f2 : α → β → Bs} {ok2 : α → β → Prop} (hg : Codes g f ok) (hh : ∀ a, Codes (h a) (f2 a) (ok2 a)) :
    Codes (thenR g h) (fun p => f p.1 ++ f2 p.1 p.2) (fun p => ok p.1 ∧ ok2 p.1 p.2) := by
  intro b r p
  obtain ⟨a, c⟩ := p
  constructor
  · intro he
    cases h1 : g b with
    | none => rw [thenR_none h1] at he; cases he
    | some q =>
      obtain ⟨a', q⟩ := q
      cases h2 : h a' q with
      | none => rw [thenR_no h1 h2] at he; cases he
      | some q2 =>
        obtain ⟨c', s⟩ := q2
        rw [thenR_some h1 h2] at he
        simp only [Option.some.injEq, Prod.mk.injEq] at he
        obtain ⟨⟨rfl, rfl⟩, rfl⟩ := he
        obtain ⟨o1, rfl⟩ := (hg _ _ _).1 h1
        obtain ⟨o2, rfl⟩ := (hh _ _ _ _).1 h2
        exact ⟨⟨o1, o2⟩, by simp only [List.append_assoc]⟩
  · rintro ⟨⟨o1, o2⟩, rfl⟩
    exact thenR_some ((hg _ _ _).2 ⟨o1, by simp only [List.append_assoc]⟩) ((hh _ _ _ _).2 ⟨o2, rfl⟩)
theorem Pre.andThen {α β : Type} {f : α → Bs} {ok : α → Prop} {f2 : α → β → Bs} {ok2 : α → β → Prop} (hg : Pre f ok) (hh : ∀ a, Pre (f2 a) (ok2 a)) :
    Pre (fun p : α × β => f p.1 ++ f2 p.1 p.2) (fun p => ok p.1 ∧ ok2 p.1 p.2) := by
  rintro ⟨a, c⟩ ⟨b, d⟩ r s ⟨h1, h2⟩ ⟨h3, h4⟩ he
  simp only [List.append_assoc] at he
  obtain ⟨rfl, he⟩ := hg _ _ _ _ h1 h3 he
  obtain ⟨rfl, rfl⟩ := hh _ _ _ _ _ h2 h4 he
  exact ⟨rfl, rfl⟩
theorem codes_num : Codes readNum encNum (fun n => n < 18446744073709551616) := readNum_iff
theorem codes_text : Codes readText encText (fun t => t.length ≤ 1048576) := readText_iff
theorem codes_cut (n : Nat) : Codes (cut n) (fun a => a) (fun a => a.length = n) := by
  intro b r a
  unfold cut
  constructor
  · intro h
    split at h
    · simp only [Option.some.injEq, Prod.mk.injEq] at h
      obtain ⟨rfl, rfl⟩ := h
      exact ⟨by show (List.take n b).length = n; rw [List.length_take]; omega, (List.take_append_drop _ _).symm⟩
    · cases h
  · rintro ⟨rfl, rfl⟩
    rw [if_pos (by simp)]
    simp
theorem Pre.mono {α : Type} {f : α → Bs} {ok ok2 : α → Prop} (h : Pre f ok) (k : ∀ a, ok2 a → ok a) : Pre f ok2 := fun a b r s ha hb he => h a b r s (k a ha) (k b hb) he
/-- what is read to the end, and may be -/
def wholeR {α : Type} (g : Bs → Option (α × Bs)) (may : α → Bool) (b : Bs) : Option α :=
  match g b with
  | some (a, []) => if may a then some a else none
  | _ => none
theorem Codes.whole {α : Type} {g : Bs → Option (α × Bs)} {f : α → Bs} {ok : α → Prop} (h : Codes g f ok) (may : α → Bool) (b : Bs) (a : α) : wholeR g may b = some a ↔ (ok a ∧ may a = true) ∧ b = f a := by
  unfold wholeR
  constructor
  · intro he
    cases h1 : g b with
    | none => rw [h1] at he; cases he
    | some p =>
      obtain ⟨c, r⟩ := p
      rw [h1] at he
      cases r with
      | cons x y => cases he
      | nil =>
        simp only at he
        split at he
        · simp only [Option.some.injEq] at he
          subst he
          obtain ⟨o, hb⟩ := (h _ _ _).1 h1
          exact ⟨⟨o, by assumption⟩, by simpa using hb⟩
        · cases he
  · rintro ⟨⟨o, hm⟩, rfl⟩
    rw [(h (f a) [] a).2 ⟨o, by simp⟩]
    simp only
    rw [if_pos hm]
/-- signed roots: epoch, three digests, signature -/
def encSigned (p : Nat × Bs × Bs × Bs × Bs) : Bs := encNum p.1 ++ (p.2.1 ++ (p.2.2.1 ++ (p.2.2.2.1 ++ encText p.2.2.2.2)))
def signedR : Bs → Option ((Nat × Bs × Bs × Bs × Bs) × Bs) := thenR readNum fun _ => thenR (cut 32) fun _ => thenR (cut 32) fun _ => thenR (cut 32) fun _ => readText
theorem codes_signed : Codes signedR encSigned (fun p => p.1 < 18446744073709551616 ∧ p.2.1.length = 32 ∧ p.2.2.1.length = 32 ∧ p.2.2.2.1.length = 32 ∧ p.2.2.2.2.length ≤ 1048576) :=
  codes_num.andThen (f2 := fun _ (q : Bs × Bs × Bs × Bs) => q.1 ++ (q.2.1 ++ (q.2.2.1 ++ encText q.2.2.2))) (ok2 := fun _ (q : Bs × Bs × Bs × Bs) => q.1.length = 32 ∧ q.2.1.length = 32 ∧ q.2.2.1.length = 32 ∧ q.2.2.2.length ≤ 1048576) fun _ =>
    (codes_cut 32).andThen (f2 := fun _ (q : Bs × Bs × Bs) => q.1 ++ (q.2.1 ++ encText q.2.2)) (ok2 := fun _ (q : Bs × Bs × Bs) => q.1.length = 32 ∧ q.2.1.length = 32 ∧ q.2.2.length ≤ 1048576) fun _ =>
      (codes_cut 32).andThen (f2 := fun _ (q : Bs × Bs) => q.1 ++ encText q.2) (ok2 := fun _ (q : Bs × Bs) => q.1.length = 32 ∧ q.2.length ≤ 1048576) fun _ =>
        (codes_cut 32).andThen (f2 := fun _ (q : Bs) => encText q) (ok2 := fun _ (q : Bs) => q.length ≤ 1048576) fun _ => codes_text
end Go.Proofs.YtableajopaappaaDoor
/- Names and keys: strings as bytes; the walks of record's isName and Check, and of the reference's Name and Check. -/
namespace Go.Proofs.YtableajopaappaaDoor
open Go.RowKit
set_option maxRecDepth 100000
end Go.Proofs.YtableajopaappaaDoor
/- The walks of Check, of record and of the reference; nameAndKey. -/
namespace Go.Proofs.YtableajopaappaaDoor
open Go.RowKit
set_option maxRecDepth 100000
theorem Reads.inB {w : World} {v : Value} {l : List (BitVec 8)} (h : Reads w v l) : 0 < l.length → ∀ k, v.ownBlock = some k → k < w.heap.size := by
  intro hp k hk
  obtain ⟨ad, cap, rfl, _, _, hx⟩ := h
  obtain ⟨b, off, rfl, hy⟩ := hx hp
  simp only [Value.ownBlock, Option.some.injEq] at hk
  subst hk
  exact block_lt_of_cell (hy 0 hp)
theorem Reads.keep {w w' : World} {v : Value} {l : List (BitVec 8)} {B : Nat} (h : Reads w v l) (hb : Below B w w') (hv : 0 < l.length → ∀ k, v.ownBlock = some k → k < B) : Reads w' v l := by
  obtain ⟨ad, cap, rfl, hc, hn, hx⟩ := h
  refine ⟨ad, cap, rfl, hc, hn, fun hp => ?_⟩
  obtain ⟨b, off, rfl, h2⟩ := hx hp
  exact ⟨b, off, rfl, fun j hj => by rw [hb.cell (p := ⟨b, off + j, none⟩) (hv hp b rfl)]; exact h2 j hj⟩
end Go.Proofs.YtableajopaappaaDoor
/- The walks of codec.Read and of what it defers: what is thrown is caught. -/
namespace Go.Proofs.YtableajopaappaaDoor
open Go.RowKit
set_option maxRecDepth 100000
set_option maxRecDepth 100000 in
set_option maxHeartbeats 1000000 in
theorem catch_threw (gin ge gi : Nat) (v : Value) (x : Int) (w : World) (ad : Option Addr) (n c : Nat) (hv : v = .slice ad n c) (hin : Blk w gin [.pointer (some ⟨gi, 0, none⟩)] 118) (hi : Blk w gi [v, .bool true, .bool true] 120) (he : Blk w ge [.int .i64 x] 35) :
    CallsD Tryd.prog 97 #[.pointer (some ⟨gin, 0, none⟩), .pointer (some ⟨ge, 0, none⟩)] (.panicking [{ v := .iface 118 (.pointer (some ⟨gi, 0, none⟩)), recovered := false }]) w fun e u' w' =>
      e = .returned (.tuple #[]) ∧ u' = .panicking [{ v := .iface 118 (.pointer (some ⟨gi, 0, none⟩)), recovered := true }] ∧ w' = (w.setCells gi 0 [.slice none 0 0, .bool false, .bool false]).setCell ⟨ge, 0, none⟩ (.int .i64 3) := by
  subst hv
  have ci : w.cell? ⟨gin, 0, none⟩ = some (.pointer (some ⟨gi, 0, none⟩)) := hin.cell 0
  have c2 : w.cell? ⟨gi, 2, none⟩ = some (.bool true) := hi.cell 2
  have c0 : w.cell? ⟨gi, 0, none⟩ = some (.slice ad n c) := hi.cell 0
  have c1 : w.cell? ⟨gi, 1, none⟩ = some (.bool true) := hi.cell 1
  have f0 : w.frozen? ⟨gi, 0, none⟩ = false := hi.frozen 0
  have f1 : w.frozen? ⟨gi, 1, none⟩ = false := hi.frozen 1
  have f2 : w.frozen? ⟨gi, 2, none⟩ = false := hi.frozen 2
  have ce : w.cell? ⟨ge, 0, none⟩ = some (.int .i64 x) := he.cell 0
  have fe : w.frozen? ⟨ge, 0, none⟩ = false := he.frozen 0
  have hge : ge ≠ gi := by
    intro h
    subst h
    unfold Blk at he hi
    rw [he] at hi
    simp at hi
  have hta : ∀ (pv : Value) (w : World), (Instr.typeAssert (.iface 118 pv) 20 118 true).run Tryd.prog w = .ok (.tuple #[pv, .bool true]) w := fun _ _ => by kernel_rfl
  have hnot : ∀ (x : Bool) (w : World), (Op.unary .not (.bool x)).run Tryd.prog w = .ok (.bool (!x)) w := fun _ _ => rfl
  refine callsD_of_wpS Tryd.func97 rfl fun c₀ cs hu => ?_
  simp only [Tryd.ntmps97, List.size_toArray, List.length_cons, List.length_nil, Nat.reduceAdd, Nat.reduceSub, Array.replicate_succ, Array.replicate_zero, List.push_toArray, List.append_toArray, List.nil_append, List.cons_append]
  apply wpS_seq
  refine wpS_of_wp ?_
  go_wp2
  simp only [Exit.thenS]
  apply wpS_seq
  refine wpS_of_wp ?_
  go_wp2
  simp only [Exit.thenS]
  apply wpS_seq
  refine wpS_of_wp ?_
  go_wp2
  simp only [Exit.thenS]
  apply wpS_seq
  apply wpS_region
  simp [wpOpsS, go_sem, recoverD, hu, Exit.thenS]
  refine wpS_of_wp ?_
  go_wp2
  exact ⟨rfl, _, rfl, _, results_none rfl _ _ _, rfl, rfl, rfl⟩
set_option maxRecDepth 100000 in
set_option maxHeartbeats 1000000 in
theorem catch_idle (gin ge gi : Nat) (v : Value) (x : Int) (w : World) (ad : Option Addr) (n c : Nat) (hv : v = .slice ad n c) (hin : Blk w gin [.pointer (some ⟨gi, 0, none⟩)] 118) (hi : Blk w gi [v, .bool true, .bool false] 120) (he : Blk w ge [.int .i64 x] 35) :
    CallsD Tryd.prog 97 #[.pointer (some ⟨gin, 0, none⟩), .pointer (some ⟨ge, 0, none⟩)] .returning w fun e u' w' =>
      e = .returned (.tuple #[]) ∧ u' = .returning ∧ w' = if n = 0 then ((w.setCells gi 0 [.slice none 0 0, .bool false, .bool false]).setCell ⟨ge, 0, none⟩ (.int .i64 3)).setCell ⟨ge, 0, none⟩ (.int .i64 0) else (w.setCells gi 0 [.slice none 0 0, .bool false, .bool false]).setCell ⟨ge, 0, none⟩ (.int .i64 3) := by
  subst hv
  have ci : w.cell? ⟨gin, 0, none⟩ = some (.pointer (some ⟨gi, 0, none⟩)) := hin.cell 0
  have c2 : w.cell? ⟨gi, 2, none⟩ = some (.bool false) := hi.cell 2
  have c0 : w.cell? ⟨gi, 0, none⟩ = some (.slice ad n c) := hi.cell 0
  have c1 : w.cell? ⟨gi, 1, none⟩ = some (.bool true) := hi.cell 1
  have f0 : w.frozen? ⟨gi, 0, none⟩ = false := hi.frozen 0
  have f1 : w.frozen? ⟨gi, 1, none⟩ = false := hi.frozen 1
  have f2 : w.frozen? ⟨gi, 2, none⟩ = false := hi.frozen 2
  have ce : w.cell? ⟨ge, 0, none⟩ = some (.int .i64 x) := he.cell 0
  have fe : w.frozen? ⟨ge, 0, none⟩ = false := he.frozen 0
  have hge : ge ≠ gi := by
    intro h
    subst h
    unfold Blk at he hi
    rw [he] at hi
    simp at hi
  have hnot : ∀ (x : Bool) (w : World), (Op.unary .not (.bool x)).run Tryd.prog w = .ok (.bool (!x)) w := fun _ _ => rfl
  by_cases hn : n = 0
  · subst hn
    rw [if_pos rfl]
    refine callsD_of_wpS Tryd.func97 rfl fun c₀ cs hu => ?_
    simp only [Tryd.ntmps97, List.size_toArray, List.length_cons, List.length_nil, Nat.reduceAdd, Nat.reduceSub, Array.replicate_succ, Array.replicate_zero, List.push_toArray, List.append_toArray, List.nil_append, List.cons_append]
    apply wpS_seq
    refine wpS_of_wp ?_
    go_wp2
    simp only [Exit.thenS]
    apply wpS_seq
    refine wpS_of_wp ?_
    go_wp2
    simp only [Exit.thenS]
    apply wpS_seq
    refine wpS_of_wp ?_
    go_wp2
    simp only [Exit.thenS]
    apply wpS_seq
    apply wpS_region
    simp [wpOpsS, go_sem, recoverD, hu, Exit.thenS]
    refine wpS_of_wp ?_
    go_wp2
    exact ⟨rfl, _, rfl, _, results_none rfl _ _ _, rfl, hu, rfl⟩
  · rw [if_neg hn]
    have hn2 : ¬ ((n : Int) = 0) := by omega
    refine callsD_of_wpS Tryd.func97 rfl fun c₀ cs hu => ?_
    simp only [Tryd.ntmps97, List.size_toArray, List.length_cons, List.length_nil, Nat.reduceAdd, Nat.reduceSub, Array.replicate_succ, Array.replicate_zero, List.push_toArray, List.append_toArray, List.nil_append, List.cons_append]
    apply wpS_seq
    refine wpS_of_wp ?_
    go_wp2
    simp only [Exit.thenS]
    apply wpS_seq
    refine wpS_of_wp ?_
    go_wp2
    simp only [Exit.thenS]
    apply wpS_seq
    refine wpS_of_wp ?_
    go_wp2
    simp only [Exit.thenS]
    apply wpS_seq
    apply wpS_region
    simp [wpOpsS, go_sem, recoverD, hu, Exit.thenS]
    refine wpS_of_wp ?_
    go_wp2
    exact ⟨rfl, _, rfl, _, results_none rfl _ _ _, rfl, hu, rfl⟩
/-- what a reading by f comes to: the new blocks of Read (from H on) are as they were, but for the input; f came back, or threw -/
structure Does (H : Nat) (A : List (BitVec 8) → World → Prop) (B : World → Prop) (w1 : World) (e : Ending) (w2 : World) : Prop where
  size : w1.heap.size ≤ w2.heap.size
  kept : ∀ k, H ≤ k → k < H + 4 → k ≠ H + 1 → w2.heap[k]? = w1.heap[k]?
  way : (e = .returned (.tuple #[]) ∧ ∃ v2 l2, Rd w2 (H + 3) (H + 1) v2 l2 ∧ A l2 w2) ∨ (e = thrown (H + 1) ∧ (∃ v ad n c, v = .slice ad n c ∧ Blk w2 (H + 1) [v, .bool true, .bool true] 120) ∧ B w2)
/-- the world w' is w but for the blocks from H to H + 3 -/
structure Past (H : Nat) (w w' : World) : Prop where
  os : w'.os = w.os
  tape : w'.tape = w.tape
  output : w'.output = w.output
  size : w'.heap.size = w.heap.size
  block : ∀ k, k < H ∨ H + 4 ≤ k → w'.heap[k]? = w.heap[k]?
theorem Past.refl (H : Nat) (w : World) : Past H w w := ⟨rfl, rfl, rfl, rfl, fun _ _ => rfl⟩
theorem Past.setCell {H : Nat} {w w' : World} (h : Past H w w') (a : Addr) (ha : H ≤ a.block ∧ a.block < H + 4) (v : Value) : Past H w (w'.setCell a v) :=
  ⟨h.os, h.tape, h.output, by have := h.size; simp [World.setCell]; omega, fun k hk => (Below.heap_setCell _ _ _ _ (by omega)).trans (h.block k hk)⟩
set_option maxRecDepth 100000 in
set_option maxHeartbeats 1000000 in
theorem read_any (F : Nat) (caps : Array Value) (vb : Value) (l : List (BitVec 8)) (A : List (BitVec 8) → World → Prop) (B : World → Prop) (w : World) (hb : Reads w vb l) (hen : ∀ xs w, (callFunc F xs).run Tryd.prog w = .ok (.enter F xs) w)
    (hf : ∀ w1, w1.heap.size = w.heap.size + 4 → Below w.heap.size w w1 → Rd w1 (w.heap.size + 3) (w.heap.size + 1) vb l → Calls Tryd.prog F (#[.pointer (some ⟨w.heap.size + 3, 0, none⟩)] ++ caps) w1 (Does w.heap.size A B w1)) :
    Calls Tryd.prog 79 #[vb, .func (.func F) #[] caps] w fun e w' => ∃ w2, Past w.heap.size w2 w' ∧ ((∃ l2, A l2 w2 ∧ e = .returned (.int .i64 (if l2 = [] then 0 else 3))) ∨ (B w2 ∧ e = .returned (.int .i64 3))) := by
  have hmf : ∀ (fn : Fn) (first cap : Array Value) (w : World), (Instr.makeFunc fn first cap).run Tryd.prog w = .ok (.func fn first cap) w := fun _ _ _ _ => rfl
  have HF : Hid (∀ w1, w1.heap.size = w.heap.size + 4 → Below w.heap.size w w1 → Rd w1 (w.heap.size + 3) (w.heap.size + 1) vb l → Calls Tryd.prog F (#[.pointer (some ⟨w.heap.size + 3, 0, none⟩)] ++ caps) w1 (Does w.heap.size A B w1)) := hf
  have HB : Hid (Reads w vb l) := hb
  obtain ⟨ad, cap, rfl, _, _, _⟩ := id hb
  obtain ⟨n, HN⟩ : ∃ n, Hid (n = l.length) := ⟨_, rfl⟩
  rw [← HN.out] at HF HB ⊢
  have HE : Hid (∀ xs w, (callFunc F xs).run Tryd.prog w = .ok (.enter F xs) w) := hen
  clear hb hf hen
  have hB1 : Below w.heap.size w ((((w.alloc (.cells #[.int .i64 0] 35)).alloc (.cells #[.slice ad n cap, .bool true, .bool false] 120)).alloc (.cells #[.pointer (some ⟨w.heap.size + 1, 0, none⟩)] 118)).alloc (.cells #[.pointer (some ⟨w.heap.size + 1, 0, none⟩)] 122)) :=
    ((((Below.refl _ _).alloc (Nat.le_refl _) _).alloc (by simp) _).alloc (by simp; omega) _).alloc (by simp; omega) _
  have g0 : Blk ((((w.alloc (.cells #[.int .i64 0] 35)).alloc (.cells #[.slice ad n cap, .bool true, .bool false] 120)).alloc (.cells #[.pointer (some ⟨w.heap.size + 1, 0, none⟩)] 118)).alloc (.cells #[.pointer (some ⟨w.heap.size + 1, 0, none⟩)] 122)) w.heap.size [.int .i64 0] 35 := (((Blk.new w [.int .i64 0] 35).alloc _).alloc _).alloc _
  have g1 : Blk ((((w.alloc (.cells #[.int .i64 0] 35)).alloc (.cells #[.slice ad n cap, .bool true, .bool false] 120)).alloc (.cells #[.pointer (some ⟨w.heap.size + 1, 0, none⟩)] 118)).alloc (.cells #[.pointer (some ⟨w.heap.size + 1, 0, none⟩)] 122)) (w.heap.size + 1) [.slice ad n cap, .bool true, .bool false] 120 := ((Blk.new_at (w := w.alloc (.cells #[.int .i64 0] 35)) (by simp) [.slice ad n cap, .bool true, .bool false] 120).alloc _).alloc _
  have g2 : Blk ((((w.alloc (.cells #[.int .i64 0] 35)).alloc (.cells #[.slice ad n cap, .bool true, .bool false] 120)).alloc (.cells #[.pointer (some ⟨w.heap.size + 1, 0, none⟩)] 118)).alloc (.cells #[.pointer (some ⟨w.heap.size + 1, 0, none⟩)] 122)) (w.heap.size + 2) [.pointer (some ⟨w.heap.size + 1, 0, none⟩)] 118 := (Blk.new_at (w := (w.alloc (.cells #[.int .i64 0] 35)).alloc (.cells #[.slice ad n cap, .bool true, .bool false] 120)) (by simp) [.pointer (some ⟨w.heap.size + 1, 0, none⟩)] 118).alloc _
  have g3 : Blk ((((w.alloc (.cells #[.int .i64 0] 35)).alloc (.cells #[.slice ad n cap, .bool true, .bool false] 120)).alloc (.cells #[.pointer (some ⟨w.heap.size + 1, 0, none⟩)] 118)).alloc (.cells #[.pointer (some ⟨w.heap.size + 1, 0, none⟩)] 122)) (w.heap.size + 3) [.pointer (some ⟨w.heap.size + 1, 0, none⟩)] 122 := Blk.new_at (w := ((w.alloc (.cells #[.int .i64 0] 35)).alloc (.cells #[.slice ad n cap, .bool true, .bool false] 120)).alloc (.cells #[.pointer (some ⟨w.heap.size + 1, 0, none⟩)] 118)) (by simp) [.pointer (some ⟨w.heap.size + 1, 0, none⟩)] 122
  have hrd := HF.out _ (by simp) hB1 ⟨g3, g1, HB.out.below hB1⟩
  have HC : Hid (Calls Tryd.prog F (#[.pointer (some ⟨w.heap.size + 3, 0, none⟩)] ++ caps) ((((w.alloc (.cells #[.int .i64 0] 35)).alloc (.cells #[.slice ad n cap, .bool true, .bool false] 120)).alloc (.cells #[.pointer (some ⟨w.heap.size + 1, 0, none⟩)] 118)).alloc (.cells #[.pointer (some ⟨w.heap.size + 1, 0, none⟩)] 122)) (fun e w2 => Does w.heap.size A B ((((w.alloc (.cells #[.int .i64 0] 35)).alloc (.cells #[.slice ad n cap, .bool true, .bool false] 120)).alloc (.cells #[.pointer (some ⟨w.heap.size + 1, 0, none⟩)] 118)).alloc (.cells #[.pointer (some ⟨w.heap.size + 1, 0, none⟩)] 122)) e w2)) := hrd
  have HG0 : Hid (Blk _ w.heap.size [.int .i64 0] 35) := g0
  have HG2 : Hid (Blk _ (w.heap.size + 2) [.pointer (some ⟨w.heap.size + 1, 0, none⟩)] 118) := g2
  clear hrd g0 g1 g2 g3 hB1 HF
  go_enter_defers Tryd.func79, Tryd.ntmps79
  go_wp2_with fail
  rw [HE.out, Oper.upon_enter]
  generalize World.alloc _ (.cells #[.pointer (some ⟨w.heap.size + 1, 0, none⟩)] 122) = w1 at *
  refine Calls.mono HC.out ?_
  intro e w2 hD
  have e0 : Blk w2 w.heap.size [.int .i64 0] 35 := by
    have := HG0.out; unfold Blk at this ⊢; rw [hD.kept _ (by omega) (by omega) (by omega)]; exact this
  have e2 : Blk w2 (w.heap.size + 2) [.pointer (some ⟨w.heap.size + 1, 0, none⟩)] 118 := by
    have := HG2.out; unfold Blk at this ⊢; rw [hD.kept _ (by omega) (by omega) (by omega)]; exact this
  rcases hD.way with ⟨rfl, v2, l2, hrd2, hA⟩ | ⟨rfl, ⟨v, ad2, n2, c2, hv2, hbad⟩, hBB⟩
  · have ce : w2.cell? ⟨w.heap.size, 0, none⟩ = some (.int .i64 0) := e0.cell 0
    have fe : w2.frozen? ⟨w.heap.size, 0, none⟩ = false := e0.frozen 0
    obtain ⟨ad2, c2, hv2⟩ := hrd2.slice
    have HB2 : Hid (Blk w2 (w.heap.size + 1) [v2, .bool true, .bool false] 120) := hrd2.inp
    have HE2 : Hid (Blk w2 (w.heap.size + 2) [.pointer (some ⟨w.heap.size + 1, 0, none⟩)] 118) := e2
    have HE0 : Hid (Blk w2 w.heap.size [.int .i64 0] 35) := e0
    have HV2 : Hid (v2 = .slice ad2 l2.length c2) := hv2
    have HAA : Hid (A l2 w2) := hA
    clear hrd2 e0 e2 hv2 hD hA HC HG0 HG2
    go_wp2
    refine leaves_cons (f := 97) (args := #[.pointer (some ⟨w.heap.size + 2, 0, none⟩), .pointer (some ⟨w.heap.size, 0, none⟩)]) (by simp) (by simp [go_sem]) ?_
    refine (catch_idle (w.heap.size + 2) w.heap.size (w.heap.size + 1) v2 0 _ ad2 l2.length c2 HV2.out (HE2.out.other _ _ (by simp)) (HB2.out.other _ _ (by simp)) (by simpa using HE0.out.set 0 (.int .i64 0))).mono ?_
    rintro e u' w'' ⟨rfl, rfl, hw⟩
    obtain ⟨hc, hP⟩ : w''.cell? ⟨w.heap.size, 0, none⟩ = some (.int .i64 (if l2 = [] then 0 else 3)) ∧ Past w.heap.size w2 w'' := by
      have h1 : Past w.heap.size w2 ((w2.setCell ⟨w.heap.size, 0, none⟩ (.int .i64 0)).setCells (w.heap.size + 1) 0 [.slice none 0 0, .bool false, .bool false]) := ((((Past.refl _ _).setCell _ (by simp) _).setCell _ (by simp) _).setCell _ (by simp) _).setCell _ (by simp) _
      have hE : Blk ((w2.setCell ⟨w.heap.size, 0, none⟩ (.int .i64 0)).setCells (w.heap.size + 1) 0 [.slice none 0 0, .bool false, .bool false]) w.heap.size [.int .i64 0] 35 := Blk.others _ _ _ _ (by simpa using HE0.out.set 0 (.int .i64 0)) (by omega)
      by_cases h0 : l2 = []
      · subst h0
        rw [if_pos (by rfl)] at hw
        rw [if_pos rfl]
        subst hw
        exact ⟨by rw [((hE.set 0 (.int .i64 3)).set 0 (.int .i64 0)).cell]; rfl, (h1.setCell _ (by simp) _).setCell _ (by simp) _⟩
      · rw [if_neg (by simpa using h0)] at hw
        rw [if_neg h0]
        subst hw
        exact ⟨by rw [(hE.set 0 (.int .i64 3)).cell]; rfl, h1.setCell _ (by simp) _⟩
    clear hw
    have HFin : Hid (∃ w2, Past w.heap.size w2 w'' ∧ ((∃ l2', A l2' w2 ∧ Ending.returned (.int .i64 (if l2 = [] then 0 else 3)) = Ending.returned (.int .i64 (if l2' = [] then 0 else 3))) ∨ (B w2 ∧ Ending.returned (.int .i64 (if l2 = [] then 0 else 3)) = .returned (.int .i64 3)))) := ⟨w2, hP, Or.inl ⟨l2, HAA.out, rfl⟩⟩
    generalize (if l2 = [] then (0 : Int) else 3) = x at hc HFin
    clear hP
    simp [Leaves, settle, results, Tryd.results79, go_sem, hc]
    simpa using HFin.out
  · have HE2 : Hid (Blk w2 (w.heap.size + 2) [.pointer (some ⟨w.heap.size + 1, 0, none⟩)] 118) := e2
    have HE0 : Hid (Blk w2 w.heap.size [.int .i64 0] 35) := e0
    clear e0 e2 hD HC HG0 HG2
    unfold thrown
    go_wp2
    refine leaves_cons (f := 97) (args := #[.pointer (some ⟨w.heap.size + 2, 0, none⟩), .pointer (some ⟨w.heap.size, 0, none⟩)]) (by simp) (by simp [go_sem]) ?_
    refine (catch_threw (w.heap.size + 2) w.heap.size (w.heap.size + 1) v 0 _ ad2 n2 c2 hv2 HE2.out hbad HE0.out).mono ?_
    rintro e u' w'' ⟨rfl, rfl, hw⟩
    obtain ⟨hc, hP⟩ : w''.cell? ⟨w.heap.size, 0, none⟩ = some (.int .i64 3) ∧ Past w.heap.size w2 w'' := by
      have h1 : Past w.heap.size w2 (w2.setCells (w.heap.size + 1) 0 [.slice none 0 0, .bool false, .bool false]) := (((Past.refl _ _).setCell _ (by simp) _).setCell _ (by simp) _).setCell _ (by simp) _
      have hE : Blk (w2.setCells (w.heap.size + 1) 0 [.slice none 0 0, .bool false, .bool false]) w.heap.size [.int .i64 0] 35 := Blk.others _ _ _ _ HE0.out (by omega)
      subst hw
      exact ⟨by rw [(hE.set 0 (.int .i64 3)).cell]; rfl, h1.setCell _ (by simp) _⟩
    clear hw
    have HFin : Hid (∃ w2, Past w.heap.size w2 w'' ∧ ((∃ l2', A l2' w2 ∧ Ending.returned (.int .i64 3) = Ending.returned (.int .i64 (if l2' = [] then 0 else 3))) ∨ (B w2 ∧ Ending.returned (.int .i64 3) = .returned (.int .i64 3)))) := ⟨w2, hP, Or.inr ⟨hBB, rfl⟩⟩
    clear hP
    simp [Leaves, settle, results, Tryd.results79, go_sem, hc]
    simpa using HFin.out
end Go.Proofs.YtableajopaappaaDoor
/- Lists of numbers and of texts that a call makes: rows, and what of them stays. -/
namespace Go.Proofs.YtableajopaappaaDoor
open Go.RowKit
set_option maxRecDepth 100000
/-- the slice v, the call's own from block base on, holds the values vs -/
def OwnV (w : World) (base : Nat) (el : TypeId) (v : Value) (vs : List Value) : Prop := w.ownsRow base el 1 v vs.length vs
theorem OwnV.nil (w : World) (base : Nat) (el : TypeId) : OwnV w base el (.slice none 0 0) [] := World.ownsRow_nil _ _ _ _
theorem OwnV.same {w w' : World} {base : Nat} {el : TypeId} {v : Value} {vs : List Value} (h : OwnV w base el v vs) (hs : ∀ k, v.ownBlock = some k → w'.heap[k]? = w.heap[k]?) : OwnV w' base el v vs := by
  obtain ⟨h1, h2⟩ := h
  refine ⟨h1, ?_⟩
  rcases h2 with h2 | ⟨g, cap, cur, rfl, hg, hh, r⟩
  · exact Or.inl h2
  · exact Or.inr ⟨g, cap, cur, rfl, hg, by rw [hs g rfl]; exact hh, r⟩
theorem OwnB.same {w w' : World} {base : Nat} {v : Value} {l : List (BitVec 8)} (h : OwnB w base v l) (hs : ∀ k, v.ownBlock = some k → w'.heap[k]? = w.heap[k]?) : OwnB w' base v l := by
  obtain ⟨h1, h2⟩ := h
  refine ⟨h1, ?_⟩
  rcases h2 with h2 | ⟨g, cap, cur, rfl, hg, hh, r⟩
  · exact Or.inl h2
  · exact Or.inr ⟨g, cap, cur, rfl, hg, by rw [hs g rfl]; exact hh, r⟩
theorem OwnB.mono {w : World} {base B : Nat} {v : Value} {l : List (BitVec 8)} (h : OwnB w base v l) (hB : B ≤ base) : OwnB w B v l := by
  obtain ⟨h1, h2⟩ := h
  refine ⟨h1, ?_⟩
  rcases h2 with h2 | ⟨g, cap, cur, rfl, hg, r⟩
  · exact Or.inl h2
  · exact Or.inr ⟨g, cap, cur, rfl, by omega, r⟩
theorem OwnV.lt {w : World} {base : Nat} {el : TypeId} {v : Value} {vs : List Value} (h : OwnV w base el v vs) : ∀ k, v.ownBlock = some k → base ≤ k ∧ k < w.heap.size := World.ownsRow.lt h
theorem OwnV.slice {w : World} {base : Nat} {el : TypeId} {v : Value} {vs : List Value} (h : OwnV w base el v vs) : ∃ ad c, v = .slice ad vs.length c ∧ vs.length ≤ c ∧ (ad = none → c = 0) ∧ (0 < vs.length → ∃ g, ad = some ⟨g, 0, none⟩ ∧ ∀ j u, vs[j]? = some u → w.cell? ⟨g, j, none⟩ = some u) := by
  obtain ⟨h1, h2⟩ := h
  rcases h2 with ⟨rfl, h0⟩ | ⟨g, cap, cur, rfl, hg, hh, hc, hm, hs, ht⟩
  · exact ⟨none, 0, by rw [h0], by omega, fun _ => rfl, fun h => by omega⟩
  · refine ⟨_, cap, rfl, hc, (fun h => by cases h), fun _ => ⟨g, rfl, fun j u hj => ?_⟩⟩
    rw [Nat.mul_one] at ht
    rw [cell_of_row w g j cur _ (0, 0) hh, ← hj, ← ht, List.getElem?_take_of_lt (by have := (List.getElem?_eq_some_iff.1 hj).1; omega)]
    simp
/-- a row of slices is no row of bytes -/
theorem OwnB.apart {w : World} {b1 b2 : Nat} {v u : Value} {l : List (BitVec 8)} {vs : List Value} {el : TypeId} (hel : el ≠ 5) (h : OwnB w b1 v l) (h2 : OwnV w b2 el u vs) : ∀ k, v.ownBlock = some k → some k ≠ u.ownBlock := by
  obtain ⟨_, h1⟩ := h
  obtain ⟨_, h3⟩ := h2
  intro k hk he
  rcases h1 with ⟨rfl, _⟩ | ⟨g, cap, cur, rfl, hg, hh, _⟩
  · simp [Value.ownBlock] at hk
  · rcases h3 with ⟨rfl, _⟩ | ⟨g2, cap2, cur2, rfl, hg2, hh2, _⟩
    · simp [Value.ownBlock] at he
    · simp only [Value.ownBlock, Option.some.injEq] at hk he
      subst hk he
      rw [hh] at hh2
      simp only [Option.some.injEq, Obj.cells.injEq] at hh2
      exact hel hh2.2.1.symm
/-- the world w' is w, below B, but for the blocks gi and gl -/
structure Fr (gi gl B : Nat) (w w' : World) : Prop where
  os : w'.os = w.os
  tape : w'.tape = w.tape
  output : w'.output = w.output
  size : w.heap.size ≤ w'.heap.size
  block : ∀ k, k < B → k ≠ gi → k ≠ gl → w'.heap[k]? = w.heap[k]?
theorem Fr.refl (gi gl B : Nat) (w : World) : Fr gi gl B w w := ⟨rfl, rfl, rfl, Nat.le_refl _, fun _ _ _ _ => rfl⟩
theorem Fr.trans {gi gl B : Nat} {a b c : World} (h : Fr gi gl B a b) (k : Fr gi gl B b c) : Fr gi gl B a c :=
  ⟨k.os.trans h.os, k.tape.trans h.tape, k.output.trans h.output, Nat.le_trans h.size k.size, fun i h1 h2 h3 => (k.block i h1 h2 h3).trans (h.block i h1 h2 h3)⟩
theorem Fr.drew {gi gl B : Nat} {a b : World} (h : Fr gi gl B a b) : Fr gi gl B a b.drew := ⟨h.os, h.tape, h.output, h.size, h.block⟩
theorem Fr.only {gi gl B : Nat} {a b c : World} (h : Fr gi gl B a b) (k : Only gi b c) (hB : B ≤ b.heap.size) : Fr gi gl B a c :=
  h.trans ⟨k.os, k.tape, k.output, k.size, fun i h1 h2 _ => k.block i h2 (by omega)⟩
theorem Fr.below {gi gl B : Nat} {a b c : World} (h : Fr gi gl B a b) (k : Below B b c) : Fr gi gl B a c :=
  h.trans ⟨k.os, k.tape, k.output, k.size, fun i h1 _ _ => k.block i h1⟩
theorem Fr.setCell {gi gl B : Nat} {a b : World} (h : Fr gi gl B a b) (o : Nat) (v : Value) : Fr gi gl B a (b.setCell ⟨gl, o, none⟩ v) :=
  h.trans ⟨rfl, rfl, rfl, by simp [World.setCell], fun k _ _ h3 => Below.heap_setCell _ _ _ _ h3⟩
theorem wpAny_law {P : Program} {md : Region.Mode} {ops : Array Oper} {Q : Exit → Act → World → Prop} {fuel : Nat} {listed : Array Bool} {a : Act} {w : World} (i : Nat) {oi : Oper}
    (hr : Region.ready md ops listed = [i]) (hi : ops[i]? = some oi) (hw : Region.wanted oi (yielded ops a.tmps) = true)
    (h : Oper.wp P oi a w (wpAny P md ops Q fuel (listed.setIfInBounds i true)) Q) : wpAny P md ops Q (fuel + 1) listed a w := by
  refine wpAny_all hr (by simp) (fun j hj => ?_)
  obtain rfl : j = i := by simpa using hj
  unfold wpOp
  rw [hi]
  simp only [hw, if_true]
  left
  exact h
theorem wpOp_enP {P : Program} {ops : Array Oper} {Q : Exit → Act → World → Prop} {K : Act → World → Prop} {a : Act} {w : World} (i : Nat) {oi : Oper} {f : FuncId} {args : Array Value} {R : Ending → World → Prop} (hi : ops[i]? = some oi) (hw : Region.wanted oi (yielded ops a.tmps) = true)
    (he : (execOp a.eval oi).run P w = .ok (.enter f args) w) (hc : Calls P f args w R) (h : ∀ e w', R e w' → (∃ v, e = .returned v ∧ K (a.put oi.dst v) w') ∨ (∃ ch, e = .panicked ch ∧ Q (.panic ch) a w')) : wpOp P ops Q i K a w := by
  unfold wpOp
  rw [hi]
  simp only [hw, if_true]
  left
  unfold Oper.wp
  rw [he, Oper.upon_enter]
  refine hc.mono ?_
  intro e w' hR
  rcases h e w' hR with ⟨v, rfl, hv⟩ | ⟨ch, rfl, hv⟩
  · exact hv
  · exact hv
theorem Tryd.infobs : (Tryd.prog.info? 28).map (fun i => (i.zero, i.size, i.bytes)) = some (some (.slice none 0 0), 1, 24) := by kernel_rfl
/-- one text more -/
theorem wp_appendT {o : Oper} {a : Act} {w : World} {K : Act → World → Prop} {Q : Exit → Act → World → Prop} (s x : Operand) (ho : o.op = .call { callee := .builtin .append, args := #[s, x], argTypes := #[64, 64] }) (base : Nat) (v u : Value) (vs : List Value) (g : Nat)
    (hs : a.eval s = v) (hown : OwnV w base 28 v vs) (hx : a.eval x = .slice (some ⟨g, 0, none⟩) 1 1) (hu : w.cell? ⟨g, 0, none⟩ = some u) (h1 : u.oneCell' = true) (hl : vs.length < 1000000) (hbase : base ≤ w.heap.size)
    (h : ∀ v' w', OwnV w' base 28 v' (vs ++ [u]) → w.grownBy w' v.ownBlock → K (a.put o.dst v') w') : o.wp Tryd.prog a w K Q := by
  obtain ⟨i0, hi, hz0, hz1, hz2⟩ := info_parts Tryd.infobs
  refine wp_append_own w s x 64 ho base 28 i0 (.slice none 0 0) 1 24 Tryd.underlying64 hi hz0 hz1 hz2 rfl (by decide) v vs.length vs hs hown ⟨g, 0, none⟩ 1 1 [u] hx rfl ?_ ?_ (by unfold maxLen; omega) (by omega) hbase ?_
  · intro j u' hj
    match j, hj with
    | 0, hj => simp at hj; subst hj; simpa [Addr.add] using hu
  · intro u' hu'; simp at hu'; subst hu'; exact h1
  · intro v' w' h2 h3 _
    exact h v' w' (by unfold OwnV; rw [List.length_append]; exact h2) h3
/-- the values are the numbers -/
def GoodN (_w : World) (_base : Nat) (vs : List Value) (ns : List Nat) : Prop := vs = ns.map fun n : Nat => Value.int .u64 (n : Int)
/-- the values are slices of the texts -/
def GoodT (w : World) (base : Nat) (vs : List Value) (ls : List (List (BitVec 8))) : Prop := vs.length = ls.length ∧ ∀ j u, vs[j]? = some u → OwnB w base u (ls.getD j [])
def readMany {α : Type} (g : List (BitVec 8) → Option (α × List (BitVec 8))) (l : List (BitVec 8)) : Option (List α × List (BitVec 8)) :=
  match readCount 4096 l with
  | none => none
  | some (n, r) => readAll g n r
theorem readAll_more {α : Type} (g : List (BitVec 8) → Option (α × List (BitVec 8))) (k : Nat) (b r : List (BitVec 8)) (a : α) (m : Nat) (xs : List α) (B : List (BitVec 8)) (h : readAll g m B = (readAll g (k + 1) b).map (fun p => (xs ++ p.1, p.2))) (hg : g b = some (a, r)) :
    readAll g m B = (readAll g k r).map (fun p => ((xs ++ [a]) ++ p.1, p.2)) := by
  rw [h, readAll, hg]
  simp only
  cases readAll g k r with
  | none => rfl
  | some p => simp
end Go.Proofs.YtableajopaappaaDoor
/- What of a reader stays where a variable of slices is stored to; blocks behind an append. -/
namespace Go.Proofs.YtableajopaappaaDoor
open Go.RowKit
set_option maxRecDepth 100000
theorem Reads.setOther {w : World} {gl : Nat} {v u : Value} {t : TypeId} {l : List (BitVec 8)} (h : Reads w v l) (hb : Blk w gl [u] t) (hu : ∃ ad n c, u = .slice ad n c) (x : Value) : Reads (w.setCell ⟨gl, 0, none⟩ x) v l := by
  obtain ⟨ad, cap, rfl, hc, hn, hx⟩ := h
  refine ⟨ad, cap, rfl, hc, hn, fun hp => ?_⟩
  obtain ⟨b, off, h1, h2⟩ := hx hp
  refine ⟨b, off, h1, fun j hj => ?_⟩
  have hne : b ≠ gl := by
    intro he
    subst he
    have h0 := h2 0 hp
    rw [hb.cell] at h0
    obtain ⟨ad', n', c', rfl⟩ := hu
    match off, h0 with
    | 0, h0 => simp at h0
    | k + 1, h0 => simp at h0
  rw [World.cell?_of_block (w := w) (Below.heap_setCell _ _ _ _ (by exact hne))]
  exact h2 j hj
theorem Rd.setOther {w : World} {gr gi gl : Nat} {v u : Value} {t : TypeId} {l : List (BitVec 8)} (h : Rd w gr gi v l) (hb : Blk w gl [u] t) (hu : ∃ ad n c, u = .slice ad n c) (h1 : gr ≠ gl) (h2 : gi ≠ gl) (x : Value) : Rd (w.setCell ⟨gl, 0, none⟩ x) gr gi v l :=
  ⟨h.rd.other _ _ (by exact h1), h.inp.other _ _ (by exact h2), h.byt.setOther hb hu x⟩
theorem Blk.grown4 {w w' : World} {g : Nat} {cs : List Value} {t : TypeId} {row : Option Nat} (h : Blk w g cs t) (hg : w.grownBy w' row) (hne : some g ≠ row) : Blk w' g cs t := by
  have := h.lt
  unfold Blk at *
  rw [hg.block g this hne]; exact h
theorem wpAny_skip {P : Program} {md : Region.Mode} {ops : Array Oper} {Q : Exit → Act → World → Prop} {fuel : Nat} {listed : Array Bool} {a : Act} {w : World} (i : Nat) {oi : Oper} (w' : World)
    (hr : Region.ready md ops listed = [i]) (hi : ops[i]? = some oi) (hw : Region.wanted oi (yielded ops a.tmps) = true) (he : (execOp a.eval oi).run P w = .ok .skip w')
    (h : wpAny P md ops Q fuel (listed.setIfInBounds i true) (a.put oi.dst undef) w') : wpAny P md ops Q (fuel + 1) listed a w := by
  refine wpAny_law i hr hi hw ?_
  unfold Oper.wp
  rw [he]
  exact h
end Go.Proofs.YtableajopaappaaDoor
/- The walks of codec.readList at numbers, of what it hands to Read, and of codec.ReadNums. -/
namespace Go.Proofs.YtableajopaappaaDoor
open Go.RowKit
set_option maxRecDepth 100000
end Go.Proofs.YtableajopaappaaDoor

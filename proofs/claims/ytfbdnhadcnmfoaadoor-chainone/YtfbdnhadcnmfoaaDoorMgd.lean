/- Texts that the proof leans on, one behind the other: The walk of the reference's Follow (layer 11). The walk of the reference's Walk (layer 11). The walk of the reference's Seal (layer 11). .. -/
import Derived.Test.YtfbdnhadcnmfoaaDoorMgc
import Derived.Deep.CutRange
import Derived.Deep.DeepCutAuto
/- The walk of the reference's Follow (layer 11). -/
namespace Go.Proofs.YtfbdnhadcnmfoaaDoor
open Go.RowKit Go.Shelf
set_option maxRecDepth 100000
theorem Only.still {g : Nat} {w w1 w2 : World} (h : Only g w w1) (hb : Below w1.heap.size w1 w2) : Only g w w2 :=
  ⟨hb.os.trans h.os, hb.tape.trans h.tape, hb.output.trans h.output, Nat.le_trans h.size hb.size, fun k hk hlt => by rw [hb.block k (Nat.lt_of_lt_of_le hlt h.size), h.block k hk hlt]⟩
theorem HdAt.over {y0 wx : World} {b off : Nat} {h : HdT} (r : HdAt y0 b off h) (hx : Over y0 wx) : HdAt wx b off h := r.below hx (Nat.le_refl _)
theorem SgAt.over {y0 wx : World} {b off : Nat} {s : SgT} {vs : Value} (r : SgAt y0 b off s vs) (hx : Over y0 wx) : SgAt wx b off s vs := r.below hx (Nat.le_refl _)
theorem rangeAt_only {w w' : World} {b off g : Nat} {cs : List Value} (h : w.rangeAt b off cs) (ho : Only g w w') (hne : b ≠ g) : w'.rangeAt b off cs := fun j v hj => ho.cell (p := ⟨b, off + j, none⟩) hne (h j v hj)
theorem SgAt.only {y0 wx : World} {b off g : Nat} {s : SgT} {vs : Value} (r : SgAt y0 b off s vs) (hx : Only g y0 wx) (hne : b ≠ g) : SgAt wx b off s vs := ⟨rangeAt_only r.all hx hne, r.ok⟩
theorem HdAt.only {y0 wx : World} {b off g : Nat} {h : HdT} (r : HdAt y0 b off h) (hx : Only g y0 wx) (hne : b ≠ g) : HdAt wx b off h := ⟨rangeAt_only r.all hx hne, r.ok⟩
theorem loadDigAt {a : Act} {o : Oper} {w : World} (x : Operand) (b off : Nat) (l : List (BitVec 8)) (hl : l.length = 32) (hb : w.rangeAt b off (cb l)) (ho : o.op = .load 23 x) (hx : a.eval x = .pointer (some ⟨b, off, none⟩)) : (execOp a.eval o).run Tryd.prog w = .ok (.value (.agg (cb l).toArray)) w :=
  load_run 23 x ho b off hx (cb l) _ hb Tryd.underlying23 rfl (by rw [cb_len, hl]; exact info_digest)
theorem loadRtAt {a : Act} {o : Oper} {w : World} (x : Operand) (b off : Nat) (s : SgT) (os : okS s) (hb : w.rangeAt b off (rtC s)) (ho : o.op = .load 28 x) (hx : a.eval x = .pointer (some ⟨b, off, none⟩)) : (execOp a.eval o).run Tryd.prog w = .ok (.value (.agg (rtC s).toArray)) w :=
  load_run 28 x ho b off hx (rtC s) _ hb Tryd.underlying28 rfl (info_rtC os)
theorem loadSgAt {a : Act} {o : Oper} {w : World} (x : Operand) (b off : Nat) (s : SgT) (vs : Value) (r : SgAt w b off s vs) (ho : o.op = .load 31 x) (hx : a.eval x = .pointer (some ⟨b, off, none⟩)) : (execOp a.eval o).run Tryd.prog w = .ok (.value (.agg (sgC s vs).toArray)) w :=
  load_run 31 x ho b off hx (sgC s vs) _ r.all Tryd.underlying31 rfl (info_sgC r.ok vs)
theorem loadHdAt {a : Act} {o : Oper} {w : World} (x : Operand) (b off : Nat) (h : HdT) (r : HdAt w b off h) (ho : o.op = .load 26 x) (hx : a.eval x = .pointer (some ⟨b, off, none⟩)) : (execOp a.eval o).run Tryd.prog w = .ok (.value (.agg (hdC h).toArray)) w :=
  load_run 26 x ho b off hx (hdC h) _ r.all Tryd.underlying26 rfl (info_hdC r.ok)
set_option maxRecDepth 100000 in
set_option maxHeartbeats 8000000 in
theorem qcFollow_any (h : HdT) (s : SgT) (vs : Value) (w : World) (oh : okH h) (os : okS s) (hr : Reads w vs s.2) :
    Calls Tryd.prog 15 #[.agg (hdC h).toArray, .agg (sgC s vs).toArray] w fun e w' => e = .returned (.tuple #[.agg (hdC (followR h s).1).toArray, .int .i64 (followR h s).2]) ∧ Below w.heap.size w w' := by
  obtain ⟨ads, cps, hvs, hqs⟩ := id hr
  clear hqs
  obtain ⟨ns, HNS⟩ : ∃ n, Hid (n = s.2.length) := ⟨_, rfl⟩
  rw [← HNS.out] at hvs
  have HR : Hid (Reads w vs s.2) := hr
  subst hvs
  obtain ⟨ch, HCH⟩ : ∃ c, Hid (c = hdC h) := ⟨_, rfl⟩
  obtain ⟨csg, HCS⟩ : ∃ c, Hid (c = sgC s (.slice ads ns cps)) := ⟨_, rfl⟩
  obtain ⟨n, HNN⟩ : ∃ n, Hid (n = h.1) := ⟨_, rfl⟩
  obtain ⟨m, HMM⟩ : ∃ n, Hid (n = s.1.1) := ⟨_, rfl⟩
  rw [← HCH.out, ← HCS.out]
  have HOH : Hid (okH h) := oh
  have HOS : Hid (okS s) := os
  have HBW : Hid (Below w.heap.size w w) := Below.refl _ _
  have hm0 : (m : Int) < 18446744073709551616 := by have := os.2.2.2; rw [HMM.out]; omega
  clear oh os hr
  by_cases h64 : 64 ≤ n
  · have HFR : Hid (followR h s = (zeroH, 10)) := by show _ = _; unfold followR; rw [if_pos (Or.inl (by rw [← HNN.out]; exact h64))]
    have c64 : (64 : Int) ≤ (n : Int) := by omega
    have d64 : decide ((64 : Int) ≤ (n : Int)) = true := decide_eq_true c64
    clear hm0
    go_enter Tryd.func15, Tryd.ntmps15
    have tk0 : Hid True := trivial
    have tk1 : Hid True := trivial
    have tk2 : Hid True := trivial
    have tk3 : Hid True := trivial
    have tk4 : Hid True := trivial
    go_wp2_with (first
    | (clear tk0; with_reducible refine wpSeq_boxW 26 (.tmp 0) ch ?_ ?_ ?_ ?_
       · rfl
       · rfl
       · rfl
       intro g2 y1 nn
       have HG2 : Hid (Blk y1 g2 ch 26) := nn.blk
       replace HBW : Hid (Below w.heap.size w y1) := HBW.out.trans (nn.below.mono HBW.out.size)
       clear nn)
    | (clear tk1; with_reducible refine wpSeq_boxW 31 (.tmp 1) csg ?_ ?_ ?_ ?_
       · rfl
       · rfl
       · rfl
       intro g3 y2 nn
       replace HG2 : Hid (Blk y2 g2 ch 26) := HG2.out.below nn.below HG2.out.lt
       have HG3 : Hid (Blk y2 g3 csg 31) := nn.blk
       replace HBW : Hid (Below w.heap.size w y2) := HBW.out.trans (nn.below.mono HBW.out.size)
       clear nn)
    | (clear tk2; with_reducible refine wpSeq_allocH ?_ ?_ ?_
       · rfl
       · rfl
       intro g4 y3 nn
       have HN4 : Hid (g2 ≠ g4 ∧ g3 ≠ g4 ∧ w.heap.size ≤ g4) := by have h1 := HG2.out.lt; have h2 := HG3.out.lt; have h3 := nn.ge; have h4 := HBW.out.size; exact ⟨by omega, by omega, by omega⟩
       replace HG2 : Hid (Blk y3 g2 ch 26) := HG2.out.below nn.below HG2.out.lt
       replace HG3 : Hid (Blk y3 g3 csg 31) := HG3.out.below nn.below HG3.out.lt
       have HG4 : Hid (Blk y3 g4 (hdC zeroH) 26) := nn.blk
       replace HBW : Hid (Below w.heap.size w y3) := HBW.out.trans (nn.below.mono HBW.out.size)
       have ce : y3.cell? ⟨g2, 0, none⟩ = some (.int .u64 (n : Int)) := by have := HG2.out.cell 0; rw [HCH.out] at this; rw [HNN.out]; exact this
       have cm : y3.cell? ⟨g3, 0, none⟩ = some (.int .u64 (m : Int)) := by have := HG3.out.cell 0; rw [HCS.out] at this; rw [HMM.out]; exact this
       clear nn)
    | (clear tk3; with_reducible refine wpSeq_build 26 [] (hdC zeroH) ?_ ?_ ?_ ?_
       · exact built_head []
       · rfl
       · rfl)
    | (clear tk4; with_reducible refine wpSeq_storeRow 26 (.tmp 4) (.tmp 18) g4 (hdC zeroH) (hdC zeroH) ?_ ?_ ?_ ?_ ?_ ?_ ?_ ?_ ?_
       · exact HG4.out
       · rfl
       · exact info_hdC okH_zero
       · exact hdC_one _
       · rfl
       · rfl
       · rfl
       · rfl
       intro y4 hs))
    exact bodyPost_ret (results_row_tmp (by rfl) _ _ g4 _ rfl (var_hd hs.blk okH_zero)) rfl ⟨by rw [HFR.out]; rfl, HBW.out.trans (hs.only.below HN4.out.2.2 HBW.out.size)⟩
  have hn64 : n < 64 := by omega
  have c64 : ¬ ((64 : Int) ≤ (n : Int)) := by omega
  have d64 : decide ((64 : Int) ≤ (n : Int)) = false := decide_eq_false c64
  have f1 : IntKind.u64.wrap ((n : Int) + 1) = (n : Int) + 1 := by rw [IntKind.wrap_u64]; omega
  by_cases hep : m = n + 1
  case neg =>
    have HFR : Hid (followR h s = (zeroH, 10)) := by show _ = _; unfold followR; rw [if_pos (Or.inr (by rw [← HNN.out, ← HMM.out]; exact hep))]
    have e1 : ((m : Int) == (n : Int) + 1) = false := by rw [beq_eq_false_iff_ne]; omega
    have e2 : ((m : Int) != (n : Int) + 1) = true := by rw [bne, e1]; rfl
    clear hm0 hep h64
    go_enter Tryd.func15, Tryd.ntmps15
    have tk0 : Hid True := trivial
    have tk1 : Hid True := trivial
    have tk2 : Hid True := trivial
    have tk3 : Hid True := trivial
    have tk4 : Hid True := trivial
    go_wp2_with (first
    | (clear tk0; with_reducible refine wpSeq_boxW 26 (.tmp 0) ch ?_ ?_ ?_ ?_
       · rfl
       · rfl
       · rfl
       intro g2 y1 nn
       have HG2 : Hid (Blk y1 g2 ch 26) := nn.blk
       replace HBW : Hid (Below w.heap.size w y1) := HBW.out.trans (nn.below.mono HBW.out.size)
       clear nn)
    | (clear tk1; with_reducible refine wpSeq_boxW 31 (.tmp 1) csg ?_ ?_ ?_ ?_
       · rfl
       · rfl
       · rfl
       intro g3 y2 nn
       replace HG2 : Hid (Blk y2 g2 ch 26) := HG2.out.below nn.below HG2.out.lt
       have HG3 : Hid (Blk y2 g3 csg 31) := nn.blk
       replace HBW : Hid (Below w.heap.size w y2) := HBW.out.trans (nn.below.mono HBW.out.size)
       clear nn)
    | (clear tk2; with_reducible refine wpSeq_allocH ?_ ?_ ?_
       · rfl
       · rfl
       intro g4 y3 nn
       have HN4 : Hid (g2 ≠ g4 ∧ g3 ≠ g4 ∧ w.heap.size ≤ g4) := by have h1 := HG2.out.lt; have h2 := HG3.out.lt; have h3 := nn.ge; have h4 := HBW.out.size; exact ⟨by omega, by omega, by omega⟩
       replace HG2 : Hid (Blk y3 g2 ch 26) := HG2.out.below nn.below HG2.out.lt
       replace HG3 : Hid (Blk y3 g3 csg 31) := HG3.out.below nn.below HG3.out.lt
       have HG4 : Hid (Blk y3 g4 (hdC zeroH) 26) := nn.blk
       replace HBW : Hid (Below w.heap.size w y3) := HBW.out.trans (nn.below.mono HBW.out.size)
       have ce : y3.cell? ⟨g2, 0, none⟩ = some (.int .u64 (n : Int)) := by have := HG2.out.cell 0; rw [HCH.out] at this; rw [HNN.out]; exact this
       have cm : y3.cell? ⟨g3, 0, none⟩ = some (.int .u64 (m : Int)) := by have := HG3.out.cell 0; rw [HCS.out] at this; rw [HMM.out]; exact this
       clear nn)
    | (clear tk3; with_reducible refine wpSeq_build 26 [] (hdC zeroH) ?_ ?_ ?_ ?_
       · exact built_head []
       · rfl
       · rfl)
    | (clear tk4; with_reducible refine wpSeq_storeRow 26 (.tmp 4) (.tmp 18) g4 (hdC zeroH) (hdC zeroH) ?_ ?_ ?_ ?_ ?_ ?_ ?_ ?_ ?_
       · exact HG4.out
       · rfl
       · exact info_hdC okH_zero
       · exact hdC_one _
       · rfl
       · rfl
       · rfl
       · rfl
       intro y4 hs))
    exact bodyPost_ret (results_row_tmp (by rfl) _ _ g4 _ rfl (var_hd hs.blk okH_zero)) rfl ⟨by rw [HFR.out]; rfl, HBW.out.trans (hs.only.below HN4.out.2.2 HBW.out.size)⟩
  case pos =>
    have e1 : ((m : Int) == (n : Int) + 1) = true := by rw [beq_iff_eq]; omega
    have e2 : ((m : Int) != (n : Int) + 1) = false := by rw [bne, e1]; rfl
    have HEP : Hid (¬ (64 ≤ h.1 ∨ s.1.1 ≠ h.1 + 1)) := by show ¬ _; rw [← HNN.out, ← HMM.out]; rintro (h1 | h1); exact h64 h1; exact h1 hep
    obtain ⟨pv, HPV⟩ : ∃ c, Hid (c = s.1.2.1) := ⟨_, rfl⟩
    obtain ⟨nx, HNX⟩ : ∃ c, Hid (c = s.1.2.2.2) := ⟨_, rfl⟩
    obtain ⟨hr0, HHR⟩ : ∃ c, Hid (c = h.2.1) := ⟨_, rfl⟩
    obtain ⟨ky, HKY⟩ : ∃ c, Hid (c = h.2.2) := ⟨_, rfl⟩
    have HLN : Hid (pv.length = 32 ∧ nx.length = 32 ∧ hr0.length = 32 ∧ ky.length = 32) := by rw [HPV.out, HNX.out, HHR.out, HKY.out]; exact ⟨HOS.out.1, HOS.out.2.2.1, HOH.out.1, HOH.out.2.1⟩
    obtain ⟨o, HO⟩ : ∃ o, Hid (o = decide (pv = hr0)) := ⟨_, rfl⟩
    have heq : ∀ wx : World, (Op.equalIn 10000 23 (.agg (cb pv).toArray) (.agg (cb hr0).toArray)).run Tryd.prog wx = .ok o wx := fun wx => by rw [HO.out]; exact eq_dig pv hr0 HLN.out.1 HLN.out.2.2.1 wx
    obtain ⟨rt, HRT⟩ : ∃ c, Hid (c = rtC s) := ⟨_, rfl⟩
    obtain ⟨rb, HRB⟩ : ∃ c, Hid (c = rbS s) := ⟨_, rfl⟩
    have HLB : Hid (rb.length = 105) := by show _ = _; rw [HRB.out]; exact len_rbS HOS.out
    obtain ⟨dg, HDG⟩ : ∃ c, Hid (c = dig rb) := ⟨_, rfl⟩
    have HDL : Hid (dg.length = 32) := by show _ = _; rw [HDG.out]; exact len_dig' _
    obtain ⟨ck, HCK⟩ : ∃ c, Hid (c = checkE ky rb s.2) := ⟨_, rfl⟩
    have HC1 : Hid (∀ W : World, Below w.heap.size w W → Calls Tryd.prog 21 #[.agg rt.toArray] W fun e w' => ∃ v, e = .returned v ∧ Reads w' v rb ∧ Below W.heap.size W w') := fun W hh => by rw [HRT.out, HRB.out]; exact rRoot_any _ _ _ _ W ⟨HOS.out.1, HOS.out.2.1, HOS.out.2.2.1, HOS.out.2.2.2⟩
    have HC2 : Hid (∀ (W : World) (v : Value), Below w.heap.size w W → Reads W v rb → Calls Tryd.prog 31 #[.agg (cb ky).toArray, v, .slice ads ns cps] W fun e w' => e = .returned (.int .i64 ck) ∧ Below W.heap.size W w') := fun W v hh hv => by rw [HCK.out]; exact qlCheck_any ky v _ rb s.2 W HLN.out.2.2.2 hv (HR.out.below hh) (by rw [HLB.out]; decide)
    have HC3 : Hid (∀ W : World, Below w.heap.size w W → Calls Tryd.prog 20 #[.agg rt.toArray] W fun e w' => e = .returned (.agg (cb dg).toArray) ∧ Below W.heap.size W w') := fun W hh => by rw [HRT.out, HDG.out, HRB.out]; exact hRoot_any _ _ _ _ W ⟨HOS.out.1, HOS.out.2.1, HOS.out.2.2.1, HOS.out.2.2.2⟩
    have HFR : Hid (followR h s = if o = true ∧ ck = 0 then ((m, dg, nx), 0) else (zeroH, 15)) := by
      show _ = _
      unfold followR
      rw [if_neg HEP.out, HMM.out, HDG.out, HNX.out, HRB.out, HCK.out, HRB.out, HKY.out, HO.out, HPV.out, HHR.out]
      by_cases q1 : s.1.2.1 = h.2.1
      · by_cases q2 : checkE h.2.2 (rbS s) s.2 = 0
        · rw [if_neg (by rintro (k | k); exact k q1; exact k q2), if_pos ⟨decide_eq_true q1, q2⟩]
        · rw [if_pos (Or.inr q2), if_neg (fun k => q2 k.2)]
      · rw [if_pos (Or.inl q1), if_neg (fun k => q1 (of_decide_eq_true k.1))]
    have HTC : Hid (∀ (W : World) (g : Nat), Blk W g ch 26 → HdAt W g 0 h) := fun W g hg => by rw [HCH.out] at hg; exact hg.hdAt HOH.out
    have HTS : Hid (∀ (W : World) (g : Nat), Blk W g csg 31 → SgAt W g 0 s (.slice ads ns cps)) := fun W g hg => by rw [HCS.out] at hg; exact hg.sgAt HOS.out
    clear hep h64 hm0 HEP HO HDG HCK HRB
    go_enter Tryd.func15, Tryd.ntmps15
    have tk0 : Hid True := trivial
    have tk1 : Hid True := trivial
    have tk2 : Hid True := trivial
    go_wp2_with (first
    | (clear tk0; with_reducible refine wpSeq_boxW 26 (.tmp 0) ch ?_ ?_ ?_ ?_
       · rfl
       · rfl
       · rfl
       intro g2 y1 nn
       have HG2 : Hid (Blk y1 g2 ch 26) := nn.blk
       replace HBW : Hid (Below w.heap.size w y1) := HBW.out.trans (nn.below.mono HBW.out.size)
       clear nn)
    | (clear tk1; with_reducible refine wpSeq_boxW 31 (.tmp 1) csg ?_ ?_ ?_ ?_
       · rfl
       · rfl
       · rfl
       intro g3 y2 nn
       replace HG2 : Hid (Blk y2 g2 ch 26) := HG2.out.below nn.below HG2.out.lt
       have HG3 : Hid (Blk y2 g3 csg 31) := nn.blk
       replace HBW : Hid (Below w.heap.size w y2) := HBW.out.trans (nn.below.mono HBW.out.size)
       clear nn)
    | (clear tk2; with_reducible refine wpSeq_allocH ?_ ?_ ?_
       · rfl
       · rfl
       intro g4 y3 nn
       have HN4 : Hid (g2 ≠ g4 ∧ g3 ≠ g4 ∧ w.heap.size ≤ g4) := by have h1 := HG2.out.lt; have h2 := HG3.out.lt; have h3 := nn.ge; have h4 := HBW.out.size; exact ⟨by omega, by omega, by omega⟩
       replace HG2 : Hid (Blk y3 g2 ch 26) := HG2.out.below nn.below HG2.out.lt
       replace HG3 : Hid (Blk y3 g3 csg 31) := HG3.out.below nn.below HG3.out.lt
       have HG4 : Hid (Blk y3 g4 (hdC zeroH) 26) := nn.blk
       replace HBW : Hid (Below w.heap.size w y3) := HBW.out.trans (nn.below.mono HBW.out.size)
       have ce : y3.cell? ⟨g2, 0, none⟩ = some (.int .u64 (n : Int)) := by have := HG2.out.cell 0; rw [HCH.out] at this; rw [HNN.out]; exact this
       have cm : y3.cell? ⟨g3, 0, none⟩ = some (.int .u64 (m : Int)) := by have := HG3.out.cell 0; rw [HCS.out] at this; rw [HMM.out]; exact this
       clear nn))
    clear ce cm
    refine wp_region_held_drew (S := Over (World.drew y3)) (by kernel_rfl) (Over.refl _) ?_
    intro hS
    replace HG2 : Hid (Blk (World.drew y3) g2 ch 26) := HG2.out.drew
    replace HG3 : Hid (Blk (World.drew y3) g3 csg 31) := HG3.out.drew
    replace HG4 : Hid (Blk (World.drew y3) g4 (hdC zeroH) 26) := HG4.out.drew
    replace HBW : Hid (Below w.heap.size w (World.drew y3)) := HBW.out.drew
    change wpAnyH _ _ _ _ _ _ _ _ (World.drew y3)
    generalize World.drew y3 = y0 at *
    have HHA : Hid (HdAt y0 g2 0 h) := HTC.out _ _ HG2.out
    have HSA : Hid (SgAt y0 g3 0 s (.slice ads ns cps)) := HTS.out _ _ HG3.out
    try simp only [Act.put, List.setIfInBounds_toArray, List.set_cons_zero, List.set_cons_succ]
    refine wpAnyH_take (i := 0) (v := .pointer (some ⟨g3, 0, none⟩)) rfl (by kernel_rfl) (by kernel_rfl) (by kernel_rfl) (fun _ _ _ h => h) (Or.inl ⟨by rfl, fun wx hx => by simp [go_sem]⟩) hS ?_
    simp only [Act.put, List.getElem_toArray, List.getElem_cons_zero, List.setIfInBounds_toArray, List.set_cons_zero, List.set_cons_succ]
    refine wpAnyH_take (i := 1) (v := .pointer (some ⟨g3, 1, none⟩)) rfl (by kernel_rfl) (by kernel_rfl) (by kernel_rfl) (fun _ _ _ h => h) (Or.inl ⟨by rfl, fun wx hx => by simp [go_sem]⟩) hS ?_
    simp only [Act.put, List.getElem_toArray, List.getElem_cons_succ, List.getElem_cons_zero, List.setIfInBounds_toArray, List.set_cons_zero, List.set_cons_succ]
    refine wpAnyH_take (i := 2) (v := .agg (cb pv).toArray) rfl (by kernel_rfl) (by kernel_rfl) (by kernel_rfl) (fun _ _ _ h => h) (Or.inl ⟨by rfl, fun wx hx => by exact loadDigAt _ g3 1 pv HLN.out.1 (by rw [HPV.out]; exact (HSA.out.over hx).prev) rfl rfl⟩) hS ?_
    simp only [Act.put, List.getElem_toArray, List.getElem_cons_succ, List.getElem_cons_zero, List.setIfInBounds_toArray, List.set_cons_zero, List.set_cons_succ]
    refine wpAnyH_take (i := 3) (v := .pointer (some ⟨g2, 1, none⟩)) rfl (by kernel_rfl) (by kernel_rfl) (by kernel_rfl) (fun _ _ _ h => h) (Or.inl ⟨by rfl, fun wx hx => by simp [go_sem]⟩) hS ?_
    simp only [Act.put, List.getElem_toArray, List.getElem_cons_succ, List.getElem_cons_zero, List.setIfInBounds_toArray, List.set_cons_zero, List.set_cons_succ]
    refine wpAnyH_take (i := 4) (v := .agg (cb hr0).toArray) rfl (by kernel_rfl) (by kernel_rfl) (by kernel_rfl) (fun _ _ _ h => h) (Or.inl ⟨by rfl, fun wx hx => by exact loadDigAt _ g2 1 hr0 HLN.out.2.2.1 (by rw [HHR.out]; exact (HHA.out.over hx).rt) rfl rfl⟩) hS ?_
    simp only [Act.put, List.getElem_toArray, List.getElem_cons_succ, List.getElem_cons_zero, List.setIfInBounds_toArray, List.set_cons_zero, List.set_cons_succ]
    refine wpAnyH_take (i := 5) (v := .bool (!o)) rfl (by kernel_rfl) (by kernel_rfl) (by kernel_rfl) (fun _ _ _ h => h) (Or.inl ⟨by rfl, fun wx hx => by simp [go_sem, heq]⟩) hS ?_
    simp only [Act.put, List.getElem_toArray, List.getElem_cons_succ, List.getElem_cons_zero, List.setIfInBounds_toArray, List.set_cons_zero, List.set_cons_succ]
    refine wpAnyH_take (i := 6) (v := .bool (!o)) rfl (by kernel_rfl) (by kernel_rfl) (by kernel_rfl) (fun _ _ _ h => h) (Or.inl ⟨by rfl, fun wx hx => by simp [go_sem]⟩) hS ?_
    simp only [Act.put, List.getElem_toArray, List.getElem_cons_succ, List.getElem_cons_zero, List.setIfInBounds_toArray, List.set_cons_zero, List.set_cons_succ]
    cases o with
    | false =>
      simp only [Bool.not_false]
      refine wpAnyH_take (i := 7) (v := undef) rfl (by kernel_rfl) (by kernel_rfl) (by kernel_rfl) (fun _ _ _ h => h) (Or.inr ⟨by rfl, rfl⟩) hS ?_
      simp only [Act.put, List.getElem_toArray, List.getElem_cons_succ, List.getElem_cons_zero, List.setIfInBounds_toArray, List.set_cons_zero, List.set_cons_succ]
      refine wpAnyH_take (i := 8) (v := undef) rfl (by kernel_rfl) (by kernel_rfl) (by kernel_rfl) (fun _ _ _ h => h) (Or.inr ⟨by rfl, rfl⟩) hS ?_
      simp only [Act.put, List.getElem_toArray, List.getElem_cons_succ, List.getElem_cons_zero, List.setIfInBounds_toArray, List.set_cons_zero, List.set_cons_succ]
      refine wpAnyH_take (i := 9) (v := undef) rfl (by kernel_rfl) (by kernel_rfl) (by kernel_rfl) (fun _ _ _ h => h) (Or.inr ⟨by rfl, rfl⟩) hS ?_
      simp only [Act.put, List.getElem_toArray, List.getElem_cons_succ, List.getElem_cons_zero, List.setIfInBounds_toArray, List.set_cons_zero, List.set_cons_succ]
      refine wpAnyH_take (i := 10) (v := undef) rfl (by kernel_rfl) (by kernel_rfl) (by kernel_rfl) (fun _ _ _ h => h) (Or.inr ⟨by rfl, rfl⟩) hS ?_
      simp only [Act.put, List.getElem_toArray, List.getElem_cons_succ, List.getElem_cons_zero, List.setIfInBounds_toArray, List.set_cons_zero, List.set_cons_succ]
      refine wpAnyH_take (i := 11) (v := undef) rfl (by kernel_rfl) (by kernel_rfl) (by kernel_rfl) (fun _ _ _ h => h) (Or.inr ⟨by rfl, rfl⟩) hS ?_
      simp only [Act.put, List.getElem_toArray, List.getElem_cons_succ, List.getElem_cons_zero, List.setIfInBounds_toArray, List.set_cons_zero, List.set_cons_succ]
      refine wpAnyH_take (i := 12) (v := undef) rfl (by kernel_rfl) (by kernel_rfl) (by kernel_rfl) (fun _ _ _ h => h) (Or.inr ⟨by rfl, rfl⟩) hS ?_
      simp only [Act.put, List.getElem_toArray, List.getElem_cons_succ, List.getElem_cons_zero, List.setIfInBounds_toArray, List.set_cons_zero, List.set_cons_succ]
      refine wpAnyH_take (i := 13) (v := undef) rfl (by kernel_rfl) (by kernel_rfl) (by kernel_rfl) (fun _ _ _ h => h) (Or.inr ⟨by rfl, rfl⟩) hS ?_
      simp only [Act.put, List.getElem_toArray, List.getElem_cons_succ, List.getElem_cons_zero, List.setIfInBounds_toArray, List.set_cons_zero, List.set_cons_succ]
      refine wpAnyH_take (i := 14) (v := undef) rfl (by kernel_rfl) (by kernel_rfl) (by kernel_rfl) (fun _ _ _ h => h) (Or.inr ⟨by rfl, rfl⟩) hS ?_
      simp only [Act.put, List.getElem_toArray, List.getElem_cons_succ, List.getElem_cons_zero, List.setIfInBounds_toArray, List.set_cons_zero, List.set_cons_succ]
      refine wpAnyH_take (i := 15) (v := undef) rfl (by kernel_rfl) (by kernel_rfl) (by kernel_rfl) (fun _ _ _ h => h) (Or.inr ⟨by rfl, rfl⟩) hS ?_
      simp only [Act.put, List.getElem_toArray, List.getElem_cons_succ, List.getElem_cons_zero, List.setIfInBounds_toArray, List.set_cons_zero, List.set_cons_succ]
      refine wpAnyH_take (i := 16) (v := .bool true) rfl (by kernel_rfl) (by kernel_rfl) (by kernel_rfl) (fun _ _ _ h => h) (Or.inl ⟨by rfl, fun wx hx => by simp [go_sem]⟩) hS ?_
      simp only [Act.put, List.getElem_toArray, List.getElem_cons_succ, List.getElem_cons_zero, List.setIfInBounds_toArray, List.set_cons_zero, List.set_cons_succ]
      refine wpAnyH_done (by kernel_rfl) ?_ _
      replace HBW : Hid (Below w.heap.size w y0) := HBW.out.trans (Below.mono hS HBW.out.size)
      replace HG4 : Hid (Blk y0 g4 (hdC zeroH) 26) := HG4.out.below hS HG4.out.lt
      have tk3 : Hid True := trivial
      have tk4 : Hid True := trivial
      go_wp2_with (first
      | (clear tk3; with_reducible refine wpSeq_build 26 [] (hdC zeroH) ?_ ?_ ?_ ?_
         · exact built_head []
         · rfl
         · rfl)
      | (clear tk4; with_reducible refine wpSeq_storeRow 26 (.tmp 4) (.tmp 36) g4 (hdC zeroH) (hdC zeroH) ?_ ?_ ?_ ?_ ?_ ?_ ?_ ?_ ?_
         · exact HG4.out
         · rfl
         · exact info_hdC okH_zero
         · exact hdC_one _
         · rfl
         · rfl
         · rfl
         · rfl
         intro y4 hs))
      exact bodyPost_ret (results_row_tmp (by rfl) _ _ g4 _ rfl (var_hd hs.blk okH_zero)) rfl ⟨by rw [HFR.out, if_neg (fun k => by cases k.1)]; rfl, HBW.out.trans (hs.only.below HN4.out.2.2 HBW.out.size)⟩
    | true =>
      simp only [Bool.not_true]
      refine wpAnyH_take (i := 7) (v := .pointer (some ⟨g2, 33, none⟩)) rfl (by kernel_rfl) (by kernel_rfl) (by kernel_rfl) (fun _ _ _ h => h) (Or.inl ⟨by rfl, fun wx hx => by simp [go_sem]⟩) hS ?_
      simp only [Act.put, List.getElem_toArray, List.getElem_cons_succ, List.getElem_cons_zero, List.setIfInBounds_toArray, List.set_cons_zero, List.set_cons_succ]
      refine wpAnyH_take (i := 8) (v := .agg (cb ky).toArray) rfl (by kernel_rfl) (by kernel_rfl) (by kernel_rfl) (fun _ _ _ h => h) (Or.inl ⟨by rfl, fun wx hx => by exact loadDigAt _ g2 33 ky HLN.out.2.2.2 (by rw [HKY.out]; exact (HHA.out.over hx).ky) rfl rfl⟩) hS ?_
      simp only [Act.put, List.getElem_toArray, List.getElem_cons_succ, List.getElem_cons_zero, List.setIfInBounds_toArray, List.set_cons_zero, List.set_cons_succ]
      refine wpAnyH_take (i := 9) (v := .pointer (some ⟨g3, 0, none⟩)) rfl (by kernel_rfl) (by kernel_rfl) (by kernel_rfl) (fun _ _ _ h => h) (Or.inl ⟨by rfl, fun wx hx => by simp [go_sem]⟩) hS ?_
      simp only [Act.put, List.getElem_toArray, List.getElem_cons_succ, List.getElem_cons_zero, List.setIfInBounds_toArray, List.set_cons_zero, List.set_cons_succ]
      refine wpAnyH_take (i := 10) (v := .agg rt.toArray) rfl (by kernel_rfl) (by kernel_rfl) (by kernel_rfl) (fun _ _ _ h => h) (Or.inl ⟨by rfl, fun wx hx => by rw [HRT.out]; exact loadRtAt _ g3 0 s HOS.out (HSA.out.over hx).root rfl rfl⟩) hS ?_
      simp only [Act.put, List.getElem_toArray, List.getElem_cons_succ, List.getElem_cons_zero, List.setIfInBounds_toArray, List.set_cons_zero, List.set_cons_succ]
      refine wpAnyH_take (i := 12) (v := .pointer (some ⟨g3, 97, none⟩)) rfl (by kernel_rfl) (by kernel_rfl) (by kernel_rfl) (fun _ _ _ h => h) (Or.inl ⟨by rfl, fun wx hx => by simp [go_sem]⟩) hS ?_
      simp only [Act.put, List.getElem_toArray, List.getElem_cons_succ, List.getElem_cons_zero, List.setIfInBounds_toArray, List.set_cons_zero, List.set_cons_succ]
      refine wpAnyH_take (i := 13) (v := .slice ads ns cps) rfl (by kernel_rfl) (by kernel_rfl) (by kernel_rfl) (fun _ _ _ h => h) (Or.inl ⟨by rfl, fun wx hx => by (have cv : wx.cell? ⟨g3, 97, none⟩ = some (.slice ads ns cps) := by have := (HSA.out.over hx).sig; rwa [Nat.zero_add] at this); simp [go_sem, cv]⟩) hS ?_
      simp only [Act.put, List.getElem_toArray, List.getElem_cons_succ, List.getElem_cons_zero, List.setIfInBounds_toArray, List.set_cons_zero, List.set_cons_succ]
      refine wpAnyH_enter 11 (by kernel_rfl) rfl (by rfl) (f := 21) (args := #[.agg rt.toArray]) (by simp [go_sem]) (HC1.out _ (HBW.out.trans (Below.mono hS HBW.out.size))) ?_
      rintro e y5 ⟨vb, rfl, hvb, hbq⟩
      replace hS := Over.more hS hbq
      refine ⟨_, rfl, hS, ?_⟩
      clear hbq
      simp only [Act.put, List.getElem_toArray, List.getElem_cons_succ, List.getElem_cons_zero, List.setIfInBounds_toArray, List.set_cons_zero, List.set_cons_succ]
      refine wpAnyH_enter 14 (by kernel_rfl) rfl (by rfl) (f := 31) (args := #[.agg (cb ky).toArray, vb, .slice ads ns cps]) (by simp [go_sem]) (HC2.out _ vb (HBW.out.trans (Below.mono hS HBW.out.size)) hvb) ?_
      rintro e y6 ⟨rfl, hbq⟩
      replace hS := Over.more hS hbq
      refine ⟨_, rfl, hS, ?_⟩
      clear hbq
      simp only [Act.put, List.getElem_toArray, List.getElem_cons_succ, List.getElem_cons_zero, List.setIfInBounds_toArray, List.set_cons_zero, List.set_cons_succ]
      refine wpAnyH_take (i := 15) (v := .bool (ck != 0)) rfl (by kernel_rfl) (by kernel_rfl) (by kernel_rfl) (fun _ _ _ h => h) (Or.inl ⟨by rfl, fun wx hx => by simp [go_sem]⟩) hS ?_
      simp only [Act.put, List.getElem_toArray, List.getElem_cons_succ, List.getElem_cons_zero, List.setIfInBounds_toArray, List.set_cons_zero, List.set_cons_succ]
      refine wpAnyH_take (i := 16) (v := .bool (ck != 0)) rfl (by kernel_rfl) (by kernel_rfl) (by kernel_rfl) (fun _ _ _ h => h) (Or.inl ⟨by rfl, fun wx hx => by simp [go_sem]⟩) hS ?_
      simp only [Act.put, List.getElem_toArray, List.getElem_cons_succ, List.getElem_cons_zero, List.setIfInBounds_toArray, List.set_cons_zero, List.set_cons_succ]
      by_cases hck : ck = 0
      case neg =>
        have k1 : (ck == 0) = false := by rw [beq_eq_false_iff_ne]; exact hck
        have k2 : (ck != 0) = true := by rw [bne, k1]; rfl
        simp only [k2]
        refine wpAnyH_done (by kernel_rfl) ?_ _
        replace HBW : Hid (Below w.heap.size w y6) := HBW.out.trans (Below.mono hS HBW.out.size)
        replace HG4 : Hid (Blk y6 g4 (hdC zeroH) 26) := HG4.out.below hS HG4.out.lt
        have tk3 : Hid True := trivial
        have tk4 : Hid True := trivial
        go_wp2_with (first
        | (clear tk3; with_reducible refine wpSeq_build 26 [] (hdC zeroH) ?_ ?_ ?_ ?_
           · exact built_head []
           · rfl
           · rfl)
        | (clear tk4; with_reducible refine wpSeq_storeRow 26 (.tmp 4) (.tmp 36) g4 (hdC zeroH) (hdC zeroH) ?_ ?_ ?_ ?_ ?_ ?_ ?_ ?_ ?_
           · exact HG4.out
           · rfl
           · exact info_hdC okH_zero
           · exact hdC_one _
           · rfl
           · rfl
           · rfl
           · rfl
           intro y4 hs))
        exact bodyPost_ret (results_row_tmp (by rfl) _ _ g4 _ rfl (var_hd hs.blk okH_zero)) rfl ⟨by rw [HFR.out, if_neg (fun k => hck k.2)]; rfl, HBW.out.trans (hs.only.below HN4.out.2.2 HBW.out.size)⟩
      case pos =>
        have k1 : (ck == 0) = true := by rw [beq_iff_eq]; exact hck
        have k2 : (ck != 0) = false := by rw [bne, k1]; rfl
        simp only [k2]
        have HKK : Hid (ck = 0) := hck
        have HOK : Hid (okH (m, dg, nx)) := okH_mk HDL.out HLN.out.2.1 (by have := HOS.out.2.2.2; rw [HMM.out]; exact this)
        clear hck k1 k2
        refine wpAnyH_done (by kernel_rfl) ?_ _
        replace HBW : Hid (Below w.heap.size w y6) := HBW.out.trans (Below.mono hS HBW.out.size)
        replace HG4 : Hid (Blk y6 g4 (hdC zeroH) 26) := HG4.out.below hS HG4.out.lt
        replace HSA : Hid (SgAt y6 g3 0 s (.slice ads ns cps)) := HSA.out.over hS
        clear hS hvb HG2 HG3 HHA
        go_wp2
        refine wp_region_held_drew (S := Only g4 (World.drew y6)) (by kernel_rfl) (Only.refl _ _) ?_
        intro hS
        replace HG4 : Hid (Blk (World.drew y6) g4 (hdC zeroH) 26) := HG4.out.drew
        replace HBW : Hid (Below w.heap.size w (World.drew y6)) := HBW.out.drew
        replace HSA : Hid (SgAt (World.drew y6) g3 0 s (.slice ads ns cps)) := ⟨HSA.out.all, HSA.out.ok⟩
        change wpAnyH _ _ _ _ _ _ _ _ (World.drew y6)
        generalize World.drew y6 = y7 at *
        try simp only [Act.put, List.setIfInBounds_toArray, List.set_cons_zero, List.set_cons_succ]
        refine wpAnyH_take (i := 0) (v := .pointer (some ⟨g3, 0, none⟩)) rfl (by kernel_rfl) (by kernel_rfl) (by kernel_rfl) (fun _ _ _ h => h) (Or.inl ⟨by rfl, fun wx hx => by simp [go_sem]⟩) hS ?_
        simp only [Act.put, List.getElem_toArray, List.getElem_cons_zero, List.setIfInBounds_toArray, List.set_cons_zero, List.set_cons_succ]
        refine wpAnyH_take (i := 1) (v := .pointer (some ⟨g3, 0, none⟩)) rfl (by kernel_rfl) (by kernel_rfl) (by kernel_rfl) (fun _ _ _ h => h) (Or.inl ⟨by rfl, fun wx hx => by simp [go_sem]⟩) hS ?_
        simp only [Act.put, List.getElem_toArray, List.getElem_cons_succ, List.getElem_cons_zero, List.setIfInBounds_toArray, List.set_cons_zero, List.set_cons_succ]
        refine wpAnyH_take (i := 2) (v := .int .u64 (m : Int)) rfl (by kernel_rfl) (by kernel_rfl) (by kernel_rfl) (fun _ _ _ h => h) (Or.inl ⟨by rfl, fun wx hx => by (have cm : wx.cell? ⟨g3, 0, none⟩ = some (.int .u64 (m : Int)) := by rw [HMM.out]; exact (HSA.out.only hx HN4.out.2.1).ep); simp [go_sem, cm]⟩) hS ?_
        simp only [Act.put, List.getElem_toArray, List.getElem_cons_succ, List.getElem_cons_zero, List.setIfInBounds_toArray, List.set_cons_zero, List.set_cons_succ]
        refine wpAnyH_take (i := 3) (v := .pointer (some ⟨g3, 0, none⟩)) rfl (by kernel_rfl) (by kernel_rfl) (by kernel_rfl) (fun _ _ _ h => h) (Or.inl ⟨by rfl, fun wx hx => by simp [go_sem]⟩) hS ?_
        simp only [Act.put, List.getElem_toArray, List.getElem_cons_succ, List.getElem_cons_zero, List.setIfInBounds_toArray, List.set_cons_zero, List.set_cons_succ]
        refine wpAnyH_take (i := 4) (v := .agg rt.toArray) rfl (by kernel_rfl) (by kernel_rfl) (by kernel_rfl) (fun _ _ _ h => h) (Or.inl ⟨by rfl, fun wx hx => by rw [HRT.out]; exact loadRtAt _ g3 0 s HOS.out (HSA.out.only hx HN4.out.2.1).root rfl rfl⟩) hS ?_
        simp only [Act.put, List.getElem_toArray, List.getElem_cons_succ, List.getElem_cons_zero, List.setIfInBounds_toArray, List.set_cons_zero, List.set_cons_succ]
        refine wpAnyH_take (i := 6) (v := .pointer (some ⟨g3, 0, none⟩)) rfl (by kernel_rfl) (by kernel_rfl) (by kernel_rfl) (fun _ _ _ h => h) (Or.inl ⟨by rfl, fun wx hx => by simp [go_sem]⟩) hS ?_
        simp only [Act.put, List.getElem_toArray, List.getElem_cons_succ, List.getElem_cons_zero, List.setIfInBounds_toArray, List.set_cons_zero, List.set_cons_succ]
        refine wpAnyH_take (i := 7) (v := .pointer (some ⟨g3, 65, none⟩)) rfl (by kernel_rfl) (by kernel_rfl) (by kernel_rfl) (fun _ _ _ h => h) (Or.inl ⟨by rfl, fun wx hx => by simp [go_sem]⟩) hS ?_
        simp only [Act.put, List.getElem_toArray, List.getElem_cons_succ, List.getElem_cons_zero, List.setIfInBounds_toArray, List.set_cons_zero, List.set_cons_succ]
        refine wpAnyH_take (i := 8) (v := .agg (cb nx).toArray) rfl (by kernel_rfl) (by kernel_rfl) (by kernel_rfl) (fun _ _ _ h => h) (Or.inl ⟨by rfl, fun wx hx => by exact loadDigAt _ g3 65 nx HLN.out.2.1 (by rw [HNX.out]; exact (HSA.out.only hx HN4.out.2.1).next) rfl rfl⟩) hS ?_
        simp only [Act.put, List.getElem_toArray, List.getElem_cons_succ, List.getElem_cons_zero, List.setIfInBounds_toArray, List.set_cons_zero, List.set_cons_succ]
        refine wpAnyH_enter 5 (by kernel_rfl) rfl (by rfl) (f := 20) (args := #[.agg rt.toArray]) (by simp [go_sem]) (HC3.out _ HBW.out) ?_
        rintro e y8 ⟨rfl, hbq⟩
        replace hS := hS.still hbq
        replace HG4 : Hid (Blk y8 g4 (hdC zeroH) 26) := HG4.out.below hbq HG4.out.lt
        replace HBW : Hid (Below w.heap.size w y8) := HBW.out.trans (hbq.mono HBW.out.size)
        refine ⟨_, rfl, hS, ?_⟩
        clear hbq
        simp only [Act.put, List.getElem_toArray, List.getElem_cons_succ, List.getElem_cons_zero, List.setIfInBounds_toArray, List.set_cons_zero, List.set_cons_succ]
        refine wpAnyH_take (i := 9) (v := .agg (hdC (m, dg, nx)).toArray) rfl (by kernel_rfl) (by kernel_rfl) (by kernel_rfl) (fun _ _ _ h => h) (Or.inl ⟨by rfl, fun wx hx => by refine build_op _ _ 26 [(0, .tmp 39), (1, .tmp 42), (2, .tmp 45)] rfl _ ?_ _; exact (built_head _).trans (fill_hd HDL.out HLN.out.2.1)⟩) hS ?_
        simp only [Act.put, List.getElem_toArray, List.getElem_cons_succ, List.getElem_cons_zero, List.setIfInBounds_toArray, List.set_cons_zero, List.set_cons_succ]
        refine wpAnyH_storeRow 10 26 (.tmp 4) (.tmp 46) g4 (hdC zeroH) (hdC (m, dg, nx)) HG4.out (by rw [len_hdC HOK.out, len_hdC okH_zero]) (info_hdC HOK.out) (hdC_one _) (by kernel_rfl) rfl (by rfl) rfl rfl rfl ?_
        intro y9 hs
        replace hS := hS.trans hs.only
        refine ⟨hS, ?_⟩
        simp only [Act.put, List.getElem_toArray, List.getElem_cons_succ, List.getElem_cons_zero]
        refine wpAnyH_take (i := 11) (v := .int .i64 0) rfl (by kernel_rfl) (by kernel_rfl) (by kernel_rfl) (fun _ _ _ h => h) (Or.inl ⟨by rfl, fun wx hx => by simp [go_sem]⟩) hS ?_
        simp only [Act.put, List.getElem_toArray, List.getElem_cons_succ, List.getElem_cons_zero, List.setIfInBounds_toArray, List.set_cons_zero, List.set_cons_succ]
        refine wpAnyH_done (by kernel_rfl) ?_ _
        go_wp2
        exact bodyPost_ret (results_row_tmp (by rfl) _ _ g4 _ rfl (var_hd hs.blk HOK.out)) rfl ⟨by rw [HFR.out, if_pos ⟨by trivial, HKK.out⟩]; rfl, HBW.out.trans (hs.only.below HN4.out.2.2 HBW.out.size)⟩

end Go.Proofs.YtfbdnhadcnmfoaaDoor
/- The walk of the reference's Walk (layer 11). -/
namespace Go.Proofs.YtfbdnhadcnmfoaaDoor
open Go.RowKit Go.Shelf
set_option maxRecDepth 100000
/-- where a walk stands: the head, and the answer that is to be -/
structure WkI (w : World) (g2 g4 : Nat) (h : HdT) (W : World) : Prop where
  hd : Blk W g2 (hdC h) 26
  rs : Blk W g4 (hdC zeroH) 26
  bel : Below w.heap.size w W
theorem WkI.next {w W W' : World} {g2 g4 : Nat} {h : HdT} (i : WkI w g2 g4 h W) (hb : Below W.heap.size W W') : WkI w g2 g4 h W' := ⟨i.hd.below hb i.hd.lt, i.rs.below hb i.rs.lt, i.bel.trans (hb.mono i.bel.size)⟩
theorem WkI.drew {w W : World} {g2 g4 : Nat} {h : HdT} (i : WkI w g2 g4 h W) : WkI w g2 g4 h W.drew := ⟨i.hd.drew, i.rs.drew, i.bel.drew⟩
theorem idx98 (b off cap n k : Nat) (hk : k < n) (f : Operand → Value) (o : Oper) (x y : Operand) (ho : o.op = .indexAddr 42 x y) (hx : f x = .slice (some ⟨b, off, none⟩) n cap) (hy : f y = .int .i64 (k : Int)) (w : World) :
    (execOp f o).run Tryd.prog w = .ok (.value (.pointer (some ⟨b, off + k * 98, none⟩))) w := by
  have k0 : (0 : Int) ≤ (k : Int) := by omega
  have k1 : (k : Int) < (n : Int) := by omega
  unfold execOp
  rw [ho]
  simp [go_sem, hx, hy, k0, k1, Addr.add_mid]
set_option maxRecDepth 100000 in
set_option maxHeartbeats 8000000 in
theorem qcWalk_any (h : HdT) (v : Value) (l : List SgT) (w : World) (oh : okH h) (hl : ReadsS w v l) (hn : l.length < 1000000) :
    Calls Tryd.prog 18 #[.agg (hdC h).toArray, v] w fun e w' => e = .returned (.tuple #[.agg (hdC (walkR h l).1).toArray, .int .i64 ((walkR h l).2.1 : Int), .int .i64 (walkR h l).2.2]) ∧ Below w.heap.size w w' := by
  obtain ⟨⟨ad, cap, hv, hq1, hq2, hq3⟩, hok⟩ := id hl
  clear hq1 hq2 hq3
  obtain ⟨n, HN⟩ : ∃ n, Hid (n = l.length) := ⟨_, rfl⟩
  rw [← HN.out] at hv
  have HNL : Hid (n < 1000000) := by show _ < _; rw [HN.out]; exact hn
  have HL : Hid (ReadsS w v l) := hl
  have HOK : Hid (∀ s ∈ l, okS s) := hok
  have HOH : Hid (okH h) := oh
  have HCF : Hid (∀ (W : World) (g : HdT) (s : SgT) (vs : Value), Below w.heap.size w W → okH g → okS s → Reads W vs s.2 → Calls Tryd.prog 15 #[.agg (hdC g).toArray, .agg (sgC s vs).toArray] W fun e w' => e = .returned (.tuple #[.agg (hdC (followR g s).1).toArray, .int .i64 (followR g s).2]) ∧ Below W.heap.size W w') := fun W g s vs hh og os hr => qcFollow_any g s vs W og os hr
  have HBW : Hid (Below w.heap.size w w) := Below.refl _ _
  obtain ⟨ch, HCH⟩ : ∃ c, Hid (c = hdC h) := ⟨_, rfl⟩
  rw [← HCH.out]
  subst hv
  clear hl hok oh hn
  go_enter Tryd.func18, Tryd.ntmps18
  have tk0 : Hid True := trivial
  have tk1 : Hid True := trivial
  go_wp2_with (first
    | (clear tk0; with_reducible refine wpSeq_boxW 26 (.tmp 0) ch ?_ ?_ ?_ ?_
       · rfl
       · rfl
       · rfl
       intro g2 y1 nn
       have HG2 : Hid (Blk y1 g2 ch 26) := nn.blk
       have HGE2 : Hid (w.heap.size ≤ g2) := Nat.le_trans HBW.out.size nn.ge
       replace HBW : Hid (Below w.heap.size w y1) := HBW.out.trans (nn.below.mono HBW.out.size)
       clear nn)
    | (clear tk1; with_reducible refine wpSeq_allocH ?_ ?_ ?_
       · rfl
       · rfl
       intro g4 y2 nn
       have HN4 : Hid (g2 ≠ g4 ∧ w.heap.size ≤ g4) := by have h1 := HG2.out.lt; have h3 := nn.ge; have h4 := HBW.out.size; exact ⟨by omega, by omega⟩
       replace HG2 : Hid (Blk y2 g2 ch 26) := HG2.out.below nn.below HG2.out.lt
       have HG4 : Hid (Blk y2 g4 (hdC zeroH) 26) := nn.blk
       replace HBW : Hid (Below w.heap.size w y2) := HBW.out.trans (nn.below.mono HBW.out.size)
       clear nn))
  have HI : Hid (WkI w g2 g4 h y2) := ⟨by rw [← HCH.out]; exact HG2.out, HG4.out, HBW.out⟩
  clear HG2 HG4 HBW
  go_loopw [7] (fun i wr => ∃ (k : Nat) (g : HdT), k ≤ n ∧ i = .int .i64 (k : Int) ∧ okH g ∧ walkR h (l.take k) = (g, k, 0) ∧ WkI w g2 g4 g wr) (fun i _ => n - (intOf i).toNat)
  case atStart => exact ⟨0, h, by omega, rfl, HOH.out, rfl, HI.out⟩
  case round =>
    clear HI
    obtain ⟨k, g, hkn, rfl, hog, hwk, hI⟩ := hrel
    have HI : Hid (WkI w g2 g4 g wr) := hI
    have HWK : Hid (walkR h (l.take k) = (g, k, 0)) := hwk
    have HOG : Hid (okH g) := hog
    clear hI hwk hog
    by_cases hlt : k < n
    · have hi : (k : Int) < (n : Int) := by omega
      have f5 : IntKind.i64.wrap ((k : Int) + 1) = (k : Int) + 1 := by have := HNL.out; rw [IntKind.wrap_i64]; omega
      obtain ⟨b, off, cap', hv2, hat⟩ := HL.out.at (by rw [← HN.out]; omega)
      simp only [Value.slice.injEq] at hv2
      obtain ⟨rfl, hnl, rfl⟩ := hv2
      clear hnl
      obtain ⟨s, HS⟩ : ∃ s, Hid (s = l.getD k zeroS) := ⟨_, rfl⟩
      obtain ⟨vs, hsa, hrs⟩ := hat k (by rw [← HN.out]; exact hlt)
      rw [← HS.out] at hsa hrs
      have HOS : Hid (okS s) := hsa.ok
      have HSA : Hid (∀ W, Below w.heap.size w W → SgAt W b (off + k * 98) s vs) := fun W hh => hsa.below hh (Nat.le_refl _)
      have HRS : Hid (∀ W, Below w.heap.size w W → Reads W vs s.2) := fun W hh => hrs.below hh
      have HST : Hid (((followR g s).2 = 0 → walkR h (l.take (k + 1)) = ((followR g s).1, k + 1, 0)) ∧ ((followR g s).2 ≠ 0 → walkR h l = (zeroH, k, (followR g s).2))) := walk_take (by rw [← HN.out]; exact hlt) HWK.out s HS.out.symm
      have HOF : Hid (okH (followR g s).1) := follow_okH g s HOS.out
      obtain ⟨hf, HHF⟩ : ∃ c, Hid (c = (followR g s).1) := ⟨_, rfl⟩
      obtain ⟨ef, HEF⟩ : ∃ c, Hid (c = (followR g s).2) := ⟨_, rfl⟩
      have HC : Hid (∀ W, WkI w g2 g4 g W → Calls Tryd.prog 15 #[.agg (hdC g).toArray, .agg (sgC s vs).toArray] W fun e w' => e = .returned (.tuple #[.agg (hdC hf).toArray, .int .i64 ef]) ∧ Below W.heap.size W w') := fun W hW => by rw [HHF.out, HEF.out]; exact HCF.out W g s vs hW.bel HOG.out HOS.out (HRS.out W hW.bel)
      rw [← HHF.out] at HST HOF
      rw [← HEF.out] at HST
      clear hat hsa hrs HHF HEF HWK HS
      go_wp2
      go_cut [8, 9] from 16 to 24 (fun a b W => ∃ g8, a = .pointer (some ⟨g8, 0, none⟩) ∧ b = .int .i64 ef ∧ WkI w g2 g4 g W ∧ Blk W g8 (hdC hf) 26 ∧ g8 ≠ g2)
      case first =>
        refine wp_region_held_drew (S := Over (World.drew wr)) (by kernel_rfl) (Over.refl _) ?_
        intro hS
        replace HI : Hid (WkI w g2 g4 g (World.drew wr)) := HI.out.drew
        change wpAnyH _ _ _ _ _ _ _ _ (World.drew wr)
        generalize World.drew wr = y0 at *
        try simp only [Act.put, List.setIfInBounds_toArray, List.set_cons_zero, List.set_cons_succ]
        refine wpAnyH_take (i := 0) (v := .agg (hdC g).toArray) rfl (by kernel_rfl) (by kernel_rfl) (by kernel_rfl) (fun _ _ _ h => h) (Or.inl ⟨by rfl, fun wx hx => by exact loadHdAt _ g2 0 g ((HI.out.next hx).hd.hdAt HOG.out) rfl rfl⟩) hS ?_
        simp only [Act.put, List.getElem_toArray, List.getElem_cons_zero, List.setIfInBounds_toArray, List.set_cons_zero, List.set_cons_succ]
        refine wpAnyH_take (i := 1) (v := .slice (some ⟨b, off, none⟩) n cap) rfl (by kernel_rfl) (by kernel_rfl) (by kernel_rfl) (fun _ _ _ h => h) (Or.inl ⟨by rfl, fun wx hx => by simp [go_sem]⟩) hS ?_
        simp only [Act.put, List.getElem_toArray, List.getElem_cons_succ, List.getElem_cons_zero, List.setIfInBounds_toArray, List.set_cons_zero, List.set_cons_succ]
        refine wpAnyH_take (i := 2) (v := .int .i64 (k : Int)) rfl (by kernel_rfl) (by kernel_rfl) (by kernel_rfl) (fun _ _ _ h => h) (Or.inl ⟨by rfl, fun wx hx => by simp [go_sem]⟩) hS ?_
        simp only [Act.put, List.getElem_toArray, List.getElem_cons_succ, List.getElem_cons_zero, List.setIfInBounds_toArray, List.set_cons_zero, List.set_cons_succ]
        refine wpAnyH_take (i := 3) (v := .pointer (some ⟨b, off + k * 98, none⟩)) rfl (by kernel_rfl) (by kernel_rfl) (by kernel_rfl) (fun _ _ _ h => h) (Or.inl ⟨by rfl, fun wx hx => by exact idx98 b off cap n k hlt _ _ _ _ rfl rfl rfl _⟩) hS ?_
        simp only [Act.put, List.getElem_toArray, List.getElem_cons_succ, List.getElem_cons_zero, List.setIfInBounds_toArray, List.set_cons_zero, List.set_cons_succ]
        refine wpAnyH_take (i := 4) (v := .agg (sgC s vs).toArray) rfl (by kernel_rfl) (by kernel_rfl) (by kernel_rfl) (fun _ _ _ h => h) (Or.inl ⟨by rfl, fun wx hx => by exact loadSgAt _ b (off + k * 98) s vs (HSA.out _ (HI.out.next hx).bel) rfl rfl⟩) hS ?_
        simp only [Act.put, List.getElem_toArray, List.getElem_cons_succ, List.getElem_cons_zero, List.setIfInBounds_toArray, List.set_cons_zero, List.set_cons_succ]
        refine wpAnyH_pair 5 9 (by kernel_rfl) ?_ ?_
        · refine wpOp_en 5 (by rfl) (by rfl) (f := 15) (args := #[.agg (hdC g).toArray, .agg (sgC s vs).toArray]) (by simp [go_sem]) (HC.out _ (HI.out.next hS)) ?_
          rintro e z1 ⟨rfl, hb⟩
          replace hS := Over.more hS hb
          refine ⟨_, rfl, hS, ?_⟩
          clear hb
          simp only [Act.put, List.getElem_toArray, List.getElem_cons_succ, List.getElem_cons_zero, List.setIfInBounds_toArray, List.set_cons_zero, List.set_cons_succ]
          refine wpAnyH_take (i := 6) (v := .tuple #[.agg (hdC hf).toArray, .int .i64 ef]) rfl (by kernel_rfl) (by kernel_rfl) (by kernel_rfl) (fun _ _ _ h => h) (Or.inl ⟨by rfl, fun wx hx => by simp [go_sem]⟩) hS ?_
          simp only [Act.put, List.getElem_toArray, List.getElem_cons_succ, List.getElem_cons_zero, List.setIfInBounds_toArray, List.set_cons_zero, List.set_cons_succ]
          refine wpAnyH_take (i := 7) (v := .agg (hdC hf).toArray) rfl (by kernel_rfl) (by kernel_rfl) (by kernel_rfl) (fun _ _ _ h => h) (Or.inl ⟨by rfl, fun wx hx => by simp [go_sem]⟩) hS ?_
          simp only [Act.put, List.getElem_toArray, List.getElem_cons_succ, List.getElem_cons_zero, List.setIfInBounds_toArray, List.set_cons_zero, List.set_cons_succ]
          refine wpAnyH_take (i := 8) (v := .int .i64 ef) rfl (by kernel_rfl) (by kernel_rfl) (by kernel_rfl) (fun _ _ _ h => h) (Or.inl ⟨by rfl, fun wx hx => by simp [go_sem]⟩) hS ?_
          simp only [Act.put, List.getElem_toArray, List.getElem_cons_succ, List.getElem_cons_zero, List.setIfInBounds_toArray, List.set_cons_zero, List.set_cons_succ]
          have hb := below_alloc z1 (.cells (hdC zeroH).toArray 26)
          have hba : Blk (z1.alloc (.cells (hdC zeroH).toArray 26)) z1.heap.size (hdC zeroH) 26 := Blk.new _ _ _
          have hsz : y0.heap.size ≤ z1.heap.size := Below.size hS
          replace hS := Over.more hS hb
          refine wpAnyH_step 9 (.pointer (some ⟨z1.heap.size, 0, none⟩)) (z1.alloc (.cells (hdC zeroH).toArray 26)) (by kernel_rfl) rfl (by rfl) (alloc_hd _ _ rfl _) hS ?_
          simp only [Act.put, List.getElem_toArray, List.getElem_cons_succ, List.getElem_cons_zero, List.setIfInBounds_toArray, List.set_cons_zero, List.set_cons_succ]
          clear hb
          generalize z1.alloc (.cells (hdC zeroH).toArray 26) = z2 at *
          obtain ⟨ga, HGA⟩ : ∃ z, Hid (z = z1.heap.size) := ⟨_, rfl⟩
          have hgw : y0.heap.size ≤ ga := by rw [HGA.out]; exact hsz
          rw [← HGA.out] at hba ⊢
          clear HGA hsz
          refine wpAnyH_storeRow 10 26 (.tmp 8) (.tmp 23) ga (hdC zeroH) (hdC hf) hba (by rw [len_hdC HOF.out, len_hdC okH_zero]) (info_hdC HOF.out) (hdC_one _) (by kernel_rfl) rfl (by rfl) rfl rfl rfl ?_
          intro yE hs
          replace hS : Over y0 yE := Below.trans hS (hs.only.below hgw (Below.size hS))
          refine ⟨hS, ?_⟩
          simp only [Act.put, List.getElem_toArray, List.getElem_cons_succ, List.getElem_cons_zero]
          refine wpAnyH_take (i := 11) (v := .int .i64 ef) rfl (by kernel_rfl) (by kernel_rfl) (by kernel_rfl) (fun _ _ _ h => h) (Or.inl ⟨by rfl, fun wx hx => by simp [go_sem]⟩) hS ?_
          simp only [Act.put, List.getElem_toArray, List.getElem_cons_succ, List.getElem_cons_zero, List.setIfInBounds_toArray, List.set_cons_zero, List.set_cons_succ]
          refine wpAnyH_done (by kernel_rfl) ?_ _
          go_wp2
          go_meet
          case rel => exact ⟨ga, rfl, rfl, HI.out.next hS, hs.blk, by have h1 := HI.out.hd.lt; omega⟩
        · have hb := below_alloc y0 (.cells (hdC zeroH).toArray 26)
          have hba : Blk (y0.alloc (.cells (hdC zeroH).toArray 26)) y0.heap.size (hdC zeroH) 26 := Blk.new _ _ _
          have hsz : y0.heap.size ≤ y0.heap.size := Below.size hS
          replace hS := Over.more hS hb
          refine wpOp_vl 9 (.pointer (some ⟨y0.heap.size, 0, none⟩)) (y0.alloc (.cells (hdC zeroH).toArray 26)) (by rfl) (by rfl) (alloc_hd _ _ rfl _) ⟨hS, ?_⟩
          simp only [Act.put, List.getElem_toArray, List.getElem_cons_succ, List.getElem_cons_zero, List.setIfInBounds_toArray, List.set_cons_zero, List.set_cons_succ]
          clear hb
          generalize y0.alloc (.cells (hdC zeroH).toArray 26) = z1 at *
          obtain ⟨ga, HGA⟩ : ∃ z, Hid (z = y0.heap.size) := ⟨_, rfl⟩
          have hgw : y0.heap.size ≤ ga := by rw [HGA.out]; exact hsz
          rw [← HGA.out] at hba ⊢
          clear HGA hsz
          refine wpAnyH_enter 5 (by kernel_rfl) rfl (by rfl) (f := 15) (args := #[.agg (hdC g).toArray, .agg (sgC s vs).toArray]) (by simp [go_sem]) (HC.out _ (HI.out.next hS)) ?_
          rintro e z2 ⟨rfl, hb⟩
          replace hS := Over.more hS hb
          replace hba := hba.below hb hba.lt
          refine ⟨_, rfl, hS, ?_⟩
          clear hb
          simp only [Act.put, List.getElem_toArray, List.getElem_cons_succ, List.getElem_cons_zero, List.setIfInBounds_toArray, List.set_cons_zero, List.set_cons_succ]
          refine wpAnyH_take (i := 6) (v := .tuple #[.agg (hdC hf).toArray, .int .i64 ef]) rfl (by kernel_rfl) (by kernel_rfl) (by kernel_rfl) (fun _ _ _ h => h) (Or.inl ⟨by rfl, fun wx hx => by simp [go_sem]⟩) hS ?_
          simp only [Act.put, List.getElem_toArray, List.getElem_cons_succ, List.getElem_cons_zero, List.setIfInBounds_toArray, List.set_cons_zero, List.set_cons_succ]
          refine wpAnyH_take (i := 7) (v := .agg (hdC hf).toArray) rfl (by kernel_rfl) (by kernel_rfl) (by kernel_rfl) (fun _ _ _ h => h) (Or.inl ⟨by rfl, fun wx hx => by simp [go_sem]⟩) hS ?_
          simp only [Act.put, List.getElem_toArray, List.getElem_cons_succ, List.getElem_cons_zero, List.setIfInBounds_toArray, List.set_cons_zero, List.set_cons_succ]
          refine wpAnyH_take (i := 8) (v := .int .i64 ef) rfl (by kernel_rfl) (by kernel_rfl) (by kernel_rfl) (fun _ _ _ h => h) (Or.inl ⟨by rfl, fun wx hx => by simp [go_sem]⟩) hS ?_
          simp only [Act.put, List.getElem_toArray, List.getElem_cons_succ, List.getElem_cons_zero, List.setIfInBounds_toArray, List.set_cons_zero, List.set_cons_succ]
          refine wpAnyH_storeRow 10 26 (.tmp 8) (.tmp 23) ga (hdC zeroH) (hdC hf) hba (by rw [len_hdC HOF.out, len_hdC okH_zero]) (info_hdC HOF.out) (hdC_one _) (by kernel_rfl) rfl (by rfl) rfl rfl rfl ?_
          intro yE hs
          replace hS : Over y0 yE := Below.trans hS (hs.only.below hgw (Below.size hS))
          refine ⟨hS, ?_⟩
          simp only [Act.put, List.getElem_toArray, List.getElem_cons_succ, List.getElem_cons_zero]
          refine wpAnyH_take (i := 11) (v := .int .i64 ef) rfl (by kernel_rfl) (by kernel_rfl) (by kernel_rfl) (fun _ _ _ h => h) (Or.inl ⟨by rfl, fun wx hx => by simp [go_sem]⟩) hS ?_
          simp only [Act.put, List.getElem_toArray, List.getElem_cons_succ, List.getElem_cons_zero, List.setIfInBounds_toArray, List.set_cons_zero, List.set_cons_succ]
          refine wpAnyH_done (by kernel_rfl) ?_ _
          go_wp2
          go_meet
          case rel => exact ⟨ga, rfl, rfl, HI.out.next hS, hs.blk, by have h1 := HI.out.hd.lt; omega⟩
      case rest =>
        obtain ⟨g8, rfl, rfl, hI2, hb8, hne⟩ := hcut
        have HI2 : Hid (WkI w g2 g4 g wc) := hI2
        have HB8 : Hid (Blk wc g8 (hdC hf) 26) := hb8
        clear hI2 hb8 HI
        have tk2 : Hid True := trivial
        have tk3 : Hid True := trivial
        by_cases hef : ef = 0
        case pos =>
          have k1 : (ef == 0) = true := by rw [beq_iff_eq]; exact hef
          have k2 : (ef != 0) = false := by rw [bne, k1]; rfl
          have HEZ : Hid (ef = 0) := hef
          clear hef
          go_wp2_with (first
            | (clear tk2; with_reducible refine wpSeq_loadW 26 (.tmp 8) g8 0 (hdC hf) _ ?_ Tryd.underlying26 rfl ?_ ?_ ?_ ?_ ?_
               · exact HB8.out.range
               · exact info_hdC HOF.out
               · rfl
               · rfl
               · rfl)
            | (clear tk3; with_reducible refine wpSeq_storeRow 26 (.tmp 2) (.tmp 30) g2 (hdC g) (hdC hf) ?_ ?_ ?_ ?_ ?_ ?_ ?_ ?_ ?_
               · exact HI2.out.hd
               · rw [len_hdC HOF.out, len_hdC HOG.out]
               · exact info_hdC HOF.out
               · exact hdC_one _
               · rfl
               · rfl
               · rfl
               · rfl
               intro yF hs
               have HIF : Hid (WkI w g2 g4 hf yF) := ⟨hs.blk, HI2.out.rs.only hs.only (fun e => HN4.out.1 e.symm), HI2.out.bel.trans (hs.only.below HGE2.out HI2.out.bel.size)⟩
               clear hs HI2 HB8))
          go_roundw
          case rel => exact ⟨k + 1, hf, by omega, by simp, HOF.out, HST.out.1 HEZ.out, HIF.out⟩
          case measure => simp [intOf]; omega
        case neg =>
          have k1 : (ef == 0) = false := by rw [beq_eq_false_iff_ne]; exact hef
          have k2 : (ef != 0) = true := by rw [bne, k1]; rfl
          go_wp2_with (first
            | (clear tk2; with_reducible refine wpSeq_build 26 [] (hdC zeroH) ?_ ?_ ?_ ?_
               · exact built_head []
               · rfl
               · rfl)
            | (clear tk3; with_reducible refine wpSeq_storeRow 26 (.tmp 4) (.tmp 27) g4 (hdC zeroH) (hdC zeroH) ?_ ?_ ?_ ?_ ?_ ?_ ?_ ?_ ?_
               · exact HI2.out.rs
               · rfl
               · exact info_hdC okH_zero
               · exact hdC_one _
               · rfl
               · rfl
               · rfl
               · rfl
               intro yF hs))
          exact bodyPost_ret (results_row_tmp2 (by rfl) _ _ g4 _ rfl (var_hd hs.blk okH_zero)) rfl ⟨by rw [HST.out.2 hef]; rfl, HI2.out.bel.trans (hs.only.below HN4.out.2 HI2.out.bel.size)⟩
    · have hi : ¬ ((k : Int) < (n : Int)) := by omega
      have hk : k = n := by omega
      subst hk
      have HWL : Hid (walkR h l = (g, k, 0)) := by have h1 := HWK.out; rw [List.take_of_length_le (by have := HN.out; omega)] at h1; exact h1
      have tk2 : Hid True := trivial
      have tk3 : Hid True := trivial
      go_wp2_with (first
        | (clear tk2; with_reducible refine wpSeq_loadW 26 (.tmp 2) g2 0 (hdC g) _ ?_ Tryd.underlying26 rfl ?_ ?_ ?_ ?_ ?_
           · exact HI.out.hd.range
           · exact info_hdC HOG.out
           · rfl
           · rfl
           · rfl)
        | (clear tk3; with_reducible refine wpSeq_storeRow 26 (.tmp 4) (.tmp 31) g4 (hdC zeroH) (hdC g) ?_ ?_ ?_ ?_ ?_ ?_ ?_ ?_ ?_
           · exact HI.out.rs
           · rw [len_hdC HOG.out, len_hdC okH_zero]
           · exact info_hdC HOG.out
           · exact hdC_one _
           · rfl
           · rfl
           · rfl
           · rfl
           intro yF hs))
      exact bodyPost_ret (results_row_tmp2 (by rfl) _ _ g4 _ rfl (var_hd hs.blk HOG.out)) rfl ⟨by rw [HWL.out]; rfl, HI.out.bel.trans (hs.only.below HN4.out.2 HI.out.bel.size)⟩
end Go.Proofs.YtfbdnhadcnmfoaaDoor
/- The walk of the reference's Seal (layer 11). -/
namespace Go.Proofs.YtfbdnhadcnmfoaaDoor
open Go.RowKit Go.Shelf
set_option maxRecDepth 100000
theorem OwnB.onlyLt {w w' : World} {base g : Nat} {v : Value} {l : List (BitVec 8)} (h : OwnB w base v l) (ho : Only g w w') (hg : g < base) : OwnB w' base v l := by
  obtain ⟨h1, h2⟩ := h
  refine ⟨h1, ?_⟩
  rcases h2 with h2 | ⟨k, cap, cur, rfl, hb, hh, r⟩
  · exact Or.inl h2
  · refine Or.inr ⟨k, cap, cur, rfl, hb, ?_, r⟩
    rw [ho.block k (by omega) (Array.getElem?_eq_some_iff.1 hh).1]
    exact hh
theorem Blk.seg {w : World} {g off : Nat} {A B B2 C : List Value} {t : TypeId} (h : Blk w g (A ++ (B ++ C)) t) (hl : B2.length = B.length) (ho : A.length = off) : Blk (w.setCells g off B2) g (A ++ (B2 ++ C)) t := by
  subst ho
  have h2 := setCells_eq g B2 A.length w _ t h (by simp only [List.length_append]; omega)
  have e : (A ++ (B ++ C)).take A.length ++ B2 ++ (A ++ (B ++ C)).drop (A.length + B2.length) = A ++ (B2 ++ C) := by
    rw [List.take_left, ← List.drop_drop, List.drop_left, hl, List.drop_left, List.append_assoc]
  rwa [e] at h2
/-- a digest stored into a row -/
theorem wpSeq_storeSeg {ops : Array Oper} {Q : Exit → Act → World → Prop} {rest : List Oper} {o : Oper} {a : Act} {w : World} (x y : Operand) (g off : Nat) (A B C : List Value) (l : List (BitVec 8)) (ty : TypeId) (hb : Blk w g (A ++ (B ++ C)) ty) (hA : A.length = off) (hB : B.length = 32) (hl : l.length = 32) (ho : o.op = .store 23 x y) (hx : a.eval x = .pointer (some ⟨g, off, none⟩)) (hy : a.eval y = .agg (cb l).toArray) (hgd : o.guard = none)
    (h : ∀ w', SetR (A ++ (cb l ++ C)) ty w g w' → wpList Tryd.prog ops Q rest (a.put o.dst undef) w') : wpList Tryd.prog ops Q (o :: rest) a w :=
  wpList_store_mid hgd 23 x y ho g off _ hx hy (hb.there off _ (by rw [List.size_toArray, cb_len, List.length_append, List.length_append]; omega)) (by rw [List.size_toArray, cb_len, hl]; exact info_digest) (all_oneCell_toArray (cb_one l))
    (by rw [List.toList_toArray]; exact h _ ⟨hb.seg (by rw [cb_len]; omega) hA, Only.setCells _ _ _ (Only.refl g w)⟩)
theorem wpSeq_storePrev {ops : Array Oper} {Q : Exit → Act → World → Prop} {rest : List Oper} {o : Oper} {a : Act} {w : World} (x y : Operand) (g n : Nat) (p t k l : List (BitVec 8)) (hb : Blk w g (rtC ((n, p, t, k), [])) 28) (hp : p.length = 32) (hl : l.length = 32) (ho : o.op = .store 23 x y) (hx : a.eval x = .pointer (some ⟨g, 1, none⟩)) (hy : a.eval y = .agg (cb l).toArray) (hgd : o.guard = none)
    (h : ∀ w', SetR (rtC ((n, l, t, k), [])) 28 w g w' → wpList Tryd.prog ops Q rest (a.put o.dst undef) w') : wpList Tryd.prog ops Q (o :: rest) a w :=
  wpSeq_storeSeg x y g 1 [Value.int .u64 (n : Int)] (cb p) (cb t ++ cb k) l 28 hb rfl (by rw [cb_len, hp]) hl ho hx hy hgd h
theorem wpSeq_storeTree {ops : Array Oper} {Q : Exit → Act → World → Prop} {rest : List Oper} {o : Oper} {a : Act} {w : World} (x y : Operand) (g n : Nat) (p t k l : List (BitVec 8)) (hb : Blk w g (rtC ((n, p, t, k), [])) 28) (hp : p.length = 32) (ht : t.length = 32) (hl : l.length = 32) (ho : o.op = .store 23 x y) (hx : a.eval x = .pointer (some ⟨g, 33, none⟩)) (hy : a.eval y = .agg (cb l).toArray) (hgd : o.guard = none)
    (h : ∀ w', SetR (rtC ((n, p, l, k), [])) 28 w g w' → wpList Tryd.prog ops Q rest (a.put o.dst undef) w') : wpList Tryd.prog ops Q (o :: rest) a w :=
  wpSeq_storeSeg x y g 33 (Value.int .u64 (n : Int) :: cb p) (cb t) (cb k) l 28 hb (by rw [List.length_cons, cb_len, hp]) (by rw [cb_len, ht]) hl ho hx hy hgd h
theorem wpSeq_storeNext {ops : Array Oper} {Q : Exit → Act → World → Prop} {rest : List Oper} {o : Oper} {a : Act} {w : World} (x y : Operand) (g n : Nat) (p t k l : List (BitVec 8)) (hb : Blk w g (rtC ((n, p, t, k), [])) 28) (hp : p.length = 32) (ht : t.length = 32) (hk : k.length = 32) (hl : l.length = 32) (ho : o.op = .store 23 x y) (hx : a.eval x = .pointer (some ⟨g, 65, none⟩)) (hy : a.eval y = .agg (cb l).toArray) (hgd : o.guard = none)
    (h : ∀ w', SetR (rtC ((n, p, t, l), [])) 28 w g w' → wpList Tryd.prog ops Q rest (a.put o.dst undef) w') : wpList Tryd.prog ops Q (o :: rest) a w := by
  have e : ∀ u, rtC ((n, p, t, u), []) = (Value.int .u64 (n : Int) :: (cb p ++ cb t)) ++ (cb u ++ []) := fun u => by simp [rtC]
  rw [e] at hb h
  exact wpSeq_storeSeg x y g 65 _ (cb k) [] l 28 hb (by rw [List.length_cons, List.length_append, cb_len, cb_len, hp, ht]) (by rw [cb_len, hk]) hl ho hx hy hgd h
theorem wpSeq_storeEp {ops : Array Oper} {Q : Exit → Act → World → Prop} {rest : List Oper} {o : Oper} {a : Act} {w : World} (x y : Operand) (g n m : Nat) (p t k : List (BitVec 8)) (M : Int) (hM : M = (m : Int)) (hb : Blk w g (rtC ((n, p, t, k), [])) 28) (ho : o.op = .store 24 x y) (hx : a.eval x = .pointer (some ⟨g, 0, none⟩)) (hy : a.eval y = .int .u64 M) (hw : Region.wanted o (yielded ops a.tmps) = true)
    (h : ∀ w', SetR (rtC ((m, p, t, k), [])) 28 w g w' → wpList Tryd.prog ops Q rest (a.put o.dst undef) w') : wpList Tryd.prog ops Q (o :: rest) a w := by
  subst hM
  have hc : w.cell? ⟨g, 0, none⟩ = some (.int .u64 (n : Int)) := hb.cell 0
  have hf : w.frozen? ⟨g, 0, none⟩ = false := hb.frozen 0
  have he : (execOp a.eval o).run Tryd.prog w = .ok .skip (w.setCell ⟨g, 0, none⟩ (.int .u64 (m : Int))) := by
    clear h hw
    generalize a.eval = f at hx hy ⊢
    unfold execOp
    rw [ho]
    simp [go_sem, hx, hy, hc, hf]
  unfold wpList
  simp only [hw, if_true]
  left
  unfold Oper.wp
  rw [he, Oper.upon_skip]
  refine h _ ⟨?_, Only.setCell (Only.refl g w) 0 _⟩
  simpa [rtC] using hb.set 0 (.int .u64 (m : Int))
set_option maxRecDepth 100000 in
set_option maxHeartbeats 8000000 in
theorem qcSeal_fresh (seed tree : List (BitVec 8)) (h : HdT) (w : World) (hs : seed.length = 32) (oh : okH h) (ht : tree.length = 32) :
    Calls Tryd.prog 10 #[.agg (cb seed).toArray, .agg (hdC h).toArray, .agg (cb tree).toArray] w fun e w' => ∃ ad m c, e = .returned (.tuple #[.agg (sgC (sealR seed h tree).1 (.slice ad m c)).toArray, .int .i64 (sealR seed h tree).2]) ∧ Reads w' (.slice ad m c) (sealR seed h tree).1.2 ∧ (∀ k, (Value.slice ad m c).ownBlock = some k → w.heap.size ≤ k) ∧ Below w.heap.size w w' := by
  obtain ⟨ch, HCH⟩ : ∃ c, Hid (c = hdC h) := ⟨_, rfl⟩
  obtain ⟨n, HNN⟩ : ∃ n, Hid (n = h.1) := ⟨_, rfl⟩
  obtain ⟨hr, HHR⟩ : ∃ c, Hid (c = h.2.1) := ⟨_, rfl⟩
  rw [← HCH.out]
  have HLN : Hid (seed.length = 32 ∧ tree.length = 32 ∧ hr.length = 32) := ⟨hs, ht, by rw [HHR.out]; exact oh.1⟩
  have HOH : Hid (okH h) := oh
  have HBW : Hid (Below w.heap.size w w) := Below.refl _ _
  clear hs ht oh
  by_cases h64 : 64 ≤ n
  · have HFR : Hid (sealR seed h tree = (zeroS, 12)) := by show _ = _; unfold sealR; rw [if_pos (by rw [← HNN.out]; exact h64)]
    have c64 : (64 : Int) ≤ (n : Int) := by omega
    have d64 : decide ((64 : Int) ≤ (n : Int)) = true := decide_eq_true c64
    go_enter Tryd.func10, Tryd.ntmps10
    have tk0 : Hid True := trivial
    have tk1 : Hid True := trivial
    have tk2 : Hid True := trivial
    have tk3 : Hid True := trivial
    have tk4 : Hid True := trivial
    have tk5 : Hid True := trivial
    go_wp2_with (first
    | (clear tk0; with_reducible refine wpSeq_boxW 23 (.tmp 0) (cb seed) ?_ ?_ ?_ ?_
       · rfl
       · rfl
       · rfl
       intro g3 y1 nn
       have H3 : Hid (Blk y1 g3 (cb seed) 23) := nn.blk
       replace HBW : Hid (Below w.heap.size w y1) := HBW.out.trans (nn.below.mono HBW.out.size)
       clear nn)
    | (clear tk1; with_reducible refine wpSeq_boxW 26 (.tmp 1) ch ?_ ?_ ?_ ?_
       · rfl
       · rfl
       · rfl
       intro g4 y2 nn
       replace H3 : Hid (Blk y2 g3 (cb seed) 23) := H3.out.below nn.below H3.out.lt
       have H4 : Hid (Blk y2 g4 ch 26) := nn.blk
       replace HBW : Hid (Below w.heap.size w y2) := HBW.out.trans (nn.below.mono HBW.out.size)
       clear nn)
    | (clear tk2; with_reducible refine wpSeq_boxW 23 (.tmp 2) (cb tree) ?_ ?_ ?_ ?_
       · rfl
       · rfl
       · rfl
       intro g5 y3 nn
       replace H3 : Hid (Blk y3 g3 (cb seed) 23) := H3.out.below nn.below H3.out.lt
       replace H4 : Hid (Blk y3 g4 ch 26) := H4.out.below nn.below H4.out.lt
       have H5 : Hid (Blk y3 g5 (cb tree) 23) := nn.blk
       replace HBW : Hid (Below w.heap.size w y3) := HBW.out.trans (nn.below.mono HBW.out.size)
       clear nn)
    | (clear tk3; with_reducible refine wpSeq_allocS ?_ ?_ ?_
       · rfl
       · rfl
       intro g6 y4 nn
       have HNE : Hid (g3 < g6 ∧ g4 < g6 ∧ g5 < g6 ∧ w.heap.size ≤ g6) := by have h1 := H3.out.lt; have h2 := H4.out.lt; have h5 := H5.out.lt; have h3 := nn.ge; have h4 := HBW.out.size; exact ⟨by omega, by omega, by omega, by omega⟩
       replace H3 : Hid (Blk y4 g3 (cb seed) 23) := H3.out.below nn.below H3.out.lt
       replace H4 : Hid (Blk y4 g4 ch 26) := H4.out.below nn.below H4.out.lt
       replace H5 : Hid (Blk y4 g5 (cb tree) 23) := H5.out.below nn.below H5.out.lt
       have H6 : Hid (Blk y4 g6 (sgC zeroS (.slice none 0 0)) 31) := nn.blk
       replace HBW : Hid (Below w.heap.size w y4) := HBW.out.trans (nn.below.mono HBW.out.size)
       have ce : y4.cell? ⟨g4, 0, none⟩ = some (.int .u64 (n : Int)) := by have := H4.out.cell 0; rw [HCH.out] at this; rw [HNN.out]; exact this
       clear nn)
    | (clear tk4; with_reducible refine wpSeq_build 31 [] (sgC zeroS (.slice none 0 0)) ?_ ?_ ?_ ?_
       · exact built_signed []
       · rfl
       · rfl)
    | (clear tk5; with_reducible refine wpSeq_storeRow 31 (.tmp 6) (.tmp 12) g6 (sgC zeroS (.slice none 0 0)) (sgC zeroS (.slice none 0 0)) ?_ ?_ ?_ ?_ ?_ ?_ ?_ ?_ ?_
       · exact H6.out
       · rfl
       · exact info_sgC okS_zero _
       · exact sgC_one _ _ _ _
       · rfl
       · rfl
       · rfl
       · rfl
       intro y5 hs))
    exact bodyPost_ret (results_row_tmp (by rfl) _ _ g6 _ rfl (var_sg hs.blk okS_zero)) rfl ⟨none, 0, 0, by rw [HFR.out]; rfl, by rw [HFR.out]; exact reads_nil10 _, (fun k hk => by cases hk), HBW.out.trans (hs.only.below HNE.out.2.2.2 HBW.out.size)⟩
  have hn64 : n < 64 := by omega
  have c64 : ¬ ((64 : Int) ≤ (n : Int)) := by omega
  have d64 : decide ((64 : Int) ≤ (n : Int)) = false := decide_eq_false c64
  have f1 : IntKind.u64.wrap ((n : Int) + 1) = (n : Int) + 1 := by rw [IntKind.wrap_u64]; omega
  have f2 : IntKind.u64.wrap ((n : Int) + 2) = (n : Int) + 2 := by rw [IntKind.wrap_u64]; omega
  obtain ⟨pk, HPK⟩ : ∃ c, Hid (c = pubR seed (n + 2)) := ⟨_, rfl⟩
  have HPL : Hid (pk.length = 32) := by show _ = _; rw [HPK.out]; exact len_pubR _ _
  obtain ⟨rb, HRB⟩ : ∃ c, Hid (c = rootB (n + 1) hr tree pk) := ⟨_, rfl⟩
  have HLB : Hid (rb.length = 105) := by show _ = _; rw [HRB.out]; exact len_rootB _ _ _ _ ⟨HLN.out.2.2, HLN.out.2.1, HPL.out⟩
  obtain ⟨sg, HSG⟩ : ∃ c, Hid (c = signR (partB seed (n + 1)) (bt (dig rb)) 256) := ⟨_, rfl⟩
  have HFR : Hid (sealR seed h tree = (((n + 1, hr, tree, pk), sg), 0)) := by show _ = _; unfold sealR; rw [if_neg (by rw [← HNN.out]; exact h64), HSG.out, HRB.out, HPK.out, HHR.out, HNN.out]
  obtain ⟨rt, HRT⟩ : ∃ c, Hid (c = rtC ((n + 1, hr, tree, pk), sg)) := ⟨_, rfl⟩
  have HOS : Hid (okS ((n + 1, hr, tree, pk), sg)) := okS_mk HLN.out.2.2 HLN.out.2.1 HPL.out (by omega)
  have HC1 : Hid (∀ W : World, Below w.heap.size w W → Calls Tryd.prog 27 #[.agg (cb seed).toArray, .int .u64 ((n : Int) + 2)] W fun e w' => e = .returned (.agg (cb pk).toArray) ∧ Below W.heap.size W w') := fun W hh => by rw [HPK.out]; exact qlPublic_any seed (n + 2) W ⟨HLN.out.1, by omega⟩
  have HC2 : Hid (∀ W : World, Calls Tryd.prog 21 #[.agg rt.toArray] W fun e w' => ∃ v, e = .returned v ∧ Reads w' v rb ∧ Below W.heap.size W w') := fun W => by rw [HRT.out, HRB.out]; exact rRoot_any hr tree pk (n + 1) W ⟨HLN.out.2.2, HLN.out.2.1, HPL.out, by omega⟩
  have HC3 : Hid (∀ (W : World) (v : Value), Reads W v rb → Calls Tryd.prog 28 #[.agg (cb seed).toArray, .int .u64 ((n : Int) + 1), v] W fun e w' => ∃ u, e = .returned u ∧ OwnB w' W.heap.size u sg ∧ Below W.heap.size W w') := fun W v hv => by rw [HSG.out]; exact qlSign_own seed (n + 1) v rb W ⟨HLN.out.1, by omega⟩ hv (by rw [HLB.out]; decide)
  have hm1 : (n : Int) + 1 = ((n + 1 : Nat) : Int) := by omega
  clear h64 HPK HRB HSG
  go_enter Tryd.func10, Tryd.ntmps10
  have tk0 : Hid True := trivial
  have tk1 : Hid True := trivial
  have tk2 : Hid True := trivial
  have tk3 : Hid True := trivial
  have tk4 : Hid True := trivial
  have tk5 : Hid True := trivial
  have tk6 : Hid True := trivial
  have tk7 : Hid True := trivial
  have tk8 : Hid True := trivial
  have tk9 : Hid True := trivial
  have tk10 : Hid True := trivial
  have tk11 : Hid True := trivial
  have tk12 : Hid True := trivial
  have tk13 : Hid True := trivial
  have tk14 : Hid True := trivial
  have tk15 : Hid True := trivial
  have HM1 : Hid ((n : Int) + 1 = ((n + 1 : Nat) : Int)) := hm1
  clear hm1
  go_wp2_with (first
    | (clear tk0; with_reducible refine wpSeq_boxW 23 (.tmp 0) (cb seed) ?_ ?_ ?_ ?_
       · rfl
       · rfl
       · rfl
       intro g3 y1 nn
       have H3 : Hid (Blk y1 g3 (cb seed) 23) := nn.blk
       replace HBW : Hid (Below w.heap.size w y1) := HBW.out.trans (nn.below.mono HBW.out.size)
       clear nn)
    | (clear tk1; with_reducible refine wpSeq_boxW 26 (.tmp 1) ch ?_ ?_ ?_ ?_
       · rfl
       · rfl
       · rfl
       intro g4 y2 nn
       replace H3 : Hid (Blk y2 g3 (cb seed) 23) := H3.out.below nn.below H3.out.lt
       have H4 : Hid (Blk y2 g4 ch 26) := nn.blk
       replace HBW : Hid (Below w.heap.size w y2) := HBW.out.trans (nn.below.mono HBW.out.size)
       clear nn)
    | (clear tk2; with_reducible refine wpSeq_boxW 23 (.tmp 2) (cb tree) ?_ ?_ ?_ ?_
       · rfl
       · rfl
       · rfl
       intro g5 y3 nn
       replace H3 : Hid (Blk y3 g3 (cb seed) 23) := H3.out.below nn.below H3.out.lt
       replace H4 : Hid (Blk y3 g4 ch 26) := H4.out.below nn.below H4.out.lt
       have H5 : Hid (Blk y3 g5 (cb tree) 23) := nn.blk
       replace HBW : Hid (Below w.heap.size w y3) := HBW.out.trans (nn.below.mono HBW.out.size)
       clear nn)
    | (clear tk3; with_reducible refine wpSeq_allocS ?_ ?_ ?_
       · rfl
       · rfl
       intro g6 y4 nn
       have HNE : Hid (g3 < g6 ∧ g4 < g6 ∧ g5 < g6 ∧ w.heap.size ≤ g6) := by have h1 := H3.out.lt; have h2 := H4.out.lt; have h5 := H5.out.lt; have h3 := nn.ge; have h4 := HBW.out.size; exact ⟨by omega, by omega, by omega, by omega⟩
       replace H3 : Hid (Blk y4 g3 (cb seed) 23) := H3.out.below nn.below H3.out.lt
       replace H4 : Hid (Blk y4 g4 ch 26) := H4.out.below nn.below H4.out.lt
       replace H5 : Hid (Blk y4 g5 (cb tree) 23) := H5.out.below nn.below H5.out.lt
       have H6 : Hid (Blk y4 g6 (sgC zeroS (.slice none 0 0)) 31) := nn.blk
       replace HBW : Hid (Below w.heap.size w y4) := HBW.out.trans (nn.below.mono HBW.out.size)
       have ce : y4.cell? ⟨g4, 0, none⟩ = some (.int .u64 (n : Int)) := by have := H4.out.cell 0; rw [HCH.out] at this; rw [HNN.out]; exact this
       clear nn)
    | (clear tk4; with_reducible refine wpSeq_build 28 [] (rtC zeroS) ?_ ?_ ?_ ?_
       · exact built_root []
       · rfl
       · rfl)
    | (clear tk5; with_reducible refine wpSeq_allocR ?_ ?_ ?_
       · rfl
       · rfl
       intro g8 y5 nn
       have HN8 : Hid (g6 < g8 ∧ g3 < g8 ∧ g4 < g8 ∧ g5 < g8 ∧ w.heap.size ≤ g8) := by have h1 := H6.out.lt; have h2 := HNE.out; have h3 := nn.ge; exact ⟨by omega, by omega, by omega, by omega, by omega⟩
       replace H3 : Hid (Blk y5 g3 (cb seed) 23) := H3.out.below nn.below H3.out.lt
       replace H4 : Hid (Blk y5 g4 ch 26) := H4.out.below nn.below H4.out.lt
       replace H5 : Hid (Blk y5 g5 (cb tree) 23) := H5.out.below nn.below H5.out.lt
       replace H6 : Hid (Blk y5 g6 (sgC zeroS (.slice none 0 0)) 31) := H6.out.below nn.below H6.out.lt
       have H8 : Hid (Blk y5 g8 (rtC zeroS) 28) := nn.blk
       replace HBW : Hid (Below w.heap.size w y5) := HBW.out.trans (nn.below.mono HBW.out.size)
       have HG36 : Hid (g3 < g6 ∧ g4 < g6 ∧ w.heap.size ≤ g6) := ⟨HNE.out.1, HNE.out.2.1, HNE.out.2.2.2⟩
       clear nn ce HNE
       have HNE : Hid (g3 < g8 ∧ g4 < g8 ∧ g5 < g8 ∧ g6 < g8) := ⟨HN8.out.2.1, HN8.out.2.2.1, HN8.out.2.2.2.1, HN8.out.1⟩)
    | (clear tk6; with_reducible refine wpSeq_storeRow 28 (.tmp 8) (.tmp 13) g8 (rtC zeroS) (rtC zeroS) ?_ ?_ ?_ ?_ ?_ ?_ ?_ ?_ ?_
       · exact H8.out
       · rfl
       · exact info_rtC okS_zero
       · exact rtC_one _
       · rfl
       · rfl
       · rfl
       · rfl
       intro y6 hs
       replace H3 : Hid (Blk y6 g3 (cb seed) 23) := H3.out.only hs.only (by have := HNE.out; omega)
       replace H4 : Hid (Blk y6 g4 ch 26) := H4.out.only hs.only (by have := HNE.out; omega)
       replace H5 : Hid (Blk y6 g5 (cb tree) 23) := H5.out.only hs.only (by have := HNE.out; omega)
       replace H6 : Hid (Blk y6 g6 (sgC zeroS (.slice none 0 0)) 31) := H6.out.only hs.only (by have := HNE.out; omega)
       replace H8 : Hid (Blk y6 g8 (rtC zeroS) 28) := hs.blk
       replace HBW : Hid (Below w.heap.size w y6) := HBW.out.trans (hs.only.below (by have := HN8.out; omega) HBW.out.size)
       have ce : y6.cell? ⟨g4, 0, none⟩ = some (.int .u64 (n : Int)) := by have := H4.out.cell 0; rw [HCH.out] at this; rw [HNN.out]; exact this
       clear hs)
    | (clear tk7; with_reducible refine wpSeq_storeEp (.tmp 17) (.tmp 16) g8 0 (n + 1) zb32 zb32 zb32 ((n : Int) + 1) ?_ ?_ ?_ ?_ ?_ ?_ ?_
       · exact HM1.out
       · exact H8.out
       · rfl
       · rfl
       · rfl
       · rfl
       intro y7 hs
       replace H3 : Hid (Blk y7 g3 (cb seed) 23) := H3.out.only hs.only (by have := HNE.out; omega)
       replace H4 : Hid (Blk y7 g4 ch 26) := H4.out.only hs.only (by have := HNE.out; omega)
       replace H5 : Hid (Blk y7 g5 (cb tree) 23) := H5.out.only hs.only (by have := HNE.out; omega)
       replace H6 : Hid (Blk y7 g6 (sgC zeroS (.slice none 0 0)) 31) := H6.out.only hs.only (by have := HNE.out; omega)
       replace H8 : Hid (Blk y7 g8 (rtC ((n + 1, zb32, zb32, zb32), [])) 28) := hs.blk
       replace HBW : Hid (Below w.heap.size w y7) := HBW.out.trans (hs.only.below (by have := HN8.out; omega) HBW.out.size)
       clear ce
       clear hs)
    | (clear tk8; with_reducible refine wpSeq_loadAt (.tmp 18) g4 1 hr ?_ ?_ ?_ ?_ ?_ ?_
       · exact HLN.out.2.2
       · have h1 := H4.out; rw [HCH.out] at h1; have h2 := (h1.hdAt HOH.out).rt; rw [HHR.out]; exact h2
       · rfl
       · rfl
       · rfl)
    | (clear tk9; with_reducible refine wpSeq_storePrev (.tmp 20) (.tmp 19) g8 (n + 1) zb32 zb32 zb32 hr ?_ ?_ ?_ ?_ ?_ ?_ ?_ ?_
       · exact H8.out
       · rfl
       · exact HLN.out.2.2
       · rfl
       · rfl
       · rfl
       · rfl
       intro y8 hs
       replace H3 : Hid (Blk y8 g3 (cb seed) 23) := H3.out.only hs.only (by have := HNE.out; omega)
       replace H4 : Hid (Blk y8 g4 ch 26) := H4.out.only hs.only (by have := HNE.out; omega)
       replace H5 : Hid (Blk y8 g5 (cb tree) 23) := H5.out.only hs.only (by have := HNE.out; omega)
       replace H6 : Hid (Blk y8 g6 (sgC zeroS (.slice none 0 0)) 31) := H6.out.only hs.only (by have := HNE.out; omega)
       replace H8 : Hid (Blk y8 g8 (rtC ((n + 1, hr, zb32, zb32), [])) 28) := hs.blk
       replace HBW : Hid (Below w.heap.size w y8) := HBW.out.trans (hs.only.below (by have := HN8.out; omega) HBW.out.size)
       clear hs)
    | (clear tk10; with_reducible refine wpSeq_loadD (.tmp 5) g5 tree ?_ ?_ ?_ ?_ ?_ ?_
       · exact HLN.out.2.1
       · exact H5.out
       · rfl
       · rfl
       · rfl)
    | (clear tk11; with_reducible refine wpSeq_storeTree (.tmp 22) (.tmp 21) g8 (n + 1) hr zb32 zb32 tree ?_ ?_ ?_ ?_ ?_ ?_ ?_ ?_ ?_
       · exact H8.out
       · exact HLN.out.2.2
       · rfl
       · exact HLN.out.2.1
       · rfl
       · rfl
       · rfl
       · rfl
       intro y9 hs
       replace H3 : Hid (Blk y9 g3 (cb seed) 23) := H3.out.only hs.only (by have := HNE.out; omega)
       replace H4 : Hid (Blk y9 g4 ch 26) := H4.out.only hs.only (by have := HNE.out; omega)
       replace H5 : Hid (Blk y9 g5 (cb tree) 23) := H5.out.only hs.only (by have := HNE.out; omega)
       replace H6 : Hid (Blk y9 g6 (sgC zeroS (.slice none 0 0)) 31) := H6.out.only hs.only (by have := HNE.out; omega)
       replace H8 : Hid (Blk y9 g8 (rtC ((n + 1, hr, tree, zb32), [])) 28) := hs.blk
       replace HBW : Hid (Below w.heap.size w y9) := HBW.out.trans (hs.only.below (by have := HN8.out; omega) HBW.out.size)
       have ce : y9.cell? ⟨g4, 0, none⟩ = some (.int .u64 (n : Int)) := by have := H4.out.cell 0; rw [HCH.out] at this; rw [HNN.out]; exact this
       clear hs)
    | (clear tk12; with_reducible refine wpSeq_loadD (.tmp 3) g3 seed ?_ ?_ ?_ ?_ ?_ ?_
       · exact HLN.out.1
       · exact H3.out
       · rfl
       · rfl
       · rfl)
    | (clear tk13; go_at_call 27; refine (HC1.out _ HBW.out).mono ?_; rintro e y10 ⟨rfl, hbz⟩
       clear ce
       replace H3 : Hid (Blk y10 g3 (cb seed) 23) := H3.out.below hbz H3.out.lt
       replace H4 : Hid (Blk y10 g4 ch 26) := H4.out.below hbz H4.out.lt
       replace H5 : Hid (Blk y10 g5 (cb tree) 23) := H5.out.below hbz H5.out.lt
       replace H6 : Hid (Blk y10 g6 (sgC zeroS (.slice none 0 0)) 31) := H6.out.below hbz H6.out.lt
       replace H8 : Hid (Blk y10 g8 (rtC ((n + 1, hr, tree, zb32), [])) 28) := H8.out.below hbz H8.out.lt
       replace HBW : Hid (Below w.heap.size w y10) := HBW.out.trans (hbz.mono HBW.out.size)
       clear hbz)
    | (clear tk14; with_reducible refine wpSeq_storeNext (.tmp 28) (.tmp 27) g8 (n + 1) hr tree zb32 pk ?_ ?_ ?_ ?_ ?_ ?_ ?_ ?_ ?_ ?_
       · exact H8.out
       · exact HLN.out.2.2
       · exact HLN.out.2.1
       · rfl
       · exact HPL.out
       · rfl
       · rfl
       · rfl
       · rfl
       intro y11 hs
       replace H3 : Hid (Blk y11 g3 (cb seed) 23) := H3.out.only hs.only (by have := HNE.out; omega)
       replace H4 : Hid (Blk y11 g4 ch 26) := H4.out.only hs.only (by have := HNE.out; omega)
       replace H5 : Hid (Blk y11 g5 (cb tree) 23) := H5.out.only hs.only (by have := HNE.out; omega)
       replace H6 : Hid (Blk y11 g6 (sgC zeroS (.slice none 0 0)) 31) := H6.out.only hs.only (by have := HNE.out; omega)
       replace H8 : Hid (Blk y11 g8 (rtC ((n + 1, hr, tree, pk), [])) 28) := hs.blk
       replace HBW : Hid (Below w.heap.size w y11) := HBW.out.trans (hs.only.below (by have := HN8.out; omega) HBW.out.size)
       clear hs))
  refine wp_region_held_drew (S := Only g6 (World.drew y11)) (by kernel_rfl) (Only.refl _ _) ?_
  intro hS
  have HB3 : Hid (Blk (World.drew y11) g3 (cb seed) 23) := H3.out.drew
  have HB4 : Hid (HdAt (World.drew y11) g4 0 h) := by have h1 := H4.out.drew; rw [HCH.out] at h1; exact h1.hdAt HOH.out
  have HB8 : Hid (Blk (World.drew y11) g8 rt 28) := by have h1 := H8.out.drew; rw [HRT.out]; exact h1
  replace H6 : Hid (Blk (World.drew y11) g6 (sgC zeroS (.slice none 0 0)) 31) := H6.out.drew
  replace HBW : Hid (Below w.heap.size w (World.drew y11)) := HBW.out.drew
  have HN6 : Hid (g3 ≠ g6 ∧ g4 ≠ g6 ∧ g8 ≠ g6) := ⟨by have h1 := HN8.out; have h2 := HG36.out; omega, by have h2 := HG36.out; omega, by have h1 := HN8.out; omega⟩
  have HIR : Hid ((Tryd.prog.info? 28).map (·.size) = some rt.length) := by show _ = _; rw [HRT.out]; exact info_rtC HOS.out
  clear H3 H4 H5 H8
  change wpAnyH _ _ _ _ _ _ _ _ (World.drew y11)
  generalize World.drew y11 = y0 at *
  try simp only [Act.put]
  refine wpAnyH_take (i := 0) (v := .agg rt.toArray) rfl (by kernel_rfl) (by kernel_rfl) (by kernel_rfl) (fun _ _ _ h => h) (Or.inl ⟨by rfl, fun wx hx => by exact load_run 28 _ rfl g8 0 rfl rt _ (HB8.out.only hx HN6.out.2.2).range Tryd.underlying28 rfl HIR.out⟩) hS ?_
  simp only [Act.put, List.getElem_toArray, List.getElem_cons_zero, List.setIfInBounds_toArray, List.set_cons_zero, List.set_cons_succ]
  refine wpAnyH_take (i := 1) (v := .agg (cb seed).toArray) rfl (by kernel_rfl) (by kernel_rfl) (by kernel_rfl) (fun _ _ _ h => h) (Or.inl ⟨by rfl, fun wx hx => by exact loadDigest _ g3 seed HLN.out.1 (HB3.out.only hx HN6.out.1) rfl rfl⟩) hS ?_
  simp only [Act.put, List.getElem_toArray, List.getElem_cons_succ, List.getElem_cons_zero, List.setIfInBounds_toArray, List.set_cons_zero, List.set_cons_succ]
  refine wpAnyH_take (i := 2) (v := .pointer (some ⟨g4, 0, none⟩)) rfl (by kernel_rfl) (by kernel_rfl) (by kernel_rfl) (fun _ _ _ h => h) (Or.inl ⟨by rfl, fun wx hx => by simp [go_sem]⟩) hS ?_
  simp only [Act.put, List.getElem_toArray, List.getElem_cons_succ, List.getElem_cons_zero, List.setIfInBounds_toArray, List.set_cons_zero, List.set_cons_succ]
  refine wpAnyH_take (i := 3) (v := .int .u64 (n : Int)) rfl (by kernel_rfl) (by kernel_rfl) (by kernel_rfl) (fun _ _ _ h => h) (Or.inl ⟨by rfl, fun wx hx => by (have cm : wx.cell? ⟨g4, 0, none⟩ = some (.int .u64 (n : Int)) := by rw [HNN.out]; exact (HB4.out.only hx HN6.out.2.1).ep); simp [go_sem, cm]⟩) hS ?_
  simp only [Act.put, List.getElem_toArray, List.getElem_cons_succ, List.getElem_cons_zero, List.setIfInBounds_toArray, List.set_cons_zero, List.set_cons_succ]
  refine wpAnyH_take (i := 4) (v := .int .u64 ((n : Int) + 1)) rfl (by kernel_rfl) (by kernel_rfl) (by kernel_rfl) (fun _ _ _ h => h) (Or.inl ⟨by rfl, fun wx hx => by simp [go_sem, f1]⟩) hS ?_
  simp only [Act.put, List.getElem_toArray, List.getElem_cons_succ, List.getElem_cons_zero, List.setIfInBounds_toArray, List.set_cons_zero, List.set_cons_succ]
  refine wpAnyH_take (i := 5) (v := .agg rt.toArray) rfl (by kernel_rfl) (by kernel_rfl) (by kernel_rfl) (fun _ _ _ h => h) (Or.inl ⟨by rfl, fun wx hx => by exact load_run 28 _ rfl g8 0 rfl rt _ (HB8.out.only hx HN6.out.2.2).range Tryd.underlying28 rfl HIR.out⟩) hS ?_
  simp only [Act.put, List.getElem_toArray, List.getElem_cons_succ, List.getElem_cons_zero, List.setIfInBounds_toArray, List.set_cons_zero, List.set_cons_succ]
  refine wpAnyH_enter 6 (by kernel_rfl) rfl (by rfl) (f := 21) (args := #[.agg rt.toArray]) (by simp [go_sem]) (HC2.out _) ?_
  rintro e y12 ⟨vb, rfl, hvb, hbq⟩
  replace hS := hS.still hbq
  replace H6 : Hid (Blk y12 g6 (sgC zeroS (.slice none 0 0)) 31) := H6.out.below hbq H6.out.lt
  replace HBW : Hid (Below w.heap.size w y12) := HBW.out.trans (hbq.mono HBW.out.size)
  refine ⟨_, rfl, hS, ?_⟩
  clear hbq
  simp only [Act.put, List.getElem_toArray, List.getElem_cons_succ, List.getElem_cons_zero, List.setIfInBounds_toArray, List.set_cons_zero, List.set_cons_succ]
  refine wpAnyH_enter 7 (by kernel_rfl) rfl (by rfl) (f := 28) (args := #[.agg (cb seed).toArray, .int .u64 ((n : Int) + 1), vb]) (by simp [go_sem]) (HC3.out _ vb hvb) ?_
  rintro e y13 ⟨vs, rfl, hvs, hbq⟩
  obtain ⟨ad, nn, cc, hvf⟩ := hvs.reads.form
  have hg6 : g6 < y12.heap.size := H6.out.lt
  have HBS : Hid (w.heap.size ≤ y12.heap.size) := HBW.out.size
  subst hvf
  replace hS := hS.still hbq
  replace H6 : Hid (Blk y13 g6 (sgC zeroS (.slice none 0 0)) 31) := H6.out.below hbq H6.out.lt
  replace HBW : Hid (Below w.heap.size w y13) := HBW.out.trans (hbq.mono HBW.out.size)
  refine ⟨_, rfl, hS, ?_⟩
  clear hbq
  simp only [Act.put, List.getElem_toArray, List.getElem_cons_succ, List.getElem_cons_zero, List.setIfInBounds_toArray, List.set_cons_zero, List.set_cons_succ]
  refine wpAnyH_take (i := 8) (v := .agg (sgC ((n + 1, hr, tree, pk), sg) (.slice ad nn cc)).toArray) rfl (by kernel_rfl) (by kernel_rfl) (by kernel_rfl) (fun _ _ _ h => h) (Or.inl ⟨by rfl, fun wx hx => by refine build_op _ _ 31 [(0, .tmp 29), (1, .tmp 36)] rfl _ ?_ _; refine (built_signed _).trans ?_; rw [← fill_sg HOS.out, ← HRT.out]; rfl⟩) hS ?_
  simp only [Act.put, List.getElem_toArray, List.getElem_cons_succ, List.getElem_cons_zero, List.setIfInBounds_toArray, List.set_cons_zero, List.set_cons_succ]
  refine wpAnyH_storeRow 9 31 (.tmp 6) (.tmp 37) g6 (sgC zeroS (.slice none 0 0)) (sgC ((n + 1, hr, tree, pk), sg) (.slice ad nn cc)) H6.out (by rw [len_sgC HOS.out, len_sgC okS_zero]) (info_sgC HOS.out _) (sgC_one _ _ _ _) (by kernel_rfl) rfl (by rfl) rfl rfl rfl ?_
  intro y14 hs
  replace hS := hS.trans hs.only
  refine ⟨hS, ?_⟩
  simp only [Act.put, List.getElem_toArray, List.getElem_cons_succ, List.getElem_cons_zero]
  refine wpAnyH_take (i := 10) (v := .int .i64 0) rfl (by kernel_rfl) (by kernel_rfl) (by kernel_rfl) (fun _ _ _ h => h) (Or.inl ⟨by rfl, fun wx hx => by simp [go_sem]⟩) hS ?_
  simp only [Act.put, List.getElem_toArray, List.getElem_cons_succ, List.getElem_cons_zero, List.setIfInBounds_toArray, List.set_cons_zero, List.set_cons_succ]
  refine wpAnyH_done (by kernel_rfl) ?_ _
  go_wp2
  refine bodyPost_ret (results_row_tmp (by rfl) _ _ g6 _ rfl (var_sg hs.blk HOS.out)) rfl ⟨ad, nn, cc, by rw [HFR.out]; rfl, ?_, (fun k hk => Nat.le_trans HBS.out (hvs.own k hk)), HBW.out.trans (hs.only.below HG36.out.2.2 HBW.out.size)⟩
  rw [HFR.out]
  exact (hvs.onlyLt hs.only hg6).reads
end Go.Proofs.YtfbdnhadcnmfoaaDoor
/- What the functions of layer 11 do (ChOps); the statements' own works and few. -/
namespace Go.Proofs.YtfbdnhadcnmfoaaDoor
open Go.RowKit Go.Shelf
set_option maxRecDepth 100000
/-- chain's functions, as the chapter says -/
structure ChOps : Prop where
  pin : ∀ (W : World) (seed : List (BitVec 8)), KOk W → seed.length = 32 → Calls Tryd.prog 13 #[.agg (cb seed).toArray] W fun e w' => e = .returned (.agg (cb (pubR seed 1)).toArray) ∧ Below W.heap.size W w'
  start : ∀ (W : World) (p : List (BitVec 8)), p.length = 32 → Calls Tryd.prog 19 #[.agg (cb p).toArray] W fun e w' => e = .returned (.agg (hdC (0, zb32, p)).toArray) ∧ Below W.heap.size W w'
  seals : ∀ (W : World) (seed tree : List (BitVec 8)) (h : HdT), KOk W → seed.length = 32 → okH h → tree.length = 32 → Calls Tryd.prog 9 #[.agg (cb seed).toArray, .agg (hdC h).toArray, .agg (cb tree).toArray] W fun e w' => ∃ ad n c, e = .returned (.tuple #[.agg (sgC (sealR seed h tree).1 (.slice ad n c)).toArray, .int .i64 (sealR seed h tree).2]) ∧ Reads w' (.slice ad n c) (sealR seed h tree).1.2 ∧ (∀ k, (Value.slice ad n c).ownBlock = some k → W.heap.size ≤ k) ∧ Below W.heap.size W w'
  follow : ∀ (W : World) (h : HdT) (s : SgT) (vs : Value), KOk W → okH h → okS s → Reads W vs s.2 → Calls Tryd.prog 14 #[.agg (hdC h).toArray, .agg (sgC s vs).toArray] W fun e w' => e = .returned (.tuple #[.agg (hdC (followR h s).1).toArray, .int .i64 (followR h s).2]) ∧ Below W.heap.size W w'
  walk : ∀ (W : World) (h : HdT) (v : Value) (l : List SgT), KOk W → okH h → ReadsS W v l → l.length < 1000000 → Calls Tryd.prog 17 #[.agg (hdC h).toArray, v] W fun e w' => e = .returned (.tuple #[.agg (hdC (walkR h l).1).toArray, .int .i64 ((walkR h l).2.1 : Int), .int .i64 (walkR h l).2.2]) ∧ Below W.heap.size W w'
def one32 : List (BitVec 8) := 1 :: List.replicate 31 0
theorem build_one (f : Operand → Value) (o : Oper) (ho : o.op = .build 23 #[(0, .const (.int .u8 1))]) (hx : f (.const (.int .u8 1)) = .int .u8 1) (w : World) : (execOp f o).run Tryd.prog w = .ok (.value (.agg (cb one32).toArray)) w := by
  unfold execOp
  rw [ho]
  simp only [List.map_toArray, List.map_cons, List.map_nil, hx]
  kernel_rfl
theorem wpSeq_buildOne {ops : Array Oper} {Q : Exit → Act → World → Prop} {rest : List Oper} {o : Oper} {a : Act} {w : World} (ho : o.op = .build 23 #[(0, .const (.int .u8 1))]) (hw : Region.wanted o (yielded ops a.tmps) = true)
    (h : wpList Tryd.prog ops Q rest (a.put o.dst (.agg (cb one32).toArray)) w) : wpList Tryd.prog ops Q (o :: rest) a w :=
  wpSeq_val _ _ hw (build_one _ _ ho rfl _) h
def hd1 : HdT := (0, zb32, one32)
def sgN (n : Nat) : SgT := ((n, zb32, zb32, zb32), [])
theorem okH_one : okH hd1 := okH_mk rfl rfl (by decide)
theorem okS_n (n : Nat) (hn : n < 18446744073709551616) : okS (sgN n) := okS_mk rfl rfl rfl hn
theorem follow_two : followR hd1 (sgN 2) = (zeroH, 10) := by
  unfold followR
  rw [if_pos (Or.inr (by decide))]
theorem follow_one : followR hd1 (sgN 1) = (zeroH, 15) := by
  unfold followR
  rw [if_neg (by rintro (h | h); exact absurd h (by decide); exact h rfl), if_pos (Or.inr ?_)]
  unfold checkE
  rw [if_neg (fun h => absurd h.1 (by decide))]
  decide
/-- a token of a letter: what is hidden stays hidden -/
theorem wpSeq_eqH {ops : Array Oper} {Q : Exit → Act → World → Prop} {rest : List Oper} {o : Oper} {a : Act} {w : World} (x y : Operand) (h k : HdT) (oh : okH h) (ok : okH k) (b : Bool) (hb : b = decide (h = k)) (ho : o.op = .binOp .eql 26 x y 26) (hx : a.eval x = .agg (hdC h).toArray) (hy : a.eval y = .agg (hdC k).toArray) (hw : Region.wanted o (yielded ops a.tmps) = true)
    (hh : wpList Tryd.prog ops Q rest (a.put o.dst (.bool b)) w) : wpList Tryd.prog ops Q (o :: rest) a w := by
  refine wpSeq_val _ _ hw ?_ hh
  have he := eq_head h k oh ok w
  have hg := run_eqGuard_agg (P := Tryd.prog) (w := w) .eql 26 x y (hdC h).toArray (hdC k).toArray (by kernel_rfl)
  unfold execOp
  rw [ho]
  simp only [hx, hy, Sem.run_bind, hg, run_eql_struct, he, Result.andThen_ok, hb, Sem.run_pure]
set_option maxRecDepth 100000 in
set_option maxHeartbeats 8000000 in
theorem works11_any (hO : ChOps) (w : World) (hK : KOk w) : Calls Tryd.prog 12 #[] w fun e w' => e = .returned (.bool true) ∧ Below w.heap.size w w' := by
  have HC1 : Hid (∀ W : World, Calls Tryd.prog 19 #[.agg (cb one32).toArray] W fun e w' => e = .returned (.agg (hdC hd1).toArray) ∧ Below W.heap.size W w') := fun W => hO.start W one32 rfl
  have HC2 : Hid (∀ W : World, Below w.heap.size w W → Calls Tryd.prog 17 #[.agg (hdC hd1).toArray, .slice none 0 0] W fun e w' => e = .returned (.tuple #[.agg (hdC hd1).toArray, .int .i64 0, .int .i64 0]) ∧ Below W.heap.size W w') := fun W hh => hO.walk W hd1 _ [] (hK.below hh hK.lt) okH_one (ReadsS.nil W) (by decide)
  have HC4 : Hid (∀ W : World, Below w.heap.size w W → Calls Tryd.prog 14 #[.agg (hdC hd1).toArray, .agg (sgC (sgN 2) (.slice none 0 0)).toArray] W fun e w' => e = .returned (.tuple #[.agg (hdC zeroH).toArray, .int .i64 10]) ∧ Below W.heap.size W w') := fun W hh => by have h := hO.follow W hd1 (sgN 2) _ (hK.below hh hK.lt) okH_one (okS_n 2 (by decide)) (reads_nil10 W); rw [follow_two] at h; exact h
  have HC3 : Hid (∀ W : World, Below w.heap.size w W → Calls Tryd.prog 14 #[.agg (hdC hd1).toArray, .agg (sgC (sgN 1) (.slice none 0 0)).toArray] W fun e w' => e = .returned (.tuple #[.agg (hdC zeroH).toArray, .int .i64 15]) ∧ Below W.heap.size W w') := fun W hh => by have h := hO.follow W hd1 (sgN 1) _ (hK.below hh hK.lt) okH_one (okS_n 1 (by decide)) (reads_nil10 W); rw [follow_one] at h; exact h
  have HBW : Hid (Below w.heap.size w w) := Below.refl _ _
  clear hO hK
  go_enter Tryd.func12, Tryd.ntmps12
  have tk0 : Hid True := trivial
  have tk1 : Hid True := trivial
  have tk2 : Hid True := trivial
  have tk3 : Hid True := trivial
  have tk4 : Hid True := trivial
  have tk5 : Hid True := trivial
  have tk6 : Hid True := trivial
  have tk7 : Hid True := trivial
  have tk8 : Hid True := trivial
  have tk9 : Hid True := trivial
  have tk10 : Hid True := trivial
  have tk11 : Hid True := trivial
  have tk12 : Hid True := trivial
  have tk13 : Hid True := trivial
  have tk14 : Hid True := trivial
  have tk15 : Hid True := trivial
  have tk16 : Hid True := trivial
  have tk17 : Hid True := trivial
  have tk18 : Hid True := trivial
  have tk19 : Hid True := trivial
  have tk20 : Hid True := trivial
  go_wp2_with (first
    | (clear tk0; with_reducible refine wpSeq_buildOne ?_ ?_ ?_
       · rfl
       · rfl)
    | (clear tk1; go_at_call 19; refine (HC1.out w).mono ?_; rintro e y1 ⟨rfl, hbz⟩
       replace HBW : Hid (Below w.heap.size w y1) := HBW.out.trans (hbz.mono HBW.out.size)
       clear hbz )
    | (clear tk2; go_at_call 17; refine (HC2.out y1 HBW.out).mono ?_; rintro e y2 ⟨rfl, hbz⟩
       replace HBW : Hid (Below w.heap.size w y2) := HBW.out.trans (hbz.mono HBW.out.size)
       clear hbz )
    | (clear tk3; with_reducible refine wpSeq_allocH ?_ ?_ ?_
       · rfl
       · rfl
       intro g1 y3 nn)
    | (clear tk4; with_reducible refine wpSeq_storeRow 26 (.tmp 1) (.tmp 12) g1 (hdC zeroH) (hdC hd1) ?_ ?_ ?_ ?_ ?_ ?_ ?_ ?_ ?_
       · exact nn.blk
       · first | (with_reducible rfl) | rw [len_hdC okH_one, len_hdC okH_zero]
       · exact info_hdC okH_one
       · exact hdC_one _
       · rfl
       · rfl
       · rfl
       · rfl
       intro y4 hs
       have hbz := nn.below.trans (hs.only.below nn.ge nn.below.size)
       replace HBW : Hid (Below w.heap.size w y4) := HBW.out.trans (hbz.mono HBW.out.size)
       have HG1 : Hid (Blk y4 g1 (hdC hd1) 26) := hs.blk
       clear nn hs hbz)
    | (clear tk5; with_reducible refine wpSeq_loadW 26 (.tmp 1) g1 0 (hdC hd1) _ ?_ Tryd.underlying26 rfl ?_ ?_ ?_ ?_ ?_
       · exact HG1.out.range
       · exact info_hdC okH_one
       · rfl
       · rfl
       · rfl)
    | (clear tk6; with_reducible refine wpSeq_build 28 [(0, .const (.int .u64 2))] (rtC (sgN 2)) ?_ ?_ ?_ ?_
       · exact (built_root _).trans (fill_rn 2)
       · rfl
       · rfl)
    | (clear tk7; with_reducible refine wpSeq_build 31 [(0, .tmp 17)] (sgC (sgN 2) (.slice none 0 0)) ?_ ?_ ?_ ?_
       · exact (built_signed _).trans (fill_sr (okS_n 2 (by decide)))
       · rfl
       · rfl)
    | (clear tk8; go_at_call 14; refine (HC4.out y4 HBW.out).mono ?_; rintro e y5 ⟨rfl, hbz⟩
       replace HG1 : Hid (Blk y5 g1 (hdC hd1) 26) := HG1.out.below hbz HG1.out.lt
       replace HBW : Hid (Below w.heap.size w y5) := HBW.out.trans (hbz.mono HBW.out.size)
       clear hbz )
    | (clear tk9; with_reducible refine wpSeq_allocH ?_ ?_ ?_
       · rfl
       · rfl
       intro g4 y6 nn)
    | (clear tk10; with_reducible refine wpSeq_storeRow 26 (.tmp 4) (.tmp 20) g4 (hdC zeroH) (hdC zeroH) ?_ ?_ ?_ ?_ ?_ ?_ ?_ ?_ ?_
       · exact nn.blk
       · first | (with_reducible rfl) | rw [len_hdC okH_zero, len_hdC okH_zero]
       · exact info_hdC okH_zero
       · exact hdC_one _
       · rfl
       · rfl
       · rfl
       · rfl
       intro y7 hs
       have hbz := nn.below.trans (hs.only.below nn.ge nn.below.size)
       replace HG1 : Hid (Blk y7 g1 (hdC hd1) 26) := HG1.out.below hbz HG1.out.lt
       replace HBW : Hid (Below w.heap.size w y7) := HBW.out.trans (hbz.mono HBW.out.size)
       have HG4 : Hid (Blk y7 g4 (hdC zeroH) 26) := hs.blk
       clear nn hs hbz)
    | (clear tk11; with_reducible refine wpSeq_loadW 26 (.tmp 1) g1 0 (hdC hd1) _ ?_ Tryd.underlying26 rfl ?_ ?_ ?_ ?_ ?_
       · exact HG1.out.range
       · exact info_hdC okH_one
       · rfl
       · rfl
       · rfl)
    | (clear tk12; with_reducible refine wpSeq_build 28 [(0, .const (.int .u64 1))] (rtC (sgN 1)) ?_ ?_ ?_ ?_
       · exact (built_root _).trans (fill_rn 1)
       · rfl
       · rfl)
    | (clear tk13; with_reducible refine wpSeq_build 31 [(0, .tmp 24)] (sgC (sgN 1) (.slice none 0 0)) ?_ ?_ ?_ ?_
       · exact (built_signed _).trans (fill_sr (okS_n 1 (by decide)))
       · rfl
       · rfl)
    | (clear tk14; go_at_call 14; refine (HC3.out y7 HBW.out).mono ?_; rintro e y8 ⟨rfl, hbz⟩
       replace HG1 : Hid (Blk y8 g1 (hdC hd1) 26) := HG1.out.below hbz HG1.out.lt
       replace HG4 : Hid (Blk y8 g4 (hdC zeroH) 26) := HG4.out.below hbz HG4.out.lt
       replace HBW : Hid (Below w.heap.size w y8) := HBW.out.trans (hbz.mono HBW.out.size)
       clear hbz )
    | (clear tk15; with_reducible refine wpSeq_allocH ?_ ?_ ?_
       · rfl
       · rfl
       intro g6 y9 nn)
    | (clear tk16; with_reducible refine wpSeq_storeRow 26 (.tmp 6) (.tmp 27) g6 (hdC zeroH) (hdC zeroH) ?_ ?_ ?_ ?_ ?_ ?_ ?_ ?_ ?_
       · exact nn.blk
       · first | (with_reducible rfl) | rw [len_hdC okH_zero, len_hdC okH_zero]
       · exact info_hdC okH_zero
       · exact hdC_one _
       · rfl
       · rfl
       · rfl
       · rfl
       intro y10 hs
       have hbz := nn.below.trans (hs.only.below nn.ge nn.below.size)
       replace HG1 : Hid (Blk y10 g1 (hdC hd1) 26) := HG1.out.below hbz HG1.out.lt
       replace HG4 : Hid (Blk y10 g4 (hdC zeroH) 26) := HG4.out.below hbz HG4.out.lt
       replace HBW : Hid (Below w.heap.size w y10) := HBW.out.trans (hbz.mono HBW.out.size)
       have HG6 : Hid (Blk y10 g6 (hdC zeroH) 26) := hs.blk
       clear nn hs hbz)
    | (clear tk17; with_reducible refine wpSeq_loadW 26 (.tmp 1) g1 0 (hdC hd1) _ ?_ Tryd.underlying26 rfl ?_ ?_ ?_ ?_ ?_
       · exact HG1.out.range
       · exact info_hdC okH_one
       · rfl
       · rfl
       · rfl)
    | (clear tk18; with_reducible refine wpSeq_buildOne ?_ ?_ ?_
       · rfl
       · rfl)
    | (clear tk19; with_reducible refine wpSeq_build 26 [(2, .tmp 37)] (hdC hd1) ?_ ?_ ?_ ?_
       · exact (built_head _).trans (fill_hk (y := one32) rfl)
       · rfl
       · rfl)
    | (clear tk20; with_reducible refine wpSeq_eqH (.tmp 36) (.tmp 38) hd1 hd1 okH_one okH_one true ?_ ?_ ?_ ?_ ?_ ?_
       · exact (decide_eq_true rfl).symm
       · rfl
       · rfl
       · rfl
       · rfl))
  go_ret
  first | exact ⟨rfl, HBW.out⟩ | exact ⟨trivial, HBW.out⟩
/-- what few tells -/
def FewA (n : Nat) (w : World) (e : Ending) (w' : World) : Prop := ∃ b, e = .returned (.bool b) ∧ (b = true → n ≤ 40) ∧ w' = w
set_option maxRecDepth 100000 in
set_option maxHeartbeats 8000000 in
theorem few11_any (v : Value) (l : List SgT) (w : World) (hl : ReadsS w v l) : Calls Tryd.prog 16 #[v] w (FewA l.length w) := by
  obtain ⟨⟨ad, cap, hv, hq1, hq2, hq3⟩, hok⟩ := id hl
  clear hq1 hq2 hq3 hok
  obtain ⟨n, HN⟩ : ∃ n, Hid (n = l.length) := ⟨_, rfl⟩
  rw [← HN.out] at hv ⊢
  have HL : Hid (ReadsS w v l) := hl
  clear hl
  subst hv
  by_cases h40 : 40 < n
  · have hi : (40 : Int) < (n : Int) := by omega
    go_enter Tryd.func16, Tryd.ntmps16
    go_wp2
    go_ret
    exact ⟨false, rfl, (fun h => by cases h), rfl⟩
  have hi : ¬ ((40 : Int) < (n : Int)) := by omega
  have HN40 : Hid (n ≤ 40) := by show _ ≤ _; omega
  go_enter Tryd.func16, Tryd.ntmps16
  go_wp2
  go_loopw [3, 4] (fun m i wr => ∃ (k : Nat) (z : Int), k ≤ n ∧ i = .int .i64 (k : Int) ∧ m = .int .i64 z ∧ wr = w) (fun _ i _ => n - (intOf i).toNat)
  case atStart => exact ⟨0, 0, by omega, rfl, rfl, rfl⟩
  case round =>
    obtain ⟨k, z, hkn, rfl, rfl, rfl⟩ := hrel
    by_cases hlt : k < n
    · have hlk : (k : Int) < (n : Int) := by omega
      have k0 : (0 : Int) ≤ (k : Int) := by omega
      have f5 : IntKind.i64.wrap ((k : Int) + 1) = (k : Int) + 1 := by rw [IntKind.wrap_i64]; omega
      by_cases hz : z ≤ 524288
      · obtain ⟨b, off, cap', hv2, hat⟩ := HL.out.at (by rw [← HN.out]; omega)
        simp only [Value.slice.injEq] at hv2
        obtain ⟨rfl, hnl, rfl⟩ := hv2
        clear hnl
        obtain ⟨vs, hsa, hrs⟩ := hat k (by rw [← HN.out]; exact hlt)
        obtain ⟨a3, n3, c3, hv3⟩ := hrs.form
        subst hv3
        have hsg : wr.cell? ⟨b, off + k * 98 + 97, none⟩ = some (.slice a3 n3 c3) := hsa.sig
        clear hat hsa hrs
        go_wp2
        go_roundw
        case rel => exact ⟨k + 1, _, by omega, by simp, rfl, by first | rfl | trivial⟩
        case measure => simp [intOf]; omega
      · go_wp2
        go_ret
        exact ⟨_, rfl, fun _ => HN40.out, rfl⟩
    · have hlk : ¬ ((k : Int) < (n : Int)) := by omega
      go_wp2
      go_ret
      exact ⟨_, rfl, fun _ => HN40.out, rfl⟩
end Go.Proofs.YtfbdnhadcnmfoaaDoor
/- The walks of chain's spent, Pin, Start and Walk (layer 11). -/
namespace Go.Proofs.YtfbdnhadcnmfoaaDoor
open Go.RowKit Go.Shelf
set_option maxRecDepth 100000
set_option maxRecDepth 100000 in
set_option maxHeartbeats 8000000 in
theorem chSpent_any (h : HdT) (w : World) : Calls Tryd.prog 23 #[.agg (hdC h).toArray] w fun e w' => e = .returned (.bool (decide (64 ≤ h.1))) ∧ Below w.heap.size w w' := by
  obtain ⟨ch, HCH⟩ : ∃ c, Hid (c = hdC h) := ⟨_, rfl⟩
  obtain ⟨n, HNN⟩ : ∃ n, Hid (n = h.1) := ⟨_, rfl⟩
  rw [← HCH.out]
  by_cases h64 : 64 ≤ n
  · have c64 : (64 : Int) ≤ (n : Int) := by omega
    go_enter Tryd.func23, Tryd.ntmps23
    have tk0 : Hid True := trivial
    go_wp2_with (first
      | (clear tk0; with_reducible refine wpSeq_boxW 26 (.tmp 0) ch ?_ ?_ ?_ ?_
         · rfl
         · rfl
         · rfl
         intro g1 y1 nn
         have ce : y1.cell? ⟨g1, 0, none⟩ = some (.int .u64 (n : Int)) := by have := nn.blk.cell 0; rw [HCH.out] at this; rw [HNN.out]; exact this))
    go_ret
    exact ⟨by rw [← HNN.out, decide_eq_true h64]; rfl, nn.below⟩
  · have c64 : ¬ ((64 : Int) ≤ (n : Int)) := by omega
    go_enter Tryd.func23, Tryd.ntmps23
    have tk0 : Hid True := trivial
    go_wp2_with (first
      | (clear tk0; with_reducible refine wpSeq_boxW 26 (.tmp 0) ch ?_ ?_ ?_ ?_
         · rfl
         · rfl
         · rfl
         intro g1 y1 nn
         have ce : y1.cell? ⟨g1, 0, none⟩ = some (.int .u64 (n : Int)) := by have := nn.blk.cell 0; rw [HCH.out] at this; rw [HNN.out]; exact this))
    go_ret
    exact ⟨by rw [← HNN.out, decide_eq_false h64]; rfl, nn.below⟩
set_option maxRecDepth 100000 in
set_option maxHeartbeats 8000000 in
theorem chPin_any (x : List (BitVec 8)) (w : World) (hK : KOk w) (hn : x.length = 32) : Calls Tryd.prog 13 #[.agg (cb x).toArray] w fun e w' => e = .returned (.agg (cb (pubR x 1)).toArray) ∧ Below w.heap.size w w' := by
  obtain ⟨r, HRD⟩ : ∃ r, Hid (r = pubR x 1) := ⟨_, rfl⟩
  have HRL : Hid (r.length = 32) := by show _ = _; rw [HRD.out]; exact len_pubR _ _
  have HC : Hid (∀ W : World, Below w.heap.size w W → Calls Tryd.prog 24 #[.agg (cb x).toArray, .int .u64 1] W fun e w' => e = .returned (.agg (cb r).toArray) ∧ Below W.heap.size W w') := fun W hh => by rw [HRD.out]; exact lPublic_any x 1 W (hK.below hh hK.lt) ⟨hn, by decide⟩
  have HN : Hid (x.length = 32) := hn
  have HBW : Hid (Below w.heap.size w w) := Below.refl _ _
  clear hn hK
  go_enter Tryd.func13, Tryd.ntmps13
  have tk0 : Hid True := trivial
  have tk1 : Hid True := trivial
  have tk2 : Hid True := trivial
  have tk3 : Hid True := trivial
  have tk4 : Hid True := trivial
  go_wp2_with (first
    | (clear tk0; with_reducible refine wpSeq_boxD (.tmp 0) x ?_ ?_ ?_ ?_
       · rfl
       · rfl
       · rfl
       intro gx y1 nn
       replace HBW : Hid (Below w.heap.size w y1) := HBW.out.trans (nn.below.mono HBW.out.size)
       have HX : Hid (Blk y1 gx (cb x) 23) := nn.blk
       clear nn)
    | (clear tk1; with_reducible refine wpSeq_allocD ?_ ?_ ?_
       · rfl
       · rfl
       intro gr y2 nn
       have HGR : Hid (w.heap.size ≤ gr) := Nat.le_trans HBW.out.size nn.ge
       replace HX : Hid (Blk y2 gx (cb x) 23) := HX.out.below nn.below HX.out.lt
       replace HBW : Hid (Below w.heap.size w y2) := HBW.out.trans (nn.below.mono HBW.out.size)
       have HB : Hid (Blk y2 gr (cb zb32) 23) := nn.blk
       clear nn)
    | (clear tk2; with_reducible refine wpSeq_loadD (.tmp 1) gx x ?_ ?_ ?_ ?_ ?_ ?_
       · exact HN.out
       · exact HX.out
       · rfl
       · rfl
       · rfl)
    | (clear tk3; go_at_call 24; refine (HC.out y2 HBW.out).mono ?_; rintro e y3 ⟨rfl, hbz⟩
       replace HX : Hid (Blk y3 gx (cb x) 23) := HX.out.below hbz HX.out.lt
       replace HB : Hid (Blk y3 gr (cb zb32) 23) := HB.out.below hbz HB.out.lt
       replace HBW : Hid (Below w.heap.size w y3) := HBW.out.trans (hbz.mono HBW.out.size)
       clear hbz )
    | (clear tk4; with_reducible refine wpSeq_storeD (.tmp 2) (.tmp 4) gr zb32 r ?_ ?_ ?_ ?_ ?_ ?_ ?_ ?_
       · rfl
       · exact HRL.out
       · exact HB.out
       · rfl
       · rfl
       · rfl
       · rfl
       intro W9 h9))
  exact bodyPost_ret (v := .agg (cb r).toArray) (results_cell_row (by rfl) _ _ gr 23 _ (0, 0) _ rfl h9.blk Tryd.underlying23 rfl (by rw [List.size_toArray, cb_len, HRL.out]; exact info_digest)) rfl ⟨by rw [HRD.out], HBW.out.trans (h9.only.below HGR.out HBW.out.size)⟩
set_option maxRecDepth 100000 in
set_option maxHeartbeats 8000000 in
theorem chStart_any (p : List (BitVec 8)) (w : World) (hp : p.length = 32) : Calls Tryd.prog 19 #[.agg (cb p).toArray] w fun e w' => e = .returned (.agg (hdC (0, zb32, p)).toArray) ∧ Below w.heap.size w w' := by
  have HPL : Hid (p.length = 32) := hp
  have HOK : Hid (okH (0, zb32, p)) := okH_mk rfl hp (by decide)
  have HID : Hid ((Tryd.prog.info? 23).map (·.size) = some (cb p).length) := by show _ = _; rw [cb_len, hp]; exact info_digest
  have HBW : Hid (Below w.heap.size w w) := Below.refl _ _
  clear hp
  go_enter Tryd.func19, Tryd.ntmps19
  have tk0 : Hid True := trivial
  have tk1 : Hid True := trivial
  have tk2 : Hid True := trivial
  have tk3 : Hid True := trivial
  have tk4 : Hid True := trivial
  go_wp2_with (first
    | (clear tk0; with_reducible refine wpSeq_boxW 23 (.tmp 0) (cb p) ?_ ?_ ?_ ?_
       · rfl
       · rfl
       · rfl
       intro g1 y1 nn
       replace HBW : Hid (Below w.heap.size w y1) := HBW.out.trans (nn.below.mono HBW.out.size)
       have HG1 : Hid (Blk y1 g1 (cb p) 23) := nn.blk
       clear nn)
    | (clear tk1; with_reducible refine wpSeq_allocH ?_ ?_ ?_
       · rfl
       · rfl
       intro g2 y2 nn
       have HGE : Hid (w.heap.size ≤ g2) := Nat.le_trans HBW.out.size nn.ge
       replace HG1 : Hid (Blk y2 g1 (cb p) 23) := HG1.out.below nn.below HG1.out.lt
       replace HBW : Hid (Below w.heap.size w y2) := HBW.out.trans (nn.below.mono HBW.out.size)
       have HG2 : Hid (Blk y2 g2 (hdC zeroH) 26) := nn.blk
       clear nn)
    | (clear tk2; with_reducible refine wpSeq_loadW 23 (.tmp 1) g1 0 (cb p) _ ?_ Tryd.underlying23 rfl ?_ ?_ ?_ ?_ ?_
       · exact HG1.out.range
       · exact HID.out
       · rfl
       · rfl
       · rfl)
    | (clear tk3; with_reducible refine wpSeq_build 26 [(2, .tmp 3)] (hdC (0, zb32, p)) ?_ ?_ ?_ ?_
       · exact (built_head _).trans (fill_hk HPL.out)
       · rfl
       · rfl)
    | (clear tk4; with_reducible refine wpSeq_storeRow 26 (.tmp 2) (.tmp 4) g2 (hdC zeroH) (hdC (0, zb32, p)) ?_ ?_ ?_ ?_ ?_ ?_ ?_ ?_ ?_
       · exact HG2.out
       · rw [len_hdC HOK.out, len_hdC okH_zero]
       · exact info_hdC HOK.out
       · exact hdC_one _
       · rfl
       · rfl
       · rfl
       · rfl
       intro yE hs))
  exact bodyPost_ret (v := .agg (hdC (0, zb32, p)).toArray) (results_cell_row (by rfl) _ _ g2 26 _ (0, 0) _ rfl hs.blk Tryd.underlying26 rfl (by rw [List.size_toArray]; exact info_hdC HOK.out)) rfl ⟨rfl, HBW.out.trans (hs.only.below HGE.out HBW.out.size)⟩
set_option maxRecDepth 100000 in
set_option maxHeartbeats 8000000 in
theorem chWalk_any (h : HdT) (v : Value) (l : List SgT) (w : World) (hFo : ∀ (W : World) (h : HdT) (s : SgT) (vs : Value), KOk W → okH h → okS s → Reads W vs s.2 → Calls Tryd.prog 14 #[.agg (hdC h).toArray, .agg (sgC s vs).toArray] W fun e w' => e = .returned (.tuple #[.agg (hdC (followR h s).1).toArray, .int .i64 (followR h s).2]) ∧ Below W.heap.size W w') (hK : KOk w) (oh : okH h) (hl : ReadsS w v l) (hn : l.length < 1000000) :
    Calls Tryd.prog 17 #[.agg (hdC h).toArray, v] w fun e w' => e = .returned (.tuple #[.agg (hdC (walkR h l).1).toArray, .int .i64 ((walkR h l).2.1 : Int), .int .i64 (walkR h l).2.2]) ∧ Below w.heap.size w w' := by
  obtain ⟨⟨ad, cap, hv, hq1, hq2, hq3⟩, hok⟩ := id hl
  clear hq1 hq2 hq3
  obtain ⟨n, HN⟩ : ∃ n, Hid (n = l.length) := ⟨_, rfl⟩
  rw [← HN.out] at hv
  have HNL : Hid (n < 1000000) := by show _ < _; rw [HN.out]; exact hn
  have HL : Hid (ReadsS w v l) := hl
  have HOK : Hid (∀ s ∈ l, okS s) := hok
  have HOH : Hid (okH h) := oh
  have HCF : Hid (∀ (W : World) (g : HdT) (s : SgT) (vs : Value), Below w.heap.size w W → okH g → okS s → Reads W vs s.2 → Calls Tryd.prog 14 #[.agg (hdC g).toArray, .agg (sgC s vs).toArray] W fun e w' => e = .returned (.tuple #[.agg (hdC (followR g s).1).toArray, .int .i64 (followR g s).2]) ∧ Below W.heap.size W w') := fun W g s vs hh og os hr => hFo W g s vs (hK.below hh hK.lt) og os hr
  have HBW : Hid (Below w.heap.size w w) := Below.refl _ _
  obtain ⟨ch, HCH⟩ : ∃ c, Hid (c = hdC h) := ⟨_, rfl⟩
  rw [← HCH.out]
  subst hv
  clear hl hok oh hn hK hFo
  go_enter Tryd.func17, Tryd.ntmps17
  have tk0 : Hid True := trivial
  have tk1 : Hid True := trivial
  go_wp2_with (first
    | (clear tk0; with_reducible refine wpSeq_boxW 26 (.tmp 0) ch ?_ ?_ ?_ ?_
       · rfl
       · rfl
       · rfl
       intro g2 y1 nn
       have HG2 : Hid (Blk y1 g2 ch 26) := nn.blk
       have HGE2 : Hid (w.heap.size ≤ g2) := Nat.le_trans HBW.out.size nn.ge
       replace HBW : Hid (Below w.heap.size w y1) := HBW.out.trans (nn.below.mono HBW.out.size)
       clear nn)
    | (clear tk1; with_reducible refine wpSeq_allocH ?_ ?_ ?_
       · rfl
       · rfl
       intro g4 y2 nn
       have HN4 : Hid (g2 ≠ g4 ∧ w.heap.size ≤ g4) := by have h1 := HG2.out.lt; have h3 := nn.ge; have h4 := HBW.out.size; exact ⟨by omega, by omega⟩
       replace HG2 : Hid (Blk y2 g2 ch 26) := HG2.out.below nn.below HG2.out.lt
       have HG4 : Hid (Blk y2 g4 (hdC zeroH) 26) := nn.blk
       replace HBW : Hid (Below w.heap.size w y2) := HBW.out.trans (nn.below.mono HBW.out.size)
       clear nn))
  have HI : Hid (WkI w g2 g4 h y2) := ⟨by rw [← HCH.out]; exact HG2.out, HG4.out, HBW.out⟩
  clear HG2 HG4 HBW
  go_loopw [12] (fun i wr => ∃ (k : Nat) (g : HdT), k ≤ n ∧ i = .int .i64 (k : Int) ∧ okH g ∧ walkR h (l.take k) = (g, k, 0) ∧ WkI w g2 g4 g wr) (fun i _ => n - (intOf i).toNat)
  case atStart => exact ⟨0, h, by omega, rfl, HOH.out, rfl, HI.out⟩
  case round =>
    clear HI
    obtain ⟨k, g, hkn, rfl, hog, hwk, hI⟩ := hrel
    have HI : Hid (WkI w g2 g4 g wr) := hI
    have HWK : Hid (walkR h (l.take k) = (g, k, 0)) := hwk
    have HOG : Hid (okH g) := hog
    clear hI hwk hog
    by_cases hlt : k < n
    · have hi : (k : Int) < (n : Int) := by omega
      have f5 : IntKind.i64.wrap ((k : Int) + 1) = (k : Int) + 1 := by have := HNL.out; rw [IntKind.wrap_i64]; omega
      obtain ⟨b, off, cap', hv2, hat⟩ := HL.out.at (by rw [← HN.out]; omega)
      simp only [Value.slice.injEq] at hv2
      obtain ⟨rfl, hnl, rfl⟩ := hv2
      clear hnl
      obtain ⟨s, HS⟩ : ∃ s, Hid (s = l.getD k zeroS) := ⟨_, rfl⟩
      obtain ⟨vs, hsa, hrs⟩ := hat k (by rw [← HN.out]; exact hlt)
      rw [← HS.out] at hsa hrs
      have HOS : Hid (okS s) := hsa.ok
      have HSA : Hid (∀ W, Below w.heap.size w W → SgAt W b (off + k * 98) s vs) := fun W hh => hsa.below hh (Nat.le_refl _)
      have HRS : Hid (∀ W, Below w.heap.size w W → Reads W vs s.2) := fun W hh => hrs.below hh
      have HST : Hid (((followR g s).2 = 0 → walkR h (l.take (k + 1)) = ((followR g s).1, k + 1, 0)) ∧ ((followR g s).2 ≠ 0 → walkR h l = (zeroH, k, (followR g s).2))) := walk_take (by rw [← HN.out]; exact hlt) HWK.out s HS.out.symm
      have HOF : Hid (okH (followR g s).1) := follow_okH g s HOS.out
      obtain ⟨hf, HHF⟩ : ∃ c, Hid (c = (followR g s).1) := ⟨_, rfl⟩
      obtain ⟨ef, HEF⟩ : ∃ c, Hid (c = (followR g s).2) := ⟨_, rfl⟩
      have HC : Hid (∀ W, WkI w g2 g4 g W → Calls Tryd.prog 14 #[.agg (hdC g).toArray, .agg (sgC s vs).toArray] W fun e w' => e = .returned (.tuple #[.agg (hdC hf).toArray, .int .i64 ef]) ∧ Below W.heap.size W w') := fun W hW => by rw [HHF.out, HEF.out]; exact HCF.out W g s vs hW.bel HOG.out HOS.out (HRS.out W hW.bel)
      rw [← HHF.out] at HST HOF
      rw [← HEF.out] at HST
      clear hat hsa hrs HHF HEF HWK HS
      go_wp2
      go_cut [8, 9] from 15 to 23 (fun a b W => ∃ g8, a = .pointer (some ⟨g8, 0, none⟩) ∧ b = .int .i64 ef ∧ WkI w g2 g4 g W ∧ Blk W g8 (hdC hf) 26 ∧ g8 ≠ g2)
      case first =>
        refine wp_region_held_drew (S := Over (World.drew wr)) (by kernel_rfl) (Over.refl _) ?_
        intro hS
        replace HI : Hid (WkI w g2 g4 g (World.drew wr)) := HI.out.drew
        change wpAnyH _ _ _ _ _ _ _ _ (World.drew wr)
        generalize World.drew wr = y0 at *
        try simp only [Act.put, List.setIfInBounds_toArray, List.set_cons_zero, List.set_cons_succ]
        refine wpAnyH_take (i := 0) (v := .agg (hdC g).toArray) rfl (by kernel_rfl) (by kernel_rfl) (by kernel_rfl) (fun _ _ _ h => h) (Or.inl ⟨by rfl, fun wx hx => by exact loadHdAt _ g2 0 g ((HI.out.next hx).hd.hdAt HOG.out) rfl rfl⟩) hS ?_
        simp only [Act.put, List.getElem_toArray, List.getElem_cons_zero, List.setIfInBounds_toArray, List.set_cons_zero, List.set_cons_succ]
        refine wpAnyH_take (i := 1) (v := .slice (some ⟨b, off, none⟩) n cap) rfl (by kernel_rfl) (by kernel_rfl) (by kernel_rfl) (fun _ _ _ h => h) (Or.inl ⟨by rfl, fun wx hx => by simp [go_sem]⟩) hS ?_
        simp only [Act.put, List.getElem_toArray, List.getElem_cons_succ, List.getElem_cons_zero, List.setIfInBounds_toArray, List.set_cons_zero, List.set_cons_succ]
        refine wpAnyH_take (i := 2) (v := .int .i64 (k : Int)) rfl (by kernel_rfl) (by kernel_rfl) (by kernel_rfl) (fun _ _ _ h => h) (Or.inl ⟨by rfl, fun wx hx => by simp [go_sem]⟩) hS ?_
        simp only [Act.put, List.getElem_toArray, List.getElem_cons_succ, List.getElem_cons_zero, List.setIfInBounds_toArray, List.set_cons_zero, List.set_cons_succ]
        refine wpAnyH_take (i := 3) (v := .pointer (some ⟨b, off + k * 98, none⟩)) rfl (by kernel_rfl) (by kernel_rfl) (by kernel_rfl) (fun _ _ _ h => h) (Or.inl ⟨by rfl, fun wx hx => by exact idx98 b off cap n k hlt _ _ _ _ rfl rfl rfl _⟩) hS ?_
        simp only [Act.put, List.getElem_toArray, List.getElem_cons_succ, List.getElem_cons_zero, List.setIfInBounds_toArray, List.set_cons_zero, List.set_cons_succ]
        refine wpAnyH_take (i := 4) (v := .agg (sgC s vs).toArray) rfl (by kernel_rfl) (by kernel_rfl) (by kernel_rfl) (fun _ _ _ h => h) (Or.inl ⟨by rfl, fun wx hx => by exact loadSgAt _ b (off + k * 98) s vs (HSA.out _ (HI.out.next hx).bel) rfl rfl⟩) hS ?_
        simp only [Act.put, List.getElem_toArray, List.getElem_cons_succ, List.getElem_cons_zero, List.setIfInBounds_toArray, List.set_cons_zero, List.set_cons_succ]
        refine wpAnyH_pair 5 9 (by kernel_rfl) ?_ ?_
        · refine wpOp_en 5 (by rfl) (by rfl) (f := 14) (args := #[.agg (hdC g).toArray, .agg (sgC s vs).toArray]) (by simp [go_sem]) (HC.out _ (HI.out.next hS)) ?_
          rintro e z1 ⟨rfl, hb⟩
          replace hS := Over.more hS hb
          refine ⟨_, rfl, hS, ?_⟩
          clear hb
          simp only [Act.put, List.getElem_toArray, List.getElem_cons_succ, List.getElem_cons_zero, List.setIfInBounds_toArray, List.set_cons_zero, List.set_cons_succ]
          refine wpAnyH_take (i := 6) (v := .tuple #[.agg (hdC hf).toArray, .int .i64 ef]) rfl (by kernel_rfl) (by kernel_rfl) (by kernel_rfl) (fun _ _ _ h => h) (Or.inl ⟨by rfl, fun wx hx => by simp [go_sem]⟩) hS ?_
          simp only [Act.put, List.getElem_toArray, List.getElem_cons_succ, List.getElem_cons_zero, List.setIfInBounds_toArray, List.set_cons_zero, List.set_cons_succ]
          refine wpAnyH_take (i := 7) (v := .agg (hdC hf).toArray) rfl (by kernel_rfl) (by kernel_rfl) (by kernel_rfl) (fun _ _ _ h => h) (Or.inl ⟨by rfl, fun wx hx => by simp [go_sem]⟩) hS ?_
          simp only [Act.put, List.getElem_toArray, List.getElem_cons_succ, List.getElem_cons_zero, List.setIfInBounds_toArray, List.set_cons_zero, List.set_cons_succ]
          refine wpAnyH_take (i := 8) (v := .int .i64 ef) rfl (by kernel_rfl) (by kernel_rfl) (by kernel_rfl) (fun _ _ _ h => h) (Or.inl ⟨by rfl, fun wx hx => by simp [go_sem]⟩) hS ?_
          simp only [Act.put, List.getElem_toArray, List.getElem_cons_succ, List.getElem_cons_zero, List.setIfInBounds_toArray, List.set_cons_zero, List.set_cons_succ]
          have hb := below_alloc z1 (.cells (hdC zeroH).toArray 26)
          have hba : Blk (z1.alloc (.cells (hdC zeroH).toArray 26)) z1.heap.size (hdC zeroH) 26 := Blk.new _ _ _
          have hsz : y0.heap.size ≤ z1.heap.size := Below.size hS
          replace hS := Over.more hS hb
          refine wpAnyH_step 9 (.pointer (some ⟨z1.heap.size, 0, none⟩)) (z1.alloc (.cells (hdC zeroH).toArray 26)) (by kernel_rfl) rfl (by rfl) (alloc_hd _ _ rfl _) hS ?_
          simp only [Act.put, List.getElem_toArray, List.getElem_cons_succ, List.getElem_cons_zero, List.setIfInBounds_toArray, List.set_cons_zero, List.set_cons_succ]
          clear hb
          generalize z1.alloc (.cells (hdC zeroH).toArray 26) = z2 at *
          obtain ⟨ga, HGA⟩ : ∃ z, Hid (z = z1.heap.size) := ⟨_, rfl⟩
          have hgw : y0.heap.size ≤ ga := by rw [HGA.out]; exact hsz
          rw [← HGA.out] at hba ⊢
          clear HGA hsz
          refine wpAnyH_storeRow 10 26 (.tmp 8) (.tmp 22) ga (hdC zeroH) (hdC hf) hba (by rw [len_hdC HOF.out, len_hdC okH_zero]) (info_hdC HOF.out) (hdC_one _) (by kernel_rfl) rfl (by rfl) rfl rfl rfl ?_
          intro yE hs
          replace hS : Over y0 yE := Below.trans hS (hs.only.below hgw (Below.size hS))
          refine ⟨hS, ?_⟩
          simp only [Act.put, List.getElem_toArray, List.getElem_cons_succ, List.getElem_cons_zero]
          refine wpAnyH_take (i := 11) (v := .int .i64 ef) rfl (by kernel_rfl) (by kernel_rfl) (by kernel_rfl) (fun _ _ _ h => h) (Or.inl ⟨by rfl, fun wx hx => by simp [go_sem]⟩) hS ?_
          simp only [Act.put, List.getElem_toArray, List.getElem_cons_succ, List.getElem_cons_zero, List.setIfInBounds_toArray, List.set_cons_zero, List.set_cons_succ]
          refine wpAnyH_done (by kernel_rfl) ?_ _
          go_wp2
          go_meet
          case rel => exact ⟨ga, rfl, rfl, HI.out.next hS, hs.blk, by have h1 := HI.out.hd.lt; omega⟩
        · have hb := below_alloc y0 (.cells (hdC zeroH).toArray 26)
          have hba : Blk (y0.alloc (.cells (hdC zeroH).toArray 26)) y0.heap.size (hdC zeroH) 26 := Blk.new _ _ _
          have hsz : y0.heap.size ≤ y0.heap.size := Below.size hS
          replace hS := Over.more hS hb
          refine wpOp_vl 9 (.pointer (some ⟨y0.heap.size, 0, none⟩)) (y0.alloc (.cells (hdC zeroH).toArray 26)) (by rfl) (by rfl) (alloc_hd _ _ rfl _) ⟨hS, ?_⟩
          simp only [Act.put, List.getElem_toArray, List.getElem_cons_succ, List.getElem_cons_zero, List.setIfInBounds_toArray, List.set_cons_zero, List.set_cons_succ]
          clear hb
          generalize y0.alloc (.cells (hdC zeroH).toArray 26) = z1 at *
          obtain ⟨ga, HGA⟩ : ∃ z, Hid (z = y0.heap.size) := ⟨_, rfl⟩
          have hgw : y0.heap.size ≤ ga := by rw [HGA.out]; exact hsz
          rw [← HGA.out] at hba ⊢
          clear HGA hsz
          refine wpAnyH_enter 5 (by kernel_rfl) rfl (by rfl) (f := 14) (args := #[.agg (hdC g).toArray, .agg (sgC s vs).toArray]) (by simp [go_sem]) (HC.out _ (HI.out.next hS)) ?_
          rintro e z2 ⟨rfl, hb⟩
          replace hS := Over.more hS hb
          replace hba := hba.below hb hba.lt
          refine ⟨_, rfl, hS, ?_⟩
          clear hb
          simp only [Act.put, List.getElem_toArray, List.getElem_cons_succ, List.getElem_cons_zero, List.setIfInBounds_toArray, List.set_cons_zero, List.set_cons_succ]
          refine wpAnyH_take (i := 6) (v := .tuple #[.agg (hdC hf).toArray, .int .i64 ef]) rfl (by kernel_rfl) (by kernel_rfl) (by kernel_rfl) (fun _ _ _ h => h) (Or.inl ⟨by rfl, fun wx hx => by simp [go_sem]⟩) hS ?_
          simp only [Act.put, List.getElem_toArray, List.getElem_cons_succ, List.getElem_cons_zero, List.setIfInBounds_toArray, List.set_cons_zero, List.set_cons_succ]
          refine wpAnyH_take (i := 7) (v := .agg (hdC hf).toArray) rfl (by kernel_rfl) (by kernel_rfl) (by kernel_rfl) (fun _ _ _ h => h) (Or.inl ⟨by rfl, fun wx hx => by simp [go_sem]⟩) hS ?_
          simp only [Act.put, List.getElem_toArray, List.getElem_cons_succ, List.getElem_cons_zero, List.setIfInBounds_toArray, List.set_cons_zero, List.set_cons_succ]
          refine wpAnyH_take (i := 8) (v := .int .i64 ef) rfl (by kernel_rfl) (by kernel_rfl) (by kernel_rfl) (fun _ _ _ h => h) (Or.inl ⟨by rfl, fun wx hx => by simp [go_sem]⟩) hS ?_
          simp only [Act.put, List.getElem_toArray, List.getElem_cons_succ, List.getElem_cons_zero, List.setIfInBounds_toArray, List.set_cons_zero, List.set_cons_succ]
          refine wpAnyH_storeRow 10 26 (.tmp 8) (.tmp 22) ga (hdC zeroH) (hdC hf) hba (by rw [len_hdC HOF.out, len_hdC okH_zero]) (info_hdC HOF.out) (hdC_one _) (by kernel_rfl) rfl (by rfl) rfl rfl rfl ?_
          intro yE hs
          replace hS : Over y0 yE := Below.trans hS (hs.only.below hgw (Below.size hS))
          refine ⟨hS, ?_⟩
          simp only [Act.put, List.getElem_toArray, List.getElem_cons_succ, List.getElem_cons_zero]
          refine wpAnyH_take (i := 11) (v := .int .i64 ef) rfl (by kernel_rfl) (by kernel_rfl) (by kernel_rfl) (fun _ _ _ h => h) (Or.inl ⟨by rfl, fun wx hx => by simp [go_sem]⟩) hS ?_
          simp only [Act.put, List.getElem_toArray, List.getElem_cons_succ, List.getElem_cons_zero, List.setIfInBounds_toArray, List.set_cons_zero, List.set_cons_succ]
          refine wpAnyH_done (by kernel_rfl) ?_ _
          go_wp2
          go_meet
          case rel => exact ⟨ga, rfl, rfl, HI.out.next hS, hs.blk, by have h1 := HI.out.hd.lt; omega⟩
      case rest =>
        obtain ⟨g8, rfl, rfl, hI2, hb8, hne⟩ := hcut
        have HI2 : Hid (WkI w g2 g4 g wc) := hI2
        have HB8 : Hid (Blk wc g8 (hdC hf) 26) := hb8
        clear hI2 hb8 HI
        have tk2 : Hid True := trivial
        have tk3 : Hid True := trivial
        by_cases hef : ef = 0
        case pos =>
          have k1 : (ef == 0) = true := by rw [beq_iff_eq]; exact hef
          have k2 : (ef != 0) = false := by rw [bne, k1]; rfl
          have HEZ : Hid (ef = 0) := hef
          clear hef
          go_wp2_with (first
            | (clear tk2; with_reducible refine wpSeq_loadW 26 (.tmp 8) g8 0 (hdC hf) _ ?_ Tryd.underlying26 rfl ?_ ?_ ?_ ?_ ?_
               · exact HB8.out.range
               · exact info_hdC HOF.out
               · rfl
               · rfl
               · rfl)
            | (clear tk3; with_reducible refine wpSeq_storeRow 26 (.tmp 2) (.tmp 29) g2 (hdC g) (hdC hf) ?_ ?_ ?_ ?_ ?_ ?_ ?_ ?_ ?_
               · exact HI2.out.hd
               · rw [len_hdC HOF.out, len_hdC HOG.out]
               · exact info_hdC HOF.out
               · exact hdC_one _
               · rfl
               · rfl
               · rfl
               · rfl
               intro yF hs
               have HIF : Hid (WkI w g2 g4 hf yF) := ⟨hs.blk, HI2.out.rs.only hs.only (fun e => HN4.out.1 e.symm), HI2.out.bel.trans (hs.only.below HGE2.out HI2.out.bel.size)⟩
               clear hs HI2 HB8))
          go_roundw
          case rel => exact ⟨k + 1, hf, by omega, by simp, HOF.out, HST.out.1 HEZ.out, HIF.out⟩
          case measure => simp [intOf]; omega
        case neg =>
          have k1 : (ef == 0) = false := by rw [beq_eq_false_iff_ne]; exact hef
          have k2 : (ef != 0) = true := by rw [bne, k1]; rfl
          go_wp2_with (first
            | (clear tk2; with_reducible refine wpSeq_build 26 [] (hdC zeroH) ?_ ?_ ?_ ?_
               · exact built_head []
               · rfl
               · rfl)
            | (clear tk3; with_reducible refine wpSeq_storeRow 26 (.tmp 4) (.tmp 26) g4 (hdC zeroH) (hdC zeroH) ?_ ?_ ?_ ?_ ?_ ?_ ?_ ?_ ?_
               · exact HI2.out.rs
               · rfl
               · exact info_hdC okH_zero
               · exact hdC_one _
               · rfl
               · rfl
               · rfl
               · rfl
               intro yF hs))
          exact bodyPost_ret (results_row_tmp2 (by rfl) _ _ g4 _ rfl (var_hd hs.blk okH_zero)) rfl ⟨by rw [HST.out.2 hef]; rfl, HI2.out.bel.trans (hs.only.below HN4.out.2 HI2.out.bel.size)⟩
    · have hi : ¬ ((k : Int) < (n : Int)) := by omega
      have hk : k = n := by omega
      subst hk
      have HWL : Hid (walkR h l = (g, k, 0)) := by have h1 := HWK.out; rw [List.take_of_length_le (by have := HN.out; omega)] at h1; exact h1
      have tk2 : Hid True := trivial
      have tk3 : Hid True := trivial
      go_wp2_with (first
        | (clear tk2; with_reducible refine wpSeq_loadW 26 (.tmp 2) g2 0 (hdC g) _ ?_ Tryd.underlying26 rfl ?_ ?_ ?_ ?_ ?_
           · exact HI.out.hd.range
           · exact info_hdC HOG.out
           · rfl
           · rfl
           · rfl)
        | (clear tk3; with_reducible refine wpSeq_storeRow 26 (.tmp 4) (.tmp 31) g4 (hdC zeroH) (hdC g) ?_ ?_ ?_ ?_ ?_ ?_ ?_ ?_ ?_
           · exact HI.out.rs
           · rw [len_hdC HOG.out, len_hdC okH_zero]
           · exact info_hdC HOG.out
           · exact hdC_one _
           · rfl
           · rfl
           · rfl
           · rfl
           intro yF hs))
      exact bodyPost_ret (results_row_tmp2 (by rfl) _ _ g4 _ rfl (var_hd hs.blk HOG.out)) rfl ⟨by rw [HWL.out]; rfl, HI.out.bel.trans (hs.only.below HN4.out.2 HI.out.bel.size)⟩
end Go.Proofs.YtfbdnhadcnmfoaaDoor
/- The walk of chain's Follow (layer 11). -/
namespace Go.Proofs.YtfbdnhadcnmfoaaDoor
open Go.RowKit Go.Shelf
set_option maxRecDepth 100000
set_option maxRecDepth 100000 in
set_option maxHeartbeats 8000000 in
theorem chFollow_any (h : HdT) (s : SgT) (vs : Value) (w : World) (hK : KOk w) (oh : okH h) (os : okS s) (hr : Reads w vs s.2) :
    Calls Tryd.prog 14 #[.agg (hdC h).toArray, .agg (sgC s vs).toArray] w fun e w' => e = .returned (.tuple #[.agg (hdC (followR h s).1).toArray, .int .i64 (followR h s).2]) ∧ Below w.heap.size w w' := by
  obtain ⟨ads, cps, hvs, hqs⟩ := id hr
  clear hqs
  obtain ⟨ns, HNS⟩ : ∃ n, Hid (n = s.2.length) := ⟨_, rfl⟩
  rw [← HNS.out] at hvs
  have HR : Hid (Reads w vs s.2) := hr
  subst hvs
  obtain ⟨ch, HCH⟩ : ∃ c, Hid (c = hdC h) := ⟨_, rfl⟩
  obtain ⟨csg, HCS⟩ : ∃ c, Hid (c = sgC s (.slice ads ns cps)) := ⟨_, rfl⟩
  obtain ⟨n, HNN⟩ : ∃ n, Hid (n = h.1) := ⟨_, rfl⟩
  obtain ⟨m, HMM⟩ : ∃ n, Hid (n = s.1.1) := ⟨_, rfl⟩
  rw [← HCH.out, ← HCS.out]
  have HOH : Hid (okH h) := oh
  have HOS : Hid (okS s) := os
  have HIH : Hid ((Tryd.prog.info? 26).map (·.size) = some ch.length) := by show _ = _; rw [HCH.out]; exact info_hdC HOH.out
  have HBW : Hid (Below w.heap.size w w) := Below.refl _ _
  have hm0 : (m : Int) < 18446744073709551616 := by have := os.2.2.2; rw [HMM.out]; omega
  have HKW : Hid (∀ W : World, Below w.heap.size w W → KOk W) := fun W hh => hK.below hh hK.lt
  clear oh os hr hK
  by_cases h64 : 64 ≤ n
  · have HFR : Hid (followR h s = (zeroH, 10)) := by show _ = _; unfold followR; rw [if_pos (Or.inl (by rw [← HNN.out]; exact h64))]
    have HSP : Hid (∀ W : World, Calls Tryd.prog 23 #[.agg ch.toArray] W fun e w' => e = .returned (.bool true) ∧ Below W.heap.size W w') := fun W => by have := chSpent_any h W; rw [← HCH.out, ← HNN.out, decide_eq_true h64] at this; exact this
    have c64 : (64 : Int) ≤ (n : Int) := by omega
    have d64 : decide ((64 : Int) ≤ (n : Int)) = true := decide_eq_true c64
    clear hm0
    go_enter Tryd.func14, Tryd.ntmps14
    have tk0 : Hid True := trivial
    have tk1 : Hid True := trivial
    have tk2 : Hid True := trivial
    have tk3 : Hid True := trivial
    have tk4 : Hid True := trivial
    have tk90 : Hid True := trivial
    have tk91 : Hid True := trivial
    go_wp2_with (first
    | (clear tk0; with_reducible refine wpSeq_boxW 26 (.tmp 0) ch ?_ ?_ ?_ ?_
       · rfl
       · rfl
       · rfl
       intro g2 y1 nn
       have HG2 : Hid (Blk y1 g2 ch 26) := nn.blk
       replace HBW : Hid (Below w.heap.size w y1) := HBW.out.trans (nn.below.mono HBW.out.size)
       clear nn)
    | (clear tk1; with_reducible refine wpSeq_boxW 31 (.tmp 1) csg ?_ ?_ ?_ ?_
       · rfl
       · rfl
       · rfl
       intro g3 y2 nn
       replace HG2 : Hid (Blk y2 g2 ch 26) := HG2.out.below nn.below HG2.out.lt
       have HG3 : Hid (Blk y2 g3 csg 31) := nn.blk
       replace HBW : Hid (Below w.heap.size w y2) := HBW.out.trans (nn.below.mono HBW.out.size)
       clear nn)
    | (clear tk2; with_reducible refine wpSeq_allocH ?_ ?_ ?_
       · rfl
       · rfl
       intro g4 y2b nn
       have HN4 : Hid (g2 ≠ g4 ∧ g3 ≠ g4 ∧ w.heap.size ≤ g4) := by have h1 := HG2.out.lt; have h2 := HG3.out.lt; have h3 := nn.ge; have h4 := HBW.out.size; exact ⟨by omega, by omega, by omega⟩
       replace HG2 : Hid (Blk y2b g2 ch 26) := HG2.out.below nn.below HG2.out.lt
       replace HG3 : Hid (Blk y2b g3 csg 31) := HG3.out.below nn.below HG3.out.lt
       have HG4 : Hid (Blk y2b g4 (hdC zeroH) 26) := nn.blk
       replace HBW : Hid (Below w.heap.size w y2b) := HBW.out.trans (nn.below.mono HBW.out.size)
       clear nn)
    | (clear tk90; with_reducible refine wpSeq_loadW 26 (.tmp 2) g2 0 ch _ ?_ Tryd.underlying26 rfl ?_ ?_ ?_ ?_ ?_
       · exact HG2.out.range
       · exact HIH.out
       · rfl
       · rfl
       · rfl)
    | (clear tk91; go_at_call 23; refine (HSP.out y2b).mono ?_; rintro e y3 ⟨rfl, hbz⟩
       replace HG2 : Hid (Blk y3 g2 ch 26) := HG2.out.below hbz HG2.out.lt
       replace HG3 : Hid (Blk y3 g3 csg 31) := HG3.out.below hbz HG3.out.lt
       replace HG4 : Hid (Blk y3 g4 (hdC zeroH) 26) := HG4.out.below hbz HG4.out.lt
       replace HBW : Hid (Below w.heap.size w y3) := HBW.out.trans (hbz.mono HBW.out.size)
       have ce : y3.cell? ⟨g2, 0, none⟩ = some (.int .u64 (n : Int)) := by have := HG2.out.cell 0; rw [HCH.out] at this; rw [HNN.out]; exact this
       have cm : y3.cell? ⟨g3, 0, none⟩ = some (.int .u64 (m : Int)) := by have := HG3.out.cell 0; rw [HCS.out] at this; rw [HMM.out]; exact this
       clear hbz)
    | (clear tk3; with_reducible refine wpSeq_build 26 [] (hdC zeroH) ?_ ?_ ?_ ?_
       · exact built_head []
       · rfl
       · rfl)
    | (clear tk4; with_reducible refine wpSeq_storeRow 26 (.tmp 4) (.tmp 18) g4 (hdC zeroH) (hdC zeroH) ?_ ?_ ?_ ?_ ?_ ?_ ?_ ?_ ?_
       · exact HG4.out
       · rfl
       · exact info_hdC okH_zero
       · exact hdC_one _
       · rfl
       · rfl
       · rfl
       · rfl
       intro y4 hs))
    exact bodyPost_ret (results_row_tmp (by rfl) _ _ g4 _ rfl (var_hd hs.blk okH_zero)) rfl ⟨by rw [HFR.out]; rfl, HBW.out.trans (hs.only.below HN4.out.2.2 HBW.out.size)⟩
  have HSP : Hid (∀ W : World, Calls Tryd.prog 23 #[.agg ch.toArray] W fun e w' => e = .returned (.bool false) ∧ Below W.heap.size W w') := fun W => by have := chSpent_any h W; rw [← HCH.out, ← HNN.out, decide_eq_false h64] at this; exact this
  have hn64 : n < 64 := by omega
  have c64 : ¬ ((64 : Int) ≤ (n : Int)) := by omega
  have d64 : decide ((64 : Int) ≤ (n : Int)) = false := decide_eq_false c64
  have f1 : IntKind.u64.wrap ((n : Int) + 1) = (n : Int) + 1 := by rw [IntKind.wrap_u64]; omega
  by_cases hep : m = n + 1
  case neg =>
    have HFR : Hid (followR h s = (zeroH, 10)) := by show _ = _; unfold followR; rw [if_pos (Or.inr (by rw [← HNN.out, ← HMM.out]; exact hep))]
    have e1 : ((m : Int) == (n : Int) + 1) = false := by rw [beq_eq_false_iff_ne]; omega
    have e2 : ((m : Int) != (n : Int) + 1) = true := by rw [bne, e1]; rfl
    clear hm0 hep h64
    go_enter Tryd.func14, Tryd.ntmps14
    have tk0 : Hid True := trivial
    have tk1 : Hid True := trivial
    have tk2 : Hid True := trivial
    have tk3 : Hid True := trivial
    have tk4 : Hid True := trivial
    have tk90 : Hid True := trivial
    have tk91 : Hid True := trivial
    go_wp2_with (first
    | (clear tk0; with_reducible refine wpSeq_boxW 26 (.tmp 0) ch ?_ ?_ ?_ ?_
       · rfl
       · rfl
       · rfl
       intro g2 y1 nn
       have HG2 : Hid (Blk y1 g2 ch 26) := nn.blk
       replace HBW : Hid (Below w.heap.size w y1) := HBW.out.trans (nn.below.mono HBW.out.size)
       clear nn)
    | (clear tk1; with_reducible refine wpSeq_boxW 31 (.tmp 1) csg ?_ ?_ ?_ ?_
       · rfl
       · rfl
       · rfl
       intro g3 y2 nn
       replace HG2 : Hid (Blk y2 g2 ch 26) := HG2.out.below nn.below HG2.out.lt
       have HG3 : Hid (Blk y2 g3 csg 31) := nn.blk
       replace HBW : Hid (Below w.heap.size w y2) := HBW.out.trans (nn.below.mono HBW.out.size)
       clear nn)
    | (clear tk2; with_reducible refine wpSeq_allocH ?_ ?_ ?_
       · rfl
       · rfl
       intro g4 y2b nn
       have HN4 : Hid (g2 ≠ g4 ∧ g3 ≠ g4 ∧ w.heap.size ≤ g4) := by have h1 := HG2.out.lt; have h2 := HG3.out.lt; have h3 := nn.ge; have h4 := HBW.out.size; exact ⟨by omega, by omega, by omega⟩
       replace HG2 : Hid (Blk y2b g2 ch 26) := HG2.out.below nn.below HG2.out.lt
       replace HG3 : Hid (Blk y2b g3 csg 31) := HG3.out.below nn.below HG3.out.lt
       have HG4 : Hid (Blk y2b g4 (hdC zeroH) 26) := nn.blk
       replace HBW : Hid (Below w.heap.size w y2b) := HBW.out.trans (nn.below.mono HBW.out.size)
       clear nn)
    | (clear tk90; with_reducible refine wpSeq_loadW 26 (.tmp 2) g2 0 ch _ ?_ Tryd.underlying26 rfl ?_ ?_ ?_ ?_ ?_
       · exact HG2.out.range
       · exact HIH.out
       · rfl
       · rfl
       · rfl)
    | (clear tk91; go_at_call 23; refine (HSP.out y2b).mono ?_; rintro e y3 ⟨rfl, hbz⟩
       replace HG2 : Hid (Blk y3 g2 ch 26) := HG2.out.below hbz HG2.out.lt
       replace HG3 : Hid (Blk y3 g3 csg 31) := HG3.out.below hbz HG3.out.lt
       replace HG4 : Hid (Blk y3 g4 (hdC zeroH) 26) := HG4.out.below hbz HG4.out.lt
       replace HBW : Hid (Below w.heap.size w y3) := HBW.out.trans (hbz.mono HBW.out.size)
       have ce : y3.cell? ⟨g2, 0, none⟩ = some (.int .u64 (n : Int)) := by have := HG2.out.cell 0; rw [HCH.out] at this; rw [HNN.out]; exact this
       have cm : y3.cell? ⟨g3, 0, none⟩ = some (.int .u64 (m : Int)) := by have := HG3.out.cell 0; rw [HCS.out] at this; rw [HMM.out]; exact this
       clear hbz)
    | (clear tk3; with_reducible refine wpSeq_build 26 [] (hdC zeroH) ?_ ?_ ?_ ?_
       · exact built_head []
       · rfl
       · rfl)
    | (clear tk4; with_reducible refine wpSeq_storeRow 26 (.tmp 4) (.tmp 18) g4 (hdC zeroH) (hdC zeroH) ?_ ?_ ?_ ?_ ?_ ?_ ?_ ?_ ?_
       · exact HG4.out
       · rfl
       · exact info_hdC okH_zero
       · exact hdC_one _
       · rfl
       · rfl
       · rfl
       · rfl
       intro y4 hs))
    exact bodyPost_ret (results_row_tmp (by rfl) _ _ g4 _ rfl (var_hd hs.blk okH_zero)) rfl ⟨by rw [HFR.out]; rfl, HBW.out.trans (hs.only.below HN4.out.2.2 HBW.out.size)⟩
  case pos =>
    have e1 : ((m : Int) == (n : Int) + 1) = true := by rw [beq_iff_eq]; omega
    have e2 : ((m : Int) != (n : Int) + 1) = false := by rw [bne, e1]; rfl
    have HEP : Hid (¬ (64 ≤ h.1 ∨ s.1.1 ≠ h.1 + 1)) := by show ¬ _; rw [← HNN.out, ← HMM.out]; rintro (h1 | h1); exact h64 h1; exact h1 hep
    obtain ⟨pv, HPV⟩ : ∃ c, Hid (c = s.1.2.1) := ⟨_, rfl⟩
    obtain ⟨nx, HNX⟩ : ∃ c, Hid (c = s.1.2.2.2) := ⟨_, rfl⟩
    obtain ⟨hr0, HHR⟩ : ∃ c, Hid (c = h.2.1) := ⟨_, rfl⟩
    obtain ⟨ky, HKY⟩ : ∃ c, Hid (c = h.2.2) := ⟨_, rfl⟩
    have HLN : Hid (pv.length = 32 ∧ nx.length = 32 ∧ hr0.length = 32 ∧ ky.length = 32) := by rw [HPV.out, HNX.out, HHR.out, HKY.out]; exact ⟨HOS.out.1, HOS.out.2.2.1, HOH.out.1, HOH.out.2.1⟩
    obtain ⟨o, HO⟩ : ∃ o, Hid (o = decide (pv = hr0)) := ⟨_, rfl⟩
    have heq : ∀ wx : World, (Op.equalIn 10000 23 (.agg (cb pv).toArray) (.agg (cb hr0).toArray)).run Tryd.prog wx = .ok o wx := fun wx => by rw [HO.out]; exact eq_dig pv hr0 HLN.out.1 HLN.out.2.2.1 wx
    obtain ⟨rt, HRT⟩ : ∃ c, Hid (c = rtC s) := ⟨_, rfl⟩
    obtain ⟨rb, HRB⟩ : ∃ c, Hid (c = rbS s) := ⟨_, rfl⟩
    have HLB : Hid (rb.length = 105) := by show _ = _; rw [HRB.out]; exact len_rbS HOS.out
    obtain ⟨dg, HDG⟩ : ∃ c, Hid (c = dig rb) := ⟨_, rfl⟩
    have HDL : Hid (dg.length = 32) := by show _ = _; rw [HDG.out]; exact len_dig' _
    obtain ⟨ck, HCK⟩ : ∃ c, Hid (c = checkE ky rb s.2) := ⟨_, rfl⟩
    have HC1 : Hid (∀ W : World, Below w.heap.size w W → Calls Tryd.prog 26 #[.agg rt.toArray] W fun e w' => ∃ v, e = .returned v ∧ Reads w' v rb ∧ Below W.heap.size W w') := fun W hh => by rw [HRT.out, HRB.out]; exact tRoot_any _ _ _ _ W ⟨HOS.out.1, HOS.out.2.1, HOS.out.2.2.1, HOS.out.2.2.2⟩
    have HC2 : Hid (∀ (W : World) (v : Value), Below w.heap.size w W → Reads W v rb → Calls Tryd.prog 29 #[.agg (cb ky).toArray, v, .slice ads ns cps] W fun e w' => e = .returned (.int .i64 ck) ∧ Below W.heap.size W w') := fun W v hh hv => by rw [HCK.out]; exact lCheck_any ky v _ rb s.2 W (HKW.out W hh) HLN.out.2.2.2 hv (HR.out.below hh) (by rw [HLB.out]; decide)
    have HC3 : Hid (∀ (W : World) (v : Value), Below w.heap.size w W → Reads W v rb → Calls Tryd.prog 30 #[v] W fun e w' => e = .returned (.agg (cb dg).toArray) ∧ Below W.heap.size W w') := fun W v hh hv => by rw [HDG.out]; exact tOf_any v rb W (HKW.out W hh) hv (by rw [HLB.out]; omega)
    have HFR : Hid (followR h s = if o = true ∧ ck = 0 then ((m, dg, nx), 0) else (zeroH, 15)) := by
      show _ = _
      unfold followR
      rw [if_neg HEP.out, HMM.out, HDG.out, HNX.out, HRB.out, HCK.out, HRB.out, HKY.out, HO.out, HPV.out, HHR.out]
      by_cases q1 : s.1.2.1 = h.2.1
      · by_cases q2 : checkE h.2.2 (rbS s) s.2 = 0
        · rw [if_neg (by rintro (k | k); exact k q1; exact k q2), if_pos ⟨decide_eq_true q1, q2⟩]
        · rw [if_pos (Or.inr q2), if_neg (fun k => q2 k.2)]
      · rw [if_pos (Or.inl q1), if_neg (fun k => q1 (of_decide_eq_true k.1))]
    have HTC : Hid (∀ (W : World) (g : Nat), Blk W g ch 26 → HdAt W g 0 h) := fun W g hg => by rw [HCH.out] at hg; exact hg.hdAt HOH.out
    have HTS : Hid (∀ (W : World) (g : Nat), Blk W g csg 31 → SgAt W g 0 s (.slice ads ns cps)) := fun W g hg => by rw [HCS.out] at hg; exact hg.sgAt HOS.out
    clear hep h64 hm0 HEP HO HDG HCK HRB
    have HIR : Hid ((Tryd.prog.info? 28).map (·.size) = some rt.length) := by show _ = _; rw [HRT.out]; exact info_rtC HOS.out
    cases o with
    | false =>
      go_enter Tryd.func14, Tryd.ntmps14
      have tk0 : Hid True := trivial
      have tk1 : Hid True := trivial
      have tk2 : Hid True := trivial
      have tk90 : Hid True := trivial
      have tk91 : Hid True := trivial
      have tk30 : Hid True := trivial
      have tk31 : Hid True := trivial
      have tk32 : Hid True := trivial
      have tk33 : Hid True := trivial
      have tk34 : Hid True := trivial
      have tk35 : Hid True := trivial
      go_wp2_with (first
        | (clear tk0; with_reducible refine wpSeq_boxW 26 (.tmp 0) ch ?_ ?_ ?_ ?_
           · rfl
           · rfl
           · rfl
           intro g2 y1 nn
           have HG2 : Hid (Blk y1 g2 ch 26) := nn.blk
           replace HBW : Hid (Below w.heap.size w y1) := HBW.out.trans (nn.below.mono HBW.out.size)
           clear nn)
        | (clear tk1; with_reducible refine wpSeq_boxW 31 (.tmp 1) csg ?_ ?_ ?_ ?_
           · rfl
           · rfl
           · rfl
           intro g3 y2 nn
           replace HG2 : Hid (Blk y2 g2 ch 26) := HG2.out.below nn.below HG2.out.lt
           have HG3 : Hid (Blk y2 g3 csg 31) := nn.blk
           replace HBW : Hid (Below w.heap.size w y2) := HBW.out.trans (nn.below.mono HBW.out.size)
           clear nn)
        | (clear tk2; with_reducible refine wpSeq_allocH ?_ ?_ ?_
           · rfl
           · rfl
           intro g4 y2b nn
           have HN4 : Hid (g2 ≠ g4 ∧ g3 ≠ g4 ∧ w.heap.size ≤ g4) := by have h1 := HG2.out.lt; have h2 := HG3.out.lt; have h3 := nn.ge; have h4 := HBW.out.size; exact ⟨by omega, by omega, by omega⟩
           replace HG2 : Hid (Blk y2b g2 ch 26) := HG2.out.below nn.below HG2.out.lt
           replace HG3 : Hid (Blk y2b g3 csg 31) := HG3.out.below nn.below HG3.out.lt
           have HG4 : Hid (Blk y2b g4 (hdC zeroH) 26) := nn.blk
           replace HBW : Hid (Below w.heap.size w y2b) := HBW.out.trans (nn.below.mono HBW.out.size)
           clear nn)
        | (clear tk90; with_reducible refine wpSeq_loadW 26 (.tmp 2) g2 0 ch _ ?_ Tryd.underlying26 rfl ?_ ?_ ?_ ?_ ?_
           · exact HG2.out.range
           · exact HIH.out
           · rfl
           · rfl
           · rfl)
        | (clear tk91; go_at_call 23; refine (HSP.out y2b).mono ?_; rintro e y3 ⟨rfl, hbz⟩
           replace HG2 : Hid (Blk y3 g2 ch 26) := HG2.out.below hbz HG2.out.lt
           replace HG3 : Hid (Blk y3 g3 csg 31) := HG3.out.below hbz HG3.out.lt
           replace HG4 : Hid (Blk y3 g4 (hdC zeroH) 26) := HG4.out.below hbz HG4.out.lt
           replace HBW : Hid (Below w.heap.size w y3) := HBW.out.trans (hbz.mono HBW.out.size)
           have ce : y3.cell? ⟨g2, 0, none⟩ = some (.int .u64 (n : Int)) := by have := HG2.out.cell 0; rw [HCH.out] at this; rw [HNN.out]; exact this
           have cm : y3.cell? ⟨g3, 0, none⟩ = some (.int .u64 (m : Int)) := by have := HG3.out.cell 0; rw [HCS.out] at this; rw [HMM.out]; exact this
           clear hbz)
        | (clear tk30; with_reducible refine wpSeq_loadW 28 (.tmp 19) g3 0 rt _ ?_ Tryd.underlying28 rfl ?_ ?_ ?_ ?_ ?_
           · exact (by rw [HRT.out]; exact (HTS.out _ _ HG3.out).root)
           · exact HIR.out
           · rfl
           · rfl
           · rfl)
        | (clear tk31; go_at_call 26; refine (HC1.out y3 HBW.out).mono ?_; rintro e y31 ⟨vb, rfl, hvb, hbz⟩
           clear ce cm
           replace HG2 : Hid (Blk y31 g2 ch 26) := HG2.out.below hbz HG2.out.lt
           replace HG3 : Hid (Blk y31 g3 csg 31) := HG3.out.below hbz HG3.out.lt
           replace HG4 : Hid (Blk y31 g4 (hdC zeroH) 26) := HG4.out.below hbz HG4.out.lt
           replace HBW : Hid (Below w.heap.size w y31) := HBW.out.trans (hbz.mono HBW.out.size)
           have HVB : Hid (Reads y31 vb rb) := hvb
           have cv : y31.cell? ⟨g3, 97, none⟩ = some (.slice ads ns cps) := by have := (HTS.out _ _ HG3.out).sig; rwa [Nat.zero_add] at this
           clear hbz hvb)
        | (clear tk32; with_reducible refine wpSeq_loadAt (.tmp 23) g3 1 pv ?_ ?_ ?_ ?_ ?_ ?_
           · exact HLN.out.1
           · rw [HPV.out]; exact (HTS.out _ _ HG3.out).prev
           · rfl
           · rfl
           · rfl)
        | (clear tk33; with_reducible refine wpSeq_loadAt (.tmp 25) g2 1 hr0 ?_ ?_ ?_ ?_ ?_ ?_
           · exact HLN.out.2.2.1
           · rw [HHR.out]; exact (HTC.out _ _ HG2.out).rt
           · rfl
           · rfl
           · rfl)
        | (clear tk34; with_reducible refine wpSeq_build 26 [] (hdC zeroH) ?_ ?_ ?_ ?_
           · exact built_head []
           · rfl
           · rfl)
        | (clear tk35; with_reducible refine wpSeq_storeRow 26 (.tmp 4) (.tmp 37) g4 (hdC zeroH) (hdC zeroH) ?_ ?_ ?_ ?_ ?_ ?_ ?_ ?_ ?_
           · exact HG4.out
           · rfl
           · exact info_hdC okH_zero
           · exact hdC_one _
           · rfl
           · rfl
           · rfl
           · rfl
           intro y99 hs))
      exact bodyPost_ret (results_row_tmp (by rfl) _ _ g4 _ rfl (var_hd hs.blk okH_zero)) rfl ⟨by rw [HFR.out, if_neg (fun k => by cases k.1)]; rfl, HBW.out.trans (hs.only.below HN4.out.2.2 HBW.out.size)⟩
    | true =>
      by_cases hck : ck = 0
      case neg =>
        have k1 : (ck == 0) = false := by rw [beq_eq_false_iff_ne]; exact hck
        have k2 : (ck != 0) = true := by rw [bne, k1]; rfl
        go_enter Tryd.func14, Tryd.ntmps14
        have tk0 : Hid True := trivial
        have tk1 : Hid True := trivial
        have tk2 : Hid True := trivial
        have tk90 : Hid True := trivial
        have tk91 : Hid True := trivial
        have tk30 : Hid True := trivial
        have tk31 : Hid True := trivial
        have tk32 : Hid True := trivial
        have tk33 : Hid True := trivial
        have tk34 : Hid True := trivial
        have tk35 : Hid True := trivial
        have tk36 : Hid True := trivial
        have tk37 : Hid True := trivial
        go_wp2_with (first
          | (clear tk0; with_reducible refine wpSeq_boxW 26 (.tmp 0) ch ?_ ?_ ?_ ?_
             · rfl
             · rfl
             · rfl
             intro g2 y1 nn
             have HG2 : Hid (Blk y1 g2 ch 26) := nn.blk
             replace HBW : Hid (Below w.heap.size w y1) := HBW.out.trans (nn.below.mono HBW.out.size)
             clear nn)
          | (clear tk1; with_reducible refine wpSeq_boxW 31 (.tmp 1) csg ?_ ?_ ?_ ?_
             · rfl
             · rfl
             · rfl
             intro g3 y2 nn
             replace HG2 : Hid (Blk y2 g2 ch 26) := HG2.out.below nn.below HG2.out.lt
             have HG3 : Hid (Blk y2 g3 csg 31) := nn.blk
             replace HBW : Hid (Below w.heap.size w y2) := HBW.out.trans (nn.below.mono HBW.out.size)
             clear nn)
          | (clear tk2; with_reducible refine wpSeq_allocH ?_ ?_ ?_
             · rfl
             · rfl
             intro g4 y2b nn
             have HN4 : Hid (g2 ≠ g4 ∧ g3 ≠ g4 ∧ w.heap.size ≤ g4) := by have h1 := HG2.out.lt; have h2 := HG3.out.lt; have h3 := nn.ge; have h4 := HBW.out.size; exact ⟨by omega, by omega, by omega⟩
             replace HG2 : Hid (Blk y2b g2 ch 26) := HG2.out.below nn.below HG2.out.lt
             replace HG3 : Hid (Blk y2b g3 csg 31) := HG3.out.below nn.below HG3.out.lt
             have HG4 : Hid (Blk y2b g4 (hdC zeroH) 26) := nn.blk
             replace HBW : Hid (Below w.heap.size w y2b) := HBW.out.trans (nn.below.mono HBW.out.size)
             clear nn)
          | (clear tk90; with_reducible refine wpSeq_loadW 26 (.tmp 2) g2 0 ch _ ?_ Tryd.underlying26 rfl ?_ ?_ ?_ ?_ ?_
             · exact HG2.out.range
             · exact HIH.out
             · rfl
             · rfl
             · rfl)
          | (clear tk91; go_at_call 23; refine (HSP.out y2b).mono ?_; rintro e y3 ⟨rfl, hbz⟩
             replace HG2 : Hid (Blk y3 g2 ch 26) := HG2.out.below hbz HG2.out.lt
             replace HG3 : Hid (Blk y3 g3 csg 31) := HG3.out.below hbz HG3.out.lt
             replace HG4 : Hid (Blk y3 g4 (hdC zeroH) 26) := HG4.out.below hbz HG4.out.lt
             replace HBW : Hid (Below w.heap.size w y3) := HBW.out.trans (hbz.mono HBW.out.size)
             have ce : y3.cell? ⟨g2, 0, none⟩ = some (.int .u64 (n : Int)) := by have := HG2.out.cell 0; rw [HCH.out] at this; rw [HNN.out]; exact this
             have cm : y3.cell? ⟨g3, 0, none⟩ = some (.int .u64 (m : Int)) := by have := HG3.out.cell 0; rw [HCS.out] at this; rw [HMM.out]; exact this
             clear hbz)
          | (clear tk30; with_reducible refine wpSeq_loadW 28 (.tmp 19) g3 0 rt _ ?_ Tryd.underlying28 rfl ?_ ?_ ?_ ?_ ?_
             · exact (by rw [HRT.out]; exact (HTS.out _ _ HG3.out).root)
             · exact HIR.out
             · rfl
             · rfl
             · rfl)
          | (clear tk31; go_at_call 26; refine (HC1.out y3 HBW.out).mono ?_; rintro e y31 ⟨vb, rfl, hvb, hbz⟩
             clear ce cm
             replace HG2 : Hid (Blk y31 g2 ch 26) := HG2.out.below hbz HG2.out.lt
             replace HG3 : Hid (Blk y31 g3 csg 31) := HG3.out.below hbz HG3.out.lt
             replace HG4 : Hid (Blk y31 g4 (hdC zeroH) 26) := HG4.out.below hbz HG4.out.lt
             replace HBW : Hid (Below w.heap.size w y31) := HBW.out.trans (hbz.mono HBW.out.size)
             have HVB : Hid (Reads y31 vb rb) := hvb
             have cv : y31.cell? ⟨g3, 97, none⟩ = some (.slice ads ns cps) := by have := (HTS.out _ _ HG3.out).sig; rwa [Nat.zero_add] at this
             clear hbz hvb)
          | (clear tk32; with_reducible refine wpSeq_loadAt (.tmp 23) g3 1 pv ?_ ?_ ?_ ?_ ?_ ?_
             · exact HLN.out.1
             · rw [HPV.out]; exact (HTS.out _ _ HG3.out).prev
             · rfl
             · rfl
             · rfl)
          | (clear tk33; with_reducible refine wpSeq_loadAt (.tmp 25) g2 1 hr0 ?_ ?_ ?_ ?_ ?_ ?_
             · exact HLN.out.2.2.1
             · rw [HHR.out]; exact (HTC.out _ _ HG2.out).rt
             · rfl
             · rfl
             · rfl)
          | (clear tk34; with_reducible refine wpSeq_loadAt (.tmp 29) g2 33 ky ?_ ?_ ?_ ?_ ?_ ?_
             · exact HLN.out.2.2.2
             · rw [HKY.out]; exact (HTC.out _ _ HG2.out).ky
             · rfl
             · rfl
             · rfl)
          | (clear tk35; go_at_call 29; refine (HC2.out y31 vb HBW.out HVB.out).mono ?_; rintro e y32 ⟨rfl, hbz⟩
             clear cv
             replace HG2 : Hid (Blk y32 g2 ch 26) := HG2.out.below hbz HG2.out.lt
             replace HG3 : Hid (Blk y32 g3 csg 31) := HG3.out.below hbz HG3.out.lt
             replace HG4 : Hid (Blk y32 g4 (hdC zeroH) 26) := HG4.out.below hbz HG4.out.lt
             replace HBW : Hid (Below w.heap.size w y32) := HBW.out.trans (hbz.mono HBW.out.size)
             replace HVB : Hid (Reads y32 vb rb) := HVB.out.below hbz
             clear hbz )
          | (clear tk36; with_reducible refine wpSeq_build 26 [] (hdC zeroH) ?_ ?_ ?_ ?_
             · exact built_head []
             · rfl
             · rfl)
          | (clear tk37; with_reducible refine wpSeq_storeRow 26 (.tmp 4) (.tmp 37) g4 (hdC zeroH) (hdC zeroH) ?_ ?_ ?_ ?_ ?_ ?_ ?_ ?_ ?_
             · exact HG4.out
             · rfl
             · exact info_hdC okH_zero
             · exact hdC_one _
             · rfl
             · rfl
             · rfl
             · rfl
             intro y99 hs))
        exact bodyPost_ret (results_row_tmp (by rfl) _ _ g4 _ rfl (var_hd hs.blk okH_zero)) rfl ⟨by rw [HFR.out, if_neg (fun k => hck k.2)]; rfl, HBW.out.trans (hs.only.below HN4.out.2.2 HBW.out.size)⟩
      case pos =>
        have k1 : (ck == 0) = true := by rw [beq_iff_eq]; exact hck
        have k2 : (ck != 0) = false := by rw [bne, k1]; rfl
        have HKK : Hid (ck = 0) := hck
        have HOK : Hid (okH (m, dg, nx)) := okH_mk HDL.out HLN.out.2.1 (by have := HOS.out.2.2.2; rw [HMM.out]; exact this)
        clear hck
        go_enter Tryd.func14, Tryd.ntmps14
        have tk0 : Hid True := trivial
        have tk1 : Hid True := trivial
        have tk2 : Hid True := trivial
        have tk90 : Hid True := trivial
        have tk91 : Hid True := trivial
        have tk30 : Hid True := trivial
        have tk31 : Hid True := trivial
        have tk32 : Hid True := trivial
        have tk33 : Hid True := trivial
        have tk34 : Hid True := trivial
        have tk35 : Hid True := trivial
        go_upto_region 6 with (first
          | (clear tk0; with_reducible refine wpSeq_boxW 26 (.tmp 0) ch ?_ ?_ ?_ ?_
             · rfl
             · rfl
             · rfl
             intro g2 y1 nn
             have HG2 : Hid (Blk y1 g2 ch 26) := nn.blk
             replace HBW : Hid (Below w.heap.size w y1) := HBW.out.trans (nn.below.mono HBW.out.size)
             clear nn)
          | (clear tk1; with_reducible refine wpSeq_boxW 31 (.tmp 1) csg ?_ ?_ ?_ ?_
             · rfl
             · rfl
             · rfl
             intro g3 y2 nn
             replace HG2 : Hid (Blk y2 g2 ch 26) := HG2.out.below nn.below HG2.out.lt
             have HG3 : Hid (Blk y2 g3 csg 31) := nn.blk
             replace HBW : Hid (Below w.heap.size w y2) := HBW.out.trans (nn.below.mono HBW.out.size)
             clear nn)
          | (clear tk2; with_reducible refine wpSeq_allocH ?_ ?_ ?_
             · rfl
             · rfl
             intro g4 y2b nn
             have HN4 : Hid (g2 ≠ g4 ∧ g3 ≠ g4 ∧ w.heap.size ≤ g4) := by have h1 := HG2.out.lt; have h2 := HG3.out.lt; have h3 := nn.ge; have h4 := HBW.out.size; exact ⟨by omega, by omega, by omega⟩
             replace HG2 : Hid (Blk y2b g2 ch 26) := HG2.out.below nn.below HG2.out.lt
             replace HG3 : Hid (Blk y2b g3 csg 31) := HG3.out.below nn.below HG3.out.lt
             have HG4 : Hid (Blk y2b g4 (hdC zeroH) 26) := nn.blk
             replace HBW : Hid (Below w.heap.size w y2b) := HBW.out.trans (nn.below.mono HBW.out.size)
             clear nn)
          | (clear tk90; with_reducible refine wpSeq_loadW 26 (.tmp 2) g2 0 ch _ ?_ Tryd.underlying26 rfl ?_ ?_ ?_ ?_ ?_
             · exact HG2.out.range
             · exact HIH.out
             · rfl
             · rfl
             · rfl)
          | (clear tk91; go_at_call 23; refine (HSP.out y2b).mono ?_; rintro e y3 ⟨rfl, hbz⟩
             replace HG2 : Hid (Blk y3 g2 ch 26) := HG2.out.below hbz HG2.out.lt
             replace HG3 : Hid (Blk y3 g3 csg 31) := HG3.out.below hbz HG3.out.lt
             replace HG4 : Hid (Blk y3 g4 (hdC zeroH) 26) := HG4.out.below hbz HG4.out.lt
             replace HBW : Hid (Below w.heap.size w y3) := HBW.out.trans (hbz.mono HBW.out.size)
             have ce : y3.cell? ⟨g2, 0, none⟩ = some (.int .u64 (n : Int)) := by have := HG2.out.cell 0; rw [HCH.out] at this; rw [HNN.out]; exact this
             have cm : y3.cell? ⟨g3, 0, none⟩ = some (.int .u64 (m : Int)) := by have := HG3.out.cell 0; rw [HCS.out] at this; rw [HMM.out]; exact this
             clear hbz)
          | (clear tk30; with_reducible refine wpSeq_loadW 28 (.tmp 19) g3 0 rt _ ?_ Tryd.underlying28 rfl ?_ ?_ ?_ ?_ ?_
             · exact (by rw [HRT.out]; exact (HTS.out _ _ HG3.out).root)
             · exact HIR.out
             · rfl
             · rfl
             · rfl)
          | (clear tk31; go_at_call 26; refine (HC1.out y3 HBW.out).mono ?_; rintro e y31 ⟨vb, rfl, hvb, hbz⟩
             clear ce cm
             replace HG2 : Hid (Blk y31 g2 ch 26) := HG2.out.below hbz HG2.out.lt
             replace HG3 : Hid (Blk y31 g3 csg 31) := HG3.out.below hbz HG3.out.lt
             replace HG4 : Hid (Blk y31 g4 (hdC zeroH) 26) := HG4.out.below hbz HG4.out.lt
             replace HBW : Hid (Below w.heap.size w y31) := HBW.out.trans (hbz.mono HBW.out.size)
             have HVB : Hid (Reads y31 vb rb) := hvb
             have cv : y31.cell? ⟨g3, 97, none⟩ = some (.slice ads ns cps) := by have := (HTS.out _ _ HG3.out).sig; rwa [Nat.zero_add] at this
             clear hbz hvb)
          | (clear tk32; with_reducible refine wpSeq_loadAt (.tmp 23) g3 1 pv ?_ ?_ ?_ ?_ ?_ ?_
             · exact HLN.out.1
             · rw [HPV.out]; exact (HTS.out _ _ HG3.out).prev
             · rfl
             · rfl
             · rfl)
          | (clear tk33; with_reducible refine wpSeq_loadAt (.tmp 25) g2 1 hr0 ?_ ?_ ?_ ?_ ?_ ?_
             · exact HLN.out.2.2.1
             · rw [HHR.out]; exact (HTC.out _ _ HG2.out).rt
             · rfl
             · rfl
             · rfl)
          | (clear tk34; with_reducible refine wpSeq_loadAt (.tmp 29) g2 33 ky ?_ ?_ ?_ ?_ ?_ ?_
             · exact HLN.out.2.2.2
             · rw [HKY.out]; exact (HTC.out _ _ HG2.out).ky
             · rfl
             · rfl
             · rfl)
          | (clear tk35; go_at_call 29; refine (HC2.out y31 vb HBW.out HVB.out).mono ?_; rintro e y32 ⟨rfl, hbz⟩
             clear cv
             replace HG2 : Hid (Blk y32 g2 ch 26) := HG2.out.below hbz HG2.out.lt
             replace HG3 : Hid (Blk y32 g3 csg 31) := HG3.out.below hbz HG3.out.lt
             replace HG4 : Hid (Blk y32 g4 (hdC zeroH) 26) := HG4.out.below hbz HG4.out.lt
             replace HBW : Hid (Below w.heap.size w y32) := HBW.out.trans (hbz.mono HBW.out.size)
             replace HVB : Hid (Reads y32 vb rb) := HVB.out.below hbz
             clear hbz ))
        have HSA : Hid (SgAt y32 g3 0 s (.slice ads ns cps)) := HTS.out _ _ HG3.out
        refine wp_region_held_drew (S := Only g4 (World.drew y32)) (by kernel_rfl) (Only.refl _ _) ?_
        intro hS
        replace HG4 : Hid (Blk (World.drew y32) g4 (hdC zeroH) 26) := HG4.out.drew
        replace HBW : Hid (Below w.heap.size w (World.drew y32)) := HBW.out.drew
        replace HSA : Hid (SgAt (World.drew y32) g3 0 s (.slice ads ns cps)) := ⟨HSA.out.all, HSA.out.ok⟩
        replace HVB : Hid (Reads (World.drew y32) vb rb) := reads_drew HVB.out
        clear HG2 HG3
        change wpAnyH _ _ _ _ _ _ _ _ (World.drew y32)
        generalize World.drew y32 = y7 at *
        try simp only [Act.put]
        refine wpAnyH_take (i := 0) (v := .pointer (some ⟨g3, 0, none⟩)) rfl (by kernel_rfl) (by kernel_rfl) (by kernel_rfl) (fun _ _ _ h => h) (Or.inl ⟨by rfl, fun wx hx => by simp [go_sem]⟩) hS ?_
        simp only [Act.put, List.getElem_toArray, List.getElem_cons_zero, List.setIfInBounds_toArray, List.set_cons_zero, List.set_cons_succ]
        refine wpAnyH_take (i := 1) (v := .pointer (some ⟨g3, 0, none⟩)) rfl (by kernel_rfl) (by kernel_rfl) (by kernel_rfl) (fun _ _ _ h => h) (Or.inl ⟨by rfl, fun wx hx => by simp [go_sem]⟩) hS ?_
        simp only [Act.put, List.getElem_toArray, List.getElem_cons_succ, List.getElem_cons_zero, List.setIfInBounds_toArray, List.set_cons_zero, List.set_cons_succ]
        refine wpAnyH_take (i := 2) (v := .int .u64 (m : Int)) rfl (by kernel_rfl) (by kernel_rfl) (by kernel_rfl) (fun _ _ _ h => h) (Or.inl ⟨by rfl, fun wx hx => by (have cm : wx.cell? ⟨g3, 0, none⟩ = some (.int .u64 (m : Int)) := by rw [HMM.out]; exact (HSA.out.only hx HN4.out.2.1).ep); simp [go_sem, cm]⟩) hS ?_
        simp only [Act.put, List.getElem_toArray, List.getElem_cons_succ, List.getElem_cons_zero, List.setIfInBounds_toArray, List.set_cons_zero, List.set_cons_succ]
        refine wpAnyH_take (i := 3) (v := vb) rfl (by kernel_rfl) (by kernel_rfl) (by kernel_rfl) (fun _ _ _ h => h) (Or.inl ⟨by rfl, fun wx hx => by simp [go_sem]⟩) hS ?_
        simp only [Act.put, List.getElem_toArray, List.getElem_cons_succ, List.getElem_cons_zero, List.setIfInBounds_toArray, List.set_cons_zero, List.set_cons_succ]
        refine wpAnyH_take (i := 5) (v := .pointer (some ⟨g3, 0, none⟩)) rfl (by kernel_rfl) (by kernel_rfl) (by kernel_rfl) (fun _ _ _ h => h) (Or.inl ⟨by rfl, fun wx hx => by simp [go_sem]⟩) hS ?_
        simp only [Act.put, List.getElem_toArray, List.getElem_cons_succ, List.getElem_cons_zero, List.setIfInBounds_toArray, List.set_cons_zero, List.set_cons_succ]
        refine wpAnyH_take (i := 6) (v := .pointer (some ⟨g3, 65, none⟩)) rfl (by kernel_rfl) (by kernel_rfl) (by kernel_rfl) (fun _ _ _ h => h) (Or.inl ⟨by rfl, fun wx hx => by simp [go_sem]⟩) hS ?_
        simp only [Act.put, List.getElem_toArray, List.getElem_cons_succ, List.getElem_cons_zero, List.setIfInBounds_toArray, List.set_cons_zero, List.set_cons_succ]
        refine wpAnyH_take (i := 7) (v := .agg (cb nx).toArray) rfl (by kernel_rfl) (by kernel_rfl) (by kernel_rfl) (fun _ _ _ h => h) (Or.inl ⟨by rfl, fun wx hx => by exact loadDigAt _ g3 65 nx HLN.out.2.1 (by rw [HNX.out]; exact (HSA.out.only hx HN4.out.2.1).next) rfl rfl⟩) hS ?_
        simp only [Act.put, List.getElem_toArray, List.getElem_cons_succ, List.getElem_cons_zero, List.setIfInBounds_toArray, List.set_cons_zero, List.set_cons_succ]
        refine wpAnyH_enter 4 (by kernel_rfl) rfl (by rfl) (f := 30) (args := #[vb]) (by simp [go_sem]) (HC3.out _ vb HBW.out HVB.out) ?_
        rintro e y8 ⟨rfl, hbq⟩
        replace hS := hS.still hbq
        replace HG4 : Hid (Blk y8 g4 (hdC zeroH) 26) := HG4.out.below hbq HG4.out.lt
        replace HBW : Hid (Below w.heap.size w y8) := HBW.out.trans (hbq.mono HBW.out.size)
        refine ⟨_, rfl, hS, ?_⟩
        clear hbq
        simp only [Act.put, List.getElem_toArray, List.getElem_cons_succ, List.getElem_cons_zero, List.setIfInBounds_toArray, List.set_cons_zero, List.set_cons_succ]
        refine wpAnyH_take (i := 8) (v := .agg (hdC (m, dg, nx)).toArray) rfl (by kernel_rfl) (by kernel_rfl) (by kernel_rfl) (fun _ _ _ h => h) (Or.inl ⟨by rfl, fun wx hx => by refine build_op _ _ 26 [(0, .tmp 40), (1, .tmp 42), (2, .tmp 45)] rfl _ ?_ _; exact (built_head _).trans (fill_hd HDL.out HLN.out.2.1)⟩) hS ?_
        simp only [Act.put, List.getElem_toArray, List.getElem_cons_succ, List.getElem_cons_zero, List.setIfInBounds_toArray, List.set_cons_zero, List.set_cons_succ]
        refine wpAnyH_storeRow 9 26 (.tmp 4) (.tmp 46) g4 (hdC zeroH) (hdC (m, dg, nx)) HG4.out (by rw [len_hdC HOK.out, len_hdC okH_zero]) (info_hdC HOK.out) (hdC_one _) (by kernel_rfl) rfl (by rfl) rfl rfl rfl ?_
        intro y9 hs
        replace hS := hS.trans hs.only
        refine ⟨hS, ?_⟩
        simp only [Act.put, List.getElem_toArray, List.getElem_cons_succ, List.getElem_cons_zero]
        refine wpAnyH_take (i := 10) (v := .int .i64 0) rfl (by kernel_rfl) (by kernel_rfl) (by kernel_rfl) (fun _ _ _ h => h) (Or.inl ⟨by rfl, fun wx hx => by simp [go_sem]⟩) hS ?_
        simp only [Act.put, List.getElem_toArray, List.getElem_cons_succ, List.getElem_cons_zero, List.setIfInBounds_toArray, List.set_cons_zero, List.set_cons_succ]
        refine wpAnyH_done (by kernel_rfl) ?_ _
        go_wp2
        exact bodyPost_ret (results_row_tmp (by rfl) _ _ g4 _ rfl (var_hd hs.blk HOK.out)) rfl ⟨by rw [HFR.out, if_pos ⟨by trivial, HKK.out⟩]; rfl, HBW.out.trans (hs.only.below HN4.out.2.2 HBW.out.size)⟩
end Go.Proofs.YtfbdnhadcnmfoaaDoor
/- The walk of chain's Seal; all that chain does (layer 11). -/
namespace Go.Proofs.YtfbdnhadcnmfoaaDoor
open Go.RowKit Go.Shelf
set_option maxRecDepth 100000
set_option maxRecDepth 100000 in
set_option maxHeartbeats 8000000 in
theorem chSeal_any (seed tree : List (BitVec 8)) (h : HdT) (w : World) (hK : KOk w) (hs : seed.length = 32) (oh : okH h) (ht : tree.length = 32) :
    Calls Tryd.prog 9 #[.agg (cb seed).toArray, .agg (hdC h).toArray, .agg (cb tree).toArray] w fun e w' => ∃ ad m c, e = .returned (.tuple #[.agg (sgC (sealR seed h tree).1 (.slice ad m c)).toArray, .int .i64 (sealR seed h tree).2]) ∧ Reads w' (.slice ad m c) (sealR seed h tree).1.2 ∧ (∀ k, (Value.slice ad m c).ownBlock = some k → w.heap.size ≤ k) ∧ Below w.heap.size w w' := by
  obtain ⟨ch, HCH⟩ : ∃ c, Hid (c = hdC h) := ⟨_, rfl⟩
  obtain ⟨n, HNN⟩ : ∃ n, Hid (n = h.1) := ⟨_, rfl⟩
  obtain ⟨hr, HHR⟩ : ∃ c, Hid (c = h.2.1) := ⟨_, rfl⟩
  rw [← HCH.out]
  have HLN : Hid (seed.length = 32 ∧ tree.length = 32 ∧ hr.length = 32) := ⟨hs, ht, by rw [HHR.out]; exact oh.1⟩
  have HOH : Hid (okH h) := oh
  have HIH : Hid ((Tryd.prog.info? 26).map (·.size) = some ch.length) := by show _ = _; rw [HCH.out]; exact info_hdC HOH.out
  have HBW : Hid (Below w.heap.size w w) := Below.refl _ _
  have HKW : Hid (∀ W : World, Below w.heap.size w W → KOk W) := fun W hh => hK.below hh hK.lt
  clear hs ht oh hK
  by_cases h64 : 64 ≤ n
  · have HFR : Hid (sealR seed h tree = (zeroS, 12)) := by show _ = _; unfold sealR; rw [if_pos (by rw [← HNN.out]; exact h64)]
    have HSP : Hid (∀ W : World, Calls Tryd.prog 23 #[.agg ch.toArray] W fun e w' => e = .returned (.bool true) ∧ Below W.heap.size W w') := fun W => by have := chSpent_any h W; rw [← HCH.out, ← HNN.out, decide_eq_true h64] at this; exact this
    have c64 : (64 : Int) ≤ (n : Int) := by omega
    have d64 : decide ((64 : Int) ≤ (n : Int)) = true := decide_eq_true c64
    go_enter Tryd.func9, Tryd.ntmps9
    have tk0 : Hid True := trivial
    have tk1 : Hid True := trivial
    have tk2 : Hid True := trivial
    have tk3 : Hid True := trivial
    have tk4 : Hid True := trivial
    have tk5 : Hid True := trivial
    have tk90 : Hid True := trivial
    have tk91 : Hid True := trivial
    go_wp2_with (first
    | (clear tk0; with_reducible refine wpSeq_boxW 23 (.tmp 0) (cb seed) ?_ ?_ ?_ ?_
       · rfl
       · rfl
       · rfl
       intro g3 y1 nn
       have H3 : Hid (Blk y1 g3 (cb seed) 23) := nn.blk
       replace HBW : Hid (Below w.heap.size w y1) := HBW.out.trans (nn.below.mono HBW.out.size)
       clear nn)
    | (clear tk1; with_reducible refine wpSeq_boxW 26 (.tmp 1) ch ?_ ?_ ?_ ?_
       · rfl
       · rfl
       · rfl
       intro g4 y2 nn
       replace H3 : Hid (Blk y2 g3 (cb seed) 23) := H3.out.below nn.below H3.out.lt
       have H4 : Hid (Blk y2 g4 ch 26) := nn.blk
       replace HBW : Hid (Below w.heap.size w y2) := HBW.out.trans (nn.below.mono HBW.out.size)
       clear nn)
    | (clear tk2; with_reducible refine wpSeq_boxW 23 (.tmp 2) (cb tree) ?_ ?_ ?_ ?_
       · rfl
       · rfl
       · rfl
       intro g5 y3 nn
       replace H3 : Hid (Blk y3 g3 (cb seed) 23) := H3.out.below nn.below H3.out.lt
       replace H4 : Hid (Blk y3 g4 ch 26) := H4.out.below nn.below H4.out.lt
       have H5 : Hid (Blk y3 g5 (cb tree) 23) := nn.blk
       replace HBW : Hid (Below w.heap.size w y3) := HBW.out.trans (nn.below.mono HBW.out.size)
       clear nn)
    | (clear tk3; with_reducible refine wpSeq_allocS ?_ ?_ ?_
       · rfl
       · rfl
       intro g6 y3b nn
       have HNE : Hid (g3 < g6 ∧ g4 < g6 ∧ g5 < g6 ∧ w.heap.size ≤ g6) := by have h1 := H3.out.lt; have h2 := H4.out.lt; have h5 := H5.out.lt; have h3 := nn.ge; have h4 := HBW.out.size; exact ⟨by omega, by omega, by omega, by omega⟩
       replace H3 : Hid (Blk y3b g3 (cb seed) 23) := H3.out.below nn.below H3.out.lt
       replace H4 : Hid (Blk y3b g4 ch 26) := H4.out.below nn.below H4.out.lt
       replace H5 : Hid (Blk y3b g5 (cb tree) 23) := H5.out.below nn.below H5.out.lt
       have H6 : Hid (Blk y3b g6 (sgC zeroS (.slice none 0 0)) 31) := nn.blk
       replace HBW : Hid (Below w.heap.size w y3b) := HBW.out.trans (nn.below.mono HBW.out.size)
       clear nn)
    | (clear tk90; with_reducible refine wpSeq_loadW 26 (.tmp 4) g4 0 ch _ ?_ Tryd.underlying26 rfl ?_ ?_ ?_ ?_ ?_
       · exact H4.out.range
       · exact HIH.out
       · rfl
       · rfl
       · rfl)
    | (clear tk91; go_at_call 23; refine (HSP.out y3b).mono ?_; rintro e y4 ⟨rfl, hbz⟩
       replace H3 : Hid (Blk y4 g3 (cb seed) 23) := H3.out.below hbz H3.out.lt
       replace H4 : Hid (Blk y4 g4 ch 26) := H4.out.below hbz H4.out.lt
       replace H5 : Hid (Blk y4 g5 (cb tree) 23) := H5.out.below hbz H5.out.lt
       replace H6 : Hid (Blk y4 g6 (sgC zeroS (.slice none 0 0)) 31) := H6.out.below hbz H6.out.lt
       replace HBW : Hid (Below w.heap.size w y4) := HBW.out.trans (hbz.mono HBW.out.size)
       have ce : y4.cell? ⟨g4, 0, none⟩ = some (.int .u64 (n : Int)) := by have := H4.out.cell 0; rw [HCH.out] at this; rw [HNN.out]; exact this
       clear hbz)
    | (clear tk4; with_reducible refine wpSeq_build 31 [] (sgC zeroS (.slice none 0 0)) ?_ ?_ ?_ ?_
       · exact built_signed []
       · rfl
       · rfl)
    | (clear tk5; with_reducible refine wpSeq_storeRow 31 (.tmp 6) (.tmp 12) g6 (sgC zeroS (.slice none 0 0)) (sgC zeroS (.slice none 0 0)) ?_ ?_ ?_ ?_ ?_ ?_ ?_ ?_ ?_
       · exact H6.out
       · rfl
       · exact info_sgC okS_zero _
       · exact sgC_one _ _ _ _
       · rfl
       · rfl
       · rfl
       · rfl
       intro y5 hs))
    exact bodyPost_ret (results_row_tmp (by rfl) _ _ g6 _ rfl (var_sg hs.blk okS_zero)) rfl ⟨none, 0, 0, by rw [HFR.out]; rfl, by rw [HFR.out]; exact reads_nil10 _, (fun k hk => by cases hk), HBW.out.trans (hs.only.below HNE.out.2.2.2 HBW.out.size)⟩
  have HSP : Hid (∀ W : World, Calls Tryd.prog 23 #[.agg ch.toArray] W fun e w' => e = .returned (.bool false) ∧ Below W.heap.size W w') := fun W => by have := chSpent_any h W; rw [← HCH.out, ← HNN.out, decide_eq_false h64] at this; exact this
  have hn64 : n < 64 := by omega
  have c64 : ¬ ((64 : Int) ≤ (n : Int)) := by omega
  have d64 : decide ((64 : Int) ≤ (n : Int)) = false := decide_eq_false c64
  have f1 : IntKind.u64.wrap ((n : Int) + 1) = (n : Int) + 1 := by rw [IntKind.wrap_u64]; omega
  have f2 : IntKind.u64.wrap ((n : Int) + 2) = (n : Int) + 2 := by rw [IntKind.wrap_u64]; omega
  obtain ⟨pk, HPK⟩ : ∃ c, Hid (c = pubR seed (n + 2)) := ⟨_, rfl⟩
  have HPL : Hid (pk.length = 32) := by show _ = _; rw [HPK.out]; exact len_pubR _ _
  obtain ⟨rb, HRB⟩ : ∃ c, Hid (c = rootB (n + 1) hr tree pk) := ⟨_, rfl⟩
  have HLB : Hid (rb.length = 105) := by show _ = _; rw [HRB.out]; exact len_rootB _ _ _ _ ⟨HLN.out.2.2, HLN.out.2.1, HPL.out⟩
  obtain ⟨sg, HSG⟩ : ∃ c, Hid (c = signR (partB seed (n + 1)) (bt (dig rb)) 256) := ⟨_, rfl⟩
  have HFR : Hid (sealR seed h tree = (((n + 1, hr, tree, pk), sg), 0)) := by show _ = _; unfold sealR; rw [if_neg (by rw [← HNN.out]; exact h64), HSG.out, HRB.out, HPK.out, HHR.out, HNN.out]
  obtain ⟨rt, HRT⟩ : ∃ c, Hid (c = rtC ((n + 1, hr, tree, pk), sg)) := ⟨_, rfl⟩
  have HOS : Hid (okS ((n + 1, hr, tree, pk), sg)) := okS_mk HLN.out.2.2 HLN.out.2.1 HPL.out (by omega)
  have HC1 : Hid (∀ W : World, Below w.heap.size w W → Calls Tryd.prog 24 #[.agg (cb seed).toArray, .int .u64 ((n : Int) + 1 + 1)] W fun e w' => e = .returned (.agg (cb pk).toArray) ∧ Below W.heap.size W w') := fun W hh => by rw [HPK.out, show (n : Int) + 1 + 1 = ((n + 2 : Nat) : Int) by omega]; exact lPublic_any seed (n + 2) W (HKW.out W hh) ⟨HLN.out.1, by omega⟩
  have HC2 : Hid (∀ W : World, Calls Tryd.prog 26 #[.agg rt.toArray] W fun e w' => ∃ v, e = .returned v ∧ Reads w' v rb ∧ Below W.heap.size W w') := fun W => by rw [HRT.out, HRB.out]; exact tRoot_any hr tree pk (n + 1) W ⟨HLN.out.2.2, HLN.out.2.1, HPL.out, by omega⟩
  have HC3 : Hid (∀ (W : World) (v : Value), Below w.heap.size w W → Reads W v rb → Calls Tryd.prog 25 #[.agg (cb seed).toArray, .int .u64 ((n : Int) + 1), v] W fun e w' => ∃ u, e = .returned u ∧ OwnB w' W.heap.size u sg ∧ Below W.heap.size W w') := fun W v hh hv => by rw [HSG.out]; exact lSign_own seed (n + 1) v rb W (HKW.out W hh) ⟨HLN.out.1, by omega⟩ hv (by rw [HLB.out]; decide)
  have f3 : IntKind.u64.wrap ((n : Int) + 1 + 1) = (n : Int) + 1 + 1 := by rw [IntKind.wrap_u64]; omega
  have HIR : Hid ((Tryd.prog.info? 28).map (·.size) = some rt.length) := by show _ = _; rw [HRT.out]; exact info_rtC HOS.out
  have HR97 : Hid (rt.length = 97) := by show _ = _; rw [HRT.out]; exact len_rtC HOS.out
  have HR1 : Hid (∀ v ∈ rt, v.oneCell' = true) := by rw [HRT.out]; exact rtC_one _
  have HM1 : Hid ((n : Int) + 1 = ((n + 1 : Nat) : Int)) := by show _ = _; omega
  clear h64 HPK HRB HSG
  go_enter Tryd.func9, Tryd.ntmps9
  have tk0 : Hid True := trivial
  have tk1 : Hid True := trivial
  have tk2 : Hid True := trivial
  have tk3 : Hid True := trivial
  have tk90 : Hid True := trivial
  have tk91 : Hid True := trivial
  go_wp2_with (first
    | (clear tk0; with_reducible refine wpSeq_boxW 23 (.tmp 0) (cb seed) ?_ ?_ ?_ ?_
       · rfl
       · rfl
       · rfl
       intro g3 y1 nn
       have H3 : Hid (Blk y1 g3 (cb seed) 23) := nn.blk
       replace HBW : Hid (Below w.heap.size w y1) := HBW.out.trans (nn.below.mono HBW.out.size)
       clear nn)
    | (clear tk1; with_reducible refine wpSeq_boxW 26 (.tmp 1) ch ?_ ?_ ?_ ?_
       · rfl
       · rfl
       · rfl
       intro g4 y2 nn
       replace H3 : Hid (Blk y2 g3 (cb seed) 23) := H3.out.below nn.below H3.out.lt
       have H4 : Hid (Blk y2 g4 ch 26) := nn.blk
       replace HBW : Hid (Below w.heap.size w y2) := HBW.out.trans (nn.below.mono HBW.out.size)
       clear nn)
    | (clear tk2; with_reducible refine wpSeq_boxW 23 (.tmp 2) (cb tree) ?_ ?_ ?_ ?_
       · rfl
       · rfl
       · rfl
       intro g5 y3 nn
       replace H3 : Hid (Blk y3 g3 (cb seed) 23) := H3.out.below nn.below H3.out.lt
       replace H4 : Hid (Blk y3 g4 ch 26) := H4.out.below nn.below H4.out.lt
       have H5 : Hid (Blk y3 g5 (cb tree) 23) := nn.blk
       replace HBW : Hid (Below w.heap.size w y3) := HBW.out.trans (nn.below.mono HBW.out.size)
       clear nn)
    | (clear tk3; with_reducible refine wpSeq_allocS ?_ ?_ ?_
       · rfl
       · rfl
       intro g6 y3b nn
       have HNE : Hid (g3 < g6 ∧ g4 < g6 ∧ g5 < g6 ∧ w.heap.size ≤ g6) := by have h1 := H3.out.lt; have h2 := H4.out.lt; have h5 := H5.out.lt; have h3 := nn.ge; have h4 := HBW.out.size; exact ⟨by omega, by omega, by omega, by omega⟩
       replace H3 : Hid (Blk y3b g3 (cb seed) 23) := H3.out.below nn.below H3.out.lt
       replace H4 : Hid (Blk y3b g4 ch 26) := H4.out.below nn.below H4.out.lt
       replace H5 : Hid (Blk y3b g5 (cb tree) 23) := H5.out.below nn.below H5.out.lt
       have H6 : Hid (Blk y3b g6 (sgC zeroS (.slice none 0 0)) 31) := nn.blk
       replace HBW : Hid (Below w.heap.size w y3b) := HBW.out.trans (nn.below.mono HBW.out.size)
       clear nn)
    | (clear tk90; with_reducible refine wpSeq_loadW 26 (.tmp 4) g4 0 ch _ ?_ Tryd.underlying26 rfl ?_ ?_ ?_ ?_ ?_
       · exact H4.out.range
       · exact HIH.out
       · rfl
       · rfl
       · rfl)
    | (clear tk91; go_at_call 23; refine (HSP.out y3b).mono ?_; rintro e y4 ⟨rfl, hbz⟩
       replace H3 : Hid (Blk y4 g3 (cb seed) 23) := H3.out.below hbz H3.out.lt
       replace H4 : Hid (Blk y4 g4 ch 26) := H4.out.below hbz H4.out.lt
       replace H5 : Hid (Blk y4 g5 (cb tree) 23) := H5.out.below hbz H5.out.lt
       replace H6 : Hid (Blk y4 g6 (sgC zeroS (.slice none 0 0)) 31) := H6.out.below hbz H6.out.lt
       replace HBW : Hid (Below w.heap.size w y4) := HBW.out.trans (hbz.mono HBW.out.size)
       have ce : y4.cell? ⟨g4, 0, none⟩ = some (.int .u64 (n : Int)) := by have := H4.out.cell 0; rw [HCH.out] at this; rw [HNN.out]; exact this
       clear hbz))
  clear ce f2
  go_cut [9] from 16 to 24 (fun a W => ∃ g9, a = .pointer (some ⟨g9, 0, none⟩) ∧ Blk W g3 (cb seed) 23 ∧ Blk W g6 (sgC zeroS (.slice none 0 0)) 31 ∧ Blk W g9 rt 28 ∧ g6 < g9 ∧ Below w.heap.size w W)
  case first =>
    refine wp_region_held_drew (S := Over (World.drew y4)) (by kernel_rfl) (Over.refl _) ?_
    intro hS
    replace H3 : Hid (Blk (World.drew y4) g3 (cb seed) 23) := H3.out.drew
    replace H4 : Hid (Blk (World.drew y4) g4 ch 26) := H4.out.drew
    replace H5 : Hid (Blk (World.drew y4) g5 (cb tree) 23) := H5.out.drew
    replace H6 : Hid (Blk (World.drew y4) g6 (sgC zeroS (.slice none 0 0)) 31) := H6.out.drew
    replace HBW : Hid (Below w.heap.size w (World.drew y4)) := HBW.out.drew
    change wpAnyH _ _ _ _ _ _ _ _ (World.drew y4)
    generalize World.drew y4 = y0 at *
    try simp only [Act.put, List.setIfInBounds_toArray, List.set_cons_zero, List.set_cons_succ]
    refine wpAnyH_take (i := 0) (v := .int .u64 ((n : Int) + 1)) rfl (by kernel_rfl) (by kernel_rfl) (by kernel_rfl) (fun _ _ _ h => h) (Or.inl ⟨by rfl, fun wx hx => by simp [go_sem]⟩) hS ?_
    simp only [Act.put, List.getElem_toArray, List.getElem_cons_zero, List.setIfInBounds_toArray, List.set_cons_zero, List.set_cons_succ]
    refine wpAnyH_take (i := 1) (v := .pointer (some ⟨g4, 1, none⟩)) rfl (by kernel_rfl) (by kernel_rfl) (by kernel_rfl) (fun _ _ _ h => h) (Or.inl ⟨by rfl, fun wx hx => by simp [go_sem]⟩) hS ?_
    simp only [Act.put, List.getElem_toArray, List.getElem_cons_succ, List.getElem_cons_zero, List.setIfInBounds_toArray, List.set_cons_zero, List.set_cons_succ]
    refine wpAnyH_take (i := 2) (v := .agg (cb hr).toArray) rfl (by kernel_rfl) (by kernel_rfl) (by kernel_rfl) (fun _ _ _ h => h) (Or.inl ⟨by rfl, fun wx hx => by exact loadDigAt _ g4 1 hr HLN.out.2.2 (by have h1 := H4.out.below hx H4.out.lt; rw [HCH.out] at h1; have h2 := (h1.hdAt HOH.out).rt; rw [HHR.out]; exact h2) rfl rfl⟩) hS ?_
    simp only [Act.put, List.getElem_toArray, List.getElem_cons_succ, List.getElem_cons_zero, List.setIfInBounds_toArray, List.set_cons_zero, List.set_cons_succ]
    refine wpAnyH_take (i := 3) (v := .agg (cb tree).toArray) rfl (by kernel_rfl) (by kernel_rfl) (by kernel_rfl) (fun _ _ _ h => h) (Or.inl ⟨by rfl, fun wx hx => by exact loadDigest _ g5 tree HLN.out.2.1 (H5.out.below hx H5.out.lt) rfl rfl⟩) hS ?_
    simp only [Act.put, List.getElem_toArray, List.getElem_cons_succ, List.getElem_cons_zero, List.setIfInBounds_toArray, List.set_cons_zero, List.set_cons_succ]
    refine wpAnyH_take (i := 4) (v := .agg (cb seed).toArray) rfl (by kernel_rfl) (by kernel_rfl) (by kernel_rfl) (fun _ _ _ h => h) (Or.inl ⟨by rfl, fun wx hx => by exact loadDigest _ g3 seed HLN.out.1 (H3.out.below hx H3.out.lt) rfl rfl⟩) hS ?_
    simp only [Act.put, List.getElem_toArray, List.getElem_cons_succ, List.getElem_cons_zero, List.setIfInBounds_toArray, List.set_cons_zero, List.set_cons_succ]
    refine wpAnyH_take (i := 5) (v := .int .u64 ((n : Int) + 1)) rfl (by kernel_rfl) (by kernel_rfl) (by kernel_rfl) (fun _ _ _ h => h) (Or.inl ⟨by rfl, fun wx hx => by simp [go_sem]⟩) hS ?_
    simp only [Act.put, List.getElem_toArray, List.getElem_cons_succ, List.getElem_cons_zero, List.setIfInBounds_toArray, List.set_cons_zero, List.set_cons_succ]
    refine wpAnyH_take (i := 6) (v := .int .u64 ((n : Int) + 1 + 1)) rfl (by kernel_rfl) (by kernel_rfl) (by kernel_rfl) (fun _ _ _ h => h) (Or.inl ⟨by rfl, fun wx hx => by simp [go_sem, f3]⟩) hS ?_
    simp only [Act.put, List.getElem_toArray, List.getElem_cons_succ, List.getElem_cons_zero, List.setIfInBounds_toArray, List.set_cons_zero, List.set_cons_succ]
    refine wpAnyH_pair 7 9 (by kernel_rfl) ?_ ?_
    · refine wpOp_en 7 (by rfl) (by rfl) (f := 24) (args := #[.agg (cb seed).toArray, .int .u64 ((n : Int) + 1 + 1)]) (by simp [go_sem]) (HC1.out _ (HBW.out.trans (Below.mono hS HBW.out.size))) ?_
      rintro e z1 ⟨rfl, hb⟩
      replace hS := Over.more hS hb
      refine ⟨_, rfl, hS, ?_⟩
      clear hb
      simp only [Act.put, List.getElem_toArray, List.getElem_cons_succ, List.getElem_cons_zero, List.setIfInBounds_toArray, List.set_cons_zero, List.set_cons_succ]
      refine wpAnyH_take (i := 8) (v := .agg rt.toArray) rfl (by kernel_rfl) (by kernel_rfl) (by kernel_rfl) (fun _ _ _ h => h) (Or.inl ⟨by rfl, fun wx hx => by refine build_op _ _ 28 [(0, .tmp 16), (1, .tmp 18), (2, .tmp 19), (3, .tmp 23)] rfl _ ?_ _; refine (built_root _).trans ?_; rw [HRT.out, ← fill_rt HLN.out.2.2 HLN.out.2.1 HPL.out, ← HM1.out]; rfl⟩) hS ?_
      simp only [Act.put, List.getElem_toArray, List.getElem_cons_succ, List.getElem_cons_zero, List.setIfInBounds_toArray, List.set_cons_zero, List.set_cons_succ]
      have hb := below_alloc z1 (.cells (rtC zeroS).toArray 28)
      have hba : Blk (z1.alloc (.cells (rtC zeroS).toArray 28)) z1.heap.size (rtC zeroS) 28 := Blk.new _ _ _
      have hsz : y0.heap.size ≤ z1.heap.size := Below.size hS
      replace hS := Over.more hS hb
      refine wpAnyH_step 9 (.pointer (some ⟨z1.heap.size, 0, none⟩)) (z1.alloc (.cells (rtC zeroS).toArray 28)) (by kernel_rfl) rfl (by rfl) (alloc_rt _ _ rfl _) hS ?_
      simp only [Act.put, List.getElem_toArray, List.getElem_cons_succ, List.getElem_cons_zero, List.setIfInBounds_toArray, List.set_cons_zero, List.set_cons_succ]
      clear hb
      generalize z1.alloc (.cells (rtC zeroS).toArray 28) = z2 at *
      obtain ⟨ga, HGA⟩ : ∃ z, Hid (z = z1.heap.size) := ⟨_, rfl⟩
      have hgw : y0.heap.size ≤ ga := by rw [HGA.out]; exact hsz
      rw [← HGA.out] at hba ⊢
      clear HGA hsz
      refine wpAnyH_storeRow 10 28 (.tmp 9) (.tmp 24) ga (rtC zeroS) (rt) hba (by rw [HR97.out, len_rtC okS_zero]) HIR.out HR1.out (by kernel_rfl) rfl (by rfl) rfl rfl rfl ?_
      intro yE hs
      replace hS : Over y0 yE := Below.trans hS (hs.only.below hgw (Below.size hS))
      refine ⟨hS, ?_⟩
      simp only [Act.put, List.getElem_toArray, List.getElem_cons_succ, List.getElem_cons_zero]
      refine wpAnyH_done (by kernel_rfl) ?_ _
      go_wp2
      go_meet
      case rel => exact ⟨ga, rfl, H3.out.below hS H3.out.lt, H6.out.below hS H6.out.lt, hs.blk, by have := H6.out.lt; omega, HBW.out.trans (Below.mono hS HBW.out.size)⟩
    · have hb := below_alloc y0 (.cells (rtC zeroS).toArray 28)
      have hba : Blk (y0.alloc (.cells (rtC zeroS).toArray 28)) y0.heap.size (rtC zeroS) 28 := Blk.new _ _ _
      have hsz : y0.heap.size ≤ y0.heap.size := Below.size hS
      replace hS := Over.more hS hb
      refine wpOp_vl 9 (.pointer (some ⟨y0.heap.size, 0, none⟩)) (y0.alloc (.cells (rtC zeroS).toArray 28)) (by rfl) (by rfl) (alloc_rt _ _ rfl _) ⟨hS, ?_⟩
      simp only [Act.put, List.getElem_toArray, List.getElem_cons_succ, List.getElem_cons_zero, List.setIfInBounds_toArray, List.set_cons_zero, List.set_cons_succ]
      clear hb
      generalize y0.alloc (.cells (rtC zeroS).toArray 28) = z1 at *
      obtain ⟨ga, HGA⟩ : ∃ z, Hid (z = y0.heap.size) := ⟨_, rfl⟩
      have hgw : y0.heap.size ≤ ga := by rw [HGA.out]; exact hsz
      rw [← HGA.out] at hba ⊢
      clear HGA hsz
      refine wpAnyH_enter 7 (by kernel_rfl) rfl (by rfl) (f := 24) (args := #[.agg (cb seed).toArray, .int .u64 ((n : Int) + 1 + 1)]) (by simp [go_sem]) (HC1.out _ (HBW.out.trans (Below.mono hS HBW.out.size))) ?_
      rintro e z2 ⟨rfl, hb⟩
      replace hS := Over.more hS hb
      replace hba := hba.below hb hba.lt
      refine ⟨_, rfl, hS, ?_⟩
      clear hb
      simp only [Act.put, List.getElem_toArray, List.getElem_cons_succ, List.getElem_cons_zero, List.setIfInBounds_toArray, List.set_cons_zero, List.set_cons_succ]
      refine wpAnyH_take (i := 8) (v := .agg rt.toArray) rfl (by kernel_rfl) (by kernel_rfl) (by kernel_rfl) (fun _ _ _ h => h) (Or.inl ⟨by rfl, fun wx hx => by refine build_op _ _ 28 [(0, .tmp 16), (1, .tmp 18), (2, .tmp 19), (3, .tmp 23)] rfl _ ?_ _; refine (built_root _).trans ?_; rw [HRT.out, ← fill_rt HLN.out.2.2 HLN.out.2.1 HPL.out, ← HM1.out]; rfl⟩) hS ?_
      simp only [Act.put, List.getElem_toArray, List.getElem_cons_succ, List.getElem_cons_zero, List.setIfInBounds_toArray, List.set_cons_zero, List.set_cons_succ]
      refine wpAnyH_storeRow 10 28 (.tmp 9) (.tmp 24) ga (rtC zeroS) (rt) hba (by rw [HR97.out, len_rtC okS_zero]) HIR.out HR1.out (by kernel_rfl) rfl (by rfl) rfl rfl rfl ?_
      intro yE hs
      replace hS : Over y0 yE := Below.trans hS (hs.only.below hgw (Below.size hS))
      refine ⟨hS, ?_⟩
      simp only [Act.put, List.getElem_toArray, List.getElem_cons_succ, List.getElem_cons_zero]
      refine wpAnyH_done (by kernel_rfl) ?_ _
      go_wp2
      go_meet
      case rel => exact ⟨ga, rfl, H3.out.below hS H3.out.lt, H6.out.below hS H6.out.lt, hs.blk, by have := H6.out.lt; omega, HBW.out.trans (Below.mono hS HBW.out.size)⟩
  case rest =>
    obtain ⟨g9, rfl, h3, h6, h9, hlt, hbw⟩ := hcut
    have HW6 : Hid (w.heap.size ≤ g6) := HNE.out.2.2.2
    have HN6 : Hid (g3 ≠ g6 ∧ g9 ≠ g6) := ⟨by have := HNE.out; omega, by omega⟩
    clear H3 H4 H5 H6 HBW HNE
    have H3 : Hid (Blk wc g3 (cb seed) 23) := h3
    have H6 : Hid (Blk wc g6 (sgC zeroS (.slice none 0 0)) 31) := h6
    have H9 : Hid (Blk wc g9 rt 28) := h9
    have HBW : Hid (Below w.heap.size w wc) := hbw
    clear h3 h6 h9 hlt hbw
    go_wp2
    refine wp_region_held_drew (S := Only g6 (World.drew wc)) (by kernel_rfl) (Only.refl _ _) ?_
    intro hS
    replace H3 : Hid (Blk (World.drew wc) g3 (cb seed) 23) := H3.out.drew
    replace H6 : Hid (Blk (World.drew wc) g6 (sgC zeroS (.slice none 0 0)) 31) := H6.out.drew
    replace H9 : Hid (Blk (World.drew wc) g9 rt 28) := H9.out.drew
    replace HBW : Hid (Below w.heap.size w (World.drew wc)) := HBW.out.drew
    change wpAnyH _ _ _ _ _ _ _ _ (World.drew wc)
    generalize World.drew wc = y0 at *
    try simp only [Act.put]
    refine wpAnyH_take (i := 0) (v := .agg rt.toArray) rfl (by kernel_rfl) (by kernel_rfl) (by kernel_rfl) (fun _ _ _ h => h) (Or.inl ⟨by rfl, fun wx hx => by exact load_run 28 _ rfl g9 0 rfl rt _ (H9.out.only hx HN6.out.2).range Tryd.underlying28 rfl HIR.out⟩) hS ?_
    simp only [Act.put, List.getElem_toArray, List.getElem_cons_zero, List.setIfInBounds_toArray, List.set_cons_zero, List.set_cons_succ]
    refine wpAnyH_take (i := 1) (v := .agg (cb seed).toArray) rfl (by kernel_rfl) (by kernel_rfl) (by kernel_rfl) (fun _ _ _ h => h) (Or.inl ⟨by rfl, fun wx hx => by exact loadDigest _ g3 seed HLN.out.1 (H3.out.only hx HN6.out.1) rfl rfl⟩) hS ?_
    simp only [Act.put, List.getElem_toArray, List.getElem_cons_succ, List.getElem_cons_zero, List.setIfInBounds_toArray, List.set_cons_zero, List.set_cons_succ]
    refine wpAnyH_take (i := 2) (v := .int .u64 ((n : Int) + 1)) rfl (by kernel_rfl) (by kernel_rfl) (by kernel_rfl) (fun _ _ _ h => h) (Or.inl ⟨by rfl, fun wx hx => by simp [go_sem]⟩) hS ?_
    simp only [Act.put, List.getElem_toArray, List.getElem_cons_succ, List.getElem_cons_zero, List.setIfInBounds_toArray, List.set_cons_zero, List.set_cons_succ]
    refine wpAnyH_take (i := 3) (v := .agg rt.toArray) rfl (by kernel_rfl) (by kernel_rfl) (by kernel_rfl) (fun _ _ _ h => h) (Or.inl ⟨by rfl, fun wx hx => by exact load_run 28 _ rfl g9 0 rfl rt _ (H9.out.only hx HN6.out.2).range Tryd.underlying28 rfl HIR.out⟩) hS ?_
    simp only [Act.put, List.getElem_toArray, List.getElem_cons_succ, List.getElem_cons_zero, List.setIfInBounds_toArray, List.set_cons_zero, List.set_cons_succ]
    refine wpAnyH_enter 4 (by kernel_rfl) rfl (by rfl) (f := 26) (args := #[.agg rt.toArray]) (by simp [go_sem]) (HC2.out _) ?_
    rintro e y12 ⟨vb, rfl, hvb, hbq⟩
    replace hS := hS.still hbq
    replace H6 : Hid (Blk y12 g6 (sgC zeroS (.slice none 0 0)) 31) := H6.out.below hbq H6.out.lt
    replace HBW : Hid (Below w.heap.size w y12) := HBW.out.trans (hbq.mono HBW.out.size)
    refine ⟨_, rfl, hS, ?_⟩
    clear hbq
    simp only [Act.put, List.getElem_toArray, List.getElem_cons_succ, List.getElem_cons_zero, List.setIfInBounds_toArray, List.set_cons_zero, List.set_cons_succ]
    refine wpAnyH_enter 5 (by kernel_rfl) rfl (by rfl) (f := 25) (args := #[.agg (cb seed).toArray, .int .u64 ((n : Int) + 1), vb]) (by simp [go_sem]) (HC3.out _ vb HBW.out hvb) ?_
    rintro e y13 ⟨vs, rfl, hvs, hbq⟩
    obtain ⟨ad, nn, cc, hvf⟩ := hvs.reads.form
    have hg6 : g6 < y12.heap.size := H6.out.lt
    have HBS : Hid (w.heap.size ≤ y12.heap.size) := HBW.out.size
    subst hvf
    replace hS := hS.still hbq
    replace H6 : Hid (Blk y13 g6 (sgC zeroS (.slice none 0 0)) 31) := H6.out.below hbq H6.out.lt
    replace HBW : Hid (Below w.heap.size w y13) := HBW.out.trans (hbq.mono HBW.out.size)
    refine ⟨_, rfl, hS, ?_⟩
    clear hbq
    simp only [Act.put, List.getElem_toArray, List.getElem_cons_succ, List.getElem_cons_zero, List.setIfInBounds_toArray, List.set_cons_zero, List.set_cons_succ]
    refine wpAnyH_take (i := 6) (v := .agg (sgC ((n + 1, hr, tree, pk), sg) (.slice ad nn cc)).toArray) rfl (by kernel_rfl) (by kernel_rfl) (by kernel_rfl) (fun _ _ _ h => h) (Or.inl ⟨by rfl, fun wx hx => by refine build_op _ _ 31 [(0, .tmp 25), (1, .tmp 30)] rfl _ ?_ _; refine (built_signed _).trans ?_; rw [← fill_sg HOS.out, ← HRT.out]; rfl⟩) hS ?_
    simp only [Act.put, List.getElem_toArray, List.getElem_cons_succ, List.getElem_cons_zero, List.setIfInBounds_toArray, List.set_cons_zero, List.set_cons_succ]
    refine wpAnyH_storeRow 7 31 (.tmp 6) (.tmp 31) g6 (sgC zeroS (.slice none 0 0)) (sgC ((n + 1, hr, tree, pk), sg) (.slice ad nn cc)) H6.out (by rw [len_sgC HOS.out, len_sgC okS_zero]) (info_sgC HOS.out _) (sgC_one _ _ _ _) (by kernel_rfl) rfl (by rfl) rfl rfl rfl ?_
    intro y14 hs
    replace hS := hS.trans hs.only
    refine ⟨hS, ?_⟩
    simp only [Act.put, List.getElem_toArray, List.getElem_cons_succ, List.getElem_cons_zero]
    refine wpAnyH_take (i := 8) (v := .int .i64 0) rfl (by kernel_rfl) (by kernel_rfl) (by kernel_rfl) (fun _ _ _ h => h) (Or.inl ⟨by rfl, fun wx hx => by simp [go_sem]⟩) hS ?_
    simp only [Act.put, List.getElem_toArray, List.getElem_cons_succ, List.getElem_cons_zero, List.setIfInBounds_toArray, List.set_cons_zero, List.set_cons_succ]
    refine wpAnyH_done (by kernel_rfl) ?_ _
    go_wp2
    refine bodyPost_ret (results_row_tmp (by rfl) _ _ g6 _ rfl (var_sg hs.blk HOS.out)) rfl ⟨ad, nn, cc, by rw [HFR.out]; rfl, ?_, (fun k hk => Nat.le_trans HBS.out (hvs.own k hk)), HBW.out.trans (hs.only.below HW6.out HBW.out.size)⟩
    rw [HFR.out]
    exact (hvs.onlyLt hs.only hg6).reads
/-- chain's functions do what the chapter says -/
theorem chOps : ChOps where
  pin := fun W seed hK hs => chPin_any seed W hK hs
  start := fun W p hp => chStart_any p W hp
  seals := fun W seed tree h hK hs oh ht => chSeal_any seed tree h W hK hs oh ht
  follow := fun W h s vs hK oh os hr => chFollow_any h s vs W hK oh os hr
  walk := fun W h v l hK oh hl hn => chWalk_any h v l W (fun W h s vs hK oh os hr => chFollow_any h s vs W hK oh os hr) hK oh hl hn
end Go.Proofs.YtfbdnhadcnmfoaaDoor
/- ChainFollows and ChainWalks, over what chain's functions do (layer 11). -/
namespace Go.Proofs.YtfbdnhadcnmfoaaDoor
open Go.RowKit Go.Shelf
set_option maxRecDepth 100000
theorem Tryd.infos3 : (Tryd.prog.info? 31).map (fun i => (i.zero, i.size, i.bytes)) = some (some (.agg (sgC zeroS (.slice none 0 0)).toArray), 98, 128) := by kernel_rfl
theorem fill_one98 (cs : List Value) (h : cs.length = 98) (a0 : Array Value) (ha : a0.size = 98) : Instr.fill (fun i => some (i * 98, 98)) a0 [(0, .agg cs.toArray)] = some cs.toArray := by
  have e : a0 = ([] ++ (a0.toList ++ [])).toArray := by simp
  rw [e, fill_seg (vs := cs) (off := 0) (size := 98) (by simp) rfl (by simpa using ha) rfl h, Instr.fill]
  simp
theorem build_sg (f : Operand → Value) (o : Oper) (x : Operand) (ho : o.op = .buildSlice 42 1 #[(0, x)]) (s : SgT) (os : okS s) (vs : Value) (hx : f x = .agg (sgC s vs).toArray) (w : World) :
    (execOp f o).run Tryd.prog w = .ok (.value (.slice (some ⟨w.heap.size, 0, none⟩) 1 1)) (w.alloc (.cells (sgC s vs).toArray 31)) := by
  obtain ⟨i0, hi, hz, hs, _⟩ := info_parts Tryd.infos3
  have hr := run_buildSlice (P := Tryd.prog) w 42 31 1 #[(0, .agg (sgC s vs).toArray)] (sgC s vs).toArray i0 _ Tryd.underlying42 hi hz (by rw [hs]; decide) (by rw [hs]; decide) (by rw [hs]; exact fill_one98 (sgC s vs) (len_sgC os vs) _ (by simp))
  unfold execOp
  rw [ho]
  simp only [List.map_toArray, List.map_cons, List.map_nil, hx, Sem.run_bind, hr, Result.andThen_ok, Sem.run_pure]
theorem wpSeq_buildS {ops : Array Oper} {Q : Exit → Act → World → Prop} {rest : List Oper} {o : Oper} {a : Act} {w : World} (x : Operand) (s : SgT) (vs : Value) (os : okS s) (ho : o.op = .buildSlice 42 1 #[(0, x)]) (hx : a.eval x = .agg (sgC s vs).toArray) (hw : Region.wanted o (yielded ops a.tmps) = true)
    (h : ∀ g w', NewR (sgC s vs) 31 w g w' → wpList Tryd.prog ops Q rest (a.put o.dst (.slice (some ⟨g, 0, none⟩) 1 1)) w') : wpList Tryd.prog ops Q (o :: rest) a w :=
  wpSeq_val _ _ hw (build_sg _ o x ho s os vs hx w) (h _ _ (NewR.of _ _ w))
theorem readsS_one {w : World} {g : Nat} {s : SgT} {vs : Value} (hb : Blk w g (sgC s vs) 31) (os : okS s) (hr : Reads w vs s.2) : ReadsS w (.slice (some ⟨g, 0, none⟩) 1 1) [s] := by
  refine ⟨⟨_, _, rfl, Nat.le_refl _, (fun e => by cases e), fun _ => ⟨g, 0, rfl, fun j hj => ?_⟩⟩, fun t ht => ?_⟩
  · obtain rfl : j = 0 := by simp at hj; omega
    exact ⟨vs, hb.sgAt os, hr⟩
  · rw [List.mem_singleton] at ht
    subst ht
    exact os
set_option maxRecDepth 100000 in
set_option maxHeartbeats 8000000 in
theorem chainFollows_law (hO : ChOps) (h : HdT) (s : SgT) (vs : Value) (w : World) (hK : KOk w) (oh : okH h) (os : okS s) (hr : Reads w vs s.2) :
    Calls Tryd.prog 4 #[.agg (hdC h).toArray, .agg (sgC s vs).toArray] w fun e w' => e = .returned (.bool true) ∧ Below w.heap.size w w' := by
  obtain ⟨ads, cps, hvs, hqs⟩ := id hr
  clear hqs
  obtain ⟨ns, HNS⟩ : ∃ n, Hid (n = s.2.length) := ⟨_, rfl⟩
  rw [← HNS.out] at hvs
  subst hvs
  have HR : Hid (Reads w (.slice ads ns cps) s.2) := hr
  have HCW : Hid (∀ W : World, Below w.heap.size w W → Calls Tryd.prog 12 #[] W fun e w' => e = .returned (.bool true) ∧ Below W.heap.size W w') := fun W hh => works11_any hO W (hK.below hh hK.lt)
  have HOH : Hid (okH h) := oh
  have HOS : Hid (okS s) := os
  have HOF : Hid (okH (followR h s).1) := follow_okH h s os
  obtain ⟨hf, HHF⟩ : ∃ c, Hid (c = (followR h s).1) := ⟨_, rfl⟩
  obtain ⟨ef, HEF⟩ : ∃ c, Hid (c = (followR h s).2) := ⟨_, rfl⟩
  rw [← HHF.out] at HOF
  have HC1 : Hid (∀ W : World, Below w.heap.size w W → Reads W (.slice ads ns cps) s.2 → Calls Tryd.prog 14 #[.agg (hdC h).toArray, .agg (sgC s (.slice ads ns cps)).toArray] W fun e w' => e = .returned (.tuple #[.agg (hdC hf).toArray, .int .i64 ef]) ∧ Below W.heap.size W w') := fun W hh hr => by rw [HHF.out, HEF.out]; exact hO.follow W h s _ (hK.below hh hK.lt) oh os hr
  have HC2 : Hid (∀ W : World, Below w.heap.size w W → Reads W (.slice ads ns cps) s.2 → Calls Tryd.prog 15 #[.agg (hdC h).toArray, .agg (sgC s (.slice ads ns cps)).toArray] W fun e w' => e = .returned (.tuple #[.agg (hdC hf).toArray, .int .i64 ef]) ∧ Below W.heap.size W w') := fun W hh hr => by rw [HHF.out, HEF.out]; exact qcFollow_any h s _ W oh os hr
  have HBW : Hid (Below w.heap.size w w) := Below.refl _ _
  clear hO hK oh os hr HHF HEF
  go_enter Tryd.func4, Tryd.ntmps4
  have tk0 : Hid True := trivial
  have tk1 : Hid True := trivial
  have tk2 : Hid True := trivial
  have tk3 : Hid True := trivial
  have tk4 : Hid True := trivial
  go_upto_if 12 with (first
    | (clear tk0; with_reducible refine wpSeq_boxW 26 (.tmp 0) (hdC h) ?_ ?_ ?_ ?_
       · rfl
       · rfl
       · rfl
       intro g2 y1 nn
       replace HR : Hid (Reads y1 (.slice ads ns cps) s.2) := HR.out.below nn.below
       replace HBW : Hid (Below w.heap.size w y1) := HBW.out.trans (nn.below.mono HBW.out.size)
       have HG2 : Hid (Blk y1 g2 (hdC h) 26) := nn.blk
       clear nn)
    | (clear tk1; with_reducible refine wpSeq_boxW 31 (.tmp 1) (sgC s (.slice ads ns cps)) ?_ ?_ ?_ ?_
       · rfl
       · rfl
       · rfl
       intro g3 y2 nn
       replace HG2 : Hid (Blk y2 g2 (hdC h) 26) := HG2.out.below nn.below HG2.out.lt
       replace HR : Hid (Reads y2 (.slice ads ns cps) s.2) := HR.out.below nn.below
       replace HBW : Hid (Below w.heap.size w y2) := HBW.out.trans (nn.below.mono HBW.out.size)
       have HG3 : Hid (Blk y2 g3 (sgC s (.slice ads ns cps)) 31) := nn.blk
       clear nn)
    | (clear tk2; with_reducible refine wpSeq_loadW 31 (.tmp 3) g3 0 (sgC s (.slice ads ns cps)) _ ?_ Tryd.underlying31 rfl ?_ ?_ ?_ ?_ ?_
       · exact HG3.out.range
       · exact info_sgC HOS.out _
       · rfl
       · rfl
       · rfl)
    | (clear tk3; with_reducible refine wpSeq_buildS (.tmp 9) s (.slice ads ns cps) ?_ ?_ ?_ ?_ ?_
       · exact HOS.out
       · rfl
       · rfl
       · rfl
       intro gq y3 nn
       replace HG2 : Hid (Blk y3 g2 (hdC h) 26) := HG2.out.below nn.below HG2.out.lt
       replace HG3 : Hid (Blk y3 g3 (sgC s (.slice ads ns cps)) 31) := HG3.out.below nn.below HG3.out.lt
       replace HR : Hid (Reads y3 (.slice ads ns cps) s.2) := HR.out.below nn.below
       replace HBW : Hid (Below w.heap.size w y3) := HBW.out.trans (nn.below.mono HBW.out.size)
       have HQ : Hid (ReadsS y3 (.slice (some ⟨gq, 0, none⟩) 1 1) [s]) := readsS_one nn.blk HOS.out HR.out
       clear nn)
    | (clear tk4; go_at_call 16; refine (few11_any _ [s] _ HQ.out).mono ?_; rintro e yf ⟨b, rfl, _, rfl⟩; clear HQ))
  cases b with
  | false =>
    simp only [Bool.not_false]
    have tk20 : Hid True := trivial
    go_wp2_with (first
      | (clear tk20; go_at_call 12; refine (HCW.out yf HBW.out).mono ?_; rintro e y21 ⟨rfl, hbz⟩
         replace HG2 : Hid (Blk y21 g2 (hdC h) 26) := HG2.out.below hbz HG2.out.lt
         replace HG3 : Hid (Blk y21 g3 (sgC s (.slice ads ns cps)) 31) := HG3.out.below hbz HG3.out.lt
         replace HR : Hid (Reads y21 (.slice ads ns cps) s.2) := HR.out.below hbz
         replace HBW : Hid (Below w.heap.size w y21) := HBW.out.trans (hbz.mono HBW.out.size)
         clear hbz ))
    go_ret
    first | exact ⟨rfl, HBW.out⟩ | exact ⟨trivial, HBW.out⟩
  | true =>
    simp only [Bool.not_true]
    have tk20 : Hid True := trivial
    have tk21 : Hid True := trivial
    have tk22 : Hid True := trivial
    have tk23 : Hid True := trivial
    have tk24 : Hid True := trivial
    have tk25 : Hid True := trivial
    have tk26 : Hid True := trivial
    have tk27 : Hid True := trivial
    have tk28 : Hid True := trivial
    have tk29 : Hid True := trivial
    have tk30 : Hid True := trivial
    have tk31 : Hid True := trivial
    have tk32 : Hid True := trivial
    have tk33 : Hid True := trivial
    go_wp2_with (first
      | (clear tk20; with_reducible refine wpSeq_loadW 26 (.tmp 2) g2 0 (hdC h) _ ?_ Tryd.underlying26 rfl ?_ ?_ ?_ ?_ ?_
         · exact HG2.out.range
         · exact info_hdC HOH.out
         · rfl
         · rfl
         · rfl)
      | (clear tk21; with_reducible refine wpSeq_loadW 31 (.tmp 3) g3 0 (sgC s (.slice ads ns cps)) _ ?_ Tryd.underlying31 rfl ?_ ?_ ?_ ?_ ?_
         · exact HG3.out.range
         · exact info_sgC HOS.out _
         · rfl
         · rfl
         · rfl)
      | (clear tk22; go_at_call 14; refine (HC1.out yf HBW.out HR.out).mono ?_; rintro e y21 ⟨rfl, hbz⟩
         replace HG2 : Hid (Blk y21 g2 (hdC h) 26) := HG2.out.below hbz HG2.out.lt
         replace HG3 : Hid (Blk y21 g3 (sgC s (.slice ads ns cps)) 31) := HG3.out.below hbz HG3.out.lt
         replace HR : Hid (Reads y21 (.slice ads ns cps) s.2) := HR.out.below hbz
         replace HBW : Hid (Below w.heap.size w y21) := HBW.out.trans (hbz.mono HBW.out.size)
         clear hbz )
      | (clear tk23; with_reducible refine wpSeq_allocH ?_ ?_ ?_
         · rfl
         · rfl
         intro g5 y22 nn)
      | (clear tk24; with_reducible refine wpSeq_storeRow 26 (.tmp 5) (.tmp 18) g5 (hdC zeroH) (hdC hf) ?_ ?_ ?_ ?_ ?_ ?_ ?_ ?_ ?_
         · exact nn.blk
         · first | (with_reducible rfl) | rw [len_hdC HOF.out, len_hdC okH_zero]
         · exact info_hdC HOF.out
         · exact hdC_one _
         · rfl
         · rfl
         · rfl
         · rfl
         intro y23 hs
         have hbz := nn.below.trans (hs.only.below nn.ge nn.below.size)
         replace HG2 : Hid (Blk y23 g2 (hdC h) 26) := HG2.out.below hbz HG2.out.lt
         replace HG3 : Hid (Blk y23 g3 (sgC s (.slice ads ns cps)) 31) := HG3.out.below hbz HG3.out.lt
         replace HR : Hid (Reads y23 (.slice ads ns cps) s.2) := HR.out.below hbz
         replace HBW : Hid (Below w.heap.size w y23) := HBW.out.trans (hbz.mono HBW.out.size)
         have HG5 : Hid (Blk y23 g5 (hdC hf) 26) := hs.blk
         clear nn hs hbz)
      | (clear tk25; with_reducible refine wpSeq_loadW 26 (.tmp 2) g2 0 (hdC h) _ ?_ Tryd.underlying26 rfl ?_ ?_ ?_ ?_ ?_
         · exact HG2.out.range
         · exact info_hdC HOH.out
         · rfl
         · rfl
         · rfl)
      | (clear tk26; with_reducible refine wpSeq_loadW 31 (.tmp 3) g3 0 (sgC s (.slice ads ns cps)) _ ?_ Tryd.underlying31 rfl ?_ ?_ ?_ ?_ ?_
         · exact HG3.out.range
         · exact info_sgC HOS.out _
         · rfl
         · rfl
         · rfl)
      | (clear tk27; go_at_call 15; refine (HC2.out y23 HBW.out HR.out).mono ?_; rintro e y24 ⟨rfl, hbz⟩
         replace HG2 : Hid (Blk y24 g2 (hdC h) 26) := HG2.out.below hbz HG2.out.lt
         replace HG3 : Hid (Blk y24 g3 (sgC s (.slice ads ns cps)) 31) := HG3.out.below hbz HG3.out.lt
         replace HG5 : Hid (Blk y24 g5 (hdC hf) 26) := HG5.out.below hbz HG5.out.lt
         replace HR : Hid (Reads y24 (.slice ads ns cps) s.2) := HR.out.below hbz
         replace HBW : Hid (Below w.heap.size w y24) := HBW.out.trans (hbz.mono HBW.out.size)
         clear hbz )
      | (clear tk28; with_reducible refine wpSeq_allocH ?_ ?_ ?_
         · rfl
         · rfl
         intro g7 y25 nn)
      | (clear tk29; with_reducible refine wpSeq_storeRow 26 (.tmp 7) (.tmp 24) g7 (hdC zeroH) (hdC hf) ?_ ?_ ?_ ?_ ?_ ?_ ?_ ?_ ?_
         · exact nn.blk
         · first | (with_reducible rfl) | rw [len_hdC HOF.out, len_hdC okH_zero]
         · exact info_hdC HOF.out
         · exact hdC_one _
         · rfl
         · rfl
         · rfl
         · rfl
         intro y26 hs
         have hbz := nn.below.trans (hs.only.below nn.ge nn.below.size)
         replace HG2 : Hid (Blk y26 g2 (hdC h) 26) := HG2.out.below hbz HG2.out.lt
         replace HG3 : Hid (Blk y26 g3 (sgC s (.slice ads ns cps)) 31) := HG3.out.below hbz HG3.out.lt
         replace HG5 : Hid (Blk y26 g5 (hdC hf) 26) := HG5.out.below hbz HG5.out.lt
         replace HR : Hid (Reads y26 (.slice ads ns cps) s.2) := HR.out.below hbz
         replace HBW : Hid (Below w.heap.size w y26) := HBW.out.trans (hbz.mono HBW.out.size)
         have HG7 : Hid (Blk y26 g7 (hdC hf) 26) := hs.blk
         clear nn hs hbz)
      | (clear tk30; with_reducible refine wpSeq_loadW 26 (.tmp 5) g5 0 (hdC hf) _ ?_ Tryd.underlying26 rfl ?_ ?_ ?_ ?_ ?_
         · exact HG5.out.range
         · exact info_hdC HOF.out
         · rfl
         · rfl
         · rfl)
      | (clear tk31; with_reducible refine wpSeq_loadW 26 (.tmp 7) g7 0 (hdC hf) _ ?_ Tryd.underlying26 rfl ?_ ?_ ?_ ?_ ?_
         · exact HG7.out.range
         · exact info_hdC HOF.out
         · rfl
         · rfl
         · rfl)
      | (clear tk32; with_reducible refine wpSeq_eqH (.tmp 26) (.tmp 27) hf hf HOF.out HOF.out true ?_ ?_ ?_ ?_ ?_ ?_
         · exact (decide_eq_true rfl).symm
         · rfl
         · rfl
         · rfl
         · rfl)
      | (clear tk33; go_at_call 12; refine (HCW.out y26 HBW.out).mono ?_; rintro e y27 ⟨rfl, hbz⟩
         replace HG2 : Hid (Blk y27 g2 (hdC h) 26) := HG2.out.below hbz HG2.out.lt
         replace HG3 : Hid (Blk y27 g3 (sgC s (.slice ads ns cps)) 31) := HG3.out.below hbz HG3.out.lt
         replace HG5 : Hid (Blk y27 g5 (hdC hf) 26) := HG5.out.below hbz HG5.out.lt
         replace HG7 : Hid (Blk y27 g7 (hdC hf) 26) := HG7.out.below hbz HG7.out.lt
         replace HR : Hid (Reads y27 (.slice ads ns cps) s.2) := HR.out.below hbz
         replace HBW : Hid (Below w.heap.size w y27) := HBW.out.trans (hbz.mono HBW.out.size)
         clear hbz ))
    go_ret
    first | exact ⟨rfl, HBW.out⟩ | exact ⟨trivial, HBW.out⟩
set_option maxRecDepth 100000 in
set_option maxHeartbeats 8000000 in
theorem chainWalks_law (hO : ChOps) (h : HdT) (v : Value) (l : List SgT) (w : World) (hK : KOk w) (oh : okH h) (hr : ReadsS w v l) :
    Calls Tryd.prog 5 #[.agg (hdC h).toArray, v] w fun e w' => e = .returned (.bool true) ∧ Below w.heap.size w w' := by
  obtain ⟨⟨ad, cp, hv, hq1, hq2, hq3⟩, hok⟩ := id hr
  clear hq1 hq2 hq3
  obtain ⟨n, HN⟩ : ∃ n, Hid (n = l.length) := ⟨_, rfl⟩
  rw [← HN.out] at hv
  subst hv
  have HR : Hid (ReadsS w (.slice ad n cp) l) := hr
  have HCW : Hid (∀ W : World, Below w.heap.size w W → Calls Tryd.prog 12 #[] W fun e w' => e = .returned (.bool true) ∧ Below W.heap.size W w') := fun W hh => works11_any hO W (hK.below hh hK.lt)
  have HOH : Hid (okH h) := oh
  have HOF : Hid (okH (walkR h l).1) := walk_okH l h oh hok
  obtain ⟨hf, HHF⟩ : ∃ c, Hid (c = (walkR h l).1) := ⟨_, rfl⟩
  obtain ⟨nf, HNF⟩ : ∃ c, Hid (c = (walkR h l).2.1) := ⟨_, rfl⟩
  obtain ⟨ef, HEF⟩ : ∃ c, Hid (c = (walkR h l).2.2) := ⟨_, rfl⟩
  rw [← HHF.out] at HOF
  have HC1 : Hid (∀ W : World, Below w.heap.size w W → ReadsS W (.slice ad n cp) l → l.length ≤ 40 → Calls Tryd.prog 17 #[.agg (hdC h).toArray, .slice ad n cp] W fun e w' => e = .returned (.tuple #[.agg (hdC hf).toArray, .int .i64 (nf : Int), .int .i64 ef]) ∧ Below W.heap.size W w') := fun W hh hr h40 => by rw [HHF.out, HEF.out, HNF.out]; exact hO.walk W h _ l (hK.below hh hK.lt) oh hr (by omega)
  have HC2 : Hid (∀ W : World, Below w.heap.size w W → ReadsS W (.slice ad n cp) l → l.length ≤ 40 → Calls Tryd.prog 18 #[.agg (hdC h).toArray, .slice ad n cp] W fun e w' => e = .returned (.tuple #[.agg (hdC hf).toArray, .int .i64 (nf : Int), .int .i64 ef]) ∧ Below W.heap.size W w') := fun W hh hr h40 => by rw [HHF.out, HEF.out, HNF.out]; exact qcWalk_any h _ l W oh hr (by omega)
  have HBW : Hid (Below w.heap.size w w) := Below.refl _ _
  clear hO hK oh hr hok HHF HEF HNF
  go_enter Tryd.func5, Tryd.ntmps5
  have tk0 : Hid True := trivial
  have tk1 : Hid True := trivial
  go_upto_if 13 with (first
    | (clear tk0; with_reducible refine wpSeq_boxW 26 (.tmp 0) (hdC h) ?_ ?_ ?_ ?_
       · rfl
       · rfl
       · rfl
       intro g2 y1 nn
       replace HR : Hid (ReadsS y1 (.slice ad n cp) l) := HR.out.below nn.below
       replace HBW : Hid (Below w.heap.size w y1) := HBW.out.trans (nn.below.mono HBW.out.size)
       have HG2 : Hid (Blk y1 g2 (hdC h) 26) := nn.blk
       clear nn)
    | (clear tk1; go_at_call 16; refine (few11_any _ l _ HR.out).mono ?_; rintro e yf ⟨b, rfl, hb40, rfl⟩))
  cases b with
  | false =>
    simp only [Bool.not_false]
    have tk20 : Hid True := trivial
    go_wp2_with (first
      | (clear tk20; go_at_call 12; refine (HCW.out yf HBW.out).mono ?_; rintro e y21 ⟨rfl, hbz⟩
         replace HG2 : Hid (Blk y21 g2 (hdC h) 26) := HG2.out.below hbz HG2.out.lt
         replace HR : Hid (ReadsS y21 (.slice ad n cp) l) := HR.out.below hbz
         replace HBW : Hid (Below w.heap.size w y21) := HBW.out.trans (hbz.mono HBW.out.size)
         clear hbz ))
    go_ret
    first | exact ⟨rfl, HBW.out⟩ | exact ⟨trivial, HBW.out⟩
  | true =>
    have HL40 : Hid (l.length ≤ 40) := hb40 rfl
    clear hb40
    simp only [Bool.not_true]
    have tk20 : Hid True := trivial
    have tk21 : Hid True := trivial
    have tk22 : Hid True := trivial
    have tk23 : Hid True := trivial
    have tk24 : Hid True := trivial
    have tk25 : Hid True := trivial
    have tk26 : Hid True := trivial
    have tk27 : Hid True := trivial
    have tk28 : Hid True := trivial
    have tk29 : Hid True := trivial
    have tk30 : Hid True := trivial
    have tk31 : Hid True := trivial
    go_wp2_with (first
      | (clear tk20; with_reducible refine wpSeq_loadW 26 (.tmp 2) g2 0 (hdC h) _ ?_ Tryd.underlying26 rfl ?_ ?_ ?_ ?_ ?_
         · exact HG2.out.range
         · exact info_hdC HOH.out
         · rfl
         · rfl
         · rfl)
      | (clear tk21; go_at_call 17; refine (HC1.out yf HBW.out HR.out HL40.out).mono ?_; rintro e y21 ⟨rfl, hbz⟩
         replace HG2 : Hid (Blk y21 g2 (hdC h) 26) := HG2.out.below hbz HG2.out.lt
         replace HR : Hid (ReadsS y21 (.slice ad n cp) l) := HR.out.below hbz
         replace HBW : Hid (Below w.heap.size w y21) := HBW.out.trans (hbz.mono HBW.out.size)
         clear hbz )
      | (clear tk22; with_reducible refine wpSeq_allocH ?_ ?_ ?_
         · rfl
         · rfl
         intro g5 y22 nn)
      | (clear tk23; with_reducible refine wpSeq_storeRow 26 (.tmp 5) (.tmp 19) g5 (hdC zeroH) (hdC hf) ?_ ?_ ?_ ?_ ?_ ?_ ?_ ?_ ?_
         · exact nn.blk
         · first | (with_reducible rfl) | rw [len_hdC HOF.out, len_hdC okH_zero]
         · exact info_hdC HOF.out
         · exact hdC_one _
         · rfl
         · rfl
         · rfl
         · rfl
         intro y23 hs
         have hbz := nn.below.trans (hs.only.below nn.ge nn.below.size)
         replace HG2 : Hid (Blk y23 g2 (hdC h) 26) := HG2.out.below hbz HG2.out.lt
         replace HR : Hid (ReadsS y23 (.slice ad n cp) l) := HR.out.below hbz
         replace HBW : Hid (Below w.heap.size w y23) := HBW.out.trans (hbz.mono HBW.out.size)
         have HG5 : Hid (Blk y23 g5 (hdC hf) 26) := hs.blk
         clear nn hs hbz)
      | (clear tk24; with_reducible refine wpSeq_loadW 26 (.tmp 2) g2 0 (hdC h) _ ?_ Tryd.underlying26 rfl ?_ ?_ ?_ ?_ ?_
         · exact HG2.out.range
         · exact info_hdC HOH.out
         · rfl
         · rfl
         · rfl)
      | (clear tk25; go_at_call 18; refine (HC2.out y23 HBW.out HR.out HL40.out).mono ?_; rintro e y24 ⟨rfl, hbz⟩
         replace HG2 : Hid (Blk y24 g2 (hdC h) 26) := HG2.out.below hbz HG2.out.lt
         replace HG5 : Hid (Blk y24 g5 (hdC hf) 26) := HG5.out.below hbz HG5.out.lt
         replace HR : Hid (ReadsS y24 (.slice ad n cp) l) := HR.out.below hbz
         replace HBW : Hid (Below w.heap.size w y24) := HBW.out.trans (hbz.mono HBW.out.size)
         clear hbz )
      | (clear tk26; with_reducible refine wpSeq_allocH ?_ ?_ ?_
         · rfl
         · rfl
         intro g8 y25 nn)
      | (clear tk27; with_reducible refine wpSeq_storeRow 26 (.tmp 8) (.tmp 26) g8 (hdC zeroH) (hdC hf) ?_ ?_ ?_ ?_ ?_ ?_ ?_ ?_ ?_
         · exact nn.blk
         · first | (with_reducible rfl) | rw [len_hdC HOF.out, len_hdC okH_zero]
         · exact info_hdC HOF.out
         · exact hdC_one _
         · rfl
         · rfl
         · rfl
         · rfl
         intro y26 hs
         have hbz := nn.below.trans (hs.only.below nn.ge nn.below.size)
         replace HG2 : Hid (Blk y26 g2 (hdC h) 26) := HG2.out.below hbz HG2.out.lt
         replace HG5 : Hid (Blk y26 g5 (hdC hf) 26) := HG5.out.below hbz HG5.out.lt
         replace HR : Hid (ReadsS y26 (.slice ad n cp) l) := HR.out.below hbz
         replace HBW : Hid (Below w.heap.size w y26) := HBW.out.trans (hbz.mono HBW.out.size)
         have HG8 : Hid (Blk y26 g8 (hdC hf) 26) := hs.blk
         clear nn hs hbz)
      | (clear tk28; with_reducible refine wpSeq_loadW 26 (.tmp 5) g5 0 (hdC hf) _ ?_ Tryd.underlying26 rfl ?_ ?_ ?_ ?_ ?_
         · exact HG5.out.range
         · exact info_hdC HOF.out
         · rfl
         · rfl
         · rfl)
      | (clear tk29; with_reducible refine wpSeq_loadW 26 (.tmp 8) g8 0 (hdC hf) _ ?_ Tryd.underlying26 rfl ?_ ?_ ?_ ?_ ?_
         · exact HG8.out.range
         · exact info_hdC HOF.out
         · rfl
         · rfl
         · rfl)
      | (clear tk30; with_reducible refine wpSeq_eqH (.tmp 29) (.tmp 30) hf hf HOF.out HOF.out true ?_ ?_ ?_ ?_ ?_ ?_
         · exact (decide_eq_true rfl).symm
         · rfl
         · rfl
         · rfl
         · rfl)
      | (clear tk31; go_at_call 12; refine (HCW.out y26 HBW.out).mono ?_; rintro e y27 ⟨rfl, hbz⟩
         replace HG2 : Hid (Blk y27 g2 (hdC h) 26) := HG2.out.below hbz HG2.out.lt
         replace HG5 : Hid (Blk y27 g5 (hdC hf) 26) := HG5.out.below hbz HG5.out.lt
         replace HG8 : Hid (Blk y27 g8 (hdC hf) 26) := HG8.out.below hbz HG8.out.lt
         replace HR : Hid (ReadsS y27 (.slice ad n cp) l) := HR.out.below hbz
         replace HBW : Hid (Below w.heap.size w y27) := HBW.out.trans (hbz.mono HBW.out.size)
         clear hbz ))
    go_ret
    first | exact ⟨rfl, HBW.out⟩ | exact ⟨trivial, HBW.out⟩
end Go.Proofs.YtfbdnhadcnmfoaaDoor

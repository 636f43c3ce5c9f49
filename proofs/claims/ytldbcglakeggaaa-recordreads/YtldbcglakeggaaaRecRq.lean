/- The walks of record's readRequest. -/
import Derived.Test.YtldbcglakeggaaaRecRd
namespace Go.Proofs.Ytldbcglakeggaaa
open Go.RowKit
theorem buildReq (f : Operand → Value) (o : Oper) (a b c : Operand) (ho : o.op = .build 38 #[(0, a), (1, b), (2, c)]) (z : Int) (s : ByteArray) (ad : Option Addr) (n cp : Nat) (ha : f a = .int .i64 z) (hb : f b = .string s) (hc : f c = .slice ad n cp) (w : World) :
    (execOp f o).run Try.prog w = .ok (.value (.agg (.int .i64 z :: .string s :: .slice ad n cp :: cb zb32).toArray)) w := by
  unfold execOp
  rw [ho]
  simp only [List.map_toArray, List.map_cons, List.map_nil, ha, hb, hc]
  kernel_rfl
theorem allocReqAt (f : Operand → Value) (o : Oper) (ho : o.op = .alloc 38) {w : World} {n : Nat} (hn : w.heap.size = n) : (execOp f o).run Try.prog w = .ok (.value (.pointer (some ⟨n, 0, none⟩))) (w.alloc (.cells reqK.z.toArray 38)) := by
  subst hn
  exact allocRequest f o ho w
theorem reqV_one {kd : Int} {nm au : List (BitVec 8)} {vk : Value} (h : vk.oneCell' = true) : ∀ v ∈ reqV kd nm vk au, v.oneCell' = true := by
  intro v hv
  simp only [reqV, List.mem_cons] at hv
  rcases hv with rfl | rfl | rfl | hv
  · rfl
  · rfl
  · exact h
  · exact cb_one' hv
set_option maxRecDepth 100000 in
set_option maxHeartbeats 2000000 in
theorem readRequest_one : OneDoes reqK 51 reqS := by
  intro gr gi v l w h
  have HVB : Hid (0 < l.length → ∀ k, v.ownBlock = some k → k < w.heap.size) := h.byt.inB
  have HGI : Hid (gi < w.heap.size) := h.inp.lt
  have HNK : Hid (Nk w gr gi v v l 38 reqK.z (w.alloc (.cells reqK.z.toArray 38))) := ⟨h.below (below_alloc _ _), Only.of_below (below_alloc _ _), rfl, Blk.new _ _ _, h.rd.lt, h.inp.lt⟩
  clear h
  go_enter Try.func51, Try.ntmps51
  go_wp2_with fail
  change Calls _ _ _ (w.alloc (.cells reqK.z.toArray 38)) _
  generalize w.alloc (.cells reqK.z.toArray 38) = w0 at *
  refine (count_any gr gi 2 (by omega) v l w0 HNK.out.rd).mono ?_
  rintro e w1 (⟨k, r1, va1, v1, hc, rfl, rfl, hrd, ho, hob⟩ | ⟨hc, hT⟩)
  case inr =>
    have HD : Hid (RdDoes gr gi v w (reqS l) (fun a w' v => ∃ cs : List Value, v = .agg cs.toArray ∧ reqK.G w' w.heap.size a cs) (thrown gi) w1) := Or.inr ⟨reqS_none hc, Threw.after HNK.out.onl (hT.eq ▸ hT)⟩
    obtain rfl := hT.eq
    unfold thrown at HD ⊢
    clear hT
    go_wp2
    exact ⟨rfl, HD.out⟩
  have HS1 : Hid (readCount 2 l = some (k, r1)) := hc
  have HK2 : Hid (k ≤ 2) := readCount_le hc
  have HVV : Hid (∀ k, v.ownBlock = some k → k < w.heap.size) := HVB.out (readCount_nil _ _ _ _ hc)
  have HNK2 : Hid _ := HNK.out.call hrd ho hob
  clear HNK hrd ho hob hc
  have HNK := HNK2
  clear HNK2
  obtain ⟨z, HZ⟩ : ∃ z : Int, Hid (z = (k : Int)) := ⟨_, rfl⟩
  rw [← HZ.out]
  by_cases hk1 : k < 1
  · have hz1 : z < 1 := by have := HZ.out; omega
    have HNo : Hid (reqS l = none) := reqS_low HS1.out hk1
    clear hk1
    go_wp2_with fail
    refine (cfail_any gr gi v1 r1 w1 HNK.out.rd).mono ?_
    rintro e w4 ⟨rfl, hw4⟩
    have HD : Hid (RdDoes gr gi v w (reqS l) (fun a w' v => ∃ cs : List Value, v = .agg cs.toArray ∧ reqK.G w' w.heap.size a cs) (thrown gi) w4) := by rw [hw4]; exact Or.inr ⟨HNo.out, Threw.after HNK.out.onl HNK.out.rd.threw⟩
    unfold thrown at HD ⊢
    clear hw4 HNK
    go_wp2
    exact ⟨rfl, HD.out⟩
  have hz1 : ¬ (z < 1) := by have := HZ.out; omega
  have HK1 : Hid (¬ k < 1) := hk1
  clear hk1
  go_wp2_with fail
  refine (readNK_any gr gi v1 r1 w1 HNK.out.rd).mono ?_
  rintro e w2 (⟨⟨nm, ky⟩, r2, va, v2, hc, rfl, ⟨vk, rfl, hown⟩, hrd, ho, hob⟩ | ⟨hc, hT⟩)
  case inr =>
    have HD : Hid (RdDoes gr gi v w (reqS l) (fun a w' v => ∃ cs : List Value, v = .agg cs.toArray ∧ reqK.G w' w.heap.size a cs) (thrown gi) w2) := Or.inr ⟨reqS_nk HS1.out hc, Threw.after HNK.out.onl (hT.eq ▸ hT)⟩
    obtain rfl := hT.eq
    unfold thrown at HD ⊢
    clear hT
    go_wp2
    exact ⟨rfl, HD.out⟩
  have HSA := reqS_is HS1.out HK1.out hc
  replace HSA : Hid _ := HSA
  have H8 : OwnB w2 (w.heap.size + 1) vk ky := hown.mono HNK.out.res.lt
  have hNK2 := HNK.out.call hrd ho hob
  obtain ⟨adk, cpk, hvk, _, _, _⟩ := id H8.reads
  obtain ⟨nk, HNKK⟩ : ∃ n, Hid (n = ky.length) := ⟨_, rfl⟩
  rw [← HNKK.out] at hvk
  subst hvk
  have HVK : Hid (∀ k, Value.ownBlock (.slice adk nk cpk) = some k → w.heap.size < k ∧ k < w2.heap.size) := fun k hk => ⟨H8.own k hk, H8.lt k hk⟩
  have HGL : Hid (w.heap.size < w2.heap.size) := hNK2.res.lt
  have HG3 : Hid (Blk (w2.alloc (.cells bindK.z.toArray 25)) w2.heap.size bindK.z 25) := Blk.new _ _ _
  have hat4 : At w2.heap.size (w2.alloc (.cells bindK.z.toArray 25)) ((w2.alloc (.cells bindK.z.toArray 25)).setCells w2.heap.size 0 (bindV nm (.slice adk nk cpk) 0)) := At.setCells _ _ _ (At.refl _ _)
  have hG4 : Blk ((w2.alloc (.cells bindK.z.toArray 25)).setCells w2.heap.size 0 (bindV nm (.slice adk nk cpk) 0)) w2.heap.size (bindV nm (.slice adk nk cpk) 0) 25 := HG3.out.whole _ rfl
  have c0 : ((w2.alloc (.cells bindK.z.toArray 25)).setCells w2.heap.size 0 (bindV nm (.slice adk nk cpk) 0)).cell? ⟨w2.heap.size, 0, none⟩ = some (.string (strB nm)) := hG4.cell 0
  have c1 : ((w2.alloc (.cells bindK.z.toArray 25)).setCells w2.heap.size 0 (bindV nm (.slice adk nk cpk) 0)).cell? ⟨w2.heap.size, 1, none⟩ = some (.slice adk nk cpk) := hG4.cell 1
  have h84 : OwnB ((w2.alloc (.cells bindK.z.toArray 25)).setCells w2.heap.size 0 (bindV nm (.slice adk nk cpk) 0)) (w.heap.size + 1) (.slice adk nk cpk) ky := (H8.below (below_alloc _ _) (Nat.le_refl _)).same (fun k hk => hat4.block k (by have := (HVK.out k hk).2; omega))
  have hNK4 := (hNK2.below (below_alloc w2 (.cells bindK.z.toArray 25))).at hat4 HGL.out HVV.out
  have hsz4 : ((w2.alloc (.cells bindK.z.toArray 25)).setCells w2.heap.size 0 (bindV nm (.slice adk nk cpk) 0)).heap.size = w2.heap.size + 1 := by rw [hat4.size]; simp
  have H84 : Hid (OwnB ((w2.alloc (.cells bindK.z.toArray 25)).setCells w2.heap.size 0 (bindV nm (.slice adk nk cpk) 0)) (w.heap.size + 1) (.slice adk nk cpk) ky) := h84
  have HNK4 : Hid (Nk w gr gi v v2 r2 38 reqK.z ((w2.alloc (.cells bindK.z.toArray 25)).setCells w2.heap.size 0 (bindV nm (.slice adk nk cpk) 0))) := hNK4
  have HSZ4 : Hid (((w2.alloc (.cells bindK.z.toArray 25)).setCells w2.heap.size 0 (bindV nm (.slice adk nk cpk) 0)).heap.size = w2.heap.size + 1) := hsz4
  have H1V : Hid (Value.oneCell' (.slice adk nk cpk) = true) := rfl
  obtain ⟨cs0, HC0⟩ : ∃ cs0, Hid (cs0 = reqV z nm (.slice adk nk cpk) zb32) := ⟨_, rfl⟩
  have HLC : Hid (cs0.length = 35) := by show _ = _; rw [HC0.out]; rfl
  have H1R : Hid (cs0.toArray.all (·.oneCell') = true) := all_oneCell_toArray (by rw [HC0.out]; exact reqV_one H1V.out)
  have HIR : Hid ((Try.prog.info? 38).map (·.size) = some cs0.toArray.size) := by show _ = _; rw [List.size_toArray, HLC.out]; kernel_rfl
  clear hown hrd ho hob hc H8 hNK2 hat4 hG4 h84 hNK4 hsz4 HNK
  by_cases hk2 : k = 2
  · have hz2 : z = 2 := by have := HZ.out; omega
    have HAU : Hid (authR k r2 = cut 32 r2) := by show _ = _; unfold authR; rw [if_pos hk2]
    clear hk2
    subst hz2
    go_wp2_with (first
      | (refine wpSeq_val (.pointer (some ⟨w2.heap.size, 0, none⟩)) (w2.alloc (.cells bindK.z.toArray 25)) (by rfl) (allocBinding _ _ rfl _) ?_)
      | (refine wpList_store_mid rfl 25 _ _ rfl w2.heap.size 0 (bindV nm (.slice adk nk cpk) 0).toArray rfl rfl (HG3.out.there 0 _ (by simp [bindK, bindV])) (by kernel_rfl) (all_oneCell_toArray (bindV_one H1V.out)) ?_
         change wpList _ _ _ _ _ ((w2.alloc (.cells bindK.z.toArray 25)).setCells w2.heap.size 0 (bindV nm (.slice adk nk cpk) 0))
         clear HG3
         generalize ((w2.alloc (.cells bindK.z.toArray 25)).setCells w2.heap.size 0 (bindV nm (.slice adk nk cpk) 0)) = w4 at *)
      | (refine wpSeq_val (.agg cs0.toArray) _ (by rfl) (by rw [HC0.out]; exact buildReq _ _ _ _ _ rfl 2 (strB nm) adk nk cpk rfl rfl rfl _) ?_)
      | (refine wpSeq_val _ _ (by rfl) (allocRequest _ _ rfl _) ?_)
      | (refine wpList_store_mid rfl 38 _ _ rfl w4.heap.size 0 cs0.toArray rfl rfl ((Blk.new w4 reqK.z 38).there 0 _ (by rw [List.size_toArray, HLC.out]; decide)) HIR.out H1R.out ?_
         change wpList _ _ _ _ _ ((w4.alloc (.cells reqK.z.toArray 38)).setCells w4.heap.size 0 cs0)
         have hat6 : At w4.heap.size (w4.alloc (.cells reqK.z.toArray 38)) ((w4.alloc (.cells reqK.z.toArray 38)).setCells w4.heap.size 0 cs0) := At.setCells _ _ _ (At.refl _ _)
         have HGA : Hid (Blk ((w4.alloc (.cells reqK.z.toArray 38)).setCells w4.heap.size 0 cs0) w4.heap.size cs0 38) := (Blk.new w4 reqK.z 38).whole cs0 HLC.out
         have H86 : Hid (OwnB ((w4.alloc (.cells reqK.z.toArray 38)).setCells w4.heap.size 0 cs0) (w.heap.size + 1) (.slice adk nk cpk) ky) := (H84.out.below (below_alloc _ _) (Nat.le_refl _)).same (fun k hk => hat6.block k (by have h1 := (HVK.out k hk).2; have h2 := HSZ4.out; omega))
         have HNK : Hid _ := (HNK4.out.below (below_alloc w4 (.cells reqK.z.toArray 38))).at hat6 (by have h1 := HGL.out; have h2 := HSZ4.out; omega) HVV.out
         have HGL6 : Hid (w.heap.size < w4.heap.size ∧ ∀ k, Value.ownBlock (.slice adk nk cpk) = some k → k < w4.heap.size) := ⟨by have h1 := HGL.out; have h2 := HSZ4.out; omega, fun k hk => by have h1 := (HVK.out k hk).2; have h2 := HSZ4.out; omega⟩
         clear hat6 H84 HNK4 HSZ4 c0 c1
         generalize ((w4.alloc (.cells reqK.z.toArray 38)).setCells w4.heap.size 0 cs0) = w6 at *
         generalize w4.heap.size = ga at *))
    refine (crdigest_any gr gi v2 r2 w6 HNK.out.rd).mono ?_
    rintro e w7 (⟨au, r3, va3, v3, hc, rfl, rfl, hrd, ho, hob⟩ | ⟨hc, hT⟩)
    case inr =>
      have HD : Hid (RdDoes gr gi v w (reqS l) (fun a w' v => ∃ cs : List Value, v = .agg cs.toArray ∧ reqK.G w' w.heap.size a cs) (thrown gi) w7) := Or.inr ⟨(by rw [HSA.out, HAU.out, hc]), Threw.after HNK.out.onl (hT.eq ▸ hT)⟩
      obtain rfl := hT.eq
      unfold thrown at HD ⊢
      clear hT
      go_wp2
      exact ⟨rfl, HD.out⟩
    have HSP : Hid (reqS l = some ((k, nm, ky, au), r3)) := by show _ = _; rw [HSA.out, HAU.out, hc]
    have HDL : Hid (au.length = 32) := cut32_len hc
    have hGA := HGA.out.only ho (by have := HGL6.out.1; have := HGI.out; omega)
    have HTD : Hid (w7.there ga 3 (cb au).toArray.size) := hGA.there 3 _ (by rw [List.size_toArray, cb_len, HDL.out, HLC.out]; omega)
    have HIZ : Hid ((Try.prog.info? 28).map (·.size) = some (cb au).toArray.size) := by show _ = _; rw [List.size_toArray, cb_len, HDL.out]; exact Try.infodig
    have hat : At ga w7 (w7.setCells ga 3 (cb au)) := At.setCells _ _ _ (At.refl _ _)
    have HGB : Hid (Blk (w7.setCells ga 3 (cb au)) ga (reqV 2 nm (.slice adk nk cpk) au) 38) := reqV_put len_zb32 HDL.out (HC0.out ▸ hGA)
    have H8 : Hid (OwnB (w7.setCells ga 3 (cb au)) (w.heap.size + 1) (.slice adk nk cpk) ky) := (H86.out.onlyK ho (by have := HGI.out; omega)).same (fun k hk => hat.block k (by have := HGL6.out.2 k hk; omega))
    have HNK2 : Hid _ := (HNK.out.call hrd ho hob).at hat HGL6.out.1 HVV.out
    clear HNK HGA hrd ho hob hc hGA hat H86
    have HNK := HNK2
    have HGA := HGB
    clear HNK2 HGB
    obtain ⟨w5, HW5⟩ : ∃ x, Hid (x = w7.setCells ga 3 (cb au)) := ⟨_, rfl⟩
    rw [← HW5.out] at HGA H8 HNK
    have HRES : Hid (Blk w5 w.heap.size reqK.z 38) := HNK.out.res
    have HGG : Hid (reqK.G w5 (w.heap.size + 1) (k, nm, ky, au) (reqV 2 nm (.slice adk nk cpk) au)) := ⟨_, by rw [← HZ.out], H8.out, HDL.out, HK2.out⟩
    have HI : Hid ((Try.prog.info? 38).map (·.size) = some ((reqV 2 nm (.slice adk nk cpk) au)).length) := by have := reqK_ok.size HGG.out; rw [List.size_toArray] at this; exact this
    have H1 : Hid (((reqV 2 nm (.slice adk nk cpk) au)).toArray.all (·.oneCell') = true) := all_oneCell_toArray (reqK_ok.one HGG.out)
    have HLN : Hid (((reqV 2 nm (.slice adk nk cpk) au)).length = reqK.z.length) := reqK_ok.len HGG.out
    obtain ⟨cs, HCS⟩ : ∃ cs, Hid (cs = (reqV 2 nm (.slice adk nk cpk) au)) := ⟨_, rfl⟩
    rw [← HCS.out] at HGA HGG HI H1 HLN
    clear HCS
    clear H8
    go_wp2_with (first | (refine wpSeq_val (.agg cs.toArray) _ (by rfl) (load_run 38 _ rfl ga 0 rfl cs _ (HW5.out ▸ HGA.out.range) Try.underlying38 rfl HI.out) ?_) | (refine wpList_store_mid rfl 28 _ _ rfl ga 3 (cb au).toArray rfl rfl HTD.out HIZ.out (all_oneCell_toArray (cb_one au)) ?_) | (refine wpList_store_mid rfl 38 _ _ rfl w.heap.size 0 cs.toArray rfl rfl (HW5.out ▸ HRES.out.there 0 _ (by rw [List.size_toArray, HLN.out]; omega)) (by rw [List.size_toArray]; exact HI.out) H1.out ?_))
    rw [← HW5.out]
    have hat : At w.heap.size w5 (w5.setCells w.heap.size 0 cs) := At.setCells _ _ _ (At.refl _ _)
    have hB6 : Blk (w5.setCells w.heap.size 0 cs) w.heap.size cs 38 := HRES.out.whole cs HLN.out
    refine bodyPost_ret (v := .agg cs.toArray) (results_cell_row (by rfl) _ _ w.heap.size 38 _ (0, 0) _ rfl hB6 Try.underlying38 rfl (by rw [List.size_toArray]; exact HI.out)) rfl (Or.inl ⟨(k, nm, ky, au), r3, _, _, HSP.out, rfl, ⟨_, rfl, ?_⟩, ?_, ?_, HNK.out.ob⟩)
    · exact reqK_ok.mono (reqK_ok.same HGG.out fun k h1 _ => hat.block k (by omega)) (Nat.le_succ _)
    · exact HNK.out.rdAt hat (Nat.le_refl _) HVV.out
    · exact HNK.out.onlAt hat (Nat.le_refl _)
  · have hz2 : ¬ (z = 2) := by have := HZ.out; omega
    have HSP : Hid (reqS l = some ((k, nm, ky, zb32), r2)) := by show _ = _; rw [HSA.out]; unfold authR; rw [if_neg hk2]; rfl
    clear hk2
    have HIL : Hid ((Try.prog.info? 38).map (·.size) = some cs0.length) := by show _ = _; rw [HLC.out]; kernel_rfl
    go_wp2_with (first
      | (refine wpSeq_val (.pointer (some ⟨w2.heap.size, 0, none⟩)) (w2.alloc (.cells bindK.z.toArray 25)) (by rfl) (allocBinding _ _ rfl _) ?_)
      | (refine wpList_store_mid rfl 25 _ _ rfl w2.heap.size 0 (bindV nm (.slice adk nk cpk) 0).toArray rfl rfl (HG3.out.there 0 _ (by simp [bindK, bindV])) (by kernel_rfl) (all_oneCell_toArray (bindV_one H1V.out)) ?_
         change wpList _ _ _ _ _ ((w2.alloc (.cells bindK.z.toArray 25)).setCells w2.heap.size 0 (bindV nm (.slice adk nk cpk) 0))
         clear HG3
         generalize ((w2.alloc (.cells bindK.z.toArray 25)).setCells w2.heap.size 0 (bindV nm (.slice adk nk cpk) 0)) = w4 at *)
      | (refine wpSeq_val (.agg cs0.toArray) _ (by rfl) (by rw [HC0.out]; exact buildReq _ _ _ _ _ rfl z (strB nm) adk nk cpk rfl rfl rfl _) ?_)
      | (refine wpSeq_val _ _ (by rfl) (allocRequest _ _ rfl _) ?_)
      | (refine wpList_store_mid rfl 38 _ _ rfl w4.heap.size 0 cs0.toArray rfl rfl ((Blk.new w4 reqK.z 38).there 0 _ (by rw [List.size_toArray, HLC.out]; decide)) HIR.out H1R.out ?_
         change wpList _ _ _ _ _ ((w4.alloc (.cells reqK.z.toArray 38)).setCells w4.heap.size 0 cs0)
         have hat6 : At w4.heap.size (w4.alloc (.cells reqK.z.toArray 38)) ((w4.alloc (.cells reqK.z.toArray 38)).setCells w4.heap.size 0 cs0) := At.setCells _ _ _ (At.refl _ _)
         have HGA : Hid (Blk ((w4.alloc (.cells reqK.z.toArray 38)).setCells w4.heap.size 0 cs0) w4.heap.size cs0 38) := (Blk.new w4 reqK.z 38).whole cs0 HLC.out
         have H86 : Hid (OwnB ((w4.alloc (.cells reqK.z.toArray 38)).setCells w4.heap.size 0 cs0) (w.heap.size + 1) (.slice adk nk cpk) ky) := (H84.out.below (below_alloc _ _) (Nat.le_refl _)).same (fun k hk => hat6.block k (by have h1 := (HVK.out k hk).2; have h2 := HSZ4.out; omega))
         have HNK : Hid _ := (HNK4.out.below (below_alloc w4 (.cells reqK.z.toArray 38))).at hat6 (by have h1 := HGL.out; have h2 := HSZ4.out; omega) HVV.out
         have HGL6 : Hid (w.heap.size < w4.heap.size ∧ ∀ k, Value.ownBlock (.slice adk nk cpk) = some k → k < w4.heap.size) := ⟨by have h1 := HGL.out; have h2 := HSZ4.out; omega, fun k hk => by have h1 := (HVK.out k hk).2; have h2 := HSZ4.out; omega⟩
         clear hat6 H84 HNK4 HSZ4 c0 c1
         generalize ((w4.alloc (.cells reqK.z.toArray 38)).setCells w4.heap.size 0 cs0) = w6 at *
         generalize w4.heap.size = ga at *)
      | (refine wpSeq_val (.agg cs0.toArray) _ (by rfl) (load_run 38 _ rfl ga 0 rfl cs0 _ HGA.out.range Try.underlying38 rfl HIL.out) ?_)
      | (refine wpList_store_mid rfl 38 _ _ rfl w.heap.size 0 cs0.toArray rfl rfl (HNK.out.res.there 0 _ (by rw [List.size_toArray, HLC.out]; decide)) HIR.out H1R.out ?_))
    have HRES := HNK.out.res
    have hat : At w.heap.size w6 (w6.setCells w.heap.size 0 cs0) := At.setCells _ _ _ (At.refl _ _)
    have hB6 : Blk (w6.setCells w.heap.size 0 cs0) w.heap.size cs0 38 := HRES.whole cs0 HLC.out
    have HGG : reqK.G w6 (w.heap.size + 1) (k, nm, ky, zb32) cs0 := ⟨_, by rw [HC0.out, HZ.out], H86.out, len_zb32, HK2.out⟩
    refine bodyPost_ret (v := .agg cs0.toArray) (results_cell_row (by rfl) _ _ w.heap.size 38 _ (0, 0) _ rfl hB6 Try.underlying38 rfl HIR.out) rfl (Or.inl ⟨(k, nm, ky, zb32), r2, _, _, HSP.out, rfl, ⟨_, rfl, ?_⟩, ?_, ?_, HNK.out.ob⟩)
    · exact reqK_ok.mono (reqK_ok.same HGG fun k h1 _ => hat.block k (by omega)) (Nat.le_succ _)
    · exact HNK.out.rdAt hat (Nat.le_refl _) HVV.out
    · exact HNK.out.onlAt hat (Nat.le_refl _)
end Go.Proofs.Ytldbcglakeggaaa

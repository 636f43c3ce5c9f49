/- The walk of blazonref01.Sum: the same digest. -/
import Derived.Test.YtaleeaocmomjlaaDoorRBlock
namespace Go.Proofs.YtaleeaocmomjlaaDoor
open Go.RowKit
structure RsInv (w : World) (g4 : Nat) (m : List (BitVec 8)) (va : Value) (q : St) (wr : World) : Prop where
  res : Blk wr w.heap.size (cb zb32) 23
  hh : Blk wr g4 (cw q.l) 60
  rd : Bytes wr g4 va m
  bel : Below w.heap.size w wr
  lt : w.heap.size < g4
structure OsInv (w : World) (g4 g6 : Nat) (q : St) (k : Nat) (wr : World) : Prop where
  res : Blk wr w.heap.size (cb zb32) 23
  hh : Blk wr g4 (cw q.l) 60
  out : Blk wr g6 (cb (outB q.l k)) 23
  bel : Below w.heap.size w wr
  lt4 : w.heap.size < g4
  lt6 : g4 < g6
theorem OsInv.store {w wr : World} {g4 g6 : Nat} {q : St} {k : Nat} (h : OsInv w g4 g6 q k wr) (v : Int) (hv : v = (((q.l.getD (k / 4) 0 >>> (24 - 8 * (k % 4))).setWidth 8).toNat : Int)) :
    OsInv w g4 g6 q (k + 1) (wr.setCell ⟨g6, k, none⟩ (.int .u8 v)) := by
  subst hv
  have h4 := h.lt4
  have h6 := h.lt6
  exact ⟨h.res.other _ _ (by simp; omega), h.hh.other _ _ (by simp; omega), by have := h.out.set k (.int .u8 (((q.l.getD (k / 4) 0 >>> (24 - 8 * (k % 4))).setWidth 8).toNat : Int)); rw [cb_set] at this; exact this, h.bel.setCell (by simp; omega) _, h4, h6⟩
theorem wpStill_val {P : Program} {ops : Array Oper} {w : World} {Q : Act → Prop} {o : Oper} {rest : List Oper} {a : Act} (hgd : o.guard = none) (v : Value) (hr : (execOp a.eval o).run P w = .ok (.value v) w)
    (h : wpStill P ops w Q rest (a.put o.dst v)) : wpStill P ops w Q (o :: rest) a := by
  have hw : Region.wanted o (yielded ops a.tmps) = true := by simp [Region.wanted, hgd]
  rw [wpStill, if_pos hw]
  unfold Oper.still
  rw [hr]
  exact ⟨rfl, h⟩
theorem slice_mid (ga off N cap k : Nat) (h1 : 64 * k + 64 ≤ N) (h2 : N ≤ cap) (w : World) :
    (Instr.sliceAt 24 (.slice (some ⟨ga, off, none⟩) N cap) (some (.int .i64 (64 * (k : Int)))) (some (.int .i64 (64 * (k : Int) + 64))) none).run Tryd.prog w = .ok (.slice (some ⟨ga, off + 64 * k, none⟩) 64 (cap - 64 * k)) w := by
  have e1 : (64 * (k : Int) + 64).toNat = 64 * k + 64 := by omega
  have e2 : (64 * (k : Int)).toNat = 64 * k := by omega
  have hs : (sizeOf 5).run Tryd.prog w = .ok 1 w := by kernel_rfl
  rw [run_sliceAt_slice w 24 _ _ _ _ (by kernel_rfl), run_slice_lh w 24 _ _ _ (by kernel_rfl) .i64 .i64 _ _ (by omega) (by omega) (by omega)]
  rw [show Tryd.prog.elem 24 = 5 from by kernel_rfl, hs]
  simp only [Result.andThen_ok, sliced, e1, e2, Nat.mul_one]
  rw [if_neg (by omega)]
  simp [Addr.add_mid]
theorem reads_mid {w : World} {g ga off N cap k : Nat} {m : List (BitVec 8)} (h : Bytes w g (.slice (some ⟨ga, off, none⟩) N cap) m) (hN : N = m.length) (hk : 64 * k + 64 ≤ N) :
    Reads w (.slice (some ⟨ga, off + 64 * k, none⟩) 64 (cap - 64 * k)) ((m.drop (64 * k)).take 64) := by
  obtain ⟨ad, cap', hv, hcap, hx⟩ := h
  simp only [Value.slice.injEq] at hv
  obtain ⟨rfl, _, rfl⟩ := hv
  have hl : ((m.drop (64 * k)).take 64).length = 64 := by simp; omega
  refine ⟨some ⟨ga, off + 64 * k, none⟩, cap - 64 * k, by rw [hl], by rw [hl]; omega, (fun h => by cases h), fun _ => ⟨ga, off + 64 * k, rfl, fun j hj => ?_⟩⟩
  rw [hl] at hj
  obtain ⟨b', off', e1, e2, e3⟩ := hx (by omega)
  simp only [Option.some.injEq, Addr.mk.injEq, and_true] at e1
  obtain ⟨rfl, rfl⟩ := e1
  have := e3 (64 * k + j) (by omega)
  rw [show off + 64 * k + j = off + (64 * k + j) by omega, this]
  congr 3
  simp [List.getElem?_take_of_lt hj]
set_option maxRecDepth 100000 in
set_option maxHeartbeats 2000000 in
theorem rsum_any (v : Value) (bs : List (BitVec 8)) (w : World) (hR : Reads w v bs) (hl : bs.length < 140737488350000) :
    Calls Tryd.prog 33 #[v] w fun e w' => e = .returned (.agg (cb (dig bs)).toArray) ∧ Below w.heap.size w w' := by
  have HR : Hid (Reads w v bs) := hR
  obtain ⟨ad, cap, hv, _, _, _⟩ := hR
  obtain ⟨n, HNN⟩ : ∃ n, Hid (n = bs.length) := ⟨_, rfl⟩
  rw [← HNN.out] at hv hl
  subst hv
  go_enter Tryd.func33, Tryd.ntmps33
  go_wp2_with (at_builtin; refine wpList_appendB rfl (.tmp 8) (.tmp 9) rfl (w.heap.size + 1) _ [] rfl (OwnB.nil _ _) _ bs rfl (HR.out.below ((Below.refl _ _).alloc (Nat.le_refl _) _)) (by rw [← HNN.out]; simp; omega) (by simp) ?_; intro v1 w1 hown1 hb1 _; refine Hid.out ?_)
  generalize h0 : Obj.cells _ 23 = o32 at *
  have ho : o32 = Obj.cells (cb zb32).toArray 23 := h0.symm
  clear h0
  subst ho
  have HB1 : Hid (Below w.heap.size w w1) := ((Below.refl _ _).alloc (Nat.le_refl _) _).trans (hb1.mono (by omega))
  have HR1 : Hid (Blk w1 w.heap.size (cb zb32) 23) := (Blk.new w (cb zb32) 23).below hb1 (by omega)
  have HO1 : Hid (OwnB w1 (w.heap.size + 1) v1 bs) := by show OwnB _ _ _ _; simpa using hown1
  have hs1 : w.heap.size + 1 ≤ w1.heap.size := by have := hb1.size; simp at this; omega
  clear hown1 hb1 HR
  unfold Hid
  go_wp2_with fail
  refine (rpad_any n _).mono ?_
  rintro e w2 ⟨v2, rfl, hr2, hb2⟩
  have hp9 : (pad n).length < 80 := by rw [len_pad]; unfold padN; omega
  go_wp2_with (at_builtin; refine wpList_appendB rfl (.tmp 11) (.tmp 15) rfl (w.heap.size + 1) _ bs rfl (HO1.out.below hb2 (Nat.le_refl _)) _ (pad n) rfl hr2 (by rw [← HNN.out]; omega) (by have := hb2.size; omega) ?_; intro v3 w3 hown3 hb3 _; refine Hid.out ?_)
  have HB3 : Hid (Below w.heap.size w w3) := HB1.out.trans ((hb2.mono HB1.out.size).trans (hb3.mono (by omega)))
  have HR3 : Hid (Blk w3 w.heap.size (cb zb32) 23) := (HR1.out.below hb2 HR1.out.lt).below hb3 (by omega)
  have HO3 : Hid (OwnB w3 (w.heap.size + 1) v3 (bs ++ pad n)) := hown3
  have hs3 : w.heap.size + 1 ≤ w3.heap.size := by have := hb2.size; have := hb3.size; omega
  clear hown3 hb3 hb2 hr2 HO1 HR1 HB1 hs1
  unfold Hid
  go_wp2_with fail
  refine (rfirst_any _).mono ?_
  rintro e w4 ⟨rfl, hb4⟩
  go_wp2_with (refine wpList_store_mid rfl 60 _ _ rfl _ 0 (cw st0.l).toArray rfl rfl ?_ Tryd.info60 (all_oneCell_toArray (cw_one _)) ?_; exact Blk.there (Blk.new_at rfl (cw z8) _) _ _ (Nat.le_refl 8); refine Hid.out ?_)
  generalize h0 : Obj.cells #[.int .u32 0, _, _, _, _, _, _, _] 60 = o8
  have ho : o8 = Obj.cells (cw z8).toArray 60 := h0.symm
  clear h0
  subst ho
  have hI : RsInv w w4.heap.size (bs ++ pad n) v3 st0 ((w4.alloc (.cells (cw z8).toArray 60)).setCells w4.heap.size 0 (cw st0.l)) := by
    have hs4 := hb4.size
    have b5 : Below w4.heap.size w4 ((w4.alloc (.cells (cw z8).toArray 60)).setCells w4.heap.size 0 (cw st0.l)) := Below.setCells _ (Nat.le_refl _) _ _ _ ((Below.refl _ _).alloc (Nat.le_refl _) _)
    have hR4 := HR3.out.below hb4 HR3.out.lt
    refine ⟨hR4.below b5 hR4.lt, (Blk.new w4 _ _).whole _ rfl, ?_, HB3.out.trans ((hb4.mono HB3.out.size).trans (b5.mono (by omega))), by omega⟩
    exact ((HO3.out.reads.below hb4).bytes (Nat.le_refl _)).below b5
  clear HB3 HR3 HO3 hs3 hb4
  generalize World.setCells _ _ _ _ = w5 at *
  generalize w4.heap.size = g4 at *
  unfold Hid
  as_aux_lemma =>
    have HD : Hid (∀ q, q = blocks ((bs ++ pad n).length / 64) st0 (bs ++ pad n) → outB q.l 32 = dig bs) := by
      intro q hq
      rw [dig, ← HNN.out, ← hq]
    have HM : Hid ((bs ++ pad n).length % 64 = 0) := by
      show _ = _
      rw [List.length_append, len_pad, ← HNN.out]; unfold padN; omega
    have HLm : Hid ((bs ++ pad n).length < 140737488360000 ∧ 0 < (bs ++ pad n).length) := by
      show _ ∧ _
      rw [List.length_append, ← HNN.out, len_pad] at *; omega
    generalize bs ++ pad n = m at *
    obtain ⟨N, HNm⟩ : ∃ N, Hid (N = m.length) := ⟨_, rfl⟩
    obtain ⟨ad3, cap3, hv3, hcap3, hpos3⟩ := hI.rd
    obtain ⟨ga, offa, rfl, _, _⟩ := hpos3 HLm.out.2
    rw [← HNm.out] at hv3 hcap3
    subst hv3
    have hN := HLm.out
    rw [← HNm.out] at hN
    have hN0 : N % 64 = 0 := by rw [HNm.out]; exact HM.out
    clear hpos3 HLm HM hp9 hl
    go_wp2
    go_loopw [5] (fun i wr => ∃ k : Nat, 64 * k ≤ N ∧ i = .int .i64 (64 * (k : Int)) ∧ RsInv w g4 m (.slice (some ⟨ga, offa, none⟩) N cap3) (blocks k st0 m) wr) (fun i _ => N - (intOf i).toNat)
    case atStart => exact ⟨0, by omega, rfl, hI⟩
    case round =>
      clear hI
      obtain ⟨k, hk, rfl, hI⟩ := hrel
      by_cases hlt : 64 * k + 64 ≤ N
      · have HBl : Hid (blocks (k + 1) st0 m = compress (blocks k st0 m) ((m.drop (64 * k)).take 64)) := blocks_last k st0 m
        generalize blocks k st0 m = q at *
        have HRd : Hid (∀ wx, Bytes wx g4 (.slice (some ⟨ga, offa, none⟩) N cap3) m → Reads wx (.slice (some ⟨ga, offa + 64 * k, none⟩) 64 (cap3 - 64 * k)) ((m.drop (64 * k)).take 64)) := fun wx hx => reads_mid hx HNm.out hlt
        have H64 : Hid (((m.drop (64 * k)).take 64).length = 64) := by show _ = _; have := HNm.out; simp; omega
        have hsl := slice_mid ga offa N cap3 k (by omega) (by omega)
        have hwr : IntKind.i64.wrap (64 * (k : Int) + 64) = 64 * (k : Int) + 64 := by rw [IntKind.wrap_i64]; omega
        generalize (m.drop (64 * k)).take 64 = bk at *
        go_wp2
        refine wp_region_still_tail 6 (by kernel_rfl) (by kernel_rfl) ?_
        simp only [List.take_succ_cons, List.take_zero, List.drop_succ_cons, List.drop_zero]
        refine wpStill_load rfl 60 _ rfl g4 0 rfl (cw q.l) _ hI.hh.drew.range Tryd.underlying60 rfl Tryd.info60 ?_
        simp only [Act.put, List.setIfInBounds_toArray, List.set_cons_zero, List.set_cons_succ]
        refine wpStill_val rfl (.slice (some ⟨ga, offa, none⟩) N cap3) (by simp [go_sem]) ?_
        simp only [Act.put, List.setIfInBounds_toArray, List.set_cons_zero, List.set_cons_succ]
        refine wpStill_val rfl (.int .i64 (64 * (k : Int))) (by simp [go_sem]) ?_
        simp only [Act.put, List.setIfInBounds_toArray, List.set_cons_zero, List.set_cons_succ]
        refine wpStill_val rfl (.int .i64 (64 * (k : Int))) (by simp [go_sem]) ?_
        simp only [Act.put, List.setIfInBounds_toArray, List.set_cons_zero, List.set_cons_succ]
        refine wpStill_val rfl (.int .i64 (64 * (k : Int) + 64)) (by simp [go_sem, hwr]) ?_
        simp only [Act.put, List.setIfInBounds_toArray, List.set_cons_zero, List.set_cons_succ]
        refine wpStill_val rfl (.slice (some ⟨ga, offa + 64 * k, none⟩) 64 (cap3 - 64 * k)) (by simp [execOp, Act.eval, hsl]) ?_
        simp only [Act.put, List.setIfInBounds_toArray, List.set_cons_zero, List.set_cons_succ]
        refine wpStill_nil ?_
        clear hsl hwr
        go_wp2_with fail
        refine (rblock_any q bk _ _ H64.out (HRd.out _ (by exact hI.rd))).mono ?_
        rintro e w6 ⟨rfl, hb6⟩
        have hb6' : Below wr.heap.size wr w6 := ⟨hb6.os, hb6.tape, hb6.output, hb6.size, hb6.block⟩
        have hh6 := hI.hh.below hb6' hI.hh.lt
        have hK : RsInv w g4 m (.slice (some ⟨ga, offa, none⟩) N cap3) (compress q bk) (w6.setCells g4 0 (cw (compress q bk).l)) := by
          have hlt4 := hI.lt
          exact ⟨Blk.others _ _ _ _ (hI.res.below hb6' hI.res.lt) (by omega), hh6.whole _ ((len_l _).trans (len_l _).symm), (hI.rd.below hb6').only (Only.setCells _ _ _ (Only.refl _ _)), Below.setCells _ (by omega) _ _ _ (hI.bel.trans (hb6'.mono hI.bel.size)), hlt4⟩
        generalize compress q bk = q' at *
        go_wp2_with (refine wpList_store_mid rfl 60 _ _ rfl g4 0 (cw q'.l).toArray rfl rfl (hh6.there 0 8 (Nat.le_refl 8)) Tryd.info60 (all_oneCell_toArray (cw_one _)) ?_; refine Hid.out ?_)
        clear hI hh6 hb6 hb6'
        generalize World.setCells _ _ _ _ = w7 at *
        unfold Hid
        go_wp2
        go_roundw
        case rel => exact ⟨k + 1, by omega, by go_num, by rw [HBl.out]; exact hK⟩
        case measure => simp [intOf]; omega
      · have hkN : N = 64 * k := by omega
        have HQ : Hid (outB (blocks k st0 m).l 32 = dig bs) := HD.out _ (by rw [← HNm.out, hkN]; congr 1; omega)
        clear HD HNm HNN
        subst hkN
        generalize blocks k st0 m = q at *
        have hJ : OsInv w g4 wr.heap.size q 0 (wr.alloc (.cells (cb zb32).toArray 23)) :=
          ⟨hI.res.alloc _, hI.hh.alloc _, Blk.new wr (cb zb32) _, hI.bel.alloc hI.bel.size _, hI.lt, hI.hh.lt⟩
        have hwr : IntKind.i64.wrap (64 * (k : Int) + 64) = 64 * (k : Int) + 64 := by rw [IntKind.wrap_i64]; omega
        have hN1 : ¬ (64 * (k : Int) + 64 ≤ ((64 * k : Nat) : Int)) := by omega
        have hN2 : ¬ (64 * (k : Int) + 64 ≤ 64 * (k : Int)) := by omega
        clear hI hN0 hlt hk hN hcap3
        as_aux_lemma =>
          go_wp2
          generalize h0 : Obj.cells _ 23 = o32
          have ho : o32 = Obj.cells (cb zb32).toArray 23 := h0.symm
          clear h0
          subst ho
          clear hN1 hN2 hwr
          generalize World.alloc wr _ = w8 at *
          generalize wr.heap.size = g6 at *
          go_loopw [7] (fun i wx => ∃ j : Nat, j ≤ 32 ∧ i = .int .i64 j ∧ OsInv w g4 g6 q j wx) (fun i _ => 32 - (intOf i).toNat)
          case atStart => exact ⟨0, by omega, rfl, hJ⟩
          case round =>
            clear hJ
            obtain ⟨j, hj, rfl, hI⟩ := hrel
            by_cases hlj : j < 32
            · obtain ⟨x, HX⟩ : ∃ x, Hid (x = q.l.getD (j / 4) 0) := ⟨_, rfl⟩
              have cx : wr.cell? ⟨g4, j / 4, none⟩ = some (.int .u32 (x.toNat : Int)) := by rw [hI.hh.cell, cw_get q.l _ (show j / 4 < 8 by omega), HX.out]
              obtain ⟨o, cT⟩ : ∃ o, wr.cell? ⟨g6, j, none⟩ = some o := ⟨_, by rw [hI.out.cell, cb_get _ _ (by rw [len_outB]; omega)]⟩
              have fT : wr.frozen? ⟨g6, j, none⟩ = false := hI.out.frozen _
              obtain ⟨d, s, hd, hs, hjd⟩ : ∃ d s, d < 8 ∧ s < 4 ∧ j = 4 * d + s := ⟨j / 4, j % 4, by omega, by omega, by omega⟩
              have hj4 : j / 4 = d := by omega
              have e1 : (j : Int).tdiv 4 = (d : Int) := by rw [Int.tdiv_eq_ediv_of_nonneg (by omega)]; omega
              have e2 : (j : Int).tmod 4 = (s : Int) := by rw [Int.tmod_eq_emod_of_nonneg (by omega)]; omega
              have e3 : IntKind.i64.wrap (d : Int) = (d : Int) := by rw [IntKind.wrap_i64]; omega
              have e4 : IntKind.i64.wrap (8 * (s : Int)) = 8 * (s : Int) := by rw [IntKind.wrap_i64]; omega
              have e5 : IntKind.i64.wrap (24 - 8 * (s : Int)) = 24 - 8 * (s : Int) := by rw [IntKind.wrap_i64]; omega
              have e6 : IntKind.u64.wrap (24 - 8 * (s : Int)) = 24 - 8 * (s : Int) := by rw [IntKind.wrap_u64]; omega
              have e7 : (24 - 8 * (s : Int)).toNat = 24 - 8 * s := by omega
              rw [hj4] at cx
              have HJ : Hid (j = 4 * d + s ∧ s < 4 ∧ d < 8) := ⟨hjd, hs, hd⟩
              have HI : Hid (OsInv w g4 g6 q j wr) := hI
              have HX' : Hid (x = q.l.getD d 0) := by rw [← hj4]; exact HX
              clear hI hjd hj4
              clear HX HQ
              go_wp2_with fail
              refine ⟨⟨j + 1, by omega, by go_num, ?_⟩, by simp [intOf]; omega⟩
              refine HI.out.store _ ?_
              have hh := HJ.out
              rw [show j / 4 = d by omega, show j % 4 = s by omega, ← HX'.out, shr_byte]
            · have hj8 : j = 32 := by omega
              subst hj8
              obtain ⟨cs, HC⟩ : ∃ x, Hid (x = cb (outB q.l 32)) := ⟨_, rfl⟩
              have HO : Hid (Blk wr g6 cs 23) := by rw [HC.out]; exact hI.out
              have HL : Hid (cs.length = 32) := by show _ = _; rw [HC.out, cb_len, len_outB]
              have HZ : Hid ((Tryd.prog.info? 23).map (·.size) = some cs.length) := by show _ = _; rw [HL.out]; exact Tryd.info23
              have H1 : Hid (∀ v ∈ cs, v.oneCell' = true) := by show ∀ _, _; rw [HC.out]; exact cb_one _
              have HR : Hid (Blk wr w.heap.size (cb zb32) 23) := hI.res
              have hbel := hI.bel
              clear hI
              go_wp2_with (first
                | (refine wpList_load_mid rfl 23 _ rfl g6 0 rfl cs _ HO.out.range Tryd.underlying23 rfl HZ.out ?_)
                | (refine wpList_store_mid rfl 23 _ _ rfl w.heap.size 0 cs.toArray rfl rfl (HR.out.there 0 _ (by rw [List.size_toArray, HL.out, cb_len, len_zb32]; omega)) (by simpa using HZ.out) (all_oneCell_toArray H1.out) ?_))
              have hB := HR.out.whole cs (by rw [HL.out, cb_len, len_zb32])
              refine bodyPost_ret (v := .agg cs.toArray) (results_cell_row (by rfl) _ _ w.heap.size 23 _ (0, 0) _ rfl hB Tryd.underlying23 rfl (by simpa using HZ.out)) rfl ⟨by rw [HC.out, HQ.out], Below.setCells _ (Nat.le_refl _) _ _ _ hbel⟩
end Go.Proofs.YtaleeaocmomjlaaDoor

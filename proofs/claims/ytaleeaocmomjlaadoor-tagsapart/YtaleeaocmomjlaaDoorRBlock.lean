/- The walks of blazonref01.first, round and block: the same eight words that sha.mix makes. -/
import Derived.Test.YtaleeaocmomjlaaDoorRWords
namespace Go.Proofs.YtaleeaocmomjlaaDoor
open Go.RowKit
set_option maxHeartbeats 400000 in
theorem rfirst_any (w : World) : Calls Tryd.prog 44 #[] w fun e w' => e = .returned (.agg (cw st0.l).toArray) ∧ Below w.heap.size w w' := by
  go_enter Tryd.func44, Tryd.ntmps44
  go_wp2_with (first
    | (refine wpList_build8 rfl 60 _ _ _ _ _ _ _ _ rfl _ _ _ _ _ _ _ _ rfl rfl rfl rfl rfl rfl rfl rfl (built8 _ _ _ _ _ _ _ _) ?_)
    | (refine wpList_store8 rfl 60 _ _ rfl _ _ _ _ _ _ _ _ _ rfl rfl ((Blk.new w (cw z8) 60).there 0 8 (by simp [cw_len, len_z8])) Tryd.info60 ?_))
  have hB := (Blk.new w (cw z8) 60).whole [Value.int .u32 1779033703, Value.int .u32 3144134277, Value.int .u32 1013904242, Value.int .u32 2773480762, Value.int .u32 1359893119, Value.int .u32 2600822924, Value.int .u32 528734635, Value.int .u32 1541459225] (by rw [cw_len, len_z8]; rfl)
  refine bodyPost_ret (v := .agg #[Value.int .u32 1779033703, Value.int .u32 3144134277, Value.int .u32 1013904242, Value.int .u32 2773480762, Value.int .u32 1359893119, Value.int .u32 2600822924, Value.int .u32 528734635, Value.int .u32 1541459225]) (results_cell_row (by rfl) _ _ w.heap.size 60 _ (0, 0) _ rfl hB Tryd.underlying60 rfl Tryd.info60) rfl ⟨by rw [← st0_cells], Below.setCells _ (Nat.le_refl _) _ _ _ ((Below.refl _ _).alloc (Nat.le_refl _) _)⟩
def kcs : List Value := cw kw
theorem len_kcs : kcs.length = 64 := rfl
theorem one_kcs : ∀ v ∈ kcs, v.oneCell' = true := cw_one _
theorem kcs_get (j : Nat) (h : j < 64) : kcs[j]? = some (.int .u32 ((kw.getD j 0).toNat : Int)) := cw_get kw j h
set_option maxRecDepth 100000 in
set_option maxHeartbeats 400000 in
theorem rround_any (w : World) : Calls Tryd.prog 53 #[] w fun e w' => e = .returned (.agg kcs.toArray) ∧ Below w.heap.size w w' := by
  have HZ : Hid ((Tryd.prog.info? 73).map (·.size) = some kcs.length) := Tryd.info73
  go_enter Tryd.func53, Tryd.ntmps53
  go_wp2_with (first
    | (refine wpList_buildc rfl 73 _ rfl kcs.toArray (fun _ => by kernel_rfl) ?_)
    | (refine wpList_store_mid rfl 73 _ _ rfl w.heap.size 0 kcs.toArray rfl rfl ((Blk.new w (cw z64) 73).there 0 _ (by rw [List.size_toArray, len_kcs, cw_len, len_z64]; omega)) (by simpa using HZ.out) (all_oneCell_toArray one_kcs) ?_))
  have hB := (Blk.new w (cw z64) 73).whole kcs (by rw [len_kcs, cw_len, len_z64])
  refine bodyPost_ret (v := .agg kcs.toArray) (results_cell_row (by rfl) _ _ w.heap.size 73 _ (0, 0) _ rfl hB Tryd.underlying73 rfl (by simpa using HZ.out)) rfl ⟨rfl, Below.setCells _ (Nat.le_refl _) _ _ _ ((Below.refl _ _).alloc (Nat.le_refl _) _)⟩
/-- behind the words: the eight words' box, the result, the block's words -/
structure Rb1 (w : World) (s : St) (ws : List (BitVec 32)) (g5 : Nat) (wr : World) : Prop where
  box : Blk wr w.heap.size (cw s.l) 60
  res : Blk wr (w.heap.size + 1) (cw z8) 60
  sch : Blk wr g5 (cw ws) 73
  bel : Below w.heap.size w wr
  lt5 : w.heap.size + 1 < g5
theorem Rb1.start {w w1 : World} {s : St} {ws : List (BitVec 32)} (hl : ws.length = 64)
    (h : Below (w.heap.size + 1 + 1) ((w.alloc (.cells (cw s.l).toArray 60)).alloc (.cells (cw z8).toArray 60)) w1) :
    Rb1 w s ws w1.heap.size ((w1.alloc (.cells (cw z64).toArray 73)).setCells w1.heap.size 0 (cw ws)) := by
  have h1 := h.size
  simp at h1
  have b0 : Below w.heap.size w ((w.alloc (.cells (cw s.l).toArray 60)).alloc (.cells (cw z8).toArray 60)) := ((Below.refl _ _).alloc (Nat.le_refl _) _).alloc (by simp) _
  have b1 : Below w.heap.size w w1 := b0.trans (h.mono (by omega))
  refine ⟨?_, ?_, ?_, Below.setCells _ (by omega) _ _ _ (b1.alloc (by omega) _), by omega⟩
  · exact Blk.others _ _ _ _ ((Blk.below ((Blk.new w (cw s.l) _).alloc _) h (by omega)).alloc _) (by omega)
  · exact Blk.others _ _ _ _ ((Blk.below (Blk.new_at (by simp) (cw z8) _) h (by omega)).alloc _) (by omega)
  · exact (Blk.new w1 _ _).whole _ (by simp [cw_len, hl, len_z64])
theorem Rb1.below {w w1 w2 : World} {s : St} {ws : List (BitVec 32)} {g5 : Nat} (h : Rb1 w s ws g5 w1) (hb : Below w1.heap.size w1 w2) : Rb1 w s ws g5 w2 :=
  ⟨h.box.below hb h.box.lt, h.res.below hb h.res.lt, h.sch.below hb h.sch.lt, h.bel.trans (hb.mono h.bel.size), h.lt5⟩
/-- and the rounds' words -/
structure Rb2 (w : World) (s : St) (ws : List (BitVec 32)) (g5 g6 : Nat) (wr : World) : Prop where
  one : Rb1 w s ws g5 wr
  kks : Blk wr g6 kcs 73
  lt6 : g5 < g6
theorem Rb2.start {w w1 w2 : World} {s : St} {ws : List (BitVec 32)} {g5 : Nat} (h : Rb1 w s ws g5 w1) (hb : Below w1.heap.size w1 w2) :
    Rb2 w s ws g5 w2.heap.size ((w2.alloc (.cells (cw z64).toArray 73)).setCells w2.heap.size 0 kcs) := by
  have h2 := h.below hb
  have hlt := h2.sch.lt
  refine ⟨⟨?_, ?_, ?_, Below.setCells _ h2.bel.size _ _ _ (h2.bel.alloc h2.bel.size _), h2.lt5⟩, (Blk.new w2 _ _).whole _ (by rw [cw_len, len_z64, len_kcs]), hlt⟩
  · exact Blk.others _ _ _ _ (h2.box.alloc _) (by have := h2.box.lt; omega)
  · exact Blk.others _ _ _ _ (h2.res.alloc _) (by have := h2.res.lt; omega)
  · exact Blk.others _ _ _ _ (h2.sch.alloc _) (by omega)
/-- and the state -/
structure Rb3 (w : World) (s : St) (ws : List (BitVec 32)) (g5 g6 g7 : Nat) (q : St) (wr : World) : Prop where
  two : Rb2 w s ws g5 g6 wr
  stt : Blk wr g7 (cw q.l) 60
  lt7 : g6 < g7
theorem Rb3.start {w w1 : World} {s : St} {ws : List (BitVec 32)} {g5 g6 : Nat} (h : Rb2 w s ws g5 g6 w1) :
    Rb3 w s ws g5 g6 w1.heap.size s ((w1.alloc (.cells (cw z8).toArray 60)).setCells w1.heap.size 0 (cw s.l)) := by
  have hlt := h.kks.lt
  refine ⟨⟨⟨?_, ?_, ?_, Below.setCells _ h.one.bel.size _ _ _ (h.one.bel.alloc h.one.bel.size _), h.one.lt5⟩, ?_, h.lt6⟩, (Blk.new w1 _ _).whole _ rfl, hlt⟩
  · exact Blk.others _ _ _ _ (h.one.box.alloc _) (by have := h.one.box.lt; omega)
  · exact Blk.others _ _ _ _ (h.one.res.alloc _) (by have := h.one.res.lt; omega)
  · exact Blk.others _ _ _ _ (h.one.sch.alloc _) (by have := h.one.sch.lt; omega)
  · exact Blk.others _ _ _ _ (h.kks.alloc _) (by omega)
theorem Rb3.drewN {w wr : World} {s q : St} {ws : List (BitVec 32)} {g5 g6 g7 : Nat} (h : Rb3 w s ws g5 g6 g7 q wr) (n : Nat) : Rb3 w s ws g5 g6 g7 q (wr.drewN n) :=
  ⟨⟨⟨h.two.one.box, h.two.one.res, h.two.one.sch, ⟨h.two.one.bel.os, h.two.one.bel.tape, h.two.one.bel.output, h.two.one.bel.size, h.two.one.bel.block⟩, h.two.one.lt5⟩, h.two.kks, h.two.lt6⟩, h.stt, h.lt7⟩
theorem Rb3.store {w wr : World} {s q : St} {ws : List (BitVec 32)} {g5 g6 g7 : Nat} (h : Rb3 w s ws g5 g6 g7 q wr) (q' : St) : Rb3 w s ws g5 g6 g7 q' (wr.setCells g7 0 (cw q'.l)) := by
  have h5 := h.two.one.lt5
  have h6 := h.two.lt6
  have h7 := h.lt7
  have hb := h.two.one.bel
  refine ⟨⟨⟨?_, ?_, ?_, Below.setCells _ (by omega) _ _ _ hb, h5⟩, ?_, h6⟩, h.stt.whole _ rfl, h7⟩
  · exact Blk.others _ _ _ _ h.two.one.box (by omega)
  · exact Blk.others _ _ _ _ h.two.one.res (by omega)
  · exact Blk.others _ _ _ _ h.two.one.sch (by omega)
  · exact Blk.others _ _ _ _ h.two.kks (by omega)
theorem Rb3.words {w wr : World} {s q : St} {ws : List (BitVec 32)} {g5 g6 g7 : Nat} (h : Rb3 w s ws g5 g6 g7 q wr) :
    wr.cell? ⟨g7, 0, none⟩ = some (.int .u32 (q.a.toNat : Int)) ∧ wr.cell? ⟨g7, 1, none⟩ = some (.int .u32 (q.b.toNat : Int)) ∧
    wr.cell? ⟨g7, 2, none⟩ = some (.int .u32 (q.c.toNat : Int)) ∧ wr.cell? ⟨g7, 3, none⟩ = some (.int .u32 (q.d.toNat : Int)) ∧
    wr.cell? ⟨g7, 4, none⟩ = some (.int .u32 (q.e.toNat : Int)) ∧ wr.cell? ⟨g7, 5, none⟩ = some (.int .u32 (q.f.toNat : Int)) ∧
    wr.cell? ⟨g7, 6, none⟩ = some (.int .u32 (q.g.toNat : Int)) ∧ wr.cell? ⟨g7, 7, none⟩ = some (.int .u32 (q.h.toNat : Int)) := by
  simp only [h.stt.cell]
  exact ⟨rfl, rfl, rfl, rfl, rfl, rfl, rfl, rfl⟩
theorem rnd_cells (q : St) (y x : BitVec 32) :
    [Value.int .u32 (((q.h.toNat : Int) + ((big1 q.e).toNat : Int) + ((cho q.e q.f q.g).toNat : Int) + (y.toNat : Int) + (x.toNat : Int) + ((big0 q.a).toNat : Int) + ((maj q.a q.b q.c).toNat : Int)) % 4294967296),
      Value.int .u32 (q.a.toNat : Int), Value.int .u32 (q.b.toNat : Int), Value.int .u32 (q.c.toNat : Int),
      Value.int .u32 (((q.d.toNat : Int) + ((q.h.toNat : Int) + ((big1 q.e).toNat : Int) + ((cho q.e q.f q.g).toNat : Int) + (y.toNat : Int) + (x.toNat : Int))) % 4294967296),
      Value.int .u32 (q.e.toNat : Int), Value.int .u32 (q.f.toNat : Int), Value.int .u32 (q.g.toNat : Int)] = cw (rnd q y x).l := by
  have e1 : ((q.h.toNat : Int) + ((big1 q.e).toNat : Int) + ((cho q.e q.f q.g).toNat : Int) + (y.toNat : Int) + (x.toNat : Int) + ((big0 q.a).toNat : Int) + ((maj q.a q.b q.c).toNat : Int)) % 4294967296 =
      ((q.h + big1 q.e + cho q.e q.f q.g + y + x + (big0 q.a + maj q.a q.b q.c)).toNat : Int) := by
    rw [← sum_a]; omega
  have e2 : ((q.d.toNat : Int) + ((q.h.toNat : Int) + ((big1 q.e).toNat : Int) + ((cho q.e q.f q.g).toNat : Int) + (y.toNat : Int) + (x.toNat : Int))) % 4294967296 =
      ((q.d + (q.h + big1 q.e + cho q.e q.f q.g + y + x)).toNat : Int) := by
    rw [← sum_e]; omega
  rw [e1, e2]; rfl
def plusL (s q : St) : Nat → List (BitVec 32)
  | 0 => s.l
  | k + 1 => (plusL s q k).set k ((plusL s q k).getD k 0 + q.l.getD k 0)
theorem len_plusL (s q : St) (k : Nat) : (plusL s q k).length = 8 := by
  induction k with
  | zero => rfl
  | succ k ih => simp [plusL, ih]
theorem plusL_eq (s q : St) : plusL s q 8 = (s.plus q).l := rfl
structure Rb4 (w : World) (s q : St) (g7 k : Nat) (wr : World) : Prop where
  box : Blk wr w.heap.size (cw (plusL s q k)) 60
  res : Blk wr (w.heap.size + 1) (cw z8) 60
  stt : Blk wr g7 (cw q.l) 60
  bel : Below w.heap.size w wr
  lt7 : w.heap.size + 1 < g7
theorem Rb4.start {w wr : World} {s q : St} {ws : List (BitVec 32)} {g5 g6 g7 : Nat} (h : Rb3 w s ws g5 g6 g7 q wr) : Rb4 w s q g7 0 wr :=
  ⟨h.two.one.box, h.two.one.res, h.stt, h.two.one.bel, by have := h.two.one.lt5; have := h.two.lt6; have := h.lt7; omega⟩
theorem Rb4.store {w wr : World} {s q : St} {g7 k' : Nat} (h : Rb4 w s q g7 k' wr) (k : Nat) (v : BitVec 32) (hv : v = (plusL s q k').getD k 0 + q.l.getD k 0) (hk : k = k' := by rfl) :
    Rb4 w s q g7 (k' + 1) ((wr.setCell ⟨w.heap.size, k, none⟩ (.int .u32 (v.toNat : Int))).drew) := by
  subst hk
  subst hv
  have h7 := h.lt7
  refine ⟨?_, (h.res.other _ _ (by simp)).drew, (h.stt.other _ _ (by simp; omega)).drew, (h.bel.setCell (by simp) _).drew, h7⟩
  have := (h.box.set k (.int .u32 (((plusL s q k).getD k 0 + q.l.getD k 0).toNat : Int))).drew
  rw [cw_set] at this
  exact this
set_option maxRecDepth 100000 in
set_option maxHeartbeats 1000000 in
theorem rblock_any (s : St) (b : List (BitVec 8)) (v : Value) (w : World) (hb : b.length = 64) (hR : Reads w v b) :
    Calls Tryd.prog 45 #[.agg (cw s.l).toArray, v] w fun e w' => e = .returned (.agg (cw (compress s b).l).toArray) ∧ Below w.heap.size w w' := by
  obtain ⟨r, HR⟩ : ∃ r, Hid (compress s b = r) := ⟨_, rfl⟩
  rw [HR.out]
  have HRd : Hid (Reads w v b) := hR
  have HN : Hid (b.length = 64) := hb
  clear hR hb
  go_enter Tryd.func45, Tryd.ntmps45
  go_wp2_with fail
  generalize h0 : Obj.cells #[.int .u32 0, _, _, _, _, _, _, _] 60 = o8
  have ho : o8 = Obj.cells (cw z8).toArray 60 := h0.symm
  clear h0
  subst ho
  refine (rwords_any b v _ HN.out (HRd.out.below (((Below.refl _ _).alloc (Nat.le_refl _) _).alloc (by simp) _))).mono ?_
  rintro e w1 ⟨rfl, hb1⟩
  have h2 := hb1.mono (B' := w.heap.size + 1 + 1) (by simp)
  clear hb1 HRd HN
  have HL : Hid ((sched2 b 48).length = 64) := len_sched2 b 48
  generalize hws : sched2 b 48 = ws at *
  have HW : Hid (sched2 b 48 = ws) := hws
  clear hws
  have HZ : Hid ((Tryd.prog.info? 73).map (·.size) = some (cw ws).length) := by rw [cw_len, HL.out]; exact Tryd.info73
  go_wp2_with (refine wpList_store_mid rfl 73 _ _ rfl _ 0 (cw ws).toArray rfl rfl ?_ (by simpa using HZ.out) (all_oneCell_toArray (cw_one _)) ?_; exact Blk.there (Blk.new_at rfl (cw z64) _) _ _ (by simp [cw_len, HL.out, len_z64]); refine Hid.out ?_)
  generalize h0 : Obj.cells _ 73 = o64
  have ho : o64 = Obj.cells (cw z64).toArray 73 := h0.symm
  clear h0
  subst ho
  have hI := Rb1.start (ws := ws) HL.out h2
  clear h2 HZ
  generalize World.setCells _ _ _ _ = w2 at *
  generalize w1.heap.size = g5 at *
  unfold Hid
  as_aux_lemma =>
    go_wp2_with fail
    refine (rround_any _).mono ?_
    rintro e w3 ⟨rfl, hb3⟩
    have HK : Hid ((Tryd.prog.info? 73).map (·.size) = some kcs.length) := Tryd.info73
    go_wp2_with (refine wpList_store_mid rfl 73 _ _ rfl _ 0 kcs.toArray rfl rfl ?_ (by simpa using HK.out) (all_oneCell_toArray one_kcs) ?_; exact Blk.there (Blk.new_at rfl (cw z64) _) _ _ (by rw [List.size_toArray, len_kcs, cw_len, len_z64]; omega); refine Hid.out ?_)
    generalize h0 : Obj.cells _ 73 = o64
    have ho : o64 = Obj.cells (cw z64).toArray 73 := h0.symm
    clear h0
    subst ho
    have hJ := Rb2.start hI hb3
    clear hI hb3 HK
    generalize World.setCells _ _ _ _ = w4 at *
    generalize w3.heap.size = g6 at *
    unfold Hid
    as_aux_lemma =>
      go_wp2_with (first
        | (refine wpList_load_mid rfl 60 _ rfl w.heap.size 0 rfl (cw s.l) _ hJ.one.box.range Tryd.underlying60 rfl Tryd.info60 ?_)
        | (refine wpList_store_mid rfl 60 _ _ rfl _ 0 (cw s.l).toArray rfl rfl ?_ Tryd.info60 (all_oneCell_toArray (cw_one _)) ?_; exact Blk.there (Blk.new_at rfl (cw z8) _) _ _ (Nat.le_refl 8); refine Hid.out ?_))
      generalize h0 : Obj.cells #[.int .u32 0, _, _, _, _, _, _, _] 60 = o8
      have ho : o8 = Obj.cells (cw z8).toArray 60 := h0.symm
      clear h0
      subst ho
      have hI := Rb3.start hJ
      clear hJ
      generalize World.setCells _ _ _ _ = w5 at *
      generalize w4.heap.size = g7 at *
      unfold Hid
      as_aux_lemma =>
        go_wp2
        go_loopw [8] (fun i wr => ∃ k : Nat, k ≤ 64 ∧ i = .int .i64 k ∧ Rb3 w s ws g5 g6 g7 (rounds ws s k) wr) (fun i _ => 64 - (intOf i).toNat)
        case atStart => exact ⟨0, by omega, rfl, hI⟩
        case round =>
          clear hI
          obtain ⟨k, hk, rfl, hI⟩ := hrel
          by_cases hlt : k < 64
          · obtain ⟨x, y, HXY, HS⟩ : ∃ x y : BitVec 32, Hid (∀ wx q, Rb3 w s ws g5 g6 g7 q wx → wx.cell? ⟨g5, k, none⟩ = some (.int .u32 (x.toNat : Int)) ∧ wx.cell? ⟨g6, k, none⟩ = some (.int .u32 (y.toNat : Int))) ∧ Hid (rounds ws s (k + 1) = rnd (rounds ws s k) y x) :=
              ⟨ws.getD k 0, kw.getD k 0, (fun wx q hx => ⟨by rw [hx.two.one.sch.cell, cw_get ws k (by have := HL.out; omega)], by rw [hx.two.kks.cell, kcs_get k hlt]⟩), rounds_succ' ws s k⟩
            clear HL HW HR
            generalize rounds ws s k = q at *
            obtain ⟨c0, c1, c2, c3, c4, c5, c6, c7⟩ := hI.words
            go_wp2
            go_quiet ((go_at_call 54; exact Calls.quiet_of_same (turn_any _ _ _ (by omega) (by omega))))
            have hJ := hI.drewN nq
            clear hI c0 c1 c2 c3 c4 c5 c6 c7
            generalize wr.drewN nq = wq at *
            obtain ⟨c0, c1, c2, c3, c4, c5, c6, c7⟩ := hJ.words
            obtain ⟨cx, cy⟩ := HXY.out wq q hJ
            go_wp2
            go_quiet (fail)
            have hI := hJ.drewN nq
            clear hJ c0 c1 c2 c3 c4 c5 c6 c7 cx cy
            generalize wq.drewN nq = wp at *
            obtain ⟨c0, c1, c2, c3, c4, c5, c6, c7⟩ := hI.words
            go_wp2
            go_quiet ((go_at_call 54; exact Calls.quiet_of_same (turn_any _ _ _ (by omega) (by omega))))
            have hJ := hI.drewN nq
            clear hI c0 c1 c2 c3 c4 c5 c6 c7
            generalize wp.drewN nq = wq at *
            obtain ⟨c0, c1, c2, c3, c4, c5, c6, c7⟩ := hJ.words
            go_wp2_with (refine wpList_build8 rfl 60 _ _ _ _ _ _ _ _ rfl _ _ _ _ _ _ _ _ rfl rfl rfl rfl rfl rfl rfl rfl (built8 _ _ _ _ _ _ _ _) ?_; refine Hid.out ?_)
            unfold Hid
            simp only [big1_eq, cho_ref, big0_eq, maj_eq]
            refine wpList_store8 rfl 60 (.tmp 7) (.tmp 109) rfl g7 _ _ _ _ _ _ _ _ rfl rfl (hJ.stt.there 0 8 (Nat.le_refl 8)) Tryd.info60 ?_
            have hK := hJ.store (rnd q y x)
            rw [← rnd_cells] at hK
            clear hJ c0 c1 c2 c3 c4 c5 c6 c7
            generalize World.setCells _ _ _ _ = wz at *
            simp only [Act.put]
            go_wp2
            go_roundw
            case rel => exact ⟨k + 1, by omega, by go_num, by rw [HS.out]; exact hK⟩
            case measure => simp [intOf]; omega
          · have hk64 : k = 64 := by omega
            subst hk64
            have HC : Hid (r = s.plus (rounds ws s 64)) := by have := HR.out; rw [compress_eq, HW.out] at this; exact this.symm
            clear HW HR
            generalize rounds ws s 64 = q at *
            as_aux_lemma =>
              go_wp2
              go_loopw [14] (fun i wr => ∃ k : Nat, k ≤ 8 ∧ i = .int .i64 k ∧ Rb4 w s q g7 k wr) (fun i _ => 8 - (intOf i).toNat)
              case atStart => exact ⟨0, by omega, rfl, Rb4.start hI⟩
              case round =>
                clear hI hlt hk
                obtain ⟨k, hk, rfl, hI⟩ := hrel
                by_cases hlt : k < 8
                · obtain ⟨x, HX⟩ : ∃ x, Hid (x = (plusL s q k).getD k 0) := ⟨_, rfl⟩
                  obtain ⟨y, HY⟩ : ∃ y, Hid (y = q.l.getD k 0) := ⟨_, rfl⟩
                  have cx : wr.cell? ⟨w.heap.size, k, none⟩ = some (.int .u32 (x.toNat : Int)) := by rw [hI.box.cell, cw_get _ k (by rw [len_plusL]; omega), HX.out]
                  have cy : wr.cell? ⟨g7, k, none⟩ = some (.int .u32 (y.toNat : Int)) := by rw [hI.stt.cell, cw_get q.l k hlt, HY.out]
                  have fx : wr.frozen? ⟨w.heap.size, k, none⟩ = false := hI.box.frozen _
                  go_wp2
                  go_region
                  go_wp2
                  go_roundw
                  case rel =>
                    refine ⟨k + 1, by omega, by go_num, ?_⟩
                    have := hI.store k (x + y) (by rw [HX.out, HY.out])
                    rw [← u32_add] at this
                    exact this
                  case measure => simp [intOf]; omega
                · have hk8 : k = 8 := by omega
                  subst hk8
                  have HB : Hid (Blk wr w.heap.size (cw r.l) 60) := by show Blk _ _ _ _; rw [HC.out, ← plusL_eq]; exact hI.box
                  have HRs : Hid (Blk wr (w.heap.size + 1) (cw z8) 60) := hI.res
                  have hbel := hI.bel
                  clear hI HC
                  go_wp2_with (first
                    | (refine wpList_load_mid rfl 60 _ rfl w.heap.size 0 rfl (cw r.l) _ HB.out.range Tryd.underlying60 rfl Tryd.info60 ?_)
                    | (refine wpList_store_mid rfl 60 _ _ rfl (w.heap.size + 1) 0 (cw r.l).toArray rfl rfl (HRs.out.there 0 8 (Nat.le_refl 8)) Tryd.info60 (all_oneCell_toArray (cw_one _)) ?_))
                  have hB := HRs.out.whole (cw r.l) rfl
                  refine bodyPost_ret (v := .agg (cw r.l).toArray) (results_cell_row (by rfl) _ _ (w.heap.size + 1) 60 _ (0, 0) _ rfl hB Tryd.underlying60 rfl Tryd.info60) rfl ⟨rfl, Below.setCells _ (by omega) _ _ _ hbel⟩
end Go.Proofs.YtaleeaocmomjlaaDoor

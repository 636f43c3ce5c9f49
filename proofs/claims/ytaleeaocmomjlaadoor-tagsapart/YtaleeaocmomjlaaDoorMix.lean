/- The walk of sha.mix: the eight words behind one block more. -/
import Derived.Test.YtaleeaocmomjlaaDoorSpread
namespace Go.Proofs.YtaleeaocmomjlaaDoor
open Go.RowKit
theorem Tryd.info77 : (Tryd.prog.info? 77).map (·.size) = some 64 := by kernel_rfl
theorem Tryd.info60 : (Tryd.prog.info? 60).map (·.size) = some 8 := by kernel_rfl
theorem built8 (na nb nc nd ne nf ng nh : Int) : Tryd.prog.built 60 [(0, Value.int .u32 na), (1, Value.int .u32 nb), (2, Value.int .u32 nc), (3, Value.int .u32 nd), (4, Value.int .u32 ne), (5, Value.int .u32 nf), (6, Value.int .u32 ng), (7, Value.int .u32 nh)] = some #[Value.int .u32 na, Value.int .u32 nb, Value.int .u32 nc, Value.int .u32 nd, Value.int .u32 ne, Value.int .u32 nf, Value.int .u32 ng, Value.int .u32 nh] := by kernel_rfl
/-- the variable of the rounds' words holds them -/
def KOk (w : World) : Prop := ∀ j, j < 64 → w.cell? ⟨0, j, none⟩ = some (.int .u32 ((kw.getD j 0).toNat : Int))
theorem KOk.lt {w : World} (h : KOk w) : 0 < w.heap.size := block_lt_of_cell (h 0 (by omega))
theorem KOk.below {w w' : World} {B : Nat} (h : KOk w) (hb : Below B w w') (hB : 0 < B) : KOk w' := fun j hj => by rw [hb.cell (p := ⟨0, j, none⟩) hB]; exact h j hj
/-- what the rounds of mix find in memory: the eight words, the result, the block's words -/
structure MixInv (w : World) (s : St) (ws : List (BitVec 32)) (g : Nat) (wr : World) : Prop where
  wds : Blk wr w.heap.size (cw s.l) 60
  res : Blk wr (w.heap.size + 1 + 1) (cw z8) 60
  sch : Blk wr g (cw ws) 73
  kok : KOk wr
  bel : Below w.heap.size w wr
theorem MixInv.drewN {w wr : World} {s : St} {ws : List (BitVec 32)} {g : Nat} (h : MixInv w s ws g wr) (n : Nat) : MixInv w s ws g (wr.drewN n) :=
  ⟨h.wds, h.res, h.sch, h.kok, ⟨h.bel.os, h.bel.tape, h.bel.output, h.bel.size, h.bel.block⟩⟩
theorem MixInv.words {w wr : World} {s : St} {ws : List (BitVec 32)} {g : Nat} (h : MixInv w s ws g wr) :
    wr.cell? ⟨w.heap.size, 0, none⟩ = some (.int .u32 (s.a.toNat : Int)) ∧ wr.cell? ⟨w.heap.size, 1, none⟩ = some (.int .u32 (s.b.toNat : Int)) ∧
    wr.cell? ⟨w.heap.size, 2, none⟩ = some (.int .u32 (s.c.toNat : Int)) ∧ wr.cell? ⟨w.heap.size, 3, none⟩ = some (.int .u32 (s.d.toNat : Int)) ∧
    wr.cell? ⟨w.heap.size, 4, none⟩ = some (.int .u32 (s.e.toNat : Int)) ∧ wr.cell? ⟨w.heap.size, 5, none⟩ = some (.int .u32 (s.f.toNat : Int)) ∧
    wr.cell? ⟨w.heap.size, 6, none⟩ = some (.int .u32 (s.g.toNat : Int)) ∧ wr.cell? ⟨w.heap.size, 7, none⟩ = some (.int .u32 (s.h.toNat : Int)) := by
  simp only [h.wds.cell]
  exact ⟨rfl, rfl, rfl, rfl, rfl, rfl, rfl, rfl⟩
theorem MixInv.at {w wr : World} {s : St} {ws : List (BitVec 32)} {g : Nat} (h : MixInv w s ws g wr) (j : Nat) (hj : j < ws.length) : wr.cell? ⟨g, j, none⟩ = some (.int .u32 ((ws.getD j 0).toNat : Int)) := by
  rw [h.sch.cell, cw_get ws j hj]
theorem rounds_succ' (ws : List (BitVec 32)) (s : St) (k : Nat) : rounds ws s (k + 1) = rnd (rounds ws s k) (kw.getD k 0) (ws.getD k 0) := rfl
theorem MixInv.start {w w1 : World} {s : St} {ws : List (BitVec 32)} {X : Obj} (hK : KOk w) (hl : ws.length = 64)
    (h : Below (w.heap.size + 1 + 1 + 1) (((w.alloc (.cells (cw s.l).toArray 60)).alloc X).alloc (.cells (cw z8).toArray 60)) w1) :
    MixInv w s ws w1.heap.size ((w1.alloc (.cells (cw z64).toArray 73)).setCells w1.heap.size 0 (cw ws)) := by
  have h1 := h.size
  simp at h1
  have hk := hK.lt
  have b0 : Below w.heap.size w (((w.alloc (.cells (cw s.l).toArray 60)).alloc X).alloc (.cells (cw z8).toArray 60)) :=
    (((Below.refl _ _).alloc (Nat.le_refl _) _).alloc (by simp) _).alloc (by simp; omega) _
  have b1 : Below w.heap.size w w1 := b0.trans (h.mono (by omega))
  have b2 : Below w.heap.size w ((w1.alloc (.cells (cw z64).toArray 73)).setCells w1.heap.size 0 (cw ws)) := Below.setCells _ (by omega) _ _ _ (b1.alloc (by omega) _)
  refine ⟨?_, ?_, ?_, hK.below b2 hk, b2⟩
  · exact Blk.others _ _ _ _ ((Blk.below (((Blk.new w (cw s.l) _).alloc _).alloc _) h (by omega)).alloc _) (by omega)
  · exact Blk.others _ _ _ _ ((Blk.below (Blk.new_at (by simp) (cw z8) _) h (by omega)).alloc _) (by omega)
  · exact (Blk.new w1 _ _).whole _ (by simp [cw_len, hl, len_z64])
set_option maxHeartbeats 1000000 in
theorem mix_any (s : St) (b : List (BitVec 8)) (hb : b.length = 64) (w : World) (hK : KOk w) :
    Calls Tryd.prog 57 #[.agg (cw s.l).toArray, .agg (cb b).toArray] w fun e w' => e = .returned (.agg (cw (compress s b).l).toArray) ∧ Below w.heap.size w w' := by
  have HK : Hid (KOk w) := hK
  clear hK
  obtain ⟨r, HR⟩ : ∃ r, Hid (compress s b = r) := ⟨_, rfl⟩
  rw [HR.out]
  go_enter Tryd.func57, Tryd.ntmps57
  have HZ : Hid ((Tryd.prog.info? 77).map (·.size) = some (cb b).length) := by rw [cb_len, hb]; exact Tryd.info77
  have HY : Hid ((Tryd.prog.info? 73).map (·.size) = some (cw (sched2 b 48)).length) := by rw [cw_len, len_sched2]; exact Tryd.info73
  have HN : Hid (b.length = 64) := hb
  clear hb
  set_option maxRecDepth 100000 in
  go_wp2_with (first
    | (refine wpList_load_mid rfl 77 _ rfl _ 0 rfl (cb b) _ ?_ Tryd.underlying77 rfl HZ.out ?_; exact (Blk.alloc (Blk.new_at (by simp) _ _) _).range)
    | (go_at_call 60; refine (spread_any b HN.out _).mono ?_; rintro e w1 ⟨rfl, hw1⟩)
    | (refine wpList_store_mid rfl 73 _ _ rfl _ 0 (cw (sched2 b 48)).toArray rfl rfl ?_ (by simpa using HY.out) (all_oneCell_toArray (cw_one _)) ?_; exact Blk.there (Blk.new_at rfl (cw z64) _) _ _ (by simp [cw_len, len_sched2, len_z64])))
  have h2 := hw1.mono (B' := w.heap.size + 1 + 1 + 1) (by simp)
  clear hw1
  generalize h0 : Obj.cells _ 73 = o64
  set_option maxRecDepth 100000 in
  have ho : o64 = Obj.cells (cw z64).toArray 73 := h0.symm
  clear h0
  subst ho
  set_option maxRecDepth 100000 in
  have hI := MixInv.start (ws := sched2 b 48) HK.out (len_sched2 b 48) h2
  clear h2
  generalize World.setCells _ _ _ _ = wq at *
  have HL : Hid ((sched2 b 48).length = 64) := len_sched2 b 48
  clear HY
  generalize hws : sched2 b 48 = ws at *
  have HW : Hid (sched2 b 48 = ws) := hws
  clear hws
  generalize w1.heap.size = g at *
  simp only [Act.put]
  as_aux_lemma =>
    obtain ⟨c0, c1, c2, c3, c4, c5, c6, c7⟩ := hI.words
    go_quiet (fail)
    have hJ := hI.drewN nq
    clear c0 c1 c2 c3 c4 c5 c6 c7 hI
    generalize wq.drewN nq = wp at *
    obtain ⟨c0, c1, c2, c3, c4, c5, c6, c7⟩ := hJ.words
    go_wp2
    go_quiet (fail)
    have hI := hJ.drewN nq
    clear c0 c1 c2 c3 c4 c5 c6 c7 hJ
    generalize wp.drewN nq = wq at *
    go_wp2
    go_loopw [6, 7, 8, 9, 10, 11, 12, 13, 35] (fun v6 v7 v8 v9 v10 v11 v12 v13 i wr => ∃ k : Nat, k ≤ 64 ∧ i = .int .i64 k ∧
        v6 = .int .u32 ((rounds ws s k).a.toNat : Int) ∧ v7 = .int .u32 ((rounds ws s k).b.toNat : Int) ∧ v8 = .int .u32 ((rounds ws s k).c.toNat : Int) ∧ v9 = .int .u32 ((rounds ws s k).d.toNat : Int) ∧
        v10 = .int .u32 ((rounds ws s k).e.toNat : Int) ∧ v11 = .int .u32 ((rounds ws s k).f.toNat : Int) ∧ v12 = .int .u32 ((rounds ws s k).g.toNat : Int) ∧ v13 = .int .u32 ((rounds ws s k).h.toNat : Int) ∧ MixInv w s ws g wr)
      (fun _ _ _ _ _ _ _ _ i _ => 64 - (intOf i).toNat)
    case atStart => exact ⟨0, by omega, rfl, rfl, rfl, rfl, rfl, rfl, rfl, rfl, rfl, hI⟩
    case round =>
      clear hI
      obtain ⟨k, hk, rfl, rfl, rfl, rfl, rfl, rfl, rfl, rfl, rfl, hI⟩ := hrel
      by_cases hlt : k < 64
      · obtain ⟨x, y, cx, cy, HS⟩ : ∃ x y : BitVec 32, wr.cell? ⟨g, k, none⟩ = some (.int .u32 (x.toNat : Int)) ∧ wr.cell? ⟨0, k, none⟩ = some (.int .u32 (y.toNat : Int)) ∧ Hid (rounds ws s (k + 1) = rnd (rounds ws s k) y x) :=
          ⟨_, _, hI.at k (by have := HL.out; omega), hI.kok k hlt, rounds_succ' ws s k⟩
        clear HL HN HW HR
        generalize rounds ws s k = q at *
        obtain ⟨ra, rb, rc, rd, re, rf, rg, rh⟩ := q
        dsimp only at *
        go_wp2
        go_quiet ((go_at_call 61; exact Calls.quiet_of_same (turned_any _ _ _ (by omega) (by omega))))
        go_wp2_with (go_at_call 61; refine (turned_any _ _ _ (by omega) (by omega)).mono ?_; rintro e w' ⟨rfl, rfl⟩)
        go_roundw
        case rel =>
          refine ⟨k + 1, by omega, by go_num, ?_, ?_, ?_, ?_, ?_, ?_, ?_, ?_, hI.drewN nq⟩
          all_goals rw [HS.out]
          · rw [big1_eq, cho_own, big0_eq, maj_eq, sum_a]; rfl
          · rfl
          · rfl
          · rfl
          · rw [big1_eq, cho_own, sum_e]; rfl
          · rfl
          · rfl
          · rfl
        case measure => simp [intOf]; omega
      · have hk64 : k = 64 := by omega
        subst hk64
        obtain ⟨c0, c1, c2, c3, c4, c5, c6, c7⟩ := hI.words
        have HC : Hid (r = s.plus (rounds ws s 64)) := by have := HR.out; rw [compress_eq, HW.out] at this; exact this.symm
        clear HW HR
        generalize rounds ws s 64 = q at *
        as_aux_lemma =>
          go_wp2_with (first
            | (refine wpList_build8 rfl 60 _ _ _ _ _ _ _ _ rfl _ _ _ _ _ _ _ _ rfl rfl rfl rfl rfl rfl rfl rfl (built8 _ _ _ _ _ _ _ _) ?_)
            | (refine wpList_store8 rfl 60 _ _ rfl _ _ _ _ _ _ _ _ _ rfl rfl (hI.res.there 0 8 (by simp [cw_len, len_z8])) Tryd.info60 ?_))
          have hB := hI.res.whole [Value.int .u32 (((s.a.toNat : Int) + (q.a.toNat : Int)) % 4294967296), Value.int .u32 (((s.b.toNat : Int) + (q.b.toNat : Int)) % 4294967296), Value.int .u32 (((s.c.toNat : Int) + (q.c.toNat : Int)) % 4294967296), Value.int .u32 (((s.d.toNat : Int) + (q.d.toNat : Int)) % 4294967296), Value.int .u32 (((s.e.toNat : Int) + (q.e.toNat : Int)) % 4294967296), Value.int .u32 (((s.f.toNat : Int) + (q.f.toNat : Int)) % 4294967296), Value.int .u32 (((s.g.toNat : Int) + (q.g.toNat : Int)) % 4294967296), Value.int .u32 (((s.h.toNat : Int) + (q.h.toNat : Int)) % 4294967296)] (by rw [cw_len, len_z8]; rfl)
          refine bodyPost_ret (v := .agg #[Value.int .u32 (((s.a.toNat : Int) + (q.a.toNat : Int)) % 4294967296), Value.int .u32 (((s.b.toNat : Int) + (q.b.toNat : Int)) % 4294967296), Value.int .u32 (((s.c.toNat : Int) + (q.c.toNat : Int)) % 4294967296), Value.int .u32 (((s.d.toNat : Int) + (q.d.toNat : Int)) % 4294967296), Value.int .u32 (((s.e.toNat : Int) + (q.e.toNat : Int)) % 4294967296), Value.int .u32 (((s.f.toNat : Int) + (q.f.toNat : Int)) % 4294967296), Value.int .u32 (((s.g.toNat : Int) + (q.g.toNat : Int)) % 4294967296), Value.int .u32 (((s.h.toNat : Int) + (q.h.toNat : Int)) % 4294967296)]) (results_cell_row (by rfl) _ _ (w.heap.size + 1 + 1) 60 _ (0, 0) _ rfl hB Tryd.underlying60 rfl Tryd.info60) rfl ⟨?_, Below.setCells _ (by omega) _ _ _ hI.bel⟩
          rw [HC.out, ← plus_cells]
end Go.Proofs.YtaleeaocmomjlaaDoor

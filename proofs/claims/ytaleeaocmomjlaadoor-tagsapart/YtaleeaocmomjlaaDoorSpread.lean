/- The walk of sha.spread: the 64 words that a block gives to the rounds. -/
import Derived.Test.YtaleeaocmomjlaaDoorTurn
import Derived.Test.YtaleeaocmomjlaaDoorMem
import Derived.Deep.RegionHeld3
import Derived.Deep.QuietTactic
import Derived.BigQuiet
namespace Go.Proofs.YtaleeaocmomjlaaDoor
open Go.RowKit
theorem Tryd.info73 : (Tryd.prog.info? 73).map (·.size) = some 64 := by kernel_rfl
theorem len_sched1 (b : List (BitVec 8)) (k : Nat) : (sched1 b k).length = 64 := by
  induction k with
  | zero => simp [sched1]
  | succ k ih => simp [sched1, ih]
theorem len_sched2 (b : List (BitVec 8)) (k : Nat) : (sched2 b k).length = 64 := by
  induction k with
  | zero => exact len_sched1 b 16
  | succ k ih => simp [sched2, ih]
/-- The three blocks of a call of spread: the block's bytes, the result, the words. -/
structure SpInv (w : World) (b : List (BitVec 8)) (l : List (BitVec 32)) (wr : World) : Prop where
  blk : Blk wr w.heap.size (cb b) 77
  res : Blk wr (w.heap.size + 1) (cw (List.replicate 64 0)) 73
  wds : Blk wr (w.heap.size + 1 + 1) (cw l) 73
  bel : Below w.heap.size w wr
theorem SpInv.store {w wr : World} {b : List (BitVec 8)} {l : List (BitVec 32)} (h : SpInv w b l wr) (k : Nat) (v : BitVec 32) :
    SpInv w b (l.set k v) ((wr.setCell ⟨w.heap.size + 1 + 1, k, none⟩ (.int .u32 (v.toNat : Int))).drew) :=
  ⟨(h.blk.other _ _ (by simp; omega)).drew, (h.res.other _ _ (by simp)).drew, by have := (h.wds.set k (.int .u32 (v.toNat : Int))).drew; rw [cw_set] at this; exact this, (h.bel.setCell (by simp; omega) _).drew⟩
theorem SpInv.drewN {w wr : World} {b : List (BitVec 8)} {l : List (BitVec 32)} (h : SpInv w b l wr) (n : Nat) : SpInv w b l (wr.drewN n) := ⟨h.blk, h.res, h.wds, ⟨h.bel.os, h.bel.tape, h.bel.output, h.bel.size, h.bel.block⟩⟩
theorem SpInv.at {w wr : World} {b : List (BitVec 8)} {l : List (BitVec 32)} (h : SpInv w b l wr) (j : Nat) (hj : j < l.length) : wr.cell? ⟨w.heap.size + 1 + 1, j, none⟩ = some (.int .u32 ((l.getD j 0).toNat : Int)) := by
  rw [h.wds.cell, cw_get l j hj]
theorem SpInv.by {w wr : World} {b : List (BitVec 8)} {l : List (BitVec 32)} (h : SpInv w b l wr) (j : Nat) (hj : j < b.length) : wr.cell? ⟨w.heap.size, j, none⟩ = some (.int .u8 ((b.getD j 0).toNat : Int)) := by
  rw [h.blk.cell, cb_get b j hj]
theorem word4 (b0 b1 b2 b3 : BitVec 8) :
    bits .or .u32 (bits .or .u32 (bits .or .u32 ((b0.toNat : Int) * 16777216) ((b1.toNat : Int) * 65536)) ((b2.toNat : Int) * 256)) (b3.toNat : Int) =
      ((b0.setWidth 32 <<< 24 ||| b1.setWidth 32 <<< 16 ||| b2.setWidth 32 <<< 8 ||| b3.setWidth 32).toNat : Int) := by
  have h0 := b0.isLt
  have h1 := b1.isLt
  have h2 := b2.isLt
  have e0 : (b0.toNat : Int) * (16777216 : Int) = ((b0.setWidth 32 <<< 24).toNat : Int) := by simp [BitVec.toNat_shiftLeft, Nat.shiftLeft_eq]; omega
  have e1 : (b1.toNat : Int) * (65536 : Int) = ((b1.setWidth 32 <<< 16).toNat : Int) := by simp [BitVec.toNat_shiftLeft, Nat.shiftLeft_eq]; omega
  have e2 : (b2.toNat : Int) * (256 : Int) = ((b2.setWidth 32 <<< 8).toNat : Int) := by simp [BitVec.toNat_shiftLeft, Nat.shiftLeft_eq]; omega
  rw [e0, e1, e2, byte_word b3, u32_or, u32_or, u32_or]
set_option maxRecDepth 100000 in
set_option maxHeartbeats 1000000 in
theorem spread_any (b : List (BitVec 8)) (hb : b.length = 64) (w : World) :
    Calls Tryd.prog 60 #[.agg (cb b).toArray] w fun e w' => e = .returned (.agg (cw (sched2 b 48)).toArray) ∧ Below w.heap.size w w' := by
  go_enter Tryd.func60, Tryd.ntmps60
  go_wp2
  go_loopw [10] (fun i wr => ∃ k : Nat, k ≤ 16 ∧ i = .int .i64 k ∧ SpInv w b (sched1 b k) wr) (fun i _ => 16 - (intOf i).toNat)
  case atStart =>
    refine ⟨0, by omega, rfl, ?_, ?_, ?_, ?_⟩
    · exact ((Blk.new w (cb b) 77).alloc _).alloc _
    · exact (Blk.new_at (w := w.alloc (.cells (cb b).toArray 77)) (by simp) (cw (List.replicate 64 0)) 73).alloc (.cells (cw (List.replicate 64 0)).toArray 73)
    · exact Blk.new_at (w := (w.alloc (.cells (cb b).toArray 77)).alloc (.cells (cw (List.replicate 64 0)).toArray 73)) (by simp) (cw (List.replicate 64 0)) 73
    · exact (((Below.refl _ _).alloc (Nat.le_refl _) _).alloc (by simp) _).alloc (by simp; omega) _
  case round =>
    obtain ⟨k, hk, rfl, hI⟩ := hrel
    by_cases hlt : k < 16
    · obtain ⟨b0, H0⟩ : ∃ x, Hid (x = b.getD (4 * k) 0) := ⟨_, rfl⟩
      obtain ⟨b1, H1⟩ : ∃ x, Hid (x = b.getD (4 * k + 1) 0) := ⟨_, rfl⟩
      obtain ⟨b2, H2⟩ : ∃ x, Hid (x = b.getD (4 * k + 2) 0) := ⟨_, rfl⟩
      obtain ⟨b3, H3⟩ : ∃ x, Hid (x = b.getD (4 * k + 3) 0) := ⟨_, rfl⟩
      have c0 : wr.cell? ⟨w.heap.size, 4 * k, none⟩ = some (.int .u8 (b0.toNat : Int)) := by rw [H0.out]; exact hI.by _ (by omega)
      have c1 : wr.cell? ⟨w.heap.size, 4 * k + 1, none⟩ = some (.int .u8 (b1.toNat : Int)) := by rw [H1.out]; exact hI.by _ (by omega)
      have c2 : wr.cell? ⟨w.heap.size, 4 * k + 2, none⟩ = some (.int .u8 (b2.toNat : Int)) := by rw [H2.out]; exact hI.by _ (by omega)
      have c3 : wr.cell? ⟨w.heap.size, 4 * k + 3, none⟩ = some (.int .u8 (b3.toNat : Int)) := by rw [H3.out]; exact hI.by _ (by omega)
      have HW : Hid (wordAt b k = b0.setWidth 32 <<< 24 ||| b1.setWidth 32 <<< 16 ||| b2.setWidth 32 <<< 8 ||| b3.setWidth 32) := by rw [H0.out, H1.out, H2.out, H3.out]; rfl
      obtain ⟨o, cT⟩ : ∃ o, wr.cell? ⟨w.heap.size + 1 + 1, k, none⟩ = some o := ⟨_, hI.at k (by rw [len_sched1]; omega)⟩
      have fT : wr.frozen? ⟨w.heap.size + 1 + 1, k, none⟩ = false := hI.wds.frozen k
      have g0 : (b0.toNat : Int) < 256 := by have := b0.isLt; omega
      have g1 : (b1.toNat : Int) < 256 := by have := b1.isLt; omega
      have g2 : (b2.toNat : Int) < 256 := by have := b2.isLt; omega
      have g3 : (b3.toNat : Int) < 256 := by have := b3.isLt; omega
      clear H0 H1 H2 H3
      go_wp2
      go_region
      go_wp2
      go_roundw
      case rel =>
        refine ⟨k + 1, by omega, by go_num, ?_⟩
        have := hI.store k (wordAt b k)
        rw [HW.out, ← word4] at this
        rw [sched1, HW.out]
        exact this
      case measure => simp [intOf]; omega
    · have hk16 : k = 16 := by omega
      subst hk16
      go_wp2
      go_loopw [43] (fun i wr => ∃ k : Nat, k ≤ 48 ∧ i = .int .i64 k ∧ SpInv w b (sched2 b k) wr) (fun i _ => 48 - (intOf i).toNat)
      case atStart => exact ⟨0, by omega, rfl, hI⟩
      case round =>
        clear hI hlt hk
        obtain ⟨k, hk, rfl, hI⟩ := hrel
        by_cases hlt : k < 48
        · obtain ⟨x0, H0⟩ : ∃ x, Hid (x = (sched2 b k).getD k 0) := ⟨_, rfl⟩
          obtain ⟨x1, H1⟩ : ∃ x, Hid (x = (sched2 b k).getD (k + 1) 0) := ⟨_, rfl⟩
          obtain ⟨x9, H9⟩ : ∃ x, Hid (x = (sched2 b k).getD (k + 9) 0) := ⟨_, rfl⟩
          obtain ⟨x14, H14⟩ : ∃ x, Hid (x = (sched2 b k).getD (k + 14) 0) := ⟨_, rfl⟩
          have hl := len_sched2 b k
          have hc : ∀ wx, SpInv w b (sched2 b k) wx → wx.cell? ⟨w.heap.size + 1 + 1, k, none⟩ = some (.int .u32 (x0.toNat : Int)) ∧ wx.cell? ⟨w.heap.size + 1 + 1, k + 1, none⟩ = some (.int .u32 (x1.toNat : Int)) ∧
              wx.cell? ⟨w.heap.size + 1 + 1, k + 9, none⟩ = some (.int .u32 (x9.toNat : Int)) ∧ wx.cell? ⟨w.heap.size + 1 + 1, k + 14, none⟩ = some (.int .u32 (x14.toNat : Int)) ∧ 
              (∃ o, wx.cell? ⟨w.heap.size + 1 + 1, k + 16, none⟩ = some o) ∧ wx.frozen? ⟨w.heap.size + 1 + 1, k + 16, none⟩ = false := by
            intro wx hx
            rw [H0.out, H1.out, H9.out, H14.out]
            exact ⟨hx.at _ (by omega), hx.at _ (by omega), hx.at _ (by omega), hx.at _ (by omega), ⟨_, hx.at _ (by omega)⟩, hx.wds.frozen _⟩
          have HC : Hid (∀ wx, SpInv w b (sched2 b k) wx → wx.cell? ⟨w.heap.size + 1 + 1, k, none⟩ = some (.int .u32 (x0.toNat : Int)) ∧ wx.cell? ⟨w.heap.size + 1 + 1, k + 1, none⟩ = some (.int .u32 (x1.toNat : Int)) ∧
              wx.cell? ⟨w.heap.size + 1 + 1, k + 9, none⟩ = some (.int .u32 (x9.toNat : Int)) ∧ wx.cell? ⟨w.heap.size + 1 + 1, k + 14, none⟩ = some (.int .u32 (x14.toNat : Int)) ∧ 
              (∃ o, wx.cell? ⟨w.heap.size + 1 + 1, k + 16, none⟩ = some o) ∧ wx.frozen? ⟨w.heap.size + 1 + 1, k + 16, none⟩ = false) := hc
          clear hc hl
          obtain ⟨c0, c1, c9, c14, ⟨o, cT⟩, fT⟩ := HC.out wr hI
          go_wp2
          go_quiet ((go_at_call 61; exact Calls.quiet_of_same (turned_any _ _ _ (by omega) (by omega))))
          have hI2 := hI.drewN nq
          clear hI c0 c1 c9 c14 cT fT
          generalize wr.drewN nq = wq at *
          obtain ⟨c0, c1, c9, c14, ⟨o, cT⟩, fT⟩ := HC.out wq hI2
          go_wp2
          go_quiet ((go_at_call 61; exact Calls.quiet_of_same (turned_any _ _ _ (by omega) (by omega))))
          have hI := hI2.drewN nq
          clear hI2 c0 c1 c9 c14 cT fT
          generalize wq.drewN nq = wp at *
          obtain ⟨c0, c1, c9, c14, ⟨o, cT⟩, fT⟩ := HC.out wp hI
          go_wp2
          go_region
          go_wp2
          go_roundw
          case rel =>
            refine ⟨k + 1, by omega, by go_num, ?_⟩
            have := hI.store (k + 16) (x0 + sig0 x1 + x9 + sig1 x14)
            rw [← u32_add4, ← sig0_eq, ← sig1_eq] at this
            rw [sched2, ← H0.out, ← H1.out, ← H9.out, ← H14.out]
            exact this
          case measure => simp [intOf]; omega
        · have hk48 : k = 48 := by omega
          subst hk48
          have hz : (Tryd.prog.info? 73).map (·.size) = some (cw (sched2 b 48)).length := by rw [cw_len, len_sched2]; exact Tryd.info73
          have HL : Hid ((cw (sched2 b 48)).length = (cw (List.replicate 64 (0 : BitVec 32))).length) := by rw [cw_len, cw_len, len_sched2]; rfl
          have HZ : Hid ((Tryd.prog.info? 73).map (·.size) = some (cw (sched2 b 48)).length) := hz
          clear hz
          go_wp2_with (first
            | (refine wpList_load_mid rfl 73 _ rfl (w.heap.size + 1 + 1) 0 rfl (cw (sched2 b 48)) _ hI.wds.range Tryd.underlying73 rfl HZ.out ?_)
            | (refine wpList_store_mid rfl 73 _ _ rfl (w.heap.size + 1) 0 (cw (sched2 b 48)).toArray rfl rfl (hI.res.there 0 _ (by simp [HL.out])) (by simpa using HZ.out) (all_oneCell_toArray (cw_one _)) ?_))
          have hB := hI.res.whole (cw (sched2 b 48)) HL.out
          refine bodyPost_ret (v := .agg (cw (sched2 b 48)).toArray) (results_cell_row (by rfl) _ _ (w.heap.size + 1) 73 _ (0, 0) _ rfl hB Tryd.underlying73 rfl (by simpa using HZ.out)) rfl ⟨rfl, Below.setCells _ (by omega) _ _ _ hI.bel⟩
end Go.Proofs.YtaleeaocmomjlaaDoor

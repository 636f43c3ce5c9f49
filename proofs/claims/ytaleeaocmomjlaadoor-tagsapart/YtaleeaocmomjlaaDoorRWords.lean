/- The walk of blazonref01.words: the same 64 words that sha.spread makes. -/
import Derived.Test.YtaleeaocmomjlaaDoorSame
namespace Go.Proofs.YtaleeaocmomjlaaDoor
open Go.RowKit
def rw1 (b : List (BitVec 8)) : Nat → List (BitVec 32)
  | 0 => z64
  | i + 1 => (rw1 b i).set (i / 4) ((rw1 b i).getD (i / 4) 0 * 256 + (b.getD i 0).setWidth 32)
theorem len_rw1 (b : List (BitVec 8)) (k : Nat) : (rw1 b k).length = 64 := by
  induction k with
  | zero => rfl
  | succ k ih => simp [rw1, ih]
theorem word_sum (b0 b1 b2 b3 : BitVec 8) : ((((0 : BitVec 32) * (256 : BitVec 32) + b0.setWidth 32) * (256 : BitVec 32) + b1.setWidth 32) * (256 : BitVec 32) + b2.setWidth 32) * (256 : BitVec 32) + b3.setWidth 32 =
    b0.setWidth 32 <<< 24 ||| b1.setWidth 32 <<< 16 ||| b2.setWidth 32 <<< 8 ||| b3.setWidth 32 := by
  apply BitVec.eq_of_toNat_eq
  have h0 := b0.isLt
  have h1 := b1.isLt
  have h2 := b2.isLt
  have h3 := b3.isLt
  have o1 := Nat.two_pow_add_eq_or_of_lt (i := 24) (b := b1.toNat * 65536) (by omega) b0.toNat
  have o2 := Nat.two_pow_add_eq_or_of_lt (i := 16) (b := b2.toNat * 256) (by omega) (b0.toNat * 256 + b1.toNat)
  have o3 := Nat.two_pow_add_eq_or_of_lt (i := 8) (b := b3.toNat) (by omega) (b0.toNat * 65536 + b1.toNat * 256 + b2.toNat)
  have e0 : (b0.setWidth 32 <<< 24).toNat = 2 ^ 24 * b0.toNat := by simp [BitVec.toNat_shiftLeft, Nat.shiftLeft_eq]; omega
  have e1 : (b1.setWidth 32 <<< 16).toNat = b1.toNat * 65536 := by simp [BitVec.toNat_shiftLeft, Nat.shiftLeft_eq]; omega
  have e2 : (b2.setWidth 32 <<< 8).toNat = b2.toNat * 256 := by simp [BitVec.toNat_shiftLeft, Nat.shiftLeft_eq]; omega
  have e3 : (b3.setWidth 32).toNat = b3.toNat := by simp; omega
  rw [BitVec.toNat_or, BitVec.toNat_or, BitVec.toNat_or, e0, e1, e2, e3, ← o1,
    show 2 ^ 24 * b0.toNat + b1.toNat * 65536 = 2 ^ 16 * (b0.toNat * 256 + b1.toNat) by omega, ← o2,
    show 2 ^ 16 * (b0.toNat * 256 + b1.toNat) + b2.toNat * 256 = 2 ^ 8 * (b0.toNat * 65536 + b1.toNat * 256 + b2.toNat) by omega, ← o3]
  simp [BitVec.toNat_add, BitVec.toNat_mul]
  omega
theorem sched1_rest (b : List (BitVec 8)) (t j : Nat) (h : t ≤ j) : (sched1 b t).getD j 0 = 0 := by
  induction t with
  | zero => rw [sched1, List.getD_eq_getElem?_getD, List.getElem?_replicate]; split <;> rfl
  | succ t ih =>
    rw [sched1, List.getD_eq_getElem?_getD, List.getElem?_set_ne (by omega), ← List.getD_eq_getElem?_getD]
    exact ih (by omega)
theorem getD_set_self (l : List (BitVec 32)) (i : Nat) (v : BitVec 32) (h : i < l.length) : (l.set i v).getD i 0 = v := by simp [h]
theorem rw1_eq (b : List (BitVec 8)) (t : Nat) (ht : t ≤ 16) : rw1 b (4 * t) = sched1 b t := by
  induction t with
  | zero => rfl
  | succ t ih =>
    have h0 := ih (by omega)
    have hl : t < (sched1 b t).length := by rw [len_sched1]; omega
    have hz := sched1_rest b t t (Nat.le_refl _)
    have s1 : rw1 b (4 * t + 1) = (sched1 b t).set t (0 * 256 + (b.getD (4 * t) 0).setWidth 32) := by
      rw [rw1, h0, show 4 * t / 4 = t by omega, hz]
    have s2 : rw1 b (4 * t + 2) = (sched1 b t).set t ((0 * 256 + (b.getD (4 * t) 0).setWidth 32) * 256 + (b.getD (4 * t + 1) 0).setWidth 32) := by
      rw [rw1, s1, show (4 * t + 1) / 4 = t by omega, getD_set_self _ _ _ hl, List.set_set]
    have s3 : rw1 b (4 * t + 3) = (sched1 b t).set t (((0 * 256 + (b.getD (4 * t) 0).setWidth 32) * 256 + (b.getD (4 * t + 1) 0).setWidth 32) * 256 + (b.getD (4 * t + 2) 0).setWidth 32) := by
      rw [rw1, s2, show (4 * t + 2) / 4 = t by omega, getD_set_self _ _ _ hl, List.set_set]
    rw [show 4 * (t + 1) = 4 * t + 3 + 1 by omega, rw1, s3, show (4 * t + 3) / 4 = t by omega, getD_set_self _ _ _ hl, List.set_set, word_sum]
    rfl
theorem byte_sum (y : BitVec 32) (x : BitVec 8) : (y.toNat : Int) * 256 % 4294967296 + (x.toNat : Int) = ((y * 256 + x.setWidth 32).toNat : Int) := by
  have := x.isLt
  simp [BitVec.toNat_add, BitVec.toNat_mul]
  omega
structure RwInv (w : World) (l : List (BitVec 32)) (wr : World) : Prop where
  res : Blk wr w.heap.size (cw z64) 73
  wds : Blk wr (w.heap.size + 1) (cw l) 73
  bel : Below w.heap.size w wr
theorem RwInv.store {w wr : World} {l : List (BitVec 32)} (h : RwInv w l wr) (k : Nat) (v : BitVec 32) :
    RwInv w (l.set k v) ((wr.setCell ⟨w.heap.size + 1, k, none⟩ (.int .u32 (v.toNat : Int))).drew) :=
  ⟨(h.res.other _ _ (by simp)).drew, by have := (h.wds.set k (.int .u32 (v.toNat : Int))).drew; rw [cw_set] at this; exact this, (h.bel.setCell (by simp) _).drew⟩
theorem RwInv.drewN {w wr : World} {l : List (BitVec 32)} (h : RwInv w l wr) (n : Nat) : RwInv w l (wr.drewN n) := ⟨h.res, h.wds, ⟨h.bel.os, h.bel.tape, h.bel.output, h.bel.size, h.bel.block⟩⟩
theorem RwInv.at {w wr : World} {l : List (BitVec 32)} (h : RwInv w l wr) (j : Nat) (hj : j < l.length) : wr.cell? ⟨w.heap.size + 1, j, none⟩ = some (.int .u32 ((l.getD j 0).toNat : Int)) := by
  rw [h.wds.cell, cw_get l j hj]
set_option maxRecDepth 100000 in
set_option maxHeartbeats 1000000 in
theorem rwords_any (b : List (BitVec 8)) (v : Value) (w : World) (hb : b.length = 64) (hR : Reads w v b) :
    Calls Tryd.prog 52 #[v] w fun e w' => e = .returned (.agg (cw (sched2 b 48)).toArray) ∧ Below w.heap.size w w' := by
  obtain ⟨ad, cap, rfl, hcap, _, hpos⟩ := hR
  obtain ⟨bb, off, rfl, hsrc⟩ := hpos (by omega)
  rw [hb] at hcap hsrc ⊢
  have HS : Hid (∀ wr, Below w.heap.size w wr → ∀ j, j < 64 → wr.cell? ⟨bb, off + j, none⟩ = some (.int .u8 ((b.getD j 0).toNat : Int))) := by
    intro wr hbl j hj
    rw [hbl.cell (p := ⟨bb, off + j, none⟩) (block_lt_of_cell (hsrc j hj))]; exact hsrc j hj
  clear hpos hsrc
  go_enter Tryd.func52, Tryd.ntmps52
  go_wp2
  go_loopw [4] (fun i wr => ∃ k : Nat, k ≤ 64 ∧ i = .int .i64 k ∧ RwInv w (rw1 b k) wr) (fun i _ => 64 - (intOf i).toNat)
  case atStart =>
    refine ⟨0, by omega, rfl, ?_, ?_, ?_⟩
    · exact (Blk.new w (cw z64) 73).alloc _
    · exact Blk.new_at (w := w.alloc (.cells (cw z64).toArray 73)) (by simp) (cw z64) 73
    · exact ((Below.refl _ _).alloc (Nat.le_refl _) _).alloc (by simp) _
  case round =>
    obtain ⟨k, hk, rfl, hI⟩ := hrel
    by_cases hlt : k < 64
    · obtain ⟨x, HX⟩ : ∃ x, Hid (x = b.getD k 0) := ⟨_, rfl⟩
      obtain ⟨y, HY⟩ : ∃ y, Hid (y = (rw1 b k).getD (k / 4) 0) := ⟨_, rfl⟩
      have cx : wr.cell? ⟨bb, off + k, none⟩ = some (.int .u8 (x.toNat : Int)) := by rw [HX.out]; exact HS.out wr hI.bel k hlt
      have cy : wr.cell? ⟨w.heap.size + 1, k / 4, none⟩ = some (.int .u32 (y.toNat : Int)) := by rw [HY.out]; exact hI.at _ (by rw [len_rw1]; omega)
      have fy : wr.frozen? ⟨w.heap.size + 1, k / 4, none⟩ = false := hI.wds.frozen _
      have gx : (x.toNat : Int) < 256 := by have := x.isLt; omega
      go_wp2
      go_region
      go_wp2
      go_roundw
      case rel =>
        refine ⟨k + 1, by omega, by go_num, ?_⟩
        have := hI.store (k / 4) (y * 256 + x.setWidth 32)
        rw [← byte_sum] at this
        rw [rw1, ← HX.out, ← HY.out]
        exact this
      case measure => simp [intOf]; omega
    · have hk64 : k = 64 := by omega
      subst hk64
      rw [show (64 : Nat) = 4 * 16 from rfl, rw1_eq b 16 (Nat.le_refl _)] at hI
      go_wp2
      go_loopw [5] (fun i wr => ∃ k : Nat, k ≤ 48 ∧ i = .int .i64 ((k : Int) + 16) ∧ RwInv w (sched2 b k) wr) (fun i _ => 64 - (intOf i).toNat)
      case atStart => exact ⟨0, by omega, rfl, hI⟩
      case round =>
        clear hI hlt hk HS
        obtain ⟨k, hk, rfl, hI⟩ := hrel
        by_cases hlt : k < 48
        · obtain ⟨x0, H0⟩ : ∃ x, Hid (x = (sched2 b k).getD k 0) := ⟨_, rfl⟩
          obtain ⟨x1, H1⟩ : ∃ x, Hid (x = (sched2 b k).getD (k + 1) 0) := ⟨_, rfl⟩
          obtain ⟨x9, H9⟩ : ∃ x, Hid (x = (sched2 b k).getD (k + 9) 0) := ⟨_, rfl⟩
          obtain ⟨x14, H14⟩ : ∃ x, Hid (x = (sched2 b k).getD (k + 14) 0) := ⟨_, rfl⟩
          have HC : Hid (∀ wx, RwInv w (sched2 b k) wx → wx.cell? ⟨w.heap.size + 1, k, none⟩ = some (.int .u32 (x0.toNat : Int)) ∧ wx.cell? ⟨w.heap.size + 1, k + 1, none⟩ = some (.int .u32 (x1.toNat : Int)) ∧
              wx.cell? ⟨w.heap.size + 1, k + 9, none⟩ = some (.int .u32 (x9.toNat : Int)) ∧ wx.cell? ⟨w.heap.size + 1, k + 14, none⟩ = some (.int .u32 (x14.toNat : Int)) ∧
              (∃ o, wx.cell? ⟨w.heap.size + 1, k + 16, none⟩ = some o) ∧ wx.frozen? ⟨w.heap.size + 1, k + 16, none⟩ = false) := by
            intro wx hx
            have hl := len_sched2 b k
            rw [H0.out, H1.out, H9.out, H14.out]
            exact ⟨hx.at _ (by omega), hx.at _ (by omega), hx.at _ (by omega), hx.at _ (by omega), ⟨_, hx.at _ (by omega)⟩, hx.wds.frozen _⟩
          obtain ⟨c0, c1, c9, c14, ⟨o, cT⟩, fT⟩ := HC.out wr hI
          go_wp2
          go_quiet ((go_at_call 54; exact Calls.quiet_of_same (turn_any _ _ _ (by omega) (by omega))))
          have hI2 := hI.drewN nq
          clear hI c0 c1 c9 c14 cT fT
          generalize wr.drewN nq = wq at *
          obtain ⟨c0, c1, c9, c14, ⟨o, cT⟩, fT⟩ := HC.out wq hI2
          go_wp2
          go_quiet ((go_at_call 54; exact Calls.quiet_of_same (turn_any _ _ _ (by omega) (by omega))))
          have hI := hI2.drewN nq
          clear hI2 c0 c1 c9 c14 cT fT
          generalize wq.drewN nq = wp at *
          obtain ⟨c0, c1, c9, c14, ⟨o, cT⟩, fT⟩ := HC.out wp hI
          go_wp2
          go_region
          go_wp2
          go_roundw
          case rel =>
            refine ⟨k + 1, by omega, by go_num, ?_⟩
            have := hI.store (k + 16) (x0 + sig0 x1 + x9 + sig1 x14)
            rw [← u32_add4, ← sig0_eq, ← sig1_eq] at this
            rw [sched2, ← H0.out, ← H1.out, ← H9.out, ← H14.out]
            exact this
          case measure => simp [intOf]; omega
        · have hk48 : k = 48 := by omega
          subst hk48
          obtain ⟨cs, HCS⟩ : ∃ x, Hid (x = cw (sched2 b 48)) := ⟨_, rfl⟩
          have HL : Hid (cs.length = 64) := by show _ = _; rw [HCS.out, cw_len, len_sched2]
          have HZ : Hid ((Tryd.prog.info? 73).map (·.size) = some cs.length) := by show _ = _; rw [HL.out]; exact Tryd.info73
          have H1 : Hid (∀ v ∈ cs, v.oneCell' = true) := by show ∀ _, _; rw [HCS.out]; exact cw_one _
          have HW : Hid (Blk wr (w.heap.size + 1) cs 73) := by show Blk _ _ _ _; rw [HCS.out]; exact hI.wds
          have HR : Hid (Blk wr w.heap.size (cw z64) 73) := hI.res
          have hbel := hI.bel
          clear hI
          go_wp2_with (first
            | (refine wpList_load_mid rfl 73 _ rfl (w.heap.size + 1) 0 rfl cs _ HW.out.range Tryd.underlying73 rfl HZ.out ?_)
            | (refine wpList_store_mid rfl 73 _ _ rfl w.heap.size 0 cs.toArray rfl rfl (HR.out.there 0 _ (by rw [List.size_toArray, HL.out, cw_len, len_z64]; omega)) (by simpa using HZ.out) (all_oneCell_toArray H1.out) ?_))
          have hB := HR.out.whole cs (by rw [HL.out, cw_len, len_z64])
          refine bodyPost_ret (v := .agg cs.toArray) (results_cell_row (by rfl) _ _ w.heap.size 73 _ (0, 0) _ rfl hB Tryd.underlying73 rfl (by simpa using HZ.out)) rfl ⟨by rw [HCS.out], Below.setCells _ (Nat.le_refl _) _ _ _ hbel⟩
end Go.Proofs.YtaleeaocmomjlaaDoor

/- The walk of sha.wordBytes: eight words as thirty-two bytes. -/
import Derived.Test.YtaleeaocmomjlaaDoorPad
namespace Go.Proofs.YtaleeaocmomjlaaDoor
open Go.RowKit
theorem Tryd.info23 : (Tryd.prog.info? 23).map (·.size) = some 32 := by kernel_rfl
/-- the bytes after i words, and j bytes of the next one -/
def outB (l : List (BitVec 32)) : Nat → List (BitVec 8)
  | 0 => zb32
  | k + 1 => (outB l k).set k ((l.getD (k / 4) 0 >>> (24 - 8 * (k % 4))).setWidth 8)
theorem len_outB (l : List (BitVec 32)) (k : Nat) : (outB l k).length = 32 := by
  induction k with
  | zero => rfl
  | succ k ih => simp [outB, ih]
structure OutInv (w : World) (l : List (BitVec 32)) (k : Nat) (wr : World) : Prop where
  wds : Blk wr w.heap.size (cw l) 60
  res : Blk wr (w.heap.size + 1) (cb zb32) 23
  out : Blk wr (w.heap.size + 1 + 1) (cb (outB l k)) 23
  bel : Below w.heap.size w wr
theorem OutInv.store {w wr : World} {l : List (BitVec 32)} {k : Nat} (h : OutInv w l k wr) (v : Int) (hv : v = (((l.getD (k / 4) 0 >>> (24 - 8 * (k % 4))).setWidth 8).toNat : Int)) :
    OutInv w l (k + 1) (wr.setCell ⟨w.heap.size + 1 + 1, k, none⟩ (.int .u8 v)) := by
  subst hv
  exact ⟨h.wds.other _ _ (by simp; omega), h.res.other _ _ (by simp), by have := h.out.set k (.int .u8 (((l.getD (k / 4) 0 >>> (24 - 8 * (k % 4))).setWidth 8).toNat : Int)); rw [cb_set] at this; exact this, h.bel.setCell (by simp; omega) _⟩
theorem shr_byte (x : BitVec 32) (s : Nat) : (x.toNat : Int) / 2 ^ s % 256 = (((x >>> s).setWidth 8).toNat : Int) := by
  simp [BitVec.toNat_ushiftRight, Nat.shiftRight_eq_div_pow]
set_option maxHeartbeats 400000 in
theorem wordBytes_any (l : List (BitVec 32)) (hl : l.length = 8) (w : World) :
    Calls Tryd.prog 59 #[.agg (cw l).toArray] w fun e w' => e = .returned (.agg (cb (outB l 32)).toArray) ∧ Below w.heap.size w w' := by
  have HN : Hid (l.length = 8) := hl
  clear hl
  go_enter Tryd.func59, Tryd.ntmps59
  go_wp2
  go_loopw [6] (fun i wr => ∃ k : Nat, k ≤ 8 ∧ i = .int .i64 k ∧ OutInv w l (4 * k) wr) (fun i _ => 8 - (intOf i).toNat)
  case atStart =>
    refine ⟨0, by omega, rfl, ?_, ?_, ?_, ?_⟩
    · exact ((Blk.new w (cw l) 60).alloc _).alloc _
    · exact (Blk.new_at (w := w.alloc (.cells (cw l).toArray 60)) (by simp) (cb zb32) 23).alloc (.cells (cb zb32).toArray 23)
    · exact Blk.new_at (w := (w.alloc (.cells (cw l).toArray 60)).alloc (.cells (cb zb32).toArray 23)) (by simp) (cb zb32) 23
    · exact (((Below.refl _ _).alloc (Nat.le_refl _) _).alloc (by simp) _).alloc (by simp; omega) _
  case round =>
    obtain ⟨i, hi, rfl, hI⟩ := hrel
    by_cases hlt : i < 8
    · go_wp2
      go_loopw [9] (fun v wr => ∃ j : Nat, j ≤ 4 ∧ v = .int .i64 j ∧ OutInv w l (4 * i + j) wr) (fun v _ => 4 - (intOf v).toNat)
      case atStart => exact ⟨0, by omega, rfl, hI⟩
      case round =>
        clear hI
        obtain ⟨j, hj, rfl, hI⟩ := hrel
        by_cases hlj : j < 4
        · obtain ⟨x, HX⟩ : ∃ x, Hid (x = l.getD i 0) := ⟨_, rfl⟩
          have cx : wr.cell? ⟨w.heap.size, i, none⟩ = some (.int .u32 (x.toNat : Int)) := by rw [hI.wds.cell, cw_get l i (by have := HN.out; omega), HX.out]
          obtain ⟨o, cT⟩ : ∃ o, wr.cell? ⟨w.heap.size + 1 + 1, 4 * i + j, none⟩ = some o := ⟨_, by rw [hI.out.cell, cb_get _ _ (by rw [len_outB]; omega)]⟩
          have fT : wr.frozen? ⟨w.heap.size + 1 + 1, 4 * i + j, none⟩ = false := hI.out.frozen _
          go_wp2
          go_roundw
          case rel =>
            refine ⟨j + 1, by omega, by go_num, ?_⟩
            refine hI.store _ ?_
            rw [show (4 * i + j) / 4 = i by omega, show (4 * i + j) % 4 = j by omega, ← HX.out, shr_byte]
          case measure => simp [intOf]; omega
        · have hj4 : j = 4 := by omega
          subst hj4
          go_wp2
          go_roundw
          case rel => exact ⟨i + 1, by omega, by go_num, hI⟩
          case measure => simp [intOf]; omega
    · have hi8 : i = 8 := by omega
      subst hi8
      obtain ⟨cs, HC⟩ : ∃ x, Hid (x = cb (outB l 32)) := ⟨_, rfl⟩
      have HO : Hid (Blk wr (w.heap.size + 1 + 1) cs 23) := by rw [HC.out]; exact hI.out
      have HL : Hid (cs.length = 32) := by show _ = _; rw [HC.out, cb_len, len_outB]
      have HZ : Hid ((Tryd.prog.info? 23).map (·.size) = some cs.length) := by show _ = _; rw [HL.out]; exact Tryd.info23
      have H1 : Hid (∀ v ∈ cs, v.oneCell' = true) := by show ∀ _, _; rw [HC.out]; exact cb_one _
      have HR : Hid (Blk wr (w.heap.size + 1) (cb zb32) 23) := hI.res
      have hbel := hI.bel
      clear hI
      go_wp2_with (first
        | (refine wpList_load_mid rfl 23 _ rfl (w.heap.size + 1 + 1) 0 rfl cs _ HO.out.range Tryd.underlying23 rfl HZ.out ?_)
        | (refine wpList_store_mid rfl 23 _ _ rfl (w.heap.size + 1) 0 cs.toArray rfl rfl (HR.out.there 0 _ (by rw [List.size_toArray, HL.out, cb_len, len_zb32]; omega)) (by simpa using HZ.out) (all_oneCell_toArray H1.out) ?_))
      have hB := HR.out.whole cs (by rw [HL.out, cb_len, len_zb32])
      refine bodyPost_ret (v := .agg cs.toArray) (results_cell_row (by rfl) _ _ (w.heap.size + 1) 23 _ (0, 0) _ rfl hB Tryd.underlying23 rfl (by simpa using HZ.out)) rfl ⟨by rw [HC.out], Below.setCells _ (by omega) _ _ _ hbel⟩
end Go.Proofs.YtaleeaocmomjlaaDoor

/- The walk of sha.Pad: what stands behind so many bytes. -/
import Derived.Test.YtaleeaocmomjlaaDoorMake
namespace Go.Proofs.YtaleeaocmomjlaaDoor
open Go.RowKit
def padN (n : Nat) : Nat := (119 - n % 64) % 64
def bitsOf (n : Nat) : Nat := 8 * n % 18446744073709551616
def padL (k B : Nat) : Nat → List (BitVec 8)
  | 0 => 128#8 :: List.replicate (k + 8) 0
  | i + 1 => (padL k B i).set (k + 8 - i) (BitVec.ofNat 8 (B / 2 ^ (8 * i)))
def pad (n : Nat) : List (BitVec 8) := padL (padN n) (bitsOf n) 8
theorem len_padL (k B i : Nat) : (padL k B i).length = k + 9 := by
  induction i with
  | zero => simp [padL]
  | succ i ih => simp [padL, ih]
theorem padN_eq (n : Nat) : (IntKind.u64.wrap (55 - (n : Int))).tmod 64 = (padN n : Int) := by
  rw [IntKind.wrap_u64, Int.tmod_eq_emod_of_nonneg (by omega), padN]; omega
theorem bitsOf_eq (n : Nat) : IntKind.u64.wrap (8 * (n : Int)) = (bitsOf n : Int) := by
  rw [IntKind.wrap_u64, bitsOf]; omega
theorem Tryd.infob : (Tryd.prog.info? 5).map (fun i => (i.zero, i.size, i.bytes)) = some (some (.int .u8 0), 1, 1) := by kernel_rfl
theorem make_bytes (k : Nat) (hk : k < 281474976710600) (w : World) : (Instr.makeSlice 24 (.int .u64 (1 + (k : Int) + 8)) (.int .u64 (1 + (k : Int) + 8))).run Tryd.prog w =
    .ok (.slice (some ⟨w.heap.size, 0, none⟩) (k + 9) (k + 9)) (w.alloc (.cells (cb (List.replicate (k + 9) 0)).toArray 5)) := by
  obtain ⟨i0, hi, hz0, hz1, hz2⟩ := info_parts Tryd.infob
  rw [run_make (P := Tryd.prog) w 24 5 i0 _ Tryd.underlying24 hi hz0 .u64 .u64 _ _ (by omega) (by omega) (by rw [hz2]; omega) (by omega)]
  have e : (1 + (k : Int) + 8).toNat = k + 9 := by omega
  rw [e, hz1, Nat.mul_one]
  congr 3
  simp [madeCells, cb, Value.cells, Nat.mod_one]
  apply Array.ext
  · simp
  · intro j h1 h2; simp
theorem byte_of' (B j : Nat) : (((BitVec.ofNat 8 (B / 2 ^ (8 * j))).toNat : Nat) : Int) = (B : Int) / 2 ^ (8 * j) % 256 := by simp
set_option maxHeartbeats 400000 in
theorem pad_any (n : Nat) (w : World) : Calls Tryd.prog 58 #[.int .u64 (n : Int)] w fun e w' => e = .returned (.slice (some ⟨w.heap.size, 0, none⟩) (padN n + 9) (padN n + 9)) ∧ Blk w' w.heap.size (cb (pad n)) 5 ∧ Below w.heap.size w w' := by
  have h1 := padN_eq n
  have h2 := bitsOf_eq n
  have HP : Hid (pad n = padL (padN n) (bitsOf n) 8) := rfl
  have hk : padN n < 64 := by unfold padN; omega
  generalize padN n = k at *
  generalize bitsOf n = B at *
  have hmk := fun wx => make_bytes k (by omega) wx
  go_enter Tryd.func58, Tryd.ntmps58
  have hc0 : (cb (List.replicate (k + 9) 0#8))[0]? = some (.int .u8 0) := by simp [cb]
  have HS : Hid (Blk (w.alloc (.cells ((cb (List.replicate (k + 9) 0)).set 0 (.int .u8 128)).toArray 5)) w.heap.size (cb (padL k B 0)) 5) := by
    have := Blk.new w ((cb (List.replicate (k + 9) 0)).set 0 (.int .u8 128)) 5
    rw [show (Value.int .u8 128) = .int .u8 ((128#8).toNat : Int) from rfl, cb_set] at this
    exact this
  go_wp2
  go_loopw [18] (fun i wr => ∃ j : Nat, j ≤ 8 ∧ i = .int .i64 j ∧ Blk wr w.heap.size (cb (padL k B j)) 5 ∧ Below w.heap.size w wr) (fun i _ => 8 - (intOf i).toNat)
  case atStart =>
    exact ⟨0, by omega, rfl, HS.out, (Below.refl _ _).alloc (Nat.le_refl _) _⟩
  case round =>
    clear HS
    obtain ⟨j, hj, rfl, hB, hbel⟩ := hrel
    by_cases hlt : j < 8
    · obtain ⟨o, cT⟩ : ∃ o, wr.cell? ⟨w.heap.size, k + 8 - j, none⟩ = some o := ⟨_, by rw [hB.cell, cb_get _ _ (by rw [len_padL]; omega)]⟩
      have fT : wr.frozen? ⟨w.heap.size, k + 8 - j, none⟩ = false := hB.frozen _
      have HB : Hid (Blk wr w.heap.size (cb (padL k B j)) 5) := hB
      clear hB
      go_wp2
      go_roundw
      case rel =>
        refine ⟨j + 1, by omega, by go_num, ?_, hbel.setCell (Nat.le_refl _) _⟩
        have h := HB.out.set (k + 8 - j) (.int .u8 (((BitVec.ofNat 8 (B / 2 ^ (8 * j))).toNat : Nat) : Int))
        rw [cb_set, byte_of'] at h
        exact h
      case measure => simp [intOf]; omega
    · have hj8 : j = 8 := by omega
      subst hj8
      have HB : Hid (Blk wr w.heap.size (cb (pad n)) 5) := by show Blk _ _ _ _; rw [HP.out]; exact hB
      clear hB
      go_wp2
      go_ret
      exact ⟨rfl, HB.out, hbel⟩
end Go.Proofs.YtaleeaocmomjlaaDoor

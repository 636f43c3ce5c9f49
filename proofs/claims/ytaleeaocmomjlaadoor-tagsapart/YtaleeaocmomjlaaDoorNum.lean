/- The walks of tags.number and blazonref03.Number: a number's eight bytes, the highest first. -/
import Derived.Test.YtaleeaocmomjlaaDoorRMac
import Derived.Test.YtaleeaocmomjlaaDoorMakeN
namespace Go.Proofs.YtaleeaocmomjlaaDoor
open Go.RowKit
/-- a number's eight bytes, the highest first -/
def num8 (n : Nat) : List (BitVec 8) := tl8 n 8
theorem len_num8 (n : Nat) : (num8 n).length = 8 := by simp [num8, tl8]
def numL (n : Nat) : Nat → List (BitVec 8)
  | 0 => List.replicate 8 0
  | k + 1 => (numL n k).set (7 - k) (BitVec.ofNat 8 (n / 2 ^ (8 * k)))
theorem len_numL (n k : Nat) : (numL n k).length = 8 := by
  induction k with
  | zero => rfl
  | succ k ih => simp [numL, ih]
theorem numL_eq (n : Nat) : numL n 8 = num8 n := by
  simp [numL, num8, tl8, List.range_succ, List.replicate]
structure NmInv (w : World) (g : Nat) (l : List (BitVec 8)) (t : TypeId) (wr : World) : Prop where
  blk : Blk wr g (cb l) t
  bel : Below w.heap.size w wr
  le : w.heap.size ≤ g
theorem NmInv.set {w wr : World} {g : Nat} {n k : Nat} {t : TypeId} (h : NmInv w g (numL n k) t wr) (v : Int) (hv : v = ((BitVec.ofNat 8 (n / 2 ^ (8 * k))).toNat : Int)) : NmInv w g (numL n (k + 1)) t (wr.setCell ⟨g, 7 - k, none⟩ (.int .u8 v)) := by
  subst hv
  exact ⟨by have := h.blk.set (7 - k) (.int .u8 ((BitVec.ofNat 8 (n / 2 ^ (8 * k))).toNat : Int)); rw [cb_set] at this; exact this, h.bel.setCell h.le _, h.le⟩
theorem slice_a8b (g : Nat) (w : World) : (Instr.sliceAt 65 (.pointer (some ⟨g, 0, none⟩)) none none none).run Tryd.prog w = .ok (.slice (some ⟨g, 0, none⟩) 8 8) w := by kernel_rfl
set_option maxHeartbeats 400000 in
theorem number_any (n : Nat) (w : World) : Calls Tryd.prog 37 #[.int .u64 (n : Int)] w fun e w' => ∃ v, e = .returned v ∧ Reads w' v (num8 n) ∧ Below w.heap.size w w' := by
  have HE : Hid (numL n 8 = num8 n) := numL_eq n
  go_enter Tryd.func37, Tryd.ntmps37
  go_wp2
  go_loopw [5] (fun i wr => ∃ k : Nat, k ≤ 8 ∧ i = .int .i64 k ∧ NmInv w w.heap.size (numL n k) 65 wr) (fun i _ => 8 - (intOf i).toNat)
  case atStart => exact ⟨0, by omega, rfl, Blk.new w (cb (numL n 0)) 65, below_alloc _ _, Nat.le_refl _⟩
  case round =>
    obtain ⟨k, hk, rfl, hI⟩ := hrel
    by_cases hlt : k < 8
    · obtain ⟨o, cT⟩ : ∃ o, wr.cell? ⟨w.heap.size, 7 - k, none⟩ = some o := ⟨_, by rw [hI.blk.cell, cb_get _ _ (by rw [len_numL]; omega)]⟩
      have fT : wr.frozen? ⟨w.heap.size, 7 - k, none⟩ = false := hI.blk.frozen _
      have e7 : (7 : Int) - (k : Int) = ((7 - k : Nat) : Int) := by omega
      go_wp2
      go_roundw
      case rel =>
        refine ⟨k + 1, by omega, by go_num, ?_⟩
        refine hI.set _ ?_
        simp
      case measure => simp [intOf]; omega
    · have hk8 : k = 8 := by omega
      subst hk8
      rw [HE.out] at hI
      have hs := slice_a8b w.heap.size
      go_wp2
      go_ret
      exact ⟨_, rfl, hI.blk.reads (len_num8 n).symm (by rw [len_num8]; omega), hI.bel⟩
theorem div_step (n k : Nat) : n / 2 ^ (8 * k) / 256 = n / 2 ^ (8 * (k + 1)) := by
  rw [Nat.div_div_eq_div_mul, Nat.mul_add, Nat.pow_add]
set_option maxHeartbeats 400000 in
theorem rnumber_any (n : Nat) (hn : n < 18446744073709551616) (w : World) : Calls Tryd.prog 38 #[.int .u64 (n : Int)] w fun e w' => ∃ v, e = .returned v ∧ Reads w' v (num8 n) ∧ Below w.heap.size w w' := by
  have HE : Hid (numL n 8 = num8 n) := numL_eq n
  have hm : (Instr.makeSlice 24 (.int .i64 8) (.int .i64 8)).run Tryd.prog w = .ok (.slice (some ⟨w.heap.size, 0, none⟩) 8 8) (w.alloc (.cells (cb (List.replicate 8 0)).toArray 5)) := make_n .i64 8 (by decide) w
  go_enter Tryd.func38, Tryd.ntmps38
  go_wp2
  go_loopw [0, 4] (fun u i wr => ∃ k : Nat, k ≤ 8 ∧ i = .int .i64 (7 - (k : Int)) ∧ u = .int .u64 ((n / 2 ^ (8 * k) : Nat) : Int) ∧ NmInv w w.heap.size (numL n k) 5 wr) (fun _ i _ => (intOf i + 1).toNat)
  case atStart => exact ⟨0, by omega, rfl, by simp, Blk.new w (cb (numL n 0)) 5, below_alloc _ _, Nat.le_refl _⟩
  case round =>
    clear hm
    obtain ⟨k, hk, rfl, rfl, hI⟩ := hrel
    by_cases hlt : k < 8
    · obtain ⟨o, cT⟩ : ∃ o, wr.cell? ⟨w.heap.size, 7 - k, none⟩ = some o := ⟨_, by rw [hI.blk.cell, cb_get _ _ (by rw [len_numL]; omega)]⟩
      have fT : wr.frozen? ⟨w.heap.size, 7 - k, none⟩ = false := hI.blk.frozen _
      have e7 : (7 : Int) - (k : Int) = ((7 - k : Nat) : Int) := by omega
      have HD : Hid (n / 2 ^ (8 * k) / 256 = n / 2 ^ (8 * (k + 1))) := div_step n k
      have HI : Hid (∀ v : Int, v = ((BitVec.ofNat 8 (n / 2 ^ (8 * k))).toNat : Int) → NmInv w w.heap.size (numL n (k + 1)) 5 (wr.setCell ⟨w.heap.size, 7 - k, none⟩ (.int .u8 v))) := fun v hv => hI.set v hv
      have hx : n / 2 ^ (8 * k) < 18446744073709551616 := Nat.lt_of_le_of_lt (Nat.div_le_self _ _) hn
      clear hI HE hn
      generalize n / 2 ^ (8 * k) = x at *
      go_wp2
      go_roundw
      case rel =>
        refine ⟨k + 1, by omega, by congr 1; omega, ?_, ?_⟩
        · rw [← HD.out]; simp
        · refine HI.out _ ?_
          simp
      case measure => simp [intOf]; omega
    · have hk8 : k = 8 := by omega
      subst hk8
      rw [HE.out] at hI
      go_wp2
      go_ret
      exact ⟨_, rfl, hI.blk.reads (len_num8 n).symm (by rw [len_num8]; omega), hI.bel⟩
end Go.Proofs.YtaleeaocmomjlaaDoor

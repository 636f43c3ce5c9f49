/- The walk of the statement ShaPads. -/
import Derived.Test.YtngcdfhmgjmhkaaDoorSame
import Derived.Test.YtngcdfhmgjmhkaaDoorWorks
namespace Go.Proofs.YtngcdfhmgjmhkaaDoor
open Go.RowKit
theorem ofInt_toNat64 (x : BitVec 64) : BitVec.ofInt 64 (x.toNat : Int) = x := by
  apply BitVec.eq_of_toNat_eq; simp
theorem wrap_lt64 (x : BitVec 64) : IntKind.u64.wrap (x.toNat : Int) = (x.toNat : Int) := by
  have := x.isLt
  rw [IntKind.wrap_u64]; omega
theorem u64_or (x y : BitVec 64) : bits .or .u64 (x.toNat : Int) (y.toNat : Int) = ((x ||| y).toNat : Int) := by
  show IntKind.u64.wrap ((BitVec.ofInt 64 (x.toNat : Int) ||| BitVec.ofInt 64 (y.toNat : Int)).toNat : Int) = _
  rw [ofInt_toNat64, ofInt_toNat64, wrap_lt64]
theorem u64_or_nat (a b : Nat) (ha : a < 18446744073709551616) (hb : b < 18446744073709551616) : bits .or .u64 (a : Int) (b : Int) = ((a ||| b : Nat) : Int) := by
  have := u64_or (BitVec.ofNat 64 a) (BitVec.ofNat 64 b)
  rw [BitVec.toNat_or, BitVec.toNat_ofNat, BitVec.toNat_ofNat, Nat.mod_eq_of_lt (by simpa using ha), Nat.mod_eq_of_lt (by simpa using hb)] at this
  exact this
theorem or_step (B q : Nat) (hB : B < 18446744073709551616) (hq : q < 8) :
    bits .or .u64 (IntKind.u64.wrap ((B : Int) / 2 ^ (64 - 8 * q) * 256)) ((B : Int) / 2 ^ (56 - 8 * q) % 256) = ((B / 2 ^ (64 - 8 * (q + 1)) : Nat) : Int) := by
  have e1 : (64 - 8 * (q + 1)) = 56 - 8 * q := by omega
  have e2 : B / 2 ^ (64 - 8 * q) = B / 2 ^ (56 - 8 * q) / 256 := by
    rw [show 64 - 8 * q = (56 - 8 * q) + 8 by omega, Nat.pow_add, ← Nat.div_div_eq_div_mul]
  have e3 : ((B : Int) / 2 ^ (64 - 8 * q) * 256) = ((B / 2 ^ (64 - 8 * q) * 256 : Nat) : Int) := by simp
  have e4 : ((B : Int) / 2 ^ (56 - 8 * q) % 256) = ((B / 2 ^ (56 - 8 * q) % 256 : Nat) : Int) := by simp
  rw [e1, e3, e4, e2]
  have hY : B / 2 ^ (56 - 8 * q) < 18446744073709551616 := Nat.lt_of_le_of_lt (Nat.div_le_self _ _) hB
  generalize B / 2 ^ (56 - 8 * q) = Y at *
  have hw : IntKind.u64.wrap ((Y / 256 * 256 : Nat) : Int) = ((Y / 256 * 256 : Nat) : Int) := by rw [IntKind.wrap_u64]; omega
  rw [hw, u64_or_nat _ _ (by omega) (by omega)]
  have h1 := Nat.two_pow_add_eq_or_of_lt (i := 8) (b := Y % 256) (by omega) (Y / 256)
  have h2 : Y / 256 * 256 ||| Y % 256 = Y := by
    rw [Nat.mul_comm]
    have h3 : 2 ^ 8 * (Y / 256) = 256 * (Y / 256) := rfl
    rw [h3] at h1
    omega
  rw [h2]
set_option maxHeartbeats 400000 in
theorem pads_any (n : Nat) (hn : n < 18446744073709551616) (w : World) (hK : KOk w) :
    Calls Tryd.prog 4 #[.int .u64 (n : Int)] w fun e w' => e = .returned (.bool true) ∧ Below w.heap.size w w' := by
  have HK : Hid (KOk w) := hK
  clear hK
  go_enter Tryd.func4, Tryd.ntmps4
  go_wp2_with fail
  refine (pad_any n _).mono ?_
  rintro e w1 ⟨rfl, hp1, hb1⟩
  have hr1 : Reads w1 (.slice (some ⟨w.heap.size, 0, none⟩) (padN n + 9) (padN n + 9)) (pad n) := ⟨_, _, by rw [len_pad], by rw [len_pad]; omega, (fun h => by cases h), fun _ => ⟨w.heap.size, 0, rfl, fun j hj => by rw [hp1.cell, Nat.zero_add, cb_get _ j hj]⟩⟩
  go_wp2_with fail
  refine (rpad_any n _).mono ?_
  rintro e w2 ⟨v2, rfl, hr2, hb2⟩
  have hr3 := hr1.below hb2
  have hB2 : Below w.heap.size w w2 := hb1.trans (hb2.mono hb1.size)
  go_wp2_with fail
  refine (same_any _ _ _ _ _ hr3 hr2).mono ?_
  rintro e w3 ⟨rfl, rfl⟩
  simp only [decide_true]
  have hp3 : Blk w3 w.heap.size (cb (pad n)) 5 := hp1.below hb2 hp1.lt
  have HC : Hid (∀ q, q < 8 → w3.cell? ⟨w.heap.size, padN n + 1 + q, none⟩ = some (.int .u8 ((bitsOf n : Int) / 2 ^ (56 - 8 * q) % 256))) := by
    intro q hq
    rw [hp3.cell, cb_get _ _ (by rw [len_pad]; omega), pad_eq]
    have e : (128#8 :: List.replicate (padN n) (0 : BitVec 8) ++ tl8 (bitsOf n) 8).getD (padN n + 1 + q) 0 = BitVec.ofNat 8 (bitsOf n / 2 ^ (56 - 8 * q)) := by
      rw [List.getD_eq_getElem?_getD, List.getElem?_append_right (by simp)]
      simp [tl8, hq]
    rw [e]; simp
  have hkk : padN n = (119 - n % 64) % 64 := rfl
  have hB64 : bitsOf n < 18446744073709551616 := by unfold bitsOf; omega
  have h3 : IntKind.u64.wrap ((n : Int) * 8) = (bitsOf n : Int) := by rw [Int.mul_comm]; exact bitsOf_eq n
  have hKw : KOk w3 := HK.out.below hB2 HK.out.lt
  have HKw : Hid (KOk w3) := hKw
  clear hKw hp3 hr3 hr1 hr2 hb2 hb1 hp1 HK
  generalize padN n = k at *
  generalize bitsOf n = B at *
  have hk : k < 64 := by omega
  have ht : ((IntKind.u64.wrap ((n : Int) + ((k : Int) + 9))).tmod 64 != 0) = false := by
    rw [IntKind.wrap_u64, Int.tmod_eq_emod_of_nonneg (by omega), bne_eq_false_iff_eq]; omega
  have HN : Hid (n < 18446744073709551616) := hn
  have HB : Hid (B < 18446744073709551616) := hB64
  clear hn hB64 hkk
  have hd1 : decide ((k : Int) + 9 < 9) = false := by simp; omega
  have hd2 : decide (72 < (k : Int) + 9) = false := by simp; omega
  go_wp2
  go_loop [4, 5] (fun b i => ∃ q : Nat, q ≤ 8 ∧ i = .int .i64 ((k : Int) + 1 + (q : Int)) ∧ b = .int .u64 ((B / 2 ^ (64 - 8 * q) : Nat) : Int)) (fun _ i => k + 9 - (intOf i).toNat)
  case atStart =>
    refine ⟨0, by omega, by go_num, ?_⟩
    have := HB.out
    rw [show B / 2 ^ (64 - 8 * 0) = 0 from Nat.div_eq_of_lt (by simpa using this)]; rfl
  case round =>
    obtain ⟨q, hq, rfl, rfl⟩ := hrel
    by_cases hlt : q < 8
    · have hc := HC.out q hlt
      go_wp2
      go_round
      case rel =>
        refine ⟨q + 1, by omega, by go_num, ?_⟩
        rw [or_step B q HB.out hlt]
      case measure => simp [intOf]; omega
    · have hq8 : q = 8 := by omega
      subst hq8
      have hb0 : ((B / 2 ^ (64 - 8 * 8) : Nat) : Int) = (B : Int) := by simp
      go_wp2_with (go_at_call 10; refine (works_any _ HKw.out).mono ?_; rintro e w4 ⟨rfl, hb4⟩)
      go_ret
      exact ⟨rfl, hB2.trans (hb4.mono hB2.size)⟩
end Go.Proofs.YtngcdfhmgjmhkaaDoor

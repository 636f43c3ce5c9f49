/- The walks of the reader's Num and Count. -/
import Derived.Test.YtldbcglakeggaaaRd
namespace Go.Proofs.Ytldbcglakeggaaa
open Go.RowKit
structure RnInv (gr gi : Nat) (v0 : Value) (w : World) (l : List (BitVec 8)) (k acc : Nat) (rest : List (BitVec 8)) (wr : World) : Prop where
  le : k ≤ 10
  lt : acc < 2 ^ (7 * k)
  eq : readNum l = decNum (10 - k) k acc rest
  rd : ∃ v, Rd wr gr gi v rest ∧ v.ownBlock = v0.ownBlock
  onl : Only gi w wr
theorem dec_step (k acc : Nat) (hk : k < 10) (c : BitVec 8) (r : List (BitVec 8)) : decNum (10 - k) k acc (c :: r) =
    if (k = 9 ∧ 1 < c.toNat) ∨ (0 < k ∧ c.toNat = 0) then none else if c.toNat < 128 then some (acc + c.toNat % 128 * 2 ^ (7 * k), r) else decNum (10 - (k + 1)) (k + 1) (acc + c.toNat % 128 * 2 ^ (7 * k)) r := by
  rw [show 10 - k = (10 - (k + 1)) + 1 by omega, decNum]
theorem dec_nil (k acc : Nat) (hk : k < 10) : decNum (10 - k) k acc [] = none := by
  rw [show 10 - k = (10 - (k + 1)) + 1 by omega, decNum]
theorem or_add (acc g k : Nat) (hk : k < 10) (h : acc < 2 ^ (7 * k)) (h2 : g * 2 ^ (7 * k) < 18446744073709551616) : bits .or .u64 (acc : Int) (IntKind.u64.wrap ((g : Int) * 2 ^ (7 * k))) = ((acc + g * 2 ^ (7 * k) : Nat) : Int) := by
  have e : (g : Int) * 2 ^ (7 * k) = ((g * 2 ^ (7 * k) : Nat) : Int) := by simp
  have hs : acc + g * 2 ^ (7 * k) < 18446744073709551616 ∧ acc ||| g * 2 ^ (7 * k) = acc + g * 2 ^ (7 * k) := by
    have h3 := Nat.two_pow_add_eq_or_of_lt h g
    rw [Nat.mul_comm] at h3
    have h4 : g * 2 ^ (7 * k) ||| acc = acc ||| g * 2 ^ (7 * k) := Nat.or_comm _ _
    have h5 : acc ||| g * 2 ^ (7 * k) < 2 ^ 64 := by
      by_cases hg : g = 0
      · subst hg
        simp only [Nat.zero_mul, Nat.or_zero] at *
        exact Nat.lt_of_lt_of_le h (Nat.pow_le_pow_right (by omega) (by omega))
      · apply Nat.or_lt_two_pow
        · have : 2 ^ (7 * k) ≤ g * 2 ^ (7 * k) := Nat.le_mul_of_pos_left _ (by omega)
          omega
        · omega
    omega
  rw [e]
  have hw : IntKind.u64.wrap ((g * 2 ^ (7 * k) : Nat) : Int) = ((g * 2 ^ (7 * k) : Nat) : Int) := by rw [IntKind.wrap_u64]; omega
  rw [hw]
  generalize g * 2 ^ (7 * k) = x at *
  show IntKind.u64.wrap ((BitVec.ofInt 64 (acc : Int) ||| BitVec.ofInt 64 (x : Int)).toNat : Int) = _
  rw [BitVec.ofInt_natCast, BitVec.ofInt_natCast, BitVec.toNat_or, BitVec.toNat_ofNat, BitVec.toNat_ofNat, Nat.mod_eq_of_lt (by omega), Nat.mod_eq_of_lt (by omega), hs.2, IntKind.wrap_u64]
  omega
theorem top_small (k g : Nat) (hk : k < 10) (hg : g < 128) (h : 18446744073709551615 / 2 ^ (7 * k) < g) : k = 9 ∧ 1 < g := by
  by_cases h9 : k = 9
  · subst h9
    simp only [Nat.reduceMul, Nat.reducePow, Nat.reduceDiv] at h
    omega
  · exfalso
    have h1 : 18446744073709551615 / 2 ^ 56 ≤ 18446744073709551615 / 2 ^ (7 * k) := Nat.div_le_div_left (Nat.pow_le_pow_right (by omega) (by omega)) (Nat.pow_pos (by omega))
    simp only [Nat.reducePow, Nat.reduceDiv] at h1
    omega
theorem top_cast (k : Nat) : (18446744073709551615 : Int) / 2 ^ (7 * k) = ((18446744073709551615 / 2 ^ (7 * k) : Nat) : Int) := by simp
set_option maxRecDepth 100000 in
set_option maxHeartbeats 1000000 in
theorem crnum_any (gr gi : Nat) (v : Value) (l : List (BitVec 8)) (w : World) (h : Rd w gr gi v l) :
    Calls Try.prog 63 #[.pointer (some ⟨gr, 0, none⟩)] w fun e w' => RdDoes gr gi v w (readNum l) (fun a _ v => v = .int .u64 (a : Int)) e w' := by
  have hI : RnInv gr gi v w l 0 0 l w := ⟨by omega, by simp, rfl, ⟨v, h, rfl⟩, Only.refl _ _⟩
  clear h
  go_enter Try.func63, Try.ntmps63
  go_wp2
  go_loopw [3, 8] (fun x i wr => ∃ (k acc : Nat) (rest : List (BitVec 8)), i = .int .i64 (k : Int) ∧ x = .int .u64 (acc : Int) ∧ RnInv gr gi v w l k acc rest wr) (fun _ i _ => 10 - (intOf i).toNat)
  case atStart => exact ⟨0, 0, l, rfl, rfl, hI⟩
  case round =>
    clear hI
    obtain ⟨k, acc, rest, rfl, rfl, hI⟩ := hrel
    have hk := hI.le
    have HI : Hid (RnInv gr gi v w l k acc rest wr) := hI
    clear hI
    by_cases hlt : k < 10
    · go_wp2_with fail
      obtain ⟨v1, h1, hob1⟩ := HI.out.rd
      refine (take_any gr gi 1 v1 rest wr h1 (by omega)).mono ?_
      rintro e w1 hT
      rcases hT with ⟨a, r, va, v2, hc, rfl, hr, hrd, ho, hob⟩ | ⟨hc, hT⟩
      · obtain ⟨c, rest2, rfl⟩ : ∃ c rest2, rest = c :: rest2 := by
          cases rest with
          | nil => simp [cut] at hc
          | cons c r => exact ⟨c, r, rfl⟩
        simp [cut] at hc
        obtain ⟨rfl, rfl⟩ := hc
        obtain ⟨ad, cap, rfl, _, _, hx⟩ := hr
        obtain ⟨b, off, rfl, hy⟩ := hx (by simp)
        have cc := hy 0 (by simp)
        simp at cc
        have hc8 := c.isLt
        have HE : Hid (readNum l = if (k = 9 ∧ 1 < c.toNat) ∨ (0 < k ∧ c.toNat = 0) then none else if c.toNat < 128 then some (acc + c.toNat % 128 * 2 ^ (7 * k), rest2) else decNum (10 - (k + 1)) (k + 1) (acc + c.toNat % 128 * 2 ^ (7 * k)) rest2) := by
          show _ = _; rw [HI.out.eq, dec_step k acc hlt]
        obtain ⟨cn, HCN⟩ : ∃ x, Hid (x = c.toNat) := ⟨_, rfl⟩
        rw [← HCN.out] at cc hc8 HE
        have HRD : Hid (Rd w1 gr gi v2 rest2) := hrd
        have HOB : Hid (v2.ownBlock = v.ownBlock) := hob.trans hob1
        clear hob hob1
        have HO : Hid (Only gi w w1) := HI.out.onl.trans ho
        have HA : Hid (acc < 2 ^ (7 * k)) := HI.out.lt
        clear hx hy hrd ho h1 HI
        have h7 : IntKind.i64.wrap (7 * (k : Int)) = 7 * (k : Int) := by rw [IntKind.wrap_i64]; omega
        have h70 : ¬ (7 * (k : Int) < 0) := by omega
        have HT := top_cast k
        by_cases hA : 18446744073709551615 / 2 ^ (7 * k) < cn % 128
        · have hAi : (18446744073709551615 : Int) / 2 ^ (7 * k) < (cn : Int) % 128 := by rw [HT]; omega
          have HNo : Hid (readNum l = none) := by
            show _ = _
            obtain ⟨h9, h10⟩ := top_small k _ hlt (by omega) hA
            rw [HE.out, if_pos (Or.inl ⟨h9, by omega⟩)]
          clear HT hA HE
          go_wp2_with fail
          refine (cfail_any gr gi v2 rest2 w1 HRD.out).mono ?_
          rintro e w2 ⟨rfl, rfl⟩
          have hT := HRD.out.threw.after HO.out
          obtain ⟨w2, HW2⟩ : ∃ x, Hid (x = w1.setCell ⟨gi, 2, none⟩ (.bool true)) := ⟨_, rfl⟩
          rw [← HW2.out] at hT ⊢
          unfold thrown at hT ⊢
          go_wp2
          exact ⟨rfl, Or.inr ⟨HNo.out, hT⟩⟩
        · have hAi : ¬ ((18446744073709551615 : Int) / 2 ^ (7 * k) < (cn : Int) % 128) := by rw [HT]; omega
          have HG : Hid (cn % 128 * 2 ^ (7 * k) < 18446744073709551616) := by
            have h1 : cn % 128 * 2 ^ (7 * k) ≤ 18446744073709551615 / 2 ^ (7 * k) * 2 ^ (7 * k) := Nat.mul_le_mul_right _ (by omega)
            have h2 := Nat.div_mul_le_self 18446744073709551615 (2 ^ (7 * k))
            show _ < _
            omega
          have hor := or_add acc (cn % 128) k hlt HA.out HG.out
          rw [show ((cn % 128 : Nat) : Int) = (cn : Int) % 128 by omega] at hor
          obtain ⟨sm, HSM⟩ : ∃ x, Hid (x = acc + cn % 128 * 2 ^ (7 * k)) := ⟨_, rfl⟩
          rw [← HSM.out] at hor HE
          have HS2 : Hid (sm < 2 ^ (7 * (k + 1))) := by
            show _ < _
            rw [HSM.out, pow7]
            have h1 := HA.out
            have h2 : cn % 128 * 2 ^ (7 * k) ≤ 127 * 2 ^ (7 * k) := Nat.mul_le_mul_right _ (by omega)
            omega
          clear HT hA
          by_cases hB : 0 < k ∧ cn = 0
          · obtain ⟨hk0, rfl⟩ := hB
            have HNo : Hid (readNum l = none) := by show _ = _; rw [HE.out, if_pos (Or.inr ⟨hk0, rfl⟩)]
            clear HE hor
            go_wp2_with fail
            refine (cfail_any gr gi v2 rest2 w1 HRD.out).mono ?_
            rintro e w2 ⟨rfl, rfl⟩
            have hT := HRD.out.threw.after HO.out
            obtain ⟨w2, HW2⟩ : ∃ x, Hid (x = w1.setCell ⟨gi, 2, none⟩ (.bool true)) := ⟨_, rfl⟩
            rw [← HW2.out] at hT ⊢
            unfold thrown at hT ⊢
            go_wp2
            exact ⟨rfl, Or.inr ⟨HNo.out, hT⟩⟩
          · by_cases hC : cn < 128
            · have hC2 : (cn : Int) < 128 := by omega
              have HYes : Hid (readNum l = if k = 9 ∧ 1 < cn then none else some (sm, rest2)) := by
                show _ = _
                rw [HE.out, if_pos hC]
                by_cases h9 : k = 9 ∧ 1 < cn
                · rw [if_pos (Or.inl h9), if_pos h9]
                · rw [if_neg (by rintro (h | h); exact h9 h; exact hB h), if_neg h9]
              have H9 : Hid (¬ (k = 9 ∧ 1 < cn)) := by
                rintro ⟨rfl, h⟩
                have := HG.out
                simp only [Nat.reduceMul, Nat.reducePow] at this
                omega
              have HY2 : Hid (readNum l = some (sm, rest2)) := by show _ = _; rw [HYes.out, if_neg H9.out]
              clear HE HYes
              by_cases hz : cn = 0
              · have hk0 : k = 0 := by omega
                subst hz hk0
                have ha0 : acc = 0 := by have := HA.out; simp at this; omega
                subst ha0
                have hs0 : sm = 0 := HSM.out
                subst hs0
                clear hor hB h70 h7 hAi
                go_wp2
                go_ret
                exact Or.inl ⟨0, rest2, _, v2, HY2.out, rfl, rfl, HRD.out, HO.out, HOB.out⟩
              · have hz2 : ¬ ((cn : Int) = 0) := by omega
                clear hB
                go_wp2
                go_ret
                exact Or.inl ⟨sm, rest2, _, v2, HY2.out, rfl, rfl, HRD.out, HO.out, HOB.out⟩
            · have hC2 : ¬ ((cn : Int) < 128) := by omega
              have hz2 : ¬ ((cn : Int) = 0) := by omega
              have HD : Hid (readNum l = decNum (10 - (k + 1)) (k + 1) sm rest2) := by
                show _ = _
                rw [HE.out, if_neg hC]
                by_cases h9 : k = 9
                · subst h9
                  rw [if_pos (Or.inl ⟨rfl, by omega⟩)]; rfl
                · rw [if_neg (by omega)]
              clear HE hB hC
              go_wp2
              go_roundw
              case rel => exact ⟨k + 1, sm, rest2, by go_num, rfl, by omega, HS2.out, HD.out, ⟨v2, HRD.out, HOB.out⟩, HO.out⟩
              case measure => simp [intOf]; omega
      · have hn : rest = [] := by
          cases rest with
          | nil => rfl
          | cons c r => simp [cut] at hc
        subst hn
        have HNo : Hid (readNum l = none) := by show _ = _; rw [HI.out.eq, dec_nil k acc hlt]
        have hT2 := hT.after HI.out.onl
        obtain rfl := hT.eq
        unfold thrown at hT2 ⊢
        clear hT HI h1
        go_wp2
        exact ⟨rfl, Or.inr ⟨HNo.out, hT2⟩⟩
    · have hk10 : k = 10 := by omega
      subst hk10
      have HNo : Hid (readNum l = none) := by show _ = _; rw [HI.out.eq]; rfl
      obtain ⟨v1, h1, hob1⟩ := HI.out.rd
      have HO := HI.out.onl
      have HRD : Hid (Rd wr gr gi v1 rest) := h1
      clear HI h1
      go_wp2_with fail
      refine (cfail_any gr gi v1 rest wr HRD.out).mono ?_
      rintro e w2 ⟨rfl, rfl⟩
      have hT := HRD.out.threw.after HO
      obtain ⟨w2, HW2⟩ : ∃ x, Hid (x = wr.setCell ⟨gi, 2, none⟩ (.bool true)) := ⟨_, rfl⟩
      rw [← HW2.out] at hT ⊢
      unfold thrown at hT ⊢
      go_wp2
      exact ⟨rfl, Or.inr ⟨HNo.out, hT⟩⟩
def readCount (most : Nat) (l : List (BitVec 8)) : Option (Nat × List (BitVec 8)) :=
  match readNum l with
  | none => none
  | some (n, r) => if n ≤ most then some (n, r) else none
set_option maxHeartbeats 400000 in
theorem count_any (gr gi most : Nat) (hm : most < 9223372036854775808) (v : Value) (l : List (BitVec 8)) (w : World) (h : Rd w gr gi v l) :
    Calls Try.prog 66 #[.pointer (some ⟨gr, 0, none⟩), .int .i64 (most : Int)] w fun e w' => RdDoes gr gi v w (readCount most l) (fun a _ v => v = .int .i64 (a : Int)) e w' := by
  have HR : Hid (Rd w gr gi v l) := h
  have hw : IntKind.u64.wrap (most : Int) = (most : Int) := by rw [IntKind.wrap_u64]; omega
  have h0 : ¬ ((most : Int) < 0) := by omega
  clear h
  go_enter Try.func66, Try.ntmps66
  go_wp2_with fail
  refine (crnum_any gr gi v l w HR.out).mono ?_
  rintro e w1 (⟨n, r, va, v2, hc, rfl, rfl, hrd, ho, hob⟩ | ⟨hc, hT⟩)
  · have HRD : Hid (Rd w1 gr gi v2 r) := hrd
    have HOB : Hid (v2.ownBlock = v.ownBlock) := hob
    clear hob
    have HO : Hid (Only gi w w1) := ho
    have HC : Hid (readCount most l = if n ≤ most then some (n, r) else none) := by show _ = _; unfold readCount; rw [hc]
    clear hrd ho hc
    by_cases hle : n ≤ most
    · have hng : ¬ ((most : Int) < (n : Int)) := by omega
      have hwn : IntKind.i64.wrap (n : Int) = (n : Int) := by rw [IntKind.wrap_i64]; omega
      have HC2 : Hid (readCount most l = some (n, r)) := by show _ = _; rw [HC.out, if_pos hle]
      clear HC
      go_wp2
      go_ret
      exact Or.inl ⟨n, r, _, v2, HC2.out, rfl, rfl, HRD.out, HO.out, HOB.out⟩
    · have hg : (most : Int) < (n : Int) := by omega
      have HC2 : Hid (readCount most l = none) := by show _ = _; rw [HC.out, if_neg hle]
      clear HC hle
      go_wp2_with fail
      refine (cfail_any gr gi v2 r w1 HRD.out).mono ?_
      rintro e w2 ⟨rfl, rfl⟩
      have hT := HRD.out.threw.after HO.out
      obtain ⟨w2, HW2⟩ : ∃ x, Hid (x = w1.setCell ⟨gi, 2, none⟩ (.bool true)) := ⟨_, rfl⟩
      rw [← HW2.out] at hT ⊢
      unfold thrown at hT ⊢
      go_wp2
      exact ⟨rfl, Or.inr ⟨HC2.out, hT⟩⟩
  · have HC2 : Hid (readCount most l = none) := by show _ = _; unfold readCount; rw [hc]
    have hT2 := hT
    obtain rfl := hT.eq
    unfold thrown at hT2 ⊢
    clear hT hc
    go_wp2
    exact ⟨rfl, Or.inr ⟨HC2.out, hT2⟩⟩
set_option maxHeartbeats 400000 in
/-- no number is at most a negative one -/
theorem count_neg (gr gi : Nat) (most : Int) (hm : most < 0) (v : Value) (l : List (BitVec 8)) (w : World) (h : Rd w gr gi v l) :
    Calls Try.prog 66 #[.pointer (some ⟨gr, 0, none⟩), .int .i64 most] w fun e w' => Threw gi w e w' := by
  have HR : Hid (Rd w gr gi v l) := h
  clear h
  go_enter Try.func66, Try.ntmps66
  go_wp2_with fail
  refine (crnum_any gr gi v l w HR.out).mono ?_
  rintro e w1 (⟨n, r, va, v2, hc, rfl, rfl, hrd, ho, hob⟩ | ⟨hc, hT⟩)
  · have HRD : Hid (Rd w1 gr gi v2 r) := hrd
    have HO : Hid (Only gi w w1) := ho
    clear hrd ho hc hob
    go_wp2_with fail
    refine (cfail_any gr gi v2 r w1 HRD.out).mono ?_
    rintro e w2 ⟨rfl, rfl⟩
    have hT := HRD.out.threw.after HO.out
    obtain ⟨w2, HW2⟩ : ∃ x, Hid (x = w1.setCell ⟨gi, 2, none⟩ (.bool true)) := ⟨_, rfl⟩
    rw [← HW2.out] at hT ⊢
    unfold thrown at hT ⊢
    go_wp2
    exact ⟨rfl, hT⟩
  · have hT2 := hT
    obtain rfl := hT.eq
    unfold thrown at hT2 ⊢
    clear hT hc
    go_wp2
    exact ⟨rfl, hT2⟩
end Go.Proofs.Ytldbcglakeggaaa

/- The walks of mac.byteAt and mac.Same: are two texts the same? -/
import Derived.Test.YtngcdfhmgjmhkabDoorMacPlain
namespace Go.Proofs.YtngcdfhmgjmhkabDoor
open Go.RowKit
theorem ofInt_nat64 (a : Nat) : BitVec.ofInt 64 (a : Int) = BitVec.ofNat 64 a := by
  apply BitVec.eq_of_toNat_eq; simp
theorem i64_small (n : Nat) (h : n < 9223372036854775808) : IntKind.i64.wrap (n : Int) = (n : Int) := by rw [IntKind.wrap_i64]; omega
theorem i64_xor (a b : Nat) (ha : a < 9223372036854775808) (hb : b < 9223372036854775808) : bits .xor .i64 (a : Int) (b : Int) = ((a ^^^ b : Nat) : Int) := by
  show IntKind.i64.wrap ((BitVec.ofInt 64 (a : Int) ^^^ BitVec.ofInt 64 (b : Int)).toNat : Int) = _
  have hx : a ^^^ b < 9223372036854775808 := Nat.xor_lt_two_pow (n := 63) (by simpa using ha) (by simpa using hb)
  rw [ofInt_nat64, ofInt_nat64, BitVec.toNat_xor, BitVec.toNat_ofNat, BitVec.toNat_ofNat, Nat.mod_eq_of_lt (by omega), Nat.mod_eq_of_lt (by omega), i64_small _ hx]
theorem i64_or (a b : Nat) (ha : a < 9223372036854775808) (hb : b < 9223372036854775808) : bits .or .i64 (a : Int) (b : Int) = ((a ||| b : Nat) : Int) := by
  show IntKind.i64.wrap ((BitVec.ofInt 64 (a : Int) ||| BitVec.ofInt 64 (b : Int)).toNat : Int) = _
  have hx : a ||| b < 9223372036854775808 := Nat.or_lt_two_pow (n := 63) (by simpa using ha) (by simpa using hb)
  rw [ofInt_nat64, ofInt_nat64, BitVec.toNat_or, BitVec.toNat_ofNat, BitVec.toNat_ofNat, Nat.mod_eq_of_lt (by omega), Nat.mod_eq_of_lt (by omega), i64_small _ hx]
set_option maxHeartbeats 400000 in
theorem byteAt_any (v : Value) (bs : List (BitVec 8)) (i : Nat) (w : World) (hR : Reads w v bs) :
    Calls Tryd.prog 21 #[v, .int .i64 (i : Int)] w fun e w' => e = .returned (.int .u8 ((bs.getD i 0).toNat : Int)) ∧ w' = w := by
  obtain ⟨ad, cap, hv, hcap, _, hx⟩ := hR
  obtain ⟨n, HNN⟩ : ∃ n, Hid (n = bs.length) := ⟨_, rfl⟩
  rw [← HNN.out] at hv hcap hx
  subst hv
  by_cases hi : i < n
  · have hd : decide ((i : Int) < (n : Int)) = true := by simp; omega
    obtain ⟨b, off, rfl, hc⟩ := hx (by omega)
    have cx := hc i hi
    generalize bs.getD i 0 = x at *
    clear hx hc
    go_enter Tryd.func21, Tryd.ntmps21
    go_wp2
    go_ret
    exact ⟨rfl, rfl⟩
  · have hd : decide ((i : Int) < (n : Int)) = false := by simp; omega
    have e : bs.getD i 0 = 0 := by rw [List.getD_eq_getElem?_getD, List.getElem?_eq_none (by rw [← HNN.out]; omega)]; rfl
    rw [e]
    clear hx
    go_enter Tryd.func21, Tryd.ntmps21
    go_wp2
    go_ret
    exact ⟨rfl, rfl⟩
/-- what Same has gathered behind j bytes -/
def Alike (la lb : List (BitVec 8)) (j U : Nat) : Prop := U < 9223372036854775808 ∧ (U = 0 ↔ la.length = lb.length ∧ ∀ i, i < j → la.getD i 0 = lb.getD i 0)
theorem xor_zero_iff (a b : Nat) : a ^^^ b = 0 ↔ a = b := by
  constructor
  · intro h
    have : (a ^^^ b) ^^^ b = 0 ^^^ b := by rw [h]
    rw [Nat.xor_assoc, Nat.xor_self, Nat.xor_zero, Nat.zero_xor] at this
    exact this
  · rintro rfl; exact Nat.xor_self _
theorem Alike.start (la lb : List (BitVec 8)) (ha : la.length < 9223372036854775808) (hb : lb.length < 9223372036854775808) : Alike la lb 0 (la.length ^^^ lb.length) := by
  refine ⟨Nat.xor_lt_two_pow (n := 63) (by simpa using ha) (by simpa using hb), ?_⟩
  rw [xor_zero_iff]
  exact ⟨fun h => ⟨h, fun i hi => by omega⟩, fun h => h.1⟩
theorem Alike.step {la lb : List (BitVec 8)} {j U : Nat} (h : Alike la lb j U) : Alike la lb (j + 1) (U ||| (la.getD j 0 ^^^ lb.getD j 0).toNat) := by
  have hl := (la.getD j 0 ^^^ lb.getD j 0).isLt
  refine ⟨Nat.or_lt_two_pow (n := 63) (by simpa using h.1) (by omega), ?_⟩
  rw [Nat.or_eq_zero_iff, h.2]
  have hz : (la.getD j 0 ^^^ lb.getD j 0).toNat = 0 ↔ la.getD j 0 = lb.getD j 0 := by
    rw [← BitVec.xor_eq_zero_iff]
    exact ⟨fun h => BitVec.eq_of_toNat_eq (by simpa using h), fun h => by rw [h]; rfl⟩
  rw [hz]
  constructor
  · rintro ⟨⟨h1, h2⟩, h3⟩
    refine ⟨h1, fun i hi => ?_⟩
    by_cases e : i = j
    · subst e; exact h3
    · exact h2 i (by omega)
  · rintro ⟨h1, h2⟩
    exact ⟨⟨h1, fun i hi => h2 i (by omega)⟩, h2 j (by omega)⟩
theorem Alike.done {la lb : List (BitVec 8)} {j U : Nat} (h : Alike la lb j U) (hj : la.length ≤ j) : decide (U = 0) = decide (la = lb) := by
  rw [decide_eq_decide, h.2]
  constructor
  · rintro ⟨h1, h2⟩
    apply List.ext_getElem h1
    intro i hi hi'
    have := h2 i (by omega)
    simpa [hi, hi'] using this
  · rintro rfl; exact ⟨rfl, fun _ _ => rfl⟩
set_option maxHeartbeats 400000 in
theorem msame_any (va vb : Value) (la lb : List (BitVec 8)) (w : World) (ha : Reads w va la) (hb : Reads w vb lb) (hla : la.length < 9223372036854775808) (hlb : lb.length < 9223372036854775808) :
    Calls Tryd.prog 12 #[va, vb] w fun e w' => e = .returned (.bool (decide (la = lb))) ∧ w' = w := by
  have HA : Hid (Reads w va la) := ha
  have HB : Hid (Reads w vb lb) := hb
  obtain ⟨ada, ca, hva, _, _, _⟩ := ha
  obtain ⟨adb, cb', hvb, _, _, _⟩ := hb
  have HS : Hid (Alike la lb 0 (la.length ^^^ lb.length)) := Alike.start la lb hla hlb
  have hx := i64_xor la.length lb.length hla hlb
  obtain ⟨na, HNA⟩ : ∃ n, Hid (n = la.length) := ⟨_, rfl⟩
  obtain ⟨nb, HNB⟩ : ∃ n, Hid (n = lb.length) := ⟨_, rfl⟩
  rw [← HNA.out] at hva hla hx HS
  rw [← HNB.out] at hvb hlb hx HS
  subst hva
  subst hvb
  by_cases hm : na < nb
  · have hmd : decide ((na : Int) < (nb : Int)) = true := by simp; omega
    go_enter Tryd.func12, Tryd.ntmps12
    go_wp2_with fail
    go_loopw [5, 17] (fun u i wr => ∃ j U : Nat, j ≤ nb ∧ i = .int .i64 j ∧ u = .int .i64 U ∧ Alike la lb j U ∧ wr = w) (fun _ i _ => nb - (intOf i).toNat)
    case atStart => exact ⟨0, na ^^^ nb, by omega, rfl, rfl, HS.out, rfl⟩
    case round =>
      clear hx HS
      obtain ⟨j, U, hj, rfl, rfl, hU, rfl⟩ := hrel
      by_cases hlt : j < nb
      · have hU' := hU.step
        have hUl := hU.1
        obtain ⟨x, HX⟩ : ∃ x, Hid (x = la.getD j 0) := ⟨_, rfl⟩
        obtain ⟨y, HY⟩ : ∃ y, Hid (y = lb.getD j 0) := ⟨_, rfl⟩
        rw [← HX.out, ← HY.out] at hU'
        have HU : Hid (Alike la lb (j + 1) (U ||| (x ^^^ y).toNat)) := hU'
        have hxr := xor_byte x y
        have hor := i64_or U (x ^^^ y).toNat hUl (by have := (x ^^^ y).isLt; omega)
        have hxl : ((x ^^^ y).toNat : Int) < 256 := by have := (x ^^^ y).isLt; omega
        clear hU hU'
        go_wp2_with fail
        refine (byteAt_any _ la j _ HA.out).mono ?_
        rintro e w1 ⟨rfl, rfl⟩
        rw [← HX.out]
        go_wp2_with fail
        refine (byteAt_any _ lb j _ HB.out).mono ?_
        rintro e w2 ⟨rfl, rfl⟩
        rw [← HY.out]
        generalize x ^^^ y = z at *
        go_wp2
        exact ⟨⟨j + 1, U ||| z.toNat, by omega, by go_num, rfl, HU.out, trivial⟩, by simp [intOf]; omega⟩
      · have hjm : j = nb := by omega
        subst hjm
        have hd := hU.done (by rw [← HNA.out]; omega)
        clear hU
        have hz : ((U : Int) == 0) = decide (U = 0) := by rw [Bool.eq_iff_iff]; simp
        go_wp2
        go_ret
        exact ⟨by rw [← hd]; rfl, rfl⟩
  · have hmd : decide ((na : Int) < (nb : Int)) = false := by simp; omega
    go_enter Tryd.func12, Tryd.ntmps12
    go_wp2_with fail
    go_loopw [5, 17] (fun u i wr => ∃ j U : Nat, j ≤ na ∧ i = .int .i64 j ∧ u = .int .i64 U ∧ Alike la lb j U ∧ wr = w) (fun _ i _ => na - (intOf i).toNat)
    case atStart => exact ⟨0, na ^^^ nb, by omega, rfl, rfl, HS.out, rfl⟩
    case round =>
      clear hx HS
      obtain ⟨j, U, hj, rfl, rfl, hU, rfl⟩ := hrel
      by_cases hlt : j < na
      · have hU' := hU.step
        have hUl := hU.1
        obtain ⟨x, HX⟩ : ∃ x, Hid (x = la.getD j 0) := ⟨_, rfl⟩
        obtain ⟨y, HY⟩ : ∃ y, Hid (y = lb.getD j 0) := ⟨_, rfl⟩
        rw [← HX.out, ← HY.out] at hU'
        have HU : Hid (Alike la lb (j + 1) (U ||| (x ^^^ y).toNat)) := hU'
        have hxr := xor_byte x y
        have hor := i64_or U (x ^^^ y).toNat hUl (by have := (x ^^^ y).isLt; omega)
        have hxl : ((x ^^^ y).toNat : Int) < 256 := by have := (x ^^^ y).isLt; omega
        clear hU hU'
        go_wp2_with fail
        refine (byteAt_any _ la j _ HA.out).mono ?_
        rintro e w1 ⟨rfl, rfl⟩
        rw [← HX.out]
        go_wp2_with fail
        refine (byteAt_any _ lb j _ HB.out).mono ?_
        rintro e w2 ⟨rfl, rfl⟩
        rw [← HY.out]
        generalize x ^^^ y = z at *
        go_wp2
        exact ⟨⟨j + 1, U ||| z.toNat, by omega, by go_num, rfl, HU.out, trivial⟩, by simp [intOf]; omega⟩
      · have hjm : j = na := by omega
        subst hjm
        have hd := hU.done (by rw [← HNA.out]; omega)
        clear hU
        have hz : ((U : Int) == 0) = decide (U = 0) := by rw [Bool.eq_iff_iff]; simp
        go_wp2
        go_ret
        exact ⟨by rw [← hd]; rfl, rfl⟩
end Go.Proofs.YtngcdfhmgjmhkabDoor

/- The walks of codec.Num and blazonref04.Num: a number's groups of seven bits behind bytes. -/
import Derived.Test.YtldbcglakeggaaaBase
namespace Go.Proofs.Ytldbcglakeggaaa
open Go.RowKit
theorem enc_len (n : Nat) (k : Nat) (h : n < 128 ^ (k + 1)) : (encNum n).length ≤ k + 1 := by
  induction k generalizing n with
  | zero => rw [encNum_lt (by simpa using h)]; simp
  | succ k ih =>
    by_cases h1 : n < 128
    · rw [encNum_lt h1]; simp
    · rw [encNum_ge h1, List.length_cons]
      have := ih (n / 128) (by rw [Nat.pow_succ] at h; omega)
      omega
theorem enc_len10 (n : Nat) (h : n < 18446744073709551616) : (encNum n).length ≤ 10 := enc_len n 9 (by omega)
theorem or128 (m : Nat) : bits .or .u8 ((m : Int) % 256) 128 = (((BitVec.ofNat 8 (m % 128 + 128)).toNat : Nat) : Int) := by
  have key : ∀ x : BitVec 8, (x ||| 128#8).toNat = x.toNat % 128 + 128 := by decide
  have e : BitVec.ofInt 8 ((m : Int) % 256) = BitVec.ofNat 8 (m % 256) := by
    rw [show ((m : Int) % 256) = ((m % 256 : Nat) : Int) by omega, BitVec.ofInt_natCast]
  show IntKind.u8.wrap ((BitVec.ofInt 8 ((m : Int) % 256) ||| BitVec.ofInt 8 128).toNat : Int) = _
  rw [e, show (BitVec.ofInt 8 128 : BitVec 8) = 128#8 from rfl, key, BitVec.toNat_ofNat, BitVec.toNat_ofNat]
  simp [IntKind.wrap, IntKind.bits, IntKind.signed]
theorem enc_step {p : List (BitVec 8)} {m n : Nat} (hm : ¬ m < 128) (hp : p ++ encNum m = encNum n) : (p ++ [BitVec.ofNat 8 (m % 128 + 128)]) ++ encNum (m / 128) = encNum n := by
  rw [← hp, encNum_ge hm]; simp
structure NuInv (base : Nat) (w : World) (l : List (BitVec 8)) (n m : Nat) (p : List (BitVec 8)) (u : Value) (wr : World) : Prop where
  own : OwnB wr base u (l ++ p)
  bel : Below base w wr
  eq : p ++ encNum m = encNum n
  lt : m < 18446744073709551616
theorem NuInv.le {base : Nat} {w wr : World} {l p : List (BitVec 8)} {n m : Nat} {u : Value} (h : NuInv base w l n m p u wr) (hn : n < 18446744073709551616) : p.length < 10 := by
  have := enc_len10 n hn
  have h2 := congrArg List.length h.eq
  have h3 := encNum_pos m
  rw [List.length_append] at h2
  omega
set_option maxHeartbeats 400000 in
theorem cnum_any (base : Nat) (v : Value) (l : List (BitVec 8)) (n : Nat) (hn : n < 18446744073709551616) (w : World) (hown : OwnB w base v l) (hb : base ≤ w.heap.size) (hl : l.length + 10 ≤ 140737488355328) :
    Calls Try.prog 38 #[v, .int .u64 (n : Int)] w fun e w' => ∃ v', e = .returned v' ∧ OwnB w' base v' (l ++ encNum n) ∧ Below base w w' := by
  have HO : Hid (OwnB w base v l) := hown
  have HN : Hid (n < 18446744073709551616) := hn
  have HL : Hid (l.length + 10 ≤ 140737488355328) := hl
  have HB : Hid (base ≤ w.heap.size) := hb
  clear hown hn hl hb
  go_enter Try.func38, Try.ntmps38
  go_wp2
  go_loopw [0, 1] (fun u x wr => ∃ (p : List (BitVec 8)) (m : Nat), x = .int .u64 m ∧ NuInv base w l n m p u wr) (fun _ x _ => (intOf x).toNat)
  case atStart => exact ⟨[], n, rfl, by simpa using HO.out, Below.refl _ _, rfl, HN.out⟩
  case round =>
    obtain ⟨p, m, rfl, hI⟩ := hrel
    have HI : Hid (NuInv base w l n m p u0 wr) := hI
    have HP : Hid (p.length < 10) := hI.le HN.out
    have HS : Hid (base ≤ wr.heap.size) := Nat.le_trans HB.out hI.bel.size
    clear hI
    by_cases hlt : m < 128
    · have hge : ¬ (128 ≤ (m : Int)) := by omega
      have hx : (m : Int) % 256 = (m : Int) := by omega
      go_wp2_with (at_builtin; refine wpList_appendB rfl (.tmp 15) (.tmp 18) rfl base _ (l ++ p) rfl (HI.out.own.below ((Below.refl _ _).alloc (Nat.le_refl _) _) (Nat.le_refl _)) _ [BitVec.ofNat 8 m] rfl (reads_val wr _ _ ?_) (by have := HL.out; have := HP.out; simp; omega) (by have := HS.out; simp; omega) ?_; simp; omega; intro v2 w2 hown2 hb2 _)
      have HR : Hid (OwnB w2 base v2 (l ++ encNum n)) := by
        rw [← HI.out.eq, encNum_lt hlt, ← List.append_assoc]; exact hown2
      have hB : Below base w w2 := HI.out.bel.trans (((Below.refl _ _).alloc HS.out _).trans hb2)
      clear hown2 hb2 HI
      go_wp2
      go_ret
      exact ⟨_, rfl, HR.out, hB⟩
    · have hge : 128 ≤ (m : Int) := by omega
      have HLT : Hid (¬ m < 128) := hlt
      have hw : IntKind.u64.wrap ((m : Int) / 128) = (m : Int) / 128 := by have := HI.out.lt; rw [IntKind.wrap_u64]; omega
      clear hlt
      go_wp2_with (at_builtin; refine wpList_appendB rfl (.tmp 7) (.tmp 11) rfl base _ (l ++ p) rfl (HI.out.own.below ((Below.refl _ _).alloc (Nat.le_refl _) _) (Nat.le_refl _)) _ [BitVec.ofNat 8 (m % 128 + 128)] rfl (reads_val wr _ _ ?_) (by have := HL.out; have := HP.out; simp; omega) (by have := HS.out; simp; omega) ?_; (go_loud (rw [or128 m])); intro v2 w2 hown2 hb2 _)
      have hJ : NuInv base w l n (m / 128) (p ++ [BitVec.ofNat 8 (m % 128 + 128)]) v2 w2 := ⟨by rw [List.append_assoc] at hown2; exact hown2, HI.out.bel.trans (((Below.refl _ _).alloc HS.out _).trans hb2), enc_step HLT.out HI.out.eq, by have := HI.out.lt; omega⟩
      clear hown2 hb2 HI
      go_wp2
      go_roundw
      case rel => exact ⟨_, m / 128, by simp, hJ⟩
      case measure => simp [intOf]; omega
set_option maxHeartbeats 400000 in
theorem qnum_any (n : Nat) (hn : n < 18446744073709551616) (w : World) :
    Calls Try.prog 42 #[.int .u64 (n : Int)] w fun e w' => ∃ v', e = .returned v' ∧ OwnB w' w.heap.size v' (encNum n) ∧ Below w.heap.size w w' := by
  have HN : Hid (n < 18446744073709551616) := hn
  clear hn
  go_enter Try.func42, Try.ntmps42
  go_wp2
  go_loopw [0, 3] (fun x u wr => ∃ (p : List (BitVec 8)) (m : Nat), x = .int .u64 m ∧ NuInv w.heap.size w [] n m p u wr) (fun x _ _ => (intOf x).toNat)
  case atStart => exact ⟨[], n, rfl, OwnB.nil _ _, Below.refl _ _, rfl, HN.out⟩
  case round =>
    obtain ⟨p, m, rfl, hI⟩ := hrel
    have HI : Hid (NuInv w.heap.size w [] n m p u3 wr) := hI
    have HP : Hid (p.length < 10) := hI.le HN.out
    have HS : Hid (w.heap.size ≤ wr.heap.size) := hI.bel.size
    clear hI
    by_cases hlt : m < 128
    · have hge : ¬ (127 < (m : Int)) := by omega
      have hx : (m : Int) % 256 = (m : Int) := by omega
      go_wp2_with (at_builtin; refine wpList_appendB rfl (.tmp 15) (.tmp 18) rfl w.heap.size _ p rfl (HI.out.own.below ((Below.refl _ _).alloc (Nat.le_refl _) _) (Nat.le_refl _)) _ [BitVec.ofNat 8 m] rfl (reads_val wr _ _ ?_) (by have := HP.out; simp; omega) (by have := HS.out; simp; omega) ?_; simp; omega; intro v2 w2 hown2 hb2 _)
      have HR : Hid (OwnB w2 w.heap.size v2 (encNum n)) := by
        rw [← HI.out.eq, encNum_lt hlt]; exact hown2
      have hB : Below w.heap.size w w2 := HI.out.bel.trans (((Below.refl _ _).alloc HS.out _).trans hb2)
      clear hown2 hb2 HI
      go_wp2
      go_ret
      exact ⟨_, rfl, HR.out, hB⟩
    · have hge : 127 < (m : Int) := by omega
      have HLT : Hid (¬ m < 128) := hlt
      have hw : IntKind.u64.wrap ((m : Int) / 128) = (m : Int) / 128 := by have := HI.out.lt; rw [IntKind.wrap_u64]; omega
      clear hlt
      go_wp2_with (at_builtin; refine wpList_appendB rfl (.tmp 6) (.tmp 11) rfl w.heap.size _ p rfl (HI.out.own.below ((Below.refl _ _).alloc (Nat.le_refl _) _) (Nat.le_refl _)) _ [BitVec.ofNat 8 (m % 128 + 128)] rfl (reads_val wr _ _ ?_) (by have := HP.out; simp; omega) (by have := HS.out; simp; omega) ?_; (rw [BitVec.toNat_ofNat]; omega); intro v2 w2 hown2 hb2 _)
      have hJ : NuInv w.heap.size w [] n (m / 128) (p ++ [BitVec.ofNat 8 (m % 128 + 128)]) v2 w2 := ⟨hown2, HI.out.bel.trans (((Below.refl _ _).alloc HS.out _).trans hb2), enc_step HLT.out HI.out.eq, by have := HI.out.lt; omega⟩
      clear hown2 hb2 HI
      go_wp2
      go_roundw
      case rel => exact ⟨_, m / 128, by simp, hJ⟩
      case measure => simp [intOf]; omega
end Go.Proofs.Ytldbcglakeggaaa

/- The walks of blazonref01.Pad, Same and Join. -/
import Derived.Test.YtaleeaocmomjlaaDoorAppend
namespace Go.Proofs.YtaleeaocmomjlaaDoor
open Go.RowKit
def tl8 (B i : Nat) : List (BitVec 8) := (List.range i).map fun j => BitVec.ofNat 8 (B / 2 ^ (56 - 8 * j))
theorem pad_eq (n : Nat) : pad n = 128#8 :: List.replicate (padN n) 0 ++ tl8 (bitsOf n) 8 := by
  unfold pad
  generalize padN n = k
  generalize bitsOf n = B
  have e : (128#8 :: List.replicate (k + 8) (0 : BitVec 8)) = (128#8 :: List.replicate k 0) ++ List.replicate 8 0 := by
    rw [List.cons_append, List.replicate_append_replicate]
  have hs : ∀ (A L : List (BitVec 8)) (j : Nat) (v : BitVec 8), A.length = k + 1 → j < 8 → (A ++ L).set (k + 8 - j) v = A ++ L.set (7 - j) v := by
    intro A L j v hA hj
    rw [List.set_append_right _ _ (by omega), hA, show k + 8 - j - (k + 1) = 7 - j by omega]
  have hA : (128#8 :: List.replicate k (0 : BitVec 8)).length = k + 1 := by simp
  generalize (128#8 :: List.replicate k (0 : BitVec 8)) = A at *
  simp only [padL, e]
  rw [hs A _ 0 _ hA (by omega), hs A _ 1 _ hA (by omega), hs A _ 2 _ hA (by omega), hs A _ 3 _ hA (by omega), hs A _ 4 _ hA (by omega), hs A _ 5 _ hA (by omega), hs A _ 6 _ hA (by omega), hs A _ 7 _ hA (by omega)]
  congr 1
theorem reads_val (w : World) (x : Int) (b : BitVec 8) (hx : x = (b.toNat : Int)) : Reads (w.alloc (.cells #[.int .u8 x] 5)) (.slice (some ⟨w.heap.size, 0, none⟩) 1 1) [b] := by
  subst hx
  exact ⟨_, 1, rfl, Nat.le_refl _, (fun h => by cases h), fun _ => ⟨w.heap.size, 0, rfl, fun j hj => by match j, hj with | 0, _ => simp⟩⟩
structure RpInv (w : World) (l : List (BitVec 8)) (v : Value) (wr : World) : Prop where
  own : OwnB wr w.heap.size v l
  bel : Below w.heap.size w wr
set_option maxHeartbeats 400000 in
theorem rpad_any (n : Nat) (w : World) : Calls Tryd.prog 43 #[.int .u64 (n : Int)] w fun e w' => ∃ v, e = .returned v ∧ Reads w' v (pad n) ∧ Below w.heap.size w w' := by
  have HP : Hid (pad n = 128#8 :: List.replicate (padN n) 0 ++ tl8 (bitsOf n) 8) := pad_eq n
  have hk : padN n < 64 := by unfold padN; omega
  have hkk : padN n = (119 - n % 64) % 64 := rfl
  have h2 := bitsOf_eq n
  have h3 : IntKind.u64.wrap ((n : Int) * 8) = (bitsOf n : Int) := by rw [Int.mul_comm]; exact h2
  generalize padN n = k at *
  generalize bitsOf n = B at *
  have HK : Hid (k = (119 - n % 64) % 64) := hkk
  clear hkk h2
  go_enter Tryd.func43, Tryd.ntmps43
  go_wp2_with (at_builtin; refine wpList_appendB rfl (.tmp 6) (.tmp 7) rfl w.heap.size _ [] rfl (OwnB.nil _ _) _ [128] rfl ?_ (by simp) (by simp) ?_; exact ⟨_, 1, rfl, Nat.le_refl _, (fun h => by cases h), fun _ => ⟨w.heap.size, 0, rfl, fun j hj => by match j, hj with | 0, _ => simp⟩⟩; intro v1 w1 hown1 hb1 _)
  have hI : RpInv w [128] v1 w1 := ⟨hown1, ((Below.refl _ _).alloc (Nat.le_refl _) _).trans hb1⟩
  clear hown1 hb1
  go_loopw [3] (fun v wr => ∃ j : Nat, j ≤ k ∧ RpInv w (128#8 :: List.replicate j 0) v wr) (fun v _ => k + 1 - sliceLen v)
  case atStart => exact ⟨0, by omega, hI⟩
  case round =>
    clear hI
    obtain ⟨j, hj, hI⟩ := hrel
    obtain ⟨ad, cap, hv, hcap, hnn, hpos⟩ := hI.own.reads
    have hlen : (128#8 :: List.replicate j (0 : BitVec 8)).length = j + 1 := by simp
    rw [hlen] at hv hcap
    subst hv
    have HI : Hid (RpInv w (128#8 :: List.replicate j 0) (.slice ad (j + 1) cap) wr) := hI
    clear hI hpos hnn hlen hcap
    by_cases hlt : j < k
    · have ht : ((IntKind.u64.wrap ((n : Int) + ((j : Int) + 1))).tmod 64 != 56) = true := by
        rw [IntKind.wrap_u64, Int.tmod_eq_emod_of_nonneg (by omega), bne_iff_ne]; have := HK.out; omega
      go_wp2_with (at_builtin; refine wpList_appendB rfl (.tmp 16) (.tmp 17) rfl w.heap.size _ (128#8 :: List.replicate j 0) rfl (HI.out.own.below ((Below.refl _ _).alloc (Nat.le_refl _) _) (Nat.le_refl _)) _ [0] rfl (reads_val wr 0 0 rfl) (by simp; omega) (by have := HI.out.bel.size; simp; omega) ?_; intro v2 w2 hown2 hb2 _)
      have hJ : RpInv w (128#8 :: List.replicate (j + 1) 0) v2 w2 := ⟨by rw [List.cons_append, ← List.replicate_succ'] at hown2; exact hown2, HI.out.bel.trans (((Below.refl _ _).alloc HI.out.bel.size _).trans hb2)⟩
      clear hown2 hb2 HI
      obtain ⟨ad2, cap2, hv2, _, _, _⟩ := hJ.own.reads
      simp at hv2
      subst hv2
      go_wp2
      go_roundw
      case rel => exact ⟨j + 1, by omega, hJ⟩
      case measure => simp [sliceLen]; omega
    · have hjk : j = k := by omega
      subst hjk
      have ht : ((IntKind.u64.wrap ((n : Int) + ((j : Int) + 1))).tmod 64 != 56) = false := by
        rw [IntKind.wrap_u64, Int.tmod_eq_emod_of_nonneg (by omega), bne_eq_false_iff_eq]; have := HK.out; omega
      clear hlt hj
      go_wp2
      go_loopw [3, 5] (fun v i wr => ∃ q : Nat, q ≤ 8 ∧ i = .int .i64 q ∧ RpInv w (128#8 :: List.replicate j 0 ++ tl8 B q) v wr) (fun _ i _ => 8 - (intOf i).toNat)
      case atStart => exact ⟨0, by omega, rfl, by simpa [tl8] using HI.out⟩
      case round =>
        clear HI
        obtain ⟨q, hq, rfl, hI⟩ := hrel
        have HJ : Hid (j < 64) := hk
        have HI : Hid (RpInv w (128#8 :: List.replicate j 0 ++ tl8 B q) u3 wr) := hI
        clear hI
        by_cases hlt : q < 8
        · go_wp2_with (at_builtin; refine wpList_appendB rfl (.tmp 25) (.tmp 33) rfl w.heap.size _ (128#8 :: List.replicate j 0 ++ tl8 B q) rfl (HI.out.own.below ((Below.refl _ _).alloc (Nat.le_refl _) _) (Nat.le_refl _)) _ [BitVec.ofNat 8 (B / 2 ^ (56 - 8 * q))] rfl (reads_val wr _ _ ?_) (by have := HJ.out; simp [tl8]; omega) (by have := HI.out.bel.size; simp; omega) ?_; simp; intro v2 w2 hown2 hb2 _)
          have hJ : RpInv w (128#8 :: List.replicate j 0 ++ tl8 B (q + 1)) v2 w2 := ⟨by rw [List.append_assoc] at hown2; unfold tl8 at hown2 ⊢; rw [List.range_succ, List.map_append]; exact hown2, HI.out.bel.trans (((Below.refl _ _).alloc HI.out.bel.size _).trans hb2)⟩
          clear hown2 hb2 HI
          go_wp2
          go_roundw
          case rel => exact ⟨q + 1, by omega, by go_num, hJ⟩
          case measure => simp [intOf]; omega
        · have hq8 : q = 8 := by omega
          subst hq8
          have HR : Hid (Reads wr u3 (pad n)) := by show Reads _ _ _; rw [HP.out]; exact HI.out.own.reads
          have hbel := HI.out.bel
          clear HI
          go_wp2
          go_ret
          exact ⟨_, rfl, HR.out, hbel⟩
end Go.Proofs.YtaleeaocmomjlaaDoor

/- The walks of the turns: blazonref01.turn, sha.turned and bits.RotateLeft32 answer the word turned to the right, and leave the world as it is. -/
import Derived.Test.YtaleeaocmomjlaaDoorChecked
import Derived.Test.YtaleeaocmomjlaaDoorPlain
import Derived.WalkSpells
import Derived.WalkLawsBesides
namespace Go.Proofs.YtaleeaocmomjlaaDoor
open Go.RowKit

theorem rr_ref (x : BitVec 32) (n : Int) (h1 : 1 ≤ n) (h2 : n ≤ 31) :
    bits .or .u32 ((x.toNat : Int) / 2 ^ n.toNat) ((x.toNat : Int) * 2 ^ (32 - n).toNat % 4294967296) = ((rr x n.toNat).toNat : Int) := by
  rw [u32_shr, u32_shl, u32_or, rr, show (32 - n).toNat = 32 - n.toNat from by omega]
theorem rr_own (x : BitVec 32) (n : Int) (h1 : -31 ≤ n) (h2 : n ≤ -1) :
    bits .or .u32 ((x.toNat : Int) * 2 ^ (32 + n).toNat % 4294967296) ((x.toNat : Int) / 2 ^ (32 - (32 + n)).toNat) = ((rr x (-n).toNat).toNat : Int) := by
  rw [u32_shr, u32_shl, u32_or, rr, BitVec.or_comm, show (32 - (32 + n)).toNat = (-n).toNat from by omega, show (32 + n).toNat = 32 - (-n).toNat from by omega]
theorem and31 (n : Int) (h1 : -31 ≤ n) (h2 : n ≤ -1) : bits .and .u64 (IntKind.u64.wrap n) 31 = 32 + n := by
  obtain ⟨k, hk, hn⟩ : ∃ k : Nat, k < 32 ∧ n = -(k : Int) := ⟨(-n).toNat, by omega, by omega⟩
  subst hn
  have : ∀ k : Fin 32, 1 ≤ k.val → bits .and .u64 (IntKind.u64.wrap (-(k.val : Int))) 31 = 32 + -(k.val : Int) := by decide
  exact this ⟨k, hk⟩ (by simp; omega)

set_option maxHeartbeats 400000 in
theorem turn_any (x : BitVec 32) (n : Int) (w : World) (h1 : 1 ≤ n) (h2 : n ≤ 31) :
    Calls Tryd.prog 54 #[.int .u32 (x.toNat : Int), .int .i64 n] w fun e w' => e = .returned (.int .u32 ((rr x n.toNat).toNat : Int)) ∧ w' = w := by
  have h := rr_ref x n h1 h2
  have H : Hid (bits .or .u32 ((x.toNat : Int) / 2 ^ n.toNat) ((x.toNat : Int) * 2 ^ (32 - n).toNat % 4294967296) = ((rr x n.toNat).toNat : Int)) := h
  clear h
  go_enter Tryd.func54, Tryd.ntmps54
  go_wp2
  go_ret
  refine ⟨?_, rfl⟩
  rw [← H.out]; rfl
set_option maxHeartbeats 400000 in
theorem rot_any (x : BitVec 32) (n : Int) (w : World) (h1 : -31 ≤ n) (h2 : n ≤ -1) :
    Calls Tryd.prog 62 #[.int .u32 (x.toNat : Int), .int .i64 n] w fun e w' => e = .returned (.int .u32 ((rr x (-n).toNat).toNat : Int)) ∧ w' = w := by
  have hb := and31 n h1 h2
  go_enter Tryd.func62, Tryd.ntmps62
  go_wp2
  go_ret
  refine ⟨?_, rfl⟩
  rw [← rr_own x n h1 h2]
  rfl
set_option maxHeartbeats 400000 in
theorem turned_any (x : BitVec 32) (n : Int) (w : World) (h1 : 1 ≤ n) (h2 : n ≤ 31) :
    Calls Tryd.prog 61 #[.int .u32 (x.toNat : Int), .int .i64 n] w fun e w' => e = .returned (.int .u32 ((rr x n.toNat).toNat : Int)) ∧ w' = w := by
  go_enter Tryd.func61, Tryd.ntmps61
  go_wp2_with (go_at_call 62; refine (rot_any x (-n) _ (by omega) (by omega)).mono ?_; rintro e w' ⟨rfl, rfl⟩)
  go_ret
  exact ⟨by simp, rfl⟩
end Go.Proofs.YtaleeaocmomjlaaDoor

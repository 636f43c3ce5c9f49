/- Keyed digests, as the chapter has them, on lists of bytes. No program is named here. -/
import Derived.Test.YtaleeaocmomjlaaDoorSame
namespace Go.Proofs.YtaleeaocmomjlaaDoor
open Go.RowKit
theorem len_dig' (bs : List (BitVec 8)) : (dig bs).length = 32 := by unfold dig; exact len_outB _ _
/-- the key's block: the key, or its digest if it has more than 64 bytes, with noughts behind -/
def kcut (key : List (BitVec 8)) : List (BitVec 8) := if 64 < key.length then dig key else key
def kpad (k : List (BitVec 8)) : List (BitVec 8) := k ++ List.replicate (64 - k.length) 0
def kblock (key : List (BitVec 8)) : List (BitVec 8) := kpad (kcut key)
def turnB (t : BitVec 8) (l : List (BitVec 8)) : List (BitVec 8) := l.map fun b => b ^^^ t
def hmac (key m : List (BitVec 8)) : List (BitVec 8) := dig (turnB 92 (kblock key) ++ dig (turnB 54 (kblock key) ++ m))
theorem len_kcut (key : List (BitVec 8)) : (kcut key).length ≤ 64 := by
  unfold kcut
  split
  · rw [len_dig']; omega
  · omega
theorem len_kpad (k : List (BitVec 8)) (h : k.length ≤ 64) : (kpad k).length = 64 := by simp [kpad]; omega
theorem len_kblock (key : List (BitVec 8)) : (kblock key).length = 64 := len_kpad _ (len_kcut key)
theorem len_turnB (t : BitVec 8) (l : List (BitVec 8)) : (turnB t l).length = l.length := by simp [turnB]
theorem len_hmac (key m : List (BitVec 8)) : (hmac key m).length = 32 := len_dig' _
theorem kblock_long {key : List (BitVec 8)} (h : 64 < key.length) : kblock key = kpad (dig key) := by simp [kblock, kcut, h]
theorem kblock_short {key : List (BitVec 8)} (h : ¬ 64 < key.length) : kblock key = kpad key := by simp [kblock, kcut, h]
theorem splice_kpad (k : List (BitVec 8)) : splice (cb zb64) 0 (cb k) = cb (kpad k) := by
  simp only [splice, kpad, cb, zb64, List.take_zero, List.nil_append, List.map_append, List.map_replicate, List.length_map, Nat.zero_add, List.drop_replicate]
/-- the first i bytes turned, the others as they are -/
def turnI (t : BitVec 8) (l : List (BitVec 8)) (i : Nat) : List (BitVec 8) := turnB t (l.take i) ++ l.drop i
theorem turnI_zero (t : BitVec 8) (l : List (BitVec 8)) : turnI t l 0 = l := by simp [turnI, turnB]
theorem turnI_all (t : BitVec 8) (l : List (BitVec 8)) (i : Nat) (h : l.length ≤ i) : turnI t l i = turnB t l := by simp [turnI, turnB, List.take_of_length_le h, List.drop_of_length_le h]
theorem len_turnI (t : BitVec 8) (l : List (BitVec 8)) (i : Nat) : (turnI t l i).length = l.length := by simp [turnI, turnB]; omega
theorem turnI_get (t : BitVec 8) (l : List (BitVec 8)) (i : Nat) (h : i < l.length) : (turnI t l i).getD i 0 = l.getD i 0 := by
  rw [turnI, List.getD_eq_getElem?_getD, List.getElem?_append_right (by simp [turnB]; omega)]
  simp [turnB, Nat.min_eq_left (Nat.le_of_lt h)]
theorem turnI_set (t : BitVec 8) (l : List (BitVec 8)) (i : Nat) (h : i < l.length) : (turnI t l i).set i (l.getD i 0 ^^^ t) = turnI t l (i + 1) := by
  have e : (turnB t (l.take i)).length = i := by simp [turnB]; omega
  rw [turnI, List.set_append_right _ _ (by omega), e, Nat.sub_self, List.drop_eq_getElem_cons h, List.set_cons_zero, turnI, List.take_add_one, List.getElem?_eq_getElem h, show l.getD i 0 = l[i] by simp [h]]
  simp only [turnB, Option.toList_some, List.map_append, List.map_cons, List.map_nil, List.append_assoc, List.cons_append, List.nil_append]
theorem xor_byte (x t : BitVec 8) : bits .xor .u8 (x.toNat : Int) (t.toNat : Int) = ((x ^^^ t).toNat : Int) := by
  show IntKind.u8.wrap ((BitVec.ofInt 8 (x.toNat : Int) ^^^ BitVec.ofInt 8 (t.toNat : Int)).toNat : Int) = _
  have e : ∀ y : BitVec 8, BitVec.ofInt 8 (y.toNat : Int) = y := fun y => by apply BitVec.eq_of_toNat_eq; simp
  rw [e, e]
  have := (x ^^^ t).isLt
  rw [IntKind.wrap_u8]; omega
end Go.Proofs.YtaleeaocmomjlaaDoor

/- For the walks of the statements of layer 3: what their regions load and call. -/
import Derived.Test.YtaleeaocmomjlaaDoorTWorks
import Derived.Test.YtaleeaocmomjlaaDoorAuth
import Derived.Test.YtaleeaocmomjlaaDoorRKind
import Derived.Test.YtaleeaocmomjlaaDoorEqT
namespace Go.Proofs.YtaleeaocmomjlaaDoor
open Go.RowKit
theorem info_binding : (Tryd.prog.info? 27).map (·.size) = some 3 := by kernel_rfl
theorem info_root0 : (Tryd.prog.info? 29).map (·.size) = some 97 := by kernel_rfl
theorem info_pair0 : (Tryd.prog.info? 43).map (·.size) = some 64 := by kernel_rfl
theorem info_root (v : Value) (x y z : List (BitVec 8)) (h : x.length = 32 ∧ y.length = 32 ∧ z.length = 32) : (Tryd.prog.info? 29).map (·.size) = some (v :: (cb x ++ (cb y ++ cb z))).length := by
  rw [info_root0, List.length_cons, List.length_append, List.length_append, cb_len, cb_len, cb_len, h.1, h.2.1, h.2.2]
theorem info_pair (x y : List (BitVec 8)) (h : x.length = 32 ∧ y.length = 32) : (Tryd.prog.info? 43).map (·.size) = some (cb x ++ cb y).length := by
  rw [info_pair0, List.length_append, cb_len, cb_len, h.1, h.2]
theorem same_b (va vb : Value) (la lb : List (BitVec 8)) (w : World) (ha : Reads w va la) (hb : Reads w vb lb) :
    Calls Tryd.prog 10 #[va, vb] w fun e w' => e = .returned (.bool (decide (la = lb))) ∧ Below w.heap.size w w' :=
  (same_any va vb la lb w ha hb).mono fun _ _ h => ⟨h.1, by rw [h.2]; exact Below.refl _ _⟩
theorem rKind_b (v : Value) (bs : List (BitVec 8)) (w : World) (hR : Reads w v bs) :
    Calls Tryd.prog 31 #[v] w fun e w' => e = .returned (.int .u8 ((kindB bs).toNat : Int)) ∧ Below w.heap.size w w' :=
  (rKind_any v bs w hR).mono fun _ _ h => ⟨h.1, by rw [h.2]; exact Below.refl _ _⟩
theorem len_pairB (c : BitVec 8) (x y : List (BitVec 8)) (hx : x.length = 32) (hy : y.length = 32) : (pairB c x y).length = 65 := by simp [pairB, hx, hy]
theorem len_rootB (n : Nat) (x y z : List (BitVec 8)) (h : x.length = 32 ∧ y.length = 32 ∧ z.length = 32) : (rootB n x y z).length = 105 := by simp [rootB, h.1, h.2.1, h.2.2, len_num8]
theorem len_valueB (x nm : List (BitVec 8)) (sr : Nat) (ky : List (BitVec 8)) (hx : x.length = 32) : (valueB x nm sr ky).length = 49 + nm.length + ky.length := by simp [valueB, hx, len_num8]; omega
theorem kind_76 (x y : List (BitVec 8)) (hx : x.length = 32) (hy : y.length = 32) : kindB (pairB 76 x y) = 76 := by
  have h := len_pairB 76 x y hx hy
  have e : (pairB 76 x y).getD 0 0 = 76#8 := rfl
  rw [← rkind_eq, h, e]; rfl
theorem kind_78 (x y : List (BitVec 8)) (hx : x.length = 32) (hy : y.length = 32) : kindB (pairB 78 x y) = 78 := by
  have h := len_pairB 78 x y hx hy
  have e : (pairB 78 x y).getD 0 0 = 78#8 := rfl
  rw [← rkind_eq, h, e]; rfl
theorem kind_82 (n : Nat) (x y z : List (BitVec 8)) (h : x.length = 32 ∧ y.length = 32 ∧ z.length = 32) : kindB (rootB n x y z) = 82 := by
  have h := len_rootB n x y z h
  have e : (rootB n x y z).getD 0 0 = 82#8 := rfl
  rw [← rkind_eq, h, e]; rfl
theorem kind_86 (x nm : List (BitVec 8)) (sr : Nat) (ky : List (BitVec 8)) (hx : x.length = 32) (hn : nm.length ≤ 2000) (hk : ky.length ≤ 2000) : kindB (valueB x nm sr ky) = 86 := by
  have h := len_valueB x nm sr ky hx
  have e : (valueB x nm sr ky).getD 0 0 = 86#8 := rfl
  rw [← rkind_eq, h, e]
  have h1 : 49 ≤ 49 + nm.length + ky.length ∧ 49 + nm.length + ky.length ≤ 1073741824 := by omega
  unfold rkind
  rw [if_neg (by decide), if_neg (by decide), if_neg (by decide), if_neg (by decide), if_pos (by decide), if_pos h1]
end Go.Proofs.YtaleeaocmomjlaaDoor

/- The walks of the reference's reader: Text, Digest, Done. -/
import Derived.Test.YtdhglbemkaogiabRIn2
namespace Go.Proofs.Ytdhglbemkaogiab
open Go.RowKit
theorem readText_count (l : List (BitVec 8)) : readText l = match readCount 1048576 l with | none => none | some (n, r) => cut n r := by
  unfold readText readCount
  cases readNum l with
  | none => rfl
  | some p =>
    obtain ⟨n, r⟩ := p
    simp only
    by_cases h1 : n ≤ 1048576
    · simp only [if_pos h1]
      unfold cut
      by_cases h2 : n ≤ r.length
      · rw [if_pos ⟨h1, h2⟩, if_pos h2]
      · rw [if_neg (by omega), if_neg h2]
    · rw [if_neg (by omega), if_neg h1]
theorem readCount_le {most n : Nat} {l r : List (BitVec 8)} (h : readCount most l = some (n, r)) : n ≤ most := by
  unfold readCount at h
  split at h
  · cases h
  · split at h
    · simp only [Option.some.injEq, Prod.mk.injEq] at h; omega
    · cases h
def fillD (a : List (BitVec 8)) : Nat → List (BitVec 8)
  | 0 => zb32
  | k + 1 => (fillD a k).set k (a.getD k 0)
theorem len_fillD (a : List (BitVec 8)) (k : Nat) : (fillD a k).length = 32 := by
  induction k with
  | zero => rfl
  | succ k ih => simp [fillD, ih]
theorem fillD_get (a : List (BitVec 8)) : ∀ (k j : Nat), j < 32 → (fillD a k)[j]? = some (if j < k then a.getD j 0 else 0)
  | 0, j, hj => by
    simp only [fillD, Nat.not_lt_zero, if_false, zb32]
    rw [List.getElem?_replicate, if_pos hj]
  | k + 1, j, hj => by
    rw [fillD]
    by_cases h : j = k
    · subst h
      rw [List.getElem?_set_self (by rw [len_fillD]; exact hj), if_pos (by omega)]
    · rw [List.getElem?_set_ne (by omega), fillD_get a k j hj]
      by_cases h2 : j < k
      · rw [if_pos h2, if_pos (by omega)]
      · rw [if_neg h2, if_neg (by omega)]
theorem fillD_all (a : List (BitVec 8)) (h : a.length = 32) : fillD a 32 = a := by
  apply List.ext_getElem?
  intro j
  by_cases hj : j < 32
  · rw [fillD_get a 32 j hj, if_pos hj, List.getElem?_eq_getElem (by omega), List.getD_eq_getElem?_getD, List.getElem?_eq_getElem (by omega)]
    rfl
  · rw [List.getElem?_eq_none (by rw [len_fillD]; omega), List.getElem?_eq_none (by omega)]
end Go.Proofs.Ytdhglbemkaogiab

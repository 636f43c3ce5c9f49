/- Two digests held against each other. -/
import Derived.Test.YtgmemibhddnjjaaBase
namespace Go.Proofs.Ytgmemibhddnjjaa
open Go.RowKit
set_option maxRecDepth 100000
theorem eq_part (x : List (BitVec 8)) (hx : x.length = 32) (i : Nat) (hi : i < 32) (w : World) : (part 5 (cb x).toArray i).run Try.prog w = .ok (.int .u8 ((x.getD i 0).toNat : Int)) w := by
  have ha : (isAgg 5).run Try.prog w = .ok false w := by kernel_rfl
  have hc := cb_get x i (by omega)
  simp only [part, Sem.run_bind, ha, Result.andThen_ok]
  simp [hc]
theorem eq_loop (d : Nat) (x y : List (BitVec 8)) (hx : x.length = 32) (hy : y.length = 32) : ∀ (l : List Nat) (w : World), (∀ i ∈ l, i < 32) →
    ((forIn l ((none, ()) : Option Bool × Unit) fun i _ => do
            let a ← part 5 (cb x).toArray i
            let b ← part 5 (cb y).toArray i
            let c ← Op.equalIn (d + 1) 5 a b
            if (!c) = true then pure (ForInStep.done (some false, ())) else pure (ForInStep.yield (none, ()))) : Sem (Option Bool × Unit)).run Try.prog w =
      .ok (if l.all (fun i => x.getD i 0 == y.getD i 0) then (none, ()) else (some false, ())) w
  | [], w, _ => by simp
  | i :: l, w, h => by
    have hi := h i (by simp)
    have ih := eq_loop d x y hx hy l w (fun j hj => h j (by simp [hj]))
    rw [List.forIn_cons]
    simp only [Sem.run_bind, eq_part x hx i hi, eq_part y hy i hi, Result.andThen_ok, run_equalIn_int w d 5 .u8 .u8 _ _ Try.underlying5]
    by_cases he : x.getD i 0 = y.getD i 0
    · have h1 : (((x.getD i 0).toNat : Int) == ((y.getD i 0).toNat : Int)) = true := by rw [he]; simp
      have h2 : (x.getD i 0 == y.getD i 0) = true := by rw [he]; simp
      simp only [h1, Bool.not_true, Bool.false_eq_true, if_false, Sem.run_pure, Result.andThen_ok, List.all_cons, h2, Bool.true_and]
      exact ih
    · have h1 : (((x.getD i 0).toNat : Int) == ((y.getD i 0).toNat : Int)) = false := by
        rw [beq_eq_false_iff_ne]; intro hh; exact he (BitVec.eq_of_toNat_eq (by omega))
      have h2 : (x.getD i 0 == y.getD i 0) = false := by rw [beq_eq_false_iff_ne]; exact he
      simp only [h1, Bool.not_false, if_true, Sem.run_pure, Result.andThen_ok, List.all_cons, h2, Bool.false_and, Bool.false_eq_true, if_false]
end Go.Proofs.Ytgmemibhddnjjaa

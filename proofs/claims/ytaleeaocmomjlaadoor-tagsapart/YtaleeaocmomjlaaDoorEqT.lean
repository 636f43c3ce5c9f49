/- Two pairs of digests, and two roots, held against each other; a digest of a pair. -/
import Derived.Test.YtaleeaocmomjlaaDoorEq
import Derived.Test.YtaleeaocmomjlaaDoorJoin
namespace Go.Proofs.YtaleeaocmomjlaaDoor
open Go.RowKit
theorem part_dig (A C : List Value) (x : List (BitVec 8)) (off : Nat) (hA : A.length = off) (hx : x.length = 32) (w : World) : (part 23 (A ++ (cb x ++ C)).toArray off).run Tryd.prog w = .ok (.agg (cb x).toArray) w := by
  have ha : (isAgg 23).run Tryd.prog w = .ok true w := by kernel_rfl
  have hs : (sizeOf 23).run Tryd.prog w = .ok 32 w := by kernel_rfl
  have e : (A ++ (cb x ++ C)).toArray.extract off (off + 32) = (cb x).toArray := by
    rw [List.extract_toArray, List.extract_eq_take_drop, show off + 32 - off = 32 by omega, ← hA, List.drop_left, show (32 : Nat) = (cb x).length by rw [cb_len, hx], List.take_left]
  simp only [part, Sem.run_bind, ha, Result.andThen_ok, if_true, hs, Sem.run_pure, e]
theorem eq_pair (x0 x1 y0 y1 : List (BitVec 8)) (h0 : x0.length = 32) (h1 : x1.length = 32) (k0 : y0.length = 32) (k1 : y1.length = 32) (w : World) :
    (Op.equalIn 10000 43 (.agg (cb x0 ++ cb x1).toArray) (.agg (cb y0 ++ cb y1).toArray)).run Tryd.prog w = .ok (decide (x0 = y0 ∧ x1 = y1)) w := by
  have hs : ∀ w, (sizeOf 23).run Tryd.prog w = .ok 32 w := fun w => by kernel_rfl
  have p0 : ∀ w, (part 23 (cb x0 ++ cb x1).toArray 0).run Tryd.prog w = .ok (.agg (cb x0).toArray) w := fun w => part_dig [] (cb x1) x0 0 rfl h0 w
  have p1 : ∀ w, (part 23 (cb x0 ++ cb x1).toArray 32).run Tryd.prog w = .ok (.agg (cb x1).toArray) w := fun w => by have := part_dig (cb x0) [] x1 32 (by rw [cb_len, h0]) h1 w; rwa [List.append_nil] at this
  have q0 : ∀ w, (part 23 (cb y0 ++ cb y1).toArray 0).run Tryd.prog w = .ok (.agg (cb y0).toArray) w := fun w => part_dig [] (cb y1) y0 0 rfl k0 w
  have q1 : ∀ w, (part 23 (cb y0 ++ cb y1).toArray 32).run Tryd.prog w = .ok (.agg (cb y1).toArray) w := fun w => by have := part_dig (cb y0) [] y1 32 (by rw [cb_len, k0]) k1 w; rwa [List.append_nil] at this
  rw [show (10000 : Nat) = 9999 + 1 from rfl, Op.equalIn]
  simp only [Sem.run_bind, run_underlying Tryd.underlying43, Result.andThen_ok, hs]
  rw [Std.Legacy.Range.forIn_eq_forIn_range']
  have hr : List.range' ([:2] : Std.Legacy.Range).start ([:2] : Std.Legacy.Range).size ([:2] : Std.Legacy.Range).step = [0, 1] := by decide
  rw [hr]
  have e0 : ∀ w, (Op.equalIn 9999 23 (.agg (cb x0).toArray) (.agg (cb y0).toArray)).run Tryd.prog w = .ok (decide (x0 = y0)) w := fun w => eq_digs 9997 x0 y0 h0 k0 w
  have e1 : ∀ w, (Op.equalIn 9999 23 (.agg (cb x1).toArray) (.agg (cb y1).toArray)).run Tryd.prog w = .ok (decide (x1 = y1)) w := fun w => eq_digs 9997 x1 y1 h1 k1 w
  by_cases hx : x0 = y0
  · by_cases hy : x1 = y1
    · have dd : decide (x0 = y0 ∧ x1 = y1) = true := by simp [hx, hy]
      simp only [List.forIn_cons, List.forIn_nil, Sem.run_bind, Nat.zero_mul, Nat.one_mul, p0, p1, q0, q1, Result.andThen_ok, e0, e1, decide_eq_true hx, decide_eq_true hy, dd, Bool.not_true, Bool.false_eq_true, if_false, Sem.run_pure]
    · have dd : decide (x0 = y0 ∧ x1 = y1) = false := by simp [hy]
      simp only [List.forIn_cons, Sem.run_bind, Nat.zero_mul, Nat.one_mul, p0, p1, q0, q1, Result.andThen_ok, e0, e1, decide_eq_true hx, decide_eq_false hy, dd, Bool.not_true, Bool.not_false, Bool.false_eq_true, if_false, if_true, Sem.run_pure]
  · have dd : decide (x0 = y0 ∧ x1 = y1) = false := by simp [hx]
    simp only [List.forIn_cons, Sem.run_bind, Nat.zero_mul, p0, q0, Result.andThen_ok, e0, decide_eq_false hx, dd, Bool.not_false, if_true, Sem.run_pure]
def rootL (n : Nat) (x y z : List (BitVec 8)) : List Value := Value.int .u64 (n : Int) :: (cb x ++ (cb y ++ cb z))
theorem part_u64 (n : Nat) (r : List Value) (w : World) : (part 25 (Value.int .u64 (n : Int) :: r).toArray 0).run Tryd.prog w = .ok (.int .u64 (n : Int)) w := by
  have ha : (isAgg 25).run Tryd.prog w = .ok false w := by kernel_rfl
  simp only [part, Sem.run_bind, ha, Result.andThen_ok]
  simp
theorem eq_root (n m : Nat) (x y z a b c : List (BitVec 8)) (hx : x.length = 32) (hy : y.length = 32) (hz : z.length = 32) (ha : a.length = 32) (hb : b.length = 32) (hc : c.length = 32) (w : World) :
    (Op.equalIn 10000 29 (.agg (Value.int .u64 (n : Int) :: (cb x ++ (cb y ++ cb z))).toArray) (.agg (Value.int .u64 (m : Int) :: (cb a ++ (cb b ++ cb c))).toArray)).run Tryd.prog w = .ok (decide (n = m ∧ x = a ∧ y = b ∧ z = c)) w := by
  have hst : Tryd.prog.stoodInHeld 29 = false := by kernel_rfl
  have pn := fun w => part_u64 n (cb x ++ (cb y ++ cb z)) w
  have pm := fun w => part_u64 m (cb a ++ (cb b ++ cb c)) w
  have px : ∀ w, (part 23 (Value.int .u64 (n : Int) :: (cb x ++ (cb y ++ cb z))).toArray 1).run Tryd.prog w = .ok (.agg (cb x).toArray) w := fun w => part_dig [_] (cb y ++ cb z) x 1 rfl hx w
  have pa : ∀ w, (part 23 (Value.int .u64 (m : Int) :: (cb a ++ (cb b ++ cb c))).toArray 1).run Tryd.prog w = .ok (.agg (cb a).toArray) w := fun w => part_dig [_] (cb b ++ cb c) a 1 rfl ha w
  have py : ∀ w, (part 23 (Value.int .u64 (n : Int) :: (cb x ++ (cb y ++ cb z))).toArray 33).run Tryd.prog w = .ok (.agg (cb y).toArray) w := fun w => by
    have := part_dig (Value.int .u64 (n : Int) :: cb x) (cb z) y 33 (by rw [List.length_cons, cb_len, hx]) hy w
    rwa [List.cons_append] at this
  have pb : ∀ w, (part 23 (Value.int .u64 (m : Int) :: (cb a ++ (cb b ++ cb c))).toArray 33).run Tryd.prog w = .ok (.agg (cb b).toArray) w := fun w => by
    have := part_dig (Value.int .u64 (m : Int) :: cb a) (cb c) b 33 (by rw [List.length_cons, cb_len, ha]) hb w
    rwa [List.cons_append] at this
  have pz : ∀ w, (part 23 (Value.int .u64 (n : Int) :: (cb x ++ (cb y ++ cb z))).toArray 65).run Tryd.prog w = .ok (.agg (cb z).toArray) w := fun w => by
    have := part_dig (Value.int .u64 (n : Int) :: (cb x ++ cb y)) [] z 65 (by rw [List.length_cons, List.length_append, cb_len, cb_len, hx, hy]) hz w
    rwa [List.cons_append, List.append_nil, List.append_assoc] at this
  have pc : ∀ w, (part 23 (Value.int .u64 (m : Int) :: (cb a ++ (cb b ++ cb c))).toArray 65).run Tryd.prog w = .ok (.agg (cb c).toArray) w := fun w => by
    have := part_dig (Value.int .u64 (m : Int) :: (cb a ++ cb b)) [] c 65 (by rw [List.length_cons, List.length_append, cb_len, cb_len, ha, hb]) hc w
    rwa [List.cons_append, List.append_nil, List.append_assoc] at this
  have ex : ∀ w, (Op.equalIn 9999 23 (.agg (cb x).toArray) (.agg (cb a).toArray)).run Tryd.prog w = .ok (decide (x = a)) w := fun w => eq_digs 9997 x a hx ha w
  have ey : ∀ w, (Op.equalIn 9999 23 (.agg (cb y).toArray) (.agg (cb b).toArray)).run Tryd.prog w = .ok (decide (y = b)) w := fun w => eq_digs 9997 y b hy hb w
  have ez : ∀ w, (Op.equalIn 9999 23 (.agg (cb z).toArray) (.agg (cb c).toArray)).run Tryd.prog w = .ok (decide (z = c)) w := fun w => eq_digs 9997 z c hz hc w
  have en : ∀ w, (Op.equalIn 9999 25 (.int .u64 (n : Int)) (.int .u64 (m : Int))).run Tryd.prog w = .ok ((n : Int) == (m : Int)) w := fun w => run_equalIn_int w 9998 25 .u64 .u64 _ _ Tryd.underlying25
  rw [show (10000 : Nat) = 9999 + 1 from rfl, Op.equalIn]
  simp only [Sem.run_bind, run_underlying Tryd.underlying29, Result.andThen_ok]
  have hp : ∀ w, (program).run Tryd.prog w = .ok Tryd.prog w := fun _ => rfl
  have hd : decide (n = m ∧ x = a ∧ y = b ∧ z = c) = (((n : Int) == (m : Int)) && (decide (x = a) && (decide (y = b) && decide (z = c)))) := by
    have e : ((n : Int) == (m : Int)) = decide (n = m) := by
      rw [Bool.eq_iff_iff, beq_iff_eq, decide_eq_true_iff]; omega
    rw [e]; simp
  rw [hd]
  generalize ((n : Int) == (m : Int)) = bn at *
  generalize decide (x = a) = bx at *
  generalize decide (y = b) = by' at *
  generalize decide (z = c) = bz at *
  clear hd
  simp only [hp, Result.andThen_ok, hst, Bool.false_eq_true, if_false, List.forIn_toArray, List.forIn_cons, List.forIn_nil, Sem.run_bind]
  cases bn <;> cases bx <;> cases by' <;> cases bz <;> simp [pn, pm, px, pa, py, pb, pz, pc, en, ex, ey, ez]
end Go.Proofs.YtaleeaocmomjlaaDoor

/- What CodecReader's call of Read comes to; two digests held against each other. -/
import Derived.Test.YtldbcglakeggaaaRdrWalk
namespace Go.Proofs.Ytldbcglakeggaaa
open Go.RowKit
theorem eq_part (x : List (BitVec 8)) (hx : x.length = 32) (i : Nat) (hi : i < 32) (w : World) : (part 5 (cb x).toArray i).run Try.prog w = .ok (.int .u8 ((x.getD i 0).toNat : Int)) w := by
  have ha : (isAgg 5).run Try.prog w = .ok false w := by kernel_rfl
  have hc := cb_get x i (by omega)
  simp only [part, Sem.run_bind, ha, Result.andThen_ok]
  simp [hc]
theorem eq_loop (d : Nat) (x y : List (BitVec 8)) (hx : x.length = 32) (hy : y.length = 32) : ∀ (l : List Nat) (w : World), (∀ i ∈ l, i < 32) →
    ((forIn l ((none, ()) : Option Bool × Unit) fun i _ => do
            let a ← part 5 (cb x).toArray i
            let b ← part 5 (cb y).toArray i
            let c ← Op.equalIn (d + 1) 5 a b
            if (!c) = true then pure (ForInStep.done (some false, ())) else pure (ForInStep.yield (none, ()))) : Sem (Option Bool × Unit)).run Try.prog w =
      .ok (if l.all (fun i => x.getD i 0 == y.getD i 0) then (none, ()) else (some false, ())) w
  | [], w, _ => by simp
  | i :: l, w, h => by
    have hi := h i (by simp)
    have ih := eq_loop d x y hx hy l w (fun j hj => h j (by simp [hj]))
    rw [List.forIn_cons]
    simp only [Sem.run_bind, eq_part x hx i hi, eq_part y hy i hi, Result.andThen_ok, run_equalIn_int w d 5 .u8 .u8 _ _ Try.underlying5]
    by_cases he : x.getD i 0 = y.getD i 0
    · have h1 : (((x.getD i 0).toNat : Int) == ((y.getD i 0).toNat : Int)) = true := by rw [he]; simp
      have h2 : (x.getD i 0 == y.getD i 0) = true := by rw [he]; simp
      simp only [h1, Bool.not_true, Bool.false_eq_true, if_false, Sem.run_pure, Result.andThen_ok, List.all_cons, h2, Bool.true_and]
      exact ih
    · have h1 : (((x.getD i 0).toNat : Int) == ((y.getD i 0).toNat : Int)) = false := by
        rw [beq_eq_false_iff_ne]; intro hh; exact he (BitVec.eq_of_toNat_eq (by omega))
      have h2 : (x.getD i 0 == y.getD i 0) = false := by rw [beq_eq_false_iff_ne]; exact he
      simp only [h1, Bool.not_false, if_true, Sem.run_pure, Result.andThen_ok, List.all_cons, h2, Bool.false_and, Bool.false_eq_true, if_false]
theorem eq_digs (d : Nat) (x y : List (BitVec 8)) (hx : x.length = 32) (hy : y.length = 32) (w : World) : (Op.equalIn (d + 1 + 1) 28 (.agg (cb x).toArray) (.agg (cb y).toArray)).run Try.prog w = .ok (decide (x = y)) w := by
  have hs : ∀ w, (sizeOf 5).run Try.prog w = .ok 1 w := fun w => by kernel_rfl
  rw [Op.equalIn]
  simp only [Sem.run_bind, run_underlying Try.underlying28, Result.andThen_ok, hs, Nat.mul_one]
  rw [Std.Legacy.Range.forIn_eq_forIn_range']
  rw [eq_loop d x y hx hy _ w (fun i hi => by simp [Std.Legacy.Range.size, List.mem_range'_1] at hi; omega)]
  simp only [Result.andThen_ok]
  by_cases h : x = y
  · subst h; simp
  · have h2 : ((List.range' ([:32] : Std.Legacy.Range).start ([:32] : Std.Legacy.Range).size ([:32] : Std.Legacy.Range).step).all fun i => x.getD i 0 == y.getD i 0) = false := by
      rw [Bool.eq_false_iff]
      intro ha
      apply h
      apply List.ext_getElem (by omega)
      intro i h1 h2
      have := List.all_eq_true.1 ha i (by simp [Std.Legacy.Range.size, List.mem_range'_1]; omega)
      simpa [h1, h2] using this
    rw [h2]; simp [h]
theorem eq_dig (x y : List (BitVec 8)) (hx : x.length = 32) (hy : y.length = 32) (w : World) : (Op.equalIn 10000 28 (.agg (cb x).toArray) (.agg (cb y).toArray)).run Try.prog w = .ok (decide (x = y)) w := eq_digs 9998 x y hx hy w
theorem eq_dig_same (x : List (BitVec 8)) (hx : x.length = 32) (w : World) : (Op.equalIn 10000 28 (.agg (cb x).toArray) (.agg (cb x).toArray)).run Try.prog w = .ok true w := by rw [eq_dig x x hx hx]; simp
theorem wpSeq_val {P : Program} {ops : Array Oper} {Q : Exit → Act → World → Prop} {rest : List Oper} {o : Oper} {a : Act} {w : World} (v : Value) (w' : World) (hw : Region.wanted o (yielded ops a.tmps) = true)
    (he : (execOp a.eval o).run P w = .ok (.value v) w') (h : wpList P ops Q rest (a.put o.dst v) w') : wpList P ops Q (o :: rest) a w := by
  unfold wpList
  simp only [hw, if_true]
  left
  unfold Oper.wp
  rw [he, Oper.upon_value]
  exact h
theorem load_run {P : Program} {a : Act} {o : Oper} (ty : TypeId) (x : Operand) (ho : o.op = .load ty x) (b of : Nat) (hx : a.eval x = .pointer (some ⟨b, of, none⟩)) (cs : List Value) (d : TypeDesc) {w : World} (hc : w.rangeAt b of cs)
    (hu : P.underlying ty = some d) (hd : d.isRow = true) (hi : (P.info? ty).map (·.size) = some cs.length) : (execOp a.eval o).run P w = .ok (.value (.agg cs.toArray)) w := by
  unfold execOp
  simp only [ho, hx, Instr.loadAt, Instr.sureAddr, Sem.run_bind, Sem.run_pure, Result.andThen_ok, run_loadVar_mid w b of ty cs d hc hu hd hi]
/-- what Read comes to, in the law -/
structure Rdo (g : Nat) (most : Int) (l : List (BitVec 8)) (w w' : World) (en : Int) : Prop where
  bel : Below g w w'
  sz : g + 8 ≤ w'.heap.size
  mm : Blk w' g [.int .i64 most] 3
  out : (en = 0 ∧ ∃ (n : Nat) (d t : List (BitVec 8)) (vt : Value), rdSpec most l = some ((n, d, t), []) ∧ d.length = 32 ∧ Blk w' (g + 1) [.int .i64 (n : Int)] 3 ∧ Blk w' (g + 2) (cb d) 28 ∧ Blk w' (g + 3) [vt] 22 ∧ Reads w' vt t) ∨ (en = 3 ∧ ∀ x, rdSpec most l ≠ some (x, []))
def w4 (w : World) (most : Int) : World := (((w.alloc (.cells #[.int .i64 most] 3)).alloc (.cells #[.int .i64 0] 3)).alloc (.cells (cb zb32).toArray 28)).alloc (.cells #[.slice none 0 0] 22)
theorem Reads.past {H : Nat} {w w' : World} {v : Value} {l : List (BitVec 8)} (h : Reads w v l) (k : Past H w w') (hv : ∀ j, v.ownBlock = some j → H + 4 ≤ j) : Reads w' v l := by
  obtain ⟨ad, cap, rfl, hc, hn, hx⟩ := h
  refine ⟨ad, cap, rfl, hc, hn, fun hp => ?_⟩
  obtain ⟨b, off, rfl, h2⟩ := hx hp
  refine ⟨b, off, rfl, fun j hj => ?_⟩
  rw [World.cell?_of_block (w := w) (k.block b (Or.inr (hv b rfl)))]
  exact h2 j hj
theorem Blk.past {H g : Nat} {w w' : World} {cs : List Value} {t : TypeId} (h : Blk w g cs t) (k : Past H w w') (hg : g < H) : Blk w' g cs t := by
  unfold Blk at *
  rw [k.block g (Or.inl hg)]; exact h
end Go.Proofs.Ytldbcglakeggaaa

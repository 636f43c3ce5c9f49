/- Lists of numbers and of texts that a call makes: rows, and what of them stays. -/
import Derived.Test.YtldbcglakeggaaaRRead
namespace Go.Proofs.Ytldbcglakeggaaa
open Go.RowKit
/-- the slice v, the call's own from block base on, holds the values vs -/
def OwnV (w : World) (base : Nat) (el : TypeId) (v : Value) (vs : List Value) : Prop := w.ownsRow base el 1 v vs.length vs
theorem OwnV.nil (w : World) (base : Nat) (el : TypeId) : OwnV w base el (.slice none 0 0) [] := World.ownsRow_nil _ _ _ _
theorem OwnV.same {w w' : World} {base : Nat} {el : TypeId} {v : Value} {vs : List Value} (h : OwnV w base el v vs) (hs : ∀ k, v.ownBlock = some k → w'.heap[k]? = w.heap[k]?) : OwnV w' base el v vs := by
  obtain ⟨h1, h2⟩ := h
  refine ⟨h1, ?_⟩
  rcases h2 with h2 | ⟨g, cap, cur, rfl, hg, hh, r⟩
  · exact Or.inl h2
  · exact Or.inr ⟨g, cap, cur, rfl, hg, by rw [hs g rfl]; exact hh, r⟩
theorem OwnB.same {w w' : World} {base : Nat} {v : Value} {l : List (BitVec 8)} (h : OwnB w base v l) (hs : ∀ k, v.ownBlock = some k → w'.heap[k]? = w.heap[k]?) : OwnB w' base v l := by
  obtain ⟨h1, h2⟩ := h
  refine ⟨h1, ?_⟩
  rcases h2 with h2 | ⟨g, cap, cur, rfl, hg, hh, r⟩
  · exact Or.inl h2
  · exact Or.inr ⟨g, cap, cur, rfl, hg, by rw [hs g rfl]; exact hh, r⟩
theorem OwnB.mono {w : World} {base B : Nat} {v : Value} {l : List (BitVec 8)} (h : OwnB w base v l) (hB : B ≤ base) : OwnB w B v l := by
  obtain ⟨h1, h2⟩ := h
  refine ⟨h1, ?_⟩
  rcases h2 with h2 | ⟨g, cap, cur, rfl, hg, r⟩
  · exact Or.inl h2
  · exact Or.inr ⟨g, cap, cur, rfl, by omega, r⟩
theorem OwnV.lt {w : World} {base : Nat} {el : TypeId} {v : Value} {vs : List Value} (h : OwnV w base el v vs) : ∀ k, v.ownBlock = some k → base ≤ k ∧ k < w.heap.size := World.ownsRow.lt h
theorem OwnV.slice {w : World} {base : Nat} {el : TypeId} {v : Value} {vs : List Value} (h : OwnV w base el v vs) : ∃ ad c, v = .slice ad vs.length c ∧ vs.length ≤ c ∧ (ad = none → c = 0) ∧ (0 < vs.length → ∃ g, ad = some ⟨g, 0, none⟩ ∧ ∀ j u, vs[j]? = some u → w.cell? ⟨g, j, none⟩ = some u) := by
  obtain ⟨h1, h2⟩ := h
  rcases h2 with ⟨rfl, h0⟩ | ⟨g, cap, cur, rfl, hg, hh, hc, hm, hs, ht⟩
  · exact ⟨none, 0, by rw [h0], by omega, fun _ => rfl, fun h => by omega⟩
  · refine ⟨_, cap, rfl, hc, (fun h => by cases h), fun _ => ⟨g, rfl, fun j u hj => ?_⟩⟩
    rw [Nat.mul_one] at ht
    rw [cell_of_row w g j cur _ (0, 0) hh, ← hj, ← ht, List.getElem?_take_of_lt (by have := (List.getElem?_eq_some_iff.1 hj).1; omega)]
    simp
/-- a row of slices is no row of bytes -/
theorem OwnB.apart {w : World} {b1 b2 : Nat} {v u : Value} {l : List (BitVec 8)} {vs : List Value} {el : TypeId} (hel : el ≠ 5) (h : OwnB w b1 v l) (h2 : OwnV w b2 el u vs) : ∀ k, v.ownBlock = some k → some k ≠ u.ownBlock := by
  obtain ⟨_, h1⟩ := h
  obtain ⟨_, h3⟩ := h2
  intro k hk he
  rcases h1 with ⟨rfl, _⟩ | ⟨g, cap, cur, rfl, hg, hh, _⟩
  · simp [Value.ownBlock] at hk
  · rcases h3 with ⟨rfl, _⟩ | ⟨g2, cap2, cur2, rfl, hg2, hh2, _⟩
    · simp [Value.ownBlock] at he
    · simp only [Value.ownBlock, Option.some.injEq] at hk he
      subst hk he
      rw [hh] at hh2
      simp only [Option.some.injEq, Obj.cells.injEq] at hh2
      exact hel hh2.2.1.symm
/-- the world w' is w, below B, but for the blocks gi and gl -/
structure Fr (gi gl B : Nat) (w w' : World) : Prop where
  os : w'.os = w.os
  tape : w'.tape = w.tape
  output : w'.output = w.output
  size : w.heap.size ≤ w'.heap.size
  block : ∀ k, k < B → k ≠ gi → k ≠ gl → w'.heap[k]? = w.heap[k]?
theorem Fr.refl (gi gl B : Nat) (w : World) : Fr gi gl B w w := ⟨rfl, rfl, rfl, Nat.le_refl _, fun _ _ _ _ => rfl⟩
theorem Fr.trans {gi gl B : Nat} {a b c : World} (h : Fr gi gl B a b) (k : Fr gi gl B b c) : Fr gi gl B a c :=
  ⟨k.os.trans h.os, k.tape.trans h.tape, k.output.trans h.output, Nat.le_trans h.size k.size, fun i h1 h2 h3 => (k.block i h1 h2 h3).trans (h.block i h1 h2 h3)⟩
theorem Fr.drew {gi gl B : Nat} {a b : World} (h : Fr gi gl B a b) : Fr gi gl B a b.drew := ⟨h.os, h.tape, h.output, h.size, h.block⟩
theorem Fr.only {gi gl B : Nat} {a b c : World} (h : Fr gi gl B a b) (k : Only gi b c) (hB : B ≤ b.heap.size) : Fr gi gl B a c :=
  h.trans ⟨k.os, k.tape, k.output, k.size, fun i h1 h2 _ => k.block i h2 (by omega)⟩
theorem Fr.below {gi gl B : Nat} {a b c : World} (h : Fr gi gl B a b) (k : Below B b c) : Fr gi gl B a c :=
  h.trans ⟨k.os, k.tape, k.output, k.size, fun i h1 _ _ => k.block i h1⟩
theorem Fr.setCell {gi gl B : Nat} {a b : World} (h : Fr gi gl B a b) (o : Nat) (v : Value) : Fr gi gl B a (b.setCell ⟨gl, o, none⟩ v) :=
  h.trans ⟨rfl, rfl, rfl, by simp [World.setCell], fun k _ _ h3 => Below.heap_setCell _ _ _ _ h3⟩
theorem wpAny_law {P : Program} {md : Region.Mode} {ops : Array Oper} {Q : Exit → Act → World → Prop} {fuel : Nat} {listed : Array Bool} {a : Act} {w : World} (i : Nat) {oi : Oper}
    (hr : Region.ready md ops listed = [i]) (hi : ops[i]? = some oi) (hw : Region.wanted oi (yielded ops a.tmps) = true)
    (h : Oper.wp P oi a w (wpAny P md ops Q fuel (listed.setIfInBounds i true)) Q) : wpAny P md ops Q (fuel + 1) listed a w := by
  refine wpAny_all hr (by simp) (fun j hj => ?_)
  obtain rfl : j = i := by simpa using hj
  unfold wpOp
  rw [hi]
  simp only [hw, if_true]
  left
  exact h
theorem wpOp_vl {P : Program} {ops : Array Oper} {Q : Exit → Act → World → Prop} {K : Act → World → Prop} {a : Act} {w : World} (i : Nat) {oi : Oper} (v : Value) (w' : World) (hi : ops[i]? = some oi) (hw : Region.wanted oi (yielded ops a.tmps) = true)
    (he : (execOp a.eval oi).run P w = .ok (.value v) w') (h : K (a.put oi.dst v) w') : wpOp P ops Q i K a w := by
  unfold wpOp
  rw [hi]
  simp only [hw, if_true]
  left
  unfold Oper.wp
  rw [he, Oper.upon_value]
  exact h
theorem wpOp_enP {P : Program} {ops : Array Oper} {Q : Exit → Act → World → Prop} {K : Act → World → Prop} {a : Act} {w : World} (i : Nat) {oi : Oper} {f : FuncId} {args : Array Value} {R : Ending → World → Prop} (hi : ops[i]? = some oi) (hw : Region.wanted oi (yielded ops a.tmps) = true)
    (he : (execOp a.eval oi).run P w = .ok (.enter f args) w) (hc : Calls P f args w R) (h : ∀ e w', R e w' → (∃ v, e = .returned v ∧ K (a.put oi.dst v) w') ∨ (∃ ch, e = .panicked ch ∧ Q (.panic ch) a w')) : wpOp P ops Q i K a w := by
  unfold wpOp
  rw [hi]
  simp only [hw, if_true]
  left
  unfold Oper.wp
  rw [he, Oper.upon_enter]
  refine hc.mono ?_
  intro e w' hR
  rcases h e w' hR with ⟨v, rfl, hv⟩ | ⟨ch, rfl, hv⟩
  · exact hv
  · exact hv
theorem wpAny_pair {P : Program} {md : Region.Mode} {ops : Array Oper} {Q : Exit → Act → World → Prop} {fuel : Nat} {listed : Array Bool} {a : Act} {w : World} (i j : Nat) (hr : Region.ready md ops listed = [i, j])
    (h1 : wpOp P ops Q i (wpAny P md ops Q fuel (listed.setIfInBounds i true)) a w) (h2 : wpOp P ops Q j (wpAny P md ops Q fuel (listed.setIfInBounds j true)) a w) : wpAny P md ops Q (fuel + 1) listed a w := by
  refine wpAny_all hr (by simp) (fun k hk => ?_)
  rcases List.mem_cons.1 hk with rfl | hk
  · exact h1
  · obtain rfl : k = j := by simpa using hk
    exact h2
theorem Try.infou : (Try.prog.info? 23).map (fun i => (i.zero, i.size, i.bytes)) = some (some (.int .u64 0), 1, 8) := by kernel_rfl
theorem Try.infobs : (Try.prog.info? 22).map (fun i => (i.zero, i.size, i.bytes)) = some (some (.slice none 0 0), 1, 24) := by kernel_rfl
/-- one text more -/
theorem wp_appendT {o : Oper} {a : Act} {w : World} {K : Act → World → Prop} {Q : Exit → Act → World → Prop} (s x : Operand) (ho : o.op = .call { callee := .builtin .append, args := #[s, x], argTypes := #[70, 70] }) (base : Nat) (v u : Value) (vs : List Value) (g : Nat)
    (hs : a.eval s = v) (hown : OwnV w base 22 v vs) (hx : a.eval x = .slice (some ⟨g, 0, none⟩) 1 1) (hu : w.cell? ⟨g, 0, none⟩ = some u) (h1 : u.oneCell' = true) (hl : vs.length < 1000000) (hbase : base ≤ w.heap.size)
    (h : ∀ v' w', OwnV w' base 22 v' (vs ++ [u]) → w.grownBy w' v.ownBlock → K (a.put o.dst v') w') : o.wp Try.prog a w K Q := by
  obtain ⟨i0, hi, hz0, hz1, hz2⟩ := info_parts Try.infobs
  refine wp_append_own w s x 70 ho base 22 i0 (.slice none 0 0) 1 24 Try.underlying70 hi hz0 hz1 hz2 rfl (by decide) v vs.length vs hs hown ⟨g, 0, none⟩ 1 1 [u] hx rfl ?_ ?_ (by unfold maxLen; omega) (by omega) hbase ?_
  · intro j u' hj
    match j, hj with
    | 0, hj => simp at hj; subst hj; simpa [Addr.add] using hu
  · intro u' hu'; simp at hu'; subst hu'; exact h1
  · intro v' w' h2 h3 _
    exact h v' w' (by unfold OwnV; rw [List.length_append]; exact h2) h3
/-- the values are the numbers -/
def GoodN (_w : World) (_base : Nat) (vs : List Value) (ns : List Nat) : Prop := vs = ns.map fun n : Nat => Value.int .u64 (n : Int)
/-- the values are slices of the texts -/
def GoodT (w : World) (base : Nat) (vs : List Value) (ls : List (List (BitVec 8))) : Prop := vs.length = ls.length ∧ ∀ j u, vs[j]? = some u → OwnB w base u (ls.getD j [])
def readMany {α : Type} (g : List (BitVec 8) → Option (α × List (BitVec 8))) (l : List (BitVec 8)) : Option (List α × List (BitVec 8)) :=
  match readCount 4096 l with
  | none => none
  | some (n, r) => readAll g n r
theorem readAll_more {α : Type} (g : List (BitVec 8) → Option (α × List (BitVec 8))) (k : Nat) (b r : List (BitVec 8)) (a : α) (m : Nat) (xs : List α) (B : List (BitVec 8)) (h : readAll g m B = (readAll g (k + 1) b).map (fun p => (xs ++ p.1, p.2))) (hg : g b = some (a, r)) :
    readAll g m B = (readAll g k r).map (fun p => ((xs ++ [a]) ++ p.1, p.2)) := by
  rw [h, readAll, hg]
  simp only
  cases readAll g k r with
  | none => rfl
  | some p => simp
end Go.Proofs.Ytldbcglakeggaaa

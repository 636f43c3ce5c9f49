/- Laws for loops over a function: a digest and a number in memory, inside a round; blocks that abide. -/
import Derived.Test.YthjkihbobdollaaPathIt
namespace Go.Proofs.Ythjkihbobdollaa
open Go.RowKit Go.Shelf
attribute [local go_sem] Oper.semAt_some
theorem wpSeqIn_val {F : Fence} {n : Nat} {P : Program} {ops : Array Oper} {Q : Exit → Act → World → Prop} {rest : List Oper} {o : Oper} {a : Act} {w : World} (v : Value) (w' : World) (hw : Region.wanted o (yielded ops a.tmps) = true) (hd : ∀ c, o.op ≠ .defer c) (hab : o.about P w a.eval = none)
    (he : (execOp a.eval o).run P w = .ok (.value v) w') (h : wpListIn F n P ops Q rest (a.put o.dst v) w') : wpListIn F n P ops Q (o :: rest) a w := by
  unfold wpListIn
  simp only [hw, if_true]
  unfold Oper.wpIn
  refine ⟨fun f hf => (by rw [hab] at hf; cases hf), ?_⟩
  rw [Oper.semAt_eq _ _ _ hd, he]
  exact h
theorem wpSeqIn_loadD {F : Fence} {n : Nat} {ops : Array Oper} {Q : Exit → Act → World → Prop} {rest : List Oper} {o : Oper} {a : Act} {w : World} (x : Operand) (g : Nat) (l : List (BitVec 8)) (hl : l.length = 32) (hb : Blk w g (cb l) 23) (ho : o.op = .load 23 x) (hx : a.eval x = .pointer (some ⟨g, 0, none⟩)) (hw : Region.wanted o (yielded ops a.tmps) = true)
    (h : wpListIn F n Try.prog ops Q rest (a.put o.dst (.agg (cb l).toArray)) w) : wpListIn F n Try.prog ops Q (o :: rest) a w :=
  wpSeqIn_val _ _ hw (by rw [ho]; intro c hc; cases hc) (by simp [Oper.about, ho]) (loadDigest x g l hl hb ho hx) h
theorem wpSeqIn_storeD {F : Fence} {n : Nat} {ops : Array Oper} {Q : Exit → Act → World → Prop} {rest : List Oper} {o : Oper} {a : Act} {w : World} (x y : Operand) (g : Nat) (l m : List (BitVec 8)) (hl : l.length = 32) (hn : m.length = 32) (hb : Blk w g (cb l) 23) (ho : o.op = .store 23 x y) (hx : a.eval x = .pointer (some ⟨g, 0, none⟩)) (hy : a.eval y = .agg (cb m).toArray) (hw : Region.wanted o (yielded ops a.tmps) = true)
    (h : ∀ w', SetB m w g w' → KeepsOthers w w' → wpListIn F n Try.prog ops Q rest (a.put o.dst undef) w') : wpListIn F n Try.prog ops Q (o :: rest) a w := by
  have he : (execOp a.eval o).run Try.prog w = .ok .skip (w.setCells g 0 (cb m)) := by
    unfold execOp
    simp only [ho, hx, hy, Sem.run_bind]
    rw [run_storeAt_mid w g 0 23 _ (hb.there 0 _ (by rw [List.size_toArray, cb_len, cb_len]; omega)) (by rw [List.size_toArray, cb_len, hn]; exact info_digest) (all_oneCell_toArray (cb_one m))]
    rfl
  have hk : ∀ (vs : List Value) (i : Nat) (w : World), KeepsOthers w (w.setCells g i vs) := by
    intro vs
    induction vs with
    | nil => intro i w; exact KeepsOthers.refl _
    | cons v r ih => intro i w; rw [World.setCells]; exact (KeepsOthers.setCell w _ v).trans (ih _ _)
  unfold wpListIn
  simp only [hw, if_true]
  unfold Oper.wpIn
  refine ⟨fun f hf => (by simp [Oper.about, ho] at hf), ?_⟩
  rw [Oper.semAt_eq _ _ _ (by rw [ho]; intro c hc; cases hc), he]
  exact h _ (SetB.of l m hl hn hb) (hk _ _ _)
/-- a new block of one cell -/
structure NewC (v : Value) (t : TypeId) (w : World) (g : Nat) (w' : World) : Prop where
  ge : w.heap.size ≤ g
  blk : Blk w' g [v] t
  below : Below w.heap.size w w'
theorem NewC.of (v : Value) (t : TypeId) (w : World) : NewC v t w w.heap.size (w.alloc (.cells #[v] t)) := ⟨Nat.le_refl _, Blk.new w [v] t, below_alloc w _⟩
theorem wpSeq_allocI {ops : Array Oper} {Q : Exit → Act → World → Prop} {rest : List Oper} {o : Oper} {a : Act} {w : World} (ho : o.op = .alloc 3) (hw : Region.wanted o (yielded ops a.tmps) = true)
    (h : ∀ g w', NewC (.int .i64 0) 3 w g w' → wpList Try.prog ops Q rest (a.put o.dst (.pointer (some ⟨g, 0, none⟩))) w') : wpList Try.prog ops Q (o :: rest) a w :=
  wpSeq_val _ _ hw (by unfold execOp; rw [ho]; kernel_rfl) (h _ _ (NewC.of (.int .i64 0) 3 w))
theorem wpSeq_allocT {ops : Array Oper} {Q : Exit → Act → World → Prop} {rest : List Oper} {o : Oper} {a : Act} {w : World} (ho : o.op = .alloc 4) (hw : Region.wanted o (yielded ops a.tmps) = true)
    (h : ∀ g w', NewC (.bool false) 4 w g w' → wpList Try.prog ops Q rest (a.put o.dst (.pointer (some ⟨g, 0, none⟩))) w') : wpList Try.prog ops Q (o :: rest) a w :=
  wpSeq_val _ _ hw (by unfold execOp; rw [ho]; kernel_rfl) (h _ _ (NewC.of (.bool false) 4 w))
theorem wpSeq_boxI {ops : Array Oper} {Q : Exit → Act → World → Prop} {rest : List Oper} {o : Oper} {a : Act} {w : World} (x : Operand) (i : Int) (ho : o.op = .box 3 x) (hx : a.eval x = .int .i64 i) (hw : Region.wanted o (yielded ops a.tmps) = true)
    (h : ∀ g w', NewC (.int .i64 i) 3 w g w' → wpList Try.prog ops Q rest (a.put o.dst (.pointer (some ⟨g, 0, none⟩))) w') : wpList Try.prog ops Q (o :: rest) a w :=
  wpSeq_val _ _ hw (by unfold execOp; rw [ho]; simp only [hx]; rfl) (h _ _ (NewC.of (.int .i64 i) 3 w))
theorem blk_own {β : Type} (g : Nat) (cs : β → List Value) (t : TypeId) : Own (fun (s : β) W => Blk W g (cs s) t) := fun s X Y row hs hg hr => by
  have hs' : X.heap[g]? = some (.cells (cs s).toArray t (0, 0)) := hs
  show Y.heap[g]? = some (.cells (cs s).toArray t (0, 0))
  rw [hg.block g (Array.getElem?_eq_some_iff.1 hs').1 (fun e => ?_)]
  · exact hs'
  · obtain ⟨o, ho, hc⟩ := hr g e.symm
    rw [hs'] at ho; cases ho; cases hc
theorem Blk.put {W : World} {g : Nat} {cs : List Value} {t : TypeId} (h : Blk W g cs t) {D : Nat} {o o' : Obj} (hD : W.heap[D]? = some o) (ho : o.isCells = false) : Blk (W.putObj D o') g cs t :=
  blk_own (β := Unit) g (fun _ => cs) t () W _ (some D) h (grownBy_putObj' W D o') (fun r e => by cases e; exact ⟨o, hD, ho⟩)
theorem keepsOthers_of_below {W W' : World} (h : Below W.heap.size W W') : KeepsOthers W W' :=
  ⟨h.size, fun k _ hk _ => (h.block k (Array.getElem?_eq_some_iff.1 hk).1).trans hk⟩
end Go.Proofs.Ythjkihbobdollaa

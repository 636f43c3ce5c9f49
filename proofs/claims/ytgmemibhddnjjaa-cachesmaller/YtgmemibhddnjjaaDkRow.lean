/- Rows in memory: made, loaded and stored; laws of regions (layer 13; out of the texts of layers 6, 10 and 11). -/
import Derived.Test.YtgmemibhddnjjaaDkPlain
import Derived.Test.YtgmemibhddnjjaaAnyH
import Derived.Test.YtgmemibhddnjjaaEq
import Derived.Deep.RegionHeld3
import Derived.Laws.ResultCell
import Derived.Laws.Tables
import Derived.Laws.CopyRow
import Derived.Laws.MakeOwn
namespace Go.Proofs.Ytgmemibhddnjjaa
open Go.RowKit
set_option maxRecDepth 100000
theorem wpSeq_val {P : Program} {ops : Array Oper} {Q : Exit → Act → World → Prop} {rest : List Oper} {o : Oper} {a : Act} {w : World} (v : Value) (w' : World) (hw : Region.wanted o (yielded ops a.tmps) = true)
    (he : (execOp a.eval o).run P w = .ok (.value v) w') (h : wpList P ops Q rest (a.put o.dst v) w') : wpList P ops Q (o :: rest) a w := by
  unfold wpList
  simp only [hw, if_true]
  left
  unfold Oper.wp
  rw [he, Oper.upon_value]
  exact h
theorem wpOp_vl {P : Program} {ops : Array Oper} {Q : Exit → Act → World → Prop} {K : Act → World → Prop} {a : Act} {w : World} (i : Nat) {oi : Oper} (v : Value) (w' : World) (hi : ops[i]? = some oi) (hw : Region.wanted oi (yielded ops a.tmps) = true)
    (he : (execOp a.eval oi).run P w = .ok (.value v) w') (h : K (a.put oi.dst v) w') : wpOp P ops Q i K a w := by
  unfold wpOp
  rw [hi]
  simp only [hw, if_true]
  left
  unfold Oper.wp
  rw [he, Oper.upon_value]
  exact h
theorem wpOp_en {P : Program} {ops : Array Oper} {Q : Exit → Act → World → Prop} {K : Act → World → Prop} {a : Act} {w : World} (i : Nat) {oi : Oper} {f : FuncId} {args : Array Value} {R : Ending → World → Prop} (hi : ops[i]? = some oi) (hw : Region.wanted oi (yielded ops a.tmps) = true)
    (he : (execOp a.eval oi).run P w = .ok (.enter f args) w) (hc : Calls P f args w R) (h : ∀ e w', R e w' → ∃ v, e = .returned v ∧ K (a.put oi.dst v) w') : wpOp P ops Q i K a w := by
  unfold wpOp
  rw [hi]
  simp only [hw, if_true]
  left
  unfold Oper.wp
  rw [he, Oper.upon_enter]
  refine hc.mono ?_
  intro e w' hR
  obtain ⟨v, rfl, hv⟩ := h e w' hR
  exact hv
theorem wpAnyH_pair {P : Program} {md : Region.Mode} {ops : Array Oper} {Q : Exit → Act → World → Prop} {S : World → Prop} {fuel : Nat} {listed : Array Bool} {a : Act} {w : World} (i j : Nat) (hr : Region.ready md ops listed = [i, j])
    (h1 : wpOp P ops Q i (fun a' w' => S w' ∧ wpAnyH P md ops Q S fuel (listed.setIfInBounds i true) a' w') a w) (h2 : wpOp P ops Q j (fun a' w' => S w' ∧ wpAnyH P md ops Q S fuel (listed.setIfInBounds j true) a' w') a w) : wpAnyH P md ops Q S (fuel + 1) listed a w := by
  refine wpAnyH_all hr (by simp) (fun k hk => ?_)
  rcases List.mem_cons.1 hk with rfl | hk
  · exact h1
  · obtain rfl : k = j := by simpa using hk
    exact h2
theorem wpAnyH_law {P : Program} {md : Region.Mode} {ops : Array Oper} {Q : Exit → Act → World → Prop} {S : World → Prop} {fuel : Nat} {listed : Array Bool} {a : Act} {w : World} (i : Nat) {oi : Oper}
    (hr : Region.ready md ops listed = [i]) (hi : ops[i]? = some oi) (hw : Region.wanted oi (yielded ops a.tmps) = true)
    (h : Oper.wp P oi a w (fun a' w' => S w' ∧ wpAnyH P md ops Q S fuel (listed.setIfInBounds i true) a' w') Q) : wpAnyH P md ops Q S (fuel + 1) listed a w := by
  refine wpAnyH_all hr (by simp) (fun j hj => ?_)
  obtain rfl : j = i := by simpa using hj
  unfold wpOp
  rw [hi]
  simp only [hw, if_true]
  exact Or.inl h
theorem wpSeq_box {ops : Array Oper} {Q : Exit → Act → World → Prop} {rest : List Oper} {o : Oper} {a : Act} {w : World} (ty : TypeId) (x : Operand) (ho : o.op = .box ty x) (cs : List Value) (hx : a.eval x = .agg cs.toArray) (hw : Region.wanted o (yielded ops a.tmps) = true) (w0 : World) (h0 : w0 = w.alloc (.cells cs.toArray ty))
    (h : wpList Try.prog ops Q rest (a.put o.dst (.pointer (some ⟨w.heap.size, 0, none⟩))) w0) : wpList Try.prog ops Q (o :: rest) a w := by
  refine wpSeq_val _ w0 hw ?_ h
  subst h0
  unfold execOp
  rw [ho]
  simp only [hx]
  rfl
theorem Reads.form {w : World} {v : Value} {l : List (BitVec 8)} (h : Reads w v l) : ∃ a n c, v = .slice a n c := by
  obtain ⟨a, c, hv, _⟩ := h
  exact ⟨_, _, _, hv⟩
theorem fold_set (off : Nat) : ∀ (vs B A C : List Value) (k : Nat), A.length = off + k → B.length = vs.length → (vs.zipIdx k).foldl (fun (cs : Array Value) (p : Value × Nat) => cs.setIfInBounds (off + p.2) p.1) (A ++ (B ++ C)).toArray = (A ++ (vs ++ C)).toArray
  | [], B, A, C, k, _, hB => by
    obtain rfl : B = [] := List.length_eq_zero_iff.1 hB
    rfl
  | v :: vs, [], A, C, k, _, hB => by simp at hB
  | v :: vs, b :: B, A, C, k, hA, hB => by
    rw [List.zipIdx_cons, List.foldl_cons]
    have e : (A ++ (b :: B ++ C)).toArray.setIfInBounds (off + k) v = ((A ++ [v]) ++ (B ++ C)).toArray := by
      rw [List.setIfInBounds_toArray, ← hA]
      congr 1
      rw [List.set_append_right _ _ (Nat.le_refl _), Nat.sub_self]
      simp
    rw [e, fold_set off vs B (A ++ [v]) C (k + 1) (by rw [List.length_append, hA]; rfl) (by simpa using hB)]
    simp
theorem fill_seg {place : Nat → Option (Nat × Nat)} {A B C vs : List Value} {i off size : Nat} {rest : List (Nat × Value)} {v : Value} (hp : place i = some (off, size)) (hA : A.length = off) (hB : B.length = size) (hv : v.cells = vs.toArray) (hvl : vs.length = size) :
    Instr.fill place (A ++ (B ++ C)).toArray ((i, v) :: rest) = Instr.fill place (A ++ (vs ++ C)).toArray rest := by
  have h1 : v.cells.size = size := by rw [hv, List.size_toArray, hvl]
  have h2 : (A ++ (B ++ C)).toArray.size = off + size + C.length := by simp [hA, hB]; omega
  rw [Instr.fill, hp]
  simp only [h1, h2]
  rw [if_neg (by simp)]
  congr 1
  rw [hv, ← fold_set off vs B A C 0 (by omega) (by omega), ← Array.foldl_toList, Array.toList_zipIdx]
/-- a literal's value, out of what it is built of -/
theorem build_op (f : Operand → Value) (o : Oper) (t : TypeId) (ps : List (Nat × Operand)) (ho : o.op = .build t ps.toArray) (cells : Array Value) (h : Try.prog.built t (ps.map fun p => (p.1, f p.2)) = some cells) (w : World) : (execOp f o).run Try.prog w = .ok (.value (.agg cells)) w := by
  unfold execOp
  rw [ho]
  have hm : (ps.toArray.map fun (p : Nat × Operand) => (p.1, f p.2)) = (ps.map fun p => (p.1, f p.2)).toArray := by simp
  have hr := run_build (P := Try.prog) w t (ps.map fun p => (p.1, f p.2)).toArray cells (by simpa using h)
  simp only [hm, Sem.run_bind, hr, Result.andThen_ok, Sem.run_pure]
theorem wpSeq_build {ops : Array Oper} {Q : Exit → Act → World → Prop} {rest : List Oper} {o : Oper} {a : Act} {w : World} (t : TypeId) (ps : List (Nat × Operand)) (cells : List Value) (h1 : Try.prog.built t (ps.map fun p => (p.1, a.eval p.2)) = some cells.toArray) (ho : o.op = .build t ps.toArray) (hw : Region.wanted o (yielded ops a.tmps) = true)
    (h : wpList Try.prog ops Q rest (a.put o.dst (.agg cells.toArray)) w) : wpList Try.prog ops Q (o :: rest) a w :=
  wpSeq_val _ _ hw (build_op a.eval o t ps ho cells.toArray h1 w) h
/-- a new block -/
structure NewR (cs : List Value) (t : TypeId) (w : World) (g : Nat) (w' : World) : Prop where
  ge : w.heap.size ≤ g
  blk : Blk w' g cs t
  below : Below w.heap.size w w'
theorem NewR.of (cs : List Value) (t : TypeId) (w : World) : NewR cs t w w.heap.size (w.alloc (.cells cs.toArray t)) := ⟨Nat.le_refl _, Blk.new w cs t, below_alloc w _⟩
theorem wpSeq_boxW {ops : Array Oper} {Q : Exit → Act → World → Prop} {rest : List Oper} {o : Oper} {a : Act} {w : World} (ty : TypeId) (x : Operand) (cs : List Value) (ho : o.op = .box ty x) (hx : a.eval x = .agg cs.toArray) (hw : Region.wanted o (yielded ops a.tmps) = true)
    (h : ∀ g w', NewR cs ty w g w' → wpList Try.prog ops Q rest (a.put o.dst (.pointer (some ⟨g, 0, none⟩))) w') : wpList Try.prog ops Q (o :: rest) a w :=
  wpSeq_box ty x ho cs hx hw _ rfl (h _ _ (NewR.of cs ty w))
/-- a row stored whole -/
structure SetR (cs : List Value) (t : TypeId) (w : World) (g : Nat) (w' : World) : Prop where
  blk : Blk w' g cs t
  only : Only g w w'
theorem SetR.of {cs ns : List Value} {t : TypeId} {w : World} {g : Nat} (hb : Blk w g cs t) (hl : ns.length = cs.length) : SetR ns t w g (w.setCells g 0 ns) := ⟨hb.whole ns hl, Only.setCells _ _ _ (Only.refl g w)⟩
theorem wpSeq_storeRow {ops : Array Oper} {Q : Exit → Act → World → Prop} {rest : List Oper} {o : Oper} {a : Act} {w : World} (ty : TypeId) (x y : Operand) (g : Nat) (cs ns : List Value) (hb : Blk w g cs ty) (hl : ns.length = cs.length) (hi : (Try.prog.info? ty).map (·.size) = some ns.length) (h1 : ∀ v ∈ ns, v.oneCell' = true)
    (ho : o.op = .store ty x y) (hx : a.eval x = .pointer (some ⟨g, 0, none⟩)) (hy : a.eval y = .agg ns.toArray) (hgd : o.guard = none)
    (h : ∀ w', SetR ns ty w g w' → wpList Try.prog ops Q rest (a.put o.dst undef) w') : wpList Try.prog ops Q (o :: rest) a w :=
  wpList_store_mid hgd ty x y ho g 0 _ hx hy (hb.there 0 _ (by rw [List.size_toArray, hl]; omega)) (by rw [List.size_toArray]; exact hi) (all_oneCell_toArray h1)
    (by rw [List.toList_toArray]; exact h _ (SetR.of hb hl))
/-- a row loaded whole, from wherever it lies -/
theorem wpSeq_loadW {ops : Array Oper} {Q : Exit → Act → World → Prop} {rest : List Oper} {o : Oper} {a : Act} {w : World} (ty : TypeId) (x : Operand) (b off : Nat) (cs : List Value) (d : TypeDesc) (hb : w.rangeAt b off cs) (hu : Try.prog.underlying ty = some d) (hd : d.isRow = true) (hi : (Try.prog.info? ty).map (·.size) = some cs.length) (ho : o.op = .load ty x) (hx : a.eval x = .pointer (some ⟨b, off, none⟩)) (hw : Region.wanted o (yielded ops a.tmps) = true)
    (h : wpList Try.prog ops Q rest (a.put o.dst (.agg cs.toArray)) w) : wpList Try.prog ops Q (o :: rest) a w :=
  wpSeq_val _ _ hw (load_run ty x ho b off hx cs d hb hu hd hi) h
theorem wpAnyH_storeRow {md : Region.Mode} {ops : Array Oper} {Q : Exit → Act → World → Prop} {S : World → Prop} {fuel : Nat} {listed : Array Bool} {a : Act} {w : World} (i : Nat) {oi : Oper} (ty : TypeId) (x y : Operand) (g : Nat) (cs ns : List Value) (hb : Blk w g cs ty) (hl : ns.length = cs.length) (hi0 : (Try.prog.info? ty).map (·.size) = some ns.length) (h1 : ∀ v ∈ ns, v.oneCell' = true)
    (hr : Region.ready md ops listed = [i]) (hi : ops[i]? = some oi) (hw : Region.wanted oi (yielded ops a.tmps) = true) (ho : oi.op = .store ty x y) (hx : a.eval x = .pointer (some ⟨g, 0, none⟩)) (hy : a.eval y = .agg ns.toArray)
    (h : ∀ w', SetR ns ty w g w' → S w' ∧ wpAnyH Try.prog md ops Q S fuel (listed.setIfInBounds i true) (a.put oi.dst undef) w') : wpAnyH Try.prog md ops Q S (fuel + 1) listed a w :=
  wpAnyH_law i hr hi hw (wp_store_mid ty x y ho g 0 ns.toArray hx hy (hb.there 0 _ (by rw [List.size_toArray, hl]; omega)) (by rw [List.size_toArray]; exact hi0) (all_oneCell_toArray h1) (by rw [List.toList_toArray]; exact h _ (SetR.of hb hl)))
theorem results_row_tmp {fn : Func} {p u : Tmp} {ty : TypeId} (h : fn.results = #[.cell p ty, .tmp u]) (tmps : Array Value) (w : World) (g : Nat) (v : Value) (hp : tmps.getD p undef = .pointer (some ⟨g, 0, none⟩)) (e1 : (loadVar ty ⟨g, 0, none⟩).run Try.prog w = .ok v w) :
    (results fn tmps).run Try.prog w = .ok (.tuple #[v, tmps.getD u undef]) w := by
  have hp' : tmps[p]?.getD undef = .pointer (some ⟨g, 0, none⟩) := by simpa using hp
  simp [results, h, hp', asAddr, e1]
theorem results_row_tmp2 {fn : Func} {p u x : Tmp} {ty : TypeId} (h : fn.results = #[.cell p ty, .tmp u, .tmp x]) (tmps : Array Value) (w : World) (g : Nat) (v : Value) (hp : tmps.getD p undef = .pointer (some ⟨g, 0, none⟩)) (e1 : (loadVar ty ⟨g, 0, none⟩).run Try.prog w = .ok v w) :
    (results fn tmps).run Try.prog w = .ok (.tuple #[v, tmps.getD u undef, tmps.getD x undef]) w := by
  have hp' : tmps[p]?.getD undef = .pointer (some ⟨g, 0, none⟩) := by simpa using hp
  simp [results, h, hp', asAddr, e1]
theorem own_of_blk {w : World} {base g k c : Nat} {z : List (BitVec 8)} (h : Blk w g (cb z) 5) (hb : base ≤ g) (hz : z.length = c) (hk : k ≤ c) (hc : c < 281474976710600) : OwnB w base (.slice (some ⟨g, 0, none⟩) k c) (z.take k) := by
  have hl : (z.take k).length = k := by rw [List.length_take]; omega
  have e : (cb z).take k = cb (z.take k) := by simp [cb]
  refine ⟨by rw [cb_len, Nat.mul_one], Or.inr ⟨g, c, (cb z).toArray, by rw [hl], hb, h, by rw [hl]; exact hk, by unfold maxLen; omega, by simp [cb_len, hz], by rw [hl, Nat.mul_one, ← e]⟩⟩
/-- one byte of a block of bytes -/
theorem wpSeq_storeY {ops : Array Oper} {Q : Exit → Act → World → Prop} {rest : List Oper} {o : Oper} {a : Act} {w : World} (x y : Operand) (g k : Nat) (l : List (BitVec 8)) (b : BitVec 8) (hk : k < l.length) (hb : Blk w g (cb l) 5) (ho : o.op = .store 5 x y) (hx : a.eval x = .pointer (some ⟨g, k, none⟩)) (hy : a.eval y = .int .u8 (b.toNat : Int)) (hw : Region.wanted o (yielded ops a.tmps) = true)
    (h : ∀ w', Blk w' g (cb (l.set k b)) 5 → Only g w w' → wpList Try.prog ops Q rest (a.put o.dst undef) w') : wpList Try.prog ops Q (o :: rest) a w := by
  have hc : w.cell? ⟨g, k, none⟩ = some (.int .u8 ((l.getD k 0).toNat : Int)) := by rw [hb.cell, cb_get l k hk]
  have hf : w.frozen? ⟨g, k, none⟩ = false := hb.frozen k
  have he : (execOp a.eval o).run Try.prog w = .ok .skip (w.setCell ⟨g, k, none⟩ (.int .u8 (b.toNat : Int))) := by
    clear h hw
    generalize a.eval = f at hx hy ⊢
    unfold execOp
    rw [ho]
    simp [go_sem, hx, hy, hc, hf]
  unfold wpList
  simp only [hw, if_true]
  left
  unfold Oper.wp
  rw [he, Oper.upon_skip]
  refine h _ ?_ (Only.setCell (Only.refl g w) k _)
  have := hb.set k (.int .u8 (b.toNat : Int))
  rw [cb_set] at this
  exact this
/-- one cell of a row stored -/
theorem wpSeq_cellI {ops : Array Oper} {Q : Exit → Act → World → Prop} {rest : List Oper} {o : Oper} {a : Act} {w : World} (x y : Operand) (g k : Nat) (cs : List Value) (n : Int) (tb : TypeId) (hk : k < cs.length) (hb : Blk w g cs tb) (ho : o.op = .store 3 x y) (hx : a.eval x = .pointer (some ⟨g, k, none⟩)) (hy : a.eval y = .int .i64 n) (hw : Region.wanted o (yielded ops a.tmps) = true)
    (h : ∀ w', Blk w' g (cs.set k (.int .i64 n)) tb → Only g w w' → wpList Try.prog ops Q rest (a.put o.dst undef) w') : wpList Try.prog ops Q (o :: rest) a w := by
  have hc : w.cell? ⟨g, k, none⟩ = some cs[k] := by rw [hb.cell, List.getElem?_eq_getElem hk]
  have hf : w.frozen? ⟨g, k, none⟩ = false := hb.frozen k
  have he : (execOp a.eval o).run Try.prog w = .ok .skip (w.setCell ⟨g, k, none⟩ (.int .i64 n)) := by
    clear h hw
    generalize a.eval = f at hx hy ⊢
    unfold execOp
    rw [ho]
    simp [go_sem, hx, hy, hc, hf]
  unfold wpList
  simp only [hw, if_true]
  left
  unfold Oper.wp
  rw [he, Oper.upon_skip]
  exact h _ (hb.set k _) (Only.setCell (Only.refl g w) k _)
theorem wpSeq_cellB {ops : Array Oper} {Q : Exit → Act → World → Prop} {rest : List Oper} {o : Oper} {a : Act} {w : World} (x y : Operand) (g k : Nat) (cs : List Value) (b : Bool) (tb : TypeId) (hk : k < cs.length) (hb : Blk w g cs tb) (ho : o.op = .store 4 x y) (hx : a.eval x = .pointer (some ⟨g, k, none⟩)) (hy : a.eval y = .bool b) (hw : Region.wanted o (yielded ops a.tmps) = true)
    (h : ∀ w', Blk w' g (cs.set k (.bool b)) tb → Only g w w' → wpList Try.prog ops Q rest (a.put o.dst undef) w') : wpList Try.prog ops Q (o :: rest) a w := by
  have hc : w.cell? ⟨g, k, none⟩ = some cs[k] := by rw [hb.cell, List.getElem?_eq_getElem hk]
  have hf : w.frozen? ⟨g, k, none⟩ = false := hb.frozen k
  have he : (execOp a.eval o).run Try.prog w = .ok .skip (w.setCell ⟨g, k, none⟩ (.bool b)) := by
    clear h hw
    generalize a.eval = f at hx hy ⊢
    unfold execOp
    rw [ho]
    simp [go_sem, hx, hy, hc, hf]
  unfold wpList
  simp only [hw, if_true]
  left
  unfold Oper.wp
  rw [he, Oper.upon_skip]
  exact h _ (hb.set k _) (Only.setCell (Only.refl g w) k _)
end Go.Proofs.Ytgmemibhddnjjaa

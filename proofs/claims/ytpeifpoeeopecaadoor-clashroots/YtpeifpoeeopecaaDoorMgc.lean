/- Texts that the proof leans on, one behind the other: Slices of digests in memory: what they read as, those that are the call's own, one more behind them. Leaves in memory: two slices of digests in a struct; one more behind each; regions that draw their order. The walk of the reference's half. .. -/
import Derived.Test.YtpeifpoeeopecaaDoorMgb
import Derived.Great.BuildSlice
import Derived.Maps.AppendAt
import Derived.Deep.DeepCutAuto
import Derived.Laws.OwnMore
import Derived.Test.YtpeifpoeeopecaaDoorMga
import Derived.RangeFuncFrom
import Derived.Deep.RegionHeld
import Derived.RangeFuncNested
import Derived.OrdersIn
import Derived.TacticsIn
/- Slices of digests in memory: what they read as, those that are the call's own, one more behind them. -/
namespace Go.Proofs.YtpeifpoeeopecaaDoor
open Go.RowKit
set_option maxRecDepth 100000
theorem wrap_small2 (k : Int) (h0 : 0 ≤ k) (h1 : k < 1000000000) : IntKind.i64.wrap k = k := by simp [IntKind.wrap, IntKind.bits, IntKind.signed]; omega
def flatD (ds : List (List (BitVec 8))) : List Value := (ds.map cb).flatten
/-- the slice v of digests, the call's own from block base on, holds ds -/
def OwnD (w : World) (base : Nat) (v : Value) (ds : List (List (BitVec 8))) : Prop := w.ownsRow base 33 32 v ds.length (flatD ds) ∧ ∀ d ∈ ds, d.length = 32
theorem OwnD.one {w : World} {base : Nat} {v : Value} {ds : List (List (BitVec 8))} (h : OwnD w base v ds) : v.oneCell' = true := by
  rcases h.1 with ⟨_, ⟨rfl, _⟩ | ⟨g, cap, cur, rfl, _⟩⟩
  · rfl
  · rfl
theorem OwnD.keep {w w' : World} {base : Nat} {v : Value} {ds : List (List (BitVec 8))} (h : OwnD w base v ds) (hs : ∀ k, base ≤ k → k < w.heap.size → w'.heap[k]? = w.heap[k]?) : OwnD w' base v ds := by
  refine ⟨?_, h.2⟩
  have hlt := World.ownsRow.lt h.1
  rcases h.1 with ⟨h1, ⟨rfl, h2⟩ | ⟨g, cap, cur, rfl, hg, hh, h3⟩⟩
  · exact ⟨h1, Or.inl ⟨rfl, h2⟩⟩
  · exact ⟨h1, Or.inr ⟨g, cap, cur, rfl, hg, by rw [hs g hg (hlt g rfl).2]; exact hh, h3⟩⟩
theorem OwnD.mono {w : World} {base B : Nat} {v : Value} {ds : List (List (BitVec 8))} (h : OwnD w base v ds) (hB : B ≤ base) : OwnD w B v ds := by
  refine ⟨?_, h.2⟩
  rcases h.1 with ⟨h1, ⟨rfl, h2⟩ | ⟨g, cap, cur, rfl, hg, hh⟩⟩
  · exact ⟨h1, Or.inl ⟨rfl, h2⟩⟩
  · exact ⟨h1, Or.inr ⟨g, cap, cur, rfl, Nat.le_trans hB hg, hh⟩⟩
def nilV : Value := .slice none 0 0
theorem fill_one (cs : List Value) (h : cs.length = 32) (a0 : Array Value) (ha : a0.size = 32) : Instr.fill (fun i => some (i * 32, 32)) a0 [(0, .agg cs.toArray)] = some cs.toArray := by
  have hc : (Value.agg cs.toArray).cells = cs.toArray := rfl
  simp only [Instr.fill, hc, List.size_toArray, h, ha]
  rw [if_neg (by decide)]
  congr 1
  match cs, h with
  | [x0, x1, x2, x3, x4, x5, x6, x7, x8, x9, x10, x11, x12, x13, x14, x15, x16, x17, x18, x19, x20, x21, x22, x23, x24, x25, x26, x27, x28, x29, x30, x31], _ =>
    obtain ⟨l⟩ := a0
    match l, ha with
    | [y0, y1, y2, y3, y4, y5, y6, y7, y8, y9, y10, y11, y12, y13, y14, y15, y16, y17, y18, y19, y20, y21, y22, y23, y24, y25, y26, y27, y28, y29, y30, y31], _ =>
      refine id ?_
      show _ = _
      kernel_rfl
theorem Tryd.infod3 : (Tryd.prog.info? 33).map (fun i => (i.zero, i.size, i.bytes)) = some (some (.agg (cb zb32).toArray), 32, 32) := by kernel_rfl
theorem buildD (f : Operand → Value) (o : Oper) (x : Operand) (ho : o.op = .buildSlice 34 1 #[(0, x)]) (d : List (BitVec 8)) (hd : d.length = 32) (hx : f x = .agg (cb d).toArray) (w : World) :
    (execOp f o).run Tryd.prog w = .ok (.value (.slice (some ⟨w.heap.size, 0, none⟩) 1 1)) (w.alloc (.cells (cb d).toArray 33)) := by
  obtain ⟨i0, hi, hz, hs, _⟩ := info_parts Tryd.infod3
  have hr := run_buildSlice (P := Tryd.prog) w 34 33 1 #[(0, .agg (cb d).toArray)] (cb d).toArray i0 _ Tryd.underlying34 hi hz (by rw [hs]; decide) (by rw [hs]; decide) (by rw [hs]; exact fill_one (cb d) (by rw [cb_len, hd]) _ (by simp))
  unfold execOp
  rw [ho]
  simp only [List.map_toArray, List.map_cons, List.map_nil, hx, Sem.run_bind, hr, Result.andThen_ok, Sem.run_pure]
theorem flatD_len (ds : List (List (BitVec 8))) (h : ∀ d ∈ ds, d.length = 32) : (flatD ds).length = ds.length * 32 := by
  unfold flatD
  induction ds with
  | nil => rfl
  | cons d r ih =>
    rw [List.map_cons, List.flatten_cons, List.length_append, cb_len, h d (by simp), ih (fun x hx => h x (by simp [hx])), List.length_cons]
    omega
theorem flatD_snoc (ds : List (List (BitVec 8))) (d : List (BitVec 8)) : flatD (ds ++ [d]) = flatD ds ++ cb d := by
  unfold flatD
  simp
theorem OwnD.lt {w : World} {base : Nat} {v : Value} {ds : List (List (BitVec 8))} (h : OwnD w base v ds) : ∀ k, v.ownBlock = some k → base ≤ k ∧ k < w.heap.size := World.ownsRow.lt h.1
theorem OwnD.nil (w : World) (base : Nat) : OwnD w base nilV [] := ⟨World.ownsRow_nil _ _ _ _, by simp⟩
theorem OwnD.slice {w : World} {base : Nat} {v : Value} {ds : List (List (BitVec 8))} (h : OwnD w base v ds) : ∃ ad c, v = .slice ad ds.length c := by
  rcases h.1 with ⟨_, ⟨rfl, h2⟩ | ⟨g, cap, cur, rfl, _⟩⟩
  · exact ⟨none, 0, by rw [h2]⟩
  · exact ⟨_, _, rfl⟩
/-- the slice v reads as the digests ds -/
def ReadsD (w : World) (v : Value) (ds : List (List (BitVec 8))) : Prop :=
  (∃ ad cap, v = .slice ad ds.length cap ∧ ds.length ≤ cap ∧ (ad = none → cap = 0) ∧ (0 < ds.length → ∃ b off, ad = some ⟨b, off, none⟩ ∧ ∀ j, j < ds.length → w.rangeAt b (off + j * 32) (cb (ds.getD j [])))) ∧ ∀ d ∈ ds, d.length = 32
theorem rangeAt_lt {w : World} {b off : Nat} {d : List (BitVec 8)} (h : w.rangeAt b off (cb d)) (hd : d.length = 32) : b < w.heap.size := by
  have := h 0 _ (cb_get d 0 (by omega))
  exact block_lt_of_cell this
theorem rangeAt_below {w w' : World} {b off B : Nat} {cs : List Value} (h : w.rangeAt b off cs) (hb : Below B w w') (hB : b < B) : w'.rangeAt b off cs := fun j v hj => by
  rw [hb.cell (p := ⟨b, off + j, none⟩) hB]
  exact h j v hj
theorem getD_mem32 {ds : List (List (BitVec 8))} (h : ∀ d ∈ ds, d.length = 32) {j : Nat} (hj : j < ds.length) : (ds.getD j []).length = 32 := by
  rw [List.getD_eq_getElem?_getD, List.getElem?_eq_getElem hj]
  exact h _ (List.getElem_mem hj)
theorem ReadsD.below {w w' : World} {v : Value} {ds : List (List (BitVec 8))} (h : ReadsD w v ds) (hb : Below w.heap.size w w') : ReadsD w' v ds := by
  obtain ⟨⟨ad, cap, hv, hc, hn, hx⟩, h32⟩ := h
  refine ⟨⟨ad, cap, hv, hc, hn, fun hp => ?_⟩, h32⟩
  obtain ⟨b, off, rfl, hy⟩ := hx hp
  exact ⟨b, off, rfl, fun j hj => rangeAt_below (hy j hj) hb (rangeAt_lt (hy j hj) (getD_mem32 h32 hj))⟩
theorem flatD_at {ds : List (List (BitVec 8))} (h : ∀ d ∈ ds, d.length = 32) : ∀ (j i : Nat) (v : Value), j < ds.length → (cb (ds.getD j []))[i]? = some v → (flatD ds)[j * 32 + i]? = some v := by
  unfold flatD
  induction ds with
  | nil => intro j i v hj; simp at hj
  | cons d r ih =>
    intro j i v hj hv
    rw [List.map_cons, List.flatten_cons]
    cases j with
    | zero =>
      rw [List.getD_cons_zero] at hv
      have hi : i < (cb d).length := (List.getElem?_eq_some_iff.1 hv).1
      rw [Nat.zero_mul, Nat.zero_add, List.getElem?_append_left hi, hv]
    | succ j =>
      rw [List.getD_cons_succ] at hv
      have hl : (cb d).length = 32 := by rw [cb_len, h d (by simp)]
      rw [List.getElem?_append_right (by rw [hl]; omega), hl, show (j + 1) * 32 + i - 32 = j * 32 + i by omega]
      exact ih (fun x hx => h x (by simp [hx])) j i v (by simpa using hj) hv
theorem OwnD.readsD {w : World} {base : Nat} {v : Value} {ds : List (List (BitVec 8))} (h : OwnD w base v ds) : ReadsD w v ds := by
  refine ⟨?_, h.2⟩
  rcases h.1 with ⟨h1, ⟨rfl, h2⟩ | ⟨g, cap, cur, rfl, hg, hh, hc, hm, hs, ht⟩⟩
  · exact ⟨none, 0, by rw [h2], by omega, fun _ => rfl, fun hp => by omega⟩
  · refine ⟨_, cap, rfl, hc, fun h => (by cases h), fun hp => ⟨g, 0, rfl, fun j hj i v hv => ?_⟩⟩
    have hi : i < 32 := by have := (List.getElem?_eq_some_iff.1 hv).1; rwa [cb_len, getD_mem32 h.2 hj] at this
    have hf := flatD_at h.2 j i v hj hv
    rw [← ht, List.getElem?_take] at hf
    rw [cell_of_row w g _ cur 33 (0, 0) hh, Nat.zero_add]
    rw [if_pos (by
      have : (j + 1) * 32 ≤ ds.length * 32 := Nat.mul_le_mul_right 32 hj
      omega)] at hf
    simpa using hf
theorem allT_take (ds : List (List (BitVec 8))) (k : Nat) (h : k < ds.length) : encAll (fun a => a) (ds.take (k + 1)) = encAll (fun a => a) (ds.take k) ++ ds.getD k [] := by
  unfold encAll
  rw [List.take_add_one, List.getElem?_eq_getElem h, List.getD_eq_getElem?_getD, List.getElem?_eq_getElem h]
  simp only [Option.toList_some, List.map_append, List.map_cons, List.map_nil, List.flatten_append, List.flatten_cons, List.flatten_nil, List.append_nil, Option.getD_some]
/-- one more behind the own slice v: all other blocks stay -/
structure Grow (base : Nat) (w : World) (v : Value) (w' : World) (v' : Value) : Prop where
  below : Below base w w'
  other : ∀ k, some k ≠ v.ownBlock → k < w.heap.size → w'.heap[k]? = w.heap[k]?
  lies : v'.ownBlock = v.ownBlock ∨ v'.ownBlock = some w.heap.size
theorem wpSeq_appendD {ops : Array Oper} {Q : Exit → Act → World → Prop} {rest : List Oper} {o : Oper} {a : Act} {w : World} (s x : Operand) (base : Nat) (v : Value) (ds : List (List (BitVec 8))) (d : List (BitVec 8)) (g : Nat)
    (hown : OwnD w base v ds) (hu : Blk w g (cb d) 33) (hd : d.length = 32) (hl : ds.length < 2000000) (hbase : base ≤ w.heap.size)
    (ho : o.op = .call { callee := .builtin .append, args := #[s, x], argTypes := #[34, 34] }) (hs : a.eval s = v) (hx : a.eval x = .slice (some ⟨g, 0, none⟩) 1 1) (hgd : o.guard = none)
    (h : ∀ v' w', OwnD w' base v' (ds ++ [d]) → Grow base w v w' v' → wpList Tryd.prog ops Q rest (a.put o.dst v') w') : wpList Tryd.prog ops Q (o :: rest) a w := by
  obtain ⟨i0, hi, hz0, hz1, hz2⟩ := info_parts Tryd.infod3
  refine wpList_append_own_at w hgd s x 34 ho base 33 i0 (.agg (cb zb32).toArray) 32 32 Tryd.underlying34 hi hz0 hz1 hz2 (by show (cb zb32).toArray.size = 32; rw [List.size_toArray, cb_len]; rfl) (by decide) v ds.length (flatD ds) hs hown.1 ⟨g, 0, none⟩ 1 1 (cb d) hx (by rw [cb_len, hd]) ?_ (cb_one d) (by unfold maxLen; omega) (by omega) hbase ?_
  · intro j u hj
    rw [Addr.add_mid, Nat.zero_add, hu.cell, hj]
  · intro v' w' h2 h3 _ h5
    refine h v' w' ⟨?_, ?_⟩ ⟨(Below.refl _ _).grown h3 hbase (fun k hk => (hown.lt k hk).1), fun k hk hlt => h3.block k hlt hk, h5⟩
    · rw [flatD_snoc, List.length_append]; exact h2
    · intro e he
      rcases List.mem_append.1 he with he | he
      · exact hown.2 e he
      · rw [List.mem_singleton] at he; subst he; exact hd
theorem wpSeq_buildD {ops : Array Oper} {Q : Exit → Act → World → Prop} {rest : List Oper} {o : Oper} {a : Act} {w : World} (x : Operand) (d : List (BitVec 8)) (hd : d.length = 32) (ho : o.op = .buildSlice 34 1 #[(0, x)]) (hx : a.eval x = .agg (cb d).toArray) (hw : Region.wanted o (yielded ops a.tmps) = true)
    (h : ∀ g w', NewB d w g w' → wpList Tryd.prog ops Q rest (a.put o.dst (.slice (some ⟨g, 0, none⟩) 1 1)) w') : wpList Tryd.prog ops Q (o :: rest) a w :=
  wpSeq_val _ _ hw (buildD _ o x ho d hd hx w) (h _ _ (NewB.of d w))
theorem wpSeq_loadAt {ops : Array Oper} {Q : Exit → Act → World → Prop} {rest : List Oper} {o : Oper} {a : Act} {w : World} (x : Operand) (b of : Nat) (l : List (BitVec 8)) (hl : l.length = 32) (hb : w.rangeAt b of (cb l)) (ho : o.op = .load 33 x) (hx : a.eval x = .pointer (some ⟨b, of, none⟩)) (hw : Region.wanted o (yielded ops a.tmps) = true)
    (h : wpList Tryd.prog ops Q rest (a.put o.dst (.agg (cb l).toArray)) w) : wpList Tryd.prog ops Q (o :: rest) a w :=
  wpSeq_val _ _ hw (load_run 33 x ho b of hx (cb l) _ hb Tryd.underlying33 rfl (by rw [cb_len, hl]; exact info_digest)) h
/-- the two lists that Part has made of the first k -/
structure PpI (ds : List (List (BitVec 8))) (i : Int) (w : World) (k : Nat) (v1 v2 : Value) (W : World) : Prop where
  o1 : OwnD W w.heap.size v1 ((ds.take k).filter fun d => !bitI d i)
  o2 : OwnD W w.heap.size v2 ((ds.take k).filter fun d => bitI d i)
  ne : ∀ j, v1.ownBlock = some j → v2.ownBlock ≠ some j
  bel : Below w.heap.size w W
theorem PpI.next {ds : List (List (BitVec 8))} {i : Int} {w : World} {k : Nat} {v1 v2 : Value} {W W' : World} (h : PpI ds i w k v1 v2 W) (hb : Below W.heap.size W W') : PpI ds i w k v1 v2 W' :=
  ⟨h.o1.keep fun j _ hj => hb.block j hj, h.o2.keep fun j _ hj => hb.block j hj, h.ne, h.bel.trans (hb.mono h.bel.size)⟩
theorem filter_le (ds : List (List (BitVec 8))) (k : Nat) (p : List (BitVec 8) → Bool) : ((ds.take k).filter p).length ≤ ds.length :=
  Nat.le_trans (List.length_filter_le _ _) (by rw [List.length_take]; omega)
theorem take_next {ds : List (List (BitVec 8))} {k : Nat} (hk : k < ds.length) (p : List (BitVec 8) → Bool) : (ds.take (k + 1)).filter p = (ds.take k).filter p ++ (if p (ds.getD k []) then [ds.getD k []] else []) := by
  rw [List.take_add_one, List.getElem?_eq_getElem hk, List.filter_append, List.getD_eq_getElem?_getD, List.getElem?_eq_getElem hk]
  simp only [Option.toList_some, Option.getD_some, List.filter_cons, List.filter_nil]
theorem PpI.on {ds : List (List (BitVec 8))} {i : Int} {w : World} {k : Nat} {v1 v2 v' : Value} {W W' : World} (h : PpI ds i w k v1 v2 W) (hk : k < ds.length) (hb : bitI (ds.getD k []) i = true) (ho : OwnD W' w.heap.size v' (((ds.take k).filter fun d => bitI d i) ++ [ds.getD k []])) (hg : Grow w.heap.size W v2 W' v') : PpI ds i w (k + 1) v1 v' W' := by
  refine ⟨?_, ?_, ?_, h.bel.trans hg.below⟩
  · rw [take_next hk, hb]
    simp only [Bool.not_true, Bool.false_eq_true, if_false, List.append_nil]
    have h1 := h.o1
    refine ⟨?_, h1.2⟩
    have hlt := World.ownsRow.lt h1.1
    rcases h1.1 with ⟨e1, ⟨e2, e3⟩ | ⟨g, cap, cur, e2, hgg, hh, h3⟩⟩
    · exact ⟨e1, Or.inl ⟨e2, e3⟩⟩
    · subst e2
      exact ⟨e1, Or.inr ⟨g, cap, cur, rfl, hgg, by rw [hg.other g (fun e => h.ne g rfl e.symm) (hlt g rfl).2]; exact hh, h3⟩⟩
  · rw [take_next hk, hb]; exact ho
  · intro j hj
    rcases hg.lies with e | e
    · rw [e]; exact h.ne j hj
    · rw [e]; intro e2; cases e2
      exact absurd (h.o1.lt _ hj).2 (Nat.lt_irrefl _)
theorem PpI.off {ds : List (List (BitVec 8))} {i : Int} {w : World} {k : Nat} {v1 v2 v' : Value} {W W' : World} (h : PpI ds i w k v1 v2 W) (hk : k < ds.length) (hb : bitI (ds.getD k []) i = false) (ho : OwnD W' w.heap.size v' (((ds.take k).filter fun d => !bitI d i) ++ [ds.getD k []])) (hg : Grow w.heap.size W v1 W' v') : PpI ds i w (k + 1) v' v2 W' := by
  refine ⟨?_, ?_, ?_, h.bel.trans hg.below⟩
  · rw [take_next hk, hb]; exact ho
  · rw [take_next hk, hb]
    simp only [Bool.false_eq_true, if_false, List.append_nil]
    have h1 := h.o2
    refine ⟨?_, h1.2⟩
    have hlt := World.ownsRow.lt h1.1
    rcases h1.1 with ⟨e1, ⟨e2, e3⟩ | ⟨g, cap, cur, e2, hgg, hh, h3⟩⟩
    · exact ⟨e1, Or.inl ⟨e2, e3⟩⟩
    · subst e2
      exact ⟨e1, Or.inr ⟨g, cap, cur, rfl, hgg, by rw [hg.other g (fun e => h.ne g e.symm rfl) (hlt g rfl).2]; exact hh, h3⟩⟩
  · intro j hj
    rcases hg.lies with e | e
    · rw [e] at hj; exact h.ne j hj
    · rw [e] at hj; cases hj
      intro e2
      exact absurd (h.o2.lt _ e2).2 (Nat.lt_irrefl _)
end Go.Proofs.YtpeifpoeeopecaaDoor
/- Leaves in memory: two slices of digests in a struct; one more behind each; regions that draw their order. -/
namespace Go.Proofs.YtpeifpoeeopecaaDoor
open Go.RowKit
set_option maxRecDepth 100000
theorem wpAnyH_law {P : Program} {md : Region.Mode} {ops : Array Oper} {Q : Exit → Act → World → Prop} {S : World → Prop} {fuel : Nat} {listed : Array Bool} {a : Act} {w : World} (i : Nat) {oi : Oper}
    (hr : Region.ready md ops listed = [i]) (hi : ops[i]? = some oi) (hw : Region.wanted oi (yielded ops a.tmps) = true)
    (h : Oper.wp P oi a w (fun a' w' => S w' ∧ wpAnyH P md ops Q S fuel (listed.setIfInBounds i true) a' w') Q) : wpAnyH P md ops Q S (fuel + 1) listed a w := by
  refine wpAnyH_all hr (by simp) (fun j hj => ?_)
  obtain rfl : j = i := by simpa using hj
  unfold wpOp
  rw [hi]
  simp only [hw, if_true]
  exact Or.inl h
/-- a reading, and what makes memory, in either order -/
theorem wpAnyH_comm {P : Program} {md : Region.Mode} {ops : Array Oper} {Q : Exit → Act → World → Prop} {S : World → Prop} {fuel : Nat} {listed : Array Bool} {a : Act} {w : World} (i j : Nat) {oi oj : Oper} (v u : Value) (w' : World)
    (hr : Region.ready md ops listed = [i, j]) (hi : ops[i]? = some oi) (hj : ops[j]? = some oj)
    (wi : Region.wanted oi (yielded ops a.tmps) = true) (wj : Region.wanted oj (yielded ops a.tmps) = true) (wi2 : Region.wanted oi (yielded ops (a.put oj.dst u).tmps) = true) (wj2 : Region.wanted oj (yielded ops (a.put oi.dst v).tmps) = true)
    (ei : (execOp a.eval oi).run P w = .ok (.value v) w) (ej : (execOp a.eval oj).run P w = .ok (.value u) w') (ei2 : (execOp (a.put oj.dst u).eval oi).run P w' = .ok (.value v) w') (ej2 : (execOp (a.put oi.dst v).eval oj).run P w = .ok (.value u) w')
    (hr1 : Region.ready md ops (listed.setIfInBounds i true) = [j]) (hr2 : Region.ready md ops (listed.setIfInBounds j true) = [i])
    (hp : (a.put oj.dst u).put oi.dst v = (a.put oi.dst v).put oj.dst u) (hl : (listed.setIfInBounds j true).setIfInBounds i true = (listed.setIfInBounds i true).setIfInBounds j true)
    (hS : S w) (hS' : S w') (h : wpAnyH P md ops Q S fuel ((listed.setIfInBounds i true).setIfInBounds j true) ((a.put oi.dst v).put oj.dst u) w') : wpAnyH P md ops Q S (fuel + 2) listed a w := by
  refine wpAnyH_all hr (by simp) (fun k hk => ?_)
  rcases List.mem_cons.1 hk with rfl | hk
  · exact wpOp_vl k v w hi wi ei ⟨hS, wpAnyH_step j u w' hr1 hj wj2 ej2 hS' h⟩
  · obtain rfl : k = j := by simpa using hk
    refine wpOp_vl k u w' hj wj ej ⟨hS', wpAnyH_step i v w' hr2 hi wi2 ei2 hS' ?_⟩
    rw [hl, hp]
    exact h
theorem wp_appendG {o : Oper} {a : Act} {w : World} {K : Act → World → Prop} {Q : Exit → Act → World → Prop} (s x : Operand) (base : Nat) (v : Value) (ds : List (List (BitVec 8))) (d : List (BitVec 8)) (g : Nat)
    (hown : OwnD w base v ds) (hu : Blk w g (cb d) 33) (hd : d.length = 32) (hl : ds.length < 2000000) (hbase : base ≤ w.heap.size)
    (ho : o.op = .call { callee := .builtin .append, args := #[s, x], argTypes := #[34, 34] }) (hs : a.eval s = v) (hx : a.eval x = .slice (some ⟨g, 0, none⟩) 1 1)
    (h : ∀ v' w', OwnD w' base v' (ds ++ [d]) → Grow base w v w' v' → K (a.put o.dst v') w') : o.wp Tryd.prog a w K Q := by
  obtain ⟨i0, hi, hz0, hz1, hz2⟩ := info_parts Tryd.infod3
  obtain ⟨v', w', hr, h2, h3, h4, h5⟩ := run_append_own_at (P := Tryd.prog) w base 34 o.type 33 i0 (.agg (cb zb32).toArray) 32 32 Tryd.underlying34 hi hz0 hz1 hz2 (by show (cb zb32).toArray.size = 32; rw [List.size_toArray, cb_len]; rfl) (by decide) v ds.length (flatD ds) hown.1 ⟨g, 0, none⟩ 1 1 (cb d) (by rw [cb_len, hd]) (by intro j u hj; rw [Addr.add_mid, Nat.zero_add, hu.cell, hj]) (cb_one d) (by unfold maxLen; omega) (by omega) hbase
  unfold Oper.wp execOp
  simp only [ho, resolve, invoke, builtin, Sem.run_bind, Sem.run_pure, Result.andThen_ok, List.map_toArray, List.map_cons, List.map_nil, hs, hx, hr]
  refine h v' w' ⟨?_, ?_⟩ ⟨(Below.refl _ _).grown h3 hbase (fun k hk => (hown.lt k hk).1), fun k hk hlt => h3.block k hlt hk, h5⟩
  · rw [flatD_snoc, List.length_append]; exact h2
  · intro e he
    rcases List.mem_append.1 he with he | he
    · exact hown.2 e he
    · rw [List.mem_singleton] at he; subst he; exact hd
theorem OwnD.grow {w w' : World} {base B : Nat} {v x x' : Value} {ds : List (List (BitVec 8))} (h : OwnD w base v ds) (hg : Grow B w x w' x') (hn : ∀ j, v.ownBlock = some j → x.ownBlock ≠ some j) : OwnD w' base v ds := by
  refine ⟨?_, h.2⟩
  have hlt := World.ownsRow.lt h.1
  rcases h.1 with ⟨e1, ⟨e2, e3⟩ | ⟨g, cap, cur, e2, hgg, hh, h3⟩⟩
  · exact ⟨e1, Or.inl ⟨e2, e3⟩⟩
  · subst e2
    exact ⟨e1, Or.inr ⟨g, cap, cur, rfl, hgg, by rw [hg.other g (fun e => hn g rfl e.symm) (hlt g rfl).2]; exact hh, h3⟩⟩
theorem Blk.grow {w w' : World} {B g : Nat} {x x' : Value} {cs : List Value} {t : TypeId} (h : Blk w g cs t) (hg : Grow B w x w' x') (hn : ∀ j, x.ownBlock = some j → B ≤ j) (hlt : g < B) : Blk w' g cs t := by
  unfold Blk at *
  have hs : g < w.heap.size := Blk.lt (cs := cs) (t := t) h
  rw [hg.other g (fun e => by have := hn g e.symm; omega) hs]
  exact h
/-- leaves that are the call's own, from block b on -/
structure OwnLf (W : World) (b : Nat) (xa xv : Value) (la lv : List (List (BitVec 8))) : Prop where
  a : OwnD W b xa la
  v : OwnD W b xv lv
  ne : ∀ j, xa.ownBlock = some j → xv.ownBlock ≠ some j
theorem OwnLf.keep {W W' : World} {b : Nat} {xa xv : Value} {la lv : List (List (BitVec 8))} (h : OwnLf W b xa xv la lv) (hs : ∀ k, b ≤ k → k < W.heap.size → W'.heap[k]? = W.heap[k]?) : OwnLf W' b xa xv la lv := ⟨h.a.keep hs, h.v.keep hs, h.ne⟩
theorem OwnLf.mono {W : World} {b B : Nat} {xa xv : Value} {la lv : List (List (BitVec 8))} (h : OwnLf W b xa xv la lv) (hB : B ≤ b) : OwnLf W B xa xv la lv := ⟨h.a.mono hB, h.v.mono hB, h.ne⟩
theorem OwnLf.nil (W : World) (b : Nat) : OwnLf W b nilV nilV [] [] := ⟨OwnD.nil _ _, OwnD.nil _ _, fun j hj => by cases hj⟩
/-- the leaves that are made lie in the struct at block go; wG: the world ahead of it -/
structure Lv (wG : World) (go : Nat) (xa xv : Value) (la lv : List (List (BitVec 8))) (W : World) : Prop where
  sz : wG.heap.size = go
  out : Blk W go [xa, xv] 47
  own : OwnLf W (go + 1) xa xv la lv
  bel : Below go wG W
theorem Lv.start (wG : World) : Lv wG wG.heap.size nilV nilV [] [] (wG.alloc (.cells [nilV, nilV].toArray 47)) := ⟨rfl, Blk.new _ _ _, OwnLf.nil _ _, below_alloc _ _⟩
theorem Lv.next {wG W W' : World} {go : Nat} {xa xv : Value} {la lv : List (List (BitVec 8))} (h : Lv wG go xa xv la lv W) (hb : Below W.heap.size W W') : Lv wG go xa xv la lv W' :=
  ⟨h.sz, h.out.below hb h.out.lt, h.own.keep fun k _ hk => hb.block k hk, h.bel.trans (hb.mono (by have := h.out.lt; omega))⟩
theorem Lv.drew {wG W : World} {go : Nat} {xa xv : Value} {la lv : List (List (BitVec 8))} (h : Lv wG go xa xv la lv W) : Lv wG go xa xv la lv W.drew :=
  ⟨h.sz, h.out, h.own.keep fun _ _ _ => rfl, ⟨h.bel.os, h.bel.tape, h.bel.output, h.bel.size, h.bel.block⟩⟩
theorem Lv.put {wG W W' : World} {go i : Nat} {xa xv x' : Value} {la lv : List (List (BitVec 8))} (hsz : wG.heap.size = go) (hb : Below go wG W') (ho : Blk W' go [xa, xv] 47) (hw : OwnLf W' (go + 1) ([xa, xv].set i x')[0]! ([xa, xv].set i x')[1]! la lv) (hi : i = 0 ∨ i = 1) (hW : W = W'.setCell ⟨go, i, none⟩ x') : Lv wG go ([xa, xv].set i x')[0]! ([xa, xv].set i x')[1]! la lv W := by
  subst hW
  have hat : ∀ k, k ≠ go → (W'.setCell ⟨go, i, none⟩ x').heap[k]? = W'.heap[k]? := fun k hk => Below.heap_setCell _ _ _ _ hk
  refine ⟨hsz, ?_, hw.keep fun k h1 _ => hat k (by omega), hb.setCell (Nat.le_refl _) _⟩
  have h2 := ho.set i x'
  rcases hi with rfl | rfl
  · exact h2
  · exact h2
theorem Lv.addA {wG W W' : World} {go : Nat} {xa xv x' : Value} {la lv : List (List (BitVec 8))} {d : List (BitVec 8)} (h : Lv wG go xa xv la lv W) (ho : OwnD W' (go + 1) x' (la ++ [d])) (hg : Grow (go + 1) W xa W' x') : Lv wG go x' xv (la ++ [d]) lv (W'.setCell ⟨go, 0, none⟩ x') :=
  Lv.put (xa := xa) (xv := xv) (i := 0) h.sz (h.bel.trans (hg.below.mono (Nat.le_succ _))) (h.out.grow hg (fun j hj => (h.own.a.lt j hj).1) (Nat.lt_succ_self _))
    ⟨ho, h.own.v.grow hg (fun j hj e => h.own.ne j e hj), fun j hj => by
      rcases hg.lies with e | e
      · exact h.own.ne j (by rw [← e]; exact hj)
      · intro e2
        have h1 := (h.own.v.lt j e2).2
        rw [show ([xa, xv].set 0 x')[0]! = x' from rfl, e] at hj
        cases hj
        omega⟩ (Or.inl rfl) rfl
theorem Lv.addV {wG W W' : World} {go : Nat} {xa xv x' : Value} {la lv : List (List (BitVec 8))} {d : List (BitVec 8)} (h : Lv wG go xa xv la lv W) (ho : OwnD W' (go + 1) x' (lv ++ [d])) (hg : Grow (go + 1) W xv W' x') : Lv wG go xa x' la (lv ++ [d]) (W'.setCell ⟨go, 1, none⟩ x') :=
  Lv.put (xa := xa) (xv := xv) (i := 1) h.sz (h.bel.trans (hg.below.mono (Nat.le_succ _))) (h.out.grow hg (fun j hj => (h.own.v.lt j hj).1) (Nat.lt_succ_self _))
    ⟨h.own.a.grow hg h.own.ne, ho, fun j hj => by
      rw [show ([xa, xv].set 1 x')[1]! = x' from rfl]
      rcases hg.lies with e | e
      · rw [e]; exact h.own.ne j hj
      · rw [e]
        intro e2
        cases e2
        exact absurd (h.own.a.lt _ hj).2 (Nat.lt_irrefl _)⟩ (Or.inr rfl) rfl
/-- leaves that a call reads -/
def ReadsLf (W : World) (va vv : Value) (l : List Lf) : Prop := ReadsD W va (l.map (·.1)) ∧ ReadsD W vv (l.map (·.2))
theorem ReadsLf.below {W W' : World} {va vv : Value} {l : List Lf} (h : ReadsLf W va vv l) (hb : Below W.heap.size W W') : ReadsLf W' va vv l := ⟨h.1.below hb, h.2.below hb⟩
theorem ReadsLf.ok {W : World} {va vv : Value} {l : List Lf} (h : ReadsLf W va vv l) : okLf l := fun _ hp => ⟨h.1.2 _ (List.mem_map_of_mem hp), h.2.2 _ (List.mem_map_of_mem hp)⟩
theorem OwnLf.reads {W : World} {b : Nat} {xa xv : Value} {l : List Lf} (h : OwnLf W b xa xv (l.map (·.1)) (l.map (·.2))) : ReadsLf W xa xv l := ⟨h.a.readsD, h.v.readsD⟩
/-- where one of a slice of digests lies -/
theorem ReadsD.at {W : World} {v : Value} {ds : List (List (BitVec 8))} (h : ReadsD W v ds) (hp : 0 < ds.length) : ∃ b off cp, v = .slice (some ⟨b, off, none⟩) ds.length cp ∧ ∀ j, j < ds.length → W.rangeAt b (off + j * 32) (cb (ds.getD j [])) := by
  obtain ⟨⟨ad, cp, hv, q1, q2, q3⟩, q4⟩ := h
  obtain ⟨b, off, rfl, hy⟩ := q3 hp
  exact ⟨b, off, cp, hv, hy⟩
theorem ReadsD.slice {W : World} {v : Value} {ds : List (List (BitVec 8))} (h : ReadsD W v ds) : ∃ ad cp, v = .slice ad ds.length cp := by
  obtain ⟨⟨ad, cp, hv, _⟩, _⟩ := h
  exact ⟨ad, cp, hv⟩
end Go.Proofs.YtpeifpoeeopecaaDoor
/- The walk of the reference's half. -/
namespace Go.Proofs.YtpeifpoeeopecaaDoor
open Go.RowKit
set_option maxRecDepth 100000
theorem wpAnyH_skip {P : Program} {md : Region.Mode} {ops : Array Oper} {Q : Exit → Act → World → Prop} {S : World → Prop} {fuel : Nat} {listed : Array Bool} {a : Act} {w : World} (i : Nat) {oi : Oper} (w' : World)
    (hr : Region.ready md ops listed = [i]) (hi : ops[i]? = some oi) (hw : Region.wanted oi (yielded ops a.tmps) = true) (he : (execOp a.eval oi).run P w = .ok .skip w') (hS : S w')
    (h : wpAnyH P md ops Q S fuel (listed.setIfInBounds i true) (a.put oi.dst undef) w') : wpAnyH P md ops Q S (fuel + 1) listed a w := by
  refine wpAnyH_law i hr hi hw ?_
  unfold Oper.wp
  rw [he]
  exact ⟨hS, h⟩
theorem take_map {l : List Lf} {k : Nat} (hk : k < l.length) : l.take (k + 1) = l.take k ++ [(l.getD k ([], []))] := by
  rw [List.take_add_one, List.getElem?_eq_getElem hk, List.getD_eq_getElem?_getD, List.getElem?_eq_getElem hk]
  rfl
theorem map_getD1 {l : List Lf} {k : Nat} (hk : k < l.length) : (l.map (·.1)).getD k [] = (l.getD k ([], [])).1 := by
  simp [List.getD_eq_getElem?_getD, List.getElem?_map, List.getElem?_eq_getElem hk]
theorem map_getD2 {l : List Lf} {k : Nat} (hk : k < l.length) : (l.map (·.2)).getD k [] = (l.getD k ([], [])).2 := by
  simp [List.getD_eq_getElem?_getD, List.getElem?_map, List.getElem?_eq_getElem hk]
theorem getD_mem {l : List Lf} {k : Nat} (hk : k < l.length) : l.getD k ([], []) ∈ l := by
  rw [List.getD_eq_getElem?_getD, List.getElem?_eq_getElem hk]
  exact List.getElem_mem hk
set_option maxRecDepth 100000 in
set_option maxHeartbeats 4000000 in
theorem lfHalf_any (va vv : Value) (l : List Lf) (i : Int) (on : Bool) (w : World) (hR : ReadsLf w va vv l) (hl : l.length < 2000000) :
    Calls Tryd.prog 40 #[.agg #[va, vv], .int .i64 i, .bool on] w fun e w' => ∃ xa xv, e = .returned (.agg #[xa, xv]) ∧ OwnLf w' w.heap.size xa xv ((l.filter fun p => bitI p.1 i == on).map (·.1)) ((l.filter fun p => bitI p.1 i == on).map (·.2)) ∧ Below w.heap.size w w' := by
  have HR : Hid (ReadsLf w va vv l) := hR
  have HL : Hid (l.length < 2000000) := hl
  obtain ⟨n, HN⟩ : ∃ n, Hid (n = l.length) := ⟨_, rfl⟩
  obtain ⟨ada, cpa, hva⟩ := hR.1.slice
  obtain ⟨adv, cpv, hvv⟩ := hR.2.slice
  rw [List.length_map, ← HN.out] at hva hvv
  subst hva hvv
  clear hR hl
  obtain ⟨gl, HGL⟩ : ∃ g, Hid (g = w.heap.size) := ⟨_, rfl⟩
  obtain ⟨wG, HWG⟩ : ∃ z, Hid (z = (w.alloc (.cells [Value.slice ada n cpa, .slice adv n cpv].toArray 47)).alloc (.cells [nilV, nilV].toArray 47)) := ⟨_, rfl⟩
  have HLB : Hid (Blk wG gl [Value.slice ada n cpa, .slice adv n cpv] 47) := by rw [HWG.out, HGL.out]; exact (Blk.new w _ _).below (below_alloc _ _) (by simp)
  have HRB : Hid (Blk wG (gl + 1) [nilV, nilV] 47) := by rw [HWG.out, HGL.out]; exact Blk.new_at (by simp) _ _
  have HBW : Hid (Below w.heap.size w wG) := by rw [HWG.out]; exact (below_alloc w _).trans ((below_alloc _ _).mono (by simp))
  obtain ⟨go, HGO⟩ : ∃ g, Hid (g = wG.heap.size) := ⟨_, rfl⟩
  have HSZ : Hid (go = gl + 2) := by show _ = _; rw [HGO.out, HWG.out, HGL.out]; simp
  have HCA : Hid (∀ wx, Below go wG wx → wx.cell? ⟨gl, 0, none⟩ = some (.slice ada n cpa)) := fun wx hx => (HLB.out.below hx (by have := HSZ.out; omega)).cell 0
  have HCV : Hid (∀ wx, Below go wG wx → wx.cell? ⟨gl, 1, none⟩ = some (.slice adv n cpv)) := fun wx hx => (HLB.out.below hx (by have := HSZ.out; omega)).cell 1
  have HI : Hid (Lv wG go nilV nilV [] [] (wG.alloc (.cells [nilV, nilV].toArray 47))) := by rw [HGO.out]; exact Lv.start wG
  go_enter Tryd.func40, Tryd.ntmps40
  go_wp2
  have e0 : (some ⟨w.heap.size, 0, none⟩ : Option Addr) = some ⟨gl, 0, none⟩ := by rw [HGL.out]
  have e1 : (some ⟨w.heap.size + 1, 0, none⟩ : Option Addr) = some ⟨gl + 1, 0, none⟩ := by rw [HGL.out]
  have e2 : (some ⟨w.heap.size + 1 + 1, 0, none⟩ : Option Addr) = some ⟨go, 0, none⟩ := by rw [HSZ.out, HGL.out]
  simp only [e0, e1, e2]
  clear e0 e1 e2
  change Code.wp _ _ _ _ (((w.alloc (.cells [Value.slice ada n cpa, .slice adv n cpv].toArray 47)).alloc (.cells [nilV, nilV].toArray 47)).alloc (.cells [nilV, nilV].toArray 47))
  rw [← HWG.out]
  generalize wG.alloc (.cells [nilV, nilV].toArray 47) = w0 at *
  clear HWG HGO
  go_loopw [8] (fun j wr => ∃ (k : Nat) (xa xv : Value), k ≤ n ∧ j = .int .i64 (k : Int) ∧ Lv wG go xa xv (((l.take k).filter fun p => bitI p.1 i == on).map (·.1)) (((l.take k).filter fun p => bitI p.1 i == on).map (·.2)) wr) (fun j _ => n - (intOf j).toNat)
  case atStart => exact ⟨0, nilV, nilV, by omega, rfl, by simpa using HI.out⟩
  case round =>
    clear HI
    obtain ⟨k, xa, xv, hk, rfl, hI⟩ := hrel
    have HI : Hid (Lv wG go xa xv (((l.take k).filter fun p => bitI p.1 i == on).map (·.1)) (((l.take k).filter fun p => bitI p.1 i == on).map (·.2)) wr) := hI
    clear hI
    have ca : wr.cell? ⟨gl, 0, none⟩ = some (.slice ada n cpa) := HCA.out wr HI.out.bel
    by_cases hlt : k < n
    · have hlti : (k : Int) < (n : Int) := by omega
      have k0 : (0 : Int) ≤ (k : Int) := by omega
      have hn6 : n < 2000000 := by rw [HN.out]; exact HL.out
      have f5 : IntKind.i64.wrap ((k : Int) + 1) = (k : Int) + 1 := wrap_small2 _ (by omega) (by omega)
      have HKL : Hid (k < l.length) := by show _ < _; rw [← HN.out]; exact hlt
      obtain ⟨ba, offa, cpa', hva, hya⟩ := HR.out.1.at (by rw [List.length_map]; have := HKL.out; omega)
      obtain ⟨bv, offv, cpv', hvv, hyv⟩ := HR.out.2.at (by rw [List.length_map]; have := HKL.out; omega)
      rw [List.length_map, ← HN.out] at hva hvv hya hyv
      simp only [Value.slice.injEq, true_and] at hva hvv
      obtain ⟨rfl, rfl⟩ := hva
      obtain ⟨rfl, rfl⟩ := hvv
      obtain ⟨da, HDA⟩ : ∃ d, Hid (d = (l.getD k ([], [])).1) := ⟨_, rfl⟩
      obtain ⟨dv, HDV⟩ : ∃ d, Hid (d = (l.getD k ([], [])).2) := ⟨_, rfl⟩
      have HA32 : Hid (da.length = 32) := by show _ = _; rw [HDA.out]; exact (HR.out.ok _ (getD_mem HKL.out)).1
      have HV32 : Hid (dv.length = 32) := by show _ = _; rw [HDV.out]; exact (HR.out.ok _ (getD_mem HKL.out)).2
      have HRA : Hid (∀ wx, Below go wG wx → wx.rangeAt ba (offa + k * 32) (cb da)) := fun wx hx => by
        have h := hya k hlt
        rw [map_getD1 HKL.out, ← HDA.out] at h
        have hb := rangeAt_lt h HA32.out
        exact rangeAt_below (rangeAt_below h HBW.out hb) hx (by have h1 := HSZ.out; have h2 := HGL.out; omega)
      have HRV : Hid (∀ wx, Below go wG wx → wx.rangeAt bv (offv + k * 32) (cb dv)) := fun wx hx => by
        have h := hyv k hlt
        rw [map_getD2 HKL.out, ← HDV.out] at h
        have hb := rangeAt_lt h HV32.out
        exact rangeAt_below (rangeAt_below h HBW.out hb) hx (by have h1 := HSZ.out; have h2 := HGL.out; omega)
      clear hya hyv
      obtain ⟨p, HP⟩ : ∃ p, Hid (bitI da i = p) := ⟨_, rfl⟩
      have HFL : Hid ((((l.take k).filter fun p => bitI p.1 i == on)).length < 2000000) := Nat.lt_of_le_of_lt (Nat.le_trans (List.length_filter_le _ _) (by rw [List.length_take]; omega)) HL.out
      have HTK : Hid (((l.take (k + 1)).filter fun p => bitI p.1 i == on) = ((l.take k).filter fun p => bitI p.1 i == on) ++ if p == on then [(da, dv)] else []) := by
        show _ = _
        rw [take_map HKL.out, List.filter_append, List.filter_cons, List.filter_nil, ← HDA.out, HP.out, HDA.out, HDV.out]
      have HRW : Hid (wr.rangeAt ba (offa + k * 32) (cb da)) := HRA.out wr HI.out.bel
      by_cases hpo : p = on
      · subst hpo
        go_wp2_with (first
          | (with_reducible refine wpSeq_loadAt (.tmp 20) ba (offa + k * 32) da ?_ ?_ ?_ ?_ ?_ ?_
             · exact HA32.out
             · exact HRW.out
             · with_reducible rfl
             · rfl
             · rfl)
          | (go_at_call 41; refine (sBit_any da HA32.out _ _).mono ?_; rintro e w7 ⟨rfl, hb7⟩; rw [HP.out]
             replace HI := HI.out.next hb7
             clear hb7 ca HRW))
        replace HI : Hid (Lv wG go xa xv (((l.take k).filter fun q => bitI q.1 i == p).map (·.1)) (((l.take k).filter fun q => bitI q.1 i == p).map (·.2)) w7) := HI
        refine wp_region_held_drew (S := Below go wG) (by kernel_rfl) HI.out.drew.bel ?_
        intro hS
        have hI := HI.out.drew
        clear HI
        change wpAnyH _ _ _ _ _ _ _ _ (World.drew w7)
        generalize World.drew w7 = yA at *
        refine wpAnyH_take (i := 0) (v := .pointer (some ⟨go, 0, none⟩)) rfl (by kernel_rfl) (by kernel_rfl) (by kernel_rfl) (fun _ _ _ h => h) (Or.inl ⟨by rfl, fun wx hx => by simp [go_sem]⟩) hS ?_
        simp only [Act.put, List.getElem_toArray, List.getElem_cons_zero, List.setIfInBounds_toArray, List.set_cons_zero, List.set_cons_succ]
        refine wpAnyH_take (i := 2) (v := .pointer (some ⟨gl, 0, none⟩)) rfl (by kernel_rfl) (by kernel_rfl) (by kernel_rfl) (fun _ _ _ h => h) (Or.inl ⟨by rfl, fun wx hx => by simp [go_sem]⟩) hS ?_
        simp only [Act.put, List.getElem_toArray, List.getElem_cons_succ, List.getElem_cons_zero, List.setIfInBounds_toArray, List.set_cons_zero, List.set_cons_succ]
        refine wpAnyH_take (i := 4) (v := .int .i64 (k : Int)) rfl (by kernel_rfl) (by kernel_rfl) (by kernel_rfl) (fun _ _ _ h => h) (Or.inl ⟨by rfl, fun wx hx => by simp [go_sem]⟩) hS ?_
        simp only [Act.put, List.getElem_toArray, List.getElem_cons_succ, List.getElem_cons_zero, List.setIfInBounds_toArray, List.set_cons_zero, List.set_cons_succ]
        refine wpAnyH_take (i := 3) (v := .slice (some ⟨ba, offa, none⟩) n cpa) rfl (by kernel_rfl) (by kernel_rfl) (by kernel_rfl) (fun _ _ _ h => h) (Or.inl ⟨by rfl, fun wx hx => by (have hc := HCA.out wx hx; simp [go_sem, hc])⟩) hS ?_
        simp only [Act.put, List.getElem_toArray, List.getElem_cons_succ, List.getElem_cons_zero, List.setIfInBounds_toArray, List.set_cons_zero, List.set_cons_succ]
        refine wpAnyH_take (i := 5) (v := .pointer (some ⟨ba, offa + k * 32, none⟩)) rfl (by kernel_rfl) (by kernel_rfl) (by kernel_rfl) (fun _ _ _ h => h) (Or.inl ⟨by rfl, fun wx hx => by (simp [go_sem, hlti, k0])⟩) hS ?_
        simp only [Act.put, List.getElem_toArray, List.getElem_cons_succ, List.getElem_cons_zero, List.setIfInBounds_toArray, List.set_cons_zero, List.set_cons_succ]
        refine wpAnyH_take (i := 6) (v := .agg (cb da).toArray) rfl (by kernel_rfl) (by kernel_rfl) (by kernel_rfl) (fun _ _ _ h => h) (Or.inl ⟨by rfl, fun wx hx => by exact load_run 33 _ rfl _ _ rfl (cb da) _ (HRA.out wx hx) Tryd.underlying33 rfl (by rw [cb_len, HA32.out]; exact info_digest)⟩) hS ?_
        simp only [Act.put, List.getElem_toArray, List.getElem_cons_succ, List.getElem_cons_zero, List.setIfInBounds_toArray, List.set_cons_zero, List.set_cons_succ]
        have hnb := NewB.of da yA
        have hn1 := hI.next hnb.below
        obtain ⟨aA, cA, hxA⟩ := hI.own.a.slice
        obtain ⟨nA, HNA⟩ : ∃ z : Nat, Hid (z = (((l.take k).filter fun q => bitI q.1 i == p).map (·.1)).length) := ⟨_, rfl⟩
        rw [← HNA.out] at hxA
        have hce : yA.cell? ⟨go, 0, none⟩ = some xa := hI.out.cell 0
        have hce2 : (yA.alloc (.cells (cb da).toArray 33)).cell? ⟨go, 0, none⟩ = some xa := hn1.out.cell 0
        subst hxA
        refine wpAnyH_comm 1 7 (.slice aA nA cA) (.slice (some ⟨yA.heap.size, 0, none⟩) 1 1) (yA.alloc (.cells (cb da).toArray 33)) (by kernel_rfl) rfl rfl (by rfl) (by rfl) (by rfl) (by rfl) (by simp [go_sem, hce]) (buildD _ _ _ rfl da HA32.out rfl _) (by simp [go_sem, hce2]) (buildD _ _ _ rfl da HA32.out rfl _) (by kernel_rfl) (by kernel_rfl) (by rfl) (by rfl) hS hn1.bel ?_
        simp only [Act.put, List.getElem_toArray, List.getElem_cons_succ, List.getElem_cons_zero, List.setIfInBounds_toArray, List.set_cons_zero, List.set_cons_succ]
        have hI2 := hn1
        have HU : Hid (Blk (yA.alloc (.cells (cb da).toArray 33)) yA.heap.size (cb da) 33) := hnb.blk
        clear hn1 hnb hce hce2 hS hI
        refine wpAnyH_law 8 (by kernel_rfl) rfl (by rfl) (wp_appendG (.tmp 27) (.tmp 33) (go + 1) (.slice aA nA cA) _ da yA.heap.size hI2.own.a HU.out HA32.out (by rw [List.length_map]; exact HFL.out) hI2.out.lt rfl rfl rfl ?_)
        intro zA qA hoA hgA
        have hI := hI2.addA hoA hgA
        have hsq : Below go wG qA := hI2.bel.trans (hgA.below.mono (Nat.le_succ _))
        have hbq := hI2.out.grow hgA (fun j hj => (hI2.own.a.lt j hj).1) (Nat.lt_succ_self _)
        have hcq := hbq.cell 0
        have hfq := hbq.frozen 0
        obtain ⟨aA2, cA2, hxA⟩ := hoA.slice
        obtain ⟨nA2, HNA2⟩ : ∃ z : Nat, Hid (z = (((l.take k).filter fun q => bitI q.1 i == p).map (·.1) ++ [da]).length) := ⟨_, rfl⟩
        rw [← HNA2.out] at hxA
        subst hxA
        refine ⟨hsq, ?_⟩
        simp only [Act.put, List.getElem_toArray, List.getElem_cons_succ, List.getElem_cons_zero, List.setIfInBounds_toArray, List.set_cons_zero, List.set_cons_succ]
        refine wpAnyH_take (i := 9) (v := .pointer (some ⟨go, 0, none⟩)) rfl (by kernel_rfl) (by kernel_rfl) (by kernel_rfl) (fun _ _ _ h => h) (Or.inl ⟨by rfl, fun wx hx => by simp [go_sem]⟩) hsq ?_
        simp only [Act.put, List.getElem_toArray, List.getElem_cons_succ, List.getElem_cons_zero, List.setIfInBounds_toArray, List.set_cons_zero, List.set_cons_succ]
        refine wpAnyH_skip 10 (qA.setCell ⟨go, 0, none⟩ (.slice aA2 nA2 cA2)) (by kernel_rfl) rfl (by rfl) (by simp [go_sem, hcq, hfq]) hI.bel ?_
        simp only [Act.put, List.getElem_toArray, List.getElem_cons_succ, List.getElem_cons_zero]
        refine wpAnyH_done (by kernel_rfl) ?_ _
        clear hoA hgA hsq hbq hcq hfq hI2 HU
        generalize qA.setCell ⟨go, 0, none⟩ (.slice aA2 nA2 cA2) = WA at *
        have HI : Hid (Lv wG go (.slice aA2 nA2 cA2) xv (((l.take k).filter fun q => bitI q.1 i == p).map (·.1) ++ [da]) (((l.take k).filter fun q => bitI q.1 i == p).map (·.2)) WA) := hI
        clear hI HRA HCA
        generalize Value.slice aA2 nA2 cA2 = xa2 at *
        go_wp2_with fail
        refine wp_region_held_drew (S := Below go wG) (by kernel_rfl) HI.out.drew.bel ?_
        intro hS
        have hI := HI.out.drew
        clear HI
        change wpAnyH _ _ _ _ _ _ _ _ (World.drew WA)
        generalize World.drew WA = yV at *
        refine wpAnyH_take (i := 0) (v := .pointer (some ⟨go, 1, none⟩)) rfl (by kernel_rfl) (by kernel_rfl) (by kernel_rfl) (fun _ _ _ h => h) (Or.inl ⟨by rfl, fun wx hx => by simp [go_sem]⟩) hS ?_
        simp only [Act.put, List.getElem_toArray, List.getElem_cons_zero, List.setIfInBounds_toArray, List.set_cons_zero, List.set_cons_succ]
        refine wpAnyH_take (i := 2) (v := .pointer (some ⟨gl, 1, none⟩)) rfl (by kernel_rfl) (by kernel_rfl) (by kernel_rfl) (fun _ _ _ h => h) (Or.inl ⟨by rfl, fun wx hx => by simp [go_sem]⟩) hS ?_
        simp only [Act.put, List.getElem_toArray, List.getElem_cons_succ, List.getElem_cons_zero, List.setIfInBounds_toArray, List.set_cons_zero, List.set_cons_succ]
        refine wpAnyH_take (i := 4) (v := .int .i64 (k : Int)) rfl (by kernel_rfl) (by kernel_rfl) (by kernel_rfl) (fun _ _ _ h => h) (Or.inl ⟨by rfl, fun wx hx => by simp [go_sem]⟩) hS ?_
        simp only [Act.put, List.getElem_toArray, List.getElem_cons_succ, List.getElem_cons_zero, List.setIfInBounds_toArray, List.set_cons_zero, List.set_cons_succ]
        refine wpAnyH_take (i := 3) (v := .slice (some ⟨bv, offv, none⟩) n cpv) rfl (by kernel_rfl) (by kernel_rfl) (by kernel_rfl) (fun _ _ _ h => h) (Or.inl ⟨by rfl, fun wx hx => by (have hc := HCV.out wx hx; simp [go_sem, hc])⟩) hS ?_
        simp only [Act.put, List.getElem_toArray, List.getElem_cons_succ, List.getElem_cons_zero, List.setIfInBounds_toArray, List.set_cons_zero, List.set_cons_succ]
        refine wpAnyH_take (i := 5) (v := .pointer (some ⟨bv, offv + k * 32, none⟩)) rfl (by kernel_rfl) (by kernel_rfl) (by kernel_rfl) (fun _ _ _ h => h) (Or.inl ⟨by rfl, fun wx hx => by (simp [go_sem, hlti, k0])⟩) hS ?_
        simp only [Act.put, List.getElem_toArray, List.getElem_cons_succ, List.getElem_cons_zero, List.setIfInBounds_toArray, List.set_cons_zero, List.set_cons_succ]
        refine wpAnyH_take (i := 6) (v := .agg (cb dv).toArray) rfl (by kernel_rfl) (by kernel_rfl) (by kernel_rfl) (fun _ _ _ h => h) (Or.inl ⟨by rfl, fun wx hx => by exact load_run 33 _ rfl _ _ rfl (cb dv) _ (HRV.out wx hx) Tryd.underlying33 rfl (by rw [cb_len, HV32.out]; exact info_digest)⟩) hS ?_
        simp only [Act.put, List.getElem_toArray, List.getElem_cons_succ, List.getElem_cons_zero, List.setIfInBounds_toArray, List.set_cons_zero, List.set_cons_succ]
        have hnb := NewB.of dv yV
        have hn1 := hI.next hnb.below
        obtain ⟨aV, cV, hxV⟩ := hI.own.v.slice
        obtain ⟨nV, HNV⟩ : ∃ z : Nat, Hid (z = (((l.take k).filter fun q => bitI q.1 i == p).map (·.2)).length) := ⟨_, rfl⟩
        rw [← HNV.out] at hxV
        have hce : yV.cell? ⟨go, 1, none⟩ = some xv := hI.out.cell 1
        have hce2 : (yV.alloc (.cells (cb dv).toArray 33)).cell? ⟨go, 1, none⟩ = some xv := hn1.out.cell 1
        subst hxV
        refine wpAnyH_comm 1 7 (.slice aV nV cV) (.slice (some ⟨yV.heap.size, 0, none⟩) 1 1) (yV.alloc (.cells (cb dv).toArray 33)) (by kernel_rfl) rfl rfl (by rfl) (by rfl) (by rfl) (by rfl) (by simp [go_sem, hce]) (buildD _ _ _ rfl dv HV32.out rfl _) (by simp [go_sem, hce2]) (buildD _ _ _ rfl dv HV32.out rfl _) (by kernel_rfl) (by kernel_rfl) (by rfl) (by rfl) hS hn1.bel ?_
        simp only [Act.put, List.getElem_toArray, List.getElem_cons_succ, List.getElem_cons_zero, List.setIfInBounds_toArray, List.set_cons_zero, List.set_cons_succ]
        have hI2 := hn1
        have HU : Hid (Blk (yV.alloc (.cells (cb dv).toArray 33)) yV.heap.size (cb dv) 33) := hnb.blk
        clear hn1 hnb hce hce2 hS hI
        refine wpAnyH_law 8 (by kernel_rfl) rfl (by rfl) (wp_appendG (.tmp 37) (.tmp 43) (go + 1) (.slice aV nV cV) _ dv yV.heap.size hI2.own.v HU.out HV32.out (by rw [List.length_map]; exact HFL.out) hI2.out.lt rfl rfl rfl ?_)
        intro zV qV hoV hgV
        have hI := hI2.addV hoV hgV
        have hsq : Below go wG qV := hI2.bel.trans (hgV.below.mono (Nat.le_succ _))
        have hbq := hI2.out.grow hgV (fun j hj => (hI2.own.v.lt j hj).1) (Nat.lt_succ_self _)
        have hcq := hbq.cell 1
        have hfq := hbq.frozen 1
        obtain ⟨aV2, cV2, hxV⟩ := hoV.slice
        obtain ⟨nV2, HNV2⟩ : ∃ z : Nat, Hid (z = (((l.take k).filter fun q => bitI q.1 i == p).map (·.2) ++ [dv]).length) := ⟨_, rfl⟩
        rw [← HNV2.out] at hxV
        subst hxV
        refine ⟨hsq, ?_⟩
        simp only [Act.put, List.getElem_toArray, List.getElem_cons_succ, List.getElem_cons_zero, List.setIfInBounds_toArray, List.set_cons_zero, List.set_cons_succ]
        refine wpAnyH_take (i := 9) (v := .pointer (some ⟨go, 1, none⟩)) rfl (by kernel_rfl) (by kernel_rfl) (by kernel_rfl) (fun _ _ _ h => h) (Or.inl ⟨by rfl, fun wx hx => by simp [go_sem]⟩) hsq ?_
        simp only [Act.put, List.getElem_toArray, List.getElem_cons_succ, List.getElem_cons_zero, List.setIfInBounds_toArray, List.set_cons_zero, List.set_cons_succ]
        refine wpAnyH_skip 10 (qV.setCell ⟨go, 1, none⟩ (.slice aV2 nV2 cV2)) (by kernel_rfl) rfl (by rfl) (by simp [go_sem, hcq, hfq]) hI.bel ?_
        simp only [Act.put, List.getElem_toArray, List.getElem_cons_succ, List.getElem_cons_zero]
        refine wpAnyH_done (by kernel_rfl) ?_ _
        clear hoV hgV hsq hbq hcq hfq hI2 HU
        generalize qV.setCell ⟨go, 1, none⟩ (.slice aV2 nV2 cV2) = WV at *
        have HJ : Hid (Lv wG go xa2 (.slice aV2 nV2 cV2) (((l.take (k + 1)).filter fun q => bitI q.1 i == p).map (·.1)) (((l.take (k + 1)).filter fun q => bitI q.1 i == p).map (·.2)) WV) := by
          show Lv _ _ _ _ _ _ _
          rw [HTK.out]
          simpa using hI
        clear hI
        go_wp2
        go_roundw
        case rel => exact ⟨k + 1, _, _, by omega, by simp, HJ.out⟩
        case measure => simp [intOf]; omega
      · have hpo2 : (p == on) = false := by simpa using hpo
        have HPO : Hid ((p == on) = false) := hpo2
        go_wp2_with (first
          | (with_reducible refine wpSeq_loadAt (.tmp 20) ba (offa + k * 32) da ?_ ?_ ?_ ?_ ?_ ?_
             · exact HA32.out
             · exact HRW.out
             · with_reducible rfl
             · rfl
             · rfl)
          | (go_at_call 41; refine (sBit_any da HA32.out _ _).mono ?_; rintro e w7 ⟨rfl, hb7⟩; rw [HP.out]
             have HJ : Hid (Lv wG go xa xv (((l.take k).filter fun p => bitI p.1 i == on).map (·.1)) (((l.take k).filter fun p => bitI p.1 i == on).map (·.2)) w7) := HI.out.next hb7
             clear hb7 ca HRW HI))
        have HJ2 : Hid (Lv wG go xa xv (((l.take (k + 1)).filter fun p => bitI p.1 i == on).map (·.1)) (((l.take (k + 1)).filter fun p => bitI p.1 i == on).map (·.2)) w7) := by
          show Lv _ _ _ _ _ _ _
          rw [HTK.out, HPO.out]
          simpa using HJ.out
        go_roundw
        case rel => exact ⟨k + 1, _, _, by omega, by simp, HJ2.out⟩
        case measure => simp [intOf]; omega
    · have hkn : k = n := by omega
      subst hkn
      have ht : l.take k = l := by rw [HN.out]; exact List.take_length
      have hI2 := HI.out
      rw [ht] at hI2
      obtain ⟨adx, cpx, hxa⟩ := hI2.own.a.slice
      obtain ⟨adw, cpw, hxv⟩ := hI2.own.v.slice
      obtain ⟨nx, HNX⟩ : ∃ z : Nat, Hid (z = ((l.filter fun p => bitI p.1 i == on).map (·.1)).length) := ⟨_, rfl⟩
      obtain ⟨nw, HNW⟩ : ∃ z : Nat, Hid (z = ((l.filter fun p => bitI p.1 i == on).map (·.2)).length) := ⟨_, rfl⟩
      rw [← HNX.out] at hxa
      rw [← HNW.out] at hxv
      subst hxa hxv
      have HE : Hid (Lv wG go (.slice adx nx cpx) (.slice adw nw cpw) ((l.filter fun p => bitI p.1 i == on).map (·.1)) ((l.filter fun p => bitI p.1 i == on).map (·.2)) wr) := hI2
      have d0 : wr.cell? ⟨go, 0, none⟩ = some (.slice adx nx cpx) := hI2.out.cell 0
      have d1 : wr.cell? ⟨go, 1, none⟩ = some (.slice adw nw cpw) := hI2.out.cell 1
      have hr := HRB.out.below hI2.bel (by have := HSZ.out; omega)
      have r0 : wr.cell? ⟨gl + 1, 0, none⟩ = some (.slice none 0 0) := hr.cell 0
      have r1 : wr.cell? ⟨gl + 1, 1, none⟩ = some (.slice none 0 0) := hr.cell 1
      have q0 : wr.frozen? ⟨gl + 1, 0, none⟩ = false := hr.frozen 0
      have q1 : wr.frozen? ⟨gl + 1, 1, none⟩ = false := hr.frozen 1
      have HRR : Hid (Blk wr (gl + 1) [nilV, nilV] 47) := hr
      clear ht hI2 hr HI
      go_wp2
      have hB6 : Blk ((wr.setCell ⟨gl + 1, 0, none⟩ (.slice adx nx cpx)).setCell ⟨gl + 1, 1, none⟩ (.slice adw nw cpw)) (gl + 1) [.slice adx nx cpx, .slice adw nw cpw] 47 := (HRR.out.set 0 _).set 1 _
      refine bodyPost_ret (v := .agg [.slice adx nx cpx, .slice adw nw cpw].toArray) (results_cell_row (by rfl) _ _ (gl + 1) 47 _ (0, 0) _ rfl hB6 Tryd.underlying47 rfl (by kernel_rfl)) rfl ⟨_, _, rfl, ?_, ?_⟩
      · refine (HE.out.own.keep fun j h1 _ => ?_).mono (by have h1 := HSZ.out; have h2 := HGL.out; omega)
        rw [Below.heap_setCell _ _ _ _ (by show j ≠ gl + 1; have := HSZ.out; omega), Below.heap_setCell _ _ _ _ (by show j ≠ gl + 1; have := HSZ.out; omega)]
      · exact ((HBW.out.trans (HE.out.bel.mono (by have h1 := HSZ.out; have h2 := HGL.out; omega))).setCell (by show w.heap.size ≤ gl + 1; have := HGL.out; omega) _).setCell (by show w.heap.size ≤ gl + 1; have := HGL.out; omega) _
end Go.Proofs.YtpeifpoeeopecaaDoor
/- The walks of the reference's digests: of no leaf, of one, of two trees. -/
namespace Go.Proofs.YtpeifpoeeopecaaDoor
open Go.RowKit
set_option maxRecDepth 100000
set_option maxRecDepth 100000 in
set_option maxHeartbeats 2000000 in
theorem hEmpty_any (w : World) : Calls Tryd.prog 38 #[] w fun e w' => e = .returned (.agg (cb (dig [69])).toArray) ∧ Below w.heap.size w w' := by
  obtain ⟨r, HRD⟩ : ∃ r, Hid (r = dig [69]) := ⟨_, rfl⟩
  have HRL : Hid (r.length = 32) := by show _ = _; rw [HRD.out]; exact len_dig' _
  have HBW : Hid (Below w.heap.size w w) := Below.refl _ _
  go_enter Tryd.func38, Tryd.ntmps38
  go_wp2_with (first
    | (with_reducible refine wpSeq_allocD ?_ ?_ ?_
       · rfl
       · rfl
       intro gr wa nn
       have HGR : Hid (w.heap.size ≤ gr) := Nat.le_trans HBW.out.size nn.ge
       have HB : Hid (Blk wa gr (cb zb32) 33) := nn.blk
       replace HBW : Hid (Below w.heap.size w wa) := HBW.out.trans (nn.below.mono HBW.out.size)
       clear nn)
    | (go_at_call 54; refine (rEmpty_any _).mono ?_; rintro e wb ⟨v4, rfl, hr4, hb4⟩
       replace HB : Hid (Blk wb gr (cb zb32) 33) := HB.out.below hb4 HB.out.lt
       replace HBW : Hid (Below w.heap.size w wb) := HBW.out.trans (hb4.mono HBW.out.size)
       have HR4 : Hid (Reads wb v4 [69]) := hr4
       clear hr4 hb4)
    | (go_at_call 32; refine (rOf_any v4 _ _ HR4.out (by decide)).mono ?_; rintro e wc ⟨rfl, hb4⟩; rw [← HRD.out]
       replace HB : Hid (Blk wc gr (cb zb32) 33) := HB.out.below hb4 HB.out.lt
       replace HBW : Hid (Below w.heap.size w wc) := HBW.out.trans (hb4.mono HBW.out.size)
       clear hb4 HR4)
    | (with_reducible refine wpSeq_storeD (.tmp 0) (.tmp 2) gr zb32 r ?_ ?_ ?_ ?_ ?_ ?_ ?_ ?_
       · rfl
       · exact HRL.out
       · exact HB.out
       · rfl
       · rfl
       · rfl
       · rfl
       intro W9 h9))
  exact bodyPost_ret (v := .agg (cb r).toArray) (results_cell_row (by rfl) _ _ gr 33 _ (0, 0) _ rfl h9.blk Tryd.underlying33 rfl (by rw [List.size_toArray, cb_len, HRL.out]; exact info_digest)) rfl ⟨by rw [HRD.out], HBW.out.trans (h9.only.below HGR.out HBW.out.size)⟩
set_option maxRecDepth 100000 in
set_option maxHeartbeats 2000000 in
theorem hLeaf_any (x y : List (BitVec 8)) (hx : x.length = 32) (hy : y.length = 32) (w : World) : Calls Tryd.prog 33 #[.agg (cb x).toArray, .agg (cb y).toArray] w fun e w' => e = .returned (.agg (cb (dig (pairB 76 x y))).toArray) ∧ Below w.heap.size w w' := by
  obtain ⟨r, HRD⟩ : ∃ r, Hid (r = dig (pairB 76 x y)) := ⟨_, rfl⟩
  have HRL : Hid (r.length = 32) := by show _ = _; rw [HRD.out]; exact len_dig' _
  have HN0 : Hid (x.length = 32) := hx
  have HN1 : Hid (y.length = 32) := hy
  clear hx hy
  have HBW : Hid (Below w.heap.size w w) := Below.refl _ _
  go_enter Tryd.func33, Tryd.ntmps33
  go_wp2_with (first
    | (with_reducible refine wpSeq_boxD (.tmp 0) x ?_ ?_ ?_ ?_
       · rfl
       · rfl
       · rfl
       intro gx wx0 nn
       have HX0 : Hid (Blk wx0 gx (cb x) 33) := nn.blk
       replace HBW : Hid (Below w.heap.size w wx0) := HBW.out.trans (nn.below.mono HBW.out.size)
       clear nn)
    | (with_reducible refine wpSeq_boxD (.tmp 1) y ?_ ?_ ?_ ?_
       · rfl
       · rfl
       · rfl
       intro gy wx1 nn
       replace HX0 : Hid (Blk wx1 gx (cb x) 33) := HX0.out.below nn.below HX0.out.lt
       have HX1 : Hid (Blk wx1 gy (cb y) 33) := nn.blk
       replace HBW : Hid (Below w.heap.size w wx1) := HBW.out.trans (nn.below.mono HBW.out.size)
       clear nn)
    | (with_reducible refine wpSeq_allocD ?_ ?_ ?_
       · rfl
       · rfl
       intro gr wa nn
       replace HX0 : Hid (Blk wa gx (cb x) 33) := HX0.out.below nn.below HX0.out.lt
       replace HX1 : Hid (Blk wa gy (cb y) 33) := HX1.out.below nn.below HX1.out.lt
       have HGR : Hid (w.heap.size ≤ gr) := Nat.le_trans HBW.out.size nn.ge
       have HB : Hid (Blk wa gr (cb zb32) 33) := nn.blk
       replace HBW : Hid (Below w.heap.size w wa) := HBW.out.trans (nn.below.mono HBW.out.size)
       clear nn)
    | (with_reducible refine wpSeq_loadD (.tmp 2) gx x ?_ ?_ ?_ ?_ ?_ ?_
       · exact HN0.out
       · exact HX0.out
       · rfl
       · rfl
       · rfl)
    | (with_reducible refine wpSeq_loadD (.tmp 3) gy y ?_ ?_ ?_ ?_ ?_ ?_
       · exact HN1.out
       · exact HX1.out
       · rfl
       · rfl
       · rfl)
    | (go_at_call 48; refine (rLeaf_any x y HN0.out HN1.out _).mono ?_; rintro e wb ⟨v4, rfl, hr4, hb4⟩
       replace HB : Hid (Blk wb gr (cb zb32) 33) := HB.out.below hb4 HB.out.lt
       replace HBW : Hid (Below w.heap.size w wb) := HBW.out.trans (hb4.mono HBW.out.size)
       have HR4 : Hid (Reads wb v4 (pairB 76 x y)) := hr4
       clear hr4 hb4)
    | (go_at_call 32; refine (rOf_any v4 _ _ HR4.out (by have h1 := HN0.out; have h2 := HN1.out; simp [pairB]; omega)).mono ?_; rintro e wc ⟨rfl, hb4⟩; rw [← HRD.out]
       replace HB : Hid (Blk wc gr (cb zb32) 33) := HB.out.below hb4 HB.out.lt
       replace HBW : Hid (Below w.heap.size w wc) := HBW.out.trans (hb4.mono HBW.out.size)
       clear hb4 HR4)
    | (with_reducible refine wpSeq_storeD (.tmp 4) (.tmp 8) gr zb32 r ?_ ?_ ?_ ?_ ?_ ?_ ?_ ?_
       · rfl
       · exact HRL.out
       · exact HB.out
       · rfl
       · rfl
       · rfl
       · rfl
       intro W9 h9))
  exact bodyPost_ret (v := .agg (cb r).toArray) (results_cell_row (by rfl) _ _ gr 33 _ (0, 0) _ rfl h9.blk Tryd.underlying33 rfl (by rw [List.size_toArray, cb_len, HRL.out]; exact info_digest)) rfl ⟨by rw [HRD.out], HBW.out.trans (h9.only.below HGR.out HBW.out.size)⟩
set_option maxRecDepth 100000 in
set_option maxHeartbeats 2000000 in
theorem hNode_any (x y : List (BitVec 8)) (hx : x.length = 32) (hy : y.length = 32) (w : World) : Calls Tryd.prog 39 #[.agg (cb x).toArray, .agg (cb y).toArray] w fun e w' => e = .returned (.agg (cb (dig (pairB 78 x y))).toArray) ∧ Below w.heap.size w w' := by
  obtain ⟨r, HRD⟩ : ∃ r, Hid (r = dig (pairB 78 x y)) := ⟨_, rfl⟩
  have HRL : Hid (r.length = 32) := by show _ = _; rw [HRD.out]; exact len_dig' _
  have HN0 : Hid (x.length = 32) := hx
  have HN1 : Hid (y.length = 32) := hy
  clear hx hy
  have HBW : Hid (Below w.heap.size w w) := Below.refl _ _
  go_enter Tryd.func39, Tryd.ntmps39
  go_wp2_with (first
    | (with_reducible refine wpSeq_boxD (.tmp 0) x ?_ ?_ ?_ ?_
       · rfl
       · rfl
       · rfl
       intro gx wx0 nn
       have HX0 : Hid (Blk wx0 gx (cb x) 33) := nn.blk
       replace HBW : Hid (Below w.heap.size w wx0) := HBW.out.trans (nn.below.mono HBW.out.size)
       clear nn)
    | (with_reducible refine wpSeq_boxD (.tmp 1) y ?_ ?_ ?_ ?_
       · rfl
       · rfl
       · rfl
       intro gy wx1 nn
       replace HX0 : Hid (Blk wx1 gx (cb x) 33) := HX0.out.below nn.below HX0.out.lt
       have HX1 : Hid (Blk wx1 gy (cb y) 33) := nn.blk
       replace HBW : Hid (Below w.heap.size w wx1) := HBW.out.trans (nn.below.mono HBW.out.size)
       clear nn)
    | (with_reducible refine wpSeq_allocD ?_ ?_ ?_
       · rfl
       · rfl
       intro gr wa nn
       replace HX0 : Hid (Blk wa gx (cb x) 33) := HX0.out.below nn.below HX0.out.lt
       replace HX1 : Hid (Blk wa gy (cb y) 33) := HX1.out.below nn.below HX1.out.lt
       have HGR : Hid (w.heap.size ≤ gr) := Nat.le_trans HBW.out.size nn.ge
       have HB : Hid (Blk wa gr (cb zb32) 33) := nn.blk
       replace HBW : Hid (Below w.heap.size w wa) := HBW.out.trans (nn.below.mono HBW.out.size)
       clear nn)
    | (with_reducible refine wpSeq_loadD (.tmp 2) gx x ?_ ?_ ?_ ?_ ?_ ?_
       · exact HN0.out
       · exact HX0.out
       · rfl
       · rfl
       · rfl)
    | (with_reducible refine wpSeq_loadD (.tmp 3) gy y ?_ ?_ ?_ ?_ ?_ ?_
       · exact HN1.out
       · exact HX1.out
       · rfl
       · rfl
       · rfl)
    | (go_at_call 55; refine (rNode_any x y HN0.out HN1.out _).mono ?_; rintro e wb ⟨v4, rfl, hr4, hb4⟩
       replace HB : Hid (Blk wb gr (cb zb32) 33) := HB.out.below hb4 HB.out.lt
       replace HBW : Hid (Below w.heap.size w wb) := HBW.out.trans (hb4.mono HBW.out.size)
       have HR4 : Hid (Reads wb v4 (pairB 78 x y)) := hr4
       clear hr4 hb4)
    | (go_at_call 32; refine (rOf_any v4 _ _ HR4.out (by have h1 := HN0.out; have h2 := HN1.out; simp [pairB]; omega)).mono ?_; rintro e wc ⟨rfl, hb4⟩; rw [← HRD.out]
       replace HB : Hid (Blk wc gr (cb zb32) 33) := HB.out.below hb4 HB.out.lt
       replace HBW : Hid (Below w.heap.size w wc) := HBW.out.trans (hb4.mono HBW.out.size)
       clear hb4 HR4)
    | (with_reducible refine wpSeq_storeD (.tmp 4) (.tmp 8) gr zb32 r ?_ ?_ ?_ ?_ ?_ ?_ ?_ ?_
       · rfl
       · exact HRL.out
       · exact HB.out
       · rfl
       · rfl
       · rfl
       · rfl
       intro W9 h9))
  exact bodyPost_ret (v := .agg (cb r).toArray) (results_cell_row (by rfl) _ _ gr 33 _ (0, 0) _ rfl h9.blk Tryd.underlying33 rfl (by rw [List.size_toArray, cb_len, HRL.out]; exact info_digest)) rfl ⟨by rw [HRD.out], HBW.out.trans (h9.only.below HGR.out HBW.out.size)⟩
end Go.Proofs.YtpeifpoeeopecaaDoor
/- The walk of the reference's Root. -/
namespace Go.Proofs.YtpeifpoeeopecaaDoor
open Go.RowKit
set_option maxRecDepth 100000
theorem Sb.more {B : Nat} {wB W W' : World} (h : Below B wB W) (hB : B ≤ wB.heap.size) (hb : Below W.heap.size W W') : Below B wB W' := h.trans (hb.mono (Nat.le_trans hB h.size))
theorem halfL_is (l : List Lf) (d : Nat) (hd : d < 256) (on : Bool) : (l.filter fun p => bitI p.1 (d : Int) == on) = halfL l d on := by
  unfold halfL
  exact List.filter_congr fun p _ => by rw [bitI_nat _ _ hd]
theorem lfHalf_b (va vv : Value) (l : List Lf) (d : Nat) (hd : d < 256) (on : Bool) (w : World) (hR : ReadsLf w va vv l) (hl : l.length < 2000000) :
    Calls Tryd.prog 40 #[.agg #[va, vv], .int .i64 (d : Int), .bool on] w fun e w' => ∃ xa xv, e = .returned (.agg #[xa, xv]) ∧ OwnLf w' w.heap.size xa xv ((halfL l d on).map (·.1)) ((halfL l d on).map (·.2)) ∧ Below w.heap.size w w' := by
  have h := lfHalf_any va vv l (d : Int) on w hR hl
  rwa [halfL_is l d hd on] at h
set_option maxRecDepth 100000 in
set_option maxHeartbeats 4000000 in
theorem lfRoot_any : ∀ (f : Nat) (l : List Lf) (d : Nat) (va vv : Value) (w : World), 256 ≤ d + f → Fits l d → ReadsLf w va vv l → l.length < 2000000 → d ≤ 256 →
    Calls Tryd.prog 20 #[.agg #[va, vv], .int .i64 (d : Int)] w fun e w' => e = .returned (.agg (cb (rootL l d)).toArray) ∧ Below w.heap.size w w' := by
  intro f
  induction f with
  | zero => ?_
  | succ f ih => ?_
  · skip
    intro l d va vv w hf hF hR hl hd
    have HF : Hid (Fits l d) := hF
    have HR : Hid (ReadsLf w va vv l) := hR
    have HL : Hid (l.length < 2000000) := hl
    have HFF : Hid (256 ≤ d + 0) := hf
    have HDD : Hid (d ≤ 256) := hd
    obtain ⟨r, HRD⟩ : ∃ r, Hid (r = rootL l d) := ⟨_, rfl⟩
    have HRL : Hid (r.length = 32) := by show _ = _; rw [HRD.out]; exact rootL_len hF
    rw [← HRD.out]
    obtain ⟨n, HN⟩ : ∃ n, Hid (n = l.length) := ⟨_, rfl⟩
    obtain ⟨ada, cpa, hva⟩ := hR.1.slice
    obtain ⟨adv, cpv, hvv⟩ := hR.2.slice
    rw [List.length_map, ← HN.out] at hva hvv
    subst hva hvv
    clear hR hl hF hf hd
    obtain ⟨gl, HGL⟩ : ∃ g, Hid (g = w.heap.size) := ⟨_, rfl⟩
    obtain ⟨wB, HWB⟩ : ∃ z, Hid (z = w.alloc (.cells [Value.slice ada n cpa, .slice adv n cpv].toArray 47)) := ⟨_, rfl⟩
    have HLB : Hid (Blk wB gl [Value.slice ada n cpa, .slice adv n cpv] 47) := by rw [HWB.out, HGL.out]; exact Blk.new w _ _
    have HBW : Hid (Below w.heap.size w wB) := by rw [HWB.out]; exact below_alloc w _
    have HSB : Hid (wB.heap.size = gl + 1) := by show _ = _; rw [HWB.out, HGL.out]; simp
    have HCA : Hid (∀ wx, Below (gl + 1) wB wx → wx.cell? ⟨gl, 0, none⟩ = some (.slice ada n cpa)) := fun wx hx => (HLB.out.below hx (Nat.lt_succ_self _)).cell 0
    have HCV : Hid (∀ wx, Below (gl + 1) wB wx → wx.cell? ⟨gl, 1, none⟩ = some (.slice adv n cpv)) := fun wx hx => (HLB.out.below hx (Nat.lt_succ_self _)).cell 1
    have HRS : Hid (∀ wx, Below (gl + 1) wB wx → ReadsLf wx (.slice ada n cpa) (.slice adv n cpv) l) := fun wx hx => HR.out.below (HBW.out.trans (hx.mono (by have := HGL.out; omega)))
    go_enter Tryd.func20, Tryd.ntmps20
    go_upto_region 1 with (first
      | (with_reducible refine wpSeq_allocD ?_ ?_ ?_
         · rfl
         · rfl
         intro gr wa nn))
    rw [← HWB.out] at nn
    have e0 : (some ⟨w.heap.size, 0, none⟩ : Option Addr) = some ⟨gl, 0, none⟩ := by rw [HGL.out]
    simp only [e0]
    clear e0
    have HB : Hid (Blk wa gr (cb zb32) 33) := nn.blk
    have HS : Hid (Below (gl + 1) wB wa) := by rw [← HSB.out]; exact nn.below
    have HGR : Hid (gl + 1 ≤ gr) := by show _ ≤ _; rw [← HSB.out]; exact nn.ge
    clear nn
    have ca : wa.cell? ⟨gl, 0, none⟩ = some (.slice ada n cpa) := HCA.out wa HS.out
    have HRET : Hid (∀ W9, SetB r W9 gr W9 → True) := fun _ _ => trivial
    clear HRET
    by_cases h0 : n = 0
    · subst h0
      have hnil : l = [] := List.length_eq_zero_iff.1 HN.out.symm
      have HRE : Hid (dig [69] = r) := by show _ = _; rw [HRD.out, hnil, rootL_nil]
      clear hnil
      go_wp2_with (first
        | (go_at_call 38; refine (hEmpty_any _).mono ?_; rintro e wc ⟨rfl, hb4⟩; rw [HRE.out]
           replace HB : Hid (Blk wc gr (cb zb32) 33) := HB.out.below hb4 HB.out.lt
           replace HS : Hid (Below (gl + 1) wB wc) := Sb.more HS.out (by rw [HSB.out]; exact Nat.le_refl _) hb4
           clear hb4)
        | (with_reducible refine wpSeq_storeD (.tmp 4) (.tmp 9) gr zb32 r ?_ ?_ ?_ ?_ ?_ ?_ ?_ ?_
           · rfl
           · exact HRL.out
           · exact HB.out
           · rfl
           · rfl
           · rfl
           · rfl
           intro W9 h9))
      exact bodyPost_ret (v := .agg (cb r).toArray) (results_cell_row (by rfl) _ _ gr 33 _ (0, 0) _ rfl h9.blk Tryd.underlying33 rfl (by rw [List.size_toArray, cb_len, HRL.out]; exact info_digest)) rfl ⟨rfl, (HBW.out.trans (HS.out.mono (by have := HGL.out; omega))).trans (h9.only.below (by have h1 := HGR.out; have h2 := HGL.out; omega) (Nat.le_trans HBW.out.size HS.out.size))⟩
    · by_cases h1 : n = 1
      · subst h1
        obtain ⟨p, hp⟩ : ∃ p, l = [p] := List.length_eq_one_iff.1 HN.out.symm
        have HRE : Hid (dig (pairB 76 p.1 p.2) = r) := by show _ = _; rw [HRD.out, hp, rootL_one]
        have HP : Hid (p.1.length = 32 ∧ p.2.length = 32) := HR.out.ok p (by rw [hp]; simp)
        have hA := HR.out.1
        have hV := HR.out.2
        rw [hp] at hA hV
        obtain ⟨ba, offa, cpa', hva, hya⟩ := hA.at (by simp)
        obtain ⟨bv, offv, cpv', hvv, hyv⟩ := hV.at (by simp)
        simp only [Value.slice.injEq] at hva hvv
        obtain ⟨rfl, hq1, rfl⟩ := hva
        obtain ⟨rfl, hq2, rfl⟩ := hvv
        clear hq1 hq2
        obtain ⟨da, HDA⟩ : ∃ d, Hid (d = p.1) := ⟨_, rfl⟩
        obtain ⟨dv, HDV⟩ : ∃ d, Hid (d = p.2) := ⟨_, rfl⟩
        rw [← HDA.out, ← HDV.out] at HRE HP
        have HRA : Hid (∀ wx, Below (gl + 1) wB wx → wx.rangeAt ba offa (cb da)) := fun wx hx => by
          have h := hya 0 (by simp)
          simp only [List.map_cons, List.map_nil, List.getD_cons_zero, Nat.zero_mul, Nat.add_zero, ← HDA.out] at h
          have hb := rangeAt_lt h HP.out.1
          exact rangeAt_below (rangeAt_below h HBW.out hb) hx (by have h2 := HGL.out; omega)
        have HRV : Hid (∀ wx, Below (gl + 1) wB wx → wx.rangeAt bv offv (cb dv)) := fun wx hx => by
          have h := hyv 0 (by simp)
          simp only [List.map_cons, List.map_nil, List.getD_cons_zero, Nat.zero_mul, Nat.add_zero, ← HDV.out] at h
          have hb := rangeAt_lt h HP.out.2
          exact rangeAt_below (rangeAt_below h HBW.out hb) hx (by have h2 := HGL.out; omega)
        clear hya hyv hA hV hp
        go_wp2_with fail
        refine wp_region_held_drew (S := Below (gl + 1) wB) (by kernel_rfl) HS.out.drew ?_
        intro hS
        have HB2 : Hid (Blk wa.drew gr (cb zb32) 33) := HB.out
        clear HB HS ca
        change wpAnyH _ _ _ _ _ _ _ _ (World.drew wa)
        generalize World.drew wa = wd at *
        refine wpAnyH_take (i := 0) (v := .pointer (some ⟨gl, 0, none⟩)) rfl (by kernel_rfl) (by kernel_rfl) (by kernel_rfl) (fun _ _ _ h => h) (Or.inl ⟨by rfl, fun wx hx => by simp [go_sem]⟩) hS ?_
        simp only [Act.put, List.getElem_toArray, List.getElem_cons_zero, List.setIfInBounds_toArray, List.set_cons_zero, List.set_cons_succ]
        refine wpAnyH_take (i := 4) (v := .pointer (some ⟨gl, 1, none⟩)) rfl (by kernel_rfl) (by kernel_rfl) (by kernel_rfl) (fun _ _ _ h => h) (Or.inl ⟨by rfl, fun wx hx => by simp [go_sem]⟩) hS ?_
        simp only [Act.put, List.getElem_toArray, List.getElem_cons_succ, List.getElem_cons_zero, List.setIfInBounds_toArray, List.set_cons_zero, List.set_cons_succ]
        refine wpAnyH_take (i := 1) (v := .slice (some ⟨ba, offa, none⟩) 1 cpa) rfl (by kernel_rfl) (by kernel_rfl) (by kernel_rfl) (fun _ _ _ h => h) (Or.inl ⟨by rfl, fun wx hx => by (have hc := HCA.out wx hx; simp [go_sem, hc])⟩) hS ?_
        simp only [Act.put, List.getElem_toArray, List.getElem_cons_succ, List.getElem_cons_zero, List.setIfInBounds_toArray, List.set_cons_zero, List.set_cons_succ]
        refine wpAnyH_take (i := 5) (v := .slice (some ⟨bv, offv, none⟩) 1 cpv) rfl (by kernel_rfl) (by kernel_rfl) (by kernel_rfl) (fun _ _ _ h => h) (Or.inl ⟨by rfl, fun wx hx => by (have hc := HCV.out wx hx; simp [go_sem, hc])⟩) hS ?_
        simp only [Act.put, List.getElem_toArray, List.getElem_cons_succ, List.getElem_cons_zero, List.setIfInBounds_toArray, List.set_cons_zero, List.set_cons_succ]
        refine wpAnyH_take (i := 2) (v := .pointer (some ⟨ba, offa, none⟩)) rfl (by kernel_rfl) (by kernel_rfl) (by kernel_rfl) (fun _ _ _ h => h) (Or.inl ⟨by rfl, fun wx hx => by simp [go_sem]⟩) hS ?_
        simp only [Act.put, List.getElem_toArray, List.getElem_cons_succ, List.getElem_cons_zero, List.setIfInBounds_toArray, List.set_cons_zero, List.set_cons_succ]
        refine wpAnyH_take (i := 6) (v := .pointer (some ⟨bv, offv, none⟩)) rfl (by kernel_rfl) (by kernel_rfl) (by kernel_rfl) (fun _ _ _ h => h) (Or.inl ⟨by rfl, fun wx hx => by simp [go_sem]⟩) hS ?_
        simp only [Act.put, List.getElem_toArray, List.getElem_cons_succ, List.getElem_cons_zero, List.setIfInBounds_toArray, List.set_cons_zero, List.set_cons_succ]
        refine wpAnyH_take (i := 3) (v := .agg (cb da).toArray) rfl (by kernel_rfl) (by kernel_rfl) (by kernel_rfl) (fun _ _ _ h => h) (Or.inl ⟨by rfl, fun wx hx => by exact load_run 33 _ rfl _ _ rfl (cb da) _ (HRA.out wx hx) Tryd.underlying33 rfl (by rw [cb_len, HP.out.1]; exact info_digest)⟩) hS ?_
        simp only [Act.put, List.getElem_toArray, List.getElem_cons_succ, List.getElem_cons_zero, List.setIfInBounds_toArray, List.set_cons_zero, List.set_cons_succ]
        refine wpAnyH_take (i := 7) (v := .agg (cb dv).toArray) rfl (by kernel_rfl) (by kernel_rfl) (by kernel_rfl) (fun _ _ _ h => h) (Or.inl ⟨by rfl, fun wx hx => by exact load_run 33 _ rfl _ _ rfl (cb dv) _ (HRV.out wx hx) Tryd.underlying33 rfl (by rw [cb_len, HP.out.2]; exact info_digest)⟩) hS ?_
        simp only [Act.put, List.getElem_toArray, List.getElem_cons_succ, List.getElem_cons_zero, List.setIfInBounds_toArray, List.set_cons_zero, List.set_cons_succ]
        refine wpAnyH_enter 8 (by kernel_rfl) rfl (by rfl) (f := 33) (args := #[.agg (cb da).toArray, .agg (cb dv).toArray]) (by simp [go_sem]) (hLeaf_any da dv HP.out.1 HP.out.2 _) ?_
        rintro e wy ⟨rfl, hbq⟩
        have hS2 := Sb.more hS (by rw [HSB.out]; exact Nat.le_refl _) hbq
        refine ⟨_, rfl, hS2, ?_⟩
        have HB3 : Hid (Blk wy gr (cb zb32) 33) := HB2.out.below hbq HB2.out.lt
        rw [HRE.out]
        clear hS hbq HB2
        have hS := hS2
        have HB2 := HB3
        clear hS2 HB3
        simp only [Act.put, List.getElem_toArray, List.getElem_cons_succ, List.getElem_cons_zero, List.setIfInBounds_toArray, List.set_cons_zero, List.set_cons_succ]
        refine wpAnyH_law 9 (by kernel_rfl) rfl (by rfl) (wp_store_mid 33 _ _ rfl gr 0 (cb r).toArray rfl rfl (HB2.out.there 0 _ (by rw [List.size_toArray, cb_len, cb_len, HRL.out]; decide)) (by rw [List.size_toArray, cb_len, HRL.out]; exact info_digest) (all_oneCell_toArray (cb_one r)) ?_)
        rw [List.toList_toArray]
        have h9 := SetB.of zb32 r rfl HRL.out HB2.out
        refine ⟨hS.trans (h9.only.below HGR.out (Nat.le_trans HGR.out (Nat.le_of_lt HB2.out.lt))), ?_⟩
        simp only [Act.put, List.getElem_toArray, List.getElem_cons_succ, List.getElem_cons_zero]
        refine wpAnyH_done (by kernel_rfl) ?_ _
        have HS : Hid (Below (gl + 1) wB wy) := hS
        clear hS HB2
        generalize World.setCells wy gr 0 (cb r) = W9 at *
        go_wp2
        exact bodyPost_ret (v := .agg (cb r).toArray) (results_cell_row (by rfl) _ _ gr 33 _ (0, 0) _ rfl h9.blk Tryd.underlying33 rfl (by rw [List.size_toArray, cb_len, HRL.out]; exact info_digest)) rfl ⟨rfl, (HBW.out.trans (HS.out.mono (by have := HGL.out; omega))).trans (h9.only.below (by have h1 := HGR.out; have h2 := HGL.out; omega) (Nat.le_trans HBW.out.size HS.out.size))⟩
      · have h2 : 2 ≤ n := by omega
        have HN2 : Hid (2 ≤ l.length) := by show _ ≤ _; rw [← HN.out]; exact h2
        have hn0 : ¬ ((n : Int) = 0) := by omega
        have hn1 : ¬ ((n : Int) = 1) := by omega
        have b0 : ((n : Int) == 0) = false := by simpa using hn0
        have b1 : ((n : Int) == 1) = false := by simpa using hn1
        have HD256 : Hid (d < 256) := HF.out.lt HN2.out
        have HRT : Hid (r = dig (pairB 78 (rootL (halfL l d false) (d + 1)) (rootL (halfL l d true) (d + 1)))) := by show _ = _; rw [HRD.out]; exact rootL_two HF.out HN2.out
        exact absurd HD256.out (by have := HFF.out; omega)
  · skip
    intro l d va vv w hf hF hR hl hd
    have HF : Hid (Fits l d) := hF
    have HR : Hid (ReadsLf w va vv l) := hR
    have HL : Hid (l.length < 2000000) := hl
    have HFF : Hid (256 ≤ d + (f + 1)) := hf
    have HDD : Hid (d ≤ 256) := hd
    obtain ⟨r, HRD⟩ : ∃ r, Hid (r = rootL l d) := ⟨_, rfl⟩
    have HRL : Hid (r.length = 32) := by show _ = _; rw [HRD.out]; exact rootL_len hF
    rw [← HRD.out]
    obtain ⟨n, HN⟩ : ∃ n, Hid (n = l.length) := ⟨_, rfl⟩
    obtain ⟨ada, cpa, hva⟩ := hR.1.slice
    obtain ⟨adv, cpv, hvv⟩ := hR.2.slice
    rw [List.length_map, ← HN.out] at hva hvv
    subst hva hvv
    clear hR hl hF hf hd
    obtain ⟨gl, HGL⟩ : ∃ g, Hid (g = w.heap.size) := ⟨_, rfl⟩
    obtain ⟨wB, HWB⟩ : ∃ z, Hid (z = w.alloc (.cells [Value.slice ada n cpa, .slice adv n cpv].toArray 47)) := ⟨_, rfl⟩
    have HLB : Hid (Blk wB gl [Value.slice ada n cpa, .slice adv n cpv] 47) := by rw [HWB.out, HGL.out]; exact Blk.new w _ _
    have HBW : Hid (Below w.heap.size w wB) := by rw [HWB.out]; exact below_alloc w _
    have HSB : Hid (wB.heap.size = gl + 1) := by show _ = _; rw [HWB.out, HGL.out]; simp
    have HCA : Hid (∀ wx, Below (gl + 1) wB wx → wx.cell? ⟨gl, 0, none⟩ = some (.slice ada n cpa)) := fun wx hx => (HLB.out.below hx (Nat.lt_succ_self _)).cell 0
    have HCV : Hid (∀ wx, Below (gl + 1) wB wx → wx.cell? ⟨gl, 1, none⟩ = some (.slice adv n cpv)) := fun wx hx => (HLB.out.below hx (Nat.lt_succ_self _)).cell 1
    have HRS : Hid (∀ wx, Below (gl + 1) wB wx → ReadsLf wx (.slice ada n cpa) (.slice adv n cpv) l) := fun wx hx => HR.out.below (HBW.out.trans (hx.mono (by have := HGL.out; omega)))
    go_enter Tryd.func20, Tryd.ntmps20
    go_upto_region 1 with (first
      | (with_reducible refine wpSeq_allocD ?_ ?_ ?_
         · rfl
         · rfl
         intro gr wa nn))
    rw [← HWB.out] at nn
    have e0 : (some ⟨w.heap.size, 0, none⟩ : Option Addr) = some ⟨gl, 0, none⟩ := by rw [HGL.out]
    simp only [e0]
    clear e0
    have HB : Hid (Blk wa gr (cb zb32) 33) := nn.blk
    have HS : Hid (Below (gl + 1) wB wa) := by rw [← HSB.out]; exact nn.below
    have HGR : Hid (gl + 1 ≤ gr) := by show _ ≤ _; rw [← HSB.out]; exact nn.ge
    clear nn
    have ca : wa.cell? ⟨gl, 0, none⟩ = some (.slice ada n cpa) := HCA.out wa HS.out
    have HRET : Hid (∀ W9, SetB r W9 gr W9 → True) := fun _ _ => trivial
    clear HRET
    by_cases h0 : n = 0
    · subst h0
      have hnil : l = [] := List.length_eq_zero_iff.1 HN.out.symm
      have HRE : Hid (dig [69] = r) := by show _ = _; rw [HRD.out, hnil, rootL_nil]
      clear hnil
      go_wp2_with (first
        | (go_at_call 38; refine (hEmpty_any _).mono ?_; rintro e wc ⟨rfl, hb4⟩; rw [HRE.out]
           replace HB : Hid (Blk wc gr (cb zb32) 33) := HB.out.below hb4 HB.out.lt
           replace HS : Hid (Below (gl + 1) wB wc) := Sb.more HS.out (by rw [HSB.out]; exact Nat.le_refl _) hb4
           clear hb4)
        | (with_reducible refine wpSeq_storeD (.tmp 4) (.tmp 9) gr zb32 r ?_ ?_ ?_ ?_ ?_ ?_ ?_ ?_
           · rfl
           · exact HRL.out
           · exact HB.out
           · rfl
           · rfl
           · rfl
           · rfl
           intro W9 h9))
      exact bodyPost_ret (v := .agg (cb r).toArray) (results_cell_row (by rfl) _ _ gr 33 _ (0, 0) _ rfl h9.blk Tryd.underlying33 rfl (by rw [List.size_toArray, cb_len, HRL.out]; exact info_digest)) rfl ⟨rfl, (HBW.out.trans (HS.out.mono (by have := HGL.out; omega))).trans (h9.only.below (by have h1 := HGR.out; have h2 := HGL.out; omega) (Nat.le_trans HBW.out.size HS.out.size))⟩
    · by_cases h1 : n = 1
      · subst h1
        obtain ⟨p, hp⟩ : ∃ p, l = [p] := List.length_eq_one_iff.1 HN.out.symm
        have HRE : Hid (dig (pairB 76 p.1 p.2) = r) := by show _ = _; rw [HRD.out, hp, rootL_one]
        have HP : Hid (p.1.length = 32 ∧ p.2.length = 32) := HR.out.ok p (by rw [hp]; simp)
        have hA := HR.out.1
        have hV := HR.out.2
        rw [hp] at hA hV
        obtain ⟨ba, offa, cpa', hva, hya⟩ := hA.at (by simp)
        obtain ⟨bv, offv, cpv', hvv, hyv⟩ := hV.at (by simp)
        simp only [Value.slice.injEq] at hva hvv
        obtain ⟨rfl, hq1, rfl⟩ := hva
        obtain ⟨rfl, hq2, rfl⟩ := hvv
        clear hq1 hq2
        obtain ⟨da, HDA⟩ : ∃ d, Hid (d = p.1) := ⟨_, rfl⟩
        obtain ⟨dv, HDV⟩ : ∃ d, Hid (d = p.2) := ⟨_, rfl⟩
        rw [← HDA.out, ← HDV.out] at HRE HP
        have HRA : Hid (∀ wx, Below (gl + 1) wB wx → wx.rangeAt ba offa (cb da)) := fun wx hx => by
          have h := hya 0 (by simp)
          simp only [List.map_cons, List.map_nil, List.getD_cons_zero, Nat.zero_mul, Nat.add_zero, ← HDA.out] at h
          have hb := rangeAt_lt h HP.out.1
          exact rangeAt_below (rangeAt_below h HBW.out hb) hx (by have h2 := HGL.out; omega)
        have HRV : Hid (∀ wx, Below (gl + 1) wB wx → wx.rangeAt bv offv (cb dv)) := fun wx hx => by
          have h := hyv 0 (by simp)
          simp only [List.map_cons, List.map_nil, List.getD_cons_zero, Nat.zero_mul, Nat.add_zero, ← HDV.out] at h
          have hb := rangeAt_lt h HP.out.2
          exact rangeAt_below (rangeAt_below h HBW.out hb) hx (by have h2 := HGL.out; omega)
        clear hya hyv hA hV hp
        go_wp2_with fail
        refine wp_region_held_drew (S := Below (gl + 1) wB) (by kernel_rfl) HS.out.drew ?_
        intro hS
        have HB2 : Hid (Blk wa.drew gr (cb zb32) 33) := HB.out
        clear HB HS ca
        change wpAnyH _ _ _ _ _ _ _ _ (World.drew wa)
        generalize World.drew wa = wd at *
        refine wpAnyH_take (i := 0) (v := .pointer (some ⟨gl, 0, none⟩)) rfl (by kernel_rfl) (by kernel_rfl) (by kernel_rfl) (fun _ _ _ h => h) (Or.inl ⟨by rfl, fun wx hx => by simp [go_sem]⟩) hS ?_
        simp only [Act.put, List.getElem_toArray, List.getElem_cons_zero, List.setIfInBounds_toArray, List.set_cons_zero, List.set_cons_succ]
        refine wpAnyH_take (i := 4) (v := .pointer (some ⟨gl, 1, none⟩)) rfl (by kernel_rfl) (by kernel_rfl) (by kernel_rfl) (fun _ _ _ h => h) (Or.inl ⟨by rfl, fun wx hx => by simp [go_sem]⟩) hS ?_
        simp only [Act.put, List.getElem_toArray, List.getElem_cons_succ, List.getElem_cons_zero, List.setIfInBounds_toArray, List.set_cons_zero, List.set_cons_succ]
        refine wpAnyH_take (i := 1) (v := .slice (some ⟨ba, offa, none⟩) 1 cpa) rfl (by kernel_rfl) (by kernel_rfl) (by kernel_rfl) (fun _ _ _ h => h) (Or.inl ⟨by rfl, fun wx hx => by (have hc := HCA.out wx hx; simp [go_sem, hc])⟩) hS ?_
        simp only [Act.put, List.getElem_toArray, List.getElem_cons_succ, List.getElem_cons_zero, List.setIfInBounds_toArray, List.set_cons_zero, List.set_cons_succ]
        refine wpAnyH_take (i := 5) (v := .slice (some ⟨bv, offv, none⟩) 1 cpv) rfl (by kernel_rfl) (by kernel_rfl) (by kernel_rfl) (fun _ _ _ h => h) (Or.inl ⟨by rfl, fun wx hx => by (have hc := HCV.out wx hx; simp [go_sem, hc])⟩) hS ?_
        simp only [Act.put, List.getElem_toArray, List.getElem_cons_succ, List.getElem_cons_zero, List.setIfInBounds_toArray, List.set_cons_zero, List.set_cons_succ]
        refine wpAnyH_take (i := 2) (v := .pointer (some ⟨ba, offa, none⟩)) rfl (by kernel_rfl) (by kernel_rfl) (by kernel_rfl) (fun _ _ _ h => h) (Or.inl ⟨by rfl, fun wx hx => by simp [go_sem]⟩) hS ?_
        simp only [Act.put, List.getElem_toArray, List.getElem_cons_succ, List.getElem_cons_zero, List.setIfInBounds_toArray, List.set_cons_zero, List.set_cons_succ]
        refine wpAnyH_take (i := 6) (v := .pointer (some ⟨bv, offv, none⟩)) rfl (by kernel_rfl) (by kernel_rfl) (by kernel_rfl) (fun _ _ _ h => h) (Or.inl ⟨by rfl, fun wx hx => by simp [go_sem]⟩) hS ?_
        simp only [Act.put, List.getElem_toArray, List.getElem_cons_succ, List.getElem_cons_zero, List.setIfInBounds_toArray, List.set_cons_zero, List.set_cons_succ]
        refine wpAnyH_take (i := 3) (v := .agg (cb da).toArray) rfl (by kernel_rfl) (by kernel_rfl) (by kernel_rfl) (fun _ _ _ h => h) (Or.inl ⟨by rfl, fun wx hx => by exact load_run 33 _ rfl _ _ rfl (cb da) _ (HRA.out wx hx) Tryd.underlying33 rfl (by rw [cb_len, HP.out.1]; exact info_digest)⟩) hS ?_
        simp only [Act.put, List.getElem_toArray, List.getElem_cons_succ, List.getElem_cons_zero, List.setIfInBounds_toArray, List.set_cons_zero, List.set_cons_succ]
        refine wpAnyH_take (i := 7) (v := .agg (cb dv).toArray) rfl (by kernel_rfl) (by kernel_rfl) (by kernel_rfl) (fun _ _ _ h => h) (Or.inl ⟨by rfl, fun wx hx => by exact load_run 33 _ rfl _ _ rfl (cb dv) _ (HRV.out wx hx) Tryd.underlying33 rfl (by rw [cb_len, HP.out.2]; exact info_digest)⟩) hS ?_
        simp only [Act.put, List.getElem_toArray, List.getElem_cons_succ, List.getElem_cons_zero, List.setIfInBounds_toArray, List.set_cons_zero, List.set_cons_succ]
        refine wpAnyH_enter 8 (by kernel_rfl) rfl (by rfl) (f := 33) (args := #[.agg (cb da).toArray, .agg (cb dv).toArray]) (by simp [go_sem]) (hLeaf_any da dv HP.out.1 HP.out.2 _) ?_
        rintro e wy ⟨rfl, hbq⟩
        have hS2 := Sb.more hS (by rw [HSB.out]; exact Nat.le_refl _) hbq
        refine ⟨_, rfl, hS2, ?_⟩
        have HB3 : Hid (Blk wy gr (cb zb32) 33) := HB2.out.below hbq HB2.out.lt
        rw [HRE.out]
        clear hS hbq HB2
        have hS := hS2
        have HB2 := HB3
        clear hS2 HB3
        simp only [Act.put, List.getElem_toArray, List.getElem_cons_succ, List.getElem_cons_zero, List.setIfInBounds_toArray, List.set_cons_zero, List.set_cons_succ]
        refine wpAnyH_law 9 (by kernel_rfl) rfl (by rfl) (wp_store_mid 33 _ _ rfl gr 0 (cb r).toArray rfl rfl (HB2.out.there 0 _ (by rw [List.size_toArray, cb_len, cb_len, HRL.out]; decide)) (by rw [List.size_toArray, cb_len, HRL.out]; exact info_digest) (all_oneCell_toArray (cb_one r)) ?_)
        rw [List.toList_toArray]
        have h9 := SetB.of zb32 r rfl HRL.out HB2.out
        refine ⟨hS.trans (h9.only.below HGR.out (Nat.le_trans HGR.out (Nat.le_of_lt HB2.out.lt))), ?_⟩
        simp only [Act.put, List.getElem_toArray, List.getElem_cons_succ, List.getElem_cons_zero]
        refine wpAnyH_done (by kernel_rfl) ?_ _
        have HS : Hid (Below (gl + 1) wB wy) := hS
        clear hS HB2
        generalize World.setCells wy gr 0 (cb r) = W9 at *
        go_wp2
        exact bodyPost_ret (v := .agg (cb r).toArray) (results_cell_row (by rfl) _ _ gr 33 _ (0, 0) _ rfl h9.blk Tryd.underlying33 rfl (by rw [List.size_toArray, cb_len, HRL.out]; exact info_digest)) rfl ⟨rfl, (HBW.out.trans (HS.out.mono (by have := HGL.out; omega))).trans (h9.only.below (by have h1 := HGR.out; have h2 := HGL.out; omega) (Nat.le_trans HBW.out.size HS.out.size))⟩
      · have h2 : 2 ≤ n := by omega
        have HN2 : Hid (2 ≤ l.length) := by show _ ≤ _; rw [← HN.out]; exact h2
        have hn0 : ¬ ((n : Int) = 0) := by omega
        have hn1 : ¬ ((n : Int) = 1) := by omega
        have b0 : ((n : Int) == 0) = false := by simpa using hn0
        have b1 : ((n : Int) == 1) = false := by simpa using hn1
        have HD256 : Hid (d < 256) := HF.out.lt HN2.out
        have HRT : Hid (r = dig (pairB 78 (rootL (halfL l d false) (d + 1)) (rootL (halfL l d true) (d + 1)))) := by show _ = _; rw [HRD.out]; exact rootL_two HF.out HN2.out
        have IH : Hid (∀ (l : List Lf) (d : Nat) (va vv : Value) (w : World), 256 ≤ d + f → Fits l d → ReadsLf w va vv l → l.length < 2000000 → d ≤ 256 → Calls Tryd.prog 20 #[.agg #[va, vv], .int .i64 (d : Int)] w fun e w' => e = .returned (.agg (cb (rootL l d)).toArray) ∧ Below w.heap.size w w') := ih
        clear ih
        have d256 := HD256.out
        have hwr : IntKind.i64.wrap ((d : Int) + 1) = ((d + 1 : Nat) : Int) := by rw [wrap_small2 _ (by omega) (by omega)]; rfl
        obtain ⟨d1, HD1⟩ : ∃ x, Hid (x = d + 1) := ⟨_, rfl⟩
        rw [← HD1.out] at hwr
        obtain ⟨r1, HR1⟩ : ∃ x, Hid (x = rootL (halfL l d false) (d + 1)) := ⟨_, rfl⟩
        obtain ⟨r2, HR2⟩ : ∃ x, Hid (x = rootL (halfL l d true) (d + 1)) := ⟨_, rfl⟩
        have HL1 : Hid (r1.length = 32) := by show _ = _; rw [HR1.out]; exact rootL_len (HF.out.half false)
        have HL2 : Hid (r2.length = 32) := by show _ = _; rw [HR2.out]; exact rootL_len (HF.out.half true)
        have HRE : Hid (dig (pairB 78 r1 r2) = r) := by show _ = _; rw [HRT.out, HR1.out, HR2.out]
        have HC1 : Hid (∀ xa xv w, ReadsLf w xa xv (halfL l d false) → Calls Tryd.prog 20 #[.agg #[xa, xv], .int .i64 (d1 : Int)] w fun e w' => e = .returned (.agg (cb r1).toArray) ∧ Below w.heap.size w w') := fun xa xv w h => by rw [HR1.out, HD1.out]; exact IH.out _ _ _ _ _ (by have := HFF.out; omega) (HF.out.half false) h (Nat.lt_of_le_of_lt (half_le _ _ _) HL.out) (by omega)
        have HC2 : Hid (∀ xa xv w, ReadsLf w xa xv (halfL l d true) → Calls Tryd.prog 20 #[.agg #[xa, xv], .int .i64 (d1 : Int)] w fun e w' => e = .returned (.agg (cb r2).toArray) ∧ Below w.heap.size w w') := fun xa xv w h => by rw [HR2.out, HD1.out]; exact IH.out _ _ _ _ _ (by have := HFF.out; omega) (HF.out.half true) h (Nat.lt_of_le_of_lt (half_le _ _ _) HL.out) (by omega)
        clear IH
        go_wp2_with fail
        refine wp_region_held_drew (S := Below (gl + 1) wB) (by kernel_rfl) HS.out.drew ?_
        intro hS
        have HB2 : Hid (Blk wa.drew gr (cb zb32) 33) := HB.out
        clear HB HS ca
        change wpAnyH _ _ _ _ _ _ _ _ (World.drew wa)
        generalize World.drew wa = wd at *
        refine wpAnyH_take (i := 0) (v := .agg #[.slice ada n cpa, .slice adv n cpv]) rfl (by kernel_rfl) (by kernel_rfl) (by kernel_rfl) (fun _ _ _ h => h) (Or.inl ⟨by rfl, fun wx hx => by (have c0 := HCA.out wx hx; have c1 := HCV.out wx hx; simp [go_sem, c0, c1])⟩) hS ?_
        simp only [Act.put, List.getElem_toArray, List.getElem_cons_zero, List.setIfInBounds_toArray, List.set_cons_zero, List.set_cons_succ]
        refine wpAnyH_take (i := 1) (v := .int .i64 (d : Int)) rfl (by kernel_rfl) (by kernel_rfl) (by kernel_rfl) (fun _ _ _ h => h) (Or.inl ⟨by rfl, fun wx hx => by simp [go_sem]⟩) hS ?_
        simp only [Act.put, List.getElem_toArray, List.getElem_cons_succ, List.getElem_cons_zero, List.setIfInBounds_toArray, List.set_cons_zero, List.set_cons_succ]
        refine wpAnyH_take (i := 3) (v := .int .i64 (d : Int)) rfl (by kernel_rfl) (by kernel_rfl) (by kernel_rfl) (fun _ _ _ h => h) (Or.inl ⟨by rfl, fun wx hx => by simp [go_sem]⟩) hS ?_
        simp only [Act.put, List.getElem_toArray, List.getElem_cons_succ, List.getElem_cons_zero, List.setIfInBounds_toArray, List.set_cons_zero, List.set_cons_succ]
        refine wpAnyH_take (i := 4) (v := .int .i64 (d1 : Int)) rfl (by kernel_rfl) (by kernel_rfl) (by kernel_rfl) (fun _ _ _ h => h) (Or.inl ⟨by rfl, fun wx hx => by simp [go_sem, hwr]⟩) hS ?_
        simp only [Act.put, List.getElem_toArray, List.getElem_cons_succ, List.getElem_cons_zero, List.setIfInBounds_toArray, List.set_cons_zero, List.set_cons_succ]
        refine wpAnyH_take (i := 6) (v := .agg #[.slice ada n cpa, .slice adv n cpv]) rfl (by kernel_rfl) (by kernel_rfl) (by kernel_rfl) (fun _ _ _ h => h) (Or.inl ⟨by rfl, fun wx hx => by (have c0 := HCA.out wx hx; have c1 := HCV.out wx hx; simp [go_sem, c0, c1])⟩) hS ?_
        simp only [Act.put, List.getElem_toArray, List.getElem_cons_succ, List.getElem_cons_zero, List.setIfInBounds_toArray, List.set_cons_zero, List.set_cons_succ]
        refine wpAnyH_take (i := 7) (v := .int .i64 (d : Int)) rfl (by kernel_rfl) (by kernel_rfl) (by kernel_rfl) (fun _ _ _ h => h) (Or.inl ⟨by rfl, fun wx hx => by simp [go_sem]⟩) hS ?_
        simp only [Act.put, List.getElem_toArray, List.getElem_cons_succ, List.getElem_cons_zero, List.setIfInBounds_toArray, List.set_cons_zero, List.set_cons_succ]
        refine wpAnyH_take (i := 9) (v := .int .i64 (d : Int)) rfl (by kernel_rfl) (by kernel_rfl) (by kernel_rfl) (fun _ _ _ h => h) (Or.inl ⟨by rfl, fun wx hx => by simp [go_sem]⟩) hS ?_
        simp only [Act.put, List.getElem_toArray, List.getElem_cons_succ, List.getElem_cons_zero, List.setIfInBounds_toArray, List.set_cons_zero, List.set_cons_succ]
        refine wpAnyH_take (i := 10) (v := .int .i64 (d1 : Int)) rfl (by kernel_rfl) (by kernel_rfl) (by kernel_rfl) (fun _ _ _ h => h) (Or.inl ⟨by rfl, fun wx hx => by simp [go_sem, hwr]⟩) hS ?_
        simp only [Act.put, List.getElem_toArray, List.getElem_cons_succ, List.getElem_cons_zero, List.setIfInBounds_toArray, List.set_cons_zero, List.set_cons_succ]
        refine wpAnyH_enter 2 (by kernel_rfl) rfl (by rfl) (f := 40) (args := #[.agg #[.slice ada n cpa, .slice adv n cpv], .int .i64 (d : Int), .bool false]) (by simp [go_sem]) (lfHalf_b _ _ l d HD256.out false _ (HRS.out _ hS) HL.out) ?_
        rintro e wy ⟨xa, xv, rfl, ho, hbq⟩
        have hS2 := Sb.more hS (by rw [HSB.out]; exact Nat.le_refl _) hbq
        refine ⟨_, rfl, hS2, ?_⟩
        have HB3 : Hid (Blk wy gr (cb zb32) 33) := HB2.out.below hbq HB2.out.lt
        have HO1 : Hid (ReadsLf wy xa xv (halfL l d false)) := ho.reads
        clear ho
        clear hS hbq HB2
        have hS := hS2
        have HB2 := HB3
        clear hS2 HB3
        simp only [Act.put, List.getElem_toArray, List.getElem_cons_succ, List.getElem_cons_zero, List.setIfInBounds_toArray, List.set_cons_zero, List.set_cons_succ]
        refine wpAnyH_enter 5 (by kernel_rfl) rfl (by rfl) (f := 20) (args := #[.agg #[xa, xv], .int .i64 (d1 : Int)]) (by simp [go_sem]) (HC1.out xa xv _ HO1.out) ?_
        rintro e wy ⟨rfl, hbq⟩
        have hS2 := Sb.more hS (by rw [HSB.out]; exact Nat.le_refl _) hbq
        refine ⟨_, rfl, hS2, ?_⟩
        have HB3 : Hid (Blk wy gr (cb zb32) 33) := HB2.out.below hbq HB2.out.lt
        clear HO1
        clear hS hbq HB2
        have hS := hS2
        have HB2 := HB3
        clear hS2 HB3
        simp only [Act.put, List.getElem_toArray, List.getElem_cons_succ, List.getElem_cons_zero, List.setIfInBounds_toArray, List.set_cons_zero, List.set_cons_succ]
        refine wpAnyH_enter 8 (by kernel_rfl) rfl (by rfl) (f := 40) (args := #[.agg #[.slice ada n cpa, .slice adv n cpv], .int .i64 (d : Int), .bool true]) (by simp [go_sem]) (lfHalf_b _ _ l d HD256.out true _ (HRS.out _ hS) HL.out) ?_
        rintro e wy ⟨ya, yv, rfl, ho, hbq⟩
        have hS2 := Sb.more hS (by rw [HSB.out]; exact Nat.le_refl _) hbq
        refine ⟨_, rfl, hS2, ?_⟩
        have HB3 : Hid (Blk wy gr (cb zb32) 33) := HB2.out.below hbq HB2.out.lt
        have HO1 : Hid (ReadsLf wy ya yv (halfL l d true)) := ho.reads
        clear ho
        clear hS hbq HB2
        have hS := hS2
        have HB2 := HB3
        clear hS2 HB3
        simp only [Act.put, List.getElem_toArray, List.getElem_cons_succ, List.getElem_cons_zero, List.setIfInBounds_toArray, List.set_cons_zero, List.set_cons_succ]
        refine wpAnyH_enter 11 (by kernel_rfl) rfl (by rfl) (f := 20) (args := #[.agg #[ya, yv], .int .i64 (d1 : Int)]) (by simp [go_sem]) (HC2.out ya yv _ HO1.out) ?_
        rintro e wy ⟨rfl, hbq⟩
        have hS2 := Sb.more hS (by rw [HSB.out]; exact Nat.le_refl _) hbq
        refine ⟨_, rfl, hS2, ?_⟩
        have HB3 : Hid (Blk wy gr (cb zb32) 33) := HB2.out.below hbq HB2.out.lt
        clear HO1
        clear hS hbq HB2
        have hS := hS2
        have HB2 := HB3
        clear hS2 HB3
        simp only [Act.put, List.getElem_toArray, List.getElem_cons_succ, List.getElem_cons_zero, List.setIfInBounds_toArray, List.set_cons_zero, List.set_cons_succ]
        refine wpAnyH_enter 12 (by kernel_rfl) rfl (by rfl) (f := 39) (args := #[.agg (cb r1).toArray, .agg (cb r2).toArray]) (by simp [go_sem]) (hNode_any r1 r2 HL1.out HL2.out _) ?_
        rintro e wy ⟨rfl, hbq⟩
        have hS2 := Sb.more hS (by rw [HSB.out]; exact Nat.le_refl _) hbq
        refine ⟨_, rfl, hS2, ?_⟩
        have HB3 : Hid (Blk wy gr (cb zb32) 33) := HB2.out.below hbq HB2.out.lt
        rw [HRE.out]
        clear hS hbq HB2
        have hS := hS2
        have HB2 := HB3
        clear hS2 HB3
        simp only [Act.put, List.getElem_toArray, List.getElem_cons_succ, List.getElem_cons_zero, List.setIfInBounds_toArray, List.set_cons_zero, List.set_cons_succ]
        refine wpAnyH_law 13 (by kernel_rfl) rfl (by rfl) (wp_store_mid 33 _ _ rfl gr 0 (cb r).toArray rfl rfl (HB2.out.there 0 _ (by rw [List.size_toArray, cb_len, cb_len, HRL.out]; decide)) (by rw [List.size_toArray, cb_len, HRL.out]; exact info_digest) (all_oneCell_toArray (cb_one r)) ?_)
        rw [List.toList_toArray]
        have h9 := SetB.of zb32 r rfl HRL.out HB2.out
        refine ⟨hS.trans (h9.only.below HGR.out (Nat.le_trans HGR.out (Nat.le_of_lt HB2.out.lt))), ?_⟩
        simp only [Act.put, List.getElem_toArray, List.getElem_cons_succ, List.getElem_cons_zero]
        refine wpAnyH_done (by kernel_rfl) ?_ _
        have HS : Hid (Below (gl + 1) wB wy) := hS
        clear hS HB2
        generalize World.setCells wy gr 0 (cb r) = W9 at *
        go_wp2
        exact bodyPost_ret (v := .agg (cb r).toArray) (results_cell_row (by rfl) _ _ gr 33 _ (0, 0) _ rfl h9.blk Tryd.underlying33 rfl (by rw [List.size_toArray, cb_len, HRL.out]; exact info_digest)) rfl ⟨rfl, (HBW.out.trans (HS.out.mono (by have := HGL.out; omega))).trans (h9.only.below (by have h1 := HGR.out; have h2 := HGL.out; omega) (Nat.le_trans HBW.out.size HS.out.size))⟩
end Go.Proofs.YtpeifpoeeopecaaDoor
/- The walk of the reference's Get. -/
namespace Go.Proofs.YtpeifpoeeopecaaDoor
open Go.RowKit
set_option maxRecDepth 100000
theorem results_row_tmp {fn : Func} {p u : Tmp} {ty : TypeId} (h : fn.results = #[.cell p ty, .tmp u]) (tmps : Array Value) (P : Program) (w : World) (g : Nat) (t : TypeId) (cs : List Value) (d : TypeDesc) (x : Value)
    (hp : tmps.getD p undef = .pointer (some ⟨g, 0, none⟩)) (hx : tmps.getD u undef = x) (hg : Blk w g cs t) (hu : P.underlying ty = some d) (hd : d.isRow = true) (hi : (P.info? ty).map (·.size) = some cs.length) :
    (results fn tmps).run P w = .ok (.tuple #[.agg cs.toArray, x]) w := by
  rw [results_cell_tmp h, hp, hx]
  simp only [asAddr, Sem.run_pure, Result.andThen_ok, run_loadVar_mid w g 0 ty cs d hg.range hu hd hi]
theorem getL_at {l : List Lf} {x : List (BitVec 8)} {k : Nat} (h : ∀ p ∈ l.take k, p.1 ≠ x) (hk : k < l.length) (he : (l.getD k ([], [])).1 = x) : getL l x = some (l.getD k ([], [])).2 := by
  unfold getL
  have h1 : (l.find? fun p => decide (p.1 = x)) = some (l.getD k ([], [])) := by
    rw [← List.take_append_drop k l, List.find?_append, List.find?_eq_none.2 (fun p hp => by simpa using h p hp)]
    have h2 : l.drop k = l.getD k ([], []) :: l.drop (k + 1) := by
      rw [List.drop_eq_getElem_cons hk, List.getD_eq_getElem?_getD, List.getElem?_eq_getElem hk]
      rfl
    rw [List.take_append_drop, h2, List.find?_cons, decide_eq_true he]
    rfl
  rw [h1]
  rfl
theorem getL_not {l : List Lf} {x : List (BitVec 8)} (h : ∀ p ∈ l, p.1 ≠ x) : getL l x = none := by
  unfold getL
  rw [List.find?_eq_none.2 (fun p hp => by simpa using h p hp)]
  rfl
theorem wpSeq_buildZ0 {ops : Array Oper} {Q : Exit → Act → World → Prop} {rest : List Oper} {o : Oper} {a : Act} {w : World} (ho : o.op = .build 33 #[]) (hw : Region.wanted o (yielded ops a.tmps) = true)
    (h : wpList Tryd.prog ops Q rest (a.put o.dst (.agg (cb zb32).toArray)) w) : wpList Tryd.prog ops Q (o :: rest) a w := by
  refine wpSeq_val _ _ hw ?_ h
  unfold execOp
  rw [ho]
  kernel_rfl
set_option maxRecDepth 100000 in
set_option maxHeartbeats 4000000 in
theorem lfGet_any (va vv : Value) (l : List Lf) (x : List (BitVec 8)) (w : World) (hR : ReadsLf w va vv l) (hl : l.length < 2000000) (hx : x.length = 32) :
    Calls Tryd.prog 21 #[.agg #[va, vv], .agg (cb x).toArray] w fun e w' => e = .returned (.tuple #[.agg (cb ((getL l x).getD zb32)).toArray, .bool (getL l x).isSome]) ∧ Below w.heap.size w w' := by
  have HR : Hid (ReadsLf w va vv l) := hR
  have HL : Hid (l.length < 2000000) := hl
  have HX32 : Hid (x.length = 32) := hx
  obtain ⟨n, HN⟩ : ∃ n, Hid (n = l.length) := ⟨_, rfl⟩
  obtain ⟨ada, cpa, hva⟩ := hR.1.slice
  obtain ⟨adv, cpv, hvv⟩ := hR.2.slice
  rw [List.length_map, ← HN.out] at hva hvv
  subst hva hvv
  clear hR hl hx
  obtain ⟨gl, HGL⟩ : ∃ g, Hid (g = w.heap.size) := ⟨_, rfl⟩
  obtain ⟨w1, HW1⟩ : ∃ z, Hid (z = w.alloc (.cells [Value.slice ada n cpa, .slice adv n cpv].toArray 47)) := ⟨_, rfl⟩
  obtain ⟨wB, HWB⟩ : ∃ z, Hid (z = w1.alloc (.cells (cb x).toArray 33)) := ⟨_, rfl⟩
  have s1 : w1.heap.size = gl + 1 := by rw [HW1.out, HGL.out]; simp
  have HSB : Hid (wB.heap.size = gl + 2) := by show _ = _; rw [HWB.out]; simp [s1]
  have t1 : Below (gl + 1) w1 wB := by rw [← s1, HWB.out]; exact below_alloc _ _
  have HLB : Hid (Blk wB gl [Value.slice ada n cpa, .slice adv n cpv] 47) := by
    have h1 : Blk w1 gl [Value.slice ada n cpa, .slice adv n cpv] 47 := by rw [HW1.out, HGL.out]; exact Blk.new w _ _
    exact h1.below t1 (by omega)
  have HXB : Hid (Blk wB (gl + 1) (cb x) 33) := by rw [HWB.out, ← s1]; exact Blk.new w1 _ _
  have HBW : Hid (Below w.heap.size w wB) := by
    have h1 : Below gl w w1 := by rw [HW1.out, HGL.out]; exact below_alloc _ _
    rw [← HGL.out]
    exact h1.trans (t1.mono (by omega))
  have HCA : Hid (∀ wx, Below (gl + 2) wB wx → wx.cell? ⟨gl, 0, none⟩ = some (.slice ada n cpa)) := fun wx hx => (HLB.out.below hx (by omega)).cell 0
  have HCV : Hid (∀ wx, Below (gl + 2) wB wx → wx.cell? ⟨gl, 1, none⟩ = some (.slice adv n cpv)) := fun wx hx => (HLB.out.below hx (by omega)).cell 1
  have HCX : Hid (∀ wx, Below (gl + 2) wB wx → Blk wx (gl + 1) (cb x) 33) := fun wx hx => HXB.out.below hx (by omega)
  clear t1 s1
  go_enter Tryd.func21, Tryd.ntmps21
  go_upto_region 1 with (first
    | (refine wpSeq_val _ _ (by rfl) (boxDigest _ _ (.tmp 1) rfl x rfl _) ?_)
    | (with_reducible refine wpSeq_allocD ?_ ?_ ?_
       · rfl
       · rfl
       intro gr wa nn))
  have e0 : (some ⟨w.heap.size, 0, none⟩ : Option Addr) = some ⟨gl, 0, none⟩ := by rw [HGL.out]
  have e2 : (some ⟨w.heap.size + 1, 0, none⟩ : Option Addr) = some ⟨gl + 1, 0, none⟩ := by rw [HGL.out]
  simp only [e0, e2]
  clear e0 e2
  rw [← HW1.out, ← HWB.out] at nn
  have HB : Hid (Blk wa gr (cb zb32) 33) := nn.blk
  have HS : Hid (Below (gl + 2) wB wa) := by rw [← HSB.out]; exact nn.below
  have HGR : Hid (gl + 2 ≤ gr) := by show _ ≤ _; rw [← HSB.out]; exact nn.ge
  clear nn HW1 HWB HLB HXB
  go_wp2
  go_loopw [6] (fun j wr => ∃ k : Nat, k ≤ n ∧ j = .int .i64 (k : Int) ∧ Blk wr gr (cb zb32) 33 ∧ Below (gl + 2) wB wr ∧ ∀ p ∈ l.take k, p.1 ≠ x) (fun j _ => n - (intOf j).toNat)
  case atStart => exact ⟨0, by omega, rfl, HB.out, HS.out, fun p hp => by cases hp⟩
  case round =>
    clear HB HS
    obtain ⟨k, hk, rfl, hB, hS0, hno⟩ := hrel
    have HB : Hid (Blk wr gr (cb zb32) 33) := hB
    have HS : Hid (Below (gl + 2) wB wr) := hS0
    have HNO : Hid (∀ p ∈ l.take k, p.1 ≠ x) := hno
    clear hB hS0 hno
    have ca : wr.cell? ⟨gl, 0, none⟩ = some (.slice ada n cpa) := HCA.out wr HS.out
    by_cases hlt : k < n
    · have hlti : (k : Int) < (n : Int) := by omega
      have k0 : (0 : Int) ≤ (k : Int) := by omega
      have hn6 : n < 2000000 := by rw [HN.out]; exact HL.out
      have f5 : IntKind.i64.wrap ((k : Int) + 1) = (k : Int) + 1 := wrap_small2 _ (by omega) (by omega)
      have HKL : Hid (k < l.length) := by show _ < _; rw [← HN.out]; exact hlt
      obtain ⟨ba, offa, cpa', hva, hya⟩ := HR.out.1.at (by rw [List.length_map]; have := HKL.out; omega)
      obtain ⟨bv, offv, cpv', hvv, hyv⟩ := HR.out.2.at (by rw [List.length_map]; have := HKL.out; omega)
      rw [List.length_map, ← HN.out] at hva hvv hya hyv
      simp only [Value.slice.injEq, true_and] at hva hvv
      obtain ⟨rfl, rfl⟩ := hva
      obtain ⟨rfl, rfl⟩ := hvv
      obtain ⟨da, HDA⟩ : ∃ d, Hid (d = (l.getD k ([], [])).1) := ⟨_, rfl⟩
      obtain ⟨dv, HDV⟩ : ∃ d, Hid (d = (l.getD k ([], [])).2) := ⟨_, rfl⟩
      have HA32 : Hid (da.length = 32) := by show _ = _; rw [HDA.out]; exact (HR.out.ok _ (getD_mem HKL.out)).1
      have HV32 : Hid (dv.length = 32) := by show _ = _; rw [HDV.out]; exact (HR.out.ok _ (getD_mem HKL.out)).2
      have HRA : Hid (∀ wx, Below (gl + 2) wB wx → wx.rangeAt ba (offa + k * 32) (cb da)) := fun wx hx => by
        have h := hya k hlt
        rw [map_getD1 HKL.out, ← HDA.out] at h
        have hb := rangeAt_lt h HA32.out
        exact rangeAt_below (rangeAt_below h HBW.out hb) hx (by have h2 := HGL.out; omega)
      have HRV : Hid (∀ wx, Below (gl + 2) wB wx → wx.rangeAt bv (offv + k * 32) (cb dv)) := fun wx hx => by
        have h := hyv k hlt
        rw [map_getD2 HKL.out, ← HDV.out] at h
        have hb := rangeAt_lt h HV32.out
        exact rangeAt_below (rangeAt_below h HBW.out hb) hx (by have h2 := HGL.out; omega)
      clear hya hyv
      have heq : ∀ wx : World, (Op.equalIn 10000 33 (.agg (cb da).toArray) (.agg (cb x).toArray)).run Tryd.prog wx = .ok (decide (da = x)) wx := fun wx => eq_dig da x HA32.out HX32.out wx
      go_upto_region 4 with fail
      go_cut [20] from 14 to 20 (fun b W => b = .bool (decide (da = x)) ∧ Blk W gr (cb zb32) 33 ∧ Below (gl + 2) wB W)
      case first =>
        refine wp_region_held_drew (S := Below (gl + 2) wB) (by kernel_rfl) HS.out.drew ?_
        intro hS
        have hB : Blk wr.drew gr (cb zb32) 33 := HB.out
        clear HB HS ca
        change wpAnyH _ _ _ _ _ _ _ _ (World.drew wr)
        generalize World.drew wr = y0 at *
        refine wpAnyH_take (i := 0) (v := .pointer (some ⟨gl, 0, none⟩)) rfl (by kernel_rfl) (by kernel_rfl) (by kernel_rfl) (fun _ _ _ h => h) (Or.inl ⟨by rfl, fun wx hx => by simp [go_sem]⟩) hS ?_
        simp only [Act.put, List.getElem_toArray, List.getElem_cons_zero, List.setIfInBounds_toArray, List.set_cons_zero, List.set_cons_succ]
        refine wpAnyH_take (i := 1) (v := .slice (some ⟨ba, offa, none⟩) n cpa) rfl (by kernel_rfl) (by kernel_rfl) (by kernel_rfl) (fun _ _ _ h => h) (Or.inl ⟨by rfl, fun wx hx => by (have hc := HCA.out wx hx; simp [go_sem, hc])⟩) hS ?_
        simp only [Act.put, List.getElem_toArray, List.getElem_cons_succ, List.getElem_cons_zero, List.setIfInBounds_toArray, List.set_cons_zero, List.set_cons_succ]
        refine wpAnyH_take (i := 2) (v := .int .i64 (k : Int)) rfl (by kernel_rfl) (by kernel_rfl) (by kernel_rfl) (fun _ _ _ h => h) (Or.inl ⟨by rfl, fun wx hx => by simp [go_sem]⟩) hS ?_
        simp only [Act.put, List.getElem_toArray, List.getElem_cons_succ, List.getElem_cons_zero, List.setIfInBounds_toArray, List.set_cons_zero, List.set_cons_succ]
        refine wpAnyH_take (i := 3) (v := .pointer (some ⟨ba, offa + k * 32, none⟩)) rfl (by kernel_rfl) (by kernel_rfl) (by kernel_rfl) (fun _ _ _ h => h) (Or.inl ⟨by rfl, fun wx hx => by (simp [go_sem, hlti, k0])⟩) hS ?_
        simp only [Act.put, List.getElem_toArray, List.getElem_cons_succ, List.getElem_cons_zero, List.setIfInBounds_toArray, List.set_cons_zero, List.set_cons_succ]
        refine wpAnyH_take (i := 4) (v := .agg (cb da).toArray) rfl (by kernel_rfl) (by kernel_rfl) (by kernel_rfl) (fun _ _ _ h => h) (Or.inl ⟨by rfl, fun wx hx => by exact load_run 33 _ rfl _ _ rfl (cb da) _ (HRA.out wx hx) Tryd.underlying33 rfl (by rw [cb_len, HA32.out]; exact info_digest)⟩) hS ?_
        simp only [Act.put, List.getElem_toArray, List.getElem_cons_succ, List.getElem_cons_zero, List.setIfInBounds_toArray, List.set_cons_zero, List.set_cons_succ]
        refine wpAnyH_take (i := 5) (v := .agg (cb x).toArray) rfl (by kernel_rfl) (by kernel_rfl) (by kernel_rfl) (fun _ _ _ h => h) (Or.inl ⟨by rfl, fun wx hx => by exact loadDigest _ (gl + 1) x HX32.out (HCX.out wx hx) rfl rfl⟩) hS ?_
        simp only [Act.put, List.getElem_toArray, List.getElem_cons_succ, List.getElem_cons_zero, List.setIfInBounds_toArray, List.set_cons_zero, List.set_cons_succ]
        refine wpAnyH_take (i := 6) (v := .bool (decide (da = x))) rfl (by kernel_rfl) (by kernel_rfl) (by kernel_rfl) (fun _ _ _ h => h) (Or.inl ⟨by rfl, fun wx hx => by (have hq := heq wx; simp [go_sem, hq])⟩) hS ?_
        simp only [Act.put, List.getElem_toArray, List.getElem_cons_succ, List.getElem_cons_zero, List.setIfInBounds_toArray, List.set_cons_zero, List.set_cons_succ]
        refine wpAnyH_done (by kernel_rfl) ?_ _
        go_wp2
        go_meet
        case rel => exact ⟨rfl, hB, hS⟩
      case rest =>
        clear HB HS heq ca
        obtain ⟨rfl, hB, hS0⟩ := hcut
        have HB : Hid (Blk wc gr (cb zb32) 33) := hB
        have HS : Hid (Below (gl + 2) wB wc) := hS0
        clear hB hS0
        obtain ⟨wq, HWQ⟩ : ∃ z, Hid (z = wc) := ⟨_, rfl⟩
        rw [← HWQ.out] at HB HS ⊢
        clear HWQ
        by_cases hne : da = x
        · have HGE : Hid (getL l x = some dv) := by show _ = _; rw [HDV.out]; exact getL_at HNO.out HKL.out (by rw [← HDA.out]; exact hne)
          have cv : wq.cell? ⟨gl, 1, none⟩ = some (.slice (some ⟨bv, offv, none⟩) n cpv) := HCV.out wq HS.out
          rw [decide_eq_true hne]
          clear hne
          go_wp2_with (first
            | (with_reducible refine wpSeq_loadAt (.tmp 24) bv (offv + k * 32) dv ?_ ?_ ?_ ?_ ?_ ?_
               · exact HV32.out
               · exact HRV.out wq HS.out
               · with_reducible rfl
               · rfl
               · rfl)
            | (with_reducible refine wpSeq_storeD (.tmp 4) (.tmp 25) gr zb32 dv ?_ ?_ ?_ ?_ ?_ ?_ ?_ ?_
               · rfl
               · exact HV32.out
               · exact HB.out
               · rfl
               · rfl
               · rfl
               · rfl
               intro W9 h9))
          refine bodyPost_ret (v := Value.tuple #[Value.agg (cb dv).toArray, Value.bool true]) ?_ rfl ⟨by rw [HGE.out]; rfl, (HBW.out.trans (HS.out.mono (by have := HGL.out; omega))).trans (h9.only.below (by have h1 := HGR.out; have h2 := HGL.out; omega) (Nat.le_trans HBW.out.size HS.out.size))⟩
          exact results_row_tmp (by rfl) _ _ _ gr 33 (cb dv) _ (.bool true) rfl rfl h9.blk Tryd.underlying33 rfl (by rw [cb_len, HV32.out]; exact info_digest)
        · have HN3 : Hid (∀ p ∈ l.take (k + 1), p.1 ≠ x) := by
            intro p hp
            rw [take_map HKL.out] at hp
            rcases List.mem_append.1 hp with hp | hp
            · exact HNO.out p hp
            · rw [List.mem_singleton] at hp; subst hp; rw [← HDA.out]; exact hne
          rw [decide_eq_false hne]
          clear hne
          go_wp2
          go_roundw
          case rel => exact ⟨k + 1, by omega, by simp, HB.out, HS.out, HN3.out⟩
          case measure => simp [intOf]; omega
    · have hkn : k = n := by omega
      subst hkn
      have ht : l.take k = l := by rw [HN.out]; exact List.take_length
      have HGE : Hid (getL l x = none) := getL_not (by have h := HNO.out; rw [ht] at h; exact h)
      obtain ⟨zs, HZS⟩ : ∃ z, Hid (z = cb zb32) := ⟨_, rfl⟩
      clear ht
      go_wp2_with (first
        | (with_reducible refine wpSeq_buildZ0 ?_ ?_ ?_
           · rfl
           · rfl
           skip)
        | (with_reducible refine wpSeq_storeD (.tmp 4) (.tmp 26) gr zb32 zb32 ?_ ?_ ?_ ?_ ?_ ?_ ?_ ?_
           · rfl
           · rfl
           · exact HB.out
           · rfl
           · rfl
           · rfl
           · rfl
           intro W9 h9))
      refine bodyPost_ret (v := Value.tuple #[Value.agg (cb zb32).toArray, Value.bool false]) ?_ rfl ⟨by rw [HGE.out]; rfl, (HBW.out.trans (HS.out.mono (by have := HGL.out; omega))).trans (h9.only.below (by have h1 := HGR.out; have h2 := HGL.out; omega) (Nat.le_trans HBW.out.size HS.out.size))⟩
      exact results_row_tmp (by rfl) _ _ _ gr 33 (cb zb32) _ (.bool false) rfl rfl h9.blk Tryd.underlying33 rfl (by rw [cb_len, zb32_len]; exact info_digest)
end Go.Proofs.YtpeifpoeeopecaaDoor
/- A proof in memory; the walk of the reference's SameProof (as in layer 5). -/
namespace Go.Proofs.YtpeifpoeeopecaaDoor
open Go.RowKit
set_option maxRecDepth 100000
def prfV (vs : Value) (en : Int) (ix va : List (BitVec 8)) : List Value := vs :: .int .i64 en :: (cb ix ++ cb va)
theorem Blk.mid {w : World} {g off : Nat} {A B B2 C : List Value} {t : TypeId} (h : Blk w g (A ++ (B ++ C)) t) (hl : B2.length = B.length) (ho : A.length = off) : Blk (w.setCells g off B2) g (A ++ (B2 ++ C)) t := by
  subst ho
  have h2 := setCells_eq g B2 A.length w _ t h (by simp only [List.length_append]; omega)
  have e : (A ++ (B ++ C)).take A.length ++ B2 ++ (A ++ (B ++ C)).drop (A.length + B2.length) = A ++ (B2 ++ C) := by
    rw [List.take_left, ← List.drop_drop, List.drop_left, hl, List.drop_left, List.append_assoc]
  rwa [e] at h2
theorem prfV_ix {vs : Value} {en : Int} {x y x2 : List (BitVec 8)} {w : World} {g : Nat} {t : TypeId} (h : Blk w g (prfV vs en x y) t) (hx : x.length = 32) (h2 : x2.length = 32) : Blk (w.setCells g 2 (cb x2)) g (prfV vs en x2 y) t :=
  Blk.mid (A := [vs, .int .i64 en]) (B := cb x) (C := cb y) h (by rw [cb_len, cb_len, hx, h2]) rfl
theorem prfV_va {vs : Value} {en : Int} {x y y2 : List (BitVec 8)} {w : World} {g : Nat} {t : TypeId} (h : Blk w g (prfV vs en x y) t) (hx : x.length = 32) (hy : y.length = 32) (h2 : y2.length = 32) : Blk (w.setCells g 34 (cb y2)) g (prfV vs en x y2) t := by
  have e : ∀ u, prfV vs en x u = (vs :: .int .i64 en :: cb x) ++ (cb u ++ []) := fun u => by simp only [prfV, List.cons_append, List.append_nil]
  rw [e] at h ⊢
  exact h.mid (by rw [cb_len, cb_len, hy, h2]) (by rw [List.length_cons, List.length_cons, cb_len, hx])
theorem prfV_len {vs : Value} {en : Int} {x y : List (BitVec 8)} (hx : x.length = 32) (hy : y.length = 32) : (prfV vs en x y).length = 66 := by simp only [prfV, List.length_cons, List.length_append, cb_len, hx, hy]
theorem Blk.rangeMid {w : World} {g off : Nat} {A B C : List Value} {t : TypeId} (h : Blk w g (A ++ (B ++ C)) t) (ho : A.length = off) : w.rangeAt g off B := by
  subst ho
  intro j v hj
  have hlt : j < B.length := (List.getElem?_eq_some_iff.1 hj).1
  rw [h.cell, List.getElem?_append_right (by omega), Nat.add_sub_cancel_left, List.getElem?_append_left hlt, hj]
theorem prfV_rix {vs : Value} {en : Int} {x y : List (BitVec 8)} {w : World} {g : Nat} {t : TypeId} (h : Blk w g (prfV vs en x y) t) : w.rangeAt g 2 (cb x) :=
  Blk.rangeMid (A := [vs, .int .i64 en]) (B := cb x) (C := cb y) h rfl
theorem prfV_rva {vs : Value} {en : Int} {x y : List (BitVec 8)} {w : World} {g : Nat} {t : TypeId} (h : Blk w g (prfV vs en x y) t) (hx : x.length = 32) : w.rangeAt g 34 (cb y) := by
  have e : prfV vs en x y = (vs :: .int .i64 en :: cb x) ++ (cb y ++ []) := by simp only [prfV, List.cons_append, List.append_nil]
  rw [e] at h
  exact h.rangeMid (by rw [List.length_cons, List.length_cons, cb_len, hx])
theorem infoD (d : List (BitVec 8)) (h : d.length = 32) : (Tryd.prog.info? 33).map (·.size) = some (cb d).length := by rw [cb_len, h]; exact info_digest
theorem wpSeq_box {ops : Array Oper} {Q : Exit → Act → World → Prop} {rest : List Oper} {o : Oper} {a : Act} {w : World} (ty : TypeId) (x : Operand) (ho : o.op = .box ty x) (cs : List Value) (hx : a.eval x = .agg cs.toArray) (hw : Region.wanted o (yielded ops a.tmps) = true) (w0 : World) (h0 : w0 = w.alloc (.cells cs.toArray ty))
    (h : wpList Tryd.prog ops Q rest (a.put o.dst (.pointer (some ⟨w.heap.size, 0, none⟩))) w0) : wpList Tryd.prog ops Q (o :: rest) a w := by
  refine wpSeq_val _ w0 hw ?_ h
  subst h0
  unfold execOp
  rw [ho]
  simp only [hx]
  rfl
theorem wpSeq_boxAt {ops : Array Oper} {Q : Exit → Act → World → Prop} {rest : List Oper} {o : Oper} {a : Act} {w : World} (ty : TypeId) (x : Operand) (ho : o.op = .box ty x) (cs : List Value) (hx : a.eval x = .agg cs.toArray) (hw : Region.wanted o (yielded ops a.tmps) = true) (w0 : World) (h0 : w0 = w.alloc (.cells cs.toArray ty)) {n : Nat} (hn : w.heap.size = n)
    (h : wpList Tryd.prog ops Q rest (a.put o.dst (.pointer (some ⟨n, 0, none⟩))) w0) : wpList Tryd.prog ops Q (o :: rest) a w := by
  subst hn
  exact wpSeq_box ty x ho cs hx hw w0 h0 h
theorem wpSeq_loadR {ops : Array Oper} {Q : Exit → Act → World → Prop} {rest : List Oper} {o : Oper} {a : Act} {w : World} (x : Operand) (ho : o.op = .load 33 x) (hw : Region.wanted o (yielded ops a.tmps) = true) (b of : Nat) (hx : a.eval x = .pointer (some ⟨b, of, none⟩)) (cs : List Value) (hc : w.rangeAt b of cs) (hi : (Tryd.prog.info? 33).map (·.size) = some cs.length)
    (h : wpList Tryd.prog ops Q rest (a.put o.dst (.agg cs.toArray)) w) : wpList Tryd.prog ops Q (o :: rest) a w :=
  wpSeq_val _ _ hw (load_run 33 x ho b of hx cs _ hc Tryd.underlying33 rfl hi) h
theorem takeD_same {a b : List (List (BitVec 8))} {k : Nat} (h : a.take k = b.take k) (ha : k < a.length) (hb : k < b.length) (he : a.getD k [] = b.getD k []) : a.take (k + 1) = b.take (k + 1) := by
  rw [List.take_add_one, List.take_add_one, h, List.getElem?_eq_getElem ha, List.getElem?_eq_getElem hb]
  rw [List.getD_eq_getElem?_getD, List.getD_eq_getElem?_getD, List.getElem?_eq_getElem ha, List.getElem?_eq_getElem hb] at he
  simp only [Option.getD_some] at he
  rw [he]
end Go.Proofs.YtpeifpoeeopecaaDoor
/- The walk of the reference's Prove. -/
namespace Go.Proofs.YtpeifpoeeopecaaDoor
open Go.RowKit
set_option maxRecDepth 100000
theorem ReadsD.same {W W' : World} {v : Value} {ds : List (List (BitVec 8))} (h : ReadsD W v ds) (hs : 0 < ds.length → ∀ j, v.ownBlock = some j → W'.heap[j]? = W.heap[j]?) : ReadsD W' v ds := by
  obtain ⟨⟨ad, cap, rfl, hc, hn, hx⟩, h32⟩ := h
  refine ⟨⟨ad, cap, rfl, hc, hn, fun hp => ?_⟩, h32⟩
  obtain ⟨b, off, rfl, hy⟩ := hx hp
  refine ⟨b, off, rfl, fun j hj => ?_⟩
  intro i u hi
  rw [World.cell?_of_block (w := W) (hs hp b rfl)]
  exact hy j hj i u hi
theorem ReadsD.inB {W : World} {v : Value} {ds : List (List (BitVec 8))} (h : ReadsD W v ds) (hp : 0 < ds.length) : ∀ j, v.ownBlock = some j → j < W.heap.size := by
  intro j hj
  obtain ⟨⟨ad, cap, rfl, hc, hn, hx⟩, h32⟩ := h
  obtain ⟨b, off, rfl, hy⟩ := hx hp
  simp only [Value.ownBlock, Option.some.injEq] at hj
  subst hj
  exact rangeAt_lt (hy 0 hp) (getD_mem32 h32 hp)
/-- where Prove stands -/
structure Pv (w : World) (gl : Nat) (x : List (BitVec 8)) (xa xv vs : Value) (l : List Lf) (sd : List (List (BitVec 8))) (W : World) : Prop where
  lb : Blk W gl [xa, xv] 47
  xb : Blk W (gl + 1) (cb x) 33
  rb : Blk W (gl + 2) (prfV nilV 0 zb32 zb32) 36
  pb : Blk W (gl + 3) (prfV vs 0 zb32 zb32) 36
  os : OwnD W (gl + 4) vs sd
  rl : ReadsLf W xa xv l
  na : 0 < l.length → ∀ j, xa.ownBlock = some j → (j < gl ∨ gl + 4 ≤ j) ∧ vs.ownBlock ≠ some j
  nv : 0 < l.length → ∀ j, xv.ownBlock = some j → (j < gl ∨ gl + 4 ≤ j) ∧ vs.ownBlock ≠ some j
  bel : Below gl w W
theorem Pv.next {w W W' : World} {gl : Nat} {x : List (BitVec 8)} {xa xv vs : Value} {l : List Lf} {sd : List (List (BitVec 8))} (h : Pv w gl x xa xv vs l sd W) (hb : Below W.heap.size W W') : Pv w gl x xa xv vs l sd W' :=
  ⟨h.lb.below hb h.lb.lt, h.xb.below hb h.xb.lt, h.rb.below hb h.rb.lt, h.pb.below hb h.pb.lt, h.os.keep fun k _ hk => hb.block k hk, h.rl.below hb, h.na, h.nv, h.bel.trans (hb.mono (Nat.le_of_lt h.lb.lt))⟩
theorem Pv.drew {w W : World} {gl : Nat} {x : List (BitVec 8)} {xa xv vs : Value} {l : List Lf} {sd : List (List (BitVec 8))} (h : Pv w gl x xa xv vs l sd W) : Pv w gl x xa xv vs l sd W.drew :=
  ⟨h.lb, h.xb, h.rb, h.pb, h.os.keep fun _ _ _ => rfl, ⟨h.rl.1.same fun _ _ _ => rfl, h.rl.2.same fun _ _ _ => rfl⟩, h.na, h.nv, ⟨h.bel.os, h.bel.tape, h.bel.output, h.bel.size, h.bel.block⟩⟩
theorem heap_one {W : World} {g i k : Nat} {u : Value} (h : k ≠ g) : (W.setCell ⟨g, i, none⟩ u).heap[k]? = W.heap[k]? := Below.heap_setCell _ _ _ _ h
theorem Blk.one {W : World} {g g' i : Nat} {u : Value} {cs : List Value} {t : TypeId} (h : Blk W g cs t) (hn : g ≠ g') : Blk (W.setCell ⟨g', i, none⟩ u) g cs t := by
  unfold Blk at *
  rw [heap_one hn]
  exact h
theorem Pv.side {w W W' : World} {gl : Nat} {x r : List (BitVec 8)} {xa xv vs vs' : Value} {l : List Lf} {sd : List (List (BitVec 8))} (h : Pv w gl x xa xv vs l sd W) (ho : OwnD W' (gl + 4) vs' (sd ++ [r])) (hg : Grow (gl + 4) W vs W' vs') : Pv w gl x xa xv vs' l (sd ++ [r]) (W'.setCell ⟨gl + 3, 0, none⟩ vs') := by
  have hv : ∀ j, vs.ownBlock = some j → gl + 4 ≤ j := fun j hj => (h.os.lt j hj).1
  have keep : ∀ v : Value, (∀ j, v.ownBlock = some j → (j < gl ∨ gl + 4 ≤ j) ∧ vs.ownBlock ≠ some j) → (∀ j, v.ownBlock = some j → j < W.heap.size) → ∀ j, v.ownBlock = some j → (W'.setCell ⟨gl + 3, 0, none⟩ vs').heap[j]? = W.heap[j]? := fun v h1 h2 j hj => by
    have h3 := h1 j hj
    rw [heap_one (by omega), hg.other j (fun e => h3.2 e.symm) (h2 j hj)]
  have apart : ∀ v : Value, (∀ j, v.ownBlock = some j → (j < gl ∨ gl + 4 ≤ j) ∧ vs.ownBlock ≠ some j) → (∀ j, v.ownBlock = some j → j < W.heap.size) → ∀ j, v.ownBlock = some j → (j < gl ∨ gl + 4 ≤ j) ∧ vs'.ownBlock ≠ some j := fun v h1 h2 j hj => by
    refine ⟨(h1 j hj).1, ?_⟩
    rcases hg.lies with e | e
    · rw [e]; exact (h1 j hj).2
    · rw [e]; intro e2; cases e2; exact absurd (h2 _ hj) (Nat.lt_irrefl _)
  have la : 0 < l.length → ∀ j, xa.ownBlock = some j → j < W.heap.size := fun hp => h.rl.1.inB (by rw [List.length_map]; exact hp)
  have lv : 0 < l.length → ∀ j, xv.ownBlock = some j → j < W.heap.size := fun hp => h.rl.2.inB (by rw [List.length_map]; exact hp)
  refine ⟨(h.lb.grow hg hv (by omega)).one (by omega), (h.xb.grow hg hv (by omega)).one (by omega), (h.rb.grow hg hv (by omega)).one (by omega), (h.pb.grow hg hv (by omega)).set 0 vs', ho.keep fun k h1 _ => heap_one (by omega), ⟨?_, ?_⟩, fun hp => apart xa (h.na hp) (la hp), fun hp => apart xv (h.nv hp) (lv hp), (h.bel.trans (hg.below.mono (by omega))).setCell (by show gl ≤ gl + 3; omega) _⟩
  · exact h.rl.1.same fun hp => by rw [List.length_map] at hp; exact keep xa (h.na hp) (la hp)
  · exact h.rl.2.same fun hp => by rw [List.length_map] at hp; exact keep xv (h.nv hp) (lv hp)
theorem Pv.half {w W W' : World} {gl : Nat} {x : List (BitVec 8)} {xa xv ya yv vs : Value} {l l2 : List Lf} {sd : List (List (BitVec 8))} (h : Pv w gl x xa xv vs l sd W) (hb : Below W.heap.size W W') (ho : OwnLf W' W.heap.size ya yv (l2.map (·.1)) (l2.map (·.2))) : Pv w gl x ya yv vs l2 sd ((W'.setCell ⟨gl, 0, none⟩ ya).setCell ⟨gl, 1, none⟩ yv) := by
  have hn := h.next hb
  have hz : gl + 4 ≤ W.heap.size := h.pb.lt
  have hk : ∀ k, k ≠ gl → ((W'.setCell ⟨gl, 0, none⟩ ya).setCell ⟨gl, 1, none⟩ yv).heap[k]? = W'.heap[k]? := fun k hk => (heap_one hk).trans (heap_one hk)
  have ap : ∀ v : Value, (∀ j, v.ownBlock = some j → W.heap.size ≤ j) → ∀ j, v.ownBlock = some j → (j < gl ∨ gl + 4 ≤ j) ∧ vs.ownBlock ≠ some j := fun v h1 j hj => by
    have h2 := h1 j hj
    refine ⟨Or.inr (by omega), fun e => ?_⟩
    have h3 := (h.os.lt j e).2
    omega
  refine ⟨(hn.lb.set 0 _).set 1 _, (hn.xb.one (by omega)).one (by omega), (hn.rb.one (by omega)).one (by omega), (hn.pb.one (by omega)).one (by omega), hn.os.keep fun k h1 _ => hk k (by omega), ⟨?_, ?_⟩, fun _ => ap ya fun j hj => (ho.a.lt j hj).1, fun _ => ap yv fun j hj => (ho.v.lt j hj).1, (hn.bel.setCell (Nat.le_refl _) _).setCell (Nat.le_refl _) _⟩
  · exact ho.a.readsD.same fun _ j hj => hk j (by have := (ho.a.lt j hj).1; omega)
  · exact ho.v.readsD.same fun _ j hj => hk j (by have := (ho.v.lt j hj).1; omega)
/-- where Prove stands behind its loop; cs: the proof's cells -/
structure Fn (w : World) (gl : Nat) (xa xv vs : Value) (sd : List (List (BitVec 8))) (cs : List Value) (ba offa : Nat) (da : List (BitVec 8)) (bv offv : Nat) (dv : List (BitVec 8)) (W : World) : Prop where
  lb : Blk W gl [xa, xv] 47
  rb : Blk W (gl + 2) (prfV nilV 0 zb32 zb32) 36
  pb : Blk W (gl + 3) cs 36
  os : OwnD W (gl + 4) vs sd
  ra : W.rangeAt ba offa (cb da)
  rv : W.rangeAt bv offv (cb dv)
  ba : ba ≠ gl + 3
  bv : bv ≠ gl + 3
  bel : Below gl w W
theorem Fn.at {w W W' : World} {gl : Nat} {xa xv vs : Value} {sd : List (List (BitVec 8))} {cs cs2 : List Value} {ba offa : Nat} {da : List (BitVec 8)} {bv offv : Nat} {dv : List (BitVec 8)} (h : Fn w gl xa xv vs sd cs ba offa da bv offv dv W) (hk : ∀ k, k ≠ gl + 3 → W'.heap[k]? = W.heap[k]?) (hb : Blk W' (gl + 3) cs2 36) (hbel : Below gl w W') : Fn w gl xa xv vs sd cs2 ba offa da bv offv dv W' := by
  refine ⟨?_, ?_, hb, h.os.keep fun k h1 _ => hk k (by omega), ?_, ?_, h.ba, h.bv, hbel⟩
  · have := h.lb; unfold Blk at *; rw [hk gl (by omega)]; exact this
  · have := h.rb; unfold Blk at *; rw [hk (gl + 2) (by omega)]; exact this
  · intro j u hj
    rw [World.cell?_of_block (w := W) (hk ba h.ba)]
    exact h.ra j u hj
  · intro j u hj
    rw [World.cell?_of_block (w := W) (hk bv h.bv)]
    exact h.rv j u hj
theorem At'.setCells {g : Nat} {W0 : World} : ∀ (vs : List Value) (o : Nat) (W : World), (∀ k, k ≠ g → W.heap[k]? = W0.heap[k]?) → ∀ k, k ≠ g → (W.setCells g o vs).heap[k]? = W0.heap[k]?
  | [], _, _, h => h
  | v :: r, o, W, h => by
    rw [World.setCells]
    exact At'.setCells r (o + 1) _ fun k hk => (heap_one hk).trans (h k hk)
def pend (o : Option Lf) : Int × List (BitVec 8) × List (BitVec 8) :=
  match o with
  | none => (0, zb32, zb32)
  | some p => (1, p.1, p.2)
/-- how far the way was told -/
structure Wy (l0 : List Lf) (x : List (BitVec 8)) (d : Nat) (l : List Lf) (sd : List (List (BitVec 8))) : Prop where
  le : d ≤ 256
  fit : Fits l d
  eq : wayL l0 x 0 = (sd ++ (wayL l x d).1, (wayL l x d).2)
  len : l.length ≤ l0.length
  sides : sd.length = d
theorem Wy.start {l : List Lf} {x : List (BitVec 8)} (h : Fits l 0) : Wy l x 0 l [] := ⟨by omega, h, by simp, Nat.le_refl _, rfl⟩
theorem Wy.next {l0 l : List Lf} {x : List (BitVec 8)} {d : Nat} {sd : List (List (BitVec 8))} (h : Wy l0 x d l sd) (h2 : 2 ≤ l.length) : Wy l0 x (d + 1) (halfL l d (bt x d)) (sd ++ [rootL (halfL l d (!bt x d)) (d + 1)]) := by
  have hd := h.fit.lt h2
  refine ⟨by omega, h.fit.half _, ?_, Nat.le_trans (half_le _ _ _) h.len, by rw [List.length_append, h.sides]; rfl⟩
  rw [h.eq, wayL_two h.fit h2]
  simp
theorem Wy.done {l0 l : List Lf} {x : List (BitVec 8)} {d : Nat} {sd : List (List (BitVec 8))} (h : Wy l0 x d l sd) (h1 : l.length ≤ 1) : wayL l0 x 0 = (sd, l.head?) := by
  rw [h.eq, wayL_short x d h1]
  simp
theorem Wy.stop {l0 l : List Lf} {x : List (BitVec 8)} {d : Nat} {sd : List (List (BitVec 8))} (h : Wy l0 x d l sd) (h1 : ¬ (d < 256 ∧ 1 < l.length)) : l.length ≤ 1 := by
  rcases Nat.lt_or_ge l.length 2 with h2 | h2
  · omega
  · have := h.fit.lt h2
    omega
theorem allocPrf (f : Operand → Value) (o : Oper) (ho : o.op = .alloc 36) (w : World) : (execOp f o).run Tryd.prog w = .ok (.value (.pointer (some ⟨w.heap.size, 0, none⟩))) (w.alloc (.cells (prfV nilV 0 zb32 zb32).toArray 36)) := by
  unfold execOp
  rw [ho]
  kernel_rfl
theorem buildPrf (f : Operand → Value) (o : Oper) (ho : o.op = .build 36 #[]) (w : World) : (execOp f o).run Tryd.prog w = .ok (.value (.agg (prfV nilV 0 zb32 zb32).toArray)) w := by
  unfold execOp
  rw [ho]
  kernel_rfl
theorem info_proof : (Tryd.prog.info? 36).map (·.size) = some 66 := by kernel_rfl
theorem prfV_one {vs : Value} {en : Int} {x y : List (BitVec 8)} (h : vs.oneCell' = true) : ∀ v ∈ prfV vs en x y, v.oneCell' = true := by
  intro v hv
  simp only [prfV, List.mem_cons, List.mem_append] at hv
  rcases hv with rfl | rfl | hv | hv
  · exact h
  · rfl
  · exact cb_one _ v hv
  · exact cb_one _ v hv
theorem wpSeq_buildP {ops : Array Oper} {Q : Exit → Act → World → Prop} {rest : List Oper} {o : Oper} {a : Act} {w : World} (ho : o.op = .build 36 #[]) (hw : Region.wanted o (yielded ops a.tmps) = true) {zs : List Value} (hz : zs = prfV nilV 0 zb32 zb32)
    (h : wpList Tryd.prog ops Q rest (a.put o.dst (.agg zs.toArray)) w) : wpList Tryd.prog ops Q (o :: rest) a w := by
  subst hz
  exact wpSeq_val _ _ hw (buildPrf _ _ ho _) h
theorem wpSeq_allocP {ops : Array Oper} {Q : Exit → Act → World → Prop} {rest : List Oper} {o : Oper} {a : Act} {w : World} (ho : o.op = .alloc 36) (hw : Region.wanted o (yielded ops a.tmps) = true) {zs : List Value} (hz : zs = prfV nilV 0 zb32 zb32)
    (h : wpList Tryd.prog ops Q rest (a.put o.dst (.pointer (some ⟨w.heap.size, 0, none⟩))) (w.alloc (.cells zs.toArray 36))) : wpList Tryd.prog ops Q (o :: rest) a w := by
  subst hz
  exact wpSeq_val _ _ hw (allocPrf _ _ ho _) h
set_option maxRecDepth 100000 in
set_option maxHeartbeats 8000000 in
theorem lfProve_any (va vv : Value) (l0 : List Lf) (x : List (BitVec 8)) (w : World) (hR : ReadsLf w va vv l0) (hF : Fits l0 0) (hl : l0.length < 1000000) (hx : x.length = 32) :
    Calls Tryd.prog 22 #[.agg #[va, vv], .agg (cb x).toArray] w fun e w' => ∃ vs, e = .returned (.agg (prfV vs (pend (wayL l0 x 0).2).1 (pend (wayL l0 x 0).2).2.1 (pend (wayL l0 x 0).2).2.2).toArray) ∧ OwnD w' w.heap.size vs (wayL l0 x 0).1 ∧ Below w.heap.size w w' := by
  have HL : Hid (l0.length < 1000000) := hl
  have HX32 : Hid (x.length = 32) := hx
  have HWY : Hid (Wy l0 x 0 l0 []) := Wy.start hF
  obtain ⟨n, HN⟩ : ∃ n, Hid (n = l0.length) := ⟨_, rfl⟩
  obtain ⟨ada, cpa, hva⟩ := hR.1.slice
  obtain ⟨adv, cpv, hvv⟩ := hR.2.slice
  rw [List.length_map, ← HN.out] at hva hvv
  subst hva hvv
  obtain ⟨gl, HGL⟩ : ∃ g, Hid (g = w.heap.size) := ⟨_, rfl⟩
  obtain ⟨w1, HW1⟩ : ∃ z, Hid (z = w.alloc (.cells [Value.slice ada n cpa, .slice adv n cpv].toArray 47)) := ⟨_, rfl⟩
  obtain ⟨w2, HW2⟩ : ∃ z, Hid (z = w1.alloc (.cells (cb x).toArray 33)) := ⟨_, rfl⟩
  obtain ⟨zs, HZS⟩ : ∃ z, Hid (z = prfV nilV 0 zb32 zb32) := ⟨_, rfl⟩
  obtain ⟨w3, HW3⟩ : ∃ z, Hid (z = w2.alloc (.cells zs.toArray 36)) := ⟨_, rfl⟩
  obtain ⟨w4, HW4⟩ : ∃ z, Hid (z = (w3.alloc (.cells zs.toArray 36)).setCells w3.heap.size 0 zs) := ⟨_, rfl⟩
  have s1 : w1.heap.size = gl + 1 := by rw [HW1.out, HGL.out]; simp
  have s2 : w2.heap.size = gl + 2 := by rw [HW2.out]; simp [s1]
  have s3 : w3.heap.size = gl + 3 := by rw [HW3.out]; simp [s2]
  have t0 : Below gl w w1 := by rw [HW1.out, HGL.out]; exact below_alloc _ _
  have t1 : Below (gl + 1) w1 w2 := by rw [← s1, HW2.out]; exact below_alloc _ _
  have t2 : Below (gl + 2) w2 w3 := by rw [← s2, HW3.out]; exact below_alloc _ _
  have t3 : Below (gl + 3) w3 w4 := by rw [← s3, HW4.out]; exact Below.setCells _ (Nat.le_refl _) _ _ _ (below_alloc _ _)
  have HI : Hid (Pv w gl x (.slice ada n cpa) (.slice adv n cpv) nilV l0 [] w4) := by
    have h1 : Blk w1 gl [Value.slice ada n cpa, .slice adv n cpv] 47 := by rw [HW1.out, HGL.out]; exact Blk.new w _ _
    have h2 : Blk w2 (gl + 1) (cb x) 33 := by rw [HW2.out, ← s1]; exact Blk.new w1 _ _
    have h3 : Blk w3 (gl + 2) zs 36 := by rw [HW3.out, ← s2]; exact Blk.new w2 _ _
    have h4 : Blk w4 (gl + 3) zs 36 := by rw [HW4.out, ← s3]; exact (Blk.new w3 _ _).whole zs rfl
    have hb : Below gl w w4 := ((t0.trans (t1.mono (by omega))).trans (t2.mono (by omega))).trans (t3.mono (by omega))
    rw [HZS.out] at h3 h4
    have hb' : Below w.heap.size w w4 := by rw [← HGL.out]; exact hb
    exact ⟨((h1.below t1 (by omega)).below t2 (by omega)).below t3 (by omega), (h2.below t2 (by omega)).below t3 (by omega), h3.below t3 (by omega), h4, OwnD.nil _ _, hR.below hb', fun hp j hj => ⟨Or.inl (by rw [HGL.out]; exact hR.1.inB (by rw [List.length_map]; exact hp) j hj), by simp [nilV, Value.ownBlock]⟩, fun hp j hj => ⟨Or.inl (by rw [HGL.out]; exact hR.2.inB (by rw [List.length_map]; exact hp) j hj), by simp [nilV, Value.ownBlock]⟩, hb⟩
  have HIZ : Hid ((Tryd.prog.info? 36).map (·.size) = some zs.length) := by show _ = _; rw [HZS.out]; exact info_proof
  have H1Z : Hid (zs.toArray.all (·.oneCell') = true) := by show _ = _; rw [HZS.out]; exact all_oneCell_toArray (prfV_one rfl)
  clear t0 t1 t2 t3 hR hF hl hx
  have HS : Hid (w1.heap.size = gl + 1 ∧ w2.heap.size = gl + 2 ∧ w3.heap.size = gl + 3) := ⟨s1, s2, s3⟩
  clear s1 s2 s3
  go_enter Tryd.func22, Tryd.ntmps22
  go_upto_region 1 with (first
    | (refine wpSeq_val _ _ (by rfl) (boxDigest _ _ (.tmp 1) rfl x rfl _) ?_)
    | (refine wpSeq_val _ _ (by rfl) (allocPrf _ _ rfl _) ?_))
  have e0 : (some ⟨w.heap.size, 0, none⟩ : Option Addr) = some ⟨gl, 0, none⟩ := by rw [HGL.out]
  simp only [e0]
  clear e0
  rw [← HW1.out, ← HW2.out, ← HZS.out, ← HW3.out, HS.out.1, HS.out.2.1]
  clear HW1 HW2 HW3
  go_wp2_with (first
    | (with_reducible refine wpSeq_buildP ?_ ?_ HZS.out ?_
       · rfl
       · rfl
       skip)
    | (with_reducible refine wpSeq_allocP ?_ ?_ HZS.out ?_
       · rfl
       · rfl
       skip)
    | (with_reducible refine wpList_store_mid ?_ 36 (.tmp 5) (.tmp 8) ?_ w3.heap.size 0 zs.toArray ?_ ?_ ((Blk.new w3 zs 36).there 0 _ (by rw [List.size_toArray]; omega)) (by rw [List.size_toArray]; exact HIZ.out) H1Z.out ?_
       · rfl
       · rfl
       · rfl
       · rfl))
  change Code.wp _ _ _ _ ((w3.alloc (.cells zs.toArray 36)).setCells w3.heap.size 0 zs)
  rw [← HW4.out]
  have e3 : (some ⟨w3.heap.size, 0, none⟩ : Option Addr) = some ⟨gl + 3, 0, none⟩ := by rw [HS.out.2.2]
  simp only [e3]
  clear e3 HW4 HS
  go_loopw [6] (fun j wr => ∃ (d : Nat) (xa xv vs : Value) (l : List Lf) (sd : List (List (BitVec 8))), j = .int .i64 (d : Int) ∧ Pv w gl x xa xv vs l sd wr ∧ Wy l0 x d l sd) (fun j _ => 256 - (intOf j).toNat)
  case atStart => exact ⟨0, _, _, _, _, _, rfl, HI.out, HWY.out⟩
  case round =>
    clear HI HWY
    obtain ⟨d, xa, xv, vs, l, sd, rfl, hI, hW⟩ := hrel
    obtain ⟨na, HNA⟩ : ∃ z : Nat, Hid (z = l.length) := ⟨_, rfl⟩
    obtain ⟨adx, cpx, hxa⟩ := hI.rl.1.slice
    obtain ⟨adw, cpw, hxv⟩ := hI.rl.2.slice
    rw [List.length_map, ← HNA.out] at hxa hxv
    subst hxa hxv
    obtain ⟨ns, HNS⟩ : ∃ z : Nat, Hid (z = sd.length) := ⟨_, rfl⟩
    obtain ⟨ads, cps, hvs⟩ := hI.os.slice
    rw [← HNS.out] at hvs
    subst hvs
    have HI : Hid (Pv w gl x (.slice adx na cpx) (.slice adw na cpw) (.slice ads ns cps) l sd wr) := hI
    have HW : Hid (Wy l0 x d l sd) := hW
    have HLL : Hid (l.length < 1000000) := by show _ < _; have h1 := hW.len; have h2 := HL.out; omega
    have ca : wr.cell? ⟨gl, 0, none⟩ = some (.slice adx na cpx) := hI.lb.cell 0
    clear hI hW
    by_cases hgo : d < 256 ∧ 1 < na
    · obtain ⟨hd, hn1⟩ := hgo
      have hdi : (d : Int) < 256 := by omega
      have hni : (1 : Int) < (na : Int) := by omega
      have f5 : IntKind.i64.wrap ((d : Int) + 1) = (d : Int) + 1 := wrap_small2 _ (by omega) (by omega)
      have HD : Hid (d < 256) := hd
      have HN2 : Hid (2 ≤ l.length) := by show _ ≤ _; rw [← HNA.out]; omega
      have HNX : Hid (Wy l0 x (d + 1) (halfL l d (bt x d)) (sd ++ [rootL (halfL l d (!bt x d)) (d + 1)])) := HW.out.next HN2.out
      obtain ⟨on, HON⟩ : ∃ b, Hid (bt x d = b) := ⟨_, rfl⟩
      rw [HON.out] at HNX
      have HBI : Hid (bitI x (d : Int) = on) := by show _ = _; rw [bitI_nat _ _ HD.out]; exact HON.out
      obtain ⟨r, HRD⟩ : ∃ r, Hid (r = rootL (halfL l d (!on)) (d + 1)) := ⟨_, rfl⟩
      rw [← HRD.out] at HNX
      have HRL : Hid (r.length = 32) := by show _ = _; rw [HRD.out]; exact rootL_len (HW.out.fit.half _)
      obtain ⟨d1, HD1⟩ : ∃ z, Hid (z = d + 1) := ⟨_, rfl⟩
      have hwr : IntKind.i64.wrap ((d : Int) + 1) = (d1 : Int) := by rw [f5, HD1.out]; rfl
      have HCR : Hid (∀ ya yv W, ReadsLf W ya yv (halfL l d (!on)) → Calls Tryd.prog 20 #[.agg #[ya, yv], .int .i64 (d1 : Int)] W fun e w' => e = .returned (.agg (cb r).toArray) ∧ Below W.heap.size W w') := fun ya yv W hh => by rw [HRD.out, HD1.out]; exact lfRoot_any 256 _ _ _ _ _ (by omega) (HW.out.fit.half _) hh (Nat.lt_of_le_of_lt (half_le _ _ _) (Nat.lt_of_lt_of_le HLL.out (by decide))) (by omega)
      have HCH : Hid (∀ b W, ReadsLf W (.slice adx na cpx) (.slice adw na cpw) l → Calls Tryd.prog 40 #[.agg #[.slice adx na cpx, .slice adw na cpw], .int .i64 (d : Int), .bool b] W fun e w' => ∃ ya yv, e = .returned (.agg #[ya, yv]) ∧ OwnLf w' W.heap.size ya yv ((halfL l d b).map (·.1)) ((halfL l d b).map (·.2)) ∧ Below W.heap.size W w') := fun b W hh => lfHalf_b _ _ l d HD.out b W hh (Nat.lt_of_lt_of_le HLL.out (by decide))
      have HSL : Hid (sd.length < 2000000) := by show _ < _; have h1 := HW.out.sides; have h2 := HD.out; omega
      go_wp2_with (first
        | (with_reducible refine wpSeq_loadD (.tmp 3) (gl + 1) x ?_ ?_ ?_ ?_ ?_ ?_
           · exact HX32.out
           · exact HI.out.xb
           · with_reducible rfl
           · rfl
           · rfl)
        | (go_at_call 41; refine (sBit_any x HX32.out _ _).mono ?_; rintro e w7 ⟨rfl, hb7⟩; rw [HBI.out]
           replace HI : Hid (Pv w gl x (.slice adx na cpx) (.slice adw na cpw) (.slice ads ns cps) l sd w7) := HI.out.next hb7
           clear hb7 ca))
      refine wp_region_held_drew (S := fun wx => Blk wx gl [.slice adx na cpx, .slice adw na cpw] 47) (by kernel_rfl) HI.out.drew.lb ?_
      intro hS
      have hI := HI.out.drew
      clear HI
      change wpAnyH _ _ _ _ _ _ _ _ (World.drew w7)
      generalize World.drew w7 = y0 at *
      refine wpAnyH_take (i := 0) (v := .pointer (some ⟨gl + 3, 0, none⟩)) rfl (by kernel_rfl) (by kernel_rfl) (by kernel_rfl) (fun _ _ _ h => h) (Or.inl ⟨by rfl, fun wx hx => by simp [go_sem]⟩) hS ?_
      simp only [Act.put, List.getElem_toArray, List.getElem_cons_zero, List.setIfInBounds_toArray, List.set_cons_zero, List.set_cons_succ]
      refine wpAnyH_take (i := 2) (v := .agg #[.slice adx na cpx, .slice adw na cpw]) rfl (by kernel_rfl) (by kernel_rfl) (by kernel_rfl) (fun _ _ _ h => h) (Or.inl ⟨by rfl, fun wx hx => by (have c0 := Blk.cell hx 0; have c1 := Blk.cell hx 1; simp only [List.getElem?_cons_zero, List.getElem?_cons_succ] at c0 c1; simp [go_sem, c0, c1])⟩) hS ?_
      simp only [Act.put, List.getElem_toArray, List.getElem_cons_succ, List.getElem_cons_zero, List.setIfInBounds_toArray, List.set_cons_zero, List.set_cons_succ]
      refine wpAnyH_take (i := 3) (v := .int .i64 (d : Int)) rfl (by kernel_rfl) (by kernel_rfl) (by kernel_rfl) (fun _ _ _ h => h) (Or.inl ⟨by rfl, fun wx hx => by simp [go_sem]⟩) hS ?_
      simp only [Act.put, List.getElem_toArray, List.getElem_cons_succ, List.getElem_cons_zero, List.setIfInBounds_toArray, List.set_cons_zero, List.set_cons_succ]
      refine wpAnyH_take (i := 4) (v := .bool on) rfl (by kernel_rfl) (by kernel_rfl) (by kernel_rfl) (fun _ _ _ h => h) (Or.inl ⟨by rfl, fun wx hx => by simp [go_sem]⟩) hS ?_
      simp only [Act.put, List.getElem_toArray, List.getElem_cons_succ, List.getElem_cons_zero, List.setIfInBounds_toArray, List.set_cons_zero, List.set_cons_succ]
      refine wpAnyH_take (i := 5) (v := .bool (!on)) rfl (by kernel_rfl) (by kernel_rfl) (by kernel_rfl) (fun _ _ _ h => h) (Or.inl ⟨by rfl, fun wx hx => by simp [go_sem]⟩) hS ?_
      simp only [Act.put, List.getElem_toArray, List.getElem_cons_succ, List.getElem_cons_zero, List.setIfInBounds_toArray, List.set_cons_zero, List.set_cons_succ]
      refine wpAnyH_take (i := 7) (v := .int .i64 (d : Int)) rfl (by kernel_rfl) (by kernel_rfl) (by kernel_rfl) (fun _ _ _ h => h) (Or.inl ⟨by rfl, fun wx hx => by simp [go_sem]⟩) hS ?_
      simp only [Act.put, List.getElem_toArray, List.getElem_cons_succ, List.getElem_cons_zero, List.setIfInBounds_toArray, List.set_cons_zero, List.set_cons_succ]
      refine wpAnyH_take (i := 8) (v := .int .i64 (d1 : Int)) rfl (by kernel_rfl) (by kernel_rfl) (by kernel_rfl) (fun _ _ _ h => h) (Or.inl ⟨by rfl, fun wx hx => by simp [go_sem, hwr]⟩) hS ?_
      simp only [Act.put, List.getElem_toArray, List.getElem_cons_succ, List.getElem_cons_zero, List.setIfInBounds_toArray, List.set_cons_zero, List.set_cons_succ]
      refine wpAnyH_pair 1 6 (by kernel_rfl) ?_ ?_
      · skip
        have hcs : y0.cell? ⟨gl + 3, 0, none⟩ = some (.slice ads ns cps) := hI.pb.cell 0
        refine wpOp_vl 1 (.slice ads ns cps) y0 (by rfl) (by rfl) (by simp [go_sem, hcs]) ⟨hI.lb, ?_⟩
        clear hcs
        simp only [Act.put, List.getElem_toArray, List.getElem_cons_succ, List.getElem_cons_zero, List.setIfInBounds_toArray, List.set_cons_zero, List.set_cons_succ]
        refine wpAnyH_enter 6 (by kernel_rfl) rfl (by rfl) (f := 40) (args := #[.agg #[.slice adx na cpx, .slice adw na cpw], .int .i64 (d : Int), .bool (!on)]) (by simp [go_sem]) (HCH.out (!on) y0 hI.rl) ?_
        rintro e y1 ⟨ya, yv, rfl, ho, hbq⟩
        replace hI := hI.next hbq
        have hrd : ReadsLf y1 ya yv (halfL l d (!on)) := ho.reads
        refine ⟨_, rfl, hI.lb, ?_⟩
        clear ho hbq
        simp only [Act.put, List.getElem_toArray, List.getElem_cons_succ, List.getElem_cons_zero, List.setIfInBounds_toArray, List.set_cons_zero, List.set_cons_succ]
        refine wpAnyH_enter 9 (by kernel_rfl) rfl (by rfl) (f := 20) (args := #[.agg #[ya, yv], .int .i64 (d1 : Int)]) (by simp [go_sem]) (HCR.out ya yv y1 hrd) ?_
        rintro e y2 ⟨rfl, hbq⟩
        replace hI := hI.next hbq
        refine ⟨_, rfl, hI.lb, ?_⟩
        clear hbq hrd
        simp only [Act.put, List.getElem_toArray, List.getElem_cons_succ, List.getElem_cons_zero, List.setIfInBounds_toArray, List.set_cons_zero, List.set_cons_succ]
        have hnb := NewB.of r y2
        have hn1 := hI.next hnb.below
        refine wpAnyH_step 10 (.slice (some ⟨y2.heap.size, 0, none⟩) 1 1) (y2.alloc (.cells (cb r).toArray 33)) (by kernel_rfl) rfl (by rfl) (buildD _ _ _ rfl r HRL.out rfl _) hn1.lb ?_
        simp only [Act.put, List.getElem_toArray, List.getElem_cons_succ, List.getElem_cons_zero, List.setIfInBounds_toArray, List.set_cons_zero, List.set_cons_succ]
        refine wpAnyH_law 11 (by kernel_rfl) rfl (by rfl) (wp_appendG (.tmp 23) (.tmp 32) (gl + 4) (.slice ads ns cps) sd r y2.heap.size hn1.os hnb.blk HRL.out HSL.out hn1.pb.lt rfl rfl rfl ?_)
        intro z9 q9 ho hg
        have hJ := hn1.side ho hg
        have hb9 := hn1.pb.grow hg (fun j hj => (hn1.os.lt j hj).1) (Nat.lt_succ_self _)
        have hl9 := hn1.lb.grow hg (fun j hj => (hn1.os.lt j hj).1) (by omega)
        have hc9 : q9.cell? ⟨gl + 3, 0, none⟩ = some (.slice ads ns cps) := hb9.cell 0
        have hf9 := hb9.frozen 0
        obtain ⟨a9, c9, hx9⟩ := ho.slice
        obtain ⟨n9, HN9⟩ : ∃ z : Nat, Hid (z = (sd ++ [r]).length) := ⟨_, rfl⟩
        rw [← HN9.out] at hx9
        subst hx9
        refine ⟨hl9, ?_⟩
        simp only [Act.put, List.getElem_toArray, List.getElem_cons_succ, List.getElem_cons_zero, List.setIfInBounds_toArray, List.set_cons_zero, List.set_cons_succ]
        refine wpAnyH_take (i := 12) (v := .pointer (some ⟨gl + 3, 0, none⟩)) rfl (by kernel_rfl) (by kernel_rfl) (by kernel_rfl) (fun _ _ _ h => h) (Or.inl ⟨by rfl, fun wx hx => by simp [go_sem]⟩) hl9 ?_
        simp only [Act.put, List.getElem_toArray, List.getElem_cons_succ, List.getElem_cons_zero, List.setIfInBounds_toArray, List.set_cons_zero, List.set_cons_succ]
        refine wpAnyH_skip 13 (q9.setCell ⟨gl + 3, 0, none⟩ (.slice a9 n9 c9)) (by kernel_rfl) rfl (by rfl) (by simp [go_sem, hc9, hf9]) hJ.lb ?_
        simp only [Act.put, List.getElem_toArray, List.getElem_cons_succ, List.getElem_cons_zero]
        refine wpAnyH_done (by kernel_rfl) ?_ _
        have HI : Hid (Pv w gl x (.slice adx na cpx) (.slice adw na cpw) (.slice a9 n9 c9) l (sd ++ [r]) (q9.setCell ⟨gl + 3, 0, none⟩ (.slice a9 n9 c9))) := hJ
        clear hI hn1 hnb ho hg hJ hb9 hl9 hc9 hf9 hS
        generalize q9.setCell ⟨gl + 3, 0, none⟩ (.slice a9 n9 c9) = w8 at *
        generalize Value.slice a9 n9 c9 = vs2 at *
        have ca : w8.cell? ⟨gl, 0, none⟩ = some (.slice adx na cpx) := HI.out.lb.cell 0
        have cv : w8.cell? ⟨gl, 1, none⟩ = some (.slice adw na cpw) := HI.out.lb.cell 1
        go_wp2_with (go_at_call 40; refine (HCH.out on _ HI.out.rl).mono ?_
                     rintro e w9 ⟨ua, uv, rfl, ho, hbq⟩
                     have hJ := HI.out.half hbq ho
                     have hn := HI.out.next hbq
                     obtain ⟨a2, p2, hx2⟩ := ho.a.slice
                     obtain ⟨a3, p3, hx3⟩ := ho.v.slice
                     obtain ⟨n2, HN2'⟩ : ∃ z : Nat, Hid (z = ((halfL l d on).map (·.1)).length) := ⟨_, rfl⟩
                     obtain ⟨n3, HN3'⟩ : ∃ z : Nat, Hid (z = ((halfL l d on).map (·.2)).length) := ⟨_, rfl⟩
                     rw [← HN2'.out] at hx2
                     rw [← HN3'.out] at hx3
                     subst hx2 hx3
                     have c0 : w9.cell? ⟨gl, 0, none⟩ = some (.slice adx na cpx) := hn.lb.cell 0
                     have c1 : (w9.setCell ⟨gl, 0, none⟩ (.slice a2 n2 p2)).cell? ⟨gl, 1, none⟩ = some (.slice adw na cpw) := (hn.lb.set 0 _).cell 1
                     have f0 : w9.frozen? ⟨gl, 0, none⟩ = false := hn.lb.frozen 0
                     have f1 : (w9.setCell ⟨gl, 0, none⟩ (.slice a2 n2 p2)).frozen? ⟨gl, 1, none⟩ = false := (hn.lb.set 0 _).frozen 1
                     have HJ : Hid (Pv w gl x (.slice a2 n2 p2) (.slice a3 n3 p3) vs2 (halfL l d on) (sd ++ [r]) ((w9.setCell ⟨gl, 0, none⟩ (.slice a2 n2 p2)).setCell ⟨gl, 1, none⟩ (.slice a3 n3 p3))) := hJ
                     clear hJ hn ho hbq ca cv HI)
        go_roundw
        case rel => exact ⟨d + 1, _, _, _, _, _, by simp, HJ.out, HNX.out⟩
        case measure => simp [intOf]; omega
      · skip
        refine wpOp_en 6 (by rfl) (by rfl) (f := 40) (args := #[.agg #[.slice adx na cpx, .slice adw na cpw], .int .i64 (d : Int), .bool (!on)]) (by simp [go_sem]) (HCH.out (!on) y0 hI.rl) ?_
        rintro e y1 ⟨ya, yv, rfl, ho, hbq⟩
        replace hI := hI.next hbq
        have hrd : ReadsLf y1 ya yv (halfL l d (!on)) := ho.reads
        refine ⟨_, rfl, hI.lb, ?_⟩
        clear ho hbq
        simp only [Act.put, List.getElem_toArray, List.getElem_cons_succ, List.getElem_cons_zero, List.setIfInBounds_toArray, List.set_cons_zero, List.set_cons_succ]
        refine wpAnyH_pair 1 9 (by kernel_rfl) ?_ ?_
        · skip
          have hcs : y1.cell? ⟨gl + 3, 0, none⟩ = some (.slice ads ns cps) := hI.pb.cell 0
          refine wpOp_vl 1 (.slice ads ns cps) y1 (by rfl) (by rfl) (by simp [go_sem, hcs]) ⟨hI.lb, ?_⟩
          clear hcs
          simp only [Act.put, List.getElem_toArray, List.getElem_cons_succ, List.getElem_cons_zero, List.setIfInBounds_toArray, List.set_cons_zero, List.set_cons_succ]
          refine wpAnyH_enter 9 (by kernel_rfl) rfl (by rfl) (f := 20) (args := #[.agg #[ya, yv], .int .i64 (d1 : Int)]) (by simp [go_sem]) (HCR.out ya yv y1 hrd) ?_
          rintro e y2 ⟨rfl, hbq⟩
          replace hI := hI.next hbq
          refine ⟨_, rfl, hI.lb, ?_⟩
          clear hbq hrd
          simp only [Act.put, List.getElem_toArray, List.getElem_cons_succ, List.getElem_cons_zero, List.setIfInBounds_toArray, List.set_cons_zero, List.set_cons_succ]
          have hnb := NewB.of r y2
          have hn1 := hI.next hnb.below
          refine wpAnyH_step 10 (.slice (some ⟨y2.heap.size, 0, none⟩) 1 1) (y2.alloc (.cells (cb r).toArray 33)) (by kernel_rfl) rfl (by rfl) (buildD _ _ _ rfl r HRL.out rfl _) hn1.lb ?_
          simp only [Act.put, List.getElem_toArray, List.getElem_cons_succ, List.getElem_cons_zero, List.setIfInBounds_toArray, List.set_cons_zero, List.set_cons_succ]
          refine wpAnyH_law 11 (by kernel_rfl) rfl (by rfl) (wp_appendG (.tmp 23) (.tmp 32) (gl + 4) (.slice ads ns cps) sd r y2.heap.size hn1.os hnb.blk HRL.out HSL.out hn1.pb.lt rfl rfl rfl ?_)
          intro z9 q9 ho hg
          have hJ := hn1.side ho hg
          have hb9 := hn1.pb.grow hg (fun j hj => (hn1.os.lt j hj).1) (Nat.lt_succ_self _)
          have hl9 := hn1.lb.grow hg (fun j hj => (hn1.os.lt j hj).1) (by omega)
          have hc9 : q9.cell? ⟨gl + 3, 0, none⟩ = some (.slice ads ns cps) := hb9.cell 0
          have hf9 := hb9.frozen 0
          obtain ⟨a9, c9, hx9⟩ := ho.slice
          obtain ⟨n9, HN9⟩ : ∃ z : Nat, Hid (z = (sd ++ [r]).length) := ⟨_, rfl⟩
          rw [← HN9.out] at hx9
          subst hx9
          refine ⟨hl9, ?_⟩
          simp only [Act.put, List.getElem_toArray, List.getElem_cons_succ, List.getElem_cons_zero, List.setIfInBounds_toArray, List.set_cons_zero, List.set_cons_succ]
          refine wpAnyH_take (i := 12) (v := .pointer (some ⟨gl + 3, 0, none⟩)) rfl (by kernel_rfl) (by kernel_rfl) (by kernel_rfl) (fun _ _ _ h => h) (Or.inl ⟨by rfl, fun wx hx => by simp [go_sem]⟩) hl9 ?_
          simp only [Act.put, List.getElem_toArray, List.getElem_cons_succ, List.getElem_cons_zero, List.setIfInBounds_toArray, List.set_cons_zero, List.set_cons_succ]
          refine wpAnyH_skip 13 (q9.setCell ⟨gl + 3, 0, none⟩ (.slice a9 n9 c9)) (by kernel_rfl) rfl (by rfl) (by simp [go_sem, hc9, hf9]) hJ.lb ?_
          simp only [Act.put, List.getElem_toArray, List.getElem_cons_succ, List.getElem_cons_zero]
          refine wpAnyH_done (by kernel_rfl) ?_ _
          have HI : Hid (Pv w gl x (.slice adx na cpx) (.slice adw na cpw) (.slice a9 n9 c9) l (sd ++ [r]) (q9.setCell ⟨gl + 3, 0, none⟩ (.slice a9 n9 c9))) := hJ
          clear hI hn1 hnb ho hg hJ hb9 hl9 hc9 hf9 hS
          generalize q9.setCell ⟨gl + 3, 0, none⟩ (.slice a9 n9 c9) = w8 at *
          generalize Value.slice a9 n9 c9 = vs2 at *
          have ca : w8.cell? ⟨gl, 0, none⟩ = some (.slice adx na cpx) := HI.out.lb.cell 0
          have cv : w8.cell? ⟨gl, 1, none⟩ = some (.slice adw na cpw) := HI.out.lb.cell 1
          go_wp2_with (go_at_call 40; refine (HCH.out on _ HI.out.rl).mono ?_
                       rintro e w9 ⟨ua, uv, rfl, ho, hbq⟩
                       have hJ := HI.out.half hbq ho
                       have hn := HI.out.next hbq
                       obtain ⟨a2, p2, hx2⟩ := ho.a.slice
                       obtain ⟨a3, p3, hx3⟩ := ho.v.slice
                       obtain ⟨n2, HN2'⟩ : ∃ z : Nat, Hid (z = ((halfL l d on).map (·.1)).length) := ⟨_, rfl⟩
                       obtain ⟨n3, HN3'⟩ : ∃ z : Nat, Hid (z = ((halfL l d on).map (·.2)).length) := ⟨_, rfl⟩
                       rw [← HN2'.out] at hx2
                       rw [← HN3'.out] at hx3
                       subst hx2 hx3
                       have c0 : w9.cell? ⟨gl, 0, none⟩ = some (.slice adx na cpx) := hn.lb.cell 0
                       have c1 : (w9.setCell ⟨gl, 0, none⟩ (.slice a2 n2 p2)).cell? ⟨gl, 1, none⟩ = some (.slice adw na cpw) := (hn.lb.set 0 _).cell 1
                       have f0 : w9.frozen? ⟨gl, 0, none⟩ = false := hn.lb.frozen 0
                       have f1 : (w9.setCell ⟨gl, 0, none⟩ (.slice a2 n2 p2)).frozen? ⟨gl, 1, none⟩ = false := (hn.lb.set 0 _).frozen 1
                       have HJ : Hid (Pv w gl x (.slice a2 n2 p2) (.slice a3 n3 p3) vs2 (halfL l d on) (sd ++ [r]) ((w9.setCell ⟨gl, 0, none⟩ (.slice a2 n2 p2)).setCell ⟨gl, 1, none⟩ (.slice a3 n3 p3))) := hJ
                       clear hJ hn ho hbq ca cv HI)
          go_roundw
          case rel => exact ⟨d + 1, _, _, _, _, _, by simp, HJ.out, HNX.out⟩
          case measure => simp [intOf]; omega
        · skip
          refine wpOp_en 9 (by rfl) (by rfl) (f := 20) (args := #[.agg #[ya, yv], .int .i64 (d1 : Int)]) (by simp [go_sem]) (HCR.out ya yv y1 hrd) ?_
          rintro e y2 ⟨rfl, hbq⟩
          replace hI := hI.next hbq
          refine ⟨_, rfl, hI.lb, ?_⟩
          clear hbq hrd
          simp only [Act.put, List.getElem_toArray, List.getElem_cons_succ, List.getElem_cons_zero, List.setIfInBounds_toArray, List.set_cons_zero, List.set_cons_succ]
          have hnb := NewB.of r y2
          have hn1 := hI.next hnb.below
          have hce : y2.cell? ⟨gl + 3, 0, none⟩ = some (.slice ads ns cps) := hI.pb.cell 0
          have hce2 : (y2.alloc (.cells (cb r).toArray 33)).cell? ⟨gl + 3, 0, none⟩ = some (.slice ads ns cps) := hn1.pb.cell 0
          refine wpAnyH_comm 1 10 (.slice ads ns cps) (.slice (some ⟨y2.heap.size, 0, none⟩) 1 1) (y2.alloc (.cells (cb r).toArray 33)) (by kernel_rfl) rfl rfl (by rfl) (by rfl) (by rfl) (by rfl) (by simp [go_sem, hce]) (buildD _ _ _ rfl r HRL.out rfl _) (by simp [go_sem, hce2]) (buildD _ _ _ rfl r HRL.out rfl _) (by kernel_rfl) (by kernel_rfl) (by rfl) (by rfl) hI.lb hn1.lb ?_
          clear hce hce2
          simp only [Act.put, List.getElem_toArray, List.getElem_cons_succ, List.getElem_cons_zero, List.setIfInBounds_toArray, List.set_cons_zero, List.set_cons_succ]
          refine wpAnyH_law 11 (by kernel_rfl) rfl (by rfl) (wp_appendG (.tmp 23) (.tmp 32) (gl + 4) (.slice ads ns cps) sd r y2.heap.size hn1.os hnb.blk HRL.out HSL.out hn1.pb.lt rfl rfl rfl ?_)
          intro z9 q9 ho hg
          have hJ := hn1.side ho hg
          have hb9 := hn1.pb.grow hg (fun j hj => (hn1.os.lt j hj).1) (Nat.lt_succ_self _)
          have hl9 := hn1.lb.grow hg (fun j hj => (hn1.os.lt j hj).1) (by omega)
          have hc9 : q9.cell? ⟨gl + 3, 0, none⟩ = some (.slice ads ns cps) := hb9.cell 0
          have hf9 := hb9.frozen 0
          obtain ⟨a9, c9, hx9⟩ := ho.slice
          obtain ⟨n9, HN9⟩ : ∃ z : Nat, Hid (z = (sd ++ [r]).length) := ⟨_, rfl⟩
          rw [← HN9.out] at hx9
          subst hx9
          refine ⟨hl9, ?_⟩
          simp only [Act.put, List.getElem_toArray, List.getElem_cons_succ, List.getElem_cons_zero, List.setIfInBounds_toArray, List.set_cons_zero, List.set_cons_succ]
          refine wpAnyH_take (i := 12) (v := .pointer (some ⟨gl + 3, 0, none⟩)) rfl (by kernel_rfl) (by kernel_rfl) (by kernel_rfl) (fun _ _ _ h => h) (Or.inl ⟨by rfl, fun wx hx => by simp [go_sem]⟩) hl9 ?_
          simp only [Act.put, List.getElem_toArray, List.getElem_cons_succ, List.getElem_cons_zero, List.setIfInBounds_toArray, List.set_cons_zero, List.set_cons_succ]
          refine wpAnyH_skip 13 (q9.setCell ⟨gl + 3, 0, none⟩ (.slice a9 n9 c9)) (by kernel_rfl) rfl (by rfl) (by simp [go_sem, hc9, hf9]) hJ.lb ?_
          simp only [Act.put, List.getElem_toArray, List.getElem_cons_succ, List.getElem_cons_zero]
          refine wpAnyH_done (by kernel_rfl) ?_ _
          have HI : Hid (Pv w gl x (.slice adx na cpx) (.slice adw na cpw) (.slice a9 n9 c9) l (sd ++ [r]) (q9.setCell ⟨gl + 3, 0, none⟩ (.slice a9 n9 c9))) := hJ
          clear hI hn1 hnb ho hg hJ hb9 hl9 hc9 hf9 hS
          generalize q9.setCell ⟨gl + 3, 0, none⟩ (.slice a9 n9 c9) = w8 at *
          generalize Value.slice a9 n9 c9 = vs2 at *
          have ca : w8.cell? ⟨gl, 0, none⟩ = some (.slice adx na cpx) := HI.out.lb.cell 0
          have cv : w8.cell? ⟨gl, 1, none⟩ = some (.slice adw na cpw) := HI.out.lb.cell 1
          go_wp2_with (go_at_call 40; refine (HCH.out on _ HI.out.rl).mono ?_
                       rintro e w9 ⟨ua, uv, rfl, ho, hbq⟩
                       have hJ := HI.out.half hbq ho
                       have hn := HI.out.next hbq
                       obtain ⟨a2, p2, hx2⟩ := ho.a.slice
                       obtain ⟨a3, p3, hx3⟩ := ho.v.slice
                       obtain ⟨n2, HN2'⟩ : ∃ z : Nat, Hid (z = ((halfL l d on).map (·.1)).length) := ⟨_, rfl⟩
                       obtain ⟨n3, HN3'⟩ : ∃ z : Nat, Hid (z = ((halfL l d on).map (·.2)).length) := ⟨_, rfl⟩
                       rw [← HN2'.out] at hx2
                       rw [← HN3'.out] at hx3
                       subst hx2 hx3
                       have c0 : w9.cell? ⟨gl, 0, none⟩ = some (.slice adx na cpx) := hn.lb.cell 0
                       have c1 : (w9.setCell ⟨gl, 0, none⟩ (.slice a2 n2 p2)).cell? ⟨gl, 1, none⟩ = some (.slice adw na cpw) := (hn.lb.set 0 _).cell 1
                       have f0 : w9.frozen? ⟨gl, 0, none⟩ = false := hn.lb.frozen 0
                       have f1 : (w9.setCell ⟨gl, 0, none⟩ (.slice a2 n2 p2)).frozen? ⟨gl, 1, none⟩ = false := (hn.lb.set 0 _).frozen 1
                       have HJ : Hid (Pv w gl x (.slice a2 n2 p2) (.slice a3 n3 p3) vs2 (halfL l d on) (sd ++ [r]) ((w9.setCell ⟨gl, 0, none⟩ (.slice a2 n2 p2)).setCell ⟨gl, 1, none⟩ (.slice a3 n3 p3))) := hJ
                       clear hJ hn ho hbq ca cv HI)
          go_roundw
          case rel => exact ⟨d + 1, _, _, _, _, _, by simp, HJ.out, HNX.out⟩
          case measure => simp [intOf]; omega
    · have hst : l.length ≤ 1 := HW.out.stop (by rw [← HNA.out]; exact hgo)
      have HDN : Hid (wayL l0 x 0 = (sd, l.head?)) := HW.out.done hst
      have HNL : Hid (na ≤ 1) := by show _ ≤ _; rw [HNA.out]; exact hst
      clear hst
      by_cases hd : d < 256
      · have hdi : (d : Int) < 256 := by omega
        have hdb : decide ((d : Int) < 256) = true := decide_eq_true hdi
        have hn1 : ¬ ((1 : Int) < (na : Int)) := by have := HNL.out; omega
        have hnb : decide ((1 : Int) < (na : Int)) = false := decide_eq_false hn1
        clear hgo hd
        go_upto_region 8 with fail
        clear hnb hdb
        by_cases hz : na = 0
        · subst hz
          have hnil : l = [] := List.length_eq_zero_iff.1 HNA.out.symm
          obtain ⟨cs, HCS⟩ : ∃ c, Hid (c = (prfV (.slice ads ns cps) 0 zb32 zb32)) := ⟨_, rfl⟩
          have HF : Hid (Fn w gl (.slice adx 0 cpx) (.slice adw 0 cpw) (.slice ads ns cps) sd cs 0 0 [] 0 0 [] wr) := by
            rw [HCS.out]
            exact ⟨HI.out.lb, HI.out.rb, HI.out.pb, HI.out.os, fun j u hj => by simp [cb] at hj, fun j u hj => by simp [cb] at hj, by omega, by omega, HI.out.bel⟩
          have HCE : Hid (prfV (.slice ads ns cps) (pend (wayL l0 x 0).2).1 (pend (wayL l0 x 0).2).2.1 (pend (wayL l0 x 0).2).2.2 = cs) := by show _ = _; rw [HDN.out, hnil, HCS.out]; rfl
          have HIC : Hid ((Tryd.prog.info? 36).map (·.size) = some cs.length) := by show _ = _; rw [HCS.out, prfV_len zb32_len zb32_len]; exact info_proof
          have H1C : Hid (cs.toArray.all (·.oneCell') = true) := by show _ = _; rw [HCS.out]; exact all_oneCell_toArray (prfV_one rfl)
          have HLC : Hid (cs.length = 66) := by show _ = _; rw [HCS.out, prfV_len zb32_len zb32_len]
          clear hnil HCS HI
          go_wp2_with (first
            | (refine wpSeq_val (.agg cs.toArray) _ (by rfl) (load_run 36 _ rfl (gl + 3) 0 rfl cs _ HF.out.pb.range Tryd.underlying36 rfl HIC.out) ?_)
            | (with_reducible refine wpList_store_mid ?_ 36 (.tmp 4) (.tmp 54) ?_ (gl + 2) 0 cs.toArray ?_ ?_ (HF.out.rb.there 0 _ (by rw [List.size_toArray, HLC.out, prfV_len zb32_len zb32_len]; omega)) (by rw [List.size_toArray]; exact HIC.out) H1C.out ?_
               · rfl
               · rfl
               · rfl
               · rfl))
          have hB6 := HF.out.rb.whole cs (by rw [HLC.out, prfV_len zb32_len zb32_len])
          refine bodyPost_ret (v := Value.agg cs.toArray) ?_ rfl ⟨.slice ads ns cps, by rw [HCE.out], ?_, ?_⟩
          · exact results_cell_row (by rfl) _ _ (gl + 2) 36 _ (0, 0) _ rfl hB6 Tryd.underlying36 rfl (by rw [List.size_toArray]; exact HIC.out)
          · rw [HDN.out]
            refine (HF.out.os.keep fun j h1 _ => ?_).mono (by have := HGL.out; omega)
            exact (At'.setCells cs 0 wr (fun _ _ => rfl) j (by omega))
          · have hbb : Below gl w (wr.setCells (gl + 2) 0 cs) := Below.setCells _ (by omega) _ _ _ HF.out.bel
            rw [← HGL.out]
            exact hbb
        · have h1 : na = 1 := by have := HNL.out; omega
          subst h1
          obtain ⟨p, hp⟩ : ∃ p, l = [p] := List.length_eq_one_iff.1 HNA.out.symm
          have HP : Hid (p.1.length = 32 ∧ p.2.length = 32) := HI.out.rl.ok p (by rw [hp]; simp)
          have hA := HI.out.rl.1
          have hV := HI.out.rl.2
          have hna := HI.out.na (by rw [hp]; simp)
          have hnv := HI.out.nv (by rw [hp]; simp)
          rw [hp] at hA hV
          obtain ⟨ba, offa, cpa', hva, hya⟩ := hA.at (by simp)
          obtain ⟨bv, offv, cpv', hvv, hyv⟩ := hV.at (by simp)
          simp only [Value.slice.injEq] at hva hvv
          obtain ⟨rfl, hq1, rfl⟩ := hva
          obtain ⟨rfl, hq2, rfl⟩ := hvv
          clear hq1 hq2
          obtain ⟨da, HDA⟩ : ∃ d, Hid (d = p.1) := ⟨_, rfl⟩
          obtain ⟨dv, HDV⟩ : ∃ d, Hid (d = p.2) := ⟨_, rfl⟩
          rw [← HDA.out, ← HDV.out] at HP
          have hra := hya 0 (by simp)
          have hrv := hyv 0 (by simp)
          simp only [List.map_cons, List.map_nil, List.getD_cons_zero, Nat.zero_mul, Nat.add_zero, ← HDA.out] at hra
          simp only [List.map_cons, List.map_nil, List.getD_cons_zero, Nat.zero_mul, Nat.add_zero, ← HDV.out] at hrv
          have HF0 : Hid (Fn w gl (.slice (some ⟨ba, offa, none⟩) 1 cpx) (.slice (some ⟨bv, offv, none⟩) 1 cpw) (.slice ads ns cps) sd (prfV (.slice ads ns cps) 0 zb32 zb32) ba offa da bv offv dv wr) := ⟨HI.out.lb, HI.out.rb, HI.out.pb, HI.out.os, hra, hrv, by have := (hna ba rfl).1; omega, by have := (hnv bv rfl).1; omega, HI.out.bel⟩
          have HPE : Hid (wayL l0 x 0 = (sd, some p)) := by show _ = _; rw [HDN.out, hp]; rfl
          clear hya hyv hA hV hp hna hnv hra hrv HI
          have ce : wr.cell? ⟨gl + 3, 1, none⟩ = some (.int .i64 0) := HF0.out.pb.cell 1
          have fe : wr.frozen? ⟨gl + 3, 1, none⟩ = false := HF0.out.pb.frozen 1
          have HF1 : Hid (Fn w gl (.slice (some ⟨ba, offa, none⟩) 1 cpx) (.slice (some ⟨bv, offv, none⟩) 1 cpw) (.slice ads ns cps) sd (prfV (.slice ads ns cps) 1 zb32 zb32) ba offa da bv offv dv (wr.setCell ⟨gl + 3, 1, none⟩ (.int .i64 1))) := HF0.out.at (fun k hk => heap_one hk) (HF0.out.pb.set 1 _) (HF0.out.bel.setCell (by show gl ≤ gl + 3; omega) _)
          go_upto_region 10 with fail
          clear ce fe HF0 ca
          generalize wr.setCell ⟨gl + 3, 1, none⟩ (.int .i64 1) = u1 at *
          have ca : u1.cell? ⟨gl, 0, none⟩ = some (.slice (some ⟨ba, offa, none⟩) 1 cpx) := HF1.out.lb.cell 0
          have HF2 : Hid (Fn w gl (.slice (some ⟨ba, offa, none⟩) 1 cpx) (.slice (some ⟨bv, offv, none⟩) 1 cpw) (.slice ads ns cps) sd (prfV (.slice ads ns cps) 1 da zb32) ba offa da bv offv dv (u1.setCells (gl + 3) 2 (cb da))) := HF1.out.at (fun k hk => At'.setCells _ _ _ (fun _ _ => rfl) k hk) (prfV_ix HF1.out.pb zb32_len HP.out.1) (Below.setCells _ (by omega) _ _ _ HF1.out.bel)
          go_upto_region 11 with (first
            | (with_reducible refine wpSeq_loadAt (.tmp 46) ba offa da ?_ ?_ ?_ ?_ ?_ ?_
               · exact HP.out.1
               · exact HF1.out.ra
               · with_reducible rfl
               · rfl
               · rfl)
            | (with_reducible refine wpList_store_mid ?_ 33 (.tmp 48) (.tmp 47) ?_ (gl + 3) 2 (cb da).toArray ?_ ?_ (HF1.out.pb.there 2 _ (by rw [List.size_toArray, cb_len, HP.out.1, prfV_len zb32_len zb32_len]; omega)) (by rw [List.size_toArray, cb_len, HP.out.1]; exact info_digest) (all_oneCell_toArray (cb_one da)) ?_
               · rfl
               · rfl
               · rfl
               · rfl
               rw [List.toList_toArray]))
          clear ca HF1
          generalize u1.setCells (gl + 3) 2 (cb da) = u2 at *
          have cv : u2.cell? ⟨gl, 1, none⟩ = some (.slice (some ⟨bv, offv, none⟩) 1 cpw) := HF2.out.lb.cell 1
          obtain ⟨cs, HCS⟩ : ∃ c, Hid (c = (prfV (.slice ads ns cps) 1 da dv)) := ⟨_, rfl⟩
          have HF : Hid (Fn w gl (.slice (some ⟨ba, offa, none⟩) 1 cpx) (.slice (some ⟨bv, offv, none⟩) 1 cpw) (.slice ads ns cps) sd cs ba offa da bv offv dv (u2.setCells (gl + 3) 34 (cb dv))) := by rw [HCS.out]; exact HF2.out.at (fun k hk => At'.setCells _ _ _ (fun _ _ => rfl) k hk) (prfV_va HF2.out.pb HP.out.1 zb32_len HP.out.2) (Below.setCells _ (by omega) _ _ _ HF2.out.bel)
          go_upto_region 12 with (first
            | (with_reducible refine wpSeq_loadAt (.tmp 51) bv offv dv ?_ ?_ ?_ ?_ ?_ ?_
               · exact HP.out.2
               · exact HF2.out.rv
               · with_reducible rfl
               · rfl
               · rfl)
            | (with_reducible refine wpList_store_mid ?_ 33 (.tmp 53) (.tmp 52) ?_ (gl + 3) 34 (cb dv).toArray ?_ ?_ (HF2.out.pb.there 34 _ (by rw [List.size_toArray, cb_len, HP.out.2, prfV_len HP.out.1 zb32_len]; omega)) (by rw [List.size_toArray, cb_len, HP.out.2]; exact info_digest) (all_oneCell_toArray (cb_one dv)) ?_
               · rfl
               · rfl
               · rfl
               · rfl
               rw [List.toList_toArray]))
          clear cv HF2
          generalize u2.setCells (gl + 3) 34 (cb dv) = u3 at *
          have HCE : Hid (prfV (.slice ads ns cps) (pend (wayL l0 x 0).2).1 (pend (wayL l0 x 0).2).2.1 (pend (wayL l0 x 0).2).2.2 = cs) := by show _ = _; rw [HPE.out, HCS.out, HDA.out, HDV.out]; rfl
          have HIC : Hid ((Tryd.prog.info? 36).map (·.size) = some cs.length) := by show _ = _; rw [HCS.out, prfV_len HP.out.1 HP.out.2]; exact info_proof
          have H1C : Hid (cs.toArray.all (·.oneCell') = true) := by show _ = _; rw [HCS.out]; exact all_oneCell_toArray (prfV_one rfl)
          have HLC : Hid (cs.length = 66) := by show _ = _; rw [HCS.out, prfV_len HP.out.1 HP.out.2]
          clear HCS HPE
          go_wp2_with (first
            | (refine wpSeq_val (.agg cs.toArray) _ (by rfl) (load_run 36 _ rfl (gl + 3) 0 rfl cs _ HF.out.pb.range Tryd.underlying36 rfl HIC.out) ?_)
            | (with_reducible refine wpList_store_mid ?_ 36 (.tmp 4) (.tmp 54) ?_ (gl + 2) 0 cs.toArray ?_ ?_ (HF.out.rb.there 0 _ (by rw [List.size_toArray, HLC.out, prfV_len zb32_len zb32_len]; omega)) (by rw [List.size_toArray]; exact HIC.out) H1C.out ?_
               · rfl
               · rfl
               · rfl
               · rfl))
          have hB6 := HF.out.rb.whole cs (by rw [HLC.out, prfV_len zb32_len zb32_len])
          refine bodyPost_ret (v := Value.agg cs.toArray) ?_ rfl ⟨.slice ads ns cps, by rw [HCE.out], ?_, ?_⟩
          · exact results_cell_row (by rfl) _ _ (gl + 2) 36 _ (0, 0) _ rfl hB6 Tryd.underlying36 rfl (by rw [List.size_toArray]; exact HIC.out)
          · rw [HDN.out]
            refine (HF.out.os.keep fun j h1 _ => ?_).mono (by have := HGL.out; omega)
            exact (At'.setCells cs 0 u3 (fun _ _ => rfl) j (by omega))
          · have hbb : Below gl w (u3.setCells (gl + 2) 0 cs) := Below.setCells _ (by omega) _ _ _ HF.out.bel
            rw [← HGL.out]
            exact hbb
      · have hdi : ¬ ((d : Int) < 256) := by omega
        have hdb : decide ((d : Int) < 256) = false := decide_eq_false hdi
        clear hgo hd
        go_upto_region 8 with fail
        clear hdb
        by_cases hz : na = 0
        · subst hz
          have hnil : l = [] := List.length_eq_zero_iff.1 HNA.out.symm
          obtain ⟨cs, HCS⟩ : ∃ c, Hid (c = (prfV (.slice ads ns cps) 0 zb32 zb32)) := ⟨_, rfl⟩
          have HF : Hid (Fn w gl (.slice adx 0 cpx) (.slice adw 0 cpw) (.slice ads ns cps) sd cs 0 0 [] 0 0 [] wr) := by
            rw [HCS.out]
            exact ⟨HI.out.lb, HI.out.rb, HI.out.pb, HI.out.os, fun j u hj => by simp [cb] at hj, fun j u hj => by simp [cb] at hj, by omega, by omega, HI.out.bel⟩
          have HCE : Hid (prfV (.slice ads ns cps) (pend (wayL l0 x 0).2).1 (pend (wayL l0 x 0).2).2.1 (pend (wayL l0 x 0).2).2.2 = cs) := by show _ = _; rw [HDN.out, hnil, HCS.out]; rfl
          have HIC : Hid ((Tryd.prog.info? 36).map (·.size) = some cs.length) := by show _ = _; rw [HCS.out, prfV_len zb32_len zb32_len]; exact info_proof
          have H1C : Hid (cs.toArray.all (·.oneCell') = true) := by show _ = _; rw [HCS.out]; exact all_oneCell_toArray (prfV_one rfl)
          have HLC : Hid (cs.length = 66) := by show _ = _; rw [HCS.out, prfV_len zb32_len zb32_len]
          clear hnil HCS HI
          go_wp2_with (first
            | (refine wpSeq_val (.agg cs.toArray) _ (by rfl) (load_run 36 _ rfl (gl + 3) 0 rfl cs _ HF.out.pb.range Tryd.underlying36 rfl HIC.out) ?_)
            | (with_reducible refine wpList_store_mid ?_ 36 (.tmp 4) (.tmp 54) ?_ (gl + 2) 0 cs.toArray ?_ ?_ (HF.out.rb.there 0 _ (by rw [List.size_toArray, HLC.out, prfV_len zb32_len zb32_len]; omega)) (by rw [List.size_toArray]; exact HIC.out) H1C.out ?_
               · rfl
               · rfl
               · rfl
               · rfl))
          have hB6 := HF.out.rb.whole cs (by rw [HLC.out, prfV_len zb32_len zb32_len])
          refine bodyPost_ret (v := Value.agg cs.toArray) ?_ rfl ⟨.slice ads ns cps, by rw [HCE.out], ?_, ?_⟩
          · exact results_cell_row (by rfl) _ _ (gl + 2) 36 _ (0, 0) _ rfl hB6 Tryd.underlying36 rfl (by rw [List.size_toArray]; exact HIC.out)
          · rw [HDN.out]
            refine (HF.out.os.keep fun j h1 _ => ?_).mono (by have := HGL.out; omega)
            exact (At'.setCells cs 0 wr (fun _ _ => rfl) j (by omega))
          · have hbb : Below gl w (wr.setCells (gl + 2) 0 cs) := Below.setCells _ (by omega) _ _ _ HF.out.bel
            rw [← HGL.out]
            exact hbb
        · have h1 : na = 1 := by have := HNL.out; omega
          subst h1
          obtain ⟨p, hp⟩ : ∃ p, l = [p] := List.length_eq_one_iff.1 HNA.out.symm
          have HP : Hid (p.1.length = 32 ∧ p.2.length = 32) := HI.out.rl.ok p (by rw [hp]; simp)
          have hA := HI.out.rl.1
          have hV := HI.out.rl.2
          have hna := HI.out.na (by rw [hp]; simp)
          have hnv := HI.out.nv (by rw [hp]; simp)
          rw [hp] at hA hV
          obtain ⟨ba, offa, cpa', hva, hya⟩ := hA.at (by simp)
          obtain ⟨bv, offv, cpv', hvv, hyv⟩ := hV.at (by simp)
          simp only [Value.slice.injEq] at hva hvv
          obtain ⟨rfl, hq1, rfl⟩ := hva
          obtain ⟨rfl, hq2, rfl⟩ := hvv
          clear hq1 hq2
          obtain ⟨da, HDA⟩ : ∃ d, Hid (d = p.1) := ⟨_, rfl⟩
          obtain ⟨dv, HDV⟩ : ∃ d, Hid (d = p.2) := ⟨_, rfl⟩
          rw [← HDA.out, ← HDV.out] at HP
          have hra := hya 0 (by simp)
          have hrv := hyv 0 (by simp)
          simp only [List.map_cons, List.map_nil, List.getD_cons_zero, Nat.zero_mul, Nat.add_zero, ← HDA.out] at hra
          simp only [List.map_cons, List.map_nil, List.getD_cons_zero, Nat.zero_mul, Nat.add_zero, ← HDV.out] at hrv
          have HF0 : Hid (Fn w gl (.slice (some ⟨ba, offa, none⟩) 1 cpx) (.slice (some ⟨bv, offv, none⟩) 1 cpw) (.slice ads ns cps) sd (prfV (.slice ads ns cps) 0 zb32 zb32) ba offa da bv offv dv wr) := ⟨HI.out.lb, HI.out.rb, HI.out.pb, HI.out.os, hra, hrv, by have := (hna ba rfl).1; omega, by have := (hnv bv rfl).1; omega, HI.out.bel⟩
          have HPE : Hid (wayL l0 x 0 = (sd, some p)) := by show _ = _; rw [HDN.out, hp]; rfl
          clear hya hyv hA hV hp hna hnv hra hrv HI
          have ce : wr.cell? ⟨gl + 3, 1, none⟩ = some (.int .i64 0) := HF0.out.pb.cell 1
          have fe : wr.frozen? ⟨gl + 3, 1, none⟩ = false := HF0.out.pb.frozen 1
          have HF1 : Hid (Fn w gl (.slice (some ⟨ba, offa, none⟩) 1 cpx) (.slice (some ⟨bv, offv, none⟩) 1 cpw) (.slice ads ns cps) sd (prfV (.slice ads ns cps) 1 zb32 zb32) ba offa da bv offv dv (wr.setCell ⟨gl + 3, 1, none⟩ (.int .i64 1))) := HF0.out.at (fun k hk => heap_one hk) (HF0.out.pb.set 1 _) (HF0.out.bel.setCell (by show gl ≤ gl + 3; omega) _)
          go_upto_region 10 with fail
          clear ce fe HF0 ca
          generalize wr.setCell ⟨gl + 3, 1, none⟩ (.int .i64 1) = u1 at *
          have ca : u1.cell? ⟨gl, 0, none⟩ = some (.slice (some ⟨ba, offa, none⟩) 1 cpx) := HF1.out.lb.cell 0
          have HF2 : Hid (Fn w gl (.slice (some ⟨ba, offa, none⟩) 1 cpx) (.slice (some ⟨bv, offv, none⟩) 1 cpw) (.slice ads ns cps) sd (prfV (.slice ads ns cps) 1 da zb32) ba offa da bv offv dv (u1.setCells (gl + 3) 2 (cb da))) := HF1.out.at (fun k hk => At'.setCells _ _ _ (fun _ _ => rfl) k hk) (prfV_ix HF1.out.pb zb32_len HP.out.1) (Below.setCells _ (by omega) _ _ _ HF1.out.bel)
          go_upto_region 11 with (first
            | (with_reducible refine wpSeq_loadAt (.tmp 46) ba offa da ?_ ?_ ?_ ?_ ?_ ?_
               · exact HP.out.1
               · exact HF1.out.ra
               · with_reducible rfl
               · rfl
               · rfl)
            | (with_reducible refine wpList_store_mid ?_ 33 (.tmp 48) (.tmp 47) ?_ (gl + 3) 2 (cb da).toArray ?_ ?_ (HF1.out.pb.there 2 _ (by rw [List.size_toArray, cb_len, HP.out.1, prfV_len zb32_len zb32_len]; omega)) (by rw [List.size_toArray, cb_len, HP.out.1]; exact info_digest) (all_oneCell_toArray (cb_one da)) ?_
               · rfl
               · rfl
               · rfl
               · rfl
               rw [List.toList_toArray]))
          clear ca HF1
          generalize u1.setCells (gl + 3) 2 (cb da) = u2 at *
          have cv : u2.cell? ⟨gl, 1, none⟩ = some (.slice (some ⟨bv, offv, none⟩) 1 cpw) := HF2.out.lb.cell 1
          obtain ⟨cs, HCS⟩ : ∃ c, Hid (c = (prfV (.slice ads ns cps) 1 da dv)) := ⟨_, rfl⟩
          have HF : Hid (Fn w gl (.slice (some ⟨ba, offa, none⟩) 1 cpx) (.slice (some ⟨bv, offv, none⟩) 1 cpw) (.slice ads ns cps) sd cs ba offa da bv offv dv (u2.setCells (gl + 3) 34 (cb dv))) := by rw [HCS.out]; exact HF2.out.at (fun k hk => At'.setCells _ _ _ (fun _ _ => rfl) k hk) (prfV_va HF2.out.pb HP.out.1 zb32_len HP.out.2) (Below.setCells _ (by omega) _ _ _ HF2.out.bel)
          go_upto_region 12 with (first
            | (with_reducible refine wpSeq_loadAt (.tmp 51) bv offv dv ?_ ?_ ?_ ?_ ?_ ?_
               · exact HP.out.2
               · exact HF2.out.rv
               · with_reducible rfl
               · rfl
               · rfl)
            | (with_reducible refine wpList_store_mid ?_ 33 (.tmp 53) (.tmp 52) ?_ (gl + 3) 34 (cb dv).toArray ?_ ?_ (HF2.out.pb.there 34 _ (by rw [List.size_toArray, cb_len, HP.out.2, prfV_len HP.out.1 zb32_len]; omega)) (by rw [List.size_toArray, cb_len, HP.out.2]; exact info_digest) (all_oneCell_toArray (cb_one dv)) ?_
               · rfl
               · rfl
               · rfl
               · rfl
               rw [List.toList_toArray]))
          clear cv HF2
          generalize u2.setCells (gl + 3) 34 (cb dv) = u3 at *
          have HCE : Hid (prfV (.slice ads ns cps) (pend (wayL l0 x 0).2).1 (pend (wayL l0 x 0).2).2.1 (pend (wayL l0 x 0).2).2.2 = cs) := by show _ = _; rw [HPE.out, HCS.out, HDA.out, HDV.out]; rfl
          have HIC : Hid ((Tryd.prog.info? 36).map (·.size) = some cs.length) := by show _ = _; rw [HCS.out, prfV_len HP.out.1 HP.out.2]; exact info_proof
          have H1C : Hid (cs.toArray.all (·.oneCell') = true) := by show _ = _; rw [HCS.out]; exact all_oneCell_toArray (prfV_one rfl)
          have HLC : Hid (cs.length = 66) := by show _ = _; rw [HCS.out, prfV_len HP.out.1 HP.out.2]
          clear HCS HPE
          go_wp2_with (first
            | (refine wpSeq_val (.agg cs.toArray) _ (by rfl) (load_run 36 _ rfl (gl + 3) 0 rfl cs _ HF.out.pb.range Tryd.underlying36 rfl HIC.out) ?_)
            | (with_reducible refine wpList_store_mid ?_ 36 (.tmp 4) (.tmp 54) ?_ (gl + 2) 0 cs.toArray ?_ ?_ (HF.out.rb.there 0 _ (by rw [List.size_toArray, HLC.out, prfV_len zb32_len zb32_len]; omega)) (by rw [List.size_toArray]; exact HIC.out) H1C.out ?_
               · rfl
               · rfl
               · rfl
               · rfl))
          have hB6 := HF.out.rb.whole cs (by rw [HLC.out, prfV_len zb32_len zb32_len])
          refine bodyPost_ret (v := Value.agg cs.toArray) ?_ rfl ⟨.slice ads ns cps, by rw [HCE.out], ?_, ?_⟩
          · exact results_cell_row (by rfl) _ _ (gl + 2) 36 _ (0, 0) _ rfl hB6 Tryd.underlying36 rfl (by rw [List.size_toArray]; exact HIC.out)
          · rw [HDN.out]
            refine (HF.out.os.keep fun j h1 _ => ?_).mono (by have := HGL.out; omega)
            exact (At'.setCells cs 0 u3 (fun _ _ => rfl) j (by omega))
          · have hbb : Below gl w (u3.setCells (gl + 2) 0 cs) := Below.setCells _ (by omega) _ _ _ HF.out.bel
            rw [← HGL.out]
            exact hbb
end Go.Proofs.YtpeifpoeeopecaaDoor
/- Ways and lists of texts in memory: one text more ahead of a list (layer 8). -/
namespace Go.Proofs.YtpeifpoeeopecaaDoor
open Go.RowKit
set_option maxRecDepth 100000
theorem endW_pend (o : Option Lf) : endW o = pend o := by cases o <;> rfl
theorem endB_le {en : Int} {ix va : List (BitVec 8)} (hx : ix.length = 32) (hv : va.length = 32) : (endB en ix va).length ≤ 65 := by
  unfold endB
  split
  · simp only [pairB, List.length_cons, List.length_append]; omega
  · simp
theorem nodeB_le {on : Bool} {s y : List (BitVec 8)} (hs : s.length = 32) (hy : y.length = 32) : (nodeB on s y).length ≤ 65 := by
  cases on <;> simp only [nodeB, pairB, if_true, Bool.false_eq_true, if_false, List.length_cons, List.length_append] <;> omega
theorem hashL_le (x b : List (BitVec 8)) (hb : b.length ≤ 65) (sd : List (List (BitVec 8))) (d : Nat) (h : ∀ s ∈ sd, s.length = 32) : ∀ t ∈ hashL x b d sd, t.length ≤ 65 := by
  induction sd generalizing d with
  | nil =>
    rw [hashL_nil]
    intro t ht
    rw [List.mem_singleton] at ht
    rw [ht]
    exact hb
  | cons s r ih =>
    rw [hashL_cons]
    intro t ht
    rcases List.mem_cons.1 ht with ht | ht
    · rw [ht]
      exact nodeB_le (h s (by simp)) (topL_len _ _ _ _)
    · exact ih (d + 1) (fun u hu => h u (by simp [hu])) t ht
theorem hashL_head (x b : List (BitVec 8)) (sd : List (List (BitVec 8))) (d : Nat) : (hashL x b d sd).headD [] ∈ hashL x b d sd := by
  cases sd with
  | nil => rw [hashL_nil]; simp
  | cons s r => rw [hashL_cons]; simp
theorem wrap_pred (n : Nat) (h : n < 1000000000) : IntKind.i64.wrap ((n : Int) - 1) = (n : Int) - 1 := by simp [IntKind.wrap, IntKind.bits, IntKind.signed]; omega
theorem ReadsL.slice {W : World} {v : Value} {ls : List (List (BitVec 8))} (h : ReadsL W v ls) : ∃ ad cp, v = .slice ad ls.length cp := by
  obtain ⟨ad, cp, hv, _⟩ := h
  exact ⟨ad, cp, hv⟩
theorem ReadsL.at {W : World} {v : Value} {ls : List (List (BitVec 8))} (h : ReadsL W v ls) (hp : 0 < ls.length) : ∃ (b off cp : Nat) (us : List Value), v = .slice (some ⟨b, off, none⟩) ls.length cp ∧ us.length = ls.length ∧ ∀ j u, us[j]? = some u → W.cell? ⟨b, off + j, none⟩ = some u ∧ Reads W u (ls.getD j []) := by
  obtain ⟨ad, cp, hv, hc, hn, hx⟩ := h
  obtain ⟨b, off, rfl, hy⟩ := hx hp
  have hz : ∀ j : Fin ls.length, ∃ u, W.cell? ⟨b, off + j.1, none⟩ = some u ∧ Reads W u (ls.getD j.1 []) := fun j => hy j.1 j.2
  refine ⟨b, off, cp, List.ofFn fun j => Classical.choose (hz j), hv, by simp, fun j u hj => ?_⟩
  rw [List.getElem?_ofFn] at hj
  split at hj
  · rename_i hlt
    simp only [Option.some.injEq] at hj
    rw [← hj]
    exact Classical.choose_spec (hz ⟨j, hlt⟩)
  · cases hj
theorem Reads.form {W : World} {v : Value} {l : List (BitVec 8)} (h : Reads W v l) : ∃ a n c, v = Value.slice a n c := by
  obtain ⟨ad, cp, rfl, _⟩ := h
  exact ⟨_, _, _, rfl⟩
theorem Reads.cellOne {W : World} {v : Value} {l : List (BitVec 8)} (h : Reads W v l) : v.oneCell' = true := by
  obtain ⟨ad, cp, rfl, _⟩ := h
  rfl
theorem Tryd.infobs8 : (Tryd.prog.info? 23).map (fun i => (i.zero, i.size, i.bytes)) = some (some (.slice none 0 0), 1, 24) := by kernel_rfl
/-- a list of texts behind one text, in new memory -/
theorem wpSeq_appendL {ops : Array Oper} {Q : Exit → Act → World → Prop} {rest : List Oper} {o : Oper} {a : Act} {W : World} (s x : Operand) (vb vo : Value) (bs : List (BitVec 8)) (ls : List (List (BitVec 8)))
    (hb : Reads W vb bs) (hL : ReadsL W vo ls) (hp : 0 < ls.length) (hl : ls.length < 1000000)
    (ho : o.op = .call { callee := .builtin .append, args := #[s, x], argTypes := #[22, 22] }) (hs : a.eval s = .slice (some ⟨W.heap.size, 0, none⟩) 1 1) (hx : a.eval x = vo) (hgd : o.guard = none)
    (h : ∀ v' w', ReadsL w' v' (bs :: ls) → Below W.heap.size W w' → wpList Tryd.prog ops Q rest (a.put o.dst v') w') : wpList Tryd.prog ops Q (o :: rest) a (W.alloc (.cells #[vb] 23)) := by
  obtain ⟨i0, hi, hz0, hz1, hz2⟩ := info_parts Tryd.infobs8
  obtain ⟨b, off, cp, us, hvo, hul, hus⟩ := hL.at hp
  subst hvo
  have hal : Below W.heap.size W (W.alloc (.cells #[vb] 23)) := below_alloc _ _
  have hown : (W.alloc (.cells #[vb] 23)).ownsRow W.heap.size 23 1 (.slice (some ⟨W.heap.size, 0, none⟩) 1 1) 1 [vb] := World.ownsRow_lit W #[vb] 1 (Nat.le_refl _) (by unfold maxLen; omega) rfl
  have hsz : W.heap.size ≤ (W.alloc (.cells #[vb] 23)).heap.size := hal.size
  refine wpList_append_own_at _ hgd s x 22 ho W.heap.size 23 i0 (.slice none 0 0) 1 24 Tryd.underlying22 hi hz0 hz1 hz2 rfl (by decide) _ 1 [vb] hs hown ⟨b, off, none⟩ ls.length cp us hx (by rw [hul, Nat.mul_one]) ?_ ?_ (by unfold maxLen; omega) (by omega) hsz ?_
  · intro j u hj
    have h1 := (hus j u hj).1
    rw [Addr.add_mid, hal.cell (p := ⟨b, off + j, none⟩) (block_lt_of_cell h1)]
    exact h1
  · intro u hu
    obtain ⟨j, hj⟩ := List.getElem?_of_mem hu
    exact (hus j u hj).2.cellOne
  · intro v' w' h2 h3 _ _
    have hbel : Below W.heap.size W w' := hal.grown h3 hsz (fun k hk => by simp only [Value.ownBlock, Option.some.injEq] at hk; omega)
    refine h v' w' ?_ hbel
    obtain ⟨hlen, hcase⟩ := h2
    rcases hcase with ⟨_, hn0⟩ | ⟨g, cap, cur, rfl, hg, hheap, hcap, hmax, hcs, htk⟩
    · omega
    · refine ⟨some ⟨g, 0, none⟩, cap, by rw [List.length_cons, Nat.add_comm], by rw [List.length_cons]; omega, (fun h => by cases h), fun _ => ⟨g, 0, rfl, fun j hj => ?_⟩⟩
      have hjl : j < ([vb] ++ us).length := by rw [List.length_append, hul]; simp at hj ⊢; omega
      have hcell : w'.cell? ⟨g, 0 + j, none⟩ = some (([vb] ++ us)[j]) := by
        have h7 : cur.toList[j]? = some (([vb] ++ us)[j]) := by
          have h8 : (cur.toList.take ((1 + ls.length) * 1))[j]? = ([vb] ++ us)[j]? := by rw [htk]
          rw [List.getElem?_take, if_pos (by rw [List.length_append, hul] at hjl; simp at hjl; omega), List.getElem?_eq_getElem hjl] at h8
          exact h8
        have h9 : w'.cell? ⟨g, j, none⟩ = cur.toList[j]? := by
          simp [World.cell?, hheap]
        rw [Nat.zero_add, h9, h7]
      refine ⟨_, hcell, ?_⟩
      cases j with
      | zero => exact hb.below hbel
      | succ i =>
        have hi2 : us[i]? = some (([vb] ++ us)[i + 1]) := by
          rw [List.getElem?_eq_getElem (by rw [List.length_append] at hjl; simp at hjl; omega)]
          simp
        exact ((hus i _ hi2).2).below hbel
structure NewP (cs : List Value) (w : World) (g : Nat) (w' : World) : Prop where
  ge : w.heap.size ≤ g
  blk : Blk w' g cs 36
  below : Below w.heap.size w w'
theorem wpSeq_boxP {ops : Array Oper} {Q : Exit → Act → World → Prop} {rest : List Oper} {o : Oper} {a : Act} {w : World} (x : Operand) (cs : List Value) (ho : o.op = .box 36 x) (hx : a.eval x = .agg cs.toArray) (hw : Region.wanted o (yielded ops a.tmps) = true)
    (h : ∀ g w', NewP cs w g w' → wpList Tryd.prog ops Q rest (a.put o.dst (.pointer (some ⟨g, 0, none⟩))) w') : wpList Tryd.prog ops Q (o :: rest) a w :=
  wpSeq_box 36 x ho cs hx hw _ rfl (h _ _ ⟨Nat.le_refl _, Blk.new w _ _, below_alloc w _⟩)
theorem wpSeq_loadP {ops : Array Oper} {Q : Exit → Act → World → Prop} {rest : List Oper} {o : Oper} {a : Act} {w : World} (x : Operand) (g : Nat) (cs : List Value) (hl : cs.length = 66) (hb : Blk w g cs 36) (ho : o.op = .load 36 x) (hx : a.eval x = .pointer (some ⟨g, 0, none⟩)) (hw : Region.wanted o (yielded ops a.tmps) = true)
    (h : wpList Tryd.prog ops Q rest (a.put o.dst (.agg cs.toArray)) w) : wpList Tryd.prog ops Q (o :: rest) a w :=
  wpSeq_val _ _ hw (load_run 36 x ho g 0 hx cs _ hb.range Tryd.underlying36 rfl (by rw [hl]; exact info_proof)) h
/-- a way and an index in memory, laid by the call -/
structure Hs (w : World) (gx gp : Nat) (x : List (BitVec 8)) (vs : Value) (sd : List (List (BitVec 8))) (en : Int) (ix va : List (BitVec 8)) (W : World) : Prop where
  xb : Blk W gx (cb x) 33
  pb : Blk W gp (prfV vs en ix va) 36
  rd : ReadsD W vs sd
  bel : Below w.heap.size w W
theorem Hs.next {w W W' : World} {gx gp : Nat} {x : List (BitVec 8)} {vs : Value} {sd : List (List (BitVec 8))} {en : Int} {ix va : List (BitVec 8)} (h : Hs w gx gp x vs sd en ix va W) (hb : Below W.heap.size W W') : Hs w gx gp x vs sd en ix va W' :=
  ⟨h.xb.below hb h.xb.lt, h.pb.below hb h.pb.lt, h.rd.below hb, h.bel.trans (hb.mono h.bel.size)⟩
theorem NewB.set {z n : List (BitVec 8)} {w w1 w2 : World} {g : Nat} (h : NewB z w g w1) (h9 : SetB n w1 g w2) : NewB n w g w2 :=
  ⟨h.ge, h9.blk, h.below.trans (h9.only.below h.ge h.below.size)⟩
end Go.Proofs.YtpeifpoeeopecaaDoor
/- The walks of Right, of record and of the reference. -/
namespace Go.Proofs.YtpeifpoeeopecaaDoor
open Go.RowKit
set_option maxRecDepth 100000
def rightB (n : Nat) (en : Int) (ix va : List (BitVec 8)) : Bool := decide (n ≤ 256) && (decide (en = 1) || (decide (en = 0) && decide (ix = zb32) && decide (va = zb32)))
theorem wpSeq_allocZ {ops : Array Oper} {Q : Exit → Act → World → Prop} {rest : List Oper} {o : Oper} {a : Act} {w : World} (ho : o.op = .alloc 33) (hw : Region.wanted o (yielded ops a.tmps) = true) {zs : List Value} (hz : zs = cb zb32) {n : Nat} (hn : w.heap.size = n)
    (h : wpList Tryd.prog ops Q rest (a.put o.dst (.pointer (some ⟨n, 0, none⟩))) (w.alloc (.cells zs.toArray 33))) : wpList Tryd.prog ops Q (o :: rest) a w := by
  subst hz hn
  exact wpSeq_val _ _ hw (allocDigest _ _ ho _) h
theorem buildZ (f : Operand → Value) (o : Oper) (ho : o.op = .build 33 #[]) (w : World) : (execOp f o).run Tryd.prog w = .ok (.value (.agg (cb zb32).toArray)) w := by
  unfold execOp
  rw [ho]
  kernel_rfl
theorem wpSeq_buildZ {ops : Array Oper} {Q : Exit → Act → World → Prop} {rest : List Oper} {o : Oper} {a : Act} {w : World} (ho : o.op = .build 33 #[]) (hw : Region.wanted o (yielded ops a.tmps) = true) {zs : List Value} (hz : zs = cb zb32)
    (h : wpList Tryd.prog ops Q rest (a.put o.dst (.agg zs.toArray)) w) : wpList Tryd.prog ops Q (o :: rest) a w := by
  subst hz
  exact wpSeq_val _ _ hw (buildZ _ _ ho _) h
set_option maxRecDepth 100000 in
set_option maxHeartbeats 2000000 in
theorem rright_any (vs : Value) (ds : List (List (BitVec 8))) (en : Int) (ix va : List (BitVec 8)) (hix : ix.length = 32) (hva : va.length = 32) (w : World) (hs : ReadsD w vs ds) :
    Calls Tryd.prog 56 #[.agg (prfV vs en ix va).toArray] w fun e w' => e = .returned (.bool (rightB ds.length en ix va)) ∧ Below w.heap.size w w' := by
  have HIX : Hid (ix.length = 32) := hix
  have HVA : Hid (va.length = 32) := hva
  obtain ⟨⟨ad, cp, hv, hq1, hq2, hq3⟩, hq4⟩ := id hs
  clear hq1 hq2 hq3 hq4
  obtain ⟨n, HN⟩ : ∃ m, Hid (m = ds.length) := ⟨_, rfl⟩
  rw [← HN.out] at hv ⊢
  subst hv
  obtain ⟨o, HO⟩ : ∃ o, Hid (o = rightB n en ix va) := ⟨_, rfl⟩
  rw [← HO.out]
  obtain ⟨cs, HCS⟩ : ∃ cs, Hid (cs = (prfV (.slice ad n cp) en ix va)) := ⟨_, rfl⟩
  rw [← HCS.out]
  have HB0 : Hid (Below w.heap.size w (w.alloc (.cells cs.toArray 36))) := below_alloc _ _
  have hBK : Blk (w.alloc (.cells cs.toArray 36)) w.heap.size (prfV (.slice ad n cp) en ix va) 36 := by have := Blk.new w cs 36; rwa [HCS.out] at this ⊢
  have HBK : Hid (Blk (w.alloc (.cells cs.toArray 36)) w.heap.size (prfV (.slice ad n cp) en ix va) 36) := hBK
  have c0 : (w.alloc (.cells cs.toArray 36)).cell? ⟨w.heap.size, 0, none⟩ = some (.slice ad n cp) := hBK.cell 0
  have c1 : (w.alloc (.cells cs.toArray 36)).cell? ⟨w.heap.size, 1, none⟩ = some (.int .i64 en) := hBK.cell 1
  obtain ⟨bx, HBX⟩ : ∃ b, Hid (b = decide (ix = zb32)) := ⟨_, rfl⟩
  obtain ⟨bv, HBV⟩ : ∃ b, Hid (b = decide (va = zb32)) := ⟨_, rfl⟩
  have hex : ∀ wx : World, (Op.equalIn 10000 33 (.agg (cb ix).toArray) (.agg (cb zb32).toArray)).run Tryd.prog wx = .ok bx wx := fun wx => by rw [HBX.out]; exact eq_dig ix zb32 HIX.out len_zb32 wx
  have hev : ∀ wx : World, (Op.equalIn 10000 33 (.agg (cb va).toArray) (.agg (cb zb32).toArray)).run Tryd.prog wx = .ok bv wx := fun wx => by rw [HBV.out]; exact eq_dig va zb32 HVA.out len_zb32 wx
  have HRX : Hid ((w.alloc (.cells cs.toArray 36)).rangeAt w.heap.size 2 (cb ix)) := prfV_rix hBK
  have HRV : Hid ((w.alloc (.cells cs.toArray 36)).rangeAt w.heap.size 34 (cb va)) := prfV_rva hBK HIX.out
  have HOI : Hid (o = (decide (n ≤ 256) && (decide (en = 1) || (decide (en = 0) && bx && bv)))) := by show o = _; rw [HO.out, HBX.out, HBV.out]; rfl
  obtain ⟨zs, HZS⟩ : ∃ zs, Hid (zs = cb zb32) := ⟨_, rfl⟩
  obtain ⟨xs, HXS⟩ : ∃ zs, Hid (zs = cb ix) := ⟨_, rfl⟩
  obtain ⟨ys, HYS⟩ : ∃ zs, Hid (zs = cb va) := ⟨_, rfl⟩
  rw [← HZS.out] at hex hev
  rw [← HXS.out] at hex HRX
  rw [← HYS.out] at hev HRV
  have HIXS : Hid ((Tryd.prog.info? 33).map (·.size) = some xs.length) := by show _ = _; rw [HXS.out]; exact infoD ix HIX.out
  have HIYS : Hid ((Tryd.prog.info? 33).map (·.size) = some ys.length) := by show _ = _; rw [HYS.out]; exact infoD va HVA.out
  have HIZS : Hid ((Tryd.prog.info? 33).map (·.size) = some zs.length) := by show _ = _; rw [HZS.out]; exact infoD zb32 len_zb32
  have HZL : Hid (zs.length = 32) := by show _ = _; rw [HZS.out, cb_len, len_zb32]
  clear hix hva hs hBK HO HIX HVA HBX HBV
  have HZ1 : Hid ((w.alloc (.cells cs.toArray 36)).heap.size = w.heap.size + 1) := by show _ = _; simp
  obtain ⟨w0, HW0⟩ : ∃ x, Hid (x = w.alloc (.cells cs.toArray 36)) := ⟨_, rfl⟩
  rw [← HW0.out] at HB0 HBK c0 c1 HRX HRV HZ1
  by_cases hn : n ≤ 256
  · have hni : ¬ ((256 : Int) < (n : Int)) := by omega
    by_cases h1 : en = 1
    · skip
      subst h1
      have ho : o = true := by rw [HOI.out]; simp [hn]
      subst ho
      clear HOI
      go_enter Tryd.func56, Tryd.ntmps56
      go_wp2_with (first
          | (with_reducible refine wpSeq_box 36 (.tmp 0) ?_ cs ?_ ?_ w0 ?_ ?_
             · rfl
             · rfl
             · rfl
             · exact HW0.out
             clear HW0)
          | (with_reducible refine wpSeq_buildZ ?_ ?_ HZS.out ?_
             · rfl
             · rfl)
          | (with_reducible refine wpSeq_allocZ ?_ ?_ HZS.out HZ1.out ?_
             · rfl
             · rfl)
          | (with_reducible refine wpList_store_mid ?_ 33 (.tmp 3) (.tmp 8) ?_ (w.heap.size + 1) 0 zs.toArray ?_ ?_ ((Blk.new_at HZ1.out zs 33).there 0 _ (by rw [List.size_toArray]; omega)) (by rw [List.size_toArray]; exact HIZS.out) (all_oneCell_toArray (by rw [HZS.out]; exact cb_one zb32)) ?_
             · rfl
             · rfl
             · rfl
             · rfl
             change wpList _ _ _ _ _ ((w0.alloc (.cells zs.toArray 33)).setCells (w.heap.size + 1) 0 zs)
             have HG2 : Hid (Blk ((w0.alloc (.cells zs.toArray 33)).setCells (w.heap.size + 1) 0 zs) (w.heap.size + 1) zs 33) := (Blk.new_at HZ1.out zs 33).whole zs rfl
             have HB2 : Hid (Below (w.heap.size + 1) w0 ((w0.alloc (.cells zs.toArray 33)).setCells (w.heap.size + 1) 0 zs)) := Below.setCells _ (Nat.le_refl _) _ _ _ ((Below.refl _ _).alloc (by rw [HZ1.out]; exact Nat.le_refl _) _)
             have HRX2 : Hid (((w0.alloc (.cells zs.toArray 33)).setCells (w.heap.size + 1) 0 zs).rangeAt w.heap.size 2 xs) := rangeAt_below HRX.out HB2.out (Nat.lt_succ_self _)
             have HRV2 : Hid (((w0.alloc (.cells zs.toArray 33)).setCells (w.heap.size + 1) 0 zs).rangeAt w.heap.size 34 ys) := rangeAt_below HRV.out HB2.out (Nat.lt_succ_self _)
             have c12 : ((w0.alloc (.cells zs.toArray 33)).setCells (w.heap.size + 1) 0 zs).cell? ⟨w.heap.size, 1, none⟩ = some (.int .i64 _) := (HBK.out.below HB2.out (Nat.lt_succ_self _)).cell 1
             have HBF : Hid (Below w.heap.size w ((w0.alloc (.cells zs.toArray 33)).setCells (w.heap.size + 1) 0 zs)) := HB0.out.trans (HB2.out.mono (Nat.le_succ _))
             clear HB2 HRX HRV c0 c1
             generalize ((w0.alloc (.cells zs.toArray 33)).setCells (w.heap.size + 1) 0 zs) = w2 at *)
          | (with_reducible refine wpSeq_loadR (.tmp 17) ?_ ?_ w.heap.size 2 ?_ xs HRX2.out HIXS.out ?_
             · rfl
             · rfl
             · rfl)
          | (with_reducible refine wpSeq_loadR (.tmp 23) ?_ ?_ w.heap.size 34 ?_ ys HRV2.out HIYS.out ?_
             · rfl
             · rfl
             · rfl)
          | (with_reducible refine wpSeq_loadR (.tmp 3) ?_ ?_ (w.heap.size + 1) 0 ?_ zs HG2.out.range HIZS.out ?_
             · rfl
             · rfl
             · rfl))
      go_ret
      exact ⟨rfl, HBF.out⟩
    · by_cases h2 : en = 0
      · subst h2
        cases bx with
        | false =>
          have ho : o = false := by rw [HOI.out]; simp [hn]
          subst ho
          clear HOI
          go_enter Tryd.func56, Tryd.ntmps56
          go_wp2_with (first
              | (with_reducible refine wpSeq_box 36 (.tmp 0) ?_ cs ?_ ?_ w0 ?_ ?_
                 · rfl
                 · rfl
                 · rfl
                 · exact HW0.out
                 clear HW0)
              | (with_reducible refine wpSeq_buildZ ?_ ?_ HZS.out ?_
                 · rfl
                 · rfl)
              | (with_reducible refine wpSeq_allocZ ?_ ?_ HZS.out HZ1.out ?_
                 · rfl
                 · rfl)
              | (with_reducible refine wpList_store_mid ?_ 33 (.tmp 3) (.tmp 8) ?_ (w.heap.size + 1) 0 zs.toArray ?_ ?_ ((Blk.new_at HZ1.out zs 33).there 0 _ (by rw [List.size_toArray]; omega)) (by rw [List.size_toArray]; exact HIZS.out) (all_oneCell_toArray (by rw [HZS.out]; exact cb_one zb32)) ?_
                 · rfl
                 · rfl
                 · rfl
                 · rfl
                 change wpList _ _ _ _ _ ((w0.alloc (.cells zs.toArray 33)).setCells (w.heap.size + 1) 0 zs)
                 have HG2 : Hid (Blk ((w0.alloc (.cells zs.toArray 33)).setCells (w.heap.size + 1) 0 zs) (w.heap.size + 1) zs 33) := (Blk.new_at HZ1.out zs 33).whole zs rfl
                 have HB2 : Hid (Below (w.heap.size + 1) w0 ((w0.alloc (.cells zs.toArray 33)).setCells (w.heap.size + 1) 0 zs)) := Below.setCells _ (Nat.le_refl _) _ _ _ ((Below.refl _ _).alloc (by rw [HZ1.out]; exact Nat.le_refl _) _)
                 have HRX2 : Hid (((w0.alloc (.cells zs.toArray 33)).setCells (w.heap.size + 1) 0 zs).rangeAt w.heap.size 2 xs) := rangeAt_below HRX.out HB2.out (Nat.lt_succ_self _)
                 have HRV2 : Hid (((w0.alloc (.cells zs.toArray 33)).setCells (w.heap.size + 1) 0 zs).rangeAt w.heap.size 34 ys) := rangeAt_below HRV.out HB2.out (Nat.lt_succ_self _)
                 have c12 : ((w0.alloc (.cells zs.toArray 33)).setCells (w.heap.size + 1) 0 zs).cell? ⟨w.heap.size, 1, none⟩ = some (.int .i64 _) := (HBK.out.below HB2.out (Nat.lt_succ_self _)).cell 1
                 have HBF : Hid (Below w.heap.size w ((w0.alloc (.cells zs.toArray 33)).setCells (w.heap.size + 1) 0 zs)) := HB0.out.trans (HB2.out.mono (Nat.le_succ _))
                 clear HB2 HRX HRV c0 c1
                 generalize ((w0.alloc (.cells zs.toArray 33)).setCells (w.heap.size + 1) 0 zs) = w2 at *)
              | (with_reducible refine wpSeq_loadR (.tmp 17) ?_ ?_ w.heap.size 2 ?_ xs HRX2.out HIXS.out ?_
                 · rfl
                 · rfl
                 · rfl)
              | (with_reducible refine wpSeq_loadR (.tmp 23) ?_ ?_ w.heap.size 34 ?_ ys HRV2.out HIYS.out ?_
                 · rfl
                 · rfl
                 · rfl)
              | (with_reducible refine wpSeq_loadR (.tmp 3) ?_ ?_ (w.heap.size + 1) 0 ?_ zs HG2.out.range HIZS.out ?_
                 · rfl
                 · rfl
                 · rfl))
          go_ret
          exact ⟨rfl, HBF.out⟩
        | true =>
          cases bv with
          | false =>
            have ho : o = false := by rw [HOI.out]; simp [hn]
            subst ho
            clear HOI
            go_enter Tryd.func56, Tryd.ntmps56
            go_wp2_with (first
                | (with_reducible refine wpSeq_box 36 (.tmp 0) ?_ cs ?_ ?_ w0 ?_ ?_
                   · rfl
                   · rfl
                   · rfl
                   · exact HW0.out
                   clear HW0)
                | (with_reducible refine wpSeq_buildZ ?_ ?_ HZS.out ?_
                   · rfl
                   · rfl)
                | (with_reducible refine wpSeq_allocZ ?_ ?_ HZS.out HZ1.out ?_
                   · rfl
                   · rfl)
                | (with_reducible refine wpList_store_mid ?_ 33 (.tmp 3) (.tmp 8) ?_ (w.heap.size + 1) 0 zs.toArray ?_ ?_ ((Blk.new_at HZ1.out zs 33).there 0 _ (by rw [List.size_toArray]; omega)) (by rw [List.size_toArray]; exact HIZS.out) (all_oneCell_toArray (by rw [HZS.out]; exact cb_one zb32)) ?_
                   · rfl
                   · rfl
                   · rfl
                   · rfl
                   change wpList _ _ _ _ _ ((w0.alloc (.cells zs.toArray 33)).setCells (w.heap.size + 1) 0 zs)
                   have HG2 : Hid (Blk ((w0.alloc (.cells zs.toArray 33)).setCells (w.heap.size + 1) 0 zs) (w.heap.size + 1) zs 33) := (Blk.new_at HZ1.out zs 33).whole zs rfl
                   have HB2 : Hid (Below (w.heap.size + 1) w0 ((w0.alloc (.cells zs.toArray 33)).setCells (w.heap.size + 1) 0 zs)) := Below.setCells _ (Nat.le_refl _) _ _ _ ((Below.refl _ _).alloc (by rw [HZ1.out]; exact Nat.le_refl _) _)
                   have HRX2 : Hid (((w0.alloc (.cells zs.toArray 33)).setCells (w.heap.size + 1) 0 zs).rangeAt w.heap.size 2 xs) := rangeAt_below HRX.out HB2.out (Nat.lt_succ_self _)
                   have HRV2 : Hid (((w0.alloc (.cells zs.toArray 33)).setCells (w.heap.size + 1) 0 zs).rangeAt w.heap.size 34 ys) := rangeAt_below HRV.out HB2.out (Nat.lt_succ_self _)
                   have c12 : ((w0.alloc (.cells zs.toArray 33)).setCells (w.heap.size + 1) 0 zs).cell? ⟨w.heap.size, 1, none⟩ = some (.int .i64 _) := (HBK.out.below HB2.out (Nat.lt_succ_self _)).cell 1
                   have HBF : Hid (Below w.heap.size w ((w0.alloc (.cells zs.toArray 33)).setCells (w.heap.size + 1) 0 zs)) := HB0.out.trans (HB2.out.mono (Nat.le_succ _))
                   clear HB2 HRX HRV c0 c1
                   generalize ((w0.alloc (.cells zs.toArray 33)).setCells (w.heap.size + 1) 0 zs) = w2 at *)
                | (with_reducible refine wpSeq_loadR (.tmp 17) ?_ ?_ w.heap.size 2 ?_ xs HRX2.out HIXS.out ?_
                   · rfl
                   · rfl
                   · rfl)
                | (with_reducible refine wpSeq_loadR (.tmp 23) ?_ ?_ w.heap.size 34 ?_ ys HRV2.out HIYS.out ?_
                   · rfl
                   · rfl
                   · rfl)
                | (with_reducible refine wpSeq_loadR (.tmp 3) ?_ ?_ (w.heap.size + 1) 0 ?_ zs HG2.out.range HIZS.out ?_
                   · rfl
                   · rfl
                   · rfl))
            go_ret
            exact ⟨rfl, HBF.out⟩
          | true =>
            have ho : o = true := by rw [HOI.out]; simp [hn]
            subst ho
            clear HOI
            go_enter Tryd.func56, Tryd.ntmps56
            go_wp2_with (first
                | (with_reducible refine wpSeq_box 36 (.tmp 0) ?_ cs ?_ ?_ w0 ?_ ?_
                   · rfl
                   · rfl
                   · rfl
                   · exact HW0.out
                   clear HW0)
                | (with_reducible refine wpSeq_buildZ ?_ ?_ HZS.out ?_
                   · rfl
                   · rfl)
                | (with_reducible refine wpSeq_allocZ ?_ ?_ HZS.out HZ1.out ?_
                   · rfl
                   · rfl)
                | (with_reducible refine wpList_store_mid ?_ 33 (.tmp 3) (.tmp 8) ?_ (w.heap.size + 1) 0 zs.toArray ?_ ?_ ((Blk.new_at HZ1.out zs 33).there 0 _ (by rw [List.size_toArray]; omega)) (by rw [List.size_toArray]; exact HIZS.out) (all_oneCell_toArray (by rw [HZS.out]; exact cb_one zb32)) ?_
                   · rfl
                   · rfl
                   · rfl
                   · rfl
                   change wpList _ _ _ _ _ ((w0.alloc (.cells zs.toArray 33)).setCells (w.heap.size + 1) 0 zs)
                   have HG2 : Hid (Blk ((w0.alloc (.cells zs.toArray 33)).setCells (w.heap.size + 1) 0 zs) (w.heap.size + 1) zs 33) := (Blk.new_at HZ1.out zs 33).whole zs rfl
                   have HB2 : Hid (Below (w.heap.size + 1) w0 ((w0.alloc (.cells zs.toArray 33)).setCells (w.heap.size + 1) 0 zs)) := Below.setCells _ (Nat.le_refl _) _ _ _ ((Below.refl _ _).alloc (by rw [HZ1.out]; exact Nat.le_refl _) _)
                   have HRX2 : Hid (((w0.alloc (.cells zs.toArray 33)).setCells (w.heap.size + 1) 0 zs).rangeAt w.heap.size 2 xs) := rangeAt_below HRX.out HB2.out (Nat.lt_succ_self _)
                   have HRV2 : Hid (((w0.alloc (.cells zs.toArray 33)).setCells (w.heap.size + 1) 0 zs).rangeAt w.heap.size 34 ys) := rangeAt_below HRV.out HB2.out (Nat.lt_succ_self _)
                   have c12 : ((w0.alloc (.cells zs.toArray 33)).setCells (w.heap.size + 1) 0 zs).cell? ⟨w.heap.size, 1, none⟩ = some (.int .i64 _) := (HBK.out.below HB2.out (Nat.lt_succ_self _)).cell 1
                   have HBF : Hid (Below w.heap.size w ((w0.alloc (.cells zs.toArray 33)).setCells (w.heap.size + 1) 0 zs)) := HB0.out.trans (HB2.out.mono (Nat.le_succ _))
                   clear HB2 HRX HRV c0 c1
                   generalize ((w0.alloc (.cells zs.toArray 33)).setCells (w.heap.size + 1) 0 zs) = w2 at *)
                | (with_reducible refine wpSeq_loadR (.tmp 17) ?_ ?_ w.heap.size 2 ?_ xs HRX2.out HIXS.out ?_
                   · rfl
                   · rfl
                   · rfl)
                | (with_reducible refine wpSeq_loadR (.tmp 23) ?_ ?_ w.heap.size 34 ?_ ys HRV2.out HIYS.out ?_
                   · rfl
                   · rfl
                   · rfl)
                | (with_reducible refine wpSeq_loadR (.tmp 3) ?_ ?_ (w.heap.size + 1) 0 ?_ zs HG2.out.range HIZS.out ?_
                   · rfl
                   · rfl
                   · rfl))
            go_ret
            exact ⟨rfl, HBF.out⟩
      · have e1 : (en == 1) = false := by simp [h1]
        have e2 : (en == 0) = false := by simp [h2]
        have e3 : (en != 1) = true := by simp [h1]
        have e4 : (en != 0) = true := by simp [h2]
        have ho : o = false := by rw [HOI.out]; simp [hn, h1, h2]
        subst ho
        clear HOI
        go_enter Tryd.func56, Tryd.ntmps56
        go_wp2_with (first
            | (with_reducible refine wpSeq_box 36 (.tmp 0) ?_ cs ?_ ?_ w0 ?_ ?_
               · rfl
               · rfl
               · rfl
               · exact HW0.out
               clear HW0)
            | (with_reducible refine wpSeq_buildZ ?_ ?_ HZS.out ?_
               · rfl
               · rfl)
            | (with_reducible refine wpSeq_allocZ ?_ ?_ HZS.out HZ1.out ?_
               · rfl
               · rfl)
            | (with_reducible refine wpList_store_mid ?_ 33 (.tmp 3) (.tmp 8) ?_ (w.heap.size + 1) 0 zs.toArray ?_ ?_ ((Blk.new_at HZ1.out zs 33).there 0 _ (by rw [List.size_toArray]; omega)) (by rw [List.size_toArray]; exact HIZS.out) (all_oneCell_toArray (by rw [HZS.out]; exact cb_one zb32)) ?_
               · rfl
               · rfl
               · rfl
               · rfl
               change wpList _ _ _ _ _ ((w0.alloc (.cells zs.toArray 33)).setCells (w.heap.size + 1) 0 zs)
               have HG2 : Hid (Blk ((w0.alloc (.cells zs.toArray 33)).setCells (w.heap.size + 1) 0 zs) (w.heap.size + 1) zs 33) := (Blk.new_at HZ1.out zs 33).whole zs rfl
               have HB2 : Hid (Below (w.heap.size + 1) w0 ((w0.alloc (.cells zs.toArray 33)).setCells (w.heap.size + 1) 0 zs)) := Below.setCells _ (Nat.le_refl _) _ _ _ ((Below.refl _ _).alloc (by rw [HZ1.out]; exact Nat.le_refl _) _)
               have HRX2 : Hid (((w0.alloc (.cells zs.toArray 33)).setCells (w.heap.size + 1) 0 zs).rangeAt w.heap.size 2 xs) := rangeAt_below HRX.out HB2.out (Nat.lt_succ_self _)
               have HRV2 : Hid (((w0.alloc (.cells zs.toArray 33)).setCells (w.heap.size + 1) 0 zs).rangeAt w.heap.size 34 ys) := rangeAt_below HRV.out HB2.out (Nat.lt_succ_self _)
               have c12 : ((w0.alloc (.cells zs.toArray 33)).setCells (w.heap.size + 1) 0 zs).cell? ⟨w.heap.size, 1, none⟩ = some (.int .i64 _) := (HBK.out.below HB2.out (Nat.lt_succ_self _)).cell 1
               have HBF : Hid (Below w.heap.size w ((w0.alloc (.cells zs.toArray 33)).setCells (w.heap.size + 1) 0 zs)) := HB0.out.trans (HB2.out.mono (Nat.le_succ _))
               clear HB2 HRX HRV c0 c1
               generalize ((w0.alloc (.cells zs.toArray 33)).setCells (w.heap.size + 1) 0 zs) = w2 at *)
            | (with_reducible refine wpSeq_loadR (.tmp 17) ?_ ?_ w.heap.size 2 ?_ xs HRX2.out HIXS.out ?_
               · rfl
               · rfl
               · rfl)
            | (with_reducible refine wpSeq_loadR (.tmp 23) ?_ ?_ w.heap.size 34 ?_ ys HRV2.out HIYS.out ?_
               · rfl
               · rfl
               · rfl)
            | (with_reducible refine wpSeq_loadR (.tmp 3) ?_ ?_ (w.heap.size + 1) 0 ?_ zs HG2.out.range HIZS.out ?_
               · rfl
               · rfl
               · rfl))
        go_ret
        exact ⟨by first | rfl | simp, HBF.out⟩
  · have hni : (256 : Int) < (n : Int) := by omega
    have ho : o = false := by rw [HOI.out]; rw [decide_eq_false hn]; rfl
    subst ho
    clear HOI
    go_enter Tryd.func56, Tryd.ntmps56
    go_wp2_with (first
        | (with_reducible refine wpSeq_box 36 (.tmp 0) ?_ cs ?_ ?_ w0 ?_ ?_
           · rfl
           · rfl
           · rfl
           · exact HW0.out
           clear HW0)
        | (with_reducible refine wpSeq_buildZ ?_ ?_ HZS.out ?_
           · rfl
           · rfl)
        | (with_reducible refine wpSeq_allocZ ?_ ?_ HZS.out HZ1.out ?_
           · rfl
           · rfl)
        | (with_reducible refine wpList_store_mid ?_ 33 (.tmp 3) (.tmp 8) ?_ (w.heap.size + 1) 0 zs.toArray ?_ ?_ ((Blk.new_at HZ1.out zs 33).there 0 _ (by rw [List.size_toArray]; omega)) (by rw [List.size_toArray]; exact HIZS.out) (all_oneCell_toArray (by rw [HZS.out]; exact cb_one zb32)) ?_
           · rfl
           · rfl
           · rfl
           · rfl
           change wpList _ _ _ _ _ ((w0.alloc (.cells zs.toArray 33)).setCells (w.heap.size + 1) 0 zs)
           have HG2 : Hid (Blk ((w0.alloc (.cells zs.toArray 33)).setCells (w.heap.size + 1) 0 zs) (w.heap.size + 1) zs 33) := (Blk.new_at HZ1.out zs 33).whole zs rfl
           have HB2 : Hid (Below (w.heap.size + 1) w0 ((w0.alloc (.cells zs.toArray 33)).setCells (w.heap.size + 1) 0 zs)) := Below.setCells _ (Nat.le_refl _) _ _ _ ((Below.refl _ _).alloc (by rw [HZ1.out]; exact Nat.le_refl _) _)
           have HRX2 : Hid (((w0.alloc (.cells zs.toArray 33)).setCells (w.heap.size + 1) 0 zs).rangeAt w.heap.size 2 xs) := rangeAt_below HRX.out HB2.out (Nat.lt_succ_self _)
           have HRV2 : Hid (((w0.alloc (.cells zs.toArray 33)).setCells (w.heap.size + 1) 0 zs).rangeAt w.heap.size 34 ys) := rangeAt_below HRV.out HB2.out (Nat.lt_succ_self _)
           have c12 : ((w0.alloc (.cells zs.toArray 33)).setCells (w.heap.size + 1) 0 zs).cell? ⟨w.heap.size, 1, none⟩ = some (.int .i64 _) := (HBK.out.below HB2.out (Nat.lt_succ_self _)).cell 1
           have HBF : Hid (Below w.heap.size w ((w0.alloc (.cells zs.toArray 33)).setCells (w.heap.size + 1) 0 zs)) := HB0.out.trans (HB2.out.mono (Nat.le_succ _))
           clear HB2 HRX HRV c0 c1
           generalize ((w0.alloc (.cells zs.toArray 33)).setCells (w.heap.size + 1) 0 zs) = w2 at *)
        | (with_reducible refine wpSeq_loadR (.tmp 17) ?_ ?_ w.heap.size 2 ?_ xs HRX2.out HIXS.out ?_
           · rfl
           · rfl
           · rfl)
        | (with_reducible refine wpSeq_loadR (.tmp 23) ?_ ?_ w.heap.size 34 ?_ ys HRV2.out HIYS.out ?_
           · rfl
           · rfl
           · rfl)
        | (with_reducible refine wpSeq_loadR (.tmp 3) ?_ ?_ (w.heap.size + 1) 0 ?_ zs HG2.out.range HIZS.out ?_
           · rfl
           · rfl
           · rfl))
    go_ret
    exact ⟨rfl, HB0.out⟩
end Go.Proofs.YtpeifpoeeopecaaDoor
/- What is hashed at the end of a way, and above it (layer 8, the program's own). -/
namespace Go.Proofs.YtpeifpoeeopecaaDoor
open Go.RowKit
set_option maxRecDepth 100000
set_option maxRecDepth 100000 in
set_option maxHeartbeats 4000000 in
theorem end_any (vs : Value) (en : Int) (ix va : List (BitVec 8)) (w : World) (hix : ix.length = 32) (hva : va.length = 32) (hv : ∃ ad n c, vs = .slice ad n c) :
    Calls Tryd.prog 49 #[.agg (prfV vs en ix va).toArray] w fun e w' => ∃ v, e = .returned v ∧ Fresh w.heap.size w' v (endB en ix va) ∧ Below w.heap.size w w' := by
  have HIL : Hid (ix.length = 32) := hix
  have HVL : Hid (va.length = 32) := hva
  obtain ⟨ads, n, cps, rfl⟩ := hv
  obtain ⟨cs, HCS⟩ : ∃ c, Hid (c = prfV (.slice ads n cps) en ix va) := ⟨_, rfl⟩
  rw [← HCS.out]
  obtain ⟨b0, HB0⟩ : ∃ b, Hid (b = endB en ix va) := ⟨_, rfl⟩
  rw [← HB0.out]
  clear hix hva
  by_cases he : en = 1
  · have HBE : Hid (b0 = pairB 76 ix va) := by show _ = _; rw [HB0.out, endB, if_pos he]
    subst he
    clear HB0
    go_enter Tryd.func49, Tryd.ntmps49
    go_wp2_with (first
        | (with_reducible refine wpSeq_boxP (.tmp 0) cs ?_ ?_ ?_ ?_
           · rfl
           · rfl
           · rfl
           intro gp w2 nn2
           have HPB : Hid (Blk w2 gp (prfV (.slice ads n cps) 1 ix va) 36) := by rw [← HCS.out]; exact nn2.blk
           have HBW : Hid (Below w.heap.size w w2) := nn2.below
           have c1 : w2.cell? ⟨gp, 1, none⟩ = some (.int .i64 1) := HPB.out.cell 1
           clear nn2 HCS)
        | (with_reducible refine wpSeq_loadR (.tmp 6) ?_ ?_ gp 2 ?_ (cb ix) (prfV_rix HPB.out) (infoD ix HIL.out) ?_
           · rfl
           · rfl
           · rfl)
        | (with_reducible refine wpSeq_loadR (.tmp 8) ?_ ?_ gp 34 ?_ (cb va) (prfV_rva HPB.out HIL.out) (infoD va HVL.out) ?_
           · rfl
           · rfl
           · rfl)
        | (go_at_call 71; refine (tLeaf_own ix va HIL.out HVL.out _).mono ?_; rintro e w4 ⟨v4, rfl, hf4, hb4⟩
           obtain ⟨a4, n4, c4, hv4⟩ := hf4.rd.form
           subst hv4
           have HF : Hid (Fresh w.heap.size w4 (.slice a4 n4 c4) b0) := by rw [HBE.out]; exact hf4.mono HBW.out.size
           replace HBW : Hid (Below w.heap.size w w4) := HBW.out.trans (hb4.mono HBW.out.size)
           clear hb4 hf4 c1 HPB))
    go_ret
    exact ⟨_, rfl, HF.out, HBW.out⟩
  · have HBE : Hid (b0 = [69]) := by show _ = _; rw [HB0.out, endB, if_neg he]
    have he2 : (en == 1) = false := by rw [beq_eq_false_iff_ne]; exact he
    clear HB0
    go_enter Tryd.func49, Tryd.ntmps49
    go_wp2_with (first
        | (with_reducible refine wpSeq_boxP (.tmp 0) cs ?_ ?_ ?_ ?_
           · rfl
           · rfl
           · rfl
           intro gp w2 nn2
           have HPB : Hid (Blk w2 gp (prfV (.slice ads n cps) en ix va) 36) := by rw [← HCS.out]; exact nn2.blk
           have HBW : Hid (Below w.heap.size w w2) := nn2.below
           have c1 : w2.cell? ⟨gp, 1, none⟩ = some (.int .i64 en) := HPB.out.cell 1
           clear nn2 HCS)
        | (go_at_call 72; refine (tEmpty_own _).mono ?_; rintro e w4 ⟨v4, rfl, hf4, hb4⟩
           obtain ⟨a4, n4, c4, hv4⟩ := hf4.rd.form
           subst hv4
           have HF : Hid (Fresh w.heap.size w4 (.slice a4 n4 c4) b0) := by rw [HBE.out]; exact hf4.mono HBW.out.size
           replace HBW : Hid (Below w.heap.size w w4) := HBW.out.trans (hb4.mono HBW.out.size)
           clear hb4 hf4 c1 HPB))
    go_ret
    exact ⟨_, rfl, HF.out, HBW.out⟩
set_option maxRecDepth 100000 in
set_option maxHeartbeats 4000000 in
theorem above_any (vb : Value) (bs s : List (BitVec 8)) (on : Bool) (w : World) (hK : KOk w) (hR : Reads w vb bs) (hl : bs.length ≤ 65) (hs : s.length = 32) :
    Calls Tryd.prog 51 #[vb, .agg (cb s).toArray, .bool on] w fun e w' => ∃ v, e = .returned v ∧ Fresh w.heap.size w' v (nodeB on s (dig bs)) ∧ Below w.heap.size w w' := by
  have HK : Hid (KOk w) := hK
  have HRB : Hid (Reads w vb bs) := hR
  have HLE : Hid (bs.length ≤ 65) := hl
  have HSL : Hid (s.length = 32) := hs
  obtain ⟨y, HYD⟩ : ∃ y, Hid (y = dig bs) := ⟨_, rfl⟩
  have HYL : Hid (y.length = 32) := by show _ = _; rw [HYD.out]; exact len_dig' _
  obtain ⟨nb, HNB⟩ : ∃ z, Hid (z = nodeB on s (dig bs)) := ⟨_, rfl⟩
  have HNB2 : Hid (nb = nodeB on s y) := by show _ = _; rw [HNB.out, HYD.out]
  rw [← HNB.out]
  obtain ⟨a0, n0, c0, hv0⟩ := hR.form
  subst hv0
  have HOF : Hid (∀ W', Below w.heap.size w W' → Calls Tryd.prog 30 #[.slice a0 n0 c0] W' fun e w' => e = .returned (.agg (cb y).toArray) ∧ Below W'.heap.size W' w') := fun W' hb => by rw [HYD.out]; exact tOf_any _ bs _ (HK.out.below hb HK.out.lt) (HRB.out.below hb) (by have := HLE.out; omega)
  clear hK hR hl hs HNB
  cases on
  · go_enter Tryd.func51, Tryd.ntmps51
    go_upto_region 3 with (first
      | (with_reducible refine wpSeq_boxD (.tmp 1) s ?_ ?_ ?_ ?_
         · rfl
         · rfl
         · rfl
         intro g4 w0 nn))
    have HB1 : Hid (Below w.heap.size w w0.drew) := nn.below.drew
    have HB4 : Hid (Blk w0.drew g4 (cb s) 33) := nn.blk.drew
    clear nn
    refine wp_region_held_drew (S := Over w0.drew) (by kernel_rfl) (Over.refl _) ?_
    intro hS
    refine wpAnyH_take (i := 2) (v := .agg (cb s).toArray) rfl (by kernel_rfl) (by kernel_rfl) (by kernel_rfl) (fun _ _ _ h => h) (Or.inl ⟨by rfl, fun wx hx => by exact loadDigest _ g4 s HSL.out (Over.blk hx HB4.out) rfl rfl⟩) hS ?_
    simp only [Act.put, List.getElem_toArray, List.getElem_cons_succ, List.getElem_cons_zero, List.setIfInBounds_toArray, List.set_cons_zero, List.set_cons_succ]
    refine wpAnyH_take (i := 0) (v := .slice a0 n0 c0) rfl (by kernel_rfl) (by kernel_rfl) (by kernel_rfl) (fun _ _ _ h => h) (Or.inl ⟨by rfl, fun wx hx => by simp [go_sem]⟩) hS ?_
    simp only [Act.put, List.getElem_toArray, List.getElem_cons_zero, List.setIfInBounds_toArray, List.set_cons_zero, List.set_cons_succ]
    refine wpAnyH_enter 1 (by kernel_rfl) rfl (by rfl) (f := 30) (args := #[.slice a0 n0 c0]) (by simp [go_sem]) (HOF.out _ (hS.after HB1.out)) ?_
    rintro e wy ⟨rfl, hbq⟩
    refine ⟨_, rfl, hS.more hbq, ?_⟩
    replace hS := hS.more hbq
    clear hbq
    simp only [Act.put, List.getElem_toArray, List.getElem_cons_succ, List.getElem_cons_zero, List.setIfInBounds_toArray, List.set_cons_zero, List.set_cons_succ]
    have HZ : Hid (w.heap.size ≤ wy.heap.size) := Nat.le_trans HB1.out.size (Below.size hS)
    refine wpAnyH_enter 3 (by kernel_rfl) rfl (by rfl) (f := 74) (args := #[.agg (cb y).toArray, .agg (cb s).toArray]) (by simp [go_sem]) (tNode_own y s HYL.out HSL.out _) ?_
    rintro e wy ⟨v7, rfl, hf7, hbq⟩
    refine ⟨_, rfl, hS.more hbq, ?_⟩
    replace hS := hS.more hbq
    clear hbq
    replace hf7 := hf7.mono HZ.out
    clear HZ
    obtain ⟨a7, n7, c7, hv7⟩ := hf7.rd.form
    subst hv7
    simp only [Act.put, List.getElem_toArray, List.getElem_cons_succ, List.getElem_cons_zero, List.setIfInBounds_toArray, List.set_cons_zero, List.set_cons_succ]
    refine wpAnyH_take (i := 4) (v := .slice a7 n7 c7) rfl (by kernel_rfl) (by kernel_rfl) (by kernel_rfl) (fun _ _ _ h => h) (Or.inl ⟨by rfl, fun wx hx => by simp [go_sem]⟩) hS ?_
    simp only [Act.put, List.getElem_toArray, List.getElem_cons_succ, List.getElem_cons_zero, List.setIfInBounds_toArray, List.set_cons_zero, List.set_cons_succ]
    refine wpAnyH_done (by kernel_rfl) ?_ _
    have HF : Hid (Fresh w.heap.size wy (.slice a7 n7 c7) nb) := by rw [HNB2.out]; exact hf7
    have HBW : Hid (Below w.heap.size w wy) := hS.after HB1.out
    clear hS hf7
    go_wp2
    go_ret
    exact ⟨_, rfl, HF.out, HBW.out⟩
  · go_enter Tryd.func51, Tryd.ntmps51
    go_upto_region 2 with (first
      | (with_reducible refine wpSeq_boxD (.tmp 1) s ?_ ?_ ?_ ?_
         · rfl
         · rfl
         · rfl
         intro g4 w0 nn))
    have HB1 : Hid (Below w.heap.size w w0.drew) := nn.below.drew
    have HB4 : Hid (Blk w0.drew g4 (cb s) 33) := nn.blk.drew
    clear nn
    refine wp_region_held_drew (S := Over w0.drew) (by kernel_rfl) (Over.refl _) ?_
    intro hS
    refine wpAnyH_take (i := 0) (v := .agg (cb s).toArray) rfl (by kernel_rfl) (by kernel_rfl) (by kernel_rfl) (fun _ _ _ h => h) (Or.inl ⟨by rfl, fun wx hx => by exact loadDigest _ g4 s HSL.out (Over.blk hx HB4.out) rfl rfl⟩) hS ?_
    simp only [Act.put, List.getElem_toArray, List.getElem_cons_zero, List.setIfInBounds_toArray, List.set_cons_zero, List.set_cons_succ]
    refine wpAnyH_take (i := 1) (v := .slice a0 n0 c0) rfl (by kernel_rfl) (by kernel_rfl) (by kernel_rfl) (fun _ _ _ h => h) (Or.inl ⟨by rfl, fun wx hx => by simp [go_sem]⟩) hS ?_
    simp only [Act.put, List.getElem_toArray, List.getElem_cons_succ, List.getElem_cons_zero, List.setIfInBounds_toArray, List.set_cons_zero, List.set_cons_succ]
    refine wpAnyH_enter 2 (by kernel_rfl) rfl (by rfl) (f := 30) (args := #[.slice a0 n0 c0]) (by simp [go_sem]) (HOF.out _ (hS.after HB1.out)) ?_
    rintro e wy ⟨rfl, hbq⟩
    refine ⟨_, rfl, hS.more hbq, ?_⟩
    replace hS := hS.more hbq
    clear hbq
    simp only [Act.put, List.getElem_toArray, List.getElem_cons_succ, List.getElem_cons_zero, List.setIfInBounds_toArray, List.set_cons_zero, List.set_cons_succ]
    have HZ : Hid (w.heap.size ≤ wy.heap.size) := Nat.le_trans HB1.out.size (Below.size hS)
    refine wpAnyH_enter 3 (by kernel_rfl) rfl (by rfl) (f := 74) (args := #[.agg (cb s).toArray, .agg (cb y).toArray]) (by simp [go_sem]) (tNode_own s y HSL.out HYL.out _) ?_
    rintro e wy ⟨v7, rfl, hf7, hbq⟩
    refine ⟨_, rfl, hS.more hbq, ?_⟩
    replace hS := hS.more hbq
    clear hbq
    replace hf7 := hf7.mono HZ.out
    clear HZ
    obtain ⟨a7, n7, c7, hv7⟩ := hf7.rd.form
    subst hv7
    simp only [Act.put, List.getElem_toArray, List.getElem_cons_succ, List.getElem_cons_zero, List.setIfInBounds_toArray, List.set_cons_zero, List.set_cons_succ]
    refine wpAnyH_take (i := 4) (v := .slice a7 n7 c7) rfl (by kernel_rfl) (by kernel_rfl) (by kernel_rfl) (fun _ _ _ h => h) (Or.inl ⟨by rfl, fun wx hx => by simp [go_sem]⟩) hS ?_
    simp only [Act.put, List.getElem_toArray, List.getElem_cons_succ, List.getElem_cons_zero, List.setIfInBounds_toArray, List.set_cons_zero, List.set_cons_succ]
    refine wpAnyH_done (by kernel_rfl) ?_ _
    have HF : Hid (Fresh w.heap.size wy (.slice a7 n7 c7) nb) := by rw [HNB2.out]; exact hf7
    have HBW : Hid (Below w.heap.size w wy) := hS.after HB1.out
    clear hS hf7
    go_wp2
    go_ret
    exact ⟨_, rfl, HF.out, HBW.out⟩
end Go.Proofs.YtpeifpoeeopecaaDoor
/- slices.Backward over digests, and the function that it hands out: it yields all, from the last on. -/
namespace Go.Proofs.YtpeifpoeeopecaaDoor
open Go.RowKit Go.Shelf
set_option maxRecDepth 100000
attribute [local go_sem] Oper.semAt_some
/-- what stands below n₀, and block gs, stay -/
structure KpB (n₀ gs : Nat) (X Y : World) : Prop where
  below : Below n₀ X Y
  same : Y.heap[gs]? = X.heap[gs]?
theorem KpB.refl (n₀ gs : Nat) (X : World) : KpB n₀ gs X X := ⟨Below.refl _ _, rfl⟩
theorem KpB.trans {n₀ gs : Nat} {X Y Z : World} (h : KpB n₀ gs X Y) (k : KpB n₀ gs Y Z) : KpB n₀ gs X Z := ⟨h.below.trans k.below, k.same.trans h.same⟩
theorem KpB.put {n₀ gs : Nat} {w : World} (hn : n₀ ≤ w.heap.size) (hg : gs < w.heap.size) (W : World) (l : Nat) (o o' : Obj) (hl : w.heap.size ≤ l) (h : W.heap[l]? = some o) (h1 : o.isCells = false) (h2 : o.isWalk = false) : KpB n₀ gs W (W.putObj l o') :=
  ⟨belowK_b hn W l o o' hl h h1 h2, (grownBy_putObj' W l o').block gs (by have := (Array.getElem?_eq_some_iff.1 h).1; omega) (fun e => by cases e; omega)⟩
theorem back_any (vs : Value) (ads : Option Addr) (n cps : Nat) (hv : vs = .slice ads n cps) (w : World) : Calls Tryd.prog 50 #[vs] w fun e w' => ∃ g, e = .returned (.func (.func 73) #[] #[.pointer (some ⟨g, 0, none⟩)]) ∧ Blk w' g [vs] 34 ∧ g = w.heap.size ∧ Below w.heap.size w w' ∧ w'.heap.size = w.heap.size + 1 := by
  subst hv
  go_enter Tryd.func50, Tryd.ntmps50
  go_wp2
  go_ret
  exact ⟨_, rfl, Blk.new w _ _, rfl, below_alloc _ _, by simp⟩
/-- the places from the last one to k -/
def backN (n k : Nat) : List Nat := (List.range' k (n - k)).reverse
theorem backN_len (n k : Nat) : (backN n k).length = n - k := by simp [backN]
theorem backN_step (n k : Nat) (h : k < n) : backN n k = backN n (k + 1) ++ [k] := by
  unfold backN
  rw [show n - k = (n - (k + 1)) + 1 by omega, List.range'_succ, List.reverse_cons]
theorem backN_all (n : Nat) : backN n n = [] := by simp [backN]
/-- what is yielded -/
abbrev encsS (sd : List (List (BitVec 8))) (k : Nat) : Array Value := #[.int .i64 (k : Int), .agg (cb (sd.getD k zb32)).toArray]
theorem getD_zb {sd : List (List (BitVec 8))} (h : ∀ s ∈ sd, s.length = 32) (k : Nat) : (sd.getD k zb32).length = 32 := by
  rw [List.getD_eq_getElem?_getD]
  cases hk : sd[k]? with
  | none => rfl
  | some s => exact h s (List.mem_of_getElem? hk)
theorem wpSeqIn_loadAt {F : Fence} {n : Nat} {ops : Array Oper} {Q : Exit → Act → World → Prop} {rest : List Oper} {o : Oper} {a : Act} {w : World} (x : Operand) (b of : Nat) (l : List (BitVec 8)) (hl : l.length = 32) (hb : w.rangeAt b of (cb l)) (ho : o.op = .load 33 x) (hx : a.eval x = .pointer (some ⟨b, of, none⟩)) (hw : Region.wanted o (yielded ops a.tmps) = true)
    (h : wpListIn F n Tryd.prog ops Q rest (a.put o.dst (.agg (cb l).toArray)) w) : wpListIn F n Tryd.prog ops Q (o :: rest) a w :=
  wpSeqIn_val _ _ hw (by rw [ho]; intro c hc; cases hc) (by simp [Oper.about, ho]) (load_run 33 x ho b of hx (cb l) _ hb Tryd.underlying33 rfl (by rw [cb_len, hl]; exact info_digest)) h
set_option maxRecDepth 100000 in
set_option maxHeartbeats 4000000 in
theorem back_stops (n : Nat) {v0 : World} {n₀ gs : Nat} {vs : Value} {sd : List (List (BitVec 8))} (hz : v0.heap.size = n₀) (hR : ReadsD v0 vs sd) (hl : sd.length ≤ 1000) (w : World) (hw : Below n₀ v0 w) (hnw : n₀ ≤ w.heap.size) (hB : Blk w gs [vs] 34) :
    SeqStopsK Fence.wide n Tryd.prog 73 #[.pointer (some ⟨gs, 0, none⟩)] (encsS sd) (KpB n₀ gs) (fun xs => xs = backN sd.length 0) (fun _ => True) sd.length w := fun lab J Jx W hW hJ hJx hY h0 => by
  obtain ⟨m, HM⟩ : ∃ m, Hid (m = sd.length) := ⟨_, rfl⟩
  obtain ⟨ads, cps, hvs⟩ := hR.slice
  rw [← HM.out] at hvs
  subst hvs
  have HRD : Hid (∀ W, Below n₀ v0 W → ReadsD W (.slice ads m cps) sd) := fun W h => hR.below (by rw [hz]; exact h)
  have HW0 : Hid (Below n₀ v0 W ∧ Blk W gs [.slice ads m cps] 34) := ⟨hw.trans (hW.mono hnw), hB.below hW hB.lt⟩
  have HML : Hid (m ≤ 1000) := by show _ ≤ _; rw [HM.out]; exact hl
  have HY : Aside (∀ pre x W1, J pre W1 → pre.length < m → YieldAt Fence.wide (n - 1) Tryd.prog lab (encsS sd x) W1 fun e W' => (e = .returned (.bool true) ∧ J (pre ++ [x]) W' ∧ KpB n₀ gs W1 W') ∨ (e = .returned (.bool false) ∧ Jx (pre ++ [x]) W')) := fun pre x W1 hj hp => hY pre x W1 hj (by rw [← HM.out]; exact hp)
  have HJ0 : Hid (J [] W) := h0
  have c0 : W.cell? ⟨gs, 0, none⟩ = some (.slice ads m cps) := HW0.out.2.cell 0
  have r0 : IntKind.i64.wrap ((m : Int) - 1) = (m : Int) - 1 := by rw [IntKind.wrap_i64]; have := HML.out; omega
  clear hB hW hw hR hY h0 hJ hJx hl
  refine callsIn_wide.2 ?_
  simp only [List.append_toArray, List.cons_append, List.nil_append]
  go_enter Tryd.func73, Tryd.ntmps73
  go_wp2
  clear c0 r0
  go_loopw [3] (fun p wr => ∃ k : Nat, k ≤ m ∧ p = .int .i64 ((k : Int) - 1) ∧ J (backN m k) wr ∧ Below n₀ v0 wr ∧ Blk wr gs [.slice ads m cps] 34) (fun p _ => (intOf p + 1).toNat)
  case atStart => exact ⟨m, Nat.le_refl _, rfl, by rw [backN_all]; exact HJ0.out, HW0.out.1, HW0.out.2⟩
  case round =>
    obtain ⟨k, hk, rfl, hJk, hbk, hBk⟩ := hrel
    clear HJ0 HW0
    have HJK : Hid (J (backN m k) wr) := hJk
    have HBK : Hid (Below n₀ v0 wr) := hbk
    have HGK : Hid (Blk wr gs [.slice ads m cps] 34) := hBk
    clear hJk hbk hBk
    cases k with
    | zero =>
      have HDN : Hid (J (backN sd.length 0) wr) := by rw [← HM.out]; exact HJK.out
      clear HJK
      have e0 : ((0 : Nat) : Int) - 1 = -1 := rfl
      simp only [e0]
      go_wp2
      go_end0
      exact ⟨⟨_, rfl⟩, .inl ⟨_, rfl, HDN.out⟩⟩
    | succ j =>
      have e1 : ((j + 1 : Nat) : Int) - 1 = (j : Int) := by omega
      simp only [e1]
      have j0 : (0 : Int) ≤ (j : Int) := by omega
      have jm : (j : Int) < (m : Int) := by omega
      have f1 : IntKind.i64.wrap ((j : Int) - 1) = (j : Int) - 1 := by rw [IntKind.wrap_i64]; have := HML.out; omega
      have hjl : j < sd.length := by rw [← HM.out]; omega
      obtain ⟨ba, off, cp2, hv2, hy2⟩ := (HRD.out wr HBK.out).at (by omega)
      simp only [Value.slice.injEq] at hv2
      obtain ⟨ea, -, -⟩ := hv2
      subst ea
      obtain ⟨s, HS⟩ : ∃ s, Hid (s = sd.getD j zb32) := ⟨_, rfl⟩
      have HSR : Hid (wr.rangeAt ba (off + j * 32) (cb s)) := by
        have := hy2 j hjl
        rw [HS.out, List.getD_eq_getElem?_getD, List.getElem?_eq_getElem hjl]
        rw [List.getD_eq_getElem?_getD, List.getElem?_eq_getElem hjl] at this
        exact this
      have HSL : Hid (s.length = 32) := by show _ = _; rw [HS.out]; exact getD_zb (HRD.out wr HBK.out).2 j
      have c0 : wr.cell? ⟨gs, 0, none⟩ = some (.slice (some ⟨ba, off, none⟩) m cps) := HGK.out.cell 0
      obtain ⟨fn, tmps, assign, body, hy, hR⟩ := HY.out (backN m (j + 1)) j wr HJK.out (by rw [backN_len]; omega)
      rw [← backN_step m j (by omega)] at hR
      dsimp only [encsS] at hy
      rw [← HS.out] at hy
      clear HJK hy2 hjl
      go_upto_region 3 with fail
      refine (wpIn_wide (n := n)).1 ?_
      gi_wp2_with (first
        | (with_reducible refine wpSeqIn_loadAt (.tmp 15) ba (off + j * 32) s ?_ ?_ ?_ ?_ ?_ ?_
           · exact HSL.out
           · exact HSR.out
           · with_reducible rfl
           · rfl
           · rfl))
      refine ⟨fun h => (nomatch h), ?_⟩
      refine hR.mono ?_
      clear hR hy c0 HSR
      rintro e W3 (⟨rfl, hJ3, hk3⟩ | ⟨rfl, hJx3⟩)
      · have HJ3 : Hid (J (backN m j) W3) := hJ3
        have HB3 : Hid (Below n₀ v0 W3 ∧ Blk W3 gs [.slice (some ⟨ba, off, none⟩) m cps] 34) := ⟨HBK.out.trans hk3.below, by unfold Blk; rw [hk3.same]; exact HGK.out⟩
        clear hJ3 hk3 HBK HGK
        gi_wp2
        go_wp2
        go_roundw
        case rel => exact ⟨j, by omega, by simp, HJ3.out, HB3.out.1, HB3.out.2⟩
        case measure => simp [intOf]
      · gi_wp2
        go_wp2
        refine bodyPost_ret (results_none rfl _ _ _) rfl ?_
        exact ⟨⟨_, rfl⟩, .inr ⟨_, trivial, hJx3⟩⟩
end Go.Proofs.YtpeifpoeeopecaaDoor
/- A region that draws its order, in a round of a loop over a function: no other than anywhere. -/
namespace Go.Proofs.YtpeifpoeeopecaaDoor
open Go.RowKit
set_option maxRecDepth 100000
theorem upon_round {P : Program} {o : Oper} {a : Act} {K : Act → World → Prop} {Q : Exit → Act → World → Prop} {l n : Nat} : ∀ {r : Result Next}, o.upon P a K Q r → o.uponIn (Fence.wide.inRound l) n P a K Q r
  | .ok (.value _) _, h => h
  | .ok .skip _, h => h
  | .ok (.defer _) _, h => h
  | .ok (.enter _ _) _, h => ⟨fun hx => (nomatch hx), CallsIn.inRound l (callsIn_wide.2 h)⟩
  | .ok (.row _ _) _, h => ⟨fun hx => (nomatch hx), fun c cs _ => by
      obtain ⟨v, wq, r, s⟩ := h c cs
      exact ⟨v, wq, r, stepsIn_wide.2 s⟩⟩
  | .halt (.panic _) _, h => h
/-- no operation is put off -/
def noDefer (ops : Array Oper) : Bool := ops.toList.all fun o => match o.op with | .defer _ => false | _ => true
theorem noDefer_at {ops : Array Oper} (h : noDefer ops = true) {i : Nat} {o : Oper} (hi : ops[i]? = some o) (c : _) : o.op ≠ .defer c := by
  intro he
  have h1 := List.all_eq_true.1 h o (by rw [Array.mem_toList_iff]; exact Array.mem_of_getElem? hi)
  rw [he] at h1
  cases h1
theorem wpOp_round {P : Program} {ops : Array Oper} {Q : Exit → Act → World → Prop} {l n : Nat} (hnd : noDefer ops = true) (hQ : ¬ LetsOut Q) {i : Nat} {K K' : Act → World → Prop} (hK : ∀ a w, K a w → K' a w) {a : Act} {w : World} (h : wpOp P ops Q i K a w) : wpOpIn (Fence.wide.inRound l) n P ops Q i K' a w := by
  refine wpOpIn_mono hK ?_
  unfold wpOp at h
  unfold wpOpIn
  cases ho : ops[i]? with
  | none => rw [ho] at h; exact h
  | some o =>
    rw [ho] at h
    simp only at h ⊢
    by_cases hw : Region.wanted o (yielded ops a.tmps) = true
    · rw [if_pos hw] at h ⊢
      rcases h with h | h
      · refine ⟨fun _ _ => trivial, ?_⟩
        rw [Oper.semAt_eq _ _ _ (noDefer_at hnd ho)]
        exact upon_round h
      · exact absurd h.2 hQ
    · rw [if_neg hw] at h ⊢
      exact ⟨fun _ _ => trivial, h⟩
theorem wpAny_round {P : Program} {md : Region.Mode} {ops : Array Oper} {Q : Exit → Act → World → Prop} {l n : Nat} (hnd : noDefer ops = true) (hQ : ¬ LetsOut Q) : ∀ (fuel : Nat) (listed : Array Bool) (a : Act) (w : World), wpAny P md ops Q fuel listed a w → wpAnyIn (Fence.wide.inRound l) n P md ops Q fuel listed a w
  | 0, _, _, _, h => h
  | fuel + 1, _, _, _, h => ⟨h.1, fun i hi => wpOp_round hnd hQ (fun a w h => wpAny_round hnd hQ fuel _ a w h) (h.2 i hi)⟩
/-- a region that draws, in a round -/
theorem wpIn_round_held {P : Program} {ops : Array Oper} {Q : Exit → Act → World → Prop} {S : World → Prop} {l n id : Nat} {a : Act} {w : World} (hm : P.follows .mixedOrders = true) (hnd : noDefer ops = true) (hQ : ¬ LetsOut Q) (hS : S w.drew)
    (h : S w.drew → wpAnyH P .any ops Q S ops.size (Array.replicate ops.size false) a w.drew) : (Code.region id ops true).wpIn (Fence.wide.inRound l) n P Q a w :=
  wpIn_region_any hm (wpAny_round hnd hQ _ _ _ _ (wpAny_of_held _ _ _ _ (h hS)))
theorem wpList_round {P : Program} {ops : Array Oper} {Q : Exit → Act → World → Prop} {m n : Nat} (hQ : ¬ LetsOut Q) : ∀ (l : List Oper) (_ : noDefer l.toArray = true) (a : Act) (w : World), wpList P ops Q l a w → wpListIn (Fence.wide.inRound m) n P ops Q l a w
  | [], _, _, _, h => h
  | o :: rest, hnd, a, w, h => by
    have ho : ∀ c, o.op ≠ .defer c := fun c => noDefer_at hnd (i := 0) rfl c
    have hr : noDefer rest.toArray = true := by
      unfold noDefer at hnd ⊢
      simp only [List.all_cons, Bool.and_eq_true] at hnd
      exact hnd.2
    unfold wpList at h
    unfold wpListIn
    by_cases hw : Region.wanted o (yielded ops a.tmps) = true
    · rw [if_pos hw] at h ⊢
      rcases h with h | h
      · refine Oper.wpIn_mono (fun a w h => wpList_round hQ rest hr a w h) ⟨fun _ _ => trivial, ?_⟩
        rw [Oper.semAt_eq _ _ _ ho]
        exact upon_round h
      · exact absurd h.2 hQ
    · rw [if_neg hw] at h ⊢
      exact ⟨fun _ _ => trivial, wpList_round hQ rest hr _ w h⟩
/-- a region that does not draw, in a round -/
theorem wpIn_round_list {P : Program} {l : List Oper} {Q : Exit → Act → World → Prop} {m n id : Nat} {a : Act} {w : World} (hnd : noDefer l.toArray = true) (hQ : ¬ LetsOut Q) (h : wpList P l.toArray Q l a w) : (Code.region id l.toArray false).wpIn (Fence.wide.inRound m) n P Q a w :=
  wpIn_region_lit (wpList_round hQ l hnd a w h)
end Go.Proofs.YtpeifpoeeopecaaDoor

/- Slices of digests in memory: what they read as, those that are the call's own, one more behind them. -/
import Derived.Test.YthjkihbobdollaaPathWk
import Derived.Great.BuildSlice
import Derived.Maps.AppendAt
namespace Go.Proofs.Ythjkihbobdollaa
open Go.RowKit
theorem wrap_small2 (k : Int) (h0 : 0 ≤ k) (h1 : k < 1000000000) : IntKind.i64.wrap k = k := by simp [IntKind.wrap, IntKind.bits, IntKind.signed]; omega
def flatD (ds : List (List (BitVec 8))) : List Value := (ds.map cb).flatten
/-- the slice v of digests, the call's own from block base on, holds ds -/
def OwnD (w : World) (base : Nat) (v : Value) (ds : List (List (BitVec 8))) : Prop := w.ownsRow base 23 32 v ds.length (flatD ds) ∧ ∀ d ∈ ds, d.length = 32
theorem OwnD.one {w : World} {base : Nat} {v : Value} {ds : List (List (BitVec 8))} (h : OwnD w base v ds) : v.oneCell' = true := by
  rcases h.1 with ⟨_, ⟨rfl, _⟩ | ⟨g, cap, cur, rfl, _⟩⟩
  · rfl
  · rfl
theorem OwnD.keep {w w' : World} {base : Nat} {v : Value} {ds : List (List (BitVec 8))} (h : OwnD w base v ds) (hs : ∀ k, base ≤ k → k < w.heap.size → w'.heap[k]? = w.heap[k]?) : OwnD w' base v ds := by
  refine ⟨?_, h.2⟩
  have hlt := World.ownsRow.lt h.1
  rcases h.1 with ⟨h1, ⟨rfl, h2⟩ | ⟨g, cap, cur, rfl, hg, hh, h3⟩⟩
  · exact ⟨h1, Or.inl ⟨rfl, h2⟩⟩
  · exact ⟨h1, Or.inr ⟨g, cap, cur, rfl, hg, by rw [hs g hg (hlt g rfl).2]; exact hh, h3⟩⟩
theorem OwnD.mono {w : World} {base B : Nat} {v : Value} {ds : List (List (BitVec 8))} (h : OwnD w base v ds) (hB : B ≤ base) : OwnD w B v ds := by
  refine ⟨?_, h.2⟩
  rcases h.1 with ⟨h1, ⟨rfl, h2⟩ | ⟨g, cap, cur, rfl, hg, hh⟩⟩
  · exact ⟨h1, Or.inl ⟨rfl, h2⟩⟩
  · exact ⟨h1, Or.inr ⟨g, cap, cur, rfl, Nat.le_trans hB hg, hh⟩⟩
def nilV : Value := .slice none 0 0
theorem fill_one (cs : List Value) (h : cs.length = 32) (a0 : Array Value) (ha : a0.size = 32) : Instr.fill (fun i => some (i * 32, 32)) a0 [(0, .agg cs.toArray)] = some cs.toArray := by
  have hc : (Value.agg cs.toArray).cells = cs.toArray := rfl
  simp only [Instr.fill, hc, List.size_toArray, h, ha]
  rw [if_neg (by decide)]
  congr 1
  match cs, h with
  | [x0, x1, x2, x3, x4, x5, x6, x7, x8, x9, x10, x11, x12, x13, x14, x15, x16, x17, x18, x19, x20, x21, x22, x23, x24, x25, x26, x27, x28, x29, x30, x31], _ =>
    obtain ⟨l⟩ := a0
    match l, ha with
    | [y0, y1, y2, y3, y4, y5, y6, y7, y8, y9, y10, y11, y12, y13, y14, y15, y16, y17, y18, y19, y20, y21, y22, y23, y24, y25, y26, y27, y28, y29, y30, y31], _ =>
      refine id ?_
      show _ = _
      kernel_rfl
theorem Try.infod3 : (Try.prog.info? 23).map (fun i => (i.zero, i.size, i.bytes)) = some (some (.agg (cb zb32).toArray), 32, 32) := by kernel_rfl
theorem buildD (f : Operand → Value) (o : Oper) (x : Operand) (ho : o.op = .buildSlice 35 1 #[(0, x)]) (d : List (BitVec 8)) (hd : d.length = 32) (hx : f x = .agg (cb d).toArray) (w : World) :
    (execOp f o).run Try.prog w = .ok (.value (.slice (some ⟨w.heap.size, 0, none⟩) 1 1)) (w.alloc (.cells (cb d).toArray 23)) := by
  obtain ⟨i0, hi, hz, hs, _⟩ := info_parts Try.infod3
  have hr := run_buildSlice (P := Try.prog) w 35 23 1 #[(0, .agg (cb d).toArray)] (cb d).toArray i0 _ Try.underlying35 hi hz (by rw [hs]; decide) (by rw [hs]; decide) (by rw [hs]; exact fill_one (cb d) (by rw [cb_len, hd]) _ (by simp))
  unfold execOp
  rw [ho]
  simp only [List.map_toArray, List.map_cons, List.map_nil, hx, Sem.run_bind, hr, Result.andThen_ok, Sem.run_pure]
theorem flatD_len (ds : List (List (BitVec 8))) (h : ∀ d ∈ ds, d.length = 32) : (flatD ds).length = ds.length * 32 := by
  unfold flatD
  induction ds with
  | nil => rfl
  | cons d r ih =>
    rw [List.map_cons, List.flatten_cons, List.length_append, cb_len, h d (by simp), ih (fun x hx => h x (by simp [hx])), List.length_cons]
    omega
theorem flatD_snoc (ds : List (List (BitVec 8))) (d : List (BitVec 8)) : flatD (ds ++ [d]) = flatD ds ++ cb d := by
  unfold flatD
  simp
theorem OwnD.lt {w : World} {base : Nat} {v : Value} {ds : List (List (BitVec 8))} (h : OwnD w base v ds) : ∀ k, v.ownBlock = some k → base ≤ k ∧ k < w.heap.size := World.ownsRow.lt h.1
theorem OwnD.nil (w : World) (base : Nat) : OwnD w base nilV [] := ⟨World.ownsRow_nil _ _ _ _, by simp⟩
theorem OwnD.slice {w : World} {base : Nat} {v : Value} {ds : List (List (BitVec 8))} (h : OwnD w base v ds) : ∃ ad c, v = .slice ad ds.length c := by
  rcases h.1 with ⟨_, ⟨rfl, h2⟩ | ⟨g, cap, cur, rfl, _⟩⟩
  · exact ⟨none, 0, by rw [h2]⟩
  · exact ⟨_, _, rfl⟩
/-- the slice v reads as the digests ds -/
def ReadsD (w : World) (v : Value) (ds : List (List (BitVec 8))) : Prop :=
  (∃ ad cap, v = .slice ad ds.length cap ∧ ds.length ≤ cap ∧ (ad = none → cap = 0) ∧ (0 < ds.length → ∃ b off, ad = some ⟨b, off, none⟩ ∧ ∀ j, j < ds.length → w.rangeAt b (off + j * 32) (cb (ds.getD j [])))) ∧ ∀ d ∈ ds, d.length = 32
theorem rangeAt_lt {w : World} {b off : Nat} {d : List (BitVec 8)} (h : w.rangeAt b off (cb d)) (hd : d.length = 32) : b < w.heap.size := by
  have := h 0 _ (cb_get d 0 (by omega))
  exact block_lt_of_cell this
theorem rangeAt_below {w w' : World} {b off B : Nat} {cs : List Value} (h : w.rangeAt b off cs) (hb : Below B w w') (hB : b < B) : w'.rangeAt b off cs := fun j v hj => by
  rw [hb.cell (p := ⟨b, off + j, none⟩) hB]
  exact h j v hj
theorem getD_mem32 {ds : List (List (BitVec 8))} (h : ∀ d ∈ ds, d.length = 32) {j : Nat} (hj : j < ds.length) : (ds.getD j []).length = 32 := by
  rw [List.getD_eq_getElem?_getD, List.getElem?_eq_getElem hj]
  exact h _ (List.getElem_mem hj)
theorem ReadsD.below {w w' : World} {v : Value} {ds : List (List (BitVec 8))} (h : ReadsD w v ds) (hb : Below w.heap.size w w') : ReadsD w' v ds := by
  obtain ⟨⟨ad, cap, hv, hc, hn, hx⟩, h32⟩ := h
  refine ⟨⟨ad, cap, hv, hc, hn, fun hp => ?_⟩, h32⟩
  obtain ⟨b, off, rfl, hy⟩ := hx hp
  exact ⟨b, off, rfl, fun j hj => rangeAt_below (hy j hj) hb (rangeAt_lt (hy j hj) (getD_mem32 h32 hj))⟩
theorem flatD_at {ds : List (List (BitVec 8))} (h : ∀ d ∈ ds, d.length = 32) : ∀ (j i : Nat) (v : Value), j < ds.length → (cb (ds.getD j []))[i]? = some v → (flatD ds)[j * 32 + i]? = some v := by
  unfold flatD
  induction ds with
  | nil => intro j i v hj; simp at hj
  | cons d r ih =>
    intro j i v hj hv
    rw [List.map_cons, List.flatten_cons]
    cases j with
    | zero =>
      rw [List.getD_cons_zero] at hv
      have hi : i < (cb d).length := (List.getElem?_eq_some_iff.1 hv).1
      rw [Nat.zero_mul, Nat.zero_add, List.getElem?_append_left hi, hv]
    | succ j =>
      rw [List.getD_cons_succ] at hv
      have hl : (cb d).length = 32 := by rw [cb_len, h d (by simp)]
      rw [List.getElem?_append_right (by rw [hl]; omega), hl, show (j + 1) * 32 + i - 32 = j * 32 + i by omega]
      exact ih (fun x hx => h x (by simp [hx])) j i v (by simpa using hj) hv
theorem OwnD.readsD {w : World} {base : Nat} {v : Value} {ds : List (List (BitVec 8))} (h : OwnD w base v ds) : ReadsD w v ds := by
  refine ⟨?_, h.2⟩
  rcases h.1 with ⟨h1, ⟨rfl, h2⟩ | ⟨g, cap, cur, rfl, hg, hh, hc, hm, hs, ht⟩⟩
  · exact ⟨none, 0, by rw [h2], by omega, fun _ => rfl, fun hp => by omega⟩
  · refine ⟨_, cap, rfl, hc, fun h => (by cases h), fun hp => ⟨g, 0, rfl, fun j hj i v hv => ?_⟩⟩
    have hi : i < 32 := by have := (List.getElem?_eq_some_iff.1 hv).1; rwa [cb_len, getD_mem32 h.2 hj] at this
    have hf := flatD_at h.2 j i v hj hv
    rw [← ht, List.getElem?_take] at hf
    rw [cell_of_row w g _ cur 23 (0, 0) hh, Nat.zero_add]
    rw [if_pos (by
      have : (j + 1) * 32 ≤ ds.length * 32 := Nat.mul_le_mul_right 32 hj
      omega)] at hf
    simpa using hf
theorem allT_take (ds : List (List (BitVec 8))) (k : Nat) (h : k < ds.length) : encAll (fun a => a) (ds.take (k + 1)) = encAll (fun a => a) (ds.take k) ++ ds.getD k [] := by
  unfold encAll
  rw [List.take_add_one, List.getElem?_eq_getElem h, List.getD_eq_getElem?_getD, List.getElem?_eq_getElem h]
  simp only [Option.toList_some, List.map_append, List.map_cons, List.map_nil, List.flatten_append, List.flatten_cons, List.flatten_nil, List.append_nil, Option.getD_some]
/-- one more behind the own slice v: all other blocks stay -/
structure Grow (base : Nat) (w : World) (v : Value) (w' : World) (v' : Value) : Prop where
  below : Below base w w'
  other : ∀ k, some k ≠ v.ownBlock → k < w.heap.size → w'.heap[k]? = w.heap[k]?
  lies : v'.ownBlock = v.ownBlock ∨ v'.ownBlock = some w.heap.size
theorem wpSeq_appendD {ops : Array Oper} {Q : Exit → Act → World → Prop} {rest : List Oper} {o : Oper} {a : Act} {w : World} (s x : Operand) (base : Nat) (v : Value) (ds : List (List (BitVec 8))) (d : List (BitVec 8)) (g : Nat)
    (hown : OwnD w base v ds) (hu : Blk w g (cb d) 23) (hd : d.length = 32) (hl : ds.length < 2000000) (hbase : base ≤ w.heap.size)
    (ho : o.op = .call { callee := .builtin .append, args := #[s, x], argTypes := #[35, 35] }) (hs : a.eval s = v) (hx : a.eval x = .slice (some ⟨g, 0, none⟩) 1 1) (hgd : o.guard = none)
    (h : ∀ v' w', OwnD w' base v' (ds ++ [d]) → Grow base w v w' v' → wpList Try.prog ops Q rest (a.put o.dst v') w') : wpList Try.prog ops Q (o :: rest) a w := by
  obtain ⟨i0, hi, hz0, hz1, hz2⟩ := info_parts Try.infod3
  refine wpList_append_own_at w hgd s x 35 ho base 23 i0 (.agg (cb zb32).toArray) 32 32 Try.underlying35 hi hz0 hz1 hz2 (by show (cb zb32).toArray.size = 32; rw [List.size_toArray, cb_len]; rfl) (by decide) v ds.length (flatD ds) hs hown.1 ⟨g, 0, none⟩ 1 1 (cb d) hx (by rw [cb_len, hd]) ?_ (cb_one d) (by unfold maxLen; omega) (by omega) hbase ?_
  · intro j u hj
    rw [Addr.add_mid, Nat.zero_add, hu.cell, hj]
  · intro v' w' h2 h3 _ h5
    refine h v' w' ⟨?_, ?_⟩ ⟨(Below.refl _ _).grown h3 hbase (fun k hk => (hown.lt k hk).1), fun k hk hlt => h3.block k hlt hk, h5⟩
    · rw [flatD_snoc, List.length_append]; exact h2
    · intro e he
      rcases List.mem_append.1 he with he | he
      · exact hown.2 e he
      · rw [List.mem_singleton] at he; subst he; exact hd
theorem wpSeq_buildD {ops : Array Oper} {Q : Exit → Act → World → Prop} {rest : List Oper} {o : Oper} {a : Act} {w : World} (x : Operand) (d : List (BitVec 8)) (hd : d.length = 32) (ho : o.op = .buildSlice 35 1 #[(0, x)]) (hx : a.eval x = .agg (cb d).toArray) (hw : Region.wanted o (yielded ops a.tmps) = true)
    (h : ∀ g w', NewB d w g w' → wpList Try.prog ops Q rest (a.put o.dst (.slice (some ⟨g, 0, none⟩) 1 1)) w') : wpList Try.prog ops Q (o :: rest) a w :=
  wpSeq_val _ _ hw (buildD _ o x ho d hd hx w) (h _ _ (NewB.of d w))
theorem wpSeq_loadAt {ops : Array Oper} {Q : Exit → Act → World → Prop} {rest : List Oper} {o : Oper} {a : Act} {w : World} (x : Operand) (b of : Nat) (l : List (BitVec 8)) (hl : l.length = 32) (hb : w.rangeAt b of (cb l)) (ho : o.op = .load 23 x) (hx : a.eval x = .pointer (some ⟨b, of, none⟩)) (hw : Region.wanted o (yielded ops a.tmps) = true)
    (h : wpList Try.prog ops Q rest (a.put o.dst (.agg (cb l).toArray)) w) : wpList Try.prog ops Q (o :: rest) a w :=
  wpSeq_val _ _ hw (load_run 23 x ho b of hx (cb l) _ hb Try.underlying23 rfl (by rw [cb_len, hl]; exact info_digest)) h
/-- the two lists that Part has made of the first k -/
structure PpI (ds : List (List (BitVec 8))) (i : Int) (w : World) (k : Nat) (v1 v2 : Value) (W : World) : Prop where
  o1 : OwnD W w.heap.size v1 ((ds.take k).filter fun d => !bitI d i)
  o2 : OwnD W w.heap.size v2 ((ds.take k).filter fun d => bitI d i)
  ne : ∀ j, v1.ownBlock = some j → v2.ownBlock ≠ some j
  bel : Below w.heap.size w W
theorem PpI.next {ds : List (List (BitVec 8))} {i : Int} {w : World} {k : Nat} {v1 v2 : Value} {W W' : World} (h : PpI ds i w k v1 v2 W) (hb : Below W.heap.size W W') : PpI ds i w k v1 v2 W' :=
  ⟨h.o1.keep fun j _ hj => hb.block j hj, h.o2.keep fun j _ hj => hb.block j hj, h.ne, h.bel.trans (hb.mono h.bel.size)⟩
theorem filter_le (ds : List (List (BitVec 8))) (k : Nat) (p : List (BitVec 8) → Bool) : ((ds.take k).filter p).length ≤ ds.length :=
  Nat.le_trans (List.length_filter_le _ _) (by rw [List.length_take]; omega)
theorem take_next {ds : List (List (BitVec 8))} {k : Nat} (hk : k < ds.length) (p : List (BitVec 8) → Bool) : (ds.take (k + 1)).filter p = (ds.take k).filter p ++ (if p (ds.getD k []) then [ds.getD k []] else []) := by
  rw [List.take_add_one, List.getElem?_eq_getElem hk, List.filter_append, List.getD_eq_getElem?_getD, List.getElem?_eq_getElem hk]
  simp only [Option.toList_some, Option.getD_some, List.filter_cons, List.filter_nil]
theorem PpI.on {ds : List (List (BitVec 8))} {i : Int} {w : World} {k : Nat} {v1 v2 v' : Value} {W W' : World} (h : PpI ds i w k v1 v2 W) (hk : k < ds.length) (hb : bitI (ds.getD k []) i = true) (ho : OwnD W' w.heap.size v' (((ds.take k).filter fun d => bitI d i) ++ [ds.getD k []])) (hg : Grow w.heap.size W v2 W' v') : PpI ds i w (k + 1) v1 v' W' := by
  refine ⟨?_, ?_, ?_, h.bel.trans hg.below⟩
  · rw [take_next hk, hb]
    simp only [Bool.not_true, Bool.false_eq_true, if_false, List.append_nil]
    have h1 := h.o1
    refine ⟨?_, h1.2⟩
    have hlt := World.ownsRow.lt h1.1
    rcases h1.1 with ⟨e1, ⟨e2, e3⟩ | ⟨g, cap, cur, e2, hgg, hh, h3⟩⟩
    · exact ⟨e1, Or.inl ⟨e2, e3⟩⟩
    · subst e2
      exact ⟨e1, Or.inr ⟨g, cap, cur, rfl, hgg, by rw [hg.other g (fun e => h.ne g rfl e.symm) (hlt g rfl).2]; exact hh, h3⟩⟩
  · rw [take_next hk, hb]; exact ho
  · intro j hj
    rcases hg.lies with e | e
    · rw [e]; exact h.ne j hj
    · rw [e]; intro e2; cases e2
      exact absurd (h.o1.lt _ hj).2 (Nat.lt_irrefl _)
theorem PpI.off {ds : List (List (BitVec 8))} {i : Int} {w : World} {k : Nat} {v1 v2 v' : Value} {W W' : World} (h : PpI ds i w k v1 v2 W) (hk : k < ds.length) (hb : bitI (ds.getD k []) i = false) (ho : OwnD W' w.heap.size v' (((ds.take k).filter fun d => !bitI d i) ++ [ds.getD k []])) (hg : Grow w.heap.size W v1 W' v') : PpI ds i w (k + 1) v' v2 W' := by
  refine ⟨?_, ?_, ?_, h.bel.trans hg.below⟩
  · rw [take_next hk, hb]; exact ho
  · rw [take_next hk, hb]
    simp only [Bool.false_eq_true, if_false, List.append_nil]
    have h1 := h.o2
    refine ⟨?_, h1.2⟩
    have hlt := World.ownsRow.lt h1.1
    rcases h1.1 with ⟨e1, ⟨e2, e3⟩ | ⟨g, cap, cur, e2, hgg, hh, h3⟩⟩
    · exact ⟨e1, Or.inl ⟨e2, e3⟩⟩
    · subst e2
      exact ⟨e1, Or.inr ⟨g, cap, cur, rfl, hgg, by rw [hg.other g (fun e => h.ne g e.symm rfl) (hlt g rfl).2]; exact hh, h3⟩⟩
  · intro j hj
    rcases hg.lies with e | e
    · rw [e] at hj; exact h.ne j hj
    · rw [e] at hj; cases hj
      intro e2
      exact absurd (h.o2.lt _ e2).2 (Nat.lt_irrefl _)
set_option maxRecDepth 100000 in
set_option maxHeartbeats 2000000 in
theorem pPart_any (v : Value) (ds : List (List (BitVec 8))) (i : Int) (w : World) (hR : ReadsD w v ds) (hl : ds.length < 2000000) :
    Calls Try.prog 22 #[v, .int .i64 i] w fun e w' => ∃ v1 v2, e = .returned (.tuple #[v1, v2]) ∧ ReadsD w' v1 (ds.filter fun d => !bitI d i) ∧ ReadsD w' v2 (ds.filter fun d => bitI d i) ∧ Below w.heap.size w w' := by
  have HR : Hid (ReadsD w v ds) := hR
  have HL : Hid (ds.length < 2000000) := hl
  obtain ⟨⟨ad, cp, hv, q1, q2, q3⟩, q4⟩ := hR
  clear q1 q2 q3 q4
  obtain ⟨n, HN⟩ : ∃ n, Hid (n = ds.length) := ⟨_, rfl⟩
  rw [← HN.out] at hv
  subst hv
  clear hl
  go_enter Try.func22, Try.ntmps22
  go_wp2
  go_loopw [4, 5, 10] (fun a b j wr => ∃ k : Nat, k ≤ n ∧ j = .int .i64 (k : Int) ∧ PpI ds i w k a b wr) (fun _ _ j _ => n - (intOf j).toNat)
  case atStart => exact ⟨0, by omega, rfl, OwnD.nil _ _, OwnD.nil _ _, (fun j h => by cases h), Below.refl _ _⟩
  case round =>
    obtain ⟨k, hk, rfl, hI⟩ := hrel
    have HI : Hid (PpI ds i w k u4 u5 wr) := hI
    have HI0 : Hid (PpI ds i w k u4 u5 wr) := hI
    clear hI
    by_cases hlt : k < n
    · have hlti : (k : Int) < (n : Int) := by omega
      have k0 : (0 : Int) ≤ (k : Int) := by omega
      have hn6 : n < 2000000 := by rw [HN.out]; exact HL.out
      have f5 : IntKind.i64.wrap ((k : Int) + 1) = (k : Int) + 1 := wrap_small2 _ (by omega) (by omega)
      have HKL : Hid (k < ds.length) := by show _ < _; rw [← HN.out]; exact hlt
      obtain ⟨⟨ad1, cap1, hv1, _, _, hx1⟩, h32⟩ := HR.out
      rw [← HN.out] at hv1 hx1
      simp only [Value.slice.injEq, true_and] at hv1
      obtain ⟨rfl, rfl⟩ := hv1
      obtain ⟨b, off, rfl, hy1⟩ := hx1 (by omega)
      obtain ⟨d, HD⟩ : ∃ d, Hid (d = ds.getD k []) := ⟨_, rfl⟩
      have HD32 : Hid (d.length = 32) := by show _ = _; rw [HD.out]; exact getD_mem32 h32 HKL.out
      have HRA : Hid (wr.rangeAt b (off + k * 32) (cb d)) := by
        have h := hy1 k hlt
        rw [← HD.out] at h
        exact rangeAt_below h HI.out.bel (rangeAt_lt h HD32.out)
      clear hx1 hy1 h32
      cases hbit : bitI d i
      · have HB : Hid (bitI d i = false) := hbit
        clear hbit
        go_wp2_with (first
          | (with_reducible refine wpSeq_loadAt (.tmp 12) b (off + k * 32) d ?_ ?_ ?_ ?_ ?_ ?_
             · exact HD32.out
             · exact HRA.out
             · with_reducible rfl
             · rfl
             · rfl)
          | (with_reducible refine wpSeq_allocD ?_ ?_ ?_
             · with_reducible rfl
             · rfl
             intro g7 w5 n5
             replace HI : Hid (PpI ds i w k u4 u5 w5) := HI.out.next n5.below
             have H7 : Hid (Blk w5 g7 (cb zb32) 23) := n5.blk
             have HG7 : Hid (wr.heap.size ≤ g7) := n5.ge
             have HB5 : Hid (Below wr.heap.size wr w5) := n5.below
             clear n5)
          | (with_reducible refine wpSeq_storeD (.tmp 7) (.tmp 13) g7 zb32 d ?_ ?_ ?_ ?_ ?_ ?_ ?_ ?_
             · rfl
             · exact HD32.out
             · exact H7.out
             · with_reducible rfl
             · rfl
             · rfl
             · rfl
             intro w6 h6
             replace HI : Hid (PpI ds i w k u4 u5 w6) := HI0.out.next (HB5.out.trans (h6.only.below HG7.out HB5.out.size))
             replace H7 : Hid (Blk w6 g7 (cb d) 23) := h6.blk
             clear h6 HB5)
          | (with_reducible refine wpSeq_loadD (.tmp 7) g7 d ?_ ?_ ?_ ?_ ?_ ?_
             · exact HD32.out
             · exact H7.out
             · with_reducible rfl
             · rfl
             · rfl)
          | (go_at_call 9; refine (pBit_any d HD32.out _ _).mono ?_; rintro e w7 ⟨rfl, hb7⟩; rw [HB.out]
             replace HI : Hid (PpI ds i w k u4 u5 w7) := HI.out.next hb7
             replace H7 : Hid (Blk w7 g7 (cb d) 23) := H7.out.below hb7 H7.out.lt
             clear hb7)
          | (with_reducible refine wpSeq_buildD (.tmp 22) d ?_ ?_ ?_ ?_ ?_
             · exact HD32.out
             · with_reducible rfl
             · rfl
             · rfl
             intro g8 w8 n8
             replace HI : Hid (PpI ds i w k u4 u5 w8) := HI.out.next n8.below
             have H8 : Hid (Blk w8 g8 (cb d) 23) := n8.blk
             clear n8)
          | (with_reducible refine wpSeq_appendD (.tmp 21) (.tmp 23) w.heap.size u4 _ d g8 HI.out.o1 H8.out HD32.out ?_ HI.out.bel.size ?_ ?_ ?_ ?_ ?_
             · exact Nat.lt_of_le_of_lt (filter_le ds k _) HL.out
             · with_reducible rfl
             · rfl
             · rfl
             · rfl
             intro v9 w9 o9 g9
             rw [HD.out] at o9
             have HJ : Hid (PpI ds i w (k + 1) v9 u5 w9) := HI.out.off HKL.out (by rw [← HD.out]; exact HB.out) o9 g9
             clear o9 g9))
        go_roundw
        case rel => exact ⟨k + 1, by omega, by simp, HJ.out⟩
        case measure => simp [intOf]; omega
      · have HB : Hid (bitI d i = true) := hbit
        clear hbit
        go_wp2_with (first
          | (with_reducible refine wpSeq_loadAt (.tmp 12) b (off + k * 32) d ?_ ?_ ?_ ?_ ?_ ?_
             · exact HD32.out
             · exact HRA.out
             · with_reducible rfl
             · rfl
             · rfl)
          | (with_reducible refine wpSeq_allocD ?_ ?_ ?_
             · with_reducible rfl
             · rfl
             intro g7 w5 n5
             replace HI : Hid (PpI ds i w k u4 u5 w5) := HI.out.next n5.below
             have H7 : Hid (Blk w5 g7 (cb zb32) 23) := n5.blk
             have HG7 : Hid (wr.heap.size ≤ g7) := n5.ge
             have HB5 : Hid (Below wr.heap.size wr w5) := n5.below
             clear n5)
          | (with_reducible refine wpSeq_storeD (.tmp 7) (.tmp 13) g7 zb32 d ?_ ?_ ?_ ?_ ?_ ?_ ?_ ?_
             · rfl
             · exact HD32.out
             · exact H7.out
             · with_reducible rfl
             · rfl
             · rfl
             · rfl
             intro w6 h6
             replace HI : Hid (PpI ds i w k u4 u5 w6) := HI0.out.next (HB5.out.trans (h6.only.below HG7.out HB5.out.size))
             replace H7 : Hid (Blk w6 g7 (cb d) 23) := h6.blk
             clear h6 HB5)
          | (with_reducible refine wpSeq_loadD (.tmp 7) g7 d ?_ ?_ ?_ ?_ ?_ ?_
             · exact HD32.out
             · exact H7.out
             · with_reducible rfl
             · rfl
             · rfl)
          | (go_at_call 9; refine (pBit_any d HD32.out _ _).mono ?_; rintro e w7 ⟨rfl, hb7⟩; rw [HB.out]
             replace HI : Hid (PpI ds i w k u4 u5 w7) := HI.out.next hb7
             replace H7 : Hid (Blk w7 g7 (cb d) 23) := H7.out.below hb7 H7.out.lt
             clear hb7)
          | (with_reducible refine wpSeq_buildD (.tmp 18) d ?_ ?_ ?_ ?_ ?_
             · exact HD32.out
             · with_reducible rfl
             · rfl
             · rfl
             intro g8 w8 n8
             replace HI : Hid (PpI ds i w k u4 u5 w8) := HI.out.next n8.below
             have H8 : Hid (Blk w8 g8 (cb d) 23) := n8.blk
             clear n8)
          | (with_reducible refine wpSeq_appendD (.tmp 17) (.tmp 19) w.heap.size u5 _ d g8 HI.out.o2 H8.out HD32.out ?_ HI.out.bel.size ?_ ?_ ?_ ?_ ?_
             · exact Nat.lt_of_le_of_lt (filter_le ds k _) HL.out
             · with_reducible rfl
             · rfl
             · rfl
             · rfl
             intro v9 w9 o9 g9
             rw [HD.out] at o9
             have HJ : Hid (PpI ds i w (k + 1) u4 v9 w9) := HI.out.on HKL.out (by rw [← HD.out]; exact HB.out) o9 g9
             clear o9 g9))
        go_roundw
        case rel => exact ⟨k + 1, by omega, by simp, HJ.out⟩
        case measure => simp [intOf]; omega
    · have hkn : k = n := by omega
      subst hkn
      have ht : ds.take k = ds := by rw [HN.out]; exact List.take_length
      have HE : Hid (ReadsD wr u4 (ds.filter fun d => !bitI d i) ∧ ReadsD wr u5 (ds.filter fun d => bitI d i)) := by
        have h1 := HI.out.o1.readsD
        have h2 := HI.out.o2.readsD
        rw [ht] at h1 h2
        exact ⟨h1, h2⟩
      clear ht
      go_wp2
      exact bodyPost_ret (v := .tuple #[u4, u5]) (by simp [results, Try.f22, go_sem]) rfl ⟨u4, u5, rfl, HE.out.1, HE.out.2, HI.out.bel⟩
end Go.Proofs.Ythjkihbobdollaa

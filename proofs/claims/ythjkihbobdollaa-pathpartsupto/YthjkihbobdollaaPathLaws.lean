/- Laws for the walks of path: a digest in memory, step by step; two operations that may come up in either order. -/
import Derived.Test.YthjkihbobdollaaPathPlain
import Derived.Test.YthjkihbobdollaaAnyH
import Derived.Test.YthjkihbobdollaaEq
import Derived.Deep.RegionHeld3
import Derived.Laws.ResultCell
namespace Go.Proofs.Ythjkihbobdollaa
open Go.RowKit
theorem wpSeq_val {P : Program} {ops : Array Oper} {Q : Exit → Act → World → Prop} {rest : List Oper} {o : Oper} {a : Act} {w : World} (v : Value) (w' : World) (hw : Region.wanted o (yielded ops a.tmps) = true)
    (he : (execOp a.eval o).run P w = .ok (.value v) w') (h : wpList P ops Q rest (a.put o.dst v) w') : wpList P ops Q (o :: rest) a w := by
  unfold wpList
  simp only [hw, if_true]
  left
  unfold Oper.wp
  rw [he, Oper.upon_value]
  exact h
theorem info_digest : (Try.prog.info? 23).map (·.size) = some 32 := by kernel_rfl
theorem allocDigest (f : Operand → Value) (o : Oper) (ho : o.op = .alloc 23) (w : World) : (execOp f o).run Try.prog w = .ok (.value (.pointer (some ⟨w.heap.size, 0, none⟩))) (w.alloc (.cells (cb zb32).toArray 23)) := by
  unfold execOp
  rw [ho]
  kernel_rfl
/-- a new block with the bytes x -/
structure NewB (x : List (BitVec 8)) (w : World) (g : Nat) (w' : World) : Prop where
  ge : w.heap.size ≤ g
  blk : Blk w' g (cb x) 23
  below : Below w.heap.size w w'
theorem NewB.of (x : List (BitVec 8)) (w : World) : NewB x w w.heap.size (w.alloc (.cells (cb x).toArray 23)) := ⟨Nat.le_refl _, Blk.new w _ _, below_alloc w _⟩
theorem zb32_len : zb32.length = 32 := rfl
theorem wpSeq_allocD {ops : Array Oper} {Q : Exit → Act → World → Prop} {rest : List Oper} {o : Oper} {a : Act} {w : World} (ho : o.op = .alloc 23) (hw : Region.wanted o (yielded ops a.tmps) = true)
    (h : ∀ g w', NewB zb32 w g w' → wpList Try.prog ops Q rest (a.put o.dst (.pointer (some ⟨g, 0, none⟩))) w') : wpList Try.prog ops Q (o :: rest) a w :=
  wpSeq_val _ _ hw (allocDigest _ _ ho _) (h _ _ (NewB.of zb32 w))
theorem boxDigest (f : Operand → Value) (o : Oper) (x : Operand) (ho : o.op = .box 23 x) (l : List (BitVec 8)) (hx : f x = .agg (cb l).toArray) (w : World) : (execOp f o).run Try.prog w = .ok (.value (.pointer (some ⟨w.heap.size, 0, none⟩))) (w.alloc (.cells (cb l).toArray 23)) := by
  unfold execOp
  rw [ho]
  simp only [hx]
  rfl
theorem wpSeq_boxD {ops : Array Oper} {Q : Exit → Act → World → Prop} {rest : List Oper} {o : Oper} {a : Act} {w : World} (x : Operand) (l : List (BitVec 8)) (ho : o.op = .box 23 x) (hx : a.eval x = .agg (cb l).toArray) (hw : Region.wanted o (yielded ops a.tmps) = true)
    (h : ∀ g w', NewB l w g w' → wpList Try.prog ops Q rest (a.put o.dst (.pointer (some ⟨g, 0, none⟩))) w') : wpList Try.prog ops Q (o :: rest) a w :=
  wpSeq_val _ _ hw (boxDigest _ _ x ho l hx _) (h _ _ (NewB.of l w))
theorem loadDigest {a : Act} {o : Oper} {w : World} (x : Operand) (g : Nat) (l : List (BitVec 8)) (hl : l.length = 32) (hb : Blk w g (cb l) 23) (ho : o.op = .load 23 x) (hx : a.eval x = .pointer (some ⟨g, 0, none⟩)) : (execOp a.eval o).run Try.prog w = .ok (.value (.agg (cb l).toArray)) w :=
  load_run 23 x ho g 0 hx (cb l) _ hb.range Try.underlying23 rfl (by rw [cb_len, hl]; exact info_digest)
theorem wpSeq_loadD {ops : Array Oper} {Q : Exit → Act → World → Prop} {rest : List Oper} {o : Oper} {a : Act} {w : World} (x : Operand) (g : Nat) (l : List (BitVec 8)) (hl : l.length = 32) (hb : Blk w g (cb l) 23) (ho : o.op = .load 23 x) (hx : a.eval x = .pointer (some ⟨g, 0, none⟩)) (hw : Region.wanted o (yielded ops a.tmps) = true)
    (h : wpList Try.prog ops Q rest (a.put o.dst (.agg (cb l).toArray)) w) : wpList Try.prog ops Q (o :: rest) a w :=
  wpSeq_val _ _ hw (loadDigest x g l hl hb ho hx) h
/-- block g alone has changed: it has the bytes x now -/
structure SetB (x : List (BitVec 8)) (w : World) (g : Nat) (w' : World) : Prop where
  blk : Blk w' g (cb x) 23
  only : Only g w w'
theorem SetB.of (l x : List (BitVec 8)) (hl : l.length = 32) (hx : x.length = 32) {w : World} {g : Nat} (hb : Blk w g (cb l) 23) : SetB x w g (w.setCells g 0 (cb x)) :=
  ⟨hb.whole (cb x) (by rw [cb_len, cb_len]; omega), Only.setCells _ _ _ (Only.refl g w)⟩
theorem wpSeq_storeD {ops : Array Oper} {Q : Exit → Act → World → Prop} {rest : List Oper} {o : Oper} {a : Act} {w : World} (x y : Operand) (g : Nat) (l n : List (BitVec 8)) (hl : l.length = 32) (hn : n.length = 32) (hb : Blk w g (cb l) 23) (ho : o.op = .store 23 x y) (hx : a.eval x = .pointer (some ⟨g, 0, none⟩)) (hy : a.eval y = .agg (cb n).toArray) (hgd : o.guard = none)
    (h : ∀ w', SetB n w g w' → wpList Try.prog ops Q rest (a.put o.dst undef) w') : wpList Try.prog ops Q (o :: rest) a w :=
  wpList_store_mid hgd 23 x y ho g 0 _ hx hy (hb.there 0 _ (by rw [List.size_toArray, cb_len, cb_len]; omega)) (by rw [List.size_toArray, cb_len, hn]; exact info_digest) (all_oneCell_toArray (cb_one n))
    (by rw [List.toList_toArray]; exact h _ (SetB.of l n hl hn hb))
theorem indexDig (k g : Nat) (hk : k < 32) (f : Operand → Value) (o : Oper) (x y : Operand) (ho : o.op = .indexAddr 23 x y) (h1 : f x = .pointer (some ⟨g, 0, none⟩)) (h2 : f y = .int .i64 (k : Int)) (w : World) :
    (execOp f o).run Try.prog w = .ok (.value (.pointer (some ⟨g, k, none⟩))) w := by
  have k0 : (0 : Int) ≤ (k : Int) := by omega
  have k1 : (k : Int) < 32 := by omega
  unfold execOp
  rw [ho]
  simp [go_sem, h1, h2, k0, k1]
theorem wpOp_vl {P : Program} {ops : Array Oper} {Q : Exit → Act → World → Prop} {K : Act → World → Prop} {a : Act} {w : World} (i : Nat) {oi : Oper} (v : Value) (w' : World) (hi : ops[i]? = some oi) (hw : Region.wanted oi (yielded ops a.tmps) = true)
    (he : (execOp a.eval oi).run P w = .ok (.value v) w') (h : K (a.put oi.dst v) w') : wpOp P ops Q i K a w := by
  unfold wpOp
  rw [hi]
  simp only [hw, if_true]
  left
  unfold Oper.wp
  rw [he, Oper.upon_value]
  exact h
theorem wpOp_en {P : Program} {ops : Array Oper} {Q : Exit → Act → World → Prop} {K : Act → World → Prop} {a : Act} {w : World} (i : Nat) {oi : Oper} {f : FuncId} {args : Array Value} {R : Ending → World → Prop} (hi : ops[i]? = some oi) (hw : Region.wanted oi (yielded ops a.tmps) = true)
    (he : (execOp a.eval oi).run P w = .ok (.enter f args) w) (hc : Calls P f args w R) (h : ∀ e w', R e w' → ∃ v, e = .returned v ∧ K (a.put oi.dst v) w') : wpOp P ops Q i K a w := by
  unfold wpOp
  rw [hi]
  simp only [hw, if_true]
  left
  unfold Oper.wp
  rw [he, Oper.upon_enter]
  refine hc.mono ?_
  intro e w' hR
  obtain ⟨v, rfl, hv⟩ := h e w' hR
  exact hv
theorem wpAny_pair {P : Program} {md : Region.Mode} {ops : Array Oper} {Q : Exit → Act → World → Prop} {fuel : Nat} {listed : Array Bool} {a : Act} {w : World} (i j : Nat) (hr : Region.ready md ops listed = [i, j])
    (h1 : wpOp P ops Q i (wpAny P md ops Q fuel (listed.setIfInBounds i true)) a w) (h2 : wpOp P ops Q j (wpAny P md ops Q fuel (listed.setIfInBounds j true)) a w) : wpAny P md ops Q (fuel + 1) listed a w := by
  refine wpAny_all hr (by simp) (fun k hk => ?_)
  rcases List.mem_cons.1 hk with rfl | hk
  · exact h1
  · obtain rfl : k = j := by simpa using hk
    exact h2
theorem Over.blk {w0 wx : World} {g : Nat} {cs : List Value} {t : TypeId} (h : Over w0 wx) (hb : Blk w0 g cs t) : Blk wx g cs t := hb.below h hb.lt
theorem wpAny_storeB {md : Region.Mode} {ops : Array Oper} {Q : Exit → Act → World → Prop} {fuel : Nat} {listed : Array Bool} {a : Act} {w : World} (i : Nat) {oi : Oper} (x y : Operand) (g k : Nat) (l : List (BitVec 8)) (b : BitVec 8)
    (hr : Region.ready md ops listed = [i]) (hi : ops[i]? = some oi) (hw : Region.wanted oi (yielded ops a.tmps) = true) (ho : oi.op = .store 5 x y) (hx : a.eval x = .pointer (some ⟨g, k, none⟩)) (hy : a.eval y = .int .u8 (b.toNat : Int)) (hk : k < l.length) (hb : Blk w g (cb l) 23)
    (h : ∀ w', SetB (l.set k b) w g w' → wpAny Try.prog md ops Q fuel (listed.setIfInBounds i true) (a.put oi.dst undef) w') : wpAny Try.prog md ops Q (fuel + 1) listed a w := by
  have hc : w.cell? ⟨g, k, none⟩ = some (.int .u8 ((l.getD k 0).toNat : Int)) := by rw [hb.cell, cb_get l k hk]
  have hf : w.frozen? ⟨g, k, none⟩ = false := hb.frozen k
  refine wpAny_all hr (by simp) (fun j hj => ?_)
  obtain rfl : j = i := by simpa using hj
  unfold wpOp
  rw [hi]
  simp only [hw, if_true]
  left
  have he : (execOp a.eval oi).run Try.prog w = .ok .skip (w.setCell ⟨g, k, none⟩ (.int .u8 (b.toNat : Int))) := by
    clear h hw hi
    generalize a.eval = f at hx hy ⊢
    unfold execOp
    rw [ho]
    simp [go_sem, hx, hy, hc, hf]
  unfold Oper.wp
  rw [he]
  refine h _ ⟨?_, Only.setCell (Only.refl g w) k _⟩
  have := hb.set k (.int .u8 (b.toNat : Int))
  rwa [cb_set] at this
theorem storeByte (f : Operand → Value) (o : Oper) (x y : Operand) (g k : Nat) (l : List (BitVec 8)) (b : BitVec 8) {w : World} (ho : o.op = .store 5 x y) (hx : f x = .pointer (some ⟨g, k, none⟩)) (hy : f y = .int .u8 (b.toNat : Int)) (hk : k < l.length) (hb : Blk w g (cb l) 23) :
    (execOp f o).run Try.prog w = .ok .skip (w.setCell ⟨g, k, none⟩ (.int .u8 (b.toNat : Int))) := by
  have hc : w.cell? ⟨g, k, none⟩ = some (.int .u8 ((l.getD k 0).toNat : Int)) := by rw [hb.cell, cb_get l k hk]
  have hf : w.frozen? ⟨g, k, none⟩ = false := hb.frozen k
  unfold execOp
  rw [ho]
  simp [go_sem, hx, hy, hc, hf]
theorem SetB.byte {l : List (BitVec 8)} {w : World} {g k : Nat} {b : BitVec 8} (hb : Blk w g (cb l) 23) : SetB (l.set k b) w g (w.setCell ⟨g, k, none⟩ (.int .u8 (b.toNat : Int))) := by
  refine ⟨?_, Only.setCell (Only.refl g w) k _⟩
  have := hb.set k (.int .u8 (b.toNat : Int))
  rwa [cb_set] at this
theorem wpSeq_storeB {ops : Array Oper} {Q : Exit → Act → World → Prop} {rest : List Oper} {o : Oper} {a : Act} {w : World} (x y : Operand) (g k : Nat) (l : List (BitVec 8)) (b : BitVec 8) (hk : k < l.length) (hb : Blk w g (cb l) 23) (ho : o.op = .store 5 x y) (hx : a.eval x = .pointer (some ⟨g, k, none⟩)) (hy : a.eval y = .int .u8 (b.toNat : Int)) (hw : Region.wanted o (yielded ops a.tmps) = true)
    (h : ∀ w', SetB (l.set k b) w g w' → wpList Try.prog ops Q rest (a.put o.dst undef) w') : wpList Try.prog ops Q (o :: rest) a w := by
  unfold wpList
  simp only [hw, if_true]
  left
  unfold Oper.wp
  rw [storeByte _ _ x y g k l b ho hx hy hk hb]
  exact h _ (SetB.byte hb)
end Go.Proofs.Ythjkihbobdollaa

/- Blocks of memory: what a block holds, and what stays of it behind a store, a new block or a draw. No program is named here. -/
import Derived.Test.YtgmemibhddnjjaaPlain
import Derived.Deep.MidRow
import Derived.Deep.Draws
namespace Go.Proofs.Ytgmemibhddnjjaa
open Go.RowKit
set_option maxRecDepth 100000

/-- block g is a row of the cells cs, of element type t, no cell of it frozen -/
def Blk (w : World) (g : Nat) (cs : List Value) (t : TypeId) : Prop := w.heap[g]? = some (.cells cs.toArray t (0, 0))

theorem Blk.lt {w : World} {g : Nat} {cs : List Value} {t : TypeId} (h : Blk w g cs t) : g < w.heap.size := by
  unfold Blk at h
  rcases Nat.lt_or_ge g w.heap.size with h' | h'
  · exact h'
  · rw [Array.getElem?_eq_none h'] at h; cases h
theorem Blk.cell {w : World} {g : Nat} {cs : List Value} {t : TypeId} (h : Blk w g cs t) (j : Nat) : w.cell? ⟨g, j, none⟩ = cs[j]? := by
  rw [cell_of_row w g j _ t (0, 0) h]; simp
theorem Blk.frozen {w : World} {g : Nat} {cs : List Value} {t : TypeId} (h : Blk w g cs t) (j : Nat) : w.frozen? ⟨g, j, none⟩ = false := frozen_of_row w g j _ t h
theorem Blk.drew {w : World} {g : Nat} {cs : List Value} {t : TypeId} (h : Blk w g cs t) : Blk w.drew g cs t := h
theorem Blk.drewN {w : World} {g : Nat} {cs : List Value} {t : TypeId} (h : Blk w g cs t) (n : Nat) : Blk (w.drewN n) g cs t := h
theorem Blk.alloc {w : World} {g : Nat} {cs : List Value} {t : TypeId} (h : Blk w g cs t) (o : Obj) : Blk (w.alloc o) g cs t := by
  have := h.lt
  unfold Blk at *
  rw [Go.RowKit.Below.heap_alloc w o g this]; exact h
theorem Blk.new (w : World) (cs : List Value) (t : TypeId) : Blk (w.alloc (.cells cs.toArray t)) w.heap.size cs t := heap_alloc_new w _
theorem Blk.new_at {w : World} {n : Nat} (hn : w.heap.size = n) (cs : List Value) (t : TypeId) : Blk (w.alloc (.cells cs.toArray t)) n cs t := by
  subst hn; exact Blk.new w cs t
theorem Blk.set {w : World} {g : Nat} {cs : List Value} {t : TypeId} (h : Blk w g cs t) (i : Nat) (v : Value) : Blk (w.setCell ⟨g, i, none⟩ v) g (cs.set i v) t := by
  unfold Blk at *
  rw [heap_setCell_same w g i _ t v h]; simp
theorem Blk.other {w : World} {g : Nat} {cs : List Value} {t : TypeId} (h : Blk w g cs t) (a : Addr) (v : Value) (hne : g ≠ a.block) : Blk (w.setCell a v) g cs t := by
  unfold Blk at *
  rw [heap_setCell_other w a g v hne]; exact h
theorem Blk.below {w w' : World} {g B : Nat} {cs : List Value} {t : TypeId} (h : Blk w g cs t) (hb : Below B w w') (hg : g < B) : Blk w' g cs t := by
  unfold Blk at *
  rw [hb.block g hg]; exact h
theorem Blk.range {w : World} {g : Nat} {cs : List Value} {t : TypeId} (h : Blk w g cs t) : w.rangeAt g 0 cs := fun j v hv => by
  rw [Nat.zero_add, h.cell j, hv]
theorem Blk.there {w : World} {g : Nat} {cs : List Value} {t : TypeId} (h : Blk w g cs t) (o n : Nat) (hn : o + n ≤ cs.length) : w.there g o n := fun j hj => by
  rw [h.cell, h.frozen]
  exact ⟨by rw [List.getElem?_eq_getElem (by omega)]; rfl, rfl⟩
theorem setCells_eq (g : Nat) : ∀ (vs : List Value) (o : Nat) (w : World) (cs : List Value) (t : TypeId), Blk w g cs t → o + vs.length ≤ cs.length → Blk (w.setCells g o vs) g (cs.take o ++ vs ++ cs.drop (o + vs.length)) t
  | [], o, w, cs, t, h, _ => by simpa [World.setCells] using h
  | v :: r, o, w, cs, t, h, hl => by
    rw [World.setCells]
    simp only [List.length_cons] at hl
    have := setCells_eq g r (o + 1) _ _ t (h.set o v) (by simp; omega)
    have e : (cs.set o v).take (o + 1) ++ r ++ (cs.set o v).drop (o + 1 + r.length) = cs.take o ++ (v :: r) ++ cs.drop (o + (v :: r).length) := by
      have e1 : (cs.set o v).take (o + 1) = cs.take o ++ [v] := by
        apply List.ext_getElem?
        intro i
        by_cases h1 : i < o
        · rw [List.getElem?_take_of_lt (by omega), List.getElem?_append_left (by simp; omega), List.getElem?_take_of_lt h1, List.getElem?_set_ne (by omega)]
        · by_cases h2 : i = o
          · subst h2
            rw [List.getElem?_take_of_lt (by omega), List.getElem?_append_right (by simp; omega), List.getElem?_set_self (by omega)]
            simp [Nat.min_eq_left (show i ≤ cs.length by omega)]
          · rw [List.getElem?_eq_none (by simp; omega), List.getElem?_eq_none (by simp; omega)]
      have e2 : (cs.set o v).drop (o + 1 + r.length) = cs.drop (o + (v :: r).length) := by
        rw [List.drop_set_of_lt (by omega), List.length_cons]; congr 1; omega
      rw [e1, e2]; simp
    rw [e] at this; exact this
theorem Blk.whole {w : World} {g : Nat} {cs : List Value} {t : TypeId} (h : Blk w g cs t) (vs : List Value) (hl : vs.length = cs.length) : Blk (w.setCells g 0 vs) g vs t := by
  have := setCells_eq g vs 0 w cs t h (by omega)
  simpa [hl] using this
theorem wpList_store8 {P : Program} {ops : Array Oper} {rest : List Oper} {op : Oper} {a : Act} {w : World} {Q : Exit → Act → World → Prop} (hgd : op.guard = none) (ty : TypeId) (x y : Operand) (ho : op.op = .store ty x y)
    (b : Nat) (na nb nc nd ne nf ng nh : Int) (hx : a.eval x = .pointer (some ⟨b, 0, none⟩)) (hy : a.eval y = .agg #[Value.int .u32 na, Value.int .u32 nb, Value.int .u32 nc, Value.int .u32 nd, Value.int .u32 ne, Value.int .u32 nf, Value.int .u32 ng, Value.int .u32 nh])
    (ht : w.there b 0 8) (hi : (P.info? ty).map (·.size) = some 8)
    (h : wpList P ops Q rest (a.put op.dst undef) (w.setCells b 0 [Value.int .u32 na, Value.int .u32 nb, Value.int .u32 nc, Value.int .u32 nd, Value.int .u32 ne, Value.int .u32 nf, Value.int .u32 ng, Value.int .u32 nh])) : wpList P ops Q (op :: rest) a w :=
  wpList_store_mid hgd ty x y ho b 0 _ hx hy ht hi (by simp [Value.oneCell']) h
theorem wpList_build8 {P : Program} {ops : Array Oper} {rest : List Oper} {o : Oper} {a : Act} {w : World} {Q : Exit → Act → World → Prop} (hg : o.guard = none) (t : TypeId) (xa xb xc xd xe xf xg xh : Operand)
    (ho : o.op = .build t #[(0, xa), (1, xb), (2, xc), (3, xd), (4, xe), (5, xf), (6, xg), (7, xh)]) (na nb nc nd ne nf ng nh : Int) (ea : a.eval xa = .int .u32 na) (eb : a.eval xb = .int .u32 nb) (ec : a.eval xc = .int .u32 nc) (ed : a.eval xd = .int .u32 nd) (ee : a.eval xe = .int .u32 ne) (ef : a.eval xf = .int .u32 nf) (eg : a.eval xg = .int .u32 ng) (eh : a.eval xh = .int .u32 nh)
    (hb : P.built t [(0, Value.int .u32 na), (1, Value.int .u32 nb), (2, Value.int .u32 nc), (3, Value.int .u32 nd), (4, Value.int .u32 ne), (5, Value.int .u32 nf), (6, Value.int .u32 ng), (7, Value.int .u32 nh)] = some #[Value.int .u32 na, Value.int .u32 nb, Value.int .u32 nc, Value.int .u32 nd, Value.int .u32 ne, Value.int .u32 nf, Value.int .u32 ng, Value.int .u32 nh])
    (h : wpList P ops Q rest (a.put o.dst (.agg #[Value.int .u32 na, Value.int .u32 nb, Value.int .u32 nc, Value.int .u32 nd, Value.int .u32 ne, Value.int .u32 nf, Value.int .u32 ng, Value.int .u32 nh])) w) : wpList P ops Q (o :: rest) a w :=
  wpList_build hg t _ ho (by simp [ea, eb, ec, ed, ee, ef, eg, eh, hb]) (by simpa [ea, eb, ec, ed, ee, ef, eg, eh, hb] using h)
theorem cw_get (l : List (BitVec 32)) (j : Nat) (h : j < l.length) : (cw l)[j]? = some (.int .u32 ((l.getD j 0).toNat : Int)) := by simp [cw, h]
theorem cb_get (l : List (BitVec 8)) (j : Nat) (h : j < l.length) : (cb l)[j]? = some (.int .u8 ((l.getD j 0).toNat : Int)) := by simp [cb, h]
theorem cw_set (l : List (BitVec 32)) (j : Nat) (v : BitVec 32) : (cw l).set j (.int .u32 (v.toNat : Int)) = cw (l.set j v) := by simp [cw, List.map_set]
theorem cb_set (l : List (BitVec 8)) (j : Nat) (v : BitVec 8) : (cb l).set j (.int .u8 (v.toNat : Int)) = cb (l.set j v) := by simp [cb, List.map_set]
theorem cw_len (l : List (BitVec 32)) : (cw l).length = l.length := by simp [cw]
theorem cb_len (l : List (BitVec 8)) : (cb l).length = l.length := by simp [cb]
theorem cw_one (l : List (BitVec 32)) : ∀ v ∈ cw l, v.oneCell' = true := by simp [cw, Value.oneCell']
theorem cb_one (l : List (BitVec 8)) : ∀ v ∈ cb l, v.oneCell' = true := by simp [cb, Value.oneCell']
theorem Below.setCells {B : Nat} {a : World} (g : Nat) (hg : B ≤ g) : ∀ (vs : List Value) (o : Nat) (w : World), Below B a w → Below B a (w.setCells g o vs)
  | [], _, _, h => h
  | v :: r, o, w, h => by rw [World.setCells]; exact Below.setCells g hg r (o + 1) _ (h.setCell hg v)
theorem Blk.others (g' : Nat) : ∀ (vs : List Value) (o : Nat) (w : World) {g : Nat} {cs : List Value} {t : TypeId}, Blk w g cs t → g ≠ g' → Blk (w.setCells g' o vs) g cs t
  | [], _, _, _, _, _, h, _ => h
  | v :: r, o, w, _, _, _, h, hne => by rw [World.setCells]; exact Blk.others g' r (o + 1) _ (h.other _ v hne) hne
end Go.Proofs.Ytgmemibhddnjjaa

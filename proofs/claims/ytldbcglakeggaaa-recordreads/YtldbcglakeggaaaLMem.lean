/- What of a reader stays where a variable of slices is stored to; blocks behind an append. -/
import Derived.Test.YtldbcglakeggaaaLRow
namespace Go.Proofs.Ytldbcglakeggaaa
open Go.RowKit
theorem Reads.setOther {w : World} {gl : Nat} {v u : Value} {t : TypeId} {l : List (BitVec 8)} (h : Reads w v l) (hb : Blk w gl [u] t) (hu : ∃ ad n c, u = .slice ad n c) (x : Value) : Reads (w.setCell ⟨gl, 0, none⟩ x) v l := by
  obtain ⟨ad, cap, rfl, hc, hn, hx⟩ := h
  refine ⟨ad, cap, rfl, hc, hn, fun hp => ?_⟩
  obtain ⟨b, off, h1, h2⟩ := hx hp
  refine ⟨b, off, h1, fun j hj => ?_⟩
  have hne : b ≠ gl := by
    intro he
    subst he
    have h0 := h2 0 hp
    rw [hb.cell] at h0
    obtain ⟨ad', n', c', rfl⟩ := hu
    match off, h0 with
    | 0, h0 => simp at h0
    | k + 1, h0 => simp at h0
  rw [World.cell?_of_block (w := w) (Below.heap_setCell _ _ _ _ (by exact hne))]
  exact h2 j hj
theorem Rd.setOther {w : World} {gr gi gl : Nat} {v u : Value} {t : TypeId} {l : List (BitVec 8)} (h : Rd w gr gi v l) (hb : Blk w gl [u] t) (hu : ∃ ad n c, u = .slice ad n c) (h1 : gr ≠ gl) (h2 : gi ≠ gl) (x : Value) : Rd (w.setCell ⟨gl, 0, none⟩ x) gr gi v l :=
  ⟨h.rd.other _ _ (by exact h1), h.inp.other _ _ (by exact h2), h.byt.setOther hb hu x⟩
theorem Blk.grown {w w' : World} {g : Nat} {cs : List Value} {t : TypeId} {row : Option Nat} (h : Blk w g cs t) (hg : w.grownBy w' row) (hne : some g ≠ row) : Blk w' g cs t := by
  have := h.lt
  unfold Blk at *
  rw [hg.block g this hne]; exact h
theorem wpAny_skip {P : Program} {md : Region.Mode} {ops : Array Oper} {Q : Exit → Act → World → Prop} {fuel : Nat} {listed : Array Bool} {a : Act} {w : World} (i : Nat) {oi : Oper} (w' : World)
    (hr : Region.ready md ops listed = [i]) (hi : ops[i]? = some oi) (hw : Region.wanted oi (yielded ops a.tmps) = true) (he : (execOp a.eval oi).run P w = .ok .skip w')
    (h : wpAny P md ops Q fuel (listed.setIfInBounds i true) (a.put oi.dst undef) w') : wpAny P md ops Q (fuel + 1) listed a w := by
  refine wpAny_law i hr hi hw ?_
  unfold Oper.wp
  rw [he]
  exact h
end Go.Proofs.Ytldbcglakeggaaa

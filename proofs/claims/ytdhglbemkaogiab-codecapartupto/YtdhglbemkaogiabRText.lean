/- The walks of bytes.Clone, of the reader's Text and Digest. -/
import Derived.Test.YtdhglbemkaogiabRNum
namespace Go.Proofs.Ytdhglbemkaogiab
open Go.RowKit
theorem OwnB.zero (w : World) (base g : Nat) (hg : base ≤ g) (h : Blk w g [] 5) : OwnB w base (.slice (some ⟨g, 0, none⟩) 0 0) [] :=
  OwnB.of_blk (l := []) (c := 0) h hg rfl (by unfold maxLen; omega) (Nat.le_refl _) rfl
theorem Rd.below {w w' : World} {gr gi : Nat} {v : Value} {l : List (BitVec 8)} (h : Rd w gr gi v l) (hb : Below w.heap.size w w') : Rd w' gr gi v l := ⟨h.rd.below hb h.rd.lt, h.inp.below hb h.inp.lt, h.byt.below hb⟩
theorem Threw.down {gi : Nat} {w w1 : World} {e : Ending} (h : Threw gi w e w1) : e = .panicked [{ v := .iface 51 (.pointer (some ⟨gi, 0, none⟩)), recovered := false }] := h.eq
theorem wpAny_enterP {P : Program} {md : Region.Mode} {ops : Array Oper} {Q : Exit → Act → World → Prop} {fuel : Nat} {listed : Array Bool} {a : Act} {w : World} (i : Nat) {oi : Oper} {f : FuncId} {args : Array Value} {R : Ending → World → Prop}
    (hr : Region.ready md ops listed = [i]) (hi : ops[i]? = some oi) (hw : Region.wanted oi (yielded ops a.tmps) = true) (he : (execOp a.eval oi).run P w = .ok (.enter f args) w) (hc : Calls P f args w R)
    (h : ∀ e w', R e w' → (∃ v, e = .returned v ∧ wpAny P md ops Q fuel (listed.setIfInBounds i true) (a.put oi.dst v) w') ∨ (∃ ch, e = .panicked ch ∧ Q (.panic ch) a w')) : wpAny P md ops Q (fuel + 1) listed a w := by
  refine wpAny_all hr (by simp) (fun j hj => ?_)
  obtain rfl : j = i := by simpa using hj
  unfold wpOp
  rw [hi]
  simp only [hw, if_true]
  left
  unfold Oper.wp
  rw [he, Oper.upon_enter]
  refine hc.mono ?_
  intro e w' hR
  rcases h e w' hR with ⟨v, rfl, hv⟩ | ⟨ch, rfl, hv⟩
  · exact hv
  · exact hv
theorem wpAny_step {P : Program} {md : Region.Mode} {ops : Array Oper} {Q : Exit → Act → World → Prop} {fuel : Nat} {listed : Array Bool} {a : Act} {w : World} (i : Nat) {oi : Oper} (v : Value) (w' : World)
    (hr : Region.ready md ops listed = [i]) (hi : ops[i]? = some oi) (hw : Region.wanted oi (yielded ops a.tmps) = true) (he : (execOp a.eval oi).run P w = .ok (.value v) w')
    (h : wpAny P md ops Q fuel (listed.setIfInBounds i true) (a.put oi.dst v) w') : wpAny P md ops Q (fuel + 1) listed a w := by
  refine wpAny_all hr (by simp) (fun j hj => ?_)
  obtain rfl : j = i := by simpa using hj
  unfold wpOp
  rw [hi]
  simp only [hw, if_true]
  left
  unfold Oper.wp
  rw [he, Oper.upon_value]
  exact h
theorem Rd.others {w w' : World} {gr gi B : Nat} {v : Value} {l : List (BitVec 8)} (h : Rd w gr gi v l) (hgr : gr < B) (hgi : gi < B) (hv : 0 < l.length → ∀ k, v.ownBlock = some k → k < B) {C : Nat} (hC : B ≤ C) (hb : Below C w w') : Rd w' gr gi v l := by
  refine ⟨h.rd.below hb (by omega), h.inp.below hb (by omega), ?_⟩
  obtain ⟨ad, cap, rfl, hc, hn, hx⟩ := h.byt
  refine ⟨ad, cap, rfl, hc, hn, fun hp => ?_⟩
  obtain ⟨b, off, rfl, hy⟩ := hx hp
  refine ⟨b, off, rfl, fun j hj => ?_⟩
  have : b < C := Nat.lt_of_lt_of_le (hv hp b rfl) hC
  rw [hb.cell (p := ⟨b, off + j, none⟩) this]
  exact hy j hj
theorem Only.more {g B : Nat} {w w1 w2 : World} (h : Only g w w1) (hb : Below B w1 w2) (hB : w.heap.size ≤ B) : Only g w w2 :=
  ⟨hb.os.trans h.os, hb.tape.trans h.tape, hb.output.trans h.output, Nat.le_trans h.size hb.size, fun k hk hl => (hb.block k (by omega)).trans (h.block k hk hl)⟩
end Go.Proofs.Ytdhglbemkaogiab

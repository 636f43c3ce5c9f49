/- What a slice of acts and a string that came in give (layer 16). -/
import Derived.Test.YtgmemibhddnjjaaKaDs
import Derived.ProofKit
import Derived.OpenShut
import Derived.JoinedCond
import Derived.Carry
import Derived.ChangeSlices
import Derived.ChangeSame
import Derived.Deep.Slices
import Derived.Deep.Strs
import Derived.Lib.SmallJoins
namespace Go.Proofs.Ytgmemibhddnjjaa
open Go.ChangeShapes Go.WideShapes Go.ChangeAt Go.WideMaps Go.WideElems Go.RowKit
set_option maxRecDepth 100000
set_option maxRecDepth 100000 in
theorem own : ownKnob Try.prog.godebug = none := by kernel_rfl
set_option maxRecDepth 100000 in
theorem laid_out : laidOutB Try.prog = true := by kernel_rfl
theorem cells_int16 : Try.prog.cellsOf 3 = 1 := by kernel_rfl
theorem cells_str16 : Try.prog.cellsOf 9 = 1 := by kernel_rfl
theorem cells_op16 : Try.prog.cellsOf 35 = 3 := by kernel_rfl
theorem readable_ops16 : Try.prog.readableRec 22 = true := by kernel_rfl
theorem row_ops16 : 22 < Try.prog.types.size := of_decide_eq_true (by kernel_rfl)
set_option maxRecDepth 100000 in
theorem op16_of_cells {H : Type} {enc : TypeId × Value → H} {W : World} {l : List Value} {y : DataW H × List MemPlace} {fuel : Nat} (hf : DataW.trod enc Try.prog W 0 (fun _ => true) true fuel 35 l = some y) :
    ∃ o : OpK, l = opC o ∧ o.k.size ≤ maxLen := by
  obtain ⟨xs, n, _, _, hl, hlen, hg⟩ := DataW.trod_struct Try.underlying35 hf
  rw [cells_op16] at hl
  match l, hl with
  | [c0, c1, c2], _ =>
    match xs, hlen with
    | [y0, y1, y2], _ =>
      have k0 : DataW.trod enc Try.prog W 0 (fun _ => true) true n 3 [c0] = some y0 := by simpa [cells_int16] using hg 0 _ rfl
      have k1 : DataW.trod enc Try.prog W 0 (fun _ => true) true n 9 [c1] = some y1 := by simpa [cells_str16] using hg 1 _ rfl
      have k2 : DataW.trod enc Try.prog W 0 (fun _ => true) true n 3 [c2] = some y2 := by simpa [cells_int16] using hg 2 _ rfl
      obtain ⟨m0, e0, _, _⟩ := DataW.trod_int Try.underlying3 k0
      obtain ⟨s, e1, _, hs⟩ := DataW.trod_string Try.underlying9 k1
      obtain ⟨m2, e2, _, _⟩ := DataW.trod_int Try.underlying3 k2
      simp only [List.cons.injEq, and_true] at e0 e1 e2
      exact ⟨⟨m0, s, m2⟩, by rw [opC, e0, e1, e2], hs⟩
theorem ops16_of_trod {H : Type} {enc : TypeId × Value → H} {W : World} {base : Nat} {v : Value} {d : DataW H} {p : List MemPlace} (hval : Value.okWide Try.prog W .any base 22 v)
    (h : DataW.Trod enc Try.prog W 0 (fun _ => true) true 22 v d p) :
    ∃ l, RdO W v l ∧ (∀ o ∈ l, o.k.size ≤ maxLen) ∧ ∀ x ∈ p, x.block < W.heap.size := by
  obtain ⟨a1, len, cap, rfl⟩ := okWide_slice Try.underlying22 hval
  obtain ⟨fuel, hf⟩ := h
  have hp0 := DataW.trod_lt _ _ _ _ hf
  rcases Go.Deep.open_slice Try.underlying22 hf with ⟨hcs, hx⟩ | ⟨a, len', cap', m, n, D, Pl, hcs, _, hl, hm, hmm, hx, hV⟩
  · simp [Value.cells] at hcs
    obtain ⟨rfl, rfl, rfl⟩ := hcs
    exact ⟨[], ⟨none, 0, rfl, Nat.le_refl _, fun h => by simp at h⟩, fun _ h => by simp at h, hp0⟩
  · simp [Value.cells] at hcs
    obtain ⟨rfl, rfl, rfl⟩ := hcs
    simp only [if_true] at hmm
    subst hmm
    rw [cells_op16] at hV
    have : Inhabited OpK := ⟨⟨0, ⟨#[]⟩, 0⟩⟩
    obtain ⟨B, hB⟩ := Go.Deep.choose_lt (α := OpK) (p := fun i q => W.cells? 0 (a.add (i * 3)) 3 = some (opC q) ∧ q.k.size ≤ maxLen) (fun i hi => by
      obtain ⟨cs', h1, h2⟩ := hV i hi
      obtain ⟨s, rfl, h3⟩ := op16_of_cells h2
      exact ⟨s, h1, h3⟩)
    have hlen : ((List.range len).map B).length = len := by simp
    obtain ⟨ab, ao, spot⟩ := a
    have cell : ∀ i, i < m → ∀ j, j < 3 → W.cell? ((⟨ab, ao, spot⟩ : Addr).add (i * 3 + j)) = (opC (B i))[j]? := by
      intro i hi j hj
      obtain ⟨h1, _⟩ := hB i hi
      obtain ⟨_, _, h4⟩ := World.cells?_some h1
      have := h4 j hj
      rw [Go.Deep.add_add] at this
      exact this
    have hspot : 0 < m → spot = none := fun hp => by
      have h := cell 0 hp 0 (by omega)
      rw [show (opC (B 0))[0]? = some (.int .i64 (B 0).kind) from rfl] at h
      simpa [Addr.add] using World.cell?_spot h
    refine ⟨(List.range len).map B, ⟨some ⟨ab, ao, spot⟩, m, by rw [hlen], by rw [hlen]; exact hl, fun hp => ?_⟩, fun o ho => ?_, hp0⟩
    · rw [hlen] at hp
      have hs := hspot (by omega)
      subst hs
      refine ⟨ab, ao, rfl, fun j o hj => ?_⟩
      have hjl : j < len := by have := (List.getElem?_eq_some_iff.1 hj).1; rw [hlen] at this; exact this
      have e : o = B j := by
        rw [List.getElem?_map, List.getElem?_range hjl] at hj
        simpa using hj.symm
      subst e
      intro i v hv
      have hi : i < 3 := (List.getElem?_eq_some_iff.1 hv).1
      have h := cell j (by omega) i hi
      rw [hv, Addr.add_lit] at h
      rw [Nat.add_assoc]; exact h
    · obtain ⟨i, hi, rfl⟩ := List.mem_map.1 ho
      exact (hB i (by have := List.mem_range.1 hi; omega)).2
end Go.Proofs.Ytgmemibhddnjjaa

/- What a binding and a signed root that came in give, with bounds on their lengths. -/
import Derived.Test.YtldbcglakeggaaaOpenS
import Derived.Test.YtldbcglakeggaaaRecBkL
namespace Go.Proofs.Ytldbcglakeggaaa
open Go.ChangeShapes Go.WideShapes Go.ChangeAt Go.WideMaps Go.WideElems Go.RowKit
set_option maxRecDepth 100000 in
theorem binding_of_trod_b {H : Type} {enc : TypeId × Value → H} {W : World} {base : Nat} {v : Value} {d : DataW H} {p : List MemPlace} (hval : Value.okWide Try.prog W .any base 25 v)
    (h : DataW.Trod enc Try.prog W 0 (fun _ => true) true 25 v d p) :
    ∃ nm vk ky sr, v = .agg #[.string (strB nm), vk, .int .u64 ((sr : Nat) : Int)] ∧ Reads W vk ky ∧ sr < 18446744073709551616 ∧ (nm.length + ky.length ≤ Rows.uptoBulk d) ∧ ∀ x ∈ p, x.block < W.heap.size := by
  simp only [Value.okWide, Try.underlying25] at hval
  obtain ⟨cs, rfl, hcs, _⟩ := hval
  obtain ⟨fuel, hf⟩ := h
  have hp := DataW.trod_lt _ _ _ _ hf
  obtain ⟨y0, y1, y2, n, hx, hl, h0, h1, h2⟩ := Go.Deep.trod_struct3 Try.underlying25 hf
  simp only [Value.cells] at hl h0 h1 h2
  rw [cells_binding] at hl
  rw [cells_string] at h0
  rw [cells_bytes1] at h1
  rw [cells_u64] at h2
  obtain ⟨l⟩ := cs
  match l, hl with
  | [c0, c1, c2], _ =>
    obtain ⟨s, e0, ex, _⟩ := DataW.trod_string Try.underlying9 h0
    obtain ⟨z1, q1⟩ := y1
    obtain ⟨bs, hr, hbl, _⟩ := reads_of_cells (v := c1) h1
    obtain ⟨m, e2, _, hw⟩ := DataW.trod_int Try.underlying23 h2
    simp at e0 e2
    subst e0 e2
    obtain ⟨nm, rfl⟩ := strB_of s
    have hb := bounds_u64 hw
    refine ⟨nm, c1, bs, m.toNat, ?_, hr, by omega, ?_, hp⟩
    · rw [Int.toNat_of_nonneg (by omega)]
    · simp only [Prod.mk.injEq] at hx
      have hs := strB_size nm
      have hs2 : (strB nm).data.toList.length = nm.length := by rw [← hs]; rfl
      rw [hx.1, ex]
      simp only [Rows.uptoBulk, Rows.uptoBulkAll, hs2]
      omega
set_option maxRecDepth 100000 in
theorem signed_of_trod_b {H : Type} {enc : TypeId × Value → H} {W : World} {base : Nat} {v : Value} {d : DataW H} {p : List MemPlace} (hval : Value.okWide Try.prog W .any base 42 v)
    (h : DataW.Trod enc Try.prog W 0 (fun _ => true) true 42 v d p) :
    ∃ ep x y z vs sg, v = .agg (sgnV ep x y z vs).toArray ∧ Reads W vs sg ∧ (ep < 18446744073709551616 ∧ x.length = 32 ∧ y.length = 32 ∧ z.length = 32) ∧ sg.length ≤ Rows.uptoBulk d ∧ ∀ q ∈ p, q.block < W.heap.size := by
  obtain ⟨ep, x, y, z, vs, sg0, hv, hr0, hh, hp⟩ := signed_of_trod hval h
  subst hv
  obtain ⟨fuel, hf⟩ := h
  obtain ⟨y0, y1, n, hx, hl, h0, h1⟩ := Go.ChangeShapes.trod_struct2 Try.underlying42 hf
  rw [cells_bytes1] at h1
  have e : ((Value.agg (sgnV ep x y z vs).toArray).cells.toList.drop 97).take 1 = [vs] := by
    simp only [Value.cells, List.toList_toArray]
    have h97 := sgnV_at (ep := ep) (v := vs) hh.2.1 hh.2.2.1 hh.2.2.2
    have hlen : (sgnV ep x y z vs).length = 98 := by simp [sgnV, cb_len, hh]
    rw [List.take_one, List.head?_drop, h97]; rfl
  obtain ⟨z1, q1⟩ := y1
  have h1' : DataW.trod enc Try.prog W 0 (fun _ => true) true n 22 [vs] = some (z1, q1) := by rw [← e]; exact h1
  obtain ⟨sg, hr, hbl, _⟩ := reads_of_cells (v := vs) h1'
  simp only [Prod.mk.injEq] at hx
  refine ⟨ep, x, y, z, vs, sg, rfl, hr, hh, ?_, hp⟩
  rw [hx.1]
  simp only [Rows.uptoBulk, Rows.uptoBulkAll]
  omega
end Go.Proofs.Ytldbcglakeggaaa

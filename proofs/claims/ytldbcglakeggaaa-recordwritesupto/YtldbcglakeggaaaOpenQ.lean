/- What a request and a proof that came in give, with bounds. -/
import Derived.Test.YtldbcglakeggaaaOpenB
namespace Go.Proofs.Ytldbcglakeggaaa
open Go.ChangeShapes Go.WideShapes Go.ChangeAt Go.WideMaps Go.WideElems Go.RowKit
set_option maxRecDepth 100000 in
theorem request_of_trod_b {H : Type} {enc : TypeId × Value → H} {W : World} {base : Nat} {v : Value} {d : DataW H} {p : List MemPlace} (hval : Value.okWide Try.prog W .any base 38 v)
    (h : DataW.Trod enc Try.prog W 0 (fun _ => true) true 38 v d p) :
    ∃ kd nm vk ky au, v = .agg (reqV kd nm vk au).toArray ∧ Reads W vk ky ∧ au.length = 32 ∧ (Fit kd ∧ nm.length + ky.length ≤ Rows.uptoBulk d) ∧ ∀ q ∈ p, q.block < W.heap.size := by
  simp only [Value.okWide, Try.underlying38] at hval
  obtain ⟨cs, rfl, hcs, _⟩ := hval
  obtain ⟨fuel, hf⟩ := h
  have hp := DataW.trod_lt _ _ _ _ hf
  obtain ⟨y0, y1, y2, y3, n, hx, hl, h0, h1, h2, h3⟩ := Go.Joins.trod_struct4 Try.underlying38 hf
  simp only [Value.cells] at hl h0 h1 h2 h3
  rw [cells_request] at hl
  rw [cells_int1] at h0
  rw [cells_string] at h1
  rw [cells_bytes1] at h2
  rw [cells_digest] at h3
  obtain ⟨l⟩ := cs
  simp only at hl h0 h1 h2 h3
  have d0 : l = l.take 1 ++ l.drop 1 := (List.take_append_drop 1 l).symm
  have d1 : l.drop 1 = (l.drop 1).take 1 ++ l.drop 2 := by
    have := (List.take_append_drop 1 (l.drop 1)).symm
    rwa [List.drop_drop] at this
  have d2 : l.drop 2 = (l.drop 2).take 1 ++ l.drop 3 := by
    have := (List.take_append_drop 1 (l.drop 2)).symm
    rwa [List.drop_drop] at this
  have d3 : l.drop 3 = (l.drop 3).take 32 := by rw [List.take_of_length_le (by rw [List.length_drop]; omega)]
  rw [List.drop_zero] at h0
  obtain ⟨m, e0, _, hw⟩ := DataW.trod_int Try.underlying3 h0
  obtain ⟨s, e1, ex, _⟩ := DataW.trod_string Try.underlying9 h1
  obtain ⟨nm, rfl⟩ := strB_of s
  obtain ⟨c2, e2⟩ := take_one (k := 2) hl (by omega)
  rw [e2] at h2
  obtain ⟨z2, q2⟩ := y2
  obtain ⟨ky, hr, hbl, _⟩ := reads_of_cells (v := c2) h2
  obtain ⟨z3, q3⟩ := y3
  obtain ⟨au, e3, la, _⟩ := digest_of_cells h3
  refine ⟨m, nm, c2, ky, au, ?_, hr, la, ⟨⟨(bounds_i64 hw).1, by have := (bounds_i64 hw).2; omega⟩, ?_⟩, hp⟩
  · congr 1
    rw [d0, d1, d2, d3, e0, e1, e2, e3]
    rfl
  · simp only [Prod.mk.injEq] at hx
    have hs := strB_size nm
    have hs2 : (strB nm).data.toList.length = nm.length := by rw [← hs]; rfl
    rw [hx.1, ex]
    simp only [Rows.uptoBulk, Rows.uptoBulkAll, hs2]
    omega
set_option maxRecDepth 100000 in
theorem proof_of_trod_b {H : Type} {enc : TypeId × Value → H} {W : World} {base : Nat} {v : Value} {d : DataW H} {p : List MemPlace} (hval : Value.okWide Try.prog W .any base 30 v)
    (h : DataW.Trod enc Try.prog W 0 (fun _ => true) true 30 v d p) :
    ∃ vs ds en ix va, v = .agg (prfV vs en ix va).toArray ∧ ReadsD W vs ds ∧ ((ix.length = 32 ∧ va.length = 32) ∧ Fit en ∧ ds.length ≤ Rows.uptoBulk d) ∧ ∀ q ∈ p, q.block < W.heap.size := by
  simp only [Value.okWide, Try.underlying30] at hval
  obtain ⟨cs, rfl, hcs, _⟩ := hval
  obtain ⟨fuel, hf⟩ := h
  have hp := DataW.trod_lt _ _ _ _ hf
  obtain ⟨y0, y1, y2, y3, n, hx, hl, h0, h1, h2, h3⟩ := Go.Joins.trod_struct4 Try.underlying30 hf
  simp only [Value.cells] at hl h0 h1 h2 h3
  rw [cells_proof] at hl
  rw [cells_digests] at h0
  rw [cells_int1] at h1
  rw [cells_digest] at h2 h3
  obtain ⟨l⟩ := cs
  simp only at hl h0 h1 h2 h3
  have d0 : l = l.take 1 ++ l.drop 1 := (List.take_append_drop 1 l).symm
  have d1 : l.drop 1 = (l.drop 1).take 1 ++ l.drop 2 := by
    have := (List.take_append_drop 1 (l.drop 1)).symm
    rwa [List.drop_drop] at this
  have d2 : l.drop 2 = (l.drop 2).take 32 ++ l.drop 34 := by
    have := (List.take_append_drop 32 (l.drop 2)).symm
    rwa [List.drop_drop] at this
  have d3 : l.drop 34 = (l.drop 34).take 32 := by rw [List.take_of_length_le (by rw [List.length_drop]; omega)]
  obtain ⟨m, e1, _, hw⟩ := DataW.trod_int Try.underlying3 h1
  obtain ⟨z2, q2⟩ := y2
  obtain ⟨z3, q3⟩ := y3
  obtain ⟨z0, q0⟩ := y0
  obtain ⟨ix, e2, lx, _⟩ := digest_of_cells h2
  obtain ⟨va, e3, ly, _⟩ := digest_of_cells h3
  rw [List.drop_zero] at h0
  obtain ⟨c0, e0⟩ : ∃ c, l.take 1 = [c] := by
    match l, hl with
    | c :: r, _ => exact ⟨c, rfl⟩
  rw [e0] at h0
  obtain ⟨ad, n0, cp, rfl⟩ : ∃ ad n cp, c0 = .slice ad n cp := by
    rcases Go.Deep.open_slice Try.underlying26 h0 with ⟨hcs', _⟩ | ⟨a, len', cap', m', n', D, Pl, hcs', _⟩
    · exact ⟨none, 0, 0, by simpa using hcs'⟩
    · exact ⟨some a, len', cap', by simpa using hcs'⟩
  obtain ⟨ds, hr, hbl, _⟩ := readsD_of_cells h0
  refine ⟨_, ds, m, ix, va, ?_, hr, ⟨⟨lx, ly⟩, ⟨(bounds_i64 hw).1, by have := (bounds_i64 hw).2; omega⟩, ?_⟩, hp⟩
  · congr 1
    rw [d0, d1, d2, d3, e0, e1, e2, e3]
    rfl
  · simp only [Prod.mk.injEq] at hx
    rw [hx.1]
    simp only [Rows.uptoBulk, Rows.uptoBulkAll]
    omega
end Go.Proofs.Ytldbcglakeggaaa

/- What a request and a signed root that came in give: their parts. -/
import Derived.Test.YtldbcglakeggaaaOpenR
import Derived.ChangeSame
namespace Go.Proofs.Ytldbcglakeggaaa
open Go.ChangeShapes Go.WideShapes Go.ChangeAt Go.WideMaps Go.WideElems Go.RowKit
set_option maxRecDepth 100000 in
theorem readable_request : Try.prog.readableRec 38 = true := by kernel_rfl
set_option maxRecDepth 100000 in
theorem row_request : 38 < Try.prog.types.size := of_decide_eq_true (by kernel_rfl)
set_option maxRecDepth 100000 in
theorem cells_request : Try.prog.cellsOf 38 = 35 := by kernel_rfl
set_option maxRecDepth 100000 in
theorem readable_signed : Try.prog.readableRec 42 = true := by kernel_rfl
set_option maxRecDepth 100000 in
theorem row_signed : 42 < Try.prog.types.size := of_decide_eq_true (by kernel_rfl)
set_option maxRecDepth 100000 in
theorem cells_signed : Try.prog.cellsOf 42 = 98 := by kernel_rfl
set_option maxRecDepth 100000 in
theorem cells_root : Try.prog.cellsOf 40 = 97 := by kernel_rfl
theorem take_one {l : List Value} {k n : Nat} (hl : l.length = n) (hk : k < n) : ∃ c, (l.drop k).take 1 = [c] := by
  have h : (l.drop k).length = n - k := by rw [List.length_drop, hl]
  match hq : l.drop k, h with
  | [], h => simp at h; omega
  | c :: r, _ => exact ⟨c, rfl⟩
set_option maxRecDepth 100000 in
theorem request_of_trod {H : Type} {enc : TypeId × Value → H} {W : World} {base : Nat} {v : Value} {d : DataW H} {p : List MemPlace} (hval : Value.okWide Try.prog W .any base 38 v)
    (h : DataW.Trod enc Try.prog W 0 (fun _ => true) true 38 v d p) :
    ∃ kd nm vk ky au, v = .agg (reqV kd nm vk au).toArray ∧ Reads W vk ky ∧ au.length = 32 ∧ ∀ q ∈ p, q.block < W.heap.size := by
  simp only [Value.okWide, Try.underlying38] at hval
  obtain ⟨cs, rfl, hcs, _⟩ := hval
  obtain ⟨fuel, hf⟩ := h
  have hp := DataW.trod_lt _ _ _ _ hf
  obtain ⟨y0, y1, y2, y3, n, hx, hl, h0, h1, h2, h3⟩ := Go.Joins.trod_struct4 Try.underlying38 hf
  simp only [Value.cells] at hl h0 h1 h2 h3
  rw [cells_request] at hl
  rw [cells_int1] at h0
  rw [cells_string] at h1
  rw [cells_bytes1] at h2
  rw [cells_digest] at h3
  obtain ⟨l⟩ := cs
  simp only at hl h0 h1 h2 h3
  have d0 : l = l.take 1 ++ l.drop 1 := (List.take_append_drop 1 l).symm
  have d1 : l.drop 1 = (l.drop 1).take 1 ++ l.drop 2 := by
    have := (List.take_append_drop 1 (l.drop 1)).symm
    rwa [List.drop_drop] at this
  have d2 : l.drop 2 = (l.drop 2).take 1 ++ l.drop 3 := by
    have := (List.take_append_drop 1 (l.drop 2)).symm
    rwa [List.drop_drop] at this
  have d3 : l.drop 3 = (l.drop 3).take 32 := by rw [List.take_of_length_le (by rw [List.length_drop]; omega)]
  rw [List.drop_zero] at h0
  obtain ⟨m, e0, _, hw⟩ := DataW.trod_int Try.underlying3 h0
  obtain ⟨s, e1, _, _⟩ := DataW.trod_string Try.underlying9 h1
  obtain ⟨nm, rfl⟩ := strB_of s
  obtain ⟨c2, e2⟩ := take_one (k := 2) hl (by omega)
  rw [e2] at h2
  obtain ⟨ky, hr⟩ := reads_of_cells0 (v := c2) h2
  obtain ⟨z3, q3⟩ := y3
  obtain ⟨au, e3, la, _⟩ := digest_of_cells h3
  refine ⟨m, nm, c2, ky, au, ?_, hr, la, hp⟩
  congr 1
  rw [d0, d1, d2, d3, e0, e1, e2, e3]
  rfl
set_option maxRecDepth 100000 in
theorem signed_of_trod {H : Type} {enc : TypeId × Value → H} {W : World} {base : Nat} {v : Value} {d : DataW H} {p : List MemPlace} (hval : Value.okWide Try.prog W .any base 42 v)
    (h : DataW.Trod enc Try.prog W 0 (fun _ => true) true 42 v d p) :
    ∃ ep x y z vs sg, v = .agg (sgnV ep x y z vs).toArray ∧ Reads W vs sg ∧ (ep < 18446744073709551616 ∧ x.length = 32 ∧ y.length = 32 ∧ z.length = 32) ∧ ∀ q ∈ p, q.block < W.heap.size := by
  simp only [Value.okWide, Try.underlying42] at hval
  obtain ⟨cs, rfl, hcs, _⟩ := hval
  obtain ⟨fuel, hf⟩ := h
  have hp := DataW.trod_lt _ _ _ _ hf
  obtain ⟨y0, y1, n, hx, hl, h0, h1⟩ := Go.ChangeShapes.trod_struct2 Try.underlying42 hf
  simp only [Value.cells] at hl h0 h1
  rw [cells_signed] at hl
  rw [cells_root] at h0
  rw [cells_bytes1] at h1
  obtain ⟨l⟩ := cs
  simp only at hl h0 h1
  obtain ⟨c, e1⟩ := take_one (k := 97) hl (by omega)
  rw [e1] at h1
  obtain ⟨sg, hr⟩ := reads_of_cells0 (v := c) h1
  obtain ⟨r0, r1, r2, r3, n', hx', hl', k0, k1, k2, k3⟩ := Go.Joins.trod_struct4 Try.underlying40 h0
  rw [cells_u64] at k0
  rw [cells_digest] at k1 k2 k3
  obtain ⟨m, e0, _, hw⟩ := DataW.trod_int Try.underlying23 k0
  obtain ⟨a1, b1⟩ := r1
  obtain ⟨a2, b2⟩ := r2
  obtain ⟨a3, b3⟩ := r3
  obtain ⟨x, f1, lx, _⟩ := digest_of_cells k1
  obtain ⟨y, f2, ly, _⟩ := digest_of_cells k2
  obtain ⟨z, f3, lz, _⟩ := digest_of_cells k3
  have hb := bounds_u64 hw
  obtain ⟨r, hr0⟩ : ∃ r, r = (l.drop 0).take 97 := ⟨_, rfl⟩
  rw [← hr0] at e0 f1 f2 f3 hl'
  rw [cells_root] at hl'
  have d1 : r = r.take 1 ++ r.drop 1 := (List.take_append_drop 1 r).symm
  have d2 : r.drop 1 = (r.drop 1).take 32 ++ r.drop 33 := by
    have := (List.take_append_drop 32 (r.drop 1)).symm
    rwa [List.drop_drop] at this
  have d3 : r.drop 33 = (r.drop 33).take 32 ++ r.drop 65 := by
    have := (List.take_append_drop 32 (r.drop 33)).symm
    rwa [List.drop_drop] at this
  have d4 : r.drop 65 = (r.drop 65).take 32 := by
    rw [List.take_of_length_le (by rw [List.length_drop]; omega)]
  rw [List.drop_zero] at e0
  have hrr : r = .int .u64 m :: (cb x ++ (cb y ++ cb z)) := by
    rw [d1, d2, d3, d4, e0, f1, f2, f3]; rfl
  have dl : l = l.take 97 ++ l.drop 97 := (List.take_append_drop 97 l).symm
  have d97 : l.drop 97 = (l.drop 97).take 1 := by rw [List.take_of_length_le (by rw [List.length_drop]; omega)]
  rw [List.drop_zero] at hr0
  refine ⟨m.toNat, x, y, z, c, sg, ?_, hr, ⟨by omega, lx, ly, lz⟩, hp⟩
  congr 1
  rw [dl, ← hr0, d97, e1, hrr]
  unfold sgnV
  rw [Int.toNat_of_nonneg (by omega)]
  simp
end Go.Proofs.Ytldbcglakeggaaa

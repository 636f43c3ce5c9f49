/- What a slice of ints and a slice of acts that came in give (layer 13). -/
import Derived.Test.YtdllnedmhhajnaaOpenC
import Derived.Test.YtdllnedmhhajnaaDkTo
import Derived.ChangeSame
import Derived.Deep.Strs
import Derived.Lib.SmallJoins
namespace Go.Proofs.Ytdllnedmhhajnaa
open Go.ChangeShapes Go.WideShapes Go.ChangeAt Go.WideMaps Go.WideElems Go.RowKit
set_option maxRecDepth 100000
set_option maxRecDepth 100000 in
theorem cells_int13 : Try.prog.cellsOf 3 = 1 := by kernel_rfl
set_option maxRecDepth 100000 in
theorem cells_ints : Try.prog.cellsOf 34 = 1 := by kernel_rfl
set_option maxRecDepth 100000 in
theorem cells_op13 : Try.prog.cellsOf 36 = 5 := by kernel_rfl
set_option maxRecDepth 100000 in
theorem readable_ints : Try.prog.readableRec 34 = true := by kernel_rfl
set_option maxRecDepth 100000 in
theorem row_ints : 34 < Try.prog.types.size := of_decide_eq_true (by kernel_rfl)
set_option maxRecDepth 100000 in
theorem readable_ops13 : Try.prog.readableRec 22 = true := by kernel_rfl
set_option maxRecDepth 100000 in
theorem row_ops13 : 22 < Try.prog.types.size := of_decide_eq_true (by kernel_rfl)
theorem readsI_of_cells {H : Type} {enc : TypeId × Value → H} {W : World} {v : Value} {y : DataW H × List MemPlace} {fuel : Nat} (hf : DataW.trod enc Try.prog W 0 (fun _ => true) true fuel 34 [v] = some y) :
    ∃ ns, ReadsI W v ns := by
  rcases open_ints Try.underlying34 Try.underlying3 cells_int13 hf with ⟨hcs, hx⟩ | ⟨a, len, cap, zs, hcs, _, hl, hm, hz, hx, hcell, hwz⟩
  · simp only [List.cons.injEq, and_true] at hcs
    subst hcs
    exact ⟨[], none, 0, rfl, Nat.le_refl _, fun h => by cases h⟩
  · simp only [List.cons.injEq, and_true] at hcs
    subst hcs
    simp only [if_true] at hz
    have hlen : (zs.take len).length = len := by simp; omega
    obtain ⟨ab, ao, spot⟩ := a
    refine ⟨zs.take len, some ⟨ab, ao, spot⟩, cap, by rw [hlen], by rw [hlen]; exact hl, fun hp => ?_⟩
    rw [hlen] at hp ⊢
    have hspot : spot = none := by simpa [Addr.add] using World.cell?_spot (hcell 0 (by omega))
    subst hspot
    refine ⟨ab, ao, rfl, fun j hj => ?_⟩
    have hcj := hcell j (by omega)
    rw [Addr.add_lit] at hcj
    rw [hcj]
    have e : (zs.take len).getD j 0 = zs.getD j 0 := by
      rw [List.getD_eq_getElem?_getD, List.getElem?_take_of_lt hj, List.getD_eq_getElem?_getD]
    rw [e]
theorem readsI_of_trod {H : Type} {enc : TypeId × Value → H} {W : World} {base : Nat} {v : Value} {d : DataW H} {p : List MemPlace} (hval : Value.okWide Try.prog W .any base 34 v)
    (h : DataW.Trod enc Try.prog W 0 (fun _ => true) true 34 v d p) :
    ∃ ns, ReadsI W v ns ∧ ∀ x ∈ p, x.block < W.heap.size := by
  obtain ⟨a1, len, cap, rfl⟩ := okWide_slice Try.underlying34 hval
  obtain ⟨fuel, hf⟩ := h
  have hp0 := DataW.trod_lt _ _ _ _ hf
  obtain ⟨ns, h1⟩ := readsI_of_cells (v := .slice a1 len cap) hf
  exact ⟨ns, h1, hp0⟩
theorem take_one13 {l : List Value} {k n : Nat} (hl : l.length = n) (hk : k < n) : ∃ c, (l.drop k).take 1 = [c] := by
  have h : (l.drop k).length = n - k := by rw [List.length_drop, hl]
  match hq : l.drop k, h with
  | [], h => simp at h; omega
  | c :: r, _ => exact ⟨c, rfl⟩
set_option maxRecDepth 100000 in
theorem op_of_cells {H : Type} {enc : TypeId × Value → H} {W : World} {l : List Value} {y : DataW H × List MemPlace} {fuel : Nat} (hf : DataW.trod enc Try.prog W 0 (fun _ => true) true fuel 36 l = some y) :
    ∃ (o : OpT) (c : Value), l = opC o c ∧ ReadsI W c o.keep ∧ o.n < 9223372036854775808 := by
  obtain ⟨xs, n, _, _, hl, hlen, hg⟩ := DataW.trod_struct Try.underlying36 hf
  rw [cells_op13] at hl
  match l, hl with
  | [c0, c1, c2, c3, c4], _ =>
    match xs, hlen with
    | [y0, y1, y2, y3, y4], _ =>
      have k0 : DataW.trod enc Try.prog W 0 (fun _ => true) true n 3 [c0] = some y0 := by simpa [cells_int13] using hg 0 _ rfl
      have k1 : DataW.trod enc Try.prog W 0 (fun _ => true) true n 3 [c1] = some y1 := by simpa [cells_int13] using hg 1 _ rfl
      have k2 : DataW.trod enc Try.prog W 0 (fun _ => true) true n 3 [c2] = some y2 := by simpa [cells_int13] using hg 2 _ rfl
      have k3 : DataW.trod enc Try.prog W 0 (fun _ => true) true n 5 [c3] = some y3 := by simpa [cells_byte] using hg 3 _ rfl
      have k4 : DataW.trod enc Try.prog W 0 (fun _ => true) true n 34 [c4] = some y4 := by simpa [cells_ints] using hg 4 _ rfl
      obtain ⟨m0, e0, _, w0⟩ := DataW.trod_int Try.underlying3 k0
      obtain ⟨m1, e1, _, w1⟩ := DataW.trod_int Try.underlying3 k1
      obtain ⟨m2, e2, _, w2⟩ := DataW.trod_int Try.underlying3 k2
      obtain ⟨m3, e3, _, w3⟩ := DataW.trod_int Try.underlying5 k3
      obtain ⟨ns, h4⟩ := readsI_of_cells k4
      have b2 := bounds_i64 w2
      have b3 := bounds_u8 w3
      simp only [List.cons.injEq, and_true] at e0 e1 e2 e3
      refine ⟨⟨m0, m1, m2, BitVec.ofInt 8 m3, ns⟩, c4, ?_, h4, by show m2 < _; omega⟩
      rw [opC, e0, e1, e2, e3]
      simp only [BitVec.toNat_ofInt]
      have : ((m3 % ((2 ^ 8 : Nat) : Int)).toNat : Int) = m3 := by omega
      rw [this]
theorem readsO_of_trod {H : Type} {enc : TypeId × Value → H} {W : World} {base : Nat} {v : Value} {d : DataW H} {p : List MemPlace} (hval : Value.okWide Try.prog W .any base 22 v)
    (h : DataW.Trod enc Try.prog W 0 (fun _ => true) true 22 v d p) :
    ∃ l, ReadsO W v l ∧ ∀ x ∈ p, x.block < W.heap.size := by
  obtain ⟨a1, len, cap, rfl⟩ := okWide_slice Try.underlying22 hval
  obtain ⟨fuel, hf⟩ := h
  have hp0 := DataW.trod_lt _ _ _ _ hf
  rcases Go.Deep.open_slice Try.underlying22 hf with ⟨hcs, hx⟩ | ⟨a, len', cap', m, n, D, Pl, hcs, _, hl, hm, hmm, hx, hV⟩
  · simp [Value.cells] at hcs
    obtain ⟨rfl, rfl, rfl⟩ := hcs
    exact ⟨[], ⟨none, 0, rfl, fun h => by cases h⟩, hp0⟩
  · simp [Value.cells] at hcs
    obtain ⟨rfl, rfl, rfl⟩ := hcs
    simp only [if_true] at hmm
    subst hmm
    rw [cells_op13] at hV
    have : Inhabited (OpT × Value) := ⟨(zeroO, .int .i64 0)⟩
    obtain ⟨B, hB⟩ := Go.Deep.choose_lt (α := OpT × Value) (p := fun i q => W.cells? 0 (a.add (i * 5)) 5 = some (opC q.1 q.2) ∧ ReadsI W q.2 q.1.keep ∧ q.1.n < 9223372036854775808) (fun i hi => by
      obtain ⟨cs', h1, h2⟩ := hV i hi
      obtain ⟨s, c, rfl, h3, h4⟩ := op_of_cells h2
      exact ⟨(s, c), h1, h3, h4⟩)
    have hlen : ((List.range len).map fun i => (B i).1).length = len := by simp
    obtain ⟨ab, ao, spot⟩ := a
    have cell : ∀ i, i < m → ∀ j, j < 5 → W.cell? ((⟨ab, ao, spot⟩ : Addr).add (i * 5 + j)) = (opC (B i).1 (B i).2)[j]? := by
      intro i hi j hj
      obtain ⟨h1, _, _⟩ := hB i hi
      obtain ⟨_, _, h4⟩ := World.cells?_some h1
      have := h4 j hj
      rw [Go.Deep.add_add] at this
      exact this
    have hspot : 0 < m → spot = none := fun hp => by
      have h := cell 0 hp 0 (by omega)
      rw [show (opC (B 0).1 (B 0).2)[0]? = some (.int .i64 (B 0).1.kind) from rfl] at h
      simpa [Addr.add] using World.cell?_spot h
    refine ⟨(List.range len).map fun i => (B i).1, ⟨some ⟨ab, ao, spot⟩, m, by rw [hlen], fun hp => ?_⟩, hp0⟩
    rw [hlen] at hp ⊢
    have hs := hspot (by omega)
    subst hs
    refine ⟨ab, ao, rfl, fun j hj => ?_⟩
    have e : ((List.range len).map fun i => (B i).1).getD j zeroO = (B j).1 := by simp [hj]
    rw [e]
    refine ⟨(B j).2, fun i v hv => ?_, (hB j (by omega)).2⟩
    have hi : i < 5 := (List.getElem?_eq_some_iff.1 hv).1
    have h := cell j (by omega) i hi
    rw [hv, Addr.add_lit] at h
    rw [Nat.add_assoc]; exact h
end Go.Proofs.Ytdllnedmhhajnaa

/- What a binding, a root and a pair of digests that came in give: their parts. -/
import Derived.Test.YtaleeaocmomjlaaDoorOpenD
import Derived.Test.YtaleeaocmomjlaaDoorTagged
import Derived.Deep.Strs
import Derived.Lib.SmallJoins
namespace Go.Proofs.YtaleeaocmomjlaaDoor
open Go.ChangeShapes Go.WideShapes Go.ChangeAt Go.WideMaps Go.WideElems Go.RowKit
theorem readable_binding : Tryd.prog.readableRec 27 = true := by kernel_rfl
theorem row_binding : 27 < Tryd.prog.types.size := of_decide_eq_true (by kernel_rfl)
theorem readable_root : Tryd.prog.readableRec 29 = true := by kernel_rfl
theorem row_root : 29 < Tryd.prog.types.size := of_decide_eq_true (by kernel_rfl)
theorem readable_pair : Tryd.prog.readableRec 43 = true := by kernel_rfl
theorem row_pair : 43 < Tryd.prog.types.size := of_decide_eq_true (by kernel_rfl)
theorem cells_pair : Tryd.prog.cellsOf 43 = 64 := by kernel_rfl
theorem cells_root : Tryd.prog.cellsOf 29 = 97 := by kernel_rfl
theorem cells_binding : Tryd.prog.cellsOf 27 = 3 := by kernel_rfl
theorem cells_string : Tryd.prog.cellsOf 9 = 1 := by kernel_rfl
theorem cells_u64 : Tryd.prog.cellsOf 25 = 1 := by kernel_rfl
theorem cells_bytes1 : Tryd.prog.cellsOf 24 = 1 := by kernel_rfl
theorem digest_of_cells {H : Type} {enc : TypeId × Value → H} {W : World} {fuel : Nat} {cs : List Value} {y : DataW H × List MemPlace} (hf : DataW.trod enc Tryd.prog W 0 (fun _ => true) true fuel 23 cs = some y) :
    ∃ dg, cs = cb dg ∧ dg.length = 32 := by
  obtain ⟨xs, m, _, hx, hl, hn, hi⟩ := DataW.trod_array Tryd.underlying23 hf
  rw [cells_digest] at hl
  rw [cells_byte] at hi
  have each : ∀ i, i < 32 → ∃ n, cs[i]? = some (.int .u8 n) ∧ (Lit.int .u8 n).wf = true := by
    intro i h32
    have h1 := hi i h32
    rw [List.getElem?_eq_getElem (by omega)] at h1
    obtain ⟨n, hc, _, hw⟩ := DataW.trod_int Tryd.underlying5 h1
    refine ⟨n, ?_, hw⟩
    rw [Nat.mul_one] at hc
    have h2 := congrArg (fun l => l[0]?) hc
    simpa using h2
  have hlen : (cs.map numOf8).length = 32 := by simpa using hl
  refine ⟨cs.map numOf8, ?_, hlen⟩
  apply List.ext_getElem?
  intro i
  by_cases h32 : i < 32
  · obtain ⟨n, h1, hw⟩ := each i h32
    have hb := bounds_u8 hw
    rw [h1, cb_get _ _ (by omega), List.getD_eq_getElem?_getD, List.getElem?_map, h1]
    simp only [Option.map_some, Option.getD_some, numOf8, BitVec.toNat_ofInt]
    congr 2
    omega
  · rw [List.getElem?_eq_none (by omega), List.getElem?_eq_none (by rw [cb_len]; omega)]
theorem strB_of (s : ByteArray) : ∃ nm, s = strB nm := by
  refine ⟨s.data.toList.map fun b => BitVec.ofNat 8 b.toNat, ?_⟩
  have h := strB_data (s.data.toList.map fun b => BitVec.ofNat 8 b.toNat)
  have h2 : (s.data.toList.map fun b => BitVec.ofNat 8 b.toNat).map (fun b => UInt8.ofNat b.toNat) = s.data.toList := by
    rw [List.map_map]
    have : ((fun b : BitVec 8 => UInt8.ofNat b.toNat) ∘ fun b : UInt8 => BitVec.ofNat 8 b.toNat) = id := by
      funext b
      simp only [Function.comp, BitVec.toNat_ofNat, id]
      have := b.toNat_lt
      rw [Nat.mod_eq_of_lt (by omega)]
      simp
    rw [this, List.map_id]
  rw [h2] at h
  obtain ⟨d⟩ := s
  generalize strB _ = t at *
  obtain ⟨e⟩ := t
  simp only at h
  rw [Array.ext' h]
theorem reads_of_cells0 {H : Type} {enc : TypeId × Value → H} {W : World} {v : Value} {y : DataW H × List MemPlace} {fuel : Nat} (hf : DataW.trod enc Tryd.prog W 0 (fun _ => true) true fuel 24 [v] = some y) :
    ∃ bs, Reads W v bs := by
  rcases open_ints Tryd.underlying24 Tryd.underlying5 cells_byte hf with ⟨hcs, hx⟩ | ⟨a, len, cap, zs, hcs, _, hl, hm, hz, hx, hcell, hwz⟩
  · simp only [List.cons.injEq, and_true] at hcs
    subst hcs
    exact ⟨[], ⟨none, 0, rfl, Nat.le_refl _, fun _ => rfl, fun h => by cases h⟩⟩
  · simp only [List.cons.injEq, and_true] at hcs
    subst hcs
    simp only [if_true] at hz
    have hlen : ((zs.take len).map fun n => BitVec.ofInt 8 n).length = len := by simp; omega
    obtain ⟨ab, ao, spot⟩ := a
    refine ⟨(zs.take len).map fun n => BitVec.ofInt 8 n, ⟨some ⟨ab, ao, spot⟩, cap, by rw [hlen], by rw [hlen]; exact hl, (fun h => by cases h), fun hp => ?_⟩⟩
    rw [hlen] at hp ⊢
    have hspot : spot = none := by simpa [Addr.add] using World.cell?_spot (hcell 0 (by omega))
    subst hspot
    refine ⟨ab, ao, rfl, fun j hj => ?_⟩
    have hcj := hcell j (by omega)
    rw [Addr.add_lit] at hcj
    rw [hcj]
    have hb := byte_range hwz j
    have e : ((zs.take len).map fun n => BitVec.ofInt 8 n).getD j 0 = BitVec.ofInt 8 (zs.getD j 0) := by
      rw [List.getD_eq_getElem?_getD, List.getElem?_map, List.getElem?_take_of_lt hj, List.getD_eq_getElem?_getD, List.getElem?_eq_getElem (show j < zs.length by omega)]
      rfl
    rw [e, BitVec.toNat_ofInt]
    congr 2
    omega
theorem binding_of_trod {H : Type} {enc : TypeId × Value → H} {W : World} {base : Nat} {v : Value} {d : DataW H} {p : List MemPlace} (hval : Value.okWide Tryd.prog W .any base 27 v)
    (h : DataW.Trod enc Tryd.prog W 0 (fun _ => true) true 27 v d p) :
    ∃ nm vk ky sr, v = .agg #[.string (strB nm), vk, .int .u64 ((sr : Nat) : Int)] ∧ Reads W vk ky ∧ sr < 18446744073709551616 ∧ ∀ x ∈ p, x.block < W.heap.size := by
  simp only [Value.okWide, Tryd.underlying27] at hval
  obtain ⟨cs, rfl, hcs, _⟩ := hval
  obtain ⟨fuel, hf⟩ := h
  have hp := DataW.trod_lt _ _ _ _ hf
  obtain ⟨y0, y1, y2, n, hx, hl, h0, h1, h2⟩ := Go.Deep.trod_struct3 Tryd.underlying27 hf
  simp only [Value.cells] at hl h0 h1 h2
  rw [cells_binding] at hl
  rw [cells_string] at h0
  rw [cells_bytes1] at h1
  rw [cells_u64] at h2
  obtain ⟨l⟩ := cs
  match l, hl with
  | [c0, c1, c2], _ =>
    obtain ⟨s, e0, _, _⟩ := DataW.trod_string Tryd.underlying9 h0
    obtain ⟨bs, hr⟩ := reads_of_cells0 (v := c1) h1
    obtain ⟨m, e2, _, hw⟩ := DataW.trod_int Tryd.underlying25 h2
    simp at e0 e2
    subst e0 e2
    obtain ⟨nm, rfl⟩ := strB_of s
    have hb := bounds_u64 hw
    refine ⟨nm, c1, bs, m.toNat, ?_, hr, by omega, hp⟩
    rw [Int.toNat_of_nonneg (by omega)]
theorem root_of_trod {H : Type} {enc : TypeId × Value → H} {W : World} {base : Nat} {v : Value} {d : DataW H} {p : List MemPlace} (hval : Value.okWide Tryd.prog W .any base 29 v)
    (h : DataW.Trod enc Tryd.prog W 0 (fun _ => true) true 29 v d p) :
    ∃ sr x y z, v = .agg (Value.int .u64 ((sr : Nat) : Int) :: (cb x ++ (cb y ++ cb z))).toArray ∧ (x.length = 32 ∧ y.length = 32 ∧ z.length = 32 ∧ sr < 18446744073709551616) ∧ ∀ q ∈ p, q.block < W.heap.size := by
  simp only [Value.okWide, Tryd.underlying29] at hval
  obtain ⟨cs, rfl, hcs, _⟩ := hval
  obtain ⟨fuel, hf⟩ := h
  have hp := DataW.trod_lt _ _ _ _ hf
  obtain ⟨y0, y1, y2, y3, n, hx, hl, h0, h1, h2, h3⟩ := Go.Joins.trod_struct4 Tryd.underlying29 hf
  simp only [Value.cells] at hl h0 h1 h2 h3
  rw [cells_root] at hl
  rw [cells_u64] at h0
  rw [cells_digest] at h1 h2 h3
  obtain ⟨l⟩ := cs
  simp only at hl h0 h1 h2 h3
  obtain ⟨m, e0, _, hw⟩ := DataW.trod_int Tryd.underlying25 h0
  obtain ⟨x, e1, lx⟩ := digest_of_cells h1
  obtain ⟨y, e2, ly⟩ := digest_of_cells h2
  obtain ⟨z, e3, lz⟩ := digest_of_cells h3
  have hb := bounds_u64 hw
  refine ⟨m.toNat, x, y, z, ?_, ⟨lx, ly, lz, by omega⟩, hp⟩
  rw [Int.toNat_of_nonneg (by omega), ← e1, ← e2, ← e3]
  congr 2
  have d1 : l = l.take 1 ++ l.drop 1 := (List.take_append_drop 1 l).symm
  have d2 : l.drop 1 = (l.drop 1).take 32 ++ l.drop 33 := by
    have := (List.take_append_drop 32 (l.drop 1)).symm
    rwa [List.drop_drop] at this
  have d3 : l.drop 33 = (l.drop 33).take 32 ++ l.drop 65 := by
    have := (List.take_append_drop 32 (l.drop 33)).symm
    rwa [List.drop_drop] at this
  have d4 : l.drop 65 = (l.drop 65).take 32 := by
    rw [List.take_of_length_le (by rw [List.length_drop]; omega)]
  rw [List.drop_zero] at e0
  rw [← d4, ← d3, ← d2]
  rw [e0] at d1
  exact d1
theorem pair_of_trod {H : Type} {enc : TypeId × Value → H} {W : World} {base : Nat} {v : Value} {d : DataW H} {p : List MemPlace} (hval : Value.okWide Tryd.prog W .any base 43 v)
    (h : DataW.Trod enc Tryd.prog W 0 (fun _ => true) true 43 v d p) :
    ∃ x y, v = .agg (cb x ++ cb y).toArray ∧ (x.length = 32 ∧ y.length = 32) ∧ ∀ q ∈ p, q.block < W.heap.size := by
  simp only [Value.okWide, Tryd.underlying43] at hval
  obtain ⟨cs, rfl, hcs, _⟩ := hval
  obtain ⟨fuel, hf⟩ := h
  have hp := DataW.trod_lt _ _ _ _ hf
  obtain ⟨xs, m, _, hx, hl, hn, hi⟩ := DataW.trod_array Tryd.underlying43 hf
  simp only [Value.cells] at hl hi
  rw [cells_pair] at hl
  rw [cells_digest] at hi
  have h0 := hi 0 (by omega)
  have h1 := hi 1 (by omega)
  rw [List.getElem?_eq_getElem (by omega)] at h0 h1
  obtain ⟨l⟩ := cs
  simp only [Nat.zero_mul, Nat.one_mul, List.drop_zero] at hl h0 h1
  obtain ⟨x, e0, lx⟩ := digest_of_cells h0
  obtain ⟨y, e1, ly⟩ := digest_of_cells h1
  refine ⟨x, y, ?_, ⟨lx, ly⟩, hp⟩
  rw [← e0, ← e1, List.take_of_length_le (l := l.drop 32) (by rw [List.length_drop]; omega), List.take_append_drop]
end Go.Proofs.YtaleeaocmomjlaaDoor

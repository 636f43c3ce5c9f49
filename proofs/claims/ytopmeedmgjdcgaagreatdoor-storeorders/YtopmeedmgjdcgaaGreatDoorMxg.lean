/- What a slice of acts and bytes that came in give, with their sizes (layer 15). -/
import Derived.Test.YtopmeedmgjdcgaaGreatDoorMxf
import Derived.Test.YtopmeedmgjdcgaaGreatDoorMxe
import Derived.Deep.Slices
import Derived.Deep.Strs
import Derived.Lib.SmallJoins
namespace Go.Proofs.YtopmeedmgjdcgaaGreatDoor
open Go.ChangeShapes Go.WideShapes Go.ChangeAt Go.WideMaps Go.WideElems Go.RowKit
set_option maxRecDepth 100000
theorem cells_bytesJ : Tryz.prog.cellsOf 23 = 1 := by kernel_rfl
theorem cells_boolJ : Tryz.prog.cellsOf 4 = 1 := by kernel_rfl
theorem cells_str15 : Tryz.prog.cellsOf 9 = 1 := by kernel_rfl
theorem cells_act15 : Tryz.prog.cellsOf 62 = 3 := by kernel_rfl
theorem readable_acts15 : Tryz.prog.readableRec 22 = true := by kernel_rfl
theorem row_acts15 : 22 < Tryz.prog.types.size := of_decide_eq_true (by kernel_rfl)
theorem bytes_byteJ : Tryz.prog.bytesOf 5 = 1 := by kernel_rfl
theorem bytes_act15 : Tryz.prog.bytesOf 62 = 48 := by kernel_rfl
theorem weightsAll_memJ {H : Type} {P : Program} {e : TypeId} {q : Nat → Bool} : ∀ (l : List (DataW H)), (DataW.weightsAll P e l).all q = true → ∀ d ∈ l, (d.weights P e).all q = true
  | [], _, _, h => by cases h
  | x :: r, hl, d, h => by
    rw [DataW.weightsAll, List.all_append, Bool.and_eq_true] at hl
    rcases List.mem_cons.1 h with rfl | h
    · exact hl.1
    · exact weightsAll_memJ r hl.2 d h
theorem reads_sizedJ {H : Type} {enc : TypeId × Value → H} {W : World} {v : Value} {d : DataW H} {p : List MemPlace} {fuel : Nat} (hf : DataW.trod enc Tryz.prog W 0 (fun _ => true) true fuel 23 [v] = some (d, p)) :
    ∃ bs, Reads W v bs ∧ (∀ N, (d.weights Tryz.prog 23).all (· ≤ N) = true → bs.length ≤ N) := by
  rcases open_ints Tryz.underlying23 Tryz.underlying5 cells_byte hf with ⟨hcs, hx⟩ | ⟨a, len, cap, zs, hcs, _, hl, hm, hz, hx, hcell, hwz⟩
  · simp only [List.cons.injEq, and_true] at hcs
    subst hcs
    exact ⟨[], ⟨none, 0, rfl, Nat.le_refl _, fun _ => rfl, fun h => by cases h⟩, fun _ _ => Nat.zero_le _⟩
  · simp only [List.cons.injEq, and_true] at hcs
    subst hcs
    simp only [Prod.mk.injEq] at hx
    obtain ⟨rfl, rfl⟩ := hx
    simp only [if_true] at hz
    have hlen : ((zs.take len).map fun n => BitVec.ofInt 8 n).length = len := by simp; omega
    obtain ⟨ab, ao, spot⟩ := a
    refine ⟨(zs.take len).map fun n => BitVec.ofInt 8 n, ⟨some ⟨ab, ao, spot⟩, cap, by rw [hlen], by rw [hlen]; exact hl, (fun h => by cases h), fun hp => ?_⟩, ?_⟩
    · rw [hlen] at hp ⊢
      have hspot : spot = none := by simpa [Addr.add] using World.cell?_spot (hcell 0 (by omega))
      subst hspot
      refine ⟨ab, ao, rfl, fun j hj => ?_⟩
      have hcj := hcell j (by omega)
      rw [Addr.add_lit] at hcj
      rw [hcj]
      have hb := byte_range hwz j
      have e : ((zs.take len).map fun n => BitVec.ofInt 8 n).getD j 0 = BitVec.ofInt 8 (zs.getD j 0) := by
        rw [List.getD_eq_getElem?_getD, List.getElem?_map, List.getElem?_take_of_lt hj, List.getD_eq_getElem?_getD, List.getElem?_eq_getElem (show j < zs.length by omega)]
        rfl
      rw [e, BitVec.toNat_ofInt]
      congr 2
      omega
    · intro N hN
      rw [hlen]
      rw [DataW.weights] at hN
      simp only [Tryz.underlying23, bytes_byteJ, Nat.mul_one, List.all_cons, Bool.and_eq_true, decide_eq_true_eq] at hN
      have h3 : (lits (H := H) .u8 (zs.take len)).length = len := by simp [lits]; omega
      have := hN.1
      omega
theorem strB_of (s : ByteArray) : ∃ nm, s = strB nm := by
  refine ⟨s.data.toList.map fun b => BitVec.ofNat 8 b.toNat, ?_⟩
  have h := strB_data (s.data.toList.map fun b => BitVec.ofNat 8 b.toNat)
  have h2 : (s.data.toList.map fun b => BitVec.ofNat 8 b.toNat).map (fun b => UInt8.ofNat b.toNat) = s.data.toList := by
    rw [List.map_map]
    have : ((fun b : BitVec 8 => UInt8.ofNat b.toNat) ∘ fun b : UInt8 => BitVec.ofNat 8 b.toNat) = id := by
      funext b
      simp only [Function.comp, BitVec.toNat_ofNat, id]
      have := b.toNat_lt
      rw [Nat.mod_eq_of_lt (by omega)]
      simp
    rw [this, List.map_id]
  rw [h2] at h
  obtain ⟨d⟩ := s
  generalize strB _ = t at *
  obtain ⟨e⟩ := t
  simp only at h
  rw [Array.ext' h]
theorem act_sized {H : Type} {enc : TypeId × Value → H} {W : World} {l : List Value} {d : DataW H} {p : List MemPlace} {fuel : Nat} (hf : DataW.trod enc Tryz.prog W 0 (fun _ => true) true fuel 62 l = some (d, p)) :
    ∃ (a : ActT) (vd : Value), l = actC a vd ∧ Reads W vd a.data ∧ (∀ N, (d.weights Tryz.prog 62).all (· ≤ N) = true → a.key.length ≤ N ∧ a.data.length ≤ N) := by
  obtain ⟨y0, y1, y2, n, hx, hl, h0, h1, h2⟩ := Go.Deep.trod_struct3 Tryz.underlying62 hf
  rw [cells_act15] at hl
  rw [cells_str15] at h0
  rw [cells_boolJ] at h1
  rw [cells_bytesJ] at h2
  match l, hl with
  | [c0, c1, c2], _ =>
    obtain ⟨s, e0, ex0, _⟩ := DataW.trod_string Tryz.underlying9 h0
    obtain ⟨b, e1, _⟩ := DataW.trod_bool Tryz.underlying4 h1
    obtain ⟨bs, hr, hbl⟩ := reads_sizedJ (v := c2) h2
    simp at e0 e1
    subst e0 e1
    obtain ⟨nm, rfl⟩ := strB_of s
    refine ⟨⟨nm, b, bs⟩, c2, rfl, hr, fun N hN => ?_⟩
    simp only [Prod.mk.injEq] at hx
    rw [hx.1, DataW.weights] at hN
    simp only [Tryz.underlying62, List.map_cons, List.map_nil, DataW.weightsEach, List.all_append, Bool.and_eq_true] at hN
    refine ⟨?_, hbl N hN.2.2.1⟩
    have h1 := hN.1
    rw [ex0] at h1
    simp only [DataW.weights, List.all_cons, List.all_nil, Bool.and_true, decide_eq_true_eq] at h1
    have h2 : (strB nm).size = nm.length := strB_size nm
    have h3 : (strB nm).data.toList.length = (strB nm).size := by rw [Array.length_toList]; rfl
    show List.length nm ≤ N
    omega
theorem acts15_sized {H : Type} {enc : TypeId × Value → H} {W : World} {base : Nat} {v : Value} {d : DataW H} {p : List MemPlace} (hval : Value.okWide Tryz.prog W .any base 22 v)
    (h : DataW.Trod enc Tryz.prog W 0 (fun _ => true) true 22 v d p) :
    ∃ l, ReadsA W v l ∧ (∀ N, (d.weights Tryz.prog 22).all (· ≤ N) = true → ∀ a ∈ l, a.key.length ≤ N ∧ a.data.length ≤ N) ∧ ∀ x ∈ p, x.block < W.heap.size := by
  obtain ⟨a1, len, cap, rfl⟩ := okWide_slice Tryz.underlying22 hval
  obtain ⟨fuel, hf⟩ := h
  have hp0 := DataW.trod_lt _ _ _ _ hf
  rcases Go.Deep.open_slice Tryz.underlying22 hf with ⟨hcs, hx⟩ | ⟨a, len', cap', m, n, D, Pl, hcs, _, hl, hm, hmm, hx, hV⟩
  · simp [Value.cells] at hcs
    obtain ⟨rfl, rfl, rfl⟩ := hcs
    exact ⟨[], ReadsA.nil _, (fun _ _ _ h => by cases h), hp0⟩
  · simp [Value.cells] at hcs
    obtain ⟨rfl, rfl, rfl⟩ := hcs
    simp only [Prod.mk.injEq] at hx
    obtain ⟨rfl, rfl⟩ := hx
    simp only [if_true] at hmm
    subst hmm
    rw [cells_act15] at hV
    have : Inhabited (ActT × Value) := ⟨(⟨[], false, []⟩, .int .i64 0)⟩
    obtain ⟨B, hB⟩ := Go.Deep.choose_lt (α := ActT × Value) (p := fun i q => W.cells? 0 (a.add (i * 3)) 3 = some (actC q.1 q.2) ∧ Reads W q.2 q.1.data ∧ (∀ N, ((D i).weights Tryz.prog 62).all (· ≤ N) = true → q.1.key.length ≤ N ∧ q.1.data.length ≤ N)) (fun i hi => by
      obtain ⟨cs', h1, h2⟩ := hV i hi
      obtain ⟨o, vB, rfl, h3, h4⟩ := act_sized h2
      exact ⟨(o, vB), h1, h3, h4⟩)
    have hlen : ((List.range len).map fun i => (B i).1).length = len := by simp
    obtain ⟨ab, ao, spot⟩ := a
    have cell : ∀ i, i < m → ∀ j, j < 3 → W.cell? ((⟨ab, ao, spot⟩ : Addr).add (i * 3 + j)) = (actC (B i).1 (B i).2)[j]? := by
      intro i hi j hj
      obtain ⟨h1, _⟩ := hB i hi
      obtain ⟨_, _, h4⟩ := World.cells?_some h1
      have := h4 j hj
      rw [Go.Deep.add_add] at this
      exact this
    have hspot : 0 < m → spot = none := fun hp => by
      have h := cell 0 hp 0 (by omega)
      rw [show (actC (B 0).1 (B 0).2)[0]? = some (.string (strB (B 0).1.key)) from rfl] at h
      simpa [Addr.add] using World.cell?_spot h
    refine ⟨(List.range len).map fun i => (B i).1, ⟨some ⟨ab, ao, spot⟩, m, by rw [hlen], by rw [hlen]; exact hl, (fun e => by cases e), fun hp => ?_⟩, ?_, hp0⟩
    · rw [hlen] at hp ⊢
      have hs := hspot (by omega)
      subst hs
      refine ⟨ab, ao, rfl, fun j hj => ?_⟩
      have e : ((List.range len).map fun i => (B i).1).getD j ⟨[], false, []⟩ = (B j).1 := by simp [hj]
      rw [e]
      refine ⟨(B j).2, fun i u hu => ?_, (hB j (by omega)).2.1⟩
      have hi : i < 3 := by have h := (List.getElem?_eq_some_iff.1 hu).1; exact h
      have h0 := cell j (by omega) i hi
      rw [Addr.add_lit, hu] at h0
      rw [Nat.add_assoc]
      exact h0
    · intro N hN o ho
      rw [DataW.weights] at hN
      simp only [Tryz.underlying22, bytes_act15, List.all_cons, List.all_append, Bool.and_eq_true, decide_eq_true_eq, List.length_map, List.length_range] at hN
      obtain ⟨i, hi, rfl⟩ := List.mem_map.1 ho
      have hi2 := List.mem_range.1 hi
      exact (hB i (by omega)).2.2 N (weightsAll_memJ _ hN.2.1 _ (List.mem_map_of_mem hi))
end Go.Proofs.YtopmeedmgjdcgaaGreatDoor

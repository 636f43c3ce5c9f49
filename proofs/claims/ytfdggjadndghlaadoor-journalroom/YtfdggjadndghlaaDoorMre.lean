/- What a slice of acts that came in gives, with its sizes (layer 14). -/
import Derived.Test.YtfdggjadndghlaaDoorMrd
import Derived.Deep.Slices
import Derived.Deep.Strs
import Derived.Lib.SmallJoins
namespace Go.Proofs.YtfdggjadndghlaaDoor
open Go.ChangeShapes Go.WideShapes Go.ChangeAt Go.WideMaps Go.WideElems Go.RowKit
set_option maxRecDepth 100000
theorem cells_bytesJ : Tryd.prog.cellsOf 22 = 1 := by kernel_rfl
theorem cells_bytessJ : Tryd.prog.cellsOf 25 = 1 := by kernel_rfl
theorem cells_boolJ : Tryd.prog.cellsOf 4 = 1 := by kernel_rfl
theorem cells_op14 : Tryd.prog.cellsOf 50 = 3 := by kernel_rfl
theorem readable_ops14 : Tryd.prog.readableRec 43 = true := by kernel_rfl
theorem row_ops14 : 43 < Tryd.prog.types.size := of_decide_eq_true (by kernel_rfl)
theorem bytes_byteJ : Tryd.prog.bytesOf 5 = 1 := by kernel_rfl
theorem bytes_bytesJ : Tryd.prog.bytesOf 22 = 24 := by kernel_rfl
theorem bytes_op14 : Tryd.prog.bytesOf 50 = 56 := by kernel_rfl
theorem weightsAll_memJ {H : Type} {P : Program} {e : TypeId} {q : Nat → Bool} : ∀ (l : List (DataW H)), (DataW.weightsAll P e l).all q = true → ∀ d ∈ l, (d.weights P e).all q = true
  | [], _, _, h => by cases h
  | x :: r, hl, d, h => by
    rw [DataW.weightsAll, List.all_append, Bool.and_eq_true] at hl
    rcases List.mem_cons.1 h with rfl | h
    · exact hl.1
    · exact weightsAll_memJ r hl.2 d h
theorem reads_sizedJ {H : Type} {enc : TypeId × Value → H} {W : World} {v : Value} {d : DataW H} {p : List MemPlace} {fuel : Nat} (hf : DataW.trod enc Tryd.prog W 0 (fun _ => true) true fuel 22 [v] = some (d, p)) :
    ∃ bs, Reads W v bs ∧ (∀ N, (d.weights Tryd.prog 22).all (· ≤ N) = true → bs.length ≤ N) := by
  rcases open_ints Tryd.underlying22 Tryd.underlying5 cells_byte hf with ⟨hcs, hx⟩ | ⟨a, len, cap, zs, hcs, _, hl, hm, hz, hx, hcell, hwz⟩
  · simp only [List.cons.injEq, and_true] at hcs
    subst hcs
    exact ⟨[], ⟨none, 0, rfl, Nat.le_refl _, fun _ => rfl, fun h => by cases h⟩, fun _ _ => Nat.zero_le _⟩
  · simp only [List.cons.injEq, and_true] at hcs
    subst hcs
    simp only [Prod.mk.injEq] at hx
    obtain ⟨rfl, rfl⟩ := hx
    simp only [if_true] at hz
    have hlen : ((zs.take len).map fun n => BitVec.ofInt 8 n).length = len := by simp; omega
    obtain ⟨ab, ao, spot⟩ := a
    refine ⟨(zs.take len).map fun n => BitVec.ofInt 8 n, ⟨some ⟨ab, ao, spot⟩, cap, by rw [hlen], by rw [hlen]; exact hl, (fun h => by cases h), fun hp => ?_⟩, ?_⟩
    · rw [hlen] at hp ⊢
      have hspot : spot = none := by simpa [Addr.add] using World.cell?_spot (hcell 0 (by omega))
      subst hspot
      refine ⟨ab, ao, rfl, fun j hj => ?_⟩
      have hcj := hcell j (by omega)
      rw [Addr.add_lit] at hcj
      rw [hcj]
      have hb := byte_range hwz j
      have e : ((zs.take len).map fun n => BitVec.ofInt 8 n).getD j 0 = BitVec.ofInt 8 (zs.getD j 0) := by
        rw [List.getD_eq_getElem?_getD, List.getElem?_map, List.getElem?_take_of_lt hj, List.getD_eq_getElem?_getD, List.getElem?_eq_getElem (show j < zs.length by omega)]
        rfl
      rw [e, BitVec.toNat_ofInt]
      congr 2
      omega
    · intro N hN
      rw [hlen]
      rw [DataW.weights] at hN
      simp only [Tryd.underlying22, bytes_byteJ, Nat.mul_one, List.all_cons, Bool.and_eq_true, decide_eq_true_eq] at hN
      have h3 : (lits (H := H) .u8 (zs.take len)).length = len := by simp [lits]; omega
      have := hN.1
      omega
theorem readsL_sizedJ {H : Type} {enc : TypeId × Value → H} {W : World} {v : Value} {d : DataW H} {p : List MemPlace} {fuel : Nat} (hf : DataW.trod enc Tryd.prog W 0 (fun _ => true) true fuel 25 [v] = some (d, p)) :
    ∃ ls, ReadsL W v ls ∧ (∀ N, (d.weights Tryd.prog 25).all (· ≤ N) = true → ls.length ≤ N ∧ ∀ t ∈ ls, t.length ≤ N) := by
  rcases Go.Deep.open_slice1 Tryd.underlying25 cells_bytesJ hf with ⟨hcs, hx⟩ | ⟨a, len', cap', m, n, V, D, Pl, hcs, _, hl, hm, hmm, hx, hV⟩
  · simp only [List.cons.injEq, and_true] at hcs
    subst hcs
    exact ⟨[], ⟨none, 0, rfl, Nat.le_refl _, fun _ => rfl, fun h => by cases h⟩, fun _ _ => ⟨Nat.zero_le _, fun _ h => by cases h⟩⟩
  · simp only [List.cons.injEq, and_true] at hcs
    subst hcs
    simp only [Prod.mk.injEq] at hx
    obtain ⟨rfl, rfl⟩ := hx
    simp only [if_true] at hmm
    subst hmm
    obtain ⟨B, hB⟩ := Go.Deep.choose_lt (α := List (BitVec 8)) (p := fun i bs => Reads W (V i) bs ∧ (∀ N, ((D i).weights Tryd.prog 22).all (· ≤ N) = true → bs.length ≤ N)) (fun i hi => reads_sizedJ (hV i hi).2)
    have hlen : ((List.range len').map B).length = len' := by simp
    obtain ⟨ab, ao, spot⟩ := a
    refine ⟨(List.range len').map B, ⟨some ⟨ab, ao, spot⟩, m, by rw [hlen], by rw [hlen]; exact hl, (fun h => by cases h), fun hp => ?_⟩, ?_⟩
    · rw [hlen] at hp ⊢
      have hspot : spot = none := by simpa [Addr.add] using World.cell?_spot (hV 0 (by omega)).1
      subst hspot
      refine ⟨ab, ao, rfl, fun j hj => ⟨V j, ?_, ?_⟩⟩
      · have hcj := (hV j (by omega)).1
        rw [Addr.add_lit] at hcj
        exact hcj
      · have e : ((List.range len').map B).getD j [] = B j := by simp [hj]
        rw [e]; exact (hB j (by omega)).1
    · intro N hN
      rw [DataW.weights] at hN
      simp only [Tryd.underlying25, bytes_bytesJ, List.all_cons, List.all_append, Bool.and_eq_true, decide_eq_true_eq, List.length_map, List.length_range] at hN
      refine ⟨by rw [hlen]; have := hN.1; omega, fun t ht => ?_⟩
      obtain ⟨i, hi, rfl⟩ := List.mem_map.1 ht
      have hi2 := List.mem_range.1 hi
      exact (hB i (by omega)).2 N (weightsAll_memJ _ hN.2.1 _ (List.mem_map_of_mem hi))
/-- an act's cells -/
def opC14 (o : OpT) (vB vL : Value) : List Value := [.bool o.ag, vB, vL]
theorem act_sized {H : Type} {enc : TypeId × Value → H} {W : World} {l : List Value} {d : DataW H} {p : List MemPlace} {fuel : Nat} (hf : DataW.trod enc Tryd.prog W 0 (fun _ => true) true fuel 50 l = some (d, p)) :
    ∃ (o : OpT) (vB vL : Value), l = opC14 o vB vL ∧ Reads W vB o.b ∧ ReadsL W vL o.l ∧ (∀ N, (d.weights Tryd.prog 50).all (· ≤ N) = true → o.b.length ≤ N ∧ o.l.length ≤ N ∧ ∀ t ∈ o.l, t.length ≤ N) := by
  obtain ⟨y0, y1, y2, n, hx, hl, h0, h1, h2⟩ := Go.Deep.trod_struct3 Tryd.underlying50 hf
  rw [cells_op14] at hl
  rw [cells_boolJ] at h0
  rw [cells_bytesJ] at h1
  rw [cells_bytessJ] at h2
  match l, hl with
  | [c0, c1, c2], _ =>
    obtain ⟨b, e0, _⟩ := DataW.trod_bool Tryd.underlying4 h0
    obtain ⟨bs, hr, hbl⟩ := reads_sizedJ (v := c1) h1
    obtain ⟨ls, hrl, hll⟩ := readsL_sizedJ (v := c2) h2
    simp at e0
    subst e0
    refine ⟨⟨b, bs, ls⟩, c1, c2, rfl, hr, hrl, fun N hN => ?_⟩
    simp only [Prod.mk.injEq] at hx
    rw [hx.1, DataW.weights] at hN
    simp only [Tryd.underlying50, List.map_cons, List.map_nil, DataW.weightsEach, List.all_append, Bool.and_eq_true] at hN
    exact ⟨hbl N hN.2.1, hll N hN.2.2.1⟩
theorem acts_sized {H : Type} {enc : TypeId × Value → H} {W : World} {base : Nat} {v : Value} {d : DataW H} {p : List MemPlace} (hval : Value.okWide Tryd.prog W .any base 43 v)
    (h : DataW.Trod enc Tryd.prog W 0 (fun _ => true) true 43 v d p) :
    ∃ os, ROps W v os ∧ (∀ N, (d.weights Tryd.prog 43).all (· ≤ N) = true → ∀ o ∈ os, o.b.length ≤ N ∧ o.l.length ≤ N ∧ ∀ t ∈ o.l, t.length ≤ N) ∧ ∀ x ∈ p, x.block < W.heap.size := by
  obtain ⟨a1, len, cap, rfl⟩ := okWide_slice Tryd.underlying43 hval
  obtain ⟨fuel, hf⟩ := h
  have hp0 := DataW.trod_lt _ _ _ _ hf
  rcases Go.Deep.open_slice Tryd.underlying43 hf with ⟨hcs, hx⟩ | ⟨a, len', cap', m, n, D, Pl, hcs, _, hl, hm, hmm, hx, hV⟩
  · simp [Value.cells] at hcs
    obtain ⟨rfl, rfl, rfl⟩ := hcs
    exact ⟨[], ⟨none, 0, rfl, Nat.le_refl _, fun h => by cases h⟩, (fun _ _ _ h => by cases h), hp0⟩
  · simp [Value.cells] at hcs
    obtain ⟨rfl, rfl, rfl⟩ := hcs
    simp only [Prod.mk.injEq] at hx
    obtain ⟨rfl, rfl⟩ := hx
    simp only [if_true] at hmm
    subst hmm
    rw [cells_op14] at hV
    have : Inhabited (OpT × Value × Value) := ⟨(⟨false, [], []⟩, .int .i64 0, .int .i64 0)⟩
    obtain ⟨B, hB⟩ := Go.Deep.choose_lt (α := OpT × Value × Value) (p := fun i q => W.cells? 0 (a.add (i * 3)) 3 = some (opC14 q.1 q.2.1 q.2.2) ∧ Reads W q.2.1 q.1.b ∧ ReadsL W q.2.2 q.1.l ∧ (∀ N, ((D i).weights Tryd.prog 50).all (· ≤ N) = true → q.1.b.length ≤ N ∧ q.1.l.length ≤ N ∧ ∀ t ∈ q.1.l, t.length ≤ N)) (fun i hi => by
      obtain ⟨cs', h1, h2⟩ := hV i hi
      obtain ⟨o, vB, vL, rfl, h3, h4, h5⟩ := act_sized h2
      exact ⟨(o, vB, vL), h1, h3, h4, h5⟩)
    have hlen : ((List.range len).map fun i => (B i).1).length = len := by simp
    obtain ⟨ab, ao, spot⟩ := a
    have cell : ∀ i, i < m → ∀ j, j < 3 → W.cell? ((⟨ab, ao, spot⟩ : Addr).add (i * 3 + j)) = (opC14 (B i).1 (B i).2.1 (B i).2.2)[j]? := by
      intro i hi j hj
      obtain ⟨h1, _⟩ := hB i hi
      obtain ⟨_, _, h4⟩ := World.cells?_some h1
      have := h4 j hj
      rw [Go.Deep.add_add] at this
      exact this
    have hspot : 0 < m → spot = none := fun hp => by
      have h := cell 0 hp 0 (by omega)
      rw [show (opC14 (B 0).1 (B 0).2.1 (B 0).2.2)[0]? = some (.bool (B 0).1.ag) from rfl] at h
      simpa [Addr.add] using World.cell?_spot h
    refine ⟨(List.range len).map fun i => (B i).1, ⟨some ⟨ab, ao, spot⟩, m, by rw [hlen], by rw [hlen]; exact hl, fun hp => ?_⟩, ?_, hp0⟩
    · rw [hlen] at hp ⊢
      have hs := hspot (by omega)
      subst hs
      refine ⟨ab, ao, rfl, fun j hj => ?_⟩
      have e : ((List.range len).map fun i => (B i).1).getD j ⟨false, [], []⟩ = (B j).1 := by simp [hj]
      rw [e]
      have h0 := cell j (by omega) 0 (by omega)
      have h1 := cell j (by omega) 1 (by omega)
      have h2 := cell j (by omega) 2 (by omega)
      rw [Addr.add_lit] at h0 h1 h2
      exact ⟨(B j).2.1, (B j).2.2, h0, by rw [Nat.add_assoc]; exact h1, by rw [Nat.add_assoc]; exact h2, (hB j (by omega)).2.1, (hB j (by omega)).2.2.1⟩
    · intro N hN o ho
      rw [DataW.weights] at hN
      simp only [Tryd.underlying43, bytes_op14, List.all_cons, List.all_append, Bool.and_eq_true, decide_eq_true_eq, List.length_map, List.length_range] at hN
      obtain ⟨i, hi, rfl⟩ := List.mem_map.1 ho
      have hi2 := List.mem_range.1 hi
      exact (hB i (by omega)).2.2.2 N (weightsAll_memJ _ hN.2.1 _ (List.mem_map_of_mem hi))
end Go.Proofs.YtfdggjadndghlaaDoor

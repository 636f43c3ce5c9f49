/- The walks of sha.firstWords, sha.New and (*sha.Hash).Clone. -/
import Derived.Test.YtngcdfhmgjmhkaaDoorWrite
namespace Go.Proofs.YtngcdfhmgjmhkaaDoor
open Go.RowKit
def zb64 : List (BitVec 8) := List.replicate 64 0
theorem st0_cells : [Value.int .u32 1779033703, Value.int .u32 3144134277, Value.int .u32 1013904242, Value.int .u32 2773480762, Value.int .u32 1359893119, Value.int .u32 2600822924, Value.int .u32 528734635, Value.int .u32 1541459225] = cw st0.l := by kernel_rfl
theorem built_hash : Tryd.prog.built 51 [(0, .agg (cw st0.l).toArray)] = some (hc st0 zb64 0).toArray := by kernel_rfl
theorem Tryd.info51 : (Tryd.prog.info? 51).map (·.size) = some 73 := by kernel_rfl
theorem wpList_build1 {P : Program} {ops : Array Oper} {rest : List Oper} {o : Oper} {a : Act} {w : World} {Q : Exit → Act → World → Prop} (hg : o.guard = none) (t : TypeId) (x : Operand)
    (ho : o.op = .build t #[(0, x)]) (v : Value) (e : a.eval x = v) (cs : Array Value) (hb : P.built t [(0, v)] = some cs) (h : wpList P ops Q rest (a.put o.dst (.agg cs)) w) : wpList P ops Q (o :: rest) a w :=
  wpList_build hg t _ ho (by simp [e, hb]) (by simpa [e, hb] using h)
set_option maxHeartbeats 400000 in
theorem firstWords_any (w : World) : Calls Tryd.prog 27 #[] w fun e w' => e = .returned (.agg (cw st0.l).toArray) ∧ Below w.heap.size w w' := by
  go_enter Tryd.func27, Tryd.ntmps27
  go_wp2_with (first
    | (refine wpList_build8 rfl 46 _ _ _ _ _ _ _ _ rfl _ _ _ _ _ _ _ _ rfl rfl rfl rfl rfl rfl rfl rfl (built8 _ _ _ _ _ _ _ _) ?_)
    | (refine wpList_store8 rfl 46 _ _ rfl _ _ _ _ _ _ _ _ _ rfl rfl ((Blk.new w (cw z8) 46).there 0 8 (by simp [cw_len, len_z8])) Tryd.info46 ?_))
  have hB := (Blk.new w (cw z8) 46).whole [Value.int .u32 1779033703, Value.int .u32 3144134277, Value.int .u32 1013904242, Value.int .u32 2773480762, Value.int .u32 1359893119, Value.int .u32 2600822924, Value.int .u32 528734635, Value.int .u32 1541459225] (by rw [cw_len, len_z8]; rfl)
  refine bodyPost_ret (v := .agg #[Value.int .u32 1779033703, Value.int .u32 3144134277, Value.int .u32 1013904242, Value.int .u32 2773480762, Value.int .u32 1359893119, Value.int .u32 2600822924, Value.int .u32 528734635, Value.int .u32 1541459225]) (results_cell_row (by rfl) _ _ w.heap.size 46 _ (0, 0) _ rfl hB Tryd.underlying46 rfl Tryd.info46) rfl ⟨by rw [← st0_cells], Below.setCells _ (Nat.le_refl _) _ _ _ ((Below.refl _ _).alloc (Nat.le_refl _) _)⟩
def stz : St := ⟨0, 0, 0, 0, 0, 0, 0, 0⟩
theorem zero_hash (w : World) : (zeroValue 51).run Tryd.prog w = .ok (.agg (hc stz zb64 0).toArray) w := by kernel_rfl
theorem says0 : Says st0 zb64 [] := ⟨rfl, rfl, rfl⟩
set_option maxHeartbeats 400000 in
theorem new_any (w : World) : Calls Tryd.prog 17 #[] w fun e w' => ∃ g, e = .returned (.pointer (some ⟨g, 0, none⟩)) ∧ w.heap.size ≤ g ∧ HashIs 51 w' g [] ∧ Below w.heap.size w w' := by
  go_enter Tryd.func17, Tryd.ntmps17
  go_wp2_with (first
    | (go_at_call 27; refine (firstWords_any _).mono ?_; rintro e w1 ⟨rfl, hw1⟩)
    | (refine wpList_build1 rfl 51 _ rfl _ rfl _ built_hash ?_))
  go_ret
  exact ⟨w1.heap.size, rfl, hw1.size, ⟨st0, zb64, Blk.new w1 _ _, says0⟩, hw1.alloc hw1.size _⟩
set_option maxRecDepth 100000 in
set_option maxHeartbeats 400000 in
theorem clone_any (g : Nat) (m : List (BitVec 8)) (w : World) (hH : HashIs 51 w g m) :
    Calls Tryd.prog 20 #[.pointer (some ⟨g, 0, none⟩)] w fun e w' => ∃ g', e = .returned (.pointer (some ⟨g', 0, none⟩)) ∧ w.heap.size ≤ g' ∧ HashIs 51 w' g' m ∧ Below w.heap.size w w' := by
  obtain ⟨s, blk, hb, hs⟩ := hH
  obtain ⟨cs, HC⟩ : ∃ x, Hid (x = hc s blk m.length) := ⟨_, rfl⟩
  have HL : Hid (cs.length = 73) := by show _ = _; rw [HC.out]; exact len_hc s blk m.length hs.len
  rw [← HC.out] at hb
  have HZ : Hid ((Tryd.prog.info? 51).map (·.size) = some cs.length) := by show _ = _; rw [HL.out]; exact Tryd.info51
  have H1 : Hid (∀ v ∈ cs, v.oneCell' = true) := by
    show ∀ _, _
    rw [HC.out]; intro v hv
    simp only [hc, List.mem_append, List.mem_singleton] at hv
    rcases hv with hv | hv | rfl
    · exact cw_one _ v hv
    · exact cb_one _ v hv
    · rfl
  have HS : Hid (Says s blk m) := hs
  clear hs
  have hal := zero_hash
  go_enter Tryd.func20, Tryd.ntmps20
  go_wp2_with (first
    | (refine wpList_load_mid rfl 51 _ rfl g 0 rfl cs _ hb.range Tryd.underlying51 rfl HZ.out ?_)
    | (refine wpList_store_mid rfl 51 _ _ rfl _ 0 cs.toArray rfl rfl ?_ (by simpa using HZ.out) (all_oneCell_toArray H1.out) ?_; exact Blk.there (Blk.new_at rfl (hc stz zb64 0) _) _ _ (by rw [List.size_toArray, HL.out, len_hc _ _ _ rfl]; omega)))
  go_ret
  refine ⟨w.heap.size, rfl, Nat.le_refl _, ⟨s, blk, ?_, HS.out⟩, Below.setCells _ (Nat.le_refl _) _ _ _ ((Below.refl _ _).alloc (Nat.le_refl _) _)⟩
  rw [← HC.out]
  exact (Blk.new w (hc stz zb64 0) _).whole cs (by rw [HL.out]; rfl)
end Go.Proofs.YtngcdfhmgjmhkaaDoor

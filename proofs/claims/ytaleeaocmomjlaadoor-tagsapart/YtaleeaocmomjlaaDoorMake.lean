/- The walks of sha.firstWords, sha.New and (*sha.Hash).Clone. -/
import Derived.Test.YtaleeaocmomjlaaDoorWrite
namespace Go.Proofs.YtaleeaocmomjlaaDoor
open Go.RowKit
def zb64 : List (BitVec 8) := List.replicate 64 0
theorem st0_cells : [Value.int .u32 1779033703, Value.int .u32 3144134277, Value.int .u32 1013904242, Value.int .u32 2773480762, Value.int .u32 1359893119, Value.int .u32 2600822924, Value.int .u32 528734635, Value.int .u32 1541459225] = cw st0.l := by kernel_rfl
theorem built_hash : Tryd.prog.built 79 [(0, .agg (cw st0.l).toArray)] = some (hc st0 zb64 0).toArray := by kernel_rfl
theorem Tryd.info79 : (Tryd.prog.info? 79).map (·.size) = some 73 := by kernel_rfl
theorem wpList_build1 {P : Program} {ops : Array Oper} {rest : List Oper} {o : Oper} {a : Act} {w : World} {Q : Exit → Act → World → Prop} (hg : o.guard = none) (t : TypeId) (x : Operand)
    (ho : o.op = .build t #[(0, x)]) (v : Value) (e : a.eval x = v) (cs : Array Value) (hb : P.built t [(0, v)] = some cs) (h : wpList P ops Q rest (a.put o.dst (.agg cs)) w) : wpList P ops Q (o :: rest) a w :=
  wpList_build hg t _ ho (by simp [e, hb]) (by simpa [e, hb] using h)
set_option maxHeartbeats 400000 in
theorem firstWords_any (w : World) : Calls Tryd.prog 56 #[] w fun e w' => e = .returned (.agg (cw st0.l).toArray) ∧ Below w.heap.size w w' := by
  go_enter Tryd.func56, Tryd.ntmps56
  go_wp2_with (first
    | (refine wpList_build8 rfl 60 _ _ _ _ _ _ _ _ rfl _ _ _ _ _ _ _ _ rfl rfl rfl rfl rfl rfl rfl rfl (built8 _ _ _ _ _ _ _ _) ?_)
    | (refine wpList_store8 rfl 60 _ _ rfl _ _ _ _ _ _ _ _ _ rfl rfl ((Blk.new w (cw z8) 60).there 0 8 (by simp [cw_len, len_z8])) Tryd.info60 ?_))
  have hB := (Blk.new w (cw z8) 60).whole [Value.int .u32 1779033703, Value.int .u32 3144134277, Value.int .u32 1013904242, Value.int .u32 2773480762, Value.int .u32 1359893119, Value.int .u32 2600822924, Value.int .u32 528734635, Value.int .u32 1541459225] (by rw [cw_len, len_z8]; rfl)
  refine bodyPost_ret (v := .agg #[Value.int .u32 1779033703, Value.int .u32 3144134277, Value.int .u32 1013904242, Value.int .u32 2773480762, Value.int .u32 1359893119, Value.int .u32 2600822924, Value.int .u32 528734635, Value.int .u32 1541459225]) (results_cell_row (by rfl) _ _ w.heap.size 60 _ (0, 0) _ rfl hB Tryd.underlying60 rfl Tryd.info60) rfl ⟨by rw [← st0_cells], Below.setCells _ (Nat.le_refl _) _ _ _ ((Below.refl _ _).alloc (Nat.le_refl _) _)⟩
def stz : St := ⟨0, 0, 0, 0, 0, 0, 0, 0⟩
theorem zero_hash (w : World) : (zeroValue 79).run Tryd.prog w = .ok (.agg (hc stz zb64 0).toArray) w := by kernel_rfl
theorem says0 : Says st0 zb64 [] := ⟨rfl, rfl, rfl⟩
set_option maxHeartbeats 400000 in
theorem new_any (w : World) : Calls Tryd.prog 48 #[] w fun e w' => ∃ g, e = .returned (.pointer (some ⟨g, 0, none⟩)) ∧ w.heap.size ≤ g ∧ HashIs 79 w' g [] ∧ Below w.heap.size w w' := by
  go_enter Tryd.func48, Tryd.ntmps48
  go_wp2_with (first
    | (go_at_call 56; refine (firstWords_any _).mono ?_; rintro e w1 ⟨rfl, hw1⟩)
    | (refine wpList_build1 rfl 79 _ rfl _ rfl _ built_hash ?_))
  go_ret
  exact ⟨w1.heap.size, rfl, hw1.size, ⟨st0, zb64, Blk.new w1 _ _, says0⟩, hw1.alloc hw1.size _⟩
end Go.Proofs.YtaleeaocmomjlaaDoor

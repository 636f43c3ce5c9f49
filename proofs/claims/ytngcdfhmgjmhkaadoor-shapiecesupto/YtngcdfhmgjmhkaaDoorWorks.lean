/- The walk of the statements' own example: works() answers true. -/
import Derived.Test.YtngcdfhmgjmhkaaDoorEq
import Derived.Lib.SlBytesConst
namespace Go.Proofs.YtngcdfhmgjmhkaaDoor
open Go.RowKit
def abcDig : List (BitVec 8) := [186, 120, 22, 191, 143, 1, 207, 234, 65, 65, 64, 222, 93, 174, 34, 35, 176, 3, 97, 163, 150, 23, 122, 156, 180, 16, 255, 97, 242, 0, 21, 173]
set_option maxRecDepth 1000000 in
theorem dig_abc : dig [97, 98, 99] = abcDig := by kernel_rfl
theorem wpList_buildc {P : Program} {ops : Array Oper} {rest : List Oper} {o : Oper} {a : Act} {w : World} {Q : Exit → Act → World → Prop} (hg : o.guard = none) (t : TypeId) (parts : Array (Nat × Operand)) (ho : o.op = .build t parts)
    (cs : Array Value) (hb : ∀ a : Act, P.built t (parts.map fun (i, x) => (i, a.eval x)).toList = some cs) (h : wpList P ops Q rest (a.put o.dst (.agg cs)) w) : wpList P ops Q (o :: rest) a w :=
  wpList_build hg t parts ho (by rw [hb]; rfl) (by rw [hb]; exact h)
set_option maxHeartbeats 400000 in
theorem works_any (w : World) (hK : KOk w) : Calls Tryd.prog 10 #[] w fun e w' => e = .returned (.bool true) ∧ Below w.heap.size w w' := by
  have kc := fun (w : World) (C : Array Value) (n c : Nat) => Lib.run_convert_bytes_const (P := Tryd.prog) w 22 5 C n c Tryd.underlying22 Tryd.underlying5
  go_enter Tryd.func10, Tryd.ntmps10
  go_wp2_with fail
  have hb0 : Below w.heap.size w (w.alloc (.cells #[.int .u8 97, .int .u8 98, .int .u8 99] 5 (3, 4))) := (Below.refl _ _).alloc (Nat.le_refl _) _
  have hr : Reads (w.alloc (.cells #[.int .u8 97, .int .u8 98, .int .u8 99] 5 (3, 4))) (.slice (some ⟨w.heap.size, 0, none⟩) 3 3) [97, 98, 99] :=
    ⟨_, 3, rfl, Nat.le_refl _, (fun h => by cases h), fun _ => ⟨w.heap.size, 0, rfl, fun j hj => by
      rw [World.cell?_alloc_mark, Nat.zero_add]
      match j, hj with
      | 0, _ => rfl
      | 1, _ => rfl
      | 2, _ => rfl⟩⟩
  refine (sum_any _ [97, 98, 99] _ (hK.below hb0 hK.lt) hr (by simp)).mono ?_
  rintro e w1 ⟨rfl, hb1⟩
  rw [dig_abc]
  have hb2 : Below w.heap.size w w1 := hb0.trans (hb1.mono (by simp))
  clear hK hr hb0 hb1 kc
  have heq := fun wx => eq_dig_same abcDig rfl wx
  go_wp2_with (refine wpList_buildc rfl 26 _ rfl (cb abcDig).toArray (fun _ => by kernel_rfl) ?_)
  go_ret
  exact ⟨rfl, hb2⟩
end Go.Proofs.YtngcdfhmgjmhkaaDoor

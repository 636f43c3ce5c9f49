/- The walk of the statements' own long: is a text more than is waited for? -/
import Derived.Test.YtngcdfhmgjmhkaaDoorSame
namespace Go.Proofs.YtngcdfhmgjmhkaaDoor
open Go.RowKit
theorem long_any (v : Value) (bs : List (BitVec 8)) (w : World) (hR : Reads w v bs) :
    Calls Tryd.prog 9 #[v] w fun e w' => e = .returned (.bool (decide (65536 < bs.length))) ∧ w' = w := by
  obtain ⟨ad, cap, rfl, _, _, _⟩ := hR
  generalize bs.length = n
  have hd : decide (65536 < (n : Int)) = decide (65536 < n) := by rw [decide_eq_decide]; omega
  go_enter Tryd.func9, Tryd.ntmps9
  go_wp2
  go_ret
  exact ⟨by first | rfl | rw [← hd] | simp, rfl⟩
end Go.Proofs.YtngcdfhmgjmhkaaDoor

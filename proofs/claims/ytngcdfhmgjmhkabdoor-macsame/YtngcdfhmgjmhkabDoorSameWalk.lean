/- The walk of the statement MacSame. -/
import Derived.Test.YtngcdfhmgjmhkabDoorMWorks
namespace Go.Proofs.YtngcdfhmgjmhkabDoor
open Go.RowKit
set_option maxHeartbeats 1000000 in
theorem macSame_any (va vb : Value) (la lb : List (BitVec 8)) (w : World) (hK : KOk w) (ha : Reads w va la) (hb : Reads w vb lb) (hla : la.length < 9223372036854775808) (hlb : lb.length < 9223372036854775808) :
    Calls Tryd.prog 4 #[va, vb] w fun e w' => e = .returned (.bool true) ∧ Below w.heap.size w w' := by
  have HK : Hid (KOk w) := hK
  have HA : Hid (Reads w va la) := ha
  have HB : Hid (Reads w vb lb) := hb
  have HL : Hid (la.length < 9223372036854775808 ∧ lb.length < 9223372036854775808) := ⟨hla, hlb⟩
  have HC : Hid (decide (lb = la) = decide (la = lb)) := by show _ = _; rw [decide_eq_decide]; exact ⟨Eq.symm, Eq.symm⟩
  clear hK ha hb hla hlb
  go_enter Tryd.func4, Tryd.ntmps4
  go_wp2_with fail
  refine (msame_any _ _ la lb _ HA.out HB.out HL.out.1 HL.out.2).mono ?_
  rintro e w1 ⟨rfl, rfl⟩
  obtain ⟨p, HP⟩ : ∃ x, Hid (x = decide (la = lb)) := ⟨_, rfl⟩
  rw [← HP.out]
  go_wp2_with fail
  refine (same_any _ _ la lb _ HA.out HB.out).mono ?_
  rintro e w2 ⟨rfl, rfl⟩
  rw [← HP.out]
  go_wp2_with fail
  refine (msame_any _ _ lb la _ HB.out HA.out HL.out.2 HL.out.1).mono ?_
  rintro e w3 ⟨rfl, rfl⟩
  rw [HC.out, ← HP.out]
  go_wp2_with fail
  refine (msame_any _ _ la lb _ HA.out HB.out HL.out.1 HL.out.2).mono ?_
  rintro e w4 ⟨rfl, rfl⟩
  rw [← HP.out]
  go_wp2_with fail
  refine (msame_any _ _ la la _ HA.out HA.out HL.out.1 HL.out.1).mono ?_
  rintro e w5 ⟨rfl, rfl⟩
  simp only [decide_true]
  go_wp2_with (go_at_call 8; refine (mworks_any _ HK.out).mono ?_; rintro e w6 ⟨rfl, hb6⟩)
  go_ret
  exact ⟨rfl, hb6⟩
end Go.Proofs.YtngcdfhmgjmhkabDoor

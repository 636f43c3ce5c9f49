/- The walks of blazonref04.ReadNums and ReadTexts. -/
import Derived.Test.YtdhglbemkaogiabRIn3
namespace Go.Proofs.Ytdhglbemkaogiab
open Go.RowKit
theorem below_drewN {B : Nat} {a b : World} (h : Below B a b) (n : Nat) : Below B a (b.drewN n) := ⟨h.os, h.tape, h.output, h.size, h.block⟩
theorem wpList_law {P : Program} {ops : Array Oper} {rest : List Oper} {o : Oper} {a : Act} {w : World} {Q : Exit → Act → World → Prop} (hg : o.guard = none) (h : o.wp P a w (wpList P ops Q rest) Q) : wpList P ops Q (o :: rest) a w :=
  wpList_plain hg (fun _ hK => Oper.wp_mono (fun a' w' h => hK a' w' h) h)
end Go.Proofs.Ytdhglbemkaogiab

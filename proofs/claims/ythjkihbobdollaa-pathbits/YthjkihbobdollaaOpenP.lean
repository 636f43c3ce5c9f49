/- What a bool that came in gives. -/
import Derived.Test.YthjkihbobdollaaOpenC
namespace Go.Proofs.Ythjkihbobdollaa
open Go.ChangeShapes Go.WideShapes Go.ChangeAt Go.WideMaps Go.WideElems Go.RowKit
theorem open_boolP {H : Type} {enc : TypeId × Value → H} {W : World} {base : Nat} {v : Value} {d : DataW H} {p : List MemPlace} (hval : Value.okWide Try.prog W .any base 4 v)
    (h : DataW.Trod enc Try.prog W 0 (fun _ => true) true 4 v d p) : ∃ b, v = .bool b ∧ d = .lit (.bool b) ∧ p = [] := by
  obtain ⟨b, rfl⟩ := okWide_bool Try.underlying4 hval
  obtain ⟨fuel, hf⟩ := h
  obtain ⟨b', hc, hx⟩ := DataW.trod_bool Try.underlying4 hf
  simp [Value.cells] at hc
  subst hc
  simp only [Prod.mk.injEq] at hx
  exact ⟨b, rfl, hx.1, hx.2⟩
end Go.Proofs.Ythjkihbobdollaa

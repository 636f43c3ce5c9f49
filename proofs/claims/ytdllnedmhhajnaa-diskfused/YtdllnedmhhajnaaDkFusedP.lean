/- DiskFused: of every number and every two lists of acts, the law answers true, and what came in reads as it did; no condition. -/
import Derived.Test.YtdllnedmhhajnaaRows
import Derived.Test.YtdllnedmhhajnaaDkVc
import Derived.Test.YtdllnedmhhajnaaDkTo
import Derived.Test.YtdllnedmhhajnaaOpenC
import Derived.Test.YtdllnedmhhajnaaDkOpen
namespace Go.Proofs.Ytdllnedmhhajnaa
open Go.ChangeShapes Go.WideShapes Go.ChangeAt Go.WideMaps Go.WideElems Go.RowKit
set_option maxRecDepth 100000
set_option maxRecDepth 100000 in
theorem diskFused_lifted (os : Os) (started : os.Started) (H : Type) (enc : TypeId × Value → H) :
    ReturnsInHanded {} Try.checked os 7 .any (Rows.diskFusedSpec.pre6 enc Try.prog Try.f7 Rows.diskFusedRow.domain false) (Rows.diskFusedSpec.post enc Try.prog Try.f7 false true false false) := by
  refine returnsInHanded_of_change (C := Try.checked) own started (by kernel_rfl) Try.func7
    (ChangeSpec.witness6 (enc := enc) (C := Try.checked) false ⟨#[], #[.int .i64 0, .slice none 0 0, .slice none 0 0], []⟩ 8 (by kernel_rfl) (by kernel_rfl) (by kernel_rfl) (by kernel_rfl)) ?_
  intro W base args ds gs before hval0 hW _ _
  have hval : ∀ (j : Nat) t v, Try.f7.params[j]? = some t → args[j]? = some v → Value.okWide Try.prog W .any base t v := hval0
  have hW' := hW
  obtain ⟨p, q, hA0, hV, rfl, hfz, hnd⟩ := hW
  have hA : DataW.TrodAll enc Try.prog W 0 (fun _ => true) true Try.f7.params.toList args.toList ds p := hA0
  rw [Try.params7] at hA hval
  obtain ⟨v0, v1, v2, d0, d1, d2, p0, p1, p2, rfl, rfl, rfl, h0, h1, h2⟩ := trodAll_three hA
  obtain ⟨rfl, rfl⟩ := trodVars_none hV
  obtain ⟨x0, rfl, rfl, rfl, wx0⟩ := open_int Try.underlying3 (hval 0 3 v0 rfl rfl) h0
  have bx0 := bounds_i64 wx0
  obtain ⟨os1, hr1, hp1⟩ := readsO_of_trod (hval 1 22 v1 rfl rfl) h1
  obtain ⟨os2, hr2, hp2⟩ := readsO_of_trod (hval 2 22 v2 rfl rfl) h2
  clear hA0 hval0
  simp only [List.append_nil] at hW'
  refine (diskFused_law dkOps x0 v1 v2 os1 os2 W hr1 hr2).mono fun e W' ⟨he, hw⟩ => ?_
  subst he
  exact ⟨_, rfl, _, _, _, [], _, [], hW', trodAll_mk1 (shut_bool Try.underlying4 _), trodAll_mk3 (shut_int Try.underlying3 wx0) (Below.trod laid_out readable_ops13 row_ops13 h1 hw hp1) (Below.trod laid_out readable_ops13 row_ops13 h2 hw hp2), rfl, hw.frame _, fun h => by cases h⟩
theorem diskFused_holds : Rows.DiskFusedSaid :=
  OpenClaim.holds_of_wide 7 Try.f7 rfl rfl rfl rfl rfl rfl rfl ⟨rfl, rfl, rfl, rfl, rfl⟩ rfl rfl rfl rfl rfl (by kernel_rfl) Try.func7 (by kernel_rfl)
    (of_decide_eq_true (by kernel_rfl)) (by unfold Func.isWrapper; first | (rw [if_pos (by decide +kernel)]; kernel_rfl) | (rw [if_neg (by decide +kernel)]; exact ⟨rfl, rfl⟩))
    (fun os started H enc _ => diskFused_lifted os started H enc)
#print axioms diskFused_holds
end Go.Proofs.Ytdllnedmhhajnaa

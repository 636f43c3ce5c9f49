/- RecordChecks: of every binding and every proof the law answers true, and what came in reads as it did; no condition. -/
import Derived.Test.YtldbcglakeggaaaRows
import Derived.Test.YtldbcglakeggaaaRecCk
import Derived.Test.YtldbcglakeggaaaOpenC
import Derived.Test.YtldbcglakeggaaaOpenR
namespace Go.Proofs.Ytldbcglakeggaaa
open Go.ChangeShapes Go.WideShapes Go.ChangeAt Go.WideMaps Go.WideElems Go.RowKit
set_option maxRecDepth 100000 in
theorem recordChecks_lifted (os : Os) (started : os.Started) (H : Type) (enc : TypeId × Value → H) :
    ReturnsInHanded {} Try.checked os 3 .any (Rows.recordChecksSpec.pre6 enc Try.prog Try.f3 Rows.recordChecksRow.domain false) (Rows.recordChecksSpec.post enc Try.prog Try.f3 false true false false) := by
  refine returnsInHanded_of_change (C := Try.checked) own started (by kernel_rfl) Try.func3
    (ChangeSpec.witness6 (enc := enc) (C := Try.checked) false ⟨#[], #[.agg #[.string ByteArray.empty, .slice none 0 0, .int .u64 0], .agg (prfV (.slice none 0 0) 0 zb32 zb32).toArray], []⟩ 8 (by kernel_rfl) (by kernel_rfl) (by kernel_rfl) (by kernel_rfl)) ?_
  intro W base args ds gs before hval0 hW _ _
  have hval : ∀ (j : Nat) t v, Try.f3.params[j]? = some t → args[j]? = some v → Value.okWide Try.prog W .any base t v := hval0
  have hW' := hW
  obtain ⟨p, q, hA0, hV, rfl, hfz, hnd⟩ := hW
  have hA : DataW.TrodAll enc Try.prog W 0 (fun _ => true) true Try.f3.params.toList args.toList ds p := hA0
  rw [Try.params3] at hA hval
  obtain ⟨v0, v1, d0, d1, p0, p1, rfl, rfl, rfl, h0, h1⟩ := trodAll_two hA
  obtain ⟨rfl, rfl⟩ := trodVars_none hV
  obtain ⟨nm0, vk0, ky0, sr0, rfl, hk0, hsr0, hp0⟩ := binding_of_trod (hval 0 25 v0 rfl rfl) h0
  obtain ⟨vs1, ds1, en1, ix1, va1, rfl, hd1, hpp1, hp1⟩ := proof_of_trod (hval 1 30 v1 rfl rfl) h1
  clear hA0 hval0
  simp only [List.append_nil] at hW'
  refine (checks_law nm0 ky0 vk0 sr0 vs1 ds1 en1 ix1 va1 hpp1.1 hpp1.2.1 W hk0 hd1).mono fun e W' ⟨he, hw⟩ => ?_
  subst he
  exact ⟨_, rfl, _, _, _, [], _, [], hW', trodAll_mk1 (shut_bool Try.underlying4 _), trodAll_mk2 (Below.trod laid_out readable_binding row_binding h0 hw hp0) (Below.trod laid_out readable_proof row_proof h1 hw hp1), rfl, hw.frame _, fun h => by cases h⟩
theorem recordChecks_holds : Rows.RecordChecksSaid :=
  OpenClaim.holds_of_wide 3 Try.f3 rfl rfl rfl rfl rfl rfl rfl ⟨rfl, rfl, rfl, rfl, rfl⟩ rfl rfl rfl rfl rfl (by kernel_rfl) Try.func3 (by kernel_rfl)
    (of_decide_eq_true (by kernel_rfl)) (by unfold Func.isWrapper; first | (rw [if_pos (by decide +kernel)]; kernel_rfl) | (rw [if_neg (by decide +kernel)]; exact ⟨rfl, rfl⟩))
    (fun os started H enc _ => recordChecks_lifted os started H enc)
#print axioms recordChecks_holds
end Go.Proofs.Ytldbcglakeggaaa

/- RecordBack: of every binding, request, signed root and proof the law answers true, and what came in reads as it did; no condition. -/
import Derived.Test.YtldbcglakeggaaaRows
import Derived.Test.YtldbcglakeggaaaRecBkL
import Derived.Test.YtldbcglakeggaaaOpenC
import Derived.Test.YtldbcglakeggaaaOpenR
import Derived.Test.YtldbcglakeggaaaOpenS
namespace Go.Proofs.Ytldbcglakeggaaa
open Go.ChangeShapes Go.WideShapes Go.ChangeAt Go.WideMaps Go.WideElems Go.RowKit
set_option maxRecDepth 100000 in
theorem recordBack_lifted (os : Os) (started : os.Started) (H : Type) (enc : TypeId × Value → H) :
    ReturnsInHanded {} Try.checked os 6 .any (Rows.recordBackSpec.pre6 enc Try.prog Try.f6 Rows.recordBackRow.domain false) (Rows.recordBackSpec.post enc Try.prog Try.f6 false true false false) := by
  refine returnsInHanded_of_change (C := Try.checked) own started (by kernel_rfl) Try.func6
    (ChangeSpec.witness6 (enc := enc) (C := Try.checked) false ⟨#[], #[.agg #[.string ByteArray.empty, .slice none 0 0, .int .u64 0], .agg (reqV 0 [] (.slice none 0 0) zb32).toArray, .agg (sgnV 0 zb32 zb32 zb32 (.slice none 0 0)).toArray, .agg (prfV (.slice none 0 0) 0 zb32 zb32).toArray], []⟩ 8 (by kernel_rfl) (by kernel_rfl) (by kernel_rfl) (by kernel_rfl)) ?_
  intro W base args ds gs before hval0 hW _ _
  have hval : ∀ (j : Nat) t v, Try.f6.params[j]? = some t → args[j]? = some v → Value.okWide Try.prog W .any base t v := hval0
  have hW' := hW
  obtain ⟨p, q, hA0, hV, rfl, hfz, hnd⟩ := hW
  have hA : DataW.TrodAll enc Try.prog W 0 (fun _ => true) true Try.f6.params.toList args.toList ds p := hA0
  rw [Try.params6] at hA hval
  obtain ⟨v0, v1, v2, v3, d0, d1, d2, d3, p0, p1, p2, p3, rfl, rfl, rfl, h0, h1, h2, h3⟩ := trodAll_four hA
  obtain ⟨rfl, rfl⟩ := trodVars_none hV
  obtain ⟨nm0, vk0, ky0, sr0, rfl, hk0, hsr0, hp0⟩ := binding_of_trod (hval 0 25 v0 rfl rfl) h0
  obtain ⟨kd1, nm1, vk1, ky1, au1, rfl, hk1, ha1, hp1⟩ := request_of_trod (hval 1 38 v1 rfl rfl) h1
  obtain ⟨ep2, x2, y2, z2, vs2, sg2, rfl, hk2, ha2, hp2⟩ := signed_of_trod (hval 2 42 v2 rfl rfl) h2
  obtain ⟨vs3, ds3, en3, ix3, va3, rfl, hd3, hpp3, hp3⟩ := proof_of_trod (hval 3 30 v3 rfl rfl) h3
  clear hA0 hval0
  simp only [List.append_nil, List.append_assoc] at hW'
  refine (back_law nm0 ky0 vk0 sr0 hsr0 kd1 nm1 ky1 au1 vk1 ha1 ep2 x2 y2 z2 sg2 vs2 ha2.1 ha2.2.1 ha2.2.2.1 ha2.2.2.2 ds3 en3 ix3 va3 vs3 hpp3.1 hpp3.2.1 W hk0 hk1 hk2 hd3).mono fun e W' ⟨he, hw⟩ => ?_
  subst he
  exact ⟨_, rfl, _, _, _, [], _, [], hW', trodAll_mk1 (shut_bool Try.underlying4 _), trodAll_mk4 (Below.trod laid_out readable_binding row_binding h0 hw hp0) (Below.trod laid_out readable_request row_request h1 hw hp1) (Below.trod laid_out readable_signed row_signed h2 hw hp2) (Below.trod laid_out readable_proof row_proof h3 hw hp3), rfl, hw.frame _, fun h => by cases h⟩
theorem recordBack_holds : Rows.RecordBackSaid :=
  OpenClaim.holds_of_wide 6 Try.f6 rfl rfl rfl rfl rfl rfl rfl ⟨rfl, rfl, rfl, rfl, rfl⟩ rfl rfl rfl rfl rfl (by kernel_rfl) Try.func6 (by kernel_rfl)
    (of_decide_eq_true (by kernel_rfl)) (by unfold Func.isWrapper; first | (rw [if_pos (by decide +kernel)]; kernel_rfl) | (rw [if_neg (by decide +kernel)]; exact ⟨rfl, rfl⟩))
    (fun os started H enc _ => recordBack_lifted os started H enc)
#print axioms recordBack_holds
end Go.Proofs.Ytldbcglakeggaaa

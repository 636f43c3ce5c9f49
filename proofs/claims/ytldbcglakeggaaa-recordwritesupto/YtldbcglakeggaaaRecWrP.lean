/- RecordWrites: of every binding, request, signed root and proof, where what came in is of bulk at most 1048576, the law answers true, and what came in reads as it did. -/
import Derived.Test.YtldbcglakeggaaaRows
import Derived.Test.YtldbcglakeggaaaRecWrL
import Derived.Test.YtldbcglakeggaaaOpenC
import Derived.Test.YtldbcglakeggaaaOpenB
import Derived.Test.YtldbcglakeggaaaOpenQ
namespace Go.Proofs.Ytldbcglakeggaaa
open Go.ChangeShapes Go.WideShapes Go.ChangeAt Go.WideMaps Go.WideElems Go.RowKit
set_option maxRecDepth 100000 in
theorem recordWrites_lifted (os : Os) (started : os.Started) (H : Type) (enc : TypeId × Value → H) (F : Stop.Interp) :
    ReturnsInHanded {} Try.checked os 4 .any ((Rows.OpenSpec.upto Rows.recordWritesSpec).pre6 enc Try.prog Try.f4 Rows.recordWritesUptoRow.domain false) (((Rows.OpenSpec.upto Rows.recordWritesSpec).at F).post enc Try.prog Try.f4 false true false false) := by
  refine returnsInHanded_of_cond (C := Try.checked) (s := Rows.OpenSpec.upto Rows.recordWritesSpec) (k := Rows.uptoSmall) rfl own started (by kernel_rfl) Try.func4
    (OpenSpec.witness (enc := enc) (C := Try.checked) (s := Rows.OpenSpec.upto Rows.recordWritesSpec) (k := Rows.uptoSmall) rfl false ⟨#[], #[.agg #[.string ByteArray.empty, .slice none 0 0, .int .u64 0], .agg (reqV 0 [] (.slice none 0 0) zb32).toArray, .agg (sgnV 0 zb32 zb32 zb32 (.slice none 0 0)).toArray, .agg (prfV (.slice none 0 0) 0 zb32 zb32).toArray], []⟩ 8 (by kernel_rfl) (by kernel_rfl) (by kernel_rfl)
      (x := ([.agg [.lit (.string []), .nil, .lit (.int .u64 0)], .agg [.lit (.int .i64 0), .lit (.string []), .nil, .agg (List.replicate 32 (.lit (.int .u8 0)))], .agg [.agg [.lit (.int .u64 0), .agg (List.replicate 32 (.lit (.int .u8 0))), .agg (List.replicate 32 (.lit (.int .u8 0))), .agg (List.replicate 32 (.lit (.int .u8 0)))], .nil], .agg [.nil, .lit (.int .i64 0), .agg (List.replicate 32 (.lit (.int .u8 0))), .agg (List.replicate 32 (.lit (.int .u8 0)))]], [], [])) (by kernel_rfl) rfl (by kernel_rfl)) ?_
  intro W base args ds gs before hval0 hW _ hk _
  have hval : ∀ (j : Nat) t v, Try.f4.params[j]? = some t → args[j]? = some v → Value.okWide Try.prog W .any base t v := hval0
  have hW' := hW
  obtain ⟨p, q, hA0, hV, rfl, hfz, hnd⟩ := hW
  have hA : DataW.TrodAll enc Try.prog W 0 (fun _ => true) true Try.f4.params.toList args.toList ds p := hA0
  rw [Try.params4] at hA hval
  obtain ⟨v0, v1, v2, v3, d0, d1, d2, d3, p0, p1, p2, p3, rfl, rfl, rfl, h0, h1, h2, h3⟩ := trodAll_four hA
  obtain ⟨rfl, rfl⟩ := trodVars_none hV
  obtain ⟨nm0, vk0, ky0, sr0, rfl, hk0, hsr0, hbb0, hp0⟩ := binding_of_trod_b (hval 0 25 v0 rfl rfl) h0
  obtain ⟨kd1, nm1, vk1, ky1, au1, rfl, hk1, ha1, hbb1, hp1⟩ := request_of_trod_b (hval 1 38 v1 rfl rfl) h1
  have hbc1 := hbb1.2
  obtain ⟨ep2, x2, y2, z2, vs2, sg2, rfl, hk2, ha2, hbb2, hp2⟩ := signed_of_trod_b (hval 2 42 v2 rfl rfl) h2
  obtain ⟨vs3, ds3, en3, ix3, va3, rfl, hd3, hpp3, hp3⟩ := proof_of_trod_b (hval 3 30 v3 rfl rfl) h3
  have hbc3 := hpp3.2.2
  have hs : Rows.uptoBulk d0 + Rows.uptoBulk d1 + Rows.uptoBulk d2 + Rows.uptoBulk d3 ≤ 1048576 := by
    have h := of_decide_eq_true hk
    simp only [List.append_nil, Rows.uptoBulkAll] at h
    omega
  clear hA0 hval0
  simp only [List.append_nil, List.append_assoc] at hW'
  refine (writes_law nm0 ky0 vk0 sr0 hsr0 (by omega) kd1 nm1 ky1 au1 vk1 ha1 hbb1.1 (by omega) ep2 x2 y2 z2 sg2 vs2 ha2 (by omega) ds3 en3 ix3 va3 vs3 hpp3.1 hpp3.2.1 (by omega) W hk0 hk1 hk2 hd3).mono fun e W' ⟨he, hw⟩ => ?_
  subst he
  exact ⟨_, rfl, _, _, _, [], _, [], hW', trodAll_mk1 (shut_bool Try.underlying4 _), trodAll_mk4 (Below.trod laid_out readable_binding row_binding h0 hw hp0) (Below.trod laid_out readable_request row_request h1 hw hp1) (Below.trod laid_out readable_signed row_signed h2 hw hp2) (Below.trod laid_out readable_proof row_proof h3 hw hp3), rfl, hw.frame _, fun h => by cases h⟩
theorem recordWrites_holds : Rows.RecordWritesUptoSaid :=
  OpenClaim.holds_of_cond 4 Try.f4 rfl rfl rfl rfl rfl rfl rfl ⟨rfl, rfl, rfl, rfl, rfl⟩ rfl rfl rfl rfl rfl (by kernel_rfl) Try.func4 (by kernel_rfl)
    (of_decide_eq_true (by kernel_rfl)) (by unfold Func.isWrapper; first | (rw [if_pos (by decide +kernel)]; kernel_rfl) | (rw [if_neg (by decide +kernel)]; exact ⟨rfl, rfl⟩))
    (fun os started H enc _ F => recordWrites_lifted os started H enc F)
#print axioms recordWrites_holds
end Go.Proofs.Ytldbcglakeggaaa

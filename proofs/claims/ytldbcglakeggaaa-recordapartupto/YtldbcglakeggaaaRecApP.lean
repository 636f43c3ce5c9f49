/- RecordApart: of every two bindings, requests, signed roots and proofs, where what came in is of bulk at most 1048576, the law answers true, and what came in reads as it did. -/
import Derived.Test.YtldbcglakeggaaaRows
import Derived.Test.YtldbcglakeggaaaRecApL
import Derived.Test.YtldbcglakeggaaaOpenC
import Derived.Test.YtldbcglakeggaaaOpenR
import Derived.Test.YtldbcglakeggaaaOpenS
import Derived.Test.YtldbcglakeggaaaOpenB
import Derived.Test.YtldbcglakeggaaaOpen8
namespace Go.Proofs.Ytldbcglakeggaaa
open Go.ChangeShapes Go.WideShapes Go.ChangeAt Go.WideMaps Go.WideElems Go.RowKit
set_option maxRecDepth 100000 in
theorem recordApart_lifted (os : Os) (started : os.Started) (H : Type) (enc : TypeId × Value → H) (F : Stop.Interp) :
    ReturnsInHanded {} Try.checked os 8 .any ((Rows.OpenSpec.upto Rows.recordApartSpec).pre6 enc Try.prog Try.f8 Rows.recordApartUptoRow.domain false) (((Rows.OpenSpec.upto Rows.recordApartSpec).at F).post enc Try.prog Try.f8 false true false false) := by
  refine returnsInHanded_of_cond (C := Try.checked) (s := Rows.OpenSpec.upto Rows.recordApartSpec) (k := Rows.uptoSmall) rfl own started (by kernel_rfl) Try.func8
    (OpenSpec.witness (enc := enc) (C := Try.checked) (s := Rows.OpenSpec.upto Rows.recordApartSpec) (k := Rows.uptoSmall) rfl false ⟨#[], #[.agg #[.string ByteArray.empty, .slice none 0 0, .int .u64 0], .agg #[.string ByteArray.empty, .slice none 0 0, .int .u64 0], .agg (reqV 0 [] (.slice none 0 0) zb32).toArray, .agg (reqV 0 [] (.slice none 0 0) zb32).toArray, .agg (sgnV 0 zb32 zb32 zb32 (.slice none 0 0)).toArray, .agg (sgnV 0 zb32 zb32 zb32 (.slice none 0 0)).toArray, .agg (prfV (.slice none 0 0) 0 zb32 zb32).toArray, .agg (prfV (.slice none 0 0) 0 zb32 zb32).toArray], []⟩ 8 (by kernel_rfl) (by kernel_rfl) (by kernel_rfl)
      (x := ([.agg [.lit (.string []), .nil, .lit (.int .u64 0)], .agg [.lit (.string []), .nil, .lit (.int .u64 0)], .agg [.lit (.int .i64 0), .lit (.string []), .nil, .agg (List.replicate 32 (.lit (.int .u8 0)))], .agg [.lit (.int .i64 0), .lit (.string []), .nil, .agg (List.replicate 32 (.lit (.int .u8 0)))], .agg [.agg [.lit (.int .u64 0), .agg (List.replicate 32 (.lit (.int .u8 0))), .agg (List.replicate 32 (.lit (.int .u8 0))), .agg (List.replicate 32 (.lit (.int .u8 0)))], .nil], .agg [.agg [.lit (.int .u64 0), .agg (List.replicate 32 (.lit (.int .u8 0))), .agg (List.replicate 32 (.lit (.int .u8 0))), .agg (List.replicate 32 (.lit (.int .u8 0)))], .nil], .agg [.nil, .lit (.int .i64 0), .agg (List.replicate 32 (.lit (.int .u8 0))), .agg (List.replicate 32 (.lit (.int .u8 0)))], .agg [.nil, .lit (.int .i64 0), .agg (List.replicate 32 (.lit (.int .u8 0))), .agg (List.replicate 32 (.lit (.int .u8 0)))]], [], [])) (by kernel_rfl) rfl (by kernel_rfl)) ?_
  intro W base args ds gs before hval0 hW _ hk _
  have hval : ∀ (j : Nat) t v, Try.f8.params[j]? = some t → args[j]? = some v → Value.okWide Try.prog W .any base t v := hval0
  have hW' := hW
  obtain ⟨p, q, hA0, hV, rfl, hfz, hnd⟩ := hW
  have hA : DataW.TrodAll enc Try.prog W 0 (fun _ => true) true Try.f8.params.toList args.toList ds p := hA0
  rw [Try.params8] at hA hval
  obtain ⟨v0, v1, v2, v3, v4, v5, v6, v7, d0, d1, d2, d3, d4, d5, d6, d7, p0, p1, p2, p3, p4, p5, p6, p7, rfl, rfl, rfl, h0, h1, h2, h3, h4, h5, h6, h7⟩ := trodAll_eight hA
  obtain ⟨rfl, rfl⟩ := trodVars_none hV
  obtain ⟨nm0, vk0, ky0, sr0, rfl, hk0, hsr0, hbb0, hp0⟩ := binding_of_trod_b (hval 0 25 v0 rfl rfl) h0
  obtain ⟨nm1, vk1, ky1, sr1, rfl, hk1, hsr1, hbb1, hp1⟩ := binding_of_trod_b (hval 1 25 v1 rfl rfl) h1
  obtain ⟨kd2, nm2, vk2, ky2, au2, rfl, hk2, ha2, hp2⟩ := request_of_trod (hval 2 38 v2 rfl rfl) h2
  obtain ⟨kd3, nm3, vk3, ky3, au3, rfl, hk3, ha3, hp3⟩ := request_of_trod (hval 3 38 v3 rfl rfl) h3
  obtain ⟨ep4, x4, y4, z4, vs4, sg4, rfl, hk4, ha4, hbb4, hp4⟩ := signed_of_trod_b (hval 4 42 v4 rfl rfl) h4
  obtain ⟨ep5, x5, y5, z5, vs5, sg5, rfl, hk5, ha5, hbb5, hp5⟩ := signed_of_trod_b (hval 5 42 v5 rfl rfl) h5
  obtain ⟨vs6, ds6, en6, ix6, va6, rfl, hd6, hpp6, hp6⟩ := proof_of_trod (hval 6 30 v6 rfl rfl) h6
  obtain ⟨vs7, ds7, en7, ix7, va7, rfl, hd7, hpp7, hp7⟩ := proof_of_trod (hval 7 30 v7 rfl rfl) h7
  have hs : Rows.uptoBulk d0 + Rows.uptoBulk d1 + Rows.uptoBulk d2 + Rows.uptoBulk d3 + Rows.uptoBulk d4 + Rows.uptoBulk d5 + Rows.uptoBulk d6 + Rows.uptoBulk d7 ≤ 1048576 := by
    have h := of_decide_eq_true hk
    simp only [List.append_nil, Rows.uptoBulkAll] at h
    omega
  clear hA0 hval0
  simp only [List.append_nil, List.append_assoc] at hW'
  refine (apart_law nm0 ky0 vk0 sr0 hsr0 (by omega) nm1 ky1 vk1 sr1 hsr1 (by omega) kd2 nm2 ky2 au2 vk2 ha2 kd3 nm3 ky3 au3 vk3 ha3 ep4 x4 y4 z4 sg4 vs4 ha4 (by omega) ep5 x5 y5 z5 sg5 vs5 ha5 (by omega) ds6 en6 ix6 va6 vs6 ⟨hpp6.1, hpp6.2.1⟩ ds7 en7 ix7 va7 vs7 ⟨hpp7.1, hpp7.2.1⟩ W hk0 hk1 hk2 hk3 hk4 hk5 hd6 hd7).mono fun e W' ⟨he, hw⟩ => ?_
  subst he
  exact ⟨_, rfl, _, _, _, [], _, [], hW', trodAll_mk1 (shut_bool Try.underlying4 _), trodAll_mk8 (Below.trod laid_out readable_binding row_binding h0 hw hp0) (Below.trod laid_out readable_binding row_binding h1 hw hp1) (Below.trod laid_out readable_request row_request h2 hw hp2) (Below.trod laid_out readable_request row_request h3 hw hp3) (Below.trod laid_out readable_signed row_signed h4 hw hp4) (Below.trod laid_out readable_signed row_signed h5 hw hp5) (Below.trod laid_out readable_proof row_proof h6 hw hp6) (Below.trod laid_out readable_proof row_proof h7 hw hp7), rfl, hw.frame _, fun h => by cases h⟩
theorem recordApart_holds : Rows.RecordApartUptoSaid :=
  OpenClaim.holds_of_cond 8 Try.f8 rfl rfl rfl rfl rfl rfl rfl ⟨rfl, rfl, rfl, rfl, rfl⟩ rfl rfl rfl rfl rfl (by kernel_rfl) Try.func8 (by kernel_rfl)
    (of_decide_eq_true (by kernel_rfl)) (by unfold Func.isWrapper; first | (rw [if_pos (by decide +kernel)]; kernel_rfl) | (rw [if_neg (by decide +kernel)]; exact ⟨rfl, rfl⟩))
    (fun os started H enc _ F => recordApart_lifted os started H enc F)
#print axioms recordApart_holds
end Go.Proofs.Ytldbcglakeggaaa

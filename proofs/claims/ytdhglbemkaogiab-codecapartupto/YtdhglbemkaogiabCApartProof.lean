/- The statement CodecApart is proved where the arguments hold together at most 1048576 values (the second form, 'Upto': the first one is false by size): its call returns true and leaves its arguments as they were. -/
import Derived.Test.YtdhglbemkaogiabRows
import Derived.Test.YtdhglbemkaogiabCApartWalk
import Derived.Test.YtdhglbemkaogiabOpenC
namespace Go.Proofs.Ytdhglbemkaogiab
open Go.ChangeShapes Go.WideShapes Go.ChangeAt Go.WideMaps Go.WideElems Go.RowKit
set_option maxRecDepth 100000 in
theorem codecApart_lifted (os : Os) (started : os.Started) (H : Type) (enc : TypeId × Value → H) (F : Stop.Interp) :
    ReturnsInHanded {} Try.checked os 3 .any ((Rows.OpenSpec.upto Rows.codecApartSpec).pre6 enc Try.prog Try.f3 Rows.codecApartUptoRow.domain false) (((Rows.OpenSpec.upto Rows.codecApartSpec).at F).post enc Try.prog Try.f3 false true false false) := by
  refine returnsInHanded_of_cond (C := Try.checked) (s := Rows.OpenSpec.upto Rows.codecApartSpec) (k := Rows.uptoSmall) rfl own started (by kernel_rfl) Try.func3
    (OpenSpec.witness (enc := enc) (C := Try.checked) (s := Rows.OpenSpec.upto Rows.codecApartSpec) (k := Rows.uptoSmall) rfl false ⟨#[], #[.slice none 0 0, .slice none 0 0, .slice none 0 0, .slice none 0 0], []⟩ 8 (by kernel_rfl) (by kernel_rfl) (by kernel_rfl)
      (x := ([.nil, .nil, .nil, .nil], [], [])) (by kernel_rfl) rfl (by kernel_rfl)) ?_
  intro W base args ds gs before hval0 hW _ hk _
  have hval : ∀ (j : Nat) t v, Try.f3.params[j]? = some t → args[j]? = some v → Value.okWide Try.prog W .any base t v := hval0
  have hW' := hW
  obtain ⟨p, q, hA0, hV, rfl, hfz, hnd⟩ := hW
  have hA : DataW.TrodAll enc Try.prog W 0 (fun _ => true) true Try.f3.params.toList args.toList ds p := hA0
  rw [Try.params3] at hA hval
  obtain ⟨v0, v1, v2, v3, d0, d1, d2, d3, p0, p1, p2, p3, rfl, rfl, rfl, h0, h1, h2, h3⟩ := trodAll_four hA
  obtain ⟨rfl, rfl⟩ := trodVars_none hV
  obtain ⟨ns0, hr0, hl0, hn0, hp0⟩ := readsN_of_trod (hval 0 22 v0 rfl rfl) h0
  obtain ⟨ns1, hr1, hl1, hn1, hp1⟩ := readsN_of_trod (hval 1 22 v1 rfl rfl) h1
  obtain ⟨ls2, hr2, hl2, hb2, hp2⟩ := readsL_of_trod (hval 2 23 v2 rfl rfl) h2
  obtain ⟨ls3, hr3, hl3, hb3, hp3⟩ := readsL_of_trod (hval 3 23 v3 rfl rfl) h3
  have hs : Rows.uptoBulk d0 + Rows.uptoBulk d1 + Rows.uptoBulk d2 + Rows.uptoBulk d3 ≤ 1048576 := by
    have h := of_decide_eq_true hk
    simp only [List.append_nil, Rows.uptoBulkAll] at h
    omega
  clear hA0 hval0
  simp only [List.append_nil, List.append_assoc] at hW'
  refine (capart_law v0 v1 v2 v3 ns0 ns1 ls2 ls3 W hr0 hr1 hr2 hr3 hn0 hn1 (by omega) (by omega) (by omega) (by omega) (by omega) (by omega)).mono fun e W' ⟨he, hw⟩ => ?_
  subst he
  exact ⟨_, rfl, _, _, _, [], _, [], hW', trodAll_mk1 (shut_bool Try.underlying4 _), trodAll_mk4 (Below.trod laid_out readable_nums row_nums h0 hw hp0) (Below.trod laid_out readable_nums row_nums h1 hw hp1) (Below.trod laid_out readable_bytess row_bytess h2 hw hp2) (Below.trod laid_out readable_bytess row_bytess h3 hw hp3), rfl, hw.frame _, fun h => by cases h⟩
theorem codecApart_holds : Rows.CodecApartUptoSaid :=
  OpenClaim.holds_of_cond 3 Try.f3 rfl rfl rfl rfl rfl rfl rfl ⟨rfl, rfl, rfl, rfl, rfl⟩ rfl rfl rfl rfl rfl (by kernel_rfl) Try.func3 (by kernel_rfl)
    (of_decide_eq_true (by kernel_rfl)) (by unfold Func.isWrapper; first | (rw [if_pos (by decide +kernel)]; kernel_rfl) | (rw [if_neg (by decide +kernel)]; exact ⟨rfl, rfl⟩))
    (fun os started H enc _ F => codecApart_lifted os started H enc F)
#print axioms codecApart_holds
end Go.Proofs.Ytdhglbemkaogiab

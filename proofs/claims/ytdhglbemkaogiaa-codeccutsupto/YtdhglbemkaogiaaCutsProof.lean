/- The statement CodecCuts is proved where the arguments hold together at most 1048576 values (the second form, 'Upto': the first one is false by size): its call returns true and leaves its arguments as they were. -/
import Derived.Test.YtdhglbemkaogiaaRows
import Derived.Test.YtdhglbemkaogiaaCutsWalk
import Derived.Test.YtdhglbemkaogiaaOpenC
namespace Go.Proofs.Ytdhglbemkaogiaa
open Go.ChangeShapes Go.WideShapes Go.ChangeAt Go.WideMaps Go.WideElems Go.RowKit
set_option maxRecDepth 100000 in
theorem codecCuts_lifted (os : Os) (started : os.Started) (H : Type) (enc : TypeId × Value → H) (F : Stop.Interp) :
    ReturnsInHanded {} Try.checked os 8 .any ((Rows.OpenSpec.upto Rows.codecCutsSpec).pre6 enc Try.prog Try.f8 Rows.codecCutsUptoRow.domain false) (((Rows.OpenSpec.upto Rows.codecCutsSpec).at F).post enc Try.prog Try.f8 false true false false) := by
  refine returnsInHanded_of_cond (C := Try.checked) (s := Rows.OpenSpec.upto Rows.codecCutsSpec) (k := Rows.uptoSmall) rfl own started (by kernel_rfl) Try.func8
    (OpenSpec.witness (enc := enc) (C := Try.checked) (s := Rows.OpenSpec.upto Rows.codecCutsSpec) (k := Rows.uptoSmall) rfl false ⟨#[], #[.slice none 0 0, .slice none 0 0, .int .u16 0, .int .u8 0], []⟩ 8 (by kernel_rfl) (by kernel_rfl) (by kernel_rfl)
      (x := ([.nil, .nil, .lit (.int .u16 0), .lit (.int .u8 0)], [], [])) (by kernel_rfl) rfl (by kernel_rfl)) ?_
  intro W base args ds gs before hval0 hW _ hk _
  have hval : ∀ (j : Nat) t v, Try.f8.params[j]? = some t → args[j]? = some v → Value.okWide Try.prog W .any base t v := hval0
  have hW' := hW
  obtain ⟨p, q, hA0, hV, rfl, hfz, hnd⟩ := hW
  have hA : DataW.TrodAll enc Try.prog W 0 (fun _ => true) true Try.f8.params.toList args.toList ds p := hA0
  rw [Try.params8] at hA hval
  obtain ⟨v0, v1, v2, v3, d0, d1, d2, d3, p0, p1, p2, p3, rfl, rfl, rfl, h0, h1, h2, h3⟩ := trodAll_four hA
  obtain ⟨rfl, rfl⟩ := trodVars_none hV
  obtain ⟨ns0, hr0, hl0, hn0, hp0⟩ := readsN_of_trod (hval 0 36 v0 rfl rfl) h0
  obtain ⟨ls1, hr1, hl1, hb1, hp1⟩ := readsL_of_trod (hval 1 32 v1 rfl rfl) h1
  obtain ⟨x2, rfl, rfl, rfl, wx2⟩ := open_int Try.underlying58 (hval 2 58 v2 rfl rfl) h2
  have bx2 := bounds_u16 wx2
  obtain ⟨n2, rfl⟩ : ∃ n : Nat, x2 = (n : Int) := ⟨x2.toNat, by omega⟩
  obtain ⟨x3, rfl, rfl, rfl, wx3⟩ := open_int Try.underlying5 (hval 3 5 v3 rfl rfl) h3
  have bx3 := bounds_u8 wx3
  obtain ⟨n3, rfl⟩ : ∃ n : Nat, x3 = (n : Int) := ⟨x3.toNat, by omega⟩
  obtain ⟨b3, rfl⟩ : ∃ b : BitVec 8, n3 = b.toNat := ⟨BitVec.ofNat 8 n3, by rw [BitVec.toNat_ofNat]; omega⟩
  have hs : Rows.uptoBulk d0 + Rows.uptoBulk d1 + 0 + 0 ≤ 1048576 := by
    have h := of_decide_eq_true hk
    simp only [List.append_nil, Rows.uptoBulkAll] at h
    omega
  clear hA0 hval0
  simp only [List.append_nil] at hW'
  refine (cuts_law v0 v1 ns0 ls1 n2 b3 W (by omega) hr0 hr1 hn0 (by omega) (by omega) (by omega)).mono fun e W' ⟨he, hw⟩ => ?_
  subst he
  exact ⟨_, rfl, _, _, _, [], _, [], hW', trodAll_mk1 (shut_bool Try.underlying4 _), trodAll_mk4 (Below.trod laid_out readable_nums row_nums h0 hw hp0) (Below.trod laid_out readable_bytess row_bytess h1 hw hp1) (shut_int Try.underlying58 wx2) (shut_int Try.underlying5 wx3), rfl, hw.frame _, fun h => by cases h⟩
theorem codecCuts_holds : Rows.CodecCutsUptoSaid :=
  OpenClaim.holds_of_cond 8 Try.f8 rfl rfl rfl rfl rfl rfl rfl ⟨rfl, rfl, rfl, rfl, rfl⟩ rfl rfl rfl rfl rfl (by kernel_rfl) Try.func8 (by kernel_rfl)
    (of_decide_eq_true (by kernel_rfl)) (by unfold Func.isWrapper; first | (rw [if_pos (by decide +kernel)]; kernel_rfl) | (rw [if_neg (by decide +kernel)]; exact ⟨rfl, rfl⟩))
    (fun os started H enc _ F => codecCuts_lifted os started H enc F)
#print axioms codecCuts_holds
end Go.Proofs.Ytdhglbemkaogiaa

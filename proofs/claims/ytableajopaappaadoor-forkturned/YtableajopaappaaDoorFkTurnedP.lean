/- Evidence holds as well with its two roots exchanged; with one root twice, or with a root ahead of them let go, it does not -/
import Derived.Test.YtableajopaappaaDoorMgd
import Derived.Test.YtableajopaappaaDoorCards
import Derived.Test.YtableajopaappaaDoorTie
import Derived.Test.YtableajopaappaaDoorMge
import Derived.SevenTiedAt
namespace Go.Proofs.YtableajopaappaaDoor
open Go.ChangeShapes Go.WideShapes Go.ChangeAt Go.WideMaps Go.WideElems Go.RowKit
set_option maxRecDepth 100000
set_option maxRecDepth 100000 in
theorem forkTurned_lifted (os : Os) (started : os.Started) (H : Type) (enc : TypeId × Value → H) :
    ReturnsInHanded {} Tryd.checked os 8 .any (fun w args => (Rows.forkTurnedSpec.pre enc Tryd.prog Tryd.f8 [] false w args ∧ laidMetH Tryd.prog laidK w) ∧ sizedMet enc Tryd.prog Tryd.f8 (OpenSpec.ofChange Rows.forkTurnedSpec) false w args)
      (Rows.forkTurnedSpec.post enc Tryd.prog Tryd.f8 false true false false) := by
  refine returnsInHanded_of_change_and (C := Tryd.checked) (X := fun w _ => laidMetH Tryd.prog laidK w) (fun _ _ _ hh h => h.of_heap hh) own started (by kernel_rfl) Tryd.func8
    (ChangeSpec.witness_shaped (enc := enc) (C := Tryd.checked) (os := os) (X := fun w _ => laidMetH Tryd.prog laidK w) false (World.doorLaid Tryd.prog 400 os) #[.agg (cb zb32).toArray, .agg (evC zeroE (.slice none 0 0) (.slice none 0 0) (.slice none 0 0)).toArray] 8 rfl (World.shaped_of_RefB (by kernel_rfl) (by kernel_rfl)) (by kernel_rfl) (by kernel_rfl) (by kernel_rfl) (door_met os _)) ?_
  intro W base args ds gs before hval0 hW _ _ hL _
  have hval : ∀ (j : Nat) t v, Tryd.f8.params[j]? = some t → args[j]? = some v → Value.okWide Tryd.prog W .any base t v := hval0
  have hW' := hW
  obtain ⟨p, q, hA0, hV, rfl, hfz, hnd⟩ := hW
  have hA : DataW.TrodAll enc Tryd.prog W 0 (fun _ => true) true Tryd.f8.params.toList args.toList ds p := hA0
  rw [Tryd.params8] at hA hval
  obtain ⟨v0, v1, d0, d1, p0, p1, rfl, rfl, rfl, h0, h1⟩ := trodAll_two hA
  obtain ⟨rfl, rfl⟩ := trodVars_none hV
  obtain ⟨dg0, rfl, hdl0, hp0⟩ := digest_of_trod (hval 0 23 v0 rfl rfl) h0
  obtain ⟨ev1, cs1, rfl, hE1, hsz1, hp1⟩ := evid_sized (hval 1 32 v1 rfl rfl) h1
  have hk := kok_of_laid hL
  clear hA0 hval0
  simp only [List.append_nil] at hW'
  refine (forkTurned_law fkOps dg0 ev1 cs1 W hk hdl0 hE1).mono fun e W' ⟨he, hw⟩ => ?_
  subst he
  exact ⟨_, rfl, _, _, _, [], _, [], hW', trodAll_mk1 (shut_bool Tryd.underlying4 _), trodAll_mk2 (Below.trod laid_out readable_digest row_digest h0 hw hp0) (Below.trod laid_out readable_evid row_evid h1 hw hp1), rfl, hw.frame _, fun h => by cases h⟩
theorem forkTurned_holds : Rows.ForkTurnedSaid :=
  OpenClaim.holds_of_wide 8 Tryd.f8 rfl rfl rfl rfl rfl rfl rfl ⟨rfl, rfl, rfl, rfl, rfl⟩ rfl rfl rfl rfl rfl (by kernel_rfl) Tryd.func8 (by kernel_rfl)
    (of_decide_eq_true (by kernel_rfl)) (by unfold Func.isWrapper; first | (rw [if_pos (by decide +kernel)]; kernel_rfl) | (rw [if_neg (by decide +kernel)]; exact ⟨rfl, rfl⟩))
    (fun os started H enc _ => forkTurned_lifted os started H enc)
theorem forkTurned_card : Rows.ForkTurnedCardSaid :=
  Claim7.holds_tied_plain_at .later [] [.data] true (true, "b289a3f6d08f23b9db2f5cbb99bfd652816d1784c975392a2e6c5c51d270ab61") true
    (forkTurned_holds) (fun _ h => by cases h) (by kernel_rfl) (fun _ h => by cases h) forkTurned_row_tie rfl ⟨rfl, rfl⟩ (by kernel_rfl) rfl
    (fun f fn hf hfn => by
      obtain rfl : f = 8 := Option.some.inj ((show Tryd.prog.funcNamed "blazon/blazonlaw12.ForkTurned" = some 8 by kernel_rfl).symm.trans hf) |>.symm
      obtain rfl : fn = Tryd.f8 := (Option.some.inj (Tryd.func8.symm.trans hfn)).symm
      exact ⟨by kernel_rfl, fun j t ht => by
        rw [Tryd.params8] at ht
        have hm : t ∈ [23, 32] := by simpa using Array.mem_of_getElem? ht
        have hall : ([23, 32].all fun u => !Tryd.prog.wantsStandIn u) = true := by kernel_rfl
        exact (show Tryd.prog.wantsStandIn t = false by simpa using List.all_eq_true.1 hall t hm)⟩)
    (by kernel_rfl)
#print axioms forkTurned_card
end Go.Proofs.YtableajopaappaaDoor

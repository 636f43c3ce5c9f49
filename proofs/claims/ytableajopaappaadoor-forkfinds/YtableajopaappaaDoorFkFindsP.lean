/- Whatever two lists of roots are: if both can be followed from one pin, and at some place have unlike roots, evidence is found that holds; and what is found holds always -/
import Derived.Test.YtableajopaappaaDoorMge
import Derived.Test.YtableajopaappaaDoorCards
import Derived.Test.YtableajopaappaaDoorTie
import Derived.Test.YtableajopaappaaDoorMgf
import Derived.SevenTiedAt
namespace Go.Proofs.YtableajopaappaaDoor
open Go.ChangeShapes Go.WideShapes Go.ChangeAt Go.WideMaps Go.WideElems Go.RowKit
set_option maxRecDepth 100000
set_option maxRecDepth 100000 in
theorem forkFinds_lifted (os : Os) (started : os.Started) (H : Type) (enc : TypeId × Value → H) :
    ReturnsInHanded {} Tryd.checked os 6 .any (fun w args => (Rows.forkFindsSpec.pre enc Tryd.prog Tryd.f6 [] false w args ∧ laidMetH Tryd.prog laidK w) ∧ sizedMet enc Tryd.prog Tryd.f6 (OpenSpec.ofChange Rows.forkFindsSpec) false w args)
      (Rows.forkFindsSpec.post enc Tryd.prog Tryd.f6 false true false false) := by
  refine returnsInHanded_of_change_and (C := Tryd.checked) (X := fun w _ => laidMetH Tryd.prog laidK w) (fun _ _ _ hh h => h.of_heap hh) own started (by kernel_rfl) Tryd.func6
    (ChangeSpec.witness_shaped (enc := enc) (C := Tryd.checked) (os := os) (X := fun w _ => laidMetH Tryd.prog laidK w) false (World.doorLaid Tryd.prog 400 os) #[.agg (cb zb32).toArray, .slice none 0 0, .slice none 0 0] 8 rfl (World.shaped_of_RefB (by kernel_rfl) (by kernel_rfl)) (by kernel_rfl) (by kernel_rfl) (by kernel_rfl) (door_met os _)) ?_
  intro W base args ds gs before hval0 hW _ hz hL _
  have hval : ∀ (j : Nat) t v, Tryd.f6.params[j]? = some t → args[j]? = some v → Value.okWide Tryd.prog W .any base t v := hval0
  have hW' := hW
  obtain ⟨p, q, hA0, hV, rfl, hfz, hnd⟩ := hW
  have hA : DataW.TrodAll enc Tryd.prog W 0 (fun _ => true) true Tryd.f6.params.toList args.toList ds p := hA0
  rw [Tryd.params6] at hA hval
  obtain ⟨v0, v1, v2, d0, d1, d2, p0, p1, p2, rfl, rfl, rfl, h0, h1, h2⟩ := trodAll_three hA
  obtain ⟨rfl, rfl⟩ := trodVars_none hV
  have hz2 : (DataW.weightsEach Tryd.prog [23, 24, 24] [d0, d1, d2]).all (· ≤ reachBytes) = true := by
    rw [Tryd.params6] at hz
    exact hz
  simp only [DataW.weightsEach, List.all_append, Bool.and_eq_true] at hz2
  obtain ⟨hz_0, hz_1, hz_2, _⟩ := hz2
  clear hz
  obtain ⟨dg0, rfl, hdl0, hp0⟩ := digest_of_trod (hval 0 23 v0 rfl rfl) h0
  obtain ⟨ls1, hr1, hsz1, hp1⟩ := signeds_sized (hval 1 24 v1 rfl rfl) h1
  obtain ⟨ls2, hr2, hsz2, hp2⟩ := signeds_sized (hval 2 24 v2 rfl rfl) h2
  have hk := kok_of_laid hL
  clear hA0 hval0
  simp only [List.append_nil, List.append_assoc] at hW'
  refine (forkFinds_law fkOps dg0 v1 v2 ls1 ls2 W hk hdl0 hr1 hr2 (fun s hs => Nat.lt_of_le_of_lt (hsz1 reachBytes hz_1 s hs) (by decide)) (fun s hs => Nat.lt_of_le_of_lt (hsz2 reachBytes hz_2 s hs) (by decide))).mono fun e W' ⟨he, hw⟩ => ?_
  subst he
  exact ⟨_, rfl, _, _, _, [], _, [], hW', trodAll_mk1 (shut_bool Tryd.underlying4 _), trodAll_mk3 (Below.trod laid_out readable_digest row_digest h0 hw hp0) (Below.trod laid_out readable_signeds row_signeds h1 hw hp1) (Below.trod laid_out readable_signeds row_signeds h2 hw hp2), rfl, hw.frame _, fun h => by cases h⟩
theorem forkFinds_holds : Rows.ForkFindsSaid :=
  OpenClaim.holds_of_wide 6 Tryd.f6 rfl rfl rfl rfl rfl rfl rfl ⟨rfl, rfl, rfl, rfl, rfl⟩ rfl rfl rfl rfl rfl (by kernel_rfl) Tryd.func6 (by kernel_rfl)
    (of_decide_eq_true (by kernel_rfl)) (by unfold Func.isWrapper; first | (rw [if_pos (by decide +kernel)]; kernel_rfl) | (rw [if_neg (by decide +kernel)]; exact ⟨rfl, rfl⟩))
    (fun os started H enc _ => forkFinds_lifted os started H enc)
theorem forkFinds_card : Rows.ForkFindsCardSaid :=
  Claim7.holds_tied_plain_at .later [] [.data] true (true, "b289a3f6d08f23b9db2f5cbb99bfd652816d1784c975392a2e6c5c51d270ab61") true
    (forkFinds_holds) (fun _ h => by cases h) (by kernel_rfl) (fun _ h => by cases h) forkFinds_row_tie rfl ⟨rfl, rfl⟩ (by kernel_rfl) rfl
    (fun f fn hf hfn => by
      obtain rfl : f = 6 := Option.some.inj ((show Tryd.prog.funcNamed "blazon/blazonlaw12.ForkFinds" = some 6 by kernel_rfl).symm.trans hf) |>.symm
      obtain rfl : fn = Tryd.f6 := (Option.some.inj (Tryd.func6.symm.trans hfn)).symm
      exact ⟨by kernel_rfl, fun j t ht => by
        rw [Tryd.params6] at ht
        have hm : t ∈ [23, 24, 24] := by simpa using Array.mem_of_getElem? ht
        have hall : ([23, 24, 24].all fun u => !Tryd.prog.wantsStandIn u) = true := by kernel_rfl
        exact (show Tryd.prog.wantsStandIn t = false by simpa using List.all_eq_true.1 hall t hm)⟩)
    (by kernel_rfl)
#print axioms forkFinds_card
end Go.Proofs.YtableajopaappaaDoor

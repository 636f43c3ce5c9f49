/- Of any two texts, and of any two lists of texts, a pair is told just where there is one: unlike texts of one digest -/
import Derived.Test.YtpeifpoeeopecaaDoorMgd
import Derived.Test.YtpeifpoeeopecaaDoorMge
import Derived.Test.YtpeifpoeeopecaaDoorCards
import Derived.Test.YtpeifpoeeopecaaDoorTie
import Derived.SevenTiedAt
namespace Go.Proofs.YtpeifpoeeopecaaDoor
open Go.ChangeShapes Go.WideShapes Go.ChangeAt Go.WideMaps Go.WideElems Go.RowKit
set_option maxRecDepth 100000
set_option maxRecDepth 100000 in
theorem clashPairs_lifted (os : Os) (started : os.Started) (H : Type) (enc : TypeId × Value → H) :
    ReturnsInHanded {} Tryd.checked os 3 .any (fun w args => (Rows.clashPairsSpec.pre enc Tryd.prog Tryd.f3 [] false w args ∧ laidMetH Tryd.prog laidK w) ∧ sizedMet enc Tryd.prog Tryd.f3 (OpenSpec.ofChange Rows.clashPairsSpec) false w args)
      (Rows.clashPairsSpec.post enc Tryd.prog Tryd.f3 false true false false) := by
  refine returnsInHanded_of_change_and (C := Tryd.checked) (X := fun w _ => laidMetH Tryd.prog laidK w) (fun _ _ _ hh h => h.of_heap hh) own started (by kernel_rfl) Tryd.func3
    (ChangeSpec.witness_shaped (enc := enc) (C := Tryd.checked) (os := os) (X := fun w _ => laidMetH Tryd.prog laidK w) false (World.doorLaid Tryd.prog 400 os) #[.slice none 0 0, .slice none 0 0] 8 rfl (World.shaped_of_RefB (by kernel_rfl) (by kernel_rfl)) (by kernel_rfl) (by kernel_rfl) (by kernel_rfl) (door_met os _)) ?_
  intro W base args ds gs before hval0 hW _ hz hL _
  have hval : ∀ (j : Nat) t v, Tryd.f3.params[j]? = some t → args[j]? = some v → Value.okWide Tryd.prog W .any base t v := hval0
  have hW' := hW
  obtain ⟨p, q, hA0, hV, rfl, hfz, hnd⟩ := hW
  have hA : DataW.TrodAll enc Tryd.prog W 0 (fun _ => true) true Tryd.f3.params.toList args.toList ds p := hA0
  rw [Tryd.params3] at hA hval
  obtain ⟨v0, v1, d0, d1, p0, p1, rfl, rfl, rfl, h0, h1⟩ := trodAll_two hA
  obtain ⟨rfl, rfl⟩ := trodVars_none hV
  have hz2 : (DataW.weightsEach Tryd.prog [22, 22] [d0, d1]).all (· ≤ reachBytes) = true := by
    rw [Tryd.params3] at hz
    exact hz
  simp only [DataW.weightsEach, List.all_append, Bool.and_eq_true] at hz2
  obtain ⟨hz_0, hz_1, _⟩ := hz2
  clear hz
  obtain ⟨ls0, hr0, hsz0, hp0⟩ := readsL_sized (hval 0 22 v0 rfl rfl) h0
  obtain ⟨ls1, hr1, hsz1, hp1⟩ := readsL_sized (hval 1 22 v1 rfl rfl) h1
  have hk := kok_of_laid hL
  clear hA0 hval0
  simp only [List.append_nil] at hW'
  refine (clashPairs_law pfOps (clOps pfOps) v0 v1 ls0 ls1 W hk hr0 hr1 (by have h9 := (hsz0 _ hz_0).1; unfold reachBytes at h9; omega) (fun t ht => by have h9 := (hsz0 _ hz_0).2 t ht; unfold reachBytes at h9; omega) (fun t ht => by have h9 := (hsz1 _ hz_1).2 t ht; unfold reachBytes at h9; omega)).mono fun e W' ⟨he, hw⟩ => ?_
  subst he
  exact ⟨_, rfl, _, _, _, [], _, [], hW', trodAll_mk1 (shut_bool Tryd.underlying4 _), trodAll_mk2 (Below.trod laid_out readable_bytess row_bytess h0 hw hp0) (Below.trod laid_out readable_bytess row_bytess h1 hw hp1), rfl, hw.frame _, fun h => by cases h⟩
theorem clashPairs_holds : Rows.ClashPairsSaid :=
  OpenClaim.holds_of_wide 3 Tryd.f3 rfl rfl rfl rfl rfl rfl rfl ⟨rfl, rfl, rfl, rfl, rfl⟩ rfl rfl rfl rfl rfl (by kernel_rfl) Tryd.func3 (by kernel_rfl)
    (of_decide_eq_true (by kernel_rfl)) (by unfold Func.isWrapper; first | (rw [if_pos (by decide +kernel)]; kernel_rfl) | (rw [if_neg (by decide +kernel)]; exact ⟨rfl, rfl⟩))
    (fun os started H enc _ => clashPairs_lifted os started H enc)
theorem clashPairs_card : Rows.ClashPairsCardSaid :=
  Claim7.holds_tied_plain_at .later [] [.data] true (true, "3c39219a27d2b001d0c60cb3fb753b15e4f5b48ca05df88361412591f44976fb") false
    (clashPairs_holds) (fun _ h => by cases h) (by kernel_rfl) (fun _ h => by cases h) clashPairs_row_tie rfl ⟨rfl, rfl⟩ (by kernel_rfl) rfl
    (fun f fn hf hfn => by
      obtain rfl : f = 3 := Option.some.inj ((show Tryd.prog.funcNamed "blazon/blazonlaw09.ClashPairs" = some 3 by kernel_rfl).symm.trans hf) |>.symm
      obtain rfl : fn = Tryd.f3 := (Option.some.inj (Tryd.func3.symm.trans hfn)).symm
      exact ⟨by kernel_rfl, fun j t ht => by
        rw [Tryd.params3] at ht
        have hm : t ∈ [22, 22] := by simpa using Array.mem_of_getElem? ht
        have hall : ([22, 22].all fun u => !Tryd.prog.wantsStandIn u) = true := by kernel_rfl
        exact (show Tryd.prog.wantsStandIn t = false by simpa using List.all_eq_true.1 hall t hm)⟩)
    (by kernel_rfl)
#print axioms clashPairs_card
end Go.Proofs.YtpeifpoeeopecaaDoor

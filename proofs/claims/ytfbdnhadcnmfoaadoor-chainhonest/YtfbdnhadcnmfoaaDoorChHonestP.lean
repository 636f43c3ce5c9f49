/- What a seed seals, epoch by epoch, over any trees, can be followed from its pin to the end; the head then has the last root's digest -/
import Derived.Test.YtfbdnhadcnmfoaaDoorMgd
import Derived.Test.YtfbdnhadcnmfoaaDoorCards
import Derived.Test.YtfbdnhadcnmfoaaDoorTie
import Derived.Test.YtfbdnhadcnmfoaaDoorMge
import Derived.SevenTiedAt
namespace Go.Proofs.YtfbdnhadcnmfoaaDoor
open Go.ChangeShapes Go.WideShapes Go.ChangeAt Go.WideMaps Go.WideElems Go.RowKit
set_option maxRecDepth 100000
set_option maxRecDepth 100000 in
theorem chainHonest_lifted (os : Os) (started : os.Started) (H : Type) (enc : TypeId × Value → H) :
    ReturnsInHanded {} Tryd.checked os 6 .any (fun w args => (Rows.chainHonestSpec.pre enc Tryd.prog Tryd.f6 [] false w args ∧ laidMetH Tryd.prog laidK w) ∧ sizedMet enc Tryd.prog Tryd.f6 (OpenSpec.ofChange Rows.chainHonestSpec) false w args)
      (Rows.chainHonestSpec.post enc Tryd.prog Tryd.f6 false true false false) := by
  refine returnsInHanded_of_change_and (C := Tryd.checked) (X := fun w _ => laidMetH Tryd.prog laidK w) (fun _ _ _ hh h => h.of_heap hh) own started (by kernel_rfl) Tryd.func6
    (ChangeSpec.witness_shaped (enc := enc) (C := Tryd.checked) (os := os) (X := fun w _ => laidMetH Tryd.prog laidK w) false (World.doorLaid Tryd.prog 400 os) #[.agg (cb zb32).toArray, .slice none 0 0] 8 rfl (World.shaped_of_RefB (by kernel_rfl) (by kernel_rfl)) (by kernel_rfl) (by kernel_rfl) (by kernel_rfl) (door_met os _)) ?_
  intro W base args ds gs before hval0 hW _ _ hL _
  have hval : ∀ (j : Nat) t v, Tryd.f6.params[j]? = some t → args[j]? = some v → Value.okWide Tryd.prog W .any base t v := hval0
  have hW' := hW
  obtain ⟨p, q, hA0, hV, rfl, hfz, hnd⟩ := hW
  have hA : DataW.TrodAll enc Tryd.prog W 0 (fun _ => true) true Tryd.f6.params.toList args.toList ds p := hA0
  rw [Tryd.params6] at hA hval
  obtain ⟨v0, v1, d0, d1, p0, p1, rfl, rfl, rfl, h0, h1⟩ := trodAll_two hA
  obtain ⟨rfl, rfl⟩ := trodVars_none hV
  obtain ⟨dg0, rfl, hdl0, hp0⟩ := digest_of_trod (hval 0 23 v0 rfl rfl) h0
  obtain ⟨ds1, hr1, _hl1, hp1⟩ := readsD_of_trod (hval 1 47 v1 rfl rfl) h1
  have hk := kok_of_laid hL
  clear hA0 hval0
  simp only [List.append_nil] at hW'
  refine (chainHonest_law chOps dg0 v1 ds1 W hk hdl0 hr1).mono fun e W' ⟨he, hw⟩ => ?_
  subst he
  exact ⟨_, rfl, _, _, _, [], _, [], hW', trodAll_mk1 (shut_bool Tryd.underlying4 _), trodAll_mk2 (Below.trod laid_out readable_digest row_digest h0 hw hp0) (Below.trod laid_out readable_digests row_digests h1 hw hp1), rfl, hw.frame _, fun h => by cases h⟩
theorem chainHonest_holds : Rows.ChainHonestSaid :=
  OpenClaim.holds_of_wide 6 Tryd.f6 rfl rfl rfl rfl rfl rfl rfl ⟨rfl, rfl, rfl, rfl, rfl⟩ rfl rfl rfl rfl rfl (by kernel_rfl) Tryd.func6 (by kernel_rfl)
    (of_decide_eq_true (by kernel_rfl)) (by unfold Func.isWrapper; first | (rw [if_pos (by decide +kernel)]; kernel_rfl) | (rw [if_neg (by decide +kernel)]; exact ⟨rfl, rfl⟩))
    (fun os started H enc _ => chainHonest_lifted os started H enc)
theorem chainHonest_card : Rows.ChainHonestCardSaid :=
  Claim7.holds_tied_plain_at .later [] [.data] true (true, "1f2ae4241de1f39c87aa992bebcf1d71174a385ccb153dc37ccbbd7e6013458b") false
    (chainHonest_holds) (fun _ h => by cases h) (by kernel_rfl) (fun _ h => by cases h) chainHonest_row_tie rfl ⟨rfl, rfl⟩ (by kernel_rfl) rfl
    (fun f fn hf hfn => by
      obtain rfl : f = 6 := Option.some.inj ((show Tryd.prog.funcNamed "blazon/blazonlaw11.ChainHonest" = some 6 by kernel_rfl).symm.trans hf) |>.symm
      obtain rfl : fn = Tryd.f6 := (Option.some.inj (Tryd.func6.symm.trans hfn)).symm
      exact ⟨by kernel_rfl, fun j t ht => by
        rw [Tryd.params6] at ht
        have hm : t ∈ [23, 47] := by simpa using Array.mem_of_getElem? ht
        have hall : ([23, 47].all fun u => !Tryd.prog.wantsStandIn u) = true := by kernel_rfl
        exact (show Tryd.prog.wantsStandIn t = false by simpa using List.all_eq_true.1 hall t hm)⟩)
    (by kernel_rfl)
#print axioms chainHonest_card
end Go.Proofs.YtfbdnhadcnmfoaaDoor

/- For all two roots: their bytes are the same just if the roots are, whatever order Go takes; the arguments stay as they are. The package variable of sha starts as the text lays it. -/
import Derived.Test.YtaleeaocmomjlaaDoorCards
import Derived.Test.YtaleeaocmomjlaaDoorTie
import Derived.Test.YtaleeaocmomjlaaDoorRootsWalk
import Derived.Test.YtaleeaocmomjlaaDoorOpenT
import Derived.SevenTiedAt
namespace Go.Proofs.YtaleeaocmomjlaaDoor
open Go.ChangeShapes Go.WideShapes Go.ChangeAt Go.WideMaps Go.WideElems Go.RowKit
set_option maxRecDepth 100000 in
theorem tagsRoots_lifted (os : Os) (started : os.Started) (H : Type) (enc : TypeId × Value → H) :
    ReturnsInHanded {} Tryd.checked os 6 .any (fun w args => (Rows.tagsRootsSpec.pre enc Tryd.prog Tryd.f6 [] false w args ∧ laidMetH Tryd.prog laidK w) ∧ sizedMet enc Tryd.prog Tryd.f6 (OpenSpec.ofChange Rows.tagsRootsSpec) false w args)
      (Rows.tagsRootsSpec.post enc Tryd.prog Tryd.f6 false true false false) := by
  refine returnsInHanded_of_change_and (C := Tryd.checked) (X := fun w _ => laidMetH Tryd.prog laidK w) (fun _ _ _ hh h => h.of_heap hh) own started (by kernel_rfl) Tryd.func6
    (ChangeSpec.witness_shaped (enc := enc) (C := Tryd.checked) (os := os) (X := fun w _ => laidMetH Tryd.prog laidK w) false (World.doorLaid Tryd.prog 400 os) #[.agg (Value.int .u64 0 :: (cb zb32 ++ (cb zb32 ++ cb zb32))).toArray, .agg (Value.int .u64 0 :: (cb zb32 ++ (cb zb32 ++ cb zb32))).toArray] 8 rfl (World.shaped_of_RefB (by kernel_rfl) (by kernel_rfl)) (by kernel_rfl) (by kernel_rfl) (by kernel_rfl) (door_met os _)) ?_
  intro W base args ds gs before hval0 hW _ _ hL _
  have hval : ∀ (j : Nat) t v, Tryd.f6.params[j]? = some t → args[j]? = some v → Value.okWide Tryd.prog W .any base t v := hval0
  have hW' := hW
  obtain ⟨p, q, hA0, hV, rfl, hfz, hnd⟩ := hW
  have hA : DataW.TrodAll enc Tryd.prog W 0 (fun _ => true) true Tryd.f6.params.toList args.toList ds p := hA0
  rw [Tryd.params6] at hA hval
  obtain ⟨v0, v1, d0, d1, p0, p1, rfl, rfl, rfl, h0, h1⟩ := trodAll_two hA
  obtain ⟨rfl, rfl⟩ := trodVars_none hV
  obtain ⟨sr0, x0, y0, z0, rfl, hr0, hp0⟩ := root_of_trod (hval 0 29 v0 rfl rfl) h0
  obtain ⟨sr1, x1, y1, z1, rfl, hr1, hp1⟩ := root_of_trod (hval 1 29 v1 rfl rfl) h1
  have hk := kok_of_laid hL
  clear hA0 hval0
  simp only [List.append_nil] at hW'
  refine (tagsRoots_any x0 y0 z0 x1 y1 z1 sr0 sr1 W hk hr0 hr1).mono fun e W' ⟨he, hw⟩ => ?_
  subst he
  exact ⟨_, rfl, _, _, _, [], _, [], hW', trodAll_mk1 (shut_bool Tryd.underlying4 _), trodAll_mk2 (Below.trod laid_out readable_root row_root h0 hw hp0) (Below.trod laid_out readable_root row_root h1 hw hp1), rfl, hw.frame _, fun h => by cases h⟩
theorem tagsRoots_holds : Rows.TagsRootsSaid :=
  OpenClaim.holds_of_wide 6 Tryd.f6 rfl rfl rfl rfl rfl rfl rfl ⟨rfl, rfl, rfl, rfl, rfl⟩ rfl rfl rfl rfl rfl (by kernel_rfl) Tryd.func6 (by kernel_rfl)
    (of_decide_eq_true (by kernel_rfl)) (by unfold Func.isWrapper; first | (rw [if_pos (by decide +kernel)]; kernel_rfl) | (rw [if_neg (by decide +kernel)]; exact ⟨rfl, rfl⟩))
    (fun os started H enc _ => tagsRoots_lifted os started H enc)
theorem tagsRoots_card : Rows.TagsRootsCardSaid :=
  Claim7.holds_tied_plain_at .later [] [.data] true (true, "20f707777ce154501b37c513ed49b206dccb39b17132f9cdb2d5989e1c6e70e9") false
    tagsRoots_holds (fun _ h => by cases h) (by kernel_rfl) (fun _ h => by cases h) tagsRoots_row_tie rfl ⟨rfl, rfl⟩ (by kernel_rfl) rfl
    (fun f fn hf hfn => by
      obtain rfl : f = 6 := Option.some.inj ((show Tryd.prog.funcNamed "blazon/blazonlaw03.TagsRoots" = some 6 by kernel_rfl).symm.trans hf) |>.symm
      obtain rfl : fn = Tryd.f6 := (Option.some.inj (Tryd.func6.symm.trans hfn)).symm
      exact ⟨by kernel_rfl, fun j t ht => by
        rw [Tryd.params6] at ht
        have hm : t ∈ [29, 29] := by simpa using Array.mem_of_getElem? ht
        have hall : ([29, 29].all fun u => !Tryd.prog.wantsStandIn u) = true := by kernel_rfl
        exact (show Tryd.prog.wantsStandIn t = false by simpa using List.all_eq_true.1 hall t hm)⟩)
    (by kernel_rfl)
#print axioms tagsRoots_card
end Go.Proofs.YtaleeaocmomjlaaDoor

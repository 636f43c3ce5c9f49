/- For all pairs of digests and all bindings: bytes of leaves and of trees of two are the same just if the digests are, bytes of bindings just if the salts and the bindings are, whatever order Go takes; the arguments stay as they are. The package variable of sha starts as the text lays it. -/
import Derived.Test.YtaleeaocmomjlaaDoorCards
import Derived.Test.YtaleeaocmomjlaaDoorTie
import Derived.Test.YtaleeaocmomjlaaDoorApartWalk
import Derived.Test.YtaleeaocmomjlaaDoorOpenT
import Derived.SevenTiedAt
namespace Go.Proofs.YtaleeaocmomjlaaDoor
open Go.ChangeShapes Go.WideShapes Go.ChangeAt Go.WideMaps Go.WideElems Go.RowKit
set_option maxRecDepth 100000 in
theorem tagsApart_lifted (os : Os) (started : os.Started) (H : Type) (enc : TypeId × Value → H) :
    ReturnsInHanded {} Tryd.checked os 5 .any (fun w args => (Rows.tagsApartSpec.pre enc Tryd.prog Tryd.f5 [] false w args ∧ laidMetH Tryd.prog laidK w) ∧ sizedMet enc Tryd.prog Tryd.f5 (OpenSpec.ofChange Rows.tagsApartSpec) false w args)
      (Rows.tagsApartSpec.post enc Tryd.prog Tryd.f5 false true false false) := by
  refine returnsInHanded_of_change_and (C := Tryd.checked) (X := fun w _ => laidMetH Tryd.prog laidK w) (fun _ _ _ hh h => h.of_heap hh) own started (by kernel_rfl) Tryd.func5
    (ChangeSpec.witness_shaped (enc := enc) (C := Tryd.checked) (os := os) (X := fun w _ => laidMetH Tryd.prog laidK w) false (World.doorLaid Tryd.prog 400 os) #[.agg (cb zb32 ++ cb zb32).toArray, .agg (cb zb32 ++ cb zb32).toArray, .agg #[.string ⟨#[]⟩, .slice none 0 0, .int .u64 0], .agg #[.string ⟨#[]⟩, .slice none 0 0, .int .u64 0]] 8 rfl (World.shaped_of_RefB (by kernel_rfl) (by kernel_rfl)) (by kernel_rfl) (by kernel_rfl) (by kernel_rfl) (door_met os _)) ?_
  intro W base args ds gs before hval0 hW _ _ hL _
  have hval : ∀ (j : Nat) t v, Tryd.f5.params[j]? = some t → args[j]? = some v → Value.okWide Tryd.prog W .any base t v := hval0
  have hW' := hW
  obtain ⟨p, q, hA0, hV, rfl, hfz, hnd⟩ := hW
  have hA : DataW.TrodAll enc Tryd.prog W 0 (fun _ => true) true Tryd.f5.params.toList args.toList ds p := hA0
  rw [Tryd.params5] at hA hval
  obtain ⟨v0, v1, v2, v3, d0, d1, d2, d3, p0, p1, p2, p3, rfl, rfl, rfl, h0, h1, h2, h3⟩ := trodAll_four hA
  obtain ⟨rfl, rfl⟩ := trodVars_none hV
  obtain ⟨x0, y0, rfl, hl0, hp0⟩ := pair_of_trod (hval 0 43 v0 rfl rfl) h0
  obtain ⟨x1, y1, rfl, hl1, hp1⟩ := pair_of_trod (hval 1 43 v1 rfl rfl) h1
  obtain ⟨nm2, vk2, ky2, sr2, rfl, hr2, hs2, hp2⟩ := binding_of_trod (hval 2 27 v2 rfl rfl) h2
  obtain ⟨nm3, vk3, ky3, sr3, rfl, hr3, hs3, hp3⟩ := binding_of_trod (hval 3 27 v3 rfl rfl) h3
  have hk := kok_of_laid hL
  clear hA0 hval0
  simp only [List.append_nil, List.append_assoc] at hW'
  refine (tagsApart_any x0 y0 x1 y1 nm2 ky2 nm3 ky3 vk2 vk3 sr2 sr3 W hk hl0 hl1 hr2 hs2 hr3 hs3).mono fun e W' ⟨he, hw⟩ => ?_
  subst he
  exact ⟨_, rfl, _, _, _, [], _, [], hW', trodAll_mk1 (shut_bool Tryd.underlying4 _), trodAll_mk4 (Below.trod laid_out readable_pair row_pair h0 hw hp0) (Below.trod laid_out readable_pair row_pair h1 hw hp1) (Below.trod laid_out readable_binding row_binding h2 hw hp2) (Below.trod laid_out readable_binding row_binding h3 hw hp3), rfl, hw.frame _, fun h => by cases h⟩
theorem tagsApart_holds : Rows.TagsApartSaid :=
  OpenClaim.holds_of_wide 5 Tryd.f5 rfl rfl rfl rfl rfl rfl rfl ⟨rfl, rfl, rfl, rfl, rfl⟩ rfl rfl rfl rfl rfl (by kernel_rfl) Tryd.func5 (by kernel_rfl)
    (of_decide_eq_true (by kernel_rfl)) (by unfold Func.isWrapper; first | (rw [if_pos (by decide +kernel)]; kernel_rfl) | (rw [if_neg (by decide +kernel)]; exact ⟨rfl, rfl⟩))
    (fun os started H enc _ => tagsApart_lifted os started H enc)
theorem tagsApart_card : Rows.TagsApartCardSaid :=
  Claim7.holds_tied_plain_at .later [] [.data] true (true, "20f707777ce154501b37c513ed49b206dccb39b17132f9cdb2d5989e1c6e70e9") false
    tagsApart_holds (fun _ h => by cases h) (by kernel_rfl) (fun _ h => by cases h) tagsApart_row_tie rfl ⟨rfl, rfl⟩ (by kernel_rfl) rfl
    (fun f fn hf hfn => by
      obtain rfl : f = 5 := Option.some.inj ((show Tryd.prog.funcNamed "blazon/blazonlaw03.TagsApart" = some 5 by kernel_rfl).symm.trans hf) |>.symm
      obtain rfl : fn = Tryd.f5 := (Option.some.inj (Tryd.func5.symm.trans hfn)).symm
      exact ⟨by kernel_rfl, fun j t ht => by
        rw [Tryd.params5] at ht
        have hm : t ∈ [43, 43, 27, 27] := by simpa using Array.mem_of_getElem? ht
        have hall : ([43, 43, 27, 27].all fun u => !Tryd.prog.wantsStandIn u) = true := by kernel_rfl
        exact (show Tryd.prog.wantsStandIn t = false by simpa using List.all_eq_true.1 hall t hm)⟩)
    (by kernel_rfl)
#print axioms tagsApart_card
end Go.Proofs.YtaleeaocmomjlaaDoor

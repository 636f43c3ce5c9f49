/- For all bytes, every digest, every binding and every root: what any bytes are hashed for is told by their sign and length, and what is hashed for one thing is hashed for no other, whatever order Go takes; the arguments stay as they are. The package variable of sha starts as the text lays it. -/
import Derived.Test.YtaleeaocmomjlaaDoorCards
import Derived.Test.YtaleeaocmomjlaaDoorTie
import Derived.Test.YtaleeaocmomjlaaDoorKindsWalk
import Derived.Test.YtaleeaocmomjlaaDoorOpenT
import Derived.SevenTiedAt
namespace Go.Proofs.YtaleeaocmomjlaaDoor
open Go.ChangeShapes Go.WideShapes Go.ChangeAt Go.WideMaps Go.WideElems Go.RowKit
set_option maxRecDepth 100000 in
theorem tagsKinds_lifted (os : Os) (started : os.Started) (H : Type) (enc : TypeId × Value → H) :
    ReturnsInHanded {} Tryd.checked os 7 .any (fun w args => (Rows.tagsKindsSpec.pre enc Tryd.prog Tryd.f7 [] false w args ∧ laidMetH Tryd.prog laidK w) ∧ sizedMet enc Tryd.prog Tryd.f7 (OpenSpec.ofChange Rows.tagsKindsSpec) false w args)
      (Rows.tagsKindsSpec.post enc Tryd.prog Tryd.f7 false true false false) := by
  refine returnsInHanded_of_change_and (C := Tryd.checked) (X := fun w _ => laidMetH Tryd.prog laidK w) (fun _ _ _ hh h => h.of_heap hh) own started (by kernel_rfl) Tryd.func7
    (ChangeSpec.witness_shaped (enc := enc) (C := Tryd.checked) (os := os) (X := fun w _ => laidMetH Tryd.prog laidK w) false (World.doorLaid Tryd.prog 400 os) #[.slice none 0 0, .agg (cb zb32).toArray, .agg #[.string ⟨#[]⟩, .slice none 0 0, .int .u64 0], .agg (Value.int .u64 0 :: (cb zb32 ++ (cb zb32 ++ cb zb32))).toArray] 8 rfl (World.shaped_of_RefB (by kernel_rfl) (by kernel_rfl)) (by kernel_rfl) (by kernel_rfl) (by kernel_rfl) (door_met os _)) ?_
  intro W base args ds gs before hval0 hW _ _ hL _
  have hval : ∀ (j : Nat) t v, Tryd.f7.params[j]? = some t → args[j]? = some v → Value.okWide Tryd.prog W .any base t v := hval0
  have hW' := hW
  obtain ⟨p, q, hA0, hV, rfl, hfz, hnd⟩ := hW
  have hA : DataW.TrodAll enc Tryd.prog W 0 (fun _ => true) true Tryd.f7.params.toList args.toList ds p := hA0
  rw [Tryd.params7] at hA hval
  obtain ⟨v0, v1, v2, v3, d0, d1, d2, d3, p0, p1, p2, p3, rfl, rfl, rfl, h0, h1, h2, h3⟩ := trodAll_four hA
  obtain ⟨rfl, rfl⟩ := trodVars_none hV
  obtain ⟨bs0, hr0, _hl0, hp0⟩ := reads_of_trod (hval 0 24 v0 rfl rfl) h0
  obtain ⟨dg1, rfl, hdl1, hp1⟩ := digest_of_trod (hval 1 23 v1 rfl rfl) h1
  obtain ⟨nm2, vk2, ky2, sr2, rfl, hr2, hs2, hp2⟩ := binding_of_trod (hval 2 27 v2 rfl rfl) h2
  obtain ⟨sr3, x3, y3, z3, rfl, hr3, hp3⟩ := root_of_trod (hval 3 29 v3 rfl rfl) h3
  have hk := kok_of_laid hL
  clear hA0 hval0
  simp only [List.append_nil, List.append_assoc] at hW'
  refine (tagsKinds_any bs0 dg1 nm2 ky2 x3 y3 z3 v0 vk2 sr2 sr3 W hk hr0 hdl1 hr2 hs2 hr3).mono fun e W' ⟨he, hw⟩ => ?_
  subst he
  exact ⟨_, rfl, _, _, _, [], _, [], hW', trodAll_mk1 (shut_bool Tryd.underlying4 _), trodAll_mk4 (Below.trod laid_out readable_bytes row_bytes h0 hw hp0) (Below.trod laid_out readable_digest row_digest h1 hw hp1) (Below.trod laid_out readable_binding row_binding h2 hw hp2) (Below.trod laid_out readable_root row_root h3 hw hp3), rfl, hw.frame _, fun h => by cases h⟩
theorem tagsKinds_holds : Rows.TagsKindsSaid :=
  OpenClaim.holds_of_wide 7 Tryd.f7 rfl rfl rfl rfl rfl rfl rfl ⟨rfl, rfl, rfl, rfl, rfl⟩ rfl rfl rfl rfl rfl (by kernel_rfl) Tryd.func7 (by kernel_rfl)
    (of_decide_eq_true (by kernel_rfl)) (by unfold Func.isWrapper; first | (rw [if_pos (by decide +kernel)]; kernel_rfl) | (rw [if_neg (by decide +kernel)]; exact ⟨rfl, rfl⟩))
    (fun os started H enc _ => tagsKinds_lifted os started H enc)
theorem tagsKinds_card : Rows.TagsKindsCardSaid :=
  Claim7.holds_tied_plain_at .later [] [.data] true (true, "20f707777ce154501b37c513ed49b206dccb39b17132f9cdb2d5989e1c6e70e9") false
    tagsKinds_holds (fun _ h => by cases h) (by kernel_rfl) (fun _ h => by cases h) tagsKinds_row_tie rfl ⟨rfl, rfl⟩ (by kernel_rfl) rfl
    (fun f fn hf hfn => by
      obtain rfl : f = 7 := Option.some.inj ((show Tryd.prog.funcNamed "blazon/blazonlaw03.TagsKinds" = some 7 by kernel_rfl).symm.trans hf) |>.symm
      obtain rfl : fn = Tryd.f7 := (Option.some.inj (Tryd.func7.symm.trans hfn)).symm
      exact ⟨by kernel_rfl, fun j t ht => by
        rw [Tryd.params7] at ht
        have hm : t ∈ [24, 23, 27, 29] := by simpa using Array.mem_of_getElem? ht
        have hall : ([24, 23, 27, 29].all fun u => !Tryd.prog.wantsStandIn u) = true := by kernel_rfl
        exact (show Tryd.prog.wantsStandIn t = false by simpa using List.all_eq_true.1 hall t hm)⟩)
    (by kernel_rfl)
#print axioms tagsKinds_card
end Go.Proofs.YtaleeaocmomjlaaDoor

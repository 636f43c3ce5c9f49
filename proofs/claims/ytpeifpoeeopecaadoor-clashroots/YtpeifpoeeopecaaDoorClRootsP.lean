/- Of any two roots, and of any two bindings with salts, a pair is told just if they are unlike and have one digest -/
import Derived.Test.YtpeifpoeeopecaaDoorMgd
import Derived.Test.YtpeifpoeeopecaaDoorMge
import Derived.Test.YtpeifpoeeopecaaDoorCards
import Derived.Test.YtpeifpoeeopecaaDoorTie
import Derived.Test.YtpeifpoeeopecaaDoorMgf
import Derived.SevenTiedAt
namespace Go.Proofs.YtpeifpoeeopecaaDoor
open Go.ChangeShapes Go.WideShapes Go.ChangeAt Go.WideMaps Go.WideElems Go.RowKit
set_option maxRecDepth 100000
set_option maxRecDepth 100000 in
theorem clashRoots_lifted (os : Os) (started : os.Started) (H : Type) (enc : TypeId × Value → H) :
    ReturnsInHanded {} Tryd.checked os 7 .any (fun w args => (Rows.clashRootsSpec.pre enc Tryd.prog Tryd.f7 [] false w args ∧ laidMetH Tryd.prog laidK w) ∧ sizedMet enc Tryd.prog Tryd.f7 (OpenSpec.ofChange Rows.clashRootsSpec) false w args)
      (Rows.clashRootsSpec.post enc Tryd.prog Tryd.f7 false true false false) := by
  refine returnsInHanded_of_change_and (C := Tryd.checked) (X := fun w _ => laidMetH Tryd.prog laidK w) (fun _ _ _ hh h => h.of_heap hh) own started (by kernel_rfl) Tryd.func7
    (ChangeSpec.witness_shaped (enc := enc) (C := Tryd.checked) (os := os) (X := fun w _ => laidMetH Tryd.prog laidK w) false (World.doorLaid Tryd.prog 400 os) #[.agg (Value.int .u64 0 :: (cb zb32 ++ (cb zb32 ++ cb zb32))).toArray, .agg (Value.int .u64 0 :: (cb zb32 ++ (cb zb32 ++ cb zb32))).toArray, .agg (cb zb32 ++ cb zb32).toArray, .agg #[.string ⟨#[]⟩, .slice none 0 0, .int .u64 0], .agg #[.string ⟨#[]⟩, .slice none 0 0, .int .u64 0]] 8 rfl (World.shaped_of_RefB (by kernel_rfl) (by kernel_rfl)) (by kernel_rfl) (by kernel_rfl) (by kernel_rfl) (door_met os _)) ?_
  intro W base args ds gs before hval0 hW _ hz hL _
  have hval : ∀ (j : Nat) t v, Tryd.f7.params[j]? = some t → args[j]? = some v → Value.okWide Tryd.prog W .any base t v := hval0
  have hW' := hW
  obtain ⟨p, q, hA0, hV, rfl, hfz, hnd⟩ := hW
  have hA : DataW.TrodAll enc Tryd.prog W 0 (fun _ => true) true Tryd.f7.params.toList args.toList ds p := hA0
  rw [Tryd.params7] at hA hval
  obtain ⟨v0, v1, v2, v3, v4, d0, d1, d2, d3, d4, p0, p1, p2, p3, p4, rfl, rfl, rfl, h0, h1, h2, h3, h4⟩ := trodAll_five hA
  obtain ⟨rfl, rfl⟩ := trodVars_none hV
  have hz2 : (DataW.weightsEach Tryd.prog [56, 56, 57, 59, 59] [d0, d1, d2, d3, d4]).all (· ≤ reachBytes) = true := by
    rw [Tryd.params7] at hz
    exact hz
  simp only [DataW.weightsEach, List.all_append, Bool.and_eq_true] at hz2
  obtain ⟨hz_0, hz_1, hz_2, hz_3, hz_4, _⟩ := hz2
  clear hz
  obtain ⟨sr0, x0, y0, z0, rfl, hr0, hp0⟩ := root_of_trod (hval 0 56 v0 rfl rfl) h0
  obtain ⟨sr1, x1, y1, z1, rfl, hr1, hp1⟩ := root_of_trod (hval 1 56 v1 rfl rfl) h1
  obtain ⟨x2, y2, rfl, hl2, hp2⟩ := pair_of_trod (hval 2 57 v2 rfl rfl) h2
  obtain ⟨nm3, vk3, ky3, sr3, rfl, hr3, hs3, hsz3, hp3⟩ := binding_sized (hval 3 59 v3 rfl rfl) h3
  obtain ⟨nm4, vk4, ky4, sr4, rfl, hr4, hs4, hsz4, hp4⟩ := binding_sized (hval 4 59 v4 rfl rfl) h4
  have hk := kok_of_laid hL
  clear hA0 hval0
  simp only [List.append_nil, List.append_assoc] at hW'
  refine (clashRoots_law pfOps (clOps pfOps) sr0 sr1 x0 y0 z0 x1 y1 z1 x2 y2 nm3 ky3 nm4 ky4 vk3 vk4 sr3 sr4 hr0 hr1 hl2.1 hl2.2 hs3 hs4 (by have h9 := (hsz3 _ hz_3).1; unfold reachBytes at h9; omega) (by have h9 := (hsz4 _ hz_4).1; unfold reachBytes at h9; omega) (by have h9 := (hsz3 _ hz_3).2; unfold reachBytes at h9; omega) (by have h9 := (hsz4 _ hz_4).2; unfold reachBytes at h9; omega) W hk hr3 hr4).mono fun e W' ⟨he, hw⟩ => ?_
  subst he
  exact ⟨_, rfl, _, _, _, [], _, [], hW', trodAll_mk1 (shut_bool Tryd.underlying4 _), trodAll_mk5 (Below.trod laid_out readable_root row_root h0 hw hp0) (Below.trod laid_out readable_root row_root h1 hw hp1) (Below.trod laid_out readable_pair row_pair h2 hw hp2) (Below.trod laid_out readable_binding row_binding h3 hw hp3) (Below.trod laid_out readable_binding row_binding h4 hw hp4), rfl, hw.frame _, fun h => by cases h⟩
theorem clashRoots_holds : Rows.ClashRootsSaid :=
  OpenClaim.holds_of_wide 7 Tryd.f7 rfl rfl rfl rfl rfl rfl rfl ⟨rfl, rfl, rfl, rfl, rfl⟩ rfl rfl rfl rfl rfl (by kernel_rfl) Tryd.func7 (by kernel_rfl)
    (of_decide_eq_true (by kernel_rfl)) (by unfold Func.isWrapper; first | (rw [if_pos (by decide +kernel)]; kernel_rfl) | (rw [if_neg (by decide +kernel)]; exact ⟨rfl, rfl⟩))
    (fun os started H enc _ => clashRoots_lifted os started H enc)
theorem clashRoots_card : Rows.ClashRootsCardSaid :=
  Claim7.holds_tied_plain_at .later [] [.data] true (true, "3c39219a27d2b001d0c60cb3fb753b15e4f5b48ca05df88361412591f44976fb") false
    (clashRoots_holds) (fun _ h => by cases h) (by kernel_rfl) (fun _ h => by cases h) clashRoots_row_tie rfl ⟨rfl, rfl⟩ (by kernel_rfl) rfl
    (fun f fn hf hfn => by
      obtain rfl : f = 7 := Option.some.inj ((show Tryd.prog.funcNamed "blazon/blazonlaw09.ClashRoots" = some 7 by kernel_rfl).symm.trans hf) |>.symm
      obtain rfl : fn = Tryd.f7 := (Option.some.inj (Tryd.func7.symm.trans hfn)).symm
      exact ⟨by kernel_rfl, fun j t ht => by
        rw [Tryd.params7] at ht
        have hm : t ∈ [56, 56, 57, 59, 59] := by simpa using Array.mem_of_getElem? ht
        have hall : ([56, 56, 57, 59, 59].all fun u => !Tryd.prog.wantsStandIn u) = true := by kernel_rfl
        exact (show Tryd.prog.wantsStandIn t = false by simpa using List.all_eq_true.1 hall t hm)⟩)
    (by kernel_rfl)
#print axioms clashRoots_card
end Go.Proofs.YtpeifpoeeopecaaDoor

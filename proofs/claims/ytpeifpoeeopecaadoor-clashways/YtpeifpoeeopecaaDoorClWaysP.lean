/- Of any two ways of one index a pair is told just where there is one among what is hashed along them -/
import Derived.Test.YtpeifpoeeopecaaDoorMgd
import Derived.Test.YtpeifpoeeopecaaDoorMge
import Derived.Test.YtpeifpoeeopecaaDoorCards
import Derived.Test.YtpeifpoeeopecaaDoorTie
import Derived.SevenTiedAt
namespace Go.Proofs.YtpeifpoeeopecaaDoor
open Go.ChangeShapes Go.WideShapes Go.ChangeAt Go.WideMaps Go.WideElems Go.RowKit
set_option maxRecDepth 100000
set_option maxRecDepth 100000 in
theorem clashWays_lifted (os : Os) (started : os.Started) (H : Type) (enc : TypeId × Value → H) :
    ReturnsInHanded {} Tryd.checked os 4 .any (fun w args => (Rows.clashWaysSpec.pre enc Tryd.prog Tryd.f4 [] false w args ∧ laidMetH Tryd.prog laidK w) ∧ sizedMet enc Tryd.prog Tryd.f4 (OpenSpec.ofChange Rows.clashWaysSpec) false w args)
      (Rows.clashWaysSpec.post enc Tryd.prog Tryd.f4 false true false false) := by
  refine returnsInHanded_of_change_and (C := Tryd.checked) (X := fun w _ => laidMetH Tryd.prog laidK w) (fun _ _ _ hh h => h.of_heap hh) own started (by kernel_rfl) Tryd.func4
    (ChangeSpec.witness_shaped (enc := enc) (C := Tryd.checked) (os := os) (X := fun w _ => laidMetH Tryd.prog laidK w) false (World.doorLaid Tryd.prog 400 os) #[.agg (cb zb32).toArray, .agg (prfV (.slice none 0 0) 0 zb32 zb32).toArray, .agg (prfV (.slice none 0 0) 0 zb32 zb32).toArray] 8 rfl (World.shaped_of_RefB (by kernel_rfl) (by kernel_rfl)) (by kernel_rfl) (by kernel_rfl) (by kernel_rfl) (door_met os _)) ?_
  intro W base args ds gs before hval0 hW _ _ hL _
  have hval : ∀ (j : Nat) t v, Tryd.f4.params[j]? = some t → args[j]? = some v → Value.okWide Tryd.prog W .any base t v := hval0
  have hW' := hW
  obtain ⟨p, q, hA0, hV, rfl, hfz, hnd⟩ := hW
  have hA : DataW.TrodAll enc Tryd.prog W 0 (fun _ => true) true Tryd.f4.params.toList args.toList ds p := hA0
  rw [Tryd.params4] at hA hval
  obtain ⟨v0, v1, v2, d0, d1, d2, p0, p1, p2, rfl, rfl, rfl, h0, h1, h2⟩ := trodAll_three hA
  obtain ⟨rfl, rfl⟩ := trodVars_none hV
  obtain ⟨dg0, rfl, hdl0, hp0⟩ := digest_of_trod (hval 0 33 v0 rfl rfl) h0
  obtain ⟨vs1, ds1, en1, ix1, va1, rfl, hd1, hpp1, hp1⟩ := proof_of_trod (hval 1 36 v1 rfl rfl) h1
  obtain ⟨vs2, ds2, en2, ix2, va2, rfl, hd2, hpp2, hp2⟩ := proof_of_trod (hval 2 36 v2 rfl rfl) h2
  have hk := kok_of_laid hL
  clear hA0 hval0
  simp only [List.append_nil, List.append_assoc] at hW'
  refine (clashWays_law pfOps (clOps pfOps) dg0 vs1 ds1 en1 ix1 va1 vs2 ds2 en2 ix2 va2 hdl0 hpp1.1 hpp1.2.1 hpp2.1 hpp2.2.1 W hk hd1 hd2).mono fun e W' ⟨he, hw⟩ => ?_
  subst he
  exact ⟨_, rfl, _, _, _, [], _, [], hW', trodAll_mk1 (shut_bool Tryd.underlying4 _), trodAll_mk3 (Below.trod laid_out readable_digest row_digest h0 hw hp0) (Below.trod laid_out readable_proof row_proof h1 hw hp1) (Below.trod laid_out readable_proof row_proof h2 hw hp2), rfl, hw.frame _, fun h => by cases h⟩
theorem clashWays_holds : Rows.ClashWaysSaid :=
  OpenClaim.holds_of_wide 4 Tryd.f4 rfl rfl rfl rfl rfl rfl rfl ⟨rfl, rfl, rfl, rfl, rfl⟩ rfl rfl rfl rfl rfl (by kernel_rfl) Tryd.func4 (by kernel_rfl)
    (of_decide_eq_true (by kernel_rfl)) (by unfold Func.isWrapper; first | (rw [if_pos (by decide +kernel)]; kernel_rfl) | (rw [if_neg (by decide +kernel)]; exact ⟨rfl, rfl⟩))
    (fun os started H enc _ => clashWays_lifted os started H enc)
theorem clashWays_card : Rows.ClashWaysCardSaid :=
  Claim7.holds_tied_plain_at .later [] [.data] true (true, "3c39219a27d2b001d0c60cb3fb753b15e4f5b48ca05df88361412591f44976fb") false
    (clashWays_holds) (fun _ h => by cases h) (by kernel_rfl) (fun _ h => by cases h) clashWays_row_tie rfl ⟨rfl, rfl⟩ (by kernel_rfl) rfl
    (fun f fn hf hfn => by
      obtain rfl : f = 4 := Option.some.inj ((show Tryd.prog.funcNamed "blazon/blazonlaw09.ClashWays" = some 4 by kernel_rfl).symm.trans hf) |>.symm
      obtain rfl : fn = Tryd.f4 := (Option.some.inj (Tryd.func4.symm.trans hfn)).symm
      exact ⟨by kernel_rfl, fun j t ht => by
        rw [Tryd.params4] at ht
        have hm : t ∈ [33, 36, 36] := by simpa using Array.mem_of_getElem? ht
        have hall : ([33, 36, 36].all fun u => !Tryd.prog.wantsStandIn u) = true := by kernel_rfl
        exact (show Tryd.prog.wantsStandIn t = false by simpa using List.all_eq_true.1 hall t hm)⟩)
    (by kernel_rfl)
#print axioms clashWays_card
end Go.Proofs.YtpeifpoeeopecaaDoor

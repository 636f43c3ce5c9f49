/- Whether any way proves something of an index by a root, and what, is told as the chapter says -/
import Derived.Test.YtmmhdchhajmbfaaDoorMgd
import Derived.Test.YtmmhdchhajmbfaaDoorCards
import Derived.Test.YtmmhdchhajmbfaaDoorTie
import Derived.Test.YtmmhdchhajmbfaaDoorMge
import Derived.SevenTiedAt
namespace Go.Proofs.YtmmhdchhajmbfaaDoor
open Go.ChangeShapes Go.WideShapes Go.ChangeAt Go.WideMaps Go.WideElems Go.RowKit
set_option maxRecDepth 100000
set_option maxRecDepth 100000 in
theorem proofChecks_lifted  (os : Os) (started : os.Started) (H : Type) (enc : TypeId × Value → H) :
    ReturnsInHanded {} Tryd.checked os 4 .any (fun w args => (Rows.proofChecksSpec.pre enc Tryd.prog Tryd.f4 [] false w args ∧ laidMetH Tryd.prog laidK w) ∧ sizedMet enc Tryd.prog Tryd.f4 (OpenSpec.ofChange Rows.proofChecksSpec) false w args)
      (Rows.proofChecksSpec.post enc Tryd.prog Tryd.f4 false true false false) := by
  refine returnsInHanded_of_change_and (C := Tryd.checked) (X := fun w _ => laidMetH Tryd.prog laidK w) (fun _ _ _ hh h => h.of_heap hh) own started (by kernel_rfl) Tryd.func4
    (ChangeSpec.witness_shaped (enc := enc) (C := Tryd.checked) (os := os) (X := fun w _ => laidMetH Tryd.prog laidK w) false (World.doorLaid Tryd.prog 400 os) #[.agg (cb zb32).toArray, .agg (cb zb32).toArray, .agg (prfV (.slice none 0 0) 0 zb32 zb32).toArray, .bool false] 8 rfl (World.shaped_of_RefB (by kernel_rfl) (by kernel_rfl)) (by kernel_rfl) (by kernel_rfl) (by kernel_rfl) (door_met os _)) ?_
  intro W base args ds gs before hval0 hW _ _ hL _
  have hval : ∀ (j : Nat) t v, Tryd.f4.params[j]? = some t → args[j]? = some v → Value.okWide Tryd.prog W .any base t v := hval0
  have hW' := hW
  obtain ⟨p, q, hA0, hV, rfl, hfz, hnd⟩ := hW
  have hA : DataW.TrodAll enc Tryd.prog W 0 (fun _ => true) true Tryd.f4.params.toList args.toList ds p := hA0
  rw [Tryd.params4] at hA hval
  obtain ⟨v0, v1, v2, v3, d0, d1, d2, d3, p0, p1, p2, p3, rfl, rfl, rfl, h0, h1, h2, h3⟩ := trodAll_four hA
  obtain ⟨rfl, rfl⟩ := trodVars_none hV
  obtain ⟨dg0, rfl, hdl0, hp0⟩ := digest_of_trod (hval 0 23 v0 rfl rfl) h0
  obtain ⟨dg1, rfl, hdl1, hp1⟩ := digest_of_trod (hval 1 23 v1 rfl rfl) h1
  obtain ⟨vs2, ds2, en2, ix2, va2, rfl, hd2, hpp2, hp2⟩ := proof_of_trod (hval 2 26 v2 rfl rfl) h2
  obtain ⟨x3, rfl, rfl, rfl⟩ := open_boolP (hval 3 4 v3 rfl rfl) h3
  have hk := kok_of_laid hL
  clear hA0 hval0
  simp only [List.append_nil, List.append_assoc] at hW'
  refine (proofChecks_law pfOps dg0 dg1 vs2 ds2 en2 ix2 va2 x3 hdl0 hdl1 hpp2.1 hpp2.2.1 W hk hd2).mono fun e W' ⟨he, hw⟩ => ?_
  subst he
  exact ⟨_, rfl, _, _, _, [], _, [], hW', trodAll_mk1 (shut_bool Tryd.underlying4 _), trodAll_mk4 (Below.trod laid_out readable_digest row_digest h0 hw hp0) (Below.trod laid_out readable_digest row_digest h1 hw hp1) (Below.trod laid_out readable_proof row_proof h2 hw hp2) (shut_bool Tryd.underlying4 _), rfl, hw.frame _, fun h => by cases h⟩
theorem proofChecks_holds  : Rows.ProofChecksSaid :=
  OpenClaim.holds_of_wide 4 Tryd.f4 rfl rfl rfl rfl rfl rfl rfl ⟨rfl, rfl, rfl, rfl, rfl⟩ rfl rfl rfl rfl rfl (by kernel_rfl) Tryd.func4 (by kernel_rfl)
    (of_decide_eq_true (by kernel_rfl)) (by unfold Func.isWrapper; first | (rw [if_pos (by decide +kernel)]; kernel_rfl) | (rw [if_neg (by decide +kernel)]; exact ⟨rfl, rfl⟩))
    (fun os started H enc _ => proofChecks_lifted  os started H enc)
theorem proofChecks_card  : Rows.ProofChecksCardSaid :=
  Claim7.holds_tied_plain_at .later [] [.data] true (true, "2445b931c2133088490dfdcb0e3ff6765c2126a950a9dab7e2ed5bec20a01cf5") false
    (proofChecks_holds ) (fun _ h => by cases h) (by kernel_rfl) (fun _ h => by cases h) proofChecks_row_tie rfl ⟨rfl, rfl⟩ (by kernel_rfl) rfl
    (fun f fn hf hfn => by
      obtain rfl : f = 4 := Option.some.inj ((show Tryd.prog.funcNamed "blazon/blazonlaw08.ProofChecks" = some 4 by kernel_rfl).symm.trans hf) |>.symm
      obtain rfl : fn = Tryd.f4 := (Option.some.inj (Tryd.func4.symm.trans hfn)).symm
      exact ⟨by kernel_rfl, fun j t ht => by
        rw [Tryd.params4] at ht
        have hm : t ∈ [23, 23, 26, 4] := by simpa using Array.mem_of_getElem? ht
        have hall : ([23, 23, 26, 4].all fun u => !Tryd.prog.wantsStandIn u) = true := by kernel_rfl
        exact (show Tryd.prog.wantsStandIn t = false by simpa using List.all_eq_true.1 hall t hm)⟩)
    (by kernel_rfl)
#print axioms proofChecks_card
end Go.Proofs.YtmmhdchhajmbfaaDoor

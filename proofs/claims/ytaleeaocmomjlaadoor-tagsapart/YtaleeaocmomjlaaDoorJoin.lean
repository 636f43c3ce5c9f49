/- The walk of blazonref01.Join: texts, one behind the other. -/
import Derived.Test.YtaleeaocmomjlaaDoorSame
namespace Go.Proofs.YtaleeaocmomjlaaDoor
open Go.RowKit
/-- the slice v of slices reads as the texts ls -/
def ReadsL (w : World) (v : Value) (ls : List (List (BitVec 8))) : Prop :=
  ∃ ad cap, v = .slice ad ls.length cap ∧ ls.length ≤ cap ∧ (ad = none → cap = 0) ∧ (0 < ls.length → ∃ b off, ad = some ⟨b, off, none⟩ ∧ ∀ j, j < ls.length → ∃ vj, w.cell? ⟨b, off + j, none⟩ = some vj ∧ Reads w vj (ls.getD j []))
theorem ReadsL.below {w w' : World} {v : Value} {ls : List (List (BitVec 8))} (h : ReadsL w v ls) (hb : Below w.heap.size w w') : ReadsL w' v ls := by
  obtain ⟨ad, cap, hv, hc, hn, hx⟩ := h
  refine ⟨ad, cap, hv, hc, hn, fun hp => ?_⟩
  obtain ⟨b, off, h1, h2⟩ := hx hp
  refine ⟨b, off, h1, fun j hj => ?_⟩
  obtain ⟨vj, h3, h4⟩ := h2 j hj
  exact ⟨vj, by rw [hb.cell (p := ⟨b, off + j, none⟩) (block_lt_of_cell h3)]; exact h3, h4.below hb⟩
theorem flat_take (ls : List (List (BitVec 8))) (k : Nat) (h : k < ls.length) : (ls.take (k + 1)).flatten = (ls.take k).flatten ++ ls.getD k [] := by
  rw [List.take_add_one, List.getElem?_eq_getElem h, List.flatten_append]
  simp [h]
theorem flat_le (ls : List (List (BitVec 8))) (k : Nat) : (ls.take k).flatten.length ≤ ls.flatten.length := by
  have := congrArg (fun l => (List.flatten l).length) (List.take_append_drop k ls)
  simp only [List.flatten_append, List.length_append] at this
  omega
set_option maxHeartbeats 400000 in
theorem rjoin_any (v : Value) (ls : List (List (BitVec 8))) (w : World) (hR : ReadsL w v ls) (hl : ls.flatten.length ≤ 140737488355328) (hn : ls.length < 4611686018427387904) :
    Calls Tryd.prog 46 #[v] w fun e w' => ∃ v', e = .returned v' ∧ Reads w' v' ls.flatten ∧ Below w.heap.size w w' := by
  have HR : Hid (ReadsL w v ls) := hR
  obtain ⟨ad, cap, hv, hcap, _, _⟩ := hR
  obtain ⟨n, HNN⟩ : ∃ n, Hid (n = ls.length) := ⟨_, rfl⟩
  rw [← HNN.out] at hv hcap hn
  subst hv
  go_enter Tryd.func46, Tryd.ntmps46
  go_wp2
  go_loopw [3, 4] (fun u i wr => ∃ k : Nat, k ≤ n ∧ i = .int .i64 k ∧ RpInv w (ls.take k).flatten u wr) (fun _ i _ => n - (intOf i).toNat)
  case atStart => exact ⟨0, by omega, rfl, OwnB.nil _ _, Below.refl _ _⟩
  case round =>
    obtain ⟨k, hk, rfl, hI⟩ := hrel
    have HI : Hid (RpInv w (ls.take k).flatten u3 wr) := hI
    by_cases hlt : k < n
    · obtain ⟨ad', cap', hv', _, _, hx⟩ := HR.out.below hI.bel
      rw [← HNN.out] at hv' hx
      simp only [Value.slice.injEq, true_and] at hv'
      obtain ⟨rfl, rfl⟩ := hv'
      obtain ⟨b, off, rfl, hx2⟩ := hx (by omega)
      obtain ⟨vj, cj, hj⟩ := hx2 k hlt
      have HJ : Hid (Reads wr vj (ls.getD k [])) := hj
      have HF : Hid ((ls.take (k + 1)).flatten = (ls.take k).flatten ++ ls.getD k []) := flat_take ls k (by rw [← HNN.out]; exact hlt)
      have HL : Hid ((ls.take k).flatten.length + (ls.getD k []).length ≤ 140737488355328) := by
        have h1 := flat_le ls (k + 1)
        rw [HF.out, List.length_append] at h1
        exact Nat.le_trans h1 hl
      clear hx hx2 hj hI
      go_wp2_with (at_builtin; refine wpList_appendB rfl (.tmp 11) (.tmp 15) rfl w.heap.size _ (ls.take k).flatten rfl HI.out.own _ (ls.getD k []) rfl HJ.out HL.out HI.out.bel.size ?_; intro v2 w2 hown2 hb2 _)
      have hJ : RpInv w (ls.take (k + 1)).flatten v2 w2 := ⟨by rw [HF.out]; exact hown2, HI.out.bel.trans hb2⟩
      clear hown2 hb2 HI
      go_roundw
      case rel => exact ⟨k + 1, by omega, by go_num, hJ⟩
      case measure => simp [intOf]; omega
    · have hkn : k = n := by omega
      subst hkn
      have HV : Hid (Reads wr u3 ls.flatten) := by
        have := hI.own.reads
        rw [HNN.out, List.take_of_length_le (Nat.le_refl _)] at this
        exact this
      have hbel := hI.bel
      clear hI HI HR
      go_wp2
      go_ret
      exact ⟨_, rfl, HV.out, hbel⟩
end Go.Proofs.YtaleeaocmomjlaaDoor

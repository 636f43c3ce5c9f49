/- The walks of blazonref04.SameNums and SameTexts. -/
import Derived.Test.YtdhglbemkaogiaaLst
namespace Go.Proofs.Ytdhglbemkaogiaa
open Go.RowKit
theorem take_same {α : Type} {a b : List α} {k : Nat} (z : α) (h : a.take k = b.take k) (ha : k < a.length) (hb : k < b.length) (he : a.getD k z = b.getD k z) : a.take (k + 1) = b.take (k + 1) := by
  rw [List.getD_eq_getElem?_getD, List.getD_eq_getElem?_getD, List.getElem?_eq_getElem ha, List.getElem?_eq_getElem hb] at he
  rw [List.take_add_one, List.take_add_one, h, List.getElem?_eq_getElem ha, List.getElem?_eq_getElem hb]
  simp only [Option.getD_some] at he
  rw [he]
theorem ReadsN.drewN {w : World} {v : Value} {ns : List Nat} (h : ReadsN w v ns) (q : Nat) : ReadsN (w.drewN q) v ns := h
theorem Reads.drewN {w : World} {v : Value} {l : List (BitVec 8)} (h : Reads w v l) (q : Nat) : Reads (w.drewN q) v l := h
set_option maxRecDepth 100000 in
set_option maxHeartbeats 1000000 in
theorem samenums_any (va vb : Value) (a b : List Nat) (w : World) (ha : ReadsN w va a) (hb : ReadsN w vb b) (hl : a.length < 4611686018427387904) :
    Calls Try.prog 21 #[va, vb] w fun e w' => e = .returned (.bool (decide (a = b))) ∧ ∃ q, w' = w.drewN q := by
  have HA : Hid (ReadsN w va a) := ha
  have HB : Hid (ReadsN w vb b) := hb
  obtain ⟨ada, ca, hva, _, _, _⟩ := ha
  obtain ⟨adb, cb', hvb, _, _, _⟩ := hb
  obtain ⟨n, HN⟩ : ∃ n, Hid (n = a.length) := ⟨_, rfl⟩
  obtain ⟨m, HM⟩ : ∃ n, Hid (n = b.length) := ⟨_, rfl⟩
  rw [← HN.out] at hva hl
  rw [← HM.out] at hvb
  subst hva hvb
  obtain ⟨o, HO⟩ : ∃ o, Hid (o = decide (a = b)) := ⟨_, rfl⟩
  rw [← HO.out]
  by_cases hnm : n = m
  · subst hnm
    go_enter Try.func21, Try.ntmps21
    go_wp2
    go_loopw [5] (fun i wr => ∃ k q : Nat, k ≤ n ∧ i = .int .i64 (k : Int) ∧ a.take k = b.take k ∧ wr = w.drewN q) (fun i _ => n - (intOf i).toNat)
    case atStart => exact ⟨0, 0, by omega, rfl, rfl, rfl⟩
    case round =>
      obtain ⟨k, q, hk, rfl, heq, rfl⟩ := hrel
      by_cases hlt : k < n
      · obtain ⟨ad1, cap1, hv1, _, _, hx1⟩ := HA.out
        rw [← HN.out] at hv1 hx1
        simp only [Value.slice.injEq, true_and] at hv1
        obtain ⟨rfl, rfl⟩ := hv1
        obtain ⟨b1, off1, rfl, hy1⟩ := hx1 (by omega)
        obtain ⟨ad2, cap2, hv2, _, _, hx2⟩ := HB.out
        rw [← HM.out] at hv2 hx2
        simp only [Value.slice.injEq, true_and] at hv2
        obtain ⟨rfl, rfl⟩ := hv2
        obtain ⟨b2, off2, rfl, hy2⟩ := hx2 (by omega)
        have h1 := hy1 k hlt
        have h2 := hy2 k hlt
        obtain ⟨x, HX⟩ : ∃ x, Hid (x = a.getD k 0) := ⟨_, rfl⟩
        obtain ⟨y, HY⟩ : ∃ x, Hid (x = b.getD k 0) := ⟨_, rfl⟩
        rw [← HX.out] at h1
        rw [← HY.out] at h2
        have HQ : Hid (a.take k = b.take k) := heq
        clear heq hx1 hx2 hy1 hy2
        by_cases hxy : x = y
        · subst hxy
          have HJ : Hid (a.take (k + 1) = b.take (k + 1)) := take_same 0 HQ.out (by rw [← HN.out]; exact hlt) (by rw [← HM.out]; exact hlt) (by rw [← HX.out, ← HY.out])
          go_wp2
          go_quiet (fail)
          go_wp2
          go_roundw
          case rel => exact ⟨k + 1, _, by omega, by go_num, HJ.out, rfl⟩
          case measure => simp [intOf]; omega
        · have hxy2 : ¬ ((x : Int) = (y : Int)) := by omega
          have HF : Hid (o = false) := by
            show _ = _
            rw [HO.out, decide_eq_false_iff_not]
            intro he
            apply hxy
            rw [HX.out, HY.out, he]
          clear hxy
          go_wp2
          go_quiet (fail)
          go_wp2
          go_ret
          exact ⟨by rw [HF.out]; rfl, _, by first | rfl | exact World.drewN_drewN ..⟩
      · have hkn : k = n := by omega
        subst hkn
        have HF : Hid (o = true) := by
          show _ = _
          rw [HO.out, decide_eq_true_iff]
          have h1 := heq
          rw [List.take_of_length_le (by rw [← HN.out]; exact Nat.le_refl _), List.take_of_length_le (by rw [← HM.out]; exact Nat.le_refl _)] at h1
          exact h1
        clear heq
        go_wp2
        go_ret
        exact ⟨by rw [HF.out]; rfl, _, by first | rfl | exact World.drewN_drewN ..⟩
  · have hnm2 : ¬ ((n : Int) = (m : Int)) := by omega
    have HF : Hid (o = false) := by
      show _ = _
      rw [HO.out, decide_eq_false_iff_not]
      intro he
      apply hnm
      rw [HN.out, HM.out, he]
    go_enter Try.func21, Try.ntmps21
    go_wp2
    go_ret
    exact ⟨by rw [HF.out]; rfl, 0, rfl⟩
set_option maxRecDepth 100000 in
set_option maxHeartbeats 1000000 in
theorem sametexts_any (va vb : Value) (a b : List (List (BitVec 8))) (w : World) (ha : ReadsL w va a) (hb : ReadsL w vb b) (hl : a.length < 4611686018427387904) :
    Calls Try.prog 22 #[va, vb] w fun e w' => e = .returned (.bool (decide (a = b))) ∧ ∃ q, w' = w.drewN q := by
  have HA : Hid (ReadsL w va a) := ha
  have HB : Hid (ReadsL w vb b) := hb
  have hnot : ∀ (x : Bool) (w : World), (Op.unary .not (.bool x)).run Try.prog w = .ok (.bool (!x)) w := fun _ _ => rfl
  obtain ⟨ada, ca, hva, _, _, _⟩ := ha
  obtain ⟨adb, cb', hvb, _, _, _⟩ := hb
  obtain ⟨n, HN⟩ : ∃ n, Hid (n = a.length) := ⟨_, rfl⟩
  obtain ⟨m, HM⟩ : ∃ n, Hid (n = b.length) := ⟨_, rfl⟩
  rw [← HN.out] at hva hl
  rw [← HM.out] at hvb
  subst hva hvb
  obtain ⟨o, HO⟩ : ∃ o, Hid (o = decide (a = b)) := ⟨_, rfl⟩
  rw [← HO.out]
  by_cases hnm : n = m
  · subst hnm
    go_enter Try.func22, Try.ntmps22
    go_wp2
    go_loopw [5] (fun i wr => ∃ k q : Nat, k ≤ n ∧ i = .int .i64 (k : Int) ∧ a.take k = b.take k ∧ wr = w.drewN q) (fun i _ => n - (intOf i).toNat)
    case atStart => exact ⟨0, 0, by omega, rfl, rfl, rfl⟩
    case round =>
      obtain ⟨k, q, hk, rfl, heq, hwr⟩ := hrel
      have HW : Hid (wr = w.drewN q) := hwr
      clear hwr
      by_cases hlt : k < n
      · obtain ⟨ad1, cap1, hv1, _, _, hx1⟩ := HA.out
        rw [← HN.out] at hv1 hx1
        simp only [Value.slice.injEq, true_and] at hv1
        obtain ⟨rfl, rfl⟩ := hv1
        obtain ⟨b1, off1, rfl, hy1⟩ := hx1 (by omega)
        obtain ⟨ad2, cap2, hv2, _, _, hx2⟩ := HB.out
        rw [← HM.out] at hv2 hx2
        simp only [Value.slice.injEq, true_and] at hv2
        obtain ⟨rfl, rfl⟩ := hv2
        obtain ⟨b2, off2, rfl, hy2⟩ := hx2 (by omega)
        obtain ⟨v1, h1, r1⟩ := hy1 k hlt
        obtain ⟨v2, h2, r2⟩ := hy2 k hlt
        replace h1 : wr.cell? ⟨b1, off1 + k, none⟩ = some v1 := by rw [HW.out]; exact h1
        replace h2 : wr.cell? ⟨b2, off2 + k, none⟩ = some v2 := by rw [HW.out]; exact h2
        obtain ⟨x, HX⟩ : ∃ x, Hid (x = a.getD k []) := ⟨_, rfl⟩
        obtain ⟨y, HY⟩ : ∃ x, Hid (x = b.getD k []) := ⟨_, rfl⟩
        rw [← HX.out] at r1
        rw [← HY.out] at r2
        obtain ⟨p1, z1, hvv1, _, _, _⟩ := id r1
        obtain ⟨p2, z2, hvv2, _, _, _⟩ := id r2
        obtain ⟨l1, HL1⟩ : ∃ l1, Hid (l1 = x.length) := ⟨_, rfl⟩
        obtain ⟨l2, HL2⟩ : ∃ l2, Hid (l2 = y.length) := ⟨_, rfl⟩
        rw [← HL1.out] at hvv1
        rw [← HL2.out] at hvv2
        subst hvv1 hvv2
        have HR1 : Hid (∀ j, Reads (wr.drewN j) (.slice p1 l1 z1) x) := fun j => by rw [HW.out]; exact r1
        have HR2 : Hid (∀ j, Reads (wr.drewN j) (.slice p2 l2 z2) y) := fun j => by rw [HW.out]; exact r2
        have HQ : Hid (a.take k = b.take k) := heq
        clear heq hx1 hx2 hy1 hy2 r1 r2
        by_cases hxy : x = y
        · have HJ : Hid (a.take (k + 1) = b.take (k + 1)) := take_same [] HQ.out (by rw [← HN.out]; exact hlt) (by rw [← HM.out]; exact hlt) (by rw [← HX.out, ← HY.out, hxy])
          have HC : Hid (∀ j, Calls Try.prog 12 #[.slice p1 l1 z1, .slice p2 l2 z2] (wr.drewN j) fun e w' => e = .returned (.bool true) ∧ w' = wr.drewN j) := fun j => by
            have := same_any _ _ x y (wr.drewN j) (HR1.out j) (HR2.out j)
            rw [decide_eq_true hxy] at this
            exact this
          clear HR1 HR2 hxy
          go_wp2
          go_quiet (first | (go_at_call 12; refine Calls.quiet_of_same (HC.out _)))
          go_wp2
          go_roundw
          case rel => exact ⟨k + 1, _, by omega, by go_num, HJ.out, by rw [HW.out]; exact World.drewN_drewN ..⟩
          case measure => simp [intOf]; omega
        · have HF : Hid (o = false) := by
            show _ = _
            rw [HO.out, decide_eq_false_iff_not]
            intro he
            apply hxy
            rw [HX.out, HY.out, he]
          have HC : Hid (∀ j, Calls Try.prog 12 #[.slice p1 l1 z1, .slice p2 l2 z2] (wr.drewN j) fun e w' => e = .returned (.bool false) ∧ w' = wr.drewN j) := fun j => by
            have := same_any _ _ x y (wr.drewN j) (HR1.out j) (HR2.out j)
            rw [decide_eq_false hxy] at this
            exact this
          clear HR1 HR2 hxy
          go_wp2
          go_quiet (first | (go_at_call 12; refine Calls.quiet_of_same (HC.out _)))
          go_wp2
          go_ret
          exact ⟨by rw [HF.out]; rfl, _, by rw [HW.out]; exact World.drewN_drewN ..⟩
      · have hkn : k = n := by omega
        subst hkn
        have HF : Hid (o = true) := by
          show _ = _
          rw [HO.out, decide_eq_true_iff]
          have h1 := heq
          rw [List.take_of_length_le (by rw [← HN.out]; exact Nat.le_refl _), List.take_of_length_le (by rw [← HM.out]; exact Nat.le_refl _)] at h1
          exact h1
        clear heq
        go_wp2
        go_ret
        exact ⟨by rw [HF.out]; rfl, q, HW.out⟩
  · have hnm2 : ¬ ((n : Int) = (m : Int)) := by omega
    have HF : Hid (o = false) := by
      show _ = _
      rw [HO.out, decide_eq_false_iff_not]
      intro he
      apply hnm
      rw [HN.out, HM.out, he]
    go_enter Try.func22, Try.ntmps22
    go_wp2
    go_ret
    exact ⟨by rw [HF.out]; rfl, 0, rfl⟩
end Go.Proofs.Ytdhglbemkaogiaa

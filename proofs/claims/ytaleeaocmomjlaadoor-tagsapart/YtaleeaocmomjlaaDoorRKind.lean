/- The walk of blazonref03.Kind. -/
import Derived.Test.YtaleeaocmomjlaaDoorKind
namespace Go.Proofs.YtaleeaocmomjlaaDoor
open Go.RowKit
/-- the reference's own words: by the first byte, then by the length -/
def rkind (n : Nat) (hd : BitVec 8) : BitVec 8 :=
  if hd = 69 then (if n = 1 then 69 else 0) else if hd = 76 then (if n = 65 then 76 else 0) else if hd = 78 then (if n = 65 then 78 else 0)
  else if hd = 82 then (if n = 105 then 82 else 0) else if hd = 86 then (if 49 ≤ n ∧ n ≤ 1073741824 then 86 else 0) else 0
theorem rkind_eq (bs : List (BitVec 8)) : rkind bs.length (bs.getD 0 0) = kindB bs := by
  unfold rkind kindB
  simp only [kindRows, kindOf]
  generalize bs.length = n
  generalize bs.getD 0 0 = hd
  by_cases h1 : hd = 69#8
  · subst h1; simp; split <;> split <;> first | rfl | omega
  · by_cases h2 : hd = 76#8
    · subst h2; simp; split <;> split <;> first | rfl | omega
    · by_cases h3 : hd = 78#8
      · subst h3; simp; split <;> split <;> first | rfl | omega
      · by_cases h4 : hd = 82#8
        · subst h4; simp; split <;> split <;> first | rfl | omega
        · by_cases h5 : hd = 86#8
          · subst h5; simp
          · simp [h1, h2, h3, h4, h5]
set_option maxHeartbeats 1000000 in
theorem rKind_any (v : Value) (bs : List (BitVec 8)) (w : World) (hR : Reads w v bs) :
    Calls Tryd.prog 31 #[v] w fun e w' => e = .returned (.int .u8 ((kindB bs).toNat : Int)) ∧ w' = w := by
  have HR : Hid (Reads w v bs) := hR
  obtain ⟨ad, cp, rfl, _, _, _⟩ := hR
  have HK : Hid (rkind bs.length (bs.getD 0 0) = kindB bs) := rkind_eq bs
  obtain ⟨n, HN⟩ : ∃ zz, Hid (zz = bs.length) := ⟨_, rfl⟩
  rw [← HN.out] at HR HK ⊢
  obtain ⟨hd, HH⟩ : ∃ zz, Hid (zz = bs.getD 0 0) := ⟨_, rfl⟩
  rw [← HH.out] at HK
  by_cases h0 : n = 0
  · subst h0
    have HZ : Hid (kindB bs = 0) := by
      show _ = _
      have : bs = [] := List.eq_nil_of_length_eq_zero HN.out.symm
      subst this; rfl
    go_enter Tryd.func31, Tryd.ntmps31
    go_wp2
    go_ret
    exact ⟨by rw [HZ.out]; rfl, rfl⟩
  · obtain ⟨b, off, rfl, c0⟩ := HR.out.head HN.out (by omega) (Below.refl _ _)
    rw [← HH.out] at c0
    by_cases h1 : hd = 69#8
    · rw [h1] at c0 HK
      replace c0 : w.cell? ⟨b, off, none⟩ = some (.int .u8 69) := c0
      clear h1
      by_cases h2 : n = 1
      · have HZ : Hid (kindB bs = 69) := by show _ = _; rw [← HK.out]; simp [rkind, h2]
        have e1 : ((n : Int) == 1) = true := by rw [beq_iff_eq]; omega
        have e0 : ((n : Int) == 0) = false := by rw [beq_eq_false_iff_ne]; omega
        clear HK HR
        go_enter Tryd.func31, Tryd.ntmps31
        go_wp2
        go_ret
        exact ⟨by rw [HZ.out]; rfl, rfl⟩
      · have HZ : Hid (kindB bs = 0) := by show _ = _; rw [← HK.out]; simp [rkind, h2]
        have e1 : ((n : Int) == 1) = false := by rw [beq_eq_false_iff_ne]; omega
        have e0 : ((n : Int) == 0) = false := by rw [beq_eq_false_iff_ne]; omega
        clear HK HR
        go_enter Tryd.func31, Tryd.ntmps31
        go_wp2
        go_ret
        exact ⟨by rw [HZ.out]; rfl, rfl⟩
    · have g69 : ((hd.toNat : Int) == 69) = false := by
        rw [beq_eq_false_iff_ne]; intro hh; exact h1 (BitVec.eq_of_toNat_eq (by simp; omega))
      have k69 := h1
      clear h1
      by_cases h1 : hd = 76#8
      · rw [h1] at c0 HK
        replace c0 : w.cell? ⟨b, off, none⟩ = some (.int .u8 76) := c0
        clear h1
        by_cases h2 : n = 65
        · have HZ : Hid (kindB bs = 76) := by show _ = _; rw [← HK.out]; simp [rkind, h2]
          have e1 : ((n : Int) == 65) = true := by rw [beq_iff_eq]; omega
          have e0 : ((n : Int) == 0) = false := by rw [beq_eq_false_iff_ne]; omega
          clear HK HR
          go_enter Tryd.func31, Tryd.ntmps31
          go_wp2
          go_ret
          exact ⟨by rw [HZ.out]; rfl, rfl⟩
        · have HZ : Hid (kindB bs = 0) := by show _ = _; rw [← HK.out]; simp [rkind, h2]
          have e1 : ((n : Int) == 65) = false := by rw [beq_eq_false_iff_ne]; omega
          have e0 : ((n : Int) == 0) = false := by rw [beq_eq_false_iff_ne]; omega
          clear HK HR
          go_enter Tryd.func31, Tryd.ntmps31
          go_wp2
          go_ret
          exact ⟨by rw [HZ.out]; rfl, rfl⟩
      · have g76 : ((hd.toNat : Int) == 76) = false := by
          rw [beq_eq_false_iff_ne]; intro hh; exact h1 (BitVec.eq_of_toNat_eq (by simp; omega))
        have k76 := h1
        clear h1
        by_cases h1 : hd = 78#8
        · rw [h1] at c0 HK
          replace c0 : w.cell? ⟨b, off, none⟩ = some (.int .u8 78) := c0
          clear h1
          by_cases h2 : n = 65
          · have HZ : Hid (kindB bs = 78) := by show _ = _; rw [← HK.out]; simp [rkind, h2]
            have e1 : ((n : Int) == 65) = true := by rw [beq_iff_eq]; omega
            have e0 : ((n : Int) == 0) = false := by rw [beq_eq_false_iff_ne]; omega
            clear HK HR
            go_enter Tryd.func31, Tryd.ntmps31
            go_wp2
            go_ret
            exact ⟨by rw [HZ.out]; rfl, rfl⟩
          · have HZ : Hid (kindB bs = 0) := by show _ = _; rw [← HK.out]; simp [rkind, h2]
            have e1 : ((n : Int) == 65) = false := by rw [beq_eq_false_iff_ne]; omega
            have e0 : ((n : Int) == 0) = false := by rw [beq_eq_false_iff_ne]; omega
            clear HK HR
            go_enter Tryd.func31, Tryd.ntmps31
            go_wp2
            go_ret
            exact ⟨by rw [HZ.out]; rfl, rfl⟩
        · have g78 : ((hd.toNat : Int) == 78) = false := by
            rw [beq_eq_false_iff_ne]; intro hh; exact h1 (BitVec.eq_of_toNat_eq (by simp; omega))
          have k78 := h1
          clear h1
          by_cases h1 : hd = 82#8
          · rw [h1] at c0 HK
            replace c0 : w.cell? ⟨b, off, none⟩ = some (.int .u8 82) := c0
            clear h1
            by_cases h2 : n = 105
            · have HZ : Hid (kindB bs = 82) := by show _ = _; rw [← HK.out]; simp [rkind, h2]
              have e1 : ((n : Int) == 105) = true := by rw [beq_iff_eq]; omega
              have e0 : ((n : Int) == 0) = false := by rw [beq_eq_false_iff_ne]; omega
              clear HK HR
              go_enter Tryd.func31, Tryd.ntmps31
              go_wp2
              go_ret
              exact ⟨by rw [HZ.out]; rfl, rfl⟩
            · have HZ : Hid (kindB bs = 0) := by show _ = _; rw [← HK.out]; simp [rkind, h2]
              have e1 : ((n : Int) == 105) = false := by rw [beq_eq_false_iff_ne]; omega
              have e0 : ((n : Int) == 0) = false := by rw [beq_eq_false_iff_ne]; omega
              clear HK HR
              go_enter Tryd.func31, Tryd.ntmps31
              go_wp2
              go_ret
              exact ⟨by rw [HZ.out]; rfl, rfl⟩
          · have g82 : ((hd.toNat : Int) == 82) = false := by
              rw [beq_eq_false_iff_ne]; intro hh; exact h1 (BitVec.eq_of_toNat_eq (by simp; omega))
            have k82 := h1
            clear h1
            by_cases h1 : hd = 86#8
            · rw [h1] at c0 HK
              replace c0 : w.cell? ⟨b, off, none⟩ = some (.int .u8 86) := c0
              clear h1
              have e0 : ((n : Int) == 0) = false := by rw [beq_eq_false_iff_ne]; omega
              by_cases h2 : 49 ≤ n
              · by_cases h3 : n ≤ 1073741824
                · have HZ : Hid (kindB bs = 86) := by show _ = _; rw [← HK.out]; simp [rkind, h2, h3]
                  have e2 : decide ((n : Int) ≤ 1073741824) = true := by rw [decide_eq_true_iff]; omega
                  clear HK HR
                  go_enter Tryd.func31, Tryd.ntmps31
                  go_wp2
                  go_ret
                  exact ⟨by rw [HZ.out]; rfl, rfl⟩
                · have HZ : Hid (kindB bs = 0) := by show _ = _; rw [← HK.out]; simp [rkind, h3]
                  have e2 : decide ((n : Int) ≤ 1073741824) = false := by rw [decide_eq_false_iff_not]; omega
                  clear HK HR
                  go_enter Tryd.func31, Tryd.ntmps31
                  go_wp2
                  go_ret
                  exact ⟨by rw [HZ.out]; rfl, rfl⟩
              · have HZ : Hid (kindB bs = 0) := by show _ = _; rw [← HK.out]; simp [rkind, h2]
                have e2 : decide ((n : Int) ≥ 49) = false := by rw [decide_eq_false_iff_not]; omega
                clear HK HR
                go_enter Tryd.func31, Tryd.ntmps31
                go_wp2
                go_ret
                exact ⟨by rw [HZ.out]; rfl, rfl⟩
            · have g86 : ((hd.toNat : Int) == 86) = false := by
                rw [beq_eq_false_iff_ne]; intro hh; exact h1 (BitVec.eq_of_toNat_eq (by simp; omega))
              have k86 := h1
              clear h1
              have HZ : Hid (kindB bs = 0) := by show _ = _; rw [← HK.out]; simp [rkind, k69, k76, k78, k82, k86]
              have e0 : ((n : Int) == 0) = false := by rw [beq_eq_false_iff_ne]; omega
              clear HK HR k69 k76 k78 k82 k86
              go_enter Tryd.func31, Tryd.ntmps31
              go_wp2
              go_ret
              exact ⟨by rw [HZ.out]; rfl, rfl⟩
end Go.Proofs.YtaleeaocmomjlaaDoor

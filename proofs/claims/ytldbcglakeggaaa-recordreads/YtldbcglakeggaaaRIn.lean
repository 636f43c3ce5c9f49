/- The walks of the reference's reader: Num, Count, Take, Text, Digest, Done. -/
import Derived.Test.YtldbcglakeggaaaLMem
import Derived.BigQuiet
namespace Go.Proofs.Ytldbcglakeggaaa
open Go.RowKit
/-- the reference's reader at g: of the bytes l so many were read -/
structure InS (w : World) (g : Nat) (v : Value) (l : List (BitVec 8)) (pos : Nat) (bad : Bool) : Prop where
  blk : Blk w g [v, .int .i64 (pos : Int), .bool bad] 77
  byt : Reads w v l
  le : pos ≤ l.length
theorem InS.ne {w : World} {g : Nat} {v : Value} {l : List (BitVec 8)} {pos : Nat} {bad : Bool} (h : InS w g v l pos bad) : ∀ b off, 0 < l.length → (∀ j, j < l.length → w.cell? ⟨b, off + j, none⟩ = some (.int .u8 ((l.getD j 0).toNat : Int))) → b ≠ g := by
  intro b off hp hc he
  subst he
  have h0 := hc 0 hp
  rw [h.blk.cell] at h0
  obtain ⟨ad, cap, hv, _⟩ := h.byt
  subst hv
  match off, h0 with
  | 0, h0 => simp at h0
  | 1, h0 => simp at h0
  | 2, h0 => simp at h0
  | k + 3, h0 => simp at h0
theorem InS.only {w w' : World} {g : Nat} {v : Value} {l : List (BitVec 8)} {pos : Nat} {bad : Bool} (h : InS w g v l pos bad) (ho : Only g w w') : Reads w' v l := by
  have ha := h.ne
  obtain ⟨ad, cap, rfl, hc, hn, hx⟩ := h.byt
  refine ⟨ad, cap, rfl, hc, hn, fun hp => ?_⟩
  obtain ⟨b, off, h1, h2⟩ := hx hp
  exact ⟨b, off, h1, fun j hj => ho.cell (p := ⟨b, off + j, none⟩) (ha b off hp h2) (h2 j hj)⟩
theorem InS.setBad {w : World} {g : Nat} {v : Value} {l : List (BitVec 8)} {pos : Nat} {bad : Bool} (h : InS w g v l pos bad) (b : Bool) : InS (w.setCell ⟨g, 2, none⟩ (.bool b)) g v l pos b :=
  ⟨h.blk.set 2 (.bool b), h.only ((Only.refl _ _).setCell _ _), h.le⟩
theorem InS.setPos {w : World} {g : Nat} {v : Value} {l : List (BitVec 8)} {pos : Nat} {bad : Bool} (h : InS w g v l pos bad) (p : Nat) (hp : p ≤ l.length) : InS (w.setCell ⟨g, 1, none⟩ (.int .i64 (p : Int))) g v l p bad :=
  ⟨h.blk.set 1 (.int .i64 (p : Int)), h.only ((Only.refl _ _).setCell _ _), hp⟩
theorem InS.drewN {w : World} {g : Nat} {v : Value} {l : List (BitVec 8)} {pos : Nat} {bad : Bool} (h : InS w g v l pos bad) (n : Nat) : InS (w.drewN n) g v l pos bad := ⟨h.blk.drewN n, h.byt, h.le⟩
theorem InS.below {w w' : World} {g : Nat} {v : Value} {l : List (BitVec 8)} {pos : Nat} {bad : Bool} (h : InS w g v l pos bad) (hb : Below w.heap.size w w') : InS w' g v l pos bad := ⟨h.blk.below hb h.blk.lt, h.byt.below hb, h.le⟩
/-- what a call of the reference's reader does -/
def InDoes {α : Type} (g : Nat) (v : Value) (l : List (BitVec 8)) (w : World) (o : Option (α × List (BitVec 8))) (R : α → World → Value → Prop) (Z : Value → Prop) (e : Ending) (w' : World) : Prop :=
  (∃ a p u, o = some (a, l.drop p) ∧ e = .returned u ∧ R a w' u ∧ InS w' g v l p false ∧ Only g w w') ∨ (o = none ∧ ∃ u p, e = .returned u ∧ Z u ∧ InS w' g v l p true ∧ Only g w w')
structure InInv (g : Nat) (v : Value) (l : List (BitVec 8)) (pos : Nat) (bad : Bool) (w : World) (k acc : Nat) (wr : World) : Prop where
  le : k ≤ 10
  lt : acc < 2 ^ (7 * k)
  eq : readNum (l.drop pos) = decNum (10 - k) k acc (l.drop (pos + k))
  st : InS wr g v l (pos + k) bad
  onl : Only g w wr
set_option maxRecDepth 100000 in
set_option maxHeartbeats 2000000 in
theorem innum_any (g : Nat) (v : Value) (l : List (BitVec 8)) (pos : Nat) (bad : Bool) (w : World) (h : InS w g v l pos bad) (hl : l.length ≤ 9223372036854775807) :
    Calls Try.prog 48 #[.pointer (some ⟨g, 0, none⟩)] w fun e w' => InDoes g v l w (if bad then none else readNum (l.drop pos)) (fun a _ u => u = .int .u64 (a : Int)) (fun u => u = .int .u64 0) e w' := by
  have hI : InInv g v l pos bad w 0 0 w := ⟨by omega, by simp, rfl, h, Only.refl _ _⟩
  have HL : Hid (l.length ≤ 9223372036854775807) := hl
  clear h hl
  go_enter Try.func48, Try.ntmps48
  go_wp2
  go_loopw [3, 4] (fun x i wr => ∃ (k acc : Nat), i = .int .i64 (k : Int) ∧ x = .int .u64 (acc : Int) ∧ InInv g v l pos bad w k acc wr) (fun _ i _ => 10 - (intOf i).toNat)
  case atStart => exact ⟨0, 0, rfl, rfl, hI⟩
  case round =>
    clear hI
    obtain ⟨k, acc, rfl, rfl, hI⟩ := hrel
    have hk := hI.le
    obtain ⟨ad, cap, hv, hcap, _, hx⟩ := id hI.st.byt
    obtain ⟨m, HM⟩ : ∃ m, Hid (m = l.length) := ⟨_, rfl⟩
    rw [← HM.out] at hv hcap
    subst hv
    have HI : Hid (InInv g (.slice ad m cap) l pos bad w k acc wr) := hI
    have c0 : wr.cell? ⟨g, 0, none⟩ = some (.slice ad m cap) := hI.st.blk.cell 0
    have c1 : wr.cell? ⟨g, 1, none⟩ = some (.int .i64 ((pos + k : Nat) : Int)) := hI.st.blk.cell 1
    have c2 : wr.cell? ⟨g, 2, none⟩ = some (.bool bad) := hI.st.blk.cell 2
    have f1 : wr.frozen? ⟨g, 1, none⟩ = false := hI.st.blk.frozen 1
    have f2 : wr.frozen? ⟨g, 2, none⟩ = false := hI.st.blk.frozen 2
    have HX : Hid (∀ j, j < m → ∃ b off, ad = some ⟨b, off, none⟩ ∧ b ≠ g ∧ wr.cell? ⟨b, off + j, none⟩ = some (.int .u8 ((l.getD j 0).toNat : Int))) := by
      intro j hj
      rw [HM.out] at hj
      obtain ⟨b, off, h1, h2⟩ := hx (by omega)
      exact ⟨b, off, h1, hI.st.ne b off (by omega) h2, h2 j hj⟩
    clear hx hI
    obtain ⟨p, HP⟩ : ∃ p, Hid (p = pos + k) := ⟨_, rfl⟩
    rw [← HP.out] at c1
    have HPM : Hid (p ≤ m) := by show _ ≤ _; rw [HP.out, HM.out]; exact HI.out.st.le
    have hmx : m ≤ 9223372036854775807 := by rw [HM.out]; exact HL.out
    by_cases hlt : k < 10
    · cases bad with
      | true =>
        have HF : Hid (∀ n, InDoes g (.slice ad m cap) l w none (fun (a : Nat) _ u => u = .int .u64 (a : Int)) (fun u => u = .int .u64 0) (.returned (.int .u64 0)) ((wr.drewN n).setCell ⟨g, 2, none⟩ (.bool true))) := fun n =>
          Or.inr ⟨rfl, _, _, rfl, rfl, (HI.out.st.drewN n).setBad true, (HI.out.onl.drewN n).setCell _ _⟩
        clear HI
        go_wp2
        go_quiet (fail)
        go_wp2
        go_ret
        exact HF.out _
      | false =>
        by_cases hpm : p < m
        · obtain ⟨b, off, rfl, hbg, hc⟩ := HX.out p hpm
          have hge : ¬ ((m : Int) ≤ (p : Int)) := by omega
          have hc8 := (l.getD p 0).isLt
          have HE : Hid (readNum (l.drop pos) = if (k = 9 ∧ 1 < (l.getD p 0).toNat) ∨ (0 < k ∧ (l.getD p 0).toNat = 0) then none else if (l.getD p 0).toNat < 128 then some (acc + (l.getD p 0).toNat % 128 * 2 ^ (7 * k), l.drop (p + 1)) else decNum (10 - (k + 1)) (k + 1) (acc + (l.getD p 0).toNat % 128 * 2 ^ (7 * k)) (l.drop (p + 1))) := by
            show _ = _
            have hd : l.drop p = l.getD p 0 :: l.drop (p + 1) := by
              rw [HM.out] at hpm
              rw [List.drop_eq_getElem_cons hpm, List.getD_eq_getElem?_getD, List.getElem?_eq_getElem hpm]
              rfl
            rw [HI.out.eq, ← HP.out, hd, dec_step k acc hlt]
          obtain ⟨cn, HCN⟩ : ∃ x, Hid (x = (l.getD p 0).toNat) := ⟨_, rfl⟩
          rw [← HCN.out] at hc hc8 HE
          have HA : Hid (acc < 2 ^ (7 * k)) := HI.out.lt
          have HS : Hid (∀ n, InS ((wr.drewN n).setCell ⟨g, 1, none⟩ (.int .i64 ((p : Int) + 1))) g (.slice (some ⟨b, off, none⟩) m cap) l (p + 1) false) := fun n => (HI.out.st.drewN n).setPos (p + 1) (by rw [← HM.out]; omega)
          have HO : Hid (∀ n, Only g w ((wr.drewN n).setCell ⟨g, 1, none⟩ (.int .i64 ((p : Int) + 1)))) := fun n => (HI.out.onl.drewN n).setCell _ _
          have HBad : Hid (readNum (l.drop pos) = none → ∀ n, InDoes g (.slice (some ⟨b, off, none⟩) m cap) l w (readNum (l.drop pos)) (fun (a : Nat) _ u => u = .int .u64 (a : Int)) (fun u => u = .int .u64 0) (.returned (.int .u64 0)) (((wr.drewN n).setCell ⟨g, 1, none⟩ (.int .i64 ((p : Int) + 1))).setCell ⟨g, 2, none⟩ (.bool true))) := fun hno n =>
            Or.inr ⟨hno, _, _, rfl, rfl, (HS.out n).setBad true, (HO.out n).setCell _ _⟩
          have hp1 : IntKind.i64.wrap ((p : Int) + 1) = (p : Int) + 1 := by rw [IntKind.wrap_i64]; omega
          have h7 : IntKind.i64.wrap (7 * (k : Int)) = 7 * (k : Int) := by rw [IntKind.wrap_i64]; omega
          have h7u : IntKind.u64.wrap (7 * (k : Int)) = 7 * (k : Int) := by rw [IntKind.wrap_u64]; omega
          have h70 : ¬ (7 * (k : Int) < 0) := by omega
          clear HI HX
          go_wp2
          go_quiet (fail)
          go_wp2
          go_quiet (fail)
          by_cases hA : (k = 9 ∧ 1 < cn) ∨ (0 < k ∧ cn = 0)
          · have HNo : Hid (readNum (l.drop pos) = none) := by show _ = _; rw [HE.out, if_pos hA]
            clear HE HS HO HA
            rcases hA with ⟨rfl, h1⟩ | ⟨h1, rfl⟩
            · have h1i : 1 < (cn : Int) := by omega
              clear h7 h7u h70
              go_wp2
              go_ret
              exact HBad.out HNo.out _
            · by_cases h9 : k = 9
              · subst h9
                clear h7 h7u h70
                go_wp2
                go_ret
                exact HBad.out HNo.out _
              · have h9i : ¬ ((k : Int) = 9) := by omega
                go_wp2
                go_ret
                exact HBad.out HNo.out _
          · have HG : Hid (cn % 128 * 2 ^ (7 * k) + acc < 18446744073709551616) := by
              show _ < _
              have ha := HA.out
              by_cases h9 : k = 9
              · subst h9
                simp only [Nat.reduceMul, Nat.reducePow] at ha ⊢
                omega
              · have hp : (2 : Nat) ^ (7 * k) ≤ 2 ^ 56 := Nat.pow_le_pow_right (by omega) (by omega)
                have : cn % 128 * 2 ^ (7 * k) ≤ 127 * 2 ^ 56 := Nat.mul_le_mul (by omega) hp
                simp only [Nat.reducePow] at this hp
                omega
            obtain ⟨sm, HSM⟩ : ∃ x, Hid (x = acc + cn % 128 * 2 ^ (7 * k)) := ⟨_, rfl⟩
            have HE2 : Hid (readNum (l.drop pos) = if cn < 128 then some (sm, l.drop (p + 1)) else decNum (10 - (k + 1)) (k + 1) sm (l.drop (p + 1))) := by show _ = _; rw [HE.out, if_neg hA, HSM.out]
            have hcast : (cn : Int) % 128 * 2 ^ (7 * k) = ((cn % 128 * 2 ^ (7 * k) : Nat) : Int) := by simp
            have hw1 : IntKind.u64.wrap ((cn : Int) % 128 * 2 ^ (7 * k)) = (cn : Int) % 128 * 2 ^ (7 * k) := by
              have := HG.out; rw [hcast, IntKind.wrap_u64]; omega
            have hw2 : IntKind.u64.wrap ((acc : Int) + (cn : Int) % 128 * 2 ^ (7 * k)) = (sm : Int) := by
              have := HG.out; rw [hcast, IntKind.wrap_u64, HSM.out]; omega
            clear HE hcast HBad
            by_cases hC : cn < 128
            · have hC2 : (cn : Int) < 128 := by omega
              have HF : Hid (∀ n, InDoes g (.slice (some ⟨b, off, none⟩) m cap) l w (readNum (l.drop pos)) (fun (a : Nat) _ u => u = .int .u64 (a : Int)) (fun u => u = .int .u64 0) (.returned (.int .u64 (sm : Int))) ((wr.drewN n).setCell ⟨g, 1, none⟩ (.int .i64 ((p : Int) + 1)))) := fun n =>
                Or.inl ⟨sm, p + 1, _, by rw [HE2.out, if_pos hC], rfl, rfl, HS.out n, HO.out n⟩
              clear HE2 HS HO
              by_cases h9 : k = 9
              · subst h9
                have h1 : cn = 1 := by omega
                subst h1
                have hs1 : (sm : Int) = (acc : Int) + 9223372036854775808 := by rw [HSM.out]; simp
                have hw3 : IntKind.u64.wrap ((acc : Int) + 9223372036854775808) = (acc : Int) + 9223372036854775808 := by rw [IntKind.wrap_u64]; have := HG.out; simp at this; omega
                rw [hs1] at HF
                clear hA h7 h7u h70 hw1 hw2 hs1
                go_wp2
                go_ret
                exact HF.out _
              · have h9i : ¬ ((k : Int) = 9) := by omega
                by_cases hz : cn = 0
                · have hk0 : k = 0 := by omega
                  subst hz hk0
                  have ha0 : acc = 0 := by have := HA.out; simp at this; omega
                  subst ha0
                  have hs0 : sm = 0 := HSM.out
                  subst hs0
                  clear hA h7 h7u h70 hw1 hw2
                  go_wp2
                  go_ret
                  exact HF.out _
                · have hz2 : ¬ ((cn : Int) = 0) := by omega
                  clear hA
                  by_cases hk0 : 0 < k
                  · go_wp2
                    go_ret
                    exact HF.out _
                  · go_wp2
                    go_ret
                    exact HF.out _
            · have hC2 : ¬ ((cn : Int) < 128) := by omega
              have hz2 : ¬ ((cn : Int) = 0) := by omega
              have h9i : ¬ ((k : Int) = 9) := by omega
              have HS2 : Hid (sm < 2 ^ (7 * (k + 1))) := by
                show _ < _
                rw [HSM.out, pow7]
                have h1 := HA.out
                have h2 : cn % 128 * 2 ^ (7 * k) ≤ 127 * 2 ^ (7 * k) := Nat.mul_le_mul_right _ (by omega)
                omega
              have HJ : Hid (∀ n, InInv g (.slice (some ⟨b, off, none⟩) m cap) l pos false w (k + 1) sm ((wr.drewN n).setCell ⟨g, 1, none⟩ (.int .i64 ((p : Int) + 1)))) := fun n =>
                ⟨by omega, HS2.out, by rw [HE2.out, if_neg hC, HP.out, Nat.add_assoc], by have := HS.out n; rw [HP.out, Nat.add_assoc] at this; rw [HP.out]; exact this, HO.out n⟩
              clear hA hC HE2 HS HO
              by_cases hk0 : 0 < k
              · go_wp2
                go_roundw
                case rel => exact ⟨k + 1, sm, by go_num, rfl, HJ.out _⟩
                case measure => simp [intOf]; omega
              · go_wp2
                go_roundw
                case rel => exact ⟨k + 1, sm, by go_num, rfl, HJ.out _⟩
                case measure => simp [intOf]; omega
        · have hge : (m : Int) ≤ (p : Int) := by omega
          have HNo : Hid (readNum (l.drop pos) = none) := by
            show _ = _
            rw [HI.out.eq, ← HP.out, List.drop_of_length_le (by rw [← HM.out]; omega), dec_nil k acc hlt]
          have HF : Hid (∀ n, InDoes g (.slice ad m cap) l w (readNum (l.drop pos)) (fun (a : Nat) _ u => u = .int .u64 (a : Int)) (fun u => u = .int .u64 0) (.returned (.int .u64 0)) ((wr.drewN n).setCell ⟨g, 2, none⟩ (.bool true))) := fun n =>
            Or.inr ⟨HNo.out, _, _, rfl, rfl, (HI.out.st.drewN n).setBad true, (HI.out.onl.drewN n).setCell _ _⟩
          clear HI HX
          go_wp2
          go_quiet (fail)
          go_wp2
          go_ret
          exact HF.out _
    · have hk10 : k = 10 := by omega
      subst hk10
      have HF : Hid (InDoes g (.slice ad m cap) l w (if bad then none else readNum (l.drop pos)) (fun (a : Nat) _ u => u = .int .u64 (a : Int)) (fun u => u = .int .u64 0) (.returned (.int .u64 0)) (wr.setCell ⟨g, 2, none⟩ (.bool true))) := by
        refine Or.inr ⟨?_, _, _, rfl, rfl, HI.out.st.setBad true, HI.out.onl.setCell _ _⟩
        rw [HI.out.eq]
        cases bad <;> rfl
      clear HI HX
      cases bad with
      | true =>
        go_wp2
        go_ret
        exact HF.out
      | false =>
        go_wp2
        go_ret
        exact HF.out
end Go.Proofs.Ytldbcglakeggaaa

/- The walks of Check, of record and of the reference; nameAndKey. -/
import Derived.Test.YtldbcglakeggaaaRecStr
namespace Go.Proofs.Ytldbcglakeggaaa
open Go.RowKit
theorem Reads.inB {w : World} {v : Value} {l : List (BitVec 8)} (h : Reads w v l) : 0 < l.length → ∀ k, v.ownBlock = some k → k < w.heap.size := by
  intro hp k hk
  obtain ⟨ad, cap, rfl, _, _, hx⟩ := h
  obtain ⟨b, off, rfl, hy⟩ := hx hp
  simp only [Value.ownBlock, Option.some.injEq] at hk
  subst hk
  exact block_lt_of_cell (hy 0 hp)
theorem Reads.keep {w w' : World} {v : Value} {l : List (BitVec 8)} {B : Nat} (h : Reads w v l) (hb : Below B w w') (hv : 0 < l.length → ∀ k, v.ownBlock = some k → k < B) : Reads w' v l := by
  obtain ⟨ad, cap, rfl, hc, hn, hx⟩ := h
  refine ⟨ad, cap, rfl, hc, hn, fun hp => ?_⟩
  obtain ⟨b, off, rfl, h2⟩ := hx hp
  exact ⟨b, off, rfl, fun j hj => by rw [hb.cell (p := ⟨b, off + j, none⟩) (hv hp b rfl)]; exact h2 j hj⟩
def chk (nm ky : List (BitVec 8)) : Int := if nameOk nm then (if keyOk ky then 0 else 5) else 4
theorem chk_key {nm ky : List (BitVec 8)} (h : nameOk nm = true) : chk nm ky = if keyOk ky then 0 else 5 := by unfold chk; rw [if_pos h]
theorem chk_name {nm ky : List (BitVec 8)} (h : nameOk nm = false) : chk nm ky = 4 := by unfold chk; rw [h]; rfl
theorem keyOk_no {l : List (BitVec 8)} (h : ¬ (1 ≤ l.length ∧ l.length ≤ 64)) : keyOk l = false := by
  unfold keyOk
  by_cases h1 : 1 ≤ l.length
  · rw [show decide (l.length ≤ 64) = false from decide_eq_false (by omega)]; simp
  · rw [show decide (1 ≤ l.length) = false from decide_eq_false h1]; simp
theorem keyOk_is {l : List (BitVec 8)} (h : 1 ≤ l.length ∧ l.length ≤ 64) : keyOk l = true := by
  unfold keyOk
  rw [decide_eq_true h.1, decide_eq_true h.2]; simp
set_option maxRecDepth 100000 in
set_option maxHeartbeats 1000000 in
theorem rcheck_any (nm ky : List (BitVec 8)) (vk : Value) (sr : Nat) (w : World) (hk : Reads w vk ky) :
    Calls Try.prog 9 #[.agg #[.string (strB nm), vk, .int .u64 (sr : Int)]] w fun e w' => e = .returned (.int .i64 (chk nm ky)) ∧ Below w.heap.size w w' := by
  obtain ⟨ad, cap, hv, _, _, _⟩ := hk
  obtain ⟨m, HM⟩ : ∃ m, Hid (m = ky.length) := ⟨_, rfl⟩
  rw [← HM.out] at hv
  subst hv
  obtain ⟨o, HO⟩ : ∃ o, Hid (o = chk nm ky) := ⟨_, rfl⟩
  rw [← HO.out]
  obtain ⟨bb, HBB⟩ : ∃ bb, Hid (bb = nameOk nm) := ⟨_, rfl⟩
  have HW0 := below_alloc w (.cells #[.string (strB nm), .slice ad m cap, .int .u64 (sr : Int)] 25)
  have HW : Hid (Below w.heap.size w (w.alloc (.cells #[.string (strB nm), .slice ad m cap, .int .u64 (sr : Int)] 25))) := HW0
  have hB := Blk.new w [.string (strB nm), .slice ad m cap, .int .u64 (sr : Int)] 25
  clear HW0
  have hnot := unot
  go_enter Try.func9, Try.ntmps9
  go_wp2_with fail
  generalize w.alloc (.cells #[.string (strB nm), .slice ad m cap, .int .u64 (sr : Int)] 25) = w0 at *
  refine (isName_any nm w0).mono ?_
  rintro e w1 ⟨rfl, hb1⟩
  rw [← HBB.out]
  have HW1 : Hid (Below w.heap.size w w1) := HW.out.trans (hb1.mono HW.out.size)
  have c1 : w1.cell? ⟨w.heap.size, 1, none⟩ = some (.slice ad m cap) := (hB.below hb1 hB.lt).cell 1
  clear hB hb1 HW
  cases bb with
  | false =>
    have ho : o = 4 := by rw [HO.out]; exact chk_name HBB.out.symm
    subst ho
    clear HBB HO
    go_wp2
    go_ret
    exact ⟨rfl, HW1.out⟩
  | true =>
    have HO2 : Hid (o = if keyOk ky then 0 else 5) := by show o = _; rw [HO.out]; exact chk_key HBB.out.symm
    clear HBB HO
    by_cases h1 : m < 1
    · have ho : o = 5 := by rw [HO2.out, keyOk_no (by rw [← HM.out]; omega)]; rfl
      subst ho
      have i1 : (m : Int) < 1 := by omega
      clear HO2 h1
      go_wp2
      go_ret
      exact ⟨rfl, HW1.out⟩
    · have i1 : ¬ ((m : Int) < 1) := by omega
      by_cases h2 : 64 < m
      · have ho : o = 5 := by rw [HO2.out, keyOk_no (by rw [← HM.out]; omega)]; rfl
        subst ho
        have i2 : (64 : Int) < (m : Int) := by omega
        clear HO2 h1 h2
        go_wp2
        go_ret
        exact ⟨rfl, HW1.out⟩
      · have ho : o = 0 := by rw [HO2.out, keyOk_is (by rw [← HM.out]; omega)]; rfl
        subst ho
        have i2 : ¬ ((64 : Int) < (m : Int)) := by omega
        clear HO2 h1 h2
        go_wp2
        go_ret
        exact ⟨rfl, HW1.out⟩
set_option maxRecDepth 100000 in
set_option maxHeartbeats 1000000 in
theorem rfcheck_any (nm ky : List (BitVec 8)) (vk : Value) (w : World) (hk : Reads w vk ky) :
    Calls Try.prog 10 #[.string (strB nm), vk] w fun e w' => e = .returned (.int .i64 (chk nm ky)) ∧ ∃ k, w' = w.drewN k := by
  obtain ⟨ad, cap, hv, _, _, _⟩ := hk
  obtain ⟨m, HM⟩ : ∃ m, Hid (m = ky.length) := ⟨_, rfl⟩
  rw [← HM.out] at hv
  subst hv
  obtain ⟨o, HO⟩ : ∃ o, Hid (o = chk nm ky) := ⟨_, rfl⟩
  rw [← HO.out]
  obtain ⟨bb, HBB⟩ : ∃ bb, Hid (bb = nameOk nm) := ⟨_, rfl⟩
  have hnot := unot
  go_enter Try.func10, Try.ntmps10
  go_wp2_with fail
  refine (rfName_any nm w).mono ?_
  rintro e w1 ⟨rfl, q, rfl⟩
  rw [← HBB.out]
  cases bb with
  | false =>
    have ho : o = 4 := by rw [HO.out]; exact chk_name HBB.out.symm
    subst ho
    clear HBB HO
    go_wp2
    go_ret
    exact ⟨rfl, q, rfl⟩
  | true =>
    have HO2 : Hid (o = if keyOk ky then 0 else 5) := by show o = _; rw [HO.out]; exact chk_key HBB.out.symm
    clear HBB HO
    by_cases h1 : m < 1
    · have ho : o = 5 := by rw [HO2.out, keyOk_no (by rw [← HM.out]; omega)]; rfl
      subst ho
      have i1 : (m : Int) < 1 := by omega
      clear HO2 h1
      go_wp2
      go_ret
      exact ⟨rfl, q, rfl⟩
    · have i1 : ¬ ((m : Int) < 1) := by omega
      by_cases h2 : 64 < m
      · have ho : o = 5 := by rw [HO2.out, keyOk_no (by rw [← HM.out]; omega)]; rfl
        subst ho
        have i2 : (64 : Int) < (m : Int) := by omega
        clear HO2 h1 h2
        go_wp2
        go_ret
        exact ⟨rfl, q, rfl⟩
      · have ho : o = 0 := by rw [HO2.out, keyOk_is (by rw [← HM.out]; omega)]; rfl
        subst ho
        have i2 : ¬ ((64 : Int) < (m : Int)) := by omega
        clear HO2 h1 h2
        go_wp2
        go_ret
        exact ⟨rfl, q, rfl⟩
set_option maxRecDepth 100000 in
set_option maxHeartbeats 1000000 in
theorem nameAndKey_any (base : Nat) (v vk : Value) (l nm ky : List (BitVec 8)) (w : World) (hown : OwnB w base v l) (hk : Reads w vk ky) (hb : base ≤ w.heap.size) (hl : l.length + nm.length + ky.length + 20 ≤ 140737488355328) (hkb : 0 < ky.length → ∀ k, vk.ownBlock = some k → k < base) :
    Calls Try.prog 39 #[v, .string (strB nm), vk] w fun e w' => ∃ v', e = .returned v' ∧ OwnB w' base v' (l ++ (encText nm ++ encText ky)) ∧ Below base w w' := by
  have HO : Hid (OwnB w base v l) := hown
  have HK : Hid (Reads w vk ky) := hk
  have HL : Hid (l.length + nm.length + ky.length + 20 ≤ 140737488355328) := hl
  have HB : Hid (base ≤ w.heap.size) := hb
  have hcv := conv_string nm w
  have hrd := bytesWorld_reads nm w
  have hbl := bytesWorld_below nm w
  generalize Lib.bytesWorld w 5 (strB nm) = w0 at *
  generalize grownCap w nm.length 0 5 = cp at *
  have HR : Hid (Reads w0 (.slice (some ⟨w.heap.size, 0, none⟩) nm.length cp) nm) := hrd
  have HO0 : Hid (OwnB w0 base v l) := hown.below hbl (Nat.le_refl _)
  have HB0 : Hid (Below w.heap.size w w0) := hbl
  have HK0 : Hid (Reads w0 vk ky) := hk.below hbl
  generalize Value.slice (some ⟨w.heap.size, 0, none⟩) nm.length cp = vn at *
  have HKB : Hid (0 < ky.length → ∀ k, vk.ownBlock = some k → k < base) := hkb
  have HNL : Hid (nm.length < 18446744073709551616) := by show _ < _; omega
  clear hown hk hl hb hrd hbl HO HK hkb
  go_enter Try.func39, Try.ntmps39
  go_wp2_with fail
  refine (ctext_any base v vn l nm w0 HO0.out HR.out (Nat.le_trans HB.out HB0.out.size) (by have := HL.out; omega)).mono ?_
  rintro e w1 ⟨v1, rfl, hown1, hb1⟩
  have hbe1 : Below base w w1 := (HB0.out.mono HB.out).trans hb1
  have HBE1 : Hid (Below base w w1) := hbe1
  have HK1 : Hid (Reads w1 vk ky) := HK0.out.keep hb1 HKB.out
  have HO1 : Hid (OwnB w1 base v1 (l ++ encText nm)) := hown1
  have HLL : Hid ((l ++ encText nm).length + ky.length + 10 ≤ 140737488355328) := by
    show _ ≤ _
    have h1 := HL.out
    have h2 := enc_len10 nm.length HNL.out
    unfold encText
    rw [List.length_append, List.length_append]
    omega
  clear hown1 hbe1 hb1 HK0 HO0 HR
  go_wp2_with fail
  refine (ctext_any base v1 vk (l ++ encText nm) ky w1 HO1.out HK1.out (Nat.le_trans HB.out HBE1.out.size) HLL.out).mono ?_
  rintro e w2 ⟨v2, rfl, hown2, hb2⟩
  have HF : Hid (OwnB w2 base v2 (l ++ (encText nm ++ encText ky)) ∧ Below base w w2) := ⟨by rw [← List.append_assoc]; exact hown2, HBE1.out.trans hb2⟩
  clear hown2 hb2 HO1 HK1 HBE1
  go_wp2
  go_ret
  exact ⟨_, rfl, HF.out⟩
end Go.Proofs.Ytldbcglakeggaaa

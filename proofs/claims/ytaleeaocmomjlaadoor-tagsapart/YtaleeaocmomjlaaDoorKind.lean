/- The walks of tags.Kind and blazonref03.Kind: what any bytes are hashed for. -/
import Derived.Test.YtaleeaocmomjlaaDoorFlow
import Derived.BigQuiet
namespace Go.Proofs.YtaleeaocmomjlaaDoor
open Go.RowKit
def kindRows : List (BitVec 8 × Nat × Nat) := [(69, 1, 1), (76, 65, 65), (78, 65, 65), (86, 49, 1073741824), (82, 105, 105)]
def kindOf (bs : List (BitVec 8)) : List (BitVec 8 × Nat × Nat) → BitVec 8
  | [] => 0
  | r :: rs => if r.2.1 ≤ bs.length ∧ bs.length ≤ r.2.2 ∧ bs.getD 0 0 = r.1 then r.1 else kindOf bs rs
/-- what bytes are hashed for: their sign, if they may be such; else 0 -/
def kindB (bs : List (BitVec 8)) : BitVec 8 := kindOf bs kindRows
def kindsV : Value := (.agg #[.int .u8 69, .int .i64 1, .int .i64 1, .int .u8 76, .int .i64 65, .int .i64 65, .int .u8 78, .int .i64 65, .int .i64 65, .int .u8 86, .int .i64 49, .int .i64 1073741824, .int .u8 82, .int .i64 105, .int .i64 105])
theorem kinds_0 (w : World) : (Instr.index 58 (.agg #[.int .u8 69, .int .i64 1, .int .i64 1, .int .u8 76, .int .i64 65, .int .i64 65, .int .u8 78, .int .i64 65, .int .i64 65, .int .u8 86, .int .i64 49, .int .i64 1073741824, .int .u8 82, .int .i64 105, .int .i64 105]) (.int .i64 0)).run Tryd.prog w = .ok (.agg #[.int .u8 69, .int .i64 1, .int .i64 1]) w := by kernel_rfl
theorem kinds_1 (w : World) : (Instr.index 58 (.agg #[.int .u8 69, .int .i64 1, .int .i64 1, .int .u8 76, .int .i64 65, .int .i64 65, .int .u8 78, .int .i64 65, .int .i64 65, .int .u8 86, .int .i64 49, .int .i64 1073741824, .int .u8 82, .int .i64 105, .int .i64 105]) (.int .i64 1)).run Tryd.prog w = .ok (.agg #[.int .u8 76, .int .i64 65, .int .i64 65]) w := by kernel_rfl
theorem kinds_2 (w : World) : (Instr.index 58 (.agg #[.int .u8 69, .int .i64 1, .int .i64 1, .int .u8 76, .int .i64 65, .int .i64 65, .int .u8 78, .int .i64 65, .int .i64 65, .int .u8 86, .int .i64 49, .int .i64 1073741824, .int .u8 82, .int .i64 105, .int .i64 105]) (.int .i64 2)).run Tryd.prog w = .ok (.agg #[.int .u8 78, .int .i64 65, .int .i64 65]) w := by kernel_rfl
theorem kinds_3 (w : World) : (Instr.index 58 (.agg #[.int .u8 69, .int .i64 1, .int .i64 1, .int .u8 76, .int .i64 65, .int .i64 65, .int .u8 78, .int .i64 65, .int .i64 65, .int .u8 86, .int .i64 49, .int .i64 1073741824, .int .u8 82, .int .i64 105, .int .i64 105]) (.int .i64 3)).run Tryd.prog w = .ok (.agg #[.int .u8 86, .int .i64 49, .int .i64 1073741824]) w := by kernel_rfl
theorem kinds_4 (w : World) : (Instr.index 58 (.agg #[.int .u8 69, .int .i64 1, .int .i64 1, .int .u8 76, .int .i64 65, .int .i64 65, .int .u8 78, .int .i64 65, .int .i64 65, .int .u8 86, .int .i64 49, .int .i64 1073741824, .int .u8 82, .int .i64 105, .int .i64 105]) (.int .i64 4)).run Tryd.prog w = .ok (.agg #[.int .u8 82, .int .i64 105, .int .i64 105]) w := by kernel_rfl
theorem below_drewN {B : Nat} {w w' : World} (h : Below B w w') (n : Nat) : Below B w (w'.drewN n) := ⟨h.os, h.tape, h.output, h.size, h.block⟩
theorem Reads.head {w wr : World} {ad : Option Addr} {n cp : Nat} {bs : List (BitVec 8)} (h : Reads w (.slice ad n cp) bs) (hn : n = bs.length) (hp : 0 < n) (hb : Below w.heap.size w wr) :
    ∃ b off, ad = some ⟨b, off, none⟩ ∧ wr.cell? ⟨b, off, none⟩ = some (.int .u8 ((bs.getD 0 0).toNat : Int)) := by
  obtain ⟨ad', cap', hv, _, _, hx⟩ := h
  simp only [Value.slice.injEq] at hv
  obtain ⟨rfl, _, rfl⟩ := hv
  obtain ⟨b, off, rfl, hc⟩ := hx (by omega)
  have h1 := hc 0 (by omega)
  exact ⟨b, off, rfl, by rw [hb.cell (p := ⟨b, off, none⟩) (block_lt_of_cell h1)]; exact h1⟩
theorem kind_yes {bs : List (BitVec 8)} {rs : List (BitVec 8 × Nat × Nat)} {c : BitVec 8} {lo hi : Nat} (h : kindOf bs ((c, lo, hi) :: rs) = kindB bs) (h1 : lo ≤ bs.length) (h2 : bs.length ≤ hi) (h3 : bs.getD 0 0 = c) : kindB bs = c := by
  rw [← h, kindOf, if_pos ⟨h1, h2, h3⟩]
theorem kind_no {bs : List (BitVec 8)} {rs : List (BitVec 8 × Nat × Nat)} {c : BitVec 8} {lo hi : Nat} (h : kindOf bs ((c, lo, hi) :: rs) = kindB bs) (hn : ¬ (lo ≤ bs.length ∧ bs.length ≤ hi ∧ bs.getD 0 0 = c)) : kindOf bs rs = kindB bs := by
  rw [← h, kindOf, if_neg hn]
set_option maxHeartbeats 1000000 in
theorem tKind_any (v : Value) (bs : List (BitVec 8)) (w : World) (hR : Reads w v bs) :
    Calls Tryd.prog 30 #[v] w fun e w' => e = .returned (.int .u8 ((kindB bs).toNat : Int)) ∧ Below w.heap.size w w' := by
  have HR : Hid (Reads w v bs) := hR
  obtain ⟨ad, cp, rfl, _, _, _⟩ := hR
  obtain ⟨n, HN⟩ : ∃ zz, Hid (zz = bs.length) := ⟨_, rfl⟩
  rw [← HN.out] at HR ⊢
  obtain ⟨hd, HH⟩ : ∃ zz, Hid (zz = bs.getD 0 0) := ⟨_, rfl⟩
  go_enter Tryd.func30, Tryd.ntmps30
  go_wp2
  go_loopw [13] (fun i wr => ∃ k : Nat, k ≤ 5 ∧ i = .int .i64 k ∧ kindOf bs (kindRows.drop k) = kindB bs ∧ Below w.heap.size w wr) (fun i _ => 5 - (intOf i).toNat)
  case atStart => exact ⟨0, by omega, rfl, rfl, below_alloc _ _⟩
  case round =>
    obtain ⟨k, hk, rfl, hE, hB⟩ := hrel
    have HE : Hid (kindOf bs (kindRows.drop k) = kindB bs) := hE
    have HB : Hid (Below w.heap.size w wr) := hB
    clear hE hB
    rcases (show k = 0 ∨ k = 1 ∨ k = 2 ∨ k = 3 ∨ k = 4 ∨ k = 5 by omega) with rfl | rfl | rfl | rfl | rfl | rfl
    · have hx := kinds_0
      by_cases h1 : 1 ≤ n
      · by_cases h2 : n ≤ 1
        · obtain ⟨b, off, rfl, c0⟩ := HR.out.head HN.out (by omega) (HB.out.alloc HB.out.size (.cells #[.int .u8 69, .int .i64 1, .int .i64 1] 57))
          rw [← HH.out] at c0
          have g1 : decide ((1 : Int) ≤ (n : Int)) = true := by rw [decide_eq_true_iff]; omega
          have g2 : decide ((n : Int) ≤ (1 : Int)) = true := by rw [decide_eq_true_iff]; omega
          by_cases h3 : hd = 69
          · have HE' : Hid (kindB bs = 69) := kind_yes (lo := 1) (hi := 1) HE.out (by rw [← HN.out]; exact h1) (by rw [← HN.out]; exact h2) (by rw [← HH.out]; exact h3)
            have HB' : Hid (Below w.heap.size w (wr.alloc (.cells #[.int .u8 69, .int .i64 1, .int .i64 1] 57))) := HB.out.alloc HB.out.size _
            replace c0 : (wr.alloc (.cells #[.int .u8 69, .int .i64 1, .int .i64 1] 57)).cell? ⟨b, off, none⟩ = some (.int .u8 69) := by rw [c0, h3]; rfl
            clear HE HB h3
            go_wp2
            go_quiet (fail)
            go_wp2
            go_ret
            exact ⟨by rw [HE'.out]; rfl, below_drewN HB'.out _⟩
          · have h4 : ((hd.toNat : Int) == 69) = false := by
              rw [beq_eq_false_iff_ne]; intro hh; exact h3 (BitVec.eq_of_toNat_eq (by simp; omega))
            have HE' : Hid (kindOf bs (kindRows.drop 1) = kindB bs) := kind_no (c := 69) (lo := 1) (hi := 1) HE.out (by rw [← HN.out, ← HH.out]; exact fun hh => h3 hh.2.2)
            have HB' : Hid (Below w.heap.size w (wr.alloc (.cells #[.int .u8 69, .int .i64 1, .int .i64 1] 57))) := HB.out.alloc HB.out.size _
            clear HE HB
            go_wp2
            go_quiet (fail)
            go_wp2
            exact ⟨⟨1, by omega, rfl, HE'.out, below_drewN HB'.out _⟩, by simp [intOf]⟩
        · have g1 : decide ((1 : Int) ≤ (n : Int)) = true := by rw [decide_eq_true_iff]; omega
          have g2 : decide ((n : Int) ≤ (1 : Int)) = false := by rw [decide_eq_false_iff_not]; omega
          have HE' : Hid (kindOf bs (kindRows.drop 1) = kindB bs) := kind_no (c := 69) (lo := 1) (hi := 1) HE.out (by rw [← HN.out, ← HH.out]; omega)
          have HB' : Hid (Below w.heap.size w (wr.alloc (.cells #[.int .u8 69, .int .i64 1, .int .i64 1] 57))) := HB.out.alloc HB.out.size _
          clear HE HB
          go_wp2
          go_quiet (fail)
          go_wp2
          exact ⟨⟨1, by omega, rfl, HE'.out, below_drewN HB'.out _⟩, by simp [intOf]⟩
      · have g1 : decide ((1 : Int) ≤ (n : Int)) = false := by rw [decide_eq_false_iff_not]; omega
        have HE' : Hid (kindOf bs (kindRows.drop 1) = kindB bs) := kind_no (c := 69) (lo := 1) (hi := 1) HE.out (by rw [← HN.out, ← HH.out]; omega)
        have HB' : Hid (Below w.heap.size w (wr.alloc (.cells #[.int .u8 69, .int .i64 1, .int .i64 1] 57))) := HB.out.alloc HB.out.size _
        clear HE HB
        go_wp2
        go_quiet (fail)
        go_wp2
        exact ⟨⟨1, by omega, rfl, HE'.out, below_drewN HB'.out _⟩, by simp [intOf]⟩
    · have hx := kinds_1
      by_cases h1 : 65 ≤ n
      · by_cases h2 : n ≤ 65
        · obtain ⟨b, off, rfl, c0⟩ := HR.out.head HN.out (by omega) (HB.out.alloc HB.out.size (.cells #[.int .u8 76, .int .i64 65, .int .i64 65] 57))
          rw [← HH.out] at c0
          have g1 : decide ((65 : Int) ≤ (n : Int)) = true := by rw [decide_eq_true_iff]; omega
          have g2 : decide ((n : Int) ≤ (65 : Int)) = true := by rw [decide_eq_true_iff]; omega
          by_cases h3 : hd = 76
          · have HE' : Hid (kindB bs = 76) := kind_yes (lo := 65) (hi := 65) HE.out (by rw [← HN.out]; exact h1) (by rw [← HN.out]; exact h2) (by rw [← HH.out]; exact h3)
            have HB' : Hid (Below w.heap.size w (wr.alloc (.cells #[.int .u8 76, .int .i64 65, .int .i64 65] 57))) := HB.out.alloc HB.out.size _
            replace c0 : (wr.alloc (.cells #[.int .u8 76, .int .i64 65, .int .i64 65] 57)).cell? ⟨b, off, none⟩ = some (.int .u8 76) := by rw [c0, h3]; rfl
            clear HE HB h3
            go_wp2
            go_quiet (fail)
            go_wp2
            go_ret
            exact ⟨by rw [HE'.out]; rfl, below_drewN HB'.out _⟩
          · have h4 : ((hd.toNat : Int) == 76) = false := by
              rw [beq_eq_false_iff_ne]; intro hh; exact h3 (BitVec.eq_of_toNat_eq (by simp; omega))
            have HE' : Hid (kindOf bs (kindRows.drop 2) = kindB bs) := kind_no (c := 76) (lo := 65) (hi := 65) HE.out (by rw [← HN.out, ← HH.out]; exact fun hh => h3 hh.2.2)
            have HB' : Hid (Below w.heap.size w (wr.alloc (.cells #[.int .u8 76, .int .i64 65, .int .i64 65] 57))) := HB.out.alloc HB.out.size _
            clear HE HB
            go_wp2
            go_quiet (fail)
            go_wp2
            exact ⟨⟨2, by omega, rfl, HE'.out, below_drewN HB'.out _⟩, by simp [intOf]⟩
        · have g1 : decide ((65 : Int) ≤ (n : Int)) = true := by rw [decide_eq_true_iff]; omega
          have g2 : decide ((n : Int) ≤ (65 : Int)) = false := by rw [decide_eq_false_iff_not]; omega
          have HE' : Hid (kindOf bs (kindRows.drop 2) = kindB bs) := kind_no (c := 76) (lo := 65) (hi := 65) HE.out (by rw [← HN.out, ← HH.out]; omega)
          have HB' : Hid (Below w.heap.size w (wr.alloc (.cells #[.int .u8 76, .int .i64 65, .int .i64 65] 57))) := HB.out.alloc HB.out.size _
          clear HE HB
          go_wp2
          go_quiet (fail)
          go_wp2
          exact ⟨⟨2, by omega, rfl, HE'.out, below_drewN HB'.out _⟩, by simp [intOf]⟩
      · have g1 : decide ((65 : Int) ≤ (n : Int)) = false := by rw [decide_eq_false_iff_not]; omega
        have HE' : Hid (kindOf bs (kindRows.drop 2) = kindB bs) := kind_no (c := 76) (lo := 65) (hi := 65) HE.out (by rw [← HN.out, ← HH.out]; omega)
        have HB' : Hid (Below w.heap.size w (wr.alloc (.cells #[.int .u8 76, .int .i64 65, .int .i64 65] 57))) := HB.out.alloc HB.out.size _
        clear HE HB
        go_wp2
        go_quiet (fail)
        go_wp2
        exact ⟨⟨2, by omega, rfl, HE'.out, below_drewN HB'.out _⟩, by simp [intOf]⟩
    · have hx := kinds_2
      by_cases h1 : 65 ≤ n
      · by_cases h2 : n ≤ 65
        · obtain ⟨b, off, rfl, c0⟩ := HR.out.head HN.out (by omega) (HB.out.alloc HB.out.size (.cells #[.int .u8 78, .int .i64 65, .int .i64 65] 57))
          rw [← HH.out] at c0
          have g1 : decide ((65 : Int) ≤ (n : Int)) = true := by rw [decide_eq_true_iff]; omega
          have g2 : decide ((n : Int) ≤ (65 : Int)) = true := by rw [decide_eq_true_iff]; omega
          by_cases h3 : hd = 78
          · have HE' : Hid (kindB bs = 78) := kind_yes (lo := 65) (hi := 65) HE.out (by rw [← HN.out]; exact h1) (by rw [← HN.out]; exact h2) (by rw [← HH.out]; exact h3)
            have HB' : Hid (Below w.heap.size w (wr.alloc (.cells #[.int .u8 78, .int .i64 65, .int .i64 65] 57))) := HB.out.alloc HB.out.size _
            replace c0 : (wr.alloc (.cells #[.int .u8 78, .int .i64 65, .int .i64 65] 57)).cell? ⟨b, off, none⟩ = some (.int .u8 78) := by rw [c0, h3]; rfl
            clear HE HB h3
            go_wp2
            go_quiet (fail)
            go_wp2
            go_ret
            exact ⟨by rw [HE'.out]; rfl, below_drewN HB'.out _⟩
          · have h4 : ((hd.toNat : Int) == 78) = false := by
              rw [beq_eq_false_iff_ne]; intro hh; exact h3 (BitVec.eq_of_toNat_eq (by simp; omega))
            have HE' : Hid (kindOf bs (kindRows.drop 3) = kindB bs) := kind_no (c := 78) (lo := 65) (hi := 65) HE.out (by rw [← HN.out, ← HH.out]; exact fun hh => h3 hh.2.2)
            have HB' : Hid (Below w.heap.size w (wr.alloc (.cells #[.int .u8 78, .int .i64 65, .int .i64 65] 57))) := HB.out.alloc HB.out.size _
            clear HE HB
            go_wp2
            go_quiet (fail)
            go_wp2
            exact ⟨⟨3, by omega, rfl, HE'.out, below_drewN HB'.out _⟩, by simp [intOf]⟩
        · have g1 : decide ((65 : Int) ≤ (n : Int)) = true := by rw [decide_eq_true_iff]; omega
          have g2 : decide ((n : Int) ≤ (65 : Int)) = false := by rw [decide_eq_false_iff_not]; omega
          have HE' : Hid (kindOf bs (kindRows.drop 3) = kindB bs) := kind_no (c := 78) (lo := 65) (hi := 65) HE.out (by rw [← HN.out, ← HH.out]; omega)
          have HB' : Hid (Below w.heap.size w (wr.alloc (.cells #[.int .u8 78, .int .i64 65, .int .i64 65] 57))) := HB.out.alloc HB.out.size _
          clear HE HB
          go_wp2
          go_quiet (fail)
          go_wp2
          exact ⟨⟨3, by omega, rfl, HE'.out, below_drewN HB'.out _⟩, by simp [intOf]⟩
      · have g1 : decide ((65 : Int) ≤ (n : Int)) = false := by rw [decide_eq_false_iff_not]; omega
        have HE' : Hid (kindOf bs (kindRows.drop 3) = kindB bs) := kind_no (c := 78) (lo := 65) (hi := 65) HE.out (by rw [← HN.out, ← HH.out]; omega)
        have HB' : Hid (Below w.heap.size w (wr.alloc (.cells #[.int .u8 78, .int .i64 65, .int .i64 65] 57))) := HB.out.alloc HB.out.size _
        clear HE HB
        go_wp2
        go_quiet (fail)
        go_wp2
        exact ⟨⟨3, by omega, rfl, HE'.out, below_drewN HB'.out _⟩, by simp [intOf]⟩
    · have hx := kinds_3
      by_cases h1 : 49 ≤ n
      · by_cases h2 : n ≤ 1073741824
        · obtain ⟨b, off, rfl, c0⟩ := HR.out.head HN.out (by omega) (HB.out.alloc HB.out.size (.cells #[.int .u8 86, .int .i64 49, .int .i64 1073741824] 57))
          rw [← HH.out] at c0
          have g1 : decide ((49 : Int) ≤ (n : Int)) = true := by rw [decide_eq_true_iff]; omega
          have g2 : decide ((n : Int) ≤ (1073741824 : Int)) = true := by rw [decide_eq_true_iff]; omega
          by_cases h3 : hd = 86
          · have HE' : Hid (kindB bs = 86) := kind_yes (lo := 49) (hi := 1073741824) HE.out (by rw [← HN.out]; exact h1) (by rw [← HN.out]; exact h2) (by rw [← HH.out]; exact h3)
            have HB' : Hid (Below w.heap.size w (wr.alloc (.cells #[.int .u8 86, .int .i64 49, .int .i64 1073741824] 57))) := HB.out.alloc HB.out.size _
            replace c0 : (wr.alloc (.cells #[.int .u8 86, .int .i64 49, .int .i64 1073741824] 57)).cell? ⟨b, off, none⟩ = some (.int .u8 86) := by rw [c0, h3]; rfl
            clear HE HB h3
            go_wp2
            go_quiet (fail)
            go_wp2
            go_ret
            exact ⟨by rw [HE'.out]; rfl, below_drewN HB'.out _⟩
          · have h4 : ((hd.toNat : Int) == 86) = false := by
              rw [beq_eq_false_iff_ne]; intro hh; exact h3 (BitVec.eq_of_toNat_eq (by simp; omega))
            have HE' : Hid (kindOf bs (kindRows.drop 4) = kindB bs) := kind_no (c := 86) (lo := 49) (hi := 1073741824) HE.out (by rw [← HN.out, ← HH.out]; exact fun hh => h3 hh.2.2)
            have HB' : Hid (Below w.heap.size w (wr.alloc (.cells #[.int .u8 86, .int .i64 49, .int .i64 1073741824] 57))) := HB.out.alloc HB.out.size _
            clear HE HB
            go_wp2
            go_quiet (fail)
            go_wp2
            exact ⟨⟨4, by omega, rfl, HE'.out, below_drewN HB'.out _⟩, by simp [intOf]⟩
        · have g1 : decide ((49 : Int) ≤ (n : Int)) = true := by rw [decide_eq_true_iff]; omega
          have g2 : decide ((n : Int) ≤ (1073741824 : Int)) = false := by rw [decide_eq_false_iff_not]; omega
          have HE' : Hid (kindOf bs (kindRows.drop 4) = kindB bs) := kind_no (c := 86) (lo := 49) (hi := 1073741824) HE.out (by rw [← HN.out, ← HH.out]; omega)
          have HB' : Hid (Below w.heap.size w (wr.alloc (.cells #[.int .u8 86, .int .i64 49, .int .i64 1073741824] 57))) := HB.out.alloc HB.out.size _
          clear HE HB
          go_wp2
          go_quiet (fail)
          go_wp2
          exact ⟨⟨4, by omega, rfl, HE'.out, below_drewN HB'.out _⟩, by simp [intOf]⟩
      · have g1 : decide ((49 : Int) ≤ (n : Int)) = false := by rw [decide_eq_false_iff_not]; omega
        have HE' : Hid (kindOf bs (kindRows.drop 4) = kindB bs) := kind_no (c := 86) (lo := 49) (hi := 1073741824) HE.out (by rw [← HN.out, ← HH.out]; omega)
        have HB' : Hid (Below w.heap.size w (wr.alloc (.cells #[.int .u8 86, .int .i64 49, .int .i64 1073741824] 57))) := HB.out.alloc HB.out.size _
        clear HE HB
        go_wp2
        go_quiet (fail)
        go_wp2
        exact ⟨⟨4, by omega, rfl, HE'.out, below_drewN HB'.out _⟩, by simp [intOf]⟩
    · have hx := kinds_4
      by_cases h1 : 105 ≤ n
      · by_cases h2 : n ≤ 105
        · obtain ⟨b, off, rfl, c0⟩ := HR.out.head HN.out (by omega) (HB.out.alloc HB.out.size (.cells #[.int .u8 82, .int .i64 105, .int .i64 105] 57))
          rw [← HH.out] at c0
          have g1 : decide ((105 : Int) ≤ (n : Int)) = true := by rw [decide_eq_true_iff]; omega
          have g2 : decide ((n : Int) ≤ (105 : Int)) = true := by rw [decide_eq_true_iff]; omega
          by_cases h3 : hd = 82
          · have HE' : Hid (kindB bs = 82) := kind_yes (lo := 105) (hi := 105) HE.out (by rw [← HN.out]; exact h1) (by rw [← HN.out]; exact h2) (by rw [← HH.out]; exact h3)
            have HB' : Hid (Below w.heap.size w (wr.alloc (.cells #[.int .u8 82, .int .i64 105, .int .i64 105] 57))) := HB.out.alloc HB.out.size _
            replace c0 : (wr.alloc (.cells #[.int .u8 82, .int .i64 105, .int .i64 105] 57)).cell? ⟨b, off, none⟩ = some (.int .u8 82) := by rw [c0, h3]; rfl
            clear HE HB h3
            go_wp2
            go_quiet (fail)
            go_wp2
            go_ret
            exact ⟨by rw [HE'.out]; rfl, below_drewN HB'.out _⟩
          · have h4 : ((hd.toNat : Int) == 82) = false := by
              rw [beq_eq_false_iff_ne]; intro hh; exact h3 (BitVec.eq_of_toNat_eq (by simp; omega))
            have HE' : Hid (kindOf bs (kindRows.drop 5) = kindB bs) := kind_no (c := 82) (lo := 105) (hi := 105) HE.out (by rw [← HN.out, ← HH.out]; exact fun hh => h3 hh.2.2)
            have HB' : Hid (Below w.heap.size w (wr.alloc (.cells #[.int .u8 82, .int .i64 105, .int .i64 105] 57))) := HB.out.alloc HB.out.size _
            clear HE HB
            go_wp2
            go_quiet (fail)
            go_wp2
            exact ⟨⟨5, by omega, rfl, HE'.out, below_drewN HB'.out _⟩, by simp [intOf]⟩
        · have g1 : decide ((105 : Int) ≤ (n : Int)) = true := by rw [decide_eq_true_iff]; omega
          have g2 : decide ((n : Int) ≤ (105 : Int)) = false := by rw [decide_eq_false_iff_not]; omega
          have HE' : Hid (kindOf bs (kindRows.drop 5) = kindB bs) := kind_no (c := 82) (lo := 105) (hi := 105) HE.out (by rw [← HN.out, ← HH.out]; omega)
          have HB' : Hid (Below w.heap.size w (wr.alloc (.cells #[.int .u8 82, .int .i64 105, .int .i64 105] 57))) := HB.out.alloc HB.out.size _
          clear HE HB
          go_wp2
          go_quiet (fail)
          go_wp2
          exact ⟨⟨5, by omega, rfl, HE'.out, below_drewN HB'.out _⟩, by simp [intOf]⟩
      · have g1 : decide ((105 : Int) ≤ (n : Int)) = false := by rw [decide_eq_false_iff_not]; omega
        have HE' : Hid (kindOf bs (kindRows.drop 5) = kindB bs) := kind_no (c := 82) (lo := 105) (hi := 105) HE.out (by rw [← HN.out, ← HH.out]; omega)
        have HB' : Hid (Below w.heap.size w (wr.alloc (.cells #[.int .u8 82, .int .i64 105, .int .i64 105] 57))) := HB.out.alloc HB.out.size _
        clear HE HB
        go_wp2
        go_quiet (fail)
        go_wp2
        exact ⟨⟨5, by omega, rfl, HE'.out, below_drewN HB'.out _⟩, by simp [intOf]⟩
    · have HE' : Hid (kindB bs = 0) := by show _ = _; rw [← HE.out]; rfl
      go_wp2
      go_ret
      exact ⟨by rw [HE'.out]; rfl, HB.out⟩
end Go.Proofs.YtaleeaocmomjlaaDoor

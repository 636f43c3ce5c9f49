/- The walk of the statement ShaClones. -/
import Derived.Test.YtngcdfhmgjmhkaaDoorRSum
import Derived.Test.YtngcdfhmgjmhkaaDoorLists
import Derived.Test.YtngcdfhmgjmhkaaDoorWorks
import Derived.Test.YtngcdfhmgjmhkaaDoorSumsWalk
namespace Go.Proofs.YtngcdfhmgjmhkaaDoor
open Go.RowKit
theorem flat_two (a b : List (BitVec 8)) : [a, b].flatten = a ++ b := by simp
set_option maxHeartbeats 1000000 in
theorem clones_long (va vb vc : Value) (la lb lc : List (BitVec 8)) (w : World) (hK : KOk w) (ha : Reads w va la) (hb : Reads w vb lb) (hc : Reads w vc lc) (hl : 65536 < la.length ∨ 65536 < lb.length ∨ 65536 < lc.length) :
    Calls Tryd.prog 6 #[va, vb, vc] w fun e w' => e = .returned (.bool true) ∧ Below w.heap.size w w' := by
  have HK : Hid (KOk w) := hK
  have HA : Hid (Reads w va la) := ha
  have HB : Hid (Reads w vb lb) := hb
  have HC : Hid (Reads w vc lc) := hc
  clear hK ha hb hc
  by_cases h1 : 65536 < la.length
  · clear hl
    go_enter Tryd.func6, Tryd.ntmps6
    go_wp2_with (first
      | (go_at_call 9; refine (long_any _ la _ HA.out).mono ?_; rintro e w1 ⟨rfl, rfl⟩; simp only [h1, decide_true])
      | (go_at_call 10; refine (works_any _ HK.out).mono ?_; rintro e w4 ⟨rfl, hb4⟩))
    go_ret
    exact ⟨rfl, hb4⟩
  · by_cases h2 : 65536 < lb.length
    · clear hl
      go_enter Tryd.func6, Tryd.ntmps6
      go_wp2_with fail
      refine (long_any _ la _ HA.out).mono ?_
      rintro e w1 ⟨rfl, rfl⟩
      simp only [h1, decide_false]
      go_wp2_with fail
      refine (long_any _ lb _ HB.out).mono ?_
      rintro e w2 ⟨rfl, rfl⟩
      simp only [h2, decide_true]
      go_wp2_with (go_at_call 10; refine (works_any _ HK.out).mono ?_; rintro e w4 ⟨rfl, hb4⟩)
      go_ret
      exact ⟨rfl, hb4⟩
    · have h3 : 65536 < lc.length := by omega
      clear hl
      go_enter Tryd.func6, Tryd.ntmps6
      go_wp2_with fail
      refine (long_any _ la _ HA.out).mono ?_
      rintro e w1 ⟨rfl, rfl⟩
      simp only [h1, decide_false]
      go_wp2_with fail
      refine (long_any _ lb _ HB.out).mono ?_
      rintro e w2 ⟨rfl, rfl⟩
      simp only [h2, decide_false]
      go_wp2_with fail
      refine (long_any _ lc _ HC.out).mono ?_
      rintro e w3 ⟨rfl, rfl⟩
      simp only [h3, decide_true]
      go_wp2_with (go_at_call 10; refine (works_any _ HK.out).mono ?_; rintro e w4 ⟨rfl, hb4⟩)
      go_ret
      exact ⟨rfl, hb4⟩
set_option maxHeartbeats 1000000 in
theorem clones_short (va vb vc : Value) (la lb lc : List (BitVec 8)) (w : World) (hK : KOk w) (ha : Reads w va la) (hb : Reads w vb lb) (hc : Reads w vc lc) (h1 : ¬ 65536 < la.length) (h2 : ¬ 65536 < lb.length) (h3 : ¬ 65536 < lc.length) :
    Calls Tryd.prog 6 #[va, vb, vc] w fun e w' => e = .returned (.bool true) ∧ Below w.heap.size w w' := by
  have HK : Hid (KOk w) := hK
  have HA : Hid (Reads w va la) := ha
  have HB : Hid (Reads w vb lb) := hb
  have HC : Hid (Reads w vc lc) := hc
  obtain ⟨aa, ca, rfl, _, _, _⟩ := ha
  obtain ⟨ab, cc, rfl, _, _, _⟩ := hb
  obtain ⟨ac, ccc, rfl, _, _, _⟩ := hc
  clear hK
  go_enter Tryd.func6, Tryd.ntmps6
  go_wp2_with fail
  refine (long_any _ la _ HA.out).mono ?_
  rintro e w0 ⟨rfl, rfl⟩
  simp only [h1, decide_false]
  go_wp2_with fail
  refine (long_any _ lb _ HB.out).mono ?_
  rintro e w0 ⟨rfl, rfl⟩
  simp only [h2, decide_false]
  go_wp2_with fail
  refine (long_any _ lc _ HC.out).mono ?_
  rintro e w0 ⟨rfl, rfl⟩
  simp only [h3, decide_false]
  have HL : Hid (la.length ≤ 65536 ∧ lb.length ≤ 65536 ∧ lc.length ≤ 65536) := ⟨by omega, by omega, by omega⟩
  clear h1 h2 h3
  go_wp2_with fail
  refine (new_any _).mono ?_
  rintro e w1 ⟨g, rfl, hg, hh1, hb1⟩
  have HG : Hid (0 ≠ g ∧ w0.heap.size ≤ g) := ⟨by have := HK.out.lt; omega, hg⟩
  have HS1 : Hid (Below w0.heap.size w0 w1) := hb1
  have HH1 : Hid (HashIs 51 w1 g []) := hh1
  clear hb1 hh1 hg
  go_wp2_with fail
  refine (write_any g [] la _ w1 HG.out.1 (HK.out.below HS1.out HK.out.lt) HH1.out ((HA.out.bytes HG.out.2).below HS1.out) (by have := HL.out; simp; omega)).mono ?_
  rintro e w2 ⟨rfl, hh2, ho2⟩
  have HS2 : Hid (Below w0.heap.size w0 w2) := HS1.out.trans (ho2.below HG.out.2 HS1.out.size)
  have HH2 : Hid (HashIs 51 w2 g la) := hh2
  clear hh2 ho2 HH1 HS1
  go_wp2_with fail
  refine (clone_any g la w2 HH2.out).mono ?_
  rintro e w3 ⟨g2, rfl, hg2, hh3, hb3⟩
  have HG2 : Hid (0 ≠ g2 ∧ w0.heap.size ≤ g2 ∧ g2 ≠ g) := ⟨by have := HK.out.lt; have := HS2.out.size; omega, by have := HS2.out.size; omega, by have := HH2.out.lt; omega⟩
  have HS3 : Hid (Below w0.heap.size w0 w3) := HS2.out.trans (hb3.mono HS2.out.size)
  have HH3 : Hid (HashIs 51 w3 g la) := HH2.out.below hb3 HH2.out.lt
  have HI3 : Hid (HashIs 51 w3 g2 la) := hh3
  clear hh3 hb3 HH2 HS2 hg2
  go_wp2_with fail
  refine (write_any g la lb _ w3 HG.out.1 (HK.out.below HS3.out HK.out.lt) HH3.out ((HB.out.bytes HG.out.2).below HS3.out) (by have := HL.out; omega)).mono ?_
  rintro e w4 ⟨rfl, hh4, ho4⟩
  have HS4 : Hid (Below w0.heap.size w0 w4) := HS3.out.trans (ho4.below HG.out.2 HS3.out.size)
  have HH4 : Hid (HashIs 51 w4 g (la ++ lb)) := hh4
  have HI4 : Hid (HashIs 51 w4 g2 la) := HI3.out.only ho4 HG2.out.2.2
  clear hh4 ho4 HH3 HI3 HS3
  go_wp2_with fail
  refine (write_any g2 la lc _ w4 HG2.out.1 (HK.out.below HS4.out HK.out.lt) HI4.out ((HC.out.bytes HG2.out.2.1).below HS4.out) (by have := HL.out; omega)).mono ?_
  rintro e w5 ⟨rfl, hh5, ho5⟩
  have HS5 : Hid (Below w0.heap.size w0 w5) := HS4.out.trans (ho5.below HG2.out.2.1 HS4.out.size)
  have HH5 : Hid (HashIs 51 w5 g (la ++ lb)) := HH4.out.only ho5 (Ne.symm HG2.out.2.2)
  have HI5 : Hid (HashIs 51 w5 g2 (la ++ lc)) := hh5
  clear hh5 ho5 HH4 HI4 HS4
  go_wp2_with fail
  refine (digest_any g (la ++ lb) w5 (HK.out.below HS5.out HK.out.lt) HH5.out (by have := HL.out; simp; omega)).mono ?_
  rintro e w6 ⟨rfl, hb6⟩
  have HS6 : Hid (Below w0.heap.size w0 w6) := HS5.out.trans (hb6.mono HS5.out.size)
  have HI6 : Hid (HashIs 51 w6 g2 (la ++ lc)) := HI5.out.below hb6 HI5.out.lt
  clear hb6 HH5 HI5 HS5
  obtain ⟨dd, HD⟩ : ∃ x, Hid (x = dig (la ++ lb)) := ⟨_, rfl⟩
  rw [← HD.out]
  go_wp2_with fail
  refine (rjoin_any _ [la, lb] _ (readsL_two (HA.out.below HS6.out) (HB.out.below HS6.out)) (by rw [flat_two]; have := HL.out; simp; omega) (by simp)).mono ?_
  rintro e w7 ⟨v7, rfl, hr7, hb7⟩
  have HS7 : Hid (Below w0.heap.size w0 w7) := HS6.out.trans (((below_alloc _ _).trans (hb7.mono (by simp))).mono HS6.out.size)
  have HI7 : Hid (HashIs 51 w7 g2 (la ++ lc)) := HI6.out.below ((below_alloc _ _).trans (hb7.mono (by simp))) HI6.out.lt
  have HR7 : Hid (Reads w7 v7 (la ++ lb)) := by rw [flat_two] at hr7; exact hr7
  clear hr7 hb7 HS6 HI6
  go_wp2_with fail
  refine (rsum_any _ (la ++ lb) _ HR7.out (by have := HL.out; simp; omega)).mono ?_
  rintro e w8 ⟨rfl, hb8⟩
  have HS8 : Hid (Below w0.heap.size w0 w8) := HS7.out.trans (hb8.mono HS7.out.size)
  have HI8 : Hid (HashIs 51 w8 g2 (la ++ lc)) := HI7.out.below hb8 HI7.out.lt
  clear hb8 HS7 HI7 HR7
  rw [← HD.out]
  have heq := fun wx => eq_dig_same dd (by rw [HD.out]; exact len_dig _) wx
  go_wp2_with fail
  refine (digest_any g2 (la ++ lc) w8 (HK.out.below HS8.out HK.out.lt) HI8.out (by have := HL.out; simp; omega)).mono ?_
  rintro e w9 ⟨rfl, hb9⟩
  have HS9 : Hid (Below w0.heap.size w0 w9) := HS8.out.trans (hb9.mono HS8.out.size)
  clear hb9 HI8 HS8 heq HD
  obtain ⟨de, HD⟩ : ∃ x, Hid (x = dig (la ++ lc)) := ⟨_, rfl⟩
  rw [← HD.out]
  go_wp2_with fail
  refine (rjoin_any _ [la, lc] _ (readsL_two (HA.out.below HS9.out) (HC.out.below HS9.out)) (by rw [flat_two]; have := HL.out; simp; omega) (by simp)).mono ?_
  rintro e w10 ⟨v10, rfl, hr10, hb10⟩
  have HS10 : Hid (Below w0.heap.size w0 w10) := HS9.out.trans (((below_alloc _ _).trans (hb10.mono (by simp))).mono HS9.out.size)
  have HR10 : Hid (Reads w10 v10 (la ++ lc)) := by rw [flat_two] at hr10; exact hr10
  clear hr10 hb10 HS9
  go_wp2_with fail
  refine (rsum_any _ (la ++ lc) _ HR10.out (by have := HL.out; simp; omega)).mono ?_
  rintro e w11 ⟨rfl, hb11⟩
  have HS11 : Hid (Below w0.heap.size w0 w11) := HS10.out.trans (hb11.mono HS10.out.size)
  clear hb11 HS10 HR10
  rw [← HD.out]
  have heq := fun wx => eq_dig_same de (by rw [HD.out]; exact len_dig _) wx
  go_wp2_with (go_at_call 10; refine (works_any _ (HK.out.below HS11.out HK.out.lt)).mono ?_; rintro e w12 ⟨rfl, hb12⟩)
  go_ret
  exact ⟨rfl, HS11.out.trans (hb12.mono HS11.out.size)⟩
theorem clones_any (va vb vc : Value) (la lb lc : List (BitVec 8)) (w : World) (hK : KOk w) (ha : Reads w va la) (hb : Reads w vb lb) (hc : Reads w vc lc) :
    Calls Tryd.prog 6 #[va, vb, vc] w fun e w' => e = .returned (.bool true) ∧ Below w.heap.size w w' := by
  by_cases h : 65536 < la.length ∨ 65536 < lb.length ∨ 65536 < lc.length
  · exact clones_long va vb vc la lb lc w hK ha hb hc h
  · exact clones_short va vb vc la lb lc w hK ha hb hc (fun h1 => h (Or.inl h1)) (fun h1 => h (Or.inr (Or.inl h1))) (fun h1 => h (Or.inr (Or.inr h1)))
end Go.Proofs.YtngcdfhmgjmhkaaDoor

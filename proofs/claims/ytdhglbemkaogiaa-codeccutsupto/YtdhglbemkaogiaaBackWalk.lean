/- The walk of the statement CodecBack. -/
import Derived.Test.YtdhglbemkaogiaaReadsWalk
namespace Go.Proofs.Ytdhglbemkaogiaa
open Go.RowKit
theorem back_n (ns : List Nat) (h1 : ns.length ≤ 4096) (h2 : ∀ n ∈ ns, n < 18446744073709551616) : readList readNum (encList encNum ns) = some ns := (readList_iff readNum_ok _ _).2 ⟨h1, h2, rfl⟩
theorem mem_flat_le (ls : List (List (BitVec 8))) (t : List (BitVec 8)) (h : t ∈ ls) : t.length ≤ ls.flatten.length := by
  induction ls with
  | nil => cases h
  | cons a r ih =>
    rw [List.flatten_cons, List.length_append]
    rcases List.mem_cons.1 h with rfl | h
    · omega
    · have := ih h; omega
theorem back_t (ls : List (List (BitVec 8))) (h1 : ls.length ≤ 4096) (h2 : ls.flatten.length ≤ 1048576) : readList readText (encList encText ls) = some ls :=
  (readList_iff readText_ok _ _).2 ⟨h1, fun t ht => Nat.le_trans (mem_flat_le ls t ht) h2, rfl⟩
set_option maxRecDepth 100000 in
set_option maxHeartbeats 2000000 in
theorem back_law (vn vt : Value) (ns : List Nat) (ls : List (List (BitVec 8))) (w : World) (hn : ReadsN w vn ns) (ht : ReadsL w vt ls) (h64 : ∀ n ∈ ns, n < 18446744073709551616) (hln : ns.length ≤ 1048576) (hlt : ls.length ≤ 1048576) (hlf : ls.flatten.length ≤ 1048576) :
    Calls Try.prog 6 #[vn, vt] w fun e w' => e = .returned (.bool true) ∧ Below w.heap.size w w' := by
  have HN : Hid (ReadsN w vn ns) := hn
  have HT : Hid (ReadsL w vt ls) := ht
  have H64 : Hid (∀ n ∈ ns, n < 18446744073709551616) := h64
  have HLF : Hid (ls.flatten.length ≤ 1048576) := hlf
  obtain ⟨adn, cn, hvn, _, _, _⟩ := hn
  obtain ⟨adt, ct, hvt, _, _, _⟩ := ht
  obtain ⟨n, HNN⟩ : ∃ x, Hid (x = ns.length) := ⟨_, rfl⟩
  obtain ⟨m, HMM⟩ : ∃ x, Hid (x = ls.length) := ⟨_, rfl⟩
  rw [← HNN.out] at hvn hln
  rw [← HMM.out] at hvt hlt
  subst hvn hvt
  clear h64 hlf
  by_cases h1 : n ≤ 4096
  case neg =>
    have h1i : (4096 : Int) < (n : Int) := by omega
    go_enter Try.func6, Try.ntmps6
    go_wp2_with fail
    refine (cworks_any w).mono ?_
    rintro e w9 ⟨rfl, b9⟩
    go_wp2
    go_ret
    exact ⟨rfl, b9⟩
  have h1i : ¬ ((4096 : Int) < (n : Int)) := by omega
  by_cases h2 : m ≤ 4096
  case neg =>
    have h2i : (4096 : Int) < (m : Int) := by omega
    go_enter Try.func6, Try.ntmps6
    go_wp2_with fail
    refine (cworks_any w).mono ?_
    rintro e w9 ⟨rfl, b9⟩
    go_wp2
    go_ret
    exact ⟨rfl, b9⟩
  have h2i : ¬ ((4096 : Int) < (m : Int)) := by omega
  have HK : Hid (ns.length ≤ 4096 ∧ ls.length ≤ 4096) := by rw [← HNN.out, ← HMM.out]; exact ⟨h1, h2⟩
  have HLN : Hid (ls.flatten.length + 10 * ls.length + 40 ≤ 140737488355328) := by have := HK.out.2; have := HLF.out; show _ ≤ _; omega
  go_enter Try.func6, Try.ntmps6
  go_wp2_with fail
  refine (rjoin_any _ ls w HT.out (by have := HLF.out; omega) (by have := HK.out.2; omega)).mono ?_
  rintro e w1 ⟨v1, rfl, r1, b1⟩
  obtain ⟨a1, c1, hv1, _, _, _⟩ := r1
  obtain ⟨f1, HF1⟩ : ∃ x, Hid (x = ls.flatten.length) := ⟨_, rfl⟩
  rw [← HF1.out] at hv1
  subst hv1
  have hf1 : ¬ ((1048576 : Int) < (f1 : Int)) := by rw [HF1.out]; have := HLF.out; omega
  have HB1 : Hid (Below w.heap.size w w1) := b1
  clear b1
  go_wp2_with fail
  refine (cnums_any _ ns w1 (HN.out.below HB1.out) H64.out (by have := HK.out.1; omega)).mono ?_
  rintro e w2 ⟨v2, rfl, o2, b2⟩
  have HB2 : Hid (Below w.heap.size w w2) := HB1.out.trans (b2.mono HB1.out.size)
  have HO2 : Hid (Reads w2 v2 (encList encNum ns)) := o2.reads
  clear o2 b2 HB1
  go_wp2_with fail
  refine (creadN_any v2 _ w2 HO2.out).mono ?_
  intro e w3 hD
  rw [back_n ns HK.out.1 H64.out] at hD
  obtain ⟨v3, rfl, r3, b3⟩ := hD.n
  rw [show errOf (some ns) = 0 from rfl]
  have HB3 : Hid (Below w.heap.size w w3) := HB2.out.trans (b3.mono HB2.out.size)
  have HR3 : Hid (ReadsN w3 v3 ns) := r3
  clear hD r3 b3 HB2 HO2
  go_wp2_with fail
  refine (ctexts_any _ ls w3 (HT.out.below HB3.out) HLN.out).mono ?_
  rintro e w4 ⟨v4, rfl, o4, b4⟩
  have HB4 : Hid (Below w.heap.size w w4) := HB3.out.trans (b4.mono HB3.out.size)
  have HO4 : Hid (Reads w4 v4 (encList encText ls)) := o4.reads
  have HR34 : Hid (ReadsN w4 v3 ns) := HR3.out.below b4
  clear o4 b4 HB3 HR3
  go_wp2_with fail
  refine (creadT_any v4 _ w4 HO4.out).mono ?_
  intro e w5 hD
  rw [back_t ls HK.out.2 HLF.out] at hD
  obtain ⟨v5, rfl, r5, b5⟩ := hD.t
  rw [show errOf (some ls) = 0 from rfl]
  have HB5 : Hid (Below w.heap.size w w5) := HB4.out.trans (b5.mono HB4.out.size)
  have HR35 : Hid (ReadsN w5 v3 ns) := HR34.out.below b5
  have HR5 : Hid (ReadsL w5 v5 ls) := r5
  clear hD r5 b5 HB4 HO4 HR34
  go_wp2_with fail
  refine (samenums_any v3 _ ns ns w5 HR35.out (HN.out.below HB5.out) (by have := HK.out.1; omega)).mono ?_
  rintro e w6 ⟨rfl, q, hq⟩
  have HB6 : Hid (Below w.heap.size w w6) := by rw [hq]; exact HB5.out.trans ((drew_below w5 q).mono HB5.out.size)
  have HR56 : Hid (ReadsL w6 v5 ls) := by rw [hq]; exact HR5.out
  simp only [decide_true]
  clear hq HR35 HR5 HB5
  go_wp2_with fail
  refine (sametexts_any v5 _ ls ls w6 HR56.out (HT.out.below HB6.out) (by have := HK.out.2; omega)).mono ?_
  rintro e w7 ⟨rfl, q2, hq⟩
  have HB7 : Hid (Below w.heap.size w w7) := by rw [hq]; exact HB6.out.trans ((drew_below w6 q2).mono HB6.out.size)
  simp only [decide_true]
  clear hq HR56 HB6
  go_wp2_with fail
  refine (cnums_any _ ns w7 (HN.out.below HB7.out) H64.out (by have := HK.out.1; omega)).mono ?_
  rintro e w8 ⟨v8, rfl, o8, b8⟩
  have HB8 : Hid (Below w.heap.size w w8) := HB7.out.trans (b8.mono HB7.out.size)
  have HO8 : Hid (Reads w8 v8 (encList encNum ns)) := o8.reads
  clear o8 b8 HB7
  go_wp2_with fail
  refine (qnums_any _ ns w8 (HN.out.below HB8.out) H64.out (by have := HK.out.1; omega)).mono ?_
  rintro e w9 ⟨v9, rfl, o9, b9⟩
  have HB9 : Hid (Below w.heap.size w w9) := HB8.out.trans (b9.mono HB8.out.size)
  have HO89 : Hid (Reads w9 v8 (encList encNum ns)) := HO8.out.below b9
  have HO9 : Hid (Reads w9 v9 (encList encNum ns)) := o9.reads
  clear o9 b9 HB8 HO8
  go_wp2_with fail
  refine (same_any v8 v9 _ _ w9 HO89.out HO9.out).mono ?_
  rintro e w10 ⟨rfl, hq⟩
  subst hq
  simp only [decide_true]
  clear HO89 HO9
  go_wp2_with fail
  refine (ctexts_any _ ls _ (HT.out.below HB9.out) HLN.out).mono ?_
  rintro e w11 ⟨v11, rfl, o11, b11⟩
  have HB11 : Hid (Below w.heap.size w w11) := HB9.out.trans (b11.mono HB9.out.size)
  have HO11 : Hid (Reads w11 v11 (encList encText ls)) := o11.reads
  clear o11 b11 HB9
  go_wp2_with fail
  refine (qtexts_any _ ls w11 (HT.out.below HB11.out) HLN.out).mono ?_
  rintro e w12 ⟨v12, rfl, o12, b12⟩
  have HB12 : Hid (Below w.heap.size w w12) := HB11.out.trans (b12.mono HB11.out.size)
  have HO1112 : Hid (Reads w12 v11 (encList encText ls)) := HO11.out.below b12
  have HO12 : Hid (Reads w12 v12 (encList encText ls)) := o12.reads
  clear o12 b12 HB11 HO11
  go_wp2_with fail
  refine (same_any v11 v12 _ _ w12 HO1112.out HO12.out).mono ?_
  rintro e w13 ⟨rfl, hq⟩
  subst hq
  simp only [decide_true]
  clear HO1112 HO12
  go_wp2_with fail
  refine (cworks_any _).mono ?_
  rintro e w14 ⟨rfl, b14⟩
  have hB := HB12.out.trans (b14.mono HB12.out.size)
  go_wp2
  go_ret
  exact ⟨rfl, hB⟩
end Go.Proofs.Ytdhglbemkaogiaa

/- The walk of the statement CodecApart. -/
import Derived.Test.YtdhglbemkaogiabBackWalk
namespace Go.Proofs.Ytdhglbemkaogiab
open Go.RowKit
theorem encList_eq {α : Type} [DecidableEq α] {f : α → List (BitVec 8)} {ok : α → Prop} (hf : ∀ a b r s, ok a → ok b → f a ++ r = f b ++ s → a = b ∧ r = s) (a b : List α) (ha : a.length ≤ 4096) (hb : b.length ≤ 4096) (h1 : ∀ x ∈ a, ok x) (h2 : ∀ x ∈ b, ok x) : decide (encList f a = encList f b) = decide (a = b) := by
  by_cases h : a = b
  · subst h; simp
  · rw [decide_eq_false h, decide_eq_false]
    intro he
    exact h (encList_pre hf (r := []) (s := []) (by omega) (by omega) h1 h2 (by rw [he])).1
theorem encList_ne {α : Type} {f : α → List (BitVec 8)} {ok : α → Prop} (hf : ∀ a b r s, ok a → ok b → f a ++ r = f b ++ s → a = b ∧ r = s) (a b : List α) (ha : a.length ≤ 4096) (hb : b.length ≤ 4096) (h1 : ∀ x ∈ a, ok x) (h2 : ∀ x ∈ b, ok x) (hl : (encList f a).length < (encList f b).length) : decide (encList f a = (encList f b).take (encList f a).length) = false := by
  rw [decide_eq_false]
  intro he
  have h3 : encList f a ++ (encList f b).drop (encList f a).length = encList f b ++ [] := by
    rw [List.append_nil]
    conv => lhs; lhs; rw [he]
    exact List.take_append_drop _ _
  have h4 := (encList_pre hf (by omega) (by omega) h1 h2 h3).1
  subst h4
  omega
set_option maxRecDepth 100000 in
set_option maxHeartbeats 4000000 in
theorem capart_law (va vb vs vt : Value) (na nb : List Nat) (ls lt : List (List (BitVec 8))) (w : World) (ha : ReadsN w va na) (hb : ReadsN w vb nb) (hs : ReadsL w vs ls) (ht : ReadsL w vt lt) (h64a : ∀ n ∈ na, n < 18446744073709551616) (h64b : ∀ n ∈ nb, n < 18446744073709551616)
    (hla : na.length ≤ 1048576) (hlb : nb.length ≤ 1048576) (hls : ls.length ≤ 1048576) (hlt : lt.length ≤ 1048576) (hfs : ls.flatten.length ≤ 1048576) (hft : lt.flatten.length ≤ 1048576) :
    Calls Try.prog 3 #[va, vb, vs, vt] w fun e w' => e = .returned (.bool true) ∧ Below w.heap.size w w' := by
  have HA : Hid (ReadsN w va na) := ha
  have HB : Hid (ReadsN w vb nb) := hb
  have HS : Hid (ReadsL w vs ls) := hs
  have HT : Hid (ReadsL w vt lt) := ht
  have H64 : Hid ((∀ n ∈ na, n < 18446744073709551616) ∧ ∀ n ∈ nb, n < 18446744073709551616) := ⟨h64a, h64b⟩
  have HFL : Hid (ls.flatten.length ≤ 1048576 ∧ lt.flatten.length ≤ 1048576) := ⟨hfs, hft⟩
  have hnot : ∀ (x : Bool) (w : World), (Op.unary .not (.bool x)).run Try.prog w = .ok (.bool (!x)) w := fun _ _ => rfl
  obtain ⟨ada, ca, hva, _, _, _⟩ := ha
  obtain ⟨adb, cb', hvb, _, _, _⟩ := hb
  obtain ⟨ads, cs, hvs, _, _, _⟩ := hs
  obtain ⟨adt, ct, hvt, _, _, _⟩ := ht
  obtain ⟨n1, HN1⟩ : ∃ x, Hid (x = na.length) := ⟨_, rfl⟩
  obtain ⟨n2, HN2⟩ : ∃ x, Hid (x = nb.length) := ⟨_, rfl⟩
  obtain ⟨m1, HM1⟩ : ∃ x, Hid (x = ls.length) := ⟨_, rfl⟩
  obtain ⟨m2, HM2⟩ : ∃ x, Hid (x = lt.length) := ⟨_, rfl⟩
  rw [← HN1.out] at hva hla
  rw [← HN2.out] at hvb hlb
  rw [← HM1.out] at hvs hls
  rw [← HM2.out] at hvt hlt
  subst hva hvb hvs hvt
  clear h64a h64b hfs hft
  by_cases h0 : n1 ≤ 4096
  case neg =>
    have h0i : (4096 : Int) < (n1 : Int) := by omega
    go_enter Try.func3, Try.ntmps3
    go_wp2_with fail
    refine (cworks_any w).mono ?_
    rintro e w9 ⟨rfl, b9⟩
    go_wp2
    go_ret
    exact ⟨rfl, b9⟩
  have h0i : ¬ ((4096 : Int) < (n1 : Int)) := by omega
  by_cases h1 : n2 ≤ 4096
  case neg =>
    have h1i : (4096 : Int) < (n2 : Int) := by omega
    go_enter Try.func3, Try.ntmps3
    go_wp2_with fail
    refine (cworks_any w).mono ?_
    rintro e w9 ⟨rfl, b9⟩
    go_wp2
    go_ret
    exact ⟨rfl, b9⟩
  have h1i : ¬ ((4096 : Int) < (n2 : Int)) := by omega
  by_cases h2 : m1 ≤ 4096
  case neg =>
    have h2i : (4096 : Int) < (m1 : Int) := by omega
    go_enter Try.func3, Try.ntmps3
    go_wp2_with fail
    refine (cworks_any w).mono ?_
    rintro e w9 ⟨rfl, b9⟩
    go_wp2
    go_ret
    exact ⟨rfl, b9⟩
  have h2i : ¬ ((4096 : Int) < (m1 : Int)) := by omega
  by_cases h3 : m2 ≤ 4096
  case neg =>
    have h3i : (4096 : Int) < (m2 : Int) := by omega
    go_enter Try.func3, Try.ntmps3
    go_wp2_with fail
    refine (cworks_any w).mono ?_
    rintro e w9 ⟨rfl, b9⟩
    go_wp2
    go_ret
    exact ⟨rfl, b9⟩
  have h3i : ¬ ((4096 : Int) < (m2 : Int)) := by omega
  have HK : Hid (na.length ≤ 4096 ∧ nb.length ≤ 4096 ∧ ls.length ≤ 4096 ∧ lt.length ≤ 4096) := by rw [← HN1.out, ← HN2.out, ← HM1.out, ← HM2.out]; exact ⟨h0, h1, h2, h3⟩
  have HLS : Hid (ls.flatten.length + 10 * ls.length + 40 ≤ 140737488355328) := by have := HK.out; have := HFL.out; show _ ≤ _; omega
  have HLT : Hid (lt.flatten.length + 10 * lt.length + 40 ≤ 140737488355328) := by have := HK.out; have := HFL.out; show _ ≤ _; omega
  have HQ1 : Hid (decide (encList encNum na = encList encNum nb) = decide (na = nb)) := encList_eq encNum_pre' na nb HK.out.1 HK.out.2.1 H64.out.1 H64.out.2
  have HP1 : Hid ((encList encNum na).length < (encList encNum nb).length → decide (encList encNum na = (encList encNum nb).take (encList encNum na).length) = false) := encList_ne encNum_pre' na nb HK.out.1 HK.out.2.1 H64.out.1 H64.out.2
  have hts : ∀ l : List (List (BitVec 8)), l.flatten.length ≤ 1048576 → ∀ t ∈ l, t.length < 18446744073709551616 := fun l hl t ht => by have := mem_flat_le l t ht; omega
  have HQ2 : Hid (decide (encList encText ls = encList encText lt) = decide (ls = lt)) := encList_eq encText_pre' ls lt HK.out.2.2.1 HK.out.2.2.2 (hts _ HFL.out.1) (hts _ HFL.out.2)
  have HP2 : Hid ((encList encText ls).length < (encList encText lt).length → decide (encList encText ls = (encList encText lt).take (encList encText ls).length) = false) := encList_ne encText_pre' ls lt HK.out.2.2.1 HK.out.2.2.2 (hts _ HFL.out.1) (hts _ HFL.out.2)
  clear hts
  obtain ⟨X, HX⟩ : ∃ x, Hid (x = encList encNum na) := ⟨_, rfl⟩
  obtain ⟨Y, HY⟩ : ∃ x, Hid (x = encList encNum nb) := ⟨_, rfl⟩
  obtain ⟨U, HU⟩ : ∃ x, Hid (x = encList encText ls) := ⟨_, rfl⟩
  obtain ⟨V, HV⟩ : ∃ x, Hid (x = encList encText lt) := ⟨_, rfl⟩
  rw [← HX.out, ← HY.out] at HQ1 HP1
  rw [← HU.out, ← HV.out] at HQ2 HP2
  obtain ⟨o1, HO1⟩ : ∃ x, Hid (x = decide (na = nb)) := ⟨_, rfl⟩
  obtain ⟨o2, HO2⟩ : ∃ x, Hid (x = decide (ls = lt)) := ⟨_, rfl⟩
  go_enter Try.func3, Try.ntmps3
  go_wp2_with fail
  refine (cnums_any _ na w HA.out H64.out.1 (by have := HK.out; omega)).mono ?_
  rintro e w1 ⟨v1, rfl, p1, b1⟩
  rw [← HX.out] at p1
  have HB1 : Hid (Below w.heap.size w w1) := b1
  have HR1 : Hid (Reads w1 v1 X) := p1.reads
  clear p1 b1
  go_wp2_with fail
  refine (cnums_any _ nb w1 (HB.out.below HB1.out) H64.out.2 (by have := HK.out; omega)).mono ?_
  rintro e w2 ⟨v2, rfl, p2, b2⟩
  rw [← HY.out] at p2
  have HB2 : Hid (Below w.heap.size w w2) := HB1.out.trans (b2.mono HB1.out.size)
  have HR12 : Hid (Reads w2 v1 X) := HR1.out.below b2
  have HR2 : Hid (Reads w2 v2 Y) := p2.reads
  clear p2 b2 HB1 HR1
  obtain ⟨a1, c1, hv1, _, _, _⟩ := id HR12.out
  obtain ⟨a2, c2, hv2, hc2, _, _⟩ := id HR2.out
  obtain ⟨lx, HLX⟩ : ∃ x, Hid (x = X.length) := ⟨_, rfl⟩
  obtain ⟨ly, HLY⟩ : ∃ x, Hid (x = Y.length) := ⟨_, rfl⟩
  rw [← HLX.out] at hv1
  rw [← HLY.out] at hv2 hc2
  subst hv1 hv2
  go_wp2_with fail
  refine (same_any _ _ X Y w2 HR12.out HR2.out).mono ?_
  rintro e w3 ⟨rfl, hq⟩
  subst hq
  rw [HQ1.out, ← HO1.out]
  go_wp2_with fail
  refine (samenums_any _ _ na nb w3 (HA.out.below HB2.out) (HB.out.below HB2.out) (by have := HK.out; omega)).mono ?_
  rintro e w4 ⟨rfl, q4, hq⟩
  rw [← HO1.out]
  have HB4 : Hid (Below w.heap.size w w4) := by rw [hq]; exact HB2.out.trans ((drew_below w3 q4).mono HB2.out.size)
  have HR14 : Hid (Reads w4 (.slice a1 lx c1) X) := by rw [hq]; exact HR12.out
  have HR24 : Hid (Reads w4 (.slice a2 ly c2) Y) := by rw [hq]; exact HR2.out
  clear hq HB2 HR12 HR2
  by_cases hlt2 : lx < ly
  · have hlti : (lx : Int) < (ly : Int) := by omega
    have HTk : Hid (Reads w4 (.slice a2 lx c2) (Y.take lx)) := HR24.out.take lx (by rw [← HLY.out]; omega)
    have HF : Hid (decide (X = Y.take lx) = false) := by
      have := HP1.out (by rw [← HLX.out, ← HLY.out]; exact hlt2)
      rw [← HLX.out] at this
      exact this
    have hlc : lx ≤ c2 := by omega
    go_wp2_with fail
    refine (same_any _ _ X (Y.take lx) w4 HR14.out HTk.out).mono ?_
    rintro e w5 ⟨rfl, hq⟩
    subst hq
    rw [HF.out]
    clear HTk HR14 HR24 HF
    go_wp2_with fail
    refine (ctexts_any _ ls _ (HS.out.below HB4.out) HLS.out).mono ?_
    rintro e w6 ⟨v6, rfl, p6, b6⟩
    rw [← HU.out] at p6
    have HB6 : Hid (Below w.heap.size w w6) := HB4.out.trans (b6.mono HB4.out.size)
    have HR6 : Hid (Reads w6 v6 U) := p6.reads
    clear p6 b6
    go_wp2_with fail
    refine (ctexts_any _ lt w6 (HT.out.below HB6.out) HLT.out).mono ?_
    rintro e w7 ⟨v7, rfl, p7, b7⟩
    rw [← HV.out] at p7
    have HB7 : Hid (Below w.heap.size w w7) := HB6.out.trans (b7.mono HB6.out.size)
    have HR67 : Hid (Reads w7 v6 U) := HR6.out.below b7
    have HR7 : Hid (Reads w7 v7 V) := p7.reads
    clear p7 b7 HB6 HR6
    obtain ⟨a6, c6, hv6, _, _, _⟩ := id HR67.out
    obtain ⟨a7, c7, hv7, hc7, _, _⟩ := id HR7.out
    obtain ⟨lu, HLU⟩ : ∃ x, Hid (x = U.length) := ⟨_, rfl⟩
    obtain ⟨lv, HLV⟩ : ∃ x, Hid (x = V.length) := ⟨_, rfl⟩
    rw [← HLU.out] at hv6
    rw [← HLV.out] at hv7 hc7
    subst hv6 hv7
    go_wp2_with fail
    refine (same_any _ _ U V w7 HR67.out HR7.out).mono ?_
    rintro e w8 ⟨rfl, hq⟩
    subst hq
    rw [HQ2.out, ← HO2.out]
    go_wp2_with fail
    refine (sametexts_any _ _ ls lt w8 (HS.out.below HB7.out) (HT.out.below HB7.out) (by have := HK.out; omega)).mono ?_
    rintro e w9 ⟨rfl, q9, hq⟩
    rw [← HO2.out]
    have HB9 : Hid (Below w.heap.size w w9) := by rw [hq]; exact HB7.out.trans ((drew_below w8 q9).mono HB7.out.size)
    have HR69 : Hid (Reads w9 (.slice a6 lu c6) U) := by rw [hq]; exact HR67.out
    have HR79 : Hid (Reads w9 (.slice a7 lv c7) V) := by rw [hq]; exact HR7.out
    clear hq HB7 HR67 HR7
    by_cases hg : lu < lv
    · have hgi : ¬ ((lv : Int) ≤ (lu : Int)) := by omega
      have HTk : Hid (Reads w9 (.slice a7 lu c7) (V.take lu)) := HR79.out.take lu (by rw [← HLV.out]; omega)
      have HF : Hid (decide (U = V.take lu) = false) := by
        have := HP2.out (by rw [← HLU.out, ← HLV.out]; exact hg)
        rw [← HLU.out] at this
        exact this
      have hlc : lu ≤ c7 := by omega
      go_wp2_with fail
      refine (same_any _ _ U (V.take lu) w9 HR69.out HTk.out).mono ?_
      rintro e w10 ⟨rfl, hq⟩
      subst hq
      rw [HF.out]
      go_wp2_with fail
      refine (cworks_any _).mono ?_
      rintro e w19 ⟨rfl, b19⟩
      have hB := HB9.out.trans (b19.mono HB9.out.size)
      go_wp2
      go_ret
      exact ⟨rfl, hB⟩
    · have hgi : (lv : Int) ≤ (lu : Int) := by omega
      go_wp2_with fail
      refine (cworks_any w9).mono ?_
      rintro e w19 ⟨rfl, b19⟩
      have hB := HB9.out.trans (b19.mono HB9.out.size)
      go_wp2
      go_ret
      exact ⟨rfl, hB⟩
  · have hlti : ¬ ((lx : Int) < (ly : Int)) := by omega
    clear HR14 HR24
    go_wp2_with fail
    refine (ctexts_any _ ls w4 (HS.out.below HB4.out) HLS.out).mono ?_
    rintro e w6 ⟨v6, rfl, p6, b6⟩
    rw [← HU.out] at p6
    have HB6 : Hid (Below w.heap.size w w6) := HB4.out.trans (b6.mono HB4.out.size)
    have HR6 : Hid (Reads w6 v6 U) := p6.reads
    clear p6 b6
    go_wp2_with fail
    refine (ctexts_any _ lt w6 (HT.out.below HB6.out) HLT.out).mono ?_
    rintro e w7 ⟨v7, rfl, p7, b7⟩
    rw [← HV.out] at p7
    have HB7 : Hid (Below w.heap.size w w7) := HB6.out.trans (b7.mono HB6.out.size)
    have HR67 : Hid (Reads w7 v6 U) := HR6.out.below b7
    have HR7 : Hid (Reads w7 v7 V) := p7.reads
    clear p7 b7 HB6 HR6
    obtain ⟨a6, c6, hv6, _, _, _⟩ := id HR67.out
    obtain ⟨a7, c7, hv7, hc7, _, _⟩ := id HR7.out
    obtain ⟨lu, HLU⟩ : ∃ x, Hid (x = U.length) := ⟨_, rfl⟩
    obtain ⟨lv, HLV⟩ : ∃ x, Hid (x = V.length) := ⟨_, rfl⟩
    rw [← HLU.out] at hv6
    rw [← HLV.out] at hv7 hc7
    subst hv6 hv7
    go_wp2_with fail
    refine (same_any _ _ U V w7 HR67.out HR7.out).mono ?_
    rintro e w8 ⟨rfl, hq⟩
    subst hq
    rw [HQ2.out, ← HO2.out]
    go_wp2_with fail
    refine (sametexts_any _ _ ls lt w8 (HS.out.below HB7.out) (HT.out.below HB7.out) (by have := HK.out; omega)).mono ?_
    rintro e w9 ⟨rfl, q9, hq⟩
    rw [← HO2.out]
    have HB9 : Hid (Below w.heap.size w w9) := by rw [hq]; exact HB7.out.trans ((drew_below w8 q9).mono HB7.out.size)
    have HR69 : Hid (Reads w9 (.slice a6 lu c6) U) := by rw [hq]; exact HR67.out
    have HR79 : Hid (Reads w9 (.slice a7 lv c7) V) := by rw [hq]; exact HR7.out
    clear hq HB7 HR67 HR7
    by_cases hg : lu < lv
    · have hgi : ¬ ((lv : Int) ≤ (lu : Int)) := by omega
      have HTk : Hid (Reads w9 (.slice a7 lu c7) (V.take lu)) := HR79.out.take lu (by rw [← HLV.out]; omega)
      have HF : Hid (decide (U = V.take lu) = false) := by
        have := HP2.out (by rw [← HLU.out, ← HLV.out]; exact hg)
        rw [← HLU.out] at this
        exact this
      have hlc : lu ≤ c7 := by omega
      go_wp2_with fail
      refine (same_any _ _ U (V.take lu) w9 HR69.out HTk.out).mono ?_
      rintro e w10 ⟨rfl, hq⟩
      subst hq
      rw [HF.out]
      go_wp2_with fail
      refine (cworks_any _).mono ?_
      rintro e w19 ⟨rfl, b19⟩
      have hB := HB9.out.trans (b19.mono HB9.out.size)
      go_wp2
      go_ret
      exact ⟨rfl, hB⟩
    · have hgi : (lv : Int) ≤ (lu : Int) := by omega
      go_wp2_with fail
      refine (cworks_any w9).mono ?_
      rintro e w19 ⟨rfl, b19⟩
      have hB := HB9.out.trans (b19.mono HB9.out.size)
      go_wp2
      go_ret
      exact ⟨rfl, hB⟩
end Go.Proofs.Ytdhglbemkaogiab

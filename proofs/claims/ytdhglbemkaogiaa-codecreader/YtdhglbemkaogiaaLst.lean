/- The walks of codec.list, Nums and Texts, and of the reference's Nums, Texts, SameNums and SameTexts. -/
import Derived.Test.YtdhglbemkaogiaaQRd
namespace Go.Proofs.Ytdhglbemkaogiaa
open Go.RowKit
/-- the slice v reads as the numbers ns -/
def ReadsN (w : World) (v : Value) (ns : List Nat) : Prop :=
  ∃ ad cap, v = .slice ad ns.length cap ∧ ns.length ≤ cap ∧ (ad = none → cap = 0) ∧ (0 < ns.length → ∃ b off, ad = some ⟨b, off, none⟩ ∧ ∀ j, j < ns.length → w.cell? ⟨b, off + j, none⟩ = some (.int .u64 ((ns.getD j 0 : Nat) : Int)))
theorem ReadsN.below {w w' : World} {v : Value} {ns : List Nat} (h : ReadsN w v ns) (hb : Below w.heap.size w w') : ReadsN w' v ns := by
  obtain ⟨ad, cap, hv, hc, hn, hx⟩ := h
  refine ⟨ad, cap, hv, hc, hn, fun hp => ?_⟩
  obtain ⟨b, off, h1, h2⟩ := hx hp
  exact ⟨b, off, h1, fun j hj => by rw [hb.cell (p := ⟨b, off + j, none⟩) (block_lt_of_cell (h2 j hj))]; exact h2 j hj⟩
theorem OwnV.readsN {w : World} {base : Nat} {v : Value} {vs : List Value} {ns : List Nat} (h : OwnV w base 23 v vs) (hg : GoodN w base vs ns) : ReadsN w v ns := by
  obtain ⟨ad, c, hv, hc, hn, hx⟩ := h.slice
  have hl : vs.length = ns.length := by unfold GoodN at hg; rw [hg, List.length_map]
  rw [hl] at hv hc hx
  refine ⟨ad, c, hv, hc, hn, fun hp => ?_⟩
  obtain ⟨g, h1, h2⟩ := hx hp
  refine ⟨g, 0, h1, fun j hj => ?_⟩
  rw [Nat.zero_add]
  refine h2 j _ ?_
  unfold GoodN at hg
  rw [hg, List.getElem?_map, List.getElem?_eq_getElem hj, List.getD_eq_getElem?_getD, List.getElem?_eq_getElem hj]
  rfl
theorem OwnV.readsL {w : World} {base : Nat} {v : Value} {vs : List Value} {ls : List (List (BitVec 8))} (h : OwnV w base 22 v vs) (hg : GoodT w base vs ls) : ReadsL w v ls := by
  obtain ⟨ad, c, hv, hc, hn, hx⟩ := h.slice
  have hl := hg.1
  rw [hl] at hv hc hx
  refine ⟨ad, c, hv, hc, hn, fun hp => ?_⟩
  obtain ⟨g, h1, h2⟩ := hx hp
  refine ⟨g, 0, h1, fun j hj => ?_⟩
  have hj' : j < vs.length := by rw [hl]; exact hj
  refine ⟨vs[j], ?_, (hg.2 j _ (List.getElem?_eq_getElem hj')).reads⟩
  rw [Nat.zero_add]
  exact h2 j _ (List.getElem?_eq_getElem hj')
theorem encAll_take {α : Type} (f : α → List (BitVec 8)) (l : List α) (k : Nat) (z : α) (h : k < l.length) : encAll f (l.take (k + 1)) = encAll f (l.take k) ++ f (l.getD k z) := by
  unfold encAll
  rw [List.take_add_one, List.getElem?_eq_getElem h, List.getD_eq_getElem?_getD, List.getElem?_eq_getElem h]
  simp only [Option.toList_some, List.map_append, List.map_cons, List.map_nil, List.flatten_append, List.flatten_cons, List.flatten_nil, List.append_nil, Option.getD_some]
theorem encText_len (t : List (BitVec 8)) : (encText t).length = (encNum t.length).length + t.length := by unfold encText; rw [List.length_append]
theorem encNums_len (ns : List Nat) (h : ∀ n ∈ ns, n < 18446744073709551616) : (encAll encNum ns).length ≤ 10 * ns.length := by
  induction ns with
  | nil => simp [encAll]
  | cons n r ih =>
    rw [encAll_cons, List.length_append, List.length_cons]
    have h1 := enc_len10 n (h n (by simp))
    have h2 := ih (fun m hm => h m (by simp [hm]))
    omega
theorem encTexts_len (ls : List (List (BitVec 8))) (h : ls.flatten.length < 18446744073709551616) : (encAll encText ls).length ≤ ls.flatten.length + 10 * ls.length := by
  induction ls with
  | nil => simp [encAll]
  | cons t r ih =>
    rw [List.flatten_cons, List.length_append] at h
    rw [encAll_cons, List.length_append, List.length_cons, List.flatten_cons, List.length_append]
    have h1 := enc_len10 t.length (by omega)
    have h2 := ih (by omega)
    rw [encText_len]
    omega
theorem getD_mem_lt {ns : List Nat} (h : ∀ n ∈ ns, n < 18446744073709551616) (k : Nat) (hk : k < ns.length) : ns.getD k 0 < 18446744073709551616 := by
  rw [List.getD_eq_getElem?_getD, List.getElem?_eq_getElem hk]
  exact h _ (List.getElem_mem hk)
theorem getD_flat_le {ls : List (List (BitVec 8))} (k : Nat) (hk : k < ls.length) : (encAll encText (ls.take k)).length ≤ (ls.take k).flatten.length + 10 * k → (ls.take k).flatten.length + (ls.getD k []).length ≤ ls.flatten.length := by
  intro _
  have h1 := flat_take ls k hk
  have h2 := flat_le ls (k + 1)
  rw [h1, List.length_append] at h2
  exact h2
structure LsInv (w : World) (l : List (BitVec 8)) (u : Value) (wr : World) : Prop where
  own : OwnB wr w.heap.size u l
  bel : Below w.heap.size w wr
set_option maxRecDepth 100000 in
set_option maxHeartbeats 1000000 in
theorem listN_any (v : Value) (xs : List (Nat)) (w : World) (hR : ReadsN w v xs) (hn : ∀ n ∈ xs, n < 18446744073709551616) (hl : xs.length ≤ 1000000) :
    Calls Try.prog 46 #[v, .func (.func 9) #[] #[]] w fun e w' => ∃ v', e = .returned v' ∧ OwnB w' w.heap.size v' (encList encNum xs) ∧ Below w.heap.size w w' := by
  have HR : Hid (ReadsN w v xs) := hR
  have HN : Hid (∀ n ∈ xs, n < 18446744073709551616) := hn
  have HLN : Hid (xs.length ≤ 1000000) := hl
  obtain ⟨ad, cap, hv, hcap, _, _⟩ := hR
  obtain ⟨n, HNN⟩ : ∃ n, Hid (n = xs.length) := ⟨_, rfl⟩
  rw [← HNN.out] at hv hcap
  subst hv
  have hn62 : n ≤ 14073748835533 := by rw [HNN.out]; have := HLN.out; omega
  have hw : IntKind.u64.wrap (n : Int) = (n : Int) := by rw [IntKind.wrap_u64]; omega
  clear hn hl
  go_enter Try.func46, Try.ntmps46
  go_wp2_with fail
  refine (cnum_any w.heap.size _ [] n (by omega) w (OwnB.nil _ _) (Nat.le_refl _) (by simp)).mono ?_
  rintro e w1 ⟨v1, rfl, ho1, hb1⟩
  have hI : LsInv w (encNum n ++ encAll encNum (xs.take 0)) v1 w1 := ⟨by simpa [encAll] using ho1, hb1⟩
  clear ho1 hb1
  go_wp2
  go_loopw [5, 14] (fun u i wr => ∃ k : Nat, k ≤ n ∧ i = .int .i64 (k : Int) ∧ LsInv w (encNum n ++ encAll encNum (xs.take k)) u wr) (fun _ i _ => n - (intOf i).toNat)
  case atStart => exact ⟨0, by omega, rfl, hI⟩
  case round =>
    clear hI hw
    obtain ⟨k, hk, rfl, hI⟩ := hrel
    have HI : Hid (LsInv w (encNum n ++ encAll encNum (xs.take k)) u5 wr) := hI
    by_cases hlt : k < n
    · skip
      obtain ⟨ad', cap', hv', _, _, hx⟩ := HR.out.below hI.bel
      rw [← HNN.out] at hv' hx
      simp only [Value.slice.injEq, true_and] at hv'
      obtain ⟨rfl, rfl⟩ := hv'
      obtain ⟨b, off, rfl, hx2⟩ := hx (by omega)
      have cj := hx2 k hlt
      obtain ⟨y, HY⟩ : ∃ y, Hid (y = xs.getD k 0) := ⟨_, rfl⟩
      rw [← HY.out] at cj
      have hy : y < 18446744073709551616 := by rw [HY.out]; exact getD_mem_lt HN.out k (by rw [← HNN.out]; exact hlt)
      have HLL : Hid ((encNum n ++ encAll encNum (xs.take k)).length + 20 ≤ 140737488355328) := by
        have h1 := encNums_len (xs.take k) (fun m hm => HN.out m (List.mem_of_mem_take hm))
        have h2 := HLN.out
        have h3 := enc_len10 n (by omega)
        rw [List.length_take] at h1
        show _ ≤ _
        rw [List.length_append]
        omega
      have HE : Hid (encNum n ++ encAll encNum (xs.take (k + 1)) = (encNum n ++ encAll encNum (xs.take k)) ++ encNum y) := by
        show _ = _
        rw [encAll_take encNum xs k 0 (by rw [← HNN.out]; exact hlt), HY.out, List.append_assoc]
      clear hx hx2 hI
      go_wp2_with fail
      refine (cnum_any w.heap.size _ (encNum n ++ encAll encNum (xs.take k)) y hy wr HI.out.own HI.out.bel.size (by have := HLL.out; omega)).mono ?_
      rintro e w2 ⟨v2, rfl, ho2, hb2⟩
      have HJ2 : Hid (LsInv w (encNum n ++ encAll encNum (xs.take (k + 1))) v2 w2) := ⟨by rw [HE.out]; exact ho2, HI.out.bel.trans hb2⟩
      clear ho2 hb2 HI
      go_wp2
      go_roundw
      case rel => exact ⟨k + 1, by omega, by go_num, HJ2.out⟩
      case measure => simp [intOf]; omega
    · have hkn : k = n := by omega
      subst hkn
      have HV : Hid (OwnB wr w.heap.size u5 (encList encNum xs)) := by
        have := hI.own
        rw [HNN.out, List.take_of_length_le (Nat.le_refl _)] at this
        exact this
      have hbel := hI.bel
      clear hI HI HR
      go_wp2
      go_ret
      exact ⟨_, rfl, HV.out, hbel⟩
set_option maxHeartbeats 400000 in
theorem cnums_any (v : Value) (xs : List (Nat)) (w : World) (hR : ReadsN w v xs) (hn : ∀ n ∈ xs, n < 18446744073709551616) (hl : xs.length ≤ 1000000) :
    Calls Try.prog 33 #[v] w fun e w' => ∃ v', e = .returned v' ∧ OwnB w' w.heap.size v' (encList encNum xs) ∧ Below w.heap.size w w' := by
  go_enter Try.func33, Try.ntmps33
  go_wp2_with fail
  refine (listN_any v xs w hR hn hl).mono ?_
  rintro e w1 ⟨v1, rfl, ho1, hb1⟩
  go_wp2
  go_ret
  exact ⟨_, rfl, ho1, hb1⟩
set_option maxRecDepth 100000 in
set_option maxHeartbeats 1000000 in
theorem qnums_any (v : Value) (xs : List (Nat)) (w : World) (hR : ReadsN w v xs) (hn : ∀ n ∈ xs, n < 18446744073709551616) (hl : xs.length ≤ 1000000) :
    Calls Try.prog 35 #[v] w fun e w' => ∃ v', e = .returned v' ∧ OwnB w' w.heap.size v' (encList encNum xs) ∧ Below w.heap.size w w' := by
  have HR : Hid (ReadsN w v xs) := hR
  have HN : Hid (∀ n ∈ xs, n < 18446744073709551616) := hn
  have HLN : Hid (xs.length ≤ 1000000) := hl
  obtain ⟨ad, cap, hv, hcap, _, _⟩ := hR
  obtain ⟨n, HNN⟩ : ∃ n, Hid (n = xs.length) := ⟨_, rfl⟩
  rw [← HNN.out] at hv hcap
  subst hv
  have hn62 : n ≤ 14073748835533 := by rw [HNN.out]; have := HLN.out; omega
  have hw : IntKind.u64.wrap (n : Int) = (n : Int) := by rw [IntKind.wrap_u64]; omega
  clear hn hl
  go_enter Try.func35, Try.ntmps35
  go_wp2_with fail
  refine (qnum_any n (by omega) w).mono ?_
  rintro e w1 ⟨v1, rfl, ho1, hb1⟩
  have hI : LsInv w (encNum n ++ encAll encNum (xs.take 0)) v1 w1 := ⟨by simpa [encAll] using ho1, hb1⟩
  clear ho1 hb1
  go_wp2
  go_loopw [3, 4] (fun u i wr => ∃ k : Nat, k ≤ n ∧ i = .int .i64 (k : Int) ∧ LsInv w (encNum n ++ encAll encNum (xs.take k)) u wr) (fun _ i _ => n - (intOf i).toNat)
  case atStart => exact ⟨0, by omega, rfl, hI⟩
  case round =>
    clear hI hw
    obtain ⟨k, hk, rfl, hI⟩ := hrel
    have HI : Hid (LsInv w (encNum n ++ encAll encNum (xs.take k)) u3 wr) := hI
    by_cases hlt : k < n
    · skip
      obtain ⟨ad', cap', hv', _, _, hx⟩ := HR.out.below hI.bel
      rw [← HNN.out] at hv' hx
      simp only [Value.slice.injEq, true_and] at hv'
      obtain ⟨rfl, rfl⟩ := hv'
      obtain ⟨b, off, rfl, hx2⟩ := hx (by omega)
      have cj := hx2 k hlt
      obtain ⟨y, HY⟩ : ∃ y, Hid (y = xs.getD k 0) := ⟨_, rfl⟩
      rw [← HY.out] at cj
      have hy : y < 18446744073709551616 := by rw [HY.out]; exact getD_mem_lt HN.out k (by rw [← HNN.out]; exact hlt)
      have HLL : Hid ((encNum n ++ encAll encNum (xs.take k)).length + 20 ≤ 140737488355328) := by
        have h1 := encNums_len (xs.take k) (fun m hm => HN.out m (List.mem_of_mem_take hm))
        have h2 := HLN.out
        have h3 := enc_len10 n (by omega)
        rw [List.length_take] at h1
        show _ ≤ _
        rw [List.length_append]
        omega
      have HE : Hid (encNum n ++ encAll encNum (xs.take (k + 1)) = (encNum n ++ encAll encNum (xs.take k)) ++ encNum y) := by
        show _ = _
        rw [encAll_take encNum xs k 0 (by rw [← HNN.out]; exact hlt), HY.out, List.append_assoc]
      clear hx hx2 hI
      go_wp2_with fail
      refine (qnum_any y hy wr).mono ?_
      rintro e w2 ⟨v2, rfl, ho2, hb2⟩
      have HR2 : Hid (Reads w2 v2 (encNum y)) := ho2.reads
      have HLX : Hid ((encNum n ++ encAll encNum (xs.take k)).length + (encNum y).length ≤ 140737488355328) := by have := HLL.out; have := enc_len10 y hy; show _ ≤ _; omega
      have HO2 : Hid (OwnB w2 w.heap.size u3 (encNum n ++ encAll encNum (xs.take k))) := HI.out.own.below hb2 (Nat.le_refl _)
      have HB2 : Hid (Below w.heap.size w w2) := HI.out.bel.trans (hb2.mono HI.out.bel.size)
      clear ho2 hb2 HI
      go_wp2_with (at_builtin; refine wpList_appendB rfl (.tmp 15) (.tmp 20) rfl w.heap.size _ (encNum n ++ encAll encNum (xs.take k)) rfl HO2.out _ (encNum y) rfl HR2.out HLX.out HB2.out.size ?_; intro v4 w4 hown4 hb4 _)
      have HJ2 : Hid (LsInv w (encNum n ++ encAll encNum (xs.take (k + 1))) v4 w4) := ⟨by rw [HE.out]; exact hown4, HB2.out.trans hb4⟩
      clear hown4 hb4 HO2
      go_wp2
      go_roundw
      case rel => exact ⟨k + 1, by omega, by go_num, HJ2.out⟩
      case measure => simp [intOf]; omega
    · have hkn : k = n := by omega
      subst hkn
      have HV : Hid (OwnB wr w.heap.size u3 (encList encNum xs)) := by
        have := hI.own
        rw [HNN.out, List.take_of_length_le (Nat.le_refl _)] at this
        exact this
      have hbel := hI.bel
      clear hI HI HR
      go_wp2
      go_ret
      exact ⟨_, rfl, HV.out, hbel⟩
set_option maxRecDepth 100000 in
set_option maxHeartbeats 1000000 in
theorem listT_any (v : Value) (xs : List (List (BitVec 8))) (w : World) (hR : ReadsL w v xs) (hl : xs.flatten.length + 10 * xs.length + 40 ≤ 140737488355328) :
    Calls Try.prog 47 #[v, .func (.func 10) #[] #[]] w fun e w' => ∃ v', e = .returned v' ∧ OwnB w' w.heap.size v' (encList encText xs) ∧ Below w.heap.size w w' := by
  have HR : Hid (ReadsL w v xs) := hR
  have HLN : Hid (xs.flatten.length + 10 * xs.length + 40 ≤ 140737488355328) := hl
  obtain ⟨ad, cap, hv, hcap, _, _⟩ := hR
  obtain ⟨n, HNN⟩ : ∃ n, Hid (n = xs.length) := ⟨_, rfl⟩
  rw [← HNN.out] at hv hcap
  subst hv
  have hn62 : n ≤ 14073748835533 := by rw [HNN.out]; have := HLN.out; omega
  have hw : IntKind.u64.wrap (n : Int) = (n : Int) := by rw [IntKind.wrap_u64]; omega
  clear hl
  go_enter Try.func47, Try.ntmps47
  go_wp2_with fail
  refine (cnum_any w.heap.size _ [] n (by omega) w (OwnB.nil _ _) (Nat.le_refl _) (by simp)).mono ?_
  rintro e w1 ⟨v1, rfl, ho1, hb1⟩
  have hI : LsInv w (encNum n ++ encAll encText (xs.take 0)) v1 w1 := ⟨by simpa [encAll] using ho1, hb1⟩
  clear ho1 hb1
  go_wp2
  go_loopw [5, 14] (fun u i wr => ∃ k : Nat, k ≤ n ∧ i = .int .i64 (k : Int) ∧ LsInv w (encNum n ++ encAll encText (xs.take k)) u wr) (fun _ i _ => n - (intOf i).toNat)
  case atStart => exact ⟨0, by omega, rfl, hI⟩
  case round =>
    clear hI hw
    obtain ⟨k, hk, rfl, hI⟩ := hrel
    have HI : Hid (LsInv w (encNum n ++ encAll encText (xs.take k)) u5 wr) := hI
    by_cases hlt : k < n
    · skip
      obtain ⟨ad', cap', hv', _, _, hx⟩ := HR.out.below hI.bel
      rw [← HNN.out] at hv' hx
      simp only [Value.slice.injEq, true_and] at hv'
      obtain ⟨rfl, rfl⟩ := hv'
      obtain ⟨b, off, rfl, hx2⟩ := hx (by omega)
      obtain ⟨vj, cj, hj⟩ := hx2 k hlt
      obtain ⟨y, HY⟩ : ∃ y, Hid (y = xs.getD k []) := ⟨_, rfl⟩
      have HJ : Hid (Reads wr vj y) := by rw [HY.out]; exact hj
      have HYL : Hid ((encNum n ++ encAll encText (xs.take k)).length + y.length + 20 ≤ 140737488355328) := by
        have h0 := flat_le xs k
        have h1 := encTexts_len (xs.take k) (by have := HLN.out; omega)
        have h2 := HLN.out
        have h3 := enc_len10 n (by omega)
        have h4 := getD_flat_le (ls := xs) k (by rw [← HNN.out]; exact hlt) (by have := h1; rw [List.length_take] at this; omega)
        rw [List.length_take] at h1
        show _ ≤ _
        rw [List.length_append, HY.out]
        omega
      have HE : Hid (encNum n ++ encAll encText (xs.take (k + 1)) = (encNum n ++ encAll encText (xs.take k)) ++ encText y) := by
        show _ = _
        rw [encAll_take encText xs k [] (by rw [← HNN.out]; exact hlt), HY.out, List.append_assoc]
      clear hx hx2 hI
      go_wp2_with fail
      refine (ctext_any w.heap.size _ _ (encNum n ++ encAll encText (xs.take k)) y wr HI.out.own HJ.out HI.out.bel.size (by have := HYL.out; omega)).mono ?_
      rintro e w2 ⟨v2, rfl, ho2, hb2⟩
      have HJ2 : Hid (LsInv w (encNum n ++ encAll encText (xs.take (k + 1))) v2 w2) := ⟨by rw [HE.out]; exact ho2, HI.out.bel.trans hb2⟩
      clear ho2 hb2 HI
      go_wp2
      go_roundw
      case rel => exact ⟨k + 1, by omega, by go_num, HJ2.out⟩
      case measure => simp [intOf]; omega
    · have hkn : k = n := by omega
      subst hkn
      have HV : Hid (OwnB wr w.heap.size u5 (encList encText xs)) := by
        have := hI.own
        rw [HNN.out, List.take_of_length_le (Nat.le_refl _)] at this
        exact this
      have hbel := hI.bel
      clear hI HI HR
      go_wp2
      go_ret
      exact ⟨_, rfl, HV.out, hbel⟩
set_option maxHeartbeats 400000 in
theorem ctexts_any (v : Value) (xs : List (List (BitVec 8))) (w : World) (hR : ReadsL w v xs) (hl : xs.flatten.length + 10 * xs.length + 40 ≤ 140737488355328) :
    Calls Try.prog 34 #[v] w fun e w' => ∃ v', e = .returned v' ∧ OwnB w' w.heap.size v' (encList encText xs) ∧ Below w.heap.size w w' := by
  go_enter Try.func34, Try.ntmps34
  go_wp2_with fail
  refine (listT_any v xs w hR hl).mono ?_
  rintro e w1 ⟨v1, rfl, ho1, hb1⟩
  go_wp2
  go_ret
  exact ⟨_, rfl, ho1, hb1⟩
set_option maxRecDepth 100000 in
set_option maxHeartbeats 1000000 in
theorem qtexts_any (v : Value) (xs : List (List (BitVec 8))) (w : World) (hR : ReadsL w v xs) (hl : xs.flatten.length + 10 * xs.length + 40 ≤ 140737488355328) :
    Calls Try.prog 36 #[v] w fun e w' => ∃ v', e = .returned v' ∧ OwnB w' w.heap.size v' (encList encText xs) ∧ Below w.heap.size w w' := by
  have HR : Hid (ReadsL w v xs) := hR
  have HLN : Hid (xs.flatten.length + 10 * xs.length + 40 ≤ 140737488355328) := hl
  obtain ⟨ad, cap, hv, hcap, _, _⟩ := hR
  obtain ⟨n, HNN⟩ : ∃ n, Hid (n = xs.length) := ⟨_, rfl⟩
  rw [← HNN.out] at hv hcap
  subst hv
  have hn62 : n ≤ 14073748835533 := by rw [HNN.out]; have := HLN.out; omega
  have hw : IntKind.u64.wrap (n : Int) = (n : Int) := by rw [IntKind.wrap_u64]; omega
  clear hl
  go_enter Try.func36, Try.ntmps36
  go_wp2_with fail
  refine (qnum_any n (by omega) w).mono ?_
  rintro e w1 ⟨v1, rfl, ho1, hb1⟩
  have hI : LsInv w (encNum n ++ encAll encText (xs.take 0)) v1 w1 := ⟨by simpa [encAll] using ho1, hb1⟩
  clear ho1 hb1
  go_wp2
  go_loopw [3, 4] (fun u i wr => ∃ k : Nat, k ≤ n ∧ i = .int .i64 (k : Int) ∧ LsInv w (encNum n ++ encAll encText (xs.take k)) u wr) (fun _ i _ => n - (intOf i).toNat)
  case atStart => exact ⟨0, by omega, rfl, hI⟩
  case round =>
    clear hI hw
    obtain ⟨k, hk, rfl, hI⟩ := hrel
    have HI : Hid (LsInv w (encNum n ++ encAll encText (xs.take k)) u3 wr) := hI
    by_cases hlt : k < n
    · skip
      obtain ⟨ad', cap', hv', _, _, hx⟩ := HR.out.below hI.bel
      rw [← HNN.out] at hv' hx
      simp only [Value.slice.injEq, true_and] at hv'
      obtain ⟨rfl, rfl⟩ := hv'
      obtain ⟨b, off, rfl, hx2⟩ := hx (by omega)
      obtain ⟨vj, cj, hj⟩ := hx2 k hlt
      obtain ⟨y, HY⟩ : ∃ y, Hid (y = xs.getD k []) := ⟨_, rfl⟩
      have HJ : Hid (Reads wr vj y) := by rw [HY.out]; exact hj
      have HYL : Hid ((encNum n ++ encAll encText (xs.take k)).length + y.length + 20 ≤ 140737488355328) := by
        have h0 := flat_le xs k
        have h1 := encTexts_len (xs.take k) (by have := HLN.out; omega)
        have h2 := HLN.out
        have h3 := enc_len10 n (by omega)
        have h4 := getD_flat_le (ls := xs) k (by rw [← HNN.out]; exact hlt) (by have := h1; rw [List.length_take] at this; omega)
        rw [List.length_take] at h1
        show _ ≤ _
        rw [List.length_append, HY.out]
        omega
      have HE : Hid (encNum n ++ encAll encText (xs.take (k + 1)) = (encNum n ++ encAll encText (xs.take k)) ++ encText y) := by
        show _ = _
        rw [encAll_take encText xs k [] (by rw [← HNN.out]; exact hlt), HY.out, List.append_assoc]
      clear hx hx2 hI
      go_wp2_with fail
      refine (qtext_any _ y wr HJ.out (by have := HYL.out; omega)).mono ?_
      rintro e w2 ⟨v2, rfl, ho2, hb2⟩
      have HR2 : Hid (Reads w2 v2 (encText y)) := ho2
      have HLX : Hid ((encNum n ++ encAll encText (xs.take k)).length + (encText y).length ≤ 140737488355328) := by have := HYL.out; have := enc_len10 y.length (by omega); show _ ≤ _; rw [encText_len]; omega
      have HO2 : Hid (OwnB w2 w.heap.size u3 (encNum n ++ encAll encText (xs.take k))) := HI.out.own.below hb2 (Nat.le_refl _)
      have HB2 : Hid (Below w.heap.size w w2) := HI.out.bel.trans (hb2.mono HI.out.bel.size)
      clear ho2 hb2 HI
      go_wp2_with (at_builtin; refine wpList_appendB rfl (.tmp 15) (.tmp 20) rfl w.heap.size _ (encNum n ++ encAll encText (xs.take k)) rfl HO2.out _ (encText y) rfl HR2.out HLX.out HB2.out.size ?_; intro v4 w4 hown4 hb4 _)
      have HJ2 : Hid (LsInv w (encNum n ++ encAll encText (xs.take (k + 1))) v4 w4) := ⟨by rw [HE.out]; exact hown4, HB2.out.trans hb4⟩
      clear hown4 hb4 HO2
      go_wp2
      go_roundw
      case rel => exact ⟨k + 1, by omega, by go_num, HJ2.out⟩
      case measure => simp [intOf]; omega
    · have hkn : k = n := by omega
      subst hkn
      have HV : Hid (OwnB wr w.heap.size u3 (encList encText xs)) := by
        have := hI.own
        rw [HNN.out, List.take_of_length_le (Nat.le_refl _)] at this
        exact this
      have hbel := hI.bel
      clear hI HI HR
      go_wp2
      go_ret
      exact ⟨_, rfl, HV.out, hbel⟩
end Go.Proofs.Ytdhglbemkaogiaa

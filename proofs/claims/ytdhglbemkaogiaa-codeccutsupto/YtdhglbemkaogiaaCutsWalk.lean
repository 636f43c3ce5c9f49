/- The walk of the statement CodecCuts. -/
import Derived.Test.YtdhglbemkaogiaaBackWalk
namespace Go.Proofs.Ytdhglbemkaogiaa
open Go.RowKit
theorem cut_short {α : Type} {f : α → List (BitVec 8)} {g : List (BitVec 8) → Option (α × List (BitVec 8))} {ok ok2 : α → Prop} (hg : ∀ b r a, g b = some (a, r) ↔ ok a ∧ b = f a ++ r) (hf : ∀ a b r s, ok2 a → ok2 b → f a ++ r = f b ++ s → a = b ∧ r = s) (h12 : ∀ a, ok a → ok2 a) (xs : List α) (hl : xs.length ≤ 4096) (hx : ∀ a ∈ xs, ok2 a) (j : Nat) (hj : j < (encList f xs).length) :
    readList g ((encList f xs).take j) = none := by
  cases h : readList g ((encList f xs).take j) with
  | none => rfl
  | some l =>
    exfalso
    obtain ⟨h1, h2, h3⟩ := (readList_iff hg _ _).1 h
    have h4 : encList f l ++ (encList f xs).drop j = encList f xs ++ [] := by rw [← h3, List.take_append_drop, List.append_nil]
    have h5 := (encList_pre hf (by omega) (by omega) (fun a ha => h12 a (h2 a ha)) hx h4).2
    have h6 := congrArg List.length h5
    rw [List.length_drop] at h6
    simp at h6
    omega
theorem cut_long {α : Type} {f : α → List (BitVec 8)} {g : List (BitVec 8) → Option (α × List (BitVec 8))} {ok ok2 : α → Prop} (hg : ∀ b r a, g b = some (a, r) ↔ ok a ∧ b = f a ++ r) (hf : ∀ a b r s, ok2 a → ok2 b → f a ++ r = f b ++ s → a = b ∧ r = s) (h12 : ∀ a, ok a → ok2 a) (xs : List α) (hl : xs.length ≤ 4096) (hx : ∀ a ∈ xs, ok2 a) (c : BitVec 8) :
    readList g (encList f xs ++ [c]) = none := by
  cases h : readList g (encList f xs ++ [c]) with
  | none => rfl
  | some l =>
    exfalso
    obtain ⟨h1, h2, h3⟩ := (readList_iff hg _ _).1 h
    have h4 : encList f xs ++ [c] = encList f l ++ [] := by rw [h3, List.append_nil]
    have h5 := (encList_pre hf (by omega) (by omega) hx (fun a ha => h12 a (h2 a ha)) h4).2
    cases h5
theorem encList_pos {α : Type} (f : α → List (BitVec 8)) (xs : List α) : 0 < (encList f xs).length := by
  unfold encList
  rw [List.length_append]
  have := encNum_pos xs.length
  omega
set_option maxRecDepth 100000 in
set_option maxHeartbeats 2000000 in
theorem cuts_law (vn vt : Value) (ns : List Nat) (ls : List (List (BitVec 8))) (ct : Nat) (more : BitVec 8) (w : World) (hct : ct < 65536) (hn : ReadsN w vn ns) (ht : ReadsL w vt ls) (h64 : ∀ n ∈ ns, n < 18446744073709551616) (hln : ns.length ≤ 1048576) (hlt : ls.length ≤ 1048576) (hlf : ls.flatten.length ≤ 1048576) :
    Calls Try.prog 8 #[vn, vt, .int .u16 (ct : Int), .int .u8 (more.toNat : Int)] w fun e w' => e = .returned (.bool true) ∧ Below w.heap.size w w' := by
  have HN : Hid (ReadsN w vn ns) := hn
  have HT : Hid (ReadsL w vt ls) := ht
  have H64 : Hid (∀ n ∈ ns, n < 18446744073709551616) := h64
  have HLF : Hid (ls.flatten.length ≤ 1048576) := hlf
  obtain ⟨adn, cn, hvn, _, _, _⟩ := hn
  obtain ⟨adt, capt, hvt, _, _, _⟩ := ht
  obtain ⟨n, HNN⟩ : ∃ x, Hid (x = ns.length) := ⟨_, rfl⟩
  obtain ⟨m, HMM⟩ : ∃ x, Hid (x = ls.length) := ⟨_, rfl⟩
  rw [← HNN.out] at hvn hln
  rw [← HMM.out] at hvt hlt
  subst hvn hvt
  clear h64 hlf
  by_cases h1 : n ≤ 4096
  case neg =>
    have h1i : (4096 : Int) < (n : Int) := by omega
    go_enter Try.func8, Try.ntmps8
    go_wp2_with fail
    refine (cworks_any w).mono ?_
    rintro e w9 ⟨rfl, b9⟩
    go_wp2
    go_ret
    exact ⟨rfl, b9⟩
  have h1i : ¬ ((4096 : Int) < (n : Int)) := by omega
  by_cases h2 : m ≤ 4096
  case neg =>
    have h2i : (4096 : Int) < (m : Int) := by omega
    go_enter Try.func8, Try.ntmps8
    go_wp2_with fail
    refine (cworks_any w).mono ?_
    rintro e w9 ⟨rfl, b9⟩
    go_wp2
    go_ret
    exact ⟨rfl, b9⟩
  have h2i : ¬ ((4096 : Int) < (m : Int)) := by omega
  have HK : Hid (ns.length ≤ 4096 ∧ ls.length ≤ 4096) := by rw [← HNN.out, ← HMM.out]; exact ⟨h1, h2⟩
  have HLN : Hid (ls.flatten.length + 10 * ls.length + 40 ≤ 140737488355328) := by have := HK.out.2; have := HLF.out; show _ ≤ _; omega
  have HEN : Hid ((encList encNum ns).length ≤ 1000000000) := by
    have h1 := encNums_len ns H64.out
    have h2 := enc_len10 ns.length (by have := HK.out.1; omega)
    have h3 := HK.out.1
    show _ ≤ _
    unfold encList
    rw [List.length_append]
    omega
  have HET : Hid ((encList encText ls).length ≤ 1000000000) := by
    have h1 := encTexts_len ls (by have := HLF.out; omega)
    have h2 := enc_len10 ls.length (by have := HK.out.2; omega)
    have h3 := HK.out.2
    have h4 := HLF.out
    show _ ≤ _
    unfold encList
    rw [List.length_append]
    omega
  go_enter Try.func8, Try.ntmps8
  go_wp2_with fail
  refine (rjoin_any _ ls w HT.out (by have := HLF.out; omega) (by have := HK.out.2; omega)).mono ?_
  rintro e w1 ⟨v1, rfl, r1, b1⟩
  obtain ⟨a1, c1, hv1, _, _, _⟩ := r1
  obtain ⟨f1, HF1⟩ : ∃ x, Hid (x = ls.flatten.length) := ⟨_, rfl⟩
  rw [← HF1.out] at hv1
  subst hv1
  have hf1 : ¬ ((1048576 : Int) < (f1 : Int)) := by rw [HF1.out]; have := HLF.out; omega
  have HB1 : Below w.heap.size w w1 := b1
  clear b1
  go_wp2
  go_loopw [9] (fun i wr => ∃ k : Nat, k ≤ 2 ∧ i = .int .i64 (k : Int) ∧ Below w.heap.size w wr) (fun i _ => 2 - (intOf i).toNat)
  case atStart => exact ⟨0, by omega, rfl, HB1⟩
  case round =>
    clear HB1
    obtain ⟨k, hk, rfl, hB⟩ := hrel
    have HBW : Hid (Below w.heap.size w wr) := hB
    clear hB
    rcases (show k = 0 ∨ k = 1 ∨ k = 2 by omega) with rfl | rfl | rfl
    · go_wp2_with fail
      refine (cnums_any _ ns wr (HN.out.below HBW.out) H64.out (by have := HK.out.1; omega)).mono ?_
      rintro e w2 ⟨v2, rfl, o2, b2⟩
      have HB2 : Hid (Below w.heap.size w w2) := HBW.out.trans (b2.mono HBW.out.size)
      have HO3 : Hid (OwnB w2 wr.heap.size v2 (encList encNum ns)) := o2
      obtain ⟨w3, v3, HBX, HW3, HV3⟩ : ∃ x y, Hid (Below wr.heap.size wr x) ∧ Hid (x = w2) ∧ Hid (y = v2) := ⟨w2, v2, b2, rfl, rfl⟩
      rw [← HW3.out, ← HV3.out] at HO3
      rw [← HW3.out] at HB2
      rw [← HW3.out, ← HV3.out]
      clear o2 b2
      obtain ⟨L, HLL⟩ : ∃ x, Hid (x = (encList encNum ns).length) := ⟨_, rfl⟩
      obtain ⟨a3, c3, hv3, hc3, hn3, _⟩ := id HO3.out.reads
      rw [← HLL.out] at hv3 hc3
      have hL0 : 0 < L := by rw [HLL.out]; exact encList_pos _ _
      have hLb : L ≤ 1000000000 := by rw [HLL.out]; exact HEN.out
      have hLz : ¬ ((L : Int) = 0) := by omega
      obtain ⟨j, HJ⟩ : ∃ x, Hid (x = ct % L) := ⟨_, rfl⟩
      have hrem : (ct : Int).tmod (L : Int) = (j : Int) := by rw [Int.tmod_eq_emod_of_nonneg (by omega), HJ.out]; omega
      have hjL : j < L := by rw [HJ.out]; exact Nat.mod_lt _ hL0
      have hwc : IntKind.i64.wrap (ct : Int) = (ct : Int) := by rw [IntKind.wrap_i64]; omega
      have hwj : IntKind.i64.wrap (j : Int) = (j : Int) := by rw [IntKind.wrap_i64]; omega
      have HSh : Hid (Reads w3 (.slice a3 j c3) ((encList encNum ns).take j)) := by have := HO3.out.reads; rw [hv3] at this; exact this.take j (by rw [← HLL.out]; omega)
      have HR3 : Hid (Reads w3 (.slice a3 L c3) (encList encNum ns)) := by have := HO3.out.reads; rw [hv3] at this; exact this
      have HS3 : Hid (w.heap.size ≤ w3.heap.size ∧ Below w.heap.size w w3) := ⟨Nat.le_trans HBW.out.size HBX.out.size, HBW.out.trans (HBX.out.mono HBW.out.size)⟩
      have HNo1 : Hid (readList readNum ((encList encNum ns).take j) = none) := cut_short (ok2 := fun a => a < 18446744073709551616) readNum_ok encNum_pre' (fun _ h => h) ns HK.out.1 H64.out j (by rw [← HLL.out]; exact hjL)
      have HNo2 : Hid (readList readNum (encList encNum ns ++ [more]) = none) := cut_long (ok2 := fun a => a < 18446744073709551616) readNum_ok encNum_pre' (fun _ h => h) ns HK.out.1 H64.out more
      have hLen : L + 1 ≤ 140737488355328 := by omega
      subst hv3
      clear HO3 HBX HBW
      have b34 := below_alloc w3 (.cells ([] : List Value).toArray 5)
      have HO4 : Hid (OwnB (w3.alloc (.cells ([] : List Value).toArray 5)) w3.heap.size (.slice (some ⟨w3.heap.size, 0, none⟩) 0 0) []) := OwnB.zero _ _ _ (Nat.le_refl _) (Blk.new w3 [] 5)
      have HR4 : Hid (Reads (w3.alloc (.cells ([] : List Value).toArray 5)) (.slice a3 L c3) (encList encNum ns)) := HR3.out.below b34
      have HB4 : Hid (Below w3.heap.size w3 (w3.alloc (.cells ([] : List Value).toArray 5))) := b34
      clear b34
      have HLA : Hid (([] : List (BitVec 8)).length + (encList encNum ns).length ≤ 140737488355328) := by show _ ≤ _; rw [← HLL.out]; simp; omega
      have HLB : Hid ((encList encNum ns).length + [more].length ≤ 140737488355328) := by show _ ≤ _; rw [← HLL.out]; simp; omega
      go_wp2_with (first | (at_builtin; refine wpList_appendB rfl (.tmp 50) (.tmp 51) rfl w3.heap.size _ [] rfl HO4.out _ (encList encNum ns) rfl HR4.out HLA.out HB4.out.size ?_; intro v5 w5 hown5 hb5 _) | (at_builtin; refine wpList_appendB rfl (.tmp 52) (.tmp 54) rfl w3.heap.size _ (encList encNum ns) rfl (hown5.below (below_alloc _ _) (Nat.le_refl _)) _ [more] rfl (reads_val w5 _ more rfl) HLB.out (Nat.le_trans (HB4.out.trans hb5).size (below_alloc w5 _).size) ?_; intro v7 w7 hown7 hb7 _))
      have HB5 := HB4.out.trans hb5
      have HB7 : Hid (Below w3.heap.size w3 w7) := (HB5.trans ((below_alloc w5 _).mono HB5.size)).trans hb7
      have HR7 : Hid (Reads w7 v7 (encList encNum ns ++ [more])) := hown7.reads
      have HSh7 : Hid (Reads w7 (.slice a3 j c3) ((encList encNum ns).take j)) := HSh.out.below HB7.out
      clear hown7 hb7 hown5 hb5 HB5 HO4 HR4 HB4 HSh HR3
      go_wp2_with fail
      refine (creadN_any _ _ w7 HSh7.out).mono ?_
      intro e w8 hD
      rw [HNo1.out] at hD
      obtain ⟨v8, rfl, _, b8⟩ := hD.n
      rw [show errOf (none : Option (List Nat)) = 3 from rfl]
      have HB8 : Hid (Below w3.heap.size w3 w8) := HB7.out.trans (b8.mono HB7.out.size)
      have HR78 : Hid (Reads w8 v7 (encList encNum ns ++ [more])) := HR7.out.below b8
      clear hD b8 HB7 HR7 HSh7
      go_wp2_with fail
      refine (creadN_any _ _ w8 HR78.out).mono ?_
      intro e w9 hD
      rw [HNo2.out] at hD
      obtain ⟨v9, rfl, _, b9⟩ := hD.n
      rw [show errOf (none : Option (List Nat)) = 3 from rfl]
      have HB9 : Hid (Below w.heap.size w w9) := HS3.out.2.trans ((HB8.out.trans (b9.mono HB8.out.size)).mono HS3.out.2.size)
      clear hD b9 HB8 HR78
      go_wp2
      go_roundw
      case rel => exact ⟨1, by omega, rfl, HB9.out⟩
      case measure => simp [intOf]
    · go_wp2_with fail
      refine (cnums_any _ ns wr (HN.out.below HBW.out) H64.out (by have := HK.out.1; omega)).mono ?_
      rintro e w2 ⟨v2, rfl, o2, b2⟩
      have HB2 : Hid (Below w.heap.size w w2) := HBW.out.trans (b2.mono HBW.out.size)
      clear o2
      go_wp2_with fail
      refine (ctexts_any _ ls w2 (HT.out.below HB2.out) HLN.out).mono ?_
      rintro e w3 ⟨v3, rfl, o3, b3⟩
      have HBX : Hid (Below wr.heap.size wr w3) := b2.trans (b3.mono b2.size)
      have HO3 : Hid (OwnB w3 wr.heap.size v3 (encList encText ls)) := o3.mono b2.size
      clear o3 b3 b2 HB2
      obtain ⟨L, HLL⟩ : ∃ x, Hid (x = (encList encText ls).length) := ⟨_, rfl⟩
      obtain ⟨a3, c3, hv3, hc3, hn3, _⟩ := id HO3.out.reads
      rw [← HLL.out] at hv3 hc3
      have hL0 : 0 < L := by rw [HLL.out]; exact encList_pos _ _
      have hLb : L ≤ 1000000000 := by rw [HLL.out]; exact HET.out
      have hLz : ¬ ((L : Int) = 0) := by omega
      obtain ⟨j, HJ⟩ : ∃ x, Hid (x = ct % L) := ⟨_, rfl⟩
      have hrem : (ct : Int).tmod (L : Int) = (j : Int) := by rw [Int.tmod_eq_emod_of_nonneg (by omega), HJ.out]; omega
      have hjL : j < L := by rw [HJ.out]; exact Nat.mod_lt _ hL0
      have hwc : IntKind.i64.wrap (ct : Int) = (ct : Int) := by rw [IntKind.wrap_i64]; omega
      have hwj : IntKind.i64.wrap (j : Int) = (j : Int) := by rw [IntKind.wrap_i64]; omega
      have HSh : Hid (Reads w3 (.slice a3 j c3) ((encList encText ls).take j)) := by have := HO3.out.reads; rw [hv3] at this; exact this.take j (by rw [← HLL.out]; omega)
      have HR3 : Hid (Reads w3 (.slice a3 L c3) (encList encText ls)) := by have := HO3.out.reads; rw [hv3] at this; exact this
      have HS3 : Hid (w.heap.size ≤ w3.heap.size ∧ Below w.heap.size w w3) := ⟨Nat.le_trans HBW.out.size HBX.out.size, HBW.out.trans (HBX.out.mono HBW.out.size)⟩
      have HNo1 : Hid (readList readText ((encList encText ls).take j) = none) := cut_short (ok2 := fun a => a.length < 18446744073709551616) readText_ok encText_pre' (fun _ h => by omega) ls HK.out.2 (fun t ht => by have := mem_flat_le ls t ht; have := HLF.out; omega) j (by rw [← HLL.out]; exact hjL)
      have HNo2 : Hid (readList readText (encList encText ls ++ [more]) = none) := cut_long (ok2 := fun a => a.length < 18446744073709551616) readText_ok encText_pre' (fun _ h => by omega) ls HK.out.2 (fun t ht => by have := mem_flat_le ls t ht; have := HLF.out; omega) more
      have hLen : L + 1 ≤ 140737488355328 := by omega
      subst hv3
      clear HO3 HBX HBW
      have b34 := below_alloc w3 (.cells ([] : List Value).toArray 5)
      have HO4 : Hid (OwnB (w3.alloc (.cells ([] : List Value).toArray 5)) w3.heap.size (.slice (some ⟨w3.heap.size, 0, none⟩) 0 0) []) := OwnB.zero _ _ _ (Nat.le_refl _) (Blk.new w3 [] 5)
      have HR4 : Hid (Reads (w3.alloc (.cells ([] : List Value).toArray 5)) (.slice a3 L c3) (encList encText ls)) := HR3.out.below b34
      have HB4 : Hid (Below w3.heap.size w3 (w3.alloc (.cells ([] : List Value).toArray 5))) := b34
      clear b34
      have HLA : Hid (([] : List (BitVec 8)).length + (encList encText ls).length ≤ 140737488355328) := by show _ ≤ _; rw [← HLL.out]; simp; omega
      have HLB : Hid ((encList encText ls).length + [more].length ≤ 140737488355328) := by show _ ≤ _; rw [← HLL.out]; simp; omega
      go_wp2_with (first | (at_builtin; refine wpList_appendB rfl (.tmp 50) (.tmp 51) rfl w3.heap.size _ [] rfl HO4.out _ (encList encText ls) rfl HR4.out HLA.out HB4.out.size ?_; intro v5 w5 hown5 hb5 _) | (at_builtin; refine wpList_appendB rfl (.tmp 52) (.tmp 54) rfl w3.heap.size _ (encList encText ls) rfl (hown5.below (below_alloc _ _) (Nat.le_refl _)) _ [more] rfl (reads_val w5 _ more rfl) HLB.out (Nat.le_trans (HB4.out.trans hb5).size (below_alloc w5 _).size) ?_; intro v7 w7 hown7 hb7 _))
      have HB5 := HB4.out.trans hb5
      have HB7 : Hid (Below w3.heap.size w3 w7) := (HB5.trans ((below_alloc w5 _).mono HB5.size)).trans hb7
      have HR7 : Hid (Reads w7 v7 (encList encText ls ++ [more])) := hown7.reads
      have HSh7 : Hid (Reads w7 (.slice a3 j c3) ((encList encText ls).take j)) := HSh.out.below HB7.out
      clear hown7 hb7 hown5 hb5 HB5 HO4 HR4 HB4 HSh HR3
      go_wp2_with fail
      refine (creadT_any _ _ w7 HSh7.out).mono ?_
      intro e w8 hD
      rw [HNo1.out] at hD
      obtain ⟨v8, rfl, _, b8⟩ := hD.t
      rw [show errOf (none : Option (List (List (BitVec 8)))) = 3 from rfl]
      have HB8 : Hid (Below w3.heap.size w3 w8) := HB7.out.trans (b8.mono HB7.out.size)
      have HR78 : Hid (Reads w8 v7 (encList encText ls ++ [more])) := HR7.out.below b8
      clear hD b8 HB7 HR7 HSh7
      go_wp2_with fail
      refine (creadT_any _ _ w8 HR78.out).mono ?_
      intro e w9 hD
      rw [HNo2.out] at hD
      obtain ⟨v9, rfl, _, b9⟩ := hD.t
      rw [show errOf (none : Option (List (List (BitVec 8)))) = 3 from rfl]
      have HB9 : Hid (Below w.heap.size w w9) := HS3.out.2.trans ((HB8.out.trans (b9.mono HB8.out.size)).mono HS3.out.2.size)
      clear hD b9 HB8 HR78
      go_wp2
      go_roundw
      case rel => exact ⟨2, by omega, rfl, HB9.out⟩
      case measure => simp [intOf]
    · go_wp2_with fail
      refine (cworks_any _).mono ?_
      rintro e w14 ⟨rfl, b14⟩
      have hB := HBW.out.trans (b14.mono HBW.out.size)
      go_wp2
      go_ret
      exact ⟨rfl, hB⟩
end Go.Proofs.Ytdhglbemkaogiaa

/- The walk of the reference's Request. -/
import Derived.Test.YtldbcglakeggaaaRecRfS
namespace Go.Proofs.Ytldbcglakeggaaa
open Go.RowKit
theorem wpAnyH_pair {P : Program} {md : Region.Mode} {ops : Array Oper} {Q : Exit → Act → World → Prop} {S : World → Prop} {fuel : Nat} {listed : Array Bool} {a : Act} {w : World} (i j : Nat) (hr : Region.ready md ops listed = [i, j])
    (h1 : wpOp P ops Q i (fun a' w' => S w' ∧ wpAnyH P md ops Q S fuel (listed.setIfInBounds i true) a' w') a w) (h2 : wpOp P ops Q j (fun a' w' => S w' ∧ wpAnyH P md ops Q S fuel (listed.setIfInBounds j true) a' w') a w) : wpAnyH P md ops Q S (fuel + 1) listed a w := by
  refine wpAnyH_all hr (by simp) (fun k hk => ?_)
  rcases List.mem_cons.1 hk with rfl | hk
  · exact h1
  · obtain rfl : k = j := by simpa using hk
    exact h2
set_option maxHeartbeats 400000 in
theorem rjoin_own (v : Value) (ls : List (List (BitVec 8))) (w : World) (hR : ReadsL w v ls) (hl : ls.flatten.length ≤ 140737488355328) (hn : ls.length < 4611686018427387904) :
    Calls Try.prog 40 #[v] w fun e w' => ∃ v', e = .returned v' ∧ OwnB w' w.heap.size v' ls.flatten ∧ Below w.heap.size w w' := by
  have HR : Hid (ReadsL w v ls) := hR
  obtain ⟨ad, cap, hv, hcap, _, _⟩ := hR
  obtain ⟨n, HNN⟩ : ∃ n, Hid (n = ls.length) := ⟨_, rfl⟩
  rw [← HNN.out] at hv hcap hn
  subst hv
  go_enter Try.func40, Try.ntmps40
  go_wp2
  go_loopw [3, 4] (fun u i wr => ∃ k : Nat, k ≤ n ∧ i = .int .i64 k ∧ RpInv w (ls.take k).flatten u wr) (fun _ i _ => n - (intOf i).toNat)
  case atStart => exact ⟨0, by omega, rfl, OwnB.nil _ _, Below.refl _ _⟩
  case round =>
    obtain ⟨k, hk, rfl, hI⟩ := hrel
    have HI : Hid (RpInv w (ls.take k).flatten u3 wr) := hI
    by_cases hlt : k < n
    · obtain ⟨ad', cap', hv', _, _, hx⟩ := HR.out.below hI.bel
      rw [← HNN.out] at hv' hx
      simp only [Value.slice.injEq, true_and] at hv'
      obtain ⟨rfl, rfl⟩ := hv'
      obtain ⟨b, off, rfl, hx2⟩ := hx (by omega)
      obtain ⟨vj, cj, hj⟩ := hx2 k hlt
      have HJ : Hid (Reads wr vj (ls.getD k [])) := hj
      have HF : Hid ((ls.take (k + 1)).flatten = (ls.take k).flatten ++ ls.getD k []) := flat_take ls k (by rw [← HNN.out]; exact hlt)
      have HL : Hid ((ls.take k).flatten.length + (ls.getD k []).length ≤ 140737488355328) := by
        have h1 := flat_le ls (k + 1)
        rw [HF.out, List.length_append] at h1
        exact Nat.le_trans h1 hl
      clear hx hx2 hj hI
      go_wp2_with (at_builtin; refine wpList_appendB rfl (.tmp 11) (.tmp 15) rfl w.heap.size _ (ls.take k).flatten rfl HI.out.own _ (ls.getD k []) rfl HJ.out HL.out HI.out.bel.size ?_; intro v2 w2 hown2 hb2 _)
      have hJ : RpInv w (ls.take (k + 1)).flatten v2 w2 := ⟨by rw [HF.out]; exact hown2, HI.out.bel.trans hb2⟩
      clear hown2 hb2 HI
      go_roundw
      case rel => exact ⟨k + 1, by omega, by go_num, hJ⟩
      case measure => simp [intOf]; omega
    · have hkn : k = n := by omega
      subst hkn
      have HV : Hid (OwnB wr w.heap.size u3 ls.flatten) := by
        have := hI.own
        rw [HNN.out, List.take_of_length_le (Nat.le_refl _)] at this
        exact this
      have hbel := hI.bel
      clear hI HI HR
      go_wp2
      go_ret
      exact ⟨_, rfl, HV.out, hbel⟩
theorem two_of {kd : Int} (h : Fit kd) : u64of kd = 2 ↔ kd = 2 := by
  obtain ⟨h1, h2⟩ := h
  unfold u64of
  omega
set_option maxRecDepth 100000 in
set_option maxHeartbeats 8000000 in
theorem rfreq_any (kd : Int) (nm ky au : List (BitVec 8)) (vk : Value) (hkd : Fit kd) (ha : au.length = 32) (w : World) (hk : Reads w vk ky) (hl : nm.length + ky.length + 100 ≤ 140737488355328) :
    Calls Try.prog 18 #[.agg (reqV kd nm vk au).toArray] w fun e w' => ∃ v', e = .returned v' ∧ Reads w' v' (encRequest (u64of kd, nm, ky, au)) ∧ Below w.heap.size w w' := by
  have HK : Hid (Reads w vk ky) := hk
  have HL : Hid (nm.length + ky.length + 100 ≤ 140737488355328) := hl
  have HAU : Hid (au.length = 32) := ha
  have HT : Hid (u64of kd = 2 ↔ kd = 2) := two_of hkd
  obtain ⟨ku, HKU⟩ : ∃ k, Hid (k = u64of kd) := ⟨_, rfl⟩
  have hwr : IntKind.u64.wrap kd = (ku : Int) := by rw [HKU.out]; exact wrap_u64of kd
  have HLT : Hid (ku < 18446744073709551616) := by show _ < _; rw [HKU.out]; exact u64of_lt kd
  obtain ⟨ad, cp, hv, _, _, _⟩ := hk
  obtain ⟨m, HM⟩ : ∃ m, Hid (m = ky.length) := ⟨_, rfl⟩
  rw [← HM.out] at hv
  subst hv
  clear hl ha hkd
  obtain ⟨cs, HCS⟩ : ∃ c, Hid (c = reqV kd nm (.slice ad m cp) au) := ⟨_, rfl⟩
  rw [← HCS.out]
  go_enter Try.func18, Try.ntmps18
  go_upto_region 1 with (first
    | (with_reducible refine wpSeq_box 38 (.tmp 0) ?_ cs ?_ ?_ (w.alloc (.cells cs.toArray 38)) ?_ ?_
       · rfl
       · rfl
       · rfl
       · rfl
       have n0 : Blk (w.alloc (.cells cs.toArray 38)) w.heap.size cs 38 := Blk.new w cs _
       have b0 := below_alloc w (.cells cs.toArray 38)
       obtain ⟨wa, HW0⟩ : ∃ z, Hid (z = w.alloc (.cells cs.toArray 38)) := ⟨_, rfl⟩
       obtain ⟨g, HGG0⟩ : ∃ z, Hid (z = w.heap.size) := ⟨_, rfl⟩
       rw [← HW0.out] at n0 b0 ⊢
       rw [← HGG0.out] at n0 ⊢
       clear HW0 HGG0))
  have HB1 : Hid (Below w.heap.size w wa.drew) := b0.drew
  have C0 : Hid (wa.drew.cell? ⟨g, 0, none⟩ = some (.int .i64 kd)) := by show _ = _; rw [n0.drew.cell, HCS.out]; rfl
  have C1 : Hid (wa.drew.cell? ⟨g, 1, none⟩ = some (.string (strB nm))) := by show _ = _; rw [n0.drew.cell, HCS.out]; rfl
  have C2 : Hid (wa.drew.cell? ⟨g, 2, none⟩ = some (.slice ad m cp)) := by show _ = _; rw [n0.drew.cell, HCS.out]; rfl
  have RA : Hid (Reads wa.drew (.slice (some ⟨g, 3, none⟩) 32 32) au) := sgn_part (A := [.int .i64 kd, .string (strB nm), .slice ad m cp]) (C := []) HAU.out (by have h := n0.drew; rw [HCS.out] at h; unfold reqV at h; simpa using h) rfl
  have RS : Hid (Reads wa.drew (.slice ad m cp) ky) := HK.out.below HB1.out
  clear n0 b0 HK
  refine wp_region_held_drew (S := Over wa.drew) (by kernel_rfl) (Over.refl _) ?_
  intro hS
  refine wpAnyH_take (i := 0) (v := .pointer (some ⟨g, 0, none⟩)) rfl (by kernel_rfl) (by kernel_rfl) (by kernel_rfl) (fun _ _ _ h => h) (Or.inl ⟨by rfl, fun wx hx => by simp [go_sem]⟩) hS ?_
  simp only [Act.put, List.getElem_toArray, List.getElem_cons_zero, List.setIfInBounds_toArray, List.set_cons_zero, List.set_cons_succ]
  refine wpAnyH_take (i := 1) (v := .int .i64 kd) rfl (by kernel_rfl) (by kernel_rfl) (by kernel_rfl) (fun _ _ _ h => h) (Or.inl ⟨by rfl, fun wx hx => by (have hc := below_cellO hx C0.out; simp [go_sem, hc])⟩) hS ?_
  simp only [Act.put, List.getElem_toArray, List.getElem_cons_succ, List.getElem_cons_zero, List.setIfInBounds_toArray, List.set_cons_zero, List.set_cons_succ]
  refine wpAnyH_take (i := 2) (v := .int .u64 (ku : Int)) rfl (by kernel_rfl) (by kernel_rfl) (by kernel_rfl) (fun _ _ _ h => h) (Or.inl ⟨by rfl, fun wx hx => by simp [go_sem, hwr]⟩) hS ?_
  simp only [Act.put, List.getElem_toArray, List.getElem_cons_succ, List.getElem_cons_zero, List.setIfInBounds_toArray, List.set_cons_zero, List.set_cons_succ]
  refine wpAnyH_take (i := 4) (v := .pointer (some ⟨g, 1, none⟩)) rfl (by kernel_rfl) (by kernel_rfl) (by kernel_rfl) (fun _ _ _ h => h) (Or.inl ⟨by rfl, fun wx hx => by simp [go_sem]⟩) hS ?_
  simp only [Act.put, List.getElem_toArray, List.getElem_cons_succ, List.getElem_cons_zero, List.setIfInBounds_toArray, List.set_cons_zero, List.set_cons_succ]
  refine wpAnyH_take (i := 5) (v := .string (strB nm)) rfl (by kernel_rfl) (by kernel_rfl) (by kernel_rfl) (fun _ _ _ h => h) (Or.inl ⟨by rfl, fun wx hx => by (have hc := below_cellO hx C1.out; simp [go_sem, hc])⟩) hS ?_
  simp only [Act.put, List.getElem_toArray, List.getElem_cons_succ, List.getElem_cons_zero, List.setIfInBounds_toArray, List.set_cons_zero, List.set_cons_succ]
  refine wpAnyH_take (i := 8) (v := .pointer (some ⟨g, 2, none⟩)) rfl (by kernel_rfl) (by kernel_rfl) (by kernel_rfl) (fun _ _ _ h => h) (Or.inl ⟨by rfl, fun wx hx => by simp [go_sem]⟩) hS ?_
  simp only [Act.put, List.getElem_toArray, List.getElem_cons_succ, List.getElem_cons_zero, List.setIfInBounds_toArray, List.set_cons_zero, List.set_cons_succ]
  refine wpAnyH_take (i := 9) (v := .slice ad m cp) rfl (by kernel_rfl) (by kernel_rfl) (by kernel_rfl) (fun _ _ _ h => h) (Or.inl ⟨by rfl, fun wx hx => by (have hc := below_cellO hx C2.out; simp [go_sem, hc])⟩) hS ?_
  simp only [Act.put, List.getElem_toArray, List.getElem_cons_succ, List.getElem_cons_zero, List.setIfInBounds_toArray, List.set_cons_zero, List.set_cons_succ]
  refine wpAnyH_pair 3 6 (by kernel_rfl) (wpOp_en 3 rfl (by rfl) (f := 42) (args := #[.int .u64 (ku : Int)]) (by simp [go_sem]) (qnum_any ku HLT.out _) ?_) (wpOp_vl 6 (.slice (some ⟨wa.drew.heap.size, 0, none⟩) nm.length (grownCap wa.drew nm.length 0 5)) (Lib.bytesWorld wa.drew 5 (strB nm)) rfl (by rfl) (by have hcv := conv_string nm wa.drew; simp [execOp, Act.eval, hcv]) ?_)
  · skip
    rintro e w2 ⟨v5, rfl, hr5, hb⟩
    replace hr5 := hr5.reads
    refine ⟨_, rfl, hS.more hb, ?_⟩
    replace hS := hS.more hb
    clear hb
    simp only [Act.put, List.getElem_toArray, List.getElem_cons_succ, List.getElem_cons_zero, List.setIfInBounds_toArray, List.set_cons_zero, List.set_cons_succ]
    have hcv := conv_string nm w2
    have hbw := bytesWorld_below nm w2
    have hrw := bytesWorld_reads nm w2
    have hSw := hS.more hbw
    refine wpAnyH_step 6 (.slice (some ⟨w2.heap.size, 0, none⟩) nm.length (grownCap w2 nm.length 0 5)) (Lib.bytesWorld w2 5 (strB nm)) (by kernel_rfl) rfl (by rfl) (by simp [execOp, Act.eval, hcv]) hSw ?_
    simp only [Act.put, List.getElem_toArray, List.getElem_cons_succ, List.getElem_cons_zero, List.setIfInBounds_toArray, List.set_cons_zero, List.set_cons_succ]
    clear hcv hS
    have hS := hSw
    clear hSw
    replace hr5 := hr5.below hbw
    clear hbw
    generalize Lib.bytesWorld w2 5 (strB nm) = w4 at *
    generalize grownCap w2 nm.length 0 5 = cw at *
    generalize Value.slice (some ⟨w2.heap.size, 0, none⟩) nm.length cw = vn at *
    refine wpAnyH_enter 7 (by kernel_rfl) rfl (by rfl) (f := 41) (args := #[vn]) (by simp [go_sem]) (qtext_any vn nm _ hrw (by have := HL.out; omega)) ?_
    rintro e w5 ⟨v3, rfl, hr3, hb⟩
    refine ⟨_, rfl, hS.more hb, ?_⟩
    replace hS := hS.more hb
    replace hr5 := hr5.below hb
    clear hb hrw
    simp only [Act.put, List.getElem_toArray, List.getElem_cons_succ, List.getElem_cons_zero, List.setIfInBounds_toArray, List.set_cons_zero, List.set_cons_succ]
    refine wpAnyH_enter 10 (by kernel_rfl) rfl (by rfl) (f := 41) (args := #[.slice ad m cp]) (by simp [go_sem]) (qtext_any _ ky _ (RS.out.below hS) (by have := HL.out; omega)) ?_
    rintro e w6 ⟨v4, rfl, hr4, hb⟩
    refine ⟨_, rfl, hS.more hb, ?_⟩
    replace hS := hS.more hb
    replace hr5 := hr5.below hb
    replace hr3 := hr3.below hb
    clear hb
    simp only [Act.put, List.getElem_toArray, List.getElem_cons_succ, List.getElem_cons_zero, List.setIfInBounds_toArray, List.set_cons_zero, List.set_cons_succ]
    obtain ⟨t3, HT3⟩ : ∃ x, Hid (x = encText nm) := ⟨_, rfl⟩
    obtain ⟨t4, HT4⟩ : ∃ x, Hid (x = encText ky) := ⟨_, rfl⟩
    obtain ⟨t5, HT5⟩ : ∃ x, Hid (x = encNum ku) := ⟨_, rfl⟩
    rw [← HT3.out] at hr3
    rw [← HT4.out] at hr4
    rw [← HT5.out] at hr5
    obtain ⟨a3, p3, rfl, _, _, _⟩ := id hr3
    obtain ⟨a4, p4, rfl, _, _, _⟩ := id hr4
    obtain ⟨a5, p5, rfl, _, _, _⟩ := id hr5
    have hrl := readsL_three hr5 hr3 hr4
    have hba := below_alloc w6 (.cells #[.slice a5 t5.length p5, .slice a3 t3.length p3, .slice a4 t4.length p4] 22)
    have hS7 := hS.more hba
    refine wpAnyH_step 11 (.slice (some ⟨w6.heap.size, 0, none⟩) 3 3) (w6.alloc (.cells #[.slice a5 t5.length p5, .slice a3 t3.length p3, .slice a4 t4.length p4] 22)) (by kernel_rfl) rfl (by rfl) (by simp [go_sem]) hS7 ?_
    simp only [Act.put, List.getElem_toArray, List.getElem_cons_succ, List.getElem_cons_zero, List.setIfInBounds_toArray, List.set_cons_zero, List.set_cons_succ]
    generalize w6.alloc (.cells #[.slice a5 t5.length p5, .slice a3 t3.length p3, .slice a4 t4.length p4] 22) = w7 at *
    clear hS hba hr3 hr4 hr5
    have HLL : Hid (t5.length + t3.length + t4.length + 32 ≤ 140737488355328) := by
      have h1 := HL.out
      have h2 := encText_le (t := nm) (by omega)
      have h3 := encText_le (t := ky) (by omega)
      have h4 := enc_len10 ku HLT.out
      show _ ≤ _
      rw [HT3.out, HT4.out, HT5.out]; omega
    refine wpAnyH_enter 12 (by kernel_rfl) rfl (by rfl) (f := 40) (args := #[.slice (some ⟨w6.heap.size, 0, none⟩) 3 3]) (by simp [go_sem]) (rjoin_own _ _ w7 hrl (by have := HLL.out; simp only [List.flatten_cons, List.flatten_nil, List.append_nil, List.length_append]; omega) (by simp)) ?_
    rintro e w8 ⟨v8, rfl, ho8, hb8⟩
    have hS := hS7.more hb8
    refine ⟨_, rfl, hS, ?_⟩
    simp only [Act.put, List.getElem_toArray, List.getElem_cons_succ, List.getElem_cons_zero, List.setIfInBounds_toArray, List.set_cons_zero, List.set_cons_succ]
    refine wpAnyH_take (i := 13) (v := v8) rfl (by kernel_rfl) (by kernel_rfl) (by kernel_rfl) (fun _ _ _ h => h) (Or.inl ⟨by rfl, fun wx hx => by simp [go_sem]⟩) hS ?_
    simp only [Act.put, List.getElem_toArray, List.getElem_cons_succ, List.getElem_cons_zero, List.setIfInBounds_toArray, List.set_cons_zero, List.set_cons_succ]
    refine wpAnyH_done (by kernel_rfl) ?_ _
    obtain ⟨l8, HL8⟩ : ∃ l, Hid (l = t5 ++ (t3 ++ t4)) := ⟨_, rfl⟩
    have HO8 : Hid (OwnB w8 w7.heap.size v8 l8) := by rw [HL8.out]; simp only [List.flatten_cons, List.flatten_nil, List.append_nil] at ho8; exact ho8
    have HA8 : Hid (Reads w8 (.slice (some ⟨g, 3, none⟩) 32 32) au) := RA.out.below hS
    have hc0 : w8.cell? ⟨g, 0, none⟩ = some (.int .i64 kd) := below_cellO hS C0.out
    have HF : Hid (Below w.heap.size w w8 ∧ w.heap.size ≤ w7.heap.size ∧ w7.heap.size ≤ w8.heap.size) := ⟨hS.after HB1.out, Nat.le_trans HB1.out.size hS7.out.size, hb8.size⟩
    have HLN : Hid (l8.length + au.length ≤ 140737488355328) := by
      have := HLL.out
      show _ ≤ _
      rw [HL8.out, HAU.out, List.length_append, List.length_append]; omega
    clear hS hS7 hb8 ho8 hrl
    by_cases k2 : kd = 2
    · have HEQ : Hid (encRequest (u64of kd, nm, ky, au) = l8 ++ au) := by
        show _ = _
        unfold encRequest encAuth
        rw [if_pos (HT.out.2 k2), HL8.out, HT3.out, HT4.out, HT5.out, HKU.out]
        simp only [List.append_assoc]
      have k2b : (kd == 2) = true := by simpa using k2
      clear k2
      go_wp2_with (first
        | (at_builtin; refine wpList_appendB rfl (.tmp 20) (.tmp 22) rfl w7.heap.size _ l8 rfl HO8.out _ au rfl HA8.out HLN.out HF.out.2.2 ?_; intro v9 w9 ho9 hb9 _)
        | (with_reducible refine wpSeq_val (.slice (some ⟨g, 3, none⟩) 32 32) w8 ?_ ?_ ?_
           · rfl
           · simp [execOp, Act.eval, slice_dig_at]))
      go_ret
      exact ⟨_, rfl, by rw [HEQ.out]; exact ho9.reads, HF.out.1.trans (hb9.mono HF.out.2.1)⟩
    · have HEQ : Hid (encRequest (u64of kd, nm, ky, au) = l8) := by
        show _ = _
        unfold encRequest encAuth
        rw [if_neg (fun h => k2 (HT.out.1 h)), HL8.out, HT3.out, HT4.out, HT5.out, HKU.out]
        simp only [List.append_nil]
      have k2b : (kd == 2) = false := by simpa using k2
      go_wp2
      go_ret
      exact ⟨_, rfl, by rw [HEQ.out]; exact HO8.out.reads, HF.out.1⟩
  · skip
    have hcv := conv_string nm wa.drew
    have hbw := bytesWorld_below nm wa.drew
    have hrw := bytesWorld_reads nm wa.drew
    have hSw := hS.more hbw
    refine ⟨hSw, ?_⟩
    simp only [Act.put, List.getElem_toArray, List.getElem_cons_succ, List.getElem_cons_zero, List.setIfInBounds_toArray, List.set_cons_zero, List.set_cons_succ]
    clear hcv hS
    have hS := hSw
    clear hSw
    clear hbw
    generalize Lib.bytesWorld wa.drew 5 (strB nm) = w3 at *
    generalize grownCap wa.drew nm.length 0 5 = cw at *
    generalize Value.slice (some ⟨wa.drew.heap.size, 0, none⟩) nm.length cw = vn at *
    refine wpAnyH_enter 3 (by kernel_rfl) rfl (by rfl) (f := 42) (args := #[.int .u64 (ku : Int)]) (by simp [go_sem]) (qnum_any ku HLT.out _) ?_
    rintro e w4 ⟨v5, rfl, hr5, hb⟩
    replace hr5 := hr5.reads
    refine ⟨_, rfl, hS.more hb, ?_⟩
    replace hS := hS.more hb
    replace hrw := hrw.below hb
    clear hb
    simp only [Act.put, List.getElem_toArray, List.getElem_cons_succ, List.getElem_cons_zero, List.setIfInBounds_toArray, List.set_cons_zero, List.set_cons_succ]
    refine wpAnyH_enter 7 (by kernel_rfl) rfl (by rfl) (f := 41) (args := #[vn]) (by simp [go_sem]) (qtext_any vn nm _ hrw (by have := HL.out; omega)) ?_
    rintro e w5 ⟨v3, rfl, hr3, hb⟩
    refine ⟨_, rfl, hS.more hb, ?_⟩
    replace hS := hS.more hb
    replace hr5 := hr5.below hb
    clear hb hrw
    simp only [Act.put, List.getElem_toArray, List.getElem_cons_succ, List.getElem_cons_zero, List.setIfInBounds_toArray, List.set_cons_zero, List.set_cons_succ]
    refine wpAnyH_enter 10 (by kernel_rfl) rfl (by rfl) (f := 41) (args := #[.slice ad m cp]) (by simp [go_sem]) (qtext_any _ ky _ (RS.out.below hS) (by have := HL.out; omega)) ?_
    rintro e w6 ⟨v4, rfl, hr4, hb⟩
    refine ⟨_, rfl, hS.more hb, ?_⟩
    replace hS := hS.more hb
    replace hr5 := hr5.below hb
    replace hr3 := hr3.below hb
    clear hb
    simp only [Act.put, List.getElem_toArray, List.getElem_cons_succ, List.getElem_cons_zero, List.setIfInBounds_toArray, List.set_cons_zero, List.set_cons_succ]
    obtain ⟨t3, HT3⟩ : ∃ x, Hid (x = encText nm) := ⟨_, rfl⟩
    obtain ⟨t4, HT4⟩ : ∃ x, Hid (x = encText ky) := ⟨_, rfl⟩
    obtain ⟨t5, HT5⟩ : ∃ x, Hid (x = encNum ku) := ⟨_, rfl⟩
    rw [← HT3.out] at hr3
    rw [← HT4.out] at hr4
    rw [← HT5.out] at hr5
    obtain ⟨a3, p3, rfl, _, _, _⟩ := id hr3
    obtain ⟨a4, p4, rfl, _, _, _⟩ := id hr4
    obtain ⟨a5, p5, rfl, _, _, _⟩ := id hr5
    have hrl := readsL_three hr5 hr3 hr4
    have hba := below_alloc w6 (.cells #[.slice a5 t5.length p5, .slice a3 t3.length p3, .slice a4 t4.length p4] 22)
    have hS7 := hS.more hba
    refine wpAnyH_step 11 (.slice (some ⟨w6.heap.size, 0, none⟩) 3 3) (w6.alloc (.cells #[.slice a5 t5.length p5, .slice a3 t3.length p3, .slice a4 t4.length p4] 22)) (by kernel_rfl) rfl (by rfl) (by simp [go_sem]) hS7 ?_
    simp only [Act.put, List.getElem_toArray, List.getElem_cons_succ, List.getElem_cons_zero, List.setIfInBounds_toArray, List.set_cons_zero, List.set_cons_succ]
    generalize w6.alloc (.cells #[.slice a5 t5.length p5, .slice a3 t3.length p3, .slice a4 t4.length p4] 22) = w7 at *
    clear hS hba hr3 hr4 hr5
    have HLL : Hid (t5.length + t3.length + t4.length + 32 ≤ 140737488355328) := by
      have h1 := HL.out
      have h2 := encText_le (t := nm) (by omega)
      have h3 := encText_le (t := ky) (by omega)
      have h4 := enc_len10 ku HLT.out
      show _ ≤ _
      rw [HT3.out, HT4.out, HT5.out]; omega
    refine wpAnyH_enter 12 (by kernel_rfl) rfl (by rfl) (f := 40) (args := #[.slice (some ⟨w6.heap.size, 0, none⟩) 3 3]) (by simp [go_sem]) (rjoin_own _ _ w7 hrl (by have := HLL.out; simp only [List.flatten_cons, List.flatten_nil, List.append_nil, List.length_append]; omega) (by simp)) ?_
    rintro e w8 ⟨v8, rfl, ho8, hb8⟩
    have hS := hS7.more hb8
    refine ⟨_, rfl, hS, ?_⟩
    simp only [Act.put, List.getElem_toArray, List.getElem_cons_succ, List.getElem_cons_zero, List.setIfInBounds_toArray, List.set_cons_zero, List.set_cons_succ]
    refine wpAnyH_take (i := 13) (v := v8) rfl (by kernel_rfl) (by kernel_rfl) (by kernel_rfl) (fun _ _ _ h => h) (Or.inl ⟨by rfl, fun wx hx => by simp [go_sem]⟩) hS ?_
    simp only [Act.put, List.getElem_toArray, List.getElem_cons_succ, List.getElem_cons_zero, List.setIfInBounds_toArray, List.set_cons_zero, List.set_cons_succ]
    refine wpAnyH_done (by kernel_rfl) ?_ _
    obtain ⟨l8, HL8⟩ : ∃ l, Hid (l = t5 ++ (t3 ++ t4)) := ⟨_, rfl⟩
    have HO8 : Hid (OwnB w8 w7.heap.size v8 l8) := by rw [HL8.out]; simp only [List.flatten_cons, List.flatten_nil, List.append_nil] at ho8; exact ho8
    have HA8 : Hid (Reads w8 (.slice (some ⟨g, 3, none⟩) 32 32) au) := RA.out.below hS
    have hc0 : w8.cell? ⟨g, 0, none⟩ = some (.int .i64 kd) := below_cellO hS C0.out
    have HF : Hid (Below w.heap.size w w8 ∧ w.heap.size ≤ w7.heap.size ∧ w7.heap.size ≤ w8.heap.size) := ⟨hS.after HB1.out, Nat.le_trans HB1.out.size hS7.out.size, hb8.size⟩
    have HLN : Hid (l8.length + au.length ≤ 140737488355328) := by
      have := HLL.out
      show _ ≤ _
      rw [HL8.out, HAU.out, List.length_append, List.length_append]; omega
    clear hS hS7 hb8 ho8 hrl
    by_cases k2 : kd = 2
    · have HEQ : Hid (encRequest (u64of kd, nm, ky, au) = l8 ++ au) := by
        show _ = _
        unfold encRequest encAuth
        rw [if_pos (HT.out.2 k2), HL8.out, HT3.out, HT4.out, HT5.out, HKU.out]
        simp only [List.append_assoc]
      have k2b : (kd == 2) = true := by simpa using k2
      clear k2
      go_wp2_with (first
        | (at_builtin; refine wpList_appendB rfl (.tmp 20) (.tmp 22) rfl w7.heap.size _ l8 rfl HO8.out _ au rfl HA8.out HLN.out HF.out.2.2 ?_; intro v9 w9 ho9 hb9 _)
        | (with_reducible refine wpSeq_val (.slice (some ⟨g, 3, none⟩) 32 32) w8 ?_ ?_ ?_
           · rfl
           · simp [execOp, Act.eval, slice_dig_at]))
      go_ret
      exact ⟨_, rfl, by rw [HEQ.out]; exact ho9.reads, HF.out.1.trans (hb9.mono HF.out.2.1)⟩
    · have HEQ : Hid (encRequest (u64of kd, nm, ky, au) = l8) := by
        show _ = _
        unfold encRequest encAuth
        rw [if_neg (fun h => k2 (HT.out.1 h)), HL8.out, HT3.out, HT4.out, HT5.out, HKU.out]
        simp only [List.append_nil]
      have k2b : (kd == 2) = false := by simpa using k2
      go_wp2
      go_ret
      exact ⟨_, rfl, by rw [HEQ.out]; exact HO8.out.reads, HF.out.1⟩
end Go.Proofs.Ytldbcglakeggaaa

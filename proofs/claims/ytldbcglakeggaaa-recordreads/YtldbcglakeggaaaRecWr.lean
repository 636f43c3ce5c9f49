/- The walks of Binding, of record and of the reference, and of SameBinding. -/
import Derived.Test.YtldbcglakeggaaaRecPf
namespace Go.Proofs.Ytldbcglakeggaaa
open Go.RowKit
theorem encText_le {t : List (BitVec 8)} (h : t.length < 18446744073709551616) : (encText t).length ≤ t.length + 10 := by
  have := enc_len10 t.length h
  unfold encText
  rw [List.length_append]
  omega
set_option maxRecDepth 100000 in
set_option maxHeartbeats 1000000 in
theorem rbind_any (nm ky : List (BitVec 8)) (vk : Value) (sr : Nat) (hsr : sr < 18446744073709551616) (w : World) (hk : Reads w vk ky) (hl : nm.length + ky.length + 60 ≤ 140737488355328) :
    Calls Try.prog 15 #[.agg (bindV nm vk sr).toArray] w fun e w' => ∃ v', e = .returned v' ∧ Reads w' v' (encBinding (nm, ky, sr)) ∧ Below w.heap.size w w' := by
  have HK : Hid (Reads w vk ky) := hk
  have HL : Hid (nm.length + ky.length + 60 ≤ 140737488355328) := hl
  have HS : Hid (sr < 18446744073709551616) := hsr
  obtain ⟨ad, cp, hv, _, _, _⟩ := hk
  obtain ⟨m, HM⟩ : ∃ m, Hid (m = ky.length) := ⟨_, rfl⟩
  rw [← HM.out] at hv
  subst hv
  have HB0 : Hid (Below w.heap.size w (w.alloc (.cells [.string (strB nm), (.slice ad m cp), .int .u64 (sr : Int)].toArray 25))) := below_alloc _ _
  have hB : Blk (w.alloc (.cells [.string (strB nm), (.slice ad m cp), .int .u64 (sr : Int)].toArray 25)) w.heap.size [.string (strB nm), (.slice ad m cp), .int .u64 (sr : Int)] 25 := Blk.new _ _ _
  have c0 := hB.cell 0
  have c1 := hB.cell 1
  have c2 := hB.cell 2
  have HLT : Hid (w.heap.size < (w.alloc (.cells [.string (strB nm), (.slice ad m cp), .int .u64 (sr : Int)].toArray 25)).heap.size) := hB.lt
  unfold bindV
  clear hl hsr hB
  go_enter Try.func15, Try.ntmps15
  go_wp2_with fail
  change Code.wp _ _ _ _ (w.alloc (.cells [.string (strB nm), (.slice ad m cp), .int .u64 (sr : Int)].toArray 25))
  generalize w.alloc (.cells [.string (strB nm), (.slice ad m cp), .int .u64 (sr : Int)].toArray 25) = w0 at *
  refine wp_region_held_drew (S := Over w0.drew) (by kernel_rfl) (Over.refl _) ?_
  intro hS
  replace c0 : w0.drew.cell? ⟨w.heap.size, 0, none⟩ = some (.string (strB nm)) := c0
  replace c1 : w0.drew.cell? ⟨w.heap.size, 1, none⟩ = some (.slice ad m cp) := c1
  replace c2 : w0.drew.cell? ⟨w.heap.size, 2, none⟩ = some (.int .u64 (sr : Int)) := c2
  have HB1 : Hid (Below w.heap.size w w0.drew) := HB0.out.drew
  have HLT1 : Hid (w.heap.size < w0.drew.heap.size) := HLT.out
  have HK1 : Hid (Reads w0.drew (.slice ad m cp) ky) := HK.out.below HB1.out
  clear HB0 HLT
  generalize w0.drew = w1 at *
  obtain ⟨g, HG⟩ : ∃ g, Hid (w.heap.size = g) := ⟨_, rfl⟩
  simp only [HG.out] at c0 c1 c2 ⊢
  refine wpAnyH_take (i := 0) (v := .pointer (some ⟨g, 0, none⟩)) rfl (by kernel_rfl) (by kernel_rfl) (by kernel_rfl) (fun _ _ _ h => h) (Or.inl ⟨by rfl, fun wx _ => by simp [go_sem]⟩) hS ?_
  simp only [Act.put, List.getElem_toArray, List.getElem_cons_zero, List.setIfInBounds_toArray, List.set_cons_zero, List.set_cons_succ]
  refine wpAnyH_take (i := 1) (v := .string (strB nm)) rfl (by kernel_rfl) (by kernel_rfl) (by kernel_rfl) (fun _ _ _ h => h) (Or.inl ⟨by rfl, fun wx hx => by (have hc := below_cell hx c0; simp [go_sem, hc])⟩) hS ?_
  simp only [Act.put, List.getElem_toArray, List.getElem_cons_succ, List.getElem_cons_zero, List.setIfInBounds_toArray, List.set_cons_zero, List.set_cons_succ]
  refine wpAnyH_take (i := 2) (v := .pointer (some ⟨g, 1, none⟩)) rfl (by kernel_rfl) (by kernel_rfl) (by kernel_rfl) (fun _ _ _ h => h) (Or.inl ⟨by rfl, fun wx _ => by simp [go_sem]⟩) hS ?_
  simp only [Act.put, List.getElem_toArray, List.getElem_cons_succ, List.getElem_cons_zero, List.setIfInBounds_toArray, List.set_cons_zero, List.set_cons_succ]
  refine wpAnyH_take (i := 3) (v := (.slice ad m cp)) rfl (by kernel_rfl) (by kernel_rfl) (by kernel_rfl) (fun _ _ _ h => h) (Or.inl ⟨by rfl, fun wx hx => by (have hc := below_cell hx c1; simp [go_sem, hc])⟩) hS ?_
  simp only [Act.put, List.getElem_toArray, List.getElem_cons_succ, List.getElem_cons_zero, List.setIfInBounds_toArray, List.set_cons_zero, List.set_cons_succ]
  refine wpAnyH_take (i := 5) (v := .pointer (some ⟨g, 2, none⟩)) rfl (by kernel_rfl) (by kernel_rfl) (by kernel_rfl) (fun _ _ _ h => h) (Or.inl ⟨by rfl, fun wx _ => by simp [go_sem]⟩) hS ?_
  simp only [Act.put, List.getElem_toArray, List.getElem_cons_succ, List.getElem_cons_zero, List.setIfInBounds_toArray, List.set_cons_zero, List.set_cons_succ]
  refine wpAnyH_take (i := 6) (v := .int .u64 (sr : Int)) rfl (by kernel_rfl) (by kernel_rfl) (by kernel_rfl) (fun _ _ _ h => h) (Or.inl ⟨by rfl, fun wx hx => by (have hc := below_cell hx c2; simp [go_sem, hc])⟩) hS ?_
  simp only [Act.put, List.getElem_toArray, List.getElem_cons_succ, List.getElem_cons_zero, List.setIfInBounds_toArray, List.set_cons_zero, List.set_cons_succ]
  refine wpAnyH_enter 4 (by kernel_rfl) rfl (by rfl) (f := 39) (args := #[.slice none 0 0, .string (strB nm), (.slice ad m cp)]) (by simp [go_sem]) (nameAndKey_any w1.heap.size _ _ [] nm ky w1 (OwnB.nil _ _) HK1.out (Nat.le_refl _) (by have := HL.out; simp; omega) HK1.out.inB) ?_
  rintro e w2 ⟨v2, rfl, hown, hb⟩
  have hS2 : Over w1 w2 := hS.more hb
  refine ⟨_, rfl, hS2, ?_⟩
  simp only [Act.put, List.getElem_toArray, List.getElem_cons_succ, List.getElem_cons_zero, List.setIfInBounds_toArray, List.set_cons_zero, List.set_cons_succ]
  have HO2 : Hid (OwnB w2 w1.heap.size v2 ([] ++ (encText nm ++ encText ky))) := hown
  have HLL : Hid (([] ++ (encText nm ++ encText ky)).length + 10 ≤ 140737488355328) := by
    show _ ≤ _
    have h1 := HL.out
    have h2 := encText_le (t := nm) (by omega)
    have h3 := encText_le (t := ky) (by omega)
    rw [List.nil_append, List.length_append]
    omega
  clear hS hown hb
  refine wpAnyH_enter 7 (by kernel_rfl) rfl (by rfl) (f := 38) (args := #[v2, .int .u64 (sr : Int)]) (by simp [go_sem]) (cnum_any w1.heap.size v2 _ sr HS.out w2 HO2.out hS2.size HLL.out) ?_
  rintro e w3 ⟨v3, rfl, hown3, hb3⟩
  have hS3 : Over w1 w3 := Below.trans hS2 hb3
  refine ⟨_, rfl, hS3, ?_⟩
  simp only [Act.put, List.getElem_toArray, List.getElem_cons_succ, List.getElem_cons_zero, List.setIfInBounds_toArray, List.set_cons_zero, List.set_cons_succ]
  refine wpAnyH_take (i := 8) (v := v3) rfl (by kernel_rfl) (by kernel_rfl) (by kernel_rfl) (fun _ _ _ h => h) (Or.inl ⟨by rfl, fun wx _ => by simp [go_sem]⟩) hS3 ?_
  simp only [Act.put, List.getElem_toArray, List.getElem_cons_succ, List.getElem_cons_zero, List.setIfInBounds_toArray, List.set_cons_zero, List.set_cons_succ]
  refine wpAnyH_done (by kernel_rfl) ?_ _
  have HF : Hid (Reads w3 v3 (encBinding (nm, ky, sr)) ∧ Below w.heap.size w w3) := ⟨by have := hown3.reads; simp only [List.nil_append, List.append_assoc] at this; exact this, hS3.after HB1.out⟩
  clear hS2 hS3 hown3 hb3 HO2
  go_wp2
  go_ret
  exact ⟨_, rfl, HF.out⟩
set_option maxRecDepth 100000 in
set_option maxHeartbeats 1000000 in
theorem rfbind_any (nm ky : List (BitVec 8)) (vk : Value) (sr : Nat) (hsr : sr < 18446744073709551616) (w : World) (hk : Reads w vk ky) (hl : nm.length + ky.length + 60 ≤ 140737488355328) :
    Calls Try.prog 16 #[.agg (bindV nm vk sr).toArray] w fun e w' => ∃ v', e = .returned v' ∧ Reads w' v' (encBinding (nm, ky, sr)) ∧ Below w.heap.size w w' := by
  have HK : Hid (Reads w vk ky) := hk
  have HL : Hid (nm.length + ky.length + 60 ≤ 140737488355328) := hl
  have HS : Hid (sr < 18446744073709551616) := hsr
  obtain ⟨ad, cp, hv, _, _, _⟩ := hk
  obtain ⟨m, HM⟩ : ∃ m, Hid (m = ky.length) := ⟨_, rfl⟩
  rw [← HM.out] at hv
  subst hv
  have HB0 : Hid (Below w.heap.size w (w.alloc (.cells [.string (strB nm), (.slice ad m cp), .int .u64 (sr : Int)].toArray 25))) := below_alloc _ _
  have hB : Blk (w.alloc (.cells [.string (strB nm), (.slice ad m cp), .int .u64 (sr : Int)].toArray 25)) w.heap.size [.string (strB nm), (.slice ad m cp), .int .u64 (sr : Int)] 25 := Blk.new _ _ _
  have c0 := hB.cell 0
  have c1 := hB.cell 1
  have c2 := hB.cell 2
  have HLT : Hid (w.heap.size < (w.alloc (.cells [.string (strB nm), (.slice ad m cp), .int .u64 (sr : Int)].toArray 25)).heap.size) := hB.lt
  unfold bindV
  clear hl hsr hB
  go_enter Try.func16, Try.ntmps16
  go_wp2_with fail
  change Code.wp _ _ _ _ (w.alloc (.cells [.string (strB nm), (.slice ad m cp), .int .u64 (sr : Int)].toArray 25))
  generalize w.alloc (.cells [.string (strB nm), (.slice ad m cp), .int .u64 (sr : Int)].toArray 25) = w0 at *
  refine wp_region_held_drew (S := Over w0.drew) (by kernel_rfl) (Over.refl _) ?_
  intro hS
  replace c0 : w0.drew.cell? ⟨w.heap.size, 0, none⟩ = some (.string (strB nm)) := c0
  replace c1 : w0.drew.cell? ⟨w.heap.size, 1, none⟩ = some (.slice ad m cp) := c1
  replace c2 : w0.drew.cell? ⟨w.heap.size, 2, none⟩ = some (.int .u64 (sr : Int)) := c2
  have HB1 : Hid (Below w.heap.size w w0.drew) := HB0.out.drew
  have HLT1 : Hid (w.heap.size < w0.drew.heap.size) := HLT.out
  have HK1 : Hid (Reads w0.drew (.slice ad m cp) ky) := HK.out.below HB1.out
  clear HB0 HLT
  generalize w0.drew = w1 at *
  obtain ⟨g, HG⟩ : ∃ g, Hid (w.heap.size = g) := ⟨_, rfl⟩
  simp only [HG.out] at c0 c1 c2 ⊢
  refine wpAnyH_take (i := 0) (v := .pointer (some ⟨g, 0, none⟩)) rfl (by kernel_rfl) (by kernel_rfl) (by kernel_rfl) (fun _ _ _ h => h) (Or.inl ⟨by rfl, fun wx _ => by simp [go_sem]⟩) hS ?_
  simp only [Act.put, List.getElem_toArray, List.getElem_cons_zero, List.setIfInBounds_toArray, List.set_cons_zero, List.set_cons_succ]
  refine wpAnyH_take (i := 1) (v := .string (strB nm)) rfl (by kernel_rfl) (by kernel_rfl) (by kernel_rfl) (fun _ _ _ h => h) (Or.inl ⟨by rfl, fun wx hx => by (have hc := below_cell hx c0; simp [go_sem, hc])⟩) hS ?_
  simp only [Act.put, List.getElem_toArray, List.getElem_cons_succ, List.getElem_cons_zero, List.setIfInBounds_toArray, List.set_cons_zero, List.set_cons_succ]
  refine wpAnyH_take (i := 4) (v := .pointer (some ⟨g, 1, none⟩)) rfl (by kernel_rfl) (by kernel_rfl) (by kernel_rfl) (fun _ _ _ h => h) (Or.inl ⟨by rfl, fun wx _ => by simp [go_sem]⟩) hS ?_
  simp only [Act.put, List.getElem_toArray, List.getElem_cons_succ, List.getElem_cons_zero, List.setIfInBounds_toArray, List.set_cons_zero, List.set_cons_succ]
  refine wpAnyH_take (i := 5) (v := (.slice ad m cp)) rfl (by kernel_rfl) (by kernel_rfl) (by kernel_rfl) (fun _ _ _ h => h) (Or.inl ⟨by rfl, fun wx hx => by (have hc := below_cell hx c1; simp [go_sem, hc])⟩) hS ?_
  simp only [Act.put, List.getElem_toArray, List.getElem_cons_succ, List.getElem_cons_zero, List.setIfInBounds_toArray, List.set_cons_zero, List.set_cons_succ]
  refine wpAnyH_take (i := 7) (v := .pointer (some ⟨g, 2, none⟩)) rfl (by kernel_rfl) (by kernel_rfl) (by kernel_rfl) (fun _ _ _ h => h) (Or.inl ⟨by rfl, fun wx _ => by simp [go_sem]⟩) hS ?_
  simp only [Act.put, List.getElem_toArray, List.getElem_cons_succ, List.getElem_cons_zero, List.setIfInBounds_toArray, List.set_cons_zero, List.set_cons_succ]
  refine wpAnyH_take (i := 8) (v := .int .u64 (sr : Int)) rfl (by kernel_rfl) (by kernel_rfl) (by kernel_rfl) (fun _ _ _ h => h) (Or.inl ⟨by rfl, fun wx hx => by (have hc := below_cell hx c2; simp [go_sem, hc])⟩) hS ?_
  simp only [Act.put, List.getElem_toArray, List.getElem_cons_succ, List.getElem_cons_zero, List.setIfInBounds_toArray, List.set_cons_zero, List.set_cons_succ]
  have hcv := conv_string nm w1
  have hbw := bytesWorld_below nm w1
  have hrw := bytesWorld_reads nm w1
  have hSw : Over w1 (Lib.bytesWorld w1 5 (strB nm)) := hS.more hbw
  refine wpAnyH_step 2 (.slice (some ⟨w1.heap.size, 0, none⟩) nm.length (grownCap w1 nm.length 0 5)) (Lib.bytesWorld w1 5 (strB nm)) (by kernel_rfl) rfl (by rfl) (by simp [execOp, Act.eval, hcv]) hSw ?_
  simp only [Act.put, List.getElem_toArray, List.getElem_cons_succ, List.getElem_cons_zero, List.setIfInBounds_toArray, List.set_cons_zero, List.set_cons_succ]
  clear hcv hbw hS
  generalize Lib.bytesWorld w1 5 (strB nm) = w2 at *
  generalize grownCap w1 nm.length 0 5 = cw at *
  generalize Value.slice (some ⟨w1.heap.size, 0, none⟩) nm.length cw = vn at *
  refine wpAnyH_enter 3 (by kernel_rfl) rfl (by rfl) (f := 41) (args := #[vn]) (by simp [go_sem]) (qtext_any vn nm w2 hrw (by have := HL.out; omega)) ?_
  rintro e w3 ⟨v3, rfl, hr3, hb3⟩
  have hS3 : Over w1 w3 := hSw.more hb3
  refine ⟨_, rfl, hS3, ?_⟩
  simp only [Act.put, List.getElem_toArray, List.getElem_cons_succ, List.getElem_cons_zero, List.setIfInBounds_toArray, List.set_cons_zero, List.set_cons_succ]
  clear hSw hrw hb3
  refine wpAnyH_enter 6 (by kernel_rfl) rfl (by rfl) (f := 41) (args := #[(.slice ad m cp)]) (by simp [go_sem]) (qtext_any _ ky w3 (HK1.out.below hS3) (by have := HL.out; omega)) ?_
  rintro e w4 ⟨v4, rfl, hr4, hb4⟩
  have hS4 : Over w1 w4 := hS3.more hb4
  refine ⟨_, rfl, hS4, ?_⟩
  simp only [Act.put, List.getElem_toArray, List.getElem_cons_succ, List.getElem_cons_zero, List.setIfInBounds_toArray, List.set_cons_zero, List.set_cons_succ]
  replace hr3 := hr3.below hb4
  clear hS3 hb4
  refine wpAnyH_enter 9 (by kernel_rfl) rfl (by rfl) (f := 42) (args := #[.int .u64 (sr : Int)]) (by simp [go_sem]) (qnum_any sr HS.out w4) ?_
  rintro e w5 ⟨v5, rfl, hr5, hb5⟩
  replace hr5 := hr5.reads
  have hS5 : Over w1 w5 := hS4.more hb5
  refine ⟨_, rfl, hS5, ?_⟩
  simp only [Act.put, List.getElem_toArray, List.getElem_cons_succ, List.getElem_cons_zero, List.setIfInBounds_toArray, List.set_cons_zero, List.set_cons_succ]
  replace hr3 := hr3.below hb5
  replace hr4 := hr4.below hb5
  clear hS4 hb5
  obtain ⟨t3, HT3⟩ : ∃ x, Hid (x = encText nm) := ⟨_, rfl⟩
  obtain ⟨t4, HT4⟩ : ∃ x, Hid (x = encText ky) := ⟨_, rfl⟩
  obtain ⟨t5, HT5⟩ : ∃ x, Hid (x = encNum sr) := ⟨_, rfl⟩
  rw [← HT3.out] at hr3
  rw [← HT4.out] at hr4
  rw [← HT5.out] at hr5
  obtain ⟨a3, p3, rfl, _, _, _⟩ := id hr3
  obtain ⟨a4, p4, rfl, _, _, _⟩ := id hr4
  obtain ⟨a5, p5, rfl, _, _, _⟩ := id hr5
  have hrl := readsL_three hr3 hr4 hr5
  have hba := below_alloc w5 (.cells #[.slice a3 t3.length p3, .slice a4 t4.length p4, .slice a5 t5.length p5] 22)
  have hS6 : Over w1 (w5.alloc (.cells #[.slice a3 t3.length p3, .slice a4 t4.length p4, .slice a5 t5.length p5] 22)) := hS5.more hba
  refine wpAnyH_step 10 (.slice (some ⟨w5.heap.size, 0, none⟩) 3 3) (w5.alloc (.cells #[.slice a3 t3.length p3, .slice a4 t4.length p4, .slice a5 t5.length p5] 22)) (by kernel_rfl) rfl (by rfl) (by simp [go_sem]) hS6 ?_
  simp only [Act.put, List.getElem_toArray, List.getElem_cons_succ, List.getElem_cons_zero, List.setIfInBounds_toArray, List.set_cons_zero, List.set_cons_succ]
  generalize w5.alloc (.cells #[.slice a3 t3.length p3, .slice a4 t4.length p4, .slice a5 t5.length p5] 22) = w6 at *
  clear hS5 hba
  refine wpAnyH_enter 11 (by kernel_rfl) rfl (by rfl) (f := 40) (args := #[.slice (some ⟨w5.heap.size, 0, none⟩) 3 3]) (by simp [go_sem]) (rjoin_any _ _ w6 hrl (by
    have h1 := HL.out
    have h2 := encText_le (t := nm) (by omega)
    have h3 := encText_le (t := ky) (by omega)
    have h4 := enc_len10 sr HS.out
    simp only [List.flatten_cons, List.flatten_nil, List.append_nil, List.length_append, HT3.out, HT4.out, HT5.out]
    omega) (by simp)) ?_
  rintro e w7 ⟨v7, rfl, hr7, hb7⟩
  have hS7 : Over w1 w7 := hS6.more hb7
  refine ⟨_, rfl, hS7, ?_⟩
  simp only [Act.put, List.getElem_toArray, List.getElem_cons_succ, List.getElem_cons_zero, List.setIfInBounds_toArray, List.set_cons_zero, List.set_cons_succ]
  refine wpAnyH_take (i := 12) (v := v7) rfl (by kernel_rfl) (by kernel_rfl) (by kernel_rfl) (fun _ _ _ h => h) (Or.inl ⟨by rfl, fun wx _ => by simp [go_sem]⟩) hS7 ?_
  simp only [Act.put, List.getElem_toArray, List.getElem_cons_succ, List.getElem_cons_zero, List.setIfInBounds_toArray, List.set_cons_zero, List.set_cons_succ]
  refine wpAnyH_done (by kernel_rfl) ?_ _
  have HF : Hid (Reads w7 v7 (encBinding (nm, ky, sr)) ∧ Below w.heap.size w w7) := ⟨by simp only [List.flatten_cons, List.flatten_nil, List.append_nil, HT3.out, HT4.out, HT5.out] at hr7; exact hr7, hS7.after HB1.out⟩
  clear hS6 hS7 hr7 hb7 hr3 hr4 hr5 hrl
  go_wp2
  go_ret
  exact ⟨_, rfl, HF.out⟩
set_option maxHeartbeats 1000000 in
theorem sameBinding_any (na nb ka kb : List (BitVec 8)) (va vb : Value) (sa sb : Nat) (w : World) (ha : Reads w va ka) (hb : Reads w vb kb) :
    Calls Try.prog 25 #[.agg #[.string (strB na), va, .int .u64 (sa : Int)], .agg #[.string (strB nb), vb, .int .u64 (sb : Int)]] w fun e w' => e = .returned (.bool (decide (na = nb ∧ sa = sb ∧ ka = kb))) ∧ Below w.heap.size w w' := by
  have hs1 := strB_inj na nb
  have hs2 := strB_inj ka kb
  have HA : Hid (Reads w va ka) := ha
  have HB : Hid (Reads w vb kb) := hb
  obtain ⟨a1, c1, rfl, _, _, _⟩ := ha
  obtain ⟨a2, c2, rfl, _, _, _⟩ := hb
  obtain ⟨W, HW⟩ : ∃ zz, Hid (zz = (w.alloc (.cells #[.string (strB na), .slice a1 ka.length c1, .int .u64 (sa : Int)] 25)).alloc (.cells #[.string (strB nb), .slice a2 kb.length c2, .int .u64 (sb : Int)] 25)) := ⟨_, rfl⟩
  have HBW : Hid (Below w.heap.size w ((w.alloc (.cells #[.string (strB na), .slice a1 ka.length c1, .int .u64 (sa : Int)] 25)).alloc (.cells #[.string (strB nb), .slice a2 kb.length c2, .int .u64 (sb : Int)] 25))) := (below_alloc _ _).trans ((below_alloc _ _).mono (by simp))
  have ca := conv_reads (HA.out.below HBW.out)
  have cb := conv_reads (HB.out.below HBW.out)
  clear HA HB
  by_cases h1 : na = nb
  · by_cases h2 : sa = sb
    · have h3 : decide (na = nb ∧ sa = sb ∧ ka = kb) = decide (ka = kb) := by simp [h1, h2]
      rw [decide_eq_true h1] at hs1
      have h2' : ((sa : Int) == (sb : Int)) = true := by simp [h2]
      clear h1 h2
      generalize decide (ka = kb) = bb at *
      generalize decide (na = nb ∧ sa = sb ∧ ka = kb) = bc at *
      go_enter Try.func25, Try.ntmps25
      go_wp2
      go_ret
      exact ⟨by simp [h3], HBW.out⟩
    · have h3 : decide (na = nb ∧ sa = sb ∧ ka = kb) = false := by simp [h2]
      rw [decide_eq_true h1] at hs1
      have h2' : ((sa : Int) == (sb : Int)) = false := by rw [beq_eq_false_iff_ne]; omega
      clear h1 h2 hs2
      generalize decide (na = nb ∧ sa = sb ∧ ka = kb) = bc at *
      go_enter Try.func25, Try.ntmps25
      go_wp2
      go_ret
      exact ⟨by simp [h3], HBW.out⟩
  · have h3 : decide (na = nb ∧ sa = sb ∧ ka = kb) = false := by simp [h1]
    rw [decide_eq_false h1] at hs1
    clear h1 hs2
    generalize decide (na = nb ∧ sa = sb ∧ ka = kb) = bc at *
    go_enter Try.func25, Try.ntmps25
    go_wp2
    go_ret
    exact ⟨by simp [h3], HBW.out⟩
end Go.Proofs.Ytldbcglakeggaaa

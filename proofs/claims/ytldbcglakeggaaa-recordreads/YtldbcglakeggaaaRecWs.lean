/- The walks of record's Signed and Request. -/
import Derived.Test.YtldbcglakeggaaaRecWks
namespace Go.Proofs.Ytldbcglakeggaaa
open Go.RowKit
theorem Blk.rangeMid {w : World} {g off : Nat} {A B C : List Value} {t : TypeId} (h : Blk w g (A ++ (B ++ C)) t) (ho : A.length = off) : w.rangeAt g off B := by
  subst ho
  intro j v hj
  have hlt : j < B.length := (List.getElem?_eq_some_iff.1 hj).1
  rw [h.cell, List.getElem?_append_right (by omega), Nat.add_sub_cancel_left, List.getElem?_append_left hlt, hj]
theorem sgnV_rx {ep : Nat} {x y z : List (BitVec 8)} {vs : Value} {w : World} {g : Nat} {t : TypeId} (h : Blk w g (sgnV ep x y z vs) t) : w.rangeAt g 1 (cb x) :=
  Blk.rangeMid (A := [.int .u64 (ep : Int)]) (B := cb x) (C := cb y ++ (cb z ++ [vs])) h rfl
theorem sgnV_ry {ep : Nat} {x y z : List (BitVec 8)} {vs : Value} {w : World} {g : Nat} {t : TypeId} (h : Blk w g (sgnV ep x y z vs) t) (hx : x.length = 32) : w.rangeAt g 33 (cb y) := by
  have e : sgnV ep x y z vs = (.int .u64 (ep : Int) :: cb x) ++ (cb y ++ (cb z ++ [vs])) := by simp only [sgnV, List.cons_append]
  rw [e] at h
  exact h.rangeMid (by rw [List.length_cons, cb_len, hx])
theorem sgnV_rz {ep : Nat} {x y z : List (BitVec 8)} {vs : Value} {w : World} {g : Nat} {t : TypeId} (h : Blk w g (sgnV ep x y z vs) t) (hx : x.length = 32) (hy : y.length = 32) : w.rangeAt g 65 (cb z) := by
  have e : sgnV ep x y z vs = (.int .u64 (ep : Int) :: (cb x ++ cb y)) ++ (cb z ++ [vs]) := by simp only [sgnV, List.cons_append, List.append_assoc]
  rw [e] at h
  exact h.rangeMid (by rw [List.length_cons, List.length_append, cb_len, cb_len, hx, hy])
theorem reqV_rau {kd : Int} {nm au : List (BitVec 8)} {vk : Value} {w : World} {g : Nat} {t : TypeId} (h : Blk w g (reqV kd nm vk au) t) : w.rangeAt g 3 (cb au) :=
  Blk.rangeMid (A := [.int .i64 kd, .string (strB nm), vk]) (B := cb au) (C := []) (by rw [List.append_nil]; exact h) rfl
theorem infoD (d : List (BitVec 8)) (h : d.length = 32) : (Try.prog.info? 28).map (·.size) = some (cb d).length := by rw [cb_len, h]; exact Try.infodig
def u64of (z : Int) : Nat := (z % 18446744073709551616).toNat
theorem u64of_lt (z : Int) : u64of z < 18446744073709551616 := by unfold u64of; omega
theorem wrap_u64of (z : Int) : IntKind.u64.wrap z = ((u64of z : Nat) : Int) := by rw [IntKind.wrap_u64]; unfold u64of; omega
theorem u64of_nat {n : Nat} (h : n < 18446744073709551616) : u64of (n : Int) = n := by unfold u64of; omega
structure Fit (x : Int) : Prop where
  lo : -9223372036854775808 ≤ x
  hi : x < 9223372036854775808
set_option maxRecDepth 100000 in
set_option maxHeartbeats 2000000 in
theorem rsigned_any (ep : Nat) (x y z sg : List (BitVec 8)) (vs : Value) (hep : ep < 18446744073709551616) (hx : x.length = 32) (hy : y.length = 32) (hz : z.length = 32) (w : World) (hk : Reads w vs sg) (hl : sg.length + 200 ≤ 140737488355328) :
    Calls Try.prog 19 #[.agg (sgnV ep x y z vs).toArray] w fun e w' => ∃ v', e = .returned v' ∧ Reads w' v' (encSigned (ep, x, y, z, sg)) ∧ Below w.heap.size w w' := by
  have HK : Hid (Reads w vs sg) := hk
  have HL : Hid (sg.length + 200 ≤ 140737488355328) := hl
  have HEP : Hid (ep < 18446744073709551616) := hep
  have HX : Hid (x.length = 32) := hx
  have HY : Hid (y.length = 32) := hy
  have HZ : Hid (z.length = 32) := hz
  obtain ⟨ad, cp, hv, _, _, _⟩ := hk
  obtain ⟨m, HM⟩ : ∃ m, Hid (m = sg.length) := ⟨_, rfl⟩
  rw [← HM.out] at hv
  subst hv
  obtain ⟨cs, HCS⟩ : ∃ cs, Hid (cs = (sgnV ep x y z (.slice ad m cp))) := ⟨_, rfl⟩
  rw [← HCS.out]
  have HB0 : Hid (Below w.heap.size w (w.alloc (.cells cs.toArray 42))) := below_alloc _ _
  have hB0 : Blk (w.alloc (.cells cs.toArray 42)) w.heap.size (sgnV ep x y z (.slice ad m cp)) 42 := by have := Blk.new w cs 42; rwa [HCS.out] at this ⊢
  have HBK : Hid (Blk (w.alloc (.cells cs.toArray 42)) w.heap.size (sgnV ep x y z (.slice ad m cp)) 42) := hB0
  have HK0 : Hid (Reads (w.alloc (.cells cs.toArray 42)) (.slice ad m cp) sg) := HK.out.below HB0.out
  have c0 : (w.alloc (.cells cs.toArray 42)).cell? ⟨w.heap.size, 0, none⟩ = some (.int .u64 (ep : Int)) := hB0.cell 0
  clear hep hx hy hz hl hB0 HK
  go_enter Try.func19, Try.ntmps19
  go_wp2_with fail
  generalize w.alloc (.cells cs.toArray 42) = w0 at *
  obtain ⟨B, HBB⟩ : ∃ B, Hid (B = w0.heap.size) := ⟨_, rfl⟩
  have HGB : Hid (w.heap.size < B) := by show _ < _; rw [HBB.out]; exact HBK.out.lt
  refine (cnum_any B _ [] ep HEP.out w0 (OwnB.nil _ _) (by rw [HBB.out]; exact Nat.le_refl _) (by simp)).mono ?_
  rintro e w1 ⟨v1, rfl, ho1, hb1⟩
  have HV : Hid (0 < sg.length → ∀ k, Value.ownBlock (.slice ad m cp) = some k → k < B) := by rw [HBB.out]; exact HK0.out.inB
  have HLE : Hid ((encNum ep).length ≤ 10) := enc_len10 ep HEP.out
  replace HBK : Hid (Blk w1 w.heap.size (sgnV ep x y z (.slice ad m cp)) 42) := HBK.out.below hb1 HGB.out
  have HK1 : Hid (Reads w1 (.slice ad m cp) sg) := HK0.out.keep hb1 HV.out
  have HB1 : Hid (Below w.heap.size w w1) := HB0.out.trans (hb1.mono (by have := HGB.out; omega))
  have HO1 : Hid (OwnB w1 B v1 ([] ++ encNum ep)) := ho1
  have HS1 : Hid (B ≤ w1.heap.size) := by show _ ≤ _; rw [HBB.out]; exact hb1.size
  have HRx : Hid (w1.rangeAt w.heap.size 1 (cb x)) := sgnV_rx HBK.out
  clear ho1 hb1 HB0 HK0 c0
  go_wp2_with (refine wpSeq_val (.agg (cb x).toArray) _ (by rfl) (load_run 28 _ rfl w.heap.size 1 rfl (cb x) _ HRx.out Try.underlying28 rfl (infoD x HX.out)) ?_)
  refine (cdigest_any B v1 ([] ++ encNum ep) x HX.out w1 HO1.out HS1.out (by have := HLE.out; simp only [List.length_append, List.length_nil]; omega)).mono ?_
  rintro e w2 ⟨v2, rfl, ho2, hb2⟩
  replace HBK : Hid (Blk w2 w.heap.size (sgnV ep x y z (.slice ad m cp)) 42) := HBK.out.below hb2 HGB.out
  have HK2 : Hid (Reads w2 (.slice ad m cp) sg) := HK1.out.keep hb2 HV.out
  have HB2 : Hid (Below w.heap.size w w2) := HB1.out.trans (hb2.mono (by have := HGB.out; omega))
  have HO2 : Hid (OwnB w2 B v2 (([] ++ encNum ep) ++ x)) := ho2
  have HS2 : Hid (B ≤ w2.heap.size) := by show _ ≤ _; exact Nat.le_trans HS1.out hb2.size
  have HRy : Hid (w2.rangeAt w.heap.size 33 (cb y)) := sgnV_ry HBK.out HX.out
  clear ho2 hb2 HB1 HK1 HO1 HS1
  go_wp2_with (refine wpSeq_val (.agg (cb y).toArray) _ (by rfl) (load_run 28 _ rfl w.heap.size 33 rfl (cb y) _ HRy.out Try.underlying28 rfl (infoD y HY.out)) ?_)
  refine (cdigest_any B v2 (([] ++ encNum ep) ++ x) y HY.out w2 HO2.out HS2.out (by have := HLE.out; simp only [List.length_append, List.length_nil, HX.out]; omega)).mono ?_
  rintro e w3 ⟨v3, rfl, ho3, hb3⟩
  replace HBK : Hid (Blk w3 w.heap.size (sgnV ep x y z (.slice ad m cp)) 42) := HBK.out.below hb3 HGB.out
  have HK3 : Hid (Reads w3 (.slice ad m cp) sg) := HK2.out.keep hb3 HV.out
  have HB3 : Hid (Below w.heap.size w w3) := HB2.out.trans (hb3.mono (by have := HGB.out; omega))
  have HO3 : Hid (OwnB w3 B v3 ((([] ++ encNum ep) ++ x) ++ y)) := ho3
  have HS3 : Hid (B ≤ w3.heap.size) := by show _ ≤ _; exact Nat.le_trans HS2.out hb3.size
  have HRz : Hid (w3.rangeAt w.heap.size 65 (cb z)) := sgnV_rz HBK.out HX.out HY.out
  clear ho3 hb3 HB2 HK2 HO2 HS2
  go_wp2_with (refine wpSeq_val (.agg (cb z).toArray) _ (by rfl) (load_run 28 _ rfl w.heap.size 65 rfl (cb z) _ HRz.out Try.underlying28 rfl (infoD z HZ.out)) ?_)
  refine (cdigest_any B v3 ((([] ++ encNum ep) ++ x) ++ y) z HZ.out w3 HO3.out HS3.out (by have := HLE.out; simp only [List.length_append, List.length_nil, HX.out, HY.out]; omega)).mono ?_
  rintro e w4 ⟨v4, rfl, ho4, hb4⟩
  replace HBK : Hid (Blk w4 w.heap.size (sgnV ep x y z (.slice ad m cp)) 42) := HBK.out.below hb4 HGB.out
  have HK4 : Hid (Reads w4 (.slice ad m cp) sg) := HK3.out.keep hb4 HV.out
  have HB4 : Hid (Below w.heap.size w w4) := HB3.out.trans (hb4.mono (by have := HGB.out; omega))
  have HO4 : Hid (OwnB w4 B v4 (((([] ++ encNum ep) ++ x) ++ y) ++ z)) := ho4
  have HS4 : Hid (B ≤ w4.heap.size) := Nat.le_trans HS3.out hb4.size
  have c9 : w4.cell? ⟨w.heap.size, 97, none⟩ = some (.slice ad m cp) := sgnV_last HBK.out HX.out HY.out HZ.out
  clear ho4 hb4 HB3 HK3 HO3 HS3
  go_wp2_with fail
  refine (ctext_any B v4 (.slice ad m cp) (((([] ++ encNum ep) ++ x) ++ y) ++ z) sg w4 HO4.out HK4.out HS4.out (by have h1 := HLE.out; have h2 := HL.out; simp only [List.length_append, List.length_nil, HX.out, HY.out, HZ.out]; omega)).mono ?_
  rintro e w5 ⟨v5, rfl, ho5, hb5⟩
  have HF : Hid (Reads w5 v5 (encSigned (ep, x, y, z, sg)) ∧ Below w.heap.size w w5) := ⟨by have := ho5.reads; simp only [List.nil_append, List.append_assoc] at this; exact this, HB4.out.trans (hb5.mono (by have := HGB.out; omega))⟩
  clear ho5 hb5 HB4 HK4 HO4 HS4 c9
  go_wp2
  go_ret
  exact ⟨_, rfl, HF.out⟩
set_option maxRecDepth 100000 in
set_option maxHeartbeats 2000000 in
theorem rreq_any (kd : Int) (nm ky au : List (BitVec 8)) (vk : Value) (hkd : Fit kd) (ha : au.length = 32) (w : World) (hk : Reads w vk ky) (hl : nm.length + ky.length + 100 ≤ 140737488355328) :
    Calls Try.prog 17 #[.agg (reqV kd nm vk au).toArray] w fun e w' => ∃ v', e = .returned v' ∧ Reads w' v' (encRequest (u64of kd, nm, ky, au)) ∧ Below w.heap.size w w' := by
  have HK : Hid (Reads w vk ky) := hk
  have HL : Hid (nm.length + ky.length + 100 ≤ 140737488355328) := hl
  have HA : Hid (au.length = 32) := ha
  have HKD : Hid (Fit kd) := hkd
  obtain ⟨ad, cp, hv, _, _, _⟩ := hk
  obtain ⟨m, HM⟩ : ∃ m, Hid (m = ky.length) := ⟨_, rfl⟩
  rw [← HM.out] at hv
  subst hv
  obtain ⟨k, HKK⟩ : ∃ k, Hid (k = u64of kd) := ⟨_, rfl⟩
  have hwk : IntKind.u64.wrap kd = (k : Int) := by rw [HKK.out]; exact wrap_u64of kd
  rw [← HKK.out]
  have HKL : Hid (k < 18446744073709551616) := by show _ < _; rw [HKK.out]; exact u64of_lt kd
  obtain ⟨cs, HCS⟩ : ∃ cs, Hid (cs = (reqV kd nm (.slice ad m cp) au)) := ⟨_, rfl⟩
  rw [← HCS.out]
  have HB0 : Hid (Below w.heap.size w (w.alloc (.cells cs.toArray 38))) := below_alloc _ _
  have HBK : Hid (Blk (w.alloc (.cells cs.toArray 38)) w.heap.size (reqV kd nm (.slice ad m cp) au) 38) := by have := Blk.new w cs 38; rwa [HCS.out] at this ⊢
  clear hl ha hkd
  go_enter Try.func17, Try.ntmps17
  go_wp2_with fail
  generalize w.alloc (.cells cs.toArray 38) = w0 at *
  refine wp_region_held_drew (S := Over w0.drew) (by kernel_rfl) (Over.refl _) ?_
  intro hS
  have HB1 : Hid (Below w.heap.size w w0.drew) := HB0.out.drew
  have HBK1 : Hid (Blk w0.drew w.heap.size (reqV kd nm (.slice ad m cp) au) 38) := HBK.out
  have HK1 : Hid (Reads w0.drew (.slice ad m cp) ky) := HK.out.below HB1.out
  clear HB0 HBK
  generalize w0.drew = w1 at *
  have c0 : w1.cell? ⟨w.heap.size, 0, none⟩ = some (.int .i64 kd) := HBK1.out.cell 0
  have c1 : w1.cell? ⟨w.heap.size, 1, none⟩ = some (.string (strB nm)) := HBK1.out.cell 1
  have c2 : w1.cell? ⟨w.heap.size, 2, none⟩ = some (.slice ad m cp) := HBK1.out.cell 2
  obtain ⟨g, HG⟩ : ∃ g, Hid (w.heap.size = g) := ⟨_, rfl⟩
  simp only [HG.out] at c0 c1 c2 ⊢
  refine wpAnyH_take (i := 0) (v := .pointer (some ⟨g, 0, none⟩)) rfl (by kernel_rfl) (by kernel_rfl) (by kernel_rfl) (fun _ _ _ h => h) (Or.inl ⟨by rfl, fun wx _ => by simp [go_sem]⟩) hS ?_
  simp only [Act.put, List.getElem_toArray, List.getElem_cons_zero, List.setIfInBounds_toArray, List.set_cons_zero, List.set_cons_succ]
  refine wpAnyH_take (i := 1) (v := .int .i64 kd) rfl (by kernel_rfl) (by kernel_rfl) (by kernel_rfl) (fun _ _ _ h => h) (Or.inl ⟨by rfl, fun wx hx => by (have hc := below_cell hx c0; simp [go_sem, hc])⟩) hS ?_
  simp only [Act.put, List.getElem_toArray, List.getElem_cons_succ, List.getElem_cons_zero, List.setIfInBounds_toArray, List.set_cons_zero, List.set_cons_succ]
  refine wpAnyH_take (i := 2) (v := .int .u64 (k : Int)) rfl (by kernel_rfl) (by kernel_rfl) (by kernel_rfl) (fun _ _ _ h => h) (Or.inl ⟨by rfl, fun wx _ => by simp [go_sem, hwk]⟩) hS ?_
  simp only [Act.put, List.getElem_toArray, List.getElem_cons_succ, List.getElem_cons_zero, List.setIfInBounds_toArray, List.set_cons_zero, List.set_cons_succ]
  refine wpAnyH_take (i := 4) (v := .pointer (some ⟨g, 1, none⟩)) rfl (by kernel_rfl) (by kernel_rfl) (by kernel_rfl) (fun _ _ _ h => h) (Or.inl ⟨by rfl, fun wx _ => by simp [go_sem]⟩) hS ?_
  simp only [Act.put, List.getElem_toArray, List.getElem_cons_succ, List.getElem_cons_zero, List.setIfInBounds_toArray, List.set_cons_zero, List.set_cons_succ]
  refine wpAnyH_take (i := 5) (v := .string (strB nm)) rfl (by kernel_rfl) (by kernel_rfl) (by kernel_rfl) (fun _ _ _ h => h) (Or.inl ⟨by rfl, fun wx hx => by (have hc := below_cell hx c1; simp [go_sem, hc])⟩) hS ?_
  simp only [Act.put, List.getElem_toArray, List.getElem_cons_succ, List.getElem_cons_zero, List.setIfInBounds_toArray, List.set_cons_zero, List.set_cons_succ]
  refine wpAnyH_take (i := 6) (v := .pointer (some ⟨g, 2, none⟩)) rfl (by kernel_rfl) (by kernel_rfl) (by kernel_rfl) (fun _ _ _ h => h) (Or.inl ⟨by rfl, fun wx _ => by simp [go_sem]⟩) hS ?_
  simp only [Act.put, List.getElem_toArray, List.getElem_cons_succ, List.getElem_cons_zero, List.setIfInBounds_toArray, List.set_cons_zero, List.set_cons_succ]
  refine wpAnyH_take (i := 7) (v := (.slice ad m cp)) rfl (by kernel_rfl) (by kernel_rfl) (by kernel_rfl) (fun _ _ _ h => h) (Or.inl ⟨by rfl, fun wx hx => by (have hc := below_cell hx c2; simp [go_sem, hc])⟩) hS ?_
  simp only [Act.put, List.getElem_toArray, List.getElem_cons_succ, List.getElem_cons_zero, List.setIfInBounds_toArray, List.set_cons_zero, List.set_cons_succ]
  refine wpAnyH_enter 3 (by kernel_rfl) rfl (by rfl) (f := 38) (args := #[.slice none 0 0, .int .u64 (k : Int)]) (by simp [go_sem]) (cnum_any w1.heap.size _ [] k HKL.out w1 (OwnB.nil _ _) (Nat.le_refl _) (by simp)) ?_
  rintro e w2 ⟨v2, rfl, hown, hb⟩
  have hS2 : Over w1 w2 := hS.more hb
  refine ⟨_, rfl, hS2, ?_⟩
  simp only [Act.put, List.getElem_toArray, List.getElem_cons_succ, List.getElem_cons_zero, List.setIfInBounds_toArray, List.set_cons_zero, List.set_cons_succ]
  have HO2 : Hid (OwnB w2 w1.heap.size v2 ([] ++ encNum k)) := hown
  have HLE : Hid ((encNum k).length ≤ 10) := enc_len10 k HKL.out
  clear hS hown hb
  refine wpAnyH_enter 8 (by kernel_rfl) rfl (by rfl) (f := 39) (args := #[v2, .string (strB nm), (.slice ad m cp)]) (by simp [go_sem]) (nameAndKey_any w1.heap.size v2 _ _ nm ky w2 HO2.out (HK1.out.below hS2) hS2.size (by have h1 := HL.out; have h2 := HLE.out; simp only [List.nil_append]; omega) HK1.out.inB) ?_
  rintro e w3 ⟨v3, rfl, hown3, hb3⟩
  have hS3 : Over w1 w3 := Below.trans hS2 hb3
  refine ⟨_, rfl, hS3, ?_⟩
  simp only [Act.put, List.getElem_toArray, List.getElem_cons_succ, List.getElem_cons_zero, List.setIfInBounds_toArray, List.set_cons_zero, List.set_cons_succ]
  refine wpAnyH_take (i := 9) (v := v3) rfl (by kernel_rfl) (by kernel_rfl) (by kernel_rfl) (fun _ _ _ h => h) (Or.inl ⟨by rfl, fun wx _ => by simp [go_sem]⟩) hS3 ?_
  simp only [Act.put, List.getElem_toArray, List.getElem_cons_succ, List.getElem_cons_zero, List.setIfInBounds_toArray, List.set_cons_zero, List.set_cons_succ]
  refine wpAnyH_done (by kernel_rfl) ?_ _
  have HO3 : Hid (OwnB w3 w1.heap.size v3 ([] ++ encNum k ++ (encText nm ++ encText ky))) := hown3
  have HB3 : Hid (Below w.heap.size w w3) := hS3.after HB1.out
  have HBK3 : Hid (Blk w3 w.heap.size (reqV kd nm (.slice ad m cp) au) 38) := HBK1.out.below hS3.out HBK1.out.lt
  have HS3 : Hid (w1.heap.size ≤ w3.heap.size) := hS3.size
  have HGB : Hid (w.heap.size < w1.heap.size) := HBK1.out.lt
  have c03 : w3.cell? ⟨g, 0, none⟩ = some (.int .i64 kd) := by rw [← HG.out]; exact HBK3.out.cell 0
  have HRA : Hid (w3.rangeAt g 3 (cb au)) := by show w3.rangeAt g 3 (cb au); rw [← HG.out]; exact reqV_rau HBK3.out
  clear hS2 hS3 hown3 hb3 HO2 c0 c1 c2
  by_cases hk2 : kd = 2
  · have HK2 : Hid (k = 2) := by show k = 2; rw [HKK.out, hk2]; rfl
    subst hk2
    go_wp2_with (refine wpSeq_val (.agg (cb au).toArray) _ (by rfl) (load_run 28 _ rfl g 3 rfl (cb au) _ HRA.out Try.underlying28 rfl (infoD au HA.out)) ?_)
    refine (cdigest_any w1.heap.size v3 _ au HA.out w3 HO3.out HS3.out (by
      have h1 := HL.out
      have h2 := HLE.out
      have h3 := encText_le (t := nm) (by omega)
      have h4 := encText_le (t := ky) (by omega)
      simp only [List.nil_append, List.length_append]
      omega)).mono ?_
    rintro e w4 ⟨v4, rfl, ho4, hb4⟩
    have HF : Hid (Reads w4 v4 (encRequest (k, nm, ky, au)) ∧ Below w.heap.size w w4) := ⟨by have := ho4.reads; simp only [List.nil_append, List.append_assoc] at this; unfold encRequest encAuth; simp only [if_pos HK2.out]; exact this, HB3.out.trans (hb4.mono (by have := HGB.out; omega))⟩
    clear ho4 hb4 HO3 HB3 HBK3 HS3 c03 HRA
    go_wp2
    go_ret
    exact ⟨_, rfl, HF.out⟩
  · have HK2 : Hid (¬ k = 2) := by
      show ¬ k = 2
      rw [HKK.out]
      have h1 := HKD.out.lo
      have h2 := HKD.out.hi
      unfold u64of
      omega
    have HF : Hid (Reads w3 v3 (encRequest (k, nm, ky, au)) ∧ Below w.heap.size w w3) := ⟨by have := HO3.out.reads; simp only [List.nil_append] at this; unfold encRequest encAuth; simp only [if_neg HK2.out, List.append_nil]; exact this, HB3.out⟩
    clear HO3 HB3 HBK3 HS3 HRA
    go_wp2
    go_ret
    exact ⟨_, rfl, HF.out⟩
end Go.Proofs.Ytldbcglakeggaaa

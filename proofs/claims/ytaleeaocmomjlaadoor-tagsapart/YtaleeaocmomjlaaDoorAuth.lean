/- The walks of AuthOf, of tags and of blazonref03: by what an owner asks. -/
import Derived.Test.YtaleeaocmomjlaaDoorKeyed
namespace Go.Proofs.YtaleeaocmomjlaaDoor
open Go.RowKit
def authB (nm : List (BitVec 8)) (sr : Nat) (ky : List (BitVec 8)) : List (BitVec 8) := 65 :: (num8 nm.length ++ (nm ++ (num8 sr ++ ky)))
set_option maxRecDepth 100000 in
set_option maxHeartbeats 1000000 in
theorem tAuth_any (ol nm ky : List (BitVec 8)) (vo vk : Value) (sr : Nat) (w : World) (hK : KOk w) (ho : Reads w vo ol) (hk : Reads w vk ky) (hn : nm.length ≤ 1099511627776 ∧ ky.length ≤ 1099511627776 ∧ sr < 18446744073709551616 ∧ ol.length ≤ 1099511627776) :
    Calls Tryd.prog 27 #[vo, .string (strB nm), .int .u64 (sr : Int), vk] w fun e w' => e = .returned (.agg (cb (hmac ol (authB nm sr ky))).toArray) ∧ Below w.heap.size w w' := by
  have HK : Hid (KOk w) := hK
  clear hK
  have HN : Hid (nm.length ≤ 1099511627776 ∧ ky.length ≤ 1099511627776 ∧ sr < 18446744073709551616 ∧ ol.length ≤ 1099511627776) := hn
  have HO : Hid (Reads w vo ol) := ho
  have HY : Hid (Reads w vk ky) := hk
  obtain ⟨ao, co, rfl, _, _, _⟩ := ho
  obtain ⟨ak, ck, rfl, _, _, _⟩ := hk
  clear hn
  go_enter Tryd.func27, Tryd.ntmps27
  go_wp2_with fail
  rw [zeros32]
  have hb0 := below_alloc w (Obj.cells (cb zb32).toArray 23)
  have hRB : Blk (w.alloc (Obj.cells (cb zb32).toArray 23)) w.heap.size (cb zb32) 23 := Blk.new w _ _
  generalize w.alloc (Obj.cells (cb zb32).toArray 23) = w0 at *
  refine (count_any nm (by have := HN.out; omega) _).mono ?_
  rintro e w1 ⟨v1, rfl, r1, b1⟩
  obtain ⟨l1, HL1⟩ : ∃ zz, Hid (zz = num8 nm.length) := ⟨_, rfl⟩
  rw [← HL1.out] at r1
  have HS1 : Hid (Below w.heap.size w w1) := hb0.trans (b1.mono hb0.size)
  have HRB1 : Hid (Blk w1 w.heap.size (cb zb32) 23) := hRB.below (b1.mono (Nat.le_refl _)) hRB.lt
  have HW1 := r1
  obtain ⟨a1, c1, rfl, _, _, _⟩ := r1
  clear b1 hb0 hRB
  have hcv := conv_string nm w1
  have r2 := bytesWorld_reads nm w1
  have b2 := bytesWorld_below nm w1
  have HR1 : Hid (Reads (Lib.bytesWorld w1 5 (strB nm)) (.slice a1 l1.length c1) l1) := HW1.below b2
  have HS2 : Hid (Below w.heap.size w (Lib.bytesWorld w1 5 (strB nm))) := HS1.out.trans (b2.mono HS1.out.size)
  have HRB2 : Hid (Blk (Lib.bytesWorld w1 5 (strB nm)) w.heap.size (cb zb32) 23) := HRB1.out.below b2 HRB1.out.lt
  clear HRB1 HS1 b2 HW1
  generalize Lib.bytesWorld w1 5 (strB nm) = w2 at *
  generalize grownCap w1 nm.length 0 5 = c2 at *
  have HR2 : Hid (Reads w2 (.slice (some ⟨w1.heap.size, 0, none⟩) nm.length c2) nm) := r2
  clear r2
  go_wp2_with fail
  refine (number_any sr _).mono ?_
  rintro e w3 ⟨v3, rfl, r3, b3⟩
  obtain ⟨l3, HL3⟩ : ∃ zz, Hid (zz = num8 sr) := ⟨_, rfl⟩
  rw [← HL3.out] at r3
  have s1 := HR1.out.below b3
  have s2 := HR2.out.below b3
  have HS3 : Hid (Below w.heap.size w w3) := HS2.out.trans (b3.mono HS2.out.size)
  have HRB3 : Hid (Blk w3 w.heap.size (cb zb32) 23) := HRB2.out.below b3 HRB2.out.lt
  have s3 := r3
  obtain ⟨a3, c3, rfl, _, _, _⟩ := r3
  have rL := readsL_four s1 s2 s3 (HY.out.below HS3.out)
  have b4 := below_alloc w3 (.cells #[.slice a1 l1.length c1, .slice (some ⟨w1.heap.size, 0, none⟩) nm.length c2, .slice a3 l3.length c3, .slice ak ky.length ck] 24)
  have HS4 : Hid (Below w.heap.size w (w3.alloc (.cells #[.slice a1 l1.length c1, .slice (some ⟨w1.heap.size, 0, none⟩) nm.length c2, .slice a3 l3.length c3, .slice ak ky.length ck] 24))) := HS3.out.trans (b4.mono HS3.out.size)
  have HRB4 : Hid (Blk (w3.alloc (.cells #[.slice a1 l1.length c1, .slice (some ⟨w1.heap.size, 0, none⟩) nm.length c2, .slice a3 l3.length c3, .slice ak ky.length ck] 24)) w.heap.size (cb zb32) 23) := HRB3.out.below b4 HRB3.out.lt
  have HT : Hid (Calls Tryd.prog 34 #[.int .u8 65, .slice (some ⟨w3.heap.size, 0, none⟩) 4 4] (w3.alloc (.cells #[.slice a1 l1.length c1, .slice (some ⟨w1.heap.size, 0, none⟩) nm.length c2, .slice a3 l3.length c3, .slice ak ky.length ck] 24)) fun e w' => ∃ v', e = .returned v' ∧ Reads w' v' ((65 : BitVec 8) :: [l1, nm, l3, ky].flatten) ∧ Below (w3.alloc (.cells #[.slice a1 l1.length c1, .slice (some ⟨w1.heap.size, 0, none⟩) nm.length c2, .slice a3 l3.length c3, .slice ak ky.length ck] 24)).heap.size (w3.alloc (.cells #[.slice a1 l1.length c1, .slice (some ⟨w1.heap.size, 0, none⟩) nm.length c2, .slice a3 l3.length c3, .slice ak ky.length ck] 24)) w') :=
    tagged_any 65 _ _ _ rL (by simp only [fl4, HL1.out, HL3.out, len_num8]; have := HN.out; omega) (by simp)
  clear b3 b4 s1 s2 s3 rL HR1 HR2 HS2 HRB2 HS3 HRB3 hcv
  go_wp2_with fail
  refine HT.out.mono ?_
  rintro e w5 ⟨v5, rfl, r5, b5⟩
  obtain ⟨l5, HL5⟩ : ∃ zz, Hid (zz = (65 : BitVec 8) :: [l1, nm, l3, ky].flatten) := ⟨_, rfl⟩
  rw [← HL5.out] at r5
  have HS5 : Hid (Below w.heap.size w w5) := HS4.out.trans (b5.mono HS4.out.size)
  have HRB5 : Hid (Blk w5 w.heap.size (cb zb32) 23) := HRB4.out.below b5 HRB4.out.lt
  have HLL : Hid (l5 = authB nm sr ky) := by show _ = _; rw [HL5.out]; simp [authB, HL1.out, HL3.out]
  have HLb : Hid (l5.length < 4398046511104) := by show _ < _; simp only [HL5.out, List.length_cons, fl4, HL1.out, HL3.out, len_num8]; have := HN.out; omega
  have s5 := r5
  obtain ⟨a5, c5, rfl, _, _, _⟩ := r5
  clear b5 HS4 HRB4 HT HL5
  have rM := readsL_one s5
  have b6 := below_alloc w5 (.cells #[.slice a5 l5.length c5] 24)
  have HS6 : Hid (Below w.heap.size w (w5.alloc (.cells #[.slice a5 l5.length c5] 24))) := HS5.out.trans (b6.mono HS5.out.size)
  have HRB6 : Hid (Blk (w5.alloc (.cells #[.slice a5 l5.length c5] 24)) w.heap.size (cb zb32) 23) := HRB5.out.below b6 HRB5.out.lt
  have HRM : Hid (ReadsL (w5.alloc (.cells #[.slice a5 l5.length c5] 24)) (.slice (some ⟨w5.heap.size, 0, none⟩) 1 1) [l5]) := rM
  clear s5 b6 rM
  go_wp2_with fail
  refine (mac_any _ _ ol [l5] _ (HK.out.below HS6.out HK.out.lt) (HO.out.below HS6.out) HRM.out (by have := HN.out; omega) (by rw [fl1]; have := HLb.out; omega) (by simp)).mono ?_
  rintro e w7 ⟨rfl, b7⟩
  have HS7 : Hid (Below w.heap.size w w7) := HS6.out.trans (b7.mono HS6.out.size)
  have HRB7 : Hid (Blk w7 w.heap.size (cb zb32) 23) := HRB6.out.below b7 HRB6.out.lt
  rw [show [l5].flatten = authB nm sr ky by simp [HLL.out]]
  clear b7 HRM HS6 HRB6 HS5 HRB5
  obtain ⟨es, HES⟩ : ∃ zz, Hid (zz = cb (hmac ol (authB nm sr ky))) := ⟨_, rfl⟩
  have HLe : Hid (es.length = 32) := by show _ = _; rw [HES.out, cb_len, len_hmac]
  have HZe : Hid ((Tryd.prog.info? 23).map (·.size) = some es.length) := by show _ = _; rw [HLe.out]; exact Tryd.info23
  have H1e : Hid (∀ v ∈ es, v.oneCell' = true) := by show ∀ _, _; rw [HES.out]; exact cb_one _
  rw [← HES.out]
  go_wp2_with (refine wpList_store_mid rfl 23 _ _ rfl w.heap.size 0 es.toArray rfl rfl (HRB7.out.there 0 _ (by rw [List.size_toArray, HLe.out, cb_len, len_zb32]; omega)) (by simpa using HZe.out) (all_oneCell_toArray H1e.out) ?_)
  have hB := HRB7.out.whole es (by rw [HLe.out, cb_len, len_zb32])
  refine bodyPost_ret (v := .agg es.toArray) (results_cell_row (by rfl) _ _ w.heap.size 23 _ (0, 0) _ rfl hB Tryd.underlying23 rfl (by simpa using HZe.out)) rfl ⟨by rw [HES.out], Below.setCells _ (Nat.le_refl _) _ _ _ HS7.out⟩
set_option maxRecDepth 100000 in
set_option maxHeartbeats 1000000 in
theorem rAuth_any (ol nm ky : List (BitVec 8)) (vo vk : Value) (sr : Nat) (w : World) (ho : Reads w vo ol) (hk : Reads w vk ky) (hn : nm.length ≤ 1099511627776 ∧ ky.length ≤ 1099511627776 ∧ sr < 18446744073709551616 ∧ ol.length ≤ 1099511627776) :
    Calls Tryd.prog 28 #[vo, .string (strB nm), .int .u64 (sr : Int), vk] w fun e w' => e = .returned (.agg (cb (hmac ol (authB nm sr ky))).toArray) ∧ Below w.heap.size w w' := by
  have HN : Hid (nm.length ≤ 1099511627776 ∧ ky.length ≤ 1099511627776 ∧ sr < 18446744073709551616 ∧ ol.length ≤ 1099511627776) := hn
  have HO : Hid (Reads w vo ol) := ho
  have HY : Hid (Reads w vk ky) := hk
  obtain ⟨ao, co, rfl, _, _, _⟩ := ho
  obtain ⟨ak, ck, rfl, _, _, _⟩ := hk
  clear hn
  have hss := strB_size nm
  have hwr : IntKind.u64.wrap (nm.length : Int) = (nm.length : Int) := by rw [IntKind.wrap_u64]; have := HN.out; omega
  go_enter Tryd.func28, Tryd.ntmps28
  go_wp2_with fail
  rw [zeros32]
  have hb0 := below_alloc w (Obj.cells (cb zb32).toArray 23)
  have hRB : Blk (w.alloc (Obj.cells (cb zb32).toArray 23)) w.heap.size (cb zb32) 23 := Blk.new w _ _
  generalize w.alloc (Obj.cells (cb zb32).toArray 23) = w0 at *
  refine (rnumber_any nm.length (by have := HN.out; omega) _).mono ?_
  rintro e w1 ⟨v1, rfl, r1, b1⟩
  obtain ⟨l1, HL1⟩ : ∃ zz, Hid (zz = num8 nm.length) := ⟨_, rfl⟩
  rw [← HL1.out] at r1
  have HS1 : Hid (Below w.heap.size w w1) := hb0.trans (b1.mono hb0.size)
  have HRB1 : Hid (Blk w1 w.heap.size (cb zb32) 23) := hRB.below (b1.mono (Nat.le_refl _)) hRB.lt
  have HW1 := r1
  obtain ⟨a1, c1, rfl, _, _, _⟩ := r1
  clear b1 hb0 hRB
  have hcv := conv_string nm w1
  have r2 := bytesWorld_reads nm w1
  have b2 := bytesWorld_below nm w1
  have HR1 : Hid (Reads (Lib.bytesWorld w1 5 (strB nm)) (.slice a1 l1.length c1) l1) := HW1.below b2
  have HS2 : Hid (Below w.heap.size w (Lib.bytesWorld w1 5 (strB nm))) := HS1.out.trans (b2.mono HS1.out.size)
  have HRB2 : Hid (Blk (Lib.bytesWorld w1 5 (strB nm)) w.heap.size (cb zb32) 23) := HRB1.out.below b2 HRB1.out.lt
  clear HRB1 HS1 b2 HW1
  generalize Lib.bytesWorld w1 5 (strB nm) = w2 at *
  generalize grownCap w1 nm.length 0 5 = c2 at *
  have HR2 : Hid (Reads w2 (.slice (some ⟨w1.heap.size, 0, none⟩) nm.length c2) nm) := r2
  clear r2
  go_wp2_with fail
  refine (rnumber_any sr (by have := HN.out; omega) _).mono ?_
  rintro e w3 ⟨v3, rfl, r3, b3⟩
  obtain ⟨l3, HL3⟩ : ∃ zz, Hid (zz = num8 sr) := ⟨_, rfl⟩
  rw [← HL3.out] at r3
  have s1 := HR1.out.below b3
  have s2 := HR2.out.below b3
  have HS3 : Hid (Below w.heap.size w w3) := HS2.out.trans (b3.mono HS2.out.size)
  have HRB3 : Hid (Blk w3 w.heap.size (cb zb32) 23) := HRB2.out.below b3 HRB2.out.lt
  have s3 := r3
  obtain ⟨a3, c3, rfl, _, _, _⟩ := r3
  have rL := readsL_four s1 s2 s3 (HY.out.below HS3.out)
  have b4 := below_alloc w3 (.cells #[.slice a1 l1.length c1, .slice (some ⟨w1.heap.size, 0, none⟩) nm.length c2, .slice a3 l3.length c3, .slice ak ky.length ck] 24)
  have HS4 : Hid (Below w.heap.size w (w3.alloc (.cells #[.slice a1 l1.length c1, .slice (some ⟨w1.heap.size, 0, none⟩) nm.length c2, .slice a3 l3.length c3, .slice ak ky.length ck] 24))) := HS3.out.trans (b4.mono HS3.out.size)
  have HRB4 : Hid (Blk (w3.alloc (.cells #[.slice a1 l1.length c1, .slice (some ⟨w1.heap.size, 0, none⟩) nm.length c2, .slice a3 l3.length c3, .slice ak ky.length ck] 24)) w.heap.size (cb zb32) 23) := HRB3.out.below b4 HRB3.out.lt
  have HT : Hid (Calls Tryd.prog 35 #[.int .u8 65, .slice (some ⟨w3.heap.size, 0, none⟩) 4 4] (w3.alloc (.cells #[.slice a1 l1.length c1, .slice (some ⟨w1.heap.size, 0, none⟩) nm.length c2, .slice a3 l3.length c3, .slice ak ky.length ck] 24)) fun e w' => ∃ v', e = .returned v' ∧ Reads w' v' ((65 : BitVec 8) :: [l1, nm, l3, ky].flatten) ∧ Below (w3.alloc (.cells #[.slice a1 l1.length c1, .slice (some ⟨w1.heap.size, 0, none⟩) nm.length c2, .slice a3 l3.length c3, .slice ak ky.length ck] 24)).heap.size (w3.alloc (.cells #[.slice a1 l1.length c1, .slice (some ⟨w1.heap.size, 0, none⟩) nm.length c2, .slice a3 l3.length c3, .slice ak ky.length ck] 24)) w') :=
    rsign_any 65 _ _ _ rL (by simp only [fl4, HL1.out, HL3.out, len_num8]; have := HN.out; omega) (by simp)
  clear b3 b4 s1 s2 s3 rL HR1 HR2 HS2 HRB2 HS3 HRB3 hcv
  go_wp2_with fail
  refine HT.out.mono ?_
  rintro e w5 ⟨v5, rfl, r5, b5⟩
  obtain ⟨l5, HL5⟩ : ∃ zz, Hid (zz = (65 : BitVec 8) :: [l1, nm, l3, ky].flatten) := ⟨_, rfl⟩
  rw [← HL5.out] at r5
  have HS5 : Hid (Below w.heap.size w w5) := HS4.out.trans (b5.mono HS4.out.size)
  have HRB5 : Hid (Blk w5 w.heap.size (cb zb32) 23) := HRB4.out.below b5 HRB4.out.lt
  have HLL : Hid (l5 = authB nm sr ky) := by show _ = _; rw [HL5.out]; simp [authB, HL1.out, HL3.out]
  have HLb : Hid (l5.length < 4398046511104) := by show _ < _; simp only [HL5.out, List.length_cons, fl4, HL1.out, HL3.out, len_num8]; have := HN.out; omega
  have s5 := r5
  obtain ⟨a5, c5, rfl, _, _, _⟩ := r5
  clear b5 HS4 HRB4 HT HL5
  have HR5 : Hid (Reads w5 (.slice a5 l5.length c5) l5) := s5
  clear s5
  go_wp2_with fail
  refine (rmac_any _ _ ol l5 _ (HO.out.below HS5.out) HR5.out (by have := HN.out; omega) (by have := HLb.out; omega)).mono ?_
  rintro e w6 ⟨rfl, b6⟩
  have HS6 : Hid (Below w.heap.size w w6) := HS5.out.trans (b6.mono HS5.out.size)
  have HRB6 : Hid (Blk w6 w.heap.size (cb zb32) 23) := HRB5.out.below b6 HRB5.out.lt
  rw [HLL.out]
  clear b6 HR5 HS5 HRB5
  obtain ⟨es, HES⟩ : ∃ zz, Hid (zz = cb (hmac ol (authB nm sr ky))) := ⟨_, rfl⟩
  have HLe : Hid (es.length = 32) := by show _ = _; rw [HES.out, cb_len, len_hmac]
  have HZe : Hid ((Tryd.prog.info? 23).map (·.size) = some es.length) := by show _ = _; rw [HLe.out]; exact Tryd.info23
  have H1e : Hid (∀ v ∈ es, v.oneCell' = true) := by show ∀ _, _; rw [HES.out]; exact cb_one _
  rw [← HES.out]
  go_wp2_with (refine wpList_store_mid rfl 23 _ _ rfl w.heap.size 0 es.toArray rfl rfl (HRB6.out.there 0 _ (by rw [List.size_toArray, HLe.out, cb_len, len_zb32]; omega)) (by simpa using HZe.out) (all_oneCell_toArray H1e.out) ?_)
  have hB := HRB6.out.whole es (by rw [HLe.out, cb_len, len_zb32])
  refine bodyPost_ret (v := .agg es.toArray) (results_cell_row (by rfl) _ _ w.heap.size 23 _ (0, 0) _ rfl hB Tryd.underlying23 rfl (by simpa using HZe.out)) rfl ⟨by rw [HES.out], Below.setCells _ (Nat.le_refl _) _ _ _ HS6.out⟩
end Go.Proofs.YtaleeaocmomjlaaDoor

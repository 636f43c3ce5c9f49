/- The walks of IndexOf, SaltOf and KeyOf, of tags and of blazonref03. -/
import Derived.Test.YtaleeaocmomjlaaDoorTBytes
import Derived.Test.YtaleeaocmomjlaaDoorSmall
import Derived.Test.YtaleeaocmomjlaaDoorMacWalk
namespace Go.Proofs.YtaleeaocmomjlaaDoor
open Go.RowKit
/-- what is hashed, by a key, for where a name stands; for what hides a binding; for a part of a signing key -/
def indexB (nm : List (BitVec 8)) : List (BitVec 8) := 73 :: nm
def saltB (sr : Nat) (nm : List (BitVec 8)) : List (BitVec 8) := 83 :: (num8 sr ++ nm)
def keyB (x : List (BitVec 8)) (n p : Nat) : List (BitVec 8) := 75 :: (x ++ (num8 n ++ num8 p))
theorem zeros32 : (#[Value.int .u8 0, Value.int .u8 0, Value.int .u8 0, Value.int .u8 0, Value.int .u8 0, Value.int .u8 0, Value.int .u8 0, Value.int .u8 0, Value.int .u8 0, Value.int .u8 0, Value.int .u8 0, Value.int .u8 0, Value.int .u8 0, Value.int .u8 0, Value.int .u8 0, Value.int .u8 0, Value.int .u8 0, Value.int .u8 0, Value.int .u8 0, Value.int .u8 0, Value.int .u8 0, Value.int .u8 0, Value.int .u8 0, Value.int .u8 0, Value.int .u8 0, Value.int .u8 0, Value.int .u8 0, Value.int .u8 0, Value.int .u8 0, Value.int .u8 0, Value.int .u8 0, Value.int .u8 0] : Array Value) = (cb zb32).toArray := by kernel_rfl
set_option maxHeartbeats 1000000 in
theorem tIndex_any (x nm : List (BitVec 8)) (w : World) (hK : KOk w) (hn : x.length = 32 ∧ nm.length ≤ 1099511627776) :
    Calls Tryd.prog 21 #[.agg (cb x).toArray, .string (strB nm)] w fun e w' => e = .returned (.agg (cb (hmac x (indexB nm))).toArray) ∧ Below w.heap.size w w' := by
  have HK : Hid (KOk w) := hK
  clear hK
  have HN : Hid (x.length = 32 ∧ nm.length ≤ 1099511627776) := hn
  clear hn
  go_enter Tryd.func21, Tryd.ntmps21
  go_wp2_with fail
  rw [zeros32]
  have hB0 : Below w.heap.size w ((w.alloc (.cells (cb x).toArray 23)).alloc (.cells (cb zb32).toArray 23)) := (below_alloc _ _).trans ((below_alloc _ _).mono (by simp))
  have rx : Reads ((w.alloc (.cells (cb x).toArray 23)).alloc (.cells (cb zb32).toArray 23)) (.slice (some ⟨w.heap.size, 0, none⟩) 32 32) x := ((Blk.new w (cb x) 23).alloc _).reads HN.out.1.symm (by have := HN.out; omega)
  have hRB : Blk ((w.alloc (.cells (cb x).toArray 23)).alloc (.cells (cb zb32).toArray 23)) (w.heap.size + 1) (cb zb32) 23 := Blk.new_at (by simp) _ _
  generalize ((w.alloc (.cells (cb x).toArray 23)).alloc (.cells (cb zb32).toArray 23)) = w0 at *
  refine wp_region_any (by kernel_rfl) ?_
  change wpAny _ _ _ _ _ _ _ (World.drew _)
  replace rx := reads_drew rx
  have hS : Over w0.drew w0.drew := Over.refl _
  have HRB : Hid (Blk w0.drew (w.heap.size + 1) (cb zb32) 23) := hRB.drew
  have HB1 : Hid (Below w.heap.size w w0.drew) := hB0.drew
  clear hB0 hRB
  generalize w0.drew = w1 at *
  refine wpAny_take (i := 0) (v := .slice (some ⟨w.heap.size, 0, none⟩) 32 32) rfl (by kernel_rfl) (by kernel_rfl) (by kernel_rfl) (fun _ _ _ h => h) (Or.inl ⟨by rfl, fun wx => by simp [execOp, Act.eval, slice_dig]⟩) ?_
  simp only [Act.put, List.getElem_toArray, List.getElem_cons_zero, List.setIfInBounds_toArray, List.set_cons_zero, List.set_cons_succ]
  refine wpAny_take (i := 1) (v := .string (strB nm)) rfl (by kernel_rfl) (by kernel_rfl) (by kernel_rfl) (fun _ _ _ h => h) (Or.inl ⟨by rfl, fun wx => by simp [go_sem]⟩) ?_
  simp only [Act.put, List.getElem_toArray, List.getElem_cons_succ, List.getElem_cons_zero, List.setIfInBounds_toArray, List.set_cons_zero, List.set_cons_succ]
  have hbA := bytesWorld_below nm w1
  have r1 := bytesWorld_reads nm w1
  have hS1 : Over w1 (Lib.bytesWorld w1 5 (strB nm)) := hS.more hbA
  refine wpAny_step 2 (.slice (some ⟨w1.heap.size, 0, none⟩) nm.length (grownCap w1 nm.length 0 5)) (Lib.bytesWorld w1 5 (strB nm)) (by kernel_rfl) rfl (by rfl) (by simp [execOp, Act.eval, conv_string]) ?_
  simp only [Act.put, List.getElem_toArray, List.getElem_cons_succ, List.getElem_cons_zero, List.setIfInBounds_toArray, List.set_cons_zero, List.set_cons_succ]
  clear hbA hS
  have hS := hS1
  clear hS1
  generalize (Lib.bytesWorld w1 5 (strB nm)) = w2 at *
  generalize grownCap w1 nm.length 0 5 = cp1 at *
  generalize w1.heap.size = n1 at *
  have hbA := below_alloc w2 (.cells #[.slice (some ⟨n1, 0, none⟩) nm.length cp1] 24)
  have r2 := readsL_one r1
  have hS2 : Over w1 (w2.alloc (.cells #[.slice (some ⟨n1, 0, none⟩) nm.length cp1] 24)) := hS.more hbA
  refine wpAny_step 3 (.slice (some ⟨w2.heap.size, 0, none⟩) 1 1) (w2.alloc (.cells #[.slice (some ⟨n1, 0, none⟩) nm.length cp1] 24)) (by kernel_rfl) rfl (by rfl) (by simp [go_sem]) ?_
  simp only [Act.put, List.getElem_toArray, List.getElem_cons_succ, List.getElem_cons_zero, List.setIfInBounds_toArray, List.set_cons_zero, List.set_cons_succ]
  replace r1 := r1.below hbA
  clear hbA hS
  have hS := hS2
  clear hS2
  generalize (w2.alloc (.cells #[.slice (some ⟨n1, 0, none⟩) nm.length cp1] 24)) = w3 at *
  generalize w2.heap.size = n2 at *
  refine wpAny_enter 4 (by kernel_rfl) rfl (by rfl) (f := 34) (args := #[.int .u8 73, .slice (some ⟨n2, 0, none⟩) 1 1]) (by simp [go_sem]) (tagged_any 73 _ _ _ r2 (by simp only [fl1]; have := HN.out; omega) (by simp)) ?_
  rintro e w4 ⟨v3, rfl, r3, hbA⟩
  have hS3 : Over w1 w4 := hS.more hbA
  refine ⟨_, rfl, ?_⟩
  clear hS
  have hS := hS3
  clear hS3
  obtain ⟨l3, HL3⟩ : ∃ zz, Hid (zz = (73 : BitVec 8) :: [nm].flatten) := ⟨_, rfl⟩
  rw [← HL3.out] at r3
  obtain ⟨ad3, cp3, rfl, _, _, _⟩ := id r3
  simp only [Act.put, List.getElem_toArray, List.getElem_cons_succ, List.getElem_cons_zero, List.setIfInBounds_toArray, List.set_cons_zero, List.set_cons_succ]
  replace r1 := r1.below hbA
  replace r2 := r2.below hbA
  clear hbA
  have hbA := below_alloc w4 (.cells #[.slice ad3 l3.length cp3] 24)
  have r4 := readsL_one r3
  have hS4 : Over w1 (w4.alloc (.cells #[.slice ad3 l3.length cp3] 24)) := hS.more hbA
  refine wpAny_step 5 (.slice (some ⟨w4.heap.size, 0, none⟩) 1 1) (w4.alloc (.cells #[.slice ad3 l3.length cp3] 24)) (by kernel_rfl) rfl (by rfl) (by simp [go_sem]) ?_
  simp only [Act.put, List.getElem_toArray, List.getElem_cons_succ, List.getElem_cons_zero, List.setIfInBounds_toArray, List.set_cons_zero, List.set_cons_succ]
  replace r1 := r1.below hbA
  replace r2 := r2.below hbA
  replace r3 := r3.below hbA
  clear hbA hS
  have hS := hS4
  clear hS4
  generalize (w4.alloc (.cells #[.slice ad3 l3.length cp3] 24)) = w5 at *
  generalize w4.heap.size = n4 at *
  refine wpAny_enter 6 (by kernel_rfl) rfl (by rfl) (f := 39) (args := #[.slice (some ⟨w.heap.size, 0, none⟩) 32 32, .slice (some ⟨n4, 0, none⟩) 1 1]) (by simp [go_sem]) (mac_any _ _ x [l3] _ (HK.out.below (hS.after HB1.out) HK.out.lt) (rx.below hS) r4 (by have := HN.out; omega) (by simp only [HL3.out, List.length_cons, fl1]; have := HN.out; omega) (by simp)) ?_
  rintro e w6 ⟨rfl, hbA⟩
  have hS5 : Over w1 w6 := hS.more hbA
  refine ⟨_, rfl, ?_⟩
  clear hS
  have hS := hS5
  clear hS5
  simp only [Act.put, List.getElem_toArray, List.getElem_cons_succ, List.getElem_cons_zero, List.setIfInBounds_toArray, List.set_cons_zero, List.set_cons_succ]
  replace r1 := r1.below hbA
  replace r2 := r2.below hbA
  replace r3 := r3.below hbA
  replace r4 := r4.below hbA
  clear hbA
  have E : Hid (hmac x ([l3].flatten) = hmac x (indexB nm)) := by show _ = _; simp [indexB, HL3.out]
  obtain ⟨es, HES⟩ : ∃ zz, Hid (zz = cb (hmac x ([l3].flatten))) := ⟨_, rfl⟩
  have HLe : Hid (es.length = 32) := by show _ = _; rw [HES.out, cb_len, len_hmac]
  have HZe : Hid ((Tryd.prog.info? 23).map (·.size) = some es.length) := by show _ = _; rw [HLe.out]; exact Tryd.info23
  have H1e : Hid (∀ v ∈ es, v.oneCell' = true) := by show ∀ _, _; rw [HES.out]; exact cb_one _
  have HR9 : Hid (Blk w6 (w.heap.size + 1) (cb zb32) 23) := HRB.out.below hS.out HRB.out.lt
  have HS9 : Hid (Below w.heap.size w w6) := hS.after HB1.out
  clear hS r1 r2 r3 r4
  rw [← HES.out]
  refine wpAny_store 7 23 _ _ (by kernel_rfl) rfl (by rfl) rfl (w.heap.size + 1) 0 es.toArray rfl rfl (HR9.out.there 0 _ (by rw [List.size_toArray, HLe.out, cb_len, len_zb32]; omega)) (by simpa using HZe.out) (all_oneCell_toArray H1e.out) ?_
  refine wpAny_done (by kernel_rfl) ?_ _
  have hB := HR9.out.whole es (by rw [HLe.out, cb_len, len_zb32])
  have hBe := Below.setCells (w.heap.size + 1) (by omega) es 0 _ HS9.out
  generalize World.setCells _ _ _ _ = w10 at *
  go_wp2
  refine bodyPost_ret (v := .agg es.toArray) (results_cell_row (by rfl) _ _ (w.heap.size + 1) 23 _ (0, 0) _ rfl hB Tryd.underlying23 rfl (by simpa using HZe.out)) rfl ⟨by rw [HES.out, E.out], hBe⟩
set_option maxHeartbeats 1000000 in
theorem rIndex_any (x nm : List (BitVec 8)) (w : World) (hn : x.length = 32 ∧ nm.length ≤ 1099511627776) :
    Calls Tryd.prog 22 #[.agg (cb x).toArray, .string (strB nm)] w fun e w' => e = .returned (.agg (cb (hmac x (indexB nm))).toArray) ∧ Below w.heap.size w w' := by
  have HN : Hid (x.length = 32 ∧ nm.length ≤ 1099511627776) := hn
  clear hn
  go_enter Tryd.func22, Tryd.ntmps22
  go_wp2_with fail
  rw [zeros32]
  have hB0 : Below w.heap.size w ((w.alloc (.cells (cb x).toArray 23)).alloc (.cells (cb zb32).toArray 23)) := (below_alloc _ _).trans ((below_alloc _ _).mono (by simp))
  have rx : Reads ((w.alloc (.cells (cb x).toArray 23)).alloc (.cells (cb zb32).toArray 23)) (.slice (some ⟨w.heap.size, 0, none⟩) 32 32) x := ((Blk.new w (cb x) 23).alloc _).reads HN.out.1.symm (by have := HN.out; omega)
  have hRB : Blk ((w.alloc (.cells (cb x).toArray 23)).alloc (.cells (cb zb32).toArray 23)) (w.heap.size + 1) (cb zb32) 23 := Blk.new_at (by simp) _ _
  generalize ((w.alloc (.cells (cb x).toArray 23)).alloc (.cells (cb zb32).toArray 23)) = w0 at *
  refine wp_region_any (by kernel_rfl) ?_
  change wpAny _ _ _ _ _ _ _ (World.drew _)
  replace rx := reads_drew rx
  have hS : Over w0.drew w0.drew := Over.refl _
  have HRB : Hid (Blk w0.drew (w.heap.size + 1) (cb zb32) 23) := hRB.drew
  have HB1 : Hid (Below w.heap.size w w0.drew) := hB0.drew
  clear hB0 hRB
  generalize w0.drew = w1 at *
  refine wpAny_take (i := 0) (v := .slice (some ⟨w.heap.size, 0, none⟩) 32 32) rfl (by kernel_rfl) (by kernel_rfl) (by kernel_rfl) (fun _ _ _ h => h) (Or.inl ⟨by rfl, fun wx => by simp [execOp, Act.eval, slice_dig]⟩) ?_
  simp only [Act.put, List.getElem_toArray, List.getElem_cons_zero, List.setIfInBounds_toArray, List.set_cons_zero, List.set_cons_succ]
  refine wpAny_take (i := 1) (v := .string (strB nm)) rfl (by kernel_rfl) (by kernel_rfl) (by kernel_rfl) (fun _ _ _ h => h) (Or.inl ⟨by rfl, fun wx => by simp [go_sem]⟩) ?_
  simp only [Act.put, List.getElem_toArray, List.getElem_cons_succ, List.getElem_cons_zero, List.setIfInBounds_toArray, List.set_cons_zero, List.set_cons_succ]
  have hbA := bytesWorld_below nm w1
  have r1 := bytesWorld_reads nm w1
  have hS1 : Over w1 (Lib.bytesWorld w1 5 (strB nm)) := hS.more hbA
  refine wpAny_step 2 (.slice (some ⟨w1.heap.size, 0, none⟩) nm.length (grownCap w1 nm.length 0 5)) (Lib.bytesWorld w1 5 (strB nm)) (by kernel_rfl) rfl (by rfl) (by simp [execOp, Act.eval, conv_string]) ?_
  simp only [Act.put, List.getElem_toArray, List.getElem_cons_succ, List.getElem_cons_zero, List.setIfInBounds_toArray, List.set_cons_zero, List.set_cons_succ]
  clear hbA hS
  have hS := hS1
  clear hS1
  generalize (Lib.bytesWorld w1 5 (strB nm)) = w2 at *
  generalize grownCap w1 nm.length 0 5 = cp1 at *
  generalize w1.heap.size = n1 at *
  have hbA := below_alloc w2 (.cells #[.slice (some ⟨n1, 0, none⟩) nm.length cp1] 24)
  have r2 := readsL_one r1
  have hS2 : Over w1 (w2.alloc (.cells #[.slice (some ⟨n1, 0, none⟩) nm.length cp1] 24)) := hS.more hbA
  refine wpAny_step 3 (.slice (some ⟨w2.heap.size, 0, none⟩) 1 1) (w2.alloc (.cells #[.slice (some ⟨n1, 0, none⟩) nm.length cp1] 24)) (by kernel_rfl) rfl (by rfl) (by simp [go_sem]) ?_
  simp only [Act.put, List.getElem_toArray, List.getElem_cons_succ, List.getElem_cons_zero, List.setIfInBounds_toArray, List.set_cons_zero, List.set_cons_succ]
  replace r1 := r1.below hbA
  clear hbA hS
  have hS := hS2
  clear hS2
  generalize (w2.alloc (.cells #[.slice (some ⟨n1, 0, none⟩) nm.length cp1] 24)) = w3 at *
  generalize w2.heap.size = n2 at *
  refine wpAny_enter 4 (by kernel_rfl) rfl (by rfl) (f := 35) (args := #[.int .u8 73, .slice (some ⟨n2, 0, none⟩) 1 1]) (by simp [go_sem]) (rsign_any 73 _ _ _ r2 (by simp only [fl1]; have := HN.out; omega) (by simp)) ?_
  rintro e w4 ⟨v3, rfl, r3, hbA⟩
  have hS3 : Over w1 w4 := hS.more hbA
  refine ⟨_, rfl, ?_⟩
  clear hS
  have hS := hS3
  clear hS3
  obtain ⟨l3, HL3⟩ : ∃ zz, Hid (zz = (73 : BitVec 8) :: [nm].flatten) := ⟨_, rfl⟩
  rw [← HL3.out] at r3
  obtain ⟨ad3, cp3, rfl, _, _, _⟩ := id r3
  simp only [Act.put, List.getElem_toArray, List.getElem_cons_succ, List.getElem_cons_zero, List.setIfInBounds_toArray, List.set_cons_zero, List.set_cons_succ]
  replace r1 := r1.below hbA
  replace r2 := r2.below hbA
  clear hbA
  refine wpAny_enter 5 (by kernel_rfl) rfl (by rfl) (f := 40) (args := #[.slice (some ⟨w.heap.size, 0, none⟩) 32 32, .slice ad3 l3.length cp3]) (by simp [go_sem]) (rmac_any _ _ x l3 _ (rx.below hS) r3 (by have := HN.out; omega) (by simp only [HL3.out, List.length_cons, fl1]; have := HN.out; omega)) ?_
  rintro e w5 ⟨rfl, hbA⟩
  have hS4 : Over w1 w5 := hS.more hbA
  refine ⟨_, rfl, ?_⟩
  clear hS
  have hS := hS4
  clear hS4
  simp only [Act.put, List.getElem_toArray, List.getElem_cons_succ, List.getElem_cons_zero, List.setIfInBounds_toArray, List.set_cons_zero, List.set_cons_succ]
  replace r1 := r1.below hbA
  replace r2 := r2.below hbA
  replace r3 := r3.below hbA
  clear hbA
  have E : Hid (hmac x l3 = hmac x (indexB nm)) := by show _ = _; simp [indexB, HL3.out]
  obtain ⟨es, HES⟩ : ∃ zz, Hid (zz = cb (hmac x l3)) := ⟨_, rfl⟩
  have HLe : Hid (es.length = 32) := by show _ = _; rw [HES.out, cb_len, len_hmac]
  have HZe : Hid ((Tryd.prog.info? 23).map (·.size) = some es.length) := by show _ = _; rw [HLe.out]; exact Tryd.info23
  have H1e : Hid (∀ v ∈ es, v.oneCell' = true) := by show ∀ _, _; rw [HES.out]; exact cb_one _
  have HR9 : Hid (Blk w5 (w.heap.size + 1) (cb zb32) 23) := HRB.out.below hS.out HRB.out.lt
  have HS9 : Hid (Below w.heap.size w w5) := hS.after HB1.out
  clear hS r1 r2 r3
  rw [← HES.out]
  refine wpAny_store 6 23 _ _ (by kernel_rfl) rfl (by rfl) rfl (w.heap.size + 1) 0 es.toArray rfl rfl (HR9.out.there 0 _ (by rw [List.size_toArray, HLe.out, cb_len, len_zb32]; omega)) (by simpa using HZe.out) (all_oneCell_toArray H1e.out) ?_
  refine wpAny_done (by kernel_rfl) ?_ _
  have hB := HR9.out.whole es (by rw [HLe.out, cb_len, len_zb32])
  have hBe := Below.setCells (w.heap.size + 1) (by omega) es 0 _ HS9.out
  generalize World.setCells _ _ _ _ = w10 at *
  go_wp2
  refine bodyPost_ret (v := .agg es.toArray) (results_cell_row (by rfl) _ _ (w.heap.size + 1) 23 _ (0, 0) _ rfl hB Tryd.underlying23 rfl (by simpa using HZe.out)) rfl ⟨by rw [HES.out, E.out], hBe⟩
set_option maxHeartbeats 1000000 in
theorem tSalt_any (x nm : List (BitVec 8)) (sr : Nat) (w : World) (hK : KOk w) (hn : x.length = 32 ∧ nm.length ≤ 1099511627776 ∧ sr < 18446744073709551616) :
    Calls Tryd.prog 23 #[.agg (cb x).toArray, .string (strB nm), .int .u64 (sr : Int)] w fun e w' => e = .returned (.agg (cb (hmac x (saltB sr nm))).toArray) ∧ Below w.heap.size w w' := by
  have HK : Hid (KOk w) := hK
  clear hK
  have HN : Hid (x.length = 32 ∧ nm.length ≤ 1099511627776 ∧ sr < 18446744073709551616) := hn
  clear hn
  go_enter Tryd.func23, Tryd.ntmps23
  go_wp2_with fail
  rw [zeros32]
  have hB0 : Below w.heap.size w ((w.alloc (.cells (cb x).toArray 23)).alloc (.cells (cb zb32).toArray 23)) := (below_alloc _ _).trans ((below_alloc _ _).mono (by simp))
  have rx : Reads ((w.alloc (.cells (cb x).toArray 23)).alloc (.cells (cb zb32).toArray 23)) (.slice (some ⟨w.heap.size, 0, none⟩) 32 32) x := ((Blk.new w (cb x) 23).alloc _).reads HN.out.1.symm (by have := HN.out; omega)
  have hRB : Blk ((w.alloc (.cells (cb x).toArray 23)).alloc (.cells (cb zb32).toArray 23)) (w.heap.size + 1) (cb zb32) 23 := Blk.new_at (by simp) _ _
  generalize ((w.alloc (.cells (cb x).toArray 23)).alloc (.cells (cb zb32).toArray 23)) = w0 at *
  refine wp_region_any (by kernel_rfl) ?_
  change wpAny _ _ _ _ _ _ _ (World.drew _)
  replace rx := reads_drew rx
  have hS : Over w0.drew w0.drew := Over.refl _
  have HRB : Hid (Blk w0.drew (w.heap.size + 1) (cb zb32) 23) := hRB.drew
  have HB1 : Hid (Below w.heap.size w w0.drew) := hB0.drew
  clear hB0 hRB
  generalize w0.drew = w1 at *
  refine wpAny_take (i := 0) (v := .slice (some ⟨w.heap.size, 0, none⟩) 32 32) rfl (by kernel_rfl) (by kernel_rfl) (by kernel_rfl) (fun _ _ _ h => h) (Or.inl ⟨by rfl, fun wx => by simp [execOp, Act.eval, slice_dig]⟩) ?_
  simp only [Act.put, List.getElem_toArray, List.getElem_cons_zero, List.setIfInBounds_toArray, List.set_cons_zero, List.set_cons_succ]
  refine wpAny_take (i := 1) (v := .int .u64 (sr : Int)) rfl (by kernel_rfl) (by kernel_rfl) (by kernel_rfl) (fun _ _ _ h => h) (Or.inl ⟨by rfl, fun wx => by simp [go_sem]⟩) ?_
  simp only [Act.put, List.getElem_toArray, List.getElem_cons_succ, List.getElem_cons_zero, List.setIfInBounds_toArray, List.set_cons_zero, List.set_cons_succ]
  refine wpAny_take (i := 3) (v := .string (strB nm)) rfl (by kernel_rfl) (by kernel_rfl) (by kernel_rfl) (fun _ _ _ h => h) (Or.inl ⟨by rfl, fun wx => by simp [go_sem]⟩) ?_
  simp only [Act.put, List.getElem_toArray, List.getElem_cons_succ, List.getElem_cons_zero, List.setIfInBounds_toArray, List.set_cons_zero, List.set_cons_succ]
  refine wpAny_pair 2 4 (by kernel_rfl) (wpOp_en 2 rfl (by rfl) (f := 37) (args := #[.int .u64 (sr : Int)]) (by simp [go_sem]) (number_any sr _) ?_) (wpOp_vl 4 (.slice (some ⟨w1.heap.size, 0, none⟩) nm.length (grownCap w1 nm.length 0 5)) (Lib.bytesWorld w1 5 (strB nm)) rfl (by rfl) (by simp [execOp, Act.eval, conv_string]) ?_)
  · skip
    rintro e w2 ⟨v1, rfl, r1, hbA⟩
    have hS1 : Over w1 w2 := hS.more hbA
    refine ⟨_, rfl, ?_⟩
    clear hS
    have hS := hS1
    clear hS1
    obtain ⟨l1, HL1⟩ : ∃ zz, Hid (zz = num8 sr) := ⟨_, rfl⟩
    rw [← HL1.out] at r1
    obtain ⟨ad1, cp1, rfl, _, _, _⟩ := id r1
    simp only [Act.put, List.getElem_toArray, List.getElem_cons_succ, List.getElem_cons_zero, List.setIfInBounds_toArray, List.set_cons_zero, List.set_cons_succ]
    clear hbA
    have hbA := bytesWorld_below nm w2
    have r2 := bytesWorld_reads nm w2
    have hS2 : Over w1 (Lib.bytesWorld w2 5 (strB nm)) := hS.more hbA
    refine wpAny_step 4 (.slice (some ⟨w2.heap.size, 0, none⟩) nm.length (grownCap w2 nm.length 0 5)) (Lib.bytesWorld w2 5 (strB nm)) (by kernel_rfl) rfl (by rfl) (by simp [execOp, Act.eval, conv_string]) ?_
    simp only [Act.put, List.getElem_toArray, List.getElem_cons_succ, List.getElem_cons_zero, List.setIfInBounds_toArray, List.set_cons_zero, List.set_cons_succ]
    replace r1 := r1.below hbA
    clear hbA hS
    have hS := hS2
    clear hS2
    generalize (Lib.bytesWorld w2 5 (strB nm)) = w3 at *
    generalize grownCap w2 nm.length 0 5 = cp2 at *
    generalize w2.heap.size = n2 at *
    have hbA := below_alloc w3 (.cells #[.slice ad1 l1.length cp1, .slice (some ⟨n2, 0, none⟩) nm.length cp2] 24)
    have r3 := readsL_two r1 r2
    have hS3 : Over w1 (w3.alloc (.cells #[.slice ad1 l1.length cp1, .slice (some ⟨n2, 0, none⟩) nm.length cp2] 24)) := hS.more hbA
    refine wpAny_step 5 (.slice (some ⟨w3.heap.size, 0, none⟩) 2 2) (w3.alloc (.cells #[.slice ad1 l1.length cp1, .slice (some ⟨n2, 0, none⟩) nm.length cp2] 24)) (by kernel_rfl) rfl (by rfl) (by simp [go_sem]) ?_
    simp only [Act.put, List.getElem_toArray, List.getElem_cons_succ, List.getElem_cons_zero, List.setIfInBounds_toArray, List.set_cons_zero, List.set_cons_succ]
    replace r1 := r1.below hbA
    replace r2 := r2.below hbA
    clear hbA hS
    have hS := hS3
    clear hS3
    generalize (w3.alloc (.cells #[.slice ad1 l1.length cp1, .slice (some ⟨n2, 0, none⟩) nm.length cp2] 24)) = w4 at *
    generalize w3.heap.size = n3 at *
    refine wpAny_enter 6 (by kernel_rfl) rfl (by rfl) (f := 34) (args := #[.int .u8 83, .slice (some ⟨n3, 0, none⟩) 2 2]) (by simp [go_sem]) (tagged_any 83 _ _ _ r3 (by simp only [fl2, HL1.out, len_num8]; have := HN.out; omega) (by simp)) ?_
    rintro e w5 ⟨v4, rfl, r4, hbA⟩
    have hS4 : Over w1 w5 := hS.more hbA
    refine ⟨_, rfl, ?_⟩
    clear hS
    have hS := hS4
    clear hS4
    obtain ⟨l4, HL4⟩ : ∃ zz, Hid (zz = (83 : BitVec 8) :: [l1, nm].flatten) := ⟨_, rfl⟩
    rw [← HL4.out] at r4
    obtain ⟨ad4, cp4, rfl, _, _, _⟩ := id r4
    simp only [Act.put, List.getElem_toArray, List.getElem_cons_succ, List.getElem_cons_zero, List.setIfInBounds_toArray, List.set_cons_zero, List.set_cons_succ]
    replace r1 := r1.below hbA
    replace r2 := r2.below hbA
    replace r3 := r3.below hbA
    clear hbA
    have hbA := below_alloc w5 (.cells #[.slice ad4 l4.length cp4] 24)
    have r5 := readsL_one r4
    have hS5 : Over w1 (w5.alloc (.cells #[.slice ad4 l4.length cp4] 24)) := hS.more hbA
    refine wpAny_step 7 (.slice (some ⟨w5.heap.size, 0, none⟩) 1 1) (w5.alloc (.cells #[.slice ad4 l4.length cp4] 24)) (by kernel_rfl) rfl (by rfl) (by simp [go_sem]) ?_
    simp only [Act.put, List.getElem_toArray, List.getElem_cons_succ, List.getElem_cons_zero, List.setIfInBounds_toArray, List.set_cons_zero, List.set_cons_succ]
    replace r1 := r1.below hbA
    replace r2 := r2.below hbA
    replace r3 := r3.below hbA
    replace r4 := r4.below hbA
    clear hbA hS
    have hS := hS5
    clear hS5
    generalize (w5.alloc (.cells #[.slice ad4 l4.length cp4] 24)) = w6 at *
    generalize w5.heap.size = n5 at *
    refine wpAny_enter 8 (by kernel_rfl) rfl (by rfl) (f := 39) (args := #[.slice (some ⟨w.heap.size, 0, none⟩) 32 32, .slice (some ⟨n5, 0, none⟩) 1 1]) (by simp [go_sem]) (mac_any _ _ x [l4] _ (HK.out.below (hS.after HB1.out) HK.out.lt) (rx.below hS) r5 (by have := HN.out; omega) (by simp only [fl1, HL4.out, List.length_cons, fl2, HL1.out, len_num8]; have := HN.out; omega) (by simp)) ?_
    rintro e w7 ⟨rfl, hbA⟩
    have hS6 : Over w1 w7 := hS.more hbA
    refine ⟨_, rfl, ?_⟩
    clear hS
    have hS := hS6
    clear hS6
    simp only [Act.put, List.getElem_toArray, List.getElem_cons_succ, List.getElem_cons_zero, List.setIfInBounds_toArray, List.set_cons_zero, List.set_cons_succ]
    replace r1 := r1.below hbA
    replace r2 := r2.below hbA
    replace r3 := r3.below hbA
    replace r4 := r4.below hbA
    replace r5 := r5.below hbA
    clear hbA
    have E : Hid (hmac x ([l4].flatten) = hmac x (saltB sr nm)) := by show _ = _; simp [saltB, HL4.out, HL1.out]
    obtain ⟨es, HES⟩ : ∃ zz, Hid (zz = cb (hmac x ([l4].flatten))) := ⟨_, rfl⟩
    have HLe : Hid (es.length = 32) := by show _ = _; rw [HES.out, cb_len, len_hmac]
    have HZe : Hid ((Tryd.prog.info? 23).map (·.size) = some es.length) := by show _ = _; rw [HLe.out]; exact Tryd.info23
    have H1e : Hid (∀ v ∈ es, v.oneCell' = true) := by show ∀ _, _; rw [HES.out]; exact cb_one _
    have HR9 : Hid (Blk w7 (w.heap.size + 1) (cb zb32) 23) := HRB.out.below hS.out HRB.out.lt
    have HS9 : Hid (Below w.heap.size w w7) := hS.after HB1.out
    clear hS r1 r2 r3 r4 r5
    rw [← HES.out]
    refine wpAny_store 9 23 _ _ (by kernel_rfl) rfl (by rfl) rfl (w.heap.size + 1) 0 es.toArray rfl rfl (HR9.out.there 0 _ (by rw [List.size_toArray, HLe.out, cb_len, len_zb32]; omega)) (by simpa using HZe.out) (all_oneCell_toArray H1e.out) ?_
    refine wpAny_done (by kernel_rfl) ?_ _
    have hB := HR9.out.whole es (by rw [HLe.out, cb_len, len_zb32])
    have hBe := Below.setCells (w.heap.size + 1) (by omega) es 0 _ HS9.out
    generalize World.setCells _ _ _ _ = w10 at *
    go_wp2
    refine bodyPost_ret (v := .agg es.toArray) (results_cell_row (by rfl) _ _ (w.heap.size + 1) 23 _ (0, 0) _ rfl hB Tryd.underlying23 rfl (by simpa using HZe.out)) rfl ⟨by rw [HES.out, E.out], hBe⟩
  · skip
    have hbA := bytesWorld_below nm w1
    have r7 := bytesWorld_reads nm w1
    have hS7 : Over w1 (Lib.bytesWorld w1 5 (strB nm)) := hS.more hbA
    simp only [Act.put, List.getElem_toArray, List.getElem_cons_succ, List.getElem_cons_zero, List.setIfInBounds_toArray, List.set_cons_zero, List.set_cons_succ]
    clear hbA hS
    have hS := hS7
    clear hS7
    generalize (Lib.bytesWorld w1 5 (strB nm)) = w8 at *
    generalize grownCap w1 nm.length 0 5 = cp7 at *
    generalize w1.heap.size = n7 at *
    refine wpAny_enter 2 (by kernel_rfl) rfl (by rfl) (f := 37) (args := #[.int .u64 (sr : Int)]) (by simp [go_sem]) (number_any sr _) ?_
    rintro e w9 ⟨v8, rfl, r8, hbA⟩
    have hS8 : Over w1 w9 := hS.more hbA
    refine ⟨_, rfl, ?_⟩
    clear hS
    have hS := hS8
    clear hS8
    obtain ⟨l8, HL8⟩ : ∃ zz, Hid (zz = num8 sr) := ⟨_, rfl⟩
    rw [← HL8.out] at r8
    obtain ⟨ad8, cp8, rfl, _, _, _⟩ := id r8
    simp only [Act.put, List.getElem_toArray, List.getElem_cons_succ, List.getElem_cons_zero, List.setIfInBounds_toArray, List.set_cons_zero, List.set_cons_succ]
    replace r7 := r7.below hbA
    clear hbA
    have hbA := below_alloc w9 (.cells #[.slice ad8 l8.length cp8, .slice (some ⟨n7, 0, none⟩) nm.length cp7] 24)
    have r9 := readsL_two r8 r7
    have hS9 : Over w1 (w9.alloc (.cells #[.slice ad8 l8.length cp8, .slice (some ⟨n7, 0, none⟩) nm.length cp7] 24)) := hS.more hbA
    refine wpAny_step 5 (.slice (some ⟨w9.heap.size, 0, none⟩) 2 2) (w9.alloc (.cells #[.slice ad8 l8.length cp8, .slice (some ⟨n7, 0, none⟩) nm.length cp7] 24)) (by kernel_rfl) rfl (by rfl) (by simp [go_sem]) ?_
    simp only [Act.put, List.getElem_toArray, List.getElem_cons_succ, List.getElem_cons_zero, List.setIfInBounds_toArray, List.set_cons_zero, List.set_cons_succ]
    replace r7 := r7.below hbA
    replace r8 := r8.below hbA
    clear hbA hS
    have hS := hS9
    clear hS9
    generalize (w9.alloc (.cells #[.slice ad8 l8.length cp8, .slice (some ⟨n7, 0, none⟩) nm.length cp7] 24)) = w10 at *
    generalize w9.heap.size = n9 at *
    refine wpAny_enter 6 (by kernel_rfl) rfl (by rfl) (f := 34) (args := #[.int .u8 83, .slice (some ⟨n9, 0, none⟩) 2 2]) (by simp [go_sem]) (tagged_any 83 _ _ _ r9 (by simp only [fl2, HL8.out, len_num8]; have := HN.out; omega) (by simp)) ?_
    rintro e w11 ⟨v10, rfl, r10, hbA⟩
    have hS10 : Over w1 w11 := hS.more hbA
    refine ⟨_, rfl, ?_⟩
    clear hS
    have hS := hS10
    clear hS10
    obtain ⟨l10, HL10⟩ : ∃ zz, Hid (zz = (83 : BitVec 8) :: [l8, nm].flatten) := ⟨_, rfl⟩
    rw [← HL10.out] at r10
    obtain ⟨ad10, cp10, rfl, _, _, _⟩ := id r10
    simp only [Act.put, List.getElem_toArray, List.getElem_cons_succ, List.getElem_cons_zero, List.setIfInBounds_toArray, List.set_cons_zero, List.set_cons_succ]
    replace r7 := r7.below hbA
    replace r8 := r8.below hbA
    replace r9 := r9.below hbA
    clear hbA
    have hbA := below_alloc w11 (.cells #[.slice ad10 l10.length cp10] 24)
    have r11 := readsL_one r10
    have hS11 : Over w1 (w11.alloc (.cells #[.slice ad10 l10.length cp10] 24)) := hS.more hbA
    refine wpAny_step 7 (.slice (some ⟨w11.heap.size, 0, none⟩) 1 1) (w11.alloc (.cells #[.slice ad10 l10.length cp10] 24)) (by kernel_rfl) rfl (by rfl) (by simp [go_sem]) ?_
    simp only [Act.put, List.getElem_toArray, List.getElem_cons_succ, List.getElem_cons_zero, List.setIfInBounds_toArray, List.set_cons_zero, List.set_cons_succ]
    replace r7 := r7.below hbA
    replace r8 := r8.below hbA
    replace r9 := r9.below hbA
    replace r10 := r10.below hbA
    clear hbA hS
    have hS := hS11
    clear hS11
    generalize (w11.alloc (.cells #[.slice ad10 l10.length cp10] 24)) = w12 at *
    generalize w11.heap.size = n11 at *
    refine wpAny_enter 8 (by kernel_rfl) rfl (by rfl) (f := 39) (args := #[.slice (some ⟨w.heap.size, 0, none⟩) 32 32, .slice (some ⟨n11, 0, none⟩) 1 1]) (by simp [go_sem]) (mac_any _ _ x [l10] _ (HK.out.below (hS.after HB1.out) HK.out.lt) (rx.below hS) r11 (by have := HN.out; omega) (by simp only [fl1, HL10.out, List.length_cons, fl2, HL8.out, len_num8]; have := HN.out; omega) (by simp)) ?_
    rintro e w13 ⟨rfl, hbA⟩
    have hS12 : Over w1 w13 := hS.more hbA
    refine ⟨_, rfl, ?_⟩
    clear hS
    have hS := hS12
    clear hS12
    simp only [Act.put, List.getElem_toArray, List.getElem_cons_succ, List.getElem_cons_zero, List.setIfInBounds_toArray, List.set_cons_zero, List.set_cons_succ]
    replace r7 := r7.below hbA
    replace r8 := r8.below hbA
    replace r9 := r9.below hbA
    replace r10 := r10.below hbA
    replace r11 := r11.below hbA
    clear hbA
    have E : Hid (hmac x ([l10].flatten) = hmac x (saltB sr nm)) := by show _ = _; simp [saltB, HL10.out, HL8.out]
    obtain ⟨es, HES⟩ : ∃ zz, Hid (zz = cb (hmac x ([l10].flatten))) := ⟨_, rfl⟩
    have HLe : Hid (es.length = 32) := by show _ = _; rw [HES.out, cb_len, len_hmac]
    have HZe : Hid ((Tryd.prog.info? 23).map (·.size) = some es.length) := by show _ = _; rw [HLe.out]; exact Tryd.info23
    have H1e : Hid (∀ v ∈ es, v.oneCell' = true) := by show ∀ _, _; rw [HES.out]; exact cb_one _
    have HR9 : Hid (Blk w13 (w.heap.size + 1) (cb zb32) 23) := HRB.out.below hS.out HRB.out.lt
    have HS9 : Hid (Below w.heap.size w w13) := hS.after HB1.out
    clear hS r7 r8 r9 r10 r11
    rw [← HES.out]
    refine wpAny_store 9 23 _ _ (by kernel_rfl) rfl (by rfl) rfl (w.heap.size + 1) 0 es.toArray rfl rfl (HR9.out.there 0 _ (by rw [List.size_toArray, HLe.out, cb_len, len_zb32]; omega)) (by simpa using HZe.out) (all_oneCell_toArray H1e.out) ?_
    refine wpAny_done (by kernel_rfl) ?_ _
    have hB := HR9.out.whole es (by rw [HLe.out, cb_len, len_zb32])
    have hBe := Below.setCells (w.heap.size + 1) (by omega) es 0 _ HS9.out
    generalize World.setCells _ _ _ _ = w10 at *
    go_wp2
    refine bodyPost_ret (v := .agg es.toArray) (results_cell_row (by rfl) _ _ (w.heap.size + 1) 23 _ (0, 0) _ rfl hB Tryd.underlying23 rfl (by simpa using HZe.out)) rfl ⟨by rw [HES.out, E.out], hBe⟩
set_option maxHeartbeats 1000000 in
theorem rSalt_any (x nm : List (BitVec 8)) (sr : Nat) (w : World) (hn : x.length = 32 ∧ nm.length ≤ 1099511627776 ∧ sr < 18446744073709551616) :
    Calls Tryd.prog 24 #[.agg (cb x).toArray, .string (strB nm), .int .u64 (sr : Int)] w fun e w' => e = .returned (.agg (cb (hmac x (saltB sr nm))).toArray) ∧ Below w.heap.size w w' := by
  have HN : Hid (x.length = 32 ∧ nm.length ≤ 1099511627776 ∧ sr < 18446744073709551616) := hn
  clear hn
  go_enter Tryd.func24, Tryd.ntmps24
  go_wp2_with fail
  rw [zeros32]
  have hB0 : Below w.heap.size w ((w.alloc (.cells (cb x).toArray 23)).alloc (.cells (cb zb32).toArray 23)) := (below_alloc _ _).trans ((below_alloc _ _).mono (by simp))
  have rx : Reads ((w.alloc (.cells (cb x).toArray 23)).alloc (.cells (cb zb32).toArray 23)) (.slice (some ⟨w.heap.size, 0, none⟩) 32 32) x := ((Blk.new w (cb x) 23).alloc _).reads HN.out.1.symm (by have := HN.out; omega)
  have hRB : Blk ((w.alloc (.cells (cb x).toArray 23)).alloc (.cells (cb zb32).toArray 23)) (w.heap.size + 1) (cb zb32) 23 := Blk.new_at (by simp) _ _
  generalize ((w.alloc (.cells (cb x).toArray 23)).alloc (.cells (cb zb32).toArray 23)) = w0 at *
  refine wp_region_any (by kernel_rfl) ?_
  change wpAny _ _ _ _ _ _ _ (World.drew _)
  replace rx := reads_drew rx
  have hS : Over w0.drew w0.drew := Over.refl _
  have HRB : Hid (Blk w0.drew (w.heap.size + 1) (cb zb32) 23) := hRB.drew
  have HB1 : Hid (Below w.heap.size w w0.drew) := hB0.drew
  clear hB0 hRB
  generalize w0.drew = w1 at *
  refine wpAny_take (i := 0) (v := .slice (some ⟨w.heap.size, 0, none⟩) 32 32) rfl (by kernel_rfl) (by kernel_rfl) (by kernel_rfl) (fun _ _ _ h => h) (Or.inl ⟨by rfl, fun wx => by simp [execOp, Act.eval, slice_dig]⟩) ?_
  simp only [Act.put, List.getElem_toArray, List.getElem_cons_zero, List.setIfInBounds_toArray, List.set_cons_zero, List.set_cons_succ]
  refine wpAny_take (i := 1) (v := .int .u64 (sr : Int)) rfl (by kernel_rfl) (by kernel_rfl) (by kernel_rfl) (fun _ _ _ h => h) (Or.inl ⟨by rfl, fun wx => by simp [go_sem]⟩) ?_
  simp only [Act.put, List.getElem_toArray, List.getElem_cons_succ, List.getElem_cons_zero, List.setIfInBounds_toArray, List.set_cons_zero, List.set_cons_succ]
  refine wpAny_take (i := 3) (v := .string (strB nm)) rfl (by kernel_rfl) (by kernel_rfl) (by kernel_rfl) (fun _ _ _ h => h) (Or.inl ⟨by rfl, fun wx => by simp [go_sem]⟩) ?_
  simp only [Act.put, List.getElem_toArray, List.getElem_cons_succ, List.getElem_cons_zero, List.setIfInBounds_toArray, List.set_cons_zero, List.set_cons_succ]
  refine wpAny_pair 2 4 (by kernel_rfl) (wpOp_en 2 rfl (by rfl) (f := 38) (args := #[.int .u64 (sr : Int)]) (by simp [go_sem]) (rnumber_any sr (by have := HN.out; omega) _) ?_) (wpOp_vl 4 (.slice (some ⟨w1.heap.size, 0, none⟩) nm.length (grownCap w1 nm.length 0 5)) (Lib.bytesWorld w1 5 (strB nm)) rfl (by rfl) (by simp [execOp, Act.eval, conv_string]) ?_)
  · skip
    rintro e w2 ⟨v1, rfl, r1, hbA⟩
    have hS1 : Over w1 w2 := hS.more hbA
    refine ⟨_, rfl, ?_⟩
    clear hS
    have hS := hS1
    clear hS1
    obtain ⟨l1, HL1⟩ : ∃ zz, Hid (zz = num8 sr) := ⟨_, rfl⟩
    rw [← HL1.out] at r1
    obtain ⟨ad1, cp1, rfl, _, _, _⟩ := id r1
    simp only [Act.put, List.getElem_toArray, List.getElem_cons_succ, List.getElem_cons_zero, List.setIfInBounds_toArray, List.set_cons_zero, List.set_cons_succ]
    clear hbA
    have hbA := bytesWorld_below nm w2
    have r2 := bytesWorld_reads nm w2
    have hS2 : Over w1 (Lib.bytesWorld w2 5 (strB nm)) := hS.more hbA
    refine wpAny_step 4 (.slice (some ⟨w2.heap.size, 0, none⟩) nm.length (grownCap w2 nm.length 0 5)) (Lib.bytesWorld w2 5 (strB nm)) (by kernel_rfl) rfl (by rfl) (by simp [execOp, Act.eval, conv_string]) ?_
    simp only [Act.put, List.getElem_toArray, List.getElem_cons_succ, List.getElem_cons_zero, List.setIfInBounds_toArray, List.set_cons_zero, List.set_cons_succ]
    replace r1 := r1.below hbA
    clear hbA hS
    have hS := hS2
    clear hS2
    generalize (Lib.bytesWorld w2 5 (strB nm)) = w3 at *
    generalize grownCap w2 nm.length 0 5 = cp2 at *
    generalize w2.heap.size = n2 at *
    have hbA := below_alloc w3 (.cells #[.slice ad1 l1.length cp1, .slice (some ⟨n2, 0, none⟩) nm.length cp2] 24)
    have r3 := readsL_two r1 r2
    have hS3 : Over w1 (w3.alloc (.cells #[.slice ad1 l1.length cp1, .slice (some ⟨n2, 0, none⟩) nm.length cp2] 24)) := hS.more hbA
    refine wpAny_step 5 (.slice (some ⟨w3.heap.size, 0, none⟩) 2 2) (w3.alloc (.cells #[.slice ad1 l1.length cp1, .slice (some ⟨n2, 0, none⟩) nm.length cp2] 24)) (by kernel_rfl) rfl (by rfl) (by simp [go_sem]) ?_
    simp only [Act.put, List.getElem_toArray, List.getElem_cons_succ, List.getElem_cons_zero, List.setIfInBounds_toArray, List.set_cons_zero, List.set_cons_succ]
    replace r1 := r1.below hbA
    replace r2 := r2.below hbA
    clear hbA hS
    have hS := hS3
    clear hS3
    generalize (w3.alloc (.cells #[.slice ad1 l1.length cp1, .slice (some ⟨n2, 0, none⟩) nm.length cp2] 24)) = w4 at *
    generalize w3.heap.size = n3 at *
    refine wpAny_enter 6 (by kernel_rfl) rfl (by rfl) (f := 35) (args := #[.int .u8 83, .slice (some ⟨n3, 0, none⟩) 2 2]) (by simp [go_sem]) (rsign_any 83 _ _ _ r3 (by simp only [fl2, HL1.out, len_num8]; have := HN.out; omega) (by simp)) ?_
    rintro e w5 ⟨v4, rfl, r4, hbA⟩
    have hS4 : Over w1 w5 := hS.more hbA
    refine ⟨_, rfl, ?_⟩
    clear hS
    have hS := hS4
    clear hS4
    obtain ⟨l4, HL4⟩ : ∃ zz, Hid (zz = (83 : BitVec 8) :: [l1, nm].flatten) := ⟨_, rfl⟩
    rw [← HL4.out] at r4
    obtain ⟨ad4, cp4, rfl, _, _, _⟩ := id r4
    simp only [Act.put, List.getElem_toArray, List.getElem_cons_succ, List.getElem_cons_zero, List.setIfInBounds_toArray, List.set_cons_zero, List.set_cons_succ]
    replace r1 := r1.below hbA
    replace r2 := r2.below hbA
    replace r3 := r3.below hbA
    clear hbA
    refine wpAny_enter 7 (by kernel_rfl) rfl (by rfl) (f := 40) (args := #[.slice (some ⟨w.heap.size, 0, none⟩) 32 32, .slice ad4 l4.length cp4]) (by simp [go_sem]) (rmac_any _ _ x l4 _ (rx.below hS) r4 (by have := HN.out; omega) (by simp only [HL4.out, List.length_cons, fl2, HL1.out, len_num8]; have := HN.out; omega)) ?_
    rintro e w6 ⟨rfl, hbA⟩
    have hS5 : Over w1 w6 := hS.more hbA
    refine ⟨_, rfl, ?_⟩
    clear hS
    have hS := hS5
    clear hS5
    simp only [Act.put, List.getElem_toArray, List.getElem_cons_succ, List.getElem_cons_zero, List.setIfInBounds_toArray, List.set_cons_zero, List.set_cons_succ]
    replace r1 := r1.below hbA
    replace r2 := r2.below hbA
    replace r3 := r3.below hbA
    replace r4 := r4.below hbA
    clear hbA
    have E : Hid (hmac x l4 = hmac x (saltB sr nm)) := by show _ = _; simp [saltB, HL4.out, HL1.out]
    obtain ⟨es, HES⟩ : ∃ zz, Hid (zz = cb (hmac x l4)) := ⟨_, rfl⟩
    have HLe : Hid (es.length = 32) := by show _ = _; rw [HES.out, cb_len, len_hmac]
    have HZe : Hid ((Tryd.prog.info? 23).map (·.size) = some es.length) := by show _ = _; rw [HLe.out]; exact Tryd.info23
    have H1e : Hid (∀ v ∈ es, v.oneCell' = true) := by show ∀ _, _; rw [HES.out]; exact cb_one _
    have HR9 : Hid (Blk w6 (w.heap.size + 1) (cb zb32) 23) := HRB.out.below hS.out HRB.out.lt
    have HS9 : Hid (Below w.heap.size w w6) := hS.after HB1.out
    clear hS r1 r2 r3 r4
    rw [← HES.out]
    refine wpAny_store 8 23 _ _ (by kernel_rfl) rfl (by rfl) rfl (w.heap.size + 1) 0 es.toArray rfl rfl (HR9.out.there 0 _ (by rw [List.size_toArray, HLe.out, cb_len, len_zb32]; omega)) (by simpa using HZe.out) (all_oneCell_toArray H1e.out) ?_
    refine wpAny_done (by kernel_rfl) ?_ _
    have hB := HR9.out.whole es (by rw [HLe.out, cb_len, len_zb32])
    have hBe := Below.setCells (w.heap.size + 1) (by omega) es 0 _ HS9.out
    generalize World.setCells _ _ _ _ = w10 at *
    go_wp2
    refine bodyPost_ret (v := .agg es.toArray) (results_cell_row (by rfl) _ _ (w.heap.size + 1) 23 _ (0, 0) _ rfl hB Tryd.underlying23 rfl (by simpa using HZe.out)) rfl ⟨by rw [HES.out, E.out], hBe⟩
  · skip
    have hbA := bytesWorld_below nm w1
    have r6 := bytesWorld_reads nm w1
    have hS6 : Over w1 (Lib.bytesWorld w1 5 (strB nm)) := hS.more hbA
    simp only [Act.put, List.getElem_toArray, List.getElem_cons_succ, List.getElem_cons_zero, List.setIfInBounds_toArray, List.set_cons_zero, List.set_cons_succ]
    clear hbA hS
    have hS := hS6
    clear hS6
    generalize (Lib.bytesWorld w1 5 (strB nm)) = w7 at *
    generalize grownCap w1 nm.length 0 5 = cp6 at *
    generalize w1.heap.size = n6 at *
    refine wpAny_enter 2 (by kernel_rfl) rfl (by rfl) (f := 38) (args := #[.int .u64 (sr : Int)]) (by simp [go_sem]) (rnumber_any sr (by have := HN.out; omega) _) ?_
    rintro e w8 ⟨v7, rfl, r7, hbA⟩
    have hS7 : Over w1 w8 := hS.more hbA
    refine ⟨_, rfl, ?_⟩
    clear hS
    have hS := hS7
    clear hS7
    obtain ⟨l7, HL7⟩ : ∃ zz, Hid (zz = num8 sr) := ⟨_, rfl⟩
    rw [← HL7.out] at r7
    obtain ⟨ad7, cp7, rfl, _, _, _⟩ := id r7
    simp only [Act.put, List.getElem_toArray, List.getElem_cons_succ, List.getElem_cons_zero, List.setIfInBounds_toArray, List.set_cons_zero, List.set_cons_succ]
    replace r6 := r6.below hbA
    clear hbA
    have hbA := below_alloc w8 (.cells #[.slice ad7 l7.length cp7, .slice (some ⟨n6, 0, none⟩) nm.length cp6] 24)
    have r8 := readsL_two r7 r6
    have hS8 : Over w1 (w8.alloc (.cells #[.slice ad7 l7.length cp7, .slice (some ⟨n6, 0, none⟩) nm.length cp6] 24)) := hS.more hbA
    refine wpAny_step 5 (.slice (some ⟨w8.heap.size, 0, none⟩) 2 2) (w8.alloc (.cells #[.slice ad7 l7.length cp7, .slice (some ⟨n6, 0, none⟩) nm.length cp6] 24)) (by kernel_rfl) rfl (by rfl) (by simp [go_sem]) ?_
    simp only [Act.put, List.getElem_toArray, List.getElem_cons_succ, List.getElem_cons_zero, List.setIfInBounds_toArray, List.set_cons_zero, List.set_cons_succ]
    replace r6 := r6.below hbA
    replace r7 := r7.below hbA
    clear hbA hS
    have hS := hS8
    clear hS8
    generalize (w8.alloc (.cells #[.slice ad7 l7.length cp7, .slice (some ⟨n6, 0, none⟩) nm.length cp6] 24)) = w9 at *
    generalize w8.heap.size = n8 at *
    refine wpAny_enter 6 (by kernel_rfl) rfl (by rfl) (f := 35) (args := #[.int .u8 83, .slice (some ⟨n8, 0, none⟩) 2 2]) (by simp [go_sem]) (rsign_any 83 _ _ _ r8 (by simp only [fl2, HL7.out, len_num8]; have := HN.out; omega) (by simp)) ?_
    rintro e w10 ⟨v9, rfl, r9, hbA⟩
    have hS9 : Over w1 w10 := hS.more hbA
    refine ⟨_, rfl, ?_⟩
    clear hS
    have hS := hS9
    clear hS9
    obtain ⟨l9, HL9⟩ : ∃ zz, Hid (zz = (83 : BitVec 8) :: [l7, nm].flatten) := ⟨_, rfl⟩
    rw [← HL9.out] at r9
    obtain ⟨ad9, cp9, rfl, _, _, _⟩ := id r9
    simp only [Act.put, List.getElem_toArray, List.getElem_cons_succ, List.getElem_cons_zero, List.setIfInBounds_toArray, List.set_cons_zero, List.set_cons_succ]
    replace r6 := r6.below hbA
    replace r7 := r7.below hbA
    replace r8 := r8.below hbA
    clear hbA
    refine wpAny_enter 7 (by kernel_rfl) rfl (by rfl) (f := 40) (args := #[.slice (some ⟨w.heap.size, 0, none⟩) 32 32, .slice ad9 l9.length cp9]) (by simp [go_sem]) (rmac_any _ _ x l9 _ (rx.below hS) r9 (by have := HN.out; omega) (by simp only [HL9.out, List.length_cons, fl2, HL7.out, len_num8]; have := HN.out; omega)) ?_
    rintro e w11 ⟨rfl, hbA⟩
    have hS10 : Over w1 w11 := hS.more hbA
    refine ⟨_, rfl, ?_⟩
    clear hS
    have hS := hS10
    clear hS10
    simp only [Act.put, List.getElem_toArray, List.getElem_cons_succ, List.getElem_cons_zero, List.setIfInBounds_toArray, List.set_cons_zero, List.set_cons_succ]
    replace r6 := r6.below hbA
    replace r7 := r7.below hbA
    replace r8 := r8.below hbA
    replace r9 := r9.below hbA
    clear hbA
    have E : Hid (hmac x l9 = hmac x (saltB sr nm)) := by show _ = _; simp [saltB, HL9.out, HL7.out]
    obtain ⟨es, HES⟩ : ∃ zz, Hid (zz = cb (hmac x l9)) := ⟨_, rfl⟩
    have HLe : Hid (es.length = 32) := by show _ = _; rw [HES.out, cb_len, len_hmac]
    have HZe : Hid ((Tryd.prog.info? 23).map (·.size) = some es.length) := by show _ = _; rw [HLe.out]; exact Tryd.info23
    have H1e : Hid (∀ v ∈ es, v.oneCell' = true) := by show ∀ _, _; rw [HES.out]; exact cb_one _
    have HR9 : Hid (Blk w11 (w.heap.size + 1) (cb zb32) 23) := HRB.out.below hS.out HRB.out.lt
    have HS9 : Hid (Below w.heap.size w w11) := hS.after HB1.out
    clear hS r6 r7 r8 r9
    rw [← HES.out]
    refine wpAny_store 8 23 _ _ (by kernel_rfl) rfl (by rfl) rfl (w.heap.size + 1) 0 es.toArray rfl rfl (HR9.out.there 0 _ (by rw [List.size_toArray, HLe.out, cb_len, len_zb32]; omega)) (by simpa using HZe.out) (all_oneCell_toArray H1e.out) ?_
    refine wpAny_done (by kernel_rfl) ?_ _
    have hB := HR9.out.whole es (by rw [HLe.out, cb_len, len_zb32])
    have hBe := Below.setCells (w.heap.size + 1) (by omega) es 0 _ HS9.out
    generalize World.setCells _ _ _ _ = w10 at *
    go_wp2
    refine bodyPost_ret (v := .agg es.toArray) (results_cell_row (by rfl) _ _ (w.heap.size + 1) 23 _ (0, 0) _ rfl hB Tryd.underlying23 rfl (by simpa using HZe.out)) rfl ⟨by rw [HES.out, E.out], hBe⟩
set_option maxHeartbeats 1000000 in
theorem tKey_any (x : List (BitVec 8)) (sr pl : Nat) (bi si : Int) (w : World) (hK : KOk w) (hp : IntKind.u64.wrap (IntKind.u64.wrap (2 * IntKind.u64.wrap bi) + IntKind.u64.wrap si) = (pl : Int)) (hn : x.length = 32 ∧ sr < 18446744073709551616 ∧ pl < 18446744073709551616) :
    Calls Tryd.prog 25 #[.agg (cb x).toArray, .int .u64 (sr : Int), .int .i64 bi, .int .i64 si] w fun e w' => e = .returned (.agg (cb (dig (keyB x sr pl))).toArray) ∧ Below w.heap.size w w' := by
  have HK : Hid (KOk w) := hK
  clear hK
  have HP : Hid (IntKind.u64.wrap (IntKind.u64.wrap (2 * IntKind.u64.wrap bi) + IntKind.u64.wrap si) = (pl : Int)) := hp
  clear hp
  have HN : Hid (x.length = 32 ∧ sr < 18446744073709551616 ∧ pl < 18446744073709551616) := hn
  clear hn
  go_enter Tryd.func25, Tryd.ntmps25
  go_wp2_with fail
  rw [zeros32, HP.out]
  have hB0 : Below w.heap.size w ((w.alloc (.cells (cb x).toArray 23)).alloc (.cells (cb zb32).toArray 23)) := (below_alloc _ _).trans ((below_alloc _ _).mono (by simp))
  have rx : Reads ((w.alloc (.cells (cb x).toArray 23)).alloc (.cells (cb zb32).toArray 23)) (.slice (some ⟨w.heap.size, 0, none⟩) 32 32) x := ((Blk.new w (cb x) 23).alloc _).reads HN.out.1.symm (by have := HN.out; omega)
  have hRB : Blk ((w.alloc (.cells (cb x).toArray 23)).alloc (.cells (cb zb32).toArray 23)) (w.heap.size + 1) (cb zb32) 23 := Blk.new_at (by simp) _ _
  generalize ((w.alloc (.cells (cb x).toArray 23)).alloc (.cells (cb zb32).toArray 23)) = w0 at *
  refine wp_region_any (by kernel_rfl) ?_
  change wpAny _ _ _ _ _ _ _ (World.drew _)
  replace rx := reads_drew rx
  have hS : Over w0.drew w0.drew := Over.refl _
  have HRB : Hid (Blk w0.drew (w.heap.size + 1) (cb zb32) 23) := hRB.drew
  have HB1 : Hid (Below w.heap.size w w0.drew) := hB0.drew
  clear hB0 hRB
  generalize w0.drew = w1 at *
  refine wpAny_take (i := 0) (v := .slice (some ⟨w.heap.size, 0, none⟩) 32 32) rfl (by kernel_rfl) (by kernel_rfl) (by kernel_rfl) (fun _ _ _ h => h) (Or.inl ⟨by rfl, fun wx => by simp [execOp, Act.eval, slice_dig]⟩) ?_
  simp only [Act.put, List.getElem_toArray, List.getElem_cons_zero, List.setIfInBounds_toArray, List.set_cons_zero, List.set_cons_succ]
  refine wpAny_take (i := 1) (v := .int .u64 (sr : Int)) rfl (by kernel_rfl) (by kernel_rfl) (by kernel_rfl) (fun _ _ _ h => h) (Or.inl ⟨by rfl, fun wx => by simp [go_sem]⟩) ?_
  simp only [Act.put, List.getElem_toArray, List.getElem_cons_succ, List.getElem_cons_zero, List.setIfInBounds_toArray, List.set_cons_zero, List.set_cons_succ]
  refine wpAny_take (i := 3) (v := .int .u64 (pl : Int)) rfl (by kernel_rfl) (by kernel_rfl) (by kernel_rfl) (fun _ _ _ h => h) (Or.inl ⟨by rfl, fun wx => by simp [go_sem]⟩) ?_
  simp only [Act.put, List.getElem_toArray, List.getElem_cons_succ, List.getElem_cons_zero, List.setIfInBounds_toArray, List.set_cons_zero, List.set_cons_succ]
  refine wpAny_enter 2 (by kernel_rfl) rfl (by rfl) (f := 37) (args := #[.int .u64 (sr : Int)]) (by simp [go_sem]) (number_any sr _) ?_
  rintro e w2 ⟨v1, rfl, r1, hbA⟩
  have hS1 : Over w1 w2 := hS.more hbA
  refine ⟨_, rfl, ?_⟩
  clear hS
  have hS := hS1
  clear hS1
  obtain ⟨l1, HL1⟩ : ∃ zz, Hid (zz = num8 sr) := ⟨_, rfl⟩
  rw [← HL1.out] at r1
  obtain ⟨ad1, cp1, rfl, _, _, _⟩ := id r1
  simp only [Act.put, List.getElem_toArray, List.getElem_cons_succ, List.getElem_cons_zero, List.setIfInBounds_toArray, List.set_cons_zero, List.set_cons_succ]
  clear hbA
  refine wpAny_enter 4 (by kernel_rfl) rfl (by rfl) (f := 37) (args := #[.int .u64 (pl : Int)]) (by simp [go_sem]) (number_any pl _) ?_
  rintro e w3 ⟨v2, rfl, r2, hbA⟩
  have hS2 : Over w1 w3 := hS.more hbA
  refine ⟨_, rfl, ?_⟩
  clear hS
  have hS := hS2
  clear hS2
  obtain ⟨l2, HL2⟩ : ∃ zz, Hid (zz = num8 pl) := ⟨_, rfl⟩
  rw [← HL2.out] at r2
  obtain ⟨ad2, cp2, rfl, _, _, _⟩ := id r2
  simp only [Act.put, List.getElem_toArray, List.getElem_cons_succ, List.getElem_cons_zero, List.setIfInBounds_toArray, List.set_cons_zero, List.set_cons_succ]
  replace r1 := r1.below hbA
  clear hbA
  have hbA := below_alloc w3 (.cells #[.slice (some ⟨w.heap.size, 0, none⟩) 32 32, .slice ad1 l1.length cp1, .slice ad2 l2.length cp2] 24)
  have r3 := readsL_three (rx.below hS) r1 r2
  have hS3 : Over w1 (w3.alloc (.cells #[.slice (some ⟨w.heap.size, 0, none⟩) 32 32, .slice ad1 l1.length cp1, .slice ad2 l2.length cp2] 24)) := hS.more hbA
  refine wpAny_step 5 (.slice (some ⟨w3.heap.size, 0, none⟩) 3 3) (w3.alloc (.cells #[.slice (some ⟨w.heap.size, 0, none⟩) 32 32, .slice ad1 l1.length cp1, .slice ad2 l2.length cp2] 24)) (by kernel_rfl) rfl (by rfl) (by simp [go_sem]) ?_
  simp only [Act.put, List.getElem_toArray, List.getElem_cons_succ, List.getElem_cons_zero, List.setIfInBounds_toArray, List.set_cons_zero, List.set_cons_succ]
  replace r1 := r1.below hbA
  replace r2 := r2.below hbA
  clear hbA hS
  have hS := hS3
  clear hS3
  generalize (w3.alloc (.cells #[.slice (some ⟨w.heap.size, 0, none⟩) 32 32, .slice ad1 l1.length cp1, .slice ad2 l2.length cp2] 24)) = w4 at *
  generalize w3.heap.size = n3 at *
  refine wpAny_enter 6 (by kernel_rfl) rfl (by rfl) (f := 34) (args := #[.int .u8 75, .slice (some ⟨n3, 0, none⟩) 3 3]) (by simp [go_sem]) (tagged_any 75 _ _ _ r3 (by simp only [fl3, HL1.out, HL2.out, len_num8]; have := HN.out; omega) (by simp)) ?_
  rintro e w5 ⟨v4, rfl, r4, hbA⟩
  have hS4 : Over w1 w5 := hS.more hbA
  refine ⟨_, rfl, ?_⟩
  clear hS
  have hS := hS4
  clear hS4
  obtain ⟨l4, HL4⟩ : ∃ zz, Hid (zz = (75 : BitVec 8) :: [x, l1, l2].flatten) := ⟨_, rfl⟩
  rw [← HL4.out] at r4
  obtain ⟨ad4, cp4, rfl, _, _, _⟩ := id r4
  simp only [Act.put, List.getElem_toArray, List.getElem_cons_succ, List.getElem_cons_zero, List.setIfInBounds_toArray, List.set_cons_zero, List.set_cons_succ]
  replace r1 := r1.below hbA
  replace r2 := r2.below hbA
  replace r3 := r3.below hbA
  clear hbA
  refine wpAny_enter 7 (by kernel_rfl) rfl (by rfl) (f := 32) (args := #[.slice ad4 l4.length cp4]) (by simp [go_sem]) (tOf_any _ l4 _ (HK.out.below (hS.after HB1.out) HK.out.lt) r4 (by simp only [HL4.out, List.length_cons, fl3, HL2.out, HL1.out, len_num8]; have := HN.out; omega)) ?_
  rintro e w6 ⟨rfl, hbA⟩
  have hS5 : Over w1 w6 := hS.more hbA
  refine ⟨_, rfl, ?_⟩
  clear hS
  have hS := hS5
  clear hS5
  simp only [Act.put, List.getElem_toArray, List.getElem_cons_succ, List.getElem_cons_zero, List.setIfInBounds_toArray, List.set_cons_zero, List.set_cons_succ]
  replace r1 := r1.below hbA
  replace r2 := r2.below hbA
  replace r3 := r3.below hbA
  replace r4 := r4.below hbA
  clear hbA
  have E : Hid (dig l4 = dig (keyB x sr pl)) := by show _ = _; simp [keyB, HL4.out, HL2.out, HL1.out]
  obtain ⟨es, HES⟩ : ∃ zz, Hid (zz = cb (dig l4)) := ⟨_, rfl⟩
  have HLe : Hid (es.length = 32) := by show _ = _; rw [HES.out, cb_len, len_dig']
  have HZe : Hid ((Tryd.prog.info? 23).map (·.size) = some es.length) := by show _ = _; rw [HLe.out]; exact Tryd.info23
  have H1e : Hid (∀ v ∈ es, v.oneCell' = true) := by show ∀ _, _; rw [HES.out]; exact cb_one _
  have HR9 : Hid (Blk w6 (w.heap.size + 1) (cb zb32) 23) := HRB.out.below hS.out HRB.out.lt
  have HS9 : Hid (Below w.heap.size w w6) := hS.after HB1.out
  clear hS r1 r2 r3 r4
  rw [← HES.out]
  refine wpAny_store 8 23 _ _ (by kernel_rfl) rfl (by rfl) rfl (w.heap.size + 1) 0 es.toArray rfl rfl (HR9.out.there 0 _ (by rw [List.size_toArray, HLe.out, cb_len, len_zb32]; omega)) (by simpa using HZe.out) (all_oneCell_toArray H1e.out) ?_
  refine wpAny_done (by kernel_rfl) ?_ _
  have hB := HR9.out.whole es (by rw [HLe.out, cb_len, len_zb32])
  have hBe := Below.setCells (w.heap.size + 1) (by omega) es 0 _ HS9.out
  generalize World.setCells _ _ _ _ = w10 at *
  go_wp2
  refine bodyPost_ret (v := .agg es.toArray) (results_cell_row (by rfl) _ _ (w.heap.size + 1) 23 _ (0, 0) _ rfl hB Tryd.underlying23 rfl (by simpa using HZe.out)) rfl ⟨by rw [HES.out, E.out], hBe⟩
set_option maxHeartbeats 1000000 in
theorem rKeyOf_any (x : List (BitVec 8)) (sr pl : Nat) (bi si : Int) (w : World) (hp : IntKind.u64.wrap (IntKind.u64.wrap (2 * IntKind.u64.wrap bi) + IntKind.u64.wrap si) = (pl : Int)) (hn : x.length = 32 ∧ sr < 18446744073709551616 ∧ pl < 18446744073709551616) :
    Calls Tryd.prog 26 #[.agg (cb x).toArray, .int .u64 (sr : Int), .int .i64 bi, .int .i64 si] w fun e w' => e = .returned (.agg (cb (dig (keyB x sr pl))).toArray) ∧ Below w.heap.size w w' := by
  have HP : Hid (IntKind.u64.wrap (IntKind.u64.wrap (2 * IntKind.u64.wrap bi) + IntKind.u64.wrap si) = (pl : Int)) := hp
  clear hp
  have HN : Hid (x.length = 32 ∧ sr < 18446744073709551616 ∧ pl < 18446744073709551616) := hn
  clear hn
  go_enter Tryd.func26, Tryd.ntmps26
  go_wp2_with fail
  rw [zeros32]
  have hB0 : Below w.heap.size w ((w.alloc (.cells (cb x).toArray 23)).alloc (.cells (cb zb32).toArray 23)) := (below_alloc _ _).trans ((below_alloc _ _).mono (by simp))
  have rx : Reads ((w.alloc (.cells (cb x).toArray 23)).alloc (.cells (cb zb32).toArray 23)) (.slice (some ⟨w.heap.size, 0, none⟩) 32 32) x := ((Blk.new w (cb x) 23).alloc _).reads HN.out.1.symm (by have := HN.out; omega)
  have hRB : Blk ((w.alloc (.cells (cb x).toArray 23)).alloc (.cells (cb zb32).toArray 23)) (w.heap.size + 1) (cb zb32) 23 := Blk.new_at (by simp) _ _
  generalize ((w.alloc (.cells (cb x).toArray 23)).alloc (.cells (cb zb32).toArray 23)) = w0 at *
  refine wp_region_any (by kernel_rfl) ?_
  change wpAny _ _ _ _ _ _ _ (World.drew _)
  replace rx := reads_drew rx
  have hS : Over w0.drew w0.drew := Over.refl _
  have HRB : Hid (Blk w0.drew (w.heap.size + 1) (cb zb32) 23) := hRB.drew
  have HB1 : Hid (Below w.heap.size w w0.drew) := hB0.drew
  clear hB0 hRB
  generalize w0.drew = w1 at *
  refine wpAny_take (i := 0) (v := .slice (some ⟨w.heap.size, 0, none⟩) 32 32) rfl (by kernel_rfl) (by kernel_rfl) (by kernel_rfl) (fun _ _ _ h => h) (Or.inl ⟨by rfl, fun wx => by simp [execOp, Act.eval, slice_dig]⟩) ?_
  simp only [Act.put, List.getElem_toArray, List.getElem_cons_zero, List.setIfInBounds_toArray, List.set_cons_zero, List.set_cons_succ]
  refine wpAny_take (i := 1) (v := .int .u64 (sr : Int)) rfl (by kernel_rfl) (by kernel_rfl) (by kernel_rfl) (fun _ _ _ h => h) (Or.inl ⟨by rfl, fun wx => by simp [go_sem]⟩) ?_
  simp only [Act.put, List.getElem_toArray, List.getElem_cons_succ, List.getElem_cons_zero, List.setIfInBounds_toArray, List.set_cons_zero, List.set_cons_succ]
  refine wpAny_take (i := 3) (v := .int .i64 bi) rfl (by kernel_rfl) (by kernel_rfl) (by kernel_rfl) (fun _ _ _ h => h) (Or.inl ⟨by rfl, fun wx => by simp [go_sem]⟩) ?_
  simp only [Act.put, List.getElem_toArray, List.getElem_cons_succ, List.getElem_cons_zero, List.setIfInBounds_toArray, List.set_cons_zero, List.set_cons_succ]
  refine wpAny_take (i := 4) (v := .int .u64 (IntKind.u64.wrap bi)) rfl (by kernel_rfl) (by kernel_rfl) (by kernel_rfl) (fun _ _ _ h => h) (Or.inl ⟨by rfl, fun wx => by simp [go_sem]⟩) ?_
  simp only [Act.put, List.getElem_toArray, List.getElem_cons_succ, List.getElem_cons_zero, List.setIfInBounds_toArray, List.set_cons_zero, List.set_cons_succ]
  refine wpAny_take (i := 5) (v := .int .u64 (IntKind.u64.wrap (2 * IntKind.u64.wrap bi))) rfl (by kernel_rfl) (by kernel_rfl) (by kernel_rfl) (fun _ _ _ h => h) (Or.inl ⟨by rfl, fun wx => by simp [go_sem]⟩) ?_
  simp only [Act.put, List.getElem_toArray, List.getElem_cons_succ, List.getElem_cons_zero, List.setIfInBounds_toArray, List.set_cons_zero, List.set_cons_succ]
  refine wpAny_take (i := 6) (v := .int .i64 si) rfl (by kernel_rfl) (by kernel_rfl) (by kernel_rfl) (fun _ _ _ h => h) (Or.inl ⟨by rfl, fun wx => by simp [go_sem]⟩) ?_
  simp only [Act.put, List.getElem_toArray, List.getElem_cons_succ, List.getElem_cons_zero, List.setIfInBounds_toArray, List.set_cons_zero, List.set_cons_succ]
  refine wpAny_take (i := 7) (v := .int .u64 (IntKind.u64.wrap si)) rfl (by kernel_rfl) (by kernel_rfl) (by kernel_rfl) (fun _ _ _ h => h) (Or.inl ⟨by rfl, fun wx => by simp [go_sem]⟩) ?_
  simp only [Act.put, List.getElem_toArray, List.getElem_cons_succ, List.getElem_cons_zero, List.setIfInBounds_toArray, List.set_cons_zero, List.set_cons_succ]
  refine wpAny_take (i := 8) (v := .int .u64 (pl : Int)) rfl (by kernel_rfl) (by kernel_rfl) (by kernel_rfl) (fun _ _ _ h => h) (Or.inl ⟨by rfl, fun wx => by simp [go_sem, HP.out]⟩) ?_
  simp only [Act.put, List.getElem_toArray, List.getElem_cons_succ, List.getElem_cons_zero, List.setIfInBounds_toArray, List.set_cons_zero, List.set_cons_succ]
  refine wpAny_enter 2 (by kernel_rfl) rfl (by rfl) (f := 38) (args := #[.int .u64 (sr : Int)]) (by simp [go_sem]) (rnumber_any sr (by have := HN.out; omega) _) ?_
  rintro e w2 ⟨v1, rfl, r1, hbA⟩
  have hS1 : Over w1 w2 := hS.more hbA
  refine ⟨_, rfl, ?_⟩
  clear hS
  have hS := hS1
  clear hS1
  obtain ⟨l1, HL1⟩ : ∃ zz, Hid (zz = num8 sr) := ⟨_, rfl⟩
  rw [← HL1.out] at r1
  obtain ⟨ad1, cp1, rfl, _, _, _⟩ := id r1
  simp only [Act.put, List.getElem_toArray, List.getElem_cons_succ, List.getElem_cons_zero, List.setIfInBounds_toArray, List.set_cons_zero, List.set_cons_succ]
  clear hbA
  refine wpAny_enter 9 (by kernel_rfl) rfl (by rfl) (f := 38) (args := #[.int .u64 (pl : Int)]) (by simp [go_sem]) (rnumber_any pl (by have := HN.out; omega) _) ?_
  rintro e w3 ⟨v2, rfl, r2, hbA⟩
  have hS2 : Over w1 w3 := hS.more hbA
  refine ⟨_, rfl, ?_⟩
  clear hS
  have hS := hS2
  clear hS2
  obtain ⟨l2, HL2⟩ : ∃ zz, Hid (zz = num8 pl) := ⟨_, rfl⟩
  rw [← HL2.out] at r2
  obtain ⟨ad2, cp2, rfl, _, _, _⟩ := id r2
  simp only [Act.put, List.getElem_toArray, List.getElem_cons_succ, List.getElem_cons_zero, List.setIfInBounds_toArray, List.set_cons_zero, List.set_cons_succ]
  replace r1 := r1.below hbA
  clear hbA
  have hbA := below_alloc w3 (.cells #[.slice (some ⟨w.heap.size, 0, none⟩) 32 32, .slice ad1 l1.length cp1, .slice ad2 l2.length cp2] 24)
  have r3 := readsL_three (rx.below hS) r1 r2
  have hS3 : Over w1 (w3.alloc (.cells #[.slice (some ⟨w.heap.size, 0, none⟩) 32 32, .slice ad1 l1.length cp1, .slice ad2 l2.length cp2] 24)) := hS.more hbA
  refine wpAny_step 10 (.slice (some ⟨w3.heap.size, 0, none⟩) 3 3) (w3.alloc (.cells #[.slice (some ⟨w.heap.size, 0, none⟩) 32 32, .slice ad1 l1.length cp1, .slice ad2 l2.length cp2] 24)) (by kernel_rfl) rfl (by rfl) (by simp [go_sem]) ?_
  simp only [Act.put, List.getElem_toArray, List.getElem_cons_succ, List.getElem_cons_zero, List.setIfInBounds_toArray, List.set_cons_zero, List.set_cons_succ]
  replace r1 := r1.below hbA
  replace r2 := r2.below hbA
  clear hbA hS
  have hS := hS3
  clear hS3
  generalize (w3.alloc (.cells #[.slice (some ⟨w.heap.size, 0, none⟩) 32 32, .slice ad1 l1.length cp1, .slice ad2 l2.length cp2] 24)) = w4 at *
  generalize w3.heap.size = n3 at *
  refine wpAny_enter 11 (by kernel_rfl) rfl (by rfl) (f := 35) (args := #[.int .u8 75, .slice (some ⟨n3, 0, none⟩) 3 3]) (by simp [go_sem]) (rsign_any 75 _ _ _ r3 (by simp only [fl3, HL1.out, HL2.out, len_num8]; have := HN.out; omega) (by simp)) ?_
  rintro e w5 ⟨v4, rfl, r4, hbA⟩
  have hS4 : Over w1 w5 := hS.more hbA
  refine ⟨_, rfl, ?_⟩
  clear hS
  have hS := hS4
  clear hS4
  obtain ⟨l4, HL4⟩ : ∃ zz, Hid (zz = (75 : BitVec 8) :: [x, l1, l2].flatten) := ⟨_, rfl⟩
  rw [← HL4.out] at r4
  obtain ⟨ad4, cp4, rfl, _, _, _⟩ := id r4
  simp only [Act.put, List.getElem_toArray, List.getElem_cons_succ, List.getElem_cons_zero, List.setIfInBounds_toArray, List.set_cons_zero, List.set_cons_succ]
  replace r1 := r1.below hbA
  replace r2 := r2.below hbA
  replace r3 := r3.below hbA
  clear hbA
  refine wpAny_enter 12 (by kernel_rfl) rfl (by rfl) (f := 41) (args := #[.slice ad4 l4.length cp4]) (by simp [go_sem]) (rOf_any _ l4 _ r4 (by simp only [HL4.out, List.length_cons, fl3, HL2.out, HL1.out, len_num8]; have := HN.out; omega)) ?_
  rintro e w6 ⟨rfl, hbA⟩
  have hS5 : Over w1 w6 := hS.more hbA
  refine ⟨_, rfl, ?_⟩
  clear hS
  have hS := hS5
  clear hS5
  simp only [Act.put, List.getElem_toArray, List.getElem_cons_succ, List.getElem_cons_zero, List.setIfInBounds_toArray, List.set_cons_zero, List.set_cons_succ]
  replace r1 := r1.below hbA
  replace r2 := r2.below hbA
  replace r3 := r3.below hbA
  replace r4 := r4.below hbA
  clear hbA
  have E : Hid (dig l4 = dig (keyB x sr pl)) := by show _ = _; simp [keyB, HL4.out, HL2.out, HL1.out]
  obtain ⟨es, HES⟩ : ∃ zz, Hid (zz = cb (dig l4)) := ⟨_, rfl⟩
  have HLe : Hid (es.length = 32) := by show _ = _; rw [HES.out, cb_len, len_dig']
  have HZe : Hid ((Tryd.prog.info? 23).map (·.size) = some es.length) := by show _ = _; rw [HLe.out]; exact Tryd.info23
  have H1e : Hid (∀ v ∈ es, v.oneCell' = true) := by show ∀ _, _; rw [HES.out]; exact cb_one _
  have HR9 : Hid (Blk w6 (w.heap.size + 1) (cb zb32) 23) := HRB.out.below hS.out HRB.out.lt
  have HS9 : Hid (Below w.heap.size w w6) := hS.after HB1.out
  clear hS r1 r2 r3 r4
  rw [← HES.out]
  refine wpAny_store 13 23 _ _ (by kernel_rfl) rfl (by rfl) rfl (w.heap.size + 1) 0 es.toArray rfl rfl (HR9.out.there 0 _ (by rw [List.size_toArray, HLe.out, cb_len, len_zb32]; omega)) (by simpa using HZe.out) (all_oneCell_toArray H1e.out) ?_
  refine wpAny_done (by kernel_rfl) ?_ _
  have hB := HR9.out.whole es (by rw [HLe.out, cb_len, len_zb32])
  have hBe := Below.setCells (w.heap.size + 1) (by omega) es 0 _ HS9.out
  generalize World.setCells _ _ _ _ = w10 at *
  go_wp2
  refine bodyPost_ret (v := .agg es.toArray) (results_cell_row (by rfl) _ _ (w.heap.size + 1) 23 _ (0, 0) _ rfl hB Tryd.underlying23 rfl (by simpa using HZe.out)) rfl ⟨by rw [HES.out, E.out], hBe⟩
end Go.Proofs.YtaleeaocmomjlaaDoor

/- The walks of Proof, of record and of the reference. -/
import Derived.Test.YtldbcglakeggaaaRecWs
namespace Go.Proofs.Ytldbcglakeggaaa
open Go.RowKit
/-- the slice v reads as the digests ds -/
def ReadsD (w : World) (v : Value) (ds : List (List (BitVec 8))) : Prop :=
  (∃ ad cap, v = .slice ad ds.length cap ∧ ds.length ≤ cap ∧ (ad = none → cap = 0) ∧ (0 < ds.length → ∃ b off, ad = some ⟨b, off, none⟩ ∧ ∀ j, j < ds.length → w.rangeAt b (off + j * 32) (cb (ds.getD j [])))) ∧ ∀ d ∈ ds, d.length = 32
theorem rangeAt_lt {w : World} {b off : Nat} {d : List (BitVec 8)} (h : w.rangeAt b off (cb d)) (hd : d.length = 32) : b < w.heap.size := by
  have := h 0 _ (cb_get d 0 (by omega))
  exact block_lt_of_cell this
theorem rangeAt_below {w w' : World} {b off B : Nat} {cs : List Value} (h : w.rangeAt b off cs) (hb : Below B w w') (hB : b < B) : w'.rangeAt b off cs := fun j v hj => by
  rw [hb.cell (p := ⟨b, off + j, none⟩) hB]
  exact h j v hj
theorem getD_mem32 {ds : List (List (BitVec 8))} (h : ∀ d ∈ ds, d.length = 32) {j : Nat} (hj : j < ds.length) : (ds.getD j []).length = 32 := by
  rw [List.getD_eq_getElem?_getD, List.getElem?_eq_getElem hj]
  exact h _ (List.getElem_mem hj)
theorem ReadsD.below {w w' : World} {v : Value} {ds : List (List (BitVec 8))} (h : ReadsD w v ds) (hb : Below w.heap.size w w') : ReadsD w' v ds := by
  obtain ⟨⟨ad, cap, hv, hc, hn, hx⟩, h32⟩ := h
  refine ⟨⟨ad, cap, hv, hc, hn, fun hp => ?_⟩, h32⟩
  obtain ⟨b, off, rfl, hy⟩ := hx hp
  exact ⟨b, off, rfl, fun j hj => rangeAt_below (hy j hj) hb (rangeAt_lt (hy j hj) (getD_mem32 h32 hj))⟩
theorem flatD_at {ds : List (List (BitVec 8))} (h : ∀ d ∈ ds, d.length = 32) : ∀ (j i : Nat) (v : Value), j < ds.length → (cb (ds.getD j []))[i]? = some v → (flatD ds)[j * 32 + i]? = some v := by
  unfold flatD
  induction ds with
  | nil => intro j i v hj; simp at hj
  | cons d r ih =>
    intro j i v hj hv
    rw [List.map_cons, List.flatten_cons]
    cases j with
    | zero =>
      rw [List.getD_cons_zero] at hv
      have hi : i < (cb d).length := (List.getElem?_eq_some_iff.1 hv).1
      rw [Nat.zero_mul, Nat.zero_add, List.getElem?_append_left hi, hv]
    | succ j =>
      rw [List.getD_cons_succ] at hv
      have hl : (cb d).length = 32 := by rw [cb_len, h d (by simp)]
      rw [List.getElem?_append_right (by rw [hl]; omega), hl, show (j + 1) * 32 + i - 32 = j * 32 + i by omega]
      exact ih (fun x hx => h x (by simp [hx])) j i v (by simpa using hj) hv
theorem OwnD.readsD {w : World} {base : Nat} {v : Value} {ds : List (List (BitVec 8))} (h : OwnD w base v ds) : ReadsD w v ds := by
  refine ⟨?_, h.2⟩
  rcases h.1 with ⟨h1, ⟨rfl, h2⟩ | ⟨g, cap, cur, rfl, hg, hh, hc, hm, hs, ht⟩⟩
  · exact ⟨none, 0, by rw [h2], by omega, fun _ => rfl, fun hp => by omega⟩
  · refine ⟨_, cap, rfl, hc, fun h => (by cases h), fun hp => ⟨g, 0, rfl, fun j hj i v hv => ?_⟩⟩
    have hi : i < 32 := by have := (List.getElem?_eq_some_iff.1 hv).1; rwa [cb_len, getD_mem32 h.2 hj] at this
    have hf := flatD_at h.2 j i v hj hv
    rw [← ht, List.getElem?_take] at hf
    rw [cell_of_row w g _ cur 28 (0, 0) hh, Nat.zero_add]
    rw [if_pos (by
      have : (j + 1) * 32 ≤ ds.length * 32 := Nat.mul_le_mul_right 32 hj
      omega)] at hf
    simpa using hf
theorem allT_take (ds : List (List (BitVec 8))) (k : Nat) (h : k < ds.length) : encAll (fun a => a) (ds.take (k + 1)) = encAll (fun a => a) (ds.take k) ++ ds.getD k [] := by
  unfold encAll
  rw [List.take_add_one, List.getElem?_eq_getElem h, List.getD_eq_getElem?_getD, List.getElem?_eq_getElem h]
  simp only [Option.toList_some, List.map_append, List.map_cons, List.map_nil, List.flatten_append, List.flatten_cons, List.flatten_nil, List.append_nil, Option.getD_some]
theorem allocDigest (f : Operand → Value) (o : Oper) (ho : o.op = .alloc 28) (w : World) : (execOp f o).run Try.prog w = .ok (.value (.pointer (some ⟨w.heap.size, 0, none⟩))) (w.alloc (.cells (cb zb32).toArray 28)) := by
  unfold execOp
  rw [ho]
  kernel_rfl
theorem prfV_rix {vs : Value} {en : Int} {x y : List (BitVec 8)} {w : World} {g : Nat} {t : TypeId} (h : Blk w g (prfV vs en x y) t) : w.rangeAt g 2 (cb x) :=
  Blk.rangeMid (A := [vs, .int .i64 en]) (B := cb x) (C := cb y) h rfl
theorem prfV_rva {vs : Value} {en : Int} {x y : List (BitVec 8)} {w : World} {g : Nat} {t : TypeId} (h : Blk w g (prfV vs en x y) t) (hx : x.length = 32) : w.rangeAt g 34 (cb y) := by
  have e : prfV vs en x y = (vs :: .int .i64 en :: cb x) ++ (cb y ++ []) := by simp only [prfV, List.cons_append, List.append_nil]
  rw [e] at h
  exact h.rangeMid (by rw [List.length_cons, List.length_cons, cb_len, hx])
theorem infoD' (d : List (BitVec 8)) (h : d.length = 32) : (Try.prog.info? 28).map (·.size) = some (cb d).toArray.size := by rw [List.size_toArray]; exact infoD d h
theorem allT_len {ds : List (List (BitVec 8))} (h : ∀ d ∈ ds, d.length = 32) (k : Nat) : (encAll (fun a => a) (ds.take k)).length ≤ 32 * ds.length := by
  unfold encAll
  induction ds generalizing k with
  | nil => simp
  | cons d r ih =>
    cases k with
    | zero => simp
    | succ k =>
      have := ih (fun x hx => h x (by simp [hx])) k
      simp only [List.take_succ_cons, List.map_cons, List.flatten_cons, List.length_append, h d (by simp), List.length_cons]
      omega
set_option maxRecDepth 100000 in
set_option maxHeartbeats 2000000 in
theorem rproof_any (vs : Value) (ds : List (List (BitVec 8))) (en : Int) (ix va : List (BitVec 8)) (hen : Fit en) (hix : ix.length = 32) (hva : va.length = 32) (w : World) (hs : ReadsD w vs ds) (hl : ds.length ≤ 1000000000) :
    Calls Try.prog 21 #[.agg (prfV vs en ix va).toArray] w fun e w' => ∃ v', e = .returned v' ∧ Reads w' v' (encProof (ds, u64of en, ix, va)) ∧ Below w.heap.size w w' := by
  have HS : Hid (ReadsD w vs ds) := hs
  have HL : Hid (ds.length ≤ 1000000000) := hl
  have HIX : Hid (ix.length = 32) := hix
  have HVA : Hid (va.length = 32) := hva
  have HEN : Hid (Fit en) := hen
  obtain ⟨⟨ad, cp, hv, _, _, _⟩, _⟩ := id hs
  obtain ⟨n, HN⟩ : ∃ m, Hid (m = ds.length) := ⟨_, rfl⟩
  rw [← HN.out] at hv
  subst hv
  have hn : n ≤ 1000000000 := by rw [HN.out]; exact hl
  have hwn : IntKind.u64.wrap (n : Int) = (n : Int) := by rw [IntKind.wrap_u64]; omega
  obtain ⟨k, HKK⟩ : ∃ k, Hid (k = u64of en) := ⟨_, rfl⟩
  have hwk : IntKind.u64.wrap en = (k : Int) := by rw [HKK.out]; exact wrap_u64of en
  rw [← HKK.out]
  have HKL : Hid (k < 18446744073709551616) := by show _ < _; rw [HKK.out]; exact u64of_lt en
  obtain ⟨cs, HCS⟩ : ∃ cs, Hid (cs = prfV (.slice ad n cp) en ix va) := ⟨_, rfl⟩
  rw [← HCS.out]
  have HB0 : Hid (Below w.heap.size w (w.alloc (.cells cs.toArray 30))) := below_alloc _ _
  have hBK : Blk (w.alloc (.cells cs.toArray 30)) w.heap.size (prfV (.slice ad n cp) en ix va) 30 := by have := Blk.new w cs 30; rwa [HCS.out] at this ⊢
  have HBK : Hid (Blk (w.alloc (.cells cs.toArray 30)) w.heap.size (prfV (.slice ad n cp) en ix va) 30) := hBK
  have c0 : (w.alloc (.cells cs.toArray 30)).cell? ⟨w.heap.size, 0, none⟩ = some (.slice ad n cp) := hBK.cell 0
  have HS0 : Hid (ReadsD (w.alloc (.cells cs.toArray 30)) (.slice ad n cp) ds) := HS.out.below HB0.out
  clear hs hl hix hva hen hBK HS
  go_enter Try.func21, Try.ntmps21
  go_wp2_with fail
  generalize w.alloc (.cells cs.toArray 30) = w0 at *
  obtain ⟨B, HBB⟩ : ∃ B, Hid (B = w0.heap.size) := ⟨_, rfl⟩
  have HGB : Hid (w.heap.size < B) := by show _ < _; rw [HBB.out]; exact HBK.out.lt
  refine (cnum_any B _ [] n (by omega) w0 (OwnB.nil _ _) (by rw [HBB.out]; exact Nat.le_refl _) (by simp)).mono ?_
  rintro e w1 ⟨v1, rfl, ho1, hb1⟩
  have HO1 : Hid (OwnB w1 B v1 (encNum n ++ encAll (fun a => a) (ds.take 0))) := by rw [List.take_zero, show encAll (fun a : List (BitVec 8) => a) [] = [] from rfl, List.append_nil]; exact ho1
  have HB1 : Hid (Below B w0 w1) := hb1
  have c01 : w1.cell? ⟨w.heap.size, 0, none⟩ = some (.slice ad n cp) := (HBK.out.below hb1 HGB.out).cell 0
  clear ho1 hb1 c0
  go_wp2
  go_loopw [3, 14] (fun u i wr => ∃ j : Nat, j ≤ n ∧ i = .int .i64 (j : Int) ∧ OwnB wr B u (encNum n ++ encAll (fun a => a) (ds.take j)) ∧ Below B w0 wr) (fun _ i _ => n - (intOf i).toNat)
  case atStart => exact ⟨0, by omega, rfl, HO1.out, HB1.out⟩
  case round =>
    obtain ⟨j, hj, rfl, hown, hbl⟩ := hrel
    have HOW : Hid (OwnB wr B u3 (encNum n ++ encAll (fun a => a) (ds.take j))) := hown
    have HBL : Hid (Below B w0 wr) := hbl
    clear hown hbl HO1 HB1
    by_cases hlt : j < n
    · obtain ⟨⟨ad', cp', hv', _, _, hx⟩, h32⟩ := HS0.out
      rw [← HN.out] at hv' hx
      simp only [Value.slice.injEq, true_and] at hv'
      obtain ⟨rfl, rfl⟩ := hv'
      obtain ⟨b, off, rfl, hy⟩ := hx (by omega)
      obtain ⟨d, HDD⟩ : ∃ d, Hid (d = ds.getD j []) := ⟨_, rfl⟩
      have HD32 : Hid (d.length = 32) := by show d.length = 32; rw [HDD.out]; exact getD_mem32 h32 (by rw [← HN.out]; exact hlt)
      have hr0 := hy j hlt
      rw [← HDD.out] at hr0
      have HRR : Hid (wr.rangeAt b (off + j * 32) (cb d)) := rangeAt_below hr0 HBL.out (by rw [HBB.out]; exact rangeAt_lt hr0 HD32.out)
      have HTK : Hid (encNum n ++ encAll (fun a => a) (ds.take (j + 1)) = encNum n ++ encAll (fun a => a) (ds.take j) ++ d) := by
        show _ = _
        rw [allT_take ds j (by rw [← HN.out]; exact hlt), ← HDD.out, List.append_assoc]
      have HLA : Hid ((encNum n ++ encAll (fun a => a) (ds.take j)).length + 32 ≤ 140737488355328) := by
        show _ ≤ _
        have h1 := enc_len10 n (by omega)
        have h2 := allT_len h32 j
        rw [← HN.out] at h2
        rw [List.length_append]
        omega
      have hSZ : B ≤ wr.heap.size := by rw [HBB.out]; have := HBL.out.size; omega
      have HSZ : Hid (B ≤ wr.heap.size) := hSZ
      clear hx hy hr0 h32 hSZ
      go_wp2_with (first
        | (refine wpSeq_val (.agg (cb d).toArray) _ (by rfl) (load_run 28 _ rfl b (off + j * 32) rfl (cb d) _ HRR.out Try.underlying28 rfl (infoD d HD32.out)) ?_)
        | (refine wpSeq_val _ _ (by rfl) (allocDigest _ _ rfl _) ?_)
        | (refine wpList_store_mid rfl 28 _ _ rfl wr.heap.size 0 (cb d).toArray rfl rfl ((Blk.new wr (cb zb32) 28).there 0 _ (by rw [List.size_toArray, cb_len, cb_len, HD32.out, len_zb32]; omega)) (infoD' d HD32.out) (all_oneCell_toArray (cb_one d)) ?_
           change wpList _ _ _ _ _ ((wr.alloc (.cells (cb zb32).toArray 28)).setCells wr.heap.size 0 (cb d))
           have hat : At wr.heap.size (wr.alloc (.cells (cb zb32).toArray 28)) ((wr.alloc (.cells (cb zb32).toArray 28)).setCells wr.heap.size 0 (cb d)) := At.setCells _ _ _ (At.refl _ _)
           have HG4 : Hid (Blk ((wr.alloc (.cells (cb zb32).toArray 28)).setCells wr.heap.size 0 (cb d)) wr.heap.size (cb d) 28) := (Blk.new wr (cb zb32) 28).whole (cb d) (by rw [cb_len, cb_len, HD32.out, len_zb32])
           have HO4 : Hid (OwnB ((wr.alloc (.cells (cb zb32).toArray 28)).setCells wr.heap.size 0 (cb d)) B u3 (encNum n ++ encAll (fun a => a) (ds.take j))) := (HOW.out.below (below_alloc _ _) (Nat.le_refl _)).same (fun k hk => hat.block k (by have h1 := HOW.out.lt k hk; omega))
           have HB4 : Hid (Below B w0 ((wr.alloc (.cells (cb zb32).toArray 28)).setCells wr.heap.size 0 (cb d))) := HBL.out.trans (Below.setCells _ HSZ.out _ _ _ ((Below.refl _ _).alloc HSZ.out _))
           clear hat HOW HBL HRR
           generalize ((wr.alloc (.cells (cb zb32).toArray 28)).setCells wr.heap.size 0 (cb d)) = w4 at *
           generalize wr.heap.size = ga at *)
        | (refine wpSeq_val (.agg (cb d).toArray) _ (by rfl) (load_run 28 _ rfl ga 0 rfl (cb d) _ HG4.out.range Try.underlying28 rfl (infoD d HD32.out)) ?_))
      have hs4 : B ≤ w4.heap.size := by rw [HBB.out]; have := HB4.out.size; omega
      refine (cdigest_any B u3 _ d HD32.out w4 HO4.out hs4 HLA.out).mono ?_
      rintro e w5 ⟨v5, rfl, ho5, hb5⟩
      have HO5 : Hid (OwnB w5 B v5 (encNum n ++ encAll (fun a => a) (ds.take (j + 1)))) := by rw [HTK.out]; exact ho5
      have HB5 : Hid (Below B w0 w5) := HB4.out.trans hb5
      clear ho5 hb5 HO4 HB4 hs4
      go_wp2
      go_roundw
      case rel => exact ⟨j + 1, by omega, by go_num, HO5.out, HB5.out⟩
      case measure => simp [intOf]; omega
    · have hjn : j = n := by omega
      subst hjn
      have hbn : Below w.heap.size w wr := HB0.out.trans (HBL.out.mono (by have := HGB.out; omega))
      have HBN : Hid (Below w.heap.size w wr) := hbn
      have hbk : Blk wr w.heap.size (prfV (.slice ad j cp) en ix va) 30 := HBK.out.below HBL.out HGB.out
      have HBKR : Hid (Blk wr w.heap.size (prfV (.slice ad j cp) en ix va) 30) := hbk
      have c1 : wr.cell? ⟨w.heap.size, 1, none⟩ = some (.int .i64 en) := hbk.cell 1
      have HTK : Hid (ds.take j = ds) := by show _ = _; rw [HN.out, List.take_of_length_le (Nat.le_refl _)]
      have h32 := HS0.out.2
      have HLA : Hid ((encNum j ++ encAll (fun a => a) (ds.take j)).length + 100 ≤ 140737488355328) := by
        show _ ≤ _
        have h1 := enc_len10 j (by omega)
        have h2 := allT_len h32 j
        rw [← HN.out] at h2
        rw [List.length_append]
        omega
      have hSZ : B ≤ wr.heap.size := by rw [HBB.out]; have := HBL.out.size; omega
      have HSZ : Hid (B ≤ wr.heap.size) := hSZ
      clear hbn hbk h32 hSZ hlt
      go_wp2_with fail
      refine (cnum_any B u3 _ k HKL.out wr HOW.out HSZ.out (by have := HLA.out; omega)).mono ?_
      rintro e w2 ⟨v2, rfl, ho2, hb2⟩
      have HO2 : Hid (OwnB w2 B v2 (encNum j ++ encAll (fun a => a) (ds.take j) ++ encNum k)) := ho2
      have HBK2 : Hid (Blk w2 w.heap.size (prfV (.slice ad j cp) en ix va) 30) := HBKR.out.below hb2 HGB.out
      have c12 : w2.cell? ⟨w.heap.size, 1, none⟩ = some (.int .i64 en) := HBK2.out.cell 1
      have HB2 : Hid (Below w.heap.size w w2) := HBN.out.trans (hb2.mono (by have := HGB.out; omega))
      have HS2 : Hid (B ≤ w2.heap.size) := Nat.le_trans HSZ.out hb2.size
      have HLK : Hid ((encNum k).length ≤ 10) := enc_len10 k HKL.out
      clear ho2 hb2 HOW HBL HBN HBKR c1 HSZ
      by_cases hk1 : en = 1
      · have HK1 : Hid (k = 1) := by show k = 1; rw [HKK.out, hk1]; rfl
        subst hk1
        go_wp2_with fail
        refine wp_region_held_drew (S := fun wx => Below B w2.drew wx) (by kernel_rfl) (Below.refl _ _) ?_
        intro hS
        have HO3 : Hid (OwnB w2.drew B v2 (encNum j ++ encAll (fun a => a) (ds.take j) ++ encNum k)) := HO2.out
        have HBK3 : Hid (Blk w2.drew w.heap.size (prfV (.slice ad j cp) 1 ix va) 30) := HBK2.out
        have HB3 : Hid (Below w.heap.size w w2.drew) := HB2.out.drew
        have HS3 : Hid (B ≤ w2.drew.heap.size) := HS2.out
        clear HO2 HBK2 HB2 HS2 c12
        generalize w2.drew = w3 at *
        have HRX : Hid (w3.rangeAt w.heap.size 2 (cb ix)) := prfV_rix HBK3.out
        have HRV : Hid (w3.rangeAt w.heap.size 34 (cb va)) := prfV_rva HBK3.out HIX.out
        refine wpAnyH_take (i := 0) (v := v2) rfl (by kernel_rfl) (by kernel_rfl) (by kernel_rfl) (fun _ _ _ h => h) (Or.inl ⟨by rfl, fun wx _ => by simp [go_sem]⟩) hS ?_
        simp only [Act.put, List.getElem_toArray, List.getElem_cons_zero, List.setIfInBounds_toArray, List.set_cons_zero, List.set_cons_succ]
        refine wpAnyH_take (i := 1) (v := .pointer (some ⟨w.heap.size, 2, none⟩)) rfl (by kernel_rfl) (by kernel_rfl) (by kernel_rfl) (fun _ _ _ h => h) (Or.inl ⟨by rfl, fun wx _ => by simp [go_sem]⟩) hS ?_
        simp only [Act.put, List.getElem_toArray, List.getElem_cons_succ, List.getElem_cons_zero, List.setIfInBounds_toArray, List.set_cons_zero, List.set_cons_succ]
        refine wpAnyH_take (i := 2) (v := .agg (cb ix).toArray) rfl (by kernel_rfl) (by kernel_rfl) (by kernel_rfl) (fun _ _ _ h => h) (Or.inl ⟨by rfl, fun wx hx => by exact load_run 28 _ rfl w.heap.size 2 rfl (cb ix) _ (rangeAt_below HRX.out hx HGB.out) Try.underlying28 rfl (infoD ix HIX.out)⟩) hS ?_
        simp only [Act.put, List.getElem_toArray, List.getElem_cons_succ, List.getElem_cons_zero, List.setIfInBounds_toArray, List.set_cons_zero, List.set_cons_succ]
        refine wpAnyH_take (i := 4) (v := .pointer (some ⟨w.heap.size, 34, none⟩)) rfl (by kernel_rfl) (by kernel_rfl) (by kernel_rfl) (fun _ _ _ h => h) (Or.inl ⟨by rfl, fun wx _ => by simp [go_sem]⟩) hS ?_
        simp only [Act.put, List.getElem_toArray, List.getElem_cons_succ, List.getElem_cons_zero, List.setIfInBounds_toArray, List.set_cons_zero, List.set_cons_succ]
        refine wpAnyH_take (i := 5) (v := .agg (cb va).toArray) rfl (by kernel_rfl) (by kernel_rfl) (by kernel_rfl) (fun _ _ _ h => h) (Or.inl ⟨by rfl, fun wx hx => by exact load_run 28 _ rfl w.heap.size 34 rfl (cb va) _ (rangeAt_below HRV.out hx HGB.out) Try.underlying28 rfl (infoD va HVA.out)⟩) hS ?_
        simp only [Act.put, List.getElem_toArray, List.getElem_cons_succ, List.getElem_cons_zero, List.setIfInBounds_toArray, List.set_cons_zero, List.set_cons_succ]
        refine wpAnyH_enter 3 (by kernel_rfl) rfl (by rfl) (f := 43) (args := #[v2, .agg (cb ix).toArray]) (by simp [go_sem]) (cdigest_any B v2 _ ix HIX.out w3 HO3.out HS3.out (by have h1 := HLA.out; have h2 := HLK.out; rw [List.length_append]; omega)) ?_
        rintro e w4 ⟨v4, rfl, ho4, hb4⟩
        have hS4 : Below B w3 w4 := hb4
        refine ⟨_, rfl, hS4, ?_⟩
        simp only [Act.put, List.getElem_toArray, List.getElem_cons_succ, List.getElem_cons_zero, List.setIfInBounds_toArray, List.set_cons_zero, List.set_cons_succ]
        clear hS
        refine wpAnyH_enter 6 (by kernel_rfl) rfl (by rfl) (f := 43) (args := #[v4, .agg (cb va).toArray]) (by simp [go_sem]) (cdigest_any B v4 _ va HVA.out w4 ho4 (Nat.le_trans HS3.out hS4.size) (by have h1 := HLA.out; have h2 := HLK.out; have h3 := HIX.out; rw [List.length_append, List.length_append]; omega)) ?_
        rintro e w5 ⟨v5, rfl, ho5, hb5⟩
        have hS5 : Below B w3 w5 := hS4.trans hb5
        refine ⟨_, rfl, hS5, ?_⟩
        simp only [Act.put, List.getElem_toArray, List.getElem_cons_succ, List.getElem_cons_zero, List.setIfInBounds_toArray, List.set_cons_zero, List.set_cons_succ]
        refine wpAnyH_take (i := 7) (v := v5) rfl (by kernel_rfl) (by kernel_rfl) (by kernel_rfl) (fun _ _ _ h => h) (Or.inl ⟨by rfl, fun wx _ => by simp [go_sem]⟩) hS5 ?_
        simp only [Act.put, List.getElem_toArray, List.getElem_cons_succ, List.getElem_cons_zero, List.setIfInBounds_toArray, List.set_cons_zero, List.set_cons_succ]
        refine wpAnyH_done (by kernel_rfl) ?_ _
        have HF : Hid (Reads w5 v5 (encProof (ds, k, ix, va)) ∧ Below w.heap.size w w5) := ⟨by have := ho5.reads; simp only [HTK.out, List.append_assoc] at this; unfold encProof encEnd; simp only [if_pos HK1.out, ← HN.out]; exact this, HB3.out.trans (hS5.mono (by have := HGB.out; omega))⟩
        clear hS4 hS5 ho4 ho5 hb4 hb5 HO3 HB3 HBK3 HS3 HRX HRV
        go_wp2
        go_ret
        exact ⟨_, rfl, HF.out⟩
      · have HK1 : Hid (¬ k = 1) := by
          show ¬ k = 1
          rw [HKK.out]
          have h1 := HEN.out.lo
          have h2 := HEN.out.hi
          unfold u64of
          omega
        have HF : Hid (Reads w2 v2 (encProof (ds, k, ix, va)) ∧ Below w.heap.size w w2) := ⟨by have := HO2.out.reads; rw [HTK.out, List.append_assoc] at this; unfold encProof encEnd; simp only [if_neg HK1.out, List.append_nil, ← HN.out]; exact this, HB2.out⟩
        clear HO2 HB2 HBK2 HS2
        go_wp2
        go_ret
        exact ⟨_, rfl, HF.out⟩
end Go.Proofs.Ytldbcglakeggaaa

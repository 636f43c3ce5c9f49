/- The walk of the statement RecordOne. -/
import Derived.Test.YtldbcglakeggaaaRecRt
namespace Go.Proofs.Ytldbcglakeggaaa
open Go.RowKit
theorem wpSeq_allocK {ty : TypeId} {z : List Value} {ops : Array Oper} {Q : Exit → Act → World → Prop} {rest : List Oper} {o : Oper} {a : Act} {w : World} (hal : ∀ (f : Operand → Value) (o : Oper), o.op = .alloc ty → ∀ w, (execOp f o).run Try.prog w = .ok (.value (.pointer (some ⟨w.heap.size, 0, none⟩))) (w.alloc (.cells z.toArray ty)))
    (ho : o.op = .alloc ty) (hw : Region.wanted o (yielded ops a.tmps) = true) (h : wpList Try.prog ops Q rest (a.put o.dst (.pointer (some ⟨w.heap.size, 0, none⟩))) (w.alloc (.cells z.toArray ty))) : wpList Try.prog ops Q (o :: rest) a w :=
  wpSeq_val _ _ hw (hal _ _ ho _) h
theorem wpSeq_loadK {ops : Array Oper} {Q : Exit → Act → World → Prop} {rest : List Oper} {o : Oper} {a : Act} {w : World} (ty : TypeId) (x : Operand) (ho : o.op = .load ty x) (hw : Region.wanted o (yielded ops a.tmps) = true) (b : Nat) (hx : a.eval x = .pointer (some ⟨b, 0, none⟩)) (cs : List Value) (d : TypeDesc) (hc : Blk w b cs ty) (hu : Try.prog.underlying ty = some d) (hd : d.isRow = true) (hi : (Try.prog.info? ty).map (·.size) = some cs.length)
    (h : wpList Try.prog ops Q rest (a.put o.dst (.agg cs.toArray)) w) : wpList Try.prog ops Q (o :: rest) a w :=
  wpSeq_val _ _ hw (load_run ty x ho b 0 hx cs d hc.range hu hd hi) h
theorem whole_some {α : Type} {o : Option (α × List (BitVec 8))} {a : α} (h : whole o = some a) : o = some (a, []) := by
  unfold whole at h
  split at h
  · cases h; rfl
  · cases h
theorem chk_zero {nm ky : List (BitVec 8)} (h : chk nm ky = 0) : nameOk nm = true ∧ keyOk ky = true := by
  unfold chk at h
  split at h
  · split at h
    · exact ⟨by assumption, by assumption⟩
    · cases h
  · cases h
theorem nkS_is {l nm ky r : List (BitVec 8)} (h : nkS l = some ((nm, ky), r)) : nameOk nm = true ∧ keyOk ky = true ∧ l = encText nm ++ (encText ky ++ r) := by
  unfold nkS at h
  cases h1 : readText l with
  | none => rw [h1] at h; cases h
  | some p =>
    obtain ⟨nm', r1⟩ := p
    rw [h1] at h
    simp only at h
    cases h2 : readText r1 with
    | none => rw [h2] at h; cases h
    | some q =>
      obtain ⟨ky', r2⟩ := q
      rw [h2] at h
      simp only at h
      split at h
      · simp only [Option.some.injEq, Prod.mk.injEq] at h
        obtain ⟨⟨rfl, rfl⟩, rfl⟩ := h
        obtain ⟨h3, h4⟩ := chk_zero (by assumption)
        exact ⟨h3, h4, by rw [((readText_iff _ _ _).1 h1).2, ((readText_iff _ _ _).1 h2).2]⟩
      · cases h
theorem bind_is {l : List (BitVec 8)} {a : List (BitVec 8) × List (BitVec 8) × Nat} (h : whole (bindS l) = some a) : nameOk a.1 = true ∧ keyOk a.2.1 = true ∧ l = encBinding a := by
  have h := whole_some h
  unfold bindS at h
  cases h1 : nkS l with
  | none => rw [h1] at h; cases h
  | some p =>
    obtain ⟨⟨nm, ky⟩, r⟩ := p
    rw [h1] at h
    simp only at h
    cases h2 : readNum r with
    | none => rw [h2] at h; cases h
    | some q =>
      obtain ⟨sr, r2⟩ := q
      rw [h2] at h
      simp only [Option.some.injEq, Prod.mk.injEq] at h
      obtain ⟨rfl, rfl⟩ := h
      obtain ⟨h3, h4, h5⟩ := nkS_is h1
      exact ⟨h3, h4, by rw [h5, ((readNum_iff _ _ _).1 h2).2, List.append_nil]; rfl⟩
theorem req_is {l : List (BitVec 8)} {a : Nat × List (BitVec 8) × List (BitVec 8) × List (BitVec 8)} (h : whole (reqS l) = some a) : nameOk a.2.1 = true ∧ keyOk a.2.2.1 = true ∧ l = encRequest a ∧ 1 ≤ a.1 ∧ a.1 ≤ 2 ∧ (a.1 ≠ 2 → a.2.2.2 = zb32) := by
  have h := whole_some h
  unfold reqS at h
  cases h1 : readCount 2 l with
  | none => rw [h1] at h; cases h
  | some p =>
    obtain ⟨k, r⟩ := p
    rw [h1] at h
    simp only at h
    split at h
    · cases h
    · cases h2 : nkS r with
      | none => rw [h2] at h; cases h
      | some q =>
        obtain ⟨⟨nm, ky⟩, r2⟩ := q
        rw [h2] at h
        simp only at h
        cases h3 : authR k r2 with
        | none => rw [h3] at h; cases h
        | some q =>
          obtain ⟨au, r3⟩ := q
          rw [h3] at h
          simp only [Option.some.injEq, Prod.mk.injEq] at h
          obtain ⟨rfl, rfl⟩ := h
          obtain ⟨h5, h6, h7⟩ := nkS_is h2
          obtain ⟨h8, h9⟩ := (codes_auth k _ _ _).1 h3
          obtain ⟨h10, h11⟩ := (codes_count 2 (by omega) _ _ _).1 h1
          exact ⟨h5, h6, by rw [h11, h7, h9, List.append_nil]; rfl, by omega, h10, h8.2⟩
theorem sgn_is {l : List (BitVec 8)} {a : Nat × List (BitVec 8) × List (BitVec 8) × List (BitVec 8) × List (BitVec 8)} (h : whole (signedR l) = some a) : a.2.2.2.2.length ≤ 1048576 ∧ l = encSigned a := by
  obtain ⟨h1, h2⟩ := (codes_signed _ _ _).1 (whole_some h)
  exact ⟨h1.2.2.2.2, by rw [h2, List.append_nil]⟩
theorem prf_is {l : List (BitVec 8)} {a : Nat × List (List (BitVec 8)) × Nat × List (BitVec 8) × List (BitVec 8)} (h : whole (proofR l) = some a) : okProof a.2 ∧ l = encProof a.2 := by
  obtain ⟨⟨h1, ⟨h2, h3⟩, h4⟩, hb⟩ := (codes_proof _ _ _).1 (whole_some h)
  obtain ⟨n, ds, en, ix, va⟩ := a
  simp only at h1 h2 h3 h4 hb
  subst h2
  exact ⟨⟨h1, h3, h4⟩, by rw [hb, List.append_nil]; rfl⟩
theorem fit_nat {n : Nat} (h : n ≤ 2) : Fit (n : Int) := ⟨by omega, by omega⟩
theorem wrBinding {w : World} {b : Nat} {a : List (BitVec 8) × List (BitVec 8) × Nat} {cs : List Value} {l : List (BitVec 8)} (hG : bindK.G w b a cs) (h : whole (bindS l) = some a) : Calls Try.prog 15 #[.agg cs.toArray] w fun e w' => ∃ v', e = .returned v' ∧ Reads w' v' l ∧ Below w.heap.size w w' := by
  obtain ⟨h1, h2, h3⟩ := bind_is h
  obtain ⟨vk, rfl, ho, hn⟩ := hG
  have h4 := nameOk_len h1
  have h5 := keyOk_len h2
  have := rbind_any a.1 a.2.1 vk a.2.2 hn w ho.reads (by omega)
  rwa [show encBinding (a.1, a.2.1, a.2.2) = l from h3.symm] at this
theorem wrRequest {w : World} {b : Nat} {a : Nat × List (BitVec 8) × List (BitVec 8) × List (BitVec 8)} {cs : List Value} {l : List (BitVec 8)} (hG : reqK.G w b a cs) (h : whole (reqS l) = some a) : Calls Try.prog 17 #[.agg cs.toArray] w fun e w' => ∃ v', e = .returned v' ∧ Reads w' v' l ∧ Below w.heap.size w w' := by
  obtain ⟨h1, h2, h3, h6, h7, _⟩ := req_is h
  obtain ⟨vk, rfl, ho, hn, _⟩ := hG
  have h4 := nameOk_len h1
  have h5 := keyOk_len h2
  have := rreq_any (a.1 : Int) a.2.1 a.2.2.1 a.2.2.2 vk (fit_nat h7) hn w ho.reads (by omega)
  rwa [u64of_nat (by omega), show encRequest (a.1, a.2.1, a.2.2.1, a.2.2.2) = l from h3.symm] at this
theorem wrSigned {w : World} {b : Nat} {a : Nat × List (BitVec 8) × List (BitVec 8) × List (BitVec 8) × List (BitVec 8)} {cs : List Value} {l : List (BitVec 8)} (hG : sgnK.G w b a cs) (h : whole (signedR l) = some a) : Calls Try.prog 19 #[.agg cs.toArray] w fun e w' => ∃ v', e = .returned v' ∧ Reads w' v' l ∧ Below w.heap.size w w' := by
  obtain ⟨h1, h3⟩ := sgn_is h
  obtain ⟨vk, rfl, ho, hx, hy, hz, hn⟩ := hG
  have := rsigned_any a.1 a.2.1 a.2.2.1 a.2.2.2.1 a.2.2.2.2 vk hn hx hy hz w ho.reads (by omega)
  rwa [show encSigned (a.1, a.2.1, a.2.2.1, a.2.2.2.1, a.2.2.2.2) = l from h3.symm] at this
theorem wrProof {w : World} {b : Nat} {a : Nat × List (List (BitVec 8)) × Nat × List (BitVec 8) × List (BitVec 8)} {cs : List Value} {l : List (BitVec 8)} (hG : prfK.G w b a cs) (h : whole (proofR l) = some a) : Calls Try.prog 21 #[.agg cs.toArray] w fun e w' => ∃ v', e = .returned v' ∧ Reads w' v' l ∧ Below w.heap.size w w' := by
  obtain ⟨h1, h3⟩ := prf_is h
  obtain ⟨vk, rfl, ho, hx, hy, hn, hd⟩ := hG
  have := rproof_any vk a.2.1 (a.2.2.1 : Int) a.2.2.2.1 a.2.2.2.2 (fit_nat (by omega)) hx hy w ho.readsD (by omega)
  rwa [u64of_nat (by omega), show encProof (a.2.1, a.2.2.1, a.2.2.2.1, a.2.2.2.2) = l from h3.symm] at this
theorem rtProof {w : World} {b : Nat} {a : Nat × List (List (BitVec 8)) × Nat × List (BitVec 8) × List (BitVec 8)} {cs : List Value} {l : List (BitVec 8)} (hG : prfK.G w b a cs) (h : whole (proofR l) = some a) : Calls Try.prog 11 #[.agg cs.toArray] w fun e w' => e = .returned (.bool true) ∧ Below w.heap.size w w' := by
  obtain ⟨h1, h3⟩ := prf_is h
  obtain ⟨vk, rfl, ho, hx, hy, hn, hd⟩ := hG
  have := rright_any vk a.2.1 (a.2.2.1 : Int) a.2.2.2.1 a.2.2.2.2 hx hy w ho.readsD
  rwa [show rightB a.2.1.length (a.2.2.1 : Int) a.2.2.2.1 a.2.2.2.2 = true from by
    unfold rightB
    rw [decide_eq_true hd]
    by_cases h1' : a.2.2.1 = 1
    · rw [h1']; rfl
    · have h0 : a.2.2.1 = 0 := by omega
      have hz := h1.2.2.2.2.2 h1'
      rw [h0, show a.2.2.2.1 = zb32 from congrArg Prod.fst hz, show a.2.2.2.2 = zb32 from congrArg Prod.snd hz]
      simp] at this
set_option maxRecDepth 100000 in
set_option maxHeartbeats 8000000 in
theorem one_law (vb : Value) (l : List (BitVec 8)) (w : World) (hb : Reads w vb l) :
    Calls Try.prog 7 #[vb] w fun e w' => e = .returned (.bool true) ∧ Below w.heap.size w w' := by
  have HR : Hid (Reads w vb l) := hb
  have HBL : Hid (Below w.heap.size w w) := Below.refl _ _
  clear hb
  go_enter Try.func7, Try.ntmps7
  go_wp2_with fail
  refine (rdBinding_any readBinding_one bindS_nil vb l w HR.out).mono ?_
  rintro e w1 ⟨hb1, ⟨a, cs, hw, rfl, hG⟩ | ⟨hw, rfl⟩⟩
  · have HWW : Hid (whole (bindS l) = some a) := hw
    have HI : Hid ((Try.prog.info? 25).map (·.size) = some cs.length) := by have := bindK_ok.size hG; rw [List.size_toArray] at this; exact this
    have H1 : Hid (cs.toArray.all (·.oneCell') = true) := all_oneCell_toArray (bindK_ok.one hG)
    have HLN : Hid (cs.length = bindK.z.length) := bindK_ok.len hG
    obtain ⟨g0, HG0⟩ : ∃ x, Hid (x = w.heap.size) := ⟨_, rfl⟩
    rw [← HG0.out] at hG
    have HGG : Hid (bindK.G w1 g0 a cs) := hG
    have HR1 : Hid (Reads w1 vb l) := HR.out.below hb1
    have HBW : Hid (Below w.heap.size w w1) := HBL.out.trans (hb1.mono HBL.out.size)
    clear hw hG hb1 HR HBL HG0
    go_wp2_with (first
    | (with_reducible refine wpSeq_allocK allocBinding ?_ ?_ ?_
       · rfl
       · rfl
       skip)
    | (with_reducible refine wpList_store_mid ?_ 25 (.tmp 3) (.tmp 11) ?_ w1.heap.size 0 cs.toArray ?_ ?_ ((Blk.new w1 bindK.z 25).there 0 _ (by rw [List.size_toArray, HLN.out]; omega)) (by rw [List.size_toArray]; exact HI.out) H1.out ?_
       · rfl
       · rfl
       · rfl
       · rfl
       change wpList _ _ _ _ _ ((w1.alloc (.cells bindK.z.toArray 25)).setCells w1.heap.size 0 cs)
       have HGA : Hid (Blk ((w1.alloc (.cells bindK.z.toArray 25)).setCells w1.heap.size 0 cs) w1.heap.size cs 25) := (Blk.new w1 bindK.z 25).whole cs HLN.out
       have HAT : Hid (At w1.heap.size (w1.alloc (.cells bindK.z.toArray 25)) ((w1.alloc (.cells bindK.z.toArray 25)).setCells w1.heap.size 0 cs)) := At.setCells _ _ _ (At.refl _ _)
       have HB1 : Hid (Below w1.heap.size w1 ((w1.alloc (.cells bindK.z.toArray 25)).setCells w1.heap.size 0 cs)) := Below.setCells _ (Nat.le_refl _) _ _ _ (below_alloc _ _)
       have HG2 : Hid (bindK.G ((w1.alloc (.cells bindK.z.toArray 25)).setCells w1.heap.size 0 cs) g0 a cs) := bindK_ok.same HGG.out (fun k h1 h2 => (HAT.out.block k (by omega)).trans ((below_alloc w1 _).block k h2))
       clear HAT
       generalize ((w1.alloc (.cells bindK.z.toArray 25)).setCells w1.heap.size 0 cs) = x1 at *)
    | (with_reducible refine wpSeq_loadK 25 (.tmp 3) ?_ ?_ w1.heap.size ?_ cs _ HGA.out Try.underlying25 ?_ HI.out ?_
       · rfl
       · rfl
       · rfl
       · rfl))
    have HR2 : Hid (Reads x1 vb l) := HR1.out.below HB1.out
    refine (wrBinding HG2.out HWW.out).mono ?_
    rintro e y1 ⟨v', rfl, hr', hb'⟩
    have HV : Hid (Reads y1 v' l) := hr'
    have HR3 : Hid (Reads y1 vb l) := HR2.out.below hb'
    have HB3 : Hid (Below w.heap.size w y1) := (HBW.out.trans (HB1.out.mono HBW.out.size)).trans (hb'.mono (by have h1 := HBW.out.size; have h2 := HB1.out.size; omega))
    clear HR1 HR2 HBW
    clear hr' hb' HGA HG2
    go_wp2_with fail
    refine (same_any v' vb l l y1 HV.out HR3.out).mono ?_
    rintro e z1 ⟨rfl, rfl⟩
    rw [decide_eq_true (rfl : l = l)]
    clear HV HGG HI H1 HLN HWW
    go_wp2_with fail
    refine (rdRequest_any readRequest_one reqS_nil vb l z1 HR3.out).mono ?_
    rintro e w2 ⟨hb1, ⟨a, cs, hw, rfl, hG⟩ | ⟨hw, rfl⟩⟩
    · have HWW : Hid (whole (reqS l) = some a) := hw
      have HI : Hid ((Try.prog.info? 38).map (·.size) = some cs.length) := by have := reqK_ok.size hG; rw [List.size_toArray] at this; exact this
      have H1 : Hid (cs.toArray.all (·.oneCell') = true) := all_oneCell_toArray (reqK_ok.one hG)
      have HLN : Hid (cs.length = reqK.z.length) := reqK_ok.len hG
      obtain ⟨g0, HG0⟩ : ∃ x, Hid (x = z1.heap.size) := ⟨_, rfl⟩
      rw [← HG0.out] at hG
      have HGG : Hid (reqK.G w2 g0 a cs) := hG
      have HR1 : Hid (Reads w2 vb l) := HR3.out.below hb1
      have HBW : Hid (Below w.heap.size w w2) := HB3.out.trans (hb1.mono HB3.out.size)
      clear hw hG hb1 HR3 HB3 HG0
      go_wp2_with (first
      | (with_reducible refine wpSeq_allocK allocRequest ?_ ?_ ?_
         · rfl
         · rfl
         skip)
      | (with_reducible refine wpList_store_mid ?_ 38 (.tmp 5) (.tmp 25) ?_ w2.heap.size 0 cs.toArray ?_ ?_ ((Blk.new w2 reqK.z 38).there 0 _ (by rw [List.size_toArray, HLN.out]; omega)) (by rw [List.size_toArray]; exact HI.out) H1.out ?_
         · rfl
         · rfl
         · rfl
         · rfl
         change wpList _ _ _ _ _ ((w2.alloc (.cells reqK.z.toArray 38)).setCells w2.heap.size 0 cs)
         have HGA : Hid (Blk ((w2.alloc (.cells reqK.z.toArray 38)).setCells w2.heap.size 0 cs) w2.heap.size cs 38) := (Blk.new w2 reqK.z 38).whole cs HLN.out
         have HAT : Hid (At w2.heap.size (w2.alloc (.cells reqK.z.toArray 38)) ((w2.alloc (.cells reqK.z.toArray 38)).setCells w2.heap.size 0 cs)) := At.setCells _ _ _ (At.refl _ _)
         have HB2 : Hid (Below w2.heap.size w2 ((w2.alloc (.cells reqK.z.toArray 38)).setCells w2.heap.size 0 cs)) := Below.setCells _ (Nat.le_refl _) _ _ _ (below_alloc _ _)
         have HG2 : Hid (reqK.G ((w2.alloc (.cells reqK.z.toArray 38)).setCells w2.heap.size 0 cs) g0 a cs) := reqK_ok.same HGG.out (fun k h1 h2 => (HAT.out.block k (by omega)).trans ((below_alloc w2 _).block k h2))
         clear HAT
         generalize ((w2.alloc (.cells reqK.z.toArray 38)).setCells w2.heap.size 0 cs) = x2 at *)
      | (with_reducible refine wpSeq_loadK 38 (.tmp 5) ?_ ?_ w2.heap.size ?_ cs _ HGA.out Try.underlying38 ?_ HI.out ?_
         · rfl
         · rfl
         · rfl
         · rfl))
      have HR2 : Hid (Reads x2 vb l) := HR1.out.below HB2.out
      refine (wrRequest HG2.out HWW.out).mono ?_
      rintro e y2 ⟨v', rfl, hr', hb'⟩
      have HV : Hid (Reads y2 v' l) := hr'
      have HR3 : Hid (Reads y2 vb l) := HR2.out.below hb'
      have HB3 : Hid (Below w.heap.size w y2) := (HBW.out.trans (HB2.out.mono HBW.out.size)).trans (hb'.mono (by have h1 := HBW.out.size; have h2 := HB2.out.size; omega))
      clear HR1 HR2 HBW
      clear hr' hb' HGA HG2
      go_wp2_with fail
      refine (same_any v' vb l l y2 HV.out HR3.out).mono ?_
      rintro e z2 ⟨rfl, rfl⟩
      rw [decide_eq_true (rfl : l = l)]
      clear HV HGG HI H1 HLN HWW
      go_wp2_with fail
      refine (rdSigned_any readSigned_one signedR_nil vb l z2 HR3.out).mono ?_
      rintro e w3 ⟨hb1, ⟨a, cs, hw, rfl, hG⟩ | ⟨hw, rfl⟩⟩
      · have HWW : Hid (whole (signedR l) = some a) := hw
        have HI : Hid ((Try.prog.info? 42).map (·.size) = some cs.length) := by have := sgnK_ok.size hG; rw [List.size_toArray] at this; exact this
        have H1 : Hid (cs.toArray.all (·.oneCell') = true) := all_oneCell_toArray (sgnK_ok.one hG)
        have HLN : Hid (cs.length = sgnK.z.length) := sgnK_ok.len hG
        obtain ⟨g0, HG0⟩ : ∃ x, Hid (x = z2.heap.size) := ⟨_, rfl⟩
        rw [← HG0.out] at hG
        have HGG : Hid (sgnK.G w3 g0 a cs) := hG
        have HR1 : Hid (Reads w3 vb l) := HR3.out.below hb1
        have HBW : Hid (Below w.heap.size w w3) := HB3.out.trans (hb1.mono HB3.out.size)
        clear hw hG hb1 HR3 HB3 HG0
        go_wp2_with (first
        | (with_reducible refine wpSeq_allocK allocSigned ?_ ?_ ?_
           · rfl
           · rfl
           skip)
        | (with_reducible refine wpList_store_mid ?_ 42 (.tmp 6) (.tmp 39) ?_ w3.heap.size 0 cs.toArray ?_ ?_ ((Blk.new w3 sgnK.z 42).there 0 _ (by rw [List.size_toArray, HLN.out]; omega)) (by rw [List.size_toArray]; exact HI.out) H1.out ?_
           · rfl
           · rfl
           · rfl
           · rfl
           change wpList _ _ _ _ _ ((w3.alloc (.cells sgnK.z.toArray 42)).setCells w3.heap.size 0 cs)
           have HGA : Hid (Blk ((w3.alloc (.cells sgnK.z.toArray 42)).setCells w3.heap.size 0 cs) w3.heap.size cs 42) := (Blk.new w3 sgnK.z 42).whole cs HLN.out
           have HAT : Hid (At w3.heap.size (w3.alloc (.cells sgnK.z.toArray 42)) ((w3.alloc (.cells sgnK.z.toArray 42)).setCells w3.heap.size 0 cs)) := At.setCells _ _ _ (At.refl _ _)
           have HB3 : Hid (Below w3.heap.size w3 ((w3.alloc (.cells sgnK.z.toArray 42)).setCells w3.heap.size 0 cs)) := Below.setCells _ (Nat.le_refl _) _ _ _ (below_alloc _ _)
           have HG2 : Hid (sgnK.G ((w3.alloc (.cells sgnK.z.toArray 42)).setCells w3.heap.size 0 cs) g0 a cs) := sgnK_ok.same HGG.out (fun k h1 h2 => (HAT.out.block k (by omega)).trans ((below_alloc w3 _).block k h2))
           clear HAT
           generalize ((w3.alloc (.cells sgnK.z.toArray 42)).setCells w3.heap.size 0 cs) = x3 at *)
        | (with_reducible refine wpSeq_loadK 42 (.tmp 6) ?_ ?_ w3.heap.size ?_ cs _ HGA.out Try.underlying42 ?_ HI.out ?_
           · rfl
           · rfl
           · rfl
           · rfl))
        have HR2 : Hid (Reads x3 vb l) := HR1.out.below HB3.out
        refine (wrSigned HG2.out HWW.out).mono ?_
        rintro e y3 ⟨v', rfl, hr', hb'⟩
        have HV : Hid (Reads y3 v' l) := hr'
        have HR3 : Hid (Reads y3 vb l) := HR2.out.below hb'
        have HB3 : Hid (Below w.heap.size w y3) := (HBW.out.trans (HB3.out.mono HBW.out.size)).trans (hb'.mono (by have h1 := HBW.out.size; have h2 := HB3.out.size; omega))
        clear HR1 HR2 HBW
        clear hr' hb' HGA HG2
        go_wp2_with fail
        refine (same_any v' vb l l y3 HV.out HR3.out).mono ?_
        rintro e z3 ⟨rfl, rfl⟩
        rw [decide_eq_true (rfl : l = l)]
        clear HV HGG HI H1 HLN HWW
        go_wp2_with fail
        refine (rdProof_any readProof_one proofR_nil vb l z3 HR3.out).mono ?_
        rintro e w4 ⟨hb1, ⟨a, cs, hw, rfl, hG⟩ | ⟨hw, rfl⟩⟩
        · have HWW : Hid (whole (proofR l) = some a) := hw
          have HI : Hid ((Try.prog.info? 30).map (·.size) = some cs.length) := by have := prfK_ok.size hG; rw [List.size_toArray] at this; exact this
          have H1 : Hid (cs.toArray.all (·.oneCell') = true) := all_oneCell_toArray (prfK_ok.one hG)
          have HLN : Hid (cs.length = prfK.z.length) := prfK_ok.len hG
          obtain ⟨g0, HG0⟩ : ∃ x, Hid (x = z3.heap.size) := ⟨_, rfl⟩
          rw [← HG0.out] at hG
          have HGG : Hid (prfK.G w4 g0 a cs) := hG
          have HR1 : Hid (Reads w4 vb l) := HR3.out.below hb1
          have HBW : Hid (Below w.heap.size w w4) := HB3.out.trans (hb1.mono HB3.out.size)
          clear hw hG hb1 HR3 HB3 HG0
          go_wp2_with (first
          | (with_reducible refine wpSeq_allocK allocProof ?_ ?_ ?_
             · rfl
             · rfl
             skip)
          | (with_reducible refine wpList_store_mid ?_ 30 (.tmp 7) (.tmp 53) ?_ w4.heap.size 0 cs.toArray ?_ ?_ ((Blk.new w4 prfK.z 30).there 0 _ (by rw [List.size_toArray, HLN.out]; omega)) (by rw [List.size_toArray]; exact HI.out) H1.out ?_
             · rfl
             · rfl
             · rfl
             · rfl
             change wpList _ _ _ _ _ ((w4.alloc (.cells prfK.z.toArray 30)).setCells w4.heap.size 0 cs)
             have HGA : Hid (Blk ((w4.alloc (.cells prfK.z.toArray 30)).setCells w4.heap.size 0 cs) w4.heap.size cs 30) := (Blk.new w4 prfK.z 30).whole cs HLN.out
             have HAT : Hid (At w4.heap.size (w4.alloc (.cells prfK.z.toArray 30)) ((w4.alloc (.cells prfK.z.toArray 30)).setCells w4.heap.size 0 cs)) := At.setCells _ _ _ (At.refl _ _)
             have HB4 : Hid (Below w4.heap.size w4 ((w4.alloc (.cells prfK.z.toArray 30)).setCells w4.heap.size 0 cs)) := Below.setCells _ (Nat.le_refl _) _ _ _ (below_alloc _ _)
             have HG2 : Hid (prfK.G ((w4.alloc (.cells prfK.z.toArray 30)).setCells w4.heap.size 0 cs) g0 a cs) := prfK_ok.same HGG.out (fun k h1 h2 => (HAT.out.block k (by omega)).trans ((below_alloc w4 _).block k h2))
             clear HAT
             generalize ((w4.alloc (.cells prfK.z.toArray 30)).setCells w4.heap.size 0 cs) = x4 at *)
          | (with_reducible refine wpSeq_loadK 30 (.tmp 7) ?_ ?_ w4.heap.size ?_ cs _ HGA.out Try.underlying30 ?_ HI.out ?_
             · rfl
             · rfl
             · rfl
             · rfl))
          have HR2 : Hid (Reads x4 vb l) := HR1.out.below HB4.out
          refine (wrProof HG2.out HWW.out).mono ?_
          rintro e y4 ⟨v', rfl, hr', hb'⟩
          have HV : Hid (Reads y4 v' l) := hr'
          have HR3 : Hid (Reads y4 vb l) := HR2.out.below hb'
          have HB3 : Hid (Below w.heap.size w y4) := (HBW.out.trans (HB4.out.mono HBW.out.size)).trans (hb'.mono (by have h1 := HBW.out.size; have h2 := HB4.out.size; omega))
          clear HR1 HR2 HBW
          have HGA2 : Hid (Blk y4 w4.heap.size cs 30) := HGA.out.below hb' HGA.out.lt
          have HG3 : Hid (prfK.G y4 g0 a cs) := prfK_ok.below HG2.out hb'
          clear hr' hb' HGA HG2
          go_wp2_with fail
          refine (same_any v' vb l l y4 HV.out HR3.out).mono ?_
          rintro e z4 ⟨rfl, rfl⟩
          rw [decide_eq_true (rfl : l = l)]
          clear HV
          go_wp2_with (with_reducible refine wpSeq_loadK 30 (.tmp 7) ?_ ?_ w4.heap.size ?_ cs _ HGA2.out Try.underlying30 ?_ HI.out ?_
                       · rfl
                       · rfl
                       · rfl
                       · rfl)
          refine (rtProof HG3.out HWW.out).mono ?_
          rintro e z4' ⟨rfl, hb'⟩
          have HB4 : Hid (Below w.heap.size w z4') := HB3.out.trans (hb'.mono HB3.out.size)
          clear hb' HGA2 HG3 HB3 HR3 HGG HI H1 HLN HWW
          go_wp2_with fail
          refine (rworks_any z4').mono ?_
          rintro e wz ⟨rfl, hbz⟩
          have HF : Hid (Below w.heap.size w wz) := HB4.out.trans (hbz.mono HB4.out.size)
          clear hbz
          go_wp2
          go_ret
          exact ⟨rfl, HF.out⟩
        · obtain ⟨cs, HCS⟩ : ∃ cs, Hid (cs = prfK.z) := ⟨_, rfl⟩
          rw [← HCS.out]
          have HI : Hid ((Try.prog.info? 30).map (·.size) = some cs.length) := by show _ = _; rw [HCS.out]; exact prfK_ok.info
          have H1 : Hid (cs.toArray.all (·.oneCell') = true) := by show _ = _; rw [HCS.out]; exact all_oneCell_toArray prfK_ok.zone
          have HLN : Hid (cs.length = prfK.z.length) := by show _ = _; rw [HCS.out]
          have HR1 : Hid (Reads w4 vb l) := HR3.out.below hb1
          have HBW : Hid (Below w.heap.size w w4) := HB3.out.trans (hb1.mono HB3.out.size)
          clear hw hb1 HR3 HB3 HCS
          go_wp2_with (first
          | (with_reducible refine wpSeq_allocK allocProof ?_ ?_ ?_
             · rfl
             · rfl
             skip)
          | (with_reducible refine wpList_store_mid ?_ 30 (.tmp 7) (.tmp 53) ?_ w4.heap.size 0 cs.toArray ?_ ?_ ((Blk.new w4 prfK.z 30).there 0 _ (by rw [List.size_toArray, HLN.out]; omega)) (by rw [List.size_toArray]; exact HI.out) H1.out ?_
             · rfl
             · rfl
             · rfl
             · rfl
             change wpList _ _ _ _ _ ((w4.alloc (.cells prfK.z.toArray 30)).setCells w4.heap.size 0 cs)
             have HGA : Hid (Blk ((w4.alloc (.cells prfK.z.toArray 30)).setCells w4.heap.size 0 cs) w4.heap.size cs 30) := (Blk.new w4 prfK.z 30).whole cs HLN.out
             have HAT : Hid (At w4.heap.size (w4.alloc (.cells prfK.z.toArray 30)) ((w4.alloc (.cells prfK.z.toArray 30)).setCells w4.heap.size 0 cs)) := At.setCells _ _ _ (At.refl _ _)
             have HB5 : Hid (Below w4.heap.size w4 ((w4.alloc (.cells prfK.z.toArray 30)).setCells w4.heap.size 0 cs)) := Below.setCells _ (Nat.le_refl _) _ _ _ (below_alloc _ _)
             clear HAT
             generalize ((w4.alloc (.cells prfK.z.toArray 30)).setCells w4.heap.size 0 cs) = x5 at *))
          have HR2 : Hid (Reads x5 vb l) := HR1.out.below HB5.out
          have HB3 : Hid (Below w.heap.size w x5) := HBW.out.trans (HB5.out.mono HBW.out.size)
          clear HR1 HBW HGA HI H1 HLN
          refine (rworks_any x5).mono ?_
          rintro e wz ⟨rfl, hbz⟩
          have HF : Hid (Below w.heap.size w wz) := HB3.out.trans (hbz.mono HB3.out.size)
          clear hbz
          go_wp2
          go_ret
          exact ⟨rfl, HF.out⟩
      · obtain ⟨cs, HCS⟩ : ∃ cs, Hid (cs = sgnK.z) := ⟨_, rfl⟩
        rw [← HCS.out]
        have HI : Hid ((Try.prog.info? 42).map (·.size) = some cs.length) := by show _ = _; rw [HCS.out]; exact sgnK_ok.info
        have H1 : Hid (cs.toArray.all (·.oneCell') = true) := by show _ = _; rw [HCS.out]; exact all_oneCell_toArray sgnK_ok.zone
        have HLN : Hid (cs.length = sgnK.z.length) := by show _ = _; rw [HCS.out]
        have HR1 : Hid (Reads w3 vb l) := HR3.out.below hb1
        have HBW : Hid (Below w.heap.size w w3) := HB3.out.trans (hb1.mono HB3.out.size)
        clear hw hb1 HR3 HB3 HCS
        go_wp2_with (first
        | (with_reducible refine wpSeq_allocK allocSigned ?_ ?_ ?_
           · rfl
           · rfl
           skip)
        | (with_reducible refine wpList_store_mid ?_ 42 (.tmp 6) (.tmp 39) ?_ w3.heap.size 0 cs.toArray ?_ ?_ ((Blk.new w3 sgnK.z 42).there 0 _ (by rw [List.size_toArray, HLN.out]; omega)) (by rw [List.size_toArray]; exact HI.out) H1.out ?_
           · rfl
           · rfl
           · rfl
           · rfl
           change wpList _ _ _ _ _ ((w3.alloc (.cells sgnK.z.toArray 42)).setCells w3.heap.size 0 cs)
           have HGA : Hid (Blk ((w3.alloc (.cells sgnK.z.toArray 42)).setCells w3.heap.size 0 cs) w3.heap.size cs 42) := (Blk.new w3 sgnK.z 42).whole cs HLN.out
           have HAT : Hid (At w3.heap.size (w3.alloc (.cells sgnK.z.toArray 42)) ((w3.alloc (.cells sgnK.z.toArray 42)).setCells w3.heap.size 0 cs)) := At.setCells _ _ _ (At.refl _ _)
           have HB6 : Hid (Below w3.heap.size w3 ((w3.alloc (.cells sgnK.z.toArray 42)).setCells w3.heap.size 0 cs)) := Below.setCells _ (Nat.le_refl _) _ _ _ (below_alloc _ _)
           clear HAT
           generalize ((w3.alloc (.cells sgnK.z.toArray 42)).setCells w3.heap.size 0 cs) = x6 at *))
        have HR2 : Hid (Reads x6 vb l) := HR1.out.below HB6.out
        have HB3 : Hid (Below w.heap.size w x6) := HBW.out.trans (HB6.out.mono HBW.out.size)
        clear HR1 HBW HGA HI H1 HLN
        refine (rdProof_any readProof_one proofR_nil vb l x6 HR2.out).mono ?_
        rintro e w7 ⟨hb1, ⟨a, cs, hw, rfl, hG⟩ | ⟨hw, rfl⟩⟩
        · have HWW : Hid (whole (proofR l) = some a) := hw
          have HI : Hid ((Try.prog.info? 30).map (·.size) = some cs.length) := by have := prfK_ok.size hG; rw [List.size_toArray] at this; exact this
          have H1 : Hid (cs.toArray.all (·.oneCell') = true) := all_oneCell_toArray (prfK_ok.one hG)
          have HLN : Hid (cs.length = prfK.z.length) := prfK_ok.len hG
          obtain ⟨g0, HG0⟩ : ∃ x, Hid (x = x6.heap.size) := ⟨_, rfl⟩
          rw [← HG0.out] at hG
          have HGG : Hid (prfK.G w7 g0 a cs) := hG
          have HR1 : Hid (Reads w7 vb l) := HR2.out.below hb1
          have HBW : Hid (Below w.heap.size w w7) := HB3.out.trans (hb1.mono HB3.out.size)
          clear hw hG hb1 HR2 HB3 HG0
          go_wp2_with (first
          | (with_reducible refine wpSeq_allocK allocProof ?_ ?_ ?_
             · rfl
             · rfl
             skip)
          | (with_reducible refine wpList_store_mid ?_ 30 (.tmp 7) (.tmp 53) ?_ w7.heap.size 0 cs.toArray ?_ ?_ ((Blk.new w7 prfK.z 30).there 0 _ (by rw [List.size_toArray, HLN.out]; omega)) (by rw [List.size_toArray]; exact HI.out) H1.out ?_
             · rfl
             · rfl
             · rfl
             · rfl
             change wpList _ _ _ _ _ ((w7.alloc (.cells prfK.z.toArray 30)).setCells w7.heap.size 0 cs)
             have HGA : Hid (Blk ((w7.alloc (.cells prfK.z.toArray 30)).setCells w7.heap.size 0 cs) w7.heap.size cs 30) := (Blk.new w7 prfK.z 30).whole cs HLN.out
             have HAT : Hid (At w7.heap.size (w7.alloc (.cells prfK.z.toArray 30)) ((w7.alloc (.cells prfK.z.toArray 30)).setCells w7.heap.size 0 cs)) := At.setCells _ _ _ (At.refl _ _)
             have HB7 : Hid (Below w7.heap.size w7 ((w7.alloc (.cells prfK.z.toArray 30)).setCells w7.heap.size 0 cs)) := Below.setCells _ (Nat.le_refl _) _ _ _ (below_alloc _ _)
             have HG2 : Hid (prfK.G ((w7.alloc (.cells prfK.z.toArray 30)).setCells w7.heap.size 0 cs) g0 a cs) := prfK_ok.same HGG.out (fun k h1 h2 => (HAT.out.block k (by omega)).trans ((below_alloc w7 _).block k h2))
             clear HAT
             generalize ((w7.alloc (.cells prfK.z.toArray 30)).setCells w7.heap.size 0 cs) = x7 at *)
          | (with_reducible refine wpSeq_loadK 30 (.tmp 7) ?_ ?_ w7.heap.size ?_ cs _ HGA.out Try.underlying30 ?_ HI.out ?_
             · rfl
             · rfl
             · rfl
             · rfl))
          have HR2 : Hid (Reads x7 vb l) := HR1.out.below HB7.out
          refine (wrProof HG2.out HWW.out).mono ?_
          rintro e y7 ⟨v', rfl, hr', hb'⟩
          have HV : Hid (Reads y7 v' l) := hr'
          have HR3 : Hid (Reads y7 vb l) := HR2.out.below hb'
          have HB3 : Hid (Below w.heap.size w y7) := (HBW.out.trans (HB7.out.mono HBW.out.size)).trans (hb'.mono (by have h1 := HBW.out.size; have h2 := HB7.out.size; omega))
          clear HR1 HR2 HBW
          have HGA2 : Hid (Blk y7 w7.heap.size cs 30) := HGA.out.below hb' HGA.out.lt
          have HG3 : Hid (prfK.G y7 g0 a cs) := prfK_ok.below HG2.out hb'
          clear hr' hb' HGA HG2
          go_wp2_with fail
          refine (same_any v' vb l l y7 HV.out HR3.out).mono ?_
          rintro e z7 ⟨rfl, rfl⟩
          rw [decide_eq_true (rfl : l = l)]
          clear HV
          go_wp2_with (with_reducible refine wpSeq_loadK 30 (.tmp 7) ?_ ?_ w7.heap.size ?_ cs _ HGA2.out Try.underlying30 ?_ HI.out ?_
                       · rfl
                       · rfl
                       · rfl
                       · rfl)
          refine (rtProof HG3.out HWW.out).mono ?_
          rintro e z7' ⟨rfl, hb'⟩
          have HB4 : Hid (Below w.heap.size w z7') := HB3.out.trans (hb'.mono HB3.out.size)
          clear hb' HGA2 HG3 HB3 HR3 HGG HI H1 HLN HWW
          go_wp2_with fail
          refine (rworks_any z7').mono ?_
          rintro e wz ⟨rfl, hbz⟩
          have HF : Hid (Below w.heap.size w wz) := HB4.out.trans (hbz.mono HB4.out.size)
          clear hbz
          go_wp2
          go_ret
          exact ⟨rfl, HF.out⟩
        · obtain ⟨cs, HCS⟩ : ∃ cs, Hid (cs = prfK.z) := ⟨_, rfl⟩
          rw [← HCS.out]
          have HI : Hid ((Try.prog.info? 30).map (·.size) = some cs.length) := by show _ = _; rw [HCS.out]; exact prfK_ok.info
          have H1 : Hid (cs.toArray.all (·.oneCell') = true) := by show _ = _; rw [HCS.out]; exact all_oneCell_toArray prfK_ok.zone
          have HLN : Hid (cs.length = prfK.z.length) := by show _ = _; rw [HCS.out]
          have HR1 : Hid (Reads w7 vb l) := HR2.out.below hb1
          have HBW : Hid (Below w.heap.size w w7) := HB3.out.trans (hb1.mono HB3.out.size)
          clear hw hb1 HR2 HB3 HCS
          go_wp2_with (first
          | (with_reducible refine wpSeq_allocK allocProof ?_ ?_ ?_
             · rfl
             · rfl
             skip)
          | (with_reducible refine wpList_store_mid ?_ 30 (.tmp 7) (.tmp 53) ?_ w7.heap.size 0 cs.toArray ?_ ?_ ((Blk.new w7 prfK.z 30).there 0 _ (by rw [List.size_toArray, HLN.out]; omega)) (by rw [List.size_toArray]; exact HI.out) H1.out ?_
             · rfl
             · rfl
             · rfl
             · rfl
             change wpList _ _ _ _ _ ((w7.alloc (.cells prfK.z.toArray 30)).setCells w7.heap.size 0 cs)
             have HGA : Hid (Blk ((w7.alloc (.cells prfK.z.toArray 30)).setCells w7.heap.size 0 cs) w7.heap.size cs 30) := (Blk.new w7 prfK.z 30).whole cs HLN.out
             have HAT : Hid (At w7.heap.size (w7.alloc (.cells prfK.z.toArray 30)) ((w7.alloc (.cells prfK.z.toArray 30)).setCells w7.heap.size 0 cs)) := At.setCells _ _ _ (At.refl _ _)
             have HB8 : Hid (Below w7.heap.size w7 ((w7.alloc (.cells prfK.z.toArray 30)).setCells w7.heap.size 0 cs)) := Below.setCells _ (Nat.le_refl _) _ _ _ (below_alloc _ _)
             clear HAT
             generalize ((w7.alloc (.cells prfK.z.toArray 30)).setCells w7.heap.size 0 cs) = x8 at *))
          have HR2 : Hid (Reads x8 vb l) := HR1.out.below HB8.out
          have HB3 : Hid (Below w.heap.size w x8) := HBW.out.trans (HB8.out.mono HBW.out.size)
          clear HR1 HBW HGA HI H1 HLN
          refine (rworks_any x8).mono ?_
          rintro e wz ⟨rfl, hbz⟩
          have HF : Hid (Below w.heap.size w wz) := HB3.out.trans (hbz.mono HB3.out.size)
          clear hbz
          go_wp2
          go_ret
          exact ⟨rfl, HF.out⟩
    · obtain ⟨cs, HCS⟩ : ∃ cs, Hid (cs = reqK.z) := ⟨_, rfl⟩
      rw [← HCS.out]
      have HI : Hid ((Try.prog.info? 38).map (·.size) = some cs.length) := by show _ = _; rw [HCS.out]; exact reqK_ok.info
      have H1 : Hid (cs.toArray.all (·.oneCell') = true) := by show _ = _; rw [HCS.out]; exact all_oneCell_toArray reqK_ok.zone
      have HLN : Hid (cs.length = reqK.z.length) := by show _ = _; rw [HCS.out]
      have HR1 : Hid (Reads w2 vb l) := HR3.out.below hb1
      have HBW : Hid (Below w.heap.size w w2) := HB3.out.trans (hb1.mono HB3.out.size)
      clear hw hb1 HR3 HB3 HCS
      go_wp2_with (first
      | (with_reducible refine wpSeq_allocK allocRequest ?_ ?_ ?_
         · rfl
         · rfl
         skip)
      | (with_reducible refine wpList_store_mid ?_ 38 (.tmp 5) (.tmp 25) ?_ w2.heap.size 0 cs.toArray ?_ ?_ ((Blk.new w2 reqK.z 38).there 0 _ (by rw [List.size_toArray, HLN.out]; omega)) (by rw [List.size_toArray]; exact HI.out) H1.out ?_
         · rfl
         · rfl
         · rfl
         · rfl
         change wpList _ _ _ _ _ ((w2.alloc (.cells reqK.z.toArray 38)).setCells w2.heap.size 0 cs)
         have HGA : Hid (Blk ((w2.alloc (.cells reqK.z.toArray 38)).setCells w2.heap.size 0 cs) w2.heap.size cs 38) := (Blk.new w2 reqK.z 38).whole cs HLN.out
         have HAT : Hid (At w2.heap.size (w2.alloc (.cells reqK.z.toArray 38)) ((w2.alloc (.cells reqK.z.toArray 38)).setCells w2.heap.size 0 cs)) := At.setCells _ _ _ (At.refl _ _)
         have HB9 : Hid (Below w2.heap.size w2 ((w2.alloc (.cells reqK.z.toArray 38)).setCells w2.heap.size 0 cs)) := Below.setCells _ (Nat.le_refl _) _ _ _ (below_alloc _ _)
         clear HAT
         generalize ((w2.alloc (.cells reqK.z.toArray 38)).setCells w2.heap.size 0 cs) = x9 at *))
      have HR2 : Hid (Reads x9 vb l) := HR1.out.below HB9.out
      have HB3 : Hid (Below w.heap.size w x9) := HBW.out.trans (HB9.out.mono HBW.out.size)
      clear HR1 HBW HGA HI H1 HLN
      refine (rdSigned_any readSigned_one signedR_nil vb l x9 HR2.out).mono ?_
      rintro e w10 ⟨hb1, ⟨a, cs, hw, rfl, hG⟩ | ⟨hw, rfl⟩⟩
      · have HWW : Hid (whole (signedR l) = some a) := hw
        have HI : Hid ((Try.prog.info? 42).map (·.size) = some cs.length) := by have := sgnK_ok.size hG; rw [List.size_toArray] at this; exact this
        have H1 : Hid (cs.toArray.all (·.oneCell') = true) := all_oneCell_toArray (sgnK_ok.one hG)
        have HLN : Hid (cs.length = sgnK.z.length) := sgnK_ok.len hG
        obtain ⟨g0, HG0⟩ : ∃ x, Hid (x = x9.heap.size) := ⟨_, rfl⟩
        rw [← HG0.out] at hG
        have HGG : Hid (sgnK.G w10 g0 a cs) := hG
        have HR1 : Hid (Reads w10 vb l) := HR2.out.below hb1
        have HBW : Hid (Below w.heap.size w w10) := HB3.out.trans (hb1.mono HB3.out.size)
        clear hw hG hb1 HR2 HB3 HG0
        go_wp2_with (first
        | (with_reducible refine wpSeq_allocK allocSigned ?_ ?_ ?_
           · rfl
           · rfl
           skip)
        | (with_reducible refine wpList_store_mid ?_ 42 (.tmp 6) (.tmp 39) ?_ w10.heap.size 0 cs.toArray ?_ ?_ ((Blk.new w10 sgnK.z 42).there 0 _ (by rw [List.size_toArray, HLN.out]; omega)) (by rw [List.size_toArray]; exact HI.out) H1.out ?_
           · rfl
           · rfl
           · rfl
           · rfl
           change wpList _ _ _ _ _ ((w10.alloc (.cells sgnK.z.toArray 42)).setCells w10.heap.size 0 cs)
           have HGA : Hid (Blk ((w10.alloc (.cells sgnK.z.toArray 42)).setCells w10.heap.size 0 cs) w10.heap.size cs 42) := (Blk.new w10 sgnK.z 42).whole cs HLN.out
           have HAT : Hid (At w10.heap.size (w10.alloc (.cells sgnK.z.toArray 42)) ((w10.alloc (.cells sgnK.z.toArray 42)).setCells w10.heap.size 0 cs)) := At.setCells _ _ _ (At.refl _ _)
           have HB10 : Hid (Below w10.heap.size w10 ((w10.alloc (.cells sgnK.z.toArray 42)).setCells w10.heap.size 0 cs)) := Below.setCells _ (Nat.le_refl _) _ _ _ (below_alloc _ _)
           have HG2 : Hid (sgnK.G ((w10.alloc (.cells sgnK.z.toArray 42)).setCells w10.heap.size 0 cs) g0 a cs) := sgnK_ok.same HGG.out (fun k h1 h2 => (HAT.out.block k (by omega)).trans ((below_alloc w10 _).block k h2))
           clear HAT
           generalize ((w10.alloc (.cells sgnK.z.toArray 42)).setCells w10.heap.size 0 cs) = x10 at *)
        | (with_reducible refine wpSeq_loadK 42 (.tmp 6) ?_ ?_ w10.heap.size ?_ cs _ HGA.out Try.underlying42 ?_ HI.out ?_
           · rfl
           · rfl
           · rfl
           · rfl))
        have HR2 : Hid (Reads x10 vb l) := HR1.out.below HB10.out
        refine (wrSigned HG2.out HWW.out).mono ?_
        rintro e y10 ⟨v', rfl, hr', hb'⟩
        have HV : Hid (Reads y10 v' l) := hr'
        have HR3 : Hid (Reads y10 vb l) := HR2.out.below hb'
        have HB3 : Hid (Below w.heap.size w y10) := (HBW.out.trans (HB10.out.mono HBW.out.size)).trans (hb'.mono (by have h1 := HBW.out.size; have h2 := HB10.out.size; omega))
        clear HR1 HR2 HBW
        clear hr' hb' HGA HG2
        go_wp2_with fail
        refine (same_any v' vb l l y10 HV.out HR3.out).mono ?_
        rintro e z10 ⟨rfl, rfl⟩
        rw [decide_eq_true (rfl : l = l)]
        clear HV HGG HI H1 HLN HWW
        go_wp2_with fail
        refine (rdProof_any readProof_one proofR_nil vb l z10 HR3.out).mono ?_
        rintro e w11 ⟨hb1, ⟨a, cs, hw, rfl, hG⟩ | ⟨hw, rfl⟩⟩
        · have HWW : Hid (whole (proofR l) = some a) := hw
          have HI : Hid ((Try.prog.info? 30).map (·.size) = some cs.length) := by have := prfK_ok.size hG; rw [List.size_toArray] at this; exact this
          have H1 : Hid (cs.toArray.all (·.oneCell') = true) := all_oneCell_toArray (prfK_ok.one hG)
          have HLN : Hid (cs.length = prfK.z.length) := prfK_ok.len hG
          obtain ⟨g0, HG0⟩ : ∃ x, Hid (x = z10.heap.size) := ⟨_, rfl⟩
          rw [← HG0.out] at hG
          have HGG : Hid (prfK.G w11 g0 a cs) := hG
          have HR1 : Hid (Reads w11 vb l) := HR3.out.below hb1
          have HBW : Hid (Below w.heap.size w w11) := HB3.out.trans (hb1.mono HB3.out.size)
          clear hw hG hb1 HR3 HB3 HG0
          go_wp2_with (first
          | (with_reducible refine wpSeq_allocK allocProof ?_ ?_ ?_
             · rfl
             · rfl
             skip)
          | (with_reducible refine wpList_store_mid ?_ 30 (.tmp 7) (.tmp 53) ?_ w11.heap.size 0 cs.toArray ?_ ?_ ((Blk.new w11 prfK.z 30).there 0 _ (by rw [List.size_toArray, HLN.out]; omega)) (by rw [List.size_toArray]; exact HI.out) H1.out ?_
             · rfl
             · rfl
             · rfl
             · rfl
             change wpList _ _ _ _ _ ((w11.alloc (.cells prfK.z.toArray 30)).setCells w11.heap.size 0 cs)
             have HGA : Hid (Blk ((w11.alloc (.cells prfK.z.toArray 30)).setCells w11.heap.size 0 cs) w11.heap.size cs 30) := (Blk.new w11 prfK.z 30).whole cs HLN.out
             have HAT : Hid (At w11.heap.size (w11.alloc (.cells prfK.z.toArray 30)) ((w11.alloc (.cells prfK.z.toArray 30)).setCells w11.heap.size 0 cs)) := At.setCells _ _ _ (At.refl _ _)
             have HB11 : Hid (Below w11.heap.size w11 ((w11.alloc (.cells prfK.z.toArray 30)).setCells w11.heap.size 0 cs)) := Below.setCells _ (Nat.le_refl _) _ _ _ (below_alloc _ _)
             have HG2 : Hid (prfK.G ((w11.alloc (.cells prfK.z.toArray 30)).setCells w11.heap.size 0 cs) g0 a cs) := prfK_ok.same HGG.out (fun k h1 h2 => (HAT.out.block k (by omega)).trans ((below_alloc w11 _).block k h2))
             clear HAT
             generalize ((w11.alloc (.cells prfK.z.toArray 30)).setCells w11.heap.size 0 cs) = x11 at *)
          | (with_reducible refine wpSeq_loadK 30 (.tmp 7) ?_ ?_ w11.heap.size ?_ cs _ HGA.out Try.underlying30 ?_ HI.out ?_
             · rfl
             · rfl
             · rfl
             · rfl))
          have HR2 : Hid (Reads x11 vb l) := HR1.out.below HB11.out
          refine (wrProof HG2.out HWW.out).mono ?_
          rintro e y11 ⟨v', rfl, hr', hb'⟩
          have HV : Hid (Reads y11 v' l) := hr'
          have HR3 : Hid (Reads y11 vb l) := HR2.out.below hb'
          have HB3 : Hid (Below w.heap.size w y11) := (HBW.out.trans (HB11.out.mono HBW.out.size)).trans (hb'.mono (by have h1 := HBW.out.size; have h2 := HB11.out.size; omega))
          clear HR1 HR2 HBW
          have HGA2 : Hid (Blk y11 w11.heap.size cs 30) := HGA.out.below hb' HGA.out.lt
          have HG3 : Hid (prfK.G y11 g0 a cs) := prfK_ok.below HG2.out hb'
          clear hr' hb' HGA HG2
          go_wp2_with fail
          refine (same_any v' vb l l y11 HV.out HR3.out).mono ?_
          rintro e z11 ⟨rfl, rfl⟩
          rw [decide_eq_true (rfl : l = l)]
          clear HV
          go_wp2_with (with_reducible refine wpSeq_loadK 30 (.tmp 7) ?_ ?_ w11.heap.size ?_ cs _ HGA2.out Try.underlying30 ?_ HI.out ?_
                       · rfl
                       · rfl
                       · rfl
                       · rfl)
          refine (rtProof HG3.out HWW.out).mono ?_
          rintro e z11' ⟨rfl, hb'⟩
          have HB4 : Hid (Below w.heap.size w z11') := HB3.out.trans (hb'.mono HB3.out.size)
          clear hb' HGA2 HG3 HB3 HR3 HGG HI H1 HLN HWW
          go_wp2_with fail
          refine (rworks_any z11').mono ?_
          rintro e wz ⟨rfl, hbz⟩
          have HF : Hid (Below w.heap.size w wz) := HB4.out.trans (hbz.mono HB4.out.size)
          clear hbz
          go_wp2
          go_ret
          exact ⟨rfl, HF.out⟩
        · obtain ⟨cs, HCS⟩ : ∃ cs, Hid (cs = prfK.z) := ⟨_, rfl⟩
          rw [← HCS.out]
          have HI : Hid ((Try.prog.info? 30).map (·.size) = some cs.length) := by show _ = _; rw [HCS.out]; exact prfK_ok.info
          have H1 : Hid (cs.toArray.all (·.oneCell') = true) := by show _ = _; rw [HCS.out]; exact all_oneCell_toArray prfK_ok.zone
          have HLN : Hid (cs.length = prfK.z.length) := by show _ = _; rw [HCS.out]
          have HR1 : Hid (Reads w11 vb l) := HR3.out.below hb1
          have HBW : Hid (Below w.heap.size w w11) := HB3.out.trans (hb1.mono HB3.out.size)
          clear hw hb1 HR3 HB3 HCS
          go_wp2_with (first
          | (with_reducible refine wpSeq_allocK allocProof ?_ ?_ ?_
             · rfl
             · rfl
             skip)
          | (with_reducible refine wpList_store_mid ?_ 30 (.tmp 7) (.tmp 53) ?_ w11.heap.size 0 cs.toArray ?_ ?_ ((Blk.new w11 prfK.z 30).there 0 _ (by rw [List.size_toArray, HLN.out]; omega)) (by rw [List.size_toArray]; exact HI.out) H1.out ?_
             · rfl
             · rfl
             · rfl
             · rfl
             change wpList _ _ _ _ _ ((w11.alloc (.cells prfK.z.toArray 30)).setCells w11.heap.size 0 cs)
             have HGA : Hid (Blk ((w11.alloc (.cells prfK.z.toArray 30)).setCells w11.heap.size 0 cs) w11.heap.size cs 30) := (Blk.new w11 prfK.z 30).whole cs HLN.out
             have HAT : Hid (At w11.heap.size (w11.alloc (.cells prfK.z.toArray 30)) ((w11.alloc (.cells prfK.z.toArray 30)).setCells w11.heap.size 0 cs)) := At.setCells _ _ _ (At.refl _ _)
             have HB12 : Hid (Below w11.heap.size w11 ((w11.alloc (.cells prfK.z.toArray 30)).setCells w11.heap.size 0 cs)) := Below.setCells _ (Nat.le_refl _) _ _ _ (below_alloc _ _)
             clear HAT
             generalize ((w11.alloc (.cells prfK.z.toArray 30)).setCells w11.heap.size 0 cs) = x12 at *))
          have HR2 : Hid (Reads x12 vb l) := HR1.out.below HB12.out
          have HB3 : Hid (Below w.heap.size w x12) := HBW.out.trans (HB12.out.mono HBW.out.size)
          clear HR1 HBW HGA HI H1 HLN
          refine (rworks_any x12).mono ?_
          rintro e wz ⟨rfl, hbz⟩
          have HF : Hid (Below w.heap.size w wz) := HB3.out.trans (hbz.mono HB3.out.size)
          clear hbz
          go_wp2
          go_ret
          exact ⟨rfl, HF.out⟩
      · obtain ⟨cs, HCS⟩ : ∃ cs, Hid (cs = sgnK.z) := ⟨_, rfl⟩
        rw [← HCS.out]
        have HI : Hid ((Try.prog.info? 42).map (·.size) = some cs.length) := by show _ = _; rw [HCS.out]; exact sgnK_ok.info
        have H1 : Hid (cs.toArray.all (·.oneCell') = true) := by show _ = _; rw [HCS.out]; exact all_oneCell_toArray sgnK_ok.zone
        have HLN : Hid (cs.length = sgnK.z.length) := by show _ = _; rw [HCS.out]
        have HR1 : Hid (Reads w10 vb l) := HR2.out.below hb1
        have HBW : Hid (Below w.heap.size w w10) := HB3.out.trans (hb1.mono HB3.out.size)
        clear hw hb1 HR2 HB3 HCS
        go_wp2_with (first
        | (with_reducible refine wpSeq_allocK allocSigned ?_ ?_ ?_
           · rfl
           · rfl
           skip)
        | (with_reducible refine wpList_store_mid ?_ 42 (.tmp 6) (.tmp 39) ?_ w10.heap.size 0 cs.toArray ?_ ?_ ((Blk.new w10 sgnK.z 42).there 0 _ (by rw [List.size_toArray, HLN.out]; omega)) (by rw [List.size_toArray]; exact HI.out) H1.out ?_
           · rfl
           · rfl
           · rfl
           · rfl
           change wpList _ _ _ _ _ ((w10.alloc (.cells sgnK.z.toArray 42)).setCells w10.heap.size 0 cs)
           have HGA : Hid (Blk ((w10.alloc (.cells sgnK.z.toArray 42)).setCells w10.heap.size 0 cs) w10.heap.size cs 42) := (Blk.new w10 sgnK.z 42).whole cs HLN.out
           have HAT : Hid (At w10.heap.size (w10.alloc (.cells sgnK.z.toArray 42)) ((w10.alloc (.cells sgnK.z.toArray 42)).setCells w10.heap.size 0 cs)) := At.setCells _ _ _ (At.refl _ _)
           have HB13 : Hid (Below w10.heap.size w10 ((w10.alloc (.cells sgnK.z.toArray 42)).setCells w10.heap.size 0 cs)) := Below.setCells _ (Nat.le_refl _) _ _ _ (below_alloc _ _)
           clear HAT
           generalize ((w10.alloc (.cells sgnK.z.toArray 42)).setCells w10.heap.size 0 cs) = x13 at *))
        have HR2 : Hid (Reads x13 vb l) := HR1.out.below HB13.out
        have HB3 : Hid (Below w.heap.size w x13) := HBW.out.trans (HB13.out.mono HBW.out.size)
        clear HR1 HBW HGA HI H1 HLN
        refine (rdProof_any readProof_one proofR_nil vb l x13 HR2.out).mono ?_
        rintro e w14 ⟨hb1, ⟨a, cs, hw, rfl, hG⟩ | ⟨hw, rfl⟩⟩
        · have HWW : Hid (whole (proofR l) = some a) := hw
          have HI : Hid ((Try.prog.info? 30).map (·.size) = some cs.length) := by have := prfK_ok.size hG; rw [List.size_toArray] at this; exact this
          have H1 : Hid (cs.toArray.all (·.oneCell') = true) := all_oneCell_toArray (prfK_ok.one hG)
          have HLN : Hid (cs.length = prfK.z.length) := prfK_ok.len hG
          obtain ⟨g0, HG0⟩ : ∃ x, Hid (x = x13.heap.size) := ⟨_, rfl⟩
          rw [← HG0.out] at hG
          have HGG : Hid (prfK.G w14 g0 a cs) := hG
          have HR1 : Hid (Reads w14 vb l) := HR2.out.below hb1
          have HBW : Hid (Below w.heap.size w w14) := HB3.out.trans (hb1.mono HB3.out.size)
          clear hw hG hb1 HR2 HB3 HG0
          go_wp2_with (first
          | (with_reducible refine wpSeq_allocK allocProof ?_ ?_ ?_
             · rfl
             · rfl
             skip)
          | (with_reducible refine wpList_store_mid ?_ 30 (.tmp 7) (.tmp 53) ?_ w14.heap.size 0 cs.toArray ?_ ?_ ((Blk.new w14 prfK.z 30).there 0 _ (by rw [List.size_toArray, HLN.out]; omega)) (by rw [List.size_toArray]; exact HI.out) H1.out ?_
             · rfl
             · rfl
             · rfl
             · rfl
             change wpList _ _ _ _ _ ((w14.alloc (.cells prfK.z.toArray 30)).setCells w14.heap.size 0 cs)
             have HGA : Hid (Blk ((w14.alloc (.cells prfK.z.toArray 30)).setCells w14.heap.size 0 cs) w14.heap.size cs 30) := (Blk.new w14 prfK.z 30).whole cs HLN.out
             have HAT : Hid (At w14.heap.size (w14.alloc (.cells prfK.z.toArray 30)) ((w14.alloc (.cells prfK.z.toArray 30)).setCells w14.heap.size 0 cs)) := At.setCells _ _ _ (At.refl _ _)
             have HB14 : Hid (Below w14.heap.size w14 ((w14.alloc (.cells prfK.z.toArray 30)).setCells w14.heap.size 0 cs)) := Below.setCells _ (Nat.le_refl _) _ _ _ (below_alloc _ _)
             have HG2 : Hid (prfK.G ((w14.alloc (.cells prfK.z.toArray 30)).setCells w14.heap.size 0 cs) g0 a cs) := prfK_ok.same HGG.out (fun k h1 h2 => (HAT.out.block k (by omega)).trans ((below_alloc w14 _).block k h2))
             clear HAT
             generalize ((w14.alloc (.cells prfK.z.toArray 30)).setCells w14.heap.size 0 cs) = x14 at *)
          | (with_reducible refine wpSeq_loadK 30 (.tmp 7) ?_ ?_ w14.heap.size ?_ cs _ HGA.out Try.underlying30 ?_ HI.out ?_
             · rfl
             · rfl
             · rfl
             · rfl))
          have HR2 : Hid (Reads x14 vb l) := HR1.out.below HB14.out
          refine (wrProof HG2.out HWW.out).mono ?_
          rintro e y14 ⟨v', rfl, hr', hb'⟩
          have HV : Hid (Reads y14 v' l) := hr'
          have HR3 : Hid (Reads y14 vb l) := HR2.out.below hb'
          have HB3 : Hid (Below w.heap.size w y14) := (HBW.out.trans (HB14.out.mono HBW.out.size)).trans (hb'.mono (by have h1 := HBW.out.size; have h2 := HB14.out.size; omega))
          clear HR1 HR2 HBW
          have HGA2 : Hid (Blk y14 w14.heap.size cs 30) := HGA.out.below hb' HGA.out.lt
          have HG3 : Hid (prfK.G y14 g0 a cs) := prfK_ok.below HG2.out hb'
          clear hr' hb' HGA HG2
          go_wp2_with fail
          refine (same_any v' vb l l y14 HV.out HR3.out).mono ?_
          rintro e z14 ⟨rfl, rfl⟩
          rw [decide_eq_true (rfl : l = l)]
          clear HV
          go_wp2_with (with_reducible refine wpSeq_loadK 30 (.tmp 7) ?_ ?_ w14.heap.size ?_ cs _ HGA2.out Try.underlying30 ?_ HI.out ?_
                       · rfl
                       · rfl
                       · rfl
                       · rfl)
          refine (rtProof HG3.out HWW.out).mono ?_
          rintro e z14' ⟨rfl, hb'⟩
          have HB4 : Hid (Below w.heap.size w z14') := HB3.out.trans (hb'.mono HB3.out.size)
          clear hb' HGA2 HG3 HB3 HR3 HGG HI H1 HLN HWW
          go_wp2_with fail
          refine (rworks_any z14').mono ?_
          rintro e wz ⟨rfl, hbz⟩
          have HF : Hid (Below w.heap.size w wz) := HB4.out.trans (hbz.mono HB4.out.size)
          clear hbz
          go_wp2
          go_ret
          exact ⟨rfl, HF.out⟩
        · obtain ⟨cs, HCS⟩ : ∃ cs, Hid (cs = prfK.z) := ⟨_, rfl⟩
          rw [← HCS.out]
          have HI : Hid ((Try.prog.info? 30).map (·.size) = some cs.length) := by show _ = _; rw [HCS.out]; exact prfK_ok.info
          have H1 : Hid (cs.toArray.all (·.oneCell') = true) := by show _ = _; rw [HCS.out]; exact all_oneCell_toArray prfK_ok.zone
          have HLN : Hid (cs.length = prfK.z.length) := by show _ = _; rw [HCS.out]
          have HR1 : Hid (Reads w14 vb l) := HR2.out.below hb1
          have HBW : Hid (Below w.heap.size w w14) := HB3.out.trans (hb1.mono HB3.out.size)
          clear hw hb1 HR2 HB3 HCS
          go_wp2_with (first
          | (with_reducible refine wpSeq_allocK allocProof ?_ ?_ ?_
             · rfl
             · rfl
             skip)
          | (with_reducible refine wpList_store_mid ?_ 30 (.tmp 7) (.tmp 53) ?_ w14.heap.size 0 cs.toArray ?_ ?_ ((Blk.new w14 prfK.z 30).there 0 _ (by rw [List.size_toArray, HLN.out]; omega)) (by rw [List.size_toArray]; exact HI.out) H1.out ?_
             · rfl
             · rfl
             · rfl
             · rfl
             change wpList _ _ _ _ _ ((w14.alloc (.cells prfK.z.toArray 30)).setCells w14.heap.size 0 cs)
             have HGA : Hid (Blk ((w14.alloc (.cells prfK.z.toArray 30)).setCells w14.heap.size 0 cs) w14.heap.size cs 30) := (Blk.new w14 prfK.z 30).whole cs HLN.out
             have HAT : Hid (At w14.heap.size (w14.alloc (.cells prfK.z.toArray 30)) ((w14.alloc (.cells prfK.z.toArray 30)).setCells w14.heap.size 0 cs)) := At.setCells _ _ _ (At.refl _ _)
             have HB15 : Hid (Below w14.heap.size w14 ((w14.alloc (.cells prfK.z.toArray 30)).setCells w14.heap.size 0 cs)) := Below.setCells _ (Nat.le_refl _) _ _ _ (below_alloc _ _)
             clear HAT
             generalize ((w14.alloc (.cells prfK.z.toArray 30)).setCells w14.heap.size 0 cs) = x15 at *))
          have HR2 : Hid (Reads x15 vb l) := HR1.out.below HB15.out
          have HB3 : Hid (Below w.heap.size w x15) := HBW.out.trans (HB15.out.mono HBW.out.size)
          clear HR1 HBW HGA HI H1 HLN
          refine (rworks_any x15).mono ?_
          rintro e wz ⟨rfl, hbz⟩
          have HF : Hid (Below w.heap.size w wz) := HB3.out.trans (hbz.mono HB3.out.size)
          clear hbz
          go_wp2
          go_ret
          exact ⟨rfl, HF.out⟩
  · obtain ⟨cs, HCS⟩ : ∃ cs, Hid (cs = bindK.z) := ⟨_, rfl⟩
    rw [← HCS.out]
    have HI : Hid ((Try.prog.info? 25).map (·.size) = some cs.length) := by show _ = _; rw [HCS.out]; exact bindK_ok.info
    have H1 : Hid (cs.toArray.all (·.oneCell') = true) := by show _ = _; rw [HCS.out]; exact all_oneCell_toArray bindK_ok.zone
    have HLN : Hid (cs.length = bindK.z.length) := by show _ = _; rw [HCS.out]
    have HR1 : Hid (Reads w1 vb l) := HR.out.below hb1
    have HBW : Hid (Below w.heap.size w w1) := HBL.out.trans (hb1.mono HBL.out.size)
    clear hw hb1 HR HBL HCS
    go_wp2_with (first
    | (with_reducible refine wpSeq_allocK allocBinding ?_ ?_ ?_
       · rfl
       · rfl
       skip)
    | (with_reducible refine wpList_store_mid ?_ 25 (.tmp 3) (.tmp 11) ?_ w1.heap.size 0 cs.toArray ?_ ?_ ((Blk.new w1 bindK.z 25).there 0 _ (by rw [List.size_toArray, HLN.out]; omega)) (by rw [List.size_toArray]; exact HI.out) H1.out ?_
       · rfl
       · rfl
       · rfl
       · rfl
       change wpList _ _ _ _ _ ((w1.alloc (.cells bindK.z.toArray 25)).setCells w1.heap.size 0 cs)
       have HGA : Hid (Blk ((w1.alloc (.cells bindK.z.toArray 25)).setCells w1.heap.size 0 cs) w1.heap.size cs 25) := (Blk.new w1 bindK.z 25).whole cs HLN.out
       have HAT : Hid (At w1.heap.size (w1.alloc (.cells bindK.z.toArray 25)) ((w1.alloc (.cells bindK.z.toArray 25)).setCells w1.heap.size 0 cs)) := At.setCells _ _ _ (At.refl _ _)
       have HB16 : Hid (Below w1.heap.size w1 ((w1.alloc (.cells bindK.z.toArray 25)).setCells w1.heap.size 0 cs)) := Below.setCells _ (Nat.le_refl _) _ _ _ (below_alloc _ _)
       clear HAT
       generalize ((w1.alloc (.cells bindK.z.toArray 25)).setCells w1.heap.size 0 cs) = x16 at *))
    have HR2 : Hid (Reads x16 vb l) := HR1.out.below HB16.out
    have HB3 : Hid (Below w.heap.size w x16) := HBW.out.trans (HB16.out.mono HBW.out.size)
    clear HR1 HBW HGA HI H1 HLN
    refine (rdRequest_any readRequest_one reqS_nil vb l x16 HR2.out).mono ?_
    rintro e w17 ⟨hb1, ⟨a, cs, hw, rfl, hG⟩ | ⟨hw, rfl⟩⟩
    · have HWW : Hid (whole (reqS l) = some a) := hw
      have HI : Hid ((Try.prog.info? 38).map (·.size) = some cs.length) := by have := reqK_ok.size hG; rw [List.size_toArray] at this; exact this
      have H1 : Hid (cs.toArray.all (·.oneCell') = true) := all_oneCell_toArray (reqK_ok.one hG)
      have HLN : Hid (cs.length = reqK.z.length) := reqK_ok.len hG
      obtain ⟨g0, HG0⟩ : ∃ x, Hid (x = x16.heap.size) := ⟨_, rfl⟩
      rw [← HG0.out] at hG
      have HGG : Hid (reqK.G w17 g0 a cs) := hG
      have HR1 : Hid (Reads w17 vb l) := HR2.out.below hb1
      have HBW : Hid (Below w.heap.size w w17) := HB3.out.trans (hb1.mono HB3.out.size)
      clear hw hG hb1 HR2 HB3 HG0
      go_wp2_with (first
      | (with_reducible refine wpSeq_allocK allocRequest ?_ ?_ ?_
         · rfl
         · rfl
         skip)
      | (with_reducible refine wpList_store_mid ?_ 38 (.tmp 5) (.tmp 25) ?_ w17.heap.size 0 cs.toArray ?_ ?_ ((Blk.new w17 reqK.z 38).there 0 _ (by rw [List.size_toArray, HLN.out]; omega)) (by rw [List.size_toArray]; exact HI.out) H1.out ?_
         · rfl
         · rfl
         · rfl
         · rfl
         change wpList _ _ _ _ _ ((w17.alloc (.cells reqK.z.toArray 38)).setCells w17.heap.size 0 cs)
         have HGA : Hid (Blk ((w17.alloc (.cells reqK.z.toArray 38)).setCells w17.heap.size 0 cs) w17.heap.size cs 38) := (Blk.new w17 reqK.z 38).whole cs HLN.out
         have HAT : Hid (At w17.heap.size (w17.alloc (.cells reqK.z.toArray 38)) ((w17.alloc (.cells reqK.z.toArray 38)).setCells w17.heap.size 0 cs)) := At.setCells _ _ _ (At.refl _ _)
         have HB17 : Hid (Below w17.heap.size w17 ((w17.alloc (.cells reqK.z.toArray 38)).setCells w17.heap.size 0 cs)) := Below.setCells _ (Nat.le_refl _) _ _ _ (below_alloc _ _)
         have HG2 : Hid (reqK.G ((w17.alloc (.cells reqK.z.toArray 38)).setCells w17.heap.size 0 cs) g0 a cs) := reqK_ok.same HGG.out (fun k h1 h2 => (HAT.out.block k (by omega)).trans ((below_alloc w17 _).block k h2))
         clear HAT
         generalize ((w17.alloc (.cells reqK.z.toArray 38)).setCells w17.heap.size 0 cs) = x17 at *)
      | (with_reducible refine wpSeq_loadK 38 (.tmp 5) ?_ ?_ w17.heap.size ?_ cs _ HGA.out Try.underlying38 ?_ HI.out ?_
         · rfl
         · rfl
         · rfl
         · rfl))
      have HR2 : Hid (Reads x17 vb l) := HR1.out.below HB17.out
      refine (wrRequest HG2.out HWW.out).mono ?_
      rintro e y17 ⟨v', rfl, hr', hb'⟩
      have HV : Hid (Reads y17 v' l) := hr'
      have HR3 : Hid (Reads y17 vb l) := HR2.out.below hb'
      have HB3 : Hid (Below w.heap.size w y17) := (HBW.out.trans (HB17.out.mono HBW.out.size)).trans (hb'.mono (by have h1 := HBW.out.size; have h2 := HB17.out.size; omega))
      clear HR1 HR2 HBW
      clear hr' hb' HGA HG2
      go_wp2_with fail
      refine (same_any v' vb l l y17 HV.out HR3.out).mono ?_
      rintro e z17 ⟨rfl, rfl⟩
      rw [decide_eq_true (rfl : l = l)]
      clear HV HGG HI H1 HLN HWW
      go_wp2_with fail
      refine (rdSigned_any readSigned_one signedR_nil vb l z17 HR3.out).mono ?_
      rintro e w18 ⟨hb1, ⟨a, cs, hw, rfl, hG⟩ | ⟨hw, rfl⟩⟩
      · have HWW : Hid (whole (signedR l) = some a) := hw
        have HI : Hid ((Try.prog.info? 42).map (·.size) = some cs.length) := by have := sgnK_ok.size hG; rw [List.size_toArray] at this; exact this
        have H1 : Hid (cs.toArray.all (·.oneCell') = true) := all_oneCell_toArray (sgnK_ok.one hG)
        have HLN : Hid (cs.length = sgnK.z.length) := sgnK_ok.len hG
        obtain ⟨g0, HG0⟩ : ∃ x, Hid (x = z17.heap.size) := ⟨_, rfl⟩
        rw [← HG0.out] at hG
        have HGG : Hid (sgnK.G w18 g0 a cs) := hG
        have HR1 : Hid (Reads w18 vb l) := HR3.out.below hb1
        have HBW : Hid (Below w.heap.size w w18) := HB3.out.trans (hb1.mono HB3.out.size)
        clear hw hG hb1 HR3 HB3 HG0
        go_wp2_with (first
        | (with_reducible refine wpSeq_allocK allocSigned ?_ ?_ ?_
           · rfl
           · rfl
           skip)
        | (with_reducible refine wpList_store_mid ?_ 42 (.tmp 6) (.tmp 39) ?_ w18.heap.size 0 cs.toArray ?_ ?_ ((Blk.new w18 sgnK.z 42).there 0 _ (by rw [List.size_toArray, HLN.out]; omega)) (by rw [List.size_toArray]; exact HI.out) H1.out ?_
           · rfl
           · rfl
           · rfl
           · rfl
           change wpList _ _ _ _ _ ((w18.alloc (.cells sgnK.z.toArray 42)).setCells w18.heap.size 0 cs)
           have HGA : Hid (Blk ((w18.alloc (.cells sgnK.z.toArray 42)).setCells w18.heap.size 0 cs) w18.heap.size cs 42) := (Blk.new w18 sgnK.z 42).whole cs HLN.out
           have HAT : Hid (At w18.heap.size (w18.alloc (.cells sgnK.z.toArray 42)) ((w18.alloc (.cells sgnK.z.toArray 42)).setCells w18.heap.size 0 cs)) := At.setCells _ _ _ (At.refl _ _)
           have HB18 : Hid (Below w18.heap.size w18 ((w18.alloc (.cells sgnK.z.toArray 42)).setCells w18.heap.size 0 cs)) := Below.setCells _ (Nat.le_refl _) _ _ _ (below_alloc _ _)
           have HG2 : Hid (sgnK.G ((w18.alloc (.cells sgnK.z.toArray 42)).setCells w18.heap.size 0 cs) g0 a cs) := sgnK_ok.same HGG.out (fun k h1 h2 => (HAT.out.block k (by omega)).trans ((below_alloc w18 _).block k h2))
           clear HAT
           generalize ((w18.alloc (.cells sgnK.z.toArray 42)).setCells w18.heap.size 0 cs) = x18 at *)
        | (with_reducible refine wpSeq_loadK 42 (.tmp 6) ?_ ?_ w18.heap.size ?_ cs _ HGA.out Try.underlying42 ?_ HI.out ?_
           · rfl
           · rfl
           · rfl
           · rfl))
        have HR2 : Hid (Reads x18 vb l) := HR1.out.below HB18.out
        refine (wrSigned HG2.out HWW.out).mono ?_
        rintro e y18 ⟨v', rfl, hr', hb'⟩
        have HV : Hid (Reads y18 v' l) := hr'
        have HR3 : Hid (Reads y18 vb l) := HR2.out.below hb'
        have HB3 : Hid (Below w.heap.size w y18) := (HBW.out.trans (HB18.out.mono HBW.out.size)).trans (hb'.mono (by have h1 := HBW.out.size; have h2 := HB18.out.size; omega))
        clear HR1 HR2 HBW
        clear hr' hb' HGA HG2
        go_wp2_with fail
        refine (same_any v' vb l l y18 HV.out HR3.out).mono ?_
        rintro e z18 ⟨rfl, rfl⟩
        rw [decide_eq_true (rfl : l = l)]
        clear HV HGG HI H1 HLN HWW
        go_wp2_with fail
        refine (rdProof_any readProof_one proofR_nil vb l z18 HR3.out).mono ?_
        rintro e w19 ⟨hb1, ⟨a, cs, hw, rfl, hG⟩ | ⟨hw, rfl⟩⟩
        · have HWW : Hid (whole (proofR l) = some a) := hw
          have HI : Hid ((Try.prog.info? 30).map (·.size) = some cs.length) := by have := prfK_ok.size hG; rw [List.size_toArray] at this; exact this
          have H1 : Hid (cs.toArray.all (·.oneCell') = true) := all_oneCell_toArray (prfK_ok.one hG)
          have HLN : Hid (cs.length = prfK.z.length) := prfK_ok.len hG
          obtain ⟨g0, HG0⟩ : ∃ x, Hid (x = z18.heap.size) := ⟨_, rfl⟩
          rw [← HG0.out] at hG
          have HGG : Hid (prfK.G w19 g0 a cs) := hG
          have HR1 : Hid (Reads w19 vb l) := HR3.out.below hb1
          have HBW : Hid (Below w.heap.size w w19) := HB3.out.trans (hb1.mono HB3.out.size)
          clear hw hG hb1 HR3 HB3 HG0
          go_wp2_with (first
          | (with_reducible refine wpSeq_allocK allocProof ?_ ?_ ?_
             · rfl
             · rfl
             skip)
          | (with_reducible refine wpList_store_mid ?_ 30 (.tmp 7) (.tmp 53) ?_ w19.heap.size 0 cs.toArray ?_ ?_ ((Blk.new w19 prfK.z 30).there 0 _ (by rw [List.size_toArray, HLN.out]; omega)) (by rw [List.size_toArray]; exact HI.out) H1.out ?_
             · rfl
             · rfl
             · rfl
             · rfl
             change wpList _ _ _ _ _ ((w19.alloc (.cells prfK.z.toArray 30)).setCells w19.heap.size 0 cs)
             have HGA : Hid (Blk ((w19.alloc (.cells prfK.z.toArray 30)).setCells w19.heap.size 0 cs) w19.heap.size cs 30) := (Blk.new w19 prfK.z 30).whole cs HLN.out
             have HAT : Hid (At w19.heap.size (w19.alloc (.cells prfK.z.toArray 30)) ((w19.alloc (.cells prfK.z.toArray 30)).setCells w19.heap.size 0 cs)) := At.setCells _ _ _ (At.refl _ _)
             have HB19 : Hid (Below w19.heap.size w19 ((w19.alloc (.cells prfK.z.toArray 30)).setCells w19.heap.size 0 cs)) := Below.setCells _ (Nat.le_refl _) _ _ _ (below_alloc _ _)
             have HG2 : Hid (prfK.G ((w19.alloc (.cells prfK.z.toArray 30)).setCells w19.heap.size 0 cs) g0 a cs) := prfK_ok.same HGG.out (fun k h1 h2 => (HAT.out.block k (by omega)).trans ((below_alloc w19 _).block k h2))
             clear HAT
             generalize ((w19.alloc (.cells prfK.z.toArray 30)).setCells w19.heap.size 0 cs) = x19 at *)
          | (with_reducible refine wpSeq_loadK 30 (.tmp 7) ?_ ?_ w19.heap.size ?_ cs _ HGA.out Try.underlying30 ?_ HI.out ?_
             · rfl
             · rfl
             · rfl
             · rfl))
          have HR2 : Hid (Reads x19 vb l) := HR1.out.below HB19.out
          refine (wrProof HG2.out HWW.out).mono ?_
          rintro e y19 ⟨v', rfl, hr', hb'⟩
          have HV : Hid (Reads y19 v' l) := hr'
          have HR3 : Hid (Reads y19 vb l) := HR2.out.below hb'
          have HB3 : Hid (Below w.heap.size w y19) := (HBW.out.trans (HB19.out.mono HBW.out.size)).trans (hb'.mono (by have h1 := HBW.out.size; have h2 := HB19.out.size; omega))
          clear HR1 HR2 HBW
          have HGA2 : Hid (Blk y19 w19.heap.size cs 30) := HGA.out.below hb' HGA.out.lt
          have HG3 : Hid (prfK.G y19 g0 a cs) := prfK_ok.below HG2.out hb'
          clear hr' hb' HGA HG2
          go_wp2_with fail
          refine (same_any v' vb l l y19 HV.out HR3.out).mono ?_
          rintro e z19 ⟨rfl, rfl⟩
          rw [decide_eq_true (rfl : l = l)]
          clear HV
          go_wp2_with (with_reducible refine wpSeq_loadK 30 (.tmp 7) ?_ ?_ w19.heap.size ?_ cs _ HGA2.out Try.underlying30 ?_ HI.out ?_
                       · rfl
                       · rfl
                       · rfl
                       · rfl)
          refine (rtProof HG3.out HWW.out).mono ?_
          rintro e z19' ⟨rfl, hb'⟩
          have HB4 : Hid (Below w.heap.size w z19') := HB3.out.trans (hb'.mono HB3.out.size)
          clear hb' HGA2 HG3 HB3 HR3 HGG HI H1 HLN HWW
          go_wp2_with fail
          refine (rworks_any z19').mono ?_
          rintro e wz ⟨rfl, hbz⟩
          have HF : Hid (Below w.heap.size w wz) := HB4.out.trans (hbz.mono HB4.out.size)
          clear hbz
          go_wp2
          go_ret
          exact ⟨rfl, HF.out⟩
        · obtain ⟨cs, HCS⟩ : ∃ cs, Hid (cs = prfK.z) := ⟨_, rfl⟩
          rw [← HCS.out]
          have HI : Hid ((Try.prog.info? 30).map (·.size) = some cs.length) := by show _ = _; rw [HCS.out]; exact prfK_ok.info
          have H1 : Hid (cs.toArray.all (·.oneCell') = true) := by show _ = _; rw [HCS.out]; exact all_oneCell_toArray prfK_ok.zone
          have HLN : Hid (cs.length = prfK.z.length) := by show _ = _; rw [HCS.out]
          have HR1 : Hid (Reads w19 vb l) := HR3.out.below hb1
          have HBW : Hid (Below w.heap.size w w19) := HB3.out.trans (hb1.mono HB3.out.size)
          clear hw hb1 HR3 HB3 HCS
          go_wp2_with (first
          | (with_reducible refine wpSeq_allocK allocProof ?_ ?_ ?_
             · rfl
             · rfl
             skip)
          | (with_reducible refine wpList_store_mid ?_ 30 (.tmp 7) (.tmp 53) ?_ w19.heap.size 0 cs.toArray ?_ ?_ ((Blk.new w19 prfK.z 30).there 0 _ (by rw [List.size_toArray, HLN.out]; omega)) (by rw [List.size_toArray]; exact HI.out) H1.out ?_
             · rfl
             · rfl
             · rfl
             · rfl
             change wpList _ _ _ _ _ ((w19.alloc (.cells prfK.z.toArray 30)).setCells w19.heap.size 0 cs)
             have HGA : Hid (Blk ((w19.alloc (.cells prfK.z.toArray 30)).setCells w19.heap.size 0 cs) w19.heap.size cs 30) := (Blk.new w19 prfK.z 30).whole cs HLN.out
             have HAT : Hid (At w19.heap.size (w19.alloc (.cells prfK.z.toArray 30)) ((w19.alloc (.cells prfK.z.toArray 30)).setCells w19.heap.size 0 cs)) := At.setCells _ _ _ (At.refl _ _)
             have HB20 : Hid (Below w19.heap.size w19 ((w19.alloc (.cells prfK.z.toArray 30)).setCells w19.heap.size 0 cs)) := Below.setCells _ (Nat.le_refl _) _ _ _ (below_alloc _ _)
             clear HAT
             generalize ((w19.alloc (.cells prfK.z.toArray 30)).setCells w19.heap.size 0 cs) = x20 at *))
          have HR2 : Hid (Reads x20 vb l) := HR1.out.below HB20.out
          have HB3 : Hid (Below w.heap.size w x20) := HBW.out.trans (HB20.out.mono HBW.out.size)
          clear HR1 HBW HGA HI H1 HLN
          refine (rworks_any x20).mono ?_
          rintro e wz ⟨rfl, hbz⟩
          have HF : Hid (Below w.heap.size w wz) := HB3.out.trans (hbz.mono HB3.out.size)
          clear hbz
          go_wp2
          go_ret
          exact ⟨rfl, HF.out⟩
      · obtain ⟨cs, HCS⟩ : ∃ cs, Hid (cs = sgnK.z) := ⟨_, rfl⟩
        rw [← HCS.out]
        have HI : Hid ((Try.prog.info? 42).map (·.size) = some cs.length) := by show _ = _; rw [HCS.out]; exact sgnK_ok.info
        have H1 : Hid (cs.toArray.all (·.oneCell') = true) := by show _ = _; rw [HCS.out]; exact all_oneCell_toArray sgnK_ok.zone
        have HLN : Hid (cs.length = sgnK.z.length) := by show _ = _; rw [HCS.out]
        have HR1 : Hid (Reads w18 vb l) := HR3.out.below hb1
        have HBW : Hid (Below w.heap.size w w18) := HB3.out.trans (hb1.mono HB3.out.size)
        clear hw hb1 HR3 HB3 HCS
        go_wp2_with (first
        | (with_reducible refine wpSeq_allocK allocSigned ?_ ?_ ?_
           · rfl
           · rfl
           skip)
        | (with_reducible refine wpList_store_mid ?_ 42 (.tmp 6) (.tmp 39) ?_ w18.heap.size 0 cs.toArray ?_ ?_ ((Blk.new w18 sgnK.z 42).there 0 _ (by rw [List.size_toArray, HLN.out]; omega)) (by rw [List.size_toArray]; exact HI.out) H1.out ?_
           · rfl
           · rfl
           · rfl
           · rfl
           change wpList _ _ _ _ _ ((w18.alloc (.cells sgnK.z.toArray 42)).setCells w18.heap.size 0 cs)
           have HGA : Hid (Blk ((w18.alloc (.cells sgnK.z.toArray 42)).setCells w18.heap.size 0 cs) w18.heap.size cs 42) := (Blk.new w18 sgnK.z 42).whole cs HLN.out
           have HAT : Hid (At w18.heap.size (w18.alloc (.cells sgnK.z.toArray 42)) ((w18.alloc (.cells sgnK.z.toArray 42)).setCells w18.heap.size 0 cs)) := At.setCells _ _ _ (At.refl _ _)
           have HB21 : Hid (Below w18.heap.size w18 ((w18.alloc (.cells sgnK.z.toArray 42)).setCells w18.heap.size 0 cs)) := Below.setCells _ (Nat.le_refl _) _ _ _ (below_alloc _ _)
           clear HAT
           generalize ((w18.alloc (.cells sgnK.z.toArray 42)).setCells w18.heap.size 0 cs) = x21 at *))
        have HR2 : Hid (Reads x21 vb l) := HR1.out.below HB21.out
        have HB3 : Hid (Below w.heap.size w x21) := HBW.out.trans (HB21.out.mono HBW.out.size)
        clear HR1 HBW HGA HI H1 HLN
        refine (rdProof_any readProof_one proofR_nil vb l x21 HR2.out).mono ?_
        rintro e w22 ⟨hb1, ⟨a, cs, hw, rfl, hG⟩ | ⟨hw, rfl⟩⟩
        · have HWW : Hid (whole (proofR l) = some a) := hw
          have HI : Hid ((Try.prog.info? 30).map (·.size) = some cs.length) := by have := prfK_ok.size hG; rw [List.size_toArray] at this; exact this
          have H1 : Hid (cs.toArray.all (·.oneCell') = true) := all_oneCell_toArray (prfK_ok.one hG)
          have HLN : Hid (cs.length = prfK.z.length) := prfK_ok.len hG
          obtain ⟨g0, HG0⟩ : ∃ x, Hid (x = x21.heap.size) := ⟨_, rfl⟩
          rw [← HG0.out] at hG
          have HGG : Hid (prfK.G w22 g0 a cs) := hG
          have HR1 : Hid (Reads w22 vb l) := HR2.out.below hb1
          have HBW : Hid (Below w.heap.size w w22) := HB3.out.trans (hb1.mono HB3.out.size)
          clear hw hG hb1 HR2 HB3 HG0
          go_wp2_with (first
          | (with_reducible refine wpSeq_allocK allocProof ?_ ?_ ?_
             · rfl
             · rfl
             skip)
          | (with_reducible refine wpList_store_mid ?_ 30 (.tmp 7) (.tmp 53) ?_ w22.heap.size 0 cs.toArray ?_ ?_ ((Blk.new w22 prfK.z 30).there 0 _ (by rw [List.size_toArray, HLN.out]; omega)) (by rw [List.size_toArray]; exact HI.out) H1.out ?_
             · rfl
             · rfl
             · rfl
             · rfl
             change wpList _ _ _ _ _ ((w22.alloc (.cells prfK.z.toArray 30)).setCells w22.heap.size 0 cs)
             have HGA : Hid (Blk ((w22.alloc (.cells prfK.z.toArray 30)).setCells w22.heap.size 0 cs) w22.heap.size cs 30) := (Blk.new w22 prfK.z 30).whole cs HLN.out
             have HAT : Hid (At w22.heap.size (w22.alloc (.cells prfK.z.toArray 30)) ((w22.alloc (.cells prfK.z.toArray 30)).setCells w22.heap.size 0 cs)) := At.setCells _ _ _ (At.refl _ _)
             have HB22 : Hid (Below w22.heap.size w22 ((w22.alloc (.cells prfK.z.toArray 30)).setCells w22.heap.size 0 cs)) := Below.setCells _ (Nat.le_refl _) _ _ _ (below_alloc _ _)
             have HG2 : Hid (prfK.G ((w22.alloc (.cells prfK.z.toArray 30)).setCells w22.heap.size 0 cs) g0 a cs) := prfK_ok.same HGG.out (fun k h1 h2 => (HAT.out.block k (by omega)).trans ((below_alloc w22 _).block k h2))
             clear HAT
             generalize ((w22.alloc (.cells prfK.z.toArray 30)).setCells w22.heap.size 0 cs) = x22 at *)
          | (with_reducible refine wpSeq_loadK 30 (.tmp 7) ?_ ?_ w22.heap.size ?_ cs _ HGA.out Try.underlying30 ?_ HI.out ?_
             · rfl
             · rfl
             · rfl
             · rfl))
          have HR2 : Hid (Reads x22 vb l) := HR1.out.below HB22.out
          refine (wrProof HG2.out HWW.out).mono ?_
          rintro e y22 ⟨v', rfl, hr', hb'⟩
          have HV : Hid (Reads y22 v' l) := hr'
          have HR3 : Hid (Reads y22 vb l) := HR2.out.below hb'
          have HB3 : Hid (Below w.heap.size w y22) := (HBW.out.trans (HB22.out.mono HBW.out.size)).trans (hb'.mono (by have h1 := HBW.out.size; have h2 := HB22.out.size; omega))
          clear HR1 HR2 HBW
          have HGA2 : Hid (Blk y22 w22.heap.size cs 30) := HGA.out.below hb' HGA.out.lt
          have HG3 : Hid (prfK.G y22 g0 a cs) := prfK_ok.below HG2.out hb'
          clear hr' hb' HGA HG2
          go_wp2_with fail
          refine (same_any v' vb l l y22 HV.out HR3.out).mono ?_
          rintro e z22 ⟨rfl, rfl⟩
          rw [decide_eq_true (rfl : l = l)]
          clear HV
          go_wp2_with (with_reducible refine wpSeq_loadK 30 (.tmp 7) ?_ ?_ w22.heap.size ?_ cs _ HGA2.out Try.underlying30 ?_ HI.out ?_
                       · rfl
                       · rfl
                       · rfl
                       · rfl)
          refine (rtProof HG3.out HWW.out).mono ?_
          rintro e z22' ⟨rfl, hb'⟩
          have HB4 : Hid (Below w.heap.size w z22') := HB3.out.trans (hb'.mono HB3.out.size)
          clear hb' HGA2 HG3 HB3 HR3 HGG HI H1 HLN HWW
          go_wp2_with fail
          refine (rworks_any z22').mono ?_
          rintro e wz ⟨rfl, hbz⟩
          have HF : Hid (Below w.heap.size w wz) := HB4.out.trans (hbz.mono HB4.out.size)
          clear hbz
          go_wp2
          go_ret
          exact ⟨rfl, HF.out⟩
        · obtain ⟨cs, HCS⟩ : ∃ cs, Hid (cs = prfK.z) := ⟨_, rfl⟩
          rw [← HCS.out]
          have HI : Hid ((Try.prog.info? 30).map (·.size) = some cs.length) := by show _ = _; rw [HCS.out]; exact prfK_ok.info
          have H1 : Hid (cs.toArray.all (·.oneCell') = true) := by show _ = _; rw [HCS.out]; exact all_oneCell_toArray prfK_ok.zone
          have HLN : Hid (cs.length = prfK.z.length) := by show _ = _; rw [HCS.out]
          have HR1 : Hid (Reads w22 vb l) := HR2.out.below hb1
          have HBW : Hid (Below w.heap.size w w22) := HB3.out.trans (hb1.mono HB3.out.size)
          clear hw hb1 HR2 HB3 HCS
          go_wp2_with (first
          | (with_reducible refine wpSeq_allocK allocProof ?_ ?_ ?_
             · rfl
             · rfl
             skip)
          | (with_reducible refine wpList_store_mid ?_ 30 (.tmp 7) (.tmp 53) ?_ w22.heap.size 0 cs.toArray ?_ ?_ ((Blk.new w22 prfK.z 30).there 0 _ (by rw [List.size_toArray, HLN.out]; omega)) (by rw [List.size_toArray]; exact HI.out) H1.out ?_
             · rfl
             · rfl
             · rfl
             · rfl
             change wpList _ _ _ _ _ ((w22.alloc (.cells prfK.z.toArray 30)).setCells w22.heap.size 0 cs)
             have HGA : Hid (Blk ((w22.alloc (.cells prfK.z.toArray 30)).setCells w22.heap.size 0 cs) w22.heap.size cs 30) := (Blk.new w22 prfK.z 30).whole cs HLN.out
             have HAT : Hid (At w22.heap.size (w22.alloc (.cells prfK.z.toArray 30)) ((w22.alloc (.cells prfK.z.toArray 30)).setCells w22.heap.size 0 cs)) := At.setCells _ _ _ (At.refl _ _)
             have HB23 : Hid (Below w22.heap.size w22 ((w22.alloc (.cells prfK.z.toArray 30)).setCells w22.heap.size 0 cs)) := Below.setCells _ (Nat.le_refl _) _ _ _ (below_alloc _ _)
             clear HAT
             generalize ((w22.alloc (.cells prfK.z.toArray 30)).setCells w22.heap.size 0 cs) = x23 at *))
          have HR2 : Hid (Reads x23 vb l) := HR1.out.below HB23.out
          have HB3 : Hid (Below w.heap.size w x23) := HBW.out.trans (HB23.out.mono HBW.out.size)
          clear HR1 HBW HGA HI H1 HLN
          refine (rworks_any x23).mono ?_
          rintro e wz ⟨rfl, hbz⟩
          have HF : Hid (Below w.heap.size w wz) := HB3.out.trans (hbz.mono HB3.out.size)
          clear hbz
          go_wp2
          go_ret
          exact ⟨rfl, HF.out⟩
    · obtain ⟨cs, HCS⟩ : ∃ cs, Hid (cs = reqK.z) := ⟨_, rfl⟩
      rw [← HCS.out]
      have HI : Hid ((Try.prog.info? 38).map (·.size) = some cs.length) := by show _ = _; rw [HCS.out]; exact reqK_ok.info
      have H1 : Hid (cs.toArray.all (·.oneCell') = true) := by show _ = _; rw [HCS.out]; exact all_oneCell_toArray reqK_ok.zone
      have HLN : Hid (cs.length = reqK.z.length) := by show _ = _; rw [HCS.out]
      have HR1 : Hid (Reads w17 vb l) := HR2.out.below hb1
      have HBW : Hid (Below w.heap.size w w17) := HB3.out.trans (hb1.mono HB3.out.size)
      clear hw hb1 HR2 HB3 HCS
      go_wp2_with (first
      | (with_reducible refine wpSeq_allocK allocRequest ?_ ?_ ?_
         · rfl
         · rfl
         skip)
      | (with_reducible refine wpList_store_mid ?_ 38 (.tmp 5) (.tmp 25) ?_ w17.heap.size 0 cs.toArray ?_ ?_ ((Blk.new w17 reqK.z 38).there 0 _ (by rw [List.size_toArray, HLN.out]; omega)) (by rw [List.size_toArray]; exact HI.out) H1.out ?_
         · rfl
         · rfl
         · rfl
         · rfl
         change wpList _ _ _ _ _ ((w17.alloc (.cells reqK.z.toArray 38)).setCells w17.heap.size 0 cs)
         have HGA : Hid (Blk ((w17.alloc (.cells reqK.z.toArray 38)).setCells w17.heap.size 0 cs) w17.heap.size cs 38) := (Blk.new w17 reqK.z 38).whole cs HLN.out
         have HAT : Hid (At w17.heap.size (w17.alloc (.cells reqK.z.toArray 38)) ((w17.alloc (.cells reqK.z.toArray 38)).setCells w17.heap.size 0 cs)) := At.setCells _ _ _ (At.refl _ _)
         have HB24 : Hid (Below w17.heap.size w17 ((w17.alloc (.cells reqK.z.toArray 38)).setCells w17.heap.size 0 cs)) := Below.setCells _ (Nat.le_refl _) _ _ _ (below_alloc _ _)
         clear HAT
         generalize ((w17.alloc (.cells reqK.z.toArray 38)).setCells w17.heap.size 0 cs) = x24 at *))
      have HR2 : Hid (Reads x24 vb l) := HR1.out.below HB24.out
      have HB3 : Hid (Below w.heap.size w x24) := HBW.out.trans (HB24.out.mono HBW.out.size)
      clear HR1 HBW HGA HI H1 HLN
      refine (rdSigned_any readSigned_one signedR_nil vb l x24 HR2.out).mono ?_
      rintro e w25 ⟨hb1, ⟨a, cs, hw, rfl, hG⟩ | ⟨hw, rfl⟩⟩
      · have HWW : Hid (whole (signedR l) = some a) := hw
        have HI : Hid ((Try.prog.info? 42).map (·.size) = some cs.length) := by have := sgnK_ok.size hG; rw [List.size_toArray] at this; exact this
        have H1 : Hid (cs.toArray.all (·.oneCell') = true) := all_oneCell_toArray (sgnK_ok.one hG)
        have HLN : Hid (cs.length = sgnK.z.length) := sgnK_ok.len hG
        obtain ⟨g0, HG0⟩ : ∃ x, Hid (x = x24.heap.size) := ⟨_, rfl⟩
        rw [← HG0.out] at hG
        have HGG : Hid (sgnK.G w25 g0 a cs) := hG
        have HR1 : Hid (Reads w25 vb l) := HR2.out.below hb1
        have HBW : Hid (Below w.heap.size w w25) := HB3.out.trans (hb1.mono HB3.out.size)
        clear hw hG hb1 HR2 HB3 HG0
        go_wp2_with (first
        | (with_reducible refine wpSeq_allocK allocSigned ?_ ?_ ?_
           · rfl
           · rfl
           skip)
        | (with_reducible refine wpList_store_mid ?_ 42 (.tmp 6) (.tmp 39) ?_ w25.heap.size 0 cs.toArray ?_ ?_ ((Blk.new w25 sgnK.z 42).there 0 _ (by rw [List.size_toArray, HLN.out]; omega)) (by rw [List.size_toArray]; exact HI.out) H1.out ?_
           · rfl
           · rfl
           · rfl
           · rfl
           change wpList _ _ _ _ _ ((w25.alloc (.cells sgnK.z.toArray 42)).setCells w25.heap.size 0 cs)
           have HGA : Hid (Blk ((w25.alloc (.cells sgnK.z.toArray 42)).setCells w25.heap.size 0 cs) w25.heap.size cs 42) := (Blk.new w25 sgnK.z 42).whole cs HLN.out
           have HAT : Hid (At w25.heap.size (w25.alloc (.cells sgnK.z.toArray 42)) ((w25.alloc (.cells sgnK.z.toArray 42)).setCells w25.heap.size 0 cs)) := At.setCells _ _ _ (At.refl _ _)
           have HB25 : Hid (Below w25.heap.size w25 ((w25.alloc (.cells sgnK.z.toArray 42)).setCells w25.heap.size 0 cs)) := Below.setCells _ (Nat.le_refl _) _ _ _ (below_alloc _ _)
           have HG2 : Hid (sgnK.G ((w25.alloc (.cells sgnK.z.toArray 42)).setCells w25.heap.size 0 cs) g0 a cs) := sgnK_ok.same HGG.out (fun k h1 h2 => (HAT.out.block k (by omega)).trans ((below_alloc w25 _).block k h2))
           clear HAT
           generalize ((w25.alloc (.cells sgnK.z.toArray 42)).setCells w25.heap.size 0 cs) = x25 at *)
        | (with_reducible refine wpSeq_loadK 42 (.tmp 6) ?_ ?_ w25.heap.size ?_ cs _ HGA.out Try.underlying42 ?_ HI.out ?_
           · rfl
           · rfl
           · rfl
           · rfl))
        have HR2 : Hid (Reads x25 vb l) := HR1.out.below HB25.out
        refine (wrSigned HG2.out HWW.out).mono ?_
        rintro e y25 ⟨v', rfl, hr', hb'⟩
        have HV : Hid (Reads y25 v' l) := hr'
        have HR3 : Hid (Reads y25 vb l) := HR2.out.below hb'
        have HB3 : Hid (Below w.heap.size w y25) := (HBW.out.trans (HB25.out.mono HBW.out.size)).trans (hb'.mono (by have h1 := HBW.out.size; have h2 := HB25.out.size; omega))
        clear HR1 HR2 HBW
        clear hr' hb' HGA HG2
        go_wp2_with fail
        refine (same_any v' vb l l y25 HV.out HR3.out).mono ?_
        rintro e z25 ⟨rfl, rfl⟩
        rw [decide_eq_true (rfl : l = l)]
        clear HV HGG HI H1 HLN HWW
        go_wp2_with fail
        refine (rdProof_any readProof_one proofR_nil vb l z25 HR3.out).mono ?_
        rintro e w26 ⟨hb1, ⟨a, cs, hw, rfl, hG⟩ | ⟨hw, rfl⟩⟩
        · have HWW : Hid (whole (proofR l) = some a) := hw
          have HI : Hid ((Try.prog.info? 30).map (·.size) = some cs.length) := by have := prfK_ok.size hG; rw [List.size_toArray] at this; exact this
          have H1 : Hid (cs.toArray.all (·.oneCell') = true) := all_oneCell_toArray (prfK_ok.one hG)
          have HLN : Hid (cs.length = prfK.z.length) := prfK_ok.len hG
          obtain ⟨g0, HG0⟩ : ∃ x, Hid (x = z25.heap.size) := ⟨_, rfl⟩
          rw [← HG0.out] at hG
          have HGG : Hid (prfK.G w26 g0 a cs) := hG
          have HR1 : Hid (Reads w26 vb l) := HR3.out.below hb1
          have HBW : Hid (Below w.heap.size w w26) := HB3.out.trans (hb1.mono HB3.out.size)
          clear hw hG hb1 HR3 HB3 HG0
          go_wp2_with (first
          | (with_reducible refine wpSeq_allocK allocProof ?_ ?_ ?_
             · rfl
             · rfl
             skip)
          | (with_reducible refine wpList_store_mid ?_ 30 (.tmp 7) (.tmp 53) ?_ w26.heap.size 0 cs.toArray ?_ ?_ ((Blk.new w26 prfK.z 30).there 0 _ (by rw [List.size_toArray, HLN.out]; omega)) (by rw [List.size_toArray]; exact HI.out) H1.out ?_
             · rfl
             · rfl
             · rfl
             · rfl
             change wpList _ _ _ _ _ ((w26.alloc (.cells prfK.z.toArray 30)).setCells w26.heap.size 0 cs)
             have HGA : Hid (Blk ((w26.alloc (.cells prfK.z.toArray 30)).setCells w26.heap.size 0 cs) w26.heap.size cs 30) := (Blk.new w26 prfK.z 30).whole cs HLN.out
             have HAT : Hid (At w26.heap.size (w26.alloc (.cells prfK.z.toArray 30)) ((w26.alloc (.cells prfK.z.toArray 30)).setCells w26.heap.size 0 cs)) := At.setCells _ _ _ (At.refl _ _)
             have HB26 : Hid (Below w26.heap.size w26 ((w26.alloc (.cells prfK.z.toArray 30)).setCells w26.heap.size 0 cs)) := Below.setCells _ (Nat.le_refl _) _ _ _ (below_alloc _ _)
             have HG2 : Hid (prfK.G ((w26.alloc (.cells prfK.z.toArray 30)).setCells w26.heap.size 0 cs) g0 a cs) := prfK_ok.same HGG.out (fun k h1 h2 => (HAT.out.block k (by omega)).trans ((below_alloc w26 _).block k h2))
             clear HAT
             generalize ((w26.alloc (.cells prfK.z.toArray 30)).setCells w26.heap.size 0 cs) = x26 at *)
          | (with_reducible refine wpSeq_loadK 30 (.tmp 7) ?_ ?_ w26.heap.size ?_ cs _ HGA.out Try.underlying30 ?_ HI.out ?_
             · rfl
             · rfl
             · rfl
             · rfl))
          have HR2 : Hid (Reads x26 vb l) := HR1.out.below HB26.out
          refine (wrProof HG2.out HWW.out).mono ?_
          rintro e y26 ⟨v', rfl, hr', hb'⟩
          have HV : Hid (Reads y26 v' l) := hr'
          have HR3 : Hid (Reads y26 vb l) := HR2.out.below hb'
          have HB3 : Hid (Below w.heap.size w y26) := (HBW.out.trans (HB26.out.mono HBW.out.size)).trans (hb'.mono (by have h1 := HBW.out.size; have h2 := HB26.out.size; omega))
          clear HR1 HR2 HBW
          have HGA2 : Hid (Blk y26 w26.heap.size cs 30) := HGA.out.below hb' HGA.out.lt
          have HG3 : Hid (prfK.G y26 g0 a cs) := prfK_ok.below HG2.out hb'
          clear hr' hb' HGA HG2
          go_wp2_with fail
          refine (same_any v' vb l l y26 HV.out HR3.out).mono ?_
          rintro e z26 ⟨rfl, rfl⟩
          rw [decide_eq_true (rfl : l = l)]
          clear HV
          go_wp2_with (with_reducible refine wpSeq_loadK 30 (.tmp 7) ?_ ?_ w26.heap.size ?_ cs _ HGA2.out Try.underlying30 ?_ HI.out ?_
                       · rfl
                       · rfl
                       · rfl
                       · rfl)
          refine (rtProof HG3.out HWW.out).mono ?_
          rintro e z26' ⟨rfl, hb'⟩
          have HB4 : Hid (Below w.heap.size w z26') := HB3.out.trans (hb'.mono HB3.out.size)
          clear hb' HGA2 HG3 HB3 HR3 HGG HI H1 HLN HWW
          go_wp2_with fail
          refine (rworks_any z26').mono ?_
          rintro e wz ⟨rfl, hbz⟩
          have HF : Hid (Below w.heap.size w wz) := HB4.out.trans (hbz.mono HB4.out.size)
          clear hbz
          go_wp2
          go_ret
          exact ⟨rfl, HF.out⟩
        · obtain ⟨cs, HCS⟩ : ∃ cs, Hid (cs = prfK.z) := ⟨_, rfl⟩
          rw [← HCS.out]
          have HI : Hid ((Try.prog.info? 30).map (·.size) = some cs.length) := by show _ = _; rw [HCS.out]; exact prfK_ok.info
          have H1 : Hid (cs.toArray.all (·.oneCell') = true) := by show _ = _; rw [HCS.out]; exact all_oneCell_toArray prfK_ok.zone
          have HLN : Hid (cs.length = prfK.z.length) := by show _ = _; rw [HCS.out]
          have HR1 : Hid (Reads w26 vb l) := HR3.out.below hb1
          have HBW : Hid (Below w.heap.size w w26) := HB3.out.trans (hb1.mono HB3.out.size)
          clear hw hb1 HR3 HB3 HCS
          go_wp2_with (first
          | (with_reducible refine wpSeq_allocK allocProof ?_ ?_ ?_
             · rfl
             · rfl
             skip)
          | (with_reducible refine wpList_store_mid ?_ 30 (.tmp 7) (.tmp 53) ?_ w26.heap.size 0 cs.toArray ?_ ?_ ((Blk.new w26 prfK.z 30).there 0 _ (by rw [List.size_toArray, HLN.out]; omega)) (by rw [List.size_toArray]; exact HI.out) H1.out ?_
             · rfl
             · rfl
             · rfl
             · rfl
             change wpList _ _ _ _ _ ((w26.alloc (.cells prfK.z.toArray 30)).setCells w26.heap.size 0 cs)
             have HGA : Hid (Blk ((w26.alloc (.cells prfK.z.toArray 30)).setCells w26.heap.size 0 cs) w26.heap.size cs 30) := (Blk.new w26 prfK.z 30).whole cs HLN.out
             have HAT : Hid (At w26.heap.size (w26.alloc (.cells prfK.z.toArray 30)) ((w26.alloc (.cells prfK.z.toArray 30)).setCells w26.heap.size 0 cs)) := At.setCells _ _ _ (At.refl _ _)
             have HB27 : Hid (Below w26.heap.size w26 ((w26.alloc (.cells prfK.z.toArray 30)).setCells w26.heap.size 0 cs)) := Below.setCells _ (Nat.le_refl _) _ _ _ (below_alloc _ _)
             clear HAT
             generalize ((w26.alloc (.cells prfK.z.toArray 30)).setCells w26.heap.size 0 cs) = x27 at *))
          have HR2 : Hid (Reads x27 vb l) := HR1.out.below HB27.out
          have HB3 : Hid (Below w.heap.size w x27) := HBW.out.trans (HB27.out.mono HBW.out.size)
          clear HR1 HBW HGA HI H1 HLN
          refine (rworks_any x27).mono ?_
          rintro e wz ⟨rfl, hbz⟩
          have HF : Hid (Below w.heap.size w wz) := HB3.out.trans (hbz.mono HB3.out.size)
          clear hbz
          go_wp2
          go_ret
          exact ⟨rfl, HF.out⟩
      · obtain ⟨cs, HCS⟩ : ∃ cs, Hid (cs = sgnK.z) := ⟨_, rfl⟩
        rw [← HCS.out]
        have HI : Hid ((Try.prog.info? 42).map (·.size) = some cs.length) := by show _ = _; rw [HCS.out]; exact sgnK_ok.info
        have H1 : Hid (cs.toArray.all (·.oneCell') = true) := by show _ = _; rw [HCS.out]; exact all_oneCell_toArray sgnK_ok.zone
        have HLN : Hid (cs.length = sgnK.z.length) := by show _ = _; rw [HCS.out]
        have HR1 : Hid (Reads w25 vb l) := HR2.out.below hb1
        have HBW : Hid (Below w.heap.size w w25) := HB3.out.trans (hb1.mono HB3.out.size)
        clear hw hb1 HR2 HB3 HCS
        go_wp2_with (first
        | (with_reducible refine wpSeq_allocK allocSigned ?_ ?_ ?_
           · rfl
           · rfl
           skip)
        | (with_reducible refine wpList_store_mid ?_ 42 (.tmp 6) (.tmp 39) ?_ w25.heap.size 0 cs.toArray ?_ ?_ ((Blk.new w25 sgnK.z 42).there 0 _ (by rw [List.size_toArray, HLN.out]; omega)) (by rw [List.size_toArray]; exact HI.out) H1.out ?_
           · rfl
           · rfl
           · rfl
           · rfl
           change wpList _ _ _ _ _ ((w25.alloc (.cells sgnK.z.toArray 42)).setCells w25.heap.size 0 cs)
           have HGA : Hid (Blk ((w25.alloc (.cells sgnK.z.toArray 42)).setCells w25.heap.size 0 cs) w25.heap.size cs 42) := (Blk.new w25 sgnK.z 42).whole cs HLN.out
           have HAT : Hid (At w25.heap.size (w25.alloc (.cells sgnK.z.toArray 42)) ((w25.alloc (.cells sgnK.z.toArray 42)).setCells w25.heap.size 0 cs)) := At.setCells _ _ _ (At.refl _ _)
           have HB28 : Hid (Below w25.heap.size w25 ((w25.alloc (.cells sgnK.z.toArray 42)).setCells w25.heap.size 0 cs)) := Below.setCells _ (Nat.le_refl _) _ _ _ (below_alloc _ _)
           clear HAT
           generalize ((w25.alloc (.cells sgnK.z.toArray 42)).setCells w25.heap.size 0 cs) = x28 at *))
        have HR2 : Hid (Reads x28 vb l) := HR1.out.below HB28.out
        have HB3 : Hid (Below w.heap.size w x28) := HBW.out.trans (HB28.out.mono HBW.out.size)
        clear HR1 HBW HGA HI H1 HLN
        refine (rdProof_any readProof_one proofR_nil vb l x28 HR2.out).mono ?_
        rintro e w29 ⟨hb1, ⟨a, cs, hw, rfl, hG⟩ | ⟨hw, rfl⟩⟩
        · have HWW : Hid (whole (proofR l) = some a) := hw
          have HI : Hid ((Try.prog.info? 30).map (·.size) = some cs.length) := by have := prfK_ok.size hG; rw [List.size_toArray] at this; exact this
          have H1 : Hid (cs.toArray.all (·.oneCell') = true) := all_oneCell_toArray (prfK_ok.one hG)
          have HLN : Hid (cs.length = prfK.z.length) := prfK_ok.len hG
          obtain ⟨g0, HG0⟩ : ∃ x, Hid (x = x28.heap.size) := ⟨_, rfl⟩
          rw [← HG0.out] at hG
          have HGG : Hid (prfK.G w29 g0 a cs) := hG
          have HR1 : Hid (Reads w29 vb l) := HR2.out.below hb1
          have HBW : Hid (Below w.heap.size w w29) := HB3.out.trans (hb1.mono HB3.out.size)
          clear hw hG hb1 HR2 HB3 HG0
          go_wp2_with (first
          | (with_reducible refine wpSeq_allocK allocProof ?_ ?_ ?_
             · rfl
             · rfl
             skip)
          | (with_reducible refine wpList_store_mid ?_ 30 (.tmp 7) (.tmp 53) ?_ w29.heap.size 0 cs.toArray ?_ ?_ ((Blk.new w29 prfK.z 30).there 0 _ (by rw [List.size_toArray, HLN.out]; omega)) (by rw [List.size_toArray]; exact HI.out) H1.out ?_
             · rfl
             · rfl
             · rfl
             · rfl
             change wpList _ _ _ _ _ ((w29.alloc (.cells prfK.z.toArray 30)).setCells w29.heap.size 0 cs)
             have HGA : Hid (Blk ((w29.alloc (.cells prfK.z.toArray 30)).setCells w29.heap.size 0 cs) w29.heap.size cs 30) := (Blk.new w29 prfK.z 30).whole cs HLN.out
             have HAT : Hid (At w29.heap.size (w29.alloc (.cells prfK.z.toArray 30)) ((w29.alloc (.cells prfK.z.toArray 30)).setCells w29.heap.size 0 cs)) := At.setCells _ _ _ (At.refl _ _)
             have HB29 : Hid (Below w29.heap.size w29 ((w29.alloc (.cells prfK.z.toArray 30)).setCells w29.heap.size 0 cs)) := Below.setCells _ (Nat.le_refl _) _ _ _ (below_alloc _ _)
             have HG2 : Hid (prfK.G ((w29.alloc (.cells prfK.z.toArray 30)).setCells w29.heap.size 0 cs) g0 a cs) := prfK_ok.same HGG.out (fun k h1 h2 => (HAT.out.block k (by omega)).trans ((below_alloc w29 _).block k h2))
             clear HAT
             generalize ((w29.alloc (.cells prfK.z.toArray 30)).setCells w29.heap.size 0 cs) = x29 at *)
          | (with_reducible refine wpSeq_loadK 30 (.tmp 7) ?_ ?_ w29.heap.size ?_ cs _ HGA.out Try.underlying30 ?_ HI.out ?_
             · rfl
             · rfl
             · rfl
             · rfl))
          have HR2 : Hid (Reads x29 vb l) := HR1.out.below HB29.out
          refine (wrProof HG2.out HWW.out).mono ?_
          rintro e y29 ⟨v', rfl, hr', hb'⟩
          have HV : Hid (Reads y29 v' l) := hr'
          have HR3 : Hid (Reads y29 vb l) := HR2.out.below hb'
          have HB3 : Hid (Below w.heap.size w y29) := (HBW.out.trans (HB29.out.mono HBW.out.size)).trans (hb'.mono (by have h1 := HBW.out.size; have h2 := HB29.out.size; omega))
          clear HR1 HR2 HBW
          have HGA2 : Hid (Blk y29 w29.heap.size cs 30) := HGA.out.below hb' HGA.out.lt
          have HG3 : Hid (prfK.G y29 g0 a cs) := prfK_ok.below HG2.out hb'
          clear hr' hb' HGA HG2
          go_wp2_with fail
          refine (same_any v' vb l l y29 HV.out HR3.out).mono ?_
          rintro e z29 ⟨rfl, rfl⟩
          rw [decide_eq_true (rfl : l = l)]
          clear HV
          go_wp2_with (with_reducible refine wpSeq_loadK 30 (.tmp 7) ?_ ?_ w29.heap.size ?_ cs _ HGA2.out Try.underlying30 ?_ HI.out ?_
                       · rfl
                       · rfl
                       · rfl
                       · rfl)
          refine (rtProof HG3.out HWW.out).mono ?_
          rintro e z29' ⟨rfl, hb'⟩
          have HB4 : Hid (Below w.heap.size w z29') := HB3.out.trans (hb'.mono HB3.out.size)
          clear hb' HGA2 HG3 HB3 HR3 HGG HI H1 HLN HWW
          go_wp2_with fail
          refine (rworks_any z29').mono ?_
          rintro e wz ⟨rfl, hbz⟩
          have HF : Hid (Below w.heap.size w wz) := HB4.out.trans (hbz.mono HB4.out.size)
          clear hbz
          go_wp2
          go_ret
          exact ⟨rfl, HF.out⟩
        · obtain ⟨cs, HCS⟩ : ∃ cs, Hid (cs = prfK.z) := ⟨_, rfl⟩
          rw [← HCS.out]
          have HI : Hid ((Try.prog.info? 30).map (·.size) = some cs.length) := by show _ = _; rw [HCS.out]; exact prfK_ok.info
          have H1 : Hid (cs.toArray.all (·.oneCell') = true) := by show _ = _; rw [HCS.out]; exact all_oneCell_toArray prfK_ok.zone
          have HLN : Hid (cs.length = prfK.z.length) := by show _ = _; rw [HCS.out]
          have HR1 : Hid (Reads w29 vb l) := HR2.out.below hb1
          have HBW : Hid (Below w.heap.size w w29) := HB3.out.trans (hb1.mono HB3.out.size)
          clear hw hb1 HR2 HB3 HCS
          go_wp2_with (first
          | (with_reducible refine wpSeq_allocK allocProof ?_ ?_ ?_
             · rfl
             · rfl
             skip)
          | (with_reducible refine wpList_store_mid ?_ 30 (.tmp 7) (.tmp 53) ?_ w29.heap.size 0 cs.toArray ?_ ?_ ((Blk.new w29 prfK.z 30).there 0 _ (by rw [List.size_toArray, HLN.out]; omega)) (by rw [List.size_toArray]; exact HI.out) H1.out ?_
             · rfl
             · rfl
             · rfl
             · rfl
             change wpList _ _ _ _ _ ((w29.alloc (.cells prfK.z.toArray 30)).setCells w29.heap.size 0 cs)
             have HGA : Hid (Blk ((w29.alloc (.cells prfK.z.toArray 30)).setCells w29.heap.size 0 cs) w29.heap.size cs 30) := (Blk.new w29 prfK.z 30).whole cs HLN.out
             have HAT : Hid (At w29.heap.size (w29.alloc (.cells prfK.z.toArray 30)) ((w29.alloc (.cells prfK.z.toArray 30)).setCells w29.heap.size 0 cs)) := At.setCells _ _ _ (At.refl _ _)
             have HB30 : Hid (Below w29.heap.size w29 ((w29.alloc (.cells prfK.z.toArray 30)).setCells w29.heap.size 0 cs)) := Below.setCells _ (Nat.le_refl _) _ _ _ (below_alloc _ _)
             clear HAT
             generalize ((w29.alloc (.cells prfK.z.toArray 30)).setCells w29.heap.size 0 cs) = x30 at *))
          have HR2 : Hid (Reads x30 vb l) := HR1.out.below HB30.out
          have HB3 : Hid (Below w.heap.size w x30) := HBW.out.trans (HB30.out.mono HBW.out.size)
          clear HR1 HBW HGA HI H1 HLN
          refine (rworks_any x30).mono ?_
          rintro e wz ⟨rfl, hbz⟩
          have HF : Hid (Below w.heap.size w wz) := HB3.out.trans (hbz.mono HB3.out.size)
          clear hbz
          go_wp2
          go_ret
          exact ⟨rfl, HF.out⟩
end Go.Proofs.Ytldbcglakeggaaa

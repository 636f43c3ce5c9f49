/- The walks of record's readNameAndKey and readBinding. -/
import Derived.Test.YtldbcglakeggaaaRecKind
namespace Go.Proofs.Ytldbcglakeggaaa
open Go.RowKit
theorem wpAny_tri {P : Program} {md : Region.Mode} {ops : Array Oper} {Q : Exit → Act → World → Prop} {fuel : Nat} {listed : Array Bool} {a : Act} {w : World} (i j k : Nat) (hr : Region.ready md ops listed = [i, j, k])
    (h1 : wpOp P ops Q i (wpAny P md ops Q fuel (listed.setIfInBounds i true)) a w) (h2 : wpOp P ops Q j (wpAny P md ops Q fuel (listed.setIfInBounds j true)) a w) (h3 : wpOp P ops Q k (wpAny P md ops Q fuel (listed.setIfInBounds k true)) a w) : wpAny P md ops Q (fuel + 1) listed a w := by
  refine wpAny_all hr (by simp) (fun q hq => ?_)
  rcases List.mem_cons.1 hq with rfl | hq
  · exact h1
  · rcases List.mem_cons.1 hq with rfl | hq
    · exact h2
    · obtain rfl : q = k := by simpa using hq
      exact h3
theorem bindV_one {nm : List (BitVec 8)} {vk : Value} {sr : Nat} (h : vk.oneCell' = true) : ∀ v ∈ bindV nm vk sr, v.oneCell' = true := by
  intro v hv
  simp only [bindV, List.mem_cons, List.not_mem_nil, or_false] at hv
  rcases hv with rfl | rfl | rfl
  · rfl
  · exact h
  · rfl
def nkS (l : List (BitVec 8)) : Option ((List (BitVec 8) × List (BitVec 8)) × List (BitVec 8)) :=
  match readText l with
  | none => none
  | some (nm, r) =>
    match readText r with
    | none => none
    | some (ky, r2) => if chk nm ky = 0 then some ((nm, ky), r2) else none
theorem nkS_none {l : List (BitVec 8)} (h : readText l = none) : nkS l = none := by unfold nkS; rw [h]
theorem nkS_no {l nm r : List (BitVec 8)} (h : readText l = some (nm, r)) (h2 : readText r = none) : nkS l = none := by unfold nkS; rw [h]; simp only [h2]
theorem nkS_some {l nm r ky r2 : List (BitVec 8)} (h : readText l = some (nm, r)) (h2 : readText r = some (ky, r2)) : nkS l = if chk nm ky = 0 then some ((nm, ky), r2) else none := by unfold nkS; rw [h]; simp only [h2]
theorem readText_pos {l : List (BitVec 8)} {p} (h : readText l = some p) : 0 < l.length := by
  cases l with
  | nil => simp [readText, readNum, decNum] at h
  | cons x y => simp
/-- the bytes' block is no block that lies otherwise -/
theorem OwnB.ne {w : World} {base : Nat} {v : Value} {l : List (BitVec 8)} (h : OwnB w base v l) {g : Nat} (hb : Blk w g bindK.z 25) : ∀ k, v.ownBlock = some k → k ≠ g := by
  intro k hk he
  subst he
  rcases h with ⟨_, ⟨rfl, _⟩ | ⟨g, cap, cur, rfl, _, hh, _⟩⟩
  · cases hk
  · simp only [Value.ownBlock, Option.some.injEq] at hk
    subst hk
    unfold Blk at hb
    rw [hh] at hb
    simp only [Option.some.injEq, Obj.cells.injEq] at hb
    exact absurd hb.2.1 (by decide)
theorem OwnB.onlyK {w w' : World} {base gi : Nat} {v : Value} {l : List (BitVec 8)} (h : OwnB w base v l) (ho : Only gi w w') (hg : gi < base) : OwnB w' base v l :=
  h.keep fun k h1 h2 => ho.block k (by omega) h2
/-- where a reading stands -/
structure Nk (w : World) (gr gi : Nat) (v vc : Value) (lc : List (BitVec 8)) (t : TypeId) (z : List Value) (wc : World) : Prop where
  rd : Rd wc gr gi vc lc
  onl : Only gi w wc
  ob : vc.ownBlock = v.ownBlock
  res : Blk wc w.heap.size z t
  gr : gr < w.heap.size
  gi : gi < w.heap.size
theorem Nk.call {w wc w' : World} {gr gi : Nat} {v vc v2 : Value} {lc r : List (BitVec 8)} {t : TypeId} {z : List Value} (h : Nk w gr gi v vc lc t z wc) (hrd : Rd w' gr gi v2 r) (ho : Only gi wc w') (hob : v2.ownBlock = vc.ownBlock) : Nk w gr gi v v2 r t z w' :=
  ⟨hrd, h.onl.trans ho, hob.trans h.ob, h.res.only ho (by have := h.gi; omega), h.gr, h.gi⟩
theorem Nk.below {w wc w' : World} {gr gi : Nat} {v vc : Value} {lc : List (BitVec 8)} {t : TypeId} {z : List Value} (h : Nk w gr gi v vc lc t z wc) (hb : Below wc.heap.size wc w') : Nk w gr gi v vc lc t z w' :=
  ⟨h.rd.below hb, h.onl.trans (Only.of_below hb), h.ob, h.res.below hb h.res.lt, h.gr, h.gi⟩
theorem Nk.rdAt {w wc w' : World} {gr gi g : Nat} {v vc : Value} {lc : List (BitVec 8)} {t : TypeId} {z : List Value} (h : Nk w gr gi v vc lc t z wc) (ha : At g wc w') (hg : w.heap.size ≤ g) (hv : ∀ j, v.ownBlock = some j → j < w.heap.size) : Rd w' gr gi vc lc :=
  ⟨h.rd.rd.at ha (by have := h.gr; omega), h.rd.inp.at ha (by have := h.gi; omega), h.rd.byt.at ha (fun _ j hj => by have := hv j (h.ob ▸ hj); omega)⟩
theorem Nk.onlAt {w wc w' : World} {gr gi g : Nat} {v vc : Value} {lc : List (BitVec 8)} {t : TypeId} {z : List Value} (h : Nk w gr gi v vc lc t z wc) (ha : At g wc w') (hg : w.heap.size ≤ g) : Only gi w w' :=
  ⟨ha.os.trans h.onl.os, ha.tape.trans h.onl.tape, ha.output.trans h.onl.output, by rw [ha.size]; exact h.onl.size, fun k h1 h2 => (ha.block k (by omega)).trans (h.onl.block k h1 h2)⟩
theorem Nk.at {w wc w' : World} {gr gi g : Nat} {v vc : Value} {lc : List (BitVec 8)} {t : TypeId} {z : List Value} (h : Nk w gr gi v vc lc t z wc) (ha : At g wc w') (hg : w.heap.size < g) (hv : ∀ j, v.ownBlock = some j → j < w.heap.size) : Nk w gr gi v vc lc t z w' :=
  ⟨h.rdAt ha (by omega) hv, h.onlAt ha (by omega), h.ob, h.res.at ha (by omega), h.gr, h.gi⟩
set_option maxRecDepth 100000 in
set_option maxHeartbeats 4000000 in
theorem readNK_any (gr gi : Nat) (v : Value) (l : List (BitVec 8)) (w : World) (h : Rd w gr gi v l) :
    Calls Try.prog 62 #[.pointer (some ⟨gr, 0, none⟩)] w fun e w' => RdDoes gr gi v w (nkS l) (fun a w' v => ∃ vk, v = .agg (bindV a.1 vk 0).toArray ∧ OwnB w' w.heap.size vk a.2) e w' := by
  have HVB : Hid (0 < l.length → ∀ k, v.ownBlock = some k → k < w.heap.size) := h.byt.inB
  have HGI : Hid (gi < w.heap.size) := h.inp.lt
  have HNK : Hid (Nk w gr gi v v l 25 bindK.z (w.alloc (.cells bindK.z.toArray 25))) := ⟨h.below (below_alloc _ _), Only.of_below (below_alloc _ _), rfl, Blk.new _ _ _, h.rd.lt, h.inp.lt⟩
  clear h
  go_enter Try.func62, Try.ntmps62
  go_wp2_with fail
  refine wp_region_any (by kernel_rfl) ?_
  have HNK1 : Hid (Nk w gr gi v v l 25 bindK.z (w.alloc (.cells bindK.z.toArray 25)).drew) := ⟨⟨HNK.out.rd.rd, HNK.out.rd.inp, HNK.out.rd.byt⟩, HNK.out.onl.drew, rfl, HNK.out.res, HNK.out.gr, HNK.out.gi⟩
  clear HNK
  have HNK := HNK1
  clear HNK1
  change wpAny _ _ _ _ _ _ _ (World.drew (w.alloc (.cells bindK.z.toArray 25)))
  generalize (w.alloc (.cells bindK.z.toArray 25)).drew = w0 at *
  have hle : w.heap.size ≤ w0.heap.size := HNK.out.onl.size
  refine wpAny_take (i := 0) (v := .pointer (some ⟨gr, 0, none⟩)) rfl (by kernel_rfl) (by kernel_rfl) (by kernel_rfl) (fun _ _ _ h => h) (Or.inl ⟨by rfl, fun wx => by simp [go_sem]⟩) ?_
  simp only [Act.put, List.getElem_toArray, List.getElem_cons_zero, List.setIfInBounds_toArray, List.set_cons_zero, List.set_cons_succ]
  refine wpAny_take (i := 3) (v := .pointer (some ⟨gr, 0, none⟩)) rfl (by kernel_rfl) (by kernel_rfl) (by kernel_rfl) (fun _ _ _ h => h) (Or.inl ⟨by rfl, fun wx => by simp [go_sem]⟩) ?_
  simp only [Act.put, List.getElem_toArray, List.getElem_cons_succ, List.getElem_cons_zero, List.setIfInBounds_toArray, List.set_cons_zero, List.set_cons_succ]
  refine wpAny_pair 1 6 (by kernel_rfl) ?_ ?_
  · skip
    refine wpOp_enP 1 (by rfl) (by rfl) (f := 70) (args := #[.pointer (some ⟨gr, 0, none⟩)]) (by simp [go_sem]) (crtext_any gr gi v l w0 HNK.out.rd) ?_
    rintro e w1 (⟨nm, r5, va5, vc5, hc, rfl, hown, hrd, ho, hob⟩ | ⟨hc, hT⟩)
    case inr =>
      obtain rfl := hT.eq
      refine Or.inr ⟨_, rfl, ?_⟩
      exact ⟨rfl, Or.inr ⟨nkS_none hc, Threw.after HNK.out.onl hT⟩⟩
    refine Or.inl ⟨_, rfl, ?_⟩
    replace HNK := HNK.out.call hrd ho hob
    have HS5 : Hid (readText l = some (nm, r5)) := hc
    have H5 : Hid (OwnB w1 w.heap.size va5 nm) := hown.mono hle
    clear hle
    have hle : w.heap.size ≤ w1.heap.size := HNK.onl.size
    obtain ⟨ad1, cp1, hv1, _, _, _⟩ := id hown.reads
    obtain ⟨n1, HL1⟩ : ∃ x, Hid (x = nm.length) := ⟨_, rfl⟩
    rw [← HL1.out] at hv1
    subst hv1
    clear hown hrd ho hob hc
    replace HNK : Hid _ := HNK
    simp only [Act.put, List.getElem_toArray, List.getElem_cons_succ, List.getElem_cons_zero, List.setIfInBounds_toArray, List.set_cons_zero, List.set_cons_succ]
    refine wpAny_tri 2 4 6 (by kernel_rfl) ?_ ?_ ?_
    · skip
      have hcv := conv_reads H5.out.reads
      refine wpOp_vl 2 (.string (strB nm)) w1 (by rfl) (by rfl) (by simp [execOp, Act.eval, hcv]) ?_
      clear hcv
      simp only [Act.put, List.getElem_toArray, List.getElem_cons_succ, List.getElem_cons_zero, List.setIfInBounds_toArray, List.set_cons_zero, List.set_cons_succ]
      refine wpAny_pair 4 6 (by kernel_rfl) ?_ ?_
      · skip
        refine wpOp_enP 4 (by rfl) (by rfl) (f := 70) (args := #[.pointer (some ⟨gr, 0, none⟩)]) (by simp [go_sem]) (crtext_any gr gi vc5 r5 w1 HNK.out.rd) ?_
        rintro e w3 (⟨ky, r8, va8, vc8, hc, rfl, hown, hrd, ho, hob⟩ | ⟨hc, hT⟩)
        case inr =>
          obtain rfl := hT.eq
          refine Or.inr ⟨_, rfl, ?_⟩
          exact ⟨rfl, Or.inr ⟨nkS_no HS5.out hc, Threw.after HNK.out.onl hT⟩⟩
        refine Or.inl ⟨_, rfl, ?_⟩
        replace HNK := HNK.out.call hrd ho hob
        have HS8 : Hid (readText r5 = some (ky, r8)) := hc
        have H8 : Hid (OwnB w3 w.heap.size va8 ky) := hown.mono hle
        replace H5 : Hid (OwnB w3 w.heap.size (.slice ad1 n1 cp1) nm) := H5.out.onlyK ho HGI.out
        clear hle
        have hle : w.heap.size ≤ w3.heap.size := HNK.onl.size
        obtain ⟨ad4, cp4, hv4, _, _, _⟩ := id hown.reads
        obtain ⟨n4, HL4⟩ : ∃ x, Hid (x = ky.length) := ⟨_, rfl⟩
        rw [← HL4.out] at hv4
        subst hv4
        clear hown hrd ho hob hc
        replace HNK : Hid _ := HNK
        simp only [Act.put, List.getElem_toArray, List.getElem_cons_succ, List.getElem_cons_zero, List.setIfInBounds_toArray, List.set_cons_zero, List.set_cons_succ]
        refine wpAny_take (i := 5) (v := .agg #[.string (strB nm), (.slice ad4 n4 cp4), .int .u64 0]) rfl (by kernel_rfl) (by kernel_rfl) (by kernel_rfl) (fun _ _ _ h => h) (Or.inl ⟨by rfl, fun wx => by simp [go_sem]⟩) ?_
        simp only [Act.put, List.getElem_toArray, List.getElem_cons_succ, List.getElem_cons_zero, List.setIfInBounds_toArray, List.set_cons_zero, List.set_cons_succ]
        refine wpAny_step 6 (.pointer (some ⟨w3.heap.size, 0, none⟩)) (w3.alloc (.cells bindK.z.toArray 25)) (by kernel_rfl) rfl (by rfl) (allocBinding _ _ rfl _) ?_
        simp only [Act.put, List.getElem_toArray, List.getElem_cons_succ, List.getElem_cons_zero, List.setIfInBounds_toArray, List.set_cons_zero, List.set_cons_succ]
        have HGA : Hid (Blk (w3.alloc (.cells bindK.z.toArray 25)) w3.heap.size bindK.z 25) := Blk.new _ _ _
        have HGL : Hid (w.heap.size < w3.heap.size) := HNK.out.res.lt
        have hba := below_alloc w3 (.cells bindK.z.toArray 25)
        replace HNK := HNK.out.below hba
        replace H5 : Hid (OwnB (w3.alloc (.cells bindK.z.toArray 25)) w.heap.size (.slice ad1 n1 cp1) nm) := H5.out.below hba (Nat.le_refl _)
        replace H8 : Hid (OwnB (w3.alloc (.cells bindK.z.toArray 25)) w.heap.size (.slice ad4 n4 cp4) ky) := H8.out.below hba (Nat.le_refl _)
        clear hle
        have hle : w.heap.size ≤ (w3.alloc (.cells bindK.z.toArray 25)).heap.size := HNK.onl.size
        clear hba
        replace HNK : Hid _ := HNK
        generalize (w3.alloc (.cells bindK.z.toArray 25)) = w4 at *
        generalize w3.heap.size = g4 at *
        refine wpAny_law 7 (by kernel_rfl) rfl (by rfl) (wp_store_mid 25 _ _ rfl g4 0 (bindV nm (.slice ad4 n4 cp4) 0).toArray rfl rfl (HGA.out.there 0 _ (by simp [bindK, bindV])) (by kernel_rfl) (all_oneCell_toArray (bindV_one H8.out.one)) ?_)
        simp only [Act.put, List.getElem_toArray, List.getElem_cons_succ, List.getElem_cons_zero]
        have hat : At g4 w4 (w4.setCells g4 0 (bindV nm (.slice ad4 n4 cp4) 0)) := At.setCells _ _ _ (At.refl _ _)
        have HGA2 : Hid (Blk (w4.setCells g4 0 (bindV nm (.slice ad4 n4 cp4) 0)) g4 (bindV nm (.slice ad4 n4 cp4) 0) 25) := HGA.out.whole _ rfl
        have HNK2 := HNK.out.at hat HGL.out (HVB.out (readText_pos HS5.out))
        have H82 : Hid (OwnB (w4.setCells g4 0 (bindV nm (.slice ad4 n4 cp4) 0)) w.heap.size (.slice ad4 n4 cp4) ky) := H8.out.same (fun k hk => hat.block k (H8.out.ne HGA.out k hk))
        have HNK3 : Hid _ := HNK2
        clear hat HNK2 HNK H5 H8 HGA hle
        change wpAny _ _ _ _ _ _ _ (w4.setCells g4 0 (bindV nm (.slice ad4 n4 cp4) 0))
        generalize w4.setCells g4 0 (bindV nm (.slice ad4 n4 cp4) 0) = w5 at *
        refine wpAny_done (by kernel_rfl) ?_ _
        have HVV : Hid (∀ k, v.ownBlock = some k → k < w.heap.size) := HVB.out (readText_pos HS5.out)
        have HSP : Hid (nkS l = if chk nm ky = 0 then some ((nm, ky), r8) else none) := nkS_some HS5.out HS8.out
        clear HS5 HS8
        go_wp2_with (refine wpSeq_val (.agg (bindV nm (.slice ad4 n4 cp4) 0).toArray) _ (by rfl) (load_run 25 _ rfl g4 0 rfl (bindV nm (.slice ad4 n4 cp4) 0) _ HGA2.out.range Try.underlying25 rfl (by kernel_rfl)) ?_)
        refine (rcheck_any nm ky (.slice ad4 n4 cp4) 0 w5 H82.out.reads).mono ?_
        rintro e w98 ⟨rfl, hb98⟩
        have HNK4 : Hid _ := HNK3.out.below hb98
        have HGA3 : Hid (Blk w98 g4 (bindV nm (.slice ad4 n4 cp4) 0) 25) := HGA2.out.below hb98 HGA2.out.lt
        have H83 : Hid (OwnB w98 w.heap.size (.slice ad4 n4 cp4) ky) := H82.out.below hb98 (Nat.le_refl _)
        clear hb98 HNK3 HGA2 H82
        by_cases hck : chk nm ky = 0
        · rw [if_pos hck] at HSP
          rw [hck]
          clear hck
          have HRES : Hid (Blk w98 w.heap.size bindK.z 25) := HNK4.out.res
          go_wp2_with (first | (refine wpSeq_val (.agg (bindV nm (.slice ad4 n4 cp4) 0).toArray) _ (by rfl) (load_run 25 _ rfl g4 0 rfl (bindV nm (.slice ad4 n4 cp4) 0) _ HGA3.out.range Try.underlying25 rfl (by kernel_rfl)) ?_) | (refine wpList_store_mid rfl 25 _ _ rfl w.heap.size 0 (bindV nm (.slice ad4 n4 cp4) 0).toArray rfl rfl (HRES.out.there 0 _ (by simp [bindK, bindV])) (by kernel_rfl) (all_oneCell_toArray (bindV_one H83.out.one)) ?_))
          have hat : At w.heap.size w98 (w98.setCells w.heap.size 0 (bindV nm (.slice ad4 n4 cp4) 0)) := At.setCells _ _ _ (At.refl _ _)
          have hB6 : Blk (w98.setCells w.heap.size 0 (bindV nm (.slice ad4 n4 cp4) 0)) w.heap.size (bindV nm (.slice ad4 n4 cp4) 0) 25 := HRES.out.whole _ rfl
          refine bodyPost_ret (v := .agg (bindV nm (.slice ad4 n4 cp4) 0).toArray) (results_cell_row (by rfl) _ _ w.heap.size 25 _ (0, 0) _ rfl hB6 Try.underlying25 rfl (by kernel_rfl)) rfl (Or.inl ⟨(nm, ky), r8, _, _, HSP.out, rfl, ⟨_, rfl, ?_⟩, ?_, ?_, HNK4.out.ob⟩)
          · exact H83.out.same (fun k hk => hat.block k (H83.out.ne HRES.out k hk))
          · exact HNK4.out.rdAt hat (Nat.le_refl _) HVV.out
          · exact HNK4.out.onlAt hat (Nat.le_refl _)
        · rw [if_neg hck] at HSP
          obtain ⟨ck, HCK⟩ : ∃ x, Hid (x = chk nm ky) := ⟨_, rfl⟩
          rw [← HCK.out] at hck ⊢
          go_wp2_with fail
          refine (cfail_any gr gi vc8 r8 w98 HNK4.out.rd).mono ?_
          rintro e w99 ⟨rfl, hw99⟩
          have HT : Hid (Threw gi w (thrown gi) w99) := by rw [hw99]; exact HNK4.out.rd.threw.after HNK4.out.onl
          have HD : Hid (RdDoes gr gi v w (nkS l) (fun (a : List (BitVec 8) × List (BitVec 8)) w' v => ∃ vk, v = .agg (bindV a.1 vk 0).toArray ∧ OwnB w' w.heap.size vk a.2) (thrown gi) w99) := Or.inr ⟨HSP.out, HT.out⟩
          unfold thrown at HD ⊢
          clear hw99 HNK4 HT
          go_wp2
          exact ⟨rfl, HD.out⟩
      · skip
        refine wpOp_vl 6 (.pointer (some ⟨w1.heap.size, 0, none⟩)) (w1.alloc (.cells bindK.z.toArray 25)) (by rfl) (by rfl) (allocBinding _ _ rfl _) ?_
        simp only [Act.put, List.getElem_toArray, List.getElem_cons_succ, List.getElem_cons_zero, List.setIfInBounds_toArray, List.set_cons_zero, List.set_cons_succ]
        have HGA : Hid (Blk (w1.alloc (.cells bindK.z.toArray 25)) w1.heap.size bindK.z 25) := Blk.new _ _ _
        have HGL : Hid (w.heap.size < w1.heap.size) := HNK.out.res.lt
        have hba := below_alloc w1 (.cells bindK.z.toArray 25)
        replace HNK := HNK.out.below hba
        replace H5 : Hid (OwnB (w1.alloc (.cells bindK.z.toArray 25)) w.heap.size (.slice ad1 n1 cp1) nm) := H5.out.below hba (Nat.le_refl _)
        clear hle
        have hle : w.heap.size ≤ (w1.alloc (.cells bindK.z.toArray 25)).heap.size := HNK.onl.size
        clear hba
        replace HNK : Hid _ := HNK
        generalize (w1.alloc (.cells bindK.z.toArray 25)) = w6 at *
        generalize w1.heap.size = g6 at *
        refine wpAny_enterP 4 (by kernel_rfl) rfl (by rfl) (f := 70) (args := #[.pointer (some ⟨gr, 0, none⟩)]) (by simp [go_sem]) (crtext_any gr gi vc5 r5 w6 HNK.out.rd) ?_
        rintro e w7 (⟨ky, r8, va8, vc8, hc, rfl, hown, hrd, ho, hob⟩ | ⟨hc, hT⟩)
        case inr =>
          obtain rfl := hT.eq
          refine Or.inr ⟨_, rfl, ?_⟩
          exact ⟨rfl, Or.inr ⟨nkS_no HS5.out hc, Threw.after HNK.out.onl hT⟩⟩
        refine Or.inl ⟨_, rfl, ?_⟩
        replace HNK := HNK.out.call hrd ho hob
        have HS8 : Hid (readText r5 = some (ky, r8)) := hc
        have H8 : Hid (OwnB w7 w.heap.size va8 ky) := hown.mono hle
        replace H5 : Hid (OwnB w7 w.heap.size (.slice ad1 n1 cp1) nm) := H5.out.onlyK ho HGI.out
        replace HGA : Hid (Blk w7 g6 bindK.z 25) := HGA.out.only ho (by have := HGL.out; have := HGI.out; omega)
        clear hle
        have hle : w.heap.size ≤ w7.heap.size := HNK.onl.size
        obtain ⟨ad4, cp4, hv4, _, _, _⟩ := id hown.reads
        obtain ⟨n4, HL4⟩ : ∃ x, Hid (x = ky.length) := ⟨_, rfl⟩
        rw [← HL4.out] at hv4
        subst hv4
        clear hown hrd ho hob hc
        replace HNK : Hid _ := HNK
        simp only [Act.put, List.getElem_toArray, List.getElem_cons_succ, List.getElem_cons_zero, List.setIfInBounds_toArray, List.set_cons_zero, List.set_cons_succ]
        refine wpAny_take (i := 5) (v := .agg #[.string (strB nm), (.slice ad4 n4 cp4), .int .u64 0]) rfl (by kernel_rfl) (by kernel_rfl) (by kernel_rfl) (fun _ _ _ h => h) (Or.inl ⟨by rfl, fun wx => by simp [go_sem]⟩) ?_
        simp only [Act.put, List.getElem_toArray, List.getElem_cons_succ, List.getElem_cons_zero, List.setIfInBounds_toArray, List.set_cons_zero, List.set_cons_succ]
        refine wpAny_law 7 (by kernel_rfl) rfl (by rfl) (wp_store_mid 25 _ _ rfl g6 0 (bindV nm (.slice ad4 n4 cp4) 0).toArray rfl rfl (HGA.out.there 0 _ (by simp [bindK, bindV])) (by kernel_rfl) (all_oneCell_toArray (bindV_one H8.out.one)) ?_)
        simp only [Act.put, List.getElem_toArray, List.getElem_cons_succ, List.getElem_cons_zero]
        have hat : At g6 w7 (w7.setCells g6 0 (bindV nm (.slice ad4 n4 cp4) 0)) := At.setCells _ _ _ (At.refl _ _)
        have HGA2 : Hid (Blk (w7.setCells g6 0 (bindV nm (.slice ad4 n4 cp4) 0)) g6 (bindV nm (.slice ad4 n4 cp4) 0) 25) := HGA.out.whole _ rfl
        have HNK2 := HNK.out.at hat HGL.out (HVB.out (readText_pos HS5.out))
        have H82 : Hid (OwnB (w7.setCells g6 0 (bindV nm (.slice ad4 n4 cp4) 0)) w.heap.size (.slice ad4 n4 cp4) ky) := H8.out.same (fun k hk => hat.block k (H8.out.ne HGA.out k hk))
        have HNK3 : Hid _ := HNK2
        clear hat HNK2 HNK H5 H8 HGA hle
        change wpAny _ _ _ _ _ _ _ (w7.setCells g6 0 (bindV nm (.slice ad4 n4 cp4) 0))
        generalize w7.setCells g6 0 (bindV nm (.slice ad4 n4 cp4) 0) = w8 at *
        refine wpAny_done (by kernel_rfl) ?_ _
        have HVV : Hid (∀ k, v.ownBlock = some k → k < w.heap.size) := HVB.out (readText_pos HS5.out)
        have HSP : Hid (nkS l = if chk nm ky = 0 then some ((nm, ky), r8) else none) := nkS_some HS5.out HS8.out
        clear HS5 HS8
        go_wp2_with (refine wpSeq_val (.agg (bindV nm (.slice ad4 n4 cp4) 0).toArray) _ (by rfl) (load_run 25 _ rfl g6 0 rfl (bindV nm (.slice ad4 n4 cp4) 0) _ HGA2.out.range Try.underlying25 rfl (by kernel_rfl)) ?_)
        refine (rcheck_any nm ky (.slice ad4 n4 cp4) 0 w8 H82.out.reads).mono ?_
        rintro e w98 ⟨rfl, hb98⟩
        have HNK4 : Hid _ := HNK3.out.below hb98
        have HGA3 : Hid (Blk w98 g6 (bindV nm (.slice ad4 n4 cp4) 0) 25) := HGA2.out.below hb98 HGA2.out.lt
        have H83 : Hid (OwnB w98 w.heap.size (.slice ad4 n4 cp4) ky) := H82.out.below hb98 (Nat.le_refl _)
        clear hb98 HNK3 HGA2 H82
        by_cases hck : chk nm ky = 0
        · rw [if_pos hck] at HSP
          rw [hck]
          clear hck
          have HRES : Hid (Blk w98 w.heap.size bindK.z 25) := HNK4.out.res
          go_wp2_with (first | (refine wpSeq_val (.agg (bindV nm (.slice ad4 n4 cp4) 0).toArray) _ (by rfl) (load_run 25 _ rfl g6 0 rfl (bindV nm (.slice ad4 n4 cp4) 0) _ HGA3.out.range Try.underlying25 rfl (by kernel_rfl)) ?_) | (refine wpList_store_mid rfl 25 _ _ rfl w.heap.size 0 (bindV nm (.slice ad4 n4 cp4) 0).toArray rfl rfl (HRES.out.there 0 _ (by simp [bindK, bindV])) (by kernel_rfl) (all_oneCell_toArray (bindV_one H83.out.one)) ?_))
          have hat : At w.heap.size w98 (w98.setCells w.heap.size 0 (bindV nm (.slice ad4 n4 cp4) 0)) := At.setCells _ _ _ (At.refl _ _)
          have hB6 : Blk (w98.setCells w.heap.size 0 (bindV nm (.slice ad4 n4 cp4) 0)) w.heap.size (bindV nm (.slice ad4 n4 cp4) 0) 25 := HRES.out.whole _ rfl
          refine bodyPost_ret (v := .agg (bindV nm (.slice ad4 n4 cp4) 0).toArray) (results_cell_row (by rfl) _ _ w.heap.size 25 _ (0, 0) _ rfl hB6 Try.underlying25 rfl (by kernel_rfl)) rfl (Or.inl ⟨(nm, ky), r8, _, _, HSP.out, rfl, ⟨_, rfl, ?_⟩, ?_, ?_, HNK4.out.ob⟩)
          · exact H83.out.same (fun k hk => hat.block k (H83.out.ne HRES.out k hk))
          · exact HNK4.out.rdAt hat (Nat.le_refl _) HVV.out
          · exact HNK4.out.onlAt hat (Nat.le_refl _)
        · rw [if_neg hck] at HSP
          obtain ⟨ck, HCK⟩ : ∃ x, Hid (x = chk nm ky) := ⟨_, rfl⟩
          rw [← HCK.out] at hck ⊢
          go_wp2_with fail
          refine (cfail_any gr gi vc8 r8 w98 HNK4.out.rd).mono ?_
          rintro e w99 ⟨rfl, hw99⟩
          have HT : Hid (Threw gi w (thrown gi) w99) := by rw [hw99]; exact HNK4.out.rd.threw.after HNK4.out.onl
          have HD : Hid (RdDoes gr gi v w (nkS l) (fun (a : List (BitVec 8) × List (BitVec 8)) w' v => ∃ vk, v = .agg (bindV a.1 vk 0).toArray ∧ OwnB w' w.heap.size vk a.2) (thrown gi) w99) := Or.inr ⟨HSP.out, HT.out⟩
          unfold thrown at HD ⊢
          clear hw99 HNK4 HT
          go_wp2
          exact ⟨rfl, HD.out⟩
    · skip
      refine wpOp_enP 4 (by rfl) (by rfl) (f := 70) (args := #[.pointer (some ⟨gr, 0, none⟩)]) (by simp [go_sem]) (crtext_any gr gi vc5 r5 w1 HNK.out.rd) ?_
      rintro e w9 (⟨ky, r8, va8, vc8, hc, rfl, hown, hrd, ho, hob⟩ | ⟨hc, hT⟩)
      case inr =>
        obtain rfl := hT.eq
        refine Or.inr ⟨_, rfl, ?_⟩
        exact ⟨rfl, Or.inr ⟨nkS_no HS5.out hc, Threw.after HNK.out.onl hT⟩⟩
      refine Or.inl ⟨_, rfl, ?_⟩
      replace HNK := HNK.out.call hrd ho hob
      have HS8 : Hid (readText r5 = some (ky, r8)) := hc
      have H8 : Hid (OwnB w9 w.heap.size va8 ky) := hown.mono hle
      replace H5 : Hid (OwnB w9 w.heap.size (.slice ad1 n1 cp1) nm) := H5.out.onlyK ho HGI.out
      clear hle
      have hle : w.heap.size ≤ w9.heap.size := HNK.onl.size
      obtain ⟨ad4, cp4, hv4, _, _, _⟩ := id hown.reads
      obtain ⟨n4, HL4⟩ : ∃ x, Hid (x = ky.length) := ⟨_, rfl⟩
      rw [← HL4.out] at hv4
      subst hv4
      clear hown hrd ho hob hc
      replace HNK : Hid _ := HNK
      simp only [Act.put, List.getElem_toArray, List.getElem_cons_succ, List.getElem_cons_zero, List.setIfInBounds_toArray, List.set_cons_zero, List.set_cons_succ]
      refine wpAny_pair 2 6 (by kernel_rfl) ?_ ?_
      · skip
        have hcv := conv_reads H5.out.reads
        refine wpOp_vl 2 (.string (strB nm)) w9 (by rfl) (by rfl) (by simp [execOp, Act.eval, hcv]) ?_
        clear hcv
        simp only [Act.put, List.getElem_toArray, List.getElem_cons_succ, List.getElem_cons_zero, List.setIfInBounds_toArray, List.set_cons_zero, List.set_cons_succ]
        refine wpAny_take (i := 5) (v := .agg #[.string (strB nm), (.slice ad4 n4 cp4), .int .u64 0]) rfl (by kernel_rfl) (by kernel_rfl) (by kernel_rfl) (fun _ _ _ h => h) (Or.inl ⟨by rfl, fun wx => by simp [go_sem]⟩) ?_
        simp only [Act.put, List.getElem_toArray, List.getElem_cons_succ, List.getElem_cons_zero, List.setIfInBounds_toArray, List.set_cons_zero, List.set_cons_succ]
        refine wpAny_step 6 (.pointer (some ⟨w9.heap.size, 0, none⟩)) (w9.alloc (.cells bindK.z.toArray 25)) (by kernel_rfl) rfl (by rfl) (allocBinding _ _ rfl _) ?_
        simp only [Act.put, List.getElem_toArray, List.getElem_cons_succ, List.getElem_cons_zero, List.setIfInBounds_toArray, List.set_cons_zero, List.set_cons_succ]
        have HGA : Hid (Blk (w9.alloc (.cells bindK.z.toArray 25)) w9.heap.size bindK.z 25) := Blk.new _ _ _
        have HGL : Hid (w.heap.size < w9.heap.size) := HNK.out.res.lt
        have hba := below_alloc w9 (.cells bindK.z.toArray 25)
        replace HNK := HNK.out.below hba
        replace H5 : Hid (OwnB (w9.alloc (.cells bindK.z.toArray 25)) w.heap.size (.slice ad1 n1 cp1) nm) := H5.out.below hba (Nat.le_refl _)
        replace H8 : Hid (OwnB (w9.alloc (.cells bindK.z.toArray 25)) w.heap.size (.slice ad4 n4 cp4) ky) := H8.out.below hba (Nat.le_refl _)
        clear hle
        have hle : w.heap.size ≤ (w9.alloc (.cells bindK.z.toArray 25)).heap.size := HNK.onl.size
        clear hba
        replace HNK : Hid _ := HNK
        generalize (w9.alloc (.cells bindK.z.toArray 25)) = w11 at *
        generalize w9.heap.size = g11 at *
        refine wpAny_law 7 (by kernel_rfl) rfl (by rfl) (wp_store_mid 25 _ _ rfl g11 0 (bindV nm (.slice ad4 n4 cp4) 0).toArray rfl rfl (HGA.out.there 0 _ (by simp [bindK, bindV])) (by kernel_rfl) (all_oneCell_toArray (bindV_one H8.out.one)) ?_)
        simp only [Act.put, List.getElem_toArray, List.getElem_cons_succ, List.getElem_cons_zero]
        have hat : At g11 w11 (w11.setCells g11 0 (bindV nm (.slice ad4 n4 cp4) 0)) := At.setCells _ _ _ (At.refl _ _)
        have HGA2 : Hid (Blk (w11.setCells g11 0 (bindV nm (.slice ad4 n4 cp4) 0)) g11 (bindV nm (.slice ad4 n4 cp4) 0) 25) := HGA.out.whole _ rfl
        have HNK2 := HNK.out.at hat HGL.out (HVB.out (readText_pos HS5.out))
        have H82 : Hid (OwnB (w11.setCells g11 0 (bindV nm (.slice ad4 n4 cp4) 0)) w.heap.size (.slice ad4 n4 cp4) ky) := H8.out.same (fun k hk => hat.block k (H8.out.ne HGA.out k hk))
        have HNK3 : Hid _ := HNK2
        clear hat HNK2 HNK H5 H8 HGA hle
        change wpAny _ _ _ _ _ _ _ (w11.setCells g11 0 (bindV nm (.slice ad4 n4 cp4) 0))
        generalize w11.setCells g11 0 (bindV nm (.slice ad4 n4 cp4) 0) = w12 at *
        refine wpAny_done (by kernel_rfl) ?_ _
        have HVV : Hid (∀ k, v.ownBlock = some k → k < w.heap.size) := HVB.out (readText_pos HS5.out)
        have HSP : Hid (nkS l = if chk nm ky = 0 then some ((nm, ky), r8) else none) := nkS_some HS5.out HS8.out
        clear HS5 HS8
        go_wp2_with (refine wpSeq_val (.agg (bindV nm (.slice ad4 n4 cp4) 0).toArray) _ (by rfl) (load_run 25 _ rfl g11 0 rfl (bindV nm (.slice ad4 n4 cp4) 0) _ HGA2.out.range Try.underlying25 rfl (by kernel_rfl)) ?_)
        refine (rcheck_any nm ky (.slice ad4 n4 cp4) 0 w12 H82.out.reads).mono ?_
        rintro e w98 ⟨rfl, hb98⟩
        have HNK4 : Hid _ := HNK3.out.below hb98
        have HGA3 : Hid (Blk w98 g11 (bindV nm (.slice ad4 n4 cp4) 0) 25) := HGA2.out.below hb98 HGA2.out.lt
        have H83 : Hid (OwnB w98 w.heap.size (.slice ad4 n4 cp4) ky) := H82.out.below hb98 (Nat.le_refl _)
        clear hb98 HNK3 HGA2 H82
        by_cases hck : chk nm ky = 0
        · rw [if_pos hck] at HSP
          rw [hck]
          clear hck
          have HRES : Hid (Blk w98 w.heap.size bindK.z 25) := HNK4.out.res
          go_wp2_with (first | (refine wpSeq_val (.agg (bindV nm (.slice ad4 n4 cp4) 0).toArray) _ (by rfl) (load_run 25 _ rfl g11 0 rfl (bindV nm (.slice ad4 n4 cp4) 0) _ HGA3.out.range Try.underlying25 rfl (by kernel_rfl)) ?_) | (refine wpList_store_mid rfl 25 _ _ rfl w.heap.size 0 (bindV nm (.slice ad4 n4 cp4) 0).toArray rfl rfl (HRES.out.there 0 _ (by simp [bindK, bindV])) (by kernel_rfl) (all_oneCell_toArray (bindV_one H83.out.one)) ?_))
          have hat : At w.heap.size w98 (w98.setCells w.heap.size 0 (bindV nm (.slice ad4 n4 cp4) 0)) := At.setCells _ _ _ (At.refl _ _)
          have hB6 : Blk (w98.setCells w.heap.size 0 (bindV nm (.slice ad4 n4 cp4) 0)) w.heap.size (bindV nm (.slice ad4 n4 cp4) 0) 25 := HRES.out.whole _ rfl
          refine bodyPost_ret (v := .agg (bindV nm (.slice ad4 n4 cp4) 0).toArray) (results_cell_row (by rfl) _ _ w.heap.size 25 _ (0, 0) _ rfl hB6 Try.underlying25 rfl (by kernel_rfl)) rfl (Or.inl ⟨(nm, ky), r8, _, _, HSP.out, rfl, ⟨_, rfl, ?_⟩, ?_, ?_, HNK4.out.ob⟩)
          · exact H83.out.same (fun k hk => hat.block k (H83.out.ne HRES.out k hk))
          · exact HNK4.out.rdAt hat (Nat.le_refl _) HVV.out
          · exact HNK4.out.onlAt hat (Nat.le_refl _)
        · rw [if_neg hck] at HSP
          obtain ⟨ck, HCK⟩ : ∃ x, Hid (x = chk nm ky) := ⟨_, rfl⟩
          rw [← HCK.out] at hck ⊢
          go_wp2_with fail
          refine (cfail_any gr gi vc8 r8 w98 HNK4.out.rd).mono ?_
          rintro e w99 ⟨rfl, hw99⟩
          have HT : Hid (Threw gi w (thrown gi) w99) := by rw [hw99]; exact HNK4.out.rd.threw.after HNK4.out.onl
          have HD : Hid (RdDoes gr gi v w (nkS l) (fun (a : List (BitVec 8) × List (BitVec 8)) w' v => ∃ vk, v = .agg (bindV a.1 vk 0).toArray ∧ OwnB w' w.heap.size vk a.2) (thrown gi) w99) := Or.inr ⟨HSP.out, HT.out⟩
          unfold thrown at HD ⊢
          clear hw99 HNK4 HT
          go_wp2
          exact ⟨rfl, HD.out⟩
      · skip
        refine wpOp_vl 6 (.pointer (some ⟨w9.heap.size, 0, none⟩)) (w9.alloc (.cells bindK.z.toArray 25)) (by rfl) (by rfl) (allocBinding _ _ rfl _) ?_
        simp only [Act.put, List.getElem_toArray, List.getElem_cons_succ, List.getElem_cons_zero, List.setIfInBounds_toArray, List.set_cons_zero, List.set_cons_succ]
        have HGA : Hid (Blk (w9.alloc (.cells bindK.z.toArray 25)) w9.heap.size bindK.z 25) := Blk.new _ _ _
        have HGL : Hid (w.heap.size < w9.heap.size) := HNK.out.res.lt
        have hba := below_alloc w9 (.cells bindK.z.toArray 25)
        replace HNK := HNK.out.below hba
        replace H5 : Hid (OwnB (w9.alloc (.cells bindK.z.toArray 25)) w.heap.size (.slice ad1 n1 cp1) nm) := H5.out.below hba (Nat.le_refl _)
        replace H8 : Hid (OwnB (w9.alloc (.cells bindK.z.toArray 25)) w.heap.size (.slice ad4 n4 cp4) ky) := H8.out.below hba (Nat.le_refl _)
        clear hle
        have hle : w.heap.size ≤ (w9.alloc (.cells bindK.z.toArray 25)).heap.size := HNK.onl.size
        clear hba
        replace HNK : Hid _ := HNK
        generalize (w9.alloc (.cells bindK.z.toArray 25)) = w13 at *
        generalize w9.heap.size = g13 at *
        have hcv := conv_reads H5.out.reads
        refine wpAny_step 2 (.string (strB nm)) w13 (by kernel_rfl) rfl (by rfl) (by simp [execOp, Act.eval, hcv]) ?_
        clear hcv
        simp only [Act.put, List.getElem_toArray, List.getElem_cons_succ, List.getElem_cons_zero, List.setIfInBounds_toArray, List.set_cons_zero, List.set_cons_succ]
        refine wpAny_take (i := 5) (v := .agg #[.string (strB nm), (.slice ad4 n4 cp4), .int .u64 0]) rfl (by kernel_rfl) (by kernel_rfl) (by kernel_rfl) (fun _ _ _ h => h) (Or.inl ⟨by rfl, fun wx => by simp [go_sem]⟩) ?_
        simp only [Act.put, List.getElem_toArray, List.getElem_cons_succ, List.getElem_cons_zero, List.setIfInBounds_toArray, List.set_cons_zero, List.set_cons_succ]
        refine wpAny_law 7 (by kernel_rfl) rfl (by rfl) (wp_store_mid 25 _ _ rfl g13 0 (bindV nm (.slice ad4 n4 cp4) 0).toArray rfl rfl (HGA.out.there 0 _ (by simp [bindK, bindV])) (by kernel_rfl) (all_oneCell_toArray (bindV_one H8.out.one)) ?_)
        simp only [Act.put, List.getElem_toArray, List.getElem_cons_succ, List.getElem_cons_zero]
        have hat : At g13 w13 (w13.setCells g13 0 (bindV nm (.slice ad4 n4 cp4) 0)) := At.setCells _ _ _ (At.refl _ _)
        have HGA2 : Hid (Blk (w13.setCells g13 0 (bindV nm (.slice ad4 n4 cp4) 0)) g13 (bindV nm (.slice ad4 n4 cp4) 0) 25) := HGA.out.whole _ rfl
        have HNK2 := HNK.out.at hat HGL.out (HVB.out (readText_pos HS5.out))
        have H82 : Hid (OwnB (w13.setCells g13 0 (bindV nm (.slice ad4 n4 cp4) 0)) w.heap.size (.slice ad4 n4 cp4) ky) := H8.out.same (fun k hk => hat.block k (H8.out.ne HGA.out k hk))
        have HNK3 : Hid _ := HNK2
        clear hat HNK2 HNK H5 H8 HGA hle
        change wpAny _ _ _ _ _ _ _ (w13.setCells g13 0 (bindV nm (.slice ad4 n4 cp4) 0))
        generalize w13.setCells g13 0 (bindV nm (.slice ad4 n4 cp4) 0) = w15 at *
        refine wpAny_done (by kernel_rfl) ?_ _
        have HVV : Hid (∀ k, v.ownBlock = some k → k < w.heap.size) := HVB.out (readText_pos HS5.out)
        have HSP : Hid (nkS l = if chk nm ky = 0 then some ((nm, ky), r8) else none) := nkS_some HS5.out HS8.out
        clear HS5 HS8
        go_wp2_with (refine wpSeq_val (.agg (bindV nm (.slice ad4 n4 cp4) 0).toArray) _ (by rfl) (load_run 25 _ rfl g13 0 rfl (bindV nm (.slice ad4 n4 cp4) 0) _ HGA2.out.range Try.underlying25 rfl (by kernel_rfl)) ?_)
        refine (rcheck_any nm ky (.slice ad4 n4 cp4) 0 w15 H82.out.reads).mono ?_
        rintro e w98 ⟨rfl, hb98⟩
        have HNK4 : Hid _ := HNK3.out.below hb98
        have HGA3 : Hid (Blk w98 g13 (bindV nm (.slice ad4 n4 cp4) 0) 25) := HGA2.out.below hb98 HGA2.out.lt
        have H83 : Hid (OwnB w98 w.heap.size (.slice ad4 n4 cp4) ky) := H82.out.below hb98 (Nat.le_refl _)
        clear hb98 HNK3 HGA2 H82
        by_cases hck : chk nm ky = 0
        · rw [if_pos hck] at HSP
          rw [hck]
          clear hck
          have HRES : Hid (Blk w98 w.heap.size bindK.z 25) := HNK4.out.res
          go_wp2_with (first | (refine wpSeq_val (.agg (bindV nm (.slice ad4 n4 cp4) 0).toArray) _ (by rfl) (load_run 25 _ rfl g13 0 rfl (bindV nm (.slice ad4 n4 cp4) 0) _ HGA3.out.range Try.underlying25 rfl (by kernel_rfl)) ?_) | (refine wpList_store_mid rfl 25 _ _ rfl w.heap.size 0 (bindV nm (.slice ad4 n4 cp4) 0).toArray rfl rfl (HRES.out.there 0 _ (by simp [bindK, bindV])) (by kernel_rfl) (all_oneCell_toArray (bindV_one H83.out.one)) ?_))
          have hat : At w.heap.size w98 (w98.setCells w.heap.size 0 (bindV nm (.slice ad4 n4 cp4) 0)) := At.setCells _ _ _ (At.refl _ _)
          have hB6 : Blk (w98.setCells w.heap.size 0 (bindV nm (.slice ad4 n4 cp4) 0)) w.heap.size (bindV nm (.slice ad4 n4 cp4) 0) 25 := HRES.out.whole _ rfl
          refine bodyPost_ret (v := .agg (bindV nm (.slice ad4 n4 cp4) 0).toArray) (results_cell_row (by rfl) _ _ w.heap.size 25 _ (0, 0) _ rfl hB6 Try.underlying25 rfl (by kernel_rfl)) rfl (Or.inl ⟨(nm, ky), r8, _, _, HSP.out, rfl, ⟨_, rfl, ?_⟩, ?_, ?_, HNK4.out.ob⟩)
          · exact H83.out.same (fun k hk => hat.block k (H83.out.ne HRES.out k hk))
          · exact HNK4.out.rdAt hat (Nat.le_refl _) HVV.out
          · exact HNK4.out.onlAt hat (Nat.le_refl _)
        · rw [if_neg hck] at HSP
          obtain ⟨ck, HCK⟩ : ∃ x, Hid (x = chk nm ky) := ⟨_, rfl⟩
          rw [← HCK.out] at hck ⊢
          go_wp2_with fail
          refine (cfail_any gr gi vc8 r8 w98 HNK4.out.rd).mono ?_
          rintro e w99 ⟨rfl, hw99⟩
          have HT : Hid (Threw gi w (thrown gi) w99) := by rw [hw99]; exact HNK4.out.rd.threw.after HNK4.out.onl
          have HD : Hid (RdDoes gr gi v w (nkS l) (fun (a : List (BitVec 8) × List (BitVec 8)) w' v => ∃ vk, v = .agg (bindV a.1 vk 0).toArray ∧ OwnB w' w.heap.size vk a.2) (thrown gi) w99) := Or.inr ⟨HSP.out, HT.out⟩
          unfold thrown at HD ⊢
          clear hw99 HNK4 HT
          go_wp2
          exact ⟨rfl, HD.out⟩
    · skip
      refine wpOp_vl 6 (.pointer (some ⟨w1.heap.size, 0, none⟩)) (w1.alloc (.cells bindK.z.toArray 25)) (by rfl) (by rfl) (allocBinding _ _ rfl _) ?_
      simp only [Act.put, List.getElem_toArray, List.getElem_cons_succ, List.getElem_cons_zero, List.setIfInBounds_toArray, List.set_cons_zero, List.set_cons_succ]
      have HGA : Hid (Blk (w1.alloc (.cells bindK.z.toArray 25)) w1.heap.size bindK.z 25) := Blk.new _ _ _
      have HGL : Hid (w.heap.size < w1.heap.size) := HNK.out.res.lt
      have hba := below_alloc w1 (.cells bindK.z.toArray 25)
      replace HNK := HNK.out.below hba
      replace H5 : Hid (OwnB (w1.alloc (.cells bindK.z.toArray 25)) w.heap.size (.slice ad1 n1 cp1) nm) := H5.out.below hba (Nat.le_refl _)
      clear hle
      have hle : w.heap.size ≤ (w1.alloc (.cells bindK.z.toArray 25)).heap.size := HNK.onl.size
      clear hba
      replace HNK : Hid _ := HNK
      generalize (w1.alloc (.cells bindK.z.toArray 25)) = w16 at *
      generalize w1.heap.size = g16 at *
      refine wpAny_pair 2 4 (by kernel_rfl) ?_ ?_
      · skip
        have hcv := conv_reads H5.out.reads
        refine wpOp_vl 2 (.string (strB nm)) w16 (by rfl) (by rfl) (by simp [execOp, Act.eval, hcv]) ?_
        clear hcv
        simp only [Act.put, List.getElem_toArray, List.getElem_cons_succ, List.getElem_cons_zero, List.setIfInBounds_toArray, List.set_cons_zero, List.set_cons_succ]
        refine wpAny_enterP 4 (by kernel_rfl) rfl (by rfl) (f := 70) (args := #[.pointer (some ⟨gr, 0, none⟩)]) (by simp [go_sem]) (crtext_any gr gi vc5 r5 w16 HNK.out.rd) ?_
        rintro e w18 (⟨ky, r8, va8, vc8, hc, rfl, hown, hrd, ho, hob⟩ | ⟨hc, hT⟩)
        case inr =>
          obtain rfl := hT.eq
          refine Or.inr ⟨_, rfl, ?_⟩
          exact ⟨rfl, Or.inr ⟨nkS_no HS5.out hc, Threw.after HNK.out.onl hT⟩⟩
        refine Or.inl ⟨_, rfl, ?_⟩
        replace HNK := HNK.out.call hrd ho hob
        have HS8 : Hid (readText r5 = some (ky, r8)) := hc
        have H8 : Hid (OwnB w18 w.heap.size va8 ky) := hown.mono hle
        replace H5 : Hid (OwnB w18 w.heap.size (.slice ad1 n1 cp1) nm) := H5.out.onlyK ho HGI.out
        replace HGA : Hid (Blk w18 g16 bindK.z 25) := HGA.out.only ho (by have := HGL.out; have := HGI.out; omega)
        clear hle
        have hle : w.heap.size ≤ w18.heap.size := HNK.onl.size
        obtain ⟨ad4, cp4, hv4, _, _, _⟩ := id hown.reads
        obtain ⟨n4, HL4⟩ : ∃ x, Hid (x = ky.length) := ⟨_, rfl⟩
        rw [← HL4.out] at hv4
        subst hv4
        clear hown hrd ho hob hc
        replace HNK : Hid _ := HNK
        simp only [Act.put, List.getElem_toArray, List.getElem_cons_succ, List.getElem_cons_zero, List.setIfInBounds_toArray, List.set_cons_zero, List.set_cons_succ]
        refine wpAny_take (i := 5) (v := .agg #[.string (strB nm), (.slice ad4 n4 cp4), .int .u64 0]) rfl (by kernel_rfl) (by kernel_rfl) (by kernel_rfl) (fun _ _ _ h => h) (Or.inl ⟨by rfl, fun wx => by simp [go_sem]⟩) ?_
        simp only [Act.put, List.getElem_toArray, List.getElem_cons_succ, List.getElem_cons_zero, List.setIfInBounds_toArray, List.set_cons_zero, List.set_cons_succ]
        refine wpAny_law 7 (by kernel_rfl) rfl (by rfl) (wp_store_mid 25 _ _ rfl g16 0 (bindV nm (.slice ad4 n4 cp4) 0).toArray rfl rfl (HGA.out.there 0 _ (by simp [bindK, bindV])) (by kernel_rfl) (all_oneCell_toArray (bindV_one H8.out.one)) ?_)
        simp only [Act.put, List.getElem_toArray, List.getElem_cons_succ, List.getElem_cons_zero]
        have hat : At g16 w18 (w18.setCells g16 0 (bindV nm (.slice ad4 n4 cp4) 0)) := At.setCells _ _ _ (At.refl _ _)
        have HGA2 : Hid (Blk (w18.setCells g16 0 (bindV nm (.slice ad4 n4 cp4) 0)) g16 (bindV nm (.slice ad4 n4 cp4) 0) 25) := HGA.out.whole _ rfl
        have HNK2 := HNK.out.at hat HGL.out (HVB.out (readText_pos HS5.out))
        have H82 : Hid (OwnB (w18.setCells g16 0 (bindV nm (.slice ad4 n4 cp4) 0)) w.heap.size (.slice ad4 n4 cp4) ky) := H8.out.same (fun k hk => hat.block k (H8.out.ne HGA.out k hk))
        have HNK3 : Hid _ := HNK2
        clear hat HNK2 HNK H5 H8 HGA hle
        change wpAny _ _ _ _ _ _ _ (w18.setCells g16 0 (bindV nm (.slice ad4 n4 cp4) 0))
        generalize w18.setCells g16 0 (bindV nm (.slice ad4 n4 cp4) 0) = w19 at *
        refine wpAny_done (by kernel_rfl) ?_ _
        have HVV : Hid (∀ k, v.ownBlock = some k → k < w.heap.size) := HVB.out (readText_pos HS5.out)
        have HSP : Hid (nkS l = if chk nm ky = 0 then some ((nm, ky), r8) else none) := nkS_some HS5.out HS8.out
        clear HS5 HS8
        go_wp2_with (refine wpSeq_val (.agg (bindV nm (.slice ad4 n4 cp4) 0).toArray) _ (by rfl) (load_run 25 _ rfl g16 0 rfl (bindV nm (.slice ad4 n4 cp4) 0) _ HGA2.out.range Try.underlying25 rfl (by kernel_rfl)) ?_)
        refine (rcheck_any nm ky (.slice ad4 n4 cp4) 0 w19 H82.out.reads).mono ?_
        rintro e w98 ⟨rfl, hb98⟩
        have HNK4 : Hid _ := HNK3.out.below hb98
        have HGA3 : Hid (Blk w98 g16 (bindV nm (.slice ad4 n4 cp4) 0) 25) := HGA2.out.below hb98 HGA2.out.lt
        have H83 : Hid (OwnB w98 w.heap.size (.slice ad4 n4 cp4) ky) := H82.out.below hb98 (Nat.le_refl _)
        clear hb98 HNK3 HGA2 H82
        by_cases hck : chk nm ky = 0
        · rw [if_pos hck] at HSP
          rw [hck]
          clear hck
          have HRES : Hid (Blk w98 w.heap.size bindK.z 25) := HNK4.out.res
          go_wp2_with (first | (refine wpSeq_val (.agg (bindV nm (.slice ad4 n4 cp4) 0).toArray) _ (by rfl) (load_run 25 _ rfl g16 0 rfl (bindV nm (.slice ad4 n4 cp4) 0) _ HGA3.out.range Try.underlying25 rfl (by kernel_rfl)) ?_) | (refine wpList_store_mid rfl 25 _ _ rfl w.heap.size 0 (bindV nm (.slice ad4 n4 cp4) 0).toArray rfl rfl (HRES.out.there 0 _ (by simp [bindK, bindV])) (by kernel_rfl) (all_oneCell_toArray (bindV_one H83.out.one)) ?_))
          have hat : At w.heap.size w98 (w98.setCells w.heap.size 0 (bindV nm (.slice ad4 n4 cp4) 0)) := At.setCells _ _ _ (At.refl _ _)
          have hB6 : Blk (w98.setCells w.heap.size 0 (bindV nm (.slice ad4 n4 cp4) 0)) w.heap.size (bindV nm (.slice ad4 n4 cp4) 0) 25 := HRES.out.whole _ rfl
          refine bodyPost_ret (v := .agg (bindV nm (.slice ad4 n4 cp4) 0).toArray) (results_cell_row (by rfl) _ _ w.heap.size 25 _ (0, 0) _ rfl hB6 Try.underlying25 rfl (by kernel_rfl)) rfl (Or.inl ⟨(nm, ky), r8, _, _, HSP.out, rfl, ⟨_, rfl, ?_⟩, ?_, ?_, HNK4.out.ob⟩)
          · exact H83.out.same (fun k hk => hat.block k (H83.out.ne HRES.out k hk))
          · exact HNK4.out.rdAt hat (Nat.le_refl _) HVV.out
          · exact HNK4.out.onlAt hat (Nat.le_refl _)
        · rw [if_neg hck] at HSP
          obtain ⟨ck, HCK⟩ : ∃ x, Hid (x = chk nm ky) := ⟨_, rfl⟩
          rw [← HCK.out] at hck ⊢
          go_wp2_with fail
          refine (cfail_any gr gi vc8 r8 w98 HNK4.out.rd).mono ?_
          rintro e w99 ⟨rfl, hw99⟩
          have HT : Hid (Threw gi w (thrown gi) w99) := by rw [hw99]; exact HNK4.out.rd.threw.after HNK4.out.onl
          have HD : Hid (RdDoes gr gi v w (nkS l) (fun (a : List (BitVec 8) × List (BitVec 8)) w' v => ∃ vk, v = .agg (bindV a.1 vk 0).toArray ∧ OwnB w' w.heap.size vk a.2) (thrown gi) w99) := Or.inr ⟨HSP.out, HT.out⟩
          unfold thrown at HD ⊢
          clear hw99 HNK4 HT
          go_wp2
          exact ⟨rfl, HD.out⟩
      · skip
        refine wpOp_enP 4 (by rfl) (by rfl) (f := 70) (args := #[.pointer (some ⟨gr, 0, none⟩)]) (by simp [go_sem]) (crtext_any gr gi vc5 r5 w16 HNK.out.rd) ?_
        rintro e w20 (⟨ky, r8, va8, vc8, hc, rfl, hown, hrd, ho, hob⟩ | ⟨hc, hT⟩)
        case inr =>
          obtain rfl := hT.eq
          refine Or.inr ⟨_, rfl, ?_⟩
          exact ⟨rfl, Or.inr ⟨nkS_no HS5.out hc, Threw.after HNK.out.onl hT⟩⟩
        refine Or.inl ⟨_, rfl, ?_⟩
        replace HNK := HNK.out.call hrd ho hob
        have HS8 : Hid (readText r5 = some (ky, r8)) := hc
        have H8 : Hid (OwnB w20 w.heap.size va8 ky) := hown.mono hle
        replace H5 : Hid (OwnB w20 w.heap.size (.slice ad1 n1 cp1) nm) := H5.out.onlyK ho HGI.out
        replace HGA : Hid (Blk w20 g16 bindK.z 25) := HGA.out.only ho (by have := HGL.out; have := HGI.out; omega)
        clear hle
        have hle : w.heap.size ≤ w20.heap.size := HNK.onl.size
        obtain ⟨ad4, cp4, hv4, _, _, _⟩ := id hown.reads
        obtain ⟨n4, HL4⟩ : ∃ x, Hid (x = ky.length) := ⟨_, rfl⟩
        rw [← HL4.out] at hv4
        subst hv4
        clear hown hrd ho hob hc
        replace HNK : Hid _ := HNK
        simp only [Act.put, List.getElem_toArray, List.getElem_cons_succ, List.getElem_cons_zero, List.setIfInBounds_toArray, List.set_cons_zero, List.set_cons_succ]
        have hcv := conv_reads H5.out.reads
        refine wpAny_step 2 (.string (strB nm)) w20 (by kernel_rfl) rfl (by rfl) (by simp [execOp, Act.eval, hcv]) ?_
        clear hcv
        simp only [Act.put, List.getElem_toArray, List.getElem_cons_succ, List.getElem_cons_zero, List.setIfInBounds_toArray, List.set_cons_zero, List.set_cons_succ]
        refine wpAny_take (i := 5) (v := .agg #[.string (strB nm), (.slice ad4 n4 cp4), .int .u64 0]) rfl (by kernel_rfl) (by kernel_rfl) (by kernel_rfl) (fun _ _ _ h => h) (Or.inl ⟨by rfl, fun wx => by simp [go_sem]⟩) ?_
        simp only [Act.put, List.getElem_toArray, List.getElem_cons_succ, List.getElem_cons_zero, List.setIfInBounds_toArray, List.set_cons_zero, List.set_cons_succ]
        refine wpAny_law 7 (by kernel_rfl) rfl (by rfl) (wp_store_mid 25 _ _ rfl g16 0 (bindV nm (.slice ad4 n4 cp4) 0).toArray rfl rfl (HGA.out.there 0 _ (by simp [bindK, bindV])) (by kernel_rfl) (all_oneCell_toArray (bindV_one H8.out.one)) ?_)
        simp only [Act.put, List.getElem_toArray, List.getElem_cons_succ, List.getElem_cons_zero]
        have hat : At g16 w20 (w20.setCells g16 0 (bindV nm (.slice ad4 n4 cp4) 0)) := At.setCells _ _ _ (At.refl _ _)
        have HGA2 : Hid (Blk (w20.setCells g16 0 (bindV nm (.slice ad4 n4 cp4) 0)) g16 (bindV nm (.slice ad4 n4 cp4) 0) 25) := HGA.out.whole _ rfl
        have HNK2 := HNK.out.at hat HGL.out (HVB.out (readText_pos HS5.out))
        have H82 : Hid (OwnB (w20.setCells g16 0 (bindV nm (.slice ad4 n4 cp4) 0)) w.heap.size (.slice ad4 n4 cp4) ky) := H8.out.same (fun k hk => hat.block k (H8.out.ne HGA.out k hk))
        have HNK3 : Hid _ := HNK2
        clear hat HNK2 HNK H5 H8 HGA hle
        change wpAny _ _ _ _ _ _ _ (w20.setCells g16 0 (bindV nm (.slice ad4 n4 cp4) 0))
        generalize w20.setCells g16 0 (bindV nm (.slice ad4 n4 cp4) 0) = w22 at *
        refine wpAny_done (by kernel_rfl) ?_ _
        have HVV : Hid (∀ k, v.ownBlock = some k → k < w.heap.size) := HVB.out (readText_pos HS5.out)
        have HSP : Hid (nkS l = if chk nm ky = 0 then some ((nm, ky), r8) else none) := nkS_some HS5.out HS8.out
        clear HS5 HS8
        go_wp2_with (refine wpSeq_val (.agg (bindV nm (.slice ad4 n4 cp4) 0).toArray) _ (by rfl) (load_run 25 _ rfl g16 0 rfl (bindV nm (.slice ad4 n4 cp4) 0) _ HGA2.out.range Try.underlying25 rfl (by kernel_rfl)) ?_)
        refine (rcheck_any nm ky (.slice ad4 n4 cp4) 0 w22 H82.out.reads).mono ?_
        rintro e w98 ⟨rfl, hb98⟩
        have HNK4 : Hid _ := HNK3.out.below hb98
        have HGA3 : Hid (Blk w98 g16 (bindV nm (.slice ad4 n4 cp4) 0) 25) := HGA2.out.below hb98 HGA2.out.lt
        have H83 : Hid (OwnB w98 w.heap.size (.slice ad4 n4 cp4) ky) := H82.out.below hb98 (Nat.le_refl _)
        clear hb98 HNK3 HGA2 H82
        by_cases hck : chk nm ky = 0
        · rw [if_pos hck] at HSP
          rw [hck]
          clear hck
          have HRES : Hid (Blk w98 w.heap.size bindK.z 25) := HNK4.out.res
          go_wp2_with (first | (refine wpSeq_val (.agg (bindV nm (.slice ad4 n4 cp4) 0).toArray) _ (by rfl) (load_run 25 _ rfl g16 0 rfl (bindV nm (.slice ad4 n4 cp4) 0) _ HGA3.out.range Try.underlying25 rfl (by kernel_rfl)) ?_) | (refine wpList_store_mid rfl 25 _ _ rfl w.heap.size 0 (bindV nm (.slice ad4 n4 cp4) 0).toArray rfl rfl (HRES.out.there 0 _ (by simp [bindK, bindV])) (by kernel_rfl) (all_oneCell_toArray (bindV_one H83.out.one)) ?_))
          have hat : At w.heap.size w98 (w98.setCells w.heap.size 0 (bindV nm (.slice ad4 n4 cp4) 0)) := At.setCells _ _ _ (At.refl _ _)
          have hB6 : Blk (w98.setCells w.heap.size 0 (bindV nm (.slice ad4 n4 cp4) 0)) w.heap.size (bindV nm (.slice ad4 n4 cp4) 0) 25 := HRES.out.whole _ rfl
          refine bodyPost_ret (v := .agg (bindV nm (.slice ad4 n4 cp4) 0).toArray) (results_cell_row (by rfl) _ _ w.heap.size 25 _ (0, 0) _ rfl hB6 Try.underlying25 rfl (by kernel_rfl)) rfl (Or.inl ⟨(nm, ky), r8, _, _, HSP.out, rfl, ⟨_, rfl, ?_⟩, ?_, ?_, HNK4.out.ob⟩)
          · exact H83.out.same (fun k hk => hat.block k (H83.out.ne HRES.out k hk))
          · exact HNK4.out.rdAt hat (Nat.le_refl _) HVV.out
          · exact HNK4.out.onlAt hat (Nat.le_refl _)
        · rw [if_neg hck] at HSP
          obtain ⟨ck, HCK⟩ : ∃ x, Hid (x = chk nm ky) := ⟨_, rfl⟩
          rw [← HCK.out] at hck ⊢
          go_wp2_with fail
          refine (cfail_any gr gi vc8 r8 w98 HNK4.out.rd).mono ?_
          rintro e w99 ⟨rfl, hw99⟩
          have HT : Hid (Threw gi w (thrown gi) w99) := by rw [hw99]; exact HNK4.out.rd.threw.after HNK4.out.onl
          have HD : Hid (RdDoes gr gi v w (nkS l) (fun (a : List (BitVec 8) × List (BitVec 8)) w' v => ∃ vk, v = .agg (bindV a.1 vk 0).toArray ∧ OwnB w' w.heap.size vk a.2) (thrown gi) w99) := Or.inr ⟨HSP.out, HT.out⟩
          unfold thrown at HD ⊢
          clear hw99 HNK4 HT
          go_wp2
          exact ⟨rfl, HD.out⟩
  · skip
    refine wpOp_vl 6 (.pointer (some ⟨w0.heap.size, 0, none⟩)) (w0.alloc (.cells bindK.z.toArray 25)) (by rfl) (by rfl) (allocBinding _ _ rfl _) ?_
    simp only [Act.put, List.getElem_toArray, List.getElem_cons_succ, List.getElem_cons_zero, List.setIfInBounds_toArray, List.set_cons_zero, List.set_cons_succ]
    have HGA : Hid (Blk (w0.alloc (.cells bindK.z.toArray 25)) w0.heap.size bindK.z 25) := Blk.new _ _ _
    have HGL : Hid (w.heap.size < w0.heap.size) := HNK.out.res.lt
    have hba := below_alloc w0 (.cells bindK.z.toArray 25)
    replace HNK := HNK.out.below hba
    clear hle
    have hle : w.heap.size ≤ (w0.alloc (.cells bindK.z.toArray 25)).heap.size := HNK.onl.size
    clear hba
    replace HNK : Hid _ := HNK
    generalize (w0.alloc (.cells bindK.z.toArray 25)) = w23 at *
    generalize w0.heap.size = g23 at *
    refine wpAny_enterP 1 (by kernel_rfl) rfl (by rfl) (f := 70) (args := #[.pointer (some ⟨gr, 0, none⟩)]) (by simp [go_sem]) (crtext_any gr gi v l w23 HNK.out.rd) ?_
    rintro e w24 (⟨nm, r5, va5, vc5, hc, rfl, hown, hrd, ho, hob⟩ | ⟨hc, hT⟩)
    case inr =>
      obtain rfl := hT.eq
      refine Or.inr ⟨_, rfl, ?_⟩
      exact ⟨rfl, Or.inr ⟨nkS_none hc, Threw.after HNK.out.onl hT⟩⟩
    refine Or.inl ⟨_, rfl, ?_⟩
    replace HNK := HNK.out.call hrd ho hob
    have HS5 : Hid (readText l = some (nm, r5)) := hc
    have H5 : Hid (OwnB w24 w.heap.size va5 nm) := hown.mono hle
    replace HGA : Hid (Blk w24 g23 bindK.z 25) := HGA.out.only ho (by have := HGL.out; have := HGI.out; omega)
    clear hle
    have hle : w.heap.size ≤ w24.heap.size := HNK.onl.size
    obtain ⟨ad1, cp1, hv1, _, _, _⟩ := id hown.reads
    obtain ⟨n1, HL1⟩ : ∃ x, Hid (x = nm.length) := ⟨_, rfl⟩
    rw [← HL1.out] at hv1
    subst hv1
    clear hown hrd ho hob hc
    replace HNK : Hid _ := HNK
    simp only [Act.put, List.getElem_toArray, List.getElem_cons_succ, List.getElem_cons_zero, List.setIfInBounds_toArray, List.set_cons_zero, List.set_cons_succ]
    refine wpAny_pair 2 4 (by kernel_rfl) ?_ ?_
    · skip
      have hcv := conv_reads H5.out.reads
      refine wpOp_vl 2 (.string (strB nm)) w24 (by rfl) (by rfl) (by simp [execOp, Act.eval, hcv]) ?_
      clear hcv
      simp only [Act.put, List.getElem_toArray, List.getElem_cons_succ, List.getElem_cons_zero, List.setIfInBounds_toArray, List.set_cons_zero, List.set_cons_succ]
      refine wpAny_enterP 4 (by kernel_rfl) rfl (by rfl) (f := 70) (args := #[.pointer (some ⟨gr, 0, none⟩)]) (by simp [go_sem]) (crtext_any gr gi vc5 r5 w24 HNK.out.rd) ?_
      rintro e w26 (⟨ky, r8, va8, vc8, hc, rfl, hown, hrd, ho, hob⟩ | ⟨hc, hT⟩)
      case inr =>
        obtain rfl := hT.eq
        refine Or.inr ⟨_, rfl, ?_⟩
        exact ⟨rfl, Or.inr ⟨nkS_no HS5.out hc, Threw.after HNK.out.onl hT⟩⟩
      refine Or.inl ⟨_, rfl, ?_⟩
      replace HNK := HNK.out.call hrd ho hob
      have HS8 : Hid (readText r5 = some (ky, r8)) := hc
      have H8 : Hid (OwnB w26 w.heap.size va8 ky) := hown.mono hle
      replace H5 : Hid (OwnB w26 w.heap.size (.slice ad1 n1 cp1) nm) := H5.out.onlyK ho HGI.out
      replace HGA : Hid (Blk w26 g23 bindK.z 25) := HGA.out.only ho (by have := HGL.out; have := HGI.out; omega)
      clear hle
      have hle : w.heap.size ≤ w26.heap.size := HNK.onl.size
      obtain ⟨ad4, cp4, hv4, _, _, _⟩ := id hown.reads
      obtain ⟨n4, HL4⟩ : ∃ x, Hid (x = ky.length) := ⟨_, rfl⟩
      rw [← HL4.out] at hv4
      subst hv4
      clear hown hrd ho hob hc
      replace HNK : Hid _ := HNK
      simp only [Act.put, List.getElem_toArray, List.getElem_cons_succ, List.getElem_cons_zero, List.setIfInBounds_toArray, List.set_cons_zero, List.set_cons_succ]
      refine wpAny_take (i := 5) (v := .agg #[.string (strB nm), (.slice ad4 n4 cp4), .int .u64 0]) rfl (by kernel_rfl) (by kernel_rfl) (by kernel_rfl) (fun _ _ _ h => h) (Or.inl ⟨by rfl, fun wx => by simp [go_sem]⟩) ?_
      simp only [Act.put, List.getElem_toArray, List.getElem_cons_succ, List.getElem_cons_zero, List.setIfInBounds_toArray, List.set_cons_zero, List.set_cons_succ]
      refine wpAny_law 7 (by kernel_rfl) rfl (by rfl) (wp_store_mid 25 _ _ rfl g23 0 (bindV nm (.slice ad4 n4 cp4) 0).toArray rfl rfl (HGA.out.there 0 _ (by simp [bindK, bindV])) (by kernel_rfl) (all_oneCell_toArray (bindV_one H8.out.one)) ?_)
      simp only [Act.put, List.getElem_toArray, List.getElem_cons_succ, List.getElem_cons_zero]
      have hat : At g23 w26 (w26.setCells g23 0 (bindV nm (.slice ad4 n4 cp4) 0)) := At.setCells _ _ _ (At.refl _ _)
      have HGA2 : Hid (Blk (w26.setCells g23 0 (bindV nm (.slice ad4 n4 cp4) 0)) g23 (bindV nm (.slice ad4 n4 cp4) 0) 25) := HGA.out.whole _ rfl
      have HNK2 := HNK.out.at hat HGL.out (HVB.out (readText_pos HS5.out))
      have H82 : Hid (OwnB (w26.setCells g23 0 (bindV nm (.slice ad4 n4 cp4) 0)) w.heap.size (.slice ad4 n4 cp4) ky) := H8.out.same (fun k hk => hat.block k (H8.out.ne HGA.out k hk))
      have HNK3 : Hid _ := HNK2
      clear hat HNK2 HNK H5 H8 HGA hle
      change wpAny _ _ _ _ _ _ _ (w26.setCells g23 0 (bindV nm (.slice ad4 n4 cp4) 0))
      generalize w26.setCells g23 0 (bindV nm (.slice ad4 n4 cp4) 0) = w27 at *
      refine wpAny_done (by kernel_rfl) ?_ _
      have HVV : Hid (∀ k, v.ownBlock = some k → k < w.heap.size) := HVB.out (readText_pos HS5.out)
      have HSP : Hid (nkS l = if chk nm ky = 0 then some ((nm, ky), r8) else none) := nkS_some HS5.out HS8.out
      clear HS5 HS8
      go_wp2_with (refine wpSeq_val (.agg (bindV nm (.slice ad4 n4 cp4) 0).toArray) _ (by rfl) (load_run 25 _ rfl g23 0 rfl (bindV nm (.slice ad4 n4 cp4) 0) _ HGA2.out.range Try.underlying25 rfl (by kernel_rfl)) ?_)
      refine (rcheck_any nm ky (.slice ad4 n4 cp4) 0 w27 H82.out.reads).mono ?_
      rintro e w98 ⟨rfl, hb98⟩
      have HNK4 : Hid _ := HNK3.out.below hb98
      have HGA3 : Hid (Blk w98 g23 (bindV nm (.slice ad4 n4 cp4) 0) 25) := HGA2.out.below hb98 HGA2.out.lt
      have H83 : Hid (OwnB w98 w.heap.size (.slice ad4 n4 cp4) ky) := H82.out.below hb98 (Nat.le_refl _)
      clear hb98 HNK3 HGA2 H82
      by_cases hck : chk nm ky = 0
      · rw [if_pos hck] at HSP
        rw [hck]
        clear hck
        have HRES : Hid (Blk w98 w.heap.size bindK.z 25) := HNK4.out.res
        go_wp2_with (first | (refine wpSeq_val (.agg (bindV nm (.slice ad4 n4 cp4) 0).toArray) _ (by rfl) (load_run 25 _ rfl g23 0 rfl (bindV nm (.slice ad4 n4 cp4) 0) _ HGA3.out.range Try.underlying25 rfl (by kernel_rfl)) ?_) | (refine wpList_store_mid rfl 25 _ _ rfl w.heap.size 0 (bindV nm (.slice ad4 n4 cp4) 0).toArray rfl rfl (HRES.out.there 0 _ (by simp [bindK, bindV])) (by kernel_rfl) (all_oneCell_toArray (bindV_one H83.out.one)) ?_))
        have hat : At w.heap.size w98 (w98.setCells w.heap.size 0 (bindV nm (.slice ad4 n4 cp4) 0)) := At.setCells _ _ _ (At.refl _ _)
        have hB6 : Blk (w98.setCells w.heap.size 0 (bindV nm (.slice ad4 n4 cp4) 0)) w.heap.size (bindV nm (.slice ad4 n4 cp4) 0) 25 := HRES.out.whole _ rfl
        refine bodyPost_ret (v := .agg (bindV nm (.slice ad4 n4 cp4) 0).toArray) (results_cell_row (by rfl) _ _ w.heap.size 25 _ (0, 0) _ rfl hB6 Try.underlying25 rfl (by kernel_rfl)) rfl (Or.inl ⟨(nm, ky), r8, _, _, HSP.out, rfl, ⟨_, rfl, ?_⟩, ?_, ?_, HNK4.out.ob⟩)
        · exact H83.out.same (fun k hk => hat.block k (H83.out.ne HRES.out k hk))
        · exact HNK4.out.rdAt hat (Nat.le_refl _) HVV.out
        · exact HNK4.out.onlAt hat (Nat.le_refl _)
      · rw [if_neg hck] at HSP
        obtain ⟨ck, HCK⟩ : ∃ x, Hid (x = chk nm ky) := ⟨_, rfl⟩
        rw [← HCK.out] at hck ⊢
        go_wp2_with fail
        refine (cfail_any gr gi vc8 r8 w98 HNK4.out.rd).mono ?_
        rintro e w99 ⟨rfl, hw99⟩
        have HT : Hid (Threw gi w (thrown gi) w99) := by rw [hw99]; exact HNK4.out.rd.threw.after HNK4.out.onl
        have HD : Hid (RdDoes gr gi v w (nkS l) (fun (a : List (BitVec 8) × List (BitVec 8)) w' v => ∃ vk, v = .agg (bindV a.1 vk 0).toArray ∧ OwnB w' w.heap.size vk a.2) (thrown gi) w99) := Or.inr ⟨HSP.out, HT.out⟩
        unfold thrown at HD ⊢
        clear hw99 HNK4 HT
        go_wp2
        exact ⟨rfl, HD.out⟩
    · skip
      refine wpOp_enP 4 (by rfl) (by rfl) (f := 70) (args := #[.pointer (some ⟨gr, 0, none⟩)]) (by simp [go_sem]) (crtext_any gr gi vc5 r5 w24 HNK.out.rd) ?_
      rintro e w28 (⟨ky, r8, va8, vc8, hc, rfl, hown, hrd, ho, hob⟩ | ⟨hc, hT⟩)
      case inr =>
        obtain rfl := hT.eq
        refine Or.inr ⟨_, rfl, ?_⟩
        exact ⟨rfl, Or.inr ⟨nkS_no HS5.out hc, Threw.after HNK.out.onl hT⟩⟩
      refine Or.inl ⟨_, rfl, ?_⟩
      replace HNK := HNK.out.call hrd ho hob
      have HS8 : Hid (readText r5 = some (ky, r8)) := hc
      have H8 : Hid (OwnB w28 w.heap.size va8 ky) := hown.mono hle
      replace H5 : Hid (OwnB w28 w.heap.size (.slice ad1 n1 cp1) nm) := H5.out.onlyK ho HGI.out
      replace HGA : Hid (Blk w28 g23 bindK.z 25) := HGA.out.only ho (by have := HGL.out; have := HGI.out; omega)
      clear hle
      have hle : w.heap.size ≤ w28.heap.size := HNK.onl.size
      obtain ⟨ad4, cp4, hv4, _, _, _⟩ := id hown.reads
      obtain ⟨n4, HL4⟩ : ∃ x, Hid (x = ky.length) := ⟨_, rfl⟩
      rw [← HL4.out] at hv4
      subst hv4
      clear hown hrd ho hob hc
      replace HNK : Hid _ := HNK
      simp only [Act.put, List.getElem_toArray, List.getElem_cons_succ, List.getElem_cons_zero, List.setIfInBounds_toArray, List.set_cons_zero, List.set_cons_succ]
      have hcv := conv_reads H5.out.reads
      refine wpAny_step 2 (.string (strB nm)) w28 (by kernel_rfl) rfl (by rfl) (by simp [execOp, Act.eval, hcv]) ?_
      clear hcv
      simp only [Act.put, List.getElem_toArray, List.getElem_cons_succ, List.getElem_cons_zero, List.setIfInBounds_toArray, List.set_cons_zero, List.set_cons_succ]
      refine wpAny_take (i := 5) (v := .agg #[.string (strB nm), (.slice ad4 n4 cp4), .int .u64 0]) rfl (by kernel_rfl) (by kernel_rfl) (by kernel_rfl) (fun _ _ _ h => h) (Or.inl ⟨by rfl, fun wx => by simp [go_sem]⟩) ?_
      simp only [Act.put, List.getElem_toArray, List.getElem_cons_succ, List.getElem_cons_zero, List.setIfInBounds_toArray, List.set_cons_zero, List.set_cons_succ]
      refine wpAny_law 7 (by kernel_rfl) rfl (by rfl) (wp_store_mid 25 _ _ rfl g23 0 (bindV nm (.slice ad4 n4 cp4) 0).toArray rfl rfl (HGA.out.there 0 _ (by simp [bindK, bindV])) (by kernel_rfl) (all_oneCell_toArray (bindV_one H8.out.one)) ?_)
      simp only [Act.put, List.getElem_toArray, List.getElem_cons_succ, List.getElem_cons_zero]
      have hat : At g23 w28 (w28.setCells g23 0 (bindV nm (.slice ad4 n4 cp4) 0)) := At.setCells _ _ _ (At.refl _ _)
      have HGA2 : Hid (Blk (w28.setCells g23 0 (bindV nm (.slice ad4 n4 cp4) 0)) g23 (bindV nm (.slice ad4 n4 cp4) 0) 25) := HGA.out.whole _ rfl
      have HNK2 := HNK.out.at hat HGL.out (HVB.out (readText_pos HS5.out))
      have H82 : Hid (OwnB (w28.setCells g23 0 (bindV nm (.slice ad4 n4 cp4) 0)) w.heap.size (.slice ad4 n4 cp4) ky) := H8.out.same (fun k hk => hat.block k (H8.out.ne HGA.out k hk))
      have HNK3 : Hid _ := HNK2
      clear hat HNK2 HNK H5 H8 HGA hle
      change wpAny _ _ _ _ _ _ _ (w28.setCells g23 0 (bindV nm (.slice ad4 n4 cp4) 0))
      generalize w28.setCells g23 0 (bindV nm (.slice ad4 n4 cp4) 0) = w30 at *
      refine wpAny_done (by kernel_rfl) ?_ _
      have HVV : Hid (∀ k, v.ownBlock = some k → k < w.heap.size) := HVB.out (readText_pos HS5.out)
      have HSP : Hid (nkS l = if chk nm ky = 0 then some ((nm, ky), r8) else none) := nkS_some HS5.out HS8.out
      clear HS5 HS8
      go_wp2_with (refine wpSeq_val (.agg (bindV nm (.slice ad4 n4 cp4) 0).toArray) _ (by rfl) (load_run 25 _ rfl g23 0 rfl (bindV nm (.slice ad4 n4 cp4) 0) _ HGA2.out.range Try.underlying25 rfl (by kernel_rfl)) ?_)
      refine (rcheck_any nm ky (.slice ad4 n4 cp4) 0 w30 H82.out.reads).mono ?_
      rintro e w98 ⟨rfl, hb98⟩
      have HNK4 : Hid _ := HNK3.out.below hb98
      have HGA3 : Hid (Blk w98 g23 (bindV nm (.slice ad4 n4 cp4) 0) 25) := HGA2.out.below hb98 HGA2.out.lt
      have H83 : Hid (OwnB w98 w.heap.size (.slice ad4 n4 cp4) ky) := H82.out.below hb98 (Nat.le_refl _)
      clear hb98 HNK3 HGA2 H82
      by_cases hck : chk nm ky = 0
      · rw [if_pos hck] at HSP
        rw [hck]
        clear hck
        have HRES : Hid (Blk w98 w.heap.size bindK.z 25) := HNK4.out.res
        go_wp2_with (first | (refine wpSeq_val (.agg (bindV nm (.slice ad4 n4 cp4) 0).toArray) _ (by rfl) (load_run 25 _ rfl g23 0 rfl (bindV nm (.slice ad4 n4 cp4) 0) _ HGA3.out.range Try.underlying25 rfl (by kernel_rfl)) ?_) | (refine wpList_store_mid rfl 25 _ _ rfl w.heap.size 0 (bindV nm (.slice ad4 n4 cp4) 0).toArray rfl rfl (HRES.out.there 0 _ (by simp [bindK, bindV])) (by kernel_rfl) (all_oneCell_toArray (bindV_one H83.out.one)) ?_))
        have hat : At w.heap.size w98 (w98.setCells w.heap.size 0 (bindV nm (.slice ad4 n4 cp4) 0)) := At.setCells _ _ _ (At.refl _ _)
        have hB6 : Blk (w98.setCells w.heap.size 0 (bindV nm (.slice ad4 n4 cp4) 0)) w.heap.size (bindV nm (.slice ad4 n4 cp4) 0) 25 := HRES.out.whole _ rfl
        refine bodyPost_ret (v := .agg (bindV nm (.slice ad4 n4 cp4) 0).toArray) (results_cell_row (by rfl) _ _ w.heap.size 25 _ (0, 0) _ rfl hB6 Try.underlying25 rfl (by kernel_rfl)) rfl (Or.inl ⟨(nm, ky), r8, _, _, HSP.out, rfl, ⟨_, rfl, ?_⟩, ?_, ?_, HNK4.out.ob⟩)
        · exact H83.out.same (fun k hk => hat.block k (H83.out.ne HRES.out k hk))
        · exact HNK4.out.rdAt hat (Nat.le_refl _) HVV.out
        · exact HNK4.out.onlAt hat (Nat.le_refl _)
      · rw [if_neg hck] at HSP
        obtain ⟨ck, HCK⟩ : ∃ x, Hid (x = chk nm ky) := ⟨_, rfl⟩
        rw [← HCK.out] at hck ⊢
        go_wp2_with fail
        refine (cfail_any gr gi vc8 r8 w98 HNK4.out.rd).mono ?_
        rintro e w99 ⟨rfl, hw99⟩
        have HT : Hid (Threw gi w (thrown gi) w99) := by rw [hw99]; exact HNK4.out.rd.threw.after HNK4.out.onl
        have HD : Hid (RdDoes gr gi v w (nkS l) (fun (a : List (BitVec 8) × List (BitVec 8)) w' v => ∃ vk, v = .agg (bindV a.1 vk 0).toArray ∧ OwnB w' w.heap.size vk a.2) (thrown gi) w99) := Or.inr ⟨HSP.out, HT.out⟩
        unfold thrown at HD ⊢
        clear hw99 HNK4 HT
        go_wp2
        exact ⟨rfl, HD.out⟩
end Go.Proofs.Ytldbcglakeggaaa

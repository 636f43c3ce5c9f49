/- Texts that the proof leans on, one behind the other: The walks of fork's parted, Read and Accept (layer 12). The walk of the reference's Same (layer 12). ForkBack, over what fork's functions do (layer 12). .. -/
import Derived.Test.YtableajopaappaaDoorMge
import Derived.Test.YtableajopaappaaDoorRows
import Derived.Test.YtableajopaappaaDoorMga
import Derived.ProofKit
import Derived.LaidMore
import Derived.OpenShut
import Derived.Stop.Joined
import Derived.Lib.LaidTab
import Derived.Carry
import Derived.ChangeSlices
/- The walks of fork's parted, Read and Accept (layer 12). -/
namespace Go.Proofs.YtableajopaappaaDoor
open Go.RowKit Go.Shelf
set_option maxRecDepth 100000
set_option maxRecDepth 100000 in
set_option maxHeartbeats 8000000 in
theorem fkParted_any (g6 n kk : Nat) (L : List (SgT × Value)) (w : World) (hr : RowS w g6 L) (hn : L.length = n) (hk : n = kk + 2) (h65 : n ≤ 65) (hv : ∀ p ∈ L, ∃ a n c, p.2 = .slice a n c) :
    Calls Tryd.prog 34 #[.slice (some ⟨g6, 0, none⟩) n n] w fun r w' => ∃ g4, w.heap.size ≤ g4 ∧ r = .returned (.agg (evC (evL (L.map (·.1))) (.slice (some ⟨g4, 0, none⟩) kk kk) (L.getD kk zeroP).2 (L.getD (kk + 1) zeroP).2).toArray) ∧ RowS w' g4 (L.take kk) ∧ Below w.heap.size w w' := by
  have HKN : Hid (kk < n ∧ kk + 1 < n) := ⟨by omega, by omega⟩
  have HN65 : Hid (n ≤ 65) := h65
  have HKE : Hid (n = kk + 2) := hk
  obtain ⟨ma, qa⟩ := getP_mem (L := L) (k := kk) (by omega)
  obtain ⟨mb, qb⟩ := getP_mem (L := L) (k := kk + 1) (by omega)
  have hs1 := hr.at qa
  have hs2 := hr.at qb
  obtain ⟨e, HE⟩ : ∃ e, Hid (e = evL (L.map (·.1))) := ⟨_, rfl⟩
  have HEL : Hid (e = ((L.take kk).map (·.1), (L.getD kk zeroP).1, (L.getD (kk + 1) zeroP).1)) := by show _ = _; rw [HE.out, evL_map L n hn, show n - 2 = kk by omega, show n - 1 = kk + 1 by omega]
  rw [← HE.out]
  obtain ⟨a1, n1, d1, hw1⟩ := hv _ ma
  obtain ⟨a2, n2, d2, hw2⟩ := hv _ mb
  have HO1 : Hid (∀ p ∈ L, p.2.oneCell' = true) := fun p hp => by obtain ⟨_, _, _, h⟩ := hv p hp; rw [h]; rfl
  have HOA : Hid (okS e.2.1 ∧ okS e.2.2) := by rw [HEL.out]; exact ⟨hs1.ok, hs2.ok⟩
  rw [hw1] at hs1 ⊢
  rw [hw2] at hs2 ⊢
  obtain ⟨cka, HCA⟩ : ∃ c, Hid (c = sgC (L.getD kk zeroP).1 (.slice a1 n1 d1)) := ⟨_, rfl⟩
  obtain ⟨ckb, HCB⟩ : ∃ c, Hid (c = sgC (L.getD (kk + 1) zeroP).1 (.slice a2 n2 d2)) := ⟨_, rfl⟩
  obtain ⟨cz, HCZ⟩ : ∃ c, Hid (c = evC zeroE (.slice none 0 0) (.slice none 0 0) (.slice none 0 0)) := ⟨_, rfl⟩
  have HIS : Hid ((Tryd.prog.info? 30).map (·.size) = some cka.length ∧ (Tryd.prog.info? 30).map (·.size) = some ckb.length) := by rw [HCA.out, HCB.out]; exact ⟨info_sgC hs1.ok _, info_sgC hs2.ok _⟩
  have HRG : Hid (∀ W : World, Below w.heap.size w W → W.rangeAt g6 (0 + kk * 98) cka ∧ W.rangeAt g6 (0 + (kk + 1) * 98) ckb) := fun W hh => by rw [HCA.out, HCB.out, Nat.zero_add, Nat.zero_add]; exact ⟨(hs1.below hh (Nat.le_refl _)).all, (hs2.below hh (Nat.le_refl _)).all⟩
  have HBE : Hid (∀ (g : Nat) (ps : List (Nat × Value)), ps = [(0, .slice (some ⟨g, 0, none⟩) kk kk), (1, .agg cka.toArray), (2, .agg ckb.toArray)] → Tryd.prog.built 32 ps = some (evC e (.slice (some ⟨g, 0, none⟩) kk kk) (.slice a1 n1 d1) (.slice a2 n2 d2)).toArray) := fun g ps hps => by subst hps; rw [HEL.out, HCA.out, HCB.out]; exact (built_evid _).trans (fill_ev (e := ((L.take kk).map (·.1), (L.getD kk zeroP).1, (L.getD (kk + 1) zeroP).1)) hs1.ok hs2.ok)
  have HLE : Hid (∀ g : Nat, (evC e (.slice (some ⟨g, 0, none⟩) kk kk) (.slice a1 n1 d1) (.slice a2 n2 d2)).length = cz.length) := fun g => by rw [HCZ.out, len_evC HOA.out.1 HOA.out.2, len_zeroE]
  have HIE : Hid (∀ g : Nat, (Tryd.prog.info? 32).map (·.size) = some (evC e (.slice (some ⟨g, 0, none⟩) kk kk) (.slice a1 n1 d1) (.slice a2 n2 d2)).length) := fun g => info_evC HOA.out.1 HOA.out.2 _ _ _
  have HOE : Hid (∀ g : Nat, ∀ v ∈ evC e (.slice (some ⟨g, 0, none⟩) kk kk) (.slice a1 n1 d1) (.slice a2 n2 d2), v.oneCell' = true) := fun g => evC_one _ rfl rfl rfl
  have HRR : Hid (RowS w g6 L) := hr
  have HNL : Hid (n = L.length) := hn.symm
  have f2 : IntKind.i64.wrap ((n : Int) - 2) = (kk : Int) := by rw [IntKind.wrap_i64]; have h1 := HKE.out; have h2 := HN65.out; omega
  have f3 : IntKind.i64.wrap ((kk : Int) + 1) = (kk : Int) + 1 := by rw [IntKind.wrap_i64]; have h1 := HKE.out; have h2 := HN65.out; omega
  have HBW : Hid (Below w.heap.size w w) := Below.refl _ _
  clear hr hk hn h65 hv ma mb qa qb hs1 hs2 hw1 hw2 HCA HCB HEL HE
  go_enter Tryd.func34, Tryd.ntmps34
  have tk0 : Hid True := trivial
  have tk1 : Hid True := trivial
  have tk2 : Hid True := trivial
  go_upto_region 4 with (first
    | (clear tk0; with_reducible refine wpSeq_allocE ?_ ?_ ?_
       · rfl
       · rfl
       intro g2 y1 nn
       have HG2 : Hid (w.heap.size ≤ g2) := nn.ge
       have H2 : Hid (Blk y1 g2 cz 32) := by rw [HCZ.out]; exact nn.blk
       replace HBW : Hid (Below w.heap.size w y1) := nn.below
       clear nn)
    | (clear tk1; with_reducible refine wpSeq_makeS (.tmp 8) (.tmp 8) kk ?_ ?_ ?_ ?_ ?_ ?_
       · have h1 := HKE.out; have h2 := HN65.out; omega
       · rfl
       · rfl
       · rfl
       · rfl
       intro g4 y2 hge hrow hbz
       have HR : Hid (RowS y2 g4 (zeroL kk)) := hrow
       have HGG : Hid (g2 < g4 ∧ w.heap.size ≤ g4) := ⟨Nat.lt_of_lt_of_le H2.out.lt hge, Nat.le_trans HBW.out.size hge⟩
       replace H2 : Hid (Blk y2 g2 cz 32) := H2.out.below hbz H2.out.lt
       replace HBW : Hid (Below w.heap.size w y2) := HBW.out.trans (hbz.mono HBW.out.size)
       clear hge hrow hbz)
    | (clear tk2; with_reducible refine wpSeq_copyR (.tmp 10) (.tmp 11) g4 g6 kk n kk n kk (zeroL kk) L HR.out (HRR.out.below HBW.out) HO1.out (len_zeroL _).symm HNL.out (Nat.min_eq_right (Nat.le_of_lt HKN.out.1)) ?_ ?_ ?_ ?_ ?_
       · rfl
       · rfl
       · rfl
       · rfl
       intro y3 hrow hon
       replace HR : Hid (RowS y3 g4 (L.take kk)) := by rw [zeroL_drop, Nat.sub_self] at hrow; exact (List.append_nil (L.take kk)) ▸ hrow
       replace H2 : Hid (Blk y3 g2 cz 32) := H2.out.only hon (by have := HGG.out.1; omega)
       replace HBW : Hid (Below w.heap.size w y3) := HBW.out.trans (hon.below HGG.out.2 HBW.out.size)
       clear hrow hon))
  refine wp_region_held_drew (S := Below g2 (World.drew y3)) (by kernel_rfl) (Below.refl _ _) ?_
  intro hS
  replace H2 : Hid (Blk (World.drew y3) g2 cz 32) := H2.out.drew
  replace HR : Hid (RowS (World.drew y3) g4 (L.take kk)) := HR.out.drew
  replace HBW : Hid (Below w.heap.size w (World.drew y3)) := HBW.out.drew
  change wpAnyH _ _ _ _ _ _ _ _ (World.drew y3)
  generalize World.drew y3 = y0 at *
  try simp only [Act.put, List.setIfInBounds_toArray, List.set_cons_zero, List.set_cons_succ]
  refine wpAnyH_take (i := 0) (v := .slice (some ⟨g4, 0, none⟩) kk kk) rfl (by kernel_rfl) (by kernel_rfl) (by kernel_rfl) (fun _ _ _ h => h) (Or.inl ⟨by rfl, fun wx hx => by simp [go_sem]⟩) hS ?_
  simp only [Act.put, List.getElem_toArray, List.getElem_cons_zero, List.setIfInBounds_toArray, List.set_cons_zero, List.set_cons_succ]
  refine wpAnyH_take (i := 1) (v := .slice (some ⟨g6, 0, none⟩) n n) rfl (by kernel_rfl) (by kernel_rfl) (by kernel_rfl) (fun _ _ _ h => h) (Or.inl ⟨by rfl, fun wx hx => by simp [go_sem]⟩) hS ?_
  simp only [Act.put, List.getElem_toArray, List.getElem_cons_succ, List.getElem_cons_zero, List.setIfInBounds_toArray, List.set_cons_zero, List.set_cons_succ]
  refine wpAnyH_take (i := 2) (v := .int .i64 (kk : Int)) rfl (by kernel_rfl) (by kernel_rfl) (by kernel_rfl) (fun _ _ _ h => h) (Or.inl ⟨by rfl, fun wx hx => by simp [go_sem]⟩) hS ?_
  simp only [Act.put, List.getElem_toArray, List.getElem_cons_succ, List.getElem_cons_zero, List.setIfInBounds_toArray, List.set_cons_zero, List.set_cons_succ]
  refine wpAnyH_take (i := 3) (v := .pointer (some ⟨g6, 0 + kk * 98, none⟩)) rfl (by kernel_rfl) (by kernel_rfl) (by kernel_rfl) (fun _ _ _ h => h) (Or.inl ⟨by rfl, fun wx hx => by exact idx98 g6 0 n n kk HKN.out.1 _ _ _ _ rfl rfl rfl _⟩) hS ?_
  simp only [Act.put, List.getElem_toArray, List.getElem_cons_succ, List.getElem_cons_zero, List.setIfInBounds_toArray, List.set_cons_zero, List.set_cons_succ]
  refine wpAnyH_take (i := 4) (v := .agg cka.toArray) rfl (by kernel_rfl) (by kernel_rfl) (by kernel_rfl) (fun _ _ _ h => h) (Or.inl ⟨by rfl, fun wx hx => by exact load_run 30 _ rfl g6 (0 + kk * 98) rfl cka _ (HRG.out _ (HBW.out.trans (Below.mono hx HG2.out))).1 Tryd.underlying30 rfl HIS.out.1⟩) hS ?_
  simp only [Act.put, List.getElem_toArray, List.getElem_cons_succ, List.getElem_cons_zero, List.setIfInBounds_toArray, List.set_cons_zero, List.set_cons_succ]
  refine wpAnyH_take (i := 5) (v := .slice (some ⟨g6, 0, none⟩) n n) rfl (by kernel_rfl) (by kernel_rfl) (by kernel_rfl) (fun _ _ _ h => h) (Or.inl ⟨by rfl, fun wx hx => by simp [go_sem]⟩) hS ?_
  simp only [Act.put, List.getElem_toArray, List.getElem_cons_succ, List.getElem_cons_zero, List.setIfInBounds_toArray, List.set_cons_zero, List.set_cons_succ]
  refine wpAnyH_take (i := 6) (v := .int .i64 (kk : Int)) rfl (by kernel_rfl) (by kernel_rfl) (by kernel_rfl) (fun _ _ _ h => h) (Or.inl ⟨by rfl, fun wx hx => by simp [go_sem]⟩) hS ?_
  simp only [Act.put, List.getElem_toArray, List.getElem_cons_succ, List.getElem_cons_zero, List.setIfInBounds_toArray, List.set_cons_zero, List.set_cons_succ]
  refine wpAnyH_take (i := 7) (v := .int .i64 ((kk + 1 : Nat) : Int)) rfl (by kernel_rfl) (by kernel_rfl) (by kernel_rfl) (fun _ _ _ h => h) (Or.inl ⟨by rfl, fun wx hx => by simp [go_sem, f3]⟩) hS ?_
  simp only [Act.put, List.getElem_toArray, List.getElem_cons_succ, List.getElem_cons_zero, List.setIfInBounds_toArray, List.set_cons_zero, List.set_cons_succ]
  refine wpAnyH_take (i := 8) (v := .pointer (some ⟨g6, 0 + (kk + 1) * 98, none⟩)) rfl (by kernel_rfl) (by kernel_rfl) (by kernel_rfl) (fun _ _ _ h => h) (Or.inl ⟨by rfl, fun wx hx => by exact idx98 g6 0 n n (kk + 1) HKN.out.2 _ _ _ _ rfl rfl rfl _⟩) hS ?_
  simp only [Act.put, List.getElem_toArray, List.getElem_cons_succ, List.getElem_cons_zero, List.setIfInBounds_toArray, List.set_cons_zero, List.set_cons_succ]
  refine wpAnyH_take (i := 9) (v := .agg ckb.toArray) rfl (by kernel_rfl) (by kernel_rfl) (by kernel_rfl) (fun _ _ _ h => h) (Or.inl ⟨by rfl, fun wx hx => by exact load_run 30 _ rfl g6 (0 + (kk + 1) * 98) rfl ckb _ (HRG.out _ (HBW.out.trans (Below.mono hx HG2.out))).2 Tryd.underlying30 rfl HIS.out.2⟩) hS ?_
  simp only [Act.put, List.getElem_toArray, List.getElem_cons_succ, List.getElem_cons_zero, List.setIfInBounds_toArray, List.set_cons_zero, List.set_cons_succ]
  refine wpAnyH_take (i := 10) (v := .agg (evC e (.slice (some ⟨g4, 0, none⟩) kk kk) (.slice a1 n1 d1) (.slice a2 n2 d2)).toArray) rfl (by kernel_rfl) (by kernel_rfl) (by kernel_rfl) (fun _ _ _ h => h) (Or.inl ⟨by rfl, fun wx hx => by refine build_op _ _ 32 [(0, .tmp 13), (1, .tmp 17), (2, .tmp 22)] rfl _ ?_ _; exact HBE.out g4 _ rfl⟩) hS ?_
  simp only [Act.put, List.getElem_toArray, List.getElem_cons_succ, List.getElem_cons_zero, List.setIfInBounds_toArray, List.set_cons_zero, List.set_cons_succ]
  refine wpAnyH_storeRow 11 32 (.tmp 2) (.tmp 23) g2 cz (evC e (.slice (some ⟨g4, 0, none⟩) kk kk) (.slice a1 n1 d1) (.slice a2 n2 d2)) H2.out (HLE.out g4) (HIE.out g4) (HOE.out g4) (by kernel_rfl) rfl (by rfl) rfl rfl rfl ?_
  intro yE hs
  replace hS : Below g2 y0 yE := Below.trans hS (hs.only.below (Nat.le_refl _) (Nat.le_of_lt H2.out.lt))
  refine ⟨hS, ?_⟩
  simp only [Act.put, List.getElem_toArray, List.getElem_cons_succ, List.getElem_cons_zero]
  refine wpAnyH_done (by kernel_rfl) ?_ _
  have HBE2 : Hid (Below w.heap.size w yE) := HBW.out.trans (hs.only.below HG2.out HBW.out.size)
  have HRE : Hid (RowS yE g4 (L.take kk)) := HR.out.only hs.only (by have := HGG.out.1; omega)
  have HBK : Hid (Blk yE g2 (evC e (.slice (some ⟨g4, 0, none⟩) kk kk) (.slice a1 n1 d1) (.slice a2 n2 d2)) 32) := hs.blk
  clear hs
  go_wp2
  exact bodyPost_ret (v := .agg (evC e (.slice (some ⟨g4, 0, none⟩) kk kk) (.slice a1 n1 d1) (.slice a2 n2 d2)).toArray) (results_cell_row (by rfl) _ _ g2 32 _ (0, 0) _ rfl HBK.out Tryd.underlying32 rfl (by rw [List.size_toArray]; exact HIE.out g4)) rfl ⟨g4, HGG.out.2, rfl, HRE.out, HBE2.out⟩
set_option maxRecDepth 100000 in
set_option maxHeartbeats 8000000 in
theorem fkRead_own (v : Value) (b : Bs) (w : World) (hb : Reads w v b) :
    Calls Tryd.prog 13 #[v] w fun r w' => ∃ cs, r = .returned (.tuple #[.agg (cs : List Value).toArray, .int .i64 (readX b)]) ∧ EvF w w' (readE b) cs ∧ Below w.heap.size w w' := by
  obtain ⟨ts, HTS⟩ : ∃ t, Hid (t = (readList readText b).getD []) := ⟨_, rfl⟩
  obtain ⟨er, HER⟩ : ∃ t, Hid (t = errOf (readList readText b)) := ⟨_, rfl⟩
  obtain ⟨cz, HCZ⟩ : ∃ c, Hid (c = evC zeroE (.slice none 0 0) (.slice none 0 0) (.slice none 0 0)) := ⟨_, rfl⟩
  obtain ⟨n, HN⟩ : ∃ n, Hid (n = ts.length) := ⟨_, rfl⟩
  have HOZ : Hid (EvOk zeroE cz) := by rw [HCZ.out]; exact (EvB.zero w).ok
  have HC1 : Hid (∀ W : World, Below w.heap.size w W → Calls Tryd.prog 32 #[v] W fun r w' => ∃ u, r = .returned (.tuple #[u, .int .i64 er]) ∧ ReadsL w' u ts ∧ Below W.heap.size W w') := fun W hh => by rw [HTS.out, HER.out]; exact (creadT_any v b W (hb.below hh)).mono fun e w' h => h.t
  have HBAD : Hid ((er ≠ 0 ∨ n < 2 ∨ 65 < n ∨ readSs ts = none) → readF b = none) := by rw [HER.out, HN.out, HTS.out]; exact readF_bad
  have HGOOD : Hid (er = 0 → 2 ≤ n → n ≤ 65 → ∀ l, readSs ts = some l → readF b = some (evL l)) := by rw [HER.out, HN.out, HTS.out]; exact fun h0 h2 h65 l hl => readF_good h0 h2 h65 hl
  have HBW : Hid (Below w.heap.size w w) := Below.refl _ _
  clear hb HTS HER
  go_enter Tryd.func13, Tryd.ntmps13
  have tk0 : Hid True := trivial
  have tk1 : Hid True := trivial
  go_upto_region 2 with (first
    | (clear tk0; with_reducible refine wpSeq_allocE ?_ ?_ ?_
       · rfl
       · rfl
       intro g2 y1 nn
       have HG2 : Hid (w.heap.size ≤ g2) := nn.ge
       have H2 : Hid (Blk y1 g2 cz 32) := by rw [HCZ.out]; exact nn.blk
       replace HBW : Hid (Below w.heap.size w y1) := nn.below
       clear nn)
    | (clear tk1; go_at_call 32; refine (HC1.out y1 HBW.out).mono ?_; rintro e0 y2 ⟨u, rfl, hrl, hbz⟩
       replace H2 : Hid (Blk y2 g2 cz 32) := H2.out.below hbz H2.out.lt
       replace HBW : Hid (Below w.heap.size w y2) := HBW.out.trans (hbz.mono HBW.out.size)
       obtain ⟨ad, cp, hu, hq⟩ := id hrl
       clear hq
       rw [← HN.out] at hu
       subst hu
       have HRL : Hid (ReadsL y2 (.slice ad n cp) ts) := hrl
       clear hbz hrl))
  by_cases her : er = 0
  case neg =>
    have HF0 : Hid (readF b = none) := HBAD.out (Or.inl her)
    have HX3 : Hid (readX b = 3) := by show _ = _; rw [readX, HF0.out]; rfl
    have HE0 : Hid (readE b = zeroE) := by show _ = _; rw [readE, HF0.out]; rfl
    have qe : (er == 0) = false := by rw [beq_eq_false_iff_ne]; exact her
    have pe : (er != 0) = true := by rw [bne, qe]; rfl
    clear her
    have tk20 : Hid True := trivial
    have tk21 : Hid True := trivial
    go_wp2_with (first
      | (clear tk20; with_reducible refine wpSeq_build 32 [] cz ?_ ?_ ?_ ?_
         · exact (built_evid []).trans (by rw [HCZ.out]; rfl)
         · rfl
         · rfl)
      | (clear tk21; with_reducible refine wpSeq_storeRow 32 (.tmp 2) (.tmp 26) g2 cz cz ?_ ?_ ?_ ?_ ?_ ?_ ?_ ?_ ?_
         · exact H2.out
         · rfl
         · exact HOZ.out.info
         · exact HOZ.out.one
         · rfl
         · rfl
         · rfl
         · rfl
         intro y99 hs))
    exact bodyPost_ret (results_row_tmp (by rfl) _ _ g2 _ rfl (var_evB hs.blk HOZ.out)) rfl ⟨cz, by rw [HX3.out]; rfl, by rw [HE0.out, HCZ.out]; exact fun _ _ => EvB.zero _, HBW.out.trans (hs.only.below HG2.out HBW.out.size)⟩
  case pos =>
    have qe : (er == 0) = true := by rw [beq_iff_eq]; exact her
    have pe : (er != 0) = false := by rw [bne, qe]; rfl
    have HER0 : Hid (er = 0) := her
    clear her
    by_cases hn2 : n < 2
    · have hi2 : (n : Int) < 2 := by omega
      have HF0 : Hid (readF b = none) := HBAD.out (Or.inr (Or.inl hn2))
      have HX3 : Hid (readX b = 3) := by show _ = _; rw [readX, HF0.out]; rfl
      have HE0 : Hid (readE b = zeroE) := by show _ = _; rw [readE, HF0.out]; rfl
      have tk20 : Hid True := trivial
      have tk21 : Hid True := trivial
      go_wp2_with (first
        | (clear tk20; with_reducible refine wpSeq_build 32 [] cz ?_ ?_ ?_ ?_
           · exact (built_evid []).trans (by rw [HCZ.out]; rfl)
           · rfl
           · rfl)
        | (clear tk21; with_reducible refine wpSeq_storeRow 32 (.tmp 2) (.tmp 26) g2 cz cz ?_ ?_ ?_ ?_ ?_ ?_ ?_ ?_ ?_
           · exact H2.out
           · rfl
           · exact HOZ.out.info
           · exact HOZ.out.one
           · rfl
           · rfl
           · rfl
           · rfl
           intro y99 hs))
      exact bodyPost_ret (results_row_tmp (by rfl) _ _ g2 _ rfl (var_evB hs.blk HOZ.out)) rfl ⟨cz, by rw [HX3.out]; rfl, by rw [HE0.out, HCZ.out]; exact fun _ _ => EvB.zero _, HBW.out.trans (hs.only.below HG2.out HBW.out.size)⟩
    have hi2 : ¬ ((n : Int) < 2) := by omega
    by_cases hn65 : 65 < n
    · have hi65 : (65 : Int) < (n : Int) := by omega
      have HF0 : Hid (readF b = none) := HBAD.out (Or.inr (Or.inr (Or.inl hn65)))
      have HX3 : Hid (readX b = 3) := by show _ = _; rw [readX, HF0.out]; rfl
      have HE0 : Hid (readE b = zeroE) := by show _ = _; rw [readE, HF0.out]; rfl
      have tk20 : Hid True := trivial
      have tk21 : Hid True := trivial
      go_wp2_with (first
        | (clear tk20; with_reducible refine wpSeq_build 32 [] cz ?_ ?_ ?_ ?_
           · exact (built_evid []).trans (by rw [HCZ.out]; rfl)
           · rfl
           · rfl)
        | (clear tk21; with_reducible refine wpSeq_storeRow 32 (.tmp 2) (.tmp 26) g2 cz cz ?_ ?_ ?_ ?_ ?_ ?_ ?_ ?_ ?_
           · exact H2.out
           · rfl
           · exact HOZ.out.info
           · exact HOZ.out.one
           · rfl
           · rfl
           · rfl
           · rfl
           intro y99 hs))
      exact bodyPost_ret (results_row_tmp (by rfl) _ _ g2 _ rfl (var_evB hs.blk HOZ.out)) rfl ⟨cz, by rw [HX3.out]; rfl, by rw [HE0.out, HCZ.out]; exact fun _ _ => EvB.zero _, HBW.out.trans (hs.only.below HG2.out HBW.out.size)⟩
    have hi65 : ¬ ((65 : Int) < (n : Int)) := by omega
    have HN2 : Hid (2 ≤ n) := by show _ ≤ _; omega
    have HN65 : Hid (n ≤ 65) := by show _ ≤ _; omega
    clear hn2 hn65
    have tk30 : Hid True := trivial
    go_wp2_with (first
      | (clear tk30; with_reducible refine wpSeq_makeS (.tmp 28) (.tmp 28) n (Nat.le_trans HN65.out (by decide)) ?_ ?_ ?_ ?_ ?_
         · rfl
         · rfl
         · rfl
         · rfl
         intro g6 y3 hge hrow hbz
         have HI0 : Hid (RrI y2 g6 n [] [] y3) := ⟨hbz, by rw [List.nil_append]; exact hrow, (fun p hp => by cases hp), rfl, Nat.zero_le _, hge⟩
         clear hge hrow hbz))
    have HR20 : Hid (Blk y2 g2 cz 32) := H2.out
    have HBW2 : Hid (Below w.heap.size w y2) := HBW.out
    clear H2 HBW hi2 hi65 qe pe
    go_loopw [32, 5] (fun i ev wr => ∃ (k : Nat) (rs : List SgT) (L : List (SgT × Value)), k ≤ n ∧ i = .int .i64 (k : Int) ∧ ev = .int .i64 er ∧ Hid (readSs (ts.take k) = some rs) ∧ Hid (RrI y2 g6 n rs L wr)) (fun i _ _ => n - (intOf i).toNat)
    case atStart => exact ⟨0, [], [], by omega, rfl, rfl, rfl, HI0⟩
    case round =>
      obtain ⟨k, rs, L, hkn, rfl, rfl, HRS, HI⟩ := hrel
      clear HI0
      have HR2 : Hid (Blk wr g2 cz 32) := HR20.out.below HI.out.bel HR20.out.lt
      have HLR : Hid (rs.length = k) := by show _ = _; rw [readSs_len HRS.out, List.length_take, ← HN.out]; omega
      by_cases hlt : k < n
      case neg =>
        have hlk : ¬ ((k : Int) < (n : Int)) := by omega
        obtain rfl : k = n := by omega
        have HFS : Hid (readF b = some (evL rs)) := by
          have h := HRS.out
          rw [List.take_of_length_le (by rw [← HN.out]; omega)] at h
          exact HGOOD.out HER0.out HN2.out HN65.out rs h
        have HXE : Hid (readX b = 0) := by show _ = _; rw [readX, HFS.out]; rfl
        have HEE : Hid (readE b = evL rs) := by show _ = _; rw [readE, HFS.out]; rfl
        have HLN : Hid (L.length = k) := by show _ = _; rw [HI.out.len, HLR.out]
        obtain ⟨kk, HKK⟩ : ∃ j, Hid (j = k - 2) := ⟨_, rfl⟩
        have HKE : Hid (k = kk + 2) := by show _ = _; rw [HKK.out]; have := HN2.out; omega
        have HRW : Hid (RowS wr g6 L) := by
          have h := HI.out.row
          rw [HLN.out, Nat.sub_self] at h
          exact (List.append_nil L) ▸ h
        have HCP : Hid (Calls Tryd.prog 34 #[.slice (some ⟨g6, 0, none⟩) k k] wr fun r w' => ∃ g4 cs, cs = evC (evL rs) (.slice (some ⟨g4, 0, none⟩) kk kk) (L.getD kk zeroP).2 (L.getD (kk + 1) zeroP).2 ∧ wr.heap.size ≤ g4 ∧ r = .returned (.agg (cs : List Value).toArray) ∧ RowS w' g4 (L.take kk) ∧ Below wr.heap.size wr w') := (fkParted_any g6 k kk L wr HRW.out HLN.out HKE.out HN65.out (fun p hp => by obtain ⟨a, n, c, h⟩ := (HI.out.sg p hp).reads.form; exact ⟨a, n, c, h⟩)).mono fun e w' h => by
          obtain ⟨g4, h1, h2, h3, h4⟩ := h
          rw [HI.out.eq] at h2
          exact ⟨g4, _, rfl, h1, h2, h3, h4⟩
        have HB0 : Hid (Below w.heap.size w wr) := HBW2.out.trans (HI.out.bel.mono HBW2.out.size)
        have HEV : Hid (∀ (W : World) (g4 : Nat), (∀ {v : Value} {l : Bs}, OwnB wr (g6 + 1) v l → OwnB W (g6 + 1) v l) → RowS W g4 (L.take kk) → EvB W (evL rs) (evC (evL rs) (.slice (some ⟨g4, 0, none⟩) kk kk) (L.getD kk zeroP).2 (L.getD (kk + 1) zeroP).2)) := fun W g4 up hr => by
          have h := HI.out.ev HLR.out HN2.out (W' := W) (g4 := g4) up (by rw [show k - 2 = kk by rw [HKK.out]]; exact hr)
          rw [show k - 2 = kk by rw [HKK.out], show k - 1 = kk + 1 by have := HKE.out; omega] at h
          exact h
        have HG26 : Hid (g2 < y2.heap.size ∧ y2.heap.size ≤ g6 ∧ g6 < wr.heap.size) := ⟨HR20.out.lt, HI.out.ge, HI.out.row.lt⟩
        have tk60 : Hid True := trivial
        have tk61 : Hid True := trivial
        go_wp2_with (first
          | (clear tk60; go_at_call 34; refine (HCP.out).mono ?_; rintro e0 y8 ⟨g4, cs, hcs, hg4, rfl, hrow, hbz⟩
             have HE9 : Hid (∀ W : World, (∀ j, g6 < j → j < y8.heap.size → W.heap[j]? = y8.heap[j]?) → EvB W (evL rs) cs) := fun W hW => by
               rw [hcs]
               have hh := HG26.out
               refine HEV.out W g4 (fun {v l} hv => ?_) (hrow.same (hW g4 (by omega) hrow.lt))
               refine hv.same fun j hj => ?_
               have h1 := hv.own j hj
               have h2 := hv.lt j hj
               rw [hW j (by omega) (Nat.lt_of_lt_of_le h2 hbz.size), hbz.block j h2]
             have HEB : Hid (EvB y8 (evL rs) cs) := HE9.out y8 fun _ _ _ => rfl
             have HOE : Hid (EvOk (evL rs) cs) := HEB.out.ok
             replace HR2 : Hid (Blk y8 g2 cz 32) := HR2.out.below hbz HR2.out.lt
             have HB8 : Hid (Below wr.heap.size wr y8) := hbz
             clear hbz hrow hcs hg4)
          | (clear tk61; with_reducible refine wpSeq_storeRow 32 (.tmp 2) (.tmp 50) g2 cz cs ?_ ?_ ?_ ?_ ?_ ?_ ?_ ?_ ?_
             · exact HR2.out
             · rw [HCZ.out]; exact HOE.out.lz
             · exact HOE.out.info
             · exact HOE.out.one
             · rfl
             · rfl
             · rfl
             · rfl
             intro y99 hs))
        refine bodyPost_ret (results_row_tmp (by rfl) _ _ g2 _ rfl (var_evB hs.blk HOE.out)) rfl ⟨_, by rw [HXE.out]; rfl, ?_, ?_⟩
        · rw [HEE.out]
          intro W hW
          have hh := HG26.out
          have h0 := HB0.out.size
          have h8 : y8.heap.size ≤ y99.heap.size := hs.only.size
          have hw2 := HBW2.out.size
          exact HE9.out W fun j h1 h2 => by rw [hW j (by omega) (by omega), hs.only.block j (by omega) h2]
        · have hb8 := HB0.out.trans (HB8.out.mono HB0.out.size)
          exact hb8.trans (hs.only.below HG2.out hb8.size)
      case pos =>
        have hlk : (k : Int) < (n : Int) := by omega
        have k0 : (0 : Int) ≤ (k : Int) := by omega
        have f5 : IntKind.i64.wrap ((k : Int) + 1) = (k : Int) + 1 := by rw [IntKind.wrap_i64]; have := HN65.out; omega
        have HLT : Hid (k < ts.length) := by show _ < _; rw [← HN.out]; exact hlt
        obtain ⟨bb, off, rfl, hat⟩ := HRL.out.atL (Nat.lt_of_le_of_lt (Nat.zero_le _) HLT.out)
        obtain ⟨vj, hcj, hrj⟩ := hat k HLT.out
        obtain ⟨t, HT⟩ : ∃ t, Hid (t = ts.getD k []) := ⟨_, rfl⟩
        rw [← HT.out] at hrj
        obtain ⟨a3, n3, c3, hv3⟩ := hrj.form
        subst hv3
        have ckk : wr.cell? ⟨bb, off + k, none⟩ = some (.slice a3 n3 c3) := by rw [Below.cell HI.out.bel (block_lt_of_cell hcj)]; exact hcj
        have hres := crdSigned_any _ t wr (hrj.below HI.out.bel)
        clear hat hcj hrj
        cases hr : readS t with
        | none =>
          have HF0 : Hid (readF b = none) := HBAD.out (Or.inr (Or.inr (Or.inr (readSs_none (t := t) (by rw [HT.out]; exact mem_getD HLT.out) hr))))
          have HX3 : Hid (readX b = 3) := by show _ = _; rw [readX, HF0.out]; rfl
          have HE0 : Hid (readE b = zeroE) := by show _ = _; rw [readE, HF0.out]; rfl
          obtain ⟨s, HS⟩ : ∃ s, Hid (s = zeroS) := ⟨_, rfl⟩
          have HOS : Hid (okS s) := by rw [HS.out]; exact okS_zero
          have HCR : Hid (Calls Tryd.prog 33 #[.slice a3 n3 c3] wr fun e w' => ∃ aS nS cS, e = .returned (.tuple #[.agg (sgC s (.slice aS nS cS)).toArray, .int .i64 3]) ∧ OwnB w' wr.heap.size (.slice aS nS cS) s.2 ∧ Below wr.heap.size wr w') := hres.mono fun e w' h => by
            obtain ⟨aS, nS, cS, h1, h2, _, h4⟩ := h
            rw [rdX, rdS, hr] at h1
            rw [rdS, hr] at h2
            exact ⟨aS, nS, cS, by rw [HS.out]; exact h1, by rw [HS.out]; exact h2, h4⟩
          clear hres hr
          have tk40 : Hid True := trivial
          have tk41 : Hid True := trivial
          have tk43 : Hid True := trivial
          have tk44 : Hid True := trivial
          go_wp2_with (first
            | (clear tk40; go_at_call 33; refine (HCR.out).mono ?_; rintro e0 y71 ⟨aS, nS, cS, rfl, hov, hbz⟩
               clear ckk HCR
               replace HR2 : Hid (Blk y71 g2 cz 32) := HR2.out.below hbz HR2.out.lt
               have HOV : Hid (OwnB y71 (g6 + 1) (.slice aS nS cS) s.2) := hov.mono HI.out.row.lt
               replace HI : Hid (RrI y2 g6 n rs L y71) := HI.out.next hbz
               clear hbz hov)
            | (clear tk41; with_reducible refine wpSeq_storeRowS (.tmp 44) (.tmp 42) g6 k (L ++ zeroL (n - L.length)) s aS nS cS HI.out.row (by rw [HI.out.room]; exact hlt) HOS.out ?_ ?_ ?_ ?_ ?_
               · rfl
               · first | rfl | (simp [Act.eval]; done)
               · rfl
               · rfl
               intro y72 hrow hon
               have HI7 : Hid (RrI y2 g6 n (rs ++ [s]) (L ++ [(s, .slice aS nS cS)]) y72) := HI.out.put HLR.out hlt HOV.out hrow hon
               have HR7 : Hid (Blk y72 g2 cz 32) := HR2.out.only hon (by have h1 := HR20.out.lt; have h2 := HI.out.ge; omega)
               clear hrow hon HR2 HI HOV)
            | (clear tk43; with_reducible refine wpSeq_build 32 [] cz ?_ ?_ ?_ ?_
               · exact (built_evid []).trans (by rw [HCZ.out]; rfl)
               · rfl
               · rfl)
            | (clear tk44; with_reducible refine wpSeq_storeRow 32 (.tmp 2) (.tmp 47) g2 cz cz ?_ ?_ ?_ ?_ ?_ ?_ ?_ ?_ ?_
               · exact HR7.out
               · rfl
               · exact HOZ.out.info
               · exact HOZ.out.one
               · rfl
               · rfl
               · rfl
               · rfl
               intro y99 hs))
          have HBZ : Hid (Below w.heap.size w y72) := HBW2.out.trans (HI7.out.bel.mono HBW2.out.size)
          exact bodyPost_ret (results_row_tmp (by rfl) _ _ g2 _ rfl (var_evB hs.blk HOZ.out)) rfl ⟨cz, by rw [HX3.out]; rfl, by rw [HE0.out, HCZ.out]; exact fun _ _ => EvB.zero _, HBZ.out.trans (hs.only.below HG2.out HBZ.out.size)⟩
        | some s =>
          have hokt := ((readS_iff _ _).1 hr).1.1
          have HOS : Hid (okS s) := hokt
          have HCR : Hid (Calls Tryd.prog 33 #[.slice a3 n3 c3] wr fun e w' => ∃ aS nS cS, e = .returned (.tuple #[.agg (sgC s (.slice aS nS cS)).toArray, .int .i64 0]) ∧ OwnB w' wr.heap.size (.slice aS nS cS) s.2 ∧ Below wr.heap.size wr w') := hres.mono fun e w' h => by
            obtain ⟨aS, nS, cS, h1, h2, _, h4⟩ := h
            rw [rdX, rdS, hr] at h1
            rw [rdS, hr] at h2
            exact ⟨aS, nS, cS, h1, h2, h4⟩
          have HRS2 : Hid (readSs (ts.take (k + 1)) = some (rs ++ [s])) := by show _ = _; rw [takeB_more HLT.out, ← HT.out]; exact readSs_some HRS.out hr
          clear hres hr hokt
          have tk40 : Hid True := trivial
          have tk41 : Hid True := trivial
          go_wp2_with (first
            | (clear tk40; go_at_call 33; refine (HCR.out).mono ?_; rintro e0 y71 ⟨aS, nS, cS, rfl, hov, hbz⟩
               clear ckk HCR
               replace HR2 : Hid (Blk y71 g2 cz 32) := HR2.out.below hbz HR2.out.lt
               have HOV : Hid (OwnB y71 (g6 + 1) (.slice aS nS cS) s.2) := hov.mono HI.out.row.lt
               replace HI : Hid (RrI y2 g6 n rs L y71) := HI.out.next hbz
               clear hbz hov)
            | (clear tk41; with_reducible refine wpSeq_storeRowS (.tmp 44) (.tmp 42) g6 k (L ++ zeroL (n - L.length)) s aS nS cS HI.out.row (by rw [HI.out.room]; exact hlt) HOS.out ?_ ?_ ?_ ?_ ?_
               · rfl
               · first | rfl | (simp [Act.eval]; done)
               · rfl
               · rfl
               intro y72 hrow hon
               have HI7 : Hid (RrI y2 g6 n (rs ++ [s]) (L ++ [(s, .slice aS nS cS)]) y72) := HI.out.put HLR.out hlt HOV.out hrow hon
               have HR7 : Hid (Blk y72 g2 cz 32) := HR2.out.only hon (by have h1 := HR20.out.lt; have h2 := HI.out.ge; omega)
               clear hrow hon HR2 HI HOV))
          go_roundw
          case rel => exact ⟨k + 1, _, _, by omega, by simp, by rw [HER0.out], HRS2, HI7⟩
          case measure => simp [intOf]; omega
theorem fkRead_any (v : Value) (b : Bs) (w : World) (hb : Reads w v b) :
    Calls Tryd.prog 13 #[v] w fun r w' => ∃ cs, r = .returned (.tuple #[.agg (cs : List Value).toArray, .int .i64 (readX b)]) ∧ EvB w' (readE b) cs ∧ Below w.heap.size w w' :=
  (fkRead_own v b w hb).mono fun _ _ ⟨cs, h1, h2, h3⟩ => ⟨cs, h1, h2.evB, h3⟩
set_option maxRecDepth 100000 in
set_option maxHeartbeats 8000000 in
theorem fkAccept_any (pin : List (BitVec 8)) (v : Value) (b : Bs) (w : World) (hK : KOk w) (hp : pin.length = 32) (hb : Reads w v b) :
    Calls Tryd.prog 16 #[.agg (cb pin).toArray, v] w fun r w' => r = .returned (.int .i64 (acceptF pin b)) ∧ Below w.heap.size w w' := by
  obtain ⟨ad, n, cp, hv⟩ := hb.form
  subst hv
  have HIP : Hid ((Tryd.prog.info? 23).map (·.size) = some (cb pin).length) := by show _ = _; rw [cb_len, hp]; exact info_digest
  obtain ⟨er, HER⟩ : ∃ t, Hid (t = readX b) := ⟨_, rfl⟩
  obtain ⟨ck, HCK⟩ : ∃ t, Hid (t = checkF pin (readE b)) := ⟨_, rfl⟩
  have HC1 : Hid (∀ W : World, Below w.heap.size w W → Calls Tryd.prog 13 #[.slice ad n cp] W fun r w' => ∃ cs, r = .returned (.tuple #[.agg (cs : List Value).toArray, .int .i64 er]) ∧ EvB w' (readE b) cs ∧ Below W.heap.size W w') := fun W hh => by rw [HER.out]; exact fkRead_any _ b W (hb.below hh)
  have HCC : Hid (∀ (W : World) (cs : List Value), Below w.heap.size w W → EvB W (readE b) cs → Calls Tryd.prog 11 #[.agg (cb pin).toArray, .agg cs.toArray] W fun r w' => r = .returned (.int .i64 ck) ∧ Below W.heap.size W w') := fun W cs hh hE => by rw [HCK.out]; exact fkCheck_any pin (readE b) cs W (hK.below hh hK.lt) hp hE (readE_len b)
  have HBW : Hid (Below w.heap.size w w) := Below.refl _ _
  clear hb hK hp
  by_cases her : er = 0
  case pos =>
    have qe : (er == 0) = true := by rw [beq_iff_eq]; exact her
    have pe : (er != 0) = false := by rw [bne, qe]; rfl
    have HZ : Hid (acceptF pin b = ck) := by show _ = _; rw [HCK.out]; exact accept_read (by rw [← HER.out]; exact her)
    clear her HCK
    go_enter Tryd.func16, Tryd.ntmps16
    have tk0 : Hid True := trivial
    have tk1 : Hid True := trivial
    have tk2 : Hid True := trivial
    have tk3 : Hid True := trivial
    have tk4 : Hid True := trivial
    have tk5 : Hid True := trivial
    have tk6 : Hid True := trivial
    go_wp2_with (first
      | (clear tk0; with_reducible refine wpSeq_boxW 23 (.tmp 0) (cb pin) ?_ ?_ ?_ ?_
         · rfl
         · rfl
         · rfl
         intro g2 y1 nn
         replace HBW : Hid (Below w.heap.size w y1) := HBW.out.trans (nn.below.mono HBW.out.size)
         have HG2 : Hid (Blk y1 g2 (cb pin) 23) := nn.blk
         clear nn
         skip)
      | (clear tk1; go_at_call 13; refine (HC1.out y1 HBW.out).mono ?_; rintro e y2 ⟨cs, rfl, heb, hbz⟩
         replace HG2 : Hid (Blk y2 g2 (cb pin) 23) := HG2.out.below hbz HG2.out.lt
         replace HBW : Hid (Below w.heap.size w y2) := HBW.out.trans (hbz.mono HBW.out.size)
         have HOE : Hid (EvOk (readE b) cs) := heb.ok
         have HEB : Hid (EvB y2 (readE b) cs) := heb
         clear hbz heb)
      | (clear tk2; with_reducible refine wpSeq_allocE ?_ ?_ ?_
         · rfl
         · rfl
         intro g5 y3 nn)
      | (clear tk3; with_reducible refine wpSeq_storeRow 32 (.tmp 5) (.tmp 10) g5 (evC zeroE (.slice none 0 0) (.slice none 0 0) (.slice none 0 0)) cs ?_ ?_ ?_ ?_ ?_ ?_ ?_ ?_ ?_
         · exact nn.blk
         · exact HOE.out.lz
         · exact HOE.out.info
         · exact HOE.out.one
         · rfl
         · rfl
         · rfl
         · rfl
         intro y4 hs
         have hbz := nn.below.trans (hs.only.below nn.ge nn.below.size)
         replace HG2 : Hid (Blk y4 g2 (cb pin) 23) := HG2.out.below hbz HG2.out.lt
         replace HEB : Hid (EvB y4 (readE b) cs) := HEB.out.below hbz
         replace HBW : Hid (Below w.heap.size w y4) := HBW.out.trans (hbz.mono HBW.out.size)
         have H5 : Hid (Blk y4 g5 cs 32) := hs.blk
         clear nn hs hbz)
      | (clear tk4; with_reducible refine wpSeq_loadW 23 (.tmp 2) g2 0 (cb pin) _ ?_ Tryd.underlying23 rfl ?_ ?_ ?_ ?_ ?_
         · exact HG2.out.range
         · exact HIP.out
         · rfl
         · rfl
         · rfl)
      | (clear tk5; with_reducible refine wpSeq_loadW 32 (.tmp 5) g5 0 cs _ ?_ Tryd.underlying32 rfl ?_ ?_ ?_ ?_ ?_
         · exact H5.out.range
         · exact HOE.out.info
         · rfl
         · rfl
         · rfl)
      | (clear tk6; go_at_call 11; refine (HCC.out y4 cs HBW.out HEB.out).mono ?_; rintro e y5 ⟨rfl, hbz⟩
         replace HG2 : Hid (Blk y5 g2 (cb pin) 23) := HG2.out.below hbz HG2.out.lt
         replace H5 : Hid (Blk y5 g5 cs 32) := H5.out.below hbz H5.out.lt
         replace HEB : Hid (EvB y5 (readE b) cs) := HEB.out.below hbz
         replace HBW : Hid (Below w.heap.size w y5) := HBW.out.trans (hbz.mono HBW.out.size)
         clear hbz ))
    go_ret
    exact ⟨by rw [HZ.out]; rfl, HBW.out⟩
  case neg =>
    have qe : (er == 0) = false := by rw [beq_eq_false_iff_ne]; exact her
    have pe : (er != 0) = true := by rw [bne, qe]; rfl
    have HZ : Hid (acceptF pin b = er) := by show _ = _; rw [HER.out]; exact accept_none (by rw [← HER.out]; exact her)
    clear her HCK
    go_enter Tryd.func16, Tryd.ntmps16
    have tk0 : Hid True := trivial
    have tk1 : Hid True := trivial
    have tk2 : Hid True := trivial
    have tk3 : Hid True := trivial
    go_wp2_with (first
      | (clear tk0; with_reducible refine wpSeq_boxW 23 (.tmp 0) (cb pin) ?_ ?_ ?_ ?_
         · rfl
         · rfl
         · rfl
         intro g2 y1 nn
         replace HBW : Hid (Below w.heap.size w y1) := HBW.out.trans (nn.below.mono HBW.out.size)
         have HG2 : Hid (Blk y1 g2 (cb pin) 23) := nn.blk
         clear nn
         skip)
      | (clear tk1; go_at_call 13; refine (HC1.out y1 HBW.out).mono ?_; rintro e y2 ⟨cs, rfl, heb, hbz⟩
         replace HG2 : Hid (Blk y2 g2 (cb pin) 23) := HG2.out.below hbz HG2.out.lt
         replace HBW : Hid (Below w.heap.size w y2) := HBW.out.trans (hbz.mono HBW.out.size)
         have HOE : Hid (EvOk (readE b) cs) := heb.ok
         have HEB : Hid (EvB y2 (readE b) cs) := heb
         clear hbz heb)
      | (clear tk2; with_reducible refine wpSeq_allocE ?_ ?_ ?_
         · rfl
         · rfl
         intro g5 y3 nn)
      | (clear tk3; with_reducible refine wpSeq_storeRow 32 (.tmp 5) (.tmp 10) g5 (evC zeroE (.slice none 0 0) (.slice none 0 0) (.slice none 0 0)) cs ?_ ?_ ?_ ?_ ?_ ?_ ?_ ?_ ?_
         · exact nn.blk
         · exact HOE.out.lz
         · exact HOE.out.info
         · exact HOE.out.one
         · rfl
         · rfl
         · rfl
         · rfl
         intro y4 hs
         have hbz := nn.below.trans (hs.only.below nn.ge nn.below.size)
         replace HG2 : Hid (Blk y4 g2 (cb pin) 23) := HG2.out.below hbz HG2.out.lt
         replace HEB : Hid (EvB y4 (readE b) cs) := HEB.out.below hbz
         replace HBW : Hid (Below w.heap.size w y4) := HBW.out.trans (hbz.mono HBW.out.size)
         have H5 : Hid (Blk y4 g5 cs 32) := hs.blk
         clear nn hs hbz))
    go_ret
    exact ⟨by rw [HZ.out]; rfl, HBW.out⟩
end Go.Proofs.YtableajopaappaaDoor
/- The walk of the reference's Same (layer 12). -/
namespace Go.Proofs.YtableajopaappaaDoor
open Go.RowKit Go.Shelf
set_option maxRecDepth 100000
structure SmI (w : World) (g2 g3 : Nat) (c2 c3 : List Value) (W : World) : Prop where
  a : Blk W g2 c2 32
  b : Blk W g3 c3 32
  bel : Below w.heap.size w W
theorem SmI.next {w : World} {g2 g3 : Nat} {c2 c3 : List Value} {W W' : World} (h : SmI w g2 g3 c2 c3 W) (hb : Below W.heap.size W W') : SmI w g2 g3 c2 c3 W' := ⟨h.a.below hb h.a.lt, h.b.below hb h.b.lt, h.bel.trans (hb.mono h.bel.size)⟩
theorem SmI.drew {w : World} {g2 g3 : Nat} {c2 c3 : List Value} {W : World} (h : SmI w g2 g3 c2 c3 W) : SmI w g2 g3 c2 c3 W.drew := h.next (Below.refl _ _).drew
/-- the same evidence or not -/
def sameE (e f : EvT) : Bool := decide (e.1 = f.1) && decide (e.2.1 = f.2.1) && decide (e.2.2 = f.2.2)
theorem sameE_iff (e f : EvT) : sameE e f = true ↔ e = f := by
  obtain ⟨t, a, b⟩ := e
  obtain ⟨u, c, d⟩ := f
  unfold sameE
  simp only [decide_eq_true_eq, Bool.and_eq_true]
  constructor
  · rintro ⟨⟨h1, h2⟩, h3⟩; rw [h1, h2, h3]
  · intro h; simp only [Prod.mk.injEq] at h; exact ⟨⟨h.1, h.2.1⟩, h.2.2⟩
theorem same_ev (e f : EvT) : sameE e f = (decide (e.1.length = f.1.length) && decide (e.2.1 = f.2.1) && decide (e.2.2 = f.2.2) && decide (e.1 = f.1)) := by
  unfold sameE
  rw [Bool.eq_iff_iff]
  simp only [decide_eq_true_eq, Bool.and_eq_true]
  constructor
  · rintro ⟨⟨h1, h2⟩, h3⟩; exact ⟨⟨⟨by rw [h1], h2⟩, h3⟩, h1⟩
  · rintro ⟨⟨⟨_, h1⟩, h2⟩, h3⟩; exact ⟨⟨h3, h1⟩, h2⟩
set_option maxRecDepth 100000 in
set_option maxHeartbeats 8000000 in
theorem qfSame_any (e f : EvT) (cs ds : List Value) (w : World) (hE : EvB w e cs) (hF : EvB w f ds) (hn : e.1.length < 1000000) :
    Calls Tryd.prog 15 #[.agg cs.toArray, .agg ds.toArray] w fun r w' => r = .returned (.bool (sameE e f)) ∧ Below w.heap.size w w' := by
  obtain ⟨vt, va, vb, hcs, he⟩ := hE.open
  subst hcs
  obtain ⟨vt2, va2, vb2, hcs, he2⟩ := hF.open
  subst hcs
  obtain ⟨adt, ct, hvt⟩ := he.tr.form
  obtain ⟨ada, na, ca, hva⟩ := he.a.form
  obtain ⟨adb, nb, cc, hvb⟩ := he.b.form
  obtain ⟨nt, HNT⟩ : ∃ n, Hid (n = e.1.length) := ⟨_, rfl⟩
  rw [← HNT.out] at hvt
  subst hvt hva hvb
  obtain ⟨cev, HCE⟩ : ∃ c, Hid (c = evC e (.slice adt nt ct) (.slice ada na ca) (.slice adb nb cc)) := ⟨_, rfl⟩
  rw [← HCE.out]
  have HEV : Hid (EvIs w e (.slice adt nt ct) (.slice ada na ca) (.slice adb nb cc)) := he
  have HIE : Hid ((Tryd.prog.info? 32).map (·.size) = some cev.length) := by show _ = _; rw [HCE.out]; exact info_evC he.oa he.ob _ _ _
  have HAT : Hid (∀ (W : World) (g : Nat), Blk W g cev 32 → EvAt W g 0 e (.slice adt nt ct) (.slice ada na ca) (.slice adb nb cc)) := fun W g hg => by rw [HCE.out] at hg; exact hg.evAt HEV.out.oa HEV.out.ob
  obtain ⟨csa, HSA⟩ : ∃ c, Hid (c = sgC e.2.1 (.slice ada na ca)) := ⟨_, rfl⟩
  obtain ⟨csb, HSB⟩ : ∃ c, Hid (c = sgC e.2.2 (.slice adb nb cc)) := ⟨_, rfl⟩
  have HIS : Hid ((Tryd.prog.info? 30).map (·.size) = some csa.length ∧ (Tryd.prog.info? 30).map (·.size) = some csb.length) := by rw [HSA.out, HSB.out]; exact ⟨info_sgC HEV.out.oa _, info_sgC HEV.out.ob _⟩
  have HRG : Hid (∀ (W : World) (g : Nat), Blk W g cev 32 → W.rangeAt g 1 csa ∧ W.rangeAt g 99 csb) := fun W g hg => by rw [HSA.out, HSB.out]; have h := HAT.out W g hg; refine ⟨?_, ?_⟩; have := h.a.all; rwa [Nat.zero_add] at this; have := h.b.all; rwa [Nat.zero_add] at this
  clear he
  obtain ⟨adt2, ct2, hvt2⟩ := he2.tr.form
  obtain ⟨ada2, na2, ca2, hva2⟩ := he2.a.form
  obtain ⟨adb2, nb2, cc2, hvb2⟩ := he2.b.form
  obtain ⟨nt2, HNT2⟩ : ∃ n, Hid (n = f.1.length) := ⟨_, rfl⟩
  rw [← HNT2.out] at hvt2
  subst hvt2 hva2 hvb2
  obtain ⟨cev2, HCE2⟩ : ∃ c, Hid (c = evC f (.slice adt2 nt2 ct2) (.slice ada2 na2 ca2) (.slice adb2 nb2 cc2)) := ⟨_, rfl⟩
  rw [← HCE2.out]
  have HEV2 : Hid (EvIs w f (.slice adt2 nt2 ct2) (.slice ada2 na2 ca2) (.slice adb2 nb2 cc2)) := he2
  have HIE2 : Hid ((Tryd.prog.info? 32).map (·.size) = some cev2.length) := by show _ = _; rw [HCE2.out]; exact info_evC he2.oa he2.ob _ _ _
  have HAT2 : Hid (∀ (W : World) (g : Nat), Blk W g cev2 32 → EvAt W g 0 f (.slice adt2 nt2 ct2) (.slice ada2 na2 ca2) (.slice adb2 nb2 cc2)) := fun W g hg => by rw [HCE2.out] at hg; exact hg.evAt HEV2.out.oa HEV2.out.ob
  obtain ⟨csa2, HSA2⟩ : ∃ c, Hid (c = sgC f.2.1 (.slice ada2 na2 ca2)) := ⟨_, rfl⟩
  obtain ⟨csb2, HSB2⟩ : ∃ c, Hid (c = sgC f.2.2 (.slice adb2 nb2 cc2)) := ⟨_, rfl⟩
  have HIS2 : Hid ((Tryd.prog.info? 30).map (·.size) = some csa2.length ∧ (Tryd.prog.info? 30).map (·.size) = some csb2.length) := by rw [HSA2.out, HSB2.out]; exact ⟨info_sgC HEV2.out.oa _, info_sgC HEV2.out.ob _⟩
  have HRG2 : Hid (∀ (W : World) (g : Nat), Blk W g cev2 32 → W.rangeAt g 1 csa2 ∧ W.rangeAt g 99 csb2) := fun W g hg => by rw [HSA2.out, HSB2.out]; have h := HAT2.out W g hg; refine ⟨?_, ?_⟩; have := h.a.all; rwa [Nat.zero_add] at this; have := h.b.all; rwa [Nat.zero_add] at this
  clear he2
  have HNL : Hid (nt < 1000000) := by show _ < _; rw [HNT.out]; exact hn
  have HBW : Hid (Below w.heap.size w w) := Below.refl _ _
  obtain ⟨rA, HRA⟩ : ∃ r, Hid (r = decide (e.2.1 = f.2.1)) := ⟨_, rfl⟩
  obtain ⟨rB, HRB⟩ : ∃ r, Hid (r = decide (e.2.2 = f.2.2)) := ⟨_, rfl⟩
  obtain ⟨R, HR⟩ : ∃ r, Hid (r = sameE e f) := ⟨_, rfl⟩
  have HRR : Hid (R = (decide (nt = nt2) && rA && rB && decide (e.1 = f.1))) := by show _ = _; rw [HR.out, HRA.out, HRB.out, HNT.out, HNT2.out]; exact same_ev e f
  have HCA : Hid (∀ W : World, Below w.heap.size w W → Calls Tryd.prog 37 #[.agg csa.toArray, .agg csa2.toArray] W fun r w' => r = .returned (.bool rA) ∧ Below W.heap.size W w') := fun W hh => by rw [HSA.out, HSA2.out, HRA.out]; exact sameSg_any _ _ _ _ W HEV.out.oa HEV2.out.oa (HEV.out.a.below hh) (HEV2.out.a.below hh)
  have HCB : Hid (∀ W : World, Below w.heap.size w W → Calls Tryd.prog 37 #[.agg csb.toArray, .agg csb2.toArray] W fun r w' => r = .returned (.bool rB) ∧ Below W.heap.size W w') := fun W hh => by rw [HSB.out, HSB2.out, HRB.out]; exact sameSg_any _ _ _ _ W HEV.out.ob HEV2.out.ob (HEV.out.b.below hh) (HEV2.out.b.below hh)
  rw [← HR.out]
  clear hn hE hF HRA HRB HR
  by_cases hnn : nt = nt2
  case neg =>
    have q1 : ((nt : Int) == (nt2 : Int)) = false := by rw [beq_eq_false_iff_ne]; omega
    have p1 : ((nt : Int) != (nt2 : Int)) = true := by rw [bne, q1]; rfl
    have HZ : Hid (R = false) := by show _ = _; rw [HRR.out, decide_eq_false hnn]; rfl
    clear hnn
    go_enter Tryd.func15, Tryd.ntmps15
    have tk0 : Hid True := trivial
    have tk1 : Hid True := trivial
    go_wp2_with (first
      | (clear tk0; with_reducible refine wpSeq_boxW 32 (.tmp 0) cev ?_ ?_ ?_ ?_
         · rfl
         · rfl
         · rfl
         intro g2 y1 nn
         replace HBW : Hid (Below w.heap.size w y1) := HBW.out.trans (nn.below.mono HBW.out.size)
         have HG2 : Hid (Blk y1 g2 cev 32) := nn.blk
         clear nn
         have cet : (y1).cell? ⟨g2, 0, none⟩ = some (.slice adt nt ct) := (HAT.out _ _ HG2.out).tr
         skip)
      | (clear tk1; with_reducible refine wpSeq_boxW 32 (.tmp 1) cev2 ?_ ?_ ?_ ?_
         · rfl
         · rfl
         · rfl
         intro g3 y2 nn
         clear cet
         replace HG2 : Hid (Blk y2 g2 cev 32) := HG2.out.below nn.below HG2.out.lt
         replace HBW : Hid (Below w.heap.size w y2) := HBW.out.trans (nn.below.mono HBW.out.size)
         have cet : (y2).cell? ⟨g2, 0, none⟩ = some (.slice adt nt ct) := (HAT.out _ _ HG2.out).tr
         have HG3 : Hid (Blk y2 g3 cev2 32) := nn.blk
         clear nn
         have cet2 : (y2).cell? ⟨g3, 0, none⟩ = some (.slice adt2 nt2 ct2) := (HAT2.out _ _ HG3.out).tr
         skip))
    go_ret
    exact ⟨by rw [HZ.out]; rfl, HBW.out⟩
  case pos =>
    have q1 : ((nt : Int) == (nt2 : Int)) = true := by rw [beq_iff_eq]; omega
    have p1 : ((nt : Int) != (nt2 : Int)) = false := by rw [bne, q1]; rfl
    cases rA with
    | false =>
      have HZ : Hid (R = false) := by show _ = _; rw [HRR.out, decide_eq_true hnn]; rfl
      clear hnn
      go_enter Tryd.func15, Tryd.ntmps15
      have tk0 : Hid True := trivial
      have tk1 : Hid True := trivial
      have tk2 : Hid True := trivial
      have tk3 : Hid True := trivial
      have tk4 : Hid True := trivial
      go_wp2_with (first
        | (clear tk0; with_reducible refine wpSeq_boxW 32 (.tmp 0) cev ?_ ?_ ?_ ?_
           · rfl
           · rfl
           · rfl
           intro g2 y1 nn
           replace HBW : Hid (Below w.heap.size w y1) := HBW.out.trans (nn.below.mono HBW.out.size)
           have HG2 : Hid (Blk y1 g2 cev 32) := nn.blk
           clear nn
           have cet : (y1).cell? ⟨g2, 0, none⟩ = some (.slice adt nt ct) := (HAT.out _ _ HG2.out).tr
           skip)
        | (clear tk1; with_reducible refine wpSeq_boxW 32 (.tmp 1) cev2 ?_ ?_ ?_ ?_
           · rfl
           · rfl
           · rfl
           intro g3 y2 nn
           clear cet
           replace HG2 : Hid (Blk y2 g2 cev 32) := HG2.out.below nn.below HG2.out.lt
           replace HBW : Hid (Below w.heap.size w y2) := HBW.out.trans (nn.below.mono HBW.out.size)
           have cet : (y2).cell? ⟨g2, 0, none⟩ = some (.slice adt nt ct) := (HAT.out _ _ HG2.out).tr
           have HG3 : Hid (Blk y2 g3 cev2 32) := nn.blk
           clear nn
           have cet2 : (y2).cell? ⟨g3, 0, none⟩ = some (.slice adt2 nt2 ct2) := (HAT2.out _ _ HG3.out).tr
           skip)
        | (clear tk2; with_reducible refine wpSeq_loadW 30 (.tmp 14) g2 1 csa _ ?_ Tryd.underlying30 rfl ?_ ?_ ?_ ?_ ?_
           · exact (HRG.out _ _ HG2.out).1
           · exact HIS.out.1
           · rfl
           · rfl
           · rfl)
        | (clear tk3; with_reducible refine wpSeq_loadW 30 (.tmp 16) g3 1 csa2 _ ?_ Tryd.underlying30 rfl ?_ ?_ ?_ ?_ ?_
           · exact (HRG2.out _ _ HG3.out).1
           · exact HIS2.out.1
           · rfl
           · rfl
           · rfl)
        | (clear tk4; go_at_call 37; refine (HCA.out y2 HBW.out).mono ?_; rintro e y3 ⟨rfl, hbz⟩
           clear cet
           clear cet2
           replace HG2 : Hid (Blk y3 g2 cev 32) := HG2.out.below hbz HG2.out.lt
           replace HG3 : Hid (Blk y3 g3 cev2 32) := HG3.out.below hbz HG3.out.lt
           replace HBW : Hid (Below w.heap.size w y3) := HBW.out.trans (hbz.mono HBW.out.size)
           have cet : (y3).cell? ⟨g2, 0, none⟩ = some (.slice adt nt ct) := (HAT.out _ _ HG2.out).tr
           have cet2 : (y3).cell? ⟨g3, 0, none⟩ = some (.slice adt2 nt2 ct2) := (HAT2.out _ _ HG3.out).tr
           clear hbz ))
      go_ret
      exact ⟨by rw [HZ.out]; rfl, HBW.out⟩
    | true =>
      cases rB with
      | false =>
        have HZ : Hid (R = false) := by show _ = _; rw [HRR.out, decide_eq_true hnn]; rfl
        clear hnn
        go_enter Tryd.func15, Tryd.ntmps15
        have tk0 : Hid True := trivial
        have tk1 : Hid True := trivial
        have tk2 : Hid True := trivial
        have tk3 : Hid True := trivial
        have tk4 : Hid True := trivial
        have tk5 : Hid True := trivial
        have tk6 : Hid True := trivial
        have tk7 : Hid True := trivial
        go_wp2_with (first
          | (clear tk0; with_reducible refine wpSeq_boxW 32 (.tmp 0) cev ?_ ?_ ?_ ?_
             · rfl
             · rfl
             · rfl
             intro g2 y1 nn
             replace HBW : Hid (Below w.heap.size w y1) := HBW.out.trans (nn.below.mono HBW.out.size)
             have HG2 : Hid (Blk y1 g2 cev 32) := nn.blk
             clear nn
             have cet : (y1).cell? ⟨g2, 0, none⟩ = some (.slice adt nt ct) := (HAT.out _ _ HG2.out).tr
             skip)
          | (clear tk1; with_reducible refine wpSeq_boxW 32 (.tmp 1) cev2 ?_ ?_ ?_ ?_
             · rfl
             · rfl
             · rfl
             intro g3 y2 nn
             clear cet
             replace HG2 : Hid (Blk y2 g2 cev 32) := HG2.out.below nn.below HG2.out.lt
             replace HBW : Hid (Below w.heap.size w y2) := HBW.out.trans (nn.below.mono HBW.out.size)
             have cet : (y2).cell? ⟨g2, 0, none⟩ = some (.slice adt nt ct) := (HAT.out _ _ HG2.out).tr
             have HG3 : Hid (Blk y2 g3 cev2 32) := nn.blk
             clear nn
             have cet2 : (y2).cell? ⟨g3, 0, none⟩ = some (.slice adt2 nt2 ct2) := (HAT2.out _ _ HG3.out).tr
             skip)
          | (clear tk2; with_reducible refine wpSeq_loadW 30 (.tmp 14) g2 1 csa _ ?_ Tryd.underlying30 rfl ?_ ?_ ?_ ?_ ?_
             · exact (HRG.out _ _ HG2.out).1
             · exact HIS.out.1
             · rfl
             · rfl
             · rfl)
          | (clear tk3; with_reducible refine wpSeq_loadW 30 (.tmp 16) g3 1 csa2 _ ?_ Tryd.underlying30 rfl ?_ ?_ ?_ ?_ ?_
             · exact (HRG2.out _ _ HG3.out).1
             · exact HIS2.out.1
             · rfl
             · rfl
             · rfl)
          | (clear tk4; go_at_call 37; refine (HCA.out y2 HBW.out).mono ?_; rintro e y3 ⟨rfl, hbz⟩
             clear cet
             clear cet2
             replace HG2 : Hid (Blk y3 g2 cev 32) := HG2.out.below hbz HG2.out.lt
             replace HG3 : Hid (Blk y3 g3 cev2 32) := HG3.out.below hbz HG3.out.lt
             replace HBW : Hid (Below w.heap.size w y3) := HBW.out.trans (hbz.mono HBW.out.size)
             have cet : (y3).cell? ⟨g2, 0, none⟩ = some (.slice adt nt ct) := (HAT.out _ _ HG2.out).tr
             have cet2 : (y3).cell? ⟨g3, 0, none⟩ = some (.slice adt2 nt2 ct2) := (HAT2.out _ _ HG3.out).tr
             clear hbz )
          | (clear tk5; with_reducible refine wpSeq_loadW 30 (.tmp 22) g2 99 csb _ ?_ Tryd.underlying30 rfl ?_ ?_ ?_ ?_ ?_
             · exact (HRG.out _ _ HG2.out).2
             · exact HIS.out.2
             · rfl
             · rfl
             · rfl)
          | (clear tk6; with_reducible refine wpSeq_loadW 30 (.tmp 24) g3 99 csb2 _ ?_ Tryd.underlying30 rfl ?_ ?_ ?_ ?_ ?_
             · exact (HRG2.out _ _ HG3.out).2
             · exact HIS2.out.2
             · rfl
             · rfl
             · rfl)
          | (clear tk7; go_at_call 37; refine (HCB.out y3 HBW.out).mono ?_; rintro e y4 ⟨rfl, hbz⟩
             clear cet
             clear cet2
             replace HG2 : Hid (Blk y4 g2 cev 32) := HG2.out.below hbz HG2.out.lt
             replace HG3 : Hid (Blk y4 g3 cev2 32) := HG3.out.below hbz HG3.out.lt
             replace HBW : Hid (Below w.heap.size w y4) := HBW.out.trans (hbz.mono HBW.out.size)
             have cet : (y4).cell? ⟨g2, 0, none⟩ = some (.slice adt nt ct) := (HAT.out _ _ HG2.out).tr
             have cet2 : (y4).cell? ⟨g3, 0, none⟩ = some (.slice adt2 nt2 ct2) := (HAT2.out _ _ HG3.out).tr
             clear hbz ))
        go_ret
        exact ⟨by rw [HZ.out]; rfl, HBW.out⟩
      | true =>
        have HRL : Hid (R = decide (e.1 = f.1)) := by show _ = _; rw [HRR.out, decide_eq_true hnn]; rfl
        have HNN : Hid (nt = nt2) := hnn
        clear hnn HRR
        go_enter Tryd.func15, Tryd.ntmps15
        have tk0 : Hid True := trivial
        have tk1 : Hid True := trivial
        have tk2 : Hid True := trivial
        have tk3 : Hid True := trivial
        have tk4 : Hid True := trivial
        have tk5 : Hid True := trivial
        have tk6 : Hid True := trivial
        have tk7 : Hid True := trivial
        go_wp2_with (first
          | (clear tk0; with_reducible refine wpSeq_boxW 32 (.tmp 0) cev ?_ ?_ ?_ ?_
             · rfl
             · rfl
             · rfl
             intro g2 y1 nn
             replace HBW : Hid (Below w.heap.size w y1) := HBW.out.trans (nn.below.mono HBW.out.size)
             have HG2 : Hid (Blk y1 g2 cev 32) := nn.blk
             clear nn
             have cet : (y1).cell? ⟨g2, 0, none⟩ = some (.slice adt nt ct) := (HAT.out _ _ HG2.out).tr
             skip)
          | (clear tk1; with_reducible refine wpSeq_boxW 32 (.tmp 1) cev2 ?_ ?_ ?_ ?_
             · rfl
             · rfl
             · rfl
             intro g3 y2 nn
             clear cet
             replace HG2 : Hid (Blk y2 g2 cev 32) := HG2.out.below nn.below HG2.out.lt
             replace HBW : Hid (Below w.heap.size w y2) := HBW.out.trans (nn.below.mono HBW.out.size)
             have cet : (y2).cell? ⟨g2, 0, none⟩ = some (.slice adt nt ct) := (HAT.out _ _ HG2.out).tr
             have HG3 : Hid (Blk y2 g3 cev2 32) := nn.blk
             clear nn
             have cet2 : (y2).cell? ⟨g3, 0, none⟩ = some (.slice adt2 nt2 ct2) := (HAT2.out _ _ HG3.out).tr
             skip)
          | (clear tk2; with_reducible refine wpSeq_loadW 30 (.tmp 14) g2 1 csa _ ?_ Tryd.underlying30 rfl ?_ ?_ ?_ ?_ ?_
             · exact (HRG.out _ _ HG2.out).1
             · exact HIS.out.1
             · rfl
             · rfl
             · rfl)
          | (clear tk3; with_reducible refine wpSeq_loadW 30 (.tmp 16) g3 1 csa2 _ ?_ Tryd.underlying30 rfl ?_ ?_ ?_ ?_ ?_
             · exact (HRG2.out _ _ HG3.out).1
             · exact HIS2.out.1
             · rfl
             · rfl
             · rfl)
          | (clear tk4; go_at_call 37; refine (HCA.out y2 HBW.out).mono ?_; rintro e y3 ⟨rfl, hbz⟩
             clear cet
             clear cet2
             replace HG2 : Hid (Blk y3 g2 cev 32) := HG2.out.below hbz HG2.out.lt
             replace HG3 : Hid (Blk y3 g3 cev2 32) := HG3.out.below hbz HG3.out.lt
             replace HBW : Hid (Below w.heap.size w y3) := HBW.out.trans (hbz.mono HBW.out.size)
             have cet : (y3).cell? ⟨g2, 0, none⟩ = some (.slice adt nt ct) := (HAT.out _ _ HG2.out).tr
             have cet2 : (y3).cell? ⟨g3, 0, none⟩ = some (.slice adt2 nt2 ct2) := (HAT2.out _ _ HG3.out).tr
             clear hbz )
          | (clear tk5; with_reducible refine wpSeq_loadW 30 (.tmp 22) g2 99 csb _ ?_ Tryd.underlying30 rfl ?_ ?_ ?_ ?_ ?_
             · exact (HRG.out _ _ HG2.out).2
             · exact HIS.out.2
             · rfl
             · rfl
             · rfl)
          | (clear tk6; with_reducible refine wpSeq_loadW 30 (.tmp 24) g3 99 csb2 _ ?_ Tryd.underlying30 rfl ?_ ?_ ?_ ?_ ?_
             · exact (HRG2.out _ _ HG3.out).2
             · exact HIS2.out.2
             · rfl
             · rfl
             · rfl)
          | (clear tk7; go_at_call 37; refine (HCB.out y3 HBW.out).mono ?_; rintro e y4 ⟨rfl, hbz⟩
             clear cet
             clear cet2
             replace HG2 : Hid (Blk y4 g2 cev 32) := HG2.out.below hbz HG2.out.lt
             replace HG3 : Hid (Blk y4 g3 cev2 32) := HG3.out.below hbz HG3.out.lt
             replace HBW : Hid (Below w.heap.size w y4) := HBW.out.trans (hbz.mono HBW.out.size)
             have cet : (y4).cell? ⟨g2, 0, none⟩ = some (.slice adt nt ct) := (HAT.out _ _ HG2.out).tr
             have cet2 : (y4).cell? ⟨g3, 0, none⟩ = some (.slice adt2 nt2 ct2) := (HAT2.out _ _ HG3.out).tr
             clear hbz ))
        have HI0 : Hid (SmI w g2 g3 cev cev2 y4) := ⟨HG2.out, HG3.out, HBW.out⟩
        clear HG2 HG3 HBW cet cet2 q1 p1
        go_loopw [5] (fun i wr => ∃ (k : Nat), k ≤ nt ∧ i = .int .i64 (k : Int) ∧ Hid (e.1.take k = f.1.take k) ∧ Hid (SmI w g2 g3 cev cev2 wr)) (fun i _ => nt - (intOf i).toNat)
        case atStart => exact ⟨0, by omega, rfl, rfl, HI0⟩
        case round =>
          obtain ⟨k, hkn, rfl, HTK, HI⟩ := hrel
          clear HI0
          have cet : wr.cell? ⟨g2, 0, none⟩ = some (.slice adt nt ct) := (HAT.out _ _ HI.out.a).tr
          by_cases hlt : k < nt
          case neg =>
            have hlk : ¬ ((k : Int) < (nt : Int)) := by omega
            have HZ : Hid (R = true) := by
              have h := HTK.out
              have hkt : k = nt := by omega
              rw [List.take_of_length_le (by rw [← HNT.out]; omega), List.take_of_length_le (by rw [← HNT2.out, ← HNN.out]; omega)] at h
              show _ = _
              rw [HRL.out, decide_eq_true h]
            go_wp2
            go_ret
            exact ⟨by rw [HZ.out]; rfl, HI.out.bel⟩
          case pos =>
            have hlk : (k : Int) < (nt : Int) := by omega
            have f5 : IntKind.i64.wrap ((k : Int) + 1) = (k : Int) + 1 := by rw [IntKind.wrap_i64]; have := HNL.out; omega
            have hlt2 : k < nt2 := by rw [← HNN.out]; exact hlt
            have HL1 : Hid (k < e.1.length) := by show _ < _; rw [← HNT.out]; exact hlt
            have HL2 : Hid (k < f.1.length) := by show _ < _; rw [← HNT2.out]; exact hlt2
            obtain ⟨b1, o1, c1, hv1, hat1⟩ := HEV.out.tr.at (Nat.lt_of_le_of_lt (Nat.zero_le _) HL1.out)
            obtain ⟨b2, o2, c2, hv2, hat2⟩ := HEV2.out.tr.at (Nat.lt_of_le_of_lt (Nat.zero_le _) HL2.out)
            simp only [Value.slice.injEq] at hv1 hv2
            obtain ⟨rfl, hn1, rfl⟩ := hv1
            obtain ⟨rfl, hn2, rfl⟩ := hv2
            clear hn1 hn2
            obtain ⟨v1, hs1, hr1⟩ := hat1 k HL1.out
            obtain ⟨v2, hs2, hr2⟩ := hat2 k HL2.out
            obtain ⟨s, HS⟩ : ∃ s, Hid (s = e.1.getD k zeroS) := ⟨_, rfl⟩
            obtain ⟨t, HT⟩ : ∃ t, Hid (t = f.1.getD k zeroS) := ⟨_, rfl⟩
            rw [← HS.out] at hs1 hr1
            rw [← HT.out] at hs2 hr2
            obtain ⟨ck1, HK1⟩ : ∃ c, Hid (c = sgC s v1) := ⟨_, rfl⟩
            obtain ⟨ck2, HK2⟩ : ∃ c, Hid (c = sgC t v2) := ⟨_, rfl⟩
            have HR1 : Hid (∀ W : World, Below w.heap.size w W → W.rangeAt b1 (o1 + k * 98) ck1) := fun W hh => by rw [HK1.out]; exact (hs1.below hh (Nat.le_refl _)).all
            have HR2 : Hid (∀ W : World, Below w.heap.size w W → W.rangeAt b2 (o2 + k * 98) ck2) := fun W hh => by rw [HK2.out]; exact (hs2.below hh (Nat.le_refl _)).all
            have HI1 : Hid ((Tryd.prog.info? 30).map (·.size) = some ck1.length) := by show _ = _; rw [HK1.out]; exact info_sgC hs1.ok _
            have HI2 : Hid ((Tryd.prog.info? 30).map (·.size) = some ck2.length) := by show _ = _; rw [HK2.out]; exact info_sgC hs2.ok _
            obtain ⟨r, HRK⟩ : ∃ r, Hid (r = decide (s = t)) := ⟨_, rfl⟩
            have HCK : Hid (∀ W : World, Below w.heap.size w W → Calls Tryd.prog 37 #[.agg ck1.toArray, .agg ck2.toArray] W fun r' w' => r' = .returned (.bool r) ∧ Below W.heap.size W w') := fun W hh => by rw [HK1.out, HK2.out, HRK.out]; exact sameSg_any _ _ _ _ W hs1.ok hs2.ok (hr1.below hh) (hr2.below hh)
            clear hat1 hat2 hs1 hs2 hr1 hr2 HCA HCB
            go_wp2
            clear cet
            cases r with
            | false =>
              have HZ : Hid (R = false) := by
                show _ = _
                rw [HRL.out]
                refine decide_eq_false fun h => ?_
                have h2 : ¬ s = t := of_decide_eq_false HRK.out.symm
                exact h2 (by rw [HS.out, HT.out, h])
              refine wp_region_held_drew (S := Over (World.drew wr)) (by kernel_rfl) (Over.refl _) ?_
              intro hS
              replace HI : Hid (SmI w g2 g3 cev cev2 (World.drew wr)) := HI.out.drew
              change wpAnyH _ _ _ _ _ _ _ _ (World.drew wr)
              generalize World.drew wr = y0 at *
              try simp only [Act.put, List.setIfInBounds_toArray, List.set_cons_zero, List.set_cons_succ]
              refine wpAnyH_take (i := 0) (v := .pointer (some ⟨g2, 0, none⟩)) rfl (by kernel_rfl) (by kernel_rfl) (by kernel_rfl) (fun _ _ _ h => h) (Or.inl ⟨by rfl, fun wx hx => by simp [go_sem]⟩) hS ?_
              simp only [Act.put, List.getElem_toArray, List.getElem_cons_zero, List.setIfInBounds_toArray, List.set_cons_zero, List.set_cons_succ]
              refine wpAnyH_take (i := 1) (v := .slice (some ⟨b1, o1, none⟩) nt ct) rfl (by kernel_rfl) (by kernel_rfl) (by kernel_rfl) (fun _ _ _ h => h) (Or.inl ⟨by rfl, fun wx hx => by (have hc : wx.cell? ⟨g2, 0, none⟩ = some (.slice (some ⟨b1, o1, none⟩) nt ct) := (HAT.out _ _ (HI.out.next hx).a).tr); simp [go_sem, hc]⟩) hS ?_
              simp only [Act.put, List.getElem_toArray, List.getElem_cons_succ, List.getElem_cons_zero, List.setIfInBounds_toArray, List.set_cons_zero, List.set_cons_succ]
              refine wpAnyH_take (i := 2) (v := .int .i64 (k : Int)) rfl (by kernel_rfl) (by kernel_rfl) (by kernel_rfl) (fun _ _ _ h => h) (Or.inl ⟨by rfl, fun wx hx => by simp [go_sem]⟩) hS ?_
              simp only [Act.put, List.getElem_toArray, List.getElem_cons_succ, List.getElem_cons_zero, List.setIfInBounds_toArray, List.set_cons_zero, List.set_cons_succ]
              refine wpAnyH_take (i := 3) (v := .pointer (some ⟨b1, o1 + k * 98, none⟩)) rfl (by kernel_rfl) (by kernel_rfl) (by kernel_rfl) (fun _ _ _ h => h) (Or.inl ⟨by rfl, fun wx hx => by exact idx98 b1 o1 ct nt k hlt _ _ _ _ rfl rfl rfl _⟩) hS ?_
              simp only [Act.put, List.getElem_toArray, List.getElem_cons_succ, List.getElem_cons_zero, List.setIfInBounds_toArray, List.set_cons_zero, List.set_cons_succ]
              refine wpAnyH_take (i := 4) (v := .agg ck1.toArray) rfl (by kernel_rfl) (by kernel_rfl) (by kernel_rfl) (fun _ _ _ h => h) (Or.inl ⟨by rfl, fun wx hx => by exact load_run 30 _ rfl b1 (o1 + k * 98) rfl ck1 _ (HR1.out _ (HI.out.next hx).bel) Tryd.underlying30 rfl HI1.out⟩) hS ?_
              simp only [Act.put, List.getElem_toArray, List.getElem_cons_succ, List.getElem_cons_zero, List.setIfInBounds_toArray, List.set_cons_zero, List.set_cons_succ]
              refine wpAnyH_take (i := 5) (v := .pointer (some ⟨g3, 0, none⟩)) rfl (by kernel_rfl) (by kernel_rfl) (by kernel_rfl) (fun _ _ _ h => h) (Or.inl ⟨by rfl, fun wx hx => by simp [go_sem]⟩) hS ?_
              simp only [Act.put, List.getElem_toArray, List.getElem_cons_succ, List.getElem_cons_zero, List.setIfInBounds_toArray, List.set_cons_zero, List.set_cons_succ]
              refine wpAnyH_take (i := 6) (v := .slice (some ⟨b2, o2, none⟩) nt2 ct2) rfl (by kernel_rfl) (by kernel_rfl) (by kernel_rfl) (fun _ _ _ h => h) (Or.inl ⟨by rfl, fun wx hx => by (have hc : wx.cell? ⟨g3, 0, none⟩ = some (.slice (some ⟨b2, o2, none⟩) nt2 ct2) := (HAT2.out _ _ (HI.out.next hx).b).tr); simp [go_sem, hc]⟩) hS ?_
              simp only [Act.put, List.getElem_toArray, List.getElem_cons_succ, List.getElem_cons_zero, List.setIfInBounds_toArray, List.set_cons_zero, List.set_cons_succ]
              refine wpAnyH_take (i := 7) (v := .int .i64 (k : Int)) rfl (by kernel_rfl) (by kernel_rfl) (by kernel_rfl) (fun _ _ _ h => h) (Or.inl ⟨by rfl, fun wx hx => by simp [go_sem]⟩) hS ?_
              simp only [Act.put, List.getElem_toArray, List.getElem_cons_succ, List.getElem_cons_zero, List.setIfInBounds_toArray, List.set_cons_zero, List.set_cons_succ]
              refine wpAnyH_take (i := 8) (v := .pointer (some ⟨b2, o2 + k * 98, none⟩)) rfl (by kernel_rfl) (by kernel_rfl) (by kernel_rfl) (fun _ _ _ h => h) (Or.inl ⟨by rfl, fun wx hx => by exact idx98 b2 o2 ct2 nt2 k hlt2 _ _ _ _ rfl rfl rfl _⟩) hS ?_
              simp only [Act.put, List.getElem_toArray, List.getElem_cons_succ, List.getElem_cons_zero, List.setIfInBounds_toArray, List.set_cons_zero, List.set_cons_succ]
              refine wpAnyH_take (i := 9) (v := .agg ck2.toArray) rfl (by kernel_rfl) (by kernel_rfl) (by kernel_rfl) (fun _ _ _ h => h) (Or.inl ⟨by rfl, fun wx hx => by exact load_run 30 _ rfl b2 (o2 + k * 98) rfl ck2 _ (HR2.out _ (HI.out.next hx).bel) Tryd.underlying30 rfl HI2.out⟩) hS ?_
              simp only [Act.put, List.getElem_toArray, List.getElem_cons_succ, List.getElem_cons_zero, List.setIfInBounds_toArray, List.set_cons_zero, List.set_cons_succ]
              refine wpAnyH_enter 10 (by kernel_rfl) rfl (by rfl) (f := 37) (args := #[.agg ck1.toArray, .agg ck2.toArray]) (by simp [go_sem]) (HCK.out _ (HI.out.next hS).bel) ?_
              rintro e z1 ⟨rfl, hb⟩
              replace hS := Over.more hS hb
              refine ⟨_, rfl, hS, ?_⟩
              clear hb 
              simp only [Act.put, List.getElem_toArray, List.getElem_cons_succ, List.getElem_cons_zero, List.setIfInBounds_toArray, List.set_cons_zero, List.set_cons_succ]
              refine wpAnyH_take (i := 11) (v := .bool true) rfl (by kernel_rfl) (by kernel_rfl) (by kernel_rfl) (fun _ _ _ h => h) (Or.inl ⟨by rfl, fun wx hx => by simp [go_sem]⟩) hS ?_
              simp only [Act.put, List.getElem_toArray, List.getElem_cons_succ, List.getElem_cons_zero, List.setIfInBounds_toArray, List.set_cons_zero, List.set_cons_succ]
              refine wpAnyH_done (by kernel_rfl) ?_ _
              go_wp2
              go_ret
              exact ⟨by rw [HZ.out]; rfl, (HI.out.next hS).bel⟩
            | true =>
              have HT2 : Hid (e.1.take (k + 1) = f.1.take (k + 1)) := by
                show _ = _
                rw [take_more HL1.out, take_more HL2.out, HTK.out, ← HS.out, ← HT.out, of_decide_eq_true HRK.out.symm]
              refine wp_region_held_drew (S := Over (World.drew wr)) (by kernel_rfl) (Over.refl _) ?_
              intro hS
              replace HI : Hid (SmI w g2 g3 cev cev2 (World.drew wr)) := HI.out.drew
              change wpAnyH _ _ _ _ _ _ _ _ (World.drew wr)
              generalize World.drew wr = y0 at *
              try simp only [Act.put, List.setIfInBounds_toArray, List.set_cons_zero, List.set_cons_succ]
              refine wpAnyH_take (i := 0) (v := .pointer (some ⟨g2, 0, none⟩)) rfl (by kernel_rfl) (by kernel_rfl) (by kernel_rfl) (fun _ _ _ h => h) (Or.inl ⟨by rfl, fun wx hx => by simp [go_sem]⟩) hS ?_
              simp only [Act.put, List.getElem_toArray, List.getElem_cons_zero, List.setIfInBounds_toArray, List.set_cons_zero, List.set_cons_succ]
              refine wpAnyH_take (i := 1) (v := .slice (some ⟨b1, o1, none⟩) nt ct) rfl (by kernel_rfl) (by kernel_rfl) (by kernel_rfl) (fun _ _ _ h => h) (Or.inl ⟨by rfl, fun wx hx => by (have hc : wx.cell? ⟨g2, 0, none⟩ = some (.slice (some ⟨b1, o1, none⟩) nt ct) := (HAT.out _ _ (HI.out.next hx).a).tr); simp [go_sem, hc]⟩) hS ?_
              simp only [Act.put, List.getElem_toArray, List.getElem_cons_succ, List.getElem_cons_zero, List.setIfInBounds_toArray, List.set_cons_zero, List.set_cons_succ]
              refine wpAnyH_take (i := 2) (v := .int .i64 (k : Int)) rfl (by kernel_rfl) (by kernel_rfl) (by kernel_rfl) (fun _ _ _ h => h) (Or.inl ⟨by rfl, fun wx hx => by simp [go_sem]⟩) hS ?_
              simp only [Act.put, List.getElem_toArray, List.getElem_cons_succ, List.getElem_cons_zero, List.setIfInBounds_toArray, List.set_cons_zero, List.set_cons_succ]
              refine wpAnyH_take (i := 3) (v := .pointer (some ⟨b1, o1 + k * 98, none⟩)) rfl (by kernel_rfl) (by kernel_rfl) (by kernel_rfl) (fun _ _ _ h => h) (Or.inl ⟨by rfl, fun wx hx => by exact idx98 b1 o1 ct nt k hlt _ _ _ _ rfl rfl rfl _⟩) hS ?_
              simp only [Act.put, List.getElem_toArray, List.getElem_cons_succ, List.getElem_cons_zero, List.setIfInBounds_toArray, List.set_cons_zero, List.set_cons_succ]
              refine wpAnyH_take (i := 4) (v := .agg ck1.toArray) rfl (by kernel_rfl) (by kernel_rfl) (by kernel_rfl) (fun _ _ _ h => h) (Or.inl ⟨by rfl, fun wx hx => by exact load_run 30 _ rfl b1 (o1 + k * 98) rfl ck1 _ (HR1.out _ (HI.out.next hx).bel) Tryd.underlying30 rfl HI1.out⟩) hS ?_
              simp only [Act.put, List.getElem_toArray, List.getElem_cons_succ, List.getElem_cons_zero, List.setIfInBounds_toArray, List.set_cons_zero, List.set_cons_succ]
              refine wpAnyH_take (i := 5) (v := .pointer (some ⟨g3, 0, none⟩)) rfl (by kernel_rfl) (by kernel_rfl) (by kernel_rfl) (fun _ _ _ h => h) (Or.inl ⟨by rfl, fun wx hx => by simp [go_sem]⟩) hS ?_
              simp only [Act.put, List.getElem_toArray, List.getElem_cons_succ, List.getElem_cons_zero, List.setIfInBounds_toArray, List.set_cons_zero, List.set_cons_succ]
              refine wpAnyH_take (i := 6) (v := .slice (some ⟨b2, o2, none⟩) nt2 ct2) rfl (by kernel_rfl) (by kernel_rfl) (by kernel_rfl) (fun _ _ _ h => h) (Or.inl ⟨by rfl, fun wx hx => by (have hc : wx.cell? ⟨g3, 0, none⟩ = some (.slice (some ⟨b2, o2, none⟩) nt2 ct2) := (HAT2.out _ _ (HI.out.next hx).b).tr); simp [go_sem, hc]⟩) hS ?_
              simp only [Act.put, List.getElem_toArray, List.getElem_cons_succ, List.getElem_cons_zero, List.setIfInBounds_toArray, List.set_cons_zero, List.set_cons_succ]
              refine wpAnyH_take (i := 7) (v := .int .i64 (k : Int)) rfl (by kernel_rfl) (by kernel_rfl) (by kernel_rfl) (fun _ _ _ h => h) (Or.inl ⟨by rfl, fun wx hx => by simp [go_sem]⟩) hS ?_
              simp only [Act.put, List.getElem_toArray, List.getElem_cons_succ, List.getElem_cons_zero, List.setIfInBounds_toArray, List.set_cons_zero, List.set_cons_succ]
              refine wpAnyH_take (i := 8) (v := .pointer (some ⟨b2, o2 + k * 98, none⟩)) rfl (by kernel_rfl) (by kernel_rfl) (by kernel_rfl) (fun _ _ _ h => h) (Or.inl ⟨by rfl, fun wx hx => by exact idx98 b2 o2 ct2 nt2 k hlt2 _ _ _ _ rfl rfl rfl _⟩) hS ?_
              simp only [Act.put, List.getElem_toArray, List.getElem_cons_succ, List.getElem_cons_zero, List.setIfInBounds_toArray, List.set_cons_zero, List.set_cons_succ]
              refine wpAnyH_take (i := 9) (v := .agg ck2.toArray) rfl (by kernel_rfl) (by kernel_rfl) (by kernel_rfl) (fun _ _ _ h => h) (Or.inl ⟨by rfl, fun wx hx => by exact load_run 30 _ rfl b2 (o2 + k * 98) rfl ck2 _ (HR2.out _ (HI.out.next hx).bel) Tryd.underlying30 rfl HI2.out⟩) hS ?_
              simp only [Act.put, List.getElem_toArray, List.getElem_cons_succ, List.getElem_cons_zero, List.setIfInBounds_toArray, List.set_cons_zero, List.set_cons_succ]
              refine wpAnyH_enter 10 (by kernel_rfl) rfl (by rfl) (f := 37) (args := #[.agg ck1.toArray, .agg ck2.toArray]) (by simp [go_sem]) (HCK.out _ (HI.out.next hS).bel) ?_
              rintro e z1 ⟨rfl, hb⟩
              replace hS := Over.more hS hb
              refine ⟨_, rfl, hS, ?_⟩
              clear hb 
              simp only [Act.put, List.getElem_toArray, List.getElem_cons_succ, List.getElem_cons_zero, List.setIfInBounds_toArray, List.set_cons_zero, List.set_cons_succ]
              refine wpAnyH_take (i := 11) (v := .bool false) rfl (by kernel_rfl) (by kernel_rfl) (by kernel_rfl) (fun _ _ _ h => h) (Or.inl ⟨by rfl, fun wx hx => by simp [go_sem]⟩) hS ?_
              simp only [Act.put, List.getElem_toArray, List.getElem_cons_succ, List.getElem_cons_zero, List.setIfInBounds_toArray, List.set_cons_zero, List.set_cons_succ]
              refine wpAnyH_done (by kernel_rfl) ?_ _
              go_wp2
              go_roundw
              case rel => exact ⟨k + 1, by omega, by simp, HT2, HI.out.next hS⟩
              case measure => simp [intOf]; omega
end Go.Proofs.YtableajopaappaaDoor
/- ForkBack, over what fork's functions do (layer 12). -/
namespace Go.Proofs.YtableajopaappaaDoor
open Go.RowKit Go.Shelf
set_option maxRecDepth 100000
end Go.Proofs.YtableajopaappaaDoor
/- ForkReads, over what fork's functions do (layer 12). -/
namespace Go.Proofs.YtableajopaappaaDoor
open Go.RowKit Go.Shelf
set_option maxRecDepth 100000
set_option maxRecDepth 100000 in
set_option maxHeartbeats 8000000 in
theorem forkReads_law (hO : FkOps) (pin : Bs) (v : Value) (b : Bs) (w : World) (hK : KOk w) (hp : pin.length = 32) (hv : Reads w v b) :
    Calls Tryd.prog 4 #[.agg (cb pin).toArray, v] w fun r w' => r = .returned (.bool true) ∧ Below w.heap.size w w' := by
  have HPL : Hid (pin.length = 32) := hp
  have HIP : Hid ((Tryd.prog.info? 23).map (·.size) = some (cb pin).length) := by show _ = _; rw [cb_len, hp]; exact info_digest
  obtain ⟨ad, cp, hvv, hq⟩ := id hv
  clear hq
  obtain ⟨n, HN⟩ : ∃ n, Hid (n = b.length) := ⟨_, rfl⟩
  rw [← HN.out] at hvv
  subst hvv
  have HV : Hid (Reads w (.slice ad n cp) b) := hv
  have HBW : Hid (Below w.heap.size w w) := Below.refl _ _
  have HW : Hid (∀ W : World, Below w.heap.size w W → Calls Tryd.prog 10 #[] W fun r w' => r = .returned (.bool true) ∧ Below W.heap.size W w') := fun W hh => works12_any hO W (hK.below hh hK.lt)
  by_cases hbig : 524288 < n
  · have hi : (524288 : Int) < (n : Int) := by omega
    clear hO hK hp hv
    go_enter Tryd.func4, Tryd.ntmps4
    have tk0 : Hid True := trivial
    have tk1 : Hid True := trivial
    go_wp2_with (first
      | (clear tk0; with_reducible refine wpSeq_boxW 23 (.tmp 0) (cb pin) ?_ ?_ ?_ ?_
         · rfl
         · rfl
         · rfl
         intro g2 y1 nn
         replace HV : Hid (Reads y1 (.slice ad n cp) b) := HV.out.below nn.below
         replace HBW : Hid (Below w.heap.size w y1) := HBW.out.trans (nn.below.mono HBW.out.size)
         have H2 : Hid (Blk y1 g2 (cb pin) 23) := nn.blk
         clear nn
         skip)
      | (clear tk1; go_at_call 10; refine (HW.out y1 HBW.out).mono ?_; rintro e y2 ⟨rfl, hbz⟩
         replace H2 : Hid (Blk y2 g2 (cb pin) 23) := H2.out.below hbz H2.out.lt
         replace HV : Hid (Reads y2 (.slice ad n cp) b) := HV.out.below hbz
         replace HBW : Hid (Below w.heap.size w y2) := HBW.out.trans (hbz.mono HBW.out.size)
         clear hbz ))
    go_ret
    exact ⟨rfl, HBW.out⟩
  have hi : ¬ ((524288 : Int) < (n : Int)) := by omega
  have hbl : b.length ≤ 524288 := by rw [← HN.out]; omega
  obtain ⟨e, HEE⟩ : ∃ e, Hid (e = readE b) := ⟨_, rfl⟩
  cases hF : readF b with
  | none =>
    have HX : Hid (readX b = 3) := by show _ = _; rw [readX, hF]; rfl
    have HACF : Hid (acceptF pin b = 3) := by show _ = _; rw [acceptF, hF]
    have hel : e.1.length ≤ 63 := by rw [HEE.out, readE, hF]; decide
    have HR1 : Hid (∀ W : World, Below w.heap.size w W → Calls Tryd.prog 13 #[.slice ad n cp] W fun r w' => ∃ c, r = .returned (.tuple #[.agg (c : List Value).toArray, .int .i64 3]) ∧ EvB w' e c ∧ Below W.heap.size W w') := fun W hh => by
      have h := hO.read W _ b (hK.below hh hK.lt) (HV.out.below hh) (by omega)
      rw [HX.out, ← HEE.out] at h
      exact h
    have HR2 : Hid (∀ W : World, Below w.heap.size w W → Calls Tryd.prog 14 #[.slice ad n cp] W fun r w' => ∃ c, r = .returned (.tuple #[.agg (c : List Value).toArray, .int .i64 3]) ∧ EvB w' e c ∧ Below W.heap.size W w') := fun W hh => by
      have h := qfRead_any _ b W (HV.out.below hh) (by omega)
      rw [HX.out, ← HEE.out] at h
      exact h
    have HQS : Hid (∀ (W : World) (c d : List Value), EvB W e c → EvB W e d → Calls Tryd.prog 15 #[.agg c.toArray, .agg d.toArray] W fun r w' => r = .returned (.bool true) ∧ Below W.heap.size W w') := fun W c d hc hd => by
      have h := qfSame_any e e c d W hc hd (by omega)
      rw [(sameE_iff e e).2 rfl] at h
      exact h
    have HAC : Hid (∀ W : World, Below w.heap.size w W → Calls Tryd.prog 16 #[.agg (cb pin).toArray, .slice ad n cp] W fun r w' => r = .returned (.int .i64 3) ∧ Below W.heap.size W w') := fun W hh => by
      have h := hO.accept W pin _ b (hK.below hh hK.lt) HPL.out (HV.out.below hh) (by omega)
      rw [HACF.out] at h
      exact h
    clear hO hK hp hv hF hbl hel HEE HX HACF hbig
    go_enter Tryd.func4, Tryd.ntmps4
    have tk0 : Hid True := trivial
    have tk1 : Hid True := trivial
    have tk2 : Hid True := trivial
    have tk3 : Hid True := trivial
    have tk4 : Hid True := trivial
    have tk5 : Hid True := trivial
    have tk6 : Hid True := trivial
    have tk7 : Hid True := trivial
    have tk8 : Hid True := trivial
    have tk9 : Hid True := trivial
    have tk10 : Hid True := trivial
    have tk11 : Hid True := trivial
    have tk12 : Hid True := trivial
    go_wp2_with (first
      | (clear tk0; with_reducible refine wpSeq_boxW 23 (.tmp 0) (cb pin) ?_ ?_ ?_ ?_
         · rfl
         · rfl
         · rfl
         intro g2 y1 nn
         replace HV : Hid (Reads y1 (.slice ad n cp) b) := HV.out.below nn.below
         replace HBW : Hid (Below w.heap.size w y1) := HBW.out.trans (nn.below.mono HBW.out.size)
         have H2 : Hid (Blk y1 g2 (cb pin) 23) := nn.blk
         clear nn
         skip)
      | (clear tk1; go_at_call 13; refine (HR1.out y1 HBW.out).mono ?_; rintro e y2 ⟨c1, rfl, hev, hbz⟩
         replace H2 : Hid (Blk y2 g2 (cb pin) 23) := H2.out.below hbz H2.out.lt
         replace HV : Hid (Reads y2 (.slice ad n cp) b) := HV.out.below hbz
         replace HBW : Hid (Below w.heap.size w y2) := HBW.out.trans (hbz.mono HBW.out.size)
         have HE1 : Hid (EvOk e c1) := hev.ok
         have HB1 : Hid (EvB y2 e c1) := hev
         clear hbz hev)
      | (clear tk2; with_reducible refine wpSeq_allocE ?_ ?_ ?_
         · rfl
         · rfl
         intro g5 y3 nn)
      | (clear tk3; with_reducible refine wpSeq_storeRow 32 (.tmp 5) (.tmp 17) g5 (evC zeroE (.slice none 0 0) (.slice none 0 0) (.slice none 0 0)) c1 ?_ ?_ ?_ ?_ ?_ ?_ ?_ ?_ ?_
         · exact nn.blk
         · exact HE1.out.lz
         · exact HE1.out.info
         · exact HE1.out.one
         · rfl
         · rfl
         · rfl
         · rfl
         intro y4 hs
         have hbz := nn.below.trans (hs.only.below nn.ge nn.below.size)
         replace H2 : Hid (Blk y4 g2 (cb pin) 23) := H2.out.below hbz H2.out.lt
         replace HV : Hid (Reads y4 (.slice ad n cp) b) := HV.out.below hbz
         replace HB1 : Hid (EvB y4 e c1) := HB1.out.below hbz
         replace HBW : Hid (Below w.heap.size w y4) := HBW.out.trans (hbz.mono HBW.out.size)
         have H5 : Hid (Blk y4 g5 c1 32) := hs.blk
         clear nn hs hbz)
      | (clear tk4; go_at_call 14; refine (HR2.out y4 HBW.out).mono ?_; rintro e y5 ⟨c2, rfl, hev, hbz⟩
         replace H2 : Hid (Blk y5 g2 (cb pin) 23) := H2.out.below hbz H2.out.lt
         replace H5 : Hid (Blk y5 g5 c1 32) := H5.out.below hbz H5.out.lt
         replace HV : Hid (Reads y5 (.slice ad n cp) b) := HV.out.below hbz
         replace HB1 : Hid (EvB y5 e c1) := HB1.out.below hbz
         replace HBW : Hid (Below w.heap.size w y5) := HBW.out.trans (hbz.mono HBW.out.size)
         have HE2 : Hid (EvOk e c2) := hev.ok
         have HB2 : Hid (EvB y5 e c2) := hev
         clear hbz hev)
      | (clear tk5; with_reducible refine wpSeq_allocE ?_ ?_ ?_
         · rfl
         · rfl
         intro g7 y6 nn)
      | (clear tk6; with_reducible refine wpSeq_storeRow 32 (.tmp 7) (.tmp 22) g7 (evC zeroE (.slice none 0 0) (.slice none 0 0) (.slice none 0 0)) c2 ?_ ?_ ?_ ?_ ?_ ?_ ?_ ?_ ?_
         · exact nn.blk
         · exact HE2.out.lz
         · exact HE2.out.info
         · exact HE2.out.one
         · rfl
         · rfl
         · rfl
         · rfl
         intro y7 hs
         have hbz := nn.below.trans (hs.only.below nn.ge nn.below.size)
         replace H2 : Hid (Blk y7 g2 (cb pin) 23) := H2.out.below hbz H2.out.lt
         replace H5 : Hid (Blk y7 g5 c1 32) := H5.out.below hbz H5.out.lt
         replace HV : Hid (Reads y7 (.slice ad n cp) b) := HV.out.below hbz
         replace HB1 : Hid (EvB y7 e c1) := HB1.out.below hbz
         replace HB2 : Hid (EvB y7 e c2) := HB2.out.below hbz
         replace HBW : Hid (Below w.heap.size w y7) := HBW.out.trans (hbz.mono HBW.out.size)
         have H7 : Hid (Blk y7 g7 c2 32) := hs.blk
         clear nn hs hbz)
      | (clear tk7; with_reducible refine wpSeq_loadW 32 (.tmp 5) g5 0 c1 _ ?_ Tryd.underlying32 rfl ?_ ?_ ?_ ?_ ?_
         · exact H5.out.range
         · exact HE1.out.info
         · rfl
         · rfl
         · rfl)
      | (clear tk8; with_reducible refine wpSeq_loadW 32 (.tmp 7) g7 0 c2 _ ?_ Tryd.underlying32 rfl ?_ ?_ ?_ ?_ ?_
         · exact H7.out.range
         · exact HE2.out.info
         · rfl
         · rfl
         · rfl)
      | (clear tk9; go_at_call 15; refine (HQS.out y7 c1 c2 HB1.out HB2.out).mono ?_; rintro e y8 ⟨rfl, hbz⟩
         replace H2 : Hid (Blk y8 g2 (cb pin) 23) := H2.out.below hbz H2.out.lt
         replace H5 : Hid (Blk y8 g5 c1 32) := H5.out.below hbz H5.out.lt
         replace H7 : Hid (Blk y8 g7 c2 32) := H7.out.below hbz H7.out.lt
         replace HV : Hid (Reads y8 (.slice ad n cp) b) := HV.out.below hbz
         replace HB1 : Hid (EvB y8 e c1) := HB1.out.below hbz
         replace HB2 : Hid (EvB y8 e c2) := HB2.out.below hbz
         replace HBW : Hid (Below w.heap.size w y8) := HBW.out.trans (hbz.mono HBW.out.size)
         clear hbz )
      | (clear tk10; with_reducible refine wpSeq_loadW 23 (.tmp 2) g2 0 (cb pin) _ ?_ Tryd.underlying23 rfl ?_ ?_ ?_ ?_ ?_
         · exact H2.out.range
         · exact HIP.out
         · rfl
         · rfl
         · rfl)
      | (clear tk11; go_at_call 16; refine (HAC.out y8 HBW.out).mono ?_; rintro e y9 ⟨rfl, hbz⟩
         replace H2 : Hid (Blk y9 g2 (cb pin) 23) := H2.out.below hbz H2.out.lt
         replace H5 : Hid (Blk y9 g5 c1 32) := H5.out.below hbz H5.out.lt
         replace H7 : Hid (Blk y9 g7 c2 32) := H7.out.below hbz H7.out.lt
         replace HV : Hid (Reads y9 (.slice ad n cp) b) := HV.out.below hbz
         replace HB1 : Hid (EvB y9 e c1) := HB1.out.below hbz
         replace HB2 : Hid (EvB y9 e c2) := HB2.out.below hbz
         replace HBW : Hid (Below w.heap.size w y9) := HBW.out.trans (hbz.mono HBW.out.size)
         clear hbz )
      | (clear tk12; go_at_call 10; refine (HW.out y9 HBW.out).mono ?_; rintro e y10 ⟨rfl, hbz⟩
         replace H2 : Hid (Blk y10 g2 (cb pin) 23) := H2.out.below hbz H2.out.lt
         replace H5 : Hid (Blk y10 g5 c1 32) := H5.out.below hbz H5.out.lt
         replace H7 : Hid (Blk y10 g7 c2 32) := H7.out.below hbz H7.out.lt
         replace HV : Hid (Reads y10 (.slice ad n cp) b) := HV.out.below hbz
         replace HB1 : Hid (EvB y10 e c1) := HB1.out.below hbz
         replace HB2 : Hid (EvB y10 e c2) := HB2.out.below hbz
         replace HBW : Hid (Below w.heap.size w y10) := HBW.out.trans (hbz.mono HBW.out.size)
         clear hbz ))
    go_ret
    exact ⟨rfl, HBW.out⟩
  | some e' =>
    have hee : e = e' := by rw [HEE.out, readE, hF]; rfl
    subst hee
    obtain ⟨hob, hbb⟩ := (readF_iff _ _).1 hF
    have hel : e.1.length ≤ 63 := hob.1
    have HX : Hid (readX b = 0) := by show _ = _; rw [readX, hF]; rfl
    obtain ⟨ac, HCK⟩ : ∃ c, Hid (c = checkF pin e) := ⟨_, rfl⟩
    have HACF : Hid (acceptF pin b = ac) := by show _ = _; rw [acceptF, hF, HCK.out]
    have HR1 : Hid (∀ W : World, Below w.heap.size w W → Calls Tryd.prog 13 #[.slice ad n cp] W fun r w' => ∃ c, r = .returned (.tuple #[.agg (c : List Value).toArray, .int .i64 0]) ∧ EvB w' e c ∧ Below W.heap.size W w') := fun W hh => by
      have h := hO.read W _ b (hK.below hh hK.lt) (HV.out.below hh) (by omega)
      rw [HX.out, ← HEE.out] at h
      exact h
    have HR2 : Hid (∀ W : World, Below w.heap.size w W → Calls Tryd.prog 14 #[.slice ad n cp] W fun r w' => ∃ c, r = .returned (.tuple #[.agg (c : List Value).toArray, .int .i64 0]) ∧ EvB w' e c ∧ Below W.heap.size W w') := fun W hh => by
      have h := qfRead_any _ b W (HV.out.below hh) (by omega)
      rw [HX.out, ← HEE.out] at h
      exact h
    have HQS : Hid (∀ (W : World) (c d : List Value), EvB W e c → EvB W e d → Calls Tryd.prog 15 #[.agg c.toArray, .agg d.toArray] W fun r w' => r = .returned (.bool true) ∧ Below W.heap.size W w') := fun W c d hc hd => by
      have h := qfSame_any e e c d W hc hd (by omega)
      rw [(sameE_iff e e).2 rfl] at h
      exact h
    have HAC : Hid (∀ W : World, Below w.heap.size w W → Calls Tryd.prog 16 #[.agg (cb pin).toArray, .slice ad n cp] W fun r w' => r = .returned (.int .i64 ac) ∧ Below W.heap.size W w') := fun W hh => by
      have h := hO.accept W pin _ b (hK.below hh hK.lt) HPL.out (HV.out.below hh) (by omega)
      rw [HACF.out] at h
      exact h
    have HQC : Hid (∀ (W : World) (c : List Value), EvB W e c → Calls Tryd.prog 12 #[.agg (cb pin).toArray, .agg c.toArray] W fun r w' => r = .returned (.int .i64 ac) ∧ Below W.heap.size W w') := fun W c hc => by rw [HCK.out]; exact qfCheck_B pin e c W HPL.out hc (by omega)
    have HBY : Hid (∀ (W : World) (c : List Value), Below w.heap.size w W → EvB W e c → Calls Tryd.prog 18 #[.agg c.toArray] W fun r w' => ∃ v, r = .returned v ∧ Reads w' v b ∧ Below W.heap.size W w') := fun W c hh hc => by
      have h := hO.bytes W e c (hK.below hh hK.lt) hc (by omega) (fun s hs => (hob.2 s hs).1.2)
      rw [← hbb] at h
      exact h
    have HSM : Hid (∀ (W : World) (va vb : Value), Reads W va b → Reads W vb b → Calls Tryd.prog 17 #[va, vb] W fun r w' => r = .returned (.bool true) ∧ Below W.heap.size W w') := fun W va vb ha hb => (same_any va vb b b W ha hb).mono fun r w' h => ⟨by rw [h.1, decide_eq_true rfl], by rw [h.2]; exact Below.refl _ _⟩
    have e1 : (ac == ac) = true := beq_self_eq_true ac
    clear hO hK hp hv hF hbl hel HEE HX HACF hbig HCK hob hbb
    go_enter Tryd.func4, Tryd.ntmps4
    have tk0 : Hid True := trivial
    have tk1 : Hid True := trivial
    have tk2 : Hid True := trivial
    have tk3 : Hid True := trivial
    have tk4 : Hid True := trivial
    have tk5 : Hid True := trivial
    have tk6 : Hid True := trivial
    have tk7 : Hid True := trivial
    have tk8 : Hid True := trivial
    have tk9 : Hid True := trivial
    have tk10 : Hid True := trivial
    have tk11 : Hid True := trivial
    have tk12 : Hid True := trivial
    have tk13 : Hid True := trivial
    have tk14 : Hid True := trivial
    have tk15 : Hid True := trivial
    have tk16 : Hid True := trivial
    have tk17 : Hid True := trivial
    have tk18 : Hid True := trivial
    go_wp2_with (first
      | (clear tk0; with_reducible refine wpSeq_boxW 23 (.tmp 0) (cb pin) ?_ ?_ ?_ ?_
         · rfl
         · rfl
         · rfl
         intro g2 y1 nn
         replace HV : Hid (Reads y1 (.slice ad n cp) b) := HV.out.below nn.below
         replace HBW : Hid (Below w.heap.size w y1) := HBW.out.trans (nn.below.mono HBW.out.size)
         have H2 : Hid (Blk y1 g2 (cb pin) 23) := nn.blk
         clear nn
         skip)
      | (clear tk1; go_at_call 13; refine (HR1.out y1 HBW.out).mono ?_; rintro e y2 ⟨c1, rfl, hev, hbz⟩
         replace H2 : Hid (Blk y2 g2 (cb pin) 23) := H2.out.below hbz H2.out.lt
         replace HV : Hid (Reads y2 (.slice ad n cp) b) := HV.out.below hbz
         replace HBW : Hid (Below w.heap.size w y2) := HBW.out.trans (hbz.mono HBW.out.size)
         have HE1 : Hid (EvOk e c1) := hev.ok
         have HB1 : Hid (EvB y2 e c1) := hev
         clear hbz hev)
      | (clear tk2; with_reducible refine wpSeq_allocE ?_ ?_ ?_
         · rfl
         · rfl
         intro g5 y3 nn)
      | (clear tk3; with_reducible refine wpSeq_storeRow 32 (.tmp 5) (.tmp 17) g5 (evC zeroE (.slice none 0 0) (.slice none 0 0) (.slice none 0 0)) c1 ?_ ?_ ?_ ?_ ?_ ?_ ?_ ?_ ?_
         · exact nn.blk
         · exact HE1.out.lz
         · exact HE1.out.info
         · exact HE1.out.one
         · rfl
         · rfl
         · rfl
         · rfl
         intro y4 hs
         have hbz := nn.below.trans (hs.only.below nn.ge nn.below.size)
         replace H2 : Hid (Blk y4 g2 (cb pin) 23) := H2.out.below hbz H2.out.lt
         replace HV : Hid (Reads y4 (.slice ad n cp) b) := HV.out.below hbz
         replace HB1 : Hid (EvB y4 e c1) := HB1.out.below hbz
         replace HBW : Hid (Below w.heap.size w y4) := HBW.out.trans (hbz.mono HBW.out.size)
         have H5 : Hid (Blk y4 g5 c1 32) := hs.blk
         clear nn hs hbz)
      | (clear tk4; go_at_call 14; refine (HR2.out y4 HBW.out).mono ?_; rintro e y5 ⟨c2, rfl, hev, hbz⟩
         replace H2 : Hid (Blk y5 g2 (cb pin) 23) := H2.out.below hbz H2.out.lt
         replace H5 : Hid (Blk y5 g5 c1 32) := H5.out.below hbz H5.out.lt
         replace HV : Hid (Reads y5 (.slice ad n cp) b) := HV.out.below hbz
         replace HB1 : Hid (EvB y5 e c1) := HB1.out.below hbz
         replace HBW : Hid (Below w.heap.size w y5) := HBW.out.trans (hbz.mono HBW.out.size)
         have HE2 : Hid (EvOk e c2) := hev.ok
         have HB2 : Hid (EvB y5 e c2) := hev
         clear hbz hev)
      | (clear tk5; with_reducible refine wpSeq_allocE ?_ ?_ ?_
         · rfl
         · rfl
         intro g7 y6 nn)
      | (clear tk6; with_reducible refine wpSeq_storeRow 32 (.tmp 7) (.tmp 22) g7 (evC zeroE (.slice none 0 0) (.slice none 0 0) (.slice none 0 0)) c2 ?_ ?_ ?_ ?_ ?_ ?_ ?_ ?_ ?_
         · exact nn.blk
         · exact HE2.out.lz
         · exact HE2.out.info
         · exact HE2.out.one
         · rfl
         · rfl
         · rfl
         · rfl
         intro y7 hs
         have hbz := nn.below.trans (hs.only.below nn.ge nn.below.size)
         replace H2 : Hid (Blk y7 g2 (cb pin) 23) := H2.out.below hbz H2.out.lt
         replace H5 : Hid (Blk y7 g5 c1 32) := H5.out.below hbz H5.out.lt
         replace HV : Hid (Reads y7 (.slice ad n cp) b) := HV.out.below hbz
         replace HB1 : Hid (EvB y7 e c1) := HB1.out.below hbz
         replace HB2 : Hid (EvB y7 e c2) := HB2.out.below hbz
         replace HBW : Hid (Below w.heap.size w y7) := HBW.out.trans (hbz.mono HBW.out.size)
         have H7 : Hid (Blk y7 g7 c2 32) := hs.blk
         clear nn hs hbz)
      | (clear tk7; with_reducible refine wpSeq_loadW 32 (.tmp 5) g5 0 c1 _ ?_ Tryd.underlying32 rfl ?_ ?_ ?_ ?_ ?_
         · exact H5.out.range
         · exact HE1.out.info
         · rfl
         · rfl
         · rfl)
      | (clear tk8; with_reducible refine wpSeq_loadW 32 (.tmp 7) g7 0 c2 _ ?_ Tryd.underlying32 rfl ?_ ?_ ?_ ?_ ?_
         · exact H7.out.range
         · exact HE2.out.info
         · rfl
         · rfl
         · rfl)
      | (clear tk9; go_at_call 15; refine (HQS.out y7 c1 c2 HB1.out HB2.out).mono ?_; rintro e y8 ⟨rfl, hbz⟩
         replace H2 : Hid (Blk y8 g2 (cb pin) 23) := H2.out.below hbz H2.out.lt
         replace H5 : Hid (Blk y8 g5 c1 32) := H5.out.below hbz H5.out.lt
         replace H7 : Hid (Blk y8 g7 c2 32) := H7.out.below hbz H7.out.lt
         replace HV : Hid (Reads y8 (.slice ad n cp) b) := HV.out.below hbz
         replace HB1 : Hid (EvB y8 e c1) := HB1.out.below hbz
         replace HB2 : Hid (EvB y8 e c2) := HB2.out.below hbz
         replace HBW : Hid (Below w.heap.size w y8) := HBW.out.trans (hbz.mono HBW.out.size)
         clear hbz )
      | (clear tk10; with_reducible refine wpSeq_loadW 23 (.tmp 2) g2 0 (cb pin) _ ?_ Tryd.underlying23 rfl ?_ ?_ ?_ ?_ ?_
         · exact H2.out.range
         · exact HIP.out
         · rfl
         · rfl
         · rfl)
      | (clear tk11; go_at_call 16; refine (HAC.out y8 HBW.out).mono ?_; rintro e y9 ⟨rfl, hbz⟩
         replace H2 : Hid (Blk y9 g2 (cb pin) 23) := H2.out.below hbz H2.out.lt
         replace H5 : Hid (Blk y9 g5 c1 32) := H5.out.below hbz H5.out.lt
         replace H7 : Hid (Blk y9 g7 c2 32) := H7.out.below hbz H7.out.lt
         replace HV : Hid (Reads y9 (.slice ad n cp) b) := HV.out.below hbz
         replace HB1 : Hid (EvB y9 e c1) := HB1.out.below hbz
         replace HB2 : Hid (EvB y9 e c2) := HB2.out.below hbz
         replace HBW : Hid (Below w.heap.size w y9) := HBW.out.trans (hbz.mono HBW.out.size)
         clear hbz )
      | (clear tk12; with_reducible refine wpSeq_loadW 23 (.tmp 2) g2 0 (cb pin) _ ?_ Tryd.underlying23 rfl ?_ ?_ ?_ ?_ ?_
         · exact H2.out.range
         · exact HIP.out
         · rfl
         · rfl
         · rfl)
      | (clear tk13; with_reducible refine wpSeq_loadW 32 (.tmp 7) g7 0 c2 _ ?_ Tryd.underlying32 rfl ?_ ?_ ?_ ?_ ?_
         · exact H7.out.range
         · exact HE2.out.info
         · rfl
         · rfl
         · rfl)
      | (clear tk14; go_at_call 12; refine (HQC.out y9 c2 HB2.out).mono ?_; rintro e y10 ⟨rfl, hbz⟩
         replace H2 : Hid (Blk y10 g2 (cb pin) 23) := H2.out.below hbz H2.out.lt
         replace H5 : Hid (Blk y10 g5 c1 32) := H5.out.below hbz H5.out.lt
         replace H7 : Hid (Blk y10 g7 c2 32) := H7.out.below hbz H7.out.lt
         replace HV : Hid (Reads y10 (.slice ad n cp) b) := HV.out.below hbz
         replace HB1 : Hid (EvB y10 e c1) := HB1.out.below hbz
         replace HB2 : Hid (EvB y10 e c2) := HB2.out.below hbz
         replace HBW : Hid (Below w.heap.size w y10) := HBW.out.trans (hbz.mono HBW.out.size)
         clear hbz )
      | (clear tk15; with_reducible refine wpSeq_loadW 32 (.tmp 5) g5 0 c1 _ ?_ Tryd.underlying32 rfl ?_ ?_ ?_ ?_ ?_
         · exact H5.out.range
         · exact HE1.out.info
         · rfl
         · rfl
         · rfl)
      | (clear tk16; go_at_call 18; refine (HBY.out y10 c1 HBW.out HB1.out).mono ?_; rintro e y11 ⟨vb, rfl, hvb, hbz⟩
         replace H2 : Hid (Blk y11 g2 (cb pin) 23) := H2.out.below hbz H2.out.lt
         replace H5 : Hid (Blk y11 g5 c1 32) := H5.out.below hbz H5.out.lt
         replace H7 : Hid (Blk y11 g7 c2 32) := H7.out.below hbz H7.out.lt
         replace HV : Hid (Reads y11 (.slice ad n cp) b) := HV.out.below hbz
         replace HB1 : Hid (EvB y11 e c1) := HB1.out.below hbz
         replace HB2 : Hid (EvB y11 e c2) := HB2.out.below hbz
         replace HBW : Hid (Below w.heap.size w y11) := HBW.out.trans (hbz.mono HBW.out.size)
         have HVB : Hid (Reads y11 vb b) := hvb
         clear hbz hvb)
      | (clear tk17; go_at_call 17; refine (HSM.out y11 _ _ HVB.out HV.out).mono ?_; rintro e y12 ⟨rfl, hbz⟩
         clear HVB
         replace H2 : Hid (Blk y12 g2 (cb pin) 23) := H2.out.below hbz H2.out.lt
         replace H5 : Hid (Blk y12 g5 c1 32) := H5.out.below hbz H5.out.lt
         replace H7 : Hid (Blk y12 g7 c2 32) := H7.out.below hbz H7.out.lt
         replace HV : Hid (Reads y12 (.slice ad n cp) b) := HV.out.below hbz
         replace HB1 : Hid (EvB y12 e c1) := HB1.out.below hbz
         replace HB2 : Hid (EvB y12 e c2) := HB2.out.below hbz
         replace HBW : Hid (Below w.heap.size w y12) := HBW.out.trans (hbz.mono HBW.out.size)
         clear hbz )
      | (clear tk18; go_at_call 10; refine (HW.out y12 HBW.out).mono ?_; rintro e y13 ⟨rfl, hbz⟩
         replace H2 : Hid (Blk y13 g2 (cb pin) 23) := H2.out.below hbz H2.out.lt
         replace H5 : Hid (Blk y13 g5 c1 32) := H5.out.below hbz H5.out.lt
         replace H7 : Hid (Blk y13 g7 c2 32) := H7.out.below hbz H7.out.lt
         replace HV : Hid (Reads y13 (.slice ad n cp) b) := HV.out.below hbz
         replace HB1 : Hid (EvB y13 e c1) := HB1.out.below hbz
         replace HB2 : Hid (EvB y13 e c2) := HB2.out.below hbz
         replace HBW : Hid (Below w.heap.size w y13) := HBW.out.trans (hbz.mono HBW.out.size)
         clear hbz ))
    go_ret
    exact ⟨rfl, HBW.out⟩
end Go.Proofs.YtableajopaappaaDoor
/- The walk of the reference's Find (layer 12). -/
namespace Go.Proofs.YtableajopaappaaDoor
open Go.RowKit Go.Shelf
set_option maxRecDepth 100000
structure FdI (w : World) (g : Nat) (pin : Bs) (W : World) : Prop where
  pn : Blk W g (cb pin) 23
  bel : Below w.heap.size w W
theorem FdI.next {w : World} {g : Nat} {pin : Bs} {W W' : World} (h : FdI w g pin W) (hb : Below W.heap.size W W') : FdI w g pin W' := ⟨h.pn.below hb h.pn.lt, h.bel.trans (hb.mono h.bel.size)⟩
theorem FdI.drew {w : World} {g : Nat} {pin : Bs} {W : World} (h : FdI w g pin W) : FdI w g pin W.drew := h.next (Below.refl _ _).drew
theorem drop_at {l : List SgT} {k : Nat} (hk : k < l.length) : l.drop k = l.getD k zeroS :: l.drop (k + 1) := by
  have hg : l.getD k zeroS = l[k]'hk := by rw [List.getD_eq_getElem?_getD, List.getElem?_eq_getElem hk]; rfl
  rw [hg, List.getElem_cons_drop]
theorem firstU_same {l m : List SgT} {k : Nat} (hl : k < l.length) (hm : k < m.length) (h : firstU l m = (firstU (l.drop k) (m.drop k)).map (· + k)) (hs : (l.getD k zeroS).1 = (m.getD k zeroS).1) : firstU l m = (firstU (l.drop (k + 1)) (m.drop (k + 1))).map (· + (k + 1)) := by
  rw [h, drop_at hl, drop_at hm, firstU, if_pos hs, Option.map_map]
  congr 1
  funext x
  show x + 1 + k = x + (k + 1)
  omega
theorem firstU_unlike {l m : List SgT} {k : Nat} (hl : k < l.length) (hm : k < m.length) (h : firstU l m = (firstU (l.drop k) (m.drop k)).map (· + k)) (hs : (l.getD k zeroS).1 ≠ (m.getD k zeroS).1) : firstU l m = some k := by
  rw [h, drop_at hl, drop_at hm, firstU, if_neg hs]
  simp
theorem firstU_end {l m : List SgT} {k : Nat} (hk : l.length ≤ k ∨ m.length ≤ k) (h : firstU l m = (firstU (l.drop k) (m.drop k)).map (· + k)) : firstU l m = none := by
  rw [h]
  rcases hk with hk | hk
  · rw [List.drop_eq_nil_of_le hk]; cases m.drop k <;> rfl
  · rw [List.drop_eq_nil_of_le hk]; cases l.drop k <;> rfl
end Go.Proofs.YtableajopaappaaDoor
/- The walks of fork's firstUnlike and Find; what fork's functions do (layer 12). -/
namespace Go.Proofs.YtableajopaappaaDoor
open Go.RowKit Go.Shelf
set_option maxRecDepth 100000
/-- the place that is told -/
def unlikeN (l m : List SgT) : Nat := (firstU l m).getD (min l.length m.length)
set_option maxRecDepth 100000 in
set_option maxHeartbeats 8000000 in
theorem fkUnlike_any (vl vm : Value) (l m : List SgT) (w : World) (hl : ReadsS w vl l) (hm : ReadsS w vm m) (hll : l.length < 1000000) :
    Calls Tryd.prog 43 #[vl, vm] w fun r w' => r = .returned (.int .i64 (unlikeN l m : Int)) ∧ Below w.heap.size w w' := by
  obtain ⟨adl, cl, hvl⟩ := hl.form
  obtain ⟨adm, cm, hvm⟩ := hm.form
  obtain ⟨nl, HNL⟩ : ∃ n, Hid (n = l.length) := ⟨_, rfl⟩
  obtain ⟨nm, HNM⟩ : ∃ n, Hid (n = m.length) := ⟨_, rfl⟩
  obtain ⟨n, HNN⟩ : ∃ n, Hid (n = min nl nm) := ⟨_, rfl⟩
  rw [← HNL.out] at hvl
  rw [← HNM.out] at hvm
  subst hvl hvm
  have HRL : Hid (ReadsS w (.slice adl nl cl) l) := hl
  have HRM : Hid (ReadsS w (.slice adm nm cm) m) := hm
  have HLL : Hid (nl < 1000000) := by show _ < _; rw [HNL.out]; exact hll
  obtain ⟨Z, HZZ⟩ : ∃ z, Hid (z = (unlikeN l m : Int)) := ⟨_, rfl⟩
  rw [← HZZ.out]
  have HBW : Hid (Below w.heap.size w w) := Below.refl _ _
  have HNB : Hid (n ≤ nl ∧ n ≤ nm) := by rw [HNN.out]; exact ⟨Nat.min_le_left _ _, Nat.min_le_right _ _⟩
  clear hl hm hll
  go_enter Tryd.func43, Tryd.ntmps43
  have tk0 : Hid True := trivial
  go_wp2_with (first
    | (clear tk0; with_reducible refine wpSeq_min12 (.tmp 8) (.tmp 10) nl nm n HNN.out ?_ ?_ ?_ ?_ ?_
       · rfl
       · rfl
       · rfl
       · rfl))
  have HI0 : Hid (Below w.heap.size w w) := HBW.out
  clear HBW
  go_loopw [13] (fun i wr => ∃ (k : Nat), k ≤ n ∧ i = .int .i64 (k : Int) ∧ Hid (firstU l m = (firstU (l.drop k) (m.drop k)).map (· + k)) ∧ Hid (Below w.heap.size w wr)) (fun i _ => n - (intOf i).toNat)
  case atStart => exact ⟨0, by omega, rfl, (by show _ = _; simp), HI0⟩
  case round =>
    obtain ⟨k, hkn, rfl, HFU, HBW⟩ := hrel
    clear HI0
    by_cases hlt : k < n
    case neg =>
      have hlk : ¬ ((k : Int) < (n : Int)) := by omega
      have HZ : Hid (Z = (n : Int)) := by
        show _ = _
        have h0 : firstU l m = none := firstU_end (k := k) (by
          rw [← HNL.out, ← HNM.out]
          have h := HNN.out
          omega) HFU.out
        rw [HZZ.out, unlikeN, h0, HNN.out, HNL.out, HNM.out]
        rfl
      go_wp2
      go_ret
      exact ⟨by rw [HZ.out]; rfl, HBW.out⟩
    have hlk : (k : Int) < (n : Int) := by omega
    have f5 : IntKind.i64.wrap ((k : Int) + 1) = (k : Int) + 1 := by rw [IntKind.wrap_i64]; have h1 := HLL.out; have h2 := HNB.out.1; omega
    have HKL : Hid (k < nl ∧ k < nm) := by have h1 := HNB.out; exact ⟨by omega, by omega⟩
    have HL1 : Hid (k < l.length) := by show _ < _; rw [← HNL.out]; exact HKL.out.1
    have HL2 : Hid (k < m.length) := by show _ < _; rw [← HNM.out]; exact HKL.out.2
    obtain ⟨b1, o1, c1, hv1, hat1⟩ := HRL.out.at (Nat.lt_of_le_of_lt (Nat.zero_le _) HL1.out)
    obtain ⟨b2, o2, c2, hv2, hat2⟩ := HRM.out.at (Nat.lt_of_le_of_lt (Nat.zero_le _) HL2.out)
    simp only [Value.slice.injEq] at hv1 hv2
    obtain ⟨rfl, hn1, rfl⟩ := hv1
    obtain ⟨rfl, hn2, rfl⟩ := hv2
    clear hn1 hn2
    obtain ⟨v1, hs1, hr1⟩ := hat1 k HL1.out
    obtain ⟨v2, hs2, hr2⟩ := hat2 k HL2.out
    obtain ⟨s, HS⟩ : ∃ s, Hid (s = l.getD k zeroS) := ⟨_, rfl⟩
    obtain ⟨t, HT⟩ : ∃ t, Hid (t = m.getD k zeroS) := ⟨_, rfl⟩
    rw [← HS.out] at hs1 hr1
    rw [← HT.out] at hs2 hr2
    obtain ⟨rt1, HRT1⟩ : ∃ c, Hid (c = rtC s) := ⟨_, rfl⟩
    obtain ⟨rt2, HRT2⟩ : ∃ c, Hid (c = rtC t) := ⟨_, rfl⟩
    have HT1 : Hid (∀ W : World, Below w.heap.size w W → W.rangeAt b1 (o1 + k * 98) rt1) := fun W hh => by rw [HRT1.out]; exact (hs1.below hh (Nat.le_refl _)).root
    have HT2 : Hid (∀ W : World, Below w.heap.size w W → W.rangeAt b2 (o2 + k * 98) rt2) := fun W hh => by rw [HRT2.out]; exact (hs2.below hh (Nat.le_refl _)).root
    have HJ1 : Hid ((Tryd.prog.info? 27).map (·.size) = some rt1.length) := by show _ = _; rw [HRT1.out]; exact info_rtC hs1.ok
    have HJ2 : Hid ((Tryd.prog.info? 27).map (·.size) = some rt2.length) := by show _ = _; rw [HRT2.out]; exact info_rtC hs2.ok
    obtain ⟨r, HRK⟩ : ∃ r, Hid (r = decide (s.1 = t.1)) := ⟨_, rfl⟩
    have heq : ∀ wx : World, (Op.equalIn 10000 27 (.agg rt1.toArray) (.agg rt2.toArray)).run Tryd.prog wx = .ok r wx := fun wx => by rw [HRT1.out, HRT2.out, HRK.out]; exact eq_rt _ _ hs1.ok hs2.ok wx
    cases r with
    | true =>
      have HF2 : Hid (firstU l m = (firstU (l.drop (k + 1)) (m.drop (k + 1))).map (· + (k + 1))) := firstU_same HL1.out HL2.out HFU.out (by rw [← HS.out, ← HT.out]; exact of_decide_eq_true HRK.out.symm)
      clear hat1 hat2 hs1 hs2 hr1 hr2 HRT1 HRT2
      go_wp2
      refine wp_region_held_drew (S := Over (World.drew wr)) (by kernel_rfl) (Over.refl _) ?_
      intro hS
      replace HBW : Hid (Below w.heap.size w (World.drew wr)) := HBW.out.drew
      change wpAnyH _ _ _ _ _ _ _ _ (World.drew wr)
      generalize World.drew wr = y0 at *
      try simp only [Act.put, List.setIfInBounds_toArray, List.set_cons_zero, List.set_cons_succ]
      refine wpAnyH_take (i := 0) (v := .slice (some ⟨b1, o1, none⟩) nl cl) rfl (by kernel_rfl) (by kernel_rfl) (by kernel_rfl) (fun _ _ _ h => h) (Or.inl ⟨by rfl, fun wx hx => by simp [go_sem]⟩) hS ?_
      simp only [Act.put, List.getElem_toArray, List.getElem_cons_zero, List.setIfInBounds_toArray, List.set_cons_zero, List.set_cons_succ]
      refine wpAnyH_take (i := 1) (v := .int .i64 (k : Int)) rfl (by kernel_rfl) (by kernel_rfl) (by kernel_rfl) (fun _ _ _ h => h) (Or.inl ⟨by rfl, fun wx hx => by simp [go_sem]⟩) hS ?_
      simp only [Act.put, List.getElem_toArray, List.getElem_cons_succ, List.getElem_cons_zero, List.setIfInBounds_toArray, List.set_cons_zero, List.set_cons_succ]
      refine wpAnyH_take (i := 2) (v := .pointer (some ⟨b1, o1 + k * 98, none⟩)) rfl (by kernel_rfl) (by kernel_rfl) (by kernel_rfl) (fun _ _ _ h => h) (Or.inl ⟨by rfl, fun wx hx => by exact idx98 b1 o1 cl nl k HKL.out.1 _ _ _ _ rfl rfl rfl _⟩) hS ?_
      simp only [Act.put, List.getElem_toArray, List.getElem_cons_succ, List.getElem_cons_zero, List.setIfInBounds_toArray, List.set_cons_zero, List.set_cons_succ]
      refine wpAnyH_take (i := 3) (v := .pointer (some ⟨b1, o1 + k * 98, none⟩)) rfl (by kernel_rfl) (by kernel_rfl) (by kernel_rfl) (fun _ _ _ h => h) (Or.inl ⟨by rfl, fun wx hx => by simp [go_sem]⟩) hS ?_
      simp only [Act.put, List.getElem_toArray, List.getElem_cons_succ, List.getElem_cons_zero, List.setIfInBounds_toArray, List.set_cons_zero, List.set_cons_succ]
      refine wpAnyH_take (i := 4) (v := .agg rt1.toArray) rfl (by kernel_rfl) (by kernel_rfl) (by kernel_rfl) (fun _ _ _ h => h) (Or.inl ⟨by rfl, fun wx hx => by exact load_run 27 _ rfl b1 (o1 + k * 98) rfl rt1 _ (HT1.out _ (HBW.out.trans (Below.mono hx HBW.out.size))) Tryd.underlying27 rfl HJ1.out⟩) hS ?_
      simp only [Act.put, List.getElem_toArray, List.getElem_cons_succ, List.getElem_cons_zero, List.setIfInBounds_toArray, List.set_cons_zero, List.set_cons_succ]
      refine wpAnyH_take (i := 5) (v := .slice (some ⟨b2, o2, none⟩) nm cm) rfl (by kernel_rfl) (by kernel_rfl) (by kernel_rfl) (fun _ _ _ h => h) (Or.inl ⟨by rfl, fun wx hx => by simp [go_sem]⟩) hS ?_
      simp only [Act.put, List.getElem_toArray, List.getElem_cons_succ, List.getElem_cons_zero, List.setIfInBounds_toArray, List.set_cons_zero, List.set_cons_succ]
      refine wpAnyH_take (i := 6) (v := .int .i64 (k : Int)) rfl (by kernel_rfl) (by kernel_rfl) (by kernel_rfl) (fun _ _ _ h => h) (Or.inl ⟨by rfl, fun wx hx => by simp [go_sem]⟩) hS ?_
      simp only [Act.put, List.getElem_toArray, List.getElem_cons_succ, List.getElem_cons_zero, List.setIfInBounds_toArray, List.set_cons_zero, List.set_cons_succ]
      refine wpAnyH_take (i := 7) (v := .pointer (some ⟨b2, o2 + k * 98, none⟩)) rfl (by kernel_rfl) (by kernel_rfl) (by kernel_rfl) (fun _ _ _ h => h) (Or.inl ⟨by rfl, fun wx hx => by exact idx98 b2 o2 cm nm k HKL.out.2 _ _ _ _ rfl rfl rfl _⟩) hS ?_
      simp only [Act.put, List.getElem_toArray, List.getElem_cons_succ, List.getElem_cons_zero, List.setIfInBounds_toArray, List.set_cons_zero, List.set_cons_succ]
      refine wpAnyH_take (i := 8) (v := .pointer (some ⟨b2, o2 + k * 98, none⟩)) rfl (by kernel_rfl) (by kernel_rfl) (by kernel_rfl) (fun _ _ _ h => h) (Or.inl ⟨by rfl, fun wx hx => by simp [go_sem]⟩) hS ?_
      simp only [Act.put, List.getElem_toArray, List.getElem_cons_succ, List.getElem_cons_zero, List.setIfInBounds_toArray, List.set_cons_zero, List.set_cons_succ]
      refine wpAnyH_take (i := 9) (v := .agg rt2.toArray) rfl (by kernel_rfl) (by kernel_rfl) (by kernel_rfl) (fun _ _ _ h => h) (Or.inl ⟨by rfl, fun wx hx => by exact load_run 27 _ rfl b2 (o2 + k * 98) rfl rt2 _ (HT2.out _ (HBW.out.trans (Below.mono hx HBW.out.size))) Tryd.underlying27 rfl HJ2.out⟩) hS ?_
      simp only [Act.put, List.getElem_toArray, List.getElem_cons_succ, List.getElem_cons_zero, List.setIfInBounds_toArray, List.set_cons_zero, List.set_cons_succ]
      refine wpAnyH_take (i := 10) (v := .bool false) rfl (by kernel_rfl) (by kernel_rfl) (by kernel_rfl) (fun _ _ _ h => h) (Or.inl ⟨by rfl, fun wx hx => by simp [go_sem, heq]⟩) hS ?_
      simp only [Act.put, List.getElem_toArray, List.getElem_cons_succ, List.getElem_cons_zero, List.setIfInBounds_toArray, List.set_cons_zero, List.set_cons_succ]
      refine wpAnyH_done (by kernel_rfl) ?_ _
      go_wp2
      go_roundw
      case rel => exact ⟨k + 1, by omega, by simp, HF2, HBW.out.trans (Below.mono hS HBW.out.size)⟩
      case measure => simp [intOf]; omega
    | false =>
      have HZ : Hid (Z = (k : Int)) := by
        show _ = _
        rw [HZZ.out, unlikeN, firstU_unlike HL1.out HL2.out HFU.out (by rw [← HS.out, ← HT.out]; exact of_decide_eq_false HRK.out.symm)]
        rfl
      clear hat1 hat2 hs1 hs2 hr1 hr2 HRT1 HRT2
      go_wp2
      refine wp_region_held_drew (S := Over (World.drew wr)) (by kernel_rfl) (Over.refl _) ?_
      intro hS
      replace HBW : Hid (Below w.heap.size w (World.drew wr)) := HBW.out.drew
      change wpAnyH _ _ _ _ _ _ _ _ (World.drew wr)
      generalize World.drew wr = y0 at *
      try simp only [Act.put, List.setIfInBounds_toArray, List.set_cons_zero, List.set_cons_succ]
      refine wpAnyH_take (i := 0) (v := .slice (some ⟨b1, o1, none⟩) nl cl) rfl (by kernel_rfl) (by kernel_rfl) (by kernel_rfl) (fun _ _ _ h => h) (Or.inl ⟨by rfl, fun wx hx => by simp [go_sem]⟩) hS ?_
      simp only [Act.put, List.getElem_toArray, List.getElem_cons_zero, List.setIfInBounds_toArray, List.set_cons_zero, List.set_cons_succ]
      refine wpAnyH_take (i := 1) (v := .int .i64 (k : Int)) rfl (by kernel_rfl) (by kernel_rfl) (by kernel_rfl) (fun _ _ _ h => h) (Or.inl ⟨by rfl, fun wx hx => by simp [go_sem]⟩) hS ?_
      simp only [Act.put, List.getElem_toArray, List.getElem_cons_succ, List.getElem_cons_zero, List.setIfInBounds_toArray, List.set_cons_zero, List.set_cons_succ]
      refine wpAnyH_take (i := 2) (v := .pointer (some ⟨b1, o1 + k * 98, none⟩)) rfl (by kernel_rfl) (by kernel_rfl) (by kernel_rfl) (fun _ _ _ h => h) (Or.inl ⟨by rfl, fun wx hx => by exact idx98 b1 o1 cl nl k HKL.out.1 _ _ _ _ rfl rfl rfl _⟩) hS ?_
      simp only [Act.put, List.getElem_toArray, List.getElem_cons_succ, List.getElem_cons_zero, List.setIfInBounds_toArray, List.set_cons_zero, List.set_cons_succ]
      refine wpAnyH_take (i := 3) (v := .pointer (some ⟨b1, o1 + k * 98, none⟩)) rfl (by kernel_rfl) (by kernel_rfl) (by kernel_rfl) (fun _ _ _ h => h) (Or.inl ⟨by rfl, fun wx hx => by simp [go_sem]⟩) hS ?_
      simp only [Act.put, List.getElem_toArray, List.getElem_cons_succ, List.getElem_cons_zero, List.setIfInBounds_toArray, List.set_cons_zero, List.set_cons_succ]
      refine wpAnyH_take (i := 4) (v := .agg rt1.toArray) rfl (by kernel_rfl) (by kernel_rfl) (by kernel_rfl) (fun _ _ _ h => h) (Or.inl ⟨by rfl, fun wx hx => by exact load_run 27 _ rfl b1 (o1 + k * 98) rfl rt1 _ (HT1.out _ (HBW.out.trans (Below.mono hx HBW.out.size))) Tryd.underlying27 rfl HJ1.out⟩) hS ?_
      simp only [Act.put, List.getElem_toArray, List.getElem_cons_succ, List.getElem_cons_zero, List.setIfInBounds_toArray, List.set_cons_zero, List.set_cons_succ]
      refine wpAnyH_take (i := 5) (v := .slice (some ⟨b2, o2, none⟩) nm cm) rfl (by kernel_rfl) (by kernel_rfl) (by kernel_rfl) (fun _ _ _ h => h) (Or.inl ⟨by rfl, fun wx hx => by simp [go_sem]⟩) hS ?_
      simp only [Act.put, List.getElem_toArray, List.getElem_cons_succ, List.getElem_cons_zero, List.setIfInBounds_toArray, List.set_cons_zero, List.set_cons_succ]
      refine wpAnyH_take (i := 6) (v := .int .i64 (k : Int)) rfl (by kernel_rfl) (by kernel_rfl) (by kernel_rfl) (fun _ _ _ h => h) (Or.inl ⟨by rfl, fun wx hx => by simp [go_sem]⟩) hS ?_
      simp only [Act.put, List.getElem_toArray, List.getElem_cons_succ, List.getElem_cons_zero, List.setIfInBounds_toArray, List.set_cons_zero, List.set_cons_succ]
      refine wpAnyH_take (i := 7) (v := .pointer (some ⟨b2, o2 + k * 98, none⟩)) rfl (by kernel_rfl) (by kernel_rfl) (by kernel_rfl) (fun _ _ _ h => h) (Or.inl ⟨by rfl, fun wx hx => by exact idx98 b2 o2 cm nm k HKL.out.2 _ _ _ _ rfl rfl rfl _⟩) hS ?_
      simp only [Act.put, List.getElem_toArray, List.getElem_cons_succ, List.getElem_cons_zero, List.setIfInBounds_toArray, List.set_cons_zero, List.set_cons_succ]
      refine wpAnyH_take (i := 8) (v := .pointer (some ⟨b2, o2 + k * 98, none⟩)) rfl (by kernel_rfl) (by kernel_rfl) (by kernel_rfl) (fun _ _ _ h => h) (Or.inl ⟨by rfl, fun wx hx => by simp [go_sem]⟩) hS ?_
      simp only [Act.put, List.getElem_toArray, List.getElem_cons_succ, List.getElem_cons_zero, List.setIfInBounds_toArray, List.set_cons_zero, List.set_cons_succ]
      refine wpAnyH_take (i := 9) (v := .agg rt2.toArray) rfl (by kernel_rfl) (by kernel_rfl) (by kernel_rfl) (fun _ _ _ h => h) (Or.inl ⟨by rfl, fun wx hx => by exact load_run 27 _ rfl b2 (o2 + k * 98) rfl rt2 _ (HT2.out _ (HBW.out.trans (Below.mono hx HBW.out.size))) Tryd.underlying27 rfl HJ2.out⟩) hS ?_
      simp only [Act.put, List.getElem_toArray, List.getElem_cons_succ, List.getElem_cons_zero, List.setIfInBounds_toArray, List.set_cons_zero, List.set_cons_succ]
      refine wpAnyH_take (i := 10) (v := .bool true) rfl (by kernel_rfl) (by kernel_rfl) (by kernel_rfl) (fun _ _ _ h => h) (Or.inl ⟨by rfl, fun wx hx => by simp [go_sem, heq]⟩) hS ?_
      simp only [Act.put, List.getElem_toArray, List.getElem_cons_succ, List.getElem_cons_zero, List.setIfInBounds_toArray, List.set_cons_zero, List.set_cons_succ]
      refine wpAnyH_done (by kernel_rfl) ?_ _
      go_wp2
      go_ret
      exact ⟨by rw [HZ.out]; rfl, HBW.out.trans (Below.mono hS HBW.out.size)⟩
set_option maxRecDepth 100000 in
set_option maxHeartbeats 8000000 in
theorem fkFind_any (pin : Bs) (vl vm : Value) (l m : List SgT) (w : World) (hK : KOk w) (hp : pin.length = 32) (hl : ReadsS w vl l) (hm : ReadsS w vm m) (hl40 : l.length ≤ 40) (_ : m.length ≤ 40) (hzl : ∀ s ∈ l, s.2.length ≤ 524288) (hzm : ∀ s ∈ m, s.2.length ≤ 524288) :
    Calls Tryd.prog 21 #[.agg (cb pin).toArray, vl, vm] w fun r w' => ∃ cs, r = .returned (.tuple #[.agg (cs : List Value).toArray, .bool (findF pin l m).isSome]) ∧ EvB w' (findE pin l m) cs ∧ Below w.heap.size w w' := by
  obtain ⟨adl, cl, hvl⟩ := hl.form
  obtain ⟨adm, cm, hvm⟩ := hm.form
  obtain ⟨nl, HNL⟩ : ∃ n, Hid (n = l.length) := ⟨_, rfl⟩
  obtain ⟨nm, HNM⟩ : ∃ n, Hid (n = m.length) := ⟨_, rfl⟩
  obtain ⟨n, HNN⟩ : ∃ n, Hid (n = min nl nm) := ⟨_, rfl⟩
  have hcl0 : ∀ k, k ≤ l.length → k ≤ cl := fun k hk => by
    obtain ⟨⟨ad', cap, hv, hc, _⟩, _⟩ := id hl
    rw [hvl] at hv
    simp only [Value.slice.injEq] at hv
    obtain ⟨_, _, rfl⟩ := hv
    omega
  rw [← HNL.out] at hvl
  rw [← HNM.out] at hvm
  subst hvl hvm
  have HRL : Hid (ReadsS w (.slice adl nl cl) l) := hl
  have HRM : Hid (ReadsS w (.slice adm nm cm) m) := hm
  have HCL : Hid (∀ k, k ≤ l.length → k ≤ cl) := hcl0
  have HPL : Hid (pin.length = 32) := hp
  have HIP : Hid ((Tryd.prog.info? 23).map (·.size) = some (cb pin).length) := by show _ = _; rw [cb_len, hp]; exact info_digest
  have HL40 : Hid (l.length ≤ 40) := hl40
  have HZL : Hid ((∀ s ∈ l, s.2.length ≤ 524288) ∧ ∀ s ∈ m, s.2.length ≤ 524288) := ⟨hzl, hzm⟩
  have HKW : Hid (∀ W : World, Below w.heap.size w W → KOk W) := fun W hh => hK.below hh hK.lt
  have HBW : Hid (Below w.heap.size w w) := Below.refl _ _
  obtain ⟨cz, HCZ⟩ : ∃ c, Hid (c = evC zeroE (.slice none 0 0) (.slice none 0 0) (.slice none 0 0)) := ⟨_, rfl⟩
  have HOZ : Hid (EvOk zeroE cz) := by rw [HCZ.out]; exact (EvB.zero w).ok
  have hcu : ∀ W : World, Below w.heap.size w W → Calls Tryd.prog 43 #[.slice adl nl cl, .slice adm nm cm] W fun r w' => r = .returned (.int .i64 (unlikeN l m : Int)) ∧ Below W.heap.size W w' := fun W hh => fkUnlike_any _ _ l m W (HRL.out.below hh) (HRM.out.below hh) (by omega)
  clear hl hm hp hK hl40 hzl hzm hcl0
  cases hfu : firstU l m with
  | none =>
    have HF0 : Hid (findF pin l m = none) := by show _ = _; rw [findF, hfu]
    have HFI : Hid ((findF pin l m).isSome = false) := by show _ = _; rw [HF0.out]; rfl
    have HFE : Hid (findE pin l m = zeroE) := by show _ = _; rw [findE, HF0.out]; rfl
    have HCU : Hid (∀ W : World, Below w.heap.size w W → Calls Tryd.prog 43 #[.slice adl nl cl, .slice adm nm cm] W fun r w' => r = .returned (.int .i64 (n : Int)) ∧ Below W.heap.size W w') := fun W hh => by
      have h := hcu W hh
      rw [unlikeN, hfu, ← HNL.out, ← HNM.out] at h
      rw [HNN.out]
      exact h
    clear hcu hfu
    go_enter Tryd.func21, Tryd.ntmps21
    have tk0 : Hid True := trivial
    have tk1 : Hid True := trivial
    have tk2 : Hid True := trivial
    have tk3 : Hid True := trivial
    have tk20 : Hid True := trivial
    have tk21 : Hid True := trivial
    go_wp2_with (first
      | (clear tk0; with_reducible refine wpSeq_boxW 23 (.tmp 0) (cb pin) ?_ ?_ ?_ ?_
         · rfl
         · rfl
         · rfl
         intro g3 y1 nn
         have HG3 : Hid (Blk y1 g3 (cb pin) 23) := nn.blk
         replace HBW : Hid (Below w.heap.size w y1) := nn.below
         clear nn)
      | (clear tk1; with_reducible refine wpSeq_allocE ?_ ?_ ?_
         · rfl
         · rfl
         intro g6 y2 nn
         have HG6 : Hid (w.heap.size ≤ g6) := Nat.le_trans HBW.out.size nn.ge
         have H6 : Hid (Blk y2 g6 cz 32) := by rw [HCZ.out]; exact nn.blk
         replace HG3 : Hid (Blk y2 g3 (cb pin) 23) := HG3.out.below nn.below HG3.out.lt
         replace HBW : Hid (Below w.heap.size w y2) := HBW.out.trans (nn.below.mono HBW.out.size)
         clear nn)
      | (clear tk2; go_at_call 43; refine (HCU.out y2 HBW.out).mono ?_; rintro e0 y3 ⟨rfl, hbz⟩
         replace HG3 : Hid (Blk y3 g3 (cb pin) 23) := HG3.out.below hbz HG3.out.lt
         replace H6 : Hid (Blk y3 g6 cz 32) := H6.out.below hbz H6.out.lt
         replace HBW : Hid (Below w.heap.size w y3) := HBW.out.trans (hbz.mono HBW.out.size)
         clear hbz)
      | (clear tk3; with_reducible refine wpSeq_min12 (.tmp 17) (.tmp 19) nl nm n HNN.out ?_ ?_ ?_ ?_ ?_
         · rfl
         · rfl
         · rfl
         · rfl)
      | (clear tk20; with_reducible refine wpSeq_build 32 [] cz ?_ ?_ ?_ ?_
         · exact (built_evid []).trans (by rw [HCZ.out]; rfl)
         · rfl
         · rfl)
      | (clear tk21; with_reducible refine wpSeq_storeRow 32 (.tmp 6) (.tmp 22) g6 cz cz ?_ ?_ ?_ ?_ ?_ ?_ ?_ ?_ ?_
         · exact H6.out
         · rfl
         · exact HOZ.out.info
         · exact HOZ.out.one
         · rfl
         · rfl
         · rfl
         · rfl
         intro y99 hs9))
    exact bodyPost_ret (results_row_tmp (by rfl) _ _ g6 _ rfl (var_evB hs9.blk HOZ.out)) rfl ⟨cz, by rw [HFI.out]; rfl, by rw [HFE.out, HCZ.out]; exact EvB.zero _, HBW.out.trans (hs9.only.below HG6.out HBW.out.size)⟩
  | some k =>
    obtain ⟨hk1, hk2, hne, hlike⟩ := firstU_some l m k hfu
    have HKL : Hid (k < nl ∧ k < nm) := by rw [HNL.out, HNM.out]; exact ⟨hk1, hk2⟩
    have HCU : Hid (∀ W : World, Below w.heap.size w W → Calls Tryd.prog 43 #[.slice adl nl cl, .slice adm nm cm] W fun r w' => r = .returned (.int .i64 (k : Int)) ∧ Below W.heap.size W w') := fun W hh => by
      have h := hcu W hh
      rw [unlikeN, hfu] at h
      exact h
    have qn : ((k : Int) == (n : Int)) = false := by
      rw [beq_eq_false_iff_ne]
      have h1 := HKL.out
      have h2 := HNN.out
      omega
    have HFU : Hid (firstU l m = some k) := hfu
    clear hcu hfu hk1 hk2 hne hlike
    have HL1 : Hid (k < l.length) := by show _ < _; rw [← HNL.out]; exact HKL.out.1
    have HL2 : Hid (k < m.length) := by show _ < _; rw [← HNM.out]; exact HKL.out.2
    obtain ⟨b1, o1, c1, hv1, hat1⟩ := HRL.out.at (Nat.lt_of_le_of_lt (Nat.zero_le _) HL1.out)
    obtain ⟨b2, o2, c2, hv2, hat2⟩ := HRM.out.at (Nat.lt_of_le_of_lt (Nat.zero_le _) HL2.out)
    simp only [Value.slice.injEq] at hv1 hv2
    obtain ⟨rfl, hn1, rfl⟩ := hv1
    obtain ⟨rfl, hn2, rfl⟩ := hv2
    clear hn1 hn2
    obtain ⟨v1, hs1, hr1⟩ := hat1 k HL1.out
    obtain ⟨v2, hs2, hr2⟩ := hat2 k HL2.out
    obtain ⟨s, HS⟩ : ∃ s, Hid (s = l.getD k zeroS) := ⟨_, rfl⟩
    obtain ⟨t, HT⟩ : ∃ t, Hid (t = m.getD k zeroS) := ⟨_, rfl⟩
    rw [← HS.out] at hs1 hr1
    rw [← HT.out] at hs2 hr2
    have HKC : Hid (k ≤ cl) := HCL.out k (Nat.le_of_lt HL1.out)
    obtain ⟨a1, n1, d1, hw1⟩ := hr1.form
    obtain ⟨a2, n2, d2, hw2⟩ := hr2.form
    subst hw1 hw2
    obtain ⟨ck1, HK1⟩ : ∃ c, Hid (c = sgC s (.slice a1 n1 d1)) := ⟨_, rfl⟩
    obtain ⟨ck2, HK2⟩ : ∃ c, Hid (c = sgC t (.slice a2 n2 d2)) := ⟨_, rfl⟩
    have HR1 : Hid (∀ W : World, Below w.heap.size w W → W.rangeAt b1 (o1 + k * 98) ck1) := fun W hh => by rw [HK1.out]; exact (hs1.below hh (Nat.le_refl _)).all
    have HR2 : Hid (∀ W : World, Below w.heap.size w W → W.rangeAt b2 (o2 + k * 98) ck2) := fun W hh => by rw [HK2.out]; exact (hs2.below hh (Nat.le_refl _)).all
    have HI1 : Hid ((Tryd.prog.info? 30).map (·.size) = some ck1.length) := by show _ = _; rw [HK1.out]; exact info_sgC hs1.ok _
    have HI2 : Hid ((Tryd.prog.info? 30).map (·.size) = some ck2.length) := by show _ = _; rw [HK2.out]; exact info_sgC hs2.ok _
    obtain ⟨e, HE⟩ : ∃ e, Hid (e = (l.take k, s, t)) := ⟨_, rfl⟩
    obtain ⟨ce, HCE⟩ : ∃ c, Hid (c = evC e (.slice (some ⟨b1, o1, none⟩) k cl) (.slice a1 n1 d1) (.slice a2 n2 d2)) := ⟨_, rfl⟩
    have HBE : Hid (∀ ps : List (Nat × Value), ps = [(0, .slice (some ⟨b1, o1, none⟩) k cl), (1, .agg ck1.toArray), (2, .agg ck2.toArray)] → Tryd.prog.built 32 ps = some ce.toArray) := fun ps hps => by subst hps; rw [HCE.out, HK1.out, HK2.out, HE.out]; exact (built_evid _).trans (fill_ev (e := (l.take k, s, t)) hs1.ok hs2.ok)
    have HEB : Hid (∀ W : World, Below w.heap.size w W → EvB W e ce) := fun W hh => by rw [HCE.out, HE.out]; exact EvIs.evB (e := (l.take k, s, t)) ⟨(HRL.out.below hh).take (Nat.le_of_lt HL1.out), hr1.below hh, hr2.below hh, hs1.ok, hs2.ok⟩
    have HOK : Hid (EvOk e ce) := (HEB.out w HBW.out).ok
    have HLE : Hid (e.1.length ≤ 40) := by rw [HE.out]; show (l.take k).length ≤ _; rw [List.length_take]; have := HL40.out; omega
    have HSA : Hid (∀ s ∈ allE e, okS s ∧ s.2.length ≤ 524288) := by
      rw [HE.out]
      intro x hx
      have ms : s ∈ l := by rw [HS.out, List.getD_eq_getElem?_getD, List.getElem?_eq_getElem HL1.out]; exact List.getElem_mem HL1.out
      have mt : t ∈ m := by rw [HT.out, List.getD_eq_getElem?_getD, List.getElem?_eq_getElem HL2.out]; exact List.getElem_mem HL2.out
      rcases List.mem_append.1 hx with hx | hx
      · exact ⟨HRL.out.2 x (List.mem_of_mem_take hx), HZL.out.1 x (List.mem_of_mem_take hx)⟩
      · rcases List.mem_cons.1 hx with rfl | hx
        · exact ⟨hs1.ok, HZL.out.1 _ ms⟩
        · rw [List.mem_singleton.1 hx]; exact ⟨hs2.ok, HZL.out.2 _ mt⟩
    have HFD : Hid (readF (bytesF e) = some e) := read_back (okB_light (by have := HLE.out; omega) HSA.out)
    obtain ⟨ck, HCK0⟩ : ∃ c, Hid (c = checkF pin e) := ⟨_, rfl⟩
    have HFF : Hid (findF pin l m = if ck = 0 then some e else none) := by show _ = _; rw [findF, HFU.out, HCK0.out, HE.out, HS.out, HT.out]
    have HCK : Hid (∀ W : World, Below w.heap.size w W → Calls Tryd.prog 11 #[.agg (cb pin).toArray, .agg ce.toArray] W fun r' w' => r' = .returned (.int .i64 ck) ∧ Below W.heap.size W w') := fun W hh => by rw [HCK0.out]; exact fkCheck_any pin e ce W (HKW.out W hh) HPL.out (HEB.out W hh) (by have := HLE.out; omega)
    have HCB : Hid (∀ W : World, Below w.heap.size w W → Calls Tryd.prog 18 #[.agg ce.toArray] W fun r' w' => ∃ v, r' = .returned v ∧ Reads w' v (bytesF e) ∧ Below W.heap.size W w') := fun W hh => fkBytes_any e ce W (HEB.out W hh) (by have := HLE.out; omega) (fun s hs => by have := (HSA.out s hs).2; omega)
    have HCR : Hid (∀ (W : World) (v : Value), Reads W v (bytesF e) → Calls Tryd.prog 13 #[v] W fun r w' => ∃ cs, r = .returned (.tuple #[.agg (cs : List Value).toArray, .int .i64 0]) ∧ EvF W w' e cs ∧ Below W.heap.size W w') := fun W v hr => by
      have h := fkRead_own v (bytesF e) W hr
      rw [readX, readE, HFD.out] at h
      exact h
    clear hat1 hat2 hs1 hs2 hr1 hr2 HCE HK1 HK2
    by_cases hck : ck = 0
    case pos =>
      have qc : (ck == 0) = true := by rw [beq_iff_eq]; exact hck
      have pc : (ck != 0) = false := by rw [bne, qc]; rfl
      have HFI : Hid ((findF pin l m).isSome = true) := by show _ = _; rw [HFF.out, if_pos hck]; rfl
      have HFE : Hid (findE pin l m = e) := by show _ = _; rw [findE, HFF.out, if_pos hck]; rfl
      clear hck
      go_enter Tryd.func21, Tryd.ntmps21
      have tk0 : Hid True := trivial
      have tk1 : Hid True := trivial
      have tk2 : Hid True := trivial
      have tk3 : Hid True := trivial
      go_upto_region 4 with (first
        | (clear tk0; with_reducible refine wpSeq_boxW 23 (.tmp 0) (cb pin) ?_ ?_ ?_ ?_
           · rfl
           · rfl
           · rfl
           intro g3 y1 nn
           have HG3 : Hid (Blk y1 g3 (cb pin) 23) := nn.blk
           replace HBW : Hid (Below w.heap.size w y1) := nn.below
           clear nn)
        | (clear tk1; with_reducible refine wpSeq_allocE ?_ ?_ ?_
           · rfl
           · rfl
           intro g6 y2 nn
           have HG6 : Hid (w.heap.size ≤ g6) := Nat.le_trans HBW.out.size nn.ge
           have H6 : Hid (Blk y2 g6 cz 32) := by rw [HCZ.out]; exact nn.blk
           replace HG3 : Hid (Blk y2 g3 (cb pin) 23) := HG3.out.below nn.below HG3.out.lt
           replace HBW : Hid (Below w.heap.size w y2) := HBW.out.trans (nn.below.mono HBW.out.size)
           clear nn)
        | (clear tk2; go_at_call 43; refine (HCU.out y2 HBW.out).mono ?_; rintro e0 y3 ⟨rfl, hbz⟩
           replace HG3 : Hid (Blk y3 g3 (cb pin) 23) := HG3.out.below hbz HG3.out.lt
           replace H6 : Hid (Blk y3 g6 cz 32) := H6.out.below hbz H6.out.lt
           replace HBW : Hid (Below w.heap.size w y3) := HBW.out.trans (hbz.mono HBW.out.size)
           clear hbz)
        | (clear tk3; with_reducible refine wpSeq_min12 (.tmp 17) (.tmp 19) nl nm n HNN.out ?_ ?_ ?_ ?_ ?_
           · rfl
           · rfl
           · rfl
           · rfl))
      refine wp_region_held_drew (S := Over (World.drew y3)) (by kernel_rfl) (Over.refl _) ?_
      intro hS
      replace HBW : Hid (Below w.heap.size w (World.drew y3)) := HBW.out.drew
      replace HG3 : Hid (Blk (World.drew y3) g3 (cb pin) 23) := HG3.out.drew
      replace H6 : Hid (Blk (World.drew y3) g6 cz 32) := H6.out.drew
      change wpAnyH _ _ _ _ _ _ _ _ (World.drew y3)
      generalize World.drew y3 = y0 at *
      try simp only [Act.put, List.setIfInBounds_toArray, List.set_cons_zero, List.set_cons_succ]
      refine wpAnyH_take (i := 0) (v := .slice (some ⟨b1, o1, none⟩) nl cl) rfl (by kernel_rfl) (by kernel_rfl) (by kernel_rfl) (fun _ _ _ h => h) (Or.inl ⟨by rfl, fun wx hx => by simp [go_sem]⟩) hS ?_
      simp only [Act.put, List.getElem_toArray, List.getElem_cons_zero, List.setIfInBounds_toArray, List.set_cons_zero, List.set_cons_succ]
      refine wpAnyH_take (i := 1) (v := .int .i64 (k : Int)) rfl (by kernel_rfl) (by kernel_rfl) (by kernel_rfl) (fun _ _ _ h => h) (Or.inl ⟨by rfl, fun wx hx => by simp [go_sem]⟩) hS ?_
      simp only [Act.put, List.getElem_toArray, List.getElem_cons_succ, List.getElem_cons_zero, List.setIfInBounds_toArray, List.set_cons_zero, List.set_cons_succ]
      refine wpAnyH_take (i := 2) (v := .slice (some ⟨b1, o1, none⟩) k cl) rfl (by kernel_rfl) (by kernel_rfl) (by kernel_rfl) (fun _ _ _ h => h) (Or.inl ⟨by rfl, fun wx hx => by exact takeS_op _ _ _ _ rfl (some ⟨b1, o1, none⟩) nl cl k rfl rfl HKC.out wx⟩) hS ?_
      simp only [Act.put, List.getElem_toArray, List.getElem_cons_succ, List.getElem_cons_zero, List.setIfInBounds_toArray, List.set_cons_zero, List.set_cons_succ]
      refine wpAnyH_take (i := 3) (v := .slice (some ⟨b1, o1, none⟩) nl cl) rfl (by kernel_rfl) (by kernel_rfl) (by kernel_rfl) (fun _ _ _ h => h) (Or.inl ⟨by rfl, fun wx hx => by simp [go_sem]⟩) hS ?_
      simp only [Act.put, List.getElem_toArray, List.getElem_cons_succ, List.getElem_cons_zero, List.setIfInBounds_toArray, List.set_cons_zero, List.set_cons_succ]
      refine wpAnyH_take (i := 4) (v := .int .i64 (k : Int)) rfl (by kernel_rfl) (by kernel_rfl) (by kernel_rfl) (fun _ _ _ h => h) (Or.inl ⟨by rfl, fun wx hx => by simp [go_sem]⟩) hS ?_
      simp only [Act.put, List.getElem_toArray, List.getElem_cons_succ, List.getElem_cons_zero, List.setIfInBounds_toArray, List.set_cons_zero, List.set_cons_succ]
      refine wpAnyH_take (i := 5) (v := .pointer (some ⟨b1, o1 + k * 98, none⟩)) rfl (by kernel_rfl) (by kernel_rfl) (by kernel_rfl) (fun _ _ _ h => h) (Or.inl ⟨by rfl, fun wx hx => by exact idx98 b1 o1 cl nl k HKL.out.1 _ _ _ _ rfl rfl rfl _⟩) hS ?_
      simp only [Act.put, List.getElem_toArray, List.getElem_cons_succ, List.getElem_cons_zero, List.setIfInBounds_toArray, List.set_cons_zero, List.set_cons_succ]
      refine wpAnyH_take (i := 6) (v := .agg ck1.toArray) rfl (by kernel_rfl) (by kernel_rfl) (by kernel_rfl) (fun _ _ _ h => h) (Or.inl ⟨by rfl, fun wx hx => by exact load_run 30 _ rfl b1 (o1 + k * 98) rfl ck1 _ (HR1.out _ (HBW.out.trans (Below.mono hx HBW.out.size))) Tryd.underlying30 rfl HI1.out⟩) hS ?_
      simp only [Act.put, List.getElem_toArray, List.getElem_cons_succ, List.getElem_cons_zero, List.setIfInBounds_toArray, List.set_cons_zero, List.set_cons_succ]
      refine wpAnyH_take (i := 7) (v := .slice (some ⟨b2, o2, none⟩) nm cm) rfl (by kernel_rfl) (by kernel_rfl) (by kernel_rfl) (fun _ _ _ h => h) (Or.inl ⟨by rfl, fun wx hx => by simp [go_sem]⟩) hS ?_
      simp only [Act.put, List.getElem_toArray, List.getElem_cons_succ, List.getElem_cons_zero, List.setIfInBounds_toArray, List.set_cons_zero, List.set_cons_succ]
      refine wpAnyH_take (i := 8) (v := .int .i64 (k : Int)) rfl (by kernel_rfl) (by kernel_rfl) (by kernel_rfl) (fun _ _ _ h => h) (Or.inl ⟨by rfl, fun wx hx => by simp [go_sem]⟩) hS ?_
      simp only [Act.put, List.getElem_toArray, List.getElem_cons_succ, List.getElem_cons_zero, List.setIfInBounds_toArray, List.set_cons_zero, List.set_cons_succ]
      refine wpAnyH_take (i := 9) (v := .pointer (some ⟨b2, o2 + k * 98, none⟩)) rfl (by kernel_rfl) (by kernel_rfl) (by kernel_rfl) (fun _ _ _ h => h) (Or.inl ⟨by rfl, fun wx hx => by exact idx98 b2 o2 cm nm k HKL.out.2 _ _ _ _ rfl rfl rfl _⟩) hS ?_
      simp only [Act.put, List.getElem_toArray, List.getElem_cons_succ, List.getElem_cons_zero, List.setIfInBounds_toArray, List.set_cons_zero, List.set_cons_succ]
      refine wpAnyH_take (i := 10) (v := .agg ck2.toArray) rfl (by kernel_rfl) (by kernel_rfl) (by kernel_rfl) (fun _ _ _ h => h) (Or.inl ⟨by rfl, fun wx hx => by exact load_run 30 _ rfl b2 (o2 + k * 98) rfl ck2 _ (HR2.out _ (HBW.out.trans (Below.mono hx HBW.out.size))) Tryd.underlying30 rfl HI2.out⟩) hS ?_
      simp only [Act.put, List.getElem_toArray, List.getElem_cons_succ, List.getElem_cons_zero, List.setIfInBounds_toArray, List.set_cons_zero, List.set_cons_succ]
      refine wpAnyH_take (i := 11) (v := .agg ce.toArray) rfl (by kernel_rfl) (by kernel_rfl) (by kernel_rfl) (fun _ _ _ h => h) (Or.inl ⟨by rfl, fun wx hx => by refine build_op _ _ 32 [(0, .tmp 25), (1, .tmp 29), (2, .tmp 33)] rfl _ ?_ _; exact HBE.out _ rfl⟩) hS ?_
      simp only [Act.put, List.getElem_toArray, List.getElem_cons_succ, List.getElem_cons_zero, List.setIfInBounds_toArray, List.set_cons_zero, List.set_cons_succ]
      have hb := below_alloc y0 (.cells (evC zeroE (.slice none 0 0) (.slice none 0 0) (.slice none 0 0)).toArray 32)
      have hba : Blk (y0.alloc (.cells (evC zeroE (.slice none 0 0) (.slice none 0 0) (.slice none 0 0)).toArray 32)) y0.heap.size (evC zeroE (.slice none 0 0) (.slice none 0 0) (.slice none 0 0)) 32 := Blk.new _ _ _
      have hsz : y0.heap.size ≤ y0.heap.size := Below.size hS
      replace hS := Over.more hS hb
      refine wpAnyH_step 12 (.pointer (some ⟨y0.heap.size, 0, none⟩)) (y0.alloc (.cells (evC zeroE (.slice none 0 0) (.slice none 0 0) (.slice none 0 0)).toArray 32)) (by kernel_rfl) rfl (by rfl) (alloc_ev _ _ rfl _) hS ?_
      simp only [Act.put, List.getElem_toArray, List.getElem_cons_succ, List.getElem_cons_zero, List.setIfInBounds_toArray, List.set_cons_zero, List.set_cons_succ]
      clear hb
      generalize y0.alloc (.cells (evC zeroE (.slice none 0 0) (.slice none 0 0) (.slice none 0 0)).toArray 32) = z1 at *
      obtain ⟨ga, HGA⟩ : ∃ z, Hid (z = y0.heap.size) := ⟨_, rfl⟩
      have hgw : y0.heap.size ≤ ga := by rw [HGA.out]; exact hsz
      rw [← HGA.out] at hba ⊢
      clear HGA hsz
      refine wpAnyH_storeRow 13 32 (.tmp 9) (.tmp 34) ga (evC zeroE (.slice none 0 0) (.slice none 0 0) (.slice none 0 0)) (ce) hba HOK.out.lz HOK.out.info HOK.out.one (by kernel_rfl) rfl (by rfl) rfl rfl rfl ?_
      intro yE hs
      replace hS : Over y0 yE := Below.trans hS (hs.only.below hgw (Below.size hS))
      refine ⟨hS, ?_⟩
      simp only [Act.put, List.getElem_toArray, List.getElem_cons_succ, List.getElem_cons_zero]
      refine wpAnyH_done (by kernel_rfl) ?_ _
      replace HG3 : Hid (Blk yE g3 (cb pin) 23) := HG3.out.below hS HG3.out.lt
      replace H6 : Hid (Blk yE g6 cz 32) := H6.out.below hS H6.out.lt
      replace HBW : Hid (Below w.heap.size w yE) := HBW.out.trans (Below.mono hS HBW.out.size)
      have H9 : Hid (Blk yE ga ce 32) := hs.blk
      clear hs hS hgw
      have tk30 : Hid True := trivial
      have tk40 : Hid True := trivial
      have tk41 : Hid True := trivial
      have tk42 : Hid True := trivial
      have tk43 : Hid True := trivial
      have tk44 : Hid True := trivial
      have tk45 : Hid True := trivial
      have tk46 : Hid True := trivial
      have tk47 : Hid True := trivial
      have tk48 : Hid True := trivial
      go_wp2_with (first
        | (clear tk40; with_reducible refine wpSeq_loadW 23 (.tmp 3) g3 0 (cb pin) _ ?_ Tryd.underlying23 rfl ?_ ?_ ?_ ?_ ?_
           · exact HG3.out.range
           · exact HIP.out
           · rfl
           · rfl
           · rfl)
        | (clear tk41; with_reducible refine wpSeq_loadW 32 (.tmp 9) ga 0 ce _ ?_ Tryd.underlying32 rfl ?_ ?_ ?_ ?_ ?_
           · exact H9.out.range
           · exact HOK.out.info
           · rfl
           · rfl
           · rfl)
        | (clear tk42; go_at_call 11; refine (HCK.out yE HBW.out).mono ?_; rintro e y41 ⟨rfl, hbz⟩
           replace HG3 : Hid (Blk y41 g3 (cb pin) 23) := HG3.out.below hbz HG3.out.lt
           replace H6 : Hid (Blk y41 g6 cz 32) := H6.out.below hbz H6.out.lt
           replace H9 : Hid (Blk y41 ga ce 32) := H9.out.below hbz H9.out.lt
           replace HBW : Hid (Below w.heap.size w y41) := HBW.out.trans (hbz.mono HBW.out.size)
           clear hbz )
        | (clear tk43; with_reducible refine wpSeq_loadW 32 (.tmp 9) ga 0 ce _ ?_ Tryd.underlying32 rfl ?_ ?_ ?_ ?_ ?_
           · exact H9.out.range
           · exact HOK.out.info
           · rfl
           · rfl
           · rfl)
        | (clear tk44; go_at_call 18; refine (HCB.out y41 HBW.out).mono ?_; rintro e y42 ⟨vb, rfl, hrb, hbz⟩
           replace HG3 : Hid (Blk y42 g3 (cb pin) 23) := HG3.out.below hbz HG3.out.lt
           replace H6 : Hid (Blk y42 g6 cz 32) := H6.out.below hbz H6.out.lt
           replace H9 : Hid (Blk y42 ga ce 32) := H9.out.below hbz H9.out.lt
           replace HBW : Hid (Below w.heap.size w y42) := HBW.out.trans (hbz.mono HBW.out.size)
           obtain ⟨ab, nb, db, hvb⟩ := hrb.form
           subst hvb
           have HRB : Hid (Reads y42 (.slice ab nb db) (bytesF e)) := hrb
           clear hbz hrb)
        | (clear tk45; go_at_call 13; refine (HCR.out y42 _ HRB.out).mono ?_; rintro e y43 ⟨cs2, rfl, hef, hbz⟩
           have HLT6 : Hid (g6 < y42.heap.size) := H6.out.lt
           replace HG3 : Hid (Blk y43 g3 (cb pin) 23) := HG3.out.below hbz HG3.out.lt
           replace H6 : Hid (Blk y43 g6 cz 32) := H6.out.below hbz H6.out.lt
           replace H9 : Hid (Blk y43 ga ce 32) := H9.out.below hbz H9.out.lt
           replace HBW : Hid (Below w.heap.size w y43) := HBW.out.trans (hbz.mono HBW.out.size)
           have HB8 : Hid (Below y42.heap.size y42 y43) := hbz
           have HEF : Hid (EvF y42 y43 e cs2) := hef
           have HOE2 : Hid (EvOk e cs2) := hef.evB.ok
           have HG68 : Hid (g6 < y42.heap.size) := HLT6.out
           clear hbz hef HLT6)
        | (clear tk46; with_reducible refine wpSeq_allocE ?_ ?_ ?_
           · rfl
           · rfl
           intro g10 y44 nn)
        | (clear tk47; with_reducible refine wpSeq_storeRow 32 (.tmp 10) (.tmp 44) g10 (evC zeroE (.slice none 0 0) (.slice none 0 0) (.slice none 0 0)) cs2 ?_ ?_ ?_ ?_ ?_ ?_ ?_ ?_ ?_
           · exact nn.blk
           · exact HOE2.out.lz
           · exact HOE2.out.info
           · exact HOE2.out.one
           · rfl
           · rfl
           · rfl
           · rfl
           intro y45 hs
           have hbz := nn.below.trans (hs.only.below nn.ge nn.below.size)
           have HBK : Hid (Below y43.heap.size y43 y45) := hbz
           replace HG3 : Hid (Blk y45 g3 (cb pin) 23) := HG3.out.below hbz HG3.out.lt
           replace H6 : Hid (Blk y45 g6 cz 32) := H6.out.below hbz H6.out.lt
           replace H9 : Hid (Blk y45 ga ce 32) := H9.out.below hbz H9.out.lt
           replace HBW : Hid (Below w.heap.size w y45) := HBW.out.trans (hbz.mono HBW.out.size)
           have H10 : Hid (Blk y45 g10 cs2 32) := hs.blk
           clear nn hs hbz)
        | (clear tk48; with_reducible refine wpSeq_loadW 32 (.tmp 10) g10 0 cs2 _ ?_ Tryd.underlying32 rfl ?_ ?_ ?_ ?_ ?_
           · exact H10.out.range
           · exact HOE2.out.info
           · rfl
           · rfl
           · rfl)
        | (clear tk30; with_reducible refine wpSeq_storeRow 32 (.tmp 6) (.tmp 46) g6 cz cs2 ?_ ?_ ?_ ?_ ?_ ?_ ?_ ?_ ?_
           · exact H6.out
           · rw [HCZ.out]; exact HOE2.out.lz
           · exact HOE2.out.info
           · exact HOE2.out.one
           · rfl
           · rfl
           · rfl
           · rfl
           intro y99 hs9))
      exact bodyPost_ret (results_row_tmp (by rfl) _ _ g6 _ rfl (var_evB hs9.blk HOE2.out)) rfl ⟨cs2, by rw [HFI.out]; rfl, by
        rw [HFE.out]
        refine HEF.out y99 fun j h1 h2 => ?_
        have h3 := HG68.out
        rw [hs9.only.block j (by omega) (Nat.lt_of_lt_of_le h2 HBK.out.size), HBK.out.block j h2], HBW.out.trans (hs9.only.below HG6.out HBW.out.size)⟩
    case neg =>
      have qc : (ck == 0) = false := by rw [beq_eq_false_iff_ne]; exact hck
      have pc : (ck != 0) = true := by rw [bne, qc]; rfl
      have HF0 : Hid (findF pin l m = none) := by show _ = _; rw [HFF.out, if_neg hck]
      have HFI : Hid ((findF pin l m).isSome = false) := by show _ = _; rw [HF0.out]; rfl
      have HFE : Hid (findE pin l m = zeroE) := by show _ = _; rw [findE, HF0.out]; rfl
      clear hck
      go_enter Tryd.func21, Tryd.ntmps21
      have tk0 : Hid True := trivial
      have tk1 : Hid True := trivial
      have tk2 : Hid True := trivial
      have tk3 : Hid True := trivial
      go_upto_region 4 with (first
        | (clear tk0; with_reducible refine wpSeq_boxW 23 (.tmp 0) (cb pin) ?_ ?_ ?_ ?_
           · rfl
           · rfl
           · rfl
           intro g3 y1 nn
           have HG3 : Hid (Blk y1 g3 (cb pin) 23) := nn.blk
           replace HBW : Hid (Below w.heap.size w y1) := nn.below
           clear nn)
        | (clear tk1; with_reducible refine wpSeq_allocE ?_ ?_ ?_
           · rfl
           · rfl
           intro g6 y2 nn
           have HG6 : Hid (w.heap.size ≤ g6) := Nat.le_trans HBW.out.size nn.ge
           have H6 : Hid (Blk y2 g6 cz 32) := by rw [HCZ.out]; exact nn.blk
           replace HG3 : Hid (Blk y2 g3 (cb pin) 23) := HG3.out.below nn.below HG3.out.lt
           replace HBW : Hid (Below w.heap.size w y2) := HBW.out.trans (nn.below.mono HBW.out.size)
           clear nn)
        | (clear tk2; go_at_call 43; refine (HCU.out y2 HBW.out).mono ?_; rintro e0 y3 ⟨rfl, hbz⟩
           replace HG3 : Hid (Blk y3 g3 (cb pin) 23) := HG3.out.below hbz HG3.out.lt
           replace H6 : Hid (Blk y3 g6 cz 32) := H6.out.below hbz H6.out.lt
           replace HBW : Hid (Below w.heap.size w y3) := HBW.out.trans (hbz.mono HBW.out.size)
           clear hbz)
        | (clear tk3; with_reducible refine wpSeq_min12 (.tmp 17) (.tmp 19) nl nm n HNN.out ?_ ?_ ?_ ?_ ?_
           · rfl
           · rfl
           · rfl
           · rfl))
      refine wp_region_held_drew (S := Over (World.drew y3)) (by kernel_rfl) (Over.refl _) ?_
      intro hS
      replace HBW : Hid (Below w.heap.size w (World.drew y3)) := HBW.out.drew
      replace HG3 : Hid (Blk (World.drew y3) g3 (cb pin) 23) := HG3.out.drew
      replace H6 : Hid (Blk (World.drew y3) g6 cz 32) := H6.out.drew
      change wpAnyH _ _ _ _ _ _ _ _ (World.drew y3)
      generalize World.drew y3 = y0 at *
      try simp only [Act.put, List.setIfInBounds_toArray, List.set_cons_zero, List.set_cons_succ]
      refine wpAnyH_take (i := 0) (v := .slice (some ⟨b1, o1, none⟩) nl cl) rfl (by kernel_rfl) (by kernel_rfl) (by kernel_rfl) (fun _ _ _ h => h) (Or.inl ⟨by rfl, fun wx hx => by simp [go_sem]⟩) hS ?_
      simp only [Act.put, List.getElem_toArray, List.getElem_cons_zero, List.setIfInBounds_toArray, List.set_cons_zero, List.set_cons_succ]
      refine wpAnyH_take (i := 1) (v := .int .i64 (k : Int)) rfl (by kernel_rfl) (by kernel_rfl) (by kernel_rfl) (fun _ _ _ h => h) (Or.inl ⟨by rfl, fun wx hx => by simp [go_sem]⟩) hS ?_
      simp only [Act.put, List.getElem_toArray, List.getElem_cons_succ, List.getElem_cons_zero, List.setIfInBounds_toArray, List.set_cons_zero, List.set_cons_succ]
      refine wpAnyH_take (i := 2) (v := .slice (some ⟨b1, o1, none⟩) k cl) rfl (by kernel_rfl) (by kernel_rfl) (by kernel_rfl) (fun _ _ _ h => h) (Or.inl ⟨by rfl, fun wx hx => by exact takeS_op _ _ _ _ rfl (some ⟨b1, o1, none⟩) nl cl k rfl rfl HKC.out wx⟩) hS ?_
      simp only [Act.put, List.getElem_toArray, List.getElem_cons_succ, List.getElem_cons_zero, List.setIfInBounds_toArray, List.set_cons_zero, List.set_cons_succ]
      refine wpAnyH_take (i := 3) (v := .slice (some ⟨b1, o1, none⟩) nl cl) rfl (by kernel_rfl) (by kernel_rfl) (by kernel_rfl) (fun _ _ _ h => h) (Or.inl ⟨by rfl, fun wx hx => by simp [go_sem]⟩) hS ?_
      simp only [Act.put, List.getElem_toArray, List.getElem_cons_succ, List.getElem_cons_zero, List.setIfInBounds_toArray, List.set_cons_zero, List.set_cons_succ]
      refine wpAnyH_take (i := 4) (v := .int .i64 (k : Int)) rfl (by kernel_rfl) (by kernel_rfl) (by kernel_rfl) (fun _ _ _ h => h) (Or.inl ⟨by rfl, fun wx hx => by simp [go_sem]⟩) hS ?_
      simp only [Act.put, List.getElem_toArray, List.getElem_cons_succ, List.getElem_cons_zero, List.setIfInBounds_toArray, List.set_cons_zero, List.set_cons_succ]
      refine wpAnyH_take (i := 5) (v := .pointer (some ⟨b1, o1 + k * 98, none⟩)) rfl (by kernel_rfl) (by kernel_rfl) (by kernel_rfl) (fun _ _ _ h => h) (Or.inl ⟨by rfl, fun wx hx => by exact idx98 b1 o1 cl nl k HKL.out.1 _ _ _ _ rfl rfl rfl _⟩) hS ?_
      simp only [Act.put, List.getElem_toArray, List.getElem_cons_succ, List.getElem_cons_zero, List.setIfInBounds_toArray, List.set_cons_zero, List.set_cons_succ]
      refine wpAnyH_take (i := 6) (v := .agg ck1.toArray) rfl (by kernel_rfl) (by kernel_rfl) (by kernel_rfl) (fun _ _ _ h => h) (Or.inl ⟨by rfl, fun wx hx => by exact load_run 30 _ rfl b1 (o1 + k * 98) rfl ck1 _ (HR1.out _ (HBW.out.trans (Below.mono hx HBW.out.size))) Tryd.underlying30 rfl HI1.out⟩) hS ?_
      simp only [Act.put, List.getElem_toArray, List.getElem_cons_succ, List.getElem_cons_zero, List.setIfInBounds_toArray, List.set_cons_zero, List.set_cons_succ]
      refine wpAnyH_take (i := 7) (v := .slice (some ⟨b2, o2, none⟩) nm cm) rfl (by kernel_rfl) (by kernel_rfl) (by kernel_rfl) (fun _ _ _ h => h) (Or.inl ⟨by rfl, fun wx hx => by simp [go_sem]⟩) hS ?_
      simp only [Act.put, List.getElem_toArray, List.getElem_cons_succ, List.getElem_cons_zero, List.setIfInBounds_toArray, List.set_cons_zero, List.set_cons_succ]
      refine wpAnyH_take (i := 8) (v := .int .i64 (k : Int)) rfl (by kernel_rfl) (by kernel_rfl) (by kernel_rfl) (fun _ _ _ h => h) (Or.inl ⟨by rfl, fun wx hx => by simp [go_sem]⟩) hS ?_
      simp only [Act.put, List.getElem_toArray, List.getElem_cons_succ, List.getElem_cons_zero, List.setIfInBounds_toArray, List.set_cons_zero, List.set_cons_succ]
      refine wpAnyH_take (i := 9) (v := .pointer (some ⟨b2, o2 + k * 98, none⟩)) rfl (by kernel_rfl) (by kernel_rfl) (by kernel_rfl) (fun _ _ _ h => h) (Or.inl ⟨by rfl, fun wx hx => by exact idx98 b2 o2 cm nm k HKL.out.2 _ _ _ _ rfl rfl rfl _⟩) hS ?_
      simp only [Act.put, List.getElem_toArray, List.getElem_cons_succ, List.getElem_cons_zero, List.setIfInBounds_toArray, List.set_cons_zero, List.set_cons_succ]
      refine wpAnyH_take (i := 10) (v := .agg ck2.toArray) rfl (by kernel_rfl) (by kernel_rfl) (by kernel_rfl) (fun _ _ _ h => h) (Or.inl ⟨by rfl, fun wx hx => by exact load_run 30 _ rfl b2 (o2 + k * 98) rfl ck2 _ (HR2.out _ (HBW.out.trans (Below.mono hx HBW.out.size))) Tryd.underlying30 rfl HI2.out⟩) hS ?_
      simp only [Act.put, List.getElem_toArray, List.getElem_cons_succ, List.getElem_cons_zero, List.setIfInBounds_toArray, List.set_cons_zero, List.set_cons_succ]
      refine wpAnyH_take (i := 11) (v := .agg ce.toArray) rfl (by kernel_rfl) (by kernel_rfl) (by kernel_rfl) (fun _ _ _ h => h) (Or.inl ⟨by rfl, fun wx hx => by refine build_op _ _ 32 [(0, .tmp 25), (1, .tmp 29), (2, .tmp 33)] rfl _ ?_ _; exact HBE.out _ rfl⟩) hS ?_
      simp only [Act.put, List.getElem_toArray, List.getElem_cons_succ, List.getElem_cons_zero, List.setIfInBounds_toArray, List.set_cons_zero, List.set_cons_succ]
      have hb := below_alloc y0 (.cells (evC zeroE (.slice none 0 0) (.slice none 0 0) (.slice none 0 0)).toArray 32)
      have hba : Blk (y0.alloc (.cells (evC zeroE (.slice none 0 0) (.slice none 0 0) (.slice none 0 0)).toArray 32)) y0.heap.size (evC zeroE (.slice none 0 0) (.slice none 0 0) (.slice none 0 0)) 32 := Blk.new _ _ _
      have hsz : y0.heap.size ≤ y0.heap.size := Below.size hS
      replace hS := Over.more hS hb
      refine wpAnyH_step 12 (.pointer (some ⟨y0.heap.size, 0, none⟩)) (y0.alloc (.cells (evC zeroE (.slice none 0 0) (.slice none 0 0) (.slice none 0 0)).toArray 32)) (by kernel_rfl) rfl (by rfl) (alloc_ev _ _ rfl _) hS ?_
      simp only [Act.put, List.getElem_toArray, List.getElem_cons_succ, List.getElem_cons_zero, List.setIfInBounds_toArray, List.set_cons_zero, List.set_cons_succ]
      clear hb
      generalize y0.alloc (.cells (evC zeroE (.slice none 0 0) (.slice none 0 0) (.slice none 0 0)).toArray 32) = z1 at *
      obtain ⟨ga, HGA⟩ : ∃ z, Hid (z = y0.heap.size) := ⟨_, rfl⟩
      have hgw : y0.heap.size ≤ ga := by rw [HGA.out]; exact hsz
      rw [← HGA.out] at hba ⊢
      clear HGA hsz
      refine wpAnyH_storeRow 13 32 (.tmp 9) (.tmp 34) ga (evC zeroE (.slice none 0 0) (.slice none 0 0) (.slice none 0 0)) (ce) hba HOK.out.lz HOK.out.info HOK.out.one (by kernel_rfl) rfl (by rfl) rfl rfl rfl ?_
      intro yE hs
      replace hS : Over y0 yE := Below.trans hS (hs.only.below hgw (Below.size hS))
      refine ⟨hS, ?_⟩
      simp only [Act.put, List.getElem_toArray, List.getElem_cons_succ, List.getElem_cons_zero]
      refine wpAnyH_done (by kernel_rfl) ?_ _
      replace HG3 : Hid (Blk yE g3 (cb pin) 23) := HG3.out.below hS HG3.out.lt
      replace H6 : Hid (Blk yE g6 cz 32) := H6.out.below hS H6.out.lt
      replace HBW : Hid (Below w.heap.size w yE) := HBW.out.trans (Below.mono hS HBW.out.size)
      have H9 : Hid (Blk yE ga ce 32) := hs.blk
      clear hs hS hgw
      have tk20 : Hid True := trivial
      have tk21 : Hid True := trivial
      have tk40 : Hid True := trivial
      have tk41 : Hid True := trivial
      have tk42 : Hid True := trivial
      go_wp2_with (first
        | (clear tk40; with_reducible refine wpSeq_loadW 23 (.tmp 3) g3 0 (cb pin) _ ?_ Tryd.underlying23 rfl ?_ ?_ ?_ ?_ ?_
           · exact HG3.out.range
           · exact HIP.out
           · rfl
           · rfl
           · rfl)
        | (clear tk41; with_reducible refine wpSeq_loadW 32 (.tmp 9) ga 0 ce _ ?_ Tryd.underlying32 rfl ?_ ?_ ?_ ?_ ?_
           · exact H9.out.range
           · exact HOK.out.info
           · rfl
           · rfl
           · rfl)
        | (clear tk42; go_at_call 11; refine (HCK.out yE HBW.out).mono ?_; rintro e y41 ⟨rfl, hbz⟩
           replace HG3 : Hid (Blk y41 g3 (cb pin) 23) := HG3.out.below hbz HG3.out.lt
           replace H6 : Hid (Blk y41 g6 cz 32) := H6.out.below hbz H6.out.lt
           replace H9 : Hid (Blk y41 ga ce 32) := H9.out.below hbz H9.out.lt
           replace HBW : Hid (Below w.heap.size w y41) := HBW.out.trans (hbz.mono HBW.out.size)
           clear hbz )
        | (clear tk20; with_reducible refine wpSeq_build 32 [] cz ?_ ?_ ?_ ?_
           · exact (built_evid []).trans (by rw [HCZ.out]; rfl)
           · rfl
           · rfl)
        | (clear tk21; with_reducible refine wpSeq_storeRow 32 (.tmp 6) (.tmp 39) g6 cz cz ?_ ?_ ?_ ?_ ?_ ?_ ?_ ?_ ?_
           · exact H6.out
           · rfl
           · exact HOZ.out.info
           · exact HOZ.out.one
           · rfl
           · rfl
           · rfl
           · rfl
           intro y99 hs9))
      exact bodyPost_ret (results_row_tmp (by rfl) _ _ g6 _ rfl (var_evB hs9.blk HOZ.out)) rfl ⟨cz, by rw [HFI.out]; rfl, by rw [HFE.out, HCZ.out]; exact EvB.zero _, HBW.out.trans (hs9.only.below HG6.out HBW.out.size)⟩
/-- what fork's functions do -/
theorem fkOps : FkOps where
  check := fun W pin e cs hK hp hE hn => fkCheck_any pin e cs W hK hp hE hn
  bytes := fun W e cs _ hE h64 hsz => fkBytes_any e cs W hE h64 hsz
  read := fun W v b _ hb _ => fkRead_any v b W hb
  accept := fun W pin v b hK hp hb _ => fkAccept_any pin v b W hK hp hb
  find := fun W pin v u l m hK hp hl hm h1 h2 h3 h4 => fkFind_any pin v u l m W hK hp hl hm h1 h2 h3 h4
end Go.Proofs.YtableajopaappaaDoor
/- What the listed variable gives: the rounds' words lie where the walks look for them. -/
namespace Go.Proofs.YtableajopaappaaDoor
open Go.ChangeShapes Go.WideShapes Go.ChangeAt Go.WideMaps Go.WideElems Go.RowKit
set_option maxRecDepth 100000
theorem own : ownKnob Tryd.prog.godebug = none := by kernel_rfl
theorem gKw : Tryd.prog.globalNamed "blazon/sha.roundWords" = some 0 := by kernel_rfl
theorem tKw : (Tryd.prog.globals[0]?).map (·.type) = some 134 := by kernel_rfl
def laidK : List (String × DataW Unit) := [("blazon/sha.roundWords", Rows.laid_blazon_sha_roundWords)]
def kzs : List Int := kw.map fun x => (x.toNat : Int)
theorem laid_tab : (Rows.laid_blazon_sha_roundWords : DataW Unit) = Lib.tabData .u32 kzs := by kernel_rfl
theorem door_met (os : Os) (args : Array Value) : laidMetH Tryd.prog laidK ((World.doorLaid Tryd.prog 400 os).forCall (fun _ _ => 0) ⟨#[], args, []⟩).memory :=
  laidMetH_of_parts3 (fuel := 8) (laidMet_of_run' 8 (by kernel_rfl) (by kernel_rfl)) (by kernel_rfl) (by kernel_rfl)
theorem getD_toNat (l : List (BitVec 32)) (j : Nat) : (l.map fun x => (x.toNat : Int)).getD j 0 = ((l.getD j 0).toNat : Int) := by
  rw [List.getD_eq_getElem?_getD, List.getD_eq_getElem?_getD, List.getElem?_map]
  cases l[j]? <;> rfl
theorem kok_of_laid {W : World} (h : laidMetH Tryd.prog laidK W) : KOk W := by
  rw [MakeChecks.laidMetH_plain _ _ _ (by kernel_rfl)] at h
  unfold laidK at h
  rw [laid_tab] at h
  have hT := Lib.tabIs_of_head gKw tKw Tryd.underlying134 Tryd.underlying114 (by kernel_rfl) (by kernel_rfl) h
  intro j hj
  rw [hT.cell gKw j (by simpa [kzs, kw] using hj), kzs, getD_toNat]
end Go.Proofs.YtableajopaappaaDoor
/- What a slice of bytes that came in gives: the bytes that it reads as; and that it reads so still behind a call that changed no old block. -/
namespace Go.Proofs.YtableajopaappaaDoor
open Go.ChangeShapes Go.WideShapes Go.ChangeAt Go.WideMaps Go.WideElems Go.RowKit
set_option maxRecDepth 100000
theorem cells_byte : Tryd.prog.cellsOf 5 = 1 := by kernel_rfl
theorem laid_out : laidOutB Tryd.prog = true := by kernel_rfl
theorem readable_bytes : Tryd.prog.readableRec 28 = true := by kernel_rfl
theorem row_bytes : 28 < Tryd.prog.types.size := of_decide_eq_true (by kernel_rfl)
theorem byte_range {zs : List Int} (h : ∀ n ∈ zs, (Lit.int .u8 n).wf = true) (j : Nat) : 0 ≤ zs.getD j 0 ∧ zs.getD j 0 < 256 := by
  rw [List.getD_eq_getElem?_getD]
  cases hj : zs[j]? with
  | none => simp
  | some n =>
    have := h n (List.mem_of_getElem? hj)
    have := bounds_u8 this
    simp
    omega
theorem reads_of_trod {H : Type} {enc : TypeId × Value → H} {W : World} {base : Nat} {v : Value} {d : DataW H} {p : List MemPlace} (hval : Value.okWide Tryd.prog W .any base 28 v)
    (h : DataW.Trod enc Tryd.prog W 0 (fun _ => true) true 28 v d p) :
    ∃ bs, Reads W v bs ∧ bs.length ≤ maxLen ∧ ∀ x ∈ p, x.block < W.heap.size := by
  obtain ⟨a1, len, cap, rfl⟩ := okWide_slice Tryd.underlying28 hval
  obtain ⟨fuel, hf⟩ := h
  rcases open_ints Tryd.underlying28 Tryd.underlying5 cells_byte hf with ⟨hcs, hx⟩ | ⟨a, len', cap', zs, hcs, _, hl, hm, hz, hx, hcell, hwz⟩
  · simp [Value.cells] at hcs
    obtain ⟨rfl, rfl, rfl⟩ := hcs
    simp only [Prod.mk.injEq] at hx
    obtain ⟨rfl, rfl⟩ := hx
    exact ⟨[], ⟨none, 0, rfl, Nat.le_refl _, fun _ => rfl, fun h => by cases h⟩, Nat.zero_le _, fun _ h => by cases h⟩
  · simp [Value.cells] at hcs
    obtain ⟨rfl, rfl, rfl⟩ := hcs
    simp only [Prod.mk.injEq] at hx
    obtain ⟨rfl, rfl⟩ := hx
    simp only [if_true] at hz
    have hlen : ((zs.take len).map fun n => BitVec.ofInt 8 n).length = len := by simp; omega
    obtain ⟨ab, ao, spot⟩ := a
    refine ⟨(zs.take len).map fun n => BitVec.ofInt 8 n, ⟨some ⟨ab, ao, spot⟩, cap, by rw [hlen], by rw [hlen]; exact hl, (fun h => by cases h), fun hp => ?_⟩, by rw [hlen]; omega, fun x hx => ?_⟩
    · rw [hlen] at hp ⊢
      have hspot : spot = none := by simpa [Addr.add] using World.cell?_spot (hcell 0 (by omega))
      subst hspot
      refine ⟨ab, ao, rfl, fun j hj => ?_⟩
      have hcj := hcell j (by omega)
      rw [Addr.add_lit] at hcj
      rw [hcj]
      have hb := byte_range hwz j
      have e : ((zs.take len).map fun n => BitVec.ofInt 8 n).getD j 0 = BitVec.ofInt 8 (zs.getD j 0) := by
        rw [List.getD_eq_getElem?_getD, List.getElem?_map, List.getElem?_take_of_lt hj, List.getD_eq_getElem?_getD, List.getElem?_eq_getElem (show j < zs.length by omega)]
        rfl
      rw [e, BitVec.toNat_ofInt]
      congr 2
      omega
    · simp only [MemPlace.row, List.mem_map, List.mem_range] at hx
      obtain ⟨i, hi, rfl⟩ := hx
      have hcj := hcell i (by omega)
      have := block_lt_of_cell hcj
      simp only [Addr.add] at this
      split at this <;> exact this
end Go.Proofs.YtableajopaappaaDoor
/- What a digest that came in gives: its 32 bytes. -/
namespace Go.Proofs.YtableajopaappaaDoor
open Go.ChangeShapes Go.WideShapes Go.ChangeAt Go.WideMaps Go.WideElems Go.RowKit
set_option maxRecDepth 100000
theorem cells_digest : Tryd.prog.cellsOf 23 = 32 := by kernel_rfl
theorem readable_digest : Tryd.prog.readableRec 23 = true := by kernel_rfl
theorem row_digest : 23 < Tryd.prog.types.size := of_decide_eq_true (by kernel_rfl)
def numOf8 : Value → BitVec 8
  | .int _ n => BitVec.ofInt 8 n
  | _ => 0
theorem digest_of_trod {H : Type} {enc : TypeId × Value → H} {W : World} {base : Nat} {v : Value} {d : DataW H} {p : List MemPlace} (hval : Value.okWide Tryd.prog W .any base 23 v)
    (h : DataW.Trod enc Tryd.prog W 0 (fun _ => true) true 23 v d p) :
    ∃ dg, v = .agg (cb dg).toArray ∧ dg.length = 32 ∧ ∀ x ∈ p, x.block < W.heap.size := by
  simp only [Value.okWide, Tryd.underlying23] at hval
  obtain ⟨cs, rfl, hcs, _⟩ := hval
  obtain ⟨fuel, hf⟩ := h
  obtain ⟨xs, m, _, hx, hl, hn, hi⟩ := DataW.trod_array Tryd.underlying23 hf
  simp only [Value.cells] at hl hi
  rw [cells_digest] at hl
  rw [cells_byte] at hi
  have each : ∀ i, i < 32 → ∃ n, cs.toList[i]? = some (.int .u8 n) ∧ xs[i]? = some (.lit (.int .u8 n), []) ∧ (Lit.int .u8 n).wf = true := by
    intro i h32
    have h1 := hi i h32
    rw [List.getElem?_eq_getElem (by omega)] at h1
    obtain ⟨n, hc, hxx, hw⟩ := DataW.trod_int Tryd.underlying5 h1
    refine ⟨n, ?_, by rw [List.getElem?_eq_getElem (by omega), hxx], hw⟩
    rw [Nat.mul_one] at hc
    have h2 := congrArg (fun l => l[0]?) hc
    simpa using h2
  have hlen : (cs.toList.map numOf8).length = 32 := by simpa using hl
  refine ⟨cs.toList.map numOf8, ?_, hlen, ?_⟩
  · congr 1
    apply Array.ext'
    rw [List.toList_toArray]
    apply List.ext_getElem?
    intro i
    by_cases h32 : i < 32
    · obtain ⟨n, h1, _, hw⟩ := each i h32
      have hb := bounds_u8 hw
      rw [h1, cb_get _ _ (by omega), List.getD_eq_getElem?_getD, List.getElem?_map, h1]
      simp only [Option.map_some, Option.getD_some, numOf8, BitVec.toNat_ofInt]
      congr 2
      omega
    · rw [List.getElem?_eq_none (by omega), List.getElem?_eq_none (by rw [cb_len]; omega)]
  · simp only [Prod.mk.injEq] at hx
    rw [hx.2]
    intro x hmem
    obtain ⟨y, hy, hxy⟩ := List.mem_flatMap.1 hmem
    obtain ⟨i, hlt, rfl⟩ := List.getElem_of_mem hy
    obtain ⟨n, _, h2, _⟩ := each i (by omega)
    rw [List.getElem?_eq_getElem hlt] at h2
    rw [Option.some.inj h2] at hxy
    cases hxy
end Go.Proofs.YtableajopaappaaDoor

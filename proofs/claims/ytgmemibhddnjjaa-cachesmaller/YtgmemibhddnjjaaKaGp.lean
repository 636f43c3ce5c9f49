/- The walks of the reference's Get, Put and Drop (layer 16). -/
import Derived.Test.YtgmemibhddnjjaaKaWo
namespace Go.Proofs.Ytgmemibhddnjjaa
open Go.RowKit
set_option maxRecDepth 100000
set_option maxRecDepth 100000 in
set_option maxHeartbeats 2000000 in
theorem kGet_any {w : World} {C : KaT} {vk vv : Value} (hr : RfV w C vk vv) (hok : okC C) (hm : C.most < 1000000) (hc : C.hits < 1000000 ∧ C.miss < 1000000) (s : ByteArray) :
    Calls Try.prog 20 #[.agg (rcC C vk vv).toArray, .string s] w fun r w' => ∃ vk' vv', r = .returned (.tuple #[.agg (rcC (getC C s) vk' vv').toArray, .int .i64 (getV C s), .bool (hasK C s)]) ∧ RfV w' (getC C s) vk' vv' ∧ Below w.heap.size w w' := by
  have HK : Hid (RfV w C vk vv) := hr
  have HND : Hid ((C.l.map (·.1)).Nodup) := hok.nd
  have HNL : Hid (C.l.length < 1000000) := Nat.lt_of_le_of_lt hok.le hm
  unfold rcC
  cases e : fdK C.l s with
  | none =>
    have HE : Hid (fdK C.l s = none) := e
    have e1 : hasK C s = false := by unfold hasK; rw [e]; rfl
    have e2 : getV C s = 0 := by unfold getV; rw [e]; rfl
    have e3 : getC C s = ⟨C.most, C.l, C.hits, C.miss + 1, C.puts⟩ := by unfold getC; rw [e]
    have HWO : Hid (woK C.l s = C.l) := wo_same (fd_none.1 e)
    rw [e1, e2, e3]
    have q1 : IntKind.i64.wrap ((C.miss : Int) + 1) = (C.miss : Int) + 1 := by have := hc.2; rw [IntKind.wrap_i64]; omega
    clear hr hok hm e e1 e2 e3 hc
    go_enter Try.func20, Try.ntmps20
    have tk0 : Hid True := trivial
    have tk1 : Hid True := trivial
    have tk2 : Hid True := trivial
    have tk3 : Hid True := trivial
    have tk4 : Hid True := trivial
    have tk5 : Hid True := trivial
    have tk6 : Hid True := trivial
    have tk7 : Hid True := trivial
    have tk8 : Hid True := trivial
    go_wp2_with (first
      | (clear tk0; with_reducible refine wpSeq_boxW 27 (.tmp 0) [.int .i64 (C.most : Int), vk, vv, .int .i64 (C.hits : Int), .int .i64 (C.miss : Int)] ?_ ?_ ?_ ?_
         · rfl
         · rfl
         · rfl
         intro gc y0 nn
         have HC : Hid (Blk y0 gc [.int .i64 (C.most : Int), vk, vv, .int .i64 (C.hits : Int), .int .i64 (C.miss : Int)] 27) := nn.blk
         have HBL : Hid (Below w.heap.size w y0) := nn.below
         clear nn)
      | (clear tk1; with_reducible refine wpSeq_allocRc ?_ ?_ ?_
         · rfl
         · rfl
         intro gr y1 nn
         have HR : Hid (Blk y1 gr zRc 27) := nn.blk
         have HGR : Hid (w.heap.size ≤ gr) := Nat.le_trans HBL.out.size nn.ge
         replace HC : Hid (Blk y1 gc [.int .i64 (C.most : Int), vk, vv, .int .i64 (C.hits : Int), .int .i64 (C.miss : Int)] 27) := HC.out.below nn.below HC.out.lt
         replace HBL : Hid (Below w.heap.size w y1) := HBL.out.trans (nn.below.mono HBL.out.size)
         clear nn)
      | (clear tk2; with_reducible refine load_rc (.tmp 2) gc _ _ _ _ _ HC.out ?_ ?_ ?_ ?_
         · rfl
         · rfl
         · rfl)
      | (clear tk3; go_at_call 28; refine (kWithout_any (C.most : Int) (C.hits : Int) (C.miss : Int) (HK.out.k.below HBL.out) (HK.out.v.below HBL.out) HND.out HNL.out s).mono ?_; rintro e0 y2 ⟨vk2, vv2, rfl, rf2, bl2⟩
         rw [HE.out]
         simp only [Option.getD_none, Option.isSome_none]
         obtain ⟨a1, c1, hv1⟩ := rf2.k.form
         obtain ⟨a2, c2, hv2⟩ := rf2.v.form
         obtain ⟨n1, HN1⟩ : ∃ z, Hid (z = (kyV (woK C.l s)).length) := ⟨_, rfl⟩
         obtain ⟨n2, HN2⟩ : ∃ z, Hid (z = (vlV (woK C.l s)).length) := ⟨_, rfl⟩
         rw [← HN1.out] at hv1
         rw [← HN2.out] at hv2
         subst hv1 hv2
         have HRF : Hid (RfO y2 y1.heap.size (woK C.l s) (.slice a1 n1 c1) (.slice a2 n2 c2)) := rf2
         have HS1 : Hid (w.heap.size ≤ y1.heap.size ∧ y1.heap.size ≤ y2.heap.size) := ⟨HBL.out.size, bl2.size⟩
         replace HC : Hid (Blk y2 gc [.int .i64 (C.most : Int), vk, vv, .int .i64 (C.hits : Int), .int .i64 (C.miss : Int)] 27) := HC.out.below bl2 HC.out.lt
         replace HR : Hid (Blk y2 gr zRc 27) := HR.out.below bl2 HR.out.lt
         replace HBL : Hid (Below w.heap.size w y2) := HBL.out.trans (bl2.mono HBL.out.size)
         clear rf2 bl2)
      | (clear tk4; with_reducible refine wpSeq_allocRc ?_ ?_ ?_
         · rfl
         · rfl
         intro go y3 nn
         have HO : Hid (Blk y3 go zRc 27) := nn.blk
         have HGO : Hid (y2.heap.size ≤ go) := nn.ge
         have HNC : Hid (gc ≠ go) := fun e => absurd HC.out.lt (by have := nn.ge; omega)
         have HNR : Hid (gr ≠ go) := fun e => absurd HR.out.lt (by have := nn.ge; omega)
         replace HC : Hid (Blk y3 gc [.int .i64 (C.most : Int), vk, vv, .int .i64 (C.hits : Int), .int .i64 (C.miss : Int)] 27) := HC.out.below nn.below HC.out.lt
         replace HR : Hid (Blk y3 gr zRc 27) := HR.out.below nn.below HR.out.lt
         replace HBL : Hid (Below w.heap.size w y3) := HBL.out.trans (nn.below.mono HBL.out.size)
         replace HRF : Hid (RfO y3 y1.heap.size (woK C.l s) (.slice a1 n1 c1) (.slice a2 n2 c2)) := ⟨HRF.out.k.below nn.below, HRF.out.v.below nn.below⟩
         replace HS1 : Hid (w.heap.size ≤ y1.heap.size ∧ y1.heap.size ≤ y3.heap.size ∧ y1.heap.size ≤ go) := ⟨HS1.out.1, Nat.le_trans HS1.out.2 nn.below.size, Nat.le_trans HS1.out.2 nn.ge⟩
         clear nn)
      | (clear tk5; with_reducible refine wpSeq_storeRow 27 (.tmp 7) (.tmp 14) go zRc [.int .i64 (C.most : Int), .slice a1 n1 c1, .slice a2 n2 c2, .int .i64 (C.hits : Int), .int .i64 (C.miss : Int)] HO.out rfl (info_rc _ _ _ _ _) ?_ ?_ ?_ ?_ ?_ ?_
         · exact one_rc _ _ _ ⟨rfl, rfl, rfl⟩ _ _ _ _ _ _
         · rfl
         · rfl
         · rfl
         · rfl
         intro y4 sr
         replace HRF : Hid (RfO y4 y1.heap.size (woK C.l s) (.slice a1 n1 c1) (.slice a2 n2 c2)) := ⟨HRF.out.k.only HO.out (by decide) sr.only, HRF.out.v.only HO.out (by decide) sr.only⟩
         replace HC : Hid (Blk y4 gc [.int .i64 (C.most : Int), vk, vv, .int .i64 (C.hits : Int), .int .i64 (C.miss : Int)] 27) := HC.out.only sr.only HNC.out
         replace HR : Hid (Blk y4 gr zRc 27) := HR.out.only sr.only HNR.out
         replace HBL : Hid (Below w.heap.size w y4) := HBL.out.trans (sr.only.below (Nat.le_trans HS1.out.1 HS1.out.2.2) HBL.out.size)
         replace HO : Hid (Blk y4 go [.int .i64 (C.most : Int), .slice a1 n1 c1, .slice a2 n2 c2, .int .i64 (C.hits : Int), .int .i64 (C.miss : Int)] 27) := sr.blk
         replace HS1 : Hid (w.heap.size ≤ y1.heap.size ∧ y1.heap.size ≤ y4.heap.size ∧ y1.heap.size ≤ go) := ⟨HS1.out.1, Nat.le_trans HS1.out.2.1 sr.only.size, HS1.out.2.2⟩
         have c4 : y4.cell? ⟨go, 4, none⟩ = some (.int .i64 (C.miss : Int)) := HO.out.cell 4
         have c3 : y4.cell? ⟨go, 3, none⟩ = some (.int .i64 (C.hits : Int)) := HO.out.cell 3
         clear sr)
      | (clear tk6; with_reducible refine wpSeq_cellI (.tmp 22) (.tmp 21) go 4 [.int .i64 (C.most : Int), .slice a1 n1 c1, .slice a2 n2 c2, .int .i64 (C.hits : Int), .int .i64 (C.miss : Int)] ((C.miss : Int) + 1) 27 (by simp) HO.out ?_ ?_ ?_ ?_ ?_
         · rfl
         · rfl
         · rfl
         · rfl
         intro y5 b5 o5
         replace HRF : Hid (RfO y5 y1.heap.size (woK C.l s) (.slice a1 n1 c1) (.slice a2 n2 c2)) := ⟨HRF.out.k.only HO.out (by decide) o5, HRF.out.v.only HO.out (by decide) o5⟩
         replace HR : Hid (Blk y5 gr zRc 27) := HR.out.only o5 HNR.out
         replace HBL : Hid (Below w.heap.size w y5) := HBL.out.trans (o5.below (Nat.le_trans HS1.out.1 HS1.out.2.2) HBL.out.size)
         replace HO : Hid (Blk y5 go [.int .i64 (C.most : Int), .slice a1 n1 c1, .slice a2 n2 c2, .int .i64 (C.hits : Int), .int .i64 ((C.miss : Int) + 1)] 27) := b5
         replace HS1 : Hid (w.heap.size ≤ y1.heap.size ∧ y1.heap.size ≤ y5.heap.size ∧ y1.heap.size ≤ go) := ⟨HS1.out.1, Nat.le_trans HS1.out.2.1 o5.size, HS1.out.2.2⟩
         clear b5 o5 c3 c4 HC)
      | (clear tk7; with_reducible refine load_rc (.tmp 7) go _ _ _ _ _ HO.out ?_ ?_ ?_ ?_
         · rfl
         · rfl
         · rfl)
      | (clear tk8; with_reducible refine wpSeq_storeRow 27 (.tmp 4) (.tmp 23) gr zRc [.int .i64 (C.most : Int), .slice a1 n1 c1, .slice a2 n2 c2, .int .i64 (C.hits : Int), .int .i64 ((C.miss : Int) + 1)] HR.out rfl (info_rc _ _ _ _ _) ?_ ?_ ?_ ?_ ?_ ?_
         · exact one_rc _ _ _ ⟨rfl, rfl, rfl⟩ _ _ _ _ _ _
         · rfl
         · rfl
         · rfl
         · rfl
         intro y6 sr
         replace HRF : Hid (RfO y6 y1.heap.size (woK C.l s) (.slice a1 n1 c1) (.slice a2 n2 c2)) := ⟨HRF.out.k.only HR.out (by decide) sr.only, HRF.out.v.only HR.out (by decide) sr.only⟩
         replace HBL : Hid (Below w.heap.size w y6) := HBL.out.trans (sr.only.below (HGR.out) HBL.out.size)
         have HF : Hid (Blk y6 gr [.int .i64 (C.most : Int), .slice a1 n1 c1, .slice a2 n2 c2, .int .i64 (C.hits : Int), .int .i64 ((C.miss : Int) + 1)] 27) := sr.blk
         clear sr))
    refine bodyPost_ret (results_row_tmp2 rfl _ _ gr _ rfl (run_loadVar_mid (P := Try.prog) _ gr 0 27 _ _ HF.out.range Try.underlying27 rfl (info_rc _ _ _ _ _))) rfl ?_
    refine ⟨.slice a1 n1 c1, .slice a2 n2 c2, rfl, ⟨?_, ?_⟩, HBL.out⟩
    · have := HRF.out.k.rd; rw [HWO.out] at this; exact this
    · have := HRF.out.v.rd; rw [HWO.out] at this; exact this
  | some v =>
    have HE : Hid (fdK C.l s = some v) := e
    have e1 : hasK C s = true := by unfold hasK; rw [e]; rfl
    have e2 : getV C s = v := by unfold getV; rw [e]; rfl
    have e3 : getC C s = ⟨C.most, woK C.l s ++ [(s, v)], C.hits + 1, C.miss, C.puts⟩ := by unfold getC; rw [e]
    rw [e1, e2, e3]
    have q1 : IntKind.i64.wrap ((C.hits : Int) + 1) = (C.hits : Int) + 1 := by have := hc.1; rw [IntKind.wrap_i64]; omega
    clear hr hok hm e e1 e2 e3 hc
    go_enter Try.func20, Try.ntmps20
    have tk0 : Hid True := trivial
    have tk1 : Hid True := trivial
    have tk2 : Hid True := trivial
    have tk3 : Hid True := trivial
    have tk4 : Hid True := trivial
    have tk5 : Hid True := trivial
    have tk6 : Hid True := trivial
    have tk7 : Hid True := trivial
    have tk8 : Hid True := trivial
    have tk9 : Hid True := trivial
    go_wp2_with (first
      | (clear tk0; with_reducible refine wpSeq_boxW 27 (.tmp 0) [.int .i64 (C.most : Int), vk, vv, .int .i64 (C.hits : Int), .int .i64 (C.miss : Int)] ?_ ?_ ?_ ?_
         · rfl
         · rfl
         · rfl
         intro gc y0 nn
         have HC : Hid (Blk y0 gc [.int .i64 (C.most : Int), vk, vv, .int .i64 (C.hits : Int), .int .i64 (C.miss : Int)] 27) := nn.blk
         have HBL : Hid (Below w.heap.size w y0) := nn.below
         clear nn)
      | (clear tk1; with_reducible refine wpSeq_allocRc ?_ ?_ ?_
         · rfl
         · rfl
         intro gr y1 nn
         have HR : Hid (Blk y1 gr zRc 27) := nn.blk
         have HGR : Hid (w.heap.size ≤ gr) := Nat.le_trans HBL.out.size nn.ge
         replace HC : Hid (Blk y1 gc [.int .i64 (C.most : Int), vk, vv, .int .i64 (C.hits : Int), .int .i64 (C.miss : Int)] 27) := HC.out.below nn.below HC.out.lt
         replace HBL : Hid (Below w.heap.size w y1) := HBL.out.trans (nn.below.mono HBL.out.size)
         clear nn)
      | (clear tk2; with_reducible refine load_rc (.tmp 2) gc _ _ _ _ _ HC.out ?_ ?_ ?_ ?_
         · rfl
         · rfl
         · rfl)
      | (clear tk3; go_at_call 28; refine (kWithout_any (C.most : Int) (C.hits : Int) (C.miss : Int) (HK.out.k.below HBL.out) (HK.out.v.below HBL.out) HND.out HNL.out s).mono ?_; rintro e0 y2 ⟨vk2, vv2, rfl, rf2, bl2⟩
         rw [HE.out]
         simp only [Option.getD_some, Option.isSome_some]
         obtain ⟨a1, c1, hv1⟩ := rf2.k.form
         obtain ⟨a2, c2, hv2⟩ := rf2.v.form
         obtain ⟨n1, HN1⟩ : ∃ z, Hid (z = (kyV (woK C.l s)).length) := ⟨_, rfl⟩
         obtain ⟨n2, HN2⟩ : ∃ z, Hid (z = (vlV (woK C.l s)).length) := ⟨_, rfl⟩
         rw [← HN1.out] at hv1
         rw [← HN2.out] at hv2
         subst hv1 hv2
         have HRF : Hid (RfO y2 y1.heap.size (woK C.l s) (.slice a1 n1 c1) (.slice a2 n2 c2)) := rf2
         have HS1 : Hid (w.heap.size ≤ y1.heap.size ∧ y1.heap.size ≤ y2.heap.size) := ⟨HBL.out.size, bl2.size⟩
         replace HC : Hid (Blk y2 gc [.int .i64 (C.most : Int), vk, vv, .int .i64 (C.hits : Int), .int .i64 (C.miss : Int)] 27) := HC.out.below bl2 HC.out.lt
         replace HR : Hid (Blk y2 gr zRc 27) := HR.out.below bl2 HR.out.lt
         replace HBL : Hid (Below w.heap.size w y2) := HBL.out.trans (bl2.mono HBL.out.size)
         clear rf2 bl2)
      | (clear tk4; with_reducible refine wpSeq_allocRc ?_ ?_ ?_
         · rfl
         · rfl
         intro go y3 nn
         have HO : Hid (Blk y3 go zRc 27) := nn.blk
         have HGO : Hid (y2.heap.size ≤ go) := nn.ge
         have HNC : Hid (gc ≠ go) := fun e => absurd HC.out.lt (by have := nn.ge; omega)
         have HNR : Hid (gr ≠ go) := fun e => absurd HR.out.lt (by have := nn.ge; omega)
         replace HC : Hid (Blk y3 gc [.int .i64 (C.most : Int), vk, vv, .int .i64 (C.hits : Int), .int .i64 (C.miss : Int)] 27) := HC.out.below nn.below HC.out.lt
         replace HR : Hid (Blk y3 gr zRc 27) := HR.out.below nn.below HR.out.lt
         replace HBL : Hid (Below w.heap.size w y3) := HBL.out.trans (nn.below.mono HBL.out.size)
         replace HRF : Hid (RfO y3 y1.heap.size (woK C.l s) (.slice a1 n1 c1) (.slice a2 n2 c2)) := ⟨HRF.out.k.below nn.below, HRF.out.v.below nn.below⟩
         replace HS1 : Hid (w.heap.size ≤ y1.heap.size ∧ y1.heap.size ≤ y3.heap.size ∧ y1.heap.size ≤ go) := ⟨HS1.out.1, Nat.le_trans HS1.out.2 nn.below.size, Nat.le_trans HS1.out.2 nn.ge⟩
         clear nn)
      | (clear tk5; with_reducible refine wpSeq_storeRow 27 (.tmp 7) (.tmp 14) go zRc [.int .i64 (C.most : Int), .slice a1 n1 c1, .slice a2 n2 c2, .int .i64 (C.hits : Int), .int .i64 (C.miss : Int)] HO.out rfl (info_rc _ _ _ _ _) ?_ ?_ ?_ ?_ ?_ ?_
         · exact one_rc _ _ _ ⟨rfl, rfl, rfl⟩ _ _ _ _ _ _
         · rfl
         · rfl
         · rfl
         · rfl
         intro y4 sr
         replace HRF : Hid (RfO y4 y1.heap.size (woK C.l s) (.slice a1 n1 c1) (.slice a2 n2 c2)) := ⟨HRF.out.k.only HO.out (by decide) sr.only, HRF.out.v.only HO.out (by decide) sr.only⟩
         replace HC : Hid (Blk y4 gc [.int .i64 (C.most : Int), vk, vv, .int .i64 (C.hits : Int), .int .i64 (C.miss : Int)] 27) := HC.out.only sr.only HNC.out
         replace HR : Hid (Blk y4 gr zRc 27) := HR.out.only sr.only HNR.out
         replace HBL : Hid (Below w.heap.size w y4) := HBL.out.trans (sr.only.below (Nat.le_trans HS1.out.1 HS1.out.2.2) HBL.out.size)
         replace HO : Hid (Blk y4 go [.int .i64 (C.most : Int), .slice a1 n1 c1, .slice a2 n2 c2, .int .i64 (C.hits : Int), .int .i64 (C.miss : Int)] 27) := sr.blk
         replace HS1 : Hid (w.heap.size ≤ y1.heap.size ∧ y1.heap.size ≤ y4.heap.size ∧ y1.heap.size ≤ go) := ⟨HS1.out.1, Nat.le_trans HS1.out.2.1 sr.only.size, HS1.out.2.2⟩
         have c4 : y4.cell? ⟨go, 4, none⟩ = some (.int .i64 (C.miss : Int)) := HO.out.cell 4
         have c3 : y4.cell? ⟨go, 3, none⟩ = some (.int .i64 (C.hits : Int)) := HO.out.cell 3
         clear sr)
      | (clear tk6; with_reducible refine wpSeq_cellI (.tmp 27) (.tmp 26) go 3 [.int .i64 (C.most : Int), .slice a1 n1 c1, .slice a2 n2 c2, .int .i64 (C.hits : Int), .int .i64 (C.miss : Int)] ((C.hits : Int) + 1) 27 (by simp) HO.out ?_ ?_ ?_ ?_ ?_
         · rfl
         · rfl
         · rfl
         · rfl
         intro y5 b5 o5
         replace HRF : Hid (RfO y5 y1.heap.size (woK C.l s) (.slice a1 n1 c1) (.slice a2 n2 c2)) := ⟨HRF.out.k.only HO.out (by decide) o5, HRF.out.v.only HO.out (by decide) o5⟩
         replace HR : Hid (Blk y5 gr zRc 27) := HR.out.only o5 HNR.out
         replace HBL : Hid (Below w.heap.size w y5) := HBL.out.trans (o5.below (Nat.le_trans HS1.out.1 HS1.out.2.2) HBL.out.size)
         replace HO : Hid (Blk y5 go [.int .i64 (C.most : Int), .slice a1 n1 c1, .slice a2 n2 c2, .int .i64 ((C.hits : Int) + 1), .int .i64 (C.miss : Int)] 27) := b5
         replace HS1 : Hid (w.heap.size ≤ y1.heap.size ∧ y1.heap.size ≤ y5.heap.size ∧ y1.heap.size ≤ go) := ⟨HS1.out.1, Nat.le_trans HS1.out.2.1 o5.size, HS1.out.2.2⟩
         clear b5 o5 c3 c4 HC)
      | (clear tk7; with_reducible refine load_rc (.tmp 7) go _ _ _ _ _ HO.out ?_ ?_ ?_ ?_
         · rfl
         · rfl
         · rfl)
      | (clear tk8; go_at_call 29; refine (kBehind_any (.int .i64 (C.most : Int)) (.int .i64 ((C.hits : Int) + 1)) (.int .i64 (C.miss : Int)) rfl rfl rfl HRF.out HS1.out.2.1 (Nat.lt_of_le_of_lt (wo_len _ _) HNL.out) s v).mono ?_; rintro e6 y6 ⟨vk6, vv6, rfl, rf6, bl6, kp6⟩
         obtain ⟨a3, c3, hv3⟩ := rf6.k.form
         obtain ⟨a4, c4, hv4⟩ := rf6.v.form
         obtain ⟨n3, HN3⟩ : ∃ z, Hid (z = (kyV (woK C.l s ++ [(s, v)])).length) := ⟨_, rfl⟩
         obtain ⟨n4, HN4⟩ : ∃ z, Hid (z = (vlV (woK C.l s ++ [(s, v)])).length) := ⟨_, rfl⟩
         rw [← HN3.out] at hv3
         rw [← HN4.out] at hv4
         subst hv3 hv4
         replace HRF : Hid (RfO y6 y1.heap.size (woK C.l s ++ [(s, v)]) (.slice a3 n3 c3) (.slice a4 n4 c4)) := rf6
         replace HR : Hid (Blk y6 gr zRc 27) := kp6 gr _ HR.out
         replace HBL : Hid (Below w.heap.size w y6) := HBL.out.trans (bl6.mono HS1.out.1)
         clear rf6 bl6 kp6)
      | (clear tk9; with_reducible refine wpSeq_storeRow 27 (.tmp 4) (.tmp 31) gr zRc [.int .i64 (C.most : Int), .slice a3 n3 c3, .slice a4 n4 c4, .int .i64 ((C.hits : Int) + 1), .int .i64 (C.miss : Int)] HR.out rfl (info_rc _ _ _ _ _) ?_ ?_ ?_ ?_ ?_ ?_
         · exact one_rc _ _ _ ⟨rfl, rfl, rfl⟩ _ _ _ _ _ _
         · rfl
         · rfl
         · rfl
         · rfl
         intro y7 sr
         replace HRF : Hid (RfO y7 y1.heap.size (woK C.l s ++ [(s, v)]) (.slice a3 n3 c3) (.slice a4 n4 c4)) := ⟨HRF.out.k.only HR.out (by decide) sr.only, HRF.out.v.only HR.out (by decide) sr.only⟩
         replace HBL : Hid (Below w.heap.size w y7) := HBL.out.trans (sr.only.below (HGR.out) HBL.out.size)
         have HF : Hid (Blk y7 gr [.int .i64 (C.most : Int), .slice a3 n3 c3, .slice a4 n4 c4, .int .i64 ((C.hits : Int) + 1), .int .i64 (C.miss : Int)] 27) := sr.blk
         clear sr))
    refine bodyPost_ret (results_row_tmp2 rfl _ _ gr _ rfl (run_loadVar_mid (P := Try.prog) _ gr 0 27 _ _ HF.out.range Try.underlying27 rfl (info_rc _ _ _ _ _))) rfl ?_
    exact ⟨.slice a3 n3 c3, .slice a4 n4 c4, rfl, ⟨HRF.out.k.rd, HRF.out.v.rd⟩, HBL.out⟩
set_option maxRecDepth 100000 in
set_option maxHeartbeats 2000000 in
theorem kDrop_any {w : World} {C : KaT} {vk vv : Value} (hr : RfV w C vk vv) (hok : okC C) (hm : C.most < 1000000) (s : ByteArray) :
    Calls Try.prog 22 #[.agg (rcC C vk vv).toArray, .string s] w fun r w' => ∃ vk' vv', r = .returned (.tuple #[.agg (rcC (dropC C s) vk' vv').toArray, .bool (hasK C s)]) ∧ RfV w' (dropC C s) vk' vv' ∧ Below w.heap.size w w' := by
  have HK : Hid (RfV w C vk vv) := hr
  have HND : Hid ((C.l.map (·.1)).Nodup) := hok.nd
  have HNL : Hid (C.l.length < 1000000) := Nat.lt_of_le_of_lt hok.le hm
  unfold rcC
  obtain ⟨hb, HHB⟩ : ∃ b, Hid (b = hasK C s) := ⟨_, rfl⟩
  obtain ⟨v0, HV0⟩ : ∃ b, Hid (b = (fdK C.l s).getD 0) := ⟨_, rfl⟩
  rw [← HHB.out]
  clear hr hok hm
  go_enter Try.func22, Try.ntmps22
  have tk0 : Hid True := trivial
  have tk1 : Hid True := trivial
  have tk2 : Hid True := trivial
  have tk3 : Hid True := trivial
  have tk4 : Hid True := trivial
  have tk5 : Hid True := trivial
  have tk6 : Hid True := trivial
  have tk7 : Hid True := trivial
  go_wp2_with (first
    | (clear tk0; with_reducible refine wpSeq_boxW 27 (.tmp 0) [.int .i64 (C.most : Int), vk, vv, .int .i64 (C.hits : Int), .int .i64 (C.miss : Int)] ?_ ?_ ?_ ?_
       · rfl
       · rfl
       · rfl
       intro gc y0 nn
       have HC : Hid (Blk y0 gc [.int .i64 (C.most : Int), vk, vv, .int .i64 (C.hits : Int), .int .i64 (C.miss : Int)] 27) := nn.blk
       have HBL : Hid (Below w.heap.size w y0) := nn.below
       clear nn)
    | (clear tk1; with_reducible refine wpSeq_allocRc ?_ ?_ ?_
       · rfl
       · rfl
       intro gr y1 nn
       have HR : Hid (Blk y1 gr zRc 27) := nn.blk
       have HGR : Hid (w.heap.size ≤ gr) := Nat.le_trans HBL.out.size nn.ge
       replace HC : Hid (Blk y1 gc [.int .i64 (C.most : Int), vk, vv, .int .i64 (C.hits : Int), .int .i64 (C.miss : Int)] 27) := HC.out.below nn.below HC.out.lt
       replace HBL : Hid (Below w.heap.size w y1) := HBL.out.trans (nn.below.mono HBL.out.size)
       clear nn)
    | (clear tk2; with_reducible refine load_rc (.tmp 2) gc _ _ _ _ _ HC.out ?_ ?_ ?_ ?_
       · rfl
       · rfl
       · rfl)
    | (clear tk3; go_at_call 28; refine (kWithout_any (C.most : Int) (C.hits : Int) (C.miss : Int) (HK.out.k.below HBL.out) (HK.out.v.below HBL.out) HND.out HNL.out s).mono ?_; rintro e0 y2 ⟨vk2, vv2, rfl, rf2, bl2⟩
       rw [← HV0.out, show (fdK C.l s).isSome = hasK C s from rfl, ← HHB.out]
       obtain ⟨a1, c1, hv1⟩ := rf2.k.form
       obtain ⟨a2, c2, hv2⟩ := rf2.v.form
       obtain ⟨n1, HN1⟩ : ∃ z, Hid (z = (kyV (woK C.l s)).length) := ⟨_, rfl⟩
       obtain ⟨n2, HN2⟩ : ∃ z, Hid (z = (vlV (woK C.l s)).length) := ⟨_, rfl⟩
       rw [← HN1.out] at hv1
       rw [← HN2.out] at hv2
       subst hv1 hv2
       have HRF : Hid (RfO y2 y1.heap.size (woK C.l s) (.slice a1 n1 c1) (.slice a2 n2 c2)) := rf2
       have HS1 : Hid (w.heap.size ≤ y1.heap.size ∧ y1.heap.size ≤ y2.heap.size) := ⟨HBL.out.size, bl2.size⟩
       replace HC : Hid (Blk y2 gc [.int .i64 (C.most : Int), vk, vv, .int .i64 (C.hits : Int), .int .i64 (C.miss : Int)] 27) := HC.out.below bl2 HC.out.lt
       replace HR : Hid (Blk y2 gr zRc 27) := HR.out.below bl2 HR.out.lt
       replace HBL : Hid (Below w.heap.size w y2) := HBL.out.trans (bl2.mono HBL.out.size)
       clear rf2 bl2)
    | (clear tk4; with_reducible refine wpSeq_allocRc ?_ ?_ ?_
       · rfl
       · rfl
       intro go y3 nn
       have HO : Hid (Blk y3 go zRc 27) := nn.blk
       have HGO : Hid (y2.heap.size ≤ go) := nn.ge
       have HNC : Hid (gc ≠ go) := fun e => absurd HC.out.lt (by have := nn.ge; omega)
       have HNR : Hid (gr ≠ go) := fun e => absurd HR.out.lt (by have := nn.ge; omega)
       replace HC : Hid (Blk y3 gc [.int .i64 (C.most : Int), vk, vv, .int .i64 (C.hits : Int), .int .i64 (C.miss : Int)] 27) := HC.out.below nn.below HC.out.lt
       replace HR : Hid (Blk y3 gr zRc 27) := HR.out.below nn.below HR.out.lt
       replace HBL : Hid (Below w.heap.size w y3) := HBL.out.trans (nn.below.mono HBL.out.size)
       replace HRF : Hid (RfO y3 y1.heap.size (woK C.l s) (.slice a1 n1 c1) (.slice a2 n2 c2)) := ⟨HRF.out.k.below nn.below, HRF.out.v.below nn.below⟩
       replace HS1 : Hid (w.heap.size ≤ y1.heap.size ∧ y1.heap.size ≤ y3.heap.size ∧ y1.heap.size ≤ go) := ⟨HS1.out.1, Nat.le_trans HS1.out.2 nn.below.size, Nat.le_trans HS1.out.2 nn.ge⟩
       clear nn)
    | (clear tk5; with_reducible refine wpSeq_storeRow 27 (.tmp 6) (.tmp 13) go zRc [.int .i64 (C.most : Int), .slice a1 n1 c1, .slice a2 n2 c2, .int .i64 (C.hits : Int), .int .i64 (C.miss : Int)] HO.out rfl (info_rc _ _ _ _ _) ?_ ?_ ?_ ?_ ?_ ?_
       · exact one_rc _ _ _ ⟨rfl, rfl, rfl⟩ _ _ _ _ _ _
       · rfl
       · rfl
       · rfl
       · rfl
       intro y4 sr
       replace HRF : Hid (RfO y4 y1.heap.size (woK C.l s) (.slice a1 n1 c1) (.slice a2 n2 c2)) := ⟨HRF.out.k.only HO.out (by decide) sr.only, HRF.out.v.only HO.out (by decide) sr.only⟩
       replace HC : Hid (Blk y4 gc [.int .i64 (C.most : Int), vk, vv, .int .i64 (C.hits : Int), .int .i64 (C.miss : Int)] 27) := HC.out.only sr.only HNC.out
       replace HR : Hid (Blk y4 gr zRc 27) := HR.out.only sr.only HNR.out
       replace HBL : Hid (Below w.heap.size w y4) := HBL.out.trans (sr.only.below (Nat.le_trans HS1.out.1 HS1.out.2.2) HBL.out.size)
       replace HO : Hid (Blk y4 go [.int .i64 (C.most : Int), .slice a1 n1 c1, .slice a2 n2 c2, .int .i64 (C.hits : Int), .int .i64 (C.miss : Int)] 27) := sr.blk
       replace HS1 : Hid (w.heap.size ≤ y1.heap.size ∧ y1.heap.size ≤ y4.heap.size ∧ y1.heap.size ≤ go) := ⟨HS1.out.1, Nat.le_trans HS1.out.2.1 sr.only.size, HS1.out.2.2⟩
       have c4 : y4.cell? ⟨go, 4, none⟩ = some (.int .i64 (C.miss : Int)) := HO.out.cell 4
       have c3 : y4.cell? ⟨go, 3, none⟩ = some (.int .i64 (C.hits : Int)) := HO.out.cell 3
       clear sr)
    | (clear tk6; with_reducible refine load_rc (.tmp 6) go _ _ _ _ _ HO.out ?_ ?_ ?_ ?_
       · rfl
       · rfl
       · rfl)
    | (clear tk7; with_reducible refine wpSeq_storeRow 27 (.tmp 4) (.tmp 16) gr zRc [.int .i64 (C.most : Int), .slice a1 n1 c1, .slice a2 n2 c2, .int .i64 (C.hits : Int), .int .i64 (C.miss : Int)] HR.out rfl (info_rc _ _ _ _ _) ?_ ?_ ?_ ?_ ?_ ?_
       · exact one_rc _ _ _ ⟨rfl, rfl, rfl⟩ _ _ _ _ _ _
       · rfl
       · rfl
       · rfl
       · rfl
       intro y6 sr
       replace HRF : Hid (RfO y6 y1.heap.size (woK C.l s) (.slice a1 n1 c1) (.slice a2 n2 c2)) := ⟨HRF.out.k.only HR.out (by decide) sr.only, HRF.out.v.only HR.out (by decide) sr.only⟩
       replace HBL : Hid (Below w.heap.size w y6) := HBL.out.trans (sr.only.below (HGR.out) HBL.out.size)
       have HF : Hid (Blk y6 gr [.int .i64 (C.most : Int), .slice a1 n1 c1, .slice a2 n2 c2, .int .i64 (C.hits : Int), .int .i64 (C.miss : Int)] 27) := sr.blk
       clear sr))
  refine bodyPost_ret (results_row_tmp rfl _ _ gr _ rfl (run_loadVar_mid (P := Try.prog) _ gr 0 27 _ _ HF.out.range Try.underlying27 rfl (info_rc _ _ _ _ _))) rfl ?_
  exact ⟨.slice a1 n1 c1, .slice a2 n2 c2, rfl, ⟨HRF.out.k.rd, HRF.out.v.rd⟩, HBL.out⟩
end Go.Proofs.Ytgmemibhddnjjaa

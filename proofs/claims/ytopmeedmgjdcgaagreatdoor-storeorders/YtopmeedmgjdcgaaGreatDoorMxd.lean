/- Texts that the proof leans on, one behind the other: JournalDoes, over what journal's functions do (layer 14). The walk of journal's Open, as it landed (layer 14). Acts in memory; strings held against each other (layer 15). .. -/
import Derived.Test.YtopmeedmgjdcgaaGreatDoorMxc
import Derived.Test.YtopmeedmgjdcgaaGreatDoorMxa
import Derived.Lib.Strings
import Derived.Shelf.Spec.SlicesInsertGrow
import Derived.Maps.AppendAt
import Derived.Defers
import Derived.Recover
import Derived.Laws.Pointers
import Derived.BigQuiet
import Derived.Deep.RegionHeld3
import Derived.Laws.Rows
/- JournalDoes, over what journal's functions do (layer 14). -/
namespace Go.Proofs.YtopmeedmgjdcgaaGreatDoor
open Go.RowKit
set_option maxRecDepth 100000
set_option maxRecDepth 100000 in
set_option maxHeartbeats 3000000 in
theorem dkSize_pure {w : World} {g : Nat} {P : Nat → Prop} {D : DkT} (h : DkIs w g P D) : Calls Tryz.prog 22 #[.pointer (some ⟨g, 0, none⟩)] w fun r w' => r = .returned (.int .i64 (sizeD D : Int)) ∧ w' = w := by
  obtain ⟨gs, vw, fu, lf, hm, hP⟩ := h
  clear hP
  obtain ⟨n, HN⟩ : ∃ n, Hid (n = sizeD D) := ⟨_, rfl⟩
  have c0 : w.cell? ⟨g, 0, none⟩ = some (.slice (some ⟨gs, 0, none⟩) n n) := by rw [hm.me.cell 0, HN.out]; rfl
  rw [← HN.out]
  clear hm
  go_enter Tryz.func22, Tryz.ntmps22
  go_wp2
  go_ret
  exact ⟨rfl, rfl⟩
set_option maxRecDepth 100000 in
set_option maxHeartbeats 3000000 in
theorem dkDump_b {w : World} {g : Nat} {P : Nat → Prop} {D : DkT} (h : DkIs w g P D) (hw2 : D.wait.length ≤ 200) : Calls Tryz.prog 25 #[.pointer (some ⟨g, 0, none⟩)] w fun r w' => ∃ v, r = .returned v ∧ Reads w' v (dumpD D) ∧ Below w.heap.size w w' := by
  obtain ⟨gs, vw, fu, lf, hm, hP⟩ := h
  subst hP
  obtain ⟨n, HN⟩ : ∃ n, Hid (n = sizeD D) := ⟨_, rfl⟩
  obtain ⟨aw, cw, hvw⟩ := hm.wt.form
  obtain ⟨nw, HNW⟩ : ∃ n, Hid (n = D.wait.length) := ⟨_, rfl⟩
  rw [← HNW.out] at hvw
  subst hvw
  obtain ⟨dn, HDN⟩ : ∃ b, Hid (b = D.down) := ⟨_, rfl⟩
  have HM : Hid (DkM w g gs (.slice aw nw cw) fu lf D) := hm
  have HME : Hid (Blk w g [.slice (some ⟨gs, 0, none⟩) n n, .slice aw nw cw, .bool dn, .bool fu, .int .i64 lf] 94) := by have h9 := hm.me; rw [dkC, ← HN.out, ← HDN.out] at h9; exact h9
  have c0 : w.cell? ⟨g, 0, none⟩ = some (.slice (some ⟨gs, 0, none⟩) n n) := HME.out.cell 0
  have HW2 : Hid (nw ≤ 200) := by show _ ≤ _; rw [HNW.out]; exact hw2
  have HOK : Hid (okD D) := hm.ok
  obtain ⟨N, HNN⟩ : ∃ N : Nat, Hid (N = 64 * n) := ⟨_, rfl⟩
  have HSL : Hid (D.safe.length = 64 * n ∧ n ≤ 16384) := by rw [HN.out]; exact ⟨hm.ok.size.1, hm.ok.size.2.2⟩
  have HMK : Hid (N ≤ N ∧ N < 281474976710600) := ⟨Nat.le_refl _, by have h1 := HNN.out; have h2 := HSL.out.2; omega⟩
  clear hm hw2
  have f1 : IntKind.i64.wrap ((n : Int) * 64) = (N : Int) := by rw [IntKind.wrap_i64]; have h1 := HNN.out; have h2 := HSL.out.2; omega
  go_enter Tryz.func25, Tryz.ntmps25
  have tk0 : Hid True := trivial
  go_wp2_with (first
    | (clear tk0; with_reducible refine wpSeq_make (.tmp 12) (.tmp 12) N N HMK.out.1 HMK.out.2 ?_ ?_ ?_ ?_ ?_
       · rfl
       · rfl
       · rfl
       · rfl
       intro gb y1 z hz hge hzb hzl
       have HGE : Hid (w.heap.size ≤ gb) := hge
       have HBZ : Hid (Blk y1 gb (cb z) 5) := hzb
       have HBW : Hid (Below w.heap.size w y1) := hzl
       have HZL : Hid (z.length = 64 * n) := by show _ = _; rw [hz, List.length_replicate, HNN.out]
       have HME1 : Hid (Blk y1 g [.slice (some ⟨gs, 0, none⟩) n n, .slice aw nw cw, .bool dn, .bool fu, .int .i64 lf] 94) := HME.out.below hzl HME.out.lt
       replace c0 : y1.cell? ⟨g, 0, none⟩ = some (.slice (some ⟨gs, 0, none⟩) n n) := HME1.out.cell 0
       clear hz hge hzb hzl))
  clear c0 f1 HME1
  go_loopw [19] (fun i wr => ∃ k : Nat, k ≤ n ∧ i = .int .i64 (k : Int) ∧ Hid (Blk wr gb (cb (upTo D.safe z k)) 5) ∧ Hid (Below w.heap.size w wr)) (fun i _ => n - (intOf i).toNat)
  case atStart => exact ⟨0, Nat.zero_le _, rfl, by rw [upTo_zero]; exact HBZ, HBW⟩
  case round =>
    obtain ⟨k, hkn, rfl, HBK, HBB⟩ := hrel
    clear HBZ HBW
    have HMEr : Hid (Blk wr g [.slice (some ⟨gs, 0, none⟩) n n, .slice aw nw cw, .bool dn, .bool fu, .int .i64 lf] 94) := HME.out.below HBB.out HME.out.lt
    by_cases hlt : k < n
    case pos =>
      have hlk : (k : Int) < (n : Int) := by omega
      have f5 : IntKind.i64.wrap ((k : Int) + 1) = (k : Int) + 1 := by rw [IntKind.wrap_i64]; have := HSL.out.2; omega
      obtain ⟨o, HOO⟩ : ∃ o : Nat, Hid (o = 64 * k) := ⟨_, rfl⟩
      have f6 : IntKind.i64.wrap ((k : Int) * 64) = (o : Int) := by rw [IntKind.wrap_i64]; have := HSL.out.2; have := HOO.out; omega
      have HKN : Hid (k < n) := hlt
      have HON : Hid (o < N ∧ 64 ≤ N - o) := by have h1 := HOO.out; have h2 := HNN.out; exact ⟨by omega, by omega⟩
      have HS6 : Hid ((secD D.safe k).length = 64) := sec_len (by rw [HSL.out.1]; omega)
      go_wp2_with fail
      refine wp_region_held_drew (S := fun wx => Blk wx g [.slice (some ⟨gs, 0, none⟩) n n, .slice aw nw cw, .bool dn, .bool fu, .int .i64 lf] 94) (by kernel_rfl) HMEr.out.drew ?_
      intro hS
      have HB3 : Hid (Blk wr.drew gb (cb (upTo D.safe z k)) 5) := HBK.out.drew
      have HBB3 : Hid (Below w.heap.size w wr.drew) := HBB.out.drew
      clear HBK HBB HMEr
      change wpAnyH _ _ _ _ _ _ _ _ (World.drew wr)
      generalize World.drew wr = y3 at *
      refine wpAnyH_take (i := 0) (v := .slice (some ⟨gb, 0, none⟩) N N) rfl (by kernel_rfl) (by kernel_rfl) (by kernel_rfl) (fun _ _ _ h => h) (Or.inl ⟨by rfl, fun wx hx => by simp [go_sem]⟩) hS ?_
      simp only [Act.put, List.getElem_toArray, List.getElem_cons_zero, List.setIfInBounds_toArray, List.set_cons_zero, List.set_cons_succ]
      refine wpAnyH_take (i := 1) (v := .int .i64 (k : Int)) rfl (by kernel_rfl) (by kernel_rfl) (by kernel_rfl) (fun _ _ _ h => h) (Or.inl ⟨by rfl, fun wx hx => by simp [go_sem]⟩) hS ?_
      simp only [Act.put, List.getElem_toArray, List.getElem_cons_succ, List.getElem_cons_zero, List.setIfInBounds_toArray, List.set_cons_zero, List.set_cons_succ]
      refine wpAnyH_take (i := 2) (v := .int .i64 (o : Int)) rfl (by kernel_rfl) (by kernel_rfl) (by kernel_rfl) (fun _ _ _ h => h) (Or.inl ⟨by rfl, fun wx hx => by simp [go_sem, f6]⟩) hS ?_
      simp only [Act.put, List.getElem_toArray, List.getElem_cons_succ, List.getElem_cons_zero, List.setIfInBounds_toArray, List.set_cons_zero, List.set_cons_succ]
      refine wpAnyH_take (i := 3) (v := .slice (some ⟨gb, 0 + o, none⟩) (N - o) (N - o)) rfl (by kernel_rfl) (by kernel_rfl) (by kernel_rfl) (fun _ _ _ h => h) (Or.inl ⟨by rfl, fun wx hx => by exact cutFrom gb 0 N N o HON.out.1 (Nat.le_refl _) _ _ _ _ rfl rfl rfl _⟩) hS ?_
      simp only [Act.put, List.getElem_toArray, List.getElem_cons_succ, List.getElem_cons_zero, List.setIfInBounds_toArray, List.set_cons_zero, List.set_cons_succ]
      refine wpAnyH_take (i := 4) (v := .pointer (some ⟨g, 0, none⟩)) rfl (by kernel_rfl) (by kernel_rfl) (by kernel_rfl) (fun _ _ _ h => h) (Or.inl ⟨by rfl, fun wx hx => by simp [go_sem]⟩) hS ?_
      simp only [Act.put, List.getElem_toArray, List.getElem_cons_succ, List.getElem_cons_zero, List.setIfInBounds_toArray, List.set_cons_zero, List.set_cons_succ]
      refine wpAnyH_take (i := 5) (v := .pointer (some ⟨g, 0, none⟩)) rfl (by kernel_rfl) (by kernel_rfl) (by kernel_rfl) (fun _ _ _ h => h) (Or.inl ⟨by rfl, fun wx hx => by simp [go_sem]⟩) hS ?_
      simp only [Act.put, List.getElem_toArray, List.getElem_cons_succ, List.getElem_cons_zero, List.setIfInBounds_toArray, List.set_cons_zero, List.set_cons_succ]
      refine wpAnyH_take (i := 6) (v := .pointer (some ⟨g, 0, none⟩)) rfl (by kernel_rfl) (by kernel_rfl) (by kernel_rfl) (fun _ _ _ h => h) (Or.inl ⟨by rfl, fun wx hx => by simp [go_sem]⟩) hS ?_
      simp only [Act.put, List.getElem_toArray, List.getElem_cons_succ, List.getElem_cons_zero, List.setIfInBounds_toArray, List.set_cons_zero, List.set_cons_succ]
      refine wpAnyH_take (i := 7) (v := .slice (some ⟨gs, 0, none⟩) n n) rfl (by kernel_rfl) (by kernel_rfl) (by kernel_rfl) (fun _ _ _ h => h) (Or.inl ⟨by rfl, fun wx hx => by (have hc := hx.cell 0; simp at hc; simp [go_sem, hc])⟩) hS ?_
      simp only [Act.put, List.getElem_toArray, List.getElem_cons_succ, List.getElem_cons_zero, List.setIfInBounds_toArray, List.set_cons_zero, List.set_cons_succ]
      refine wpAnyH_take (i := 8) (v := .int .i64 (k : Int)) rfl (by kernel_rfl) (by kernel_rfl) (by kernel_rfl) (fun _ _ _ h => h) (Or.inl ⟨by rfl, fun wx hx => by simp [go_sem]⟩) hS ?_
      simp only [Act.put, List.getElem_toArray, List.getElem_cons_succ, List.getElem_cons_zero, List.setIfInBounds_toArray, List.set_cons_zero, List.set_cons_succ]
      refine wpAnyH_take (i := 9) (v := .pointer (some ⟨gs, 64 * k, none⟩)) rfl (by kernel_rfl) (by kernel_rfl) (by kernel_rfl) (fun _ _ _ h => h) (Or.inl ⟨by rfl, fun wx hx => by exact idxSec gs n k HKN.out _ _ _ _ rfl rfl rfl _⟩) hS ?_
      simp only [Act.put, List.getElem_toArray, List.getElem_cons_succ, List.getElem_cons_zero, List.setIfInBounds_toArray, List.set_cons_zero, List.set_cons_succ]
      refine wpAnyH_take (i := 10) (v := .slice (some ⟨gs, 64 * k, none⟩) 64 64) rfl (by kernel_rfl) (by kernel_rfl) (by kernel_rfl) (fun _ _ _ h => h) (Or.inl ⟨by rfl, fun wx hx => by exact sliceSec gs (64 * k) _ _ _ rfl rfl _⟩) hS ?_
      simp only [Act.put, List.getElem_toArray, List.getElem_cons_succ, List.getElem_cons_zero, List.setIfInBounds_toArray, List.set_cons_zero, List.set_cons_succ]
      have hsf := (HM.out.below HBB3.out).sf
      refine wpAnyH_copyO 11 (.tmp 25) (.tmp 32) gb (0 + o) (N - o) (N - o) gs (64 * k) 64 64 5 _ (secD D.safe k) HB3.out (by rw [HS6.out]; have := HON.out.2; omega) (by rw [HS6.out, cb_len, upTo_len HSL.out.1 HZL.out (Nat.le_of_lt HKN.out)]; have h1 := HON.out; have h2 := HNN.out; omega) (range_cells (sec_range hsf (by rw [HSL.out.1]; have := HKN.out; omega))) (by kernel_rfl) rfl (by rfl) rfl rfl rfl ?_
      intro y4 hb4 ho4
      refine ⟨hS.only ho4 (hS.neT HB3.out (by decide)), ?_⟩
      have HB4 : Hid (Blk y4 gb (cb (upTo D.safe z (k + 1))) 5) := by
        rw [Nat.zero_add, HOO.out, lay_sec HS6.out, upTo_step HSL.out.1 HKN.out] at hb4
        exact hb4
      have HBB4 : Hid (Below w.heap.size w y4) := HBB3.out.trans (ho4.below HGE.out HBB3.out.size)
      clear hb4 ho4 hsf hS HB3 HBB3
      simp only [Act.put, List.getElem_toArray, List.getElem_cons_succ, List.getElem_cons_zero]
      refine wpAnyH_done (by kernel_rfl) ?_ _
      go_wp2
      go_roundw
      case rel => exact ⟨k + 1, by omega, by simp, HB4, HBB4⟩
      case measure => simp [intOf]; omega
    case neg =>
      have hlk : ¬ ((k : Int) < (n : Int)) := by omega
      obtain rfl : k = n := by omega
      have HB2 : Hid (Blk wr gb (cb (dumpW D.safe (D.wait.take 0))) 5) := by
        have h9 := HBK.out
        rw [upTo_all HSL.out.1 HZL.out] at h9
        exact h9
      have c1 : wr.cell? ⟨g, 1, none⟩ = some (.slice aw nw cw) := HMEr.out.cell 1
      clear HBK hkn hlt
      go_wp2_with fail
      clear c1 HMEr
      obtain ⟨n, HNK⟩ : ∃ n, Hid (n = k) := ⟨_, rfl⟩
      go_loopw [40] (fun i wr => ∃ j : Nat, j ≤ nw ∧ i = .int .i64 (j : Int) ∧ Hid (Blk wr gb (cb (dumpW D.safe (D.wait.take j))) 5) ∧ Hid (Below w.heap.size w wr)) (fun i _ => nw - (intOf i).toNat)
      case atStart => exact ⟨0, Nat.zero_le _, rfl, HB2, HBB⟩
      case round =>
        obtain ⟨j, hjn, rfl, HBK, HBB⟩ := hrel
        clear HB2
        have HMr : Hid (DkM wr g gs (.slice aw nw cw) fu lf D) := HM.out.below HBB.out
        by_cases hlt : j < nw
        case neg =>
          have hlk : ¬ ((j : Int) < (nw : Int)) := by omega
          have HBD : Hid (Blk wr gb (cb (dumpD D)) 5) := by
            have h9 := HBK.out
            rw [List.take_of_length_le (by rw [← HNW.out]; omega)] at h9
            exact h9
          have HLN : Hid ((dumpD D).length = N) := by show _ = _; rw [len_dumpD HOK.out, HSL.out.1, HNN.out]
          go_wp2
          go_ret
          exact ⟨_, rfl, HBD.out.reads HLN.out.symm (by rw [HLN.out]; exact Nat.le_refl _), HBB.out⟩
        case pos =>
          have hlk : (j : Int) < (nw : Int) := by omega
          have HKN : Hid (j < nw) := hlt
          have HLT : Hid (j < D.wait.length) := by show _ < _; rw [← HNW.out]; exact hlt
          have f5 : IntKind.i64.wrap ((j : Int) + 1) = (j : Int) + 1 := by rw [IntKind.wrap_i64]; have := HW2.out; omega
          obtain ⟨hmem, htk⟩ := getD_memV2 HLT.out
          obtain ⟨b, rfl, hat⟩ := HMr.out.wt.at (fun p hp => (HOK.out.wait p hp).2) (Nat.lt_of_le_of_lt (Nat.zero_le _) HLT.out)
          have hrg := hat j HLT.out
          replace hrg : wr.rangeAt b (j * 65) (wrC (D.wait.getD j (0, []))) := hrg
          obtain ⟨p, HPP⟩ : ∃ p, Hid (p = D.wait.getD j (0, [])) := ⟨_, rfl⟩
          rw [← HPP.out] at hmem htk hrg
          have HRG : Hid (wr.rangeAt b (j * 65) (wrC p)) := hrg
          have HTK : Hid (dumpW D.safe (D.wait.take (j + 1)) = layD (dumpW D.safe (D.wait.take j)) p.1 p.2 64) := by show _ = _; rw [htk, dumpW_snoc]
          have HPW : Hid (p.1 < k ∧ p.2.length = 64) := by rw [HN.out]; exact HOK.out.wait p hmem
          have HP6 : Hid (p.2.length = 64) := HPW.out.2
          have HWL : Hid ((wrC p).length = (wrC (0, zs64)).length) := by show _ = _; rw [wrC_len HP6.out, wrC_len (p := (0, zs64)) len_zs64]
          have HLN : Hid ((dumpW D.safe (D.wait.take j)).length = N) := by
            show _ = _
            rw [len_dumpW _ _ HOK.out.size.1 (fun q hq => HOK.out.wait q (List.mem_of_mem_take hq)), HNN.out, HN.out]
          obtain ⟨o, HOO⟩ : ∃ o : Nat, Hid (o = 64 * p.1) := ⟨_, rfl⟩
          have f6 : IntKind.i64.wrap ((p.1 : Int) * 64) = (o : Int) := by rw [IntKind.wrap_i64]; have := HSL.out.2; have := HOO.out; have := HPW.out.1; omega
          have HON : Hid (o < N ∧ 64 ≤ N - o) := by have h1 := HOO.out; have h2 := HNN.out; have h3 := HPW.out.1; exact ⟨by omega, by omega⟩
          clear hat hrg hmem htk
          have tk1 : Hid True := trivial
          have tk2 : Hid True := trivial
          have tk3 : Hid True := trivial
          have tk4 : Hid True := trivial
          go_wp2_with (first
    | (clear tk1; with_reducible refine wpSeq_idxWr (.tmp 38) (.tmp 40) b nw cw j HKN.out ?_ ?_ ?_ ?_ ?_
       · rfl
       · rfl
       · rfl
       · rfl)
    | (clear tk2; with_reducible refine wpSeq_loadW 109 (.tmp 42) b (j * 65) (wrC p) _ HRG.out Tryz.underlying109 rfl (sz_wr HP6.out) ?_ ?_ ?_ ?_
       · rfl
       · rfl
       · rfl)
    | (clear tk3; with_reducible refine wpSeq_allocDw ?_ ?_ ?_
       · rfl
       · rfl
       intro g6 y1 nn
       have HG6 : Hid (Blk y1 g6 (wrC (0, zs64)) 109) := nn.blk
       have HBW : Hid (Below wr.heap.size wr y1) := nn.below
       have HG6E : Hid (wr.heap.size ≤ g6) := nn.ge
       clear nn)
    | (clear tk4; with_reducible refine wpSeq_storeRow 109 (.tmp 6) (.tmp 43) g6 (wrC (0, zs64)) (wrC p) HG6.out HWL.out (sz_wr HP6.out) (wrC_one _) ?_ ?_ ?_ ?_ ?_
       · rfl
       · rfl
       · rfl
       · rfl
       intro y2 hs
       replace HG6 : Hid (Blk y2 g6 (wrC p) 109) := hs.blk
       replace HBW : Hid (Below wr.heap.size wr y2) := HBW.out.trans (hs.only.below HG6E.out HBW.out.size)
       clear hs)
    | fail)
          refine wp_region_held_drew (S := fun wx => Blk wx g6 (wrC p) 109) (by kernel_rfl) HG6.out.drew ?_
          intro hS
          have HB3 : Hid (Blk y2.drew gb (cb (dumpW D.safe (D.wait.take j))) 5) := HBK.out.below HBW.out.drew HBK.out.lt
          have HBB3 : Hid (Below w.heap.size w y2.drew) := HBB.out.trans (HBW.out.drew.mono HBB.out.size)
          clear HBK HBB HBW HG6 HG6E HRG HMr
          change wpAnyH _ _ _ _ _ _ _ _ (World.drew y2)
          generalize World.drew y2 = y3 at *
          refine wpAnyH_take (i := 0) (v := .slice (some ⟨gb, 0, none⟩) N N) rfl (by kernel_rfl) (by kernel_rfl) (by kernel_rfl) (fun _ _ _ h => h) (Or.inl ⟨by rfl, fun wx hx => by simp [go_sem]⟩) hS ?_
          simp only [Act.put, List.getElem_toArray, List.getElem_cons_zero, List.setIfInBounds_toArray, List.set_cons_zero, List.set_cons_succ]
          refine wpAnyH_take (i := 1) (v := .pointer (some ⟨g6, 0, none⟩)) rfl (by kernel_rfl) (by kernel_rfl) (by kernel_rfl) (fun _ _ _ h => h) (Or.inl ⟨by rfl, fun wx hx => by simp [go_sem]⟩) hS ?_
          simp only [Act.put, List.getElem_toArray, List.getElem_cons_succ, List.getElem_cons_zero, List.setIfInBounds_toArray, List.set_cons_zero, List.set_cons_succ]
          refine wpAnyH_take (i := 2) (v := .int .i64 (p.1 : Int)) rfl (by kernel_rfl) (by kernel_rfl) (by kernel_rfl) (fun _ _ _ h => h) (Or.inl ⟨by rfl, fun wx hx => by (have hc : wx.cell? ⟨g6, 0, none⟩ = some (.int .i64 (p.1 : Int)) := hx.cell 0; simp [go_sem, hc])⟩) hS ?_
          simp only [Act.put, List.getElem_toArray, List.getElem_cons_succ, List.getElem_cons_zero, List.setIfInBounds_toArray, List.set_cons_zero, List.set_cons_succ]
          refine wpAnyH_take (i := 3) (v := .int .i64 (o : Int)) rfl (by kernel_rfl) (by kernel_rfl) (by kernel_rfl) (fun _ _ _ h => h) (Or.inl ⟨by rfl, fun wx hx => by simp [go_sem, f6]⟩) hS ?_
          simp only [Act.put, List.getElem_toArray, List.getElem_cons_succ, List.getElem_cons_zero, List.setIfInBounds_toArray, List.set_cons_zero, List.set_cons_succ]
          refine wpAnyH_take (i := 4) (v := .slice (some ⟨gb, 0 + o, none⟩) (N - o) (N - o)) rfl (by kernel_rfl) (by kernel_rfl) (by kernel_rfl) (fun _ _ _ h => h) (Or.inl ⟨by rfl, fun wx hx => by exact cutFrom gb 0 N N o HON.out.1 (Nat.le_refl _) _ _ _ _ rfl rfl rfl _⟩) hS ?_
          simp only [Act.put, List.getElem_toArray, List.getElem_cons_succ, List.getElem_cons_zero, List.setIfInBounds_toArray, List.set_cons_zero, List.set_cons_succ]
          refine wpAnyH_take (i := 5) (v := .pointer (some ⟨g6, 1, none⟩)) rfl (by kernel_rfl) (by kernel_rfl) (by kernel_rfl) (fun _ _ _ h => h) (Or.inl ⟨by rfl, fun wx hx => by simp [go_sem]⟩) hS ?_
          simp only [Act.put, List.getElem_toArray, List.getElem_cons_succ, List.getElem_cons_zero, List.setIfInBounds_toArray, List.set_cons_zero, List.set_cons_succ]
          refine wpAnyH_take (i := 6) (v := .slice (some ⟨g6, 1, none⟩) 64 64) rfl (by kernel_rfl) (by kernel_rfl) (by kernel_rfl) (fun _ _ _ h => h) (Or.inl ⟨by rfl, fun wx hx => by exact sliceSec g6 1 _ _ _ rfl rfl _⟩) hS ?_
          simp only [Act.put, List.getElem_toArray, List.getElem_cons_succ, List.getElem_cons_zero, List.setIfInBounds_toArray, List.set_cons_zero, List.set_cons_succ]
          refine wpAnyH_copyO 7 (.tmp 48) (.tmp 50) gb (0 + o) (N - o) (N - o) g6 1 64 64 5 _ p.2 HB3.out (by rw [HP6.out]; have := HON.out.2; omega) (by rw [HP6.out, cb_len, HLN.out]; have h1 := HON.out; omega) (range_cells (range_tail (off := 0) (Blk.range hS))) (by kernel_rfl) rfl (by rfl) rfl rfl rfl ?_
          intro y4 hb4 ho4
          refine ⟨hS.only ho4 (hS.neT HB3.out (by decide)), ?_⟩
          have HB4 : Hid (Blk y4 gb (cb (dumpW D.safe (D.wait.take (j + 1)))) 5) := by
            rw [Nat.zero_add, HOO.out, lay_sec HP6.out, ← HTK.out] at hb4
            exact hb4
          have HBB4 : Hid (Below w.heap.size w y4) := HBB3.out.trans (ho4.below HGE.out HBB3.out.size)
          clear hb4 ho4 hS HB3 HBB3
          simp only [Act.put, List.getElem_toArray, List.getElem_cons_succ, List.getElem_cons_zero]
          refine wpAnyH_done (by kernel_rfl) ?_ _
          go_wp2
          go_roundw
          case rel => exact ⟨j + 1, by omega, by simp, HB4, HBB4⟩
          case measure => simp [intOf]; omega
/-- where JournalDoes' loop stands -/
structure DoI (Lg : World → Nat → (Nat → Prop) → Nat → Nat → JnT → Prop) (w : World) (gd lg N i : Nat) (wv : Value) (P Q : Nat → Prop) (D : DkT) (J : JnT) (W : World) : Prop where
  pk : Pk Lg W gd lg P Q D J
  log : Log D J
  size : sizeD D = N
  gen : J.gen ≤ i + 1
  want : StaL (Un P Q) W wv J.l
  bel : Below w.heap.size w W
  own : ∀ k, Un P Q k → w.heap.size ≤ k
theorem Log.len {D : DkT} {J : JnT} (h : Log D J) (hs : sizeD D ≤ 100) : J.l.length ≤ 1000 ∧ sizeL J.l ≤ 6400 := by
  have h1 := h.fits
  have h2 := sizeL_ge J.l
  have h3 := sizeL_eq J.l
  unfold hsD at h1
  exact ⟨by omega, by omega⟩
end Go.Proofs.YtopmeedmgjdcgaaGreatDoor
/- The walk of journal's Open, as it landed (layer 14). -/
namespace Go.Proofs.YtopmeedmgjdcgaaGreatDoor
open Go.RowKit
set_option maxRecDepth 100000
/-- what is written where a log is opened, and the log -/
def openG (D : DkT) : List (Option (Nat × Bs)) × JnT :=
  if (pickB (dumpD D)).2 = 0 then (anewS (hsD D) 0 1 [], ⟨0, 1, []⟩)
  else if ∀ z ∈ (halfB (dumpD D) (pickB (dumpD D)).1).drop (recsOf (pickB (dumpD D)).2 (halfB (dumpD D) (pickB (dumpD D)).1)).2, z = 0 then ([], ⟨(pickB (dumpD D)).1, (pickB (dumpD D)).2, (recsOf (pickB (dumpD D)).2 (halfB (dumpD D) (pickB (dumpD D)).1)).1⟩)
  else (anewS (hsD D) (1 - (pickB (dumpD D)).1) (gN (pickB (dumpD D)).2) (recsOf (pickB (dumpD D)).2 (halfB (dumpD D) (pickB (dumpD D)).1)).1, ⟨1 - (pickB (dumpD D)).1, gN (pickB (dumpD D)).2, (recsOf (pickB (dumpD D)).2 (halfB (dumpD D) (pickB (dumpD D)).1)).1⟩)
theorem openG_eq {D : DkT} (h : (pickB (dumpD D)).2 + 1 < 18446744073709551616) : openG D = openS D := by
  unfold openG openS
  rw [gN_eq h]
theorem box_agg (f : Operand → Value) (o : Oper) (ty : TypeId) (x : Operand) (cs : List Value) (ho : o.op = .box ty x) (hx : f x = .agg cs.toArray) (w : World) : (execOp f o).run Tryz.prog w = .ok (.value (.pointer (some ⟨w.heap.size, 0, none⟩))) (w.alloc (.cells cs.toArray ty)) := by
  unfold execOp
  rw [ho]
  simp only [hx]
  rfl
theorem built_lg (gd hs k gen u : Nat) (ad : Option Addr) (n c : Nat) (ps : List (Nat × Value)) (h : ps = [(0, wrF gd), (1, syF gd), (2, .int .i64 (hs : Int)), (4, .agg (ctC k gen (.slice ad n c) u).toArray)]) : Tryz.prog.built 144 ps = some (lgC gd hs 0 k gen (.slice ad n c) u).toArray := by subst h; kernel_rfl
/-- a log opened -/
structure OpA (w : World) (gd : Nat) (P : Nat → Prop) (n : Nat) (DX : DkT) (JX : JnT) (P' : Nat → Prop) (lv : Value) (x : Int) (w' : World) : Prop where
  dk : DkIs w' gd P' DX
  mv : Mut P w w'
  gr : Grew w P P'
  lg : x = 0 → ∃ lg Q, lv = .pointer (some ⟨lg, 0, none⟩) ∧ LgJ w' lg Q gd n JX ∧ ∀ k, Q k → w.heap.size ≤ k ∧ ¬ P' k
set_option maxRecDepth 100000 in
set_option maxHeartbeats 8000000 in
theorem jOpen_any {w : World} {gd : Nat} {P : Nat → Prop} {D : DkT} (hK : KOk w) (hdk : DkIs w gd P D) (hwt : D.wait = []) (hsz : sizeD D ≤ 100) (h8 : 8 ≤ sizeD D) : Calls Tryz.prog 63 #[.pointer (some ⟨gd, 0, none⟩)] w fun e w' => ∃ P' lv, e = .returned (.tuple #[lv, .int .i64 (runJ D (openG D).1).2]) ∧ OpA w gd P (sizeD D) (runJ D (openG D).1).1 (openG D).2 P' lv (runJ D (openG D).1).2 w' := by
  obtain ⟨X, HX⟩ : ∃ z, Hid (z = (runJ D (openG D).1).2) := ⟨_, rfl⟩
  obtain ⟨DX, HDX⟩ : ∃ z, Hid (z = (runJ D (openG D).1).1) := ⟨_, rfl⟩
  obtain ⟨JX, HJX⟩ : ∃ z, Hid (z = (openG D).2) := ⟨_, rfl⟩
  rw [← HX.out, ← HDX.out, ← HJX.out]
  obtain ⟨n, HN⟩ : ∃ n, Hid (n = sizeD D) := ⟨_, rfl⟩
  obtain ⟨hs, HHS⟩ : ∃ m, Hid (m = n / 2) := ⟨_, rfl⟩
  obtain ⟨b, HB⟩ : ∃ b, Hid (b = dumpD D) := ⟨_, rfl⟩
  rw [← HN.out] at hsz h8 ⊢
  have HOKD : Hid (okD D) := by obtain ⟨_, _, _, _, hm, _⟩ := hdk; exact hm.ok
  have HBL : Hid (b.length = 64 * n) := by show _ = _; rw [HB.out, len_dumpD HOKD.out, HOKD.out.size.1, HN.out]
  have HOB : Hid (okB b) := by show okB b; have h := HBL.out; unfold okB; omega
  have HHH : Hid (hsD D = hs) := by show sizeD D / 2 = hs; rw [← HN.out]; exact HHS.out.symm
  have HNH : Hid (halfN b = 64 * hs) := by show _ = _; have h := HBL.out; have h2 := HHS.out; rw [halfN]; omega
  have HDK : Hid (DkIs w gd P D) := hdk
  have HWT : Hid (D.wait = []) := hwt
  have HK : Hid (KOk w) := hK
  have HBD : Hid (4 ≤ hs ∧ hs ≤ 50 ∧ n ≤ 100 ∧ 8 ≤ n) := by have h := HHS.out; exact ⟨by omega, by omega, by omega, by omega⟩
  have HLT : Hid (∀ k, P k → k < w.heap.size) := hdk.lt14
  have f1 : ¬ ((n : Int) < 8) := by omega
  have f2 : IntKind.i64.wrap ((n : Int) / 2) = (hs : Int) := by rw [IntKind.wrap_i64]; have := HHS.out; omega
  clear hdk hwt hsz h8 hK
  have HSZ : Hid (∀ W, Below w.heap.size w W → Calls Tryz.prog 22 #[.pointer (some ⟨gd, 0, none⟩)] W fun r w' => r = .returned (.int .i64 (n : Int)) ∧ w' = W) := fun W hW => by rw [HN.out]; exact dkSize_pure (HDK.out.same14 (fun k hk => hW.block k (HLT.out k hk)))
  have HDU : Hid (Calls Tryz.prog 25 #[.pointer (some ⟨gd, 0, none⟩)] w fun r w' => ∃ v, r = .returned v ∧ Reads w' v b ∧ Below w.heap.size w w') := by rw [HB.out]; exact dkDump_b HDK.out (by rw [HWT.out]; decide)
  go_enter Tryz.func63, Tryz.ntmps63
  have tk0 : Hid True := trivial
  have tk1 : Hid True := trivial
  have tk2 : Hid True := trivial
  have tk3 : Hid True := trivial
  have tk4 : Hid True := trivial
  go_upto_region 4 with (first
    | (clear tk0; go_at_call 22; refine (HSZ.out _ (Below.refl _ _)).mono ?_; rintro e0 y1 ⟨rfl, hy1⟩; have hy2 := hy1.symm; clear hy1; subst hy2)
    | (clear tk1; go_at_call 25; refine HDU.out.mono ?_; rintro e0 y1 ⟨v1, rfl, hr, hz⟩
       obtain ⟨ad, cp, hv, hcp, _, hx⟩ := id hr
       obtain ⟨bb, off, rfl, _⟩ := hx (by have h1 := HBL.out; have h2 := HBD.out; omega)
       subst hv
       obtain ⟨L, HLL⟩ : ∃ m, Hid (m = b.length) := ⟨_, rfl⟩
       rw [← HLL.out] at hr ⊢
       have HRD : Hid (Reads y1 (.slice (some ⟨bb, off, none⟩) L cp) b) := hr
       have HBW : Hid (Below w.heap.size w y1) := hz
       clear hr hz hcp hx)
    | (clear tk2; go_at_call 88; refine (jLook_any bb off L cp b HOB.out (by have h1 := HBL.out; have h2 := HBD.out; omega) _ (HK.out.below HBW.out HK.out.lt) HRD.out).mono ?_; rintro e0 y2 ⟨k, gen, vr, us, u, cl, rfl, hlk⟩
       obtain ⟨a1, n1, c1, hvr⟩ : ∃ a n c, vr = .slice a n c := by
         by_cases hg : gen = 0
         · exact ⟨_, _, _, (hlk.z hg).1⟩
         · obtain ⟨a, c, hv, _⟩ := (hlk.nz hg).1.readsL; exact ⟨_, _, _, hv⟩
       subst hvr
       have HLK : Hid (LookA y1 b k gen (.slice a1 n1 c1) us u cl y2) := hlk
       have HBW2 : Hid (Below w.heap.size w y2) := HBW.out.trans (hlk.bel.mono HBW.out.size)
       clear hlk)
    | (clear tk3; with_reducible refine wpSeq_allocCt ?_ ?_ ?_
       · rfl
       · rfl
       intro g4 y3 nn
       have H4 : Hid (Blk y3 g4 ctZ 138) := nn.blk
       have HG4 : Hid (w.heap.size ≤ g4 ∧ y2.heap.size ≤ g4) := ⟨Nat.le_trans HBW2.out.size nn.ge, nn.ge⟩
       have HBW3 : Hid (Below y2.heap.size y2 y3) := nn.below
       clear nn)
    | (clear tk4; with_reducible refine wpSeq_storeRow 138 (.tmp 4) (.tmp 19) g4 ctZ (ctC k gen (.slice a1 n1 c1) u) H4.out (len_ctZ _ _ _ _) (info_ct _ _ _ _) (ct_one _ _ _ _ _ _) ?_ ?_ ?_ ?_ ?_
       · rfl
       · rfl
       · rfl
       · rfl
       intro y4 hs4
       have HB4 : Hid (Blk y4 g4 (ctC k gen (.slice a1 n1 c1) u) 138) := hs4.blk
       have HBW4 : Hid (Below y2.heap.size y2 y4) := HBW3.out.trans (hs4.only.below HG4.out.2 HBW3.out.size)
       clear hs4))
  have HBY : Hid (Below y2.heap.size y2 (World.drew y4)) := HBW4.out.drew
  clear H4 HBW3 HBW4 HRD HDU
  refine wp_region_held_drew (S := fun wx => Blk wx g4 (ctC k gen (.slice a1 n1 c1) u) 138) (by kernel_rfl) HB4.out.drew ?_
  intro hS
  clear HB4
  change wpAnyH _ _ _ _ _ _ _ _ (World.drew y4)
  generalize World.drew y4 = y5 at *
  have HBZ : Hid (Below w.heap.size w y5) := HBW2.out.trans (HBY.out.mono HBW2.out.size)
  refine wpAnyH_take (i := 0) (v := .pointer (some ⟨gd, 0, none⟩)) rfl (by kernel_rfl) (by kernel_rfl) (by kernel_rfl) (fun _ _ _ h => h) (Or.inl ⟨by rfl, fun wx hx => by simp [go_sem]⟩) hS ?_
  simp only [Act.put, List.getElem_toArray, List.getElem_cons_zero, List.setIfInBounds_toArray, List.set_cons_zero, List.set_cons_succ]
  refine wpAnyH_take (i := 1) (v := wrF gd) rfl (by kernel_rfl) (by kernel_rfl) (by kernel_rfl) (fun _ _ _ h => h) (Or.inl ⟨by rfl, fun wx hx => by simp [go_sem, wrF]⟩) hS ?_
  simp only [Act.put, List.getElem_toArray, List.getElem_cons_succ, List.getElem_cons_zero, List.setIfInBounds_toArray, List.set_cons_zero, List.set_cons_succ]
  refine wpAnyH_take (i := 2) (v := .pointer (some ⟨gd, 0, none⟩)) rfl (by kernel_rfl) (by kernel_rfl) (by kernel_rfl) (fun _ _ _ h => h) (Or.inl ⟨by rfl, fun wx hx => by simp [go_sem]⟩) hS ?_
  simp only [Act.put, List.getElem_toArray, List.getElem_cons_succ, List.getElem_cons_zero, List.setIfInBounds_toArray, List.set_cons_zero, List.set_cons_succ]
  refine wpAnyH_take (i := 3) (v := syF gd) rfl (by kernel_rfl) (by kernel_rfl) (by kernel_rfl) (fun _ _ _ h => h) (Or.inl ⟨by rfl, fun wx hx => by simp [go_sem, syF]⟩) hS ?_
  simp only [Act.put, List.getElem_toArray, List.getElem_cons_succ, List.getElem_cons_zero, List.setIfInBounds_toArray, List.set_cons_zero, List.set_cons_succ]
  refine wpAnyH_take (i := 4) (v := .pointer (some ⟨gd, 0, none⟩)) rfl (by kernel_rfl) (by kernel_rfl) (by kernel_rfl) (fun _ _ _ h => h) (Or.inl ⟨by rfl, fun wx hx => by simp [go_sem]⟩) hS ?_
  simp only [Act.put, List.getElem_toArray, List.getElem_cons_succ, List.getElem_cons_zero, List.setIfInBounds_toArray, List.set_cons_zero, List.set_cons_succ]
  refine wpAnyH_take (i := 7) (v := .agg (ctC k gen (.slice a1 n1 c1) u).toArray) rfl (by kernel_rfl) (by kernel_rfl) (by kernel_rfl) (fun _ _ _ h => h) (Or.inl ⟨by rfl, fun wx hx => by exact load_run 138 (.tmp 4) rfl g4 0 rfl (ctC k gen (.slice a1 n1 c1) u) _ hx.range Tryz.underlying138 rfl (info_ct _ _ _ _)⟩) hS ?_
  simp only [Act.put, List.getElem_toArray, List.getElem_cons_succ, List.getElem_cons_zero, List.setIfInBounds_toArray, List.set_cons_zero, List.set_cons_succ]
  refine wpAnyH_enter 5 (by kernel_rfl) rfl (by rfl) (f := 22) (args := #[.pointer (some ⟨gd, 0, none⟩)]) (by simp [go_sem]) (HSZ.out _ HBZ.out) ?_
  rintro e0 y6 ⟨rfl, hy6⟩
  have hy7 := hy6.symm
  clear hy6
  subst hy7
  refine ⟨_, rfl, hS, ?_⟩
  simp only [Act.put, List.getElem_toArray, List.getElem_cons_succ, List.getElem_cons_zero, List.setIfInBounds_toArray, List.set_cons_zero, List.set_cons_succ]
  refine wpAnyH_take (i := 6) (v := .int .i64 (hs : Int)) rfl (by kernel_rfl) (by kernel_rfl) (by kernel_rfl) (fun _ _ _ h => h) (Or.inl ⟨by rfl, fun wx hx => by simp [go_sem, f2]⟩) hS ?_
  simp only [Act.put, List.getElem_toArray, List.getElem_cons_succ, List.getElem_cons_zero, List.setIfInBounds_toArray, List.set_cons_zero, List.set_cons_succ]
  refine wpAnyH_take (i := 8) (v := .agg (lgC gd hs 0 k gen (.slice a1 n1 c1) u).toArray) rfl (by kernel_rfl) (by kernel_rfl) (by kernel_rfl) (fun _ _ _ h => h) (Or.inl ⟨by rfl, fun wx hx => by exact build_op _ _ 144 [(0, .tmp 22), (1, .tmp 24), (2, .tmp 27), (4, .tmp 28)] rfl _ (built_lg _ _ _ _ _ _ _ _ _ rfl) _⟩) hS ?_
  simp only [Act.put, List.getElem_toArray, List.getElem_cons_succ, List.getElem_cons_zero, List.setIfInBounds_toArray, List.set_cons_zero, List.set_cons_succ]
  have hz6 := below_alloc y5 (.cells (lgC gd hs 0 k gen (.slice a1 n1 c1) u).toArray 144)
  have hb6 : Blk (y5.alloc (.cells (lgC gd hs 0 k gen (.slice a1 n1 c1) u).toArray 144)) y5.heap.size (lgC gd hs 0 k gen (.slice a1 n1 c1) u) 144 := Blk.new _ _ _
  have hS6 := hS.below hz6 hS.lt
  refine wpAnyH_step 9 (.pointer (some ⟨y5.heap.size, 0, none⟩)) (y5.alloc (.cells (lgC gd hs 0 k gen (.slice a1 n1 c1) u).toArray 144)) (by kernel_rfl) rfl (by rfl) (box_agg _ _ 144 (.tmp 29) _ rfl rfl _) hS6 ?_
  clear hS
  have hS := hS6
  clear hS6
  simp only [Act.put, List.getElem_toArray, List.getElem_cons_succ, List.getElem_cons_zero, List.setIfInBounds_toArray, List.set_cons_zero, List.set_cons_succ]
  generalize y5.alloc (.cells (lgC gd hs 0 k gen (.slice a1 n1 c1) u).toArray 144) = y6 at *
  obtain ⟨lg, HLG⟩ : ∃ g, Hid (g = y5.heap.size) := ⟨_, rfl⟩
  rw [← HLG.out] at hb6 ⊢
  refine wpAnyH_take (i := 10) (v := .pointer (some ⟨lg, 0, none⟩)) rfl (by kernel_rfl) (by kernel_rfl) (by kernel_rfl) (fun _ _ _ h => h) (Or.inl ⟨by rfl, fun wx hx => by simp [go_sem]⟩) hS ?_
  simp only [Act.put, List.getElem_toArray, List.getElem_cons_succ, List.getElem_cons_zero, List.setIfInBounds_toArray, List.set_cons_zero, List.set_cons_succ]
  refine wpAnyH_done (by kernel_rfl) ?_ _
  have HLB : Hid (Blk y6 lg (lgC gd hs 0 k gen (.slice a1 n1 c1) u) 144) := hb6
  have HBX : Hid (Below w.heap.size w y6) := HBZ.out.trans (hz6.mono HBZ.out.size)
  have HBV : Hid (Below y2.heap.size y2 y6) := HBY.out.trans (hz6.mono HBY.out.size)
  have d1 : y6.cell? ⟨g4, 1, none⟩ = some (.int .u64 (gen : Int)) := hS.cell 1
  have d2 : y6.cell? ⟨g4, 2, none⟩ = some (.slice a1 n1 c1) := hS.cell 2
  have HLW : Hid (w.heap.size ≤ lg) := by rw [HLG.out]; exact HBZ.out.size
  clear hb6 hz6 hS HBY HBZ HLG f2 f1 HSZ
  have HNP : Hid (¬ P lg) := fun h => by have h1 := HLT.out lg h; have h2 := HLW.out; omega
  have HD6 : Hid (DkIs y6 gd P D) := HDK.out.same14 (fun z hz => HBX.out.block z (HLT.out z hz))
  have HK6 : Hid (KOk y6) := HK.out.below HBX.out HK.out.lt
  have HPB : Hid (pickB (dumpD D) = (k, gen)) := by show _ = _; rw [← HB.out]; exact HLK.out.pk
  have HK1 : Hid (k ≤ 1 ∧ gen < 18446744073709551616) := by have h := pick_lt (dumpD D); rw [HPB.out] at h; exact ⟨h.2, h.1⟩
  have HMV : Hid (∀ {W P'}, Mut (Un P (fun z => z = lg)) y6 W → Grew y6 P P' → Mut P w W ∧ Grew w P P') := fun {W P'} hm hg => ⟨(mut_below HBX.out P).trans (fun z hz h => h.elim id (fun e => absurd hz (by have := HLW.out; omega))) hm, fun z hz => (hg z hz).imp id (fun h => Nat.le_trans HBX.out.size h)⟩
  by_cases hg : gen = 0
  · subst hg
    have HG : Hid (openG D = (anewS hs 0 1 [], ⟨0, 1, []⟩)) := by show _ = _; rw [openG, HPB.out, if_pos rfl, HHH.out]
    have HXE : Hid (X = (runJ D (anewS hs 0 1 [])).2 ∧ DX = (runJ D (anewS hs 0 1 [])).1 ∧ JX = ⟨0, 1, []⟩) := by rw [HX.out, HDX.out, HJX.out, HG.out]; exact ⟨rfl, rfl, rfl⟩
    have HNX : Hid (Calls Tryz.prog 91 #[.pointer (some ⟨lg, 0, none⟩), .int .i64 0, .int .u64 1, .slice none 0 0] y6 fun e w' => e = .returned (.int .i64 X) ∧ ∃ P', DkIs w' gd P' DX ∧ (X = 0 → Blk w' lg (lgC gd hs 0 0 1 (.slice none 0 0) 1) 144) ∧ Mut (Un P (fun z => z = lg)) y6 w' ∧ Grew y6 P P') := by
      rw [HXE.out.1, HXE.out.2.1]
      exact jBegin_any (w := y6) hs k 0 u 0 1 _ (.slice none 0 0) [] HK6.out HD6.out HWT.out HLB.out HNP.out (by decide) (by decide) (by have := HBD.out; omega) HBD.out.2.1 (by have h1 := HBD.out; show 1 + 0 ≤ hs; omega) (fun W _ => readsL_nil W)
    have tk0 : Hid True := trivial
    go_wp2_with (first
      | (clear tk0; go_at_call 91; refine HNX.out.mono ?_; rintro e0 y7 ⟨rfl, P3, hd3, hl3, hm3, hg3⟩
         have HR3 : Hid (DkIs y7 gd P3 DX ∧ (X = 0 → Blk y7 lg (lgC gd hs 0 0 1 (.slice none 0 0) 1) 144) ∧ Mut P w y7 ∧ Grew w P P3) := ⟨hd3, hl3, HMV.out hm3 hg3⟩
         clear hd3 hl3 hm3 hg3))
    rotate_left
    · refine bodyPost_ret (results_tmp2 rfl _ _ _) rfl ?_
      have hx0 : X = 0 := by first | assumption | (rename_i h; simpa using h)
      have hlm : LgM y7 lg gd n (.slice none 0 0) [] JX := by
        rw [HXE.out.2.2]
        exact ⟨by rw [← HHS.out]; exact HR3.out.2.1 hx0, TxJ.nil (Nat.zero_le _)⟩
      refine ⟨P3, _, by rw [hx0]; rfl, HR3.out.1, HR3.out.2.2.1, HR3.out.2.2.2, fun _ => ⟨lg, _, rfl, ⟨_, _, hlm, rfl⟩, fun z hz => ⟨?_, pk_ap HR3.out.1 hlm z hz⟩⟩⟩
      rcases hz with rfl | h | ⟨uu, huu, h⟩
      · exact HLW.out
      · cases h
      · cases huu
    · refine bodyPost_ret (results_tmp2 rfl _ _ _) rfl ?_
      have hx0 : ¬ X = 0 := by first | assumption | (rename_i h; simpa using h)
      exact ⟨P3, _, rfl, HR3.out.1, HR3.out.2.2.1, HR3.out.2.2.2, fun h => absurd h hx0⟩
  · have hgz : ¬ ((gen : Int) = 0) := by omega
    obtain ⟨half, HHF⟩ : ∃ h, Hid (h = halfB b k) := ⟨_, rfl⟩
    obtain ⟨l, HL⟩ : ∃ l, Hid (l = (recsOf gen half).1) := ⟨_, rfl⟩
    have HTX : Hid (TxJ y1.heap.size (.slice a1 n1 c1) us l y6) := by
      have h := (HLK.out.nz hg).1.next HBV.out
      rw [← HHF.out, ← HL.out] at h
      exact h
    have HUU : Hid (u = 1 + secL l ∧ 1 + secL l ≤ hs) := by
      have h1 := (HLK.out.nz hg).2.1
      have h2 : half.length = 64 * hs := by rw [HHF.out, len_half HK1.out.1, HNH.out]
      have h3 := recs_inv (gen := gen) (half := half) (half.length / 64) 64 0 (by have := HBD.out; omega)
      rw [← HHF.out] at h1
      have h4 : (recsOf gen half).2 = 64 + sizeL (recsOf gen half).1 := h3.2.1
      have h5 : (recsOf gen half).2 ≤ half.length := h3.2.2.1
      rw [← HL.out, sizeL_eq] at h4
      exact ⟨by omega, by omega⟩
    have HCL : Hid (cl = decide (∀ z ∈ half.drop (recsOf gen half).2, z = 0)) := by show _ = _; rw [HHF.out]; exact (HLK.out.nz hg).2.2
    have HBQ : Hid (w.heap.size ≤ y1.heap.size) := HBW.out.size
    have HQG : Hid (∀ z, lgQ lg (.slice a1 n1 c1) us z → w.heap.size ≤ z) := fun z hz => by
      rcases hz with rfl | h | ⟨uu, huu, h⟩
      · exact HLW.out
      · exact Nat.le_trans HBQ.out (HTX.out.ge_all.1 z h).1
      · exact Nat.le_trans HBQ.out (HTX.out.ge_all.2 uu huu z h).1
    have hGG : openG D = if ∀ z ∈ half.drop (recsOf gen half).2, z = 0 then ([], ⟨k, gen, l⟩) else (anewS hs (1 - k) (gN gen) l, ⟨1 - k, gN gen, l⟩) := by
      rw [openG, HPB.out, if_neg hg, HHH.out, ← HB.out, ← HHF.out, ← HL.out]
    clear HLK HBW HBV
    cases cl with
    | true =>
      have HXE : Hid (X = 0 ∧ DX = D ∧ JX = ⟨k, gen, l⟩) := by
        rw [HX.out, HDX.out, HJX.out, hGG, if_pos (of_decide_eq_true HCL.out.symm)]
        exact ⟨rfl, rfl, rfl⟩
      clear hGG HCL
      go_wp2
      refine bodyPost_ret (results_tmp2 rfl _ _ _) rfl ?_
      have hlm : LgM y6 lg gd n (.slice a1 n1 c1) us JX := by
        rw [HXE.out.2.2]
        exact ⟨by rw [← HHS.out]; show Blk y6 lg (lgC gd hs 0 k gen _ (1 + secL l)) _; rw [← HUU.out.1]; exact HLB.out, HTX.out.lower (Nat.zero_le _)⟩
      refine ⟨P, _, by rw [HXE.out.1]; rfl, by rw [HXE.out.2.1]; exact HD6.out, mut_below HBX.out P, Grew.refl _ _, fun _ => ⟨lg, _, rfl, ⟨_, _, hlm, rfl⟩, fun z hz => ⟨HQG.out z hz, pk_ap HD6.out hlm z hz⟩⟩⟩
    | false =>
      have HXE : Hid (X = (runJ D (anewS hs (1 - k) (gN gen) l)).2 ∧ DX = (runJ D (anewS hs (1 - k) (gN gen) l)).1 ∧ JX = ⟨1 - k, gN gen, l⟩) := by
        rw [HX.out, HDX.out, HJX.out, hGG, if_neg (of_decide_eq_false HCL.out.symm)]
        exact ⟨rfl, rfl, rfl⟩
      clear hGG HCL
      have HNR : Hid (∀ z, w.heap.size ≤ z → z ≠ lg → ¬ Un P (fun z => z = lg) z) := fun z hz hn h => h.elim (fun hp => absurd (HLT.out z hp) (by omega)) hn
      have HNV : Hid (∀ z, (Value.slice a1 n1 c1).ownBlock = some z → z ≠ lg) := fun z hz e => by
        subst e
        exact ownX_ne_lg HTX.out.own HLB.out hz
      have HNU : Hid (∀ uu ∈ us, ∀ z, uu.ownBlock = some z → z ≠ lg) := fun uu huu z hz e => by
        subst e
        obtain ⟨i, hi, rfl⟩ := List.getElem_of_mem huu
        exact ownB_ne_lg (HTX.out.good i _ (List.getElem?_eq_getElem hi)) HLB.out hz
      have HNX : Hid (Calls Tryz.prog 92 #[.pointer (some ⟨lg, 0, none⟩), .slice a1 n1 c1] y6 fun e w' => e = .returned (.int .i64 X) ∧ ∃ P', DkIs w' gd P' DX ∧ (X = 0 → Blk w' lg (lgC gd hs 0 (1 - k) (gN gen) (.slice a1 n1 c1) (1 + secL l)) 144) ∧ Mut (Un P (fun z => z = lg)) y6 w' ∧ Grew y6 P P') := by
        rw [HXE.out.1, HXE.out.2.1]
        exact jNext_any (w := y6) hs k gen u _ (.slice a1 n1 c1) l HK6.out HD6.out HWT.out HLB.out HNP.out HK1.out.1 (by have := HBD.out; omega) HBD.out.2.1 HUU.out.2 (HTX.out.stN (fun z hz => HNR.out z (Nat.le_trans HBQ.out (HTX.out.ge_all.1 z hz).1) (HNV.out z hz)) (fun uu huu z hz => HNR.out z (Nat.le_trans HBQ.out (HTX.out.ge_all.2 uu huu z hz).1) (HNU.out uu huu z hz)))
      have tk0 : Hid True := trivial
      go_wp2_with (first
        | (clear tk0; go_at_call 92; refine HNX.out.mono ?_; rintro e0 y7 ⟨rfl, P3, hd3, hl3, hm3, hg3⟩
           have HR3 : Hid (DkIs y7 gd P3 DX ∧ (X = 0 → Blk y7 lg (lgC gd hs 0 (1 - k) (gN gen) (.slice a1 n1 c1) (1 + secL l)) 144) ∧ Mut P w y7 ∧ Grew w P P3) := ⟨hd3, hl3, HMV.out hm3 hg3⟩
           have HM3 : Hid (Mut (Un P (fun z => z = lg)) y6 y7) := hm3
           clear hd3 hl3 hm3 hg3))
      rotate_left
      · refine bodyPost_ret (results_tmp2 rfl _ _ _) rfl ?_
        have hx0 : X = 0 := by first | assumption | (rename_i h; simpa using h)
        have htx : TxJ 0 (.slice a1 n1 c1) us l y7 := (HTX.out.lower (Nat.zero_le _)).sameQ HM3.out.size (fun z hz => HM3.out.block z (HTX.out.ge_all.1 z hz).2 (HNR.out z (Nat.le_trans HBQ.out (HTX.out.ge_all.1 z hz).1) (HNV.out z hz))) (fun uu huu z hz => HM3.out.block z (HTX.out.ge_all.2 uu huu z hz).2 (HNR.out z (Nat.le_trans HBQ.out (HTX.out.ge_all.2 uu huu z hz).1) (HNU.out uu huu z hz)))
        have hlm : LgM y7 lg gd n (.slice a1 n1 c1) us JX := by
          rw [HXE.out.2.2]
          exact ⟨by rw [← HHS.out]; exact HR3.out.2.1 hx0, htx⟩
        exact ⟨P3, _, by rw [hx0]; rfl, HR3.out.1, HR3.out.2.2.1, HR3.out.2.2.2, fun _ => ⟨lg, _, rfl, ⟨_, _, hlm, rfl⟩, fun z hz => ⟨HQG.out z hz, pk_ap HR3.out.1 hlm z hz⟩⟩⟩
      · refine bodyPost_ret (results_tmp2 rfl _ _ _) rfl ?_
        have hx0 : ¬ X = 0 := by first | assumption | (rename_i h; simpa using h)
        exact ⟨P3, _, rfl, HR3.out.1, HR3.out.2.2.1, HR3.out.2.2.2, fun h => absurd h hx0⟩
end Go.Proofs.YtopmeedmgjdcgaaGreatDoor
/- Acts in memory; strings held against each other (layer 15). -/
namespace Go.Proofs.YtopmeedmgjdcgaaGreatDoor
open Go.RowKit
set_option maxRecDepth 100000
theorem str_toList (a : Bs) : (strB a).toList = a.map fun b => UInt8.ofNat b.toNat := by rw [Lib.toList_data, strB_data]
theorem u8_lt (a b : BitVec 8) : (UInt8.ofNat a.toNat < UInt8.ofNat b.toNat) ↔ a.toNat < b.toNat := by
  have ha := a.isLt
  have hb := b.isLt
  rw [UInt8.lt_iff_toNat_lt]
  simp
theorem u8_eq (a b : BitVec 8) : (UInt8.ofNat a.toNat = UInt8.ofNat b.toNat) ↔ a = b := by
  constructor
  · intro h
    have h2 := congrArg UInt8.toNat h
    simp at h2
    exact BitVec.eq_of_toNat_eq h2
  · intro h
    rw [h]
theorem str_lt : ∀ (a b : Bs), Op.bytesLess (a.map fun b => UInt8.ofNat b.toNat) (b.map fun b => UInt8.ofNat b.toNat) = ltB a b
  | [], [] => rfl
  | [], _ :: _ => rfl
  | _ :: _, [] => rfl
  | a :: x, b :: y => by
    rw [List.map_cons, List.map_cons, Op.bytesLess, ltB, str_lt x y]
    congr 1
    · rw [decide_eq_decide]; exact u8_lt a b
    · congr 1
      rw [Bool.eq_iff_iff, beq_iff_eq, decide_eq_true_eq]
      exact u8_eq a b
theorem less_str (a b : Bs) : Op.bytesLess (strB a).toList (strB b).toList = ltB a b := by rw [str_toList, str_toList, str_lt]
theorem leq_str (a b : Bs) : (Op.bytesLess (strB a).toList (strB b).toList || ((strB a).toList == (strB b).toList)) = !ltB b a := by
  rw [less_str, strB_inj]
  rcases ltB_tri a b with h | h | h
  · rw [h, ltB_asym h]; rfl
  · rw [h, ltB_irr]; simp
  · rw [h, ltB_asym h]; simp [(ltB_ne h).symm]
theorem run_strOp (op : BinOp) (s t : ByteArray) (r : Bool) (hr : (match op with | .lss => Op.bytesLess s.toList t.toList | .leq => Op.bytesLess s.toList t.toList || (s.toList == t.toList) | .eql => s.toList == t.toList | .neq => !(s.toList == t.toList) | _ => false) = r) (hop : op = .lss ∨ op = .leq ∨ op = .eql ∨ op = .neq) (f : Operand → Value) (o : Oper) (x y : Operand) (ho : o.op = .binOp op 9 x y 9) (hx : f x = .string s) (hy : f y = .string t) (w : World) : (execOp f o).run Tryz.prog w = .ok (.value (.bool r)) w := by
  unfold execOp
  rw [ho]
  rcases hop with rfl | rfl | rfl | rfl <;> subst hr <;> simp [go_sem, hx, hy]
theorem wpSeq_str {ops : Array Oper} {Q : Exit → Act → World → Prop} {rest : List Oper} {o : Oper} {a : Act} {w : World} (op : BinOp) (s t : ByteArray) (r : Bool) (x y : Operand) (hr : (match op with | .lss => Op.bytesLess s.toList t.toList | .leq => Op.bytesLess s.toList t.toList || (s.toList == t.toList) | .eql => s.toList == t.toList | .neq => !(s.toList == t.toList) | _ => false) = r) (hop : op = .lss ∨ op = .leq ∨ op = .eql ∨ op = .neq) (ho : o.op = .binOp op 9 x y 9) (hx : a.eval x = .string s) (hy : a.eval y = .string t) (hw : Region.wanted o (yielded ops a.tmps) = true)
    (h : wpList Tryz.prog ops Q rest (a.put o.dst (.bool r)) w) : wpList Tryz.prog ops Q (o :: rest) a w :=
  wpSeq_val _ _ hw (run_strOp op s t r hr hop _ o x y ho hx hy w) h
theorem wpSeq_sLe {ops : Array Oper} {Q : Exit → Act → World → Prop} {rest : List Oper} {o : Oper} {a : Act} {w : World} (s t : ByteArray) (r : Bool) (x y : Operand) (hr : (Op.bytesLess s.toList t.toList || (s.toList == t.toList)) = r) (ho : o.op = .binOp .leq 9 x y 9) (hx : a.eval x = .string s) (hy : a.eval y = .string t) (hw : Region.wanted o (yielded ops a.tmps) = true)
    (h : wpList Tryz.prog ops Q rest (a.put o.dst (.bool r)) w) : wpList Tryz.prog ops Q (o :: rest) a w := wpSeq_str .leq s t r x y hr (Or.inr (Or.inl rfl)) ho hx hy hw h
/-- an act's cells -/
def actC (a : ActT) (vd : Value) : List Value := [.string (strB a.key), .bool a.set, vd]
/-- a slice of acts -/
def ReadsA (w : World) (v : Value) (l : List ActT) : Prop :=
  ∃ ad cap, v = .slice ad l.length cap ∧ l.length ≤ cap ∧ (ad = none → cap = 0) ∧ (0 < l.length → ∃ b off, ad = some ⟨b, off, none⟩ ∧ ∀ j, j < l.length → ∃ vd, w.rangeAt b (off + j * 3) (actC (l.getD j ⟨[], false, []⟩) vd) ∧ Reads w vd (l.getD j ⟨[], false, []⟩).data)
theorem ReadsA.form {w : World} {v : Value} {l : List ActT} (h : ReadsA w v l) : ∃ ad c, v = .slice ad l.length c := by
  obtain ⟨ad, c, hv, _⟩ := h
  exact ⟨ad, c, hv⟩
theorem ReadsA.nil (w : World) : ReadsA w (.slice none 0 0) [] := ⟨none, 0, rfl, Nat.le_refl _, fun _ => rfl, fun h => by simp at h⟩
theorem range_below {w w' : World} {B b off : Nat} {cs : List Value} (h : w.rangeAt b off cs) (hb : Below B w w') (hlt : b < B) : w'.rangeAt b off cs := fun j u hj => by
  rw [hb.cell (p := ⟨b, off + j, none⟩) hlt]
  exact h j u hj
theorem ReadsA.below {w w' : World} {v : Value} {l : List ActT} (h : ReadsA w v l) (hb : Below w.heap.size w w') : ReadsA w' v l := by
  obtain ⟨ad, cap, h1, h2, h3, h4⟩ := h
  refine ⟨ad, cap, h1, h2, h3, fun hp => ?_⟩
  obtain ⟨b, off, h5, h6⟩ := h4 hp
  refine ⟨b, off, h5, fun j hj => ?_⟩
  obtain ⟨vd, h7, h8⟩ := h6 j hj
  exact ⟨vd, range_below h7 hb (block_lt_of_cell (h7 0 _ rfl)), h8.below hb⟩
theorem ReadsA.at {w : World} {ad : Option Addr} {n c : Nat} {l : List ActT} (h : ReadsA w (.slice ad n c) l) {j : Nat} (hj : j < l.length) : ∃ b off vd, ad = some ⟨b, off, none⟩ ∧ w.rangeAt b (off + j * 3) (actC (l.getD j ⟨[], false, []⟩) vd) ∧ Reads w vd (l.getD j ⟨[], false, []⟩).data := by
  obtain ⟨ad', cap, h1, h2, h3, h4⟩ := h
  simp only [Value.slice.injEq] at h1
  obtain ⟨rfl, _, _⟩ := h1
  obtain ⟨b, off, h5, h6⟩ := h4 (Nat.lt_of_le_of_lt (Nat.zero_le _) hj)
  obtain ⟨vd, h7, h8⟩ := h6 j hj
  exact ⟨b, off, vd, h5, h7, h8⟩
theorem take_act {l : List ActT} {i : Nat} (h : i < l.length) : l.take (i + 1) = l.take i ++ [l.getD i ⟨[], false, []⟩] := by
  rw [List.take_add_one, List.getElem?_eq_getElem h, List.getD_eq_getElem?_getD, List.getElem?_eq_getElem h]
  rfl
theorem info_act15 (x y z : Value) : (Tryz.prog.info? 62).map (·.size) = some [x, y, z].length := by kernel_rfl
theorem idxA (b off n c k : Nat) (hk : k < n) (f : Operand → Value) (o : Oper) (x y : Operand) (ho : o.op = .indexAddr 22 x y) (hx : f x = .slice (some ⟨b, off, none⟩) n c) (hy : f y = .int .i64 (k : Int)) (w : World) :
    (execOp f o).run Tryz.prog w = .ok (.value (.pointer (some ⟨b, off + k * 3, none⟩))) w := by
  have k0 : (0 : Int) ≤ (k : Int) := by omega
  have k1 : (k : Int) < (n : Int) := by omega
  have hs : (sizeOf 62).run Tryz.prog w = .ok 3 w := by kernel_rfl
  unfold execOp
  rw [ho]
  simp [go_sem, hx, hy, k0, k1, Addr.add_mid, hs]
theorem wpSeq_idxA {ops : Array Oper} {Q : Exit → Act → World → Prop} {rest : List Oper} {o : Oper} {a : Act} {w : World} (x y : Operand) (b off n c k : Nat) (hk : k < n) (ho : o.op = .indexAddr 22 x y) (hx : a.eval x = .slice (some ⟨b, off, none⟩) n c) (hy : a.eval y = .int .i64 (k : Int)) (hw : Region.wanted o (yielded ops a.tmps) = true)
    (h : wpList Tryz.prog ops Q rest (a.put o.dst (.pointer (some ⟨b, off + k * 3, none⟩))) w) : wpList Tryz.prog ops Q (o :: rest) a w :=
  wpSeq_val _ _ hw (idxA b off n c k hk _ o x y ho hx hy w) h
def zA : List Value := [.string ⟨#[]⟩, .bool false, .slice none 0 0]
theorem alloc_act (f : Operand → Value) (o : Oper) (ho : o.op = .alloc 62) (w : World) : (execOp f o).run Tryz.prog w = .ok (.value (.pointer (some ⟨w.heap.size, 0, none⟩))) (w.alloc (.cells zA.toArray 62)) := by
  unfold execOp
  rw [ho]
  kernel_rfl
theorem wpSeq_allocA {ops : Array Oper} {Q : Exit → Act → World → Prop} {rest : List Oper} {o : Oper} {a : Act} {w : World} (ho : o.op = .alloc 62) (hw : Region.wanted o (yielded ops a.tmps) = true)
    (h : ∀ g w', NewR zA 62 w g w' → wpList Tryz.prog ops Q rest (a.put o.dst (.pointer (some ⟨g, 0, none⟩))) w') : wpList Tryz.prog ops Q (o :: rest) a w :=
  wpSeq_val _ _ hw (alloc_act _ _ ho _) (h _ _ (NewR.of _ _ w))
theorem one_act (s : ByteArray) (b : Bool) (ad : Option Addr) (n c : Nat) : ∀ v ∈ [Value.string s, .bool b, .slice ad n c], v.oneCell' = true := fun v hv => by
  simp only [List.mem_cons, List.not_mem_nil, or_false] at hv
  rcases hv with rfl | rfl | rfl <;> rfl
/-- may an act have the data that it has? -/
def mayD (a : ActT) : Bool := if a.set then decide (a.data.length ≤ 1048576) else decide (a.data.length = 0)
theorem okA_may (a : ActT) : okA a = (decide (a.key.length ≤ 64) && mayD a) := rfl
set_option maxRecDepth 100000 in
set_option maxHeartbeats 2000000 in
theorem sDataMay_any (a : ActT) (vd : Value) (w : World) (hr : Reads w vd a.data) : Calls Tryz.prog 37 #[.agg (actC a vd).toArray] w fun e w' => e = .returned (.bool (mayD a)) ∧ Below w.heap.size w w' := by
  obtain ⟨n, HN⟩ : ∃ n, Hid (n = a.data.length) := ⟨_, rfl⟩
  obtain ⟨ad, c, hv⟩ : ∃ ad c, vd = .slice ad n c := by obtain ⟨ad, c, hv, _⟩ := hr; exact ⟨ad, c, by rw [HN.out]; exact hv⟩
  subst hv
  obtain ⟨ks, HKS⟩ : ∃ s, Hid (s = strB a.key) := ⟨_, rfl⟩
  obtain ⟨st, HST⟩ : ∃ b, Hid (b = a.set) := ⟨_, rfl⟩
  have hm : mayD a = if st then decide (n ≤ 1048576) else decide (n = 0) := by rw [mayD, HST.out, HN.out]
  rw [hm, actC, ← HKS.out, ← HST.out]
  clear hr hm
  cases st with
  | true =>
    rw [if_pos rfl]
    have q : decide (n ≤ 1048576) = decide ((n : Int) ≤ 1048576) := by rw [decide_eq_decide]; omega
    rw [q]
    clear q
    go_enter Tryz.func37, Tryz.ntmps37
    have tk0 : Hid True := trivial
    go_wp2_with (first
      | (clear tk0; with_reducible refine wpSeq_boxW 62 (.tmp 0) [.string ks, .bool true, .slice ad n c] ?_ ?_ ?_ ?_
         · rfl
         · rfl
         · rfl
         intro g1 y1 nn
         have c1 : y1.cell? ⟨g1, 1, none⟩ = some (.bool true) := nn.blk.cell 1
         have c2 : y1.cell? ⟨g1, 2, none⟩ = some (.slice ad n c) := nn.blk.cell 2
         have HB : Hid (Below w.heap.size w y1) := nn.below
         clear nn))
    go_ret
    exact ⟨rfl, HB.out⟩
  | false =>
    rw [if_neg Bool.false_ne_true]
    have q : decide (n = 0) = ((n : Int) == 0) := by rw [Bool.eq_iff_iff, beq_iff_eq, decide_eq_true_eq]; omega
    rw [q]
    clear q
    go_enter Tryz.func37, Tryz.ntmps37
    have tk0 : Hid True := trivial
    go_wp2_with (first
      | (clear tk0; with_reducible refine wpSeq_boxW 62 (.tmp 0) [.string ks, .bool false, .slice ad n c] ?_ ?_ ?_ ?_
         · rfl
         · rfl
         · rfl
         intro g1 y1 nn
         have c1 : y1.cell? ⟨g1, 1, none⟩ = some (.bool false) := nn.blk.cell 1
         have c2 : y1.cell? ⟨g1, 2, none⟩ = some (.slice ad n c) := nn.blk.cell 2
         have HB : Hid (Below w.heap.size w y1) := nn.below
         clear nn))
    go_ret
    exact ⟨rfl, HB.out⟩
end Go.Proofs.YtopmeedmgjdcgaaGreatDoor
/- The walks of store.Check and of the reference's Check (layer 15). -/
namespace Go.Proofs.YtopmeedmgjdcgaaGreatDoor
open Go.RowKit
set_option maxRecDepth 100000
theorem goodF_bad {l : List ActT} {i : Nat} (h : goodF [] (l.take (i + 1)) = false) : goodF [] l = false := by
  have e : l = l.take (i + 1) ++ l.drop (i + 1) := (List.take_append_drop _ _).symm
  rw [e]
  exact goodF_false _ _ _ h
theorem goodF_step {l : List ActT} {i : Nat} (hi : i < l.length) (h : goodF [] (l.take i) = true) : goodF [] (l.take (i + 1)) = (ltB (lastK [] (l.take i)) (l.getD i ⟨[], false, []⟩).key && okA (l.getD i ⟨[], false, []⟩)) := by
  rw [take_act hi, goodF_snoc, h, Bool.true_and]
theorem lastK_step {l : List ActT} {i : Nat} (hi : i < l.length) : lastK [] (l.take (i + 1)) = (l.getD i ⟨[], false, []⟩).key := by rw [take_act hi, lastK_snoc]
set_option maxRecDepth 100000 in
set_option maxHeartbeats 4000000 in
theorem sCheck_any (v : Value) (l : List ActT) (w : World) (hr : ReadsA w v l) (hl : l.length < 4611686018427387904) : Calls Tryz.prog 11 #[v] w fun e w' => e = .returned (.int .i64 (chkL l)) ∧ Below w.heap.size w w' := by
  have HR : Hid (ReadsA w v l) := hr
  obtain ⟨n, HN⟩ : ∃ n, Hid (n = l.length) := ⟨_, rfl⟩
  obtain ⟨ad, c, hv⟩ := hr.form
  rw [← HN.out] at hv
  subst hv
  obtain ⟨X, HX⟩ : ∃ x, Hid (x = chkL l) := ⟨_, rfl⟩
  rw [← HX.out]
  have HLN : Hid (n < 4611686018427387904) := by rw [HN.out]; exact hl
  clear hr hl
  by_cases h4 : 4096 < n
  · have q1 : (4096 : Int) < (n : Int) := by omega
    obtain rfl : X = 1 := by rw [HX.out, chkL, if_neg (fun h => by have := HN.out; omega)]
    go_enter Tryz.func11, Tryz.ntmps11
    go_wp2
    go_ret
    exact ⟨rfl, Below.refl _ _⟩
  have q1 : ¬ ((4096 : Int) < (n : Int)) := by omega
  have H4 : Hid (n ≤ 4096) := by show _ ≤ _; omega
  clear h4
  have HDM : Hid (∀ (W : World) (a : ActT) (vd : Value), Reads W vd a.data → Calls Tryz.prog 37 #[.agg (actC a vd).toArray] W fun e w' => e = .returned (.bool (mayD a)) ∧ Below W.heap.size W w') := fun W a vd h => sDataMay_any a vd W h
  have he0 : (⟨#[]⟩ : ByteArray) = strB (lastK [] (l.take 0)) := by rfl
  go_enter Tryz.func11, Tryz.ntmps11
  go_wp2
  clear q1
  go_loopw [3, 11] (fun lv iv W => ∃ (i : Nat) (ls : ByteArray), i ≤ n ∧ iv = .int .i64 (i : Int) ∧ lv = .string ls ∧ Hid (ls = strB (lastK [] (l.take i))) ∧ Hid (goodF [] (l.take i) = true) ∧ Hid (Below w.heap.size w W)) (fun _ iv _ => n - (intOf iv).toNat)
  case atStart => exact ⟨0, ⟨#[]⟩, Nat.zero_le _, rfl, rfl, he0, rfl, Below.refl _ _⟩
  case round =>
    clear he0
    obtain ⟨i, ls, hi, rfl, rfl, HLS, HGF, HBW⟩ := hrel
    by_cases hin : i < n
    case neg =>
      have hlk : ¬ ((i : Int) < (n : Int)) := by omega
      obtain rfl : X = 0 := by
        have h := HGF.out
        rw [List.take_of_length_le (by rw [← HN.out]; omega)] at h
        rw [HX.out, chkL, if_pos ⟨by rw [← HN.out]; exact H4.out, h⟩]
      go_wp2
      go_ret
      exact ⟨rfl, HBW.out⟩
    case pos =>
      have hlk : (i : Int) < (n : Int) := by omega
      have f1 : IntKind.i64.wrap ((i : Int) + 1) = (i : Int) + 1 := by rw [IntKind.wrap_i64]; have := H4.out; omega
      have HIN : Hid (i < n) := hin
      have hil : i < l.length := by rw [← HN.out]; exact hin
      obtain ⟨b, off, vd, rfl, hrg, hrd⟩ := (HR.out.below HBW.out).at hil
      have hst := goodF_step hil HGF.out
      have hlt := lastK_step hil
      obtain ⟨a, HA⟩ : ∃ a, Hid (a = l.getD i ⟨[], false, []⟩) := ⟨_, rfl⟩
      rw [← HA.out] at hrg hrd hst hlt
      obtain ⟨ks, HKS⟩ : ∃ s, Hid (s = strB a.key) := ⟨_, rfl⟩
      obtain ⟨st, HST⟩ : ∃ s, Hid (s = a.set) := ⟨_, rfl⟩
      obtain ⟨av, nv, cv, hvd⟩ := hrd.form
      subst hvd
      have HCE : Hid (actC a (.slice av nv cv) = [.string ks, .bool st, .slice av nv cv]) := by show _ = _; rw [actC, HKS.out, HST.out]
      rw [HCE.out] at hrg
      have HRG : Hid (wr.rangeAt b (off + i * 3) [.string ks, .bool st, .slice av nv cv]) := hrg
      have HRD : Hid (Reads wr (.slice av nv cv) a.data) := hrd
      obtain ⟨kn, HKN⟩ : ∃ k, Hid (k = a.key.length) := ⟨_, rfl⟩
      have hsz : ks.size = kn := by rw [HKS.out, strB_size, HKN.out]
      obtain ⟨md, HMD⟩ : ∃ b, Hid (b = mayD a) := ⟨_, rfl⟩
      replace HDM : Hid (∀ (W : World), Reads W (.slice av nv cv) a.data → Calls Tryz.prog 37 #[.agg [.string ks, .bool st, .slice av nv cv].toArray] W fun e w' => e = .returned (.bool md) ∧ Below W.heap.size W w') := fun W h => by
        have h1 := HDM.out W a _ h
        rw [HCE.out, ← HMD.out] at h1
        exact h1
      obtain ⟨lt, HLT⟩ : ∃ b, Hid (b = ltB (lastK [] (l.take i)) a.key) := ⟨_, rfl⟩
      have HLE : Hid ((Op.bytesLess ks.toList ls.toList || (ks.toList == ls.toList)) = !lt) := by show _ = _; rw [HKS.out, HLS.out, leq_str, HLT.out]
      have HST2 : Hid (goodF [] (l.take (i + 1)) = (lt && (decide (kn ≤ 64) && md))) := by show _ = _; rw [hst, okA_may, HLT.out, HKN.out, HMD.out]
      have HLK2 : Hid (ks = strB (lastK [] (l.take (i + 1)))) := by show _ = _; rw [hlt, HKS.out]
      have HBAD : Hid (goodF [] (l.take (i + 1)) = false → X = 1) := fun h => by rw [HX.out, chkL, if_neg (fun h2 => by rw [goodF_bad h] at h2; cases h2.2)]
      clear hrg hrd hst hlt hil
      cases lt with
      | false =>
        replace HLE : Hid ((Op.bytesLess ks.toList ls.toList || (ks.toList == ls.toList)) = true) := HLE.out
        obtain rfl : X = 1 := HBAD.out (by rw [HST2.out]; rfl)
        have tk0 : Hid True := trivial
        have tk1 : Hid True := trivial
        have tk2 : Hid True := trivial
        have tk3 : Hid True := trivial
        have tk4 : Hid True := trivial
        go_wp2_with (first
          | (clear tk0; with_reducible refine wpSeq_idxA (.tmp 9) (.tmp 11) b off n c i HIN.out ?_ ?_ ?_ ?_ ?_
             · rfl
             · rfl
             · rfl
             · rfl)
          | (clear tk1; with_reducible refine wpSeq_loadW 62 (.tmp 13) b (off + i * 3) [.string ks, .bool st, .slice av nv cv] _ HRG.out Tryz.underlying62 rfl (info_act15 _ _ _) ?_ ?_ ?_ ?_
             · rfl
             · rfl
             · rfl)
          | (clear tk2; with_reducible refine wpSeq_allocA ?_ ?_ ?_
             · rfl
             · rfl
             intro g5 y1 nn
             have HG5 : Hid (Blk y1 g5 zA 62 ∧ wr.heap.size ≤ g5) := ⟨nn.blk, nn.ge⟩
             have HB1 : Hid (Below wr.heap.size wr y1) := nn.below
             clear nn)
          | (clear tk3; with_reducible refine wpSeq_storeRow 62 (.tmp 5) (.tmp 14) g5 zA [.string ks, .bool st, .slice av nv cv] HG5.out.1 rfl (info_act15 _ _ _) (one_act _ _ _ _ _) ?_ ?_ ?_ ?_ ?_
             · rfl
             · rfl
             · rfl
             · rfl
             intro y2 hset
             have c0 : y2.cell? ⟨g5, 0, none⟩ = some (.string ks) := hset.blk.cell 0
             have HB2 : Hid (Below w.heap.size w y2) := HBW.out.trans ((HB1.out.trans (hset.only.below HG5.out.2 HB1.out.size)).mono HBW.out.size)
             clear hset)
          | (clear tk4; with_reducible refine wpSeq_sLe ks ls true (.tmp 16) (.tmp 17) HLE.out ?_ ?_ ?_ ?_ ?_
             · rfl
             · rfl
             · rfl
             · rfl))
        go_ret
        exact ⟨rfl, HB2.out⟩
      | true =>
        replace HLE : Hid ((Op.bytesLess ks.toList ls.toList || (ks.toList == ls.toList)) = false) := HLE.out
        by_cases hk : kn ≤ 64
        case neg =>
          obtain rfl : X = 1 := HBAD.out (by rw [HST2.out, decide_eq_false hk]; rfl)
          have q2 : (64 : Int) < (kn : Int) := by omega
          have tk0 : Hid True := trivial
          have tk1 : Hid True := trivial
          have tk2 : Hid True := trivial
          have tk3 : Hid True := trivial
          have tk4 : Hid True := trivial
          go_wp2_with (first
            | (clear tk0; with_reducible refine wpSeq_idxA (.tmp 9) (.tmp 11) b off n c i HIN.out ?_ ?_ ?_ ?_ ?_
               · rfl
               · rfl
               · rfl
               · rfl)
            | (clear tk1; with_reducible refine wpSeq_loadW 62 (.tmp 13) b (off + i * 3) [.string ks, .bool st, .slice av nv cv] _ HRG.out Tryz.underlying62 rfl (info_act15 _ _ _) ?_ ?_ ?_ ?_
               · rfl
               · rfl
               · rfl)
            | (clear tk2; with_reducible refine wpSeq_allocA ?_ ?_ ?_
               · rfl
               · rfl
               intro g5 y1 nn
               have HG5 : Hid (Blk y1 g5 zA 62 ∧ wr.heap.size ≤ g5) := ⟨nn.blk, nn.ge⟩
               have HB1 : Hid (Below wr.heap.size wr y1) := nn.below
               clear nn)
            | (clear tk3; with_reducible refine wpSeq_storeRow 62 (.tmp 5) (.tmp 14) g5 zA [.string ks, .bool st, .slice av nv cv] HG5.out.1 rfl (info_act15 _ _ _) (one_act _ _ _ _ _) ?_ ?_ ?_ ?_ ?_
               · rfl
               · rfl
               · rfl
               · rfl
               intro y2 hset
               have c0 : y2.cell? ⟨g5, 0, none⟩ = some (.string ks) := hset.blk.cell 0
               have HB2 : Hid (Below w.heap.size w y2) := HBW.out.trans ((HB1.out.trans (hset.only.below HG5.out.2 HB1.out.size)).mono HBW.out.size)
               clear hset)
            | (clear tk4; with_reducible refine wpSeq_sLe ks ls false (.tmp 16) (.tmp 17) HLE.out ?_ ?_ ?_ ?_ ?_
               · rfl
               · rfl
               · rfl
               · rfl))
          go_ret
          exact ⟨rfl, HB2.out⟩
        case pos =>
          have q2 : ¬ ((64 : Int) < (kn : Int)) := by omega
          have HG2 : Hid (goodF [] (l.take (i + 1)) = md) := by show _ = _; rw [HST2.out, decide_eq_true hk]; simp
          have HRW : Hid (∀ W, Below wr.heap.size wr W → Reads W (.slice av nv cv) a.data) := fun W h => HRD.out.below h
          have tk0 : Hid True := trivial
          have tk1 : Hid True := trivial
          have tk2 : Hid True := trivial
          have tk3 : Hid True := trivial
          have tk4 : Hid True := trivial
          have tk5 : Hid True := trivial
          have tk6 : Hid True := trivial
          go_wp2_with (first
            | (clear tk0; with_reducible refine wpSeq_idxA (.tmp 9) (.tmp 11) b off n c i HIN.out ?_ ?_ ?_ ?_ ?_
               · rfl
               · rfl
               · rfl
               · rfl)
            | (clear tk1; with_reducible refine wpSeq_loadW 62 (.tmp 13) b (off + i * 3) [.string ks, .bool st, .slice av nv cv] _ HRG.out Tryz.underlying62 rfl (info_act15 _ _ _) ?_ ?_ ?_ ?_
               · rfl
               · rfl
               · rfl)
            | (clear tk2; with_reducible refine wpSeq_allocA ?_ ?_ ?_
               · rfl
               · rfl
               intro g5 y1 nn
               have HG5 : Hid (Blk y1 g5 zA 62 ∧ wr.heap.size ≤ g5) := ⟨nn.blk, nn.ge⟩
               have HB1 : Hid (Below wr.heap.size wr y1) := nn.below
               clear nn)
            | (clear tk3; with_reducible refine wpSeq_storeRow 62 (.tmp 5) (.tmp 14) g5 zA [.string ks, .bool st, .slice av nv cv] HG5.out.1 rfl (info_act15 _ _ _) (one_act _ _ _ _ _) ?_ ?_ ?_ ?_ ?_
               · rfl
               · rfl
               · rfl
               · rfl
               intro y2 hset
               have HK5 : Hid (Blk y2 g5 [.string ks, .bool st, .slice av nv cv] 62) := hset.blk
               have c0 : y2.cell? ⟨g5, 0, none⟩ = some (.string ks) := hset.blk.cell 0
               have HB3 : Hid (Below wr.heap.size wr y2) := HB1.out.trans (hset.only.below HG5.out.2 HB1.out.size)
               have HB2 : Hid (Below w.heap.size w y2) := HBW.out.trans (HB3.out.mono HBW.out.size)
               clear hset)
            | (clear tk4; with_reducible refine wpSeq_sLe ks ls false (.tmp 16) (.tmp 17) HLE.out ?_ ?_ ?_ ?_ ?_
               · rfl
               · rfl
               · rfl
               · rfl)
            | (clear tk5; with_reducible refine wpSeq_loadW 62 (.tmp 5) g5 0 [.string ks, .bool st, .slice av nv cv] _ (Blk.range HK5.out) Tryz.underlying62 rfl (info_act15 _ _ _) ?_ ?_ ?_ ?_
               · rfl
               · rfl
               · rfl)
            | (clear tk6; go_at_call 37; refine (HDM.out _ (HRW.out _ HB3.out)).mono ?_; rintro e0 y3 ⟨rfl, hz⟩
               replace c0 : y3.cell? ⟨g5, 0, none⟩ = some (.string ks) := (HK5.out.below hz HK5.out.lt).cell 0
               replace HB2 : Hid (Below w.heap.size w y3) := HB2.out.trans (hz.mono HB2.out.size)
               clear hz
               cases md))
          · obtain rfl : X = 1 := HBAD.out HG2.out
            go_ret
            exact ⟨rfl, HB2.out⟩
          · go_roundw
            case rel => exact ⟨i + 1, ks, by omega, by simp, rfl, HLK2, HG2, HB2⟩
            case measure => simp [intOf]; omega
end Go.Proofs.YtopmeedmgjdcgaaGreatDoor
/- The walks of codec.Num and blazonref04.Num: a number's groups of seven bits behind bytes. -/
namespace Go.Proofs.YtopmeedmgjdcgaaGreatDoor
open Go.RowKit
set_option maxRecDepth 100000
theorem enc_len (n : Nat) (k : Nat) (h : n < 128 ^ (k + 1)) : (encNum n).length ≤ k + 1 := by
  induction k generalizing n with
  | zero => rw [encNum_lt (by simpa using h)]; simp
  | succ k ih =>
    by_cases h1 : n < 128
    · rw [encNum_lt h1]; simp
    · rw [encNum_ge h1, List.length_cons]
      have := ih (n / 128) (by rw [Nat.pow_succ] at h; omega)
      omega
theorem enc_len10 (n : Nat) (h : n < 18446744073709551616) : (encNum n).length ≤ 10 := enc_len n 9 (by omega)
theorem or128 (m : Nat) : bits .or .u8 ((m : Int) % 256) 128 = (((BitVec.ofNat 8 (m % 128 + 128)).toNat : Nat) : Int) := by
  have key : ∀ x : BitVec 8, (x ||| 128#8).toNat = x.toNat % 128 + 128 := by decide
  have e : BitVec.ofInt 8 ((m : Int) % 256) = BitVec.ofNat 8 (m % 256) := by
    rw [show ((m : Int) % 256) = ((m % 256 : Nat) : Int) by omega, BitVec.ofInt_natCast]
  show IntKind.u8.wrap ((BitVec.ofInt 8 ((m : Int) % 256) ||| BitVec.ofInt 8 128).toNat : Int) = _
  rw [e, show (BitVec.ofInt 8 128 : BitVec 8) = 128#8 from rfl, key, BitVec.toNat_ofNat, BitVec.toNat_ofNat]
  simp [IntKind.wrap, IntKind.bits, IntKind.signed]
theorem enc_step {p : List (BitVec 8)} {m n : Nat} (hm : ¬ m < 128) (hp : p ++ encNum m = encNum n) : (p ++ [BitVec.ofNat 8 (m % 128 + 128)]) ++ encNum (m / 128) = encNum n := by
  rw [← hp, encNum_ge hm]; simp
structure NuInv (base : Nat) (w : World) (l : List (BitVec 8)) (n m : Nat) (p : List (BitVec 8)) (u : Value) (wr : World) : Prop where
  own : OwnB wr base u (l ++ p)
  bel : Below base w wr
  eq : p ++ encNum m = encNum n
  lt : m < 18446744073709551616
theorem NuInv.le {base : Nat} {w wr : World} {l p : List (BitVec 8)} {n m : Nat} {u : Value} (h : NuInv base w l n m p u wr) (hn : n < 18446744073709551616) : p.length < 10 := by
  have := enc_len10 n hn
  have h2 := congrArg List.length h.eq
  have h3 := encNum_pos m
  rw [List.length_append] at h2
  omega
set_option maxHeartbeats 400000 in
theorem cnum_any (base : Nat) (v : Value) (l : List (BitVec 8)) (n : Nat) (hn : n < 18446744073709551616) (w : World) (hown : OwnB w base v l) (hb : base ≤ w.heap.size) (hl : l.length + 10 ≤ 140737488355328) :
    Calls Tryz.prog 72 #[v, .int .u64 (n : Int)] w fun e w' => ∃ v', e = .returned v' ∧ OwnB w' base v' (l ++ encNum n) ∧ Below base w w' := by
  have HO : Hid (OwnB w base v l) := hown
  have HN : Hid (n < 18446744073709551616) := hn
  have HL : Hid (l.length + 10 ≤ 140737488355328) := hl
  have HB : Hid (base ≤ w.heap.size) := hb
  clear hown hn hl hb
  go_enter Tryz.func72, Tryz.ntmps72
  go_wp2
  go_loopw [0, 1] (fun u x wr => ∃ (p : List (BitVec 8)) (m : Nat), x = .int .u64 m ∧ NuInv base w l n m p u wr) (fun _ x _ => (intOf x).toNat)
  case atStart => exact ⟨[], n, rfl, by simpa using HO.out, Below.refl _ _, rfl, HN.out⟩
  case round =>
    obtain ⟨p, m, rfl, hI⟩ := hrel
    have HI : Hid (NuInv base w l n m p u0 wr) := hI
    have HP : Hid (p.length < 10) := hI.le HN.out
    have HS : Hid (base ≤ wr.heap.size) := Nat.le_trans HB.out hI.bel.size
    clear hI
    by_cases hlt : m < 128
    · have hge : ¬ (128 ≤ (m : Int)) := by omega
      have hx : (m : Int) % 256 = (m : Int) := by omega
      go_wp2_with (at_builtin; refine wpList_appendB rfl (.tmp 15) (.tmp 18) rfl base _ (l ++ p) rfl (HI.out.own.below ((Below.refl _ _).alloc (Nat.le_refl _) _) (Nat.le_refl _)) _ [BitVec.ofNat 8 m] rfl (reads_val wr _ _ ?_) (by have := HL.out; have := HP.out; simp; omega) (by have := HS.out; simp; omega) ?_; simp; omega; intro v2 w2 hown2 hb2 _)
      have HR : Hid (OwnB w2 base v2 (l ++ encNum n)) := by
        rw [← HI.out.eq, encNum_lt hlt, ← List.append_assoc]; exact hown2
      have hB : Below base w w2 := HI.out.bel.trans (((Below.refl _ _).alloc HS.out _).trans hb2)
      clear hown2 hb2 HI
      go_wp2
      go_ret
      exact ⟨_, rfl, HR.out, hB⟩
    · have hge : 128 ≤ (m : Int) := by omega
      have HLT : Hid (¬ m < 128) := hlt
      have hw : IntKind.u64.wrap ((m : Int) / 128) = (m : Int) / 128 := by have := HI.out.lt; rw [IntKind.wrap_u64]; omega
      clear hlt
      go_wp2_with (at_builtin; refine wpList_appendB rfl (.tmp 7) (.tmp 11) rfl base _ (l ++ p) rfl (HI.out.own.below ((Below.refl _ _).alloc (Nat.le_refl _) _) (Nat.le_refl _)) _ [BitVec.ofNat 8 (m % 128 + 128)] rfl (reads_val wr _ _ ?_) (by have := HL.out; have := HP.out; simp; omega) (by have := HS.out; simp; omega) ?_; (go_loud (rw [or128 m])); intro v2 w2 hown2 hb2 _)
      have hJ : NuInv base w l n (m / 128) (p ++ [BitVec.ofNat 8 (m % 128 + 128)]) v2 w2 := ⟨by rw [List.append_assoc] at hown2; exact hown2, HI.out.bel.trans (((Below.refl _ _).alloc HS.out _).trans hb2), enc_step HLT.out HI.out.eq, by have := HI.out.lt; omega⟩
      clear hown2 hb2 HI
      go_wp2
      go_roundw
      case rel => exact ⟨_, m / 128, by simp, hJ⟩
      case measure => simp [intOf]; omega
end Go.Proofs.YtopmeedmgjdcgaaGreatDoor
/- The walk of slices.Insert at bytes, where what is put in lies in a block of its own: what stood ahead, what is put in, what stood behind. -/
namespace Go.Proofs.YtopmeedmgjdcgaaGreatDoor
open Go.RowKit
set_option maxRecDepth 100000
theorem overlaps_no (w : World) (b vb x y m vc lb kb : Nat) (cs vs : List Value) (tA tB : TypeId) (hne : vb ≠ b) (hv : Blk w vb vs tA) (hb : Blk w b cs tB) (hc : cs ≠ []) :
    (callFunc 146 #[.slice (some ⟨vb, x, none⟩) m vc, .slice (some ⟨b, y, none⟩) lb kb]).run Tryz.prog w = .ok (.value (.bool false)) w := by
  have hz : ∀ w, (Go.sizeOf 5).run Tryz.prog w = .ok 1 w := fun w => by kernel_rfl
  have sa : w.shape? vb = some (tA, vs.length) := by have h := hv; unfold Blk at h; simp [World.shape?, h]
  have sb : w.shape? b = some (tB, cs.length) := by have h := hb; unfold Blk at h; simp [World.shape?, h]
  rw [run_callFunc_extern Tryz.func146 (by kernel_rfl) (by kernel_rfl) (by kernel_rfl) (e := Extern.SlicesOverlaps.overlaps #[23, 23] #[4]) (by kernel_rfl),
    Lib.run_overlaps_apart w 23 4 5 Tryz.underlying23 1 hz ⟨vb, x, none⟩ ⟨b, y, none⟩ m vc lb kb hne tA tB vs.length cs.length sa sb (by simpa using hc) (hv.frozen _) (hv.frozen _)]
  rfl
set_option maxHeartbeats 4000000 in
set_option maxRecDepth 100000 in
/-- there is room: in place -/
theorem ins_shift (b n c i vb m vc : Nat) (cs vs cur vcur : List Value) (w : World) (hi : i < n) (hm : 0 < m) (hroom : n + m ≤ c) (hc63 : c ≤ 9223372036854775807) (hvb : vb ≠ b)
    (hcl : cs.length = n) (hvl : vs.length = m) (hB : Blk w b cur 5) (hV : Blk w vb vcur 5) (hcap : cur.length = c) (hcs : cur.take n = cs) (hvs : vcur.take m = vs) (h1c : ∀ v ∈ cs, v.oneCell' = true) (h1v : ∀ v ∈ vs, v.oneCell' = true) :
    Calls Tryz.prog 122 #[.slice (some ⟨b, 0, none⟩) n c, .int .i64 i, .slice (some ⟨vb, 0, none⟩) m vc] w fun e w' =>
      e = .returned (.slice (some ⟨b, 0, none⟩) (n + m) c) ∧ w' = (w.drew.setCells b (i + m) (cs.drop i)).setCells b i vs := by
  have mixed : Tryz.prog.follows Departure.mixedOrders = true := by kernel_rfl
  have hz1 : ¬ ((m : Int) = 0) := by omega
  have hz2 : ¬ ((i : Int) = (n : Int)) := by omega
  have hsz : (Tryz.prog.info? 5).map (·.size) = some 1 := by kernel_rfl
  have hov : ∀ lb kb, (callFunc 146 #[.slice (some ⟨vb, 0, none⟩) m vc, .slice (some ⟨b, i + m, none⟩) lb kb]).run Tryz.prog w = .ok (.value (.bool false)) w := fun lb kb => overlaps_no w b vb 0 (i + m) m vc lb kb cur vcur _ _ hvb hV hB (by intro h; subst h; simp at hcap; omega)
  have hdl : (cs.drop i).length = n - i := by rw [List.length_drop, hcl]
  have hcc : ∀ j v, cs[j]? = some v → w.cell? ⟨b, j, none⟩ = some v := fun j v hj => by
    rw [hB.cell, ← hj, ← hcs, List.getElem?_take_of_lt (by have := (List.getElem?_eq_some_iff.1 hj).1; omega)]
  have hvv : ∀ j v, vs[j]? = some v → w.cell? ⟨vb, j, none⟩ = some v := fun j v hj => by
    rw [hV.cell, ← hj, ← hvs, List.getElem?_take_of_lt (by have := (List.getElem?_eq_some_iff.1 hj).1; omega)]
  have hsp : ∀ j, j < n + m → (w.cell? ⟨b, j, none⟩).isSome = true := fun j hj => by rw [hB.cell, List.getElem?_eq_getElem (by omega)]; rfl
  have hfz : ∀ j, w.frozen? ⟨b, j, none⟩ = false := fun j => hB.frozen j
  have hw1 : IntKind.i64.wrap ((i : Int) + (m : Int)) = (i : Int) + (m : Int) := by rw [IntKind.wrap_i64]; omega
  have hb1 : (0 : Int) ≤ (i : Int) + (m : Int) := by omega
  have hin : i ≤ n := by omega
  have htn : ((i : Int) + (m : Int)).toNat = i + m := by omega
  have hb2 : ¬ (c = i + m) := by omega
  have hb3 : (i : Int) ≤ (n : Int) + (m : Int) := by omega
  have hb4 : ¬ (c = i) := by omega
  have hcp1 : ∀ ty dc sc, (Builtin.copy_ #[23, 23] ty #[.slice (some ⟨b, i + m, none⟩) (n + m - (i + m)) dc, .slice (some ⟨b, i, none⟩) (n + m - i) sc]).run Tryz.prog w.drew = .ok (goInt (cs.drop i).length) (w.drew.setCells b (i + m) (cs.drop i)) := fun ty dc sc =>
    run_copy_cells w.drew _ _ ty 5 b (i + m) (n + m - (i + m)) dc ⟨b, i, none⟩ (n + m - i) sc (cs.drop i) Tryz.underlying23 hsz (by rw [hdl]; simp only [Nat.min_def]; split <;> omega)
      (fun j v hj => by rw [Addr.add_lit]; exact hcc (i + j) v (by rwa [List.getElem?_drop] at hj))
      (fun j hj => hsp _ (by omega)) (fun j hj => hfz _) (fun v hv => h1c v (List.mem_of_mem_drop hv))
  obtain ⟨W1, hW1⟩ : ∃ W1, W1 = w.drew.setCells b (i + m) (cs.drop i) := ⟨_, rfl⟩
  have hsp1 : ∀ k, k < n + m → (W1.cell? ⟨b, k, none⟩).isSome = true := fun k hk => by
    rw [hW1]
    exact isSome_setCells b (cs.drop i) (i + m) w.drew (fun j hj => hsp (i + m + j) (by omega)) k (hsp k hk)
  have hcp2 : ∀ (W : World), (∀ x, W.cell? x = W1.cell? x) → (∀ x, W.frozen? x = W1.frozen? x) → ∀ ty dc, (Builtin.copy_ #[23, 23] ty #[.slice (some ⟨b, i, none⟩) (n + m - i) dc, .slice (some ⟨vb, 0, none⟩) m vc]).run Tryz.prog W = .ok (goInt vs.length) (W.setCells b i vs) := fun W hWc hWf ty dc =>
    run_copy_cells W _ _ ty 5 b i (n + m - i) dc ⟨vb, 0, none⟩ m vc vs Tryz.underlying23 hsz (by rw [hvl]; simp only [Nat.min_def]; split <;> omega)
      (fun j v hj => by
        rw [Addr.add_lit, hWc, hW1, World.cell?_setCells_out b _ _ _ _ (fun h _ => absurd h hvb), Nat.zero_add]
        exact hvv j v hj)
      (fun j hj => by rw [hWc]; exact hsp1 _ (by omega)) (fun j hj => by rw [hWf, hW1, World.frozen?_setCells]; exact hfz _) h1v
  rw [← hW1] at hcp1
  clear hcs hvs
  go_enter Tryz.func122, Tryz.ntmps122
  go_wp2_with (simp only [hov])
  go_region_law_o (refine step_copy_runI rfl _ _ 23 23 rfl _ _ (by simp [Act.eval, Act.put]) (by simp [Act.eval, Act.put]) (hcp1 _ _ _) ?_)
  go_wp2_with (at_builtin; refine wpList_copy_runI _ rfl _ _ 23 23 rfl _ _ rfl rfl (hcp2 _ (fun _ => rfl) (fun _ => rfl) _ _) ?_)
  go_ret
  first | exact ⟨rfl, rfl⟩ | exact ⟨rfl, by rw [hW1]⟩
set_option maxHeartbeats 4000000 in
set_option maxRecDepth 100000 in
/-- there is no room: a new row -/
theorem ins_grow (b n c i vb m vc : Nat) (cs vs cur vcur : List Value) (w : World) (hi : i < n) (hm : 0 < m) (hnc : n ≤ c) (hroom : c < n + m) (hbig : n + m ≤ 140737488355328)
    (hcl : cs.length = n) (hvl : vs.length = m) (hB : Blk w b cur 5) (hV : Blk w vb vcur 5) (hcs : cur.take n = cs) (hvs : vcur.take m = vs) (h1c : ∀ v ∈ cs, v.oneCell' = true) (h1v : ∀ v ∈ vs, v.oneCell' = true) :
    Calls Tryz.prog 122 #[.slice (some ⟨b, 0, none⟩) n c, .int .i64 i, .slice (some ⟨vb, 0, none⟩) m vc] w fun e w' =>
      ∃ (G : Nat) (row : List Value), e = .returned (.slice (some ⟨w.heap.size, 0, none⟩) (n + m) G) ∧ n + m ≤ G ∧ G ≤ maxLen ∧ row.length = G ∧ row.take i = cs.take i ∧
      w' = (((w.alloc (.cells row.toArray 5)).drew.setCells w.heap.size i vs).drew).setCells w.heap.size (i + m) (cs.drop i) := by
  have mixed : Tryz.prog.follows Departure.mixedOrders = true := by kernel_rfl
  obtain ⟨i0, hi0, hz0, hzs, hzb⟩ := info_parts Tryz.infob
  have hz1 : ¬ ((m : Int) = 0) := by omega
  have hz2 : ¬ ((i : Int) = (n : Int)) := by omega
  have hz3 : (c : Int) < (n : Int) + (m : Int) := by omega
  have hsz : (Tryz.prog.info? 5).map (·.size) = some 1 := by kernel_rfl
  have hcc : ∀ j v, cs[j]? = some v → w.cell? ⟨b, j, none⟩ = some v := fun j v hj => by
    rw [hB.cell, ← hj, ← hcs, List.getElem?_take_of_lt (by have := (List.getElem?_eq_some_iff.1 hj).1; omega)]
  have hvv : ∀ j v, vs[j]? = some v → w.cell? ⟨vb, j, none⟩ = some v := fun j v hj => by
    rw [hV.cell, ← hj, ← hvs, List.getElem?_take_of_lt (by have := (List.getElem?_eq_some_iff.1 hj).1; omega)]
  have hbw : b < w.heap.size := hB.lt
  have hvw : vb < w.heap.size := hV.lt
  have hkk : (n : Int) + (m : Int) - (i : Int) = ((n + m - i : Nat) : Int) := by omega
  have hik : i + (n + m - i) = n + m := by omega
  have hold : (Builtin.firstCells i0.size i (.slice (some ⟨b, 0, none⟩) i c)).run Tryz.prog w.drew = .ok (cs.take i).toArray w.drew := by
    rw [hzs]
    exact run_firstCells_some w.drew 1 i ⟨b, 0, none⟩ i c (cs.take i) (by rw [List.length_take]; omega) (fun j v hj => by
      rw [Addr.add_lit, Nat.zero_add]
      rw [List.getElem?_take] at hj
      split at hj
      · exact hcc j v hj
      · cases hj)
  have hrz : ∀ ty, (Builtin.append_ #[23, 3] ty #[.slice (some ⟨b, 0, none⟩) i c, .int .i64 ((n : Int) + (m : Int) - (i : Int))]).run Tryz.prog w =
      .ok (.slice (some ⟨w.heap.size, 0, none⟩) (n + m) (grownCap w (n + m) c 5)) (w.drew.alloc (.cells ((cs.take i).toArray ++ Builtin.zeroCells (Value.int .u8 0).cells (n + m - i) ++ Builtin.zeroCells (Value.int .u8 0).cells (grownCap w (n + m) c 5 - (n + m))) 5)) := fun ty => by
    have h := Lib.run_append_grow_zeros w 23 3 ty 5 i0 _ .i64 .i64 Tryz.underlying23 Tryz.underlying3 hi0 hz0 (some ⟨b, 0, none⟩) i c (cs.take i) hold (n + m - i) (by omega) (by omega) (by omega) (by omega) (by rw [hzb]; omega) (by rw [hzb, hik]; exact growslice_fits hroom (by omega))
    rw [hik] at h
    rw [hkk]
    exact h
  obtain ⟨G, hG⟩ : ∃ G, G = grownCap w (n + m) c 5 := ⟨_, rfl⟩
  have hGn : n + m ≤ G := by rw [hG]; exact grownCap_ge w _ _ _
  have hGm : G ≤ maxLen := by rw [hG]; exact grownCap_le_maxLen w (n + m) c 5 (by unfold maxLen; omega)
  obtain ⟨ROW, hROW⟩ : ∃ ROW : Array Value, ROW = (cs.take i).toArray ++ Builtin.zeroCells (Value.int .u8 0).cells (n + m - i) ++ Builtin.zeroCells (Value.int .u8 0).cells (G - (n + m)) := ⟨_, rfl⟩
  rw [← hG] at hrz
  rw [← hROW] at hrz
  have hRs : ROW.size = G := by
    have hzc : ∀ k, (Builtin.zeroCells (Value.int .u8 0).cells k).size = k := fun k => by simp [Builtin.zeroCells, Value.cells]
    rw [hROW, Array.size_append, Array.size_append, hzc, hzc, List.size_toArray, List.length_take]
    omega
  have hRt : ROW.toList.take i = cs.take i := by
    rw [hROW]
    simp only [Array.toList_append, List.append_assoc]
    rw [List.take_append_of_le_length (by rw [List.length_take]; omega), List.take_take, Nat.min_self]
  obtain ⟨W1, hW1⟩ : ∃ W1, W1 = w.drew.alloc (.cells ROW 5) := ⟨_, rfl⟩
  rw [← hW1] at hrz
  have hN : ∀ j, j < n + m → (W1.cell? ⟨w.heap.size, j, none⟩).isSome = true := fun j hj => by
    rw [hW1, World.cell?_alloc_at (w := w.drew) ROW _ w.heap.size j rfl, Array.getElem?_eq_getElem (by omega)]; rfl
  have hNf : ∀ j, W1.frozen? ⟨w.heap.size, j, none⟩ = false := fun j => by rw [hW1]; exact World.frozen?_alloc_at (w := w.drew) ROW _ w.heap.size j rfl
  have hOb : ∀ j v, w.cell? ⟨b, j, none⟩ = some v → W1.cell? ⟨b, j, none⟩ = some v := fun j v h => by rw [hW1, World.cell?_alloc_past (w := w.drew) _ b j hbw]; exact h
  have hOv : ∀ j v, w.cell? ⟨vb, j, none⟩ = some v → W1.cell? ⟨vb, j, none⟩ = some v := fun j v h => by rw [hW1, World.cell?_alloc_past (w := w.drew) _ vb j hvw]; exact h
  have hcpA : ∀ (W : World), (∀ x, W.cell? x = W1.cell? x) → (∀ x, W.frozen? x = W1.frozen? x) → ∀ ty dc, (Builtin.copy_ #[23, 23] ty #[.slice (some ⟨w.heap.size, i, none⟩) (n + m - i) dc, .slice (some ⟨vb, 0, none⟩) m vc]).run Tryz.prog W = .ok (goInt vs.length) (W.setCells w.heap.size i vs) := fun W hWc hWf ty dc =>
    run_copy_cells W _ _ ty 5 w.heap.size i (n + m - i) dc ⟨vb, 0, none⟩ m vc vs Tryz.underlying23 hsz (by rw [hvl]; simp only [Nat.min_def]; split <;> omega)
      (fun j v hj => by rw [Addr.add_lit, hWc, Nat.zero_add]; exact hOv _ v (hvv j v hj))
      (fun j hj => by rw [hWc]; exact hN _ (by omega)) (fun j hj => by rw [hWf]; exact hNf _) h1v
  have hG63 : G ≤ 9223372036854775807 := by unfold maxLen at hGm; omega
  have hGi : ¬ (G = i) := by omega
  have hGim : ¬ (G = i + m) := by omega
  have hci : ¬ (c = i) := by omega
  have hbN : b ≠ w.heap.size := by omega
  have hdl : (cs.drop i).length = n - i := by rw [List.length_drop, hcl]
  have hcpB : ∀ (W : World), (∀ x, W.cell? x = (W1.setCells w.heap.size i vs).cell? x) → (∀ x, W.frozen? x = (W1.setCells w.heap.size i vs).frozen? x) → ∀ ty dc sc, (Builtin.copy_ #[23, 23] ty #[.slice (some ⟨w.heap.size, i + m, none⟩) (n + m - (i + m)) dc, .slice (some ⟨b, i, none⟩) (n - i) sc]).run Tryz.prog W = .ok (goInt (cs.drop i).length) (W.setCells w.heap.size (i + m) (cs.drop i)) := fun W hWc hWf ty dc sc =>
    run_copy_cells W _ _ ty 5 w.heap.size (i + m) (n + m - (i + m)) dc ⟨b, i, none⟩ (n - i) sc (cs.drop i) Tryz.underlying23 hsz (by rw [hdl]; simp only [Nat.min_def]; split <;> omega)
      (fun j v hj => by
        rw [Addr.add_lit, hWc, World.cell?_setCells_out _ _ _ _ _ (fun h _ => absurd h hbN)]
        exact hOb _ v (hcc (i + j) v (by rwa [List.getElem?_drop] at hj)))
      (fun j hj => by rw [hWc]; exact isSome_setCells _ _ _ _ (fun t ht => hN _ (by omega)) _ (hN _ (by omega)))
      (fun j hj => by rw [hWf, World.frozen?_setCells]; exact hNf _) (fun v hv => h1c v (List.mem_of_mem_drop hv))
  subst hW1
  have hE1 : ∀ x, ((w.alloc (.cells ROW 5)).drew).cell? x = (w.drew.alloc (.cells ROW 5)).cell? x := fun x => rfl
  have hE2 : ∀ x, ((w.alloc (.cells ROW 5)).drew).frozen? x = (w.drew.alloc (.cells ROW 5)).frozen? x := fun x => rfl
  have hF1 : ∀ x, (((w.alloc (.cells ROW 5)).drew.setCells w.heap.size i vs).drew).cell? x = ((w.drew.alloc (.cells ROW 5)).setCells w.heap.size i vs).cell? x := fun x => rfl
  have hF2 : ∀ x, (((w.alloc (.cells ROW 5)).drew.setCells w.heap.size i vs).drew).frozen? x = ((w.drew.alloc (.cells ROW 5)).setCells w.heap.size i vs).frozen? x := fun x => rfl
  have hw1 : IntKind.i64.wrap ((i : Int) + (m : Int)) = (i : Int) + (m : Int) := by rw [IntKind.wrap_i64]; omega
  have hb1 : (0 : Int) ≤ (i : Int) + (m : Int) := by omega
  have hin : i ≤ n := by omega
  have htn : ((i : Int) + (m : Int)).toNat = i + m := by omega
  have hb3 : (i : Int) ≤ (n : Int) := by omega
  have HRR : Hid (ROW.size = G ∧ ROW.toList.take i = cs.take i) := ⟨hRs, hRt⟩
  clear hkk hik hold hROW hG hRs hRt hcs hvs hi0 hz0 hzs hzb
  go_enter Tryz.func122, Tryz.ntmps122
  go_wp2_with (first
    | (at_builtin; refine Lib.wpList_append_run _ rfl _ _ _ _ rfl _ _ rfl rfl _ _ (hrz _) ?_)
    | (at_builtin; refine wpList_copy_runI _ rfl _ _ 23 23 rfl _ _ rfl rfl (hcpA _ hE1 hE2 _ _) ?_)
    | (at_builtin; refine wpList_copy_runI _ rfl _ _ 23 23 rfl _ _ rfl rfl (hcpB _ (fun _ => rfl) (fun _ => rfl) _ _ _) ?_))
  go_region_law_o (refine step_copy_runI rfl _ _ 23 23 rfl (.slice (some ⟨w.heap.size, i + m, none⟩) (n + m - (i + m)) (G - (i + m))) (.slice (some ⟨b, i, none⟩) (n - i) (c - i)) (by simp [Act.eval, Act.put]) (by simp [Act.eval, Act.put]) (hcpB _ hF1 hF2 3 (G - (i + m)) (c - i)) ?_)
  go_wp2
  go_ret
  exact ⟨G, ROW.toList, rfl, hGn, hGm, by simpa using HRR.out.1, HRR.out.2, rfl⟩
theorem put_two {w : World} {b : Nat} {cur : List Value} {t : TypeId} (hB : Blk w b cur t) (x y : List Value) (i : Nat) (hl : i + x.length + y.length ≤ cur.length) :
    Blk ((w.setCells b (i + x.length) y).setCells b i x) b (cur.take i ++ x ++ y ++ cur.drop (i + x.length + y.length)) t := by
  have h1 := setCells_eq b y (i + x.length) w cur t hB (by omega)
  have h2 := setCells_eq b x i _ _ t h1 (by simp; omega)
  have e : (cur.take (i + x.length) ++ y ++ cur.drop (i + x.length + y.length)).take i ++ x ++ (cur.take (i + x.length) ++ y ++ cur.drop (i + x.length + y.length)).drop (i + x.length) = cur.take i ++ x ++ y ++ cur.drop (i + x.length + y.length) := by
    have e1 : (cur.take (i + x.length)).length = i + x.length := by rw [List.length_take]; omega
    rw [List.append_assoc (cur.take (i + x.length)), List.take_append_of_le_length (by omega), List.take_take, Nat.min_eq_left (by omega), List.drop_append_of_le_length (by omega), List.drop_of_length_le (by omega), List.nil_append]
    simp
  rw [e] at h2; exact h2
theorem put_two' {w : World} {b : Nat} {cur : List Value} {t : TypeId} (hB : Blk w b cur t) (x y : List Value) (i : Nat) (hl : i + x.length + y.length ≤ cur.length) :
    Blk (((w.setCells b i x).drew).setCells b (i + x.length) y) b (cur.take i ++ x ++ y ++ cur.drop (i + x.length + y.length)) t := by
  have h1 := setCells_eq b x i w cur t hB (by omega)
  have h2 := setCells_eq b y (i + x.length) _ _ t h1.drew (by simp; omega)
  have e : (cur.take i ++ x ++ cur.drop (i + x.length)).take (i + x.length) ++ y ++ (cur.take i ++ x ++ cur.drop (i + x.length)).drop (i + x.length + y.length) = cur.take i ++ x ++ y ++ cur.drop (i + x.length + y.length) := by
    have e1 : (cur.take i ++ x).length = i + x.length := by rw [List.length_append, List.length_take]; omega
    rw [List.take_append_of_le_length (by omega), List.take_of_length_le (by omega), List.drop_append, List.drop_of_length_le (by omega), List.nil_append, e1, List.drop_drop]
    congr 2
    omega
  rw [e] at h2; exact h2
theorem cb_app (a b : List (BitVec 8)) : cb (a ++ b) = cb a ++ cb b := by simp [cb]
theorem cb_drop (a : List (BitVec 8)) (k : Nat) : (cb a).drop k = cb (a.drop k) := by simp [cb]
theorem cb_take (a : List (BitVec 8)) (k : Nat) : (cb a).take k = cb (a.take k) := by simp [cb]
theorem OwnB.of_blk {w : World} {base b : Nat} {row : List Value} {l : List (BitVec 8)} {c : Nat} (h : Blk w b row 5) (hb : base ≤ b) (hc : row.length = c) (hm : c ≤ maxLen) (hl : l.length ≤ c) (ht : row.take l.length = cb l) : OwnB w base (.slice (some ⟨b, 0, none⟩) l.length c) l :=
  ⟨by rw [cb_len]; omega, Or.inr ⟨b, c, row.toArray, rfl, hb, h, hl, hm, by simpa using hc, by simpa using ht⟩⟩
end Go.Proofs.YtopmeedmgjdcgaaGreatDoor
/- The walks of codec.Text, codec.Digest and blazonref04.Text: a text, a digest behind bytes. -/
namespace Go.Proofs.YtopmeedmgjdcgaaGreatDoor
open Go.RowKit
set_option maxRecDepth 100000
theorem OwnB.below' {w w' : World} {base B : Nat} {v : Value} {l : List (BitVec 8)} (h : OwnB w base v l) (hb : Below B w w') (hB : ∀ k, v.ownBlock = some k → k < B) : OwnB w' base v l := by
  obtain ⟨h1, h2⟩ := h
  refine ⟨h1, ?_⟩
  rcases h2 with h2 | ⟨g, cap, cur, rfl, hg, hh, r⟩
  · exact Or.inl h2
  · exact Or.inr ⟨g, cap, cur, rfl, hg, by rw [hb.block g (hB g rfl)]; exact hh, r⟩
theorem OwnB.lt {w : World} {base : Nat} {v : Value} {l : List (BitVec 8)} (h : OwnB w base v l) : ∀ k, v.ownBlock = some k → k < w.heap.size := by
  obtain ⟨h1, h2⟩ := h
  rcases h2 with ⟨rfl, h0⟩ | ⟨g, cap, cur, rfl, hg, hh, _⟩
  · intro k hk; simp [Value.ownBlock] at hk
  · intro k hk
    simp [Value.ownBlock] at hk
    subst hk
    rcases Nat.lt_or_ge g w.heap.size with h' | h'
    · exact h'
    · rw [Array.getElem?_eq_none h'] at hh; cases hh
end Go.Proofs.YtopmeedmgjdcgaaGreatDoor
/- The walks of codec's writers: nothing but the own block of what is written to changes (layer 15). -/
namespace Go.Proofs.YtopmeedmgjdcgaaGreatDoor
open Go.RowKit
set_option maxRecDepth 100000
/-- from w and the slice v to w' and the slice v': no block but v's own one changed -/
structure Fr (w : World) (v : Value) (w' : World) (v' : Value) : Prop where
  os : w'.os = w.os
  tape : w'.tape = w.tape
  output : w'.output = w.output
  size : w.heap.size ≤ w'.heap.size
  block : ∀ k, k < w.heap.size → v.ownBlock ≠ some k → w'.heap[k]? = w.heap[k]?
  loc : ∀ k, v'.ownBlock = some k → v.ownBlock = some k ∨ w.heap.size ≤ k
theorem Fr.refl (w : World) (v : Value) : Fr w v w v := ⟨rfl, rfl, rfl, Nat.le_refl _, fun _ _ _ => rfl, fun _ h => Or.inl h⟩
theorem Fr.trans {a b c : World} {u v x : Value} (h : Fr a u b v) (k : Fr b v c x) : Fr a u c x :=
  ⟨k.os.trans h.os, k.tape.trans h.tape, k.output.trans h.output, Nat.le_trans h.size k.size, fun i hi hn => (k.block i (Nat.lt_of_lt_of_le hi h.size) (fun e => (h.loc i e).elim hn (fun hle => by omega))).trans (h.block i hi hn), fun i hi => (k.loc i hi).elim (h.loc i) (fun hle => Or.inr (Nat.le_trans h.size hle))⟩
theorem Fr.ofNew {w w' : World} (h : Below w.heap.size w w') (v : Value) : Fr w v w' v := ⟨h.os, h.tape, h.output, h.size, fun k hk _ => h.block k hk, fun _ e => Or.inl e⟩
theorem Fr.alloc {w w' : World} {v v' : Value} (h : Fr w v w' v') (o : Obj) : Fr w v (w'.alloc o) v' := h.trans (Fr.ofNew (below_alloc _ _) v')
theorem Fr.ofOnly {w w' : World} {g : Nat} {v v' : Value} (h : Only g w w') (hv : v.ownBlock = some g) (hv' : v'.ownBlock = some g) : Fr w v w' v' := ⟨h.os, h.tape, h.output, h.size, fun k hk hn => h.block k (fun e => hn (by rw [hv, e])) hk, fun k hk => Or.inl (by rw [hv, ← hv']; exact hk)⟩
theorem Fr.ofBelow {w w' : World} {v v' : Value} (h : Below w.heap.size w w') (hv : ∀ k, v'.ownBlock = some k → w.heap.size ≤ k) : Fr w v w' v' := ⟨h.os, h.tape, h.output, h.size, fun k hk _ => h.block k hk, fun k hk => Or.inr (hv k hk)⟩
theorem Fr.ofGrown {w w' : World} {v v' : Value} (h : w.grownBy w' v.ownBlock) (hl : v'.ownBlock = v.ownBlock ∨ v'.ownBlock = some w.heap.size) : Fr w v w' v' := ⟨h.os, h.tape, h.output, h.size, fun k hk hn => h.block k hk (fun e => hn e.symm), fun k hk => hl.elim (fun e => Or.inl (by rw [← e]; exact hk)) (fun e => Or.inr (by rw [e] at hk; cases hk; exact Nat.le_refl _))⟩
theorem Fr.below {w w' : World} {v v' : Value} (h : Fr w v w' v') {B : Nat} (hB : B ≤ w.heap.size) (hv : ∀ k, v.ownBlock = some k → B ≤ k) : Below B w w' := ⟨h.os, h.tape, h.output, h.size, fun k hk => h.block k (by omega) (fun e => absurd (hv k e) (by omega))⟩
theorem Fr.blk {w w' : World} {v v' : Value} (h : Fr w v w' v') {g : Nat} {cs : List Value} {t : TypeId} (hb : Blk w g cs t) (hg : v.ownBlock ≠ some g) : Blk w' g cs t := by
  unfold Blk at *
  rw [h.block g (Array.getElem?_eq_some_iff.1 hb).1 hg]
  exact hb
theorem wpList_appendF {w : World} {ops : Array Oper} {rest : List Oper} {o : Oper} {a : Act} {Q : Exit → Act → World → Prop} (hgd : o.guard = none) (s x : Operand)
    (ho : o.op = .call { callee := .builtin .append, args := #[s, x], argTypes := #[23, 23] }) (base : Nat)
    (v : Value) (l : List (BitVec 8)) (hs : a.eval s = v) (hown : OwnB w base v l) (vx : Value) (news : List (BitVec 8)) (hx : a.eval x = vx) (hr : Reads w vx news)
    (hlen : l.length + news.length ≤ 140737488355328) (hbase : base ≤ w.heap.size)
    (h : ∀ v' w', OwnB w' base v' (l ++ news) → Fr w v w' v' → wpList Tryz.prog ops Q rest (a.put o.dst v') w') : wpList Tryz.prog ops Q (o :: rest) a w := by
  obtain ⟨i0, hi, hz0, hz1, hz2⟩ := info_parts Tryz.infob
  obtain ⟨ad, cap, rfl, hcap, hnn, hpos⟩ := hr
  cases ad with
  | some ad =>
    refine wpList_append_own_at (P := Tryz.prog) w hgd s x 23 ho base 5 i0 (.int .u8 0) 1 1 Tryz.underlying23 hi hz0 hz1 hz2 rfl (by decide) v l.length (cb l) hs hown ad news.length cap (cb news) hx (by rw [cb_len]; omega) ?_ (cb_one _) (by unfold maxLen; omega) (by omega) hbase ?_
    · intro j u hj
      have hjl : j < news.length := by have := (List.getElem?_eq_some_iff.1 hj).1; rwa [cb_len] at this
      obtain ⟨b, off, h1, h2⟩ := hpos (by omega)
      cases h1
      rw [Addr.add_mid, h2 j hjl, ← hj, cb_get news j hjl]
    · intro v' w' h1 h2 _ h5
      refine h v' w' ?_ (Fr.ofGrown h2 h5)
      · have e : cb l ++ cb news = cb (l ++ news) := by simp [cb]
        rw [e] at h1
        unfold OwnB; rw [List.length_append]; exact h1
  | none =>
    have hn0 : news = [] := by
      cases news with
      | nil => rfl
      | cons b r => obtain ⟨b, off, h1, _⟩ := hpos (by simp); cases h1
    subst hn0
    have hc0 := hnn rfl
    subst hc0
    refine wpList_append_own_none (P := Tryz.prog) hgd s x 23 ho base 5 i0 1 Tryz.underlying23 hi v l.length (cb l) hs hown hx ?_
    exact h v w (by rw [List.append_nil]; exact hown) (Fr.refl _ _)
structure NuF (base : Nat) (w : World) (v : Value) (l : List (BitVec 8)) (n m : Nat) (p : List (BitVec 8)) (u : Value) (wr : World) : Prop where
  own : OwnB wr base u (l ++ p)
  bel : Fr w v wr u
  eq : p ++ encNum m = encNum n
  lt : m < 18446744073709551616
theorem NuF.le {base : Nat} {w wr : World} {v : Value} {l p : List (BitVec 8)} {n m : Nat} {u : Value} (h : NuF base w v l n m p u wr) (hn : n < 18446744073709551616) : p.length < 10 := by
  have h1 := enc_len10 n hn
  rw [← h.eq, List.length_append] at h1
  have := encNum_pos m
  omega
set_option maxHeartbeats 1000000 in
theorem cnum_fr (base : Nat) (v : Value) (l : List (BitVec 8)) (n : Nat) (hn : n < 18446744073709551616) (w : World) (hown : OwnB w base v l) (hb : base ≤ w.heap.size) (hl : l.length + 10 ≤ 140737488355328) :
    Calls Tryz.prog 72 #[v, .int .u64 (n : Int)] w fun e w' => ∃ v', e = .returned v' ∧ OwnB w' base v' (l ++ encNum n) ∧ Fr w v w' v' := by
  have HO : Hid (OwnB w base v l) := hown
  have HN : Hid (n < 18446744073709551616) := hn
  have HL : Hid (l.length + 10 ≤ 140737488355328) := hl
  have HB : Hid (base ≤ w.heap.size) := hb
  clear hown hn hl hb
  go_enter Tryz.func72, Tryz.ntmps72
  go_wp2
  go_loopw [0, 1] (fun u x wr => ∃ (p : List (BitVec 8)) (m : Nat), x = .int .u64 m ∧ NuF base w v l n m p u wr) (fun _ x _ => (intOf x).toNat)
  case atStart => exact ⟨[], n, rfl, by simpa using HO.out, Fr.refl _ _, rfl, HN.out⟩
  case round =>
    obtain ⟨p, m, rfl, hI⟩ := hrel
    have HI : Hid (NuF base w v l n m p u0 wr) := hI
    have HP : Hid (p.length < 10) := hI.le HN.out
    have HS : Hid (base ≤ wr.heap.size) := Nat.le_trans HB.out hI.bel.size
    clear hI
    by_cases hlt : m < 128
    · have hge : ¬ (128 ≤ (m : Int)) := by omega
      have hx : (m : Int) % 256 = (m : Int) := by omega
      go_wp2_with (at_builtin; refine wpList_appendF rfl (.tmp 15) (.tmp 18) rfl base _ (l ++ p) rfl (HI.out.own.below ((Below.refl _ _).alloc (Nat.le_refl _) _) (Nat.le_refl _)) _ [BitVec.ofNat 8 m] rfl (reads_val wr _ _ ?_) (by have := HL.out; have := HP.out; simp; omega) (by have := HS.out; simp; omega) ?_; simp; omega; intro v2 w2 hown2 hb2)
      have HR : Hid (OwnB w2 base v2 (l ++ encNum n)) := by
        rw [← HI.out.eq, encNum_lt hlt, ← List.append_assoc]; exact hown2
      have hB : Fr w v w2 v2 := (HI.out.bel.alloc _).trans hb2
      clear hown2 hb2 HI
      go_wp2
      go_ret
      exact ⟨_, rfl, HR.out, hB⟩
    · have hge : 128 ≤ (m : Int) := by omega
      have HLT : Hid (¬ m < 128) := hlt
      have hw : IntKind.u64.wrap ((m : Int) / 128) = (m : Int) / 128 := by have := HI.out.lt; rw [IntKind.wrap_u64]; omega
      clear hlt
      go_wp2_with (at_builtin; refine wpList_appendF rfl (.tmp 7) (.tmp 11) rfl base _ (l ++ p) rfl (HI.out.own.below ((Below.refl _ _).alloc (Nat.le_refl _) _) (Nat.le_refl _)) _ [BitVec.ofNat 8 (m % 128 + 128)] rfl (reads_val wr _ _ ?_) (by have := HL.out; have := HP.out; simp; omega) (by have := HS.out; simp; omega) ?_; (go_loud (rw [or128 m])); intro v2 w2 hown2 hb2)
      have hJ : NuF base w v l n (m / 128) (p ++ [BitVec.ofNat 8 (m % 128 + 128)]) v2 w2 := ⟨by rw [List.append_assoc] at hown2; exact hown2, (HI.out.bel.alloc _).trans hb2, enc_step HLT.out HI.out.eq, by have := HI.out.lt; omega⟩
      clear hown2 hb2 HI
      go_wp2
      go_roundw
      case rel => exact ⟨_, m / 128, by simp, hJ⟩
      case measure => simp [intOf]; omega
set_option maxHeartbeats 1000000 in
theorem ins_fr (base bv : Nat) (s v : Value) (l t e : List (BitVec 8)) (w : World) (hs : OwnB w base s (l ++ t)) (hv : OwnB w bv v e) (hsep : ∀ k, s.ownBlock = some k → k < bv) (he : e ≠ []) (hbase : base ≤ bv) (hbv : bv ≤ w.heap.size) (hlen : l.length + t.length + e.length ≤ 140737488355328) :
    Calls Tryz.prog 122 #[s, .int .i64 (l.length : Int), v] w fun en w' => ∃ v', en = .returned v' ∧ OwnB w' base v' (l ++ (e ++ t)) ∧ Fr w s w' v' := by
  have hm : 0 < e.length := List.length_pos_iff.2 he
  have hR := hv.reads
  have HS : Hid (OwnB w base s (l ++ t)) := hs
  obtain ⟨hv1, hv2⟩ := hv
  rcases hv2 with ⟨rfl, h0⟩ | ⟨vb, vc, vcur, rfl, hvg, hvh, hvc, hvm, hvs, hvt⟩
  · omega
  have HV : Blk w vb vcur.toList 5 := hvh
  rw [Nat.mul_one] at hvs hvt
  by_cases ht : t = []
  · subst ht
    rw [List.append_nil] at hs HS
    have HRV : Hid (Reads w (.slice (some ⟨vb, 0, none⟩) e.length vc) e) := hR
    have hz1 : ¬ ((e.length : Int) = 0) := by omega
    obtain ⟨ad, cap, rfl, hcap, _, _⟩ := id hs.reads
    have hcb : cap ≤ maxLen := by
      obtain ⟨_, h2⟩ := hs
      rcases h2 with ⟨h, _⟩ | ⟨g, cc, cur, h, _, _, _, h3, _⟩
      · simp only [Value.slice.injEq] at h; omega
      · simp only [Value.slice.injEq] at h; omega
    unfold maxLen at hcb
    clear hs hR hvh HV hvs hvt hv1 hsep
    obtain ⟨m, HM⟩ : ∃ m, Hid (m = e.length) := ⟨_, rfl⟩
    obtain ⟨n, HNN⟩ : ∃ n, Hid (n = l.length) := ⟨_, rfl⟩
    rw [← HM.out] at hm hlen hz1 hvc HRV
    rw [← HM.out]
    rw [← HNN.out] at hlen hcap HS
    rw [← HNN.out]
    have HB : Hid (base ≤ w.heap.size) := Nat.le_trans hbase hbv
    clear hvm hvg
    rw [List.append_nil]
    have HLN : Hid (l.length + e.length ≤ 140737488355328) := by show _ ≤ _; rw [← HM.out, ← HNN.out]; simp at hlen; omega
    by_cases hcn : cap = n
    · subst hcn
      go_enter Tryz.func122, Tryz.ntmps122
      go_wp2_with (at_builtin; refine wpList_appendF rfl _ _ rfl base _ l rfl HS.out _ e rfl HRV.out HLN.out HB.out ?_; intro v2 w2 hown2 hb2)
      go_ret
      exact ⟨_, rfl, hown2, hb2⟩
    · go_enter Tryz.func122, Tryz.ntmps122
      go_wp2_with (at_builtin; refine wpList_appendF rfl _ _ rfl base _ l rfl HS.out _ e rfl HRV.out HLN.out HB.out ?_; intro v2 w2 hown2 hb2)
      go_ret
      exact ⟨_, rfl, hown2, hb2⟩
  · have htl : 0 < t.length := List.length_pos_iff.2 ht
    obtain ⟨hs1, hs2⟩ := hs
    rcases hs2 with ⟨rfl, h0⟩ | ⟨b, c, cur, rfl, hg, hh, hc, hcm, hcs, hct⟩
    · rw [List.length_append] at h0; omega
    have HB : Blk w b cur.toList 5 := hh
    rw [Nat.mul_one] at hcs hct
    have hlt : b < bv := hsep b rfl
    have hne : vb ≠ b := by omega
    have hmx : maxLen = 9223372036854775807 := rfl
    by_cases hroom : (l ++ t).length + e.length ≤ c
    · refine (ins_shift b (l ++ t).length c l.length vb e.length vc (cb (l ++ t)) (cb e) cur.toList vcur.toList w (by rw [List.length_append]; omega) hm hroom (by omega) hne (cb_len _) (cb_len _) HB HV (by simpa using hcs) hct hvt (cb_one _) (cb_one _)).mono ?_
      rintro en w' ⟨rfl, rfl⟩
      have hd : (cb (l ++ t)).drop l.length = cb t := by rw [cb_drop, List.drop_left]
      rw [hd]
      have hcl : cur.toList.length = c := by simpa using hcs
      have hk := put_two HB.drew (cb e) (cb t) l.length (by rw [cb_len, cb_len, hcl]; rw [List.length_append] at hroom; omega)
      rw [cb_len] at hk
      have hb' : Only b w ((w.drew.setCells b (l.length + e.length) (cb t)).setCells b l.length (cb e)) := Only.setCells _ _ _ (Only.setCells _ _ _ (Only.refl _ _).drew)
      refine ⟨_, rfl, ?_, Fr.ofOnly hb' rfl rfl⟩
      have := OwnB.of_blk (base := base) (l := l ++ (e ++ t)) hk hg (c := c) (by rw [List.length_append] at hroom; simp only [List.length_append, List.length_take, List.length_drop, cb_len, hcl]; omega) hcm (by simp; simp at hroom; omega) (by
        have e1 : cur.toList.take l.length = cb l := by
          have := congrArg (List.take l.length) hct
          rw [List.take_take, Nat.min_eq_left (by simp), cb_take, List.take_left] at this
          exact this
        rw [e1, List.take_append_of_le_length (by simp only [List.length_append, cb_len]; omega), List.take_of_length_le (by simp only [List.length_append, cb_len]; omega), cb_app, cb_app, List.append_assoc])
      have e2 : (l ++ (e ++ t)).length = (l ++ t).length + e.length := by simp; omega
      rw [e2] at this
      exact this
    · refine (ins_grow b (l ++ t).length c l.length vb e.length vc (cb (l ++ t)) (cb e) cur.toList vcur.toList w (by rw [List.length_append]; omega) hm hc (by omega) (by rw [List.length_append]; omega) (cb_len _) (cb_len _) HB HV hct hvt (cb_one _) (cb_one _)).mono ?_
      rintro en w' ⟨G, row, rfl, hG1, hG2, hG3, hG4, rfl⟩
      have hd : (cb (l ++ t)).drop l.length = cb t := by rw [cb_drop, List.drop_left]
      rw [hd]
      have hN := Blk.new w row 5
      have hk := put_two' hN.drew (cb e) (cb t) l.length (by rw [cb_len, cb_len, hG3]; rw [List.length_append] at hG1; omega)
      rw [cb_len] at hk
      have hwb : base ≤ w.heap.size := Nat.le_trans hbase hbv
      have hb' : Below w.heap.size w (((w.alloc (.cells row.toArray 5)).drew.setCells w.heap.size l.length (cb e)).drew.setCells w.heap.size (l.length + e.length) (cb t)) := Below.setCells _ (Nat.le_refl _) _ _ _ (Below.setCells _ (Nat.le_refl _) _ _ _ ((Below.refl _ _).alloc (Nat.le_refl _) _).drew).drew
      refine ⟨_, rfl, ?_, Fr.ofBelow hb' (fun k hk => by cases hk; exact Nat.le_refl _)⟩
      have := OwnB.of_blk (base := base) (l := l ++ (e ++ t)) hk hwb (c := G) (by simp [cb_len, hG3]; rw [List.length_append] at hG1; omega) hG2 (by simp; simp at hG1; omega) (by
        have e1 : row.take l.length = cb l := by rw [hG4, cb_take, List.take_left]
        rw [e1, List.take_append_of_le_length (by simp only [List.length_append, cb_len]; omega), List.take_of_length_le (by simp only [List.length_append, cb_len]; omega), cb_app, cb_app, List.append_assoc])
      have e2 : (l ++ (e ++ t)).length = (l ++ t).length + e.length := by simp; omega
      rw [e2] at this
      exact this
set_option maxHeartbeats 1000000 in
theorem ctext_fr (base : Nat) (v vt : Value) (l t : List (BitVec 8)) (w : World) (hown : OwnB w base v l) (hr : Reads w vt t) (hb : base ≤ w.heap.size) (hl : l.length + t.length + 10 ≤ 140737488355328) :
    Calls Tryz.prog 97 #[v, vt] w fun e w' => ∃ v', e = .returned v' ∧ OwnB w' base v' (l ++ encText t) ∧ Fr w v w' v' := by
  have HO : Hid (OwnB w base v l) := hown
  have HR : Hid (Reads w vt t) := hr
  have HL : Hid (l.length + t.length + 10 ≤ 140737488355328) := hl
  have HB : Hid (base ≤ w.heap.size) := hb
  obtain ⟨ad, cap, rfl, _, _, _⟩ := id hown.reads
  obtain ⟨at', capt, rfl, _, _, _⟩ := id hr
  obtain ⟨n, HNN⟩ : ∃ n, Hid (n = l.length) := ⟨_, rfl⟩
  obtain ⟨m, HM⟩ : ∃ m, Hid (m = t.length) := ⟨_, rfl⟩
  rw [← HNN.out] at HO
  rw [← HM.out] at HR
  rw [← HNN.out, ← HM.out]
  have hm : m < 140737488355328 := by have := HL.out; have := HM.out; omega
  clear hown hr hl hb
  go_enter Tryz.func97, Tryz.ntmps97
  go_wp2_with (at_builtin; refine wpList_appendF rfl (.tmp 5) (.tmp 6) rfl base _ l rfl HO.out _ t rfl HR.out (by have := HL.out; omega) HB.out ?_; intro v2 w2 hown2 hb2)
  have HO2 : Hid (OwnB w2 base v2 (l ++ t)) := hown2
  have HB2 : Hid (Fr w (.slice ad n cap) w2 v2) := hb2
  have HS2 : Hid (base ≤ w2.heap.size) := Nat.le_trans HB.out hb2.size
  clear hown2 hb2
  have hw : IntKind.u64.wrap (m : Int) = (m : Int) := by rw [IntKind.wrap_u64]; omega
  go_wp2_with fail
  refine (cnum_any w2.heap.size _ [] m (by omega) w2 (OwnB.nil _ _) (Nat.le_refl _) (by simp)).mono ?_
  rintro e w3 ⟨v3, rfl, ho3, hb3⟩
  have HO3 : Hid (OwnB w3 w2.heap.size v3 (encNum m)) := ho3
  have HB3 : Hid (Below w2.heap.size w2 w3) := hb3
  clear ho3 hb3
  go_wp2_with fail
  have hO := HO2.out.below' HB3.out (HO2.out.lt)
  have hn : (n : Int) = (l.length : Int) := by rw [HNN.out]
  rw [hn]
  refine (ins_fr base w2.heap.size v2 v3 l t (encNum m) w3 hO HO3.out HO2.out.lt (by intro h; have := encNum_pos m; rw [h] at this; simp at this) HS2.out HB3.out.size (by have := HL.out; have := enc_len10 m (by omega); omega)).mono ?_
  rintro e w4 ⟨v4, rfl, ho4, hb4⟩
  have HO4 : Hid (OwnB w4 base v4 (l ++ encText t)) := by show OwnB _ _ _ _; unfold encText; rw [← HM.out]; exact ho4
  have HB4 : Hid (Fr w (.slice ad n cap) w4 v4) := HB2.out.trans ((Fr.ofNew HB3.out v2).trans hb4)
  clear ho4 hb4 hO
  go_wp2
  go_ret
  exact ⟨_, rfl, HO4.out, HB4.out⟩
end Go.Proofs.YtopmeedmgjdcgaaGreatDoor
/- The walks of store.writeAct, store.within and store.Batch (layer 15). -/
namespace Go.Proofs.YtopmeedmgjdcgaaGreatDoor
open Go.RowKit
set_option maxRecDepth 100000
theorem wpSeq_convS {ops : Array Oper} {Q : Exit → Act → World → Prop} {rest : List Oper} {o : Oper} {a : Act} {w : World} (x : Operand) (ks : ByteArray) (k : Bs) (hk : ks = strB k) (ho : o.op = .convert 9 23 x) (hx : a.eval x = .string ks) (hw : Region.wanted o (yielded ops a.tmps) = true)
    (h : ∀ ad n c w', Reads w' (.slice ad n c) k → Below w.heap.size w w' → wpList Tryz.prog ops Q rest (a.put o.dst (.slice ad n c)) w') : wpList Tryz.prog ops Q (o :: rest) a w := by
  subst hk
  refine wpSeq_val _ _ hw ?_ (h _ _ _ _ (bytesWorld_reads k w) (bytesWorld_below k w))
  unfold execOp
  rw [ho]
  simp only [hx, Sem.run_bind, conv_string]
  rfl
theorem OwnB.neA {w : World} {base : Nat} {v : Value} {l : Bs} (h : OwnB w base v l) {g : Nat} {cs : List Value} {t : TypeId} (hb : Blk w g cs t) (ht : t ≠ 5) : v.ownBlock ≠ some g := fun e => by
  obtain ⟨h1, h2⟩ := h
  rcases h2 with ⟨rfl, h0⟩ | ⟨g2, cap, cur, rfl, hg, hh, _⟩
  · cases e
  · simp [Value.ownBlock] at e
    subst e
    unfold Blk at hb
    rw [hb] at hh
    simp only [Option.some.injEq, Obj.cells.injEq] at hh
    exact ht hh.2.1
theorem OwnB.ltS {w : World} {base : Nat} {v : Value} {l : Bs} (h : OwnB w base v l) : ∀ k, v.ownBlock = some k → base ≤ k ∧ k < w.heap.size := World.ownsRow.lt h
theorem OwnB.sameS {w w' : World} {base : Nat} {v : Value} {l : Bs} (h : OwnB w base v l) (hs : ∀ k, v.ownBlock = some k → w'.heap[k]? = w.heap[k]?) : OwnB w' base v l := by
  obtain ⟨h1, h2⟩ := h
  refine ⟨h1, ?_⟩
  rcases h2 with h2 | ⟨g, cap, cur, rfl, hg, hh, r⟩
  · exact Or.inl h2
  · exact Or.inr ⟨g, cap, cur, rfl, hg, by rw [hs g rfl]; exact hh, r⟩
theorem OwnB.newS {w w' : World} {base : Nat} {v : Value} {l : Bs} (h : OwnB w base v l) (hb : Below w.heap.size w w') : OwnB w' base v l := h.sameS (fun k hk => hb.block k (h.ltS k hk).2)
set_option maxRecDepth 100000 in
set_option maxHeartbeats 4000000 in
theorem sWriteAct_any (base : Nat) (v vd : Value) (l : Bs) (a : ActT) (w : World) (hown : OwnB w base v l) (hb : base ≤ w.heap.size) (hd : ∀ w' v', Fr w v w' v' → Reads w' vd a.data) (hl : l.length + a.key.length + a.data.length + 40 ≤ 140737488355328) :
    Calls Tryz.prog 73 #[v, .agg (actC a vd).toArray] w fun e w' => ∃ v', e = .returned v' ∧ OwnB w' base v' (l ++ encA a) ∧ Fr w v w' v' := by
  have HO : Hid (OwnB w base v l) := hown
  have HD : Hid (∀ w' v', Fr w v w' v' → Reads w' vd a.data) := hd
  have HL : Hid (l.length + a.key.length + a.data.length + 40 ≤ 140737488355328) := hl
  have HB : Hid (base ≤ w.heap.size) := hb
  obtain ⟨ad, n, c, hv⟩ := hown.reads.form
  obtain ⟨av, nv, cv, hvd⟩ := (hd w v (Fr.refl _ _)).form
  subst hv hvd
  obtain ⟨ks, HKS⟩ : ∃ s, Hid (s = strB a.key) := ⟨_, rfl⟩
  obtain ⟨st, HST⟩ : ∃ s, Hid (s = a.set) := ⟨_, rfl⟩
  rw [actC, ← HKS.out, ← HST.out]
  have HE : Hid (encA a = encText a.key ++ (if st then encNum 1 ++ encText a.data else encNum 0)) := by show _ = _; rw [encA, HST.out]
  have HEK : Hid ((encText a.key).length ≤ a.key.length + 10) := by show _ ≤ _; rw [encText, List.length_append]; have := enc_len10 a.key.length (by omega); omega
  clear hown hb hd hl
  cases st with
  | false =>
    go_enter Tryz.func73, Tryz.ntmps73
    have tk0 : Hid True := trivial
    have tk1 : Hid True := trivial
    have tk2 : Hid True := trivial
    have tk3 : Hid True := trivial
    go_wp2_with (first
      | (clear tk0; with_reducible refine wpSeq_boxW 62 (.tmp 1) [.string ks, .bool false, .slice av nv cv] ?_ ?_ ?_ ?_
         · rfl
         · rfl
         · rfl
         intro g3 y1 nn
         have HG3 : Hid (Blk y1 g3 [.string ks, .bool false, .slice av nv cv] 62 ∧ w.heap.size ≤ g3) := ⟨nn.blk, nn.ge⟩
         have HF1 : Hid (Fr w (.slice ad n c) y1 (.slice ad n c)) := Fr.ofNew nn.below _
         have HO1 : Hid (OwnB y1 base (.slice ad n c) l) := HO.out.newS nn.below
         have c0 : y1.cell? ⟨g3, 0, none⟩ = some (.string ks) := nn.blk.cell 0
         clear nn)
      | (clear tk1; with_reducible refine wpSeq_convS (.tmp 7) ks a.key HKS.out ?_ ?_ ?_ ?_
         · rfl
         · rfl
         · rfl
         intro ak nk ck y2 hrk hbk
         have HRK : Hid (Reads y2 (.slice ak nk ck) a.key) := hrk
         have HF2 : Hid (Fr w (.slice ad n c) y2 (.slice ad n c)) := HF1.out.trans (Fr.ofNew hbk _)
         have HO2 : Hid (OwnB y2 base (.slice ad n c) l) := HO1.out.newS hbk
         have HG2 : Hid (Blk y2 g3 [.string ks, .bool false, .slice av nv cv] 62) := HG3.out.1.below hbk HG3.out.1.lt
         clear hrk hbk c0)
      | (clear tk2; go_at_call 97; refine (ctext_fr base _ _ l a.key _ HO2.out HRK.out (Nat.le_trans HB.out HF2.out.size) (by have := HL.out; omega)).mono ?_; rintro e0 y3 ⟨v3, rfl, ho3, hf3⟩
         have HO3 : Hid (OwnB y3 base v3 (l ++ encText a.key)) := ho3
         have HF3 : Hid (Fr w (.slice ad n c) y3 v3) := HF2.out.trans hf3
         have HK3 : Hid (Blk y3 g3 [.string ks, .bool false, .slice av nv cv] 62) := hf3.blk HG2.out (HO2.out.neA HG2.out (by decide))
         have c1 : y3.cell? ⟨g3, 1, none⟩ = some (.bool false) := HK3.out.cell 1
         obtain ⟨a3, n3, c3, hv3⟩ := ho3.reads.form
         subst hv3
         clear ho3 hf3)
      | (clear tk3; go_at_call 72; refine (cnum_fr base _ _ 0 (by decide) _ HO3.out (Nat.le_trans HB.out HF3.out.size) (by rw [List.length_append]; have h1 := HL.out; have h2 := HEK.out; omega)).mono ?_; rintro e0 y4 ⟨v4, rfl, ho4, hf4⟩
         have HO4 : Hid (OwnB y4 base v4 (l ++ encA a)) := by rw [HE.out, if_neg Bool.false_ne_true, ← List.append_assoc]; exact ho4
         have HF4 : Hid (Fr w (.slice ad n c) y4 v4) := HF3.out.trans hf4
         obtain ⟨a4, n4, c4, hv4⟩ := ho4.reads.form
         subst hv4
         clear ho4 hf4 c1))
    go_ret
    exact ⟨_, rfl, HO4.out, HF4.out⟩
  | true =>
    go_enter Tryz.func73, Tryz.ntmps73
    have tk0 : Hid True := trivial
    have tk1 : Hid True := trivial
    have tk2 : Hid True := trivial
    go_wp2_with (first
      | (clear tk0; with_reducible refine wpSeq_boxW 62 (.tmp 1) [.string ks, .bool true, .slice av nv cv] ?_ ?_ ?_ ?_
         · rfl
         · rfl
         · rfl
         intro g3 y1 nn
         have HG3 : Hid (Blk y1 g3 [.string ks, .bool true, .slice av nv cv] 62 ∧ w.heap.size ≤ g3) := ⟨nn.blk, nn.ge⟩
         have HF1 : Hid (Fr w (.slice ad n c) y1 (.slice ad n c)) := Fr.ofNew nn.below _
         have HO1 : Hid (OwnB y1 base (.slice ad n c) l) := HO.out.newS nn.below
         have c0 : y1.cell? ⟨g3, 0, none⟩ = some (.string ks) := nn.blk.cell 0
         clear nn)
      | (clear tk1; with_reducible refine wpSeq_convS (.tmp 7) ks a.key HKS.out ?_ ?_ ?_ ?_
         · rfl
         · rfl
         · rfl
         intro ak nk ck y2 hrk hbk
         have HRK : Hid (Reads y2 (.slice ak nk ck) a.key) := hrk
         have HF2 : Hid (Fr w (.slice ad n c) y2 (.slice ad n c)) := HF1.out.trans (Fr.ofNew hbk _)
         have HO2 : Hid (OwnB y2 base (.slice ad n c) l) := HO1.out.newS hbk
         have HG2 : Hid (Blk y2 g3 [.string ks, .bool true, .slice av nv cv] 62) := HG3.out.1.below hbk HG3.out.1.lt
         clear hrk hbk c0)
      | (clear tk2; go_at_call 97; refine (ctext_fr base _ _ l a.key _ HO2.out HRK.out (Nat.le_trans HB.out HF2.out.size) (by have := HL.out; omega)).mono ?_; rintro e0 y3 ⟨v3, rfl, ho3, hf3⟩
         have HO3 : Hid (OwnB y3 base v3 (l ++ encText a.key)) := ho3
         have HF3 : Hid (Fr w (.slice ad n c) y3 v3) := HF2.out.trans hf3
         have HK3 : Hid (Blk y3 g3 [.string ks, .bool true, .slice av nv cv] 62) := hf3.blk HG2.out (HO2.out.neA HG2.out (by decide))
         have c1 : y3.cell? ⟨g3, 1, none⟩ = some (.bool true) := HK3.out.cell 1
         obtain ⟨a3, n3, c3, hv3⟩ := ho3.reads.form
         subst hv3
         clear ho3 hf3))
    clear c1
    refine wp_region_held_drew (S := fun wx => Blk wx g3 [.string ks, .bool true, .slice av nv cv] 62) (by kernel_rfl) HK3.out.drew ?_
    intro hS
    have HO4 : Hid (OwnB (World.drew y3) base (.slice a3 n3 c3) (l ++ encText a.key)) := HO3.out
    have HF4 : Hid (Fr w (.slice ad n c) (World.drew y3) (.slice a3 n3 c3)) := HF3.out.trans (Fr.ofNew (Below.refl _ _).drew _)
    change wpAnyH _ _ _ _ _ _ _ _ (World.drew y3)
    generalize World.drew y3 = y4 at *
    refine wpAnyH_take (i := 0) (v := .slice a3 n3 c3) rfl (by kernel_rfl) (by kernel_rfl) (by kernel_rfl) (fun _ _ _ h => h) (Or.inl ⟨by rfl, fun wx hx => by simp [go_sem]⟩) hS ?_
    simp only [Act.put, List.getElem_toArray, List.getElem_cons_zero, List.setIfInBounds_toArray, List.set_cons_zero, List.set_cons_succ]
    refine wpAnyH_take (i := 2) (v := .pointer (some ⟨g3, 2, none⟩)) rfl (by kernel_rfl) (by kernel_rfl) (by kernel_rfl) (fun _ _ _ h => h) (Or.inl ⟨by rfl, fun wx hx => by simp [go_sem]⟩) hS ?_
    simp only [Act.put, List.getElem_toArray, List.getElem_cons_succ, List.getElem_cons_zero, List.setIfInBounds_toArray, List.set_cons_zero, List.set_cons_succ]
    refine wpAnyH_take (i := 3) (v := .slice av nv cv) rfl (by kernel_rfl) (by kernel_rfl) (by kernel_rfl) (fun _ _ _ h => h) (Or.inl ⟨by rfl, fun wx hx => by (have hc := hx.cell 2; simp at hc; simp [go_sem, hc])⟩) hS ?_
    simp only [Act.put, List.getElem_toArray, List.getElem_cons_succ, List.getElem_cons_zero, List.setIfInBounds_toArray, List.set_cons_zero, List.set_cons_succ]
    refine wpAnyH_enter 1 (by kernel_rfl) rfl (by rfl) (f := 72) (args := #[.slice a3 n3 c3, .int .u64 ((1 : Nat) : Int)]) (by simp [go_sem]) (cnum_fr base _ _ 1 (by decide) _ HO4.out (Nat.le_trans HB.out HF4.out.size) (by rw [List.length_append]; have h1 := HL.out; have h2 := HEK.out; omega)) ?_
    rintro e y5 ⟨v5, rfl, ho5, hf5⟩
    have hS5 : Blk y5 g3 [.string ks, .bool true, .slice av nv cv] 62 := hf5.blk hS (HO4.out.neA hS (by decide))
    refine ⟨_, rfl, hS5, ?_⟩
    obtain ⟨a5, n5, c5, hv5⟩ := ho5.reads.form
    subst hv5
    have HF5 : Hid (Fr w (.slice ad n c) y5 (.slice a5 n5 c5)) := HF4.out.trans hf5
    have HO5 : Hid (OwnB y5 base (.slice a5 n5 c5) (l ++ encText a.key ++ encNum 1)) := ho5
    clear ho5 hf5 hS
    simp only [Act.put, List.getElem_toArray, List.getElem_cons_succ, List.getElem_cons_zero, List.setIfInBounds_toArray, List.set_cons_zero, List.set_cons_succ]
    refine wpAnyH_enter 4 (by kernel_rfl) rfl (by rfl) (f := 97) (args := #[.slice a5 n5 c5, .slice av nv cv]) (by simp [go_sem]) (ctext_fr base _ _ _ a.data _ HO5.out (HD.out _ _ HF5.out) (Nat.le_trans HB.out HF5.out.size) (by rw [List.length_append, List.length_append, show (encNum 1).length = 1 from by rw [encNum_lt (by decide)]; rfl]; have h1 := HL.out; have h2 := HEK.out; omega)) ?_
    rintro e y6 ⟨v6, rfl, ho6, hf6⟩
    refine ⟨_, rfl, hf6.blk hS5 (HO5.out.neA hS5 (by decide)), ?_⟩
    obtain ⟨a6, n6, c6, hv6⟩ := ho6.reads.form
    subst hv6
    have HF6 : Hid (Fr w (.slice ad n c) y6 (.slice a6 n6 c6)) := HF5.out.trans hf6
    have HO6 : Hid (OwnB y6 base (.slice a6 n6 c6) (l ++ encA a)) := by
      have he := HE.out
      simp only [if_true] at he
      rw [he]
      simp only [List.append_assoc] at ho6 ⊢
      exact ho6
    have hS6 := hf6.blk hS5 (HO5.out.neA hS5 (by decide))
    clear ho6 hf6 hS5
    simp only [Act.put, List.getElem_toArray, List.getElem_cons_succ, List.getElem_cons_zero, List.setIfInBounds_toArray, List.set_cons_zero, List.set_cons_succ]
    refine wpAnyH_take (i := 5) (v := .slice a6 n6 c6) rfl (by kernel_rfl) (by kernel_rfl) (by kernel_rfl) (fun _ _ _ h => h) (Or.inl ⟨by rfl, fun wx hx => by simp [go_sem]⟩) hS6 ?_
    simp only [Act.put, List.getElem_toArray, List.getElem_cons_succ, List.getElem_cons_zero, List.setIfInBounds_toArray, List.set_cons_zero, List.set_cons_succ]
    refine wpAnyH_done (by kernel_rfl) ?_ _
    go_wp2
    go_ret
    exact ⟨_, rfl, HO6.out, HF6.out⟩
theorem encAll_snoc (l : List ActT) (a : ActT) : encAll encA (l ++ [a]) = encAll encA l ++ encA a := by simp [encAll]
theorem batch_take {l : List ActT} {i : Nat} (hi : i < l.length) : encNum l.length ++ encAll encA (l.take (i + 1)) = (encNum l.length ++ encAll encA (l.take i)) ++ encA (l.getD i ⟨[], false, []⟩) := by rw [take_act hi, encAll_snoc, List.append_assoc]
theorem batch_pre (l : List ActT) (i : Nat) : (encNum l.length ++ encAll encA (l.take i)).length ≤ (batchB l).length := by
  have e : encAll encA l = encAll encA (l.take i) ++ encAll encA (l.drop i) := by
    rw [encAll, encAll, encAll, ← List.flatten_append, ← List.map_append, List.take_append_drop]
  unfold batchB encList
  rw [e, List.length_append, List.length_append, List.length_append]
  omega
theorem encA_len (a : ActT) : a.key.length + a.data.length ≤ (encA a).length + (if a.set then 0 else a.data.length) := by
  unfold encA
  split <;> simp only [encText, List.length_append] <;> omega
theorem enc_in : ∀ (l : List ActT) (a : ActT), a ∈ l → (encA a).length ≤ (encAll encA l).length
  | [], _, h => by cases h
  | b :: l, a, h => by
    rw [encAll_cons, List.length_append]
    rcases List.mem_cons.1 h with rfl | h
    · omega
    · have := enc_in l a h
      omega
theorem encA_big {l : List ActT} {a : ActT} (ha : a ∈ l) : (encA a).length ≤ (batchB l).length := by
  unfold batchB encList
  rw [List.length_append]
  have := enc_in l a ha
  omega
/-- acts whose sizes are not too great for bytes to be made of them -/
structure okZ (l : List ActT) : Prop where
  n : l.length ≤ 1000000
  z : (batchB l).length ≤ 4500000000
  d : ∀ a ∈ l, a.data.length ≤ 100000000
set_option maxRecDepth 100000 in
set_option maxHeartbeats 4000000 in
theorem sWithin_any (v : Value) (l : List ActT) (most : Int) (w : World) (hr : ReadsA w v l) (hz : okZ l) : Calls Tryz.prog 46 #[v, .int .i64 most] w fun e w' => ∃ vb, e = .returned (.tuple #[vb, .bool (decide (((batchB l).length : Int) ≤ most))]) ∧ (((batchB l).length : Int) ≤ most → OwnB w' w.heap.size vb (batchB l)) ∧ Below w.heap.size w w' := by
  have HR : Hid (ReadsA w v l) := hr
  have HZ : Hid (okZ l) := hz
  obtain ⟨n, HN⟩ : ∃ n, Hid (n = l.length) := ⟨_, rfl⟩
  obtain ⟨ad, c, hv⟩ := hr.form
  rw [← HN.out] at hv
  subst hv
  have HNB : Hid (n ≤ 1000000) := by rw [HN.out]; exact hz.n
  have f0 : IntKind.u64.wrap (n : Int) = (n : Int) := by rw [IntKind.wrap_u64]; have := HNB.out; omega
  obtain ⟨ok, HOK⟩ : ∃ b, Hid (b = decide (((batchB l).length : Int) ≤ most)) := ⟨_, rfl⟩
  rw [← HOK.out]
  clear hr hz
  go_enter Tryz.func46, Tryz.ntmps46
  have tk0 : Hid True := trivial
  go_wp2_with (first
    | (clear tk0; go_at_call 72; refine (cnum_fr w.heap.size (.slice none 0 0) [] n (by have := HNB.out; omega) _ (OwnB.nil _ _) (Nat.le_refl _) (by simp)).mono ?_; rintro e0 y1 ⟨v1, rfl, ho1, hf1⟩
       have HB0 : Hid (OwnB y1 w.heap.size v1 (encNum l.length ++ encAll encA (l.take 0))) := by
         show OwnB _ _ _ _
         rw [List.nil_append] at ho1
         rw [← HN.out, List.take_zero, show encAll encA [] = [] from rfl, List.append_nil]
         exact ho1
       have HB1 : Hid (Below w.heap.size w y1) := hf1.below (Nat.le_refl _) (fun k hk => by cases hk)
       obtain ⟨a1, n1, c1, hv1⟩ := ho1.reads.form
       subst hv1
       clear ho1 hf1))
  clear f0
  go_loopw [6, 7] (fun bv iv W => ∃ (ab : Option Addr) (nb cb i : Nat), bv = .slice ab nb cb ∧ iv = .int .i64 (i : Int) ∧ i ≤ n ∧ Hid (nb = (encNum l.length ++ encAll encA (l.take i)).length) ∧ Hid (OwnB W w.heap.size (.slice ab nb cb) (encNum l.length ++ encAll encA (l.take i))) ∧ Hid (Below w.heap.size w W)) (fun _ iv _ => n - (intOf iv).toNat)
  case atStart => exact ⟨a1, n1, c1, 0, rfl, rfl, Nat.zero_le _, (by obtain ⟨x, y, h, _⟩ := HB0.out.reads; simp only [Value.slice.injEq] at h; exact h.2.1), HB0, HB1⟩
  case round =>
    clear HB0 HB1
    obtain ⟨ab, nb, cb, i, rfl, rfl, hi, HNb, HBB, HBW⟩ := hrel
    have HPRE : Hid (nb ≤ (batchB l).length) := by rw [HNb.out]; exact batch_pre l i
    by_cases hin : i < n
    case pos =>
      have hlk : (i : Int) < (n : Int) := by omega
      by_cases hm : (nb : Int) ≤ most
      case pos =>
        have f1 : IntKind.i64.wrap ((i : Int) + 1) = (i : Int) + 1 := by rw [IntKind.wrap_i64]; have := HNB.out; omega
        have HIN : Hid (i < n) := hin
        have hil : i < l.length := by rw [← HN.out]; exact hin
        obtain ⟨b, off, vd, rfl, hrg, hrd⟩ := HR.out.at hil
        have hbt := batch_take hil
        obtain ⟨a, HA⟩ : ∃ a, Hid (a = l.getD i ⟨[], false, []⟩) := ⟨_, rfl⟩
        have hmem : a ∈ l := by rw [HA.out, List.getD_eq_getElem?_getD, List.getElem?_eq_getElem hil]; exact List.getElem_mem hil
        rw [← HA.out] at hrg hrd hbt
        obtain ⟨ks, HKS⟩ : ∃ s, Hid (s = strB a.key) := ⟨_, rfl⟩
        obtain ⟨st, HST⟩ : ∃ s, Hid (s = a.set) := ⟨_, rfl⟩
        obtain ⟨av, nv, cv, hvd⟩ := hrd.form
        subst hvd
        have HCE : Hid (actC a (.slice av nv cv) = [.string ks, .bool st, .slice av nv cv]) := by show _ = _; rw [actC, HKS.out, HST.out]
        rw [HCE.out] at hrg
        have HRG : Hid (wr.rangeAt b (off + i * 3) [.string ks, .bool st, .slice av nv cv]) := range_below hrg HBW.out (block_lt_of_cell (hrg 0 _ rfl))
        have HWA : Hid (Calls Tryz.prog 73 #[.slice ab nb cb, .agg [.string ks, .bool st, .slice av nv cv].toArray] wr fun e w' => ∃ v', e = .returned v' ∧ OwnB w' w.heap.size v' (encNum l.length ++ encAll encA (l.take (i + 1))) ∧ Fr wr (.slice ab nb cb) w' v') := by
          have h := sWriteAct_any w.heap.size (.slice ab nb cb) (.slice av nv cv) _ a wr HBB.out HBW.out.size (fun w' v' hf => hrd.below (HBW.out.trans (hf.below HBW.out.size (fun k hk => (HBB.out.ltS k hk).1)))) (by
            have h1 := HPRE.out
            rw [HNb.out] at h1
            have h2 := HZ.out.z
            have h3 := encA_big hmem
            have h4 := encA_len a
            have h5 := HZ.out.d a hmem
            split at h4 <;> omega)
          rw [HCE.out, ← hbt] at h
          exact h
        clear hrg hrd hbt hmem hil
        have tk0 : Hid True := trivial
        have tk1 : Hid True := trivial
        have tk2 : Hid True := trivial
        go_wp2_with (first
          | (clear tk0; with_reducible refine wpSeq_idxA (.tmp 25) (.tmp 26) b off n c i HIN.out ?_ ?_ ?_ ?_ ?_
             · rfl
             · rfl
             · rfl
             · rfl)
          | (clear tk1; with_reducible refine wpSeq_loadW 62 (.tmp 27) b (off + i * 3) [.string ks, .bool st, .slice av nv cv] _ HRG.out Tryz.underlying62 rfl (info_act15 _ _ _) ?_ ?_ ?_ ?_
             · rfl
             · rfl
             · rfl)
          | (clear tk2; go_at_call 73; refine (HWA.out).mono ?_; rintro e0 y2 ⟨v2, rfl, ho2, hf2⟩
             have HO2 : Hid (OwnB y2 w.heap.size v2 (encNum l.length ++ encAll encA (l.take (i + 1)))) := ho2
             have HB2 : Hid (Below w.heap.size w y2) := HBW.out.trans (hf2.below HBW.out.size (fun k hk => (HBB.out.ltS k hk).1))
             obtain ⟨n2, HN2⟩ : ∃ n, Hid (n = (encNum l.length ++ encAll encA (l.take (i + 1))).length) := ⟨_, rfl⟩
             obtain ⟨a2, c2, hv2⟩ : ∃ a c, v2 = .slice a n2 c := by obtain ⟨x, y, h, _⟩ := ho2.reads; exact ⟨x, y, by rw [HN2.out]; exact h⟩
             subst hv2
             clear ho2 hf2))
        go_roundw
        case rel => exact ⟨a2, n2, c2, i + 1, rfl, by simp, by omega, HN2, HO2, HB2⟩
        case measure => simp [intOf]; omega
      case neg =>
        obtain rfl : ok = false := by rw [HOK.out, decide_eq_false]; have := HPRE.out; omega
        have HNO : Hid (¬ (((batchB l).length : Int) ≤ most)) := by have := HPRE.out; show ¬ _; omega
        go_wp2
        refine bodyPost_ret (results_tmp2 rfl _ _ _) rfl ?_
        exact ⟨_, rfl, fun h => absurd h (by have := HNO.out; omega), HBW.out⟩
    case neg =>
      have hlk : ¬ ((i : Int) < (n : Int)) := by omega
      have hall : encNum l.length ++ encAll encA (l.take i) = batchB l := by rw [List.take_of_length_le (by rw [← HN.out]; omega)]; rfl
      rw [hall] at HNb HBB
      have HBF : Hid (OwnB wr w.heap.size (.slice ab nb cb) (batchB l)) := HBB.out
      have HOE : Hid (ok = decide ((nb : Int) ≤ most)) := by rw [HNb.out]; exact HOK.out
      by_cases hm : (nb : Int) ≤ most
      · obtain rfl : ok = true := by rw [HOE.out, decide_eq_true hm]
        go_wp2
        refine bodyPost_ret (results_tmp2 rfl _ _ _) rfl ?_
        exact ⟨_, rfl, fun _ => HBF.out, HBW.out⟩
      · obtain rfl : ok = false := by rw [HOE.out, decide_eq_false hm]
        have HNO : Hid (¬ (((batchB l).length : Int) ≤ most)) := by rw [← HNb.out]; exact hm
        go_wp2
        refine bodyPost_ret (results_tmp2 rfl _ _ _) rfl ?_
        exact ⟨_, rfl, fun h => absurd h (by have := HNO.out; omega), HBW.out⟩
end Go.Proofs.YtopmeedmgjdcgaaGreatDoor
/- The walk of the reference's Check (layer 15). -/
namespace Go.Proofs.YtopmeedmgjdcgaaGreatDoor
open Go.RowKit
set_option maxRecDepth 100000
end Go.Proofs.YtopmeedmgjdcgaaGreatDoor
/- The walks of the reference's Batch and of the statements' light (layer 15). -/
namespace Go.Proofs.YtopmeedmgjdcgaaGreatDoor
open Go.RowKit
set_option maxRecDepth 100000
end Go.Proofs.YtopmeedmgjdcgaaGreatDoor
/- The walks of the reader's Fail and take: bytes from their front on; what is thrown. -/
namespace Go.Proofs.YtopmeedmgjdcgaaGreatDoor
open Go.RowKit
set_option maxRecDepth 100000
/-- the reader at gr, of the input at gi, which still has the bytes l -/
structure Rd (w : World) (gr gi : Nat) (v : Value) (l : List (BitVec 8)) : Prop where
  rd : Blk w gr [.pointer (some ⟨gi, 0, none⟩)] 122
  inp : Blk w gi [v, .bool true, .bool false] 120
  byt : Reads w v l
/-- what a reader throws -/
def thrown (gi : Nat) : Ending := .panicked [{ v := .iface 118 (.pointer (some ⟨gi, 0, none⟩)), recovered := false }]
structure Threw (gi : Nat) (w : World) (e : Ending) (w' : World) : Prop where
  eq : e = thrown gi
  bad : ∃ v, Blk w' gi [v, .bool true, .bool true] 120 ∧ ∃ ad n c, v = .slice ad n c
  onl : Only gi w w'
theorem Rd.ne {w : World} {gr gi : Nat} {v : Value} {l : List (BitVec 8)} (h : Rd w gr gi v l) : gr ≠ gi := by
  intro he
  have h1 := h.rd
  have h2 := h.inp
  subst he
  unfold Blk at h1 h2
  rw [h1] at h2
  simp at h2
theorem Rd.slice {w : World} {gr gi : Nat} {v : Value} {l : List (BitVec 8)} (h : Rd w gr gi v l) : ∃ ad c, v = .slice ad l.length c := by
  obtain ⟨ad, c, hv, _⟩ := h.byt
  exact ⟨ad, c, hv⟩
/-- no byte lies in a block of a slice and two bools -/
theorem Blk.apart {w : World} {gi : Nat} {u : Value} {x y : Bool} {t : TypeId} {l : List (BitVec 8)} (hb : Blk w gi [u, .bool x, .bool y] t) (hu : ∃ ad n c, u = .slice ad n c) : ∀ b off, 0 < l.length → (∀ j, j < l.length → w.cell? ⟨b, off + j, none⟩ = some (.int .u8 ((l.getD j 0).toNat : Int))) → b ≠ gi := by
  intro b off hp hc he
  subst he
  have h0 := hc 0 hp
  rw [hb.cell] at h0
  obtain ⟨ad, n, c, rfl⟩ := hu
  match off, h0 with
  | 0, h0 => simp at h0
  | 1, h0 => simp at h0
  | 2, h0 => simp at h0
  | k + 3, h0 => simp at h0
theorem Reads.only {w w' : World} {gi : Nat} {v u : Value} {x y : Bool} {t : TypeId} {l : List (BitVec 8)} (h : Reads w v l) (hb : Blk w gi [u, .bool x, .bool y] t) (hu : ∃ ad n c, u = .slice ad n c) (ho : Only gi w w') : Reads w' v l := by
  have ha := hb.apart (l := l) hu
  obtain ⟨ad, cap, rfl, hc, hn, hx⟩ := h
  refine ⟨ad, cap, rfl, hc, hn, fun hp => ?_⟩
  obtain ⟨b, off, h1, h2⟩ := hx hp
  exact ⟨b, off, h1, fun j hj => ho.cell (p := ⟨b, off + j, Option.none⟩) (ha b off hp h2) (h2 j hj)⟩
theorem Reads.take {w : World} {ad : Option Addr} {n c : Nat} {l : List (BitVec 8)} (h : Reads w (.slice ad n c) l) (k : Nat) (hk : k ≤ l.length) : Reads w (.slice ad k c) (l.take k) := by
  obtain ⟨ad', cap, hv, hc, hn, hx⟩ := h
  simp only [Value.slice.injEq] at hv
  obtain ⟨rfl, rfl, rfl⟩ := hv
  have hl : (l.take k).length = k := by rw [List.length_take]; omega
  refine ⟨ad, c, by rw [hl], by omega, hn, fun hp => ?_⟩
  rw [hl] at hp ⊢
  obtain ⟨b, off, h1, h2⟩ := hx (by omega)
  refine ⟨b, off, h1, fun j hj => ?_⟩
  rw [h2 j (by omega)]
  simp [hj]
theorem Reads.drop {w : World} {ad : Addr} {n c : Nat} {l : List (BitVec 8)} (h : Reads w (.slice (Option.some ad) n c) l) (k : Nat) (hk : k ≤ l.length) (o : Addr) (ho : k < l.length → o = ad.add k) : Reads w (.slice (Option.some o) (n - k) (c - k)) (l.drop k) := by
  obtain ⟨ad', cap, hv, hc, hn, hx⟩ := h
  simp only [Value.slice.injEq] at hv
  obtain ⟨rfl, rfl, rfl⟩ := hv
  have hl : (l.drop k).length = l.length - k := by rw [List.length_drop]
  refine ⟨_, c - k, by rw [hl], by omega, (fun h => by cases h), fun hp => ?_⟩
  rw [hl] at hp ⊢
  obtain ⟨b', off', h1, h2⟩ := hx (by omega)
  simp only [Option.some.injEq] at h1
  subst h1
  have := ho (by omega)
  rw [Addr.add_mid] at this
  subst this
  refine ⟨b', _, rfl, fun j hj => ?_⟩
  rw [Nat.add_assoc, h2 (k + j) (by omega)]
  simp
theorem Rd.next {w : World} {gr gi : Nat} {v : Value} {l : List (BitVec 8)} (h : Rd w gr gi v l) (v2 : Value) (l2 : List (BitVec 8)) (h2 : Reads w v2 l2) : Rd (w.setCell ⟨gi, 0, none⟩ v2) gr gi v2 l2 := by
  obtain ⟨ad, c, hv⟩ := h.slice
  exact ⟨h.rd.other _ _ (by exact h.ne), h.inp.set 0 v2, h2.only h.inp ⟨ad, _, c, hv⟩ ((Only.refl _ _).setCell _ _)⟩
theorem Rd.threw {w : World} {gr gi : Nat} {v : Value} {l : List (BitVec 8)} (h : Rd w gr gi v l) : Threw gi w (thrown gi) (w.setCell ⟨gi, 2, none⟩ (.bool true)) := by
  obtain ⟨ad, c, hv⟩ := h.slice
  exact ⟨rfl, ⟨v, h.inp.set 2 (.bool true), ad, _, c, hv⟩, (Only.refl _ _).setCell _ _⟩
def cut (n : Nat) (l : List (BitVec 8)) : Option (List (BitVec 8) × List (BitVec 8)) := if n ≤ l.length then some (l.take n, l.drop n) else none
end Go.Proofs.YtopmeedmgjdcgaaGreatDoor
/- The walks of the reader's Num and Count. -/
namespace Go.Proofs.YtopmeedmgjdcgaaGreatDoor
open Go.RowKit
set_option maxRecDepth 100000
structure RnInv (gr gi : Nat) (v0 : Value) (w : World) (l : List (BitVec 8)) (k acc : Nat) (rest : List (BitVec 8)) (wr : World) : Prop where
  le : k ≤ 10
  lt : acc < 2 ^ (7 * k)
  eq : readNum l = decNum (10 - k) k acc rest
  rd : ∃ v, Rd wr gr gi v rest ∧ v.ownBlock = v0.ownBlock
  onl : Only gi w wr
def readCount (most : Nat) (l : List (BitVec 8)) : Option (Nat × List (BitVec 8)) :=
  match readNum l with
  | none => none
  | some (n, r) => if n ≤ most then some (n, r) else none
end Go.Proofs.YtopmeedmgjdcgaaGreatDoor
/- The walks of bytes.Clone, of the reader's Text and Digest. -/
namespace Go.Proofs.YtopmeedmgjdcgaaGreatDoor
open Go.RowKit
set_option maxRecDepth 100000
theorem OwnB.zero (w : World) (base g : Nat) (hg : base ≤ g) (h : Blk w g [] 5) : OwnB w base (.slice (some ⟨g, 0, none⟩) 0 0) [] :=
  OwnB.of_blk (l := []) (c := 0) h hg rfl (by unfold maxLen; omega) (Nat.le_refl _) rfl
theorem Rd.below {w w' : World} {gr gi : Nat} {v : Value} {l : List (BitVec 8)} (h : Rd w gr gi v l) (hb : Below w.heap.size w w') : Rd w' gr gi v l := ⟨h.rd.below hb h.rd.lt, h.inp.below hb h.inp.lt, h.byt.below hb⟩
theorem Rd.others {w w' : World} {gr gi B : Nat} {v : Value} {l : List (BitVec 8)} (h : Rd w gr gi v l) (hgr : gr < B) (hgi : gi < B) (hv : 0 < l.length → ∀ k, v.ownBlock = some k → k < B) {C : Nat} (hC : B ≤ C) (hb : Below C w w') : Rd w' gr gi v l := by
  refine ⟨h.rd.below hb (by omega), h.inp.below hb (by omega), ?_⟩
  obtain ⟨ad, cap, rfl, hc, hn, hx⟩ := h.byt
  refine ⟨ad, cap, rfl, hc, hn, fun hp => ?_⟩
  obtain ⟨b, off, rfl, hy⟩ := hx hp
  refine ⟨b, off, rfl, fun j hj => ?_⟩
  have : b < C := Nat.lt_of_lt_of_le (hv hp b rfl) hC
  rw [hb.cell (p := ⟨b, off + j, none⟩) this]
  exact hy j hj
end Go.Proofs.YtopmeedmgjdcgaaGreatDoor
/- The walks of codec.Read and of what it defers: what is thrown is caught. -/
namespace Go.Proofs.YtopmeedmgjdcgaaGreatDoor
open Go.RowKit
set_option maxRecDepth 100000
/-- what a reading by f comes to: the new blocks of Read (from H on) are as they were, but for the input; f came back, or threw -/
structure Does (H : Nat) (A : List (BitVec 8) → World → Prop) (B : World → Prop) (w1 : World) (e : Ending) (w2 : World) : Prop where
  size : w1.heap.size ≤ w2.heap.size
  kept : ∀ k, H ≤ k → k < H + 4 → k ≠ H + 1 → w2.heap[k]? = w1.heap[k]?
  way : (e = .returned (.tuple #[]) ∧ ∃ v2 l2, Rd w2 (H + 3) (H + 1) v2 l2 ∧ A l2 w2) ∨ (e = thrown (H + 1) ∧ (∃ v ad n c, v = .slice ad n c ∧ Blk w2 (H + 1) [v, .bool true, .bool true] 120) ∧ B w2)
/-- the world w' is w but for the blocks from H to H + 3 -/
structure Past (H : Nat) (w w' : World) : Prop where
  os : w'.os = w.os
  tape : w'.tape = w.tape
  output : w'.output = w.output
  size : w'.heap.size = w.heap.size
  block : ∀ k, k < H ∨ H + 4 ≤ k → w'.heap[k]? = w.heap[k]?
theorem Past.refl (H : Nat) (w : World) : Past H w w := ⟨rfl, rfl, rfl, rfl, fun _ _ => rfl⟩
theorem Past.setCell {H : Nat} {w w' : World} (h : Past H w w') (a : Addr) (ha : H ≤ a.block ∧ a.block < H + 4) (v : Value) : Past H w (w'.setCell a v) :=
  ⟨h.os, h.tape, h.output, by have := h.size; simp [World.setCell]; omega, fun k hk => (Below.heap_setCell _ _ _ _ (by omega)).trans (h.block k hk)⟩
end Go.Proofs.YtopmeedmgjdcgaaGreatDoor
/- A slice of bytes of the call's own, from an earlier block on (layer 15). -/
namespace Go.Proofs.YtopmeedmgjdcgaaGreatDoor
open Go.RowKit
set_option maxRecDepth 100000
theorem OwnB.mono {w : World} {base B : Nat} {v : Value} {l : List (BitVec 8)} (h : OwnB w base v l) (hB : B ≤ base) : OwnB w B v l := by
  obtain ⟨h1, h2⟩ := h
  refine ⟨h1, h2.imp id ?_⟩
  rintro ⟨g, cap, cur, e, hg, r⟩
  exact ⟨g, cap, cur, e, Nat.le_trans hB hg, r⟩
end Go.Proofs.YtopmeedmgjdcgaaGreatDoor
/- The walks of the reference's reader: Num, Count, Take, Text, Digest, Done. -/
namespace Go.Proofs.YtopmeedmgjdcgaaGreatDoor
open Go.RowKit
set_option maxRecDepth 100000
/-- the reference's reader at g: of the bytes l so many were read -/
structure InS (w : World) (g : Nat) (v : Value) (l : List (BitVec 8)) (pos : Nat) (bad : Bool) : Prop where
  blk : Blk w g [v, .int .i64 (pos : Int), .bool bad] 82
  byt : Reads w v l
  le : pos ≤ l.length
theorem InS.ne {w : World} {g : Nat} {v : Value} {l : List (BitVec 8)} {pos : Nat} {bad : Bool} (h : InS w g v l pos bad) : ∀ b off, 0 < l.length → (∀ j, j < l.length → w.cell? ⟨b, off + j, none⟩ = some (.int .u8 ((l.getD j 0).toNat : Int))) → b ≠ g := by
  intro b off hp hc he
  subst he
  have h0 := hc 0 hp
  rw [h.blk.cell] at h0
  obtain ⟨ad, cap, hv, _⟩ := h.byt
  subst hv
  match off, h0 with
  | 0, h0 => simp at h0
  | 1, h0 => simp at h0
  | 2, h0 => simp at h0
  | k + 3, h0 => simp at h0
theorem InS.only {w w' : World} {g : Nat} {v : Value} {l : List (BitVec 8)} {pos : Nat} {bad : Bool} (h : InS w g v l pos bad) (ho : Only g w w') : Reads w' v l := by
  have ha := h.ne
  obtain ⟨ad, cap, rfl, hc, hn, hx⟩ := h.byt
  refine ⟨ad, cap, rfl, hc, hn, fun hp => ?_⟩
  obtain ⟨b, off, h1, h2⟩ := hx hp
  exact ⟨b, off, h1, fun j hj => ho.cell (p := ⟨b, off + j, none⟩) (ha b off hp h2) (h2 j hj)⟩
theorem InS.drewN {w : World} {g : Nat} {v : Value} {l : List (BitVec 8)} {pos : Nat} {bad : Bool} (h : InS w g v l pos bad) (n : Nat) : InS (w.drewN n) g v l pos bad := ⟨h.blk.drewN n, h.byt, h.le⟩
theorem InS.below {w w' : World} {g : Nat} {v : Value} {l : List (BitVec 8)} {pos : Nat} {bad : Bool} (h : InS w g v l pos bad) (hb : Below w.heap.size w w') : InS w' g v l pos bad := ⟨h.blk.below hb h.blk.lt, h.byt.below hb, h.le⟩
structure InInv (g : Nat) (v : Value) (l : List (BitVec 8)) (pos : Nat) (bad : Bool) (w : World) (k acc : Nat) (wr : World) : Prop where
  le : k ≤ 10
  lt : acc < 2 ^ (7 * k)
  eq : readNum (l.drop pos) = decNum (10 - k) k acc (l.drop (pos + k))
  st : InS wr g v l (pos + k) bad
  onl : Only g w wr
end Go.Proofs.YtopmeedmgjdcgaaGreatDoor
/- The walks of the reference's reader: Count and Take. -/
namespace Go.Proofs.YtopmeedmgjdcgaaGreatDoor
open Go.RowKit
set_option maxRecDepth 100000
end Go.Proofs.YtopmeedmgjdcgaaGreatDoor
/- The walks of the reference's reader: Text, Digest, Done. -/
namespace Go.Proofs.YtopmeedmgjdcgaaGreatDoor
open Go.RowKit
set_option maxRecDepth 100000
def fillD (a : List (BitVec 8)) : Nat → List (BitVec 8)
  | 0 => zb32
  | k + 1 => (fillD a k).set k (a.getD k 0)
structure DgInv4 (D : Nat) (a : List (BitVec 8)) (w2 : World) (u : Value) (k : Nat) (wr : World) : Prop where
  le : k ≤ a.length
  res : Blk wr D (cb zb32) 155
  out : Blk wr (D + 1) (cb (fillD a k)) 155
  own : OwnB wr (D + 2) u a
  onl : Only (D + 1) w2 wr
end Go.Proofs.YtopmeedmgjdcgaaGreatDoor
/- The walk of store.readAct (layer 15). -/
namespace Go.Proofs.YtopmeedmgjdcgaaGreatDoor
open Go.RowKit
set_option maxRecDepth 100000
/-- where readAct stands: the reader, and its result's block g2 -/
structure Ra (w : World) (gr gi g2 : Nat) (v0 v : Value) (r : Bs) (W : World) : Prop where
  rd : Rd W gr gi v r
  onl : Only gi w W
  res : Blk W g2 zA 62
  own : v.ownBlock = v0.ownBlock
  ge : w.heap.size ≤ g2
  gi : gi < w.heap.size
theorem Ra.new {w W W' : World} {gr gi g2 : Nat} {v0 v : Value} {r : Bs} (h : Ra w gr gi g2 v0 v r W) (hb : Below W.heap.size W W') : Ra w gr gi g2 v0 v r W' := ⟨h.rd.below hb, h.onl.trans (Only.of_below hb), h.res.below hb h.res.lt, h.own, h.ge, h.gi⟩
theorem Ra.call {w W W' : World} {gr gi g2 : Nat} {v0 v v' : Value} {r r' : Bs} (h : Ra w gr gi g2 v0 v r W) (hr : Rd W' gr gi v' r') (ho : Only gi W W') (hv : v'.ownBlock = v.ownBlock) : Ra w gr gi g2 v0 v' r' W' := ⟨hr, h.onl.trans ho, blk_same h.res (ho.block g2 (by have := h.ge; have := h.gi; omega) h.res.lt), hv.trans h.own, h.ge, h.gi⟩
end Go.Proofs.YtopmeedmgjdcgaaGreatDoor
/- The walks of store.ReadBatch and of the function that it hands on (layer 15). -/
namespace Go.Proofs.YtopmeedmgjdcgaaGreatDoor
open Go.RowKit
set_option maxRecDepth 100000
theorem Tryz.infoact : (Tryz.prog.info? 62).map (fun i => (i.zero, i.size, i.bytes)) = some (some (.agg zA.toArray), 3, 48) := by kernel_rfl
/-- acts' cells, one behind the other -/
def rowP (ps : List (ActT × Value)) : List Value := (ps.map fun p => actC p.1 p.2).flatten
theorem rowP_snoc (ps : List (ActT × Value)) (p : ActT × Value) : rowP (ps ++ [p]) = rowP ps ++ actC p.1 p.2 := by simp [rowP]
theorem rowP_len (ps : List (ActT × Value)) : (rowP ps).length = ps.length * 3 := by
  induction ps with
  | nil => rfl
  | cons p ps ih => simp only [rowP, List.map_cons, List.flatten_cons, List.length_append, List.length_cons] at *; rw [ih, actC]; simp; omega
theorem rowP_at : ∀ (ps : List (ActT × Value)) (j i : Nat) (p : ActT × Value) (v : Value), ps[j]? = some p → (actC p.1 p.2)[i]? = some v → (rowP ps)[j * 3 + i]? = some v
  | [], j, _, _, _, h, _ => by simp at h
  | q :: ps, 0, i, p, v, h, hv => by
    simp at h
    subst h
    have hi : i < (actC q.1 q.2).length := (List.getElem?_eq_some_iff.1 hv).1
    show (actC q.1 q.2 ++ rowP ps)[0 * 3 + i]? = _
    rw [Nat.zero_mul, Nat.zero_add, List.getElem?_append_left hi]
    exact hv
  | q :: ps, j + 1, i, p, v, h, hv => by
    simp at h
    show (actC q.1 q.2 ++ rowP ps)[(j + 1) * 3 + i]? = _
    rw [List.getElem?_append_right (by simp [actC]; omega), show (j + 1) * 3 + i - (actC q.1 q.2).length = j * 3 + i by simp [actC]; omega]
    exact rowP_at ps j i p v h hv
/-- a slice of acts, the call's own from block base on -/
structure OwnA (W : World) (base : Nat) (v : Value) (ps : List (ActT × Value)) : Prop where
  row : W.ownsRow base 62 3 v ps.length (rowP ps)
  dat : ∀ p ∈ ps, OwnB W base p.2 p.1.data
theorem OwnA.nil (W : World) (base : Nat) : OwnA W base (.slice none 0 0) [] := ⟨World.ownsRow_nil _ _ _ _, fun p hp => by cases hp⟩
theorem OwnA.form {W : World} {base : Nat} {v : Value} {ps : List (ActT × Value)} (h : OwnA W base v ps) : ∃ a c, v = .slice a ps.length c := by
  obtain ⟨_, h2⟩ := h.row
  rcases h2 with ⟨rfl, h0⟩ | ⟨g, cap, cur, rfl, _⟩
  · exact ⟨none, 0, by rw [h0]⟩
  · exact ⟨_, cap, rfl⟩
theorem OwnA.lt {W : World} {base : Nat} {v : Value} {ps : List (ActT × Value)} (h : OwnA W base v ps) : ∀ k, v.ownBlock = some k → base ≤ k ∧ k < W.heap.size := World.ownsRow.lt h.row
theorem OwnA.same {W W' : World} {base : Nat} {v : Value} {ps : List (ActT × Value)} (h : OwnA W base v ps) (hs : ∀ k, base ≤ k → k < W.heap.size → W'.heap[k]? = W.heap[k]?) : OwnA W' base v ps := by
  refine ⟨?_, fun p hp => (h.dat p hp).sameS (fun k hk => hs k ((h.dat p hp).ltS k hk).1 ((h.dat p hp).ltS k hk).2)⟩
  have hlt := h.lt
  obtain ⟨h1, h2⟩ := h.row
  refine ⟨h1, ?_⟩
  rcases h2 with h2 | ⟨g, cap, cur, rfl, hg, hh, r⟩
  · exact Or.inl h2
  · exact Or.inr ⟨g, cap, cur, rfl, hg, by rw [hs g hg (hlt g rfl).2]; exact hh, r⟩
theorem OwnA.reads {W : World} {base : Nat} {v : Value} {ps : List (ActT × Value)} (h : OwnA W base v ps) : ReadsA W v (ps.map (·.1)) := by
  obtain ⟨h1, h2⟩ := id h.row
  rcases h2 with ⟨rfl, h0⟩ | ⟨g, cap, cur, rfl, hg, hh, hc, hm, hs, ht⟩
  · have : ps = [] := List.eq_nil_of_length_eq_zero h0
    subst this
    exact ReadsA.nil W
  · refine ⟨_, cap, by rw [List.length_map], by rw [List.length_map]; exact hc, (fun e => by cases e), fun _ => ⟨g, 0, rfl, fun j hj => ?_⟩⟩
    rw [List.length_map] at hj
    obtain ⟨p, hp⟩ : ∃ p, ps[j]? = some p := ⟨ps[j], List.getElem?_eq_getElem hj⟩
    have e : (ps.map (·.1)).getD j ⟨[], false, []⟩ = p.1 := by rw [List.getD_eq_getElem?_getD, List.getElem?_map, hp]; rfl
    rw [e]
    refine ⟨p.2, fun i u hu => ?_, (h.dat p (List.mem_of_getElem? hp)).reads⟩
    have hr := rowP_at ps j i p u hp hu
    have hi : j * 3 + i < (rowP ps).length := (List.getElem?_eq_some_iff.1 hr).1
    rw [rowP_len] at hi
    rw [cell_of_row W g (0 + j * 3 + i) cur _ (0, 0) hh, Nat.zero_add]
    rw [← ht, List.getElem?_take_of_lt hi] at hr
    simpa using hr
theorem build_a1 (f : Operand → Value) (o : Oper) (x : Operand) (s : ByteArray) (b : Bool) (ad : Option Addr) (n c : Nat) (hx : f x = .agg [.string s, .bool b, .slice ad n c].toArray) (ho : o.op = .buildSlice 22 1 #[(0, x)]) (w : World) : (execOp f o).run Tryz.prog w = .ok (.value (.slice (some ⟨w.heap.size, 0, none⟩) 1 1)) (w.alloc (.cells [.string s, .bool b, .slice ad n c].toArray 62)) := by
  unfold execOp
  rw [ho]
  simp only [List.map_toArray, List.map_cons, List.map_nil, hx]
  kernel_rfl
theorem readAll_snoc {r s : Bs} {a : ActT} : ∀ (k : Nat) (l : Bs) (xs : List ActT), readAll readA k l = some (xs, r) → readA r = some (a, s) → readAll readA (k + 1) l = some (xs ++ [a], s)
  | 0, l, xs, h, h2 => by
    simp only [readAll, Option.some.injEq, Prod.mk.injEq] at h
    obtain ⟨rfl, rfl⟩ := h
    simp only [readAll, h2, List.nil_append]
  | k + 1, l, xs, h, h2 => by
    rw [readAll] at h ⊢
    cases h1 : readA l with
    | none => rw [h1] at h; cases h
    | some p =>
      obtain ⟨b, q⟩ := p
      rw [h1] at h
      simp only at h ⊢
      cases h3 : readAll readA k q with
      | none => rw [h3] at h; cases h
      | some p2 =>
        obtain ⟨l2, t⟩ := p2
        rw [h3] at h
        simp only [Option.some.injEq, Prod.mk.injEq] at h
        obtain ⟨rfl, rfl⟩ := h
        rw [readAll_snoc k q l2 h3 h2]
        rfl
theorem readAll_stop {r : Bs} : ∀ (k m : Nat) (l : Bs) (xs : List ActT), readAll readA k l = some (xs, r) → readA r = none → k < m → readAll readA m l = none
  | 0, m, l, xs, h, h2, hm => by
    simp only [readAll, Option.some.injEq, Prod.mk.injEq] at h
    obtain ⟨rfl, rfl⟩ := h
    obtain ⟨m, rfl⟩ : ∃ j, m = j + 1 := ⟨m - 1, by omega⟩
    simp only [readAll, h2]
  | k + 1, m, l, xs, h, h2, hm => by
    obtain ⟨m, rfl⟩ : ∃ j, m = j + 1 := ⟨m - 1, by omega⟩
    rw [readAll] at h ⊢
    cases h1 : readA l with
    | none => rfl
    | some p =>
      obtain ⟨b, q⟩ := p
      rw [h1] at h
      simp only at h ⊢
      cases h3 : readAll readA k q with
      | none => rw [h3] at h; cases h
      | some p2 =>
        obtain ⟨l2, t⟩ := p2
        rw [h3] at h
        simp only [Option.some.injEq, Prod.mk.injEq] at h
        obtain ⟨rfl, rfl⟩ := h
        rw [readAll_stop k m q l2 h3 h2 (by omega)]
theorem readB_cnt {l : Bs} (h : readCount 4096 l = none) : readB l = none := by
  unfold readCount at h
  unfold readB readList
  cases h1 : readNum l with
  | none => rfl
  | some p =>
    obtain ⟨m, q⟩ := p
    rw [h1] at h
    simp only at h ⊢
    split at h
    · cases h
    next hm => simp [hm]
theorem readB_all {l r : Bs} {n : Nat} (h : readCount 4096 l = some (n, r)) (h2 : readAll readA n r = none) : readB l = none := by
  unfold readCount at h
  unfold readB readList
  cases h1 : readNum l with
  | none => rfl
  | some p =>
    obtain ⟨m, q⟩ := p
    rw [h1] at h
    simp only at h ⊢
    split at h
    next hm =>
      simp only [Option.some.injEq, Prod.mk.injEq] at h
      obtain ⟨rfl, rfl⟩ := h
      rw [if_pos hm, h2]
    · cases h
end Go.Proofs.YtopmeedmgjdcgaaGreatDoor
/- The walks of store.ReadBatch and of the function that it hands on (layer 15). -/
namespace Go.Proofs.YtopmeedmgjdcgaaGreatDoor
open Go.RowKit
set_option maxRecDepth 100000
/-- where the reading of a batch stands: the reader, the list's box gl, the acts so far -/
structure Rb (w : World) (H gl : Nat) (v0 : Value) (va v : Value) (ps : List (ActT × Value)) (r : Bs) (W : World) : Prop where
  rd : Rd W (H + 3) (H + 1) v r
  own : v.ownBlock = v0.ownBlock
  box : Blk W gl [va] 22
  lst : OwnA W (H + 4) va ps
  sz : w.heap.size = H + 4
  lt : gl < H
  size : w.heap.size ≤ W.heap.size
  os : W.os = w.os
  tape : W.tape = w.tape
  output : W.output = w.output
  fr : ∀ k, k < w.heap.size → k ≠ H + 1 → k ≠ gl → W.heap[k]? = w.heap[k]?
theorem Rb.new {w W W' : World} {H gl : Nat} {v0 va v : Value} {ps : List (ActT × Value)} {r : Bs} (h : Rb w H gl v0 va v ps r W) (hb : Below W.heap.size W W') : Rb w H gl v0 va v ps r W' :=
  ⟨h.rd.below hb, h.own, h.box.below hb h.box.lt, h.lst.same (fun k _ hk => hb.block k hk), h.sz, h.lt, Nat.le_trans h.size hb.size, hb.os.trans h.os, hb.tape.trans h.tape, hb.output.trans h.output, fun k hk h1 h2 => (hb.block k (Nat.lt_of_lt_of_le hk h.size)).trans (h.fr k hk h1 h2)⟩
theorem Rb.call {w W W' : World} {H gl : Nat} {v0 va v v' : Value} {ps : List (ActT × Value)} {r r' : Bs} (h : Rb w H gl v0 va v ps r W) (hr : Rd W' (H + 3) (H + 1) v' r') (ho : Only (H + 1) W W') (hv : v'.ownBlock = v.ownBlock) : Rb w H gl v0 va v' ps r' W' :=
  ⟨hr, hv.trans h.own, blk_same h.box (ho.block gl (by have := h.lt; omega) h.box.lt), h.lst.same (fun k h1 hk => ho.block k (by omega) hk), h.sz, h.lt, Nat.le_trans h.size ho.size, ho.os.trans h.os, ho.tape.trans h.tape, ho.output.trans h.output, fun k hk h1 h2 => (ho.block k h1 (Nat.lt_of_lt_of_le hk h.size)).trans (h.fr k hk h1 h2)⟩
theorem Rb.ownLt {w W : World} {H gl : Nat} {v0 va v : Value} {ps : List (ActT × Value)} {r : Bs} (h : Rb w H gl v0 va v ps r W) (h0 : ∀ k, v0.ownBlock = some k → k < H ∧ k ≠ gl) : ∀ k, v.ownBlock = some k → k < H ∧ k ≠ gl := fun k hk => h0 k (by rw [← h.own]; exact hk)
/-- the list is made longer, and laid into its box -/
theorem Rb.put {w W W6 W' : World} {H gl : Nat} {v0 va va' v : Value} {ps : List (ActT × Value)} {p : ActT × Value} {r : Bs} (h : Rb w H gl v0 va v ps r W) (h0 : ∀ k, v0.ownBlock = some k → k < H ∧ k ≠ gl) (ho : OwnA W6 (H + 4) va' (ps ++ [p])) (hg : W.grownBy W6 va.ownBlock) (hb : Blk W' gl [va'] 22) (hon : Only gl W6 W') : Rb w H gl v0 va' v (ps ++ [p]) r W' := by
  have hlt := h.lst.lt
  have hsz := h.sz
  have hgl := h.lt
  have up : ∀ k, k < W.heap.size → k < H + 4 → k ≠ gl → W'.heap[k]? = W.heap[k]? := fun k hk h4 hne => (hon.block k hne (Nat.lt_of_lt_of_le hk hg.size)).trans (hg.block k hk (fun e => by have := (hlt k e.symm).1; omega))
  have hs : W.heap.size ≤ W'.heap.size := Nat.le_trans hg.size hon.size
  have hrl := h.rd.rd.lt
  have hil := h.rd.inp.lt
  refine ⟨⟨blk_same h.rd.rd (up _ hrl (by omega) (by omega)), blk_same h.rd.inp (up _ hil (by omega) (by omega)), ?_⟩, h.own, hb, ho.same (fun k h1 hk => hon.block k (by omega) hk), h.sz, h.lt, Nat.le_trans h.size hs, hon.os.trans (hg.os.trans h.os), hon.tape.trans (hg.tape.trans h.tape), hon.output.trans (hg.output.trans h.output), fun k hk h1 h2 => (up k (Nat.lt_of_lt_of_le hk h.size) (by omega) h2).trans (h.fr k hk h1 h2)⟩
  obtain ⟨ad, cap, rfl, h2, h3, h4⟩ := h.rd.byt
  refine ⟨ad, cap, rfl, h2, h3, fun hp => ?_⟩
  obtain ⟨b, off, rfl, h6⟩ := h4 hp
  have hbk := h.ownLt h0 b rfl
  refine ⟨b, off, rfl, fun j hj => ?_⟩
  have h7 := h6 j hj
  have hb2 : W'.heap[b]? = W.heap[b]? := up b (block_lt_of_cell h7) (by omega) hbk.2
  unfold World.cell? at h7 ⊢
  rw [hb2]
  exact h7
/-- what the function leaves where it came back, and where it threw -/
def RbA (w : World) (H gl : Nat) (l : Bs) (l2 : Bs) (W : World) : Prop := ∃ va v ps, Rb w H gl v va v ps l2 W ∧ readB l = (if l2 = [] then some (ps.map (·.1)) else none)
def RbB (w : World) (H gl : Nat) (l : Bs) (W : World) : Prop := readB l = none ∧ w.heap.size ≤ W.heap.size ∧ W.os = w.os ∧ W.tape = w.tape ∧ W.output = w.output ∧ ∀ k, k < w.heap.size → k ≠ H + 1 → k ≠ gl → W.heap[k]? = w.heap[k]?
theorem Rb.done {w W : World} {H gl : Nat} {v0 va v : Value} {ps : List (ActT × Value)} {r l : Bs} (h : Rb w H gl v0 va v ps r W) (hn : readB l = (if r = [] then some (ps.map (·.1)) else none)) : Does H (RbA w H gl l) (RbB w H gl l) w (.returned (.tuple #[])) W := by
  have hsz := h.sz
  have hgl := h.lt
  exact ⟨h.size, fun k h1 h2 h3 => h.fr k (by omega) h3 (by omega), Or.inl ⟨rfl, v, r, h.rd, va, v, ps, ⟨h.rd, rfl, h.box, h.lst, h.sz, h.lt, h.size, h.os, h.tape, h.output, h.fr⟩, hn⟩⟩
end Go.Proofs.YtopmeedmgjdcgaaGreatDoor
/- The walk of store.ReadBatch (layer 15). -/
namespace Go.Proofs.YtopmeedmgjdcgaaGreatDoor
open Go.RowKit
set_option maxRecDepth 100000
theorem OwnA.mono {W : World} {base B : Nat} {v : Value} {ps : List (ActT × Value)} (h : OwnA W base v ps) (hB : B ≤ base) : OwnA W B v ps := by
  refine ⟨?_, fun p hp => (h.dat p hp).mono hB⟩
  obtain ⟨h1, h2⟩ := h.row
  refine ⟨h1, h2.imp id ?_⟩
  rintro ⟨g, cap, cur, e, hg, r⟩
  exact ⟨g, cap, cur, e, Nat.le_trans hB hg, r⟩
/-- what the reading by the function comes to, at the end of Read -/
structure Rz (w : World) (gl : Nat) (b : Bs) (en : Int) (w' : World) : Prop where
  bel : Below w.heap.size w w'
  out : (en = 0 ∧ ∃ va ps, readB b = some (ps.map (·.1)) ∧ Blk w' gl [va] 22 ∧ OwnA w' w.heap.size va ps) ∨ (en = 3 ∧ readB b = none)
end Go.Proofs.YtopmeedmgjdcgaaGreatDoor
/- The walk of the statements' light (layer 15). -/
namespace Go.Proofs.YtopmeedmgjdcgaaGreatDoor
open Go.RowKit
set_option maxRecDepth 100000
def wtA (a : ActT) : Nat := a.key.length + a.data.length
def sumA (l : List ActT) : Nat := (l.map wtA).sum
theorem sumA_snoc (l : List ActT) (x : ActT) : sumA (l ++ [x]) = sumA l + wtA x := by simp [sumA]
theorem sumA_take {l : List ActT} {k : Nat} (hk : k < l.length) : sumA (l.take (k + 1)) = sumA (l.take k) + wtA (l.getD k ⟨[], false, []⟩) := by
  rw [take_act hk]
  exact sumA_snoc _ _
/-- lengths that no machine's memory passes -/
structure szA (a : ActT) : Prop where
  k : a.key.length ≤ 1125899906842624
  d : a.data.length ≤ 1125899906842624
def LightJ (l : List ActT) (ok : Bool) : Prop := ok = true → l.length ≤ 60 ∧ sumA l ≤ 20000
def LightR (l : List ActT) (e : Ending) : Prop := ∃ ok, e = .returned (.bool ok) ∧ LightJ l ok
set_option maxRecDepth 100000 in
set_option maxHeartbeats 8000000 in
theorem light15_any (v : Value) (l : List ActT) (w : World) (hr : ReadsA w v l) (hs : ∀ a ∈ l, szA a) : Calls Tryz.prog 9 #[v] w fun e w' => LightR l e ∧ Below w.heap.size w w' := by
  have HR : Hid (ReadsA w v l) := hr
  have HS : Hid (∀ a ∈ l, szA a) := hs
  obtain ⟨ad, c, hv⟩ := hr.form
  obtain ⟨n, HN⟩ : ∃ n, Hid (n = l.length) := ⟨_, rfl⟩
  rw [← HN.out] at hv
  subst hv
  clear hs hr
  by_cases hl : 60 < n
  · have q1 : (60 : Int) < (n : Int) := by omega
    go_enter Tryz.func9, Tryz.ntmps9
    go_wp2
    go_ret
    exact ⟨⟨false, rfl, fun h => by cases h⟩, Below.refl _ _⟩
  have q1 : ¬ ((60 : Int) < (n : Int)) := by omega
  have HNB : Hid (n ≤ 60) := by show _ ≤ _; omega
  clear hl
  go_enter Tryz.func9, Tryz.ntmps9
  go_wp2
  clear q1
  go_loopw [3, 4] (fun a i4 wr => ∃ (m i : Nat), a = .int .i64 (m : Int) ∧ i4 = .int .i64 (i : Int) ∧ i ≤ n ∧ m < 9007199254740992 ∧ Hid (m ≤ 20000 → m = sumA (l.take i)) ∧ Hid (Below w.heap.size w wr)) (fun _ i4 _ => n - (intOf i4).toNat)
  case atStart => exact ⟨0, 0, rfl, rfl, Nat.zero_le _, by decide, fun _ => rfl, Below.refl _ _⟩
  case round =>
    obtain ⟨m, i, rfl, rfl, hi, hm, HM, HBB⟩ := hrel
    by_cases hin : i < n
    case neg =>
      have hlk : ¬ ((i : Int) < (n : Int)) := by omega
      by_cases hm2 : m ≤ 20000
      · have q2 : (m : Int) ≤ 20000 := by omega
        have HE : Hid (sumA l ≤ 20000) := by
          have h1 := HM.out hm2
          rw [List.take_of_length_le (by rw [← HN.out]; omega)] at h1
          show _ ≤ _
          omega
        go_wp2
        go_ret
        exact ⟨⟨true, rfl, fun _ => ⟨by rw [← HN.out]; exact HNB.out, HE.out⟩⟩, HBB.out⟩
      · have q2 : ¬ ((m : Int) ≤ 20000) := by omega
        go_wp2
        go_ret
        exact ⟨⟨false, rfl, fun h => by cases h⟩, HBB.out⟩
    case pos =>
      have hlk : (i : Int) < (n : Int) := by omega
      by_cases hm2 : m ≤ 20000
      case neg =>
        have q2 : ¬ ((m : Int) ≤ 20000) := by omega
        go_wp2
        go_ret
        exact ⟨⟨false, rfl, fun h => by cases h⟩, HBB.out⟩
      case pos =>
        have q2 : (m : Int) ≤ 20000 := by omega
        have HIN : Hid (i < n) := hin
        have hio : i < l.length := by rw [← HN.out]; exact hin
        obtain ⟨b, off, vd, rfl, hrg, rD⟩ := (HR.out.below HBB.out).at hio
        obtain ⟨o, HO⟩ : ∃ o, Hid (o = l.getD i ⟨[], false, []⟩) := ⟨_, rfl⟩
        rw [← HO.out] at hrg rD
        have hmem : o ∈ l := by rw [HO.out, List.getD_eq_getElem?_getD, List.getElem?_eq_getElem hio]; exact List.getElem_mem hio
        have hsz := HS.out o hmem
        have hst := sumA_take hio
        rw [← HO.out] at hst
        obtain ⟨lK, HLK⟩ : ∃ n, Hid (n = o.key.length) := ⟨_, rfl⟩
        obtain ⟨lD, HLD⟩ : ∃ n, Hid (n = o.data.length) := ⟨_, rfl⟩
        obtain ⟨aD, cD, hvD, _⟩ := rD
        rw [← HLD.out] at hvD
        subst hvD
        obtain ⟨ks, HKS⟩ : ∃ s, Hid (s = strB o.key) := ⟨_, rfl⟩
        have hks : ks.size = lK := by rw [HKS.out, strB_size, HLK.out]
        have hK := hsz.k
        have hD := hsz.d
        rw [← HLK.out] at hK
        rw [← HLD.out] at hD
        obtain ⟨m1, HM1⟩ : ∃ x, Hid (x = m + lK) := ⟨_, rfl⟩
        obtain ⟨m2, HM2⟩ : ∃ x, Hid (x = m1 + lD) := ⟨_, rfl⟩
        have hm1 := HM1.out
        have hm22 := HM2.out
        have f1 : IntKind.i64.wrap ((m : Int) + (lK : Int)) = (m1 : Int) := aJ HM1.out (by omega)
        have f2 : IntKind.i64.wrap ((m1 : Int) + (lD : Int)) = (m2 : Int) := aJ HM2.out (by omega)
        have f3 : IntKind.i64.wrap ((i : Int) + 1) = (i : Int) + 1 := by rw [IntKind.wrap_i64]; have := HNB.out; omega
        have HST : Hid (m2 = sumA (l.take (i + 1))) := by
          show _ = _
          rw [hst, ← HM.out hm2, wtA, ← HLK.out, ← HLD.out]
          omega
        have HM2B : Hid (m2 < 4503599627370496) := by show _ < _; omega
        have HC1 : Hid (wr.cell? ⟨b, off + i * 3, none⟩ = some (.string ks)) := by rw [HKS.out]; exact hrg 0 _ rfl
        have HC2 : Hid (wr.cell? ⟨b, off + i * 3 + 2, none⟩ = some (.slice aD lD cD)) := hrg 2 _ rfl
        clear hst hsz hK hD hm1 hm22 hmem hrg
        go_wp2_with fail
        refine wp_region_held_drew (S := Over (World.drew wr)) (by kernel_rfl) (Over.refl _) ?_
        intro hS
        replace HC1 : Hid ((World.drew wr).cell? ⟨b, off + i * 3, none⟩ = some (.string ks)) := HC1.out
        replace HC2 : Hid ((World.drew wr).cell? ⟨b, off + i * 3 + 2, none⟩ = some (.slice aD lD cD)) := HC2.out
        replace HBB : Hid (Below w.heap.size w (World.drew wr)) := HBB.out.drew
        change wpAnyH _ _ _ _ _ _ _ _ (World.drew wr)
        generalize World.drew wr = y1 at *
        refine wpAnyH_take (i := 0) (v := .int .i64 (m : Int)) rfl (by kernel_rfl) (by kernel_rfl) (by kernel_rfl) (fun _ _ _ h => h) (Or.inl ⟨by rfl, fun wx hx => by simp [go_sem]⟩) hS ?_
        simp only [Act.put, List.getElem_toArray, List.getElem_cons_zero, List.setIfInBounds_toArray, List.set_cons_zero, List.set_cons_succ]
        refine wpAnyH_take (i := 1) (v := .slice (some ⟨b, off, none⟩) n c) rfl (by kernel_rfl) (by kernel_rfl) (by kernel_rfl) (fun _ _ _ h => h) (Or.inl ⟨by rfl, fun wx hx => by simp [go_sem]⟩) hS ?_
        simp only [Act.put, List.getElem_toArray, List.getElem_cons_succ, List.getElem_cons_zero, List.setIfInBounds_toArray, List.set_cons_zero, List.set_cons_succ]
        refine wpAnyH_take (i := 2) (v := .int .i64 (i : Int)) rfl (by kernel_rfl) (by kernel_rfl) (by kernel_rfl) (fun _ _ _ h => h) (Or.inl ⟨by rfl, fun wx hx => by simp [go_sem]⟩) hS ?_
        simp only [Act.put, List.getElem_toArray, List.getElem_cons_succ, List.getElem_cons_zero, List.setIfInBounds_toArray, List.set_cons_zero, List.set_cons_succ]
        refine wpAnyH_take (i := 3) (v := .pointer (some ⟨b, off + i * 3, none⟩)) rfl (by kernel_rfl) (by kernel_rfl) (by kernel_rfl) (fun _ _ _ h => h) (Or.inl ⟨by rfl, fun wx hx => by exact idxA b off n c i HIN.out _ _ _ _ rfl rfl rfl _⟩) hS ?_
        simp only [Act.put, List.getElem_toArray, List.getElem_cons_succ, List.getElem_cons_zero, List.setIfInBounds_toArray, List.set_cons_zero, List.set_cons_succ]
        refine wpAnyH_take (i := 4) (v := .pointer (some ⟨b, off + i * 3, none⟩)) rfl (by kernel_rfl) (by kernel_rfl) (by kernel_rfl) (fun _ _ _ h => h) (Or.inl ⟨by rfl, fun wx hx => by simp [go_sem]⟩) hS ?_
        simp only [Act.put, List.getElem_toArray, List.getElem_cons_succ, List.getElem_cons_zero, List.setIfInBounds_toArray, List.set_cons_zero, List.set_cons_succ]
        refine wpAnyH_take (i := 5) (v := .string ks) rfl (by kernel_rfl) (by kernel_rfl) (by kernel_rfl) (fun _ _ _ h => h) (Or.inl ⟨by rfl, fun wx hx => by (have hc := below_cell hx HC1.out; simp [go_sem, hc])⟩) hS ?_
        simp only [Act.put, List.getElem_toArray, List.getElem_cons_succ, List.getElem_cons_zero, List.setIfInBounds_toArray, List.set_cons_zero, List.set_cons_succ]
        refine wpAnyH_take (i := 6) (v := .int .i64 (lK : Int)) rfl (by kernel_rfl) (by kernel_rfl) (by kernel_rfl) (fun _ _ _ h => h) (Or.inl ⟨by rfl, fun wx hx => by simp [go_sem, hks]⟩) hS ?_
        simp only [Act.put, List.getElem_toArray, List.getElem_cons_succ, List.getElem_cons_zero, List.setIfInBounds_toArray, List.set_cons_zero, List.set_cons_succ]
        refine wpAnyH_take (i := 7) (v := .int .i64 (m1 : Int)) rfl (by kernel_rfl) (by kernel_rfl) (by kernel_rfl) (fun _ _ _ h => h) (Or.inl ⟨by rfl, fun wx hx => by simp [go_sem, f1]⟩) hS ?_
        simp only [Act.put, List.getElem_toArray, List.getElem_cons_succ, List.getElem_cons_zero, List.setIfInBounds_toArray, List.set_cons_zero, List.set_cons_succ]
        refine wpAnyH_take (i := 8) (v := .slice (some ⟨b, off, none⟩) n c) rfl (by kernel_rfl) (by kernel_rfl) (by kernel_rfl) (fun _ _ _ h => h) (Or.inl ⟨by rfl, fun wx hx => by simp [go_sem]⟩) hS ?_
        simp only [Act.put, List.getElem_toArray, List.getElem_cons_succ, List.getElem_cons_zero, List.setIfInBounds_toArray, List.set_cons_zero, List.set_cons_succ]
        refine wpAnyH_take (i := 9) (v := .int .i64 (i : Int)) rfl (by kernel_rfl) (by kernel_rfl) (by kernel_rfl) (fun _ _ _ h => h) (Or.inl ⟨by rfl, fun wx hx => by simp [go_sem]⟩) hS ?_
        simp only [Act.put, List.getElem_toArray, List.getElem_cons_succ, List.getElem_cons_zero, List.setIfInBounds_toArray, List.set_cons_zero, List.set_cons_succ]
        refine wpAnyH_take (i := 10) (v := .pointer (some ⟨b, off + i * 3, none⟩)) rfl (by kernel_rfl) (by kernel_rfl) (by kernel_rfl) (fun _ _ _ h => h) (Or.inl ⟨by rfl, fun wx hx => by exact idxA b off n c i HIN.out _ _ _ _ rfl rfl rfl _⟩) hS ?_
        simp only [Act.put, List.getElem_toArray, List.getElem_cons_succ, List.getElem_cons_zero, List.setIfInBounds_toArray, List.set_cons_zero, List.set_cons_succ]
        refine wpAnyH_take (i := 11) (v := .pointer (some ⟨b, off + i * 3 + 2, none⟩)) rfl (by kernel_rfl) (by kernel_rfl) (by kernel_rfl) (fun _ _ _ h => h) (Or.inl ⟨by rfl, fun wx hx => by simp [go_sem]⟩) hS ?_
        simp only [Act.put, List.getElem_toArray, List.getElem_cons_succ, List.getElem_cons_zero, List.setIfInBounds_toArray, List.set_cons_zero, List.set_cons_succ]
        refine wpAnyH_take (i := 12) (v := .slice aD lD cD) rfl (by kernel_rfl) (by kernel_rfl) (by kernel_rfl) (fun _ _ _ h => h) (Or.inl ⟨by rfl, fun wx hx => by (have hc := below_cell hx HC2.out; simp [go_sem, hc])⟩) hS ?_
        simp only [Act.put, List.getElem_toArray, List.getElem_cons_succ, List.getElem_cons_zero, List.setIfInBounds_toArray, List.set_cons_zero, List.set_cons_succ]
        refine wpAnyH_take (i := 13) (v := .int .i64 (lD : Int)) rfl (by kernel_rfl) (by kernel_rfl) (by kernel_rfl) (fun _ _ _ h => h) (Or.inl ⟨by rfl, fun wx hx => by simp [go_sem]⟩) hS ?_
        simp only [Act.put, List.getElem_toArray, List.getElem_cons_succ, List.getElem_cons_zero, List.setIfInBounds_toArray, List.set_cons_zero, List.set_cons_succ]
        refine wpAnyH_take (i := 14) (v := .int .i64 (m2 : Int)) rfl (by kernel_rfl) (by kernel_rfl) (by kernel_rfl) (fun _ _ _ h => h) (Or.inl ⟨by rfl, fun wx hx => by simp [go_sem, f2]⟩) hS ?_
        simp only [Act.put, List.getElem_toArray, List.getElem_cons_succ, List.getElem_cons_zero, List.setIfInBounds_toArray, List.set_cons_zero, List.set_cons_succ]
        refine wpAnyH_take (i := 15) (v := .int .i64 (m2 : Int)) rfl (by kernel_rfl) (by kernel_rfl) (by kernel_rfl) (fun _ _ _ h => h) (Or.inl ⟨by rfl, fun wx hx => by simp [go_sem]⟩) hS ?_
        simp only [Act.put, List.getElem_toArray, List.getElem_cons_succ, List.getElem_cons_zero, List.setIfInBounds_toArray, List.set_cons_zero, List.set_cons_succ]
        refine wpAnyH_done (by kernel_rfl) ?_ _
        clear hS
        go_wp2
        go_roundw
        case rel => exact ⟨m2, i + 1, rfl, by simp, by omega, by have := HM2B.out; omega, fun _ => HST.out, HBB⟩
        case measure => simp [intOf]; omega
end Go.Proofs.YtopmeedmgjdcgaaGreatDoor

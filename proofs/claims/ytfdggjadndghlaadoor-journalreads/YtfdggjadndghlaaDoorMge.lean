/- Texts that the proof leans on, one behind the other: JournalDoes, over what journal's functions do (layer 14). The walk of journal's Open, as it landed (layer 14). JournalReads, over what journal's functions do (layer 14). .. -/
import Derived.Test.YtfdggjadndghlaaDoorMgd
import Derived.Test.YtfdggjadndghlaaDoorRows
import Derived.Test.YtfdggjadndghlaaDoorMga
import Derived.ProofKit
import Derived.LaidMore
import Derived.OpenShut
import Derived.Stop.Joined
import Derived.Lib.LaidTab
import Derived.Carry
import Derived.ChangeSlices
/- JournalDoes, over what journal's functions do (layer 14). -/
namespace Go.Proofs.YtfdggjadndghlaaDoor
open Go.RowKit
set_option maxRecDepth 100000
set_option maxRecDepth 100000 in
set_option maxHeartbeats 3000000 in
theorem dkSize_pure {w : World} {g : Nat} {P : Nat → Prop} {D : DkT} (h : DkIs w g P D) : Calls Tryd.prog 29 #[.pointer (some ⟨g, 0, none⟩)] w fun r w' => r = .returned (.int .i64 (sizeD D : Int)) ∧ w' = w := by
  obtain ⟨gs, vw, fu, lf, hm, hP⟩ := h
  clear hP
  obtain ⟨n, HN⟩ : ∃ n, Hid (n = sizeD D) := ⟨_, rfl⟩
  have c0 : w.cell? ⟨g, 0, none⟩ = some (.slice (some ⟨gs, 0, none⟩) n n) := by rw [hm.me.cell 0, HN.out]; rfl
  rw [← HN.out]
  clear hm
  go_enter Tryd.func29, Tryd.ntmps29
  go_wp2
  go_ret
  exact ⟨rfl, rfl⟩
set_option maxRecDepth 100000 in
set_option maxHeartbeats 3000000 in
theorem dkDump_b {w : World} {g : Nat} {P : Nat → Prop} {D : DkT} (h : DkIs w g P D) (hw2 : D.wait.length ≤ 200) : Calls Tryd.prog 30 #[.pointer (some ⟨g, 0, none⟩)] w fun r w' => ∃ v, r = .returned v ∧ Reads w' v (dumpD D) ∧ Below w.heap.size w w' := by
  obtain ⟨gs, vw, fu, lf, hm, hP⟩ := h
  subst hP
  obtain ⟨n, HN⟩ : ∃ n, Hid (n = sizeD D) := ⟨_, rfl⟩
  obtain ⟨aw, cw, hvw⟩ := hm.wt.form
  obtain ⟨nw, HNW⟩ : ∃ n, Hid (n = D.wait.length) := ⟨_, rfl⟩
  rw [← HNW.out] at hvw
  subst hvw
  obtain ⟨dn, HDN⟩ : ∃ b, Hid (b = D.down) := ⟨_, rfl⟩
  have HM : Hid (DkM w g gs (.slice aw nw cw) fu lf D) := hm
  have HME : Hid (Blk w g [.slice (some ⟨gs, 0, none⟩) n n, .slice aw nw cw, .bool dn, .bool fu, .int .i64 lf] 85) := by have h9 := hm.me; rw [dkC, ← HN.out, ← HDN.out] at h9; exact h9
  have c0 : w.cell? ⟨g, 0, none⟩ = some (.slice (some ⟨gs, 0, none⟩) n n) := HME.out.cell 0
  have HW2 : Hid (nw ≤ 200) := by show _ ≤ _; rw [HNW.out]; exact hw2
  have HOK : Hid (okD D) := hm.ok
  obtain ⟨N, HNN⟩ : ∃ N : Nat, Hid (N = 64 * n) := ⟨_, rfl⟩
  have HSL : Hid (D.safe.length = 64 * n ∧ n ≤ 16384) := by rw [HN.out]; exact ⟨hm.ok.size.1, hm.ok.size.2.2⟩
  have HMK : Hid (N ≤ N ∧ N < 281474976710600) := ⟨Nat.le_refl _, by have h1 := HNN.out; have h2 := HSL.out.2; omega⟩
  clear hm hw2
  have f1 : IntKind.i64.wrap ((n : Int) * 64) = (N : Int) := by rw [IntKind.wrap_i64]; have h1 := HNN.out; have h2 := HSL.out.2; omega
  go_enter Tryd.func30, Tryd.ntmps30
  have tk0 : Hid True := trivial
  go_wp2_with (first
    | (clear tk0; with_reducible refine wpSeq_make (.tmp 12) (.tmp 12) N N HMK.out.1 HMK.out.2 ?_ ?_ ?_ ?_ ?_
       · rfl
       · rfl
       · rfl
       · rfl
       intro gb y1 z hz hge hzb hzl
       have HGE : Hid (w.heap.size ≤ gb) := hge
       have HBZ : Hid (Blk y1 gb (cb z) 5) := hzb
       have HBW : Hid (Below w.heap.size w y1) := hzl
       have HZL : Hid (z.length = 64 * n) := by show _ = _; rw [hz, List.length_replicate, HNN.out]
       have HME1 : Hid (Blk y1 g [.slice (some ⟨gs, 0, none⟩) n n, .slice aw nw cw, .bool dn, .bool fu, .int .i64 lf] 85) := HME.out.below hzl HME.out.lt
       replace c0 : y1.cell? ⟨g, 0, none⟩ = some (.slice (some ⟨gs, 0, none⟩) n n) := HME1.out.cell 0
       clear hz hge hzb hzl))
  clear c0 f1 HME1
  go_loopw [19] (fun i wr => ∃ k : Nat, k ≤ n ∧ i = .int .i64 (k : Int) ∧ Hid (Blk wr gb (cb (upTo D.safe z k)) 5) ∧ Hid (Below w.heap.size w wr)) (fun i _ => n - (intOf i).toNat)
  case atStart => exact ⟨0, Nat.zero_le _, rfl, by rw [upTo_zero]; exact HBZ, HBW⟩
  case round =>
    obtain ⟨k, hkn, rfl, HBK, HBB⟩ := hrel
    clear HBZ HBW
    have HMEr : Hid (Blk wr g [.slice (some ⟨gs, 0, none⟩) n n, .slice aw nw cw, .bool dn, .bool fu, .int .i64 lf] 85) := HME.out.below HBB.out HME.out.lt
    by_cases hlt : k < n
    case pos =>
      have hlk : (k : Int) < (n : Int) := by omega
      have f5 : IntKind.i64.wrap ((k : Int) + 1) = (k : Int) + 1 := by rw [IntKind.wrap_i64]; have := HSL.out.2; omega
      obtain ⟨o, HOO⟩ : ∃ o : Nat, Hid (o = 64 * k) := ⟨_, rfl⟩
      have f6 : IntKind.i64.wrap ((k : Int) * 64) = (o : Int) := by rw [IntKind.wrap_i64]; have := HSL.out.2; have := HOO.out; omega
      have HKN : Hid (k < n) := hlt
      have HON : Hid (o < N ∧ 64 ≤ N - o) := by have h1 := HOO.out; have h2 := HNN.out; exact ⟨by omega, by omega⟩
      have HS6 : Hid ((secD D.safe k).length = 64) := sec_len (by rw [HSL.out.1]; omega)
      go_wp2_with fail
      refine wp_region_held_drew (S := fun wx => Blk wx g [.slice (some ⟨gs, 0, none⟩) n n, .slice aw nw cw, .bool dn, .bool fu, .int .i64 lf] 85) (by kernel_rfl) HMEr.out.drew ?_
      intro hS
      have HB3 : Hid (Blk wr.drew gb (cb (upTo D.safe z k)) 5) := HBK.out.drew
      have HBB3 : Hid (Below w.heap.size w wr.drew) := HBB.out.drew
      clear HBK HBB HMEr
      change wpAnyH _ _ _ _ _ _ _ _ (World.drew wr)
      generalize World.drew wr = y3 at *
      refine wpAnyH_take (i := 0) (v := .slice (some ⟨gb, 0, none⟩) N N) rfl (by kernel_rfl) (by kernel_rfl) (by kernel_rfl) (fun _ _ _ h => h) (Or.inl ⟨by rfl, fun wx hx => by simp [go_sem]⟩) hS ?_
      simp only [Act.put, List.getElem_toArray, List.getElem_cons_zero, List.setIfInBounds_toArray, List.set_cons_zero, List.set_cons_succ]
      refine wpAnyH_take (i := 1) (v := .int .i64 (k : Int)) rfl (by kernel_rfl) (by kernel_rfl) (by kernel_rfl) (fun _ _ _ h => h) (Or.inl ⟨by rfl, fun wx hx => by simp [go_sem]⟩) hS ?_
      simp only [Act.put, List.getElem_toArray, List.getElem_cons_succ, List.getElem_cons_zero, List.setIfInBounds_toArray, List.set_cons_zero, List.set_cons_succ]
      refine wpAnyH_take (i := 2) (v := .int .i64 (o : Int)) rfl (by kernel_rfl) (by kernel_rfl) (by kernel_rfl) (fun _ _ _ h => h) (Or.inl ⟨by rfl, fun wx hx => by simp [go_sem, f6]⟩) hS ?_
      simp only [Act.put, List.getElem_toArray, List.getElem_cons_succ, List.getElem_cons_zero, List.setIfInBounds_toArray, List.set_cons_zero, List.set_cons_succ]
      refine wpAnyH_take (i := 3) (v := .slice (some ⟨gb, 0 + o, none⟩) (N - o) (N - o)) rfl (by kernel_rfl) (by kernel_rfl) (by kernel_rfl) (fun _ _ _ h => h) (Or.inl ⟨by rfl, fun wx hx => by exact cutFrom gb 0 N N o HON.out.1 (Nat.le_refl _) _ _ _ _ rfl rfl rfl _⟩) hS ?_
      simp only [Act.put, List.getElem_toArray, List.getElem_cons_succ, List.getElem_cons_zero, List.setIfInBounds_toArray, List.set_cons_zero, List.set_cons_succ]
      refine wpAnyH_take (i := 4) (v := .pointer (some ⟨g, 0, none⟩)) rfl (by kernel_rfl) (by kernel_rfl) (by kernel_rfl) (fun _ _ _ h => h) (Or.inl ⟨by rfl, fun wx hx => by simp [go_sem]⟩) hS ?_
      simp only [Act.put, List.getElem_toArray, List.getElem_cons_succ, List.getElem_cons_zero, List.setIfInBounds_toArray, List.set_cons_zero, List.set_cons_succ]
      refine wpAnyH_take (i := 5) (v := .pointer (some ⟨g, 0, none⟩)) rfl (by kernel_rfl) (by kernel_rfl) (by kernel_rfl) (fun _ _ _ h => h) (Or.inl ⟨by rfl, fun wx hx => by simp [go_sem]⟩) hS ?_
      simp only [Act.put, List.getElem_toArray, List.getElem_cons_succ, List.getElem_cons_zero, List.setIfInBounds_toArray, List.set_cons_zero, List.set_cons_succ]
      refine wpAnyH_take (i := 6) (v := .pointer (some ⟨g, 0, none⟩)) rfl (by kernel_rfl) (by kernel_rfl) (by kernel_rfl) (fun _ _ _ h => h) (Or.inl ⟨by rfl, fun wx hx => by simp [go_sem]⟩) hS ?_
      simp only [Act.put, List.getElem_toArray, List.getElem_cons_succ, List.getElem_cons_zero, List.setIfInBounds_toArray, List.set_cons_zero, List.set_cons_succ]
      refine wpAnyH_take (i := 7) (v := .slice (some ⟨gs, 0, none⟩) n n) rfl (by kernel_rfl) (by kernel_rfl) (by kernel_rfl) (fun _ _ _ h => h) (Or.inl ⟨by rfl, fun wx hx => by (have hc := hx.cell 0; simp at hc; simp [go_sem, hc])⟩) hS ?_
      simp only [Act.put, List.getElem_toArray, List.getElem_cons_succ, List.getElem_cons_zero, List.setIfInBounds_toArray, List.set_cons_zero, List.set_cons_succ]
      refine wpAnyH_take (i := 8) (v := .int .i64 (k : Int)) rfl (by kernel_rfl) (by kernel_rfl) (by kernel_rfl) (fun _ _ _ h => h) (Or.inl ⟨by rfl, fun wx hx => by simp [go_sem]⟩) hS ?_
      simp only [Act.put, List.getElem_toArray, List.getElem_cons_succ, List.getElem_cons_zero, List.setIfInBounds_toArray, List.set_cons_zero, List.set_cons_succ]
      refine wpAnyH_take (i := 9) (v := .pointer (some ⟨gs, 64 * k, none⟩)) rfl (by kernel_rfl) (by kernel_rfl) (by kernel_rfl) (fun _ _ _ h => h) (Or.inl ⟨by rfl, fun wx hx => by exact idxSec gs n k HKN.out _ _ _ _ rfl rfl rfl _⟩) hS ?_
      simp only [Act.put, List.getElem_toArray, List.getElem_cons_succ, List.getElem_cons_zero, List.setIfInBounds_toArray, List.set_cons_zero, List.set_cons_succ]
      refine wpAnyH_take (i := 10) (v := .slice (some ⟨gs, 64 * k, none⟩) 64 64) rfl (by kernel_rfl) (by kernel_rfl) (by kernel_rfl) (fun _ _ _ h => h) (Or.inl ⟨by rfl, fun wx hx => by exact sliceSec gs (64 * k) _ _ _ rfl rfl _⟩) hS ?_
      simp only [Act.put, List.getElem_toArray, List.getElem_cons_succ, List.getElem_cons_zero, List.setIfInBounds_toArray, List.set_cons_zero, List.set_cons_succ]
      have hsf := (HM.out.below HBB3.out).sf
      refine wpAnyH_copyO 11 (.tmp 25) (.tmp 32) gb (0 + o) (N - o) (N - o) gs (64 * k) 64 64 5 _ (secD D.safe k) HB3.out (by rw [HS6.out]; have := HON.out.2; omega) (by rw [HS6.out, cb_len, upTo_len HSL.out.1 HZL.out (Nat.le_of_lt HKN.out)]; have h1 := HON.out; have h2 := HNN.out; omega) (range_cells (sec_range hsf (by rw [HSL.out.1]; have := HKN.out; omega))) (by kernel_rfl) rfl (by rfl) rfl rfl rfl ?_
      intro y4 hb4 ho4
      refine ⟨hS.only ho4 (hS.neT HB3.out (by decide)), ?_⟩
      have HB4 : Hid (Blk y4 gb (cb (upTo D.safe z (k + 1))) 5) := by
        rw [Nat.zero_add, HOO.out, lay_sec HS6.out, upTo_step HSL.out.1 HKN.out] at hb4
        exact hb4
      have HBB4 : Hid (Below w.heap.size w y4) := HBB3.out.trans (ho4.below HGE.out HBB3.out.size)
      clear hb4 ho4 hsf hS HB3 HBB3
      simp only [Act.put, List.getElem_toArray, List.getElem_cons_succ, List.getElem_cons_zero]
      refine wpAnyH_done (by kernel_rfl) ?_ _
      go_wp2
      go_roundw
      case rel => exact ⟨k + 1, by omega, by simp, HB4, HBB4⟩
      case measure => simp [intOf]; omega
    case neg =>
      have hlk : ¬ ((k : Int) < (n : Int)) := by omega
      obtain rfl : k = n := by omega
      have HB2 : Hid (Blk wr gb (cb (dumpW D.safe (D.wait.take 0))) 5) := by
        have h9 := HBK.out
        rw [upTo_all HSL.out.1 HZL.out] at h9
        exact h9
      have c1 : wr.cell? ⟨g, 1, none⟩ = some (.slice aw nw cw) := HMEr.out.cell 1
      clear HBK hkn hlt
      go_wp2_with fail
      clear c1 HMEr
      obtain ⟨n, HNK⟩ : ∃ n, Hid (n = k) := ⟨_, rfl⟩
      go_loopw [40] (fun i wr => ∃ j : Nat, j ≤ nw ∧ i = .int .i64 (j : Int) ∧ Hid (Blk wr gb (cb (dumpW D.safe (D.wait.take j))) 5) ∧ Hid (Below w.heap.size w wr)) (fun i _ => nw - (intOf i).toNat)
      case atStart => exact ⟨0, Nat.zero_le _, rfl, HB2, HBB⟩
      case round =>
        obtain ⟨j, hjn, rfl, HBK, HBB⟩ := hrel
        clear HB2
        have HMr : Hid (DkM wr g gs (.slice aw nw cw) fu lf D) := HM.out.below HBB.out
        by_cases hlt : j < nw
        case neg =>
          have hlk : ¬ ((j : Int) < (nw : Int)) := by omega
          have HBD : Hid (Blk wr gb (cb (dumpD D)) 5) := by
            have h9 := HBK.out
            rw [List.take_of_length_le (by rw [← HNW.out]; omega)] at h9
            exact h9
          have HLN : Hid ((dumpD D).length = N) := by show _ = _; rw [len_dumpD HOK.out, HSL.out.1, HNN.out]
          go_wp2
          go_ret
          exact ⟨_, rfl, HBD.out.reads HLN.out.symm (by rw [HLN.out]; exact Nat.le_refl _), HBB.out⟩
        case pos =>
          have hlk : (j : Int) < (nw : Int) := by omega
          have HKN : Hid (j < nw) := hlt
          have HLT : Hid (j < D.wait.length) := by show _ < _; rw [← HNW.out]; exact hlt
          have f5 : IntKind.i64.wrap ((j : Int) + 1) = (j : Int) + 1 := by rw [IntKind.wrap_i64]; have := HW2.out; omega
          obtain ⟨hmem, htk⟩ := getD_memV2 HLT.out
          obtain ⟨b, rfl, hat⟩ := HMr.out.wt.at (fun p hp => (HOK.out.wait p hp).2) (Nat.lt_of_le_of_lt (Nat.zero_le _) HLT.out)
          have hrg := hat j HLT.out
          replace hrg : wr.rangeAt b (j * 65) (wrC (D.wait.getD j (0, []))) := hrg
          obtain ⟨p, HPP⟩ : ∃ p, Hid (p = D.wait.getD j (0, [])) := ⟨_, rfl⟩
          rw [← HPP.out] at hmem htk hrg
          have HRG : Hid (wr.rangeAt b (j * 65) (wrC p)) := hrg
          have HTK : Hid (dumpW D.safe (D.wait.take (j + 1)) = layD (dumpW D.safe (D.wait.take j)) p.1 p.2 64) := by show _ = _; rw [htk, dumpW_snoc]
          have HPW : Hid (p.1 < k ∧ p.2.length = 64) := by rw [HN.out]; exact HOK.out.wait p hmem
          have HP6 : Hid (p.2.length = 64) := HPW.out.2
          have HWL : Hid ((wrC p).length = (wrC (0, zs64)).length) := by show _ = _; rw [wrC_len HP6.out, wrC_len (p := (0, zs64)) len_zs64]
          have HLN : Hid ((dumpW D.safe (D.wait.take j)).length = N) := by
            show _ = _
            rw [len_dumpW _ _ HOK.out.size.1 (fun q hq => HOK.out.wait q (List.mem_of_mem_take hq)), HNN.out, HN.out]
          obtain ⟨o, HOO⟩ : ∃ o : Nat, Hid (o = 64 * p.1) := ⟨_, rfl⟩
          have f6 : IntKind.i64.wrap ((p.1 : Int) * 64) = (o : Int) := by rw [IntKind.wrap_i64]; have := HSL.out.2; have := HOO.out; have := HPW.out.1; omega
          have HON : Hid (o < N ∧ 64 ≤ N - o) := by have h1 := HOO.out; have h2 := HNN.out; have h3 := HPW.out.1; exact ⟨by omega, by omega⟩
          clear hat hrg hmem htk
          have tk1 : Hid True := trivial
          have tk2 : Hid True := trivial
          have tk3 : Hid True := trivial
          have tk4 : Hid True := trivial
          go_wp2_with (first
    | (clear tk1; with_reducible refine wpSeq_idxWr (.tmp 38) (.tmp 40) b nw cw j HKN.out ?_ ?_ ?_ ?_ ?_
       · rfl
       · rfl
       · rfl
       · rfl)
    | (clear tk2; with_reducible refine wpSeq_loadW 97 (.tmp 42) b (j * 65) (wrC p) _ HRG.out Tryd.underlying97 rfl (sz_wr HP6.out) ?_ ?_ ?_ ?_
       · rfl
       · rfl
       · rfl)
    | (clear tk3; with_reducible refine wpSeq_allocDw ?_ ?_ ?_
       · rfl
       · rfl
       intro g6 y1 nn
       have HG6 : Hid (Blk y1 g6 (wrC (0, zs64)) 97) := nn.blk
       have HBW : Hid (Below wr.heap.size wr y1) := nn.below
       have HG6E : Hid (wr.heap.size ≤ g6) := nn.ge
       clear nn)
    | (clear tk4; with_reducible refine wpSeq_storeRow 97 (.tmp 6) (.tmp 43) g6 (wrC (0, zs64)) (wrC p) HG6.out HWL.out (sz_wr HP6.out) (wrC_one _) ?_ ?_ ?_ ?_ ?_
       · rfl
       · rfl
       · rfl
       · rfl
       intro y2 hs
       replace HG6 : Hid (Blk y2 g6 (wrC p) 97) := hs.blk
       replace HBW : Hid (Below wr.heap.size wr y2) := HBW.out.trans (hs.only.below HG6E.out HBW.out.size)
       clear hs)
    | fail)
          refine wp_region_held_drew (S := fun wx => Blk wx g6 (wrC p) 97) (by kernel_rfl) HG6.out.drew ?_
          intro hS
          have HB3 : Hid (Blk y2.drew gb (cb (dumpW D.safe (D.wait.take j))) 5) := HBK.out.below HBW.out.drew HBK.out.lt
          have HBB3 : Hid (Below w.heap.size w y2.drew) := HBB.out.trans (HBW.out.drew.mono HBB.out.size)
          clear HBK HBB HBW HG6 HG6E HRG HMr
          change wpAnyH _ _ _ _ _ _ _ _ (World.drew y2)
          generalize World.drew y2 = y3 at *
          refine wpAnyH_take (i := 0) (v := .slice (some ⟨gb, 0, none⟩) N N) rfl (by kernel_rfl) (by kernel_rfl) (by kernel_rfl) (fun _ _ _ h => h) (Or.inl ⟨by rfl, fun wx hx => by simp [go_sem]⟩) hS ?_
          simp only [Act.put, List.getElem_toArray, List.getElem_cons_zero, List.setIfInBounds_toArray, List.set_cons_zero, List.set_cons_succ]
          refine wpAnyH_take (i := 1) (v := .pointer (some ⟨g6, 0, none⟩)) rfl (by kernel_rfl) (by kernel_rfl) (by kernel_rfl) (fun _ _ _ h => h) (Or.inl ⟨by rfl, fun wx hx => by simp [go_sem]⟩) hS ?_
          simp only [Act.put, List.getElem_toArray, List.getElem_cons_succ, List.getElem_cons_zero, List.setIfInBounds_toArray, List.set_cons_zero, List.set_cons_succ]
          refine wpAnyH_take (i := 2) (v := .int .i64 (p.1 : Int)) rfl (by kernel_rfl) (by kernel_rfl) (by kernel_rfl) (fun _ _ _ h => h) (Or.inl ⟨by rfl, fun wx hx => by (have hc : wx.cell? ⟨g6, 0, none⟩ = some (.int .i64 (p.1 : Int)) := hx.cell 0; simp [go_sem, hc])⟩) hS ?_
          simp only [Act.put, List.getElem_toArray, List.getElem_cons_succ, List.getElem_cons_zero, List.setIfInBounds_toArray, List.set_cons_zero, List.set_cons_succ]
          refine wpAnyH_take (i := 3) (v := .int .i64 (o : Int)) rfl (by kernel_rfl) (by kernel_rfl) (by kernel_rfl) (fun _ _ _ h => h) (Or.inl ⟨by rfl, fun wx hx => by simp [go_sem, f6]⟩) hS ?_
          simp only [Act.put, List.getElem_toArray, List.getElem_cons_succ, List.getElem_cons_zero, List.setIfInBounds_toArray, List.set_cons_zero, List.set_cons_succ]
          refine wpAnyH_take (i := 4) (v := .slice (some ⟨gb, 0 + o, none⟩) (N - o) (N - o)) rfl (by kernel_rfl) (by kernel_rfl) (by kernel_rfl) (fun _ _ _ h => h) (Or.inl ⟨by rfl, fun wx hx => by exact cutFrom gb 0 N N o HON.out.1 (Nat.le_refl _) _ _ _ _ rfl rfl rfl _⟩) hS ?_
          simp only [Act.put, List.getElem_toArray, List.getElem_cons_succ, List.getElem_cons_zero, List.setIfInBounds_toArray, List.set_cons_zero, List.set_cons_succ]
          refine wpAnyH_take (i := 5) (v := .pointer (some ⟨g6, 1, none⟩)) rfl (by kernel_rfl) (by kernel_rfl) (by kernel_rfl) (fun _ _ _ h => h) (Or.inl ⟨by rfl, fun wx hx => by simp [go_sem]⟩) hS ?_
          simp only [Act.put, List.getElem_toArray, List.getElem_cons_succ, List.getElem_cons_zero, List.setIfInBounds_toArray, List.set_cons_zero, List.set_cons_succ]
          refine wpAnyH_take (i := 6) (v := .slice (some ⟨g6, 1, none⟩) 64 64) rfl (by kernel_rfl) (by kernel_rfl) (by kernel_rfl) (fun _ _ _ h => h) (Or.inl ⟨by rfl, fun wx hx => by exact sliceSec g6 1 _ _ _ rfl rfl _⟩) hS ?_
          simp only [Act.put, List.getElem_toArray, List.getElem_cons_succ, List.getElem_cons_zero, List.setIfInBounds_toArray, List.set_cons_zero, List.set_cons_succ]
          refine wpAnyH_copyO 7 (.tmp 48) (.tmp 50) gb (0 + o) (N - o) (N - o) g6 1 64 64 5 _ p.2 HB3.out (by rw [HP6.out]; have := HON.out.2; omega) (by rw [HP6.out, cb_len, HLN.out]; have h1 := HON.out; omega) (range_cells (range_tail (off := 0) (Blk.range hS))) (by kernel_rfl) rfl (by rfl) rfl rfl rfl ?_
          intro y4 hb4 ho4
          refine ⟨hS.only ho4 (hS.neT HB3.out (by decide)), ?_⟩
          have HB4 : Hid (Blk y4 gb (cb (dumpW D.safe (D.wait.take (j + 1)))) 5) := by
            rw [Nat.zero_add, HOO.out, lay_sec HP6.out, ← HTK.out] at hb4
            exact hb4
          have HBB4 : Hid (Below w.heap.size w y4) := HBB3.out.trans (ho4.below HGE.out HBB3.out.size)
          clear hb4 ho4 hS HB3 HBB3
          simp only [Act.put, List.getElem_toArray, List.getElem_cons_succ, List.getElem_cons_zero]
          refine wpAnyH_done (by kernel_rfl) ?_ _
          go_wp2
          go_roundw
          case rel => exact ⟨j + 1, by omega, by simp, HB4, HBB4⟩
          case measure => simp [intOf]; omega
/-- where JournalDoes' loop stands -/
structure DoI (Lg : World → Nat → (Nat → Prop) → Nat → Nat → JnT → Prop) (w : World) (gd lg N i : Nat) (wv : Value) (P Q : Nat → Prop) (D : DkT) (J : JnT) (W : World) : Prop where
  pk : Pk Lg W gd lg P Q D J
  log : Log D J
  size : sizeD D = N
  gen : J.gen ≤ i + 1
  want : StaL (Un P Q) W wv J.l
  bel : Below w.heap.size w W
  own : ∀ k, Un P Q k → w.heap.size ≤ k
theorem Log.len {D : DkT} {J : JnT} (h : Log D J) (hs : sizeD D ≤ 100) : J.l.length ≤ 1000 ∧ sizeL J.l ≤ 6400 := by
  have h1 := h.fits
  have h2 := sizeL_ge J.l
  have h3 := sizeL_eq J.l
  unfold hsD at h1
  exact ⟨by omega, by omega⟩
end Go.Proofs.YtfdggjadndghlaaDoor
/- The walk of journal's Open, as it landed (layer 14). -/
namespace Go.Proofs.YtfdggjadndghlaaDoor
open Go.RowKit
set_option maxRecDepth 100000
/-- what is written where a log is opened, and the log -/
def openG (D : DkT) : List (Option (Nat × Bs)) × JnT :=
  if (pickB (dumpD D)).2 = 0 then (anewS (hsD D) 0 1 [], ⟨0, 1, []⟩)
  else if ∀ z ∈ (halfB (dumpD D) (pickB (dumpD D)).1).drop (recsOf (pickB (dumpD D)).2 (halfB (dumpD D) (pickB (dumpD D)).1)).2, z = 0 then ([], ⟨(pickB (dumpD D)).1, (pickB (dumpD D)).2, (recsOf (pickB (dumpD D)).2 (halfB (dumpD D) (pickB (dumpD D)).1)).1⟩)
  else (anewS (hsD D) (1 - (pickB (dumpD D)).1) (gN (pickB (dumpD D)).2) (recsOf (pickB (dumpD D)).2 (halfB (dumpD D) (pickB (dumpD D)).1)).1, ⟨1 - (pickB (dumpD D)).1, gN (pickB (dumpD D)).2, (recsOf (pickB (dumpD D)).2 (halfB (dumpD D) (pickB (dumpD D)).1)).1⟩)
theorem openG_eq {D : DkT} (h : (pickB (dumpD D)).2 + 1 < 18446744073709551616) : openG D = openS D := by
  unfold openG openS
  rw [gN_eq h]
theorem box_agg (f : Operand → Value) (o : Oper) (ty : TypeId) (x : Operand) (cs : List Value) (ho : o.op = .box ty x) (hx : f x = .agg cs.toArray) (w : World) : (execOp f o).run Tryd.prog w = .ok (.value (.pointer (some ⟨w.heap.size, 0, none⟩))) (w.alloc (.cells cs.toArray ty)) := by
  unfold execOp
  rw [ho]
  simp only [hx]
  rfl
theorem built_lg (gd hs k gen u : Nat) (ad : Option Addr) (n c : Nat) (ps : List (Nat × Value)) (h : ps = [(0, wrF gd), (1, syF gd), (2, .int .i64 (hs : Int)), (4, .agg (ctC k gen (.slice ad n c) u).toArray)]) : Tryd.prog.built 91 ps = some (lgC gd hs 0 k gen (.slice ad n c) u).toArray := by subst h; kernel_rfl
/-- a log opened -/
structure OpA (w : World) (gd : Nat) (P : Nat → Prop) (n : Nat) (DX : DkT) (JX : JnT) (P' : Nat → Prop) (lv : Value) (x : Int) (w' : World) : Prop where
  dk : DkIs w' gd P' DX
  mv : Mut P w w'
  gr : Grew w P P'
  lg : x = 0 → ∃ lg Q, lv = .pointer (some ⟨lg, 0, none⟩) ∧ LgJ w' lg Q gd n JX ∧ ∀ k, Q k → w.heap.size ≤ k ∧ ¬ P' k
set_option maxRecDepth 100000 in
set_option maxHeartbeats 8000000 in
theorem jOpen_small {w : World} {gd : Nat} {P : Nat → Prop} {D : DkT} (hdk : DkIs w gd P D) (h8 : sizeD D < 8) : Calls Tryd.prog 23 #[.pointer (some ⟨gd, 0, none⟩)] w fun e w' => e = .returned (.tuple #[.pointer none, .int .i64 1]) ∧ w' = w := by
  obtain ⟨n, HN⟩ : ∃ n, Hid (n = sizeD D) := ⟨_, rfl⟩
  have HSZ : Hid (Calls Tryd.prog 29 #[.pointer (some ⟨gd, 0, none⟩)] w fun r w' => r = .returned (.int .i64 (n : Int)) ∧ w' = w) := by rw [HN.out]; exact dkSize_pure hdk
  have hn : (n : Int) < 8 := by have := HN.out; omega
  clear hdk h8
  go_enter Tryd.func23, Tryd.ntmps23
  have tk0 : Hid True := trivial
  go_wp2_with (first
    | (clear tk0; go_at_call 29; refine HSZ.out.mono ?_; rintro e0 y1 ⟨rfl, hy1⟩; subst hy1))
  refine bodyPost_ret (results_tmp2 rfl _ _ _) rfl ?_
  exact ⟨rfl, rfl⟩
set_option maxRecDepth 100000 in
set_option maxHeartbeats 8000000 in
theorem jOpen_any {w : World} {gd : Nat} {P : Nat → Prop} {D : DkT} (hK : KOk w) (hdk : DkIs w gd P D) (hwt : D.wait = []) (hsz : sizeD D ≤ 100) (h8 : 8 ≤ sizeD D) : Calls Tryd.prog 23 #[.pointer (some ⟨gd, 0, none⟩)] w fun e w' => ∃ P' lv, e = .returned (.tuple #[lv, .int .i64 (runJ D (openG D).1).2]) ∧ OpA w gd P (sizeD D) (runJ D (openG D).1).1 (openG D).2 P' lv (runJ D (openG D).1).2 w' := by
  obtain ⟨X, HX⟩ : ∃ z, Hid (z = (runJ D (openG D).1).2) := ⟨_, rfl⟩
  obtain ⟨DX, HDX⟩ : ∃ z, Hid (z = (runJ D (openG D).1).1) := ⟨_, rfl⟩
  obtain ⟨JX, HJX⟩ : ∃ z, Hid (z = (openG D).2) := ⟨_, rfl⟩
  rw [← HX.out, ← HDX.out, ← HJX.out]
  obtain ⟨n, HN⟩ : ∃ n, Hid (n = sizeD D) := ⟨_, rfl⟩
  obtain ⟨hs, HHS⟩ : ∃ m, Hid (m = n / 2) := ⟨_, rfl⟩
  obtain ⟨b, HB⟩ : ∃ b, Hid (b = dumpD D) := ⟨_, rfl⟩
  rw [← HN.out] at hsz h8 ⊢
  have HOKD : Hid (okD D) := by obtain ⟨_, _, _, _, hm, _⟩ := hdk; exact hm.ok
  have HBL : Hid (b.length = 64 * n) := by show _ = _; rw [HB.out, len_dumpD HOKD.out, HOKD.out.size.1, HN.out]
  have HOB : Hid (okB b) := by show okB b; have h := HBL.out; unfold okB; omega
  have HHH : Hid (hsD D = hs) := by show sizeD D / 2 = hs; rw [← HN.out]; exact HHS.out.symm
  have HNH : Hid (halfN b = 64 * hs) := by show _ = _; have h := HBL.out; have h2 := HHS.out; rw [halfN]; omega
  have HDK : Hid (DkIs w gd P D) := hdk
  have HWT : Hid (D.wait = []) := hwt
  have HK : Hid (KOk w) := hK
  have HBD : Hid (4 ≤ hs ∧ hs ≤ 50 ∧ n ≤ 100 ∧ 8 ≤ n) := by have h := HHS.out; exact ⟨by omega, by omega, by omega, by omega⟩
  have HLT : Hid (∀ k, P k → k < w.heap.size) := hdk.lt14
  have f1 : ¬ ((n : Int) < 8) := by omega
  have f2 : IntKind.i64.wrap ((n : Int) / 2) = (hs : Int) := by rw [IntKind.wrap_i64]; have := HHS.out; omega
  clear hdk hwt hsz h8 hK
  have HSZ : Hid (∀ W, Below w.heap.size w W → Calls Tryd.prog 29 #[.pointer (some ⟨gd, 0, none⟩)] W fun r w' => r = .returned (.int .i64 (n : Int)) ∧ w' = W) := fun W hW => by rw [HN.out]; exact dkSize_pure (HDK.out.same14 (fun k hk => hW.block k (HLT.out k hk)))
  have HDU : Hid (Calls Tryd.prog 30 #[.pointer (some ⟨gd, 0, none⟩)] w fun r w' => ∃ v, r = .returned v ∧ Reads w' v b ∧ Below w.heap.size w w') := by rw [HB.out]; exact dkDump_b HDK.out (by rw [HWT.out]; decide)
  go_enter Tryd.func23, Tryd.ntmps23
  have tk0 : Hid True := trivial
  have tk1 : Hid True := trivial
  have tk2 : Hid True := trivial
  have tk3 : Hid True := trivial
  have tk4 : Hid True := trivial
  go_upto_region 4 with (first
    | (clear tk0; go_at_call 29; refine (HSZ.out _ (Below.refl _ _)).mono ?_; rintro e0 y1 ⟨rfl, hy1⟩; have hy2 := hy1.symm; clear hy1; subst hy2)
    | (clear tk1; go_at_call 30; refine HDU.out.mono ?_; rintro e0 y1 ⟨v1, rfl, hr, hz⟩
       obtain ⟨ad, cp, hv, hcp, _, hx⟩ := id hr
       obtain ⟨bb, off, rfl, _⟩ := hx (by have h1 := HBL.out; have h2 := HBD.out; omega)
       subst hv
       obtain ⟨L, HLL⟩ : ∃ m, Hid (m = b.length) := ⟨_, rfl⟩
       rw [← HLL.out] at hr ⊢
       have HRD : Hid (Reads y1 (.slice (some ⟨bb, off, none⟩) L cp) b) := hr
       have HBW : Hid (Below w.heap.size w y1) := hz
       clear hr hz hcp hx)
    | (clear tk2; go_at_call 40; refine (jLook_any bb off L cp b HOB.out (by have h1 := HBL.out; have h2 := HBD.out; omega) _ (HK.out.below HBW.out HK.out.lt) HRD.out).mono ?_; rintro e0 y2 ⟨k, gen, vr, us, u, cl, rfl, hlk⟩
       obtain ⟨a1, n1, c1, hvr⟩ : ∃ a n c, vr = .slice a n c := by
         by_cases hg : gen = 0
         · exact ⟨_, _, _, (hlk.z hg).1⟩
         · obtain ⟨a, c, hv, _⟩ := (hlk.nz hg).1.readsL; exact ⟨_, _, _, hv⟩
       subst hvr
       have HLK : Hid (LookA y1 b k gen (.slice a1 n1 c1) us u cl y2) := hlk
       have HBW2 : Hid (Below w.heap.size w y2) := HBW.out.trans (hlk.bel.mono HBW.out.size)
       clear hlk)
    | (clear tk3; with_reducible refine wpSeq_allocCt ?_ ?_ ?_
       · rfl
       · rfl
       intro g4 y3 nn
       have H4 : Hid (Blk y3 g4 ctZ 67) := nn.blk
       have HG4 : Hid (w.heap.size ≤ g4 ∧ y2.heap.size ≤ g4) := ⟨Nat.le_trans HBW2.out.size nn.ge, nn.ge⟩
       have HBW3 : Hid (Below y2.heap.size y2 y3) := nn.below
       clear nn)
    | (clear tk4; with_reducible refine wpSeq_storeRow 67 (.tmp 4) (.tmp 19) g4 ctZ (ctC k gen (.slice a1 n1 c1) u) H4.out (len_ctZ _ _ _ _) (info_ct _ _ _ _) (ct_one _ _ _ _ _ _) ?_ ?_ ?_ ?_ ?_
       · rfl
       · rfl
       · rfl
       · rfl
       intro y4 hs4
       have HB4 : Hid (Blk y4 g4 (ctC k gen (.slice a1 n1 c1) u) 67) := hs4.blk
       have HBW4 : Hid (Below y2.heap.size y2 y4) := HBW3.out.trans (hs4.only.below HG4.out.2 HBW3.out.size)
       clear hs4))
  have HBY : Hid (Below y2.heap.size y2 (World.drew y4)) := HBW4.out.drew
  clear H4 HBW3 HBW4 HRD HDU
  refine wp_region_held_drew (S := fun wx => Blk wx g4 (ctC k gen (.slice a1 n1 c1) u) 67) (by kernel_rfl) HB4.out.drew ?_
  intro hS
  clear HB4
  change wpAnyH _ _ _ _ _ _ _ _ (World.drew y4)
  generalize World.drew y4 = y5 at *
  have HBZ : Hid (Below w.heap.size w y5) := HBW2.out.trans (HBY.out.mono HBW2.out.size)
  refine wpAnyH_take (i := 0) (v := .pointer (some ⟨gd, 0, none⟩)) rfl (by kernel_rfl) (by kernel_rfl) (by kernel_rfl) (fun _ _ _ h => h) (Or.inl ⟨by rfl, fun wx hx => by simp [go_sem]⟩) hS ?_
  simp only [Act.put, List.getElem_toArray, List.getElem_cons_zero, List.setIfInBounds_toArray, List.set_cons_zero, List.set_cons_succ]
  refine wpAnyH_take (i := 1) (v := wrF gd) rfl (by kernel_rfl) (by kernel_rfl) (by kernel_rfl) (fun _ _ _ h => h) (Or.inl ⟨by rfl, fun wx hx => by simp [go_sem, wrF]⟩) hS ?_
  simp only [Act.put, List.getElem_toArray, List.getElem_cons_succ, List.getElem_cons_zero, List.setIfInBounds_toArray, List.set_cons_zero, List.set_cons_succ]
  refine wpAnyH_take (i := 2) (v := .pointer (some ⟨gd, 0, none⟩)) rfl (by kernel_rfl) (by kernel_rfl) (by kernel_rfl) (fun _ _ _ h => h) (Or.inl ⟨by rfl, fun wx hx => by simp [go_sem]⟩) hS ?_
  simp only [Act.put, List.getElem_toArray, List.getElem_cons_succ, List.getElem_cons_zero, List.setIfInBounds_toArray, List.set_cons_zero, List.set_cons_succ]
  refine wpAnyH_take (i := 3) (v := syF gd) rfl (by kernel_rfl) (by kernel_rfl) (by kernel_rfl) (fun _ _ _ h => h) (Or.inl ⟨by rfl, fun wx hx => by simp [go_sem, syF]⟩) hS ?_
  simp only [Act.put, List.getElem_toArray, List.getElem_cons_succ, List.getElem_cons_zero, List.setIfInBounds_toArray, List.set_cons_zero, List.set_cons_succ]
  refine wpAnyH_take (i := 4) (v := .pointer (some ⟨gd, 0, none⟩)) rfl (by kernel_rfl) (by kernel_rfl) (by kernel_rfl) (fun _ _ _ h => h) (Or.inl ⟨by rfl, fun wx hx => by simp [go_sem]⟩) hS ?_
  simp only [Act.put, List.getElem_toArray, List.getElem_cons_succ, List.getElem_cons_zero, List.setIfInBounds_toArray, List.set_cons_zero, List.set_cons_succ]
  refine wpAnyH_take (i := 7) (v := .agg (ctC k gen (.slice a1 n1 c1) u).toArray) rfl (by kernel_rfl) (by kernel_rfl) (by kernel_rfl) (fun _ _ _ h => h) (Or.inl ⟨by rfl, fun wx hx => by exact load_run 67 (.tmp 4) rfl g4 0 rfl (ctC k gen (.slice a1 n1 c1) u) _ hx.range Tryd.underlying67 rfl (info_ct _ _ _ _)⟩) hS ?_
  simp only [Act.put, List.getElem_toArray, List.getElem_cons_succ, List.getElem_cons_zero, List.setIfInBounds_toArray, List.set_cons_zero, List.set_cons_succ]
  refine wpAnyH_enter 5 (by kernel_rfl) rfl (by rfl) (f := 29) (args := #[.pointer (some ⟨gd, 0, none⟩)]) (by simp [go_sem]) (HSZ.out _ HBZ.out) ?_
  rintro e0 y6 ⟨rfl, hy6⟩
  have hy7 := hy6.symm
  clear hy6
  subst hy7
  refine ⟨_, rfl, hS, ?_⟩
  simp only [Act.put, List.getElem_toArray, List.getElem_cons_succ, List.getElem_cons_zero, List.setIfInBounds_toArray, List.set_cons_zero, List.set_cons_succ]
  refine wpAnyH_take (i := 6) (v := .int .i64 (hs : Int)) rfl (by kernel_rfl) (by kernel_rfl) (by kernel_rfl) (fun _ _ _ h => h) (Or.inl ⟨by rfl, fun wx hx => by simp [go_sem, f2]⟩) hS ?_
  simp only [Act.put, List.getElem_toArray, List.getElem_cons_succ, List.getElem_cons_zero, List.setIfInBounds_toArray, List.set_cons_zero, List.set_cons_succ]
  refine wpAnyH_take (i := 8) (v := .agg (lgC gd hs 0 k gen (.slice a1 n1 c1) u).toArray) rfl (by kernel_rfl) (by kernel_rfl) (by kernel_rfl) (fun _ _ _ h => h) (Or.inl ⟨by rfl, fun wx hx => by exact build_op _ _ 91 [(0, .tmp 22), (1, .tmp 24), (2, .tmp 27), (4, .tmp 28)] rfl _ (built_lg _ _ _ _ _ _ _ _ _ rfl) _⟩) hS ?_
  simp only [Act.put, List.getElem_toArray, List.getElem_cons_succ, List.getElem_cons_zero, List.setIfInBounds_toArray, List.set_cons_zero, List.set_cons_succ]
  have hz6 := below_alloc y5 (.cells (lgC gd hs 0 k gen (.slice a1 n1 c1) u).toArray 91)
  have hb6 : Blk (y5.alloc (.cells (lgC gd hs 0 k gen (.slice a1 n1 c1) u).toArray 91)) y5.heap.size (lgC gd hs 0 k gen (.slice a1 n1 c1) u) 91 := Blk.new _ _ _
  have hS6 := hS.below hz6 hS.lt
  refine wpAnyH_step 9 (.pointer (some ⟨y5.heap.size, 0, none⟩)) (y5.alloc (.cells (lgC gd hs 0 k gen (.slice a1 n1 c1) u).toArray 91)) (by kernel_rfl) rfl (by rfl) (box_agg _ _ 91 (.tmp 29) _ rfl rfl _) hS6 ?_
  clear hS
  have hS := hS6
  clear hS6
  simp only [Act.put, List.getElem_toArray, List.getElem_cons_succ, List.getElem_cons_zero, List.setIfInBounds_toArray, List.set_cons_zero, List.set_cons_succ]
  generalize y5.alloc (.cells (lgC gd hs 0 k gen (.slice a1 n1 c1) u).toArray 91) = y6 at *
  obtain ⟨lg, HLG⟩ : ∃ g, Hid (g = y5.heap.size) := ⟨_, rfl⟩
  rw [← HLG.out] at hb6 ⊢
  refine wpAnyH_take (i := 10) (v := .pointer (some ⟨lg, 0, none⟩)) rfl (by kernel_rfl) (by kernel_rfl) (by kernel_rfl) (fun _ _ _ h => h) (Or.inl ⟨by rfl, fun wx hx => by simp [go_sem]⟩) hS ?_
  simp only [Act.put, List.getElem_toArray, List.getElem_cons_succ, List.getElem_cons_zero, List.setIfInBounds_toArray, List.set_cons_zero, List.set_cons_succ]
  refine wpAnyH_done (by kernel_rfl) ?_ _
  have HLB : Hid (Blk y6 lg (lgC gd hs 0 k gen (.slice a1 n1 c1) u) 91) := hb6
  have HBX : Hid (Below w.heap.size w y6) := HBZ.out.trans (hz6.mono HBZ.out.size)
  have HBV : Hid (Below y2.heap.size y2 y6) := HBY.out.trans (hz6.mono HBY.out.size)
  have d1 : y6.cell? ⟨g4, 1, none⟩ = some (.int .u64 (gen : Int)) := hS.cell 1
  have d2 : y6.cell? ⟨g4, 2, none⟩ = some (.slice a1 n1 c1) := hS.cell 2
  have HLW : Hid (w.heap.size ≤ lg) := by rw [HLG.out]; exact HBZ.out.size
  clear hb6 hz6 hS HBY HBZ HLG f2 f1 HSZ
  have HNP : Hid (¬ P lg) := fun h => by have h1 := HLT.out lg h; have h2 := HLW.out; omega
  have HD6 : Hid (DkIs y6 gd P D) := HDK.out.same14 (fun z hz => HBX.out.block z (HLT.out z hz))
  have HK6 : Hid (KOk y6) := HK.out.below HBX.out HK.out.lt
  have HPB : Hid (pickB (dumpD D) = (k, gen)) := by show _ = _; rw [← HB.out]; exact HLK.out.pk
  have HK1 : Hid (k ≤ 1 ∧ gen < 18446744073709551616) := by have h := pick_lt (dumpD D); rw [HPB.out] at h; exact ⟨h.2, h.1⟩
  have HMV : Hid (∀ {W P'}, Mut (Un P (fun z => z = lg)) y6 W → Grew y6 P P' → Mut P w W ∧ Grew w P P') := fun {W P'} hm hg => ⟨(mut_below HBX.out P).trans (fun z hz h => h.elim id (fun e => absurd hz (by have := HLW.out; omega))) hm, fun z hz => (hg z hz).imp id (fun h => Nat.le_trans HBX.out.size h)⟩
  by_cases hg : gen = 0
  · subst hg
    have HG : Hid (openG D = (anewS hs 0 1 [], ⟨0, 1, []⟩)) := by show _ = _; rw [openG, HPB.out, if_pos rfl, HHH.out]
    have HXE : Hid (X = (runJ D (anewS hs 0 1 [])).2 ∧ DX = (runJ D (anewS hs 0 1 [])).1 ∧ JX = ⟨0, 1, []⟩) := by rw [HX.out, HDX.out, HJX.out, HG.out]; exact ⟨rfl, rfl, rfl⟩
    have HNX : Hid (Calls Tryd.prog 55 #[.pointer (some ⟨lg, 0, none⟩), .int .i64 0, .int .u64 1, .slice none 0 0] y6 fun e w' => e = .returned (.int .i64 X) ∧ ∃ P', DkIs w' gd P' DX ∧ (X = 0 → Blk w' lg (lgC gd hs 0 0 1 (.slice none 0 0) 1) 91) ∧ Mut (Un P (fun z => z = lg)) y6 w' ∧ Grew y6 P P') := by
      rw [HXE.out.1, HXE.out.2.1]
      exact jBegin_any (w := y6) hs k 0 u 0 1 _ (.slice none 0 0) [] HK6.out HD6.out HWT.out HLB.out HNP.out (by decide) (by decide) (by have := HBD.out; omega) HBD.out.2.1 (by have h1 := HBD.out; show 1 + 0 ≤ hs; omega) (fun W _ => readsL_nil W)
    have tk0 : Hid True := trivial
    go_wp2_with (first
      | (clear tk0; go_at_call 55; refine HNX.out.mono ?_; rintro e0 y7 ⟨rfl, P3, hd3, hl3, hm3, hg3⟩
         have HR3 : Hid (DkIs y7 gd P3 DX ∧ (X = 0 → Blk y7 lg (lgC gd hs 0 0 1 (.slice none 0 0) 1) 91) ∧ Mut P w y7 ∧ Grew w P P3) := ⟨hd3, hl3, HMV.out hm3 hg3⟩
         clear hd3 hl3 hm3 hg3))
    rotate_left
    · refine bodyPost_ret (results_tmp2 rfl _ _ _) rfl ?_
      have hx0 : X = 0 := by first | assumption | (rename_i h; simpa using h)
      have hlm : LgM y7 lg gd n (.slice none 0 0) [] JX := by
        rw [HXE.out.2.2]
        exact ⟨by rw [← HHS.out]; exact HR3.out.2.1 hx0, TxJ.nil (Nat.zero_le _)⟩
      refine ⟨P3, _, by rw [hx0]; rfl, HR3.out.1, HR3.out.2.2.1, HR3.out.2.2.2, fun _ => ⟨lg, _, rfl, ⟨_, _, hlm, rfl⟩, fun z hz => ⟨?_, pk_ap HR3.out.1 hlm z hz⟩⟩⟩
      rcases hz with rfl | h | ⟨uu, huu, h⟩
      · exact HLW.out
      · cases h
      · cases huu
    · refine bodyPost_ret (results_tmp2 rfl _ _ _) rfl ?_
      have hx0 : ¬ X = 0 := by first | assumption | (rename_i h; simpa using h)
      exact ⟨P3, _, rfl, HR3.out.1, HR3.out.2.2.1, HR3.out.2.2.2, fun h => absurd h hx0⟩
  · have hgz : ¬ ((gen : Int) = 0) := by omega
    obtain ⟨half, HHF⟩ : ∃ h, Hid (h = halfB b k) := ⟨_, rfl⟩
    obtain ⟨l, HL⟩ : ∃ l, Hid (l = (recsOf gen half).1) := ⟨_, rfl⟩
    have HTX : Hid (TxJ y1.heap.size (.slice a1 n1 c1) us l y6) := by
      have h := (HLK.out.nz hg).1.next HBV.out
      rw [← HHF.out, ← HL.out] at h
      exact h
    have HUU : Hid (u = 1 + secL l ∧ 1 + secL l ≤ hs) := by
      have h1 := (HLK.out.nz hg).2.1
      have h2 : half.length = 64 * hs := by rw [HHF.out, len_half HK1.out.1, HNH.out]
      have h3 := recs_inv (gen := gen) (half := half) (half.length / 64) 64 0 (by have := HBD.out; omega)
      rw [← HHF.out] at h1
      have h4 : (recsOf gen half).2 = 64 + sizeL (recsOf gen half).1 := h3.2.1
      have h5 : (recsOf gen half).2 ≤ half.length := h3.2.2.1
      rw [← HL.out, sizeL_eq] at h4
      exact ⟨by omega, by omega⟩
    have HCL : Hid (cl = decide (∀ z ∈ half.drop (recsOf gen half).2, z = 0)) := by show _ = _; rw [HHF.out]; exact (HLK.out.nz hg).2.2
    have HBQ : Hid (w.heap.size ≤ y1.heap.size) := HBW.out.size
    have HQG : Hid (∀ z, lgQ lg (.slice a1 n1 c1) us z → w.heap.size ≤ z) := fun z hz => by
      rcases hz with rfl | h | ⟨uu, huu, h⟩
      · exact HLW.out
      · exact Nat.le_trans HBQ.out (HTX.out.ge_all.1 z h).1
      · exact Nat.le_trans HBQ.out (HTX.out.ge_all.2 uu huu z h).1
    have hGG : openG D = if ∀ z ∈ half.drop (recsOf gen half).2, z = 0 then ([], ⟨k, gen, l⟩) else (anewS hs (1 - k) (gN gen) l, ⟨1 - k, gN gen, l⟩) := by
      rw [openG, HPB.out, if_neg hg, HHH.out, ← HB.out, ← HHF.out, ← HL.out]
    clear HLK HBW HBV
    cases cl with
    | true =>
      have HXE : Hid (X = 0 ∧ DX = D ∧ JX = ⟨k, gen, l⟩) := by
        rw [HX.out, HDX.out, HJX.out, hGG, if_pos (of_decide_eq_true HCL.out.symm)]
        exact ⟨rfl, rfl, rfl⟩
      clear hGG HCL
      go_wp2
      refine bodyPost_ret (results_tmp2 rfl _ _ _) rfl ?_
      have hlm : LgM y6 lg gd n (.slice a1 n1 c1) us JX := by
        rw [HXE.out.2.2]
        exact ⟨by rw [← HHS.out]; show Blk y6 lg (lgC gd hs 0 k gen _ (1 + secL l)) _; rw [← HUU.out.1]; exact HLB.out, HTX.out.lower (Nat.zero_le _)⟩
      refine ⟨P, _, by rw [HXE.out.1]; rfl, by rw [HXE.out.2.1]; exact HD6.out, mut_below HBX.out P, Grew.refl _ _, fun _ => ⟨lg, _, rfl, ⟨_, _, hlm, rfl⟩, fun z hz => ⟨HQG.out z hz, pk_ap HD6.out hlm z hz⟩⟩⟩
    | false =>
      have HXE : Hid (X = (runJ D (anewS hs (1 - k) (gN gen) l)).2 ∧ DX = (runJ D (anewS hs (1 - k) (gN gen) l)).1 ∧ JX = ⟨1 - k, gN gen, l⟩) := by
        rw [HX.out, HDX.out, HJX.out, hGG, if_neg (of_decide_eq_false HCL.out.symm)]
        exact ⟨rfl, rfl, rfl⟩
      clear hGG HCL
      have HNR : Hid (∀ z, w.heap.size ≤ z → z ≠ lg → ¬ Un P (fun z => z = lg) z) := fun z hz hn h => h.elim (fun hp => absurd (HLT.out z hp) (by omega)) hn
      have HNV : Hid (∀ z, (Value.slice a1 n1 c1).ownBlock = some z → z ≠ lg) := fun z hz e => by
        subst e
        exact ownX_ne_lg HTX.out.own HLB.out hz
      have HNU : Hid (∀ uu ∈ us, ∀ z, uu.ownBlock = some z → z ≠ lg) := fun uu huu z hz e => by
        subst e
        obtain ⟨i, hi, rfl⟩ := List.getElem_of_mem huu
        exact ownB_ne_lg (HTX.out.good i _ (List.getElem?_eq_getElem hi)) HLB.out hz
      have HNX : Hid (Calls Tryd.prog 56 #[.pointer (some ⟨lg, 0, none⟩), .slice a1 n1 c1] y6 fun e w' => e = .returned (.int .i64 X) ∧ ∃ P', DkIs w' gd P' DX ∧ (X = 0 → Blk w' lg (lgC gd hs 0 (1 - k) (gN gen) (.slice a1 n1 c1) (1 + secL l)) 91) ∧ Mut (Un P (fun z => z = lg)) y6 w' ∧ Grew y6 P P') := by
        rw [HXE.out.1, HXE.out.2.1]
        exact jNext_any (w := y6) hs k gen u _ (.slice a1 n1 c1) l HK6.out HD6.out HWT.out HLB.out HNP.out HK1.out.1 (by have := HBD.out; omega) HBD.out.2.1 HUU.out.2 (HTX.out.stN (fun z hz => HNR.out z (Nat.le_trans HBQ.out (HTX.out.ge_all.1 z hz).1) (HNV.out z hz)) (fun uu huu z hz => HNR.out z (Nat.le_trans HBQ.out (HTX.out.ge_all.2 uu huu z hz).1) (HNU.out uu huu z hz)))
      have tk0 : Hid True := trivial
      go_wp2_with (first
        | (clear tk0; go_at_call 56; refine HNX.out.mono ?_; rintro e0 y7 ⟨rfl, P3, hd3, hl3, hm3, hg3⟩
           have HR3 : Hid (DkIs y7 gd P3 DX ∧ (X = 0 → Blk y7 lg (lgC gd hs 0 (1 - k) (gN gen) (.slice a1 n1 c1) (1 + secL l)) 91) ∧ Mut P w y7 ∧ Grew w P P3) := ⟨hd3, hl3, HMV.out hm3 hg3⟩
           have HM3 : Hid (Mut (Un P (fun z => z = lg)) y6 y7) := hm3
           clear hd3 hl3 hm3 hg3))
      rotate_left
      · refine bodyPost_ret (results_tmp2 rfl _ _ _) rfl ?_
        have hx0 : X = 0 := by first | assumption | (rename_i h; simpa using h)
        have htx : TxJ 0 (.slice a1 n1 c1) us l y7 := (HTX.out.lower (Nat.zero_le _)).sameQ HM3.out.size (fun z hz => HM3.out.block z (HTX.out.ge_all.1 z hz).2 (HNR.out z (Nat.le_trans HBQ.out (HTX.out.ge_all.1 z hz).1) (HNV.out z hz))) (fun uu huu z hz => HM3.out.block z (HTX.out.ge_all.2 uu huu z hz).2 (HNR.out z (Nat.le_trans HBQ.out (HTX.out.ge_all.2 uu huu z hz).1) (HNU.out uu huu z hz)))
        have hlm : LgM y7 lg gd n (.slice a1 n1 c1) us JX := by
          rw [HXE.out.2.2]
          exact ⟨by rw [← HHS.out]; exact HR3.out.2.1 hx0, htx⟩
        exact ⟨P3, _, by rw [hx0]; rfl, HR3.out.1, HR3.out.2.2.1, HR3.out.2.2.2, fun _ => ⟨lg, _, rfl, ⟨_, _, hlm, rfl⟩, fun z hz => ⟨HQG.out z hz, pk_ap HR3.out.1 hlm z hz⟩⟩⟩
      · refine bodyPost_ret (results_tmp2 rfl _ _ _) rfl ?_
        have hx0 : ¬ X = 0 := by first | assumption | (rename_i h; simpa using h)
        exact ⟨P3, _, rfl, HR3.out.1, HR3.out.2.2.1, HR3.out.2.2.2, fun h => absurd h hx0⟩
end Go.Proofs.YtfdggjadndghlaaDoor
/- JournalReads, over what journal's functions do (layer 14). -/
namespace Go.Proofs.YtfdggjadndghlaaDoor
open Go.RowKit
set_option maxRecDepth 100000
theorem rdL14_len (b : Bs) : 64 * (rdL14 b).length ≤ b.length := by
  unfold rdL14
  split
  · unfold readJ
    split
    · exact Nat.zero_le _
    · rename_i h1 h2
      have hk : (pickB b).1 ≤ 1 := by unfold pickB; split; exact Nat.le_refl _; exact Nat.zero_le _
      have h5 := (recs_inv (gen := (pickB b).2) (half := halfB b (pickB b).1) ((halfB b (pickB b).1).length / 64) 64 0 (by rw [len_half hk, halfN_eq]; have := h1.2; omega)).2.2.2.2
      have h6 := half_le b
      have h7 := len_half (b := b) hk
      show 64 * (recsL (pickB b).2 (halfB b (pickB b).1) ((halfB b (pickB b).1).length / 64) 64 0).1.length ≤ _
      omega
  · exact Nat.zero_le _
theorem rdL14_size (b : Bs) : sizeL (rdL14 b) ≤ b.length := by
  unfold rdL14
  split
  · unfold readJ
    split
    · exact Nat.zero_le _
    · rename_i h1 h2
      have hk : (pickB b).1 ≤ 1 := by unfold pickB; split; exact Nat.le_refl _; exact Nat.zero_le _
      have h5 := recs_inv (gen := (pickB b).2) (half := halfB b (pickB b).1) ((halfB b (pickB b).1).length / 64) 64 0 (by rw [len_half hk, halfN_eq]; have := h1.2; omega)
      have h6 := half_le b
      have h7 := len_half (b := b) hk
      have h8 := h5.2.1
      have h9 := h5.2.2.1
      show sizeL (recsL (pickB b).2 (halfB b (pickB b).1) ((halfB b (pickB b).1).length / 64) 64 0).1 ≤ _
      omega
  · exact Nat.zero_le _
set_option maxRecDepth 100000 in
set_option maxHeartbeats 4000000 in
theorem journalReads_law {Lg : World → Nat → (Nat → Prop) → Nat → Nat → JnT → Prop} (OPS : JnOps Lg) (vb vx : Value) (b x : Bs) (gen seq : Nat) (hg : gen < 18446744073709551616) (hq : seq < 18446744073709551616) (w : World) (hK : KOk w) (hb : Reads w vb b) (hx : Reads w vx x) : Calls Tryd.prog 3 #[vb, .int .u64 (gen : Int), .int .u64 (seq : Int), vx] w fun e w' => e = .returned (.bool true) ∧ Below w.heap.size w w' := by
  obtain ⟨ab, cb0, hvb⟩ : ∃ a c, vb = .slice a b.length c := by obtain ⟨a, c, hv, _⟩ := hb; exact ⟨a, c, hv⟩
  obtain ⟨ax, cx, hvx⟩ : ∃ a c, vx = .slice a x.length c := by obtain ⟨a, c, hv, _⟩ := hx; exact ⟨a, c, hv⟩
  obtain ⟨nb, HNB⟩ : ∃ n, Hid (n = b.length) := ⟨_, rfl⟩
  obtain ⟨nx, HNX⟩ : ∃ n, Hid (n = x.length) := ⟨_, rfl⟩
  rw [← HNB.out] at hvb
  rw [← HNX.out] at hvx
  subst hvb hvx
  have HB : Hid (Reads w (.slice ab nb cb0) b) := hb
  have HX : Hid (Reads w (.slice ax nx cx) x) := hx
  have HG : Hid (gen < 18446744073709551616) := hg
  have HQ : Hid (seq < 18446744073709551616) := hq
  have HK0 : Hid (KOk w) := hK
  have HBW : Hid (Below w.heap.size w w) := Below.refl _ _
  have HWK : Hid (∀ W, KOk W → Calls Tryd.prog 9 #[] W fun e w' => e = .returned (.bool true) ∧ Below W.heap.size W w') := fun W h => works14_any OPS W h
  clear hb hx hg hq hK
  by_cases hl1 : 6400 < nb
  · have q1 : (6400 : Int) < (nb : Int) := by omega
    go_enter Tryd.func3, Tryd.ntmps3
    have tk0 : Hid True := trivial
    go_wp2_with (first
        | (clear tk0; go_at_call 9; refine (HWK.out _ (HK0.out.below HBW.out HK0.out.lt)).mono ?_; rintro e0 y1 ⟨rfl, hz⟩
           replace HBW : Hid (Below w.heap.size w y1) := HBW.out.trans (hz.mono HBW.out.size)
           clear hz ))
    go_ret
    exact ⟨rfl, HBW.out⟩
  by_cases hl2 : 4000 < nx
  · have q1 : ¬ ((6400 : Int) < (nb : Int)) := by omega
    have q2 : (4000 : Int) < (nx : Int) := by omega
    go_enter Tryd.func3, Tryd.ntmps3
    have tk0 : Hid True := trivial
    go_wp2_with (first
        | (clear tk0; go_at_call 9; refine (HWK.out _ (HK0.out.below HBW.out HK0.out.lt)).mono ?_; rintro e0 y1 ⟨rfl, hz⟩
           replace HBW : Hid (Below w.heap.size w y1) := HBW.out.trans (hz.mono HBW.out.size)
           clear hz ))
    go_ret
    exact ⟨rfl, HBW.out⟩
  have q1 : ¬ ((6400 : Int) < (nb : Int)) := by omega
  have q2 : ¬ ((4000 : Int) < (nx : Int)) := by omega
  have HXL : Hid (x.length ≤ 100000 ∧ x.length < 90000000) := by rw [← HNX.out]; exact ⟨by omega, by omega⟩
  have HBL : Hid (b.length ≤ 6400) := by show _ ≤ _; rw [← HNB.out]; omega
  obtain ⟨rg, HRG⟩ : ∃ g, Hid (g = rdG14 b) := ⟨_, rfl⟩
  obtain ⟨rl, HRL⟩ : ∃ g, Hid (g = rdL14 b) := ⟨_, rfl⟩
  obtain ⟨rx, HRX⟩ : ∃ g, Hid (g = rdX14 b) := ⟨_, rfl⟩
  obtain ⟨ck, HCK⟩ : ∃ g, Hid (g = chkX x) := ⟨_, rfl⟩
  have HJR : Hid (∀ W, KOk W → Reads W (.slice ab nb cb0) b → Calls Tryd.prog 10 #[.slice ab nb cb0] W fun e w' => ∃ lv, e = .returned (.tuple #[.int .u64 (rg : Int), lv, .int .i64 rx]) ∧ ReadsL w' lv rl ∧ Below W.heap.size W w') := fun W hk h => by rw [HRG.out, HRX.out, HRL.out]; exact OPS.read _ b W HBL.out hk h
  have HNR : Hid (∀ W, Reads W (.slice ab nb cb0) b → Calls Tryd.prog 11 #[.slice ab nb cb0] W fun e w' => ∃ lv, e = .returned (.tuple #[.int .u64 (rg : Int), lv, .int .i64 rx]) ∧ ReadsL w' lv rl ∧ Below W.heap.size W w') := fun W h => by rw [HRG.out, HRX.out, HRL.out]; exact nRead_any _ b (Nat.lt_of_le_of_lt HBL.out (by decide)) W h
  have HJC : Hid (∀ W, Reads W (.slice ax nx cx) x → Calls Tryd.prog 20 #[.slice ax nx cx] W fun e w' => e = .returned (.int .i64 ck) ∧ Below W.heap.size W w') := fun W h => by rw [HCK.out]; exact OPS.check _ x W h
  have HNC : Hid (∀ W, Reads W (.slice ax nx cx) x → Calls Tryd.prog 21 #[.slice ax nx cx] W fun e w' => e = .returned (.int .i64 ck) ∧ w' = W) := fun W h => by rw [HCK.out]; exact nCheck_any _ x W h
  have HRL3 : Hid (rl.length ≤ 1000) := by show _ ≤ _; rw [HRL.out]; have h1 := rdL14_len b; have h2 := HBL.out; omega
  have HRZ3 : Hid (sizeL rl ≤ 1000000) := by show _ ≤ _; rw [HRL.out]; have h1 := rdL14_size b; have h2 := HBL.out; omega
  have HRLL : Hid (rl.length < 4611686018427387904) := Nat.lt_of_le_of_lt HRL3.out (by decide)
  have HSM : Hid (∀ (W : World) (va vb : Value), ReadsL W va rl → ReadsL W vb rl → Calls Tryd.prog 12 #[va, vb] W fun e w' => e = .returned (.bool true) ∧ Below W.heap.size W w') := fun W va vb h1 h2 => by
    have h := nSame_any va vb rl rl W h1 h2 HRLL.out
    rw [decide_eq_true rfl] at h
    exact h
  clear hl1 hl2
  by_cases hm : nb % 64 = 0 ∧ nb ≠ 0
  case neg =>
    obtain ⟨le, hle, HLD0⟩ : ∃ le : Int, le ≠ 0 ∧ ∀ W, Reads W (.slice ab nb cb0) b → Calls Tryd.prog 22 #[.slice ab nb cb0] W fun e w' => e = .returned (.tuple #[.pointer none, .int .i64 le]) ∧ Below W.heap.size W w' := by
      by_cases h0 : nb % 64 = 0
      · have hb0 : b = [] := List.eq_nil_of_length_eq_zero (by rw [← HNB.out]; exact Decidable.byContradiction (fun h => hm ⟨h0, h⟩))
        exact ⟨2, by decide, fun W h => by rw [hb0] at h; exact dkLoad_range W _ h⟩
      · exact ⟨1, by decide, fun W h => dkLoad_arg W _ b h (by rw [← HNB.out]; exact h0)⟩
    have HLD : Hid (∀ W, Reads W (.slice ab nb cb0) b → Calls Tryd.prog 22 #[.slice ab nb cb0] W fun e w' => e = .returned (.tuple #[.pointer none, .int .i64 le]) ∧ Below W.heap.size W w') := HLD0
    have q3 : (le == 0) = false := by rw [beq_eq_false_iff_ne]; exact hle
    clear hle HLD0 hm
    go_enter Tryd.func3, Tryd.ntmps3
    have tk0 : Hid True := trivial
    have tk1 : Hid True := trivial
    have tk2 : Hid True := trivial
    have tk3 : Hid True := trivial
    have tk4 : Hid True := trivial
    have tk5 : Hid True := trivial
    have tk6 : Hid True := trivial
    have tk7 : Hid True := trivial
    have tk8 : Hid True := trivial
    have tk9 : Hid True := trivial
    have tk10 : Hid True := trivial
    have tk11 : Hid True := trivial
    have tk12 : Hid True := trivial
    have tk13 : Hid True := trivial
    have tk14 : Hid True := trivial
    have tk15 : Hid True := trivial
    go_wp2_with (first
        | (clear tk0; go_at_call 10; refine (HJR.out _ (HK0.out.below HBW.out HK0.out.lt) HB.out).mono ?_; rintro e0 y1 ⟨l1, rfl, hr, hz⟩
           replace HB : Hid (Reads y1 (.slice ab nb cb0) b) := HB.out.below hz
           replace HX : Hid (Reads y1 (.slice ax nx cx) x) := HX.out.below hz
           replace HBW : Hid (Below w.heap.size w y1) := HBW.out.trans (hz.mono HBW.out.size)
           have HL1 : Hid (ReadsL y1 l1 rl) := hr
           clear hz hr)
        | (clear tk1; go_at_call 11; refine (HNR.out _ HB.out).mono ?_; rintro e0 y2 ⟨l2, rfl, hr, hz⟩
           replace HB : Hid (Reads y2 (.slice ab nb cb0) b) := HB.out.below hz
           replace HX : Hid (Reads y2 (.slice ax nx cx) x) := HX.out.below hz
           replace HL1 : Hid (ReadsL y2 l1 rl) := HL1.out.below hz
           replace HBW : Hid (Below w.heap.size w y2) := HBW.out.trans (hz.mono HBW.out.size)
           have HL2 : Hid (ReadsL y2 l2 rl) := hr
           clear hz hr)
        | (clear tk2; go_at_call 12; refine (HSM.out _ _ _ HL1.out HL2.out).mono ?_; rintro e0 y3 ⟨rfl, hz⟩
           replace HB : Hid (Reads y3 (.slice ab nb cb0) b) := HB.out.below hz
           replace HX : Hid (Reads y3 (.slice ax nx cx) x) := HX.out.below hz
           replace HL1 : Hid (ReadsL y3 l1 rl) := HL1.out.below hz
           replace HL2 : Hid (ReadsL y3 l2 rl) := HL2.out.below hz
           replace HBW : Hid (Below w.heap.size w y3) := HBW.out.trans (hz.mono HBW.out.size)
           clear hz HL1)
        | (clear tk3; go_at_call 14; refine (OPS.head gen _ HG.out (HK0.out.below HBW.out HK0.out.lt)).mono ?_; rintro e0 y4 ⟨va0, rfl, hr, hz⟩
           replace HB : Hid (Reads y4 (.slice ab nb cb0) b) := HB.out.below hz
           replace HX : Hid (Reads y4 (.slice ax nx cx) x) := HX.out.below hz
           replace HL2 : Hid (ReadsL y4 l2 rl) := HL2.out.below hz
           replace HBW : Hid (Below w.heap.size w y4) := HBW.out.trans (hz.mono HBW.out.size)
           have HA0 : Hid (Reads y4 va0 (headB gen)) := hr
           clear hz hr)
        | (clear tk4; go_at_call 15; refine (nHead_any gen HG.out _).mono ?_; rintro e0 y5 ⟨vb0, rfl, hr, hz⟩
           replace HB : Hid (Reads y5 (.slice ab nb cb0) b) := HB.out.below hz
           replace HX : Hid (Reads y5 (.slice ax nx cx) x) := HX.out.below hz
           replace HL2 : Hid (ReadsL y5 l2 rl) := HL2.out.below hz
           replace HA0 : Hid (Reads y5 va0 (headB gen)) := HA0.out.below hz
           replace HBW : Hid (Below w.heap.size w y5) := HBW.out.trans (hz.mono HBW.out.size)
           have HC0 : Hid (Reads y5 vb0 (headB gen)) := hr
           clear hz hr)
        | (clear tk5; go_at_call 13; refine ((same_any _ _ _ _ _ HA0.out HC0.out)).mono ?_; rintro e0 y6 ⟨he, hy⟩
           rw [decide_eq_true rfl] at he
           subst he hy
           clear HA0 HC0)
        | (clear tk6; go_at_call 16; refine (OPS.record gen seq _ x _ HG.out HQ.out HXL.out.1 (HK0.out.below HBW.out HK0.out.lt) HX.out).mono ?_; rintro e0 y7 ⟨va1, rfl, hr, hz⟩
           replace HB : Hid (Reads y7 (.slice ab nb cb0) b) := HB.out.below hz
           replace HX : Hid (Reads y7 (.slice ax nx cx) x) := HX.out.below hz
           replace HL2 : Hid (ReadsL y7 l2 rl) := HL2.out.below hz
           replace HBW : Hid (Below w.heap.size w y7) := HBW.out.trans (hz.mono HBW.out.size)
           have HA1 : Hid (Reads y7 va1 (recB gen seq x)) := hr
           clear hz hr)
        | (clear tk7; go_at_call 17; refine (nRecord_any gen seq HG.out HQ.out _ x HXL.out.2 _ HX.out).mono ?_; rintro e0 y8 ⟨vb1, rfl, hr, hz⟩
           replace HB : Hid (Reads y8 (.slice ab nb cb0) b) := HB.out.below hz
           replace HX : Hid (Reads y8 (.slice ax nx cx) x) := HX.out.below hz
           replace HL2 : Hid (ReadsL y8 l2 rl) := HL2.out.below hz
           replace HA1 : Hid (Reads y8 va1 (recB gen seq x)) := HA1.out.below hz
           replace HBW : Hid (Below w.heap.size w y8) := HBW.out.trans (hz.mono HBW.out.size)
           have HC1 : Hid (Reads y8 vb1 (recB gen seq x)) := hr
           clear hz hr)
        | (clear tk8; go_at_call 13; refine ((same_any _ _ _ _ _ HA1.out HC1.out)).mono ?_; rintro e0 y9 ⟨he, hy⟩
           rw [decide_eq_true rfl] at he
           subst he hy
           clear HA1 HC1)
        | (clear tk9; go_at_call 18; refine (OPS.text gen seq _ x _ HG.out HQ.out HXL.out.1 (HK0.out.below HBW.out HK0.out.lt) HX.out).mono ?_; rintro e0 y10 ⟨va2, rfl, hr, hz⟩
           replace HB : Hid (Reads y10 (.slice ab nb cb0) b) := HB.out.below hz
           replace HX : Hid (Reads y10 (.slice ax nx cx) x) := HX.out.below hz
           replace HL2 : Hid (ReadsL y10 l2 rl) := HL2.out.below hz
           replace HBW : Hid (Below w.heap.size w y10) := HBW.out.trans (hz.mono HBW.out.size)
           have HA2 : Hid (Reads y10 va2 (textB gen seq x)) := hr
           clear hz hr)
        | (clear tk10; go_at_call 19; refine (nText_any gen seq HG.out HQ.out _ x (Nat.lt_trans HXL.out.2 (by decide)) _ HX.out).mono ?_; rintro e0 y11 ⟨vb2, rfl, hr, hz⟩
           replace HB : Hid (Reads y11 (.slice ab nb cb0) b) := HB.out.below hz
           replace HX : Hid (Reads y11 (.slice ax nx cx) x) := HX.out.below hz
           replace HL2 : Hid (ReadsL y11 l2 rl) := HL2.out.below hz
           replace HA2 : Hid (Reads y11 va2 (textB gen seq x)) := HA2.out.below hz
           replace HBW : Hid (Below w.heap.size w y11) := HBW.out.trans (hz.mono HBW.out.size)
           have HC2 : Hid (Reads y11 vb2 (textB gen seq x)) := hr
           clear hz hr)
        | (clear tk11; go_at_call 13; refine ((same_any _ _ _ _ _ HA2.out HC2.out)).mono ?_; rintro e0 y12 ⟨he, hy⟩
           rw [decide_eq_true rfl] at he
           subst he hy
           clear HA2 HC2)
        | (clear tk12; go_at_call 20; refine (HJC.out _ HX.out).mono ?_; rintro e0 y13 ⟨rfl, hz⟩
           replace HB : Hid (Reads y13 (.slice ab nb cb0) b) := HB.out.below hz
           replace HX : Hid (Reads y13 (.slice ax nx cx) x) := HX.out.below hz
           replace HL2 : Hid (ReadsL y13 l2 rl) := HL2.out.below hz
           replace HBW : Hid (Below w.heap.size w y13) := HBW.out.trans (hz.mono HBW.out.size)
           clear hz )
        | (clear tk13; go_at_call 21; refine (HNC.out _ HX.out).mono ?_; rintro e0 y14 ⟨rfl, hy⟩; subst hy)
        | (clear tk14; go_at_call 22; refine (HLD.out _ HB.out).mono ?_; rintro e0 y15 ⟨rfl, hz⟩
           replace HB : Hid (Reads y15 (.slice ab nb cb0) b) := HB.out.below hz
           replace HX : Hid (Reads y15 (.slice ax nx cx) x) := HX.out.below hz
           replace HL2 : Hid (ReadsL y15 l2 rl) := HL2.out.below hz
           replace HBW : Hid (Below w.heap.size w y15) := HBW.out.trans (hz.mono HBW.out.size)
           clear hz )
        | (clear tk15; go_at_call 9; refine (HWK.out _ (HK0.out.below HBW.out HK0.out.lt)).mono ?_; rintro e0 y16 ⟨rfl, hz⟩
           replace HB : Hid (Reads y16 (.slice ab nb cb0) b) := HB.out.below hz
           replace HX : Hid (Reads y16 (.slice ax nx cx) x) := HX.out.below hz
           replace HL2 : Hid (ReadsL y16 l2 rl) := HL2.out.below hz
           replace HBW : Hid (Below w.heap.size w y16) := HBW.out.trans (hz.mono HBW.out.size)
           clear hz ))
    go_ret
    exact ⟨rfl, HBW.out⟩
  case pos =>
    obtain ⟨n, HN⟩ : ∃ n, Hid (n = nb / 64) := ⟨_, rfl⟩
    have hn := HN.out
    have hbn : b.length = 64 * n := by rw [← HNB.out]; omega
    have hn1 : 1 ≤ n := by omega
    have hn2 : n ≤ 100 := by have := HBL.out; omega
    have HLD : Hid (∀ W, Reads W (.slice ab nb cb0) b → Calls Tryd.prog 22 #[.slice ab nb cb0] W fun e w' => ∃ g P, e = .returned (.tuple #[.pointer (some ⟨g, 0, none⟩), .int .i64 0]) ∧ DkIs w' g P (loadD b) ∧ Below W.heap.size W w' ∧ ∀ k, P k → W.heap.size ≤ k) := fun W h => dkLoad_any W _ b n h hbn hn1 (by omega)
    have hsz : sizeD (loadD b) = n := by show b.length / 64 = n; rw [hbn, Nat.mul_div_cancel_left _ (by decide)]
    by_cases h8 : n < 8
    · have hok : ¬ okB b := fun h => by have h2 := h.2; omega
      have hrx : rx = 1 := by rw [HRX.out]; exact if_neg hok
      have HOP : Hid (∀ (W : World) (gd : Nat) (P : Nat → Prop), KOk W → DkIs W gd P (loadD b) → Calls Tryd.prog 23 #[.pointer (some ⟨gd, 0, none⟩)] W fun e w' => e = .returned (.tuple #[.pointer none, .int .i64 1]) ∧ Mut P W w') := fun W gd P hk hd => by
        refine (OPS.opens hk hd rfl (by rw [hsz]; exact hn2) (fun h => absurd h (by rw [hsz]; omega))).mono (fun e w' h => ?_)
        obtain ⟨P', lv, h1, _, h3, _, _, h6⟩ := h
        rw [h6 (by rw [hsz]; exact h8), show openX (loadD b) = 1 from if_pos (by rw [hsz]; exact h8)] at h1
        exact ⟨h1, h3⟩
      subst hrx
      clear hm hn hbn hn1 hn2 hsz hok h8
      go_enter Tryd.func3, Tryd.ntmps3
      have tk0 : Hid True := trivial
      have tk1 : Hid True := trivial
      have tk2 : Hid True := trivial
      have tk3 : Hid True := trivial
      have tk4 : Hid True := trivial
      have tk5 : Hid True := trivial
      have tk6 : Hid True := trivial
      have tk7 : Hid True := trivial
      have tk8 : Hid True := trivial
      have tk9 : Hid True := trivial
      have tk10 : Hid True := trivial
      have tk11 : Hid True := trivial
      have tk12 : Hid True := trivial
      have tk13 : Hid True := trivial
      have tk14 : Hid True := trivial
      have tk15 : Hid True := trivial
      have tk16 : Hid True := trivial
      go_wp2_with (first
          | (clear tk0; go_at_call 10; refine (HJR.out _ (HK0.out.below HBW.out HK0.out.lt) HB.out).mono ?_; rintro e0 y1 ⟨l1, rfl, hr, hz⟩
             replace HB : Hid (Reads y1 (.slice ab nb cb0) b) := HB.out.below hz
             replace HX : Hid (Reads y1 (.slice ax nx cx) x) := HX.out.below hz
             replace HBW : Hid (Below w.heap.size w y1) := HBW.out.trans (hz.mono HBW.out.size)
             have HL1 : Hid (ReadsL y1 l1 rl) := hr
             clear hz hr)
          | (clear tk1; go_at_call 11; refine (HNR.out _ HB.out).mono ?_; rintro e0 y2 ⟨l2, rfl, hr, hz⟩
             replace HB : Hid (Reads y2 (.slice ab nb cb0) b) := HB.out.below hz
             replace HX : Hid (Reads y2 (.slice ax nx cx) x) := HX.out.below hz
             replace HL1 : Hid (ReadsL y2 l1 rl) := HL1.out.below hz
             replace HBW : Hid (Below w.heap.size w y2) := HBW.out.trans (hz.mono HBW.out.size)
             have HL2 : Hid (ReadsL y2 l2 rl) := hr
             clear hz hr)
          | (clear tk2; go_at_call 12; refine (HSM.out _ _ _ HL1.out HL2.out).mono ?_; rintro e0 y3 ⟨rfl, hz⟩
             replace HB : Hid (Reads y3 (.slice ab nb cb0) b) := HB.out.below hz
             replace HX : Hid (Reads y3 (.slice ax nx cx) x) := HX.out.below hz
             replace HL1 : Hid (ReadsL y3 l1 rl) := HL1.out.below hz
             replace HL2 : Hid (ReadsL y3 l2 rl) := HL2.out.below hz
             replace HBW : Hid (Below w.heap.size w y3) := HBW.out.trans (hz.mono HBW.out.size)
             clear hz HL1)
          | (clear tk3; go_at_call 14; refine (OPS.head gen _ HG.out (HK0.out.below HBW.out HK0.out.lt)).mono ?_; rintro e0 y4 ⟨va0, rfl, hr, hz⟩
             replace HB : Hid (Reads y4 (.slice ab nb cb0) b) := HB.out.below hz
             replace HX : Hid (Reads y4 (.slice ax nx cx) x) := HX.out.below hz
             replace HL2 : Hid (ReadsL y4 l2 rl) := HL2.out.below hz
             replace HBW : Hid (Below w.heap.size w y4) := HBW.out.trans (hz.mono HBW.out.size)
             have HA0 : Hid (Reads y4 va0 (headB gen)) := hr
             clear hz hr)
          | (clear tk4; go_at_call 15; refine (nHead_any gen HG.out _).mono ?_; rintro e0 y5 ⟨vb0, rfl, hr, hz⟩
             replace HB : Hid (Reads y5 (.slice ab nb cb0) b) := HB.out.below hz
             replace HX : Hid (Reads y5 (.slice ax nx cx) x) := HX.out.below hz
             replace HL2 : Hid (ReadsL y5 l2 rl) := HL2.out.below hz
             replace HA0 : Hid (Reads y5 va0 (headB gen)) := HA0.out.below hz
             replace HBW : Hid (Below w.heap.size w y5) := HBW.out.trans (hz.mono HBW.out.size)
             have HC0 : Hid (Reads y5 vb0 (headB gen)) := hr
             clear hz hr)
          | (clear tk5; go_at_call 13; refine ((same_any _ _ _ _ _ HA0.out HC0.out)).mono ?_; rintro e0 y6 ⟨he, hy⟩
             rw [decide_eq_true rfl] at he
             subst he hy
             clear HA0 HC0)
          | (clear tk6; go_at_call 16; refine (OPS.record gen seq _ x _ HG.out HQ.out HXL.out.1 (HK0.out.below HBW.out HK0.out.lt) HX.out).mono ?_; rintro e0 y7 ⟨va1, rfl, hr, hz⟩
             replace HB : Hid (Reads y7 (.slice ab nb cb0) b) := HB.out.below hz
             replace HX : Hid (Reads y7 (.slice ax nx cx) x) := HX.out.below hz
             replace HL2 : Hid (ReadsL y7 l2 rl) := HL2.out.below hz
             replace HBW : Hid (Below w.heap.size w y7) := HBW.out.trans (hz.mono HBW.out.size)
             have HA1 : Hid (Reads y7 va1 (recB gen seq x)) := hr
             clear hz hr)
          | (clear tk7; go_at_call 17; refine (nRecord_any gen seq HG.out HQ.out _ x HXL.out.2 _ HX.out).mono ?_; rintro e0 y8 ⟨vb1, rfl, hr, hz⟩
             replace HB : Hid (Reads y8 (.slice ab nb cb0) b) := HB.out.below hz
             replace HX : Hid (Reads y8 (.slice ax nx cx) x) := HX.out.below hz
             replace HL2 : Hid (ReadsL y8 l2 rl) := HL2.out.below hz
             replace HA1 : Hid (Reads y8 va1 (recB gen seq x)) := HA1.out.below hz
             replace HBW : Hid (Below w.heap.size w y8) := HBW.out.trans (hz.mono HBW.out.size)
             have HC1 : Hid (Reads y8 vb1 (recB gen seq x)) := hr
             clear hz hr)
          | (clear tk8; go_at_call 13; refine ((same_any _ _ _ _ _ HA1.out HC1.out)).mono ?_; rintro e0 y9 ⟨he, hy⟩
             rw [decide_eq_true rfl] at he
             subst he hy
             clear HA1 HC1)
          | (clear tk9; go_at_call 18; refine (OPS.text gen seq _ x _ HG.out HQ.out HXL.out.1 (HK0.out.below HBW.out HK0.out.lt) HX.out).mono ?_; rintro e0 y10 ⟨va2, rfl, hr, hz⟩
             replace HB : Hid (Reads y10 (.slice ab nb cb0) b) := HB.out.below hz
             replace HX : Hid (Reads y10 (.slice ax nx cx) x) := HX.out.below hz
             replace HL2 : Hid (ReadsL y10 l2 rl) := HL2.out.below hz
             replace HBW : Hid (Below w.heap.size w y10) := HBW.out.trans (hz.mono HBW.out.size)
             have HA2 : Hid (Reads y10 va2 (textB gen seq x)) := hr
             clear hz hr)
          | (clear tk10; go_at_call 19; refine (nText_any gen seq HG.out HQ.out _ x (Nat.lt_trans HXL.out.2 (by decide)) _ HX.out).mono ?_; rintro e0 y11 ⟨vb2, rfl, hr, hz⟩
             replace HB : Hid (Reads y11 (.slice ab nb cb0) b) := HB.out.below hz
             replace HX : Hid (Reads y11 (.slice ax nx cx) x) := HX.out.below hz
             replace HL2 : Hid (ReadsL y11 l2 rl) := HL2.out.below hz
             replace HA2 : Hid (Reads y11 va2 (textB gen seq x)) := HA2.out.below hz
             replace HBW : Hid (Below w.heap.size w y11) := HBW.out.trans (hz.mono HBW.out.size)
             have HC2 : Hid (Reads y11 vb2 (textB gen seq x)) := hr
             clear hz hr)
          | (clear tk11; go_at_call 13; refine ((same_any _ _ _ _ _ HA2.out HC2.out)).mono ?_; rintro e0 y12 ⟨he, hy⟩
             rw [decide_eq_true rfl] at he
             subst he hy
             clear HA2 HC2)
          | (clear tk12; go_at_call 20; refine (HJC.out _ HX.out).mono ?_; rintro e0 y13 ⟨rfl, hz⟩
             replace HB : Hid (Reads y13 (.slice ab nb cb0) b) := HB.out.below hz
             replace HX : Hid (Reads y13 (.slice ax nx cx) x) := HX.out.below hz
             replace HL2 : Hid (ReadsL y13 l2 rl) := HL2.out.below hz
             replace HBW : Hid (Below w.heap.size w y13) := HBW.out.trans (hz.mono HBW.out.size)
             clear hz )
          | (clear tk13; go_at_call 21; refine (HNC.out _ HX.out).mono ?_; rintro e0 y14 ⟨rfl, hy⟩; subst hy)
          | (clear tk14; go_at_call 22; refine (HLD.out _ HB.out).mono ?_; rintro e0 y15 ⟨gd, P1, rfl, hd, hz, hp⟩
             have HDK : Hid (DkIs y15 gd P1 (loadD b)) := hd
             obtain ⟨yL, HYL⟩ : ∃ Y : World, Hid (Below w.heap.size w Y ∧ ReadsL Y l2 rl ∧ Below Y.heap.size Y y15 ∧ ∀ k, P1 k → Y.heap.size ≤ k) := ⟨_, HBW.out, HL2.out, hz, hp⟩
             replace HBW : Hid (Below w.heap.size w y15) := HBW.out.trans (hz.mono HBW.out.size)
             clear hd hz hp HB HX HL2)
          | (clear tk15; go_at_call 23; refine (HOP.out _ _ _ (HK0.out.below HBW.out HK0.out.lt) HDK.out).mono ?_; rintro e0 y16 ⟨rfl, hm⟩
             have HBL : Hid (Below yL.heap.size yL y16) := HYL.out.2.2.1.trans (hm.below HYL.out.2.2.1.size HYL.out.2.2.2)
             replace HBW : Hid (Below w.heap.size w y16) := HYL.out.1.trans (HBL.out.mono HYL.out.1.size)
             clear hm HDK )
          | (clear tk16; go_at_call 9; refine (HWK.out _ (HK0.out.below HBW.out HK0.out.lt)).mono ?_; rintro e0 y17 ⟨rfl, hz⟩
             replace HBW : Hid (Below w.heap.size w y17) := HBW.out.trans (hz.mono HBW.out.size)
             clear hz ))
      go_ret
      exact ⟨rfl, HBW.out⟩
    · have hok : okB b := ⟨by omega, by omega⟩
      have hrx : rx = 0 := by rw [HRX.out]; exact if_pos hok
      have hrg : rg = (readJ b).1 := by rw [HRG.out]; exact if_pos hok
      have hrl : rl = (readJ b).2 := by rw [HRL.out]; exact if_pos hok
      subst hrx
      by_cases hgg : 9223372036854775808 < rg
      · have q3 : (9223372036854775808 : Int) < (rg : Int) := by omega
        have HOP : Hid (∀ (W : World) (gd : Nat) (P : Nat → Prop), KOk W → DkIs W gd P (loadD b) → Calls Tryd.prog 23 #[.pointer (some ⟨gd, 0, none⟩)] W fun e w' => ∃ lv x, e = .returned (.tuple #[lv, .int .i64 x]) ∧ Mut P W w') := fun W gd P hk hd => (OPS.opensX hk hd rfl (by rw [hsz]; exact hn2)).mono (fun e w' h => by
          obtain ⟨P', D', lv, x, h1, _, h3, _⟩ := h
          exact ⟨lv, x, h1, h3⟩)
        clear hm hn hbn hn1 hn2 hsz hok h8 hgg hrg hrl
        go_enter Tryd.func3, Tryd.ntmps3
        have tk0 : Hid True := trivial
        have tk1 : Hid True := trivial
        have tk2 : Hid True := trivial
        have tk3 : Hid True := trivial
        have tk4 : Hid True := trivial
        have tk5 : Hid True := trivial
        have tk6 : Hid True := trivial
        have tk7 : Hid True := trivial
        have tk8 : Hid True := trivial
        have tk9 : Hid True := trivial
        have tk10 : Hid True := trivial
        have tk11 : Hid True := trivial
        have tk12 : Hid True := trivial
        have tk13 : Hid True := trivial
        have tk14 : Hid True := trivial
        have tk15 : Hid True := trivial
        have tk16 : Hid True := trivial
        go_wp2_with (first
            | (clear tk0; go_at_call 10; refine (HJR.out _ (HK0.out.below HBW.out HK0.out.lt) HB.out).mono ?_; rintro e0 y1 ⟨l1, rfl, hr, hz⟩
               replace HB : Hid (Reads y1 (.slice ab nb cb0) b) := HB.out.below hz
               replace HX : Hid (Reads y1 (.slice ax nx cx) x) := HX.out.below hz
               replace HBW : Hid (Below w.heap.size w y1) := HBW.out.trans (hz.mono HBW.out.size)
               have HL1 : Hid (ReadsL y1 l1 rl) := hr
               clear hz hr)
            | (clear tk1; go_at_call 11; refine (HNR.out _ HB.out).mono ?_; rintro e0 y2 ⟨l2, rfl, hr, hz⟩
               replace HB : Hid (Reads y2 (.slice ab nb cb0) b) := HB.out.below hz
               replace HX : Hid (Reads y2 (.slice ax nx cx) x) := HX.out.below hz
               replace HL1 : Hid (ReadsL y2 l1 rl) := HL1.out.below hz
               replace HBW : Hid (Below w.heap.size w y2) := HBW.out.trans (hz.mono HBW.out.size)
               have HL2 : Hid (ReadsL y2 l2 rl) := hr
               clear hz hr)
            | (clear tk2; go_at_call 12; refine (HSM.out _ _ _ HL1.out HL2.out).mono ?_; rintro e0 y3 ⟨rfl, hz⟩
               replace HB : Hid (Reads y3 (.slice ab nb cb0) b) := HB.out.below hz
               replace HX : Hid (Reads y3 (.slice ax nx cx) x) := HX.out.below hz
               replace HL1 : Hid (ReadsL y3 l1 rl) := HL1.out.below hz
               replace HL2 : Hid (ReadsL y3 l2 rl) := HL2.out.below hz
               replace HBW : Hid (Below w.heap.size w y3) := HBW.out.trans (hz.mono HBW.out.size)
               clear hz HL1)
            | (clear tk3; go_at_call 14; refine (OPS.head gen _ HG.out (HK0.out.below HBW.out HK0.out.lt)).mono ?_; rintro e0 y4 ⟨va0, rfl, hr, hz⟩
               replace HB : Hid (Reads y4 (.slice ab nb cb0) b) := HB.out.below hz
               replace HX : Hid (Reads y4 (.slice ax nx cx) x) := HX.out.below hz
               replace HL2 : Hid (ReadsL y4 l2 rl) := HL2.out.below hz
               replace HBW : Hid (Below w.heap.size w y4) := HBW.out.trans (hz.mono HBW.out.size)
               have HA0 : Hid (Reads y4 va0 (headB gen)) := hr
               clear hz hr)
            | (clear tk4; go_at_call 15; refine (nHead_any gen HG.out _).mono ?_; rintro e0 y5 ⟨vb0, rfl, hr, hz⟩
               replace HB : Hid (Reads y5 (.slice ab nb cb0) b) := HB.out.below hz
               replace HX : Hid (Reads y5 (.slice ax nx cx) x) := HX.out.below hz
               replace HL2 : Hid (ReadsL y5 l2 rl) := HL2.out.below hz
               replace HA0 : Hid (Reads y5 va0 (headB gen)) := HA0.out.below hz
               replace HBW : Hid (Below w.heap.size w y5) := HBW.out.trans (hz.mono HBW.out.size)
               have HC0 : Hid (Reads y5 vb0 (headB gen)) := hr
               clear hz hr)
            | (clear tk5; go_at_call 13; refine ((same_any _ _ _ _ _ HA0.out HC0.out)).mono ?_; rintro e0 y6 ⟨he, hy⟩
               rw [decide_eq_true rfl] at he
               subst he hy
               clear HA0 HC0)
            | (clear tk6; go_at_call 16; refine (OPS.record gen seq _ x _ HG.out HQ.out HXL.out.1 (HK0.out.below HBW.out HK0.out.lt) HX.out).mono ?_; rintro e0 y7 ⟨va1, rfl, hr, hz⟩
               replace HB : Hid (Reads y7 (.slice ab nb cb0) b) := HB.out.below hz
               replace HX : Hid (Reads y7 (.slice ax nx cx) x) := HX.out.below hz
               replace HL2 : Hid (ReadsL y7 l2 rl) := HL2.out.below hz
               replace HBW : Hid (Below w.heap.size w y7) := HBW.out.trans (hz.mono HBW.out.size)
               have HA1 : Hid (Reads y7 va1 (recB gen seq x)) := hr
               clear hz hr)
            | (clear tk7; go_at_call 17; refine (nRecord_any gen seq HG.out HQ.out _ x HXL.out.2 _ HX.out).mono ?_; rintro e0 y8 ⟨vb1, rfl, hr, hz⟩
               replace HB : Hid (Reads y8 (.slice ab nb cb0) b) := HB.out.below hz
               replace HX : Hid (Reads y8 (.slice ax nx cx) x) := HX.out.below hz
               replace HL2 : Hid (ReadsL y8 l2 rl) := HL2.out.below hz
               replace HA1 : Hid (Reads y8 va1 (recB gen seq x)) := HA1.out.below hz
               replace HBW : Hid (Below w.heap.size w y8) := HBW.out.trans (hz.mono HBW.out.size)
               have HC1 : Hid (Reads y8 vb1 (recB gen seq x)) := hr
               clear hz hr)
            | (clear tk8; go_at_call 13; refine ((same_any _ _ _ _ _ HA1.out HC1.out)).mono ?_; rintro e0 y9 ⟨he, hy⟩
               rw [decide_eq_true rfl] at he
               subst he hy
               clear HA1 HC1)
            | (clear tk9; go_at_call 18; refine (OPS.text gen seq _ x _ HG.out HQ.out HXL.out.1 (HK0.out.below HBW.out HK0.out.lt) HX.out).mono ?_; rintro e0 y10 ⟨va2, rfl, hr, hz⟩
               replace HB : Hid (Reads y10 (.slice ab nb cb0) b) := HB.out.below hz
               replace HX : Hid (Reads y10 (.slice ax nx cx) x) := HX.out.below hz
               replace HL2 : Hid (ReadsL y10 l2 rl) := HL2.out.below hz
               replace HBW : Hid (Below w.heap.size w y10) := HBW.out.trans (hz.mono HBW.out.size)
               have HA2 : Hid (Reads y10 va2 (textB gen seq x)) := hr
               clear hz hr)
            | (clear tk10; go_at_call 19; refine (nText_any gen seq HG.out HQ.out _ x (Nat.lt_trans HXL.out.2 (by decide)) _ HX.out).mono ?_; rintro e0 y11 ⟨vb2, rfl, hr, hz⟩
               replace HB : Hid (Reads y11 (.slice ab nb cb0) b) := HB.out.below hz
               replace HX : Hid (Reads y11 (.slice ax nx cx) x) := HX.out.below hz
               replace HL2 : Hid (ReadsL y11 l2 rl) := HL2.out.below hz
               replace HA2 : Hid (Reads y11 va2 (textB gen seq x)) := HA2.out.below hz
               replace HBW : Hid (Below w.heap.size w y11) := HBW.out.trans (hz.mono HBW.out.size)
               have HC2 : Hid (Reads y11 vb2 (textB gen seq x)) := hr
               clear hz hr)
            | (clear tk11; go_at_call 13; refine ((same_any _ _ _ _ _ HA2.out HC2.out)).mono ?_; rintro e0 y12 ⟨he, hy⟩
               rw [decide_eq_true rfl] at he
               subst he hy
               clear HA2 HC2)
            | (clear tk12; go_at_call 20; refine (HJC.out _ HX.out).mono ?_; rintro e0 y13 ⟨rfl, hz⟩
               replace HB : Hid (Reads y13 (.slice ab nb cb0) b) := HB.out.below hz
               replace HX : Hid (Reads y13 (.slice ax nx cx) x) := HX.out.below hz
               replace HL2 : Hid (ReadsL y13 l2 rl) := HL2.out.below hz
               replace HBW : Hid (Below w.heap.size w y13) := HBW.out.trans (hz.mono HBW.out.size)
               clear hz )
            | (clear tk13; go_at_call 21; refine (HNC.out _ HX.out).mono ?_; rintro e0 y14 ⟨rfl, hy⟩; subst hy)
            | (clear tk14; go_at_call 22; refine (HLD.out _ HB.out).mono ?_; rintro e0 y15 ⟨gd, P1, rfl, hd, hz, hp⟩
               have HDK : Hid (DkIs y15 gd P1 (loadD b)) := hd
               obtain ⟨yL, HYL⟩ : ∃ Y : World, Hid (Below w.heap.size w Y ∧ ReadsL Y l2 rl ∧ Below Y.heap.size Y y15 ∧ ∀ k, P1 k → Y.heap.size ≤ k) := ⟨_, HBW.out, HL2.out, hz, hp⟩
               replace HBW : Hid (Below w.heap.size w y15) := HBW.out.trans (hz.mono HBW.out.size)
               clear hd hz hp HB HX HL2)
            | (clear tk15; go_at_call 23; refine (HOP.out _ _ _ (HK0.out.below HBW.out HK0.out.lt) HDK.out).mono ?_; rintro e0 y16 ⟨lv, xx, rfl, hm⟩
               have HBL : Hid (Below yL.heap.size yL y16) := HYL.out.2.2.1.trans (hm.below HYL.out.2.2.1.size HYL.out.2.2.2)
               replace HBW : Hid (Below w.heap.size w y16) := HYL.out.1.trans (HBL.out.mono HYL.out.1.size)
               clear hm HDK )
            | (clear tk16; go_at_call 9; refine (HWK.out _ (HK0.out.below HBW.out HK0.out.lt)).mono ?_; rintro e0 y17 ⟨rfl, hz⟩
               replace HBW : Hid (Below w.heap.size w y17) := HBW.out.trans (hz.mono HBW.out.size)
               clear hz ))
        go_ret
        exact ⟨rfl, HBW.out⟩
      · have q3 : ¬ ((9223372036854775808 : Int) < (rg : Int)) := by omega
        have hpk : (pickB b).2 + 1 < 18446744073709551616 := by
          have h9 : (readJ b).1 = (pickB b).2 := by unfold readJ; split; rename_i h0; exact h0.symm; rfl
          omega
        obtain ⟨o1, o2, o3, o4, o5⟩ := Log.open (s := b) (by omega) (by omega) hpk
        obtain ⟨J, HJ⟩ : ∃ J, Hid (J = (openS (loadD b)).2) := ⟨_, rfl⟩
        rw [← HJ.out] at o4 o5
        rw [← hrl] at o4
        rw [← hrg] at o5
        have HOP : Hid (∀ (W : World) (gd : Nat) (P : Nat → Prop), KOk W → DkIs W gd P (loadD b) → Calls Tryd.prog 23 #[.pointer (some ⟨gd, 0, none⟩)] W fun e w' => ∃ lg Q, e = .returned (.tuple #[.pointer (some ⟨lg, 0, none⟩), .int .i64 0]) ∧ Mut P W w' ∧ LgE Lg w' lg Q gd J) := fun W gd P hk hd => by
          refine (OPS.opens hk hd rfl (by rw [hsz]; exact hn2) (fun _ => hpk)).mono (fun e w' h => ?_)
          obtain ⟨P', lv, h1, _, h3, _, h5, _⟩ := h
          obtain ⟨lg, Q, h6, h7, _⟩ := h5 o1
          rw [h6, o1] at h1
          rw [← HJ.out] at h7
          exact ⟨lg, Q, h1, h3, ⟨_, h7⟩⟩
        obtain ⟨jg, HJG⟩ : ∃ g, Hid (g = J.gen) := ⟨_, rfl⟩
        rw [← HJG.out] at o5
        have HAL : Hid (∀ (W : World) (gd lg : Nat) (Q : Nat → Prop), LgE Lg W lg Q gd J → Calls Tryd.prog 24 #[.pointer (some ⟨lg, 0, none⟩)] W fun e w' => ∃ v, e = .returned v ∧ ReadsL w' v rl ∧ LgE Lg w' lg Q gd J ∧ Below W.heap.size W w') := fun W gd lg Q h => by
          refine (OPS.allE h (by rw [o4]; exact HRL3.out) (by rw [o4]; exact HRZ3.out)).mono (fun e w' hh => ?_)
          obtain ⟨v, us, h1, h2, h3⟩ := hh
          have h4 := h2.readsL
          rw [o4] at h4
          exact ⟨v, h1, h4, OPS.sameE h h3.size (fun k hk => h3.block k (OPS.ltE h k hk)), h3⟩
        have HGN : Hid (∀ (W : World) (gd lg : Nat) (Q : Nat → Prop), LgE Lg W lg Q gd J → Calls Tryd.prog 25 #[.pointer (some ⟨lg, 0, none⟩)] W fun e w' => e = .returned (.int .u64 (jg : Int)) ∧ LgE Lg w' lg Q gd J ∧ Below W.heap.size W w') := fun W gd lg Q h => (OPS.genE h).mono (fun e w' hh => ⟨by rw [HJG.out]; exact hh.1, OPS.sameE h hh.2.size (fun k hk => hh.2.block k (OPS.ltE h k hk)), hh.2⟩)
        have HSG : Hid (∀ W W' lg Q gd, LgE Lg W lg Q gd J → Below W.heap.size W W' → LgE Lg W' lg Q gd J) := fun W W' lg Q gd h hb => OPS.sameE h hb.size (fun k hk => hb.block k (OPS.ltE h k hk))
        clear hm hn hbn hn1 hn2 hsz hok h8 hgg hrg hrl o1 o2 o3 o4 hpk
        rcases o5 with o5 | o5
        · subst o5
          go_enter Tryd.func3, Tryd.ntmps3
          have tk0 : Hid True := trivial
          have tk1 : Hid True := trivial
          have tk2 : Hid True := trivial
          have tk3 : Hid True := trivial
          have tk4 : Hid True := trivial
          have tk5 : Hid True := trivial
          have tk6 : Hid True := trivial
          have tk7 : Hid True := trivial
          have tk8 : Hid True := trivial
          have tk9 : Hid True := trivial
          have tk10 : Hid True := trivial
          have tk11 : Hid True := trivial
          have tk12 : Hid True := trivial
          have tk13 : Hid True := trivial
          have tk14 : Hid True := trivial
          have tk15 : Hid True := trivial
          have tk16 : Hid True := trivial
          have tk17 : Hid True := trivial
          have tk18 : Hid True := trivial
          have tk19 : Hid True := trivial
          go_wp2_with (first
              | (clear tk0; go_at_call 10; refine (HJR.out _ (HK0.out.below HBW.out HK0.out.lt) HB.out).mono ?_; rintro e0 y1 ⟨l1, rfl, hr, hz⟩
                 replace HB : Hid (Reads y1 (.slice ab nb cb0) b) := HB.out.below hz
                 replace HX : Hid (Reads y1 (.slice ax nx cx) x) := HX.out.below hz
                 replace HBW : Hid (Below w.heap.size w y1) := HBW.out.trans (hz.mono HBW.out.size)
                 have HL1 : Hid (ReadsL y1 l1 rl) := hr
                 clear hz hr)
              | (clear tk1; go_at_call 11; refine (HNR.out _ HB.out).mono ?_; rintro e0 y2 ⟨l2, rfl, hr, hz⟩
                 replace HB : Hid (Reads y2 (.slice ab nb cb0) b) := HB.out.below hz
                 replace HX : Hid (Reads y2 (.slice ax nx cx) x) := HX.out.below hz
                 replace HL1 : Hid (ReadsL y2 l1 rl) := HL1.out.below hz
                 replace HBW : Hid (Below w.heap.size w y2) := HBW.out.trans (hz.mono HBW.out.size)
                 have HL2 : Hid (ReadsL y2 l2 rl) := hr
                 clear hz hr)
              | (clear tk2; go_at_call 12; refine (HSM.out _ _ _ HL1.out HL2.out).mono ?_; rintro e0 y3 ⟨rfl, hz⟩
                 replace HB : Hid (Reads y3 (.slice ab nb cb0) b) := HB.out.below hz
                 replace HX : Hid (Reads y3 (.slice ax nx cx) x) := HX.out.below hz
                 replace HL1 : Hid (ReadsL y3 l1 rl) := HL1.out.below hz
                 replace HL2 : Hid (ReadsL y3 l2 rl) := HL2.out.below hz
                 replace HBW : Hid (Below w.heap.size w y3) := HBW.out.trans (hz.mono HBW.out.size)
                 clear hz HL1)
              | (clear tk3; go_at_call 14; refine (OPS.head gen _ HG.out (HK0.out.below HBW.out HK0.out.lt)).mono ?_; rintro e0 y4 ⟨va0, rfl, hr, hz⟩
                 replace HB : Hid (Reads y4 (.slice ab nb cb0) b) := HB.out.below hz
                 replace HX : Hid (Reads y4 (.slice ax nx cx) x) := HX.out.below hz
                 replace HL2 : Hid (ReadsL y4 l2 rl) := HL2.out.below hz
                 replace HBW : Hid (Below w.heap.size w y4) := HBW.out.trans (hz.mono HBW.out.size)
                 have HA0 : Hid (Reads y4 va0 (headB gen)) := hr
                 clear hz hr)
              | (clear tk4; go_at_call 15; refine (nHead_any gen HG.out _).mono ?_; rintro e0 y5 ⟨vb0, rfl, hr, hz⟩
                 replace HB : Hid (Reads y5 (.slice ab nb cb0) b) := HB.out.below hz
                 replace HX : Hid (Reads y5 (.slice ax nx cx) x) := HX.out.below hz
                 replace HL2 : Hid (ReadsL y5 l2 rl) := HL2.out.below hz
                 replace HA0 : Hid (Reads y5 va0 (headB gen)) := HA0.out.below hz
                 replace HBW : Hid (Below w.heap.size w y5) := HBW.out.trans (hz.mono HBW.out.size)
                 have HC0 : Hid (Reads y5 vb0 (headB gen)) := hr
                 clear hz hr)
              | (clear tk5; go_at_call 13; refine ((same_any _ _ _ _ _ HA0.out HC0.out)).mono ?_; rintro e0 y6 ⟨he, hy⟩
                 rw [decide_eq_true rfl] at he
                 subst he hy
                 clear HA0 HC0)
              | (clear tk6; go_at_call 16; refine (OPS.record gen seq _ x _ HG.out HQ.out HXL.out.1 (HK0.out.below HBW.out HK0.out.lt) HX.out).mono ?_; rintro e0 y7 ⟨va1, rfl, hr, hz⟩
                 replace HB : Hid (Reads y7 (.slice ab nb cb0) b) := HB.out.below hz
                 replace HX : Hid (Reads y7 (.slice ax nx cx) x) := HX.out.below hz
                 replace HL2 : Hid (ReadsL y7 l2 rl) := HL2.out.below hz
                 replace HBW : Hid (Below w.heap.size w y7) := HBW.out.trans (hz.mono HBW.out.size)
                 have HA1 : Hid (Reads y7 va1 (recB gen seq x)) := hr
                 clear hz hr)
              | (clear tk7; go_at_call 17; refine (nRecord_any gen seq HG.out HQ.out _ x HXL.out.2 _ HX.out).mono ?_; rintro e0 y8 ⟨vb1, rfl, hr, hz⟩
                 replace HB : Hid (Reads y8 (.slice ab nb cb0) b) := HB.out.below hz
                 replace HX : Hid (Reads y8 (.slice ax nx cx) x) := HX.out.below hz
                 replace HL2 : Hid (ReadsL y8 l2 rl) := HL2.out.below hz
                 replace HA1 : Hid (Reads y8 va1 (recB gen seq x)) := HA1.out.below hz
                 replace HBW : Hid (Below w.heap.size w y8) := HBW.out.trans (hz.mono HBW.out.size)
                 have HC1 : Hid (Reads y8 vb1 (recB gen seq x)) := hr
                 clear hz hr)
              | (clear tk8; go_at_call 13; refine ((same_any _ _ _ _ _ HA1.out HC1.out)).mono ?_; rintro e0 y9 ⟨he, hy⟩
                 rw [decide_eq_true rfl] at he
                 subst he hy
                 clear HA1 HC1)
              | (clear tk9; go_at_call 18; refine (OPS.text gen seq _ x _ HG.out HQ.out HXL.out.1 (HK0.out.below HBW.out HK0.out.lt) HX.out).mono ?_; rintro e0 y10 ⟨va2, rfl, hr, hz⟩
                 replace HB : Hid (Reads y10 (.slice ab nb cb0) b) := HB.out.below hz
                 replace HX : Hid (Reads y10 (.slice ax nx cx) x) := HX.out.below hz
                 replace HL2 : Hid (ReadsL y10 l2 rl) := HL2.out.below hz
                 replace HBW : Hid (Below w.heap.size w y10) := HBW.out.trans (hz.mono HBW.out.size)
                 have HA2 : Hid (Reads y10 va2 (textB gen seq x)) := hr
                 clear hz hr)
              | (clear tk10; go_at_call 19; refine (nText_any gen seq HG.out HQ.out _ x (Nat.lt_trans HXL.out.2 (by decide)) _ HX.out).mono ?_; rintro e0 y11 ⟨vb2, rfl, hr, hz⟩
                 replace HB : Hid (Reads y11 (.slice ab nb cb0) b) := HB.out.below hz
                 replace HX : Hid (Reads y11 (.slice ax nx cx) x) := HX.out.below hz
                 replace HL2 : Hid (ReadsL y11 l2 rl) := HL2.out.below hz
                 replace HA2 : Hid (Reads y11 va2 (textB gen seq x)) := HA2.out.below hz
                 replace HBW : Hid (Below w.heap.size w y11) := HBW.out.trans (hz.mono HBW.out.size)
                 have HC2 : Hid (Reads y11 vb2 (textB gen seq x)) := hr
                 clear hz hr)
              | (clear tk11; go_at_call 13; refine ((same_any _ _ _ _ _ HA2.out HC2.out)).mono ?_; rintro e0 y12 ⟨he, hy⟩
                 rw [decide_eq_true rfl] at he
                 subst he hy
                 clear HA2 HC2)
              | (clear tk12; go_at_call 20; refine (HJC.out _ HX.out).mono ?_; rintro e0 y13 ⟨rfl, hz⟩
                 replace HB : Hid (Reads y13 (.slice ab nb cb0) b) := HB.out.below hz
                 replace HX : Hid (Reads y13 (.slice ax nx cx) x) := HX.out.below hz
                 replace HL2 : Hid (ReadsL y13 l2 rl) := HL2.out.below hz
                 replace HBW : Hid (Below w.heap.size w y13) := HBW.out.trans (hz.mono HBW.out.size)
                 clear hz )
              | (clear tk13; go_at_call 21; refine (HNC.out _ HX.out).mono ?_; rintro e0 y14 ⟨rfl, hy⟩; subst hy)
              | (clear tk14; go_at_call 22; refine (HLD.out _ HB.out).mono ?_; rintro e0 y15 ⟨gd, P1, rfl, hd, hz, hp⟩
                 have HDK : Hid (DkIs y15 gd P1 (loadD b)) := hd
                 obtain ⟨yL, HYL⟩ : ∃ Y : World, Hid (Below w.heap.size w Y ∧ ReadsL Y l2 rl ∧ Below Y.heap.size Y y15 ∧ ∀ k, P1 k → Y.heap.size ≤ k) := ⟨_, HBW.out, HL2.out, hz, hp⟩
                 replace HBW : Hid (Below w.heap.size w y15) := HBW.out.trans (hz.mono HBW.out.size)
                 clear hd hz hp HB HX HL2)
              | (clear tk15; go_at_call 23; refine (HOP.out _ _ _ (HK0.out.below HBW.out HK0.out.lt) HDK.out).mono ?_; rintro e0 y16 ⟨lg, Q, rfl, hm, hl⟩
                 have HBL : Hid (Below yL.heap.size yL y16) := HYL.out.2.2.1.trans (hm.below HYL.out.2.2.1.size HYL.out.2.2.2)
                 replace HBW : Hid (Below w.heap.size w y16) := HYL.out.1.trans (HBL.out.mono HYL.out.1.size)
                 have HLG : Hid (LgE Lg y16 lg Q gd J) := hl
                 have HL2 : Hid (ReadsL y16 l2 rl) := HYL.out.2.1.below HBL.out
                 clear hm HDK hl)
              | (clear tk16; go_at_call 24; refine (HAL.out _ _ _ _ HLG.out).mono ?_; rintro e0 y17 ⟨l3, rfl, hr, hl, hz⟩
                 replace HL2 : Hid (ReadsL y17 l2 rl) := HL2.out.below hz
                 replace HBW : Hid (Below w.heap.size w y17) := HBW.out.trans (hz.mono HBW.out.size)
                 have HL3 : Hid (ReadsL y17 l3 rl) := hr
                 replace HLG : Hid (LgE Lg y17 lg Q gd J) := hl
                 clear hz hr hl)
              | (clear tk17; go_at_call 12; refine (HSM.out _ _ _ HL3.out HL2.out).mono ?_; rintro e0 y18 ⟨rfl, hz⟩
                 replace HBW : Hid (Below w.heap.size w y18) := HBW.out.trans (hz.mono HBW.out.size)
                 replace HLG : Hid (LgE Lg y18 lg Q gd J) := HSG.out _ _ _ _ _ HLG.out hz
                 clear hz HL3 HL2)
              | (clear tk18; go_at_call 25; refine (HGN.out _ _ _ _ HLG.out).mono ?_; rintro e0 y19 ⟨rfl, hl, hz⟩
                 replace HBW : Hid (Below w.heap.size w y19) := HBW.out.trans (hz.mono HBW.out.size)
                 replace HLG : Hid (LgE Lg y19 lg Q gd J) := hl
                 clear hz hl)
              | (clear tk19; go_at_call 9; refine (HWK.out _ (HK0.out.below HBW.out HK0.out.lt)).mono ?_; rintro e0 y20 ⟨rfl, hz⟩
                 replace HBW : Hid (Below w.heap.size w y20) := HBW.out.trans (hz.mono HBW.out.size)
                 clear hz ))
          go_ret
          exact ⟨rfl, HBW.out⟩
        · have q4 : ((jg : Int) == (rg : Int)) = false := by rw [beq_eq_false_iff_ne]; omega
          have f1 : IntKind.u64.wrap ((rg : Int) + 1) = (jg : Int) := by rw [IntKind.wrap_u64]; omega
          clear o5
          go_enter Tryd.func3, Tryd.ntmps3
          have tk0 : Hid True := trivial
          have tk1 : Hid True := trivial
          have tk2 : Hid True := trivial
          have tk3 : Hid True := trivial
          have tk4 : Hid True := trivial
          have tk5 : Hid True := trivial
          have tk6 : Hid True := trivial
          have tk7 : Hid True := trivial
          have tk8 : Hid True := trivial
          have tk9 : Hid True := trivial
          have tk10 : Hid True := trivial
          have tk11 : Hid True := trivial
          have tk12 : Hid True := trivial
          have tk13 : Hid True := trivial
          have tk14 : Hid True := trivial
          have tk15 : Hid True := trivial
          have tk16 : Hid True := trivial
          have tk17 : Hid True := trivial
          have tk18 : Hid True := trivial
          have tk19 : Hid True := trivial
          have tk20 : Hid True := trivial
          go_wp2_with (first
              | (clear tk0; go_at_call 10; refine (HJR.out _ (HK0.out.below HBW.out HK0.out.lt) HB.out).mono ?_; rintro e0 y1 ⟨l1, rfl, hr, hz⟩
                 replace HB : Hid (Reads y1 (.slice ab nb cb0) b) := HB.out.below hz
                 replace HX : Hid (Reads y1 (.slice ax nx cx) x) := HX.out.below hz
                 replace HBW : Hid (Below w.heap.size w y1) := HBW.out.trans (hz.mono HBW.out.size)
                 have HL1 : Hid (ReadsL y1 l1 rl) := hr
                 clear hz hr)
              | (clear tk1; go_at_call 11; refine (HNR.out _ HB.out).mono ?_; rintro e0 y2 ⟨l2, rfl, hr, hz⟩
                 replace HB : Hid (Reads y2 (.slice ab nb cb0) b) := HB.out.below hz
                 replace HX : Hid (Reads y2 (.slice ax nx cx) x) := HX.out.below hz
                 replace HL1 : Hid (ReadsL y2 l1 rl) := HL1.out.below hz
                 replace HBW : Hid (Below w.heap.size w y2) := HBW.out.trans (hz.mono HBW.out.size)
                 have HL2 : Hid (ReadsL y2 l2 rl) := hr
                 clear hz hr)
              | (clear tk2; go_at_call 12; refine (HSM.out _ _ _ HL1.out HL2.out).mono ?_; rintro e0 y3 ⟨rfl, hz⟩
                 replace HB : Hid (Reads y3 (.slice ab nb cb0) b) := HB.out.below hz
                 replace HX : Hid (Reads y3 (.slice ax nx cx) x) := HX.out.below hz
                 replace HL1 : Hid (ReadsL y3 l1 rl) := HL1.out.below hz
                 replace HL2 : Hid (ReadsL y3 l2 rl) := HL2.out.below hz
                 replace HBW : Hid (Below w.heap.size w y3) := HBW.out.trans (hz.mono HBW.out.size)
                 clear hz HL1)
              | (clear tk3; go_at_call 14; refine (OPS.head gen _ HG.out (HK0.out.below HBW.out HK0.out.lt)).mono ?_; rintro e0 y4 ⟨va0, rfl, hr, hz⟩
                 replace HB : Hid (Reads y4 (.slice ab nb cb0) b) := HB.out.below hz
                 replace HX : Hid (Reads y4 (.slice ax nx cx) x) := HX.out.below hz
                 replace HL2 : Hid (ReadsL y4 l2 rl) := HL2.out.below hz
                 replace HBW : Hid (Below w.heap.size w y4) := HBW.out.trans (hz.mono HBW.out.size)
                 have HA0 : Hid (Reads y4 va0 (headB gen)) := hr
                 clear hz hr)
              | (clear tk4; go_at_call 15; refine (nHead_any gen HG.out _).mono ?_; rintro e0 y5 ⟨vb0, rfl, hr, hz⟩
                 replace HB : Hid (Reads y5 (.slice ab nb cb0) b) := HB.out.below hz
                 replace HX : Hid (Reads y5 (.slice ax nx cx) x) := HX.out.below hz
                 replace HL2 : Hid (ReadsL y5 l2 rl) := HL2.out.below hz
                 replace HA0 : Hid (Reads y5 va0 (headB gen)) := HA0.out.below hz
                 replace HBW : Hid (Below w.heap.size w y5) := HBW.out.trans (hz.mono HBW.out.size)
                 have HC0 : Hid (Reads y5 vb0 (headB gen)) := hr
                 clear hz hr)
              | (clear tk5; go_at_call 13; refine ((same_any _ _ _ _ _ HA0.out HC0.out)).mono ?_; rintro e0 y6 ⟨he, hy⟩
                 rw [decide_eq_true rfl] at he
                 subst he hy
                 clear HA0 HC0)
              | (clear tk6; go_at_call 16; refine (OPS.record gen seq _ x _ HG.out HQ.out HXL.out.1 (HK0.out.below HBW.out HK0.out.lt) HX.out).mono ?_; rintro e0 y7 ⟨va1, rfl, hr, hz⟩
                 replace HB : Hid (Reads y7 (.slice ab nb cb0) b) := HB.out.below hz
                 replace HX : Hid (Reads y7 (.slice ax nx cx) x) := HX.out.below hz
                 replace HL2 : Hid (ReadsL y7 l2 rl) := HL2.out.below hz
                 replace HBW : Hid (Below w.heap.size w y7) := HBW.out.trans (hz.mono HBW.out.size)
                 have HA1 : Hid (Reads y7 va1 (recB gen seq x)) := hr
                 clear hz hr)
              | (clear tk7; go_at_call 17; refine (nRecord_any gen seq HG.out HQ.out _ x HXL.out.2 _ HX.out).mono ?_; rintro e0 y8 ⟨vb1, rfl, hr, hz⟩
                 replace HB : Hid (Reads y8 (.slice ab nb cb0) b) := HB.out.below hz
                 replace HX : Hid (Reads y8 (.slice ax nx cx) x) := HX.out.below hz
                 replace HL2 : Hid (ReadsL y8 l2 rl) := HL2.out.below hz
                 replace HA1 : Hid (Reads y8 va1 (recB gen seq x)) := HA1.out.below hz
                 replace HBW : Hid (Below w.heap.size w y8) := HBW.out.trans (hz.mono HBW.out.size)
                 have HC1 : Hid (Reads y8 vb1 (recB gen seq x)) := hr
                 clear hz hr)
              | (clear tk8; go_at_call 13; refine ((same_any _ _ _ _ _ HA1.out HC1.out)).mono ?_; rintro e0 y9 ⟨he, hy⟩
                 rw [decide_eq_true rfl] at he
                 subst he hy
                 clear HA1 HC1)
              | (clear tk9; go_at_call 18; refine (OPS.text gen seq _ x _ HG.out HQ.out HXL.out.1 (HK0.out.below HBW.out HK0.out.lt) HX.out).mono ?_; rintro e0 y10 ⟨va2, rfl, hr, hz⟩
                 replace HB : Hid (Reads y10 (.slice ab nb cb0) b) := HB.out.below hz
                 replace HX : Hid (Reads y10 (.slice ax nx cx) x) := HX.out.below hz
                 replace HL2 : Hid (ReadsL y10 l2 rl) := HL2.out.below hz
                 replace HBW : Hid (Below w.heap.size w y10) := HBW.out.trans (hz.mono HBW.out.size)
                 have HA2 : Hid (Reads y10 va2 (textB gen seq x)) := hr
                 clear hz hr)
              | (clear tk10; go_at_call 19; refine (nText_any gen seq HG.out HQ.out _ x (Nat.lt_trans HXL.out.2 (by decide)) _ HX.out).mono ?_; rintro e0 y11 ⟨vb2, rfl, hr, hz⟩
                 replace HB : Hid (Reads y11 (.slice ab nb cb0) b) := HB.out.below hz
                 replace HX : Hid (Reads y11 (.slice ax nx cx) x) := HX.out.below hz
                 replace HL2 : Hid (ReadsL y11 l2 rl) := HL2.out.below hz
                 replace HA2 : Hid (Reads y11 va2 (textB gen seq x)) := HA2.out.below hz
                 replace HBW : Hid (Below w.heap.size w y11) := HBW.out.trans (hz.mono HBW.out.size)
                 have HC2 : Hid (Reads y11 vb2 (textB gen seq x)) := hr
                 clear hz hr)
              | (clear tk11; go_at_call 13; refine ((same_any _ _ _ _ _ HA2.out HC2.out)).mono ?_; rintro e0 y12 ⟨he, hy⟩
                 rw [decide_eq_true rfl] at he
                 subst he hy
                 clear HA2 HC2)
              | (clear tk12; go_at_call 20; refine (HJC.out _ HX.out).mono ?_; rintro e0 y13 ⟨rfl, hz⟩
                 replace HB : Hid (Reads y13 (.slice ab nb cb0) b) := HB.out.below hz
                 replace HX : Hid (Reads y13 (.slice ax nx cx) x) := HX.out.below hz
                 replace HL2 : Hid (ReadsL y13 l2 rl) := HL2.out.below hz
                 replace HBW : Hid (Below w.heap.size w y13) := HBW.out.trans (hz.mono HBW.out.size)
                 clear hz )
              | (clear tk13; go_at_call 21; refine (HNC.out _ HX.out).mono ?_; rintro e0 y14 ⟨rfl, hy⟩; subst hy)
              | (clear tk14; go_at_call 22; refine (HLD.out _ HB.out).mono ?_; rintro e0 y15 ⟨gd, P1, rfl, hd, hz, hp⟩
                 have HDK : Hid (DkIs y15 gd P1 (loadD b)) := hd
                 obtain ⟨yL, HYL⟩ : ∃ Y : World, Hid (Below w.heap.size w Y ∧ ReadsL Y l2 rl ∧ Below Y.heap.size Y y15 ∧ ∀ k, P1 k → Y.heap.size ≤ k) := ⟨_, HBW.out, HL2.out, hz, hp⟩
                 replace HBW : Hid (Below w.heap.size w y15) := HBW.out.trans (hz.mono HBW.out.size)
                 clear hd hz hp HB HX HL2)
              | (clear tk15; go_at_call 23; refine (HOP.out _ _ _ (HK0.out.below HBW.out HK0.out.lt) HDK.out).mono ?_; rintro e0 y16 ⟨lg, Q, rfl, hm, hl⟩
                 have HBL : Hid (Below yL.heap.size yL y16) := HYL.out.2.2.1.trans (hm.below HYL.out.2.2.1.size HYL.out.2.2.2)
                 replace HBW : Hid (Below w.heap.size w y16) := HYL.out.1.trans (HBL.out.mono HYL.out.1.size)
                 have HLG : Hid (LgE Lg y16 lg Q gd J) := hl
                 have HL2 : Hid (ReadsL y16 l2 rl) := HYL.out.2.1.below HBL.out
                 clear hm HDK hl)
              | (clear tk16; go_at_call 24; refine (HAL.out _ _ _ _ HLG.out).mono ?_; rintro e0 y17 ⟨l3, rfl, hr, hl, hz⟩
                 replace HL2 : Hid (ReadsL y17 l2 rl) := HL2.out.below hz
                 replace HBW : Hid (Below w.heap.size w y17) := HBW.out.trans (hz.mono HBW.out.size)
                 have HL3 : Hid (ReadsL y17 l3 rl) := hr
                 replace HLG : Hid (LgE Lg y17 lg Q gd J) := hl
                 clear hz hr hl)
              | (clear tk17; go_at_call 12; refine (HSM.out _ _ _ HL3.out HL2.out).mono ?_; rintro e0 y18 ⟨rfl, hz⟩
                 replace HBW : Hid (Below w.heap.size w y18) := HBW.out.trans (hz.mono HBW.out.size)
                 replace HLG : Hid (LgE Lg y18 lg Q gd J) := HSG.out _ _ _ _ _ HLG.out hz
                 clear hz HL3 HL2)
              | (clear tk18; go_at_call 25; refine (HGN.out _ _ _ _ HLG.out).mono ?_; rintro e0 y19 ⟨rfl, hl, hz⟩
                 replace HBW : Hid (Below w.heap.size w y19) := HBW.out.trans (hz.mono HBW.out.size)
                 replace HLG : Hid (LgE Lg y19 lg Q gd J) := hl
                 clear hz hl)
              | (clear tk19; go_at_call 25; refine (HGN.out _ _ _ _ HLG.out).mono ?_; rintro e0 y20 ⟨rfl, hl, hz⟩
                 replace HBW : Hid (Below w.heap.size w y20) := HBW.out.trans (hz.mono HBW.out.size)
                 clear hz hl)
              | (clear tk20; go_at_call 9; refine (HWK.out _ (HK0.out.below HBW.out HK0.out.lt)).mono ?_; rintro e0 y21 ⟨rfl, hz⟩
                 replace HBW : Hid (Below w.heap.size w y21) := HBW.out.trans (hz.mono HBW.out.size)
                 clear hz ))
          go_ret
          exact ⟨rfl, HBW.out⟩
end Go.Proofs.YtfdggjadndghlaaDoor
/- All that journal's functions do, as they landed (layer 14). -/
namespace Go.Proofs.YtfdggjadndghlaaDoor
open Go.RowKit
set_option maxRecDepth 100000
theorem mem_sizeL {l : List Bs} {x : Bs} (hx : x ∈ l) : x.length ≤ sizeL l := by
  obtain ⟨i, hi, rfl⟩ := List.getElem_of_mem hx
  have h2 := sizeL_take hi
  have h3 := sizeL_mono l (i + 1)
  rw [List.getD_eq_getElem?_getD, List.getElem?_eq_getElem hi] at h2
  simp only [Option.getD_some] at h2
  have h4 := secR_ge (l[i]).length
  omega
theorem pick_dump {D : DkT} (h : D.wait = []) : dumpD D = D.safe := by rw [dumpD, h]; rfl
theorem jnOps : JnOps LgJ where
  lt := fun h => by
    obtain ⟨vr, us, hm, rfl⟩ := h
    exact hm.lt
  same := fun h hs hq => by
    obtain ⟨vr, us, hm, rfl⟩ := h
    exact ⟨vr, us, hm.same hs hq, rfl⟩
  head := fun gen w hg hk => (jHead_own gen hg w hk).mono (fun e w' h => by
    obtain ⟨v, h1, h2, h3⟩ := h
    exact ⟨v, h1, h2.reads, h3⟩)
  text := fun gen seq v x w hg hq hx _ hr => (jText_own gen seq hg hq v x (by omega) w hr).mono (fun e w' h => by
    obtain ⟨v, h1, h2, h3⟩ := h
    exact ⟨v, h1, h2.reads, h3⟩)
  record := fun gen seq v x w hg hq hx hk hr => (jRecord_own gen seq hg hq v x (by omega) w hk hr).mono (fun e w' h => by
    obtain ⟨v, h1, h2, h3⟩ := h
    exact ⟨v, h1, h2.reads, h3⟩)
  check := fun v x w hr => (jCheck_any v x w hr).mono (fun e w' h => by
    obtain ⟨h1, h2⟩ := h
    rw [h2]
    exact ⟨h1, Below.refl _ _⟩)
  read := fun v b w hl hk hr => jRead_any v b (by omega) w hk hr
  opens := fun {w gd P D} hk hd hw hs hg => by
    by_cases h8 : sizeD D < 8
    · refine (jOpen_small hd h8).mono (fun e w' h => ?_)
      obtain ⟨h1, h2⟩ := h
      subst h2
      rw [show openX D = 1 from if_pos h8, show openD D = D from if_pos h8]
      exact ⟨P, _, h1, hd, Mut.refl _ _, Grew.refl _ _, fun h => absurd h (by decide), fun _ => rfl⟩
    · have h9 := openG_eq (D := D) (by rw [pick_dump hw]; exact hg (by omega))
      have hok : okD D := by obtain ⟨_, _, _, _, hm, _⟩ := hd; exact hm.ok
      refine (jOpen_any hk hd hw hs (by omega)).mono (fun e w' h => ?_)
      obtain ⟨P', lv, h1, h2⟩ := h
      rw [h9] at h1 h2
      rw [show openX D = (runJ D (openS D).1).2 from if_neg h8, show openD D = (runJ D (openS D).1).1 from if_neg h8, (run_size _ D hok).1]
      exact ⟨P', lv, h1, h2.dk, h2.mv, h2.gr, h2.lg, fun h => absurd h h8⟩
  opensX := fun {w gd P D} hk hd hw hs => by
    by_cases h8 : sizeD D < 8
    · refine (jOpen_small hd h8).mono (fun e w' h => ?_)
      obtain ⟨h1, h2⟩ := h
      subst h2
      exact ⟨P, D, _, _, h1, hd, Mut.refl _ _, Grew.refl _ _⟩
    · refine (jOpen_any hk hd hw hs (by omega)).mono (fun e w' h => ?_)
      obtain ⟨P', lv, h1, h2⟩ := h
      exact ⟨P', _, lv, _, h1, h2.dk, h2.mv, h2.gr⟩
  app := fun v x hk hp hok hx hs => jAppend_any v x hk hp hok hx hs
  restart := fun v m hk hp hok hl hx hs => jRestart_any v m hk hp hok hl hx hs
  all := fun {w lg Q gd n J} h hl hz => by
    obtain ⟨vr, us, hm, rfl⟩ := h
    exact jAll_any hm.lb hm.tx.readsL (by omega) (fun x hx => by have := mem_sizeL hx; omega)
  room := fun {w gd lg P Q D J} hp hok => by
    obtain ⟨vr, us, hm, hQ⟩ := hp.lg
    have h1 := hok.fit
    have h2 := hok.hi
    have h3 := sizeL_eq J.l
    unfold hsD at h1
    have h4 := jRoom_any hm.lb (by omega) (by omega)
    rw [show min 1048576 (64 * (sizeD D / 2 - (1 + secL J.l)) - 57) = roomZ J.l (sizeD D) from by rw [roomZ]; omega] at h4
    exact h4
  gen := fun h => by
    obtain ⟨vr, us, hm, rfl⟩ := h
    exact (jGen_any hm.lb).mono (fun e w' h => by
      obtain ⟨h1, h2⟩ := h
      rw [h2]
      exact ⟨h1, Below.refl _ _⟩)
end Go.Proofs.YtfdggjadndghlaaDoor
/- What the listed variable gives: the rounds' words lie where the walks look for them. -/
namespace Go.Proofs.YtfdggjadndghlaaDoor
open Go.ChangeShapes Go.WideShapes Go.ChangeAt Go.WideMaps Go.WideElems Go.RowKit
set_option maxRecDepth 100000
theorem own : ownKnob Tryd.prog.godebug = none := by kernel_rfl
theorem gKw : Tryd.prog.globalNamed "blazon/sha.roundWords" = some 0 := by kernel_rfl
theorem tKw : (Tryd.prog.globals[0]?).map (·.type) = some 125 := by kernel_rfl
def laidK : List (String × DataW Unit) := [("blazon/sha.roundWords", Rows.laid_blazon_sha_roundWords)]
def kzs : List Int := kw.map fun x => (x.toNat : Int)
theorem laid_tab : (Rows.laid_blazon_sha_roundWords : DataW Unit) = Lib.tabData .u32 kzs := by kernel_rfl
theorem door_met (os : Os) (args : Array Value) : laidMetH Tryd.prog laidK ((World.doorLaid Tryd.prog 400 os).forCall (fun _ _ => 0) ⟨#[], args, []⟩).memory :=
  laidMetH_of_parts3 (fuel := 8) (laidMet_of_run' 8 (by kernel_rfl) (by kernel_rfl)) (by kernel_rfl) (by kernel_rfl)
theorem getD_toNat (l : List (BitVec 32)) (j : Nat) : (l.map fun x => (x.toNat : Int)).getD j 0 = ((l.getD j 0).toNat : Int) := by
  rw [List.getD_eq_getElem?_getD, List.getD_eq_getElem?_getD, List.getElem?_map]
  cases l[j]? <;> rfl
theorem kok_of_laid {W : World} (h : laidMetH Tryd.prog laidK W) : KOk W := by
  rw [MakeChecks.laidMetH_plain _ _ _ (by kernel_rfl)] at h
  unfold laidK at h
  rw [laid_tab] at h
  have hT := Lib.tabIs_of_head gKw tKw Tryd.underlying125 Tryd.underlying116 (by kernel_rfl) (by kernel_rfl) h
  intro j hj
  rw [hT.cell gKw j (by simpa [kzs, kw] using hj), kzs, getD_toNat]
end Go.Proofs.YtfdggjadndghlaaDoor
/- What a slice of bytes that came in gives: the bytes that it reads as; and that it reads so still behind a call that changed no old block. -/
namespace Go.Proofs.YtfdggjadndghlaaDoor
open Go.ChangeShapes Go.WideShapes Go.ChangeAt Go.WideMaps Go.WideElems Go.RowKit
set_option maxRecDepth 100000
theorem cells_byte : Tryd.prog.cellsOf 5 = 1 := by kernel_rfl
theorem laid_out : laidOutB Tryd.prog = true := by kernel_rfl
theorem readable_bytes : Tryd.prog.readableRec 22 = true := by kernel_rfl
theorem row_bytes : 22 < Tryd.prog.types.size := of_decide_eq_true (by kernel_rfl)
theorem byte_range {zs : List Int} (h : ∀ n ∈ zs, (Lit.int .u8 n).wf = true) (j : Nat) : 0 ≤ zs.getD j 0 ∧ zs.getD j 0 < 256 := by
  rw [List.getD_eq_getElem?_getD]
  cases hj : zs[j]? with
  | none => simp
  | some n =>
    have := h n (List.mem_of_getElem? hj)
    have := bounds_u8 this
    simp
    omega
theorem reads_of_trod {H : Type} {enc : TypeId × Value → H} {W : World} {base : Nat} {v : Value} {d : DataW H} {p : List MemPlace} (hval : Value.okWide Tryd.prog W .any base 22 v)
    (h : DataW.Trod enc Tryd.prog W 0 (fun _ => true) true 22 v d p) :
    ∃ bs, Reads W v bs ∧ bs.length ≤ maxLen ∧ ∀ x ∈ p, x.block < W.heap.size := by
  obtain ⟨a1, len, cap, rfl⟩ := okWide_slice Tryd.underlying22 hval
  obtain ⟨fuel, hf⟩ := h
  rcases open_ints Tryd.underlying22 Tryd.underlying5 cells_byte hf with ⟨hcs, hx⟩ | ⟨a, len', cap', zs, hcs, _, hl, hm, hz, hx, hcell, hwz⟩
  · simp [Value.cells] at hcs
    obtain ⟨rfl, rfl, rfl⟩ := hcs
    simp only [Prod.mk.injEq] at hx
    obtain ⟨rfl, rfl⟩ := hx
    exact ⟨[], ⟨none, 0, rfl, Nat.le_refl _, fun _ => rfl, fun h => by cases h⟩, Nat.zero_le _, fun _ h => by cases h⟩
  · simp [Value.cells] at hcs
    obtain ⟨rfl, rfl, rfl⟩ := hcs
    simp only [Prod.mk.injEq] at hx
    obtain ⟨rfl, rfl⟩ := hx
    simp only [if_true] at hz
    have hlen : ((zs.take len).map fun n => BitVec.ofInt 8 n).length = len := by simp; omega
    obtain ⟨ab, ao, spot⟩ := a
    refine ⟨(zs.take len).map fun n => BitVec.ofInt 8 n, ⟨some ⟨ab, ao, spot⟩, cap, by rw [hlen], by rw [hlen]; exact hl, (fun h => by cases h), fun hp => ?_⟩, by rw [hlen]; omega, fun x hx => ?_⟩
    · rw [hlen] at hp ⊢
      have hspot : spot = none := by simpa [Addr.add] using World.cell?_spot (hcell 0 (by omega))
      subst hspot
      refine ⟨ab, ao, rfl, fun j hj => ?_⟩
      have hcj := hcell j (by omega)
      rw [Addr.add_lit] at hcj
      rw [hcj]
      have hb := byte_range hwz j
      have e : ((zs.take len).map fun n => BitVec.ofInt 8 n).getD j 0 = BitVec.ofInt 8 (zs.getD j 0) := by
        rw [List.getD_eq_getElem?_getD, List.getElem?_map, List.getElem?_take_of_lt hj, List.getD_eq_getElem?_getD, List.getElem?_eq_getElem (show j < zs.length by omega)]
        rfl
      rw [e, BitVec.toNat_ofInt]
      congr 2
      omega
    · simp only [MemPlace.row, List.mem_map, List.mem_range] at hx
      obtain ⟨i, hi, rfl⟩ := hx
      have hcj := hcell i (by omega)
      have := block_lt_of_cell hcj
      simp only [Addr.add] at this
      split at this <;> exact this
end Go.Proofs.YtfdggjadndghlaaDoor

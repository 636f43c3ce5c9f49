/- The walk of disk's Load (layer 13). -/
import Derived.Test.YtdllnedmhhajnaaDkVd
namespace Go.Proofs.Ytdllnedmhhajnaa
open Go.RowKit
set_option maxRecDepth 100000
set_option maxRecDepth 100000 in
set_option maxHeartbeats 8000000 in
theorem dkLoad_any (w : World) (v : Value) (b : Bs) (n : Nat) (hr : Reads w v b) (hbl : b.length = 64 * n) (h1 : 1 ≤ n) (h2 : n ≤ 200) : Calls Try.prog 17 #[v] w fun r w' => ∃ g P, r = .returned (.tuple #[.pointer (some ⟨g, 0, none⟩), .int .i64 0]) ∧ DkIs w' g P (loadD b) ∧ Below w.heap.size w w' ∧ ∀ k, P k → w.heap.size ≤ k := by
  obtain ⟨ad, cp, hv, hcp, _, hx⟩ := id hr
  obtain ⟨bb, ob, rfl, _⟩ := hx (by omega)
  obtain ⟨N, HNN⟩ : ∃ N : Nat, Hid (N = b.length) := ⟨_, rfl⟩
  rw [← HNN.out] at hv hcp
  subst hv
  have HNE : Hid (N = 64 * n) := by show _ = _; rw [HNN.out]; exact hbl
  have HR : Hid (1 ≤ n ∧ n ≤ 200) := ⟨h1, h2⟩
  have HCP : Hid (N ≤ cp) := hcp
  have HRD : Hid (Reads w (.slice (some ⟨bb, ob, none⟩) N cp) b) := hr
  have HBL : Hid (b.length = 64 * n) := hbl
  have hne := HNE.out
  have f1 : (N : Int) % 64 = 0 := by omega
  have f2 : wrap64 ((N : Int) / 64) = (n : Int) := by have e : (N : Int) / 64 = (n : Int) := by omega
                                                      rw [e]; unfold wrap64; omega
  have HNW : Hid (Calls Try.prog 19 #[.int .i64 (n : Int)] w fun r w' => ∃ g gs, r = .returned (.tuple #[.pointer (some ⟨g, 0, none⟩), .int .i64 0]) ∧ DkM w' g gs (.slice none 0 0) false 0 (zeroD n) ∧ Below w.heap.size w w' ∧ w.heap.size ≤ g ∧ w.heap.size ≤ gs) := dkNew_m w n h1 (by omega)
  clear hr hbl h1 h2 hcp hx hne
  go_enter Try.func17, Try.ntmps17
  have tk0 : Hid True := trivial
  go_wp2_with (first
    | (clear tk0; go_at_call 19; refine (HNW.out).mono ?_; rintro e0 y1 ⟨g, gs, rfl, hm, hb, hg1, hg2⟩
       have HM : Hid (DkM y1 g gs (.slice none 0 0) false 0 (zeroD n)) := hm
       have HBW : Hid (Below w.heap.size w y1) := hb
       have HG1 : Hid (w.heap.size ≤ g) := hg1
       have HG2 : Hid (w.heap.size ≤ gs) := hg2
       have HME : Hid (Blk y1 g [.slice (some ⟨gs, 0, none⟩) n n, .slice none 0 0, .bool false, .bool false, .int .i64 0] 68) := by have h9 := hm.me; rw [size_zero] at h9; exact h9
       have c0 : y1.cell? ⟨g, 0, none⟩ = some (.slice (some ⟨gs, 0, none⟩) n n) := HME.out.cell 0
       clear hm hb hg1 hg2))
  clear c0 f1 f2 HNW
  obtain ⟨z, HZZ⟩ : ∃ z : Bs, Hid (z = List.replicate (64 * n) 0) := ⟨_, rfl⟩
  have HZL : Hid (z.length = 64 * n) := by show _ = _; rw [HZZ.out, List.length_replicate]
  have HSZ : Hid (Blk y1 gs (cb z) 70) := by rw [HZZ.out]; exact HM.out.sf
  have HNG : Hid (g ≠ gs) := HM.out.ne.1
  go_loopw [26] (fun i wr => ∃ k : Nat, k ≤ n ∧ i = .int .i64 (k : Int) ∧ Hid (Blk wr gs (cb (upTo b z k)) 70) ∧ Hid (Blk wr g [.slice (some ⟨gs, 0, none⟩) n n, .slice none 0 0, .bool false, .bool false, .int .i64 0] 68) ∧ Hid (Below w.heap.size w wr)) (fun i _ => n - (intOf i).toNat)
  case atStart => exact ⟨0, Nat.zero_le _, rfl, by rw [upTo_zero]; exact HSZ, HME, HBW⟩
  case round =>
    obtain ⟨k, hkn, rfl, HBK, HMEr, HBB⟩ := hrel
    clear HSZ HME HBW HM
    by_cases hlt : k < n
    case pos =>
      have hlk : (k : Int) < (n : Int) := by omega
      have f5 : IntKind.i64.wrap ((k : Int) + 1) = (k : Int) + 1 := by rw [IntKind.wrap_i64]; have := HR.out.2; omega
      obtain ⟨o, HOO⟩ : ∃ o : Nat, Hid (o = 64 * k) := ⟨_, rfl⟩
      have f6 : IntKind.i64.wrap ((k : Int) * 64) = (o : Int) := by rw [IntKind.wrap_i64]; have := HR.out.2; have := HOO.out; omega
      have HKN : Hid (k < n) := hlt
      have HON : Hid (o < N ∧ 64 ≤ N - o) := by have h1 := HOO.out; have h2 := HNE.out; exact ⟨by omega, by omega⟩
      have HS6 : Hid ((secD b k).length = 64) := sec_len (by rw [HBL.out]; omega)
      go_wp2_with fail
      refine wp_region_held_drew (S := fun wx => Blk wx g [.slice (some ⟨gs, 0, none⟩) n n, .slice none 0 0, .bool false, .bool false, .int .i64 0] 68) (by kernel_rfl) HMEr.out.drew ?_
      intro hS
      have HB3 : Hid (Blk wr.drew gs (cb (upTo b z k)) 70) := HBK.out.drew
      have HBB3 : Hid (Below w.heap.size w wr.drew) := HBB.out.drew
      clear HBK HBB HMEr
      change wpAnyH _ _ _ _ _ _ _ _ (World.drew wr)
      generalize World.drew wr = y3 at *
      refine wpAnyH_take (i := 0) (v := .pointer (some ⟨g, 0, none⟩)) rfl (by kernel_rfl) (by kernel_rfl) (by kernel_rfl) (fun _ _ _ h => h) (Or.inl ⟨by rfl, fun wx hx => by simp [go_sem]⟩) hS ?_
      simp only [Act.put, List.getElem_toArray, List.getElem_cons_zero, List.setIfInBounds_toArray, List.set_cons_zero, List.set_cons_succ]
      refine wpAnyH_take (i := 1) (v := .pointer (some ⟨g, 0, none⟩)) rfl (by kernel_rfl) (by kernel_rfl) (by kernel_rfl) (fun _ _ _ h => h) (Or.inl ⟨by rfl, fun wx hx => by simp [go_sem]⟩) hS ?_
      simp only [Act.put, List.getElem_toArray, List.getElem_cons_succ, List.getElem_cons_zero, List.setIfInBounds_toArray, List.set_cons_zero, List.set_cons_succ]
      refine wpAnyH_take (i := 2) (v := .pointer (some ⟨g, 0, none⟩)) rfl (by kernel_rfl) (by kernel_rfl) (by kernel_rfl) (fun _ _ _ h => h) (Or.inl ⟨by rfl, fun wx hx => by simp [go_sem]⟩) hS ?_
      simp only [Act.put, List.getElem_toArray, List.getElem_cons_succ, List.getElem_cons_zero, List.setIfInBounds_toArray, List.set_cons_zero, List.set_cons_succ]
      refine wpAnyH_take (i := 3) (v := .slice (some ⟨gs, 0, none⟩) n n) rfl (by kernel_rfl) (by kernel_rfl) (by kernel_rfl) (fun _ _ _ h => h) (Or.inl ⟨by rfl, fun wx hx => by (have hc := hx.cell 0; simp at hc; simp [go_sem, hc])⟩) hS ?_
      simp only [Act.put, List.getElem_toArray, List.getElem_cons_succ, List.getElem_cons_zero, List.setIfInBounds_toArray, List.set_cons_zero, List.set_cons_succ]
      refine wpAnyH_take (i := 4) (v := .int .i64 (k : Int)) rfl (by kernel_rfl) (by kernel_rfl) (by kernel_rfl) (fun _ _ _ h => h) (Or.inl ⟨by rfl, fun wx hx => by simp [go_sem]⟩) hS ?_
      simp only [Act.put, List.getElem_toArray, List.getElem_cons_succ, List.getElem_cons_zero, List.setIfInBounds_toArray, List.set_cons_zero, List.set_cons_succ]
      refine wpAnyH_take (i := 5) (v := .pointer (some ⟨gs, 64 * k, none⟩)) rfl (by kernel_rfl) (by kernel_rfl) (by kernel_rfl) (fun _ _ _ h => h) (Or.inl ⟨by rfl, fun wx hx => by exact idxSec gs n k HKN.out _ _ _ _ rfl rfl rfl _⟩) hS ?_
      simp only [Act.put, List.getElem_toArray, List.getElem_cons_succ, List.getElem_cons_zero, List.setIfInBounds_toArray, List.set_cons_zero, List.set_cons_succ]
      refine wpAnyH_take (i := 6) (v := .slice (some ⟨gs, 64 * k, none⟩) 64 64) rfl (by kernel_rfl) (by kernel_rfl) (by kernel_rfl) (fun _ _ _ h => h) (Or.inl ⟨by rfl, fun wx hx => by exact sliceSec gs (64 * k) _ _ _ rfl rfl _⟩) hS ?_
      simp only [Act.put, List.getElem_toArray, List.getElem_cons_succ, List.getElem_cons_zero, List.setIfInBounds_toArray, List.set_cons_zero, List.set_cons_succ]
      refine wpAnyH_take (i := 7) (v := .slice (some ⟨bb, ob, none⟩) N cp) rfl (by kernel_rfl) (by kernel_rfl) (by kernel_rfl) (fun _ _ _ h => h) (Or.inl ⟨by rfl, fun wx hx => by simp [go_sem]⟩) hS ?_
      simp only [Act.put, List.getElem_toArray, List.getElem_cons_succ, List.getElem_cons_zero, List.setIfInBounds_toArray, List.set_cons_zero, List.set_cons_succ]
      refine wpAnyH_take (i := 8) (v := .int .i64 (k : Int)) rfl (by kernel_rfl) (by kernel_rfl) (by kernel_rfl) (fun _ _ _ h => h) (Or.inl ⟨by rfl, fun wx hx => by simp [go_sem]⟩) hS ?_
      simp only [Act.put, List.getElem_toArray, List.getElem_cons_succ, List.getElem_cons_zero, List.setIfInBounds_toArray, List.set_cons_zero, List.set_cons_succ]
      refine wpAnyH_take (i := 9) (v := .int .i64 (o : Int)) rfl (by kernel_rfl) (by kernel_rfl) (by kernel_rfl) (fun _ _ _ h => h) (Or.inl ⟨by rfl, fun wx hx => by simp [go_sem, f6]⟩) hS ?_
      simp only [Act.put, List.getElem_toArray, List.getElem_cons_succ, List.getElem_cons_zero, List.setIfInBounds_toArray, List.set_cons_zero, List.set_cons_succ]
      refine wpAnyH_take (i := 10) (v := .slice (some ⟨bb, ob + o, none⟩) (N - o) (cp - o)) rfl (by kernel_rfl) (by kernel_rfl) (by kernel_rfl) (fun _ _ _ h => h) (Or.inl ⟨by rfl, fun wx hx => by exact cutFrom bb ob N cp o HON.out.1 HCP.out _ _ _ _ rfl rfl rfl _⟩) hS ?_
      simp only [Act.put, List.getElem_toArray, List.getElem_cons_succ, List.getElem_cons_zero, List.setIfInBounds_toArray, List.set_cons_zero, List.set_cons_succ]
      have hsrc : ∀ j, j < (secD b k).length → y3.cell? ⟨bb, ob + o + j, none⟩ = some (.int .u8 (((secD b k).getD j 0).toNat : Int)) := fun j hj => by
        have hj6 : j < 64 := by rw [HS6.out] at hj; exact hj
        have h1 := (HRD.out.below HBB3.out).cellsAt (64 * k + j) (by rw [HBL.out]; have := HKN.out; omega)
        rw [Nat.add_assoc, HOO.out, h1, List.getD_eq_getElem?_getD, List.getD_eq_getElem?_getD, sec_at hj6]
      refine wpAnyH_copyO 11 (.tmp 35) (.tmp 39) gs (64 * k) 64 64 bb (ob + o) (N - o) (cp - o) 70 _ (secD b k) HB3.out (by rw [HS6.out]; have := HON.out.2; omega) (by rw [HS6.out, cb_len, upTo_len HBL.out HZL.out (Nat.le_of_lt HKN.out)]; have h1 := HKN.out; omega) hsrc (by kernel_rfl) rfl (by rfl) rfl rfl rfl ?_
      intro y4 hb4 ho4
      have hS4 := hS.only ho4 HNG.out
      refine ⟨hS4, ?_⟩
      have HB4 : Hid (Blk y4 gs (cb (upTo b z (k + 1))) 70) := by
        rw [lay_sec HS6.out, upTo_step HBL.out HKN.out] at hb4
        exact hb4
      have HBB4 : Hid (Below w.heap.size w y4) := HBB3.out.trans (ho4.below HG2.out HBB3.out.size)
      have HM4 : Hid (Blk y4 g [.slice (some ⟨gs, 0, none⟩) n n, .slice none 0 0, .bool false, .bool false, .int .i64 0] 68) := hS4
      clear hb4 ho4 hsrc hS hS4 HB3 HBB3
      simp only [Act.put, List.getElem_toArray, List.getElem_cons_succ, List.getElem_cons_zero]
      refine wpAnyH_done (by kernel_rfl) ?_ _
      go_wp2
      go_roundw
      case rel => exact ⟨k + 1, by omega, by simp, HB4, HM4, HBB4⟩
      case measure => simp [intOf]; omega
    case neg =>
      have hlk : ¬ ((k : Int) < (n : Int)) := by omega
      obtain rfl : k = n := by omega
      have HB2 : Hid (Blk wr gs (cb b) 70) := by
        have h9 := HBK.out
        rw [upTo_all HBL.out HZL.out] at h9
        exact h9
      go_wp2
      refine bodyPost_ret (results_tmp2 rfl _ _ _) rfl ?_
      refine ⟨g, rfl, dkP g gs (.slice none 0 0), ⟨gs, .slice none 0 0, false, 0, ⟨?_, HB2.out, OwnV.nil _, okD_load HBL.out HR.out.1 (Nat.le_trans HR.out.2 (by decide)), rfl, fun h => absurd h (by show ¬ (0 : Int) ≤ -1; decide)⟩, rfl⟩, HBB.out, fun j hj => ?_⟩
      · have e : sizeD (loadD b) = k := by show b.length / 64 = k; rw [HBL.out, Nat.mul_div_cancel_left _ (by decide)]
        rw [e]
        exact HMEr.out
      · rcases hj with rfl | rfl | hj
        · exact HG1.out
        · exact HG2.out
        · cases hj
set_option maxRecDepth 100000 in
set_option maxHeartbeats 8000000 in
theorem dkLoad_arg (w : World) (v : Value) (b : Bs) (hr : Reads w v b) (hb : b.length % 64 ≠ 0) : Calls Try.prog 17 #[v] w fun r w' => r = .returned (.tuple #[.pointer none, .int .i64 1]) ∧ Below w.heap.size w w' := by
  obtain ⟨ad, cp, hv, _⟩ := id hr
  obtain ⟨N, HNN⟩ : ∃ N : Nat, Hid (N = b.length) := ⟨_, rfl⟩
  rw [← HNN.out] at hv hb
  subst hv
  have q1 : ((N : Int) % 64 != 0) = true := by rw [bne_iff_ne]; omega
  clear hr hb
  go_enter Try.func17, Try.ntmps17
  go_wp2
  refine bodyPost_ret (results_tmp2 rfl _ _ _) rfl ?_
  exact ⟨rfl, Below.refl _ _⟩
set_option maxRecDepth 100000 in
set_option maxHeartbeats 8000000 in
theorem dkLoad_range (w : World) (v : Value) (hr : Reads w v []) : Calls Try.prog 17 #[v] w fun r w' => r = .returned (.tuple #[.pointer none, .int .i64 2]) ∧ Below w.heap.size w w' := by
  obtain ⟨ad, cp, hv, _⟩ := id hr
  rw [List.length_nil] at hv
  subst hv
  clear hr
  have HNW : Hid (Calls Try.prog 19 #[.int .i64 0] w fun r w' => r = .returned (.tuple #[.pointer none, .int .i64 2]) ∧ Below w.heap.size w w') := dkNew_bad w 0 (Or.inl (by decide))
  go_enter Try.func17, Try.ntmps17
  have tk0 : Hid True := trivial
  go_wp2_with (first
    | (clear tk0; go_at_call 19; refine (HNW.out).mono ?_; rintro e0 y1 ⟨rfl, hb⟩
       have HBW : Hid (Below w.heap.size w y1) := hb
       clear hb))
  refine bodyPost_ret (results_tmp2 rfl _ _ _) rfl ?_
  exact ⟨rfl, HBW.out⟩
end Go.Proofs.Ytdllnedmhhajnaa

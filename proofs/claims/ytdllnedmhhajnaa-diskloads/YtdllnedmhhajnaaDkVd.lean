/- The walks of disk's Dump and Load (layer 13). -/
import Derived.Test.YtdllnedmhhajnaaDkVy
namespace Go.Proofs.Ytdllnedmhhajnaa
open Go.RowKit
set_option maxRecDepth 100000
theorem wpAnyH_copyO {md : Region.Mode} {ops : Array Oper} {Q : Exit → Act → World → Prop} {S : World → Prop} {fuel : Nat} {listed : Array Bool} {a : Act} {w : World} (i : Nat) {oi : Oper} (d s : Operand) (g k dLen dCap b off sLen sCap : Nat) (t : TypeId) (cs : List Value) (xs : Bs) (hg : Blk w g cs t) (hm : xs.length = min sLen dLen) (hk : k + xs.length ≤ cs.length)
    (hsrc : ∀ j, j < xs.length → w.cell? ⟨b, off + j, none⟩ = some (.int .u8 ((xs.getD j 0).toNat : Int))) (hr : Region.ready md ops listed = [i]) (hi : ops[i]? = some oi) (hw : Region.wanted oi (yielded ops a.tmps) = true) (ho : oi.op = .call { callee := .builtin .copy, args := #[d, s], argTypes := #[24, 24] }) (hx : a.eval d = .slice (some ⟨g, k, none⟩) dLen dCap) (hy : a.eval s = .slice (some ⟨b, off, none⟩) sLen sCap)
    (h : ∀ w', Blk w' g (cs.take k ++ cb xs ++ cs.drop (k + xs.length)) t → Only g w w' → S w' ∧ wpAnyH Try.prog md ops Q S fuel (listed.setIfInBounds i true) (a.put oi.dst (.int .i64 (xs.length : Int))) w') : wpAnyH Try.prog md ops Q S (fuel + 1) listed a w := by
  obtain ⟨w', h1, h2, h3⟩ := copyO a.eval oi d s ho w g k dLen dCap b off sLen sCap t cs xs hg hm hk hsrc hx hy
  obtain ⟨hS, h4⟩ := h w' h2 h3
  exact wpAnyH_step i _ w' hr hi hw h1 hS h4
theorem range_cells {w : World} {b off : Nat} {x : Bs} (h : w.rangeAt b off (cb x)) : ∀ j, j < x.length → w.cell? ⟨b, off + j, none⟩ = some (.int .u8 ((x.getD j 0).toNat : Int)) := fun j hj => h j _ (cb_get x j hj)
/-- the first k sectors of x, and z behind them -/
def upTo (x z : Bs) (k : Nat) : Bs := x.take (64 * k) ++ z.drop (64 * k)
theorem upTo_zero (x z : Bs) : upTo x z 0 = z := by simp [upTo]
theorem upTo_all {x z : Bs} {n : Nat} (hx : x.length = 64 * n) (hz : z.length = 64 * n) : upTo x z n = x := by rw [upTo, List.take_of_length_le (by omega), List.drop_of_length_le (by omega), List.append_nil]
theorem upTo_len {x z : Bs} {n k : Nat} (hx : x.length = 64 * n) (hz : z.length = 64 * n) (hk : k ≤ n) : (upTo x z k).length = 64 * n := by rw [upTo, List.length_append, List.length_take, List.length_drop]; omega
theorem upTo_step {x z : Bs} {n k : Nat} (hx : x.length = 64 * n) (hk : k < n) : layD (upTo x z k) k (secD x k) 64 = upTo x z (k + 1) := by
  have e1 : (x.take (64 * k)).length = 64 * k := by rw [List.length_take]; omega
  have e2 : (secD x k).take 64 = secD x k := List.take_of_length_le (by rw [sec_len (by omega)]; exact Nat.le_refl _)
  have e3 : x.take (64 * (k + 1)) = x.take (64 * k) ++ secD x k := by rw [show 64 * (k + 1) = 64 * k + 64 by omega, List.take_add]; rfl
  have e4 : (x.take (64 * k) ++ z.drop (64 * k)).take (64 * k) = x.take (64 * k) := by rw [List.take_append_of_le_length (by omega), List.take_take, Nat.min_self]
  have e5 : (x.take (64 * k) ++ z.drop (64 * k)).drop (64 * k + 64) = z.drop (64 * (k + 1)) := by
    rw [List.drop_append, e1, List.drop_of_length_le (by rw [e1]; omega), List.nil_append, List.drop_drop]
    congr 1
    omega
  rw [layD, upTo, e2, e4, e5, upTo, e3, List.append_assoc]
theorem lay_sec {b x : Bs} {k : Nat} (hx : x.length = 64) : (cb b).take (64 * k) ++ cb x ++ (cb b).drop (64 * k + x.length) = cb (layD b k x 64) := by
  have := lay_store (b := b) (at_ := k) hx
  rwa [cb_len] at this
set_option maxRecDepth 100000 in
set_option maxHeartbeats 8000000 in
theorem dkDump_any {w : World} {g : Nat} {P : Nat → Prop} {D : DkT} (h : DkIs w g P D) (hw2 : D.wait.length ≤ 200) : Calls Try.prog 14 #[.pointer (some ⟨g, 0, none⟩)] w fun r w' => ∃ P' v, r = .returned v ∧ Sta P' w' (fun W => Reads W v (dumpD D)) ∧ DkIs w' g P' D ∧ Mut P w w' ∧ Grew w P P' := by
  obtain ⟨gs, vw, fu, lf, hm, hP⟩ := h
  subst hP
  obtain ⟨n, HN⟩ : ∃ n, Hid (n = sizeD D) := ⟨_, rfl⟩
  obtain ⟨aw, cw, hvw⟩ := hm.wt.form
  obtain ⟨nw, HNW⟩ : ∃ n, Hid (n = D.wait.length) := ⟨_, rfl⟩
  rw [← HNW.out] at hvw
  subst hvw
  obtain ⟨dn, HDN⟩ : ∃ b, Hid (b = D.down) := ⟨_, rfl⟩
  have HM : Hid (DkM w g gs (.slice aw nw cw) fu lf D) := hm
  have HME : Hid (Blk w g [.slice (some ⟨gs, 0, none⟩) n n, .slice aw nw cw, .bool dn, .bool fu, .int .i64 lf] 68) := by have h9 := hm.me; rw [dkC, ← HN.out, ← HDN.out] at h9; exact h9
  have c0 : w.cell? ⟨g, 0, none⟩ = some (.slice (some ⟨gs, 0, none⟩) n n) := HME.out.cell 0
  have HW2 : Hid (nw ≤ 200) := by show _ ≤ _; rw [HNW.out]; exact hw2
  have HOK : Hid (okD D) := hm.ok
  obtain ⟨N, HNN⟩ : ∃ N : Nat, Hid (N = 64 * n) := ⟨_, rfl⟩
  have HSL : Hid (D.safe.length = 64 * n ∧ n ≤ 16384) := by rw [HN.out]; exact ⟨hm.ok.size.1, hm.ok.size.2.2⟩
  have HMK : Hid (N ≤ N ∧ N < 281474976710600) := ⟨Nat.le_refl _, by have h1 := HNN.out; have h2 := HSL.out.2; omega⟩
  clear hm hw2
  have f1 : IntKind.i64.wrap ((n : Int) * 64) = (N : Int) := by rw [IntKind.wrap_i64]; have h1 := HNN.out; have h2 := HSL.out.2; omega
  go_enter Try.func14, Try.ntmps14
  have tk0 : Hid True := trivial
  go_wp2_with (first
    | (clear tk0; with_reducible refine wpSeq_make (.tmp 12) (.tmp 12) N N HMK.out.1 HMK.out.2 ?_ ?_ ?_ ?_ ?_
       · rfl
       · rfl
       · rfl
       · rfl
       intro gb y1 z hz hge hzb hzl
       have HGE : Hid (w.heap.size ≤ gb) := hge
       have HBZ : Hid (Blk y1 gb (cb z) 5) := hzb
       have HBW : Hid (Below w.heap.size w y1) := hzl
       have HZL : Hid (z.length = 64 * n) := by show _ = _; rw [hz, List.length_replicate, HNN.out]
       have HME1 : Hid (Blk y1 g [.slice (some ⟨gs, 0, none⟩) n n, .slice aw nw cw, .bool dn, .bool fu, .int .i64 lf] 68) := HME.out.below hzl HME.out.lt
       replace c0 : y1.cell? ⟨g, 0, none⟩ = some (.slice (some ⟨gs, 0, none⟩) n n) := HME1.out.cell 0
       clear hz hge hzb hzl))
  clear c0 f1 HME1
  go_loopw [19] (fun i wr => ∃ k : Nat, k ≤ n ∧ i = .int .i64 (k : Int) ∧ Hid (Blk wr gb (cb (upTo D.safe z k)) 5) ∧ Hid (Below w.heap.size w wr)) (fun i _ => n - (intOf i).toNat)
  case atStart => exact ⟨0, Nat.zero_le _, rfl, by rw [upTo_zero]; exact HBZ, HBW⟩
  case round =>
    obtain ⟨k, hkn, rfl, HBK, HBB⟩ := hrel
    clear HBZ HBW
    have HMEr : Hid (Blk wr g [.slice (some ⟨gs, 0, none⟩) n n, .slice aw nw cw, .bool dn, .bool fu, .int .i64 lf] 68) := HME.out.below HBB.out HME.out.lt
    by_cases hlt : k < n
    case pos =>
      have hlk : (k : Int) < (n : Int) := by omega
      have f5 : IntKind.i64.wrap ((k : Int) + 1) = (k : Int) + 1 := by rw [IntKind.wrap_i64]; have := HSL.out.2; omega
      obtain ⟨o, HOO⟩ : ∃ o : Nat, Hid (o = 64 * k) := ⟨_, rfl⟩
      have f6 : IntKind.i64.wrap ((k : Int) * 64) = (o : Int) := by rw [IntKind.wrap_i64]; have := HSL.out.2; have := HOO.out; omega
      have HKN : Hid (k < n) := hlt
      have HON : Hid (o < N ∧ 64 ≤ N - o) := by have h1 := HOO.out; have h2 := HNN.out; exact ⟨by omega, by omega⟩
      have HS6 : Hid ((secD D.safe k).length = 64) := sec_len (by rw [HSL.out.1]; omega)
      go_wp2_with fail
      refine wp_region_held_drew (S := fun wx => Blk wx g [.slice (some ⟨gs, 0, none⟩) n n, .slice aw nw cw, .bool dn, .bool fu, .int .i64 lf] 68) (by kernel_rfl) HMEr.out.drew ?_
      intro hS
      have HB3 : Hid (Blk wr.drew gb (cb (upTo D.safe z k)) 5) := HBK.out.drew
      have HBB3 : Hid (Below w.heap.size w wr.drew) := HBB.out.drew
      clear HBK HBB HMEr
      change wpAnyH _ _ _ _ _ _ _ _ (World.drew wr)
      generalize World.drew wr = y3 at *
      refine wpAnyH_take (i := 0) (v := .slice (some ⟨gb, 0, none⟩) N N) rfl (by kernel_rfl) (by kernel_rfl) (by kernel_rfl) (fun _ _ _ h => h) (Or.inl ⟨by rfl, fun wx hx => by simp [go_sem]⟩) hS ?_
      simp only [Act.put, List.getElem_toArray, List.getElem_cons_zero, List.setIfInBounds_toArray, List.set_cons_zero, List.set_cons_succ]
      refine wpAnyH_take (i := 1) (v := .int .i64 (k : Int)) rfl (by kernel_rfl) (by kernel_rfl) (by kernel_rfl) (fun _ _ _ h => h) (Or.inl ⟨by rfl, fun wx hx => by simp [go_sem]⟩) hS ?_
      simp only [Act.put, List.getElem_toArray, List.getElem_cons_succ, List.getElem_cons_zero, List.setIfInBounds_toArray, List.set_cons_zero, List.set_cons_succ]
      refine wpAnyH_take (i := 2) (v := .int .i64 (o : Int)) rfl (by kernel_rfl) (by kernel_rfl) (by kernel_rfl) (fun _ _ _ h => h) (Or.inl ⟨by rfl, fun wx hx => by simp [go_sem, f6]⟩) hS ?_
      simp only [Act.put, List.getElem_toArray, List.getElem_cons_succ, List.getElem_cons_zero, List.setIfInBounds_toArray, List.set_cons_zero, List.set_cons_succ]
      refine wpAnyH_take (i := 3) (v := .slice (some ⟨gb, 0 + o, none⟩) (N - o) (N - o)) rfl (by kernel_rfl) (by kernel_rfl) (by kernel_rfl) (fun _ _ _ h => h) (Or.inl ⟨by rfl, fun wx hx => by exact cutFrom gb 0 N N o HON.out.1 (Nat.le_refl _) _ _ _ _ rfl rfl rfl _⟩) hS ?_
      simp only [Act.put, List.getElem_toArray, List.getElem_cons_succ, List.getElem_cons_zero, List.setIfInBounds_toArray, List.set_cons_zero, List.set_cons_succ]
      refine wpAnyH_take (i := 4) (v := .pointer (some ⟨g, 0, none⟩)) rfl (by kernel_rfl) (by kernel_rfl) (by kernel_rfl) (fun _ _ _ h => h) (Or.inl ⟨by rfl, fun wx hx => by simp [go_sem]⟩) hS ?_
      simp only [Act.put, List.getElem_toArray, List.getElem_cons_succ, List.getElem_cons_zero, List.setIfInBounds_toArray, List.set_cons_zero, List.set_cons_succ]
      refine wpAnyH_take (i := 5) (v := .pointer (some ⟨g, 0, none⟩)) rfl (by kernel_rfl) (by kernel_rfl) (by kernel_rfl) (fun _ _ _ h => h) (Or.inl ⟨by rfl, fun wx hx => by simp [go_sem]⟩) hS ?_
      simp only [Act.put, List.getElem_toArray, List.getElem_cons_succ, List.getElem_cons_zero, List.setIfInBounds_toArray, List.set_cons_zero, List.set_cons_succ]
      refine wpAnyH_take (i := 6) (v := .pointer (some ⟨g, 0, none⟩)) rfl (by kernel_rfl) (by kernel_rfl) (by kernel_rfl) (fun _ _ _ h => h) (Or.inl ⟨by rfl, fun wx hx => by simp [go_sem]⟩) hS ?_
      simp only [Act.put, List.getElem_toArray, List.getElem_cons_succ, List.getElem_cons_zero, List.setIfInBounds_toArray, List.set_cons_zero, List.set_cons_succ]
      refine wpAnyH_take (i := 7) (v := .slice (some ⟨gs, 0, none⟩) n n) rfl (by kernel_rfl) (by kernel_rfl) (by kernel_rfl) (fun _ _ _ h => h) (Or.inl ⟨by rfl, fun wx hx => by (have hc := hx.cell 0; simp at hc; simp [go_sem, hc])⟩) hS ?_
      simp only [Act.put, List.getElem_toArray, List.getElem_cons_succ, List.getElem_cons_zero, List.setIfInBounds_toArray, List.set_cons_zero, List.set_cons_succ]
      refine wpAnyH_take (i := 8) (v := .int .i64 (k : Int)) rfl (by kernel_rfl) (by kernel_rfl) (by kernel_rfl) (fun _ _ _ h => h) (Or.inl ⟨by rfl, fun wx hx => by simp [go_sem]⟩) hS ?_
      simp only [Act.put, List.getElem_toArray, List.getElem_cons_succ, List.getElem_cons_zero, List.setIfInBounds_toArray, List.set_cons_zero, List.set_cons_succ]
      refine wpAnyH_take (i := 9) (v := .pointer (some ⟨gs, 64 * k, none⟩)) rfl (by kernel_rfl) (by kernel_rfl) (by kernel_rfl) (fun _ _ _ h => h) (Or.inl ⟨by rfl, fun wx hx => by exact idxSec gs n k HKN.out _ _ _ _ rfl rfl rfl _⟩) hS ?_
      simp only [Act.put, List.getElem_toArray, List.getElem_cons_succ, List.getElem_cons_zero, List.setIfInBounds_toArray, List.set_cons_zero, List.set_cons_succ]
      refine wpAnyH_take (i := 10) (v := .slice (some ⟨gs, 64 * k, none⟩) 64 64) rfl (by kernel_rfl) (by kernel_rfl) (by kernel_rfl) (fun _ _ _ h => h) (Or.inl ⟨by rfl, fun wx hx => by exact sliceSec gs (64 * k) _ _ _ rfl rfl _⟩) hS ?_
      simp only [Act.put, List.getElem_toArray, List.getElem_cons_succ, List.getElem_cons_zero, List.setIfInBounds_toArray, List.set_cons_zero, List.set_cons_succ]
      have hsf := (HM.out.below HBB3.out).sf
      refine wpAnyH_copyO 11 (.tmp 25) (.tmp 32) gb (0 + o) (N - o) (N - o) gs (64 * k) 64 64 5 _ (secD D.safe k) HB3.out (by rw [HS6.out]; have := HON.out.2; omega) (by rw [HS6.out, cb_len, upTo_len HSL.out.1 HZL.out (Nat.le_of_lt HKN.out)]; have h1 := HON.out; have h2 := HNN.out; omega) (range_cells (sec_range hsf (by rw [HSL.out.1]; have := HKN.out; omega))) (by kernel_rfl) rfl (by rfl) rfl rfl rfl ?_
      intro y4 hb4 ho4
      refine ⟨hS.only ho4 (hS.neT HB3.out (by decide)), ?_⟩
      have HB4 : Hid (Blk y4 gb (cb (upTo D.safe z (k + 1))) 5) := by
        rw [Nat.zero_add, HOO.out, lay_sec HS6.out, upTo_step HSL.out.1 HKN.out] at hb4
        exact hb4
      have HBB4 : Hid (Below w.heap.size w y4) := HBB3.out.trans (ho4.below HGE.out HBB3.out.size)
      clear hb4 ho4 hsf hS HB3 HBB3
      simp only [Act.put, List.getElem_toArray, List.getElem_cons_succ, List.getElem_cons_zero]
      refine wpAnyH_done (by kernel_rfl) ?_ _
      go_wp2
      go_roundw
      case rel => exact ⟨k + 1, by omega, by simp, HB4, HBB4⟩
      case measure => simp [intOf]; omega
    case neg =>
      have hlk : ¬ ((k : Int) < (n : Int)) := by omega
      obtain rfl : k = n := by omega
      have HB2 : Hid (Blk wr gb (cb (dumpW D.safe (D.wait.take 0))) 5) := by
        have h9 := HBK.out
        rw [upTo_all HSL.out.1 HZL.out] at h9
        exact h9
      have c1 : wr.cell? ⟨g, 1, none⟩ = some (.slice aw nw cw) := HMEr.out.cell 1
      clear HBK hkn hlt
      go_wp2_with fail
      clear c1 HMEr
      obtain ⟨n, HNK⟩ : ∃ n, Hid (n = k) := ⟨_, rfl⟩
      go_loopw [40] (fun i wr => ∃ j : Nat, j ≤ nw ∧ i = .int .i64 (j : Int) ∧ Hid (Blk wr gb (cb (dumpW D.safe (D.wait.take j))) 5) ∧ Hid (Below w.heap.size w wr)) (fun i _ => nw - (intOf i).toNat)
      case atStart => exact ⟨0, Nat.zero_le _, rfl, HB2, HBB⟩
      case round =>
        obtain ⟨j, hjn, rfl, HBK, HBB⟩ := hrel
        clear HB2
        have HMr : Hid (DkM wr g gs (.slice aw nw cw) fu lf D) := HM.out.below HBB.out
        by_cases hlt : j < nw
        case neg =>
          have hlk : ¬ ((j : Int) < (nw : Int)) := by omega
          have HBD : Hid (Blk wr gb (cb (dumpD D)) 5) := by
            have h9 := HBK.out
            rw [List.take_of_length_le (by rw [← HNW.out]; omega)] at h9
            exact h9
          have HLN : Hid ((dumpD D).length = N) := by show _ = _; rw [len_dumpD HOK.out, HSL.out.1, HNN.out]
          go_wp2
          go_ret
          exact ⟨_, _, rfl, fun W m => (m.blk HBD.out (fun h => absurd (HM.out.lt gb h) (by have := HGE.out; omega))).reads HLN.out.symm (by rw [HLN.out]; exact Nat.le_refl _), ⟨gs, _, fu, lf, HMr.out, rfl⟩, mut_below HBB.out _, Grew.refl _ _⟩
        case pos =>
          have hlk : (j : Int) < (nw : Int) := by omega
          have HKN : Hid (j < nw) := hlt
          have HLT : Hid (j < D.wait.length) := by show _ < _; rw [← HNW.out]; exact hlt
          have f5 : IntKind.i64.wrap ((j : Int) + 1) = (j : Int) + 1 := by rw [IntKind.wrap_i64]; have := HW2.out; omega
          obtain ⟨hmem, htk⟩ := getD_memV2 HLT.out
          obtain ⟨b, rfl, hat⟩ := HMr.out.wt.at (fun p hp => (HOK.out.wait p hp).2) (Nat.lt_of_le_of_lt (Nat.zero_le _) HLT.out)
          have hrg := hat j HLT.out
          replace hrg : wr.rangeAt b (j * 65) (wrC (D.wait.getD j (0, []))) := hrg
          obtain ⟨p, HPP⟩ : ∃ p, Hid (p = D.wait.getD j (0, [])) := ⟨_, rfl⟩
          rw [← HPP.out] at hmem htk hrg
          have HRG : Hid (wr.rangeAt b (j * 65) (wrC p)) := hrg
          have HTK : Hid (dumpW D.safe (D.wait.take (j + 1)) = layD (dumpW D.safe (D.wait.take j)) p.1 p.2 64) := by show _ = _; rw [htk, dumpW_snoc]
          have HPW : Hid (p.1 < k ∧ p.2.length = 64) := by rw [HN.out]; exact HOK.out.wait p hmem
          have HP6 : Hid (p.2.length = 64) := HPW.out.2
          have HWL : Hid ((wrC p).length = (wrC (0, zs64)).length) := by show _ = _; rw [wrC_len HP6.out, wrC_len (p := (0, zs64)) len_zs64]
          have HLN : Hid ((dumpW D.safe (D.wait.take j)).length = N) := by
            show _ = _
            rw [len_dumpW _ _ HOK.out.size.1 (fun q hq => HOK.out.wait q (List.mem_of_mem_take hq)), HNN.out, HN.out]
          obtain ⟨o, HOO⟩ : ∃ o : Nat, Hid (o = 64 * p.1) := ⟨_, rfl⟩
          have f6 : IntKind.i64.wrap ((p.1 : Int) * 64) = (o : Int) := by rw [IntKind.wrap_i64]; have := HSL.out.2; have := HOO.out; have := HPW.out.1; omega
          have HON : Hid (o < N ∧ 64 ≤ N - o) := by have h1 := HOO.out; have h2 := HNN.out; have h3 := HPW.out.1; exact ⟨by omega, by omega⟩
          clear hat hrg hmem htk
          have tk1 : Hid True := trivial
          have tk2 : Hid True := trivial
          have tk3 : Hid True := trivial
          have tk4 : Hid True := trivial
          go_wp2_with (first
    | (clear tk1; with_reducible refine wpSeq_idxWr (.tmp 38) (.tmp 40) b nw cw j HKN.out ?_ ?_ ?_ ?_ ?_
       · rfl
       · rfl
       · rfl
       · rfl)
    | (clear tk2; with_reducible refine wpSeq_loadW 72 (.tmp 42) b (j * 65) (wrC p) _ HRG.out Try.underlying72 rfl (sz_wr HP6.out) ?_ ?_ ?_ ?_
       · rfl
       · rfl
       · rfl)
    | (clear tk3; with_reducible refine wpSeq_allocDw ?_ ?_ ?_
       · rfl
       · rfl
       intro g6 y1 nn
       have HG6 : Hid (Blk y1 g6 (wrC (0, zs64)) 72) := nn.blk
       have HBW : Hid (Below wr.heap.size wr y1) := nn.below
       have HG6E : Hid (wr.heap.size ≤ g6) := nn.ge
       clear nn)
    | (clear tk4; with_reducible refine wpSeq_storeRow 72 (.tmp 6) (.tmp 43) g6 (wrC (0, zs64)) (wrC p) HG6.out HWL.out (sz_wr HP6.out) (wrC_one _) ?_ ?_ ?_ ?_ ?_
       · rfl
       · rfl
       · rfl
       · rfl
       intro y2 hs
       replace HG6 : Hid (Blk y2 g6 (wrC p) 72) := hs.blk
       replace HBW : Hid (Below wr.heap.size wr y2) := HBW.out.trans (hs.only.below HG6E.out HBW.out.size)
       clear hs)
    | fail)
          refine wp_region_held_drew (S := fun wx => Blk wx g6 (wrC p) 72) (by kernel_rfl) HG6.out.drew ?_
          intro hS
          have HB3 : Hid (Blk y2.drew gb (cb (dumpW D.safe (D.wait.take j))) 5) := HBK.out.below HBW.out.drew HBK.out.lt
          have HBB3 : Hid (Below w.heap.size w y2.drew) := HBB.out.trans (HBW.out.drew.mono HBB.out.size)
          clear HBK HBB HBW HG6 HG6E HRG HMr
          change wpAnyH _ _ _ _ _ _ _ _ (World.drew y2)
          generalize World.drew y2 = y3 at *
          refine wpAnyH_take (i := 0) (v := .slice (some ⟨gb, 0, none⟩) N N) rfl (by kernel_rfl) (by kernel_rfl) (by kernel_rfl) (fun _ _ _ h => h) (Or.inl ⟨by rfl, fun wx hx => by simp [go_sem]⟩) hS ?_
          simp only [Act.put, List.getElem_toArray, List.getElem_cons_zero, List.setIfInBounds_toArray, List.set_cons_zero, List.set_cons_succ]
          refine wpAnyH_take (i := 1) (v := .pointer (some ⟨g6, 0, none⟩)) rfl (by kernel_rfl) (by kernel_rfl) (by kernel_rfl) (fun _ _ _ h => h) (Or.inl ⟨by rfl, fun wx hx => by simp [go_sem]⟩) hS ?_
          simp only [Act.put, List.getElem_toArray, List.getElem_cons_succ, List.getElem_cons_zero, List.setIfInBounds_toArray, List.set_cons_zero, List.set_cons_succ]
          refine wpAnyH_take (i := 2) (v := .int .i64 (p.1 : Int)) rfl (by kernel_rfl) (by kernel_rfl) (by kernel_rfl) (fun _ _ _ h => h) (Or.inl ⟨by rfl, fun wx hx => by (have hc : wx.cell? ⟨g6, 0, none⟩ = some (.int .i64 (p.1 : Int)) := hx.cell 0; simp [go_sem, hc])⟩) hS ?_
          simp only [Act.put, List.getElem_toArray, List.getElem_cons_succ, List.getElem_cons_zero, List.setIfInBounds_toArray, List.set_cons_zero, List.set_cons_succ]
          refine wpAnyH_take (i := 3) (v := .int .i64 (o : Int)) rfl (by kernel_rfl) (by kernel_rfl) (by kernel_rfl) (fun _ _ _ h => h) (Or.inl ⟨by rfl, fun wx hx => by simp [go_sem, f6]⟩) hS ?_
          simp only [Act.put, List.getElem_toArray, List.getElem_cons_succ, List.getElem_cons_zero, List.setIfInBounds_toArray, List.set_cons_zero, List.set_cons_succ]
          refine wpAnyH_take (i := 4) (v := .slice (some ⟨gb, 0 + o, none⟩) (N - o) (N - o)) rfl (by kernel_rfl) (by kernel_rfl) (by kernel_rfl) (fun _ _ _ h => h) (Or.inl ⟨by rfl, fun wx hx => by exact cutFrom gb 0 N N o HON.out.1 (Nat.le_refl _) _ _ _ _ rfl rfl rfl _⟩) hS ?_
          simp only [Act.put, List.getElem_toArray, List.getElem_cons_succ, List.getElem_cons_zero, List.setIfInBounds_toArray, List.set_cons_zero, List.set_cons_succ]
          refine wpAnyH_take (i := 5) (v := .pointer (some ⟨g6, 1, none⟩)) rfl (by kernel_rfl) (by kernel_rfl) (by kernel_rfl) (fun _ _ _ h => h) (Or.inl ⟨by rfl, fun wx hx => by simp [go_sem]⟩) hS ?_
          simp only [Act.put, List.getElem_toArray, List.getElem_cons_succ, List.getElem_cons_zero, List.setIfInBounds_toArray, List.set_cons_zero, List.set_cons_succ]
          refine wpAnyH_take (i := 6) (v := .slice (some ⟨g6, 1, none⟩) 64 64) rfl (by kernel_rfl) (by kernel_rfl) (by kernel_rfl) (fun _ _ _ h => h) (Or.inl ⟨by rfl, fun wx hx => by exact sliceSec g6 1 _ _ _ rfl rfl _⟩) hS ?_
          simp only [Act.put, List.getElem_toArray, List.getElem_cons_succ, List.getElem_cons_zero, List.setIfInBounds_toArray, List.set_cons_zero, List.set_cons_succ]
          refine wpAnyH_copyO 7 (.tmp 48) (.tmp 50) gb (0 + o) (N - o) (N - o) g6 1 64 64 5 _ p.2 HB3.out (by rw [HP6.out]; have := HON.out.2; omega) (by rw [HP6.out, cb_len, HLN.out]; have h1 := HON.out; omega) (range_cells (range_tail (off := 0) (Blk.range hS))) (by kernel_rfl) rfl (by rfl) rfl rfl rfl ?_
          intro y4 hb4 ho4
          refine ⟨hS.only ho4 (hS.neT HB3.out (by decide)), ?_⟩
          have HB4 : Hid (Blk y4 gb (cb (dumpW D.safe (D.wait.take (j + 1)))) 5) := by
            rw [Nat.zero_add, HOO.out, lay_sec HP6.out, ← HTK.out] at hb4
            exact hb4
          have HBB4 : Hid (Below w.heap.size w y4) := HBB3.out.trans (ho4.below HGE.out HBB3.out.size)
          clear hb4 ho4 hS HB3 HBB3
          simp only [Act.put, List.getElem_toArray, List.getElem_cons_succ, List.getElem_cons_zero]
          refine wpAnyH_done (by kernel_rfl) ?_ _
          go_wp2
          go_roundw
          case rel => exact ⟨j + 1, by omega, by simp, HB4, HBB4⟩
          case measure => simp [intOf]; omega
end Go.Proofs.Ytdllnedmhhajnaa

/- The walk of disk's Sync (layer 13). -/
import Derived.Test.YtdllnedmhhajnaaDkVw
namespace Go.Proofs.Ytdllnedmhhajnaa
open Go.RowKit
set_option maxRecDepth 100000
theorem wpSeq_cellV {ops : Array Oper} {Q : Exit → Act → World → Prop} {rest : List Oper} {o : Oper} {a : Act} {w : World} (x y : Operand) (g k : Nat) (cs : List Value) (ad : Option Addr) (n c : Nat) (tb : TypeId) (hk : k < cs.length) (hb : Blk w g cs tb) (ho : o.op = .store 66 x y) (hx : a.eval x = .pointer (some ⟨g, k, none⟩)) (hy : a.eval y = .slice ad n c) (hw : Region.wanted o (yielded ops a.tmps) = true)
    (h : ∀ w', Blk w' g (cs.set k (.slice ad n c)) tb → Only g w w' → wpList Try.prog ops Q rest (a.put o.dst undef) w') : wpList Try.prog ops Q (o :: rest) a w := by
  have hc : w.cell? ⟨g, k, none⟩ = some cs[k] := by rw [hb.cell, List.getElem?_eq_getElem hk]
  have hf : w.frozen? ⟨g, k, none⟩ = false := hb.frozen k
  have he : (execOp a.eval o).run Try.prog w = .ok .skip (w.setCell ⟨g, k, none⟩ (.slice ad n c)) := by
    clear h hw
    generalize a.eval = f at hx hy ⊢
    unfold execOp
    rw [ho]
    simp [go_sem, hx, hy, hc, hf]
  unfold wpList
  simp only [hw, if_true]
  left
  unfold Oper.wp
  rw [he, Oper.upon_skip]
  exact h _ (hb.set k _) (Only.setCell (Only.refl g w) k _)
theorem getD_memV2 {l : List (Nat × Bs)} {k : Nat} (hk : k < l.length) : l.getD k (0, []) ∈ l ∧ l.take (k + 1) = l.take k ++ [l.getD k (0, [])] := by
  have e : l.getD k (0, []) = l[k] := by rw [List.getD_eq_getElem?_getD, List.getElem?_eq_getElem hk]; rfl
  rw [e]
  exact ⟨List.getElem_mem hk, take_snocW hk⟩
theorem lay_store {b x : Bs} {at_ : Nat} (hx : x.length = 64) : (cb b).take (64 * at_) ++ cb x ++ (cb b).drop (64 * at_ + (cb x).length) = cb (layD b at_ x 64) := by
  rw [cb_len, hx, layD, List.take_of_length_le (Nat.le_of_eq hx)]
  simp [cb]
theorem wpAnyH_storeSec {md : Region.Mode} {ops : Array Oper} {Q : Exit → Act → World → Prop} {S : World → Prop} {fuel : Nat} {listed : Array Bool} {a : Act} {w : World} (i : Nat) {oi : Oper} (x y : Operand) (gs k : Nat) (z v : Bs) (t : TypeId) (hb : Blk w gs (cb z) t) (hv : v.length = 64) (hk : 64 * k + 64 ≤ z.length)
    (hr : Region.ready md ops listed = [i]) (hi : ops[i]? = some oi) (hw : Region.wanted oi (yielded ops a.tmps) = true) (ho : oi.op = .store 70 x y) (hx : a.eval x = .pointer (some ⟨gs, 64 * k, none⟩)) (hy : a.eval y = .agg (cb v).toArray)
    (h : ∀ w', Blk w' gs (cb (layD z k v 64)) t → Only gs w w' → S w' ∧ wpAnyH Try.prog md ops Q S fuel (listed.setIfInBounds i true) (a.put oi.dst undef) w') : wpAnyH Try.prog md ops Q S (fuel + 1) listed a w := by
  refine wpAnyH_law i hr hi hw (wp_store_mid 70 x y ho gs (64 * k) (cb v).toArray hx hy (hb.there _ _ (by rw [List.size_toArray, cb_len, cb_len, hv]; exact hk)) (by rw [List.size_toArray]; exact sz_sec hv) (all_oneCell_toArray (cb_one v)) ?_)
  rw [List.toList_toArray]
  have h1 := setCells_eq gs (cb v) (64 * k) w (cb z) t hb (by rw [cb_len, cb_len, hv]; exact hk)
  rw [lay_store hv] at h1
  exact h _ h1 (Only.setCells _ _ _ (Only.refl gs w))
set_option maxRecDepth 100000 in
set_option maxHeartbeats 8000000 in
theorem dkSync_any {w : World} {g : Nat} {P : Nat → Prop} {D : DkT} (h : DkIs w g P D) (hw2 : D.wait.length ≤ 200) : Calls Try.prog 22 #[.pointer (some ⟨g, 0, none⟩)] w fun r w' => ∃ P', r = .returned (.int .i64 (syncX13 D)) ∧ DkIs w' g P' (syncD13 D) ∧ Mut P w w' ∧ Grew w P P' := by
  have HK : Hid (DkIs w g P D) := h
  obtain ⟨gs, vw, fu, lf, hm, hP⟩ := h
  subst hP
  obtain ⟨n, HN⟩ : ∃ n, Hid (n = sizeD D) := ⟨_, rfl⟩
  obtain ⟨aw, cw, hvw⟩ := hm.wt.form
  obtain ⟨nw, HNW⟩ : ∃ n, Hid (n = D.wait.length) := ⟨_, rfl⟩
  rw [← HNW.out] at hvw
  subst hvw
  obtain ⟨dn, HDN⟩ : ∃ b, Hid (b = D.down) := ⟨_, rfl⟩
  have HM : Hid (DkM w g gs (.slice aw nw cw) fu lf D) := hm
  have HME : Hid (Blk w g [.slice (some ⟨gs, 0, none⟩) n n, .slice aw nw cw, .bool dn, .bool fu, .int .i64 lf] 68) := by have h9 := hm.me; rw [dkC, ← HN.out, ← HDN.out] at h9; exact h9
  have c2 : w.cell? ⟨g, 2, none⟩ = some (.bool dn) := HME.out.cell 2
  have HW2 : Hid (nw ≤ 200) := by show _ ≤ _; rw [HNW.out]; exact hw2
  have HOK : Hid (okD D) := hm.ok
  cases dn with
  | true =>
    have HD1 : Hid (syncD13 D = D) := by show _ = _; rw [syncD13, ← HDN.out]; rfl
    have HX1 : Hid (syncX13 D = 14) := by show _ = _; rw [syncX13, ← HDN.out]; rfl
    rw [HD1.out, HX1.out]
    clear hm hw2
    go_enter Try.func22, Try.ntmps22
    go_wp2
    go_ret
    exact ⟨_, rfl, HK.out, Mut.refl _ _, Grew.refl _ _⟩
  | false =>
    have hch := dkChange_any HDN.out.symm hm
    clear hm hw2
    by_cases h0 : D.left = 0
    · have HD1 : Hid (syncD13 D = chD D) := by show _ = _; rw [syncD13, ← HDN.out, if_neg (by decide), if_pos h0, chD, h0]; rfl
      have HX1 : Hid (syncX13 D = 14) := by show _ = _; rw [syncX13, ← HDN.out, if_neg (by decide), if_pos h0]
      rw [if_pos h0] at hch
      have HCH : Hid (Calls Try.prog 32 #[.pointer (some ⟨g, 0, none⟩)] w fun r w' => ∃ lf', r = .returned (.int .i64 14) ∧ DkM w' g gs (.slice aw nw cw) fu lf' (chD D) ∧ Only g w w') := hch
      rw [HD1.out, HX1.out]
      clear hch h0
      go_enter Try.func22, Try.ntmps22
      have tk0 : Hid True := trivial
      go_wp2_with (first
        | (clear tk0; go_at_call 32; refine (HCH.out).mono ?_; rintro e0 y8 ⟨lf8, rfl, hm8, ho8⟩
           have HM8 : Hid (DkM y8 g gs (.slice aw nw cw) fu lf8 (chD D)) := hm8
           have HO8 : Hid (Only g w y8) := ho8
           clear hm8 ho8))
      go_ret
      exact ⟨_, rfl, ⟨gs, .slice aw nw cw, fu, lf8, HM8.out, rfl⟩, HO8.out.mut (Or.inl rfl), Grew.refl _ _⟩
    · have HX1 : Hid (syncX13 D = 0) := by show _ = _; rw [syncX13, ← HDN.out, if_neg (by decide), if_neg h0]
      have HD1 : Hid (syncD13 D = ⟨dumpD D, [], lessL D.left, false⟩) := by show _ = _; rw [syncD13, ← HDN.out, if_neg (by decide), if_neg h0]
      have HC1 : Hid (chD D = ⟨dumpW D.safe (D.wait.take 0), D.wait, lessL D.left, false⟩) := by show _ = _; rw [chD, decide_eq_false h0]; rfl
      rw [if_neg h0, HC1.out] at hch
      have HCH : Hid (Calls Try.prog 32 #[.pointer (some ⟨g, 0, none⟩)] w fun r w' => ∃ lf', r = .returned (.int .i64 0) ∧ DkM w' g gs (.slice aw nw cw) fu lf' ⟨dumpW D.safe (D.wait.take 0), D.wait, lessL D.left, false⟩ ∧ Only g w w') := hch
      rw [HD1.out, HX1.out]
      clear hch h0
      have HSZ : Hid (∀ k, sizeD ⟨dumpW D.safe (D.wait.take k), D.wait, lessL D.left, false⟩ = n) := fun k => by
        show (dumpW D.safe (D.wait.take k)).length / 64 = n
        rw [len_dumpW _ _ HOK.out.size.1 (fun q hq => HOK.out.wait q (List.mem_of_mem_take hq)), Nat.mul_div_cancel_left _ (by decide), HN.out]
      go_enter Try.func22, Try.ntmps22
      have tk0 : Hid True := trivial
      go_wp2_with (first
        | (clear tk0; go_at_call 32; refine (HCH.out).mono ?_; rintro e0 y8 ⟨lf8, rfl, hm8, ho8⟩
           have HM8 : Hid (DkM y8 g gs (.slice aw nw cw) fu lf8 ⟨dumpW D.safe (D.wait.take 0), D.wait, lessL D.left, false⟩) := hm8
           have HMU : Hid (Mut (dkP g gs (.slice aw nw cw)) w y8) := ho8.mut (Or.inl rfl)
           have HE8 : Hid (Blk y8 g [.slice (some ⟨gs, 0, none⟩) n n, .slice aw nw cw, .bool false, .bool fu, .int .i64 lf8] 68) := by have h9 := hm8.me; rw [dkC, HSZ.out] at h9; exact h9
           have c1 : y8.cell? ⟨g, 1, none⟩ = some (.slice aw nw cw) := HE8.out.cell 1
           clear hm8 ho8 c2))
      clear c1
      go_loopw [20] (fun i wr => ∃ k : Nat, k ≤ nw ∧ i = .int .i64 (k : Int) ∧ Hid (DkM wr g gs (.slice aw nw cw) fu lf8 ⟨dumpW D.safe (D.wait.take k), D.wait, lessL D.left, false⟩) ∧ Hid (Mut (dkP g gs (.slice aw nw cw)) w wr)) (fun i _ => nw - (intOf i).toNat)
      case atStart => exact ⟨0, Nat.zero_le _, rfl, HM8, HMU⟩
      case round =>
        obtain ⟨k, hkn, rfl, HI, HMX⟩ := hrel
        clear HM8 HMU HE8
        have HMK : Hid (Blk wr g [.slice (some ⟨gs, 0, none⟩) n n, .slice aw nw cw, .bool false, .bool fu, .int .i64 lf8] 68) := by have h9 := HI.out.me; rw [dkC, HSZ.out] at h9; exact h9
        by_cases hlt : k < nw
        case neg =>
          have hlk : ¬ ((k : Int) < (nw : Int)) := by omega
          have HEQ : Hid (D.wait.take k = D.wait) := List.take_of_length_le (by rw [← HNW.out]; omega)
          rw [HEQ.out] at HI
          have tk1 : Hid True := trivial
          go_wp2_with (first
            | (clear tk1; with_reducible refine wpSeq_cellV (.tmp 36) (.const (.slice none 0 0)) g 1 [.slice (some ⟨gs, 0, none⟩) n n, .slice aw nw cw, .bool false, .bool fu, .int .i64 lf8] none 0 0 68 (by simp) HMK.out ?_ ?_ ?_ ?_ ?_
               · rfl
               · rfl
               · rfl
               · rfl
               intro y9 hb9 ho9
               have HB9 : Hid (Blk y9 g [.slice (some ⟨gs, 0, none⟩) n n, .slice none 0 0, .bool false, .bool fu, .int .i64 lf8] 68) := hb9
               have HO9 : Hid (Only g wr y9) := ho9
               clear hb9 ho9))
          go_ret
          refine ⟨rfl, _, ⟨gs, .slice none 0 0, fu, lf8, HI.out.mine HO9.out ?_ rfl (OwnV.nil _) ?_ HI.out.fs HI.out.ls, rfl⟩, HMX.out.trans (fun _ _ h => h) (HO9.out.mut (Or.inl rfl)), ?_⟩
          · have h9 := HSZ.out k
            rw [HEQ.out] at h9
            show Blk y9 g (dkC gs (sizeD ⟨dumpW D.safe D.wait, D.wait, lessL D.left, false⟩) _ false fu lf8) _
            rw [h9]
            exact HB9.out
          · obtain ⟨m, h1, h2, h3, _⟩ := HI.out.ok.ex
            exact ⟨⟨m, h1, h2, h3, fun p hp => by cases hp⟩, HI.out.ok.lo, HI.out.ok.hi⟩
          · intro j hj
            rcases hj with rfl | rfl | hj
            · exact Or.inl (Or.inl rfl)
            · exact Or.inl (Or.inr (Or.inl rfl))
            · cases hj
        case pos =>
          have hlk : (k : Int) < (nw : Int) := by omega
          have HKN : Hid (k < nw) := hlt
          have HLT : Hid (k < D.wait.length) := by show _ < _; rw [← HNW.out]; exact hlt
          have f5 : IntKind.i64.wrap ((k : Int) + 1) = (k : Int) + 1 := by rw [IntKind.wrap_i64]; have := HW2.out; omega
          obtain ⟨hmem, htk⟩ := getD_memV2 HLT.out
          obtain ⟨b, rfl, hat⟩ := HI.out.wt.at (fun p hp => (HOK.out.wait p hp).2) (Nat.lt_of_le_of_lt (Nat.zero_le _) HLT.out)
          have hrg := hat k HLT.out
          replace hrg : wr.rangeAt b (k * 65) (wrC (D.wait.getD k (0, []))) := hrg
          obtain ⟨p, HPP⟩ : ∃ p, Hid (p = D.wait.getD k (0, [])) := ⟨_, rfl⟩
          rw [← HPP.out] at hmem htk hrg
          have HRG : Hid (wr.rangeAt b (k * 65) (wrC p)) := hrg
          have HTK : Hid (dumpW D.safe (D.wait.take (k + 1)) = layD (dumpW D.safe (D.wait.take k)) p.1 p.2 64) := by show _ = _; rw [htk, dumpW_snoc]
          have HPW : Hid (p.1 < n ∧ p.2.length = 64) := by rw [HN.out]; exact HOK.out.wait p hmem
          have HP6 : Hid (p.2.length = 64) := HPW.out.2
          have HSL : Hid ((wrC p).length = (wrC (0, zs64)).length) := by show _ = _; rw [wrC_len HP6.out, wrC_len (p := (0, zs64)) len_zs64]
          have HLN : Hid ((dumpW D.safe (D.wait.take k)).length = 64 * n) := by
            show _ = _
            rw [len_dumpW _ _ HOK.out.size.1 (fun q hq => HOK.out.wait q (List.mem_of_mem_take hq)), HN.out]
          clear hat hrg hmem htk
          have tk1 : Hid True := trivial
          have tk2 : Hid True := trivial
          have tk3 : Hid True := trivial
          have tk4 : Hid True := trivial
          go_wp2_with (first
    | (clear tk1; with_reducible refine wpSeq_idxWr (.tmp 18) (.tmp 20) b nw cw k HKN.out ?_ ?_ ?_ ?_ ?_
       · rfl
       · rfl
       · rfl
       · rfl)
    | (clear tk2; with_reducible refine wpSeq_loadW 72 (.tmp 22) b (k * 65) (wrC p) _ HRG.out Try.underlying72 rfl (sz_wr HP6.out) ?_ ?_ ?_ ?_
       · rfl
       · rfl
       · rfl)
    | (clear tk3; with_reducible refine wpSeq_allocDw ?_ ?_ ?_
       · rfl
       · rfl
       intro g5 y1 nn
       have HG5 : Hid (Blk y1 g5 (wrC (0, zs64)) 72) := nn.blk
       have HBW : Hid (Below wr.heap.size wr y1) := nn.below
       have HGE : Hid (wr.heap.size ≤ g5) := nn.ge
       clear nn)
    | (clear tk4; with_reducible refine wpSeq_storeRow 72 (.tmp 5) (.tmp 23) g5 (wrC (0, zs64)) (wrC p) HG5.out HSL.out (sz_wr HP6.out) (wrC_one _) ?_ ?_ ?_ ?_ ?_
       · rfl
       · rfl
       · rfl
       · rfl
       intro y2 hs
       replace HG5 : Hid (Blk y2 g5 (wrC p) 72) := hs.blk
       replace HBW : Hid (Below wr.heap.size wr y2) := HBW.out.trans (hs.only.below HGE.out HBW.out.size)
       clear hs)
    | fail)
          have HMK2 : Hid (Blk y2 g [.slice (some ⟨gs, 0, none⟩) n n, .slice (some ⟨b, 0, none⟩) nw cw, .bool false, .bool fu, .int .i64 lf8] 68) := HMK.out.below HBW.out HMK.out.lt
          refine wp_region_held_drew (S := fun wx => Blk wx g [.slice (some ⟨gs, 0, none⟩) n n, .slice (some ⟨b, 0, none⟩) nw cw, .bool false, .bool fu, .int .i64 lf8] 68 ∧ Blk wx g5 (wrC p) 72) (by kernel_rfl) ⟨HMK2.out.drew, HG5.out.drew⟩ ?_
          intro hS
          have HI2 : Hid (DkM y2.drew g gs (.slice (some ⟨b, 0, none⟩) nw cw) fu lf8 ⟨dumpW D.safe (D.wait.take k), D.wait, lessL D.left, false⟩) := HI.out.below HBW.out.drew
          have HMX2 : Hid (Mut (dkP g gs (.slice (some ⟨b, 0, none⟩) nw cw)) w y2.drew) := (HMX.out.trans (fun _ _ h => h) (mut_below HBW.out _)).drew
          clear HI HMX HBW HGE HG5 HMK2 HMK HRG
          change wpAnyH _ _ _ _ _ _ _ _ (World.drew y2)
          generalize World.drew y2 = y3 at *
          refine wpAnyH_take (i := 0) (v := .pointer (some ⟨g, 0, none⟩)) rfl (by kernel_rfl) (by kernel_rfl) (by kernel_rfl) (fun _ _ _ h => h) (Or.inl ⟨by rfl, fun wx hx => by simp [go_sem]⟩) hS ?_
          simp only [Act.put, List.getElem_toArray, List.getElem_cons_zero, List.setIfInBounds_toArray, List.set_cons_zero, List.set_cons_succ]
          refine wpAnyH_take (i := 1) (v := .pointer (some ⟨g, 0, none⟩)) rfl (by kernel_rfl) (by kernel_rfl) (by kernel_rfl) (fun _ _ _ h => h) (Or.inl ⟨by rfl, fun wx hx => by simp [go_sem]⟩) hS ?_
          simp only [Act.put, List.getElem_toArray, List.getElem_cons_succ, List.getElem_cons_zero, List.setIfInBounds_toArray, List.set_cons_zero, List.set_cons_succ]
          refine wpAnyH_take (i := 2) (v := .pointer (some ⟨g, 0, none⟩)) rfl (by kernel_rfl) (by kernel_rfl) (by kernel_rfl) (fun _ _ _ h => h) (Or.inl ⟨by rfl, fun wx hx => by simp [go_sem]⟩) hS ?_
          simp only [Act.put, List.getElem_toArray, List.getElem_cons_succ, List.getElem_cons_zero, List.setIfInBounds_toArray, List.set_cons_zero, List.set_cons_succ]
          refine wpAnyH_take (i := 3) (v := .slice (some ⟨gs, 0, none⟩) n n) rfl (by kernel_rfl) (by kernel_rfl) (by kernel_rfl) (fun _ _ _ h => h) (Or.inl ⟨by rfl, fun wx hx => by (have hc := hx.1.cell 0; simp at hc; simp [go_sem, hc])⟩) hS ?_
          simp only [Act.put, List.getElem_toArray, List.getElem_cons_succ, List.getElem_cons_zero, List.setIfInBounds_toArray, List.set_cons_zero, List.set_cons_succ]
          refine wpAnyH_take (i := 4) (v := .pointer (some ⟨g5, 0, none⟩)) rfl (by kernel_rfl) (by kernel_rfl) (by kernel_rfl) (fun _ _ _ h => h) (Or.inl ⟨by rfl, fun wx hx => by simp [go_sem]⟩) hS ?_
          simp only [Act.put, List.getElem_toArray, List.getElem_cons_succ, List.getElem_cons_zero, List.setIfInBounds_toArray, List.set_cons_zero, List.set_cons_succ]
          refine wpAnyH_take (i := 5) (v := .int .i64 (p.1 : Int)) rfl (by kernel_rfl) (by kernel_rfl) (by kernel_rfl) (fun _ _ _ h => h) (Or.inl ⟨by rfl, fun wx hx => by (have hc : wx.cell? ⟨g5, 0, none⟩ = some (.int .i64 (p.1 : Int)) := hx.2.cell 0; simp [go_sem, hc])⟩) hS ?_
          simp only [Act.put, List.getElem_toArray, List.getElem_cons_succ, List.getElem_cons_zero, List.setIfInBounds_toArray, List.set_cons_zero, List.set_cons_succ]
          refine wpAnyH_take (i := 6) (v := .pointer (some ⟨g5, 1, none⟩)) rfl (by kernel_rfl) (by kernel_rfl) (by kernel_rfl) (fun _ _ _ h => h) (Or.inl ⟨by rfl, fun wx hx => by simp [go_sem]⟩) hS ?_
          simp only [Act.put, List.getElem_toArray, List.getElem_cons_succ, List.getElem_cons_zero, List.setIfInBounds_toArray, List.set_cons_zero, List.set_cons_succ]
          refine wpAnyH_take (i := 7) (v := .agg (cb p.2).toArray) rfl (by kernel_rfl) (by kernel_rfl) (by kernel_rfl) (fun _ _ _ h => h) (Or.inl ⟨by rfl, fun wx hx => by exact loadSec g5 1 p.2 HP6.out _ rfl rfl (range_tail (off := 0) (Blk.range hx.2))⟩) hS ?_
          simp only [Act.put, List.getElem_toArray, List.getElem_cons_succ, List.getElem_cons_zero, List.setIfInBounds_toArray, List.set_cons_zero, List.set_cons_succ]
          refine wpAnyH_take (i := 8) (v := .pointer (some ⟨gs, 64 * p.1, none⟩)) rfl (by kernel_rfl) (by kernel_rfl) (by kernel_rfl) (fun _ _ _ h => h) (Or.inl ⟨by rfl, fun wx hx => by exact idxSec gs n p.1 HPW.out.1 _ _ _ _ rfl rfl rfl _⟩) hS ?_
          simp only [Act.put, List.getElem_toArray, List.getElem_cons_succ, List.getElem_cons_zero, List.setIfInBounds_toArray, List.set_cons_zero, List.set_cons_succ]
          refine wpAnyH_storeSec 9 (.tmp 32) (.tmp 31) gs p.1 _ p.2 70 HI2.out.sf HP6.out (by show _ ≤ (dumpW D.safe (D.wait.take k)).length; rw [HLN.out]; have := HPW.out.1; omega) (by kernel_rfl) rfl (by rfl) rfl rfl rfl ?_
          intro y4 hb4 ho4
          have hn := HI2.out.ne
          refine ⟨⟨hS.1.only ho4 hn.1, hS.2.only ho4 (hS.2.neT HI2.out.sf (by decide))⟩, ?_⟩
          have HI4 : Hid (DkM y4 g gs (.slice (some ⟨b, 0, none⟩) nw cw) fu lf8 ⟨dumpW D.safe (D.wait.take (k + 1)), D.wait, lessL D.left, false⟩) := by
            rw [HTK.out]
            exact HI2.out.sect ho4 hb4 (by show (layD (dumpW D.safe (D.wait.take k)) p.1 p.2 64).length = (dumpW D.safe (D.wait.take k)).length; rw [len_layD (by rw [HLN.out]; have := HPW.out.1; omega) (by rw [HP6.out]; exact Nat.le_refl _)])
          have HMX4 : Hid (Mut (dkP g gs (.slice (some ⟨b, 0, none⟩) nw cw)) w y4) := HMX2.out.trans (fun _ _ h => h) (ho4.mut (Or.inr (Or.inl rfl)))
          clear hb4 ho4 hn hS HI2 HMX2
          simp only [Act.put, List.getElem_toArray, List.getElem_cons_succ, List.getElem_cons_zero]
          refine wpAnyH_done (by kernel_rfl) ?_ _
          go_wp2
          go_roundw
          case rel => exact ⟨k + 1, by omega, by simp, HI4, HMX4⟩
          case measure => simp [intOf]; omega
end Go.Proofs.Ytdllnedmhhajnaa

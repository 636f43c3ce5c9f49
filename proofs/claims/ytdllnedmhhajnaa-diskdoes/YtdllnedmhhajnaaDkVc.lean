/- The walk of disk's Crash; what disk's functions do (layer 13). -/
import Derived.Test.YtdllnedmhhajnaaDkVl
namespace Go.Proofs.Ytdllnedmhhajnaa
open Go.RowKit
set_option maxRecDepth 100000
theorem wpSeq_minV {ops : Array Oper} {Q : Exit → Act → World → Prop} {rest : List Oper} {o : Oper} {a : Act} {w : World} (x y : Operand) (n m l : Int) (hl : l = min n m) (ho : o.op = .call { callee := .builtin .min, args := #[x, y], argTypes := #[3, 3] }) (hx : a.eval x = .int .i64 n) (hy : a.eval y = .int .i64 m) (hw : Region.wanted o (yielded ops a.tmps) = true)
    (h : wpList Try.prog ops Q rest (a.put o.dst (.int .i64 l)) w) : wpList Try.prog ops Q (o :: rest) a w := by
  refine wpSeq_val _ w hw ?_ h
  clear h hw
  generalize a.eval = f at hx hy ⊢
  unfold execOp
  rw [ho]
  first
    | (simp [go_sem, hx, hy]; omega)
    | (simp [go_sem, hx, hy]; split <;> omega)
    | (by_cases hmn : m < n <;> simp [go_sem, hx, hy, hmn] <;> omega)
theorem wpSeq_maxV {ops : Array Oper} {Q : Exit → Act → World → Prop} {rest : List Oper} {o : Oper} {a : Act} {w : World} (x y : Operand) (n m l : Int) (hl : l = max n m) (ho : o.op = .call { callee := .builtin .max, args := #[x, y], argTypes := #[3, 3] }) (hx : a.eval x = .int .i64 n) (hy : a.eval y = .int .i64 m) (hw : Region.wanted o (yielded ops a.tmps) = true)
    (h : wpList Try.prog ops Q rest (a.put o.dst (.int .i64 l)) w) : wpList Try.prog ops Q (o :: rest) a w := by
  refine wpSeq_val _ w hw ?_ h
  clear h hw
  generalize a.eval = f at hx hy ⊢
  unfold execOp
  rw [ho]
  first
    | (simp [go_sem, hx, hy]; omega)
    | (simp [go_sem, hx, hy]; split <;> omega)
    | (by_cases hmn : n < m <;> simp [go_sem, hx, hy, hmn] <;> omega)
theorem cutK_eq (x : Int) : ((cutK x : Nat) : Int) = min (max x 0) 64 := by
  unfold cutK
  split
  · omega
  · split <;> omega
theorem wpSeq_idxI {ops : Array Oper} {Q : Exit → Act → World → Prop} {rest : List Oper} {o : Oper} {a : Act} {w : World} (x y : Operand) (b off n c k : Nat) (hk : k < n) (ho : o.op = .indexAddr 34 x y) (hx : a.eval x = .slice (some ⟨b, off, none⟩) n c) (hy : a.eval y = .int .i64 (k : Int)) (hw : Region.wanted o (yielded ops a.tmps) = true)
    (h : wpList Try.prog ops Q rest (a.put o.dst (.pointer (some ⟨b, off + k, none⟩))) w) : wpList Try.prog ops Q (o :: rest) a w := by
  refine wpSeq_val _ w hw ?_ h
  have k0 : (0 : Int) ≤ (k : Int) := by omega
  have k1 : (k : Int) < (n : Int) := by omega
  clear h hw
  generalize a.eval = f at hx hy ⊢
  unfold execOp
  rw [ho]
  simp [go_sem, hx, hy, k0, k1, Addr.add_mid]
theorem hrI {w : World} {ad : Option Addr} {n c : Nat} {l : List Int} (h : ReadsI w (.slice ad n c) l) {j : Nat} (hj : j < n) (hn : n = l.length) : ∃ b off, ad = some ⟨b, off, none⟩ ∧ w.cell? ⟨b, off + j, none⟩ = some (.int .i64 (l.getD j 0)) := by
  obtain ⟨ad', cap, hv, _, hx⟩ := h
  simp only [Value.slice.injEq] at hv
  obtain ⟨rfl, _, _⟩ := hv
  obtain ⟨b, off, h1, h2⟩ := hx (by omega)
  exact ⟨b, off, h1, h2 j (by omega)⟩
theorem hrI2 {w : World} {b off n c : Nat} {l : List Int} (h : ReadsI w (.slice (some ⟨b, off, none⟩) n c) l) {j : Nat} (hj : j < n) (hn : n = l.length) : w.cell? ⟨b, off + j, none⟩ = some (.int .i64 (l.getD j 0)) := by
  obtain ⟨b', off', h1, h2⟩ := hrI h hj hn
  simp only [Option.some.injEq, Addr.mk.injEq, and_true] at h1
  obtain ⟨rfl, rfl⟩ := h1
  exact h2
theorem crashW_nil : ∀ (l : List (Nat × Bs)) (b : Bs), crashW b l [] = b
  | [], _ => rfl
  | p :: l, b => by
    show crashW (layD b p.1 p.2 (cutK (([] : List Int).getD 0 0))) l (([] : List Int).drop 1) = b
    rw [show cutK (([] : List Int).getD 0 0) = 0 from rfl, layD_zero, List.drop_nil]
    exact crashW_nil l b
theorem crashW_take : ∀ (l : List (Nat × Bs)) (b : Bs) (keep : List Int), crashW b (l.take keep.length) keep = crashW b l keep
  | [], b, keep => by rw [List.take_nil]
  | p :: l, b, [] => by rw [List.length_nil, List.take_zero, crashW_nil, crashW_nil]
  | p :: l, b, x :: keep => by
    rw [List.length_cons, List.take_succ_cons]
    show crashW (layD b p.1 p.2 _) (l.take keep.length) keep = crashW (layD b p.1 p.2 _) l keep
    exact crashW_take l _ keep
theorem crashW_min (l : List (Nat × Bs)) (b : Bs) (keep : List Int) : crashW b (l.take (min keep.length l.length)) keep = crashW b l keep := by
  by_cases h : keep.length ≤ l.length
  · rw [Nat.min_eq_left h, crashW_take]
  · rw [Nat.min_eq_right (by omega), List.take_length]
set_option maxRecDepth 100000 in
set_option maxHeartbeats 8000000 in
theorem dkCrash_any {w : World} {g : Nat} {P : Nat → Prop} {D : DkT} (v : Value) (keep : List Int) (h : DkIs w g P D) (hw2 : D.wait.length ≤ 200) (hr : Sta P w (fun W => ReadsI W v keep)) : Calls Try.prog 20 #[.pointer (some ⟨g, 0, none⟩), v] w fun r w' => ∃ P', r = .returned (.tuple #[]) ∧ DkIs w' g P' (crashD13 D keep) ∧ Mut P w w' ∧ Grew w P P' := by
  obtain ⟨gs, vw, fu, lf, hm, hP⟩ := h
  subst hP
  obtain ⟨n, HN⟩ : ∃ n, Hid (n = sizeD D) := ⟨_, rfl⟩
  obtain ⟨aw, cw, hvw⟩ := hm.wt.form
  obtain ⟨nw, HNW⟩ : ∃ n, Hid (n = D.wait.length) := ⟨_, rfl⟩
  rw [← HNW.out] at hvw
  subst hvw
  obtain ⟨dn, HDN⟩ : ∃ b, Hid (b = D.down) := ⟨_, rfl⟩
  have HM : Hid (DkM w g gs (.slice aw nw cw) fu lf D) := hm
  have HME : Hid (Blk w g [.slice (some ⟨gs, 0, none⟩) n n, .slice aw nw cw, .bool dn, .bool fu, .int .i64 lf] 68) := by have h9 := hm.me; rw [dkC, ← HN.out, ← HDN.out] at h9; exact h9
  have c1 : w.cell? ⟨g, 1, none⟩ = some (.slice aw nw cw) := HME.out.cell 1
  have HW2 : Hid (nw ≤ 200) := by show _ ≤ _; rw [HNW.out]; exact hw2
  have HOK : Hid (okD D) := hm.ok
  obtain ⟨ak, ck, hvk⟩ := hr.now.form
  obtain ⟨nk, HNK⟩ : ∃ n, Hid (n = keep.length) := ⟨_, rfl⟩
  rw [← HNK.out] at hvk
  subst hvk
  have HRD : Hid (Sta (dkP g gs (.slice aw nw cw)) w (fun W => ReadsI W (.slice ak nk ck) keep)) := hr
  obtain ⟨mn, HMN⟩ : ∃ n : Nat, Hid (n = min nk nw) := ⟨_, rfl⟩
  have HMI : Hid ((mn : Int) = min (nk : Int) (nw : Int)) := by show _ = _; have := HMN.out; omega
  have HSZ : Hid (∀ k, sizeD ⟨crashW D.safe (D.wait.take k) keep, D.wait, D.left, D.down⟩ = n) := fun k => by
    show (crashW D.safe (D.wait.take k) keep).length / 64 = n
    rw [len_crashW _ _ _ HOK.out.size.1 (fun q hq => HOK.out.wait q (List.mem_of_mem_take hq)), Nat.mul_div_cancel_left _ (by decide), HN.out]
  clear hm hw2 hr
  go_enter Try.func20, Try.ntmps20
  have tk0 : Hid True := trivial
  go_wp2_with (first
    | (clear tk0; with_reducible refine wpSeq_minV (.tmp 8) (.tmp 13) (nk : Int) (nw : Int) (mn : Int) HMI.out ?_ ?_ ?_ ?_ ?_
       · rfl
       · rfl
       · rfl
       · rfl))
  clear c1
  go_loopw [15] (fun i wr => ∃ k : Nat, k ≤ mn ∧ i = .int .i64 (k : Int) ∧ Hid (DkM wr g gs (.slice aw nw cw) fu lf ⟨crashW D.safe (D.wait.take k) keep, D.wait, D.left, D.down⟩) ∧ Hid (Mut (dkP g gs (.slice aw nw cw)) w wr)) (fun i _ => mn - (intOf i).toNat)
  case atStart => exact ⟨0, Nat.zero_le _, rfl, HM, Mut.refl _ _⟩
  case round =>
    obtain ⟨k, hkn, rfl, HI, HMX⟩ := hrel
    have HMK : Hid (Blk wr g [.slice (some ⟨gs, 0, none⟩) n n, .slice aw nw cw, .bool dn, .bool fu, .int .i64 lf] 68) := by have h9 := HI.out.me; rw [dkC, HSZ.out, ← HDN.out] at h9; exact h9
    by_cases hlt : k < mn
    case neg =>
      have hlk : ¬ ((k : Int) < (mn : Int)) := by omega
      have HEQ : Hid (crashW D.safe (D.wait.take k) keep = crashW D.safe D.wait keep) := by
        obtain rfl : k = mn := by omega
        show _ = _
        rw [HMN.out, HNK.out, HNW.out, crashW_min]
      have c0 : wr.cell? ⟨g, 0, none⟩ = some (.slice (some ⟨gs, 0, none⟩) n n) := HMK.out.cell 0
      have HLE : Hid (([.slice (some ⟨gs, 0, none⟩) n n, .slice none 0 0, .bool false, .bool false, .int .i64 0] : List Value).length = ([.slice (some ⟨gs, 0, none⟩) n n, .slice aw nw cw, .bool dn, .bool fu, .int .i64 lf] : List Value).length) := rfl
      have HSK : Hid ((Try.prog.info? 68).map (·.size) = some ([.slice (some ⟨gs, 0, none⟩) n n, .slice none 0 0, .bool false, .bool false, .int .i64 0] : List Value).length) := size_dk
      have HON : Hid (∀ v ∈ ([.slice (some ⟨gs, 0, none⟩) n n, .slice none 0 0, .bool false, .bool false, .int .i64 0] : List Value), v.oneCell' = true) := fun v hv => by
        simp only [List.mem_cons, List.not_mem_nil, or_false] at hv
        rcases hv with rfl | rfl | rfl | rfl | rfl <;> rfl
      have tk1 : Hid True := trivial
      have tk2 : Hid True := trivial
      go_wp2_with (first
    | (clear tk1; with_reducible refine wpSeq_build 68 [(0, .tmp 48)] [.slice (some ⟨gs, 0, none⟩) n n, .slice none 0 0, .bool false, .bool false, .int .i64 0] ?_ ?_ ?_ ?_
       rotate_left
       · rfl
       · rfl
       rotate_left
       · exact built_dk _ _ _ _ rfl)
    | (clear tk2; with_reducible refine wpSeq_storeRow 68 (.tmp 50) (.tmp 49) g [.slice (some ⟨gs, 0, none⟩) n n, .slice aw nw cw, .bool dn, .bool fu, .int .i64 lf] [.slice (some ⟨gs, 0, none⟩) n n, .slice none 0 0, .bool false, .bool false, .int .i64 0] HMK.out HLE.out HSK.out HON.out ?_ ?_ ?_ ?_ ?_
       · rfl
       · rfl
       · rfl
       · rfl
       intro y9 hs9
       have HB9 : Hid (Blk y9 g [.slice (some ⟨gs, 0, none⟩) n n, .slice none 0 0, .bool false, .bool false, .int .i64 0] 68) := hs9.blk
       have HO9 : Hid (Only g wr y9) := hs9.only
       clear hs9 c0))
      refine bodyPost_end (results_none rfl _ _ _) rfl ?_
      rw [HEQ.out] at HI
      have HSE := HSZ.out k
      rw [HEQ.out] at HSE
      refine ⟨rfl, _, ⟨gs, .slice none 0 0, false, 0, HI.out.mine HO9.out ?_ rfl (OwnV.nil _) (HOK.out.crash keep) rfl (fun h => absurd h (by show ¬ (0 : Int) ≤ -1; decide)), rfl⟩, HMX.out.trans (fun _ _ h => h) (HO9.out.mut (Or.inl rfl)), ?_⟩
      · show Blk y9 g (dkC gs (sizeD ⟨crashW D.safe D.wait keep, [], -1, false⟩) _ false false 0) _
        rw [show sizeD ⟨crashW D.safe D.wait keep, [], -1, false⟩ = n from HSE]
        exact HB9.out
      · intro j hj
        rcases hj with rfl | rfl | hj
        · exact Or.inl (Or.inl rfl)
        · exact Or.inl (Or.inr (Or.inl rfl))
        · cases hj
    case pos =>
      have hlk : (k : Int) < (mn : Int) := by omega
      have HKB : Hid (k < nk ∧ k < nw) := by have := HMN.out; exact ⟨by omega, by omega⟩
      have HKN : Hid (k < nw) := HKB.out.2
      have HLT : Hid (k < D.wait.length) := by show _ < _; rw [← HNW.out]; exact HKN.out
      have f5 : IntKind.i64.wrap ((k : Int) + 1) = (k : Int) + 1 := by rw [IntKind.wrap_i64]; have := HW2.out; have := HKN.out; omega
      obtain ⟨hmem, htk⟩ := getD_memV2 HLT.out
      obtain ⟨kb, ko, rfl, _⟩ := hrI HRD.out.now HKB.out.1 HNK.out
      obtain ⟨b, rfl, hat⟩ := HI.out.wt.at (fun p hp => (HOK.out.wait p hp).2) (Nat.lt_of_le_of_lt (Nat.zero_le _) HLT.out)
      have hrg := hat k HLT.out
      replace hrg : wr.rangeAt b (k * 65) (wrC (D.wait.getD k (0, []))) := hrg
      obtain ⟨p, HPP⟩ : ∃ p, Hid (p = D.wait.getD k (0, [])) := ⟨_, rfl⟩
      rw [← HPP.out] at hmem htk hrg
      have HRG : Hid (wr.rangeAt b (k * 65) (wrC p)) := hrg
      obtain ⟨x, HXX⟩ : ∃ x : Int, Hid (x = keep.getD k 0) := ⟨_, rfl⟩
      obtain ⟨m, HMM⟩ : ∃ m : Nat, Hid (m = cutK x) := ⟨_, rfl⟩
      have HM6 : Hid (m ≤ 64) := by show _ ≤ _; rw [HMM.out]; exact cutK_le x
      obtain ⟨mx, HXM⟩ : ∃ y : Int, Hid (y = max x 0) := ⟨_, rfl⟩
      have HMX2 : Hid ((m : Int) = min mx 64) := by show _ = _; rw [HMM.out, cutK_eq, HXM.out]
      have HTK : Hid (crashW D.safe (D.wait.take (k + 1)) keep = layD (crashW D.safe (D.wait.take k) keep) p.1 p.2 m) := by
        show _ = _
        rw [htk, crashW_snoc, List.length_take, Nat.min_eq_left (Nat.le_of_lt HLT.out), HMM.out, HXX.out]
      have HPW : Hid (p.1 < n ∧ p.2.length = 64) := by rw [HN.out]; exact HOK.out.wait p hmem
      have HP6 : Hid (p.2.length = 64) := HPW.out.2
      have HWL : Hid ((wrC p).length = (wrC (0, zs64)).length) := by show _ = _; rw [wrC_len HP6.out, wrC_len (p := (0, zs64)) len_zs64]
      have HLN : Hid ((crashW D.safe (D.wait.take k) keep).length = 64 * n) := by
        show _ = _
        rw [len_crashW _ _ _ HOK.out.size.1 (fun q hq => HOK.out.wait q (List.mem_of_mem_take hq)), HN.out]
      have HTL : Hid ((p.2.take m).length = m) := by show _ = _; rw [List.length_take, HP6.out]; have := HM6.out; omega
      have c1 : wr.cell? ⟨g, 1, none⟩ = some (.slice (some ⟨b, 0, none⟩) nw cw) := HMK.out.cell 1
      have HCK : Hid (wr.cell? ⟨kb, ko + k, none⟩ = some (.int .i64 x)) := by rw [HXX.out]; exact hrI2 (HRD.out.at HMX.out) HKB.out.1 HNK.out
      clear hat hrg hmem htk
      have tk1 : Hid True := trivial
      have tk2 : Hid True := trivial
      have tk3 : Hid True := trivial
      have tk4 : Hid True := trivial
      have tk5 : Hid True := trivial
      have tk6 : Hid True := trivial
      have tk7 : Hid True := trivial
      go_wp2_with (first
    | (clear tk1; with_reducible refine wpSeq_idxWr (.tmp 21) (.tmp 22) b nw cw k HKN.out ?_ ?_ ?_ ?_ ?_
       · rfl
       · rfl
       · rfl
       · rfl)
    | (clear tk2; with_reducible refine wpSeq_loadW 72 (.tmp 23) b (k * 65) (wrC p) _ HRG.out Try.underlying72 rfl (sz_wr HP6.out) ?_ ?_ ?_ ?_
       · rfl
       · rfl
       · rfl)
    | (clear tk3; with_reducible refine wpSeq_allocDw ?_ ?_ ?_
       · rfl
       · rfl
       intro g5 y1 nn
       have HG5 : Hid (Blk y1 g5 (wrC (0, zs64)) 72) := nn.blk
       have HBW : Hid (Below wr.heap.size wr y1) := nn.below
       have HGE : Hid (wr.heap.size ≤ g5) := nn.ge
       clear nn c1)
    | (clear tk4; with_reducible refine wpSeq_storeRow 72 (.tmp 5) (.tmp 24) g5 (wrC (0, zs64)) (wrC p) HG5.out HWL.out (sz_wr HP6.out) (wrC_one _) ?_ ?_ ?_ ?_ ?_
       · rfl
       · rfl
       · rfl
       · rfl
       intro y2 hs
       replace HG5 : Hid (Blk y2 g5 (wrC p) 72) := hs.blk
       replace HBW : Hid (Below wr.heap.size wr y2) := HBW.out.trans (hs.only.below HGE.out HBW.out.size)
       have ck2 : y2.cell? ⟨kb, ko + k, none⟩ = some (.int .i64 x) := by rw [HBW.out.cell (p := ⟨kb, ko + k, none⟩) (block_lt_of_cell HCK.out)]; exact HCK.out
       clear hs)
    | (clear tk5; with_reducible refine wpSeq_idxI (.tmp 25) (.tmp 26) kb ko nk ck k HKB.out.1 ?_ ?_ ?_ ?_ ?_
       · rfl
       · rfl
       · rfl
       · rfl)
    | (clear tk6; with_reducible refine wpSeq_maxV (.tmp 28) (.const (.int .i64 0)) x 0 mx HXM.out ?_ ?_ ?_ ?_ ?_
       · rfl
       · rfl
       · rfl
       · rfl)
    | (clear tk7; with_reducible refine wpSeq_minV (.tmp 29) (.const (.int .i64 64)) mx 64 (m : Int) HMX2.out ?_ ?_ ?_ ?_ ?_
       · rfl
       · rfl
       · rfl
       · rfl)
    | fail)
      clear ck2
      have HMK2 : Hid (Blk y2 g [.slice (some ⟨gs, 0, none⟩) n n, .slice (some ⟨b, 0, none⟩) nw cw, .bool dn, .bool fu, .int .i64 lf] 68) := HMK.out.below HBW.out HMK.out.lt
      refine wp_region_held_drew (S := fun wx => Blk wx g [.slice (some ⟨gs, 0, none⟩) n n, .slice (some ⟨b, 0, none⟩) nw cw, .bool dn, .bool fu, .int .i64 lf] 68 ∧ Blk wx g5 (wrC p) 72) (by kernel_rfl) ⟨HMK2.out.drew, HG5.out.drew⟩ ?_
      intro hS
      have HI2 : Hid (DkM y2.drew g gs (.slice (some ⟨b, 0, none⟩) nw cw) fu lf ⟨crashW D.safe (D.wait.take k) keep, D.wait, D.left, D.down⟩) := HI.out.below HBW.out.drew
      have HMX3 : Hid (Mut (dkP g gs (.slice (some ⟨b, 0, none⟩) nw cw)) w y2.drew) := (HMX.out.trans (fun _ _ h => h) (mut_below HBW.out _)).drew
      clear HI HMX HBW HGE HG5 HMK2 HMK HRG HCK
      change wpAnyH _ _ _ _ _ _ _ _ (World.drew y2)
      generalize World.drew y2 = y3 at *
      refine wpAnyH_take (i := 0) (v := .pointer (some ⟨g, 0, none⟩)) rfl (by kernel_rfl) (by kernel_rfl) (by kernel_rfl) (fun _ _ _ h => h) (Or.inl ⟨by rfl, fun wx hx => by simp [go_sem]⟩) hS ?_
      simp only [Act.put, List.getElem_toArray, List.getElem_cons_zero, List.setIfInBounds_toArray, List.set_cons_zero, List.set_cons_succ]
      refine wpAnyH_take (i := 1) (v := .pointer (some ⟨g, 0, none⟩)) rfl (by kernel_rfl) (by kernel_rfl) (by kernel_rfl) (fun _ _ _ h => h) (Or.inl ⟨by rfl, fun wx hx => by simp [go_sem]⟩) hS ?_
      simp only [Act.put, List.getElem_toArray, List.getElem_cons_succ, List.getElem_cons_zero, List.setIfInBounds_toArray, List.set_cons_zero, List.set_cons_succ]
      refine wpAnyH_take (i := 2) (v := .pointer (some ⟨g, 0, none⟩)) rfl (by kernel_rfl) (by kernel_rfl) (by kernel_rfl) (fun _ _ _ h => h) (Or.inl ⟨by rfl, fun wx hx => by simp [go_sem]⟩) hS ?_
      simp only [Act.put, List.getElem_toArray, List.getElem_cons_succ, List.getElem_cons_zero, List.setIfInBounds_toArray, List.set_cons_zero, List.set_cons_succ]
      refine wpAnyH_take (i := 3) (v := .slice (some ⟨gs, 0, none⟩) n n) rfl (by kernel_rfl) (by kernel_rfl) (by kernel_rfl) (fun _ _ _ h => h) (Or.inl ⟨by rfl, fun wx hx => by (have hc := hx.1.cell 0; simp at hc; simp [go_sem, hc])⟩) hS ?_
      simp only [Act.put, List.getElem_toArray, List.getElem_cons_succ, List.getElem_cons_zero, List.setIfInBounds_toArray, List.set_cons_zero, List.set_cons_succ]
      refine wpAnyH_take (i := 4) (v := .pointer (some ⟨g5, 0, none⟩)) rfl (by kernel_rfl) (by kernel_rfl) (by kernel_rfl) (fun _ _ _ h => h) (Or.inl ⟨by rfl, fun wx hx => by simp [go_sem]⟩) hS ?_
      simp only [Act.put, List.getElem_toArray, List.getElem_cons_succ, List.getElem_cons_zero, List.setIfInBounds_toArray, List.set_cons_zero, List.set_cons_succ]
      refine wpAnyH_take (i := 5) (v := .int .i64 (p.1 : Int)) rfl (by kernel_rfl) (by kernel_rfl) (by kernel_rfl) (fun _ _ _ h => h) (Or.inl ⟨by rfl, fun wx hx => by (have hc : wx.cell? ⟨g5, 0, none⟩ = some (.int .i64 (p.1 : Int)) := hx.2.cell 0; simp [go_sem, hc])⟩) hS ?_
      simp only [Act.put, List.getElem_toArray, List.getElem_cons_succ, List.getElem_cons_zero, List.setIfInBounds_toArray, List.set_cons_zero, List.set_cons_succ]
      refine wpAnyH_take (i := 6) (v := .pointer (some ⟨gs, 64 * p.1, none⟩)) rfl (by kernel_rfl) (by kernel_rfl) (by kernel_rfl) (fun _ _ _ h => h) (Or.inl ⟨by rfl, fun wx hx => by exact idxSec gs n p.1 HPW.out.1 _ _ _ _ rfl rfl rfl _⟩) hS ?_
      simp only [Act.put, List.getElem_toArray, List.getElem_cons_succ, List.getElem_cons_zero, List.setIfInBounds_toArray, List.set_cons_zero, List.set_cons_succ]
      refine wpAnyH_take (i := 7) (v := .slice (some ⟨gs, 64 * p.1, none⟩) 64 64) rfl (by kernel_rfl) (by kernel_rfl) (by kernel_rfl) (fun _ _ _ h => h) (Or.inl ⟨by rfl, fun wx hx => by exact sliceSec gs (64 * p.1) _ _ _ rfl rfl _⟩) hS ?_
      simp only [Act.put, List.getElem_toArray, List.getElem_cons_succ, List.getElem_cons_zero, List.setIfInBounds_toArray, List.set_cons_zero, List.set_cons_succ]
      refine wpAnyH_take (i := 8) (v := .pointer (some ⟨g5, 1, none⟩)) rfl (by kernel_rfl) (by kernel_rfl) (by kernel_rfl) (fun _ _ _ h => h) (Or.inl ⟨by rfl, fun wx hx => by simp [go_sem]⟩) hS ?_
      simp only [Act.put, List.getElem_toArray, List.getElem_cons_succ, List.getElem_cons_zero, List.setIfInBounds_toArray, List.set_cons_zero, List.set_cons_succ]
      refine wpAnyH_take (i := 9) (v := .int .i64 (m : Int)) rfl (by kernel_rfl) (by kernel_rfl) (by kernel_rfl) (fun _ _ _ h => h) (Or.inl ⟨by rfl, fun wx hx => by simp [go_sem]⟩) hS ?_
      simp only [Act.put, List.getElem_toArray, List.getElem_cons_succ, List.getElem_cons_zero, List.setIfInBounds_toArray, List.set_cons_zero, List.set_cons_succ]
      refine wpAnyH_take (i := 10) (v := .slice (some ⟨g5, 1, none⟩) m 64) rfl (by kernel_rfl) (by kernel_rfl) (by kernel_rfl) (fun _ _ _ h => h) (Or.inl ⟨by rfl, fun wx hx => by exact sliceSecTo g5 1 m HM6.out _ _ _ _ rfl rfl rfl _⟩) hS ?_
      simp only [Act.put, List.getElem_toArray, List.getElem_cons_succ, List.getElem_cons_zero, List.setIfInBounds_toArray, List.set_cons_zero, List.set_cons_succ]
      have hsrc : ∀ j, j < (p.2.take m).length → y3.cell? ⟨g5, 1 + j, none⟩ = some (.int .u8 (((p.2.take m).getD j 0).toNat : Int)) := fun j hj => by
        rw [HTL.out] at hj
        have h1 := range_cells (range_tail (off := 0) (Blk.range hS.2)) j (by rw [HP6.out]; have := HM6.out; omega)
        rw [Nat.zero_add] at h1
        rw [h1, List.getD_eq_getElem?_getD, List.getD_eq_getElem?_getD, List.getElem?_take_of_lt hj]
      refine wpAnyH_copyO 11 (.tmp 38) (.tmp 41) gs (64 * p.1) 64 64 g5 1 m 64 70 _ (p.2.take m) HI2.out.sf (by rw [HTL.out]; have := HM6.out; omega) (by rw [HTL.out, cb_len]; show _ ≤ (crashW D.safe (D.wait.take k) keep).length; rw [HLN.out]; have := HPW.out.1; have := HM6.out; omega) hsrc (by kernel_rfl) rfl (by rfl) rfl rfl rfl ?_
      intro y4 hb4 ho4
      have hn := HI2.out.ne
      refine ⟨⟨hS.1.only ho4 hn.1, hS.2.only ho4 (hS.2.neT HI2.out.sf (by decide))⟩, ?_⟩
      have HI4 : Hid (DkM y4 g gs (.slice (some ⟨b, 0, none⟩) nw cw) fu lf ⟨crashW D.safe (D.wait.take (k + 1)) keep, D.wait, D.left, D.down⟩) := by
        rw [HTK.out]
        rw [lay_cb HTL.out] at hb4
        exact HI2.out.sect ho4 hb4 (by show (layD (crashW D.safe (D.wait.take k) keep) p.1 p.2 m).length = (crashW D.safe (D.wait.take k) keep).length; rw [len_layD (by rw [HLN.out]; have := HPW.out.1; have := HM6.out; omega) (by rw [HP6.out]; exact HM6.out)])
      have HMX4 : Hid (Mut (dkP g gs (.slice (some ⟨b, 0, none⟩) nw cw)) w y4) := HMX3.out.trans (fun _ _ h => h) (ho4.mut (Or.inr (Or.inl rfl)))
      clear hb4 ho4 hn hS hsrc HI2 HMX3
      simp only [Act.put, List.getElem_toArray, List.getElem_cons_succ, List.getElem_cons_zero]
      refine wpAnyH_done (by kernel_rfl) ?_ _
      go_wp2
      go_roundw
      case rel => exact ⟨k + 1, by omega, by simp, HI4, HMX4⟩
      case measure => simp [intOf]; omega
/-- what disk's functions do -/
theorem dkOps : DkOps DkIs where
  lt := fun h k hk => by obtain ⟨gs, vw, fu, lf, hm, rfl⟩ := h; exact hm.lt k hk
  ok := fun h => by obtain ⟨gs, vw, fu, lf, hm, rfl⟩ := h; exact hm.ok
  same := fun h _ hs => by obtain ⟨gs, vw, fu, lf, hm, rfl⟩ := h; exact ⟨gs, vw, fu, lf, hm.same hs, rfl⟩
  new := fun w n h1 h2 => (dkNew_m w n h1 (by omega)).mono (fun r w' h => by
    obtain ⟨g, gs, h1, h2, h3, h4, h5⟩ := h
    refine ⟨g, _, h1, ⟨gs, _, _, _, h2, rfl⟩, h3, fun k hk => ?_⟩
    rcases hk with rfl | rfl | hk
    · exact h4
    · exact h5
    · cases hk)
  newBad := dkNew_bad
  size := dkSize_any
  pending := dkPending_any
  read := fun i h => dkRead_any i h
  write := fun i v b h h2 _ hr => dkWrite_any i v b h h2 hr
  sync := dkSync_any
  fuse := fun n hn h => dkFuse_any n hn h
  crash := fun v keep h h2 hr => dkCrash_any v keep h h2 hr
  dump := dkDump_any
theorem dkLoads : DkLoad DkIs where
  load := dkLoad_any
  arg := dkLoad_arg
  range := dkLoad_range
end Go.Proofs.Ytdllnedmhhajnaa

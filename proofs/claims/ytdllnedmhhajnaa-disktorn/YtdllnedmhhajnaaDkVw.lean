/- The walk of disk's Write (layer 13). -/
import Derived.Test.YtdllnedmhhajnaaDkVs
namespace Go.Proofs.Ytdllnedmhhajnaa
open Go.RowKit
set_option maxRecDepth 100000
theorem wp_appendV {o : Oper} {a : Act} {w : World} {K : Act → World → Prop} {Q : Exit → Act → World → Prop} (s x : Operand) (v : Value) (l : List (Nat × Bs)) (p : Nat × Bs) (gu : Nat)
    (hown : OwnV w v l) (hu : Blk w gu (wrC p) 72) (hp : p.2.length = 64) (hl : l.length < 1000000)
    (ho : o.op = .call { callee := .builtin .append, args := #[s, x], argTypes := #[66, 66] }) (hs : a.eval s = v) (hx : a.eval x = .slice (some ⟨gu, 0, none⟩) 1 1)
    (h : ∀ v' w', OwnV w' v' (l ++ [p]) → w.grownBy w' v.ownBlock → (v'.ownBlock = v.ownBlock ∨ v'.ownBlock = some w.heap.size) → K (a.put o.dst v') w') : o.wp Try.prog a w K Q := by
  obtain ⟨i0, hi, hz0, hz1, hz2⟩ := info_parts Try.infoDw
  obtain ⟨v', w', hr, h2, h3, h4, h5⟩ := run_append_own_at (P := Try.prog) w 0 66 o.type 72 i0 (.agg (Value.int .i64 0 :: cb zs64).toArray) 65 72 Try.underlying66 hi hz0 hz1 hz2 (by show (Value.int .i64 0 :: cb zs64).toArray.size = 65; rw [List.size_toArray, List.length_cons, cb_len, len_zs64]) (by decide) v l.length (flatV l) hown ⟨gu, 0, none⟩ 1 1 (wrC p) (by rw [wrC_len hp]) (by intro j u hj; rw [Addr.add_mid, Nat.zero_add, hu.cell, hj]) (wrC_one p) (by unfold maxLen; omega) (by omega) (Nat.zero_le _)
  unfold Oper.wp execOp
  simp only [ho, resolve, invoke, builtin, Sem.run_bind, Sem.run_pure, Result.andThen_ok, List.map_toArray, List.map_cons, List.map_nil, hs, hx, hr]
  refine h v' w' ?_ h3 h5
  unfold OwnV
  rw [flatV_snoc, List.length_append]
  exact h2
theorem fill_one65 (cs : List Value) (h : cs.length = 65) (a0 : Array Value) (ha : a0.size = 65) : Instr.fill (fun i => some (i * 65, 65)) a0 [(0, .agg cs.toArray)] = some cs.toArray := by
  have e : a0 = ([] ++ (a0.toList ++ [])).toArray := by simp
  rw [e, fill_seg (vs := cs) (off := 0) (size := 65) (by simp) rfl (by simpa using ha) rfl h, Instr.fill]
  simp
theorem build_dw1 (f : Operand → Value) (o : Oper) (x : Operand) (ho : o.op = .buildSlice 66 1 #[(0, x)]) (p : Nat × Bs) (hp : p.2.length = 64) (hx : f x = .agg (wrC p).toArray) (w : World) :
    (execOp f o).run Try.prog w = .ok (.value (.slice (some ⟨w.heap.size, 0, none⟩) 1 1)) (w.alloc (.cells (wrC p).toArray 72)) := by
  obtain ⟨i0, hi, hz, hs, _⟩ := info_parts Try.infoDw
  have hr := run_buildSlice (P := Try.prog) w 66 72 1 #[(0, .agg (wrC p).toArray)] (wrC p).toArray i0 _ Try.underlying66 hi hz (by rw [hs]; decide) (by rw [hs]; decide) (by rw [hs]; exact fill_one65 (wrC p) (wrC_len hp) _ (by simp))
  unfold execOp
  rw [ho]
  simp only [List.map_toArray, List.map_cons, List.map_nil, hx, Sem.run_bind, hr, Result.andThen_ok, Sem.run_pure]
theorem built_dw (i : Int) : ∀ ps, ps = [(0, Value.int .i64 i)] → Try.prog.built 72 ps = some (Value.int .i64 i :: cb zs64).toArray := fun ps h => by subst h; kernel_rfl
theorem wpAnyH_cellV {md : Region.Mode} {ops : Array Oper} {Q : Exit → Act → World → Prop} {S : World → Prop} {fuel : Nat} {listed : Array Bool} {a : Act} {w : World} (i : Nat) {oi : Oper} (x y : Operand) (g k : Nat) (cs : List Value) (ad : Option Addr) (n c : Nat) (tb : TypeId) (hk : k < cs.length) (hb : Blk w g cs tb)
    (hr : Region.ready md ops listed = [i]) (hi : ops[i]? = some oi) (hw : Region.wanted oi (yielded ops a.tmps) = true) (ho : oi.op = .store 66 x y) (hx : a.eval x = .pointer (some ⟨g, k, none⟩)) (hy : a.eval y = .slice ad n c)
    (h : ∀ w', Blk w' g (cs.set k (.slice ad n c)) tb → Only g w w' → S w' ∧ wpAnyH Try.prog md ops Q S fuel (listed.setIfInBounds i true) (a.put oi.dst undef) w') : wpAnyH Try.prog md ops Q S (fuel + 1) listed a w := by
  have hc : w.cell? ⟨g, k, none⟩ = some cs[k] := by rw [hb.cell, List.getElem?_eq_getElem hk]
  have hf : w.frozen? ⟨g, k, none⟩ = false := hb.frozen k
  have he : (execOp a.eval oi).run Try.prog w = .ok .skip (w.setCell ⟨g, k, none⟩ (.slice ad n c)) := by
    clear h hw
    generalize a.eval = f at hx hy ⊢
    unfold execOp
    rw [ho]
    simp [go_sem, hx, hy, hc, hf]
  refine wpAnyH_law i hr hi hw ?_
  unfold Oper.wp
  rw [he, Oper.upon_skip]
  exact h _ (hb.set k _) (Only.setCell (Only.refl g w) k _)
theorem blk_grown {w w' : World} {g : Nat} {cs : List Value} {t : TypeId} {row : Option Nat} (h : Blk w g cs t) (hg : w.grownBy w' row) (hne : row ≠ some g) : Blk w' g cs t := blk_same h (hg.block g h.lt (fun e => hne e.symm))
theorem wpSeq_copyO {ops : Array Oper} {Q : Exit → Act → World → Prop} {rest : List Oper} {o : Oper} {a : Act} {w : World} (d s : Operand) (g k dLen dCap b off sLen sCap : Nat) (t : TypeId) (cs : List Value) (xs : Bs) (hg : Blk w g cs t) (hm : xs.length = min sLen dLen) (hk : k + xs.length ≤ cs.length)
    (hsrc : ∀ j, j < xs.length → w.cell? ⟨b, off + j, none⟩ = some (.int .u8 ((xs.getD j 0).toNat : Int))) (ho : o.op = .call { callee := .builtin .copy, args := #[d, s], argTypes := #[24, 24] }) (hx : a.eval d = .slice (some ⟨g, k, none⟩) dLen dCap) (hy : a.eval s = .slice (some ⟨b, off, none⟩) sLen sCap) (hw : Region.wanted o (yielded ops a.tmps) = true)
    (h : ∀ w', Blk w' g (cs.take k ++ cb xs ++ cs.drop (k + xs.length)) t → Only g w w' → wpList Try.prog ops Q rest (a.put o.dst (.int .i64 (xs.length : Int))) w') : wpList Try.prog ops Q (o :: rest) a w := by
  obtain ⟨w', h1, h2, h3⟩ := copyO a.eval o d s ho w g k dLen dCap b off sLen sCap t cs xs hg hm hk hsrc hx hy
  exact wpSeq_val _ _ hw h1 (h w' h2 h3)
theorem Reads.cellsAt {w : World} {b off n c : Nat} {l : Bs} (h : Reads w (.slice (some ⟨b, off, none⟩) n c) l) : ∀ j, j < l.length → w.cell? ⟨b, off + j, none⟩ = some (.int .u8 ((l.getD j 0).toNat : Int)) := fun j hj => by
  obtain ⟨b', off', h1, h2⟩ := h.atB (Nat.lt_of_le_of_lt (Nat.zero_le _) hj)
  simp only [Option.some.injEq, Addr.mk.injEq, and_true] at h1
  obtain ⟨rfl, rfl⟩ := h1
  exact h2 j hj
theorem wr_copied (k : Nat) {b : Bs} (hb : b.length = 64) : (wrC (k, zs64)).take 1 ++ cb b ++ (wrC (k, zs64)).drop (1 + b.length) = wrC (k, b) := by
  have e : (wrC (k, zs64)).drop (1 + b.length) = [] := List.drop_of_length_le (by rw [wrC_len len_zs64, hb]; exact Nat.le_refl _)
  rw [e, List.append_nil]
  rfl
/-- what a write leaves ahead of the change -/
def wtD (D : DkT) (k : Nat) (b : Bs) : DkT := ⟨D.safe, D.wait ++ [(k, b)], D.left, D.down⟩
theorem okD.wt {D : DkT} (h : okD D) {k : Nat} {b : Bs} (hk : k < sizeD D) (hb : b.length = 64) : okD (wtD D k b) := by
  obtain ⟨h1, h2, h3⟩ := h.size
  refine ⟨⟨sizeD D, h2, h3, h1, fun p hp => ?_⟩, h.lo, h.hi⟩
  rcases List.mem_append.1 hp with hp | hp
  · exact h.wait p hp
  · rw [List.mem_singleton.1 hp]; exact ⟨hk, hb⟩
set_option maxRecDepth 100000 in
set_option maxHeartbeats 8000000 in
theorem dkWrite_any {w : World} {g : Nat} {P : Nat → Prop} {D : DkT} (i : Int) (v : Value) (b : Bs) (h : DkIs w g P D) (hw2 : D.wait.length ≤ 200) (hr : Sta P w (fun W => Reads W v b)) : Calls Try.prog 24 #[.pointer (some ⟨g, 0, none⟩), .int .i64 i, v] w fun r w' => ∃ P', r = .returned (.int .i64 (putX13 D i b)) ∧ DkIs w' g P' (putD13 D i b) ∧ Mut P w w' ∧ Grew w P P' := by
  have HK : Hid (DkIs w g P D) := h
  obtain ⟨gs, vw, fu, lf, hm, hP⟩ := h
  subst hP
  have HRF : Hid (Calls Try.prog 33 #[.pointer (some ⟨g, 0, none⟩), .int .i64 i] w fun r w' => r = .returned (.int .i64 (readX13 D i)) ∧ w' = w) := dkRefused_any i hm
  by_cases hx : readX13 D i = 0
  case neg =>
    have q1 : (readX13 D i == 0) = false := by rw [beq_eq_false_iff_ne]; exact hx
    have HE : Hid (putD13 D i b = D ∧ putX13 D i b = readX13 D i) := by
      unfold putD13 putX13 readX13
      unfold readX13 at hx
      by_cases h3 : D.down = true
      · rw [if_pos h3, if_pos h3, if_pos h3]; exact ⟨rfl, rfl⟩
      · rw [if_neg h3] at hx
        rw [if_neg h3, if_neg h3, if_neg h3]
        by_cases h4 : hasD D i = false
        · rw [if_pos h4, if_pos h4, if_pos h4]; exact ⟨rfl, rfl⟩
        · rw [if_neg h4] at hx; exact absurd rfl hx
    rw [HE.out.1, HE.out.2]
    obtain ⟨xx, HXX⟩ : ∃ x, Hid (x = readX13 D i) := ⟨_, rfl⟩
    rw [← HXX.out] at HRF q1
    rw [← HXX.out]
    clear hx hm hw2 hr
    go_enter Try.func24, Try.ntmps24
    have tk0 : Hid True := trivial
    go_wp2_with (first
    | (clear tk0; go_at_call 33; refine (HRF.out).mono ?_; rintro e0 y0 ⟨rfl, rfl⟩))
    go_ret
    exact ⟨_, rfl, HK.out, Mut.refl _ _, Grew.refl _ _⟩
  case pos =>
    have h1 : D.down = false ∧ 0 ≤ i ∧ i < (sizeD D : Int) := by
      unfold readX13 at hx
      cases hd : D.down with
      | true => rw [hd] at hx; simp at hx
      | false =>
        rw [hd, if_neg (by decide)] at hx
        refine ⟨rfl, ?_⟩
        by_cases hh : hasD D i = false
        · rw [if_pos hh] at hx; simp at hx
        · rw [hasD_not] at hh
          exact Decidable.not_not.1 hh
    obtain ⟨k, rfl⟩ := Int.eq_ofNat_of_zero_le h1.2.1
    have HKS : Hid (k < sizeD D) := by show _ < _; have := h1.2.2; omega
    have hdn := h1.1
    have hha : ¬ (hasD D (k : Int) = false) := by rw [hasD_not]; exact fun h => h ⟨h1.2.1, h1.2.2⟩
    rw [hx] at HRF
    obtain ⟨adb, cb9, hv, hcb, hnb, hxb⟩ := id hr.now
    by_cases hb : b.length = 64
    case neg =>
      have HE : Hid (putD13 D (k : Int) b = D ∧ putX13 D (k : Int) b = 1) := by
        constructor
        · rw [putD13, if_neg (by rw [hdn]; decide), if_neg hha, if_pos hb]
        · rw [putX13, if_neg (by rw [hdn]; decide), if_neg hha, if_pos hb]
      rw [HE.out.1, HE.out.2]
      obtain ⟨lb, HLB⟩ : ∃ x, Hid (x = b.length) := ⟨_, rfl⟩
      rw [← HLB.out] at hv hb
      subst hv
      have q2 : ((lb : Int) == 64) = false := by rw [beq_eq_false_iff_ne]; omega
      clear hx hm hw2 hr h1 hdn hha hcb hnb hxb hb
      go_enter Try.func24, Try.ntmps24
      have tk0 : Hid True := trivial
      go_wp2_with (first
      | (clear tk0; go_at_call 33; refine (HRF.out).mono ?_; rintro e0 y0 ⟨rfl, rfl⟩))
      go_ret
      exact ⟨_, rfl, HK.out, Mut.refl _ _, Grew.refl _ _⟩
    case pos =>
      have HE : Hid (putD13 D (k : Int) b = chD (wtD D k b) ∧ putX13 D (k : Int) b = if (wtD D k b).left = 0 then 14 else 0) := by
        constructor
        · rw [putD13, if_neg (by rw [hdn]; decide), if_neg hha, if_neg (by rw [hb]; decide), Int.toNat_natCast]; rfl
        · rw [putX13, if_neg (by rw [hdn]; decide), if_neg hha, if_neg (by rw [hb]; decide)]; rfl
      rw [HE.out.1, HE.out.2]
      obtain ⟨bb, offb, hadb, _⟩ := hxb (by omega)
      subst hadb
      rw [hb] at hv
      subst hv
      have HB6 : Hid (b.length = 64) := hb
      have HRD : Hid (Sta (dkP g gs vw) w (fun W => Reads W (.slice (some ⟨bb, offb, none⟩) 64 cb9) b)) := hr
      have HDW : Hid ((wtD D k b).down = false) := hdn
      have HW2 : Hid (D.wait.length ≤ 200) := hw2
      have HMN : Hid (b.length = min 64 64 ∧ 1 + b.length ≤ (wrC (k, zs64)).length) := ⟨by rw [hb]; rfl, by rw [hb, wrC_len len_zs64]; exact Nat.le_refl _⟩
      clear hx hw2 hr hha hcb hnb hxb hb
      obtain ⟨n, HN⟩ : ∃ n, Hid (n = sizeD D) := ⟨_, rfl⟩
      obtain ⟨aw, cw, hvw⟩ := hm.wt.form
      obtain ⟨nw, HNW⟩ : ∃ n, Hid (n = D.wait.length) := ⟨_, rfl⟩
      rw [← HNW.out] at hvw
      subst hvw
      obtain ⟨dn, HDN⟩ : ∃ b, Hid (b = D.down) := ⟨_, rfl⟩
      have HM : Hid (DkM w g gs (.slice aw nw cw) fu lf D) := hm
      have HME : Hid (Blk w g [.slice (some ⟨gs, 0, none⟩) n n, .slice aw nw cw, .bool dn, .bool fu, .int .i64 lf] 68) := by have h9 := hm.me; rw [dkC, ← HN.out, ← HDN.out] at h9; exact h9
      obtain rfl : dn = false := by rw [HDN.out]; exact hdn
      clear hm h1 hdn HK
      obtain ⟨xx, HXX⟩ : ∃ x : Int, Hid (x = if (wtD D k b).left = 0 then 14 else 0) := ⟨_, rfl⟩
      rw [← HXX.out]
      go_enter Try.func24, Try.ntmps24
      have tk0 : Hid True := trivial
      have tk1 : Hid True := trivial
      have tk2 : Hid True := trivial
      have tk3 : Hid True := trivial
      have tk4 : Hid True := trivial
      have tk5 : Hid True := trivial
      go_wp2_with (first
    | (clear tk0; go_at_call 33; refine (HRF.out).mono ?_; rintro e0 y0 ⟨rfl, rfl⟩)
    | (clear tk1; with_reducible refine wpSeq_build 72 [(0, .tmp 18)] (wrC (k, zs64)) ?_ ?_ ?_ ?_
       rotate_left
       · rfl
       · rfl
       rotate_left
       · exact built_dw _ _ rfl)
    | (clear tk2; with_reducible refine wpSeq_allocDw ?_ ?_ ?_
       · rfl
       · rfl
       intro g8 y1 nn
       have HG8 : Hid (Blk y1 g8 (wrC (0, zs64)) 72) := nn.blk
       have HBW : Hid (Below y0.heap.size y0 y1) := nn.below
       have HGE : Hid (y0.heap.size ≤ g8) := nn.ge
       clear nn)
    | (clear tk3; with_reducible refine wpSeq_storeRow 72 (.tmp 8) (.tmp 19) g8 (wrC (0, zs64)) (wrC (k, zs64)) HG8.out (by rw [wrC_len len_zs64, wrC_len len_zs64]) (sz_wr len_zs64) (wrC_one _) ?_ ?_ ?_ ?_ ?_
       · rfl
       · rfl
       · rfl
       · rfl
       intro y2 hs
       replace HG8 : Hid (Blk y2 g8 (wrC (k, zs64)) 72) := hs.blk
       replace HBW : Hid (Below y0.heap.size y0 y2) := HBW.out.trans (hs.only.below HGE.out HBW.out.size)
       clear hs)
    | (clear tk4; with_reducible refine wpSeq_sliceSec (.tmp 20) g8 1 ?_ ?_ ?_ ?_
       · rfl
       · rfl
       · rfl)
    | (clear tk5; with_reducible refine wpSeq_copyO (.tmp 21) (.tmp 22) g8 1 64 64 bb offb 64 cb9 72 (wrC (k, zs64)) b HG8.out HMN.out.1 HMN.out.2 ?_ ?_ ?_ ?_ ?_ ?_
       · exact (HRD.out.at (mut_below HBW.out _)).cellsAt
       · rfl
       · rfl
       · rfl
       · rfl
       intro y3 hb3 ho3
       replace HG8 : Hid (Blk y3 g8 (wrC (k, b)) 72) := by rw [wr_copied k HB6.out] at hb3; exact hb3
       replace HBW : Hid (Below y0.heap.size y0 y3) := HBW.out.trans (ho3.below HGE.out HBW.out.size)
       clear hb3 ho3)
    | fail)
      refine wp_region_held_drew (S := fun wx => Blk wx g8 (wrC (k, b)) 72) (by kernel_rfl) HG8.out.drew ?_
      intro hS
      have HBD : Hid (Below y0.heap.size y0 y3.drew) := ⟨HBW.out.os, HBW.out.tape, HBW.out.output, HBW.out.size, HBW.out.block⟩
      clear HBW HG8
      change wpAnyH _ _ _ _ _ _ _ _ (World.drew y3)
      generalize World.drew y3 = y4 at *
      refine wpAnyH_take (i := 0) (v := .pointer (some ⟨g, 0, none⟩)) rfl (by kernel_rfl) (by kernel_rfl) (by kernel_rfl) (fun _ _ _ h => h) (Or.inl ⟨by rfl, fun wx hx => by simp [go_sem]⟩) hS ?_
      simp only [Act.put, List.getElem_toArray, List.getElem_cons_zero, List.setIfInBounds_toArray, List.set_cons_zero, List.set_cons_succ]
      refine wpAnyH_take (i := 1) (v := .pointer (some ⟨g, 0, none⟩)) rfl (by kernel_rfl) (by kernel_rfl) (by kernel_rfl) (fun _ _ _ h => h) (Or.inl ⟨by rfl, fun wx hx => by simp [go_sem]⟩) hS ?_
      simp only [Act.put, List.getElem_toArray, List.getElem_cons_succ, List.getElem_cons_zero, List.setIfInBounds_toArray, List.set_cons_zero, List.set_cons_succ]
      refine wpAnyH_take (i := 2) (v := .pointer (some ⟨g, 0, none⟩)) rfl (by kernel_rfl) (by kernel_rfl) (by kernel_rfl) (fun _ _ _ h => h) (Or.inl ⟨by rfl, fun wx hx => by simp [go_sem]⟩) hS ?_
      simp only [Act.put, List.getElem_toArray, List.getElem_cons_succ, List.getElem_cons_zero, List.setIfInBounds_toArray, List.set_cons_zero, List.set_cons_succ]
      refine wpAnyH_take (i := 3) (v := .pointer (some ⟨g, 1, none⟩)) rfl (by kernel_rfl) (by kernel_rfl) (by kernel_rfl) (fun _ _ _ h => h) (Or.inl ⟨by rfl, fun wx hx => by simp [go_sem]⟩) hS ?_
      simp only [Act.put, List.getElem_toArray, List.getElem_cons_succ, List.getElem_cons_zero, List.setIfInBounds_toArray, List.set_cons_zero, List.set_cons_succ]
      refine wpAnyH_take (i := 5) (v := .agg (wrC (k, b)).toArray) rfl (by kernel_rfl) (by kernel_rfl) (by kernel_rfl) (fun _ _ _ h => h) (Or.inl ⟨by rfl, fun wx hx => by exact loadWr g8 0 (k, b) HB6.out _ rfl rfl (Blk.range hx)⟩) hS ?_
      simp only [Act.put, List.getElem_toArray, List.getElem_cons_succ, List.getElem_cons_zero, List.setIfInBounds_toArray, List.set_cons_zero, List.set_cons_succ]
      have HM4 : Hid (DkM y4 g gs (.slice aw nw cw) fu lf D) := HM.out.below HBD.out
      have HME4 : Hid (Blk y4 g [.slice (some ⟨gs, 0, none⟩) n n, .slice aw nw cw, .bool false, .bool fu, .int .i64 lf] 68) := HME.out.below HBD.out HME.out.lt
      have hce : y4.cell? ⟨g, 1, none⟩ = some (.slice aw nw cw) := HME4.out.cell 1
      obtain ⟨y5, HY5⟩ : ∃ y5, Hid (y5 = y4.alloc (.cells (wrC (k, b)).toArray 72)) := ⟨_, rfl⟩
      have HB5 : Hid (Below y4.heap.size y4 y5) := by rw [HY5.out]; exact below_alloc _ _
      have hce2 : y5.cell? ⟨g, 1, none⟩ = some (.slice aw nw cw) := (HME4.out.below HB5.out HME4.out.lt).cell 1
      have HU : Hid (Blk y5 y4.heap.size (wrC (k, b)) 72) := by rw [HY5.out]; exact Blk.new _ _ _
      have hS5 : Blk y5 g8 (wrC (k, b)) 72 := hS.below HB5.out hS.lt
      refine wpAnyH_comm 4 6 (.slice aw nw cw) (.slice (some ⟨y4.heap.size, 0, none⟩) 1 1) y5 (by kernel_rfl) rfl rfl (by rfl) (by rfl) (by rfl) (by rfl) (by simp [go_sem, hce]) (by rw [HY5.out]; exact build_dw1 _ _ _ rfl (k, b) HB6.out rfl _) (by simp [go_sem, hce2]) (by rw [HY5.out]; exact build_dw1 _ _ _ rfl (k, b) HB6.out rfl _) (by kernel_rfl) (by kernel_rfl) rfl rfl hS hS5 ?_
      simp only [Act.put, List.getElem_toArray, List.getElem_cons_succ, List.getElem_cons_zero, List.setIfInBounds_toArray, List.set_cons_zero, List.set_cons_succ]
      have HM5 : Hid (DkM y5 g gs (.slice aw nw cw) fu lf D) := HM4.out.below HB5.out
      have HBD5 : Hid (Below y0.heap.size y0 y5) := HBD.out.trans (HB5.out.mono HBD.out.size)
      have HY4 : Hid (y0.heap.size ≤ y4.heap.size) := HBD.out.size
      clear hce hce2 hS
      refine wpAnyH_law 7 (by kernel_rfl) rfl (by rfl) (wp_appendV (.tmp 28) (.tmp 30) (.slice aw nw cw) D.wait (k, b) y4.heap.size HM5.out.wt HU.out HB6.out (Nat.lt_of_le_of_lt HW2.out (by decide)) rfl rfl rfl ?_)
      intro v6 y6 ho6 hg6 hn6
      have HO8 : Hid ((Value.slice aw nw cw).ownBlock ≠ some g8) := fun e => absurd (HM.out.wt.lt g8 e) (by have := HGE.out; omega)
      have HS6 : Blk y6 g8 (wrC (k, b)) 72 := blk_grown hS5 hg6 HO8.out
      refine ⟨HS6, ?_⟩
      obtain ⟨a6, c6, hv6⟩ := ho6.form
      obtain ⟨n6, HN6⟩ : ∃ n, Hid (n = (D.wait ++ [(k, b)]).length) := ⟨_, rfl⟩
      rw [← HN6.out] at hv6
      subst hv6
      have HME6 : Hid (Blk y6 g [.slice (some ⟨gs, 0, none⟩) n n, .slice aw nw cw, .bool false, .bool fu, .int .i64 lf] 68) := blk_grown ((HME4.out.below HB5.out HME4.out.lt)) hg6 HM.out.ne.2.1
      have HSF6 : Hid (Blk y6 gs (cb D.safe) 70) := blk_grown HM5.out.sf hg6 HM.out.ne.2.2
      simp only [Act.put, List.getElem_toArray, List.getElem_cons_succ, List.getElem_cons_zero, List.setIfInBounds_toArray, List.set_cons_zero, List.set_cons_succ]
      refine wpAnyH_take (i := 8) (v := .pointer (some ⟨g, 0, none⟩)) rfl (by kernel_rfl) (by kernel_rfl) (by kernel_rfl) (fun _ _ _ h => h) (Or.inl ⟨by rfl, fun wx hx => by simp [go_sem]⟩) HS6 ?_
      simp only [Act.put, List.getElem_toArray, List.getElem_cons_succ, List.getElem_cons_zero, List.setIfInBounds_toArray, List.set_cons_zero, List.set_cons_succ]
      refine wpAnyH_take (i := 9) (v := .pointer (some ⟨g, 1, none⟩)) rfl (by kernel_rfl) (by kernel_rfl) (by kernel_rfl) (fun _ _ _ h => h) (Or.inl ⟨by rfl, fun wx hx => by simp [go_sem]⟩) HS6 ?_
      simp only [Act.put, List.getElem_toArray, List.getElem_cons_succ, List.getElem_cons_zero, List.setIfInBounds_toArray, List.set_cons_zero, List.set_cons_succ]
      refine wpAnyH_cellV 10 (.tmp 33) (.tmp 31) g 1 _ a6 n6 c6 68 (by simp) HME6.out (by kernel_rfl) rfl (by rfl) rfl rfl rfl ?_
      intro y7 hb7 ho7
      have HB7 : Hid (Blk y7 g [.slice (some ⟨gs, 0, none⟩) n n, .slice a6 n6 c6, .bool false, .bool fu, .int .i64 lf] 68) := hb7
      refine ⟨HS6.only ho7 (Ne.symm (HME6.out.neT HS6 (by decide))), ?_⟩
      have HM7 : Hid (DkM y7 g gs (.slice a6 n6 c6) fu lf (wtD D k b)) := by
        have hne := ho6.ne HME6.out (by decide)
        refine ⟨?_, HSF6.out.only ho7 (Ne.symm (HME6.out.neT HSF6.out (by decide))), ho6.same (fun j hj => ho7.block j (fun e => hne (e ▸ hj)) (ho6.lt j hj)), HM.out.ok.wt HKS.out HB6.out, HM.out.fs, HM.out.ls⟩
        show Blk y7 g (dkC gs (sizeD D) _ D.down fu lf) _
        rw [← HN.out, ← HDN.out]
        exact HB7.out
      have HMU : Hid (Mut (dkP g gs (.slice aw nw cw)) y0 y7) := by
        have m1 : Mut (dkP g gs (.slice aw nw cw)) y5 y6 := ⟨hg6.os, hg6.tape, hg6.output, hg6.size, fun j hj hn => hg6.block j hj (fun e => hn (Or.inr (Or.inr e.symm)))⟩
        exact ((mut_below HBD5.out _).trans (fun _ _ h => h) m1).trans (fun _ _ h => h) (ho7.mut (Or.inl rfl))
      have HGW : Hid (Grew y0 (dkP g gs (.slice aw nw cw)) (dkP g gs (.slice a6 n6 c6))) := by
        intro j hj
        rcases hj with rfl | rfl | hj
        · exact Or.inl (Or.inl rfl)
        · exact Or.inl (Or.inr (Or.inl rfl))
        · rcases hn6 with e | e
          · exact Or.inl (Or.inr (Or.inr (by rw [← e]; exact hj)))
          · rw [e] at hj
            cases hj
            exact Or.inr HBD5.out.size
      clear hb7 ho7 ho6 hg6 hn6 HS6 HME6 HSF6 HU hS5
      simp only [Act.put, List.getElem_toArray, List.getElem_cons_succ, List.getElem_cons_zero]
      refine wpAnyH_done (by kernel_rfl) ?_ _
      have HCH : Hid (Calls Try.prog 32 #[.pointer (some ⟨g, 0, none⟩)] y7 fun r w' => ∃ lf', r = .returned (.int .i64 xx) ∧ DkM w' g gs (.slice a6 n6 c6) fu lf' (chD (wtD D k b)) ∧ Only g y7 w') := by rw [HXX.out]; exact dkChange_any HDW.out HM7.out
      have tk6 : Hid True := trivial
      go_wp2_with (first
        | (clear tk6; go_at_call 32; refine (HCH.out).mono ?_; rintro e0 y8 ⟨lf8, rfl, hm8, ho8⟩
           have HM8 : Hid (DkM y8 g gs (.slice a6 n6 c6) fu lf8 (chD (wtD D k b))) := hm8
           replace HMU : Hid (Mut (dkP g gs (.slice aw nw cw)) y0 y8) := HMU.out.trans (fun _ _ h => h) (ho8.mut (Or.inl rfl))
           clear hm8 ho8))
      go_ret
      exact ⟨_, rfl, ⟨gs, .slice a6 n6 c6, fu, lf8, HM8.out, rfl⟩, HMU.out, HGW.out⟩
end Go.Proofs.Ytdllnedmhhajnaa

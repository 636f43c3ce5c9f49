/- Bytes copied and stored; the walks of the reference's laid and Dump (layer 13). -/
import Derived.Test.YtdllnedmhhajnaaDkMem
import Derived.Laws.IdiomCopy
namespace Go.Proofs.Ytdllnedmhhajnaa
open Go.RowKit
set_option maxRecDepth 100000
theorem copyB_run (w : World) (ty : TypeId) (g c : Nat) (z b : Bs) (v : Value) (hb : Blk w g (cb z) 5) (hl : z.length = b.length) (hr : Reads w v b) :
    ∃ w', (Builtin.copy_ #[24, 24] ty #[.slice (some ⟨g, 0, none⟩) b.length c, v]).run Try.prog w = .ok (goInt b.length) w' ∧ Blk w' g (cb b) 5 ∧ Only g w w' := by
  obtain ⟨ad, cap, rfl, hcap, hnn, hpos⟩ := hr
  cases ad with
  | none =>
    have hn0 : b = [] := by
      cases b with
      | nil => rfl
      | cons x r => obtain ⟨b, off, h1, _⟩ := hpos (by simp); cases h1
    subst hn0
    have hc0 := hnn rfl
    subst hc0
    obtain rfl : z = [] := List.eq_nil_of_length_eq_zero hl
    exact ⟨w, run_copy_nil (P := Try.prog) w 24 24 ty 5 ⟨g, 0, none⟩ 0 c Try.underlying24 (by kernel_rfl), hb, Only.refl _ _⟩
  | some a =>
    refine ⟨w.setCells g 0 (cb b), ?_, hb.whole (cb b) (by rw [cb_len, cb_len, hl]), Only.setCells _ _ _ (Only.refl g w)⟩
    have h := run_copy_cells (P := Try.prog) w 24 24 ty 5 g 0 b.length c a b.length cap (cb b) Try.underlying24 (by kernel_rfl) (by rw [cb_len]; exact (Nat.min_self _).symm)
      (fun j u hj => by
        have hjl : j < b.length := by have := (List.getElem?_eq_some_iff.1 hj).1; rwa [cb_len] at this
        obtain ⟨b', off, h1, h2⟩ := hpos (by omega)
        cases h1
        rw [Addr.add_mid, h2 j hjl, ← hj, cb_get b j hjl])
      (fun j hj => by
        rw [cb_len] at hj
        rw [Nat.zero_add, hb.cell, List.getElem?_eq_getElem (by rw [cb_len, hl]; exact hj)]
        rfl)
      (fun j _ => hb.frozen _) (cb_one _)
    rw [cb_len] at h
    exact h
theorem wpSeq_copyB {ops : Array Oper} {Q : Exit → Act → World → Prop} {rest : List Oper} {o : Oper} {a : Act} {w : World} (d s : Operand) (g n c : Nat) (z b : Bs) (v : Value) (hb : Blk w g (cb z) 5) (hl : z.length = b.length) (hn : n = b.length) (hr : Reads w v b)
    (ho : o.op = .call { callee := .builtin .copy, args := #[d, s], argTypes := #[24, 24] }) (hx : a.eval d = .slice (some ⟨g, 0, none⟩) n c) (hy : a.eval s = v) (hgd : o.guard = none)
    (hh : ∀ w', Blk w' g (cb b) 5 → Only g w w' → wpList Try.prog ops Q rest (a.put o.dst (.int .i64 (n : Int))) w') : wpList Try.prog ops Q (o :: rest) a w := by
  subst hn
  refine wpList_plain hgd fun K hK => ?_
  obtain ⟨w', hrun, h1, h2⟩ := copyB_run w o.type g c z b v hb hl hr
  unfold Oper.wp execOp
  simp only [ho, resolve, invoke, builtin, Sem.run_bind, Sem.run_pure, Result.andThen_ok, List.map_toArray, List.map_cons, List.map_nil, hx, hy, hrun]
  exact hK _ _ (hh w' h1 h2)
theorem idxB (b off cap n k : Nat) (hk : k < n) (f : Operand → Value) (o : Oper) (x y : Operand) (ho : o.op = .indexAddr 24 x y) (hx : f x = .slice (some ⟨b, off, none⟩) n cap) (hy : f y = .int .i64 (k : Int)) (w : World) :
    (execOp f o).run Try.prog w = .ok (.value (.pointer (some ⟨b, off + k, none⟩))) w := by
  have k0 : (0 : Int) ≤ (k : Int) := by omega
  have k1 : (k : Int) < (n : Int) := by omega
  unfold execOp
  rw [ho]
  simp [go_sem, hx, hy, k0, k1, Addr.add_mid]
theorem wpAnyH_storeY {md : Region.Mode} {ops : Array Oper} {Q : Exit → Act → World → Prop} {S : World → Prop} {fuel : Nat} {listed : Array Bool} {a : Act} {w : World} (i : Nat) {oi : Oper} (x y : Operand) (g k : Nat) (l : Bs) (b : BitVec 8) (hk : k < l.length) (hb : Blk w g (cb l) 5)
    (hr : Region.ready md ops listed = [i]) (hi : ops[i]? = some oi) (hw : Region.wanted oi (yielded ops a.tmps) = true) (ho : oi.op = .store 5 x y) (hx : a.eval x = .pointer (some ⟨g, k, none⟩)) (hy : a.eval y = .int .u8 (b.toNat : Int))
    (h : ∀ w', Blk w' g (cb (l.set k b)) 5 → Only g w w' → S w' ∧ wpAnyH Try.prog md ops Q S fuel (listed.setIfInBounds i true) (a.put oi.dst undef) w') : wpAnyH Try.prog md ops Q S (fuel + 1) listed a w := by
  have hc : w.cell? ⟨g, k, none⟩ = some (.int .u8 ((l.getD k 0).toNat : Int)) := by rw [hb.cell, cb_get l k hk]
  have hf : w.frozen? ⟨g, k, none⟩ = false := hb.frozen k
  have he : (execOp a.eval oi).run Try.prog w = .ok .skip (w.setCell ⟨g, k, none⟩ (.int .u8 (b.toNat : Int))) := by
    clear h hw
    generalize a.eval = f at hx hy ⊢
    unfold execOp
    rw [ho]
    simp [go_sem, hx, hy, hc, hf]
  refine wpAnyH_law i hr hi hw ?_
  unfold Oper.wp
  rw [he, Oper.upon_skip]
  refine h _ ?_ (Only.setCell (Only.refl g w) k _)
  have := hb.set k (.int .u8 (b.toNat : Int))
  rw [cb_set] at this
  exact this
theorem Reads.atB {w : World} {ad : Option Addr} {n c : Nat} {l : Bs} (h : Reads w (.slice ad n c) l) (hp : 0 < l.length) : ∃ b off, ad = some ⟨b, off, none⟩ ∧ ∀ j, j < l.length → w.cell? ⟨b, off + j, none⟩ = some (.int .u8 ((l.getD j 0).toNat : Int)) := by
  obtain ⟨ad', cap, hv, _, _, hx⟩ := h
  simp only [Value.slice.injEq] at hv
  obtain ⟨rfl, _, _⟩ := hv
  exact hx hp
set_option maxRecDepth 100000 in
set_option maxHeartbeats 8000000 in
theorem rdLaid_any (v vx : Value) (b x : Bs) (at_ n : Nat) (w : World) (hr : Reads w v b) (hx : Reads w vx x) (hl : b.length ≤ 2000000) (h1 : 64 * at_ + n ≤ b.length) (h2 : n ≤ x.length) :
    Calls Try.prog 31 #[v, .agg #[.int .i64 (at_ : Int), vx], .int .i64 (n : Int)] w fun r w' => ∃ v', r = .returned v' ∧ OwnB w' w.heap.size v' (layD b at_ x n) ∧ Below w.heap.size w w' := by
  obtain ⟨ad, cp, hv, hcp0, hnn0, hxx0⟩ := id hr
  clear hcp0 hnn0 hxx0
  obtain ⟨L, HL⟩ : ∃ n, Hid (n = b.length) := ⟨_, rfl⟩
  rw [← HL.out] at hv
  obtain ⟨ax, cx, hvx, hq1, hq2, hq3⟩ := id hx
  clear hq1 hq2 hq3
  obtain ⟨nx, HNX⟩ : ∃ n, Hid (n = x.length) := ⟨_, rfl⟩
  rw [← HNX.out] at hvx
  subst hv hvx
  have HR : Hid (Reads w (.slice ad L cp) b) := hr
  have HX : Hid (Reads w (.slice ax nx cx) x) := hx
  have HLL : Hid (L ≤ 2000000) := by show _ ≤ _; rw [HL.out]; exact hl
  have H1 : Hid (64 * at_ + n ≤ L) := by show _ ≤ _; rw [HL.out]; exact h1
  have H2 : Hid (n ≤ nx) := by show _ ≤ _; rw [HNX.out]; exact h2
  have HBW : Hid (Below w.heap.size w w) := Below.refl _ _
  clear hr hx hl h1 h2
  go_enter Try.func31, Try.ntmps31
  have tk0 : Hid True := trivial
  have tk1 : Hid True := trivial
  have tk2 : Hid True := trivial
  go_wp2_with (first
    | (clear tk0; with_reducible refine wpSeq_boxW 51 (.tmp 1) [.int .i64 (at_ : Int), .slice ax nx cx] ?_ ?_ ?_ ?_
       · rfl
       · rfl
       · rfl
       intro g4 y1 nn
       have HG4 : Hid (Blk y1 g4 [.int .i64 (at_ : Int), .slice ax nx cx] 51) := nn.blk
       have HGW : Hid (w.heap.size ≤ g4) := nn.ge
       replace HBW : Hid (Below w.heap.size w y1) := nn.below
       clear nn)
    | (clear tk1; with_reducible refine wpSeq_make (.tmp 10) (.tmp 10) L L (Nat.le_refl _) ?_ ?_ ?_ ?_ ?_ ?_
       · have := HLL.out; omega
       · rfl
       · rfl
       · rfl
       · rfl
       intro g7 y2 z hz hge hzb hzl
       have HG7 : Hid (Blk y2 g7 (cb z) 5) := hzb
       have HZL : Hid (z.length = L) := by rw [hz]; exact List.length_replicate
       have HLT : Hid (g4 < g7) := Nat.lt_of_lt_of_le HG4.out.lt hge
       have HG7W : Hid (w.heap.size ≤ g7) := Nat.le_trans HBW.out.size hge
       replace HG4 : Hid (Blk y2 g4 [.int .i64 (at_ : Int), .slice ax nx cx] 51) := HG4.out.below hzl HG4.out.lt
       replace HBW : Hid (Below w.heap.size w y2) := HBW.out.trans (hzl.mono HBW.out.size)
       clear hz hge hzb hzl)
    | (clear tk2; with_reducible refine wpSeq_copyB (.tmp 12) (.tmp 13) g7 L L z b (.slice ad L cp) HG7.out (by rw [HZL.out, HL.out]) HL.out (HR.out.below HBW.out) ?_ ?_ ?_ ?_ ?_
       · rfl
       · rfl
       · rfl
       · rfl
       intro y3 hbk hon
       replace HG7 : Hid (Blk y3 g7 (cb (layD b at_ x 0)) 5) := by rw [layD_zero]; exact hbk
       replace HG4 : Hid (Blk y3 g4 [.int .i64 (at_ : Int), .slice ax nx cx] 51) := HG4.out.only hon (by have := HLT.out; omega)
       replace HBW : Hid (Below w.heap.size w y3) := HBW.out.trans (hon.below HG7W.out HBW.out.size)
       clear hbk hon HZL))
  have HI7 := HG7
  have HI4 := HG4
  have HIB := HBW
  clear HG7 HG4 HBW
  go_loopw [8] (fun i wr => ∃ (k : Nat), k ≤ n ∧ i = .int .i64 (k : Int) ∧ Hid (Blk wr g7 (cb (layD b at_ x k)) 5) ∧ Hid (Blk wr g4 [.int .i64 (at_ : Int), .slice ax nx cx] 51) ∧ Hid (Below w.heap.size w wr)) (fun i _ => n - (intOf i).toNat)
  case atStart => exact ⟨0, Nat.zero_le _, rfl, HI7, HI4, HIB⟩
  case round =>
    obtain ⟨k, hkn, rfl, HG7, HG4, HBW⟩ := hrel
    clear HI7 HI4 HIB
    by_cases hlt : k < n
    case neg =>
      have hlk : ¬ ((k : Int) < (n : Int)) := by omega
      obtain rfl : k = n := by omega
      have HO : Hid (OwnB wr w.heap.size (.slice (some ⟨g7, 0, none⟩) L L) (layD b at_ x k)) := by
        have hl : (layD b at_ x k).length = L := by rw [len_layD (by rw [← HL.out]; exact H1.out) (by rw [← HNX.out]; exact H2.out), HL.out]
        have h := own_of_blk (k := L) HG7.out HG7W.out hl (Nat.le_refl _) (by have := HLL.out; omega)
        rw [List.take_of_length_le (by rw [hl]; exact Nat.le_refl _)] at h
        exact h
      go_wp2
      go_ret
      exact ⟨_, rfl, HO.out, HBW.out⟩
    case pos =>
      have hlk : (k : Int) < (n : Int) := by omega
      have hb2 : (at_ : Int) ≤ 31250 := by have h1 := H1.out; have h2 := HLL.out; omega
      have f64 : IntKind.i64.wrap (64 * (at_ : Int)) = 64 * (at_ : Int) := by rw [IntKind.wrap_i64]; omega
      have f6k : IntKind.i64.wrap (64 * (at_ : Int) + (k : Int)) = 64 * (at_ : Int) + (k : Int) := by rw [IntKind.wrap_i64]; have h1 := H1.out; have h2 := HLL.out; omega
      have f5 : IntKind.i64.wrap ((k : Int) + 1) = (k : Int) + 1 := by rw [IntKind.wrap_i64]; have h1 := H1.out; have h2 := HLL.out; omega
      have HKX : Hid (k < nx) := Nat.lt_of_lt_of_le hlt H2.out
      have HKL : Hid (64 * at_ + k < L) := by have h1 := H1.out; show _ < _; omega
      have HXL : Hid (k < x.length) := by show _ < _; rw [← HNX.out]; exact HKX.out
      have HKD : Hid (64 * at_ + k < (layD b at_ x k).length) := by
        show _ < _
        rw [len_layD (by rw [← HL.out]; exact Nat.le_of_lt HKL.out) (Nat.le_of_lt HXL.out), ← HL.out]
        exact HKL.out
      have HMO : Hid (layD b at_ x (k + 1) = (layD b at_ x k).set (64 * at_ + k) (x.getD k 0)) := layD_more (by rw [← HL.out]; exact HKL.out) HXL.out
      obtain ⟨bx, ox, rfl, hat⟩ := HX.out.atB (Nat.lt_of_le_of_lt (Nat.zero_le _) HXL.out)
      have HCX : Hid (∀ W : World, Below w.heap.size w W → W.cell? ⟨bx, ox + k, none⟩ = some (.int .u8 ((x.getD k 0).toNat : Int))) := fun W hh => by
        have h := hat k HXL.out
        rw [hh.cell (p := ⟨bx, ox + k, none⟩) (block_lt_of_cell h)]
        exact h
      clear hat hb2
      go_wp2
      refine wp_region_held_drew (S := Below g7 (World.drew wr)) (by kernel_rfl) (Below.refl _ _) ?_
      intro hS
      replace HG4 : Hid (Blk (World.drew wr) g4 [.int .i64 (at_ : Int), .slice (some ⟨bx, ox, none⟩) nx cx] 51) := HG4.out.drew
      replace HG7 : Hid (Blk (World.drew wr) g7 (cb (layD b at_ x k)) 5) := HG7.out.drew
      replace HBW : Hid (Below w.heap.size w (World.drew wr)) := HBW.out.drew
      change wpAnyH _ _ _ _ _ _ _ _ (World.drew wr)
      generalize World.drew wr = y0 at *
      try simp only [Act.put, List.setIfInBounds_toArray, List.set_cons_zero, List.set_cons_succ]
      refine wpAnyH_take (i := 0) (v := .slice (some ⟨g7, 0, none⟩) L L) rfl (by kernel_rfl) (by kernel_rfl) (by kernel_rfl) (fun _ _ _ h => h) (Or.inl ⟨by rfl, fun wx hx => by simp [go_sem]⟩) hS ?_
      simp only [Act.put, List.getElem_toArray, List.getElem_cons_zero, List.setIfInBounds_toArray, List.set_cons_zero, List.set_cons_succ]
      refine wpAnyH_take (i := 1) (v := .pointer (some ⟨g4, 0, none⟩)) rfl (by kernel_rfl) (by kernel_rfl) (by kernel_rfl) (fun _ _ _ h => h) (Or.inl ⟨by rfl, fun wx hx => by simp [go_sem]⟩) hS ?_
      simp only [Act.put, List.getElem_toArray, List.getElem_cons_succ, List.getElem_cons_zero, List.setIfInBounds_toArray, List.set_cons_zero, List.set_cons_succ]
      refine wpAnyH_take (i := 2) (v := .int .i64 (at_ : Int)) rfl (by kernel_rfl) (by kernel_rfl) (by kernel_rfl) (fun _ _ _ h => h) (Or.inl ⟨by rfl, fun wx hx => by (have hc : wx.cell? ⟨g4, 0, none⟩ = some (.int .i64 (at_ : Int)) := (HG4.out.below hx HLT.out).cell 0); simp [go_sem, hc]⟩) hS ?_
      simp only [Act.put, List.getElem_toArray, List.getElem_cons_succ, List.getElem_cons_zero, List.setIfInBounds_toArray, List.set_cons_zero, List.set_cons_succ]
      refine wpAnyH_take (i := 3) (v := .int .i64 (64 * (at_ : Int))) rfl (by kernel_rfl) (by kernel_rfl) (by kernel_rfl) (fun _ _ _ h => h) (Or.inl ⟨by rfl, fun wx hx => by simp [go_sem, f64]⟩) hS ?_
      simp only [Act.put, List.getElem_toArray, List.getElem_cons_succ, List.getElem_cons_zero, List.setIfInBounds_toArray, List.set_cons_zero, List.set_cons_succ]
      refine wpAnyH_take (i := 4) (v := .int .i64 (k : Int)) rfl (by kernel_rfl) (by kernel_rfl) (by kernel_rfl) (fun _ _ _ h => h) (Or.inl ⟨by rfl, fun wx hx => by simp [go_sem]⟩) hS ?_
      simp only [Act.put, List.getElem_toArray, List.getElem_cons_succ, List.getElem_cons_zero, List.setIfInBounds_toArray, List.set_cons_zero, List.set_cons_succ]
      refine wpAnyH_take (i := 5) (v := .int .i64 ((64 * at_ + k : Nat) : Int)) rfl (by kernel_rfl) (by kernel_rfl) (by kernel_rfl) (fun _ _ _ h => h) (Or.inl ⟨by rfl, fun wx hx => by simp [go_sem, f6k]⟩) hS ?_
      simp only [Act.put, List.getElem_toArray, List.getElem_cons_succ, List.getElem_cons_zero, List.setIfInBounds_toArray, List.set_cons_zero, List.set_cons_succ]
      refine wpAnyH_take (i := 6) (v := .pointer (some ⟨g4, 1, none⟩)) rfl (by kernel_rfl) (by kernel_rfl) (by kernel_rfl) (fun _ _ _ h => h) (Or.inl ⟨by rfl, fun wx hx => by simp [go_sem]⟩) hS ?_
      simp only [Act.put, List.getElem_toArray, List.getElem_cons_succ, List.getElem_cons_zero, List.setIfInBounds_toArray, List.set_cons_zero, List.set_cons_succ]
      refine wpAnyH_take (i := 7) (v := .slice (some ⟨bx, ox, none⟩) nx cx) rfl (by kernel_rfl) (by kernel_rfl) (by kernel_rfl) (fun _ _ _ h => h) (Or.inl ⟨by rfl, fun wx hx => by (have hc : wx.cell? ⟨g4, 1, none⟩ = some (.slice (some ⟨bx, ox, none⟩) nx cx) := (HG4.out.below hx HLT.out).cell 1); simp [go_sem, hc]⟩) hS ?_
      simp only [Act.put, List.getElem_toArray, List.getElem_cons_succ, List.getElem_cons_zero, List.setIfInBounds_toArray, List.set_cons_zero, List.set_cons_succ]
      refine wpAnyH_take (i := 8) (v := .int .i64 (k : Int)) rfl (by kernel_rfl) (by kernel_rfl) (by kernel_rfl) (fun _ _ _ h => h) (Or.inl ⟨by rfl, fun wx hx => by simp [go_sem]⟩) hS ?_
      simp only [Act.put, List.getElem_toArray, List.getElem_cons_succ, List.getElem_cons_zero, List.setIfInBounds_toArray, List.set_cons_zero, List.set_cons_succ]
      refine wpAnyH_take (i := 9) (v := .pointer (some ⟨bx, ox + k, none⟩)) rfl (by kernel_rfl) (by kernel_rfl) (by kernel_rfl) (fun _ _ _ h => h) (Or.inl ⟨by rfl, fun wx hx => by exact idxB bx ox cx nx k HKX.out _ _ _ _ rfl rfl rfl _⟩) hS ?_
      simp only [Act.put, List.getElem_toArray, List.getElem_cons_succ, List.getElem_cons_zero, List.setIfInBounds_toArray, List.set_cons_zero, List.set_cons_succ]
      refine wpAnyH_take (i := 10) (v := .int .u8 ((x.getD k 0).toNat : Int)) rfl (by kernel_rfl) (by kernel_rfl) (by kernel_rfl) (fun _ _ _ h => h) (Or.inl ⟨by rfl, fun wx hx => by (have hc := HCX.out wx (HBW.out.trans (Below.mono hx HG7W.out))); simp [go_sem, hc]⟩) hS ?_
      simp only [Act.put, List.getElem_toArray, List.getElem_cons_succ, List.getElem_cons_zero, List.setIfInBounds_toArray, List.set_cons_zero, List.set_cons_succ]
      refine wpAnyH_take (i := 11) (v := .pointer (some ⟨g7, 0 + (64 * at_ + k), none⟩)) rfl (by kernel_rfl) (by kernel_rfl) (by kernel_rfl) (fun _ _ _ h => h) (Or.inl ⟨by rfl, fun wx hx => by exact idxB g7 0 L L (64 * at_ + k) HKL.out _ _ _ _ rfl rfl rfl _⟩) hS ?_
      simp only [Act.put, List.getElem_toArray, List.getElem_cons_succ, List.getElem_cons_zero, List.setIfInBounds_toArray, List.set_cons_zero, List.set_cons_succ]
      refine wpAnyH_storeY 12 (.tmp 31) (.tmp 30) g7 (64 * at_ + k) (layD b at_ x k) (x.getD k 0) HKD.out HG7.out (by kernel_rfl) rfl (by rfl) rfl (by show Value.pointer (some ⟨g7, 0 + (64 * at_ + k), none⟩) = _; rw [Nat.zero_add]) rfl ?_
      intro yE hbk hon
      replace hS : Below g7 y0 yE := Below.trans hS (hon.below (Nat.le_refl _) (Nat.le_of_lt HG7.out.lt))
      refine ⟨hS, ?_⟩
      simp only [Act.put, List.getElem_toArray, List.getElem_cons_succ, List.getElem_cons_zero]
      refine wpAnyH_done (by kernel_rfl) ?_ _
      have HG7E : Hid (Blk yE g7 (cb (layD b at_ x (k + 1))) 5) := by rw [HMO.out]; exact hbk
      have HG4E : Hid (Blk yE g4 [.int .i64 (at_ : Int), .slice (some ⟨bx, ox, none⟩) nx cx] 51) := HG4.out.only hon (by have := HLT.out; omega)
      have HBE : Hid (Below w.heap.size w yE) := HBW.out.trans (hon.below HG7W.out HBW.out.size)
      clear hbk hon
      go_wp2
      go_roundw
      case rel => exact ⟨k + 1, by omega, by simp, HG7E, HG4E, HBE⟩
      case measure => simp [intOf]; omega
end Go.Proofs.Ytdllnedmhhajnaa

/- The walks of disk's seen and Read (layer 13). -/
import Derived.Test.YtdllnedmhhajnaaDkVo
namespace Go.Proofs.Ytdllnedmhhajnaa
open Go.RowKit
set_option maxRecDepth 100000
def secD (b : Bs) (i : Nat) : Bs := (b.drop (64 * i)).take 64
theorem sec_len {b : Bs} {i : Nat} (h : 64 * i + 64 ≤ b.length) : (secD b i).length = 64 := by rw [secD, List.length_take, List.length_drop]; omega
theorem sec_at {b : Bs} {i j : Nat} (hj : j < 64) : (secD b i)[j]? = b[64 * i + j]? := by rw [secD, List.getElem?_take_of_lt hj, List.getElem?_drop]
theorem sec_lay {b x : Bs} {at_ i : Nat} (hb : 64 * at_ + 64 ≤ b.length) (hx : x.length = 64) : secD (layD b at_ x 64) i = if at_ = i then x else secD b i := by
  apply List.ext_getElem?
  intro j
  by_cases hj : j < 64
  · rw [sec_at hj, layD_at hb (by omega)]
    by_cases h : at_ = i
    · subst h
      rw [if_pos rfl, if_pos (by omega), Nat.add_sub_cancel_left]
    · rw [if_neg h, if_neg (by omega), sec_at hj]
  · have e1 : (secD (layD b at_ x 64) i)[j]? = none := by rw [secD, List.getElem?_take, if_neg hj]
    rw [e1]
    split
    · rw [List.getElem?_eq_none (by omega)]
    · rw [secD, List.getElem?_take, if_neg hj]
theorem sec_none {n i : Nat} : ∀ (l : List (Nat × Bs)) (b : Bs), b.length = 64 * n → (∀ p ∈ l, p.1 < n ∧ p.2.length = 64) → (∀ p ∈ l, p.1 ≠ i) → secD (dumpW b l) i = secD b i
  | [], b, _, _, _ => rfl
  | p :: l, b, h, hl, hi => by
    have h1 := hl p (by simp)
    show secD (dumpW (layD b p.1 p.2 64) l) i = _
    rw [sec_none l _ (by rw [len_layD (by omega) (by omega)]; exact h) (fun q hq => hl q (by simp [hq])) (fun q hq => hi q (by simp [hq])), sec_lay (by omega) h1.2, if_neg (hi p (by simp))]
theorem dumpW_app (b : Bs) (l m : List (Nat × Bs)) : dumpW b (l ++ m) = dumpW (dumpW b l) m := by rw [dumpW, List.foldl_append]; rfl
theorem sec_last {n i k : Nat} {l : List (Nat × Bs)} {b : Bs} (h : b.length = 64 * n) (hl : ∀ p ∈ l, p.1 < n ∧ p.2.length = 64) (hk : k < l.length) (he : (l.getD k (0, [])).1 = i) (hi : ∀ j, k < j → j < l.length → (l.getD j (0, [])).1 ≠ i) : secD (dumpW b l) i = (l.getD k (0, [])).2 := by
  have e : l.getD k (0, []) = l[k] := by rw [List.getD_eq_getElem?_getD, List.getElem?_eq_getElem hk]; rfl
  have e2 : l = (l.take k ++ [l[k]]) ++ l.drop (k + 1) := by rw [← take_snocW hk, List.take_append_drop]
  have hm := hl l[k] (List.getElem_mem hk)
  have hlen : (dumpW b (l.take k)).length = 64 * n := len_dumpW _ _ h (fun p hp => hl p (List.mem_of_mem_take hp))
  rw [e] at he ⊢
  conv => lhs; rw [e2]
  rw [dumpW_app, dumpW_snoc, sec_none (n := n) _ _ (by rw [len_layD (by omega) (by omega)]; exact hlen) (fun p hp => hl p (List.mem_of_mem_drop hp)) ?_, sec_lay (by omega) hm.2, if_pos he]
  intro p hp
  obtain ⟨j, hj, rfl⟩ := List.getElem_of_mem hp
  rw [List.length_drop] at hj
  have h3 := hi (k + 1 + j) (by omega) (by omega)
  rw [List.getD_eq_getElem?_getD, List.getElem?_eq_getElem (by omega)] at h3
  rw [List.getElem_drop]
  exact h3
theorem OwnV.le {w : World} {v : Value} {l : List (Nat × Bs)} (h : OwnV w v l) : l.length ≤ 9223372036854775807 := by
  rcases h with ⟨_, ⟨_, h2⟩ | ⟨g', cap, cur, _, _, _, h3, h4, _⟩⟩
  · omega
  · exact Nat.le_trans h3 h4
theorem getD_memV {l : List (Nat × Bs)} {k : Nat} (hk : k < l.length) : l.getD k (0, []) ∈ l := by
  have e : l.getD k (0, []) = l[k] := by rw [List.getD_eq_getElem?_getD, List.getElem?_eq_getElem hk]; rfl
  rw [e]
  exact List.getElem_mem hk
theorem sec_dump {D : DkT} {i : Nat} (hd : D.down = false) (hi : i < sizeD D) : readB13 D (i : Int) = secD (dumpD D) i := by
  rw [readB13, hd, if_neg (by decide), if_neg (by rw [hasD_not]; exact fun h => h ⟨by omega, by omega⟩), Int.toNat_natCast]
  rfl
theorem sec_range {w : World} {gs : Nat} {b : Bs} {t : TypeId} (h : Blk w gs (cb b) t) {i : Nat} (hi : 64 * i + 64 ≤ b.length) : w.rangeAt gs (64 * i) (cb (secD b i)) := fun j v hv => by
  have hj : j < 64 := by have := (List.getElem?_eq_some_iff.1 hv).1; rwa [cb_len, sec_len hi] at this
  rw [h.cell, ← hv, cb_get _ _ (by omega), cb_get _ _ (by rw [sec_len hi]; exact hj)]
  rw [List.getD_eq_getElem?_getD, List.getD_eq_getElem?_getD, sec_at hj]
theorem range_tail {w : World} {b off : Nat} {v : Value} {cs : List Value} (h : w.rangeAt b off (v :: cs)) : w.rangeAt b (off + 1) cs := fun j u hu => by
  have := h (j + 1) u (by rw [List.getElem?_cons_succ]; exact hu)
  rwa [show off + (j + 1) = off + 1 + j by omega] at this
theorem range_head {w : World} {b off : Nat} {v : Value} {cs : List Value} (h : w.rangeAt b off (v :: cs)) : w.cell? ⟨b, off, none⟩ = some v := h 0 v rfl
theorem alloc_sc (f : Operand → Value) (o : Oper) (ho : o.op = .alloc 70) (w : World) : (execOp f o).run Try.prog w = .ok (.value (.pointer (some ⟨w.heap.size, 0, none⟩))) (w.alloc (.cells (cb zs64).toArray 70)) := by
  unfold execOp
  rw [ho]
  kernel_rfl
theorem alloc_dw (f : Operand → Value) (o : Oper) (ho : o.op = .alloc 72) (w : World) : (execOp f o).run Try.prog w = .ok (.value (.pointer (some ⟨w.heap.size, 0, none⟩))) (w.alloc (.cells (wrC (0, zs64)).toArray 72)) := by
  unfold execOp
  rw [ho]
  kernel_rfl
theorem wpSeq_allocSc {ops : Array Oper} {Q : Exit → Act → World → Prop} {rest : List Oper} {o : Oper} {a : Act} {w : World} (ho : o.op = .alloc 70) (hw : Region.wanted o (yielded ops a.tmps) = true)
    (h : ∀ g w', NewR (cb zs64) 70 w g w' → wpList Try.prog ops Q rest (a.put o.dst (.pointer (some ⟨g, 0, none⟩))) w') : wpList Try.prog ops Q (o :: rest) a w :=
  wpSeq_val _ _ hw (alloc_sc _ _ ho _) (h _ _ (NewR.of _ _ w))
theorem wpSeq_allocDw {ops : Array Oper} {Q : Exit → Act → World → Prop} {rest : List Oper} {o : Oper} {a : Act} {w : World} (ho : o.op = .alloc 72) (hw : Region.wanted o (yielded ops a.tmps) = true)
    (h : ∀ g w', NewR (wrC (0, zs64)) 72 w g w' → wpList Try.prog ops Q rest (a.put o.dst (.pointer (some ⟨g, 0, none⟩))) w') : wpList Try.prog ops Q (o :: rest) a w :=
  wpSeq_val _ _ hw (alloc_dw _ _ ho _) (h _ _ (NewR.of _ _ w))
theorem wpSeq_idxWr {ops : Array Oper} {Q : Exit → Act → World → Prop} {rest : List Oper} {o : Oper} {a : Act} {w : World} (x y : Operand) (b n c k : Nat) (hk : k < n) (ho : o.op = .indexAddr 66 x y) (hx : a.eval x = .slice (some ⟨b, 0, none⟩) n c) (hy : a.eval y = .int .i64 (k : Int)) (hw : Region.wanted o (yielded ops a.tmps) = true)
    (h : wpList Try.prog ops Q rest (a.put o.dst (.pointer (some ⟨b, k * 65, none⟩))) w) : wpList Try.prog ops Q (o :: rest) a w :=
  wpSeq_val _ _ hw (idxWr b n c k hk _ o x y ho hx hy w) h
theorem wpSeq_idxSec {ops : Array Oper} {Q : Exit → Act → World → Prop} {rest : List Oper} {o : Oper} {a : Act} {w : World} (x y : Operand) (gs n k : Nat) (hk : k < n) (ho : o.op = .indexAddr 65 x y) (hx : a.eval x = .slice (some ⟨gs, 0, none⟩) n n) (hy : a.eval y = .int .i64 (k : Int)) (hw : Region.wanted o (yielded ops a.tmps) = true)
    (h : wpList Try.prog ops Q rest (a.put o.dst (.pointer (some ⟨gs, 64 * k, none⟩))) w) : wpList Try.prog ops Q (o :: rest) a w :=
  wpSeq_val _ _ hw (idxSec gs n k hk _ o x y ho hx hy w) h
theorem wpSeq_sliceSec {ops : Array Oper} {Q : Exit → Act → World → Prop} {rest : List Oper} {o : Oper} {a : Act} {w : World} (x : Operand) (b off : Nat) (ho : o.op = .slice 70 x none none none) (hx : a.eval x = .pointer (some ⟨b, off, none⟩)) (hw : Region.wanted o (yielded ops a.tmps) = true)
    (h : wpList Try.prog ops Q rest (a.put o.dst (.slice (some ⟨b, off, none⟩) 64 64)) w) : wpList Try.prog ops Q (o :: rest) a w :=
  wpSeq_val _ _ hw (sliceSec b off _ o x ho hx w) h
theorem sz_sec {x : Bs} (h : x.length = 64) : (Try.prog.info? 70).map (·.size) = some (cb x).length := by rw [cb_len, h]; exact size_sc
theorem sz_wr {p : Nat × Bs} (h : p.2.length = 64) : (Try.prog.info? 72).map (·.size) = some (wrC p).length := by rw [wrC_len h]; exact size_dw
set_option maxRecDepth 100000 in
set_option maxHeartbeats 8000000 in
theorem dkSeen_any {w : World} {g gs : Nat} {vw : Value} {fu : Bool} {lf : Int} {D : DkT} (i : Nat) (hi : i < sizeD D) (hm : DkM w g gs vw fu lf D) : Calls Try.prog 34 #[.pointer (some ⟨g, 0, none⟩), .int .i64 (i : Int)] w fun r w' => r = .returned (.agg (cb (secD (dumpD D) i)).toArray) ∧ Below w.heap.size w w' := by
  obtain ⟨n, HN⟩ : ∃ n, Hid (n = sizeD D) := ⟨_, rfl⟩
  obtain ⟨aw, cw, hvw⟩ := hm.wt.form
  obtain ⟨nw, HNW⟩ : ∃ n, Hid (n = D.wait.length) := ⟨_, rfl⟩
  rw [← HNW.out] at hvw
  subst hvw
  obtain ⟨dn, HDN⟩ : ∃ b, Hid (b = D.down) := ⟨_, rfl⟩
  have HM : Hid (DkM w g gs (.slice aw nw cw) fu lf D) := hm
  have HME : Hid (Blk w g [.slice (some ⟨gs, 0, none⟩) n n, .slice aw nw cw, .bool dn, .bool fu, .int .i64 lf] 68) := by have h9 := hm.me; rw [dkC, ← HN.out, ← HDN.out] at h9; exact h9
  have HI : Hid (i < n) := by show _ < _; rw [HN.out]; exact hi
  have HW2 : Hid (nw ≤ 9223372036854775807) := by show _ ≤ _; rw [HNW.out]; exact hm.wt.le
  clear hm hi
  have HOK : Hid (okD D) := HM.out.ok
  go_enter Try.func34, Try.ntmps34
  have f1 : IntKind.i64.wrap ((nw : Int) - 1) = (nw : Int) - 1 := by rw [IntKind.wrap_i64]; have := HW2.out; omega
  have tk0 : Hid True := trivial
  go_wp2_with (first
    | (clear tk0; with_reducible refine wpSeq_allocSc ?_ ?_ ?_
       · rfl
       · rfl
       intro gr y1 nn
       have HGR : Hid (Blk y1 gr (cb zs64) 70) := nn.blk
       have HBW : Hid (Below w.heap.size w y1) := nn.below
       have HGE : Hid (w.heap.size ≤ gr) := nn.ge
       have HM1 : Hid (DkM y1 g gs (.slice aw nw cw) fu lf D) := HM.out.below nn.below
       have HME1 : Hid (Blk y1 g [.slice (some ⟨gs, 0, none⟩) n n, .slice aw nw cw, .bool dn, .bool fu, .int .i64 lf] 68) := HME.out.below nn.below HME.out.lt
       have c0 : y1.cell? ⟨g, 0, none⟩ = some (.slice (some ⟨gs, 0, none⟩) n n) := HME1.out.cell 0
       have c1 : y1.cell? ⟨g, 1, none⟩ = some (.slice aw nw cw) := HME1.out.cell 1
       have c2 : y1.cell? ⟨g, 2, none⟩ = some (.bool dn) := HME1.out.cell 2
       have c3 : y1.cell? ⟨g, 3, none⟩ = some (.bool fu) := HME1.out.cell 3
       have c4 : y1.cell? ⟨g, 4, none⟩ = some (.int .i64 lf) := HME1.out.cell 4
       clear nn))
  clear f1
  go_loopw [5] (fun i5 wr => ∃ k : Int, -1 ≤ k ∧ k < (nw : Int) ∧ i5 = .int .i64 k ∧ wr = y1 ∧ Hid (∀ j : Nat, k < (j : Int) → j < nw → (D.wait.getD j (0, [])).1 ≠ i)) (fun i5 _ => (intOf i5 + 1).toNat)
  case atStart => exact ⟨(nw : Int) - 1, by omega, by omega, rfl, rfl, fun j h1 h2 => absurd h1 (by omega)⟩
  case round =>
    obtain ⟨k, hk1, hk2, rfl, rfl, HJ⟩ := hrel
    by_cases h0 : 0 ≤ k
    case neg =>
      have HSE : Hid (secD (dumpD D) i = secD D.safe i) := by
        refine sec_none (n := sizeD D) D.wait D.safe HOK.out.size.1 HOK.out.wait (fun p hp => ?_)
        obtain ⟨j, hj, rfl⟩ := List.getElem_of_mem hp
        have h9 := HJ.out j (by omega) (by rw [HNW.out]; exact hj)
        rw [List.getD_eq_getElem?_getD, List.getElem?_eq_getElem hj] at h9
        exact h9
      have HSB : Hid (64 * i + 64 ≤ D.safe.length) := by show _ ≤ _; have h1 := HOK.out.size.1; have h2 := HI.out; have h3 := HN.out; omega
      have HL : Hid ((secD D.safe i).length = 64) := sec_len HSB.out
      have HRG : Hid (wr.rangeAt gs (64 * i) (cb (secD D.safe i))) := sec_range HM1.out.sf HSB.out
      obtain ⟨xx, HXX⟩ : ∃ x, Hid (x = secD D.safe i) := ⟨_, rfl⟩
      rw [← HXX.out] at HSE HL HRG
      have tk1 : Hid True := trivial
      have tk2 : Hid True := trivial
      have tk3 : Hid True := trivial
      go_wp2_with (first
    | (clear tk1; with_reducible refine wpSeq_idxSec (.tmp 37) (.tmp 38) gs n i HI.out ?_ ?_ ?_ ?_ ?_
       · rfl
       · rfl
       · rfl
       · rfl)
    | (clear tk2; with_reducible refine wpSeq_loadW 70 (.tmp 39) gs (64 * i) (cb xx) _ HRG.out Try.underlying70 rfl (sz_sec HL.out) ?_ ?_ ?_ ?_
       · rfl
       · rfl
       · rfl)
    | (clear tk3; with_reducible refine wpSeq_storeRow 70 (.tmp 4) (.tmp 40) gr (cb zs64) (cb xx) HGR.out (by rw [cb_len, cb_len, HL.out, len_zs64]) (sz_sec HL.out) (cb_one _) ?_ ?_ ?_ ?_ ?_
       · rfl
       · rfl
       · rfl
       · rfl
       intro y9 hs9
       have HBR : Hid (Blk y9 gr (cb xx) 70) := hs9.blk
       have HBB : Hid (Below w.heap.size w y9) := HBW.out.trans (hs9.only.below HGE.out HBW.out.size)
       clear hs9))
      exact bodyPost_ret (v := .agg (cb xx).toArray) (results_cell_row (by rfl) _ _ gr 70 _ (0, 0) _ rfl HBR.out Try.underlying70 rfl (by rw [List.size_toArray]; exact sz_sec HL.out)) rfl ⟨by rw [HSE.out], HBB.out⟩
    case pos =>
      obtain ⟨j, rfl⟩ := Int.eq_ofNat_of_zero_le h0
      have HKN : Hid (j < nw) := by show _ < _; omega
      have HKD : Hid (j < D.wait.length) := by show _ < _; rw [← HNW.out]; exact HKN.out
      obtain ⟨b, rfl, hat⟩ := HM1.out.wt.at (fun p hp => (HOK.out.wait p hp).2) (Nat.lt_of_le_of_lt (Nat.zero_le _) HKD.out)
      have hrg := hat j HKD.out
      have hmem := (getD_memV HKD.out)
      obtain ⟨p, HPP⟩ : ∃ p, Hid (p = D.wait.getD j (0, [])) := ⟨_, rfl⟩
      rw [← HPP.out] at hrg hmem
      have HRG : Hid (wr.rangeAt b (j * 65) (.int .i64 (p.1 : Int) :: cb p.2)) := hrg
      have HP6 : Hid (p.2.length = 64) := (HOK.out.wait p hmem).2
      have cj : wr.cell? ⟨b, j * 65, none⟩ = some (.int .i64 (p.1 : Int)) := range_head HRG.out
      clear hat hrg hmem
      have f5 : IntKind.i64.wrap ((j : Int) - 1) = (j : Int) - 1 := by rw [IntKind.wrap_i64]; have := HW2.out; have := HKN.out; omega
      by_cases hpi : p.1 = i
      · have HSE : Hid (secD (dumpD D) i = p.2) := by
          have h9 := sec_last (n := sizeD D) HOK.out.size.1 HOK.out.wait HKD.out (by rw [← HPP.out]; exact hpi) (fun j2 h1 h2 => HJ.out j2 (by omega) (by rw [HNW.out]; exact h2))
          rw [← HPP.out] at h9
          exact h9
        have q1 : ((p.1 : Int) == (i : Int)) = true := by rw [beq_iff_eq, hpi]
        have tk1 : Hid True := trivial
        have tk2 : Hid True := trivial
        have tk3 : Hid True := trivial
        have tk4 : Hid True := trivial
        go_wp2_with (first
    | (clear tk1; with_reducible refine wpSeq_idxWr (.tmp 19) (.tmp 20) b nw cw j HKN.out ?_ ?_ ?_ ?_ ?_
       · rfl
       · rfl
       · rfl
       · rfl)
    | (clear tk2; with_reducible refine wpSeq_idxWr (.tmp 29) (.tmp 30) b nw cw j HKN.out ?_ ?_ ?_ ?_ ?_
       · rfl
       · rfl
       · rfl
       · rfl)
    | (clear tk3; with_reducible refine wpSeq_loadW 70 (.tmp 32) b (j * 65 + 1) (cb p.2) _ (range_tail HRG.out) Try.underlying70 rfl (sz_sec HP6.out) ?_ ?_ ?_ ?_
       · rfl
       · rfl
       · rfl)
    | (clear tk4; with_reducible refine wpSeq_storeRow 70 (.tmp 4) (.tmp 33) gr (cb zs64) (cb p.2) HGR.out (by rw [cb_len, cb_len, HP6.out, len_zs64]) (sz_sec HP6.out) (cb_one _) ?_ ?_ ?_ ?_ ?_
       · rfl
       · rfl
       · rfl
       · rfl
       intro y9 hs9
       have HBR : Hid (Blk y9 gr (cb p.2) 70) := hs9.blk
       have HBB : Hid (Below w.heap.size w y9) := HBW.out.trans (hs9.only.below HGE.out HBW.out.size)
       clear hs9))
        exact bodyPost_ret (v := .agg (cb p.2).toArray) (results_cell_row (by rfl) _ _ gr 70 _ (0, 0) _ rfl HBR.out Try.underlying70 rfl (by rw [List.size_toArray]; exact sz_sec HP6.out)) rfl ⟨by rw [HSE.out], HBB.out⟩
      · have q1 : ((p.1 : Int) == (i : Int)) = false := by rw [beq_eq_false_iff_ne]; omega
        have tk1 : Hid True := trivial
        go_wp2_with (first
    | (clear tk1; with_reducible refine wpSeq_idxWr (.tmp 19) (.tmp 20) b nw cw j HKN.out ?_ ?_ ?_ ?_ ?_
       · rfl
       · rfl
       · rfl
       · rfl))
        go_roundw
        case rel =>
          refine ⟨(j : Int) - 1, by omega, by omega, rfl, trivial, fun j2 h1 h2 => ?_⟩
          by_cases hj2 : j2 = j
          · subst hj2; rw [← HPP.out]; exact hpi
          · exact HJ.out j2 (by omega) h2
        case measure => simp [intOf]
set_option maxRecDepth 100000 in
set_option maxHeartbeats 8000000 in
theorem dkRead_any {w : World} {g : Nat} {P : Nat → Prop} {D : DkT} (i : Int) (h : DkIs w g P D) : Calls Try.prog 23 #[.pointer (some ⟨g, 0, none⟩), .int .i64 i] w fun r w' => ∃ P' v, r = .returned (.tuple #[v, .int .i64 (readX13 D i)]) ∧ Sta P' w' (fun W => Reads W v (readB13 D i)) ∧ DkIs w' g P' D ∧ Mut P w w' ∧ Grew w P P' := by
  have HK : Hid (DkIs w g P D) := h
  obtain ⟨gs, vw, fu, lf, hm, hP⟩ := h
  subst hP
  have HM : Hid (DkM w g gs vw fu lf D) := hm
  have HRF : Hid (Calls Try.prog 33 #[.pointer (some ⟨g, 0, none⟩), .int .i64 i] w fun r w' => r = .returned (.int .i64 (readX13 D i)) ∧ w' = w) := dkRefused_any i hm
  by_cases hx : readX13 D i = 0
  · have h1 : D.down = false ∧ 0 ≤ i ∧ i < (sizeD D : Int) := by
      unfold readX13 at hx
      cases hd : D.down with
      | true => rw [hd] at hx; simp at hx
      | false =>
        rw [hd, if_neg (by decide)] at hx
        refine ⟨rfl, ?_⟩
        by_cases hh : hasD D i = false
        · rw [if_pos hh] at hx; simp at hx
        · rw [hasD_not] at hh
          exact Decidable.not_not.1 hh
    obtain ⟨k, rfl⟩ := Int.eq_ofNat_of_zero_le h1.2.1
    have HKS : Hid (k < sizeD D) := by show _ < _; have := h1.2.2; omega
    have HSB : Hid ((secD (dumpD D) k).length = 64) := sec_len (by have h2 := hm.ok.size.1; have h3 := HKS.out; rw [len_dumpD hm.ok]; omega)
    have HRB : Hid (readB13 D (k : Int) = secD (dumpD D) k) := sec_dump h1.1 HKS.out
    have HSN : Hid (Calls Try.prog 34 #[.pointer (some ⟨g, 0, none⟩), .int .i64 (k : Int)] w fun r w' => r = .returned (.agg (cb (secD (dumpD D) k)).toArray) ∧ Below w.heap.size w w') := dkSeen_any k HKS.out hm
    rw [hx] at HRF
    rw [hx, HRB.out]
    obtain ⟨xx, HXX⟩ : ∃ x, Hid (x = secD (dumpD D) k) := ⟨_, rfl⟩
    rw [← HXX.out] at HSN HSB
    rw [← HXX.out]
    clear h1 hx hm
    go_enter Try.func23, Try.ntmps23
    have tk0 : Hid True := trivial
    have tk1 : Hid True := trivial
    have tk2 : Hid True := trivial
    have tk3 : Hid True := trivial
    have tk4 : Hid True := trivial
    go_wp2_with (first
    | (clear tk0; go_at_call 33; refine (HRF.out).mono ?_; rintro e0 y0 ⟨rfl, rfl⟩)
    | (clear tk1; go_at_call 34; refine (HSN.out).mono ?_; rintro e0 y1 ⟨rfl, hbz⟩
       have HBW : Hid (Below y0.heap.size y0 y1) := hbz
       clear hbz)
    | (clear tk2; with_reducible refine wpSeq_allocSc ?_ ?_ ?_
       · rfl
       · rfl
       intro gr y2 nn
       have HGR : Hid (Blk y2 gr (cb zs64) 70) := nn.blk
       have HGE : Hid (y0.heap.size ≤ gr) := Nat.le_trans HBW.out.size nn.ge
       replace HBW : Hid (Below y0.heap.size y0 y2) := HBW.out.trans (nn.below.mono HBW.out.size)
       clear nn)
    | (clear tk3; with_reducible refine wpSeq_storeRow 70 (.tmp 7) (.tmp 16) gr (cb zs64) (cb xx) HGR.out (by rw [cb_len, cb_len, HSB.out, len_zs64]) (sz_sec HSB.out) (cb_one _) ?_ ?_ ?_ ?_ ?_
       · rfl
       · rfl
       · rfl
       · rfl
       intro y9 hs9
       have HBR : Hid (Blk y9 gr (cb xx) 70) := hs9.blk
       have HBB : Hid (Below y0.heap.size y0 y9) := HBW.out.trans (hs9.only.below HGE.out HBW.out.size)
       clear hs9)
    | (clear tk4; with_reducible refine wpSeq_sliceSec (.tmp 7) gr 0 ?_ ?_ ?_ ?_
       · rfl
       · rfl
       · rfl))
    refine bodyPost_ret (results_tmp2 rfl _ _ _) rfl ?_
    exact ⟨_, _, rfl, fun W m => (m.blk HBR.out (fun h => absurd (HM.out.lt gr h) (by have := HGE.out; omega))).reads HSB.out.symm (by rw [HSB.out]; exact Nat.le_refl _), ⟨gs, vw, fu, lf, HM.out.below HBB.out, rfl⟩, mut_below HBB.out _, Grew.refl _ _⟩
  · have q1 : (readX13 D i == 0) = false := by rw [beq_eq_false_iff_ne]; exact hx
    have HRB : Hid (readB13 D i = []) := by
      show _ = _
      unfold readB13
      unfold readX13 at hx
      split
      · rfl
      · rename_i h3
        rw [if_neg h3] at hx
        split
        · rfl
        · rename_i h4
          rw [if_neg h4] at hx
          exact absurd rfl hx
    rw [HRB.out]
    obtain ⟨xx, HXX⟩ : ∃ x, Hid (x = readX13 D i) := ⟨_, rfl⟩
    rw [← HXX.out] at HRF q1
    rw [← HXX.out]
    clear hx hm
    go_enter Try.func23, Try.ntmps23
    have tk0 : Hid True := trivial
    go_wp2_with (first
    | (clear tk0; go_at_call 33; refine (HRF.out).mono ?_; rintro e0 y0 ⟨rfl, rfl⟩))
    refine bodyPost_ret (results_tmp2 rfl _ _ _) rfl ?_
    exact ⟨_, _, rfl, fun W _ => reads_nil13 W, HK.out, Mut.refl _ _, Grew.refl _ _⟩
end Go.Proofs.Ytdllnedmhhajnaa

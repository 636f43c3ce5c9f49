/- Texts that the proof leans on, one behind the other: What is hashed along a way, made from its end on: plain, and what of it a loop over slices.Backward keeps. The walks of the reference's Hashed and Root (layer 8). The walk of two: are there two unlike texts of one digest at one place? (layer 8). .. -/
import Derived.Test.YtpeifpoeeopecaaDoorMgb
import Derived.Test.YtpeifpoeeopecaaDoorMgc
import Derived.RangeFuncNested
import Derived.Test.YtpeifpoeeopecaaDoorChecked
import Derived.Sort.Lot0
import Derived.Shelf.SlSortCmp.Kit1
import Derived.Sort.WalkB2
import Derived.Sort.WalkB12
import Derived.Deep.LoopGhost
/- What is hashed along a way, made from its end on: plain, and what of it a loop over slices.Backward keeps. -/
namespace Go.Proofs.YtpeifpoeeopecaaDoor
open Go.RowKit
set_option maxRecDepth 100000
/-- the text behind the sides whose places are given, from the end on -/
def upT (x b0 : List (BitVec 8)) (sd : List (List (BitVec 8))) (pre : List Nat) : List (BitVec 8) := pre.foldl (fun b (k : Nat) => nodeB (bitI x (k : Int)) (sd.getD k zb32) (dig b)) b0
theorem upT_nil (x b0 : List (BitVec 8)) (sd : List (List (BitVec 8))) : upT x b0 sd [] = b0 := rfl
theorem upT_snoc (x b0 : List (BitVec 8)) (sd : List (List (BitVec 8))) (pre : List Nat) (k : Nat) : upT x b0 sd (pre ++ [k]) = nodeB (bitI x (k : Int)) (sd.getD k zb32) (dig (upT x b0 sd pre)) := by
  unfold upT
  rw [List.foldl_append]
  rfl
theorem upT_le {x b0 : List (BitVec 8)} {sd : List (List (BitVec 8))} (hb : b0.length ≤ 65) (h32 : ∀ s ∈ sd, s.length = 32) (pre : List Nat) : (upT x b0 sd pre).length ≤ 65 := by
  rcases List.eq_nil_or_concat pre with rfl | ⟨p, k, rfl⟩
  · exact hb
  · rw [List.concat_eq_append, upT_snoc]
    exact nodeB_le (getD_zb h32 k) (len_dig' _)
/-- all of them, in the order in which they are made -/
def upL (x b0 : List (BitVec 8)) (sd : List (List (BitVec 8))) (pre : List Nat) : List (List (BitVec 8)) := (List.range (pre.length + 1)).map fun i => upT x b0 sd (pre.take i)
theorem upL_nil (x b0 : List (BitVec 8)) (sd : List (List (BitVec 8))) : upL x b0 sd [] = [b0] := rfl
theorem upL_len (x b0 : List (BitVec 8)) (sd : List (List (BitVec 8))) (pre : List Nat) : (upL x b0 sd pre).length = pre.length + 1 := by simp [upL]
theorem upL_snoc (x b0 : List (BitVec 8)) (sd : List (List (BitVec 8))) (pre : List Nat) (k : Nat) : upL x b0 sd (pre ++ [k]) = upL x b0 sd pre ++ [upT x b0 sd (pre ++ [k])] := by
  unfold upL
  rw [List.length_append, List.length_singleton, List.range_succ, List.map_append]
  congr 1
  · apply List.map_congr_left
    intro i hi
    rw [List.mem_range] at hi
    rw [List.take_append_of_le_length (by omega)]
  · rw [List.map_singleton, List.take_of_length_le (by simp)]
theorem up_back (x b0 : List (BitVec 8)) (sd : List (List (BitVec 8))) : ∀ (d k : Nat), k + d = sd.length → upT x b0 sd (backN sd.length k) = (hashL x b0 k (sd.drop k)).headD [] ∧ upL x b0 sd (backN sd.length k) = (hashL x b0 k (sd.drop k)).reverse := by
  intro d
  induction d with
  | zero =>
    intro k hk
    obtain rfl : k = sd.length := by omega
    rw [backN_all, List.drop_length, hashL_nil]
    exact ⟨rfl, rfl⟩
  | succ d ih =>
    intro k hk
    have hlt : k < sd.length := by omega
    obtain ⟨h1, h2⟩ := ih (k + 1) (by omega)
    have hg : sd.getD k zb32 = sd.getD k [] := by rw [List.getD_eq_getElem?_getD, List.getD_eq_getElem?_getD, List.getElem?_eq_getElem hlt]; rfl
    have he : upT x b0 sd (backN sd.length k) = nodeB (bitI x (k : Int)) (sd.getD k []) (topL x b0 (k + 1) (sd.drop (k + 1))) := by
      rw [backN_step _ _ hlt, upT_snoc, h1, hg]
      rfl
    rw [hashL_drop x b0 sd k hlt, List.reverse_cons, ← h2, ← he, List.headD_cons]
    refine ⟨rfl, ?_⟩
    rw [backN_step _ _ hlt, upL_snoc]
theorem up_top (x b0 : List (BitVec 8)) (sd : List (List (BitVec 8))) : dig (upT x b0 sd (backN sd.length 0)) = topL x b0 0 sd := by
  rw [(up_back x b0 sd sd.length 0 (by omega)).1, List.drop_zero]
  rfl
theorem up_all (x b0 : List (BitVec 8)) (sd : List (List (BitVec 8))) : (upL x b0 sd (backN sd.length 0)).reverse = hashL x b0 0 sd := by
  rw [(up_back x b0 sd sd.length 0 (by omega)).2, List.drop_zero, List.reverse_reverse]
/-- a text stays where what is no text changes -/
theorem Reads.kept {W W' : World} {row : Option Nat} {v : Value} {l : List (BitVec 8)} (h : Reads W v l) (hg : W.grownBy W' row) (hr : ∀ r, row = some r → ∃ o : Obj, W.heap[r]? = some o ∧ o.isCells = false) : Reads W' v l := by
  obtain ⟨ad, cap, hv, hc, hn, hx⟩ := h
  refine ⟨ad, cap, hv, hc, hn, fun hp => ?_⟩
  obtain ⟨b, off, h1, h2⟩ := hx hp
  exact ⟨b, off, h1, fun j hj => cell_kept (h2 j hj) hg hr⟩
theorem Reads.away {W W' : World} {row : Option Nat} {v : Value} {l : List (BitVec 8)} (h : Reads W v l) (hg : W.grownBy W' row) (hr : ∀ k, v.ownBlock = some k → some k ≠ row) : Reads W' v l := by
  obtain ⟨ad, cap, hv, hc, hn, hx⟩ := h
  refine ⟨ad, cap, hv, hc, hn, fun hp => ?_⟩
  obtain ⟨b, off, h1, h2⟩ := hx hp
  refine ⟨b, off, h1, fun j hj => ?_⟩
  have hb := World.block_lt_of_cell? W ⟨b, off + j, none⟩ (h2 j hj)
  have hh := hg.block b hb (hr b (by rw [hv, h1]; rfl))
  rw [← h2 j hj]
  unfold World.cell?
  rw [hh]
/-- where Root's loop stands -/
structure UpI (v0 : World) (gB gs : Nat) (vs : Value) (x b0 : List (BitVec 8)) (sd : List (List (BitVec 8))) (pre : List Nat) (W : World) : Prop where
  bel : Below gB v0 W
  ge : gB + 2 ≤ W.heap.size
  bb : ∃ vb, Blk W gB [vb] 23 ∧ Reads W vb (upT x b0 sd pre)
  sb : Blk W gs [vs] 34
theorem UpI.own {v0 : World} {gB gs B : Nat} {vs : Value} {x b0 : List (BitVec 8)} {sd : List (List (BitVec 8))} (hB : gB ≤ B) : OwnFrom B (UpI v0 gB gs vs x b0 sd) := fun s X Y row hs hg hr => by
  obtain ⟨vb, h1, h2⟩ := hs.bb
  exact ⟨hs.bel.grown hg (by have := hs.ge; omega) (fun k e => Nat.le_trans hB (hr k e).1), Nat.le_trans hs.ge hg.size,
    ⟨vb, blk_own (β := Unit) gB (fun _ => [vb]) _ () X Y row h1 hg (fun r e => (hr r e).2), h2.kept hg (fun r e => (hr r e).2)⟩, blk_own (β := Unit) gs (fun _ => [vs]) _ () X Y row hs.sb hg (fun r e => (hr r e).2)⟩
theorem UpI.next {v0 : World} {gB gs : Nat} {vs : Value} {x b0 : List (BitVec 8)} {sd : List (List (BitVec 8))} {pre : List Nat} {W W' : World} (h : UpI v0 gB gs vs x b0 sd pre W) (hb : Below W.heap.size W W') : UpI v0 gB gs vs x b0 sd pre W' := by
  obtain ⟨vb, h1, h2⟩ := h.bb
  exact ⟨h.bel.trans (hb.mono (by have := h.ge; omega)), Nat.le_trans h.ge hb.size, ⟨vb, h1.below hb h1.lt, h2.below hb⟩, h.sb.below hb h.sb.lt⟩
/-- one side more -/
theorem UpI.step {v0 : World} {gB gs B : Nat} {vs : Value} {x b0 : List (BitVec 8)} {sd : List (List (BitVec 8))} {pre : List Nat} {k : Nat} {W y : World} {v : Value} (h : UpI v0 gB gs vs x b0 sd pre W) (hgs : gs ≠ gB) (hb : Below W.drew.heap.size W.drew y)
    (hf : Fresh W.heap.size y v (upT x b0 sd (pre ++ [k]))) : KeepsFrom B W (y.setCell ⟨gB, 0, none⟩ v) ∧ KpB gB gs W (y.setCell ⟨gB, 0, none⟩ v) ∧ UpI v0 gB gs vs x b0 sd (pre ++ [k]) (y.setCell ⟨gB, 0, none⟩ v) := by
  have hge := h.ge
  have hb' : Below W.heap.size W y := (Below.refl W.heap.size W).drew.trans hb
  obtain ⟨vb, h1, h2⟩ := h.bb
  have hsz : W.heap.size ≤ y.heap.size := hb'.size
  have hB1 : Below gB W (y.setCell ⟨gB, 0, none⟩ v) := (hb'.mono (show gB ≤ W.heap.size by omega)).setCell (p := ⟨gB, 0, none⟩) (Nat.le_refl _) _
  have hy : Blk y gB [vb] 23 := h1.below hb' h1.lt
  have hgl : gs < W.heap.size := h.sb.lt
  refine ⟨((keepsOthers_of_below hb').trans (KeepsOthers.setCell _ _ _)).from _, ⟨hB1, ?_⟩, ⟨h.bel.trans hB1, ?_, ⟨v, hy.set 0 v, ?_⟩, (h.sb.below hb' hgl).other _ _ hgs⟩⟩
  · rw [heap_setCell_other y ⟨gB, 0, none⟩ gs v hgs]
    exact hb'.block gs hgl
  · have : (y.setCell ⟨gB, 0, none⟩ v).heap.size = y.heap.size := by simp
    omega
  · refine hf.rd.away (grownBy_setCell' y gB v) (fun j hj he => ?_)
    have := hf.ge j hj
    simp only [Option.some.injEq] at he
    omega
/-- a reading beside a call -/
theorem wpAnyH_commC {P : Program} {md : Region.Mode} {ops : Array Oper} {Q : Exit → Act → World → Prop} {S : World → Prop} {fuel : Nat} {listed : Array Bool} {a : Act} {w : World} (i j : Nat) {oi oj : Oper} (v : Value) {f : FuncId} {args : Array Value} {R : Ending → World → Prop}
    (hr : Region.ready md ops listed = [i, j]) (hi : ops[i]? = some oi) (hj : ops[j]? = some oj)
    (wi : Region.wanted oi (yielded ops a.tmps) = true) (wj : Region.wanted oj (yielded ops a.tmps) = true) (wi2 : ∀ u, Region.wanted oi (yielded ops (a.put oj.dst u).tmps) = true) (wj2 : Region.wanted oj (yielded ops (a.put oi.dst v).tmps) = true)
    (ei : (execOp a.eval oi).run P w = .ok (.value v) w) (ej : (execOp a.eval oj).run P w = .ok (.enter f args) w) (ej2 : (execOp (a.put oi.dst v).eval oj).run P w = .ok (.enter f args) w) (hc : Calls P f args w R)
    (hr1 : Region.ready md ops (listed.setIfInBounds i true) = [j]) (hr2 : Region.ready md ops (listed.setIfInBounds j true) = [i])
    (hp : ∀ u, (a.put oj.dst u).put oi.dst v = (a.put oi.dst v).put oj.dst u) (hl : (listed.setIfInBounds j true).setIfInBounds i true = (listed.setIfInBounds i true).setIfInBounds j true)
    (hS : S w) (h : ∀ e w', R e w' → ∃ u, e = .returned u ∧ S w' ∧ (execOp (a.put oj.dst u).eval oi).run P w' = .ok (.value v) w' ∧ wpAnyH P md ops Q S fuel ((listed.setIfInBounds i true).setIfInBounds j true) ((a.put oi.dst v).put oj.dst u) w') : wpAnyH P md ops Q S (fuel + 2) listed a w := by
  refine wpAnyH_all hr (by simp) (fun k hk => ?_)
  rcases List.mem_cons.1 hk with rfl | hk
  · refine wpOp_vl k v w hi wi ei ⟨hS, wpAnyH_enter j hr1 hj wj2 ej2 hc fun e w' hR => ?_⟩
    obtain ⟨u, h1, h2, _, h4⟩ := h e w' hR
    exact ⟨u, h1, h2, h4⟩
  · obtain rfl : k = j := by simpa using hk
    unfold wpOp
    rw [hj]
    simp only [wj, if_true]
    left
    unfold Oper.wp
    rw [ej, Oper.upon_enter]
    refine hc.mono ?_
    intro e w' hR
    obtain ⟨u, rfl, h2, h3, h4⟩ := h e w' hR
    refine ⟨h2, wpAnyH_step i v w' hr2 hi (wi2 u) h3 h2 ?_⟩
    rw [hl, hp]
    exact h4
end Go.Proofs.YtpeifpoeeopecaaDoor
/- The walks of the reference's Hashed and Root (layer 8). -/
namespace Go.Proofs.YtpeifpoeeopecaaDoor
open Go.RowKit
set_option maxRecDepth 100000
set_option maxRecDepth 100000 in
set_option maxHeartbeats 8000000 in
theorem bHashed_any (x : List (BitVec 8)) (vs : Value) (sd : List (List (BitVec 8))) (en : Int) (ix va : List (BitVec 8)) (w : World) (hx : x.length = 32) (hix : ix.length = 32) (hva : va.length = 32) (hR : ReadsD w vs sd) (hl : sd.length ≤ 1000) :
    Calls Tryd.prog 35 #[.agg (cb x).toArray, .agg (prfV vs en ix va).toArray] w fun e w' => ∃ v, e = .returned v ∧ ReadsL w' v (hashL x (endB en ix va) 0 sd) ∧ Below w.heap.size w w' := by
  have HXL : Hid (x.length = 32) := hx
  have HIL : Hid (ix.length = 32) := hix
  have HVL : Hid (va.length = 32) := hva
  have HL : Hid (sd.length ≤ 1000) := hl
  have H32 : Hid (∀ s ∈ sd, s.length = 32) := hR.2
  obtain ⟨n, HN⟩ : ∃ n, Hid (n = sd.length) := ⟨_, rfl⟩
  obtain ⟨ads, cps, hvs⟩ := hR.slice
  rw [← HN.out] at hvs
  subst hvs
  obtain ⟨b0, HB0⟩ : ∃ b, Hid (b = endB en ix va) := ⟨_, rfl⟩
  have HLB : Hid (b0.length ≤ 65) := by show _ ≤ _; rw [HB0.out]; exact endB_le hix hva
  rw [← HB0.out]
  obtain ⟨cs, HCS⟩ : ∃ c, Hid (c = prfV (.slice ads n cps) en ix va) := ⟨_, rfl⟩
  rw [← HCS.out]
  have HRD : Hid (ReadsD w (.slice ads n cps) sd) := hR
  clear hx hix hva hl hR
  by_cases he : en = 1
  · have HBE : Hid (b0 = pairB 76 ix va) := by show _ = _; rw [HB0.out]; unfold endB; rw [if_pos he]
    go_enter Tryd.func35, Tryd.ntmps35
    go_upto_region 4 with (first
        | (with_reducible refine wpSeq_boxD (.tmp 0) x ?_ ?_ ?_ ?_
           · rfl
           · rfl
           · rfl
           intro gx w1 nn1)
        | (with_reducible refine wpSeq_boxP (.tmp 1) cs ?_ ?_ ?_ ?_
           · rfl
           · rfl
           · rfl
           intro gp w2 nn2
           have HI : Hid (Hs w gx gp x (.slice ads n cps) sd en ix va w2) := by
             have hb := nn1.below.trans (nn2.below.mono nn1.below.size)
             refine ⟨nn1.blk.below nn2.below nn1.blk.lt, ?_, HRD.out.below hb, hb⟩
             rw [← HCS.out]; exact nn2.blk
           clear nn1 nn2 HCS HRD)
        | (go_at_call 54; refine (rEmpty_any _).mono ?_; rintro e w3 ⟨v3, rfl, hr3, hb3⟩
           obtain ⟨a3, n3, c3, hv3⟩ := hr3.form
           subst hv3
           replace HI : Hid (Hs w gx gp x (.slice ads n cps) sd en ix va w3) := HI.out.next hb3
           have HR3 : Hid (Reads w3 (.slice a3 n3 c3) [69]) := hr3
           have c1 : w3.cell? ⟨gp, 1, none⟩ = some (.int .i64 en) := HI.out.pb.cell 1
           clear hb3 hr3)
        | (with_reducible refine wpSeq_loadR (.tmp 15) ?_ ?_ gp 2 ?_ (cb ix) (prfV_rix HI.out.pb) (infoD ix HIL.out) ?_
           · rfl
           · rfl
           · rfl)
        | (with_reducible refine wpSeq_loadR (.tmp 17) ?_ ?_ gp 34 ?_ (cb va) (prfV_rva HI.out.pb HIL.out) (infoD va HVL.out) ?_
           · rfl
           · rfl
           · rfl)
        | (go_at_call 48; refine (rLeaf_any ix va HIL.out HVL.out _).mono ?_; rintro e w4 ⟨v4, rfl, hr4, hb4⟩
           obtain ⟨a4, n4, c4, hv4⟩ := hr4.form
           subst hv4
           replace HI : Hid (Hs w gx gp x (.slice ads n cps) sd en ix va w4) := HI.out.next hb4
           have HR4 : Hid (Reads w4 (.slice a4 n4 c4) (pairB 76 ix va)) := hr4
           clear hb4 hr4 c1))
    clear he HR3
    have HRB0 : Hid (Reads w4 (.slice a4 n4 c4) b0) := by show Reads _ _ _; rw [HBE.out]; exact HR4.out
    clear HR4
    go_upto_region 5 with fail
    have HRO0 : Hid (ReadsL (w4.alloc (.cells #[.slice a4 n4 c4] 23)) (.slice (some ⟨w4.heap.size, 0, none⟩) 1 1) [b0]) := readsL_one HRB0.out
    replace HRB0 : Hid (Reads (w4.alloc (.cells #[.slice a4 n4 c4] 23)) (.slice a4 n4 c4) b0) := HRB0.out.below (below_alloc _ _)
    replace HI : Hid (Hs w gx gp x (.slice ads n cps) sd en ix va (w4.alloc (.cells #[.slice a4 n4 c4] 23))) := HI.out.next (below_alloc _ _)
    obtain ⟨vo0, HVO⟩ : ∃ z, Hid (z = Value.slice (some ⟨w4.heap.size, 0, none⟩) 1 1) := ⟨_, rfl⟩
    rw [← HVO.out] at HRO0 ⊢
    clear HVO
    generalize w4.alloc (.cells #[.slice a4 n4 c4] 23) = w5 at *
    have c0 : w5.cell? ⟨gp, 0, none⟩ = some (.slice ads n cps) := HI.out.pb.cell 0
    have f1 : IntKind.i64.wrap ((n : Int) - 1) = (n : Int) - 1 := wrap_pred n (by have h1 := HL.out; have h2 := HN.out; omega)
    go_wp2
    clear c0 f1
    go_loopw [5, 6, 7] (fun b o j wr => ∃ (k : Nat) (jj : Int), k ≤ n ∧ j = .int .i64 jj ∧ jj = (k : Int) - 1 ∧ Reads wr b ((hashL x b0 k (sd.drop k)).headD []) ∧ ReadsL wr o (hashL x b0 k (sd.drop k)) ∧ Hs w gx gp x (.slice ads n cps) sd en ix va wr) (fun _ _ j _ => (intOf j + 1).toNat)
    case atStart =>
      refine ⟨n, _, Nat.le_refl _, rfl, rfl, ?_, ?_, HI.out⟩
      · rw [List.drop_of_length_le (by rw [HN.out]; exact Nat.le_refl _), hashL_nil]; exact HRB0.out
      · rw [List.drop_of_length_le (by rw [HN.out]; exact Nat.le_refl _), hashL_nil]; exact HRO0.out
    case round =>
      clear HI HRB0 HRO0
      obtain ⟨k1, jj, hk1, rfl, hjj, hrb, hro, hI⟩ := hrel
      cases k1 with
      | zero =>
        have HI : Hid (Hs w gx gp x (.slice ads n cps) sd en ix va wr) := hI
        rw [List.drop_zero] at hro
        have HRO : Hid (ReadsL wr u6 (hashL x b0 0 sd)) := hro
        have hj : jj = -1 := by omega
        subst hj
        clear hI hrb hro hjj
        go_wp2
        go_ret
        exact ⟨_, rfl, HRO.out, HI.out.bel⟩
      | succ k =>
        obtain rfl : jj = (k : Int) := by omega
        obtain ⟨vb, HVB⟩ : ∃ z, Hid (z = u5) := ⟨_, rfl⟩
        obtain ⟨vo, HVO⟩ : ∃ z, Hid (z = u6) := ⟨_, rfl⟩
        rw [← HVB.out] at hrb ⊢
        rw [← HVO.out] at hro ⊢
        clear HVB HVO
        obtain ⟨T, HTD⟩ : ∃ T, Hid (T = hashL x b0 (k + 1) (sd.drop (k + 1))) := ⟨_, rfl⟩
        have HKL : Hid (k < sd.length) := by show _ < _; rw [← HN.out]; omega
        have HLE : Hid ((T.headD []).length ≤ 65) := by show _ ≤ _; rw [HTD.out]; exact hashL_le x b0 HLB.out _ _ (fun s hs => H32.out s (List.mem_of_mem_drop hs)) _ (hashL_head _ _ _ _)
        rw [← HTD.out] at hrb hro
        obtain ⟨y, HY⟩ : ∃ y, Hid (y = topL x b0 (k + 1) (sd.drop (k + 1))) := ⟨_, rfl⟩
        have HYD : Hid (dig (T.headD []) = y) := by show _ = _; rw [HY.out, HTD.out]; rfl
        have HYL : Hid (y.length = 32) := by show _ = _; rw [HY.out]; exact topL_len _ _ _ _
        obtain ⟨s, HSD⟩ : ∃ s, Hid (s = sd.getD k []) := ⟨_, rfl⟩
        have HSL : Hid (s.length = 32) := by show _ = _; rw [HSD.out]; exact getD_mem32 H32.out HKL.out
        obtain ⟨on, HON⟩ : ∃ o, Hid (bitI x (k : Int) = o) := ⟨_, rfl⟩
        have HST : Hid (hashL x b0 k (sd.drop k) = nodeB on s y :: T) := by show _ = _; rw [hashL_drop x b0 sd k HKL.out, HON.out, HSD.out, HY.out, HTD.out]
        have HTP : Hid (0 < T.length) := by show _ < _; rw [HTD.out, hashL_len]; omega
        have HTL : Hid (T.length < 1000000) := by show _ < _; rw [HTD.out, hashL_len, List.length_drop]; have h1 := HL.out; omega
        have HNP : Hid (0 < sd.length) := by show _ < _; have h1 := HKL.out; omega
        obtain ⟨ba, offa, cpz, hvz, _hyz⟩ := hI.rd.at HNP.out
        rw [← HN.out] at hvz
        simp only [Value.slice.injEq, true_and] at hvz
        obtain ⟨rfl, rfl⟩ := hvz
        clear _hyz
        have HRB : Hid (Reads wr vb (T.headD [])) := hrb
        have HRO : Hid (ReadsL wr vo T) := hro
        have HI : Hid (Hs w gx gp x (.slice (some ⟨ba, offa, none⟩) n cps) sd en ix va wr) := hI
        have k0 : (0 : Int) ≤ (k : Int) := by omega
        have hlti : (k : Int) < (n : Int) := by omega
        have hw2 : IntKind.i64.wrap ((k : Int) - 1) = (k : Int) - 1 := wrap_pred k (by have h1 := HL.out; have h2 := HN.out; omega)
        clear hrb hro hI hjj
        cases on
        · have HNE : Hid (pairB 78 y s = nodeB false s y) := rfl
          go_upto_region 9 with (first
            | (go_at_call 32; refine (rOf_any vb _ _ HRB.out (by have h := HLE.out; omega)).mono ?_; rintro e w1 ⟨rfl, hb1⟩; rw [HYD.out]
               replace HI : Hid (Hs w gx gp x (.slice (some ⟨ba, offa, none⟩) n cps) sd en ix va w1) := HI.out.next hb1
               replace HRO : Hid (ReadsL w1 vo T) := HRO.out.below hb1
               clear hb1 HRB)
            | (with_reducible refine wpSeq_allocD ?_ ?_ ?_
               · rfl
               · rfl
               intro g8 w2 nn8)
            | (with_reducible refine wpSeq_storeD (.tmp 8) (.tmp 31) g8 zb32 y ?_ ?_ ?_ ?_ ?_ ?_ ?_ ?_
               · rfl
               · exact HYL.out
               · exact nn8.blk
               · rfl
               · rfl
               · rfl
               · rfl
               intro w3 h3))
          have N8 := nn8.set h3
          replace HI : Hid (Hs w gx gp x (.slice (some ⟨ba, offa, none⟩) n cps) sd en ix va w3) := HI.out.next N8.below
          replace HRO : Hid (ReadsL w3 vo T) := HRO.out.below N8.below
          have HB8 : Hid (Blk w3 g8 (cb y) 33) := N8.blk
          clear N8 nn8 h3
          have c0 : w3.cell? ⟨gp, 0, none⟩ = some (.slice (some ⟨ba, offa, none⟩) n cps) := HI.out.pb.cell 0
          have HSR : Hid (w3.rangeAt ba (offa + k * 32) (cb s)) := by
            obtain ⟨b', off', cp', hv', hy'⟩ := HI.out.rd.at HNP.out
            simp only [Value.slice.injEq, Option.some.injEq, Addr.mk.injEq] at hv'
            obtain ⟨⟨rfl, rfl, _⟩, _, _⟩ := hv'
            have := hy' k HKL.out
            rwa [← HSD.out] at this
          go_upto_region 10 with (first
            | (with_reducible refine wpSeq_loadAt (.tmp 35) ba (offa + k * 32) s ?_ ?_ ?_ ?_ ?_ ?_
               · exact HSL.out
               · exact HSR.out
               · with_reducible rfl
               · rfl
               · rfl)
            | (with_reducible refine wpSeq_allocD ?_ ?_ ?_
               · rfl
               · rfl
               intro g9 w4 nn9)
            | (with_reducible refine wpSeq_storeD (.tmp 9) (.tmp 36) g9 zb32 s ?_ ?_ ?_ ?_ ?_ ?_ ?_ ?_
               · rfl
               · exact HSL.out
               · exact nn9.blk
               · rfl
               · rfl
               · rfl
               · rfl
               intro w5 h5))
          have N9 := nn9.set h5
          replace HI : Hid (Hs w gx gp x (.slice (some ⟨ba, offa, none⟩) n cps) sd en ix va w5) := HI.out.next N9.below
          replace HRO : Hid (ReadsL w5 vo T) := HRO.out.below N9.below
          replace HB8 : Hid (Blk w5 g8 (cb y) 33) := HB8.out.below N9.below HB8.out.lt
          have HB9 : Hid (Blk w5 g9 (cb s) 33) := N9.blk
          clear N9 nn9 h5 HSR c0
          go_upto_region 13 with (first
            | (with_reducible refine wpSeq_loadD (.tmp 2) gx x ?_ ?_ ?_ ?_ ?_ ?_
               · exact HXL.out
               · exact HI.out.xb
               · with_reducible rfl
               · rfl
               · rfl)
            | (go_at_call 41; refine (sBit_any x HXL.out _ _).mono ?_; rintro e w6 ⟨rfl, hb6⟩; rw [HON.out]
               replace HI : Hid (Hs w gx gp x (.slice (some ⟨ba, offa, none⟩) n cps) sd en ix va w6) := HI.out.next hb6
               replace HRO : Hid (ReadsL w6 vo T) := HRO.out.below hb6
               replace HB8 : Hid (Blk w6 g8 (cb y) 33) := HB8.out.below hb6 HB8.out.lt
               replace HB9 : Hid (Blk w6 g9 (cb s) 33) := HB9.out.below hb6 HB9.out.lt
               clear hb6)
            | (with_reducible refine wpSeq_loadD (.tmp 8) g8 y ?_ ?_ ?_ ?_ ?_ ?_
               · exact HYL.out
               · exact HB8.out
               · with_reducible rfl
               · rfl
               · rfl)
            | (with_reducible refine wpSeq_loadD (.tmp 9) g9 s ?_ ?_ ?_ ?_ ?_ ?_
               · exact HSL.out
               · exact HB9.out
               · with_reducible rfl
               · rfl
               · rfl)
            | (go_at_call 55; refine (rNode_any y s HYL.out HSL.out _).mono ?_; rintro e w7 ⟨v7, rfl, hr7, hb7⟩
               obtain ⟨a7, n7, c7, hv7⟩ := hr7.form
               subst hv7
               replace HI : Hid (Hs w gx gp x (.slice (some ⟨ba, offa, none⟩) n cps) sd en ix va w7) := HI.out.next hb7
               replace HRO : Hid (ReadsL w7 vo T) := HRO.out.below hb7
               have HR7 : Hid (Reads w7 (.slice a7 n7 c7) (nodeB false s y)) := hr7
               clear hb7 hr7 HB8 HB9))
          go_wp2_with (first
            | (with_reducible refine wpSeq_appendL (.tmp 48) (.tmp 49) (.slice a7 n7 c7) vo (nodeB false s y) T HR7.out HRO.out HTP.out HTL.out ?_ ?_ ?_ ?_ ?_
               · rfl
               · rfl
               · rfl
               · rfl
               intro v8 w8 hr8 hb8
               replace HI : Hid (Hs w gx gp x (.slice (some ⟨ba, offa, none⟩) n cps) sd en ix va w8) := HI.out.next hb8
               have HR8 : Hid (Reads w8 (.slice a7 n7 c7) (nodeB false s y)) := HR7.out.below hb8
               have HO8 : Hid (ReadsL w8 v8 (nodeB false s y :: T)) := hr8
               clear hr8 hb8 HR7 HRO))
          go_roundw
          case rel =>
            refine ⟨k, (k : Int) - 1, by omega, rfl, rfl, ?_, ?_, HI.out⟩
            · rw [HST.out]; exact HR8.out
            · rw [HST.out]; exact HO8.out
          case measure => simp [intOf]
        · have HNE : Hid (pairB 78 s y = nodeB true s y) := rfl
          go_upto_region 9 with (first
            | (go_at_call 32; refine (rOf_any vb _ _ HRB.out (by have h := HLE.out; omega)).mono ?_; rintro e w1 ⟨rfl, hb1⟩; rw [HYD.out]
               replace HI : Hid (Hs w gx gp x (.slice (some ⟨ba, offa, none⟩) n cps) sd en ix va w1) := HI.out.next hb1
               replace HRO : Hid (ReadsL w1 vo T) := HRO.out.below hb1
               clear hb1 HRB)
            | (with_reducible refine wpSeq_allocD ?_ ?_ ?_
               · rfl
               · rfl
               intro g8 w2 nn8)
            | (with_reducible refine wpSeq_storeD (.tmp 8) (.tmp 31) g8 zb32 y ?_ ?_ ?_ ?_ ?_ ?_ ?_ ?_
               · rfl
               · exact HYL.out
               · exact nn8.blk
               · rfl
               · rfl
               · rfl
               · rfl
               intro w3 h3))
          have N8 := nn8.set h3
          replace HI : Hid (Hs w gx gp x (.slice (some ⟨ba, offa, none⟩) n cps) sd en ix va w3) := HI.out.next N8.below
          replace HRO : Hid (ReadsL w3 vo T) := HRO.out.below N8.below
          have HB8 : Hid (Blk w3 g8 (cb y) 33) := N8.blk
          clear N8 nn8 h3
          have c0 : w3.cell? ⟨gp, 0, none⟩ = some (.slice (some ⟨ba, offa, none⟩) n cps) := HI.out.pb.cell 0
          have HSR : Hid (w3.rangeAt ba (offa + k * 32) (cb s)) := by
            obtain ⟨b', off', cp', hv', hy'⟩ := HI.out.rd.at HNP.out
            simp only [Value.slice.injEq, Option.some.injEq, Addr.mk.injEq] at hv'
            obtain ⟨⟨rfl, rfl, _⟩, _, _⟩ := hv'
            have := hy' k HKL.out
            rwa [← HSD.out] at this
          go_upto_region 10 with (first
            | (with_reducible refine wpSeq_loadAt (.tmp 35) ba (offa + k * 32) s ?_ ?_ ?_ ?_ ?_ ?_
               · exact HSL.out
               · exact HSR.out
               · with_reducible rfl
               · rfl
               · rfl)
            | (with_reducible refine wpSeq_allocD ?_ ?_ ?_
               · rfl
               · rfl
               intro g9 w4 nn9)
            | (with_reducible refine wpSeq_storeD (.tmp 9) (.tmp 36) g9 zb32 s ?_ ?_ ?_ ?_ ?_ ?_ ?_ ?_
               · rfl
               · exact HSL.out
               · exact nn9.blk
               · rfl
               · rfl
               · rfl
               · rfl
               intro w5 h5))
          have N9 := nn9.set h5
          replace HI : Hid (Hs w gx gp x (.slice (some ⟨ba, offa, none⟩) n cps) sd en ix va w5) := HI.out.next N9.below
          replace HRO : Hid (ReadsL w5 vo T) := HRO.out.below N9.below
          replace HB8 : Hid (Blk w5 g8 (cb y) 33) := HB8.out.below N9.below HB8.out.lt
          have HB9 : Hid (Blk w5 g9 (cb s) 33) := N9.blk
          clear N9 nn9 h5 HSR c0
          go_upto_region 13 with (first
            | (with_reducible refine wpSeq_loadD (.tmp 2) gx x ?_ ?_ ?_ ?_ ?_ ?_
               · exact HXL.out
               · exact HI.out.xb
               · with_reducible rfl
               · rfl
               · rfl)
            | (go_at_call 41; refine (sBit_any x HXL.out _ _).mono ?_; rintro e w6 ⟨rfl, hb6⟩; rw [HON.out]
               replace HI : Hid (Hs w gx gp x (.slice (some ⟨ba, offa, none⟩) n cps) sd en ix va w6) := HI.out.next hb6
               replace HRO : Hid (ReadsL w6 vo T) := HRO.out.below hb6
               replace HB8 : Hid (Blk w6 g8 (cb y) 33) := HB8.out.below hb6 HB8.out.lt
               replace HB9 : Hid (Blk w6 g9 (cb s) 33) := HB9.out.below hb6 HB9.out.lt
               clear hb6)
            | (with_reducible refine wpSeq_loadD (.tmp 9) g9 s ?_ ?_ ?_ ?_ ?_ ?_
               · exact HSL.out
               · exact HB9.out
               · with_reducible rfl
               · rfl
               · rfl)
            | (with_reducible refine wpSeq_loadD (.tmp 8) g8 y ?_ ?_ ?_ ?_ ?_ ?_
               · exact HYL.out
               · exact HB8.out
               · with_reducible rfl
               · rfl
               · rfl)
            | (go_at_call 55; refine (rNode_any s y HSL.out HYL.out _).mono ?_; rintro e w7 ⟨v7, rfl, hr7, hb7⟩
               obtain ⟨a7, n7, c7, hv7⟩ := hr7.form
               subst hv7
               replace HI : Hid (Hs w gx gp x (.slice (some ⟨ba, offa, none⟩) n cps) sd en ix va w7) := HI.out.next hb7
               replace HRO : Hid (ReadsL w7 vo T) := HRO.out.below hb7
               have HR7 : Hid (Reads w7 (.slice a7 n7 c7) (nodeB true s y)) := hr7
               clear hb7 hr7 HB8 HB9))
          go_wp2_with (first
            | (with_reducible refine wpSeq_appendL (.tmp 48) (.tmp 49) (.slice a7 n7 c7) vo (nodeB true s y) T HR7.out HRO.out HTP.out HTL.out ?_ ?_ ?_ ?_ ?_
               · rfl
               · rfl
               · rfl
               · rfl
               intro v8 w8 hr8 hb8
               replace HI : Hid (Hs w gx gp x (.slice (some ⟨ba, offa, none⟩) n cps) sd en ix va w8) := HI.out.next hb8
               have HR8 : Hid (Reads w8 (.slice a7 n7 c7) (nodeB true s y)) := HR7.out.below hb8
               have HO8 : Hid (ReadsL w8 v8 (nodeB true s y :: T)) := hr8
               clear hr8 hb8 HR7 HRO))
          go_roundw
          case rel =>
            refine ⟨k, (k : Int) - 1, by omega, rfl, rfl, ?_, ?_, HI.out⟩
            · rw [HST.out]; exact HR8.out
            · rw [HST.out]; exact HO8.out
          case measure => simp [intOf]

  · have HBE : Hid (b0 = [69]) := by show _ = _; rw [HB0.out]; unfold endB; rw [if_neg he]
    go_enter Tryd.func35, Tryd.ntmps35
    go_upto_region 4 with (first
        | (with_reducible refine wpSeq_boxD (.tmp 0) x ?_ ?_ ?_ ?_
           · rfl
           · rfl
           · rfl
           intro gx w1 nn1)
        | (with_reducible refine wpSeq_boxP (.tmp 1) cs ?_ ?_ ?_ ?_
           · rfl
           · rfl
           · rfl
           intro gp w2 nn2
           have HI : Hid (Hs w gx gp x (.slice ads n cps) sd en ix va w2) := by
             have hb := nn1.below.trans (nn2.below.mono nn1.below.size)
             refine ⟨nn1.blk.below nn2.below nn1.blk.lt, ?_, HRD.out.below hb, hb⟩
             rw [← HCS.out]; exact nn2.blk
           clear nn1 nn2 HCS HRD)
        | (go_at_call 54; refine (rEmpty_any _).mono ?_; rintro e w3 ⟨v3, rfl, hr3, hb3⟩
           obtain ⟨a3, n3, c3, hv3⟩ := hr3.form
           subst hv3
           replace HI : Hid (Hs w gx gp x (.slice ads n cps) sd en ix va w3) := HI.out.next hb3
           have HR3 : Hid (Reads w3 (.slice a3 n3 c3) [69]) := hr3
           have c1 : w3.cell? ⟨gp, 1, none⟩ = some (.int .i64 en) := HI.out.pb.cell 1
           clear hb3 hr3))
    have e1 : (en == 1) = false := by simpa using he
    simp only [e1]
    clear he c1 e1
    have HRB0 : Hid (Reads w3 (.slice a3 n3 c3) b0) := by show Reads _ _ _; rw [HBE.out]; exact HR3.out
    clear HR3
    go_upto_region 5 with fail
    have HRO0 : Hid (ReadsL (w3.alloc (.cells #[.slice a3 n3 c3] 23)) (.slice (some ⟨w3.heap.size, 0, none⟩) 1 1) [b0]) := readsL_one HRB0.out
    replace HRB0 : Hid (Reads (w3.alloc (.cells #[.slice a3 n3 c3] 23)) (.slice a3 n3 c3) b0) := HRB0.out.below (below_alloc _ _)
    replace HI : Hid (Hs w gx gp x (.slice ads n cps) sd en ix va (w3.alloc (.cells #[.slice a3 n3 c3] 23))) := HI.out.next (below_alloc _ _)
    obtain ⟨vo0, HVO⟩ : ∃ z, Hid (z = Value.slice (some ⟨w3.heap.size, 0, none⟩) 1 1) := ⟨_, rfl⟩
    rw [← HVO.out] at HRO0 ⊢
    clear HVO
    generalize w3.alloc (.cells #[.slice a3 n3 c3] 23) = w5 at *
    have c0 : w5.cell? ⟨gp, 0, none⟩ = some (.slice ads n cps) := HI.out.pb.cell 0
    have f1 : IntKind.i64.wrap ((n : Int) - 1) = (n : Int) - 1 := wrap_pred n (by have h1 := HL.out; have h2 := HN.out; omega)
    go_wp2
    clear c0 f1
    go_loopw [5, 6, 7] (fun b o j wr => ∃ (k : Nat) (jj : Int), k ≤ n ∧ j = .int .i64 jj ∧ jj = (k : Int) - 1 ∧ Reads wr b ((hashL x b0 k (sd.drop k)).headD []) ∧ ReadsL wr o (hashL x b0 k (sd.drop k)) ∧ Hs w gx gp x (.slice ads n cps) sd en ix va wr) (fun _ _ j _ => (intOf j + 1).toNat)
    case atStart =>
      refine ⟨n, _, Nat.le_refl _, rfl, rfl, ?_, ?_, HI.out⟩
      · rw [List.drop_of_length_le (by rw [HN.out]; exact Nat.le_refl _), hashL_nil]; exact HRB0.out
      · rw [List.drop_of_length_le (by rw [HN.out]; exact Nat.le_refl _), hashL_nil]; exact HRO0.out
    case round =>
      clear HI HRB0 HRO0
      obtain ⟨k1, jj, hk1, rfl, hjj, hrb, hro, hI⟩ := hrel
      cases k1 with
      | zero =>
        have HI : Hid (Hs w gx gp x (.slice ads n cps) sd en ix va wr) := hI
        rw [List.drop_zero] at hro
        have HRO : Hid (ReadsL wr u6 (hashL x b0 0 sd)) := hro
        have hj : jj = -1 := by omega
        subst hj
        clear hI hrb hro hjj
        go_wp2
        go_ret
        exact ⟨_, rfl, HRO.out, HI.out.bel⟩
      | succ k =>
        obtain rfl : jj = (k : Int) := by omega
        obtain ⟨vb, HVB⟩ : ∃ z, Hid (z = u5) := ⟨_, rfl⟩
        obtain ⟨vo, HVO⟩ : ∃ z, Hid (z = u6) := ⟨_, rfl⟩
        rw [← HVB.out] at hrb ⊢
        rw [← HVO.out] at hro ⊢
        clear HVB HVO
        obtain ⟨T, HTD⟩ : ∃ T, Hid (T = hashL x b0 (k + 1) (sd.drop (k + 1))) := ⟨_, rfl⟩
        have HKL : Hid (k < sd.length) := by show _ < _; rw [← HN.out]; omega
        have HLE : Hid ((T.headD []).length ≤ 65) := by show _ ≤ _; rw [HTD.out]; exact hashL_le x b0 HLB.out _ _ (fun s hs => H32.out s (List.mem_of_mem_drop hs)) _ (hashL_head _ _ _ _)
        rw [← HTD.out] at hrb hro
        obtain ⟨y, HY⟩ : ∃ y, Hid (y = topL x b0 (k + 1) (sd.drop (k + 1))) := ⟨_, rfl⟩
        have HYD : Hid (dig (T.headD []) = y) := by show _ = _; rw [HY.out, HTD.out]; rfl
        have HYL : Hid (y.length = 32) := by show _ = _; rw [HY.out]; exact topL_len _ _ _ _
        obtain ⟨s, HSD⟩ : ∃ s, Hid (s = sd.getD k []) := ⟨_, rfl⟩
        have HSL : Hid (s.length = 32) := by show _ = _; rw [HSD.out]; exact getD_mem32 H32.out HKL.out
        obtain ⟨on, HON⟩ : ∃ o, Hid (bitI x (k : Int) = o) := ⟨_, rfl⟩
        have HST : Hid (hashL x b0 k (sd.drop k) = nodeB on s y :: T) := by show _ = _; rw [hashL_drop x b0 sd k HKL.out, HON.out, HSD.out, HY.out, HTD.out]
        have HTP : Hid (0 < T.length) := by show _ < _; rw [HTD.out, hashL_len]; omega
        have HTL : Hid (T.length < 1000000) := by show _ < _; rw [HTD.out, hashL_len, List.length_drop]; have h1 := HL.out; omega
        have HNP : Hid (0 < sd.length) := by show _ < _; have h1 := HKL.out; omega
        obtain ⟨ba, offa, cpz, hvz, _hyz⟩ := hI.rd.at HNP.out
        rw [← HN.out] at hvz
        simp only [Value.slice.injEq, true_and] at hvz
        obtain ⟨rfl, rfl⟩ := hvz
        clear _hyz
        have HRB : Hid (Reads wr vb (T.headD [])) := hrb
        have HRO : Hid (ReadsL wr vo T) := hro
        have HI : Hid (Hs w gx gp x (.slice (some ⟨ba, offa, none⟩) n cps) sd en ix va wr) := hI
        have k0 : (0 : Int) ≤ (k : Int) := by omega
        have hlti : (k : Int) < (n : Int) := by omega
        have hw2 : IntKind.i64.wrap ((k : Int) - 1) = (k : Int) - 1 := wrap_pred k (by have h1 := HL.out; have h2 := HN.out; omega)
        clear hrb hro hI hjj
        cases on
        · have HNE : Hid (pairB 78 y s = nodeB false s y) := rfl
          go_upto_region 9 with (first
            | (go_at_call 32; refine (rOf_any vb _ _ HRB.out (by have h := HLE.out; omega)).mono ?_; rintro e w1 ⟨rfl, hb1⟩; rw [HYD.out]
               replace HI : Hid (Hs w gx gp x (.slice (some ⟨ba, offa, none⟩) n cps) sd en ix va w1) := HI.out.next hb1
               replace HRO : Hid (ReadsL w1 vo T) := HRO.out.below hb1
               clear hb1 HRB)
            | (with_reducible refine wpSeq_allocD ?_ ?_ ?_
               · rfl
               · rfl
               intro g8 w2 nn8)
            | (with_reducible refine wpSeq_storeD (.tmp 8) (.tmp 31) g8 zb32 y ?_ ?_ ?_ ?_ ?_ ?_ ?_ ?_
               · rfl
               · exact HYL.out
               · exact nn8.blk
               · rfl
               · rfl
               · rfl
               · rfl
               intro w3 h3))
          have N8 := nn8.set h3
          replace HI : Hid (Hs w gx gp x (.slice (some ⟨ba, offa, none⟩) n cps) sd en ix va w3) := HI.out.next N8.below
          replace HRO : Hid (ReadsL w3 vo T) := HRO.out.below N8.below
          have HB8 : Hid (Blk w3 g8 (cb y) 33) := N8.blk
          clear N8 nn8 h3
          have c0 : w3.cell? ⟨gp, 0, none⟩ = some (.slice (some ⟨ba, offa, none⟩) n cps) := HI.out.pb.cell 0
          have HSR : Hid (w3.rangeAt ba (offa + k * 32) (cb s)) := by
            obtain ⟨b', off', cp', hv', hy'⟩ := HI.out.rd.at HNP.out
            simp only [Value.slice.injEq, Option.some.injEq, Addr.mk.injEq] at hv'
            obtain ⟨⟨rfl, rfl, _⟩, _, _⟩ := hv'
            have := hy' k HKL.out
            rwa [← HSD.out] at this
          go_upto_region 10 with (first
            | (with_reducible refine wpSeq_loadAt (.tmp 35) ba (offa + k * 32) s ?_ ?_ ?_ ?_ ?_ ?_
               · exact HSL.out
               · exact HSR.out
               · with_reducible rfl
               · rfl
               · rfl)
            | (with_reducible refine wpSeq_allocD ?_ ?_ ?_
               · rfl
               · rfl
               intro g9 w4 nn9)
            | (with_reducible refine wpSeq_storeD (.tmp 9) (.tmp 36) g9 zb32 s ?_ ?_ ?_ ?_ ?_ ?_ ?_ ?_
               · rfl
               · exact HSL.out
               · exact nn9.blk
               · rfl
               · rfl
               · rfl
               · rfl
               intro w5 h5))
          have N9 := nn9.set h5
          replace HI : Hid (Hs w gx gp x (.slice (some ⟨ba, offa, none⟩) n cps) sd en ix va w5) := HI.out.next N9.below
          replace HRO : Hid (ReadsL w5 vo T) := HRO.out.below N9.below
          replace HB8 : Hid (Blk w5 g8 (cb y) 33) := HB8.out.below N9.below HB8.out.lt
          have HB9 : Hid (Blk w5 g9 (cb s) 33) := N9.blk
          clear N9 nn9 h5 HSR c0
          go_upto_region 13 with (first
            | (with_reducible refine wpSeq_loadD (.tmp 2) gx x ?_ ?_ ?_ ?_ ?_ ?_
               · exact HXL.out
               · exact HI.out.xb
               · with_reducible rfl
               · rfl
               · rfl)
            | (go_at_call 41; refine (sBit_any x HXL.out _ _).mono ?_; rintro e w6 ⟨rfl, hb6⟩; rw [HON.out]
               replace HI : Hid (Hs w gx gp x (.slice (some ⟨ba, offa, none⟩) n cps) sd en ix va w6) := HI.out.next hb6
               replace HRO : Hid (ReadsL w6 vo T) := HRO.out.below hb6
               replace HB8 : Hid (Blk w6 g8 (cb y) 33) := HB8.out.below hb6 HB8.out.lt
               replace HB9 : Hid (Blk w6 g9 (cb s) 33) := HB9.out.below hb6 HB9.out.lt
               clear hb6)
            | (with_reducible refine wpSeq_loadD (.tmp 8) g8 y ?_ ?_ ?_ ?_ ?_ ?_
               · exact HYL.out
               · exact HB8.out
               · with_reducible rfl
               · rfl
               · rfl)
            | (with_reducible refine wpSeq_loadD (.tmp 9) g9 s ?_ ?_ ?_ ?_ ?_ ?_
               · exact HSL.out
               · exact HB9.out
               · with_reducible rfl
               · rfl
               · rfl)
            | (go_at_call 55; refine (rNode_any y s HYL.out HSL.out _).mono ?_; rintro e w7 ⟨v7, rfl, hr7, hb7⟩
               obtain ⟨a7, n7, c7, hv7⟩ := hr7.form
               subst hv7
               replace HI : Hid (Hs w gx gp x (.slice (some ⟨ba, offa, none⟩) n cps) sd en ix va w7) := HI.out.next hb7
               replace HRO : Hid (ReadsL w7 vo T) := HRO.out.below hb7
               have HR7 : Hid (Reads w7 (.slice a7 n7 c7) (nodeB false s y)) := hr7
               clear hb7 hr7 HB8 HB9))
          go_wp2_with (first
            | (with_reducible refine wpSeq_appendL (.tmp 48) (.tmp 49) (.slice a7 n7 c7) vo (nodeB false s y) T HR7.out HRO.out HTP.out HTL.out ?_ ?_ ?_ ?_ ?_
               · rfl
               · rfl
               · rfl
               · rfl
               intro v8 w8 hr8 hb8
               replace HI : Hid (Hs w gx gp x (.slice (some ⟨ba, offa, none⟩) n cps) sd en ix va w8) := HI.out.next hb8
               have HR8 : Hid (Reads w8 (.slice a7 n7 c7) (nodeB false s y)) := HR7.out.below hb8
               have HO8 : Hid (ReadsL w8 v8 (nodeB false s y :: T)) := hr8
               clear hr8 hb8 HR7 HRO))
          go_roundw
          case rel =>
            refine ⟨k, (k : Int) - 1, by omega, rfl, rfl, ?_, ?_, HI.out⟩
            · rw [HST.out]; exact HR8.out
            · rw [HST.out]; exact HO8.out
          case measure => simp [intOf]
        · have HNE : Hid (pairB 78 s y = nodeB true s y) := rfl
          go_upto_region 9 with (first
            | (go_at_call 32; refine (rOf_any vb _ _ HRB.out (by have h := HLE.out; omega)).mono ?_; rintro e w1 ⟨rfl, hb1⟩; rw [HYD.out]
               replace HI : Hid (Hs w gx gp x (.slice (some ⟨ba, offa, none⟩) n cps) sd en ix va w1) := HI.out.next hb1
               replace HRO : Hid (ReadsL w1 vo T) := HRO.out.below hb1
               clear hb1 HRB)
            | (with_reducible refine wpSeq_allocD ?_ ?_ ?_
               · rfl
               · rfl
               intro g8 w2 nn8)
            | (with_reducible refine wpSeq_storeD (.tmp 8) (.tmp 31) g8 zb32 y ?_ ?_ ?_ ?_ ?_ ?_ ?_ ?_
               · rfl
               · exact HYL.out
               · exact nn8.blk
               · rfl
               · rfl
               · rfl
               · rfl
               intro w3 h3))
          have N8 := nn8.set h3
          replace HI : Hid (Hs w gx gp x (.slice (some ⟨ba, offa, none⟩) n cps) sd en ix va w3) := HI.out.next N8.below
          replace HRO : Hid (ReadsL w3 vo T) := HRO.out.below N8.below
          have HB8 : Hid (Blk w3 g8 (cb y) 33) := N8.blk
          clear N8 nn8 h3
          have c0 : w3.cell? ⟨gp, 0, none⟩ = some (.slice (some ⟨ba, offa, none⟩) n cps) := HI.out.pb.cell 0
          have HSR : Hid (w3.rangeAt ba (offa + k * 32) (cb s)) := by
            obtain ⟨b', off', cp', hv', hy'⟩ := HI.out.rd.at HNP.out
            simp only [Value.slice.injEq, Option.some.injEq, Addr.mk.injEq] at hv'
            obtain ⟨⟨rfl, rfl, _⟩, _, _⟩ := hv'
            have := hy' k HKL.out
            rwa [← HSD.out] at this
          go_upto_region 10 with (first
            | (with_reducible refine wpSeq_loadAt (.tmp 35) ba (offa + k * 32) s ?_ ?_ ?_ ?_ ?_ ?_
               · exact HSL.out
               · exact HSR.out
               · with_reducible rfl
               · rfl
               · rfl)
            | (with_reducible refine wpSeq_allocD ?_ ?_ ?_
               · rfl
               · rfl
               intro g9 w4 nn9)
            | (with_reducible refine wpSeq_storeD (.tmp 9) (.tmp 36) g9 zb32 s ?_ ?_ ?_ ?_ ?_ ?_ ?_ ?_
               · rfl
               · exact HSL.out
               · exact nn9.blk
               · rfl
               · rfl
               · rfl
               · rfl
               intro w5 h5))
          have N9 := nn9.set h5
          replace HI : Hid (Hs w gx gp x (.slice (some ⟨ba, offa, none⟩) n cps) sd en ix va w5) := HI.out.next N9.below
          replace HRO : Hid (ReadsL w5 vo T) := HRO.out.below N9.below
          replace HB8 : Hid (Blk w5 g8 (cb y) 33) := HB8.out.below N9.below HB8.out.lt
          have HB9 : Hid (Blk w5 g9 (cb s) 33) := N9.blk
          clear N9 nn9 h5 HSR c0
          go_upto_region 13 with (first
            | (with_reducible refine wpSeq_loadD (.tmp 2) gx x ?_ ?_ ?_ ?_ ?_ ?_
               · exact HXL.out
               · exact HI.out.xb
               · with_reducible rfl
               · rfl
               · rfl)
            | (go_at_call 41; refine (sBit_any x HXL.out _ _).mono ?_; rintro e w6 ⟨rfl, hb6⟩; rw [HON.out]
               replace HI : Hid (Hs w gx gp x (.slice (some ⟨ba, offa, none⟩) n cps) sd en ix va w6) := HI.out.next hb6
               replace HRO : Hid (ReadsL w6 vo T) := HRO.out.below hb6
               replace HB8 : Hid (Blk w6 g8 (cb y) 33) := HB8.out.below hb6 HB8.out.lt
               replace HB9 : Hid (Blk w6 g9 (cb s) 33) := HB9.out.below hb6 HB9.out.lt
               clear hb6)
            | (with_reducible refine wpSeq_loadD (.tmp 9) g9 s ?_ ?_ ?_ ?_ ?_ ?_
               · exact HSL.out
               · exact HB9.out
               · with_reducible rfl
               · rfl
               · rfl)
            | (with_reducible refine wpSeq_loadD (.tmp 8) g8 y ?_ ?_ ?_ ?_ ?_ ?_
               · exact HYL.out
               · exact HB8.out
               · with_reducible rfl
               · rfl
               · rfl)
            | (go_at_call 55; refine (rNode_any s y HSL.out HYL.out _).mono ?_; rintro e w7 ⟨v7, rfl, hr7, hb7⟩
               obtain ⟨a7, n7, c7, hv7⟩ := hr7.form
               subst hv7
               replace HI : Hid (Hs w gx gp x (.slice (some ⟨ba, offa, none⟩) n cps) sd en ix va w7) := HI.out.next hb7
               replace HRO : Hid (ReadsL w7 vo T) := HRO.out.below hb7
               have HR7 : Hid (Reads w7 (.slice a7 n7 c7) (nodeB true s y)) := hr7
               clear hb7 hr7 HB8 HB9))
          go_wp2_with (first
            | (with_reducible refine wpSeq_appendL (.tmp 48) (.tmp 49) (.slice a7 n7 c7) vo (nodeB true s y) T HR7.out HRO.out HTP.out HTL.out ?_ ?_ ?_ ?_ ?_
               · rfl
               · rfl
               · rfl
               · rfl
               intro v8 w8 hr8 hb8
               replace HI : Hid (Hs w gx gp x (.slice (some ⟨ba, offa, none⟩) n cps) sd en ix va w8) := HI.out.next hb8
               have HR8 : Hid (Reads w8 (.slice a7 n7 c7) (nodeB true s y)) := HR7.out.below hb8
               have HO8 : Hid (ReadsL w8 v8 (nodeB true s y :: T)) := hr8
               clear hr8 hb8 HR7 HRO))
          go_roundw
          case rel =>
            refine ⟨k, (k : Int) - 1, by omega, rfl, rfl, ?_, ?_, HI.out⟩
            · rw [HST.out]; exact HR8.out
            · rw [HST.out]; exact HO8.out
          case measure => simp [intOf]

end Go.Proofs.YtpeifpoeeopecaaDoor
/- The walk of two: are there two unlike texts of one digest at one place? (layer 8) -/
namespace Go.Proofs.YtpeifpoeeopecaaDoor
open Go.RowKit
set_option maxRecDepth 100000
/-- at no place ahead of k -/
def NoTwo (a b : List (List (BitVec 8))) (k : Nat) : Prop := ∀ j, j < k → ¬ (a.getD j [] ≠ b.getD j [] ∧ dig (a.getD j []) = dig (b.getD j []))
theorem NoTwo.zero (a b : List (List (BitVec 8))) : NoTwo a b 0 := fun j hj => by omega
theorem NoTwo.succ {a b : List (List (BitVec 8))} {k : Nat} (h : NoTwo a b k) (hk : ¬ (a.getD k [] ≠ b.getD k [] ∧ dig (a.getD k []) = dig (b.getD k []))) : NoTwo a b (k + 1) := fun j hj => by
  by_cases e : j = k
  · subst e; exact hk
  · exact h j (by omega)
theorem NoTwo.not {a b : List (List (BitVec 8))} {k : Nat} (h : NoTwo a b k) (hk : a.length ≤ k ∨ b.length ≤ k) : ¬ twoL a b := by
  rintro ⟨i, h1, h2, h3, h4⟩
  exact h i (by omega) ⟨h3, h4⟩
theorem ReadsL.get {w : World} {v : Value} {ls : List (List (BitVec 8))} (h : ReadsL w v ls) {k : Nat} (hk : k < ls.length) : ∃ (b off cp : Nat) (u : Value), v = .slice (some ⟨b, off, none⟩) ls.length cp ∧ (∀ wx, Below w.heap.size w wx → wx.cell? ⟨b, off + k, none⟩ = some u) ∧ (∀ wx, Below w.heap.size w wx → Reads wx u (ls.getD k [])) := by
  obtain ⟨ad, cp, hv, hc, hn, hx⟩ := h
  obtain ⟨b, off, rfl, hy⟩ := hx (by omega)
  obtain ⟨u, h1, h2⟩ := hy k hk
  exact ⟨b, off, cp, u, hv, fun wx hb => by rw [hb.cell (p := ⟨b, off + k, none⟩) (block_lt_of_cell h1)]; exact h1, fun wx hb => h2.below hb⟩
end Go.Proofs.YtpeifpoeeopecaaDoor
/- What the functions of layer 8 do (PfOps); few. -/
namespace Go.Proofs.YtpeifpoeeopecaaDoor
open Go.RowKit
set_option maxRecDepth 100000
/-- what Check tells, by what is proved -/
def chkV (o : Option (Option (List (BitVec 8)))) : List (BitVec 8) := (o.getD Option.none).getD zb32
def chkB (o : Option (Option (List (BitVec 8)))) : Bool := (o.getD Option.none).isSome
def chkE (o : Option (Option (List (BitVec 8)))) : Int := if o.isSome then 0 else 15
def chkR (o : Option (Option (List (BitVec 8)))) : Value := .tuple #[.agg (cb (chkV o)).toArray, .bool (chkB o), .int .i64 (chkE o)]
theorem checkW_len {r x : List (BitVec 8)} {sd : List (List (BitVec 8))} {en : Int} {ix va : List (BitVec 8)} (hv : va.length = 32) : (chkV (checkW r x sd en ix va)).length = 32 := by
  unfold checkW
  split
  · rfl
  · split
    · exact hv
    · rfl
/-- proof's functions, as the chapter says -/
structure PfOps : Prop where
  hashed : ∀ (W : World) (x : List (BitVec 8)) (vs : Value) (sd : List (List (BitVec 8))) (en : Int) (ix va : List (BitVec 8)), KOk W → x.length = 32 → ix.length = 32 → va.length = 32 → ReadsD W vs sd → sd.length ≤ 300 →
    Calls Tryd.prog 34 #[.agg (cb x).toArray, .agg (prfV vs en ix va).toArray] W fun e w' => ∃ v, e = .returned v ∧ ReadsL w' v (hashL x (endB en ix va) 0 sd) ∧ Below W.heap.size W w'
  root : ∀ (W : World) (x : List (BitVec 8)) (vs : Value) (sd : List (List (BitVec 8))) (en : Int) (ix va : List (BitVec 8)), KOk W → x.length = 32 → ix.length = 32 → va.length = 32 → ReadsD W vs sd → sd.length ≤ 300 →
    Calls Tryd.prog 58 #[.agg (cb x).toArray, .agg (prfV vs en ix va).toArray] W fun e w' => e = .returned (.agg (cb (topL x (endB en ix va) 0 sd)).toArray) ∧ Below W.heap.size W w'
  check : ∀ (W : World) (r x : List (BitVec 8)) (vs : Value) (sd : List (List (BitVec 8))) (en : Int) (ix va : List (BitVec 8)), KOk W → r.length = 32 → x.length = 32 → ix.length = 32 → va.length = 32 → ReadsD W vs sd → sd.length ≤ 300 →
    Calls Tryd.prog 18 #[.agg (cb r).toArray, .agg (cb x).toArray, .agg (prfV vs en ix va).toArray] W fun e w' => e = .returned (chkR (checkW r x sd en ix va)) ∧ Below W.heap.size W w'
end Go.Proofs.YtpeifpoeeopecaaDoor
/- The walk of the reference's Root (layer 8). -/
namespace Go.Proofs.YtpeifpoeeopecaaDoor
open Go.RowKit
set_option maxRecDepth 100000
theorem results_cell_tmps {fn : Func} {p u1 u2 : Tmp} {ty : TypeId} (h : fn.results = #[.cell p ty, .tmp u1, .tmp u2]) (tmps : Array Value) (P : Program) (w : World) :
    (results fn tmps).run P w = ((asAddr (tmps.getD p undef)).run P w).andThen fun a w₁ => ((loadVar ty a).run P w₁).andThen fun v w₂ => .ok (.tuple #[v, tmps.getD u1 undef, tmps.getD u2 undef]) w₂ := by
  simp only [results, h]
  simp [Sem.run_bind, Result.andThen]
theorem results_row_tmps {fn : Func} {p u1 u2 : Tmp} {ty : TypeId} (h : fn.results = #[.cell p ty, .tmp u1, .tmp u2]) (tmps : Array Value) (P : Program) (w : World) (g : Nat) (t : TypeId) (cs : List Value) (d : TypeDesc) (x1 x2 : Value)
    (hp : tmps.getD p undef = .pointer (some ⟨g, 0, none⟩)) (hx1 : tmps.getD u1 undef = x1) (hx2 : tmps.getD u2 undef = x2) (hg : Blk w g cs t) (hu : P.underlying ty = some d) (hd : d.isRow = true) (hi : (P.info? ty).map (·.size) = some cs.length) :
    (results fn tmps).run P w = .ok (.tuple #[.agg cs.toArray, x1, x2]) w := by
  rw [results_cell_tmps h, hp, hx1, hx2]
  simp only [asAddr, Sem.run_pure, Result.andThen_ok, run_loadVar_mid w g 0 ty cs d hg.range hu hd hi]
set_option maxRecDepth 100000 in
set_option maxHeartbeats 4000000 in
theorem bRoot_any (x : List (BitVec 8)) (vs : Value) (sd : List (List (BitVec 8))) (en : Int) (ix va : List (BitVec 8)) (w : World) (hx : x.length = 32) (hix : ix.length = 32) (hva : va.length = 32) (hR : ReadsD w vs sd) (hl : sd.length ≤ 1000) :
    Calls Tryd.prog 17 #[.agg (cb x).toArray, .agg (prfV vs en ix va).toArray] w fun e w' => e = .returned (.agg (cb (topL x (endB en ix va) 0 sd)).toArray) ∧ Below w.heap.size w w' := by
  have HXL : Hid (x.length = 32) := hx
  have HIL : Hid (ix.length = 32) := hix
  have HVL : Hid (va.length = 32) := hva
  have HL : Hid (sd.length ≤ 1000) := hl
  have H32 : Hid (∀ s ∈ sd, s.length = 32) := hR.2
  have HRD : Hid (ReadsD w vs sd) := hR
  obtain ⟨cs, HCS⟩ : ∃ c, Hid (c = prfV vs en ix va) := ⟨_, rfl⟩
  have HC6 : Hid (cs.length = 66) := by show _ = _; rw [HCS.out]; exact prfV_len hix hva
  obtain ⟨H, HHD⟩ : ∃ H, Hid (H = hashL x (endB en ix va) 0 sd) := ⟨_, rfl⟩
  have HHP : Hid (0 < H.length) := by show _ < _; rw [HHD.out, hashL_len]; omega
  have HLE : Hid ((H.getD 0 []).length ≤ 65) := by
    show _ ≤ _
    rw [HHD.out, show (hashL x (endB en ix va) 0 sd).getD 0 [] = (hashL x (endB en ix va) 0 sd).headD [] by cases hashL x (endB en ix va) 0 sd <;> rfl]
    exact hashL_le x _ (endB_le hix hva) _ _ hR.2 _ (hashL_head _ _ _ _)
  obtain ⟨r, HRT⟩ : ∃ r, Hid (r = topL x (endB en ix va) 0 sd) := ⟨_, rfl⟩
  have HRL : Hid (r.length = 32) := by show _ = _; rw [HRT.out]; exact topL_len _ _ _ _
  have HDG : Hid (dig (H.getD 0 []) = r) := by
    show _ = _
    rw [HRT.out, HHD.out, show (hashL x (endB en ix va) 0 sd).getD 0 [] = (hashL x (endB en ix va) 0 sd).headD [] by cases hashL x (endB en ix va) 0 sd <;> rfl]
    rfl
  have HCB : Hid (∀ W, ReadsD W vs sd → Calls Tryd.prog 35 #[.agg (cb x).toArray, .agg cs.toArray] W fun e w' => ∃ v, e = .returned v ∧ ReadsL w' v H ∧ Below W.heap.size W w') := fun W hh => by rw [HCS.out, HHD.out]; exact bHashed_any x vs sd en ix va W HXL.out HIL.out HVL.out hh HL.out
  rw [← HRT.out, ← HCS.out]
  clear hx hix hva hl hR
  go_enter Tryd.func17, Tryd.ntmps17
  go_wp2_with (first
    | (with_reducible refine wpSeq_boxD (.tmp 0) x ?_ ?_ ?_ ?_
       · rfl
       · rfl
       · rfl
       intro gx w1 nn1)
    | (with_reducible refine wpSeq_boxP (.tmp 1) cs ?_ ?_ ?_ ?_
       · rfl
       · rfl
       · rfl
       intro gp w2 nn2
       have HI : Hid (Hs w gx gp x vs sd en ix va w2) := by
         have hb := nn1.below.trans (nn2.below.mono nn1.below.size)
         refine ⟨nn1.blk.below nn2.below nn1.blk.lt, ?_, HRD.out.below hb, hb⟩
         rw [← HCS.out]; exact nn2.blk
       clear nn1 nn2 HRD)
    | (with_reducible refine wpSeq_allocD ?_ ?_ ?_
       · rfl
       · rfl
       intro gr w3 nn3
       have HGR : Hid (w.heap.size ≤ gr) := Nat.le_trans HI.out.bel.size nn3.ge
       replace HI : Hid (Hs w gx gp x vs sd en ix va w3) := HI.out.next nn3.below
       have HB : Hid (Blk w3 gr (cb zb32) 33) := nn3.blk
       clear nn3)
    | (with_reducible refine wpSeq_loadD (.tmp 2) gx x ?_ ?_ ?_ ?_ ?_ ?_
       · exact HXL.out
       · exact HI.out.xb
       · with_reducible rfl
       · rfl
       · rfl)
    | (with_reducible refine wpSeq_loadP (.tmp 3) gp cs ?_ ?_ ?_ ?_ ?_ ?_
       · exact HC6.out
       · rw [HCS.out]; exact HI.out.pb
       · rfl
       · rfl
       · rfl)
    | (go_at_call 35; refine (HCB.out _ HI.out.rd).mono ?_; rintro e w4 ⟨v4, rfl, hr4, hb4⟩
       replace HI : Hid (Hs w gx gp x vs sd en ix va w4) := HI.out.next hb4
       replace HB : Hid (Blk w4 gr (cb zb32) 33) := HB.out.below hb4 HB.out.lt
       obtain ⟨b4, off4, cp4, u4, hv4, hc4, hq4⟩ := hr4.get HHP.out
       obtain ⟨n4, HN4⟩ : ∃ n, Hid (n = H.length) := ⟨_, rfl⟩
       rw [← HN4.out] at hv4
       subst hv4
       have c4 : w4.cell? ⟨b4, off4, none⟩ = some u4 := hc4 _ (Below.refl _ _)
       have HR4 : Hid (Reads w4 u4 (H.getD 0 [])) := hq4 _ (Below.refl _ _)
       have hn4 : (0 : Int) < (n4 : Int) := by have h1 := HHP.out; have h2 := HN4.out; omega
       clear hr4 hb4 hc4 hq4)
    | (go_at_call 32; refine (rOf_any u4 _ _ HR4.out (by have h := HLE.out; omega)).mono ?_; rintro e w5 ⟨rfl, hb5⟩; rw [HDG.out]
       replace HI : Hid (Hs w gx gp x vs sd en ix va w5) := HI.out.next hb5
       replace HB : Hid (Blk w5 gr (cb zb32) 33) := HB.out.below hb5 HB.out.lt
       clear hb5 HR4 c4)
    | (with_reducible refine wpSeq_storeD (.tmp 4) (.tmp 10) gr zb32 r ?_ ?_ ?_ ?_ ?_ ?_ ?_ ?_
       · rfl
       · exact HRL.out
       · exact HB.out
       · rfl
       · rfl
       · rfl
       · rfl
       intro W9 h9))
  exact bodyPost_ret (v := .agg (cb r).toArray) (results_cell_row (by rfl) _ _ gr 33 _ (0, 0) _ rfl h9.blk Tryd.underlying33 rfl (by rw [List.size_toArray, cb_len, HRL.out]; exact info_digest)) rfl ⟨rfl, HI.out.bel.trans (h9.only.below HGR.out HI.out.bel.size)⟩
end Go.Proofs.YtpeifpoeeopecaaDoor
/- The walk of proof.Root (layer 8, the program's own). -/
namespace Go.Proofs.YtpeifpoeeopecaaDoor
open Go.RowKit Go.Shelf
set_option maxRecDepth 100000
attribute [local go_sem] Oper.semAt_some
theorem wpSeqIn_allocD {F : Fence} {n : Nat} {ops : Array Oper} {Q : Exit → Act → World → Prop} {rest : List Oper} {o : Oper} {a : Act} {w : World} (ho : o.op = .alloc 33) (hw : Region.wanted o (yielded ops a.tmps) = true)
    (h : ∀ g w', NewB zb32 w g w' → wpListIn F n Tryd.prog ops Q rest (a.put o.dst (.pointer (some ⟨g, 0, none⟩))) w') : wpListIn F n Tryd.prog ops Q (o :: rest) a w :=
  wpSeqIn_val _ _ hw (by rw [ho]; intro c hc; cases hc) (by simp [Oper.about, ho]) (allocDigest _ _ ho _) (h _ _ (NewB.of zb32 w))
/-- the frame's own blocks -/
structure Rw (w : World) (gx gp g4 : Nat) (x : List (BitVec 8)) (vs : Value) (sd : List (List (BitVec 8))) (en : Int) (ix va : List (BitVec 8)) (W : World) : Prop where
  h : Hs w gx gp x vs sd en ix va W
  zb : Blk W g4 (cb zb32) 33
  gz : w.heap.size ≤ g4
  k0 : KOk w
theorem Rw.next {w W W' : World} {gx gp g4 : Nat} {x : List (BitVec 8)} {vs : Value} {sd : List (List (BitVec 8))} {en : Int} {ix va : List (BitVec 8)} (r : Rw w gx gp g4 x vs sd en ix va W) (hb : Below W.heap.size W W') : Rw w gx gp g4 x vs sd en ix va W' := ⟨r.h.next hb, r.zb.below hb r.zb.lt, r.gz, r.k0⟩
theorem Rw.kk {w W : World} {gx gp g4 : Nat} {x : List (BitVec 8)} {vs : Value} {sd : List (List (BitVec 8))} {en : Int} {ix va : List (BitVec 8)} (r : Rw w gx gp g4 x vs sd en ix va W) : KOk W := r.k0.below r.h.bel r.k0.lt
set_option maxRecDepth 100000 in
set_option maxHeartbeats 16000000 in
theorem pfRoot_any (x : List (BitVec 8)) (vs : Value) (sd : List (List (BitVec 8))) (en : Int) (ix va : List (BitVec 8)) (w : World) (hK : KOk w) (hx : x.length = 32) (hix : ix.length = 32) (hva : va.length = 32) (hR : ReadsD w vs sd) (hl : sd.length ≤ 1000) :
    Calls Tryd.prog 58 #[.agg (cb x).toArray, .agg (prfV vs en ix va).toArray] w fun e w' => e = .returned (.agg (cb (topL x (endB en ix va) 0 sd)).toArray) ∧ Below w.heap.size w w' := by
  have HXL : Hid (x.length = 32) := hx
  have HIL : Hid (ix.length = 32) := hix
  have HVL : Hid (va.length = 32) := hva
  have HL : Hid (sd.length ≤ 1000) := hl
  have H32 : Hid (∀ s ∈ sd, s.length = 32) := hR.2
  have HK0 : Hid (KOk w) := hK
  obtain ⟨n, HN⟩ : ∃ n, Hid (n = sd.length) := ⟨_, rfl⟩
  obtain ⟨ads, cps, hvs⟩ := hR.slice
  rw [← HN.out] at hvs
  subst hvs
  obtain ⟨b0, HB0⟩ : ∃ b, Hid (b = endB en ix va) := ⟨_, rfl⟩
  have HLB : Hid (b0.length ≤ 65) := by show _ ≤ _; rw [HB0.out]; exact endB_le hix hva
  obtain ⟨r, HRT⟩ : ∃ r, Hid (r = topL x (endB en ix va) 0 sd) := ⟨_, rfl⟩
  have HRL : Hid (r.length = 32) := by show _ = _; rw [HRT.out]; exact topL_len _ _ _ _
  have HRU : Hid (dig (upT x b0 sd (backN sd.length 0)) = r) := by show _ = _; rw [up_top, HB0.out, HRT.out]
  rw [← HRT.out]
  obtain ⟨cs, HCS⟩ : ∃ c, Hid (c = prfV (.slice ads n cps) en ix va) := ⟨_, rfl⟩
  have HC6 : Hid (cs.length = 66) := by show _ = _; rw [HCS.out]; exact prfV_len hix hva
  have HEND : Hid (∀ W, Calls Tryd.prog 49 #[.agg cs.toArray] W fun e w' => ∃ v, e = .returned v ∧ Fresh W.heap.size w' v b0 ∧ Below W.heap.size W w') := fun W => by rw [HCS.out, HB0.out]; exact end_any _ en ix va W hix hva ⟨_, _, _, rfl⟩
  rw [← HCS.out]
  have HRD : Hid (ReadsD w (.slice ads n cps) sd) := hR
  clear hx hix hva hl hR hK HRT
  refine (callsIn_wide (n := 4)).1 ?_
  refine callsIn_of_wp_marks Tryd.func58 rfl trivial ?_ rfl
  simp only [Tryd.ntmps58, List.size_toArray, List.length_cons, List.length_nil, Nat.reduceAdd, Nat.reduceSub, Array.replicate_succ, Array.replicate_zero, List.push_toArray, List.append_toArray, List.nil_append, List.cons_append]
  refine wpIn_wide.2 ?_
  go_upto_region 1 with (first
    | (with_reducible refine wpSeq_boxD (.tmp 0) x ?_ ?_ ?_ ?_
       · rfl
       · rfl
       · rfl
       intro gx w1 nn1)
    | (with_reducible refine wpSeq_boxP (.tmp 1) cs ?_ ?_ ?_ ?_
       · rfl
       · rfl
       · rfl
       intro gp w2 nn2)
    | (with_reducible refine wpSeq_allocD ?_ ?_ ?_
       · rfl
       · rfl
       intro g4 w3 nn3
       have HI : Hid (Rw w gx gp g4 x (.slice ads n cps) sd en ix va w3) := by
         have hb := nn1.below.trans (nn2.below.mono nn1.below.size)
         have hb3 := hb.trans (nn3.below.mono hb.size)
         refine ⟨⟨(nn1.blk.below nn2.below nn1.blk.lt).below nn3.below (nn1.blk.below nn2.below nn1.blk.lt).lt, ?_, HRD.out.below hb3, hb3⟩, nn3.blk, Nat.le_trans hb.size nn3.ge, HK0.out⟩
         rw [← HCS.out]; exact nn2.blk.below nn3.below nn2.blk.lt
       clear nn1 nn2 nn3 HRD HK0))
  have hcp : ∀ W, Rw w gx gp g4 x (.slice ads n cps) sd en ix va W → Blk W gp cs 36 := fun W h => by rw [HCS.out]; exact h.h.pb
  have HCP : Hid (∀ W, Rw w gx gp g4 x (.slice ads n cps) sd en ix va W → Blk W gp cs 36) := hcp
  clear hcp
  go_upto_region 2 with (first
    | (with_reducible refine wpSeq_loadP (.tmp 3) gp cs ?_ ?_ ?_ ?_ ?_ ?_
       · exact HC6.out
       · exact HCP.out _ HI.out
       · rfl
       · rfl
       · rfl)
    | (go_at_call 49; refine (HEND.out _).mono ?_; rintro e v0 ⟨v5, rfl, hf5, hb5⟩
       obtain ⟨ab, nb, cbb, hv5⟩ := hf5.rd.form
       subst hv5
       replace HI : Hid (Rw w gx gp g4 x (.slice ads n cps) sd en ix va v0) := HI.out.next hb5
       have HF5 : Hid (Reads v0 (.slice ab nb cbb) b0) := hf5.rd
       clear hf5 hb5))
  obtain ⟨gB, HGB⟩ : ∃ z, Hid (z = v0.heap.size) := ⟨_, rfl⟩
  obtain ⟨wB, HWB⟩ : ∃ z, Hid (z = v0.alloc (.cells [Value.slice ab nb cbb].toArray 23)) := ⟨_, rfl⟩
  change Code.wp _ _ _ _ (v0.alloc (.cells [Value.slice ab nb cbb].toArray 23))
  rw [← HWB.out]
  have e1 : (some ⟨v0.heap.size, 0, none⟩ : Option Addr) = some ⟨gB, 0, none⟩ := by rw [HGB.out]
  simp only [e1]
  clear e1
  have HBB : Hid (Blk wB gB [.slice ab nb cbb] 23) := by rw [HWB.out, HGB.out]; exact Blk.new _ _ _
  have HBL : Hid (Below gB v0 wB) := by rw [HWB.out, HGB.out]; exact below_alloc _ _
  have HSZ : Hid (wB.heap.size = gB + 1) := by show _ = _; rw [HWB.out, HGB.out]; simp
  have c0 : wB.cell? ⟨gp, 0, none⟩ = some (.slice ads n cps) := (HI.out.h.pb.below HBL.out (by rw [HGB.out]; exact HI.out.h.pb.lt)).cell 0
  clear HWB
  go_upto_region 3 with (first
    | (go_at_call 50; refine (back_any _ ads n cps rfl _).mono ?_; rintro e v1 ⟨gs, rfl, hbs, hgs, hb1, hz1⟩
       have HSB : Hid (Blk v1 gs [.slice ads n cps] 34) := hbs
       have HGS : Hid (gs = gB + 1) := by show _ = _; rw [hgs, HSZ.out]
       have HZ1 : Hid (v1.heap.size = gB + 2) := by show _ = _; rw [hz1, HSZ.out]
       have HI0 : Hid (UpI v0 gB gs (.slice ads n cps) x b0 sd [] v1) := ⟨HBL.out.trans (hb1.mono (by rw [HSZ.out]; omega)), by rw [HZ1.out]; exact Nat.le_refl _, ⟨.slice ab nb cbb, HBB.out.below hb1 HBB.out.lt, (HF5.out.below (by rw [← HGB.out]; exact HBL.out)).below hb1⟩, hbs⟩
       clear hbs hgs hb1 hz1))
  clear c0 HBB HF5
  have HGL : Hid (gx < gB ∧ gp < gB ∧ g4 < gB) := by show _ ∧ _; rw [HGB.out]; exact ⟨HI.out.h.xb.lt, HI.out.h.pb.lt, HI.out.zb.lt⟩
  refine (wpIn_wide (n := 4)).1 ?_
  refine wpIn_rangeFunc_ownH (F := Fence.wide) (α := Nat) rfl (by omega) (gf := 73) (lb := #[.pointer (some ⟨gs, 0, none⟩)]) rfl trivial (enters_of Tryd.func73 (by kernel_rfl) rfl)
    (back_stops 3 (v0 := v0) (n₀ := gB) HGB.out.symm HI.out.h.rd HL.out v1 HI0.out.bel (by have := HI0.out.ge; omega) HSB.out) KpB.trans (fun W l o o' h1 h2 h3 h4 => KpB.put (w := v1) (by have := HZ1.out; omega) (by have h1 := HZ1.out; have h2 := HGS.out; omega) W l o o' h1 h2 h3 h4) (Below.refl _ _) (fun _ => rfl)
    (UpI v0 gB gs (.slice ads n cps) x b0 sd) (fun _ _ _ => False)
    (UpI.own (by have := HZ1.out; omega)) (fun c s X Y row hs _ _ => hs.elim) HI0.out
    (fun k a' W => ∃ gv, a' = { tmps := #[.agg (cb x).toArray, .agg cs.toArray, .pointer (some ⟨gx, 0, none⟩), .pointer (some ⟨gp, 0, none⟩), .pointer (some ⟨g4, 0, none⟩), .pointer (some ⟨gB, 0, none⟩), .int .i64 (k : Int), .pointer (some ⟨gv, 0, none⟩), .agg cs.toArray, .slice ab nb cbb, .pointer (some ⟨gp, 0, none⟩), .slice ads n cps, .func (.func 73) #[] #[.pointer (some ⟨gs, 0, none⟩)], .int .i64 (k : Int), .agg (cb (sd.getD k zb32)).toArray, undef, undef, undef, undef, undef, undef, undef, undef], defers := [] } ∧ Blk W gv (cb (sd.getD k zb32)) 33) ?hax ?assign ?body ?done ?stop
  case hax =>
    rintro k a' _ X Y row ⟨gv, h1, h2⟩ hg hr
    exact ⟨gv, h1, blk_own (β := Unit) gv (fun _ => cb (sd.getD k zb32)) _ () X Y row h2 hg (fun r e => (hr r e).2)⟩
  case assign =>
    intro lab pre k W K hI hK
    have HIW : Hid (UpI v0 gB gs (.slice ads n cps) x b0 sd pre W) := hI
    have HS32 : Hid ((sd.getD k zb32).length = 32) := getD_zb H32.out k
    have HKK : Aside (∀ a' W', KeepsFrom v1.heap.size W W' → KpB gB gs W W' → UpI v0 gB gs (.slice ads n cps) x b0 sd pre W' → (∃ gv, a' = { tmps := #[.agg (cb x).toArray, .agg cs.toArray, .pointer (some ⟨gx, 0, none⟩), .pointer (some ⟨gp, 0, none⟩), .pointer (some ⟨g4, 0, none⟩), .pointer (some ⟨gB, 0, none⟩), .int .i64 (k : Int), .pointer (some ⟨gv, 0, none⟩), .agg cs.toArray, .slice ab nb cbb, .pointer (some ⟨gp, 0, none⟩), .slice ads n cps, .func (.func 73) #[] #[.pointer (some ⟨gs, 0, none⟩)], .int .i64 (k : Int), .agg (cb (sd.getD k zb32)).toArray, undef, undef, undef, undef, undef, undef, undef, undef], defers := [] } ∧ Blk W' gv (cb (sd.getD k zb32)) 33) → K a' W') := hK
    clear hI hK
    obtain ⟨s, HSE⟩ : ∃ s, Hid (s = sd.getD k zb32) := ⟨_, rfl⟩
    rw [← HSE.out] at HS32
    simp only [encsS, ← HSE.out] at HKK ⊢
    simp only [List.zip_toArray, List.zip_cons_cons, List.zip_nil_right, List.size_toArray, List.length_cons, List.length_nil, Nat.reduceAdd, Array.foldl]
    gi_wp2_with (first
      | (with_reducible refine wpSeqIn_storeD (.tmp 7) (.tmp 14) gv zb32 s ?_ ?_ ?_ ?_ ?_ ?_ ?_ ?_
         · rfl
         · exact HS32.out
         · exact HN1.out.blk
         · rfl
         · rfl
         · rfl
         · rfl
         intro W2 s2 _
         have HC1 : Hid (Blk W2 gv (cb s) 33) := s2.blk
         have HQ1 : Hid (Below W.heap.size W W2) := HN1.out.below.trans (s2.only.below HN1.out.ge HN1.out.below.size)
         clear s2 HN1)
      | (with_reducible refine wpSeqIn_allocD ?_ ?_ ?_
         · rfl
         · rfl
         intro gv W1 n1
         have HN1 : Hid (NewB zb32 W gv W1) := n1
         clear n1))
    exact HKK.out _ W2 ((keepsOthers_of_below HQ1.out).from _) ⟨HQ1.out.mono (by have := HIW.out.ge; omega), HQ1.out.block gs HIW.out.sb.lt⟩ (HIW.out.next HQ1.out) ⟨gv, rfl, HC1.out⟩
  case body =>
    rintro lab pre k a' W _ _ hI ⟨gv, rfl, hbv⟩ hlen
    have HIW : Hid (UpI v0 gB gs (.slice ads n cps) x b0 sd pre W) := hI
    obtain ⟨s, HSE⟩ : ∃ s, Hid (s = sd.getD k zb32) := ⟨_, rfl⟩
    have HSL : Hid (s.length = 32) := by show _ = _; rw [HSE.out]; exact getD_zb H32.out k
    obtain ⟨on, HON⟩ : ∃ o, Hid (o = bitI x (k : Int)) := ⟨_, rfl⟩
    obtain ⟨T, HTE⟩ : ∃ t, Hid (t = upT x b0 sd pre) := ⟨_, rfl⟩
    have HTL : Hid (T.length ≤ 65) := by show _ ≤ _; rw [HTE.out]; exact upT_le HLB.out H32.out pre
    have HUP : Hid (nodeB on s (dig T) = upT x b0 sd (pre ++ [k])) := by show _ = _; rw [upT_snoc, HON.out, HSE.out, HTE.out]
    obtain ⟨vb, hb1, hb2⟩ := hI.bb
    obtain ⟨a1, n1, c1, hv1⟩ := hb2.form
    subst hv1
    rw [← HTE.out] at hb2
    have HVB : Hid (Blk W.drew gB [.slice a1 n1 c1] 23) := hb1.drew
    have HRB : Hid (Reads W.drew (.slice a1 n1 c1) T) := reads_drew hb2
    have HXB : Hid (Blk W.drew gx (cb x) 33) := (HI.out.h.xb.below hI.bel HGL.out.1).drew
    have HKW : Hid (KOk W.drew) := HI.out.kk.below (((by rw [← HGB.out]; exact hI.bel) : Below v0.heap.size v0 W).drew) HI.out.kk.lt
    rw [← HSE.out] at hbv
    have HSV : Hid (Blk W.drew gv (cb s) 33) := hbv.drew
    have HCB : Hid (∀ W', Calls Tryd.prog 52 #[.agg (cb x).toArray, .int .i64 (k : Int)] W' fun e w' => e = .returned (.bool on) ∧ Below W'.heap.size W' w') := fun W' => by rw [HON.out]; exact pBit_any x HXL.out _ W'
    have cb0 : W.drew.cell? ⟨gB, 0, none⟩ = some (.slice a1 n1 c1) := HVB.out.cell 0
    simp only [← HSE.out]
    clear hI hbv hb1 hb2 hlen
    gi_wp2_with fail
    refine wpIn_round_held (S := fun wx => Blk wx gv (cb s) 33 ∧ Blk wx gx (cb x) 33) (by kernel_rfl) (by kernel_rfl) (by rintro ⟨_, _, h⟩; exact h) ⟨HSV.out, HXB.out⟩ ?_
    intro hS
    refine wpAnyH_take (i := 1) (v := .agg (cb s).toArray) rfl (by kernel_rfl) (by kernel_rfl) (by kernel_rfl) (fun _ _ _ h => h) (Or.inl ⟨by rfl, fun wx hx => by exact loadDigest _ gv s HSL.out hx.1 rfl rfl⟩) hS ?_
    simp only [Act.put, List.getElem_toArray, List.getElem_cons_succ, List.getElem_cons_zero, List.setIfInBounds_toArray, List.set_cons_zero, List.set_cons_succ]
    refine wpAnyH_take (i := 2) (v := .agg (cb x).toArray) rfl (by kernel_rfl) (by kernel_rfl) (by kernel_rfl) (fun _ _ _ h => h) (Or.inl ⟨by rfl, fun wx hx => by exact loadDigest _ gx x HXL.out hx.2 rfl rfl⟩) hS ?_
    simp only [Act.put, List.getElem_toArray, List.getElem_cons_succ, List.getElem_cons_zero, List.setIfInBounds_toArray, List.set_cons_zero, List.set_cons_succ]
    refine wpAnyH_take (i := 3) (v := .int .i64 (k : Int)) rfl (by kernel_rfl) (by kernel_rfl) (by kernel_rfl) (fun _ _ _ h => h) (Or.inl ⟨by rfl, fun wx hx => by simp [go_sem]⟩) hS ?_
    simp only [Act.put, List.getElem_toArray, List.getElem_cons_succ, List.getElem_cons_zero, List.setIfInBounds_toArray, List.set_cons_zero, List.set_cons_succ]
    refine wpAnyH_commC 0 4 (.slice a1 n1 c1) (f := 52) (args := #[.agg (cb x).toArray, .int .i64 (k : Int)]) (by kernel_rfl) rfl rfl (by rfl) (by rfl) (fun _ => by rfl) (by rfl) (by simp [go_sem, cb0]) (by simp [go_sem]) (by simp [go_sem]) (HCB.out _) (by kernel_rfl) (by kernel_rfl) (fun _ => by rfl) (by rfl) hS ?_
    rintro e y1 ⟨rfl, hq1⟩
    have cb1 : y1.cell? ⟨gB, 0, none⟩ = some (.slice a1 n1 c1) := (HVB.out.below hq1 HVB.out.lt).cell 0
    replace hS : Blk y1 gv (cb s) 33 ∧ Blk y1 gx (cb x) 33 := ⟨HSV.out.below hq1 HSV.out.lt, HXB.out.below hq1 HXB.out.lt⟩
    refine ⟨.bool on, rfl, hS, by simp [go_sem, cb1], ?_⟩
    simp only [Act.put, List.getElem_toArray, List.getElem_cons_succ, List.getElem_cons_zero, List.setIfInBounds_toArray, List.set_cons_zero, List.set_cons_succ]
    refine wpAnyH_enter 5 (by kernel_rfl) rfl (by rfl) (f := 51) (args := #[.slice a1 n1 c1, .agg (cb s).toArray, .bool on]) (by simp [go_sem]) (above_any _ T s on y1 (HKW.out.below hq1 HKW.out.lt) (HRB.out.below hq1) HTL.out HSL.out) ?_
    rintro e y2 ⟨v7, rfl, hf7, hq2⟩
    obtain ⟨a7, n7, c7, hv7⟩ := hf7.rd.form
    subst hv7
    replace hS : Blk y2 gv (cb s) 33 ∧ Blk y2 gx (cb x) 33 := ⟨hS.1.below hq2 hS.1.lt, hS.2.below hq2 hS.2.lt⟩
    refine ⟨_, rfl, hS, ?_⟩
    simp only [Act.put, List.getElem_toArray, List.getElem_cons_succ, List.getElem_cons_zero, List.setIfInBounds_toArray, List.set_cons_zero, List.set_cons_succ]
    have HQ2 : Hid (Below W.drew.heap.size W.drew y2) := hq1.trans (hq2.mono hq1.size)
    have HF7 : Hid (Fresh W.heap.size y2 (.slice a7 n7 c7) (upT x b0 sd (pre ++ [k]))) := by rw [← HUP.out]; exact hf7.mono hq1.size
    have hb5 : Blk y2 gB [.slice a1 n1 c1] 23 := HVB.out.below HQ2.out HVB.out.lt
    have cb2 : y2.cell? ⟨gB, 0, none⟩ = some (.slice a1 n1 c1) := hb5.cell 0
    have fb2 : y2.frozen? ⟨gB, 0, none⟩ = false := hb5.frozen 0
    have hgv : gv ≠ gB := fun e => by have h1 := HSV.out; have h2 := HVB.out; unfold Blk at h1 h2; rw [e, h2] at h1; simp only [Option.some.injEq, Obj.cells.injEq] at h1; exact absurd h1.2.1 (by decide)
    replace hS : Blk (y2.setCell ⟨gB, 0, none⟩ (.slice a7 n7 c7)) gv (cb s) 33 ∧ Blk (y2.setCell ⟨gB, 0, none⟩ (.slice a7 n7 c7)) gx (cb x) 33 := ⟨hS.1.other _ _ hgv, hS.2.other _ _ (by have := HGL.out.1; show gx ≠ gB; omega)⟩
    refine wpAnyH_skip 6 (y2.setCell ⟨gB, 0, none⟩ (.slice a7 n7 c7)) (by kernel_rfl) rfl (by rfl) (by simp [go_sem, cb2, fb2]) hS ?_
    simp only [Act.put]
    refine wpAnyH_done (by kernel_rfl) ?_ _
    exact HIW.out.step (by have := HGS.out; omega) HQ2.out HF7.out
  case done =>
    rintro D ys W hD hys hI hK
    subst hys
    obtain ⟨vb, hb1, hb2⟩ := hI.bb
    obtain ⟨a1, n1, c1, hv1⟩ := hb2.form
    subst hv1
    have HD : Hid (w.heap.size ≤ D) := Nat.le_trans (Nat.le_trans HI.out.h.bel.size (by rw [← HGB.out]; have := HZ1.out; omega)) hD
    have hbv : Below v0.heap.size v0 W := by rw [← HGB.out]; exact hI.bel
    have HIW : Hid (Rw w gx gp g4 x (.slice ads n cps) sd en ix va W) := HI.out.next hbv
    have HRB : Hid (Reads W (.slice a1 n1 c1) (upT x b0 sd (backN sd.length 0))) := hb2
    have HTL : Hid ((upT x b0 sd (backN sd.length 0)).length ≤ 65) := upT_le HLB.out H32.out _
    have cb0 : W.cell? ⟨gB, 0, none⟩ = some (.slice a1 n1 c1) := hb1.cell 0
    have HKD : Hid (W.heap[D]? = some (.deferred (some []))) := hK
    clear hI hb1 hb2 hbv hK hD
    gi_wp2
    go_wp2_with (first
      | (go_at_call 30; refine (tOf_any _ _ _ HIW.out.kk HRB.out (by have := HTL.out; omega)).mono ?_; rintro e W2 ⟨rfl, hb2⟩; rw [HRU.out]
         replace HIW : Hid (Rw w gx gp g4 x (.slice ads n cps) sd en ix va W2) := HIW.out.next hb2
         replace HKD : Hid (W2.heap[D]? = some (.deferred (some []))) := (keepsOthers_of_below hb2).same D _ HKD.out rfl
         clear hb2 cb0)
      | (with_reducible refine wpSeq_storeD (.tmp 4) (.tmp 22) g4 zb32 r ?_ ?_ ?_ ?_ ?_ ?_ ?_ ?_
         · rfl
         · exact HRL.out
         · exact HIW.out.zb
         · rfl
         · rfl
         · rfl
         · rfl
         intro W3 h3
         have HKD3 : Hid (W3.heap[D]? = some (.deferred (some []))) := by
           show _ = _
           rw [h3.only.block D (fun e => by have h := HIW.out.zb; unfold Blk at h; rw [← e, HKD.out] at h; cases h) (Array.getElem?_eq_some_iff.1 HKD.out).1]
           exact HKD.out
         have HB3 : Hid (Below w.heap.size w W3) := HIW.out.h.bel.trans (h3.only.below HIW.out.gz HIW.out.h.bel.size)
         have HR3 : Hid (Blk W3 g4 (cb r) 33) := h3.blk
         clear h3))
    all_goals
      refine ⟨by simp, .inl ⟨_, _, rfl, run_takeDeferred HKD3.out, ?_⟩⟩
      refine ⟨.agg (cb r).toArray, results_cell_row (by rfl) _ _ g4 33 _ (0, 0) _ rfl (HR3.out.put HKD3.out rfl) Tryd.underlying33 rfl (by rw [List.size_toArray, cb_len, HRL.out]; exact info_digest), rfl, HB3.out.trans (belowK_b (w := w) (Nat.le_refl _) _ D _ _ HD.out HKD3.out rfl rfl)⟩
  case stop =>
    rintro D c pre W _ _ hX _
    exact hX.elim
end Go.Proofs.YtpeifpoeeopecaaDoor
/- The list of what is hashed, in memory, while it grows. -/
namespace Go.Proofs.YtpeifpoeeopecaaDoor
open Go.RowKit
set_option maxRecDepth 100000
/-- the slice v, the call's own from block base on, holds the texts' slices us -/
abbrev OwnT (w : World) (base : Nat) (v : Value) (us : List Value) : Prop := w.ownsRow base 23 1 v us.length us
theorem OwnT.same {w w' : World} {base : Nat} {v : Value} {vs : List Value} (h : OwnT w base v vs) (hs : ∀ k, v.ownBlock = some k → w'.heap[k]? = w.heap[k]?) : OwnT w' base v vs := by
  obtain ⟨h1, h2⟩ := h
  refine ⟨h1, ?_⟩
  rcases h2 with h2 | ⟨g, cap, cur, rfl, hg, hh, r⟩
  · exact Or.inl h2
  · exact Or.inr ⟨g, cap, cur, rfl, hg, by rw [hs g rfl]; exact hh, r⟩
theorem OwnT.lt {w : World} {base : Nat} {v : Value} {us : List Value} (h : OwnT w base v us) : ∀ k, v.ownBlock = some k → base ≤ k ∧ k < w.heap.size := World.ownsRow.lt h
/-- a row of texts is no block of another type -/
theorem OwnT.ne {w : World} {base g : Nat} {v : Value} {us cs : List Value} {t : TypeId} (h : OwnT w base v us) (hb : Blk w g cs t) (ht : t ≠ 23) : ∀ k, v.ownBlock = some k → k ≠ g := by
  obtain ⟨_, h2⟩ := h
  intro k hk he
  subst he
  rcases h2 with ⟨rfl, _⟩ | ⟨g2, cap, cur, rfl, hg, hh, _⟩
  · simp [Value.ownBlock] at hk
  · simp only [Value.ownBlock, Option.some.injEq] at hk
    subst hk
    unfold Blk at hb
    rw [hh] at hb
    simp only [Option.some.injEq, Obj.cells.injEq] at hb
    exact ht hb.2.1.symm
theorem wpSeq_skip8 {P : Program} {ops : Array Oper} {Q : Exit → Act → World → Prop} {rest : List Oper} {o : Oper} {a : Act} {w : World} (w' : World) (hw : Region.wanted o (yielded ops a.tmps) = true)
    (he : (execOp a.eval o).run P w = .ok .skip w') (h : wpList P ops Q rest (a.put o.dst undef) w') : wpList P ops Q (o :: rest) a w := by
  unfold wpList
  simp only [hw, if_true]
  left
  unfold Oper.wp
  rw [he, Oper.upon_skip]
  exact h
/-- one text more behind the own slice v -/
theorem wpSeq_appendT {ops : Array Oper} {Q : Exit → Act → World → Prop} {rest : List Oper} {o : Oper} {a : Act} {w : World} (s x : Operand) (base : Nat) (v u : Value) (us : List Value) (g : Nat)
    (hown : OwnT w base v us) (hu : w.cell? ⟨g, 0, none⟩ = some u) (h1 : u.oneCell' = true) (hl : us.length < 1000000) (hbase : base ≤ w.heap.size)
    (ho : o.op = .call { callee := .builtin .append, args := #[s, x], argTypes := #[22, 22] }) (hs : a.eval s = v) (hx : a.eval x = .slice (some ⟨g, 0, none⟩) 1 1) (hgd : o.guard = none)
    (h : ∀ v' w', OwnT w' base v' (us ++ [u]) → w.grownBy w' v.ownBlock → (v'.ownBlock = v.ownBlock ∨ v'.ownBlock = some w.heap.size) → wpList Tryd.prog ops Q rest (a.put o.dst v') w') : wpList Tryd.prog ops Q (o :: rest) a w := by
  obtain ⟨i0, hi, hz0, hz1, hz2⟩ := info_parts Tryd.infobs8
  refine wpList_append_own_at w hgd s x 22 ho base 23 i0 (.slice none 0 0) 1 24 Tryd.underlying22 hi hz0 hz1 hz2 rfl (by decide) v us.length us hs hown ⟨g, 0, none⟩ 1 1 [u] hx rfl ?_ ?_ (by unfold maxLen; omega) (by omega) hbase ?_
  · intro j u' hj
    match j, hj with
    | 0, hj => simp at hj; subst hj; simpa [Addr.add] using hu
  · intro u' hu'; simp at hu'; subst hu'; exact h1
  · intro v' w' h2 h3 _ h5
    exact h v' w' (by unfold OwnT; rw [List.length_append]; exact h2) h3 h5
/-- a text's block is none of the loop's own -/
def Aw (gB gH gs : Nat) (vh u : Value) (y : World) : Prop := ∀ k, u.ownBlock = some k → some k ≠ vh.ownBlock ∧ k ≠ gB ∧ k ≠ gH ∧ k ≠ gs ∧ k < y.heap.size
def GoodH (gB gH gs : Nat) (y : World) (vh : Value) (us : List Value) (ls : List (List (BitVec 8))) : Prop := us.length = ls.length ∧ ∀ j u, us[j]? = some u → Reads y u (ls.getD j []) ∧ Aw gB gH gs vh u y
/-- where Hashed's loop stands -/
structure UpH (v0 : World) (gB gH gs : Nat) (vs : Value) (x b0 : List (BitVec 8)) (sd : List (List (BitVec 8))) (pre : List Nat) (W : World) : Prop where
  u : UpI v0 gB gs vs x b0 sd pre W
  hh : ∃ vh us, Blk W gH [vh] 22 ∧ OwnT W (gB + 1) vh us ∧ GoodH gB gH gs W vh us (upL x b0 sd pre)
theorem OwnT.kept {X Y : World} {base : Nat} {v : Value} {us : List Value} {row : Option Nat} (h : OwnT X base v us) (hg : X.grownBy Y row) (hr : ∀ r, row = some r → ∃ o : Obj, X.heap[r]? = some o ∧ o.isCells = false) : OwnT Y base v us := by
  have hlt := h.lt
  obtain ⟨h1, h2⟩ := h
  refine ⟨h1, ?_⟩
  rcases h2 with h2 | ⟨g, cap, cur, rfl, hb, hh, r⟩
  · exact Or.inl h2
  · refine Or.inr ⟨g, cap, cur, rfl, hb, ?_, r⟩
    rw [hg.block g (hlt g rfl).2 (fun e => ?_)]
    · exact hh
    · obtain ⟨o, ho, hc⟩ := hr g e.symm
      rw [hh] at ho; cases ho; cases hc
theorem Aw.mono {gB gH gs : Nat} {vh u : Value} {y y' : World} (h : Aw gB gH gs vh u y) (hs : y.heap.size ≤ y'.heap.size) : Aw gB gH gs vh u y' := fun k hk => by
  obtain ⟨h1, h2, h3, h4, h5⟩ := h k hk
  exact ⟨h1, h2, h3, h4, by omega⟩
theorem UpH.own {v0 : World} {gB gH gs B : Nat} {vs : Value} {x b0 : List (BitVec 8)} {sd : List (List (BitVec 8))} (hB : gB ≤ B) : OwnFrom B (UpH v0 gB gH gs vs x b0 sd) := fun s X Y row hs hg hr => by
  obtain ⟨vh, us, h1, h2, h3⟩ := hs.hh
  exact ⟨UpI.own hB s X Y row hs.u hg hr, vh, us, blk_own (β := Unit) gH (fun _ => [vh]) _ () X Y row h1 hg (fun r e => (hr r e).2), h2.kept hg (fun r e => (hr r e).2), h3.1, fun j u hj => ⟨(h3.2 j u hj).1.kept hg (fun r e => (hr r e).2), (h3.2 j u hj).2.mono hg.size⟩⟩
theorem UpH.next {v0 : World} {gB gH gs : Nat} {vs : Value} {x b0 : List (BitVec 8)} {sd : List (List (BitVec 8))} {pre : List Nat} {W W' : World} (h : UpH v0 gB gH gs vs x b0 sd pre W) (hb : Below W.heap.size W W') : UpH v0 gB gH gs vs x b0 sd pre W' := by
  obtain ⟨vh, us, h1, h2, h3⟩ := h.hh
  exact ⟨h.u.next hb, vh, us, h1.below hb h1.lt, h2.same (fun k hk => hb.block k (h2.lt k hk).2), h3.1, fun j u hj => ⟨(h3.2 j u hj).1.below hb, (h3.2 j u hj).2.mono hb.size⟩⟩
/-- behind the text's making, ahead of its joining the list -/
structure UpM (v0 : World) (gB gH gs : Nat) (vs : Value) (x b0 : List (BitVec 8)) (sd : List (List (BitVec 8))) (pre : List Nat) (k : Nat) (W : World) (vh : Value) (us : List Value) (v : Value) (y : World) : Prop where
  u : UpI v0 gB gs vs x b0 sd (pre ++ [k]) y
  bb : Blk y gB [v] 23
  rb : Reads y v (upT x b0 sd (pre ++ [k]))
  hb : Blk y gH [vh] 22
  own : OwnT y (gB + 1) vh us
  good : GoodH gB gH gs y vh us (upL x b0 sd pre)
  aw : Aw gB gH gs vh v y
  kp : KpB gB gs W y
  ko : KeepsOthers W y
theorem UpH.mid {v0 : World} {gB gH gs : Nat} {vs : Value} {x b0 : List (BitVec 8)} {sd : List (List (BitVec 8))} {pre : List Nat} {k : Nat} {W y : World} {v : Value} (h : UpH v0 gB gH gs vs x b0 sd pre W) (hHB : gB < gH) (hgs : gH < gs) (hb : Below W.drew.heap.size W.drew y)
    (hf : Fresh W.heap.size y v (upT x b0 sd (pre ++ [k]))) (hlt : ∀ j, v.ownBlock = some j → j < y.heap.size) : ∃ vh us, UpM v0 gB gH gs vs x b0 sd pre k W vh us v (y.setCell ⟨gB, 0, none⟩ v) := by
  obtain ⟨vh, us, h1, h2, h3⟩ := h.hh
  have hst := h.u.step (B := 0) (by omega) hb hf
  have hb' : Below W.heap.size W y := (Below.refl W.heap.size W).drew.trans hb
  obtain ⟨vb, hv1, hv2⟩ := h.u.bb
  have hy : Blk y gB [vb] 23 := hv1.below hb' hv1.lt
  have hz : (y.setCell ⟨gB, 0, none⟩ v).heap.size = y.heap.size := by simp
  have hge := h.u.ge
  have hH := h1.lt
  have hS := h.u.sb.lt
  have hg := grownBy_setCell' y gB v
  refine ⟨vh, us, hst.2.2, hy.set 0 v, hf.rd.away hg (fun j hj he => ?_), (h1.below hb' h1.lt).other _ _ (by show gH ≠ gB; omega), (h2.same (fun j hj => hb'.block j (h2.lt j hj).2)).same (fun j hj => heap_setCell_other y ⟨gB, 0, none⟩ j v (by show j ≠ gB; have := (h2.lt j hj).1; omega)), ⟨h3.1, fun j u hj => ⟨((h3.2 j u hj).1.below hb').away hg (fun i hi he => ?_), (h3.2 j u hj).2.mono (by rw [hz]; exact hb'.size)⟩⟩, fun j hj => ?_, hst.2.1, (keepsOthers_of_below hb').trans (KeepsOthers.setCell _ _ _)⟩
  · have := hf.ge j hj
    simp only [Option.some.injEq] at he
    omega
  · simp only [Option.some.injEq] at he
    exact ((h3.2 j u hj).2 i hi).2.1 he
  · have hj1 := hf.ge j hj
    refine ⟨fun e => ?_, by omega, by omega, by omega, by rw [hz]; exact hlt j hj⟩
    have := (h2.lt j e.symm).2
    omega
theorem UpM.step {v0 : World} {gB gH gs B : Nat} {vs : Value} {x b0 : List (BitVec 8)} {sd : List (List (BitVec 8))} {pre : List Nat} {k : Nat} {W y y5 : World} {vh v vh2 : Value} {us : List Value} (h : UpM v0 gB gH gs vs x b0 sd pre k W vh us v y) (hHB : gB < gH) (hgs : gH < gs)
    (ho : OwnT y5 (gB + 1) vh2 (us ++ [v])) (hg : (y.alloc (.cells [v].toArray 23)).grownBy y5 vh.ownBlock) (hl : vh2.ownBlock = vh.ownBlock ∨ vh2.ownBlock = some (y.alloc (.cells [v].toArray 23)).heap.size) :
    KeepsFrom B W (y5.setCell ⟨gH, 0, none⟩ vh2) ∧ KpB gB gs W (y5.setCell ⟨gH, 0, none⟩ vh2) ∧ UpH v0 gB gH gs vs x b0 sd (pre ++ [k]) (y5.setCell ⟨gH, 0, none⟩ vh2) := by
  have hba : Below y.heap.size y (y.alloc (.cells [v].toArray 23)) := below_alloc _ _
  generalize y.alloc (.cells [v].toArray 23) = y4 at *
  have hown4 : OwnT y4 (gB + 1) vh us := h.own.same (fun j hj => hba.block j (h.own.lt j hj).2)
  have hB4 : Blk y4 gB [v] 23 := h.bb.below hba h.bb.lt
  have hH4 : Blk y4 gH [vh] 22 := h.hb.below hba h.hb.lt
  have hS4 : Blk y4 gs [vs] 34 := h.u.sb.below hba h.u.sb.lt
  have nB : some gB ≠ vh.ownBlock := fun e => by have := (hown4.lt gB e.symm).1; omega
  have nH : some gH ≠ vh.ownBlock := fun e => hown4.ne hH4 (by decide) gH e.symm rfl
  have nS : some gs ≠ vh.ownBlock := fun e => hown4.ne hS4 (by decide) gs e.symm rfl
  have hB5 : Blk y5 gB [v] 23 := by unfold Blk at *; rw [hg.block gB (hB4 |> fun h => (Array.getElem?_eq_some_iff.1 h).1) nB]; exact hB4
  have hH5 : Blk y5 gH [vh] 22 := by unfold Blk at *; rw [hg.block gH (hH4 |> fun h => (Array.getElem?_eq_some_iff.1 h).1) nH]; exact hH4
  have hS5 : Blk y5 gs [vs] 34 := by unfold Blk at *; rw [hg.block gs (hS4 |> fun h => (Array.getElem?_eq_some_iff.1 h).1) nS]; exact hS4
  have n2H : ∀ j, vh2.ownBlock = some j → j ≠ gH := ho.ne hH5 (by decide)
  have hg6 := grownBy_setCell' y5 gH vh2
  have hz6 : (y5.setCell ⟨gH, 0, none⟩ vh2).heap.size = y5.heap.size := by simp
  have hsz : y.heap.size ≤ y4.heap.size := hba.size
  have hsz5 : y4.heap.size ≤ y5.heap.size := hg.size
  have hge := h.u.ge
  have hrow : ∀ j, vh.ownBlock = some j → gB ≤ j := fun j hj => by have := (hown4.lt j hj).1; omega
  have b45 : Below gB y4 y5 := (Below.refl gB y4).grown hg (by omega) hrow
  have b6 : Below gB y (y5.setCell ⟨gH, 0, none⟩ vh2) := ((hba.mono (show gB ≤ y.heap.size by omega)).trans b45).setCell (p := ⟨gH, 0, none⟩) (show gB ≤ gH by omega) _
  have rd6 : ∀ (u : Value) (l : List (BitVec 8)), Reads y u l → Aw gB gH gs vh u y → Reads (y5.setCell ⟨gH, 0, none⟩ vh2) u l := fun u l hr ha =>
    ((hr.below hba).away hg (fun j hj => (ha j hj).1)).away hg6 (fun j hj he => by simp only [Option.some.injEq] at he; exact (ha j hj).2.2.1 he)
  have aw6 : ∀ u, Aw gB gH gs vh u y → Aw gB gH gs vh2 u (y5.setCell ⟨gH, 0, none⟩ vh2) := fun u ha j hj => by
    obtain ⟨a1, a2, a3, a4, a5⟩ := ha j hj
    refine ⟨fun e => ?_, a2, a3, a4, by omega⟩
    rcases hl with hl | hl
    · rw [hl] at e; exact a1 e
    · rw [hl] at e; simp only [Option.some.injEq] at e; omega
  have hkeep : KeepsOthers y (y5.setCell ⟨gH, 0, none⟩ vh2) := by
    refine ((keepsOthers_of_below hba).trans ⟨hsz5, fun j o hj hc => ?_⟩).trans (KeepsOthers.setCell _ _ _)
    rw [hg.block j (Array.getElem?_eq_some_iff.1 hj).1 (fun e => ?_)]
    · exact hj
    · obtain ⟨_, h2⟩ := hown4
      rcases h2 with ⟨rfl, _⟩ | ⟨g2, cap, cur, rfl, _, hh, _⟩
      · simp [Value.ownBlock] at e
      · simp only [Value.ownBlock, Option.some.injEq] at e
        subst e
        rw [hh] at hj
        cases hj
        cases hc
  refine ⟨(h.ko.trans hkeep).from _, ⟨h.kp.below.trans b6, ?_⟩, ⟨⟨h.u.bel.trans b6, by omega, ⟨v, hB5.other _ _ (by show gB ≠ gH; omega), rd6 v _ h.rb h.aw⟩, hS5.other _ _ (by show gs ≠ gH; omega)⟩, vh2, us ++ [v], hH5.set 0 vh2, ho.same (fun j hj => heap_setCell_other y5 ⟨gH, 0, none⟩ j vh2 (n2H j hj)), ?_, fun j u hj => ?_⟩⟩
  · rw [heap_setCell_other y5 ⟨gH, 0, none⟩ gs vh2 (by show gs ≠ gH; omega), hg.block gs hS4.lt nS, hba.block gs h.u.sb.lt]
    exact h.kp.same
  · rw [upL_snoc, List.length_append, List.length_append, h.good.1]
    rfl
  · rw [upL_snoc]
    by_cases hj2 : j < us.length
    · rw [List.getElem?_append_left hj2] at hj
      rw [List.getD_eq_getElem?_getD, List.getElem?_append_left (by rw [← h.good.1]; exact hj2), ← List.getD_eq_getElem?_getD]
      exact ⟨rd6 u _ (h.good.2 j u hj).1 (h.good.2 j u hj).2, aw6 u (h.good.2 j u hj).2⟩
    · have hjl : j < (us ++ [v]).length := (List.getElem?_eq_some_iff.1 hj).1
      rw [List.length_append, List.length_singleton] at hjl
      obtain rfl : j = us.length := by omega
      rw [List.getElem?_append_right (Nat.le_refl _), Nat.sub_self] at hj
      simp only [List.getElem?_cons_zero, Option.some.injEq] at hj
      subst hj
      rw [List.getD_eq_getElem?_getD, h.good.1, List.getElem?_append_right (Nat.le_refl _), Nat.sub_self]
      exact ⟨rd6 v _ h.rb h.aw, aw6 v h.aw⟩
end Go.Proofs.YtpeifpoeeopecaaDoor
/- The walk of slices.Reverse at texts. -/
namespace Go.Proofs.YtpeifpoeeopecaaDoor
open Go.Shelf Go.RowKit Go.Lib Go.Sort
set_option maxRecDepth 100000
variable {α : Type} [Inhabited α]
/-- the first i and the last i places are exchanged -/
structure Rvd (i : Nat) (d dk : Array α) : Prop where
  size : dk.size = d.size
  out : ∀ k, k < d.size → (k < i ∨ d.size ≤ k + i) → dk[k]! = d[d.size - 1 - k]!
  mid : ∀ k, i ≤ k → k + i < d.size → dk[k]! = d[k]!
theorem Rvd.step {i : Nat} {d dk : Array α} (h : Rvd i d dk) (hi : i < d.size - 1 - i) : Rvd (i + 1) d (swp dk i (d.size - 1 - i)) := by
  have hz := h.size
  refine ⟨by rw [size_swp]; exact hz, fun k hk hk2 => ?_, fun k hk hk2 => ?_⟩
  · by_cases e1 : k = i
    · rw [e1, swp_left _ _ _ (by omega) (by omega), h.mid _ (by omega) (by omega)]
    · by_cases e2 : k = d.size - 1 - i
      · rw [e2, swp_right _ _ _ (by omega), h.mid _ (by omega) (by omega)]
        congr 1; omega
      · rw [swp_other _ _ _ _ e1 e2, h.out k hk (by omega)]
  · rw [swp_other _ _ _ _ (by omega) (by omega), h.mid k (by omega) (by omega)]
theorem Rvd.done {i : Nat} {d dk : Array α} (h : Rvd i d dk) (hi : d.size ≤ i + i + 1) : dk.toList = d.toList.reverse := by
  apply List.ext_getElem
  · rw [Array.length_toList, List.length_reverse, Array.length_toList, h.size]
  · intro k h1 h2
    rw [Array.length_toList, h.size] at h1
    rw [List.getElem_reverse, Array.getElem_toList, Array.getElem_toList]
    have e : dk[k]! = d[d.size - 1 - k]! := by
      by_cases c : k < i ∨ d.size ≤ k + i
      · exact h.out k h1 c
      · rw [h.mid k (by omega) (by omega)]
        congr 1; omega
    rw [getElem!_pos dk k (by rw [h.size]; exact h1), getElem!_pos d _ (by omega)] at e
    rw [e]
    simp
set_option maxHeartbeats 4000000 in
set_option maxRecDepth 1000000 in
theorem reverseT_any (enc : α → Value) (blk off L cap : Nat) (d : Array α) (w0 w : World) (R : Row1 enc w0 blk off d) (hL : d.size = L) (S : SW enc w0 blk off d w) (h1 : 1 ≤ L) (hsz : L < 1000000000) :
    Calls Tryd.prog 53 #[.slice (some ⟨blk, off, none⟩) L cap] w fun e w' => e = .returned (.tuple #[]) ∧ ∃ d', d'.toList = d.toList.reverse ∧ SW enc w0 blk off d' w' := by
  have mixed : Tryd.prog.follows .mixedOrders = true := by kernel_rfl
  have hcl0 := R.hO.cells
  simp only [Value.cells] at hcl0
  have hst := R.hO.store Tryd.prog
  have S0 : Aside (SW enc w0 blk off d w) := S
  have l1 : d.size ≤ L := Nat.le_of_eq hL
  have l2 : L ≤ d.size := Nat.le_of_eq hL.symm
  have HL : Hid (d.size = L) := hL
  clear S hL
  have r0 : IntKind.i64.wrap ((L : Int) - 1) = ((L - 1 : Nat) : Int) := by rw [IntKind.wrap_i64]; omega
  go_enter Tryd.func53, Tryd.ntmps53
  go_wp2
  clear r0
  go_loopg [2, 3] L (fun kx s2 s3 wr => ∃ (i j : Nat) (dk : Array α), s2 = .int .i64 i ∧ s3 = .int .i64 j ∧ j + i ≤ L - 1 ∧ L - 1 ≤ j + i ∧ L - i ≤ kx ∧ Aside (SW enc w0 blk off dk wr) ∧ Hid (Rvd i d dk))
  case atStart => exact ⟨0, L - 1, d, rfl, by first | rfl | go_num, by omega, by omega, by omega, S0, ⟨rfl, fun k hk h => by omega, fun k _ _ => rfl⟩⟩
  case round =>
    clear S0
    obtain ⟨i, j, dk, rfl, rfl, hij1, hij2, hkx, S1, HR⟩ := hrel
    by_cases hlt : i < j
    · have hltz : (i : Int) < (j : Int) := by omega
      have hsk : dk.size = d.size := HR.out.size
      go_wp2_with fail
      obtain ⟨iNq, hiNq⟩ : ∃ q, q = i := ⟨_, rfl⟩
      obtain ⟨jNq, hjNq⟩ : ∃ q, q = j := ⟨_, rfl⟩
      have eaq : ((i : Int)).toNat = iNq := by omega
      have paq : (0 : Int) ≤ (i : Int) := by omega
      have baq : (i : Int) < (L : Int) := by omega
      have raq : IntKind.i64.wrap ((i : Int)) = (i : Int) := by rw [IntKind.wrap_i64]; omega
      have ecq : ((j : Int)).toNat = jNq := by omega
      have pcq : (0 : Int) ≤ (j : Int) := by omega
      have bcq : (j : Int) < (L : Int) := by omega
      have rcq : IntKind.i64.wrap ((j : Int)) = (j : Int) := by rw [IntKind.wrap_i64]; omega
      obtain ⟨xq, hxq⟩ : ∃ x, x = dk[i]! := ⟨_, rfl⟩
      obtain ⟨yq, hyq⟩ : ∃ x, x = dk[j]! := ⟨_, rfl⟩
      have S2 : Aside (SW enc w0 blk off (swp dk (i) (j)) ((wr.setCell ⟨blk, off + iNq, none⟩ (enc yq)).setCell ⟨blk, off + jNq, none⟩ (enc xq)).drew) := by rw [hiNq, hjNq, hxq, hyq]; exact S1.out.swapped R (i) (j) (by omega) (by omega)
      have caq := S1.out.c1 R (by omega) (i) (by omega)
      have ccq := S1.out.c1 R (by omega) (j) (by omega)
      have faq := S1.out.f1 R (by omega) (i) (by omega)
      have fbq := S1.out.f1 R (by omega) (j) (by omega)
      obtain ⟨uq, cuq⟩ := S1.out.c2 R (by omega) (i) (j) (by omega) (by omega) (enc yq)
      rw [← hjNq, ← hiNq] at cuq
      rw [← hxq, ← hiNq] at caq
      rw [← hyq, ← hjNq] at ccq
      rw [← hiNq] at faq
      rw [← hjNq] at fbq
      clear S1 hxq hyq hiNq hjNq
      go_wp2_with fail
      go_big_region_o
      clear caq ccq cuq faq fbq
      generalize ((wr.setCell ⟨blk, off + iNq, none⟩ (enc yq)).setCell ⟨blk, off + jNq, none⟩ (enc xq)).drew = wq at S2 ⊢
      clear eaq ecq
      have rj : IntKind.i64.wrap ((j : Int) - 1) = ((j - 1 : Nat) : Int) := by rw [IntKind.wrap_i64]; omega
      go_wp2
      go_roundg (L - (i + 1))
      case measure => omega
      case rel =>
        refine ⟨i + 1, j - 1, swp dk i j, by go_num, by first | rfl | go_num, by omega, by omega, Nat.le_refl _, S2, ?_⟩
        have e : j = d.size - 1 - i := by omega
        have := HR.out.step (by omega)
        rw [← e] at this
        exact this
    · have hltz : ¬ (i : Int) < (j : Int) := by omega
      go_wp2
      go_end0
      exact ⟨rfl, dk, HR.out.done (by omega), S1.out⟩
section
variable {enc : α → Value} {w0 W : World} {blk off : Nat} {dk : Array α}
theorem heap_mapBlock (w : World) (blk j : Nat) (f : Array Value → Array Value) (h : j ≠ blk) : (mapBlock w blk f).heap[j]? = w.heap[j]? := by
  unfold mapBlock
  simp [Array.getElem?_modify, Ne.symm h]
theorem heap_sortWorld (n j : Nat) (os : Array Obj) (h : j ≠ blk) (hj : j < w0.heap.size) : (sortWorld enc w0 blk off n dk os).heap[j]? = w0.heap[j]? := by
  unfold sortWorld
  show ((putRow enc (Sort.ahead w0 n) blk off dk).heap ++ os)[j]? = _
  rw [Array.getElem?_append_left (by rw [Go.Sort.size_putRow]; exact hj)]
  exact heap_mapBlock _ _ _ _ h
theorem sw_heap (h : SW enc w0 blk off dk W) (j : Nat) (hj : j ≠ blk) (hl : j < w0.heap.size) : W.heap[j]? = w0.heap[j]? := by
  obtain ⟨n, os, rfl⟩ := h
  exact heap_sortWorld n j os hj hl
theorem sw_bel {w : World} {B : Nat} (h : SW enc w0 blk off dk W) (hb : Below B w w0) (hB : B ≤ blk) (hs : B ≤ w0.heap.size) : Below B w W := by
  have hh := sw_heap h
  have hle := h.le
  obtain ⟨n, os, rfl⟩ := h
  refine ⟨hb.os, hb.tape, hb.output, Nat.le_trans hb.size hle, fun k hk => ?_⟩
  rw [hh k (by omega) (by omega)]
  exact hb.block k hk
end
theorem Reads.same {W W' : World} {v : Value} {l : List (BitVec 8)} (h : Reads W v l) (hs : ∀ k, v.ownBlock = some k → W'.heap[k]? = W.heap[k]?) : Reads W' v l := by
  obtain ⟨ad, cap, hv, hc, hn, hx⟩ := h
  refine ⟨ad, cap, hv, hc, hn, fun hp => ?_⟩
  obtain ⟨b, off, h1, h2⟩ := hx hp
  refine ⟨b, off, h1, fun j hj => ?_⟩
  rw [← h2 j hj]
  unfold World.cell?
  rw [hs b (by rw [hv, h1]; rfl)]
/-- a slice's three parts -/
abbrev Sp : Type := Option Addr × Nat × Nat
def encT (p : Sp) : Value := .slice p.1 p.2.1 p.2.2
def decT : Value → Sp
  | .slice a n c => (a, n, c)
  | _ => (none, 0, 0)
theorem oneT : OneCell encT := fun _ => rfl
theorem reads_dec {W : World} {v : Value} {l : List (BitVec 8)} (h : Reads W v l) : encT (decT v) = v := by
  obtain ⟨a, n, c, rfl⟩ := h.form
  rfl
theorem revT_any (w : World) (base : Nat) (vh : Value) (us : List Value) (ls : List (List (BitVec 8))) (hown : OwnT w base vh us) (hlen : us.length = ls.length) (h1 : 1 ≤ us.length) (hsz : us.length < 1000000)
    (hr : ∀ j u, us[j]? = some u → Reads w u (ls.getD j []) ∧ ∀ k, u.ownBlock = some k → some k ≠ vh.ownBlock ∧ k < w.heap.size) :
    Calls Tryd.prog 53 #[vh] w fun e w' => e = .returned (.tuple #[]) ∧ ReadsL w' vh ls.reverse ∧ (∀ j, some j ≠ vh.ownBlock → j < w.heap.size → w'.heap[j]? = w.heap[j]?) ∧ (∀ (B : Nat) (v : World), Below B v w → B ≤ base → B ≤ w.heap.size → Below B v w') := by
  obtain ⟨hl0, hc⟩ := hown
  rcases hc with ⟨_, h0⟩ | ⟨g, cap, cur, rfl, hg, hh, hcap, hmax, hcs, htk⟩
  · omega
  · obtain ⟨d, hd⟩ : ∃ d : Array Sp, d = (us.map decT).toArray := ⟨_, rfl⟩
    have hds : d.size = us.length := by rw [hd]; simp
    rw [Nat.mul_one] at htk
    have hget : ∀ j (hj : j < us.length), encT d[j]! = us[j] := fun j hj => by
      rw [getElem!_pos d j (by rw [hds]; exact hj)]
      simp only [hd, List.getElem_toArray, List.getElem_map]
      exact reads_dec (hr j _ (List.getElem?_eq_getElem hj)).1
    have hcell : ∀ j (hj : j < us.length), w.cell? ⟨g, j, none⟩ = some us[j] := fun j hj => by
      have h9 : w.cell? ⟨g, j, none⟩ = cur.toList[j]? := by simp [World.cell?, hh]
      have h8 : (cur.toList.take us.length)[j]? = us[j]? := by rw [htk]
      rw [List.getElem?_take, if_pos hj, List.getElem?_eq_getElem hj] at h8
      rw [h9, h8]
    have R : Row1 encT w g 0 d := by
      refine ⟨oneT, fun j hj => ?_, (Array.getElem?_eq_some_iff.1 hh).1⟩
      rw [hds] at hj
      rw [Nat.zero_add, hget j hj]
      exact ⟨hcell j hj, frozen_of_row w g j _ _ hh⟩
    refine (reverseT_any encT g 0 us.length cap d w w R hds (SW.start R.hH) h1 (by omega)).mono ?_
    rintro e w' ⟨rfl, d', hd', S⟩
    have hds' : d'.size = us.length := by rw [← Array.length_toList, hd', List.length_reverse, Array.length_toList, hds]
    have hH := S.holds R.hblk R.hH (by rw [hds', hds])
    refine ⟨rfl, ⟨some ⟨g, 0, none⟩, cap, by rw [List.length_reverse, hlen], by rw [List.length_reverse, ← hlen]; exact hcap, (fun h => by cases h), fun _ => ⟨g, 0, rfl, fun j hj => ?_⟩⟩, fun j hj hlt => sw_heap S j (fun e => hj (by rw [e]; rfl)) hlt, fun B v hb hB hs => sw_bel S hb (by omega) hs⟩
    rw [List.length_reverse, ← hlen] at hj
    have hi : us.length - 1 - j < us.length := by omega
    have he : encT d'[j]! = us[us.length - 1 - j] := by
      have e1 : d'[j]! = d[us.length - 1 - j]! := by
        rw [getElem!_pos d' j (by rw [hds']; exact hj), getElem!_pos d _ (by rw [hds]; exact hi)]
        have h2 : d'.toList[j]? = d.toList.reverse[j]? := by rw [hd']
        rw [List.getElem?_reverse (by rw [Array.length_toList, hds]; exact hj), Array.length_toList, hds, Array.getElem?_toList, Array.getElem?_toList, Array.getElem?_eq_getElem (by rw [hds']; exact hj), Array.getElem?_eq_getElem (by rw [hds]; exact hi)] at h2
        exact Option.some.inj h2
      rw [e1, hget _ hi]
    obtain ⟨h3, h4⟩ := hr _ _ (List.getElem?_eq_getElem hi)
    refine ⟨us[us.length - 1 - j], ?_, ?_⟩
    · have := (hH j (by rw [hds']; exact hj)).1
      rw [he] at this
      exact this
    · have e2 : ls.reverse.getD j [] = ls.getD (us.length - 1 - j) [] := by
        rw [List.getD_eq_getElem?_getD, List.getD_eq_getElem?_getD, List.getElem?_reverse (by rw [← hlen]; exact hj), hlen]
      rw [e2]
      exact h3.same fun k hk => sw_heap S k (fun e => (h4 k hk).1 (by rw [e]; rfl)) (h4 k hk).2
end Go.Proofs.YtpeifpoeeopecaaDoor
/- The walk of proof.Hashed (layer 8, the program's own). -/
namespace Go.Proofs.YtpeifpoeeopecaaDoor
open Go.RowKit Go.Shelf
set_option maxRecDepth 100000
attribute [local go_sem] Oper.semAt_some
theorem Reads.lt {W : World} {v : Value} {l : List (BitVec 8)} (h : Reads W v l) (hp : 0 < l.length) : ∀ j, v.ownBlock = some j → j < W.heap.size := by
  obtain ⟨ad, cap, hv, hc, hn, hx⟩ := h
  obtain ⟨b, off, h1, h2⟩ := hx hp
  intro j hj
  rw [hv, h1] at hj
  simp only [Value.ownBlock, Option.some.injEq] at hj
  subst hj
  exact World.block_lt_of_cell? W ⟨b, off + 0, none⟩ (h2 0 hp)
theorem nodeB_pos (on : Bool) (s y : List (BitVec 8)) : 0 < (nodeB on s y).length := by cases on <;> simp [nodeB, pairB]
theorem endB_pos (en : Int) (ix va : List (BitVec 8)) : 0 < (endB en ix va).length := by unfold endB; split <;> simp [pairB]
theorem UpM.at5 {v0 : World} {gB gH gs : Nat} {vs : Value} {x b0 : List (BitVec 8)} {sd : List (List (BitVec 8))} {pre : List Nat} {k : Nat} {W y y5 : World} {vh v : Value} {us : List Value} (h : UpM v0 gB gH gs vs x b0 sd pre k W vh us v y) (hg : (y.alloc (.cells [v].toArray 23)).grownBy y5 vh.ownBlock) : Blk y5 gH [vh] 22 := by
  have hba : Below y.heap.size y (y.alloc (.cells [v].toArray 23)) := below_alloc _ _
  have hown4 : OwnT (y.alloc (.cells [v].toArray 23)) (gB + 1) vh us := h.own.same (fun j hj => hba.block j (h.own.lt j hj).2)
  have hH4 : Blk (y.alloc (.cells [v].toArray 23)) gH [vh] 22 := h.hb.below hba h.hb.lt
  have nH : some gH ≠ vh.ownBlock := fun e => hown4.ne hH4 (by decide) gH e.symm rfl
  have hlt := hH4.lt
  unfold Blk at *
  rw [hg.block gH hlt nH]
  exact hH4
theorem OwnT.form {w : World} {base : Nat} {v : Value} {us : List Value} (h : OwnT w base v us) : ∃ a c, v = .slice a us.length c := by
  obtain ⟨_, h2⟩ := h
  rcases h2 with ⟨rfl, h0⟩ | ⟨g, cap, cur, rfl, _⟩
  · exact ⟨_, _, by rw [h0]⟩
  · exact ⟨_, _, rfl⟩
theorem ReadsL.kept {W W' : World} {row : Option Nat} {v : Value} {ls : List (List (BitVec 8))} (h : ReadsL W v ls) (hg : W.grownBy W' row) (hr : ∀ r, row = some r → ∃ o : Obj, W.heap[r]? = some o ∧ o.isCells = false) : ReadsL W' v ls := by
  obtain ⟨ad, cap, hv, hc, hn, hx⟩ := h
  refine ⟨ad, cap, hv, hc, hn, fun hp => ?_⟩
  obtain ⟨b, off, h1, h2⟩ := hx hp
  refine ⟨b, off, h1, fun j hj => ?_⟩
  obtain ⟨vj, h3, h4⟩ := h2 j hj
  exact ⟨vj, cell_kept h3 hg hr, h4.kept hg hr⟩
/-- the frame's own blocks -/
structure Hw (w : World) (gx gp : Nat) (x : List (BitVec 8)) (vs : Value) (sd : List (List (BitVec 8))) (en : Int) (ix va : List (BitVec 8)) (W : World) : Prop where
  h : Hs w gx gp x vs sd en ix va W
  k0 : KOk w
theorem Hw.next {w W W' : World} {gx gp : Nat} {x : List (BitVec 8)} {vs : Value} {sd : List (List (BitVec 8))} {en : Int} {ix va : List (BitVec 8)} (r : Hw w gx gp x vs sd en ix va W) (hb : Below W.heap.size W W') : Hw w gx gp x vs sd en ix va W' := ⟨r.h.next hb, r.k0⟩
theorem Hw.kk {w W : World} {gx gp : Nat} {x : List (BitVec 8)} {vs : Value} {sd : List (List (BitVec 8))} {en : Int} {ix va : List (BitVec 8)} (r : Hw w gx gp x vs sd en ix va W) : KOk W := r.k0.below r.h.bel r.k0.lt
set_option maxRecDepth 100000 in
set_option maxHeartbeats 16000000 in
theorem pfHashed_any (x : List (BitVec 8)) (vs : Value) (sd : List (List (BitVec 8))) (en : Int) (ix va : List (BitVec 8)) (w : World) (hK : KOk w) (hx : x.length = 32) (hix : ix.length = 32) (hva : va.length = 32) (hR : ReadsD w vs sd) (hl : sd.length ≤ 1000) :
    Calls Tryd.prog 34 #[.agg (cb x).toArray, .agg (prfV vs en ix va).toArray] w fun e w' => ∃ v, e = .returned v ∧ ReadsL w' v (hashL x (endB en ix va) 0 sd) ∧ Below w.heap.size w w' := by
  have HXL : Hid (x.length = 32) := hx
  have HIL : Hid (ix.length = 32) := hix
  have HVL : Hid (va.length = 32) := hva
  have HL : Hid (sd.length ≤ 1000) := hl
  have H32 : Hid (∀ s ∈ sd, s.length = 32) := hR.2
  have HK0 : Hid (KOk w) := hK
  obtain ⟨n, HN⟩ : ∃ n, Hid (n = sd.length) := ⟨_, rfl⟩
  obtain ⟨ads, cps, hvs⟩ := hR.slice
  rw [← HN.out] at hvs
  subst hvs
  obtain ⟨b0, HB0⟩ : ∃ b, Hid (b = endB en ix va) := ⟨_, rfl⟩
  have HLB : Hid (b0.length ≤ 65) := by show _ ≤ _; rw [HB0.out]; exact endB_le hix hva
  have HP0 : Hid (0 < b0.length) := by show _ < _; rw [HB0.out]; exact endB_pos _ _ _
  rw [← HB0.out]
  have HRU : Hid ((upL x b0 sd (backN sd.length 0)).reverse = hashL x b0 0 sd) := up_all x b0 sd
  obtain ⟨cs, HCS⟩ : ∃ c, Hid (c = prfV (.slice ads n cps) en ix va) := ⟨_, rfl⟩
  have HC6 : Hid (cs.length = 66) := by show _ = _; rw [HCS.out]; exact prfV_len hix hva
  have HEND : Hid (∀ W, Calls Tryd.prog 49 #[.agg cs.toArray] W fun e w' => ∃ v, e = .returned v ∧ Fresh W.heap.size w' v b0 ∧ Below W.heap.size W w') := fun W => by rw [HCS.out, HB0.out]; exact end_any _ en ix va W hix hva ⟨_, _, _, rfl⟩
  rw [← HCS.out]
  have HRD : Hid (ReadsD w (.slice ads n cps) sd) := hR
  clear hx hix hva hl hR hK
  refine (callsIn_wide (n := 4)).1 ?_
  refine callsIn_of_wp_marks Tryd.func34 rfl trivial ?_ rfl
  simp only [Tryd.ntmps34, List.size_toArray, List.length_cons, List.length_nil, Nat.reduceAdd, Nat.reduceSub, Array.replicate_succ, Array.replicate_zero, List.push_toArray, List.append_toArray, List.nil_append, List.cons_append]
  refine wpIn_wide.2 ?_
  go_upto_region 1 with (first
    | (with_reducible refine wpSeq_boxD (.tmp 0) x ?_ ?_ ?_ ?_
       · rfl
       · rfl
       · rfl
       intro gx w1 nn1)
    | (with_reducible refine wpSeq_boxP (.tmp 1) cs ?_ ?_ ?_ ?_
       · rfl
       · rfl
       · rfl
       intro gp w2 nn2
       have HI : Hid (Hw w gx gp x (.slice ads n cps) sd en ix va w2) := by
         have hb := nn1.below.trans (nn2.below.mono nn1.below.size)
         refine ⟨⟨nn1.blk.below nn2.below nn1.blk.lt, ?_, HRD.out.below hb, hb⟩, HK0.out⟩
         rw [← HCS.out]; exact nn2.blk
       clear nn1 nn2 HRD HK0))
  have HCP : Hid (∀ W, Hw w gx gp x (.slice ads n cps) sd en ix va W → Blk W gp cs 36) := fun W h => by rw [HCS.out]; exact h.h.pb
  go_upto_region 2 with (first
    | (with_reducible refine wpSeq_loadP (.tmp 3) gp cs ?_ ?_ ?_ ?_ ?_ ?_
       · exact HC6.out
       · exact HCP.out _ HI.out
       · rfl
       · rfl
       · rfl)
    | (go_at_call 49; refine (HEND.out _).mono ?_; rintro e v0 ⟨v5, rfl, hf5, hb5⟩
       obtain ⟨ab, nb, cbb, hv5⟩ := hf5.rd.form
       subst hv5
       replace HI : Hid (Hw w gx gp x (.slice ads n cps) sd en ix va v0) := HI.out.next hb5
       have HF5 : Hid (Reads v0 (.slice ab nb cbb) b0) := hf5.rd
       clear hf5 hb5))
  obtain ⟨gB, HGB⟩ : ∃ z, Hid (z = v0.heap.size) := ⟨_, rfl⟩
  obtain ⟨wB, HWB⟩ : ∃ z, Hid (z = v0.alloc (.cells [Value.slice ab nb cbb].toArray 23)) := ⟨_, rfl⟩
  change Code.wp _ _ _ _ (v0.alloc (.cells [Value.slice ab nb cbb].toArray 23))
  rw [← HWB.out]
  have e1 : (some ⟨v0.heap.size, 0, none⟩ : Option Addr) = some ⟨gB, 0, none⟩ := by rw [HGB.out]
  simp only [e1]
  clear e1
  have HBB : Hid (Blk wB gB [.slice ab nb cbb] 23) := by rw [HWB.out, HGB.out]; exact Blk.new _ _ _
  have HBL : Hid (Below gB v0 wB) := by rw [HWB.out, HGB.out]; exact below_alloc _ _
  have HSZ : Hid (wB.heap.size = gB + 1) := by show _ = _; rw [HWB.out, HGB.out]; simp
  have cb0 : wB.cell? ⟨gB, 0, none⟩ = some (.slice ab nb cbb) := HBB.out.cell 0
  clear HWB
  go_upto_region 3 with fail
  clear cb0
  obtain ⟨gR, HGR⟩ : ∃ z, Hid (z = wB.heap.size) := ⟨_, rfl⟩
  obtain ⟨gH, HGH⟩ : ∃ z, Hid (z = wB.heap.size + 1) := ⟨_, rfl⟩
  obtain ⟨wC, HWC⟩ : ∃ z, Hid (z = ((wB.alloc (.cells [Value.slice ab nb cbb].toArray 23)).alloc (.cells [Value.slice (some ⟨wB.heap.size, 0, none⟩) 1 1].toArray 22))) := ⟨_, rfl⟩
  change Code.wp _ _ _ _ ((wB.alloc (.cells [Value.slice ab nb cbb].toArray 23)).alloc (.cells [Value.slice (some ⟨wB.heap.size, 0, none⟩) 1 1].toArray 22))
  rw [← HWC.out]
  have e1 : (some ⟨wB.heap.size, 0, none⟩ : Option Addr) = some ⟨gR, 0, none⟩ := by rw [HGR.out]
  have e2 : (some ⟨wB.heap.size + 1, 0, none⟩ : Option Addr) = some ⟨gH, 0, none⟩ := by rw [HGH.out]
  simp only [e1, e2]
  have HCC : Hid (Below wB.heap.size wB wC) := by rw [HWC.out]; exact (below_alloc _ _).trans ((below_alloc _ _).mono (by simp))
  have HSC : Hid (wC.heap.size = gB + 3) := by show _ = _; rw [HWC.out]; simp only [World.size_alloc]; rw [HSZ.out]
  have HRW : Hid (wC.heap[gR]? = some (.cells #[.slice ab nb cbb] 23 (0, 0))) := by
    show _ = _
    rw [HWC.out, HGR.out]
    exact (Blk.new wB [.slice ab nb cbb] 23).alloc _
  have HHW : Hid (Blk wC gH [.slice (some ⟨gR, 0, none⟩) 1 1] 22) := by
    rw [HWC.out, HGH.out, HGR.out]
    exact Blk.new_at (by simp) _ _
  clear e1 e2 HWC
  have c0 : wC.cell? ⟨gp, 0, none⟩ = some (.slice ads n cps) := ((HI.out.h.pb.below HBL.out (by rw [HGB.out]; exact HI.out.h.pb.lt)).below HCC.out (HI.out.h.pb.below HBL.out (by rw [HGB.out]; exact HI.out.h.pb.lt)).lt).cell 0
  go_upto_region 4 with (first
    | (go_at_call 50; refine (back_any _ ads n cps rfl _).mono ?_; rintro e v1 ⟨gs, rfl, hbs, hgs, hb1, hz1⟩
       have HSB : Hid (Blk v1 gs [.slice ads n cps] 34) := hbs
       have HGS : Hid (gs = gB + 3) := by show _ = _; rw [hgs, HSC.out]
       have HGE : Hid (gR = gB + 1 ∧ gH = gB + 2) := by show _ ∧ _; rw [HGR.out, HGH.out, HSZ.out]; exact ⟨rfl, rfl⟩
       have HZ1 : Hid (v1.heap.size = gB + 4) := by show _ = _; rw [hz1, HSC.out]
       have HB1 : Hid (Below wB.heap.size wB v1) := HCC.out.trans (hb1.mono HCC.out.size)
       have HI0 : Hid (UpH v0 gB gH gs (.slice ads n cps) x b0 sd [] v1) := by
         have hr0 : Reads v1 (.slice ab nb cbb) b0 := (HF5.out.below (by rw [← HGB.out]; exact HBL.out)).below HB1.out
         have h1 := HGE.out
         have h2 := HGS.out
         refine ⟨⟨HBL.out.trans (HB1.out.mono (by rw [HSZ.out]; omega)), by rw [HZ1.out]; omega, ⟨.slice ab nb cbb, HBB.out.below HB1.out HBB.out.lt, hr0⟩, hbs⟩, .slice (some ⟨gR, 0, none⟩) 1 1, [.slice ab nb cbb], HHW.out.below hb1 HHW.out.lt, ⟨rfl, Or.inr ⟨gR, 1, #[.slice ab nb cbb], rfl, by omega, by rw [hb1.block gR (by rw [HSC.out]; omega)]; exact HRW.out, Nat.le_refl _, by unfold maxLen; omega, rfl, rfl⟩⟩, rfl, fun j u hj => ?_⟩
         match j, hj with
         | 0, hj =>
           simp only [List.getElem?_cons_zero, Option.some.injEq] at hj
           subst hj
           refine ⟨hr0, fun k hk => ?_⟩
           have h3 := HF5.out.lt HP0.out k hk
           rw [← HGB.out] at h3
           refine ⟨fun e => ?_, by omega, by omega, by omega, by rw [HZ1.out]; omega⟩
           simp only [Value.ownBlock, Option.some.injEq] at e
           omega
       clear hbs hgs hb1 hz1))
  clear c0 HBB HF5 HHW HRW HCC
  have HGL : Hid (gx < gB ∧ gp < gB) := by show _ ∧ _; rw [HGB.out]; exact ⟨HI.out.h.xb.lt, HI.out.h.pb.lt⟩
  refine (wpIn_wide (n := 4)).1 ?_
  refine wpIn_rangeFunc_ownH (F := Fence.wide) (α := Nat) rfl (by omega) (gf := 73) (lb := #[.pointer (some ⟨gs, 0, none⟩)]) rfl trivial (enters_of Tryd.func73 (by kernel_rfl) rfl)
    (back_stops 3 (v0 := v0) (n₀ := gB) HGB.out.symm HI.out.h.rd HL.out v1 HI0.out.u.bel (by have := HI0.out.u.ge; omega) HSB.out) KpB.trans (fun W l o o' h1 h2 h3 h4 => KpB.put (w := v1) (by have := HZ1.out; omega) (by have h1 := HZ1.out; have h2 := HGS.out; omega) W l o o' h1 h2 h3 h4) (Below.refl _ _) (fun _ => rfl)
    (UpH v0 gB gH gs (.slice ads n cps) x b0 sd) (fun _ _ _ => False)
    (UpH.own (by have := HZ1.out; omega)) (fun c s X Y row hs _ _ => hs.elim) HI0.out
    (fun k a' W => ∃ gv, a' = { tmps := #[.agg (cb x).toArray, .agg cs.toArray, .pointer (some ⟨gx, 0, none⟩), .pointer (some ⟨gp, 0, none⟩), .slice none 0 0, .pointer (some ⟨gB, 0, none⟩), .pointer (some ⟨gH, 0, none⟩), .int .i64 (k : Int), .pointer (some ⟨gv, 0, none⟩), .agg cs.toArray, .slice ab nb cbb, .slice ab nb cbb, .slice (some ⟨gR, 0, none⟩) 1 1, .pointer (some ⟨gp, 0, none⟩), .slice ads n cps, .func (.func 73) #[] #[.pointer (some ⟨gs, 0, none⟩)], .int .i64 (k : Int), .agg (cb (sd.getD k zb32)).toArray, undef, undef, undef, undef, undef, undef, undef, undef, undef, undef, undef, undef, undef], defers := [] } ∧ Blk W gv (cb (sd.getD k zb32)) 33) ?hax ?assign ?body ?done ?stop
  case hax =>
    rintro k a' _ X Y row ⟨gv, h1, h2⟩ hg hr
    exact ⟨gv, h1, blk_own (β := Unit) gv (fun _ => cb (sd.getD k zb32)) _ () X Y row h2 hg (fun r e => (hr r e).2)⟩
  case assign =>
    intro lab pre k W K hI hK
    have HIW : Hid (UpH v0 gB gH gs (.slice ads n cps) x b0 sd pre W) := hI
    have HS32 : Hid ((sd.getD k zb32).length = 32) := getD_zb H32.out k
    have HKK : Aside (∀ a' W', KeepsFrom v1.heap.size W W' → KpB gB gs W W' → UpH v0 gB gH gs (.slice ads n cps) x b0 sd pre W' → (∃ gv, a' = { tmps := #[.agg (cb x).toArray, .agg cs.toArray, .pointer (some ⟨gx, 0, none⟩), .pointer (some ⟨gp, 0, none⟩), .slice none 0 0, .pointer (some ⟨gB, 0, none⟩), .pointer (some ⟨gH, 0, none⟩), .int .i64 (k : Int), .pointer (some ⟨gv, 0, none⟩), .agg cs.toArray, .slice ab nb cbb, .slice ab nb cbb, .slice (some ⟨gR, 0, none⟩) 1 1, .pointer (some ⟨gp, 0, none⟩), .slice ads n cps, .func (.func 73) #[] #[.pointer (some ⟨gs, 0, none⟩)], .int .i64 (k : Int), .agg (cb (sd.getD k zb32)).toArray, undef, undef, undef, undef, undef, undef, undef, undef, undef, undef, undef, undef, undef], defers := [] } ∧ Blk W' gv (cb (sd.getD k zb32)) 33) → K a' W') := hK
    clear hI hK
    obtain ⟨s, HSE⟩ : ∃ s, Hid (s = sd.getD k zb32) := ⟨_, rfl⟩
    rw [← HSE.out] at HS32
    simp only [encsS, ← HSE.out] at HKK ⊢
    simp only [List.zip_toArray, List.zip_cons_cons, List.zip_nil_right, List.size_toArray, List.length_cons, List.length_nil, Nat.reduceAdd, Array.foldl]
    gi_wp2_with (first
      | (with_reducible refine wpSeqIn_storeD (.tmp 8) (.tmp 17) gv zb32 s ?_ ?_ ?_ ?_ ?_ ?_ ?_ ?_
         · rfl
         · exact HS32.out
         · exact HN1.out.blk
         · rfl
         · rfl
         · rfl
         · rfl
         intro W2 s2 _
         have HC1 : Hid (Blk W2 gv (cb s) 33) := s2.blk
         have HQ1 : Hid (Below W.heap.size W W2) := HN1.out.below.trans (s2.only.below HN1.out.ge HN1.out.below.size)
         clear s2 HN1)
      | (with_reducible refine wpSeqIn_allocD ?_ ?_ ?_
         · rfl
         · rfl
         intro gv W1 n1
         have HN1 : Hid (NewB zb32 W gv W1) := n1
         clear n1))
    exact HKK.out _ W2 ((keepsOthers_of_below HQ1.out).from _) ⟨HQ1.out.mono (by have := HIW.out.u.ge; omega), HQ1.out.block gs HIW.out.u.sb.lt⟩ (HIW.out.next HQ1.out) ⟨gv, rfl, HC1.out⟩
  case body =>
    rintro lab pre k a' W _ _ hI ⟨gv, rfl, hbv⟩ hlen
    have HIW : Hid (UpH v0 gB gH gs (.slice ads n cps) x b0 sd pre W) := hI
    obtain ⟨s, HSE⟩ : ∃ s, Hid (s = sd.getD k zb32) := ⟨_, rfl⟩
    have HSL : Hid (s.length = 32) := by show _ = _; rw [HSE.out]; exact getD_zb H32.out k
    obtain ⟨on, HON⟩ : ∃ o, Hid (o = bitI x (k : Int)) := ⟨_, rfl⟩
    obtain ⟨T, HTE⟩ : ∃ t, Hid (t = upT x b0 sd pre) := ⟨_, rfl⟩
    have HTL : Hid (T.length ≤ 65) := by show _ ≤ _; rw [HTE.out]; exact upT_le HLB.out H32.out pre
    have HUP : Hid (nodeB on s (dig T) = upT x b0 sd (pre ++ [k])) := by show _ = _; rw [upT_snoc, HON.out, HSE.out, HTE.out]
    obtain ⟨vb, hb1, hb2⟩ := hI.u.bb
    obtain ⟨a1, n1, c1, hv1⟩ := hb2.form
    subst hv1
    rw [← HTE.out] at hb2
    have HVB : Hid (Blk W.drew gB [.slice a1 n1 c1] 23) := hb1.drew
    have HRB : Hid (Reads W.drew (.slice a1 n1 c1) T) := reads_drew hb2
    have HXB : Hid (Blk W.drew gx (cb x) 33) := (HI.out.h.xb.below hI.u.bel HGL.out.1).drew
    have HKW : Hid (KOk W.drew) := HI.out.kk.below (((by rw [← HGB.out]; exact hI.u.bel) : Below v0.heap.size v0 W).drew) HI.out.kk.lt
    rw [← HSE.out] at hbv
    have HSV : Hid (Blk W.drew gv (cb s) 33) := hbv.drew
    have HCB : Hid (∀ W', Calls Tryd.prog 52 #[.agg (cb x).toArray, .int .i64 (k : Int)] W' fun e w' => e = .returned (.bool on) ∧ Below W'.heap.size W' w') := fun W' => by rw [HON.out]; exact pBit_any x HXL.out _ W'
    have cb0 : W.drew.cell? ⟨gB, 0, none⟩ = some (.slice a1 n1 c1) := HVB.out.cell 0
    simp only [← HSE.out]
    have HLN : Hid (pre.length < sd.length) := hlen
    clear hI hbv hb1 hb2 hlen
    refine wpIn_block (wpIn_seq ?_)
    refine wpIn_round_held (S := fun wx => Blk wx gv (cb s) 33 ∧ Blk wx gx (cb x) 33) (by kernel_rfl) (by kernel_rfl) (by rintro ⟨_, _, h⟩; exact h) ⟨HSV.out, HXB.out⟩ ?_
    intro hS
    refine wpAnyH_take (i := 1) (v := .agg (cb s).toArray) rfl (by kernel_rfl) (by kernel_rfl) (by kernel_rfl) (fun _ _ _ h => h) (Or.inl ⟨by rfl, fun wx hx => by exact loadDigest _ gv s HSL.out hx.1 rfl rfl⟩) hS ?_
    simp only [Act.put, List.getElem_toArray, List.getElem_cons_succ, List.getElem_cons_zero, List.setIfInBounds_toArray, List.set_cons_zero, List.set_cons_succ]
    refine wpAnyH_take (i := 2) (v := .agg (cb x).toArray) rfl (by kernel_rfl) (by kernel_rfl) (by kernel_rfl) (fun _ _ _ h => h) (Or.inl ⟨by rfl, fun wx hx => by exact loadDigest _ gx x HXL.out hx.2 rfl rfl⟩) hS ?_
    simp only [Act.put, List.getElem_toArray, List.getElem_cons_succ, List.getElem_cons_zero, List.setIfInBounds_toArray, List.set_cons_zero, List.set_cons_succ]
    refine wpAnyH_take (i := 3) (v := .int .i64 (k : Int)) rfl (by kernel_rfl) (by kernel_rfl) (by kernel_rfl) (fun _ _ _ h => h) (Or.inl ⟨by rfl, fun wx hx => by simp [go_sem]⟩) hS ?_
    simp only [Act.put, List.getElem_toArray, List.getElem_cons_succ, List.getElem_cons_zero, List.setIfInBounds_toArray, List.set_cons_zero, List.set_cons_succ]
    refine wpAnyH_commC 0 4 (.slice a1 n1 c1) (f := 52) (args := #[.agg (cb x).toArray, .int .i64 (k : Int)]) (by kernel_rfl) rfl rfl (by rfl) (by rfl) (fun _ => by rfl) (by rfl) (by simp [go_sem, cb0]) (by simp [go_sem]) (by simp [go_sem]) (HCB.out _) (by kernel_rfl) (by kernel_rfl) (fun _ => by rfl) (by rfl) hS ?_
    rintro e y1 ⟨rfl, hq1⟩
    have cb1 : y1.cell? ⟨gB, 0, none⟩ = some (.slice a1 n1 c1) := (HVB.out.below hq1 HVB.out.lt).cell 0
    replace hS : Blk y1 gv (cb s) 33 ∧ Blk y1 gx (cb x) 33 := ⟨HSV.out.below hq1 HSV.out.lt, HXB.out.below hq1 HXB.out.lt⟩
    refine ⟨.bool on, rfl, hS, by simp [go_sem, cb1], ?_⟩
    simp only [Act.put, List.getElem_toArray, List.getElem_cons_succ, List.getElem_cons_zero, List.setIfInBounds_toArray, List.set_cons_zero, List.set_cons_succ]
    refine wpAnyH_enter 5 (by kernel_rfl) rfl (by rfl) (f := 51) (args := #[.slice a1 n1 c1, .agg (cb s).toArray, .bool on]) (by simp [go_sem]) (above_any _ T s on y1 (HKW.out.below hq1 HKW.out.lt) (HRB.out.below hq1) HTL.out HSL.out) ?_
    rintro e y2 ⟨v7, rfl, hf7, hq2⟩
    obtain ⟨a7, n7, c7, hv7⟩ := hf7.rd.form
    subst hv7
    replace hS : Blk y2 gv (cb s) 33 ∧ Blk y2 gx (cb x) 33 := ⟨hS.1.below hq2 hS.1.lt, hS.2.below hq2 hS.2.lt⟩
    refine ⟨_, rfl, hS, ?_⟩
    simp only [Act.put, List.getElem_toArray, List.getElem_cons_succ, List.getElem_cons_zero, List.setIfInBounds_toArray, List.set_cons_zero, List.set_cons_succ]
    have HQ2 : Hid (Below W.drew.heap.size W.drew y2) := hq1.trans (hq2.mono hq1.size)
    have HF7 : Hid (Fresh W.heap.size y2 (.slice a7 n7 c7) (upT x b0 sd (pre ++ [k]))) := by rw [← HUP.out]; exact hf7.mono hq1.size
    have hb5 : Blk y2 gB [.slice a1 n1 c1] 23 := HVB.out.below HQ2.out HVB.out.lt
    have cb2 : y2.cell? ⟨gB, 0, none⟩ = some (.slice a1 n1 c1) := hb5.cell 0
    have fb2 : y2.frozen? ⟨gB, 0, none⟩ = false := hb5.frozen 0
    have hgv : gv ≠ gB := fun e => by have h1 := HSV.out; have h2 := HVB.out; unfold Blk at h1 h2; rw [e, h2] at h1; simp only [Option.some.injEq, Obj.cells.injEq] at h1; exact absurd h1.2.1 (by decide)
    replace hS : Blk (y2.setCell ⟨gB, 0, none⟩ (.slice a7 n7 c7)) gv (cb s) 33 ∧ Blk (y2.setCell ⟨gB, 0, none⟩ (.slice a7 n7 c7)) gx (cb x) 33 := ⟨hS.1.other _ _ hgv, hS.2.other _ _ (by have := HGL.out.1; show gx ≠ gB; omega)⟩
    refine wpAnyH_skip 6 (y2.setCell ⟨gB, 0, none⟩ (.slice a7 n7 c7)) (by kernel_rfl) rfl (by rfl) (by simp [go_sem, cb2, fb2]) hS ?_
    simp only [Act.put, List.getElem_toArray, List.getElem_cons_succ, List.getElem_cons_zero]
    refine wpAnyH_done (by kernel_rfl) ?_ _
    show Code.wpIn _ _ _ _ _ _ _
    obtain ⟨vh, us, hM⟩ := HIW.out.mid (by have := HGE.out; omega) (by have h1 := HGE.out; have h2 := HGS.out; omega) HQ2.out HF7.out (HF7.out.rd.lt (by rw [← HUP.out]; exact nodeB_pos _ _ _))
    obtain ⟨ah, ch, hvh⟩ := hM.own.form
    obtain ⟨nh, HNH⟩ : ∃ z, Hid (z = us.length) := ⟨_, rfl⟩
    rw [← HNH.out] at hvh
    subst hvh
    have HUL : Hid (us.length < 1000000) := by
      show _ < _
      rw [hM.good.1, upL_len]
      have h1 := HLN.out
      have h2 := HL.out
      omega
    have HM : Hid (UpM v0 gB gH gs (.slice ads n cps) x b0 sd pre k W (.slice ah nh ch) us (.slice a7 n7 c7) (y2.setCell ⟨gB, 0, none⟩ (.slice a7 n7 c7))) := hM
    clear hM hS cb2 fb2 hb5 hq1 hq2 hf7 cb1 cb0 HQ2 HF7
    generalize y2.setCell ⟨gB, 0, none⟩ (.slice a7 n7 c7) = y3 at *
    have cH : y3.cell? ⟨gH, 0, none⟩ = some (.slice ah nh ch) := HM.out.hb.cell 0
    have cB : y3.cell? ⟨gB, 0, none⟩ = some (.slice a7 n7 c7) := HM.out.bb.cell 0
    refine wpIn_round_list (by kernel_rfl) (by rintro ⟨_, _, h⟩; exact h) ?_
    refine wpSeq_val (.slice ah nh ch) y3 (by rfl) (by simp [go_sem, cH]) ?_
    simp only [Act.put, List.setIfInBounds_toArray, List.set_cons_zero, List.set_cons_succ]
    refine wpSeq_val (.slice a7 n7 c7) y3 (by rfl) (by simp [go_sem, cB]) ?_
    simp only [Act.put, List.setIfInBounds_toArray, List.set_cons_zero, List.set_cons_succ]
    refine wpSeq_val (.slice (some ⟨y3.heap.size, 0, none⟩) 1 1) (y3.alloc (.cells [Value.slice a7 n7 c7].toArray 23)) (by rfl) (by simp [go_sem]) ?_
    simp only [Act.put, List.setIfInBounds_toArray, List.set_cons_zero, List.set_cons_succ]
    have hba : Below y3.heap.size y3 (y3.alloc (.cells [Value.slice a7 n7 c7].toArray 23)) := below_alloc _ _
    refine wpSeq_appendT (.tmp 24) (.tmp 26) (gB + 1) (.slice ah nh ch) (.slice a7 n7 c7) us y3.heap.size (HM.out.own.same fun j hj => hba.block j (HM.out.own.lt j hj).2) ((Blk.new y3 [.slice a7 n7 c7] 23).cell 0) rfl HUL.out (Nat.le_trans (by have := HM.out.u.ge; omega) hba.size) rfl rfl rfl rfl ?_
    intro vh2 y5 ho hg hl
    obtain ⟨a5, c5, hv5⟩ := ho.form
    obtain ⟨n5, HN5⟩ : ∃ z, Hid (z = (us ++ [Value.slice a7 n7 c7]).length) := ⟨_, rfl⟩
    rw [← HN5.out] at hv5
    subst hv5
    have hb9 := HM.out.at5 hg
    have cH5 : y5.cell? ⟨gH, 0, none⟩ = some (.slice ah nh ch) := hb9.cell 0
    have fH5 : y5.frozen? ⟨gH, 0, none⟩ = false := hb9.frozen 0
    simp only [Act.put, List.setIfInBounds_toArray, List.set_cons_zero, List.set_cons_succ]
    refine wpSeq_skip8 (y5.setCell ⟨gH, 0, none⟩ (.slice a5 n5 c5)) (by rfl) (by simp [go_sem, cH5, fH5]) ?_
    exact HM.out.step (by have := HGE.out; omega) (by have h1 := HGE.out; have h2 := HGS.out; omega) ho hg hl
  case done =>
    rintro D ys W hD hys hI hK
    subst hys
    obtain ⟨vh, us, hb1, hown, hgood⟩ := hI.hh
    obtain ⟨a1, c1, hv1⟩ := hown.form
    obtain ⟨n1, HN1⟩ : ∃ z, Hid (z = us.length) := ⟨_, rfl⟩
    rw [← HN1.out] at hv1
    subst hv1
    have hul : us.length = sd.length + 1 := by rw [hgood.1, upL_len, backN_len]; omega
    have HD : Hid (w.heap.size ≤ D) := Nat.le_trans (Nat.le_trans HI.out.h.bel.size (by rw [← HGB.out]; have := HZ1.out; omega)) hD
    have HBW : Hid (Below w.heap.size w W) := HI.out.h.bel.trans ((by rw [← HGB.out]; exact hI.u.bel : Below v0.heap.size v0 W).mono HI.out.h.bel.size)
    have HWG : Hid (w.heap.size ≤ gB) := by show _ ≤ _; rw [HGB.out]; exact HI.out.h.bel.size
    have HREV : Hid (Calls Tryd.prog 53 #[.slice a1 n1 c1] W fun e w' => e = .returned (.tuple #[]) ∧ ReadsL w' (.slice a1 n1 c1) (hashL x b0 0 sd) ∧ (∀ j, some j ≠ (Value.slice a1 n1 c1).ownBlock → j < W.heap.size → w'.heap[j]? = W.heap[j]?) ∧ (∀ (B : Nat) (v : World), Below B v W → B ≤ gB + 1 → B ≤ W.heap.size → Below B v w')) := by
      rw [← HRU.out]
      exact revT_any W (gB + 1) _ us _ hown hgood.1 (by omega) (by have := HL.out; omega) (fun j u hj => ⟨(hgood.2 j u hj).1, fun k hk => ⟨((hgood.2 j u hj).2 k hk).1, ((hgood.2 j u hj).2 k hk).2.2.2.2⟩⟩)
    have HHB : Hid (Blk W gH [.slice a1 n1 c1] 22) := hb1
    have HHN : Hid (some gH ≠ (Value.slice a1 n1 c1).ownBlock) := fun e => hown.ne hb1 (by decide) gH e.symm rfl
    have HKD : Hid (W.heap[D]? = some (.deferred (some []))) := hK
    have HDN : Hid (some D ≠ (Value.slice a1 n1 c1).ownBlock) := fun e => by
      obtain ⟨_, h2⟩ := hown
      rcases h2 with ⟨h3, _⟩ | ⟨g2, cap, cur, h3, _, hh, _⟩
      · rw [h3] at e; simp [Value.ownBlock] at e
      · rw [h3] at e
        simp only [Value.ownBlock, Option.some.injEq] at e
        subst e
        rw [hK] at hh
        cases hh
    have ch : W.cell? ⟨gH, 0, none⟩ = some (.slice a1 n1 c1) := hb1.cell 0
    clear hI hb1 hown hgood hul hK hD
    gi_wp2
    go_wp2_with (first
      | (go_at_call 53; refine HREV.out.mono ?_; rintro e W2 ⟨rfl, hrl, hsm, hbel⟩
         have HRL : Hid (ReadsL W2 (.slice a1 n1 c1) (hashL x b0 0 sd)) := hrl
         have HKD2 : Hid (W2.heap[D]? = some (.deferred (some []))) := by show _ = _; rw [hsm D HDN.out (Array.getElem?_eq_some_iff.1 HKD.out).1]; exact HKD.out
         have HHB2 : Hid (Blk W2 gH [.slice a1 n1 c1] 22) := by
           have h := HHB.out
           have hlt := h.lt
           unfold Blk at *
           show _ = _
           rw [hsm gH HHN.out hlt]; exact h
         have HB2 : Hid (Below w.heap.size w W2) := hbel _ _ HBW.out (by have := HWG.out; omega) HBW.out.size
         have ch2 : W2.cell? ⟨gH, 0, none⟩ = some (.slice a1 n1 c1) := HHB2.out.cell 0
         clear hrl hsm hbel ch))
    all_goals
      refine ⟨by simp, .inl ⟨_, _, rfl, run_takeDeferred HKD2.out, ?_⟩⟩
      refine ⟨.slice a1 n1 c1, ?_, _, rfl, HRL.out.kept (grownBy_putObj' _ D _) (fun r e => by cases e; exact ⟨_, HKD2.out, rfl⟩), HB2.out.trans (belowK_b (w := w) (Nat.le_refl _) _ D _ _ HD.out HKD2.out rfl rfl)⟩
      simp [results, Tryd.f34, go_sem]
  case stop =>
    rintro D c pre W _ _ hX _
    exact hX.elim
end Go.Proofs.YtpeifpoeeopecaaDoor
/- The walk of the reference's Check (layer 8). -/
namespace Go.Proofs.YtpeifpoeeopecaaDoor
open Go.RowKit
set_option maxRecDepth 100000
/-- where Check stands -/
structure Ck (w : World) (gr gx gp gz : Nat) (r x : List (BitVec 8)) (vs : Value) (sd : List (List (BitVec 8))) (en : Int) (ix va : List (BitVec 8)) (W : World) : Prop where
  rb : Blk W gr (cb r) 33
  xb : Blk W gx (cb x) 33
  pb : Blk W gp (prfV vs en ix va) 36
  zb : Blk W gz (cb zb32) 33
  rd : ReadsD W vs sd
  bel : Below w.heap.size w W
  gz : w.heap.size ≤ gz
theorem Ck.next {w W W' : World} {gr gx gp gz : Nat} {r x : List (BitVec 8)} {vs : Value} {sd : List (List (BitVec 8))} {en : Int} {ix va : List (BitVec 8)} (h : Ck w gr gx gp gz r x vs sd en ix va W) (hb : Below W.heap.size W W') : Ck w gr gx gp gz r x vs sd en ix va W' :=
  ⟨h.rb.below hb h.rb.lt, h.xb.below hb h.xb.lt, h.pb.below hb h.pb.lt, h.zb.below hb h.zb.lt, h.rd.below hb, h.bel.trans (hb.mono h.bel.size), h.gz⟩
end Go.Proofs.YtpeifpoeeopecaaDoor
/- The walks of proof.wrong and proof.Check (layer 8, the program's own): PfOps. -/
namespace Go.Proofs.YtpeifpoeeopecaaDoor
open Go.RowKit
set_option maxRecDepth 100000
/-- the frame's own blocks -/
structure Cw (w : World) (gr gx gp : Nat) (r x : List (BitVec 8)) (vs : Value) (sd : List (List (BitVec 8))) (en : Int) (ix va : List (BitVec 8)) (W : World) : Prop where
  rb : Blk W gr (cb r) 33
  xb : Blk W gx (cb x) 33
  pb : Blk W gp (prfV vs en ix va) 36
  rd : ReadsD W vs sd
  bel : Below w.heap.size w W
  k0 : KOk w
theorem Cw.next {w W W' : World} {gr gx gp : Nat} {r x : List (BitVec 8)} {vs : Value} {sd : List (List (BitVec 8))} {en : Int} {ix va : List (BitVec 8)} (h : Cw w gr gx gp r x vs sd en ix va W) (hb : Below W.heap.size W W') : Cw w gr gx gp r x vs sd en ix va W' :=
  ⟨h.rb.below hb h.rb.lt, h.xb.below hb h.xb.lt, h.pb.below hb h.pb.lt, h.rd.below hb, h.bel.trans (hb.mono h.bel.size), h.k0⟩
theorem Cw.kk {w W : World} {gr gx gp : Nat} {r x : List (BitVec 8)} {vs : Value} {sd : List (List (BitVec 8))} {en : Int} {ix va : List (BitVec 8)} (h : Cw w gr gx gp r x vs sd en ix va W) : KOk W := h.k0.below h.bel h.k0.lt
theorem Cw.drew {w W : World} {gr gx gp : Nat} {r x : List (BitVec 8)} {vs : Value} {sd : List (List (BitVec 8))} {en : Int} {ix va : List (BitVec 8)} (h : Cw w gr gx gp r x vs sd en ix va W) : Cw w gr gx gp r x vs sd en ix va W.drew := h.next (Below.refl _ _).drew
set_option maxRecDepth 100000 in
set_option maxHeartbeats 16000000 in
theorem pfWrong_any (r x : List (BitVec 8)) (vs : Value) (sd : List (List (BitVec 8))) (en : Int) (ix va : List (BitVec 8)) (w : World) (hK : KOk w) (hr : r.length = 32) (hx : x.length = 32) (hix : ix.length = 32) (hva : va.length = 32) (hR : ReadsD w vs sd) (hl : sd.length ≤ 1000) :
    Calls Tryd.prog 36 #[.agg (cb r).toArray, .agg (cb x).toArray, .agg (prfV vs en ix va).toArray] w fun e w' => e = .returned (.int .i64 (chkE (checkW r x sd en ix va))) ∧ Below w.heap.size w w' := by
  have HR0 : Hid (r.length = 32) := hr
  have HXL : Hid (x.length = 32) := hx
  have HIL : Hid (ix.length = 32) := hix
  have HVL : Hid (va.length = 32) := hva
  have HL : Hid (sd.length ≤ 1000) := hl
  have HRD : Hid (ReadsD w vs sd) := hR
  have HK0 : Hid (KOk w) := hK
  obtain ⟨n, HN⟩ : ∃ n, Hid (n = sd.length) := ⟨_, rfl⟩
  obtain ⟨ads, cps, hvs⟩ := hR.slice
  rw [← HN.out] at hvs
  subst hvs
  obtain ⟨cs, HCS⟩ : ∃ c, Hid (c = prfV (.slice ads n cps) en ix va) := ⟨_, rfl⟩
  have HC6 : Hid (cs.length = 66) := by show _ = _; rw [HCS.out]; exact prfV_len hix hva
  obtain ⟨y, HRT⟩ : ∃ r, Hid (r = topL x (endB en ix va) 0 sd) := ⟨_, rfl⟩
  have HYL : Hid (y.length = 32) := by show _ = _; rw [HRT.out]; exact topL_len _ _ _ _
  obtain ⟨o, HO⟩ : ∃ o, Hid (o = checkW r x sd en ix va) := ⟨_, rfl⟩
  obtain ⟨rt, HRI⟩ : ∃ b, Hid (b = rightB sd.length en ix va) := ⟨_, rfl⟩
  obtain ⟨un, HUN⟩ : ∃ b, Hid (b = decide ((n : Int) ≤ (common ix x : Int))) := ⟨_, rfl⟩
  have HC1 : Hid (∀ W, ReadsD W (.slice ads n cps) sd → Calls Tryd.prog 56 #[.agg cs.toArray] W fun e w' => e = .returned (.bool rt) ∧ Below W.heap.size W w') := fun W hh => by rw [HCS.out, HRI.out]; exact rright_any _ sd en ix va hix hva W hh
  have HC2 : Hid (∀ W, Calls Tryd.prog 57 #[.agg (cb ix).toArray, .agg (cb x).toArray, .int .i64 (n : Int)] W fun e w' => e = .returned (.bool un) ∧ Below W.heap.size W w') := fun W => by rw [HUN.out]; exact pUnder_any ix x hix hx _ W
  have HC3 : Hid (∀ W, KOk W → ReadsD W (.slice ads n cps) sd → Calls Tryd.prog 58 #[.agg (cb x).toArray, .agg cs.toArray] W fun e w' => e = .returned (.agg (cb y).toArray) ∧ Below W.heap.size W w') := fun W hk hh => by rw [HCS.out, HRT.out]; exact pfRoot_any x _ sd en ix va W hk hx hix hva hh hl
  have hey : ∀ wx : World, (Op.equalIn 10000 33 (.agg (cb y).toArray) (.agg (cb r).toArray)).run Tryd.prog wx = .ok (decide (y = r)) wx := fun wx => eq_dig y r HYL.out HR0.out wx
  have HBAD : Hid (rt = false ∨ (en = 1 ∧ un = false) ∨ y ≠ r → chkE o = 15) := fun h => by
    show _ = _
    have : o = Option.none := by
      rw [HO.out]; unfold checkW
      rw [if_pos]
      rcases h with h | ⟨h1, h2⟩ | h
      · exact Or.inl (by rw [← h, HRI.out]; rfl)
      · refine Or.inr (Or.inl ⟨h1, ?_⟩)
        rw [HUN.out, decide_eq_false_iff_not] at h2
        have := HN.out
        omega
      · exact Or.inr (Or.inr (by rw [← HRT.out]; exact h))
    rw [this]; rfl
  have HGOOD : Hid (rt = true → (en = 1 → un = true) → y = r → chkE o = 0) := fun h1 h2 h3 => by
    show _ = _
    have : o = if en = 1 ∧ ix = x then some (some va) else some Option.none := by
      rw [HO.out]; unfold checkW
      rw [if_neg]
      rintro (h | ⟨h4, h5⟩ | h)
      · rw [show rightW sd.length en ix va = rt by rw [HRI.out]; rfl, h1] at h; cases h
      · have h6 := h2 h4
        rw [HUN.out, decide_eq_true_iff] at h6
        have := HN.out
        omega
      · exact h (by rw [← HRT.out]; exact h3)
    rw [this]
    split <;> rfl
  rw [← HO.out, ← HCS.out]
  clear hr hx hix hva hl hR hK HUN HRI
  go_enter Tryd.func36, Tryd.ntmps36
  go_upto_region 1 with (first
    | (with_reducible refine wpSeq_boxD (.tmp 0) r ?_ ?_ ?_ ?_
       · rfl
       · rfl
       · rfl
       intro gr w0 nn0)
    | (with_reducible refine wpSeq_boxD (.tmp 1) x ?_ ?_ ?_ ?_
       · rfl
       · rfl
       · rfl
       intro gx w1 nn1)
    | (with_reducible refine wpSeq_boxP (.tmp 2) cs ?_ ?_ ?_ ?_
       · rfl
       · rfl
       · rfl
       intro gp w2 nn2
       have HI : Hid (Cw w gr gx gp r x (.slice ads n cps) sd en ix va w2) := by
         have hb1 := nn0.below.trans (nn1.below.mono nn0.below.size)
         have hb2 := hb1.trans (nn2.below.mono hb1.size)
         have r1 := nn0.blk.below nn1.below nn0.blk.lt
         refine ⟨r1.below nn2.below r1.lt, nn1.blk.below nn2.below nn1.blk.lt, ?_, HRD.out.below hb2, hb2, HK0.out⟩
         rw [← HCS.out]; exact nn2.blk
       clear nn0 nn1 nn2 HRD HK0))
  have HCP : Hid (∀ W, Cw w gr gx gp r x (.slice ads n cps) sd en ix va W → Blk W gp cs 36) := fun W h => by rw [HCS.out]; exact h.pb
  cases rt with
  | false =>
    have HNO : Hid (chkE o = 15) := HBAD.out (Or.inl rfl)
    clear HBAD HGOOD hey HC2 HC3
    go_wp2_with (first
      | (with_reducible refine wpSeq_loadP (.tmp 5) gp cs ?_ ?_ ?_ ?_ ?_ ?_
         · exact HC6.out
         · exact HCP.out _ HI.out
         · rfl
         · rfl
         · rfl)
      | (go_at_call 56; refine (HC1.out _ HI.out.rd).mono ?_; rintro e w3 ⟨rfl, hb3⟩
         replace HI : Hid (Cw w gr gx gp r x (.slice ads n cps) sd en ix va w3) := HI.out.next hb3
         clear hb3))
    go_ret
    exact ⟨by rw [HNO.out]; rfl, HI.out.bel⟩
  | true =>
    go_upto_region 2 with (first
      | (with_reducible refine wpSeq_loadP (.tmp 5) gp cs ?_ ?_ ?_ ?_ ?_ ?_
         · exact HC6.out
         · exact HCP.out _ HI.out
         · rfl
         · rfl
         · rfl)
      | (go_at_call 56; refine (HC1.out _ HI.out.rd).mono ?_; rintro e w3 ⟨rfl, hb3⟩
         replace HI : Hid (Cw w gr gx gp r x (.slice ads n cps) sd en ix va w3) := HI.out.next hb3
         clear hb3))
    by_cases he : en = 1
    · subst he
      have c1 : w3.cell? ⟨gp, 1, none⟩ = some (.int .i64 1) := HI.out.pb.cell 1
      have c0 : w3.cell? ⟨gp, 0, none⟩ = some (.slice ads n cps) := HI.out.pb.cell 0
      cases un with
      | false =>
        have HNO : Hid (chkE o = 15) := HBAD.out (Or.inr (Or.inl ⟨rfl, rfl⟩))
        clear HBAD HGOOD hey HC1 HC3
        go_wp2_with (first
          | (with_reducible refine wpSeq_loadR (.tmp 16) ?_ ?_ gp 2 ?_ (cb ix) (prfV_rix HI.out.pb) (infoD ix HIL.out) ?_
             · rfl
             · rfl
             · rfl)
          | (with_reducible refine wpSeq_loadD (.tmp 4) gx x ?_ ?_ ?_ ?_ ?_ ?_
             · exact HXL.out
             · exact HI.out.xb
             · with_reducible rfl
             · rfl
             · rfl)
          | (go_at_call 57; refine (HC2.out _).mono ?_; rintro e w4 ⟨rfl, hb4⟩
             replace HI : Hid (Cw w gr gx gp r x (.slice ads n cps) sd 1 ix va w4) := HI.out.next hb4
             clear hb4 c1 c0))
        go_ret
        exact ⟨by rw [HNO.out]; rfl, HI.out.bel⟩
      | true =>
        go_upto_region 3 with (first
          | (with_reducible refine wpSeq_loadR (.tmp 16) ?_ ?_ gp 2 ?_ (cb ix) (prfV_rix HI.out.pb) (infoD ix HIL.out) ?_
             · rfl
             · rfl
             · rfl)
          | (with_reducible refine wpSeq_loadD (.tmp 4) gx x ?_ ?_ ?_ ?_ ?_ ?_
             · exact HXL.out
             · exact HI.out.xb
             · with_reducible rfl
             · rfl
             · rfl)
          | (go_at_call 57; refine (HC2.out _).mono ?_; rintro e w4 ⟨rfl, hb4⟩
             replace HI : Hid (Cw w gr gx gp r x (.slice ads n cps) sd 1 ix va w4) := HI.out.next hb4
             clear hb4 c1 c0))
        refine wp_region_held_drew (S := Cw w gr gx gp r x (.slice ads n cps) sd 1 ix va) (by kernel_rfl) HI.out.drew ?_
        intro hS
        refine wpAnyH_take (i := 0) (v := .agg (cb x).toArray) rfl (by kernel_rfl) (by kernel_rfl) (by kernel_rfl) (fun _ _ _ h => h) (Or.inl ⟨by rfl, fun wx hx => by exact loadDigest _ gx x HXL.out hx.xb rfl rfl⟩) hS ?_
        simp only [Act.put, List.getElem_toArray, List.getElem_cons_zero, List.setIfInBounds_toArray, List.set_cons_zero, List.set_cons_succ]
        refine wpAnyH_take (i := 1) (v := .agg cs.toArray) rfl (by kernel_rfl) (by kernel_rfl) (by kernel_rfl) (fun _ _ _ h => h) (Or.inl ⟨by rfl, fun wx hx => by exact load_run 36 _ rfl gp 0 rfl cs _ (HCP.out _ hx).range Tryd.underlying36 rfl (by rw [HC6.out]; exact info_proof)⟩) hS ?_
        simp only [Act.put, List.getElem_toArray, List.getElem_cons_succ, List.getElem_cons_zero, List.setIfInBounds_toArray, List.set_cons_zero, List.set_cons_succ]
        refine wpAnyH_take (i := 3) (v := .agg (cb r).toArray) rfl (by kernel_rfl) (by kernel_rfl) (by kernel_rfl) (fun _ _ _ h => h) (Or.inl ⟨by rfl, fun wx hx => by exact loadDigest _ gr r HR0.out hx.rb rfl rfl⟩) hS ?_
        simp only [Act.put, List.getElem_toArray, List.getElem_cons_succ, List.getElem_cons_zero, List.setIfInBounds_toArray, List.set_cons_zero, List.set_cons_succ]
        refine wpAnyH_enter 2 (by kernel_rfl) rfl (by rfl) (f := 58) (args := #[.agg (cb x).toArray, .agg cs.toArray]) (by simp [go_sem]) (HC3.out _ hS.kk hS.rd) ?_
        rintro e y2 ⟨rfl, hbq⟩
        replace hS := hS.next hbq
        refine ⟨_, rfl, hS, ?_⟩
        clear hbq
        simp only [Act.put, List.getElem_toArray, List.getElem_cons_succ, List.getElem_cons_zero, List.setIfInBounds_toArray, List.set_cons_zero, List.set_cons_succ]
        refine wpAnyH_take (i := 4) (v := .bool (!decide (y = r))) rfl (by kernel_rfl) (by kernel_rfl) (by kernel_rfl) (fun _ _ _ h => h) (Or.inl ⟨by rfl, fun wx hx => by (have hq := hey wx; simp [go_sem, hq])⟩) hS ?_
        simp only [Act.put, List.getElem_toArray, List.getElem_cons_succ, List.getElem_cons_zero, List.setIfInBounds_toArray, List.set_cons_zero, List.set_cons_succ]
        refine wpAnyH_take (i := 5) (v := .bool (!decide (y = r))) rfl (by kernel_rfl) (by kernel_rfl) (by kernel_rfl) (fun _ _ _ h => h) (Or.inl ⟨by rfl, fun wx hx => by simp [go_sem]⟩) hS ?_
        simp only [Act.put, List.getElem_toArray, List.getElem_cons_succ, List.getElem_cons_zero, List.setIfInBounds_toArray, List.set_cons_zero, List.set_cons_succ]
        refine wpAnyH_done (by kernel_rfl) ?_ _
        have HBW : Hid (Below w.heap.size w y2) := hS.bel
        clear hS HI
        by_cases hyr : y = r
        · rw [decide_eq_true hyr, Bool.not_true]
          have HOK : Hid (chkE o = 0) := HGOOD.out (by simp) (by simp) hyr
          clear HBAD HGOOD hey hyr HC1 HC2 HC3 HCP
          go_wp2
          go_ret
          exact ⟨by rw [HOK.out]; rfl, HBW.out⟩
        · rw [decide_eq_false hyr, Bool.not_false]
          have HNO : Hid (chkE o = 15) := HBAD.out (Or.inr (Or.inr hyr))
          clear HBAD HGOOD hey hyr HC1 HC2 HC3 HCP
          go_wp2
          go_ret
          exact ⟨by rw [HNO.out]; rfl, HBW.out⟩
    · have he2 : (en == 1) = false := by rw [beq_eq_false_iff_ne]; exact he
      have c1 : w3.cell? ⟨gp, 1, none⟩ = some (.int .i64 en) := HI.out.pb.cell 1
      go_upto_region 3 with fail
      clear c1
      refine wp_region_held_drew (S := Cw w gr gx gp r x (.slice ads n cps) sd en ix va) (by kernel_rfl) HI.out.drew ?_
      intro hS
      refine wpAnyH_take (i := 0) (v := .agg (cb x).toArray) rfl (by kernel_rfl) (by kernel_rfl) (by kernel_rfl) (fun _ _ _ h => h) (Or.inl ⟨by rfl, fun wx hx => by exact loadDigest _ gx x HXL.out hx.xb rfl rfl⟩) hS ?_
      simp only [Act.put, List.getElem_toArray, List.getElem_cons_zero, List.setIfInBounds_toArray, List.set_cons_zero, List.set_cons_succ]
      refine wpAnyH_take (i := 1) (v := .agg cs.toArray) rfl (by kernel_rfl) (by kernel_rfl) (by kernel_rfl) (fun _ _ _ h => h) (Or.inl ⟨by rfl, fun wx hx => by exact load_run 36 _ rfl gp 0 rfl cs _ (HCP.out _ hx).range Tryd.underlying36 rfl (by rw [HC6.out]; exact info_proof)⟩) hS ?_
      simp only [Act.put, List.getElem_toArray, List.getElem_cons_succ, List.getElem_cons_zero, List.setIfInBounds_toArray, List.set_cons_zero, List.set_cons_succ]
      refine wpAnyH_take (i := 3) (v := .agg (cb r).toArray) rfl (by kernel_rfl) (by kernel_rfl) (by kernel_rfl) (fun _ _ _ h => h) (Or.inl ⟨by rfl, fun wx hx => by exact loadDigest _ gr r HR0.out hx.rb rfl rfl⟩) hS ?_
      simp only [Act.put, List.getElem_toArray, List.getElem_cons_succ, List.getElem_cons_zero, List.setIfInBounds_toArray, List.set_cons_zero, List.set_cons_succ]
      refine wpAnyH_enter 2 (by kernel_rfl) rfl (by rfl) (f := 58) (args := #[.agg (cb x).toArray, .agg cs.toArray]) (by simp [go_sem]) (HC3.out _ hS.kk hS.rd) ?_
      rintro e y2 ⟨rfl, hbq⟩
      replace hS := hS.next hbq
      refine ⟨_, rfl, hS, ?_⟩
      clear hbq
      simp only [Act.put, List.getElem_toArray, List.getElem_cons_succ, List.getElem_cons_zero, List.setIfInBounds_toArray, List.set_cons_zero, List.set_cons_succ]
      refine wpAnyH_take (i := 4) (v := .bool (!decide (y = r))) rfl (by kernel_rfl) (by kernel_rfl) (by kernel_rfl) (fun _ _ _ h => h) (Or.inl ⟨by rfl, fun wx hx => by (have hq := hey wx; simp [go_sem, hq])⟩) hS ?_
      simp only [Act.put, List.getElem_toArray, List.getElem_cons_succ, List.getElem_cons_zero, List.setIfInBounds_toArray, List.set_cons_zero, List.set_cons_succ]
      refine wpAnyH_take (i := 5) (v := .bool (!decide (y = r))) rfl (by kernel_rfl) (by kernel_rfl) (by kernel_rfl) (fun _ _ _ h => h) (Or.inl ⟨by rfl, fun wx hx => by simp [go_sem]⟩) hS ?_
      simp only [Act.put, List.getElem_toArray, List.getElem_cons_succ, List.getElem_cons_zero, List.setIfInBounds_toArray, List.set_cons_zero, List.set_cons_succ]
      refine wpAnyH_done (by kernel_rfl) ?_ _
      have HBW : Hid (Below w.heap.size w y2) := hS.bel
      clear hS HI
      by_cases hyr : y = r
      · rw [decide_eq_true hyr, Bool.not_true]
        have HOK : Hid (chkE o = 0) := HGOOD.out (by simp) (fun h => absurd h he) hyr
        clear HBAD HGOOD hey hyr HC1 HC2 HC3 HCP
        go_wp2
        go_ret
        exact ⟨by rw [HOK.out]; rfl, HBW.out⟩
      · rw [decide_eq_false hyr, Bool.not_false]
        have HNO : Hid (chkE o = 15) := HBAD.out (Or.inr (Or.inr hyr))
        clear HBAD HGOOD hey hyr HC1 HC2 HC3 HCP
        go_wp2
        go_ret
        exact ⟨by rw [HNO.out]; rfl, HBW.out⟩
set_option maxRecDepth 100000 in
set_option maxHeartbeats 16000000 in
theorem pfCheck_any (r x : List (BitVec 8)) (vs : Value) (sd : List (List (BitVec 8))) (en : Int) (ix va : List (BitVec 8)) (w : World) (hK : KOk w) (hr : r.length = 32) (hx : x.length = 32) (hix : ix.length = 32) (hva : va.length = 32) (hR : ReadsD w vs sd) (hl : sd.length ≤ 1000) :
    Calls Tryd.prog 18 #[.agg (cb r).toArray, .agg (cb x).toArray, .agg (prfV vs en ix va).toArray] w fun e w' => e = .returned (chkR (checkW r x sd en ix va)) ∧ Below w.heap.size w w' := by
  have HR0 : Hid (r.length = 32) := hr
  have HXL : Hid (x.length = 32) := hx
  have HIL : Hid (ix.length = 32) := hix
  have HVL : Hid (va.length = 32) := hva
  have HL : Hid (sd.length ≤ 1000) := hl
  have HRD : Hid (ReadsD w vs sd) := hR
  have HK0 : Hid (KOk w) := hK
  obtain ⟨n, HN⟩ : ∃ n, Hid (n = sd.length) := ⟨_, rfl⟩
  obtain ⟨ads, cps, hvs⟩ := hR.slice
  rw [← HN.out] at hvs
  subst hvs
  obtain ⟨cs, HCS⟩ : ∃ c, Hid (c = prfV (.slice ads n cps) en ix va) := ⟨_, rfl⟩
  have HC6 : Hid (cs.length = 66) := by show _ = _; rw [HCS.out]; exact prfV_len hix hva
  have hei : ∀ wx : World, (Op.equalIn 10000 33 (.agg (cb ix).toArray) (.agg (cb x).toArray)).run Tryd.prog wx = .ok (decide (ix = x)) wx := fun wx => eq_dig ix x HIL.out HXL.out wx
  obtain ⟨o, HO⟩ : ∃ o, Hid (o = checkW r x sd en ix va) := ⟨_, rfl⟩
  obtain ⟨ce, HCE⟩ : ∃ z, Hid (z = chkE o) := ⟨_, rfl⟩
  have HCW : Hid (∀ W, Below w.heap.size w W → ReadsD W (.slice ads n cps) sd → Calls Tryd.prog 36 #[.agg (cb r).toArray, .agg (cb x).toArray, .agg cs.toArray] W fun e w' => e = .returned (.int .i64 ce) ∧ Below W.heap.size W w') := fun W hb hh => by rw [HCS.out, HCE.out, HO.out]; exact pfWrong_any r x _ sd en ix va W (HK0.out.below hb HK0.out.lt) hr hx hix hva hh hl
  have HCASE : Hid (o = Option.none ∨ o = if en = 1 ∧ ix = x then some (some va) else some Option.none) := by
    show _ ∨ _
    rw [HO.out]; unfold checkW
    split
    · exact Or.inl rfl
    · exact Or.inr rfl
  rw [← HO.out, ← HCS.out]
  clear hr hx hix hva hl hR hK HO
  go_enter Tryd.func18, Tryd.ntmps18
  go_upto_region 1 with (first
    | (with_reducible refine wpSeq_boxD (.tmp 0) r ?_ ?_ ?_ ?_
       · rfl
       · rfl
       · rfl
       intro gr w0 nn0)
    | (with_reducible refine wpSeq_boxD (.tmp 1) x ?_ ?_ ?_ ?_
       · rfl
       · rfl
       · rfl
       intro gx w1 nn1)
    | (with_reducible refine wpSeq_boxP (.tmp 2) cs ?_ ?_ ?_ ?_
       · rfl
       · rfl
       · rfl
       intro gp w2 nn2)
    | (with_reducible refine wpSeq_allocD ?_ ?_ ?_
       · rfl
       · rfl
       intro gz w3 nn3
       have HI : Hid (Ck w gr gx gp gz r x (.slice ads n cps) sd en ix va w3) := by
         have hb1 := nn0.below.trans (nn1.below.mono nn0.below.size)
         have hb2 := hb1.trans (nn2.below.mono hb1.size)
         have hb3 := hb2.trans (nn3.below.mono hb2.size)
         have r1 := nn0.blk.below nn1.below nn0.blk.lt
         have r2 := r1.below nn2.below r1.lt
         have x2 := nn1.blk.below nn2.below nn1.blk.lt
         refine ⟨r2.below nn3.below r2.lt, x2.below nn3.below x2.lt, ?_, nn3.blk, HRD.out.below hb3, hb3, Nat.le_trans hb2.size nn3.ge⟩
         rw [← HCS.out]; exact nn2.blk.below nn3.below nn2.blk.lt
       clear nn0 nn1 nn2 nn3 HRD))
  have HCP : Hid (∀ W, Ck w gr gx gp gz r x (.slice ads n cps) sd en ix va W → Blk W gp cs 36) := fun W h => by rw [HCS.out]; exact h.pb
  go_upto_region 2 with (first
    | (with_reducible refine wpSeq_loadD (.tmp 3) gr r ?_ ?_ ?_ ?_ ?_ ?_
       · exact HR0.out
       · exact HI.out.rb
       · with_reducible rfl
       · rfl
       · rfl)
    | (with_reducible refine wpSeq_loadD (.tmp 4) gx x ?_ ?_ ?_ ?_ ?_ ?_
       · exact HXL.out
       · exact HI.out.xb
       · with_reducible rfl
       · rfl
       · rfl)
    | (with_reducible refine wpSeq_loadP (.tmp 5) gp cs ?_ ?_ ?_ ?_ ?_ ?_
       · exact HC6.out
       · exact HCP.out _ HI.out
       · rfl
       · rfl
       · rfl)
    | (go_at_call 36; refine (HCW.out _ HI.out.bel HI.out.rd).mono ?_; rintro e w4 ⟨rfl, hb4⟩
       replace HI : Hid (Ck w gr gx gp gz r x (.slice ads n cps) sd en ix va w4) := HI.out.next hb4
       clear hb4))
  rcases HCASE.out with ho | ho
  · have HNO : Hid (chkR o = Value.tuple #[Value.agg (cb zb32).toArray, Value.bool false, Value.int .i64 15]) := by show _ = _; rw [ho]; rfl
    have hce : ce = 15 := by rw [HCE.out, ho]; rfl
    subst hce
    clear ho HCASE hei HCW
    go_wp2_with (first
      | (with_reducible refine wpSeq_buildZ0 ?_ ?_ ?_
         · rfl
         · rfl
         skip)
      | (with_reducible refine wpSeq_storeD (.tmp 6) (.tmp 16) gz zb32 zb32 ?_ ?_ ?_ ?_ ?_ ?_ ?_ ?_
         · rfl
         · exact rfl
         · exact HI.out.zb
         · rfl
         · rfl
         · rfl
         · rfl
         intro W9 h9))
    rw [HNO.out]
    refine bodyPost_ret (v := Value.tuple #[Value.agg (cb zb32).toArray, Value.bool false, Value.int .i64 15]) ?_ rfl ⟨rfl, HI.out.bel.trans (h9.only.below HI.out.gz HI.out.bel.size)⟩
    exact results_row_tmps (by rfl) _ _ _ gz 33 (cb zb32) _ (.bool false) (.int .i64 15) rfl rfl rfl h9.blk Tryd.underlying33 rfl (by rw [cb_len]; exact info_digest)
  · have hce : ce = 0 := by rw [HCE.out, ho]; split <;> rfl
    subst hce
    by_cases he : en = 1
    · subst he
      by_cases hix : ix = x
      · have HOK : Hid (chkR o = Value.tuple #[Value.agg (cb va).toArray, Value.bool true, Value.int .i64 0]) := by show _ = _; rw [ho, if_pos ⟨rfl, hix⟩]; rfl
        have hq : ∀ wx : World, (Op.equalIn 10000 33 (.agg (cb ix).toArray) (.agg (cb x).toArray)).run Tryd.prog wx = .ok true wx := fun wx => by rw [hei, decide_eq_true hix]
        have c1 : w4.cell? ⟨gp, 1, none⟩ = some (.int .i64 1) := HI.out.pb.cell 1
        clear ho HCASE hei HCW hix
        go_wp2_with (first
          | (with_reducible refine wpSeq_loadR (.tmp 22) ?_ ?_ gp 2 ?_ (cb ix) (prfV_rix HI.out.pb) (infoD ix HIL.out) ?_
             · rfl
             · rfl
             · rfl)
          | (with_reducible refine wpSeq_loadD (.tmp 4) gx x ?_ ?_ ?_ ?_ ?_ ?_
             · exact HXL.out
             · exact HI.out.xb
             · with_reducible rfl
             · rfl
             · rfl)
          | (with_reducible refine wpSeq_loadR (.tmp 28) ?_ ?_ gp 34 ?_ (cb va) (prfV_rva HI.out.pb HIL.out) (infoD va HVL.out) ?_
             · rfl
             · rfl
             · rfl)
          | (with_reducible refine wpSeq_storeD (.tmp 6) (.tmp 29) gz zb32 va ?_ ?_ ?_ ?_ ?_ ?_ ?_ ?_
             · rfl
             · exact HVL.out
             · exact HI.out.zb
             · rfl
             · rfl
             · rfl
             · rfl
             intro W9 h9))
        rw [HOK.out]
        refine bodyPost_ret (v := Value.tuple #[Value.agg (cb va).toArray, Value.bool true, Value.int .i64 0]) ?_ rfl ⟨rfl, HI.out.bel.trans (h9.only.below HI.out.gz HI.out.bel.size)⟩
        exact results_row_tmps (by rfl) _ _ _ gz 33 (cb va) _ (.bool true) (.int .i64 0) rfl rfl rfl h9.blk Tryd.underlying33 rfl (by rw [cb_len, HVL.out]; exact info_digest)
      · have HOK : Hid (chkR o = Value.tuple #[Value.agg (cb zb32).toArray, Value.bool false, Value.int .i64 0]) := by show _ = _; rw [ho, if_neg (fun h => hix h.2)]; rfl
        have hq : ∀ wx : World, (Op.equalIn 10000 33 (.agg (cb ix).toArray) (.agg (cb x).toArray)).run Tryd.prog wx = .ok false wx := fun wx => by rw [hei, decide_eq_false hix]
        have c1 : w4.cell? ⟨gp, 1, none⟩ = some (.int .i64 1) := HI.out.pb.cell 1
        clear ho HCASE hei HCW hix
        go_wp2_with (first
          | (with_reducible refine wpSeq_loadR (.tmp 22) ?_ ?_ gp 2 ?_ (cb ix) (prfV_rix HI.out.pb) (infoD ix HIL.out) ?_
             · rfl
             · rfl
             · rfl)
          | (with_reducible refine wpSeq_loadD (.tmp 4) gx x ?_ ?_ ?_ ?_ ?_ ?_
             · exact HXL.out
             · exact HI.out.xb
             · with_reducible rfl
             · rfl
             · rfl)
          | (with_reducible refine wpSeq_buildZ0 ?_ ?_ ?_
             · rfl
             · rfl
             skip)
          | (with_reducible refine wpSeq_storeD (.tmp 6) (.tmp 27) gz zb32 zb32 ?_ ?_ ?_ ?_ ?_ ?_ ?_ ?_
             · rfl
             · exact rfl
             · exact HI.out.zb
             · rfl
             · rfl
             · rfl
             · rfl
             intro W9 h9))
        rw [HOK.out]
        refine bodyPost_ret (v := Value.tuple #[Value.agg (cb zb32).toArray, Value.bool false, Value.int .i64 0]) ?_ rfl ⟨rfl, HI.out.bel.trans (h9.only.below HI.out.gz HI.out.bel.size)⟩
        exact results_row_tmps (by rfl) _ _ _ gz 33 (cb zb32) _ (.bool false) (.int .i64 0) rfl rfl rfl h9.blk Tryd.underlying33 rfl (by rw [cb_len]; exact info_digest)
    · have HOK : Hid (chkR o = Value.tuple #[Value.agg (cb zb32).toArray, Value.bool false, Value.int .i64 0]) := by show _ = _; rw [ho, if_neg (fun h => he h.1)]; rfl
      have he2 : (en == 1) = false := by rw [beq_eq_false_iff_ne]; exact he
      have c1 : w4.cell? ⟨gp, 1, none⟩ = some (.int .i64 en) := HI.out.pb.cell 1
      clear ho HCASE hei HCW
      go_wp2_with (first
        | (with_reducible refine wpSeq_buildZ0 ?_ ?_ ?_
           · rfl
           · rfl
           skip)
        | (with_reducible refine wpSeq_storeD (.tmp 6) (.tmp 27) gz zb32 zb32 ?_ ?_ ?_ ?_ ?_ ?_ ?_ ?_
           · rfl
           · exact rfl
           · exact HI.out.zb
           · rfl
           · rfl
           · rfl
           · rfl
           intro W9 h9))
      rw [HOK.out]
      refine bodyPost_ret (v := Value.tuple #[Value.agg (cb zb32).toArray, Value.bool false, Value.int .i64 0]) ?_ rfl ⟨rfl, HI.out.bel.trans (h9.only.below HI.out.gz HI.out.bel.size)⟩
      exact results_row_tmps (by rfl) _ _ _ gz 33 (cb zb32) _ (.bool false) (.int .i64 0) rfl rfl rfl h9.blk Tryd.underlying33 rfl (by rw [cb_len]; exact info_digest)
/-- the program's functions are what the chapter says -/
theorem pfOps : PfOps :=
  ⟨fun W x vs sd en ix va hK hx hix hva hR hl => pfHashed_any x vs sd en ix va W hK hx hix hva hR (by omega), fun W x vs sd en ix va hK hx hix hva hR hl => pfRoot_any x vs sd en ix va W hK hx hix hva hR (by omega), fun W r x vs sd en ix va hK hr hx hix hva hR hl => pfCheck_any r x vs sd en ix va W hK hr hx hix hva hR (by omega)⟩
end Go.Proofs.YtpeifpoeeopecaaDoor
/- Plain: a root binds; the first pair of two lists (layer 9). -/
namespace Go.Proofs.YtpeifpoeeopecaaDoor
open Go.RowKit
set_option maxRecDepth 100000
/-- are two texts unlike, and of one digest? -/
def pairB9 (a b : List (BitVec 8)) : Bool := decide (a ≠ b) && decide (dig a = dig b)
theorem pairB9_iff {a b : List (BitVec 8)} : pairB9 a b = true ↔ a ≠ b ∧ dig a = dig b := by simp [pairB9]
/-- the first place of a pair -/
def firstI : List (List (BitVec 8)) → List (List (BitVec 8)) → Option Nat
  | a :: r, b :: t => if pairB9 a b = true then some 0 else (firstI r t).map (· + 1)
  | _, _ => none
theorem firstI_nil (a : List (List (BitVec 8))) : firstI a [] = none := by cases a <;> rfl
theorem firstI_at {a b : List (List (BitVec 8))} {k : Nat} (h : firstI a b = some k) : k < a.length ∧ k < b.length ∧ pairB9 (a.getD k []) (b.getD k []) = true ∧ ∀ j, j < k → pairB9 (a.getD j []) (b.getD j []) = false := by
  induction a generalizing b k with
  | nil => cases h
  | cons x r ih =>
    cases b with
    | nil => cases h
    | cons y t =>
      unfold firstI at h
      split at h
      · rename_i hp
        cases h
        exact ⟨by simp, by simp, hp, fun j hj => by omega⟩
      · rename_i hp
        cases hf : firstI r t with
        | none => rw [hf] at h; cases h
        | some m =>
          rw [hf] at h
          cases h
          obtain ⟨h1, h2, h3, h4⟩ := ih hf
          refine ⟨by simpa using h1, by simpa using h2, by simpa using h3, fun j hj => ?_⟩
          cases j with
          | zero => simpa using hp
          | succ j => simpa using h4 j (by have h9 : j + 1 < m + 1 := hj; omega)
theorem firstI_none {a b : List (List (BitVec 8))} (h : firstI a b = none) : ∀ j, j < a.length → j < b.length → pairB9 (a.getD j []) (b.getD j []) = false := by
  induction a generalizing b with
  | nil => intro j hj; simp at hj
  | cons x r ih =>
    cases b with
    | nil => intro j _ hj; simp at hj
    | cons y t =>
      unfold firstI at h
      split at h
      · cases h
      · rename_i hp
        have hf : firstI r t = none := by
          cases hf : firstI r t with
          | none => rfl
          | some m => rw [hf] at h; cases h
        intro j h1 h2
        cases j with
        | zero => simpa using hp
        | succ j => simpa using ih hf j (by simpa using h1) (by simpa using h2)
/-- what was gone over without a pair, and then a pair, or the end -/
theorem firstI_of {a b : List (List (BitVec 8))} {k : Nat} (h1 : k < a.length) (h2 : k < b.length) (hp : pairB9 (a.getD k []) (b.getD k []) = true) (hn : ∀ j, j < k → pairB9 (a.getD j []) (b.getD j []) = false) : firstI a b = some k := by
  cases h : firstI a b with
  | none => rw [firstI_none h k h1 h2] at hp; cases hp
  | some m =>
    obtain ⟨_, _, h3, h4⟩ := firstI_at h
    have e1 : ¬ m < k := fun e => by rw [hn m e] at h3; cases h3
    have e2 : ¬ k < m := fun e => by rw [h4 k e] at hp; cases hp
    rw [show m = k by omega]
theorem firstI_of_none {a b : List (List (BitVec 8))} {k : Nat} (hk : a.length ≤ k ∨ b.length ≤ k) (hn : ∀ j, j < k → pairB9 (a.getD j []) (b.getD j []) = false) : firstI a b = none := by
  cases h : firstI a b with
  | none => rfl
  | some m =>
    obtain ⟨h1, h2, h3, _⟩ := firstI_at h
    rw [hn m (by omega)] at h3; cases h3
theorem twoL_first {a b : List (List (BitVec 8))} (h : twoL a b) : ∃ k, firstI a b = some k := by
  obtain ⟨i, h1, h2, h3, h4⟩ := h
  cases hf : firstI a b with
  | none =>
    have := firstI_none hf i h1 h2
    rw [pairB9_iff.2 ⟨h3, h4⟩] at this
    cases this
  | some k => exact ⟨k, rfl⟩
/-- two ways of any lengths, from one root: the same, or two texts of one digest -/
theorem hash_parts (x b b' : List (BitVec 8)) (hb : b.head? ≠ some 78) (hb' : b'.head? ≠ some 78) (sd sd' : List (List (BitVec 8))) (d : Nat) (h1 : ∀ s ∈ sd, s.length = 32) (h2 : ∀ s ∈ sd', s.length = 32) (h : topL x b d sd = topL x b' d sd') :
    twoL (hashL x b d sd) (hashL x b' d sd') ∨ (sd = sd' ∧ b = b') := by
  induction sd generalizing sd' d with
  | nil =>
    cases sd' with
    | nil =>
      rw [topL_nil, topL_nil] at h
      by_cases e : b = b'
      · exact Or.inr ⟨rfl, e⟩
      · exact Or.inl (by rw [hashL_nil, hashL_nil]; exact twoL.head e h)
    | cons t r =>
      rw [topL_nil, topL_cons] at h
      refine Or.inl ?_
      rw [hashL_nil, hashL_cons]
      exact twoL.head (fun e => hb (by rw [e]; exact nodeB_head _ _ _)) h
  | cons s r ih =>
    cases sd' with
    | nil =>
      rw [topL_nil, topL_cons] at h
      refine Or.inl ?_
      rw [hashL_nil, hashL_cons]
      exact twoL.head (fun e => hb' (by rw [← e]; exact nodeB_head _ _ _)) h
    | cons t r' =>
      rw [topL_cons, topL_cons] at h
      rw [hashL_cons, hashL_cons]
      by_cases e : nodeB (bitI x d) s (topL x b (d + 1) r) = nodeB (bitI x d) t (topL x b' (d + 1) r')
      · obtain ⟨e1, e2⟩ := nodeB_eq (h1 s (by simp)) (h2 t (by simp)) (topL_len _ _ _ _) (topL_len _ _ _ _) e
        rcases ih r' (d + 1) (fun u hu => h1 u (by simp [hu])) (fun u hu => h2 u (by simp [hu])) e2 with h3 | ⟨h3, h4⟩
        · exact Or.inl (h3.cons _ _)
        · exact Or.inr ⟨by rw [e1, h3], h4⟩
      · exact Or.inl (twoL.head e h)
theorem checkW_top {r x : List (BitVec 8)} {sd : List (List (BitVec 8))} {en : Int} {ix va : List (BitVec 8)} {o : Option (List (BitVec 8))} (h : checkW r x sd en ix va = some o) : topL x (endB en ix va) 0 sd = r ∧ o = if en = 1 ∧ ix = x then some va else none := by
  unfold checkW at h
  split at h
  · cases h
  · rename_i hc
    refine ⟨Classical.byContradiction fun hn => hc (Or.inr (Or.inr hn)), ?_⟩
    split at h
    · rename_i he
      rw [if_pos he]
      exact (Option.some.inj h).symm
    · rename_i he
      rw [if_neg he]
      exact (Option.some.inj h).symm
theorem endB_data {en en' : Int} {ix va ix' va' x : List (BitVec 8)} (hix : ix.length = 32) (hix' : ix'.length = 32) (h : endB en ix va = endB en' ix' va') : (if en = 1 ∧ ix = x then some va else none) = (if en' = 1 ∧ ix' = x then some va' else none) := by
  unfold endB at h
  by_cases e1 : en = 1
  · by_cases e2 : en' = 1
    · rw [if_pos e1, if_pos e2] at h
      obtain ⟨_, h3, h4⟩ := pairB_eq hix hix' h
      rw [h3, h4]
      simp [e1, e2]
    · rw [if_pos e1, if_neg e2] at h
      have h9 : some (76 : BitVec 8) = some 69 := congrArg List.head? h
      exact absurd h9 (by decide)
  · by_cases e2 : en' = 1
    · rw [if_neg e1, if_pos e2] at h
      have h9 : some (69 : BitVec 8) = some 76 := congrArg List.head? h
      exact absurd h9 (by decide)
    · rw [if_neg (fun h => e1 h.1), if_neg (fun h => e2 h.1)]
/-- 9.4: a root binds -/
theorem bind_two {r x : List (BitVec 8)} {sd sd' : List (List (BitVec 8))} {en en' : Int} {ix va ix' va' : List (BitVec 8)} {o o' : Option (List (BitVec 8))} (hix : ix.length = 32) (hix' : ix'.length = 32) (h1 : ∀ s ∈ sd, s.length = 32) (h2 : ∀ s ∈ sd', s.length = 32)
    (h : checkW r x sd en ix va = some o) (h' : checkW r x sd' en' ix' va' = some o') (hne : o ≠ o') : twoL (hashL x (endB en ix va) 0 sd) (hashL x (endB en' ix' va') 0 sd') := by
  obtain ⟨t1, e1⟩ := checkW_top h
  obtain ⟨t2, e2⟩ := checkW_top h'
  rcases hash_parts x _ _ (endB_head _ _ _) (endB_head _ _ _) sd sd' 0 h1 h2 (t1.trans t2.symm) with h3 | ⟨_, h4⟩
  · exact h3
  · exact absurd (by rw [e1, e2]; exact endB_data hix hix' h4) hne
end Go.Proofs.YtpeifpoeeopecaaDoor
/- What the functions of layer 9 do (ClOps). -/
namespace Go.Proofs.YtpeifpoeeopecaaDoor
open Go.RowKit
set_option maxRecDepth 100000
/-- what Pair tells of two texts -/
structure PairR (w : World) (a b : List (BitVec 8)) (x y : Value) (o : Bool) : Prop where
  eq : o = pairB9 a b
  yes : o = true → Reads w x a ∧ Reads w y b
  no : o = false → Reads w x [] ∧ Reads w y []
theorem PairR.below {w w' : World} {a b : List (BitVec 8)} {x y : Value} {o : Bool} (h : PairR w a b x y o) (hb : Below w.heap.size w w') : PairR w' a b x y o := ⟨h.eq, fun ho => ⟨(h.yes ho).1.below hb, (h.yes ho).2.below hb⟩, fun ho => ⟨(h.no ho).1.below hb, (h.no ho).2.below hb⟩⟩
/-- some texts are told: those of a pair, or none -/
theorem PairR.both {w : World} {a b : List (BitVec 8)} {x y : Value} {o : Bool} (h : PairR w a b x y o) : ∃ s t, Reads w x s ∧ Reads w y t ∧ ((o = true ∧ s = a ∧ t = b ∧ pairB9 a b = true) ∨ (o = false ∧ s = [] ∧ t = [] ∧ pairB9 a b = false)) := by
  cases ho : o with
  | true => exact ⟨a, b, (h.yes ho).1, (h.yes ho).2, Or.inl ⟨rfl, rfl, rfl, by rw [← h.eq, ho]⟩⟩
  | false => exact ⟨[], [], (h.no ho).1, (h.no ho).2, Or.inr ⟨rfl, rfl, rfl, by rw [← h.eq, ho]⟩⟩
/-- what First tells of two lists -/
structure FirstR (w : World) (a b : List (List (BitVec 8))) (x y : Value) (o : Bool) : Prop where
  eq : o = (firstI a b).isSome
  yes : ∀ k, firstI a b = some k → Reads w x (a.getD k []) ∧ Reads w y (b.getD k [])
  no : firstI a b = none → Reads w x [] ∧ Reads w y []
theorem FirstR.below {w w' : World} {a b : List (List (BitVec 8))} {x y : Value} {o : Bool} (h : FirstR w a b x y o) (hb : Below w.heap.size w w') : FirstR w' a b x y o := ⟨h.eq, fun k hk => ⟨(h.yes k hk).1.below hb, (h.yes k hk).2.below hb⟩, fun hk => ⟨(h.no hk).1.below hb, (h.no hk).2.below hb⟩⟩
theorem FirstR.both {w : World} {a b : List (List (BitVec 8))} {x y : Value} {o : Bool} (h : FirstR w a b x y o) : ∃ s t, Reads w x s ∧ Reads w y t ∧ ((∃ k, o = true ∧ firstI a b = some k ∧ s = a.getD k [] ∧ t = b.getD k [] ∧ pairB9 s t = true) ∨ (o = false ∧ firstI a b = none ∧ s = [] ∧ t = [])) := by
  cases hf : firstI a b with
  | none => exact ⟨[], [], (h.no hf).1, (h.no hf).2, Or.inr ⟨by rw [h.eq, hf]; rfl, rfl, rfl, rfl⟩⟩
  | some k => exact ⟨_, _, (h.yes k hf).1, (h.yes k hf).2, Or.inl ⟨k, by rw [h.eq, hf]; rfl, rfl, rfl, rfl, (firstI_at hf).2.2.1⟩⟩
abbrev root9V (sr : Nat) (x y z : List (BitVec 8)) : Value := .agg (Value.int .u64 (sr : Int) :: (cb x ++ (cb y ++ cb z))).toArray
abbrev bind9V (nm : List (BitVec 8)) (vk : Value) (sr : Nat) : Value := .agg #[.string (strB nm), vk, .int .u64 (sr : Int)]
/-- clash's functions, as the chapter says -/
structure ClOps : Prop where
  pair : ∀ (W : World) (va vb : Value) (a b : List (BitVec 8)), KOk W → Reads W va a → Reads W vb b → a.length < 140737488355000 → b.length < 140737488355000 →
    Calls Tryd.prog 11 #[va, vb] W fun e w' => ∃ x y o, e = .returned (.tuple #[x, y, .bool o]) ∧ PairR w' a b x y o ∧ Below W.heap.size W w'
  first : ∀ (W : World) (va vb : Value) (a b : List (List (BitVec 8))), KOk W → ReadsL W va a → ReadsL W vb b → a.length < 4611686018427387904 → (∀ t ∈ a, t.length < 140737488355000) → (∀ t ∈ b, t.length < 140737488355000) →
    Calls Tryd.prog 8 #[va, vb] W fun e w' => ∃ x y o, e = .returned (.tuple #[x, y, .bool o]) ∧ FirstR w' a b x y o ∧ Below W.heap.size W w'
  ways : ∀ (W : World) (i : List (BitVec 8)) (vp : Value) (sp : List (List (BitVec 8))) (ep : Int) (ixp vap : List (BitVec 8)) (vq : Value) (sq : List (List (BitVec 8))) (eq : Int) (ixq vaq : List (BitVec 8)), KOk W → i.length = 32 → ixp.length = 32 → vap.length = 32 → ixq.length = 32 → vaq.length = 32 → ReadsD W vp sp → ReadsD W vq sq → sp.length ≤ 300 → sq.length ≤ 300 →
    Calls Tryd.prog 15 #[.agg (cb i).toArray, .agg (prfV vp ep ixp vap).toArray, .agg (prfV vq eq ixq vaq).toArray] W fun e w' => ∃ x y o, e = .returned (.tuple #[x, y, .bool o]) ∧ FirstR w' (hashL i (endB ep ixp vap) 0 sp) (hashL i (endB eq ixq vaq) 0 sq) x y o ∧ Below W.heap.size W w'
  roots : ∀ (W : World) (n m : Nat) (x y z x' y' z' : List (BitVec 8)), KOk W → (x.length = 32 ∧ y.length = 32 ∧ z.length = 32 ∧ n < 18446744073709551616) → (x'.length = 32 ∧ y'.length = 32 ∧ z'.length = 32 ∧ m < 18446744073709551616) →
    Calls Tryd.prog 23 #[root9V n x y z, root9V m x' y' z'] W fun e w' => ∃ v u o, e = .returned (.tuple #[v, u, .bool o]) ∧ PairR w' (rootB n x y z) (rootB m x' y' z') v u o ∧ Below W.heap.size W w'
  values : ∀ (W : World) (x y na nb ka kb : List (BitVec 8)) (va vb : Value) (n m : Nat), KOk W → x.length = 32 → y.length = 32 → Reads W va ka → Reads W vb kb → (na.length ≤ 4000 ∧ ka.length ≤ 4000 ∧ n < 18446744073709551616) → (nb.length ≤ 4000 ∧ kb.length ≤ 4000 ∧ m < 18446744073709551616) →
    Calls Tryd.prog 25 #[.agg (cb x).toArray, bind9V na va n, .agg (cb y).toArray, bind9V nb vb m] W fun e w' => ∃ v u o, e = .returned (.tuple #[v, u, .bool o]) ∧ PairR w' (valueB x na n ka) (valueB y nb m kb) v u o ∧ Below W.heap.size W w'
end Go.Proofs.YtpeifpoeeopecaaDoor
/- The walks of the reference's Pair, First and Ways, and of the statements' own right and few (layer 9). -/
namespace Go.Proofs.YtpeifpoeeopecaaDoor
open Go.RowKit
set_option maxRecDepth 100000
set_option maxRecDepth 100000 in
set_option maxHeartbeats 4000000 in
theorem qPair_any (va vb : Value) (a b : List (BitVec 8)) (w : World) (ha : Reads w va a) (hb : Reads w vb b) (hla : a.length < 140737488355000) (hlb : b.length < 140737488355000) :
    Calls Tryd.prog 12 #[va, vb] w fun e w' => e = .returned (.bool (pairB9 a b)) ∧ Below w.heap.size w w' := by
  have HA : Hid (Reads w va a) := ha
  have HB : Hid (Reads w vb b) := hb
  have HLA : Hid (a.length < 140737488355000) := hla
  have HLB : Hid (b.length < 140737488355000) := hlb
  have hca := conv_reads ha
  have hcb := conv_reads hb
  obtain ⟨aa, na, ca, hva⟩ := ha.form
  subst hva
  obtain ⟨ab, nb, cbb, hvb⟩ := hb.form
  subst hvb
  have hne := strB_inj a b
  obtain ⟨da, HDA⟩ : ∃ d, Hid (d = dig a) := ⟨_, rfl⟩
  obtain ⟨db, HDB⟩ : ∃ d, Hid (d = dig b) := ⟨_, rfl⟩
  have HLS : Hid (da.length = 32) := by show _ = _; rw [HDA.out]; exact len_dig' _
  have HLT : Hid (db.length = 32) := by show _ = _; rw [HDB.out]; exact len_dig' _
  clear ha hb hla hlb
  by_cases hst : a = b
  · rw [decide_eq_true hst] at hne
    have HP : Hid (pairB9 a b = false) := by show _ = _; rw [hst]; simp [pairB9]
    rw [HP.out]
    clear hst HP
    go_enter Tryd.func12, Tryd.ntmps12
    go_wp2
    go_ret
    exact ⟨rfl, Below.refl _ _⟩
  · rw [decide_eq_false hst] at hne
    have HP : Hid (pairB9 a b = decide (da = db)) := by show _ = _; rw [HDA.out, HDB.out]; simp [pairB9, hst]
    rw [HP.out]
    clear hst HP
    have heq : ∀ wx : World, (Op.equalIn 10000 33 (.agg (cb da).toArray) (.agg (cb db).toArray)).run Tryd.prog wx = .ok (decide (da = db)) wx := fun wx => eq_dig da db HLS.out HLT.out wx
    obtain ⟨o, HO⟩ : ∃ o, Hid (o = decide (da = db)) := ⟨_, rfl⟩
    rw [← HO.out] at heq ⊢
    clear HO
    go_enter Tryd.func12, Tryd.ntmps12
    go_wp2_with (first
      | (go_at_call 32; refine (rOf_big (.slice aa na ca) a _ HA.out HLA.out).mono ?_; rintro e w1 ⟨rfl, hb1⟩; rw [← HDA.out]
         have HB1 : Hid (Below w.heap.size w w1) := hb1
         replace HB : Hid (Reads w1 (.slice ab nb cbb) b) := HB.out.below hb1
         clear hb1 hca hcb HA)
      | (go_at_call 32; refine (rOf_big (.slice ab nb cbb) b _ HB.out HLB.out).mono ?_; rintro e w2 ⟨rfl, hb2⟩; rw [← HDB.out]
         replace HB1 : Hid (Below w.heap.size w w2) := HB1.out.trans (hb2.mono HB1.out.size)
         clear hb2))
    go_ret
    exact ⟨rfl, HB1.out⟩
/-- what right answers -/
def right9 (a b : List (BitVec 8)) (ok want : Bool) : Bool := if ok then want && pairB9 a b else !want && decide (a.length + b.length = 0)
set_option maxRecDepth 100000 in
set_option maxHeartbeats 4000000 in
theorem right9_any (va vb : Value) (a b : List (BitVec 8)) (ok want : Bool) (w : World) (ha : Reads w va a) (hb : Reads w vb b) (hla : a.length < 140737488355000) (hlb : b.length < 140737488355000) :
    Calls Tryd.prog 10 #[va, vb, .bool ok, .bool want] w fun e w' => e = .returned (.bool (right9 a b ok want)) ∧ Below w.heap.size w w' := by
  have HA : Hid (Reads w va a) := ha
  have HB : Hid (Reads w vb b) := hb
  have HLA : Hid (a.length < 140737488355000) := hla
  have HLB : Hid (b.length < 140737488355000) := hlb
  obtain ⟨aa, ca, hva, _⟩ := id ha
  obtain ⟨n, HN⟩ : ∃ n, Hid (n = a.length) := ⟨_, rfl⟩
  rw [← HN.out] at hva
  subst hva
  obtain ⟨ab, cbb, hvb, _⟩ := id hb
  obtain ⟨m, HM⟩ : ∃ n, Hid (n = b.length) := ⟨_, rfl⟩
  rw [← HM.out] at hvb
  subst hvb
  clear ha hb hla hlb
  cases ok with
  | false =>
    cases want with
    | true =>
      have HR : Hid (right9 a b false true = false) := rfl
      rw [HR.out]
      clear HR
      go_enter Tryd.func10, Tryd.ntmps10
      go_wp2
      go_ret
      exact ⟨rfl, Below.refl _ _⟩
    | false =>
      obtain ⟨o, HO⟩ : ∃ o, Hid (o = decide (n + m = 0)) := ⟨_, rfl⟩
      have HR : Hid (right9 a b false false = o) := by show _ = _; rw [HO.out, HN.out, HM.out]; simp [right9]
      rw [HR.out]
      have f1 : IntKind.i64.wrap ((n : Int) + (m : Int)) = (n : Int) + (m : Int) := by rw [IntKind.wrap_i64]; have h1 := HLA.out; have h2 := HLB.out; rw [← HN.out] at h1; rw [← HM.out] at h2; omega
      have f2 : ((n : Int) + (m : Int) == 0) = o := by
        rw [HO.out]
        by_cases e : n + m = 0
        · rw [decide_eq_true e, beq_iff_eq]; omega
        · rw [decide_eq_false e, beq_eq_false_iff_ne]; omega
      clear HR HO
      go_enter Tryd.func10, Tryd.ntmps10
      go_wp2
      go_ret
      exact ⟨rfl, Below.refl _ _⟩
  | true =>
    cases want with
    | false =>
      have HR : Hid (right9 a b true false = false) := rfl
      rw [HR.out]
      clear HR
      go_enter Tryd.func10, Tryd.ntmps10
      go_wp2
      go_ret
      exact ⟨rfl, Below.refl _ _⟩
    | true =>
      obtain ⟨o, HO⟩ : ∃ o, Hid (o = pairB9 a b) := ⟨_, rfl⟩
      have HR : Hid (right9 a b true true = o) := by show _ = _; rw [HO.out]; simp [right9]
      rw [HR.out]
      have HC : Hid (Calls Tryd.prog 12 #[.slice aa n ca, .slice ab m cbb] w fun e w' => e = .returned (.bool o) ∧ Below w.heap.size w w') := by rw [HO.out]; exact qPair_any _ _ a b w HA.out HB.out HLA.out HLB.out
      clear HR HO
      go_enter Tryd.func10, Tryd.ntmps10
      go_wp2_with (first
        | (go_at_call 12; refine HC.out.mono ?_; rintro e w1 ⟨rfl, hb1⟩
           have HB1 : Hid (Below w.heap.size w w1) := hb1
           clear hb1))
      go_ret
      exact ⟨rfl, HB1.out⟩
set_option maxRecDepth 100000 in
theorem few9_any (vs : Value) (sd : List (List (BitVec 8))) (en : Int) (ix va : List (BitVec 8)) (w : World) (hR : ReadsD w vs sd) :
    Calls Tryd.prog 14 #[.agg (prfV vs en ix va).toArray] w fun e w' => e = .returned (.bool (decide (sd.length ≤ 300))) ∧ Below w.heap.size w w' := by
  obtain ⟨ad, cp, hv⟩ := hR.slice
  obtain ⟨n, HN⟩ : ∃ n, Hid (n = sd.length) := ⟨_, rfl⟩
  rw [← HN.out] at hv
  subst hv
  have HB : Hid (decide (sd.length ≤ 300) = decide ((n : Int) ≤ 300)) := by
    show _ = _
    rw [← HN.out]
    exact decide_eq_decide.2 ⟨fun h => by omega, fun h => by omega⟩
  obtain ⟨cs, HCS⟩ : ∃ c, Hid (c = prfV (.slice ad n cp) en ix va) := ⟨_, rfl⟩
  rw [← HCS.out]
  clear hR
  go_enter Tryd.func14, Tryd.ntmps14
  go_wp2_with (with_reducible refine wpSeq_boxP (.tmp 0) cs ?_ ?_ ?_ ?_
               · rfl
               · rfl
               · rfl
               intro gp w1 nn
               have c0 : w1.cell? ⟨gp, 0, none⟩ = some (.slice ad n cp) := by have := nn.blk.cell 0; rw [HCS.out] at this; exact this
               have HBW : Hid (Below w.heap.size w w1) := nn.below
               clear nn)
  go_ret
  exact ⟨by rw [HB.out]; rfl, HBW.out⟩
/-- the place as a number -/
def firstZ : Option Nat → Int
  | none => -1
  | some k => k
/-- at no place ahead of k -/
def NoP (a b : List (List (BitVec 8))) (k : Nat) : Prop := ∀ j, j < k → pairB9 (a.getD j []) (b.getD j []) = false
theorem NoP.succ {a b : List (List (BitVec 8))} {k : Nat} (h : NoP a b k) (hk : pairB9 (a.getD k []) (b.getD k []) = false) : NoP a b (k + 1) := fun j hj => by
  by_cases e : j = k
  · subst e; exact hk
  · exact h j (by omega)
theorem mem_getD {ls : List (List (BitVec 8))} {P : List (BitVec 8) → Prop} (h : ∀ t ∈ ls, P t) {k : Nat} (hk : k < ls.length) : P (ls.getD k []) := h _ (by rw [List.getD_eq_getElem?_getD, List.getElem?_eq_getElem hk]; exact List.getElem_mem _)
set_option maxRecDepth 100000 in
set_option maxHeartbeats 8000000 in
theorem qFirst_any (va vb : Value) (a b : List (List (BitVec 8))) (w : World) (ha : ReadsL w va a) (hb : ReadsL w vb b) (hla : a.length < 4611686018427387904) (hta : ∀ t ∈ a, t.length < 140737488355000) (htb : ∀ t ∈ b, t.length < 140737488355000) :
    Calls Tryd.prog 9 #[va, vb] w fun e w' => e = .returned (.int .i64 (firstZ (firstI a b))) ∧ Below w.heap.size w w' := by
  have HA : Hid (ReadsL w va a) := ha
  have HB : Hid (ReadsL w vb b) := hb
  have HTA : Hid (∀ t ∈ a, t.length < 140737488355000) := hta
  have HTB : Hid (∀ t ∈ b, t.length < 140737488355000) := htb
  obtain ⟨ada, cpa, hva⟩ := ha.slice
  obtain ⟨adb, cpb, hvb⟩ := hb.slice
  obtain ⟨n, HN⟩ : ∃ n, Hid (n = a.length) := ⟨_, rfl⟩
  obtain ⟨m, HM⟩ : ∃ n, Hid (n = b.length) := ⟨_, rfl⟩
  rw [← HN.out] at hva hla
  rw [← HM.out] at hvb
  subst hva hvb
  obtain ⟨z, HZ⟩ : ∃ z, Hid (z = firstZ (firstI a b)) := ⟨_, rfl⟩
  rw [← HZ.out]
  have HLN : Hid (n < 4611686018427387904) := hla
  clear ha hb hta htb hla
  go_enter Tryd.func9, Tryd.ntmps9
  go_wp2
  go_loopw [5] (fun i wr => ∃ k : Nat, k ≤ n ∧ k ≤ m ∧ i = .int .i64 (k : Int) ∧ Below w.heap.size w wr ∧ NoP a b k) (fun i _ => n - (intOf i).toNat)
  case atStart => exact ⟨0, by omega, by omega, rfl, Below.refl _ _, fun j hj => by omega⟩
  case round =>
    obtain ⟨k, hkn, hkm, rfl, hS, hno⟩ := hrel
    have HS : Hid (Below w.heap.size w wr) := hS
    have HNO : Hid (NoP a b k) := hno
    clear hS hno
    by_cases h1 : k < n
    · by_cases h2 : k < m
      · have h1i : (k : Int) < (n : Int) := by omega
        have h2i : (k : Int) < (m : Int) := by omega
        have k0 : (0 : Int) ≤ (k : Int) := by omega
        have HK1 : Hid (k < a.length ∧ k < b.length) := by show _ ∧ _; rw [← HN.out, ← HM.out]; exact ⟨h1, h2⟩
        obtain ⟨ba, offa, cpa', ua, hva, hca, hra⟩ := HA.out.get (k := k) HK1.out.1
        obtain ⟨bb, offb, cpb', ub, hvb, hcb, hrb⟩ := HB.out.get (k := k) HK1.out.2
        rw [← HN.out] at hva
        rw [← HM.out] at hvb
        simp only [Value.slice.injEq, true_and] at hva hvb
        obtain ⟨rfl, rfl⟩ := hva
        obtain ⟨rfl, rfl⟩ := hvb
        have HCA : Hid (∀ wx, Below w.heap.size w wx → wx.cell? ⟨ba, offa + k, none⟩ = some ua) := hca
        have HCB : Hid (∀ wx, Below w.heap.size w wx → wx.cell? ⟨bb, offb + k, none⟩ = some ub) := hcb
        obtain ⟨o, HO⟩ : ∃ o, Hid (o = pairB9 (a.getD k []) (b.getD k [])) := ⟨_, rfl⟩
        have HC : Hid (∀ wx, Below w.heap.size w wx → Calls Tryd.prog 12 #[ua, ub] wx fun e w' => e = .returned (.bool o) ∧ Below wx.heap.size wx w') := fun wx hx => by rw [HO.out]; exact qPair_any ua ub _ _ wx (hra wx hx) (hrb wx hx) (mem_getD HTA.out HK1.out.1) (mem_getD HTB.out HK1.out.2)
        clear hca hcb hra hrb
        go_upto_region 4 with fail
        refine wp_region_held_drew (S := Below w.heap.size w) (by kernel_rfl) HS.out.drew ?_
        intro hS
        clear HS
        change wpAnyH _ _ _ _ _ _ _ _ (World.drew wr)
        generalize World.drew wr = y0 at *
        refine wpAnyH_take (i := 0) (v := .slice (some ⟨ba, offa, none⟩) n cpa) rfl (by kernel_rfl) (by kernel_rfl) (by kernel_rfl) (fun _ _ _ h => h) (Or.inl ⟨by rfl, fun wx hx => by simp [go_sem]⟩) hS ?_
        simp only [Act.put, List.getElem_toArray, List.getElem_cons_zero, List.setIfInBounds_toArray, List.set_cons_zero, List.set_cons_succ]
        refine wpAnyH_take (i := 1) (v := .int .i64 (k : Int)) rfl (by kernel_rfl) (by kernel_rfl) (by kernel_rfl) (fun _ _ _ h => h) (Or.inl ⟨by rfl, fun wx hx => by simp [go_sem]⟩) hS ?_
        simp only [Act.put, List.getElem_toArray, List.getElem_cons_succ, List.getElem_cons_zero, List.setIfInBounds_toArray, List.set_cons_zero, List.set_cons_succ]
        refine wpAnyH_take (i := 2) (v := .pointer (some ⟨ba, offa + k, none⟩)) rfl (by kernel_rfl) (by kernel_rfl) (by kernel_rfl) (fun _ _ _ h => h) (Or.inl ⟨by rfl, fun wx hx => by simp [go_sem, h1i, k0]⟩) hS ?_
        simp only [Act.put, List.getElem_toArray, List.getElem_cons_succ, List.getElem_cons_zero, List.setIfInBounds_toArray, List.set_cons_zero, List.set_cons_succ]
        refine wpAnyH_take (i := 3) (v := ua) rfl (by kernel_rfl) (by kernel_rfl) (by kernel_rfl) (fun _ _ _ h => h) (Or.inl ⟨by rfl, fun wx hx => by (have hc := HCA.out wx hx; simp [go_sem, hc])⟩) hS ?_
        simp only [Act.put, List.getElem_toArray, List.getElem_cons_succ, List.getElem_cons_zero, List.setIfInBounds_toArray, List.set_cons_zero, List.set_cons_succ]
        refine wpAnyH_take (i := 4) (v := .slice (some ⟨bb, offb, none⟩) m cpb) rfl (by kernel_rfl) (by kernel_rfl) (by kernel_rfl) (fun _ _ _ h => h) (Or.inl ⟨by rfl, fun wx hx => by simp [go_sem]⟩) hS ?_
        simp only [Act.put, List.getElem_toArray, List.getElem_cons_succ, List.getElem_cons_zero, List.setIfInBounds_toArray, List.set_cons_zero, List.set_cons_succ]
        refine wpAnyH_take (i := 5) (v := .int .i64 (k : Int)) rfl (by kernel_rfl) (by kernel_rfl) (by kernel_rfl) (fun _ _ _ h => h) (Or.inl ⟨by rfl, fun wx hx => by simp [go_sem]⟩) hS ?_
        simp only [Act.put, List.getElem_toArray, List.getElem_cons_succ, List.getElem_cons_zero, List.setIfInBounds_toArray, List.set_cons_zero, List.set_cons_succ]
        refine wpAnyH_take (i := 6) (v := .pointer (some ⟨bb, offb + k, none⟩)) rfl (by kernel_rfl) (by kernel_rfl) (by kernel_rfl) (fun _ _ _ h => h) (Or.inl ⟨by rfl, fun wx hx => by simp [go_sem, h2i, k0]⟩) hS ?_
        simp only [Act.put, List.getElem_toArray, List.getElem_cons_succ, List.getElem_cons_zero, List.setIfInBounds_toArray, List.set_cons_zero, List.set_cons_succ]
        refine wpAnyH_take (i := 7) (v := ub) rfl (by kernel_rfl) (by kernel_rfl) (by kernel_rfl) (fun _ _ _ h => h) (Or.inl ⟨by rfl, fun wx hx => by (have hc := HCB.out wx hx; simp [go_sem, hc])⟩) hS ?_
        simp only [Act.put, List.getElem_toArray, List.getElem_cons_succ, List.getElem_cons_zero, List.setIfInBounds_toArray, List.set_cons_zero, List.set_cons_succ]
        refine wpAnyH_enter 8 (by kernel_rfl) rfl (by rfl) (f := 12) (args := #[ua, ub]) (by simp [go_sem]) (HC.out _ hS) ?_
        rintro e y1 ⟨rfl, hbq⟩
        replace hS := hS.trans (hbq.mono hS.size)
        refine ⟨_, rfl, hS, ?_⟩
        clear hbq
        simp only [Act.put, List.getElem_toArray, List.getElem_cons_succ, List.getElem_cons_zero, List.setIfInBounds_toArray, List.set_cons_zero, List.set_cons_succ]
        refine wpAnyH_done (by kernel_rfl) ?_ _
        cases o with
        | true =>
          have HF : Hid (z = (k : Int)) := by show _ = _; rw [HZ.out, firstI_of HK1.out.1 HK1.out.2 HO.out.symm HNO.out]; rfl
          have HBW : Hid (Below w.heap.size w y1) := hS
          clear hS HO HC
          go_wp2
          go_ret
          exact ⟨by rw [HF.out]; rfl, HBW.out⟩
        | false =>
          have HN2 : Hid (NoP a b (k + 1)) := HNO.out.succ HO.out.symm
          have HBW : Hid (Below w.heap.size w y1) := hS
          have f5 : IntKind.i64.wrap ((k : Int) + 1) = (k : Int) + 1 := by rw [IntKind.wrap_i64]; have := HLN.out; omega
          clear hS HO HC
          go_wp2
          go_roundw
          case rel => exact ⟨k + 1, by omega, by omega, by simp, HBW.out, HN2.out⟩
          case measure => simp [intOf]; omega
      · have h1i : (k : Int) < (n : Int) := by omega
        have h2i : ¬ ((k : Int) < (m : Int)) := by omega
        have HF : Hid (z = -1) := by show _ = _; rw [HZ.out, firstI_of_none (Or.inr (by rw [← HM.out]; omega)) HNO.out]; rfl
        go_wp2
        go_ret
        exact ⟨by rw [HF.out]; rfl, HS.out⟩
    · have h1i : ¬ ((k : Int) < (n : Int)) := by omega
      have HF : Hid (z = -1) := by show _ = _; rw [HZ.out, firstI_of_none (Or.inl (by rw [← HN.out]; omega)) HNO.out]; rfl
      go_wp2
      go_ret
      exact ⟨by rw [HF.out]; rfl, HS.out⟩
set_option maxRecDepth 100000 in
set_option maxHeartbeats 8000000 in
theorem qWays_any (i : List (BitVec 8)) (vp : Value) (sp : List (List (BitVec 8))) (ep : Int) (ixp vap : List (BitVec 8)) (vq : Value) (sq : List (List (BitVec 8))) (eq : Int) (ixq vaq : List (BitVec 8)) (w : World) (hi : i.length = 32) (h1 : ixp.length = 32) (h2 : vap.length = 32) (h3 : ixq.length = 32) (h4 : vaq.length = 32) (hp : ReadsD w vp sp) (hq : ReadsD w vq sq) (hlp : sp.length ≤ 300) (hlq : sq.length ≤ 300) :
    Calls Tryd.prog 16 #[.agg (cb i).toArray, .agg (prfV vp ep ixp vap).toArray, .agg (prfV vq eq ixq vaq).toArray] w fun e w' => e = .returned (.int .i64 (firstZ (firstI (hashL i (endB ep ixp vap) 0 sp) (hashL i (endB eq ixq vaq) 0 sq)))) ∧ Below w.heap.size w w' := by
  have HIL : Hid (i.length = 32) := hi
  obtain ⟨cp, HCP⟩ : ∃ c, Hid (c = prfV vp ep ixp vap) := ⟨_, rfl⟩
  obtain ⟨cq, HCQ⟩ : ∃ c, Hid (c = prfV vq eq ixq vaq) := ⟨_, rfl⟩
  have HP6 : Hid (cp.length = 66) := by show _ = _; rw [HCP.out]; exact prfV_len h1 h2
  have HQ6 : Hid (cq.length = 66) := by show _ = _; rw [HCQ.out]; exact prfV_len h3 h4
  obtain ⟨lp, HLP⟩ : ∃ z, Hid (z = hashL i (endB ep ixp vap) 0 sp) := ⟨_, rfl⟩
  obtain ⟨lq, HLQ⟩ : ∃ z, Hid (z = hashL i (endB eq ixq vaq) 0 sq) := ⟨_, rfl⟩
  have HTP : Hid (∀ t ∈ lp, t.length < 140737488355000) := fun t ht => by have := hashL_le i _ (endB_le h1 h2) sp 0 hp.2 t (by rw [← HLP.out]; exact ht); omega
  have HTQ : Hid (∀ t ∈ lq, t.length < 140737488355000) := fun t ht => by have := hashL_le i _ (endB_le h3 h4) sq 0 hq.2 t (by rw [← HLQ.out]; exact ht); omega
  have HNP : Hid (lp.length < 4611686018427387904) := by show _ < _; rw [HLP.out, hashL_len]; omega
  have HC1 : Hid (∀ W, Below w.heap.size w W → Calls Tryd.prog 35 #[.agg (cb i).toArray, .agg cp.toArray] W fun e w' => ∃ v, e = .returned v ∧ ReadsL w' v lp ∧ Below W.heap.size W w') := fun W hb => by rw [HCP.out, HLP.out]; exact bHashed_any i vp sp ep ixp vap W hi h1 h2 (hp.below hb) (by omega)
  have HC2 : Hid (∀ W, Below w.heap.size w W → Calls Tryd.prog 35 #[.agg (cb i).toArray, .agg cq.toArray] W fun e w' => ∃ v, e = .returned v ∧ ReadsL w' v lq ∧ Below W.heap.size W w') := fun W hb => by rw [HCQ.out, HLQ.out]; exact bHashed_any i vq sq eq ixq vaq W hi h3 h4 (hq.below hb) (by omega)
  rw [← HLP.out, ← HLQ.out, ← HCP.out, ← HCQ.out]
  clear hi h1 h2 h3 h4 hp hq hlp hlq HLP HLQ HCP HCQ
  go_enter Tryd.func16, Tryd.ntmps16
  go_upto_region 1 with (first
    | (with_reducible refine wpSeq_boxD (.tmp 0) i ?_ ?_ ?_ ?_
       · rfl
       · rfl
       · rfl
       intro gi w0 nn0)
    | (with_reducible refine wpSeq_boxP (.tmp 1) cp ?_ ?_ ?_ ?_
       · rfl
       · rfl
       · rfl
       intro gp w1 nn1)
    | (with_reducible refine wpSeq_boxP (.tmp 2) cq ?_ ?_ ?_ ?_
       · rfl
       · rfl
       · rfl
       intro gq w2 nn2))
  have hb1 := nn0.below.trans (nn1.below.mono nn0.below.size)
  have hb2 := hb1.trans (nn2.below.mono hb1.size)
  have x1 := nn0.blk.below nn1.below nn0.blk.lt
  have HI : Hid (Below w.heap.size w w2 ∧ Blk w2 gi (cb i) 33 ∧ Blk w2 gp cp 36 ∧ Blk w2 gq cq 36) := ⟨hb2, x1.below nn2.below x1.lt, nn1.blk.below nn2.below nn1.blk.lt, nn2.blk⟩
  clear nn0 nn1 nn2 hb1 hb2 x1
  refine wp_region_held_drew (S := fun wx => Below w.heap.size w wx ∧ Blk wx gi (cb i) 33 ∧ Blk wx gp cp 36 ∧ Blk wx gq cq 36) (by kernel_rfl) ⟨HI.out.1.drew, HI.out.2⟩ ?_
  intro hS
  clear HI
  change wpAnyH _ _ _ _ _ _ _ _ (World.drew w2)
  generalize World.drew w2 = y0 at *
  refine wpAnyH_take (i := 0) (v := .agg (cb i).toArray) rfl (by kernel_rfl) (by kernel_rfl) (by kernel_rfl) (fun _ _ _ h => h) (Or.inl ⟨by rfl, fun wx hx => by exact loadDigest _ gi i HIL.out hx.2.1 rfl rfl⟩) hS ?_
  simp only [Act.put, List.getElem_toArray, List.getElem_cons_zero, List.setIfInBounds_toArray, List.set_cons_zero, List.set_cons_succ]
  refine wpAnyH_take (i := 1) (v := .agg cp.toArray) rfl (by kernel_rfl) (by kernel_rfl) (by kernel_rfl) (fun _ _ _ h => h) (Or.inl ⟨by rfl, fun wx hx => by exact load_run 36 _ rfl gp 0 rfl cp _ hx.2.2.1.range Tryd.underlying36 rfl (by rw [HP6.out]; exact info_proof)⟩) hS ?_
  simp only [Act.put, List.getElem_toArray, List.getElem_cons_succ, List.getElem_cons_zero, List.setIfInBounds_toArray, List.set_cons_zero, List.set_cons_succ]
  refine wpAnyH_take (i := 3) (v := .agg (cb i).toArray) rfl (by kernel_rfl) (by kernel_rfl) (by kernel_rfl) (fun _ _ _ h => h) (Or.inl ⟨by rfl, fun wx hx => by exact loadDigest _ gi i HIL.out hx.2.1 rfl rfl⟩) hS ?_
  simp only [Act.put, List.getElem_toArray, List.getElem_cons_succ, List.getElem_cons_zero, List.setIfInBounds_toArray, List.set_cons_zero, List.set_cons_succ]
  refine wpAnyH_take (i := 4) (v := .agg cq.toArray) rfl (by kernel_rfl) (by kernel_rfl) (by kernel_rfl) (fun _ _ _ h => h) (Or.inl ⟨by rfl, fun wx hx => by exact load_run 36 _ rfl gq 0 rfl cq _ hx.2.2.2.range Tryd.underlying36 rfl (by rw [HQ6.out]; exact info_proof)⟩) hS ?_
  simp only [Act.put, List.getElem_toArray, List.getElem_cons_succ, List.getElem_cons_zero, List.setIfInBounds_toArray, List.set_cons_zero, List.set_cons_succ]
  refine wpAnyH_enter 2 (by kernel_rfl) rfl (by rfl) (f := 35) (args := #[.agg (cb i).toArray, .agg cp.toArray]) (by simp [go_sem]) (HC1.out _ hS.1) ?_
  rintro e y1 ⟨u1, rfl, hu1, hbq⟩
  replace hS : Below w.heap.size w y1 ∧ Blk y1 gi (cb i) 33 ∧ Blk y1 gp cp 36 ∧ Blk y1 gq cq 36 := ⟨hS.1.trans (hbq.mono hS.1.size), hS.2.1.below hbq hS.2.1.lt, hS.2.2.1.below hbq hS.2.2.1.lt, hS.2.2.2.below hbq hS.2.2.2.lt⟩
  refine ⟨_, rfl, hS, ?_⟩
  clear hbq
  simp only [Act.put, List.getElem_toArray, List.getElem_cons_succ, List.getElem_cons_zero, List.setIfInBounds_toArray, List.set_cons_zero, List.set_cons_succ]
  refine wpAnyH_enter 5 (by kernel_rfl) rfl (by rfl) (f := 35) (args := #[.agg (cb i).toArray, .agg cq.toArray]) (by simp [go_sem]) (HC2.out _ hS.1) ?_
  rintro e y2 ⟨u2, rfl, hu2, hbq⟩
  replace hS : Below w.heap.size w y2 ∧ Blk y2 gi (cb i) 33 ∧ Blk y2 gp cp 36 ∧ Blk y2 gq cq 36 := ⟨hS.1.trans (hbq.mono hS.1.size), hS.2.1.below hbq hS.2.1.lt, hS.2.2.1.below hbq hS.2.2.1.lt, hS.2.2.2.below hbq hS.2.2.2.lt⟩
  replace hu1 := hu1.below hbq
  refine ⟨_, rfl, hS, ?_⟩
  clear hbq
  simp only [Act.put, List.getElem_toArray, List.getElem_cons_succ, List.getElem_cons_zero, List.setIfInBounds_toArray, List.set_cons_zero, List.set_cons_succ]
  refine wpAnyH_enter 6 (by kernel_rfl) rfl (by rfl) (f := 9) (args := #[u1, u2]) (by simp [go_sem]) (qFirst_any u1 u2 lp lq _ hu1 hu2 HNP.out HTP.out HTQ.out) ?_
  rintro e y3 ⟨rfl, hbq⟩
  replace hS : Below w.heap.size w y3 ∧ Blk y3 gi (cb i) 33 ∧ Blk y3 gp cp 36 ∧ Blk y3 gq cq 36 := ⟨hS.1.trans (hbq.mono hS.1.size), hS.2.1.below hbq hS.2.1.lt, hS.2.2.1.below hbq hS.2.2.1.lt, hS.2.2.2.below hbq hS.2.2.2.lt⟩
  refine ⟨_, rfl, hS, ?_⟩
  clear hbq hu1 hu2
  simp only [Act.put, List.getElem_toArray, List.getElem_cons_succ, List.getElem_cons_zero, List.setIfInBounds_toArray, List.set_cons_zero, List.set_cons_succ]
  refine wpAnyH_take (i := 7) (v := .int .i64 (firstZ (firstI lp lq))) rfl (by kernel_rfl) (by kernel_rfl) (by kernel_rfl) (fun _ _ _ h => h) (Or.inl ⟨by rfl, fun wx hx => by simp [go_sem]⟩) hS ?_
  simp only [Act.put, List.getElem_toArray, List.getElem_cons_succ, List.getElem_cons_zero, List.setIfInBounds_toArray, List.set_cons_zero, List.set_cons_succ]
  refine wpAnyH_done (by kernel_rfl) ?_ _
  have HBW : Hid (Below w.heap.size w y3) := hS.1
  clear hS
  go_wp2
  go_ret
  exact ⟨rfl, HBW.out⟩
end Go.Proofs.YtpeifpoeeopecaaDoor
/- The walks of clash's functions as they landed: Pair, First and its own function (layer 9). -/
namespace Go.Proofs.YtpeifpoeeopecaaDoor
open Go.RowKit
set_option maxRecDepth 100000
theorem results_tmp3 {fn : Func} {u0 u1 u2 : Tmp} (h : fn.results = #[.tmp u0, .tmp u1, .tmp u2]) (tmps : Array Value) (P : Program) (w : World) : (results fn tmps).run P w = .ok (.tuple #[tmps.getD u0 undef, tmps.getD u1 undef, tmps.getD u2 undef]) w := by
  simp [results, h, go_sem]
theorem OwnB.zero9 (w : World) (base g : Nat) (hg : base ≤ g) (h : Blk w g [] 5) : OwnB w base (.slice (some ⟨g, 0, none⟩) 0 0) [] :=
  ⟨by simp [cb], Or.inr ⟨g, 0, #[], rfl, hg, h, Nat.le_refl _, by unfold maxLen; omega, rfl, rfl⟩⟩
set_option maxRecDepth 100000 in
set_option maxHeartbeats 4000000 in
theorem bclone_any (v : Value) (l : List (BitVec 8)) (w : World) (h : Reads w v l) (hl : l.length ≤ 140737488355328) :
    Calls Tryd.prog 31 #[v] w fun e w' => ∃ v', e = .returned v' ∧ OwnB w' w.heap.size v' l ∧ Below w.heap.size w w' := by
  have HR : Hid (Reads w v l) := h
  have HL : Hid (l.length ≤ 140737488355328) := hl
  obtain ⟨ad, cap, rfl, _, hn, hx⟩ := h
  cases ad with
  | none =>
    have h0 : l = [] := by
      cases l with
      | nil => rfl
      | cons b r => obtain ⟨b, off, h1, _⟩ := hx (by simp); cases h1
    subst h0
    have := hn rfl
    subst this
    clear hx hn hl
    have hnil : ∀ (a : Option Addr) (n c : Nat) (w : World), (binOp .eql 23 (.slice a n c) (.slice none 0 0)).run Tryd.prog w = .ok (.bool a.isNone) w := fun a n c w => Lib.run_eql_slice_nil w 23 5 a n c 0 0 Tryd.underlying23
    go_enter Tryd.func31, Tryd.ntmps31
    go_wp2
    go_ret
    exact ⟨_, rfl, OwnB.nil _ _, Below.refl _ _⟩
  | some ad =>
    clear hx hn hl
    obtain ⟨m, HM⟩ : ∃ m, Hid (m = l.length) := ⟨_, rfl⟩
    rw [← HM.out] at HR ⊢
    have HB := below_alloc w (.cells ([] : List Value).toArray 5)
    have HO : Hid (OwnB (w.alloc (.cells ([] : List Value).toArray 5)) w.heap.size (.slice (some ⟨w.heap.size, 0, none⟩) 0 0) []) := OwnB.zero9 _ _ _ (Nat.le_refl _) (Blk.new w [] 5)
    have HR1 : Hid (Reads (w.alloc (.cells ([] : List Value).toArray 5)) (.slice (some ad) m cap) l) := HR.out.below HB
    have HBB : Hid (Below w.heap.size w (w.alloc (.cells ([] : List Value).toArray 5))) := HB
    clear HB
    have hnil : ∀ (a : Option Addr) (n c : Nat) (w : World), (binOp .eql 23 (.slice a n c) (.slice none 0 0)).run Tryd.prog w = .ok (.bool a.isNone) w := fun a n c w => Lib.run_eql_slice_nil w 23 5 a n c 0 0 Tryd.underlying23
    go_enter Tryd.func31, Tryd.ntmps31
    go_wp2_with (at_builtin; refine wpList_appendB rfl (.tmp 5) (.tmp 6) rfl w.heap.size _ [] rfl HO.out _ l rfl HR1.out (by have := HL.out; simp; omega) HBB.out.size ?_; intro v2 w2 hown2 hb2 _)
    have hB2 := HBB.out.trans hb2
    go_wp2
    go_ret
    exact ⟨_, rfl, hown2, hB2⟩
theorem bEqual_any (va vb : Value) (a b : List (BitVec 8)) (w : World) (ha : Reads w va a) (hb : Reads w vb b) : Calls Tryd.prog 29 #[va, vb] w fun e w' => e = .returned (.bool (decide (a = b))) ∧ Below w.heap.size w w' := by
  have hca := conv_reads ha
  have hcb := conv_reads hb
  obtain ⟨aa, na, ca, hva⟩ := ha.form
  subst hva
  obtain ⟨ab, nb, cbb, hvb⟩ := hb.form
  subst hvb
  have hne := strB_inj a b
  clear ha hb
  generalize decide (a = b) = o at *
  go_enter Tryd.func29, Tryd.ntmps29
  go_wp2
  go_ret
  exact ⟨rfl, Below.refl _ _⟩
set_option maxRecDepth 100000 in
set_option maxHeartbeats 4000000 in
theorem cPair_any (va vb : Value) (a b : List (BitVec 8)) (w : World) (hK : KOk w) (ha : Reads w va a) (hb : Reads w vb b) (hla : a.length < 140737488355000) (hlb : b.length < 140737488355000) :
    Calls Tryd.prog 11 #[va, vb] w fun e w' => ∃ x y o, e = .returned (.tuple #[x, y, .bool o]) ∧ PairR w' a b x y o ∧ Below w.heap.size w w' := by
  have HK : Hid (KOk w) := hK
  have HA : Hid (Reads w va a) := ha
  have HB : Hid (Reads w vb b) := hb
  have HLA : Hid (a.length < 140737488355000 ∧ b.length < 140737488355000) := ⟨hla, hlb⟩
  obtain ⟨aa, na, ca, hva⟩ := ha.form
  subst hva
  obtain ⟨ab, nb, cbb, hvb⟩ := hb.form
  subst hvb
  obtain ⟨da, HDA⟩ : ∃ d, Hid (d = dig a) := ⟨_, rfl⟩
  obtain ⟨db, HDB⟩ : ∃ d, Hid (d = dig b) := ⟨_, rfl⟩
  have HC0 : Hid (Calls Tryd.prog 29 #[.slice aa na ca, .slice ab nb cbb] w fun e w' => e = .returned (.bool (decide (a = b))) ∧ Below w.heap.size w w') := bEqual_any _ _ a b w ha hb
  have HC1 : Hid (∀ W, Below w.heap.size w W → Calls Tryd.prog 30 #[.slice aa na ca] W fun e w' => e = .returned (.agg (cb da).toArray) ∧ Below W.heap.size W w') := fun W hh => by rw [HDA.out]; exact tOf_any _ a W (hK.below hh hK.lt) (ha.below hh) (by omega)
  have HC2 : Hid (∀ W, Below w.heap.size w W → Calls Tryd.prog 30 #[.slice ab nb cbb] W fun e w' => e = .returned (.agg (cb db).toArray) ∧ Below W.heap.size W w') := fun W hh => by rw [HDB.out]; exact tOf_any _ b W (hK.below hh hK.lt) (hb.below hh) (by omega)
  have HD1 : Hid (∀ W, Below w.heap.size w W → Calls Tryd.prog 31 #[.slice aa na ca] W fun e w' => ∃ v', e = .returned v' ∧ OwnB w' W.heap.size v' a ∧ Below W.heap.size W w') := fun W hh => bclone_any _ a W (ha.below hh) (by omega)
  have HD2 : Hid (∀ W, Below w.heap.size w W → Calls Tryd.prog 31 #[.slice ab nb cbb] W fun e w' => ∃ v', e = .returned v' ∧ OwnB w' W.heap.size v' b ∧ Below W.heap.size W w') := fun W hh => bclone_any _ b W (hb.below hh) (by omega)
  have heq : ∀ wx : World, (Op.equalIn 10000 33 (.agg (cb da).toArray) (.agg (cb db).toArray)).run Tryd.prog wx = .ok (decide (da = db)) wx := fun wx => eq_dig da db (by rw [HDA.out]; exact len_dig' _) (by rw [HDB.out]; exact len_dig' _) wx
  clear ha hb hK hla hlb
  have hnone : ∀ W : World, Reads W (.slice none 0 0) [] := fun W => ⟨Option.none, 0, rfl, Nat.le_refl _, fun _ => rfl, fun h => by cases h⟩
  have HNIL : Hid (∀ W : World, Reads W (.slice none 0 0) []) := hnone
  clear hnone
  by_cases hst : a = b
  · rw [decide_eq_true hst] at HC0
    have HP : Hid (pairB9 a b = false) := by show _ = _; rw [hst]; simp [pairB9]
    clear hst HC1 HC2 heq
    go_enter Tryd.func11, Tryd.ntmps11
    go_wp2_with (first
      | (go_at_call 29; refine HC0.out.mono ?_; rintro e w1 ⟨rfl, hb1⟩
         have HBW : Hid (Below w.heap.size w w1) := hb1
         clear hb1 HC0))
    refine bodyPost_ret (results_tmp3 rfl _ _ _) rfl ?_
    exact ⟨_, _, false, rfl, ⟨HP.out.symm, (fun h => by cases h), fun _ => ⟨HNIL.out _, HNIL.out _⟩⟩, HBW.out⟩
  · rw [decide_eq_false hst] at HC0
    have HP : Hid (pairB9 a b = decide (da = db)) := by show _ = _; rw [HDA.out, HDB.out]; simp [pairB9, hst]
    clear hst
    by_cases hdd : da = db
    · rw [decide_eq_true hdd] at HP
      have hq : ∀ wx : World, (Op.equalIn 10000 33 (.agg (cb da).toArray) (.agg (cb db).toArray)).run Tryd.prog wx = .ok true wx := fun wx => by rw [heq, decide_eq_true hdd]
      clear hdd heq
      go_enter Tryd.func11, Tryd.ntmps11
      go_wp2_with (first
        | (go_at_call 29; refine HC0.out.mono ?_; rintro e w1 ⟨rfl, hb1⟩
           have HBW : Hid (Below w.heap.size w w1) := hb1
           clear hb1 HC0)
        | (go_at_call 30; refine (HC1.out _ HBW.out).mono ?_; rintro e w2 ⟨rfl, hb2⟩
           replace HBW : Hid (Below w.heap.size w w2) := HBW.out.trans (hb2.mono HBW.out.size)
           clear hb2 HC1)
        | (go_at_call 30; refine (HC2.out _ HBW.out).mono ?_; rintro e w3 ⟨rfl, hb3⟩
           replace HBW : Hid (Below w.heap.size w w3) := HBW.out.trans (hb3.mono HBW.out.size)
           clear hb3 HC2)
        | (go_at_call 31; refine (HD1.out _ HBW.out).mono ?_; rintro e w4 ⟨vx, rfl, hx4, hb4⟩
           replace HBW : Hid (Below w.heap.size w w4) := HBW.out.trans (hb4.mono HBW.out.size)
           have HX : Hid (Reads w4 vx a) := hx4.reads
           clear hb4 hx4 HD1)
        | (go_at_call 31; refine (HD2.out _ HBW.out).mono ?_; rintro e w5 ⟨vy, rfl, hy5, hb5⟩
           replace HBW : Hid (Below w.heap.size w w5) := HBW.out.trans (hb5.mono HBW.out.size)
           replace HX : Hid (Reads w5 vx a) := HX.out.below hb5
           have HY : Hid (Reads w5 vy b) := hy5.reads
           clear hb5 hy5 HD2))
      refine bodyPost_ret (results_tmp3 rfl _ _ _) rfl ?_
      exact ⟨_, _, true, rfl, ⟨HP.out.symm, fun _ => ⟨HX.out, HY.out⟩, fun h => by cases h⟩, HBW.out⟩
    · rw [decide_eq_false hdd] at HP
      have hq : ∀ wx : World, (Op.equalIn 10000 33 (.agg (cb da).toArray) (.agg (cb db).toArray)).run Tryd.prog wx = .ok false wx := fun wx => by rw [heq, decide_eq_false hdd]
      clear hdd heq
      go_enter Tryd.func11, Tryd.ntmps11
      go_wp2_with (first
        | (go_at_call 29; refine HC0.out.mono ?_; rintro e w1 ⟨rfl, hb1⟩
           have HBW : Hid (Below w.heap.size w w1) := hb1
           clear hb1 HC0)
        | (go_at_call 30; refine (HC1.out _ HBW.out).mono ?_; rintro e w2 ⟨rfl, hb2⟩
           replace HBW : Hid (Below w.heap.size w w2) := HBW.out.trans (hb2.mono HBW.out.size)
           clear hb2 HC1)
        | (go_at_call 30; refine (HC2.out _ HBW.out).mono ?_; rintro e w3 ⟨rfl, hb3⟩
           replace HBW : Hid (Below w.heap.size w w3) := HBW.out.trans (hb3.mono HBW.out.size)
           clear hb3 HC2))
      refine bodyPost_ret (results_tmp3 rfl _ _ _) rfl ?_
      exact ⟨_, _, false, rfl, ⟨HP.out.symm, (fun h => by cases h), fun _ => ⟨HNIL.out _, HNIL.out _⟩⟩, HBW.out⟩
set_option maxRecDepth 100000 in
set_option maxHeartbeats 8000000 in
theorem cFirst1_any (ga gb k n m ba offa cpa bb offb cpb : Nat) (ua ub : Value) (x y : List (BitVec 8)) (w : World) (hK : KOk w) (hga : Blk w ga [.slice (some ⟨ba, offa, none⟩) n cpa] 22) (hgb : Blk w gb [.slice (some ⟨bb, offb, none⟩) m cpb] 22) (hkn : k < n) (hkm : k < m)
    (hca : w.cell? ⟨ba, offa + k, none⟩ = some ua) (hcb : w.cell? ⟨bb, offb + k, none⟩ = some ub) (hra : Reads w ua x) (hrb : Reads w ub y) (hx : x.length < 140737488355000) (hy : y.length < 140737488355000) :
    Calls Tryd.prog 28 #[.int .i64 (k : Int), .pointer (some ⟨ga, 0, none⟩), .pointer (some ⟨gb, 0, none⟩)] w fun e w' => ∃ v u o, e = .returned (.tuple #[v, u, .bool o]) ∧ PairR w' x y v u o ∧ Below w.heap.size w w' := by
  have h1i : (k : Int) < (n : Int) := by omega
  have h2i : (k : Int) < (m : Int) := by omega
  have k0 : (0 : Int) ≤ (k : Int) := by omega
  have HC1 : Hid (∀ W, Below w.heap.size w W → Calls Tryd.prog 11 #[ua, ub] W fun e w' => ∃ v u o, e = .returned (.tuple #[v, u, .bool o]) ∧ PairR w' x y v u o ∧ Below W.heap.size W w') := fun W hh => cPair_any ua ub x y W (hK.below hh hK.lt) (hra.below hh) (hrb.below hh) hx hy
  have HGA : Hid (∀ wx : World, Below w.heap.size w wx → wx.cell? ⟨ga, 0, none⟩ = some (.slice (some ⟨ba, offa, none⟩) n cpa)) := fun wx hh => by rw [(hga.below hh hga.lt).cell]; rfl
  have HGB : Hid (∀ wx : World, Below w.heap.size w wx → wx.cell? ⟨gb, 0, none⟩ = some (.slice (some ⟨bb, offb, none⟩) m cpb)) := fun wx hh => by rw [(hgb.below hh hgb.lt).cell]; rfl
  have HCA : Hid (∀ wx : World, Below w.heap.size w wx → wx.cell? ⟨ba, offa + k, none⟩ = some ua) := fun wx hh => by rw [hh.cell (p := ⟨ba, offa + k, none⟩) (block_lt_of_cell hca)]; exact hca
  have HCB : Hid (∀ wx : World, Below w.heap.size w wx → wx.cell? ⟨bb, offb + k, none⟩ = some ub) := fun wx hh => by rw [hh.cell (p := ⟨bb, offb + k, none⟩) (block_lt_of_cell hcb)]; exact hcb
  clear hK hga hgb hkn hkm hca hcb hra hrb hx hy
  go_enter Tryd.func28, Tryd.ntmps28
  go_upto_region 1 with fail
  refine wp_region_held_drew (S := Below w.heap.size w) (by kernel_rfl) (Below.refl _ _).drew ?_
  intro hS
  change wpAnyH _ _ _ _ _ _ _ _ (World.drew w)
  generalize hy0 : World.drew w = y0 at hS ⊢
  clear hy0
  refine wpAnyH_take (i := 0) (v := .slice (some ⟨ba, offa, none⟩) n cpa) rfl (by kernel_rfl) (by kernel_rfl) (by kernel_rfl) (fun _ _ _ h => h) (Or.inl ⟨by rfl, fun wx hx => by (have hc := HGA.out wx hx; simp [go_sem, hc])⟩) hS ?_
  simp only [Act.put, List.getElem_toArray, List.getElem_cons_zero, List.setIfInBounds_toArray, List.set_cons_zero, List.set_cons_succ]
  refine wpAnyH_take (i := 1) (v := .int .i64 (k : Int)) rfl (by kernel_rfl) (by kernel_rfl) (by kernel_rfl) (fun _ _ _ h => h) (Or.inl ⟨by rfl, fun wx hx => by simp [go_sem]⟩) hS ?_
  simp only [Act.put, List.getElem_toArray, List.getElem_cons_succ, List.getElem_cons_zero, List.setIfInBounds_toArray, List.set_cons_zero, List.set_cons_succ]
  refine wpAnyH_take (i := 2) (v := .pointer (some ⟨ba, offa + k, none⟩)) rfl (by kernel_rfl) (by kernel_rfl) (by kernel_rfl) (fun _ _ _ h => h) (Or.inl ⟨by rfl, fun wx hx => by simp [go_sem, h1i, k0]⟩) hS ?_
  simp only [Act.put, List.getElem_toArray, List.getElem_cons_succ, List.getElem_cons_zero, List.setIfInBounds_toArray, List.set_cons_zero, List.set_cons_succ]
  refine wpAnyH_take (i := 3) (v := ua) rfl (by kernel_rfl) (by kernel_rfl) (by kernel_rfl) (fun _ _ _ h => h) (Or.inl ⟨by rfl, fun wx hx => by (have hc := HCA.out wx hx; simp [go_sem, hc])⟩) hS ?_
  simp only [Act.put, List.getElem_toArray, List.getElem_cons_succ, List.getElem_cons_zero, List.setIfInBounds_toArray, List.set_cons_zero, List.set_cons_succ]
  refine wpAnyH_take (i := 4) (v := .slice (some ⟨bb, offb, none⟩) m cpb) rfl (by kernel_rfl) (by kernel_rfl) (by kernel_rfl) (fun _ _ _ h => h) (Or.inl ⟨by rfl, fun wx hx => by (have hc := HGB.out wx hx; simp [go_sem, hc])⟩) hS ?_
  simp only [Act.put, List.getElem_toArray, List.getElem_cons_succ, List.getElem_cons_zero, List.setIfInBounds_toArray, List.set_cons_zero, List.set_cons_succ]
  refine wpAnyH_take (i := 5) (v := .int .i64 (k : Int)) rfl (by kernel_rfl) (by kernel_rfl) (by kernel_rfl) (fun _ _ _ h => h) (Or.inl ⟨by rfl, fun wx hx => by simp [go_sem]⟩) hS ?_
  simp only [Act.put, List.getElem_toArray, List.getElem_cons_succ, List.getElem_cons_zero, List.setIfInBounds_toArray, List.set_cons_zero, List.set_cons_succ]
  refine wpAnyH_take (i := 6) (v := .pointer (some ⟨bb, offb + k, none⟩)) rfl (by kernel_rfl) (by kernel_rfl) (by kernel_rfl) (fun _ _ _ h => h) (Or.inl ⟨by rfl, fun wx hx => by simp [go_sem, h2i, k0]⟩) hS ?_
  simp only [Act.put, List.getElem_toArray, List.getElem_cons_succ, List.getElem_cons_zero, List.setIfInBounds_toArray, List.set_cons_zero, List.set_cons_succ]
  refine wpAnyH_take (i := 7) (v := ub) rfl (by kernel_rfl) (by kernel_rfl) (by kernel_rfl) (fun _ _ _ h => h) (Or.inl ⟨by rfl, fun wx hx => by (have hc := HCB.out wx hx; simp [go_sem, hc])⟩) hS ?_
  simp only [Act.put, List.getElem_toArray, List.getElem_cons_succ, List.getElem_cons_zero, List.setIfInBounds_toArray, List.set_cons_zero, List.set_cons_succ]
  refine wpAnyH_enter 8 (by kernel_rfl) rfl (by rfl) (f := 11) (args := #[ua, ub]) (by simp [go_sem]) (HC1.out _ hS) ?_
  rintro e y1 ⟨vx, vy, o, rfl, hr, hbq⟩
  replace hS := hS.trans (hbq.mono hS.size)
  refine ⟨_, rfl, hS, ?_⟩
  clear hbq
  simp only [Act.put, List.getElem_toArray, List.getElem_cons_succ, List.getElem_cons_zero, List.setIfInBounds_toArray, List.set_cons_zero, List.set_cons_succ]
  refine wpAnyH_take (i := 9) (v := vx) rfl (by kernel_rfl) (by kernel_rfl) (by kernel_rfl) (fun _ _ _ h => h) (Or.inl ⟨by rfl, fun wx hx => by simp [go_sem]⟩) hS ?_
  simp only [Act.put, List.getElem_toArray, List.getElem_cons_succ, List.getElem_cons_zero, List.setIfInBounds_toArray, List.set_cons_zero, List.set_cons_succ]
  refine wpAnyH_take (i := 10) (v := vy) rfl (by kernel_rfl) (by kernel_rfl) (by kernel_rfl) (fun _ _ _ h => h) (Or.inl ⟨by rfl, fun wx hx => by simp [go_sem]⟩) hS ?_
  simp only [Act.put, List.getElem_toArray, List.getElem_cons_succ, List.getElem_cons_zero, List.setIfInBounds_toArray, List.set_cons_zero, List.set_cons_succ]
  refine wpAnyH_take (i := 11) (v := .bool o) rfl (by kernel_rfl) (by kernel_rfl) (by kernel_rfl) (fun _ _ _ h => h) (Or.inl ⟨by rfl, fun wx hx => by simp [go_sem]⟩) hS ?_
  simp only [Act.put, List.getElem_toArray, List.getElem_cons_succ, List.getElem_cons_zero, List.setIfInBounds_toArray, List.set_cons_zero, List.set_cons_succ]
  refine wpAnyH_take (i := 12) (v := vx) rfl (by kernel_rfl) (by kernel_rfl) (by kernel_rfl) (fun _ _ _ h => h) (Or.inl ⟨by rfl, fun wx hx => by simp [go_sem]⟩) hS ?_
  simp only [Act.put, List.getElem_toArray, List.getElem_cons_succ, List.getElem_cons_zero, List.setIfInBounds_toArray, List.set_cons_zero, List.set_cons_succ]
  refine wpAnyH_take (i := 13) (v := vy) rfl (by kernel_rfl) (by kernel_rfl) (by kernel_rfl) (fun _ _ _ h => h) (Or.inl ⟨by rfl, fun wx hx => by simp [go_sem]⟩) hS ?_
  simp only [Act.put, List.getElem_toArray, List.getElem_cons_succ, List.getElem_cons_zero, List.setIfInBounds_toArray, List.set_cons_zero, List.set_cons_succ]
  refine wpAnyH_take (i := 14) (v := .bool o) rfl (by kernel_rfl) (by kernel_rfl) (by kernel_rfl) (fun _ _ _ h => h) (Or.inl ⟨by rfl, fun wx hx => by simp [go_sem]⟩) hS ?_
  simp only [Act.put, List.getElem_toArray, List.getElem_cons_succ, List.getElem_cons_zero, List.setIfInBounds_toArray, List.set_cons_zero, List.set_cons_succ]
  refine wpAnyH_done (by kernel_rfl) ?_ _
  have HR : Hid (PairR y1 x y vx vy o) := hr
  have HBW : Hid (Below w.heap.size w y1) := hS
  clear hS hr HGA HGB HCA HCB HC1
  go_wp2
  refine bodyPost_ret (results_tmp3 rfl _ _ _) rfl ?_
  exact ⟨_, _, o, rfl, HR.out, HBW.out⟩
theorem wpSeq_boxS {ops : Array Oper} {Q : Exit → Act → World → Prop} {rest : List Oper} {o : Oper} {a : Act} {w : World} (ty : TypeId) (x : Operand) (ad : Option Addr) (n c : Nat) (ho : o.op = .box ty x) (hx : a.eval x = .slice ad n c) (hw : Region.wanted o (yielded ops a.tmps) = true)
    (h : ∀ g w', NewC (.slice ad n c) ty w g w' → wpList Tryd.prog ops Q rest (a.put o.dst (.pointer (some ⟨g, 0, none⟩))) w') : wpList Tryd.prog ops Q (o :: rest) a w :=
  wpSeq_val _ _ hw (by unfold execOp; rw [ho]; simp only [hx]; rfl) (h _ _ (NewC.of (.slice ad n c) ty w))
theorem wpSeq_min {ops : Array Oper} {Q : Exit → Act → World → Prop} {rest : List Oper} {o : Oper} {a : Act} {w : World} (x y : Operand) (n m l : Nat) (hl : l = min n m) (ho : o.op = .call { callee := .builtin .min, args := #[x, y], argTypes := #[3, 3] }) (hx : a.eval x = .int .i64 (n : Int)) (hy : a.eval y = .int .i64 (m : Int)) (hw : Region.wanted o (yielded ops a.tmps) = true)
    (h : wpList Tryd.prog ops Q rest (a.put o.dst (.int .i64 (l : Int))) w) : wpList Tryd.prog ops Q (o :: rest) a w := by
  refine wpSeq_val _ w hw ?_ h
  clear h hw
  generalize a.eval = f at hx hy ⊢
  unfold execOp
  rw [ho]
  first
    | (simp [go_sem, hx, hy]; omega)
    | (simp [go_sem, hx, hy]; split <;> omega)
    | (by_cases hmn : m < n <;> simp [go_sem, hx, hy, hmn] <;> omega)
/-- what First answers -/
def FirstA (w : World) (a b : List (List (BitVec 8))) (e : Ending) (w' : World) : Prop := ∃ x y o, e = .returned (.tuple #[x, y, .bool o]) ∧ FirstR w' a b x y o ∧ Below w.heap.size w w'
set_option maxRecDepth 100000 in
set_option maxHeartbeats 8000000 in
theorem cFirst_any (va vb : Value) (a b : List (List (BitVec 8))) (w : World) (hK : KOk w) (ha : ReadsL w va a) (hb : ReadsL w vb b) (hla : a.length < 4611686018427387904) (hta : ∀ t ∈ a, t.length < 140737488355000) (htb : ∀ t ∈ b, t.length < 140737488355000) :
    Calls Tryd.prog 8 #[va, vb] w fun e w' => ∃ x y o, e = .returned (.tuple #[x, y, .bool o]) ∧ FirstR w' a b x y o ∧ Below w.heap.size w w' := by
  have HK : Hid (KOk w) := hK
  have HA : Hid (ReadsL w va a) := ha
  have HB : Hid (ReadsL w vb b) := hb
  have HTA : Hid (∀ t ∈ a, t.length < 140737488355000) := hta
  have HTB : Hid (∀ t ∈ b, t.length < 140737488355000) := htb
  obtain ⟨ada, cpa, hva⟩ := ha.slice
  obtain ⟨adb, cpb, hvb⟩ := hb.slice
  obtain ⟨n, HN⟩ : ∃ n, Hid (n = a.length) := ⟨_, rfl⟩
  obtain ⟨m, HM⟩ : ∃ n, Hid (n = b.length) := ⟨_, rfl⟩
  rw [← HN.out] at hva hla
  rw [← HM.out] at hvb
  subst hva hvb
  obtain ⟨l, HLM⟩ : ∃ l : Nat, Hid (l = min n m) := ⟨_, rfl⟩
  have HLN : Hid (n < 4611686018427387904) := hla
  have hnone : ∀ W : World, Reads W (.slice none 0 0) [] := fun W => ⟨Option.none, 0, rfl, Nat.le_refl _, fun _ => rfl, fun h => by cases h⟩
  have HNIL : Hid (∀ W : World, Reads W (.slice none 0 0) []) := hnone
  clear ha hb hta htb hla hK hnone
  have hmf : ∀ (fn : Go.Fn) (first cap : Array Value) (w : World), (Instr.makeFunc fn first cap).run Tryd.prog w = .ok (.func fn first cap) w := fun _ _ _ _ => rfl
  show Calls Tryd.prog 8 _ w (FirstA w a b)
  go_enter Tryd.func8, Tryd.ntmps8
  go_wp2_with (first
    | (with_reducible refine wpSeq_boxS 22 (.tmp 0) ada n cpa ?_ ?_ ?_ ?_
       · rfl
       · rfl
       · rfl
       intro ga w1 nn1)
    | (with_reducible refine wpSeq_boxS 22 (.tmp 1) adb m cpb ?_ ?_ ?_ ?_
       · rfl
       · rfl
       · rfl
       intro gb w2 nn2
       have HB2 : Hid (Below w.heap.size w w2) := nn1.below.trans (nn2.below.mono nn1.below.size)
       have c1 : w2.cell? ⟨ga, 0, none⟩ = some (.slice ada n cpa) := (nn1.blk.below nn2.below nn1.blk.lt).cell 0
       have c2 : w2.cell? ⟨gb, 0, none⟩ = some (.slice adb m cpb) := nn2.blk.cell 0
       have HG2 : Hid (w.heap.size ≤ ga ∧ w.heap.size ≤ gb ∧ Blk w2 ga [.slice ada n cpa] 22 ∧ Blk w2 gb [.slice adb m cpb] 22) := ⟨nn1.ge, Nat.le_trans nn1.below.size nn2.ge, nn1.blk.below nn2.below nn1.blk.lt, nn2.blk⟩
       clear nn1 nn2)
    | (with_reducible refine wpSeq_min (.tmp 14) (.tmp 16) n m l ?_ ?_ ?_ ?_ ?_ ?_
       · exact HLM.out
       · rfl
       · rfl
       · rfl
       · rfl))
  · have hln : l ≤ n ∧ l ≤ m := by have := HLM.out; omega
    go_loopw [18] (fun i wr => ∃ k : Nat, k ≤ l ∧ i = .int .i64 (k : Int) ∧ Below w2.heap.size w2 wr ∧ NoP a b k) (fun i _ => l - (intOf i).toNat)
    case atStart => exact ⟨0, by omega, rfl, Below.refl _ _, fun j hj => by omega⟩
    case round =>
      obtain ⟨k, hkl, rfl, hS, hno⟩ := hrel
      have HS : Hid (Below w2.heap.size w2 wr) := hS
      have HNO : Hid (NoP a b k) := hno
      have HBW : Hid (Below w.heap.size w wr) := HB2.out.trans (hS.mono HB2.out.size)
      clear hS hno
      by_cases h1 : k < l
      · have h1i : (k : Int) < (l : Int) := by omega
        have HK1 : Hid (k < a.length ∧ k < b.length) := by show _ ∧ _; rw [← HN.out, ← HM.out]; omega
        obtain ⟨ba, offa, cpa', ua, hva, hca, hra⟩ := HA.out.get (k := k) HK1.out.1
        obtain ⟨bb, offb, cpb', ub, hvb, hcb, hrb⟩ := HB.out.get (k := k) HK1.out.2
        rw [← HN.out] at hva
        rw [← HM.out] at hvb
        simp only [Value.slice.injEq, true_and] at hva hvb
        obtain ⟨rfl, rfl⟩ := hva
        obtain ⟨rfl, rfl⟩ := hvb
        have HC : Hid (Calls Tryd.prog 28 #[.int .i64 (k : Int), .pointer (some ⟨ga, 0, none⟩), .pointer (some ⟨gb, 0, none⟩)] wr fun e w' => ∃ v u o, e = .returned (.tuple #[v, u, .bool o]) ∧ PairR w' (a.getD k []) (b.getD k []) v u o ∧ Below wr.heap.size wr w') :=
          cFirst1_any ga gb k n m ba offa cpa bb offb cpb ua ub _ _ wr (HK.out.below HBW.out HK.out.lt) (HG2.out.2.2.1.below HS.out HG2.out.2.2.1.lt) (HG2.out.2.2.2.below HS.out HG2.out.2.2.2.lt) (by omega) (by omega) (hca wr HBW.out) (hcb wr HBW.out) (hra wr HBW.out) (hrb wr HBW.out) (mem_getD HTA.out HK1.out.1) (mem_getD HTB.out HK1.out.2)
        clear hca hcb hra hrb
        go_wp2_with fail
        refine HC.out.mono ?_
        rintro e w3 ⟨vx, vy, o, rfl, hr, hb3⟩
        have HB3 : Hid (Below w.heap.size w w3) := HBW.out.trans (hb3.mono HBW.out.size)
        have HS3 : Hid (Below w2.heap.size w2 w3) := HS.out.trans (hb3.mono HS.out.size)
        have HR : Hid (PairR w3 (a.getD k []) (b.getD k []) vx vy o) := hr
        have f5 : IntKind.i64.wrap ((k : Int) + 1) = (k : Int) + 1 := by rw [IntKind.wrap_i64]; have := HLN.out; omega
        clear hr hb3 HC HS HBW c1 c2
        cases o with
        | true =>
          have HF : Hid (firstI a b = some k) := firstI_of HK1.out.1 HK1.out.2 HR.out.eq.symm HNO.out
          go_wp2
          refine bodyPost_ret (results_tmp3 rfl _ _ _) rfl ?_
          exact ⟨_, _, true, rfl, ⟨by rw [HF.out]; rfl, (fun j hj => by rw [HF.out] at hj; cases hj; exact HR.out.yes rfl), fun h => by rw [HF.out] at h; cases h⟩, HB3.out⟩
        | false =>
          have HN2 : Hid (NoP a b (k + 1)) := HNO.out.succ HR.out.eq.symm
          go_wp2
          go_roundw
          case rel => exact ⟨k + 1, by omega, by simp, HS3.out, HN2.out⟩
          case measure => simp [intOf]; omega
      · have h1i : ¬ ((k : Int) < (l : Int)) := by omega
        have HF : Hid (firstI a b = none) := firstI_of_none (by have h9 := HLM.out; rw [← HN.out, ← HM.out]; omega) HNO.out
        go_wp2
        refine bodyPost_ret (results_tmp3 rfl _ _ _) rfl ?_
        exact ⟨_, _, false, rfl, ⟨by rw [HF.out]; rfl, (fun k hk => by rw [HF.out] at hk; cases hk), fun _ => ⟨HNIL.out _, HNIL.out _⟩⟩, HBW.out⟩
end Go.Proofs.YtpeifpoeeopecaaDoor
/- The walk of the statements' works (layer 8). -/
namespace Go.Proofs.YtpeifpoeeopecaaDoor
open Go.RowKit
set_option maxRecDepth 100000
def dgt (b : BitVec 8) : List (BitVec 8) := b :: List.replicate 31 0
theorem dig69_ne : dig [69] ≠ zb32 := by decide +kernel
theorem buildT1 (a : Act) (o : Oper) (ho : o.op = .build 33 #[(0, .const (.int .u8 1))]) (w : World) : (execOp a.eval o).run Tryd.prog w = .ok (.value (.agg (cb (dgt 1)).toArray)) w := by
  unfold execOp
  rw [ho]
  simp only [Act.eval, List.map_toArray, List.map_cons, List.map_nil]
  kernel_rfl
theorem buildW1 (f : Operand → Value) (o : Oper) (p q : Operand) (ho : o.op = .build 36 #[(1, .const (.int .i64 1)), (2, p), (3, q)]) (h0 : f (.const (.int .i64 1)) = .int .i64 1) (hp : f p = .agg (cb (dgt 1)).toArray) (hq : f q = .agg (cb (dgt 1)).toArray) (w : World) : (execOp f o).run Tryd.prog w = .ok (.value (.agg (prfV nilV 1 (dgt 1) (dgt 1)).toArray)) w := by
  unfold execOp
  rw [ho]
  simp only [List.map_toArray, List.map_cons, List.map_nil, h0, hp, hq]
  kernel_rfl
theorem common_self (x : List (BitVec 8)) : common x x = 256 := common_is x x 256 (Nat.le_refl _) (fun _ _ => rfl) (fun h => absurd h (Nat.lt_irrefl _))
theorem check_leaf (x : List (BitVec 8)) : checkW (dig (pairB 76 x x)) x [] 1 x x = some (some x) := by
  unfold checkW
  rw [if_neg, if_pos ⟨rfl, rfl⟩]
  rintro (h | ⟨_, h⟩ | h)
  · simp [rightW] at h
  · simp at h
  · exact h (topL_nil _ _ _)
theorem check_empty (x : List (BitVec 8)) : checkW (dig [69]) x [] 0 zb32 zb32 = some Option.none := by
  unfold checkW
  rw [if_neg, if_neg (fun h => absurd h.1 (by decide))]
  rintro (h | ⟨h, _⟩ | h)
  · simp [rightW] at h
  · exact absurd h (by decide)
  · exact h (topL_nil _ _ _)
theorem check_zero (x : List (BitVec 8)) : checkW zb32 x [] 0 zb32 zb32 = Option.none := by
  unfold checkW
  rw [if_pos (Or.inr (Or.inr (by rw [topL_nil]; exact dig69_ne)))]
/-- where works stands -/
structure Pw (w : World) (g : Nat) (x : List (BitVec 8)) (W : World) : Prop where
  k0 : KOk w
  xb : Blk W g (cb x) 33
  bel : Below w.heap.size w W
theorem Pw.kk {w W : World} {g : Nat} {x : List (BitVec 8)} (h : Pw w g x W) : KOk W := h.k0.below h.bel h.k0.lt
theorem Pw.next {w W W' : World} {g : Nat} {x : List (BitVec 8)} (h : Pw w g x W) (hb : Below W.heap.size W W') : Pw w g x W' :=
  ⟨h.k0, h.xb.below hb h.xb.lt, h.bel.trans (hb.mono h.bel.size)⟩
theorem Pw.set {w W W' : World} {g ga : Nat} {x : List (BitVec 8)} (h : Pw w g x W) (hne : ga ≠ g) (hk : ∀ k, k ≠ ga → W'.heap[k]? = W.heap[k]?) (hb : Below w.heap.size w W') : Pw w g x W' := by
  refine ⟨h.k0, ?_, hb⟩
  have h2 := h.xb
  unfold Blk at *
  rw [hk g (Ne.symm hne)]
  exact h2
theorem readsD_nil (W : World) : ReadsD W nilV [] := ⟨⟨Option.none, 0, rfl, Nat.le_refl _, fun _ => rfl, fun h => absurd h (by simp)⟩, fun _ h => by cases h⟩
end Go.Proofs.YtpeifpoeeopecaaDoor

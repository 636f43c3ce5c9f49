/- Texts that the proof leans on, one behind the other: path.Bits' function once more: it yields the places below 256, in order, each with its bit. A reading beside one call, and beside two calls in a row, in a region that draws: all orders at once. The walks of lamport's begun, put, hidden and halves (layer 10). .. -/
import Derived.Test.YtaogafadnkheeaaDoorMgb
import Derived.Deep.CutRange
import Derived.Deep.DeepCutAuto
/- path.Bits' function once more: it yields the places below 256, in order, each with its bit. -/
namespace Go.Proofs.YtaogafadnkheeaaDoor
open Go.RowKit Go.Shelf
set_option maxRecDepth 100000
attribute [local go_sem] Oper.semAt_some
abbrev encsT (x : List (BitVec 8)) (p : {k : Nat // k < 256}) : Array Value := #[.int .i64 (p.1 : Int), .bool (bt x p.1)]
/-- the first k places -/
def pathT : Nat → List {k : Nat // k < 256}
  | 0 => []
  | k + 1 => if h : k < 256 then pathT k ++ [⟨k, h⟩] else pathT k
theorem pathT_succ (k : Nat) (h : k < 256) : pathT (k + 1) = pathT k ++ [⟨k, h⟩] := by rw [pathT, dif_pos h]
theorem pathT_len (k : Nat) (h : k ≤ 256) : (pathT k).length = k := by
  induction k with
  | zero => rfl
  | succ k ih => rw [pathT_succ k (by omega), List.length_append, ih (by omega)]; rfl
set_option maxRecDepth 100000 in
set_option maxHeartbeats 2000000 in
theorem bits_told (n : Nat) (hn : 1 ≤ n) (g : Nat) (x : List (BitVec 8)) (hx : x.length = 32) (w : World) (hb : Blk w g (cb x) 23) :
    SeqStopsK Fence.wide n Tryd.prog 40 #[.pointer (some ⟨g, 0, none⟩)] (encsT x) (fun _ _ => True) (fun xs => xs = pathT 256) (fun pre => ∃ k, k ≤ 256 ∧ pre = pathT k) 256 w := fun l J Jx W hW hJ hJx hY h0 => by
  refine callsIn_of_wp Tryd.func40 rfl trivial ?_ rfl
  simp only [Tryd.ntmps40, List.size_toArray, List.length_cons, List.length_nil, Nat.reduceAdd, Nat.reduceSub, Array.replicate_succ, Array.replicate_zero, List.push_toArray, List.append_toArray, List.nil_append, List.cons_append]
  refine (wpIn_wide (n := n)).2 (wp_scope_straight ?_)
  have HW : Hid (Blk W g (cb x) 23) := hb.below hW hb.lt
  have HL : Hid (x.length = 32) := hx
  have HJ : Hid (AbidesFrom W.heap.size J) := hJ
  have HJX : Hid (AbidesFrom W.heap.size Jx) := hJx
  clear hb hx hJ hJx hW
  refine wp_seq (wp_label ?_)
  show Code.wp _ _ _ _ _
  go_wp2_with (first
    | (with_reducible refine wpSeq_loadD (.tmp 1) g x ?_ ?_ ?_ ?_ ?_ ?_
       · exact HL.out
       · exact HW.out
       · rfl
       · rfl
       · rfl))
  go_loopw [7] (fun p wr => ∃ k : Nat, k ≤ 32 ∧ p = .int .i64 (k : Int) ∧ J (pathT (8 * k)) wr) (fun p _ => 32 - (intOf p).toNat)
  case atStart => exact ⟨0, by omega, rfl, h0⟩
  case round =>
    obtain ⟨k, hk, rfl, hJk⟩ := hrel
    have HJK : Hid (J (pathT (8 * k)) wr) := hJk
    clear hJk
    by_cases hlt : k < 32
    · have HKX : Hid (k < x.length) := by show _ < _; rw [HL.out]; exact hlt
      obtain ⟨b, hbb⟩ : ∃ b, b = x.getD k 0 := ⟨_, rfl⟩
      have hix : ∀ wz, (Instr.index 23 (.agg (cb x).toArray) (.int .i64 (k : Int))).run Tryd.prog wz = .ok (.int .u8 (b.toNat : Int)) wz := fun wz => by rw [hbb]; exact idx_dig x HL.out k hlt wz
      have HBB : Hid (b = x.getD k 0) := hbb
      clear hbb
      have k0 : (0 : Int) ≤ (k : Int) := by omega
      have k1 : (k : Int) < 32 := by omega
      go_wp2
      go_loopw [11] (fun p wr => ∃ j : Nat, j ≤ 8 ∧ p = .int .i64 (j : Int) ∧ J (pathT (8 * k + j)) wr) (fun p _ => 8 - (intOf p).toNat)
      case atStart => exact ⟨0, by omega, rfl, HJK.out⟩
      case round =>
        rename_i wr2 _ _ _ _ _ _ _ _ _ _ _ _ _ _ _ _ _
        obtain ⟨j, hj, rfl, hJj⟩ := hrel
        clear HJK
        by_cases hlt2 : j < 8
        · obtain ⟨q, hq⟩ : ∃ q, q = 8 * k + j := ⟨_, rfl⟩
          obtain ⟨k8, hk8⟩ : ∃ k8, k8 = k * 8 := ⟨_, rfl⟩
          obtain ⟨o, ho⟩ : ∃ o, o = bt x q := ⟨_, rfl⟩
          have f1 : (k : Int) * 8 = (k8 : Int) := by omega
          have f2 : IntKind.i64.wrap (k8 : Int) = (k8 : Int) := wrap_small _ (by omega) (by omega)
          have f3 : (k8 : Int) + (j : Int) = (q : Int) := by omega
          have f4 : IntKind.i64.wrap (q : Int) = (q : Int) := wrap_small _ (by omega) (by omega)
          have j1 : (j : Int) < 8 := by omega
          have f5 : IntKind.i64.wrap ((j : Int) + 1) = (j : Int) + 1 := wrap_small _ (by omega) (by omega)
          have hand := u8_and b (mask j)
          have hz : ((((b.toNat &&& (mask j).toNat : Nat) : Int)) != 0) = o := by
            have h := mask_and b ⟨j, hlt2⟩
            have hm : mask j = 128#8 >>> j := by rw [mask, Nat.mod_eq_of_lt hlt2]
            simp only [← hm] at h
            have e : o = b.getMsbD j := by rw [ho, HBB.out, bt, hq, show (8 * k + j) / 8 = k by omega, show (8 * k + j) % 8 = j by omega]
            rw [e, ← BitVec.toNat_and]
            cases hg : b.getMsbD j
            · rw [hg] at h
              have h2 := of_decide_eq_true (h.trans rfl)
              rw [h2]; rfl
            · rw [hg] at h
              have h2 := of_decide_eq_false (h.trans rfl)
              rw [bne_iff_ne]
              intro h3
              exact h2 (BitVec.eq_of_toNat_eq (by simpa using h3))
          have hq6 : q < 256 := by omega
          have HNX : Hid (pathT (8 * k + (j + 1)) = pathT (8 * k + j) ++ [⟨q, hq6⟩]) := by
            show _ = _
            subst hq
            rw [← Nat.add_assoc]
            exact pathT_succ _ hq6
          obtain ⟨fn, tmps, assign, body, hy, hR⟩ := hY (pathT (8 * k + j)) ⟨q, hq6⟩ _ hJj (by rw [pathT_len _ (by omega)]; omega)
          dsimp only [encsT] at hy
          rw [← ho] at hy
          clear hq hk8 ho hlt2 hj
          refine (wpIn_wide (n := n)).1 ?_
          gi_wp2_with (refine ⟨trivial, ?_⟩; gi_at_call 41; refine (callsIn_wide.2 (bitOf_any _ _)).mono ?_; rintro e wz ⟨rfl, hz2⟩; rw [hz2]; clear hz2 wz)
          refine hR.mono ?_
          clear hR hy hY hJj
          rintro e W3 (⟨rfl, hJ3, _⟩ | ⟨rfl, hJx3⟩)
          · rw [← HNX.out] at hJ3
            gi_wp2
            go_roundw
            case rel => exact ⟨j + 1, by omega, by simp, hJ3⟩
            case measure => simp [intOf]; omega
          · rw [← HNX.out] at hJx3
            gi_wp2
            refine noGoto_normal ?_
            go_end0
            exact ⟨⟨_, rfl⟩, .inr ⟨_, ⟨8 * k + (j + 1), by omega, rfl⟩, hJx3⟩⟩
        · have hj8 : j = 8 := by omega
          subst hj8
          have HJ8 : Hid (J (pathT (8 * (k + 1))) wr) := by rw [Nat.mul_add]; exact hJj
          have f5 : IntKind.i64.wrap ((k : Int) + 1) = (k : Int) + 1 := wrap_small _ (by omega) (by omega)
          clear hJj hj hlt2
          go_wp2
          go_roundw
          case rel => exact ⟨k + 1, by omega, by simp, HJ8.out⟩
          case measure => simp [intOf]; omega
    · have hk32 : k = 32 := by omega
      subst hk32
      go_wp2
      refine noGoto_normal ?_
      go_end0
      exact ⟨⟨_, rfl⟩, .inl ⟨_, rfl, HJK.out⟩⟩
end Go.Proofs.YtaogafadnkheeaaDoor
/- A reading beside one call, and beside two calls in a row, in a region that draws: all orders at once. -/
namespace Go.Proofs.YtaogafadnkheeaaDoor
open Go.RowKit
set_option maxRecDepth 100000
/-- a reading beside a call -/
theorem wpAnyH_readC {P : Program} {md : Region.Mode} {ops : Array Oper} {Q : Exit → Act → World → Prop} {S : World → Prop} {fuel : Nat} {listed : Array Bool} {a : Act} {w : World} (i j : Nat) {oi oj : Oper} (v : Value) {f : FuncId} {args : Array Value} {R : Ending → World → Prop}
    (hr : Region.ready md ops listed = [i, j]) (hi : ops[i]? = some oi) (hj : ops[j]? = some oj)
    (wi : Region.wanted oi (yielded ops a.tmps) = true) (wj : Region.wanted oj (yielded ops a.tmps) = true) (wi2 : ∀ u, Region.wanted oi (yielded ops (a.put oj.dst u).tmps) = true) (wj2 : Region.wanted oj (yielded ops (a.put oi.dst v).tmps) = true)
    (ei : (execOp a.eval oi).run P w = .ok (.value v) w) (ej : (execOp a.eval oj).run P w = .ok (.enter f args) w) (ej2 : (execOp (a.put oi.dst v).eval oj).run P w = .ok (.enter f args) w) (hc : Calls P f args w R)
    (hr1 : Region.ready md ops (listed.setIfInBounds i true) = [j]) (hr2 : Region.ready md ops (listed.setIfInBounds j true) = [i])
    (hp : ∀ u, (a.put oj.dst u).put oi.dst v = (a.put oi.dst v).put oj.dst u) (hl : (listed.setIfInBounds j true).setIfInBounds i true = (listed.setIfInBounds i true).setIfInBounds j true)
    (hS : S w) (h : ∀ e w', R e w' → ∃ u, e = .returned u ∧ S w' ∧ (execOp (a.put oj.dst u).eval oi).run P w' = .ok (.value v) w' ∧ wpAnyH P md ops Q S fuel ((listed.setIfInBounds i true).setIfInBounds j true) ((a.put oi.dst v).put oj.dst u) w') : wpAnyH P md ops Q S (fuel + 2) listed a w := by
  refine wpAnyH_all hr (by simp) (fun k hk => ?_)
  rcases List.mem_cons.1 hk with rfl | hk
  · refine wpOp_vl k v w hi wi ei ⟨hS, wpAnyH_enter j hr1 hj wj2 ej2 hc fun e w' hR => ?_⟩
    obtain ⟨u, h1, h2, _, h4⟩ := h e w' hR
    exact ⟨u, h1, h2, h4⟩
  · obtain rfl : k = j := by simpa using hk
    unfold wpOp
    rw [hj]
    simp only [wj, if_true]
    left
    unfold Oper.wp
    rw [ej, Oper.upon_enter]
    refine hc.mono ?_
    intro e w' hR
    obtain ⟨u, rfl, h2, h3, h4⟩ := h e w' hR
    refine ⟨h2, wpAnyH_step i v w' hr2 hi (wi2 u) h3 h2 ?_⟩
    rw [hl, hp]
    exact h4
/-- a reading beside two calls of which the second waits for the first -/
theorem wpAnyH_readC2 {P : Program} {md : Region.Mode} {ops : Array Oper} {Q : Exit → Act → World → Prop} {S : World → Prop} {fuel : Nat} {listed : Array Bool} {a : Act} {w : World} (i j k : Nat) {oi oj ok : Oper} (v : Value) {f : FuncId} {args : Array Value} {R : Ending → World → Prop}
    (hr : Region.ready md ops listed = [i, j]) (hi : ops[i]? = some oi) (hj : ops[j]? = some oj) (hk : ops[k]? = some ok)
    (wi : Region.wanted oi (yielded ops a.tmps) = true) (wj : Region.wanted oj (yielded ops a.tmps) = true) (wi2 : ∀ u, Region.wanted oi (yielded ops (a.put oj.dst u).tmps) = true) (wi3 : ∀ u u2, Region.wanted oi (yielded ops ((a.put oj.dst u).put ok.dst u2).tmps) = true) (wj2 : Region.wanted oj (yielded ops (a.put oi.dst v).tmps) = true)
    (wk : ∀ u, Region.wanted ok (yielded ops (a.put oj.dst u).tmps) = true) (wk2 : ∀ u, Region.wanted ok (yielded ops ((a.put oi.dst v).put oj.dst u).tmps) = true)
    (ei : (execOp a.eval oi).run P w = .ok (.value v) w) (ej : (execOp a.eval oj).run P w = .ok (.enter f args) w) (ej2 : (execOp (a.put oi.dst v).eval oj).run P w = .ok (.enter f args) w) (hc : Calls P f args w R)
    (hr1 : Region.ready md ops (listed.setIfInBounds i true) = [j]) (hr2 : Region.ready md ops (listed.setIfInBounds j true) = [i, k]) (hr12 : Region.ready md ops ((listed.setIfInBounds i true).setIfInBounds j true) = [k]) (hr3 : Region.ready md ops ((listed.setIfInBounds j true).setIfInBounds k true) = [i])
    (hp : ∀ u, (a.put oj.dst u).put oi.dst v = (a.put oi.dst v).put oj.dst u) (hp3 : ∀ u u2, ((a.put oj.dst u).put ok.dst u2).put oi.dst v = ((a.put oi.dst v).put oj.dst u).put ok.dst u2)
    (hl : (listed.setIfInBounds j true).setIfInBounds i true = (listed.setIfInBounds i true).setIfInBounds j true) (hl3 : ((listed.setIfInBounds j true).setIfInBounds k true).setIfInBounds i true = ((listed.setIfInBounds i true).setIfInBounds j true).setIfInBounds k true)
    (hS : S w) (h : ∀ e w', R e w' → ∃ u, e = .returned u ∧ S w' ∧ (execOp (a.put oj.dst u).eval oi).run P w' = .ok (.value v) w' ∧ ∃ f2 args2 R2, (execOp (a.put oj.dst u).eval ok).run P w' = .ok (.enter f2 args2) w' ∧ (execOp ((a.put oi.dst v).put oj.dst u).eval ok).run P w' = .ok (.enter f2 args2) w' ∧ Calls P f2 args2 w' R2 ∧
      ∀ e2 w2, R2 e2 w2 → ∃ u2, e2 = .returned u2 ∧ S w2 ∧ (execOp ((a.put oj.dst u).put ok.dst u2).eval oi).run P w2 = .ok (.value v) w2 ∧ wpAnyH P md ops Q S fuel (((listed.setIfInBounds i true).setIfInBounds j true).setIfInBounds k true) (((a.put oi.dst v).put oj.dst u).put ok.dst u2) w2) : wpAnyH P md ops Q S (fuel + 3) listed a w := by
  have tail : ∀ e w' u, R e w' → e = .returned u → S w' ∧ wpAnyH P md ops Q S (fuel + 1) ((listed.setIfInBounds i true).setIfInBounds j true) ((a.put oi.dst v).put oj.dst u) w' := by
    intro e w' u hR he
    obtain ⟨u', h1, h2, _, f2, args2, R2, _, h5, h6, h7⟩ := h e w' hR
    rw [he] at h1
    obtain rfl : u = u' := by injection h1
    refine ⟨h2, wpAnyH_enter k hr12 hk (wk2 u) h5 h6 fun e2 w2 h8 => ?_⟩
    obtain ⟨u2, a1, a2, _, a4⟩ := h7 e2 w2 h8
    exact ⟨u2, a1, a2, a4⟩
  refine wpAnyH_all hr (by simp) (fun q hq => ?_)
  rcases List.mem_cons.1 hq with rfl | hq
  · refine wpOp_vl q v w hi wi ei ⟨hS, wpAnyH_enter j hr1 hj wj2 ej2 hc fun e w' hR => ?_⟩
    obtain ⟨u, h1, _⟩ := h e w' hR
    exact ⟨u, h1, tail e w' u hR h1⟩
  · obtain rfl : q = j := by simpa using hq
    unfold wpOp
    rw [hj]
    simp only [wj, if_true]
    left
    unfold Oper.wp
    rw [ej, Oper.upon_enter]
    refine hc.mono ?_
    intro e w' hR
    obtain ⟨u, h1, h2, h3, f2, args2, R2, h4, h5, h6, h7⟩ := h e w' hR
    have ht := tail e w' u hR h1
    subst h1
    refine ⟨h2, ?_⟩
    refine wpAnyH_all hr2 (by simp) (fun r hr' => ?_)
    rcases List.mem_cons.1 hr' with rfl | hr'
    · refine wpOp_vl r v w' hi (wi2 u) h3 ⟨h2, ?_⟩
      rw [hl, hp]
      exact ht.2
    · obtain rfl : r = k := by simpa using hr'
      unfold wpOp
      rw [hk]
      simp only [wk u, if_true]
      left
      unfold Oper.wp
      rw [h4, Oper.upon_enter]
      refine h6.mono ?_
      intro e2 w2 h8
      obtain ⟨u2, rfl, a2, a3, a4⟩ := h7 e2 w2 h8
      refine ⟨a2, wpAnyH_step i v w2 hr3 hi (wi3 u u2) a3 a2 ?_⟩
      rw [hl3, hp3]
      exact a4
end Go.Proofs.YtaogafadnkheeaaDoor
/- The walks of lamport's begun, put, hidden and halves (layer 10). -/
namespace Go.Proofs.YtaogafadnkheeaaDoor
open Go.RowKit Go.Shelf
/-- what stands below base, and every block but one of bytes, is as it was -/
structure KeptB (base : Nat) (w w' : World) : Prop where
  bel : Below base w w'
  oth : KeepsOthers w w'
  blk : ∀ g cs t, t ≠ 5 → Blk w g cs t → Blk w' g cs t
theorem KeptB.refl (base : Nat) (w : World) : KeptB base w w := ⟨Below.refl _ _, KeepsOthers.refl _, fun _ _ _ _ h => h⟩
theorem KeptB.next {base : Nat} {w y y' : World} (h : KeptB base w y) (hb : base ≤ w.heap.size) (hy : Below y.heap.size y y') : KeptB base w y' :=
  ⟨h.bel.trans (hy.mono (Nat.le_trans hb h.bel.size)), h.oth.trans (keepsOthers_of_below hy), fun g cs t ht hg => (h.blk g cs t ht hg).below hy (h.blk g cs t ht hg).lt⟩
theorem KeptB.grown {base : Nat} {w y y' : World} {v : Value} {l : List (BitVec 8)} (h : KeptB base w y) (ho : OwnB y base v l) (hg : y.grownBy y' v.ownBlock) (hb : Below base y y') : KeptB base w y' :=
  ⟨h.bel.trans hb, h.oth.trans (keeps_append ho hg), fun g cs t ht hh => (h.blk g cs t ht hh).grown hg (ho.ne (h.blk g cs t ht hh) ht)⟩
/-- a slice of one byte -/
theorem wpSeq_buildY {ops : Array Oper} {Q : Exit → Act → World → Prop} {rest : List Oper} {o : Oper} {a : Act} {w : World} (b : BitVec 8) (x : Operand) (hx : a.eval x = .int .u8 (b.toNat : Int)) (ho : o.op = .buildSlice 25 1 #[(0, x)]) (hw : Region.wanted o (yielded ops a.tmps) = true)
    (h : ∀ g w', Blk w' g (cb [b]) 5 → Below w.heap.size w w' → wpList Tryd.prog ops Q rest (a.put o.dst (.slice (some ⟨g, 0, none⟩) 1 1)) w') : wpList Tryd.prog ops Q (o :: rest) a w := by
  refine wpSeq_val _ (w.alloc (.cells (cb [b]).toArray 5)) hw ?_ (h w.heap.size _ (Blk.new w _ 5) (below_alloc _ _))
  unfold execOp
  rw [ho]
  generalize a.eval = f at hx ⊢
  simp only [List.map_toArray, List.map_cons, List.map_nil, hx]
  kernel_rfl
theorem blk_reads_y {w : World} {g : Nat} {l : List (BitVec 8)} (h : Blk w g (cb l) 5) : Reads w (.slice (some ⟨g, 0, none⟩) l.length l.length) l :=
  ⟨_, _, rfl, Nat.le_refl _, (fun e => by cases e), fun _ => ⟨g, 0, rfl, fun j hj => by rw [Nat.zero_add, h.cell, cb_get l j hj]⟩⟩
set_option maxRecDepth 100000 in
set_option maxHeartbeats 8000000 in
theorem lBegun_any (w : World) : Calls Tryd.prog 24 #[] w fun e w' => ∃ v, e = .returned v ∧ OwnB w' w.heap.size v [80] ∧ Below w.heap.size w w' := by
  have HBW : Hid (Below w.heap.size w w) := Below.refl _ _
  go_enter Tryd.func24, Tryd.ntmps24
  have tk0 : Hid True := trivial
  have tk1 : Hid True := trivial
  have tk2 : Hid True := trivial
  go_wp2_with (first
    | (clear tk0; with_reducible refine wpSeq_make (.const (.int .i64 0)) (.const (.int .i64 16385)) 0 16385 ?_ ?_ ?_ ?_ ?_ ?_ ?_
       · decide
       · decide
       · rfl
       · rfl
       · rfl
       · rfl
       intro go y1 z hz hge hzb hzl
       have HO : Hid (OwnB y1 w.heap.size (.slice (some ⟨go, 0, none⟩) 0 16385) []) := own_of_blk (k := 0) hzb (Nat.le_trans HBW.out.size hge) (by rw [hz, List.length_replicate]) (by decide) (by decide)
       replace HBW : Hid (Below w.heap.size w y1) := HBW.out.trans (hzl.mono HBW.out.size)
       clear hz hge hzb hzl)
    | (clear tk1; with_reducible refine wpSeq_buildY 80 (.const (.int .u8 80)) ?_ ?_ ?_ ?_
       · rfl
       · rfl
       · rfl
       intro gy y2 hgb hbz
       replace HO : Hid (OwnB y2 w.heap.size (.slice (some ⟨go, 0, none⟩) 0 16385) ([])) := HO.out.below hbz (Nat.le_refl _)
       replace HBW : Hid (Below w.heap.size w y2) := HBW.out.trans (hbz.mono HBW.out.size)
       have HR : Hid (Reads y2 (.slice (some ⟨gy, 0, none⟩) 1 1) [80]) := blk_reads_y hgb
       clear hgb hbz)
    | (clear tk2; at_builtin; with_reducible refine wpSeq_appendG (.tmp 1) (.tmp 2) w.heap.size (.slice (some ⟨go, 0, none⟩) 0 16385) (.slice (some ⟨gy, 0, none⟩) 1 1) ([]) ([80]) HO.out (HR.out) (by decide) (by decide) HBW.out.size ?_ ?_ ?_ ?_ ?_
       · rfl
       · rfl
       · rfl
       · rfl
       intro v1 y3 hown hgr hbz
       replace HO : Hid (OwnB y3 w.heap.size v1 ([] ++ [80])) := hown
       replace HBW : Hid (Below w.heap.size w y3) := HBW.out.trans hbz
       clear hown hgr hbz))
  go_ret
  exact ⟨_, rfl, HO.out, HBW.out⟩
set_option maxRecDepth 100000 in
set_option maxHeartbeats 8000000 in
theorem lPut_any (v : Value) (l f s : List (BitVec 8)) (base : Nat) (w : World) (hb : base ≤ w.heap.size) (ho : OwnB w base v l) (hf : f.length = 32) (hs : s.length = 32) (hl : l.length ≤ 1000000) :
    Calls Tryd.prog 25 #[v, .agg (cb f).toArray, .agg (cb s).toArray] w fun e w' => ∃ v', e = .returned v' ∧ OwnB w' base v' (l ++ f ++ s) ∧ KeptB base w w' := by
  have HBS : Hid (base ≤ w.heap.size) := hb
  have HO : Hid (OwnB w base v l) := ho
  have HFL : Hid (f.length = 32) := hf
  have HSL : Hid (s.length = 32) := hs
  have HLL : Hid (l.length ≤ 1000000) := hl
  have HKP : Hid (KeptB base w w) := KeptB.refl _ _
  clear hb ho hf hs hl
  go_enter Tryd.func25, Tryd.ntmps25
  have tka7 : Hid True := trivial
  have tka10 : Hid True := trivial
  have tk1 : Hid True := trivial
  have tk2 : Hid True := trivial
  go_wp2_with (first
    | (clear tk1; with_reducible refine wpSeq_boxD (.tmp 1) f ?_ ?_ ?_ ?_
       · rfl
       · rfl
       · rfl
       intro gf y1 nn
       replace HKP : Hid (KeptB base w y1) := HKP.out.next HBS.out nn.below
       replace HO : Hid (OwnB y1 base v l) := HO.out.below nn.below (Nat.le_refl _)
       have HF : Hid (Blk y1 gf (cb f) 23) := nn.blk
       clear nn)
    | (clear tk2; with_reducible refine wpSeq_boxD (.tmp 2) s ?_ ?_ ?_ ?_
       · rfl
       · rfl
       · rfl
       intro gs y2 nn
       replace HKP : Hid (KeptB base w y2) := HKP.out.next HBS.out nn.below
       replace HO : Hid (OwnB y2 base v l) := HO.out.below nn.below (Nat.le_refl _)
       replace HF : Hid (Blk y2 gf (cb f) 23) := HF.out.below nn.below HF.out.lt
       have HG : Hid (Blk y2 gs (cb s) 23) := nn.blk
       clear nn)
    | (at_builtin; clear tka7; with_reducible refine wpSeq_appendG (.tmp 7) (.tmp 8) base v (.slice (some ⟨gf, 0, none⟩) 32 32) (l) f HO.out (HF.out.reads HFL.out.symm (by rw [HFL.out]; exact Nat.le_refl _)) (by rw [HFL.out]; decide) (by have h1 := HLL.out; have h2 := HFL.out; have h3 := HSL.out; (try rw [List.length_append]); omega) (Nat.le_trans HBS.out HKP.out.bel.size) ?_ ?_ ?_ ?_ ?_
       · rfl
       · rfl
       · rfl
       · rfl
       intro v1 y3 hown hgr hbz
       replace HKP : Hid (KeptB base w y3) := HKP.out.grown HO.out hgr hbz
       replace HG : Hid (Blk y3 gs (cb s) 23) := HG.out.grown hgr (HO.out.ne HG.out (by decide))
       replace HO : Hid (OwnB y3 base v1 (l ++ f)) := hown
       clear hown hgr hbz)
    | (at_builtin; clear tka10; with_reducible refine wpSeq_appendG (.tmp 10) (.tmp 11) base v1 (.slice (some ⟨gs, 0, none⟩) 32 32) (l ++ f) s HO.out (HG.out.reads HSL.out.symm (by rw [HSL.out]; exact Nat.le_refl _)) (by rw [HSL.out]; decide) (by have h1 := HLL.out; have h2 := HFL.out; have h3 := HSL.out; (try rw [List.length_append]); omega) (Nat.le_trans HBS.out HKP.out.bel.size) ?_ ?_ ?_ ?_ ?_
       · rfl
       · rfl
       · rfl
       · rfl
       intro v2 y4 hown hgr hbz
       replace HKP : Hid (KeptB base w y4) := HKP.out.grown HO.out hgr hbz
       replace HG : Hid (Blk y4 gs (cb s) 23) := HG.out.grown hgr (HO.out.ne HG.out (by decide))
       replace HO : Hid (OwnB y4 base v2 (l ++ f ++ s)) := hown
       clear hown hgr hbz))
  go_ret
  exact ⟨_, rfl, HO.out, HKP.out⟩
/-- which of the two parts -/
def sdI (o : Bool) : Int := if o then 1 else 0
theorem key_any (x : List (BitVec 8)) (key i : Nat) (o : Bool) (W : World) (hK : KOk W) (hn : x.length = 32 ∧ key < 18446744073709551616 ∧ i < 256) :
    Calls Tryd.prog 31 #[.agg (cb x).toArray, .int .u64 (key : Int), .int .i64 (i : Int), .int .i64 (sdI o)] W fun e w' => e = .returned (.agg (cb (partB x key i o)).toArray) ∧ Below W.heap.size W w' := by
  cases o with
  | true => exact tKey_any x key _ (i : Int) (1 : Int) W hK (key_place i hn.2.2 1 (by omega)) ⟨hn.1, hn.2.1, by (split <;> omega)⟩
  | false => exact tKey_any x key _ (i : Int) (0 : Int) W hK (key_place i hn.2.2 0 (by omega)) ⟨hn.1, hn.2.1, by (split <;> omega)⟩
set_option maxRecDepth 100000 in
set_option maxHeartbeats 8000000 in
theorem lHidden_any (x : List (BitVec 8)) (key i : Nat) (o : Bool) (w : World) (hK : KOk w) (hn : x.length = 32 ∧ key < 18446744073709551616 ∧ i < 256) :
    Calls Tryd.prog 26 #[.agg (cb x).toArray, .int .u64 (key : Int), .int .i64 (i : Int), .int .i64 (sdI o)] w fun e w' => e = .returned (.agg (cb (dig (partB x key i o))).toArray) ∧ Below w.heap.size w w' := by
  obtain ⟨p, HPD⟩ : ∃ r, Hid (r = partB x key i o) := ⟨_, rfl⟩
  have HPL : Hid (p.length = 32) := by show _ = _; rw [HPD.out]; exact len_partB _ _ _ _
  obtain ⟨si, HSI⟩ : ∃ r, Hid (r = sdI o) := ⟨_, rfl⟩
  have HC1 : Hid (∀ W : World, Below w.heap.size w W → Calls Tryd.prog 31 #[.agg (cb x).toArray, .int .u64 (key : Int), .int .i64 (i : Int), .int .i64 si] W fun e w' => e = .returned (.agg (cb p).toArray) ∧ Below W.heap.size W w') := fun W hh => by rw [HPD.out, HSI.out]; exact key_any x key i o W (hK.below hh hK.lt) hn
  rw [← HPD.out, ← HSI.out]
  obtain ⟨r, HRD⟩ : ∃ r, Hid (r = dig p) := ⟨_, rfl⟩
  have HRL : Hid (r.length = 32) := by show _ = _; rw [HRD.out]; exact len_dig' _
  have HC2 : Hid (∀ W : World, Below w.heap.size w W → ∀ v, Reads W v p → Calls Tryd.prog 28 #[v] W fun e w' => e = .returned (.agg (cb r).toArray) ∧ Below W.heap.size W w') := fun W hh v hv => by rw [HRD.out]; exact tOf_any v p W (hK.below hh hK.lt) hv (by rw [HPL.out]; omega)
  have HN : Hid (x.length = 32 ∧ key < 18446744073709551616 ∧ i < 256) := hn
  have HBW : Hid (Below w.heap.size w w) := Below.refl _ _
  clear hn HPD hK HSI
  go_enter Tryd.func26, Tryd.ntmps26
  have tk0 : Hid True := trivial
  have tk1 : Hid True := trivial
  have tk2 : Hid True := trivial
  have tk3 : Hid True := trivial
  have tk4 : Hid True := trivial
  have tk5 : Hid True := trivial
  have tk6 : Hid True := trivial
  have tk7 : Hid True := trivial
  go_wp2_with (first
    | (clear tk0; with_reducible refine wpSeq_boxD (.tmp 0) x ?_ ?_ ?_ ?_
       · rfl
       · rfl
       · rfl
       intro gx y1 nn
       replace HBW : Hid (Below w.heap.size w y1) := HBW.out.trans (nn.below.mono HBW.out.size)
       have HX : Hid (Blk y1 gx (cb x) 23) := nn.blk
       clear nn)
    | (clear tk1; with_reducible refine wpSeq_allocD ?_ ?_ ?_
       · rfl
       · rfl
       intro gr y2 nn
       have HGR : Hid (w.heap.size ≤ gr) := Nat.le_trans HBW.out.size nn.ge
       replace HX : Hid (Blk y2 gx (cb x) 23) := HX.out.below nn.below HX.out.lt
       replace HBW : Hid (Below w.heap.size w y2) := HBW.out.trans (nn.below.mono HBW.out.size)
       have HB : Hid (Blk y2 gr (cb zb32) 23) := nn.blk
       clear nn)
    | (clear tk2; with_reducible refine wpSeq_loadD (.tmp 4) gx x ?_ ?_ ?_ ?_ ?_ ?_
       · exact HN.out.1
       · exact HX.out
       · rfl
       · rfl
       · rfl)
    | (clear tk3; go_at_call 31; refine (HC1.out y2 HBW.out).mono ?_; rintro e y3 ⟨rfl, hbz⟩
       replace HX : Hid (Blk y3 gx (cb x) 23) := HX.out.below hbz HX.out.lt
       replace HB : Hid (Blk y3 gr (cb zb32) 23) := HB.out.below hbz HB.out.lt
       replace HBW : Hid (Below w.heap.size w y3) := HBW.out.trans (hbz.mono HBW.out.size)
       clear hbz )
    | (clear tk4; with_reducible refine wpSeq_allocD ?_ ?_ ?_
       · rfl
       · rfl
       intro gp y4 nn)
    | (clear tk5; with_reducible refine wpSeq_storeD (.tmp 9) (.tmp 14) gp zb32 p ?_ ?_ ?_ ?_ ?_ ?_ ?_ ?_
       · rfl
       · exact HPL.out
       · exact nn.blk
       · rfl
       · rfl
       · rfl
       · rfl
       intro y5 hs
       have hbz := nn.below.trans (hs.only.below nn.ge nn.below.size)
       replace HX : Hid (Blk y5 gx (cb x) 23) := HX.out.below hbz HX.out.lt
       replace HB : Hid (Blk y5 gr (cb zb32) 23) := HB.out.below hbz HB.out.lt
       replace HBW : Hid (Below w.heap.size w y5) := HBW.out.trans (hbz.mono HBW.out.size)
       have HP : Hid (Blk y5 gp (cb p) 23) := hs.blk
       clear nn hs hbz)
    | (clear tk6; go_at_call 28; refine (HC2.out y5 HBW.out (.slice (some ⟨gp, 0, none⟩) 32 32) (HP.out.reads HPL.out.symm (by rw [HPL.out]; exact Nat.le_refl _))).mono ?_; rintro e y6 ⟨rfl, hbz⟩
       replace HX : Hid (Blk y6 gx (cb x) 23) := HX.out.below hbz HX.out.lt
       replace HB : Hid (Blk y6 gr (cb zb32) 23) := HB.out.below hbz HB.out.lt
       replace HP : Hid (Blk y6 gp (cb p) 23) := HP.out.below hbz HP.out.lt
       replace HBW : Hid (Below w.heap.size w y6) := HBW.out.trans (hbz.mono HBW.out.size)
       clear hbz )
    | (clear tk7; with_reducible refine wpSeq_storeD (.tmp 8) (.tmp 16) gr zb32 r ?_ ?_ ?_ ?_ ?_ ?_ ?_ ?_
       · rfl
       · exact HRL.out
       · exact HB.out
       · rfl
       · rfl
       · rfl
       · rfl
       intro W9 h9))
  exact bodyPost_ret (v := .agg (cb r).toArray) (results_cell_row (by rfl) _ _ gr 23 _ (0, 0) _ rfl h9.blk Tryd.underlying23 rfl (by rw [List.size_toArray, cb_len, HRL.out]; exact info_digest)) rfl ⟨by rw [HRD.out], HBW.out.trans (h9.only.below HGR.out HBW.out.size)⟩
/-- from a place on -/
theorem from_run (ga off n cap l : Nat) (hn : l < n) (hc : n ≤ cap) (w : World) :
    (Instr.sliceAt 25 (.slice (some ⟨ga, off, none⟩) n cap) (some (.int .i64 (l : Int))) none none).run Tryd.prog w = .ok (.slice (some ⟨ga, off + l, none⟩) (n - l) (cap - l)) w := by
  have hs : (sizeOf 5).run Tryd.prog w = .ok 1 w := by kernel_rfl
  rw [run_sliceAt_slice w 25 _ _ _ _ (by kernel_rfl), run_slice_l w 25 _ _ _ (by kernel_rfl) .i64 _ (by omega) (by omega)]
  rw [show Tryd.prog.elem 25 = 5 from by kernel_rfl, hs]
  simp only [Result.andThen_ok, sliced, Int.toNat_natCast, Nat.mul_one]
  rw [if_neg (by omega)]
  simp [Addr.add_mid]
theorem from_op (f : Operand → Value) (o : Oper) (x lo : Operand) (ho : o.op = .slice 25 x (some lo) none none) (ga off n cap l : Nat) (hx : f x = .slice (some ⟨ga, off, none⟩) n cap) (L : Int) (hlo : f lo = .int .i64 L) (hL : L = (l : Int)) (hn : l < n) (hc : n ≤ cap) (w : World) :
    (execOp f o).run Tryd.prog w = .ok (.value (.slice (some ⟨ga, off + l, none⟩) (n - l) (cap - l))) w := by
  subst hL
  unfold execOp
  rw [ho]
  simp only [hx, hlo, Option.map_some, Option.map_none, Sem.run_bind, from_run ga off n cap l hn hc w]
  rfl
theorem wpSeq_from {ops : Array Oper} {Q : Exit → Act → World → Prop} {rest : List Oper} {o : Oper} {a : Act} {w : World} (x lo : Operand) (ga off n cap l : Nat) (L : Int) (hL : L = (l : Int)) (hn : l < n) (hc : n ≤ cap) (ho : o.op = .slice 25 x (some lo) none none) (hx : a.eval x = .slice (some ⟨ga, off, none⟩) n cap) (hlo : a.eval lo = .int .i64 L) (hw : Region.wanted o (yielded ops a.tmps) = true)
    (h : wpList Tryd.prog ops Q rest (a.put o.dst (.slice (some ⟨ga, off + l, none⟩) (n - l) (cap - l))) w) : wpList Tryd.prog ops Q (o :: rest) a w :=
  wpSeq_val _ _ hw (from_op a.eval o x lo ho ga off n cap l hx L hlo hL hn hc w) h
/-- thirty-two bytes copied over a digest -/
theorem copy_run (f : Operand → Value) (o : Oper) (s x : Operand) (ho : o.op = .call { callee := .builtin .copy, args := #[s, x], argTypes := #[25, 25] }) (w : World) (g b off n cap : Nat) (l bs : List (BitVec 8)) (hg : Blk w g (cb l) 23) (hl : l.length = 32) (hbs : bs.length = 32) (hn : 32 ≤ n) (hc2 : ∃ c, Reads w (.slice (some ⟨b, off, none⟩) 32 c) bs) (hs : f s = .slice (some ⟨g, 0, none⟩) 32 32) (hx : f x = .slice (some ⟨b, off, none⟩) n cap) :
    (execOp f o).run Tryd.prog w = .ok (.value (goInt 32)) (w.setCells g 0 (cb bs)) := by
  obtain ⟨c, ad, c', hv, _, _, hy⟩ := hc2
  obtain ⟨b', off', h1, h2⟩ := hy (by omega)
  subst h1
  simp only [Value.slice.injEq, Option.some.injEq, Addr.mk.injEq, and_true] at hv
  obtain ⟨⟨rfl, rfl⟩, _⟩ := hv
  have hcp : ∀ ty, (Builtin.copy_ #[25, 25] ty #[.slice (some ⟨g, 0, none⟩) 32 32, .slice (some ⟨b, off, none⟩) n cap]).run Tryd.prog w = .ok (goInt (cb bs).length) (w.setCells g 0 (cb bs)) := fun ty =>
      run_copy_cells w _ _ ty 5 g 0 32 32 ⟨b, off, none⟩ n cap (cb bs) Tryd.underlying25 (by kernel_rfl) (by rw [cb_len, hbs]; exact (Nat.min_eq_right hn).symm)
        (fun j u hj => by
          have hjl : j < bs.length := by have := (List.getElem?_eq_some_iff.1 hj).1; rwa [cb_len] at this
          rw [Addr.add_mid, h2 j hjl, ← hj, cb_get bs j hjl])
        (fun j hj => by rw [hg.cell, List.getElem?_eq_getElem (by rw [cb_len, hl]; rw [cb_len, hbs] at hj; omega)]; rfl) (fun j _ => hg.frozen _) (cb_one _)
  rw [cb_len, hbs] at hcp
  unfold execOp
  rw [ho]
  simp [resolve, invoke, builtin, hs, hx, hcp, Result.andThen]
theorem wpSeq_copyY {ops : Array Oper} {Q : Exit → Act → World → Prop} {rest : List Oper} {o : Oper} {a : Act} {w : World} (s x : Operand) (g b off n cap : Nat) (l bs : List (BitVec 8)) (hg : Blk w g (cb l) 23) (hl : l.length = 32) (hbs : bs.length = 32) (hn : 32 ≤ n) (hc2 : ∃ c, Reads w (.slice (some ⟨b, off, none⟩) 32 c) bs) (ho : o.op = .call { callee := .builtin .copy, args := #[s, x], argTypes := #[25, 25] }) (hs : a.eval s = .slice (some ⟨g, 0, none⟩) 32 32) (hx : a.eval x = .slice (some ⟨b, off, none⟩) n cap) (hw : Region.wanted o (yielded ops a.tmps) = true)
    (h : ∀ w', SetB bs w g w' → wpList Tryd.prog ops Q rest (a.put o.dst (goInt 32)) w') : wpList Tryd.prog ops Q (o :: rest) a w :=
  wpSeq_val _ _ hw (copy_run a.eval o s x ho w g b off n cap l bs hg hl hbs hn hc2 hs hx) (h _ (SetB.of l bs hl hbs hg))
theorem results_digs2 {fn : Func} {p q : Tmp} (h : fn.results = #[.cell p 23, .cell q 23]) (tmps : Array Value) (w : World) (g1 g2 : Nat) (l1 l2 : List (BitVec 8)) (h1 : l1.length = 32) (h2 : l2.length = 32)
    (hp : tmps.getD p undef = .pointer (some ⟨g1, 0, none⟩)) (hq : tmps.getD q undef = .pointer (some ⟨g2, 0, none⟩)) (hb1 : Blk w g1 (cb l1) 23) (hb2 : Blk w g2 (cb l2) 23) : (results fn tmps).run Tryd.prog w = .ok (.tuple #[.agg (cb l1).toArray, .agg (cb l2).toArray]) w := by
  have hp' : tmps[p]?.getD undef = .pointer (some ⟨g1, 0, none⟩) := by simpa using hp
  have hq' : tmps[q]?.getD undef = .pointer (some ⟨g2, 0, none⟩) := by simpa using hq
  have e1 := run_loadVar_row (P := Tryd.prog) w g1 23 23 (cb l1).toArray (0, 0) _ hb1 Tryd.underlying23 rfl (by rw [List.size_toArray, cb_len, h1]; exact info_digest)
  have e2 := run_loadVar_row (P := Tryd.prog) w g2 23 23 (cb l2).toArray (0, 0) _ hb2 Tryd.underlying23 rfl (by rw [List.size_toArray, cb_len, h2]; exact info_digest)
  simp [results, h, hp', hq', asAddr, e1, e2]
set_option maxRecDepth 100000 in
set_option maxHeartbeats 8000000 in
theorem lHalves_any (vs : Value) (sig : List (BitVec 8)) (i : Nat) (w : World) (hs : Reads w vs sig) (h16 : sig.length = 16384) (hi : i < 256) :
    Calls Tryd.prog 33 #[vs, .int .i64 (i : Int)] w fun e w' => e = .returned (.tuple #[.agg (cb (blk32 sig (2 * i))).toArray, .agg (cb (blk32 sig (2 * i + 1))).toArray]) ∧ Below w.heap.size w w' := by
  obtain ⟨bs, offs, cps, hcp, rfl⟩ : ∃ bs offs cps, 16384 ≤ cps ∧ vs = .slice (some ⟨bs, offs, none⟩) 16384 cps := by
    obtain ⟨ad', cp', hv', hc, _, hx⟩ := id hs
    obtain ⟨bs, offs, rfl, _⟩ := hx (by omega)
    rw [h16] at hv' hc
    exact ⟨bs, offs, cp', hc, hv'⟩
  obtain ⟨pa, HPA⟩ : ∃ r, Hid (r = blk32 sig (2 * i)) := ⟨_, rfl⟩
  obtain ⟨pb, HPB⟩ : ∃ r, Hid (r = blk32 sig (2 * i + 1)) := ⟨_, rfl⟩
  have HPAL : Hid (pa.length = 32) := by show _ = _; rw [HPA.out]; exact len_blk32 (by omega)
  have HPBL : Hid (pb.length = 32) := by show _ = _; rw [HPB.out]; exact len_blk32 (by omega)
  have HCA : Hid (∀ W, Below w.heap.size w W → ∃ c, Reads W (.slice (some ⟨bs, offs + 64 * i, none⟩) 32 c) pa) := fun W hh => by
    have h := (hs.below hh).cut (2 * i) (by omega)
    rw [← HPA.out, show 32 * (2 * i) = 64 * i by omega] at h
    exact ⟨_, h⟩
  have HCB : Hid (∀ W, Below w.heap.size w W → ∃ c, Reads W (.slice (some ⟨bs, offs + 64 * i + 32, none⟩) 32 c) pb) := fun W hh => by
    have h := (hs.below hh).cut (2 * i + 1) (by omega)
    rw [← HPB.out, show 32 * (2 * i + 1) = 64 * i + 32 by omega, ← Nat.add_assoc] at h
    exact ⟨_, h⟩
  rw [← HPA.out, ← HPB.out]
  have HBW : Hid (Below w.heap.size w w) := Below.refl _ _
  have HCP : Hid (16384 ≤ cps ∧ i < 256) := ⟨hcp, hi⟩
  have f6 : IntKind.i64.wrap ((i : Int) * 64) = (i : Int) * 64 := by rw [IntKind.wrap_i64]; omega
  clear hs h16 hi hcp HPA HPB
  go_enter Tryd.func33, Tryd.ntmps33
  have tk1 : Hid True := trivial
  have tk2 : Hid True := trivial
  have tk3 : Hid True := trivial
  have tk4 : Hid True := trivial
  go_wp2_with (first
    | (clear tk1; with_reducible refine wpSeq_allocD ?_ ?_ ?_
       · rfl
       · rfl
       intro ga y1 nn
       have HGA : Hid (w.heap.size ≤ ga) := Nat.le_trans HBW.out.size nn.ge
       replace HBW : Hid (Below w.heap.size w y1) := HBW.out.trans (nn.below.mono HBW.out.size)
       have HA : Hid (Blk y1 ga (cb zb32) 23) := nn.blk
       clear nn)
    | (clear tk2; with_reducible refine wpSeq_allocD ?_ ?_ ?_
       · rfl
       · rfl
       intro gb y2 nn
       have HGB : Hid (w.heap.size ≤ gb) := Nat.le_trans HBW.out.size nn.ge
       have HNE : Hid (ga ≠ gb) := by have h1 := HA.out.lt; have h2 := nn.ge; show _ ≠ _; omega
       replace HBW : Hid (Below w.heap.size w y2) := HBW.out.trans (nn.below.mono HBW.out.size)
       replace HA : Hid (Blk y2 ga (cb zb32) 23) := HA.out.below nn.below HA.out.lt
       have HB : Hid (Blk y2 gb (cb zb32) 23) := nn.blk
       clear nn)
    | (clear tk3; with_reducible refine wpSeq_from (.tmp 7) (.tmp 9) bs offs 16384 cps (64 * i) ((i : Int) * 64) ?_ ?_ ?_ ?_ ?_ ?_ ?_ ?_
       · have := HCP.out.2; omega
       · have := HCP.out.2; omega
       · exact HCP.out.1
       · rfl
       · rfl
       · rfl
       · rfl
       obtain ⟨n1, HN1⟩ : ∃ n, Hid (n = 16384 - 64 * i) := ⟨_, rfl⟩
       obtain ⟨c1, HC1⟩ : ∃ n, Hid (n = cps - 64 * i) := ⟨_, rfl⟩
       obtain ⟨o1, HO1⟩ : ∃ n, Hid (n = offs + 64 * i) := ⟨_, rfl⟩
       rw [← HN1.out, ← HC1.out, ← HO1.out]
       replace HCA : Hid (∀ W, Below w.heap.size w W → ∃ c, Reads W (.slice (some ⟨bs, o1, none⟩) 32 c) pa) := by rw [HO1.out]; exact HCA.out
       replace HCB : Hid (∀ W, Below w.heap.size w W → ∃ c, Reads W (.slice (some ⟨bs, o1 + 32, none⟩) 32 c) pb) := by rw [HO1.out]; exact HCB.out
       have HN2 : Hid (64 ≤ n1 ∧ n1 ≤ c1) := by have h1 := HCP.out.1; have h2 := HCP.out.2; have h3 := HN1.out; have h4 := HC1.out; exact ⟨by omega, by omega⟩
       clear HN1 HC1 HO1)
    | (clear tk4; with_reducible refine wpSeq_copyY (.tmp 11) (.tmp 12) ga bs o1 n1 c1 zb32 pa HA.out rfl HPAL.out (by have := HN2.out.1; omega) (HCA.out _ HBW.out) ?_ ?_ ?_ ?_ ?_
       · rfl
       · rfl
       · rfl
       · rfl
       intro y3 hs
       replace HA : Hid (Blk y3 ga (cb pa) 23) := hs.blk
       replace HB : Hid (Blk y3 gb (cb zb32) 23) := HB.out.only hs.only (fun e => HNE.out e.symm)
       replace HBW : Hid (Below w.heap.size w y3) := HBW.out.trans (hs.only.below HGA.out HBW.out.size)
       clear hs))
  refine wp_region_held_drew (S := fun _ => True) (by kernel_rfl) trivial ?_
  intro hS
  replace HA : Hid (Blk (World.drew y3) ga (cb pa) 23) := HA.out.drew
  replace HB : Hid (Blk (World.drew y3) gb (cb zb32) 23) := HB.out.drew
  replace HBW : Hid (Below w.heap.size w (World.drew y3)) := HBW.out.drew
  change wpAnyH _ _ _ _ _ _ _ _ (World.drew y3)
  generalize World.drew y3 = q at *
  try simp only [Act.put, List.setIfInBounds_toArray, List.set_cons_zero, List.set_cons_succ]
  refine wpAnyH_take (i := 0) (v := .slice (some ⟨gb, 0, none⟩) 32 32) rfl (by kernel_rfl) (by kernel_rfl) (by kernel_rfl) (fun _ _ _ h => h) (Or.inl ⟨by rfl, fun wx hx => by simp [execOp, Act.eval, slice_dig]⟩) hS ?_
  simp only [Act.put, List.getElem_toArray, List.getElem_cons_zero, List.setIfInBounds_toArray, List.set_cons_zero, List.set_cons_succ]
  refine wpAnyH_take (i := 1) (v := .slice (some ⟨bs, o1, none⟩) n1 c1) rfl (by kernel_rfl) (by kernel_rfl) (by kernel_rfl) (fun _ _ _ h => h) (Or.inl ⟨by rfl, fun wx hx => by simp [go_sem]⟩) hS ?_
  simp only [Act.put, List.getElem_toArray, List.getElem_cons_succ, List.getElem_cons_zero, List.setIfInBounds_toArray, List.set_cons_zero, List.set_cons_succ]
  refine wpAnyH_take (i := 2) (v := .slice (some ⟨bs, o1 + 32, none⟩) (n1 - 32) (c1 - 32)) rfl (by kernel_rfl) (by kernel_rfl) (by kernel_rfl) (fun _ _ _ h => h) (Or.inl ⟨by rfl, fun wx hx => by exact from_op _ _ (.tmp 15) (.const (.int .i64 32)) rfl bs o1 n1 c1 32 rfl 32 rfl rfl (by have := HN2.out.1; omega) HN2.out.2 _⟩) hS ?_
  simp only [Act.put, List.getElem_toArray, List.getElem_cons_succ, List.getElem_cons_zero, List.setIfInBounds_toArray, List.set_cons_zero, List.set_cons_succ]
  refine wpAnyH_step 3 (goInt 32) (q.setCells gb 0 (cb pb)) (by kernel_rfl) rfl (by rfl) (copy_run _ _ (.tmp 14) (.tmp 16) rfl q gb bs (o1 + 32) (n1 - 32) (c1 - 32) zb32 pb HB.out rfl HPBL.out (by have := HN2.out.1; omega) (HCB.out _ HBW.out) rfl rfl) trivial ?_
  simp only [Act.put, List.getElem_toArray, List.getElem_cons_succ, List.getElem_cons_zero, List.setIfInBounds_toArray, List.set_cons_zero, List.set_cons_succ]
  refine wpAnyH_done (by kernel_rfl) ?_ _
  have hs : SetB pb q gb (q.setCells gb 0 (cb pb)) := SetB.of zb32 pb rfl HPBL.out HB.out
  replace HB : Hid (Blk (q.setCells gb 0 (cb pb)) gb (cb pb) 23) := hs.blk
  replace HA : Hid (Blk (q.setCells gb 0 (cb pb)) ga (cb pa) 23) := HA.out.only hs.only HNE.out
  replace HBW : Hid (Below w.heap.size w (q.setCells gb 0 (cb pb))) := HBW.out.trans (hs.only.below HGB.out HBW.out.size)
  clear hs hS HCA HCB
  generalize q.setCells gb 0 (cb pb) = y4 at *
  have tk5 : Hid True := trivial
  have tk6 : Hid True := trivial
  have tk7 : Hid True := trivial
  have tk8 : Hid True := trivial
  go_wp2_with (first
    | (clear tk5; with_reducible refine wpSeq_loadD (.tmp 4) ga pa ?_ ?_ ?_ ?_ ?_ ?_
       · exact HPAL.out
       · exact HA.out
       · rfl
       · rfl
       · rfl)
    | (clear tk6; with_reducible refine wpSeq_loadD (.tmp 5) gb pb ?_ ?_ ?_ ?_ ?_ ?_
       · exact HPBL.out
       · exact HB.out
       · rfl
       · rfl
       · rfl)
    | (clear tk7; with_reducible refine wpSeq_storeD (.tmp 4) (.tmp 18) ga pa pa ?_ ?_ ?_ ?_ ?_ ?_ ?_ ?_
       · exact HPAL.out
       · exact HPAL.out
       · exact HA.out
       · rfl
       · rfl
       · rfl
       · rfl
       intro y5 hs
       replace HA : Hid (Blk y5 ga (cb pa) 23) := hs.blk
       replace HB : Hid (Blk y5 gb (cb pb) 23) := HB.out.only hs.only (fun e => HNE.out e.symm)
       replace HBW : Hid (Below w.heap.size w y5) := HBW.out.trans (hs.only.below HGA.out HBW.out.size)
       clear hs)
    | (clear tk8; with_reducible refine wpSeq_storeD (.tmp 5) (.tmp 19) gb pb pb ?_ ?_ ?_ ?_ ?_ ?_ ?_ ?_
       · exact HPBL.out
       · exact HPBL.out
       · exact HB.out
       · rfl
       · rfl
       · rfl
       · rfl
       intro y6 hs
       replace HA : Hid (Blk y6 ga (cb pa) 23) := HA.out.only hs.only HNE.out
       replace HB : Hid (Blk y6 gb (cb pb) 23) := hs.blk
       replace HBW : Hid (Below w.heap.size w y6) := HBW.out.trans (hs.only.below HGB.out HBW.out.size)
       clear hs))
  exact bodyPost_ret (results_digs2 (by rfl) _ _ ga gb pa pb HPAL.out HPBL.out rfl rfl HA.out HB.out) rfl ⟨rfl, HBW.out⟩
end Go.Proofs.YtaogafadnkheeaaDoor
/- The walks of lamport's Text and Public (layer 10). -/
namespace Go.Proofs.YtaogafadnkheeaaDoor
open Go.RowKit Go.Shelf
theorem OwnB.lower {w : World} {base B : Nat} {v : Value} {l : List (BitVec 8)} (h : OwnB w base v l) (hB : B ≤ base) : OwnB w B v l := by
  obtain ⟨h1, h2⟩ := h
  refine ⟨h1, ?_⟩
  rcases h2 with h2 | ⟨g, cap, cur, rfl, hb, r⟩
  · exact Or.inl h2
  · exact Or.inr ⟨g, cap, cur, rfl, Nat.le_trans hB hb, r⟩
set_option maxRecDepth 100000 in
set_option maxHeartbeats 8000000 in
theorem lText_any (x : List (BitVec 8)) (key : Nat) (w : World) (hK : KOk w) (hn : x.length = 32 ∧ key < 18446744073709551616) :
    Calls Tryd.prog 8 #[.agg (cb x).toArray, .int .u64 (key : Int)] w fun e w' => ∃ v, e = .returned v ∧ Reads w' v (textR (partB x key) 256) ∧ Below w.heap.size w w' := by
  obtain ⟨P, HP⟩ : ∃ P, Hid (P = partB x key) := ⟨_, rfl⟩
  have HPL : Hid (∀ i o, (dig (P i o)).length = 32) := fun i o => len_dig' _
  have HC : Hid (∀ W : World, Below w.heap.size w W → ∀ (i : Nat) (o : Bool), i < 256 → Calls Tryd.prog 26 #[.agg (cb x).toArray, .int .u64 (key : Int), .int .i64 (i : Int), .int .i64 (sdI o)] W fun e w' => e = .returned (.agg (cb (dig (P i o))).toArray) ∧ Below W.heap.size W w') := fun W hh i o hi => by rw [HP.out]; exact lHidden_any x key i o W (hK.below hh hK.lt) ⟨hn.1, hn.2, hi⟩
  rw [← HP.out]
  have HN : Hid (x.length = 32 ∧ key < 18446744073709551616) := hn
  have HBW : Hid (Below w.heap.size w w) := Below.refl _ _
  clear hn HP hK
  go_enter Tryd.func8, Tryd.ntmps8
  have tk0 : Hid True := trivial
  have tk1 : Hid True := trivial
  go_wp2_with (first
    | (clear tk0; with_reducible refine wpSeq_boxD (.tmp 0) x ?_ ?_ ?_ ?_
       · rfl
       · rfl
       · rfl
       intro gx y1 nn
       replace HBW : Hid (Below w.heap.size w y1) := HBW.out.trans (nn.below.mono HBW.out.size)
       have HX : Hid (Blk y1 gx (cb x) 23) := nn.blk
       clear nn)
    | (clear tk1; go_at_call 24; refine (lBegun_any _).mono ?_; rintro e y2 ⟨v0, rfl, hown, hbz⟩
       have HO : Hid (OwnB y2 w.heap.size v0 [80]) := hown.lower HBW.out.size
       replace HX : Hid (Blk y2 gx (cb x) 23) := HX.out.below hbz HX.out.lt
       replace HBW : Hid (Below w.heap.size w y2) := HBW.out.trans (hbz.mono HBW.out.size)
       clear hbz hown))
  go_loopw [5, 8] (fun u i wr => ∃ k : Nat, k ≤ 256 ∧ i = .int .i64 (k : Int) ∧ OwnB wr w.heap.size u (textR P k) ∧ Blk wr gx (cb x) 23 ∧ Below w.heap.size w wr) (fun _ i _ => 256 - (intOf i).toNat)
  case atStart => exact ⟨0, by omega, rfl, HO.out, HX.out, HBW.out⟩
  case round =>
    clear HX HBW HO
    obtain ⟨k, hkn, rfl, ho, hx, hbw⟩ := hrel
    have HO : Hid (OwnB wr w.heap.size u5 (textR P k)) := ho
    have HX : Hid (Blk wr gx (cb x) 23) := hx
    have HBW : Hid (Below w.heap.size w wr) := hbw
    clear ho hx hbw
    by_cases hlt : k < 256
    · have hi : (k : Int) < 256 := by omega
      have f5 : IntKind.i64.wrap ((k : Int) + 1) = (k : Int) + 1 := by rw [IntKind.wrap_i64]; omega
      obtain ⟨pa, HPA⟩ : ∃ p, Hid (p = dig (P k false)) := ⟨_, rfl⟩
      have HPAL : Hid (pa.length = 32) := by show _ = _; rw [HPA.out]; exact HPL.out _ _
      obtain ⟨pb, HPB⟩ : ∃ p, Hid (p = dig (P k true)) := ⟨_, rfl⟩
      have HPBL : Hid (pb.length = 32) := by show _ = _; rw [HPB.out]; exact HPL.out _ _
      go_wp2
      refine wp_region_held_drew (S := fun W => Blk W gx (cb x) 23) (by kernel_rfl) HX.out.drew ?_
      intro hS
      replace HO : Hid (OwnB (World.drew wr) w.heap.size u5 (textR P k)) := HO.out.below (Below.drew (Below.refl _ _)) (Nat.le_refl _)
      replace HBW : Hid (Below w.heap.size w (World.drew wr)) := HBW.out.drew
      clear HX
      change wpAnyH _ _ _ _ _ _ _ _ (World.drew wr)
      generalize World.drew wr = q at *
      try simp only [Act.put, List.setIfInBounds_toArray, List.set_cons_zero, List.set_cons_succ]
      refine wpAnyH_take (i := 0) (v := u5) rfl (by kernel_rfl) (by kernel_rfl) (by kernel_rfl) (fun _ _ _ h => h) (Or.inl ⟨by rfl, fun wx hx => by simp [go_sem]⟩) hS ?_
      simp only [Act.put, List.getElem_toArray, List.getElem_cons_zero, List.setIfInBounds_toArray, List.set_cons_zero, List.set_cons_succ]
      refine wpAnyH_take (i := 1) (v := .agg (cb x).toArray) rfl (by kernel_rfl) (by kernel_rfl) (by kernel_rfl) (fun _ _ _ h => h) (Or.inl ⟨by rfl, fun wx hx => by exact loadDigest _ gx x HN.out.1 hx rfl rfl⟩) hS ?_
      simp only [Act.put, List.getElem_toArray, List.getElem_cons_succ, List.getElem_cons_zero, List.setIfInBounds_toArray, List.set_cons_zero, List.set_cons_succ]
      refine wpAnyH_take (i := 2) (v := .int .u64 (key : Int)) rfl (by kernel_rfl) (by kernel_rfl) (by kernel_rfl) (fun _ _ _ h => h) (Or.inl ⟨by rfl, fun wx hx => by simp [go_sem]⟩) hS ?_
      simp only [Act.put, List.getElem_toArray, List.getElem_cons_succ, List.getElem_cons_zero, List.setIfInBounds_toArray, List.set_cons_zero, List.set_cons_succ]
      refine wpAnyH_take (i := 3) (v := .int .i64 (k : Int)) rfl (by kernel_rfl) (by kernel_rfl) (by kernel_rfl) (fun _ _ _ h => h) (Or.inl ⟨by rfl, fun wx hx => by simp [go_sem]⟩) hS ?_
      simp only [Act.put, List.getElem_toArray, List.getElem_cons_succ, List.getElem_cons_zero, List.setIfInBounds_toArray, List.set_cons_zero, List.set_cons_succ]
      refine wpAnyH_take (i := 5) (v := .agg (cb x).toArray) rfl (by kernel_rfl) (by kernel_rfl) (by kernel_rfl) (fun _ _ _ h => h) (Or.inl ⟨by rfl, fun wx hx => by exact loadDigest _ gx x HN.out.1 hx rfl rfl⟩) hS ?_
      simp only [Act.put, List.getElem_toArray, List.getElem_cons_succ, List.getElem_cons_zero, List.setIfInBounds_toArray, List.set_cons_zero, List.set_cons_succ]
      refine wpAnyH_take (i := 6) (v := .int .u64 (key : Int)) rfl (by kernel_rfl) (by kernel_rfl) (by kernel_rfl) (fun _ _ _ h => h) (Or.inl ⟨by rfl, fun wx hx => by simp [go_sem]⟩) hS ?_
      simp only [Act.put, List.getElem_toArray, List.getElem_cons_succ, List.getElem_cons_zero, List.setIfInBounds_toArray, List.set_cons_zero, List.set_cons_succ]
      refine wpAnyH_take (i := 7) (v := .int .i64 (k : Int)) rfl (by kernel_rfl) (by kernel_rfl) (by kernel_rfl) (fun _ _ _ h => h) (Or.inl ⟨by rfl, fun wx hx => by simp [go_sem]⟩) hS ?_
      simp only [Act.put, List.getElem_toArray, List.getElem_cons_succ, List.getElem_cons_zero, List.setIfInBounds_toArray, List.set_cons_zero, List.set_cons_succ]
      refine wpAnyH_enter 4 (by kernel_rfl) rfl (by rfl) (f := 26) (args := #[.agg (cb x).toArray, .int .u64 (key : Int), .int .i64 (k : Int), .int .i64 0]) (by simp [go_sem]) (HC.out _ HBW.out k false hlt) ?_
      rintro e y1 ⟨rfl, hbq⟩
      rw [← HPA.out]
      replace hS := hS.below hbq hS.lt
      replace HO : Hid (OwnB y1 w.heap.size u5 (textR P k)) := HO.out.below hbq (Nat.le_refl _)
      replace HBW : Hid (Below w.heap.size w y1) := HBW.out.trans (hbq.mono HBW.out.size)
      refine ⟨_, rfl, hS, ?_⟩
      clear hbq
      simp only [Act.put, List.getElem_toArray, List.getElem_cons_succ, List.getElem_cons_zero, List.setIfInBounds_toArray, List.set_cons_zero, List.set_cons_succ]
      refine wpAnyH_enter 8 (by kernel_rfl) rfl (by rfl) (f := 26) (args := #[.agg (cb x).toArray, .int .u64 (key : Int), .int .i64 (k : Int), .int .i64 1]) (by simp [go_sem]) (HC.out _ HBW.out k true hlt) ?_
      rintro e y2 ⟨rfl, hbq⟩
      rw [← HPB.out]
      replace hS := hS.below hbq hS.lt
      replace HO : Hid (OwnB y2 w.heap.size u5 (textR P k)) := HO.out.below hbq (Nat.le_refl _)
      replace HBW : Hid (Below w.heap.size w y2) := HBW.out.trans (hbq.mono HBW.out.size)
      refine ⟨_, rfl, hS, ?_⟩
      clear hbq
      simp only [Act.put, List.getElem_toArray, List.getElem_cons_succ, List.getElem_cons_zero, List.setIfInBounds_toArray, List.set_cons_zero, List.set_cons_succ]
      refine wpAnyH_enter 9 (by kernel_rfl) rfl (by rfl) (f := 25) (args := #[u5, .agg (cb pa).toArray, .agg (cb pb).toArray]) (by simp [go_sem]) (lPut_any u5 (textR P k) pa pb w.heap.size y2 HBW.out.size HO.out HPAL.out HPBL.out (by rw [len_textR]; omega)) ?_
      rintro e y3 ⟨u9, rfl, ho9, hk9⟩
      replace hS := hk9.blk _ _ _ (by decide) hS
      replace HO : Hid (OwnB y3 w.heap.size u9 (textR P k ++ pa ++ pb)) := ho9
      replace HBW : Hid (Below w.heap.size w y3) := HBW.out.trans hk9.bel
      refine ⟨_, rfl, hS, ?_⟩
      clear ho9 hk9
      simp only [Act.put, List.getElem_toArray, List.getElem_cons_succ, List.getElem_cons_zero, List.setIfInBounds_toArray, List.set_cons_zero, List.set_cons_succ]
      refine wpAnyH_take (i := 10) (v := u9) rfl (by kernel_rfl) (by kernel_rfl) (by kernel_rfl) (fun _ _ _ h => h) (Or.inl ⟨by rfl, fun wx hx => by simp [go_sem]⟩) hS ?_
      simp only [Act.put, List.getElem_toArray, List.getElem_cons_succ, List.getElem_cons_zero, List.setIfInBounds_toArray, List.set_cons_zero, List.set_cons_succ]
      refine wpAnyH_done (by kernel_rfl) ?_ _
      have HX : Hid (Blk y3 gx (cb x) 23) := hS
      clear hS
      go_wp2
      go_roundw
      case rel =>
        refine ⟨k + 1, by omega, by simp, ?_, HX.out, HBW.out⟩
        rw [textR, ← HPA.out, ← HPB.out, ← List.append_assoc]
        exact HO.out
      case measure => simp [intOf]; omega
    · have hi : ¬ ((k : Int) < 256) := by omega
      have hk : k = 256 := by omega
      subst hk
      go_wp2
      go_ret
      exact ⟨_, rfl, HO.out.reads, HBW.out⟩
set_option maxRecDepth 100000 in
set_option maxHeartbeats 8000000 in
theorem lPublic_any (x : List (BitVec 8)) (key : Nat) (w : World) (hK : KOk w) (hn : x.length = 32 ∧ key < 18446744073709551616) :
    Calls Tryd.prog 11 #[.agg (cb x).toArray, .int .u64 (key : Int)] w fun e w' => e = .returned (.agg (cb (dig (textR (partB x key) 256))).toArray) ∧ Below w.heap.size w w' := by
  obtain ⟨t, HTD⟩ : ∃ t, Hid (t = textR (partB x key) 256) := ⟨_, rfl⟩
  have HTL : Hid (t.length = 16385) := by show _ = _; rw [HTD.out, len_textR]
  have HC1 : Hid (∀ W : World, Below w.heap.size w W → Calls Tryd.prog 8 #[.agg (cb x).toArray, .int .u64 (key : Int)] W fun e w' => ∃ v, e = .returned v ∧ Reads w' v t ∧ Below W.heap.size W w') := fun W hh => by rw [HTD.out]; exact lText_any x key W (hK.below hh hK.lt) hn
  rw [← HTD.out]
  obtain ⟨r, HRD⟩ : ∃ r, Hid (r = dig t) := ⟨_, rfl⟩
  have HRL : Hid (r.length = 32) := by show _ = _; rw [HRD.out]; exact len_dig' _
  have HC2 : Hid (∀ W : World, Below w.heap.size w W → ∀ v, Reads W v t → Calls Tryd.prog 28 #[v] W fun e w' => e = .returned (.agg (cb r).toArray) ∧ Below W.heap.size W w') := fun W hh v hv => by rw [HRD.out]; exact tOf_any v t W (hK.below hh hK.lt) hv (by rw [HTL.out]; omega)
  have HN : Hid (x.length = 32 ∧ key < 18446744073709551616) := hn
  have HBW : Hid (Below w.heap.size w w) := Below.refl _ _
  clear hn HTD hK
  go_enter Tryd.func11, Tryd.ntmps11
  have tk0 : Hid True := trivial
  have tk1 : Hid True := trivial
  have tk2 : Hid True := trivial
  have tk3 : Hid True := trivial
  have tk4 : Hid True := trivial
  have tk5 : Hid True := trivial
  go_wp2_with (first
    | (clear tk0; with_reducible refine wpSeq_boxD (.tmp 0) x ?_ ?_ ?_ ?_
       · rfl
       · rfl
       · rfl
       intro gx y1 nn
       replace HBW : Hid (Below w.heap.size w y1) := HBW.out.trans (nn.below.mono HBW.out.size)
       have HX : Hid (Blk y1 gx (cb x) 23) := nn.blk
       clear nn)
    | (clear tk1; with_reducible refine wpSeq_allocD ?_ ?_ ?_
       · rfl
       · rfl
       intro gr y2 nn
       have HGR : Hid (w.heap.size ≤ gr) := Nat.le_trans HBW.out.size nn.ge
       replace HX : Hid (Blk y2 gx (cb x) 23) := HX.out.below nn.below HX.out.lt
       replace HBW : Hid (Below w.heap.size w y2) := HBW.out.trans (nn.below.mono HBW.out.size)
       have HB : Hid (Blk y2 gr (cb zb32) 23) := nn.blk
       clear nn)
    | (clear tk2; with_reducible refine wpSeq_loadD (.tmp 2) gx x ?_ ?_ ?_ ?_ ?_ ?_
       · exact HN.out.1
       · exact HX.out
       · rfl
       · rfl
       · rfl)
    | (clear tk3; go_at_call 8; refine (HC1.out y2 HBW.out).mono ?_; rintro e y3 ⟨vt, rfl, hrt, hbz⟩
       replace HX : Hid (Blk y3 gx (cb x) 23) := HX.out.below hbz HX.out.lt
       replace HB : Hid (Blk y3 gr (cb zb32) 23) := HB.out.below hbz HB.out.lt
       replace HBW : Hid (Below w.heap.size w y3) := HBW.out.trans (hbz.mono HBW.out.size)
       have HT : Hid (Reads y3 vt t) := hrt
       clear hbz hrt)
    | (clear tk4; go_at_call 28; refine (HC2.out y3 HBW.out vt HT.out).mono ?_; rintro e y4 ⟨rfl, hbz⟩
       replace HX : Hid (Blk y4 gx (cb x) 23) := HX.out.below hbz HX.out.lt
       replace HB : Hid (Blk y4 gr (cb zb32) 23) := HB.out.below hbz HB.out.lt
       replace HBW : Hid (Below w.heap.size w y4) := HBW.out.trans (hbz.mono HBW.out.size)
       clear hbz )
    | (clear tk5; with_reducible refine wpSeq_storeD (.tmp 4) (.tmp 8) gr zb32 r ?_ ?_ ?_ ?_ ?_ ?_ ?_ ?_
       · rfl
       · exact HRL.out
       · exact HB.out
       · rfl
       · rfl
       · rfl
       · rfl
       intro W9 h9))
  exact bodyPost_ret (v := .agg (cb r).toArray) (results_cell_row (by rfl) _ _ gr 23 _ (0, 0) _ rfl h9.blk Tryd.underlying23 rfl (by rw [List.size_toArray, cb_len, HRL.out]; exact info_digest)) rfl ⟨by rw [HRD.out], HBW.out.trans (h9.only.below HGR.out HBW.out.size)⟩
end Go.Proofs.YtaogafadnkheeaaDoor
/- The walk of lamport's Sign (layer 10): a loop over path.Bits. -/
namespace Go.Proofs.YtaogafadnkheeaaDoor
open Go.RowKit Go.Shelf
attribute [local go_sem] Oper.semAt_some
def signF (P : Nat → Bool → List (BitVec 8)) (on : Nat → Bool) (pre : List {k : Nat // k < 256}) : List (BitVec 8) := (pre.map fun q => P q.1 (on q.1) ++ dig (P q.1 (!on q.1))).flatten
theorem signF_snoc (P : Nat → Bool → List (BitVec 8)) (on : Nat → Bool) (pre : List {k : Nat // k < 256}) (q : {k : Nat // k < 256}) : signF P on (pre ++ [q]) = signF P on pre ++ P q.1 (on q.1) ++ dig (P q.1 (!on q.1)) := by simp [signF]
theorem signF_path (P : Nat → Bool → List (BitVec 8)) (on : Nat → Bool) (k : Nat) (h : k ≤ 256) : signF P on (pathT k) = signR P on k := by
  induction k with
  | zero => rfl
  | succ k ih => rw [pathT_succ k (by omega), signF_snoc, ih (by omega), signR, List.append_assoc]
theorem signF_len {P : Nat → Bool → List (BitVec 8)} (hP : ∀ i o, (P i o).length = 32) (on : Nat → Bool) (pre : List {k : Nat // k < 256}) : (signF P on pre).length = 64 * pre.length := by
  induction pre with
  | nil => rfl
  | cons q r ih =>
    have e : signF P on (q :: r) = (P q.1 (on q.1) ++ dig (P q.1 (!on q.1))) ++ signF P on r := rfl
    rw [e, List.length_append, List.length_append, hP, len_dig', ih, List.length_cons]
    omega
theorem wpSeq_boxN {ops : Array Oper} {Q : Exit → Act → World → Prop} {rest : List Oper} {o : Oper} {a : Act} {w : World} (ty : TypeId) (x : Operand) (k : IntKind) (n : Int) (ho : o.op = .box ty x) (hx : a.eval x = .int k n) (hw : Region.wanted o (yielded ops a.tmps) = true)
    (h : ∀ g w', NewC (.int k n) ty w g w' → wpList Tryd.prog ops Q rest (a.put o.dst (.pointer (some ⟨g, 0, none⟩))) w') : wpList Tryd.prog ops Q (o :: rest) a w :=
  wpSeq_val _ _ hw (by unfold execOp; rw [ho]; simp only [hx]; rfl) (h _ _ (NewC.of (.int k n) ty w))
theorem wpSeq_allocB {ops : Array Oper} {Q : Exit → Act → World → Prop} {rest : List Oper} {o : Oper} {a : Act} {w : World} (ho : o.op = .alloc 25) (hw : Region.wanted o (yielded ops a.tmps) = true)
    (h : ∀ g w', NewC (.slice none 0 0) 25 w g w' → wpList Tryd.prog ops Q rest (a.put o.dst (.pointer (some ⟨g, 0, none⟩))) w') : wpList Tryd.prog ops Q (o :: rest) a w :=
  wpSeq_val _ _ hw (by unfold execOp; rw [ho]; kernel_rfl) (h _ _ (NewC.of (.slice none 0 0) 25 w))
/-- a slice put into its box -/
theorem OwnB.boxed {y : World} {base gO : Nat} {v v' u : Value} {l : List (BitVec 8)} (h : OwnB y base v' l) (hb : Blk y gO [v] 25) : OwnB (y.setCell ⟨gO, 0, none⟩ u) base v' l := by
  have ho : Only gO y (y.setCell ⟨gO, 0, none⟩ u) := Only.setCell (Only.refl gO y) 0 u
  have hne := h.ne hb (by decide)
  obtain ⟨e1, e2⟩ := h
  refine ⟨e1, ?_⟩
  rcases e2 with e2 | ⟨g, cap, cur, rfl, hg2, hh, r⟩
  · exact Or.inl e2
  · refine Or.inr ⟨g, cap, cur, rfl, hg2, ?_, r⟩
    rw [ho.block g (fun e => hne (by rw [e]; rfl)) (Array.getElem?_eq_some_iff.1 hh).1]
    exact hh
theorem RoI.kept {w W y y1 : World} {gO : Nat} {l l' : List (BitVec 8)} {v v' : Value} (h : RoI w gO l W y) (hgO : w.heap.size ≤ gO) (h1 : Blk y gO [v] 25) (hk : KeptB w.heap.size y y1) (h3 : OwnB y1 w.heap.size v' l') : RoI w gO l' W (y1.setCell ⟨gO, 0, none⟩ v') := by
  have hb := hk.blk gO [v] _ (by decide) h1
  exact ⟨⟨v', by simpa using hb.set 0 v', h3.boxed hb⟩, (h.bel.trans hk.bel).trans ((Only.setCell (Only.refl gO y1) 0 v').below hgO (Nat.le_trans h.bel.size hk.bel.size)), (h.kp.trans hk.oth).trans (KeepsOthers.setCell _ _ _)⟩
theorem KeptB.boxed {base : Nat} {y y1 : World} {gO g : Nat} {v' : Value} {cs : List Value} {t : TypeId} (hk : KeptB base y y1) (h : Blk y g cs t) (ht : t ≠ 5) (hne : g ≠ gO) : Blk (y1.setCell ⟨gO, 0, none⟩ v') g cs t :=
  (hk.blk g cs t ht h).only (Only.setCell (Only.refl gO y1) 0 v') hne
theorem blk_ne {y : World} {g gO : Nat} {cs ds : List Value} {t u : TypeId} (h : Blk y g cs t) (h1 : Blk y gO ds u) (ht : t ≠ u) : g ≠ gO := by
  rintro rfl
  unfold Blk at h h1
  rw [h] at h1
  simp only [Option.some.injEq, Obj.cells.injEq] at h1
  exact ht h1.2.1
/-- a slice of bytes stored into its box -/
theorem wpSeq_storeS {ops : Array Oper} {Q : Exit → Act → World → Prop} {rest : List Oper} {o : Oper} {a : Act} {w : World} (x y : Operand) (gO : Nat) (v : Value) (ad : Option Addr) (n c : Nat) (hb : Blk w gO [v] 25) (ho : o.op = .store 25 x y) (hx : a.eval x = .pointer (some ⟨gO, 0, none⟩)) (hy : a.eval y = .slice ad n c) (hw : Region.wanted o (yielded ops a.tmps) = true)
    (h : ∀ w', w' = w.setCell ⟨gO, 0, none⟩ (.slice ad n c) → wpList Tryd.prog ops Q rest (a.put o.dst undef) w') : wpList Tryd.prog ops Q (o :: rest) a w := by
  have hc : w.cell? ⟨gO, 0, none⟩ = some v := hb.cell 0
  have hf : w.frozen? ⟨gO, 0, none⟩ = false := hb.frozen 0
  have he : (execOp a.eval o).run Tryd.prog w = .ok .skip (w.setCell ⟨gO, 0, none⟩ (.slice ad n c)) := by
    clear h hw
    generalize a.eval = f at hx hy ⊢
    unfold execOp
    rw [ho]
    simp [go_sem, hx, hy, hc, hf]
  unfold wpList
  simp only [hw, if_true]
  left
  unfold Oper.wp
  rw [he, Oper.upon_skip]
  exact h _ rfl
set_option maxRecDepth 100000 in
set_option maxHeartbeats 8000000 in
theorem lSign_any (x : List (BitVec 8)) (key : Nat) (vb : Value) (b : List (BitVec 8)) (w : World) (hK : KOk w) (hn : x.length = 32 ∧ key < 18446744073709551616) (hb : Reads w vb b) (hl : b.length < 140737488350000) :
    Calls Tryd.prog 15 #[.agg (cb x).toArray, .int .u64 (key : Int), vb] w fun e w' => ∃ v, e = .returned v ∧ Reads w' v (signR (partB x key) (bt (dig b)) 256) ∧ Below w.heap.size w w' := by
  obtain ⟨P, HP⟩ : ∃ P, Hid (P = partB x key) := ⟨_, rfl⟩
  have HPP : Hid (∀ i o, (P i o).length = 32) := fun i o => by rw [HP.out]; exact len_partB _ _ _ _
  obtain ⟨d, HDD⟩ : ∃ d, Hid (d = dig b) := ⟨_, rfl⟩
  have HDL : Hid (d.length = 32) := by show _ = _; rw [HDD.out]; exact len_dig' _
  have HC0 : Hid (∀ W : World, Below w.heap.size w W → Calls Tryd.prog 28 #[vb] W fun e w' => e = .returned (.agg (cb d).toArray) ∧ Below W.heap.size W w') := fun W hh => by rw [HDD.out]; exact tOf_any vb b W (hK.below hh hK.lt) (hb.below hh) (by omega)
  have HC2 : Hid (∀ W : World, Below w.heap.size w W → ∀ (i : Nat) (o : Bool), i < 256 → Calls Tryd.prog 31 #[.agg (cb x).toArray, .int .u64 (key : Int), .int .i64 (i : Int), .int .i64 (sdI o)] W fun e w' => e = .returned (.agg (cb (P i o)).toArray) ∧ Below W.heap.size W w') := fun W hh i o hi => by rw [HP.out]; exact key_any x key i o W (hK.below hh hK.lt) ⟨hn.1, hn.2, hi⟩
  have HC3 : Hid (∀ W : World, Below w.heap.size w W → ∀ (i : Nat) (o : Bool), i < 256 → Calls Tryd.prog 26 #[.agg (cb x).toArray, .int .u64 (key : Int), .int .i64 (i : Int), .int .i64 (sdI o)] W fun e w' => e = .returned (.agg (cb (dig (P i o))).toArray) ∧ Below W.heap.size W w') := fun W hh i o hi => by rw [HP.out]; exact lHidden_any x key i o W (hK.below hh hK.lt) ⟨hn.1, hn.2, hi⟩
  rw [← HP.out, ← HDD.out]
  have HN : Hid (x.length = 32 ∧ key < 18446744073709551616) := hn
  have HBW : Hid (Below w.heap.size w w) := Below.refl _ _
  obtain ⟨ab, cbb, hvb, hqb⟩ := id hb
  clear hqb
  obtain ⟨nb, HNB⟩ : ∃ n, Hid (n = b.length) := ⟨_, rfl⟩
  rw [← HNB.out] at hvb
  subst hvb
  clear hn HP HDD hb hl hK
  refine (callsIn_wide (n := 4)).1 ?_
  refine callsIn_of_wp_marks Tryd.func15 rfl trivial ?_ rfl
  simp only [Tryd.ntmps15, List.size_toArray, List.length_cons, List.length_nil, Nat.reduceAdd, Nat.reduceSub, Array.replicate_succ, Array.replicate_zero, List.push_toArray, List.append_toArray, List.nil_append, List.cons_append]
  refine wpIn_wide.2 ?_
  go_wp2_with (first
    | (with_reducible refine wpSeq_boxD (.tmp 0) x ?_ ?_ ?_ ?_
       · rfl
       · rfl
       · rfl
       intro gx w1 nn
       have HX : Hid (Blk w1 gx (cb x) 23) := nn.blk
       replace HBW : Hid (Below w.heap.size w w1) := HBW.out.trans (nn.below.mono HBW.out.size)
       clear nn)
    | (with_reducible refine wpSeq_boxN 24 (.tmp 1) .u64 (key : Int) ?_ ?_ ?_ ?_
       · rfl
       · rfl
       · rfl
       intro gk w2 nn
       replace HX : Hid (Blk w2 gx (cb x) 23) := HX.out.below nn.below HX.out.lt
       replace HBW : Hid (Below w.heap.size w w2) := HBW.out.trans (nn.below.mono HBW.out.size)
       have HKB : Hid (Blk w2 gk [.int .u64 (key : Int)] 24) := nn.blk
       clear nn)
    | (with_reducible refine wpSeq_make (.const (.int .i64 0)) (.const (.int .i64 16384)) 0 16384 ?_ ?_ ?_ ?_ ?_ ?_ ?_
       · decide
       · decide
       · rfl
       · rfl
       · rfl
       · rfl
       intro gm w3 z hz hge hzb hzl
       have HM : Hid (OwnB w3 w.heap.size (.slice (some ⟨gm, 0, none⟩) 0 16384) []) := own_of_blk (k := 0) hzb (Nat.le_trans HBW.out.size hge) (by rw [hz, List.length_replicate]) (by decide) (by decide)
       replace HX : Hid (Blk w3 gx (cb x) 23) := HX.out.below hzl HX.out.lt
       replace HKB : Hid (Blk w3 gk [.int .u64 (key : Int)] 24) := HKB.out.below hzl HKB.out.lt
       replace HBW : Hid (Below w.heap.size w w3) := HBW.out.trans (hzl.mono HBW.out.size)
       clear hz hge hzb hzl)
    | (with_reducible refine wpSeq_allocB ?_ ?_ ?_
       · rfl
       · rfl
       intro gO w4 nn
       have HGO : Hid (w.heap.size ≤ gO) := Nat.le_trans HBW.out.size nn.ge
       have HNX : Hid (gx ≠ gO ∧ gk ≠ gO) := by have h1 := HX.out.lt; have h2 := HKB.out.lt; have h3 := nn.ge; exact ⟨by omega, by omega⟩
       replace HX : Hid (Blk w4 gx (cb x) 23) := HX.out.below nn.below HX.out.lt
       replace HKB : Hid (Blk w4 gk [.int .u64 (key : Int)] 24) := HKB.out.below nn.below HKB.out.lt
       replace HM : Hid (OwnB w4 w.heap.size (.slice (some ⟨gm, 0, none⟩) 0 16384) []) := HM.out.below nn.below (Nat.le_refl _)
       replace HBW : Hid (Below w.heap.size w w4) := HBW.out.trans (nn.below.mono HBW.out.size)
       have HO : Hid (Blk w4 gO [.slice none 0 0] 25) := nn.blk
       clear nn)
    | (with_reducible refine wpSeq_storeS (.tmp 7) (.tmp 12) gO (.slice none 0 0) (some ⟨gm, 0, none⟩) 0 16384 ?_ ?_ ?_ ?_ ?_ ?_
       · exact HO.out
       · rfl
       · rfl
       · rfl
       · rfl
       intro w5 h5
       subst h5
       have hon := Only.setCell (Only.refl gO w4) 0 (.slice (some ⟨gm, 0, none⟩) 0 16384)
       replace HM : Hid (OutI w.heap.size gO [] (w4.setCell ⟨gO, 0, none⟩ (.slice (some ⟨gm, 0, none⟩) 0 16384))) := ⟨_, by simpa using HO.out.set 0 (.slice (some ⟨gm, 0, none⟩) 0 16384), HM.out.boxed HO.out⟩
       replace HX : Hid (Blk (w4.setCell ⟨gO, 0, none⟩ (.slice (some ⟨gm, 0, none⟩) 0 16384)) gx (cb x) 23) := HX.out.only hon HNX.out.1
       replace HKB : Hid (Blk (w4.setCell ⟨gO, 0, none⟩ (.slice (some ⟨gm, 0, none⟩) 0 16384)) gk [.int .u64 (key : Int)] 24) := HKB.out.only hon HNX.out.2
       replace HBW : Hid (Below w.heap.size w (w4.setCell ⟨gO, 0, none⟩ (.slice (some ⟨gm, 0, none⟩) 0 16384))) := HBW.out.trans (hon.below HGO.out HBW.out.size)
       clear hon HO
       have HO : Hid (OutI w.heap.size gO [] (w4.setCell ⟨gO, 0, none⟩ (.slice (some ⟨gm, 0, none⟩) 0 16384))) := HM.out
       clear HM
       generalize w4.setCell ⟨gO, 0, none⟩ (.slice (some ⟨gm, 0, none⟩) 0 16384) = w5 at *)
    | (go_at_call 28; refine (HC0.out _ HBW.out).mono ?_; rintro e w6 ⟨rfl, hbz⟩
       replace HX : Hid (Blk w6 gx (cb x) 23) := HX.out.below hbz HX.out.lt
       replace HKB : Hid (Blk w6 gk [.int .u64 (key : Int)] 24) := HKB.out.below hbz HKB.out.lt
       replace HO : Hid (OutI w.heap.size gO [] w6) := HO.out.next hbz
       replace HBW : Hid (Below w.heap.size w w6) := HBW.out.trans (hbz.mono HBW.out.size)
       clear hbz)
    | (go_at_call 30; refine (pBits_any d _).mono ?_; rintro e w7 ⟨g3, rfl, nn⟩
       replace HX : Hid (Blk w7 gx (cb x) 23) := HX.out.below nn.below HX.out.lt
       replace HKB : Hid (Blk w7 gk [.int .u64 (key : Int)] 24) := HKB.out.below nn.below HKB.out.lt
       replace HO : Hid (OutI w.heap.size gO [] w7) := HO.out.next nn.below
       replace HBW : Hid (Below w.heap.size w w7) := HBW.out.trans (nn.below.mono HBW.out.size)
       have H3 : Hid (Blk w7 g3 (cb d) 23) := nn.blk
       clear nn))
  refine (wpIn_wide (n := 4)).1 ?_
  refine wpIn_rangeFunc_ownF (F := Fence.wide) rfl (by omega) (gf := 40) (lb := #[.pointer (some ⟨g3, 0, none⟩)]) rfl trivial (enters_of Tryd.func40 (by kernel_rfl) rfl)
    (bits_told 3 (by omega) g3 d HDL.out w7 H3.out) (fun _ _ => trivial) (fun _ _ _ _ _ _ _ _ => trivial) (Below.refl _ _) (fun _ => rfl)
    (fun pre W => OutI w.heap.size gO (signF P (bt d) pre) W ∧ Blk W gx (cb x) 23 ∧ Blk W gk [.int .u64 (key : Int)] 24 ∧ Below w.heap.size w W) (fun _ _ _ => False)
    (OwnFrom.and (Own.from (OutI.own w.heap.size gO (signF P (bt d))) _) (OwnFrom.and (Own.from (blk_own gx (fun _ => cb x) 23) _) (OwnFrom.and (Own.from (blk_own gk (fun _ => [.int .u64 (key : Int)]) 24) _) (ownFrom_below (Nat.le_refl _) HBW.out.size))))
    (fun c s X Y row hs _ _ => hs.elim)
    ⟨HO.out, HX.out, HKB.out, HBW.out⟩
    (fun z => { tmps := #[.agg (cb x).toArray, .int .u64 (key : Int), .slice ab nb cbb, .pointer (some ⟨gx, 0, none⟩), .pointer (some ⟨gk, 0, none⟩), undef, .slice none 0 0, .pointer (some ⟨gO, 0, none⟩), .int .i64 (z.1 : Int), .bool (bt d z.1), undef, undef, .slice (some ⟨gm, 0, none⟩) 0 16384, .slice ab nb cbb, .agg (cb d).toArray, .func (.func 40) #[] #[.pointer (some ⟨g3, 0, none⟩)], .int .i64 (z.1 : Int), .bool (bt d z.1), undef, undef, undef, undef, undef, undef, undef, undef, undef, undef, undef, undef, undef, undef], defers := [] }) ?assign ?body ?done ?stop
  case assign =>
    intro l z W K hK
    gi_wp2
    exact hK
  case body =>
    clear HX HKB HO H3 HNX
    rintro l pre z W ⟨hO, hX, hKb, hB⟩ hlen
    obtain ⟨lo, HLO⟩ : ∃ lo, Hid (lo = signF P (bt d) pre) := ⟨_, rfl⟩
    have HLL : Hid (lo.length < 16384) := by show _ < _; rw [HLO.out, signF_len HPP.out]; omega
    have HX : Hid (Blk W gx (cb x) 23) := hX
    have HKB : Hid (Blk W gk [.int .u64 (key : Int)] 24) := hKb
    have HRO : Hid (RoI w gO lo W W) := ⟨by rw [HLO.out]; exact hO, hB, KeepsOthers.refl _⟩
    have HSN : Hid (signF P (bt d) (pre ++ [z]) = lo ++ P z.1 (bt d z.1) ++ dig (P z.1 (!bt d z.1))) := by rw [HLO.out]; exact signF_snoc _ _ _ _
    obtain ⟨o, HOO⟩ : ∃ o, Hid (o = bt d z.1) := ⟨_, rfl⟩
    rw [← HOO.out] at HSN
    simp only [← HOO.out]
    clear hO hX hKb hB HLO hlen HOO
    cases o with
    | true =>
      obtain ⟨pa, HPA⟩ : ∃ p, Hid (p = P z.1 true) := ⟨_, rfl⟩
      have HPAL : Hid (pa.length = 32) := by show _ = _; rw [HPA.out]; exact HPP.out _ _
      obtain ⟨pb, HPB⟩ : ∃ p, Hid (p = dig (P z.1 false)) := ⟨_, rfl⟩
      have HPBL : Hid (pb.length = 32) := by show _ = _; rw [HPB.out]; exact len_dig' _
      have HS2 : Hid (signF P (bt d) (pre ++ [z]) = lo ++ pa ++ pb) := by show _ = _; rw [HSN.out, HPA.out, HPB.out]; rfl
      clear HSN
      gi_wp2
      refine wpIn_round_held (S := fun W => Blk W gx (cb x) 23 ∧ Blk W gk [.int .u64 (key : Int)] 24) (by kernel_rfl) (by kernel_rfl) (by rintro ⟨_, _, h⟩; exact h) ⟨HX.out.drew, HKB.out.drew⟩ ?_
      intro hS
      replace HRO : Hid (RoI w gO lo W (World.drew W)) := HRO.out.drew
      clear HX HKB
      change wpAnyH _ _ _ _ _ _ _ _ (World.drew W)
      generalize World.drew W = q at *
      obtain ⟨v, hv, ho⟩ := HRO.out.out
      obtain ⟨aq, cq, hf1⟩ := ho.form
      obtain ⟨nq, HNQ⟩ : ∃ n, Hid (n = lo.length) := ⟨_, rfl⟩
      rw [← HNQ.out] at hf1
      subst hf1
      have hcq : q.cell? ⟨gO, 0, none⟩ = some (.slice aq nq cq) := hv.cell 0
      try simp only [Act.put, List.setIfInBounds_toArray, List.set_cons_zero, List.set_cons_succ]
      refine wpAnyH_take (i := 1) (v := .agg (cb x).toArray) rfl (by kernel_rfl) (by kernel_rfl) (by kernel_rfl) (fun _ _ _ h => h) (Or.inl ⟨by rfl, fun wx hx => by exact loadDigest _ gx x HN.out.1 hx.1 rfl rfl⟩) hS ?_
      simp only [Act.put, List.getElem_toArray, List.getElem_cons_succ, List.getElem_cons_zero, List.setIfInBounds_toArray, List.set_cons_zero, List.set_cons_succ]
      refine wpAnyH_take (i := 2) (v := .int .u64 (key : Int)) rfl (by kernel_rfl) (by kernel_rfl) (by kernel_rfl) (fun _ _ _ h => h) (Or.inl ⟨by rfl, fun wx hx => by (have ck : wx.cell? ⟨gk, 0, none⟩ = some (.int .u64 (key : Int)) := hx.2.cell 0); simp [go_sem, ck]⟩) hS ?_
      simp only [Act.put, List.getElem_toArray, List.getElem_cons_succ, List.getElem_cons_zero, List.setIfInBounds_toArray, List.set_cons_zero, List.set_cons_succ]
      refine wpAnyH_take (i := 3) (v := .int .i64 (z.1 : Int)) rfl (by kernel_rfl) (by kernel_rfl) (by kernel_rfl) (fun _ _ _ h => h) (Or.inl ⟨by rfl, fun wx hx => by simp [go_sem]⟩) hS ?_
      simp only [Act.put, List.getElem_toArray, List.getElem_cons_succ, List.getElem_cons_zero, List.setIfInBounds_toArray, List.set_cons_zero, List.set_cons_succ]
      refine wpAnyH_take (i := 4) (v := .int .i64 1) rfl (by kernel_rfl) (by kernel_rfl) (by kernel_rfl) (fun _ _ _ h => h) (Or.inl ⟨by rfl, fun wx hx => by simp [go_sem]⟩) hS ?_
      simp only [Act.put, List.getElem_toArray, List.getElem_cons_succ, List.getElem_cons_zero, List.setIfInBounds_toArray, List.set_cons_zero, List.set_cons_succ]
      refine wpAnyH_take (i := 6) (v := .agg (cb x).toArray) rfl (by kernel_rfl) (by kernel_rfl) (by kernel_rfl) (fun _ _ _ h => h) (Or.inl ⟨by rfl, fun wx hx => by exact loadDigest _ gx x HN.out.1 hx.1 rfl rfl⟩) hS ?_
      simp only [Act.put, List.getElem_toArray, List.getElem_cons_succ, List.getElem_cons_zero, List.setIfInBounds_toArray, List.set_cons_zero, List.set_cons_succ]
      refine wpAnyH_take (i := 7) (v := .int .u64 (key : Int)) rfl (by kernel_rfl) (by kernel_rfl) (by kernel_rfl) (fun _ _ _ h => h) (Or.inl ⟨by rfl, fun wx hx => by (have ck : wx.cell? ⟨gk, 0, none⟩ = some (.int .u64 (key : Int)) := hx.2.cell 0); simp [go_sem, ck]⟩) hS ?_
      simp only [Act.put, List.getElem_toArray, List.getElem_cons_succ, List.getElem_cons_zero, List.setIfInBounds_toArray, List.set_cons_zero, List.set_cons_succ]
      refine wpAnyH_take (i := 8) (v := .int .i64 (z.1 : Int)) rfl (by kernel_rfl) (by kernel_rfl) (by kernel_rfl) (fun _ _ _ h => h) (Or.inl ⟨by rfl, fun wx hx => by simp [go_sem]⟩) hS ?_
      simp only [Act.put, List.getElem_toArray, List.getElem_cons_succ, List.getElem_cons_zero, List.setIfInBounds_toArray, List.set_cons_zero, List.set_cons_succ]
      refine wpAnyH_take (i := 9) (v := .int .i64 0) rfl (by kernel_rfl) (by kernel_rfl) (by kernel_rfl) (fun _ _ _ h => h) (Or.inl ⟨by rfl, fun wx hx => by simp [go_sem]⟩) hS ?_
      simp only [Act.put, List.getElem_toArray, List.getElem_cons_succ, List.getElem_cons_zero, List.setIfInBounds_toArray, List.set_cons_zero, List.set_cons_succ]
      refine wpAnyH_readC2 0 5 10 (.slice aq nq cq) (f := 31) (args := #[.agg (cb x).toArray, .int .u64 (key : Int), .int .i64 (z.1 : Int), .int .i64 1]) (by kernel_rfl) rfl rfl rfl (by rfl) (by rfl) (fun _ => by rfl) (fun _ _ => by rfl) (by rfl) (fun _ => by rfl) (fun _ => by rfl) (by simp [go_sem, hcq]) (by simp [go_sem]) (by simp [go_sem]) (HC2.out _ HRO.out.bel z.1 true z.2) (by kernel_rfl) (by kernel_rfl) (by kernel_rfl) (by kernel_rfl) (fun _ => by rfl) (fun _ _ => by rfl) (by rfl) (by rfl) hS ?_
      rintro e y1 ⟨rfl, hbq⟩
      rw [← HPA.out]
      clear hcq
      replace HRO : Hid (RoI w gO lo W y1) := HRO.out.next hbq
      replace hS : Blk y1 gx (cb x) 23 ∧ Blk y1 gk [.int .u64 (key : Int)] 24 := ⟨hS.1.below hbq hS.1.lt, hS.2.below hbq hS.2.lt⟩
      replace ho : OwnB y1 w.heap.size (.slice aq nq cq) lo := ho.below hbq (Nat.le_refl _)
      replace hv : Blk y1 gO [.slice aq nq cq] 25 := hv.below hbq hv.lt
      have hcy1 : y1.cell? ⟨gO, 0, none⟩ = some (.slice aq nq cq) := hv.cell 0
      clear hbq
      refine ⟨_, rfl, hS, by simp [go_sem, hcy1], 26, #[.agg (cb x).toArray, .int .u64 (key : Int), .int .i64 (z.1 : Int), .int .i64 0], _, by simp [go_sem], by simp [go_sem], HC3.out _ HRO.out.bel z.1 false z.2, ?_⟩
      rintro e y2 ⟨rfl, hbq⟩
      rw [← HPB.out]
      clear hcy1
      replace HRO : Hid (RoI w gO lo W y2) := HRO.out.next hbq
      replace hS : Blk y2 gx (cb x) 23 ∧ Blk y2 gk [.int .u64 (key : Int)] 24 := ⟨hS.1.below hbq hS.1.lt, hS.2.below hbq hS.2.lt⟩
      replace ho : OwnB y2 w.heap.size (.slice aq nq cq) lo := ho.below hbq (Nat.le_refl _)
      replace hv : Blk y2 gO [.slice aq nq cq] 25 := hv.below hbq hv.lt
      have hcy2 : y2.cell? ⟨gO, 0, none⟩ = some (.slice aq nq cq) := hv.cell 0
      clear hbq
      refine ⟨_, rfl, hS, by simp [go_sem, hcy2], ?_⟩
      simp only [Act.put, List.getElem_toArray, List.getElem_cons_succ, List.getElem_cons_zero, List.setIfInBounds_toArray, List.set_cons_zero, List.set_cons_succ]
      refine wpAnyH_enter 11 (by kernel_rfl) rfl (by rfl) (f := 25) (args := #[.slice aq nq cq, .agg (cb pa).toArray, .agg (cb pb).toArray]) (by simp [go_sem]) (lPut_any (.slice aq nq cq) lo pa pb w.heap.size y2 HRO.out.bel.size ho HPAL.out HPBL.out (by have := HLL.out; omega)) ?_
      rintro e y3 ⟨v9, rfl, ho9, hk9⟩
      obtain ⟨a9, c9, hv9⟩ := ho9.form
      obtain ⟨n9, HN9⟩ : ∃ n, Hid (n = (lo ++ pa ++ pb).length) := ⟨_, rfl⟩
      rw [← HN9.out] at hv9
      subst hv9
      have hb3 : Blk y3 gO [.slice aq nq cq] 25 := hk9.blk _ _ _ (by decide) hv
      have hc3 : y3.cell? ⟨gO, 0, none⟩ = some (.slice aq nq cq) := hb3.cell 0
      have hf3 : y3.frozen? ⟨gO, 0, none⟩ = false := hb3.frozen 0
      have hro := HRO.out.kept HGO.out hv hk9 ho9
      have hS2 : Blk (y3.setCell ⟨gO, 0, none⟩ (.slice a9 n9 c9)) gx (cb x) 23 ∧ Blk (y3.setCell ⟨gO, 0, none⟩ (.slice a9 n9 c9)) gk [.int .u64 (key : Int)] 24 := ⟨hk9.boxed hS.1 (by decide) (blk_ne hS.1 hv (by decide)), hk9.boxed hS.2 (by decide) (blk_ne hS.2 hv (by decide))⟩
      refine ⟨_, rfl, ⟨hk9.blk _ _ _ (by decide) hS.1, hk9.blk _ _ _ (by decide) hS.2⟩, ?_⟩
      simp only [Act.put, List.getElem_toArray, List.getElem_cons_succ, List.getElem_cons_zero, List.setIfInBounds_toArray, List.set_cons_zero, List.set_cons_succ]
      refine wpAnyH_skip 12 (y3.setCell ⟨gO, 0, none⟩ (.slice a9 n9 c9)) (by kernel_rfl) rfl (by rfl) (by simp [go_sem, hc3, hf3]) hS2 ?_
      simp only [Act.put, List.getElem_toArray, List.getElem_cons_succ, List.getElem_cons_zero]
      refine wpAnyH_done (by kernel_rfl) ?_ _
      exact ⟨hro.kp, trivial, by rw [HS2.out]; exact hro.out, hS2.1, hS2.2, hro.bel⟩
    | false =>
      obtain ⟨pa, HPA⟩ : ∃ p, Hid (p = P z.1 false) := ⟨_, rfl⟩
      have HPAL : Hid (pa.length = 32) := by show _ = _; rw [HPA.out]; exact HPP.out _ _
      obtain ⟨pb, HPB⟩ : ∃ p, Hid (p = dig (P z.1 true)) := ⟨_, rfl⟩
      have HPBL : Hid (pb.length = 32) := by show _ = _; rw [HPB.out]; exact len_dig' _
      have HS2 : Hid (signF P (bt d) (pre ++ [z]) = lo ++ pa ++ pb) := by show _ = _; rw [HSN.out, HPA.out, HPB.out]; rfl
      clear HSN
      gi_wp2
      refine wpIn_round_held (S := fun W => Blk W gx (cb x) 23 ∧ Blk W gk [.int .u64 (key : Int)] 24) (by kernel_rfl) (by kernel_rfl) (by rintro ⟨_, _, h⟩; exact h) ⟨HX.out.drew, HKB.out.drew⟩ ?_
      intro hS
      replace HRO : Hid (RoI w gO lo W (World.drew W)) := HRO.out.drew
      clear HX HKB
      change wpAnyH _ _ _ _ _ _ _ _ (World.drew W)
      generalize World.drew W = q at *
      obtain ⟨v, hv, ho⟩ := HRO.out.out
      obtain ⟨aq, cq, hf1⟩ := ho.form
      obtain ⟨nq, HNQ⟩ : ∃ n, Hid (n = lo.length) := ⟨_, rfl⟩
      rw [← HNQ.out] at hf1
      subst hf1
      have hcq : q.cell? ⟨gO, 0, none⟩ = some (.slice aq nq cq) := hv.cell 0
      try simp only [Act.put, List.setIfInBounds_toArray, List.set_cons_zero, List.set_cons_succ]
      refine wpAnyH_take (i := 1) (v := .agg (cb x).toArray) rfl (by kernel_rfl) (by kernel_rfl) (by kernel_rfl) (fun _ _ _ h => h) (Or.inl ⟨by rfl, fun wx hx => by exact loadDigest _ gx x HN.out.1 hx.1 rfl rfl⟩) hS ?_
      simp only [Act.put, List.getElem_toArray, List.getElem_cons_succ, List.getElem_cons_zero, List.setIfInBounds_toArray, List.set_cons_zero, List.set_cons_succ]
      refine wpAnyH_take (i := 2) (v := .int .u64 (key : Int)) rfl (by kernel_rfl) (by kernel_rfl) (by kernel_rfl) (fun _ _ _ h => h) (Or.inl ⟨by rfl, fun wx hx => by (have ck : wx.cell? ⟨gk, 0, none⟩ = some (.int .u64 (key : Int)) := hx.2.cell 0); simp [go_sem, ck]⟩) hS ?_
      simp only [Act.put, List.getElem_toArray, List.getElem_cons_succ, List.getElem_cons_zero, List.setIfInBounds_toArray, List.set_cons_zero, List.set_cons_succ]
      refine wpAnyH_take (i := 3) (v := .int .i64 (z.1 : Int)) rfl (by kernel_rfl) (by kernel_rfl) (by kernel_rfl) (fun _ _ _ h => h) (Or.inl ⟨by rfl, fun wx hx => by simp [go_sem]⟩) hS ?_
      simp only [Act.put, List.getElem_toArray, List.getElem_cons_succ, List.getElem_cons_zero, List.setIfInBounds_toArray, List.set_cons_zero, List.set_cons_succ]
      refine wpAnyH_take (i := 4) (v := .int .i64 0) rfl (by kernel_rfl) (by kernel_rfl) (by kernel_rfl) (fun _ _ _ h => h) (Or.inl ⟨by rfl, fun wx hx => by simp [go_sem]⟩) hS ?_
      simp only [Act.put, List.getElem_toArray, List.getElem_cons_succ, List.getElem_cons_zero, List.setIfInBounds_toArray, List.set_cons_zero, List.set_cons_succ]
      refine wpAnyH_take (i := 6) (v := .agg (cb x).toArray) rfl (by kernel_rfl) (by kernel_rfl) (by kernel_rfl) (fun _ _ _ h => h) (Or.inl ⟨by rfl, fun wx hx => by exact loadDigest _ gx x HN.out.1 hx.1 rfl rfl⟩) hS ?_
      simp only [Act.put, List.getElem_toArray, List.getElem_cons_succ, List.getElem_cons_zero, List.setIfInBounds_toArray, List.set_cons_zero, List.set_cons_succ]
      refine wpAnyH_take (i := 7) (v := .int .u64 (key : Int)) rfl (by kernel_rfl) (by kernel_rfl) (by kernel_rfl) (fun _ _ _ h => h) (Or.inl ⟨by rfl, fun wx hx => by (have ck : wx.cell? ⟨gk, 0, none⟩ = some (.int .u64 (key : Int)) := hx.2.cell 0); simp [go_sem, ck]⟩) hS ?_
      simp only [Act.put, List.getElem_toArray, List.getElem_cons_succ, List.getElem_cons_zero, List.setIfInBounds_toArray, List.set_cons_zero, List.set_cons_succ]
      refine wpAnyH_take (i := 8) (v := .int .i64 (z.1 : Int)) rfl (by kernel_rfl) (by kernel_rfl) (by kernel_rfl) (fun _ _ _ h => h) (Or.inl ⟨by rfl, fun wx hx => by simp [go_sem]⟩) hS ?_
      simp only [Act.put, List.getElem_toArray, List.getElem_cons_succ, List.getElem_cons_zero, List.setIfInBounds_toArray, List.set_cons_zero, List.set_cons_succ]
      refine wpAnyH_take (i := 9) (v := .int .i64 1) rfl (by kernel_rfl) (by kernel_rfl) (by kernel_rfl) (fun _ _ _ h => h) (Or.inl ⟨by rfl, fun wx hx => by simp [go_sem]⟩) hS ?_
      simp only [Act.put, List.getElem_toArray, List.getElem_cons_succ, List.getElem_cons_zero, List.setIfInBounds_toArray, List.set_cons_zero, List.set_cons_succ]
      refine wpAnyH_readC2 0 5 10 (.slice aq nq cq) (f := 31) (args := #[.agg (cb x).toArray, .int .u64 (key : Int), .int .i64 (z.1 : Int), .int .i64 0]) (by kernel_rfl) rfl rfl rfl (by rfl) (by rfl) (fun _ => by rfl) (fun _ _ => by rfl) (by rfl) (fun _ => by rfl) (fun _ => by rfl) (by simp [go_sem, hcq]) (by simp [go_sem]) (by simp [go_sem]) (HC2.out _ HRO.out.bel z.1 false z.2) (by kernel_rfl) (by kernel_rfl) (by kernel_rfl) (by kernel_rfl) (fun _ => by rfl) (fun _ _ => by rfl) (by rfl) (by rfl) hS ?_
      rintro e y1 ⟨rfl, hbq⟩
      rw [← HPA.out]
      clear hcq
      replace HRO : Hid (RoI w gO lo W y1) := HRO.out.next hbq
      replace hS : Blk y1 gx (cb x) 23 ∧ Blk y1 gk [.int .u64 (key : Int)] 24 := ⟨hS.1.below hbq hS.1.lt, hS.2.below hbq hS.2.lt⟩
      replace ho : OwnB y1 w.heap.size (.slice aq nq cq) lo := ho.below hbq (Nat.le_refl _)
      replace hv : Blk y1 gO [.slice aq nq cq] 25 := hv.below hbq hv.lt
      have hcy1 : y1.cell? ⟨gO, 0, none⟩ = some (.slice aq nq cq) := hv.cell 0
      clear hbq
      refine ⟨_, rfl, hS, by simp [go_sem, hcy1], 26, #[.agg (cb x).toArray, .int .u64 (key : Int), .int .i64 (z.1 : Int), .int .i64 1], _, by simp [go_sem], by simp [go_sem], HC3.out _ HRO.out.bel z.1 true z.2, ?_⟩
      rintro e y2 ⟨rfl, hbq⟩
      rw [← HPB.out]
      clear hcy1
      replace HRO : Hid (RoI w gO lo W y2) := HRO.out.next hbq
      replace hS : Blk y2 gx (cb x) 23 ∧ Blk y2 gk [.int .u64 (key : Int)] 24 := ⟨hS.1.below hbq hS.1.lt, hS.2.below hbq hS.2.lt⟩
      replace ho : OwnB y2 w.heap.size (.slice aq nq cq) lo := ho.below hbq (Nat.le_refl _)
      replace hv : Blk y2 gO [.slice aq nq cq] 25 := hv.below hbq hv.lt
      have hcy2 : y2.cell? ⟨gO, 0, none⟩ = some (.slice aq nq cq) := hv.cell 0
      clear hbq
      refine ⟨_, rfl, hS, by simp [go_sem, hcy2], ?_⟩
      simp only [Act.put, List.getElem_toArray, List.getElem_cons_succ, List.getElem_cons_zero, List.setIfInBounds_toArray, List.set_cons_zero, List.set_cons_succ]
      refine wpAnyH_enter 11 (by kernel_rfl) rfl (by rfl) (f := 25) (args := #[.slice aq nq cq, .agg (cb pa).toArray, .agg (cb pb).toArray]) (by simp [go_sem]) (lPut_any (.slice aq nq cq) lo pa pb w.heap.size y2 HRO.out.bel.size ho HPAL.out HPBL.out (by have := HLL.out; omega)) ?_
      rintro e y3 ⟨v9, rfl, ho9, hk9⟩
      obtain ⟨a9, c9, hv9⟩ := ho9.form
      obtain ⟨n9, HN9⟩ : ∃ n, Hid (n = (lo ++ pa ++ pb).length) := ⟨_, rfl⟩
      rw [← HN9.out] at hv9
      subst hv9
      have hb3 : Blk y3 gO [.slice aq nq cq] 25 := hk9.blk _ _ _ (by decide) hv
      have hc3 : y3.cell? ⟨gO, 0, none⟩ = some (.slice aq nq cq) := hb3.cell 0
      have hf3 : y3.frozen? ⟨gO, 0, none⟩ = false := hb3.frozen 0
      have hro := HRO.out.kept HGO.out hv hk9 ho9
      have hS2 : Blk (y3.setCell ⟨gO, 0, none⟩ (.slice a9 n9 c9)) gx (cb x) 23 ∧ Blk (y3.setCell ⟨gO, 0, none⟩ (.slice a9 n9 c9)) gk [.int .u64 (key : Int)] 24 := ⟨hk9.boxed hS.1 (by decide) (blk_ne hS.1 hv (by decide)), hk9.boxed hS.2 (by decide) (blk_ne hS.2 hv (by decide))⟩
      refine ⟨_, rfl, ⟨hk9.blk _ _ _ (by decide) hS.1, hk9.blk _ _ _ (by decide) hS.2⟩, ?_⟩
      simp only [Act.put, List.getElem_toArray, List.getElem_cons_succ, List.getElem_cons_zero, List.setIfInBounds_toArray, List.set_cons_zero, List.set_cons_succ]
      refine wpAnyH_skip 12 (y3.setCell ⟨gO, 0, none⟩ (.slice a9 n9 c9)) (by kernel_rfl) rfl (by rfl) (by simp [go_sem, hc3, hf3]) hS2 ?_
      simp only [Act.put, List.getElem_toArray, List.getElem_cons_succ, List.getElem_cons_zero]
      refine wpAnyH_done (by kernel_rfl) ?_ _
      exact ⟨hro.kp, trivial, by rw [HS2.out]; exact hro.out, hS2.1, hS2.2, hro.bel⟩
  case done =>
    rintro D ys W hD rfl ⟨hO, hX, hKb, hB⟩ hK
    rw [signF_path P (bt d) 256 (Nat.le_refl _)] at hO
    obtain ⟨v, hv, ho⟩ := hO
    have HD : Hid (w.heap.size ≤ D) := Nat.le_trans HBW.out.size hD
    have HOW : Hid (OwnB W w.heap.size v (signR P (bt d) 256)) := ho
    have HB : Hid (Below w.heap.size w W) := hB
    have HKD : Hid (W.heap[D]? = some (.deferred (some []))) := hK
    have cv : W.cell? ⟨gO, 0, none⟩ = some v := hv.cell 0
    clear hX hKb hB hK hD hv ho HX HKB HO H3 HBW HNX
    gi_wp2
    go_wp2
    refine ⟨by simp, .inl ⟨_, _, rfl, run_takeDeferred HKD.out, ?_⟩⟩
    refine ⟨v, ?_, _, rfl, (HOW.out.kept (grownBy_putObj' _ D _) (fun r e => by cases e; exact ⟨_, HKD.out, rfl⟩)).reads, HB.out.trans (belowK_b (w := w) (Nat.le_refl _) _ D _ _ HD.out HKD.out rfl rfl)⟩
    simp [results, Tryd.f15, go_sem]
  case stop =>
    rintro D c pre W _ _ hX _
    exact hX.elim
end Go.Proofs.YtaogafadnkheeaaDoor
/- The walk of lamport's Opened (layer 10): a loop over path.Bits that is gone on from by a label. -/
namespace Go.Proofs.YtaogafadnkheeaaDoor
open Go.RowKit Go.Shelf
attribute [local go_sem] Oper.semAt_some
/-- what a list of places makes of a signature -/
def openB (on : Nat → Bool) (sig : List (BitVec 8)) (q : Nat) : List (BitVec 8) := if on q then blk32 sig (2 * q + 1) ++ dig (blk32 sig (2 * q)) else dig (blk32 sig (2 * q)) ++ blk32 sig (2 * q + 1)
def openF (on : Nat → Bool) (sig : List (BitVec 8)) (pre : List {k : Nat // k < 256}) : List (BitVec 8) := 80 :: (pre.map fun q => openB on sig q.1).flatten
theorem openF_snoc (on : Nat → Bool) (sig : List (BitVec 8)) (pre : List {k : Nat // k < 256}) (q : {k : Nat // k < 256}) : openF on sig (pre ++ [q]) = openF on sig pre ++ openB on sig q.1 := by simp [openF]
theorem openF_path (on : Nat → Bool) (sig : List (BitVec 8)) (k : Nat) (h : k ≤ 256) : openF on sig (pathT k) = openR on sig k := by
  induction k with
  | zero => rfl
  | succ k ih => rw [pathT_succ k (by omega), openF_snoc, ih (by omega), openR]; rfl
theorem openB_len (on : Nat → Bool) {sig : List (BitVec 8)} (h : sig.length = 16384) (q : {k : Nat // k < 256}) : (openB on sig q.1).length = 64 := by
  have h1 : (blk32 sig (2 * q.1 + 1)).length = 32 := len_blk32 (by have := q.2; omega)
  unfold openB
  split <;> rw [List.length_append, len_dig', h1]
theorem openF_len (on : Nat → Bool) {sig : List (BitVec 8)} (h : sig.length = 16384) (pre : List {k : Nat // k < 256}) : (openF on sig pre).length = 64 * pre.length + 1 := by
  unfold openF
  rw [List.length_cons]
  congr 1
  induction pre with
  | nil => rfl
  | cons q r ih => rw [List.map_cons, List.flatten_cons, List.length_append, openB_len on h, ih, List.length_cons]; omega
theorem noGoto_ret {Q : Exit → Act → World → Prop} {a : Act} {w : World} (h : Q .ret a w) : Exit.noGoto Q .ret a w := h
theorem wpSeq_boxS {ops : Array Oper} {Q : Exit → Act → World → Prop} {rest : List Oper} {o : Oper} {a : Act} {w : World} (x : Operand) (ad : Option Addr) (n c : Nat) (ho : o.op = .box 25 x) (hx : a.eval x = .slice ad n c) (hw : Region.wanted o (yielded ops a.tmps) = true)
    (h : ∀ g w', NewC (.slice ad n c) 25 w g w' → wpList Tryd.prog ops Q rest (a.put o.dst (.pointer (some ⟨g, 0, none⟩))) w') : wpList Tryd.prog ops Q (o :: rest) a w :=
  wpSeq_val _ _ hw (by unfold execOp; rw [ho]; simp only [hx]; rfl) (h _ _ (NewC.of (.slice ad n c) 25 w))
set_option maxRecDepth 100000 in
set_option maxHeartbeats 8000000 in
theorem lOpened_any (vb vs : Value) (b sig : List (BitVec 8)) (w : World) (hK : KOk w) (hb : Reads w vb b) (hs : Reads w vs sig) (hl : b.length < 140737488350000) :
    Calls Tryd.prog 19 #[vb, vs] w (OpenA w b sig) := by
  obtain ⟨ab, cbb, hvb, hqb⟩ := id hb
  clear hqb
  obtain ⟨nb, HNB⟩ : ∃ n, Hid (n = b.length) := ⟨_, rfl⟩
  rw [← HNB.out] at hvb
  by_cases h16 : sig.length = 16384
  · obtain ⟨bs, offs, cps, rfl⟩ : ∃ bs offs cps, vs = .slice (some ⟨bs, offs, none⟩) 16384 cps := by
      obtain ⟨ad', cp', hv', hc, _, hx⟩ := id hs
      obtain ⟨bs, offs, rfl, _⟩ := hx (by omega)
      rw [h16] at hv'
      exact ⟨bs, offs, cp', hv'⟩
    obtain ⟨d, HDD⟩ : ∃ d, Hid (d = dig b) := ⟨_, rfl⟩
    have HDL : Hid (d.length = 32) := by show _ = _; rw [HDD.out]; exact len_dig' _
    have HL : Hid (openL b sig = openR (bt d) sig 256 ∧ openE sig = 0) := by show _ ∧ _; rw [openL, openE, if_pos h16, if_pos h16, HDD.out]; exact ⟨rfl, rfl⟩
    have HSL : Hid (sig.length = 16384) := h16
    have HC0 : Hid (∀ W : World, Below w.heap.size w W → Calls Tryd.prog 28 #[vb] W fun e w' => e = .returned (.agg (cb d).toArray) ∧ Below W.heap.size W w') := fun W hh => by rw [HDD.out]; exact tOf_any vb b W (hK.below hh hK.lt) (hb.below hh) (by omega)
    have HC1 : Hid (∀ (W : World) (v : Value) (p : List (BitVec 8)), Below w.heap.size w W → p.length = 32 → Reads W v p → Calls Tryd.prog 28 #[v] W fun e w' => e = .returned (.agg (cb (dig p)).toArray) ∧ Below W.heap.size W w') := fun W v p hh hp hv => tOf_any v p W (hK.below hh hK.lt) hv (by rw [hp]; decide)
    have HC2 : Hid (∀ W : World, Below w.heap.size w W → ∀ i : Nat, i < 256 → Calls Tryd.prog 33 #[.slice (some ⟨bs, offs, none⟩) 16384 cps, .int .i64 (i : Int)] W fun e w' => e = .returned (.tuple #[.agg (cb (blk32 sig (2 * i))).toArray, .agg (cb (blk32 sig (2 * i + 1))).toArray]) ∧ Below W.heap.size W w') := fun W hh i hi => lHalves_any _ sig i W (hs.below hh) h16 hi
    have HBW : Hid (Below w.heap.size w w) := Below.refl _ _
    subst hvb
    clear hb hs hl h16 HDD hK
    refine (callsIn_wide (n := 4)).1 ?_
    refine callsIn_of_wp_marks Tryd.func19 rfl trivial ?_ rfl
    simp only [Tryd.ntmps19, List.size_toArray, List.length_cons, List.length_nil, Nat.reduceAdd, Nat.reduceSub, Array.replicate_succ, Array.replicate_zero, List.push_toArray, List.append_toArray, List.nil_append, List.cons_append]
    refine wpIn_wide.2 ?_
    go_wp2_with (first
    | (with_reducible refine wpSeq_boxS (.tmp 1) (some ⟨bs, offs, none⟩) 16384 cps ?_ ?_ ?_ ?_
       · rfl
       · rfl
       · rfl
       intro gS w1 nn
       have HSB : Hid (Blk w1 gS [.slice (some ⟨bs, offs, none⟩) 16384 cps] 25) := nn.blk
       have csb : w1.cell? ⟨gS, 0, none⟩ = some (.slice (some ⟨bs, offs, none⟩) 16384 cps) := nn.blk.cell 0
       replace HBW : Hid (Below w.heap.size w w1) := HBW.out.trans (nn.below.mono HBW.out.size)
       clear nn))
    refine wp_scope_straight ?_
    go_wp2_with (first
    | (go_at_call 24; refine (lBegun_any _).mono ?_; rintro e w2 ⟨v0, rfl, hown, hbz⟩
       obtain ⟨a0, c0, hf⟩ := hown.form
       rw [show ([80] : List (BitVec 8)).length = 1 from rfl] at hf
       subst hf
       clear csb
       have HM : Hid (OwnB w2 w.heap.size (.slice a0 1 c0) [80]) := hown.lower HBW.out.size
       replace HSB : Hid (Blk w2 gS [.slice (some ⟨bs, offs, none⟩) 16384 cps] 25) := HSB.out.below hbz HSB.out.lt
       replace HBW : Hid (Below w.heap.size w w2) := HBW.out.trans (hbz.mono HBW.out.size)
       clear hbz hown)
    | (with_reducible refine wpSeq_allocB ?_ ?_ ?_
       · rfl
       · rfl
       intro gO w3 nn
       have HGO : Hid (w.heap.size ≤ gO) := Nat.le_trans HBW.out.size nn.ge
       have HNE : Hid (gS ≠ gO) := by have h1 := HSB.out.lt; have h3 := nn.ge; show _ ≠ _; omega
       replace HSB : Hid (Blk w3 gS [.slice (some ⟨bs, offs, none⟩) 16384 cps] 25) := HSB.out.below nn.below HSB.out.lt
       replace HM : Hid (OwnB w3 w.heap.size (.slice a0 1 c0) [80]) := HM.out.below nn.below (Nat.le_refl _)
       replace HBW : Hid (Below w.heap.size w w3) := HBW.out.trans (nn.below.mono HBW.out.size)
       have HO : Hid (Blk w3 gO [.slice none 0 0] 25) := nn.blk
       clear nn)
    | (with_reducible refine wpSeq_storeS (.tmp 6) (.tmp 14) gO (.slice none 0 0) a0 1 c0 ?_ ?_ ?_ ?_ ?_ ?_
       · exact HO.out
       · rfl
       · rfl
       · rfl
       · rfl
       intro w4 h4
       have hon : Only gO w3 w4 := by rw [h4]; exact Only.setCell (Only.refl gO w3) 0 _
       replace HO : Hid (OutI w.heap.size gO [80] w4) := by rw [h4]; exact ⟨_, by simpa using HO.out.set 0 (.slice a0 1 c0), HM.out.boxed HO.out⟩
       replace HSB : Hid (Blk w4 gS [.slice (some ⟨bs, offs, none⟩) 16384 cps] 25) := HSB.out.only hon HNE.out
       replace HBW : Hid (Below w.heap.size w w4) := HBW.out.trans (hon.below HGO.out HBW.out.size)
       clear hon HM h4))
    refine wp_label ?_
    go_wp2_with (first
    | (go_at_call 28; refine (HC0.out _ HBW.out).mono ?_; rintro e w6 ⟨rfl, hbz⟩
       replace HSB : Hid (Blk w6 gS [.slice (some ⟨bs, offs, none⟩) 16384 cps] 25) := HSB.out.below hbz HSB.out.lt
       replace HO : Hid (OutI w.heap.size gO [80] w6) := HO.out.next hbz
       replace HBW : Hid (Below w.heap.size w w6) := HBW.out.trans (hbz.mono HBW.out.size)
       clear hbz)
    | (go_at_call 30; refine (pBits_any d _).mono ?_; rintro e w7 ⟨g3, rfl, nn⟩
       replace HSB : Hid (Blk w7 gS [.slice (some ⟨bs, offs, none⟩) 16384 cps] 25) := HSB.out.below nn.below HSB.out.lt
       replace HO : Hid (OutI w.heap.size gO [80] w7) := HO.out.next nn.below
       replace HBW : Hid (Below w.heap.size w w7) := HBW.out.trans (nn.below.mono HBW.out.size)
       have H3 : Hid (Blk w7 g3 (cb d) 23) := nn.blk
       clear nn))
    refine (wpIn_wide (n := 4)).1 ?_
    refine wpIn_rangeFunc_ownF (F := Fence.wide) rfl (by omega) (gf := 40) (lb := #[.pointer (some ⟨g3, 0, none⟩)]) rfl trivial (enters_of Tryd.func40 (by kernel_rfl) rfl)
      (bits_told 3 (by omega) g3 d HDL.out w7 H3.out) (fun _ _ => trivial) (fun _ _ _ _ _ _ _ _ => trivial) (Below.refl _ _) (fun _ => rfl)
      (fun pre W => OutI w.heap.size gO (openF (bt d) sig pre) W ∧ Blk W gS [.slice (some ⟨bs, offs, none⟩) 16384 cps] 25 ∧ Below w.heap.size w W) (fun _ _ _ => False)
      (OwnFrom.and (Own.from (OutI.own w.heap.size gO (openF (bt d) sig)) _) (OwnFrom.and (Own.from (blk_own gS (fun _ => [.slice (some ⟨bs, offs, none⟩) 16384 cps]) 25) _) (ownFrom_below (Nat.le_refl _) HBW.out.size)))
      (fun c s X Y row hs _ _ => hs.elim)
      ⟨HO.out, HSB.out, HBW.out⟩
      (fun z => { tmps := #[.slice ab nb cbb, .slice (some ⟨bs, offs, none⟩) 16384 cps, undef, .pointer (some ⟨gS, 0, none⟩), .slice none 0 0, .int .i64 0, .pointer (some ⟨gO, 0, none⟩), .int .i64 (z.1 : Int), .bool (bt d z.1), undef, undef, .slice (some ⟨bs, offs, none⟩) 16384 cps, .int .i64 16384, .bool false, .slice a0 1 c0, .slice ab nb cbb, .agg (cb d).toArray, .func (.func 40) #[] #[.pointer (some ⟨g3, 0, none⟩)], .int .i64 (z.1 : Int), .bool (bt d z.1), undef, undef, undef, undef, undef, undef, undef, undef, undef, undef, undef, undef, undef, undef, undef, undef, undef, undef], defers := [] }) ?assign ?body ?done ?stop
    case assign =>
      intro l z W K hK
      gi_wp2
      exact hK
    case body =>
      clear HSB HO H3
      rintro l pre z W ⟨hO, hX, hB⟩ hlen
      obtain ⟨lo, HLO⟩ : ∃ lo, Hid (lo = openF (bt d) sig pre) := ⟨_, rfl⟩
      have HLL : Hid (lo.length < 16386) := by show _ < _; rw [HLO.out, openF_len _ HSL.out]; omega
      have HSB : Hid (Blk W gS [.slice (some ⟨bs, offs, none⟩) 16384 cps] 25) := hX
      have HRO : Hid (RoI w gO lo W W) := ⟨by rw [HLO.out]; exact hO, hB, KeepsOthers.refl _⟩
      have HSN : Hid (openF (bt d) sig (pre ++ [z]) = lo ++ openB (bt d) sig z.1) := by rw [HLO.out]; exact openF_snoc _ _ _ _
      obtain ⟨pa, HPA⟩ : ∃ p, Hid (p = blk32 sig (2 * z.1)) := ⟨_, rfl⟩
      have HPAL : Hid (pa.length = 32) := by show _ = _; rw [HPA.out]; exact len_blk32 (by have := HSL.out; have := z.2; omega)
      obtain ⟨pb, HPB⟩ : ∃ p, Hid (p = blk32 sig (2 * z.1 + 1)) := ⟨_, rfl⟩
      have HPBL : Hid (pb.length = 32) := by show _ = _; rw [HPB.out]; exact len_blk32 (by have := HSL.out; have := z.2; omega)
      replace HSN : Hid (openF (bt d) sig (pre ++ [z]) = lo ++ if bt d z.1 then pb ++ dig pa else dig pa ++ pb) := by show _ = _; rw [HSN.out, HPA.out, HPB.out]; rfl
      obtain ⟨pd, HPD⟩ : ∃ p, Hid (p = dig pa) := ⟨_, rfl⟩
      have HPDL : Hid (pd.length = 32) := by show _ = _; rw [HPD.out]; exact len_dig' _
      rw [← HPD.out] at HSN
      obtain ⟨o, HOO⟩ : ∃ o, Hid (o = bt d z.1) := ⟨_, rfl⟩
      rw [← HOO.out] at HSN
      simp only [← HOO.out]
      clear hO hX hB HLO hlen HOO
      have tka : Hid True := trivial
      have tkb : Hid True := trivial
      have tkc : Hid True := trivial
      have tkd : Hid True := trivial
      refine wpIn_block (wpIn_seq ?_)
      refine wpIn_round_list (by kernel_rfl) (by rintro ⟨_, _, h⟩; exact h) ?_
      have csb : W.cell? ⟨gS, 0, none⟩ = some (.slice (some ⟨bs, offs, none⟩) 16384 cps) := HSB.out.cell 0
      go_wp2_with (first
      | (go_at_call 33; refine (HC2.out _ HRO.out.bel z.1 z.2).mono ?_; rintro e y1 ⟨rfl, hbz⟩
         rw [← HPA.out, ← HPB.out]
         replace HRO : Hid (RoI w gO lo W y1) := HRO.out.next hbz
         replace HSB : Hid (Blk y1 gS [.slice (some ⟨bs, offs, none⟩) 16384 cps] 25) := HSB.out.below hbz HSB.out.lt
         clear hbz csb)
      | (clear tka; with_reducible refine wpSeq_allocD ?_ ?_ ?_
         · rfl
         · rfl
         intro ga y2 nn
         have HGA : Hid (y1.heap.size ≤ ga) := nn.ge
         have HA : Hid (Blk y2 ga (cb zb32) 23) := nn.blk
         have HAB : Hid (Below y1.heap.size y1 y2) := nn.below
         clear nn)
      | (clear tkb; with_reducible refine wpSeq_allocD ?_ ?_ ?_
         · rfl
         · rfl
         intro gb y3 nn
         have HGB : Hid (y1.heap.size ≤ gb) := Nat.le_trans HAB.out.size nn.ge
         have HNAB : Hid (ga ≠ gb) := by have h1 := HA.out.lt; have h3 := nn.ge; show _ ≠ _; omega
         replace HA : Hid (Blk y3 ga (cb zb32) 23) := HA.out.below nn.below HA.out.lt
         have HB : Hid (Blk y3 gb (cb zb32) 23) := nn.blk
         replace HAB : Hid (Below y1.heap.size y1 y3) := HAB.out.trans (nn.below.mono HAB.out.size)
         clear nn)
      | (clear tkc; with_reducible refine wpSeq_storeD (.tmp 9) (.tmp 24) ga zb32 pa ?_ ?_ ?_ ?_ ?_ ?_ ?_ ?_
         · rfl
         · exact HPAL.out
         · exact HA.out
         · rfl
         · rfl
         · rfl
         · rfl
         intro y4 hs
         replace HA : Hid (Blk y4 ga (cb pa) 23) := hs.blk
         replace HB : Hid (Blk y4 gb (cb zb32) 23) := HB.out.only hs.only (fun e => HNAB.out e.symm)
         replace HAB : Hid (Below y1.heap.size y1 y4) := HAB.out.trans (hs.only.below HGA.out HAB.out.size)
         clear hs)
      | (clear tkd; with_reducible refine wpSeq_storeD (.tmp 10) (.tmp 25) gb zb32 pb ?_ ?_ ?_ ?_ ?_ ?_ ?_ ?_
         · rfl
         · exact HPBL.out
         · exact HB.out
         · rfl
         · rfl
         · rfl
         · rfl
         intro y5 hs
         replace HA : Hid (Blk y5 ga (cb pa) 23) := HA.out.only hs.only HNAB.out
         replace HB : Hid (Blk y5 gb (cb pb) 23) := hs.blk
         replace HAB : Hid (Below y1.heap.size y1 y5) := HAB.out.trans (hs.only.below HGB.out HAB.out.size)
         replace HRO : Hid (RoI w gO lo W y5) := HRO.out.next HAB.out
         replace HSB : Hid (Blk y5 gS [.slice (some ⟨bs, offs, none⟩) 16384 cps] 25) := HSB.out.below HAB.out HSB.out.lt
         clear hs HAB HGA HGB))
      clear HC2
      cases o with
      | true =>
        have HS2 : Hid (openF (bt d) sig (pre ++ [z]) = lo ++ pb ++ pd) := by show _ = _; rw [HSN.out, List.append_assoc]; rfl
        clear HSN
        gi_wp2
        refine wpIn_round_held (S := fun W => Blk W ga (cb pa) 23 ∧ Blk W gb (cb pb) 23) (by kernel_rfl) (by kernel_rfl) (by rintro ⟨_, _, h⟩; exact h) ⟨HA.out.drew, HB.out.drew⟩ ?_
        intro hS
        replace HRO : Hid (RoI w gO lo W (World.drew y5)) := HRO.out.drew
        replace HSB : Hid (Blk (World.drew y5) gS [.slice (some ⟨bs, offs, none⟩) 16384 cps] 25) := HSB.out.drew
        clear HA HB
        change wpAnyH _ _ _ _ _ _ _ _ (World.drew y5)
        generalize World.drew y5 = q at *
        obtain ⟨v, hv, ho⟩ := HRO.out.out
        obtain ⟨aq, cq, hf1⟩ := ho.form
        obtain ⟨nq, HNQ⟩ : ∃ n, Hid (n = lo.length) := ⟨_, rfl⟩
        rw [← HNQ.out] at hf1
        subst hf1
        have hcq : q.cell? ⟨gO, 0, none⟩ = some (.slice aq nq cq) := hv.cell 0
        try simp only [Act.put, List.setIfInBounds_toArray, List.set_cons_zero, List.set_cons_succ]
        refine wpAnyH_take (i := 1) (v := .agg (cb pb).toArray) rfl (by kernel_rfl) (by kernel_rfl) (by kernel_rfl) (fun _ _ _ h => h) (Or.inl ⟨by rfl, fun wx hx => by exact loadDigest _ gb pb HPBL.out hx.2 rfl rfl⟩) hS ?_
        simp only [Act.put, List.getElem_toArray, List.getElem_cons_succ, List.getElem_cons_zero, List.setIfInBounds_toArray, List.set_cons_zero, List.set_cons_succ]
        refine wpAnyH_take (i := 2) (v := .slice (some ⟨ga, 0, none⟩) 32 32) rfl (by kernel_rfl) (by kernel_rfl) (by kernel_rfl) (fun _ _ _ h => h) (Or.inl ⟨by rfl, fun wx hx => by simp [execOp, Act.eval, slice_dig]⟩) hS ?_
        simp only [Act.put, List.getElem_toArray, List.getElem_cons_succ, List.getElem_cons_zero, List.setIfInBounds_toArray, List.set_cons_zero, List.set_cons_succ]
        refine wpAnyH_readC 0 3 (.slice aq nq cq) (f := 28) (args := #[.slice (some ⟨ga, 0, none⟩) 32 32]) (by kernel_rfl) rfl rfl (by rfl) (by rfl) (fun _ => by rfl) (by rfl) (by simp [go_sem, hcq]) (by simp [go_sem]) (by simp [go_sem]) (HC1.out _ _ pa HRO.out.bel HPAL.out (hS.1.reads HPAL.out.symm (by rw [HPAL.out]; exact Nat.le_refl _))) (by kernel_rfl) (by kernel_rfl) (fun _ => by rfl) (by rfl) hS ?_
        rintro e y6 ⟨rfl, hbq⟩
        rw [← HPD.out]
        clear hcq
        replace HRO : Hid (RoI w gO lo W y6) := HRO.out.next hbq
        replace hS : Blk y6 ga (cb pa) 23 ∧ Blk y6 gb (cb pb) 23 := ⟨hS.1.below hbq hS.1.lt, hS.2.below hbq hS.2.lt⟩
        replace ho : OwnB y6 w.heap.size (.slice aq nq cq) lo := ho.below hbq (Nat.le_refl _)
        replace hv : Blk y6 gO [.slice aq nq cq] 25 := hv.below hbq hv.lt
        have hcy6 : y6.cell? ⟨gO, 0, none⟩ = some (.slice aq nq cq) := hv.cell 0
        replace HSB : Hid (Blk y6 gS [.slice (some ⟨bs, offs, none⟩) 16384 cps] 25) := HSB.out.below hbq HSB.out.lt
        clear hbq
        refine ⟨_, rfl, hS, by simp [go_sem, hcy6], ?_⟩
        simp only [Act.put, List.getElem_toArray, List.getElem_cons_succ, List.getElem_cons_zero, List.setIfInBounds_toArray, List.set_cons_zero, List.set_cons_succ]
        refine wpAnyH_enter 4 (by kernel_rfl) rfl (by rfl) (f := 25) (args := #[.slice aq nq cq, .agg (cb pb).toArray, .agg (cb pd).toArray]) (by simp [go_sem]) (lPut_any (.slice aq nq cq) lo pb pd w.heap.size y6 HRO.out.bel.size ho HPBL.out HPDL.out (by have := HLL.out; omega)) ?_
        rintro e y7 ⟨v9, rfl, ho9, hk9⟩
        obtain ⟨a9, c9, hv9⟩ := ho9.form
        obtain ⟨n9, HN9⟩ : ∃ n, Hid (n = (lo ++ pb ++ pd).length) := ⟨_, rfl⟩
        rw [← HN9.out] at hv9
        subst hv9
        have hb3 : Blk y7 gO [.slice aq nq cq] 25 := hk9.blk _ _ _ (by decide) hv
        have hc3 : y7.cell? ⟨gO, 0, none⟩ = some (.slice aq nq cq) := hb3.cell 0
        have hf3 : y7.frozen? ⟨gO, 0, none⟩ = false := hb3.frozen 0
        have hro := HRO.out.kept HGO.out hv hk9 ho9
        have hS2 : Blk (y7.setCell ⟨gO, 0, none⟩ (.slice a9 n9 c9)) ga (cb pa) 23 ∧ Blk (y7.setCell ⟨gO, 0, none⟩ (.slice a9 n9 c9)) gb (cb pb) 23 := ⟨hk9.boxed hS.1 (by decide) (blk_ne hS.1 hv (by decide)), hk9.boxed hS.2 (by decide) (blk_ne hS.2 hv (by decide))⟩
        have hsb : Blk (y7.setCell ⟨gO, 0, none⟩ (.slice a9 n9 c9)) gS [.slice (some ⟨bs, offs, none⟩) 16384 cps] 25 := hk9.boxed HSB.out (by decide) HNE.out
        refine ⟨_, rfl, ⟨hk9.blk _ _ _ (by decide) hS.1, hk9.blk _ _ _ (by decide) hS.2⟩, ?_⟩
        simp only [Act.put, List.getElem_toArray, List.getElem_cons_succ, List.getElem_cons_zero, List.setIfInBounds_toArray, List.set_cons_zero, List.set_cons_succ]
        refine wpAnyH_skip 5 (y7.setCell ⟨gO, 0, none⟩ (.slice a9 n9 c9)) (by kernel_rfl) rfl (by rfl) (by simp [go_sem, hc3, hf3]) hS2 ?_
        simp only [Act.put, List.getElem_toArray, List.getElem_cons_succ, List.getElem_cons_zero]
        refine wpAnyH_done (by kernel_rfl) ?_ _
        gi_wp2
        exact ⟨hro.kp, trivial, by rw [HS2.out]; exact hro.out, hsb, hro.bel⟩
      | false =>
        have HS2 : Hid (openF (bt d) sig (pre ++ [z]) = lo ++ pd ++ pb) := by show _ = _; rw [HSN.out, List.append_assoc]; rfl
        clear HSN
        gi_wp2
        refine wpIn_round_held (S := fun W => Blk W ga (cb pa) 23 ∧ Blk W gb (cb pb) 23) (by kernel_rfl) (by kernel_rfl) (by rintro ⟨_, _, h⟩; exact h) ⟨HA.out.drew, HB.out.drew⟩ ?_
        intro hS
        replace HRO : Hid (RoI w gO lo W (World.drew y5)) := HRO.out.drew
        replace HSB : Hid (Blk (World.drew y5) gS [.slice (some ⟨bs, offs, none⟩) 16384 cps] 25) := HSB.out.drew
        clear HA HB
        change wpAnyH _ _ _ _ _ _ _ _ (World.drew y5)
        generalize World.drew y5 = q at *
        obtain ⟨v, hv, ho⟩ := HRO.out.out
        obtain ⟨aq, cq, hf1⟩ := ho.form
        obtain ⟨nq, HNQ⟩ : ∃ n, Hid (n = lo.length) := ⟨_, rfl⟩
        rw [← HNQ.out] at hf1
        subst hf1
        have hcq : q.cell? ⟨gO, 0, none⟩ = some (.slice aq nq cq) := hv.cell 0
        try simp only [Act.put, List.setIfInBounds_toArray, List.set_cons_zero, List.set_cons_succ]
        refine wpAnyH_take (i := 1) (v := .slice (some ⟨ga, 0, none⟩) 32 32) rfl (by kernel_rfl) (by kernel_rfl) (by kernel_rfl) (fun _ _ _ h => h) (Or.inl ⟨by rfl, fun wx hx => by simp [execOp, Act.eval, slice_dig]⟩) hS ?_
        simp only [Act.put, List.getElem_toArray, List.getElem_cons_succ, List.getElem_cons_zero, List.setIfInBounds_toArray, List.set_cons_zero, List.set_cons_succ]
        refine wpAnyH_take (i := 3) (v := .agg (cb pb).toArray) rfl (by kernel_rfl) (by kernel_rfl) (by kernel_rfl) (fun _ _ _ h => h) (Or.inl ⟨by rfl, fun wx hx => by exact loadDigest _ gb pb HPBL.out hx.2 rfl rfl⟩) hS ?_
        simp only [Act.put, List.getElem_toArray, List.getElem_cons_succ, List.getElem_cons_zero, List.setIfInBounds_toArray, List.set_cons_zero, List.set_cons_succ]
        refine wpAnyH_readC 0 2 (.slice aq nq cq) (f := 28) (args := #[.slice (some ⟨ga, 0, none⟩) 32 32]) (by kernel_rfl) rfl rfl (by rfl) (by rfl) (fun _ => by rfl) (by rfl) (by simp [go_sem, hcq]) (by simp [go_sem]) (by simp [go_sem]) (HC1.out _ _ pa HRO.out.bel HPAL.out (hS.1.reads HPAL.out.symm (by rw [HPAL.out]; exact Nat.le_refl _))) (by kernel_rfl) (by kernel_rfl) (fun _ => by rfl) (by rfl) hS ?_
        rintro e y6 ⟨rfl, hbq⟩
        rw [← HPD.out]
        clear hcq
        replace HRO : Hid (RoI w gO lo W y6) := HRO.out.next hbq
        replace hS : Blk y6 ga (cb pa) 23 ∧ Blk y6 gb (cb pb) 23 := ⟨hS.1.below hbq hS.1.lt, hS.2.below hbq hS.2.lt⟩
        replace ho : OwnB y6 w.heap.size (.slice aq nq cq) lo := ho.below hbq (Nat.le_refl _)
        replace hv : Blk y6 gO [.slice aq nq cq] 25 := hv.below hbq hv.lt
        have hcy6 : y6.cell? ⟨gO, 0, none⟩ = some (.slice aq nq cq) := hv.cell 0
        replace HSB : Hid (Blk y6 gS [.slice (some ⟨bs, offs, none⟩) 16384 cps] 25) := HSB.out.below hbq HSB.out.lt
        clear hbq
        refine ⟨_, rfl, hS, by simp [go_sem, hcy6], ?_⟩
        simp only [Act.put, List.getElem_toArray, List.getElem_cons_succ, List.getElem_cons_zero, List.setIfInBounds_toArray, List.set_cons_zero, List.set_cons_succ]
        refine wpAnyH_enter 4 (by kernel_rfl) rfl (by rfl) (f := 25) (args := #[.slice aq nq cq, .agg (cb pd).toArray, .agg (cb pb).toArray]) (by simp [go_sem]) (lPut_any (.slice aq nq cq) lo pd pb w.heap.size y6 HRO.out.bel.size ho HPDL.out HPBL.out (by have := HLL.out; omega)) ?_
        rintro e y7 ⟨v9, rfl, ho9, hk9⟩
        obtain ⟨a9, c9, hv9⟩ := ho9.form
        obtain ⟨n9, HN9⟩ : ∃ n, Hid (n = (lo ++ pd ++ pb).length) := ⟨_, rfl⟩
        rw [← HN9.out] at hv9
        subst hv9
        have hb3 : Blk y7 gO [.slice aq nq cq] 25 := hk9.blk _ _ _ (by decide) hv
        have hc3 : y7.cell? ⟨gO, 0, none⟩ = some (.slice aq nq cq) := hb3.cell 0
        have hf3 : y7.frozen? ⟨gO, 0, none⟩ = false := hb3.frozen 0
        have hro := HRO.out.kept HGO.out hv hk9 ho9
        have hS2 : Blk (y7.setCell ⟨gO, 0, none⟩ (.slice a9 n9 c9)) ga (cb pa) 23 ∧ Blk (y7.setCell ⟨gO, 0, none⟩ (.slice a9 n9 c9)) gb (cb pb) 23 := ⟨hk9.boxed hS.1 (by decide) (blk_ne hS.1 hv (by decide)), hk9.boxed hS.2 (by decide) (blk_ne hS.2 hv (by decide))⟩
        have hsb : Blk (y7.setCell ⟨gO, 0, none⟩ (.slice a9 n9 c9)) gS [.slice (some ⟨bs, offs, none⟩) 16384 cps] 25 := hk9.boxed HSB.out (by decide) HNE.out
        refine ⟨_, rfl, ⟨hk9.blk _ _ _ (by decide) hS.1, hk9.blk _ _ _ (by decide) hS.2⟩, ?_⟩
        simp only [Act.put, List.getElem_toArray, List.getElem_cons_succ, List.getElem_cons_zero, List.setIfInBounds_toArray, List.set_cons_zero, List.set_cons_succ]
        refine wpAnyH_skip 5 (y7.setCell ⟨gO, 0, none⟩ (.slice a9 n9 c9)) (by kernel_rfl) rfl (by rfl) (by simp [go_sem, hc3, hf3]) hS2 ?_
        simp only [Act.put, List.getElem_toArray, List.getElem_cons_succ, List.getElem_cons_zero]
        refine wpAnyH_done (by kernel_rfl) ?_ _
        exact ⟨hro.kp, trivial, by rw [HS2.out]; exact hro.out, hsb, hro.bel⟩
    case done =>
      rintro D ys W hD rfl ⟨hO, hX, hB⟩ hK
      rw [openF_path (bt d) sig 256 (Nat.le_refl _)] at hO
      obtain ⟨v, hv, ho⟩ := hO
      have HD : Hid (w.heap.size ≤ D) := Nat.le_trans HBW.out.size hD
      have HOW : Hid (OwnB W w.heap.size v (openR (bt d) sig 256)) := ho
      have HB : Hid (Below w.heap.size w W) := hB
      have HKD : Hid (W.heap[D]? = some (.deferred (some []))) := hK
      have cv : W.cell? ⟨gO, 0, none⟩ = some v := hv.cell 0
      clear hX hB hK hD hv ho HSB HO H3 HBW
      gi_wp2
      go_wp2
      refine noGoto_ret ?_
      refine ⟨by simp, .inl ⟨_, _, rfl, run_takeDeferred HKD.out, ?_⟩⟩
      refine ⟨.tuple #[v, .int .i64 0], ?_, v, by rw [HL.out.2], by rw [HL.out.1]; exact (HOW.out.kept (grownBy_putObj' _ D _) (fun r e => by cases e; exact ⟨_, HKD.out, rfl⟩)).reads, HB.out.trans (belowK_b (w := w) (Nat.le_refl _) _ D _ _ HD.out HKD.out rfl rfl)⟩
      simp [results, Tryd.f19, go_sem]
    case stop =>
      rintro D c pre W _ _ hX _
      exact hX.elim
  · have HL : Hid (openL b sig = [] ∧ openE sig = 15) := by show _ ∧ _; rw [openL, openE, if_neg h16, if_neg h16]; exact ⟨rfl, rfl⟩
    obtain ⟨ads, cps, hvs, _⟩ := id hs
    obtain ⟨n, HNL⟩ : ∃ n, Hid (n = sig.length) := ⟨_, rfl⟩
    rw [← HNL.out] at hvs h16
    have hne : ((n : Int) == 16384) = false := by rw [beq_eq_false_iff_ne]; omega
    subst hvb hvs
    clear hb hs hl
    go_enter Tryd.func19, Tryd.ntmps19
    go_wp2_with (first
    | (with_reducible refine wpSeq_boxS (.tmp 1) ads n cps ?_ ?_ ?_ ?_
       · rfl
       · rfl
       · rfl
       intro gS w1 nn
       have csb : w1.cell? ⟨gS, 0, none⟩ = some (.slice ads n cps) := nn.blk.cell 0
       have HBW : Hid (Below w.heap.size w w1) := nn.below
       clear nn))
    refine wp_scope_straight ?_
    go_wp2
    refine noGoto_ret ?_
    refine bodyPost_ret (results_tmp2 rfl _ _ _) rfl ?_
    exact ⟨_, by rw [HL.out.2]; rfl, by rw [HL.out.1]; exact ⟨Option.none, 0, rfl, Nat.le_refl _, fun _ => rfl, fun h => by cases h⟩, HBW.out⟩
end Go.Proofs.YtaogafadnkheeaaDoor
/- The walk of lamport's Check; all that lamport does (layer 10). -/
namespace Go.Proofs.YtaogafadnkheeaaDoor
open Go.RowKit Go.Shelf
set_option maxRecDepth 100000 in
set_option maxHeartbeats 8000000 in
theorem lCheck_any (p : List (BitVec 8)) (vb vs : Value) (b sig : List (BitVec 8)) (w : World) (hK : KOk w) (hp : p.length = 32) (hb : Reads w vb b) (hs : Reads w vs sig) (hl : b.length < 140737488350000) :
    Calls Tryd.prog 17 #[.agg (cb p).toArray, vb, vs] w fun e w' => e = .returned (.int .i64 (checkE p b sig)) ∧ Below w.heap.size w w' := by
  obtain ⟨ab, cbb, hvb, hq1⟩ := id hb
  obtain ⟨ads, cps, hvs, hq2⟩ := id hs
  clear hq1 hq2
  obtain ⟨nb, HNB⟩ : ∃ n, Hid (n = b.length) := ⟨_, rfl⟩
  obtain ⟨ns, HNS⟩ : ∃ n, Hid (n = sig.length) := ⟨_, rfl⟩
  rw [← HNB.out] at hvb
  rw [← HNS.out] at hvs
  have HPL : Hid (p.length = 32) := hp
  have HC1 : Hid (∀ W : World, Below w.heap.size w W → Calls Tryd.prog 19 #[vb, vs] W (OpenA W b sig)) := fun W hh => lOpened_any vb vs b sig W (hK.below hh hK.lt) (hb.below hh) (hs.below hh) hl
  have HKK : Hid (∀ W : World, Below w.heap.size w W → KOk W) := fun W hh => hK.below hh hK.lt
  subst hvb hvs
  clear hb hs hl hp hK
  by_cases h16 : sig.length = 16384
  · obtain ⟨t, HT⟩ : ∃ t, Hid (t = openR (bt (dig b)) sig 256) := ⟨_, rfl⟩
    have HTL : Hid (t.length = 16385) := by show _ = _; rw [HT.out, len_openR _ (by omega)]
    have HOL : Hid (openL b sig = t ∧ openE sig = 0) := by show _ ∧ _; rw [openL, openE, if_pos h16, if_pos h16, HT.out]; exact ⟨rfl, rfl⟩
    obtain ⟨r, HRD⟩ : ∃ r, Hid (r = dig t) := ⟨_, rfl⟩
    have HRL : Hid (r.length = 32) := by show _ = _; rw [HRD.out]; exact len_dig' _
    have HCK : Hid (checkE p b sig = if r = p then 0 else 15) := by show _ = _; unfold checkE; rw [← HT.out, ← HRD.out]; simp [h16]
    have HC2 : Hid (∀ (W : World) (v : Value), Below w.heap.size w W → Reads W v t → Calls Tryd.prog 28 #[v] W fun e w' => e = .returned (.agg (cb r).toArray) ∧ Below W.heap.size W w') := fun W v hh hv => by rw [HRD.out]; exact tOf_any v t W (HKK.out W hh) hv (by rw [HTL.out]; omega)
    have heq : ∀ wx : World, (Op.equalIn 10000 23 (.agg (cb r).toArray) (.agg (cb p).toArray)).run Tryd.prog wx = .ok (decide (r = p)) wx := fun wx => eq_dig r p HRL.out HPL.out wx
    obtain ⟨o, HO⟩ : ∃ o, Hid (o = decide (r = p)) := ⟨_, rfl⟩
    rw [← HO.out] at heq
    have HCK2 : Hid (checkE p b sig = if o then 0 else 15) := by
      show _ = _
      rw [HCK.out, HO.out]
      by_cases e : r = p
      · rw [if_pos e, decide_eq_true e]; rfl
      · rw [if_neg e, decide_eq_false e]; rfl
    rw [HCK2.out]
    clear h16 HT HRD HCK HO HCK2
    go_enter Tryd.func17, Tryd.ntmps17
    go_wp2_with (first
      | (with_reducible refine wpSeq_boxD (.tmp 0) p ?_ ?_ ?_ ?_
         · rfl
         · rfl
         · rfl
         intro gp w1 nn
         have HB1 : Hid (Below w.heap.size w w1) := nn.below
         have HGP : Hid (Blk w1 gp (cb p) 23) := nn.blk
         clear nn)
      | (go_at_call 19; refine (HC1.out _ HB1.out).mono ?_; rintro e w2 ⟨v, rfl, hv, hb2⟩
         rw [HOL.out.1] at hv
         have HV : Hid (Reads w2 v t) := hv
         replace HGP : Hid (Blk w2 gp (cb p) 23) := HGP.out.below hb2 HGP.out.lt
         replace HB1 : Hid (Below w.heap.size w w2) := HB1.out.trans (hb2.mono HB1.out.size)
         rw [HOL.out.2]
         clear hv hb2))
    have HYB : Hid (Below w.heap.size w (World.drew w2)) := HB1.out.drew
    replace HGP : Hid (Blk (World.drew w2) gp (cb p) 23) := HGP.out.drew
    replace HV : Hid (Reads (World.drew w2) v t) := reads_drew HV.out
    clear HB1
    refine wp_region_held_drew (S := Over (World.drew w2)) (by kernel_rfl) (Over.refl _) ?_
    intro hS
    change wpAnyH _ _ _ _ _ _ _ _ (World.drew w2)
    generalize World.drew w2 = y0 at *
    try simp only [Act.put, List.setIfInBounds_toArray, List.set_cons_zero, List.set_cons_succ]
    refine wpAnyH_take (i := 0) (v := v) rfl (by kernel_rfl) (by kernel_rfl) (by kernel_rfl) (fun _ _ _ h => h) (Or.inl ⟨by rfl, fun wx hx => by simp [go_sem]⟩) hS ?_
    simp only [Act.put, List.getElem_toArray, List.getElem_cons_zero, List.setIfInBounds_toArray, List.set_cons_zero, List.set_cons_succ]
    refine wpAnyH_take (i := 2) (v := .agg (cb p).toArray) rfl (by kernel_rfl) (by kernel_rfl) (by kernel_rfl) (fun _ _ _ h => h) (Or.inl ⟨by rfl, fun wx hx => by exact loadDigest _ gp p HPL.out (HGP.out.below hx HGP.out.lt) rfl rfl⟩) hS ?_
    simp only [Act.put, List.getElem_toArray, List.getElem_cons_succ, List.getElem_cons_zero, List.setIfInBounds_toArray, List.set_cons_zero, List.set_cons_succ]
    refine wpAnyH_enter 1 (by kernel_rfl) rfl (by rfl) (f := 28) (args := #[v]) (by simp [go_sem]) (HC2.out _ v (HYB.out.trans (Below.mono hS HYB.out.size)) (HV.out.below hS)) ?_
    rintro e y1 ⟨rfl, hbq⟩
    replace hS := Over.more hS hbq
    refine ⟨_, rfl, hS, ?_⟩
    clear hbq
    simp only [Act.put, List.getElem_toArray, List.getElem_cons_succ, List.getElem_cons_zero, List.setIfInBounds_toArray, List.set_cons_zero, List.set_cons_succ]
    refine wpAnyH_take (i := 3) (v := .bool (!o)) rfl (by kernel_rfl) (by kernel_rfl) (by kernel_rfl) (fun _ _ _ h => h) (Or.inl ⟨by rfl, fun wx hx => by simp [go_sem, heq]⟩) hS ?_
    simp only [Act.put, List.getElem_toArray, List.getElem_cons_succ, List.getElem_cons_zero, List.setIfInBounds_toArray, List.set_cons_zero, List.set_cons_succ]
    refine wpAnyH_done (by kernel_rfl) ?_ _
    have HBW : Hid (Below w.heap.size w y1) := HYB.out.trans (Below.mono hS HYB.out.size)
    clear hS HV HGP HYB
    cases o with
    | true =>
      simp only [Bool.not_true]
      go_wp2
      go_ret
      exact ⟨rfl, HBW.out⟩
    | false =>
      simp only [Bool.not_false]
      go_wp2
      go_ret
      exact ⟨rfl, HBW.out⟩
  · have HOL : Hid (openL b sig = [] ∧ openE sig = 15) := by show _ ∧ _; rw [openL, openE, if_neg h16, if_neg h16]; exact ⟨rfl, rfl⟩
    have HCK : Hid (checkE p b sig = 15) := by show _ = _; unfold checkE; rw [if_neg (fun h => h16 h.1)]
    rw [HCK.out]
    clear h16 HCK
    go_enter Tryd.func17, Tryd.ntmps17
    go_wp2_with (first
      | (with_reducible refine wpSeq_boxD (.tmp 0) p ?_ ?_ ?_ ?_
         · rfl
         · rfl
         · rfl
         intro gp w1 nn
         have HB1 : Hid (Below w.heap.size w w1) := nn.below
         clear nn)
      | (go_at_call 19; refine (HC1.out _ HB1.out).mono ?_; rintro e w2 ⟨v, rfl, hv, hb2⟩
         replace HB1 : Hid (Below w.heap.size w w2) := HB1.out.trans (hb2.mono HB1.out.size)
         rw [HOL.out.2]
         clear hv hb2))
    go_ret
    exact ⟨rfl, HB1.out⟩
/-- lamport's functions do what the chapter says -/
theorem lmOps : LmOps where
  text := fun W x key hK hn => lText_any x key W hK hn
  pub := fun W x key hK hn => lPublic_any x key W hK hn
  sign := fun W x key vb b hK hn hb hl => lSign_any x key vb b W hK hn hb hl
  opened := fun W vb vs b sig hK hb hs hl => lOpened_any vb vs b sig W hK hb hs hl
  check := fun W p vb vs b sig hK hp hb hs hl => lCheck_any p vb vs b sig W hK hp hb hs hl
end Go.Proofs.YtaogafadnkheeaaDoor
/- LamportKeys and LamportSigns, over what lamport's functions do (layer 10). -/
namespace Go.Proofs.YtaogafadnkheeaaDoor
open Go.RowKit
set_option maxRecDepth 100000
/-- what signs is taken -/
theorem check_sign (x : List (BitVec 8)) (key : Nat) (b : List (BitVec 8)) : checkE (dig (textR (partB x key) 256)) b (signR (partB x key) (bt (dig b)) 256) = 0 := by
  unfold checkE
  rw [len_signR (len_partB x key), open_sign (len_partB x key) (bt (dig b)) 256 256 (Nat.le_refl _)]
  exact if_pos ⟨rfl, rfl⟩
set_option maxRecDepth 100000 in
set_option maxHeartbeats 8000000 in
theorem lamportKeys_law (hO : LmOps) (x : List (BitVec 8)) (key : Nat) (w : World) (hK : KOk w) (hn : x.length = 32 ∧ key < 18446744073709551616) :
    Calls Tryd.prog 3 #[.agg (cb x).toArray, .int .u64 (key : Int)] w fun e w' => e = .returned (.bool true) ∧ Below w.heap.size w w' := by
  obtain ⟨t, HTD⟩ : ∃ t, Hid (t = textR (partB x key) 256) := ⟨_, rfl⟩
  have HTL : Hid (t.length = 16385) := by show _ = _; rw [HTD.out, len_textR]
  obtain ⟨r, HRD⟩ : ∃ r, Hid (r = dig t) := ⟨_, rfl⟩
  have HRL : Hid (r.length = 32) := by show _ = _; rw [HRD.out]; exact len_dig' _
  have HC1 : Hid (∀ W : World, Below w.heap.size w W → Calls Tryd.prog 8 #[.agg (cb x).toArray, .int .u64 (key : Int)] W fun e w' => ∃ v, e = .returned v ∧ Reads w' v t ∧ Below W.heap.size W w') := fun W hh => by rw [HTD.out]; exact hO.text W x key (hK.below hh hK.lt) hn
  have HC2 : Hid (∀ W : World, Below w.heap.size w W → Calls Tryd.prog 10 #[.agg (cb x).toArray, .int .u64 (key : Int)] W fun e w' => ∃ v, e = .returned v ∧ Reads w' v t ∧ Below W.heap.size W w') := fun W hh => by rw [HTD.out]; exact qlText_any x key W hn
  have HC3 : Hid (∀ W : World, Below w.heap.size w W → Calls Tryd.prog 11 #[.agg (cb x).toArray, .int .u64 (key : Int)] W fun e w' => e = .returned (.agg (cb r).toArray) ∧ Below W.heap.size W w') := fun W hh => by rw [HRD.out, HTD.out]; exact hO.pub W x key (hK.below hh hK.lt) hn
  have HC4 : Hid (∀ (W : World) (v : Value), Reads W v t → Calls Tryd.prog 12 #[v] W fun e w' => e = .returned (.agg (cb r).toArray) ∧ Below W.heap.size W w') := fun W v hv => by rw [HRD.out]; exact rOf_any v t W hv (by rw [HTL.out]; omega)
  have HWK : Hid (∀ W : World, Below w.heap.size w W → Calls Tryd.prog 13 #[] W fun e w' => e = .returned (.bool true) ∧ Below W.heap.size W w') := fun W hh => works10_any hO W (hK.below hh hK.lt)
  have hq : ∀ wx : World, (Op.equalIn 10000 23 (.agg (cb r).toArray) (.agg (cb r).toArray)).run Tryd.prog wx = .ok true wx := fun wx => eq_dig_same r HRL.out wx
  have HN : Hid (x.length = 32 ∧ key < 18446744073709551616) := hn
  have HBW : Hid (Below w.heap.size w w) := Below.refl _ _
  clear hO hK hn HTD HRD
  go_enter Tryd.func3, Tryd.ntmps3
  have tk0 : Hid True := trivial
  have tk1 : Hid True := trivial
  have tk2 : Hid True := trivial
  have tk3 : Hid True := trivial
  have tk4 : Hid True := trivial
  have tk5 : Hid True := trivial
  have tk6 : Hid True := trivial
  have tk7 : Hid True := trivial
  have tk8 : Hid True := trivial
  have tk9 : Hid True := trivial
  go_wp2_with (first
    | (clear tk0; with_reducible refine wpSeq_boxD (.tmp 0) x ?_ ?_ ?_ ?_
       · rfl
       · rfl
       · rfl
       intro gx y1 nn
       replace HBW : Hid (Below w.heap.size w y1) := HBW.out.trans (nn.below.mono HBW.out.size)
       have HX : Hid (Blk y1 gx (cb x) 23) := nn.blk
       clear nn)
    | (clear tk1; with_reducible refine wpSeq_loadD (.tmp 2) gx x ?_ ?_ ?_ ?_ ?_ ?_
       · exact HN.out.1
       · exact HX.out
       · rfl
       · rfl
       · rfl)
    | (clear tk2; go_at_call 8; refine (HC1.out y1 HBW.out).mono ?_; rintro e y2 ⟨v5, rfl, hr5, hbz⟩
       replace HX : Hid (Blk y2 gx (cb x) 23) := HX.out.below hbz HX.out.lt
       replace HBW : Hid (Below w.heap.size w y2) := HBW.out.trans (hbz.mono HBW.out.size)
       have H5 : Hid (Reads y2 v5 t) := hr5
       clear hbz hr5)
    | (clear tk3; with_reducible refine wpSeq_loadD (.tmp 2) gx x ?_ ?_ ?_ ?_ ?_ ?_
       · exact HN.out.1
       · exact HX.out
       · rfl
       · rfl
       · rfl)
    | (clear tk4; go_at_call 10; refine (HC2.out y2 HBW.out).mono ?_; rintro e y3 ⟨v12, rfl, hr12, hbz⟩
       replace HX : Hid (Blk y3 gx (cb x) 23) := HX.out.below hbz HX.out.lt
       replace H5 : Hid (Reads y3 v5 t) := H5.out.below hbz
       replace HBW : Hid (Below w.heap.size w y3) := HBW.out.trans (hbz.mono HBW.out.size)
       have H12 : Hid (Reads y3 v12 t) := hr12
       clear hbz hr12)
    | (clear tk5; go_at_call 9; refine (rsame_b v5 v12 t t y3 H5.out H12.out).mono ?_; rintro e y4 ⟨rfl, hbz⟩
       replace HX : Hid (Blk y4 gx (cb x) 23) := HX.out.below hbz HX.out.lt
       replace H5 : Hid (Reads y4 v5 t) := H5.out.below hbz
       replace HBW : Hid (Below w.heap.size w y4) := HBW.out.trans (hbz.mono HBW.out.size)
       rw [decide_eq_true rfl]
       clear H12
       clear hbz )
    | (clear tk6; with_reducible refine wpSeq_loadD (.tmp 2) gx x ?_ ?_ ?_ ?_ ?_ ?_
       · exact HN.out.1
       · exact HX.out
       · rfl
       · rfl
       · rfl)
    | (clear tk7; go_at_call 11; refine (HC3.out y4 HBW.out).mono ?_; rintro e y5 ⟨rfl, hbz⟩
       replace HX : Hid (Blk y5 gx (cb x) 23) := HX.out.below hbz HX.out.lt
       replace H5 : Hid (Reads y5 v5 t) := H5.out.below hbz
       replace HBW : Hid (Below w.heap.size w y5) := HBW.out.trans (hbz.mono HBW.out.size)
       clear hbz )
    | (clear tk8; go_at_call 12; refine (HC4.out y5 v5 H5.out).mono ?_; rintro e y6 ⟨rfl, hbz⟩
       replace HX : Hid (Blk y6 gx (cb x) 23) := HX.out.below hbz HX.out.lt
       replace H5 : Hid (Reads y6 v5 t) := H5.out.below hbz
       replace HBW : Hid (Below w.heap.size w y6) := HBW.out.trans (hbz.mono HBW.out.size)
       clear hbz )
    | (clear tk9; go_at_call 13; refine (HWK.out y6 HBW.out).mono ?_; rintro e y7 ⟨rfl, hbz⟩
       replace HX : Hid (Blk y7 gx (cb x) 23) := HX.out.below hbz HX.out.lt
       replace H5 : Hid (Reads y7 v5 t) := H5.out.below hbz
       replace HBW : Hid (Below w.heap.size w y7) := HBW.out.trans (hbz.mono HBW.out.size)
       clear hbz ))
  go_ret
  exact ⟨rfl, HBW.out⟩
set_option maxRecDepth 100000 in
set_option maxHeartbeats 8000000 in
theorem lamportSigns_law (hO : LmOps) (x : List (BitVec 8)) (key : Nat) (vb : Value) (b : List (BitVec 8)) (w : World) (hK : KOk w) (hn : x.length = 32 ∧ key < 18446744073709551616) (hb : Reads w vb b) :
    Calls Tryd.prog 4 #[.agg (cb x).toArray, .int .u64 (key : Int), vb] w fun e w' => e = .returned (.bool true) ∧ Below w.heap.size w w' := by
  have HLG : Hid (∀ W : World, Below w.heap.size w W → Calls Tryd.prog 14 #[vb] W fun e w' => e = .returned (.bool (decide (32768 < b.length))) ∧ Below W.heap.size W w') := fun W hh => long10_any vb b W (hb.below hh)
  have HWK : Hid (∀ W : World, Below w.heap.size w W → Calls Tryd.prog 13 #[] W fun e w' => e = .returned (.bool true) ∧ Below W.heap.size W w') := fun W hh => works10_any hO W (hK.below hh hK.lt)
  have HN : Hid (x.length = 32 ∧ key < 18446744073709551616) := hn
  have HBW : Hid (Below w.heap.size w w) := Below.refl _ _
  obtain ⟨ab, cbb, hvb, hqb⟩ := id hb
  clear hqb
  obtain ⟨nb, HNB⟩ : ∃ n, Hid (n = b.length) := ⟨_, rfl⟩
  rw [← HNB.out] at hvb
  by_cases hlb : 32768 < b.length
  · subst hvb
    clear hO hK hn hb
    go_enter Tryd.func4, Tryd.ntmps4
    have tk0 : Hid True := trivial
    have tk1 : Hid True := trivial
    have tk2 : Hid True := trivial
    go_wp2_with (first
      | (clear tk0; with_reducible refine wpSeq_boxD (.tmp 0) x ?_ ?_ ?_ ?_
         · rfl
         · rfl
         · rfl
         intro gx y1 nn
         replace HBW : Hid (Below w.heap.size w y1) := HBW.out.trans (nn.below.mono HBW.out.size)
         have HX : Hid (Blk y1 gx (cb x) 23) := nn.blk
         clear nn)
      | (clear tk1; go_at_call 14; refine (HLG.out y1 HBW.out).mono ?_; rintro e y2 ⟨rfl, hbz⟩
         replace HX : Hid (Blk y2 gx (cb x) 23) := HX.out.below hbz HX.out.lt
         replace HBW : Hid (Below w.heap.size w y2) := HBW.out.trans (hbz.mono HBW.out.size)
         rw [decide_eq_true hlb]
         clear hbz )
      | (clear tk2; go_at_call 13; refine (HWK.out y2 HBW.out).mono ?_; rintro e y3 ⟨rfl, hbz⟩
         replace HX : Hid (Blk y3 gx (cb x) 23) := HX.out.below hbz HX.out.lt
         replace HBW : Hid (Below w.heap.size w y3) := HBW.out.trans (hbz.mono HBW.out.size)
         clear hbz ))
    go_ret
    exact ⟨rfl, HBW.out⟩
  · obtain ⟨s, HSD⟩ : ∃ t, Hid (t = signR (partB x key) (bt (dig b)) 256) := ⟨_, rfl⟩
    have HSL : Hid (s.length = 16384) := by show _ = _; rw [HSD.out, len_signR (len_partB x key)]
    obtain ⟨r, HRD⟩ : ∃ r, Hid (r = dig (textR (partB x key) 256)) := ⟨_, rfl⟩
    have HRL : Hid (r.length = 32) := by show _ = _; rw [HRD.out]; exact len_dig' _
    have HC1 : Hid (∀ W : World, Below w.heap.size w W → Calls Tryd.prog 15 #[.agg (cb x).toArray, .int .u64 (key : Int), vb] W fun e w' => ∃ v, e = .returned v ∧ Reads w' v s ∧ Below W.heap.size W w') := fun W hh => by rw [HSD.out]; exact hO.sign W x key vb b (hK.below hh hK.lt) hn (hb.below hh) (by omega)
    have HC2 : Hid (∀ W : World, Below w.heap.size w W → Calls Tryd.prog 16 #[.agg (cb x).toArray, .int .u64 (key : Int), vb] W fun e w' => ∃ v, e = .returned v ∧ Reads w' v s ∧ Below W.heap.size W w') := fun W hh => by rw [HSD.out]; exact qlSign_any x key vb b W hn (hb.below hh) (by omega)
    have HC3 : Hid (∀ W : World, Below w.heap.size w W → Calls Tryd.prog 18 #[.agg (cb x).toArray, .int .u64 (key : Int)] W fun e w' => e = .returned (.agg (cb r).toArray) ∧ Below W.heap.size W w') := fun W hh => by rw [HRD.out]; exact qlPublic_any x key W hn
    have HC4 : Hid (∀ W : World, Below w.heap.size w W → ∀ v, Reads W v s → Calls Tryd.prog 17 #[.agg (cb r).toArray, vb, v] W fun e w' => e = .returned (.int .i64 0) ∧ Below W.heap.size W w') := fun W hh v hv => by
      have h := hO.check W r vb v b s (hK.below hh hK.lt) HRL.out (hb.below hh) hv (by omega)
      rwa [HRD.out, HSD.out, check_sign x key b, ← HRD.out] at h
    subst hvb
    clear hO hK hn hb HSD HRD
    go_enter Tryd.func4, Tryd.ntmps4
    have tk0 : Hid True := trivial
    have tk1 : Hid True := trivial
    have tk2 : Hid True := trivial
    have tk3 : Hid True := trivial
    have tk4 : Hid True := trivial
    have tk5 : Hid True := trivial
    have tk6 : Hid True := trivial
    have tk7 : Hid True := trivial
    have tk8 : Hid True := trivial
    have tk9 : Hid True := trivial
    have tk10 : Hid True := trivial
    go_wp2_with (first
      | (clear tk0; with_reducible refine wpSeq_boxD (.tmp 0) x ?_ ?_ ?_ ?_
         · rfl
         · rfl
         · rfl
         intro gx y1 nn
         replace HBW : Hid (Below w.heap.size w y1) := HBW.out.trans (nn.below.mono HBW.out.size)
         have HX : Hid (Blk y1 gx (cb x) 23) := nn.blk
         clear nn)
      | (clear tk1; go_at_call 14; refine (HLG.out y1 HBW.out).mono ?_; rintro e y2 ⟨rfl, hbz⟩
         replace HX : Hid (Blk y2 gx (cb x) 23) := HX.out.below hbz HX.out.lt
         replace HBW : Hid (Below w.heap.size w y2) := HBW.out.trans (hbz.mono HBW.out.size)
         rw [decide_eq_false hlb]
         clear hbz )
      | (clear tk2; with_reducible refine wpSeq_loadD (.tmp 3) gx x ?_ ?_ ?_ ?_ ?_ ?_
         · exact HN.out.1
         · exact HX.out
         · rfl
         · rfl
         · rfl)
      | (clear tk3; go_at_call 15; refine (HC1.out y2 HBW.out).mono ?_; rintro e y3 ⟨v7, rfl, hr7, hbz⟩
         replace HX : Hid (Blk y3 gx (cb x) 23) := HX.out.below hbz HX.out.lt
         replace HBW : Hid (Below w.heap.size w y3) := HBW.out.trans (hbz.mono HBW.out.size)
         obtain ⟨a7, c7, hv7, hq7⟩ := id hr7
         rw [HSL.out] at hv7
         subst hv7
         have H7 : Hid (Reads y3 (.slice a7 16384 c7) s) := hr7
         clear hbz hr7 hq7)
      | (clear tk4; with_reducible refine wpSeq_loadD (.tmp 3) gx x ?_ ?_ ?_ ?_ ?_ ?_
         · exact HN.out.1
         · exact HX.out
         · rfl
         · rfl
         · rfl)
      | (clear tk5; go_at_call 16; refine (HC2.out y3 HBW.out).mono ?_; rintro e y4 ⟨v12, rfl, hr12, hbz⟩
         replace HX : Hid (Blk y4 gx (cb x) 23) := HX.out.below hbz HX.out.lt
         replace H7 : Hid (Reads y4 (.slice a7 16384 c7) s) := H7.out.below hbz
         replace HBW : Hid (Below w.heap.size w y4) := HBW.out.trans (hbz.mono HBW.out.size)
         have H12 : Hid (Reads y4 v12 s) := hr12
         clear hbz hr12)
      | (clear tk6; go_at_call 9; refine (rsame_b _ v12 s s y4 H7.out H12.out).mono ?_; rintro e y5 ⟨rfl, hbz⟩
         replace HX : Hid (Blk y5 gx (cb x) 23) := HX.out.below hbz HX.out.lt
         replace H7 : Hid (Reads y5 (.slice a7 16384 c7) s) := H7.out.below hbz
         replace HBW : Hid (Below w.heap.size w y5) := HBW.out.trans (hbz.mono HBW.out.size)
         rw [decide_eq_true rfl]
         clear H12
         clear hbz )
      | (clear tk7; with_reducible refine wpSeq_loadD (.tmp 3) gx x ?_ ?_ ?_ ?_ ?_ ?_
         · exact HN.out.1
         · exact HX.out
         · rfl
         · rfl
         · rfl)
      | (clear tk8; go_at_call 18; refine (HC3.out y5 HBW.out).mono ?_; rintro e y6 ⟨rfl, hbz⟩
         replace HX : Hid (Blk y6 gx (cb x) 23) := HX.out.below hbz HX.out.lt
         replace H7 : Hid (Reads y6 (.slice a7 16384 c7) s) := H7.out.below hbz
         replace HBW : Hid (Below w.heap.size w y6) := HBW.out.trans (hbz.mono HBW.out.size)
         clear hbz )
      | (clear tk9; go_at_call 17; refine (HC4.out y6 HBW.out _ H7.out).mono ?_; rintro e y7 ⟨rfl, hbz⟩
         replace HX : Hid (Blk y7 gx (cb x) 23) := HX.out.below hbz HX.out.lt
         replace H7 : Hid (Reads y7 (.slice a7 16384 c7) s) := H7.out.below hbz
         replace HBW : Hid (Below w.heap.size w y7) := HBW.out.trans (hbz.mono HBW.out.size)
         clear hbz )
      | (clear tk10; go_at_call 13; refine (HWK.out y7 HBW.out).mono ?_; rintro e y8 ⟨rfl, hbz⟩
         replace HX : Hid (Blk y8 gx (cb x) 23) := HX.out.below hbz HX.out.lt
         replace H7 : Hid (Reads y8 (.slice a7 16384 c7) s) := H7.out.below hbz
         replace HBW : Hid (Below w.heap.size w y8) := HBW.out.trans (hbz.mono HBW.out.size)
         clear hbz ))
    go_ret
    exact ⟨rfl, HBW.out⟩
end Go.Proofs.YtaogafadnkheeaaDoor
/- LamportOpens, over what lamport's functions do (layer 10). -/
namespace Go.Proofs.YtaogafadnkheeaaDoor
open Go.RowKit
set_option maxRecDepth 100000
theorem check_open (b sig : List (BitVec 8)) : checkE (dig (openL b sig)) b sig = openE sig := by
  unfold checkE openL openE
  by_cases h : sig.length = 16384
  · simp [h]
  · simp [h]
set_option maxRecDepth 100000 in
set_option maxHeartbeats 8000000 in
theorem lamportOpens_law (hO : LmOps) (p : List (BitVec 8)) (vb vs : Value) (b sig : List (BitVec 8)) (w : World) (hK : KOk w) (hp : p.length = 32) (hb : Reads w vb b) (hs : Reads w vs sig) :
    Calls Tryd.prog 5 #[.agg (cb p).toArray, vb, vs] w fun e w' => e = .returned (.bool true) ∧ Below w.heap.size w w' := by
  have HLB : Hid (∀ W : World, Below w.heap.size w W → Calls Tryd.prog 14 #[vb] W fun e w' => e = .returned (.bool (decide (32768 < b.length))) ∧ Below W.heap.size W w') := fun W hh => long10_any vb b W (hb.below hh)
  have HLS : Hid (∀ W : World, Below w.heap.size w W → Calls Tryd.prog 14 #[vs] W fun e w' => e = .returned (.bool (decide (32768 < sig.length))) ∧ Below W.heap.size W w') := fun W hh => long10_any vs sig W (hs.below hh)
  have HWK : Hid (∀ W : World, Below w.heap.size w W → Calls Tryd.prog 13 #[] W fun e w' => e = .returned (.bool true) ∧ Below W.heap.size W w') := fun W hh => works10_any hO W (hK.below hh hK.lt)
  have HPL : Hid (p.length = 32) := hp
  have HBW : Hid (Below w.heap.size w w) := Below.refl _ _
  obtain ⟨ab, cbb, hvb, hqb⟩ := id hb
  obtain ⟨ads, cps, hvs, hqs⟩ := id hs
  clear hqb hqs
  obtain ⟨nb, HNB⟩ : ∃ n, Hid (n = b.length) := ⟨_, rfl⟩
  rw [← HNB.out] at hvb
  obtain ⟨ns, HNS⟩ : ∃ n, Hid (n = sig.length) := ⟨_, rfl⟩
  rw [← HNS.out] at hvs
  by_cases hlb : 32768 < b.length
  · subst hvb hvs
    clear hO hK hp hb hs
    go_enter Tryd.func5, Tryd.ntmps5
    have tk0 : Hid True := trivial
    have tk1 : Hid True := trivial
    have tk2 : Hid True := trivial
    go_wp2_with (first
      | (clear tk0; with_reducible refine wpSeq_boxD (.tmp 0) p ?_ ?_ ?_ ?_
         · rfl
         · rfl
         · rfl
         intro gp y1 nn
         replace HBW : Hid (Below w.heap.size w y1) := HBW.out.trans (nn.below.mono HBW.out.size)
         have HP : Hid (Blk y1 gp (cb p) 23) := nn.blk
         clear nn)
      | (clear tk1; go_at_call 14; refine (HLB.out y1 HBW.out).mono ?_; rintro e y2 ⟨rfl, hbz⟩
         replace HP : Hid (Blk y2 gp (cb p) 23) := HP.out.below hbz HP.out.lt
         replace HBW : Hid (Below w.heap.size w y2) := HBW.out.trans (hbz.mono HBW.out.size)
         rw [decide_eq_true hlb]
         clear hbz )
      | (clear tk2; go_at_call 13; refine (HWK.out y2 HBW.out).mono ?_; rintro e y3 ⟨rfl, hbz⟩
         replace HP : Hid (Blk y3 gp (cb p) 23) := HP.out.below hbz HP.out.lt
         replace HBW : Hid (Below w.heap.size w y3) := HBW.out.trans (hbz.mono HBW.out.size)
         clear hbz ))
    go_ret
    exact ⟨rfl, HBW.out⟩
  · by_cases hls : 32768 < sig.length
    · subst hvb hvs
      clear hO hK hp hb hs
      go_enter Tryd.func5, Tryd.ntmps5
      have tk0 : Hid True := trivial
      have tk1 : Hid True := trivial
      have tk2 : Hid True := trivial
      have tk3 : Hid True := trivial
      go_wp2_with (first
        | (clear tk0; with_reducible refine wpSeq_boxD (.tmp 0) p ?_ ?_ ?_ ?_
           · rfl
           · rfl
           · rfl
           intro gp y1 nn
           replace HBW : Hid (Below w.heap.size w y1) := HBW.out.trans (nn.below.mono HBW.out.size)
           have HP : Hid (Blk y1 gp (cb p) 23) := nn.blk
           clear nn)
        | (clear tk1; go_at_call 14; refine (HLB.out y1 HBW.out).mono ?_; rintro e y2 ⟨rfl, hbz⟩
           replace HP : Hid (Blk y2 gp (cb p) 23) := HP.out.below hbz HP.out.lt
           replace HBW : Hid (Below w.heap.size w y2) := HBW.out.trans (hbz.mono HBW.out.size)
           rw [decide_eq_false hlb]
           clear hbz )
        | (clear tk2; go_at_call 14; refine (HLS.out y2 HBW.out).mono ?_; rintro e y3 ⟨rfl, hbz⟩
           replace HP : Hid (Blk y3 gp (cb p) 23) := HP.out.below hbz HP.out.lt
           replace HBW : Hid (Below w.heap.size w y3) := HBW.out.trans (hbz.mono HBW.out.size)
           rw [decide_eq_true hls]
           clear hbz )
        | (clear tk3; go_at_call 13; refine (HWK.out y3 HBW.out).mono ?_; rintro e y4 ⟨rfl, hbz⟩
           replace HP : Hid (Blk y4 gp (cb p) 23) := HP.out.below hbz HP.out.lt
           replace HBW : Hid (Below w.heap.size w y4) := HBW.out.trans (hbz.mono HBW.out.size)
           clear hbz ))
      go_ret
      exact ⟨rfl, HBW.out⟩
    · obtain ⟨ol, HOL⟩ : ∃ t, Hid (t = openL b sig) := ⟨_, rfl⟩
      obtain ⟨er, HER⟩ : ∃ t, Hid (t = openE sig) := ⟨_, rfl⟩
      obtain ⟨ce, HCE⟩ : ∃ t, Hid (t = checkE p b sig) := ⟨_, rfl⟩
      obtain ⟨r, HRD⟩ : ∃ r, Hid (r = dig ol) := ⟨_, rfl⟩
      have HRL : Hid (r.length = 32) := by show _ = _; rw [HRD.out]; exact len_dig' _
      have HOLL : Hid (ol.length ≤ 16385) := by
        show _ ≤ _
        rw [HOL.out]
        unfold openL
        by_cases h : sig.length = 16384
        · rw [if_pos h, len_openR _ (by omega)]; omega
        · rw [if_neg h]; simp
      have HC0 : Hid (∀ (W : World) (va vb : Value), Reads W va ol → Reads W vb ol → Calls Tryd.prog 9 #[va, vb] W fun e w' => e = .returned (.bool true) ∧ Below W.heap.size W w') := fun W va vb h1 h2 => (rsame_b va vb ol ol W h1 h2).mono fun e w' h => ⟨by rw [h.1, decide_eq_true rfl], h.2⟩
      have HC1 : Hid (∀ W : World, Below w.heap.size w W → Calls Tryd.prog 19 #[vb, vs] W (OpenA W b sig)) := fun W hh => hO.opened W vb vs b sig (hK.below hh hK.lt) (hb.below hh) (hs.below hh) (by omega)
      have HC2 : Hid (∀ W : World, Below w.heap.size w W → Calls Tryd.prog 20 #[vb, vs] W (OpenA W b sig)) := fun W hh => qlOpened_any vb vs b sig W (hb.below hh) (hs.below hh) (by omega)
      have HC3 : Hid (∀ W : World, Below w.heap.size w W → Calls Tryd.prog 17 #[.agg (cb p).toArray, vb, vs] W fun e w' => e = .returned (.int .i64 ce) ∧ Below W.heap.size W w') := fun W hh => by rw [HCE.out]; exact hO.check W p vb vs b sig (hK.below hh hK.lt) hp (hb.below hh) (hs.below hh) (by omega)
      have HC4 : Hid (∀ W : World, Below w.heap.size w W → Calls Tryd.prog 21 #[.agg (cb p).toArray, vb, vs] W fun e w' => e = .returned (.int .i64 ce) ∧ Below W.heap.size W w') := fun W hh => by rw [HCE.out]; exact qlCheck_any p vb vs b sig W hp (hb.below hh) (hs.below hh) (by omega)
      have HC5 : Hid (∀ (W : World) (v : Value), Reads W v ol → Calls Tryd.prog 12 #[v] W fun e w' => e = .returned (.agg (cb r).toArray) ∧ Below W.heap.size W w') := fun W v hv => by rw [HRD.out]; exact rOf_any v ol W hv (by have := HOLL.out; omega)
      have HC6 : Hid (∀ W : World, Below w.heap.size w W → Calls Tryd.prog 17 #[.agg (cb r).toArray, vb, vs] W fun e w' => e = .returned (.int .i64 er) ∧ Below W.heap.size W w') := fun W hh => by
        have h := hO.check W r vb vs b sig (hK.below hh hK.lt) HRL.out (hb.below hh) (hs.below hh) (by omega)
        rwa [HRD.out, HOL.out, check_open b sig, ← HER.out, ← HOL.out, ← HRD.out] at h
      subst hvb hvs
      clear hO hK hp hb hs HRD HCE HOLL
      go_enter Tryd.func5, Tryd.ntmps5
      have tk0 : Hid True := trivial
      have tk1 : Hid True := trivial
      have tk2 : Hid True := trivial
      have tk3 : Hid True := trivial
      have tk4 : Hid True := trivial
      go_upto_region 5 with (first
        | (clear tk0; with_reducible refine wpSeq_boxD (.tmp 0) p ?_ ?_ ?_ ?_
           · rfl
           · rfl
           · rfl
           intro gp y1 nn
           replace HBW : Hid (Below w.heap.size w y1) := HBW.out.trans (nn.below.mono HBW.out.size)
           have HP : Hid (Blk y1 gp (cb p) 23) := nn.blk
           clear nn)
        | (clear tk1; go_at_call 14; refine (HLB.out y1 HBW.out).mono ?_; rintro e y2 ⟨rfl, hbz⟩
           replace HP : Hid (Blk y2 gp (cb p) 23) := HP.out.below hbz HP.out.lt
           replace HBW : Hid (Below w.heap.size w y2) := HBW.out.trans (hbz.mono HBW.out.size)
           rw [decide_eq_false hlb]
           clear hbz )
        | (clear tk2; go_at_call 14; refine (HLS.out y2 HBW.out).mono ?_; rintro e y3 ⟨rfl, hbz⟩
           replace HP : Hid (Blk y3 gp (cb p) 23) := HP.out.below hbz HP.out.lt
           replace HBW : Hid (Below w.heap.size w y3) := HBW.out.trans (hbz.mono HBW.out.size)
           rw [decide_eq_false hls]
           clear hbz )
        | (clear tk3; go_at_call 19; refine (HC1.out y3 HBW.out).mono ?_; rintro e y4 ⟨v7, rfl, hr7, hbz⟩
           replace HP : Hid (Blk y4 gp (cb p) 23) := HP.out.below hbz HP.out.lt
           replace HBW : Hid (Below w.heap.size w y4) := HBW.out.trans (hbz.mono HBW.out.size)
           have H7 : Hid (Reads y4 v7 ol) := by show Reads _ _ _; rw [HOL.out]; exact hr7
           rw [← HER.out]
           clear hbz hr7)
        | (clear tk4; go_at_call 20; refine (HC2.out y4 HBW.out).mono ?_; rintro e y5 ⟨v9, rfl, hr9, hbz⟩
           replace HP : Hid (Blk y5 gp (cb p) 23) := HP.out.below hbz HP.out.lt
           replace H7 : Hid (Reads y5 v7 ol) := H7.out.below hbz
           replace HBW : Hid (Below w.heap.size w y5) := HBW.out.trans (hbz.mono HBW.out.size)
           have H9 : Hid (Reads y5 v9 ol) := by show Reads _ _ _; rw [HOL.out]; exact hr9
           rw [← HER.out]
           clear hbz hr9))
      have HYB : Hid (Below w.heap.size w (World.drew y5)) := HBW.out.drew
      replace HP : Hid (Blk (World.drew y5) gp (cb p) 23) := HP.out.drew
      replace H7 : Hid (Reads (World.drew y5) v7 ol) := reads_drew H7.out
      replace H9 : Hid (Reads (World.drew y5) v9 ol) := reads_drew H9.out
      clear HBW
      refine wp_region_held_drew (S := Over (World.drew y5)) (by kernel_rfl) (Over.refl _) ?_
      intro hS
      change wpAnyH _ _ _ _ _ _ _ _ (World.drew y5)
      generalize World.drew y5 = y0 at *
      refine wpAnyH_take (i := 0) (v := v7) rfl (by kernel_rfl) (by kernel_rfl) (by kernel_rfl) (fun _ _ _ h => h) (Or.inl ⟨by rfl, fun wx hx => by simp [go_sem]⟩) hS ?_
      simp only [Act.put, List.getElem_toArray, List.getElem_cons_zero, List.setIfInBounds_toArray, List.set_cons_zero, List.set_cons_succ]
      refine wpAnyH_take (i := 1) (v := v9) rfl (by kernel_rfl) (by kernel_rfl) (by kernel_rfl) (fun _ _ _ h => h) (Or.inl ⟨by rfl, fun wx hx => by simp [go_sem]⟩) hS ?_
      simp only [Act.put, List.getElem_toArray, List.getElem_cons_succ, List.getElem_cons_zero, List.setIfInBounds_toArray, List.set_cons_zero, List.set_cons_succ]
      refine wpAnyH_enter 2 (by kernel_rfl) rfl (by rfl) (f := 9) (args := #[v7, v9]) (by simp [go_sem]) (HC0.out _ v7 v9 (H7.out.below hS) (H9.out.below hS)) ?_
      rintro e x1 ⟨rfl, hbq⟩
      replace hS := Over.more hS hbq
      refine ⟨_, rfl, hS, ?_⟩
      clear hbq
      simp only [Act.put, List.getElem_toArray, List.getElem_cons_succ, List.getElem_cons_zero, List.setIfInBounds_toArray, List.set_cons_zero, List.set_cons_succ]
      refine wpAnyH_take (i := 3) (v := .bool true) rfl (by kernel_rfl) (by kernel_rfl) (by kernel_rfl) (fun _ _ _ h => h) (Or.inl ⟨by rfl, fun wx hx => by simp [go_sem]⟩) hS ?_
      simp only [Act.put, List.getElem_toArray, List.getElem_cons_succ, List.getElem_cons_zero, List.setIfInBounds_toArray, List.set_cons_zero, List.set_cons_succ]
      refine wpAnyH_take (i := 4) (v := .int .i64 er) rfl (by kernel_rfl) (by kernel_rfl) (by kernel_rfl) (fun _ _ _ h => h) (Or.inl ⟨by rfl, fun wx hx => by simp [go_sem]⟩) hS ?_
      simp only [Act.put, List.getElem_toArray, List.getElem_cons_succ, List.getElem_cons_zero, List.setIfInBounds_toArray, List.set_cons_zero, List.set_cons_succ]
      refine wpAnyH_take (i := 5) (v := .int .i64 er) rfl (by kernel_rfl) (by kernel_rfl) (by kernel_rfl) (fun _ _ _ h => h) (Or.inl ⟨by rfl, fun wx hx => by simp [go_sem]⟩) hS ?_
      simp only [Act.put, List.getElem_toArray, List.getElem_cons_succ, List.getElem_cons_zero, List.setIfInBounds_toArray, List.set_cons_zero, List.set_cons_succ]
      refine wpAnyH_take (i := 6) (v := .bool true) rfl (by kernel_rfl) (by kernel_rfl) (by kernel_rfl) (fun _ _ _ h => h) (Or.inl ⟨by rfl, fun wx hx => by simp [go_sem]⟩) hS ?_
      simp only [Act.put, List.getElem_toArray, List.getElem_cons_succ, List.getElem_cons_zero, List.setIfInBounds_toArray, List.set_cons_zero, List.set_cons_succ]
      refine wpAnyH_take (i := 7) (v := .bool true) rfl (by kernel_rfl) (by kernel_rfl) (by kernel_rfl) (fun _ _ _ h => h) (Or.inl ⟨by rfl, fun wx hx => by simp [go_sem]⟩) hS ?_
      simp only [Act.put, List.getElem_toArray, List.getElem_cons_succ, List.getElem_cons_zero, List.setIfInBounds_toArray, List.set_cons_zero, List.set_cons_succ]
      refine wpAnyH_take (i := 8) (v := .bool true) rfl (by kernel_rfl) (by kernel_rfl) (by kernel_rfl) (fun _ _ _ h => h) (Or.inl ⟨by rfl, fun wx hx => by simp [go_sem]⟩) hS ?_
      simp only [Act.put, List.getElem_toArray, List.getElem_cons_succ, List.getElem_cons_zero, List.setIfInBounds_toArray, List.set_cons_zero, List.set_cons_succ]
      refine wpAnyH_take (i := 9) (v := .agg (cb p).toArray) rfl (by kernel_rfl) (by kernel_rfl) (by kernel_rfl) (fun _ _ _ h => h) (Or.inl ⟨by rfl, fun wx hx => by exact loadDigest _ gp p HPL.out (HP.out.below hx HP.out.lt) rfl rfl⟩) hS ?_
      simp only [Act.put, List.getElem_toArray, List.getElem_cons_succ, List.getElem_cons_zero, List.setIfInBounds_toArray, List.set_cons_zero, List.set_cons_succ]
      refine wpAnyH_take (i := 10) (v := .slice ab nb cbb) rfl (by kernel_rfl) (by kernel_rfl) (by kernel_rfl) (fun _ _ _ h => h) (Or.inl ⟨by rfl, fun wx hx => by simp [go_sem]⟩) hS ?_
      simp only [Act.put, List.getElem_toArray, List.getElem_cons_succ, List.getElem_cons_zero, List.setIfInBounds_toArray, List.set_cons_zero, List.set_cons_succ]
      refine wpAnyH_take (i := 11) (v := .slice ads ns cps) rfl (by kernel_rfl) (by kernel_rfl) (by kernel_rfl) (fun _ _ _ h => h) (Or.inl ⟨by rfl, fun wx hx => by simp [go_sem]⟩) hS ?_
      simp only [Act.put, List.getElem_toArray, List.getElem_cons_succ, List.getElem_cons_zero, List.setIfInBounds_toArray, List.set_cons_zero, List.set_cons_succ]
      refine wpAnyH_take (i := 13) (v := .agg (cb p).toArray) rfl (by kernel_rfl) (by kernel_rfl) (by kernel_rfl) (fun _ _ _ h => h) (Or.inl ⟨by rfl, fun wx hx => by exact loadDigest _ gp p HPL.out (HP.out.below hx HP.out.lt) rfl rfl⟩) hS ?_
      simp only [Act.put, List.getElem_toArray, List.getElem_cons_succ, List.getElem_cons_zero, List.setIfInBounds_toArray, List.set_cons_zero, List.set_cons_succ]
      refine wpAnyH_take (i := 14) (v := .slice ab nb cbb) rfl (by kernel_rfl) (by kernel_rfl) (by kernel_rfl) (fun _ _ _ h => h) (Or.inl ⟨by rfl, fun wx hx => by simp [go_sem]⟩) hS ?_
      simp only [Act.put, List.getElem_toArray, List.getElem_cons_succ, List.getElem_cons_zero, List.setIfInBounds_toArray, List.set_cons_zero, List.set_cons_succ]
      refine wpAnyH_take (i := 15) (v := .slice ads ns cps) rfl (by kernel_rfl) (by kernel_rfl) (by kernel_rfl) (fun _ _ _ h => h) (Or.inl ⟨by rfl, fun wx hx => by simp [go_sem]⟩) hS ?_
      simp only [Act.put, List.getElem_toArray, List.getElem_cons_succ, List.getElem_cons_zero, List.setIfInBounds_toArray, List.set_cons_zero, List.set_cons_succ]
      refine wpAnyH_enter 12 (by kernel_rfl) rfl (by rfl) (f := 17) (args := #[.agg (cb p).toArray, .slice ab nb cbb, .slice ads ns cps]) (by simp [go_sem]) (HC3.out _ (HYB.out.trans (Below.mono hS HYB.out.size))) ?_
      rintro e x2 ⟨rfl, hbq⟩
      replace hS := Over.more hS hbq
      refine ⟨_, rfl, hS, ?_⟩
      clear hbq
      simp only [Act.put, List.getElem_toArray, List.getElem_cons_succ, List.getElem_cons_zero, List.setIfInBounds_toArray, List.set_cons_zero, List.set_cons_succ]
      refine wpAnyH_enter 16 (by kernel_rfl) rfl (by rfl) (f := 21) (args := #[.agg (cb p).toArray, .slice ab nb cbb, .slice ads ns cps]) (by simp [go_sem]) (HC4.out _ (HYB.out.trans (Below.mono hS HYB.out.size))) ?_
      rintro e x3 ⟨rfl, hbq⟩
      replace hS := Over.more hS hbq
      refine ⟨_, rfl, hS, ?_⟩
      clear hbq
      simp only [Act.put, List.getElem_toArray, List.getElem_cons_succ, List.getElem_cons_zero, List.setIfInBounds_toArray, List.set_cons_zero, List.set_cons_succ]
      refine wpAnyH_take (i := 17) (v := .bool true) rfl (by kernel_rfl) (by kernel_rfl) (by kernel_rfl) (fun _ _ _ h => h) (Or.inl ⟨by rfl, fun wx hx => by simp [go_sem]⟩) hS ?_
      simp only [Act.put, List.getElem_toArray, List.getElem_cons_succ, List.getElem_cons_zero, List.setIfInBounds_toArray, List.set_cons_zero, List.set_cons_succ]
      refine wpAnyH_take (i := 18) (v := .bool true) rfl (by kernel_rfl) (by kernel_rfl) (by kernel_rfl) (fun _ _ _ h => h) (Or.inl ⟨by rfl, fun wx hx => by simp [go_sem]⟩) hS ?_
      simp only [Act.put, List.getElem_toArray, List.getElem_cons_succ, List.getElem_cons_zero, List.setIfInBounds_toArray, List.set_cons_zero, List.set_cons_succ]
      refine wpAnyH_take (i := 19) (v := .bool true) rfl (by kernel_rfl) (by kernel_rfl) (by kernel_rfl) (fun _ _ _ h => h) (Or.inl ⟨by rfl, fun wx hx => by simp [go_sem]⟩) hS ?_
      simp only [Act.put, List.getElem_toArray, List.getElem_cons_succ, List.getElem_cons_zero, List.setIfInBounds_toArray, List.set_cons_zero, List.set_cons_succ]
      refine wpAnyH_take (i := 20) (v := v7) rfl (by kernel_rfl) (by kernel_rfl) (by kernel_rfl) (fun _ _ _ h => h) (Or.inl ⟨by rfl, fun wx hx => by simp [go_sem]⟩) hS ?_
      simp only [Act.put, List.getElem_toArray, List.getElem_cons_succ, List.getElem_cons_zero, List.setIfInBounds_toArray, List.set_cons_zero, List.set_cons_succ]
      refine wpAnyH_take (i := 22) (v := .slice ab nb cbb) rfl (by kernel_rfl) (by kernel_rfl) (by kernel_rfl) (fun _ _ _ h => h) (Or.inl ⟨by rfl, fun wx hx => by simp [go_sem]⟩) hS ?_
      simp only [Act.put, List.getElem_toArray, List.getElem_cons_succ, List.getElem_cons_zero, List.setIfInBounds_toArray, List.set_cons_zero, List.set_cons_succ]
      refine wpAnyH_take (i := 23) (v := .slice ads ns cps) rfl (by kernel_rfl) (by kernel_rfl) (by kernel_rfl) (fun _ _ _ h => h) (Or.inl ⟨by rfl, fun wx hx => by simp [go_sem]⟩) hS ?_
      simp only [Act.put, List.getElem_toArray, List.getElem_cons_succ, List.getElem_cons_zero, List.setIfInBounds_toArray, List.set_cons_zero, List.set_cons_succ]
      refine wpAnyH_take (i := 25) (v := .int .i64 er) rfl (by kernel_rfl) (by kernel_rfl) (by kernel_rfl) (fun _ _ _ h => h) (Or.inl ⟨by rfl, fun wx hx => by simp [go_sem]⟩) hS ?_
      simp only [Act.put, List.getElem_toArray, List.getElem_cons_succ, List.getElem_cons_zero, List.setIfInBounds_toArray, List.set_cons_zero, List.set_cons_succ]
      refine wpAnyH_enter 21 (by kernel_rfl) rfl (by rfl) (f := 12) (args := #[v7]) (by simp [go_sem]) (HC5.out _ v7 (H7.out.below hS)) ?_
      rintro e x4 ⟨rfl, hbq⟩
      replace hS := Over.more hS hbq
      refine ⟨_, rfl, hS, ?_⟩
      clear hbq
      simp only [Act.put, List.getElem_toArray, List.getElem_cons_succ, List.getElem_cons_zero, List.setIfInBounds_toArray, List.set_cons_zero, List.set_cons_succ]
      refine wpAnyH_enter 24 (by kernel_rfl) rfl (by rfl) (f := 17) (args := #[.agg (cb r).toArray, .slice ab nb cbb, .slice ads ns cps]) (by simp [go_sem]) (HC6.out _ (HYB.out.trans (Below.mono hS HYB.out.size))) ?_
      rintro e x5 ⟨rfl, hbq⟩
      replace hS := Over.more hS hbq
      refine ⟨_, rfl, hS, ?_⟩
      clear hbq
      simp only [Act.put, List.getElem_toArray, List.getElem_cons_succ, List.getElem_cons_zero, List.setIfInBounds_toArray, List.set_cons_zero, List.set_cons_succ]
      refine wpAnyH_take (i := 26) (v := .bool true) rfl (by kernel_rfl) (by kernel_rfl) (by kernel_rfl) (fun _ _ _ h => h) (Or.inl ⟨by rfl, fun wx hx => by simp [go_sem]⟩) hS ?_
      simp only [Act.put, List.getElem_toArray, List.getElem_cons_succ, List.getElem_cons_zero, List.setIfInBounds_toArray, List.set_cons_zero, List.set_cons_succ]
      refine wpAnyH_take (i := 27) (v := .bool true) rfl (by kernel_rfl) (by kernel_rfl) (by kernel_rfl) (fun _ _ _ h => h) (Or.inl ⟨by rfl, fun wx hx => by simp [go_sem]⟩) hS ?_
      simp only [Act.put, List.getElem_toArray, List.getElem_cons_succ, List.getElem_cons_zero, List.setIfInBounds_toArray, List.set_cons_zero, List.set_cons_succ]
      refine wpAnyH_take (i := 28) (v := .bool true) rfl (by kernel_rfl) (by kernel_rfl) (by kernel_rfl) (fun _ _ _ h => h) (Or.inl ⟨by rfl, fun wx hx => by simp [go_sem]⟩) hS ?_
      simp only [Act.put, List.getElem_toArray, List.getElem_cons_succ, List.getElem_cons_zero, List.setIfInBounds_toArray, List.set_cons_zero, List.set_cons_succ]
      refine wpAnyH_enter 29 (by kernel_rfl) rfl (by rfl) (f := 13) (args := #[]) (by simp [go_sem]) (HWK.out _ (HYB.out.trans (Below.mono hS HYB.out.size))) ?_
      rintro e x6 ⟨rfl, hbq⟩
      replace hS := Over.more hS hbq
      refine ⟨_, rfl, hS, ?_⟩
      clear hbq
      simp only [Act.put, List.getElem_toArray, List.getElem_cons_succ, List.getElem_cons_zero, List.setIfInBounds_toArray, List.set_cons_zero, List.set_cons_succ]
      refine wpAnyH_take (i := 30) (v := .bool true) rfl (by kernel_rfl) (by kernel_rfl) (by kernel_rfl) (fun _ _ _ h => h) (Or.inl ⟨by rfl, fun wx hx => by simp [go_sem]⟩) hS ?_
      simp only [Act.put, List.getElem_toArray, List.getElem_cons_succ, List.getElem_cons_zero, List.setIfInBounds_toArray, List.set_cons_zero, List.set_cons_succ]
      refine wpAnyH_take (i := 31) (v := .bool true) rfl (by kernel_rfl) (by kernel_rfl) (by kernel_rfl) (fun _ _ _ h => h) (Or.inl ⟨by rfl, fun wx hx => by simp [go_sem]⟩) hS ?_
      simp only [Act.put, List.getElem_toArray, List.getElem_cons_succ, List.getElem_cons_zero, List.setIfInBounds_toArray, List.set_cons_zero, List.set_cons_succ]
      refine wpAnyH_done (by kernel_rfl) ?_ _
      have HBW : Hid (Below w.heap.size w x6) := (HYB.out.trans (Below.mono hS HYB.out.size))
      clear hS H7 H9 HP HYB HC1 HC2 HC3 HC4 HC5 HC6
      go_wp2
      go_ret
      exact ⟨rfl, HBW.out⟩
end Go.Proofs.YtaogafadnkheeaaDoor

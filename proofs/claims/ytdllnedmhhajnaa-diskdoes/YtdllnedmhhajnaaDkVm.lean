/- The program's disk in memory: sectors, writes that wait, its cells; what single operations do (layer 13). -/
import Derived.Test.YtdllnedmhhajnaaDkWr
import Derived.Great.BuildSlice
namespace Go.Proofs.Ytdllnedmhhajnaa
open Go.RowKit
set_option maxRecDepth 100000
/-- a reading, and what makes memory, in either order -/
theorem wpAnyH_comm {P : Program} {md : Region.Mode} {ops : Array Oper} {Q : Exit → Act → World → Prop} {S : World → Prop} {fuel : Nat} {listed : Array Bool} {a : Act} {w : World} (i j : Nat) {oi oj : Oper} (v u : Value) (w' : World)
    (hr : Region.ready md ops listed = [i, j]) (hi : ops[i]? = some oi) (hj : ops[j]? = some oj)
    (wi : Region.wanted oi (yielded ops a.tmps) = true) (wj : Region.wanted oj (yielded ops a.tmps) = true) (wi2 : Region.wanted oi (yielded ops (a.put oj.dst u).tmps) = true) (wj2 : Region.wanted oj (yielded ops (a.put oi.dst v).tmps) = true)
    (ei : (execOp a.eval oi).run P w = .ok (.value v) w) (ej : (execOp a.eval oj).run P w = .ok (.value u) w') (ei2 : (execOp (a.put oj.dst u).eval oi).run P w' = .ok (.value v) w') (ej2 : (execOp (a.put oi.dst v).eval oj).run P w = .ok (.value u) w')
    (hr1 : Region.ready md ops (listed.setIfInBounds i true) = [j]) (hr2 : Region.ready md ops (listed.setIfInBounds j true) = [i])
    (hp : (a.put oj.dst u).put oi.dst v = (a.put oi.dst v).put oj.dst u) (hl : (listed.setIfInBounds j true).setIfInBounds i true = (listed.setIfInBounds i true).setIfInBounds j true)
    (hS : S w) (hS' : S w') (h : wpAnyH P md ops Q S fuel ((listed.setIfInBounds i true).setIfInBounds j true) ((a.put oi.dst v).put oj.dst u) w') : wpAnyH P md ops Q S (fuel + 2) listed a w := by
  refine wpAnyH_all hr (by simp) (fun k hk => ?_)
  rcases List.mem_cons.1 hk with rfl | hk
  · exact wpOp_vl k v w hi wi ei ⟨hS, wpAnyH_step j u w' hr1 hj wj2 ej2 hS' h⟩
  · obtain rfl : k = j := by simpa using hk
    refine wpOp_vl k u w' hj wj ej ⟨hS', wpAnyH_step i v w' hr2 hi wi2 ei2 hS' ?_⟩
    rw [hl, hp]
    exact h

def zs64 : Bs := List.replicate 64 0
theorem len_zs64 : zs64.length = 64 := List.length_replicate ..
theorem Try.infoSc : (Try.prog.info? 70).map (fun i => (i.zero, i.size, i.bytes)) = some (some (.agg (cb zs64).toArray), 64, 64) := by kernel_rfl
theorem Try.infoDw : (Try.prog.info? 72).map (fun i => (i.zero, i.size, i.bytes)) = some (some (.agg (Value.int .i64 0 :: cb zs64).toArray), 65, 72) := by kernel_rfl
theorem size_sc : (Try.prog.info? 70).map (·.size) = some 64 := by kernel_rfl
theorem size_dw : (Try.prog.info? 72).map (·.size) = some 65 := by kernel_rfl
theorem size_dk : (Try.prog.info? 68).map (·.size) = some 5 := by kernel_rfl
/-- a write's cells -/
def wrC (p : Nat × Bs) : List Value := .int .i64 (p.1 : Int) :: cb p.2
theorem wrC_len {p : Nat × Bs} (h : p.2.length = 64) : (wrC p).length = 65 := by rw [wrC, List.length_cons, cb_len, h]
theorem wrC_one (p : Nat × Bs) : ∀ v ∈ wrC p, v.oneCell' = true := fun v hv => by
  rcases List.mem_cons.1 hv with rfl | hv
  · rfl
  · exact cb_one _ v hv
def flatV (l : List (Nat × Bs)) : List Value := (l.map wrC).flatten
theorem flatV_cons (p : Nat × Bs) (l : List (Nat × Bs)) : flatV (p :: l) = wrC p ++ flatV l := rfl
theorem flatV_snoc (l : List (Nat × Bs)) (p : Nat × Bs) : flatV (l ++ [p]) = flatV l ++ wrC p := by simp [flatV]
theorem flatV_at : ∀ (l : List (Nat × Bs)), (∀ p ∈ l, p.2.length = 64) → ∀ (j : Nat) (p : Nat × Bs), l[j]? = some p → ∀ i v, (wrC p)[i]? = some v → (flatV l)[j * 65 + i]? = some v
  | [], _, j, p, h, _, _, _ => by simp at h
  | q :: l, hl, 0, p, h, i, v, hv => by
    simp only [List.getElem?_cons_zero, Option.some.injEq] at h
    subst h
    have hi : i < (wrC q).length := (List.getElem?_eq_some_iff.1 hv).1
    rw [flatV_cons, Nat.zero_mul, Nat.zero_add, List.getElem?_append_left hi]
    exact hv
  | q :: l, hl, j + 1, p, h, i, v, hv => by
    simp only [List.getElem?_cons_succ] at h
    have := flatV_at l (fun x hx => hl x (by simp [hx])) j p h i v hv
    have hq := wrC_len (hl q (by simp))
    rw [flatV_cons, List.getElem?_append_right (by rw [hq]; omega), hq, show (j + 1) * 65 + i - 65 = j * 65 + i by omega]
    exact this
/-- the writes that wait -/
def OwnV (w : World) (v : Value) (l : List (Nat × Bs)) : Prop := w.ownsRow 0 72 65 v l.length (flatV l)
theorem OwnV.nil (w : World) : OwnV w (.slice none 0 0) [] := World.ownsRow_nil _ _ _ _
theorem OwnV.lt {w : World} {v : Value} {l : List (Nat × Bs)} (h : OwnV w v l) : ∀ k, v.ownBlock = some k → k < w.heap.size := fun k hk => (World.ownsRow.lt h k hk).2
theorem OwnV.same {w w' : World} {v : Value} {l : List (Nat × Bs)} (h : OwnV w v l) (hs : ∀ k, v.ownBlock = some k → w'.heap[k]? = w.heap[k]?) : OwnV w' v l := by
  rcases h with ⟨h1, ⟨rfl, h2⟩ | ⟨g, cap, cur, rfl, hg, hh, h3⟩⟩
  · exact ⟨h1, Or.inl ⟨rfl, h2⟩⟩
  · exact ⟨h1, Or.inr ⟨g, cap, cur, rfl, hg, by rw [hs g rfl]; exact hh, h3⟩⟩
theorem OwnV.ne {w : World} {v : Value} {l : List (Nat × Bs)} (h : OwnV w v l) {g : Nat} {cs : List Value} {t : TypeId} (hb : Blk w g cs t) (ht : t ≠ 72) : v.ownBlock ≠ some g := fun e => by
  rcases h with ⟨_, ⟨rfl, _⟩ | ⟨g', cap, cur, rfl, hg, hh, _⟩⟩
  · cases e
  · have e2 : g' = g := by simpa [Value.ownBlock] using e
    subst e2
    unfold Blk at hb
    rw [hh] at hb
    simp only [Option.some.injEq, Obj.cells.injEq] at hb
    exact ht hb.2.1.symm
theorem OwnV.form {w : World} {v : Value} {l : List (Nat × Bs)} (h : OwnV w v l) : ∃ ad c, v = .slice ad l.length c := by
  rcases h with ⟨_, ⟨rfl, h2⟩ | ⟨g', cap, cur, rfl, _⟩⟩
  · exact ⟨none, 0, by rw [h2]⟩
  · exact ⟨_, _, rfl⟩
/-- where the k-th write lies -/
theorem OwnV.at {w : World} {ad : Option Addr} {n c : Nat} {l : List (Nat × Bs)} (h : OwnV w (.slice ad n c) l) (hl : ∀ p ∈ l, p.2.length = 64) (hp : 0 < l.length) : ∃ b, ad = some ⟨b, 0, none⟩ ∧ ∀ j, j < l.length → w.rangeAt b (j * 65) (wrC (l.getD j (0, []))) := by
  obtain ⟨h1, h2⟩ := id h
  rcases h2 with ⟨_, h0⟩ | ⟨b, cap, cur, hv, _, hh, _, _, _, ht⟩
  · omega
  simp only [Value.slice.injEq] at hv
  obtain ⟨rfl, _, _⟩ := hv
  refine ⟨b, rfl, fun j hj i v hv => ?_⟩
  have e : l[j]? = some (l.getD j (0, [])) := by rw [List.getD_eq_getElem?_getD, List.getElem?_eq_getElem hj]; rfl
  have h3 := flatV_at l hl j _ e i v hv
  have hi : i < 65 := by
    have h4 := (List.getElem?_eq_some_iff.1 hv).1
    rwa [wrC_len (hl _ (List.mem_of_getElem? e))] at h4
  rw [cell_of_row w b _ cur 72 (0, 0) hh]
  rw [← ht, List.getElem?_take_of_lt (by omega)] at h3
  simpa using h3
theorem Blk.neT {w : World} {g g' : Nat} {cs cs' : List Value} {t t' : TypeId} (h : Blk w g cs t) (h' : Blk w g' cs' t') (ht : t ≠ t') : g ≠ g' := fun e => by
  subst e
  unfold Blk at h h'
  rw [h] at h'
  simp only [Option.some.injEq, Obj.cells.injEq] at h'
  exact ht h'.2.1
/-- a disk's cells -/
def dkC (gs n : Nat) (vw : Value) (dn fu : Bool) (lf : Int) : List Value := [.slice (some ⟨gs, 0, none⟩) n n, vw, .bool dn, .bool fu, .int .i64 lf]
structure DkM (w : World) (g gs : Nat) (vw : Value) (fu : Bool) (lf : Int) (D : DkT) : Prop where
  me : Blk w g (dkC gs (sizeD D) vw D.down fu lf) 68
  sf : Blk w gs (cb D.safe) 70
  wt : OwnV w vw D.wait
  ok : okD D
  fs : fu = decide (0 ≤ D.left)
  ls : 0 ≤ D.left → lf = D.left
def dkP (g gs : Nat) (vw : Value) : Nat → Prop := fun k => k = g ∨ k = gs ∨ vw.ownBlock = some k
/-- the disk D lies at block g, in blocks of P alone -/
def DkIs (w : World) (g : Nat) (P : Nat → Prop) (D : DkT) : Prop := ∃ gs vw fu lf, DkM w g gs vw fu lf D ∧ P = dkP g gs vw
theorem DkM.ne {w : World} {g gs : Nat} {vw : Value} {fu : Bool} {lf : Int} {D : DkT} (h : DkM w g gs vw fu lf D) : g ≠ gs ∧ vw.ownBlock ≠ some g ∧ vw.ownBlock ≠ some gs := ⟨h.me.neT h.sf (by decide), h.wt.ne h.me (by decide), h.wt.ne h.sf (by decide)⟩
theorem DkM.lt {w : World} {g gs : Nat} {vw : Value} {fu : Bool} {lf : Int} {D : DkT} (h : DkM w g gs vw fu lf D) : ∀ k, dkP g gs vw k → k < w.heap.size := fun k hk => by
  rcases hk with rfl | rfl | hk
  · exact h.me.lt
  · exact h.sf.lt
  · exact h.wt.lt k hk
theorem blk_same {w w' : World} {g : Nat} {cs : List Value} {t : TypeId} (h : Blk w g cs t) (e : w'.heap[g]? = w.heap[g]?) : Blk w' g cs t := by unfold Blk at *; rw [e]; exact h
theorem DkM.same {w w' : World} {g gs : Nat} {vw : Value} {fu : Bool} {lf : Int} {D : DkT} (h : DkM w g gs vw fu lf D) (hs : ∀ k, dkP g gs vw k → w'.heap[k]? = w.heap[k]?) : DkM w' g gs vw fu lf D :=
  ⟨blk_same h.me (hs g (Or.inl rfl)), blk_same h.sf (hs gs (Or.inr (Or.inl rfl))), h.wt.same (fun k hk => hs k (Or.inr (Or.inr hk))), h.ok, h.fs, h.ls⟩
theorem DkM.below {w w' : World} {g gs : Nat} {vw : Value} {fu : Bool} {lf : Int} {D : DkT} (h : DkM w g gs vw fu lf D) (hb : Below w.heap.size w w') : DkM w' g gs vw fu lf D := h.same (fun k hk => hb.block k (h.lt k hk))
/-- its own cells stored into -/
theorem DkM.mine {w w' : World} {g gs : Nat} {vw vw' : Value} {fu fu' : Bool} {lf lf' : Int} {D D' : DkT} (h : DkM w g gs vw fu lf D) (ho : Only g w w') (hb : Blk w' g (dkC gs (sizeD D') vw' D'.down fu' lf') 68) (h1 : D'.safe = D.safe) (hw : OwnV w' vw' D'.wait) (ok : okD D') (h3 : fu' = decide (0 ≤ D'.left)) (h4 : 0 ≤ D'.left → lf' = D'.left) : DkM w' g gs vw' fu' lf' D' :=
  ⟨hb, by rw [h1]; exact h.sf.only ho (Ne.symm h.ne.1), hw, ok, h3, h4⟩
theorem DkM.wtOnly {w w' : World} {g gs : Nat} {vw : Value} {fu : Bool} {lf : Int} {D : DkT} (h : DkM w g gs vw fu lf D) (ho : Only g w w') : OwnV w' vw D.wait := h.wt.same (fun k hk => ho.block k (fun e => h.ne.2.1 (e ▸ hk)) (h.wt.lt k hk))
/-- its sectors stored into -/
theorem DkM.sect {w w' : World} {g gs : Nat} {vw : Value} {fu : Bool} {lf : Int} {D : DkT} {b : Bs} (h : DkM w g gs vw fu lf D) (ho : Only gs w w') (hb : Blk w' gs (cb b) 70) (hl : b.length = D.safe.length) : DkM w' g gs vw fu lf ⟨b, D.wait, D.left, D.down⟩ := by
  have e : sizeD ⟨b, D.wait, D.left, D.down⟩ = sizeD D := by show b.length / 64 = _; rw [hl]; rfl
  refine ⟨by rw [e]; exact h.me.only ho h.ne.1, hb, h.wt.same (fun k hk => ho.block k (fun e => h.ne.2.2 (e ▸ hk)) (h.wt.lt k hk)), ⟨?_, h.ok.lo, h.ok.hi⟩, h.fs, h.ls⟩
  obtain ⟨n, h1, h2, h3, h4⟩ := h.ok.ex
  exact ⟨n, h1, h2, by rw [hl]; exact h3, h4⟩
theorem Only.mutD {g gs k : Nat} {vw : Value} {w w' : World} (h : Only k w w') (hk : dkP g gs vw k) : Mut (dkP g gs vw) w w' := h.mut hk
/-- single operations -/
theorem idxSec (gs n k : Nat) (hk : k < n) (f : Operand → Value) (o : Oper) (x y : Operand) (ho : o.op = .indexAddr 65 x y) (hx : f x = .slice (some ⟨gs, 0, none⟩) n n) (hy : f y = .int .i64 (k : Int)) (w : World) :
    (execOp f o).run Try.prog w = .ok (.value (.pointer (some ⟨gs, 64 * k, none⟩))) w := by
  have k0 : (0 : Int) ≤ (k : Int) := by omega
  have k1 : (k : Int) < (n : Int) := by omega
  have hs : (sizeOf 70).run Try.prog w = .ok 64 w := by kernel_rfl
  unfold execOp
  rw [ho]
  simp [go_sem, hx, hy, k0, k1, Addr.add_mid, hs]
  try omega
theorem idxWr (b n c k : Nat) (hk : k < n) (f : Operand → Value) (o : Oper) (x y : Operand) (ho : o.op = .indexAddr 66 x y) (hx : f x = .slice (some ⟨b, 0, none⟩) n c) (hy : f y = .int .i64 (k : Int)) (w : World) :
    (execOp f o).run Try.prog w = .ok (.value (.pointer (some ⟨b, k * 65, none⟩))) w := by
  have k0 : (0 : Int) ≤ (k : Int) := by omega
  have k1 : (k : Int) < (n : Int) := by omega
  have hs : (sizeOf 72).run Try.prog w = .ok 65 w := by kernel_rfl
  unfold execOp
  rw [ho]
  simp [go_sem, hx, hy, k0, k1, Addr.add_mid, hs]
theorem sliceSec (b off : Nat) (f : Operand → Value) (o : Oper) (x : Operand) (ho : o.op = .slice 70 x none none none) (hx : f x = .pointer (some ⟨b, off, none⟩)) (w : World) :
    (execOp f o).run Try.prog w = .ok (.value (.slice (some ⟨b, off, none⟩) 64 64)) w := by
  unfold execOp
  rw [ho]
  simp only [hx, Option.map_none]
  kernel_rfl
theorem sliceSecTo (b off m : Nat) (hm : m ≤ 64) (f : Operand → Value) (o : Oper) (x y : Operand) (ho : o.op = .slice 70 x none (some y) none) (hx : f x = .pointer (some ⟨b, off, none⟩)) (hy : f y = .int .i64 (m : Int)) (w : World) :
    (execOp f o).run Try.prog w = .ok (.value (.slice (some ⟨b, off, none⟩) m 64)) w := by
  have e : Try.prog.arrayLen 70 = 64 := by kernel_rfl
  have hs : (sizeOf 5).run Try.prog w = .ok 1 w := by kernel_rfl
  unfold execOp
  rw [ho]
  simp only [hx, hy, Option.map_some, Option.map_none, Sem.run_bind]
  rw [run_sliceAt_array_h (P := Try.prog) w 70 ⟨b, off, none⟩ (by kernel_rfl) .i64 (m : Int) (by omega) (by rw [e]; omega)]
  rw [show Try.prog.elem 70 = 5 from by kernel_rfl, hs, e]
  simp [slicedAt, Addr.add_mid]
theorem cutFrom (b off n c l : Nat) (hl : l < n) (hc : n ≤ c) (f : Operand → Value) (o : Oper) (x y : Operand) (ho : o.op = .slice 24 x (some y) none none) (hx : f x = .slice (some ⟨b, off, none⟩) n c) (hy : f y = .int .i64 (l : Int)) (w : World) :
    (execOp f o).run Try.prog w = .ok (.value (.slice (some ⟨b, off + l, none⟩) (n - l) (c - l))) w := by
  have hs : (sizeOf 5).run Try.prog w = .ok 1 w := by kernel_rfl
  have l0 : (0 : Int) ≤ (l : Int) := by omega
  have l1 : (l : Int) ≤ (n : Int) := by omega
  unfold execOp
  rw [ho]
  simp only [hx, hy, Option.map_some, Option.map_none, Sem.run_bind]
  rw [run_sliceAt_slice w 24 _ _ _ _ (by kernel_rfl), run_slice_l w 24 _ _ _ (by kernel_rfl) .i64 (l : Int) (by omega) (by omega)]
  rw [show Try.prog.elem 24 = 5 from by kernel_rfl, hs]
  simp only [Result.andThen_ok, sliced, Int.toNat_natCast, Nat.mul_one]
  rw [if_neg (by omega)]
  simp [Addr.add_mid]
theorem loadSec (b off : Nat) (x : Bs) (hx : x.length = 64) {a : Act} {o : Oper} (y : Operand) (ho : o.op = .load 70 y) (hy : a.eval y = .pointer (some ⟨b, off, none⟩)) {w : World} (hr : w.rangeAt b off (cb x)) : (execOp a.eval o).run Try.prog w = .ok (.value (.agg (cb x).toArray)) w :=
  load_run 70 y ho b off hy (cb x) _ hr Try.underlying70 rfl (by rw [cb_len, hx]; exact size_sc)
theorem loadWr (b off : Nat) (p : Nat × Bs) (hp : p.2.length = 64) {a : Act} {o : Oper} (y : Operand) (ho : o.op = .load 72 y) (hy : a.eval y = .pointer (some ⟨b, off, none⟩)) {w : World} (hr : w.rangeAt b off (wrC p)) : (execOp a.eval o).run Try.prog w = .ok (.value (.agg (wrC p).toArray)) w :=
  load_run 72 y ho b off hy (wrC p) _ hr Try.underlying72 rfl (by rw [wrC_len hp]; exact size_dw)
/-- bytes copied to any place of a block -/
theorem copyO (f : Operand → Value) (o : Oper) (d s : Operand) (ho : o.op = .call { callee := .builtin .copy, args := #[d, s], argTypes := #[24, 24] }) (w : World) (g k dLen dCap b off sLen sCap : Nat) (t : TypeId) (cs : List Value) (xs : Bs) (hg : Blk w g cs t) (hm : xs.length = min sLen dLen) (hk : k + xs.length ≤ cs.length)
    (hsrc : ∀ j, j < xs.length → w.cell? ⟨b, off + j, none⟩ = some (.int .u8 ((xs.getD j 0).toNat : Int))) (hx : f d = .slice (some ⟨g, k, none⟩) dLen dCap) (hy : f s = .slice (some ⟨b, off, none⟩) sLen sCap) :
    ∃ w', (execOp f o).run Try.prog w = .ok (.value (.int .i64 (xs.length : Int))) w' ∧ Blk w' g (cs.take k ++ cb xs ++ cs.drop (k + xs.length)) t ∧ Only g w w' := by
  have hcp : ∀ ty, (Builtin.copy_ #[24, 24] ty #[.slice (some ⟨g, k, none⟩) dLen dCap, .slice (some ⟨b, off, none⟩) sLen sCap]).run Try.prog w = .ok (goInt (cb xs).length) (w.setCells g k (cb xs)) := fun ty =>
      run_copy_cells w _ _ ty 5 g k dLen dCap ⟨b, off, none⟩ sLen sCap (cb xs) Try.underlying24 (by kernel_rfl) (by rw [cb_len]; exact hm)
        (fun j u hj => by
          have hjl : j < xs.length := by have := (List.getElem?_eq_some_iff.1 hj).1; rwa [cb_len] at this
          rw [Addr.add_mid, hsrc j hjl, ← hj, cb_get xs j hjl])
        (fun j hj => by rw [hg.cell, List.getElem?_eq_getElem (by rw [cb_len] at hj; omega)]; rfl) (fun j _ => hg.frozen _) (cb_one _)
  refine ⟨w.setCells g k (cb xs), ?_, ?_, Only.setCells _ _ _ (Only.refl g w)⟩
  · unfold execOp
    rw [ho]
    rw [cb_len] at hcp
    simp [resolve, invoke, builtin, hx, hy, hcp, Result.andThen]
    rfl
  · have := setCells_eq g (cb xs) k w cs t hg (by rw [cb_len]; exact hk)
    rwa [cb_len] at this
theorem lay_cb {b x : Bs} {at_ n : Nat} (hn : (x.take n).length = n) : (cb b).take (64 * at_) ++ cb (x.take n) ++ (cb b).drop (64 * at_ + (x.take n).length) = cb (layD b at_ x n) := by
  rw [hn, layD]
  simp [cb]
end Go.Proofs.Ytdllnedmhhajnaa

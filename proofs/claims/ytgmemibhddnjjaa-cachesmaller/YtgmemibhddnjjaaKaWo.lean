/- The walk of the reference's without (layer 16). -/
import Derived.Test.YtgmemibhddnjjaaKaRf
namespace Go.Proofs.Ytgmemibhddnjjaa
open Go.RowKit
set_option maxRecDepth 100000
/-- a reading, and what makes memory, in either order -/
theorem wpAnyH_comm {P : Program} {md : Region.Mode} {ops : Array Oper} {Q : Exit → Act → World → Prop} {S : World → Prop} {fuel : Nat} {listed : Array Bool} {a : Act} {w : World} (i j : Nat) {oi oj : Oper} (v u : Value) (w' : World)
    (hr : Region.ready md ops listed = [i, j]) (hi : ops[i]? = some oi) (hj : ops[j]? = some oj)
    (wi : Region.wanted oi (yielded ops a.tmps) = true) (wj : Region.wanted oj (yielded ops a.tmps) = true) (wi2 : Region.wanted oi (yielded ops (a.put oj.dst u).tmps) = true) (wj2 : Region.wanted oj (yielded ops (a.put oi.dst v).tmps) = true)
    (ei : (execOp a.eval oi).run P w = .ok (.value v) w) (ej : (execOp a.eval oj).run P w = .ok (.value u) w') (ei2 : (execOp (a.put oj.dst u).eval oi).run P w' = .ok (.value v) w') (ej2 : (execOp (a.put oi.dst v).eval oj).run P w = .ok (.value u) w')
    (hr1 : Region.ready md ops (listed.setIfInBounds i true) = [j]) (hr2 : Region.ready md ops (listed.setIfInBounds j true) = [i])
    (hp : (a.put oj.dst u).put oi.dst v = (a.put oi.dst v).put oj.dst u) (hl : (listed.setIfInBounds j true).setIfInBounds i true = (listed.setIfInBounds i true).setIfInBounds j true)
    (hS : S w) (hS' : S w') (h : wpAnyH P md ops Q S fuel ((listed.setIfInBounds i true).setIfInBounds j true) ((a.put oi.dst v).put oj.dst u) w') : wpAnyH P md ops Q S (fuel + 2) listed a w := by
  refine wpAnyH_all hr (by simp) (fun k hk => ?_)
  rcases List.mem_cons.1 hk with rfl | hk
  · exact wpOp_vl k v w hi wi ei ⟨hS, wpAnyH_step j u w' hr1 hj wj2 ej2 hS' h⟩
  · obtain rfl : k = j := by simpa using hk
    refine wpOp_vl k u w' hj wj ej ⟨hS', wpAnyH_step i v w' hr2 hi wi2 ei2 hS' ?_⟩
    rw [hl, hp]
    exact h

theorem wpAnyH_skip {P : Program} {md : Region.Mode} {ops : Array Oper} {Q : Exit → Act → World → Prop} {S : World → Prop} {fuel : Nat} {listed : Array Bool} {a : Act} {w : World} (i : Nat) {oi : Oper} (w' : World)
    (hr : Region.ready md ops listed = [i]) (hi : ops[i]? = some oi) (hw : Region.wanted oi (yielded ops a.tmps) = true) (he : (execOp a.eval oi).run P w = .ok .skip w') (hS : S w')
    (h : wpAnyH P md ops Q S fuel (listed.setIfInBounds i true) (a.put oi.dst undef) w') : wpAnyH P md ops Q S (fuel + 1) listed a w := by
  refine wpAnyH_law i hr hi hw ?_
  unfold Oper.wp
  rw [he]
  exact ⟨hS, h⟩
theorem run_strOp (op : BinOp) (s t : ByteArray) (r : Bool) (hr : (match op with | .lss => Op.bytesLess s.toList t.toList | .leq => Op.bytesLess s.toList t.toList || (s.toList == t.toList) | .eql => s.toList == t.toList | .neq => !(s.toList == t.toList) | _ => false) = r) (hop : op = .lss ∨ op = .leq ∨ op = .eql ∨ op = .neq) (f : Operand → Value) (o : Oper) (x y : Operand) (ho : o.op = .binOp op 9 x y 9) (hx : f x = .string s) (hy : f y = .string t) (w : World) : (execOp f o).run Try.prog w = .ok (.value (.bool r)) w := by
  unfold execOp
  rw [ho]
  rcases hop with rfl | rfl | rfl | rfl <;> subst hr <;> simp [go_sem, hx, hy]
theorem wpSeq_str {ops : Array Oper} {Q : Exit → Act → World → Prop} {rest : List Oper} {o : Oper} {a : Act} {w : World} (op : BinOp) (s t : ByteArray) (r : Bool) (x y : Operand) (hr : (match op with | .lss => Op.bytesLess s.toList t.toList | .leq => Op.bytesLess s.toList t.toList || (s.toList == t.toList) | .eql => s.toList == t.toList | .neq => !(s.toList == t.toList) | _ => false) = r) (hop : op = .lss ∨ op = .leq ∨ op = .eql ∨ op = .neq) (ho : o.op = .binOp op 9 x y 9) (hx : a.eval x = .string s) (hy : a.eval y = .string t) (hw : Region.wanted o (yielded ops a.tmps) = true)
    (h : wpList Try.prog ops Q rest (a.put o.dst (.bool r)) w) : wpList Try.prog ops Q (o :: rest) a w :=
  wpSeq_val _ _ hw (run_strOp op s t r hr hop _ o x y ho hx hy w) h
theorem wpSeq_sLe {ops : Array Oper} {Q : Exit → Act → World → Prop} {rest : List Oper} {o : Oper} {a : Act} {w : World} (s t : ByteArray) (r : Bool) (x y : Operand) (hr : (Op.bytesLess s.toList t.toList || (s.toList == t.toList)) = r) (ho : o.op = .binOp .leq 9 x y 9) (hx : a.eval x = .string s) (hy : a.eval y = .string t) (hw : Region.wanted o (yielded ops a.tmps) = true)
    (h : wpList Try.prog ops Q rest (a.put o.dst (.bool r)) w) : wpList Try.prog ops Q (o :: rest) a w := wpSeq_str .leq s t r x y hr (Or.inr (Or.inl rfl)) ho hx hy hw h
theorem wpSeq_sLt {ops : Array Oper} {Q : Exit → Act → World → Prop} {rest : List Oper} {o : Oper} {a : Act} {w : World} (s t : ByteArray) (r : Bool) (x y : Operand) (hr : Op.bytesLess s.toList t.toList = r) (ho : o.op = .binOp .lss 9 x y 9) (hx : a.eval x = .string s) (hy : a.eval y = .string t) (hw : Region.wanted o (yielded ops a.tmps) = true)
    (h : wpList Try.prog ops Q rest (a.put o.dst (.bool r)) w) : wpList Try.prog ops Q (o :: rest) a w := wpSeq_str .lss s t r x y hr (Or.inl rfl) ho hx hy hw h
theorem wpSeq_sEq {ops : Array Oper} {Q : Exit → Act → World → Prop} {rest : List Oper} {o : Oper} {a : Act} {w : World} (s t : ByteArray) (r : Bool) (x y : Operand) (hr : (s.toList == t.toList) = r) (ho : o.op = .binOp .eql 9 x y 9) (hx : a.eval x = .string s) (hy : a.eval y = .string t) (hw : Region.wanted o (yielded ops a.tmps) = true)
    (h : wpList Try.prog ops Q rest (a.put o.dst (.bool r)) w) : wpList Try.prog ops Q (o :: rest) a w := wpSeq_str .eql s t r x y hr (Or.inr (Or.inr (Or.inl rfl))) ho hx hy hw h
theorem wpSeq_sNe {ops : Array Oper} {Q : Exit → Act → World → Prop} {rest : List Oper} {o : Oper} {a : Act} {w : World} (s t : ByteArray) (r : Bool) (x y : Operand) (hr : (!(s.toList == t.toList)) = r) (ho : o.op = .binOp .neq 9 x y 9) (hx : a.eval x = .string s) (hy : a.eval y = .string t) (hw : Region.wanted o (yielded ops a.tmps) = true)
    (h : wpList Try.prog ops Q rest (a.put o.dst (.bool r)) w) : wpList Try.prog ops Q (o :: rest) a w := wpSeq_str .neq s t r x y hr (Or.inr (Or.inr (Or.inr rfl))) ho hx hy hw h

theorem wo_snoc (a : List KV) (p : KV) (s : ByteArray) : woK (a ++ [p]) s = woK a s ++ (if p.1 = s then [] else [p]) := by
  unfold woK
  rw [List.filter_append]
  congr 1
  by_cases h : p.1 = s
  · rw [if_pos h, List.filter_cons_of_neg (by simp [h])]; rfl
  · rw [if_neg h, List.filter_cons_of_pos (by simp [h])]; rfl
theorem fd_snoc (a : List KV) (p : KV) (s : ByteArray) : fdK (a ++ [p]) s = (fdK a s).or (if p.1 = s then some p.2 else none) := by
  unfold fdK
  rw [List.find?_append]
  cases h : a.find? (fun p => decide (p.1 = s)) with
  | some q => rfl
  | none =>
    by_cases e : p.1 = s
    · rw [if_pos e]; simp [e]
    · rw [if_neg e]; simp [e]
theorem take_kv {l : List KV} {k : Nat} {p : KV} (h : l[k]? = some p) : l.take (k + 1) = l.take k ++ [p] := by rw [List.take_add_one, h]; rfl
theorem fd_fresh {l : List KV} (h : (l.map (·.1)).Nodup) {k : Nat} {p : KV} (hp : l[k]? = some p) : fdK (l.take k) p.1 = none := by
  apply fd_none.2
  intro hm
  obtain ⟨q, hq, e⟩ := List.mem_map.1 hm
  obtain ⟨j, hj⟩ := List.mem_iff_getElem?.1 hq
  have hl := (List.getElem?_eq_some_iff.1 hj).1
  rw [List.length_take] at hl
  rw [List.getElem?_take_of_lt (by omega)] at hj
  have h1 : (l.map (·.1))[j]? = some p.1 := by rw [List.getElem?_map, hj, ← e]; rfl
  have h2 : (l.map (·.1))[k]? = some p.1 := by rw [List.getElem?_map, hp]; rfl
  have hlt : j < (l.map (·.1)).length := (List.getElem?_eq_some_iff.1 h1).1
  have := (List.getElem?_inj hlt h).1 (h1.trans h2.symm)
  omega
/-- while the keys are gone over: the cache that was handed in, the answer, and the one that is made -/
structure WoG (w : World) (gc gr go : Nat) (cc : List Value) (mo hi ms : Value) (csK csV : List Value) (xk xv : Value) (wr : World) : Prop where
  cb : Blk wr gc cc 27
  rb : Blk wr gr zRc 27
  ob : Blk wr go [mo, xk, xv, hi, ms] 27
  ok : OwnR 9 wr w.heap.size xk csK
  ov : OwnR 3 wr w.heap.size xv csV
  bel : Below w.heap.size w wr
  nc : gc ≠ go
  nr : gr ≠ go
  ge : w.heap.size ≤ go
theorem WoG.drew {w wr : World} {gc gr go : Nat} {cc : List Value} {mo hi ms : Value} {csK csV : List Value} {xk xv : Value} (h : WoG w gc gr go cc mo hi ms csK csV xk xv wr) : WoG w gc gr go cc mo hi ms csK csV xk xv wr.drew :=
  ⟨h.cb, h.rb, h.ob, h.ok, h.ov, ⟨h.bel.os, h.bel.tape, h.bel.output, h.bel.size, h.bel.block⟩, h.nc, h.nr, h.ge⟩
theorem WoG.stepK {w wr q : World} {gc gr go : Nat} {cc : List Value} {mo hi ms : Value} {csK csV : List Value} {xk xv z u : Value} (h : WoG w gc gr go cc mo hi ms csK csV xk xv wr) (o : Obj) (ho : OwnR 9 q w.heap.size z (csK ++ [u])) (hg : (wr.alloc o).grownBy q xk.ownBlock) (hb : Below w.heap.size (wr.alloc o) q) :
    (Below w.heap.size w q ∧ Blk q gc cc 27) ∧ Blk q go [mo, xk, xv, hi, ms] 27 ∧ WoG w gc gr go cc mo hi ms (csK ++ [u]) csV z xv (q.setCell ⟨go, 1, none⟩ z) := by
  have k1 := OwnR.app1 h.ok o
  have hb2 : Below w.heap.size w q := (h.bel.trans ((below_alloc wr o).mono h.bel.size)).trans hb
  have c1 : Blk q gc cc 27 := (h.cb.alloc o).grownR k1 (by decide) hg
  have r1 : Blk q gr zRc 27 := (h.rb.alloc o).grownR k1 (by decide) hg
  have o1 : Blk q go [mo, xk, xv, hi, ms] 27 := (h.ob.alloc o).grownR k1 (by decide) hg
  have v1 : OwnR 3 q w.heap.size xv csV := (OwnR.app1 h.ov o).apart k1 (by decide) hg
  have on := Only.setCell (Only.refl go q) 1 z
  exact ⟨⟨hb2, c1⟩, o1, ⟨c1.only on h.nc, r1.only on h.nr, o1.set 1 z, ho.only o1 (by decide) on, v1.only o1 (by decide) on, hb2.trans (on.below h.ge hb2.size), h.nc, h.nr, h.ge⟩⟩
theorem WoG.stepV {w wr q : World} {gc gr go : Nat} {cc : List Value} {mo hi ms : Value} {csK csV : List Value} {xk xv z u : Value} (h : WoG w gc gr go cc mo hi ms csK csV xk xv wr) (o : Obj) (ho : OwnR 3 q w.heap.size z (csV ++ [u])) (hg : (wr.alloc o).grownBy q xv.ownBlock) (hb : Below w.heap.size (wr.alloc o) q) :
    (Below w.heap.size w q ∧ Blk q gc cc 27) ∧ Blk q go [mo, xk, xv, hi, ms] 27 ∧ WoG w gc gr go cc mo hi ms csK (csV ++ [u]) xk z (q.setCell ⟨go, 2, none⟩ z) := by
  have k1 := OwnR.app1 h.ov o
  have hb2 : Below w.heap.size w q := (h.bel.trans ((below_alloc wr o).mono h.bel.size)).trans hb
  have c1 : Blk q gc cc 27 := (h.cb.alloc o).grownR k1 (by decide) hg
  have r1 : Blk q gr zRc 27 := (h.rb.alloc o).grownR k1 (by decide) hg
  have o1 : Blk q go [mo, xk, xv, hi, ms] 27 := (h.ob.alloc o).grownR k1 (by decide) hg
  have v1 : OwnR 9 q w.heap.size xk csK := (OwnR.app1 h.ok o).apart k1 (by decide) hg
  have on := Only.setCell (Only.refl go q) 2 z
  exact ⟨⟨hb2, c1⟩, o1, ⟨c1.only on h.nc, r1.only on h.nr, o1.set 2 z, v1.only o1 (by decide) on, ho.only o1 (by decide) on, hb2.trans (on.below h.ge hb2.size), h.nc, h.nr, h.ge⟩⟩
theorem build_k1 (f : Operand → Value) (o : Oper) (x : Operand) (u : ByteArray) (hx : f x = .string u) (ho : o.op = .buildSlice 24 1 #[(0, x)]) (w : World) : (execOp f o).run Try.prog w = .ok (.value (.slice (some ⟨w.heap.size, 0, none⟩) 1 1)) (w.alloc (.cells #[.string u] 9)) := by
  unfold execOp
  rw [ho]
  simp only [List.map_toArray, List.map_cons, List.map_nil, hx]
  kernel_rfl
theorem build_i1 (f : Operand → Value) (o : Oper) (x : Operand) (u : Int) (hx : f x = .int .i64 u) (ho : o.op = .buildSlice 25 1 #[(0, x)]) (w : World) : (execOp f o).run Try.prog w = .ok (.value (.slice (some ⟨w.heap.size, 0, none⟩) 1 1)) (w.alloc (.cells #[.int .i64 u] 3)) := by
  unfold execOp
  rw [ho]
  simp only [List.map_toArray, List.map_cons, List.map_nil, hx]
  kernel_rfl
theorem one_rc (mo hi ms : Value) (h : mo.oneCell' = true ∧ hi.oneCell' = true ∧ ms.oneCell' = true) (a1 a2 : Option Addr) (n1 n2 c1 c2 : Nat) : ∀ u ∈ [mo, .slice a1 n1 c1, .slice a2 n2 c2, hi, ms], u.oneCell' = true := by
  intro u hu
  simp only [List.mem_cons, List.not_mem_nil, or_false] at hu
  rcases hu with rfl | rfl | rfl | rfl | rfl
  · exact h.1
  · rfl
  · rfl
  · exact h.2.1
  · exact h.2.2
set_option maxRecDepth 100000 in
set_option maxHeartbeats 2000000 in
theorem kWithout_any {w : World} {l : List KV} {vk vv : Value} (mo hi ms : Int) (hk : RdV 9 w vk (kyV l)) (hv : RdV 3 w vv (vlV l)) (hnd : (l.map (·.1)).Nodup) (hl : l.length < 1000000) (s : ByteArray) :
    Calls Try.prog 28 #[.agg [.int .i64 mo, vk, vv, .int .i64 hi, .int .i64 ms].toArray, .string s] w fun r w' => ∃ vk' vv', r = .returned (.tuple #[.agg [.int .i64 mo, vk', vv', .int .i64 hi, .int .i64 ms].toArray, .int .i64 ((fdK l s).getD 0), .bool (fdK l s).isSome]) ∧ RfO w' w.heap.size (woK l s) vk' vv' ∧ Below w.heap.size w w' := by
  have HK : Hid (RdV 9 w vk (kyV l)) := hk
  have HV : Hid (RdV 3 w vv (vlV l)) := hv
  obtain ⟨ak, ck, ek⟩ := hk.form
  obtain ⟨av, cv, ev⟩ := hv.form
  obtain ⟨n, HN⟩ : ∃ n, Hid (n = l.length) := ⟨_, rfl⟩
  have el1 : (kyV l).length = n := by rw [HN.out]; exact List.length_map ..
  have el2 : (vlV l).length = n := by rw [HN.out]; exact List.length_map ..
  rw [el1] at ek
  rw [el2] at ev
  subst ek ev
  have HND : Hid ((l.map (·.1)).Nodup) := hnd
  have HNL : Hid (n < 1000000) := by show n < _; rw [HN.out]; exact hl
  clear hk hv el1 el2 hnd hl
  go_enter Try.func28, Try.ntmps28
  have tk0 : Hid True := trivial
  have tk1 : Hid True := trivial
  have tk2 : Hid True := trivial
  have tk3 : Hid True := trivial
  go_wp2_with (first
    | (clear tk0; with_reducible refine wpSeq_boxW 27 (.tmp 0) [.int .i64 mo, .slice ak n ck, .slice av n cv, .int .i64 hi, .int .i64 ms] ?_ ?_ ?_ ?_
       · rfl
       · rfl
       · rfl
       intro gc y0 nn
       have HC : Hid (Blk y0 gc [.int .i64 mo, .slice ak n ck, .slice av n cv, .int .i64 hi, .int .i64 ms] 27) := nn.blk
       have HBL : Hid (Below w.heap.size w y0) := nn.below
       have HG : Hid (w.heap.size ≤ gc) := nn.ge
       clear nn)
    | (clear tk1; with_reducible refine wpSeq_allocRc ?_ ?_ ?_
       · rfl
       · rfl
       intro gr y1 nn
       have HR : Hid (Blk y1 gr zRc 27) := nn.blk
       have HGR : Hid (w.heap.size ≤ gr) := Nat.le_trans HBL.out.size nn.ge
       replace HC : Hid (Blk y1 gc [.int .i64 mo, .slice ak n ck, .slice av n cv, .int .i64 hi, .int .i64 ms] 27) := HC.out.below nn.below HC.out.lt
       replace HBL : Hid (Below w.heap.size w y1) := HBL.out.trans (nn.below.mono HBL.out.size)
       have c0 : y1.cell? ⟨gc, 0, none⟩ = some (.int .i64 mo) := HC.out.cell 0
       have c3 : y1.cell? ⟨gc, 3, none⟩ = some (.int .i64 hi) := HC.out.cell 3
       have c4 : y1.cell? ⟨gc, 4, none⟩ = some (.int .i64 ms) := HC.out.cell 4
       clear nn)
    | (clear tk2; with_reducible refine wpSeq_allocRc ?_ ?_ ?_
       · rfl
       · rfl
       intro go y2 nn
       have HO : Hid (Blk y2 go zRc 27) := nn.blk
       have HGO : Hid (w.heap.size ≤ go) := Nat.le_trans HBL.out.size nn.ge
       have HNC : Hid (gc ≠ go) := fun e => absurd HC.out.lt (by have := nn.ge; omega)
       have HNR : Hid (gr ≠ go) := fun e => absurd HR.out.lt (by have := nn.ge; omega)
       replace HC : Hid (Blk y2 gc [.int .i64 mo, .slice ak n ck, .slice av n cv, .int .i64 hi, .int .i64 ms] 27) := HC.out.below nn.below HC.out.lt
       replace HR : Hid (Blk y2 gr zRc 27) := HR.out.below nn.below HR.out.lt
       replace HBL : Hid (Below w.heap.size w y2) := HBL.out.trans (nn.below.mono HBL.out.size)
       clear nn c0 c3 c4)
    | (clear tk3; with_reducible refine wpSeq_storeRow 27 (.tmp 7) (.tmp 17) go zRc [.int .i64 mo, .slice none 0 0, .slice none 0 0, .int .i64 hi, .int .i64 ms] HO.out rfl (info_rc _ _ _ _ _) ?_ ?_ ?_ ?_ ?_ ?_
       · exact one_rc _ _ _ ⟨rfl, rfl, rfl⟩ _ _ _ _ _ _
       · rfl
       · rfl
       · rfl
       · rfl
       intro y3 sr
       have HI0 : Hid (WoG w gc gr go [.int .i64 mo, .slice ak n ck, .slice av n cv, .int .i64 hi, .int .i64 ms] (.int .i64 mo) (.int .i64 hi) (.int .i64 ms) (kyV (woK (l.take 0) s)) (vlV (woK (l.take 0) s)) (.slice none 0 0) (.slice none 0 0) y3) := ⟨HC.out.only sr.only HNC.out, HR.out.only sr.only HNR.out, sr.blk, OwnR.nil _ _ _, OwnR.nil _ _ _, HBL.out.trans (sr.only.below HGO.out HBL.out.size), HNC.out, HNR.out, HGO.out⟩
       clear sr HC HR HO HBL))
  go_loopw [8, 9, 10] (fun a b i wr => ∃ k : Nat, k ≤ n ∧ a = .int .i64 ((fdK (l.take k) s).getD 0) ∧ b = .bool (fdK (l.take k) s).isSome ∧ i = .int .i64 (k : Int) ∧ ∃ xk xv, WoG w gc gr go [.int .i64 mo, .slice ak n ck, .slice av n cv, .int .i64 hi, .int .i64 ms] (.int .i64 mo) (.int .i64 hi) (.int .i64 ms) (kyV (woK (l.take k) s)) (vlV (woK (l.take k) s)) xk xv wr) (fun _ _ i _ => n - (intOf i).toNat)
  case atStart => exact ⟨0, Nat.zero_le _, rfl, rfl, rfl, _, _, HI0.out⟩
  case round =>
    obtain ⟨k, hkn, rfl, rfl, rfl, xk, xv, hI⟩ := hrel
    have HW : Hid (WoG w gc gr go [.int .i64 mo, .slice ak n ck, .slice av n cv, .int .i64 hi, .int .i64 ms] (.int .i64 mo) (.int .i64 hi) (.int .i64 ms) (kyV (woK (l.take k) s)) (vlV (woK (l.take k) s)) xk xv wr) := hI
    have d1 : wr.cell? ⟨gc, 1, none⟩ = some (.slice ak n ck) := hI.cb.cell 1
    have d2 : wr.cell? ⟨gc, 2, none⟩ = some (.slice av n cv) := hI.cb.cell 2
    clear HI0
    by_cases hlt : k < n
    · obtain ⟨p, hp⟩ : ∃ p, l[k]? = some p := ⟨_, List.getElem?_eq_getElem (by rw [← HN.out]; exact hlt)⟩
      have hpk : (kyV l)[k]? = some (.string p.1) := by unfold kyV; rw [List.getElem?_map, hp]; rfl
      have hpv : (vlV l)[k]? = some (.int .i64 p.2) := by unfold vlV; rw [List.getElem?_map, hp]; rfl
      obtain ⟨bk, ofk, e1, _⟩ := HK.out.at hpk
      obtain ⟨bv, ofv, e2, _⟩ := HV.out.at hpv
      subst e1 e2
      have HSK : Hid (∀ wx, Below w.heap.size w wx → wx.cell? ⟨bk, ofk + k, none⟩ = some (.string p.1)) := fun wx hb => by
        obtain ⟨b, o, e, h⟩ := (HK.out.below hb).at hpk
        simp only [Option.some.injEq, Addr.mk.injEq] at e
        obtain ⟨rfl, rfl, _⟩ := e
        exact h
      have HSV : Hid (∀ wx, Below w.heap.size w wx → wx.cell? ⟨bv, ofv + k, none⟩ = some (.int .i64 p.2)) := fun wx hb => by
        obtain ⟨b, o, e, h⟩ := (HV.out.below hb).at hpv
        simp only [Option.some.injEq, Addr.mk.injEq] at e
        obtain ⟨rfl, rfl, _⟩ := e
        exact h
      have sk1 := HSK.out wr hI.bel
      have sv1 := HSV.out wr hI.bel
      have k0 : (0 : Int) ≤ (k : Int) := by omega
      have hlti : (k : Int) < (n : Int) := by omega
      have f5 : IntKind.i64.wrap ((k : Int) + 1) = (k : Int) + 1 := by have := HNL.out; rw [IntKind.wrap_i64]; omega
      have HTK : Hid (l.take (k + 1) = l.take k ++ [p]) := take_kv hp
      have HLK : Hid ((kyV (woK (l.take k) s)).length < 1000000) := by
        show _ < _
        have h1 := wo_len (l.take k) s
        rw [List.length_take] at h1
        have h2 := HNL.out
        unfold kyV
        rw [List.length_map]
        omega
      have HLV : Hid ((vlV (woK (l.take k) s)).length < 1000000) := by
        show _ < _
        have h1 := wo_len (l.take k) s
        rw [List.length_take] at h1
        have h2 := HNL.out
        unfold vlV
        rw [List.length_map]
        omega
      have HFR : Hid (p.1 = s → fdK (l.take k) s = none) := fun e => by rw [← e]; exact fd_fresh HND.out hp
      obtain ⟨pk, pv⟩ := p
      by_cases hps : pk = s
      · have HE1 : Hid (fdK (l.take (k + 1)) s = some pv) := by show _ = _; rw [HTK.out, fd_snoc, HFR.out hps, if_pos hps]; rfl
        have HE2 : Hid (woK (l.take (k + 1)) s = woK (l.take k) s) := by show _ = _; rw [HTK.out, wo_snoc, if_pos hps, List.append_nil]
        have HEQ : Hid ((pk.toList == s.toList) = true) := by show _ = _; rw [str_eq]; exact decide_eq_true hps
        clear hI hpk hpv hp hps
        have tk4 : Hid True := trivial
        go_wp2_with (first
          | (clear tk4; with_reducible refine wpSeq_sEq pk s true (.tmp 29) (.tmp 30) HEQ.out ?_ ?_ ?_ ?_ ?_
             · rfl
             · rfl
             · rfl
             · rfl))
        go_roundw
        case rel => exact ⟨k + 1, hlt, by rw [HE1.out]; rfl, by rw [HE1.out]; rfl, rfl, _, _, by rw [HE2.out]; exact HW.out⟩
        case measure => simp [intOf]; omega
      · have HE1 : Hid (fdK (l.take (k + 1)) s = fdK (l.take k) s) := by show _ = _; rw [HTK.out, fd_snoc, if_neg hps]; cases fdK (l.take k) s <;> rfl
        have HE2 : Hid (woK (l.take (k + 1)) s = woK (l.take k) s ++ [(pk, pv)]) := by show _ = _; rw [HTK.out, wo_snoc, if_neg hps]
        have HEQ : Hid ((pk.toList == s.toList) = false) := by show _ = _; rw [str_eq]; exact decide_eq_false hps
        obtain ⟨ak2, ck2, hxk⟩ := hI.ok.form
        obtain ⟨av2, cv2, hxv⟩ := hI.ov.form
        obtain ⟨nk2, HNK2⟩ : ∃ z, Hid (z = (kyV (woK (l.take k) s)).length) := ⟨_, rfl⟩
        obtain ⟨nv2, HNV2⟩ : ∃ z, Hid (z = (vlV (woK (l.take k) s)).length) := ⟨_, rfl⟩
        rw [← HNK2.out] at hxk
        rw [← HNV2.out] at hxv
        subst hxk hxv
        clear hI hpk hpv hp hps
        have tk4 : Hid True := trivial
        go_wp2_with (first
          | (clear tk4; with_reducible refine wpSeq_sEq pk s false (.tmp 29) (.tmp 30) HEQ.out ?_ ?_ ?_ ?_ ?_
             · rfl
             · rfl
             · rfl
             · rfl))
        refine wp_region_held_drew (S := fun wx => Below w.heap.size w wx ∧ Blk wx gc [.int .i64 mo, .slice (some ⟨bk, ofk, none⟩) n ck, .slice (some ⟨bv, ofv, none⟩) n cv, .int .i64 hi, .int .i64 ms] 27) (by kernel_rfl) ⟨HW.out.drew.bel, HW.out.drew.cb⟩ ?_
        intro hS
        have hI := HW.out.drew
        clear HW
        change wpAnyH _ _ _ _ _ _ _ _ (World.drew wr)
        generalize World.drew wr = yA at *
        refine wpAnyH_take (i := 0) (v := .pointer (some ⟨go, 1, none⟩)) rfl (by kernel_rfl) (by kernel_rfl) (by kernel_rfl) (fun _ _ _ h => h) (Or.inl ⟨by rfl, fun wx hx => by simp [go_sem]⟩) hS ?_
        simp only [Act.put, List.getElem_toArray, List.getElem_cons_zero, List.setIfInBounds_toArray, List.set_cons_zero, List.set_cons_succ]
        refine wpAnyH_take (i := 2) (v := .pointer (some ⟨gc, 1, none⟩)) rfl (by kernel_rfl) (by kernel_rfl) (by kernel_rfl) (fun _ _ _ h => h) (Or.inl ⟨by rfl, fun wx hx => by simp [go_sem]⟩) hS ?_
        simp only [Act.put, List.getElem_toArray, List.getElem_cons_succ, List.getElem_cons_zero, List.setIfInBounds_toArray, List.set_cons_zero, List.set_cons_succ]
        refine wpAnyH_take (i := 4) (v := .int .i64 (k : Int)) rfl (by kernel_rfl) (by kernel_rfl) (by kernel_rfl) (fun _ _ _ h => h) (Or.inl ⟨by rfl, fun wx hx => by simp [go_sem]⟩) hS ?_
        simp only [Act.put, List.getElem_toArray, List.getElem_cons_succ, List.getElem_cons_zero, List.setIfInBounds_toArray, List.set_cons_zero, List.set_cons_succ]
        refine wpAnyH_take (i := 3) (v := .slice (some ⟨bk, ofk, none⟩) n ck) rfl (by kernel_rfl) (by kernel_rfl) (by kernel_rfl) (fun _ _ _ h => h) (Or.inl ⟨by rfl, fun wx hx => by (have hc := hx.2.cell 1; simp [go_sem, hc])⟩) hS ?_
        simp only [Act.put, List.getElem_toArray, List.getElem_cons_succ, List.getElem_cons_zero, List.setIfInBounds_toArray, List.set_cons_zero, List.set_cons_succ]
        refine wpAnyH_take (i := 5) (v := .pointer (some ⟨bk, ofk + k, none⟩)) rfl (by kernel_rfl) (by kernel_rfl) (by kernel_rfl) (fun _ _ _ h => h) (Or.inl ⟨by rfl, fun wx hx => by (simp [go_sem, hlti, k0])⟩) hS ?_
        simp only [Act.put, List.getElem_toArray, List.getElem_cons_succ, List.getElem_cons_zero, List.setIfInBounds_toArray, List.set_cons_zero, List.set_cons_succ]
        refine wpAnyH_take (i := 6) (v := .string pk) rfl (by kernel_rfl) (by kernel_rfl) (by kernel_rfl) (fun _ _ _ h => h) (Or.inl ⟨by rfl, fun wx hx => by (have hc := HSK.out wx hx.1; simp [go_sem, hc])⟩) hS ?_
        simp only [Act.put, List.getElem_toArray, List.getElem_cons_succ, List.getElem_cons_zero, List.setIfInBounds_toArray, List.set_cons_zero, List.set_cons_succ]
        have hce : yA.cell? ⟨go, 1, none⟩ = some (.slice ak2 nk2 ck2) := hI.ob.cell 1
        have hce2 : (yA.alloc (.cells #[.string pk] 9)).cell? ⟨go, 1, none⟩ = some (.slice ak2 nk2 ck2) := (hI.ob.alloc _).cell 1
        have hS2 : Below w.heap.size w (yA.alloc (.cells #[.string pk] 9)) ∧ Blk (yA.alloc (.cells #[.string pk] 9)) gc [.int .i64 mo, .slice (some ⟨bk, ofk, none⟩) n ck, .slice (some ⟨bv, ofv, none⟩) n cv, .int .i64 hi, .int .i64 ms] 27 := ⟨hS.1.trans ((below_alloc yA _).mono hS.1.size), hS.2.alloc _⟩
        refine wpAnyH_comm 1 7 (.slice ak2 nk2 ck2) (.slice (some ⟨yA.heap.size, 0, none⟩) 1 1) (yA.alloc (.cells #[.string pk] 9)) (by kernel_rfl) rfl rfl (by rfl) (by rfl) (by rfl) (by rfl) (by simp [go_sem, hce]) (build_k1 _ _ _ pk rfl rfl _) (by simp [go_sem, hce2]) (build_k1 _ _ _ pk rfl rfl _) (by kernel_rfl) (by kernel_rfl) (by rfl) (by rfl) hS hS2 ?_
        simp only [Act.put, List.getElem_toArray, List.getElem_cons_succ, List.getElem_cons_zero, List.setIfInBounds_toArray, List.set_cons_zero, List.set_cons_succ]
        refine wpAnyH_law 8 (by kernel_rfl) rfl (by rfl) (wp_appK (.tmp 38) (.tmp 44) w.heap.size (.slice ak2 nk2 ck2) pk _ yA.heap.size (OwnR.app1 hI.ok _) (str1_blk yA pk) HLK.out hS2.1.size rfl rfl rfl ?_)
        intro z2 q2 ho2 hg2 hb2
        obtain ⟨a31, c31, hz2⟩ := ho2.form
        obtain ⟨n31, HN31⟩ : ∃ z : Nat, Hid (z = (kyV (woK (l.take k) s) ++ [Value.string pk]).length) := ⟨_, rfl⟩
        rw [← HN31.out] at hz2
        subst hz2
        obtain ⟨hsq, hob, hL⟩ := hI.stepK _ ho2 hg2 hb2
        have hcq := hob.cell 1
        have hfq := hob.frozen 1
        refine ⟨hsq, ?_⟩
        simp only [Act.put, List.getElem_toArray, List.getElem_cons_succ, List.getElem_cons_zero, List.setIfInBounds_toArray, List.set_cons_zero, List.set_cons_succ]
        refine wpAnyH_take (i := 9) (v := .pointer (some ⟨go, 1, none⟩)) rfl (by kernel_rfl) (by kernel_rfl) (by kernel_rfl) (fun _ _ _ h => h) (Or.inl ⟨by rfl, fun wx hx => by simp [go_sem]⟩) hsq ?_
        simp only [Act.put, List.getElem_toArray, List.getElem_cons_succ, List.getElem_cons_zero, List.setIfInBounds_toArray, List.set_cons_zero, List.set_cons_succ]
        refine wpAnyH_skip 10 (q2.setCell ⟨go, 1, none⟩ (.slice a31 n31 c31)) (by kernel_rfl) rfl (by rfl) (by simp [go_sem, hcq, hfq]) ⟨hL.bel, hL.cb⟩ ?_
        simp only [Act.put, List.getElem_toArray, List.getElem_cons_succ, List.getElem_cons_zero]
        refine wpAnyH_done (by kernel_rfl) ?_ _
        clear ho2 hg2 hb2 hsq hcq hfq hob hce hce2 hS2 hS hI
        generalize q2.setCell ⟨go, 1, none⟩ (.slice a31 n31 c31) = W1 at *
        have HW : Hid (WoG w gc gr go [.int .i64 mo, .slice (some ⟨bk, ofk, none⟩) n ck, .slice (some ⟨bv, ofv, none⟩) n cv, .int .i64 hi, .int .i64 ms] (.int .i64 mo) (.int .i64 hi) (.int .i64 ms) (kyV (woK (l.take k) s) ++ [.string pk]) (vlV (woK (l.take k) s)) (.slice a31 n31 c31) (.slice av2 nv2 cv2) W1) := hL
        clear hL
        go_wp2
        refine wp_region_held_drew (S := fun wx => Below w.heap.size w wx ∧ Blk wx gc [.int .i64 mo, .slice (some ⟨bk, ofk, none⟩) n ck, .slice (some ⟨bv, ofv, none⟩) n cv, .int .i64 hi, .int .i64 ms] 27) (by kernel_rfl) ⟨HW.out.drew.bel, HW.out.drew.cb⟩ ?_
        intro hS
        have hI := HW.out.drew
        clear HW
        change wpAnyH _ _ _ _ _ _ _ _ (World.drew W1)
        generalize World.drew W1 = yV at *
        refine wpAnyH_take (i := 0) (v := .pointer (some ⟨go, 2, none⟩)) rfl (by kernel_rfl) (by kernel_rfl) (by kernel_rfl) (fun _ _ _ h => h) (Or.inl ⟨by rfl, fun wx hx => by simp [go_sem]⟩) hS ?_
        simp only [Act.put, List.getElem_toArray, List.getElem_cons_zero, List.setIfInBounds_toArray, List.set_cons_zero, List.set_cons_succ]
        refine wpAnyH_take (i := 2) (v := .pointer (some ⟨gc, 2, none⟩)) rfl (by kernel_rfl) (by kernel_rfl) (by kernel_rfl) (fun _ _ _ h => h) (Or.inl ⟨by rfl, fun wx hx => by simp [go_sem]⟩) hS ?_
        simp only [Act.put, List.getElem_toArray, List.getElem_cons_succ, List.getElem_cons_zero, List.setIfInBounds_toArray, List.set_cons_zero, List.set_cons_succ]
        refine wpAnyH_take (i := 4) (v := .int .i64 (k : Int)) rfl (by kernel_rfl) (by kernel_rfl) (by kernel_rfl) (fun _ _ _ h => h) (Or.inl ⟨by rfl, fun wx hx => by simp [go_sem]⟩) hS ?_
        simp only [Act.put, List.getElem_toArray, List.getElem_cons_succ, List.getElem_cons_zero, List.setIfInBounds_toArray, List.set_cons_zero, List.set_cons_succ]
        refine wpAnyH_take (i := 3) (v := .slice (some ⟨bv, ofv, none⟩) n cv) rfl (by kernel_rfl) (by kernel_rfl) (by kernel_rfl) (fun _ _ _ h => h) (Or.inl ⟨by rfl, fun wx hx => by (have hc := hx.2.cell 2; simp [go_sem, hc])⟩) hS ?_
        simp only [Act.put, List.getElem_toArray, List.getElem_cons_succ, List.getElem_cons_zero, List.setIfInBounds_toArray, List.set_cons_zero, List.set_cons_succ]
        refine wpAnyH_take (i := 5) (v := .pointer (some ⟨bv, ofv + k, none⟩)) rfl (by kernel_rfl) (by kernel_rfl) (by kernel_rfl) (fun _ _ _ h => h) (Or.inl ⟨by rfl, fun wx hx => by (simp [go_sem, hlti, k0])⟩) hS ?_
        simp only [Act.put, List.getElem_toArray, List.getElem_cons_succ, List.getElem_cons_zero, List.setIfInBounds_toArray, List.set_cons_zero, List.set_cons_succ]
        refine wpAnyH_take (i := 6) (v := .int .i64 pv) rfl (by kernel_rfl) (by kernel_rfl) (by kernel_rfl) (fun _ _ _ h => h) (Or.inl ⟨by rfl, fun wx hx => by (have hc := HSV.out wx hx.1; simp [go_sem, hc])⟩) hS ?_
        simp only [Act.put, List.getElem_toArray, List.getElem_cons_succ, List.getElem_cons_zero, List.setIfInBounds_toArray, List.set_cons_zero, List.set_cons_succ]
        have hce : yV.cell? ⟨go, 2, none⟩ = some (.slice av2 nv2 cv2) := hI.ob.cell 2
        have hce2 : (yV.alloc (.cells #[.int .i64 pv] 3)).cell? ⟨go, 2, none⟩ = some (.slice av2 nv2 cv2) := (hI.ob.alloc _).cell 2
        have hS2 : Below w.heap.size w (yV.alloc (.cells #[.int .i64 pv] 3)) ∧ Blk (yV.alloc (.cells #[.int .i64 pv] 3)) gc [.int .i64 mo, .slice (some ⟨bk, ofk, none⟩) n ck, .slice (some ⟨bv, ofv, none⟩) n cv, .int .i64 hi, .int .i64 ms] 27 := ⟨hS.1.trans ((below_alloc yV _).mono hS.1.size), hS.2.alloc _⟩
        refine wpAnyH_comm 1 7 (.slice av2 nv2 cv2) (.slice (some ⟨yV.heap.size, 0, none⟩) 1 1) (yV.alloc (.cells #[.int .i64 pv] 3)) (by kernel_rfl) rfl rfl (by rfl) (by rfl) (by rfl) (by rfl) (by simp [go_sem, hce]) (build_i1 _ _ _ pv rfl rfl _) (by simp [go_sem, hce2]) (build_i1 _ _ _ pv rfl rfl _) (by kernel_rfl) (by kernel_rfl) (by rfl) (by rfl) hS hS2 ?_
        simp only [Act.put, List.getElem_toArray, List.getElem_cons_succ, List.getElem_cons_zero, List.setIfInBounds_toArray, List.set_cons_zero, List.set_cons_succ]
        refine wpAnyH_law 8 (by kernel_rfl) rfl (by rfl) (wp_appI (.tmp 48) (.tmp 54) w.heap.size (.slice av2 nv2 cv2) pv _ yV.heap.size (OwnR.app1 hI.ov _) (int1_blk yV pv) HLV.out hS2.1.size rfl rfl rfl ?_)
        intro z2 q2 ho2 hg2 hb2
        obtain ⟨a32, c32, hz2⟩ := ho2.form
        obtain ⟨n32, HN32⟩ : ∃ z : Nat, Hid (z = (vlV (woK (l.take k) s) ++ [Value.int .i64 pv]).length) := ⟨_, rfl⟩
        rw [← HN32.out] at hz2
        subst hz2
        obtain ⟨hsq, hob, hL⟩ := hI.stepV _ ho2 hg2 hb2
        have hcq := hob.cell 2
        have hfq := hob.frozen 2
        refine ⟨hsq, ?_⟩
        simp only [Act.put, List.getElem_toArray, List.getElem_cons_succ, List.getElem_cons_zero, List.setIfInBounds_toArray, List.set_cons_zero, List.set_cons_succ]
        refine wpAnyH_take (i := 9) (v := .pointer (some ⟨go, 2, none⟩)) rfl (by kernel_rfl) (by kernel_rfl) (by kernel_rfl) (fun _ _ _ h => h) (Or.inl ⟨by rfl, fun wx hx => by simp [go_sem]⟩) hsq ?_
        simp only [Act.put, List.getElem_toArray, List.getElem_cons_succ, List.getElem_cons_zero, List.setIfInBounds_toArray, List.set_cons_zero, List.set_cons_succ]
        refine wpAnyH_skip 10 (q2.setCell ⟨go, 2, none⟩ (.slice a32 n32 c32)) (by kernel_rfl) rfl (by rfl) (by simp [go_sem, hcq, hfq]) ⟨hL.bel, hL.cb⟩ ?_
        simp only [Act.put, List.getElem_toArray, List.getElem_cons_succ, List.getElem_cons_zero]
        refine wpAnyH_done (by kernel_rfl) ?_ _
        clear ho2 hg2 hb2 hsq hcq hfq hob hce hce2 hS2 hS hI
        generalize q2.setCell ⟨go, 2, none⟩ (.slice a32 n32 c32) = W2 at *
        have HW : Hid (WoG w gc gr go [.int .i64 mo, .slice (some ⟨bk, ofk, none⟩) n ck, .slice (some ⟨bv, ofv, none⟩) n cv, .int .i64 hi, .int .i64 ms] (.int .i64 mo) (.int .i64 hi) (.int .i64 ms) (kyV (woK (l.take k) s) ++ [.string pk]) (vlV (woK (l.take k) s) ++ [.int .i64 pv]) (.slice a31 n31 c31) (.slice a32 n32 c32) W2) := hL
        clear hL
        go_wp2
        go_roundw
        case rel => exact ⟨k + 1, hlt, by rw [HE1.out], by rw [HE1.out], rfl, _, _, by rw [HE2.out]; unfold kyV vlV; rw [List.map_append, List.map_append]; exact HW.out⟩
        case measure => simp [intOf]; omega
    · have hkk : k = n := by omega
      subst hkk
      have HTA : Hid (l.take k = l) := List.take_of_length_le (by rw [← HN.out]; exact Nat.le_refl _)
      obtain ⟨ak2, ck2, hxk⟩ := hI.ok.form
      obtain ⟨av2, cv2, hxv⟩ := hI.ov.form
      obtain ⟨nk2, HNK2⟩ : ∃ z, Hid (z = (kyV (woK (l.take k) s)).length) := ⟨_, rfl⟩
      obtain ⟨nv2, HNV2⟩ : ∃ z, Hid (z = (vlV (woK (l.take k) s)).length) := ⟨_, rfl⟩
      rw [← HNK2.out] at hxk
      rw [← HNV2.out] at hxv
      subst hxk hxv
      obtain ⟨rv, HRV⟩ : ∃ x, Hid (x = (fdK (l.take k) s).getD 0) := ⟨_, rfl⟩
      obtain ⟨rt, HRT⟩ : ∃ x, Hid (x = (fdK (l.take k) s).isSome) := ⟨_, rfl⟩
      rw [← HRV.out, ← HRT.out]
      clear hI
      have tk4 : Hid True := trivial
      have tk5 : Hid True := trivial
      go_wp2_with (first
        | (clear tk4; with_reducible refine load_rc (.tmp 7) go _ _ _ _ _ HW.out.ob ?_ ?_ ?_ ?_
           · rfl
           · rfl
           · rfl)
        | (clear tk5; with_reducible refine wpSeq_storeRow 27 (.tmp 4) (.tmp 57) gr zRc [.int .i64 mo, .slice ak2 nk2 ck2, .slice av2 nv2 cv2, .int .i64 hi, .int .i64 ms] HW.out.rb rfl (info_rc _ _ _ _ _) ?_ ?_ ?_ ?_ ?_ ?_
           · exact one_rc _ _ _ ⟨rfl, rfl, rfl⟩ _ _ _ _ _ _
           · rfl
           · rfl
           · rfl
           · rfl
           intro y6 sr
           have HF : Hid (Blk y6 gr [.int .i64 mo, .slice ak2 nk2 ck2, .slice av2 nv2 cv2, .int .i64 hi, .int .i64 ms] 27) := sr.blk
           have HOK : Hid (OwnR 9 y6 w.heap.size (.slice ak2 nk2 ck2) (kyV (woK (l.take k) s))) := HW.out.ok.only HW.out.rb (by decide) sr.only
           have HOV : Hid (OwnR 3 y6 w.heap.size (.slice av2 nv2 cv2) (vlV (woK (l.take k) s))) := HW.out.ov.only HW.out.rb (by decide) sr.only
           have HBL : Hid (Below w.heap.size w y6) := HW.out.bel.trans (sr.only.below HGR.out HW.out.bel.size)
           clear sr))
      refine bodyPost_ret (results_row_tmp2 rfl _ _ gr _ rfl (run_loadVar_mid (P := Try.prog) _ gr 0 27 _ _ HF.out.range Try.underlying27 rfl (info_rc _ _ _ _ _))) rfl ?_
      refine ⟨.slice ak2 nk2 ck2, .slice av2 nv2 cv2, ?_, ⟨?_, ?_⟩, HBL.out⟩
      · rw [HTA.out] at HRV HRT; rw [← HRV.out, ← HRT.out]; rfl
      · have := HOK.out; rw [HTA.out] at this; exact this
      · have := HOV.out; rw [HTA.out] at this; exact this
end Go.Proofs.Ytgmemibhddnjjaa

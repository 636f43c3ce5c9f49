/- Rows of strings and of numbers; Keys of the cache (layer 16). -/
import Derived.Test.YtgmemibhddnjjaaKaNew
namespace Go.Proofs.Ytgmemibhddnjjaa
open Go.RowKit
set_option maxRecDepth 100000
/-- the slice v reads as the cells cs, in a block of type t -/
def RdV (t : TypeId) (w : World) (v : Value) (cs : List Value) : Prop := ∃ ad cap, v = .slice ad cs.length cap ∧ cs.length ≤ cap ∧ (0 < cs.length → ∃ b off ar, ad = some ⟨b, off, none⟩ ∧ w.heap[b]? = some (.cells ar t (0, 0)) ∧ ∀ (j : Nat) u, cs[j]? = some u → ar[off + j]? = some u)
def OwnR (t : TypeId) (w : World) (base : Nat) (v : Value) (cs : List Value) : Prop := w.ownsRow base t 1 v cs.length cs
theorem heap_lt {w : World} {b : Nat} {o : Obj} (h : w.heap[b]? = some o) : b < w.heap.size := (Array.getElem?_eq_some_iff.1 h).1
theorem RdV.same {t : TypeId} {w w' : World} {v : Value} {cs : List Value} (h : RdV t w v cs) (hs : ∀ (b : Nat) (ar : Array Value), w.heap[b]? = some (Obj.cells ar t (0, 0)) → w'.heap[b]? = w.heap[b]?) : RdV t w' v cs := by
  obtain ⟨ad, cap, h1, h2, h3⟩ := h
  refine ⟨ad, cap, h1, h2, fun hp => ?_⟩
  obtain ⟨b, off, ar, h4, h5, h6⟩ := h3 hp
  exact ⟨b, off, ar, h4, by rw [hs b ar h5]; exact h5, h6⟩
theorem RdV.below {t : TypeId} {w w' : World} {v : Value} {cs : List Value} (h : RdV t w v cs) (hb : Below w.heap.size w w') : RdV t w' v cs := h.same (fun b _ hh => hb.block b (heap_lt hh))
theorem RdV.drew {t : TypeId} {w : World} {v : Value} {cs : List Value} (h : RdV t w v cs) : RdV t w.drew v cs := h.same (fun _ _ _ => rfl)
theorem RdV.nil (t : TypeId) (w : World) : RdV t w (.slice none 0 0) [] := ⟨none, 0, rfl, Nat.le_refl _, fun h => by simp at h⟩
theorem RdV.form {t : TypeId} {w : World} {v : Value} {cs : List Value} (h : RdV t w v cs) : ∃ ad c, v = .slice ad cs.length c := by
  obtain ⟨ad, cap, h1, _⟩ := h
  exact ⟨ad, cap, h1⟩
theorem RdV.at {t : TypeId} {w : World} {ad : Option Addr} {n c : Nat} {cs : List Value} (h : RdV t w (.slice ad n c) cs) {j : Nat} {u : Value} (hj : cs[j]? = some u) : ∃ b off, ad = some ⟨b, off, none⟩ ∧ w.cell? ⟨b, off + j, none⟩ = some u := by
  obtain ⟨ad', cap, h1, h2, h3⟩ := h
  simp only [Value.slice.injEq] at h1
  obtain ⟨rfl, _, _⟩ := h1
  have hl := (List.getElem?_eq_some_iff.1 hj).1
  obtain ⟨b, off, ar, h4, h5, h6⟩ := h3 (by omega)
  refine ⟨b, off, h4, ?_⟩
  rw [cell_of_row w b (off + j) ar t (0, 0) h5]
  exact h6 j u hj
/-- a cache's calls leave rows of other types as they are -/
theorem RdV.mut {t : TypeId} {w w' : World} {v : Value} {cs : List Value} (h : RdV t w v cs) {g : Nat} {P : Nat → Prop} {C : KaT} (hc : CaIs w g P C) (m : Mut P w w') (h1 : t ≠ 56) (h2 : t ≠ 58) : RdV t w' v cs :=
  h.same (fun b _ hh => m.block b (heap_lt hh) (hc.ne hh h1 h2))
theorem OwnR.nil (t : TypeId) (w : World) (base : Nat) : OwnR t w base (.slice none 0 0) [] := World.ownsRow_nil _ _ _ _
theorem OwnR.rd {t : TypeId} {w : World} {base : Nat} {v : Value} {cs : List Value} (h : OwnR t w base v cs) : RdV t w v cs := by
  obtain ⟨h1, ⟨rfl, h2⟩ | ⟨g, cap, cur, rfl, hg, hh, hc, hm, hs, ht⟩⟩ := h
  · have : cs = [] := List.eq_nil_of_length_eq_zero h2
    subst this
    exact RdV.nil _ _
  · refine ⟨_, cap, rfl, hc, fun _ => ⟨g, 0, cur, rfl, hh, fun j u hj => ?_⟩⟩
    have hl := (List.getElem?_eq_some_iff.1 hj).1
    rw [Nat.mul_one] at ht
    rw [← ht, List.getElem?_take_of_lt hl] at hj
    simpa using hj
theorem OwnR.form {t : TypeId} {w : World} {base : Nat} {v : Value} {cs : List Value} (h : OwnR t w base v cs) : ∃ ad c, v = .slice ad cs.length c := h.rd.form
theorem OwnR.lt {t : TypeId} {w : World} {base : Nat} {v : Value} {cs : List Value} (h : OwnR t w base v cs) : ∀ k, v.ownBlock = some k → base ≤ k ∧ k < w.heap.size := fun k hk => World.ownsRow.lt h k hk
theorem OwnR.same {t : TypeId} {w w' : World} {base : Nat} {v : Value} {cs : List Value} (h : OwnR t w base v cs) (hs : ∀ (k : Nat) (ar : Array Value), w.heap[k]? = some (Obj.cells ar t (0, 0)) → v.ownBlock = some k → w'.heap[k]? = w.heap[k]?) : OwnR t w' base v cs := by
  obtain ⟨h1, ⟨rfl, h2⟩ | ⟨g, cap, cur, rfl, hg, hh, r⟩⟩ := h
  · exact ⟨h1, Or.inl ⟨rfl, h2⟩⟩
  · exact ⟨h1, Or.inr ⟨g, cap, cur, rfl, hg, by rw [hs g cur hh rfl]; exact hh, r⟩⟩
theorem OwnR.below {t : TypeId} {w w' : World} {base : Nat} {v : Value} {cs : List Value} (h : OwnR t w base v cs) (hb : Below w.heap.size w w') : OwnR t w' base v cs := h.same (fun k _ hh _ => hb.block k (heap_lt hh))
theorem OwnR.mono {t : TypeId} {w : World} {base base' : Nat} {v : Value} {cs : List Value} (h : OwnR t w base v cs) (hb : base' ≤ base) : OwnR t w base' v cs := by
  obtain ⟨h1, h2 | ⟨g, cap, cur, hv, hg, r⟩⟩ := h
  · exact ⟨h1, Or.inl h2⟩
  · exact ⟨h1, Or.inr ⟨g, cap, cur, hv, Nat.le_trans hb hg, r⟩⟩
theorem Try.infoStr : (Try.prog.info? 9).map (fun i => (i.zero, i.size, i.bytes)) = some (some (.string ⟨#[]⟩), 1, 16) := by kernel_rfl
theorem Try.infoInt : (Try.prog.info? 3).map (fun i => (i.zero, i.size, i.bytes)) = some (some (.int .i64 0), 1, 8) := by kernel_rfl
theorem app_row (ts te : TypeId) (ht : Try.prog.underlying ts = some (.slice te)) (z : Value) (by_ : Nat) (hinf : (Try.prog.info? te).map (fun i => (i.zero, i.size, i.bytes)) = some (some z, 1, by_)) (hz : z.cells.size = 1) (hby : by_ ≤ 16) {o : Oper} {a : Act} {w : World} {K : Act → World → Prop} {Q : Exit → Act → World → Prop} (s x : Operand) (base : Nat) (v u : Value) (cs : List Value) (g : Nat)
    (hown : OwnR te w base v cs) (hb : Blk w g [u] te) (h1 : u.oneCell' = true) (hlen : cs.length < 1000000) (hbase : base ≤ w.heap.size)
    (ho : o.op = .call { callee := .builtin .append, args := #[s, x], argTypes := #[ts, ts] }) (hs : a.eval s = v) (hx : a.eval x = .slice (some ⟨g, 0, none⟩) 1 1)
    (h : ∀ v' w', OwnR te w' base v' (cs ++ [u]) → w.grownBy w' v.ownBlock → Below base w w' → K (a.put o.dst v') w') : o.wp Try.prog a w K Q := by
  obtain ⟨i0, hi, hz0, hz1, hz2⟩ := info_parts hinf
  obtain ⟨v', w', hr, h2, h3, h4, h5⟩ := run_append_own_at (P := Try.prog) w base ts o.type te i0 z 1 by_ ht hi hz0 hz1 hz2 hz (by decide) v cs.length cs hown ⟨g, 0, none⟩ 1 1 [u] rfl (fun j q hj => by rw [Addr.add_mid, Nat.zero_add, hb.cell]; exact hj) (fun q hq => by rw [List.mem_singleton.1 hq]; exact h1) (by unfold maxLen; omega) (by have := Nat.mul_le_mul (show cs.length + 1 ≤ 1000000 by omega) hby; omega) hbase
  unfold Oper.wp execOp
  simp only [ho, resolve, invoke, builtin, Sem.run_bind, Sem.run_pure, Result.andThen_ok, List.map_toArray, List.map_cons, List.map_nil, hs, hx, hr]
  refine h v' w' ?_ h3 ((Below.refl _ _).grown h3 hbase (fun k hk => (hown.lt k hk).1))
  unfold OwnR
  rw [List.length_append]
  exact h2
/-- a string behind the own slice v -/
theorem wp_appK {o : Oper} {a : Act} {w : World} {K : Act → World → Prop} {Q : Exit → Act → World → Prop} (s x : Operand) (base : Nat) (v : Value) (u : ByteArray) (cs : List Value) (g : Nat)
    (hown : OwnR 9 w base v cs) (hb : Blk w g [.string u] 9) (hlen : cs.length < 1000000) (hbase : base ≤ w.heap.size)
    (ho : o.op = .call { callee := .builtin .append, args := #[s, x], argTypes := #[24, 24] }) (hs : a.eval s = v) (hx : a.eval x = .slice (some ⟨g, 0, none⟩) 1 1)
    (h : ∀ v' w', OwnR 9 w' base v' (cs ++ [.string u]) → w.grownBy w' v.ownBlock → Below base w w' → K (a.put o.dst v') w') : o.wp Try.prog a w K Q :=
  app_row 24 9 Try.underlying24 _ _ Try.infoStr rfl (by decide) s x base v _ cs g hown hb rfl hlen hbase ho hs hx h
theorem wp_appI {o : Oper} {a : Act} {w : World} {K : Act → World → Prop} {Q : Exit → Act → World → Prop} (s x : Operand) (base : Nat) (v : Value) (u : Int) (cs : List Value) (g : Nat)
    (hown : OwnR 3 w base v cs) (hb : Blk w g [.int .i64 u] 3) (hlen : cs.length < 1000000) (hbase : base ≤ w.heap.size)
    (ho : o.op = .call { callee := .builtin .append, args := #[s, x], argTypes := #[25, 25] }) (hs : a.eval s = v) (hx : a.eval x = .slice (some ⟨g, 0, none⟩) 1 1)
    (h : ∀ v' w', OwnR 3 w' base v' (cs ++ [.int .i64 u]) → w.grownBy w' v.ownBlock → Below base w w' → K (a.put o.dst v') w') : o.wp Try.prog a w K Q :=
  app_row 25 3 Try.underlying25 _ _ Try.infoInt rfl (by decide) s x base v _ cs g hown hb rfl hlen hbase ho hs hx h
theorem wpList_appK {ops : Array Oper} {rest : List Oper} {o : Oper} {a : Act} {w : World} {Q : Exit → Act → World → Prop} (s x : Operand) (base : Nat) (v : Value) (u : ByteArray) (cs : List Value) (g : Nat)
    (hown : OwnR 9 w base v cs) (hb : Blk w g [.string u] 9) (hlen : cs.length < 1000000) (hbase : base ≤ w.heap.size) (hgd : o.guard = none)
    (ho : o.op = .call { callee := .builtin .append, args := #[s, x], argTypes := #[24, 24] }) (hs : a.eval s = v) (hx : a.eval x = .slice (some ⟨g, 0, none⟩) 1 1)
    (h : ∀ v' w', OwnR 9 w' base v' (cs ++ [.string u]) → w.grownBy w' v.ownBlock → Below base w w' → wpList Try.prog ops Q rest (a.put o.dst v') w') : wpList Try.prog ops Q (o :: rest) a w :=
  wpList_plain hgd fun _ hK => wp_appK s x base v u cs g hown hb hlen hbase ho hs hx fun v' w' h2 h3 h4 => hK _ _ (h v' w' h2 h3 h4)
theorem wpList_appI {ops : Array Oper} {rest : List Oper} {o : Oper} {a : Act} {w : World} {Q : Exit → Act → World → Prop} (s x : Operand) (base : Nat) (v : Value) (u : Int) (cs : List Value) (g : Nat)
    (hown : OwnR 3 w base v cs) (hb : Blk w g [.int .i64 u] 3) (hlen : cs.length < 1000000) (hbase : base ≤ w.heap.size) (hgd : o.guard = none)
    (ho : o.op = .call { callee := .builtin .append, args := #[s, x], argTypes := #[25, 25] }) (hs : a.eval s = v) (hx : a.eval x = .slice (some ⟨g, 0, none⟩) 1 1)
    (h : ∀ v' w', OwnR 3 w' base v' (cs ++ [.int .i64 u]) → w.grownBy w' v.ownBlock → Below base w w' → wpList Try.prog ops Q rest (a.put o.dst v') w') : wpList Try.prog ops Q (o :: rest) a w :=
  wpList_plain hgd fun _ hK => wp_appI s x base v u cs g hown hb hlen hbase ho hs hx fun v' w' h2 h3 h4 => hK _ _ (h v' w' h2 h3 h4)
theorem make_k (c : Nat) (hc : c < 1000001) (w : World) : (Instr.makeSlice 24 (.int .i64 0) (.int .i64 (c : Int))).run Try.prog w =
    .ok (.slice (some ⟨w.heap.size, 0, none⟩) 0 c) (w.alloc (.cells (List.replicate c (Value.string ⟨#[]⟩)).toArray 9)) := by
  obtain ⟨i0, hi, hz0, hz1, hz2⟩ := info_parts Try.infoStr
  rw [show (Value.int .i64 0) = .int .i64 ((0 : Nat) : Int) from rfl, run_make (P := Try.prog) w 24 9 i0 _ Try.underlying24 hi hz0 .i64 .i64 _ _ (by omega) (by omega) (by rw [hz2]; omega) (by omega)]
  rw [Int.toNat_natCast, Int.toNat_natCast, hz1, Nat.mul_one]
  congr 3
  simp [madeCells, Value.cells, Nat.mod_one]
  apply Array.ext
  · simp
  · intro j h1 h2; simp
theorem own_make (w : World) (c : Nat) (hc : c < 1000001) : OwnR 9 (w.alloc (.cells (List.replicate c (Value.string ⟨#[]⟩)).toArray 9)) w.heap.size (.slice (some ⟨w.heap.size, 0, none⟩) 0 c) [] :=
  ⟨rfl, Or.inr ⟨w.heap.size, c, (List.replicate c (Value.string ⟨#[]⟩)).toArray, rfl, Nat.le_refl _, Blk.new w _ _, Nat.zero_le _, by unfold maxLen; omega, by simp, by simp⟩⟩
theorem wpSeq_makeK {ops : Array Oper} {Q : Exit → Act → World → Prop} {rest : List Oper} {o : Oper} {a : Act} {w : World} (x y : Operand) (c : Nat) (hc : c < 1000001) (ho : o.op = .makeSlice 24 x y) (hx : a.eval x = .int .i64 0) (hy : a.eval y = .int .i64 (c : Int)) (hw : Region.wanted o (yielded ops a.tmps) = true)
    (h : ∀ gv w', OwnR 9 w' w.heap.size (.slice (some ⟨gv, 0, none⟩) 0 c) [] → Below w.heap.size w w' → wpList Try.prog ops Q rest (a.put o.dst (.slice (some ⟨gv, 0, none⟩) 0 c)) w') : wpList Try.prog ops Q (o :: rest) a w := by
  refine wpSeq_val _ _ hw ?_ (h _ _ (own_make w c hc) (below_alloc _ _))
  unfold execOp
  rw [ho]
  simp only [hx, hy, Sem.run_bind, make_k c hc]
  rfl
structure KyI (w : World) (cs : List Value) (v : Value) (wr : World) : Prop where
  own : OwnR 9 wr w.heap.size v cs
  bel : Below w.heap.size w wr
def ptB : Value → Nat
  | .pointer none => 0
  | _ => 1
theorem str1_blk (w : World) (s : ByteArray) : Blk (w.alloc (.cells #[.string s] 9)) w.heap.size [.string s] 9 := Blk.new w [.string s] 9
theorem OwnR.app1 {t : TypeId} {w : World} {B : Nat} {v : Value} {cs : List Value} (h : OwnR t w B v cs) (o : Obj) : OwnR t (w.alloc o) B v cs := h.below (below_alloc w o)
set_option maxRecDepth 100000 in
set_option maxHeartbeats 800000 in
theorem kaKeys_any {w : World} {g : Nat} {P : Nat → Prop} {C : KaT} (h : CaIs w g P C) (hc : smC C) : Calls Try.prog 14 #[.pointer (some ⟨g, 0, none⟩)] w fun r w' => ∃ v, r = .returned v ∧ OwnR 9 w' w.heap.size v (C.l.map (fun p => Value.string p.1)) ∧ CaIs w' g P C ∧ Below w.heap.size w w' := by
  have HK : Hid (CaIs w g P C) := h
  obtain ⟨m, T, h1, hP⟩ := h
  obtain ⟨n, HN⟩ : ∃ n, Hid (n = T.length) := ⟨_, rfl⟩
  have HNL : Hid (n ≤ 1000000) := by show n ≤ 1000000; rw [HN.out, h1.len]; exact Nat.le_trans h1.ok.le hc.mo
  have c1 : w.cell? ⟨g, 1, none⟩ = some (.int .i64 (n : Int)) := by rw [HN.out]; exact h1.ring.me.cell 1
  have HR : Hid (Ring w g m C.most C.hits C.miss T) := h1.ring
  have HTL : Hid (T.map (fun x => Value.string x.2.1) = C.l.map (fun p => Value.string p.1)) := by show _ = _; rw [← h1.tl, List.map_map]; rfl
  have HC3 : Hid (∀ w', Below w.heap.size w w' → w'.cell? ⟨g, 3, none⟩ = some (ptK ((T[0]?).map (·.1)))) := fun w' hb => by
    rw [hb.cell (p := ⟨g, 3, none⟩) h1.ring.me.lt]
    exact h1.ring.me.cell 3
  clear h1 hP hc
  go_enter Try.func14, Try.ntmps14
  have tk0 : Hid True := trivial
  go_wp2_with (first
    | (clear tk0; with_reducible refine wpSeq_makeK (.const (.int .i64 0)) (.tmp 8) n (by have := HNL.out; omega) ?_ ?_ ?_ ?_ ?_
       · rfl
       · rfl
       · rfl
       · rfl
       intro gv y0 ow0 bl0
       have c3 := HC3.out y0 bl0
       have HI0 : Hid (KyI w ((T.take 0).map (fun x => Value.string x.2.1)) (.slice (some ⟨gv, 0, none⟩) 0 n) y0) := ⟨ow0, bl0⟩
       clear ow0 bl0))
  go_loopw [3, 4] (fun u t wr => ∃ k : Nat, k ≤ n ∧ t = ptK ((T[k]?).map (·.1)) ∧ KyI w ((T.take k).map (fun x => Value.string x.2.1)) u wr) (fun u t _ => n + 1 - sliceLen u)
  case atStart => exact ⟨0, Nat.zero_le _, rfl, HI0.out⟩
  case round =>
    obtain ⟨k, hk, rfl, hI⟩ := hrel
    have HI : Hid (KyI w ((T.take k).map (fun x => Value.string x.2.1)) u3 wr) := hI
    by_cases hlt : k < n
    · obtain ⟨x, hx⟩ : ∃ x, T[k]? = some x := ⟨_, List.getElem?_eq_getElem (by rw [← HN.out]; exact hlt)⟩
      have hB := (HR.out.th k x hx)
      have k0 : wr.cell? ⟨x.1, 0, none⟩ = some (.string x.2.1) := by rw [hI.bel.cell (p := ⟨x.1, 0, none⟩) hB.lt]; exact hB.cell 0
      have HK3 : Hid (∀ w', Below w.heap.size w w' → w'.cell? ⟨x.1, 3, none⟩ = some (ptK ((T[k + 1]?).map (·.1)))) := fun w' hb => by rw [hb.cell (p := ⟨x.1, 3, none⟩) hB.lt]; exact hB.cell 3
      have HTK : Hid ((T.take (k + 1)).map (fun x => Value.string x.2.1) = (T.take k).map (fun x => Value.string x.2.1) ++ [.string x.2.1]) := by show _ = _; rw [List.take_add_one, hx, List.map_append]; rfl
      have HLT : Hid (((T.take k).map (fun x => Value.string x.2.1)).length = k) := by show _ = _; rw [List.length_map, List.length_take, ← HN.out]; omega
      obtain ⟨au, cu, hu⟩ := hI.own.form
      rw [HLT.out] at hu
      rw [hx, show ptK (Option.map (fun y : ThT => y.1) (some x)) = .pointer (some ⟨x.1, 0, none⟩) from rfl]
      subst hu
      obtain ⟨xg, xk, xv⟩ := x
      clear hB hI hx
      have HNL2 : Hid (k < 1000000) := Nat.lt_of_lt_of_le hlt HNL.out
      go_wp2_with (first
        | (at_builtin; refine wpList_appK (.tmp 20) (.tmp 25) w.heap.size _ xk _ wr.heap.size (OwnR.app1 HI.out.own _) (str1_blk wr xk) (by rw [HLT.out]; exact HNL2.out) (Nat.le_trans HI.out.bel.size (below_alloc wr _).size) rfl rfl rfl rfl ?_
           intro v2 w2 ow2 gr2 bl2
           have hb2 : Below w.heap.size w w2 := (HI.out.bel.trans ((below_alloc wr _).mono HI.out.bel.size)).trans bl2
           have HI2 : Hid (KyI w ((T.take (k + 1)).map (fun x => Value.string x.2.1)) v2 w2) := ⟨by rw [HTK.out]; exact ow2, hb2⟩
           have k3 := HK3.out w2 hb2
           have HF2 : Hid (sliceLen v2 = k + 1) := by
             obtain ⟨a2, c2, e2⟩ := ow2.form
             rw [List.length_append, HLT.out] at e2
             rw [e2]
             rfl
           clear ow2 gr2 bl2 hb2))
      go_roundw
      case rel => exact ⟨k + 1, hlt, rfl, HI2.out⟩
      case measure =>
        have e1 := HF2.out
        rw [e1]
        show n + 1 - (k + 1) < n + 1 - k
        omega
    · have hkn : k = n := by omega
      subst hkn
      have hnn : T[k]? = none := List.getElem?_eq_none (by rw [← HN.out]; exact Nat.le_refl _)
      rw [hnn, show ptK (Option.map (fun y : ThT => y.1) none) = .pointer none from rfl]
      have HV : Hid (OwnR 9 wr w.heap.size u3 (C.l.map (fun p => Value.string p.1))) := by
        have h9 := hI.own
        rw [List.take_of_length_le (by rw [← HN.out]; exact Nat.le_refl _), HTL.out] at h9
        exact h9
      have HBL : Hid (Below w.heap.size w wr) := hI.bel
      clear hI hnn
      go_wp2
      go_ret
      exact ⟨_, rfl, HV.out, HK.out.below HBL.out, HBL.out⟩
end Go.Proofs.Ytgmemibhddnjjaa

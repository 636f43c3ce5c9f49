/- Texts that the proof leans on, one behind the other: The walk of tree.rising. The walks of tree's with and Put. The walk of tree's Prove. .. -/
import Derived.Test.YtphacinnnepdoaaDoorMge
import Derived.Test.YtphacinnnepdoaaDoorMgd
import Derived.Test.YtphacinnnepdoaaDoorRows
import Derived.Test.YtphacinnnepdoaaDoorMga
import Derived.ProofKit
import Derived.LaidMore
import Derived.OpenShut
import Derived.Stop.Joined
import Derived.Lib.LaidTab
import Derived.Carry
import Derived.ChangeSlices
import Derived.Test.YtphacinnnepdoaaDoorMgb
import Derived.Deep.Slices
/- The walk of tree.rising. -/
namespace Go.Proofs.YtphacinnnepdoaaDoor
open Go.Shelf Go.RowKit Go.Lib Go.Sort
def ptrs (ps : List (Nat × Lf)) : List Value := ps.map fun q => ptr q.1
/-- where rising's loop stands: leaves that were made, and the slice of them -/
structure Rg (w : World) (gl : Nat) (v : Value) (ps : List (Nat × Lf)) (W : World) : Prop where
  own : W.ownsRow gl 27 1 v ps.length (ptrs ps)
  leaf : ∀ q ∈ ps, TreeC W q.1 1 (dig (pairB 76 q.2.1 q.2.2)) q.2.1 q.2.2 (.pointer none) (.pointer none)
  ne : ∀ q ∈ ps, v.ownBlock ≠ some q.1
  up : ps.Pairwise fun p q => p.1 < q.1
  bel : Below gl w W
  ge : gl ≤ W.heap.size
  nil : ps = [] → v = .slice none 0 0
theorem own_keep {w w' : World} {base n : Nat} {v : Value} {cs : List Value} (h : w.ownsRow base 27 1 v n cs) (hs : ∀ k, base ≤ k → k < w.heap.size → w'.heap[k]? = w.heap[k]?) : w'.ownsRow base 27 1 v n cs := by
  have hlt := World.ownsRow.lt h
  rcases h with ⟨h1, ⟨rfl, h2⟩ | ⟨g, cap, cur, rfl, hg, hh, h3⟩⟩
  · exact ⟨h1, Or.inl ⟨rfl, h2⟩⟩
  · exact ⟨h1, Or.inr ⟨g, cap, cur, rfl, hg, by rw [hs g hg (hlt g rfl).2]; exact hh, h3⟩⟩
theorem Rg.next {w W W' : World} {gl : Nat} {v : Value} {ps : List (Nat × Lf)} (h : Rg w gl v ps W) (hb : Below W.heap.size W W') : Rg w gl v ps W' :=
  ⟨own_keep h.own fun k _ hk => hb.block k hk, fun q hq => (h.leaf q hq).next hb, h.ne, h.up, h.bel.trans (hb.mono h.ge), Nat.le_trans h.ge hb.size, h.nil⟩
theorem own_slice {w : World} {base n : Nat} {v : Value} {cs : List Value} (h : w.ownsRow base 27 1 v n cs) : ∃ ad c, v = .slice ad n c := by
  rcases h with ⟨_, ⟨rfl, h2⟩ | ⟨g, cap, cur, rfl, _⟩⟩
  · exact ⟨none, 0, by rw [h2]⟩
  · exact ⟨_, _, rfl⟩
theorem Tryd.infop : (Tryd.prog.info? 27).map (fun i => (i.zero, i.size, i.bytes)) = some (some (.pointer none), 1, 8) := by kernel_rfl
/-- one leaf more behind the slice -/
theorem wp_appendP {o : Oper} {a : Act} {w w0 : World} {K : Act → World → Prop} {Q : Exit → Act → World → Prop} (s x : Operand) (gl : Nat) (v : Value) (ps : List (Nat × Lf)) (q : Nat × Lf) (g : Nat)
    (hR : Rg w0 gl v ps w) (hu : Blk w g [ptr q.1] 27) (hq : TreeC w q.1 1 (dig (pairB 76 q.2.1 q.2.2)) q.2.1 q.2.2 (.pointer none) (.pointer none)) (hup : ∀ p ∈ ps, p.1 < q.1) (hnew : ∀ j, v.ownBlock = some j → j < q.1) (hl : ps.length < 2000000)
    (ho : o.op = .call { callee := .builtin .append, args := #[s, x], argTypes := #[55, 55] }) (hs : a.eval s = v) (hx : a.eval x = .slice (some ⟨g, 0, none⟩) 1 1)
    (h : ∀ v' w', Rg w0 gl v' (ps ++ [q]) w' → K (a.put o.dst v') w') : o.wp Tryd.prog a w K Q := by
  obtain ⟨i0, hi, hz0, hz1, hz2⟩ := info_parts Tryd.infop
  have hown := hR.own
  obtain ⟨v', w', hr, h2, h3, h4, h5⟩ := run_append_own_at (P := Tryd.prog) w gl 55 o.type 27 i0 (.pointer none) 1 8 Tryd.underlying55 hi hz0 hz1 hz2 rfl (by decide) v ps.length (ptrs ps) hown ⟨g, 0, none⟩ 1 1 [ptr q.1] rfl (by intro j u hj; rw [Addr.add_mid, Nat.zero_add, hu.cell, hj]) (by intro u hu; rw [List.mem_singleton] at hu; rw [hu]; rfl) (by unfold maxLen; omega) (by omega) hR.ge
  unfold Oper.wp execOp
  simp only [ho, resolve, invoke, builtin, Sem.run_bind, Sem.run_pure, Result.andThen_ok, List.map_toArray, List.map_cons, List.map_nil, hs, hx, hr]
  have hlt := World.ownsRow.lt hown
  have other : ∀ k, v.ownBlock ≠ some k → k < w.heap.size → w'.heap[k]? = w.heap[k]? := fun k hk hl => h3.block k hl (fun e => hk e.symm)
  have hbel : Below gl w w' := (Below.refl _ _).grown h3 hR.ge (fun k hk => (hlt k hk).1)
  refine h v' w' ⟨?_, fun p hp => ?_, fun p hp => ?_, ?_, hR.bel.trans hbel, Nat.le_trans hR.ge hbel.size, fun e => by simp at e⟩
  · rw [List.length_append]
    have e : ptrs (ps ++ [q]) = ptrs ps ++ [ptr q.1] := by unfold ptrs; rw [List.map_append]; rfl
    rw [e]
    exact h2
  · rcases List.mem_append.1 hp with hp | hp
    · exact (hR.leaf p hp).heap (other _ (hR.ne p hp) (hR.leaf p hp).blk.lt)
    · rw [List.mem_singleton] at hp; subst hp
      exact hq.heap (other _ (fun e => by have := hnew _ e; omega) hq.blk.lt)
  · rcases h5 with e | e
    · rw [e]
      rcases List.mem_append.1 hp with hp | hp
      · exact hR.ne p hp
      · rw [List.mem_singleton] at hp; subst hp
        exact fun e => by have := hnew _ e; omega
    · rw [e]
      have hplt : p.1 < w.heap.size := by
        rcases List.mem_append.1 hp with hp | hp
        · exact (hR.leaf p hp).blk.lt
        · rw [List.mem_singleton] at hp; subst hp; exact hq.blk.lt
      exact fun e => by simp only [Option.some.injEq] at e; omega
  · rw [List.pairwise_append]
    exact ⟨hR.up, List.pairwise_singleton _ _, fun p hp r hr => by rw [List.mem_singleton] at hr; rw [hr]; exact hup p hp⟩
/-- behind the loop: a row, if there is a leaf -/
theorem Rg.row {w W : World} {gl n cap : Nat} {ad : Option Addr} {ps : List (Nat × Lf)} (h : Rg w gl (.slice ad n cap) ps W) (hn : ps.length = n) (h1 : 1 ≤ n) : ∃ B, ad = some ⟨B, 0, none⟩ ∧ gl ≤ B ∧ RowS W B n cap ps := by
  rcases h.own with ⟨e1, ⟨e2, e3⟩ | ⟨g, cp, cur, e2, hg, hh, hc, hm, hs, ht⟩⟩
  · omega
  · simp only [Value.slice.injEq] at e2
    obtain ⟨rfl, e4, rfl⟩ := e2
    have hlt := World.ownsRow.lt h.own
    refine ⟨g, rfl, hg, ⟨hn, by omega, (hlt g rfl).2, fun j hj => ?_, fun j _ => frozen_of_row W g j cur 27 hh, h.leaf, fun q hq e => h.ne q hq (by rw [e]; rfl), h.up⟩⟩
    rw [cell_of_row W g _ cur 27 (0, 0) hh]
    have h2 : (cur.toList.take (ps.length * 1))[j]? = (ptrs ps)[j]? := by rw [ht]
    rw [List.getElem?_take, if_pos (by omega)] at h2
    rw [← Array.getElem?_toList, h2]
    unfold ptrs
    rw [List.getElem?_map, List.getElem?_eq_getElem (by omega), List.getD_eq_getElem?_getD, List.getElem?_eq_getElem (by omega)]
    rfl
set_option maxHeartbeats 1000000 in
theorem reverse_none (w : World) : Calls Tryd.prog 46 #[.slice none 0 0] w fun e w' => e = .returned (.tuple #[]) ∧ w' = w := by
  go_enter Tryd.func46, Tryd.ntmps46
  go_wp2
  go_loopg [2, 3] 0 (fun _ s2 s3 wr => s2 = .int .i64 0 ∧ s3 = .int .i64 (-1) ∧ wr = w)
  case atStart => exact ⟨rfl, rfl, rfl⟩
  case round =>
    obtain ⟨rfl, rfl, rfl⟩ := hrel
    go_wp2
    go_end0
    exact ⟨rfl, rfl⟩
set_option maxHeartbeats 1000000 in
theorem insertion_none (g : Nat) (cb : Array Value) (w : World) : Calls Tryd.prog 72 #[.slice none 0 0, .int .i64 0, .int .i64 0, .func (.func g) #[] cb] w fun e w' => e = .returned (.tuple #[]) ∧ w' = w := by
  go_enter Tryd.func72, Tryd.ntmps72
  go_wp2
  go_loopg [8] 0 (fun _ s8 wr => s8 = .int .i64 1 ∧ wr = w)
  case atStart => exact ⟨rfl, rfl⟩
  case round =>
    obtain ⟨rfl, rfl⟩ := hrel
    go_wp2
    go_end0
    exact ⟨rfl, rfl⟩
set_option maxHeartbeats 1000000 in
theorem stable_none (g : Nat) (cb : Array Value) (w W0 : World) (hw : w = W0) : Calls Tryd.prog 63 #[.slice none 0 0, .int .i64 0, .func (.func g) #[] cb] w fun e w' => e = .returned (.tuple #[]) ∧ w' = W0 := by
  have HW : Hid (w = W0) := hw
  clear hw
  go_enter Tryd.func63, Tryd.ntmps63
  go_wp2
  go_loopg [7, 8] 0 (fun _ s7 s8 wr => s7 = .int .i64 0 ∧ s8 = .int .i64 20 ∧ Hid (wr = W0))
  case atStart => exact ⟨rfl, rfl, HW⟩
  case round =>
    clear HW
    obtain ⟨rfl, rfl, HW⟩ := hrel
    go_wp2_with (go_at_call 72; refine (insertion_none g cb _).mono ?_; rintro e w2 ⟨rfl, hq⟩; rw [hq]; clear hq w2)
    go_loopg [6] 0 (fun _ s6 wx => s6 = .int .i64 20 ∧ Hid (wx = W0))
    case atStart => exact ⟨rfl, HW⟩
    case round =>
      clear HW
      obtain ⟨rfl, HW⟩ := hrel
      go_wp2
      go_end0
      exact ⟨rfl, HW.out⟩
theorem sortStable_none (g : Nat) (cb : Array Value) (w : World) : Calls Tryd.prog 47 #[.slice none 0 0, .func (.func g) #[] cb] w fun e w' => e = .returned (.tuple #[]) ∧ w' = w := by
  go_enter Tryd.func47, Tryd.ntmps47
  go_wp2_with (go_at_call 63; refine (stable_none g cb _ _ rfl).mono ?_; rintro e w2 ⟨rfl, rfl⟩)
  go_end0
  exact ⟨rfl, rfl⟩
theorem compact_none (g : Nat) (cb : Array Value) (w : World) : Calls Tryd.prog 50 #[.slice none 0 0, .func (.func g) #[] cb] w fun e w' => e = .returned (.slice none 0 0) ∧ w' = w := by
  go_enter Tryd.func50, Tryd.ntmps50
  go_wp2
  go_ret
  exact ⟨rfl, rfl⟩
theorem buildP (f : Operand → Value) (o : Oper) (x : Operand) (ho : o.op = .buildSlice 55 1 #[(0, x)]) (g : Nat) (hx : f x = .pointer (some ⟨g, 0, none⟩)) (w : World) : (execOp f o).run Tryd.prog w = .ok (.value (.slice (some ⟨w.heap.size, 0, none⟩) 1 1)) (w.alloc (.cells [ptr g].toArray 27)) := by
  unfold execOp
  rw [ho]
  simp only [List.map_toArray, List.map_cons, List.map_nil, hx]
  kernel_rfl
set_option maxRecDepth 100000 in
set_option maxHeartbeats 8000000 in
theorem trRising_any (w : World) (vt vu : Value) (ds es : List (List (BitVec 8))) (hK : KOk w) (hA : ReadsD w vt ds) (hB : ReadsD w vu es) (hl : ds.length < 50000) :
    Calls Tryd.prog 27 #[vt, vu] w fun e w' => ∃ ad B n cap qs, e = .returned (.slice ad n cap) ∧ qs.length = n ∧ n ≤ cap ∧ (n = 0 ∨ ad = some ⟨B, 0, none⟩) ∧ n < 100000 ∧ LvRow w' B 0 qs ∧ qs.map (·.2) = ofL (ds.zip es) ∧ Below w.heap.size w w' := by
  have HK : Hid (KOk w) := hK
  have HRA : Hid (ReadsD w vt ds) := hA
  have HRB : Hid (ReadsD w vu es) := hB
  obtain ⟨na, HNA⟩ : ∃ n, Hid (n = ds.length) := ⟨_, rfl⟩
  obtain ⟨nb, HNB⟩ : ∃ n, Hid (n = es.length) := ⟨_, rfl⟩
  obtain ⟨ada, cpa, hva⟩ := hA.slice
  obtain ⟨adb, cpb, hvb⟩ := hB.slice
  rw [← HNA.out] at hva
  rw [← HNB.out] at hvb
  subst hva hvb
  obtain ⟨gl, HGL⟩ : ∃ g, Hid (g = w.heap.size) := ⟨_, rfl⟩
  obtain ⟨m, hm1, hm2, hm3⟩ : ∃ m, m ≤ na ∧ m ≤ nb ∧ (na ≤ m ∨ nb ≤ m) := ⟨min na nb, by omega, by omega, by omega⟩
  have hna : na < 50000 := by rw [HNA.out]; exact hl
  have HI : Hid (Rg w gl (.slice none 0 0) [] w) := by
    rw [HGL.out]
    exact ⟨World.ownsRow_nil _ _ _ _, fun q hq => by simp at hq, fun q hq => by simp at hq, List.Pairwise.nil, Below.refl _ _, Nat.le_refl _, fun _ => rfl⟩
  clear hK hA hB hl
  have emin : min (na : Int) (nb : Int) = (m : Int) := by omega
  go_enter Tryd.func27, Tryd.ntmps27
  go_wp2_with fail
  clear emin
  go_loopg [5, 12] m (fun kx s5 s12 wr => ∃ (k : Nat) (v : Value) (ps : List (Nat × Lf)), s5 = v ∧ s12 = .int .i64 (k : Int) ∧ k ≤ m ∧ m - k ≤ kx ∧ Hid (Rg w gl v ps wr) ∧ Hid (ps.map (·.2) = (ds.zip es).take k))
  case atStart => exact ⟨0, _, [], rfl, rfl, by omega, by omega, HI, rfl⟩
  case round =>
    clear HI
    obtain ⟨k, v, ps, rfl, rfl, hkm, hkx, HG, HP⟩ := hrel
    obtain ⟨nv, HNV⟩ : ∃ z : Nat, Hid (z = ps.length) := ⟨_, rfl⟩
    obtain ⟨adv, cpv, hvv⟩ := own_slice HG.out.own
    rw [← HNV.out] at hvv
    subst hvv
    have HKN : Hid (nv = k) := by
      have := congrArg List.length HP.out
      rw [List.length_map, ← HNV.out, List.length_take, List.length_zip, ← HNA.out, ← HNB.out] at this
      show _ = _
      omega
    by_cases hlt : k < m
    · have hltz : (k : Int) < (m : Int) := by omega
      have hkd : k < ds.length := by rw [← HNA.out]; omega
      have hke : k < es.length := by rw [← HNB.out]; omega
      obtain ⟨ba, offa, cpa', hva, hya⟩ := HRA.out.at (by omega)
      obtain ⟨bb, offb, cpb', hvb, hyb⟩ := HRB.out.at (by omega)
      simp only [Value.slice.injEq] at hva hvb
      obtain ⟨rfl, hq1, rfl⟩ := hva
      obtain ⟨rfl, hq2, rfl⟩ := hvb
      clear hq1 hq2
      obtain ⟨dx, HDX⟩ : ∃ d, Hid (d = ds.getD k []) := ⟨_, rfl⟩
      obtain ⟨dv, HDV⟩ : ∃ d, Hid (d = es.getD k []) := ⟨_, rfl⟩
      have HX32 : Hid (dx.length = 32) := by show _ = _; rw [HDX.out]; exact getD_mem32 HRA.out.2 hkd
      have HV32 : Hid (dv.length = 32) := by show _ = _; rw [HDV.out]; exact getD_mem32 HRB.out.2 hke
      have HXA : Hid (∀ wx, Below gl w wx → wx.rangeAt ba (offa + k * 32) (cb dx)) := fun wx hx => by
        have h := hya k hkd
        rw [← HDX.out] at h
        exact rangeAt_below h hx (by rw [HGL.out]; exact rangeAt_lt h HX32.out)
      have HXB : Hid (∀ wx, Below gl w wx → wx.rangeAt bb (offb + k * 32) (cb dv)) := fun wx hx => by
        have h := hyb k hke
        rw [← HDV.out] at h
        exact rangeAt_below h hx (by rw [HGL.out]; exact rangeAt_lt h HV32.out)
      have HZ : Hid ((ds.zip es).take (k + 1) = (ds.zip es).take k ++ [(dx, dv)]) := by show _ = _; rw [zip_take hkd hke, HDX.out, HDV.out]
      have HLL : Hid (ps.length < 2000000) := by show _ < _; have h1 := HNV.out; have h2 := HKN.out; omega
      clear hya hyb hkd hke HDX HDV
      have k0 : (0 : Int) ≤ (k : Int) := by omega
      have ka : (k : Int) < (na : Int) := by omega
      have kb : (k : Int) < (nb : Int) := by omega
      have rk : IntKind.i64.wrap ((k : Int) + 1) = (k : Int) + 1 := by rw [IntKind.wrap_i64]; omega
      go_upto_region 5 with fail
      refine wp_region_held_drew (S := Below gl w) (by kernel_rfl) (HG.out.next (Below.refl _ wr).drew).bel ?_
      intro hS
      have hI := HG.out.next (Below.refl _ wr).drew
      clear HG
      change wpAnyH _ _ _ _ _ _ _ _ (World.drew wr)
      generalize World.drew wr = y0 at *
      refine wpAnyH_take (i := 0) (v := .slice adv nv cpv) rfl (by kernel_rfl) (by kernel_rfl) (by kernel_rfl) (fun _ _ _ h => h) (Or.inl ⟨by rfl, fun wx hx => by simp [go_sem]⟩) hS ?_
      simp only [Act.put, List.getElem_toArray, List.getElem_cons_zero, List.setIfInBounds_toArray, List.set_cons_zero, List.set_cons_succ]
      refine wpAnyH_take (i := 1) (v := .slice (some ⟨ba, offa, none⟩) na cpa) rfl (by kernel_rfl) (by kernel_rfl) (by kernel_rfl) (fun _ _ _ h => h) (Or.inl ⟨by rfl, fun wx hx => by simp [go_sem]⟩) hS ?_
      simp only [Act.put, List.getElem_toArray, List.getElem_cons_succ, List.getElem_cons_zero, List.setIfInBounds_toArray, List.set_cons_zero, List.set_cons_succ]
      refine wpAnyH_take (i := 2) (v := .int .i64 (k : Int)) rfl (by kernel_rfl) (by kernel_rfl) (by kernel_rfl) (fun _ _ _ h => h) (Or.inl ⟨by rfl, fun wx hx => by simp [go_sem]⟩) hS ?_
      simp only [Act.put, List.getElem_toArray, List.getElem_cons_succ, List.getElem_cons_zero, List.setIfInBounds_toArray, List.set_cons_zero, List.set_cons_succ]
      refine wpAnyH_take (i := 3) (v := .pointer (some ⟨ba, offa + k * 32, none⟩)) rfl (by kernel_rfl) (by kernel_rfl) (by kernel_rfl) (fun _ _ _ h => h) (Or.inl ⟨by rfl, fun wx hx => by (simp [go_sem, ka, k0])⟩) hS ?_
      simp only [Act.put, List.getElem_toArray, List.getElem_cons_succ, List.getElem_cons_zero, List.setIfInBounds_toArray, List.set_cons_zero, List.set_cons_succ]
      refine wpAnyH_take (i := 4) (v := .agg (cb dx).toArray) rfl (by kernel_rfl) (by kernel_rfl) (by kernel_rfl) (fun _ _ _ h => h) (Or.inl ⟨by rfl, fun wx hx => by exact load_run 24 _ rfl _ _ rfl (cb dx) _ (HXA.out wx hx) Tryd.underlying24 rfl (by rw [cb_len, HX32.out]; exact info_digest)⟩) hS ?_
      simp only [Act.put, List.getElem_toArray, List.getElem_cons_succ, List.getElem_cons_zero, List.setIfInBounds_toArray, List.set_cons_zero, List.set_cons_succ]
      refine wpAnyH_take (i := 5) (v := .slice (some ⟨bb, offb, none⟩) nb cpb) rfl (by kernel_rfl) (by kernel_rfl) (by kernel_rfl) (fun _ _ _ h => h) (Or.inl ⟨by rfl, fun wx hx => by simp [go_sem]⟩) hS ?_
      simp only [Act.put, List.getElem_toArray, List.getElem_cons_succ, List.getElem_cons_zero, List.setIfInBounds_toArray, List.set_cons_zero, List.set_cons_succ]
      refine wpAnyH_take (i := 6) (v := .int .i64 (k : Int)) rfl (by kernel_rfl) (by kernel_rfl) (by kernel_rfl) (fun _ _ _ h => h) (Or.inl ⟨by rfl, fun wx hx => by simp [go_sem]⟩) hS ?_
      simp only [Act.put, List.getElem_toArray, List.getElem_cons_succ, List.getElem_cons_zero, List.setIfInBounds_toArray, List.set_cons_zero, List.set_cons_succ]
      refine wpAnyH_take (i := 7) (v := .pointer (some ⟨bb, offb + k * 32, none⟩)) rfl (by kernel_rfl) (by kernel_rfl) (by kernel_rfl) (fun _ _ _ h => h) (Or.inl ⟨by rfl, fun wx hx => by (simp [go_sem, kb, k0])⟩) hS ?_
      simp only [Act.put, List.getElem_toArray, List.getElem_cons_succ, List.getElem_cons_zero, List.setIfInBounds_toArray, List.set_cons_zero, List.set_cons_succ]
      refine wpAnyH_take (i := 8) (v := .agg (cb dv).toArray) rfl (by kernel_rfl) (by kernel_rfl) (by kernel_rfl) (fun _ _ _ h => h) (Or.inl ⟨by rfl, fun wx hx => by exact load_run 24 _ rfl _ _ rfl (cb dv) _ (HXB.out wx hx) Tryd.underlying24 rfl (by rw [cb_len, HV32.out]; exact info_digest)⟩) hS ?_
      simp only [Act.put, List.getElem_toArray, List.getElem_cons_succ, List.getElem_cons_zero, List.setIfInBounds_toArray, List.set_cons_zero, List.set_cons_succ]
      refine wpAnyH_enter 9 (by kernel_rfl) rfl (by rfl) (f := 36) (args := #[.agg (cb dx).toArray, .agg (cb dv).toArray]) (by simp [go_sem]) (trSingle_any dx dv HX32.out HV32.out _ (HK.out.below hI.bel (by rw [HGL.out]; exact HK.out.lt))) ?_
      rintro e y1 ⟨gN, rfl, hge, hcN, hbq⟩
      have hup : ∀ p ∈ ps, p.1 < gN := fun p hp => Nat.lt_of_lt_of_le (hI.leaf p hp).blk.lt hge
      have hnew : ∀ j, (Value.slice adv nv cpv).ownBlock = some j → j < gN := fun j hj => Nat.lt_of_lt_of_le (World.ownsRow.lt hI.own j hj).2 hge
      replace hI := hI.next hbq
      refine ⟨_, rfl, hI.bel, ?_⟩
      replace hS := hI.bel
      clear hbq hge
      simp only [Act.put, List.getElem_toArray, List.getElem_cons_succ, List.getElem_cons_zero, List.setIfInBounds_toArray, List.set_cons_zero, List.set_cons_succ]
      have hn1 := hI.next (below_alloc y1 (.cells [ptr gN].toArray 27))
      have hc1 := hcN.next (below_alloc y1 (.cells [ptr gN].toArray 27))
      have hu1 : Blk (y1.alloc (.cells [ptr gN].toArray 27)) y1.heap.size [ptr gN] 27 := Blk.new _ _ _
      refine wpAnyH_step 10 (.slice (some ⟨y1.heap.size, 0, none⟩) 1 1) (y1.alloc (.cells [ptr gN].toArray 27)) (by kernel_rfl) rfl (by rfl) (buildP _ _ _ rfl gN rfl _) hn1.bel ?_
      simp only [Act.put, List.getElem_toArray, List.getElem_cons_succ, List.getElem_cons_zero, List.setIfInBounds_toArray, List.set_cons_zero, List.set_cons_succ]
      refine wpAnyH_law 11 (by kernel_rfl) rfl (by rfl) (wp_appendP (.tmp 15) (.tmp 25) gl (.slice adv nv cpv) ps (gN, (dx, dv)) y1.heap.size hn1 hu1 hc1 hup hnew HLL.out rfl rfl rfl ?_)
      intro z9 q9 hJ
      refine ⟨hJ.bel, ?_⟩
      obtain ⟨a9, c9, hx9⟩ := own_slice hJ.own
      obtain ⟨n9, HN9⟩ : ∃ z : Nat, Hid (z = (ps ++ [(gN, (dx, dv))]).length) := ⟨_, rfl⟩
      rw [← HN9.out] at hx9
      subst hx9
      simp only [Act.put, List.getElem_toArray, List.getElem_cons_succ, List.getElem_cons_zero, List.setIfInBounds_toArray, List.set_cons_zero, List.set_cons_succ]
      refine wpAnyH_take (i := 12) (v := .slice a9 n9 c9) rfl (by kernel_rfl) (by kernel_rfl) (by kernel_rfl) (fun _ _ _ h => h) (Or.inl ⟨by rfl, fun wx hx => by simp [go_sem]⟩) hJ.bel ?_
      simp only [Act.put, List.getElem_toArray, List.getElem_cons_succ, List.getElem_cons_zero, List.setIfInBounds_toArray, List.set_cons_zero, List.set_cons_succ]
      refine wpAnyH_done (by kernel_rfl) ?_ _
      have HJ : Hid (Rg w gl (.slice a9 n9 c9) (ps ++ [(gN, (dx, dv))]) q9) := hJ
      clear hI hn1 hc1 hu1 hcN hup hnew hJ hS
      go_wp2_with fail
      go_roundg (m - (k + 1))
      case measure => omega
      case rel =>
        refine ⟨k + 1, _, ps ++ [(gN, (dx, dv))], rfl, by go_num, by omega, Nat.le_refl _, HJ, ?_⟩
        show _ = _
        rw [List.map_append, HP.out, HZ.out]
        rfl
    · have hltz : ¬ (k : Int) < (m : Int) := by omega
      have HPZ : Hid (ps.map (·.2) = ds.zip es) := by
        show _ = _
        rw [HP.out]
        refine List.take_of_length_le ?_
        rw [List.length_zip, ← HNA.out, ← HNB.out]
        omega
      have HBG : Hid (Below w.heap.size w wr) := by rw [← HGL.out]; exact HG.out.bel
      by_cases hz : nv = 0
      · subst hz
        have hps : ps = [] := List.length_eq_zero_iff.1 HNV.out.symm
        obtain ⟨e1, e2⟩ : adv = none ∧ cpv = 0 := by
          have e2 := HG.out.nil hps
          simp only [Value.slice.injEq] at e2
          exact ⟨e2.1, e2.2.2⟩
        subst e1 e2
        go_wp2_with (first
          | (go_at_call 46; refine (reverse_none _).mono ?_; rintro e w2 ⟨rfl, rfl⟩)
          | (go_at_call 47; refine (sortStable_none _ _ _).mono ?_; rintro e w2 ⟨rfl, rfl⟩)
          | (go_at_call 50; refine (compact_none _ _ _).mono ?_; rintro e w2 ⟨rfl, rfl⟩))
        go_ret
        exact ⟨none, 0, 0, 0, [], rfl, rfl, Nat.le_refl _, Or.inl rfl, by omega, ⟨fun k hk => absurd hk (Nat.not_lt_zero _), fun q hq => by simp at hq⟩, by rw [← HPZ.out, hps]; rfl, HBG.out⟩
      · obtain ⟨B, hB, hgB, hrow⟩ := HG.out.row HNV.out.symm (by omega)
        subst hB
        have HRW : Hid (RowS wr B nv cpv ps) := hrow
        have hnv : nv < 50000 := by have := HKN.out; omega
        have HGE : Hid (gl ≤ wr.heap.size) := HG.out.ge
        clear hrow HG
        go_wp2_with (first
          | (go_at_call 46; refine (row_reverse HRW.out (by omega) (by omega)).mono ?_; rintro e w2 ⟨rfl, hr1⟩
             have HR1 : Hid (Rv1 wr B nv ps w2) := hr1
             clear hr1)
          | (go_at_call 47; refine (row_sort HRW.out (by omega) HR1.out).mono ?_; rintro e w3 ⟨rfl, hr1⟩
             have HR2 : Hid (Rv2 wr B nv ps w3) := hr1
             clear hr1)
          | (go_at_call 50; refine (row_compact HRW.out (by omega) (by omega) HR2.out).mono ?_; rintro e w4 ⟨kk, qs, rfl, hq1, hq2, hq3, hq4, hq5⟩
             have HQ : Hid (qs.length = kk ∧ kk ≤ nv ∧ LvRow w4 B 0 qs ∧ qs.map (·.2) = ofL (ps.map (·.2)) ∧ ∀ (C : Nat) (w : World), Below C w wr → C ≤ B → C ≤ wr.heap.size → Below C w w4) := ⟨hq1, hq2, hq3, hq4, hq5⟩
             clear hq1 hq2 hq3 hq4 hq5))
        go_ret
        obtain ⟨q1, q2, q3, q4, q5⟩ := HQ.out
        exact ⟨_, B, kk, cpv, qs, rfl, q1, Nat.le_trans q2 HRW.out.cap, Or.inr rfl, by omega, q3, by rw [q4, HPZ.out], q5 _ _ HBG.out (by rw [← HGL.out]; exact hgB) (by rw [← HGL.out]; exact HGE.out)⟩
end Go.Proofs.YtphacinnnepdoaaDoor
/- The walks of tree's with and Put. -/
namespace Go.Proofs.YtphacinnnepdoaaDoor
open Go.RowKit
/-- the two trees a leaf is held against: t at g, with n leaves; the leaf at gl -/
structure Wt (w : World) (d g gl : Nat) (l : List Lf) (x v : List (BitVec 8)) : Prop where
  kok : KOk w
  tree : TreeIs w d g l
  leaf : TreeC w gl 1 (dig (pairB 76 x v)) x v (.pointer none) (.pointer none)
theorem Wt.next {w w' : World} {d g gl : Nat} {l : List Lf} {x v : List (BitVec 8)} (h : Wt w d g gl l x v) (hb : Below w.heap.size w w') : Wt w' d g gl l x v :=
  ⟨h.kok.below hb h.kok.lt, h.tree.next hb, h.leaf.next hb⟩
theorem Wt.cnt {w : World} {d g gl : Nat} {l : List Lf} {x v : List (BitVec 8)} (h : Wt w d g gl l x v) : w.cell? ⟨g, 0, none⟩ = some (.int .i64 (l.length : Int)) := by
  obtain ⟨ix, vl, p, q, hc⟩ := h.tree.cells
  exact hc.cnt
def WithDoes (d g gl : Nat) (l : List Lf) (x v : List (BitVec 8)) (w : World) : Prop := Calls Tryd.prog 35 #[.pointer (some ⟨g, 0, none⟩), .pointer (some ⟨gl, 0, none⟩), .int .i64 (d : Int)] w fun e w' => ∃ g', e = .returned (.pointer (some ⟨g', 0, none⟩)) ∧ TreeIs w' d g' (putL l x v) ∧ Below w.heap.size w w'
set_option maxRecDepth 100000 in
set_option maxHeartbeats 4000000 in
theorem trWith_nil (w : World) (d g gl : Nat) (l : List Lf) (x v : List (BitVec 8)) (hW : Wt w d g gl l x v) (hl : l = []) : WithDoes d g gl l x v w := by
  unfold WithDoes
  have HW : Hid (Wt w d g gl l x v) := hW
  have HLN : Hid (l.length = 0) := by show _ = _; rw [hl]; rfl
  subst hl
  have hS0 : Hid (∀ wx, Over w.drew wx → Below w.heap.size w wx) := fun wx hx => Over.after hx (Below.refl _ w).drew
  clear hW
  go_enter Tryd.func35, Tryd.ntmps35
  go_wp2_with fail
  refine wp_region_held_drew (S := Over w.drew) (by kernel_rfl) (Over.refl _) ?_
  intro hS
  refine wpAnyH_take (i := 0) (v := .pointer (some ⟨g, 0, none⟩)) rfl (by kernel_rfl) (by kernel_rfl) (by kernel_rfl) (fun _ _ _ h => h) (Or.inl ⟨by rfl, fun wx hx => by simp [go_sem]⟩) hS ?_
  simp only [Act.put, List.getElem_toArray, List.getElem_cons_zero, List.setIfInBounds_toArray, List.set_cons_zero, List.set_cons_succ]
  refine wpAnyH_take (i := 1) (v := .pointer (some ⟨g, 0, none⟩)) rfl (by kernel_rfl) (by kernel_rfl) (by kernel_rfl) (fun _ _ _ h => h) (Or.inl ⟨by rfl, fun wx hx => by simp [go_sem]⟩) hS ?_
  simp only [Act.put, List.getElem_toArray, List.getElem_cons_succ, List.getElem_cons_zero, List.setIfInBounds_toArray, List.set_cons_zero, List.set_cons_succ]
  refine wpAnyH_take (i := 2) (v := .pointer (some ⟨g, 0, none⟩)) rfl (by kernel_rfl) (by kernel_rfl) (by kernel_rfl) (fun _ _ _ h => h) (Or.inl ⟨by rfl, fun wx hx => by simp [go_sem]⟩) hS ?_
  simp only [Act.put, List.getElem_toArray, List.getElem_cons_succ, List.getElem_cons_zero, List.setIfInBounds_toArray, List.set_cons_zero, List.set_cons_succ]
  refine wpAnyH_take (i := 3) (v := .int .i64 0) rfl (by kernel_rfl) (by kernel_rfl) (by kernel_rfl) (fun _ _ _ h => h) (Or.inl ⟨by rfl, fun wx hx => by (have hc := (HW.out.next (hS0.out wx hx)).cnt; simp [go_sem, hc])⟩) hS ?_
  simp only [Act.put, List.getElem_toArray, List.getElem_cons_succ, List.getElem_cons_zero, List.setIfInBounds_toArray, List.set_cons_zero, List.set_cons_succ]
  refine wpAnyH_take (i := 4) (v := .bool true) rfl (by kernel_rfl) (by kernel_rfl) (by kernel_rfl) (fun _ _ _ h => h) (Or.inl ⟨by rfl, fun wx hx => by simp [go_sem]⟩) hS ?_
  simp only [Act.put, List.getElem_toArray, List.getElem_cons_succ, List.getElem_cons_zero, List.setIfInBounds_toArray, List.set_cons_zero, List.set_cons_succ]
  refine wpAnyH_take (i := 5) (v := .bool true) rfl (by kernel_rfl) (by kernel_rfl) (by kernel_rfl) (fun _ _ _ h => h) (Or.inl ⟨by rfl, fun wx hx => by simp [go_sem]⟩) hS ?_
  simp only [Act.put, List.getElem_toArray, List.getElem_cons_succ, List.getElem_cons_zero, List.setIfInBounds_toArray, List.set_cons_zero, List.set_cons_succ]
  refine wpAnyH_take (i := 6) (v := undef) rfl (by kernel_rfl) (by kernel_rfl) (by kernel_rfl) (fun _ _ _ h => h) (Or.inr ⟨by rfl, rfl⟩) hS ?_
  simp only [Act.put, List.getElem_toArray, List.getElem_cons_succ, List.getElem_cons_zero, List.setIfInBounds_toArray, List.set_cons_zero, List.set_cons_succ]
  refine wpAnyH_take (i := 7) (v := undef) rfl (by kernel_rfl) (by kernel_rfl) (by kernel_rfl) (fun _ _ _ h => h) (Or.inr ⟨by rfl, rfl⟩) hS ?_
  simp only [Act.put, List.getElem_toArray, List.getElem_cons_succ, List.getElem_cons_zero, List.setIfInBounds_toArray, List.set_cons_zero, List.set_cons_succ]
  refine wpAnyH_take (i := 8) (v := undef) rfl (by kernel_rfl) (by kernel_rfl) (by kernel_rfl) (fun _ _ _ h => h) (Or.inr ⟨by rfl, rfl⟩) hS ?_
  simp only [Act.put, List.getElem_toArray, List.getElem_cons_succ, List.getElem_cons_zero, List.setIfInBounds_toArray, List.set_cons_zero, List.set_cons_succ]
  refine wpAnyH_take (i := 9) (v := undef) rfl (by kernel_rfl) (by kernel_rfl) (by kernel_rfl) (fun _ _ _ h => h) (Or.inr ⟨by rfl, rfl⟩) hS ?_
  simp only [Act.put, List.getElem_toArray, List.getElem_cons_succ, List.getElem_cons_zero, List.setIfInBounds_toArray, List.set_cons_zero, List.set_cons_succ]
  refine wpAnyH_take (i := 10) (v := undef) rfl (by kernel_rfl) (by kernel_rfl) (by kernel_rfl) (fun _ _ _ h => h) (Or.inr ⟨by rfl, rfl⟩) hS ?_
  simp only [Act.put, List.getElem_toArray, List.getElem_cons_succ, List.getElem_cons_zero, List.setIfInBounds_toArray, List.set_cons_zero, List.set_cons_succ]
  refine wpAnyH_take (i := 11) (v := undef) rfl (by kernel_rfl) (by kernel_rfl) (by kernel_rfl) (fun _ _ _ h => h) (Or.inr ⟨by rfl, rfl⟩) hS ?_
  simp only [Act.put, List.getElem_toArray, List.getElem_cons_succ, List.getElem_cons_zero, List.setIfInBounds_toArray, List.set_cons_zero, List.set_cons_succ]
  refine wpAnyH_take (i := 12) (v := undef) rfl (by kernel_rfl) (by kernel_rfl) (by kernel_rfl) (fun _ _ _ h => h) (Or.inr ⟨by rfl, rfl⟩) hS ?_
  simp only [Act.put, List.getElem_toArray, List.getElem_cons_succ, List.getElem_cons_zero, List.setIfInBounds_toArray, List.set_cons_zero, List.set_cons_succ]
  refine wpAnyH_take (i := 13) (v := undef) rfl (by kernel_rfl) (by kernel_rfl) (by kernel_rfl) (fun _ _ _ h => h) (Or.inr ⟨by rfl, rfl⟩) hS ?_
  simp only [Act.put, List.getElem_toArray, List.getElem_cons_succ, List.getElem_cons_zero, List.setIfInBounds_toArray, List.set_cons_zero, List.set_cons_succ]
  refine wpAnyH_take (i := 14) (v := undef) rfl (by kernel_rfl) (by kernel_rfl) (by kernel_rfl) (fun _ _ _ h => h) (Or.inr ⟨by rfl, rfl⟩) hS ?_
  simp only [Act.put, List.getElem_toArray, List.getElem_cons_succ, List.getElem_cons_zero, List.setIfInBounds_toArray, List.set_cons_zero, List.set_cons_succ]
  refine wpAnyH_take (i := 15) (v := undef) rfl (by kernel_rfl) (by kernel_rfl) (by kernel_rfl) (fun _ _ _ h => h) (Or.inr ⟨by rfl, rfl⟩) hS ?_
  simp only [Act.put, List.getElem_toArray, List.getElem_cons_succ, List.getElem_cons_zero, List.setIfInBounds_toArray, List.set_cons_zero, List.set_cons_succ]
  refine wpAnyH_take (i := 16) (v := undef) rfl (by kernel_rfl) (by kernel_rfl) (by kernel_rfl) (fun _ _ _ h => h) (Or.inr ⟨by rfl, rfl⟩) hS ?_
  simp only [Act.put, List.getElem_toArray, List.getElem_cons_succ, List.getElem_cons_zero, List.setIfInBounds_toArray, List.set_cons_zero, List.set_cons_succ]
  refine wpAnyH_take (i := 17) (v := undef) rfl (by kernel_rfl) (by kernel_rfl) (by kernel_rfl) (fun _ _ _ h => h) (Or.inr ⟨by rfl, rfl⟩) hS ?_
  simp only [Act.put, List.getElem_toArray, List.getElem_cons_succ, List.getElem_cons_zero, List.setIfInBounds_toArray, List.set_cons_zero, List.set_cons_succ]
  refine wpAnyH_take (i := 18) (v := undef) rfl (by kernel_rfl) (by kernel_rfl) (by kernel_rfl) (fun _ _ _ h => h) (Or.inr ⟨by rfl, rfl⟩) hS ?_
  simp only [Act.put, List.getElem_toArray, List.getElem_cons_succ, List.getElem_cons_zero, List.setIfInBounds_toArray, List.set_cons_zero, List.set_cons_succ]
  refine wpAnyH_take (i := 19) (v := undef) rfl (by kernel_rfl) (by kernel_rfl) (by kernel_rfl) (fun _ _ _ h => h) (Or.inr ⟨by rfl, rfl⟩) hS ?_
  simp only [Act.put, List.getElem_toArray, List.getElem_cons_succ, List.getElem_cons_zero, List.setIfInBounds_toArray, List.set_cons_zero, List.set_cons_succ]
  refine wpAnyH_take (i := 20) (v := undef) rfl (by kernel_rfl) (by kernel_rfl) (by kernel_rfl) (fun _ _ _ h => h) (Or.inr ⟨by rfl, rfl⟩) hS ?_
  simp only [Act.put, List.getElem_toArray, List.getElem_cons_succ, List.getElem_cons_zero, List.setIfInBounds_toArray, List.set_cons_zero, List.set_cons_succ]
  refine wpAnyH_take (i := 21) (v := undef) rfl (by kernel_rfl) (by kernel_rfl) (by kernel_rfl) (fun _ _ _ h => h) (Or.inr ⟨by rfl, rfl⟩) hS ?_
  simp only [Act.put, List.getElem_toArray, List.getElem_cons_succ, List.getElem_cons_zero, List.setIfInBounds_toArray, List.set_cons_zero, List.set_cons_succ]
  refine wpAnyH_take (i := 22) (v := .bool true) rfl (by kernel_rfl) (by kernel_rfl) (by kernel_rfl) (fun _ _ _ h => h) (Or.inl ⟨by rfl, fun wx hx => by simp [go_sem]⟩) hS ?_
  simp only [Act.put, List.getElem_toArray, List.getElem_cons_succ, List.getElem_cons_zero, List.setIfInBounds_toArray, List.set_cons_zero, List.set_cons_succ]
  refine wpAnyH_take (i := 23) (v := .bool true) rfl (by kernel_rfl) (by kernel_rfl) (by kernel_rfl) (fun _ _ _ h => h) (Or.inl ⟨by rfl, fun wx hx => by simp [go_sem]⟩) hS ?_
  simp only [Act.put, List.getElem_toArray, List.getElem_cons_succ, List.getElem_cons_zero, List.setIfInBounds_toArray, List.set_cons_zero, List.set_cons_succ]
  refine wpAnyH_done (by kernel_rfl) ?_ _
  go_wp2_with fail
  go_ret
  exact ⟨gl, rfl, .leaf d gl x v (HW.out.next (Below.refl _ w).drew).leaf, (Below.refl _ w).drew⟩
set_option maxRecDepth 100000 in
set_option maxHeartbeats 4000000 in
theorem trWith_same (w : World) (d g gl : Nat) (l : List Lf) (x v : List (BitVec 8)) (hW : Wt w d g gl l x v) (u : List (BitVec 8)) (hl : l = [(x, u)]) : WithDoes d g gl l x v w := by
  unfold WithDoes
  have HW : Hid (Wt w d g gl l x v) := hW
  subst hl
  have HX0 : Hid (x.length = 32) := HW.out.tree.one.l2
  have HX : Hid (x.length = 32) := HW.out.leaf.l2
  have heq : ∀ wx : World, (Op.equalIn 10000 24 (.agg (cb x).toArray) (.agg (cb x).toArray)).run Tryd.prog wx = .ok true wx := fun wx => eq_dig_same x HX.out wx
  have hS0 : Hid (∀ wx, Over w.drew wx → Below w.heap.size w wx) := fun wx hx => Over.after hx (Below.refl _ w).drew
  clear hW
  go_enter Tryd.func35, Tryd.ntmps35
  go_wp2_with fail
  refine wp_region_held_drew (S := Over w.drew) (by kernel_rfl) (Over.refl _) ?_
  intro hS
  refine wpAnyH_take (i := 0) (v := .pointer (some ⟨g, 0, none⟩)) rfl (by kernel_rfl) (by kernel_rfl) (by kernel_rfl) (fun _ _ _ h => h) (Or.inl ⟨by rfl, fun wx hx => by simp [go_sem]⟩) hS ?_
  simp only [Act.put, List.getElem_toArray, List.getElem_cons_zero, List.setIfInBounds_toArray, List.set_cons_zero, List.set_cons_succ]
  refine wpAnyH_take (i := 1) (v := .pointer (some ⟨g, 0, none⟩)) rfl (by kernel_rfl) (by kernel_rfl) (by kernel_rfl) (fun _ _ _ h => h) (Or.inl ⟨by rfl, fun wx hx => by simp [go_sem]⟩) hS ?_
  simp only [Act.put, List.getElem_toArray, List.getElem_cons_succ, List.getElem_cons_zero, List.setIfInBounds_toArray, List.set_cons_zero, List.set_cons_succ]
  refine wpAnyH_take (i := 2) (v := .pointer (some ⟨g, 0, none⟩)) rfl (by kernel_rfl) (by kernel_rfl) (by kernel_rfl) (fun _ _ _ h => h) (Or.inl ⟨by rfl, fun wx hx => by simp [go_sem]⟩) hS ?_
  simp only [Act.put, List.getElem_toArray, List.getElem_cons_succ, List.getElem_cons_zero, List.setIfInBounds_toArray, List.set_cons_zero, List.set_cons_succ]
  refine wpAnyH_take (i := 3) (v := .int .i64 1) rfl (by kernel_rfl) (by kernel_rfl) (by kernel_rfl) (fun _ _ _ h => h) (Or.inl ⟨by rfl, fun wx hx => by (have hc := (HW.out.next (hS0.out wx hx)).cnt; simp [go_sem, hc])⟩) hS ?_
  simp only [Act.put, List.getElem_toArray, List.getElem_cons_succ, List.getElem_cons_zero, List.setIfInBounds_toArray, List.set_cons_zero, List.set_cons_succ]
  refine wpAnyH_take (i := 4) (v := .bool false) rfl (by kernel_rfl) (by kernel_rfl) (by kernel_rfl) (fun _ _ _ h => h) (Or.inl ⟨by rfl, fun wx hx => by simp [go_sem]⟩) hS ?_
  simp only [Act.put, List.getElem_toArray, List.getElem_cons_succ, List.getElem_cons_zero, List.setIfInBounds_toArray, List.set_cons_zero, List.set_cons_succ]
  refine wpAnyH_take (i := 5) (v := .bool false) rfl (by kernel_rfl) (by kernel_rfl) (by kernel_rfl) (fun _ _ _ h => h) (Or.inl ⟨by rfl, fun wx hx => by simp [go_sem]⟩) hS ?_
  simp only [Act.put, List.getElem_toArray, List.getElem_cons_succ, List.getElem_cons_zero, List.setIfInBounds_toArray, List.set_cons_zero, List.set_cons_succ]
  refine wpAnyH_take (i := 6) (v := .pointer (some ⟨g, 0, none⟩)) rfl (by kernel_rfl) (by kernel_rfl) (by kernel_rfl) (fun _ _ _ h => h) (Or.inl ⟨by rfl, fun wx hx => by simp [go_sem]⟩) hS ?_
  simp only [Act.put, List.getElem_toArray, List.getElem_cons_succ, List.getElem_cons_zero, List.setIfInBounds_toArray, List.set_cons_zero, List.set_cons_succ]
  refine wpAnyH_take (i := 7) (v := .pointer (some ⟨g, 0, none⟩)) rfl (by kernel_rfl) (by kernel_rfl) (by kernel_rfl) (fun _ _ _ h => h) (Or.inl ⟨by rfl, fun wx hx => by simp [go_sem]⟩) hS ?_
  simp only [Act.put, List.getElem_toArray, List.getElem_cons_succ, List.getElem_cons_zero, List.setIfInBounds_toArray, List.set_cons_zero, List.set_cons_succ]
  refine wpAnyH_take (i := 8) (v := .pointer (some ⟨g, 0, none⟩)) rfl (by kernel_rfl) (by kernel_rfl) (by kernel_rfl) (fun _ _ _ h => h) (Or.inl ⟨by rfl, fun wx hx => by simp [go_sem]⟩) hS ?_
  simp only [Act.put, List.getElem_toArray, List.getElem_cons_succ, List.getElem_cons_zero, List.setIfInBounds_toArray, List.set_cons_zero, List.set_cons_succ]
  refine wpAnyH_take (i := 9) (v := .int .i64 1) rfl (by kernel_rfl) (by kernel_rfl) (by kernel_rfl) (fun _ _ _ h => h) (Or.inl ⟨by rfl, fun wx hx => by (have hc := (HW.out.next (hS0.out wx hx)).cnt; simp [go_sem, hc])⟩) hS ?_
  simp only [Act.put, List.getElem_toArray, List.getElem_cons_succ, List.getElem_cons_zero, List.setIfInBounds_toArray, List.set_cons_zero, List.set_cons_succ]
  refine wpAnyH_take (i := 10) (v := .bool true) rfl (by kernel_rfl) (by kernel_rfl) (by kernel_rfl) (fun _ _ _ h => h) (Or.inl ⟨by rfl, fun wx hx => by simp [go_sem]⟩) hS ?_
  simp only [Act.put, List.getElem_toArray, List.getElem_cons_succ, List.getElem_cons_zero, List.setIfInBounds_toArray, List.set_cons_zero, List.set_cons_succ]
  refine wpAnyH_take (i := 11) (v := .bool true) rfl (by kernel_rfl) (by kernel_rfl) (by kernel_rfl) (fun _ _ _ h => h) (Or.inl ⟨by rfl, fun wx hx => by simp [go_sem]⟩) hS ?_
  simp only [Act.put, List.getElem_toArray, List.getElem_cons_succ, List.getElem_cons_zero, List.setIfInBounds_toArray, List.set_cons_zero, List.set_cons_succ]
  refine wpAnyH_take (i := 12) (v := .pointer (some ⟨g, 0, none⟩)) rfl (by kernel_rfl) (by kernel_rfl) (by kernel_rfl) (fun _ _ _ h => h) (Or.inl ⟨by rfl, fun wx hx => by simp [go_sem]⟩) hS ?_
  simp only [Act.put, List.getElem_toArray, List.getElem_cons_succ, List.getElem_cons_zero, List.setIfInBounds_toArray, List.set_cons_zero, List.set_cons_succ]
  refine wpAnyH_take (i := 13) (v := .pointer (some ⟨g, 0, none⟩)) rfl (by kernel_rfl) (by kernel_rfl) (by kernel_rfl) (fun _ _ _ h => h) (Or.inl ⟨by rfl, fun wx hx => by simp [go_sem]⟩) hS ?_
  simp only [Act.put, List.getElem_toArray, List.getElem_cons_succ, List.getElem_cons_zero, List.setIfInBounds_toArray, List.set_cons_zero, List.set_cons_succ]
  refine wpAnyH_take (i := 14) (v := .pointer (some ⟨g, 33, none⟩)) rfl (by kernel_rfl) (by kernel_rfl) (by kernel_rfl) (fun _ _ _ h => h) (Or.inl ⟨by rfl, fun wx hx => by simp [go_sem]⟩) hS ?_
  simp only [Act.put, List.getElem_toArray, List.getElem_cons_succ, List.getElem_cons_zero, List.setIfInBounds_toArray, List.set_cons_zero, List.set_cons_succ]
  refine wpAnyH_take (i := 15) (v := .agg (cb x).toArray) rfl (by kernel_rfl) (by kernel_rfl) (by kernel_rfl) (fun _ _ _ h => h) (Or.inl ⟨by rfl, fun wx hx => by exact load_run 24 _ rfl _ _ rfl (cb x) _ ((HW.out.next (hS0.out wx hx)).tree.one.index) Tryd.underlying24 rfl (by rw [cb_len, HX.out]; exact info_digest)⟩) hS ?_
  simp only [Act.put, List.getElem_toArray, List.getElem_cons_succ, List.getElem_cons_zero, List.setIfInBounds_toArray, List.set_cons_zero, List.set_cons_succ]
  refine wpAnyH_take (i := 16) (v := .pointer (some ⟨gl, 0, none⟩)) rfl (by kernel_rfl) (by kernel_rfl) (by kernel_rfl) (fun _ _ _ h => h) (Or.inl ⟨by rfl, fun wx hx => by simp [go_sem]⟩) hS ?_
  simp only [Act.put, List.getElem_toArray, List.getElem_cons_succ, List.getElem_cons_zero, List.setIfInBounds_toArray, List.set_cons_zero, List.set_cons_succ]
  refine wpAnyH_take (i := 17) (v := .pointer (some ⟨gl, 0, none⟩)) rfl (by kernel_rfl) (by kernel_rfl) (by kernel_rfl) (fun _ _ _ h => h) (Or.inl ⟨by rfl, fun wx hx => by simp [go_sem]⟩) hS ?_
  simp only [Act.put, List.getElem_toArray, List.getElem_cons_succ, List.getElem_cons_zero, List.setIfInBounds_toArray, List.set_cons_zero, List.set_cons_succ]
  refine wpAnyH_take (i := 18) (v := .pointer (some ⟨gl, 33, none⟩)) rfl (by kernel_rfl) (by kernel_rfl) (by kernel_rfl) (fun _ _ _ h => h) (Or.inl ⟨by rfl, fun wx hx => by simp [go_sem]⟩) hS ?_
  simp only [Act.put, List.getElem_toArray, List.getElem_cons_succ, List.getElem_cons_zero, List.setIfInBounds_toArray, List.set_cons_zero, List.set_cons_succ]
  refine wpAnyH_take (i := 19) (v := .agg (cb x).toArray) rfl (by kernel_rfl) (by kernel_rfl) (by kernel_rfl) (fun _ _ _ h => h) (Or.inl ⟨by rfl, fun wx hx => by exact load_run 24 _ rfl _ _ rfl (cb x) _ ((HW.out.next (hS0.out wx hx)).leaf.index) Tryd.underlying24 rfl (by rw [cb_len, HX.out]; exact info_digest)⟩) hS ?_
  simp only [Act.put, List.getElem_toArray, List.getElem_cons_succ, List.getElem_cons_zero, List.setIfInBounds_toArray, List.set_cons_zero, List.set_cons_succ]
  refine wpAnyH_take (i := 20) (v := .bool true) rfl (by kernel_rfl) (by kernel_rfl) (by kernel_rfl) (fun _ _ _ h => h) (Or.inl ⟨by rfl, fun wx hx => by simp [go_sem, heq]⟩) hS ?_
  simp only [Act.put, List.getElem_toArray, List.getElem_cons_succ, List.getElem_cons_zero, List.setIfInBounds_toArray, List.set_cons_zero, List.set_cons_succ]
  refine wpAnyH_take (i := 21) (v := .bool true) rfl (by kernel_rfl) (by kernel_rfl) (by kernel_rfl) (fun _ _ _ h => h) (Or.inl ⟨by rfl, fun wx hx => by simp [go_sem]⟩) hS ?_
  simp only [Act.put, List.getElem_toArray, List.getElem_cons_succ, List.getElem_cons_zero, List.setIfInBounds_toArray, List.set_cons_zero, List.set_cons_succ]
  refine wpAnyH_take (i := 22) (v := .bool true) rfl (by kernel_rfl) (by kernel_rfl) (by kernel_rfl) (fun _ _ _ h => h) (Or.inl ⟨by rfl, fun wx hx => by simp [go_sem]⟩) hS ?_
  simp only [Act.put, List.getElem_toArray, List.getElem_cons_succ, List.getElem_cons_zero, List.setIfInBounds_toArray, List.set_cons_zero, List.set_cons_succ]
  refine wpAnyH_take (i := 23) (v := .bool true) rfl (by kernel_rfl) (by kernel_rfl) (by kernel_rfl) (fun _ _ _ h => h) (Or.inl ⟨by rfl, fun wx hx => by simp [go_sem]⟩) hS ?_
  simp only [Act.put, List.getElem_toArray, List.getElem_cons_succ, List.getElem_cons_zero, List.setIfInBounds_toArray, List.set_cons_zero, List.set_cons_succ]
  refine wpAnyH_done (by kernel_rfl) ?_ _
  go_wp2_with fail
  go_ret
  refine ⟨gl, rfl, ?_, (Below.refl _ w).drew⟩
  rw [putL_one]
  exact .leaf d gl x v (HW.out.next (Below.refl _ w).drew).leaf
set_option maxRecDepth 100000 in
set_option maxHeartbeats 4000000 in
theorem trWith_less (w : World) (d g gl : Nat) (l : List Lf) (x v : List (BitVec 8)) (hW : Wt w d g gl l x v) (y u : List (BitVec 8)) (hl : l = [(y, u)]) (hne : y ≠ x) (hls : lessB y x = true) (hF : Fits l d) (hN : Near l x d) (hd : d ≤ 256) : WithDoes d g gl l x v w := by
  unfold WithDoes
  have HW : Hid (Wt w d g gl l x v) := hW
  subst hl
  have HY : Hid (y.length = 32) := HW.out.tree.one.l2
  have HX : Hid (x.length = 32) := HW.out.leaf.l2
  have HLS : Hid (lessB y x = true) := hls
  have heq : ∀ wx : World, (Op.equalIn 10000 24 (.agg (cb y).toArray) (.agg (cb x).toArray)).run Tryd.prog wx = .ok false wx := fun wx => by
    have := eq_dig y x HY.out HX.out wx
    rw [decide_eq_false hne] at this
    exact this
  have HPU : Hid (putL [(y, u)] x v = [(y, u), (x, v)]) := by
    show _ = _
    unfold putL
    simp [hls]
  have HFP : Hid (Fits (putL [(y, u)] x v) d) := hF.put hN HX.out HW.out.leaf.l3
  clear hF hN hne hls
  have hS0 : Hid (∀ wx, Over w.drew wx → Below w.heap.size w wx) := fun wx hx => Over.after hx (Below.refl _ w).drew
  clear hW
  go_enter Tryd.func35, Tryd.ntmps35
  go_wp2_with fail
  refine wp_region_held_drew (S := Over w.drew) (by kernel_rfl) (Over.refl _) ?_
  intro hS
  refine wpAnyH_take (i := 0) (v := .pointer (some ⟨g, 0, none⟩)) rfl (by kernel_rfl) (by kernel_rfl) (by kernel_rfl) (fun _ _ _ h => h) (Or.inl ⟨by rfl, fun wx hx => by simp [go_sem]⟩) hS ?_
  simp only [Act.put, List.getElem_toArray, List.getElem_cons_zero, List.setIfInBounds_toArray, List.set_cons_zero, List.set_cons_succ]
  refine wpAnyH_take (i := 1) (v := .pointer (some ⟨g, 0, none⟩)) rfl (by kernel_rfl) (by kernel_rfl) (by kernel_rfl) (fun _ _ _ h => h) (Or.inl ⟨by rfl, fun wx hx => by simp [go_sem]⟩) hS ?_
  simp only [Act.put, List.getElem_toArray, List.getElem_cons_succ, List.getElem_cons_zero, List.setIfInBounds_toArray, List.set_cons_zero, List.set_cons_succ]
  refine wpAnyH_take (i := 2) (v := .pointer (some ⟨g, 0, none⟩)) rfl (by kernel_rfl) (by kernel_rfl) (by kernel_rfl) (fun _ _ _ h => h) (Or.inl ⟨by rfl, fun wx hx => by simp [go_sem]⟩) hS ?_
  simp only [Act.put, List.getElem_toArray, List.getElem_cons_succ, List.getElem_cons_zero, List.setIfInBounds_toArray, List.set_cons_zero, List.set_cons_succ]
  refine wpAnyH_take (i := 3) (v := .int .i64 1) rfl (by kernel_rfl) (by kernel_rfl) (by kernel_rfl) (fun _ _ _ h => h) (Or.inl ⟨by rfl, fun wx hx => by (have hc := (HW.out.next (hS0.out wx hx)).cnt; simp [go_sem, hc])⟩) hS ?_
  simp only [Act.put, List.getElem_toArray, List.getElem_cons_succ, List.getElem_cons_zero, List.setIfInBounds_toArray, List.set_cons_zero, List.set_cons_succ]
  refine wpAnyH_take (i := 4) (v := .bool false) rfl (by kernel_rfl) (by kernel_rfl) (by kernel_rfl) (fun _ _ _ h => h) (Or.inl ⟨by rfl, fun wx hx => by simp [go_sem]⟩) hS ?_
  simp only [Act.put, List.getElem_toArray, List.getElem_cons_succ, List.getElem_cons_zero, List.setIfInBounds_toArray, List.set_cons_zero, List.set_cons_succ]
  refine wpAnyH_take (i := 5) (v := .bool false) rfl (by kernel_rfl) (by kernel_rfl) (by kernel_rfl) (fun _ _ _ h => h) (Or.inl ⟨by rfl, fun wx hx => by simp [go_sem]⟩) hS ?_
  simp only [Act.put, List.getElem_toArray, List.getElem_cons_succ, List.getElem_cons_zero, List.setIfInBounds_toArray, List.set_cons_zero, List.set_cons_succ]
  refine wpAnyH_take (i := 6) (v := .pointer (some ⟨g, 0, none⟩)) rfl (by kernel_rfl) (by kernel_rfl) (by kernel_rfl) (fun _ _ _ h => h) (Or.inl ⟨by rfl, fun wx hx => by simp [go_sem]⟩) hS ?_
  simp only [Act.put, List.getElem_toArray, List.getElem_cons_succ, List.getElem_cons_zero, List.setIfInBounds_toArray, List.set_cons_zero, List.set_cons_succ]
  refine wpAnyH_take (i := 7) (v := .pointer (some ⟨g, 0, none⟩)) rfl (by kernel_rfl) (by kernel_rfl) (by kernel_rfl) (fun _ _ _ h => h) (Or.inl ⟨by rfl, fun wx hx => by simp [go_sem]⟩) hS ?_
  simp only [Act.put, List.getElem_toArray, List.getElem_cons_succ, List.getElem_cons_zero, List.setIfInBounds_toArray, List.set_cons_zero, List.set_cons_succ]
  refine wpAnyH_take (i := 8) (v := .pointer (some ⟨g, 0, none⟩)) rfl (by kernel_rfl) (by kernel_rfl) (by kernel_rfl) (fun _ _ _ h => h) (Or.inl ⟨by rfl, fun wx hx => by simp [go_sem]⟩) hS ?_
  simp only [Act.put, List.getElem_toArray, List.getElem_cons_succ, List.getElem_cons_zero, List.setIfInBounds_toArray, List.set_cons_zero, List.set_cons_succ]
  refine wpAnyH_take (i := 9) (v := .int .i64 1) rfl (by kernel_rfl) (by kernel_rfl) (by kernel_rfl) (fun _ _ _ h => h) (Or.inl ⟨by rfl, fun wx hx => by (have hc := (HW.out.next (hS0.out wx hx)).cnt; simp [go_sem, hc])⟩) hS ?_
  simp only [Act.put, List.getElem_toArray, List.getElem_cons_succ, List.getElem_cons_zero, List.setIfInBounds_toArray, List.set_cons_zero, List.set_cons_succ]
  refine wpAnyH_take (i := 10) (v := .bool true) rfl (by kernel_rfl) (by kernel_rfl) (by kernel_rfl) (fun _ _ _ h => h) (Or.inl ⟨by rfl, fun wx hx => by simp [go_sem]⟩) hS ?_
  simp only [Act.put, List.getElem_toArray, List.getElem_cons_succ, List.getElem_cons_zero, List.setIfInBounds_toArray, List.set_cons_zero, List.set_cons_succ]
  refine wpAnyH_take (i := 11) (v := .bool true) rfl (by kernel_rfl) (by kernel_rfl) (by kernel_rfl) (fun _ _ _ h => h) (Or.inl ⟨by rfl, fun wx hx => by simp [go_sem]⟩) hS ?_
  simp only [Act.put, List.getElem_toArray, List.getElem_cons_succ, List.getElem_cons_zero, List.setIfInBounds_toArray, List.set_cons_zero, List.set_cons_succ]
  refine wpAnyH_take (i := 12) (v := .pointer (some ⟨g, 0, none⟩)) rfl (by kernel_rfl) (by kernel_rfl) (by kernel_rfl) (fun _ _ _ h => h) (Or.inl ⟨by rfl, fun wx hx => by simp [go_sem]⟩) hS ?_
  simp only [Act.put, List.getElem_toArray, List.getElem_cons_succ, List.getElem_cons_zero, List.setIfInBounds_toArray, List.set_cons_zero, List.set_cons_succ]
  refine wpAnyH_take (i := 13) (v := .pointer (some ⟨g, 0, none⟩)) rfl (by kernel_rfl) (by kernel_rfl) (by kernel_rfl) (fun _ _ _ h => h) (Or.inl ⟨by rfl, fun wx hx => by simp [go_sem]⟩) hS ?_
  simp only [Act.put, List.getElem_toArray, List.getElem_cons_succ, List.getElem_cons_zero, List.setIfInBounds_toArray, List.set_cons_zero, List.set_cons_succ]
  refine wpAnyH_take (i := 14) (v := .pointer (some ⟨g, 33, none⟩)) rfl (by kernel_rfl) (by kernel_rfl) (by kernel_rfl) (fun _ _ _ h => h) (Or.inl ⟨by rfl, fun wx hx => by simp [go_sem]⟩) hS ?_
  simp only [Act.put, List.getElem_toArray, List.getElem_cons_succ, List.getElem_cons_zero, List.setIfInBounds_toArray, List.set_cons_zero, List.set_cons_succ]
  refine wpAnyH_take (i := 15) (v := .agg (cb y).toArray) rfl (by kernel_rfl) (by kernel_rfl) (by kernel_rfl) (fun _ _ _ h => h) (Or.inl ⟨by rfl, fun wx hx => by exact load_run 24 _ rfl _ _ rfl (cb y) _ ((HW.out.next (hS0.out wx hx)).tree.one.index) Tryd.underlying24 rfl (by rw [cb_len, HY.out]; exact info_digest)⟩) hS ?_
  simp only [Act.put, List.getElem_toArray, List.getElem_cons_succ, List.getElem_cons_zero, List.setIfInBounds_toArray, List.set_cons_zero, List.set_cons_succ]
  refine wpAnyH_take (i := 16) (v := .pointer (some ⟨gl, 0, none⟩)) rfl (by kernel_rfl) (by kernel_rfl) (by kernel_rfl) (fun _ _ _ h => h) (Or.inl ⟨by rfl, fun wx hx => by simp [go_sem]⟩) hS ?_
  simp only [Act.put, List.getElem_toArray, List.getElem_cons_succ, List.getElem_cons_zero, List.setIfInBounds_toArray, List.set_cons_zero, List.set_cons_succ]
  refine wpAnyH_take (i := 17) (v := .pointer (some ⟨gl, 0, none⟩)) rfl (by kernel_rfl) (by kernel_rfl) (by kernel_rfl) (fun _ _ _ h => h) (Or.inl ⟨by rfl, fun wx hx => by simp [go_sem]⟩) hS ?_
  simp only [Act.put, List.getElem_toArray, List.getElem_cons_succ, List.getElem_cons_zero, List.setIfInBounds_toArray, List.set_cons_zero, List.set_cons_succ]
  refine wpAnyH_take (i := 18) (v := .pointer (some ⟨gl, 33, none⟩)) rfl (by kernel_rfl) (by kernel_rfl) (by kernel_rfl) (fun _ _ _ h => h) (Or.inl ⟨by rfl, fun wx hx => by simp [go_sem]⟩) hS ?_
  simp only [Act.put, List.getElem_toArray, List.getElem_cons_succ, List.getElem_cons_zero, List.setIfInBounds_toArray, List.set_cons_zero, List.set_cons_succ]
  refine wpAnyH_take (i := 19) (v := .agg (cb x).toArray) rfl (by kernel_rfl) (by kernel_rfl) (by kernel_rfl) (fun _ _ _ h => h) (Or.inl ⟨by rfl, fun wx hx => by exact load_run 24 _ rfl _ _ rfl (cb x) _ ((HW.out.next (hS0.out wx hx)).leaf.index) Tryd.underlying24 rfl (by rw [cb_len, HX.out]; exact info_digest)⟩) hS ?_
  simp only [Act.put, List.getElem_toArray, List.getElem_cons_succ, List.getElem_cons_zero, List.setIfInBounds_toArray, List.set_cons_zero, List.set_cons_succ]
  refine wpAnyH_take (i := 20) (v := .bool false) rfl (by kernel_rfl) (by kernel_rfl) (by kernel_rfl) (fun _ _ _ h => h) (Or.inl ⟨by rfl, fun wx hx => by simp [go_sem, heq]⟩) hS ?_
  simp only [Act.put, List.getElem_toArray, List.getElem_cons_succ, List.getElem_cons_zero, List.setIfInBounds_toArray, List.set_cons_zero, List.set_cons_succ]
  refine wpAnyH_take (i := 21) (v := .bool false) rfl (by kernel_rfl) (by kernel_rfl) (by kernel_rfl) (fun _ _ _ h => h) (Or.inl ⟨by rfl, fun wx hx => by simp [go_sem]⟩) hS ?_
  simp only [Act.put, List.getElem_toArray, List.getElem_cons_succ, List.getElem_cons_zero, List.setIfInBounds_toArray, List.set_cons_zero, List.set_cons_succ]
  refine wpAnyH_take (i := 22) (v := .bool false) rfl (by kernel_rfl) (by kernel_rfl) (by kernel_rfl) (fun _ _ _ h => h) (Or.inl ⟨by rfl, fun wx hx => by simp [go_sem]⟩) hS ?_
  simp only [Act.put, List.getElem_toArray, List.getElem_cons_succ, List.getElem_cons_zero, List.setIfInBounds_toArray, List.set_cons_zero, List.set_cons_succ]
  refine wpAnyH_take (i := 23) (v := .bool false) rfl (by kernel_rfl) (by kernel_rfl) (by kernel_rfl) (fun _ _ _ h => h) (Or.inl ⟨by rfl, fun wx hx => by simp [go_sem]⟩) hS ?_
  simp only [Act.put, List.getElem_toArray, List.getElem_cons_succ, List.getElem_cons_zero, List.setIfInBounds_toArray, List.set_cons_zero, List.set_cons_succ]
  refine wpAnyH_done (by kernel_rfl) ?_ _
  clear heq
  have HW2 : Hid (Wt w.drew d g gl [(y, u)] x v) := HW.out.next (Below.refl _ w).drew
  have HBW : Hid (Below w.heap.size w w.drew) := (Below.refl _ w).drew
  clear HW hS0 hS
  generalize World.drew w = w1 at *
  have hS0 : Hid (∀ wx, Over w1.drew wx → Below w1.heap.size w1 wx) := fun wx hx => Over.after hx (Below.refl _ w1).drew
  go_wp2_with fail
  refine wp_region_held_drew (S := Over w1.drew) (by kernel_rfl) (Over.refl _) ?_
  intro hS
  refine wpAnyH_take (i := 0) (v := .pointer (some ⟨g, 0, none⟩)) rfl (by kernel_rfl) (by kernel_rfl) (by kernel_rfl) (fun _ _ _ h => h) (Or.inl ⟨by rfl, fun wx hx => by simp [go_sem]⟩) hS ?_
  simp only [Act.put, List.getElem_toArray, List.getElem_cons_zero, List.setIfInBounds_toArray, List.set_cons_zero, List.set_cons_succ]
  refine wpAnyH_take (i := 1) (v := .pointer (some ⟨g, 0, none⟩)) rfl (by kernel_rfl) (by kernel_rfl) (by kernel_rfl) (fun _ _ _ h => h) (Or.inl ⟨by rfl, fun wx hx => by simp [go_sem]⟩) hS ?_
  simp only [Act.put, List.getElem_toArray, List.getElem_cons_succ, List.getElem_cons_zero, List.setIfInBounds_toArray, List.set_cons_zero, List.set_cons_succ]
  refine wpAnyH_take (i := 2) (v := .pointer (some ⟨g, 0, none⟩)) rfl (by kernel_rfl) (by kernel_rfl) (by kernel_rfl) (fun _ _ _ h => h) (Or.inl ⟨by rfl, fun wx hx => by simp [go_sem]⟩) hS ?_
  simp only [Act.put, List.getElem_toArray, List.getElem_cons_succ, List.getElem_cons_zero, List.setIfInBounds_toArray, List.set_cons_zero, List.set_cons_succ]
  refine wpAnyH_take (i := 3) (v := .int .i64 1) rfl (by kernel_rfl) (by kernel_rfl) (by kernel_rfl) (fun _ _ _ h => h) (Or.inl ⟨by rfl, fun wx hx => by (have hc := (HW2.out.next (hS0.out wx hx)).cnt; simp [go_sem, hc])⟩) hS ?_
  simp only [Act.put, List.getElem_toArray, List.getElem_cons_succ, List.getElem_cons_zero, List.setIfInBounds_toArray, List.set_cons_zero, List.set_cons_succ]
  refine wpAnyH_take (i := 4) (v := .bool true) rfl (by kernel_rfl) (by kernel_rfl) (by kernel_rfl) (fun _ _ _ h => h) (Or.inl ⟨by rfl, fun wx hx => by simp [go_sem]⟩) hS ?_
  simp only [Act.put, List.getElem_toArray, List.getElem_cons_succ, List.getElem_cons_zero, List.setIfInBounds_toArray, List.set_cons_zero, List.set_cons_succ]
  refine wpAnyH_take (i := 5) (v := .bool true) rfl (by kernel_rfl) (by kernel_rfl) (by kernel_rfl) (fun _ _ _ h => h) (Or.inl ⟨by rfl, fun wx hx => by simp [go_sem]⟩) hS ?_
  simp only [Act.put, List.getElem_toArray, List.getElem_cons_succ, List.getElem_cons_zero, List.setIfInBounds_toArray, List.set_cons_zero, List.set_cons_succ]
  refine wpAnyH_take (i := 6) (v := .pointer (some ⟨g, 0, none⟩)) rfl (by kernel_rfl) (by kernel_rfl) (by kernel_rfl) (fun _ _ _ h => h) (Or.inl ⟨by rfl, fun wx hx => by simp [go_sem]⟩) hS ?_
  simp only [Act.put, List.getElem_toArray, List.getElem_cons_succ, List.getElem_cons_zero, List.setIfInBounds_toArray, List.set_cons_zero, List.set_cons_succ]
  refine wpAnyH_take (i := 7) (v := .pointer (some ⟨g, 0, none⟩)) rfl (by kernel_rfl) (by kernel_rfl) (by kernel_rfl) (fun _ _ _ h => h) (Or.inl ⟨by rfl, fun wx hx => by simp [go_sem]⟩) hS ?_
  simp only [Act.put, List.getElem_toArray, List.getElem_cons_succ, List.getElem_cons_zero, List.setIfInBounds_toArray, List.set_cons_zero, List.set_cons_succ]
  refine wpAnyH_take (i := 8) (v := .pointer (some ⟨g, 33, none⟩)) rfl (by kernel_rfl) (by kernel_rfl) (by kernel_rfl) (fun _ _ _ h => h) (Or.inl ⟨by rfl, fun wx hx => by simp [go_sem]⟩) hS ?_
  simp only [Act.put, List.getElem_toArray, List.getElem_cons_succ, List.getElem_cons_zero, List.setIfInBounds_toArray, List.set_cons_zero, List.set_cons_succ]
  refine wpAnyH_take (i := 9) (v := .agg (cb y).toArray) rfl (by kernel_rfl) (by kernel_rfl) (by kernel_rfl) (fun _ _ _ h => h) (Or.inl ⟨by rfl, fun wx hx => by exact load_run 24 _ rfl _ _ rfl (cb y) _ ((HW2.out.next (hS0.out wx hx)).tree.one.index) Tryd.underlying24 rfl (by rw [cb_len, HY.out]; exact info_digest)⟩) hS ?_
  simp only [Act.put, List.getElem_toArray, List.getElem_cons_succ, List.getElem_cons_zero, List.setIfInBounds_toArray, List.set_cons_zero, List.set_cons_succ]
  refine wpAnyH_take (i := 10) (v := .pointer (some ⟨gl, 0, none⟩)) rfl (by kernel_rfl) (by kernel_rfl) (by kernel_rfl) (fun _ _ _ h => h) (Or.inl ⟨by rfl, fun wx hx => by simp [go_sem]⟩) hS ?_
  simp only [Act.put, List.getElem_toArray, List.getElem_cons_succ, List.getElem_cons_zero, List.setIfInBounds_toArray, List.set_cons_zero, List.set_cons_succ]
  refine wpAnyH_take (i := 11) (v := .pointer (some ⟨gl, 0, none⟩)) rfl (by kernel_rfl) (by kernel_rfl) (by kernel_rfl) (fun _ _ _ h => h) (Or.inl ⟨by rfl, fun wx hx => by simp [go_sem]⟩) hS ?_
  simp only [Act.put, List.getElem_toArray, List.getElem_cons_succ, List.getElem_cons_zero, List.setIfInBounds_toArray, List.set_cons_zero, List.set_cons_succ]
  refine wpAnyH_take (i := 12) (v := .pointer (some ⟨gl, 33, none⟩)) rfl (by kernel_rfl) (by kernel_rfl) (by kernel_rfl) (fun _ _ _ h => h) (Or.inl ⟨by rfl, fun wx hx => by simp [go_sem]⟩) hS ?_
  simp only [Act.put, List.getElem_toArray, List.getElem_cons_succ, List.getElem_cons_zero, List.setIfInBounds_toArray, List.set_cons_zero, List.set_cons_succ]
  refine wpAnyH_take (i := 13) (v := .agg (cb x).toArray) rfl (by kernel_rfl) (by kernel_rfl) (by kernel_rfl) (fun _ _ _ h => h) (Or.inl ⟨by rfl, fun wx hx => by exact load_run 24 _ rfl _ _ rfl (cb x) _ ((HW2.out.next (hS0.out wx hx)).leaf.index) Tryd.underlying24 rfl (by rw [cb_len, HX.out]; exact info_digest)⟩) hS ?_
  simp only [Act.put, List.getElem_toArray, List.getElem_cons_succ, List.getElem_cons_zero, List.setIfInBounds_toArray, List.set_cons_zero, List.set_cons_succ]
  refine wpAnyH_enter 14 (by kernel_rfl) rfl (by rfl) (f := 54) (args := #[.agg (cb y).toArray, .agg (cb x).toArray]) (by simp [go_sem]) (pLess_any y x HY.out HX.out _) ?_
  rintro e wy ⟨rfl, hbq⟩
  refine ⟨_, rfl, hS.more hbq, ?_⟩
  replace hS := hS.more hbq
  clear hbq
  rw [HLS.out]
  simp only [Act.put, List.getElem_toArray, List.getElem_cons_succ, List.getElem_cons_zero, List.setIfInBounds_toArray, List.set_cons_zero, List.set_cons_succ]
  refine wpAnyH_take (i := 15) (v := .bool true) rfl (by kernel_rfl) (by kernel_rfl) (by kernel_rfl) (fun _ _ _ h => h) (Or.inl ⟨by rfl, fun wx hx => by simp [go_sem]⟩) hS ?_
  simp only [Act.put, List.getElem_toArray, List.getElem_cons_succ, List.getElem_cons_zero, List.setIfInBounds_toArray, List.set_cons_zero, List.set_cons_succ]
  refine wpAnyH_take (i := 16) (v := .bool true) rfl (by kernel_rfl) (by kernel_rfl) (by kernel_rfl) (fun _ _ _ h => h) (Or.inl ⟨by rfl, fun wx hx => by simp [go_sem]⟩) hS ?_
  simp only [Act.put, List.getElem_toArray, List.getElem_cons_succ, List.getElem_cons_zero, List.setIfInBounds_toArray, List.set_cons_zero, List.set_cons_succ]
  refine wpAnyH_done (by kernel_rfl) ?_ _
  have HW3 : Hid (Wt wy d g gl [(y, u)] x v) := HW2.out.next (hS0.out _ hS)
  replace HBW : Hid (Below w.heap.size w wy) := HBW.out.trans ((hS0.out _ hS).mono HBW.out.size)
  clear HW2 hS hS0 HLS
  have c0 : wy.cell? ⟨g, 0, none⟩ = some (.int .i64 1) := HW3.out.cnt
  obtain ⟨wB, HWB⟩ : ∃ z, Hid (z = wy.alloc (.cells #[.pointer (some ⟨g, 0, none⟩), .pointer (some ⟨gl, 0, none⟩)] 27)) := ⟨_, rfl⟩
  have hbB : Below wy.heap.size wy wB := by rw [HWB.out]; exact below_alloc _ _
  have HRW : Hid (LvRow wB wy.heap.size 0 [(g, (y, u)), (gl, (x, v))]) := by
    refine ⟨fun k hk => ?_, fun q hq => ?_⟩
    · rw [HWB.out]
      match k, hk with
      | 0, _ => simp [ptr]
      | 1, _ => simp [ptr]
      | k + 2, hk => simp at hk; omega
    · simp only [List.mem_cons, List.not_mem_nil, or_false] at hq
      rcases hq with rfl | rfl
      · exact (HW3.out.next hbB).tree.one
      · exact (HW3.out.next hbB).leaf
  have HBE : Hid (Calls Tryd.prog 26 #[.slice (some ⟨wy.heap.size, 0, none⟩) 2 2, .int .i64 (d : Int)] wB fun e w' => ∃ g, e = .returned (.pointer (some ⟨g, 0, none⟩)) ∧ TreeIs w' d g (putL [(y, u)] x v) ∧ Below wB.heap.size wB w') := by
    have := trBelow_any 256 d (some ⟨wy.heap.size, 0, none⟩) wy.heap.size 0 2 2 [(g, (y, u)), (gl, (x, v))] wB (by omega) (HW3.out.next hbB).kok HRW.out rfl (Nat.le_refl _) (Or.inr rfl) (by decide) (by have h := HFP.out; rw [HPU.out] at h; exact h)
    rw [HPU.out]
    exact this
  have HBB : Hid (Below w.heap.size w wB) := HBW.out.trans (hbB.mono HBW.out.size)
  clear hbB HRW HFP HPU
  go_wp2_with (first
    | (go_at_call 26; rw [← HWB.out]; refine HBE.out.mono ?_; rintro e wz ⟨gz, rfl, htz, hbz⟩))
  go_ret
  exact ⟨gz, rfl, htz, HBB.out.trans (hbz.mono HBB.out.size)⟩
set_option maxRecDepth 100000 in
set_option maxHeartbeats 4000000 in
theorem trWith_more (w : World) (d g gl : Nat) (l : List Lf) (x v : List (BitVec 8)) (hW : Wt w d g gl l x v) (y u : List (BitVec 8)) (hl : l = [(y, u)]) (hne : y ≠ x) (hls : lessB y x = false) (hF : Fits l d) (hN : Near l x d) (hd : d ≤ 256) : WithDoes d g gl l x v w := by
  unfold WithDoes
  have HW : Hid (Wt w d g gl l x v) := hW
  subst hl
  have HY : Hid (y.length = 32) := HW.out.tree.one.l2
  have HX : Hid (x.length = 32) := HW.out.leaf.l2
  have HLS : Hid (lessB y x = false) := hls
  have heq : ∀ wx : World, (Op.equalIn 10000 24 (.agg (cb y).toArray) (.agg (cb x).toArray)).run Tryd.prog wx = .ok false wx := fun wx => by
    have := eq_dig y x HY.out HX.out wx
    rw [decide_eq_false hne] at this
    exact this
  have HPU : Hid (putL [(y, u)] x v = [(x, v), (y, u)]) := by
    show _ = _
    unfold putL
    simp [hls, hne]
  have HFP : Hid (Fits (putL [(y, u)] x v) d) := hF.put hN HX.out HW.out.leaf.l3
  clear hF hN hne hls
  have hS0 : Hid (∀ wx, Over w.drew wx → Below w.heap.size w wx) := fun wx hx => Over.after hx (Below.refl _ w).drew
  clear hW
  go_enter Tryd.func35, Tryd.ntmps35
  go_wp2_with fail
  refine wp_region_held_drew (S := Over w.drew) (by kernel_rfl) (Over.refl _) ?_
  intro hS
  refine wpAnyH_take (i := 0) (v := .pointer (some ⟨g, 0, none⟩)) rfl (by kernel_rfl) (by kernel_rfl) (by kernel_rfl) (fun _ _ _ h => h) (Or.inl ⟨by rfl, fun wx hx => by simp [go_sem]⟩) hS ?_
  simp only [Act.put, List.getElem_toArray, List.getElem_cons_zero, List.setIfInBounds_toArray, List.set_cons_zero, List.set_cons_succ]
  refine wpAnyH_take (i := 1) (v := .pointer (some ⟨g, 0, none⟩)) rfl (by kernel_rfl) (by kernel_rfl) (by kernel_rfl) (fun _ _ _ h => h) (Or.inl ⟨by rfl, fun wx hx => by simp [go_sem]⟩) hS ?_
  simp only [Act.put, List.getElem_toArray, List.getElem_cons_succ, List.getElem_cons_zero, List.setIfInBounds_toArray, List.set_cons_zero, List.set_cons_succ]
  refine wpAnyH_take (i := 2) (v := .pointer (some ⟨g, 0, none⟩)) rfl (by kernel_rfl) (by kernel_rfl) (by kernel_rfl) (fun _ _ _ h => h) (Or.inl ⟨by rfl, fun wx hx => by simp [go_sem]⟩) hS ?_
  simp only [Act.put, List.getElem_toArray, List.getElem_cons_succ, List.getElem_cons_zero, List.setIfInBounds_toArray, List.set_cons_zero, List.set_cons_succ]
  refine wpAnyH_take (i := 3) (v := .int .i64 1) rfl (by kernel_rfl) (by kernel_rfl) (by kernel_rfl) (fun _ _ _ h => h) (Or.inl ⟨by rfl, fun wx hx => by (have hc := (HW.out.next (hS0.out wx hx)).cnt; simp [go_sem, hc])⟩) hS ?_
  simp only [Act.put, List.getElem_toArray, List.getElem_cons_succ, List.getElem_cons_zero, List.setIfInBounds_toArray, List.set_cons_zero, List.set_cons_succ]
  refine wpAnyH_take (i := 4) (v := .bool false) rfl (by kernel_rfl) (by kernel_rfl) (by kernel_rfl) (fun _ _ _ h => h) (Or.inl ⟨by rfl, fun wx hx => by simp [go_sem]⟩) hS ?_
  simp only [Act.put, List.getElem_toArray, List.getElem_cons_succ, List.getElem_cons_zero, List.setIfInBounds_toArray, List.set_cons_zero, List.set_cons_succ]
  refine wpAnyH_take (i := 5) (v := .bool false) rfl (by kernel_rfl) (by kernel_rfl) (by kernel_rfl) (fun _ _ _ h => h) (Or.inl ⟨by rfl, fun wx hx => by simp [go_sem]⟩) hS ?_
  simp only [Act.put, List.getElem_toArray, List.getElem_cons_succ, List.getElem_cons_zero, List.setIfInBounds_toArray, List.set_cons_zero, List.set_cons_succ]
  refine wpAnyH_take (i := 6) (v := .pointer (some ⟨g, 0, none⟩)) rfl (by kernel_rfl) (by kernel_rfl) (by kernel_rfl) (fun _ _ _ h => h) (Or.inl ⟨by rfl, fun wx hx => by simp [go_sem]⟩) hS ?_
  simp only [Act.put, List.getElem_toArray, List.getElem_cons_succ, List.getElem_cons_zero, List.setIfInBounds_toArray, List.set_cons_zero, List.set_cons_succ]
  refine wpAnyH_take (i := 7) (v := .pointer (some ⟨g, 0, none⟩)) rfl (by kernel_rfl) (by kernel_rfl) (by kernel_rfl) (fun _ _ _ h => h) (Or.inl ⟨by rfl, fun wx hx => by simp [go_sem]⟩) hS ?_
  simp only [Act.put, List.getElem_toArray, List.getElem_cons_succ, List.getElem_cons_zero, List.setIfInBounds_toArray, List.set_cons_zero, List.set_cons_succ]
  refine wpAnyH_take (i := 8) (v := .pointer (some ⟨g, 0, none⟩)) rfl (by kernel_rfl) (by kernel_rfl) (by kernel_rfl) (fun _ _ _ h => h) (Or.inl ⟨by rfl, fun wx hx => by simp [go_sem]⟩) hS ?_
  simp only [Act.put, List.getElem_toArray, List.getElem_cons_succ, List.getElem_cons_zero, List.setIfInBounds_toArray, List.set_cons_zero, List.set_cons_succ]
  refine wpAnyH_take (i := 9) (v := .int .i64 1) rfl (by kernel_rfl) (by kernel_rfl) (by kernel_rfl) (fun _ _ _ h => h) (Or.inl ⟨by rfl, fun wx hx => by (have hc := (HW.out.next (hS0.out wx hx)).cnt; simp [go_sem, hc])⟩) hS ?_
  simp only [Act.put, List.getElem_toArray, List.getElem_cons_succ, List.getElem_cons_zero, List.setIfInBounds_toArray, List.set_cons_zero, List.set_cons_succ]
  refine wpAnyH_take (i := 10) (v := .bool true) rfl (by kernel_rfl) (by kernel_rfl) (by kernel_rfl) (fun _ _ _ h => h) (Or.inl ⟨by rfl, fun wx hx => by simp [go_sem]⟩) hS ?_
  simp only [Act.put, List.getElem_toArray, List.getElem_cons_succ, List.getElem_cons_zero, List.setIfInBounds_toArray, List.set_cons_zero, List.set_cons_succ]
  refine wpAnyH_take (i := 11) (v := .bool true) rfl (by kernel_rfl) (by kernel_rfl) (by kernel_rfl) (fun _ _ _ h => h) (Or.inl ⟨by rfl, fun wx hx => by simp [go_sem]⟩) hS ?_
  simp only [Act.put, List.getElem_toArray, List.getElem_cons_succ, List.getElem_cons_zero, List.setIfInBounds_toArray, List.set_cons_zero, List.set_cons_succ]
  refine wpAnyH_take (i := 12) (v := .pointer (some ⟨g, 0, none⟩)) rfl (by kernel_rfl) (by kernel_rfl) (by kernel_rfl) (fun _ _ _ h => h) (Or.inl ⟨by rfl, fun wx hx => by simp [go_sem]⟩) hS ?_
  simp only [Act.put, List.getElem_toArray, List.getElem_cons_succ, List.getElem_cons_zero, List.setIfInBounds_toArray, List.set_cons_zero, List.set_cons_succ]
  refine wpAnyH_take (i := 13) (v := .pointer (some ⟨g, 0, none⟩)) rfl (by kernel_rfl) (by kernel_rfl) (by kernel_rfl) (fun _ _ _ h => h) (Or.inl ⟨by rfl, fun wx hx => by simp [go_sem]⟩) hS ?_
  simp only [Act.put, List.getElem_toArray, List.getElem_cons_succ, List.getElem_cons_zero, List.setIfInBounds_toArray, List.set_cons_zero, List.set_cons_succ]
  refine wpAnyH_take (i := 14) (v := .pointer (some ⟨g, 33, none⟩)) rfl (by kernel_rfl) (by kernel_rfl) (by kernel_rfl) (fun _ _ _ h => h) (Or.inl ⟨by rfl, fun wx hx => by simp [go_sem]⟩) hS ?_
  simp only [Act.put, List.getElem_toArray, List.getElem_cons_succ, List.getElem_cons_zero, List.setIfInBounds_toArray, List.set_cons_zero, List.set_cons_succ]
  refine wpAnyH_take (i := 15) (v := .agg (cb y).toArray) rfl (by kernel_rfl) (by kernel_rfl) (by kernel_rfl) (fun _ _ _ h => h) (Or.inl ⟨by rfl, fun wx hx => by exact load_run 24 _ rfl _ _ rfl (cb y) _ ((HW.out.next (hS0.out wx hx)).tree.one.index) Tryd.underlying24 rfl (by rw [cb_len, HY.out]; exact info_digest)⟩) hS ?_
  simp only [Act.put, List.getElem_toArray, List.getElem_cons_succ, List.getElem_cons_zero, List.setIfInBounds_toArray, List.set_cons_zero, List.set_cons_succ]
  refine wpAnyH_take (i := 16) (v := .pointer (some ⟨gl, 0, none⟩)) rfl (by kernel_rfl) (by kernel_rfl) (by kernel_rfl) (fun _ _ _ h => h) (Or.inl ⟨by rfl, fun wx hx => by simp [go_sem]⟩) hS ?_
  simp only [Act.put, List.getElem_toArray, List.getElem_cons_succ, List.getElem_cons_zero, List.setIfInBounds_toArray, List.set_cons_zero, List.set_cons_succ]
  refine wpAnyH_take (i := 17) (v := .pointer (some ⟨gl, 0, none⟩)) rfl (by kernel_rfl) (by kernel_rfl) (by kernel_rfl) (fun _ _ _ h => h) (Or.inl ⟨by rfl, fun wx hx => by simp [go_sem]⟩) hS ?_
  simp only [Act.put, List.getElem_toArray, List.getElem_cons_succ, List.getElem_cons_zero, List.setIfInBounds_toArray, List.set_cons_zero, List.set_cons_succ]
  refine wpAnyH_take (i := 18) (v := .pointer (some ⟨gl, 33, none⟩)) rfl (by kernel_rfl) (by kernel_rfl) (by kernel_rfl) (fun _ _ _ h => h) (Or.inl ⟨by rfl, fun wx hx => by simp [go_sem]⟩) hS ?_
  simp only [Act.put, List.getElem_toArray, List.getElem_cons_succ, List.getElem_cons_zero, List.setIfInBounds_toArray, List.set_cons_zero, List.set_cons_succ]
  refine wpAnyH_take (i := 19) (v := .agg (cb x).toArray) rfl (by kernel_rfl) (by kernel_rfl) (by kernel_rfl) (fun _ _ _ h => h) (Or.inl ⟨by rfl, fun wx hx => by exact load_run 24 _ rfl _ _ rfl (cb x) _ ((HW.out.next (hS0.out wx hx)).leaf.index) Tryd.underlying24 rfl (by rw [cb_len, HX.out]; exact info_digest)⟩) hS ?_
  simp only [Act.put, List.getElem_toArray, List.getElem_cons_succ, List.getElem_cons_zero, List.setIfInBounds_toArray, List.set_cons_zero, List.set_cons_succ]
  refine wpAnyH_take (i := 20) (v := .bool false) rfl (by kernel_rfl) (by kernel_rfl) (by kernel_rfl) (fun _ _ _ h => h) (Or.inl ⟨by rfl, fun wx hx => by simp [go_sem, heq]⟩) hS ?_
  simp only [Act.put, List.getElem_toArray, List.getElem_cons_succ, List.getElem_cons_zero, List.setIfInBounds_toArray, List.set_cons_zero, List.set_cons_succ]
  refine wpAnyH_take (i := 21) (v := .bool false) rfl (by kernel_rfl) (by kernel_rfl) (by kernel_rfl) (fun _ _ _ h => h) (Or.inl ⟨by rfl, fun wx hx => by simp [go_sem]⟩) hS ?_
  simp only [Act.put, List.getElem_toArray, List.getElem_cons_succ, List.getElem_cons_zero, List.setIfInBounds_toArray, List.set_cons_zero, List.set_cons_succ]
  refine wpAnyH_take (i := 22) (v := .bool false) rfl (by kernel_rfl) (by kernel_rfl) (by kernel_rfl) (fun _ _ _ h => h) (Or.inl ⟨by rfl, fun wx hx => by simp [go_sem]⟩) hS ?_
  simp only [Act.put, List.getElem_toArray, List.getElem_cons_succ, List.getElem_cons_zero, List.setIfInBounds_toArray, List.set_cons_zero, List.set_cons_succ]
  refine wpAnyH_take (i := 23) (v := .bool false) rfl (by kernel_rfl) (by kernel_rfl) (by kernel_rfl) (fun _ _ _ h => h) (Or.inl ⟨by rfl, fun wx hx => by simp [go_sem]⟩) hS ?_
  simp only [Act.put, List.getElem_toArray, List.getElem_cons_succ, List.getElem_cons_zero, List.setIfInBounds_toArray, List.set_cons_zero, List.set_cons_succ]
  refine wpAnyH_done (by kernel_rfl) ?_ _
  clear heq
  have HW2 : Hid (Wt w.drew d g gl [(y, u)] x v) := HW.out.next (Below.refl _ w).drew
  have HBW : Hid (Below w.heap.size w w.drew) := (Below.refl _ w).drew
  clear HW hS0 hS
  generalize World.drew w = w1 at *
  have hS0 : Hid (∀ wx, Over w1.drew wx → Below w1.heap.size w1 wx) := fun wx hx => Over.after hx (Below.refl _ w1).drew
  go_wp2_with fail
  refine wp_region_held_drew (S := Over w1.drew) (by kernel_rfl) (Over.refl _) ?_
  intro hS
  refine wpAnyH_take (i := 0) (v := .pointer (some ⟨g, 0, none⟩)) rfl (by kernel_rfl) (by kernel_rfl) (by kernel_rfl) (fun _ _ _ h => h) (Or.inl ⟨by rfl, fun wx hx => by simp [go_sem]⟩) hS ?_
  simp only [Act.put, List.getElem_toArray, List.getElem_cons_zero, List.setIfInBounds_toArray, List.set_cons_zero, List.set_cons_succ]
  refine wpAnyH_take (i := 1) (v := .pointer (some ⟨g, 0, none⟩)) rfl (by kernel_rfl) (by kernel_rfl) (by kernel_rfl) (fun _ _ _ h => h) (Or.inl ⟨by rfl, fun wx hx => by simp [go_sem]⟩) hS ?_
  simp only [Act.put, List.getElem_toArray, List.getElem_cons_succ, List.getElem_cons_zero, List.setIfInBounds_toArray, List.set_cons_zero, List.set_cons_succ]
  refine wpAnyH_take (i := 2) (v := .pointer (some ⟨g, 0, none⟩)) rfl (by kernel_rfl) (by kernel_rfl) (by kernel_rfl) (fun _ _ _ h => h) (Or.inl ⟨by rfl, fun wx hx => by simp [go_sem]⟩) hS ?_
  simp only [Act.put, List.getElem_toArray, List.getElem_cons_succ, List.getElem_cons_zero, List.setIfInBounds_toArray, List.set_cons_zero, List.set_cons_succ]
  refine wpAnyH_take (i := 3) (v := .int .i64 1) rfl (by kernel_rfl) (by kernel_rfl) (by kernel_rfl) (fun _ _ _ h => h) (Or.inl ⟨by rfl, fun wx hx => by (have hc := (HW2.out.next (hS0.out wx hx)).cnt; simp [go_sem, hc])⟩) hS ?_
  simp only [Act.put, List.getElem_toArray, List.getElem_cons_succ, List.getElem_cons_zero, List.setIfInBounds_toArray, List.set_cons_zero, List.set_cons_succ]
  refine wpAnyH_take (i := 4) (v := .bool true) rfl (by kernel_rfl) (by kernel_rfl) (by kernel_rfl) (fun _ _ _ h => h) (Or.inl ⟨by rfl, fun wx hx => by simp [go_sem]⟩) hS ?_
  simp only [Act.put, List.getElem_toArray, List.getElem_cons_succ, List.getElem_cons_zero, List.setIfInBounds_toArray, List.set_cons_zero, List.set_cons_succ]
  refine wpAnyH_take (i := 5) (v := .bool true) rfl (by kernel_rfl) (by kernel_rfl) (by kernel_rfl) (fun _ _ _ h => h) (Or.inl ⟨by rfl, fun wx hx => by simp [go_sem]⟩) hS ?_
  simp only [Act.put, List.getElem_toArray, List.getElem_cons_succ, List.getElem_cons_zero, List.setIfInBounds_toArray, List.set_cons_zero, List.set_cons_succ]
  refine wpAnyH_take (i := 6) (v := .pointer (some ⟨g, 0, none⟩)) rfl (by kernel_rfl) (by kernel_rfl) (by kernel_rfl) (fun _ _ _ h => h) (Or.inl ⟨by rfl, fun wx hx => by simp [go_sem]⟩) hS ?_
  simp only [Act.put, List.getElem_toArray, List.getElem_cons_succ, List.getElem_cons_zero, List.setIfInBounds_toArray, List.set_cons_zero, List.set_cons_succ]
  refine wpAnyH_take (i := 7) (v := .pointer (some ⟨g, 0, none⟩)) rfl (by kernel_rfl) (by kernel_rfl) (by kernel_rfl) (fun _ _ _ h => h) (Or.inl ⟨by rfl, fun wx hx => by simp [go_sem]⟩) hS ?_
  simp only [Act.put, List.getElem_toArray, List.getElem_cons_succ, List.getElem_cons_zero, List.setIfInBounds_toArray, List.set_cons_zero, List.set_cons_succ]
  refine wpAnyH_take (i := 8) (v := .pointer (some ⟨g, 33, none⟩)) rfl (by kernel_rfl) (by kernel_rfl) (by kernel_rfl) (fun _ _ _ h => h) (Or.inl ⟨by rfl, fun wx hx => by simp [go_sem]⟩) hS ?_
  simp only [Act.put, List.getElem_toArray, List.getElem_cons_succ, List.getElem_cons_zero, List.setIfInBounds_toArray, List.set_cons_zero, List.set_cons_succ]
  refine wpAnyH_take (i := 9) (v := .agg (cb y).toArray) rfl (by kernel_rfl) (by kernel_rfl) (by kernel_rfl) (fun _ _ _ h => h) (Or.inl ⟨by rfl, fun wx hx => by exact load_run 24 _ rfl _ _ rfl (cb y) _ ((HW2.out.next (hS0.out wx hx)).tree.one.index) Tryd.underlying24 rfl (by rw [cb_len, HY.out]; exact info_digest)⟩) hS ?_
  simp only [Act.put, List.getElem_toArray, List.getElem_cons_succ, List.getElem_cons_zero, List.setIfInBounds_toArray, List.set_cons_zero, List.set_cons_succ]
  refine wpAnyH_take (i := 10) (v := .pointer (some ⟨gl, 0, none⟩)) rfl (by kernel_rfl) (by kernel_rfl) (by kernel_rfl) (fun _ _ _ h => h) (Or.inl ⟨by rfl, fun wx hx => by simp [go_sem]⟩) hS ?_
  simp only [Act.put, List.getElem_toArray, List.getElem_cons_succ, List.getElem_cons_zero, List.setIfInBounds_toArray, List.set_cons_zero, List.set_cons_succ]
  refine wpAnyH_take (i := 11) (v := .pointer (some ⟨gl, 0, none⟩)) rfl (by kernel_rfl) (by kernel_rfl) (by kernel_rfl) (fun _ _ _ h => h) (Or.inl ⟨by rfl, fun wx hx => by simp [go_sem]⟩) hS ?_
  simp only [Act.put, List.getElem_toArray, List.getElem_cons_succ, List.getElem_cons_zero, List.setIfInBounds_toArray, List.set_cons_zero, List.set_cons_succ]
  refine wpAnyH_take (i := 12) (v := .pointer (some ⟨gl, 33, none⟩)) rfl (by kernel_rfl) (by kernel_rfl) (by kernel_rfl) (fun _ _ _ h => h) (Or.inl ⟨by rfl, fun wx hx => by simp [go_sem]⟩) hS ?_
  simp only [Act.put, List.getElem_toArray, List.getElem_cons_succ, List.getElem_cons_zero, List.setIfInBounds_toArray, List.set_cons_zero, List.set_cons_succ]
  refine wpAnyH_take (i := 13) (v := .agg (cb x).toArray) rfl (by kernel_rfl) (by kernel_rfl) (by kernel_rfl) (fun _ _ _ h => h) (Or.inl ⟨by rfl, fun wx hx => by exact load_run 24 _ rfl _ _ rfl (cb x) _ ((HW2.out.next (hS0.out wx hx)).leaf.index) Tryd.underlying24 rfl (by rw [cb_len, HX.out]; exact info_digest)⟩) hS ?_
  simp only [Act.put, List.getElem_toArray, List.getElem_cons_succ, List.getElem_cons_zero, List.setIfInBounds_toArray, List.set_cons_zero, List.set_cons_succ]
  refine wpAnyH_enter 14 (by kernel_rfl) rfl (by rfl) (f := 54) (args := #[.agg (cb y).toArray, .agg (cb x).toArray]) (by simp [go_sem]) (pLess_any y x HY.out HX.out _) ?_
  rintro e wy ⟨rfl, hbq⟩
  refine ⟨_, rfl, hS.more hbq, ?_⟩
  replace hS := hS.more hbq
  clear hbq
  rw [HLS.out]
  simp only [Act.put, List.getElem_toArray, List.getElem_cons_succ, List.getElem_cons_zero, List.setIfInBounds_toArray, List.set_cons_zero, List.set_cons_succ]
  refine wpAnyH_take (i := 15) (v := .bool false) rfl (by kernel_rfl) (by kernel_rfl) (by kernel_rfl) (fun _ _ _ h => h) (Or.inl ⟨by rfl, fun wx hx => by simp [go_sem]⟩) hS ?_
  simp only [Act.put, List.getElem_toArray, List.getElem_cons_succ, List.getElem_cons_zero, List.setIfInBounds_toArray, List.set_cons_zero, List.set_cons_succ]
  refine wpAnyH_take (i := 16) (v := .bool false) rfl (by kernel_rfl) (by kernel_rfl) (by kernel_rfl) (fun _ _ _ h => h) (Or.inl ⟨by rfl, fun wx hx => by simp [go_sem]⟩) hS ?_
  simp only [Act.put, List.getElem_toArray, List.getElem_cons_succ, List.getElem_cons_zero, List.setIfInBounds_toArray, List.set_cons_zero, List.set_cons_succ]
  refine wpAnyH_done (by kernel_rfl) ?_ _
  have HW3 : Hid (Wt wy d g gl [(y, u)] x v) := HW2.out.next (hS0.out _ hS)
  replace HBW : Hid (Below w.heap.size w wy) := HBW.out.trans ((hS0.out _ hS).mono HBW.out.size)
  clear HW2 hS hS0 HLS
  have c0 : wy.cell? ⟨g, 0, none⟩ = some (.int .i64 1) := HW3.out.cnt
  obtain ⟨wB, HWB⟩ : ∃ z, Hid (z = wy.alloc (.cells #[.pointer (some ⟨gl, 0, none⟩), .pointer (some ⟨g, 0, none⟩)] 27)) := ⟨_, rfl⟩
  have hbB : Below wy.heap.size wy wB := by rw [HWB.out]; exact below_alloc _ _
  have HRW : Hid (LvRow wB wy.heap.size 0 [(gl, (x, v)), (g, (y, u))]) := by
    refine ⟨fun k hk => ?_, fun q hq => ?_⟩
    · rw [HWB.out]
      match k, hk with
      | 0, _ => simp [ptr]
      | 1, _ => simp [ptr]
      | k + 2, hk => simp at hk; omega
    · simp only [List.mem_cons, List.not_mem_nil, or_false] at hq
      rcases hq with rfl | rfl
      · exact (HW3.out.next hbB).leaf
      · exact (HW3.out.next hbB).tree.one
  have HBE : Hid (Calls Tryd.prog 26 #[.slice (some ⟨wy.heap.size, 0, none⟩) 2 2, .int .i64 (d : Int)] wB fun e w' => ∃ g, e = .returned (.pointer (some ⟨g, 0, none⟩)) ∧ TreeIs w' d g (putL [(y, u)] x v) ∧ Below wB.heap.size wB w') := by
    have := trBelow_any 256 d (some ⟨wy.heap.size, 0, none⟩) wy.heap.size 0 2 2 [(gl, (x, v)), (g, (y, u))] wB (by omega) (HW3.out.next hbB).kok HRW.out rfl (Nat.le_refl _) (Or.inr rfl) (by decide) (by have h := HFP.out; rw [HPU.out] at h; exact h)
    rw [HPU.out]
    exact this
  have HBB : Hid (Below w.heap.size w wB) := HBW.out.trans (hbB.mono HBW.out.size)
  clear hbB HRW HFP HPU
  go_wp2_with (first
    | (go_at_call 26; rw [← HWB.out]; refine HBE.out.mono ?_; rintro e wz ⟨gz, rfl, htz, hbz⟩))
  go_ret
  exact ⟨gz, rfl, htz, HBB.out.trans (hbz.mono HBB.out.size)⟩
set_option maxRecDepth 100000 in
set_option maxHeartbeats 4000000 in
theorem trWith_on (w : World) (d g gl : Nat) (l : List Lf) (x v : List (BitVec 8)) (hW : Wt w d g gl l x v) (n : Nat) (hn : l.length = n) (h2 : 2 ≤ n) (hn2 : n < 90000) (g0 g1 : Nat) (ht0 : TreeIs w (d + 1) g0 (halfL l d false)) (ht1 : TreeIs w (d + 1) g1 (halfL l d true)) (hcc : TreeC w g l.length (rootL l d) zb32 zb32 (ptr g0) (ptr g1)) (hF : Fits l d) (hN : Near l x d) (hb : bt x d = true) (IH : ∀ W, Below w.heap.size w W → WithDoes (d + 1) g1 gl (halfL l d true) x v W) : WithDoes d g gl l x v w := by
  unfold WithDoes
  have HW : Hid (Wt w d g gl l x v) := hW
  have HLN : Hid (l.length = n) := hn
  have HX : Hid (x.length = 32) := HW.out.leaf.l2
  have hdl : d < 256 := hF.lt (by rw [hn]; exact h2)
  have HBI : Hid (bitI x (d : Int) = true) := by show _ = _; rw [bitI_nat _ _ hdl]; exact hb
  have HT0 : Hid (TreeIs w (d + 1) g0 (halfL l d false)) := ht0
  have HT1 : Hid (TreeIs w (d + 1) g1 (halfL l d true)) := ht1
  have HCC : Hid (TreeC w g l.length (rootL l d) zb32 zb32 (ptr g0) (ptr g1)) := hcc
  have HFP : Hid (Fits (putL l x v) d) := hF.put hN HX.out HW.out.leaf.l3
  have HH0 : Hid (halfL (putL l x v) d false = halfL l d false) := by show _ = _; exact half_put_off hF.1 hF.2.1 HX.out (by rw [hb]; decide)
  have HH1 : Hid (halfL (putL l x v) d true = putL (halfL l d true) x v) := by show _ = _; exact (by have h := half_put_on (v := v) (d := d) hF.1 hF.2.1 HX.out; rw [hb] at h; exact h)
  have HL2 : Hid (2 ≤ (putL l x v).length ∧ (putL l x v).length < 100000) := by
    have h := putL_count (v := v) hF.1 hF.2.1 HX.out
    show _ ∧ _
    rw [h, hn]
    split <;> omega
  have HIH : Aside _ := IH
  have z0 : ¬ ((n : Int) = 0) := by omega
  have z0' : ((n : Int) == 0) = false := by rw [beq_eq_false_iff_ne]; omega
  have z1 : ¬ ((n : Int) = 1) := by omega
  have z1' : ((n : Int) == 1) = false := by rw [beq_eq_false_iff_ne]; omega
  clear hn hF hN hb IH ht0 ht1 hcc
  have hS0 : Hid (∀ wx, Over w.drew wx → Below w.heap.size w wx) := fun wx hx => Over.after hx (Below.refl _ w).drew
  clear hW
  go_enter Tryd.func35, Tryd.ntmps35
  go_wp2_with fail
  refine wp_region_held_drew (S := Over w.drew) (by kernel_rfl) (Over.refl _) ?_
  intro hS
  refine wpAnyH_take (i := 0) (v := .pointer (some ⟨g, 0, none⟩)) rfl (by kernel_rfl) (by kernel_rfl) (by kernel_rfl) (fun _ _ _ h => h) (Or.inl ⟨by rfl, fun wx hx => by simp [go_sem]⟩) hS ?_
  simp only [Act.put, List.getElem_toArray, List.getElem_cons_zero, List.setIfInBounds_toArray, List.set_cons_zero, List.set_cons_succ]
  refine wpAnyH_take (i := 1) (v := .pointer (some ⟨g, 0, none⟩)) rfl (by kernel_rfl) (by kernel_rfl) (by kernel_rfl) (fun _ _ _ h => h) (Or.inl ⟨by rfl, fun wx hx => by simp [go_sem]⟩) hS ?_
  simp only [Act.put, List.getElem_toArray, List.getElem_cons_succ, List.getElem_cons_zero, List.setIfInBounds_toArray, List.set_cons_zero, List.set_cons_succ]
  refine wpAnyH_take (i := 2) (v := .pointer (some ⟨g, 0, none⟩)) rfl (by kernel_rfl) (by kernel_rfl) (by kernel_rfl) (fun _ _ _ h => h) (Or.inl ⟨by rfl, fun wx hx => by simp [go_sem]⟩) hS ?_
  simp only [Act.put, List.getElem_toArray, List.getElem_cons_succ, List.getElem_cons_zero, List.setIfInBounds_toArray, List.set_cons_zero, List.set_cons_succ]
  refine wpAnyH_take (i := 3) (v := .int .i64 (n : Int)) rfl (by kernel_rfl) (by kernel_rfl) (by kernel_rfl) (fun _ _ _ h => h) (Or.inl ⟨by rfl, fun wx hx => by (have hc := (HW.out.next (hS0.out wx hx)).cnt; rw [HLN.out] at hc; simp [go_sem, hc])⟩) hS ?_
  simp only [Act.put, List.getElem_toArray, List.getElem_cons_succ, List.getElem_cons_zero, List.setIfInBounds_toArray, List.set_cons_zero, List.set_cons_succ]
  refine wpAnyH_take (i := 4) (v := .bool false) rfl (by kernel_rfl) (by kernel_rfl) (by kernel_rfl) (fun _ _ _ h => h) (Or.inl ⟨by rfl, fun wx hx => by (simp [go_sem]; omega)⟩) hS ?_
  simp only [Act.put, List.getElem_toArray, List.getElem_cons_succ, List.getElem_cons_zero, List.setIfInBounds_toArray, List.set_cons_zero, List.set_cons_succ]
  refine wpAnyH_take (i := 5) (v := .bool false) rfl (by kernel_rfl) (by kernel_rfl) (by kernel_rfl) (fun _ _ _ h => h) (Or.inl ⟨by rfl, fun wx hx => by simp [go_sem]⟩) hS ?_
  simp only [Act.put, List.getElem_toArray, List.getElem_cons_succ, List.getElem_cons_zero, List.setIfInBounds_toArray, List.set_cons_zero, List.set_cons_succ]
  refine wpAnyH_take (i := 6) (v := .pointer (some ⟨g, 0, none⟩)) rfl (by kernel_rfl) (by kernel_rfl) (by kernel_rfl) (fun _ _ _ h => h) (Or.inl ⟨by rfl, fun wx hx => by simp [go_sem]⟩) hS ?_
  simp only [Act.put, List.getElem_toArray, List.getElem_cons_succ, List.getElem_cons_zero, List.setIfInBounds_toArray, List.set_cons_zero, List.set_cons_succ]
  refine wpAnyH_take (i := 7) (v := .pointer (some ⟨g, 0, none⟩)) rfl (by kernel_rfl) (by kernel_rfl) (by kernel_rfl) (fun _ _ _ h => h) (Or.inl ⟨by rfl, fun wx hx => by simp [go_sem]⟩) hS ?_
  simp only [Act.put, List.getElem_toArray, List.getElem_cons_succ, List.getElem_cons_zero, List.setIfInBounds_toArray, List.set_cons_zero, List.set_cons_succ]
  refine wpAnyH_take (i := 8) (v := .pointer (some ⟨g, 0, none⟩)) rfl (by kernel_rfl) (by kernel_rfl) (by kernel_rfl) (fun _ _ _ h => h) (Or.inl ⟨by rfl, fun wx hx => by simp [go_sem]⟩) hS ?_
  simp only [Act.put, List.getElem_toArray, List.getElem_cons_succ, List.getElem_cons_zero, List.setIfInBounds_toArray, List.set_cons_zero, List.set_cons_succ]
  refine wpAnyH_take (i := 9) (v := .int .i64 (n : Int)) rfl (by kernel_rfl) (by kernel_rfl) (by kernel_rfl) (fun _ _ _ h => h) (Or.inl ⟨by rfl, fun wx hx => by (have hc := (HW.out.next (hS0.out wx hx)).cnt; rw [HLN.out] at hc; simp [go_sem, hc])⟩) hS ?_
  simp only [Act.put, List.getElem_toArray, List.getElem_cons_succ, List.getElem_cons_zero, List.setIfInBounds_toArray, List.set_cons_zero, List.set_cons_succ]
  refine wpAnyH_take (i := 10) (v := .bool false) rfl (by kernel_rfl) (by kernel_rfl) (by kernel_rfl) (fun _ _ _ h => h) (Or.inl ⟨by rfl, fun wx hx => by simp [go_sem, z1]⟩) hS ?_
  simp only [Act.put, List.getElem_toArray, List.getElem_cons_succ, List.getElem_cons_zero, List.setIfInBounds_toArray, List.set_cons_zero, List.set_cons_succ]
  refine wpAnyH_take (i := 11) (v := .bool false) rfl (by kernel_rfl) (by kernel_rfl) (by kernel_rfl) (fun _ _ _ h => h) (Or.inl ⟨by rfl, fun wx hx => by simp [go_sem]⟩) hS ?_
  simp only [Act.put, List.getElem_toArray, List.getElem_cons_succ, List.getElem_cons_zero, List.setIfInBounds_toArray, List.set_cons_zero, List.set_cons_succ]
  refine wpAnyH_take (i := 12) (v := undef) rfl (by kernel_rfl) (by kernel_rfl) (by kernel_rfl) (fun _ _ _ h => h) (Or.inr ⟨by rfl, rfl⟩) hS ?_
  simp only [Act.put, List.getElem_toArray, List.getElem_cons_succ, List.getElem_cons_zero, List.setIfInBounds_toArray, List.set_cons_zero, List.set_cons_succ]
  refine wpAnyH_take (i := 13) (v := undef) rfl (by kernel_rfl) (by kernel_rfl) (by kernel_rfl) (fun _ _ _ h => h) (Or.inr ⟨by rfl, rfl⟩) hS ?_
  simp only [Act.put, List.getElem_toArray, List.getElem_cons_succ, List.getElem_cons_zero, List.setIfInBounds_toArray, List.set_cons_zero, List.set_cons_succ]
  refine wpAnyH_take (i := 14) (v := undef) rfl (by kernel_rfl) (by kernel_rfl) (by kernel_rfl) (fun _ _ _ h => h) (Or.inr ⟨by rfl, rfl⟩) hS ?_
  simp only [Act.put, List.getElem_toArray, List.getElem_cons_succ, List.getElem_cons_zero, List.setIfInBounds_toArray, List.set_cons_zero, List.set_cons_succ]
  refine wpAnyH_take (i := 15) (v := undef) rfl (by kernel_rfl) (by kernel_rfl) (by kernel_rfl) (fun _ _ _ h => h) (Or.inr ⟨by rfl, rfl⟩) hS ?_
  simp only [Act.put, List.getElem_toArray, List.getElem_cons_succ, List.getElem_cons_zero, List.setIfInBounds_toArray, List.set_cons_zero, List.set_cons_succ]
  refine wpAnyH_take (i := 16) (v := undef) rfl (by kernel_rfl) (by kernel_rfl) (by kernel_rfl) (fun _ _ _ h => h) (Or.inr ⟨by rfl, rfl⟩) hS ?_
  simp only [Act.put, List.getElem_toArray, List.getElem_cons_succ, List.getElem_cons_zero, List.setIfInBounds_toArray, List.set_cons_zero, List.set_cons_succ]
  refine wpAnyH_take (i := 17) (v := undef) rfl (by kernel_rfl) (by kernel_rfl) (by kernel_rfl) (fun _ _ _ h => h) (Or.inr ⟨by rfl, rfl⟩) hS ?_
  simp only [Act.put, List.getElem_toArray, List.getElem_cons_succ, List.getElem_cons_zero, List.setIfInBounds_toArray, List.set_cons_zero, List.set_cons_succ]
  refine wpAnyH_take (i := 18) (v := undef) rfl (by kernel_rfl) (by kernel_rfl) (by kernel_rfl) (fun _ _ _ h => h) (Or.inr ⟨by rfl, rfl⟩) hS ?_
  simp only [Act.put, List.getElem_toArray, List.getElem_cons_succ, List.getElem_cons_zero, List.setIfInBounds_toArray, List.set_cons_zero, List.set_cons_succ]
  refine wpAnyH_take (i := 19) (v := undef) rfl (by kernel_rfl) (by kernel_rfl) (by kernel_rfl) (fun _ _ _ h => h) (Or.inr ⟨by rfl, rfl⟩) hS ?_
  simp only [Act.put, List.getElem_toArray, List.getElem_cons_succ, List.getElem_cons_zero, List.setIfInBounds_toArray, List.set_cons_zero, List.set_cons_succ]
  refine wpAnyH_take (i := 20) (v := undef) rfl (by kernel_rfl) (by kernel_rfl) (by kernel_rfl) (fun _ _ _ h => h) (Or.inr ⟨by rfl, rfl⟩) hS ?_
  simp only [Act.put, List.getElem_toArray, List.getElem_cons_succ, List.getElem_cons_zero, List.setIfInBounds_toArray, List.set_cons_zero, List.set_cons_succ]
  refine wpAnyH_take (i := 21) (v := .bool false) rfl (by kernel_rfl) (by kernel_rfl) (by kernel_rfl) (fun _ _ _ h => h) (Or.inl ⟨by rfl, fun wx hx => by simp [go_sem]⟩) hS ?_
  simp only [Act.put, List.getElem_toArray, List.getElem_cons_succ, List.getElem_cons_zero, List.setIfInBounds_toArray, List.set_cons_zero, List.set_cons_succ]
  refine wpAnyH_take (i := 22) (v := .bool false) rfl (by kernel_rfl) (by kernel_rfl) (by kernel_rfl) (fun _ _ _ h => h) (Or.inl ⟨by rfl, fun wx hx => by simp [go_sem]⟩) hS ?_
  simp only [Act.put, List.getElem_toArray, List.getElem_cons_succ, List.getElem_cons_zero, List.setIfInBounds_toArray, List.set_cons_zero, List.set_cons_succ]
  refine wpAnyH_take (i := 23) (v := .bool false) rfl (by kernel_rfl) (by kernel_rfl) (by kernel_rfl) (fun _ _ _ h => h) (Or.inl ⟨by rfl, fun wx hx => by simp [go_sem]⟩) hS ?_
  simp only [Act.put, List.getElem_toArray, List.getElem_cons_succ, List.getElem_cons_zero, List.setIfInBounds_toArray, List.set_cons_zero, List.set_cons_succ]
  refine wpAnyH_done (by kernel_rfl) ?_ _
  have HW2 : Hid (Wt w.drew d g gl l x v) := HW.out.next (Below.refl _ w).drew
  have HBW : Hid (Below w.heap.size w w.drew) := (Below.refl _ w).drew
  clear HW hS0 hS
  generalize World.drew w = w1 at *
  have hS0 : Hid (∀ wx, Over w1.drew wx → Below w1.heap.size w1 wx) := fun wx hx => Over.after hx (Below.refl _ w1).drew
  go_wp2_with fail
  refine wp_region_held_drew (S := Over w1.drew) (by kernel_rfl) (Over.refl _) ?_
  intro hS
  refine wpAnyH_take (i := 0) (v := .pointer (some ⟨g, 0, none⟩)) rfl (by kernel_rfl) (by kernel_rfl) (by kernel_rfl) (fun _ _ _ h => h) (Or.inl ⟨by rfl, fun wx hx => by simp [go_sem]⟩) hS ?_
  simp only [Act.put, List.getElem_toArray, List.getElem_cons_zero, List.setIfInBounds_toArray, List.set_cons_zero, List.set_cons_succ]
  refine wpAnyH_take (i := 1) (v := .pointer (some ⟨g, 0, none⟩)) rfl (by kernel_rfl) (by kernel_rfl) (by kernel_rfl) (fun _ _ _ h => h) (Or.inl ⟨by rfl, fun wx hx => by simp [go_sem]⟩) hS ?_
  simp only [Act.put, List.getElem_toArray, List.getElem_cons_succ, List.getElem_cons_zero, List.setIfInBounds_toArray, List.set_cons_zero, List.set_cons_succ]
  refine wpAnyH_take (i := 2) (v := .pointer (some ⟨g, 0, none⟩)) rfl (by kernel_rfl) (by kernel_rfl) (by kernel_rfl) (fun _ _ _ h => h) (Or.inl ⟨by rfl, fun wx hx => by simp [go_sem]⟩) hS ?_
  simp only [Act.put, List.getElem_toArray, List.getElem_cons_succ, List.getElem_cons_zero, List.setIfInBounds_toArray, List.set_cons_zero, List.set_cons_succ]
  refine wpAnyH_take (i := 3) (v := .int .i64 (n : Int)) rfl (by kernel_rfl) (by kernel_rfl) (by kernel_rfl) (fun _ _ _ h => h) (Or.inl ⟨by rfl, fun wx hx => by (have hc := (HW2.out.next (hS0.out wx hx)).cnt; rw [HLN.out] at hc; simp [go_sem, hc])⟩) hS ?_
  simp only [Act.put, List.getElem_toArray, List.getElem_cons_succ, List.getElem_cons_zero, List.setIfInBounds_toArray, List.set_cons_zero, List.set_cons_succ]
  refine wpAnyH_take (i := 4) (v := .bool false) rfl (by kernel_rfl) (by kernel_rfl) (by kernel_rfl) (fun _ _ _ h => h) (Or.inl ⟨by rfl, fun wx hx => by simp [go_sem, z1]⟩) hS ?_
  simp only [Act.put, List.getElem_toArray, List.getElem_cons_succ, List.getElem_cons_zero, List.setIfInBounds_toArray, List.set_cons_zero, List.set_cons_succ]
  refine wpAnyH_take (i := 5) (v := .bool false) rfl (by kernel_rfl) (by kernel_rfl) (by kernel_rfl) (fun _ _ _ h => h) (Or.inl ⟨by rfl, fun wx hx => by simp [go_sem]⟩) hS ?_
  simp only [Act.put, List.getElem_toArray, List.getElem_cons_succ, List.getElem_cons_zero, List.setIfInBounds_toArray, List.set_cons_zero, List.set_cons_succ]
  refine wpAnyH_take (i := 6) (v := undef) rfl (by kernel_rfl) (by kernel_rfl) (by kernel_rfl) (fun _ _ _ h => h) (Or.inr ⟨by rfl, rfl⟩) hS ?_
  simp only [Act.put, List.getElem_toArray, List.getElem_cons_succ, List.getElem_cons_zero, List.setIfInBounds_toArray, List.set_cons_zero, List.set_cons_succ]
  refine wpAnyH_take (i := 7) (v := undef) rfl (by kernel_rfl) (by kernel_rfl) (by kernel_rfl) (fun _ _ _ h => h) (Or.inr ⟨by rfl, rfl⟩) hS ?_
  simp only [Act.put, List.getElem_toArray, List.getElem_cons_succ, List.getElem_cons_zero, List.setIfInBounds_toArray, List.set_cons_zero, List.set_cons_succ]
  refine wpAnyH_take (i := 8) (v := undef) rfl (by kernel_rfl) (by kernel_rfl) (by kernel_rfl) (fun _ _ _ h => h) (Or.inr ⟨by rfl, rfl⟩) hS ?_
  simp only [Act.put, List.getElem_toArray, List.getElem_cons_succ, List.getElem_cons_zero, List.setIfInBounds_toArray, List.set_cons_zero, List.set_cons_succ]
  refine wpAnyH_take (i := 9) (v := undef) rfl (by kernel_rfl) (by kernel_rfl) (by kernel_rfl) (fun _ _ _ h => h) (Or.inr ⟨by rfl, rfl⟩) hS ?_
  simp only [Act.put, List.getElem_toArray, List.getElem_cons_succ, List.getElem_cons_zero, List.setIfInBounds_toArray, List.set_cons_zero, List.set_cons_succ]
  refine wpAnyH_take (i := 10) (v := undef) rfl (by kernel_rfl) (by kernel_rfl) (by kernel_rfl) (fun _ _ _ h => h) (Or.inr ⟨by rfl, rfl⟩) hS ?_
  simp only [Act.put, List.getElem_toArray, List.getElem_cons_succ, List.getElem_cons_zero, List.setIfInBounds_toArray, List.set_cons_zero, List.set_cons_succ]
  refine wpAnyH_take (i := 11) (v := undef) rfl (by kernel_rfl) (by kernel_rfl) (by kernel_rfl) (fun _ _ _ h => h) (Or.inr ⟨by rfl, rfl⟩) hS ?_
  simp only [Act.put, List.getElem_toArray, List.getElem_cons_succ, List.getElem_cons_zero, List.setIfInBounds_toArray, List.set_cons_zero, List.set_cons_succ]
  refine wpAnyH_take (i := 12) (v := undef) rfl (by kernel_rfl) (by kernel_rfl) (by kernel_rfl) (fun _ _ _ h => h) (Or.inr ⟨by rfl, rfl⟩) hS ?_
  simp only [Act.put, List.getElem_toArray, List.getElem_cons_succ, List.getElem_cons_zero, List.setIfInBounds_toArray, List.set_cons_zero, List.set_cons_succ]
  refine wpAnyH_take (i := 13) (v := undef) rfl (by kernel_rfl) (by kernel_rfl) (by kernel_rfl) (fun _ _ _ h => h) (Or.inr ⟨by rfl, rfl⟩) hS ?_
  simp only [Act.put, List.getElem_toArray, List.getElem_cons_succ, List.getElem_cons_zero, List.setIfInBounds_toArray, List.set_cons_zero, List.set_cons_succ]
  refine wpAnyH_take (i := 14) (v := undef) rfl (by kernel_rfl) (by kernel_rfl) (by kernel_rfl) (fun _ _ _ h => h) (Or.inr ⟨by rfl, rfl⟩) hS ?_
  simp only [Act.put, List.getElem_toArray, List.getElem_cons_succ, List.getElem_cons_zero, List.setIfInBounds_toArray, List.set_cons_zero, List.set_cons_succ]
  refine wpAnyH_take (i := 15) (v := .bool false) rfl (by kernel_rfl) (by kernel_rfl) (by kernel_rfl) (fun _ _ _ h => h) (Or.inl ⟨by rfl, fun wx hx => by simp [go_sem]⟩) hS ?_
  simp only [Act.put, List.getElem_toArray, List.getElem_cons_succ, List.getElem_cons_zero, List.setIfInBounds_toArray, List.set_cons_zero, List.set_cons_succ]
  refine wpAnyH_take (i := 16) (v := .bool false) rfl (by kernel_rfl) (by kernel_rfl) (by kernel_rfl) (fun _ _ _ h => h) (Or.inl ⟨by rfl, fun wx hx => by simp [go_sem]⟩) hS ?_
  simp only [Act.put, List.getElem_toArray, List.getElem_cons_succ, List.getElem_cons_zero, List.setIfInBounds_toArray, List.set_cons_zero, List.set_cons_succ]
  refine wpAnyH_done (by kernel_rfl) ?_ _
  have HW3 : Hid (Wt w1.drew d g gl l x v) := HW2.out.next (Below.refl _ w1).drew
  replace HBW : Hid (Below w.heap.size w w1.drew) := HBW.out.trans ((Below.refl _ w1).drew.mono HBW.out.size)
  clear HW2 hS0 hS
  generalize World.drew w1 = w2 at *
  have c0 : w2.cell? ⟨g, 0, none⟩ = some (.int .i64 (n : Int)) := by rw [← HLN.out]; exact HW3.out.cnt
  go_upto_if 65 with (first
    | (with_reducible refine wpSeq_loadAt (.tmp 68) gl 33 x ?_ ?_ ?_ ?_ ?_ ?_
       · exact HX.out
       · exact HW3.out.leaf.index
       · with_reducible rfl
       · rfl
       · rfl)
    | (go_at_call 44; refine (pBit_any x HX.out _ _).mono ?_; rintro e w3 ⟨rfl, hbq⟩; rw [HBI.out]
       replace HW3 : Hid (Wt w3 d g gl l x v) := HW3.out.next hbq
       replace HBW : Hid (Below w.heap.size w w3) := HBW.out.trans (hbq.mono HBW.out.size)
       clear hbq c0))
  clear z0 z0' z1 z1'
  go_wp2_with fail
  have hS0 : Hid (∀ wx, Over w3.drew wx → Below w.heap.size w wx) := fun wx hx => Over.after hx HBW.out.drew
  obtain ⟨d1, HD1⟩ : ∃ z, Hid (z = d + 1) := ⟨_, rfl⟩
  have rd : IntKind.i64.wrap ((d : Int) + 1) = (d1 : Int) := by rw [IntKind.wrap_i64, HD1.out]; omega
  have HWC : Hid (∀ wx, Over w3.drew wx → Calls Tryd.prog 35 #[.pointer (some ⟨g1, 0, none⟩), .pointer (some ⟨gl, 0, none⟩), .int .i64 (d1 : Int)] wx fun e w' => ∃ g', e = .returned (.pointer (some ⟨g', 0, none⟩)) ∧ TreeIs w' (d + 1) g' (putL (halfL l d true) x v) ∧ Below wx.heap.size wx w') := fun wx hx => by rw [HD1.out]; exact HIH.out wx (hS0.out wx hx)
  refine wp_region_held_drew (S := Over w3.drew) (by kernel_rfl) (Over.refl _) ?_
  intro hS
  refine wpAnyH_take (i := 0) (v := .pointer (some ⟨g, 0, none⟩)) rfl (by kernel_rfl) (by kernel_rfl) (by kernel_rfl) (fun _ _ _ h => h) (Or.inl ⟨by rfl, fun wx hx => by simp [go_sem]⟩) hS ?_
  simp only [Act.put, List.getElem_toArray, List.getElem_cons_zero, List.setIfInBounds_toArray, List.set_cons_zero, List.set_cons_succ]
  refine wpAnyH_take (i := 1) (v := .pointer (some ⟨g, 0, none⟩)) rfl (by kernel_rfl) (by kernel_rfl) (by kernel_rfl) (fun _ _ _ h => h) (Or.inl ⟨by rfl, fun wx hx => by simp [go_sem]⟩) hS ?_
  simp only [Act.put, List.getElem_toArray, List.getElem_cons_succ, List.getElem_cons_zero, List.setIfInBounds_toArray, List.set_cons_zero, List.set_cons_succ]
  refine wpAnyH_take (i := 2) (v := .pointer (some ⟨g, 97, none⟩)) rfl (by kernel_rfl) (by kernel_rfl) (by kernel_rfl) (fun _ _ _ h => h) (Or.inl ⟨by rfl, fun wx hx => by simp [go_sem]⟩) hS ?_
  simp only [Act.put, List.getElem_toArray, List.getElem_cons_succ, List.getElem_cons_zero, List.setIfInBounds_toArray, List.set_cons_zero, List.set_cons_succ]
  refine wpAnyH_take (i := 3) (v := .pointer (some ⟨g0, 0, none⟩)) rfl (by kernel_rfl) (by kernel_rfl) (by kernel_rfl) (fun _ _ _ h => h) (Or.inl ⟨by rfl, fun wx hx => by (have hc := (HCC.out.next (hS0.out wx hx)).off; simp only [ptr] at hc; simp [go_sem, hc])⟩) hS ?_
  simp only [Act.put, List.getElem_toArray, List.getElem_cons_succ, List.getElem_cons_zero, List.setIfInBounds_toArray, List.set_cons_zero, List.set_cons_succ]
  refine wpAnyH_take (i := 4) (v := .pointer (some ⟨g, 0, none⟩)) rfl (by kernel_rfl) (by kernel_rfl) (by kernel_rfl) (fun _ _ _ h => h) (Or.inl ⟨by rfl, fun wx hx => by simp [go_sem]⟩) hS ?_
  simp only [Act.put, List.getElem_toArray, List.getElem_cons_succ, List.getElem_cons_zero, List.setIfInBounds_toArray, List.set_cons_zero, List.set_cons_succ]
  refine wpAnyH_take (i := 5) (v := .pointer (some ⟨g, 0, none⟩)) rfl (by kernel_rfl) (by kernel_rfl) (by kernel_rfl) (fun _ _ _ h => h) (Or.inl ⟨by rfl, fun wx hx => by simp [go_sem]⟩) hS ?_
  simp only [Act.put, List.getElem_toArray, List.getElem_cons_succ, List.getElem_cons_zero, List.setIfInBounds_toArray, List.set_cons_zero, List.set_cons_succ]
  refine wpAnyH_take (i := 6) (v := .pointer (some ⟨g, 98, none⟩)) rfl (by kernel_rfl) (by kernel_rfl) (by kernel_rfl) (fun _ _ _ h => h) (Or.inl ⟨by rfl, fun wx hx => by simp [go_sem]⟩) hS ?_
  simp only [Act.put, List.getElem_toArray, List.getElem_cons_succ, List.getElem_cons_zero, List.setIfInBounds_toArray, List.set_cons_zero, List.set_cons_succ]
  refine wpAnyH_take (i := 7) (v := .pointer (some ⟨g1, 0, none⟩)) rfl (by kernel_rfl) (by kernel_rfl) (by kernel_rfl) (fun _ _ _ h => h) (Or.inl ⟨by rfl, fun wx hx => by (have hc := (HCC.out.next (hS0.out wx hx)).on; simp only [ptr] at hc; simp [go_sem, hc])⟩) hS ?_
  simp only [Act.put, List.getElem_toArray, List.getElem_cons_succ, List.getElem_cons_zero, List.setIfInBounds_toArray, List.set_cons_zero, List.set_cons_succ]
  refine wpAnyH_take (i := 8) (v := .pointer (some ⟨gl, 0, none⟩)) rfl (by kernel_rfl) (by kernel_rfl) (by kernel_rfl) (fun _ _ _ h => h) (Or.inl ⟨by rfl, fun wx hx => by simp [go_sem]⟩) hS ?_
  simp only [Act.put, List.getElem_toArray, List.getElem_cons_succ, List.getElem_cons_zero, List.setIfInBounds_toArray, List.set_cons_zero, List.set_cons_succ]
  refine wpAnyH_take (i := 9) (v := .int .i64 (d : Int)) rfl (by kernel_rfl) (by kernel_rfl) (by kernel_rfl) (fun _ _ _ h => h) (Or.inl ⟨by rfl, fun wx hx => by simp [go_sem]⟩) hS ?_
  simp only [Act.put, List.getElem_toArray, List.getElem_cons_succ, List.getElem_cons_zero, List.setIfInBounds_toArray, List.set_cons_zero, List.set_cons_succ]
  refine wpAnyH_take (i := 10) (v := .int .i64 (d1 : Int)) rfl (by kernel_rfl) (by kernel_rfl) (by kernel_rfl) (fun _ _ _ h => h) (Or.inl ⟨by rfl, fun wx hx => by simp [go_sem, rd]⟩) hS ?_
  simp only [Act.put, List.getElem_toArray, List.getElem_cons_succ, List.getElem_cons_zero, List.setIfInBounds_toArray, List.set_cons_zero, List.set_cons_succ]
  refine wpAnyH_enter 11 (by kernel_rfl) rfl (by rfl) (f := 35) (args := #[.pointer (some ⟨g1, 0, none⟩), .pointer (some ⟨gl, 0, none⟩), .int .i64 (d1 : Int)]) (by simp [go_sem]) (HWC.out _ hS) ?_
  rintro e wy ⟨gn, rfl, htn, hbq⟩
  refine ⟨_, rfl, hS.more hbq, ?_⟩
  replace hS := hS.more hbq
  clear hbq
  simp only [Act.put, List.getElem_toArray, List.getElem_cons_succ, List.getElem_cons_zero, List.setIfInBounds_toArray, List.set_cons_zero, List.set_cons_succ]
  have hta : TreeIs wy (d + 1) g0 (halfL (putL l x v) d false) := by rw [HH0.out]; exact HT0.out.next (hS0.out _ hS)
  have htb : TreeIs wy (d + 1) gn (halfL (putL l x v) d true) := by rw [HH1.out]; exact htn
  obtain ⟨ix0, vl0, p0, q0, hc0⟩ := hta.cells
  obtain ⟨ix1, vl1, p1, q1, hc1⟩ := htb.cells
  have hlen : (halfL (putL l x v) d false).length + (halfL (putL l x v) d true).length = (putL l x v).length := (half_len HFP.out).symm
  refine wpAnyH_enter 12 (by kernel_rfl) rfl (by rfl) (f := 45) (args := #[.pointer (some ⟨g0, 0, none⟩), .pointer (some ⟨gn, 0, none⟩)]) (by simp [go_sem]) (trJoined_any g0 gn _ _ _ _ _ _ _ _ _ _ _ _ wy (HW3.out.kok.below (Over.after hS (Below.refl _ w3).drew) HW3.out.kok.lt) hc0 hc1 (by rw [hlen]; have := HL2.out.2; omega)) ?_
  rintro e wz ⟨gz, rfl, hcg, hbq⟩
  replace hta := hta.next hbq
  replace htb := htb.next hbq
  refine ⟨_, rfl, hS.more hbq, ?_⟩
  replace hS := hS.more hbq
  clear hbq
  have HTR : Hid (TreeIs wz d gz (putL l x v)) := by
    rw [hlen] at hcg
    refine .node d gz g0 gn _ HL2.out.1 HFP.out hta htb ?_
    rw [rootL_two HFP.out HL2.out.1]
    exact hcg
  clear hta htb hc0 hc1 hcg hlen htn
  simp only [Act.put, List.getElem_toArray, List.getElem_cons_succ, List.getElem_cons_zero, List.setIfInBounds_toArray, List.set_cons_zero, List.set_cons_succ]
  refine wpAnyH_take (i := 13) (v := .pointer (some ⟨gz, 0, none⟩)) rfl (by kernel_rfl) (by kernel_rfl) (by kernel_rfl) (fun _ _ _ h => h) (Or.inl ⟨by rfl, fun wx hx => by simp [go_sem]⟩) hS ?_
  simp only [Act.put, List.getElem_toArray, List.getElem_cons_succ, List.getElem_cons_zero, List.setIfInBounds_toArray, List.set_cons_zero, List.set_cons_succ]
  refine wpAnyH_done (by kernel_rfl) ?_ _
  go_wp2_with fail
  go_ret
  exact ⟨gz, rfl, HTR.out, hS0.out _ hS⟩
set_option maxRecDepth 100000 in
set_option maxHeartbeats 4000000 in
theorem trWith_off (w : World) (d g gl : Nat) (l : List Lf) (x v : List (BitVec 8)) (hW : Wt w d g gl l x v) (n : Nat) (hn : l.length = n) (h2 : 2 ≤ n) (hn2 : n < 90000) (g0 g1 : Nat) (ht0 : TreeIs w (d + 1) g0 (halfL l d false)) (ht1 : TreeIs w (d + 1) g1 (halfL l d true)) (hcc : TreeC w g l.length (rootL l d) zb32 zb32 (ptr g0) (ptr g1)) (hF : Fits l d) (hN : Near l x d) (hb : bt x d = false) (IH : ∀ W, Below w.heap.size w W → WithDoes (d + 1) g0 gl (halfL l d false) x v W) : WithDoes d g gl l x v w := by
  unfold WithDoes
  have HW : Hid (Wt w d g gl l x v) := hW
  have HLN : Hid (l.length = n) := hn
  have HX : Hid (x.length = 32) := HW.out.leaf.l2
  have hdl : d < 256 := hF.lt (by rw [hn]; exact h2)
  have HBI : Hid (bitI x (d : Int) = false) := by show _ = _; rw [bitI_nat _ _ hdl]; exact hb
  have HT0 : Hid (TreeIs w (d + 1) g0 (halfL l d false)) := ht0
  have HT1 : Hid (TreeIs w (d + 1) g1 (halfL l d true)) := ht1
  have HCC : Hid (TreeC w g l.length (rootL l d) zb32 zb32 (ptr g0) (ptr g1)) := hcc
  have HFP : Hid (Fits (putL l x v) d) := hF.put hN HX.out HW.out.leaf.l3
  have HH0 : Hid (halfL (putL l x v) d false = putL (halfL l d false) x v) := by show _ = _; exact (by have h := half_put_on (v := v) (d := d) hF.1 hF.2.1 HX.out; rw [hb] at h; exact h)
  have HH1 : Hid (halfL (putL l x v) d true = halfL l d true) := by show _ = _; exact half_put_off hF.1 hF.2.1 HX.out (by rw [hb]; decide)
  have HL2 : Hid (2 ≤ (putL l x v).length ∧ (putL l x v).length < 100000) := by
    have h := putL_count (v := v) hF.1 hF.2.1 HX.out
    show _ ∧ _
    rw [h, hn]
    split <;> omega
  have HIH : Aside _ := IH
  have z0 : ¬ ((n : Int) = 0) := by omega
  have z0' : ((n : Int) == 0) = false := by rw [beq_eq_false_iff_ne]; omega
  have z1 : ¬ ((n : Int) = 1) := by omega
  have z1' : ((n : Int) == 1) = false := by rw [beq_eq_false_iff_ne]; omega
  clear hn hF hN hb IH ht0 ht1 hcc
  have hS0 : Hid (∀ wx, Over w.drew wx → Below w.heap.size w wx) := fun wx hx => Over.after hx (Below.refl _ w).drew
  clear hW
  go_enter Tryd.func35, Tryd.ntmps35
  go_wp2_with fail
  refine wp_region_held_drew (S := Over w.drew) (by kernel_rfl) (Over.refl _) ?_
  intro hS
  refine wpAnyH_take (i := 0) (v := .pointer (some ⟨g, 0, none⟩)) rfl (by kernel_rfl) (by kernel_rfl) (by kernel_rfl) (fun _ _ _ h => h) (Or.inl ⟨by rfl, fun wx hx => by simp [go_sem]⟩) hS ?_
  simp only [Act.put, List.getElem_toArray, List.getElem_cons_zero, List.setIfInBounds_toArray, List.set_cons_zero, List.set_cons_succ]
  refine wpAnyH_take (i := 1) (v := .pointer (some ⟨g, 0, none⟩)) rfl (by kernel_rfl) (by kernel_rfl) (by kernel_rfl) (fun _ _ _ h => h) (Or.inl ⟨by rfl, fun wx hx => by simp [go_sem]⟩) hS ?_
  simp only [Act.put, List.getElem_toArray, List.getElem_cons_succ, List.getElem_cons_zero, List.setIfInBounds_toArray, List.set_cons_zero, List.set_cons_succ]
  refine wpAnyH_take (i := 2) (v := .pointer (some ⟨g, 0, none⟩)) rfl (by kernel_rfl) (by kernel_rfl) (by kernel_rfl) (fun _ _ _ h => h) (Or.inl ⟨by rfl, fun wx hx => by simp [go_sem]⟩) hS ?_
  simp only [Act.put, List.getElem_toArray, List.getElem_cons_succ, List.getElem_cons_zero, List.setIfInBounds_toArray, List.set_cons_zero, List.set_cons_succ]
  refine wpAnyH_take (i := 3) (v := .int .i64 (n : Int)) rfl (by kernel_rfl) (by kernel_rfl) (by kernel_rfl) (fun _ _ _ h => h) (Or.inl ⟨by rfl, fun wx hx => by (have hc := (HW.out.next (hS0.out wx hx)).cnt; rw [HLN.out] at hc; simp [go_sem, hc])⟩) hS ?_
  simp only [Act.put, List.getElem_toArray, List.getElem_cons_succ, List.getElem_cons_zero, List.setIfInBounds_toArray, List.set_cons_zero, List.set_cons_succ]
  refine wpAnyH_take (i := 4) (v := .bool false) rfl (by kernel_rfl) (by kernel_rfl) (by kernel_rfl) (fun _ _ _ h => h) (Or.inl ⟨by rfl, fun wx hx => by (simp [go_sem]; omega)⟩) hS ?_
  simp only [Act.put, List.getElem_toArray, List.getElem_cons_succ, List.getElem_cons_zero, List.setIfInBounds_toArray, List.set_cons_zero, List.set_cons_succ]
  refine wpAnyH_take (i := 5) (v := .bool false) rfl (by kernel_rfl) (by kernel_rfl) (by kernel_rfl) (fun _ _ _ h => h) (Or.inl ⟨by rfl, fun wx hx => by simp [go_sem]⟩) hS ?_
  simp only [Act.put, List.getElem_toArray, List.getElem_cons_succ, List.getElem_cons_zero, List.setIfInBounds_toArray, List.set_cons_zero, List.set_cons_succ]
  refine wpAnyH_take (i := 6) (v := .pointer (some ⟨g, 0, none⟩)) rfl (by kernel_rfl) (by kernel_rfl) (by kernel_rfl) (fun _ _ _ h => h) (Or.inl ⟨by rfl, fun wx hx => by simp [go_sem]⟩) hS ?_
  simp only [Act.put, List.getElem_toArray, List.getElem_cons_succ, List.getElem_cons_zero, List.setIfInBounds_toArray, List.set_cons_zero, List.set_cons_succ]
  refine wpAnyH_take (i := 7) (v := .pointer (some ⟨g, 0, none⟩)) rfl (by kernel_rfl) (by kernel_rfl) (by kernel_rfl) (fun _ _ _ h => h) (Or.inl ⟨by rfl, fun wx hx => by simp [go_sem]⟩) hS ?_
  simp only [Act.put, List.getElem_toArray, List.getElem_cons_succ, List.getElem_cons_zero, List.setIfInBounds_toArray, List.set_cons_zero, List.set_cons_succ]
  refine wpAnyH_take (i := 8) (v := .pointer (some ⟨g, 0, none⟩)) rfl (by kernel_rfl) (by kernel_rfl) (by kernel_rfl) (fun _ _ _ h => h) (Or.inl ⟨by rfl, fun wx hx => by simp [go_sem]⟩) hS ?_
  simp only [Act.put, List.getElem_toArray, List.getElem_cons_succ, List.getElem_cons_zero, List.setIfInBounds_toArray, List.set_cons_zero, List.set_cons_succ]
  refine wpAnyH_take (i := 9) (v := .int .i64 (n : Int)) rfl (by kernel_rfl) (by kernel_rfl) (by kernel_rfl) (fun _ _ _ h => h) (Or.inl ⟨by rfl, fun wx hx => by (have hc := (HW.out.next (hS0.out wx hx)).cnt; rw [HLN.out] at hc; simp [go_sem, hc])⟩) hS ?_
  simp only [Act.put, List.getElem_toArray, List.getElem_cons_succ, List.getElem_cons_zero, List.setIfInBounds_toArray, List.set_cons_zero, List.set_cons_succ]
  refine wpAnyH_take (i := 10) (v := .bool false) rfl (by kernel_rfl) (by kernel_rfl) (by kernel_rfl) (fun _ _ _ h => h) (Or.inl ⟨by rfl, fun wx hx => by simp [go_sem, z1]⟩) hS ?_
  simp only [Act.put, List.getElem_toArray, List.getElem_cons_succ, List.getElem_cons_zero, List.setIfInBounds_toArray, List.set_cons_zero, List.set_cons_succ]
  refine wpAnyH_take (i := 11) (v := .bool false) rfl (by kernel_rfl) (by kernel_rfl) (by kernel_rfl) (fun _ _ _ h => h) (Or.inl ⟨by rfl, fun wx hx => by simp [go_sem]⟩) hS ?_
  simp only [Act.put, List.getElem_toArray, List.getElem_cons_succ, List.getElem_cons_zero, List.setIfInBounds_toArray, List.set_cons_zero, List.set_cons_succ]
  refine wpAnyH_take (i := 12) (v := undef) rfl (by kernel_rfl) (by kernel_rfl) (by kernel_rfl) (fun _ _ _ h => h) (Or.inr ⟨by rfl, rfl⟩) hS ?_
  simp only [Act.put, List.getElem_toArray, List.getElem_cons_succ, List.getElem_cons_zero, List.setIfInBounds_toArray, List.set_cons_zero, List.set_cons_succ]
  refine wpAnyH_take (i := 13) (v := undef) rfl (by kernel_rfl) (by kernel_rfl) (by kernel_rfl) (fun _ _ _ h => h) (Or.inr ⟨by rfl, rfl⟩) hS ?_
  simp only [Act.put, List.getElem_toArray, List.getElem_cons_succ, List.getElem_cons_zero, List.setIfInBounds_toArray, List.set_cons_zero, List.set_cons_succ]
  refine wpAnyH_take (i := 14) (v := undef) rfl (by kernel_rfl) (by kernel_rfl) (by kernel_rfl) (fun _ _ _ h => h) (Or.inr ⟨by rfl, rfl⟩) hS ?_
  simp only [Act.put, List.getElem_toArray, List.getElem_cons_succ, List.getElem_cons_zero, List.setIfInBounds_toArray, List.set_cons_zero, List.set_cons_succ]
  refine wpAnyH_take (i := 15) (v := undef) rfl (by kernel_rfl) (by kernel_rfl) (by kernel_rfl) (fun _ _ _ h => h) (Or.inr ⟨by rfl, rfl⟩) hS ?_
  simp only [Act.put, List.getElem_toArray, List.getElem_cons_succ, List.getElem_cons_zero, List.setIfInBounds_toArray, List.set_cons_zero, List.set_cons_succ]
  refine wpAnyH_take (i := 16) (v := undef) rfl (by kernel_rfl) (by kernel_rfl) (by kernel_rfl) (fun _ _ _ h => h) (Or.inr ⟨by rfl, rfl⟩) hS ?_
  simp only [Act.put, List.getElem_toArray, List.getElem_cons_succ, List.getElem_cons_zero, List.setIfInBounds_toArray, List.set_cons_zero, List.set_cons_succ]
  refine wpAnyH_take (i := 17) (v := undef) rfl (by kernel_rfl) (by kernel_rfl) (by kernel_rfl) (fun _ _ _ h => h) (Or.inr ⟨by rfl, rfl⟩) hS ?_
  simp only [Act.put, List.getElem_toArray, List.getElem_cons_succ, List.getElem_cons_zero, List.setIfInBounds_toArray, List.set_cons_zero, List.set_cons_succ]
  refine wpAnyH_take (i := 18) (v := undef) rfl (by kernel_rfl) (by kernel_rfl) (by kernel_rfl) (fun _ _ _ h => h) (Or.inr ⟨by rfl, rfl⟩) hS ?_
  simp only [Act.put, List.getElem_toArray, List.getElem_cons_succ, List.getElem_cons_zero, List.setIfInBounds_toArray, List.set_cons_zero, List.set_cons_succ]
  refine wpAnyH_take (i := 19) (v := undef) rfl (by kernel_rfl) (by kernel_rfl) (by kernel_rfl) (fun _ _ _ h => h) (Or.inr ⟨by rfl, rfl⟩) hS ?_
  simp only [Act.put, List.getElem_toArray, List.getElem_cons_succ, List.getElem_cons_zero, List.setIfInBounds_toArray, List.set_cons_zero, List.set_cons_succ]
  refine wpAnyH_take (i := 20) (v := undef) rfl (by kernel_rfl) (by kernel_rfl) (by kernel_rfl) (fun _ _ _ h => h) (Or.inr ⟨by rfl, rfl⟩) hS ?_
  simp only [Act.put, List.getElem_toArray, List.getElem_cons_succ, List.getElem_cons_zero, List.setIfInBounds_toArray, List.set_cons_zero, List.set_cons_succ]
  refine wpAnyH_take (i := 21) (v := .bool false) rfl (by kernel_rfl) (by kernel_rfl) (by kernel_rfl) (fun _ _ _ h => h) (Or.inl ⟨by rfl, fun wx hx => by simp [go_sem]⟩) hS ?_
  simp only [Act.put, List.getElem_toArray, List.getElem_cons_succ, List.getElem_cons_zero, List.setIfInBounds_toArray, List.set_cons_zero, List.set_cons_succ]
  refine wpAnyH_take (i := 22) (v := .bool false) rfl (by kernel_rfl) (by kernel_rfl) (by kernel_rfl) (fun _ _ _ h => h) (Or.inl ⟨by rfl, fun wx hx => by simp [go_sem]⟩) hS ?_
  simp only [Act.put, List.getElem_toArray, List.getElem_cons_succ, List.getElem_cons_zero, List.setIfInBounds_toArray, List.set_cons_zero, List.set_cons_succ]
  refine wpAnyH_take (i := 23) (v := .bool false) rfl (by kernel_rfl) (by kernel_rfl) (by kernel_rfl) (fun _ _ _ h => h) (Or.inl ⟨by rfl, fun wx hx => by simp [go_sem]⟩) hS ?_
  simp only [Act.put, List.getElem_toArray, List.getElem_cons_succ, List.getElem_cons_zero, List.setIfInBounds_toArray, List.set_cons_zero, List.set_cons_succ]
  refine wpAnyH_done (by kernel_rfl) ?_ _
  have HW2 : Hid (Wt w.drew d g gl l x v) := HW.out.next (Below.refl _ w).drew
  have HBW : Hid (Below w.heap.size w w.drew) := (Below.refl _ w).drew
  clear HW hS0 hS
  generalize World.drew w = w1 at *
  have hS0 : Hid (∀ wx, Over w1.drew wx → Below w1.heap.size w1 wx) := fun wx hx => Over.after hx (Below.refl _ w1).drew
  go_wp2_with fail
  refine wp_region_held_drew (S := Over w1.drew) (by kernel_rfl) (Over.refl _) ?_
  intro hS
  refine wpAnyH_take (i := 0) (v := .pointer (some ⟨g, 0, none⟩)) rfl (by kernel_rfl) (by kernel_rfl) (by kernel_rfl) (fun _ _ _ h => h) (Or.inl ⟨by rfl, fun wx hx => by simp [go_sem]⟩) hS ?_
  simp only [Act.put, List.getElem_toArray, List.getElem_cons_zero, List.setIfInBounds_toArray, List.set_cons_zero, List.set_cons_succ]
  refine wpAnyH_take (i := 1) (v := .pointer (some ⟨g, 0, none⟩)) rfl (by kernel_rfl) (by kernel_rfl) (by kernel_rfl) (fun _ _ _ h => h) (Or.inl ⟨by rfl, fun wx hx => by simp [go_sem]⟩) hS ?_
  simp only [Act.put, List.getElem_toArray, List.getElem_cons_succ, List.getElem_cons_zero, List.setIfInBounds_toArray, List.set_cons_zero, List.set_cons_succ]
  refine wpAnyH_take (i := 2) (v := .pointer (some ⟨g, 0, none⟩)) rfl (by kernel_rfl) (by kernel_rfl) (by kernel_rfl) (fun _ _ _ h => h) (Or.inl ⟨by rfl, fun wx hx => by simp [go_sem]⟩) hS ?_
  simp only [Act.put, List.getElem_toArray, List.getElem_cons_succ, List.getElem_cons_zero, List.setIfInBounds_toArray, List.set_cons_zero, List.set_cons_succ]
  refine wpAnyH_take (i := 3) (v := .int .i64 (n : Int)) rfl (by kernel_rfl) (by kernel_rfl) (by kernel_rfl) (fun _ _ _ h => h) (Or.inl ⟨by rfl, fun wx hx => by (have hc := (HW2.out.next (hS0.out wx hx)).cnt; rw [HLN.out] at hc; simp [go_sem, hc])⟩) hS ?_
  simp only [Act.put, List.getElem_toArray, List.getElem_cons_succ, List.getElem_cons_zero, List.setIfInBounds_toArray, List.set_cons_zero, List.set_cons_succ]
  refine wpAnyH_take (i := 4) (v := .bool false) rfl (by kernel_rfl) (by kernel_rfl) (by kernel_rfl) (fun _ _ _ h => h) (Or.inl ⟨by rfl, fun wx hx => by simp [go_sem, z1]⟩) hS ?_
  simp only [Act.put, List.getElem_toArray, List.getElem_cons_succ, List.getElem_cons_zero, List.setIfInBounds_toArray, List.set_cons_zero, List.set_cons_succ]
  refine wpAnyH_take (i := 5) (v := .bool false) rfl (by kernel_rfl) (by kernel_rfl) (by kernel_rfl) (fun _ _ _ h => h) (Or.inl ⟨by rfl, fun wx hx => by simp [go_sem]⟩) hS ?_
  simp only [Act.put, List.getElem_toArray, List.getElem_cons_succ, List.getElem_cons_zero, List.setIfInBounds_toArray, List.set_cons_zero, List.set_cons_succ]
  refine wpAnyH_take (i := 6) (v := undef) rfl (by kernel_rfl) (by kernel_rfl) (by kernel_rfl) (fun _ _ _ h => h) (Or.inr ⟨by rfl, rfl⟩) hS ?_
  simp only [Act.put, List.getElem_toArray, List.getElem_cons_succ, List.getElem_cons_zero, List.setIfInBounds_toArray, List.set_cons_zero, List.set_cons_succ]
  refine wpAnyH_take (i := 7) (v := undef) rfl (by kernel_rfl) (by kernel_rfl) (by kernel_rfl) (fun _ _ _ h => h) (Or.inr ⟨by rfl, rfl⟩) hS ?_
  simp only [Act.put, List.getElem_toArray, List.getElem_cons_succ, List.getElem_cons_zero, List.setIfInBounds_toArray, List.set_cons_zero, List.set_cons_succ]
  refine wpAnyH_take (i := 8) (v := undef) rfl (by kernel_rfl) (by kernel_rfl) (by kernel_rfl) (fun _ _ _ h => h) (Or.inr ⟨by rfl, rfl⟩) hS ?_
  simp only [Act.put, List.getElem_toArray, List.getElem_cons_succ, List.getElem_cons_zero, List.setIfInBounds_toArray, List.set_cons_zero, List.set_cons_succ]
  refine wpAnyH_take (i := 9) (v := undef) rfl (by kernel_rfl) (by kernel_rfl) (by kernel_rfl) (fun _ _ _ h => h) (Or.inr ⟨by rfl, rfl⟩) hS ?_
  simp only [Act.put, List.getElem_toArray, List.getElem_cons_succ, List.getElem_cons_zero, List.setIfInBounds_toArray, List.set_cons_zero, List.set_cons_succ]
  refine wpAnyH_take (i := 10) (v := undef) rfl (by kernel_rfl) (by kernel_rfl) (by kernel_rfl) (fun _ _ _ h => h) (Or.inr ⟨by rfl, rfl⟩) hS ?_
  simp only [Act.put, List.getElem_toArray, List.getElem_cons_succ, List.getElem_cons_zero, List.setIfInBounds_toArray, List.set_cons_zero, List.set_cons_succ]
  refine wpAnyH_take (i := 11) (v := undef) rfl (by kernel_rfl) (by kernel_rfl) (by kernel_rfl) (fun _ _ _ h => h) (Or.inr ⟨by rfl, rfl⟩) hS ?_
  simp only [Act.put, List.getElem_toArray, List.getElem_cons_succ, List.getElem_cons_zero, List.setIfInBounds_toArray, List.set_cons_zero, List.set_cons_succ]
  refine wpAnyH_take (i := 12) (v := undef) rfl (by kernel_rfl) (by kernel_rfl) (by kernel_rfl) (fun _ _ _ h => h) (Or.inr ⟨by rfl, rfl⟩) hS ?_
  simp only [Act.put, List.getElem_toArray, List.getElem_cons_succ, List.getElem_cons_zero, List.setIfInBounds_toArray, List.set_cons_zero, List.set_cons_succ]
  refine wpAnyH_take (i := 13) (v := undef) rfl (by kernel_rfl) (by kernel_rfl) (by kernel_rfl) (fun _ _ _ h => h) (Or.inr ⟨by rfl, rfl⟩) hS ?_
  simp only [Act.put, List.getElem_toArray, List.getElem_cons_succ, List.getElem_cons_zero, List.setIfInBounds_toArray, List.set_cons_zero, List.set_cons_succ]
  refine wpAnyH_take (i := 14) (v := undef) rfl (by kernel_rfl) (by kernel_rfl) (by kernel_rfl) (fun _ _ _ h => h) (Or.inr ⟨by rfl, rfl⟩) hS ?_
  simp only [Act.put, List.getElem_toArray, List.getElem_cons_succ, List.getElem_cons_zero, List.setIfInBounds_toArray, List.set_cons_zero, List.set_cons_succ]
  refine wpAnyH_take (i := 15) (v := .bool false) rfl (by kernel_rfl) (by kernel_rfl) (by kernel_rfl) (fun _ _ _ h => h) (Or.inl ⟨by rfl, fun wx hx => by simp [go_sem]⟩) hS ?_
  simp only [Act.put, List.getElem_toArray, List.getElem_cons_succ, List.getElem_cons_zero, List.setIfInBounds_toArray, List.set_cons_zero, List.set_cons_succ]
  refine wpAnyH_take (i := 16) (v := .bool false) rfl (by kernel_rfl) (by kernel_rfl) (by kernel_rfl) (fun _ _ _ h => h) (Or.inl ⟨by rfl, fun wx hx => by simp [go_sem]⟩) hS ?_
  simp only [Act.put, List.getElem_toArray, List.getElem_cons_succ, List.getElem_cons_zero, List.setIfInBounds_toArray, List.set_cons_zero, List.set_cons_succ]
  refine wpAnyH_done (by kernel_rfl) ?_ _
  have HW3 : Hid (Wt w1.drew d g gl l x v) := HW2.out.next (Below.refl _ w1).drew
  replace HBW : Hid (Below w.heap.size w w1.drew) := HBW.out.trans ((Below.refl _ w1).drew.mono HBW.out.size)
  clear HW2 hS0 hS
  generalize World.drew w1 = w2 at *
  have c0 : w2.cell? ⟨g, 0, none⟩ = some (.int .i64 (n : Int)) := by rw [← HLN.out]; exact HW3.out.cnt
  go_upto_if 65 with (first
    | (with_reducible refine wpSeq_loadAt (.tmp 68) gl 33 x ?_ ?_ ?_ ?_ ?_ ?_
       · exact HX.out
       · exact HW3.out.leaf.index
       · with_reducible rfl
       · rfl
       · rfl)
    | (go_at_call 44; refine (pBit_any x HX.out _ _).mono ?_; rintro e w3 ⟨rfl, hbq⟩; rw [HBI.out]
       replace HW3 : Hid (Wt w3 d g gl l x v) := HW3.out.next hbq
       replace HBW : Hid (Below w.heap.size w w3) := HBW.out.trans (hbq.mono HBW.out.size)
       clear hbq c0))
  clear z0 z0' z1 z1'
  go_wp2_with fail
  have hS0 : Hid (∀ wx, Over w3.drew wx → Below w.heap.size w wx) := fun wx hx => Over.after hx HBW.out.drew
  obtain ⟨d1, HD1⟩ : ∃ z, Hid (z = d + 1) := ⟨_, rfl⟩
  have rd : IntKind.i64.wrap ((d : Int) + 1) = (d1 : Int) := by rw [IntKind.wrap_i64, HD1.out]; omega
  have HWC : Hid (∀ wx, Over w3.drew wx → Calls Tryd.prog 35 #[.pointer (some ⟨g0, 0, none⟩), .pointer (some ⟨gl, 0, none⟩), .int .i64 (d1 : Int)] wx fun e w' => ∃ g', e = .returned (.pointer (some ⟨g', 0, none⟩)) ∧ TreeIs w' (d + 1) g' (putL (halfL l d false) x v) ∧ Below wx.heap.size wx w') := fun wx hx => by rw [HD1.out]; exact HIH.out wx (hS0.out wx hx)
  refine wp_region_held_drew (S := Over w3.drew) (by kernel_rfl) (Over.refl _) ?_
  intro hS
  refine wpAnyH_take (i := 0) (v := .pointer (some ⟨g, 0, none⟩)) rfl (by kernel_rfl) (by kernel_rfl) (by kernel_rfl) (fun _ _ _ h => h) (Or.inl ⟨by rfl, fun wx hx => by simp [go_sem]⟩) hS ?_
  simp only [Act.put, List.getElem_toArray, List.getElem_cons_zero, List.setIfInBounds_toArray, List.set_cons_zero, List.set_cons_succ]
  refine wpAnyH_take (i := 1) (v := .pointer (some ⟨g, 0, none⟩)) rfl (by kernel_rfl) (by kernel_rfl) (by kernel_rfl) (fun _ _ _ h => h) (Or.inl ⟨by rfl, fun wx hx => by simp [go_sem]⟩) hS ?_
  simp only [Act.put, List.getElem_toArray, List.getElem_cons_succ, List.getElem_cons_zero, List.setIfInBounds_toArray, List.set_cons_zero, List.set_cons_succ]
  refine wpAnyH_take (i := 2) (v := .pointer (some ⟨g, 97, none⟩)) rfl (by kernel_rfl) (by kernel_rfl) (by kernel_rfl) (fun _ _ _ h => h) (Or.inl ⟨by rfl, fun wx hx => by simp [go_sem]⟩) hS ?_
  simp only [Act.put, List.getElem_toArray, List.getElem_cons_succ, List.getElem_cons_zero, List.setIfInBounds_toArray, List.set_cons_zero, List.set_cons_succ]
  refine wpAnyH_take (i := 3) (v := .pointer (some ⟨g0, 0, none⟩)) rfl (by kernel_rfl) (by kernel_rfl) (by kernel_rfl) (fun _ _ _ h => h) (Or.inl ⟨by rfl, fun wx hx => by (have hc := (HCC.out.next (hS0.out wx hx)).off; simp only [ptr] at hc; simp [go_sem, hc])⟩) hS ?_
  simp only [Act.put, List.getElem_toArray, List.getElem_cons_succ, List.getElem_cons_zero, List.setIfInBounds_toArray, List.set_cons_zero, List.set_cons_succ]
  refine wpAnyH_take (i := 4) (v := .pointer (some ⟨gl, 0, none⟩)) rfl (by kernel_rfl) (by kernel_rfl) (by kernel_rfl) (fun _ _ _ h => h) (Or.inl ⟨by rfl, fun wx hx => by simp [go_sem]⟩) hS ?_
  simp only [Act.put, List.getElem_toArray, List.getElem_cons_succ, List.getElem_cons_zero, List.setIfInBounds_toArray, List.set_cons_zero, List.set_cons_succ]
  refine wpAnyH_take (i := 5) (v := .int .i64 (d : Int)) rfl (by kernel_rfl) (by kernel_rfl) (by kernel_rfl) (fun _ _ _ h => h) (Or.inl ⟨by rfl, fun wx hx => by simp [go_sem]⟩) hS ?_
  simp only [Act.put, List.getElem_toArray, List.getElem_cons_succ, List.getElem_cons_zero, List.setIfInBounds_toArray, List.set_cons_zero, List.set_cons_succ]
  refine wpAnyH_take (i := 6) (v := .int .i64 (d1 : Int)) rfl (by kernel_rfl) (by kernel_rfl) (by kernel_rfl) (fun _ _ _ h => h) (Or.inl ⟨by rfl, fun wx hx => by simp [go_sem, rd]⟩) hS ?_
  simp only [Act.put, List.getElem_toArray, List.getElem_cons_succ, List.getElem_cons_zero, List.setIfInBounds_toArray, List.set_cons_zero, List.set_cons_succ]
  refine wpAnyH_take (i := 8) (v := .pointer (some ⟨g, 0, none⟩)) rfl (by kernel_rfl) (by kernel_rfl) (by kernel_rfl) (fun _ _ _ h => h) (Or.inl ⟨by rfl, fun wx hx => by simp [go_sem]⟩) hS ?_
  simp only [Act.put, List.getElem_toArray, List.getElem_cons_succ, List.getElem_cons_zero, List.setIfInBounds_toArray, List.set_cons_zero, List.set_cons_succ]
  refine wpAnyH_take (i := 9) (v := .pointer (some ⟨g, 0, none⟩)) rfl (by kernel_rfl) (by kernel_rfl) (by kernel_rfl) (fun _ _ _ h => h) (Or.inl ⟨by rfl, fun wx hx => by simp [go_sem]⟩) hS ?_
  simp only [Act.put, List.getElem_toArray, List.getElem_cons_succ, List.getElem_cons_zero, List.setIfInBounds_toArray, List.set_cons_zero, List.set_cons_succ]
  refine wpAnyH_take (i := 10) (v := .pointer (some ⟨g, 98, none⟩)) rfl (by kernel_rfl) (by kernel_rfl) (by kernel_rfl) (fun _ _ _ h => h) (Or.inl ⟨by rfl, fun wx hx => by simp [go_sem]⟩) hS ?_
  simp only [Act.put, List.getElem_toArray, List.getElem_cons_succ, List.getElem_cons_zero, List.setIfInBounds_toArray, List.set_cons_zero, List.set_cons_succ]
  refine wpAnyH_take (i := 11) (v := .pointer (some ⟨g1, 0, none⟩)) rfl (by kernel_rfl) (by kernel_rfl) (by kernel_rfl) (fun _ _ _ h => h) (Or.inl ⟨by rfl, fun wx hx => by (have hc := (HCC.out.next (hS0.out wx hx)).on; simp only [ptr] at hc; simp [go_sem, hc])⟩) hS ?_
  simp only [Act.put, List.getElem_toArray, List.getElem_cons_succ, List.getElem_cons_zero, List.setIfInBounds_toArray, List.set_cons_zero, List.set_cons_succ]
  refine wpAnyH_enter 7 (by kernel_rfl) rfl (by rfl) (f := 35) (args := #[.pointer (some ⟨g0, 0, none⟩), .pointer (some ⟨gl, 0, none⟩), .int .i64 (d1 : Int)]) (by simp [go_sem]) (HWC.out _ hS) ?_
  rintro e wy ⟨gn, rfl, htn, hbq⟩
  refine ⟨_, rfl, hS.more hbq, ?_⟩
  replace hS := hS.more hbq
  clear hbq
  simp only [Act.put, List.getElem_toArray, List.getElem_cons_succ, List.getElem_cons_zero, List.setIfInBounds_toArray, List.set_cons_zero, List.set_cons_succ]
  have hta : TreeIs wy (d + 1) gn (halfL (putL l x v) d false) := by rw [HH0.out]; exact htn
  have htb : TreeIs wy (d + 1) g1 (halfL (putL l x v) d true) := by rw [HH1.out]; exact HT1.out.next (hS0.out _ hS)
  obtain ⟨ix0, vl0, p0, q0, hc0⟩ := hta.cells
  obtain ⟨ix1, vl1, p1, q1, hc1⟩ := htb.cells
  have hlen : (halfL (putL l x v) d false).length + (halfL (putL l x v) d true).length = (putL l x v).length := (half_len HFP.out).symm
  refine wpAnyH_enter 12 (by kernel_rfl) rfl (by rfl) (f := 45) (args := #[.pointer (some ⟨gn, 0, none⟩), .pointer (some ⟨g1, 0, none⟩)]) (by simp [go_sem]) (trJoined_any gn g1 _ _ _ _ _ _ _ _ _ _ _ _ wy (HW3.out.kok.below (Over.after hS (Below.refl _ w3).drew) HW3.out.kok.lt) hc0 hc1 (by rw [hlen]; have := HL2.out.2; omega)) ?_
  rintro e wz ⟨gz, rfl, hcg, hbq⟩
  replace hta := hta.next hbq
  replace htb := htb.next hbq
  refine ⟨_, rfl, hS.more hbq, ?_⟩
  replace hS := hS.more hbq
  clear hbq
  have HTR : Hid (TreeIs wz d gz (putL l x v)) := by
    rw [hlen] at hcg
    refine .node d gz gn g1 _ HL2.out.1 HFP.out hta htb ?_
    rw [rootL_two HFP.out HL2.out.1]
    exact hcg
  clear hta htb hc0 hc1 hcg hlen htn
  simp only [Act.put, List.getElem_toArray, List.getElem_cons_succ, List.getElem_cons_zero, List.setIfInBounds_toArray, List.set_cons_zero, List.set_cons_succ]
  refine wpAnyH_take (i := 13) (v := .pointer (some ⟨gz, 0, none⟩)) rfl (by kernel_rfl) (by kernel_rfl) (by kernel_rfl) (fun _ _ _ h => h) (Or.inl ⟨by rfl, fun wx hx => by simp [go_sem]⟩) hS ?_
  simp only [Act.put, List.getElem_toArray, List.getElem_cons_succ, List.getElem_cons_zero, List.setIfInBounds_toArray, List.set_cons_zero, List.set_cons_succ]
  refine wpAnyH_done (by kernel_rfl) ?_ _
  go_wp2_with fail
  go_ret
  exact ⟨gz, rfl, HTR.out, hS0.out _ hS⟩
theorem trWith_any : ∀ (f d g gl : Nat) (l : List Lf) (x v : List (BitVec 8)) (w : World), 256 ≤ d + f → d ≤ 256 → Wt w d g gl l x v → Fits l d → Near l x d → l.length < 90000 → WithDoes d g gl l x v w
  | f, d, g, gl, l, x, v, w, hf, hd, hW, hF, hN, hl => by
    by_cases h2 : 2 ≤ l.length
    · obtain ⟨g0, g1, ht0, ht1, hcc⟩ := hW.tree.two h2
      have hdl := hF.lt h2
      match f with
      | 0 => omega
      | f + 1 =>
        cases hb : bt x d with
        | true =>
          refine trWith_on w d g gl l x v hW l.length rfl h2 hl g0 g1 ht0 ht1 hcc hF hN hb fun W hB => ?_
          have hn := hN.half
          rw [hb] at hn
          exact trWith_any f (d + 1) g1 gl (halfL l d true) x v W (by omega) (by omega) ⟨(hW.next hB).kok, ht1.next hB, (hW.next hB).leaf⟩ (hF.half _) hn (Nat.lt_of_le_of_lt (half_le _ _ _) hl)
        | false =>
          refine trWith_off w d g gl l x v hW l.length rfl h2 hl g0 g1 ht0 ht1 hcc hF hN hb fun W hB => ?_
          have hn := hN.half
          rw [hb] at hn
          exact trWith_any f (d + 1) g0 gl (halfL l d false) x v W (by omega) (by omega) ⟨(hW.next hB).kok, ht0.next hB, (hW.next hB).leaf⟩ (hF.half _) hn (Nat.lt_of_le_of_lt (half_le _ _ _) hl)
    · match l, h2 with
      | [], _ => exact trWith_nil w d g gl [] x v hW rfl
      | [(y, u)], _ =>
        by_cases e : y = x
        · subst e
          exact trWith_same w d g gl _ y v hW u rfl
        · cases hls : lessB y x with
          | true => exact trWith_less w d g gl _ x v hW y u rfl e hls hF hN hd
          | false => exact trWith_more w d g gl _ x v hW y u rfl e hls hF hN hd
      | _ :: _ :: _, h2 => exact absurd (by simp) h2
end Go.Proofs.YtphacinnnepdoaaDoor
/- The walk of tree's Prove. -/
namespace Go.Proofs.YtphacinnnepdoaaDoor
open Go.RowKit
/-- where Prove stands: the index, the result, the proof that is being made; the tree lies as it lay -/
structure Qv (w : World) (gl : Nat) (x : List (BitVec 8)) (vs : Value) (sd : List (List (BitVec 8))) (cs : List Value) (W : World) : Prop where
  xb : Blk W gl (cb x) 24
  rb : Blk W (gl + 1) (prfV nilV 0 zb32 zb32) 41
  pb : Blk W (gl + 2) cs 41
  os : OwnD W (gl + 3) vs sd
  bel : Below gl w W
theorem Qv.next {w W W' : World} {gl : Nat} {x : List (BitVec 8)} {vs : Value} {sd : List (List (BitVec 8))} {cs : List Value} (h : Qv w gl x vs sd cs W) (hb : Below W.heap.size W W') : Qv w gl x vs sd cs W' :=
  ⟨h.xb.below hb h.xb.lt, h.rb.below hb h.rb.lt, h.pb.below hb h.pb.lt, h.os.keep fun k _ hk => hb.block k hk, h.bel.trans (hb.mono (Nat.le_of_lt h.xb.lt))⟩
theorem Qv.drew {w W : World} {gl : Nat} {x : List (BitVec 8)} {vs : Value} {sd : List (List (BitVec 8))} {cs : List Value} (h : Qv w gl x vs sd cs W) : Qv w gl x vs sd cs W.drew :=
  ⟨h.xb, h.rb, h.pb, h.os.keep fun _ _ _ => rfl, ⟨h.bel.os, h.bel.tape, h.bel.output, h.bel.size, h.bel.block⟩⟩
theorem Qv.side {w W W' : World} {gl : Nat} {x r : List (BitVec 8)} {vs vs' : Value} {sd : List (List (BitVec 8))} (h : Qv w gl x vs sd (prfV vs 0 zb32 zb32) W) (ho : OwnD W' (gl + 3) vs' (sd ++ [r])) (hg : Grow (gl + 3) W vs W' vs') : Qv w gl x vs' (sd ++ [r]) (prfV vs' 0 zb32 zb32) (W'.setCell ⟨gl + 2, 0, none⟩ vs') := by
  have hv : ∀ j, vs.ownBlock = some j → gl + 3 ≤ j := fun j hj => (h.os.lt j hj).1
  exact ⟨(h.xb.grow hg hv (by omega)).one (by omega), (h.rb.grow hg hv (by omega)).one (by omega), (h.pb.grow hg hv (by omega)).set 0 vs', ho.keep fun k h1 _ => heap_one (by omega), (h.bel.trans (hg.below.mono (by omega))).setCell (by show gl ≤ gl + 2; omega) _⟩
theorem Qv.at {w W W' : World} {gl : Nat} {x : List (BitVec 8)} {vs : Value} {sd : List (List (BitVec 8))} {cs cs2 : List Value} (h : Qv w gl x vs sd cs W) (hk : ∀ k, k ≠ gl + 2 → W'.heap[k]? = W.heap[k]?) (hb : Blk W' (gl + 2) cs2 41) (hbel : Below gl w W') : Qv w gl x vs sd cs2 W' := by
  refine ⟨?_, ?_, hb, h.os.keep fun k h1 _ => hk k (by omega), hbel⟩
  · have := h.xb; unfold Blk at *; rw [hk gl (by omega)]; exact this
  · have := h.rb; unfold Blk at *; rw [hk (gl + 1) (by omega)]; exact this
theorem wpAnyH_store {P : Program} {md : Region.Mode} {ops : Array Oper} {Q : Exit → Act → World → Prop} {S : World → Prop} {fuel : Nat} {listed : Array Bool} {a : Act} {w : World} (i : Nat) {oi : Oper} (ty : TypeId) (x y : Operand)
    (hr : Region.ready md ops listed = [i]) (hi : ops[i]? = some oi) (hw : Region.wanted oi (yielded ops a.tmps) = true) (ho : oi.op = .store ty x y)
    (b o : Nat) (cells : Array Value) (hx : a.eval x = .pointer (some ⟨b, o, none⟩)) (hy : a.eval y = .agg cells)
    (ht : w.there b o cells.size) (hz : (P.info? ty).map (·.size) = some cells.size) (h1 : cells.all (·.oneCell') = true) (hS : S (w.setCells b o cells.toList))
    (h : wpAnyH P md ops Q S fuel (listed.setIfInBounds i true) (a.put oi.dst undef) (w.setCells b o cells.toList)) : wpAnyH P md ops Q S (fuel + 1) listed a w :=
  wpAnyH_law i hr hi hw (wp_store_mid ty x y ho b o cells hx hy ht hz h1 ⟨hS, h⟩)
set_option maxRecDepth 100000 in
set_option maxHeartbeats 8000000 in
theorem trProve_any (w : World) (g : Nat) (l0 : List Lf) (x : List (BitVec 8)) (hT : TreeIs w 0 g l0) (hF : Fits l0 0) (hx : x.length = 32) :
    Calls Tryd.prog 19 #[.pointer (some ⟨g, 0, none⟩), .agg (cb x).toArray] w fun e w' => ∃ vs, e = .returned (.agg (prfV vs (pend (wayL l0 x 0).2).1 (pend (wayL l0 x 0).2).2.1 (pend (wayL l0 x 0).2).2.2).toArray) ∧ OwnD w' w.heap.size vs (wayL l0 x 0).1 ∧ Below w.heap.size w w' := by
  have HX32 : Hid (x.length = 32) := hx
  have HWY : Hid (Wy l0 x 0 l0 []) := Wy.start hF
  have HT : Hid (TreeIs w 0 g l0) := hT
  obtain ⟨gl, HGL⟩ : ∃ g, Hid (g = w.heap.size) := ⟨_, rfl⟩
  obtain ⟨w1, HW1⟩ : ∃ z, Hid (z = w.alloc (.cells (cb x).toArray 24)) := ⟨_, rfl⟩
  obtain ⟨w2, HW2⟩ : ∃ z, Hid (z = w1.alloc (.cells (prfV nilV 0 zb32 zb32).toArray 41)) := ⟨_, rfl⟩
  obtain ⟨w3, HW3⟩ : ∃ z, Hid (z = w2.alloc (.cells (prfV nilV 0 zb32 zb32).toArray 41)) := ⟨_, rfl⟩
  have s1 : w1.heap.size = gl + 1 := by rw [HW1.out, HGL.out]; simp
  have s2 : w2.heap.size = gl + 2 := by rw [HW2.out]; simp [s1]
  have t0 : Below gl w w1 := by rw [HW1.out, HGL.out]; exact below_alloc _ _
  have t1 : Below (gl + 1) w1 w2 := by rw [← s1, HW2.out]; exact below_alloc _ _
  have t2 : Below (gl + 2) w2 w3 := by rw [← s2, HW3.out]; exact below_alloc _ _
  have HI : Hid (Qv w gl x nilV [] (prfV nilV 0 zb32 zb32) w3) := by
    have h1 : Blk w1 gl (cb x) 24 := by rw [HW1.out, HGL.out]; exact Blk.new w _ _
    have h2 : Blk w2 (gl + 1) (prfV nilV 0 zb32 zb32) 41 := by rw [HW2.out, ← s1]; exact Blk.new w1 _ _
    have h3 : Blk w3 (gl + 2) (prfV nilV 0 zb32 zb32) 41 := by rw [HW3.out, ← s2]; exact Blk.new w2 _ _
    exact ⟨(h1.below t1 (by omega)).below t2 (by omega), h2.below t2 (by omega), h3, OwnD.nil _ _, (t0.trans (t1.mono (by omega))).trans (t2.mono (by omega))⟩
  have HS : Hid (w1.heap.size = gl + 1 ∧ w2.heap.size = gl + 2) := ⟨s1, s2⟩
  clear t0 t1 t2 hT hF hx s1 s2
  go_enter Tryd.func19, Tryd.ntmps19
  go_upto_region 2 with (first
    | (refine wpSeq_val _ _ (by rfl) (boxDigest _ _ (.tmp 1) rfl x rfl _) ?_)
    | (refine wpSeq_val _ _ (by rfl) (allocPrf _ _ rfl _) ?_))
  have e0 : (some ⟨w.heap.size, 0, none⟩ : Option Addr) = some ⟨gl, 0, none⟩ := by rw [HGL.out]
  simp only [e0]
  clear e0
  rw [← HW1.out, ← HW2.out, ← HW3.out, HS.out.1, HS.out.2]
  clear HW1 HW2 HW3 HS
  go_wp2_with fail
  go_loopg [0, 6] 300 (fun kx s0 s6 wr => ∃ (d g2 : Nat) (vs : Value) (l : List Lf) (sd : List (List (BitVec 8))), s0 = .pointer (some ⟨g2, 0, none⟩) ∧ s6 = .int .i64 (d : Int) ∧ 257 - d ≤ kx ∧ Hid (TreeIs w d g2 l) ∧ Hid (Qv w gl x vs sd (prfV vs 0 zb32 zb32) wr) ∧ Hid (Wy l0 x d l sd))
  case atStart => exact ⟨0, g, nilV, l0, [], rfl, rfl, by omega, HT, HI, HWY⟩
  case round =>
    clear HI HWY HT
    obtain ⟨d, g2, vs, l, sd, rfl, rfl, hkx, HT, HI, HW⟩ := hrel
    obtain ⟨n, HN⟩ : ∃ n, Hid (n = l.length) := ⟨_, rfl⟩
    have HBL : Hid (Below w.heap.size w wr) := by rw [← HGL.out]; exact HI.out.bel
    have c0 : wr.cell? ⟨g2, 0, none⟩ = some (.int .i64 (n : Int)) := by
      obtain ⟨ix, vl, pp, qq, hcc⟩ := (HT.out.next HBL.out).cells
      rw [HN.out]; exact hcc.cnt
    by_cases h2 : 2 ≤ n
    · have h2z : (n : Int) > 1 := by omega
      have h2z' : (1 : Int) < (n : Int) := by omega
      have h2d : decide ((n : Int) > 1) = true := decide_eq_true h2z
      have HN2 : Hid (2 ≤ l.length) := by show _ ≤ _; rw [← HN.out]; exact h2
      obtain ⟨g0, g1, t0, t1, hcc⟩ := HT.out.two HN2.out
      have hdlt : d < 256 := HW.out.fit.lt HN2.out
      have HCC : Hid (TreeC wr g2 l.length (rootL l d) zb32 zb32 (ptr g0) (ptr g1)) := hcc.next HBL.out
      have rd : IntKind.i64.wrap ((d : Int) + 1) = (d : Int) + 1 := by rw [IntKind.wrap_i64]; omega
      have HNX : Hid (Wy l0 x (d + 1) (halfL l d (bt x d)) (sd ++ [rootL (halfL l d (!bt x d)) (d + 1)])) := HW.out.next HN2.out
      obtain ⟨r, HRD⟩ : ∃ r, Hid (r = rootL (halfL l d (!bt x d)) (d + 1)) := ⟨_, rfl⟩
      rw [← HRD.out] at HNX
      have HRL : Hid (r.length = 32) := by show _ = _; rw [HRD.out]; exact rootL_len (HW.out.fit.half _)
      have HSL : Hid (sd.length < 2000000) := by show _ < _; have h1 := HW.out.sides; omega
      obtain ⟨ga, gb, HGA, HGB, HGG⟩ : ∃ ga gb, Hid (TreeIs w (d + 1) ga (halfL l d (bt x d))) ∧ Hid (TreeIs w (d + 1) gb (halfL l d (!bt x d))) ∧ Hid ((bif bt x d then ptr g1 else ptr g0) = .pointer (some ⟨ga, 0, none⟩) ∧ (bif bt x d then ptr g0 else ptr g1) = .pointer (some ⟨gb, 0, none⟩)) := by
        cases bt x d with
        | false => exact ⟨g0, g1, t0, t1, rfl, rfl⟩
        | true => exact ⟨g1, g0, t1, t0, rfl, rfl⟩
      have HRT : Hid (∀ wx, Below gl w wx → wx.rangeAt gb 1 (cb r)) := fun wx hx => by
        have hx' : Below w.heap.size w wx := by rw [← HGL.out]; exact hx
        obtain ⟨ix, vl, pp, qq, hcc⟩ := (HGB.out.next hx').cells
        rw [HRD.out]; exact hcc.root
      clear hcc t0 t1 HN2 HBL
      obtain ⟨ns, HNS⟩ : ∃ z : Nat, Hid (z = sd.length) := ⟨_, rfl⟩
      obtain ⟨ads, cps, hvs⟩ := HI.out.os.slice
      rw [← HNS.out] at hvs
      subst hvs
      go_upto_region 6 with (first
        | (with_reducible refine wpSeq_loadD (.tmp 3) gl x ?_ ?_ ?_ ?_ ?_ ?_
           · exact HX32.out
           · exact HI.out.xb
           · rfl
           · rfl
           · rfl)
        | (go_at_call 31; refine (trSides_any _ g2 _ g0 g1 d _ _ _ x HCC.out HX32.out hdlt).mono ?_; rintro e w7 ⟨rfl, hbq⟩
           rw [HGG.out.1, HGG.out.2]
           replace HI : Hid (Qv w gl x (.slice ads ns cps) sd (prfV (.slice ads ns cps) 0 zb32 zb32) w7) := HI.out.next hbq
           clear hbq HCC HGG c0))
      refine wp_region_held_drew (S := Below gl w) (by kernel_rfl) HI.out.drew.bel ?_
      intro hS
      have hI := HI.out.drew
      clear HI
      change wpAnyH _ _ _ _ _ _ _ _ (World.drew w7)
      generalize World.drew w7 = y2 at *
      refine wpAnyH_take (i := 0) (v := .pointer (some ⟨gl + 2, 0, none⟩)) rfl (by kernel_rfl) (by kernel_rfl) (by kernel_rfl) (fun _ _ _ h => h) (Or.inl ⟨by rfl, fun wx hx => by simp [go_sem]⟩) hS ?_
      simp only [Act.put, List.getElem_toArray, List.getElem_cons_zero, List.setIfInBounds_toArray, List.set_cons_zero, List.set_cons_succ]
      refine wpAnyH_take (i := 2) (v := .pointer (some ⟨gb, 0, none⟩)) rfl (by kernel_rfl) (by kernel_rfl) (by kernel_rfl) (fun _ _ _ h => h) (Or.inl ⟨by rfl, fun wx hx => by simp [go_sem]⟩) hS ?_
      simp only [Act.put, List.getElem_toArray, List.getElem_cons_succ, List.getElem_cons_zero, List.setIfInBounds_toArray, List.set_cons_zero, List.set_cons_succ]
      refine wpAnyH_take (i := 3) (v := .pointer (some ⟨gb, 0, none⟩)) rfl (by kernel_rfl) (by kernel_rfl) (by kernel_rfl) (fun _ _ _ h => h) (Or.inl ⟨by rfl, fun wx hx => by simp [go_sem]⟩) hS ?_
      simp only [Act.put, List.getElem_toArray, List.getElem_cons_succ, List.getElem_cons_zero, List.setIfInBounds_toArray, List.set_cons_zero, List.set_cons_succ]
      refine wpAnyH_take (i := 4) (v := .pointer (some ⟨gb, 1, none⟩)) rfl (by kernel_rfl) (by kernel_rfl) (by kernel_rfl) (fun _ _ _ h => h) (Or.inl ⟨by rfl, fun wx hx => by simp [go_sem]⟩) hS ?_
      simp only [Act.put, List.getElem_toArray, List.getElem_cons_succ, List.getElem_cons_zero, List.setIfInBounds_toArray, List.set_cons_zero, List.set_cons_succ]
      refine wpAnyH_take (i := 5) (v := .agg (cb r).toArray) rfl (by kernel_rfl) (by kernel_rfl) (by kernel_rfl) (fun _ _ _ h => h) (Or.inl ⟨by rfl, fun wx hx => by exact load_run 24 _ rfl _ _ rfl (cb r) _ (HRT.out wx hx) Tryd.underlying24 rfl (by rw [cb_len, HRL.out]; exact info_digest)⟩) hS ?_
      simp only [Act.put, List.getElem_toArray, List.getElem_cons_succ, List.getElem_cons_zero, List.setIfInBounds_toArray, List.set_cons_zero, List.set_cons_succ]
      have hnb := NewB.of r y2
      have hn1 := hI.next hnb.below
      have hce : y2.cell? ⟨gl + 2, 0, none⟩ = some (.slice ads ns cps) := hI.pb.cell 0
      have hce2 : (y2.alloc (.cells (cb r).toArray 24)).cell? ⟨gl + 2, 0, none⟩ = some (.slice ads ns cps) := hn1.pb.cell 0
      refine wpAnyH_comm 1 6 (.slice ads ns cps) (.slice (some ⟨y2.heap.size, 0, none⟩) 1 1) (y2.alloc (.cells (cb r).toArray 24)) (by kernel_rfl) rfl rfl (by rfl) (by rfl) (by rfl) (by rfl) (by simp [go_sem, hce]) (buildD _ _ _ rfl r HRL.out rfl _) (by simp [go_sem, hce2]) (buildD _ _ _ rfl r HRL.out rfl _) (by kernel_rfl) (by kernel_rfl) (by rfl) (by rfl) hI.bel hn1.bel ?_
      clear hce hce2
      simp only [Act.put, List.getElem_toArray, List.getElem_cons_succ, List.getElem_cons_zero, List.setIfInBounds_toArray, List.set_cons_zero, List.set_cons_succ]
      refine wpAnyH_law 7 (by kernel_rfl) rfl (by rfl) (wp_appendG (.tmp 24) (.tmp 29) (gl + 3) (.slice ads ns cps) sd r y2.heap.size hn1.os hnb.blk HRL.out HSL.out hn1.pb.lt rfl rfl rfl ?_)
      intro z9 q9 ho hg
      have hJ := hn1.side ho hg
      have hb9 := hn1.pb.grow hg (fun j hj => (hn1.os.lt j hj).1) (Nat.lt_succ_self _)
      have hl9 : Below gl w q9 := hn1.bel.trans (hg.below.mono (by omega))
      have hc9 : q9.cell? ⟨gl + 2, 0, none⟩ = some (.slice ads ns cps) := hb9.cell 0
      have hf9 := hb9.frozen 0
      obtain ⟨a9, c9, hx9⟩ := ho.slice
      obtain ⟨n9, HN9⟩ : ∃ z : Nat, Hid (z = (sd ++ [r]).length) := ⟨_, rfl⟩
      rw [← HN9.out] at hx9
      subst hx9
      refine ⟨hl9, ?_⟩
      simp only [Act.put, List.getElem_toArray, List.getElem_cons_succ, List.getElem_cons_zero, List.setIfInBounds_toArray, List.set_cons_zero, List.set_cons_succ]
      refine wpAnyH_take (i := 8) (v := .pointer (some ⟨gl + 2, 0, none⟩)) rfl (by kernel_rfl) (by kernel_rfl) (by kernel_rfl) (fun _ _ _ h => h) (Or.inl ⟨by rfl, fun wx hx => by simp [go_sem]⟩) hl9 ?_
      simp only [Act.put, List.getElem_toArray, List.getElem_cons_succ, List.getElem_cons_zero, List.setIfInBounds_toArray, List.set_cons_zero, List.set_cons_succ]
      refine wpAnyH_skip 9 (q9.setCell ⟨gl + 2, 0, none⟩ (.slice a9 n9 c9)) (by kernel_rfl) rfl (by rfl) (by simp [go_sem, hc9, hf9]) hJ.bel ?_
      simp only [Act.put, List.getElem_toArray, List.getElem_cons_succ, List.getElem_cons_zero]
      refine wpAnyH_done (by kernel_rfl) ?_ _
      have HI : Hid (Qv w gl x (.slice a9 n9 c9) (sd ++ [r]) (prfV (.slice a9 n9 c9) 0 zb32 zb32) (q9.setCell ⟨gl + 2, 0, none⟩ (.slice a9 n9 c9))) := hJ
      clear hI hn1 hnb ho hg hJ hb9 hl9 hc9 hf9 hS
      generalize q9.setCell ⟨gl + 2, 0, none⟩ (.slice a9 n9 c9) = w8 at *
      generalize Value.slice a9 n9 c9 = vs2 at *
      go_wp2_with fail
      go_roundg (257 - (d + 1))
      case measure => omega
      case rel => exact ⟨d + 1, ga, vs2, _, _, rfl, by go_num, Nat.le_refl _, HGA, HI, HNX⟩
    · have h2z : ¬ ((n : Int) > 1) := by omega
      have h2z' : ¬ ((1 : Int) < (n : Int)) := by omega
      have h2d : decide ((n : Int) > 1) = false := decide_eq_false h2z
      have HDN : Hid (wayL l0 x 0 = (sd, l.head?)) := HW.out.done (by rw [← HN.out]; omega)
      obtain ⟨ns, HNS⟩ : ∃ z : Nat, Hid (z = sd.length) := ⟨_, rfl⟩
      obtain ⟨ads, cps, hvs⟩ := HI.out.os.slice
      rw [← HNS.out] at hvs
      subst hvs
      go_upto_region 8 with fail
      clear h2z h2z' h2d
      by_cases hz : n = 0
      · subst hz
        have hnil : l = [] := List.length_eq_zero_iff.1 HN.out.symm
        obtain ⟨cs, HCS⟩ : ∃ c, Hid (c = prfV (.slice ads ns cps) 0 zb32 zb32) := ⟨_, rfl⟩
        have HF : Hid (Qv w gl x (.slice ads ns cps) sd cs wr) := by rw [HCS.out]; exact HI.out
        have HCE : Hid (prfV (.slice ads ns cps) (pend (wayL l0 x 0).2).1 (pend (wayL l0 x 0).2).2.1 (pend (wayL l0 x 0).2).2.2 = cs) := by show _ = _; rw [HDN.out, hnil, HCS.out]; rfl
        have HIC : Hid ((Tryd.prog.info? 41).map (·.size) = some cs.length) := by show _ = _; rw [HCS.out, prfV_len zb32_len zb32_len]; exact info_proof
        have H1C : Hid (cs.toArray.all (·.oneCell') = true) := by show _ = _; rw [HCS.out]; exact all_oneCell_toArray (prfV_one rfl)
        have HLC : Hid (cs.length = 66) := by show _ = _; rw [HCS.out, prfV_len zb32_len zb32_len]
        clear hnil HCS HI
        go_wp2_with (first
          | (refine wpSeq_val (.agg cs.toArray) _ (by rfl) (load_run 41 _ rfl (gl + 2) 0 rfl cs _ HF.out.pb.range Tryd.underlying41 rfl HIC.out) ?_)
          | (with_reducible refine wpList_store_mid ?_ 41 (.tmp 4) (.tmp 49) ?_ (gl + 1) 0 cs.toArray ?_ ?_ (HF.out.rb.there 0 _ (by rw [List.size_toArray, HLC.out, prfV_len zb32_len zb32_len]; omega)) (by rw [List.size_toArray]; exact HIC.out) H1C.out ?_
             · rfl
             · rfl
             · rfl
             · rfl))
        have hB6 := HF.out.rb.whole cs (by rw [HLC.out, prfV_len zb32_len zb32_len])
        refine bodyPost_ret (v := Value.agg cs.toArray) ?_ rfl ⟨.slice ads ns cps, by rw [HCE.out], ?_, ?_⟩
        · exact results_cell_row (by rfl) _ _ (gl + 1) 41 _ (0, 0) _ rfl hB6 Tryd.underlying41 rfl (by rw [List.size_toArray]; exact HIC.out)
        · rw [HDN.out]
          refine (HF.out.os.keep fun j h1 _ => ?_).mono (by have := HGL.out; omega)
          exact (At'.setCells cs 0 wr (fun _ _ => rfl) j (by omega))
        · have hbb : Below gl w (wr.setCells (gl + 1) 0 cs) := Below.setCells _ (by omega) _ _ _ HF.out.bel
          rw [← HGL.out]
          exact hbb
      · have h1 : n = 1 := by omega
        subst h1
        obtain ⟨p, hp⟩ : ∃ p, l = [p] := List.length_eq_one_iff.1 HN.out.symm
        subst hp
        obtain ⟨px, pv⟩ := p
        have HTC : Hid (∀ wx, Below gl w wx → TreeC wx g2 1 (dig (pairB 76 px pv)) px pv (.pointer none) (.pointer none)) := fun wx hx => by
          have hx' : Below w.heap.size w wx := by rw [← HGL.out]; exact hx
          exact (HT.out.next hx').one
        have HPX : Hid (px.length = 32) := (HTC.out w (Below.refl _ _)).l2
        have HPV : Hid (pv.length = 32) := (HTC.out w (Below.refl _ _)).l3
        go_upto_region 9 with fail
        clear c0
        refine wp_region_held_drew (S := Below gl w) (by kernel_rfl) HI.out.drew.bel ?_
        intro hS
        have hI := HI.out.drew
        clear HI
        change wpAnyH _ _ _ _ _ _ _ _ (World.drew wr)
        generalize World.drew wr = y0 at *
        refine wpAnyH_take (i := 0) (v := .pointer (some ⟨g2, 0, none⟩)) rfl (by kernel_rfl) (by kernel_rfl) (by kernel_rfl) (fun _ _ _ h => h) (Or.inl ⟨by rfl, fun wx hx => by simp [go_sem]⟩) hS ?_
        simp only [Act.put, List.getElem_toArray, List.getElem_cons_zero, List.setIfInBounds_toArray, List.set_cons_zero, List.set_cons_succ]
        refine wpAnyH_take (i := 1) (v := .pointer (some ⟨g2, 0, none⟩)) rfl (by kernel_rfl) (by kernel_rfl) (by kernel_rfl) (fun _ _ _ h => h) (Or.inl ⟨by rfl, fun wx hx => by simp [go_sem]⟩) hS ?_
        simp only [Act.put, List.getElem_toArray, List.getElem_cons_succ, List.getElem_cons_zero, List.setIfInBounds_toArray, List.set_cons_zero, List.set_cons_succ]
        refine wpAnyH_take (i := 2) (v := .pointer (some ⟨g2, 33, none⟩)) rfl (by kernel_rfl) (by kernel_rfl) (by kernel_rfl) (fun _ _ _ h => h) (Or.inl ⟨by rfl, fun wx hx => by simp [go_sem]⟩) hS ?_
        simp only [Act.put, List.getElem_toArray, List.getElem_cons_succ, List.getElem_cons_zero, List.setIfInBounds_toArray, List.set_cons_zero, List.set_cons_succ]
        refine wpAnyH_take (i := 3) (v := .agg (cb px).toArray) rfl (by kernel_rfl) (by kernel_rfl) (by kernel_rfl) (fun _ _ _ h => h) (Or.inl ⟨by rfl, fun wx hx => by exact load_run 24 _ rfl _ _ rfl (cb px) _ ((HTC.out wx hx).index) Tryd.underlying24 rfl (by rw [cb_len, HPX.out]; exact info_digest)⟩) hS ?_
        simp only [Act.put, List.getElem_toArray, List.getElem_cons_succ, List.getElem_cons_zero, List.setIfInBounds_toArray, List.set_cons_zero, List.set_cons_succ]
        refine wpAnyH_take (i := 4) (v := .pointer (some ⟨g2, 0, none⟩)) rfl (by kernel_rfl) (by kernel_rfl) (by kernel_rfl) (fun _ _ _ h => h) (Or.inl ⟨by rfl, fun wx hx => by simp [go_sem]⟩) hS ?_
        simp only [Act.put, List.getElem_toArray, List.getElem_cons_succ, List.getElem_cons_zero, List.setIfInBounds_toArray, List.set_cons_zero, List.set_cons_succ]
        refine wpAnyH_take (i := 5) (v := .pointer (some ⟨g2, 0, none⟩)) rfl (by kernel_rfl) (by kernel_rfl) (by kernel_rfl) (fun _ _ _ h => h) (Or.inl ⟨by rfl, fun wx hx => by simp [go_sem]⟩) hS ?_
        simp only [Act.put, List.getElem_toArray, List.getElem_cons_succ, List.getElem_cons_zero, List.setIfInBounds_toArray, List.set_cons_zero, List.set_cons_succ]
        refine wpAnyH_take (i := 6) (v := .pointer (some ⟨g2, 65, none⟩)) rfl (by kernel_rfl) (by kernel_rfl) (by kernel_rfl) (fun _ _ _ h => h) (Or.inl ⟨by rfl, fun wx hx => by simp [go_sem]⟩) hS ?_
        simp only [Act.put, List.getElem_toArray, List.getElem_cons_succ, List.getElem_cons_zero, List.setIfInBounds_toArray, List.set_cons_zero, List.set_cons_succ]
        refine wpAnyH_take (i := 7) (v := .agg (cb pv).toArray) rfl (by kernel_rfl) (by kernel_rfl) (by kernel_rfl) (fun _ _ _ h => h) (Or.inl ⟨by rfl, fun wx hx => by exact load_run 24 _ rfl _ _ rfl (cb pv) _ ((HTC.out wx hx).value) Tryd.underlying24 rfl (by rw [cb_len, HPV.out]; exact info_digest)⟩) hS ?_
        simp only [Act.put, List.getElem_toArray, List.getElem_cons_succ, List.getElem_cons_zero, List.setIfInBounds_toArray, List.set_cons_zero, List.set_cons_succ]
        refine wpAnyH_take (i := 8) (v := .pointer (some ⟨gl + 2, 1, none⟩)) rfl (by kernel_rfl) (by kernel_rfl) (by kernel_rfl) (fun _ _ _ h => h) (Or.inl ⟨by rfl, fun wx hx => by simp [go_sem]⟩) hS ?_
        simp only [Act.put, List.getElem_toArray, List.getElem_cons_succ, List.getElem_cons_zero, List.setIfInBounds_toArray, List.set_cons_zero, List.set_cons_succ]
        have ce : y0.cell? ⟨gl + 2, 1, none⟩ = some (.int .i64 0) := hI.pb.cell 1
        have fe : y0.frozen? ⟨gl + 2, 1, none⟩ = false := hI.pb.frozen 1
        have hI1 : Qv w gl x (.slice ads ns cps) sd (prfV (.slice ads ns cps) 1 zb32 zb32) (y0.setCell ⟨gl + 2, 1, none⟩ (.int .i64 1)) := hI.at (fun k hk => heap_one hk) (hI.pb.set 1 _) (hI.bel.setCell (by show gl ≤ gl + 2; omega) _)
        refine wpAnyH_skip 9 (y0.setCell ⟨gl + 2, 1, none⟩ (.int .i64 1)) (by kernel_rfl) rfl (by rfl) (by simp [go_sem, ce, fe]) hI1.bel ?_
        simp only [Act.put, List.getElem_toArray, List.getElem_cons_succ, List.getElem_cons_zero]
        clear ce fe hI
        generalize y0.setCell ⟨gl + 2, 1, none⟩ (.int .i64 1) = u1 at *
        refine wpAnyH_take (i := 10) (v := .pointer (some ⟨gl + 2, 2, none⟩)) rfl (by kernel_rfl) (by kernel_rfl) (by kernel_rfl) (fun _ _ _ h => h) (Or.inl ⟨by rfl, fun wx hx => by simp [go_sem]⟩) hI1.bel ?_
        simp only [Act.put, List.getElem_toArray, List.getElem_cons_succ, List.getElem_cons_zero, List.setIfInBounds_toArray, List.set_cons_zero, List.set_cons_succ]
        have hI2 : Qv w gl x (.slice ads ns cps) sd (prfV (.slice ads ns cps) 1 px zb32) (u1.setCells (gl + 2) 2 (cb px)) := hI1.at (fun k hk => At'.setCells _ _ _ (fun _ _ => rfl) k hk) (prfV_ix hI1.pb zb32_len HPX.out) (Below.setCells _ (by omega) _ _ _ hI1.bel)
        refine wpAnyH_store 11 24 (.tmp 47) (.tmp 41) (by kernel_rfl) rfl (by rfl) rfl (gl + 2) 2 (cb px).toArray rfl rfl (hI1.pb.there 2 _ (by rw [List.size_toArray, cb_len, HPX.out, prfV_len zb32_len zb32_len]; omega)) (by rw [List.size_toArray, cb_len, HPX.out]; exact info_digest) (all_oneCell_toArray (cb_one px)) (by rw [List.toList_toArray]; exact hI2.bel) ?_
        simp only [Act.put, List.getElem_toArray, List.getElem_cons_succ, List.getElem_cons_zero]
        try rw [List.toList_toArray]
        clear hI1
        generalize u1.setCells (gl + 2) 2 (cb px) = u2 at *
        refine wpAnyH_take (i := 12) (v := .pointer (some ⟨gl + 2, 34, none⟩)) rfl (by kernel_rfl) (by kernel_rfl) (by kernel_rfl) (fun _ _ _ h => h) (Or.inl ⟨by rfl, fun wx hx => by simp [go_sem]⟩) hI2.bel ?_
        simp only [Act.put, List.getElem_toArray, List.getElem_cons_succ, List.getElem_cons_zero, List.setIfInBounds_toArray, List.set_cons_zero, List.set_cons_succ]
        have hI3 : Qv w gl x (.slice ads ns cps) sd (prfV (.slice ads ns cps) 1 px pv) (u2.setCells (gl + 2) 34 (cb pv)) := hI2.at (fun k hk => At'.setCells _ _ _ (fun _ _ => rfl) k hk) (prfV_va hI2.pb HPX.out zb32_len HPV.out) (Below.setCells _ (by omega) _ _ _ hI2.bel)
        refine wpAnyH_store 13 24 (.tmp 48) (.tmp 45) (by kernel_rfl) rfl (by rfl) rfl (gl + 2) 34 (cb pv).toArray rfl rfl (hI2.pb.there 34 _ (by rw [List.size_toArray, cb_len, HPV.out, prfV_len HPX.out zb32_len]; omega)) (by rw [List.size_toArray, cb_len, HPV.out]; exact info_digest) (all_oneCell_toArray (cb_one pv)) (by rw [List.toList_toArray]; exact hI3.bel) ?_
        simp only [Act.put, List.getElem_toArray, List.getElem_cons_succ, List.getElem_cons_zero]
        try rw [List.toList_toArray]
        clear hI2 hS
        generalize u2.setCells (gl + 2) 34 (cb pv) = u3 at *
        refine wpAnyH_done (by kernel_rfl) ?_ _
        obtain ⟨cs, HCS⟩ : ∃ c, Hid (c = (prfV (.slice ads ns cps) 1 px pv)) := ⟨_, rfl⟩
        have HF : Hid (Qv w gl x (.slice ads ns cps) sd cs u3) := by rw [HCS.out]; exact hI3
        have HCE : Hid (prfV (.slice ads ns cps) (pend (wayL l0 x 0).2).1 (pend (wayL l0 x 0).2).2.1 (pend (wayL l0 x 0).2).2.2 = cs) := by show _ = _; rw [HDN.out, HCS.out]; rfl
        have HIC : Hid ((Tryd.prog.info? 41).map (·.size) = some cs.length) := by show _ = _; rw [HCS.out, prfV_len HPX.out HPV.out]; exact info_proof
        have H1C : Hid (cs.toArray.all (·.oneCell') = true) := by show _ = _; rw [HCS.out]; exact all_oneCell_toArray (prfV_one rfl)
        have HLC : Hid (cs.length = 66) := by show _ = _; rw [HCS.out, prfV_len HPX.out HPV.out]
        clear HCS hI3
        go_wp2_with (first
          | (refine wpSeq_val (.agg cs.toArray) _ (by rfl) (load_run 41 _ rfl (gl + 2) 0 rfl cs _ HF.out.pb.range Tryd.underlying41 rfl HIC.out) ?_)
          | (with_reducible refine wpList_store_mid ?_ 41 (.tmp 4) (.tmp 49) ?_ (gl + 1) 0 cs.toArray ?_ ?_ (HF.out.rb.there 0 _ (by rw [List.size_toArray, HLC.out, prfV_len zb32_len zb32_len]; omega)) (by rw [List.size_toArray]; exact HIC.out) H1C.out ?_
             · rfl
             · rfl
             · rfl
             · rfl))
        have hB6 := HF.out.rb.whole cs (by rw [HLC.out, prfV_len zb32_len zb32_len])
        refine bodyPost_ret (v := Value.agg cs.toArray) ?_ rfl ⟨.slice ads ns cps, by rw [HCE.out], ?_, ?_⟩
        · exact results_cell_row (by rfl) _ _ (gl + 1) 41 _ (0, 0) _ rfl hB6 Tryd.underlying41 rfl (by rw [List.size_toArray]; exact HIC.out)
        · rw [HDN.out]
          refine (HF.out.os.keep fun j h1 _ => ?_).mono (by have := HGL.out; omega)
          exact (At'.setCells cs 0 u3 (fun _ _ => rfl) j (by omega))
        · have hbb : Below gl w (u3.setCells (gl + 1) 0 cs) := Below.setCells _ (by omega) _ _ _ HF.out.bel
          rw [← HGL.out]
          exact hbb
end Go.Proofs.YtphacinnnepdoaaDoor
/- The landed tree's functions do what the chapter says. -/
namespace Go.Proofs.YtphacinnnepdoaaDoor
open Go.RowKit
theorem zip_okR {W : World} {vt vu : Value} {ds es : List (List (BitVec 8))} (h1 : ReadsD W vt ds) (h2 : ReadsD W vu es) : okLf (ds.zip es) := fun _ hp => ⟨h1.2 _ (List.of_mem_zip hp).1, h2.2 _ (List.of_mem_zip hp).2⟩
set_option maxHeartbeats 1000000 in
theorem trOf_any (w : World) (vt vu : Value) (ds es : List (List (BitVec 8))) (hK : KOk w) (hA : ReadsD w vt ds) (hB : ReadsD w vu es) (hl : ds.length < 50000) :
    Calls Tryd.prog 11 #[vt, vu] w fun e w' => ∃ g, e = .returned (.pointer (some ⟨g, 0, none⟩)) ∧ TT w' g (ofL (ds.zip es)) ∧ Below w.heap.size w w' := by
  have HK : Hid (KOk w) := hK
  have HG : Hid (okLf (ofL (ds.zip es)) ∧ Up (ofL (ds.zip es))) := ofL_good _ (zip_okR hA hB)
  have HR : Hid (Calls Tryd.prog 27 #[vt, vu] w fun e w' => ∃ ad B n cap qs, e = .returned (.slice ad n cap) ∧ qs.length = n ∧ n ≤ cap ∧ (n = 0 ∨ ad = some ⟨B, 0, none⟩) ∧ n < 100000 ∧ LvRow w' B 0 qs ∧ qs.map (·.2) = ofL (ds.zip es) ∧ Below w.heap.size w w') := trRising_any w vt vu ds es hK hA hB hl
  clear hK hA hB hl
  go_enter Tryd.func11, Tryd.ntmps11
  go_wp2_with (first
    | (go_at_call 27; refine HR.out.mono ?_; rintro e w1 ⟨ad, B, n, cap, qs, rfl, h1, h2, h3, h4, h5, h6, h7⟩
       have HBW : Hid (Below w.heap.size w w1) := h7
       have HC : Hid (Calls Tryd.prog 26 #[.slice ad n cap, .int .i64 ((0 : Nat) : Int)] w1 fun e w' => ∃ g, e = .returned (.pointer (some ⟨g, 0, none⟩)) ∧ TreeIs w' 0 g (ofL (ds.zip es)) ∧ Below w1.heap.size w1 w') := by
         have := trBelow_any 256 0 ad B 0 n cap qs w1 (by omega) (HK.out.below h7 HK.out.lt) h5 h1 h2 h3 h4 (by rw [h6]; exact fits_zero HG.out.1 HG.out.2)
         rw [h6] at this
         exact this
       clear h1 h2 h3 h4 h5 h6 h7)
    | (go_at_call 26; refine HC.out.mono ?_; rintro e w2 ⟨g, rfl, ht, hb⟩))
  go_ret
  exact ⟨g, rfl, ⟨ht, HG.out⟩, HBW.out.trans (hb.mono HBW.out.size)⟩
set_option maxHeartbeats 1000000 in
theorem trPut_any (w : World) (g : Nat) (l : List Lf) (x v : List (BitVec 8)) (hK : KOk w) (hT : TT w g l) (hl : l.length < 90000) (hx : x.length = 32) (hv : v.length = 32) :
    Calls Tryd.prog 22 #[.pointer (some ⟨g, 0, none⟩), .agg (cb x).toArray, .agg (cb v).toArray] w fun e w' => ∃ g', e = .returned (.pointer (some ⟨g', 0, none⟩)) ∧ TT w' g' (putL l x v) ∧ Below w.heap.size w w' := by
  have HK : Hid (KOk w) := hK
  have HT : Hid (TT w g l) := hT
  have HL : Hid (l.length < 90000) := hl
  have HX : Hid (x.length = 32) := hx
  have HV : Hid (v.length = 32) := hv
  clear hK hT hl hx hv
  go_enter Tryd.func22, Tryd.ntmps22
  go_wp2_with (first
    | (with_reducible refine wpSeq_boxD (.tmp 1) x ?_ ?_ ?_ ?_
       · rfl
       · rfl
       · rfl
       intro gx wx nn
       have HBX : Hid (Blk wx gx (cb x) 24) := nn.blk
       have HBW : Hid (Below w.heap.size w wx) := nn.below
       clear nn)
    | (with_reducible refine wpSeq_boxD (.tmp 2) v ?_ ?_ ?_ ?_
       · rfl
       · rfl
       · rfl
       intro gv wv nn
       replace HBX : Hid (Blk wv gx (cb x) 24) := HBX.out.below nn.below HBX.out.lt
       have HBV : Hid (Blk wv gv (cb v) 24) := nn.blk
       replace HBW : Hid (Below w.heap.size w wv) := HBW.out.trans (nn.below.mono HBW.out.size)
       clear nn)
    | (with_reducible refine wpSeq_loadD (.tmp 4) gx x ?_ ?_ ?_ ?_ ?_ ?_
       · exact HX.out
       · exact HBX.out
       · rfl
       · rfl
       · rfl)
    | (with_reducible refine wpSeq_loadD (.tmp 5) gv v ?_ ?_ ?_ ?_ ?_ ?_
       · exact HV.out
       · exact HBV.out
       · rfl
       · rfl
       · rfl)
    | (go_at_call 36; refine (trSingle_any x v HX.out HV.out _ (HK.out.below HBW.out HK.out.lt)).mono ?_; rintro e w1 ⟨gl, rfl, hge, hc, hb⟩
       replace HBW : Hid (Below w.heap.size w w1) := HBW.out.trans (hb.mono HBW.out.size)
       have HW : Hid (Wt w1 0 g gl l x v) := ⟨HK.out.below HBW.out HK.out.lt, HT.out.1.next HBW.out, hc⟩
       have HC : Hid (Calls Tryd.prog 35 #[.pointer (some ⟨g, 0, none⟩), .pointer (some ⟨gl, 0, none⟩), .int .i64 ((0 : Nat) : Int)] w1 fun e w' => ∃ g', e = .returned (.pointer (some ⟨g', 0, none⟩)) ∧ TreeIs w' 0 g' (putL l x v) ∧ Below w1.heap.size w1 w') := trWith_any 256 0 g gl l x v w1 (by omega) (by omega) HW.out (fits_zero HT.out.2.1 HT.out.2.2) (Near.zero _ _) HL.out
       clear hge hc hb HBX HBV)
    | (go_at_call 35; refine HC.out.mono ?_; rintro e w2 ⟨g2, rfl, ht, hb⟩))
  go_ret
  exact ⟨g2, rfl, ⟨ht, putL_ok HT.out.2.1 HX.out HV.out, putL_up HT.out.2.1 HX.out HT.out.2.2⟩, HBW.out.trans (hb.mono HBW.out.size)⟩
theorem trOps : TrOps TT where
  next := TT.next
  good h := h.2
  empty W hK := (trEmpty_any W hK).mono fun _ _ ⟨g, he, hc, hb⟩ => ⟨g, he, ⟨.none 0 g hc, fun p hp => by simp at hp, List.Pairwise.nil⟩, hb⟩
  put W g l x v hK hT hl hx hv := trPut_any W g l x v hK hT (by omega) hx hv
  ofs W vt vu ds es hK hA hB hl := trOf_any W vt vu ds es hK hA hB (by omega)
  len W g l hT := trLen_any W 0 g l hT.1
  root W g l hK hT := trRoot_any W 0 g l hK hT.1 (fits_zero hT.2.1 hT.2.2)
  get W g l x hT hx := trGet_any W g l x hT.1 (fits_zero hT.2.1 hT.2.2) hx
  prove W g l x _ hT hx := trProve_any W g l x hT.1 (fits_zero hT.2.1 hT.2.2) hx
end Go.Proofs.YtphacinnnepdoaaDoor
/- What the listed variable gives: the rounds' words lie where the walks look for them. -/
namespace Go.Proofs.YtphacinnnepdoaaDoor
open Go.ChangeShapes Go.WideShapes Go.ChangeAt Go.WideMaps Go.WideElems Go.RowKit
set_option maxRecDepth 100000
theorem own : ownKnob Tryd.prog.godebug = none := by kernel_rfl
theorem gKw : Tryd.prog.globalNamed "blazon/sha.roundWords" = some 1 := by kernel_rfl
theorem tKw : (Tryd.prog.globals[1]?).map (·.type) = some 102 := by kernel_rfl
def laidK : List (String × DataW Unit) := [("blazon/sha.roundWords", Rows.laid_blazon_sha_roundWords)]
def kzs : List Int := kw.map fun x => (x.toNat : Int)
theorem laid_tab : (Rows.laid_blazon_sha_roundWords : DataW Unit) = Lib.tabData .u32 kzs := by kernel_rfl
theorem door_met (os : Os) (args : Array Value) : laidMetH Tryd.prog laidK ((World.doorLaid Tryd.prog 400 os).forCall (fun _ _ => 0) ⟨#[], args, []⟩).memory :=
  laidMetH_of_parts3 (fuel := 8) (laidMet_of_run' 8 (by kernel_rfl) (by kernel_rfl)) (by kernel_rfl) (by kernel_rfl)
theorem getD_toNat (l : List (BitVec 32)) (j : Nat) : (l.map fun x => (x.toNat : Int)).getD j 0 = ((l.getD j 0).toNat : Int) := by
  rw [List.getD_eq_getElem?_getD, List.getD_eq_getElem?_getD, List.getElem?_map]
  cases l[j]? <;> rfl
theorem kok_of_laid {W : World} (h : laidMetH Tryd.prog laidK W) : KOk W := by
  rw [MakeChecks.laidMetH_plain _ _ _ (by kernel_rfl)] at h
  unfold laidK at h
  rw [laid_tab] at h
  have hT := Lib.tabIs_of_head gKw tKw Tryd.underlying102 Tryd.underlying90 (by kernel_rfl) (by kernel_rfl) h
  intro j hj
  rw [hT.cell gKw j (by simpa [kzs, kw] using hj), kzs, getD_toNat]
end Go.Proofs.YtphacinnnepdoaaDoor
/- What a slice of bytes that came in gives: the bytes that it reads as; and that it reads so still behind a call that changed no old block. -/
namespace Go.Proofs.YtphacinnnepdoaaDoor
open Go.ChangeShapes Go.WideShapes Go.ChangeAt Go.WideMaps Go.WideElems Go.RowKit
set_option maxRecDepth 100000
theorem cells_byte : Tryd.prog.cellsOf 5 = 1 := by kernel_rfl
theorem laid_out : laidOutB Tryd.prog = true := by kernel_rfl
theorem readable_bytes : Tryd.prog.readableRec 68 = true := by kernel_rfl
theorem row_bytes : 68 < Tryd.prog.types.size := of_decide_eq_true (by kernel_rfl)
theorem byte_range {zs : List Int} (h : ∀ n ∈ zs, (Lit.int .u8 n).wf = true) (j : Nat) : 0 ≤ zs.getD j 0 ∧ zs.getD j 0 < 256 := by
  rw [List.getD_eq_getElem?_getD]
  cases hj : zs[j]? with
  | none => simp
  | some n =>
    have := h n (List.mem_of_getElem? hj)
    have := bounds_u8 this
    simp
    omega
theorem reads_of_trod {H : Type} {enc : TypeId × Value → H} {W : World} {base : Nat} {v : Value} {d : DataW H} {p : List MemPlace} (hval : Value.okWide Tryd.prog W .any base 68 v)
    (h : DataW.Trod enc Tryd.prog W 0 (fun _ => true) true 68 v d p) :
    ∃ bs, Reads W v bs ∧ bs.length ≤ maxLen ∧ ∀ x ∈ p, x.block < W.heap.size := by
  obtain ⟨a1, len, cap, rfl⟩ := okWide_slice Tryd.underlying68 hval
  obtain ⟨fuel, hf⟩ := h
  rcases open_ints Tryd.underlying68 Tryd.underlying5 cells_byte hf with ⟨hcs, hx⟩ | ⟨a, len', cap', zs, hcs, _, hl, hm, hz, hx, hcell, hwz⟩
  · simp [Value.cells] at hcs
    obtain ⟨rfl, rfl, rfl⟩ := hcs
    simp only [Prod.mk.injEq] at hx
    obtain ⟨rfl, rfl⟩ := hx
    exact ⟨[], ⟨none, 0, rfl, Nat.le_refl _, fun _ => rfl, fun h => by cases h⟩, Nat.zero_le _, fun _ h => by cases h⟩
  · simp [Value.cells] at hcs
    obtain ⟨rfl, rfl, rfl⟩ := hcs
    simp only [Prod.mk.injEq] at hx
    obtain ⟨rfl, rfl⟩ := hx
    simp only [if_true] at hz
    have hlen : ((zs.take len).map fun n => BitVec.ofInt 8 n).length = len := by simp; omega
    obtain ⟨ab, ao, spot⟩ := a
    refine ⟨(zs.take len).map fun n => BitVec.ofInt 8 n, ⟨some ⟨ab, ao, spot⟩, cap, by rw [hlen], by rw [hlen]; exact hl, (fun h => by cases h), fun hp => ?_⟩, by rw [hlen]; omega, fun x hx => ?_⟩
    · rw [hlen] at hp ⊢
      have hspot : spot = none := by simpa [Addr.add] using World.cell?_spot (hcell 0 (by omega))
      subst hspot
      refine ⟨ab, ao, rfl, fun j hj => ?_⟩
      have hcj := hcell j (by omega)
      rw [Addr.add_lit] at hcj
      rw [hcj]
      have hb := byte_range hwz j
      have e : ((zs.take len).map fun n => BitVec.ofInt 8 n).getD j 0 = BitVec.ofInt 8 (zs.getD j 0) := by
        rw [List.getD_eq_getElem?_getD, List.getElem?_map, List.getElem?_take_of_lt hj, List.getD_eq_getElem?_getD, List.getElem?_eq_getElem (show j < zs.length by omega)]
        rfl
      rw [e, BitVec.toNat_ofInt]
      congr 2
      omega
    · simp only [MemPlace.row, List.mem_map, List.mem_range] at hx
      obtain ⟨i, hi, rfl⟩ := hx
      have hcj := hcell i (by omega)
      have := block_lt_of_cell hcj
      simp only [Addr.add] at this
      split at this <;> exact this
end Go.Proofs.YtphacinnnepdoaaDoor
/- What a digest that came in gives: its 32 bytes. -/
namespace Go.Proofs.YtphacinnnepdoaaDoor
open Go.ChangeShapes Go.WideShapes Go.ChangeAt Go.WideMaps Go.WideElems Go.RowKit
set_option maxRecDepth 100000
theorem cells_digest : Tryd.prog.cellsOf 24 = 32 := by kernel_rfl
theorem readable_digest : Tryd.prog.readableRec 24 = true := by kernel_rfl
theorem row_digest : 24 < Tryd.prog.types.size := of_decide_eq_true (by kernel_rfl)
def numOf8 : Value → BitVec 8
  | .int _ n => BitVec.ofInt 8 n
  | _ => 0
theorem digest_of_trod {H : Type} {enc : TypeId × Value → H} {W : World} {base : Nat} {v : Value} {d : DataW H} {p : List MemPlace} (hval : Value.okWide Tryd.prog W .any base 24 v)
    (h : DataW.Trod enc Tryd.prog W 0 (fun _ => true) true 24 v d p) :
    ∃ dg, v = .agg (cb dg).toArray ∧ dg.length = 32 ∧ ∀ x ∈ p, x.block < W.heap.size := by
  simp only [Value.okWide, Tryd.underlying24] at hval
  obtain ⟨cs, rfl, hcs, _⟩ := hval
  obtain ⟨fuel, hf⟩ := h
  obtain ⟨xs, m, _, hx, hl, hn, hi⟩ := DataW.trod_array Tryd.underlying24 hf
  simp only [Value.cells] at hl hi
  rw [cells_digest] at hl
  rw [cells_byte] at hi
  have each : ∀ i, i < 32 → ∃ n, cs.toList[i]? = some (.int .u8 n) ∧ xs[i]? = some (.lit (.int .u8 n), []) ∧ (Lit.int .u8 n).wf = true := by
    intro i h32
    have h1 := hi i h32
    rw [List.getElem?_eq_getElem (by omega)] at h1
    obtain ⟨n, hc, hxx, hw⟩ := DataW.trod_int Tryd.underlying5 h1
    refine ⟨n, ?_, by rw [List.getElem?_eq_getElem (by omega), hxx], hw⟩
    rw [Nat.mul_one] at hc
    have h2 := congrArg (fun l => l[0]?) hc
    simpa using h2
  have hlen : (cs.toList.map numOf8).length = 32 := by simpa using hl
  refine ⟨cs.toList.map numOf8, ?_, hlen, ?_⟩
  · congr 1
    apply Array.ext'
    rw [List.toList_toArray]
    apply List.ext_getElem?
    intro i
    by_cases h32 : i < 32
    · obtain ⟨n, h1, _, hw⟩ := each i h32
      have hb := bounds_u8 hw
      rw [h1, cb_get _ _ (by omega), List.getD_eq_getElem?_getD, List.getElem?_map, h1]
      simp only [Option.map_some, Option.getD_some, numOf8, BitVec.toNat_ofInt]
      congr 2
      omega
    · rw [List.getElem?_eq_none (by omega), List.getElem?_eq_none (by rw [cb_len]; omega)]
  · simp only [Prod.mk.injEq] at hx
    rw [hx.2]
    intro x hmem
    obtain ⟨y, hy, hxy⟩ := List.mem_flatMap.1 hmem
    obtain ⟨i, hlt, rfl⟩ := List.getElem_of_mem hy
    obtain ⟨n, _, h2, _⟩ := each i (by omega)
    rw [List.getElem?_eq_getElem hlt] at h2
    rw [Option.some.inj h2] at hxy
    cases hxy
end Go.Proofs.YtphacinnnepdoaaDoor
/- What a slice of digests that came in gives; five arguments that came in, opened and shut (for the statements of layer 7). -/
namespace Go.Proofs.YtphacinnnepdoaaDoor
open Go.ChangeShapes Go.WideShapes Go.ChangeAt Go.WideMaps Go.WideElems Go.RowKit
set_option maxRecDepth 100000
set_option maxRecDepth 100000 in
theorem bulk_pos {H : Type} (d : DataW H) : 1 ≤ Rows.uptoBulk d := by
  cases d with
  | lit l => cases l <;> simp [Rows.uptoBulk]
  | _ => simp [Rows.uptoBulk]
set_option maxRecDepth 100000 in
theorem bulk_slice {H : Type} (e s : List (DataW H)) : Rows.uptoBulkAll e ≤ Rows.uptoBulk (DataW.slice e s) := by
  simp only [Rows.uptoBulk]; omega
set_option maxRecDepth 100000 in
theorem bulk_len {H : Type} : ∀ l : List (DataW H), l.length ≤ Rows.uptoBulkAll l
  | [] => Nat.zero_le _
  | d :: r => by
    have h1 := bulk_len r
    have h2 := bulk_pos d
    simp only [Rows.uptoBulkAll, List.length_cons]
    omega
theorem digest_of_cells {H : Type} {enc : TypeId × Value → H} {W : World} {cs : List Value} {d : DataW H} {p : List MemPlace} {fuel : Nat} (hf : DataW.trod enc Tryd.prog W 0 (fun _ => true) true fuel 24 cs = some (d, p)) :
    ∃ dg, cs = cb dg ∧ dg.length = 32 ∧ ∀ x ∈ p, x.block < W.heap.size := by
  obtain ⟨xs, m, _, hx, hl, hn, hi⟩ := DataW.trod_array Tryd.underlying24 hf
  rw [cells_digest] at hl
  rw [cells_byte] at hi
  have each : ∀ i, i < 32 → ∃ n, cs[i]? = some (.int .u8 n) ∧ xs[i]? = some (.lit (.int .u8 n), []) ∧ (Lit.int .u8 n).wf = true := by
    intro i h32
    have h1 := hi i h32
    rw [List.getElem?_eq_getElem (by omega)] at h1
    obtain ⟨n, hc, hxx, hw⟩ := DataW.trod_int Tryd.underlying5 h1
    refine ⟨n, ?_, by rw [List.getElem?_eq_getElem (by omega), hxx], hw⟩
    rw [Nat.mul_one] at hc
    have h2 := congrArg (fun l => l[0]?) hc
    simpa using h2
  have hlen : (cs.map numOf8).length = 32 := by simpa using hl
  refine ⟨cs.map numOf8, ?_, hlen, ?_⟩
  · apply List.ext_getElem?
    intro i
    by_cases h32 : i < 32
    · obtain ⟨n, h1, _, hw⟩ := each i h32
      have hb := bounds_u8 hw
      rw [h1, cb_get _ _ (by omega), List.getD_eq_getElem?_getD, List.getElem?_map, h1]
      simp only [Option.map_some, Option.getD_some, numOf8, BitVec.toNat_ofInt]
      congr 2
      omega
    · rw [List.getElem?_eq_none (by omega), List.getElem?_eq_none (by rw [cb_len]; omega)]
  · simp only [Prod.mk.injEq] at hx
    rw [hx.2]
    intro x hmem
    obtain ⟨y, hy, hxy⟩ := List.mem_flatMap.1 hmem
    obtain ⟨i, hlt, rfl⟩ := List.getElem_of_mem hy
    obtain ⟨n, _, h2, _⟩ := each i (by omega)
    rw [List.getElem?_eq_getElem hlt] at h2
    rw [Option.some.inj h2] at hxy
    cases hxy
set_option maxRecDepth 100000 in
theorem readable_digests : Tryd.prog.readableRec 22 = true := by kernel_rfl
set_option maxRecDepth 100000 in
theorem row_digests : 22 < Tryd.prog.types.size := of_decide_eq_true (by kernel_rfl)
theorem readsD_of_trod {H : Type} {enc : TypeId × Value → H} {W : World} {base : Nat} {v : Value} {d : DataW H} {p : List MemPlace} (hval : Value.okWide Tryd.prog W .any base 22 v)
    (h : DataW.Trod enc Tryd.prog W 0 (fun _ => true) true 22 v d p) :
    ∃ ds, ReadsD W v ds ∧ ds.length ≤ Rows.uptoBulk d ∧ ∀ x ∈ p, x.block < W.heap.size := by
  obtain ⟨a1, len, cap, rfl⟩ := okWide_slice Tryd.underlying22 hval
  obtain ⟨fuel, hf⟩ := h
  rcases Go.Deep.open_slice Tryd.underlying22 hf with ⟨hcs, hx⟩ | ⟨a, len', cap', m, n, D, Pl, hcs, _, hl, hm, hmm, hx, hV⟩
  · simp [Value.cells] at hcs
    obtain ⟨rfl, rfl, rfl⟩ := hcs
    simp only [Prod.mk.injEq] at hx
    obtain ⟨rfl, rfl⟩ := hx
    exact ⟨[], ⟨⟨none, 0, rfl, Nat.le_refl _, fun _ => rfl, fun h => by cases h⟩, fun _ h => by cases h⟩, Nat.zero_le _, fun _ h => by cases h⟩
  · simp [Value.cells] at hcs
    obtain ⟨rfl, rfl, rfl⟩ := hcs
    simp only [Prod.mk.injEq] at hx
    obtain ⟨rfl, rfl⟩ := hx
    simp only [if_true] at hmm
    subst hmm
    rw [cells_digest] at hV
    obtain ⟨B, hB⟩ := Go.Deep.choose_lt (α := List (BitVec 8)) (p := fun i dg => W.cells? 0 (a.add (i * 32)) 32 = some (cb dg) ∧ dg.length = 32 ∧ ∀ x ∈ Pl i, x.block < W.heap.size) (fun i hi => by
      obtain ⟨cs', h1, h2⟩ := hV i hi
      obtain ⟨dg, rfl, h3, h4⟩ := digest_of_cells h2
      exact ⟨dg, h1, h3, h4⟩)
    have hlen : ((List.range len).map B).length = len := by simp
    obtain ⟨ab, ao, spot⟩ := a
    have cell : ∀ i, i < m → ∀ j, j < 32 → W.cell? ((⟨ab, ao, spot⟩ : Addr).add (i * 32 + j)) = (cb (B i))[j]? := by
      intro i hi j hj
      obtain ⟨h1, _, _⟩ := hB i hi
      obtain ⟨_, _, h4⟩ := World.cells?_some h1
      have := h4 j hj
      rw [Go.Deep.add_add] at this
      exact this
    have hspot : 0 < m → spot = none := fun hp => by
      have h := cell 0 hp 0 (by omega)
      rw [cb_get _ 0 (by rw [(hB 0 hp).2.1]; omega)] at h
      simpa [Addr.add] using World.cell?_spot h
    refine ⟨(List.range len).map B, ⟨⟨some ⟨ab, ao, spot⟩, m, by rw [hlen], by rw [hlen]; exact hl, (fun h => by cases h), fun hp => ?_⟩, ?_⟩, by rw [hlen]; exact Nat.le_trans (by have := bulk_len ((List.range len).map D); simpa using this) (bulk_slice _ _), fun x hx => ?_⟩
    · rw [hlen] at hp ⊢
      have hs := hspot (by omega)
      subst hs
      refine ⟨ab, ao, rfl, fun j hj i v hv => ?_⟩
      have e : ((List.range len).map B).getD j [] = B j := by simp [hj]
      rw [e] at hv
      have hi : i < 32 := by have := (List.getElem?_eq_some_iff.1 hv).1; rwa [cb_len, (hB j (by omega)).2.1] at this
      have h := cell j (by omega) i hi
      rw [hv, Addr.add_lit] at h
      rw [Nat.add_assoc]; exact h
    · intro dg hd
      obtain ⟨i, hi, rfl⟩ := List.mem_map.1 hd
      exact (hB i (by have := List.mem_range.1 hi; omega)).2.1
    · rcases List.mem_append.1 hx with hx | hx
      · rw [cells_digest] at hx
        simp only [MemPlace.row, List.mem_map, List.mem_range] at hx
        obtain ⟨i, hi, rfl⟩ := hx
        have h := cell (i / 32) (by omega) (i % 32) (by omega)
        rw [cb_get _ _ (by rw [(hB (i / 32) (by omega)).2.1]; omega), show i / 32 * 32 + i % 32 = i by omega] at h
        have := block_lt_of_cell h
        simp only [Addr.add] at this
        split at this <;> exact this
      · obtain ⟨i, hi, hx⟩ := List.mem_flatMap.1 hx
        exact (hB i (List.mem_range.1 hi)).2.2 x hx
theorem trodAll_five {H : Type} {enc : TypeId × Value → H} {P : Program} {w : World} {base : Nat} {spare : Nat → Bool} {held : Bool} {t0 t1 t2 t3 t4 : TypeId} {args : Array Value} {ds : List (DataW H)} {ps : List MemPlace} (h : DataW.TrodAll enc P w base spare held [t0, t1, t2, t3, t4] args.toList ds ps) :
    ∃ v0 v1 v2 v3 v4 d0 d1 d2 d3 d4 p0 p1 p2 p3 p4, args = #[v0, v1, v2, v3, v4] ∧ ds = [d0, d1, d2, d3, d4] ∧ ps = p0 ++ p1 ++ p2 ++ p3 ++ p4 ∧ DataW.Trod enc P w base spare held t0 v0 d0 p0 ∧ DataW.Trod enc P w base spare held t1 v1 d1 p1 ∧ DataW.Trod enc P w base spare held t2 v2 d2 p2 ∧ DataW.Trod enc P w base spare held t3 v3 d3 p3 ∧ DataW.Trod enc P w base spare held t4 v4 d4 p4 := by
  obtain ⟨v0, vs0, d0, ds0, p0, q0, hargs, rfl, rfl, h0, r0⟩ := trodAll_cons h
  obtain ⟨v1, vs1, d1, ds1, p1, q1, rfl, rfl, rfl, h1, r1⟩ := trodAll_cons r0
  obtain ⟨v2, vs2, d2, ds2, p2, q2, rfl, rfl, rfl, h2, r2⟩ := trodAll_cons r1
  obtain ⟨v3, vs3, d3, ds3, p3, q3, rfl, rfl, rfl, h3, r3⟩ := trodAll_cons r2
  obtain ⟨v4, vs4, d4, ds4, p4, q4, rfl, rfl, rfl, h4, r4⟩ := trodAll_cons r3
  obtain ⟨rfl, rfl, rfl⟩ := trodAll_nil r4
  exact ⟨v0, v1, v2, v3, v4, d0, d1, d2, d3, d4, p0, p1, p2, p3, p4, by cases args; simp_all, rfl, by simp, h0, h1, h2, h3, h4⟩
theorem trodAll_mk5 {H : Type} {enc : TypeId × Value → H} {P : Program} {w : World} {base : Nat} {spare : Nat → Bool} {held : Bool} {t0 t1 t2 t3 t4 : TypeId} {v0 v1 v2 v3 v4 : Value} {d0 d1 d2 d3 d4 : DataW H} {p0 p1 p2 p3 p4 : List MemPlace} (h0 : DataW.Trod enc P w base spare held t0 v0 d0 p0) (h1 : DataW.Trod enc P w base spare held t1 v1 d1 p1) (h2 : DataW.Trod enc P w base spare held t2 v2 d2 p2) (h3 : DataW.Trod enc P w base spare held t3 v3 d3 p3) (h4 : DataW.Trod enc P w base spare held t4 v4 d4 p4) : DataW.TrodAll enc P w base spare held [t0, t1, t2, t3, t4] [v0, v1, v2, v3, v4] [d0, d1, d2, d3, d4] (p0 ++ (p1 ++ (p2 ++ (p3 ++ p4)))) :=
  ⟨p0, _, h0, trodAll_mk4 h1 h2 h3 h4, rfl⟩
end Go.Proofs.YtphacinnnepdoaaDoor

/- The walks of bytes.Clone, of the reader's Text and Digest. -/
import Derived.Test.YtldbcglakeggaaaRNum
namespace Go.Proofs.Ytldbcglakeggaaa
open Go.RowKit
theorem OwnB.zero (w : World) (base g : Nat) (hg : base ≤ g) (h : Blk w g [] 5) : OwnB w base (.slice (some ⟨g, 0, none⟩) 0 0) [] :=
  OwnB.of_blk (l := []) (c := 0) h hg rfl (by unfold maxLen; omega) (Nat.le_refl _) rfl
set_option maxHeartbeats 400000 in
theorem clone_any (v : Value) (l : List (BitVec 8)) (w : World) (h : Reads w v l) (hl : l.length ≤ 140737488355328) :
    Calls Try.prog 76 #[v] w fun e w' => ∃ v', e = .returned v' ∧ OwnB w' w.heap.size v' l ∧ Below w.heap.size w w' := by
  have HR : Hid (Reads w v l) := h
  have HL : Hid (l.length ≤ 140737488355328) := hl
  obtain ⟨ad, cap, rfl, _, hn, hx⟩ := h
  cases ad with
  | none =>
    have h0 : l = [] := by
      cases l with
      | nil => rfl
      | cons b r => obtain ⟨b, off, h1, _⟩ := hx (by simp); cases h1
    subst h0
    have := hn rfl
    subst this
    clear hx hn hl
    have hnil : ∀ (a : Option Addr) (n c : Nat) (w : World), (binOp .eql 22 (.slice a n c) (.slice none 0 0)).run Try.prog w = .ok (.bool a.isNone) w := fun a n c w => Lib.run_eql_slice_nil w 22 5 a n c 0 0 Try.underlying22
    go_enter Try.func76, Try.ntmps76
    go_wp2
    go_ret
    exact ⟨_, rfl, OwnB.nil _ _, Below.refl _ _⟩
  | some ad =>
    clear hx hn hl
    obtain ⟨m, HM⟩ : ∃ m, Hid (m = l.length) := ⟨_, rfl⟩
    rw [← HM.out] at HR ⊢
    have HB := below_alloc w (.cells ([] : List Value).toArray 5)
    have HO : Hid (OwnB (w.alloc (.cells ([] : List Value).toArray 5)) w.heap.size (.slice (some ⟨w.heap.size, 0, none⟩) 0 0) []) := OwnB.zero _ _ _ (Nat.le_refl _) (Blk.new w [] 5)
    have HR1 : Hid (Reads (w.alloc (.cells ([] : List Value).toArray 5)) (.slice (some ad) m cap) l) := HR.out.below HB
    have HBB : Hid (Below w.heap.size w (w.alloc (.cells ([] : List Value).toArray 5))) := HB
    clear HB
    have hnil : ∀ (a : Option Addr) (n c : Nat) (w : World), (binOp .eql 22 (.slice a n c) (.slice none 0 0)).run Try.prog w = .ok (.bool a.isNone) w := fun a n c w => Lib.run_eql_slice_nil w 22 5 a n c 0 0 Try.underlying22
    go_enter Try.func76, Try.ntmps76
    go_wp2_with (at_builtin; refine wpList_appendB rfl (.tmp 5) (.tmp 6) rfl w.heap.size _ [] rfl HO.out _ l rfl HR1.out (by have := HL.out; simp; omega) HBB.out.size ?_; intro v2 w2 hown2 hb2 _)
    have hB2 := HBB.out.trans hb2
    go_wp2
    go_ret
    exact ⟨_, rfl, hown2, hB2⟩
theorem Rd.below {w w' : World} {gr gi : Nat} {v : Value} {l : List (BitVec 8)} (h : Rd w gr gi v l) (hb : Below w.heap.size w w') : Rd w' gr gi v l := ⟨h.rd.below hb h.rd.lt, h.inp.below hb h.inp.lt, h.byt.below hb⟩
theorem Threw.down {gi : Nat} {w w1 : World} {e : Ending} (h : Threw gi w e w1) : e = .panicked [{ v := .iface 100 (.pointer (some ⟨gi, 0, none⟩)), recovered := false }] := h.eq
set_option maxHeartbeats 400000 in
theorem crtext_any (gr gi : Nat) (v : Value) (l : List (BitVec 8)) (w : World) (h : Rd w gr gi v l) :
    Calls Try.prog 70 #[.pointer (some ⟨gr, 0, none⟩)] w fun e w' => RdDoes gr gi v w (readText l) (fun a w' v => OwnB w' w.heap.size v a) e w' := by
  have HR : Hid (Rd w gr gi v l) := h
  clear h
  go_enter Try.func70, Try.ntmps70
  go_wp2_with fail
  refine (count_any gr gi 1048576 (by omega) v l w HR.out).mono ?_
  rintro e w1 (⟨n, r, va, v2, hc, rfl, rfl, hrd, ho, hob⟩ | ⟨hc, hT⟩)
  · obtain ⟨hn, HT⟩ : n ≤ 1048576 ∧ Hid (readText l = if n ≤ r.length then some (r.take n, r.drop n) else none) := by
      unfold readCount at hc
      cases h1 : readNum l with
      | none => rw [h1] at hc; cases hc
      | some p =>
        obtain ⟨m, s⟩ := p
        rw [h1] at hc
        simp only at hc
        split at hc
        · rename_i hle
          simp only [Option.some.injEq, Prod.mk.injEq] at hc
          obtain ⟨rfl, rfl⟩ := hc
          refine ⟨hle, ?_⟩
          show _ = _
          unfold readText
          rw [h1]
          simp only [hle, true_and]
        · cases hc
    have HRD : Hid (Rd w1 gr gi v2 r) := hrd
    have HO : Hid (Only gi w w1) := ho
    clear hrd ho hc
    go_wp2_with fail
    refine (take_any gr gi n v2 r w1 HRD.out (by omega)).mono ?_
    rintro e w2 (⟨a, r2, va, v3, hc, rfl, hr, hrd, ho, hob2⟩ | ⟨hc, hT⟩)
    · have hle : n ≤ r.length := by
        unfold cut at hc
        split at hc
        · assumption
        · cases hc
      have HT2 : Hid (readText l = some (a, r2)) := by
        show _ = _
        rw [HT.out, if_pos hle]
        unfold cut at hc
        rw [if_pos hle] at hc
        exact hc
      have HA : Hid (a.length ≤ 1048576) := by
        unfold cut at hc
        rw [if_pos hle] at hc
        simp only [Option.some.injEq, Prod.mk.injEq] at hc
        show _ ≤ _
        rw [← hc.1, List.length_take]; omega
      have HRD2 : Hid (Rd w2 gr gi v3 r2) := hrd
      have HO2 : Hid (Only gi w w2) := HO.out.trans ho
      have HRR : Hid (Reads w2 va a) := hr
      clear hrd ho hc hr HT HRD HO hle
      go_wp2_with fail
      refine (clone_any va a w2 HRR.out (by have := HA.out; omega)).mono ?_
      rintro e w3 ⟨v4, rfl, hown, hb⟩
      have HF : Hid (RdDoes gr gi v w (readText l) (fun a w' v => OwnB w' w.heap.size v a) (.returned v4) w3) :=
        Or.inl ⟨a, r2, v4, v3, HT2.out, rfl, ⟨hown.1, hown.2.imp id (fun ⟨g, c, cur, h1, h2, h3⟩ => ⟨g, c, cur, h1, Nat.le_trans HO2.out.size h2, h3⟩)⟩, HRD2.out.below hb, HO2.out.trans (Only.of_below hb), hob2.trans hob⟩
      clear hown hb
      go_wp2
      go_ret
      exact HF.out
    · have hle : ¬ n ≤ r.length := by
        unfold cut at hc
        split at hc
        · cases hc
        · assumption
      have HT2 : Hid (readText l = none) := by show _ = _; rw [HT.out, if_neg hle]
      have hT2 := hT.after HO.out
      obtain rfl := hT.down
      clear hT hc HT hle
      go_wp2
      exact ⟨rfl, Or.inr ⟨HT2.out, hT2⟩⟩
  · have HC2 : Hid (readText l = none) := by
      show _ = _
      unfold readText
      unfold readCount at hc
      cases h1 : readNum l with
      | none => rfl
      | some p =>
        obtain ⟨m, s⟩ := p
        rw [h1] at hc
        simp only at hc ⊢
        split at hc
        · cases hc
        · rename_i hle
          rw [if_neg (by omega)]
    have hT2 := hT
    obtain rfl := hT.down
    clear hT hc
    go_wp2
    exact ⟨rfl, Or.inr ⟨HC2.out, hT2⟩⟩
theorem wpAny_enterP {P : Program} {md : Region.Mode} {ops : Array Oper} {Q : Exit → Act → World → Prop} {fuel : Nat} {listed : Array Bool} {a : Act} {w : World} (i : Nat) {oi : Oper} {f : FuncId} {args : Array Value} {R : Ending → World → Prop}
    (hr : Region.ready md ops listed = [i]) (hi : ops[i]? = some oi) (hw : Region.wanted oi (yielded ops a.tmps) = true) (he : (execOp a.eval oi).run P w = .ok (.enter f args) w) (hc : Calls P f args w R)
    (h : ∀ e w', R e w' → (∃ v, e = .returned v ∧ wpAny P md ops Q fuel (listed.setIfInBounds i true) (a.put oi.dst v) w') ∨ (∃ ch, e = .panicked ch ∧ Q (.panic ch) a w')) : wpAny P md ops Q (fuel + 1) listed a w := by
  refine wpAny_all hr (by simp) (fun j hj => ?_)
  obtain rfl : j = i := by simpa using hj
  unfold wpOp
  rw [hi]
  simp only [hw, if_true]
  left
  unfold Oper.wp
  rw [he, Oper.upon_enter]
  refine hc.mono ?_
  intro e w' hR
  rcases h e w' hR with ⟨v, rfl, hv⟩ | ⟨ch, rfl, hv⟩
  · exact hv
  · exact hv
theorem wpAny_step {P : Program} {md : Region.Mode} {ops : Array Oper} {Q : Exit → Act → World → Prop} {fuel : Nat} {listed : Array Bool} {a : Act} {w : World} (i : Nat) {oi : Oper} (v : Value) (w' : World)
    (hr : Region.ready md ops listed = [i]) (hi : ops[i]? = some oi) (hw : Region.wanted oi (yielded ops a.tmps) = true) (he : (execOp a.eval oi).run P w = .ok (.value v) w')
    (h : wpAny P md ops Q fuel (listed.setIfInBounds i true) (a.put oi.dst v) w') : wpAny P md ops Q (fuel + 1) listed a w := by
  refine wpAny_all hr (by simp) (fun j hj => ?_)
  obtain rfl : j = i := by simpa using hj
  unfold wpOp
  rw [hi]
  simp only [hw, if_true]
  left
  unfold Oper.wp
  rw [he, Oper.upon_value]
  exact h
theorem Rd.others {w w' : World} {gr gi B : Nat} {v : Value} {l : List (BitVec 8)} (h : Rd w gr gi v l) (hgr : gr < B) (hgi : gi < B) (hv : 0 < l.length → ∀ k, v.ownBlock = some k → k < B) {C : Nat} (hC : B ≤ C) (hb : Below C w w') : Rd w' gr gi v l := by
  refine ⟨h.rd.below hb (by omega), h.inp.below hb (by omega), ?_⟩
  obtain ⟨ad, cap, rfl, hc, hn, hx⟩ := h.byt
  refine ⟨ad, cap, rfl, hc, hn, fun hp => ?_⟩
  obtain ⟨b, off, rfl, hy⟩ := hx hp
  refine ⟨b, off, rfl, fun j hj => ?_⟩
  have : b < C := Nat.lt_of_lt_of_le (hv hp b rfl) hC
  rw [hb.cell (p := ⟨b, off + j, none⟩) this]
  exact hy j hj
theorem Only.more {g B : Nat} {w w1 w2 : World} (h : Only g w w1) (hb : Below B w1 w2) (hB : w.heap.size ≤ B) : Only g w w2 :=
  ⟨hb.os.trans h.os, hb.tape.trans h.tape, hb.output.trans h.output, Nat.le_trans h.size hb.size, fun k hk hl => (hb.block k (by omega)).trans (h.block k hk hl)⟩
theorem Try.infodig : (Try.prog.info? 28).map (·.size) = some 32 := by kernel_rfl
set_option maxHeartbeats 400000 in
theorem crdigest_any (gr gi : Nat) (v : Value) (l : List (BitVec 8)) (w : World) (h : Rd w gr gi v l) :
    Calls Try.prog 68 #[.pointer (some ⟨gr, 0, none⟩)] w fun e w' => RdDoes gr gi v w (cut 32 l) (fun a _ v => v = .agg (cb a).toArray) e w' := by
  have hB1 : Below w.heap.size w ((w.alloc (.cells (cb zb32).toArray 28)).alloc (.cells (cb zb32).toArray 28)) := ((Below.refl _ _).alloc (Nat.le_refl _) _).alloc (by simp) _
  have HA : Hid (Blk ((w.alloc (.cells (cb zb32).toArray 28)).alloc (.cells (cb zb32).toArray 28)) w.heap.size (cb zb32) 28) := (Blk.new w (cb zb32) 28).alloc _
  have HD : Hid (Blk ((w.alloc (.cells (cb zb32).toArray 28)).alloc (.cells (cb zb32).toArray 28)) (w.heap.size + 1) (cb zb32) 28) := Blk.new_at (w := w.alloc (.cells (cb zb32).toArray 28)) (by simp) (cb zb32) 28
  have HR : Hid (Rd ((w.alloc (.cells (cb zb32).toArray 28)).alloc (.cells (cb zb32).toArray 28)) gr gi v l) := h.below hB1
  have HGI : Hid (gi < w.heap.size) := h.inp.lt
  have HGG : Hid (gr < w.heap.size) := h.rd.lt
  have HVB : Hid (0 < l.length → ∀ k, v.ownBlock = some k → k < w.heap.size) := by
    intro hp k hk
    obtain ⟨ad, cap, rfl, _, _, hx⟩ := h.byt
    obtain ⟨b, off, rfl, hy⟩ := hx hp
    simp only [Value.ownBlock, Option.some.injEq] at hk
    subst hk
    exact block_lt_of_cell (hy 0 hp)
  have HB1 : Hid (Only gi w ((w.alloc (.cells (cb zb32).toArray 28)).alloc (.cells (cb zb32).toArray 28))) := Only.of_below hB1
  clear h hB1
  go_enter Try.func68, Try.ntmps68
  go_wp2_with fail
  generalize h0 : Obj.cells _ 28 = o32
  have ho : o32 = Obj.cells (cb zb32).toArray 28 := h0.symm
  clear h0
  subst ho
  generalize (w.alloc (.cells (cb zb32).toArray 28)).alloc (.cells (cb zb32).toArray 28) = w1 at *
  refine wp_region_any (by kernel_rfl) ?_
  change wpAny _ _ _ _ _ _ _ (World.drew _)
  refine wpAny_take (i := 0) (v := .slice (some ⟨w.heap.size + 1, 0, none⟩) 32 32) rfl (by kernel_rfl) (by kernel_rfl) (by kernel_rfl) (fun _ _ _ h => h) (Or.inl ⟨by rfl, fun wx => by simp [execOp, Act.eval, slice_dig_at]⟩) ?_
  simp only [Act.put, List.getElem_toArray, List.getElem_cons_zero, List.setIfInBounds_toArray, List.set_cons_zero, List.set_cons_succ]
  refine wpAny_take (i := 1) (v := .pointer (some ⟨gr, 0, none⟩)) rfl (by kernel_rfl) (by kernel_rfl) (by kernel_rfl) (fun _ _ _ h => h) (Or.inl ⟨by rfl, fun wx => by simp [go_sem]⟩) ?_
  simp only [Act.put, List.getElem_toArray, List.getElem_cons_succ, List.getElem_cons_zero, List.setIfInBounds_toArray, List.set_cons_zero, List.set_cons_succ]
  have HR5 : Hid (Rd w1.drew gr gi v l) := ⟨HR.out.rd.drew, HR.out.inp.drew, HR.out.byt⟩
  have HA5 : Hid (Blk w1.drew w.heap.size (cb zb32) 28) := HA.out.drew
  have HD5 : Hid (Blk w1.drew (w.heap.size + 1) (cb zb32) 28) := HD.out.drew
  have HO5 : Hid (Only gi w w1.drew) := HB1.out.drew
  generalize w1.drew = w5 at *
  clear HR HA HD HB1
  refine wpAny_enterP 2 (by kernel_rfl) rfl (by rfl) (f := 75) (args := #[.pointer (some ⟨gr, 0, none⟩), .int .i64 ((32 : Nat) : Int)]) (by simp [go_sem]) (take_any gr gi 32 v l w5 HR5.out (by omega)) ?_
  rintro e w6 (⟨a, r, va, v2, hc, rfl, hr, hrd, ho, hob⟩ | ⟨hc, hT⟩)
  · refine Or.inl ⟨_, rfl, ?_⟩
    have HAL : Hid (a.length = 32) := by
      unfold cut at hc
      split at hc
      · simp only [Option.some.injEq, Prod.mk.injEq] at hc
        show _ = _
        rw [← hc.1, List.length_take]; omega
      · cases hc
    have HCC : Hid (cut 32 l = some (a, r)) := hc
    have HOB : Hid (v2.ownBlock = v.ownBlock) := hob
    have HGR : Hid (gr < w.heap.size) := HGG.out
    have HVR : Hid (0 < r.length → ∀ k, v2.ownBlock = some k → k < w.heap.size) := by
      intro hp k hk
      have hl : 0 < l.length := by
        unfold cut at hc
        split at hc
        · omega
        · cases hc
      exact HVB.out hl k (hob ▸ hk)
    clear hob
    have HA6 : Hid (Blk w6 w.heap.size (cb zb32) 28) := HA5.out.only ho (by have := HGI.out; omega)
    have HD6 : Hid (Blk w6 (w.heap.size + 1) (cb zb32) 28) := HD5.out.only ho (by have := HGI.out; omega)
    have HO6 : Hid (Only gi w w6) := HO5.out.trans ho
    have HRD : Hid (Rd w6 gr gi v2 r) := hrd
    obtain ⟨ad, cap, rfl, hcap, _, hx⟩ := hr
    obtain ⟨b, off, rfl, hy⟩ := hx (by rw [HAL.out]; omega)
    have HY : Hid (∀ j, j < a.length → w6.cell? ⟨b, off + j, none⟩ = some (.int .u8 ((a.getD j 0).toNat : Int))) := hy
    rw [HAL.out]
    have hcp : ∀ ty, (Builtin.copy_ #[22, 22] ty #[.slice (some ⟨w.heap.size + 1, 0, none⟩) 32 32, .slice (some ⟨b, off, none⟩) 32 cap]).run Try.prog w6 = .ok (goInt (cb a).length) (w6.setCells (w.heap.size + 1) 0 (cb a)) := fun ty =>
      run_copy_cells w6 _ _ ty 5 (w.heap.size + 1) 0 32 32 ⟨b, off, none⟩ 32 cap (cb a) Try.underlying22 (by kernel_rfl) (by rw [cb_len, HAL.out]; rfl)
        (fun j u hj => by
          have hjl : j < a.length := by have := (List.getElem?_eq_some_iff.1 hj).1; rwa [cb_len] at this
          rw [Addr.add_mid, HY.out j hjl, ← hj, cb_get a j hjl])
        (fun j hj => by rw [HD6.out.cell, List.getElem?_eq_getElem (by rw [cb_len, len_zb32]; rw [cb_len, HAL.out] at hj; omega)]; rfl) (fun j _ => HD6.out.frozen _) (cb_one _)
    have HE7 : Hid (Blk (w6.setCells (w.heap.size + 1) 0 (cb a)) (w.heap.size + 1) (cb a) 28) := HD6.out.whole (cb a) (by rw [cb_len, cb_len, HAL.out, len_zb32])
    have HA7 : Hid (Blk (w6.setCells (w.heap.size + 1) 0 (cb a)) w.heap.size (cb zb32) 28) := Blk.others _ _ _ _ HA6.out (by omega)
    have hbel6 : Below w.heap.size w6 (w6.setCells (w.heap.size + 1) 0 (cb a)) := Below.setCells _ (by omega) _ _ _ (Below.refl _ _)
    obtain ⟨a', HAA⟩ : ∃ x, Hid (x = cb a) := ⟨_, rfl⟩
    clear hx hy hrd ho hcap hc
    simp only [Act.put, List.getElem_toArray, List.getElem_cons_succ, List.getElem_cons_zero, List.setIfInBounds_toArray, List.set_cons_zero, List.set_cons_succ]
    refine wpAny_step 3 (goInt (cb a).length) (w6.setCells (w.heap.size + 1) 0 (cb a)) (by kernel_rfl) rfl (by rfl) (by simp [execOp, resolve, invoke, builtin, Act.eval, hcp, Result.andThen]) ?_
    simp only [Act.put, List.getElem_toArray, List.getElem_cons_succ, List.getElem_cons_zero, List.setIfInBounds_toArray, List.set_cons_zero, List.set_cons_succ]
    refine wpAny_done (by kernel_rfl) ?_ _
    have HRD7 : Hid (Rd (w6.setCells (w.heap.size + 1) 0 (cb a)) gr gi v2 r) := HRD.out.others HGR.out HGI.out HVR.out (Nat.le_refl _) hbel6
    have HO7 : Hid (Only gi w (w6.setCells (w.heap.size + 1) 0 (cb a))) := HO6.out.more hbel6 (Nat.le_refl _)
    have hcl : (cb a).length = 32 := by rw [cb_len, HAL.out]
    have H1 : Hid (∀ u ∈ cb a, u.oneCell' = true) := cb_one a
    have HZ : Hid ((Try.prog.info? 28).map (·.size) = some (cb a).length) := by show _ = _; rw [hcl]; exact Try.infodig
    have HCL : Hid ((cb a).length = 32) := hcl
    clear hcp hcl hbel6 HA6 HD6 HO6 HRD HY
    generalize w6.setCells (w.heap.size + 1) 0 (cb a) = w7 at *
    obtain ⟨cs, HCS⟩ : ∃ x, Hid (x = cb a) := ⟨_, rfl⟩
    have HAA2 : Hid (a' = cb a) := HAA.out
    clear HAA HAA2
    rw [← HCS.out] at HE7 H1 HZ HCL ⊢
    go_wp2_with (first
        | (refine wpList_load_mid rfl 28 _ rfl (w.heap.size + 1) 0 rfl cs _ HE7.out.range Try.underlying28 rfl HZ.out ?_)
        | (refine wpList_store_mid rfl 28 _ _ rfl w.heap.size 0 cs.toArray rfl rfl (HA7.out.there 0 _ (by rw [List.size_toArray, HCL.out, cb_len, len_zb32]; omega)) (by simpa using HZ.out) (all_oneCell_toArray H1.out) ?_))
    have hB := HA7.out.whole cs (by rw [HCL.out, cb_len, len_zb32])
    have hb8 : Below w.heap.size w7 (w7.setCells w.heap.size 0 cs) := Below.setCells _ (Nat.le_refl _) _ _ _ (Below.refl _ _)
    refine bodyPost_ret (v := .agg cs.toArray) (results_cell_row (by rfl) _ _ w.heap.size 28 _ (0, 0) _ rfl hB Try.underlying28 rfl (by simpa using HZ.out)) rfl ?_
    exact Or.inl ⟨a, r, _, v2, HCC.out, rfl, by rw [HCS.out], HRD7.out.others HGR.out HGI.out HVR.out (Nat.le_refl _) hb8, HO7.out.more hb8 (Nat.le_refl _), HOB.out⟩
  · refine Or.inr ⟨_, hT.down, ?_⟩
    exact ⟨rfl, Or.inr ⟨hc, hT.down ▸ (hT.after HO5.out)⟩⟩
end Go.Proofs.Ytldbcglakeggaaa

/- Texts that the proof leans on, one behind the other: The walks of bytes.Clone, of the reader's Text and Digest. Bindings, requests, signed roots and proofs as bytes, each in one way: plain lists (layer 5; no program is named here but by what it imports). Names and keys: strings as bytes; the walks of record's isName and Check, and of the reference's Name and Check. .. -/
import Derived.Test.YtableajopaappaaDoorMgb
import Derived.Lib.ConvBytes
import Derived.BigQuiet
import Derived.Deep.RegionHeld3
import Derived.Laws.ResultCell
import Derived.Great.BuildSlice
import Derived.Lib.SlBytesConst
import Derived.Deep.DeepCutAuto
import Derived.Test.YtableajopaappaaDoorMga
/- The walks of bytes.Clone, of the reader's Text and Digest. -/
namespace Go.Proofs.YtableajopaappaaDoor
open Go.RowKit
set_option maxRecDepth 100000
theorem OwnB.zero (w : World) (base g : Nat) (hg : base ≤ g) (h : Blk w g [] 5) : OwnB w base (.slice (some ⟨g, 0, none⟩) 0 0) [] :=
  OwnB.of_blk (l := []) (c := 0) h hg rfl (by unfold maxLen; omega) (Nat.le_refl _) rfl
set_option maxHeartbeats 400000 in
theorem clone_any (v : Value) (l : List (BitVec 8)) (w : World) (h : Reads w v l) (hl : l.length ≤ 140737488355328) :
    Calls Tryd.prog 82 #[v] w fun e w' => ∃ v', e = .returned v' ∧ OwnB w' w.heap.size v' l ∧ Below w.heap.size w w' := by
  have HR : Hid (Reads w v l) := h
  have HL : Hid (l.length ≤ 140737488355328) := hl
  obtain ⟨ad, cap, rfl, _, hn, hx⟩ := h
  cases ad with
  | none =>
    have h0 : l = [] := by
      cases l with
      | nil => rfl
      | cons b r => obtain ⟨b, off, h1, _⟩ := hx (by simp); cases h1
    subst h0
    have := hn rfl
    subst this
    clear hx hn hl
    have hnil : ∀ (a : Option Addr) (n c : Nat) (w : World), (binOp .eql 28 (.slice a n c) (.slice none 0 0)).run Tryd.prog w = .ok (.bool a.isNone) w := fun a n c w => Lib.run_eql_slice_nil w 28 5 a n c 0 0 Tryd.underlying28
    go_enter Tryd.func82, Tryd.ntmps82
    go_wp2
    go_ret
    exact ⟨_, rfl, OwnB.nil _ _, Below.refl _ _⟩
  | some ad =>
    clear hx hn hl
    obtain ⟨m, HM⟩ : ∃ m, Hid (m = l.length) := ⟨_, rfl⟩
    rw [← HM.out] at HR ⊢
    have HB := below_alloc w (.cells ([] : List Value).toArray 5)
    have HO : Hid (OwnB (w.alloc (.cells ([] : List Value).toArray 5)) w.heap.size (.slice (some ⟨w.heap.size, 0, none⟩) 0 0) []) := OwnB.zero _ _ _ (Nat.le_refl _) (Blk.new w [] 5)
    have HR1 : Hid (Reads (w.alloc (.cells ([] : List Value).toArray 5)) (.slice (some ad) m cap) l) := HR.out.below HB
    have HBB : Hid (Below w.heap.size w (w.alloc (.cells ([] : List Value).toArray 5))) := HB
    clear HB
    have hnil : ∀ (a : Option Addr) (n c : Nat) (w : World), (binOp .eql 28 (.slice a n c) (.slice none 0 0)).run Tryd.prog w = .ok (.bool a.isNone) w := fun a n c w => Lib.run_eql_slice_nil w 28 5 a n c 0 0 Tryd.underlying28
    go_enter Tryd.func82, Tryd.ntmps82
    go_wp2_with (at_builtin; refine wpList_appendB rfl (.tmp 5) (.tmp 6) rfl w.heap.size _ [] rfl HO.out _ l rfl HR1.out (by have := HL.out; simp; omega) HBB.out.size ?_; intro v2 w2 hown2 hb2 _)
    have hB2 := HBB.out.trans hb2
    go_wp2
    go_ret
    exact ⟨_, rfl, hown2, hB2⟩
theorem Rd.below {w w' : World} {gr gi : Nat} {v : Value} {l : List (BitVec 8)} (h : Rd w gr gi v l) (hb : Below w.heap.size w w') : Rd w' gr gi v l := ⟨h.rd.below hb h.rd.lt, h.inp.below hb h.inp.lt, h.byt.below hb⟩
theorem Threw.down {gi : Nat} {w w1 : World} {e : Ending} (h : Threw gi w e w1) : e = .panicked [{ v := .iface 118 (.pointer (some ⟨gi, 0, none⟩)), recovered := false }] := h.eq
set_option maxHeartbeats 400000 in
theorem crtext_any (gr gi : Nat) (v : Value) (l : List (BitVec 8)) (w : World) (h : Rd w gr gi v l) :
    Calls Tryd.prog 57 #[.pointer (some ⟨gr, 0, none⟩)] w fun e w' => RdDoes gr gi v w (readText l) (fun a w' v => OwnB w' w.heap.size v a) e w' := by
  have HR : Hid (Rd w gr gi v l) := h
  clear h
  go_enter Tryd.func57, Tryd.ntmps57
  go_wp2_with fail
  refine (ccount_any gr gi 1048576 (by omega) v l w HR.out).mono ?_
  rintro e w1 (⟨n, r, va, v2, hc, rfl, rfl, hrd, ho, hob⟩ | ⟨hc, hT⟩)
  · obtain ⟨hn, HT⟩ : n ≤ 1048576 ∧ Hid (readText l = if n ≤ r.length then some (r.take n, r.drop n) else none) := by
      unfold readCount at hc
      cases h1 : readNum l with
      | none => rw [h1] at hc; cases hc
      | some p =>
        obtain ⟨m, s⟩ := p
        rw [h1] at hc
        simp only at hc
        split at hc
        · rename_i hle
          simp only [Option.some.injEq, Prod.mk.injEq] at hc
          obtain ⟨rfl, rfl⟩ := hc
          refine ⟨hle, ?_⟩
          show _ = _
          unfold readText
          rw [h1]
          simp only [hle, true_and]
        · cases hc
    have HRD : Hid (Rd w1 gr gi v2 r) := hrd
    have HO : Hid (Only gi w w1) := ho
    clear hrd ho hc
    go_wp2_with fail
    refine (take_any gr gi n v2 r w1 HRD.out (by omega)).mono ?_
    rintro e w2 (⟨a, r2, va, v3, hc, rfl, hr, hrd, ho, hob2⟩ | ⟨hc, hT⟩)
    · have hle : n ≤ r.length := by
        unfold cut at hc
        split at hc
        · assumption
        · cases hc
      have HT2 : Hid (readText l = some (a, r2)) := by
        show _ = _
        rw [HT.out, if_pos hle]
        unfold cut at hc
        rw [if_pos hle] at hc
        exact hc
      have HA : Hid (a.length ≤ 1048576) := by
        unfold cut at hc
        rw [if_pos hle] at hc
        simp only [Option.some.injEq, Prod.mk.injEq] at hc
        show _ ≤ _
        rw [← hc.1, List.length_take]; omega
      have HRD2 : Hid (Rd w2 gr gi v3 r2) := hrd
      have HO2 : Hid (Only gi w w2) := HO.out.trans ho
      have HRR : Hid (Reads w2 va a) := hr
      clear hrd ho hc hr HT HRD HO hle
      go_wp2_with fail
      refine (clone_any va a w2 HRR.out (by have := HA.out; omega)).mono ?_
      rintro e w3 ⟨v4, rfl, hown, hb⟩
      have HF : Hid (RdDoes gr gi v w (readText l) (fun a w' v => OwnB w' w.heap.size v a) (.returned v4) w3) :=
        Or.inl ⟨a, r2, v4, v3, HT2.out, rfl, ⟨hown.1, hown.2.imp id (fun ⟨g, c, cur, h1, h2, h3⟩ => ⟨g, c, cur, h1, Nat.le_trans HO2.out.size h2, h3⟩)⟩, HRD2.out.below hb, HO2.out.trans (Only.of_below hb), hob2.trans hob⟩
      clear hown hb
      go_wp2
      go_ret
      exact HF.out
    · have hle : ¬ n ≤ r.length := by
        unfold cut at hc
        split at hc
        · cases hc
        · assumption
      have HT2 : Hid (readText l = none) := by show _ = _; rw [HT.out, if_neg hle]
      have hT2 := hT.after HO.out
      obtain rfl := hT.down
      clear hT hc HT hle
      go_wp2
      exact ⟨rfl, Or.inr ⟨HT2.out, hT2⟩⟩
  · have HC2 : Hid (readText l = none) := by
      show _ = _
      unfold readText
      unfold readCount at hc
      cases h1 : readNum l with
      | none => rfl
      | some p =>
        obtain ⟨m, s⟩ := p
        rw [h1] at hc
        simp only at hc ⊢
        split at hc
        · cases hc
        · rename_i hle
          rw [if_neg (by omega)]
    have hT2 := hT
    obtain rfl := hT.down
    clear hT hc
    go_wp2
    exact ⟨rfl, Or.inr ⟨HC2.out, hT2⟩⟩
theorem wpAny_enterP {P : Program} {md : Region.Mode} {ops : Array Oper} {Q : Exit → Act → World → Prop} {fuel : Nat} {listed : Array Bool} {a : Act} {w : World} (i : Nat) {oi : Oper} {f : FuncId} {args : Array Value} {R : Ending → World → Prop}
    (hr : Region.ready md ops listed = [i]) (hi : ops[i]? = some oi) (hw : Region.wanted oi (yielded ops a.tmps) = true) (he : (execOp a.eval oi).run P w = .ok (.enter f args) w) (hc : Calls P f args w R)
    (h : ∀ e w', R e w' → (∃ v, e = .returned v ∧ wpAny P md ops Q fuel (listed.setIfInBounds i true) (a.put oi.dst v) w') ∨ (∃ ch, e = .panicked ch ∧ Q (.panic ch) a w')) : wpAny P md ops Q (fuel + 1) listed a w := by
  refine wpAny_all hr (by simp) (fun j hj => ?_)
  obtain rfl : j = i := by simpa using hj
  unfold wpOp
  rw [hi]
  simp only [hw, if_true]
  left
  unfold Oper.wp
  rw [he, Oper.upon_enter]
  refine hc.mono ?_
  intro e w' hR
  rcases h e w' hR with ⟨v, rfl, hv⟩ | ⟨ch, rfl, hv⟩
  · exact hv
  · exact hv
theorem Rd.others {w w' : World} {gr gi B : Nat} {v : Value} {l : List (BitVec 8)} (h : Rd w gr gi v l) (hgr : gr < B) (hgi : gi < B) (hv : 0 < l.length → ∀ k, v.ownBlock = some k → k < B) {C : Nat} (hC : B ≤ C) (hb : Below C w w') : Rd w' gr gi v l := by
  refine ⟨h.rd.below hb (by omega), h.inp.below hb (by omega), ?_⟩
  obtain ⟨ad, cap, rfl, hc, hn, hx⟩ := h.byt
  refine ⟨ad, cap, rfl, hc, hn, fun hp => ?_⟩
  obtain ⟨b, off, rfl, hy⟩ := hx hp
  refine ⟨b, off, rfl, fun j hj => ?_⟩
  have : b < C := Nat.lt_of_lt_of_le (hv hp b rfl) hC
  rw [hb.cell (p := ⟨b, off + j, none⟩) this]
  exact hy j hj
theorem Only.more {g B : Nat} {w w1 w2 : World} (h : Only g w w1) (hb : Below B w1 w2) (hB : w.heap.size ≤ B) : Only g w w2 :=
  ⟨hb.os.trans h.os, hb.tape.trans h.tape, hb.output.trans h.output, Nat.le_trans h.size hb.size, fun k hk hl => (hb.block k (by omega)).trans (h.block k hk hl)⟩
theorem Tryd.infodig : (Tryd.prog.info? 23).map (·.size) = some 32 := by kernel_rfl
set_option maxHeartbeats 400000 in
theorem crdigest_any (gr gi : Nat) (v : Value) (l : List (BitVec 8)) (w : World) (h : Rd w gr gi v l) :
    Calls Tryd.prog 86 #[.pointer (some ⟨gr, 0, none⟩)] w fun e w' => RdDoes gr gi v w (cut 32 l) (fun a _ v => v = .agg (cb a).toArray) e w' := by
  have hB1 : Below w.heap.size w ((w.alloc (.cells (cb zb32).toArray 23)).alloc (.cells (cb zb32).toArray 23)) := ((Below.refl _ _).alloc (Nat.le_refl _) _).alloc (by simp) _
  have HA : Hid (Blk ((w.alloc (.cells (cb zb32).toArray 23)).alloc (.cells (cb zb32).toArray 23)) w.heap.size (cb zb32) 23) := (Blk.new w (cb zb32) 23).alloc _
  have HD : Hid (Blk ((w.alloc (.cells (cb zb32).toArray 23)).alloc (.cells (cb zb32).toArray 23)) (w.heap.size + 1) (cb zb32) 23) := Blk.new_at (w := w.alloc (.cells (cb zb32).toArray 23)) (by simp) (cb zb32) 23
  have HR : Hid (Rd ((w.alloc (.cells (cb zb32).toArray 23)).alloc (.cells (cb zb32).toArray 23)) gr gi v l) := h.below hB1
  have HGI : Hid (gi < w.heap.size) := h.inp.lt
  have HGG : Hid (gr < w.heap.size) := h.rd.lt
  have HVB : Hid (0 < l.length → ∀ k, v.ownBlock = some k → k < w.heap.size) := by
    intro hp k hk
    obtain ⟨ad, cap, rfl, _, _, hx⟩ := h.byt
    obtain ⟨b, off, rfl, hy⟩ := hx hp
    simp only [Value.ownBlock, Option.some.injEq] at hk
    subst hk
    exact block_lt_of_cell (hy 0 hp)
  have HB1 : Hid (Only gi w ((w.alloc (.cells (cb zb32).toArray 23)).alloc (.cells (cb zb32).toArray 23))) := Only.of_below hB1
  clear h hB1
  go_enter Tryd.func86, Tryd.ntmps86
  go_wp2_with fail
  generalize h0 : Obj.cells _ 23 = o32
  have ho : o32 = Obj.cells (cb zb32).toArray 23 := h0.symm
  clear h0
  subst ho
  generalize (w.alloc (.cells (cb zb32).toArray 23)).alloc (.cells (cb zb32).toArray 23) = w1 at *
  refine wp_region_any (by kernel_rfl) ?_
  change wpAny _ _ _ _ _ _ _ (World.drew _)
  refine wpAny_take (i := 0) (v := .slice (some ⟨w.heap.size + 1, 0, none⟩) 32 32) rfl (by kernel_rfl) (by kernel_rfl) (by kernel_rfl) (fun _ _ _ h => h) (Or.inl ⟨by rfl, fun wx => by simp [execOp, Act.eval, slice_dig_at]⟩) ?_
  simp only [Act.put, List.getElem_toArray, List.getElem_cons_zero, List.setIfInBounds_toArray, List.set_cons_zero, List.set_cons_succ]
  refine wpAny_take (i := 1) (v := .pointer (some ⟨gr, 0, none⟩)) rfl (by kernel_rfl) (by kernel_rfl) (by kernel_rfl) (fun _ _ _ h => h) (Or.inl ⟨by rfl, fun wx => by simp [go_sem]⟩) ?_
  simp only [Act.put, List.getElem_toArray, List.getElem_cons_succ, List.getElem_cons_zero, List.setIfInBounds_toArray, List.set_cons_zero, List.set_cons_succ]
  have HR5 : Hid (Rd w1.drew gr gi v l) := ⟨HR.out.rd.drew, HR.out.inp.drew, HR.out.byt⟩
  have HA5 : Hid (Blk w1.drew w.heap.size (cb zb32) 23) := HA.out.drew
  have HD5 : Hid (Blk w1.drew (w.heap.size + 1) (cb zb32) 23) := HD.out.drew
  have HO5 : Hid (Only gi w w1.drew) := HB1.out.drew
  generalize w1.drew = w5 at *
  clear HR HA HD HB1
  refine wpAny_enterP 2 (by kernel_rfl) rfl (by rfl) (f := 83) (args := #[.pointer (some ⟨gr, 0, none⟩), .int .i64 ((32 : Nat) : Int)]) (by simp [go_sem]) (take_any gr gi 32 v l w5 HR5.out (by omega)) ?_
  rintro e w6 (⟨a, r, va, v2, hc, rfl, hr, hrd, ho, hob⟩ | ⟨hc, hT⟩)
  · refine Or.inl ⟨_, rfl, ?_⟩
    have HAL : Hid (a.length = 32) := by
      unfold cut at hc
      split at hc
      · simp only [Option.some.injEq, Prod.mk.injEq] at hc
        show _ = _
        rw [← hc.1, List.length_take]; omega
      · cases hc
    have HCC : Hid (cut 32 l = some (a, r)) := hc
    have HOB : Hid (v2.ownBlock = v.ownBlock) := hob
    have HGR : Hid (gr < w.heap.size) := HGG.out
    have HVR : Hid (0 < r.length → ∀ k, v2.ownBlock = some k → k < w.heap.size) := by
      intro hp k hk
      have hl : 0 < l.length := by
        unfold cut at hc
        split at hc
        · omega
        · cases hc
      exact HVB.out hl k (hob ▸ hk)
    clear hob
    have HA6 : Hid (Blk w6 w.heap.size (cb zb32) 23) := HA5.out.only ho (by have := HGI.out; omega)
    have HD6 : Hid (Blk w6 (w.heap.size + 1) (cb zb32) 23) := HD5.out.only ho (by have := HGI.out; omega)
    have HO6 : Hid (Only gi w w6) := HO5.out.trans ho
    have HRD : Hid (Rd w6 gr gi v2 r) := hrd
    obtain ⟨ad, cap, rfl, hcap, _, hx⟩ := hr
    obtain ⟨b, off, rfl, hy⟩ := hx (by rw [HAL.out]; omega)
    have HY : Hid (∀ j, j < a.length → w6.cell? ⟨b, off + j, none⟩ = some (.int .u8 ((a.getD j 0).toNat : Int))) := hy
    rw [HAL.out]
    have hcp : ∀ ty, (Builtin.copy_ #[28, 28] ty #[.slice (some ⟨w.heap.size + 1, 0, none⟩) 32 32, .slice (some ⟨b, off, none⟩) 32 cap]).run Tryd.prog w6 = .ok (goInt (cb a).length) (w6.setCells (w.heap.size + 1) 0 (cb a)) := fun ty =>
      run_copy_cells w6 _ _ ty 5 (w.heap.size + 1) 0 32 32 ⟨b, off, none⟩ 32 cap (cb a) Tryd.underlying28 (by kernel_rfl) (by rw [cb_len, HAL.out]; rfl)
        (fun j u hj => by
          have hjl : j < a.length := by have := (List.getElem?_eq_some_iff.1 hj).1; rwa [cb_len] at this
          rw [Addr.add_mid, HY.out j hjl, ← hj, cb_get a j hjl])
        (fun j hj => by rw [HD6.out.cell, List.getElem?_eq_getElem (by rw [cb_len, len_zb32]; rw [cb_len, HAL.out] at hj; omega)]; rfl) (fun j _ => HD6.out.frozen _) (cb_one _)
    have HE7 : Hid (Blk (w6.setCells (w.heap.size + 1) 0 (cb a)) (w.heap.size + 1) (cb a) 23) := HD6.out.whole (cb a) (by rw [cb_len, cb_len, HAL.out, len_zb32])
    have HA7 : Hid (Blk (w6.setCells (w.heap.size + 1) 0 (cb a)) w.heap.size (cb zb32) 23) := Blk.others _ _ _ _ HA6.out (by omega)
    have hbel6 : Below w.heap.size w6 (w6.setCells (w.heap.size + 1) 0 (cb a)) := Below.setCells _ (by omega) _ _ _ (Below.refl _ _)
    obtain ⟨a', HAA⟩ : ∃ x, Hid (x = cb a) := ⟨_, rfl⟩
    clear hx hy hrd ho hcap hc
    simp only [Act.put, List.getElem_toArray, List.getElem_cons_succ, List.getElem_cons_zero, List.setIfInBounds_toArray, List.set_cons_zero, List.set_cons_succ]
    refine wpAny_step 3 (goInt (cb a).length) (w6.setCells (w.heap.size + 1) 0 (cb a)) (by kernel_rfl) rfl (by rfl) (by simp [execOp, resolve, invoke, builtin, Act.eval, hcp, Result.andThen]) ?_
    simp only [Act.put, List.getElem_toArray, List.getElem_cons_succ, List.getElem_cons_zero, List.setIfInBounds_toArray, List.set_cons_zero, List.set_cons_succ]
    refine wpAny_done (by kernel_rfl) ?_ _
    have HRD7 : Hid (Rd (w6.setCells (w.heap.size + 1) 0 (cb a)) gr gi v2 r) := HRD.out.others HGR.out HGI.out HVR.out (Nat.le_refl _) hbel6
    have HO7 : Hid (Only gi w (w6.setCells (w.heap.size + 1) 0 (cb a))) := HO6.out.more hbel6 (Nat.le_refl _)
    have hcl : (cb a).length = 32 := by rw [cb_len, HAL.out]
    have H1 : Hid (∀ u ∈ cb a, u.oneCell' = true) := cb_one a
    have HZ : Hid ((Tryd.prog.info? 23).map (·.size) = some (cb a).length) := by show _ = _; rw [hcl]; exact Tryd.infodig
    have HCL : Hid ((cb a).length = 32) := hcl
    clear hcp hcl hbel6 HA6 HD6 HO6 HRD HY
    generalize w6.setCells (w.heap.size + 1) 0 (cb a) = w7 at *
    obtain ⟨cs, HCS⟩ : ∃ x, Hid (x = cb a) := ⟨_, rfl⟩
    have HAA2 : Hid (a' = cb a) := HAA.out
    clear HAA HAA2
    rw [← HCS.out] at HE7 H1 HZ HCL ⊢
    go_wp2_with (first
        | (refine wpList_load_mid rfl 23 _ rfl (w.heap.size + 1) 0 rfl cs _ HE7.out.range Tryd.underlying23 rfl HZ.out ?_)
        | (refine wpList_store_mid rfl 23 _ _ rfl w.heap.size 0 cs.toArray rfl rfl (HA7.out.there 0 _ (by rw [List.size_toArray, HCL.out, cb_len, len_zb32]; omega)) (by simpa using HZ.out) (all_oneCell_toArray H1.out) ?_))
    have hB := HA7.out.whole cs (by rw [HCL.out, cb_len, len_zb32])
    have hb8 : Below w.heap.size w7 (w7.setCells w.heap.size 0 cs) := Below.setCells _ (Nat.le_refl _) _ _ _ (Below.refl _ _)
    refine bodyPost_ret (v := .agg cs.toArray) (results_cell_row (by rfl) _ _ w.heap.size 23 _ (0, 0) _ rfl hB Tryd.underlying23 rfl (by simpa using HZ.out)) rfl ?_
    exact Or.inl ⟨a, r, _, v2, HCC.out, rfl, by rw [HCS.out], HRD7.out.others HGR.out HGI.out HVR.out (Nat.le_refl _) hb8, HO7.out.more hb8 (Nat.le_refl _), HOB.out⟩
  · refine Or.inr ⟨_, hT.down, ?_⟩
    exact ⟨rfl, Or.inr ⟨hc, hT.down ▸ (hT.after HO5.out)⟩⟩
end Go.Proofs.YtableajopaappaaDoor
/- Bindings, requests, signed roots and proofs as bytes, each in one way: plain lists (layer 5; no program is named here but by what it imports). -/
namespace Go.Proofs.YtableajopaappaaDoor
abbrev Bs := List (BitVec 8)
/-- g reads just what f writes of what is ok -/
def Codes {α : Type} (g : Bs → Option (α × Bs)) (f : α → Bs) (ok : α → Prop) : Prop := ∀ b r a, g b = some (a, r) ↔ ok a ∧ b = f a ++ r
/-- of what is ok no one's bytes begin another one's -/
def Pre {α : Type} (f : α → Bs) (ok : α → Prop) : Prop := ∀ a b r s, ok a → ok b → f a ++ r = f b ++ s → a = b ∧ r = s
theorem Codes.pre {α : Type} {g : Bs → Option (α × Bs)} {f : α → Bs} {ok : α → Prop} (h : Codes g f ok) : Pre f ok := by
  intro a b r s ha hb he
  have h1 := (h (f a ++ r) r a).2 ⟨ha, rfl⟩
  have h2 := (h (f a ++ r) s b).2 ⟨hb, he⟩
  rw [h1] at h2
  simpa using h2
theorem Pre.inj {α : Type} {f : α → Bs} {ok : α → Prop} (h : Pre f ok) {a b : α} (ha : ok a) (hb : ok b) : f a = f b ↔ a = b :=
  ⟨fun he => (h a b [] [] ha hb (by rw [he])).1, fun he => by rw [he]⟩
def thenR {α β : Type} (g : Bs → Option (α × Bs)) (h : α → Bs → Option (β × Bs)) (b : Bs) : Option ((α × β) × Bs) :=
  match g b with
  | none => none
  | some (a, r) =>
    match h a r with
    | none => none
    | some (c, s) => some ((a, c), s)
theorem thenR_none {α β : Type} {g : Bs → Option (α × Bs)} {h : α → Bs → Option (β × Bs)} {b : Bs} (h1 : g b = none) : thenR g h b = none := by unfold thenR; rw [h1]
theorem thenR_no {α β : Type} {g : Bs → Option (α × Bs)} {h : α → Bs → Option (β × Bs)} {b r : Bs} {a : α} (h1 : g b = some (a, r)) (h2 : h a r = none) : thenR g h b = none := by unfold thenR; rw [h1]; simp only [h2]
theorem thenR_some {α β : Type} {g : Bs → Option (α × Bs)} {h : α → Bs → Option (β × Bs)} {b r s : Bs} {a : α} {c : β} (h1 : g b = some (a, r)) (h2 : h a r = some (c, s)) : thenR g h b = some ((a, c), s) := by unfold thenR; rw [h1]; simp only [h2]
theorem Codes.andThen {α β : Type} {g : Bs → Option (α × Bs)} {f : α → Bs} {ok : α → Prop} {h : α → Bs → Option (β × Bs)} {f2 : α → β → Bs} {ok2 : α → β → Prop} (hg : Codes g f ok) (hh : ∀ a, Codes (h a) (f2 a) (ok2 a)) :
    Codes (thenR g h) (fun p => f p.1 ++ f2 p.1 p.2) (fun p => ok p.1 ∧ ok2 p.1 p.2) := by
  intro b r p
  obtain ⟨a, c⟩ := p
  constructor
  · intro he
    cases h1 : g b with
    | none => rw [thenR_none h1] at he; cases he
    | some q =>
      obtain ⟨a', q⟩ := q
      cases h2 : h a' q with
      | none => rw [thenR_no h1 h2] at he; cases he
      | some q2 =>
        obtain ⟨c', s⟩ := q2
        rw [thenR_some h1 h2] at he
        simp only [Option.some.injEq, Prod.mk.injEq] at he
        obtain ⟨⟨rfl, rfl⟩, rfl⟩ := he
        obtain ⟨o1, rfl⟩ := (hg _ _ _).1 h1
        obtain ⟨o2, rfl⟩ := (hh _ _ _ _).1 h2
        exact ⟨⟨o1, o2⟩, by simp only [List.append_assoc]⟩
  · rintro ⟨⟨o1, o2⟩, rfl⟩
    exact thenR_some ((hg _ _ _).2 ⟨o1, by simp only [List.append_assoc]⟩) ((hh _ _ _ _).2 ⟨o2, rfl⟩)
theorem Pre.andThen {α β : Type} {f : α → Bs} {ok : α → Prop} {f2 : α → β → Bs} {ok2 : α → β → Prop} (hg : Pre f ok) (hh : ∀ a, Pre (f2 a) (ok2 a)) :
    Pre (fun p : α × β => f p.1 ++ f2 p.1 p.2) (fun p => ok p.1 ∧ ok2 p.1 p.2) := by
  rintro ⟨a, c⟩ ⟨b, d⟩ r s ⟨h1, h2⟩ ⟨h3, h4⟩ he
  simp only [List.append_assoc] at he
  obtain ⟨rfl, he⟩ := hg _ _ _ _ h1 h3 he
  obtain ⟨rfl, rfl⟩ := hh _ _ _ _ _ h2 h4 he
  exact ⟨rfl, rfl⟩
theorem codes_num : Codes readNum encNum (fun n => n < 18446744073709551616) := readNum_iff
theorem codes_text : Codes readText encText (fun t => t.length ≤ 1048576) := readText_iff
theorem codes_cut (n : Nat) : Codes (cut n) (fun a => a) (fun a => a.length = n) := by
  intro b r a
  unfold cut
  constructor
  · intro h
    split at h
    · simp only [Option.some.injEq, Prod.mk.injEq] at h
      obtain ⟨rfl, rfl⟩ := h
      exact ⟨by show (List.take n b).length = n; rw [List.length_take]; omega, (List.take_append_drop _ _).symm⟩
    · cases h
  · rintro ⟨rfl, rfl⟩
    rw [if_pos (by simp)]
    simp
theorem Pre.mono {α : Type} {f : α → Bs} {ok ok2 : α → Prop} (h : Pre f ok) (k : ∀ a, ok2 a → ok a) : Pre f ok2 := fun a b r s ha hb he => h a b r s (k a ha) (k b hb) he
/-- what is read to the end, and may be -/
def wholeR {α : Type} (g : Bs → Option (α × Bs)) (may : α → Bool) (b : Bs) : Option α :=
  match g b with
  | some (a, []) => if may a then some a else none
  | _ => none
theorem Codes.whole {α : Type} {g : Bs → Option (α × Bs)} {f : α → Bs} {ok : α → Prop} (h : Codes g f ok) (may : α → Bool) (b : Bs) (a : α) : wholeR g may b = some a ↔ (ok a ∧ may a = true) ∧ b = f a := by
  unfold wholeR
  constructor
  · intro he
    cases h1 : g b with
    | none => rw [h1] at he; cases he
    | some p =>
      obtain ⟨c, r⟩ := p
      rw [h1] at he
      cases r with
      | cons x y => cases he
      | nil =>
        simp only at he
        split at he
        · simp only [Option.some.injEq] at he
          subst he
          obtain ⟨o, hb⟩ := (h _ _ _).1 h1
          exact ⟨⟨o, by assumption⟩, by simpa using hb⟩
        · cases he
  · rintro ⟨⟨o, hm⟩, rfl⟩
    rw [(h (f a) [] a).2 ⟨o, by simp⟩]
    simp only
    rw [if_pos hm]
/-- signed roots: epoch, three digests, signature -/
def encSigned (p : Nat × Bs × Bs × Bs × Bs) : Bs := encNum p.1 ++ (p.2.1 ++ (p.2.2.1 ++ (p.2.2.2.1 ++ encText p.2.2.2.2)))
def signedR : Bs → Option ((Nat × Bs × Bs × Bs × Bs) × Bs) := thenR readNum fun _ => thenR (cut 32) fun _ => thenR (cut 32) fun _ => thenR (cut 32) fun _ => readText
theorem codes_signed : Codes signedR encSigned (fun p => p.1 < 18446744073709551616 ∧ p.2.1.length = 32 ∧ p.2.2.1.length = 32 ∧ p.2.2.2.1.length = 32 ∧ p.2.2.2.2.length ≤ 1048576) :=
  codes_num.andThen (f2 := fun _ (q : Bs × Bs × Bs × Bs) => q.1 ++ (q.2.1 ++ (q.2.2.1 ++ encText q.2.2.2))) (ok2 := fun _ (q : Bs × Bs × Bs × Bs) => q.1.length = 32 ∧ q.2.1.length = 32 ∧ q.2.2.1.length = 32 ∧ q.2.2.2.length ≤ 1048576) fun _ =>
    (codes_cut 32).andThen (f2 := fun _ (q : Bs × Bs × Bs) => q.1 ++ (q.2.1 ++ encText q.2.2)) (ok2 := fun _ (q : Bs × Bs × Bs) => q.1.length = 32 ∧ q.2.1.length = 32 ∧ q.2.2.length ≤ 1048576) fun _ =>
      (codes_cut 32).andThen (f2 := fun _ (q : Bs × Bs) => q.1 ++ encText q.2) (ok2 := fun _ (q : Bs × Bs) => q.1.length = 32 ∧ q.2.length ≤ 1048576) fun _ =>
        (codes_cut 32).andThen (f2 := fun _ (q : Bs) => encText q) (ok2 := fun _ (q : Bs) => q.length ≤ 1048576) fun _ => codes_text
end Go.Proofs.YtableajopaappaaDoor
/- Names and keys: strings as bytes; the walks of record's isName and Check, and of the reference's Name and Check. -/
namespace Go.Proofs.YtableajopaappaaDoor
open Go.RowKit
set_option maxRecDepth 100000
end Go.Proofs.YtableajopaappaaDoor
/- The walks of Check, of record and of the reference; nameAndKey. -/
namespace Go.Proofs.YtableajopaappaaDoor
open Go.RowKit
set_option maxRecDepth 100000
theorem Reads.inB {w : World} {v : Value} {l : List (BitVec 8)} (h : Reads w v l) : 0 < l.length → ∀ k, v.ownBlock = some k → k < w.heap.size := by
  intro hp k hk
  obtain ⟨ad, cap, rfl, _, _, hx⟩ := h
  obtain ⟨b, off, rfl, hy⟩ := hx hp
  simp only [Value.ownBlock, Option.some.injEq] at hk
  subst hk
  exact block_lt_of_cell (hy 0 hp)
theorem Reads.keep {w w' : World} {v : Value} {l : List (BitVec 8)} {B : Nat} (h : Reads w v l) (hb : Below B w w') (hv : 0 < l.length → ∀ k, v.ownBlock = some k → k < B) : Reads w' v l := by
  obtain ⟨ad, cap, rfl, hc, hn, hx⟩ := h
  refine ⟨ad, cap, rfl, hc, hn, fun hp => ?_⟩
  obtain ⟨b, off, rfl, h2⟩ := hx hp
  exact ⟨b, off, rfl, fun j hj => by rw [hb.cell (p := ⟨b, off + j, none⟩) (hv hp b rfl)]; exact h2 j hj⟩
end Go.Proofs.YtableajopaappaaDoor
/- The walks of codec.Read and of what it defers: what is thrown is caught. -/
namespace Go.Proofs.YtableajopaappaaDoor
open Go.RowKit
set_option maxRecDepth 100000
set_option maxRecDepth 100000 in
set_option maxHeartbeats 1000000 in
theorem catch_threw (gin ge gi : Nat) (v : Value) (x : Int) (w : World) (ad : Option Addr) (n c : Nat) (hv : v = .slice ad n c) (hin : Blk w gin [.pointer (some ⟨gi, 0, none⟩)] 118) (hi : Blk w gi [v, .bool true, .bool true] 120) (he : Blk w ge [.int .i64 x] 35) :
    CallsD Tryd.prog 97 #[.pointer (some ⟨gin, 0, none⟩), .pointer (some ⟨ge, 0, none⟩)] (.panicking [{ v := .iface 118 (.pointer (some ⟨gi, 0, none⟩)), recovered := false }]) w fun e u' w' =>
      e = .returned (.tuple #[]) ∧ u' = .panicking [{ v := .iface 118 (.pointer (some ⟨gi, 0, none⟩)), recovered := true }] ∧ w' = (w.setCells gi 0 [.slice none 0 0, .bool false, .bool false]).setCell ⟨ge, 0, none⟩ (.int .i64 3) := by
  subst hv
  have ci : w.cell? ⟨gin, 0, none⟩ = some (.pointer (some ⟨gi, 0, none⟩)) := hin.cell 0
  have c2 : w.cell? ⟨gi, 2, none⟩ = some (.bool true) := hi.cell 2
  have c0 : w.cell? ⟨gi, 0, none⟩ = some (.slice ad n c) := hi.cell 0
  have c1 : w.cell? ⟨gi, 1, none⟩ = some (.bool true) := hi.cell 1
  have f0 : w.frozen? ⟨gi, 0, none⟩ = false := hi.frozen 0
  have f1 : w.frozen? ⟨gi, 1, none⟩ = false := hi.frozen 1
  have f2 : w.frozen? ⟨gi, 2, none⟩ = false := hi.frozen 2
  have ce : w.cell? ⟨ge, 0, none⟩ = some (.int .i64 x) := he.cell 0
  have fe : w.frozen? ⟨ge, 0, none⟩ = false := he.frozen 0
  have hge : ge ≠ gi := by
    intro h
    subst h
    unfold Blk at he hi
    rw [he] at hi
    simp at hi
  have hta : ∀ (pv : Value) (w : World), (Instr.typeAssert (.iface 118 pv) 20 118 true).run Tryd.prog w = .ok (.tuple #[pv, .bool true]) w := fun _ _ => by kernel_rfl
  have hnot : ∀ (x : Bool) (w : World), (Op.unary .not (.bool x)).run Tryd.prog w = .ok (.bool (!x)) w := fun _ _ => rfl
  refine callsD_of_wpS Tryd.func97 rfl fun c₀ cs hu => ?_
  simp only [Tryd.ntmps97, List.size_toArray, List.length_cons, List.length_nil, Nat.reduceAdd, Nat.reduceSub, Array.replicate_succ, Array.replicate_zero, List.push_toArray, List.append_toArray, List.nil_append, List.cons_append]
  apply wpS_seq
  refine wpS_of_wp ?_
  go_wp2
  simp only [Exit.thenS]
  apply wpS_seq
  refine wpS_of_wp ?_
  go_wp2
  simp only [Exit.thenS]
  apply wpS_seq
  refine wpS_of_wp ?_
  go_wp2
  simp only [Exit.thenS]
  apply wpS_seq
  apply wpS_region
  simp [wpOpsS, go_sem, recoverD, hu, Exit.thenS]
  refine wpS_of_wp ?_
  go_wp2
  exact ⟨rfl, _, rfl, _, results_none rfl _ _ _, rfl, rfl, rfl⟩
set_option maxRecDepth 100000 in
set_option maxHeartbeats 1000000 in
theorem catch_idle (gin ge gi : Nat) (v : Value) (x : Int) (w : World) (ad : Option Addr) (n c : Nat) (hv : v = .slice ad n c) (hin : Blk w gin [.pointer (some ⟨gi, 0, none⟩)] 118) (hi : Blk w gi [v, .bool true, .bool false] 120) (he : Blk w ge [.int .i64 x] 35) :
    CallsD Tryd.prog 97 #[.pointer (some ⟨gin, 0, none⟩), .pointer (some ⟨ge, 0, none⟩)] .returning w fun e u' w' =>
      e = .returned (.tuple #[]) ∧ u' = .returning ∧ w' = if n = 0 then ((w.setCells gi 0 [.slice none 0 0, .bool false, .bool false]).setCell ⟨ge, 0, none⟩ (.int .i64 3)).setCell ⟨ge, 0, none⟩ (.int .i64 0) else (w.setCells gi 0 [.slice none 0 0, .bool false, .bool false]).setCell ⟨ge, 0, none⟩ (.int .i64 3) := by
  subst hv
  have ci : w.cell? ⟨gin, 0, none⟩ = some (.pointer (some ⟨gi, 0, none⟩)) := hin.cell 0
  have c2 : w.cell? ⟨gi, 2, none⟩ = some (.bool false) := hi.cell 2
  have c0 : w.cell? ⟨gi, 0, none⟩ = some (.slice ad n c) := hi.cell 0
  have c1 : w.cell? ⟨gi, 1, none⟩ = some (.bool true) := hi.cell 1
  have f0 : w.frozen? ⟨gi, 0, none⟩ = false := hi.frozen 0
  have f1 : w.frozen? ⟨gi, 1, none⟩ = false := hi.frozen 1
  have f2 : w.frozen? ⟨gi, 2, none⟩ = false := hi.frozen 2
  have ce : w.cell? ⟨ge, 0, none⟩ = some (.int .i64 x) := he.cell 0
  have fe : w.frozen? ⟨ge, 0, none⟩ = false := he.frozen 0
  have hge : ge ≠ gi := by
    intro h
    subst h
    unfold Blk at he hi
    rw [he] at hi
    simp at hi
  have hnot : ∀ (x : Bool) (w : World), (Op.unary .not (.bool x)).run Tryd.prog w = .ok (.bool (!x)) w := fun _ _ => rfl
  by_cases hn : n = 0
  · subst hn
    rw [if_pos rfl]
    refine callsD_of_wpS Tryd.func97 rfl fun c₀ cs hu => ?_
    simp only [Tryd.ntmps97, List.size_toArray, List.length_cons, List.length_nil, Nat.reduceAdd, Nat.reduceSub, Array.replicate_succ, Array.replicate_zero, List.push_toArray, List.append_toArray, List.nil_append, List.cons_append]
    apply wpS_seq
    refine wpS_of_wp ?_
    go_wp2
    simp only [Exit.thenS]
    apply wpS_seq
    refine wpS_of_wp ?_
    go_wp2
    simp only [Exit.thenS]
    apply wpS_seq
    refine wpS_of_wp ?_
    go_wp2
    simp only [Exit.thenS]
    apply wpS_seq
    apply wpS_region
    simp [wpOpsS, go_sem, recoverD, hu, Exit.thenS]
    refine wpS_of_wp ?_
    go_wp2
    exact ⟨rfl, _, rfl, _, results_none rfl _ _ _, rfl, hu, rfl⟩
  · rw [if_neg hn]
    have hn2 : ¬ ((n : Int) = 0) := by omega
    refine callsD_of_wpS Tryd.func97 rfl fun c₀ cs hu => ?_
    simp only [Tryd.ntmps97, List.size_toArray, List.length_cons, List.length_nil, Nat.reduceAdd, Nat.reduceSub, Array.replicate_succ, Array.replicate_zero, List.push_toArray, List.append_toArray, List.nil_append, List.cons_append]
    apply wpS_seq
    refine wpS_of_wp ?_
    go_wp2
    simp only [Exit.thenS]
    apply wpS_seq
    refine wpS_of_wp ?_
    go_wp2
    simp only [Exit.thenS]
    apply wpS_seq
    refine wpS_of_wp ?_
    go_wp2
    simp only [Exit.thenS]
    apply wpS_seq
    apply wpS_region
    simp [wpOpsS, go_sem, recoverD, hu, Exit.thenS]
    refine wpS_of_wp ?_
    go_wp2
    exact ⟨rfl, _, rfl, _, results_none rfl _ _ _, rfl, hu, rfl⟩
/-- what a reading by f comes to: the new blocks of Read (from H on) are as they were, but for the input; f came back, or threw -/
structure Does (H : Nat) (A : List (BitVec 8) → World → Prop) (B : World → Prop) (w1 : World) (e : Ending) (w2 : World) : Prop where
  size : w1.heap.size ≤ w2.heap.size
  kept : ∀ k, H ≤ k → k < H + 4 → k ≠ H + 1 → w2.heap[k]? = w1.heap[k]?
  way : (e = .returned (.tuple #[]) ∧ ∃ v2 l2, Rd w2 (H + 3) (H + 1) v2 l2 ∧ A l2 w2) ∨ (e = thrown (H + 1) ∧ (∃ v ad n c, v = .slice ad n c ∧ Blk w2 (H + 1) [v, .bool true, .bool true] 120) ∧ B w2)
/-- the world w' is w but for the blocks from H to H + 3 -/
structure Past (H : Nat) (w w' : World) : Prop where
  os : w'.os = w.os
  tape : w'.tape = w.tape
  output : w'.output = w.output
  size : w'.heap.size = w.heap.size
  block : ∀ k, k < H ∨ H + 4 ≤ k → w'.heap[k]? = w.heap[k]?
theorem Past.refl (H : Nat) (w : World) : Past H w w := ⟨rfl, rfl, rfl, rfl, fun _ _ => rfl⟩
theorem Past.setCell {H : Nat} {w w' : World} (h : Past H w w') (a : Addr) (ha : H ≤ a.block ∧ a.block < H + 4) (v : Value) : Past H w (w'.setCell a v) :=
  ⟨h.os, h.tape, h.output, by have := h.size; simp [World.setCell]; omega, fun k hk => (Below.heap_setCell _ _ _ _ (by omega)).trans (h.block k hk)⟩
set_option maxRecDepth 100000 in
set_option maxHeartbeats 1000000 in
theorem read_any (F : Nat) (caps : Array Value) (vb : Value) (l : List (BitVec 8)) (A : List (BitVec 8) → World → Prop) (B : World → Prop) (w : World) (hb : Reads w vb l) (hen : ∀ xs w, (callFunc F xs).run Tryd.prog w = .ok (.enter F xs) w)
    (hf : ∀ w1, w1.heap.size = w.heap.size + 4 → Below w.heap.size w w1 → Rd w1 (w.heap.size + 3) (w.heap.size + 1) vb l → Calls Tryd.prog F (#[.pointer (some ⟨w.heap.size + 3, 0, none⟩)] ++ caps) w1 (Does w.heap.size A B w1)) :
    Calls Tryd.prog 79 #[vb, .func (.func F) #[] caps] w fun e w' => ∃ w2, Past w.heap.size w2 w' ∧ ((∃ l2, A l2 w2 ∧ e = .returned (.int .i64 (if l2 = [] then 0 else 3))) ∨ (B w2 ∧ e = .returned (.int .i64 3))) := by
  have hmf : ∀ (fn : Fn) (first cap : Array Value) (w : World), (Instr.makeFunc fn first cap).run Tryd.prog w = .ok (.func fn first cap) w := fun _ _ _ _ => rfl
  have HF : Hid (∀ w1, w1.heap.size = w.heap.size + 4 → Below w.heap.size w w1 → Rd w1 (w.heap.size + 3) (w.heap.size + 1) vb l → Calls Tryd.prog F (#[.pointer (some ⟨w.heap.size + 3, 0, none⟩)] ++ caps) w1 (Does w.heap.size A B w1)) := hf
  have HB : Hid (Reads w vb l) := hb
  obtain ⟨ad, cap, rfl, _, _, _⟩ := id hb
  obtain ⟨n, HN⟩ : ∃ n, Hid (n = l.length) := ⟨_, rfl⟩
  rw [← HN.out] at HF HB ⊢
  have HE : Hid (∀ xs w, (callFunc F xs).run Tryd.prog w = .ok (.enter F xs) w) := hen
  clear hb hf hen
  have hB1 : Below w.heap.size w ((((w.alloc (.cells #[.int .i64 0] 35)).alloc (.cells #[.slice ad n cap, .bool true, .bool false] 120)).alloc (.cells #[.pointer (some ⟨w.heap.size + 1, 0, none⟩)] 118)).alloc (.cells #[.pointer (some ⟨w.heap.size + 1, 0, none⟩)] 122)) :=
    ((((Below.refl _ _).alloc (Nat.le_refl _) _).alloc (by simp) _).alloc (by simp; omega) _).alloc (by simp; omega) _
  have g0 : Blk ((((w.alloc (.cells #[.int .i64 0] 35)).alloc (.cells #[.slice ad n cap, .bool true, .bool false] 120)).alloc (.cells #[.pointer (some ⟨w.heap.size + 1, 0, none⟩)] 118)).alloc (.cells #[.pointer (some ⟨w.heap.size + 1, 0, none⟩)] 122)) w.heap.size [.int .i64 0] 35 := (((Blk.new w [.int .i64 0] 35).alloc _).alloc _).alloc _
  have g1 : Blk ((((w.alloc (.cells #[.int .i64 0] 35)).alloc (.cells #[.slice ad n cap, .bool true, .bool false] 120)).alloc (.cells #[.pointer (some ⟨w.heap.size + 1, 0, none⟩)] 118)).alloc (.cells #[.pointer (some ⟨w.heap.size + 1, 0, none⟩)] 122)) (w.heap.size + 1) [.slice ad n cap, .bool true, .bool false] 120 := ((Blk.new_at (w := w.alloc (.cells #[.int .i64 0] 35)) (by simp) [.slice ad n cap, .bool true, .bool false] 120).alloc _).alloc _
  have g2 : Blk ((((w.alloc (.cells #[.int .i64 0] 35)).alloc (.cells #[.slice ad n cap, .bool true, .bool false] 120)).alloc (.cells #[.pointer (some ⟨w.heap.size + 1, 0, none⟩)] 118)).alloc (.cells #[.pointer (some ⟨w.heap.size + 1, 0, none⟩)] 122)) (w.heap.size + 2) [.pointer (some ⟨w.heap.size + 1, 0, none⟩)] 118 := (Blk.new_at (w := (w.alloc (.cells #[.int .i64 0] 35)).alloc (.cells #[.slice ad n cap, .bool true, .bool false] 120)) (by simp) [.pointer (some ⟨w.heap.size + 1, 0, none⟩)] 118).alloc _
  have g3 : Blk ((((w.alloc (.cells #[.int .i64 0] 35)).alloc (.cells #[.slice ad n cap, .bool true, .bool false] 120)).alloc (.cells #[.pointer (some ⟨w.heap.size + 1, 0, none⟩)] 118)).alloc (.cells #[.pointer (some ⟨w.heap.size + 1, 0, none⟩)] 122)) (w.heap.size + 3) [.pointer (some ⟨w.heap.size + 1, 0, none⟩)] 122 := Blk.new_at (w := ((w.alloc (.cells #[.int .i64 0] 35)).alloc (.cells #[.slice ad n cap, .bool true, .bool false] 120)).alloc (.cells #[.pointer (some ⟨w.heap.size + 1, 0, none⟩)] 118)) (by simp) [.pointer (some ⟨w.heap.size + 1, 0, none⟩)] 122
  have hrd := HF.out _ (by simp) hB1 ⟨g3, g1, HB.out.below hB1⟩
  have HC : Hid (Calls Tryd.prog F (#[.pointer (some ⟨w.heap.size + 3, 0, none⟩)] ++ caps) ((((w.alloc (.cells #[.int .i64 0] 35)).alloc (.cells #[.slice ad n cap, .bool true, .bool false] 120)).alloc (.cells #[.pointer (some ⟨w.heap.size + 1, 0, none⟩)] 118)).alloc (.cells #[.pointer (some ⟨w.heap.size + 1, 0, none⟩)] 122)) (fun e w2 => Does w.heap.size A B ((((w.alloc (.cells #[.int .i64 0] 35)).alloc (.cells #[.slice ad n cap, .bool true, .bool false] 120)).alloc (.cells #[.pointer (some ⟨w.heap.size + 1, 0, none⟩)] 118)).alloc (.cells #[.pointer (some ⟨w.heap.size + 1, 0, none⟩)] 122)) e w2)) := hrd
  have HG0 : Hid (Blk _ w.heap.size [.int .i64 0] 35) := g0
  have HG2 : Hid (Blk _ (w.heap.size + 2) [.pointer (some ⟨w.heap.size + 1, 0, none⟩)] 118) := g2
  clear hrd g0 g1 g2 g3 hB1 HF
  go_enter_defers Tryd.func79, Tryd.ntmps79
  go_wp2_with fail
  rw [HE.out, Oper.upon_enter]
  generalize World.alloc _ (.cells #[.pointer (some ⟨w.heap.size + 1, 0, none⟩)] 122) = w1 at *
  refine Calls.mono HC.out ?_
  intro e w2 hD
  have e0 : Blk w2 w.heap.size [.int .i64 0] 35 := by
    have := HG0.out; unfold Blk at this ⊢; rw [hD.kept _ (by omega) (by omega) (by omega)]; exact this
  have e2 : Blk w2 (w.heap.size + 2) [.pointer (some ⟨w.heap.size + 1, 0, none⟩)] 118 := by
    have := HG2.out; unfold Blk at this ⊢; rw [hD.kept _ (by omega) (by omega) (by omega)]; exact this
  rcases hD.way with ⟨rfl, v2, l2, hrd2, hA⟩ | ⟨rfl, ⟨v, ad2, n2, c2, hv2, hbad⟩, hBB⟩
  · have ce : w2.cell? ⟨w.heap.size, 0, none⟩ = some (.int .i64 0) := e0.cell 0
    have fe : w2.frozen? ⟨w.heap.size, 0, none⟩ = false := e0.frozen 0
    obtain ⟨ad2, c2, hv2⟩ := hrd2.slice
    have HB2 : Hid (Blk w2 (w.heap.size + 1) [v2, .bool true, .bool false] 120) := hrd2.inp
    have HE2 : Hid (Blk w2 (w.heap.size + 2) [.pointer (some ⟨w.heap.size + 1, 0, none⟩)] 118) := e2
    have HE0 : Hid (Blk w2 w.heap.size [.int .i64 0] 35) := e0
    have HV2 : Hid (v2 = .slice ad2 l2.length c2) := hv2
    have HAA : Hid (A l2 w2) := hA
    clear hrd2 e0 e2 hv2 hD hA HC HG0 HG2
    go_wp2
    refine leaves_cons (f := 97) (args := #[.pointer (some ⟨w.heap.size + 2, 0, none⟩), .pointer (some ⟨w.heap.size, 0, none⟩)]) (by simp) (by simp [go_sem]) ?_
    refine (catch_idle (w.heap.size + 2) w.heap.size (w.heap.size + 1) v2 0 _ ad2 l2.length c2 HV2.out (HE2.out.other _ _ (by simp)) (HB2.out.other _ _ (by simp)) (by simpa using HE0.out.set 0 (.int .i64 0))).mono ?_
    rintro e u' w'' ⟨rfl, rfl, hw⟩
    obtain ⟨hc, hP⟩ : w''.cell? ⟨w.heap.size, 0, none⟩ = some (.int .i64 (if l2 = [] then 0 else 3)) ∧ Past w.heap.size w2 w'' := by
      have h1 : Past w.heap.size w2 ((w2.setCell ⟨w.heap.size, 0, none⟩ (.int .i64 0)).setCells (w.heap.size + 1) 0 [.slice none 0 0, .bool false, .bool false]) := ((((Past.refl _ _).setCell _ (by simp) _).setCell _ (by simp) _).setCell _ (by simp) _).setCell _ (by simp) _
      have hE : Blk ((w2.setCell ⟨w.heap.size, 0, none⟩ (.int .i64 0)).setCells (w.heap.size + 1) 0 [.slice none 0 0, .bool false, .bool false]) w.heap.size [.int .i64 0] 35 := Blk.others _ _ _ _ (by simpa using HE0.out.set 0 (.int .i64 0)) (by omega)
      by_cases h0 : l2 = []
      · subst h0
        rw [if_pos (by rfl)] at hw
        rw [if_pos rfl]
        subst hw
        exact ⟨by rw [((hE.set 0 (.int .i64 3)).set 0 (.int .i64 0)).cell]; rfl, (h1.setCell _ (by simp) _).setCell _ (by simp) _⟩
      · rw [if_neg (by simpa using h0)] at hw
        rw [if_neg h0]
        subst hw
        exact ⟨by rw [(hE.set 0 (.int .i64 3)).cell]; rfl, h1.setCell _ (by simp) _⟩
    clear hw
    have HFin : Hid (∃ w2, Past w.heap.size w2 w'' ∧ ((∃ l2', A l2' w2 ∧ Ending.returned (.int .i64 (if l2 = [] then 0 else 3)) = Ending.returned (.int .i64 (if l2' = [] then 0 else 3))) ∨ (B w2 ∧ Ending.returned (.int .i64 (if l2 = [] then 0 else 3)) = .returned (.int .i64 3)))) := ⟨w2, hP, Or.inl ⟨l2, HAA.out, rfl⟩⟩
    generalize (if l2 = [] then (0 : Int) else 3) = x at hc HFin
    clear hP
    simp [Leaves, settle, results, Tryd.results79, go_sem, hc]
    simpa using HFin.out
  · have HE2 : Hid (Blk w2 (w.heap.size + 2) [.pointer (some ⟨w.heap.size + 1, 0, none⟩)] 118) := e2
    have HE0 : Hid (Blk w2 w.heap.size [.int .i64 0] 35) := e0
    clear e0 e2 hD HC HG0 HG2
    unfold thrown
    go_wp2
    refine leaves_cons (f := 97) (args := #[.pointer (some ⟨w.heap.size + 2, 0, none⟩), .pointer (some ⟨w.heap.size, 0, none⟩)]) (by simp) (by simp [go_sem]) ?_
    refine (catch_threw (w.heap.size + 2) w.heap.size (w.heap.size + 1) v 0 _ ad2 n2 c2 hv2 HE2.out hbad HE0.out).mono ?_
    rintro e u' w'' ⟨rfl, rfl, hw⟩
    obtain ⟨hc, hP⟩ : w''.cell? ⟨w.heap.size, 0, none⟩ = some (.int .i64 3) ∧ Past w.heap.size w2 w'' := by
      have h1 : Past w.heap.size w2 (w2.setCells (w.heap.size + 1) 0 [.slice none 0 0, .bool false, .bool false]) := (((Past.refl _ _).setCell _ (by simp) _).setCell _ (by simp) _).setCell _ (by simp) _
      have hE : Blk (w2.setCells (w.heap.size + 1) 0 [.slice none 0 0, .bool false, .bool false]) w.heap.size [.int .i64 0] 35 := Blk.others _ _ _ _ HE0.out (by omega)
      subst hw
      exact ⟨by rw [(hE.set 0 (.int .i64 3)).cell]; rfl, h1.setCell _ (by simp) _⟩
    clear hw
    have HFin : Hid (∃ w2, Past w.heap.size w2 w'' ∧ ((∃ l2', A l2' w2 ∧ Ending.returned (.int .i64 3) = Ending.returned (.int .i64 (if l2' = [] then 0 else 3))) ∨ (B w2 ∧ Ending.returned (.int .i64 3) = .returned (.int .i64 3)))) := ⟨w2, hP, Or.inr ⟨hBB, rfl⟩⟩
    clear hP
    simp [Leaves, settle, results, Tryd.results79, go_sem, hc]
    simpa using HFin.out
end Go.Proofs.YtableajopaappaaDoor
/- Lists of numbers and of texts that a call makes: rows, and what of them stays. -/
namespace Go.Proofs.YtableajopaappaaDoor
open Go.RowKit
set_option maxRecDepth 100000
/-- the slice v, the call's own from block base on, holds the values vs -/
def OwnV (w : World) (base : Nat) (el : TypeId) (v : Value) (vs : List Value) : Prop := w.ownsRow base el 1 v vs.length vs
theorem OwnV.nil (w : World) (base : Nat) (el : TypeId) : OwnV w base el (.slice none 0 0) [] := World.ownsRow_nil _ _ _ _
theorem OwnV.same {w w' : World} {base : Nat} {el : TypeId} {v : Value} {vs : List Value} (h : OwnV w base el v vs) (hs : ∀ k, v.ownBlock = some k → w'.heap[k]? = w.heap[k]?) : OwnV w' base el v vs := by
  obtain ⟨h1, h2⟩ := h
  refine ⟨h1, ?_⟩
  rcases h2 with h2 | ⟨g, cap, cur, rfl, hg, hh, r⟩
  · exact Or.inl h2
  · exact Or.inr ⟨g, cap, cur, rfl, hg, by rw [hs g rfl]; exact hh, r⟩
theorem OwnB.same {w w' : World} {base : Nat} {v : Value} {l : List (BitVec 8)} (h : OwnB w base v l) (hs : ∀ k, v.ownBlock = some k → w'.heap[k]? = w.heap[k]?) : OwnB w' base v l := by
  obtain ⟨h1, h2⟩ := h
  refine ⟨h1, ?_⟩
  rcases h2 with h2 | ⟨g, cap, cur, rfl, hg, hh, r⟩
  · exact Or.inl h2
  · exact Or.inr ⟨g, cap, cur, rfl, hg, by rw [hs g rfl]; exact hh, r⟩
theorem OwnB.mono {w : World} {base B : Nat} {v : Value} {l : List (BitVec 8)} (h : OwnB w base v l) (hB : B ≤ base) : OwnB w B v l := by
  obtain ⟨h1, h2⟩ := h
  refine ⟨h1, ?_⟩
  rcases h2 with h2 | ⟨g, cap, cur, rfl, hg, r⟩
  · exact Or.inl h2
  · exact Or.inr ⟨g, cap, cur, rfl, by omega, r⟩
theorem OwnV.lt {w : World} {base : Nat} {el : TypeId} {v : Value} {vs : List Value} (h : OwnV w base el v vs) : ∀ k, v.ownBlock = some k → base ≤ k ∧ k < w.heap.size := World.ownsRow.lt h
theorem OwnV.slice {w : World} {base : Nat} {el : TypeId} {v : Value} {vs : List Value} (h : OwnV w base el v vs) : ∃ ad c, v = .slice ad vs.length c ∧ vs.length ≤ c ∧ (ad = none → c = 0) ∧ (0 < vs.length → ∃ g, ad = some ⟨g, 0, none⟩ ∧ ∀ j u, vs[j]? = some u → w.cell? ⟨g, j, none⟩ = some u) := by
  obtain ⟨h1, h2⟩ := h
  rcases h2 with ⟨rfl, h0⟩ | ⟨g, cap, cur, rfl, hg, hh, hc, hm, hs, ht⟩
  · exact ⟨none, 0, by rw [h0], by omega, fun _ => rfl, fun h => by omega⟩
  · refine ⟨_, cap, rfl, hc, (fun h => by cases h), fun _ => ⟨g, rfl, fun j u hj => ?_⟩⟩
    rw [Nat.mul_one] at ht
    rw [cell_of_row w g j cur _ (0, 0) hh, ← hj, ← ht, List.getElem?_take_of_lt (by have := (List.getElem?_eq_some_iff.1 hj).1; omega)]
    simp
/-- a row of slices is no row of bytes -/
theorem OwnB.apart {w : World} {b1 b2 : Nat} {v u : Value} {l : List (BitVec 8)} {vs : List Value} {el : TypeId} (hel : el ≠ 5) (h : OwnB w b1 v l) (h2 : OwnV w b2 el u vs) : ∀ k, v.ownBlock = some k → some k ≠ u.ownBlock := by
  obtain ⟨_, h1⟩ := h
  obtain ⟨_, h3⟩ := h2
  intro k hk he
  rcases h1 with ⟨rfl, _⟩ | ⟨g, cap, cur, rfl, hg, hh, _⟩
  · simp [Value.ownBlock] at hk
  · rcases h3 with ⟨rfl, _⟩ | ⟨g2, cap2, cur2, rfl, hg2, hh2, _⟩
    · simp [Value.ownBlock] at he
    · simp only [Value.ownBlock, Option.some.injEq] at hk he
      subst hk he
      rw [hh] at hh2
      simp only [Option.some.injEq, Obj.cells.injEq] at hh2
      exact hel hh2.2.1.symm
/-- the world w' is w, below B, but for the blocks gi and gl -/
structure Fr (gi gl B : Nat) (w w' : World) : Prop where
  os : w'.os = w.os
  tape : w'.tape = w.tape
  output : w'.output = w.output
  size : w.heap.size ≤ w'.heap.size
  block : ∀ k, k < B → k ≠ gi → k ≠ gl → w'.heap[k]? = w.heap[k]?
theorem Fr.refl (gi gl B : Nat) (w : World) : Fr gi gl B w w := ⟨rfl, rfl, rfl, Nat.le_refl _, fun _ _ _ _ => rfl⟩
theorem Fr.trans {gi gl B : Nat} {a b c : World} (h : Fr gi gl B a b) (k : Fr gi gl B b c) : Fr gi gl B a c :=
  ⟨k.os.trans h.os, k.tape.trans h.tape, k.output.trans h.output, Nat.le_trans h.size k.size, fun i h1 h2 h3 => (k.block i h1 h2 h3).trans (h.block i h1 h2 h3)⟩
theorem Fr.drew {gi gl B : Nat} {a b : World} (h : Fr gi gl B a b) : Fr gi gl B a b.drew := ⟨h.os, h.tape, h.output, h.size, h.block⟩
theorem Fr.only {gi gl B : Nat} {a b c : World} (h : Fr gi gl B a b) (k : Only gi b c) (hB : B ≤ b.heap.size) : Fr gi gl B a c :=
  h.trans ⟨k.os, k.tape, k.output, k.size, fun i h1 h2 _ => k.block i h2 (by omega)⟩
theorem Fr.below {gi gl B : Nat} {a b c : World} (h : Fr gi gl B a b) (k : Below B b c) : Fr gi gl B a c :=
  h.trans ⟨k.os, k.tape, k.output, k.size, fun i h1 _ _ => k.block i h1⟩
theorem Fr.setCell {gi gl B : Nat} {a b : World} (h : Fr gi gl B a b) (o : Nat) (v : Value) : Fr gi gl B a (b.setCell ⟨gl, o, none⟩ v) :=
  h.trans ⟨rfl, rfl, rfl, by simp [World.setCell], fun k _ _ h3 => Below.heap_setCell _ _ _ _ h3⟩
theorem wpAny_law {P : Program} {md : Region.Mode} {ops : Array Oper} {Q : Exit → Act → World → Prop} {fuel : Nat} {listed : Array Bool} {a : Act} {w : World} (i : Nat) {oi : Oper}
    (hr : Region.ready md ops listed = [i]) (hi : ops[i]? = some oi) (hw : Region.wanted oi (yielded ops a.tmps) = true)
    (h : Oper.wp P oi a w (wpAny P md ops Q fuel (listed.setIfInBounds i true)) Q) : wpAny P md ops Q (fuel + 1) listed a w := by
  refine wpAny_all hr (by simp) (fun j hj => ?_)
  obtain rfl : j = i := by simpa using hj
  unfold wpOp
  rw [hi]
  simp only [hw, if_true]
  left
  exact h
theorem wpOp_enP {P : Program} {ops : Array Oper} {Q : Exit → Act → World → Prop} {K : Act → World → Prop} {a : Act} {w : World} (i : Nat) {oi : Oper} {f : FuncId} {args : Array Value} {R : Ending → World → Prop} (hi : ops[i]? = some oi) (hw : Region.wanted oi (yielded ops a.tmps) = true)
    (he : (execOp a.eval oi).run P w = .ok (.enter f args) w) (hc : Calls P f args w R) (h : ∀ e w', R e w' → (∃ v, e = .returned v ∧ K (a.put oi.dst v) w') ∨ (∃ ch, e = .panicked ch ∧ Q (.panic ch) a w')) : wpOp P ops Q i K a w := by
  unfold wpOp
  rw [hi]
  simp only [hw, if_true]
  left
  unfold Oper.wp
  rw [he, Oper.upon_enter]
  refine hc.mono ?_
  intro e w' hR
  rcases h e w' hR with ⟨v, rfl, hv⟩ | ⟨ch, rfl, hv⟩
  · exact hv
  · exact hv
theorem Tryd.infobs : (Tryd.prog.info? 28).map (fun i => (i.zero, i.size, i.bytes)) = some (some (.slice none 0 0), 1, 24) := by kernel_rfl
/-- one text more -/
theorem wp_appendT {o : Oper} {a : Act} {w : World} {K : Act → World → Prop} {Q : Exit → Act → World → Prop} (s x : Operand) (ho : o.op = .call { callee := .builtin .append, args := #[s, x], argTypes := #[64, 64] }) (base : Nat) (v u : Value) (vs : List Value) (g : Nat)
    (hs : a.eval s = v) (hown : OwnV w base 28 v vs) (hx : a.eval x = .slice (some ⟨g, 0, none⟩) 1 1) (hu : w.cell? ⟨g, 0, none⟩ = some u) (h1 : u.oneCell' = true) (hl : vs.length < 1000000) (hbase : base ≤ w.heap.size)
    (h : ∀ v' w', OwnV w' base 28 v' (vs ++ [u]) → w.grownBy w' v.ownBlock → K (a.put o.dst v') w') : o.wp Tryd.prog a w K Q := by
  obtain ⟨i0, hi, hz0, hz1, hz2⟩ := info_parts Tryd.infobs
  refine wp_append_own w s x 64 ho base 28 i0 (.slice none 0 0) 1 24 Tryd.underlying64 hi hz0 hz1 hz2 rfl (by decide) v vs.length vs hs hown ⟨g, 0, none⟩ 1 1 [u] hx rfl ?_ ?_ (by unfold maxLen; omega) (by omega) hbase ?_
  · intro j u' hj
    match j, hj with
    | 0, hj => simp at hj; subst hj; simpa [Addr.add] using hu
  · intro u' hu'; simp at hu'; subst hu'; exact h1
  · intro v' w' h2 h3 _
    exact h v' w' (by unfold OwnV; rw [List.length_append]; exact h2) h3
/-- the values are the numbers -/
def GoodN (_w : World) (_base : Nat) (vs : List Value) (ns : List Nat) : Prop := vs = ns.map fun n : Nat => Value.int .u64 (n : Int)
/-- the values are slices of the texts -/
def GoodT (w : World) (base : Nat) (vs : List Value) (ls : List (List (BitVec 8))) : Prop := vs.length = ls.length ∧ ∀ j u, vs[j]? = some u → OwnB w base u (ls.getD j [])
def readMany {α : Type} (g : List (BitVec 8) → Option (α × List (BitVec 8))) (l : List (BitVec 8)) : Option (List α × List (BitVec 8)) :=
  match readCount 4096 l with
  | none => none
  | some (n, r) => readAll g n r
theorem readAll_more {α : Type} (g : List (BitVec 8) → Option (α × List (BitVec 8))) (k : Nat) (b r : List (BitVec 8)) (a : α) (m : Nat) (xs : List α) (B : List (BitVec 8)) (h : readAll g m B = (readAll g (k + 1) b).map (fun p => (xs ++ p.1, p.2))) (hg : g b = some (a, r)) :
    readAll g m B = (readAll g k r).map (fun p => ((xs ++ [a]) ++ p.1, p.2)) := by
  rw [h, readAll, hg]
  simp only
  cases readAll g k r with
  | none => rfl
  | some p => simp
end Go.Proofs.YtableajopaappaaDoor
/- What of a reader stays where a variable of slices is stored to; blocks behind an append. -/
namespace Go.Proofs.YtableajopaappaaDoor
open Go.RowKit
set_option maxRecDepth 100000
theorem Reads.setOther {w : World} {gl : Nat} {v u : Value} {t : TypeId} {l : List (BitVec 8)} (h : Reads w v l) (hb : Blk w gl [u] t) (hu : ∃ ad n c, u = .slice ad n c) (x : Value) : Reads (w.setCell ⟨gl, 0, none⟩ x) v l := by
  obtain ⟨ad, cap, rfl, hc, hn, hx⟩ := h
  refine ⟨ad, cap, rfl, hc, hn, fun hp => ?_⟩
  obtain ⟨b, off, h1, h2⟩ := hx hp
  refine ⟨b, off, h1, fun j hj => ?_⟩
  have hne : b ≠ gl := by
    intro he
    subst he
    have h0 := h2 0 hp
    rw [hb.cell] at h0
    obtain ⟨ad', n', c', rfl⟩ := hu
    match off, h0 with
    | 0, h0 => simp at h0
    | k + 1, h0 => simp at h0
  rw [World.cell?_of_block (w := w) (Below.heap_setCell _ _ _ _ (by exact hne))]
  exact h2 j hj
theorem Rd.setOther {w : World} {gr gi gl : Nat} {v u : Value} {t : TypeId} {l : List (BitVec 8)} (h : Rd w gr gi v l) (hb : Blk w gl [u] t) (hu : ∃ ad n c, u = .slice ad n c) (h1 : gr ≠ gl) (h2 : gi ≠ gl) (x : Value) : Rd (w.setCell ⟨gl, 0, none⟩ x) gr gi v l :=
  ⟨h.rd.other _ _ (by exact h1), h.inp.other _ _ (by exact h2), h.byt.setOther hb hu x⟩
theorem Blk.grown4 {w w' : World} {g : Nat} {cs : List Value} {t : TypeId} {row : Option Nat} (h : Blk w g cs t) (hg : w.grownBy w' row) (hne : some g ≠ row) : Blk w' g cs t := by
  have := h.lt
  unfold Blk at *
  rw [hg.block g this hne]; exact h
theorem wpAny_skip {P : Program} {md : Region.Mode} {ops : Array Oper} {Q : Exit → Act → World → Prop} {fuel : Nat} {listed : Array Bool} {a : Act} {w : World} (i : Nat) {oi : Oper} (w' : World)
    (hr : Region.ready md ops listed = [i]) (hi : ops[i]? = some oi) (hw : Region.wanted oi (yielded ops a.tmps) = true) (he : (execOp a.eval oi).run P w = .ok .skip w')
    (h : wpAny P md ops Q fuel (listed.setIfInBounds i true) (a.put oi.dst undef) w') : wpAny P md ops Q (fuel + 1) listed a w := by
  refine wpAny_law i hr hi hw ?_
  unfold Oper.wp
  rw [he]
  exact h
end Go.Proofs.YtableajopaappaaDoor
/- The walks of codec.readList at numbers, of what it hands to Read, and of codec.ReadNums. -/
namespace Go.Proofs.YtableajopaappaaDoor
open Go.RowKit
set_option maxRecDepth 100000
end Go.Proofs.YtableajopaappaaDoor
/- The walks of codec.readList at texts, of what it hands to Read, and of codec.ReadTexts. -/
namespace Go.Proofs.YtableajopaappaaDoor
open Go.RowKit
set_option maxRecDepth 100000
/-- the variable at gl holds the list -/
def LsT (w : World) (gl B : Nat) (xs : List (List (BitVec 8))) : Prop := ∃ vl vs, Blk w gl [vl] 64 ∧ OwnV w B 28 vl vs ∧ GoodT w B vs xs
structure RlInvT (H gl : Nat) (vb : Value) (w1 : World) (n : Nat) (r : List (BitVec 8)) (k : Nat) (xs : List (List (BitVec 8))) (rest : List (BitVec 8)) (wr : World) : Prop where
  le : k ≤ n
  len : xs.length = k
  eq : readAll readText n r = (readAll readText (n - k) rest).map (fun p => (xs ++ p.1, p.2))
  rdr : ∃ v, Rd wr (H + 3) (H + 1) v rest ∧ v.ownBlock = vb.ownBlock
  row : LsT wr gl (H + 4) xs
  fr : Fr (H + 1) gl (H + 4) w1 wr
theorem RlInvT.next {H gl : Nat} {vb : Value} {w1 : World} {n : Nat} {r : List (BitVec 8)} {k : Nat} {xs : List (List (BitVec 8))} {rest : List (BitVec 8)} {wr w3 : World} {vl : Value} {vs : List Value} (hI : RlInvT H gl vb w1 n r k xs rest wr) (hlt : k < n) (hgl : gl < H) (hvb : ∀ k, vb.ownBlock = some k → k < H + 4)
    (hbl : Blk w3 gl [vl] 64) (hown : OwnV w3 (H + 4) 28 vl vs) (hgood : GoodT w3 (H + 4) vs xs) (hsz : H + 4 ≤ w3.heap.size) (hfr : Fr (H + 1) gl (H + 4) w1 w3) (w4 w6 : World) (v2 u vl2 : Value) (a : List (BitVec 8)) (rest2 : List (BitVec 8)) (hg : readText rest = some (a, rest2))
    (hrd4 : Rd w4 (H + 3) (H + 1) v2 rest2) (ho4 : Only (H + 1) w3 w4) (hob4 : v2.ownBlock = vb.ownBlock) (hu : OwnB w4 (H + 4) u a) (hown6 : OwnV w6 (H + 4) 28 vl2 (vs ++ [u])) (hgrow : (w4.alloc (.cells #[u] 28)).grownBy w6 vl.ownBlock) :
    RlInvT H gl vb w1 n r (k + 1) (xs ++ [a]) rest2 (w6.setCell ⟨gl, 0, none⟩ vl2) := by
  have hrow : ∀ k, vl.ownBlock = some k → H + 4 ≤ k := fun k hk => (hown.lt k hk).1
  have hs4 : H + 4 ≤ w4.heap.size := Nat.le_trans hsz ho4.size
  have b45 : Below (H + 4) w4 (w4.alloc (.cells #[u] 28)) := (below_alloc w4 _).mono hs4
  have b56 : Below (H + 4) (w4.alloc (.cells #[u] 28)) w6 := (Below.refl _ _).grown hgrow (Nat.le_trans hs4 b45.size) hrow
  have b46 := b45.trans b56
  have hbl4 : Blk w4 gl [vl] 64 := hbl.only ho4 (by omega)
  have hbl6 : Blk w6 gl [vl] 64 := hbl4.below b46 (by omega)
  obtain ⟨adl, cl, hvl, _⟩ := hown.slice
  have hrd6 : Rd w6 (H + 3) (H + 1) v2 rest2 := hrd4.others (B := H + 4) (by omega) (by omega) (fun _ k hk => hvb k (hob4 ▸ hk)) (Nat.le_refl _) b46
  refine ⟨by omega, by rw [List.length_append, hI.len]; rfl, ?_, ⟨v2, hrd6.setOther hbl6 ⟨adl, _, cl, hvl⟩ (by omega) (by omega) vl2, hob4⟩, ⟨vl2, vs ++ [u], hbl6.set 0 vl2, hown6.same (fun k hk => Below.heap_setCell _ _ _ _ (by have := (hown6.lt k hk).1; simp; omega)), ?_⟩, ((hfr.only ho4 hsz).below b46).setCell 0 vl2⟩
  · have he := hI.eq
    rw [show n - k = (n - (k + 1)) + 1 by omega] at he
    exact readAll_more readText (n - (k + 1)) rest rest2 a n xs r he hg
  · have hown4 : OwnV w4 (H + 4) 28 vl vs := hown.same (fun k hk => ho4.block k (by have := (hown.lt k hk).1; omega) (hown.lt k hk).2)
    have up : ∀ x t, OwnB w4 (H + 4) x t → OwnB (w6.setCell ⟨gl, 0, none⟩ vl2) (H + 4) x t := fun x t hx => by
      have hne := hx.apart (by decide) hown4
      refine hx.same (fun k hk => ?_)
      have h1 := hx.own k hk
      have h2 := hx.lt k hk
      rw [Below.heap_setCell _ _ _ _ (by simp; omega), hgrow.block k (by simp; omega) (hne k hk), Go.RowKit.Below.heap_alloc w4 _ k h2]
    refine ⟨by rw [List.length_append, List.length_append, hgood.1]; rfl, fun j x hj => ?_⟩
    by_cases hjl : j < vs.length
    · rw [List.getElem?_append_left hjl] at hj
      have h1 := hgood.2 j x hj
      have h2 : (xs ++ [a]).getD j [] = xs.getD j [] := by
        rw [List.getD_eq_getElem?_getD, List.getD_eq_getElem?_getD, List.getElem?_append_left (by rw [← hgood.1]; exact hjl)]
      rw [h2]
      exact up _ _ (h1.same (fun k hk => ho4.block k (by have := h1.own k hk; omega) (h1.lt k hk)))
    · rw [List.getElem?_append_right (by omega)] at hj
      have hj0 : j = vs.length := by
        have := (List.getElem?_eq_some_iff.1 hj).1
        simp at this
        omega
      subst hj0
      simp at hj
      subst hj
      have h2 : (xs ++ [a]).getD vs.length [] = a := by
        rw [List.getD_eq_getElem?_getD, hgood.1, List.getElem?_append_right (Nat.le_refl _), Nat.sub_self]
        rfl
      rw [h2]
      exact up _ _ hu
theorem RlInvT.threw {H gl : Nat} {vb : Value} {w1 : World} {n : Nat} {r l : List (BitVec 8)} {k : Nat} {xs : List (List (BitVec 8))} {rest : List (BitVec 8)} {wr w3 w4 : World} {e : Ending} (hI : RlInvT H gl vb w1 n r k xs rest wr) (hlt : k < n) (hgl : gl < H) (hsz1 : w1.heap.size = H + 4) (hm : readMany readText l = readAll readText n r)
    (hfr : Fr (H + 1) gl (H + 4) w1 w3) (hsz : H + 4 ≤ w3.heap.size) (hg : readText rest = none) (hT : Threw (H + 1) w3 e w4) :
    Does H (fun l2 w2 => ∃ ns, readMany readText l = some (ns, l2) ∧ LsT w2 gl (H + 4) ns ∧ Fr (H + 1) gl (H + 4) w1 w2) (fun w2 => readMany readText l = none ∧ Fr (H + 1) gl (H + 4) w1 w2) w1 (thrown (H + 1)) w4 := by
  have hf4 := hfr.only hT.onl hsz
  obtain ⟨v, hb, ad, m, c, hv⟩ := hT.bad
  refine ⟨hf4.size, fun k h1 h2 h3 => hf4.block k h2 h3 (by omega), Or.inr ⟨rfl, ⟨v, ad, m, c, hv, hb⟩, ?_, hf4⟩⟩
  rw [hm, hI.eq, show n - k = (n - (k + 1)) + 1 by omega, readAll, hg]
  rfl
set_option maxRecDepth 100000 in
set_option maxHeartbeats 2000000 in
theorem rdlT1_any (H gl gf : Nat) (vb : Value) (l : List (BitVec 8)) (w1 : World) (hsz : w1.heap.size = H + 4) (hgl : gl < H) (hgf : gf < H) (hne : gf ≠ gl) (hrd : Rd w1 (H + 3) (H + 1) vb l) (hL : Blk w1 gl [.slice none 0 0] 64) (hF : Blk w1 gf [.func (.func 57) #[] #[]] 88) :
    Calls Tryd.prog 80 #[.pointer (some ⟨H + 3, 0, none⟩), .pointer (some ⟨gl, 0, none⟩), .pointer (some ⟨gf, 0, none⟩)] w1 (Does H (fun l2 w2 => ∃ ns, readMany readText l = some (ns, l2) ∧ LsT w2 gl (H + 4) ns ∧ Fr (H + 1) gl (H + 4) w1 w2) (fun w2 => readMany readText l = none ∧ Fr (H + 1) gl (H + 4) w1 w2) w1) := by
  have HR : Hid (Rd w1 (H + 3) (H + 1) vb l) := hrd
  have HL : Hid (Blk w1 gl [.slice none 0 0] 64) := hL
  have HF : Hid (Blk w1 gf [.func (.func 57) #[] #[]] 88) := hF
  have HGL : Hid (gl < H) := hgl
  have HGF : Hid (gf < H ∧ gf ≠ gl) := ⟨hgf, hne⟩
  have HSZ1 : Hid (w1.heap.size = H + 4) := hsz
  clear hrd hL hF hgl hgf hne hsz
  go_enter Tryd.func80, Tryd.ntmps80
  go_wp2_with fail
  refine (ccount_any (H + 3) (H + 1) 4096 (by omega) vb l w1 HR.out).mono ?_
  rintro e w2 (⟨n, r, va, v2, hc, rfl, rfl, hrd, ho, hob⟩ | ⟨hc, hT⟩)
  · have hn : n ≤ 4096 := by
      unfold readCount at hc
      split at hc
      · cases hc
      · split at hc
        · simp only [Option.some.injEq, Prod.mk.injEq] at hc; omega
        · cases hc
    have HM : Hid (readMany readText l = readAll readText n r) := by show _ = _; unfold readMany; rw [hc]
    have HVB : Hid (∀ k, vb.ownBlock = some k → k < H + 4) := by
      intro k hk
      have hl : 0 < l.length := by
        cases l with
        | nil => simp [readCount, readNum, decNum] at hc
        | cons x y => simp
      obtain ⟨ad, cap, rfl, _, _, hx⟩ := HR.out.byt
      obtain ⟨b, off, rfl, hy⟩ := hx hl
      simp only [Value.ownBlock, Option.some.injEq] at hk
      subst hk
      have := block_lt_of_cell (hy 0 hl)
      rw [HSZ1.out] at this
      exact this
    have hf0 : Fr (H + 1) gl (H + 4) w1 w2 := (Fr.refl _ _ _ _).only ho (by rw [HSZ1.out]; exact Nat.le_refl _)
    have hI : RlInvT H gl vb w1 n r 0 [] r w2 := ⟨by omega, rfl, by rw [Nat.sub_zero]; cases readAll readText n r <;> rfl, ⟨v2, hrd, hob⟩, ⟨_, [], HL.out.only ho (by have := HGL.out; omega), OwnV.nil _ _ _, ⟨rfl, fun j u hj => by simp at hj⟩⟩, hf0⟩
    clear hc hrd ho hob hf0 HR HL
    go_wp2
    go_loopw [6] (fun i wr => ∃ (k : Nat) (xs : List (List (BitVec 8))) (rest : List (BitVec 8)), i = .int .i64 (k : Int) ∧ RlInvT H gl vb w1 n r k xs rest wr) (fun i _ => n - (intOf i).toNat)
    case atStart => exact ⟨0, [], r, rfl, hI⟩
    case round =>
      clear hI
      obtain ⟨k, xs, rest, rfl, hI⟩ := hrel
      have HI : Hid (RlInvT H gl vb w1 n r k xs rest wr) := hI
      have hk := hI.le
      by_cases hlt : k < n
      · obtain ⟨v, hrd, hob⟩ := hI.rdr
        obtain ⟨vl, vs, hbl, hown, hgood⟩ := hI.row
        have HOB : Hid (v.ownBlock = vb.ownBlock) := hob
        have HRD3 : Hid (Rd wr.drew (H + 3) (H + 1) v rest) := ⟨hrd.rd.drew, hrd.inp.drew, hrd.byt⟩
        have HBL3 : Hid (Blk wr.drew gl [vl] 64) := hbl.drew
        have HO3 : Hid (OwnV wr.drew (H + 4) 28 vl vs) := hown
        have HGD3 : Hid (GoodT wr.drew (H + 4) vs xs) := hgood
        have HFR3 : Hid (Fr (H + 1) gl (H + 4) w1 wr.drew) := hI.fr.drew
        have HSZ : Hid (H + 4 ≤ wr.drew.heap.size) := by show _ ≤ _; have := hI.fr.size; rw [HSZ1.out] at this; exact this
        have hbf : Blk wr.drew gf [.func (.func 57) #[] #[]] 88 := by
          have h1 := HF.out
          unfold Blk at h1 ⊢
          rw [HFR3.out.block gf (by have := HGF.out.1; omega) (by have := HGF.out.1; omega) HGF.out.2]
          exact h1
        have cl3 : wr.drew.cell? ⟨gl, 0, none⟩ = some vl := HBL3.out.cell 0
        have cf3 : wr.drew.cell? ⟨gf, 0, none⟩ = some (.func (.func 57) #[] #[]) := hbf.cell 0
        obtain ⟨adl, cl, hvl, _⟩ := hown.slice
        have HVL : Hid (vs.length < 1000000) := by
          have h1 := hI.len
          have h2 : vs.length = xs.length := by exact hgood.1
          show _ < _
          omega
        obtain ⟨nl, HNL⟩ : ∃ x, Hid (x = vs.length) := ⟨_, rfl⟩
        rw [← HNL.out] at hvl
        subst hvl
        have HC := crtext_any (H + 3) (H + 1) v rest wr.drew HRD3.out
        replace HC : Hid _ := HC
        obtain ⟨vl, HVLE⟩ : ∃ x, Hid (x = Value.slice adl nl cl) := ⟨_, rfl⟩
        rw [← HVLE.out] at HBL3 HO3 cl3
        clear hrd hob hbl hown hgood hbf hI
        go_wp2_with fail
        refine wp_region_any (by kernel_rfl) ?_
        change wpAny _ _ _ _ _ _ _ (World.drew _)
        generalize wr.drew = w3 at *
        refine wpAny_take (i := 2) (v := .pointer (some ⟨H + 3, 0, none⟩)) rfl (by kernel_rfl) (by kernel_rfl) (by kernel_rfl) (fun _ _ _ h => h) (Or.inl ⟨by rfl, fun wx => by simp [go_sem]⟩) ?_
        simp only [Act.put, List.getElem_toArray, List.getElem_cons_succ, List.getElem_cons_zero, List.setIfInBounds_toArray, List.set_cons_zero, List.set_cons_succ]
        refine wpAny_pair 0 1 (by kernel_rfl) ?_ ?_
        · refine wpOp_vl 0 vl w3 (by rfl) (by rfl) (by simp [go_sem, cl3]) ?_
          simp only [Act.put, List.getElem_toArray, List.getElem_cons_zero, List.setIfInBounds_toArray, List.set_cons_zero, List.set_cons_succ]
          refine wpAny_step 1 (.func (.func 57) #[] #[]) w3 (by kernel_rfl) rfl (by rfl) (by simp [go_sem, cf3]) ?_
          simp only [Act.put, List.getElem_toArray, List.getElem_cons_succ, List.getElem_cons_zero, List.setIfInBounds_toArray, List.set_cons_zero, List.set_cons_succ]
          refine wpAny_enterP 3 (by kernel_rfl) rfl (by rfl) (f := 57) (args := #[.pointer (some ⟨H + 3, 0, none⟩)]) (by simp [go_sem]) HC.out ?_
          rintro e w4 (⟨a, rest2, va, v2, hg, rfl, hu, hrd4, ho4, hob4⟩ | ⟨hg, hT⟩)
          · refine Or.inl ⟨_, rfl, ?_⟩
            obtain ⟨u, HUE⟩ : ∃ x, Hid (x = va) := ⟨_, rfl⟩
            obtain ⟨au, cu, hvu, _, _, _⟩ := id hu.reads
            obtain ⟨nu, HNU⟩ : ∃ x, Hid (x = a.length) := ⟨_, rfl⟩
            rw [← HNU.out] at hvu
            have hue := HUE.out
            subst hvu
            subst hue
            have HU1 : Hid ((Value.slice au nu cu).oneCell' = true) := rfl
            have HGU : OwnB w4 (H + 4) (.slice au nu cu) a := hu.mono HSZ.out
            have HGL4 : Blk w4 gl [vl] 64 := HBL3.out.only ho4 (by have := HGL.out; omega)
            have c4 : w4.cell? ⟨gl, 0, none⟩ = some vl := HGL4.cell 0
            have HO4 : OwnV w4 (H + 4) 28 vl vs := HO3.out.same (fun k hk => ho4.block k (by have := (HO3.out.lt k hk).1; omega) (HO3.out.lt k hk).2)
            have hb45 := below_alloc w4 (.cells #[(Value.slice au nu cu)] 28)
            have HO5 : Hid (OwnV (w4.alloc (.cells #[(Value.slice au nu cu)] 28)) (H + 4) 28 vl vs) := HO4.same (fun k hk => hb45.block k (HO4.lt k hk).2)
            have HBL5 : Hid (Blk (w4.alloc (.cells #[(Value.slice au nu cu)] 28)) gl [vl] 64) := HGL4.alloc _
            have c5 : (w4.alloc (.cells #[(Value.slice au nu cu)] 28)).cell? ⟨gl, 0, none⟩ = some vl := HBL5.out.cell 0
            have HU5 : Hid ((w4.alloc (.cells #[(Value.slice au nu cu)] 28)).cell? ⟨w4.heap.size, 0, none⟩ = some (Value.slice au nu cu)) := (Blk.new w4 [(Value.slice au nu cu)] 28).cell 0
            have HS5 : Hid (H + 4 ≤ (w4.alloc (.cells #[(Value.slice au nu cu)] 28)).heap.size) := by have h1 := HSZ.out; have h2 := ho4.size; have h3 := hb45.size; show _ ≤ _; omega
            have HNext : Hid (∀ w6 vl2, OwnV w6 (H + 4) 28 vl2 (vs ++ [(Value.slice au nu cu)]) → (w4.alloc (.cells #[(Value.slice au nu cu)] 28)).grownBy w6 vl.ownBlock → RlInvT H gl vb w1 n r (k + 1) (xs ++ [a]) rest2 (w6.setCell ⟨gl, 0, none⟩ vl2)) := fun w6 vl2 h1 h2 => HI.out.next hlt HGL.out HVB.out HBL3.out HO3.out HGD3.out HSZ.out HFR3.out w4 w6 v2 (Value.slice au nu cu) vl2 a rest2 hg hrd4 ho4 (hob4.trans HOB.out) HGU h1 h2
            clear hrd4 ho4 hob4 HGL4 HO4 hb45 hg hu
            simp only [Act.put, List.getElem_toArray, List.getElem_cons_succ, List.getElem_cons_zero, List.setIfInBounds_toArray, List.set_cons_zero, List.set_cons_succ]
            refine wpAny_step 4 (.slice (some ⟨w4.heap.size, 0, none⟩) 1 1) (w4.alloc (.cells #[(Value.slice au nu cu)] 28)) (by kernel_rfl) rfl (by rfl) (by simp [go_sem]) ?_
            simp only [Act.put, List.getElem_toArray, List.getElem_cons_succ, List.getElem_cons_zero, List.setIfInBounds_toArray, List.set_cons_zero, List.set_cons_succ]
            refine wpAny_law 5 (by kernel_rfl) rfl (by rfl) (wp_appendT (.tmp 8) (.tmp 12) rfl (H + 4) vl (Value.slice au nu cu) vs w4.heap.size rfl HO5.out rfl HU5.out HU1.out HVL.out HS5.out ?_)
            intro vl2 w6 hown6 hgrow
            have HJ := HNext.out w6 vl2 hown6 hgrow
            have hb6 : Blk w6 gl [vl] 64 := HBL5.out.grown4 hgrow (by have := HGL.out; intro he; have := (HO5.out.lt gl he.symm).1; omega)
            have c6 : w6.cell? ⟨gl, 0, none⟩ = some vl := hb6.cell 0
            have f6 : w6.frozen? ⟨gl, 0, none⟩ = false := hb6.frozen 0
            have HJ2 : Hid (RlInvT H gl vb w1 n r (k + 1) (xs ++ [a]) rest2 (w6.setCell ⟨gl, 0, none⟩ vl2)) := HJ
            obtain ⟨ad6, cc6, hv6, _⟩ := hown6.slice
            obtain ⟨nn6, HN6⟩ : ∃ x : Nat, Hid (x = (vs ++ [(Value.slice au nu cu)]).length) := ⟨_, rfl⟩
            rw [← HN6.out] at hv6
            subst hv6
            clear hown6 hgrow hb6 HJ HNext
            simp only [Act.put, List.getElem_toArray, List.getElem_cons_succ, List.getElem_cons_zero, List.setIfInBounds_toArray, List.set_cons_zero, List.set_cons_succ]
            refine wpAny_skip 6 (w6.setCell ⟨gl, 0, none⟩ (.slice ad6 nn6 cc6)) (by kernel_rfl) rfl (by rfl) (by simp [go_sem, c6, f6]) ?_
            simp only [Act.put, List.getElem_toArray, List.getElem_cons_succ, List.getElem_cons_zero]
            refine wpAny_done (by kernel_rfl) ?_ _
            clear HO5 HU5 HBL5
            generalize w6.setCell ⟨gl, 0, none⟩ (.slice ad6 nn6 cc6) = w7 at *
            go_wp2
            go_roundw
            case rel => exact ⟨k + 1, xs ++ [a], rest2, by go_num, HJ2.out⟩
            case measure => simp [intOf]; have := hlt; omega
          · refine Or.inr ⟨_, hT.down, ?_⟩
            exact ⟨rfl, HI.out.threw hlt HGL.out HSZ1.out HM.out HFR3.out HSZ.out hg hT⟩
        · refine wpOp_vl 1 (.func (.func 57) #[] #[]) w3 (by rfl) (by rfl) (by simp [go_sem, cf3]) ?_
          simp only [Act.put, List.getElem_toArray, List.getElem_cons_succ, List.getElem_cons_zero, List.setIfInBounds_toArray, List.set_cons_zero, List.set_cons_succ]
          refine wpAny_pair 0 3 (by kernel_rfl) ?_ ?_
          · refine wpOp_vl 0 vl w3 (by rfl) (by rfl) (by simp [go_sem, cl3]) ?_
            simp only [Act.put, List.getElem_toArray, List.getElem_cons_zero, List.setIfInBounds_toArray, List.set_cons_zero, List.set_cons_succ]
            refine wpAny_enterP 3 (by kernel_rfl) rfl (by rfl) (f := 57) (args := #[.pointer (some ⟨H + 3, 0, none⟩)]) (by simp [go_sem]) HC.out ?_
            rintro e w4 (⟨a, rest2, va, v2, hg, rfl, hu, hrd4, ho4, hob4⟩ | ⟨hg, hT⟩)
            · refine Or.inl ⟨_, rfl, ?_⟩
              obtain ⟨u, HUE⟩ : ∃ x, Hid (x = va) := ⟨_, rfl⟩
              obtain ⟨au, cu, hvu, _, _, _⟩ := id hu.reads
              obtain ⟨nu, HNU⟩ : ∃ x, Hid (x = a.length) := ⟨_, rfl⟩
              rw [← HNU.out] at hvu
              have hue := HUE.out
              subst hvu
              subst hue
              have HU1 : Hid ((Value.slice au nu cu).oneCell' = true) := rfl
              have HGU : OwnB w4 (H + 4) (.slice au nu cu) a := hu.mono HSZ.out
              have HGL4 : Blk w4 gl [vl] 64 := HBL3.out.only ho4 (by have := HGL.out; omega)
              have c4 : w4.cell? ⟨gl, 0, none⟩ = some vl := HGL4.cell 0
              have HO4 : OwnV w4 (H + 4) 28 vl vs := HO3.out.same (fun k hk => ho4.block k (by have := (HO3.out.lt k hk).1; omega) (HO3.out.lt k hk).2)
              have hb45 := below_alloc w4 (.cells #[(Value.slice au nu cu)] 28)
              have HO5 : Hid (OwnV (w4.alloc (.cells #[(Value.slice au nu cu)] 28)) (H + 4) 28 vl vs) := HO4.same (fun k hk => hb45.block k (HO4.lt k hk).2)
              have HBL5 : Hid (Blk (w4.alloc (.cells #[(Value.slice au nu cu)] 28)) gl [vl] 64) := HGL4.alloc _
              have c5 : (w4.alloc (.cells #[(Value.slice au nu cu)] 28)).cell? ⟨gl, 0, none⟩ = some vl := HBL5.out.cell 0
              have HU5 : Hid ((w4.alloc (.cells #[(Value.slice au nu cu)] 28)).cell? ⟨w4.heap.size, 0, none⟩ = some (Value.slice au nu cu)) := (Blk.new w4 [(Value.slice au nu cu)] 28).cell 0
              have HS5 : Hid (H + 4 ≤ (w4.alloc (.cells #[(Value.slice au nu cu)] 28)).heap.size) := by have h1 := HSZ.out; have h2 := ho4.size; have h3 := hb45.size; show _ ≤ _; omega
              have HNext : Hid (∀ w6 vl2, OwnV w6 (H + 4) 28 vl2 (vs ++ [(Value.slice au nu cu)]) → (w4.alloc (.cells #[(Value.slice au nu cu)] 28)).grownBy w6 vl.ownBlock → RlInvT H gl vb w1 n r (k + 1) (xs ++ [a]) rest2 (w6.setCell ⟨gl, 0, none⟩ vl2)) := fun w6 vl2 h1 h2 => HI.out.next hlt HGL.out HVB.out HBL3.out HO3.out HGD3.out HSZ.out HFR3.out w4 w6 v2 (Value.slice au nu cu) vl2 a rest2 hg hrd4 ho4 (hob4.trans HOB.out) HGU h1 h2
              clear hrd4 ho4 hob4 HGL4 HO4 hb45 hg hu
              simp only [Act.put, List.getElem_toArray, List.getElem_cons_succ, List.getElem_cons_zero, List.setIfInBounds_toArray, List.set_cons_zero, List.set_cons_succ]
              refine wpAny_step 4 (.slice (some ⟨w4.heap.size, 0, none⟩) 1 1) (w4.alloc (.cells #[(Value.slice au nu cu)] 28)) (by kernel_rfl) rfl (by rfl) (by simp [go_sem]) ?_
              simp only [Act.put, List.getElem_toArray, List.getElem_cons_succ, List.getElem_cons_zero, List.setIfInBounds_toArray, List.set_cons_zero, List.set_cons_succ]
              refine wpAny_law 5 (by kernel_rfl) rfl (by rfl) (wp_appendT (.tmp 8) (.tmp 12) rfl (H + 4) vl (Value.slice au nu cu) vs w4.heap.size rfl HO5.out rfl HU5.out HU1.out HVL.out HS5.out ?_)
              intro vl2 w6 hown6 hgrow
              have HJ := HNext.out w6 vl2 hown6 hgrow
              have hb6 : Blk w6 gl [vl] 64 := HBL5.out.grown4 hgrow (by have := HGL.out; intro he; have := (HO5.out.lt gl he.symm).1; omega)
              have c6 : w6.cell? ⟨gl, 0, none⟩ = some vl := hb6.cell 0
              have f6 : w6.frozen? ⟨gl, 0, none⟩ = false := hb6.frozen 0
              have HJ2 : Hid (RlInvT H gl vb w1 n r (k + 1) (xs ++ [a]) rest2 (w6.setCell ⟨gl, 0, none⟩ vl2)) := HJ
              obtain ⟨ad6, cc6, hv6, _⟩ := hown6.slice
              obtain ⟨nn6, HN6⟩ : ∃ x : Nat, Hid (x = (vs ++ [(Value.slice au nu cu)]).length) := ⟨_, rfl⟩
              rw [← HN6.out] at hv6
              subst hv6
              clear hown6 hgrow hb6 HJ HNext
              simp only [Act.put, List.getElem_toArray, List.getElem_cons_succ, List.getElem_cons_zero, List.setIfInBounds_toArray, List.set_cons_zero, List.set_cons_succ]
              refine wpAny_skip 6 (w6.setCell ⟨gl, 0, none⟩ (.slice ad6 nn6 cc6)) (by kernel_rfl) rfl (by rfl) (by simp [go_sem, c6, f6]) ?_
              simp only [Act.put, List.getElem_toArray, List.getElem_cons_succ, List.getElem_cons_zero]
              refine wpAny_done (by kernel_rfl) ?_ _
              clear HO5 HU5 HBL5
              generalize w6.setCell ⟨gl, 0, none⟩ (.slice ad6 nn6 cc6) = w7 at *
              go_wp2
              go_roundw
              case rel => exact ⟨k + 1, xs ++ [a], rest2, by go_num, HJ2.out⟩
              case measure => simp [intOf]; have := hlt; omega
            · refine Or.inr ⟨_, hT.down, ?_⟩
              exact ⟨rfl, HI.out.threw hlt HGL.out HSZ1.out HM.out HFR3.out HSZ.out hg hT⟩
          · skip
            refine wpOp_enP 3 (by rfl) (by rfl) (f := 57) (args := #[.pointer (some ⟨H + 3, 0, none⟩)]) (by simp [go_sem]) HC.out ?_
            rintro e w4 (⟨a, rest2, va, v2, hg, rfl, hu, hrd4, ho4, hob4⟩ | ⟨hg, hT⟩)
            · refine Or.inl ⟨_, rfl, ?_⟩
              obtain ⟨u, HUE⟩ : ∃ x, Hid (x = va) := ⟨_, rfl⟩
              obtain ⟨au, cu, hvu, _, _, _⟩ := id hu.reads
              obtain ⟨nu, HNU⟩ : ∃ x, Hid (x = a.length) := ⟨_, rfl⟩
              rw [← HNU.out] at hvu
              have hue := HUE.out
              subst hvu
              subst hue
              have HU1 : Hid ((Value.slice au nu cu).oneCell' = true) := rfl
              have HGU : OwnB w4 (H + 4) (.slice au nu cu) a := hu.mono HSZ.out
              have HGL4 : Blk w4 gl [vl] 64 := HBL3.out.only ho4 (by have := HGL.out; omega)
              have c4 : w4.cell? ⟨gl, 0, none⟩ = some vl := HGL4.cell 0
              have HO4 : OwnV w4 (H + 4) 28 vl vs := HO3.out.same (fun k hk => ho4.block k (by have := (HO3.out.lt k hk).1; omega) (HO3.out.lt k hk).2)
              have hb45 := below_alloc w4 (.cells #[(Value.slice au nu cu)] 28)
              have HO5 : Hid (OwnV (w4.alloc (.cells #[(Value.slice au nu cu)] 28)) (H + 4) 28 vl vs) := HO4.same (fun k hk => hb45.block k (HO4.lt k hk).2)
              have HBL5 : Hid (Blk (w4.alloc (.cells #[(Value.slice au nu cu)] 28)) gl [vl] 64) := HGL4.alloc _
              have c5 : (w4.alloc (.cells #[(Value.slice au nu cu)] 28)).cell? ⟨gl, 0, none⟩ = some vl := HBL5.out.cell 0
              have HU5 : Hid ((w4.alloc (.cells #[(Value.slice au nu cu)] 28)).cell? ⟨w4.heap.size, 0, none⟩ = some (Value.slice au nu cu)) := (Blk.new w4 [(Value.slice au nu cu)] 28).cell 0
              have HS5 : Hid (H + 4 ≤ (w4.alloc (.cells #[(Value.slice au nu cu)] 28)).heap.size) := by have h1 := HSZ.out; have h2 := ho4.size; have h3 := hb45.size; show _ ≤ _; omega
              have HNext : Hid (∀ w6 vl2, OwnV w6 (H + 4) 28 vl2 (vs ++ [(Value.slice au nu cu)]) → (w4.alloc (.cells #[(Value.slice au nu cu)] 28)).grownBy w6 vl.ownBlock → RlInvT H gl vb w1 n r (k + 1) (xs ++ [a]) rest2 (w6.setCell ⟨gl, 0, none⟩ vl2)) := fun w6 vl2 h1 h2 => HI.out.next hlt HGL.out HVB.out HBL3.out HO3.out HGD3.out HSZ.out HFR3.out w4 w6 v2 (Value.slice au nu cu) vl2 a rest2 hg hrd4 ho4 (hob4.trans HOB.out) HGU h1 h2
              clear hrd4 ho4 hob4 HGL4 HO4 hb45 hg hu
              simp only [Act.put, List.getElem_toArray, List.getElem_cons_succ, List.getElem_cons_zero, List.setIfInBounds_toArray, List.set_cons_zero, List.set_cons_succ]
              refine wpAny_pair 0 4 (by kernel_rfl) ?_ ?_
              · refine wpOp_vl 0 vl w4 (by rfl) (by rfl) (by simp [go_sem, c4]) ?_
                simp only [Act.put, List.getElem_toArray, List.getElem_cons_zero, List.setIfInBounds_toArray, List.set_cons_zero, List.set_cons_succ]
                refine wpAny_step 4 (.slice (some ⟨w4.heap.size, 0, none⟩) 1 1) (w4.alloc (.cells #[(Value.slice au nu cu)] 28)) (by kernel_rfl) rfl (by rfl) (by simp [go_sem]) ?_
                simp only [Act.put, List.getElem_toArray, List.getElem_cons_succ, List.getElem_cons_zero, List.setIfInBounds_toArray, List.set_cons_zero, List.set_cons_succ]
                refine wpAny_law 5 (by kernel_rfl) rfl (by rfl) (wp_appendT (.tmp 8) (.tmp 12) rfl (H + 4) vl (Value.slice au nu cu) vs w4.heap.size rfl HO5.out rfl HU5.out HU1.out HVL.out HS5.out ?_)
                intro vl2 w6 hown6 hgrow
                have HJ := HNext.out w6 vl2 hown6 hgrow
                have hb6 : Blk w6 gl [vl] 64 := HBL5.out.grown4 hgrow (by have := HGL.out; intro he; have := (HO5.out.lt gl he.symm).1; omega)
                have c6 : w6.cell? ⟨gl, 0, none⟩ = some vl := hb6.cell 0
                have f6 : w6.frozen? ⟨gl, 0, none⟩ = false := hb6.frozen 0
                have HJ2 : Hid (RlInvT H gl vb w1 n r (k + 1) (xs ++ [a]) rest2 (w6.setCell ⟨gl, 0, none⟩ vl2)) := HJ
                obtain ⟨ad6, cc6, hv6, _⟩ := hown6.slice
                obtain ⟨nn6, HN6⟩ : ∃ x : Nat, Hid (x = (vs ++ [(Value.slice au nu cu)]).length) := ⟨_, rfl⟩
                rw [← HN6.out] at hv6
                subst hv6
                clear hown6 hgrow hb6 HJ HNext
                simp only [Act.put, List.getElem_toArray, List.getElem_cons_succ, List.getElem_cons_zero, List.setIfInBounds_toArray, List.set_cons_zero, List.set_cons_succ]
                refine wpAny_skip 6 (w6.setCell ⟨gl, 0, none⟩ (.slice ad6 nn6 cc6)) (by kernel_rfl) rfl (by rfl) (by simp [go_sem, c6, f6]) ?_
                simp only [Act.put, List.getElem_toArray, List.getElem_cons_succ, List.getElem_cons_zero]
                refine wpAny_done (by kernel_rfl) ?_ _
                clear HO5 HU5 HBL5
                generalize w6.setCell ⟨gl, 0, none⟩ (.slice ad6 nn6 cc6) = w7 at *
                go_wp2
                go_roundw
                case rel => exact ⟨k + 1, xs ++ [a], rest2, by go_num, HJ2.out⟩
                case measure => simp [intOf]; have := hlt; omega
              · refine wpOp_vl 4 (.slice (some ⟨w4.heap.size, 0, none⟩) 1 1) (w4.alloc (.cells #[(Value.slice au nu cu)] 28)) (by rfl) (by rfl) (by simp [go_sem]) ?_
                simp only [Act.put, List.getElem_toArray, List.getElem_cons_succ, List.getElem_cons_zero, List.setIfInBounds_toArray, List.set_cons_zero, List.set_cons_succ]
                refine wpAny_step 0 vl (w4.alloc (.cells #[(Value.slice au nu cu)] 28)) (by kernel_rfl) rfl (by rfl) (by simp [go_sem, c5]) ?_
                simp only [Act.put, List.getElem_toArray, List.getElem_cons_zero, List.setIfInBounds_toArray, List.set_cons_zero, List.set_cons_succ]
                refine wpAny_law 5 (by kernel_rfl) rfl (by rfl) (wp_appendT (.tmp 8) (.tmp 12) rfl (H + 4) vl (Value.slice au nu cu) vs w4.heap.size rfl HO5.out rfl HU5.out HU1.out HVL.out HS5.out ?_)
                intro vl2 w6 hown6 hgrow
                have HJ := HNext.out w6 vl2 hown6 hgrow
                have hb6 : Blk w6 gl [vl] 64 := HBL5.out.grown4 hgrow (by have := HGL.out; intro he; have := (HO5.out.lt gl he.symm).1; omega)
                have c6 : w6.cell? ⟨gl, 0, none⟩ = some vl := hb6.cell 0
                have f6 : w6.frozen? ⟨gl, 0, none⟩ = false := hb6.frozen 0
                have HJ2 : Hid (RlInvT H gl vb w1 n r (k + 1) (xs ++ [a]) rest2 (w6.setCell ⟨gl, 0, none⟩ vl2)) := HJ
                obtain ⟨ad6, cc6, hv6, _⟩ := hown6.slice
                obtain ⟨nn6, HN6⟩ : ∃ x : Nat, Hid (x = (vs ++ [(Value.slice au nu cu)]).length) := ⟨_, rfl⟩
                rw [← HN6.out] at hv6
                subst hv6
                clear hown6 hgrow hb6 HJ HNext
                simp only [Act.put, List.getElem_toArray, List.getElem_cons_succ, List.getElem_cons_zero, List.setIfInBounds_toArray, List.set_cons_zero, List.set_cons_succ]
                refine wpAny_skip 6 (w6.setCell ⟨gl, 0, none⟩ (.slice ad6 nn6 cc6)) (by kernel_rfl) rfl (by rfl) (by simp [go_sem, c6, f6]) ?_
                simp only [Act.put, List.getElem_toArray, List.getElem_cons_succ, List.getElem_cons_zero]
                refine wpAny_done (by kernel_rfl) ?_ _
                clear HO5 HU5 HBL5
                generalize w6.setCell ⟨gl, 0, none⟩ (.slice ad6 nn6 cc6) = w7 at *
                go_wp2
                go_roundw
                case rel => exact ⟨k + 1, xs ++ [a], rest2, by go_num, HJ2.out⟩
                case measure => simp [intOf]; have := hlt; omega
            · refine Or.inr ⟨_, hT.down, ?_⟩
              exact ⟨rfl, HI.out.threw hlt HGL.out HSZ1.out HM.out HFR3.out HSZ.out hg hT⟩
      · have hkn : k = n := by omega
        subst hkn
        have HD : Hid (Does H (fun l2 w2 => ∃ ns, readMany readText l = some (ns, l2) ∧ LsT w2 gl (H + 4) ns ∧ Fr (H + 1) gl (H + 4) w1 w2) (fun w2 => readMany readText l = none ∧ Fr (H + 1) gl (H + 4) w1 w2) w1 (.returned (.tuple #[])) wr) := by
          obtain ⟨v, hrd, hob⟩ := hI.rdr
          refine ⟨hI.fr.size, fun k h1 h2 h3 => hI.fr.block k h2 h3 (by have := HGL.out; omega), Or.inl ⟨rfl, v, rest, hrd, xs, ?_, hI.row, hI.fr⟩⟩
          rw [HM.out, hI.eq, Nat.sub_self]
          simp [readAll]
        clear hI HI
        go_wp2
        go_end0
        exact HD.out
  · have HD : Hid (Does H (fun l2 w2 => ∃ ns, readMany readText l = some (ns, l2) ∧ LsT w2 gl (H + 4) ns ∧ Fr (H + 1) gl (H + 4) w1 w2) (fun w2 => readMany readText l = none ∧ Fr (H + 1) gl (H + 4) w1 w2) w1 (thrown (H + 1)) w2) := by
      have hf4 : Fr (H + 1) gl (H + 4) w1 w2 := (Fr.refl _ _ _ _).only hT.onl (by rw [HSZ1.out]; exact Nat.le_refl _)
      obtain ⟨v, hb, ad, m, c, hv⟩ := hT.bad
      refine ⟨hf4.size, fun k h1 h2 h3 => hf4.block k h2 h3 (by have := HGL.out; omega), Or.inr ⟨rfl, ⟨v, ad, m, c, hv, hb⟩, ?_, hf4⟩⟩
      unfold readMany; rw [hc]
    obtain rfl := hT.eq
    unfold thrown at HD ⊢
    clear hT hc
    go_wp2
    exact ⟨rfl, HD.out⟩
end Go.Proofs.YtableajopaappaaDoor
/- The walks of codec.readList, ReadNums and ReadTexts. -/
namespace Go.Proofs.YtableajopaappaaDoor
open Go.RowKit
set_option maxRecDepth 100000
theorem Does.mono {H : Nat} {A A' : List (BitVec 8) → World → Prop} {B B' : World → Prop} {w1 w2 : World} {e : Ending} (h : Does H A B w1 e w2) (hA : ∀ l, A l w2 → A' l w2) (hB : B w2 → B' w2) : Does H A' B' w1 e w2 := by
  refine ⟨h.size, h.kept, ?_⟩
  rcases h.way with ⟨h1, v2, l2, h2, h3⟩ | ⟨h1, h2, h3⟩
  · exact Or.inl ⟨h1, v2, l2, h2, hA l2 h3⟩
  · exact Or.inr ⟨h1, h2, hB h3⟩
theorem readList_many {α : Type} (g : List (BitVec 8) → Option (α × List (BitVec 8))) (b : List (BitVec 8)) : readList g b = match readMany g b with | some (l, []) => some l | _ => none := by
  unfold readList readMany readCount
  cases readNum b with
  | none => rfl
  | some p =>
    obtain ⟨n, r⟩ := p
    simp only
    by_cases h : n ≤ 4096
    · simp only [if_pos h]
      cases readAll g n r with
      | none => rfl
      | some p =>
        obtain ⟨l, t⟩ := p
        cases t <;> rfl
    · simp only [if_neg h]
/-- what a reading of a list comes to -/
def ListRead {α : Type} (el : TypeId) (Good : World → Nat → List Value → List α → Prop) (o : Option (List α)) (w : World) (e : Ending) (w' : World) : Prop :=
  (∃ xs v vs, o = some xs ∧ e = .returned (.tuple #[v, .int .i64 0]) ∧ OwnV w' w.heap.size el v vs ∧ Good w' w.heap.size vs xs ∧ Below w.heap.size w w') ∨
  (o = none ∧ e = .returned (.tuple #[.slice none 0 0, .int .i64 3]) ∧ Below w.heap.size w w')
theorem GoodN.up {w w' : World} {B B' : Nat} {vs : List Value} {ns : List Nat} (h : GoodN w B vs ns) : GoodN w' B' vs ns := h
theorem GoodT.up {w w' : World} {B B' : Nat} {vs : List Value} {ls : List (List (BitVec 8))} (h : GoodT w B vs ls) (hB : B' ≤ B) (hk : ∀ k, B ≤ k → k < w.heap.size → w'.heap[k]? = w.heap[k]?) : GoodT w' B' vs ls :=
  ⟨h.1, fun j u hj => ((h.2 j u hj).same (fun k hkk => hk k ((h.2 j u hj).own k hkk) ((h.2 j u hj).lt k hkk))).mono hB⟩
theorem OwnV.mono {w : World} {base B : Nat} {el : TypeId} {v : Value} {vs : List Value} (h : OwnV w base el v vs) (hB : B ≤ base) : OwnV w B el v vs := by
  obtain ⟨h1, h2⟩ := h
  refine ⟨h1, ?_⟩
  rcases h2 with h2 | ⟨g, cap, cur, rfl, hg, r⟩
  · exact Or.inl h2
  · exact Or.inr ⟨g, cap, cur, rfl, by omega, r⟩
theorem enter_rdlT1 : ∀ xs w, (callFunc 80 xs).run Tryd.prog w = .ok (.enter 80 xs) w := fun _ _ => by kernel_rfl
def ListMidT (l : List (BitVec 8)) (w w0 : World) (e : Ending) (w' : World) : Prop :=
  ∃ w2, Past (w.heap.size + 2) w2 w' ∧ ((∃ l2, (∃ ns, readMany readText l = some (ns, l2) ∧ LsT w2 (w.heap.size + 1) (w.heap.size + 2 + 4) ns ∧ Fr (w.heap.size + 2 + 1) (w.heap.size + 1) (w.heap.size + 2) w0 w2) ∧ e = .returned (.int .i64 (if l2 = [] then 0 else 3))) ∨ ((readMany readText l = none ∧ Fr (w.heap.size + 2 + 1) (w.heap.size + 1) (w.heap.size + 2) w0 w2) ∧ e = .returned (.int .i64 3)))
set_option maxRecDepth 100000 in
set_option maxHeartbeats 1000000 in
theorem rdlT_any (vb : Value) (l : List (BitVec 8)) (w : World) (hb : Reads w vb l) :
    Calls Tryd.prog 56 #[vb, .func (.func 57) #[] #[]] w fun e w' => ListRead 28 GoodT (readList readText l) w e w' := by
  have hmf : ∀ (fn : Fn) (first cap : Array Value) (w : World), (Instr.makeFunc fn first cap).run Tryd.prog w = .ok (.func fn first cap) w := fun _ _ _ _ => rfl
  have hB1 : Below w.heap.size w ((w.alloc (.cells #[.func (.func 57) #[] #[]] 88)).alloc (.cells #[.slice none 0 0] 64)) := ((Below.refl _ _).alloc (Nat.le_refl _) _).alloc (by simp) _
  have g0 : Blk ((w.alloc (.cells #[.func (.func 57) #[] #[]] 88)).alloc (.cells #[.slice none 0 0] 64)) w.heap.size [.func (.func 57) #[] #[]] 88 := (Blk.new w [.func (.func 57) #[] #[]] 88).alloc _
  have g1 : Blk ((w.alloc (.cells #[.func (.func 57) #[] #[]] 88)).alloc (.cells #[.slice none 0 0] 64)) (w.heap.size + 1) [.slice none 0 0] 64 := Blk.new_at (w := w.alloc (.cells #[.func (.func 57) #[] #[]] 88)) (by simp) [.slice none 0 0] 64
  have hz : ((w.alloc (.cells #[.func (.func 57) #[] #[]] 88)).alloc (.cells #[.slice none 0 0] 64)).heap.size = w.heap.size + 2 := by simp
  have hR := hb.below hB1
  have HRd : Hid (Calls Tryd.prog 79 #[vb, .func (.func 80) #[] #[.pointer (some ⟨w.heap.size + 1, 0, none⟩), .pointer (some ⟨w.heap.size, 0, none⟩)]] ((w.alloc (.cells #[.func (.func 57) #[] #[]] 88)).alloc (.cells #[.slice none 0 0] 64)) fun e w' => ListMidT l w ((w.alloc (.cells #[.func (.func 57) #[] #[]] 88)).alloc (.cells #[.slice none 0 0] 64)) e w') := by
    unfold ListMidT
    rw [← hz]
    refine read_any 80 #[.pointer (some ⟨w.heap.size + 1, 0, none⟩), .pointer (some ⟨w.heap.size, 0, none⟩)] vb l _ _ _ hR enter_rdlT1 ?_
    intro w1 h1 h2 h3
    refine Calls.mono (rdlT1_any _ (w.heap.size + 1) w.heap.size vb l w1 h1 (by rw [hz]; omega) (by rw [hz]; omega) (by omega) h3 (g1.below h2 g1.lt) (g0.below h2 g0.lt)) ?_
    intro e w2 hD
    refine hD.mono (fun l2 hA => ?_) (fun hB => ?_)
    · obtain ⟨ns, a1, a2, a3⟩ := hA
      exact ⟨ns, a1, a2, ⟨a3.os.trans h2.os, a3.tape.trans h2.tape, a3.output.trans h2.output, Nat.le_trans h2.size a3.size, fun k k1 k2 k3 => (a3.block k (by omega) k2 k3).trans (h2.block k k1)⟩⟩
    · obtain ⟨a1, a3⟩ := hB
      exact ⟨a1, ⟨a3.os.trans h2.os, a3.tape.trans h2.tape, a3.output.trans h2.output, Nat.le_trans h2.size a3.size, fun k k1 k2 k3 => (a3.block k (by omega) k2 k3).trans (h2.block k k1)⟩⟩
  have HB1 : Hid (Below w.heap.size w ((w.alloc (.cells #[.func (.func 57) #[] #[]] 88)).alloc (.cells #[.slice none 0 0] 64))) := hB1
  have HZ : Hid (((w.alloc (.cells #[.func (.func 57) #[] #[]] 88)).alloc (.cells #[.slice none 0 0] 64)).heap.size = w.heap.size + 2) := hz
  clear hB1 g0 g1 hz hR hb
  go_enter Tryd.func56, Tryd.ntmps56
  go_wp2_with fail
  refine Calls.mono HRd.out ?_
  rintro e w' ⟨w2, hP, hway⟩
  have hbel : ∀ {gi gl : Nat}, Fr gi gl (w.heap.size + 2) ((w.alloc (.cells #[.func (.func 57) #[] #[]] 88)).alloc (.cells #[.slice none 0 0] 64)) w2 → w.heap.size ≤ gi → w.heap.size ≤ gl → Below w.heap.size w w' := fun h k1 k2 =>
    ⟨hP.os.trans (h.os.trans HB1.out.os), hP.tape.trans (h.tape.trans HB1.out.tape), hP.output.trans (h.output.trans HB1.out.output), by rw [hP.size]; exact Nat.le_trans HB1.out.size h.size, fun k hk => (hP.block k (Or.inl (by omega))).trans ((h.block k (by omega) (by omega) (by omega)).trans (HB1.out.block k hk))⟩
  rcases hway with ⟨l2, ⟨ns, hm, ⟨vl, vs, hbl, hown, hgd⟩, hfr⟩, rfl⟩ | ⟨⟨hm, hfr⟩, rfl⟩
  · by_cases h0 : l2 = []
    · subst h0
      rw [if_pos rfl]
      have hbl' : Blk w' (w.heap.size + 1) [vl] 64 := by unfold Blk at hbl ⊢; rw [hP.block _ (Or.inl (by omega))]; exact hbl
      have cl : w'.cell? ⟨w.heap.size + 1, 0, none⟩ = some vl := hbl'.cell 0
      obtain ⟨adl, ccl, hvl, _⟩ := hown.slice
      have HL : Hid (∀ v, v = vl → ListRead 28 GoodT (readList readText l) w (.returned (.tuple #[v, .int .i64 0])) w') := by
        intro v hv
        subst hv
        refine Or.inl ⟨ns, v, vs, ?_, rfl, (hown.same (fun k hk => hP.block k (Or.inr (hown.lt k hk).1))).mono (by omega), hgd.up (by omega) (fun k h1 _ => hP.block k (Or.inr h1)), hbel hfr (by omega) (by omega)⟩
        rw [readList_many, hm]
      obtain ⟨nl, HNL⟩ : ∃ x : Nat, Hid (x = vs.length) := ⟨_, rfl⟩
      rw [← HNL.out] at hvl
      subst hvl
      clear hbl hbl' hown hgd hfr hm hbel hP HRd
      go_wp2
      go_ret2
      exact HL.out _ rfl
    · rw [if_neg h0]
      have HL : Hid (ListRead 28 GoodT (readList readText l) w (.returned (.tuple #[.slice none 0 0, .int .i64 3])) w') := by
        refine Or.inr ⟨?_, rfl, hbel hfr (by omega) (by omega)⟩
        rw [readList_many, hm]
        cases l2 with
        | nil => exact absurd rfl h0
        | cons x y => rfl
      clear hbl hown hgd hfr hm hbel hP HRd h0
      go_wp2
      go_ret2
      exact HL.out
  · have HL : Hid (ListRead 28 GoodT (readList readText l) w (.returned (.tuple #[.slice none 0 0, .int .i64 3])) w') := by
      refine Or.inr ⟨?_, rfl, hbel hfr (by omega) (by omega)⟩
      rw [readList_many, hm]
    clear hfr hm hbel hP HRd
    go_wp2
    go_ret2
    exact HL.out
set_option maxHeartbeats 400000 in
theorem creadT_any (vb : Value) (l : List (BitVec 8)) (w : World) (hb : Reads w vb l) :
    Calls Tryd.prog 32 #[vb] w fun e w' => ListRead 28 GoodT (readList readText l) w e w' := by
  have hmf : ∀ (fn : Fn) (first cap : Array Value) (w : World), (Instr.makeFunc fn first cap).run Tryd.prog w = .ok (.func fn first cap) w := fun _ _ _ _ => rfl
  go_enter Tryd.func32, Tryd.ntmps32
  go_wp2_with fail
  refine (rdlT_any vb l w hb).mono ?_
  rintro e w' (⟨xs, v, vs, h1, rfl, h2, h3, h4⟩ | ⟨h1, rfl, h2⟩)
  · have HL : Hid (ListRead 28 GoodT (readList readText l) w (.returned (.tuple #[v, .int .i64 0])) w') := Or.inl ⟨xs, v, vs, h1, rfl, h2, h3, h4⟩
    clear h1 h2 h3 h4
    go_wp2
    go_ret2
    exact HL.out
  · have HL : Hid (ListRead 28 GoodT (readList readText l) w (.returned (.tuple #[.slice none 0 0, .int .i64 3])) w') := Or.inr ⟨h1, rfl, h2⟩
    clear h1 h2
    go_wp2
    go_ret2
    exact HL.out
end Go.Proofs.YtableajopaappaaDoor
/- The walks of the reference's reader: Num, Count, Take, Text, Digest, Done. -/
namespace Go.Proofs.YtableajopaappaaDoor
open Go.RowKit
set_option maxRecDepth 100000
/-- the reference's reader at g: of the bytes l so many were read -/
structure InS (w : World) (g : Nat) (v : Value) (l : List (BitVec 8)) (pos : Nat) (bad : Bool) : Prop where
  blk : Blk w g [v, .int .i64 (pos : Int), .bool bad] 95
  byt : Reads w v l
  le : pos ≤ l.length
theorem InS.ne {w : World} {g : Nat} {v : Value} {l : List (BitVec 8)} {pos : Nat} {bad : Bool} (h : InS w g v l pos bad) : ∀ b off, 0 < l.length → (∀ j, j < l.length → w.cell? ⟨b, off + j, none⟩ = some (.int .u8 ((l.getD j 0).toNat : Int))) → b ≠ g := by
  intro b off hp hc he
  subst he
  have h0 := hc 0 hp
  rw [h.blk.cell] at h0
  obtain ⟨ad, cap, hv, _⟩ := h.byt
  subst hv
  match off, h0 with
  | 0, h0 => simp at h0
  | 1, h0 => simp at h0
  | 2, h0 => simp at h0
  | k + 3, h0 => simp at h0
theorem InS.only {w w' : World} {g : Nat} {v : Value} {l : List (BitVec 8)} {pos : Nat} {bad : Bool} (h : InS w g v l pos bad) (ho : Only g w w') : Reads w' v l := by
  have ha := h.ne
  obtain ⟨ad, cap, rfl, hc, hn, hx⟩ := h.byt
  refine ⟨ad, cap, rfl, hc, hn, fun hp => ?_⟩
  obtain ⟨b, off, h1, h2⟩ := hx hp
  exact ⟨b, off, h1, fun j hj => ho.cell (p := ⟨b, off + j, none⟩) (ha b off hp h2) (h2 j hj)⟩
theorem InS.below {w w' : World} {g : Nat} {v : Value} {l : List (BitVec 8)} {pos : Nat} {bad : Bool} (h : InS w g v l pos bad) (hb : Below w.heap.size w w') : InS w' g v l pos bad := ⟨h.blk.below hb h.blk.lt, h.byt.below hb, h.le⟩
structure InInv (g : Nat) (v : Value) (l : List (BitVec 8)) (pos : Nat) (bad : Bool) (w : World) (k acc : Nat) (wr : World) : Prop where
  le : k ≤ 10
  lt : acc < 2 ^ (7 * k)
  eq : readNum (l.drop pos) = decNum (10 - k) k acc (l.drop (pos + k))
  st : InS wr g v l (pos + k) bad
  onl : Only g w wr
end Go.Proofs.YtableajopaappaaDoor
/- The walks of the reference's reader: Count and Take. -/
namespace Go.Proofs.YtableajopaappaaDoor
open Go.RowKit
set_option maxRecDepth 100000
def cutAd (ad : Option Addr) (p cap : Nat) : Option Addr := if cap = p then ad else ad.map (·.add p)
theorem Reads.mid {w : World} {ad : Option Addr} {m cap : Nat} {l : List (BitVec 8)} (h : Reads w (.slice ad m cap) l) (p n : Nat) (hp : p + n ≤ l.length) : Reads w (.slice (cutAd ad p cap) n (cap - p)) ((l.drop p).take n) := by
  have hm : m ≤ cap ∧ m = l.length := by
    obtain ⟨ad', cap', hv, hc, _⟩ := h
    simp only [Value.slice.injEq] at hv
    obtain ⟨_, rfl, rfl⟩ := hv
    exact ⟨hc, rfl⟩
  obtain ⟨hmc, hml⟩ := hm
  cases ad with
  | none =>
    obtain ⟨ad', cap', hv, hc, hn, hx⟩ := h
    simp only [Value.slice.injEq] at hv
    obtain ⟨rfl, _, rfl⟩ := hv
    have := hn rfl
    subst this
    have hl : l.length = 0 := by omega
    have hn0 : n = 0 := by omega
    have hp0 : p = 0 := by omega
    subst hn0 hp0
    exact ⟨none, 0, by simp [cutAd], by simp, fun _ => rfl, fun h => by simp at h⟩
  | some a =>
    have h1 := (h.drop p (by omega) (if cap = p then a else a.add p) (fun hlt => by rw [if_neg (by omega)]))
    have h2 := h1.take n (by rw [List.length_drop]; omega)
    have e : cutAd (some a) p cap = some (if cap = p then a else a.add p) := by
      unfold cutAd
      by_cases hcp : cap = p
      · rw [if_pos hcp, if_pos hcp]
      · rw [if_neg hcp, if_neg hcp]; rfl
    rw [e]
    exact h2
end Go.Proofs.YtableajopaappaaDoor
/- The walks of the reference's reader: Text, Digest, Done. -/
namespace Go.Proofs.YtableajopaappaaDoor
open Go.RowKit
set_option maxRecDepth 100000
def fillD (a : List (BitVec 8)) : Nat → List (BitVec 8)
  | 0 => zb32
  | k + 1 => (fillD a k).set k (a.getD k 0)
structure DgInv4 (D : Nat) (a : List (BitVec 8)) (w2 : World) (u : Value) (k : Nat) (wr : World) : Prop where
  le : k ≤ a.length
  res : Blk wr D (cb zb32) 23
  out : Blk wr (D + 1) (cb (fillD a k)) 23
  own : OwnB wr (D + 2) u a
  onl : Only (D + 1) w2 wr
end Go.Proofs.YtableajopaappaaDoor
/- The walks of blazonref04.ReadNums and ReadTexts. -/
namespace Go.Proofs.YtableajopaappaaDoor
open Go.RowKit
set_option maxRecDepth 100000
theorem InS.others {w w' : World} {g : Nat} {v : Value} {l : List (BitVec 8)} {pos : Nat} {bad : Bool} (h : InS w g v l pos bad) (hv : 0 < l.length → ∀ k, v.ownBlock = some k → k < g) (hb : Below (g + 1) w w') : InS w' g v l pos bad := by
  refine ⟨h.blk.below hb (by omega), ?_, h.le⟩
  obtain ⟨ad, cap, rfl, hc, hn, hx⟩ := h.byt
  refine ⟨ad, cap, rfl, hc, hn, fun hp => ?_⟩
  obtain ⟨b, off, rfl, hy⟩ := hx hp
  refine ⟨b, off, rfl, fun j hj => ?_⟩
  rw [hb.cell (p := ⟨b, off + j, none⟩) (by have := hv hp b rfl; show b < g + 1; omega)]
  exact hy j hj
end Go.Proofs.YtableajopaappaaDoor
/- The walks of codec.list, Nums and Texts, and of the reference's Nums, Texts, SameNums and SameTexts. -/
namespace Go.Proofs.YtableajopaappaaDoor
open Go.RowKit
set_option maxRecDepth 100000
/-- the slice v reads as the numbers ns -/
def ReadsN (w : World) (v : Value) (ns : List Nat) : Prop :=
  ∃ ad cap, v = .slice ad ns.length cap ∧ ns.length ≤ cap ∧ (ad = none → cap = 0) ∧ (0 < ns.length → ∃ b off, ad = some ⟨b, off, none⟩ ∧ ∀ j, j < ns.length → w.cell? ⟨b, off + j, none⟩ = some (.int .u64 ((ns.getD j 0 : Nat) : Int)))
theorem ReadsN.below {w w' : World} {v : Value} {ns : List Nat} (h : ReadsN w v ns) (hb : Below w.heap.size w w') : ReadsN w' v ns := by
  obtain ⟨ad, cap, hv, hc, hn, hx⟩ := h
  refine ⟨ad, cap, hv, hc, hn, fun hp => ?_⟩
  obtain ⟨b, off, h1, h2⟩ := hx hp
  exact ⟨b, off, h1, fun j hj => by rw [hb.cell (p := ⟨b, off + j, none⟩) (block_lt_of_cell (h2 j hj))]; exact h2 j hj⟩
theorem OwnV.readsL {w : World} {base : Nat} {v : Value} {vs : List Value} {ls : List (List (BitVec 8))} (h : OwnV w base 28 v vs) (hg : GoodT w base vs ls) : ReadsL w v ls := by
  obtain ⟨ad, c, hv, hc, hn, hx⟩ := h.slice
  have hl := hg.1
  rw [hl] at hv hc hx
  refine ⟨ad, c, hv, hc, hn, fun hp => ?_⟩
  obtain ⟨g, h1, h2⟩ := hx hp
  refine ⟨g, 0, h1, fun j hj => ?_⟩
  have hj' : j < vs.length := by rw [hl]; exact hj
  refine ⟨vs[j], ?_, (hg.2 j _ (List.getElem?_eq_getElem hj')).reads⟩
  rw [Nat.zero_add]
  exact h2 j _ (List.getElem?_eq_getElem hj')
theorem encAll_take {α : Type} (f : α → List (BitVec 8)) (l : List α) (k : Nat) (z : α) (h : k < l.length) : encAll f (l.take (k + 1)) = encAll f (l.take k) ++ f (l.getD k z) := by
  unfold encAll
  rw [List.take_add_one, List.getElem?_eq_getElem h, List.getD_eq_getElem?_getD, List.getElem?_eq_getElem h]
  simp only [Option.toList_some, List.map_append, List.map_cons, List.map_nil, List.flatten_append, List.flatten_cons, List.flatten_nil, List.append_nil, Option.getD_some]
theorem encText_len (t : List (BitVec 8)) : (encText t).length = (encNum t.length).length + t.length := by unfold encText; rw [List.length_append]
theorem encTexts_len (ls : List (List (BitVec 8))) (h : ls.flatten.length < 18446744073709551616) : (encAll encText ls).length ≤ ls.flatten.length + 10 * ls.length := by
  induction ls with
  | nil => simp [encAll]
  | cons t r ih =>
    rw [List.flatten_cons, List.length_append] at h
    rw [encAll_cons, List.length_append, List.length_cons, List.flatten_cons, List.length_append]
    have h1 := enc_len10 t.length (by omega)
    have h2 := ih (by omega)
    rw [encText_len]
    omega
theorem getD_flat_le {ls : List (List (BitVec 8))} (k : Nat) (hk : k < ls.length) : (encAll encText (ls.take k)).length ≤ (ls.take k).flatten.length + 10 * k → (ls.take k).flatten.length + (ls.getD k []).length ≤ ls.flatten.length := by
  intro _
  have h1 := flat_take ls k hk
  have h2 := flat_le ls (k + 1)
  rw [h1, List.length_append] at h2
  exact h2
structure LsInv (w : World) (l : List (BitVec 8)) (u : Value) (wr : World) : Prop where
  own : OwnB wr w.heap.size u l
  bel : Below w.heap.size w wr
set_option maxRecDepth 100000 in
set_option maxHeartbeats 1000000 in
theorem listT_any (v : Value) (xs : List (List (BitVec 8))) (w : World) (hR : ReadsL w v xs) (hl : xs.flatten.length + 10 * xs.length + 40 ≤ 140737488355328) :
    Calls Tryd.prog 68 #[v, .func (.func 67) #[] #[]] w fun e w' => ∃ v', e = .returned v' ∧ OwnB w' w.heap.size v' (encList encText xs) ∧ Below w.heap.size w w' := by
  have HR : Hid (ReadsL w v xs) := hR
  have HLN : Hid (xs.flatten.length + 10 * xs.length + 40 ≤ 140737488355328) := hl
  obtain ⟨ad, cap, hv, hcap, _, _⟩ := hR
  obtain ⟨n, HNN⟩ : ∃ n, Hid (n = xs.length) := ⟨_, rfl⟩
  rw [← HNN.out] at hv hcap
  subst hv
  have hn62 : n ≤ 14073748835533 := by rw [HNN.out]; have := HLN.out; omega
  have hw : IntKind.u64.wrap (n : Int) = (n : Int) := by rw [IntKind.wrap_u64]; omega
  clear hl
  go_enter Tryd.func68, Tryd.ntmps68
  go_wp2_with fail
  refine (cnum_any w.heap.size _ [] n (by omega) w (OwnB.nil _ _) (Nat.le_refl _) (by simp)).mono ?_
  rintro e w1 ⟨v1, rfl, ho1, hb1⟩
  have hI : LsInv w (encNum n ++ encAll encText (xs.take 0)) v1 w1 := ⟨by simpa [encAll] using ho1, hb1⟩
  clear ho1 hb1
  go_wp2
  go_loopw [5, 14] (fun u i wr => ∃ k : Nat, k ≤ n ∧ i = .int .i64 (k : Int) ∧ LsInv w (encNum n ++ encAll encText (xs.take k)) u wr) (fun _ i _ => n - (intOf i).toNat)
  case atStart => exact ⟨0, by omega, rfl, hI⟩
  case round =>
    clear hI hw
    obtain ⟨k, hk, rfl, hI⟩ := hrel
    have HI : Hid (LsInv w (encNum n ++ encAll encText (xs.take k)) u5 wr) := hI
    by_cases hlt : k < n
    · skip
      obtain ⟨ad', cap', hv', _, _, hx⟩ := HR.out.below hI.bel
      rw [← HNN.out] at hv' hx
      simp only [Value.slice.injEq, true_and] at hv'
      obtain ⟨rfl, rfl⟩ := hv'
      obtain ⟨b, off, rfl, hx2⟩ := hx (by omega)
      obtain ⟨vj, cj, hj⟩ := hx2 k hlt
      obtain ⟨y, HY⟩ : ∃ y, Hid (y = xs.getD k []) := ⟨_, rfl⟩
      have HJ : Hid (Reads wr vj y) := by rw [HY.out]; exact hj
      have HYL : Hid ((encNum n ++ encAll encText (xs.take k)).length + y.length + 20 ≤ 140737488355328) := by
        have h0 := flat_le xs k
        have h1 := encTexts_len (xs.take k) (by have := HLN.out; omega)
        have h2 := HLN.out
        have h3 := enc_len10 n (by omega)
        have h4 := getD_flat_le (ls := xs) k (by rw [← HNN.out]; exact hlt) (by have := h1; rw [List.length_take] at this; omega)
        rw [List.length_take] at h1
        show _ ≤ _
        rw [List.length_append, HY.out]
        omega
      have HE : Hid (encNum n ++ encAll encText (xs.take (k + 1)) = (encNum n ++ encAll encText (xs.take k)) ++ encText y) := by
        show _ = _
        rw [encAll_take encText xs k [] (by rw [← HNN.out]; exact hlt), HY.out, List.append_assoc]
      clear hx hx2 hI
      go_wp2_with fail
      refine (ctext_any w.heap.size _ _ (encNum n ++ encAll encText (xs.take k)) y wr HI.out.own HJ.out HI.out.bel.size (by have := HYL.out; omega)).mono ?_
      rintro e w2 ⟨v2, rfl, ho2, hb2⟩
      have HJ2 : Hid (LsInv w (encNum n ++ encAll encText (xs.take (k + 1))) v2 w2) := ⟨by rw [HE.out]; exact ho2, HI.out.bel.trans hb2⟩
      clear ho2 hb2 HI
      go_wp2
      go_roundw
      case rel => exact ⟨k + 1, by omega, by go_num, HJ2.out⟩
      case measure => simp [intOf]; omega
    · have hkn : k = n := by omega
      subst hkn
      have HV : Hid (OwnB wr w.heap.size u5 (encList encText xs)) := by
        have := hI.own
        rw [HNN.out, List.take_of_length_le (Nat.le_refl _)] at this
        exact this
      have hbel := hI.bel
      clear hI HI HR
      go_wp2
      go_ret
      exact ⟨_, rfl, HV.out, hbel⟩
set_option maxHeartbeats 400000 in
theorem ctexts_any (v : Value) (xs : List (List (BitVec 8))) (w : World) (hR : ReadsL w v xs) (hl : xs.flatten.length + 10 * xs.length + 40 ≤ 140737488355328) :
    Calls Tryd.prog 40 #[v] w fun e w' => ∃ v', e = .returned v' ∧ OwnB w' w.heap.size v' (encList encText xs) ∧ Below w.heap.size w w' := by
  go_enter Tryd.func40, Tryd.ntmps40
  go_wp2_with fail
  refine (listT_any v xs w hR hl).mono ?_
  rintro e w1 ⟨v1, rfl, ho1, hb1⟩
  go_wp2
  go_ret
  exact ⟨_, rfl, ho1, hb1⟩
set_option maxRecDepth 100000 in
set_option maxHeartbeats 1000000 in
theorem qtexts_any (v : Value) (xs : List (List (BitVec 8))) (w : World) (hR : ReadsL w v xs) (hl : xs.flatten.length + 10 * xs.length + 40 ≤ 140737488355328) :
    Calls Tryd.prog 42 #[v] w fun e w' => ∃ v', e = .returned v' ∧ OwnB w' w.heap.size v' (encList encText xs) ∧ Below w.heap.size w w' := by
  have HR : Hid (ReadsL w v xs) := hR
  have HLN : Hid (xs.flatten.length + 10 * xs.length + 40 ≤ 140737488355328) := hl
  obtain ⟨ad, cap, hv, hcap, _, _⟩ := hR
  obtain ⟨n, HNN⟩ : ∃ n, Hid (n = xs.length) := ⟨_, rfl⟩
  rw [← HNN.out] at hv hcap
  subst hv
  have hn62 : n ≤ 14073748835533 := by rw [HNN.out]; have := HLN.out; omega
  have hw : IntKind.u64.wrap (n : Int) = (n : Int) := by rw [IntKind.wrap_u64]; omega
  clear hl
  go_enter Tryd.func42, Tryd.ntmps42
  go_wp2_with fail
  refine (qnum_any n (by omega) w).mono ?_
  rintro e w1 ⟨v1, rfl, ho1, hb1⟩
  have hI : LsInv w (encNum n ++ encAll encText (xs.take 0)) v1 w1 := ⟨by simpa [encAll] using ho1, hb1⟩
  clear ho1 hb1
  go_wp2
  go_loopw [3, 4] (fun u i wr => ∃ k : Nat, k ≤ n ∧ i = .int .i64 (k : Int) ∧ LsInv w (encNum n ++ encAll encText (xs.take k)) u wr) (fun _ i _ => n - (intOf i).toNat)
  case atStart => exact ⟨0, by omega, rfl, hI⟩
  case round =>
    clear hI hw
    obtain ⟨k, hk, rfl, hI⟩ := hrel
    have HI : Hid (LsInv w (encNum n ++ encAll encText (xs.take k)) u3 wr) := hI
    by_cases hlt : k < n
    · skip
      obtain ⟨ad', cap', hv', _, _, hx⟩ := HR.out.below hI.bel
      rw [← HNN.out] at hv' hx
      simp only [Value.slice.injEq, true_and] at hv'
      obtain ⟨rfl, rfl⟩ := hv'
      obtain ⟨b, off, rfl, hx2⟩ := hx (by omega)
      obtain ⟨vj, cj, hj⟩ := hx2 k hlt
      obtain ⟨y, HY⟩ : ∃ y, Hid (y = xs.getD k []) := ⟨_, rfl⟩
      have HJ : Hid (Reads wr vj y) := by rw [HY.out]; exact hj
      have HYL : Hid ((encNum n ++ encAll encText (xs.take k)).length + y.length + 20 ≤ 140737488355328) := by
        have h0 := flat_le xs k
        have h1 := encTexts_len (xs.take k) (by have := HLN.out; omega)
        have h2 := HLN.out
        have h3 := enc_len10 n (by omega)
        have h4 := getD_flat_le (ls := xs) k (by rw [← HNN.out]; exact hlt) (by have := h1; rw [List.length_take] at this; omega)
        rw [List.length_take] at h1
        show _ ≤ _
        rw [List.length_append, HY.out]
        omega
      have HE : Hid (encNum n ++ encAll encText (xs.take (k + 1)) = (encNum n ++ encAll encText (xs.take k)) ++ encText y) := by
        show _ = _
        rw [encAll_take encText xs k [] (by rw [← HNN.out]; exact hlt), HY.out, List.append_assoc]
      clear hx hx2 hI
      go_wp2_with fail
      refine (qtext_any _ y wr HJ.out (by have := HYL.out; omega)).mono ?_
      rintro e w2 ⟨v2, rfl, ho2, hb2⟩
      have HR2 : Hid (Reads w2 v2 (encText y)) := ho2
      have HLX : Hid ((encNum n ++ encAll encText (xs.take k)).length + (encText y).length ≤ 140737488355328) := by have := HYL.out; have := enc_len10 y.length (by omega); show _ ≤ _; rw [encText_len]; omega
      have HO2 : Hid (OwnB w2 w.heap.size u3 (encNum n ++ encAll encText (xs.take k))) := HI.out.own.below hb2 (Nat.le_refl _)
      have HB2 : Hid (Below w.heap.size w w2) := HI.out.bel.trans (hb2.mono HI.out.bel.size)
      clear ho2 hb2 HI
      go_wp2_with (at_builtin; refine wpList_appendB rfl (.tmp 15) (.tmp 20) rfl w.heap.size _ (encNum n ++ encAll encText (xs.take k)) rfl HO2.out _ (encText y) rfl HR2.out HLX.out HB2.out.size ?_; intro v4 w4 hown4 hb4 _)
      have HJ2 : Hid (LsInv w (encNum n ++ encAll encText (xs.take (k + 1))) v4 w4) := ⟨by rw [HE.out]; exact hown4, HB2.out.trans hb4⟩
      clear hown4 hb4 HO2
      go_wp2
      go_roundw
      case rel => exact ⟨k + 1, by omega, by go_num, HJ2.out⟩
      case measure => simp [intOf]; omega
    · have hkn : k = n := by omega
      subst hkn
      have HV : Hid (OwnB wr w.heap.size u3 (encList encText xs)) := by
        have := hI.own
        rw [HNN.out, List.take_of_length_le (Nat.le_refl _)] at this
        exact this
      have hbel := hI.bel
      clear hI HI HR
      go_wp2
      go_ret
      exact ⟨_, rfl, HV.out, hbel⟩
end Go.Proofs.YtableajopaappaaDoor
/- The walk of what the statement CodecReader hands to Read. -/
namespace Go.Proofs.YtableajopaappaaDoor
open Go.RowKit
set_option maxRecDepth 100000
/-- what the statement's own reading comes to -/
def rdSpec (most : Int) (l : List (BitVec 8)) : Option ((Nat × List (BitVec 8) × List (BitVec 8)) × List (BitVec 8)) :=
  if most < 0 then none else
  match readCount most.toNat l with
  | none => none
  | some (n, r) =>
    if n = 2 then none else
    match (if 0 < n then cut 32 r else some (zb32, r)) with
    | none => none
    | some (d, r2) =>
      match readText r2 with
      | none => none
      | some (t, r3) => some ((n, d, t), r3)
/-- the world w' is w, below g + 8, but for the three variables and the input -/
structure FrC (g : Nat) (w w' : World) : Prop where
  os : w'.os = w.os
  tape : w'.tape = w.tape
  output : w'.output = w.output
  size : w.heap.size ≤ w'.heap.size
  block : ∀ k, k < g + 8 → k ≠ g + 5 → k ≠ g + 1 → k ≠ g + 2 → k ≠ g + 3 → w'.heap[k]? = w.heap[k]?
theorem FrC.refl (g : Nat) (w : World) : FrC g w w := ⟨rfl, rfl, rfl, Nat.le_refl _, fun _ _ _ _ _ _ => rfl⟩
theorem FrC.only {g : Nat} {a b c : World} (h : FrC g a b) (k : Only (g + 5) b c) (hB : g + 8 ≤ b.heap.size) : FrC g a c :=
  ⟨k.os.trans h.os, k.tape.trans h.tape, k.output.trans h.output, Nat.le_trans h.size k.size, fun i h1 h2 h3 h4 h5 => (k.block i h2 (by omega)).trans (h.block i h1 h2 h3 h4 h5)⟩
/-- the world w' is w but for block x -/
structure At (x : Nat) (w w' : World) : Prop where
  os : w'.os = w.os
  tape : w'.tape = w.tape
  output : w'.output = w.output
  size : w'.heap.size = w.heap.size
  block : ∀ k, k ≠ x → w'.heap[k]? = w.heap[k]?
theorem At.refl (x : Nat) (w : World) : At x w w := ⟨rfl, rfl, rfl, rfl, fun _ _ => rfl⟩
theorem At.setCell {x : Nat} {w w' : World} (h : At x w w') (o : Nat) (v : Value) : At x w (w'.setCell ⟨x, o, none⟩ v) :=
  ⟨h.os, h.tape, h.output, by have := h.size; simp [World.setCell]; omega, fun k hk => (Below.heap_setCell _ _ _ _ (by exact hk)).trans (h.block k hk)⟩
theorem At.setCells {x : Nat} {w : World} : ∀ (vs : List Value) (o : Nat) (w' : World), At x w w' → At x w (w'.setCells x o vs)
  | [], _, _, h => h
  | v :: r, o, w', h => by rw [World.setCells]; exact At.setCells r (o + 1) _ (h.setCell o v)
theorem FrC.at {g x : Nat} {a b c : World} (h : FrC g a b) (k : At x b c) (hx : x = g + 1 ∨ x = g + 2 ∨ x = g + 3) : FrC g a c :=
  ⟨k.os.trans h.os, k.tape.trans h.tape, k.output.trans h.output, by rw [k.size]; exact h.size, fun i h1 h2 h3 h4 h5 => (k.block i (by omega)).trans (h.block i h1 h2 h3 h4 h5)⟩
theorem Blk.at {w w' : World} {g x : Nat} {cs : List Value} {t : TypeId} (h : Blk w g cs t) (k : At x w w') (hne : g ≠ x) : Blk w' g cs t := by
  unfold Blk at *
  rw [k.block g hne]; exact h
theorem Reads.at {w w' : World} {x : Nat} {v : Value} {l : List (BitVec 8)} (h : Reads w v l) (k : At x w w') (hv : 0 < l.length → ∀ j, v.ownBlock = some j → j ≠ x) : Reads w' v l := by
  obtain ⟨ad, cap, rfl, hc, hn, hx⟩ := h
  refine ⟨ad, cap, rfl, hc, hn, fun hp => ?_⟩
  obtain ⟨b, off, rfl, h2⟩ := hx hp
  refine ⟨b, off, rfl, fun j hj => ?_⟩
  rw [World.cell?_of_block (w := w) (k.block b (hv hp b rfl))]
  exact h2 j hj
/-- the closure's variables, and the reader -/
structure Cv (g : Nat) (most : Int) (w1 : World) (vb : Value) (n : Int) (d : List (BitVec 8)) (v : Value) (l : List (BitVec 8)) (w : World) : Prop where
  rd : Rd w (g + 7) (g + 5) v l
  mm : Blk w g [.int .i64 most] 3
  nn : Blk w (g + 1) [.int .i64 n] 3
  dd : Blk w (g + 2) (cb d) 23
  tt : Blk w (g + 3) [.slice none 0 0] 28
  fr : FrC g w1 w
  ob : v.ownBlock = vb.ownBlock
  sz : g + 8 ≤ w.heap.size
theorem Cv.only {g : Nat} {most : Int} {w1 w w' : World} {vb v v' : Value} {n : Int} {d l l' : List (BitVec 8)} (h : Cv g most w1 vb n d v l w) (ho : Only (g + 5) w w') (hr : Rd w' (g + 7) (g + 5) v' l') (hob : v'.ownBlock = v.ownBlock) : Cv g most w1 vb n d v' l' w' :=
  ⟨hr, h.mm.only ho (by omega), h.nn.only ho (by omega), h.dd.only ho (by omega), h.tt.only ho (by omega), h.fr.only ho h.sz, hob.trans h.ob, Nat.le_trans h.sz ho.size⟩
def CvA (g : Nat) (most : Int) (l : List (BitVec 8)) (w1 : World) (l2 : List (BitVec 8)) (w2 : World) : Prop :=
  ∃ (n : Nat) (d t : List (BitVec 8)) (vt : Value), rdSpec most l = some ((n, d, t), l2) ∧ d.length = 32 ∧ Blk w2 (g + 1) [.int .i64 (n : Int)] 3 ∧ Blk w2 (g + 2) (cb d) 23 ∧ Blk w2 (g + 3) [vt] 28 ∧ Reads w2 vt t ∧ (∀ j, vt.ownBlock = some j → g + 8 ≤ j) ∧ FrC g w1 w2
def CvB (g : Nat) (most : Int) (l : List (BitVec 8)) (w1 w2 : World) : Prop := rdSpec most l = none ∧ FrC g w1 w2
theorem Cv.threw {g : Nat} {most : Int} {w1 w w' : World} {vb v : Value} {n : Int} {d l l0 : List (BitVec 8)} {e : Ending} (h : Cv g most w1 vb n d v l w) (hT : Threw (g + 5) w e w') (hs : rdSpec most l0 = none) : Does (g + 4) (CvA g most l0 w1) (CvB g most l0 w1) w1 (thrown (g + 5)) w' := by
  have hf := h.fr.only hT.onl h.sz
  obtain ⟨v', hb, ad, m, c, hv⟩ := hT.bad
  exact ⟨hf.size, fun k h1 h2 h3 => hf.block k (by omega) (by omega) (by omega) (by omega) (by omega), Or.inr ⟨rfl, ⟨v', ad, m, c, hv, hb⟩, hs, hf⟩⟩
theorem Cv.done {g : Nat} {most : Int} {w1 w w2 : World} {vb v v2 vt : Value} {n : Nat} {d l l0 t r : List (BitVec 8)} (h : Cv g most w1 vb (n : Int) d v l w) (hv : ∀ j, vb.ownBlock = some j → j < g) (hd : d.length = 32) (ho : Only (g + 5) w w2) (hrd : Rd w2 (g + 7) (g + 5) v2 r) (hob : v2.ownBlock = v.ownBlock) (hown : OwnB w2 w.heap.size vt t) (hs : rdSpec most l0 = some ((n, d, t), r)) :
    Does (g + 4) (CvA g most l0 w1) (CvB g most l0 w1) w1 (.returned (.tuple #[])) (w2.setCell ⟨g + 3, 0, none⟩ vt) := by
  have h2 := h.only ho hrd hob
  have ha : At (g + 3) w2 (w2.setCell ⟨g + 3, 0, none⟩ vt) := (At.refl _ _).setCell _ _
  have hf := h2.fr.at ha (by omega)
  have hge : ∀ j, vt.ownBlock = some j → g + 8 ≤ j := fun j hj => Nat.le_trans h.sz (hown.own j hj)
  exact ⟨hf.size, fun k h1 h2 h3 => hf.block k (by omega) (by omega) (by omega) (by omega) (by omega), Or.inl ⟨rfl, v2, r,
    ⟨hrd.rd.at ha (by omega), hrd.inp.at ha (by omega), hrd.byt.at ha (fun _ j hj => by have := hv j (h2.ob ▸ hj); omega)⟩,
    n, d, t, vt, hs, hd, h2.nn.at ha (by omega), h2.dd.at ha (by omega), h2.tt.set 0 vt, hown.reads.at ha (fun _ j hj => by have := hge j hj; omega), hge, hf⟩⟩
end Go.Proofs.YtableajopaappaaDoor
/- What CodecReader's call of Read comes to; two digests held against each other. -/
namespace Go.Proofs.YtableajopaappaaDoor
open Go.RowKit
set_option maxRecDepth 100000
/-- what Read comes to, in the law -/
structure Rdo (g : Nat) (most : Int) (l : List (BitVec 8)) (w w' : World) (en : Int) : Prop where
  bel : Below g w w'
  sz : g + 8 ≤ w'.heap.size
  mm : Blk w' g [.int .i64 most] 3
  out : (en = 0 ∧ ∃ (n : Nat) (d t : List (BitVec 8)) (vt : Value), rdSpec most l = some ((n, d, t), []) ∧ d.length = 32 ∧ Blk w' (g + 1) [.int .i64 (n : Int)] 3 ∧ Blk w' (g + 2) (cb d) 23 ∧ Blk w' (g + 3) [vt] 28 ∧ Reads w' vt t) ∨ (en = 3 ∧ ∀ x, rdSpec most l ≠ some (x, []))
def w4 (w : World) (most : Int) : World := (((w.alloc (.cells #[.int .i64 most] 3)).alloc (.cells #[.int .i64 0] 3)).alloc (.cells (cb zb32).toArray 23)).alloc (.cells #[.slice none 0 0] 28)
theorem Blk.past4 {H g : Nat} {w w' : World} {cs : List Value} {t : TypeId} (h : Blk w g cs t) (k : Past H w w') (hg : g < H) : Blk w' g cs t := by
  unfold Blk at *
  rw [k.block g (Or.inl hg)]; exact h
end Go.Proofs.YtableajopaappaaDoor
/- What the walks of record share: kinds of things, what a reading of one comes to; regions that draw. -/
namespace Go.Proofs.YtableajopaappaaDoor
open Go.RowKit
set_option maxRecDepth 100000
theorem doesMono {H : Nat} {A A' : List (BitVec 8) → World → Prop} {B B' : World → Prop} {w1 w2 : World} {e : Ending} (h : Does H A B w1 e w2) (ha : ∀ l, A l w2 → A' l w2) (hb : B w2 → B' w2) : Does H A' B' w1 e w2 :=
  ⟨h.size, h.kept, h.way.elim (fun ⟨h1, v2, l2, h2, h3⟩ => Or.inl ⟨h1, v2, l2, h2, ha l2 h3⟩) (fun ⟨h1, h2, h3⟩ => Or.inr ⟨h1, h2, hb h3⟩)⟩
/-- a kind of things: its type, its zero's cells, and which cells are a thing (what they point to lies from block b on) -/
structure Kd (α : Type) where
  ty : TypeId
  z : List Value
  G : World → Nat → α → List Value → Prop
structure KdOk {α : Type} (K : Kd α) : Prop where
  info : (Tryd.prog.info? K.ty).map (·.size) = some K.z.length
  len : ∀ {w b a cs}, K.G w b a cs → cs.length = K.z.length
  one : ∀ {w b a cs}, K.G w b a cs → ∀ v ∈ cs, v.oneCell' = true
  same : ∀ {w w' b a cs}, K.G w b a cs → (∀ k, b ≤ k → k < w.heap.size → w'.heap[k]? = w.heap[k]?) → K.G w' b a cs
  mono : ∀ {w b b' a cs}, K.G w b a cs → b' ≤ b → K.G w b' a cs
  zone : ∀ v ∈ K.z, v.oneCell' = true
theorem KdOk.size {α : Type} {K : Kd α} (h : KdOk K) {w : World} {b : Nat} {a : α} {cs : List Value} (hG : K.G w b a cs) : (Tryd.prog.info? K.ty).map (·.size) = some cs.toArray.size := by rw [List.size_toArray, h.len hG]; exact h.info
theorem KdOk.below {α : Type} {K : Kd α} (h : KdOk K) {w w' : World} {b : Nat} {a : α} {cs : List Value} (hG : K.G w b a cs) (hb : Below w.heap.size w w') : K.G w' b a cs := h.same hG fun k _ hk => hb.block k hk
/-- what one reading of such a thing does -/
def OneDoes {α : Type} (K : Kd α) (F : Nat) (spec : List (BitVec 8) → Option (α × List (BitVec 8))) : Prop :=
  ∀ (gr gi : Nat) (v : Value) (l : List (BitVec 8)) (w : World), Rd w gr gi v l → Calls Tryd.prog F #[.pointer (some ⟨gr, 0, none⟩)] w fun e w' => RdDoes gr gi v w (spec l) (fun a w' v => ∃ cs : List Value, v = .agg cs.toArray ∧ K.G w' w.heap.size a cs) e w'
/-- what is read to the end -/
def whole {α : Type} (o : Option (α × List (BitVec 8))) : Option α :=
  match o with
  | some (a, []) => some a
  | _ => none
/-- what a call that reads a thing out of bytes answers -/
def RdRes {α : Type} (K : Kd α) (w : World) (o : Option α) (e : Ending) (w' : World) : Prop :=
  Below w.heap.size w w' ∧ ((∃ a cs, o = some a ∧ e = .returned (.tuple #[.agg (cs : List Value).toArray, .int .i64 0]) ∧ K.G w' w.heap.size a cs) ∨ (o = none ∧ e = .returned (.tuple #[.agg K.z.toArray, .int .i64 3])))
/-- w' is w but for the blocks g + 2, g + 4 and new ones -/
structure Fr3 (g : Nat) (w w' : World) : Prop where
  os : w'.os = w.os
  tape : w'.tape = w.tape
  output : w'.output = w.output
  size : w.heap.size ≤ w'.heap.size
  block : ∀ k, k ≠ g + 2 → k ≠ g + 4 → k < w.heap.size → w'.heap[k]? = w.heap[k]?
theorem Fr3.of_only {g : Nat} {w w' : World} (h : Only (g + 4) w w') : Fr3 g w w' := ⟨h.os, h.tape, h.output, h.size, fun k _ h2 h3 => h.block k h2 h3⟩
theorem Fr3.at {g : Nat} {w a b : World} (h : Fr3 g w a) (k : At (g + 2) a b) : Fr3 g w b :=
  ⟨k.os.trans h.os, k.tape.trans h.tape, k.output.trans h.output, by rw [k.size]; exact h.size, fun j h1 h2 h3 => (k.block j h1).trans (h.block j h1 h2 h3)⟩
def RA {α : Type} (K : Kd α) (spec : List (BitVec 8) → Option (α × List (BitVec 8))) (g : Nat) (l : List (BitVec 8)) (w1 : World) (l2 : List (BitVec 8)) (w2 : World) : Prop :=
  ∃ a cs, spec l = some (a, l2) ∧ Blk w2 (g + 2) cs K.ty ∧ K.G w2 (g + 7) a cs ∧ Fr3 g w1 w2
def RB {α : Type} (spec : List (BitVec 8) → Option (α × List (BitVec 8))) (g : Nat) (l : List (BitVec 8)) (w1 w2 : World) : Prop := spec l = none ∧ Fr3 g w1 w2
/-- where the reading's function begins -/
structure At1 {α : Type} (K : Kd α) (F : Nat) (fty : TypeId) (g : Nat) (vb : Value) (l : List (BitVec 8)) (w1 : World) : Prop where
  rd : Rd w1 (g + 6) (g + 4) vb l
  fn : Blk w1 g [.func (.func F) #[] #[]] fty
  th : Blk w1 (g + 2) K.z K.ty
  sz : w1.heap.size = g + 7
  vb : 0 < l.length → ∀ j, vb.ownBlock = some j → j < g
theorem At1.threw {α : Type} {K : Kd α} {F : Nat} {fty : TypeId} {g : Nat} {vb : Value} {l : List (BitVec 8)} {w1 w' : World} {e : Ending} (h : At1 K F fty g vb l w1) {spec : List (BitVec 8) → Option (α × List (BitVec 8))} (hT : Threw (g + 4) w1 e w') (hs : spec l = none) :
    Does (g + 3) (RA K spec g l w1) (RB spec g l w1) w1 (thrown (g + 4)) w' := by
  obtain ⟨v', hb, ad, m, c, hv⟩ := hT.bad
  refine ⟨hT.onl.size, fun k h1 h2 h3 => hT.onl.block k h3 (by rw [h.sz]; omega), Or.inr ⟨rfl, ⟨v', ad, m, c, hv, hb⟩, hs, Fr3.of_only hT.onl⟩⟩
theorem At1.there {α : Type} {K : Kd α} (hK : KdOk K) {F : Nat} {fty : TypeId} {g : Nat} {vb : Value} {l : List (BitVec 8)} {w1 w2 : World} {a : α} {b : Nat} {cs : List Value} (h : At1 K F fty g vb l w1) (ho : Only (g + 4) w1 w2) (hG : K.G w2 b a cs) : w2.there (g + 2) 0 cs.toArray.size :=
  (h.th.only ho (by omega)).there 0 _ (by rw [List.size_toArray, hK.len hG]; omega)
theorem At1.done {α : Type} {K : Kd α} (hK : KdOk K) {F : Nat} {fty : TypeId} {g : Nat} {vb v2 : Value} {l r : List (BitVec 8)} {w1 w2 : World} {a : α} {cs : List Value} (h : At1 K F fty g vb l w1) {spec : List (BitVec 8) → Option (α × List (BitVec 8))} (hnil : spec [] = none)
    (hs : spec l = some (a, r)) (hG : K.G w2 w1.heap.size a cs) (hrd : Rd w2 (g + 6) (g + 4) v2 r) (ho : Only (g + 4) w1 w2) (hob : v2.ownBlock = vb.ownBlock) :
    Does (g + 3) (RA K spec g l w1) (RB spec g l w1) w1 (.returned (.tuple #[])) (w2.setCells (g + 2) 0 cs) := by
  have hp : 0 < l.length := by
    cases l with
    | nil => rw [hnil] at hs; cases hs
    | cons x y => simp
  have ha : At (g + 2) w2 (w2.setCells (g + 2) 0 cs) := At.setCells _ _ _ (At.refl _ _)
  have hf := (Fr3.of_only ho).at ha
  have hz := h.sz
  refine ⟨hf.size, fun k h1 h2 h3 => hf.block k (by omega) (by omega) (by omega), Or.inl ⟨rfl, v2, r, ⟨hrd.rd.at ha (by omega), hrd.inp.at ha (by omega), hrd.byt.at ha (fun _ j hj => by have := h.vb hp j (hob ▸ hj); omega)⟩, a, cs, hs, ?_, ?_, hf⟩⟩
  · exact (h.th.only ho (by omega)).whole cs (hK.len hG)
  · rw [hz] at hG
    exact hK.same hG fun k h1 _ => ha.block k (by omega)
/-- what Read comes to -/
structure RdoT {α : Type} (K : Kd α) (spec : List (BitVec 8) → Option (α × List (BitVec 8))) (g : Nat) (l : List (BitVec 8)) (w w' : World) (en : Int) : Prop where
  bel : Below g w w'
  sz : g + 7 ≤ w'.heap.size
  res : Blk w' (g + 1) K.z K.ty
  out : (en = 0 ∧ ∃ a cs, whole (spec l) = some a ∧ Blk w' (g + 2) cs K.ty ∧ K.G w' (g + 7) a cs) ∨ (en = 3 ∧ whole (spec l) = none)
def w3 {α : Type} (K : Kd α) (F : Nat) (fty : TypeId) (w : World) : World := ((w.alloc (.cells #[.func (.func F) #[] #[]] fty)).alloc (.cells K.z.toArray K.ty)).alloc (.cells K.z.toArray K.ty)
theorem rd_of {α : Type} {K : Kd α} (hK : KdOk K) (F F1 : Nat) (fty : TypeId) (spec : List (BitVec 8) → Option (α × List (BitVec 8))) (hen : ∀ xs w, (callFunc F1 xs).run Tryd.prog w = .ok (.enter F1 xs) w)
    (h1 : ∀ (g : Nat) (vb : Value) (l : List (BitVec 8)) (w1 : World), At1 K F fty g vb l w1 → Calls Tryd.prog F1 #[.pointer (some ⟨g + 6, 0, none⟩), .pointer (some ⟨g, 0, none⟩), .pointer (some ⟨g + 2, 0, none⟩)] w1 (Does (g + 3) (RA K spec g l w1) (RB spec g l w1) w1))
    (g : Nat) (vb : Value) (l : List (BitVec 8)) (w : World) (hg : w.heap.size = g) (hb : Reads w vb l) :
    Calls Tryd.prog 79 #[vb, .func (.func F1) #[] #[.pointer (some ⟨g, 0, none⟩), .pointer (some ⟨g + 2, 0, none⟩)]] (w3 K F fty w) fun e w' => ∃ en, e = .returned (.int .i64 en) ∧ RdoT K spec g l w w' en := by
  have hvb := hb.inB
  subst hg
  have hz : (w3 K F fty w).heap.size = w.heap.size + 3 := by simp [w3]
  have hB : Below w.heap.size w (w3 K F fty w) := ((((Below.refl _ _).alloc (Nat.le_refl _) _).alloc (by simp) _).alloc (by simp; omega) _)
  have b0 : Blk (w3 K F fty w) w.heap.size [.func (.func F) #[] #[]] fty := ((Blk.new w [.func (.func F) #[] #[]] fty).alloc _).alloc _
  have b1 : Blk (w3 K F fty w) (w.heap.size + 1) K.z K.ty := (Blk.new_at (w := w.alloc _) (by simp) K.z K.ty).alloc _
  have b2 : Blk (w3 K F fty w) (w.heap.size + 2) K.z K.ty := Blk.new_at (w := (w.alloc _).alloc _) (by simp) K.z K.ty
  have hR := hb.below hB
  generalize w3 K F fty w = W at *
  have h := read_any F1 #[.pointer (some ⟨w.heap.size, 0, none⟩), .pointer (some ⟨w.heap.size + 2, 0, none⟩)] vb l
    (fun l2 w2 => ∃ w1, Below (w.heap.size + 3) W w1 ∧ w1.heap.size = w.heap.size + 7 ∧ RA K spec w.heap.size l w1 l2 w2) (fun w2 => ∃ w1, Below (w.heap.size + 3) W w1 ∧ w1.heap.size = w.heap.size + 7 ∧ RB spec w.heap.size l w1 w2) W hR hen
  rw [hz] at h
  refine (h ?_).mono ?_
  · intro w1 h2 h3 h4
    refine (h1 w.heap.size vb l w1 ⟨h4, b0.below h3 (by omega), b2.below h3 (by omega), by omega, hvb⟩).mono ?_
    intro e w2 hD
    exact doesMono hD (fun l2 hA => ⟨w1, h3, by omega, hA⟩) (fun hB => ⟨w1, h3, by omega, hB⟩)
  · rintro e w' ⟨w2, hP, hway⟩
    have hbl : ∀ w1, Below (w.heap.size + 3) W w1 → w1.heap.size = w.heap.size + 7 → Fr3 w.heap.size w1 w2 → Below w.heap.size w w' ∧ w.heap.size + 7 ≤ w'.heap.size ∧ Blk w' (w.heap.size + 1) K.z K.ty := by
      intro w1 h1 h2 hf
      refine ⟨⟨hP.os.trans (hf.os.trans (h1.os.trans hB.os)), hP.tape.trans (hf.tape.trans (h1.tape.trans hB.tape)), hP.output.trans (hf.output.trans (h1.output.trans hB.output)), ?_, ?_⟩, ?_, ?_⟩
      · have := hf.size; rw [hP.size]; omega
      · intro k hk
        rw [hP.block k (Or.inl (by omega)), hf.block k (by omega) (by omega) (by omega), h1.block k (by omega), hB.block k hk]
      · have := hf.size; rw [hP.size]; omega
      · have hb1 := b1.below h1 (by omega)
        unfold Blk at hb1 ⊢
        rw [hP.block _ (Or.inl (by omega)), hf.block _ (by omega) (by omega) (by omega)]
        exact hb1
    rcases hway with ⟨l2, ⟨w1, h1, h2, a, cs, hs, c2, hG, hf⟩, rfl⟩ | ⟨⟨w1, h1, h2, hs, hf⟩, rfl⟩
    · obtain ⟨k1, k2, k3⟩ := hbl w1 h1 h2 hf
      refine ⟨_, rfl, k1, k2, k3, ?_⟩
      cases l2 with
      | nil => exact Or.inl ⟨if_pos rfl, a, cs, by rw [hs]; rfl, c2.past4 hP (by omega), hK.same hG fun k h3 _ => hP.block k (Or.inr (by omega))⟩
      | cons x y => exact Or.inr ⟨if_neg (by simp), by rw [hs]; rfl⟩
    · obtain ⟨k1, k2, k3⟩ := hbl w1 h1 h2 hf
      exact ⟨_, rfl, k1, k2, k3, Or.inr ⟨rfl, by rw [hs]; rfl⟩⟩
theorem results_row_tmp5 {fn : Func} {p u : Tmp} {ty : TypeId} (h : fn.results = #[.cell p ty, .tmp u]) (tmps : Array Value) (P : Program) (w : World) (g : Nat) (t : TypeId) (cs : List Value) (d : TypeDesc) (x : Value)
    (hp : tmps.getD p undef = .pointer (some ⟨g, 0, none⟩)) (hx : tmps.getD u undef = x) (hg : Blk w g cs t) (hu : P.underlying ty = some d) (hd : d.isRow = true) (hi : (P.info? ty).map (·.size) = some cs.length) :
    (results fn tmps).run P w = .ok (.tuple #[.agg cs.toArray, x]) w := by
  rw [results_cell_tmp h, hp, hx]
  simp only [asAddr, Sem.run_pure, Result.andThen_ok, run_loadVar_mid w g 0 ty cs d hg.range hu hd hi]
end Go.Proofs.YtableajopaappaaDoor
/- The four kinds of things; the walks of record's read, and of ReadBinding, ReadRequest, ReadSigned and ReadProof by what reads one. -/
namespace Go.Proofs.YtableajopaappaaDoor
open Go.RowKit
set_option maxRecDepth 100000
def sgnV (ep : Nat) (x y z : List (BitVec 8)) (vs : Value) : List Value := .int .u64 (ep : Int) :: (cb x ++ (cb y ++ (cb z ++ [vs])))
theorem OwnB.one {w : World} {base : Nat} {v : Value} {l : List (BitVec 8)} (h : OwnB w base v l) : v.oneCell' = true := by
  obtain ⟨ad, c, rfl, _⟩ := h.reads
  rfl
theorem OwnB.keep {w w' : World} {base : Nat} {v : Value} {l : List (BitVec 8)} (h : OwnB w base v l) (hs : ∀ k, base ≤ k → k < w.heap.size → w'.heap[k]? = w.heap[k]?) : OwnB w' base v l := h.same fun k hk => hs k (h.own k hk) (h.lt k hk)
def sgnK : Kd (Nat × List (BitVec 8) × List (BitVec 8) × List (BitVec 8) × List (BitVec 8)) := { ty := 30, z := sgnV 0 zb32 zb32 zb32 nilV, G := fun w b a cs => ∃ vs, cs = sgnV a.1 a.2.1 a.2.2.1 a.2.2.2.1 vs ∧ OwnB w b vs a.2.2.2.2 ∧ a.2.1.length = 32 ∧ a.2.2.1.length = 32 ∧ a.2.2.2.1.length = 32 ∧ a.1 < 18446744073709551616 }
theorem cb_one' {l : List (BitVec 8)} {v : Value} (h : v ∈ cb l) : v.oneCell' = true := cb_one l v h
theorem sgnK_ok : KdOk sgnK where
  info := by kernel_rfl
  len := by rintro w b a cs ⟨vk, rfl, _, h1, h2, h3, _⟩; simp only [sgnV, sgnK, List.length_cons, List.length_append, List.length_nil, cb_len, h1, h2, h3, len_zb32]
  one := by
    rintro w b a cs ⟨vk, rfl, ho, _⟩ v hv
    simp only [sgnV, List.mem_cons, List.mem_append, List.not_mem_nil, or_false] at hv
    rcases hv with rfl | hv | hv | hv | rfl
    · rfl
    · exact cb_one' hv
    · exact cb_one' hv
    · exact cb_one' hv
    · exact ho.one
  same := by rintro w w' b a cs ⟨vk, rfl, ho, h⟩ hs; exact ⟨vk, rfl, ho.keep hs, h⟩
  mono := by rintro w b b' a cs ⟨vk, rfl, ho, h⟩ hb; exact ⟨vk, rfl, ho.mono hb, h⟩
  zone := by
    intro v hv
    simp only [sgnK, sgnV, List.mem_cons, List.mem_append, List.not_mem_nil, or_false] at hv
    rcases hv with rfl | hv | hv | hv | rfl
    · rfl
    · exact cb_one' hv
    · exact cb_one' hv
    · exact cb_one' hv
    · rfl
theorem allocSigned (f : Operand → Value) (o : Oper) (ho : o.op = .alloc 30) (w : World) : (execOp f o).run Tryd.prog w = .ok (.value (.pointer (some ⟨w.heap.size, 0, none⟩))) (w.alloc (.cells sgnK.z.toArray 30)) := by
  unfold execOp
  rw [ho]
  kernel_rfl
theorem enter_ofSigned1 : ∀ xs w, (callFunc 84 xs).run Tryd.prog w = .ok (.enter 84 xs) w := fun _ _ => by kernel_rfl
set_option maxRecDepth 100000 in
set_option maxHeartbeats 1000000 in
theorem ofSigned1_any {spec} (hOne : OneDoes sgnK 59 spec) (hnil : spec [] = none) (g : Nat) (vb : Value) (l : List (BitVec 8)) (w1 : World) (h : At1 sgnK 59 92 g vb l w1) :
    Calls Tryd.prog 84 #[.pointer (some ⟨g + 6, 0, none⟩), .pointer (some ⟨g, 0, none⟩), .pointer (some ⟨g + 2, 0, none⟩)] w1 (Does (g + 3) (RA sgnK spec g l w1) (RB spec g l w1) w1) := by
  have HA : Hid (At1 sgnK 59 92 g vb l w1) := h
  have HN : Hid (spec [] = none) := hnil
  have HO : Hid (OneDoes sgnK 59 spec) := hOne
  have c0 : w1.cell? ⟨g, 0, none⟩ = some (.func (.func 59) #[] #[]) := h.fn.cell 0
  clear h hnil hOne
  go_enter Tryd.func84, Tryd.ntmps84
  go_wp2_with fail
  refine Calls.mono (HO.out (g + 6) (g + 4) vb l w1 HA.out.rd) ?_
  rintro e w2 (⟨a, r, va, v2, hs, rfl, ⟨cs, rfl, hG⟩, hrd, ho, hob⟩ | ⟨hs, hT⟩)
  case inr =>
    have HD : Hid (Does (g + 3) (RA sgnK spec g l w1) (RB spec g l w1) w1 (thrown (g + 4)) w2) := HA.out.threw hT hs
    obtain rfl := hT.eq
    unfold thrown at HD ⊢
    clear hT HA hs
    go_wp2
    exact ⟨rfl, HD.out⟩
  have HD : Hid (Does (g + 3) (RA sgnK spec g l w1) (RB spec g l w1) w1 (.returned (.tuple #[])) (w2.setCells (g + 2) 0 cs)) := HA.out.done sgnK_ok HN.out hs hG hrd ho hob
  have HT : Hid (w2.there (g + 2) 0 cs.toArray.size) := HA.out.there sgnK_ok ho hG
  have HI : Hid ((Tryd.prog.info? 30).map (·.size) = some cs.toArray.size) := sgnK_ok.size hG
  have H1 : Hid (cs.toArray.all (·.oneCell') = true) := all_oneCell_toArray (sgnK_ok.one hG)
  clear hs hG hrd ho hob HA c0
  go_wp2_with (refine wpList_store_mid rfl 30 _ _ rfl (g + 2) 0 cs.toArray rfl rfl HT.out HI.out H1.out ?_)
  go_end0
  exact HD.out
set_option maxRecDepth 100000 in
set_option maxHeartbeats 1000000 in
theorem ofSigned_any {spec} (hOne : OneDoes sgnK 59 spec) (hnil : spec [] = none) (vb : Value) (l : List (BitVec 8)) (w : World) (hb : Reads w vb l) :
    Calls Tryd.prog 58 #[vb, .func (.func 59) #[] #[]] w (RdRes sgnK w (whole (spec l))) := by
  have hmf : ∀ (fn : Fn) (first cap : Array Value) (w : World), (Instr.makeFunc fn first cap).run Tryd.prog w = .ok (.func fn first cap) w := fun _ _ _ _ => rfl
  obtain ⟨g, HG⟩ : ∃ g, Hid (w.heap.size = g) := ⟨_, rfl⟩
  have HRd : Hid (Calls Tryd.prog 79 #[vb, .func (.func 84) #[] #[.pointer (some ⟨g, 0, none⟩), .pointer (some ⟨g + 2, 0, none⟩)]] (w3 sgnK 59 92 w) fun e w' => ∃ en, e = .returned (.int .i64 en) ∧ RdoT sgnK spec g l w w' en) :=
    rd_of sgnK_ok 59 84 92 spec enter_ofSigned1 (fun g vb l w1 h => ofSigned1_any hOne hnil g vb l w1 h) g vb l w HG.out hb
  clear hb hOne hnil
  go_enter Tryd.func58, Tryd.ntmps58
  go_wp2_with fail
  generalize hoz : Obj.cells _ 30 = oz
  have hz : oz = Obj.cells sgnK.z.toArray 30 := hoz.symm
  clear hoz
  subst hz
  have e0 : (some ⟨w.heap.size, 0, none⟩ : Option Addr) = some ⟨g, 0, none⟩ := by rw [HG.out]
  have e1 : (some ⟨w.heap.size + 1, 0, none⟩ : Option Addr) = some ⟨g + 1, 0, none⟩ := by rw [HG.out]
  have e2 : (some ⟨w.heap.size + 1 + 1, 0, none⟩ : Option Addr) = some ⟨g + 2, 0, none⟩ := by rw [HG.out]
  simp only [e0, e1, e2]
  clear e0 e1 e2
  refine Calls.mono HRd.out ?_
  rintro e w5 ⟨en, rfl, hO⟩
  have HO : Hid (RdoT sgnK spec g l w w5 en) := hO
  clear hO HRd
  rcases HO.out.out with ⟨rfl, a, cs, hw, b2, hG⟩ | ⟨rfl, hw⟩
  · have HW : Hid (whole (spec l) = some a) := hw
    have HGG : Hid (sgnK.G w5 (g + 7) a cs) := hG
    have HR : Hid (Blk w5 (g + 1) sgnK.z 30) := HO.out.res
    have HB2 : Hid (Blk w5 (g + 2) cs 30) := b2
    have HI : Hid ((Tryd.prog.info? 30).map (·.size) = some cs.length) := by have := sgnK_ok.size hG; rw [List.size_toArray] at this; exact this
    have H1 : Hid (cs.toArray.all (·.oneCell') = true) := all_oneCell_toArray (sgnK_ok.one hG)
    have HLN : Hid (cs.length = sgnK.z.length) := sgnK_ok.len hG
    clear hw hG b2
    go_wp2_with (first
      | (refine wpSeq_val (.agg cs.toArray) _ (by rfl) (load_run 30 _ rfl (g + 2) 0 rfl cs _ HB2.out.range Tryd.underlying30 rfl HI.out) ?_)
      | (refine wpList_store_mid rfl 30 _ _ rfl (g + 1) 0 cs.toArray rfl rfl (HR.out.there 0 _ (by rw [List.size_toArray, HLN.out]; omega)) (by rw [List.size_toArray]; exact HI.out) H1.out ?_))
    have hB6 := HR.out.whole cs HLN.out
    have ha : At (g + 1) w5 (w5.setCells (g + 1) 0 cs) := At.setCells _ _ _ (At.refl _ _)
    refine bodyPost_ret (v := .tuple #[.agg cs.toArray, .int .i64 0]) (results_row_tmp5 (by rfl) _ _ _ (g + 1) 30 cs _ (.int .i64 0) rfl rfl hB6 Tryd.underlying30 rfl HI.out) rfl ⟨?_, Or.inl ⟨a, cs, HW.out, rfl, ?_⟩⟩
    · rw [HG.out]
      exact Below.setCells _ (by omega) _ _ _ HO.out.bel
    · rw [HG.out]
      exact sgnK_ok.mono (sgnK_ok.same HGG.out fun k h1 _ => ha.block k (by omega)) (by omega)
  · have HW : Hid (whole (spec l) = none) := hw
    have HR : Hid (Blk w5 (g + 1) sgnK.z 30) := HO.out.res
    have HI : Hid ((Tryd.prog.info? 30).map (·.size) = some sgnK.z.length) := sgnK_ok.info
    have H1 : Hid (sgnK.z.toArray.all (·.oneCell') = true) := all_oneCell_toArray sgnK_ok.zone
    have HRA : Hid (Blk (w5.alloc (.cells sgnK.z.toArray 30)) (g + 1) sgnK.z 30) := HR.out.alloc _
    have HNA : Hid (Blk (w5.alloc (.cells sgnK.z.toArray 30)) w5.heap.size sgnK.z 30) := Blk.new _ _ _
    clear hw HR
    go_wp2_with (first
      | (refine wpSeq_val (.pointer (some ⟨w5.heap.size, 0, none⟩)) (w5.alloc (.cells sgnK.z.toArray 30)) (by rfl) (allocSigned _ _ rfl _) ?_)
      | (refine wpSeq_val (.agg sgnK.z.toArray) _ (by rfl) (load_run 30 _ rfl w5.heap.size 0 rfl sgnK.z _ HNA.out.range Tryd.underlying30 rfl HI.out) ?_)
      | (refine wpList_store_mid rfl 30 _ _ rfl (g + 1) 0 sgnK.z.toArray rfl rfl (HRA.out.there 0 _ (by rw [List.size_toArray]; omega)) (by rw [List.size_toArray]; exact HI.out) H1.out ?_))
    have hB6 := HRA.out.whole sgnK.z rfl
    refine bodyPost_ret (v := .tuple #[.agg sgnK.z.toArray, .int .i64 3]) (results_row_tmp5 (by rfl) _ _ _ (g + 1) 30 sgnK.z _ (.int .i64 3) rfl rfl hB6 Tryd.underlying30 rfl HI.out) rfl ⟨?_, Or.inr ⟨HW.out, rfl⟩⟩
    rw [HG.out]
    exact Below.setCells _ (by omega) _ _ _ (HO.out.bel.alloc (by have := HO.out.sz; omega) _)
set_option maxRecDepth 100000 in
set_option maxHeartbeats 1000000 in
theorem rdSigned_any {spec} (hOne : OneDoes sgnK 59 spec) (hnil : spec [] = none) (vb : Value) (l : List (BitVec 8)) (w : World) (hb : Reads w vb l) :
    Calls Tryd.prog 33 #[vb] w (RdRes sgnK w (whole (spec l))) := by
  have HO : Hid (OneDoes sgnK 59 spec) := hOne
  have HN : Hid (spec [] = none) := hnil
  have HB : Hid (Reads w vb l) := hb
  clear hOne hnil hb
  go_enter Tryd.func33, Tryd.ntmps33
  go_wp2_with fail
  generalize hoz : Obj.cells _ 30 = oz
  have hz : oz = Obj.cells sgnK.z.toArray 30 := hoz.symm
  clear hoz
  subst hz
  have HB0 : Hid (Below w.heap.size w (w.alloc (.cells sgnK.z.toArray 30))) := below_alloc _ _
  have HZ0 : Hid (Blk (w.alloc (.cells sgnK.z.toArray 30)) w.heap.size sgnK.z 30) := Blk.new _ _ _
  have HR0 : Hid (Reads (w.alloc (.cells sgnK.z.toArray 30)) vb l) := HB.out.below HB0.out
  generalize w.alloc (.cells sgnK.z.toArray 30) = w0 at *
  refine Calls.mono (ofSigned_any HO.out HN.out vb l w0 HR0.out) ?_
  rintro e w1 ⟨hb1, h⟩
  have HB1 : Hid (Below w.heap.size w w1) := HB0.out.trans (hb1.mono HB0.out.size)
  have HZ1 : Hid (Blk w1 w.heap.size sgnK.z 30) := HZ0.out.below hb1 HZ0.out.lt
  have HLT : Hid (w.heap.size < w0.heap.size) := HZ0.out.lt
  clear hb1 HB0 HZ0 HR0 HB HO HN
  rcases h with ⟨a, cs, hw, rfl, hG⟩ | ⟨hw, rfl⟩
  · have HW : Hid (whole (spec l) = some a) := hw
    have HGG : Hid (sgnK.G w1 w0.heap.size a cs) := hG
    have HI : Hid ((Tryd.prog.info? 30).map (·.size) = some cs.length) := by have := sgnK_ok.size hG; rw [List.size_toArray] at this; exact this
    have H1 : Hid (cs.toArray.all (·.oneCell') = true) := all_oneCell_toArray (sgnK_ok.one hG)
    have HLN : Hid (cs.length = sgnK.z.length) := sgnK_ok.len hG
    clear hw hG
    go_wp2_with (refine wpList_store_mid rfl 30 _ _ rfl w.heap.size 0 cs.toArray rfl rfl (HZ1.out.there 0 _ (by rw [List.size_toArray, HLN.out]; omega)) (by rw [List.size_toArray]; exact HI.out) H1.out ?_)
    have hB6 := HZ1.out.whole cs HLN.out
    have ha : At w.heap.size w1 (w1.setCells w.heap.size 0 cs) := At.setCells _ _ _ (At.refl _ _)
    refine bodyPost_ret (v := .tuple #[.agg cs.toArray, .int .i64 0]) (results_row_tmp5 (by rfl) _ _ _ w.heap.size 30 cs _ (.int .i64 0) rfl rfl hB6 Tryd.underlying30 rfl HI.out) rfl ⟨Below.setCells _ (Nat.le_refl _) _ _ _ HB1.out, Or.inl ⟨a, cs, HW.out, rfl, ?_⟩⟩
    have hlt := HLT.out
    exact sgnK_ok.mono (sgnK_ok.same HGG.out fun k h1 _ => ha.block k (by omega)) (by omega)
  · have HW : Hid (whole (spec l) = none) := hw
    have HI : Hid ((Tryd.prog.info? 30).map (·.size) = some sgnK.z.length) := sgnK_ok.info
    have H1 : Hid (sgnK.z.toArray.all (·.oneCell') = true) := all_oneCell_toArray sgnK_ok.zone
    clear hw
    go_wp2_with (refine wpList_store_mid rfl 30 _ _ rfl w.heap.size 0 sgnK.z.toArray rfl rfl (HZ1.out.there 0 _ (by rw [List.size_toArray]; omega)) (by rw [List.size_toArray]; exact HI.out) H1.out ?_)
    have hB6 := HZ1.out.whole sgnK.z rfl
    exact bodyPost_ret (v := .tuple #[.agg sgnK.z.toArray, .int .i64 3]) (results_row_tmp5 (by rfl) _ _ _ w.heap.size 30 sgnK.z _ (.int .i64 3) rfl rfl hB6 Tryd.underlying30 rfl HI.out) rfl ⟨Below.setCells _ (Nat.le_refl _) _ _ _ HB1.out, Or.inr ⟨HW.out, rfl⟩⟩
end Go.Proofs.YtableajopaappaaDoor
/- The walks of record's readNameAndKey and readBinding. -/
namespace Go.Proofs.YtableajopaappaaDoor
open Go.RowKit
set_option maxRecDepth 100000
/-- where a reading stands -/
structure Nk (w : World) (gr gi : Nat) (v vc : Value) (lc : List (BitVec 8)) (t : TypeId) (z : List Value) (wc : World) : Prop where
  rd : Rd wc gr gi vc lc
  onl : Only gi w wc
  ob : vc.ownBlock = v.ownBlock
  res : Blk wc w.heap.size z t
  gr : gr < w.heap.size
  gi : gi < w.heap.size
theorem Nk.call {w wc w' : World} {gr gi : Nat} {v vc v2 : Value} {lc r : List (BitVec 8)} {t : TypeId} {z : List Value} (h : Nk w gr gi v vc lc t z wc) (hrd : Rd w' gr gi v2 r) (ho : Only gi wc w') (hob : v2.ownBlock = vc.ownBlock) : Nk w gr gi v v2 r t z w' :=
  ⟨hrd, h.onl.trans ho, hob.trans h.ob, h.res.only ho (by have := h.gi; omega), h.gr, h.gi⟩
theorem Nk.below {w wc w' : World} {gr gi : Nat} {v vc : Value} {lc : List (BitVec 8)} {t : TypeId} {z : List Value} (h : Nk w gr gi v vc lc t z wc) (hb : Below wc.heap.size wc w') : Nk w gr gi v vc lc t z w' :=
  ⟨h.rd.below hb, h.onl.trans (Only.of_below hb), h.ob, h.res.below hb h.res.lt, h.gr, h.gi⟩
theorem Nk.rdAt {w wc w' : World} {gr gi g : Nat} {v vc : Value} {lc : List (BitVec 8)} {t : TypeId} {z : List Value} (h : Nk w gr gi v vc lc t z wc) (ha : At g wc w') (hg : w.heap.size ≤ g) (hv : ∀ j, v.ownBlock = some j → j < w.heap.size) : Rd w' gr gi vc lc :=
  ⟨h.rd.rd.at ha (by have := h.gr; omega), h.rd.inp.at ha (by have := h.gi; omega), h.rd.byt.at ha (fun _ j hj => by have := hv j (h.ob ▸ hj); omega)⟩
theorem Nk.onlAt {w wc w' : World} {gr gi g : Nat} {v vc : Value} {lc : List (BitVec 8)} {t : TypeId} {z : List Value} (h : Nk w gr gi v vc lc t z wc) (ha : At g wc w') (hg : w.heap.size ≤ g) : Only gi w w' :=
  ⟨ha.os.trans h.onl.os, ha.tape.trans h.onl.tape, ha.output.trans h.onl.output, by rw [ha.size]; exact h.onl.size, fun k h1 h2 => (ha.block k (by omega)).trans (h.onl.block k h1 h2)⟩
theorem Nk.at {w wc w' : World} {gr gi g : Nat} {v vc : Value} {lc : List (BitVec 8)} {t : TypeId} {z : List Value} (h : Nk w gr gi v vc lc t z wc) (ha : At g wc w') (hg : w.heap.size < g) (hv : ∀ j, v.ownBlock = some j → j < w.heap.size) : Nk w gr gi v vc lc t z w' :=
  ⟨h.rdAt ha (by omega) hv, h.onlAt ha (by omega), h.ob, h.res.at ha (by omega), h.gr, h.gi⟩
end Go.Proofs.YtableajopaappaaDoor
/- The walks of record's readBinding, readRequest and readSigned. -/
namespace Go.Proofs.YtableajopaappaaDoor
open Go.RowKit
set_option maxRecDepth 100000
theorem num_lt {l r : List (BitVec 8)} {n : Nat} (h : readNum l = some (n, r)) : n < 18446744073709551616 := ((readNum_iff _ _ _).1 h).1
theorem cell_len {a : List Value} {n : Nat} {v : Value} {b : List Value} (h : a.length = n) : (a ++ (v :: b))[n]? = some v := by subst h; simp
theorem Blk.mid {w : World} {g off : Nat} {A B B2 C : List Value} {t : TypeId} (h : Blk w g (A ++ (B ++ C)) t) (hl : B2.length = B.length) (ho : A.length = off) : Blk (w.setCells g off B2) g (A ++ (B2 ++ C)) t := by
  subst ho
  have h2 := setCells_eq g B2 A.length w _ t h (by simp only [List.length_append]; omega)
  have e : (A ++ (B ++ C)).take A.length ++ B2 ++ (A ++ (B ++ C)).drop (A.length + B2.length) = A ++ (B2 ++ C) := by
    rw [List.take_left, ← List.drop_drop, List.drop_left, hl, List.drop_left, List.append_assoc]
  rwa [e] at h2
theorem sgnV_x {ep : Nat} {x y z x2 : List (BitVec 8)} {vs : Value} {w : World} {g : Nat} {t : TypeId} (h : Blk w g (sgnV ep x y z vs) t) (hx : x.length = 32) (h2 : x2.length = 32) : Blk (w.setCells g 1 (cb x2)) g (sgnV ep x2 y z vs) t :=
  Blk.mid (A := [.int .u64 (ep : Int)]) (B := cb x) (C := cb y ++ (cb z ++ [vs])) h (by rw [cb_len, cb_len, hx, h2]) rfl
theorem sgnV_y {ep : Nat} {x y z y2 : List (BitVec 8)} {vs : Value} {w : World} {g : Nat} {t : TypeId} (h : Blk w g (sgnV ep x y z vs) t) (hx : x.length = 32) (hy : y.length = 32) (h2 : y2.length = 32) : Blk (w.setCells g 33 (cb y2)) g (sgnV ep x y2 z vs) t := by
  have e : ∀ u, sgnV ep x u z vs = (.int .u64 (ep : Int) :: cb x) ++ (cb u ++ (cb z ++ [vs])) := fun u => by simp only [sgnV, List.cons_append]
  rw [e] at h ⊢
  exact h.mid (by rw [cb_len, cb_len, hy, h2]) (by rw [List.length_cons, cb_len, hx])
theorem sgnV_z {ep : Nat} {x y z z2 : List (BitVec 8)} {vs : Value} {w : World} {g : Nat} {t : TypeId} (h : Blk w g (sgnV ep x y z vs) t) (hx : x.length = 32) (hy : y.length = 32) (hz : z.length = 32) (h2 : z2.length = 32) : Blk (w.setCells g 65 (cb z2)) g (sgnV ep x y z2 vs) t := by
  have e : ∀ u, sgnV ep x y u vs = (.int .u64 (ep : Int) :: (cb x ++ cb y)) ++ (cb u ++ [vs]) := fun u => by simp only [sgnV, List.cons_append, List.append_assoc]
  rw [e] at h ⊢
  exact h.mid (by rw [cb_len, cb_len, hz, h2]) (by rw [List.length_cons, List.length_append, cb_len, cb_len, hx, hy])
theorem sgnV_split (ep : Nat) (x y z : List (BitVec 8)) (vs : Value) : sgnV ep x y z vs = (.int .u64 (ep : Int) :: (cb x ++ (cb y ++ cb z))) ++ [vs] := by simp only [sgnV, List.cons_append, List.append_assoc]
theorem sgnV_len {ep : Nat} {x y z : List (BitVec 8)} (hx : x.length = 32) (hy : y.length = 32) (hz : z.length = 32) : (Value.int .u64 (ep : Int) :: (cb x ++ (cb y ++ cb z))).length = 97 := by simp only [List.length_cons, List.length_append, cb_len, hx, hy, hz]
theorem sgnV_sig {ep : Nat} {x y z : List (BitVec 8)} {vs v2 : Value} {w : World} {g : Nat} {t : TypeId} (h : Blk w g (sgnV ep x y z vs) t) (hx : x.length = 32) (hy : y.length = 32) (hz : z.length = 32) : Blk (w.setCell ⟨g, 97, none⟩ v2) g (sgnV ep x y z v2) t := by
  rw [sgnV_split] at h ⊢
  have h2 := h.set 97 v2
  rwa [List.set_append_right _ _ (by rw [sgnV_len hx hy hz]; omega), sgnV_len hx hy hz] at h2
theorem sgnV_last {ep : Nat} {x y z : List (BitVec 8)} {vs : Value} {w : World} {g : Nat} {t : TypeId} (h : Blk w g (sgnV ep x y z vs) t) (hx : x.length = 32) (hy : y.length = 32) (hz : z.length = 32) : w.cell? ⟨g, 97, none⟩ = some vs := by
  rw [h.cell, sgnV_split]
  exact cell_len (sgnV_len hx hy hz)
theorem sgnV_total {ep : Nat} {x y z : List (BitVec 8)} {vs : Value} (hx : x.length = 32) (hy : y.length = 32) (hz : z.length = 32) : (sgnV ep x y z vs).length = 98 := by rw [sgnV_split, List.length_append, sgnV_len hx hy hz]; rfl
theorem nil_of {α : Type} {f : List (BitVec 8) → Option (α × List (BitVec 8))} (h : f [] = none) {l r : List (BitVec 8)} {a : α} (hl : f l = some (a, r)) : 0 < l.length := by
  cases l with
  | nil => rw [h] at hl; cases hl
  | cons x y => simp
theorem cut32_len {l a r : List (BitVec 8)} (h : cut 32 l = some (a, r)) : a.length = 32 := ((codes_cut 32 _ _ _).1 h).1
theorem len0 : zb32.length = 32 := len_zb32
set_option maxRecDepth 100000 in
set_option maxHeartbeats 2000000 in
theorem readSigned_one : OneDoes sgnK 59 signedR := by
  intro gr gi v l w h
  have HVB : Hid (0 < l.length → ∀ k, v.ownBlock = some k → k < w.heap.size) := h.byt.inB
  have HGI : Hid (gi < w.heap.size) := h.inp.lt
  have HNK : Hid (Nk w gr gi v v l 30 sgnK.z (w.alloc (.cells sgnK.z.toArray 30))) := ⟨h.below (below_alloc _ _), Only.of_below (below_alloc _ _), rfl, Blk.new _ _ _, h.rd.lt, h.inp.lt⟩
  clear h
  go_enter Tryd.func59, Tryd.ntmps59
  go_wp2_with fail
  have HNK0 : Hid (Nk w gr gi v v l 30 sgnK.z ((w.alloc (.cells sgnK.z.toArray 30)).alloc (.cells sgnK.z.toArray 30))) := HNK.out.below (below_alloc _ _)
  have HGA : Hid (Blk ((w.alloc (.cells sgnK.z.toArray 30)).alloc (.cells sgnK.z.toArray 30)) (w.heap.size + 1) (sgnV 0 zb32 zb32 zb32 nilV) 30) := Blk.new_at (by simp) _ _
  have HSZ : Hid (w.heap.size + 2 ≤ ((w.alloc (.cells sgnK.z.toArray 30)).alloc (.cells sgnK.z.toArray 30)).heap.size) := by show _ ≤ _; simp
  clear HNK
  have HNK := HNK0
  clear HNK0
  change Calls _ _ _ ((w.alloc (.cells sgnK.z.toArray 30)).alloc (.cells sgnK.z.toArray 30)) _
  generalize (w.alloc (.cells sgnK.z.toArray 30)).alloc (.cells sgnK.z.toArray 30) = w0 at *
  obtain ⟨ga, HGE⟩ : ∃ x, Hid (x = w.heap.size + 1) := ⟨_, rfl⟩
  have HGL : Hid (w.heap.size < ga) := by show _ < _; rw [HGE.out]; omega
  rw [← HGE.out] at HGA ⊢
  refine (crnum_any gr gi v l w0 HNK.out.rd).mono ?_
  rintro e w1 (⟨ep, r1, va1, v1, hc, rfl, rfl, hrd, ho, hob⟩ | ⟨hc, hT⟩)
  case inr =>
    have HD : Hid (RdDoes gr gi v w (signedR l) (fun a w' v => ∃ cs : List Value, v = .agg cs.toArray ∧ sgnK.G w' w.heap.size a cs) (thrown gi) w1) := Or.inr ⟨thenR_none hc, Threw.after HNK.out.onl (hT.eq ▸ hT)⟩
    obtain rfl := hT.eq
    unfold thrown at HD ⊢
    clear hT
    go_wp2
    exact ⟨rfl, HD.out⟩
  have HS1 : Hid (readNum l = some (ep, r1)) := hc
  have HVV : Hid (∀ k, v.ownBlock = some k → k < w.heap.size) := HVB.out (nil_of rfl hc)
  have HEP : Hid (ep < 18446744073709551616) := num_lt hc
  have hGA := HGA.out.only ho (by have := HGL.out; have := HGI.out; omega)
  have hat : At ga w1 (w1.setCell ⟨ga, 0, none⟩ (.int .u64 (ep : Int))) := (At.refl _ _).setCell _ _
  have HGB : Hid (Blk (w1.setCell ⟨ga, 0, none⟩ (.int .u64 (ep : Int))) ga (sgnV ep zb32 zb32 zb32 nilV) 30) := hGA.set 0 _
  have HNK2 : Hid _ := (HNK.out.call hrd ho hob).at hat HGL.out HVV.out
  have HSZ2 : Hid (w.heap.size + 2 ≤ (w1.setCell ⟨ga, 0, none⟩ (.int .u64 (ep : Int))).heap.size) := by show _ ≤ _; rw [hat.size]; exact Nat.le_trans HSZ.out ho.size
  have c0 : w1.cell? ⟨ga, 0, none⟩ = some (.int .u64 0) := hGA.cell 0
  have f0 : w1.frozen? ⟨ga, 0, none⟩ = false := hGA.frozen 0
  clear HNK HGA HSZ hrd ho hob hc hGA hat
  have HNK := HNK2
  have HGA := HGB
  have HSZ := HSZ2
  clear HNK2 HGB HSZ2
  go_wp2_with fail
  clear c0 f0
  generalize w1.setCell ⟨ga, 0, none⟩ (.int .u64 (ep : Int)) = w2 at *
  refine (crdigest_any gr gi v1 r1 w2 HNK.out.rd).mono ?_
  rintro e w3 (⟨x, r2, va2, v2, hc, rfl, rfl, hrd, ho, hob⟩ | ⟨hc, hT⟩)
  case inr =>
    have HD : Hid (RdDoes gr gi v w (signedR l) (fun a w' v => ∃ cs : List Value, v = .agg cs.toArray ∧ sgnK.G w' w.heap.size a cs) (thrown gi) w3) := Or.inr ⟨thenR_no HS1.out (thenR_none hc), Threw.after HNK.out.onl (hT.eq ▸ hT)⟩
    obtain rfl := hT.eq
    unfold thrown at HD ⊢
    clear hT
    go_wp2
    exact ⟨rfl, HD.out⟩
  have HS2 : Hid (cut 32 r1 = some (x, r2)) := hc
  have HDL : Hid (x.length = 32) := cut32_len hc
  have hGA := HGA.out.only ho (by have := HGL.out; have := HGI.out; omega)
  have hat : At ga w3 (w3.setCells ga 1 (cb x)) := At.setCells _ _ _ (At.refl _ _)
  have HGB : Hid (Blk (w3.setCells ga 1 (cb x)) ga (sgnV ep x zb32 zb32 nilV) 30) := sgnV_x hGA len0 HDL.out
  have HNK2 : Hid _ := (HNK.out.call hrd ho hob).at hat HGL.out HVV.out
  have HSZ2 : Hid (w.heap.size + 2 ≤ (w3.setCells ga 1 (cb x)).heap.size) := by show _ ≤ _; rw [hat.size]; exact Nat.le_trans HSZ.out ho.size
  have HT : Hid (w3.there ga 1 (cb x).toArray.size) := hGA.there 1 _ (by rw [List.size_toArray, cb_len, HDL.out, sgnV_total len0 len0 len0]; omega)
  have HIZ : Hid ((Tryd.prog.info? 23).map (·.size) = some (cb x).toArray.size) := by show _ = _; rw [List.size_toArray, cb_len, HDL.out]; exact Tryd.infodig
  clear HNK HGA HSZ hrd ho hob hc hGA hat
  have HNK := HNK2
  have HGA := HGB
  have HSZ := HSZ2
  clear HNK2 HGB HSZ2
  go_wp2_with (refine wpList_store_mid rfl 23 _ _ rfl ga 1 (cb x).toArray rfl rfl HT.out HIZ.out (all_oneCell_toArray (cb_one x)) ?_)
  have HX := HDL
  clear HT HIZ HDL
  change Calls _ _ _ (w3.setCells ga 1 (cb x)) _
  generalize w3.setCells ga 1 (cb x) = w4 at *
  refine (crdigest_any gr gi v2 r2 w4 HNK.out.rd).mono ?_
  rintro e w5 (⟨y, r3, va3, v3, hc, rfl, rfl, hrd, ho, hob⟩ | ⟨hc, hT⟩)
  case inr =>
    have HD : Hid (RdDoes gr gi v w (signedR l) (fun a w' v => ∃ cs : List Value, v = .agg cs.toArray ∧ sgnK.G w' w.heap.size a cs) (thrown gi) w5) := Or.inr ⟨thenR_no HS1.out (thenR_no HS2.out (thenR_none hc)), Threw.after HNK.out.onl (hT.eq ▸ hT)⟩
    obtain rfl := hT.eq
    unfold thrown at HD ⊢
    clear hT
    go_wp2
    exact ⟨rfl, HD.out⟩
  have HS3 : Hid (cut 32 r2 = some (y, r3)) := hc
  have HDL : Hid (y.length = 32) := cut32_len hc
  have hGA := HGA.out.only ho (by have := HGL.out; have := HGI.out; omega)
  have hat : At ga w5 (w5.setCells ga 33 (cb y)) := At.setCells _ _ _ (At.refl _ _)
  have HGB : Hid (Blk (w5.setCells ga 33 (cb y)) ga (sgnV ep x y zb32 nilV) 30) := sgnV_y hGA HX.out len0 HDL.out
  have HNK2 : Hid _ := (HNK.out.call hrd ho hob).at hat HGL.out HVV.out
  have HSZ2 : Hid (w.heap.size + 2 ≤ (w5.setCells ga 33 (cb y)).heap.size) := by show _ ≤ _; rw [hat.size]; exact Nat.le_trans HSZ.out ho.size
  have HT : Hid (w5.there ga 33 (cb y).toArray.size) := hGA.there 33 _ (by rw [List.size_toArray, cb_len, HDL.out, sgnV_total HX.out len0 len0]; omega)
  have HIZ : Hid ((Tryd.prog.info? 23).map (·.size) = some (cb y).toArray.size) := by show _ = _; rw [List.size_toArray, cb_len, HDL.out]; exact Tryd.infodig
  clear HNK HGA HSZ hrd ho hob hc hGA hat
  have HNK := HNK2
  have HGA := HGB
  have HSZ := HSZ2
  clear HNK2 HGB HSZ2
  go_wp2_with (refine wpList_store_mid rfl 23 _ _ rfl ga 33 (cb y).toArray rfl rfl HT.out HIZ.out (all_oneCell_toArray (cb_one y)) ?_)
  have HY := HDL
  clear HT HIZ HDL
  change Calls _ _ _ (w5.setCells ga 33 (cb y)) _
  generalize w5.setCells ga 33 (cb y) = w6 at *
  refine (crdigest_any gr gi v3 r3 w6 HNK.out.rd).mono ?_
  rintro e w7 (⟨z, r4, va4, v4, hc, rfl, rfl, hrd, ho, hob⟩ | ⟨hc, hT⟩)
  case inr =>
    have HD : Hid (RdDoes gr gi v w (signedR l) (fun a w' v => ∃ cs : List Value, v = .agg cs.toArray ∧ sgnK.G w' w.heap.size a cs) (thrown gi) w7) := Or.inr ⟨thenR_no HS1.out (thenR_no HS2.out (thenR_no HS3.out (thenR_none hc))), Threw.after HNK.out.onl (hT.eq ▸ hT)⟩
    obtain rfl := hT.eq
    unfold thrown at HD ⊢
    clear hT
    go_wp2
    exact ⟨rfl, HD.out⟩
  have HS4 : Hid (cut 32 r3 = some (z, r4)) := hc
  have HDL : Hid (z.length = 32) := cut32_len hc
  have hGA := HGA.out.only ho (by have := HGL.out; have := HGI.out; omega)
  have hat : At ga w7 (w7.setCells ga 65 (cb z)) := At.setCells _ _ _ (At.refl _ _)
  have HGB : Hid (Blk (w7.setCells ga 65 (cb z)) ga (sgnV ep x y z nilV) 30) := sgnV_z hGA HX.out HY.out len0 HDL.out
  have HNK2 : Hid _ := (HNK.out.call hrd ho hob).at hat HGL.out HVV.out
  have HSZ2 : Hid (w.heap.size + 2 ≤ (w7.setCells ga 65 (cb z)).heap.size) := by show _ ≤ _; rw [hat.size]; exact Nat.le_trans HSZ.out ho.size
  have HT : Hid (w7.there ga 65 (cb z).toArray.size) := hGA.there 65 _ (by rw [List.size_toArray, cb_len, HDL.out, sgnV_total HX.out HY.out len0]; omega)
  have HIZ : Hid ((Tryd.prog.info? 23).map (·.size) = some (cb z).toArray.size) := by show _ = _; rw [List.size_toArray, cb_len, HDL.out]; exact Tryd.infodig
  clear HNK HGA HSZ hrd ho hob hc hGA hat
  have HNK := HNK2
  have HGA := HGB
  have HSZ := HSZ2
  clear HNK2 HGB HSZ2
  go_wp2_with (refine wpList_store_mid rfl 23 _ _ rfl ga 65 (cb z).toArray rfl rfl HT.out HIZ.out (all_oneCell_toArray (cb_one z)) ?_)
  have HZ := HDL
  clear HT HIZ HDL
  change Calls _ _ _ (w7.setCells ga 65 (cb z)) _
  generalize w7.setCells ga 65 (cb z) = w8 at *
  refine (crtext_any gr gi v4 r4 w8 HNK.out.rd).mono ?_
  rintro e w10 (⟨sg, r9, va9, v9, hc, rfl, hown, hrd, ho, hob⟩ | ⟨hc, hT⟩)
  case inr =>
    have HD : Hid (RdDoes gr gi v w (signedR l) (fun a w' v => ∃ cs : List Value, v = .agg cs.toArray ∧ sgnK.G w' w.heap.size a cs) (thrown gi) w10) := Or.inr ⟨thenR_no HS1.out (thenR_no HS2.out (thenR_no HS3.out (thenR_no HS4.out (hc)))), Threw.after HNK.out.onl (hT.eq ▸ hT)⟩
    obtain rfl := hT.eq
    unfold thrown at HD ⊢
    clear hT
    go_wp2
    exact ⟨rfl, HD.out⟩
  have HSP : Hid (signedR l = some ((ep, x, y, z, sg), r9)) := thenR_some HS1.out (thenR_some HS2.out (thenR_some HS3.out (thenR_some HS4.out hc)))
  have h8 : OwnB w10 (w.heap.size + 2) va9 sg := hown.mono HSZ.out
  have hGA := HGA.out.only ho (by have := HGL.out; have := HGI.out; omega)
  have c9 : w10.cell? ⟨ga, 97, none⟩ = some nilV := sgnV_last hGA HX.out HY.out HZ.out
  have f9 : w10.frozen? ⟨ga, 97, none⟩ = false := hGA.frozen 97
  have hat : At ga w10 (w10.setCell ⟨ga, 97, none⟩ va9) := (At.refl _ _).setCell _ _
  have HGB : Hid (Blk (w10.setCell ⟨ga, 97, none⟩ va9) ga (sgnV ep x y z va9) 30) := sgnV_sig hGA HX.out HY.out HZ.out
  have H8 : Hid (OwnB (w10.setCell ⟨ga, 97, none⟩ va9) (w.heap.size + 1) va9 sg) := (h8.same (fun k hk => hat.block k (by have := h8.own k hk; have := HGE.out; omega))).mono (by omega)
  have HNK2 : Hid _ := (HNK.out.call hrd ho hob).at hat HGL.out HVV.out
  clear HNK HGA hrd ho hob hc hGA hat
  have HNK := HNK2
  have HGA := HGB
  clear HNK2 HGB
  unfold nilV at c9
  obtain ⟨ad9, cp9, hv9, _, _, _⟩ := id hown.reads
  obtain ⟨n9, HN9⟩ : ∃ n, Hid (n = sg.length) := ⟨_, rfl⟩
  rw [← HN9.out] at hv9
  subst hv9
  clear hown h8 HSZ
  obtain ⟨w5, HW5⟩ : ∃ x, Hid (x = w10.setCell ⟨ga, 97, none⟩ (.slice ad9 n9 cp9)) := ⟨_, rfl⟩
  rw [← HW5.out] at HGA H8 HNK
  have HRES : Hid (Blk w5 w.heap.size sgnK.z 30) := HNK.out.res
  have HGG : Hid (sgnK.G w5 (w.heap.size + 1) (ep, x, y, z, sg) (sgnV ep x y z (.slice ad9 n9 cp9))) := ⟨_, rfl, H8.out, HX.out, HY.out, HZ.out, HEP.out⟩
  have HI : Hid ((Tryd.prog.info? 30).map (·.size) = some ((sgnV ep x y z (.slice ad9 n9 cp9))).length) := by have := sgnK_ok.size HGG.out; rw [List.size_toArray] at this; exact this
  have H1 : Hid (((sgnV ep x y z (.slice ad9 n9 cp9))).toArray.all (·.oneCell') = true) := all_oneCell_toArray (sgnK_ok.one HGG.out)
  have HLN : Hid (((sgnV ep x y z (.slice ad9 n9 cp9))).length = sgnK.z.length) := sgnK_ok.len HGG.out
  obtain ⟨cs, HCS⟩ : ∃ cs, Hid (cs = (sgnV ep x y z (.slice ad9 n9 cp9))) := ⟨_, rfl⟩
  rw [← HCS.out] at HGA HGG HI H1 HLN
  clear HCS
  clear H8
  go_wp2_with (first | (refine wpSeq_val (.agg cs.toArray) _ (by rfl) (load_run 30 _ rfl ga 0 rfl cs _ (HW5.out ▸ HGA.out.range) Tryd.underlying30 rfl HI.out) ?_) | (refine wpList_store_mid rfl 30 _ _ rfl w.heap.size 0 cs.toArray rfl rfl (HW5.out ▸ HRES.out.there 0 _ (by rw [List.size_toArray, HLN.out]; omega)) (by rw [List.size_toArray]; exact HI.out) H1.out ?_))
  rw [← HW5.out]
  have hat : At w.heap.size w5 (w5.setCells w.heap.size 0 cs) := At.setCells _ _ _ (At.refl _ _)
  have hB6 : Blk (w5.setCells w.heap.size 0 cs) w.heap.size cs 30 := HRES.out.whole cs HLN.out
  refine bodyPost_ret (v := .agg cs.toArray) (results_cell_row (by rfl) _ _ w.heap.size 30 _ (0, 0) _ rfl hB6 Tryd.underlying30 rfl (by rw [List.size_toArray]; exact HI.out)) rfl (Or.inl ⟨(ep, x, y, z, sg), r9, _, _, HSP.out, rfl, ⟨_, rfl, ?_⟩, ?_, ?_, HNK.out.ob⟩)
  · exact sgnK_ok.mono (sgnK_ok.same HGG.out fun k h1 _ => hat.block k (by omega)) (Nat.le_succ _)
  · exact HNK.out.rdAt hat (Nat.le_refl _) HVV.out
  · exact HNK.out.onlAt hat (Nat.le_refl _)
end Go.Proofs.YtableajopaappaaDoor
/- The walks of record's readRequest. -/
namespace Go.Proofs.YtableajopaappaaDoor
open Go.RowKit
set_option maxRecDepth 100000
end Go.Proofs.YtableajopaappaaDoor
/- The walk of record's readProof. -/
namespace Go.Proofs.YtableajopaappaaDoor
open Go.RowKit
set_option maxRecDepth 100000
theorem Nk.keep {w wc w' : World} {gr gi B : Nat} {v vc : Value} {lc : List (BitVec 8)} {t : TypeId} {z : List Value} (h : Nk w gr gi v vc lc t z wc) (hb : Below B wc w') (hB : w.heap.size < B) (hv : ∀ j, v.ownBlock = some j → j < w.heap.size) : Nk w gr gi v vc lc t z w' :=
  ⟨⟨h.rd.rd.below hb (by have := h.gr; omega), h.rd.inp.below hb (by have := h.gi; omega), h.rd.byt.keep hb (fun _ j hj => by have := hv j (h.ob ▸ hj); omega)⟩, ⟨hb.os.trans h.onl.os, hb.tape.trans h.onl.tape, hb.output.trans h.onl.output, Nat.le_trans h.onl.size hb.size, fun k h1 h2 => (hb.block k (by omega)).trans (h.onl.block k h1 h2)⟩, h.ob, h.res.below hb hB, h.gr, h.gi⟩
end Go.Proofs.YtableajopaappaaDoor
/- The reference's four reading functions: where a reading stands, what it comes to, the walk of its ReadBinding. -/
namespace Go.Proofs.YtableajopaappaaDoor
open Go.RowKit
set_option maxRecDepth 100000
/-- a was read up to p, or the reader is bad -/
def Mg {α : Type} (o : Option (α × List (BitVec 8))) (b0 b1 : Bool) (a : α) (l : List (BitVec 8)) (p : Nat) : Prop := (b1 = false ∧ b0 = false ∧ o = some (a, l.drop p)) ∨ (b1 = true ∧ (b0 = true ∨ o = none))
/-- where a reading of the reference stands: the result lies at the world's end, the reader behind it -/
structure Rf0 (w : World) (v : Value) (l : List (BitVec 8)) (p : Nat) (b : Bool) (t : TypeId) (z : List Value) (W : World) : Prop where
  inp : InS W (w.heap.size + 1) v l p b
  res : Blk W w.heap.size z t
  bel : Below w.heap.size w W
  vb : 0 < l.length → ∀ k, v.ownBlock = some k → k < w.heap.size
theorem Rf0.sz {w W : World} {v : Value} {l : List (BitVec 8)} {p : Nat} {b : Bool} {t : TypeId} {z : List Value} (h : Rf0 w v l p b t z W) : w.heap.size + 1 < W.heap.size := h.inp.blk.lt
theorem Rf0.call {w W W' : World} {v : Value} {l : List (BitVec 8)} {p p' : Nat} {b b' : Bool} {t : TypeId} {z : List Value} (h : Rf0 w v l p b t z W) (hs : InS W' (w.heap.size + 1) v l p' b') (ho : Only (w.heap.size + 1) W W') : Rf0 w v l p' b' t z W' :=
  ⟨hs, h.res.only ho (by omega), h.bel.trans (ho.below (by omega) h.bel.size), h.vb⟩
theorem Rf0.next {w W W' : World} {v : Value} {l : List (BitVec 8)} {p : Nat} {b : Bool} {t : TypeId} {z : List Value} (h : Rf0 w v l p b t z W) (hb : Below (w.heap.size + 2) W W') : Rf0 w v l p b t z W' :=
  ⟨h.inp.others (fun hp k hk => by have := h.vb hp k hk; omega) hb, h.res.below hb (by omega), h.bel.trans (hb.mono (by omega)), h.vb⟩
theorem Rf0.at {w W W' : World} {v : Value} {l : List (BitVec 8)} {p g : Nat} {b : Bool} {t : TypeId} {z : List Value} (h : Rf0 w v l p b t z W) (ha : At g W W') (hg : w.heap.size + 1 < g) : Rf0 w v l p b t z W' :=
  ⟨⟨h.inp.blk.at ha (by omega), h.inp.byt.at ha (fun hp j hj => by have := h.vb hp j hj; omega), h.inp.le⟩, h.res.at ha (by omega), ⟨ha.os.trans h.bel.os, ha.tape.trans h.bel.tape, ha.output.trans h.bel.output, by rw [ha.size]; exact h.bel.size, fun k hk => (ha.block k (by omega)).trans (h.bel.block k hk)⟩, h.vb⟩
/-- the same, with the thing's cells cs at block g -/
structure Rf (w : World) (g : Nat) (v : Value) (l : List (BitVec 8)) (p : Nat) (b : Bool) (t : TypeId) (z cs : List Value) (W : World) : Prop where
  st : Rf0 w v l p b t z W
  thg : Blk W g cs t
  lt : w.heap.size + 1 < g
theorem Rf.call {w W W' : World} {v : Value} {l : List (BitVec 8)} {g p p' : Nat} {b b' : Bool} {t : TypeId} {z cs : List Value} (h : Rf w g v l p b t z cs W) (hs : InS W' (w.heap.size + 1) v l p' b') (ho : Only (w.heap.size + 1) W W') : Rf w g v l p' b' t z cs W' :=
  ⟨h.st.call hs ho, h.thg.only ho (by have := h.lt; omega), h.lt⟩
theorem Rf.at {w W W' : World} {v : Value} {l : List (BitVec 8)} {g p : Nat} {b : Bool} {t : TypeId} {z cs cs' : List Value} (h : Rf w g v l p b t z cs W) (ha : At g W W') (hb : Blk W' g cs' t) : Rf w g v l p b t z cs' W' :=
  ⟨h.st.at ha h.lt, hb, h.lt⟩
theorem Mg.then {α β : Type} {g : List (BitVec 8) → Option (α × List (BitVec 8))} {h : α → List (BitVec 8) → Option (β × List (BitVec 8))} {l : List (BitVec 8)} {p0 p1 p2 : Nat} {b0 b1 b2 : Bool} {a : α} {c : β} (h1 : Mg (g (l.drop p0)) b0 b1 a l p1) (h2 : Mg (h a (l.drop p1)) b1 b2 c l p2) : Mg (thenR g h (l.drop p0)) b0 b2 (a, c) l p2 := by
  rcases h2 with ⟨rfl, rfl, h2⟩ | ⟨rfl, h2⟩
  · rcases h1 with ⟨_, rfl, h1⟩ | ⟨h1, _⟩
    · exact Or.inl ⟨rfl, rfl, thenR_some h1 h2⟩
    · cases h1
  · rcases h1 with ⟨rfl, rfl, h1⟩ | ⟨rfl, h1⟩
    · rcases h2 with h2 | h2
      · cases h2
      · exact Or.inr ⟨rfl, Or.inr (thenR_no h1 h2)⟩
    · rcases h1 with rfl | h1
      · exact Or.inr ⟨rfl, Or.inl rfl⟩
      · exact Or.inr ⟨rfl, Or.inr (thenR_none h1)⟩
end Go.Proofs.YtableajopaappaaDoor
/- The walks of Binding, of record and of the reference, and of SameBinding. -/
namespace Go.Proofs.YtableajopaappaaDoor
open Go.RowKit
set_option maxRecDepth 100000
theorem encText_le {t : List (BitVec 8)} (h : t.length < 18446744073709551616) : (encText t).length ≤ t.length + 10 := by
  have := enc_len10 t.length h
  unfold encText
  rw [List.length_append]
  omega
end Go.Proofs.YtableajopaappaaDoor
/- The walk of blazonlaw05's works; of Right, of record and of the reference. -/
namespace Go.Proofs.YtableajopaappaaDoor
open Go.RowKit
set_option maxRecDepth 100000
end Go.Proofs.YtableajopaappaaDoor
/- The walks of record's Signed and Request. -/
namespace Go.Proofs.YtableajopaappaaDoor
open Go.RowKit
set_option maxRecDepth 100000
theorem Blk.rangeMid {w : World} {g off : Nat} {A B C : List Value} {t : TypeId} (h : Blk w g (A ++ (B ++ C)) t) (ho : A.length = off) : w.rangeAt g off B := by
  subst ho
  intro j v hj
  have hlt : j < B.length := (List.getElem?_eq_some_iff.1 hj).1
  rw [h.cell, List.getElem?_append_right (by omega), Nat.add_sub_cancel_left, List.getElem?_append_left hlt, hj]
theorem sgnV_rx {ep : Nat} {x y z : List (BitVec 8)} {vs : Value} {w : World} {g : Nat} {t : TypeId} (h : Blk w g (sgnV ep x y z vs) t) : w.rangeAt g 1 (cb x) :=
  Blk.rangeMid (A := [.int .u64 (ep : Int)]) (B := cb x) (C := cb y ++ (cb z ++ [vs])) h rfl
theorem sgnV_ry {ep : Nat} {x y z : List (BitVec 8)} {vs : Value} {w : World} {g : Nat} {t : TypeId} (h : Blk w g (sgnV ep x y z vs) t) (hx : x.length = 32) : w.rangeAt g 33 (cb y) := by
  have e : sgnV ep x y z vs = (.int .u64 (ep : Int) :: cb x) ++ (cb y ++ (cb z ++ [vs])) := by simp only [sgnV, List.cons_append]
  rw [e] at h
  exact h.rangeMid (by rw [List.length_cons, cb_len, hx])
theorem sgnV_rz {ep : Nat} {x y z : List (BitVec 8)} {vs : Value} {w : World} {g : Nat} {t : TypeId} (h : Blk w g (sgnV ep x y z vs) t) (hx : x.length = 32) (hy : y.length = 32) : w.rangeAt g 65 (cb z) := by
  have e : sgnV ep x y z vs = (.int .u64 (ep : Int) :: (cb x ++ cb y)) ++ (cb z ++ [vs]) := by simp only [sgnV, List.cons_append, List.append_assoc]
  rw [e] at h
  exact h.rangeMid (by rw [List.length_cons, List.length_append, cb_len, cb_len, hx, hy])
theorem infoD (d : List (BitVec 8)) (h : d.length = 32) : (Tryd.prog.info? 23).map (·.size) = some (cb d).length := by rw [cb_len, h]; exact Tryd.infodig
structure Fit (x : Int) : Prop where
  lo : -9223372036854775808 ≤ x
  hi : x < 9223372036854775808
end Go.Proofs.YtableajopaappaaDoor
/- The walk of the reference's ReadBinding. -/
namespace Go.Proofs.YtableajopaappaaDoor
open Go.RowKit
set_option maxRecDepth 100000
theorem Rf0.new {w W : World} {v : Value} {l : List (BitVec 8)} {p : Nat} {b : Bool} {t : TypeId} {z cs : List Value} (h : Rf0 w v l p b t z W) : Rf w W.heap.size v l p b t z cs (W.alloc (.cells cs.toArray t)) :=
  ⟨h.next ((below_alloc W _).mono h.sz), Blk.new W cs t, h.sz⟩
end Go.Proofs.YtableajopaappaaDoor
/- The walk of the reference's ReadRequest. -/
namespace Go.Proofs.YtableajopaappaaDoor
open Go.RowKit
set_option maxRecDepth 100000
end Go.Proofs.YtableajopaappaaDoor
/- The walks of the reference's SameRequest and SameSigned. -/
namespace Go.Proofs.YtableajopaappaaDoor
open Go.RowKit
set_option maxRecDepth 100000
def rootL5 (n : Nat) (x y z : List (BitVec 8)) : List Value := Value.int .u64 (n : Int) :: (cb x ++ (cb y ++ cb z))
theorem sgnV_root (ep : Nat) (x y z : List (BitVec 8)) (vs : Value) : sgnV ep x y z vs = rootL5 ep x y z ++ [vs] := by simp only [sgnV, rootL5, List.cons_append, List.append_assoc]
theorem rootL_len5 {ep : Nat} {x y z : List (BitVec 8)} (hx : x.length = 32) (hy : y.length = 32) (hz : z.length = 32) : (rootL5 ep x y z).length = 97 := by simp only [rootL5, List.length_cons, List.length_append, cb_len, hx, hy, hz]
theorem sgnV_rroot {ep : Nat} {x y z : List (BitVec 8)} {vs : Value} {w : World} {g : Nat} {t : TypeId} (h : Blk w g (sgnV ep x y z vs) t) : w.rangeAt g 0 (rootL5 ep x y z) :=
  Blk.rangeMid (A := []) (B := rootL5 ep x y z) (C := [vs]) (by rw [List.nil_append, ← sgnV_root]; exact h) rfl
theorem wpSeq_loadR {ops : Array Oper} {Q : Exit → Act → World → Prop} {rest : List Oper} {o : Oper} {a : Act} {w : World} (x : Operand) (ho : o.op = .load 27 x) (hw : Region.wanted o (yielded ops a.tmps) = true) (b : Nat) (hx : a.eval x = .pointer (some ⟨b, 0, none⟩)) (cs : List Value) (hc : w.rangeAt b 0 cs) (hi : (Tryd.prog.info? 27).map (·.size) = some cs.length)
    (h : wpList Tryd.prog ops Q rest (a.put o.dst (.agg cs.toArray)) w) : wpList Tryd.prog ops Q (o :: rest) a w :=
  wpSeq_val _ _ hw (load_run 27 x ho b 0 hx cs _ hc Tryd.underlying27 rfl hi) h
theorem wpSeq_boxAt {ops : Array Oper} {Q : Exit → Act → World → Prop} {rest : List Oper} {o : Oper} {a : Act} {w : World} (ty : TypeId) (x : Operand) (ho : o.op = .box ty x) (cs : List Value) (hx : a.eval x = .agg cs.toArray) (hw : Region.wanted o (yielded ops a.tmps) = true) (w0 : World) (h0 : w0 = w.alloc (.cells cs.toArray ty)) {n : Nat} (hn : w.heap.size = n)
    (h : wpList Tryd.prog ops Q rest (a.put o.dst (.pointer (some ⟨n, 0, none⟩))) w0) : wpList Tryd.prog ops Q (o :: rest) a w := by
  subst hn
  exact wpSeq_box ty x ho cs hx hw w0 h0 h
set_option maxRecDepth 100000 in
set_option maxHeartbeats 2000000 in
theorem sameSgn_any (n0 m0 : Nat) (xa ya za xb yb zb sa sb : List (BitVec 8)) (va vb : Value) (w : World) (ha : xa.length = 32 ∧ ya.length = 32 ∧ za.length = 32) (hb : xb.length = 32 ∧ yb.length = 32 ∧ zb.length = 32) (hra : Reads w va sa) (hrb : Reads w vb sb) :
    Calls Tryd.prog 37 #[.agg (sgnV n0 xa ya za va).toArray, .agg (sgnV m0 xb yb zb vb).toArray] w fun e w' => e = .returned (.bool (decide ((n0 = m0 ∧ xa = xb ∧ ya = yb ∧ za = zb) ∧ sa = sb))) ∧ Below w.heap.size w w' := by
  have HRA : Hid (Reads w va sa) := hra
  have HRB : Hid (Reads w vb sb) := hrb
  have HLA : Hid (xa.length = 32 ∧ ya.length = 32 ∧ za.length = 32) := ha
  have HLB : Hid (xb.length = 32 ∧ yb.length = 32 ∧ zb.length = 32) := hb
  obtain ⟨ada, cpa, hva, q1, q2, q3⟩ := hra
  obtain ⟨adb, cpb, hvb, q4, q5, q6⟩ := hrb
  clear q1 q2 q3 q4 q5 q6 ha hb
  obtain ⟨na, HNA⟩ : ∃ m, Hid (m = sa.length) := ⟨_, rfl⟩
  obtain ⟨nb, HNB⟩ : ∃ m, Hid (m = sb.length) := ⟨_, rfl⟩
  rw [← HNA.out] at hva
  rw [← HNB.out] at hvb
  subst hva hvb
  obtain ⟨o, HO⟩ : ∃ o, Hid (o = decide ((n0 = m0 ∧ xa = xb ∧ ya = yb ∧ za = zb) ∧ sa = sb)) := ⟨_, rfl⟩
  rw [← HO.out]
  obtain ⟨ca, HCA⟩ : ∃ c, Hid (c = sgnV n0 xa ya za (.slice ada na cpa)) := ⟨_, rfl⟩
  obtain ⟨cb2, HCB⟩ : ∃ c, Hid (c = sgnV m0 xb yb zb (.slice adb nb cpb)) := ⟨_, rfl⟩
  rw [← HCA.out, ← HCB.out]
  obtain ⟨w0, HW0⟩ : ∃ x, Hid (x = w.alloc (.cells ca.toArray 30)) := ⟨_, rfl⟩
  obtain ⟨w1, HW1⟩ : ∃ x, Hid (x = w0.alloc (.cells cb2.toArray 30)) := ⟨_, rfl⟩
  have HZ0 : Hid (w0.heap.size = w.heap.size + 1) := by show _ = _; rw [HW0.out]; simp
  have hB : Below w.heap.size w w1 := by rw [HW1.out, HW0.out]; exact (below_alloc _ _).trans ((below_alloc _ _).mono (by simp))
  have HB : Hid (Below w.heap.size w w1) := hB
  have hBA : Blk w1 w.heap.size (sgnV n0 xa ya za (.slice ada na cpa)) 30 := by rw [HW1.out, HW0.out, ← HCA.out]; exact (Blk.new _ _ _).alloc _
  have hBB : Blk w1 (w.heap.size + 1) (sgnV m0 xb yb zb (.slice adb nb cpb)) 30 := by rw [HW1.out, ← HCB.out]; exact Blk.new_at HZ0.out _ _
  have hca := conv_reads (HRA.out.below HB.out)
  have hcb := conv_reads (HRB.out.below HB.out)
  have hs2 := strB_inj sa sb
  have c9 : w1.cell? ⟨w.heap.size, 97, none⟩ = some (.slice ada na cpa) := sgnV_last hBA HLA.out.1 HLA.out.2.1 HLA.out.2.2
  have d9 : w1.cell? ⟨w.heap.size + 1, 97, none⟩ = some (.slice adb nb cpb) := sgnV_last hBB HLB.out.1 HLB.out.2.1 HLB.out.2.2
  obtain ⟨xs, HXS⟩ : ∃ c, Hid (c = rootL5 n0 xa ya za) := ⟨_, rfl⟩
  obtain ⟨ys, HYS⟩ : ∃ c, Hid (c = rootL5 m0 xb yb zb) := ⟨_, rfl⟩
  have HRX : Hid (w1.rangeAt w.heap.size 0 xs) := by rw [HXS.out]; exact sgnV_rroot hBA
  have HRY : Hid (w1.rangeAt (w.heap.size + 1) 0 ys) := by rw [HYS.out]; exact sgnV_rroot hBB
  have HIX : Hid ((Tryd.prog.info? 27).map (·.size) = some xs.length) := by show _ = _; rw [HXS.out, rootL_len5 HLA.out.1 HLA.out.2.1 HLA.out.2.2]; kernel_rfl
  have HIY : Hid ((Tryd.prog.info? 27).map (·.size) = some ys.length) := by show _ = _; rw [HYS.out, rootL_len5 HLB.out.1 HLB.out.2.1 HLB.out.2.2]; kernel_rfl
  have hx : ∀ wx : World, (Op.equalIn 10000 27 (.agg xs.toArray) (.agg ys.toArray)).run Tryd.prog wx = .ok (decide (n0 = m0 ∧ xa = xb ∧ ya = yb ∧ za = zb)) wx := fun wx => by rw [HXS.out, HYS.out]; exact eq_root n0 m0 xa ya za xb yb zb HLA.out.1 HLA.out.2.1 HLA.out.2.2 HLB.out.1 HLB.out.2.1 HLB.out.2.2 wx
  clear hB hBA hBB
  by_cases h1 : n0 = m0 ∧ xa = xb ∧ ya = yb ∧ za = zb
  · rw [decide_eq_true h1] at hx
    by_cases h2 : sa = sb
    · rw [decide_eq_true h2] at hs2
      have ho : o = true := by rw [HO.out]; first | exact decide_eq_true ⟨by assumption, by assumption, by assumption, by assumption⟩ | exact decide_eq_true ⟨by assumption, by assumption⟩ | exact decide_eq_false (fun hh => by simp_all)
      subst ho
      clear HO
      go_enter Tryd.func37, Tryd.ntmps37
      go_wp2_with (first
        | (with_reducible refine wpSeq_box 30 (.tmp 0) ?_ ca ?_ ?_ w0 ?_ ?_
           · rfl
           · rfl
           · rfl
           · exact HW0.out
           clear HW0)
        | (with_reducible refine wpSeq_boxAt 30 (.tmp 1) ?_ cb2 ?_ ?_ w1 ?_ HZ0.out ?_
           · rfl
           · rfl
           · rfl
           · exact HW1.out
           clear HW1)
        | (with_reducible refine wpSeq_loadR (.tmp 5) ?_ ?_ w.heap.size ?_ xs HRX.out HIX.out ?_
           · rfl
           · rfl
           · rfl)
        | (with_reducible refine wpSeq_loadR (.tmp 7) ?_ ?_ (w.heap.size + 1) ?_ ys HRY.out HIY.out ?_
           · rfl
           · rfl
           · rfl))
      go_ret
      exact ⟨by first | rfl | simp, HB.out⟩
    · rw [decide_eq_false h2] at hs2
      have ho : o = false := by rw [HO.out]; first | exact decide_eq_true ⟨by assumption, by assumption, by assumption, by assumption⟩ | exact decide_eq_true ⟨by assumption, by assumption⟩ | exact decide_eq_false (fun hh => by simp_all)
      subst ho
      clear HO
      go_enter Tryd.func37, Tryd.ntmps37
      go_wp2_with (first
        | (with_reducible refine wpSeq_box 30 (.tmp 0) ?_ ca ?_ ?_ w0 ?_ ?_
           · rfl
           · rfl
           · rfl
           · exact HW0.out
           clear HW0)
        | (with_reducible refine wpSeq_boxAt 30 (.tmp 1) ?_ cb2 ?_ ?_ w1 ?_ HZ0.out ?_
           · rfl
           · rfl
           · rfl
           · exact HW1.out
           clear HW1)
        | (with_reducible refine wpSeq_loadR (.tmp 5) ?_ ?_ w.heap.size ?_ xs HRX.out HIX.out ?_
           · rfl
           · rfl
           · rfl)
        | (with_reducible refine wpSeq_loadR (.tmp 7) ?_ ?_ (w.heap.size + 1) ?_ ys HRY.out HIY.out ?_
           · rfl
           · rfl
           · rfl))
      go_ret
      exact ⟨by first | rfl | simp, HB.out⟩
  · rw [decide_eq_false h1] at hx
    have ho : o = false := by rw [HO.out]; first | exact decide_eq_true ⟨by assumption, by assumption, by assumption, by assumption⟩ | exact decide_eq_true ⟨by assumption, by assumption⟩ | exact decide_eq_false (fun hh => by simp_all)
    subst ho
    clear HO
    go_enter Tryd.func37, Tryd.ntmps37
    go_wp2_with (first
      | (with_reducible refine wpSeq_box 30 (.tmp 0) ?_ ca ?_ ?_ w0 ?_ ?_
         · rfl
         · rfl
         · rfl
         · exact HW0.out
         clear HW0)
      | (with_reducible refine wpSeq_boxAt 30 (.tmp 1) ?_ cb2 ?_ ?_ w1 ?_ HZ0.out ?_
         · rfl
         · rfl
         · rfl
         · exact HW1.out
         clear HW1)
      | (with_reducible refine wpSeq_loadR (.tmp 5) ?_ ?_ w.heap.size ?_ xs HRX.out HIX.out ?_
         · rfl
         · rfl
         · rfl)
      | (with_reducible refine wpSeq_loadR (.tmp 7) ?_ ?_ (w.heap.size + 1) ?_ ys HRY.out HIY.out ?_
         · rfl
         · rfl
         · rfl))
    go_ret
    exact ⟨by first | rfl | simp, HB.out⟩
end Go.Proofs.YtableajopaappaaDoor
/- A signed root's cells; a cell in a world with more (out of RecCk and RecBkL). -/
namespace Go.Proofs.YtableajopaappaaDoor
open Go.RowKit
set_option maxRecDepth 100000
theorem below_cellO {w0 wx : World} {p : Addr} {v : Value} (h : Over w0 wx) (hc : w0.cell? p = some v) : wx.cell? p = some v := by
  rw [Below.cell h (block_lt_of_cell hc)]; exact hc
theorem sgnV_at {ep : Nat} {x y z : List (BitVec 8)} {v : Value} (hx : x.length = 32) (hy : y.length = 32) (hz : z.length = 32) : (sgnV ep x y z v)[97]? = some v := by
  unfold sgnV
  rw [List.getElem?_cons_succ, List.getElem?_append_right (by rw [cb_len]; omega), List.getElem?_append_right (by rw [cb_len, cb_len]; omega), List.getElem?_append_right (by rw [cb_len, cb_len, cb_len]; omega)]
  simp [cb_len, hx, hy, hz]
end Go.Proofs.YtableajopaappaaDoor
/- The walk of the reference's ReadSigned. -/
namespace Go.Proofs.YtableajopaappaaDoor
open Go.RowKit
set_option maxRecDepth 100000
end Go.Proofs.YtableajopaappaaDoor
/- The walk of the reference's Signed. -/
namespace Go.Proofs.YtableajopaappaaDoor
open Go.RowKit
set_option maxRecDepth 100000
theorem sgn_part {A C : List Value} {d : List (BitVec 8)} {w : World} {g off : Nat} {t : TypeId} (hd : d.length = 32) (h : Blk w g (A ++ (cb d ++ C)) t) (ho : A.length = off) : Reads w (.slice (some ⟨g, off, none⟩) 32 32) d := by
  subst ho
  refine h.reads_mid (by omega) (by omega) fun j hj => ?_
  rw [List.getElem?_append_right (by omega), List.getElem?_append_left (by rw [cb_len]; omega), show A.length + j - A.length = j by omega, cb_get d j hj]
end Go.Proofs.YtableajopaappaaDoor
/- Plain: evidence that two roots of one epoch were signed; what follows (layer 12). -/
namespace Go.Proofs.YtableajopaappaaDoor
open Go.RowKit
set_option maxRecDepth 100000
/-- evidence: the roots ahead, and two behind them -/
abbrev EvT : Type := List SgT × SgT × SgT
/-- where a chain begins -/
def stR (pin : List (BitVec 8)) : HdT := (0, zb32, pin)
/-- what holds of evidence -/
def holdsF (pin : List (BitVec 8)) (e : EvT) : Prop := (walkR (stR pin) e.1).2.2 = 0 ∧ (followR (walkR (stR pin) e.1).1 e.2.1).2 = 0 ∧ (followR (walkR (stR pin) e.1).1 e.2.2).2 = 0 ∧ e.2.1.1 ≠ e.2.2.1
/-- 12.1 -/
def checkF (pin : List (BitVec 8)) (e : EvT) : Int := if (walkR (stR pin) e.1).2.2 = 0 ∧ (followR (walkR (stR pin) e.1).1 e.2.1).2 = 0 ∧ (followR (walkR (stR pin) e.1).1 e.2.2).2 = 0 ∧ e.2.1.1 ≠ e.2.2.1 then 0 else 15
theorem checkF_bad {pin : List (BitVec 8)} {e : EvT} (h : ¬ holdsF pin e) : checkF pin e = 15 := by unfold holdsF at h; unfold checkF; rw [if_neg h]
theorem checkF_same (pin : List (BitVec 8)) (t : List SgT) (a : SgT) : checkF pin (t, a, a) = 15 := checkF_bad fun h => h.2.2.2 rfl
/-- 12.4: the first place at which both have unlike roots -/
def firstU : List SgT → List SgT → Option Nat
  | s :: l, t :: m => if s.1 = t.1 then (firstU l m).map (· + 1) else some 0
  | _, _ => none
theorem firstU_some : ∀ (l m : List SgT) (i : Nat), firstU l m = some i → i < l.length ∧ i < m.length ∧ (l.getD i zeroS).1 ≠ (m.getD i zeroS).1 ∧ (l.take i).map (·.1) = (m.take i).map (·.1)
  | [], m, i, h => by simp [firstU] at h
  | s :: l, [], i, h => by simp [firstU] at h
  | s :: l, t :: m, i, h => by
    rw [firstU] at h
    split at h
    · rename_i e
      cases hf : firstU l m with
      | none => rw [hf] at h; cases h
      | some j =>
        rw [hf] at h
        simp only [Option.map_some, Option.some.injEq] at h
        subst h
        obtain ⟨h1, h2, h3, h4⟩ := firstU_some l m j hf
        exact ⟨by simpa using h1, by simpa using h2, by simpa using h3, by simp [h4, e]⟩
    · rename_i e
      simp only [Option.some.injEq] at h
      subst h
      exact ⟨by simp, by simp, by simpa using e, rfl⟩
end Go.Proofs.YtableajopaappaaDoor
/- Evidence in memory (layer 12). -/
namespace Go.Proofs.YtableajopaappaaDoor
open Go.RowKit
set_option maxRecDepth 100000
theorem eq_rt (s t : SgT) (os : okS s) (ot : okS t) (w : World) : (Op.equalIn 10000 27 (.agg (rtC s).toArray) (.agg (rtC t).toArray)).run Tryd.prog w = .ok (decide (s.1 = t.1)) w := by
  have h := eq_root s.1.1 t.1.1 s.1.2.1 s.1.2.2.1 s.1.2.2.2 t.1.2.1 t.1.2.2.1 t.1.2.2.2 os.1 os.2.1 os.2.2.1 ot.1 ot.2.1 ot.2.2.1 w
  have e : decide (s.1 = t.1) = decide (s.1.1 = t.1.1 ∧ s.1.2.1 = t.1.2.1 ∧ s.1.2.2.1 = t.1.2.2.1 ∧ s.1.2.2.2 = t.1.2.2.2) := by
    obtain ⟨⟨n, x, y, z⟩, g⟩ := s
    obtain ⟨⟨m, a, b, c⟩, g'⟩ := t
    simp
  rw [e]
  exact h
/-- the cells of evidence -/
def evC (e : EvT) (vt va vb : Value) : List Value := vt :: (sgC e.2.1 va ++ sgC e.2.2 vb)
def zeroE : EvT := ([], zeroS, zeroS)
theorem len_evC {e : EvT} (oa : okS e.2.1) (ob : okS e.2.2) (vt va vb : Value) : (evC e vt va vb).length = 197 := by rw [evC, List.length_cons, List.length_append, len_sgC oa, len_sgC ob]
theorem info_evid : (Tryd.prog.info? 32).map (·.size) = some 197 := by kernel_rfl
theorem info_evC {e : EvT} (oa : okS e.2.1) (ob : okS e.2.2) (vt va vb : Value) : (Tryd.prog.info? 32).map (·.size) = some (evC e vt va vb).length := by rw [len_evC oa ob]; exact info_evid
/-- three values read as evidence -/
structure EvIs (w : World) (e : EvT) (vt va vb : Value) : Prop where
  tr : ReadsS w vt e.1
  a : Reads w va e.2.1.2
  b : Reads w vb e.2.2.2
  oa : okS e.2.1
  ob : okS e.2.2
theorem EvIs.below {w w' : World} {e : EvT} {vt va vb : Value} (h : EvIs w e vt va vb) (hb : Below w.heap.size w w') : EvIs w' e vt va vb := ⟨h.tr.below hb, h.a.below hb, h.b.below hb, h.oa, h.ob⟩
theorem EvIs.zero (w : World) : EvIs w zeroE (.slice none 0 0) (.slice none 0 0) (.slice none 0 0) := ⟨ReadsS.nil w, reads_nil10 w, reads_nil10 w, okS_zero, okS_zero⟩
theorem ReadsS.form {w : World} {v : Value} {l : List SgT} (h : ReadsS w v l) : ∃ ad c, v = .slice ad l.length c := by
  obtain ⟨⟨ad, cap, hv, _⟩, _⟩ := h
  exact ⟨ad, cap, hv⟩
/-- evidence in a block, field by field -/
structure EvAt (w : World) (b off : Nat) (e : EvT) (vt va vb : Value) : Prop where
  all : w.rangeAt b off (evC e vt va vb)
  oa : okS e.2.1
  ob : okS e.2.2
theorem Blk.evAt {w : World} {g : Nat} {e : EvT} {vt va vb : Value} (hb : Blk w g (evC e vt va vb) 32) (oa : okS e.2.1) (ob : okS e.2.2) : EvAt w g 0 e vt va vb := ⟨hb.range, oa, ob⟩
theorem EvAt.tr {w : World} {b off : Nat} {e : EvT} {vt va vb : Value} (h : EvAt w b off e vt va vb) : w.cell? ⟨b, off, none⟩ = some vt := h.all 0 _ rfl
theorem EvAt.a {w : World} {b off : Nat} {e : EvT} {vt va vb : Value} (h : EvAt w b off e vt va vb) : SgAt w b (off + 1) e.2.1 va := ⟨range_part (A := [vt]) (B := sgC e.2.1 va) (C := sgC e.2.2 vb) h.all rfl, h.oa⟩
theorem EvAt.b {w : World} {b off : Nat} {e : EvT} {vt va vb : Value} (h : EvAt w b off e vt va vb) : SgAt w b (off + 99) e.2.2 vb :=
  ⟨range_end (A := vt :: sgC e.2.1 va) (B := sgC e.2.2 vb) (by rw [List.cons_append]; exact h.all) (by rw [List.length_cons, len_sgC h.oa]), h.ob⟩
theorem evC_one (e : EvT) {vt va vb : Value} (ht : vt.oneCell' = true) (ha : va.oneCell' = true) (hb : vb.oneCell' = true) : ∀ v ∈ evC e vt va vb, v.oneCell' = true := by
  intro v hv
  rw [evC, List.mem_cons, List.mem_append, sgC_eq, sgC_eq, List.mem_append, List.mem_append, List.mem_singleton, List.mem_singleton] at hv
  rcases hv with rfl | (hv | rfl) | (hv | rfl)
  · exact ht
  · exact rtC_one _ v hv
  · exact ha
  · exact rtC_one _ v hv
  · exact hb
def evPl (i : Nat) : Option (Nat × Nat) := (#[(0, 1), (1, 98), (99, 98)] : Array (Nat × Nat))[i]?
theorem built_evid (parts : List (Nat × Value)) : Tryd.prog.built 32 parts = Instr.fill evPl (evC zeroE (.slice none 0 0) (.slice none 0 0) (.slice none 0 0)).toArray parts := by kernel_rfl
theorem fill_ev {e : EvT} (oa : okS e.2.1) (ob : okS e.2.2) {va vb : Value} {ad : Option Addr} {n c : Nat} : Instr.fill evPl (evC zeroE (.slice none 0 0) (.slice none 0 0) (.slice none 0 0)).toArray [(0, .slice ad n c), (1, .agg (sgC e.2.1 va).toArray), (2, .agg (sgC e.2.2 vb).toArray)] = some (evC e (.slice ad n c) va vb).toArray := by
  have e0 : evC zeroE (.slice none 0 0) (.slice none 0 0) (.slice none 0 0) = [] ++ ([Value.slice none 0 0] ++ (sgC zeroS (.slice none 0 0) ++ sgC zeroS (.slice none 0 0))) := rfl
  rw [e0, fill_seg (vs := [.slice ad n c]) (size := 1) (by rfl) rfl rfl rfl rfl]
  have e1 : [] ++ ([Value.slice ad n c] ++ (sgC zeroS (.slice none 0 0) ++ sgC zeroS (.slice none 0 0))) = [Value.slice ad n c] ++ (sgC zeroS (.slice none 0 0) ++ sgC zeroS (.slice none 0 0)) := rfl
  rw [e1, fill_seg (vs := sgC e.2.1 va) (off := 1) (size := 98) (by rfl) rfl (len_sgC okS_zero _) rfl (len_sgC oa _)]
  have e2 : [Value.slice ad n c] ++ (sgC e.2.1 va ++ sgC zeroS (.slice none 0 0)) = (Value.slice ad n c :: sgC e.2.1 va) ++ (sgC zeroS (.slice none 0 0) ++ []) := by simp
  rw [e2, fill_seg (vs := sgC e.2.2 vb) (off := 99) (size := 98) (by rfl) (by rw [List.length_cons, len_sgC oa]) (len_sgC okS_zero _) rfl (len_sgC ob _)]
  rw [Instr.fill, evC]
  simp
theorem alloc_ev (f : Operand → Value) (o : Oper) (ho : o.op = .alloc 32) (w : World) : (execOp f o).run Tryd.prog w = .ok (.value (.pointer (some ⟨w.heap.size, 0, none⟩))) (w.alloc (.cells (evC zeroE (.slice none 0 0) (.slice none 0 0) (.slice none 0 0)).toArray 32)) := by
  unfold execOp
  rw [ho]
  kernel_rfl
theorem wpSeq_allocE {ops : Array Oper} {Q : Exit → Act → World → Prop} {rest : List Oper} {o : Oper} {a : Act} {w : World} (ho : o.op = .alloc 32) (hw : Region.wanted o (yielded ops a.tmps) = true)
    (h : ∀ g w', NewR (evC zeroE (.slice none 0 0) (.slice none 0 0) (.slice none 0 0)) 32 w g w' → wpList Tryd.prog ops Q rest (a.put o.dst (.pointer (some ⟨g, 0, none⟩))) w') : wpList Tryd.prog ops Q (o :: rest) a w :=
  wpSeq_val _ _ hw (alloc_ev _ _ ho _) (h _ _ (NewR.of _ _ w))
end Go.Proofs.YtableajopaappaaDoor
/- Plain: evidence as bytes, written and read (layer 12). -/
namespace Go.Proofs.YtableajopaappaaDoor
open Go.RowKit
set_option maxRecDepth 100000
def flS (s : SgT) : Nat × Bs × Bs × Bs × Bs := (s.1.1, s.1.2.1, s.1.2.2.1, s.1.2.2.2, s.2)
def unS (p : Nat × Bs × Bs × Bs × Bs) : SgT := ((p.1, p.2.1, p.2.2.1, p.2.2.2.1), p.2.2.2.2)
/-- a signed root's bytes -/
def encS (s : SgT) : Bs := encSigned (flS s)
/-- all roots of evidence, in order -/
def allE (e : EvT) : List SgT := e.1 ++ [e.2.1, e.2.2]
/-- 12.2 -/
def bytesF (e : EvT) : Bs := encList encText ((allE e).map encS)
/-- the signed root that bytes are -/
def readS (b : Bs) : Option SgT := (whole (signedR b)).map unS
def okT (s : SgT) : Prop := okS s ∧ s.2.length ≤ 1048576
theorem readS_iff (b : Bs) (s : SgT) : readS b = some s ↔ okT s ∧ b = encS s := by
  unfold readS
  constructor
  · intro h
    cases hw : whole (signedR b) with
    | none => rw [hw] at h; cases h
    | some p =>
      rw [hw] at h
      simp only [Option.map_some, Option.some.injEq] at h
      subst h
      have hs : signedR b = some (p, []) := by
        unfold whole at hw
        split at hw
        · rename_i a ha
          simp only [Option.some.injEq] at hw
          rw [← hw]
          exact ha
        · cases hw
      obtain ⟨⟨h1, h2, h3, h4, h5⟩, hb⟩ := (codes_signed _ _ _).1 hs
      exact ⟨⟨⟨h2, h3, h4, h1⟩, h5⟩, by rw [hb, List.append_nil]; rfl⟩
  · rintro ⟨⟨⟨h2, h3, h4, h1⟩, h5⟩, rfl⟩
    have hs : signedR (encS s) = some (flS s, []) := (codes_signed _ _ _).2 ⟨⟨h1, h2, h3, h4, h5⟩, by rw [List.append_nil]; rfl⟩
    rw [hs]
    rfl
/-- all of them -/
def readSs : List Bs → Option (List SgT)
  | [] => some []
  | t :: ts => match readS t with
    | none => none
    | some s => match readSs ts with
      | none => none
      | some l => some (s :: l)
theorem readSs_iff : ∀ (ts : List Bs) (l : List SgT), readSs ts = some l ↔ (∀ s ∈ l, okT s) ∧ ts = l.map encS
  | [], l => by
    rw [readSs]
    constructor
    · intro h; cases h; exact ⟨(fun _ h => by cases h), rfl⟩
    · rintro ⟨_, h⟩
      cases l with
      | nil => rfl
      | cons a l => cases h
  | t :: ts, l => by
    rw [readSs]
    constructor
    · intro h
      cases h1 : readS t with
      | none => rw [h1] at h; cases h
      | some s =>
        rw [h1] at h
        simp only at h
        cases h2 : readSs ts with
        | none => rw [h2] at h; cases h
        | some m =>
          rw [h2] at h
          simp only [Option.some.injEq] at h
          subst h
          obtain ⟨o1, rfl⟩ := (readS_iff _ _).1 h1
          obtain ⟨o2, rfl⟩ := (readSs_iff _ _).1 h2
          refine ⟨?_, rfl⟩
          intro x hx
          rcases List.mem_cons.1 hx with rfl | hx
          · exact o1
          · exact o2 x hx
    · rintro ⟨h1, h2⟩
      cases l with
      | nil => cases h2
      | cons s m =>
        simp only [List.map_cons, List.cons.injEq] at h2
        rw [(readS_iff t s).2 ⟨h1 s (by simp), h2.1⟩]
        simp only
        rw [(readSs_iff ts m).2 ⟨fun x hx => h1 x (by simp [hx]), h2.2⟩]
theorem readSs_len {ts : List Bs} {l : List SgT} (h : readSs ts = some l) : l.length = ts.length := by
  obtain ⟨_, rfl⟩ := (readSs_iff _ _).1 h
  simp
/-- one text more -/
theorem readSs_some {ts : List Bs} {l : List SgT} {t : Bs} {s : SgT} (h1 : readSs ts = some l) (h2 : readS t = some s) : readSs (ts ++ [t]) = some (l ++ [s]) := by
  obtain ⟨o1, rfl⟩ := (readSs_iff _ _).1 h1
  obtain ⟨o2, rfl⟩ := (readS_iff _ _).1 h2
  refine (readSs_iff _ _).2 ⟨?_, by simp⟩
  intro x hx
  rcases List.mem_append.1 hx with hx | hx
  · exact o1 x hx
  · rw [List.mem_singleton.1 hx]; exact o2
/-- a text that is none -/
theorem readSs_none {ts : List Bs} {t : Bs} (hm : t ∈ ts) (h : readS t = none) : readSs ts = none := by
  cases hl : readSs ts with
  | none => rfl
  | some l =>
    obtain ⟨o, rfl⟩ := (readSs_iff _ _).1 hl
    obtain ⟨s, hs, rfl⟩ := List.mem_map.1 hm
    rw [(readS_iff _ s).2 ⟨o s hs, rfl⟩] at h
    cases h
/-- roots in order, as evidence -/
def evL (l : List SgT) : EvT := (l.take (l.length - 2), l.getD (l.length - 2) zeroS, l.getD (l.length - 1) zeroS)
theorem evL_allE (e : EvT) : evL (allE e) = e := by
  obtain ⟨t, a, b⟩ := e
  have hl : (allE (t, a, b)).length = t.length + 2 := by simp [allE]
  show ((t ++ [a, b]).take _, (t ++ [a, b]).getD _ zeroS, (t ++ [a, b]).getD _ zeroS) = (t, a, b)
  rw [hl]
  refine Prod.ext ?_ (Prod.ext ?_ ?_)
  · show (t ++ [a, b]).take (t.length + 2 - 2) = t
    rw [Nat.add_sub_cancel, List.take_left]
  · show (t ++ [a, b]).getD (t.length + 2 - 2) zeroS = a
    rw [Nat.add_sub_cancel, List.getD_eq_getElem?_getD, List.getElem?_append_right (Nat.le_refl _), Nat.sub_self]
    rfl
  · show (t ++ [a, b]).getD (t.length + 2 - 1) zeroS = b
    rw [List.getD_eq_getElem?_getD, List.getElem?_append_right (by omega), show t.length + 2 - 1 - t.length = 1 by omega]
    rfl
theorem allE_evL {l : List SgT} (h : 2 ≤ l.length) : allE (evL l) = l := by
  have e : l = l.take (l.length - 2) ++ (l.getD (l.length - 2) zeroS :: l.drop (l.length - 2 + 1)) := by
    have hg : l.getD (l.length - 2) zeroS = l[l.length - 2]'(by omega) := by rw [List.getD_eq_getElem?_getD, List.getElem?_eq_getElem (by omega)]; rfl
    rw [hg, List.getElem_cons_drop, List.take_append_drop]
  have e2 : l.drop (l.length - 2 + 1) = l.getD (l.length - 1) zeroS :: l.drop (l.length - 1 + 1) := by
    have hg : l.getD (l.length - 1) zeroS = l[l.length - 1]'(by omega) := by rw [List.getD_eq_getElem?_getD, List.getElem?_eq_getElem (by omega)]; rfl
    rw [hg, List.getElem_cons_drop]
    congr 1
    omega
  have e3 : l.drop (l.length - 1 + 1) = [] := List.drop_eq_nil_of_le (by omega)
  rw [e3] at e2
  rw [e2] at e
  exact e.symm
/-- 12.3 -/
def readF (b : Bs) : Option EvT :=
  match readList readText b with
  | none => none
  | some ts => if 2 ≤ ts.length ∧ ts.length ≤ 65 then (readSs ts).map evL else none
def okB (e : EvT) : Prop := e.1.length ≤ 63 ∧ ∀ s ∈ allE e, okT s ∧ (encS s).length ≤ 1048576
theorem len_allE (e : EvT) : (allE e).length = e.1.length + 2 := by simp [allE]
theorem readF_iff (b : Bs) (e : EvT) : readF b = some e ↔ okB e ∧ b = bytesF e := by
  unfold readF
  constructor
  · intro h
    cases h1 : readList readText b with
    | none => rw [h1] at h; cases h
    | some ts =>
      rw [h1] at h
      simp only at h
      split at h
      · rename_i h2
        cases h3 : readSs ts with
        | none => rw [h3] at h; cases h
        | some l =>
          rw [h3] at h
          simp only [Option.map_some, Option.some.injEq] at h
          subst h
          obtain ⟨_, k2, rfl⟩ := (readList_iff readText_ok b ts).1 h1
          obtain ⟨o1, rfl⟩ := (readSs_iff _ _).1 h3
          rw [List.length_map] at h2
          refine ⟨⟨?_, ?_⟩, ?_⟩
          · show (l.take (l.length - 2)).length ≤ 63
            rw [List.length_take]
            omega
          · rw [allE_evL h2.1]
            exact fun s hs => ⟨o1 s hs, k2 _ (List.mem_map_of_mem hs)⟩
          · rw [bytesF, allE_evL h2.1]
      · cases h
  · rintro ⟨⟨h1, h2⟩, rfl⟩
    have hl : ((allE e).map encS).length = e.1.length + 2 := by rw [List.length_map, len_allE]
    rw [bytesF, (readList_iff readText_ok _ ((allE e).map encS)).2 ⟨by omega, fun t ht => by obtain ⟨s, hs, rfl⟩ := List.mem_map.1 ht; exact (h2 s hs).2, rfl⟩]
    simp only
    rw [if_pos ⟨by omega, by omega⟩, (readSs_iff _ (allE e)).2 ⟨fun s hs => (h2 s hs).1, rfl⟩]
    simp only [Option.map_some, evL_allE]
/-- 12.3: taken or not -/
def acceptF (pin : Bs) (b : Bs) : Int :=
  match readF b with
  | none => 3
  | some e => checkF pin e
/-- 12.4 -/
def findF (pin : Bs) (l m : List SgT) : Option EvT :=
  match firstU l m with
  | none => none
  | some i => if checkF pin (l.take i, l.getD i zeroS, m.getD i zeroS) = 0 then some (l.take i, l.getD i zeroS, m.getD i zeroS) else none
theorem encNum_le : ∀ (k n : Nat), n < 128 ^ (k + 1) → (encNum n).length ≤ k + 1
  | 0, n, h => by
    rw [encNum_lt (by simpa using h)]
    simp
  | k + 1, n, h => by
    by_cases h1 : n < 128
    · rw [encNum_lt h1]; simp
    · rw [encNum_ge h1, List.length_cons]
      have := encNum_le k (n / 128) (by rw [Nat.div_lt_iff_lt_mul (by decide)]; rw [Nat.pow_succ] at h; exact h)
      omega
theorem encNum_ten {n : Nat} (h : n < 18446744073709551616) : (encNum n).length ≤ 10 := encNum_le 9 n (Nat.lt_of_lt_of_le h (by decide))
theorem len_encS {s : SgT} (os : okS s) (hl : s.2.length < 18446744073709551616) : (encS s).length ≤ s.2.length + 116 := by
  have h1 := encNum_ten os.2.2.2
  have h2 := encNum_ten hl
  have e : encS s = encNum s.1.1 ++ (s.1.2.1 ++ (s.1.2.2.1 ++ (s.1.2.2.2 ++ (encNum s.2.length ++ s.2)))) := rfl
  rw [e]
  simp only [List.length_append, os.1, os.2.1, os.2.2.1]
  omega
/-- 12.5: what is not too long is read as it was written -/
theorem okB_light {e : EvT} (h1 : e.1.length ≤ 63) (h2 : ∀ s ∈ allE e, okS s ∧ s.2.length ≤ 524288) : okB e :=
  ⟨h1, fun s hs => ⟨⟨(h2 s hs).1, by have := (h2 s hs).2; omega⟩, by have := len_encS (h2 s hs).1 (by have := (h2 s hs).2; omega); have := (h2 s hs).2; omega⟩⟩
theorem read_back {e : EvT} (h : okB e) : readF (bytesF e) = some e := (readF_iff _ _).2 ⟨h, rfl⟩
theorem encAll_le {α : Type} (f : α → Bs) (B : Nat) : ∀ l : List α, (∀ a ∈ l, (f a).length ≤ B) → (encAll f l).length ≤ l.length * B
  | [], _ => by simp [encAll]
  | x :: l, h => by
    rw [encAll_cons, List.length_append, List.length_cons, Nat.succ_mul]
    have h1 := h x (by simp)
    have h2 := encAll_le f B l (fun a ha => h a (by simp [ha]))
    omega
/-- how long evidence's bytes may be -/
theorem bytesF_le {e : EvT} (h1 : e.1.length ≤ 64) (h2 : ∀ s ∈ allE e, okS s ∧ s.2.length ≤ 1048576) : (bytesF e).length ≤ 1000000000 := by
  have h3 : (encAll encText ((allE e).map encS)).length ≤ ((allE e).map encS).length * 1048702 := encAll_le encText 1048702 _ fun t ht => by
    obtain ⟨s, hs, rfl⟩ := List.mem_map.1 ht
    obtain ⟨o, l⟩ := h2 s hs
    have h4 := len_encS o (by omega)
    have h5 := encNum_ten (n := (encS s).length) (by omega)
    rw [encText, List.length_append]
    omega
  rw [List.length_map, len_allE] at h3
  have h6 := encNum_ten (n := e.1.length + 2) (by omega)
  rw [bytesF, encList, List.length_append, List.length_map, len_allE]
  have h7 : (e.1.length + 2) * 1048702 ≤ 66 * 1048702 := Nat.mul_le_mul_right _ (by omega)
  omega
end Go.Proofs.YtableajopaappaaDoor
/- Evidence whose values are slices; a slice of two signed roots; few roots (layer 12). -/
namespace Go.Proofs.YtableajopaappaaDoor
open Go.RowKit Go.Shelf
set_option maxRecDepth 100000
theorem Tryd.infos3 : (Tryd.prog.info? 30).map (fun i => (i.zero, i.size, i.bytes)) = some (some (.agg (sgC zeroS (.slice none 0 0)).toArray), 98, 128) := by kernel_rfl
theorem build_zd (f : Operand → Value) (o : Oper) (ho : o.op = .build 23 #[]) (w : World) : (execOp f o).run Tryd.prog w = .ok (.value (.agg (cb zb32).toArray)) w := by
  unfold execOp
  rw [ho]
  kernel_rfl
theorem wpSeq_buildZD {ops : Array Oper} {Q : Exit → Act → World → Prop} {rest : List Oper} {o : Oper} {a : Act} {w : World} (ho : o.op = .build 23 #[]) (hw : Region.wanted o (yielded ops a.tmps) = true)
    (h : wpList Tryd.prog ops Q rest (a.put o.dst (.agg (cb zb32).toArray)) w) : wpList Tryd.prog ops Q (o :: rest) a w :=
  wpSeq_val _ _ hw (build_zd _ _ ho _) h
theorem fill_two98 (cs ds : List Value) (h : cs.length = 98) (h2 : ds.length = 98) (a0 : Array Value) (ha : a0.size = 196) : Instr.fill (fun i => some (i * 98, 98)) a0 [(0, .agg cs.toArray), (1, .agg ds.toArray)] = some (cs ++ ds).toArray := by
  have e : a0 = ([] ++ (a0.toList.take 98 ++ a0.toList.drop 98)).toArray := by simp
  have l0 : a0.toList.length = 196 := by rw [Array.length_toList, ha]
  rw [e, fill_seg (vs := cs) (off := 0) (size := 98) (by simp) rfl (by rw [List.length_take, l0]; rfl) rfl h]
  have e2 : [] ++ (cs ++ a0.toList.drop 98) = cs ++ (a0.toList.drop 98 ++ []) := by simp
  rw [e2, fill_seg (vs := ds) (off := 98) (size := 98) (by simp) h (by rw [List.length_drop, l0]) rfl h2, Instr.fill]
  simp
theorem build_sg2 (f : Operand → Value) (o : Oper) (x y : Operand) (ho : o.op = .buildSlice 24 2 #[(0, x), (1, y)]) (ca cb2 : List Value) (ha : ca.length = 98) (hb : cb2.length = 98) (hx : f x = .agg ca.toArray) (hy : f y = .agg cb2.toArray) (w : World) :
    (execOp f o).run Tryd.prog w = .ok (.value (.slice (some ⟨w.heap.size, 0, none⟩) 2 2)) (w.alloc (.cells (ca ++ cb2).toArray 30)) := by
  obtain ⟨i0, hi, hz, hs, _⟩ := info_parts Tryd.infos3
  have hr := run_buildSlice (P := Tryd.prog) w 24 30 2 #[(0, .agg ca.toArray), (1, .agg cb2.toArray)] (ca ++ cb2).toArray i0 _ Tryd.underlying24 hi hz (by rw [hs]; decide) (by rw [hs]; decide) (by rw [hs]; exact fill_two98 ca cb2 ha hb _ (by simp))
  unfold execOp
  rw [ho]
  simp only [List.map_toArray, List.map_cons, List.map_nil, hx, hy, Sem.run_bind, hr, Result.andThen_ok, Sem.run_pure]
theorem wpSeq_buildS2 {ops : Array Oper} {Q : Exit → Act → World → Prop} {rest : List Oper} {o : Oper} {a : Act} {w : World} (x y : Operand) (ca cb2 : List Value) (ha : ca.length = 98) (hb : cb2.length = 98) (ho : o.op = .buildSlice 24 2 #[(0, x), (1, y)]) (hx : a.eval x = .agg ca.toArray) (hy : a.eval y = .agg cb2.toArray) (hw : Region.wanted o (yielded ops a.tmps) = true)
    (h : ∀ g w', NewR (ca ++ cb2) 30 w g w' → wpList Tryd.prog ops Q rest (a.put o.dst (.slice (some ⟨g, 0, none⟩) 2 2)) w') : wpList Tryd.prog ops Q (o :: rest) a w :=
  wpSeq_val _ _ hw (build_sg2 _ o x y ho ca cb2 ha hb hx hy w) (h _ _ (NewR.of _ _ w))
theorem readsS_two {w : World} {g : Nat} {s t : SgT} {va vb : Value} (hb : Blk w g (sgC s va ++ sgC t vb) 30) (os : okS s) (ot : okS t) (ha : Reads w va s.2) (hv : Reads w vb t.2) : ReadsS w (.slice (some ⟨g, 0, none⟩) 2 2) [s, t] := by
  refine ⟨⟨_, _, rfl, Nat.le_refl _, (fun e => by cases e), fun _ => ⟨g, 0, rfl, fun j hj => ?_⟩⟩, fun u hu => ?_⟩
  · have h2 : j = 0 ∨ j = 1 := by simp at hj; omega
    rcases h2 with rfl | rfl
    · refine ⟨va, ⟨?_, os⟩, ha⟩
      exact range_part (A := []) (B := sgC s va) (C := sgC t vb) hb.range rfl
    · refine ⟨vb, ⟨?_, ot⟩, hv⟩
      exact range_end (A := sgC s va) (B := sgC t vb) hb.range (len_sgC os va)
  · rcases List.mem_cons.1 hu with rfl | hu
    · exact os
    · rw [List.mem_singleton.1 hu]; exact ot
/-- the cells of evidence, its values slices -/
structure EvB (w : World) (e : EvT) (cs : List Value) : Prop where
  ex : ∃ adt ct ada na ca adb nb cc, cs = evC e (.slice adt e.1.length ct) (.slice ada na ca) (.slice adb nb cc) ∧ EvIs w e (.slice adt e.1.length ct) (.slice ada na ca) (.slice adb nb cc)
theorem EvIs.evB {w : World} {e : EvT} {vt va vb : Value} (h : EvIs w e vt va vb) : EvB w e (evC e vt va vb) := by
  obtain ⟨adt, ct, hvt⟩ := h.tr.form
  obtain ⟨ada, na, ca, hva⟩ := h.a.form
  obtain ⟨adb, nb, cc, hvb⟩ := h.b.form
  subst hvt hva hvb
  exact ⟨⟨_, _, _, _, _, _, _, _, rfl, h⟩⟩
theorem EvB.below {w w' : World} {e : EvT} {cs : List Value} (h : EvB w e cs) (hb : Below w.heap.size w w') : EvB w' e cs := by
  obtain ⟨adt, ct, ada, na, ca, adb, nb, cc, h1, h2⟩ := h.ex
  exact ⟨⟨adt, ct, ada, na, ca, adb, nb, cc, h1, h2.below hb⟩⟩
theorem EvB.open {w : World} {e : EvT} {cs : List Value} (h : EvB w e cs) : ∃ vt va vb, cs = evC e vt va vb ∧ EvIs w e vt va vb := by
  obtain ⟨adt, ct, ada, na, ca, adb, nb, cc, h1, h2⟩ := h.ex
  exact ⟨_, _, _, h1, h2⟩
theorem EvB.zero (w : World) : EvB w zeroE (evC zeroE (.slice none 0 0) (.slice none 0 0) (.slice none 0 0)) := (EvIs.zero w).evB
/-- what is told of such cells in any world -/
structure EvOk (e : EvT) (cs : List Value) : Prop where
  len : cs.length = 197
  info : (Tryd.prog.info? 32).map (·.size) = some cs.length
  one : ∀ v ∈ cs, v.oneCell' = true
  tr : ∃ ad c, ∀ (W : World) (g : Nat), Blk W g cs 32 → W.cell? ⟨g, 0, none⟩ = some (.slice ad e.1.length c)
theorem EvB.ok {w : World} {e : EvT} {cs : List Value} (h : EvB w e cs) : EvOk e cs := by
  obtain ⟨adt, ct, ada, na, ca, adb, nb, cc, rfl, h2⟩ := h.ex
  exact ⟨len_evC h2.oa h2.ob _ _ _, info_evC h2.oa h2.ob _ _ _, evC_one e rfl rfl rfl, adt, ct, fun W g hb => (hb.evAt h2.oa h2.ob).tr⟩
theorem len_zeroE : (evC zeroE (.slice none 0 0) (.slice none 0 0) (.slice none 0 0)).length = 197 := len_evC okS_zero okS_zero _ _ _
theorem EvOk.lz {e : EvT} {cs : List Value} (h : EvOk e cs) : cs.length = (evC zeroE (.slice none 0 0) (.slice none 0 0) (.slice none 0 0)).length := h.len.trans len_zeroE.symm
theorem var_evB {w : World} {g : Nat} {e : EvT} {cs : List Value} (hb : Blk w g cs 32) (h : EvOk e cs) : (loadVar 32 ⟨g, 0, none⟩).run Tryd.prog w = .ok (.agg cs.toArray) w :=
  run_loadVar_row (P := Tryd.prog) w g 32 32 cs.toArray (0, 0) _ hb Tryd.underlying32 rfl (by rw [List.size_toArray]; exact h.info)
/-- the evidence that bytes are, or none; what is answered beside it -/
def readE (b : Bs) : EvT := (readF b).getD zeroE
def readX (b : Bs) : Int := if (readF b).isSome then 0 else 3
def findE (pin : Bs) (l m : List SgT) : EvT := (findF pin l m).getD zeroE
/-- what fork's functions must do -/
structure FkOps : Prop where
  check : ∀ (W : World) (pin : Bs) (e : EvT) (cs : List Value), KOk W → pin.length = 32 → EvB W e cs → e.1.length < 1000000 → Calls Tryd.prog 11 #[.agg (cb pin).toArray, .agg cs.toArray] W fun r w' => r = .returned (.int .i64 (checkF pin e)) ∧ Below W.heap.size W w'
  bytes : ∀ (W : World) (e : EvT) (cs : List Value), KOk W → EvB W e cs → e.1.length ≤ 64 → (∀ s ∈ allE e, s.2.length ≤ 1048576) → Calls Tryd.prog 18 #[.agg cs.toArray] W fun r w' => ∃ v, r = .returned v ∧ Reads w' v (bytesF e) ∧ Below W.heap.size W w'
  read : ∀ (W : World) (v : Value) (b : Bs), KOk W → Reads W v b → b.length ≤ 1000000000 → Calls Tryd.prog 13 #[v] W fun r w' => ∃ cs, r = .returned (.tuple #[.agg (cs : List Value).toArray, .int .i64 (readX b)]) ∧ EvB w' (readE b) cs ∧ Below W.heap.size W w'
  accept : ∀ (W : World) (pin : Bs) (v : Value) (b : Bs), KOk W → pin.length = 32 → Reads W v b → b.length ≤ 1000000000 → Calls Tryd.prog 16 #[.agg (cb pin).toArray, v] W fun r w' => r = .returned (.int .i64 (acceptF pin b)) ∧ Below W.heap.size W w'
  find : ∀ (W : World) (pin : Bs) (v u : Value) (l m : List SgT), KOk W → pin.length = 32 → ReadsS W v l → ReadsS W u m → l.length ≤ 40 → m.length ≤ 40 → (∀ s ∈ l, s.2.length ≤ 524288) → (∀ s ∈ m, s.2.length ≤ 524288) → Calls Tryd.prog 21 #[.agg (cb pin).toArray, v, u] W fun r w' => ∃ cs, r = .returned (.tuple #[.agg (cs : List Value).toArray, .bool (findF pin l m).isSome]) ∧ EvB w' (findE pin l m) cs ∧ Below W.heap.size W w'
/-- what few tells -/
def fewGo : List SgT → Int → Bool
  | [], z => decide (z ≤ 524288)
  | s :: l, z => if z ≤ 524288 then fewGo l (IntKind.i64.wrap (z + (s.2.length : Int))) else false
def fewR (l : List SgT) : Bool := decide (l.length ≤ 40) && fewGo l 0
theorem fewGo_true : ∀ (l : List SgT) (z : Int), 0 ≤ z → (∀ s ∈ l, s.2.length < 281474976710656) → fewGo l z = true → z ≤ 524288 ∧ ∀ s ∈ l, s.2.length ≤ 524288
  | [], z, _, _, h => ⟨of_decide_eq_true h, fun _ h => by cases h⟩
  | s :: l, z, hz, hb, h => by
    rw [fewGo] at h
    split at h
    · rename_i h1
      have hs := hb s (by simp)
      have hw : IntKind.i64.wrap (z + (s.2.length : Int)) = z + (s.2.length : Int) := by rw [IntKind.wrap_i64]; omega
      rw [hw] at h
      obtain ⟨h2, h3⟩ := fewGo_true l _ (by omega) (fun x hx => hb x (by simp [hx])) h
      refine ⟨h1, ?_⟩
      intro x hx
      rcases List.mem_cons.1 hx with rfl | hx
      · omega
      · exact h3 x hx
    · cases h
theorem fewR_len {l : List SgT} (h : fewR l = true) : l.length ≤ 40 := by
  rw [fewR, Bool.and_eq_true] at h
  exact of_decide_eq_true h.1
theorem fewR_sig {l : List SgT} (h : fewR l = true) (hb : ∀ s ∈ l, s.2.length < 281474976710656) : ∀ s ∈ l, s.2.length ≤ 524288 := by
  rw [fewR, Bool.and_eq_true] at h
  exact (fewGo_true l 0 (by omega) hb h.2).2
def lightR (e : EvT) : Bool := fewR e.1 && fewR [e.2.1, e.2.2]
theorem lightR_len {e : EvT} (h : lightR e = true) : e.1.length ≤ 40 := by
  rw [lightR, Bool.and_eq_true] at h
  exact fewR_len h.1
theorem lightR_sig {e : EvT} (h : lightR e = true) (hb : ∀ s ∈ allE e, s.2.length < 281474976710656) : ∀ s ∈ allE e, s.2.length ≤ 524288 := by
  rw [lightR, Bool.and_eq_true] at h
  intro s hs
  rcases List.mem_append.1 hs with hs | hs
  · exact fewR_sig h.1 (fun x hx => hb x (List.mem_append.2 (Or.inl hx))) s hs
  · exact fewR_sig h.2 (fun x hx => hb x (List.mem_append.2 (Or.inr hx))) s hs
set_option maxRecDepth 100000 in
set_option maxHeartbeats 8000000 in
theorem few12_any (v : Value) (l : List SgT) (w : World) (hl : ReadsS w v l) : Calls Tryd.prog 20 #[v] w fun e w' => e = .returned (.bool (fewR l)) ∧ w' = w := by
  obtain ⟨⟨ad, cap, hv, hq1, hq2, hq3⟩, hok⟩ := id hl
  clear hq1 hq2 hq3 hok
  obtain ⟨n, HN⟩ : ∃ n, Hid (n = l.length) := ⟨_, rfl⟩
  rw [← HN.out] at hv
  have HL : Hid (ReadsS w v l) := hl
  clear hl
  subst hv
  by_cases h40 : 40 < n
  · have hi : (40 : Int) < (n : Int) := by omega
    have HR : Hid (fewR l = false) := by show _ = _; rw [fewR, decide_eq_false (by rw [← HN.out]; omega), Bool.false_and]
    go_enter Tryd.func20, Tryd.ntmps20
    go_wp2
    go_ret
    exact ⟨by rw [HR.out]; rfl, rfl⟩
  have hi : ¬ ((40 : Int) < (n : Int)) := by omega
  obtain ⟨r, HR⟩ : ∃ r, Hid (r = fewR l) := ⟨_, rfl⟩
  have HRG : Hid (r = fewGo l 0) := by show _ = _; rw [HR.out, fewR, decide_eq_true (by rw [← HN.out]; omega), Bool.true_and]
  rw [← HR.out]
  clear HR
  go_enter Tryd.func20, Tryd.ntmps20
  go_wp2
  go_loopw [3, 4] (fun m i wr => ∃ (k : Nat) (z : Int), k ≤ n ∧ i = .int .i64 (k : Int) ∧ m = .int .i64 z ∧ wr = w ∧ Hid (r = fewGo (l.drop k) z)) (fun _ i _ => n - (intOf i).toNat)
  case atStart => exact ⟨0, 0, by omega, rfl, rfl, rfl, HRG.out⟩
  case round =>
    obtain ⟨k, z, hkn, rfl, rfl, rfl, HG⟩ := hrel
    clear HRG
    by_cases hlt : k < n
    · have hlk : (k : Int) < (n : Int) := by omega
      have k0 : (0 : Int) ≤ (k : Int) := by omega
      have f5 : IntKind.i64.wrap ((k : Int) + 1) = (k : Int) + 1 := by rw [IntKind.wrap_i64]; omega
      have HLT : Hid (k < l.length) := by show _ < _; rw [← HN.out]; exact hlt
      obtain ⟨s, HS⟩ : ∃ s, Hid (s = l.getD k zeroS) := ⟨_, rfl⟩
      have HDR : Hid (l.drop k = s :: l.drop (k + 1)) := by
        show _ = _
        have hg : l.getD k zeroS = l[k]'HLT.out := by rw [List.getD_eq_getElem?_getD, List.getElem?_eq_getElem HLT.out]; rfl
        rw [HS.out, hg, List.getElem_cons_drop]
      by_cases hz : z ≤ 524288
      · obtain ⟨b, off, cap', hv2, hat⟩ := HL.out.at (by rw [← HN.out]; omega)
        simp only [Value.slice.injEq] at hv2
        obtain ⟨rfl, hnl, rfl⟩ := hv2
        clear hnl
        obtain ⟨vs, hsa, hrs⟩ := hat k HLT.out
        rw [← HS.out] at hsa hrs
        obtain ⟨a3, c3, hv3, hq⟩ := id hrs
        clear hq
        obtain ⟨n3, HN3⟩ : ∃ n, Hid (n = s.2.length) := ⟨_, rfl⟩
        rw [← HN3.out] at hv3
        subst hv3
        have hsg : wr.cell? ⟨b, off + k * 98 + 97, none⟩ = some (.slice a3 n3 c3) := hsa.sig
        have HG2 : Hid (r = fewGo (l.drop (k + 1)) (IntKind.i64.wrap (z + (n3 : Int)))) := by show _ = _; rw [HG.out, HDR.out, fewGo, if_pos hz, HN3.out]
        clear hat hsa hrs
        go_wp2
        go_roundw
        case rel => exact ⟨k + 1, _, by omega, by simp, rfl, by first | rfl | trivial, by have h := HG2.out; rw [IntKind.wrap_i64] at h; show _ = _; unfold RowKit.wrap64; exact h⟩
        case measure => simp [intOf]; omega
      · have HF : Hid (r = false) := by show _ = _; rw [HG.out, HDR.out, fewGo, if_neg hz]
        go_wp2
        go_ret
        exact ⟨by rw [HF.out]; rfl, rfl⟩
    · have hlk : ¬ ((k : Int) < (n : Int)) := by omega
      have HE : Hid (r = decide (z ≤ 524288)) := by show _ = _; rw [HG.out, List.drop_eq_nil_of_le (by rw [← HN.out]; omega)]; rfl
      by_cases hz : z ≤ 524288
      · have HF : Hid (r = true) := by show _ = _; rw [HE.out, decide_eq_true hz]
        go_wp2
        go_ret
        exact ⟨by rw [HF.out]; rfl, rfl⟩
      · have HF : Hid (r = false) := by show _ = _; rw [HE.out, decide_eq_false hz]
        go_wp2
        go_ret
        exact ⟨by rw [HF.out]; rfl, rfl⟩
end Go.Proofs.YtableajopaappaaDoor
/- What the statements of layer 12 call: light, works. -/
namespace Go.Proofs.YtableajopaappaaDoor
open Go.RowKit Go.Shelf
set_option maxRecDepth 100000
set_option maxRecDepth 100000 in
set_option maxHeartbeats 8000000 in
theorem light12_any (e : EvT) (cs : List Value) (w : World) (hE : EvB w e cs) : Calls Tryd.prog 9 #[.agg cs.toArray] w fun r w' => r = .returned (.bool (lightR e)) ∧ Below w.heap.size w w' := by
  obtain ⟨vt, va, vb, hcs, he⟩ := hE.open
  subst hcs
  obtain ⟨adt, ct, hvt⟩ := he.tr.form
  obtain ⟨ada, na, ca, hva⟩ := he.a.form
  obtain ⟨adb, nb, cc, hvb⟩ := he.b.form
  obtain ⟨nt, HNT⟩ : ∃ n, Hid (n = e.1.length) := ⟨_, rfl⟩
  rw [← HNT.out] at hvt
  subst hvt hva hvb
  obtain ⟨cev, HCE⟩ : ∃ c, Hid (c = evC e (.slice adt nt ct) (.slice ada na ca) (.slice adb nb cc)) := ⟨_, rfl⟩
  rw [← HCE.out]
  have HEV : Hid (EvIs w e (.slice adt nt ct) (.slice ada na ca) (.slice adb nb cc)) := he
  have HIE : Hid ((Tryd.prog.info? 32).map (·.size) = some cev.length) := by show _ = _; rw [HCE.out]; exact info_evC he.oa he.ob _ _ _
  have HAT : Hid (∀ (W : World) (g : Nat), Blk W g cev 32 → EvAt W g 0 e (.slice adt nt ct) (.slice ada na ca) (.slice adb nb cc)) := fun W g hg => by rw [HCE.out] at hg; exact hg.evAt HEV.out.oa HEV.out.ob
  obtain ⟨csa, HSA⟩ : ∃ c, Hid (c = sgC e.2.1 (.slice ada na ca)) := ⟨_, rfl⟩
  obtain ⟨csb, HSB⟩ : ∃ c, Hid (c = sgC e.2.2 (.slice adb nb cc)) := ⟨_, rfl⟩
  have HIS : Hid ((Tryd.prog.info? 30).map (·.size) = some csa.length ∧ (Tryd.prog.info? 30).map (·.size) = some csb.length) := by rw [HSA.out, HSB.out]; exact ⟨info_sgC HEV.out.oa _, info_sgC HEV.out.ob _⟩
  have HRG : Hid (∀ (W : World) (g : Nat), Blk W g cev 32 → W.rangeAt g 1 csa ∧ W.rangeAt g 99 csb) := fun W g hg => by rw [HSA.out, HSB.out]; have h := HAT.out W g hg; refine ⟨?_, ?_⟩; have := h.a.all; rwa [Nat.zero_add] at this; have := h.b.all; rwa [Nat.zero_add] at this
  clear he
  obtain ⟨b1, HB1⟩ : ∃ b, Hid (b = fewR e.1) := ⟨_, rfl⟩
  obtain ⟨b2, HB2⟩ : ∃ b, Hid (b = fewR [e.2.1, e.2.2]) := ⟨_, rfl⟩
  have HLR : Hid (lightR e = (b1 && b2)) := by show _ = _; rw [lightR, HB1.out, HB2.out]
  have HC1 : Hid (∀ W : World, Below w.heap.size w W → Calls Tryd.prog 20 #[.slice adt nt ct] W fun r w' => r = .returned (.bool b1) ∧ Below W.heap.size W w') := fun W hh => by rw [HB1.out]; exact (few12_any _ e.1 W (HEV.out.tr.below hh)).mono fun r w' ⟨h1, h2⟩ => ⟨h1, by rw [h2]; exact Below.refl _ _⟩
  have HC2 : Hid (∀ (W : World) (g : Nat), Below w.heap.size w W → Blk W g (csa ++ csb) 30 → Calls Tryd.prog 20 #[.slice (some ⟨g, 0, none⟩) 2 2] W fun r w' => r = .returned (.bool b2) ∧ Below W.heap.size W w') := fun W g hh hb => by rw [HSA.out, HSB.out] at hb; rw [HB2.out]; exact (few12_any _ [e.2.1, e.2.2] W (readsS_two hb HEV.out.oa HEV.out.ob (HEV.out.a.below hh) (HEV.out.b.below hh))).mono fun r w' ⟨h1, h2⟩ => ⟨h1, by rw [h2]; exact Below.refl _ _⟩
  have HL98 : Hid (csa.length = 98 ∧ csb.length = 98) := by rw [HSA.out, HSB.out]; exact ⟨len_sgC HEV.out.oa _, len_sgC HEV.out.ob _⟩
  have HBW : Hid (Below w.heap.size w w) := Below.refl _ _
  clear HB1 HB2
  cases b1 with
  | false =>
    go_enter Tryd.func9, Tryd.ntmps9
    have tk0 : Hid True := trivial
    have tk1 : Hid True := trivial
    go_wp2_with (first
      | (clear tk0; with_reducible refine wpSeq_boxW 32 (.tmp 0) cev ?_ ?_ ?_ ?_
         · rfl
         · rfl
         · rfl
         intro g1 y1 nn
         replace HBW : Hid (Below w.heap.size w y1) := HBW.out.trans (nn.below.mono HBW.out.size)
         have HG1 : Hid (Blk y1 g1 cev 32) := nn.blk
         clear nn
         have cet : (y1).cell? ⟨g1, 0, none⟩ = some (.slice adt nt ct) := (HAT.out _ _ HG1.out).tr
         skip)
      | (clear tk1; go_at_call 20; refine (HC1.out y1 HBW.out).mono ?_; rintro e y2 ⟨rfl, hbz⟩
         clear cet
         replace HG1 : Hid (Blk y2 g1 cev 32) := HG1.out.below hbz HG1.out.lt
         replace HBW : Hid (Below w.heap.size w y2) := HBW.out.trans (hbz.mono HBW.out.size)
         have cet : (y2).cell? ⟨g1, 0, none⟩ = some (.slice adt nt ct) := (HAT.out _ _ HG1.out).tr
         clear hbz ))
    go_ret
    exact ⟨by rw [HLR.out]; rfl, HBW.out⟩
  | true =>
    go_enter Tryd.func9, Tryd.ntmps9
    have tk0 : Hid True := trivial
    have tk1 : Hid True := trivial
    have tk2 : Hid True := trivial
    have tk3 : Hid True := trivial
    have tk4 : Hid True := trivial
    have tk5 : Hid True := trivial
    go_wp2_with (first
      | (clear tk0; with_reducible refine wpSeq_boxW 32 (.tmp 0) cev ?_ ?_ ?_ ?_
         · rfl
         · rfl
         · rfl
         intro g1 y1 nn
         replace HBW : Hid (Below w.heap.size w y1) := HBW.out.trans (nn.below.mono HBW.out.size)
         have HG1 : Hid (Blk y1 g1 cev 32) := nn.blk
         clear nn
         have cet : (y1).cell? ⟨g1, 0, none⟩ = some (.slice adt nt ct) := (HAT.out _ _ HG1.out).tr
         skip)
      | (clear tk1; go_at_call 20; refine (HC1.out y1 HBW.out).mono ?_; rintro e y2 ⟨rfl, hbz⟩
         clear cet
         replace HG1 : Hid (Blk y2 g1 cev 32) := HG1.out.below hbz HG1.out.lt
         replace HBW : Hid (Below w.heap.size w y2) := HBW.out.trans (hbz.mono HBW.out.size)
         have cet : (y2).cell? ⟨g1, 0, none⟩ = some (.slice adt nt ct) := (HAT.out _ _ HG1.out).tr
         clear hbz )
      | (clear tk2; with_reducible refine wpSeq_loadW 30 (.tmp 7) g1 1 csa _ ?_ Tryd.underlying30 rfl ?_ ?_ ?_ ?_ ?_
         · exact (HRG.out _ _ HG1.out).1
         · exact HIS.out.1
         · rfl
         · rfl
         · rfl)
      | (clear tk3; with_reducible refine wpSeq_loadW 30 (.tmp 9) g1 99 csb _ ?_ Tryd.underlying30 rfl ?_ ?_ ?_ ?_ ?_
         · exact (HRG.out _ _ HG1.out).2
         · exact HIS.out.2
         · rfl
         · rfl
         · rfl)
      | (clear tk4; with_reducible refine wpSeq_buildS2 (.tmp 8) (.tmp 10) csa csb ?_ ?_ ?_ ?_ ?_ ?_ ?_
         · exact HL98.out.1
         · exact HL98.out.2
         · rfl
         · rfl
         · rfl
         · rfl
         intro g11 y3 nn
         clear cet
         replace HG1 : Hid (Blk y3 g1 cev 32) := HG1.out.below nn.below HG1.out.lt
         replace HBW : Hid (Below w.heap.size w y3) := HBW.out.trans (nn.below.mono HBW.out.size)
         have cet : (y3).cell? ⟨g1, 0, none⟩ = some (.slice adt nt ct) := (HAT.out _ _ HG1.out).tr
         have H11 : Hid (Blk y3 g11 (csa ++ csb) 30) := nn.blk
         clear nn)
      | (clear tk5; go_at_call 20; refine (HC2.out y3 g11 HBW.out H11.out).mono ?_; rintro e y4 ⟨rfl, hbz⟩
         clear cet
         replace HG1 : Hid (Blk y4 g1 cev 32) := HG1.out.below hbz HG1.out.lt
         replace HBW : Hid (Below w.heap.size w y4) := HBW.out.trans (hbz.mono HBW.out.size)
         have cet : (y4).cell? ⟨g1, 0, none⟩ = some (.slice adt nt ct) := (HAT.out _ _ HG1.out).tr
         clear hbz ))
    go_ret
    exact ⟨by rw [HLR.out, Bool.true_and]; rfl, HBW.out⟩
theorem okB_zero : okB zeroE := okB_light (by decide) (fun s hs => by
  rcases List.mem_cons.1 hs with rfl | hs
  · exact ⟨okS_zero, by decide⟩
  · rw [List.mem_singleton.1 hs]; exact ⟨okS_zero, by decide⟩)
theorem bytesZ_len : (bytesF zeroE).length ≤ 1000000000 := bytesF_le (by decide) (fun s hs => (okB_zero.2 s hs).1)
set_option maxRecDepth 100000 in
set_option maxHeartbeats 8000000 in
theorem works12_any (hO : FkOps) (w : World) (hK : KOk w) : Calls Tryd.prog 10 #[] w fun e w' => e = .returned (.bool true) ∧ Below w.heap.size w w' := by
  obtain ⟨cz, HCZ⟩ : ∃ c, Hid (c = evC zeroE (.slice none 0 0) (.slice none 0 0) (.slice none 0 0)) := ⟨_, rfl⟩
  obtain ⟨bz, HBZ⟩ : ∃ c, Hid (c = bytesF zeroE) := ⟨_, rfl⟩
  have HR1 : Hid (∀ W : World, Below w.heap.size w W → Calls Tryd.prog 13 #[.slice none 0 0] W fun r w' => ∃ cs, r = .returned (.tuple #[.agg (cs : List Value).toArray, .int .i64 3]) ∧ EvB w' zeroE cs ∧ Below W.heap.size W w') := fun W hh => hO.read W (.slice none 0 0) [] (hK.below hh hK.lt) (reads_nil10 W) (by decide)
  have HB1 : Hid (∀ W : World, Below w.heap.size w W → Calls Tryd.prog 18 #[.agg cz.toArray] W fun r w' => ∃ v, r = .returned v ∧ Reads w' v bz ∧ Below W.heap.size W w') := fun W hh => by rw [HCZ.out, HBZ.out]; exact hO.bytes W zeroE _ (hK.below hh hK.lt) (EvB.zero W) (by decide) (fun s hs => (okB_zero.2 s hs).1.2)
  have HR2 : Hid (∀ (W : World) (v : Value), Below w.heap.size w W → Reads W v bz → Calls Tryd.prog 13 #[v] W fun r w' => ∃ cs, r = .returned (.tuple #[.agg (cs : List Value).toArray, .int .i64 0]) ∧ EvB w' zeroE cs ∧ Below W.heap.size W w') := fun W v hh hv => by
    rw [HBZ.out] at hv
    have h := hO.read W v (bytesF zeroE) (hK.below hh hK.lt) hv bytesZ_len
    rw [readX, readE, read_back okB_zero] at h
    exact h
  have HK1 : Hid (∀ (W : World) (cs : List Value), Below w.heap.size w W → EvB W zeroE cs → Calls Tryd.prog 11 #[.agg (cb zb32).toArray, .agg cs.toArray] W fun r w' => r = .returned (.int .i64 15) ∧ Below W.heap.size W w') := fun W cs hh hv => by
    have h := hO.check W zb32 zeroE cs (hK.below hh hK.lt) rfl hv (by decide)
    rw [show checkF zb32 zeroE = 15 from checkF_same _ _ _] at h
    exact h
  have HBW : Hid (Below w.heap.size w w) := Below.refl _ _
  clear hO hK HBZ
  go_enter Tryd.func10, Tryd.ntmps10
  have tk0 : Hid True := trivial
  have tk1 : Hid True := trivial
  have tk2 : Hid True := trivial
  have tk3 : Hid True := trivial
  have tk4 : Hid True := trivial
  have tk5 : Hid True := trivial
  have tk6 : Hid True := trivial
  have tk7 : Hid True := trivial
  have tk8 : Hid True := trivial
  have tk9 : Hid True := trivial
  have tk10 : Hid True := trivial
  go_wp2_with (first
    | (clear tk0; go_at_call 13; refine (HR1.out w HBW.out).mono ?_; rintro e y1 ⟨c1, rfl, hev, hbz⟩
       replace HBW : Hid (Below w.heap.size w y1) := HBW.out.trans (hbz.mono HBW.out.size)
       have HE1 : Hid (EvOk zeroE c1) := hev.ok
       clear hbz hev)
    | (clear tk1; with_reducible refine wpSeq_allocE ?_ ?_ ?_
       · rfl
       · rfl
       intro g1 y2 nn)
    | (clear tk2; with_reducible refine wpSeq_storeRow 32 (.tmp 1) (.tmp 7) g1 (evC zeroE (.slice none 0 0) (.slice none 0 0) (.slice none 0 0)) c1 ?_ ?_ ?_ ?_ ?_ ?_ ?_ ?_ ?_
       · exact nn.blk
       · exact HE1.out.lz
       · exact HE1.out.info
       · exact HE1.out.one
       · rfl
       · rfl
       · rfl
       · rfl
       intro y3 hs
       have hbz := nn.below.trans (hs.only.below nn.ge nn.below.size)
       replace HBW : Hid (Below w.heap.size w y3) := HBW.out.trans (hbz.mono HBW.out.size)
       have H1 : Hid (Blk y3 g1 c1 32) := hs.blk
       clear nn hs hbz)
    | (clear tk3; with_reducible refine wpSeq_build 32 [] cz ?_ ?_ ?_ ?_
       · exact (built_evid []).trans (by rw [HCZ.out]; rfl)
       · rfl
       · rfl)
    | (clear tk4; go_at_call 18; refine (HB1.out y3 HBW.out).mono ?_; rintro e y4 ⟨vb, rfl, hvb, hbz⟩
       replace H1 : Hid (Blk y4 g1 c1 32) := H1.out.below hbz H1.out.lt
       replace HBW : Hid (Below w.heap.size w y4) := HBW.out.trans (hbz.mono HBW.out.size)
       have HVB : Hid (Reads y4 vb bz) := hvb
       clear hbz hvb)
    | (clear tk5; go_at_call 13; refine (HR2.out y4 vb HBW.out HVB.out).mono ?_; rintro e y5 ⟨c2, rfl, hev, hbz⟩
       clear HVB
       replace H1 : Hid (Blk y5 g1 c1 32) := H1.out.below hbz H1.out.lt
       replace HBW : Hid (Below w.heap.size w y5) := HBW.out.trans (hbz.mono HBW.out.size)
       have HE2 : Hid (EvOk zeroE c2) := hev.ok
       obtain ⟨ad2, cc2, htr0⟩ := hev.ok.tr
       have HTR : Hid (∀ (W : World) (g : Nat), Blk W g c2 32 → W.cell? ⟨g, 0, none⟩ = some (.slice ad2 0 cc2)) := htr0
       have HB2 : Hid (EvB y5 zeroE c2) := hev
       clear hbz hev htr0)
    | (clear tk6; with_reducible refine wpSeq_allocE ?_ ?_ ?_
       · rfl
       · rfl
       intro g3 y6 nn)
    | (clear tk7; with_reducible refine wpSeq_storeRow 32 (.tmp 3) (.tmp 13) g3 (evC zeroE (.slice none 0 0) (.slice none 0 0) (.slice none 0 0)) c2 ?_ ?_ ?_ ?_ ?_ ?_ ?_ ?_ ?_
       · exact nn.blk
       · exact HE2.out.lz
       · exact HE2.out.info
       · exact HE2.out.one
       · rfl
       · rfl
       · rfl
       · rfl
       intro y7 hs
       have hbz := nn.below.trans (hs.only.below nn.ge nn.below.size)
       replace H1 : Hid (Blk y7 g1 c1 32) := H1.out.below hbz H1.out.lt
       replace HB2 : Hid (EvB y7 zeroE c2) := HB2.out.below hbz
       replace HBW : Hid (Below w.heap.size w y7) := HBW.out.trans (hbz.mono HBW.out.size)
       have H3 : Hid (Blk y7 g3 c2 32) := hs.blk
       clear nn hs hbz
       have ce : y7.cell? ⟨g3, 0, none⟩ = some (.slice ad2 0 cc2) := HTR.out _ _ H3.out)
    | (clear tk8; with_reducible refine wpSeq_buildZD ?_ ?_ ?_
       · rfl
       · rfl)
    | (clear tk9; with_reducible refine wpSeq_loadW 32 (.tmp 3) g3 0 c2 _ ?_ Tryd.underlying32 rfl ?_ ?_ ?_ ?_ ?_
       · exact H3.out.range
       · exact HE2.out.info
       · rfl
       · rfl
       · rfl)
    | (clear tk10; go_at_call 11; refine (HK1.out y7 c2 HBW.out HB2.out).mono ?_; rintro e y8 ⟨rfl, hbz⟩
       clear ce
       replace H1 : Hid (Blk y8 g1 c1 32) := H1.out.below hbz H1.out.lt
       replace H3 : Hid (Blk y8 g3 c2 32) := H3.out.below hbz H3.out.lt
       replace HB2 : Hid (EvB y8 zeroE c2) := HB2.out.below hbz
       replace HBW : Hid (Below w.heap.size w y8) := HBW.out.trans (hbz.mono HBW.out.size)
       clear hbz ))
  go_ret
  exact ⟨rfl, HBW.out⟩
end Go.Proofs.YtableajopaappaaDoor
/- The walk of the reference's Check (layer 12). -/
namespace Go.Proofs.YtableajopaappaaDoor
open Go.RowKit Go.Shelf
set_option maxRecDepth 100000
end Go.Proofs.YtableajopaappaaDoor
/- Cuts of slices of signed roots (layer 12). -/
namespace Go.Proofs.YtableajopaappaaDoor
open Go.RowKit Go.Shelf
set_option maxRecDepth 100000
theorem ReadsS.take {w : World} {ad : Option Addr} {n cp k : Nat} {l : List SgT} (h : ReadsS w (.slice ad n cp) l) (hk : k ≤ l.length) : ReadsS w (.slice ad k cp) (l.take k) := by
  obtain ⟨⟨ad', cp', hv, hc, hn, hx⟩, hok⟩ := h
  simp only [Value.slice.injEq] at hv
  obtain ⟨rfl, rfl, rfl⟩ := hv
  have hl : (l.take k).length = k := by rw [List.length_take]; omega
  refine ⟨⟨ad, cp, by rw [hl], by rw [hl]; omega, hn, fun hp => ?_⟩, fun s hs => hok s (List.mem_of_mem_take hs)⟩
  rw [hl] at hp
  obtain ⟨b, off, rfl, hy⟩ := hx (by omega)
  refine ⟨b, off, rfl, fun j hj => ?_⟩
  rw [hl] at hj
  have e : (l.take k).getD j zeroS = l.getD j zeroS := by rw [List.getD_eq_getElem?_getD, List.getD_eq_getElem?_getD, List.getElem?_take_of_lt hj]
  rw [e]
  exact hy j (by omega)
theorem sizeOf_signed (w : World) : (sizeOf 30).run Tryd.prog w = .ok 98 w := by kernel_rfl
theorem takeS_op (f : Operand → Value) (o : Oper) (x hi : Operand) (ho : o.op = .slice 24 x none (some hi) none) (ad : Option Addr) (n cap k : Nat) (hx : f x = .slice ad n cap) (hk : f hi = .int .i64 (k : Int)) (hc : k ≤ cap) (w : World) :
    (execOp f o).run Tryd.prog w = .ok (.value (.slice ad k cap)) w := by
  have hr : (Instr.sliceAt 24 (.slice ad n cap) none (some (.int .i64 (k : Int))) none).run Tryd.prog w = .ok (.slice ad k cap) w := by
    rw [run_sliceAt_slice w 24 _ _ _ _ (by kernel_rfl), run_slice_h w 24 _ _ _ (by kernel_rfl) .i64 _ (by omega) (by omega)]
    rw [show Tryd.prog.elem 24 = 30 from by kernel_rfl, sizeOf_signed]
    cases ad with
    | none => simp [sliced]
    | some a => simp [sliced, Addr.add_zero']
  unfold execOp
  rw [ho]
  simp only [hx, hk, Option.map_some, Option.map_none, Sem.run_bind, hr]
  rfl
/-- from a place on: where it lies -/
def dropA (ad : Option Addr) (k cap : Nat) : Option Addr := if cap = k then ad else ad.map (·.add (k * 98))
theorem dropS_op (f : Operand → Value) (o : Oper) (x lo : Operand) (ho : o.op = .slice 24 x (some lo) none none) (ad : Option Addr) (n cap k : Nat) (hx : f x = .slice ad n cap) (hk : f lo = .int .i64 (k : Int)) (hc : k ≤ n) (w : World) :
    (execOp f o).run Tryd.prog w = .ok (.value (.slice (dropA ad k cap) (n - k) (cap - k))) w := by
  have hr : (Instr.sliceAt 24 (.slice ad n cap) (some (.int .i64 (k : Int))) none none).run Tryd.prog w = .ok (.slice (dropA ad k cap) (n - k) (cap - k)) w := by
    rw [run_sliceAt_slice w 24 _ _ _ _ (by kernel_rfl), run_slice_l w 24 _ _ _ (by kernel_rfl) .i64 _ (by omega) (by omega)]
    rw [show Tryd.prog.elem 24 = 30 from by kernel_rfl, sizeOf_signed]
    simp [sliced, dropA]
  unfold execOp
  rw [ho]
  simp only [hx, hk, Option.map_some, Option.map_none, Sem.run_bind, hr]
  rfl
theorem ReadsS.drop {w : World} {ad : Option Addr} {n cp k : Nat} {l : List SgT} (h : ReadsS w (.slice ad n cp) l) (hk : k ≤ l.length) : ReadsS w (.slice (dropA ad k cp) (n - k) (cp - k)) (l.drop k) := by
  obtain ⟨⟨ad', cp', hv, hc, hn, hx⟩, hok⟩ := h
  simp only [Value.slice.injEq] at hv
  obtain ⟨rfl, rfl, rfl⟩ := hv
  have hl : (l.drop k).length = l.length - k := List.length_drop
  refine ⟨⟨_, cp - k, by rw [hl], by rw [hl]; omega, fun hd => ?_, fun hp => ?_⟩, fun s hs => hok s (List.mem_of_mem_drop hs)⟩
  · unfold dropA at hd
    split at hd
    · omega
    · have := hn (by simpa using hd); omega
  · rw [hl] at hp
    obtain ⟨b, off, rfl, hy⟩ := hx (by omega)
    refine ⟨b, off + k * 98, by rw [dropA, if_neg (by omega)]; simp [Addr.add_mid], fun j hj => ?_⟩
    rw [hl] at hj
    have e : (l.drop k).getD j zeroS = l.getD (k + j) zeroS := by rw [List.getD_eq_getElem?_getD, List.getD_eq_getElem?_getD, List.getElem?_drop]
    rw [e, show off + k * 98 + j * 98 = off + (k + j) * 98 by omega]
    exact hy (k + j) (by omega)
end Go.Proofs.YtableajopaappaaDoor
/- ForkChecks, over what fork's functions do (layer 12). -/
namespace Go.Proofs.YtableajopaappaaDoor
open Go.RowKit Go.Shelf
set_option maxRecDepth 100000
end Go.Proofs.YtableajopaappaaDoor

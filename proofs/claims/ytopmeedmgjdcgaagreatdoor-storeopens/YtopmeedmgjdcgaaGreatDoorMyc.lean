/- Texts that the proof leans on, one behind the other: The walk of blazonref14.Record (layer 14). The walks of blazonref14.Gen and Pick (layer 14). A list of texts that grows by append (layer 14). .. -/
import Derived.Test.YtopmeedmgjdcgaaGreatDoorMyb
import Derived.Maps.AppendAt
import Derived.Lib.AppendZerosOnto
import Derived.Deep.Cut
import Derived.Deep.RegionHeld
import Derived.RangeFuncNested
import Derived.RangeFuncFrom
import Derived.OrdersIn
import Derived.TacticsIn
import Derived.RangeFuncBound
import Derived.RangeFuncCalls
import Derived.RangeFuncLeaves
import Derived.Shelf.Abstract
import Derived.TacticsInMore
import Derived.Lib.SlBytesConst
/- The walk of blazonref14.Record (layer 14). -/
namespace Go.Proofs.YtopmeedmgjdcgaaGreatDoor
open Go.RowKit
set_option maxRecDepth 100000
theorem build_yJ (b : BitVec 8) (f : Operand → Value) (o : Oper) (x : Operand) (hx : f x = .int .u8 (b.toNat : Int)) (ho : o.op = .buildSlice 23 1 #[(0, x)]) (w : World) : (execOp f o).run Tryz.prog w = .ok (.value (.slice (some ⟨w.heap.size, 0, none⟩) 1 1)) (w.alloc (.cells (cb [b]).toArray 5)) := by
  unfold execOp
  rw [ho]
  simp only [List.map_toArray, List.map_cons, List.map_nil, hx]
  kernel_rfl
set_option maxRecDepth 100000 in
set_option maxHeartbeats 2000000 in
theorem nRecord_any (gen seq : Nat) (hg : gen < 18446744073709551616) (hq : seq < 18446744073709551616) (v : Value) (b : Bs) (hb : b.length < 90000000) (w : World) (hr : Reads w v b) : Calls Tryz.prog 84 #[.int .u64 (gen : Int), .int .u64 (seq : Int), v] w fun e w' => ∃ v', e = .returned v' ∧ Reads w' v' (recB gen seq b) ∧ Below w.heap.size w w' := by
  obtain ⟨ab, cbb, hv⟩ : ∃ ad c, v = .slice ad b.length c := by obtain ⟨a, c, hv, _⟩ := hr; exact ⟨a, c, hv⟩
  obtain ⟨nb, HNE⟩ : ∃ n, Hid (n = b.length) := ⟨_, rfl⟩
  rw [← HNE.out] at hv
  subst hv
  obtain ⟨tx, HTX⟩ : ∃ x, Hid (x = textB gen seq b) := ⟨_, rfl⟩
  obtain ⟨dg, HDG⟩ : ∃ x, Hid (x = dig tx) := ⟨_, rfl⟩
  have HB : Hid (Reads w (.slice ab nb cbb) b) := hr
  have HG : Hid (gen < 18446744073709551616) := hg
  have HQ : Hid (seq < 18446744073709551616) := hq
  have HL : Hid (b.length < 90000000) := hb
  have HNB : Hid (nb < 18446744073709551616) := by show _ < _; rw [HNE.out]; omega
  have HTL : Hid (tx.length < 100000000) := by show _ < _; rw [HTX.out, textB]; simp only [List.length_cons, List.length_append, len_num8]; omega
  have HDL : Hid (dg.length = 32) := by rw [HDG.out]; exact len_dig' _
  have HZL : Hid ((cb dg).length = (cb zb32).length) := by show _ = _; rw [cb_len, cb_len, HDL.out, len_zb32]
  have HIN : Hid ((Tryz.prog.info? 155).map (·.size) = some (cb dg).length) := info_dig _ HDL.out
  have HTT : Hid (Calls Tryz.prog 108 #[.int .u64 (gen : Int), .int .u64 (seq : Int), .slice ab nb cbb] w fun e w' => ∃ v', e = .returned v' ∧ Reads w' v' tx ∧ Below w.heap.size w w') := by rw [HTX.out]; exact nText_any gen seq hg hq _ b (by omega) w hr
  have HOF : Hid (∀ (W : World) (v : Value), Reads W v tx → Calls Tryz.prog 107 #[v] W fun e w' => e = .returned (.agg (cb dg).toArray) ∧ Below W.heap.size W w') := fun W v hr => by rw [HDG.out]; exact rOf_any v tx W hr (by have := HTL.out; omega)
  have HRW : Hid ([[74], num8 gen, num8 seq, dg, num8 nb, b].flatten = rawB gen seq b) := by show _ = _; rw [HDG.out, HTX.out, HNE.out]; simp [rawB]
  have HFL : Hid ([[74], num8 gen, num8 seq, dg, num8 nb, b].flatten.length ≤ 140737488355328) := by show _ ≤ _; rw [HRW.out, len_rawB]; omega
  have HFP : Hid (0 < [[74], num8 gen, num8 seq, dg, num8 nb, b].flatten.length) := by show _ < _; rw [HRW.out, len_rawB]; omega
  have HFQ : Hid ([[74], num8 gen, num8 seq, dg, num8 nb, b].flatten.length < 100000000) := by show _ < _; rw [HRW.out, len_rawB]; omega
  have HPE : Hid (padB [[74], num8 gen, num8 seq, dg, num8 nb, b].flatten = recB gen seq b) := by show _ = _; rw [HRW.out]; rfl
  have f8 : IntKind.u64.wrap (nb : Int) = (nb : Int) := by rw [IntKind.wrap_u64]; have := HNB.out; omega
  have HBW : Hid (Below w.heap.size w w) := Below.refl _ _
  clear hr hg hq hb
  go_enter Tryz.func84, Tryz.ntmps84
  have tk0 : Hid True := trivial
  have tk1 : Hid True := trivial
  have tk2 : Hid True := trivial
  have tk3 : Hid True := trivial
  go_wp2_with (first
    | (clear tk0; go_at_call 108; refine (HTT.out).mono ?_; rintro e0 y2 ⟨v1, rfl, hr, hz⟩
       replace HB : Hid (Reads y2 (.slice ab nb cbb) b) := HB.out.below hz
       replace HBW : Hid (Below w.heap.size w y2) := HBW.out.trans (hz.mono HBW.out.size)
       obtain ⟨a1, n1, c1, hv⟩ := hr.form
       subst hv
       have H1 : Hid (Reads y2 (.slice a1 n1 c1) (tx)) := hr
       clear hz hr)
    | (clear tk1; go_at_call 107; refine (HOF.out _ _ H1.out).mono ?_; rintro e0 y3 ⟨rfl, hz⟩
       replace HB : Hid (Reads y3 (.slice ab nb cbb) b) := HB.out.below hz
       replace HBW : Hid (Below w.heap.size w y3) := HBW.out.trans (hz.mono HBW.out.size)
       clear hz H1)
    | (clear tk2; with_reducible refine wpSeq_allocDg ?_ ?_ ?_
       · rfl
       · rfl
       intro g7 y7 nn
       have HG7 : Hid (Blk y7 g7 (cb zb32) 155) := nn.blk
       have HGE : Hid (y3.heap.size ≤ g7) := nn.ge
       have HB67 : Hid (Below y3.heap.size y3 y7) := nn.below
       clear nn)
    | (clear tk3; with_reducible refine wpSeq_storeRow 155 (.tmp 7) (.tmp 12) g7 (cb zb32) (cb dg) HG7.out HZL.out HIN.out (cb_one _) ?_ ?_ ?_ ?_ ?_
       · rfl
       · rfl
       · rfl
       · rfl
       intro y8 hs
       have hz : Below y3.heap.size y3 y8 := HB67.out.trans (hs.only.below HGE.out HB67.out.size)
       have H7 : Hid (Reads y8 (.slice (some ⟨g7, 0, none⟩) 32 32) dg) := hs.blk.reads HDL.out.symm (by rw [HDL.out]; exact Nat.le_refl _)
       replace HB : Hid (Reads y8 (.slice ab nb cbb) b) := HB.out.below hz
       replace HBW : Hid (Below w.heap.size w y8) := HBW.out.trans (hz.mono HBW.out.size)
       clear hs hz)
    | fail)
  refine wp_region_held_drew (S := Over (World.drew y8)) (by kernel_rfl) (Over.refl _) ?_
  intro hS
  have rd : Reads (World.drew y8) (.slice (some ⟨g7, 0, none⟩) 32 32) dg := H7.out
  have rb : Reads (World.drew y8) (.slice ab nb cbb) b := HB.out
  replace HBW : Hid (Below w.heap.size w (World.drew y8)) := HBW.out.drew
  clear H7 HB HG7 HGE HB67
  change wpAnyH _ _ _ _ _ _ _ _ (World.drew y8)
  generalize World.drew y8 = y0 at *
  refine wpAnyH_take (i := 1) (v := .int .u64 (gen : Int)) rfl (by kernel_rfl) (by kernel_rfl) (by kernel_rfl) (fun _ _ _ h => h) (Or.inl ⟨by rfl, fun wx hx => by simp [go_sem]⟩) hS ?_
  simp only [Act.put, List.getElem_toArray, List.getElem_cons_succ, List.getElem_cons_zero, List.setIfInBounds_toArray, List.set_cons_zero, List.set_cons_succ]
  refine wpAnyH_take (i := 3) (v := .int .u64 (seq : Int)) rfl (by kernel_rfl) (by kernel_rfl) (by kernel_rfl) (fun _ _ _ h => h) (Or.inl ⟨by rfl, fun wx hx => by simp [go_sem]⟩) hS ?_
  simp only [Act.put, List.getElem_toArray, List.getElem_cons_succ, List.getElem_cons_zero, List.setIfInBounds_toArray, List.set_cons_zero, List.set_cons_succ]
  refine wpAnyH_take (i := 5) (v := .slice (some ⟨g7, 0, none⟩) 32 32) rfl (by kernel_rfl) (by kernel_rfl) (by kernel_rfl) (fun _ _ _ h => h) (Or.inl ⟨by rfl, fun wx hx => by exact sliceDg g7 0 _ _ _ rfl rfl _⟩) hS ?_
  simp only [Act.put, List.getElem_toArray, List.getElem_cons_succ, List.getElem_cons_zero, List.setIfInBounds_toArray, List.set_cons_zero, List.set_cons_succ]
  refine wpAnyH_take (i := 6) (v := .slice ab nb cbb) rfl (by kernel_rfl) (by kernel_rfl) (by kernel_rfl) (fun _ _ _ h => h) (Or.inl ⟨by rfl, fun wx hx => by simp [go_sem]⟩) hS ?_
  simp only [Act.put, List.getElem_toArray, List.getElem_cons_succ, List.getElem_cons_zero, List.setIfInBounds_toArray, List.set_cons_zero, List.set_cons_succ]
  refine wpAnyH_take (i := 7) (v := .int .i64 (nb : Int)) rfl (by kernel_rfl) (by kernel_rfl) (by kernel_rfl) (fun _ _ _ h => h) (Or.inl ⟨by rfl, fun wx hx => by simp [go_sem]⟩) hS ?_
  simp only [Act.put, List.getElem_toArray, List.getElem_cons_succ, List.getElem_cons_zero, List.setIfInBounds_toArray, List.set_cons_zero, List.set_cons_succ]
  refine wpAnyH_take (i := 8) (v := .int .u64 (nb : Int)) rfl (by kernel_rfl) (by kernel_rfl) (by kernel_rfl) (fun _ _ _ h => h) (Or.inl ⟨by rfl, fun wx hx => by simp [go_sem, f8]⟩) hS ?_
  simp only [Act.put, List.getElem_toArray, List.getElem_cons_succ, List.getElem_cons_zero, List.setIfInBounds_toArray, List.set_cons_zero, List.set_cons_succ]
  refine wpAnyH_take (i := 10) (v := .slice ab nb cbb) rfl (by kernel_rfl) (by kernel_rfl) (by kernel_rfl) (fun _ _ _ h => h) (Or.inl ⟨by rfl, fun wx hx => by simp [go_sem]⟩) hS ?_
  simp only [Act.put, List.getElem_toArray, List.getElem_cons_succ, List.getElem_cons_zero, List.setIfInBounds_toArray, List.set_cons_zero, List.set_cons_succ]
  refine wpAnyH_pair 0 2 (by kernel_rfl) ?_ ?_
  · have hb := below_alloc y0 (.cells (cb [74]).toArray 5)
    have ry : Reads (y0.alloc (.cells (cb [74]).toArray 5)) (.slice (some ⟨y0.heap.size, 0, none⟩) 1 1) [74] := blk_reads_y (Blk.new _ _ _)
    replace rd := rd.below hb
    replace rb := rb.below hb
    replace hS := Over.more hS hb
    refine wpOp_vl 0 (.slice (some ⟨y0.heap.size, 0, none⟩) 1 1) (y0.alloc (.cells (cb [74]).toArray 5)) (by rfl) (by rfl) (build_yJ 74 _ _ _ rfl rfl _) ⟨hS, ?_⟩
    simp only [Act.put, List.getElem_toArray, List.getElem_cons_zero, List.setIfInBounds_toArray, List.set_cons_zero, List.set_cons_succ]
    generalize y0.alloc (.cells (cb [74]).toArray 5) = z10 at *
    obtain ⟨gy, HGY⟩ : ∃ z, Hid (z = y0.heap.size) := ⟨_, rfl⟩
    rw [← HGY.out] at ry ⊢
    clear hb HGY
    refine wpAnyH_enter 2 (by kernel_rfl) rfl (by rfl) (f := 110) (args := #[.int .u64 (gen : Int)]) (by simp [go_sem]) (rnumber_any gen HG.out _) ?_
    rintro e z11 ⟨v1, rfl, r1, hb⟩
    obtain ⟨a0, n0, c0, rfl⟩ := r1.form
    replace rd := rd.below hb
    replace rb := rb.below hb
    replace ry := ry.below hb
    replace hS := Over.more hS hb
    refine ⟨_, rfl, hS, ?_⟩
    clear hb
    simp only [Act.put, List.getElem_toArray, List.getElem_cons_succ, List.getElem_cons_zero, List.setIfInBounds_toArray, List.set_cons_zero, List.set_cons_succ]
    refine wpAnyH_enter 4 (by kernel_rfl) rfl (by rfl) (f := 110) (args := #[.int .u64 (seq : Int)]) (by simp [go_sem]) (rnumber_any seq HQ.out _) ?_
    rintro e z12 ⟨v2, rfl, r2, hb⟩
    obtain ⟨a1, n1, c1, rfl⟩ := r2.form
    replace rd := rd.below hb
    replace rb := rb.below hb
    replace ry := ry.below hb
    replace r1 := r1.below hb
    replace hS := Over.more hS hb
    refine ⟨_, rfl, hS, ?_⟩
    clear hb
    simp only [Act.put, List.getElem_toArray, List.getElem_cons_succ, List.getElem_cons_zero, List.setIfInBounds_toArray, List.set_cons_zero, List.set_cons_succ]
    refine wpAnyH_enter 9 (by kernel_rfl) rfl (by rfl) (f := 110) (args := #[.int .u64 (nb : Int)]) (by simp [go_sem]) (rnumber_any nb HNB.out _) ?_
    rintro e z13 ⟨v3, rfl, r3, hb⟩
    obtain ⟨a2, n2, c2, rfl⟩ := r3.form
    replace rd := rd.below hb
    replace rb := rb.below hb
    replace ry := ry.below hb
    replace r1 := r1.below hb
    replace r2 := r2.below hb
    replace hS := Over.more hS hb
    refine ⟨_, rfl, hS, ?_⟩
    clear hb
    simp only [Act.put, List.getElem_toArray, List.getElem_cons_succ, List.getElem_cons_zero, List.setIfInBounds_toArray, List.set_cons_zero, List.set_cons_succ]
    have rl := readsL_blk (k := 6) (Blk.new z13 [.slice (some ⟨gy, 0, none⟩) 1 1, .slice a0 n0 c0, .slice a1 n1 c1, .slice (some ⟨g7, 0, none⟩) 32 32, .slice a2 n2 c2, .slice ab nb cbb] 23) (ls := [[74], num8 gen, num8 seq, dg, num8 nb, b]) rfl rfl (all6 (ry.below (below_alloc _ _)) (r1.below (below_alloc _ _)) (r2.below (below_alloc _ _)) (rd.below (below_alloc _ _)) (r3.below (below_alloc _ _)) (rb.below (below_alloc _ _)))
    have hb := below_alloc z13 (.cells [Value.slice (some ⟨gy, 0, none⟩) 1 1, .slice a0 n0 c0, .slice a1 n1 c1, .slice (some ⟨g7, 0, none⟩) 32 32, .slice a2 n2 c2, .slice ab nb cbb].toArray 23)
    replace hS := Over.more hS hb
    refine wpAnyH_step 11 _ _ (by kernel_rfl) rfl (by rfl) (build_tx6 _ _ (.tmp 13) (.tmp 15) (.tmp 17) (.tmp 18) (.tmp 22) (.tmp 23) _ _ _ _ _ _ _ _ _ _ _ _ _ _ _ _ _ _ rfl rfl rfl rfl rfl rfl rfl _) hS ?_
    simp only [Act.put, List.getElem_toArray, List.getElem_cons_succ, List.getElem_cons_zero, List.setIfInBounds_toArray, List.set_cons_zero, List.set_cons_succ]
    generalize z13.alloc (.cells [Value.slice (some ⟨gy, 0, none⟩) 1 1, .slice a0 n0 c0, .slice a1 n1 c1, .slice (some ⟨g7, 0, none⟩) 32 32, .slice a2 n2 c2, .slice ab nb cbb].toArray 23) = x1 at *
    obtain ⟨gl, HGL⟩ : ∃ z, Hid (z = z13.heap.size) := ⟨_, rfl⟩
    rw [← HGL.out] at rl ⊢
    refine wpAnyH_enter 12 (by kernel_rfl) rfl (by rfl) (f := 74) (args := #[.slice (some ⟨gl, 0, none⟩) 6 6]) (by simp [go_sem]) (rjoin_any _ _ _ rl HFL.out (by simp)) ?_
    rintro e x2 ⟨v4, rfl, r4, hb2⟩
    obtain ⟨b4, o4, n4, c4, rfl⟩ := r4.some HFP.out
    replace hS := Over.more hS hb2
    refine ⟨_, rfl, hS, ?_⟩
    clear hb hb2
    simp only [Act.put, List.getElem_toArray, List.getElem_cons_succ, List.getElem_cons_zero, List.setIfInBounds_toArray, List.set_cons_zero, List.set_cons_succ]
    refine wpAnyH_enter 13 (by kernel_rfl) rfl (by rfl) (f := 109) (args := #[.slice (some ⟨b4, o4, none⟩) n4 c4]) (by simp [go_sem]) (nPad_any _ _ _ _ _ _ HFP.out HFQ.out r4) ?_
    rintro e x3 ⟨v5, rfl, r5, hb2⟩
    obtain ⟨a5, n5, c5, rfl⟩ := r5.form
    replace hS := Over.more hS hb2
    refine ⟨_, rfl, hS, ?_⟩
    clear hb2
    simp only [Act.put, List.getElem_toArray, List.getElem_cons_succ, List.getElem_cons_zero, List.setIfInBounds_toArray, List.set_cons_zero, List.set_cons_succ]
    refine wpAnyH_take (i := 14) (v := .slice a5 n5 c5) rfl (by kernel_rfl) (by kernel_rfl) (by kernel_rfl) (fun _ _ _ h => h) (Or.inl ⟨by rfl, fun wx hx => by simp [go_sem]⟩) hS ?_
    simp only [Act.put, List.getElem_toArray, List.getElem_cons_succ, List.getElem_cons_zero, List.setIfInBounds_toArray, List.set_cons_zero, List.set_cons_succ]
    refine wpAnyH_done (by kernel_rfl) ?_ _
    go_wp2
    go_ret
    exact ⟨_, rfl, by rw [← HPE.out]; exact r5, HBW.out.trans (Below.mono (Over.out hS) HBW.out.size)⟩
  · refine wpOp_en 2 (by rfl) (by rfl) (f := 110) (args := #[.int .u64 (gen : Int)]) (by simp [go_sem]) (rnumber_any gen HG.out _) ?_
    rintro e z1 ⟨v1, rfl, r1, hb⟩
    obtain ⟨a0, n0, c0, rfl⟩ := r1.form
    replace rd := rd.below hb
    replace rb := rb.below hb
    replace hS := Over.more hS hb
    refine ⟨_, rfl, hS, ?_⟩
    clear hb
    simp only [Act.put, List.getElem_toArray, List.getElem_cons_succ, List.getElem_cons_zero, List.setIfInBounds_toArray, List.set_cons_zero, List.set_cons_succ]
    refine wpAnyH_pair 0 4 (by kernel_rfl) ?_ ?_
    · have hb := below_alloc z1 (.cells (cb [74]).toArray 5)
      have ry : Reads (z1.alloc (.cells (cb [74]).toArray 5)) (.slice (some ⟨z1.heap.size, 0, none⟩) 1 1) [74] := blk_reads_y (Blk.new _ _ _)
      replace rd := rd.below hb
      replace rb := rb.below hb
      replace r1 := r1.below hb
      replace hS := Over.more hS hb
      refine wpOp_vl 0 (.slice (some ⟨z1.heap.size, 0, none⟩) 1 1) (z1.alloc (.cells (cb [74]).toArray 5)) (by rfl) (by rfl) (build_yJ 74 _ _ _ rfl rfl _) ⟨hS, ?_⟩
      simp only [Act.put, List.getElem_toArray, List.getElem_cons_zero, List.setIfInBounds_toArray, List.set_cons_zero, List.set_cons_succ]
      generalize z1.alloc (.cells (cb [74]).toArray 5) = z7 at *
      obtain ⟨gy, HGY⟩ : ∃ z, Hid (z = z1.heap.size) := ⟨_, rfl⟩
      rw [← HGY.out] at ry ⊢
      clear hb HGY
      refine wpAnyH_enter 4 (by kernel_rfl) rfl (by rfl) (f := 110) (args := #[.int .u64 (seq : Int)]) (by simp [go_sem]) (rnumber_any seq HQ.out _) ?_
      rintro e z8 ⟨v2, rfl, r2, hb⟩
      obtain ⟨a1, n1, c1, rfl⟩ := r2.form
      replace rd := rd.below hb
      replace rb := rb.below hb
      replace r1 := r1.below hb
      replace ry := ry.below hb
      replace hS := Over.more hS hb
      refine ⟨_, rfl, hS, ?_⟩
      clear hb
      simp only [Act.put, List.getElem_toArray, List.getElem_cons_succ, List.getElem_cons_zero, List.setIfInBounds_toArray, List.set_cons_zero, List.set_cons_succ]
      refine wpAnyH_enter 9 (by kernel_rfl) rfl (by rfl) (f := 110) (args := #[.int .u64 (nb : Int)]) (by simp [go_sem]) (rnumber_any nb HNB.out _) ?_
      rintro e z9 ⟨v3, rfl, r3, hb⟩
      obtain ⟨a2, n2, c2, rfl⟩ := r3.form
      replace rd := rd.below hb
      replace rb := rb.below hb
      replace r1 := r1.below hb
      replace ry := ry.below hb
      replace r2 := r2.below hb
      replace hS := Over.more hS hb
      refine ⟨_, rfl, hS, ?_⟩
      clear hb
      simp only [Act.put, List.getElem_toArray, List.getElem_cons_succ, List.getElem_cons_zero, List.setIfInBounds_toArray, List.set_cons_zero, List.set_cons_succ]
      have rl := readsL_blk (k := 6) (Blk.new z9 [.slice (some ⟨gy, 0, none⟩) 1 1, .slice a0 n0 c0, .slice a1 n1 c1, .slice (some ⟨g7, 0, none⟩) 32 32, .slice a2 n2 c2, .slice ab nb cbb] 23) (ls := [[74], num8 gen, num8 seq, dg, num8 nb, b]) rfl rfl (all6 (ry.below (below_alloc _ _)) (r1.below (below_alloc _ _)) (r2.below (below_alloc _ _)) (rd.below (below_alloc _ _)) (r3.below (below_alloc _ _)) (rb.below (below_alloc _ _)))
      have hb := below_alloc z9 (.cells [Value.slice (some ⟨gy, 0, none⟩) 1 1, .slice a0 n0 c0, .slice a1 n1 c1, .slice (some ⟨g7, 0, none⟩) 32 32, .slice a2 n2 c2, .slice ab nb cbb].toArray 23)
      replace hS := Over.more hS hb
      refine wpAnyH_step 11 _ _ (by kernel_rfl) rfl (by rfl) (build_tx6 _ _ (.tmp 13) (.tmp 15) (.tmp 17) (.tmp 18) (.tmp 22) (.tmp 23) _ _ _ _ _ _ _ _ _ _ _ _ _ _ _ _ _ _ rfl rfl rfl rfl rfl rfl rfl _) hS ?_
      simp only [Act.put, List.getElem_toArray, List.getElem_cons_succ, List.getElem_cons_zero, List.setIfInBounds_toArray, List.set_cons_zero, List.set_cons_succ]
      generalize z9.alloc (.cells [Value.slice (some ⟨gy, 0, none⟩) 1 1, .slice a0 n0 c0, .slice a1 n1 c1, .slice (some ⟨g7, 0, none⟩) 32 32, .slice a2 n2 c2, .slice ab nb cbb].toArray 23) = x1 at *
      obtain ⟨gl, HGL⟩ : ∃ z, Hid (z = z9.heap.size) := ⟨_, rfl⟩
      rw [← HGL.out] at rl ⊢
      refine wpAnyH_enter 12 (by kernel_rfl) rfl (by rfl) (f := 74) (args := #[.slice (some ⟨gl, 0, none⟩) 6 6]) (by simp [go_sem]) (rjoin_any _ _ _ rl HFL.out (by simp)) ?_
      rintro e x2 ⟨v4, rfl, r4, hb2⟩
      obtain ⟨b4, o4, n4, c4, rfl⟩ := r4.some HFP.out
      replace hS := Over.more hS hb2
      refine ⟨_, rfl, hS, ?_⟩
      clear hb hb2
      simp only [Act.put, List.getElem_toArray, List.getElem_cons_succ, List.getElem_cons_zero, List.setIfInBounds_toArray, List.set_cons_zero, List.set_cons_succ]
      refine wpAnyH_enter 13 (by kernel_rfl) rfl (by rfl) (f := 109) (args := #[.slice (some ⟨b4, o4, none⟩) n4 c4]) (by simp [go_sem]) (nPad_any _ _ _ _ _ _ HFP.out HFQ.out r4) ?_
      rintro e x3 ⟨v5, rfl, r5, hb2⟩
      obtain ⟨a5, n5, c5, rfl⟩ := r5.form
      replace hS := Over.more hS hb2
      refine ⟨_, rfl, hS, ?_⟩
      clear hb2
      simp only [Act.put, List.getElem_toArray, List.getElem_cons_succ, List.getElem_cons_zero, List.setIfInBounds_toArray, List.set_cons_zero, List.set_cons_succ]
      refine wpAnyH_take (i := 14) (v := .slice a5 n5 c5) rfl (by kernel_rfl) (by kernel_rfl) (by kernel_rfl) (fun _ _ _ h => h) (Or.inl ⟨by rfl, fun wx hx => by simp [go_sem]⟩) hS ?_
      simp only [Act.put, List.getElem_toArray, List.getElem_cons_succ, List.getElem_cons_zero, List.setIfInBounds_toArray, List.set_cons_zero, List.set_cons_succ]
      refine wpAnyH_done (by kernel_rfl) ?_ _
      go_wp2
      go_ret
      exact ⟨_, rfl, by rw [← HPE.out]; exact r5, HBW.out.trans (Below.mono (Over.out hS) HBW.out.size)⟩
    · refine wpOp_en 4 (by rfl) (by rfl) (f := 110) (args := #[.int .u64 (seq : Int)]) (by simp [go_sem]) (rnumber_any seq HQ.out _) ?_
      rintro e z2 ⟨v2, rfl, r2, hb⟩
      obtain ⟨a1, n1, c1, rfl⟩ := r2.form
      replace rd := rd.below hb
      replace rb := rb.below hb
      replace r1 := r1.below hb
      replace hS := Over.more hS hb
      refine ⟨_, rfl, hS, ?_⟩
      clear hb
      simp only [Act.put, List.getElem_toArray, List.getElem_cons_succ, List.getElem_cons_zero, List.setIfInBounds_toArray, List.set_cons_zero, List.set_cons_succ]
      refine wpAnyH_pair 0 9 (by kernel_rfl) ?_ ?_
      · have hb := below_alloc z2 (.cells (cb [74]).toArray 5)
        have ry : Reads (z2.alloc (.cells (cb [74]).toArray 5)) (.slice (some ⟨z2.heap.size, 0, none⟩) 1 1) [74] := blk_reads_y (Blk.new _ _ _)
        replace rd := rd.below hb
        replace rb := rb.below hb
        replace r1 := r1.below hb
        replace r2 := r2.below hb
        replace hS := Over.more hS hb
        refine wpOp_vl 0 (.slice (some ⟨z2.heap.size, 0, none⟩) 1 1) (z2.alloc (.cells (cb [74]).toArray 5)) (by rfl) (by rfl) (build_yJ 74 _ _ _ rfl rfl _) ⟨hS, ?_⟩
        simp only [Act.put, List.getElem_toArray, List.getElem_cons_zero, List.setIfInBounds_toArray, List.set_cons_zero, List.set_cons_succ]
        generalize z2.alloc (.cells (cb [74]).toArray 5) = z5 at *
        obtain ⟨gy, HGY⟩ : ∃ z, Hid (z = z2.heap.size) := ⟨_, rfl⟩
        rw [← HGY.out] at ry ⊢
        clear hb HGY
        refine wpAnyH_enter 9 (by kernel_rfl) rfl (by rfl) (f := 110) (args := #[.int .u64 (nb : Int)]) (by simp [go_sem]) (rnumber_any nb HNB.out _) ?_
        rintro e z6 ⟨v3, rfl, r3, hb⟩
        obtain ⟨a2, n2, c2, rfl⟩ := r3.form
        replace rd := rd.below hb
        replace rb := rb.below hb
        replace r1 := r1.below hb
        replace r2 := r2.below hb
        replace ry := ry.below hb
        replace hS := Over.more hS hb
        refine ⟨_, rfl, hS, ?_⟩
        clear hb
        simp only [Act.put, List.getElem_toArray, List.getElem_cons_succ, List.getElem_cons_zero, List.setIfInBounds_toArray, List.set_cons_zero, List.set_cons_succ]
        have rl := readsL_blk (k := 6) (Blk.new z6 [.slice (some ⟨gy, 0, none⟩) 1 1, .slice a0 n0 c0, .slice a1 n1 c1, .slice (some ⟨g7, 0, none⟩) 32 32, .slice a2 n2 c2, .slice ab nb cbb] 23) (ls := [[74], num8 gen, num8 seq, dg, num8 nb, b]) rfl rfl (all6 (ry.below (below_alloc _ _)) (r1.below (below_alloc _ _)) (r2.below (below_alloc _ _)) (rd.below (below_alloc _ _)) (r3.below (below_alloc _ _)) (rb.below (below_alloc _ _)))
        have hb := below_alloc z6 (.cells [Value.slice (some ⟨gy, 0, none⟩) 1 1, .slice a0 n0 c0, .slice a1 n1 c1, .slice (some ⟨g7, 0, none⟩) 32 32, .slice a2 n2 c2, .slice ab nb cbb].toArray 23)
        replace hS := Over.more hS hb
        refine wpAnyH_step 11 _ _ (by kernel_rfl) rfl (by rfl) (build_tx6 _ _ (.tmp 13) (.tmp 15) (.tmp 17) (.tmp 18) (.tmp 22) (.tmp 23) _ _ _ _ _ _ _ _ _ _ _ _ _ _ _ _ _ _ rfl rfl rfl rfl rfl rfl rfl _) hS ?_
        simp only [Act.put, List.getElem_toArray, List.getElem_cons_succ, List.getElem_cons_zero, List.setIfInBounds_toArray, List.set_cons_zero, List.set_cons_succ]
        generalize z6.alloc (.cells [Value.slice (some ⟨gy, 0, none⟩) 1 1, .slice a0 n0 c0, .slice a1 n1 c1, .slice (some ⟨g7, 0, none⟩) 32 32, .slice a2 n2 c2, .slice ab nb cbb].toArray 23) = x1 at *
        obtain ⟨gl, HGL⟩ : ∃ z, Hid (z = z6.heap.size) := ⟨_, rfl⟩
        rw [← HGL.out] at rl ⊢
        refine wpAnyH_enter 12 (by kernel_rfl) rfl (by rfl) (f := 74) (args := #[.slice (some ⟨gl, 0, none⟩) 6 6]) (by simp [go_sem]) (rjoin_any _ _ _ rl HFL.out (by simp)) ?_
        rintro e x2 ⟨v4, rfl, r4, hb2⟩
        obtain ⟨b4, o4, n4, c4, rfl⟩ := r4.some HFP.out
        replace hS := Over.more hS hb2
        refine ⟨_, rfl, hS, ?_⟩
        clear hb hb2
        simp only [Act.put, List.getElem_toArray, List.getElem_cons_succ, List.getElem_cons_zero, List.setIfInBounds_toArray, List.set_cons_zero, List.set_cons_succ]
        refine wpAnyH_enter 13 (by kernel_rfl) rfl (by rfl) (f := 109) (args := #[.slice (some ⟨b4, o4, none⟩) n4 c4]) (by simp [go_sem]) (nPad_any _ _ _ _ _ _ HFP.out HFQ.out r4) ?_
        rintro e x3 ⟨v5, rfl, r5, hb2⟩
        obtain ⟨a5, n5, c5, rfl⟩ := r5.form
        replace hS := Over.more hS hb2
        refine ⟨_, rfl, hS, ?_⟩
        clear hb2
        simp only [Act.put, List.getElem_toArray, List.getElem_cons_succ, List.getElem_cons_zero, List.setIfInBounds_toArray, List.set_cons_zero, List.set_cons_succ]
        refine wpAnyH_take (i := 14) (v := .slice a5 n5 c5) rfl (by kernel_rfl) (by kernel_rfl) (by kernel_rfl) (fun _ _ _ h => h) (Or.inl ⟨by rfl, fun wx hx => by simp [go_sem]⟩) hS ?_
        simp only [Act.put, List.getElem_toArray, List.getElem_cons_succ, List.getElem_cons_zero, List.setIfInBounds_toArray, List.set_cons_zero, List.set_cons_succ]
        refine wpAnyH_done (by kernel_rfl) ?_ _
        go_wp2
        go_ret
        exact ⟨_, rfl, by rw [← HPE.out]; exact r5, HBW.out.trans (Below.mono (Over.out hS) HBW.out.size)⟩
      · refine wpOp_en 9 (by rfl) (by rfl) (f := 110) (args := #[.int .u64 (nb : Int)]) (by simp [go_sem]) (rnumber_any nb HNB.out _) ?_
        rintro e z3 ⟨v3, rfl, r3, hb⟩
        obtain ⟨a2, n2, c2, rfl⟩ := r3.form
        replace rd := rd.below hb
        replace rb := rb.below hb
        replace r1 := r1.below hb
        replace r2 := r2.below hb
        replace hS := Over.more hS hb
        refine ⟨_, rfl, hS, ?_⟩
        clear hb
        simp only [Act.put, List.getElem_toArray, List.getElem_cons_succ, List.getElem_cons_zero, List.setIfInBounds_toArray, List.set_cons_zero, List.set_cons_succ]
        have hb := below_alloc z3 (.cells (cb [74]).toArray 5)
        have ry : Reads (z3.alloc (.cells (cb [74]).toArray 5)) (.slice (some ⟨z3.heap.size, 0, none⟩) 1 1) [74] := blk_reads_y (Blk.new _ _ _)
        replace rd := rd.below hb
        replace rb := rb.below hb
        replace r1 := r1.below hb
        replace r2 := r2.below hb
        replace r3 := r3.below hb
        replace hS := Over.more hS hb
        refine wpAnyH_step 0 (.slice (some ⟨z3.heap.size, 0, none⟩) 1 1) (z3.alloc (.cells (cb [74]).toArray 5)) (by kernel_rfl) rfl (by rfl) (build_yJ 74 _ _ _ rfl rfl _) hS ?_
        simp only [Act.put, List.getElem_toArray, List.getElem_cons_zero, List.setIfInBounds_toArray, List.set_cons_zero, List.set_cons_succ]
        generalize z3.alloc (.cells (cb [74]).toArray 5) = z4 at *
        obtain ⟨gy, HGY⟩ : ∃ z, Hid (z = z3.heap.size) := ⟨_, rfl⟩
        rw [← HGY.out] at ry ⊢
        clear hb HGY
        have rl := readsL_blk (k := 6) (Blk.new z4 [.slice (some ⟨gy, 0, none⟩) 1 1, .slice a0 n0 c0, .slice a1 n1 c1, .slice (some ⟨g7, 0, none⟩) 32 32, .slice a2 n2 c2, .slice ab nb cbb] 23) (ls := [[74], num8 gen, num8 seq, dg, num8 nb, b]) rfl rfl (all6 (ry.below (below_alloc _ _)) (r1.below (below_alloc _ _)) (r2.below (below_alloc _ _)) (rd.below (below_alloc _ _)) (r3.below (below_alloc _ _)) (rb.below (below_alloc _ _)))
        have hb := below_alloc z4 (.cells [Value.slice (some ⟨gy, 0, none⟩) 1 1, .slice a0 n0 c0, .slice a1 n1 c1, .slice (some ⟨g7, 0, none⟩) 32 32, .slice a2 n2 c2, .slice ab nb cbb].toArray 23)
        replace hS := Over.more hS hb
        refine wpAnyH_step 11 _ _ (by kernel_rfl) rfl (by rfl) (build_tx6 _ _ (.tmp 13) (.tmp 15) (.tmp 17) (.tmp 18) (.tmp 22) (.tmp 23) _ _ _ _ _ _ _ _ _ _ _ _ _ _ _ _ _ _ rfl rfl rfl rfl rfl rfl rfl _) hS ?_
        simp only [Act.put, List.getElem_toArray, List.getElem_cons_succ, List.getElem_cons_zero, List.setIfInBounds_toArray, List.set_cons_zero, List.set_cons_succ]
        generalize z4.alloc (.cells [Value.slice (some ⟨gy, 0, none⟩) 1 1, .slice a0 n0 c0, .slice a1 n1 c1, .slice (some ⟨g7, 0, none⟩) 32 32, .slice a2 n2 c2, .slice ab nb cbb].toArray 23) = x1 at *
        obtain ⟨gl, HGL⟩ : ∃ z, Hid (z = z4.heap.size) := ⟨_, rfl⟩
        rw [← HGL.out] at rl ⊢
        refine wpAnyH_enter 12 (by kernel_rfl) rfl (by rfl) (f := 74) (args := #[.slice (some ⟨gl, 0, none⟩) 6 6]) (by simp [go_sem]) (rjoin_any _ _ _ rl HFL.out (by simp)) ?_
        rintro e x2 ⟨v4, rfl, r4, hb2⟩
        obtain ⟨b4, o4, n4, c4, rfl⟩ := r4.some HFP.out
        replace hS := Over.more hS hb2
        refine ⟨_, rfl, hS, ?_⟩
        clear hb hb2
        simp only [Act.put, List.getElem_toArray, List.getElem_cons_succ, List.getElem_cons_zero, List.setIfInBounds_toArray, List.set_cons_zero, List.set_cons_succ]
        refine wpAnyH_enter 13 (by kernel_rfl) rfl (by rfl) (f := 109) (args := #[.slice (some ⟨b4, o4, none⟩) n4 c4]) (by simp [go_sem]) (nPad_any _ _ _ _ _ _ HFP.out HFQ.out r4) ?_
        rintro e x3 ⟨v5, rfl, r5, hb2⟩
        obtain ⟨a5, n5, c5, rfl⟩ := r5.form
        replace hS := Over.more hS hb2
        refine ⟨_, rfl, hS, ?_⟩
        clear hb2
        simp only [Act.put, List.getElem_toArray, List.getElem_cons_succ, List.getElem_cons_zero, List.setIfInBounds_toArray, List.set_cons_zero, List.set_cons_succ]
        refine wpAnyH_take (i := 14) (v := .slice a5 n5 c5) rfl (by kernel_rfl) (by kernel_rfl) (by kernel_rfl) (fun _ _ _ h => h) (Or.inl ⟨by rfl, fun wx hx => by simp [go_sem]⟩) hS ?_
        simp only [Act.put, List.getElem_toArray, List.getElem_cons_succ, List.getElem_cons_zero, List.setIfInBounds_toArray, List.set_cons_zero, List.set_cons_succ]
        refine wpAnyH_done (by kernel_rfl) ?_ _
        go_wp2
        go_ret
        exact ⟨_, rfl, by rw [← HPE.out]; exact r5, HBW.out.trans (Below.mono (Over.out hS) HBW.out.size)⟩
end Go.Proofs.YtopmeedmgjdcgaaGreatDoor
/- The walks of blazonref14.Gen and Pick (layer 14). -/
namespace Go.Proofs.YtopmeedmgjdcgaaGreatDoor
open Go.RowKit
set_option maxRecDepth 100000
theorem cutTo (b off n c m : Nat) (hm : m ≤ n) (hc : n ≤ c) (f : Operand → Value) (o : Oper) (x y : Operand) (ho : o.op = .slice 23 x none (some y) none) (hx : f x = .slice (some ⟨b, off, none⟩) n c) (hy : f y = .int .i64 (m : Int)) (w : World) :
    (execOp f o).run Tryz.prog w = .ok (.value (.slice (some ⟨b, off, none⟩) m c)) w := by
  have hs : (sizeOf 5).run Tryz.prog w = .ok 1 w := by kernel_rfl
  unfold execOp
  rw [ho]
  simp only [hx, hy, Option.map_some, Option.map_none, Sem.run_bind]
  rw [run_sliceAt_slice w 23 _ _ _ _ (by kernel_rfl), run_slice_h w 23 _ _ _ (by kernel_rfl) .i64 (m : Int) (by omega) (by omega)]
  rw [show Tryz.prog.elem 23 = 5 from by kernel_rfl, hs]
  simp [sliced, Addr.add_mid]
set_option maxRecDepth 100000 in
set_option maxHeartbeats 2000000 in
theorem nGen_any (bb off n c : Nat) (half : Bs) (hl : 64 ≤ half.length) (w : World) (hr : Reads w (.slice (some ⟨bb, off, none⟩) n c) half) : Calls Tryz.prog 82 #[.slice (some ⟨bb, off, none⟩) n c] w fun e w' => e = .returned (.int .u64 (genH half : Int)) ∧ Below w.heap.size w w' := by
  obtain ⟨gg, HGG⟩ : ∃ g, Hid (g = rdNum ((half.drop 1).take 8)) := ⟨_, rfl⟩
  obtain ⟨gr, HGR⟩ : ∃ g, Hid (g = genH half) := ⟨_, rfl⟩
  have HGE : Hid (gr = if gg = 0 ∨ half.take 64 ≠ headB gg then 0 else gg) := by show _ = _; rw [HGR.out, genH, ← HGG.out]
  have HL8 : Hid (((half.drop 1).take 8).length = 8) := by show _ = _; rw [List.length_take, List.length_drop]; omega
  have HG9 : Hid (gg < 18446744073709551616) := by show _ < _; rw [HGG.out]; exact rdNum_8 HL8.out
  have hnh : n = half.length := by obtain ⟨_, cp, hv, _⟩ := hr; simp only [Value.slice.injEq] at hv; exact hv.2.1
  have HNC : Hid (n ≤ c) := by obtain ⟨_, cp, hv, hc, _⟩ := hr; simp only [Value.slice.injEq] at hv; show _ ≤ _; rw [hnh, hv.2.2]; exact hc
  have HR8 : Hid (Reads w (.slice (some ⟨bb, off + 1, none⟩) 8 (c - 1)) ((half.drop 1).take 8)) := hr.cutJ 1 8 (c - 1) (by omega) (by have := HNC.out; omega)
  have HN1 : Hid (1 + 8 ≤ n ∧ 64 ≤ n) := ⟨by omega, by omega⟩
  have HR64 : Hid (Reads w (.slice (some ⟨bb, off, none⟩) 64 c) (half.take 64)) := by
    have h9 := hr.cutJ 0 64 c (by omega) (by have := HNC.out; omega)
    rw [List.drop_zero] at h9
    exact h9
  have HNM : Hid (Calls Tryz.prog 83 #[.slice (some ⟨bb, off + 1, none⟩) 8 (c - 1)] w fun e w' => e = .returned (.int .u64 (gg : Int)) ∧ w' = w) := by rw [HGG.out]; exact nNumber_any bb (off + 1) (c - 1) _ HL8.out w HR8.out
  rw [← HGR.out]
  clear hr hl hnh
  go_enter Tryz.func82, Tryz.ntmps82
  have tk0 : Hid True := trivial
  have tk1 : Hid True := trivial
  go_wp2_with (first
      | (clear tk0; with_reducible refine wpSeq_cut (.tmp 4) (.const (.int .i64 1)) (.const (.int .i64 9)) bb off n c 1 8 1 9 rfl rfl (by decide) HN1.out.1 HNC.out ?_ ?_ ?_ ?_ ?_ ?_
         · rfl
         · rfl
         · rfl
         · rfl
         · rfl)
      | (clear tk1; go_at_call 83; refine (HNM.out).mono ?_; rintro e0 y0 ⟨rfl, rfl⟩)
      | fail)
  refine wp_region_held_drew (S := Over (World.drew y0)) (by kernel_rfl) (Over.refl _) ?_
  intro hS
  have r64 : Reads (World.drew y0) (.slice (some ⟨bb, off, none⟩) 64 c) (half.take 64) := HR64.out
  have HBW : Hid (Below y0.heap.size y0 (World.drew y0)) := (Below.refl _ _).drew
  have HSZ : Hid ((World.drew y0).heap.size = y0.heap.size) := rfl
  clear HR64 HR8 HNM
  obtain ⟨hfx, HFX⟩ : ∃ x, Hid (x = half.take 64) := ⟨_, rfl⟩
  rw [← HFX.out] at r64 HGE
  change wpAnyH _ _ _ _ _ _ _ _ (World.drew y0)
  generalize World.drew y0 = y1 at *
  refine wpAnyH_take (i := 0) (v := .int .u64 (gg : Int)) rfl (by kernel_rfl) (by kernel_rfl) (by kernel_rfl) (fun _ _ _ h => h) (Or.inl ⟨by rfl, fun wx hx => by simp [go_sem]⟩) hS ?_
  simp only [Act.put, List.getElem_toArray, List.getElem_cons_zero, List.setIfInBounds_toArray, List.set_cons_zero, List.set_cons_succ]
  by_cases h0 : gg = 0
  · have hg0 : gr = 0 := by rw [HGE.out, if_pos (Or.inl h0)]
    have q0 : ((gg : Int) == 0) = true := by rw [h0]; rfl
    subst hg0
    refine wpAnyH_take (i := 1) (v := .bool true) rfl (by kernel_rfl) (by kernel_rfl) (by kernel_rfl) (fun _ _ _ h => h) (Or.inl ⟨by rfl, fun wx hx => by simp [go_sem, q0]⟩) hS ?_
    simp only [Act.put, List.getElem_toArray, List.getElem_cons_succ, List.getElem_cons_zero, List.setIfInBounds_toArray, List.set_cons_zero, List.set_cons_succ]
    refine wpAnyH_take (i := 2) (v := .bool true) rfl (by kernel_rfl) (by kernel_rfl) (by kernel_rfl) (fun _ _ _ h => h) (Or.inl ⟨by rfl, fun wx hx => by simp [go_sem]⟩) hS ?_
    simp only [Act.put, List.getElem_toArray, List.getElem_cons_succ, List.getElem_cons_zero, List.setIfInBounds_toArray, List.set_cons_zero, List.set_cons_succ]
    refine wpAnyH_take (i := 3) (v := undef) rfl (by kernel_rfl) (by kernel_rfl) (by kernel_rfl) (fun _ _ _ h => h) (Or.inr ⟨by rfl, rfl⟩) hS ?_
    simp only [Act.put, List.getElem_toArray, List.getElem_cons_succ, List.getElem_cons_zero, List.setIfInBounds_toArray, List.set_cons_zero, List.set_cons_succ]
    refine wpAnyH_take (i := 4) (v := undef) rfl (by kernel_rfl) (by kernel_rfl) (by kernel_rfl) (fun _ _ _ h => h) (Or.inr ⟨by rfl, rfl⟩) hS ?_
    simp only [Act.put, List.getElem_toArray, List.getElem_cons_succ, List.getElem_cons_zero, List.setIfInBounds_toArray, List.set_cons_zero, List.set_cons_succ]
    refine wpAnyH_take (i := 5) (v := undef) rfl (by kernel_rfl) (by kernel_rfl) (by kernel_rfl) (fun _ _ _ h => h) (Or.inr ⟨by rfl, rfl⟩) hS ?_
    simp only [Act.put, List.getElem_toArray, List.getElem_cons_succ, List.getElem_cons_zero, List.setIfInBounds_toArray, List.set_cons_zero, List.set_cons_succ]
    refine wpAnyH_take (i := 6) (v := undef) rfl (by kernel_rfl) (by kernel_rfl) (by kernel_rfl) (fun _ _ _ h => h) (Or.inr ⟨by rfl, rfl⟩) hS ?_
    simp only [Act.put, List.getElem_toArray, List.getElem_cons_succ, List.getElem_cons_zero, List.setIfInBounds_toArray, List.set_cons_zero, List.set_cons_succ]
    refine wpAnyH_take (i := 7) (v := undef) rfl (by kernel_rfl) (by kernel_rfl) (by kernel_rfl) (fun _ _ _ h => h) (Or.inr ⟨by rfl, rfl⟩) hS ?_
    simp only [Act.put, List.getElem_toArray, List.getElem_cons_succ, List.getElem_cons_zero, List.setIfInBounds_toArray, List.set_cons_zero, List.set_cons_succ]
    refine wpAnyH_take (i := 8) (v := undef) rfl (by kernel_rfl) (by kernel_rfl) (by kernel_rfl) (fun _ _ _ h => h) (Or.inr ⟨by rfl, rfl⟩) hS ?_
    simp only [Act.put, List.getElem_toArray, List.getElem_cons_succ, List.getElem_cons_zero, List.setIfInBounds_toArray, List.set_cons_zero, List.set_cons_succ]
    refine wpAnyH_take (i := 9) (v := undef) rfl (by kernel_rfl) (by kernel_rfl) (by kernel_rfl) (fun _ _ _ h => h) (Or.inr ⟨by rfl, rfl⟩) hS ?_
    simp only [Act.put, List.getElem_toArray, List.getElem_cons_succ, List.getElem_cons_zero, List.setIfInBounds_toArray, List.set_cons_zero, List.set_cons_succ]
    refine wpAnyH_take (i := 10) (v := .bool true) rfl (by kernel_rfl) (by kernel_rfl) (by kernel_rfl) (fun _ _ _ h => h) (Or.inl ⟨by rfl, fun wx hx => by simp [go_sem]⟩) hS ?_
    simp only [Act.put, List.getElem_toArray, List.getElem_cons_succ, List.getElem_cons_zero, List.setIfInBounds_toArray, List.set_cons_zero, List.set_cons_succ]
    refine wpAnyH_done (by kernel_rfl) ?_ _
    go_wp2
    go_ret
    exact ⟨rfl, HBW.out⟩
  · have q0 : ((gg : Int) == 0) = false := by rw [beq_eq_false_iff_ne]; omega
    refine wpAnyH_take (i := 1) (v := .bool false) rfl (by kernel_rfl) (by kernel_rfl) (by kernel_rfl) (fun _ _ _ h => h) (Or.inl ⟨by rfl, fun wx hx => by simp [go_sem, q0]⟩) hS ?_
    simp only [Act.put, List.getElem_toArray, List.getElem_cons_succ, List.getElem_cons_zero, List.setIfInBounds_toArray, List.set_cons_zero, List.set_cons_succ]
    refine wpAnyH_take (i := 2) (v := .bool false) rfl (by kernel_rfl) (by kernel_rfl) (by kernel_rfl) (fun _ _ _ h => h) (Or.inl ⟨by rfl, fun wx hx => by simp [go_sem]⟩) hS ?_
    simp only [Act.put, List.getElem_toArray, List.getElem_cons_succ, List.getElem_cons_zero, List.setIfInBounds_toArray, List.set_cons_zero, List.set_cons_succ]
    refine wpAnyH_take (i := 3) (v := .slice (some ⟨bb, off, none⟩) n c) rfl (by kernel_rfl) (by kernel_rfl) (by kernel_rfl) (fun _ _ _ h => h) (Or.inl ⟨by rfl, fun wx hx => by simp [go_sem]⟩) hS ?_
    simp only [Act.put, List.getElem_toArray, List.getElem_cons_succ, List.getElem_cons_zero, List.setIfInBounds_toArray, List.set_cons_zero, List.set_cons_succ]
    refine wpAnyH_take (i := 4) (v := .slice (some ⟨bb, off, none⟩) 64 c) rfl (by kernel_rfl) (by kernel_rfl) (by kernel_rfl) (fun _ _ _ h => h) (Or.inl ⟨by rfl, fun wx hx => by exact cutTo bb off n c 64 HN1.out.2 HNC.out _ _ _ _ rfl rfl rfl _⟩) hS ?_
    simp only [Act.put, List.getElem_toArray, List.getElem_cons_succ, List.getElem_cons_zero, List.setIfInBounds_toArray, List.set_cons_zero, List.set_cons_succ]
    refine wpAnyH_take (i := 5) (v := .string (strB hfx)) rfl (by kernel_rfl) (by kernel_rfl) (by kernel_rfl) (fun _ _ _ h => h) (Or.inl ⟨by rfl, fun wx hx => by (have hc := conv_reads (r64.below (Over.out hx)); simp [go_sem, hc])⟩) hS ?_
    simp only [Act.put, List.getElem_toArray, List.getElem_cons_succ, List.getElem_cons_zero, List.setIfInBounds_toArray, List.set_cons_zero, List.set_cons_succ]
    refine wpAnyH_take (i := 6) (v := .int .u64 (gg : Int)) rfl (by kernel_rfl) (by kernel_rfl) (by kernel_rfl) (fun _ _ _ h => h) (Or.inl ⟨by rfl, fun wx hx => by simp [go_sem]⟩) hS ?_
    simp only [Act.put, List.getElem_toArray, List.getElem_cons_succ, List.getElem_cons_zero, List.setIfInBounds_toArray, List.set_cons_zero, List.set_cons_succ]
    refine wpAnyH_enter 7 (by kernel_rfl) rfl (by rfl) (f := 106) (args := #[.int .u64 (gg : Int)]) (by simp [go_sem]) (nHead_any gg HG9.out _) ?_
    rintro e y2 ⟨v2, rfl, r2, hb⟩
    obtain ⟨a2, n2, c2, rfl⟩ := r2.form
    replace hS := Over.more hS hb
    refine ⟨_, rfl, hS, ?_⟩
    clear hb
    simp only [Act.put, List.getElem_toArray, List.getElem_cons_succ, List.getElem_cons_zero, List.setIfInBounds_toArray, List.set_cons_zero, List.set_cons_succ]
    obtain ⟨hh, HHH⟩ : ∃ x, Hid (x = headB gg) := ⟨_, rfl⟩
    rw [← HHH.out] at r2 HGE
    have hc := conv_reads r2
    have hs := strB_inj hfx hh
    refine wpAnyH_step 8 (.string (strB hh)) y2 (by kernel_rfl) rfl (by rfl) (by simp [go_sem, hc]) hS ?_
    simp only [Act.put, List.getElem_toArray, List.getElem_cons_succ, List.getElem_cons_zero, List.setIfInBounds_toArray, List.set_cons_zero, List.set_cons_succ]
    have HBE : Hid (Below y0.heap.size y0 y2) := HBW.out.trans (Below.mono (Over.out hS) HBW.out.size)
    by_cases he : hfx = hh
    · have hg0 : gr = gg := by rw [HGE.out, if_neg (fun h => h.elim h0 (fun h => h he))]
      rw [decide_eq_true he] at hs
      refine wpAnyH_take (i := 9) (v := .bool false) rfl (by kernel_rfl) (by kernel_rfl) (by kernel_rfl) (fun _ _ _ h => h) (Or.inl ⟨by rfl, fun wx hx => by simp [go_sem, hs]⟩) hS ?_
      simp only [Act.put, List.getElem_toArray, List.getElem_cons_succ, List.getElem_cons_zero, List.setIfInBounds_toArray, List.set_cons_zero, List.set_cons_succ]
      refine wpAnyH_take (i := 10) (v := .bool false) rfl (by kernel_rfl) (by kernel_rfl) (by kernel_rfl) (fun _ _ _ h => h) (Or.inl ⟨by rfl, fun wx hx => by simp [go_sem]⟩) hS ?_
      simp only [Act.put, List.getElem_toArray, List.getElem_cons_succ, List.getElem_cons_zero, List.setIfInBounds_toArray, List.set_cons_zero, List.set_cons_succ]
      refine wpAnyH_done (by kernel_rfl) ?_ _
      subst hg0
      go_wp2
      go_ret
      exact ⟨rfl, HBE.out⟩
    · have hg0 : gr = 0 := by rw [HGE.out, if_pos (Or.inr he)]
      rw [decide_eq_false he] at hs
      refine wpAnyH_take (i := 9) (v := .bool true) rfl (by kernel_rfl) (by kernel_rfl) (by kernel_rfl) (fun _ _ _ h => h) (Or.inl ⟨by rfl, fun wx hx => by simp [go_sem, hs]⟩) hS ?_
      simp only [Act.put, List.getElem_toArray, List.getElem_cons_succ, List.getElem_cons_zero, List.setIfInBounds_toArray, List.set_cons_zero, List.set_cons_succ]
      refine wpAnyH_take (i := 10) (v := .bool true) rfl (by kernel_rfl) (by kernel_rfl) (by kernel_rfl) (fun _ _ _ h => h) (Or.inl ⟨by rfl, fun wx hx => by simp [go_sem]⟩) hS ?_
      simp only [Act.put, List.getElem_toArray, List.getElem_cons_succ, List.getElem_cons_zero, List.setIfInBounds_toArray, List.set_cons_zero, List.set_cons_succ]
      refine wpAnyH_done (by kernel_rfl) ?_ _
      subst hg0
      go_wp2
      go_ret
      exact ⟨rfl, HBE.out⟩
set_option maxRecDepth 100000 in
set_option maxHeartbeats 2000000 in
theorem nPick_any (bb off c : Nat) (b : Bs) (hl : 64 ≤ halfN b) (hl2 : b.length < 4611686018427387904) (w : World) (hr : Reads w (.slice (some ⟨bb, off, none⟩) b.length c) b) : Calls Tryz.prog 56 #[.slice (some ⟨bb, off, none⟩) b.length c] w fun e w' => e = .returned (.tuple #[.int .i64 ((pickB b).1 : Int), .int .u64 ((pickB b).2 : Int)]) ∧ Below w.heap.size w w' := by
  obtain ⟨L, HLL⟩ : ∃ L, Hid (L = b.length) := ⟨_, rfl⟩
  have HH0 : Hid (∀ W, Reads W (.slice (some ⟨bb, off, none⟩) L c) b → Calls Tryz.prog 58 #[.slice (some ⟨bb, off, none⟩) L c, .int .i64 0] W fun e w' => (∃ o c2, e = .returned (.slice (some ⟨bb, o, none⟩) (halfN b) c2) ∧ Reads W (.slice (some ⟨bb, o, none⟩) (halfN b) c2) (halfB b 0)) ∧ w' = W) := fun W h => by rw [HLL.out] at h ⊢; exact nHalf_any bb off c b 0 (by omega) hl hl2 W h
  have HH1 : Hid (∀ W, Reads W (.slice (some ⟨bb, off, none⟩) L c) b → Calls Tryz.prog 58 #[.slice (some ⟨bb, off, none⟩) L c, .int .i64 1] W fun e w' => (∃ o c2, e = .returned (.slice (some ⟨bb, o, none⟩) (halfN b) c2) ∧ Reads W (.slice (some ⟨bb, o, none⟩) (halfN b) c2) (halfB b 1)) ∧ w' = W) := fun W h => by rw [HLL.out] at h ⊢; exact nHalf_any bb off c b 1 (by omega) hl hl2 W h
  rw [← HLL.out] at hr ⊢
  have HB : Hid (Reads w (.slice (some ⟨bb, off, none⟩) L c) b) := hr
  have H640 : Hid (64 ≤ (halfB b 0).length) := by show _ ≤ _; rw [len_half (by omega)]; exact hl
  have H641 : Hid (64 ≤ (halfB b 1).length) := by show _ ≤ _; rw [len_half (by omega)]; exact hl
  obtain ⟨x, HX⟩ : ∃ x, Hid (x = genH (halfB b 0)) := ⟨_, rfl⟩
  obtain ⟨y, HY⟩ : ∃ x, Hid (x = genH (halfB b 1)) := ⟨_, rfl⟩
  obtain ⟨H, HHN⟩ : ∃ H, Hid (H = halfN b) := ⟨_, rfl⟩
  have HG0 : Hid (∀ (W : World) (o c2 : Nat), Reads W (.slice (some ⟨bb, o, none⟩) H c2) (halfB b 0) → Calls Tryz.prog 82 #[.slice (some ⟨bb, o, none⟩) H c2] W fun e w' => e = .returned (.int .u64 (x : Int)) ∧ Below W.heap.size W w') := fun W o c2 h => by rw [HX.out]; exact nGen_any bb o H c2 _ H640.out W h
  have HG1 : Hid (∀ (W : World) (o c2 : Nat), Reads W (.slice (some ⟨bb, o, none⟩) H c2) (halfB b 1) → Calls Tryz.prog 82 #[.slice (some ⟨bb, o, none⟩) H c2] W fun e w' => e = .returned (.int .u64 (y : Int)) ∧ Below W.heap.size W w') := fun W o c2 h => by rw [HY.out]; exact nGen_any bb o H c2 _ H641.out W h
  rw [← HHN.out] at HH0 HH1
  have HPK : Hid (pickB b = if x < y then (1, y) else (0, x)) := by show _ = _; rw [pickB, ← HX.out, ← HY.out]
  rw [HPK.out]
  have HBW : Hid (Below w.heap.size w w) := Below.refl _ _
  clear hr hl hl2
  by_cases hxy : x < y
  · have q1 : (x : Int) < (y : Int) := by omega
    rw [if_pos hxy]
    go_enter Tryz.func56, Tryz.ntmps56
    have tk0 : Hid True := trivial
    have tk1 : Hid True := trivial
    have tk2 : Hid True := trivial
    have tk3 : Hid True := trivial
    go_wp2_with (first
        | (clear tk0; go_at_call 58; refine (HH0.out _ HB.out).mono ?_; rintro e0 y0 ⟨⟨o0, c0, rfl, hr⟩, rfl⟩
           have HR0 : Hid (Reads y0 (.slice (some ⟨bb, o0, none⟩) H c0) (halfB b 0)) := hr
           clear hr)
        | (clear tk1; go_at_call 82; refine (HG0.out _ _ _ HR0.out).mono ?_; rintro e0 y1 ⟨rfl, hz⟩
           replace HB : Hid (Reads y1 (.slice (some ⟨bb, off, none⟩) L c) b) := HB.out.below hz
           replace HBW : Hid (Below y0.heap.size y0 y1) := HBW.out.trans (hz.mono HBW.out.size)
           clear hz HR0)
        | (clear tk2; go_at_call 58; refine (HH1.out _ HB.out).mono ?_; rintro e0 y2 ⟨⟨o2, c2, rfl, hr⟩, rfl⟩
           have HR1 : Hid (Reads y2 (.slice (some ⟨bb, o2, none⟩) H c2) (halfB b 1)) := hr
           clear hr)
        | (clear tk3; go_at_call 82; refine (HG1.out _ _ _ HR1.out).mono ?_; rintro e0 y3 ⟨rfl, hz⟩
           replace HBW : Hid (Below y0.heap.size y0 y3) := HBW.out.trans (hz.mono HBW.out.size)
           clear hz HR1))
    refine bodyPost_ret (results_tmp2 rfl _ _ _) rfl ?_
    exact ⟨rfl, HBW.out⟩
  · have q1 : ¬ ((x : Int) < (y : Int)) := by omega
    rw [if_neg hxy]
    go_enter Tryz.func56, Tryz.ntmps56
    have tk0 : Hid True := trivial
    have tk1 : Hid True := trivial
    have tk2 : Hid True := trivial
    have tk3 : Hid True := trivial
    go_wp2_with (first
        | (clear tk0; go_at_call 58; refine (HH0.out _ HB.out).mono ?_; rintro e0 y0 ⟨⟨o0, c0, rfl, hr⟩, rfl⟩
           have HR0 : Hid (Reads y0 (.slice (some ⟨bb, o0, none⟩) H c0) (halfB b 0)) := hr
           clear hr)
        | (clear tk1; go_at_call 82; refine (HG0.out _ _ _ HR0.out).mono ?_; rintro e0 y1 ⟨rfl, hz⟩
           replace HB : Hid (Reads y1 (.slice (some ⟨bb, off, none⟩) L c) b) := HB.out.below hz
           replace HBW : Hid (Below y0.heap.size y0 y1) := HBW.out.trans (hz.mono HBW.out.size)
           clear hz HR0)
        | (clear tk2; go_at_call 58; refine (HH1.out _ HB.out).mono ?_; rintro e0 y2 ⟨⟨o2, c2, rfl, hr⟩, rfl⟩
           have HR1 : Hid (Reads y2 (.slice (some ⟨bb, o2, none⟩) H c2) (halfB b 1)) := hr
           clear hr)
        | (clear tk3; go_at_call 82; refine (HG1.out _ _ _ HR1.out).mono ?_; rintro e0 y3 ⟨rfl, hz⟩
           replace HBW : Hid (Below y0.heap.size y0 y3) := HBW.out.trans (hz.mono HBW.out.size)
           clear hz HR1))
    refine bodyPost_ret (results_tmp2 rfl _ _ _) rfl ?_
    exact ⟨rfl, HBW.out⟩
end Go.Proofs.YtopmeedmgjdcgaaGreatDoor
/- A list of texts that grows by append (layer 14). -/
namespace Go.Proofs.YtopmeedmgjdcgaaGreatDoor
open Go.RowKit
set_option maxRecDepth 100000
/-- bytes behind the own slice v, in a region that draws -/
theorem wp_appendY {o : Oper} {a : Act} {w : World} {K : Act → World → Prop} {Q : Exit → Act → World → Prop} (s x : Operand) (base : Nat) (v vx : Value) (l news : List (BitVec 8))
    (hown : OwnB w base v l) (hr : Reads w vx news) (hpos : 0 < news.length) (hlen : l.length + news.length ≤ 140737488355328) (hbase : base ≤ w.heap.size)
    (ho : o.op = .call { callee := .builtin .append, args := #[s, x], argTypes := #[23, 23] }) (hs : a.eval s = v) (hx : a.eval x = vx)
    (h : ∀ v' w', OwnB w' base v' (l ++ news) → w.grownBy w' v.ownBlock → Below base w w' → K (a.put o.dst v') w') : o.wp Tryz.prog a w K Q := by
  obtain ⟨i0, hi, hz0, hz1, hz2⟩ := info_parts Tryz.infob
  obtain ⟨ad, cap, rfl, hcap, hnn, hps⟩ := hr
  cases ad with
  | none => obtain ⟨b, off, h1, _⟩ := hps hpos; cases h1
  | some ad =>
    obtain ⟨v', w', hr, h2, h3, h4, h5⟩ := run_append_own_at (P := Tryz.prog) w base 23 o.type 5 i0 (.int .u8 0) 1 1 Tryz.underlying23 hi hz0 hz1 hz2 rfl (by decide) v l.length (cb l) hown ad news.length cap (cb news) (by rw [cb_len]; omega) (by
      intro j u hj
      have hjl : j < news.length := by have := (List.getElem?_eq_some_iff.1 hj).1; rwa [cb_len] at this
      obtain ⟨b, off, h1, h2⟩ := hps (by omega)
      cases h1
      rw [Addr.add_mid, h2 j hjl, ← hj, cb_get news j hjl]) (cb_one _) (by unfold maxLen; omega) (by omega) hbase
    unfold Oper.wp execOp
    simp only [ho, resolve, invoke, builtin, Sem.run_bind, Sem.run_pure, Result.andThen_ok, List.map_toArray, List.map_cons, List.map_nil, hs, hx, hr]
    refine h v' w' ?_ h3 ((Below.refl _ _).grown h3 hbase (fun k hk => hown.own k hk))
    have e : cb l ++ cb news = cb (l ++ news) := by simp [cb]
    rw [e] at h2
    unfold OwnB; rw [List.length_append]; exact h2
theorem wpSeq_appY {ops : Array Oper} {Q : Exit → Act → World → Prop} {rest : List Oper} {o : Oper} {a : Act} {w : World} (s x : Operand) (base : Nat) (v vx : Value) (l news : List (BitVec 8))
    (hown : OwnB w base v l) (hr : Reads w vx news) (hpos : 0 < news.length) (hlen : l.length + news.length ≤ 140737488355328) (hbase : base ≤ w.heap.size)
    (ho : o.op = .call { callee := .builtin .append, args := #[s, x], argTypes := #[23, 23] }) (hs : a.eval s = v) (hx : a.eval x = vx) (hgd : o.guard = none)
    (h : ∀ v' w', OwnB w' base v' (l ++ news) → w.grownBy w' v.ownBlock → Below base w w' → wpList Tryz.prog ops Q rest (a.put o.dst v') w') : wpList Tryz.prog ops Q (o :: rest) a w :=
  wpList_plain hgd fun _ hK => wp_appendY s x base v vx l news hown hr hpos hlen hbase ho hs hx (fun v' w' h1 h2 h3 => hK _ _ (h v' w' h1 h2 h3))
theorem Tryz.infobsJ : (Tryz.prog.info? 23).map (fun i => (i.zero, i.size, i.bytes)) = some (some (.slice none 0 0), 1, 24) := by kernel_rfl
/-- slices of bytes, the call's own row -/
def OwnX (w : World) (base : Nat) (v : Value) (us : List Value) : Prop := w.ownsRow base 23 1 v us.length us
theorem OwnX.nil (w : World) (base : Nat) : OwnX w base (.slice none 0 0) [] := World.ownsRow_nil _ _ _ _
theorem OwnX.lt {w : World} {base : Nat} {v : Value} {us : List Value} (h : OwnX w base v us) : ∀ k, v.ownBlock = some k → base ≤ k ∧ k < w.heap.size := World.ownsRow.lt h
theorem OwnX.same {w w' : World} {base : Nat} {v : Value} {us : List Value} (h : OwnX w base v us) (hs : ∀ k, v.ownBlock = some k → w'.heap[k]? = w.heap[k]?) : OwnX w' base v us := by
  rcases h with ⟨h1, ⟨rfl, h2⟩ | ⟨g, cap, cur, rfl, hg, hh, h3⟩⟩
  · exact ⟨h1, Or.inl ⟨rfl, h2⟩⟩
  · exact ⟨h1, Or.inr ⟨g, cap, cur, rfl, hg, by rw [hs g rfl]; exact hh, h3⟩⟩
theorem OwnX.form {w : World} {base : Nat} {v : Value} {us : List Value} (h : OwnX w base v us) : ∃ a c, v = .slice a us.length c := by
  rcases h with ⟨_, ⟨rfl, h2⟩ | ⟨g', cap, cur, rfl, _⟩⟩
  · exact ⟨none, 0, by rw [h2]⟩
  · exact ⟨_, _, rfl⟩
theorem OwnB.sameJ {w w' : World} {base : Nat} {v : Value} {l : Bs} (h : OwnB w base v l) (hs : ∀ k, v.ownBlock = some k → w'.heap[k]? = w.heap[k]?) : OwnB w' base v l := by
  rcases h with ⟨h1, ⟨rfl, h2⟩ | ⟨g, cap, cur, rfl, hg, hh, h3⟩⟩
  · exact ⟨h1, Or.inl ⟨rfl, h2⟩⟩
  · exact ⟨h1, Or.inr ⟨g, cap, cur, rfl, hg, by rw [hs g rfl]; exact hh, h3⟩⟩
theorem OwnB.ltJ {w : World} {base : Nat} {v : Value} {l : Bs} (h : OwnB w base v l) : ∀ k, v.ownBlock = some k → base ≤ k ∧ k < w.heap.size := World.ownsRow.lt h
theorem OwnB.apartJ {w : World} {base : Nat} {v v2 : Value} {l : Bs} {us : List Value} (h : OwnB w base v l) (h2 : OwnX w base v2 us) : ∀ k, v.ownBlock = some k → some k ≠ v2.ownBlock := fun k hk e => by
  rcases h with ⟨_, ⟨rfl, _⟩ | ⟨g, cap, cur, rfl, _, hh, _⟩⟩
  · cases hk
  rcases h2 with ⟨_, ⟨rfl, _⟩ | ⟨g2, cap2, cur2, rfl, _, hh2, _⟩⟩
  · cases e
  have e1 : g = k := by simpa [Value.ownBlock] using hk
  have e2 : k = g2 := by simpa [Value.ownBlock] using e
  rw [e1, e2, hh2] at hh
  simp only [Option.some.injEq, Obj.cells.injEq] at hh
  exact absurd hh.2.1 (by decide)
/-- the slice v holds the texts xs, all the call's own from block base on -/
structure TxJ (base : Nat) (v : Value) (us : List Value) (xs : List Bs) (W : World) : Prop where
  own : OwnX W base v us
  len : us.length = xs.length
  good : ∀ j u, us[j]? = some u → OwnB W base u (xs.getD j [])
  ge : base ≤ W.heap.size
theorem TxJ.nil {base : Nat} {W : World} (h : base ≤ W.heap.size) : TxJ base (.slice none 0 0) [] [] W := ⟨OwnX.nil _ _, rfl, fun j u hj => by simp at hj, h⟩
theorem TxJ.next {base : Nat} {v : Value} {us : List Value} {xs : List Bs} {W W' : World} (h : TxJ base v us xs W) (hb : Below W.heap.size W W') : TxJ base v us xs W' :=
  ⟨h.own.same fun k hk => hb.block k (h.own.lt k hk).2, h.len, fun j u hj => (h.good j u hj).sameJ fun k hk => hb.block k ((h.good j u hj).ltJ k hk).2, Nat.le_trans h.ge hb.size⟩
theorem TxJ.readsL {base : Nat} {v : Value} {us : List Value} {xs : List Bs} {W : World} (h : TxJ base v us xs W) : ReadsL W v xs := by
  obtain ⟨h1, h2⟩ := id h.own
  rcases h2 with ⟨rfl, h0⟩ | ⟨g, cap, cur, rfl, hg, hh, hc, hm, hs, ht⟩
  · have : xs = [] := List.eq_nil_of_length_eq_zero (by rw [← h.len]; exact h0)
    subst this
    exact ⟨none, 0, rfl, Nat.le_refl _, fun _ => rfl, fun hp => by simp at hp⟩
  · refine ⟨_, cap, by rw [h.len], by rw [← h.len]; exact hc, (fun e => by cases e), fun _ => ⟨g, 0, rfl, fun j hj => ?_⟩⟩
    have hj2 : j < us.length := by rw [h.len]; exact hj
    refine ⟨us[j], ?_, (h.good j _ (List.getElem?_eq_getElem hj2)).reads⟩
    rw [cell_of_row W g (0 + j) cur _ (0, 0) hh, Nat.zero_add]
    rw [Nat.mul_one] at ht
    have := List.getElem?_eq_getElem hj2
    conv at this => lhs; rw [← ht]
    rw [List.getElem?_take_of_lt hj2] at this
    simpa using this
theorem TxJ.grow {base : Nat} {v v2 u : Value} {us : List Value} {xs : List Bs} {t : Bs} {W W6 : World} (h : TxJ base v us xs W) (hu : OwnB W base u t) (hown6 : OwnX W6 base v2 (us ++ [u])) (hgrow : (W.alloc (.cells #[u] 23)).grownBy W6 v.ownBlock) :
    TxJ base v2 (us ++ [u]) (xs ++ [t]) W6 ∧ Below base W W6 := by
  have b45 : Below base W (W.alloc (.cells #[u] 23)) := (below_alloc W _).mono h.ge
  have b56 : Below base (W.alloc (.cells #[u] 23)) W6 := (Below.refl _ _).grown hgrow (Nat.le_trans h.ge b45.size) (fun k hk => (h.own.lt k hk).1)
  have b46 := b45.trans b56
  have up : ∀ x t, OwnB W base x t → OwnB W6 base x t := fun x t hx => by
    have hne := hx.apartJ h.own
    refine hx.sameJ (fun k hk => ?_)
    have h2 := (hx.ltJ k hk).2
    rw [hgrow.block k (by simp; omega) (hne k hk), Go.RowKit.Below.heap_alloc W _ k h2]
  refine ⟨⟨hown6, by rw [List.length_append, List.length_append, h.len]; rfl, fun j x hj => ?_, Nat.le_trans h.ge b46.size⟩, b46⟩
  by_cases hjl : j < us.length
  · rw [List.getElem?_append_left hjl] at hj
    have h1 := h.good j x hj
    have h2 : (xs ++ [t]).getD j [] = xs.getD j [] := by
      rw [List.getD_eq_getElem?_getD, List.getD_eq_getElem?_getD, List.getElem?_append_left (by rw [← h.len]; exact hjl)]
    rw [h2]
    exact up _ _ h1
  · rw [List.getElem?_append_right (by omega)] at hj
    have hj0 : j = us.length := by
      have := (List.getElem?_eq_some_iff.1 hj).1
      simp at this
      omega
    subst hj0
    simp at hj
    subst hj
    have h2 : (xs ++ [t]).getD us.length [] = t := by
      rw [List.getD_eq_getElem?_getD, h.len, List.getElem?_append_right (Nat.le_refl _), Nat.sub_self]
      rfl
    rw [h2]
    exact up _ _ hu
/-- one text more behind the own slice v -/
theorem wpSeq_appX {ops : Array Oper} {Q : Exit → Act → World → Prop} {rest : List Oper} {o : Oper} {a : Act} {w : World} (s x : Operand) (base : Nat) (v u : Value) (us : List Value) (g : Nat)
    (hown : OwnX w base v us) (hu : w.cell? ⟨g, 0, none⟩ = some u) (h1 : u.oneCell' = true) (hl : us.length < 1000000) (hbase : base ≤ w.heap.size)
    (ho : o.op = .call { callee := .builtin .append, args := #[s, x], argTypes := #[41, 41] }) (hs : a.eval s = v) (hx : a.eval x = .slice (some ⟨g, 0, none⟩) 1 1) (hgd : o.guard = none)
    (h : ∀ v' w', OwnX w' base v' (us ++ [u]) → w.grownBy w' v.ownBlock → wpList Tryz.prog ops Q rest (a.put o.dst v') w') : wpList Tryz.prog ops Q (o :: rest) a w := by
  obtain ⟨i0, hi, hz0, hz1, hz2⟩ := info_parts Tryz.infobsJ
  refine wpList_append_own_at w hgd s x 41 ho base 23 i0 (.slice none 0 0) 1 24 Tryz.underlying41 hi hz0 hz1 hz2 rfl (by decide) v us.length us hs hown ⟨g, 0, none⟩ 1 1 [u] hx rfl ?_ ?_ (by unfold maxLen; omega) (by omega) hbase ?_
  · intro j u' hj
    match j, hj with
    | 0, hj => simp at hj; subst hj; simpa [Addr.add] using hu
  · intro u' hu'; simp at hu'; subst hu'; exact h1
  · intro v' w' h2 h3 _ h5
    exact h v' w' (by unfold OwnX; rw [List.length_append]; exact h2) h3
theorem build_x1 (f : Operand → Value) (o : Oper) (x : Operand) (a0 : Option Addr) (n0 c0 : Nat) (hx : f x = .slice a0 n0 c0) (ho : o.op = .buildSlice 41 1 #[(0, x)]) (w : World) : (execOp f o).run Tryz.prog w = .ok (.value (.slice (some ⟨w.heap.size, 0, none⟩) 1 1)) (w.alloc (.cells #[Value.slice a0 n0 c0] 23)) := by
  unfold execOp
  rw [ho]
  simp only [List.map_toArray, List.map_cons, List.map_nil, hx]
  kernel_rfl
/-- a text's slice built, and appended -/
theorem wpSeq_buildX {ops : Array Oper} {Q : Exit → Act → World → Prop} {rest : List Oper} {o : Oper} {a : Act} {w : World} (x : Operand) (a0 : Option Addr) (n0 c0 : Nat) (hx : a.eval x = .slice a0 n0 c0) (ho : o.op = .buildSlice 41 1 #[(0, x)]) (hw : Region.wanted o (yielded ops a.tmps) = true)
    (h : ∀ g w', g = w.heap.size → w' = w.alloc (.cells #[Value.slice a0 n0 c0] 23) → wpList Tryz.prog ops Q rest (a.put o.dst (.slice (some ⟨g, 0, none⟩) 1 1)) w') : wpList Tryz.prog ops Q (o :: rest) a w :=
  wpSeq_val _ _ hw (build_x1 _ _ x a0 n0 c0 hx ho w) (h _ _ rfl rfl)
end Go.Proofs.YtopmeedmgjdcgaaGreatDoor
/- The walks of blazonref14.Records and Read (layer 14). -/
namespace Go.Proofs.YtopmeedmgjdcgaaGreatDoor
open Go.RowKit
set_option maxRecDepth 100000
theorem cutMid (b off n c l m : Nat) (hm : 0 < m) (hn : l + m ≤ n) (hc : n ≤ c) (L H : Int) (hL : L = (l : Int)) (hH : H = ((l + m : Nat) : Int)) (f : Operand → Value) (o : Oper) (x lo hi : Operand) (ho : o.op = .slice 23 x (some lo) (some hi) none) (hx : f x = .slice (some ⟨b, off, none⟩) n c) (hlo : f lo = .int .i64 L) (hhi : f hi = .int .i64 H) (w : World) :
    (execOp f o).run Tryz.prog w = .ok (.value (.slice (some ⟨b, off + l, none⟩) m (c - l))) w := by
  subst hL hH
  unfold execOp
  rw [ho]
  simp only [hx, hlo, hhi, Option.map_some, Option.map_none, Sem.run_bind, cut_run b off n c l m hm hn hc w]
  rfl
theorem uJ {a : Nat} (h : a < 4611686018427387904) : IntKind.u64.wrap (a : Int) = (a : Int) := by rw [IntKind.wrap_u64]; omega
theorem iJ {a : Nat} (h : a < 4611686018427387904) : IntKind.i64.wrap (a : Int) = (a : Int) := by rw [IntKind.wrap_i64]; omega
theorem sJ {a b c : Nat} (h : a = b + c) (ha : a < 4611686018427387904) : IntKind.i64.wrap ((a : Int) - (b : Int)) = (c : Int) := by rw [IntKind.wrap_i64]; omega
theorem recs_zero {gen : Nat} {half : Bs} {f p k : Nat} (h : ¬ p + 64 ≤ half.length) : recsL gen half f p k = ([], p) := by
  cases f with
  | zero => rfl
  | succ f => rw [recsL, if_neg h]
end Go.Proofs.YtopmeedmgjdcgaaGreatDoor
/- The walks of blazonref14.Read, size, Fits and Room (layer 14). -/
namespace Go.Proofs.YtopmeedmgjdcgaaGreatDoor
open Go.RowKit
set_option maxRecDepth 100000
theorem results_3J {fn : Func} {t u v : Tmp} (h : fn.results = #[.tmp t, .tmp u, .tmp v]) (tmps : Array Value) (P : Program) (w : World) :
    (results fn tmps).run P w = .ok (.tuple #[tmps.getD t undef, tmps.getD u undef, tmps.getD v undef]) w := by
  simp [results, h]
/-- bytes that may be a disk's -/
def okB (b : Bs) : Prop := b.length % 64 = 0 ∧ 512 ≤ b.length
instance (b : Bs) : Decidable (okB b) := inferInstanceAs (Decidable (_ ∧ _))
def rdX14 (b : Bs) : Int := if okB b then 0 else 1
def rdG14 (b : Bs) : Nat := if okB b then (readJ b).1 else 0
def rdL14 (b : Bs) : List Bs := if okB b then (readJ b).2 else []
theorem readsL_nil (w : World) : ReadsL w (.slice none 0 0) [] := ⟨none, 0, rfl, Nat.le_refl _, fun _ => rfl, fun h => by simp at h⟩
theorem ReadsL.atJ {w : World} {ad : Option Addr} {n c : Nat} {ls : List Bs} (h : ReadsL w (.slice ad n c) ls) {j : Nat} (hj : j < ls.length) : ∃ b off vj, ad = some ⟨b, off, none⟩ ∧ w.cell? ⟨b, off + j, none⟩ = some vj ∧ Reads w vj (ls.getD j []) := by
  obtain ⟨ad', cp, hv, _, _, hx⟩ := h
  simp only [Value.slice.injEq] at hv
  obtain ⟨rfl, _, _⟩ := hv
  obtain ⟨b, off, h1, h2⟩ := hx (Nat.lt_of_le_of_lt (Nat.zero_le _) hj)
  obtain ⟨vj, h3, h4⟩ := h2 j hj
  exact ⟨b, off, vj, h1, h3, h4⟩
theorem sizeL_take {l : List Bs} {k : Nat} (hk : k < l.length) : sizeL (l.take (k + 1)) = sizeL (l.take k) + 64 * secR (l.getD k []).length := by
  rw [List.take_add_one, List.getElem?_eq_getElem hk, List.getD_eq_getElem?_getD, List.getElem?_eq_getElem hk]
  exact sizeL_snoc _ _
theorem sizeL_app (a b : List Bs) : sizeL (a ++ b) = sizeL a + sizeL b := by simp [sizeL]
theorem sizeL_mono (l : List Bs) (k : Nat) : sizeL (l.take k) ≤ sizeL l := by
  have e := sizeL_app (l.take k) (l.drop k)
  rw [List.take_append_drop] at e
  omega
theorem secR_ge (m : Nat) : m ≤ 64 * secR m := by unfold secR; omega
end Go.Proofs.YtopmeedmgjdcgaaGreatDoor
/- The walks of blazonref14.Room, Same, Append and Restart (layer 14). -/
namespace Go.Proofs.YtopmeedmgjdcgaaGreatDoor
open Go.RowKit
set_option maxRecDepth 100000
theorem Reads.drewN {w : World} {v : Value} {l : List (BitVec 8)} (h : Reads w v l) (q : Nat) : Reads (w.drewN q) v l := h
def roomZ (l : List Bs) (n : Nat) : Nat := min 1048576 (64 * (n / 2) - 64 - sizeL l - 57)
theorem OwnX.readsL {W : World} {base : Nat} {v : Value} {us : List Value} {xs : List Bs} (h : OwnX W base v us) (hlen : us.length = xs.length) (hg : ∀ j u, us[j]? = some u → Reads W u (xs.getD j [])) : ReadsL W v xs := by
  obtain ⟨h1, h2⟩ := id h
  rcases h2 with ⟨rfl, h0⟩ | ⟨g, cap, cur, rfl, hg2, hh, hc, hm, hs, ht⟩
  · have : xs = [] := List.eq_nil_of_length_eq_zero (by rw [← hlen]; exact h0)
    subst this
    exact readsL_nil _
  · refine ⟨_, cap, by rw [hlen], by rw [← hlen]; exact hc, (fun e => by cases e), fun _ => ⟨g, 0, rfl, fun j hj => ?_⟩⟩
    have hj2 : j < us.length := by rw [hlen]; exact hj
    refine ⟨us[j], ?_, hg j _ (List.getElem?_eq_getElem hj2)⟩
    rw [cell_of_row W g (0 + j) cur _ (0, 0) hh, Nat.zero_add]
    rw [Nat.mul_one] at ht
    have := List.getElem?_eq_getElem hj2
    conv at this => lhs; rw [← ht]
    rw [List.getElem?_take_of_lt hj2] at this
    simpa using this
def fit14 (l : List Bs) (n : Nat) : Bool := decide (sizeL l + 64 ≤ 64 * (n / 2))
def apX (l : List Bs) (b : Bs) (n : Nat) : Int := if chkX b = 1 then 1 else if fit14 (l ++ [b]) n then 0 else 13
theorem chk_or (x : Bs) : chkX x = 0 ∨ chkX x = 1 := by unfold chkX; split; exact Or.inr rfl; exact Or.inl rfl
def rsX (m : List Bs) (n : Nat) : Int := if ∃ x ∈ m, chkX x = 1 then 1 else if fit14 m n then 0 else 13
end Go.Proofs.YtopmeedmgjdcgaaGreatDoor
/- The walks of journal's number, readNumber, sectors, recordSectors, padded, Head, Text, Record, Check, blank, room, as they landed; bytes.HasPrefix and bytes.Clone (layer 14). -/
namespace Go.Proofs.YtopmeedmgjdcgaaGreatDoor
open Go.RowKit
set_option maxRecDepth 100000
theorem OwnB.zero9 (w : World) (base g : Nat) (hg : base ≤ g) (h : Blk w g [] 5) : OwnB w base (.slice (some ⟨g, 0, none⟩) 0 0) [] :=
  ⟨by simp [cb], Or.inr ⟨g, 0, #[], rfl, hg, h, Nat.le_refl _, by unfold maxLen; omega, rfl, rfl⟩⟩
set_option maxRecDepth 100000 in
set_option maxHeartbeats 4000000 in
theorem bclone_any (v : Value) (l : List (BitVec 8)) (w : World) (h : Reads w v l) (hl : l.length ≤ 140737488355328) :
    Calls Tryz.prog 64 #[v] w fun e w' => ∃ v', e = .returned v' ∧ OwnB w' w.heap.size v' l ∧ Below w.heap.size w w' := by
  have HR : Hid (Reads w v l) := h
  have HL : Hid (l.length ≤ 140737488355328) := hl
  obtain ⟨ad, cap, rfl, _, hn, hx⟩ := h
  cases ad with
  | none =>
    have h0 : l = [] := by
      cases l with
      | nil => rfl
      | cons b r => obtain ⟨b, off, h1, _⟩ := hx (by simp); cases h1
    subst h0
    have := hn rfl
    subst this
    clear hx hn hl
    have hnil : ∀ (a : Option Addr) (n c : Nat) (w : World), (binOp .eql 23 (.slice a n c) (.slice none 0 0)).run Tryz.prog w = .ok (.bool a.isNone) w := fun a n c w => Lib.run_eql_slice_nil w 23 5 a n c 0 0 Tryz.underlying23
    go_enter Tryz.func64, Tryz.ntmps64
    go_wp2
    go_ret
    exact ⟨_, rfl, OwnB.nil _ _, Below.refl _ _⟩
  | some ad =>
    clear hx hn hl
    obtain ⟨m, HM⟩ : ∃ m, Hid (m = l.length) := ⟨_, rfl⟩
    rw [← HM.out] at HR ⊢
    have HB := below_alloc w (.cells ([] : List Value).toArray 5)
    have HO : Hid (OwnB (w.alloc (.cells ([] : List Value).toArray 5)) w.heap.size (.slice (some ⟨w.heap.size, 0, none⟩) 0 0) []) := OwnB.zero9 _ _ _ (Nat.le_refl _) (Blk.new w [] 5)
    have HR1 : Hid (Reads (w.alloc (.cells ([] : List Value).toArray 5)) (.slice (some ad) m cap) l) := HR.out.below HB
    have HBB : Hid (Below w.heap.size w (w.alloc (.cells ([] : List Value).toArray 5))) := HB
    clear HB
    have hnil : ∀ (a : Option Addr) (n c : Nat) (w : World), (binOp .eql 23 (.slice a n c) (.slice none 0 0)).run Tryz.prog w = .ok (.bool a.isNone) w := fun a n c w => Lib.run_eql_slice_nil w 23 5 a n c 0 0 Tryz.underlying23
    go_enter Tryz.func64, Tryz.ntmps64
    go_wp2_with (at_builtin; refine wpList_appendB rfl (.tmp 5) (.tmp 6) rfl w.heap.size _ [] rfl HO.out _ l rfl HR1.out (by have := HL.out; simp; omega) HBB.out.size ?_; intro v2 w2 hown2 hb2 _)
    have hB2 := HBB.out.trans hb2
    go_wp2
    go_ret
    exact ⟨_, rfl, hown2, hB2⟩
theorem bEqual_any (va vb : Value) (a b : List (BitVec 8)) (w : World) (ha : Reads w va a) (hb : Reads w vb b) : Calls Tryz.prog 153 #[va, vb] w fun e w' => e = .returned (.bool (decide (a = b))) ∧ Below w.heap.size w w' := by
  have hca := conv_reads ha
  have hcb := conv_reads hb
  obtain ⟨aa, na, ca, hva⟩ := ha.form
  subst hva
  obtain ⟨ab, nb, cbb, hvb⟩ := hb.form
  subst hvb
  have hne := strB_inj a b
  clear ha hb
  generalize decide (a = b) = o at *
  go_enter Tryz.func153, Tryz.ntmps153
  go_wp2
  go_ret
  exact ⟨rfl, Below.refl _ _⟩
set_option maxHeartbeats 400000 in
theorem cdigest_any (base : Nat) (v : Value) (l d : List (BitVec 8)) (hd : d.length = 32) (w : World) (hown : OwnB w base v l) (hb : base ≤ w.heap.size) (hl : l.length + 32 ≤ 140737488355328) :
    Calls Tryz.prog 123 #[v, .agg (cb d).toArray] w fun e w' => ∃ v', e = .returned v' ∧ OwnB w' base v' (l ++ d) ∧ Below base w w' := by
  have HO : Hid (OwnB w base v l) := hown
  have HD : Hid (d.length = 32) := hd
  have HL : Hid (l.length + 32 ≤ 140737488355328) := hl
  have HB : Hid (base ≤ w.heap.size) := hb
  have hs := slice_dig_at w.heap.size 0
  clear hown hd hl hb
  have b0 := below_alloc w (.cells (cb d).toArray 155)
  have HR : Hid (Reads (w.alloc (.cells (cb d).toArray 155)) (.slice (some ⟨w.heap.size, 0, none⟩) 32 32) d) := (Blk.new w (cb d) 155).reads HD.out.symm (by rw [HD.out]; omega)
  have HO1 : Hid (OwnB (w.alloc (.cells (cb d).toArray 155)) base v l) := HO.out.below b0 (Nat.le_refl _)
  have HB1 : Hid (Below base w (w.alloc (.cells (cb d).toArray 155))) := b0.mono HB.out
  have HS1 : Hid (base ≤ (w.alloc (.cells (cb d).toArray 155)).heap.size) := Nat.le_trans HB.out b0.size
  clear b0
  go_enter Tryz.func123, Tryz.ntmps123
  go_wp2_with (at_builtin; refine wpList_appendB rfl (.tmp 5) (.tmp 6) rfl base _ l rfl HO1.out _ d rfl HR.out (by have := HL.out; have := HD.out; omega) HS1.out ?_; intro v2 w2 hown2 hb2 _)
  have hB2 := HB1.out.trans hb2
  go_wp2
  go_ret
  exact ⟨_, rfl, hown2, hB2⟩
theorem replicate_cells (n : Nat) : (Builtin.zeroCells #[Value.int .u8 0] n) = (cb (List.replicate n 0)).toArray := by
  apply Array.ext
  · simp [Builtin.zeroCells, cb]
  · intro i h1 h2
    simp [Builtin.zeroCells, cb, Nat.mod_one]
/-- noughts behind the own slice v: append(b, make([]byte, k)...) -/
theorem run_append_noughts (w : World) (base : Nat) (ty : TypeId) (v : Value) (l : Bs) (k : Nat) (hown : OwnB w base v l) (hne : l ≠ []) (hl : l.length + k ≤ 100000000) (hbase : base ≤ w.heap.size) :
    ∃ v' w', (Builtin.append_ #[23, 3] ty #[v, .int .i64 (k : Int)]).run Tryz.prog w = .ok v' w' ∧ OwnB w' base v' (l ++ List.replicate k 0) ∧ w.grownBy w' v.ownBlock := by
  obtain ⟨i0, hi, hz0, hz1, hz2⟩ := info_parts Tryz.infob
  have hlen : (cb (l ++ List.replicate k 0)).length = (l.length + k) * 1 := by rw [cb_len, List.length_append, List.length_replicate, Nat.mul_one]
  have hL : (l ++ List.replicate k 0).length = l.length + k := by rw [List.length_append, List.length_replicate]
  have hint : Tryz.prog.underlying 3 = some (.int .i64) := Tryz.underlying3
  obtain ⟨h1, h2⟩ := id hown
  rcases h2 with ⟨rfl, h0⟩ | ⟨g, cap, cur, rfl, hbg, hg, hnc, hcm, hcs, htake⟩
  · exact absurd (List.eq_nil_of_length_eq_zero h0) hne
  by_cases hk0 : k = 0
  · subst hk0
    refine ⟨.slice (some ⟨g, 0, none⟩) l.length cap, w, ?_, by rw [List.replicate_zero, List.append_nil]; exact hown, ⟨rfl, rfl, rfl, Nat.le_refl _, fun _ _ _ => rfl⟩⟩
    have hw : IntKind.i64.wrap 0 = 0 := by decide
    simp [Builtin.append_, run_underlying Tryz.underlying23, run_underlying hint, sizeOf, typeInfo, hi, asInt, asIntOf, hw, hnc, storeCells]
  · by_cases hroom : l.length + k ≤ cap
    · have hw : IntKind.i64.wrap (k : Int) = k := by rw [IntKind.wrap_i64]; omega
      have hneg : ¬ ((k : Int) < 0) := by omega
      have h48i : ¬ (281474976710656 < (k : Int) * (i0.bytes : Int)) := by rw [hz2]; omega
      have hns : ¬ (k * i0.size = 0) := by rw [hz1]; omega
      have hfit : l.length * 1 + (cb (List.replicate k 0)).length ≤ cur.size := by rw [cb_len, List.length_replicate, hcs]; omega
      have hst := run_storeCells_at Tryz.prog g (l.length * 1) 5 (cb (List.replicate k 0)) 0 cur w hg (by simpa using hfit) (cb_one _)
      simp only [Nat.add_zero] at hst
      refine ⟨.slice (some ⟨g, 0, none⟩) (l.length + k) cap, w.setRow g (cur.toList.take (l.length * 1) ++ cb (List.replicate k 0) ++ cur.toList.drop (l.length * 1 + (cb (List.replicate k 0)).length)).toArray, ?_, ?_, ⟨rfl, rfl, rfl, by simp, fun k2 _ hk => setRow_other w g k2 _ (fun e => hk (by simp [Value.ownBlock, e]))⟩⟩
      · have hzc : (zeroValue 5).run Tryz.prog w = .ok (.int .u8 0) w := by simp [zeroValue, typeInfo, hi, hz0]
        have hz1' : i0.size = 1 := hz1
        simp [Builtin.append_, run_underlying Tryz.underlying23, run_underlying hint, sizeOf, typeInfo, zeroValue, hi, hz0, asInt, asIntOf, hw, hneg, h48i, hroom, Addr.add_lit, hz1', Value.cells, replicate_cells, hk0] at hst ⊢
        rw [hst]
        rfl
      · refine ⟨by rw [hL]; exact hlen, Or.inr ⟨g, cap, _, by rw [hL], hbg, setRow_heap w g cur _ 5 _ hg, by rw [hL]; exact hroom, hcm, ?_, ?_⟩⟩
        · simp only [List.size_toArray, List.length_append, List.length_take, List.length_drop, Array.length_toList]
          omega
        · rw [htake, hL, ← hlen]
          have e : cb l ++ cb (List.replicate k 0) = cb (l ++ List.replicate k 0) := by simp [cb]
          rw [e]
          exact List.take_left
    · have holds : ∀ j u, (cb l)[j]? = some u → w.cell? ((⟨g, 0, none⟩ : Addr).add j) = some u := hown.cells (g := g) rfl
      have hold : (Builtin.firstCells i0.size l.length (.slice (some ⟨g, 0, none⟩) l.length cap)).run Tryz.prog w.drew = .ok (cb l).toArray w.drew := by
        rw [hz1]
        exact run_firstCells_some (P := Tryz.prog) w.drew 1 l.length ⟨g, 0, none⟩ l.length cap (cb l) (by rw [cb_len]; omega) holds
      have hr := Go.Lib.run_append_grow_zeros (P := Tryz.prog) w 23 3 ty 5 i0 (.int .u8 0) .i64 .i64 Tryz.underlying23 hint hi hz0 (some ⟨g, 0, none⟩) l.length cap (cb l) hold k (by omega) (by rw [hz1]; decide) (by omega) (by omega) (by rw [hz2]; omega) (growslice_fits (by omega) (by rw [hz2]; omega))
      have hge := grownCap_ge w (l.length + k) cap 5
      have hcm2 : grownCap w (l.length + k) cap 5 ≤ maxLen := grownCap_le_maxLen w (l.length + k) cap 5 (by unfold maxLen; omega)
      refine ⟨_, _, hr, ?_, ⟨rfl, rfl, rfl, by simp, fun k2 hk2 _ => Go.heap_alloc_old w.drew _ hk2⟩⟩
      refine ⟨by rw [hL]; exact hlen, Or.inr ⟨w.heap.size, _, _, by rw [hL], hbase, heap_alloc_new w.drew _, by rw [hL]; exact hge, hcm2, ?_, ?_⟩⟩
      · simp only [Array.size_append, List.size_toArray, size_zeroCells, cb_len, Value.cells]
        show l.length + k * 1 + (grownCap w (l.length + k) cap 5 - (l.length + k)) * 1 = _
        omega
      · have e : (cb l).toArray ++ Builtin.zeroCells (Value.int .u8 0).cells k = (cb (l ++ List.replicate k 0)).toArray := by
          show (cb l).toArray ++ Builtin.zeroCells #[Value.int .u8 0] k = _
          rw [replicate_cells]; simp [cb]
        rw [e, hL, ← hlen]
        simp only [Array.toList_append]
        exact List.take_left
theorem wpSeq_noughts {ops : Array Oper} {Q : Exit → Act → World → Prop} {rest : List Oper} {o : Oper} {a : Act} {w : World} (s x : Operand) (base : Nat) (v : Value) (l : Bs) (k : Nat) (hown : OwnB w base v l) (hne : l ≠ []) (hl : l.length + k ≤ 100000000) (hbase : base ≤ w.heap.size)
    (ho : o.op = .call { callee := .builtin .append, args := #[s, x], argTypes := #[23, 3] }) (hs : a.eval s = v) (hx : a.eval x = .int .i64 (k : Int)) (hgd : o.guard = none)
    (h : ∀ v' w', OwnB w' base v' (l ++ List.replicate k 0) → w.grownBy w' v.ownBlock → Below base w w' → wpList Tryz.prog ops Q rest (a.put o.dst v') w') : wpList Tryz.prog ops Q (o :: rest) a w := by
  obtain ⟨v', w', hr, h2, h3⟩ := run_append_noughts w base o.type v l k hown hne hl hbase
  exact Go.Lib.wpList_append_run w hgd s x 23 3 ho v _ hs hx v' w' hr (h v' w' h2 h3 ((Below.refl _ _).grown h3 hbase (fun k hk => hown.own k hk)))
theorem own_of_blkJ {w : World} {base g k c : Nat} {z : List (BitVec 8)} (h : Blk w g (cb z) 5) (hb : base ≤ g) (hz : z.length = c) (hk : k ≤ c) (hc : c < 281474976710600) : OwnB w base (.slice (some ⟨g, 0, none⟩) k c) (z.take k) := by
  have hl : (z.take k).length = k := by rw [List.length_take]; omega
  have e : (cb z).take k = cb (z.take k) := by simp [cb]
  refine ⟨by rw [cb_len, Nat.mul_one], Or.inr ⟨g, c, (cb z).toArray, by rw [hl], hb, h, by rw [hl]; exact hk, by unfold maxLen; omega, by simp [cb_len, hz], by rw [hl, Nat.mul_one, ← e]⟩⟩
theorem tl8_succ (n k : Nat) : tl8 n (k + 1) = tl8 n k ++ [BitVec.ofNat 8 (n / 2 ^ (56 - 8 * k))] := by simp [tl8, List.range_succ]
set_option maxRecDepth 100000 in
set_option maxHeartbeats 8000000 in
theorem jNumber_own (base : Nat) (v : Value) (l : Bs) (n : Nat) (hn : n < 18446744073709551616) (w : World) (hown : OwnB w base v l) (hb : base ≤ w.heap.size) (hl : l.length ≤ 100000000) :
    Calls Tryz.prog 126 #[v, .int .u64 (n : Int)] w fun e w' => ∃ v', e = .returned v' ∧ OwnB w' base v' (l ++ num8 n) ∧ Below base w w' := by
  have HO : Hid (OwnB w base v l) := hown
  have HL : Hid (l.length ≤ 100000000) := hl
  have HB : Hid (base ≤ w.heap.size) := hb
  have HN : Hid (n < 18446744073709551616) := hn
  clear hown hl hb hn
  go_enter Tryz.func126, Tryz.ntmps126
  go_wp2
  go_loopw [0, 5] (fun u i wr => ∃ k : Nat, k ≤ 8 ∧ i = .int .i64 ((k : Int) - 1) ∧ OwnB wr base u (l ++ tl8 n (8 - k)) ∧ Below base w wr) (fun _ i _ => (intOf i + 1).toNat)
  case atStart => exact ⟨8, by omega, by simp, by simpa [tl8] using HO.out, Below.refl _ _⟩
  case round =>
    obtain ⟨k, hk, rfl, hI, hB⟩ := hrel
    have HI : Hid (OwnB wr base u0 (l ++ tl8 n (8 - k))) := hI
    have HBB : Hid (Below base w wr) := hB
    have HS : Hid (base ≤ wr.heap.size) := Nat.le_trans HB.out hB.size
    clear hI hB
    cases k with
    | zero =>
      have hge : ¬ ((0 : Int) ≤ ((0 : Nat) : Int) - 1) := by omega
      go_wp2
      go_ret
      exact ⟨_, rfl, HI.out, HBB.out⟩
    | succ m =>
      have e1 : (((m + 1 : Nat) : Int) - 1) = (m : Int) := by omega
      rw [e1]
      have hge : (0 : Int) ≤ (m : Int) := by omega
      have e8 : IntKind.i64.wrap (8 * (m : Int)) = ((8 * m : Nat) : Int) := by rw [IntKind.wrap_i64]; omega
      have e9 : IntKind.i64.wrap ((m : Int) - 1) = (m : Int) - 1 := by rw [IntKind.wrap_i64]; omega
      have hx : n / 2 ^ (8 * m) < 18446744073709551616 := Nat.lt_of_le_of_lt (Nat.div_le_self _ _) HN.out
      have HX : Hid (56 - 8 * (8 - (m + 1)) = 8 * m) := by show _ = _; omega
      have HT : Hid (l ++ tl8 n (8 - m) = (l ++ tl8 n (8 - (m + 1))) ++ [BitVec.ofNat 8 (n / 2 ^ (8 * m))]) := by
        show _ = _
        rw [show 8 - m = (8 - (m + 1)) + 1 by omega, tl8_succ, HX.out, List.append_assoc]
      have HLT : Hid ((l ++ tl8 n (8 - (m + 1))).length ≤ 100000008) := by
        show _ ≤ _
        have := HL.out
        rw [List.length_append, tl8, List.length_map, List.length_range]
        omega
      clear e1 HX
      go_wp2_with (at_builtin; refine wpList_appendB rfl (.tmp 10) (.tmp 16) rfl base _ (l ++ tl8 n (8 - (m + 1))) rfl (HI.out.below ((Below.refl _ _).alloc (Nat.le_refl _) _) (Nat.le_refl _)) _ [BitVec.ofNat 8 (n / 2 ^ (8 * m))] rfl (reads_val wr _ _ ?_) (by have := HLT.out; simp only [List.length_singleton]; omega) (by have := HS.out; simp; omega) ?_; (rw [BitVec.toNat_ofNat, Int.natCast_emod, Int.natCast_ediv, Int.natCast_pow]; rfl); intro v2 w2 hown2 hb2 _)
      have hJ : OwnB w2 base v2 (l ++ tl8 n (8 - m)) := by rw [HT.out]; exact hown2
      have hJB : Below base w w2 := HBB.out.trans (((Below.refl _ _).alloc HS.out _).trans hb2)
      have HJ : Hid (OwnB w2 base v2 (l ++ tl8 n (8 - m)) ∧ Below base w w2) := ⟨hJ, hJB⟩
      clear hown2 hb2 HI hJ hJB hx HT
      go_wp2
      go_roundw
      case rel => exact ⟨m, by omega, rfl, HJ.out.1, HJ.out.2⟩
      case measure => simp [intOf]
theorem or_byte (a y : Nat) (ha : a < 18446744073709551616) (hy : y < 256) (hd : a % 256 = 0) : bits .or .u64 (a : Int) (y : Int) = ((a + y : Nat) : Int) := by
  have e : (BitVec.ofInt 64 (a : Int) ||| BitVec.ofInt 64 (y : Int)).toNat = a + y := by
    rw [BitVec.ofInt_natCast, BitVec.ofInt_natCast, BitVec.toNat_or, BitVec.toNat_ofNat, BitVec.toNat_ofNat, Nat.mod_eq_of_lt (by omega : a < 2 ^ 64), Nat.mod_eq_of_lt (by omega : y < 2 ^ 64)]
    obtain ⟨q, rfl⟩ : ∃ q, a = q * 2 ^ 8 := ⟨a / 256, by omega⟩
    rw [← Nat.shiftLeft_eq, Nat.shiftLeft_add_eq_or_of_lt (by omega : y < 2 ^ 8)]
  show IntKind.u64.wrap ((BitVec.ofInt 64 (a : Int) ||| BitVec.ofInt 64 (y : Int)).toNat : Int) = _
  rw [e, IntKind.wrap_u64]
  omega
set_option maxRecDepth 100000 in
set_option maxHeartbeats 8000000 in
theorem jRdNum_any (bb off n c : Nat) (l : Bs) (hl : 8 ≤ l.length) (w : World) (hr : Reads w (.slice (some ⟨bb, off, none⟩) n c) l) : Calls Tryz.prog 133 #[.slice (some ⟨bb, off, none⟩) n c] w fun e w' => e = .returned (.int .u64 (rdNum (l.take 8) : Int)) ∧ w' = w := by
  have hn : n = l.length := by obtain ⟨_, cp, hv, _⟩ := hr; simp only [Value.slice.injEq] at hv; exact hv.2.1
  have hc : n ≤ c := by obtain ⟨_, cp, hv, hc, _⟩ := hr; simp only [Value.slice.injEq] at hv; rw [hv.2.2, hn]; exact hc
  obtain ⟨p, HP⟩ : ∃ p, Hid (p = l.take 8) := ⟨_, rfl⟩
  have HL : Hid (p.length = 8) := by show _ = _; rw [HP.out, List.length_take]; omega
  have HR : Hid (Reads w (.slice (some ⟨bb, off, none⟩) 8 c) p) := by
    have h := hr.cutJ 0 8 c (by omega) (by omega)
    rw [Nat.add_zero, List.drop_zero] at h
    rw [HP.out]; exact h
  have HCT : Hid (8 ≤ n ∧ n ≤ c) := ⟨by omega, hc⟩
  rw [← HP.out]
  clear hl hr hn hc HP
  go_enter Tryz.func133, Tryz.ntmps133
  have tk0 : Hid True := trivial
  go_wp2_with (first
    | (clear tk0; refine wpSeq_val (.slice (some ⟨bb, off, none⟩) 8 c) _ (by rfl) (cutTo bb off n c 8 HCT.out.1 HCT.out.2 _ _ (.tmp 6) (.const (.int .i64 8)) rfl rfl rfl _) ?_))
  go_loopw [3, 9] (fun a i wr => ∃ k : Nat, k ≤ 8 ∧ i = .int .i64 (k : Int) ∧ a = .int .u64 (rdNum (p.take k) : Int) ∧ wr = w) (fun _ i _ => 8 - (intOf i).toNat)
  case atStart => exact ⟨0, by omega, rfl, rfl, rfl⟩
  case round =>
    obtain ⟨k, hk, rfl, rfl, rfl⟩ := hrel
    by_cases hlt : k < 8
    case neg =>
      have hlk : ¬ ((k : Int) < 8) := by omega
      obtain rfl : k = 8 := by omega
      have HE : Hid (p.take 8 = p) := List.take_of_length_le (by rw [HL.out]; exact Nat.le_refl _)
      rw [HE.out]
      go_wp2
      go_ret
      exact ⟨rfl, rfl⟩
    case pos =>
      have hlk : (k : Int) < 8 := by omega
      have k0 : (0 : Int) ≤ (k : Int) := by omega
      have f5 : IntKind.i64.wrap ((k : Int) + 1) = (k : Int) + 1 := by rw [IntKind.wrap_i64]; omega
      have hst := rdNum_step HL.out hlt
      have hnx := rdNum_take (l := p) (k := k) (by rw [HL.out]; exact hlt)
      have ck : wr.cell? ⟨bb, off + k, none⟩ = some (.int .u8 ((p.getD k 0).toNat : Int)) := HR.out.cellsAt k (by rw [HL.out]; exact hlt)
      obtain ⟨a, HA⟩ : ∃ a : Nat, Hid (a = rdNum (p.take k)) := ⟨_, rfl⟩
      obtain ⟨y, HY⟩ : ∃ y : Nat, Hid (y = (p.getD k 0).toNat) := ⟨_, rfl⟩
      obtain ⟨a2, HA2⟩ : ∃ a : Nat, Hid (a = rdNum (p.take k) * 256) := ⟨_, rfl⟩
      rw [← HA.out] at hst hnx HA2 ⊢
      rw [← HY.out] at hst hnx ck
      have hy : y < 256 := by rw [HY.out]; exact (p.getD k 0).isLt
      have f6 : IntKind.u64.wrap ((a : Int) * 256) = (a2 : Int) := by rw [IntKind.wrap_u64]; have := HA2.out; omega
      have f7 : bits .or .u64 (a2 : Int) (y : Int) = ((rdNum (p.take (k + 1)) : Nat) : Int) := by rw [hnx, or_byte a2 y (by have := HA2.out; omega) hy (by have := HA2.out; omega), HA2.out]
      clear hst hnx
      go_wp2
      go_roundw
      case rel => exact ⟨k + 1, by omega, by simp, by trivial, trivial⟩
      case measure => simp [intOf]; omega
set_option maxRecDepth 100000 in
set_option maxHeartbeats 8000000 in
theorem jSectors_any (n : Nat) (hn : n < 1000000000000) (w : World) : Calls Tryz.prog 103 #[.int .i64 (n : Int)] w fun e w' => e = .returned (.int .i64 (((n + 63) / 64 : Nat) : Int)) ∧ w' = w := by
  obtain ⟨m, HM⟩ : ∃ m, Hid (m = n + 63) := ⟨_, rfl⟩
  obtain ⟨q, HQ⟩ : ∃ q, Hid (q = m / 64) := ⟨_, rfl⟩
  have hm := HM.out
  have hq := HQ.out
  have f1 : IntKind.i64.wrap ((n : Int) + 64) = (n : Int) + 64 := by rw [IntKind.wrap_i64]; omega
  have f2 : IntKind.i64.wrap ((n : Int) + 64 - 1) = (m : Int) := by rw [IntKind.wrap_i64]; omega
  have f4 : IntKind.i64.wrap ((n : Int) + 63) = (m : Int) := by rw [IntKind.wrap_i64]; omega
  have f3 : wrap64 ((m : Int) / 64) = (q : Int) := qJ hq (by omega)
  rw [← hm, ← hq]
  clear hm hq hn
  go_enter Tryz.func103, Tryz.ntmps103
  go_wp2
  go_ret
  refine ⟨?_, rfl⟩
  show Ending.returned (.int .i64 (wrap64 ((m : Int) / 64))) = _
  rw [f3]
set_option maxRecDepth 100000 in
set_option maxHeartbeats 8000000 in
theorem jRecSec_any (v : Value) (x : Bs) (hx : x.length < 100000000000) (w : World) (hr : Reads w v x) : Calls Tryz.prog 116 #[v] w fun e w' => e = .returned (.int .i64 (secR x.length : Int)) ∧ w' = w := by
  obtain ⟨ad, cp, hv, _⟩ := hr
  obtain ⟨n, HN⟩ : ∃ n, Hid (n = x.length) := ⟨_, rfl⟩
  obtain ⟨m, HM⟩ : ∃ m, Hid (m = 57 + n) := ⟨_, rfl⟩
  rw [← HN.out] at hv hx ⊢
  subst hv
  have hm := HM.out
  have f1 : IntKind.i64.wrap (57 + (n : Int)) = (m : Int) := by rw [IntKind.wrap_i64]; omega
  have HS : Hid (∀ W, Calls Tryz.prog 103 #[.int .i64 (m : Int)] W fun e w' => e = .returned (.int .i64 (secR n : Int)) ∧ w' = W) := fun W => by
    have h := jSectors_any m (by omega) W
    have e : (m + 63) / 64 = secR n := by unfold secR; omega
    rw [e] at h
    exact h
  clear hm hx
  go_enter Tryz.func116, Tryz.ntmps116
  go_wp2_with (go_at_call 103; refine (HS.out _).mono ?_; rintro e0 y1 ⟨rfl, rfl⟩)
  go_ret
  exact ⟨rfl, rfl⟩
set_option maxRecDepth 100000 in
set_option maxHeartbeats 8000000 in
theorem jPadded_own (base : Nat) (v : Value) (l : Bs) (w : World) (hown : OwnB w base v l) (hne : l ≠ []) (hb : base ≤ w.heap.size) (hl : l.length ≤ 10000000) :
    Calls Tryz.prog 127 #[v] w fun e w' => ∃ v', e = .returned v' ∧ OwnB w' base v' (padB l) ∧ Below base w w' := by
  have HO : Hid (OwnB w base v l) := hown
  have HNE : Hid (l ≠ []) := hne
  have HB : Hid (base ≤ w.heap.size) := hb
  obtain ⟨ad, c, hv⟩ : ∃ a c, v = .slice a l.length c := by
    rcases hown with ⟨_, ⟨rfl, h2⟩ | ⟨g', cap, cur, rfl, _⟩⟩
    · exact ⟨none, 0, by rw [h2]⟩
    · exact ⟨_, _, rfl⟩
  obtain ⟨n, HN⟩ : ∃ n, Hid (n = l.length) := ⟨_, rfl⟩
  obtain ⟨q, HQ⟩ : ∃ q, Hid (q = (n + 63) / 64) := ⟨_, rfl⟩
  obtain ⟨N, HNN⟩ : ∃ N, Hid (N = q * 64) := ⟨_, rfl⟩
  obtain ⟨k, HK⟩ : ∃ k, Hid (k = N - n) := ⟨_, rfl⟩
  rw [← HN.out] at hv hl
  subst hv
  have hq := HQ.out
  have hN := HNN.out
  have hk := HK.out
  have f1 : IntKind.i64.wrap ((q : Int) * 64) = (N : Int) := mJ hN (by omega)
  have f2 : IntKind.i64.wrap ((N : Int) - (n : Int)) = (k : Int) := by rw [IntKind.wrap_i64]; omega
  have HLK : Hid (l.length + k ≤ 100000000) := by show _ ≤ _; rw [← HN.out]; omega
  have HSC : Hid (∀ W, Calls Tryz.prog 103 #[.int .i64 (n : Int)] W fun e w' => e = .returned (.int .i64 (q : Int)) ∧ w' = W) := fun W => by
    have h := jSectors_any n (by omega) W
    rw [← hq] at h
    exact h
  have HPD : Hid (l ++ List.replicate k 0 = padB l) := by show _ = _; rw [padB, ← HN.out, hk, hN, hq]
  clear hq hN hk hown hne hb hl
  go_enter Tryz.func127, Tryz.ntmps127
  have tk0 : Hid True := trivial
  have tk1 : Hid True := trivial
  go_wp2_with (first
    | (clear tk0; go_at_call 103; refine (HSC.out _).mono ?_; rintro e0 y1 ⟨rfl, hw1⟩; subst hw1)
    | (clear tk1; at_builtin; refine wpSeq_noughts (.tmp 3) (.tmp 10) base _ l k HO.out HNE.out HLK.out HB.out rfl rfl rfl rfl ?_; intro v2 w2 hown2 hg2 hb2))
  go_ret
  exact ⟨_, rfl, by rw [← HPD.out]; exact hown2, hb2⟩
theorem wpSeq_buildYO {ops : Array Oper} {Q : Exit → Act → World → Prop} {rest : List Oper} {o : Oper} {a : Act} {w : World} (b : BitVec 8) (x : Operand) (hx : a.eval x = .int .u8 (b.toNat : Int)) (ho : o.op = .buildSlice 23 1 #[(0, x)]) (hw : Region.wanted o (yielded ops a.tmps) = true)
    (h : ∀ g w', NewR (cb [b]) 5 w g w' → wpList Tryz.prog ops Q rest (a.put o.dst (.slice (some ⟨g, 0, none⟩) 1 1)) w') : wpList Tryz.prog ops Q (o :: rest) a w :=
  wpSeq_val _ _ hw (build_yJ b _ o x hx ho w) (h _ _ (NewR.of _ _ w))
theorem blk_own1 {w : World} {base g : Nat} {b : BitVec 8} (h : Blk w g (cb [b]) 5) (hb : base ≤ g) : OwnB w base (.slice (some ⟨g, 0, none⟩) 1 1) [b] := by
  have h2 := own_of_blkJ (k := 1) (c := 1) h hb rfl (Nat.le_refl _) (by decide)
  exact h2
set_option maxRecDepth 100000 in
set_option maxHeartbeats 8000000 in
theorem jHead_own (gen : Nat) (hg : gen < 18446744073709551616) (w : World) (hK : KOk w) : Calls Tryz.prog 118 #[.int .u64 (gen : Int)] w fun e w' => ∃ v', e = .returned v' ∧ OwnB w' w.heap.size v' (headB gen) ∧ Below w.heap.size w w' := by
  have HK : Hid (KOk w) := hK
  have HBW : Hid (Below w.heap.size w w) := Below.refl _ _
  obtain ⟨hd, HHD⟩ : ∃ x, Hid (x = hd9 gen) := ⟨_, rfl⟩
  obtain ⟨dg, HDG⟩ : ∃ x, Hid (x = dig hd) := ⟨_, rfl⟩
  have HD9 : Hid (hd.length = 9) := by rw [HHD.out]; exact len_hd9 gen
  have HDL : Hid (dg.length = 32) := by rw [HDG.out]; exact len_dig' _
  have HNU : Hid (∀ (W : World) (v : Value), OwnB W w.heap.size v [72] → w.heap.size ≤ W.heap.size → Calls Tryz.prog 126 #[v, .int .u64 (gen : Int)] W fun e w' => ∃ v', e = .returned v' ∧ OwnB w' w.heap.size v' hd ∧ Below w.heap.size W w') := fun W v h1 h2 => by rw [HHD.out]; exact jNumber_own _ v [72] gen hg W h1 h2 (by decide)
  have HOF : Hid (∀ (W : World) (v : Value), KOk W → Reads W v hd → Calls Tryz.prog 125 #[v] W fun e w' => e = .returned (.agg (cb dg).toArray) ∧ Below W.heap.size W w') := fun W v hk hr => by rw [HDG.out]; exact tOf_any v hd W hk hr (by rw [HD9.out]; omega)
  have HPD : Hid (padB (hd ++ dg) = headB gen ∧ hd ++ dg ≠ [] ∧ (hd ++ dg).length ≤ 10000000) := ⟨by rw [HDG.out, HHD.out]; rfl, fun e => by have h1 := congrArg List.length e; rw [List.length_append, HD9.out] at h1; simp at h1, by rw [List.length_append, HD9.out, HDL.out]; decide⟩
  clear hg hK
  go_enter Tryz.func118, Tryz.ntmps118
  have tk0 : Hid True := trivial
  have tk1 : Hid True := trivial
  have tk2 : Hid True := trivial
  have tk3 : Hid True := trivial
  have tk4 : Hid True := trivial
  go_wp2_with (first
    | (clear tk0; with_reducible refine wpSeq_buildYO 72 (.const (.int .u8 72)) ?_ ?_ ?_ ?_
       · rfl
       · rfl
       · rfl
       intro gy y1 nn
       have HO : Hid (OwnB y1 w.heap.size (.slice (some ⟨gy, 0, none⟩) 1 1) [72]) := blk_own1 nn.blk nn.ge
       replace HBW : Hid (Below w.heap.size w y1) := nn.below
       clear nn)
    | (clear tk1; go_at_call 126; refine (HNU.out _ _ HO.out HBW.out.size).mono ?_; rintro e0 y2 ⟨v2, rfl, ho, hz⟩
       replace HBW : Hid (Below w.heap.size w y2) := HBW.out.trans hz
       replace HO : Hid (OwnB y2 w.heap.size v2 hd) := ho
       clear ho hz)
    | (clear tk2; go_at_call 125; refine (HOF.out _ _ (HK.out.below HBW.out HK.out.lt) HO.out.reads).mono ?_; rintro e0 y3 ⟨rfl, hz⟩
       replace HO : Hid (OwnB y3 w.heap.size v2 hd) := HO.out.below hz (Nat.le_refl _)
       replace HBW : Hid (Below w.heap.size w y3) := HBW.out.trans (hz.mono HBW.out.size)
       clear hz)
    | (clear tk3; go_at_call 123; refine (cdigest_any w.heap.size v2 hd dg HDL.out _ HO.out HBW.out.size (by rw [HD9.out]; decide)).mono ?_; rintro e0 y4 ⟨v4, rfl, ho, hz⟩
       replace HBW : Hid (Below w.heap.size w y4) := HBW.out.trans hz
       have HO4 : Hid (OwnB y4 w.heap.size v4 (hd ++ dg)) := ho
       clear ho hz HO)
    | (clear tk4; go_at_call 127; refine (jPadded_own w.heap.size v4 _ _ HO4.out HPD.out.2.1 HBW.out.size HPD.out.2.2).mono ?_; rintro e0 y5 ⟨v5, rfl, ho, hz⟩
       replace HBW : Hid (Below w.heap.size w y5) := HBW.out.trans hz
       have HO5 : Hid (OwnB y5 w.heap.size v5 (headB gen)) := by rw [← HPD.out.1]; exact ho
       clear ho hz HO4))
  go_ret
  exact ⟨_, rfl, HO5.out, HBW.out⟩
set_option maxRecDepth 100000 in
set_option maxHeartbeats 8000000 in
theorem jText_own (gen seq : Nat) (hg : gen < 18446744073709551616) (hq : seq < 18446744073709551616) (v : Value) (b : Bs) (hb : b.length < 9000000) (w : World) (hr : Reads w v b) : Calls Tryz.prog 124 #[.int .u64 (gen : Int), .int .u64 (seq : Int), v] w fun e w' => ∃ v', e = .returned v' ∧ OwnB w' w.heap.size v' (textB gen seq b) ∧ Below w.heap.size w w' := by
  obtain ⟨ab, nb, cbb, rfl⟩ := hr.form
  have HB : Hid (Reads w (.slice ab nb cbb) b) := hr
  have HBW : Hid (Below w.heap.size w w) := Below.refl _ _
  have HG : Hid (gen < 18446744073709551616) := hg
  have HQ : Hid (seq < 18446744073709551616) := hq
  have HL : Hid (b.length < 9000000) := hb
  have HTX : Hid (([74] ++ num8 gen ++ num8 seq) ++ b = textB gen seq b ∧ ([74] ++ num8 gen ++ num8 seq).length = 17 ∧ ([74] ++ num8 gen).length = 9) := ⟨by simp [textB], by simp [len_num8], by simp [len_num8]⟩
  clear hr hg hq hb
  go_enter Tryz.func124, Tryz.ntmps124
  have tk0 : Hid True := trivial
  have tk1 : Hid True := trivial
  have tk2 : Hid True := trivial
  have tk3 : Hid True := trivial
  go_wp2_with (first
    | (clear tk0; with_reducible refine wpSeq_buildYO 74 (.const (.int .u8 74)) ?_ ?_ ?_ ?_
       · rfl
       · rfl
       · rfl
       intro gy y1 nn
       have HO : Hid (OwnB y1 w.heap.size (.slice (some ⟨gy, 0, none⟩) 1 1) [74]) := blk_own1 nn.blk nn.ge
       replace HBW : Hid (Below w.heap.size w y1) := nn.below
       clear nn)
    | (clear tk1; go_at_call 126; refine (jNumber_own _ _ [74] gen HG.out _ HO.out HBW.out.size (by decide)).mono ?_; rintro e0 y2 ⟨v2, rfl, ho, hz⟩
       replace HBW : Hid (Below w.heap.size w y2) := HBW.out.trans hz
       replace HO : Hid (OwnB y2 w.heap.size v2 ([74] ++ num8 gen)) := ho
       clear ho hz)
    | (clear tk2; go_at_call 126; refine (jNumber_own _ _ ([74] ++ num8 gen) seq HQ.out _ HO.out HBW.out.size (by rw [HTX.out.2.2]; decide)).mono ?_; rintro e0 y3 ⟨v3, rfl, ho, hz⟩
       replace HBW : Hid (Below w.heap.size w y3) := HBW.out.trans hz
       replace HO : Hid (OwnB y3 w.heap.size v3 ([74] ++ num8 gen ++ num8 seq)) := ho
       clear ho hz)
    | (clear tk3; at_builtin; refine wpList_appendB rfl (.tmp 11) (.tmp 12) rfl w.heap.size _ ([74] ++ num8 gen ++ num8 seq) rfl HO.out _ b rfl (HB.out.below HBW.out) (by rw [HTX.out.2.1]; have := HL.out; omega) HBW.out.size ?_; intro v4 y4 ho hz _
       replace HBW : Hid (Below w.heap.size w y4) := HBW.out.trans hz
       have HO4 : Hid (OwnB y4 w.heap.size v4 (textB gen seq b)) := by rw [← HTX.out.1]; exact ho
       clear ho hz HO))
  go_ret
  exact ⟨_, rfl, HO4.out, HBW.out⟩
theorem raw_parts (gen seq : Nat) (b : Bs) : (((textB gen seq [] ++ dig (textB gen seq b)) ++ num8 b.length) ++ b) = rawB gen seq b := by simp [textB, rawB]
theorem len_textB (gen seq : Nat) (b : Bs) : (textB gen seq b).length = 17 + b.length := by simp [textB, len_num8]; omega
set_option maxRecDepth 100000 in
set_option maxHeartbeats 8000000 in
theorem jRecord_own (gen seq : Nat) (hg : gen < 18446744073709551616) (hq : seq < 18446744073709551616) (v : Value) (b : Bs) (hb : b.length < 8000000) (w : World) (hK : KOk w) (hr : Reads w v b) : Calls Tryz.prog 101 #[.int .u64 (gen : Int), .int .u64 (seq : Int), v] w fun e w' => ∃ v', e = .returned v' ∧ OwnB w' w.heap.size v' (recB gen seq b) ∧ Below w.heap.size w w' := by
  obtain ⟨m, HM⟩ : ∃ m, Hid (m = b.length) := ⟨_, rfl⟩
  obtain ⟨ab, cbb, hv⟩ : ∃ a c, v = .slice a m c := by obtain ⟨ad, cp, hv, _⟩ := hr; exact ⟨ad, cp, by rw [HM.out]; exact hv⟩
  subst hv
  have HB : Hid (Reads w (.slice ab m cbb) b) := hr
  have HBW : Hid (Below w.heap.size w w) := Below.refl _ _
  have HK : Hid (KOk w) := hK
  have HG : Hid (gen < 18446744073709551616) := hg
  have HQ : Hid (seq < 18446744073709551616) := hq
  have HL : Hid (b.length < 8000000 ∧ m < 8000000) := ⟨hb, by rw [HM.out]; exact hb⟩
  have f1 : IntKind.u64.wrap (m : Int) = (m : Int) := uJ (by have := HL.out.2; omega)
  obtain ⟨t0, HT0⟩ : ∃ x, Hid (x = textB gen seq []) := ⟨_, rfl⟩
  obtain ⟨t1, HT1⟩ : ∃ x, Hid (x = textB gen seq b) := ⟨_, rfl⟩
  obtain ⟨dg, HDG⟩ : ∃ x, Hid (x = dig t1) := ⟨_, rfl⟩
  have HDL : Hid (dg.length = 32 ∧ t0.length = 17 ∧ t1.length < 9000000) := ⟨by rw [HDG.out]; exact len_dig' _, by rw [HT0.out, len_textB]; rfl, by rw [HT1.out, len_textB]; have := HL.out.1; omega⟩
  have HNIL : Hid (∀ W, Reads W (.slice none 0 0) []) := fun W => ⟨none, 0, rfl, Nat.le_refl _, fun _ => rfl, fun h => by simp at h⟩
  have HX0 : Hid (∀ W : World, Calls Tryz.prog 124 #[.int .u64 (gen : Int), .int .u64 (seq : Int), .slice none 0 0] W fun e w' => ∃ v', e = .returned v' ∧ OwnB w' W.heap.size v' t0 ∧ Below W.heap.size W w') := fun W => by rw [HT0.out]; exact jText_own gen seq HG.out HQ.out _ [] (by decide) W (HNIL.out W)
  have HX1 : Hid (∀ W : World, Reads W (.slice ab m cbb) b → Calls Tryz.prog 124 #[.int .u64 (gen : Int), .int .u64 (seq : Int), .slice ab m cbb] W fun e w' => ∃ v', e = .returned v' ∧ OwnB w' W.heap.size v' t1 ∧ Below W.heap.size W w') := fun W h => by rw [HT1.out]; exact jText_own gen seq HG.out HQ.out _ b (by have := HL.out.1; omega) W h
  have HOF : Hid (∀ (W : World) (v : Value), KOk W → Reads W v t1 → Calls Tryz.prog 125 #[v] W fun e w' => e = .returned (.agg (cb dg).toArray) ∧ Below W.heap.size W w') := fun W v hk hr => by rw [HDG.out]; exact tOf_any v t1 W hk hr (by have := HDL.out.2.2; omega)
  have HPD : Hid (padB (((t0 ++ dg) ++ num8 m) ++ b) = recB gen seq b ∧ ((t0 ++ dg) ++ num8 m) ++ b ≠ [] ∧ (((t0 ++ dg) ++ num8 m) ++ b).length ≤ 10000000 ∧ ((t0 ++ dg) ++ num8 m).length = 57 ∧ (t0 ++ dg).length = 49) := by
    have hl : (((t0 ++ dg) ++ num8 m)).length = 57 := by rw [List.length_append, List.length_append, HDL.out.1, HDL.out.2.1, len_num8]
    refine ⟨by rw [HDG.out, HT0.out, HT1.out, HM.out, raw_parts]; rfl, fun e => ?_, ?_, hl, by rw [List.length_append, HDL.out.1, HDL.out.2.1]⟩
    · have h1 := congrArg List.length e; rw [List.length_append, hl] at h1; simp at h1
    · rw [List.length_append, hl]; have := HL.out.1; omega
  clear hg hK hq hb hr
  go_enter Tryz.func101, Tryz.ntmps101
  have tk0 : Hid True := trivial
  have tk1 : Hid True := trivial
  have tk2 : Hid True := trivial
  have tk3 : Hid True := trivial
  have tk4 : Hid True := trivial
  have tk5 : Hid True := trivial
  have tk6 : Hid True := trivial
  go_wp2_with (first
    | (clear tk0; go_at_call 124; refine (HX0.out _).mono ?_; rintro e0 y1 ⟨v1, rfl, ho, hz⟩
       have HO : Hid (OwnB y1 w.heap.size v1 t0) := ho
       replace HBW : Hid (Below w.heap.size w y1) := hz
       clear ho hz)
    | (clear tk1; go_at_call 124; refine (HX1.out _ (HB.out.below HBW.out)).mono ?_; rintro e0 y2 ⟨v2, rfl, ho, hz⟩
       replace HO : Hid (OwnB y2 w.heap.size v1 t0) := HO.out.below hz (Nat.le_refl _)
       have HRT : Hid (Reads y2 v2 t1) := ho.reads
       replace HBW : Hid (Below w.heap.size w y2) := HBW.out.trans (hz.mono HBW.out.size)
       clear ho hz)
    | (clear tk2; go_at_call 125; refine (HOF.out _ _ (HK.out.below HBW.out HK.out.lt) HRT.out).mono ?_; rintro e0 y3 ⟨rfl, hz⟩
       replace HO : Hid (OwnB y3 w.heap.size v1 t0) := HO.out.below hz (Nat.le_refl _)
       replace HBW : Hid (Below w.heap.size w y3) := HBW.out.trans (hz.mono HBW.out.size)
       clear hz HRT)
    | (clear tk3; go_at_call 123; refine (cdigest_any w.heap.size v1 t0 dg HDL.out.1 _ HO.out HBW.out.size (by rw [HDL.out.2.1]; decide)).mono ?_; rintro e0 y4 ⟨v4, rfl, ho, hz⟩
       replace HBW : Hid (Below w.heap.size w y4) := HBW.out.trans hz
       have HO4 : Hid (OwnB y4 w.heap.size v4 (t0 ++ dg)) := ho
       clear ho hz HO)
    | (clear tk4; go_at_call 126; refine (jNumber_own _ _ (t0 ++ dg) m (by have := HL.out.2; omega) _ HO4.out HBW.out.size (by rw [HPD.out.2.2.2.2]; decide)).mono ?_; rintro e0 y5 ⟨v5, rfl, ho, hz⟩
       replace HBW : Hid (Below w.heap.size w y5) := HBW.out.trans hz
       have HO5 : Hid (OwnB y5 w.heap.size v5 ((t0 ++ dg) ++ num8 m)) := ho
       clear ho hz HO4)
    | (clear tk5; at_builtin; refine wpList_appendB rfl (.tmp 22) (.tmp 23) rfl w.heap.size _ ((t0 ++ dg) ++ num8 m) rfl HO5.out _ b rfl (HB.out.below HBW.out) (by rw [HPD.out.2.2.2.1]; have := HL.out.1; omega) HBW.out.size ?_; intro v6 y6 ho hz _
       replace HBW : Hid (Below w.heap.size w y6) := HBW.out.trans hz
       have HO6 : Hid (OwnB y6 w.heap.size v6 (((t0 ++ dg) ++ num8 m) ++ b)) := ho
       clear ho hz HO5)
    | (clear tk6; go_at_call 127; refine (jPadded_own w.heap.size v6 _ _ HO6.out HPD.out.2.1 HBW.out.size HPD.out.2.2.1).mono ?_; rintro e0 y7 ⟨v7, rfl, ho, hz⟩
       replace HBW : Hid (Below w.heap.size w y7) := HBW.out.trans hz
       have HO7 : Hid (OwnB y7 w.heap.size v7 (recB gen seq b)) := by rw [← HPD.out.1]; exact ho
       clear ho hz HO6))
  go_ret
  exact ⟨_, rfl, HO7.out, HBW.out⟩
set_option maxRecDepth 100000 in
set_option maxHeartbeats 8000000 in
theorem jCheck_any (v : Value) (x : Bs) (w : World) (hr : Reads w v x) : Calls Tryz.prog 100 #[v] w fun e w' => e = .returned (.int .i64 (chkX x)) ∧ w' = w := by
  obtain ⟨ad, cp, hv, _⟩ := hr
  obtain ⟨n, HN⟩ : ∃ n, Hid (n = x.length) := ⟨_, rfl⟩
  obtain ⟨r, HRR⟩ : ∃ r, Hid (r = chkX x) := ⟨_, rfl⟩
  rw [← HRR.out]
  have hx : r = if n = 0 ∨ 1048576 < n then 1 else 0 := by rw [HRR.out, chkX, ← HN.out]
  rw [← HN.out] at hv
  subst hv
  by_cases h0 : n = 0
  · subst h0
    rw [if_pos (Or.inl rfl)] at hx
    subst hx
    go_enter Tryz.func100, Tryz.ntmps100
    go_wp2
    go_ret
    exact ⟨rfl, rfl⟩
  · have q0 : ((n : Int) == 0) = false := by rw [beq_eq_false_iff_ne]; omega
    by_cases h1 : 1048576 < n
    · rw [if_pos (Or.inr h1)] at hx
      subst hx
      have q1 : (1048576 : Int) < (n : Int) := by omega
      go_enter Tryz.func100, Tryz.ntmps100
      go_wp2
      go_ret
      exact ⟨rfl, rfl⟩
    · rw [if_neg (by omega)] at hx
      subst hx
      have q1 : ¬ ((1048576 : Int) < (n : Int)) := by omega
      go_enter Tryz.func100, Tryz.ntmps100
      go_wp2
      go_ret
      exact ⟨rfl, rfl⟩
set_option maxRecDepth 100000 in
set_option maxHeartbeats 8000000 in
theorem bPrefix_any (va vb : Value) (a p : Bs) (w : World) (hp0 : 0 < a.length) (ha : Reads w va a) (hb : Reads w vb p) : Calls Tryz.prog 134 #[va, vb] w fun e w' => e = .returned (.bool (decide (a.take p.length = p))) ∧ Below w.heap.size w w' := by
  obtain ⟨aa, ca, hva, hca, hna, hpa⟩ := id ha
  obtain ⟨ab, cbb, hvb, hcb, hnb, hpb⟩ := id hb
  obtain ⟨n, HN⟩ : ∃ n, Hid (n = a.length) := ⟨_, rfl⟩
  obtain ⟨m, HM⟩ : ∃ m, Hid (m = p.length) := ⟨_, rfl⟩
  obtain ⟨r, HRR⟩ : ∃ r, Hid (r = decide (a.take p.length = p)) := ⟨_, rfl⟩
  rw [← HRR.out]
  rw [← HN.out] at hva
  rw [← HM.out] at hvb
  subst hva hvb
  have HB : Hid (Reads w (.slice ab m cbb) p) := hb
  by_cases hle : m ≤ n
  case neg =>
    have hr : r = false := by
      rw [HRR.out, decide_eq_false_iff_not]
      intro e
      have h1 := congrArg List.length e
      rw [List.length_take] at h1
      have h2 := HN.out
      have h3 := HM.out
      omega
    have g1 : ¬ ((m : Int) ≤ (n : Int)) := by omega
    subst hr
    clear HB ha hb hpa hpb hna hnb hca hcb
    go_enter Tryz.func134, Tryz.ntmps134
    go_wp2
    go_ret
    exact ⟨rfl, Below.refl _ _⟩
  case pos =>
    have g1 : (m : Int) ≤ (n : Int) := by omega
    obtain ⟨bb, off, had, _⟩ := hpa hp0
    subst had
    have hnc : n ≤ ca := by rw [HN.out]; exact hca
    have HCUT : Hid (m ≤ n ∧ n ≤ ca) := ⟨hle, hnc⟩
    have hrv : Reads w (.slice (some ⟨bb, off, none⟩) m ca) (a.take m) := by
      have h := ha.cutJ 0 m ca (by have := HN.out; omega) (by omega)
      rw [Nat.add_zero, List.drop_zero] at h
      exact h
    have HE : Hid (Calls Tryz.prog 153 #[.slice (some ⟨bb, off, none⟩) m ca, .slice ab m cbb] w fun e w' => e = .returned (.bool r) ∧ Below w.heap.size w w') := by
      have h := bEqual_any _ _ (a.take m) p w hrv HB.out
      rw [HM.out] at h
      rw [HRR.out]
      rw [HM.out]
      exact h
    clear hrv hnc ha hb hpa hpb hna hnb hca hcb HB
    go_enter Tryz.func134, Tryz.ntmps134
    have tk0 : Hid True := trivial
    have tk1 : Hid True := trivial
    go_wp2_with (first
      | (clear tk0; refine wpSeq_val (.slice (some ⟨bb, off, none⟩) m ca) _ (by rfl) (cutTo bb off n ca m HCUT.out.1 HCUT.out.2 _ _ (.tmp 11) (.tmp 13) rfl rfl rfl _) ?_)
      | (clear tk1; go_at_call 153; refine HE.out.mono ?_; rintro e0 y1 ⟨rfl, hz⟩))
    go_ret
    exact ⟨rfl, hz⟩
set_option maxRecDepth 100000 in
set_option maxHeartbeats 8000000 in
theorem jBlank_any (v : Value) (b : Bs) (w : World) (hl : b.length < 1000000000) (hr : Reads w v b) : Calls Tryz.prog 115 #[v] w fun e w' => e = .returned (.bool (decide (∀ z ∈ b, z = 0))) ∧ w' = w := by
  obtain ⟨ad, c, hv, _, _, hpos⟩ := id hr
  obtain ⟨n, HN⟩ : ∃ n, Hid (n = b.length) := ⟨_, rfl⟩
  obtain ⟨r, HRR⟩ : ∃ r, Hid (r = decide (∀ z ∈ b, z = 0)) := ⟨_, rfl⟩
  rw [← HRR.out]
  rw [← HN.out] at hv hl
  subst hv
  have HL : Hid (n < 1000000000) := hl
  have HC : Hid (∀ k, k < n → ∃ bb off, ad = some ⟨bb, off, none⟩ ∧ w.cell? ⟨bb, off + k, none⟩ = some (.int .u8 ((b.getD k 0).toNat : Int))) := fun k hk => by
    obtain ⟨bb, off, h1, h2⟩ := hpos (by rw [← HN.out]; omega)
    exact ⟨bb, off, h1, h2 k (by rw [← HN.out]; exact hk)⟩
  clear hr hpos hl
  go_enter Tryz.func115, Tryz.ntmps115
  go_wp2
  go_loopw [7] (fun i wr => ∃ k : Nat, k ≤ n ∧ i = .int .i64 (k : Int) ∧ (∀ j, j < k → b.getD j 0 = 0) ∧ wr = w) (fun i _ => n - (intOf i).toNat)
  case atStart => exact ⟨0, by omega, rfl, fun j hj => absurd hj (by omega), rfl⟩
  case round =>
    obtain ⟨k, hk, rfl, hz, rfl⟩ := hrel
    have HZ : Hid (∀ j, j < k → b.getD j 0 = 0) := hz
    clear hz
    by_cases hlt : k < n
    case neg =>
      have hlk : ¬ ((k : Int) < (n : Int)) := by omega
      have hr : r = true := by
        rw [HRR.out, decide_eq_true_iff]
        intro z hzb
        obtain ⟨j, hj, rfl⟩ := List.getElem_of_mem hzb
        have := HZ.out j (by have := HN.out; omega)
        rw [List.getD_eq_getElem?_getD, List.getElem?_eq_getElem hj] at this
        exact this
      subst hr
      go_wp2
      go_ret
      exact ⟨rfl, rfl⟩
    case pos =>
      have hlk : (k : Int) < (n : Int) := by omega
      have k0 : (0 : Int) ≤ (k : Int) := by omega
      have f5 : IntKind.i64.wrap ((k : Int) + 1) = (k : Int) + 1 := by rw [IntKind.wrap_i64]; have := HL.out; omega
      obtain ⟨bb, off, rfl, ck⟩ := HC.out k hlt
      obtain ⟨y, HY⟩ : ∃ y : Nat, Hid (y = (b.getD k 0).toNat) := ⟨_, rfl⟩
      rw [← HY.out] at ck
      by_cases hy : y = 0
      · subst hy
        have HZK : Hid (b.getD k 0 = 0) := BitVec.eq_of_toNat_eq HY.out.symm
        go_wp2
        go_roundw
        case rel => exact ⟨k + 1, by omega, by simp, fun j hj => by by_cases e : j = k; rw [e]; exact HZK.out; exact HZ.out j (by omega), trivial⟩
        case measure => simp [intOf]; omega
      · have hr : r = false := by
          rw [HRR.out, decide_eq_false_iff_not]
          intro h
          have hj : k < b.length := by have := HN.out; omega
          have := h (b[k]) (List.getElem_mem hj)
          apply hy
          rw [HY.out, List.getD_eq_getElem?_getD, List.getElem?_eq_getElem hj]
          show (b[k]).toNat = 0
          rw [this]; rfl
        subst hr
        have q0 : ((y : Int) == 0) = false := by rw [beq_eq_false_iff_ne]; omega
        go_wp2
        go_ret
        exact ⟨rfl, rfl⟩
set_option maxRecDepth 100000 in
set_option maxHeartbeats 8000000 in
theorem jRoom1_any (n : Nat) (hn : n < 1000000000) (w : World) : Calls Tryz.prog 99 #[.int .i64 (n : Int)] w fun e w' => e = .returned (.int .i64 ((min 1048576 (64 * n - 57) : Nat) : Int)) ∧ w' = w := by
  obtain ⟨m, HM⟩ : ∃ m, Hid (m = min 1048576 (64 * n - 57)) := ⟨_, rfl⟩
  rw [← HM.out]
  have f1 : IntKind.i64.wrap ((n : Int) * 64) = (n : Int) * 64 := by rw [IntKind.wrap_i64]; omega
  have f2 : IntKind.i64.wrap ((n : Int) * 64 - 57) = (n : Int) * 64 - 57 := by rw [IntKind.wrap_i64]; omega
  go_enter Tryz.func99, Tryz.ntmps99
  go_wp2
  all_goals
    go_ret
    refine ⟨?_, rfl⟩
    show Ending.returned (Value.int IntKind.i64 _) = Ending.returned (Value.int IntKind.i64 (m : Int))
    congr 2
    have := HM.out
    omega
end Go.Proofs.YtopmeedmgjdcgaaGreatDoor
/- The walks of journal's begun and first, as they landed (layer 14). -/
namespace Go.Proofs.YtopmeedmgjdcgaaGreatDoor
open Go.RowKit
set_option maxRecDepth 100000
theorem reads_drop {w : World} {b off n c : Nat} {l : Bs} (h : Reads w (.slice (some ⟨b, off, none⟩) n c) l) (k : Nat) (hk : k ≤ l.length) : Reads w (.slice (some ⟨b, off + k, none⟩) (n - k) (c - k)) (l.drop k) := by
  have hn : n = l.length ∧ n ≤ c := by obtain ⟨_, cp, hv, hc, _⟩ := h; simp only [Value.slice.injEq] at hv; exact ⟨hv.2.1, by rw [hv.2.1, hv.2.2]; exact hc⟩
  have h2 := h.cutJ k (n - k) (c - k) (by omega) (by omega)
  rw [List.take_of_length_le (by rw [List.length_drop]; omega)] at h2
  exact h2
theorem reads_nc {w : World} {ad : Option Addr} {n c : Nat} {l : Bs} (h : Reads w (.slice ad n c) l) : n = l.length ∧ n ≤ c := by obtain ⟨_, cp, hv, hc, _⟩ := h; simp only [Value.slice.injEq] at hv; exact ⟨hv.2.1, by rw [hv.2.1, hv.2.2]; exact hc⟩
theorem gen_pre (half : Bs) : genH half = if half.take 64 = headB (rdNum ((half.drop 1).take 8)) then rdNum ((half.drop 1).take 8) else 0 := by
  unfold genH
  by_cases h : half.take 64 = headB (rdNum ((half.drop 1).take 8))
  · rw [if_pos h]
    by_cases h0 : rdNum ((half.drop 1).take 8) = 0
    · rw [if_pos (Or.inl h0), h0]
    · rw [if_neg (fun e => e.elim h0 (fun e2 => e2 h))]
  · rw [if_neg h, if_pos (Or.inr h)]
set_option maxRecDepth 100000 in
set_option maxHeartbeats 8000000 in
theorem jBegun_any (bb off n c : Nat) (half : Bs) (hl : 64 ≤ half.length) (w : World) (hK : KOk w) (hr : Reads w (.slice (some ⟨bb, off, none⟩) n c) half) : Calls Tryz.prog 113 #[.slice (some ⟨bb, off, none⟩) n c] w fun e w' => e = .returned (.int .u64 (genH half : Int)) ∧ Below w.heap.size w w' := by
  obtain ⟨hn, hc⟩ := reads_nc hr
  obtain ⟨g, HG⟩ : ∃ g, Hid (g = rdNum ((half.drop 1).take 8)) := ⟨_, rfl⟩
  obtain ⟨r, HR⟩ : ∃ r, Hid (r = genH half) := ⟨_, rfl⟩
  obtain ⟨ok, HOK⟩ : ∃ o, Hid (o = decide (half.take 64 = headB g)) := ⟨_, rfl⟩
  have HGL : Hid (g < 18446744073709551616) := by show _ < _; rw [HG.out]; exact rdNum_8 (by rw [List.length_take, List.length_drop]; omega)
  have HRR : Hid (r = if ok = true then g else 0) := by
    show _ = _
    rw [HR.out, gen_pre, ← HG.out, HOK.out]
    by_cases h : half.take 64 = headB g
    · rw [if_pos h, if_pos (by simp [h])]
    · rw [if_neg h, if_neg (by simp [h])]
  have HCT : Hid (1 < n ∧ n ≤ c) := ⟨by omega, hc⟩
  have HN : Hid (∀ W, W = w → Calls Tryz.prog 133 #[.slice (some ⟨bb, off + 1, none⟩) (n - 1) (c - 1)] W fun e w' => e = .returned (.int .u64 (g : Int)) ∧ w' = W) := fun W hW => by
    subst hW
    rw [HG.out]
    exact jRdNum_any _ _ _ _ (half.drop 1) (by rw [List.length_drop]; omega) W (reads_drop hr 1 (by omega))
  have HRD : Hid (Reads w (.slice (some ⟨bb, off, none⟩) n c) half) := hr
  have HPF : Hid (∀ W v, Reads W (.slice (some ⟨bb, off, none⟩) n c) half → Reads W v (headB g) → Calls Tryz.prog 134 #[.slice (some ⟨bb, off, none⟩) n c, v] W fun e w' => e = .returned (.bool ok) ∧ Below W.heap.size W w') := fun W v h1 h2 => by
    have h3 := bPrefix_any _ v half (headB g) W (by omega) h1 h2
    rw [len_headB, ← HOK.out] at h3
    exact h3
  have HK : Hid (KOk w) := hK
  rw [← HR.out]
  clear hn hc hl hr hK
  go_enter Tryz.func113, Tryz.ntmps113
  have tk0 : Hid True := trivial
  have tk1 : Hid True := trivial
  have tk2 : Hid True := trivial
  have tk3 : Hid True := trivial
  cases ok
  all_goals
    have hrr := HRR.out
    first | rw [if_pos rfl] at hrr | rw [if_neg Bool.false_ne_true] at hrr
    rw [hrr]
    clear hrr
    go_wp2_with (first
      | (clear tk0; refine wpSeq_val (.slice (some ⟨bb, off + 1, none⟩) (n - 1) (c - 1)) _ (by rfl) (cutFrom bb off n c 1 HCT.out.1 HCT.out.2 _ _ (.tmp 4) (.const (.int .i64 1)) rfl rfl rfl _) ?_)
      | (clear tk1; go_at_call 133; refine (HN.out _ rfl).mono ?_; rintro e0 y1 ⟨rfl, hy1⟩; subst hy1)
      | (clear tk2; go_at_call 118; refine (jHead_own g HGL.out _ HK.out).mono ?_; rintro e0 y2 ⟨v2, rfl, ho, hz⟩
         have HO : Hid (Reads y2 v2 (headB g)) := ho.reads
         have HBW : Hid (Below y1.heap.size y1 y2) := hz
         clear ho hz)
      | (clear tk3; go_at_call 134; refine (HPF.out _ _ (HRD.out.below HBW.out) HO.out).mono ?_; rintro e0 y3 ⟨rfl, hz⟩
         replace HBW : Hid (Below y1.heap.size y1 y3) := HBW.out.trans (hz.mono HBW.out.size)
         clear hz))
    go_ret
    refine ⟨?_, HBW.out⟩
    first
      | rfl
      | (show Ending.returned (Value.int IntKind.u64 0) = _
         simp)
/-- the record that stands at the front of bytes -/
def firstR (gen seq : Nat) (r : Bs) : Option Bs :=
  if r.length < 57 then none
  else if rdNum ((r.drop 49).take 8) = 0 ∨ r.length - 57 < rdNum ((r.drop 49).take 8) then none
  else if r.take (recB gen seq ((r.drop 57).take (rdNum ((r.drop 49).take 8)))).length = recB gen seq ((r.drop 57).take (rdNum ((r.drop 49).take 8))) then some ((r.drop 57).take (rdNum ((r.drop 49).take 8))) else none
theorem first_len {gen seq : Nat} {r x : Bs} (h : firstR gen seq r = some x) : 0 < x.length ∧ 64 * secR x.length ≤ r.length ∧ x.length ≤ r.length := by
  unfold firstR at h
  by_cases h1 : r.length < 57
  · rw [if_pos h1] at h; cases h
  rw [if_neg h1] at h
  by_cases h2 : rdNum ((r.drop 49).take 8) = 0 ∨ r.length - 57 < rdNum ((r.drop 49).take 8)
  · rw [if_pos h2] at h; cases h
  rw [if_neg h2] at h
  by_cases h3 : r.take (recB gen seq ((r.drop 57).take (rdNum ((r.drop 49).take 8)))).length = recB gen seq ((r.drop 57).take (rdNum ((r.drop 49).take 8)))
  · rw [if_pos h3] at h
    injection h with h
    rw [h] at h3
    have h4 := congrArg List.length h3
    rw [List.length_take, len_recB] at h4
    have h5 : x.length = rdNum ((r.drop 49).take 8) := by rw [← h, List.length_take, List.length_drop]; omega
    exact ⟨by omega, by omega, by omega⟩
  · rw [if_neg h3] at h; cases h
/-- a half's records, from what stands first -/
def recNext (gen : Nat) (half : Bs) (f p seq : Nat) : Option Bs → List Bs × Nat
  | none => ([], p)
  | some x => (x :: (recsL gen half f (p + 64 * secR x.length) (seq + 1)).1, (recsL gen half f (p + 64 * secR x.length) (seq + 1)).2)
/-- one record more -/
theorem recs_first {gen : Nat} {half : Bs} {f p seq : Nat} (hm : half.length % 64 = 0) (hp : p % 64 = 0) (hle : p ≤ half.length) : recsL gen half (f + 1) p seq = recNext gen half f p seq (firstR gen seq (half.drop p)) := by
  have e1 : (half.drop p).drop 49 = half.drop (p + 49) := by rw [List.drop_drop]
  have e2 : (half.drop p).drop 57 = half.drop (p + 57) := by rw [List.drop_drop]
  rw [recsL, firstR, e1, e2]
  have e3 : (half.drop p).length = half.length - p := List.length_drop
  rw [e3]
  by_cases h1 : p + 64 ≤ half.length
  case neg => rw [if_neg h1, if_pos (show half.length - p < 57 by omega)]; rfl
  rw [if_pos h1, if_neg (show ¬ half.length - p < 57 by omega)]
  by_cases h2 : rdNum ((half.drop (p + 49)).take 8) = 0 ∨ half.length - p - 57 < rdNum ((half.drop (p + 49)).take 8)
  · rw [if_pos h2, if_pos h2]; rfl
  rw [if_neg h2, if_neg h2]
  by_cases h3 : (half.drop p).take (recB gen seq ((half.drop (p + 57)).take (rdNum ((half.drop (p + 49)).take 8)))).length = recB gen seq ((half.drop (p + 57)).take (rdNum ((half.drop (p + 49)).take 8)))
  · have h4 := congrArg List.length h3
    rw [List.length_take, List.length_drop] at h4
    rw [if_pos h3, if_neg (by rw [not_or]; exact ⟨by omega, fun h => h h3⟩)]
    rw [recNext]
    simp only [len_recB]
  · rw [if_neg h3, if_pos (Or.inr h3)]; rfl
set_option maxRecDepth 100000 in
set_option maxHeartbeats 8000000 in
theorem jFirst_any (gen seq : Nat) (hg : gen < 18446744073709551616) (hq : seq < 18446744073709551616) (v : Value) (r : Bs) (hl : r.length < 8000000) (w : World) (hK : KOk w) (hr : Reads w v r) : Calls Tryz.prog 114 #[v, .int .u64 (gen : Int), .int .u64 (seq : Int)] w fun e w' => ∃ vx, e = .returned (.tuple #[vx, .bool (firstR gen seq r).isSome]) ∧ (∀ x, firstR gen seq r = some x → ∀ W, Reads W v r → Reads W vx x) ∧ Below w.heap.size w w' := by
  obtain ⟨ad, c, hv, hc, hnn, hpos⟩ := id hr
  obtain ⟨n, HN⟩ : ∃ n, Hid (n = r.length) := ⟨_, rfl⟩
  rw [← HN.out] at hv hc hl
  subst hv
  obtain ⟨fr, HFR⟩ : ∃ f, Hid (f = firstR gen seq r) := ⟨_, rfl⟩
  rw [← HFR.out]
  by_cases h57 : n < 57
  · have hfr : fr = none := by rw [HFR.out, firstR, if_pos (by rw [← HN.out]; exact h57)]
    subst hfr
    have q1 : (n : Int) < 57 := by omega
    clear hr hpos hnn hc hl hK
    go_enter Tryz.func114, Tryz.ntmps114
    go_wp2
    refine bodyPost_ret (results_tmp2 rfl _ _ _) rfl ?_
    exact ⟨_, rfl, (fun x h => by cases h), Below.refl _ _⟩
  obtain ⟨bb, off, had, _⟩ := hpos (by rw [← HN.out]; omega)
  subst had
  have q1 : ¬ ((n : Int) < 57) := by omega
  obtain ⟨N, HNN⟩ : ∃ N, Hid (N = rdNum ((r.drop 49).take 8)) := ⟨_, rfl⟩
  have HCT : Hid (49 < n ∧ n ≤ c) := ⟨by omega, hc⟩
  have HNM : Hid (∀ W, W = w → Calls Tryz.prog 133 #[.slice (some ⟨bb, off + 49, none⟩) (n - 49) (c - 49)] W fun e w' => e = .returned (.int .u64 (N : Int)) ∧ w' = W) := fun W hW => by
    subst hW
    rw [HNN.out]
    exact jRdNum_any _ _ _ _ (r.drop 49) (by rw [List.length_drop, ← HN.out]; omega) W (reads_drop hr 49 (by rw [← HN.out]; omega))
  obtain ⟨m, HM⟩ : ∃ m, Hid (m = n - 57) := ⟨_, rfl⟩
  have hm := HM.out
  have f1 : IntKind.i64.wrap ((n : Int) - 57) = (m : Int) := sJ (b := 57) (by omega) (by omega)
  have f2 : IntKind.u64.wrap (m : Int) = (m : Int) := uJ (by omega)
  by_cases h2 : N = 0 ∨ m < N
  · have hfr : fr = none := by rw [HFR.out, firstR, if_neg (by rw [← HN.out]; exact h57), ← HNN.out, if_pos (by rw [← HN.out, ← hm]; exact h2)]
    subst hfr
    clear hr hpos hnn hc hl hK hm
    by_cases hn0 : N = 0
    · subst hn0
      go_enter Tryz.func114, Tryz.ntmps114
      have tk0 : Hid True := trivial
      have tk1 : Hid True := trivial
      go_wp2_with (first
        | (clear tk0; refine wpSeq_val (.slice (some ⟨bb, off + 49, none⟩) (n - 49) (c - 49)) _ (by rfl) (cutFrom bb off n c 49 HCT.out.1 HCT.out.2 _ _ (.tmp 13) (.const (.int .i64 49)) rfl rfl rfl _) ?_)
        | (clear tk1; go_at_call 133; refine (HNM.out _ rfl).mono ?_; rintro e0 y1 ⟨rfl, hy1⟩; subst hy1))
      refine bodyPost_ret (results_tmp2 rfl _ _ _) rfl ?_
      exact ⟨_, rfl, (fun x h => by cases h), Below.refl _ _⟩
    · have q2 : ((N : Int) == 0) = false := by rw [beq_eq_false_iff_ne]; omega
      have q3 : (m : Int) < (N : Int) := by omega
      go_enter Tryz.func114, Tryz.ntmps114
      have tk0 : Hid True := trivial
      have tk1 : Hid True := trivial
      go_wp2_with (first
        | (clear tk0; refine wpSeq_val (.slice (some ⟨bb, off + 49, none⟩) (n - 49) (c - 49)) _ (by rfl) (cutFrom bb off n c 49 HCT.out.1 HCT.out.2 _ _ (.tmp 13) (.const (.int .i64 49)) rfl rfl rfl _) ?_)
        | (clear tk1; go_at_call 133; refine (HNM.out _ rfl).mono ?_; rintro e0 y1 ⟨rfl, hy1⟩; subst hy1))
      refine bodyPost_ret (results_tmp2 rfl _ _ _) rfl ?_
      exact ⟨_, rfl, (fun x h => by cases h), Below.refl _ _⟩
  have q2 : ((N : Int) == 0) = false := by rw [beq_eq_false_iff_ne]; omega
  have q3 : ¬ ((m : Int) < (N : Int)) := by omega
  have f3 : IntKind.i64.wrap (N : Int) = (N : Int) := iJ (by omega)
  obtain ⟨e, HE⟩ : ∃ e, Hid (e = 57 + N) := ⟨_, rfl⟩
  have he := HE.out
  have f4 : IntKind.i64.wrap (57 + (N : Int)) = (e : Int) := by rw [IntKind.wrap_i64]; omega
  have HC2 : Hid (0 < N ∧ 57 + N ≤ n ∧ (e : Int) = ((57 + N : Nat) : Int)) := ⟨by omega, by omega, by omega⟩
  obtain ⟨x, HX⟩ : ∃ x, Hid (x = (r.drop 57).take N) := ⟨_, rfl⟩
  have HXL : Hid (x.length = N) := by show _ = _; rw [HX.out, List.length_take, List.length_drop, ← HN.out]; omega
  have HXR : Hid (∀ W, Reads W (.slice (some ⟨bb, off, none⟩) n c) r → Reads W (.slice (some ⟨bb, off + 57, none⟩) N (c - 57)) x) := fun W hW => by rw [HX.out]; exact hW.cutJ 57 N (c - 57) (by rw [← HN.out]; omega) (by omega)
  have HRD : Hid (Reads w (.slice (some ⟨bb, off, none⟩) n c) r) := hr
  obtain ⟨ok, HOK⟩ : ∃ o, Hid (o = decide (r.take (recB gen seq x).length = recB gen seq x)) := ⟨_, rfl⟩
  have HFF : Hid (fr = if ok = true then some x else none) := by
    show _ = _
    rw [HFR.out, firstR, if_neg (by rw [← HN.out]; exact h57), ← HNN.out, if_neg (by rw [← HN.out, ← hm]; exact h2), ← HX.out, HOK.out]
    by_cases h : r.take (recB gen seq x).length = recB gen seq x
    · rw [if_pos h, if_pos (by simp [h])]
    · rw [if_neg h, if_neg (by simp [h])]
  have HSO : Hid (ok = fr.isSome) := by show _ = _; rw [HFF.out]; cases ok <;> rfl
  have HRC : Hid (Calls Tryz.prog 101 #[.int .u64 (gen : Int), .int .u64 (seq : Int), .slice (some ⟨bb, off + 57, none⟩) N (c - 57)] w fun e w' => ∃ v', e = .returned v' ∧ OwnB w' w.heap.size v' (recB gen seq x) ∧ Below w.heap.size w w') := jRecord_own gen seq hg hq _ x (by rw [HXL.out]; omega) w hK (HXR.out w hr)
  have HPF : Hid (∀ W v, Reads W (.slice (some ⟨bb, off, none⟩) n c) r → Reads W v (recB gen seq x) → Calls Tryz.prog 134 #[.slice (some ⟨bb, off, none⟩) n c, v] W fun e w' => e = .returned (.bool ok) ∧ Below W.heap.size W w') := fun W v h1 h2 => by
    have h3 := bPrefix_any _ v r (recB gen seq x) W (by rw [← HN.out]; omega) h1 h2
    rw [← HOK.out] at h3
    exact h3
  rw [← HSO.out]
  have HFX : Hid (∀ x', fr = some x' → x' = x) := fun x' h => by
    rw [HFF.out] at h
    cases hok : ok
    · rw [hok, if_neg Bool.false_ne_true] at h; cases h
    · rw [hok, if_pos rfl] at h; injection h with h; exact h.symm
  clear hr hpos hnn hc hl hK hm he h2 h57 hg hq
  go_enter Tryz.func114, Tryz.ntmps114
  have tk0 : Hid True := trivial
  have tk1 : Hid True := trivial
  have tk2 : Hid True := trivial
  have tk3 : Hid True := trivial
  have tk4 : Hid True := trivial
  go_wp2_with (first
    | (clear tk0; refine wpSeq_val (.slice (some ⟨bb, off + 49, none⟩) (n - 49) (c - 49)) _ (by rfl) (cutFrom bb off n c 49 HCT.out.1 HCT.out.2 _ _ (.tmp 13) (.const (.int .i64 49)) rfl rfl rfl _) ?_)
    | (clear tk1; go_at_call 133; refine (HNM.out _ rfl).mono ?_; rintro e0 y1 ⟨rfl, hy1⟩; subst hy1)
    | (clear tk2; refine wpSeq_val (.slice (some ⟨bb, off + 57, none⟩) N (c - 57)) _ (by rfl) (cutMid bb off n c 57 N HC2.out.1 HC2.out.2.1 HCT.out.2 57 (e : Int) rfl HC2.out.2.2 _ _ (.tmp 26) (.const (.int .i64 57)) (.tmp 29) rfl rfl rfl rfl _) ?_)
    | (clear tk3; go_at_call 101; refine (HRC.out).mono ?_; rintro e0 y2 ⟨v2, rfl, ho, hz⟩
       have HO : Hid (Reads y2 v2 (recB gen seq x)) := ho.reads
       have HBW : Hid (Below y1.heap.size y1 y2) := hz
       clear ho hz)
    | (clear tk4; go_at_call 134; refine (HPF.out _ _ (HRD.out.below HBW.out) HO.out).mono ?_; rintro e0 y3 ⟨rfl, hz⟩
       replace HBW : Hid (Below y1.heap.size y1 y3) := HBW.out.trans (hz.mono HBW.out.size)
       clear hz))
  refine bodyPost_ret (results_tmp2 rfl _ _ _) rfl ?_
  exact ⟨_, rfl, (fun x' h => by rw [HFX.out x' h]; exact HXR.out), HBW.out⟩
end Go.Proofs.YtopmeedmgjdcgaaGreatDoor
/- The walks of journal's look and Read, as they landed (layer 14). -/
namespace Go.Proofs.YtopmeedmgjdcgaaGreatDoor
open Go.RowKit
set_option maxRecDepth 100000
/-- a reading beside a call -/
theorem wpAnyH_readC {P : Program} {md : Region.Mode} {ops : Array Oper} {Q : Exit → Act → World → Prop} {S : World → Prop} {fuel : Nat} {listed : Array Bool} {a : Act} {w : World} (i j : Nat) {oi oj : Oper} (v : Value) {f : FuncId} {args : Array Value} {R : Ending → World → Prop}
    (hr : Region.ready md ops listed = [i, j]) (hi : ops[i]? = some oi) (hj : ops[j]? = some oj)
    (wi : Region.wanted oi (yielded ops a.tmps) = true) (wj : Region.wanted oj (yielded ops a.tmps) = true) (wi2 : ∀ u, Region.wanted oi (yielded ops (a.put oj.dst u).tmps) = true) (wj2 : Region.wanted oj (yielded ops (a.put oi.dst v).tmps) = true)
    (ei : (execOp a.eval oi).run P w = .ok (.value v) w) (ej : (execOp a.eval oj).run P w = .ok (.enter f args) w) (ej2 : (execOp (a.put oi.dst v).eval oj).run P w = .ok (.enter f args) w) (hc : Calls P f args w R)
    (hr1 : Region.ready md ops (listed.setIfInBounds i true) = [j]) (hr2 : Region.ready md ops (listed.setIfInBounds j true) = [i])
    (hp : ∀ u, (a.put oj.dst u).put oi.dst v = (a.put oi.dst v).put oj.dst u) (hl : (listed.setIfInBounds j true).setIfInBounds i true = (listed.setIfInBounds i true).setIfInBounds j true)
    (hS : S w) (h : ∀ e w', R e w' → ∃ u, e = .returned u ∧ S w' ∧ (execOp (a.put oj.dst u).eval oi).run P w' = .ok (.value v) w' ∧ wpAnyH P md ops Q S fuel ((listed.setIfInBounds i true).setIfInBounds j true) ((a.put oi.dst v).put oj.dst u) w') : wpAnyH P md ops Q S (fuel + 2) listed a w := by
  refine wpAnyH_all hr (by simp) (fun k hk => ?_)
  rcases List.mem_cons.1 hk with rfl | hk
  · refine wpOp_vl k v w hi wi ei ⟨hS, wpAnyH_enter j hr1 hj wj2 ej2 hc fun e w' hR => ?_⟩
    obtain ⟨u, h1, h2, _, h4⟩ := h e w' hR
    exact ⟨u, h1, h2, h4⟩
  · obtain rfl : k = j := by simpa using hk
    unfold wpOp
    rw [hj]
    simp only [wj, if_true]
    left
    unfold Oper.wp
    rw [ej, Oper.upon_enter]
    refine hc.mono ?_
    intro e w' hR
    obtain ⟨u, rfl, h2, h3, h4⟩ := h e w' hR
    refine ⟨h2, wpAnyH_step i v w' hr2 hi (wi2 u) h3 h2 ?_⟩
    rw [hl, hp]
    exact h4
theorem wpAnyH_skip {P : Program} {md : Region.Mode} {ops : Array Oper} {Q : Exit → Act → World → Prop} {S : World → Prop} {fuel : Nat} {listed : Array Bool} {a : Act} {w : World} (i : Nat) {oi : Oper} (w' : World)
    (hr : Region.ready md ops listed = [i]) (hi : ops[i]? = some oi) (hw : Region.wanted oi (yielded ops a.tmps) = true) (he : (execOp a.eval oi).run P w = .ok .skip w') (hS : S w')
    (h : wpAnyH P md ops Q S fuel (listed.setIfInBounds i true) (a.put oi.dst undef) w') : wpAnyH P md ops Q S (fuel + 1) listed a w := by
  refine wpAnyH_law i hr hi hw ?_
  unfold Oper.wp
  rw [he]
  exact ⟨hS, h⟩
theorem Blk.grownJ {w w' : World} {g : Nat} {cs : List Value} {t : TypeId} {row : Option Nat} (h : Blk w g cs t) (hg : w.grownBy w' row) (hne : row ≠ some g) : Blk w' g cs t := by
  have hh : w.heap[g]? = some (.cells cs.toArray t (0, 0)) := h
  show w'.heap[g]? = some (.cells cs.toArray t (0, 0))
  rw [hg.block g h.lt (fun e => hne e.symm)]
  exact hh
/-- a reading beside a call and the literal that is built of its answer -/
theorem wpAnyH_readCB {P : Program} {md : Region.Mode} {ops : Array Oper} {Q : Exit → Act → World → Prop} {S : World → Prop} {fuel : Nat} {listed : Array Bool} {a : Act} {w : World} (i j k : Nat) {oi oj ok : Oper} (v : Value) {f : FuncId} {args : Array Value} {R : Ending → World → Prop}
    (hr : Region.ready md ops listed = [i, j]) (hi : ops[i]? = some oi) (hj : ops[j]? = some oj) (hk : ops[k]? = some ok)
    (wi : Region.wanted oi (yielded ops a.tmps) = true) (wj : Region.wanted oj (yielded ops a.tmps) = true) (wi2 : ∀ u, Region.wanted oi (yielded ops (a.put oj.dst u).tmps) = true) (wi3 : ∀ u u2, Region.wanted oi (yielded ops ((a.put oj.dst u).put ok.dst u2).tmps) = true) (wj2 : Region.wanted oj (yielded ops (a.put oi.dst v).tmps) = true)
    (wk : ∀ u, Region.wanted ok (yielded ops (a.put oj.dst u).tmps) = true) (wk2 : ∀ u, Region.wanted ok (yielded ops ((a.put oi.dst v).put oj.dst u).tmps) = true)
    (ei : (execOp a.eval oi).run P w = .ok (.value v) w) (ej : (execOp a.eval oj).run P w = .ok (.enter f args) w) (ej2 : (execOp (a.put oi.dst v).eval oj).run P w = .ok (.enter f args) w) (hc : Calls P f args w R)
    (hr1 : Region.ready md ops (listed.setIfInBounds i true) = [j]) (hr2 : Region.ready md ops (listed.setIfInBounds j true) = [i, k]) (hr12 : Region.ready md ops ((listed.setIfInBounds i true).setIfInBounds j true) = [k]) (hr3 : Region.ready md ops ((listed.setIfInBounds j true).setIfInBounds k true) = [i])
    (hp : ∀ u, (a.put oj.dst u).put oi.dst v = (a.put oi.dst v).put oj.dst u) (hp3 : ∀ u u2, ((a.put oj.dst u).put ok.dst u2).put oi.dst v = ((a.put oi.dst v).put oj.dst u).put ok.dst u2)
    (hl : (listed.setIfInBounds j true).setIfInBounds i true = (listed.setIfInBounds i true).setIfInBounds j true) (hl3 : ((listed.setIfInBounds j true).setIfInBounds k true).setIfInBounds i true = ((listed.setIfInBounds i true).setIfInBounds j true).setIfInBounds k true)
    (hS : S w) (h : ∀ e w', R e w' → ∃ u, e = .returned u ∧ S w' ∧ (execOp (a.put oj.dst u).eval oi).run P w' = .ok (.value v) w' ∧ ∃ u2 w2, (execOp (a.put oj.dst u).eval ok).run P w' = .ok (.value u2) w2 ∧ (execOp ((a.put oi.dst v).put oj.dst u).eval ok).run P w' = .ok (.value u2) w2 ∧ S w2 ∧
      (execOp ((a.put oj.dst u).put ok.dst u2).eval oi).run P w2 = .ok (.value v) w2 ∧ wpAnyH P md ops Q S fuel (((listed.setIfInBounds i true).setIfInBounds j true).setIfInBounds k true) (((a.put oi.dst v).put oj.dst u).put ok.dst u2) w2) : wpAnyH P md ops Q S (fuel + 3) listed a w := by
  have tail : ∀ e w' u, R e w' → e = .returned u → S w' ∧ wpAnyH P md ops Q S (fuel + 1) ((listed.setIfInBounds i true).setIfInBounds j true) ((a.put oi.dst v).put oj.dst u) w' := by
    intro e w' u hR he
    obtain ⟨u', h1, h2, _, u2, w2, _, h5, h6, _, h7⟩ := h e w' hR
    rw [he] at h1
    obtain rfl : u = u' := by injection h1
    exact ⟨h2, wpAnyH_step k u2 w2 hr12 hk (wk2 u) h5 h6 h7⟩
  refine wpAnyH_all hr (by simp) (fun q hq => ?_)
  rcases List.mem_cons.1 hq with rfl | hq
  · refine wpOp_vl q v w hi wi ei ⟨hS, wpAnyH_enter j hr1 hj wj2 ej2 hc fun e w' hR => ?_⟩
    obtain ⟨u, h1, _⟩ := h e w' hR
    exact ⟨u, h1, tail e w' u hR h1⟩
  · obtain rfl : q = j := by simpa using hq
    unfold wpOp
    rw [hj]
    simp only [wj, if_true]
    left
    unfold Oper.wp
    rw [ej, Oper.upon_enter]
    refine hc.mono ?_
    intro e w' hR
    obtain ⟨u, h1, h2, h3, u2, w2, h4, h5, h6, h7, h8⟩ := h e w' hR
    have ht := tail e w' u hR h1
    subst h1
    refine ⟨h2, ?_⟩
    refine wpAnyH_all hr2 (by simp) (fun r hr' => ?_)
    rcases List.mem_cons.1 hr' with rfl | hr'
    · refine wpOp_vl r v w' hi (wi2 u) h3 ⟨h2, ?_⟩
      rw [hl, hp]
      exact ht.2
    · obtain rfl : r = k := by simpa using hr'
      refine wpOp_vl r u2 w2 hk (wk u) h4 ⟨h6, wpAnyH_step i v w2 hr3 hi (wi3 u u2) h7 h6 ?_⟩
      rw [hl3, hp3]
      exact h8
/-- what a half has: its cells -/
def ctC (k gen : Nat) (vr : Value) (u : Nat) : List Value := [.int .i64 (k : Int), .int .u64 (gen : Int), vr, .int .i64 (u : Int)]
def ctZ : List Value := ctC 0 0 (.slice none 0 0) 0
theorem size_ct : (Tryz.prog.info? 138).map (·.size) = some 4 := by kernel_rfl
theorem info_ct (k gen : Nat) (vr : Value) (u : Nat) : (Tryz.prog.info? 138).map (·.size) = some (ctC k gen vr u).length := size_ct
theorem len_ct (k gen : Nat) (vr : Value) (u k' gen' : Nat) (vr' : Value) (u' : Nat) : (ctC k gen vr u).length = (ctC k' gen' vr' u').length := rfl
theorem len_ctZ (k gen : Nat) (vr : Value) (u : Nat) : (ctC k gen vr u).length = ctZ.length := rfl
theorem built_ct (a b : Int) (ps : List (Nat × Value)) (h : ps = [(0, .int .i64 a), (1, .int .u64 b)]) : Tryz.prog.built 138 ps = some #[.int .i64 a, .int .u64 b, .slice none 0 0, .int .i64 0] := by subst h; kernel_rfl
theorem alloc_ctJ (f : Operand → Value) (o : Oper) (ho : o.op = .alloc 138) (w : World) : (execOp f o).run Tryz.prog w = .ok (.value (.pointer (some ⟨w.heap.size, 0, none⟩))) (w.alloc (.cells ctZ.toArray 138)) := by
  unfold execOp
  rw [ho]
  kernel_rfl
theorem wpSeq_allocCt {ops : Array Oper} {Q : Exit → Act → World → Prop} {rest : List Oper} {o : Oper} {a : Act} {w : World} (ho : o.op = .alloc 138) (hw : Region.wanted o (yielded ops a.tmps) = true)
    (h : ∀ g w', NewR ctZ 138 w g w' → wpList Tryz.prog ops Q rest (a.put o.dst (.pointer (some ⟨g, 0, none⟩))) w') : wpList Tryz.prog ops Q (o :: rest) a w :=
  wpSeq_val _ _ hw (alloc_ctJ _ _ ho _) (h _ _ (NewR.of _ _ w))
theorem ct_one (k gen : Nat) (a : Option Addr) (n c u : Nat) : ∀ v ∈ ctC k gen (.slice a n c) u, v.oneCell' = true := by
  intro v hv
  simp only [ctC, List.mem_cons, List.not_mem_nil, or_false] at hv
  rcases hv with rfl | rfl | rfl | rfl <;> rfl
theorem var_ct {w : World} {g k gen : Nat} {vr : Value} {u : Nat} (hb : Blk w g (ctC k gen vr u) 138) : (loadVar 138 ⟨g, 0, none⟩).run Tryz.prog w = .ok (.agg (ctC k gen vr u).toArray) w :=
  run_loadVar_row w g 138 138 _ (0, 0) _ hb Tryz.underlying138 rfl (by rw [List.size_toArray]; exact size_ct)
theorem ownB_lower {w : World} {base B : Nat} {v : Value} {l : Bs} (h : OwnB w base v l) (hB : B ≤ base) : OwnB w B v l := by
  rcases h with ⟨h1, ⟨rfl, h2⟩ | ⟨g, cap, cur, rfl, hg, r⟩⟩
  · exact ⟨h1, Or.inl ⟨rfl, h2⟩⟩
  · exact ⟨h1, Or.inr ⟨g, cap, cur, rfl, Nat.le_trans hB hg, r⟩⟩
/-- what is found, and what will be answered, in memory -/
structure LkA (w : World) (g2 g5 k gen : Nat) (vr : Value) (u : Nat) (W : World) : Prop where
  f : Blk W g5 (ctC k gen vr u) 138
  r : Blk W g2 ctZ 138
  bel : Below w.heap.size w W
  ge2 : w.heap.size ≤ g2
  ge5 : w.heap.size ≤ g5
  ne : g2 ≠ g5
theorem LkA.next {w : World} {g2 g5 k gen u : Nat} {vr : Value} {W W' : World} (h : LkA w g2 g5 k gen vr u W) (hb : Below W.heap.size W W') : LkA w g2 g5 k gen vr u W' :=
  ⟨h.f.below hb h.f.lt, h.r.below hb h.r.lt, h.bel.trans (hb.mono h.bel.size), h.ge2, h.ge5, h.ne⟩
theorem LkA.store {w : World} {g2 g5 k gen u k' gen' u' : Nat} {vr vr' : Value} {W W' : World} (h : LkA w g2 g5 k gen vr u W) (ho : Only g5 W W') (hb : Blk W' g5 (ctC k' gen' vr' u') 138) : LkA w g2 g5 k' gen' vr' u' W' :=
  ⟨hb, h.r.only ho h.ne, h.bel.trans (ho.below h.ge5 h.bel.size), h.ge2, h.ge5, h.ne⟩
theorem LkA.grown {w : World} {g2 g5 k gen u : Nat} {vr v : Value} {us : List Value} {base : Nat} {W W' : World} (h : LkA w g2 g5 k gen vr u W) (hg : W.grownBy W' v.ownBlock) (hx : OwnX W base v us) (hb : Below w.heap.size W W') : LkA w g2 g5 k gen vr u W' := by
  have hne : ∀ g cs, Blk W g cs 138 → v.ownBlock ≠ some g := fun g cs hbk e => by
    rcases hx with ⟨_, ⟨rfl, _⟩ | ⟨g2, cap2, cur2, rfl, _, hh2, _⟩⟩
    · cases e
    have e2 : g2 = g := by simpa [Value.ownBlock] using e
    unfold Blk at hbk
    rw [← e2, hh2] at hbk
    simp only [Option.some.injEq, Obj.cells.injEq] at hbk
    exact absurd hbk.2.1 (by decide)
  exact ⟨h.f.grownJ hg (hne _ _ h.f), h.r.grownJ hg (hne _ _ h.r), h.bel.trans hb, h.ge2, h.ge5, h.ne⟩
theorem TxJ.onlyT {base : Nat} {v : Value} {us : List Value} {xs : List Bs} {W W' : World} {g : Nat} {cs : List Value} {t : TypeId} (h : TxJ base v us xs W) (ho : Only g W W') (hb : Blk W g cs t) (h1 : t ≠ 23) (h2 : t ≠ 5) : TxJ base v us xs W' := by
  refine ⟨h.own.same fun k hk => ho.block k (fun e => ?_) (h.own.lt k hk).2, h.len, fun j u hj => (h.good j u hj).sameJ fun k hk => ho.block k (fun e => ?_) ((h.good j u hj).ltJ k hk).2, Nat.le_trans h.ge ho.size⟩
  · subst e
    rcases h.own with ⟨_, ⟨rfl, _⟩ | ⟨g2, cap2, cur2, rfl, _, hh2, _⟩⟩
    · cases hk
    have e2 : g2 = k := by simpa [Value.ownBlock] using hk
    unfold Blk at hb
    rw [← e2, hh2] at hb
    simp only [Option.some.injEq, Obj.cells.injEq] at hb
    exact h1 hb.2.1.symm
  · subst e
    rcases h.good j u hj with ⟨_, ⟨rfl, _⟩ | ⟨g2, cap2, cur2, rfl, _, hh2, _⟩⟩
    · cases hk
    have e2 : g2 = k := by simpa [Value.ownBlock] using hk
    unfold Blk at hb
    rw [← e2, hh2] at hb
    simp only [Option.some.injEq, Obj.cells.injEq] at hb
    exact h2 hb.2.1.symm
theorem TxJ.form {base : Nat} {v : Value} {us : List Value} {xs : List Bs} {W : World} (h : TxJ base v us xs W) : ∃ a c, v = .slice a xs.length c := by
  obtain ⟨a, c, hv⟩ := h.own.form
  exact ⟨a, c, by rw [hv, h.len]⟩
theorem ownB_form {w : World} {base : Nat} {v : Value} {l : Bs} (h : OwnB w base v l) : ∃ a c, v = .slice a l.length c := by
  rcases h with ⟨_, ⟨rfl, h2⟩ | ⟨g', cap, cur, rfl, _⟩⟩
  · exact ⟨none, 0, by rw [h2]⟩
  · exact ⟨_, _, rfl⟩
/-- one text more behind the own slice v: the operation's run -/
theorem run_appX (f : Operand → Value) (o : Oper) (w : World) (s x : Operand) (base : Nat) (v u : Value) (us : List Value) (g : Nat)
    (hown : OwnX w base v us) (hu : w.cell? ⟨g, 0, none⟩ = some u) (h1 : u.oneCell' = true) (hl : us.length < 1000000) (hbase : base ≤ w.heap.size)
    (ho : o.op = .call { callee := .builtin .append, args := #[s, x], argTypes := #[41, 41] }) (hs : f s = v) (hx : f x = .slice (some ⟨g, 0, none⟩) 1 1) :
    ∃ v' w', (execOp f o).run Tryz.prog w = .ok (.value v') w' ∧ OwnX w' base v' (us ++ [u]) ∧ w.grownBy w' v.ownBlock ∧ (v'.ownBlock = v.ownBlock ∨ v'.ownBlock = some w.heap.size) := by
  obtain ⟨i0, hi, hz0, hz1, hz2⟩ := info_parts Tryz.infobsJ
  obtain ⟨v', w', hr, h2, h3, _, h5⟩ := run_append_own_at (P := Tryz.prog) w base 41 o.type 23 i0 (.slice none 0 0) 1 24 Tryz.underlying41 hi hz0 hz1 hz2 rfl (by decide) v us.length us hown ⟨g, 0, none⟩ 1 1 [u] rfl (by
    intro j u' hj
    match j, hj with
    | 0, hj => simp at hj; subst hj; simpa [Addr.add] using hu) (by intro u' hu'; simp at hu'; subst hu'; exact h1) (by unfold maxLen; omega) (by omega) hbase
  refine ⟨v', w', ?_, by unfold OwnX; rw [List.length_append]; exact h2, h3, h5⟩
  unfold execOp
  simp only [ho, resolve, invoke, builtin, Sem.run_bind, Sem.run_pure, Result.andThen_ok, List.map_toArray, List.map_cons, List.map_nil, hs, hx, hr]
theorem wpAnyH_appX {md : Region.Mode} {ops : Array Oper} {Q : Exit → Act → World → Prop} {S : World → Prop} {fuel : Nat} {listed : Array Bool} {a : Act} {w : World} (i : Nat) {oi : Oper} (s x : Operand) (base : Nat) (v u : Value) (us : List Value) (g : Nat)
    (hown : OwnX w base v us) (hu : w.cell? ⟨g, 0, none⟩ = some u) (h1 : u.oneCell' = true) (hl : us.length < 1000000) (hbase : base ≤ w.heap.size)
    (hr : Region.ready md ops listed = [i]) (hi : ops[i]? = some oi) (hw : Region.wanted oi (yielded ops a.tmps) = true) (ho : oi.op = .call { callee := .builtin .append, args := #[s, x], argTypes := #[41, 41] }) (hs : a.eval s = v) (hx : a.eval x = .slice (some ⟨g, 0, none⟩) 1 1)
    (h : ∀ v' w', OwnX w' base v' (us ++ [u]) → w.grownBy w' v.ownBlock → (v'.ownBlock = v.ownBlock ∨ v'.ownBlock = some w.heap.size) → S w' ∧ wpAnyH Tryz.prog md ops Q S fuel (listed.setIfInBounds i true) (a.put oi.dst v') w') : wpAnyH Tryz.prog md ops Q S (fuel + 1) listed a w := by
  obtain ⟨v', w', hr4, ho4, hg4, ha4⟩ := run_appX a.eval oi w s x base v u us g hown hu h1 hl hbase ho hs hx
  exact wpAnyH_step i v' w' hr hi hw hr4 (h v' w' ho4 hg4 ha4).1 (h v' w' ho4 hg4 ha4).2
/-- what is left behind a place, though that be nothing -/
theorem cutFrom2 (b off n c l : Nat) (hl : l ≤ n) (hn : 0 < n) (hc : n ≤ c) : ∃ ad c2, (∀ (f : Operand → Value) (o : Oper) (x y : Operand), o.op = .slice 23 x (some y) none none → f x = .slice (some ⟨b, off, none⟩) n c → f y = .int .i64 (l : Int) → ∀ w, (execOp f o).run Tryz.prog w = .ok (.value (.slice ad (n - l) c2)) w) ∧ ∀ W L, Reads W (.slice (some ⟨b, off, none⟩) n c) L → Reads W (.slice ad (n - l) c2) (L.drop l) := by
  by_cases h : l < n
  · exact ⟨_, _, fun f o x y ho hx hy w => cutFrom b off n c l h hc f o x y ho hx hy w, fun W L hr => reads_drop hr l (by have := (reads_nc hr).1; omega)⟩
  · obtain rfl : l = n := by omega
    have hrd : ∀ ad c2 W L, ad ≠ none → Reads W (.slice (some ⟨b, off, none⟩) l c) L → Reads W (.slice ad (l - l) c2) (L.drop l) := fun ad c2 W L ha hr => by
      have h0 : L.drop l = [] := List.drop_eq_nil_of_le (by have := (reads_nc hr).1; omega)
      rw [h0, Nat.sub_self]
      exact ⟨ad, c2, rfl, Nat.zero_le _, fun e => absurd e ha, fun h => by simp at h⟩
    by_cases hcc : c = l
    · refine ⟨some ⟨b, off, none⟩, c - l, fun f o x y ho hx hy w => ?_, fun W L hr => hrd _ _ W L (by simp) hr⟩
      have hs : (sizeOf 5).run Tryz.prog w = .ok 1 w := by kernel_rfl
      unfold execOp
      rw [ho]
      simp only [hx, hy, Option.map_some, Option.map_none, Sem.run_bind]
      rw [run_sliceAt_slice w 23 _ _ _ _ (by kernel_rfl), run_slice_l w 23 _ _ _ (by kernel_rfl) .i64 (l : Int) (by omega) (by omega)]
      rw [show Tryz.prog.elem 23 = 5 from by kernel_rfl, hs]
      simp only [Result.andThen_ok, sliced, Int.toNat_natCast, Nat.mul_one]
      rw [if_pos hcc]
      simp
    · refine ⟨some ⟨b, off + l, none⟩, c - l, fun f o x y ho hx hy w => ?_, fun W L hr => hrd _ _ W L (by simp) hr⟩
      have hs : (sizeOf 5).run Tryz.prog w = .ok 1 w := by kernel_rfl
      unfold execOp
      rw [ho]
      simp only [hx, hy, Option.map_some, Option.map_none, Sem.run_bind]
      rw [run_sliceAt_slice w 23 _ _ _ _ (by kernel_rfl), run_slice_l w 23 _ _ _ (by kernel_rfl) .i64 (l : Int) (by omega) (by omega)]
      rw [show Tryz.prog.elem 23 = 5 from by kernel_rfl, hs]
      simp only [Result.andThen_ok, sliced, Int.toNat_natCast, Nat.mul_one]
      rw [if_neg hcc]
      simp [Addr.add_mid]
/-- the half that counts, as far as it is looked at -/
def pkJ (b : Bs) (j : Nat) : Nat × Nat := if j = 0 then (0, 0) else if j = 1 then (0, genH (halfB b 0)) else pickB b
theorem pk_step (b : Bs) {j : Nat} (hj : j < 2) : pkJ b (j + 1) = if (pkJ b j).2 < genH (halfB b j) then (j, genH (halfB b j)) else pkJ b j := by
  match j, hj with
  | 0, _ =>
    show (0, genH (halfB b 0)) = if 0 < genH (halfB b 0) then (0, genH (halfB b 0)) else (0, 0)
    by_cases h : 0 < genH (halfB b 0)
    · rw [if_pos h]
    · rw [if_neg h]; congr 1; omega
  | 1, _ => rfl
theorem gen_take (X : Bs) {H : Nat} (h : 64 ≤ H) : genH (X.take H) = genH X := by
  have e1 : ((X.take H).drop 1).take 8 = (X.drop 1).take 8 := by rw [List.drop_take, List.take_take]; congr 1; omega
  have e2 : (X.take H).take 64 = X.take 64 := by rw [List.take_take]; congr 1; omega
  unfold genH
  rw [e1, e2]
theorem gen_lt (b : Bs) (k : Nat) : genH (halfB b k) < 18446744073709551616 := by
  by_cases h : genH (halfB b k) = 0
  · rw [h]; decide
  · exact (gen_is h).2
theorem pick_lt (b : Bs) : (pickB b).2 < 18446744073709551616 ∧ (pickB b).1 ≤ 1 := by
  unfold pickB
  split
  · exact ⟨gen_lt b 1, Nat.le_refl _⟩
  · exact ⟨gen_lt b 0, Nat.zero_le _⟩
def slLen : Value → Nat
  | .slice _ n _ => n
  | _ => 0
/-- what is told of a disk's bytes -/
structure LookA (w : World) (b : Bs) (k gen : Nat) (vr : Value) (us : List Value) (u : Nat) (cl : Bool) (w' : World) : Prop where
  pk : pickB b = (k, gen)
  z : gen = 0 → vr = .slice none 0 0 ∧ us = [] ∧ u = 0 ∧ cl = false
  nz : gen ≠ 0 → TxJ w.heap.size vr us (recsOf gen (halfB b k)).1 w' ∧ (recsOf gen (halfB b k)).2 = 64 * u ∧ cl = decide (∀ z ∈ (halfB b k).drop (recsOf gen (halfB b k)).2, z = 0)
  bel : Below w.heap.size w w'
/-- what look answers -/
def LookP (w : World) (b : Bs) (e : Ending) (w' : World) : Prop := ∃ k gen vr us u cl, e = .returned (.tuple #[.agg (ctC k gen vr u).toArray, .bool cl]) ∧ LookA w b k gen vr us u cl w'
set_option maxRecDepth 100000 in
set_option maxHeartbeats 8000000 in
theorem jLook_any (bb off n c : Nat) (b : Bs) (hok : okB b) (hl : b.length < 8000000) (w : World) (hK : KOk w) (hr : Reads w (.slice (some ⟨bb, off, none⟩) n c) b) : Calls Tryz.prog 88 #[.slice (some ⟨bb, off, none⟩) n c] w fun e w' => LookP w b e w' := by
  obtain ⟨hn, hc⟩ := reads_nc hr
  obtain ⟨q, HQ⟩ : ∃ q, Hid (q = n / 64) := ⟨_, rfl⟩
  obtain ⟨q2, HQ2⟩ : ∃ q2, Hid (q2 = q / 2) := ⟨_, rfl⟩
  obtain ⟨H, HH⟩ : ∃ H, Hid (H = q2 * 64) := ⟨_, rfl⟩
  have hq := HQ.out
  have hq2 := HQ2.out
  have hh := HH.out
  obtain ⟨hk1, hk2⟩ := hok
  rw [← hn] at hk1 hk2 hl
  have HHN : Hid (halfN b = H) := by show _ = _; rw [halfN, ← hn, hh, hq2, hq]
  have f1 : wrap64 ((n : Int) / 64) = (q : Int) := qJ hq (by omega)
  have f2 : wrap64 ((q : Int) / 2) = (q2 : Int) := qJ hq2 (by omega)
  have f3 : IntKind.i64.wrap ((q2 : Int) * 64) = (H : Int) := mJ hh (by omega)
  have HB8 : Hid (256 ≤ H ∧ 2 * H ≤ n ∧ n < 8000000 ∧ n ≤ c ∧ H % 64 = 0) := ⟨by omega, by omega, hl, hc, by omega⟩
  have HNL : Hid (n = b.length) := hn
  have HR : Hid (Reads w (.slice (some ⟨bb, off, none⟩) n c) b) := hr
  have HK : Hid (KOk w) := hK
  clear hq hq2 hh hk1 hk2 hl hn hc hr hK
  go_enter Tryz.func88, Tryz.ntmps88
  have tk0 : Hid True := trivial
  have tk1 : Hid True := trivial
  go_wp2_with (first
    | (clear tk0; with_reducible refine wpSeq_allocCt ?_ ?_ ?_
       · rfl
       · rfl
       intro g2 y1 nn
       have H2 : Hid (Blk y1 g2 ctZ 138) := nn.blk
       have HG2 : Hid (w.heap.size ≤ g2) := nn.ge
       have HBW : Hid (Below w.heap.size w y1) := nn.below
       clear nn)
    | (clear tk1; with_reducible refine wpSeq_allocCt ?_ ?_ ?_
       · rfl
       · rfl
       intro g5 y2 nn
       have HLK : Hid (LkA w g2 g5 0 0 (.slice none 0 0) 0 y2) := ⟨nn.blk, H2.out.below nn.below H2.out.lt, HBW.out.trans (nn.below.mono HBW.out.size), HG2.out, Nat.le_trans HBW.out.size nn.ge, fun e => by have h1 := H2.out.lt; have h2 := nn.ge; omega⟩
       clear nn))
  clear H2 HG2 HBW f1 f2 f3
  go_loopw [16] (fun i wr => ∃ j : Nat, j ≤ 2 ∧ i = .int .i64 (j : Int) ∧ Hid (LkA w g2 g5 (pkJ b j).1 (pkJ b j).2 (.slice none 0 0) 0 wr)) (fun i _ => 2 - (intOf i).toNat)
  case atStart => exact ⟨0, by omega, rfl, HLK⟩
  case round =>
    clear HLK
    obtain ⟨j, hj, rfl, HLK⟩ := hrel
    by_cases hlt : j < 2
    case pos =>
      have hlk : (j : Int) < 2 := by omega
      have f5 : IntKind.i64.wrap ((j : Int) + 1) = (j : Int) + 1 := by rw [IntKind.wrap_i64]; omega
      obtain ⟨o, HO⟩ : ∃ o, Hid (o = j * H) := ⟨_, rfl⟩
      have hoH : o ≤ H := by rw [HO.out]; match j, hlt with | 0, _ => omega | 1, _ => omega
      have f4 : IntKind.i64.wrap ((j : Int) * (H : Int)) = (o : Int) := mJ HO.out (by have := HB8.out; omega)
      have HCT : Hid (o < n ∧ n ≤ c) := ⟨by have := HB8.out; omega, HB8.out.2.2.2.1⟩
      obtain ⟨gj, HGJ⟩ : ∃ g, Hid (g = genH (halfB b j)) := ⟨_, rfl⟩
      obtain ⟨kk, gg, HPK⟩ : ∃ k g, Hid (pkJ b j = (k, g)) := ⟨_, _, rfl⟩
      have HLK1 : Hid (LkA w g2 g5 kk gg (.slice none 0 0) 0 wr) := by have h := HLK.out; rw [HPK.out] at h; exact h
      have HPS : Hid (pkJ b (j + 1) = if gg < gj then (j, gj) else (kk, gg)) := by show _ = _; rw [pk_step b hlt, ← HGJ.out, HPK.out]
      have HBG : Hid (∀ W, Below w.heap.size w W → Calls Tryz.prog 113 #[.slice (some ⟨bb, off + o, none⟩) (n - o) (c - o)] W fun e w' => e = .returned (.int .u64 (gj : Int)) ∧ Below W.heap.size W w') := fun W hW => by
        have h1 := reads_drop (HR.out.below hW) o (by rw [← HNL.out]; exact Nat.le_of_lt HCT.out.1)
        have h2 := jBegun_any bb (off + o) (n - o) (c - o) (b.drop o) (by rw [List.length_drop, ← HNL.out]; have := HB8.out; omega) W (HK.out.below hW HK.out.lt) h1
        have h3 : genH (b.drop o) = gj := by rw [HGJ.out, halfB, gen_take _ (by rw [HHN.out]; have := HB8.out; omega), HHN.out, HO.out]
        rw [h3] at h2
        exact h2
      clear HLK hoH
      by_cases hgt : gg < gj
      case pos =>
        have q1 : (gg : Int) < (gj : Int) := by omega
        have tk0 : Hid True := trivial
        have tk1 : Hid True := trivial
        have tk2 : Hid True := trivial
        have tk3 : Hid True := trivial
        go_wp2_with (first
          | (clear tk0; refine wpSeq_val (.slice (some ⟨bb, off + o, none⟩) (n - o) (c - o)) _ (by rfl) (cutFrom bb off n c o HCT.out.1 HCT.out.2 _ _ (.tmp 19) (.tmp 22) rfl rfl rfl _) ?_)
          | (clear tk1; go_at_call 113; refine (HBG.out _ HLK1.out.bel).mono ?_; rintro e0 y1 ⟨rfl, hz⟩
             replace HLK1 : Hid (LkA w g2 g5 kk gg (.slice none 0 0) 0 y1) := HLK1.out.next hz
             have c1 : y1.cell? ⟨g5, 1, none⟩ = some (.int .u64 (gg : Int)) := HLK1.out.f.cell 1
             clear hz)
          | (clear tk2; with_reducible refine wpSeq_build 138 [(0, .tmp 29), (1, .tmp 30)] (ctC j gj (.slice none 0 0) 0) ?_ ?_ ?_ ?_
             · exact built_ct _ _ _ rfl
             · rfl
             · rfl)
          | (clear tk3; with_reducible refine wpSeq_storeRow 138 (.tmp 5) (.tmp 31) g5 (ctC kk gg (.slice none 0 0) 0) (ctC j gj (.slice none 0 0) 0) HLK1.out.f (len_ct _ _ _ _ _ _ _ _) (info_ct _ _ _ _) (ct_one _ _ _ _ _ _) ?_ ?_ ?_ ?_ ?_
             · rfl
             · rfl
             · rfl
             · rfl
             intro y2 hs
             have HLK2 : Hid (LkA w g2 g5 j gj (.slice none 0 0) 0 y2) := HLK1.out.store hs.only hs.blk
             clear hs c1))
        have HLK3 : Hid (LkA w g2 g5 (pkJ b (j + 1)).1 (pkJ b (j + 1)).2 (.slice none 0 0) 0 y2) := by rw [HPS.out, if_pos hgt]; exact HLK2
        go_roundw
        case rel => exact ⟨j + 1, by omega, by simp, HLK3⟩
        case measure => simp [intOf]; omega
      case neg =>
        have q1 : ¬ ((gg : Int) < (gj : Int)) := by omega
        have tk0 : Hid True := trivial
        have tk1 : Hid True := trivial
        go_wp2_with (first
          | (clear tk0; refine wpSeq_val (.slice (some ⟨bb, off + o, none⟩) (n - o) (c - o)) _ (by rfl) (cutFrom bb off n c o HCT.out.1 HCT.out.2 _ _ (.tmp 19) (.tmp 22) rfl rfl rfl _) ?_)
          | (clear tk1; go_at_call 113; refine (HBG.out _ HLK1.out.bel).mono ?_; rintro e0 y1 ⟨rfl, hz⟩
             replace HLK1 : Hid (LkA w g2 g5 kk gg (.slice none 0 0) 0 y1) := HLK1.out.next hz
             have c1 : y1.cell? ⟨g5, 1, none⟩ = some (.int .u64 (gg : Int)) := HLK1.out.f.cell 1
             clear hz))
        have HLK3 : Hid (LkA w g2 g5 (pkJ b (j + 1)).1 (pkJ b (j + 1)).2 (.slice none 0 0) 0 y1) := by rw [HPS.out, if_neg hgt]; exact HLK1
        go_roundw
        case rel => exact ⟨j + 1, by omega, by simp, HLK3⟩
        case measure => simp [intOf]; omega
    case neg =>
      obtain rfl : j = 2 := by omega
      have hlk : ¬ (((2 : Nat) : Int) < 2) := by omega
      obtain ⟨k, gen, HPK⟩ : ∃ k g, Hid (pickB b = (k, g)) := ⟨_, _, rfl⟩
      have hpl := pick_lt b
      rw [HPK.out] at hpl
      have HKG : Hid (gen < 18446744073709551616 ∧ k ≤ 1) := hpl
      have HLK1 : Hid (LkA w g2 g5 k gen (.slice none 0 0) 0 wr) := by
        have h := HLK.out
        have e : pkJ b 2 = (k, gen) := HPK.out
        rw [e] at h
        exact h
      have c1 : wr.cell? ⟨g5, 1, none⟩ = some (.int .u64 (gen : Int)) := HLK1.out.f.cell 1
      clear HLK hpl
      by_cases hg0 : gen = 0
      case pos =>
        subst hg0
        have HPK0 : Hid (k = 0) := by
          have h := HPK.out
          unfold pickB at h
          by_cases hc : genH (halfB b 0) < genH (halfB b 1)
          · rw [if_pos hc] at h
            have := congrArg Prod.snd h
            simp only at this
            omega
          · rw [if_neg hc] at h
            exact (congrArg Prod.fst h).symm
        have tk0 : Hid True := trivial
        have tk1 : Hid True := trivial
        go_wp2_with (first
          | (clear tk0; with_reducible refine wpSeq_loadW 138 (.tmp 5) g5 0 (ctC k 0 (.slice none 0 0) 0) _ HLK1.out.f.range Tryz.underlying138 rfl (info_ct _ _ _ _) ?_ ?_ ?_ ?_
             · rfl
             · rfl
             · rfl)
          | (clear tk1; with_reducible refine wpSeq_storeRow 138 (.tmp 2) (.tmp 36) g2 ctZ (ctC k 0 (.slice none 0 0) 0) HLK1.out.r (len_ctZ _ _ _ _) (info_ct _ _ _ _) (ct_one _ _ _ _ _ _) ?_ ?_ ?_ ?_ ?_
             · rfl
             · rfl
             · rfl
             · rfl
             intro y2 hs
             have HBR : Hid (Blk y2 g2 (ctC k 0 (.slice none 0 0) 0) 138) := hs.blk
             have HBW : Hid (Below w.heap.size w y2) := HLK1.out.bel.trans (hs.only.below HLK1.out.ge2 HLK1.out.bel.size)
             clear hs c1))
        refine bodyPost_ret (results_row_tmp rfl _ _ g2 (.agg (ctC k 0 (.slice none 0 0) 0).toArray) rfl (var_ct HBR.out)) rfl ?_
        exact ⟨k, 0, _, [], 0, false, rfl, HPK.out, fun _ => ⟨rfl, rfl, rfl, rfl⟩, fun h => absurd rfl h, HBW.out⟩
      case neg =>
        have q0 : ((gen : Int) == 0) = false := by rw [beq_eq_false_iff_ne]; omega
        obtain ⟨half, HHF⟩ : ∃ h, Hid (h = halfB b k) := ⟨_, rfl⟩
        have hhl1 : half.length = H := by rw [HHF.out, len_half HKG.out.2, HHN.out]
        have HHL : Hid (half.length = H ∧ half.length % 64 = 0) := ⟨hhl1, by rw [hhl1]; exact HB8.out.2.2.2.2⟩
        clear hhl1
        obtain ⟨o, HO⟩ : ∃ o, Hid (o = k * H) := ⟨_, rfl⟩
        obtain ⟨o1, HO1⟩ : ∃ o1, Hid (o1 = o + 64) := ⟨_, rfl⟩
        obtain ⟨k1, HK1⟩ : ∃ k1, Hid (k1 = k + 1) := ⟨_, rfl⟩
        obtain ⟨o2, HO2⟩ : ∃ o2, Hid (o2 = k1 * H) := ⟨_, rfl⟩
        obtain ⟨m, HM⟩ : ∃ m, Hid (m = H - 64) := ⟨_, rfl⟩
        have hb8 := HB8.out
        have hko : o ≤ H := by rw [HO.out]; rcases Nat.le_one_iff_eq_zero_or_eq_one.1 HKG.out.2 with e | e <;> rw [e] <;> omega
        have ho1 := HO1.out
        have hk1 := HK1.out
        have hm := HM.out
        have ho2 : o2 = o + H := by rw [HO2.out, hk1, Nat.add_mul, Nat.one_mul, ← HO.out]
        have f4 : IntKind.i64.wrap ((k : Int) * (H : Int)) = (o : Int) := mJ HO.out (by omega)
        have f5 : IntKind.i64.wrap ((o : Int) + 64) = (o1 : Int) := by rw [IntKind.wrap_i64]; omega
        have f6 : IntKind.i64.wrap ((k : Int) + 1) = (k1 : Int) := by rw [IntKind.wrap_i64]; have := HKG.out.2; omega
        have f7 : IntKind.i64.wrap ((k1 : Int) * (H : Int)) = (o2 : Int) := mJ HO2.out (by omega)
        have HC1 : Hid (0 < m ∧ o1 + m ≤ n ∧ (o2 : Int) = ((o1 + m : Nat) : Int)) := ⟨by omega, by omega, by omega⟩
        have HRR : Hid (Reads w (.slice (some ⟨bb, off + o1, none⟩) m (c - o1)) (half.drop 64)) := by
          have h1 := HR.out.cutJ o1 m (c - o1) (by rw [← HNL.out]; exact HC1.out.2.1) (by omega)
          have e : (b.drop o1).take m = half.drop 64 := by
            rw [HHF.out, halfB, HHN.out, List.drop_take, List.drop_drop, ho1, HO.out, hm]
          rw [e] at h1
          exact h1
        have c0 : wr.cell? ⟨g5, 0, none⟩ = some (.int .i64 (k : Int)) := HLK1.out.f.cell 0
        clear hko ho1 hk1 hm ho2 hb8
        have tk0 : Hid True := trivial
        have tk1 : Hid True := trivial
        go_wp2_with (first
          | (clear tk0; refine wpSeq_val (.slice (some ⟨bb, off + o1, none⟩) m (c - o1)) _ (by rfl) (cutMid bb off n c o1 m HC1.out.1 HC1.out.2.1 HB8.out.2.2.2.1 (o1 : Int) (o2 : Int) rfl HC1.out.2.2 _ _ (.tmp 37) (.tmp 42) (.tmp 47) rfl rfl rfl rfl _) ?_)
          | (clear tk1; with_reducible refine wpSeq_cellI (.tmp 49) (.const (.int .i64 1)) g5 3 (ctC k gen (.slice none 0 0) 0) 1 138 (by simp [ctC]) HLK1.out.f ?_ ?_ ?_ ?_ ?_
             · rfl
             · rfl
             · rfl
             · rfl
             intro y2 hb ho
             have HLK2 : Hid (LkA w g2 g5 k gen (.slice none 0 0) 1 y2) := HLK1.out.store ho hb
             clear hb ho c0 c1 HLK1))
        clear f4 f5 f6 f7
        have HRE0 : Hid (recsOf gen half = ([] ++ (recsL gen half (H / 64) 64 ([] : List Bs).length).1, (recsL gen half (H / 64) 64 ([] : List Bs).length).2)) := by show _ = _; rw [recsOf, HHL.out.1]; rfl
        have HTX0 : Hid (TxJ w.heap.size (.slice none 0 0) [] [] y2) := TxJ.nil HLK2.out.bel.size
        go_loopw [8] (fun r wr => ∃ (ad : Option Addr) (rn rc : Nat) (xa : Option Addr) (kn xc : Nat) (us : List Value) (xs : List Bs) (p pu f : Nat), r = .slice ad rn rc ∧ Hid (Reads w (.slice ad rn rc) (half.drop p)) ∧ Hid (kn = xs.length ∧ p = 64 + sizeL xs ∧ p ≤ H ∧ p = 64 * pu ∧ f + kn = H / 64) ∧ Hid (LkA w g2 g5 k gen (.slice xa kn xc) pu wr) ∧ Hid (TxJ w.heap.size (.slice xa kn xc) us xs wr) ∧ Hid (recsOf gen half = (xs ++ (recsL gen half f p kn).1, (recsL gen half f p kn).2))) (fun r _ => slLen r)
        case atStart => exact ⟨_, _, _, none, 0, 0, [], [], 64, 1, H / 64, rfl, HRR, ⟨rfl, rfl, by have := HB8.out; omega, rfl, rfl⟩, HLK2, HTX0, HRE0⟩
        case round =>
          clear HLK2 HTX0 HRE0 HRR HC1
          obtain ⟨ad, rn, rc, xa, kn, xc, us, xs, p, pu, f, rfl, HRD, HPP, HLK, HTX, HRE⟩ := hrel
          have hpp := HPP.out
          have hb8 := HB8.out
          have c1 : wr.cell? ⟨g5, 1, none⟩ = some (.int .u64 (gen : Int)) := HLK.out.f.cell 1
          have c2 : wr.cell? ⟨g5, 2, none⟩ = some (.slice xa kn xc) := HLK.out.f.cell 2
          have hkn : kn < 1000000 := by have h1 := hpp.2.2.2.2; omega
          have f1 : IntKind.u64.wrap (kn : Int) = (kn : Int) := uJ (by omega)
          obtain ⟨fr, HFR⟩ : ∃ r, Hid (r = firstR gen kn (half.drop p)) := ⟨_, rfl⟩
          have HRN : Hid (rn = H - p) := by have h1 := (reads_nc HRD.out).1; rw [List.length_drop, HHL.out.1] at h1; exact h1
          have HFS : Hid (Calls Tryz.prog 114 #[.slice ad rn rc, .int .u64 (gen : Int), .int .u64 (kn : Int)] wr fun e w' => ∃ vx, e = .returned (.tuple #[vx, .bool fr.isSome]) ∧ (∀ x, fr = some x → ∀ W, Reads W (.slice ad rn rc) (half.drop p) → Reads W vx x) ∧ Below wr.heap.size wr w') := by
            rw [HFR.out]
            exact jFirst_any gen kn HKG.out.1 (by omega) _ (half.drop p) (by rw [List.length_drop, HHL.out.1]; omega) wr (HK.out.below HLK.out.bel HK.out.lt) (HRD.out.below HLK.out.bel)
          have HRS : Hid (f ≠ 0 → recsL gen half f p kn = recNext gen half (f - 1) p kn fr) := fun hf0 => by
            obtain ⟨f', rfl⟩ : ∃ f', f = f' + 1 := ⟨f - 1, by omega⟩
            have h := recs_first (gen := gen) (half := half) (f := f') (p := p) (seq := kn) HHL.out.2 (by have := HPP.out.2.2.2.1; omega) (by rw [HHL.out.1]; exact HPP.out.2.2.1)
            rw [← HFR.out] at h
            exact h
          have HF0 : Hid (f = 0 → p = H) := fun hf => by
            have h1 := sizeL_ge xs
            have h2 := HPP.out
            have h3 := HB8.out
            omega
          clear hpp hb8
          cases fr with
          | none =>
            have HRF : Hid (recsOf gen half = (xs, p)) := by
              show _ = _
              have h : recsL gen half f p kn = ([], p) := by
                by_cases hf : f = 0
                · rw [hf]; rfl
                · exact HRS.out hf
              rw [HRE.out, h, List.append_nil]
            clear HRS HFR HF0
            have tk0 : Hid True := trivial
            go_upto_region 16 with (first
              | (clear tk0; go_at_call 114; refine (HFS.out).mono ?_; rintro e0 y1 ⟨vx, rfl, _, hz⟩
                 replace HLK : Hid (LkA w g2 g5 k gen (.slice xa kn xc) pu y1) := HLK.out.next hz
                 replace HTX : Hid (TxJ w.heap.size (.slice xa kn xc) us xs y1) := HTX.out.next hz
                 clear hz c1 c2))
            obtain ⟨cl, HCL⟩ : ∃ c, Hid (c = decide (∀ z ∈ half.drop p, z = 0)) := ⟨_, rfl⟩
            have HBLK : Hid (∀ W, Reads W (.slice ad rn rc) (half.drop p) → Calls Tryz.prog 115 #[.slice ad rn rc] W fun e w' => e = .returned (.bool cl) ∧ w' = W) := fun W h => by
              rw [HCL.out]
              exact jBlank_any _ _ W (by rw [List.length_drop, HHL.out.1]; have := HB8.out; omega) h
            refine wp_region_held_drew (S := fun wx => Blk wx g5 (ctC k gen (.slice xa kn xc) pu) 138) (by kernel_rfl) HLK.out.f.drew ?_
            intro hS
            refine wpAnyH_take (i := 0) (v := .agg (ctC k gen (.slice xa kn xc) pu).toArray) rfl (by kernel_rfl) (by kernel_rfl) (by kernel_rfl) (fun _ _ _ h => h) (Or.inl ⟨by rfl, fun wx hx => by exact load_run 138 (.tmp 5) rfl g5 0 rfl (ctC k gen (.slice xa kn xc) pu) _ hx.range Tryz.underlying138 rfl (info_ct _ _ _ _)⟩) hS ?_
            simp only [Act.put, List.getElem_toArray, List.getElem_cons_zero, List.setIfInBounds_toArray, List.set_cons_zero, List.set_cons_succ]
            refine wpAnyH_take (i := 1) (v := .slice ad rn rc) rfl (by kernel_rfl) (by kernel_rfl) (by kernel_rfl) (fun _ _ _ h => h) (Or.inl ⟨by rfl, fun wx hx => by simp [go_sem]⟩) hS ?_
            simp only [Act.put, List.getElem_toArray, List.getElem_cons_succ, List.getElem_cons_zero, List.setIfInBounds_toArray, List.set_cons_zero, List.set_cons_succ]
            refine wpAnyH_enter 2 (by kernel_rfl) rfl (by rfl) (f := 115) (args := #[.slice ad rn rc]) (by simp [go_sem]) (HBLK.out _ (reads_drew (HRD.out.below HLK.out.bel))) ?_
            rintro e0 y2 ⟨rfl, hy2⟩
            subst hy2
            refine ⟨_, rfl, hS, ?_⟩
            simp only [Act.put, List.getElem_toArray, List.getElem_cons_succ, List.getElem_cons_zero, List.setIfInBounds_toArray, List.set_cons_zero, List.set_cons_succ]
            refine wpAnyH_storeRow 3 138 (.tmp 2) (.tmp 63) g2 ctZ (ctC k gen (.slice xa kn xc) pu) HLK.out.r.drew (len_ctZ _ _ _ _) (info_ct _ _ _ _) (ct_one _ _ _ _ _ _) (by kernel_rfl) rfl (by rfl) rfl rfl rfl ?_
            intro y3 hs
            have hS3 : Blk y3 g5 (ctC k gen (.slice xa kn xc) pu) 138 := hS.only hs.only (Ne.symm HLK.out.ne)
            refine ⟨hS3, ?_⟩
            simp only [Act.put, List.getElem_toArray, List.getElem_cons_succ, List.getElem_cons_zero]
            replace hS := hS3
            refine wpAnyH_take (i := 4) (v := .bool cl) rfl (by kernel_rfl) (by kernel_rfl) (by kernel_rfl) (fun _ _ _ h => h) (Or.inl ⟨by rfl, fun wx hx => by simp [go_sem]⟩) hS ?_
            simp only [Act.put, List.getElem_toArray, List.getElem_cons_succ, List.getElem_cons_zero, List.setIfInBounds_toArray, List.set_cons_zero, List.set_cons_succ]
            refine wpAnyH_done (by kernel_rfl) ?_ _
            have HTX3 : Hid (TxJ w.heap.size (.slice xa kn xc) us xs y3) := (HTX.out.next ((Below.refl _ _).drew)).onlyT hs.only HLK.out.r.drew (by decide) (by decide)
            have HBR : Hid (Blk y3 g2 (ctC k gen (.slice xa kn xc) pu) 138) := hs.blk
            have HBW : Hid (Below w.heap.size w y3) := (HLK.out.bel.drew).trans (hs.only.below HLK.out.ge2 HLK.out.bel.size)
            clear hs hS hS3
            go_wp2
            refine bodyPost_ret (results_row_tmp rfl _ _ g2 (.agg (ctC k gen (.slice xa kn xc) pu).toArray) rfl (var_ct HBR.out)) rfl ?_
            refine ⟨k, gen, _, us, pu, cl, rfl, HPK.out, fun h => absurd h hg0, fun _ => ?_, HBW.out⟩
            rw [← HHF.out, HRF.out]
            exact ⟨HTX3.out, HPP.out.2.2.2.1, HCL.out⟩
          | some x =>
            have hfn : f ≠ 0 := fun h => by
              have h1 := first_len HFR.out.symm
              have h2 := HF0.out h
              rw [List.length_drop, HHL.out.1, h2] at h1
              omega
            obtain ⟨f', hf'⟩ : ∃ f', f = f' + 1 := ⟨f - 1, by omega⟩
            subst hf'
            have HRS2 : Hid (recsOf gen half = ((xs ++ [x]) ++ (recsL gen half f' (p + 64 * secR x.length) (kn + 1)).1, (recsL gen half f' (p + 64 * secR x.length) (kn + 1)).2)) := by
              show _ = _
              have h := HRS.out hfn
              simp only [Nat.add_sub_cancel] at h
              rw [HRE.out, h, recNext]
              simp
            have HXF : Hid (0 < x.length ∧ 64 * secR x.length ≤ H - p ∧ x.length ≤ H) := by
              have h1 := first_len HFR.out.symm
              rw [List.length_drop, HHL.out.1] at h1
              exact ⟨h1.1, h1.2.1, by omega⟩
            clear HRS HRE hfn HF0
            obtain ⟨rb, ro, had⟩ : ∃ b o, ad = some ⟨b, o, none⟩ := by
              obtain ⟨_, _, hv, _, _, hps⟩ := HRD.out
              simp only [Value.slice.injEq] at hv
              obtain ⟨b, o, h1, _⟩ := hps (by rw [List.length_drop, HHL.out.1]; have := HXF.out; unfold secR at this; omega)
              exact ⟨b, o, by rw [hv.1]; exact h1⟩
            subst had
            obtain ⟨nx, HNX⟩ : ∃ m, Hid (m = x.length) := ⟨_, rfl⟩
            obtain ⟨sx, HSX⟩ : ∃ m, Hid (m = secR x.length) := ⟨_, rfl⟩
            have tk0 : Hid True := trivial
            go_upto_region 17 with (first
              | (clear tk0; go_at_call 114; refine (HFS.out).mono ?_; rintro e0 y1 ⟨vx, rfl, hx, hz⟩
                 obtain ⟨ax, cx, hvx⟩ : ∃ a c, vx = .slice a nx c := by obtain ⟨a, c, hv, _⟩ := hx x rfl _ HRD.out; rw [← HNX.out] at hv; exact ⟨a, c, hv⟩
                 subst hvx
                 have HXR : Hid (Reads w (.slice ax nx cx) x) := hx x rfl _ HRD.out
                 replace HLK : Hid (LkA w g2 g5 k gen (.slice xa kn xc) pu y1) := HLK.out.next hz
                 replace HTX : Hid (TxJ w.heap.size (.slice xa kn xc) us xs y1) := HTX.out.next hz
                 clear hz c1 c2 hx))
            have HD1 : Hid (Below y1.heap.size y1 y1.drew) := (Below.refl _ _).drew
            replace HLK : Hid (LkA w g2 g5 k gen (.slice xa kn xc) pu y1.drew) := HLK.out.next HD1.out
            replace HTX : Hid (TxJ w.heap.size (.slice xa kn xc) us xs y1.drew) := HTX.out.next HD1.out
            have c2 : y1.drew.cell? ⟨g5, 2, none⟩ = some (.slice xa kn xc) := HLK.out.f.cell 2
            refine wp_region_held_drew (S := fun _ => True) (by kernel_rfl) trivial ?_
            intro hS
            refine wpAnyH_take (i := 0) (v := .pointer (some ⟨g5, 2, none⟩)) rfl (by kernel_rfl) (by kernel_rfl) (by kernel_rfl) (fun _ _ _ h => h) (Or.inl ⟨by rfl, fun wx hx => by simp [go_sem]⟩) hS ?_
            simp only [Act.put, List.getElem_toArray, List.getElem_cons_zero, List.setIfInBounds_toArray, List.set_cons_zero, List.set_cons_succ]
            refine wpAnyH_take (i := 2) (v := .slice ax nx cx) rfl (by kernel_rfl) (by kernel_rfl) (by kernel_rfl) (fun _ _ _ h => h) (Or.inl ⟨by rfl, fun wx hx => by simp [go_sem]⟩) hS ?_
            simp only [Act.put, List.getElem_toArray, List.getElem_cons_succ, List.getElem_cons_zero, List.setIfInBounds_toArray, List.set_cons_zero, List.set_cons_succ]
            refine wpAnyH_readCB 1 3 4 (.slice xa kn xc) (f := 64) (args := #[.slice ax nx cx]) (by kernel_rfl) rfl rfl rfl (by rfl) (by rfl) (fun _ => by rfl) (fun _ _ => by rfl) (by rfl) (fun _ => by rfl) (fun _ => by rfl) (by simp [go_sem, c2]) (by simp [go_sem]) (by simp [go_sem]) (bclone_any _ x _ (HXR.out.below HLK.out.bel) (by have h1 := HXF.out.2.2; have h2 := HB8.out; omega)) (by kernel_rfl) (by kernel_rfl) (by kernel_rfl) (by kernel_rfl) (fun _ => by rfl) (fun _ _ => by rfl) (by rfl) (by rfl) trivial ?_
            rintro e0 y2 ⟨vc, rfl, ho2, hz2⟩
            obtain ⟨ac, cc, hvc⟩ := ownB_form ho2
            rw [← HNX.out] at hvc
            subst hvc
            have c2b : y2.cell? ⟨g5, 2, none⟩ = some (.slice xa kn xc) := (HLK.out.next hz2).f.cell 2
            have c2c : (y2.alloc (.cells #[Value.slice ac nx cc] 23)).cell? ⟨g5, 2, none⟩ = some (.slice xa kn xc) := ((HLK.out.next hz2).next (below_alloc _ _)).f.cell 2
            refine ⟨_, rfl, trivial, by simp [go_sem, c2b], .slice (some ⟨y2.heap.size, 0, none⟩) 1 1, y2.alloc (.cells #[Value.slice ac nx cc] 23), build_x1 _ _ (.tmp 69) ac nx cc rfl rfl _, build_x1 _ _ (.tmp 69) ac nx cc rfl rfl _, trivial, by simp [go_sem, c2c], ?_⟩
            simp only [Act.put, List.getElem_toArray, List.getElem_cons_succ, List.getElem_cons_zero, List.setIfInBounds_toArray, List.set_cons_zero, List.set_cons_succ]
            have HLK3 : Hid (LkA w g2 g5 k gen (.slice xa kn xc) pu (y2.alloc (.cells #[Value.slice ac nx cc] 23))) := (HLK.out.next hz2).next (below_alloc _ _)
            have HTX2 : Hid (TxJ w.heap.size (.slice xa kn xc) us xs y2) := HTX.out.next hz2
            have HOW2 : Hid (OwnB y2 w.heap.size (.slice ac nx cc) x) := ownB_lower ho2 HLK.out.bel.size
            refine wpAnyH_appX 5 (.tmp 67) (.tmp 70) w.heap.size (.slice xa kn xc) (.slice ac nx cc) us y2.heap.size (HTX2.out.next (below_alloc _ _)).own ((Blk.new y2 [Value.slice ac nx cc] 23).cell 0) rfl (by have h1 := HTX2.out.len; have h2 := HPP.out.1; omega) (Nat.le_trans HTX2.out.ge (below_alloc _ _).size) (by kernel_rfl) rfl (by rfl) rfl rfl rfl ?_
            intro v4 y4 ho4 hg4 _
            refine ⟨trivial, ?_⟩
            simp only [Act.put, List.getElem_toArray, List.getElem_cons_succ, List.getElem_cons_zero, List.setIfInBounds_toArray, List.set_cons_zero, List.set_cons_succ]
            obtain ⟨HT4, HBL4⟩ := HTX2.out.grow HOW2.out ho4 hg4
            obtain ⟨a4, c4, hv4⟩ := HT4.form
            obtain ⟨kn1, HKN1⟩ : ∃ m, Hid (m = kn + 1) := ⟨_, rfl⟩
            have hkl : (xs ++ [x]).length = kn1 := by rw [List.length_append, ← HPP.out.1, HKN1.out]; rfl
            rw [hkl] at hv4
            subst hv4
            have hbb4 : Below w.heap.size (y2.alloc (.cells #[Value.slice ac nx cc] 23)) y4 := (Below.refl _ _).grown hg4 HLK3.out.bel.size (fun k hk => (HTX2.out.own.lt k hk).1)
            have HLK4 : Hid (LkA w g2 g5 k gen (.slice xa kn xc) pu y4) := HLK3.out.grown hg4 (HTX2.out.next (below_alloc _ _)).own hbb4
            have HB14 : Hid (Below w.heap.size y1.drew y4) := (hz2.mono HLK.out.bel.size).trans (((below_alloc _ _).mono (Nat.le_trans HLK.out.bel.size hz2.size)).trans hbb4)
            refine wpAnyH_take (i := 6) (v := .pointer (some ⟨g5, 2, none⟩)) rfl (by kernel_rfl) (by kernel_rfl) (by kernel_rfl) (fun _ _ _ h => h) (Or.inl ⟨by rfl, fun wx hx => by simp [go_sem]⟩) hS ?_
            simp only [Act.put, List.getElem_toArray, List.getElem_cons_succ, List.getElem_cons_zero, List.setIfInBounds_toArray, List.set_cons_zero, List.set_cons_succ]
            have c24 : y4.cell? ⟨g5, 2, none⟩ = some (.slice xa kn xc) := HLK4.out.f.cell 2
            have d24 : y4.frozen? ⟨g5, 2, none⟩ = false := HLK4.out.f.frozen 2
            refine wpAnyH_skip 7 (y4.setCell ⟨g5, 2, none⟩ (.slice a4 kn1 c4)) (by kernel_rfl) rfl (by rfl) (by simp [go_sem, c24, d24]) trivial ?_
            simp only [Act.put]
            refine wpAnyH_done (by kernel_rfl) ?_ _
            obtain ⟨y5, HY5⟩ : ∃ y, Hid (y = y4.setCell ⟨g5, 2, none⟩ (.slice a4 kn1 c4)) := ⟨_, rfl⟩
            have ho5 : Only g5 y4 y5 := by rw [HY5.out]; exact Only.setCell (Only.refl _ _) _ _
            have HLK5 : Hid (LkA w g2 g5 k gen (.slice a4 kn1 c4) pu y5) := HLK4.out.store ho5 (by rw [HY5.out]; exact HLK4.out.f.set 2 _)
            have HTX5 : Hid (TxJ w.heap.size (.slice a4 kn1 c4) (us ++ [.slice ac nx cc]) (xs ++ [x]) y5) := HT4.onlyT ho5 HLK4.out.f (by decide) (by decide)
            rw [← HY5.out]
            clear HY5 ho5 HLK4 HT4 c24 d24 HB14 HBL4 hbb4 hg4 ho4 HTX2 HOW2 HLK3 c2c c2b ho2 hz2 HLK HTX c2 HD1
            obtain ⟨pu2, HPU⟩ : ∃ m, Hid (m = pu + sx) := ⟨_, rfl⟩
            obtain ⟨s64, HS64⟩ : ∃ m, Hid (m = sx * 64) := ⟨_, rfl⟩
            have hxf := HXF.out
            rw [← HSX.out] at hxf
            have hb8 := HB8.out
            have hpp := HPP.out
            have f8 : IntKind.i64.wrap ((pu : Int) + (sx : Int)) = (pu2 : Int) := aJ HPU.out (by have := HPU.out; omega)
            have f9 : IntKind.i64.wrap ((sx : Int) * 64) = (s64 : Int) := mJ HS64.out (by have := HS64.out; omega)
            have HRSX : Hid (∀ W, Below w.heap.size w W → Calls Tryz.prog 116 #[.slice ax nx cx] W fun e w' => e = .returned (.int .i64 (sx : Int)) ∧ w' = W) := fun W hW => by
              rw [HSX.out]
              exact jRecSec_any _ x (by have := HXF.out.2.2; have := HB8.out; omega) W (HXR.out.below hW)
            have HS64L : Hid (s64 ≤ rn ∧ 0 < rn ∧ rn ≤ rc ∧ 0 < s64) := by
              have h1 := HRN.out
              have h2 := HS64.out
              have h3 : 0 < sx := by rw [HSX.out]; unfold secR; omega
              exact ⟨by omega, by omega, (reads_nc HRD.out).2, by omega⟩
            clear hxf hb8 hpp
            have HLK6 : Hid (LkA w g2 g5 k gen (.slice a4 kn1 c4) pu y5.drew) := HLK5.out.next ((Below.refl _ _).drew)
            have HTX6 : Hid (TxJ w.heap.size (.slice a4 kn1 c4) (us ++ [.slice ac nx cc]) (xs ++ [x]) y5.drew) := HTX5.out.next ((Below.refl _ _).drew)
            have c3 : y5.drew.cell? ⟨g5, 3, none⟩ = some (.int .i64 (pu : Int)) := HLK6.out.f.cell 3
            have d3 : y5.drew.frozen? ⟨g5, 3, none⟩ = false := HLK6.out.f.frozen 3
            clear HLK5 HTX5
            go_wp2_with fail
            refine wp_region_held_drew (S := fun _ => True) (by kernel_rfl) trivial ?_
            intro hS
            refine wpAnyH_take (i := 0) (v := .pointer (some ⟨g5, 3, none⟩)) rfl (by kernel_rfl) (by kernel_rfl) (by kernel_rfl) (fun _ _ _ h => h) (Or.inl ⟨by rfl, fun wx hx => by simp [go_sem]⟩) hS ?_
            simp only [Act.put, List.getElem_toArray, List.getElem_cons_zero, List.setIfInBounds_toArray, List.set_cons_zero, List.set_cons_succ]
            refine wpAnyH_take (i := 2) (v := .slice ax nx cx) rfl (by kernel_rfl) (by kernel_rfl) (by kernel_rfl) (fun _ _ _ h => h) (Or.inl ⟨by rfl, fun wx hx => by simp [go_sem]⟩) hS ?_
            simp only [Act.put, List.getElem_toArray, List.getElem_cons_succ, List.getElem_cons_zero, List.setIfInBounds_toArray, List.set_cons_zero, List.set_cons_succ]
            refine wpAnyH_readC 1 3 (.int .i64 (pu : Int)) (f := 116) (args := #[.slice ax nx cx]) (by kernel_rfl) rfl rfl (by rfl) (by rfl) (fun _ => by rfl) (by rfl) (by simp [go_sem, c3]) (by simp [go_sem]) (by simp [go_sem]) (HRSX.out _ HLK6.out.bel) (by kernel_rfl) (by kernel_rfl) (fun _ => by rfl) (by rfl) trivial ?_
            rintro e0 y6 ⟨rfl, hy6⟩
            subst hy6
            refine ⟨_, rfl, trivial, by simp [go_sem, c3], ?_⟩
            simp only [Act.put, List.getElem_toArray, List.getElem_cons_succ, List.getElem_cons_zero, List.setIfInBounds_toArray, List.set_cons_zero, List.set_cons_succ]
            refine wpAnyH_take (i := 4) (v := .int .i64 (pu2 : Int)) rfl (by kernel_rfl) (by kernel_rfl) (by kernel_rfl) (fun _ _ _ h => h) (Or.inl ⟨by rfl, fun wx hx => by simp [go_sem, f8]⟩) hS ?_
            simp only [Act.put, List.getElem_toArray, List.getElem_cons_succ, List.getElem_cons_zero, List.setIfInBounds_toArray, List.set_cons_zero, List.set_cons_succ]
            refine wpAnyH_take (i := 5) (v := .pointer (some ⟨g5, 3, none⟩)) rfl (by kernel_rfl) (by kernel_rfl) (by kernel_rfl) (fun _ _ _ h => h) (Or.inl ⟨by rfl, fun wx hx => by simp [go_sem]⟩) hS ?_
            simp only [Act.put, List.getElem_toArray, List.getElem_cons_succ, List.getElem_cons_zero, List.setIfInBounds_toArray, List.set_cons_zero, List.set_cons_succ]
            refine wpAnyH_skip 6 (y5.drew.setCell ⟨g5, 3, none⟩ (.int .i64 (pu2 : Int))) (by kernel_rfl) rfl (by rfl) (by simp [go_sem, c3, d3]) trivial ?_
            simp only [Act.put]
            refine wpAnyH_done (by kernel_rfl) ?_ _
            obtain ⟨y7, HY7⟩ : ∃ y, Hid (y = y5.drew.setCell ⟨g5, 3, none⟩ (.int .i64 (pu2 : Int))) := ⟨_, rfl⟩
            have ho7 : Only g5 y5.drew y7 := by rw [HY7.out]; exact Only.setCell (Only.refl _ _) _ _
            have HLK7 : Hid (LkA w g2 g5 k gen (.slice a4 kn1 c4) pu2 y7) := HLK6.out.store ho7 (by rw [HY7.out]; exact HLK6.out.f.set 3 _)
            have HTX7 : Hid (TxJ w.heap.size (.slice a4 kn1 c4) (us ++ [.slice ac nx cc]) (xs ++ [x]) y7) := HTX6.out.onlyT ho7 HLK6.out.f (by decide) (by decide)
            rw [← HY7.out]
            clear HY7 ho7 HLK6 HTX6 c3 d3 f8
            obtain ⟨ad2, rc2, hcut, hrd2⟩ := cutFrom2 rb ro rn rc s64 HS64L.out.1 HS64L.out.2.1 HS64L.out.2.2.1
            have HCUT : Hid (∀ (f : Operand → Value) (o : Oper) (x y : Operand), o.op = .slice 23 x (some y) none none → f x = .slice (some ⟨rb, ro, none⟩) rn rc → f y = .int .i64 (s64 : Int) → ∀ w, (execOp f o).run Tryz.prog w = .ok (.value (.slice ad2 (rn - s64) rc2)) w) := hcut
            have HRD2 : Hid (Reads w (.slice ad2 (rn - s64) rc2) (half.drop (p + 64 * secR x.length))) := by
              have h := hrd2 w _ HRD.out
              have e : p + s64 = p + 64 * secR x.length := by rw [HS64.out, HSX.out]; omega
              rw [List.drop_drop, e] at h
              exact h
            have HPP2 : Hid (kn1 = (xs ++ [x]).length ∧ p + 64 * secR x.length = 64 + sizeL (xs ++ [x]) ∧ p + 64 * secR x.length ≤ H ∧ p + 64 * secR x.length = 64 * pu2 ∧ f' + kn1 = H / 64) := by
              have h1 := HPP.out
              have h2 := HXF.out
              refine ⟨hkl.symm, by rw [sizeL_snoc, h1.2.1]; omega, by omega, by rw [HPU.out, HSX.out]; omega, by rw [HKN1.out]; omega⟩
            rw [← HKN1.out] at HRS2
            clear hcut hrd2 hkl
            have tk0 : Hid True := trivial
            have tk1 : Hid True := trivial
            go_wp2_with (first
              | (clear tk0; go_at_call 116; refine (HRSX.out _ HLK7.out.bel).mono ?_; rintro e0 y8 ⟨rfl, hy8⟩; subst hy8)
              | (clear tk1; refine wpSeq_val (.slice ad2 (rn - s64) rc2) _ (by rfl) (HCUT.out _ _ (.tmp 79) (.tmp 82) rfl rfl rfl _) ?_))
            go_roundw
            case rel => exact ⟨ad2, rn - s64, rc2, a4, kn1, c4, _, _, _, pu2, f', rfl, HRD2, HPP2, HLK7, HTX7, HRS2⟩
            case measure => simp only [slLen]; have := HS64L.out; omega
theorem LookA.readsL {w : World} {b : Bs} {k gen : Nat} {vr : Value} {us : List Value} {u : Nat} {cl : Bool} {w' : World} (h : LookA w b k gen vr us u cl w') : ReadsL w' vr (readJ b).2 ∧ (readJ b).1 = gen := by
  by_cases hg : gen = 0
  · have e : readJ b = (0, []) := by rw [readJ, h.pk, if_pos hg]
    rw [e, (h.z hg).1, hg]
    exact ⟨readsL_nil _, rfl⟩
  · have e : readJ b = (gen, (recsOf gen (halfB b k)).1) := by rw [readJ, h.pk, if_neg hg]
    rw [e]
    exact ⟨(h.nz hg).1.readsL, rfl⟩
set_option maxRecDepth 100000 in
set_option maxHeartbeats 8000000 in
theorem jRead_any (v : Value) (b : Bs) (hl : b.length < 8000000) (w : World) (hK : KOk w) (hr : Reads w v b) : Calls Tryz.prog 86 #[v] w fun e w' => ∃ lv, e = .returned (.tuple #[.int .u64 (rdG14 b : Int), lv, .int .i64 (rdX14 b)]) ∧ ReadsL w' lv (rdL14 b) ∧ Below w.heap.size w w' := by
  obtain ⟨ad, cp, hv, hcp, _, hx⟩ := id hr
  obtain ⟨L, HLL⟩ : ∃ n, Hid (n = b.length) := ⟨_, rfl⟩
  rw [← HLL.out] at hv hl
  subst hv
  by_cases hok : okB b
  case neg =>
    rw [show rdG14 b = 0 from if_neg hok, show rdX14 b = 1 from if_neg hok, show rdL14 b = [] from if_neg hok]
    unfold okB at hok
    rw [← HLL.out] at hok
    clear hx hcp hr hK
    by_cases h1 : L % 64 = 0
    · have f1 : (L : Int) % 64 = 0 := by omega
      obtain ⟨q, HQ⟩ : ∃ q, Hid (q = L / 64) := ⟨_, rfl⟩
      have f2 : wrap64 ((L : Int) / 64) = (q : Int) := qJ HQ.out (by omega)
      have q1 : wrap64 ((L : Int) / 64) < 8 := by rw [f2]; have := HQ.out; omega
      have q2 : (L : Int) / 64 < 8 := by omega
      clear f2 hl
      clear hok h1
      go_enter Tryz.func86, Tryz.ntmps86
      go_wp2
      refine bodyPost_ret (results_3J rfl _ _ _) rfl ?_
      exact ⟨_, rfl, readsL_nil _, Below.refl _ _⟩
    · have f1 : ((L : Int) % 64 != 0) = true := by rw [bne_iff_ne]; omega
      clear hok h1
      go_enter Tryz.func86, Tryz.ntmps86
      go_wp2
      refine bodyPost_ret (results_3J rfl _ _ _) rfl ?_
      exact ⟨_, rfl, readsL_nil _, Below.refl _ _⟩
  case pos =>
    rw [show rdG14 b = (readJ b).1 from if_pos hok, show rdX14 b = 0 from if_pos hok, show rdL14 b = (readJ b).2 from if_pos hok]
    obtain ⟨bb, off, rfl, _⟩ := hx (by have := hok.2; omega)
    have HLO : Hid (∀ W, Below w.heap.size w W → Calls Tryz.prog 88 #[.slice (some ⟨bb, off, none⟩) L cp] W fun e w' => LookP W b e w') := fun W hW => jLook_any bb off L cp b hok (by rw [← HLL.out]; exact hl) W (hK.below hW hK.lt) (hr.below hW)
    unfold okB at hok
    rw [← HLL.out] at hok
    have f1 : (L : Int) % 64 = 0 := by omega
    obtain ⟨q, HQ⟩ : ∃ q, Hid (q = L / 64) := ⟨_, rfl⟩
    have f2 : wrap64 ((L : Int) / 64) = (q : Int) := qJ HQ.out (by omega)
    have q1 : ¬ ((q : Int) < 8) := by have := HQ.out; omega
    have q2 : ¬ (wrap64 ((L : Int) / 64) < 8) := by rw [f2]; exact q1
    clear f2
    obtain ⟨l, HL⟩ : ∃ l, Hid (l = (readJ b).2) := ⟨_, rfl⟩
    obtain ⟨gn, HG⟩ : ∃ l, Hid (l = (readJ b).1) := ⟨_, rfl⟩
    rw [← HL.out, ← HG.out]
    clear hok hx hcp hr hl hK
    go_enter Tryz.func86, Tryz.ntmps86
    have tk0 : Hid True := trivial
    have tk1 : Hid True := trivial
    have tk2 : Hid True := trivial
    go_upto_region 4 with (first
      | (clear tk0; go_at_call 88; refine (HLO.out _ (Below.refl _ _)).mono ?_; rintro e0 y1 ⟨k, gen, vr, us, u, cl, rfl, hlk⟩
         obtain ⟨hrl, hgn⟩ := hlk.readsL
         rw [← HL.out] at hrl
         rw [← HG.out] at hgn
         subst hgn
         obtain ⟨a1, n1, c1, hvr⟩ : ∃ a n c, vr = .slice a n c := by obtain ⟨a, c, hv, _⟩ := hrl; exact ⟨_, _, _, hv⟩
         subst hvr
         have HRL : Hid (ReadsL y1 (.slice a1 n1 c1) l) := hrl
         have HBW : Hid (Below w.heap.size w y1) := hlk.bel
         clear hlk hrl)
      | (clear tk1; with_reducible refine wpSeq_allocCt ?_ ?_ ?_
         · rfl
         · rfl
         intro g5 y2 nn
         have HN5 : Hid (NewR ctZ 138 y1 g5 y2) := nn
         clear nn)
      | (clear tk2; with_reducible refine wpSeq_storeRow 138 (.tmp 5) (.tmp 20) g5 ctZ (ctC k gn (.slice a1 n1 c1) u) HN5.out.blk (len_ctZ _ _ _ _) (info_ct _ _ _ _) (ct_one _ _ _ _ _ _) ?_ ?_ ?_ ?_ ?_
         · rfl
         · rfl
         · rfl
         · rfl
         intro y3 hs
         have hb13 : Below y1.heap.size y1 y3 := HN5.out.below.trans (hs.only.below HN5.out.ge HN5.out.below.size)
         have HB5 : Hid (Blk y3 g5 (ctC k gn (.slice a1 n1 c1) u) 138) := hs.blk
         replace HRL : Hid (ReadsL y3 (.slice a1 n1 c1) l) := HRL.out.below hb13
         replace HBW : Hid (Below w.heap.size w y3) := HBW.out.trans (hb13.mono HBW.out.size)
         clear hs hb13 HN5))
    refine wp_region_held_drew (S := fun wx => Blk wx g5 (ctC k gn (.slice a1 n1 c1) u) 138) (by kernel_rfl) HB5.out.drew ?_
    intro hS
    refine wpAnyH_take (i := 0) (v := .pointer (some ⟨g5, 1, none⟩)) rfl (by kernel_rfl) (by kernel_rfl) (by kernel_rfl) (fun _ _ _ h => h) (Or.inl ⟨by rfl, fun wx hx => by simp [go_sem]⟩) hS ?_
    simp only [Act.put, List.getElem_toArray, List.getElem_cons_zero, List.setIfInBounds_toArray, List.set_cons_zero, List.set_cons_succ]
    refine wpAnyH_take (i := 2) (v := .pointer (some ⟨g5, 2, none⟩)) rfl (by kernel_rfl) (by kernel_rfl) (by kernel_rfl) (fun _ _ _ h => h) (Or.inl ⟨by rfl, fun wx hx => by simp [go_sem]⟩) hS ?_
    simp only [Act.put, List.getElem_toArray, List.getElem_cons_succ, List.getElem_cons_zero, List.setIfInBounds_toArray, List.set_cons_zero, List.set_cons_succ]
    refine wpAnyH_take (i := 1) (v := .int .u64 (gn : Int)) rfl (by kernel_rfl) (by kernel_rfl) (by kernel_rfl) (fun _ _ _ h => h) (Or.inl ⟨by rfl, fun wx hx => by (have c1 : wx.cell? ⟨g5, 1, none⟩ = some (.int .u64 (gn : Int)) := hx.cell 1; simp [go_sem, c1])⟩) hS ?_
    simp only [Act.put, List.getElem_toArray, List.getElem_cons_succ, List.getElem_cons_zero, List.setIfInBounds_toArray, List.set_cons_zero, List.set_cons_succ]
    refine wpAnyH_take (i := 3) (v := .slice a1 n1 c1) rfl (by kernel_rfl) (by kernel_rfl) (by kernel_rfl) (fun _ _ _ h => h) (Or.inl ⟨by rfl, fun wx hx => by (have c1 : wx.cell? ⟨g5, 2, none⟩ = some (.slice a1 n1 c1) := hx.cell 2; simp [go_sem, c1])⟩) hS ?_
    simp only [Act.put, List.getElem_toArray, List.getElem_cons_succ, List.getElem_cons_zero, List.setIfInBounds_toArray, List.set_cons_zero, List.set_cons_succ]
    refine wpAnyH_take (i := 4) (v := .int .u64 (gn : Int)) rfl (by kernel_rfl) (by kernel_rfl) (by kernel_rfl) (fun _ _ _ h => h) (Or.inl ⟨by rfl, fun wx hx => by simp [go_sem]⟩) hS ?_
    simp only [Act.put, List.getElem_toArray, List.getElem_cons_succ, List.getElem_cons_zero, List.setIfInBounds_toArray, List.set_cons_zero, List.set_cons_succ]
    refine wpAnyH_take (i := 5) (v := .slice a1 n1 c1) rfl (by kernel_rfl) (by kernel_rfl) (by kernel_rfl) (fun _ _ _ h => h) (Or.inl ⟨by rfl, fun wx hx => by simp [go_sem]⟩) hS ?_
    simp only [Act.put, List.getElem_toArray, List.getElem_cons_succ, List.getElem_cons_zero, List.setIfInBounds_toArray, List.set_cons_zero, List.set_cons_succ]
    refine wpAnyH_take (i := 6) (v := .int .i64 0) rfl (by kernel_rfl) (by kernel_rfl) (by kernel_rfl) (fun _ _ _ h => h) (Or.inl ⟨by rfl, fun wx hx => by simp [go_sem]⟩) hS ?_
    simp only [Act.put, List.getElem_toArray, List.getElem_cons_succ, List.getElem_cons_zero, List.setIfInBounds_toArray, List.set_cons_zero, List.set_cons_succ]
    refine wpAnyH_done (by kernel_rfl) ?_ _
    go_wp2
    refine bodyPost_ret (results_3J rfl _ _ _) rfl ?_
    exact ⟨_, rfl, HRL.out.below ((Below.refl _ _).drew), HBW.out.drew⟩
end Go.Proofs.YtopmeedmgjdcgaaGreatDoor
/- A region that draws its order, in a round of a loop over a function: no other than anywhere. -/
namespace Go.Proofs.YtopmeedmgjdcgaaGreatDoor
open Go.RowKit
set_option maxRecDepth 100000
theorem upon_round {P : Program} {o : Oper} {a : Act} {K : Act → World → Prop} {Q : Exit → Act → World → Prop} {l n : Nat} : ∀ {r : Result Next}, o.upon P a K Q r → o.uponIn (Fence.wide.inRound l) n P a K Q r
  | .ok (.value _) _, h => h
  | .ok .skip _, h => h
  | .ok (.defer _) _, h => h
  | .ok (.enter _ _) _, h => ⟨fun hx => (nomatch hx), CallsIn.inRound l (callsIn_wide.2 h)⟩
  | .ok (.row _ _) _, h => ⟨fun hx => (nomatch hx), fun c cs _ => by
      obtain ⟨v, wq, r, s⟩ := h c cs
      exact ⟨v, wq, r, stepsIn_wide.2 s⟩⟩
  | .halt (.panic _) _, h => h
/-- no operation is put off -/
def noDefer (ops : Array Oper) : Bool := ops.toList.all fun o => match o.op with | .defer _ => false | _ => true
theorem noDefer_at {ops : Array Oper} (h : noDefer ops = true) {i : Nat} {o : Oper} (hi : ops[i]? = some o) (c : _) : o.op ≠ .defer c := by
  intro he
  have h1 := List.all_eq_true.1 h o (by rw [Array.mem_toList_iff]; exact Array.mem_of_getElem? hi)
  rw [he] at h1
  cases h1
theorem wpOp_round {P : Program} {ops : Array Oper} {Q : Exit → Act → World → Prop} {l n : Nat} (hnd : noDefer ops = true) (hQ : ¬ LetsOut Q) {i : Nat} {K K' : Act → World → Prop} (hK : ∀ a w, K a w → K' a w) {a : Act} {w : World} (h : wpOp P ops Q i K a w) : wpOpIn (Fence.wide.inRound l) n P ops Q i K' a w := by
  refine wpOpIn_mono hK ?_
  unfold wpOp at h
  unfold wpOpIn
  cases ho : ops[i]? with
  | none => rw [ho] at h; exact h
  | some o =>
    rw [ho] at h
    simp only at h ⊢
    by_cases hw : Region.wanted o (yielded ops a.tmps) = true
    · rw [if_pos hw] at h ⊢
      rcases h with h | h
      · refine ⟨fun _ _ => trivial, ?_⟩
        rw [Oper.semAt_eq _ _ _ (noDefer_at hnd ho)]
        exact upon_round h
      · exact absurd h.2 hQ
    · rw [if_neg hw] at h ⊢
      exact ⟨fun _ _ => trivial, h⟩
theorem wpAny_round {P : Program} {md : Region.Mode} {ops : Array Oper} {Q : Exit → Act → World → Prop} {l n : Nat} (hnd : noDefer ops = true) (hQ : ¬ LetsOut Q) : ∀ (fuel : Nat) (listed : Array Bool) (a : Act) (w : World), wpAny P md ops Q fuel listed a w → wpAnyIn (Fence.wide.inRound l) n P md ops Q fuel listed a w
  | 0, _, _, _, h => h
  | fuel + 1, _, _, _, h => ⟨h.1, fun i hi => wpOp_round hnd hQ (fun a w h => wpAny_round hnd hQ fuel _ a w h) (h.2 i hi)⟩
/-- a region that draws, in a round -/
theorem wpIn_round_held {P : Program} {ops : Array Oper} {Q : Exit → Act → World → Prop} {S : World → Prop} {l n id : Nat} {a : Act} {w : World} (hm : P.follows .mixedOrders = true) (hnd : noDefer ops = true) (hQ : ¬ LetsOut Q) (hS : S w.drew)
    (h : S w.drew → wpAnyH P .any ops Q S ops.size (Array.replicate ops.size false) a w.drew) : (Code.region id ops true).wpIn (Fence.wide.inRound l) n P Q a w :=
  wpIn_region_any hm (wpAny_round hnd hQ _ _ _ _ (wpAny_of_held _ _ _ _ (h hS)))
theorem wpList_round {P : Program} {ops : Array Oper} {Q : Exit → Act → World → Prop} {m n : Nat} (hQ : ¬ LetsOut Q) : ∀ (l : List Oper) (_ : noDefer l.toArray = true) (a : Act) (w : World), wpList P ops Q l a w → wpListIn (Fence.wide.inRound m) n P ops Q l a w
  | [], _, _, _, h => h
  | o :: rest, hnd, a, w, h => by
    have ho : ∀ c, o.op ≠ .defer c := fun c => noDefer_at hnd (i := 0) rfl c
    have hr : noDefer rest.toArray = true := by
      unfold noDefer at hnd ⊢
      simp only [List.all_cons, Bool.and_eq_true] at hnd
      exact hnd.2
    unfold wpList at h
    unfold wpListIn
    by_cases hw : Region.wanted o (yielded ops a.tmps) = true
    · rw [if_pos hw] at h ⊢
      rcases h with h | h
      · refine Oper.wpIn_mono (fun a w h => wpList_round hQ rest hr a w h) ⟨fun _ _ => trivial, ?_⟩
        rw [Oper.semAt_eq _ _ _ ho]
        exact upon_round h
      · exact absurd h.2 hQ
    · rw [if_neg hw] at h ⊢
      exact ⟨fun _ _ => trivial, wpList_round hQ rest hr _ w h⟩
/-- a region that does not draw, in a round -/
theorem wpIn_round_list {P : Program} {l : List Oper} {Q : Exit → Act → World → Prop} {m n id : Nat} {a : Act} {w : World} (hnd : noDefer l.toArray = true) (hQ : ¬ LetsOut Q) (h : wpList P l.toArray Q l a w) : (Code.region id l.toArray false).wpIn (Fence.wide.inRound m) n P Q a w :=
  wpIn_region_lit (wpList_round hQ l hnd a w h)
end Go.Proofs.YtopmeedmgjdcgaaGreatDoor
/- slices.Chunk over bytes, and the function that it hands out: it yields all sectors, in order (layer 14). -/
namespace Go.Proofs.YtopmeedmgjdcgaaGreatDoor
open Go.RowKit Go.Shelf
set_option maxRecDepth 100000
attribute [local go_sem] Oper.semAt_some
theorem wpSeqIn_val {F : Fence} {n : Nat} {P : Program} {ops : Array Oper} {Q : Exit → Act → World → Prop} {rest : List Oper} {o : Oper} {a : Act} {w : World} (v : Value) (w' : World) (hw : Region.wanted o (yielded ops a.tmps) = true) (hd : ∀ c, o.op ≠ .defer c) (hab : o.about P w a.eval = none)
    (he : (execOp a.eval o).run P w = .ok (.value v) w') (h : wpListIn F n P ops Q rest (a.put o.dst v) w') : wpListIn F n P ops Q (o :: rest) a w := by
  unfold wpListIn
  simp only [hw, if_true]
  unfold Oper.wpIn
  refine ⟨fun f hf => (by rw [hab] at hf; cases hf), ?_⟩
  rw [Oper.semAt_eq _ _ _ hd, he]
  exact h
/-- a new block of one cell -/
structure NewC (v : Value) (t : TypeId) (w : World) (g : Nat) (w' : World) : Prop where
  ge : w.heap.size ≤ g
  blk : Blk w' g [v] t
  below : Below w.heap.size w w'
theorem NewC.of (v : Value) (t : TypeId) (w : World) : NewC v t w w.heap.size (w.alloc (.cells #[v] t)) := ⟨Nat.le_refl _, Blk.new w [v] t, below_alloc w _⟩
theorem blk_own {β : Type} (g : Nat) (cs : β → List Value) (t : TypeId) : Own (fun (s : β) W => Blk W g (cs s) t) := fun s X Y row hs hg hr => by
  have hs' : X.heap[g]? = some (.cells (cs s).toArray t (0, 0)) := hs
  show Y.heap[g]? = some (.cells (cs s).toArray t (0, 0))
  rw [hg.block g (Array.getElem?_eq_some_iff.1 hs').1 (fun e => ?_)]
  · exact hs'
  · obtain ⟨o, ho, hc⟩ := hr g e.symm
    rw [hs'] at ho; cases ho; cases hc
theorem Blk.put {W : World} {g : Nat} {cs : List Value} {t : TypeId} (h : Blk W g cs t) {D : Nat} {o o' : Obj} (hD : W.heap[D]? = some o) (ho : o.isCells = false) : Blk (W.putObj D o') g cs t :=
  blk_own (β := Unit) g (fun _ => cs) t () W _ (some D) h (grownBy_putObj' W D o') (fun r e => by cases e; exact ⟨o, hD, ho⟩)
/-- what stands below n₀ stays, but blocks of R -/
structure KpJ (n₀ : Nat) (R : Nat → Prop) (X Y : World) : Prop where
  os : Y.os = X.os
  tape : Y.tape = X.tape
  output : Y.output = X.output
  size : X.heap.size ≤ Y.heap.size
  block : ∀ k, k < n₀ → ¬ R k → Y.heap[k]? = X.heap[k]?
theorem KpJ.refl (n₀ : Nat) (R : Nat → Prop) (X : World) : KpJ n₀ R X X := ⟨rfl, rfl, rfl, Nat.le_refl _, fun _ _ _ => rfl⟩
theorem KpJ.trans {n₀ : Nat} {R : Nat → Prop} {X Y Z : World} (h : KpJ n₀ R X Y) (k : KpJ n₀ R Y Z) : KpJ n₀ R X Z := ⟨k.os.trans h.os, k.tape.trans h.tape, k.output.trans h.output, Nat.le_trans h.size k.size, fun i hi hr => (k.block i hi hr).trans (h.block i hi hr)⟩
theorem KpJ.blk {n₀ : Nat} {R : Nat → Prop} {X Y : World} (h : KpJ n₀ R X Y) {g : Nat} {cs : List Value} {t : TypeId} (hb : Blk X g cs t) (hg : g < n₀) (hr : ¬ R g) : Blk Y g cs t := by
  unfold Blk at hb ⊢
  rw [h.block g hg hr]
  exact hb
theorem KpJ.below {n₀ : Nat} {R : Nat → Prop} {X Y : World} (h : Below X.heap.size X Y) (hn : n₀ ≤ X.heap.size) : KpJ n₀ R X Y := ⟨h.os, h.tape, h.output, h.size, fun k hk _ => h.block k (Nat.lt_of_lt_of_le hk hn)⟩
theorem KpJ.put {n₀ : Nat} {R : Nat → Prop} {w : World} (hn : n₀ ≤ w.heap.size) (W : World) (l : Nat) (o o' : Obj) (hl : w.heap.size ≤ l) (h : W.heap[l]? = some o) (_ : o.isCells = false) (_ : o.isWalk = false) : KpJ n₀ R W (W.putObj l o') :=
  ⟨(grownBy_putObj' W l o').os, (grownBy_putObj' W l o').tape, (grownBy_putObj' W l o').output, (grownBy_putObj' W l o').size, fun k hk _ => (grownBy_putObj' W l o').block k (by have := (Array.getElem?_eq_some_iff.1 h).1; omega) (fun e => by cases e; omega)⟩
theorem KpJ.mut {R : Nat → Prop} {X Y : World} (h : KpJ X.heap.size R X Y) : Mut R X Y := ⟨h.os, h.tape, h.output, h.size, h.block⟩
theorem box_any (f : Operand → Value) (o : Oper) (ty : TypeId) (x : Operand) (v : Value) (h1 : v.cells = #[v]) (ho : o.op = .box ty x) (hx : f x = v) (w : World) : (execOp f o).run Tryz.prog w = .ok (.value (.pointer (some ⟨w.heap.size, 0, none⟩))) (w.alloc (.cells #[v] ty)) := by
  unfold execOp
  rw [ho]
  simp only [hx]
  show (do let a ← newRow ty v.cells; pure (Next.value (.pointer (some a)))).run Tryz.prog w = _
  rw [h1]
  rfl
set_option maxRecDepth 100000 in
set_option maxHeartbeats 8000000 in
theorem chunk_any (ad : Option Addr) (n c : Nat) (w : World) : Calls Tryz.prog 128 #[.slice ad n c, .int .i64 64] w fun e w' => ∃ gs gn, e = .returned (.func (.func 149) #[] #[.pointer (some ⟨gs, 0, none⟩), .pointer (some ⟨gn, 0, none⟩)]) ∧ Blk w' gs [.slice ad n c] 23 ∧ Blk w' gn [.int .i64 64] 3 ∧ w.heap.size ≤ gs ∧ w.heap.size ≤ gn ∧ Below w.heap.size w w' := by
  go_enter Tryz.func128, Tryz.ntmps128
  go_wp2
  go_ret
  have h1 := below_alloc w (.cells #[.slice ad n c] 23)
  have h2 := below_alloc (w.alloc (.cells #[.slice ad n c] 23)) (.cells #[.int .i64 64] 3)
  have h3 := Blk.new (w.alloc (.cells #[.slice ad n c] 23)) [.int .i64 64] 3
  have h4 := h1.size
  rw [show (w.alloc (.cells #[.slice ad n c] 23)).heap.size = w.heap.size + 1 by simp] at h3 h4
  exact ⟨_, _, rfl, (Blk.new w [.slice ad n c] 23).below h2 (Blk.new w [.slice ad n c] 23).lt, h3, Nat.le_refl _, h4, h1.trans (h2.mono h1.size)⟩
theorem run_min (f : Operand → Value) (o : Oper) (x y : Operand) (n m l : Nat) (hl : l = min n m) (ho : o.op = .call { callee := .builtin .min, args := #[x, y], argTypes := #[3, 3] }) (hx : f x = .int .i64 (n : Int)) (hy : f y = .int .i64 (m : Int)) (w : World) : (execOp f o).run Tryz.prog w = .ok (.value (.int .i64 (l : Int))) w := by
  unfold execOp
  rw [ho]
  first
    | (simp [go_sem, hx, hy]; omega)
    | (simp [go_sem, hx, hy]; split <;> omega)
    | (by_cases hmn : m < n <;> simp [go_sem, hx, hy, hmn] <;> omega)
theorem cutMax (b off n c l m : Nat) (hm : 0 < m) (hn : l + m ≤ n) (hc : n ≤ c) (H : Int) (hH : H = ((l + m : Nat) : Int)) (f : Operand → Value) (o : Oper) (x lo hi mx : Operand) (ho : o.op = .slice 23 x (some lo) (some hi) (some mx)) (hx : f x = .slice (some ⟨b, off, none⟩) n c) (hlo : f lo = .int .i64 (l : Int)) (hhi : f hi = .int .i64 H) (hmx : f mx = .int .i64 H) (w : World) :
    (execOp f o).run Tryz.prog w = .ok (.value (.slice (some ⟨b, off + l, none⟩) m m)) w := by
  subst hH
  have hs : (sizeOf 5).run Tryz.prog w = .ok 1 w := by kernel_rfl
  unfold execOp
  rw [ho]
  simp only [hx, hlo, hhi, hmx, Option.map_some, Sem.run_bind]
  rw [run_sliceAt_slice w 23 _ _ _ _ (by kernel_rfl), run_slice_lhm w 23 _ _ _ (by kernel_rfl) .i64 .i64 .i64 _ _ _ (by omega) (by omega) (by omega) (by omega)]
  rw [show Tryz.prog.elem 23 = 5 from by kernel_rfl, hs]
  simp only [Result.andThen_ok, sliced, Int.toNat_natCast, Nat.mul_one]
  rw [show l + m - l = m by omega, if_neg (by omega)]
  simp [Addr.add_mid]
theorem wpSeqIn_cutMax {F : Fence} {n : Nat} {ops : Array Oper} {Q : Exit → Act → World → Prop} {rest : List Oper} {o : Oper} {a : Act} {w : World} (x lo hi mx : Operand) (b off N c l m : Nat) (H : Int) (hm : 0 < m) (hn : l + m ≤ N) (hc : N ≤ c) (hH : H = ((l + m : Nat) : Int)) (ho : o.op = .slice 23 x (some lo) (some hi) (some mx)) (hx : a.eval x = .slice (some ⟨b, off, none⟩) N c) (hlo : a.eval lo = .int .i64 (l : Int)) (hhi : a.eval hi = .int .i64 H) (hmx : a.eval mx = .int .i64 H) (hw : Region.wanted o (yielded ops a.tmps) = true)
    (h : wpListIn F n Tryz.prog ops Q rest (a.put o.dst (.slice (some ⟨b, off + l, none⟩) m m)) w) : wpListIn F n Tryz.prog ops Q (o :: rest) a w :=
  wpSeqIn_val _ _ hw (by rw [ho]; intro c hc; cases hc) (by simp [Oper.about, ho]) (cutMax b off N c l m hm hn hc H hH _ o x lo hi mx ho hx hlo hhi hmx w) h
/-- the k-th sector of a slice -/
def chV : Value → Nat → Value
  | .slice (some a) _ _, k => .slice (some ⟨a.block, a.off + 64 * k, none⟩) 64 64
  | _, _ => .slice none 0 0
abbrev encsC (v : Value) (m : Nat) (k : Fin m) : Array Value := #[chV v k.val]
/-- the first k places -/
def frs (m k : Nat) : List (Fin m) := (List.finRange m).take k
theorem frs_snoc (m k : Nat) (hk : k < m) : frs m k ++ [⟨k, hk⟩] = frs m (k + 1) := by
  rw [frs, frs, List.take_add_one]
  congr 1
  simp [hk]
theorem frs_val (m k : Nat) (hk : k ≤ m) : (frs m k).map Fin.val = List.range k := by
  rw [frs, List.map_take]
  have e : (List.finRange m).map Fin.val = List.range m := by
    apply List.ext_getElem
    · simp
    · intro i h1 h2
      simp
  rw [e, List.take_range, Nat.min_eq_left hk]
theorem frs_len (m k : Nat) (hk : k ≤ m) : (frs m k).length = k := by
  have := congrArg List.length (frs_val m k hk)
  rw [List.length_map, List.length_range] at this
  exact this
set_option maxRecDepth 100000 in
set_option maxHeartbeats 8000000 in
theorem chunk_stops (n : Nat) {n₀ : Nat} {R : Nat → Prop} {gs gn : Nat} {ad : Option Addr} {N c m : Nat} (hN : N = 64 * m) (hm : m ≤ 100000) (w : World) (hn : n₀ ≤ w.heap.size) (hst : ∀ W, KpJ n₀ R w W → ∃ r, r.length = N ∧ Reads W (.slice ad N c) r) (hB : Blk w gs [.slice ad N c] 23) (hC : Blk w gn [.int .i64 64] 3) (hgs : gs < n₀ ∧ ¬ R gs) (hgn : gn < n₀ ∧ ¬ R gn) :
    SeqStopsK Fence.wide n Tryz.prog 149 #[.pointer (some ⟨gs, 0, none⟩), .pointer (some ⟨gn, 0, none⟩)] (encsC (.slice ad N c) m) (KpJ n₀ R) (fun xs => xs = frs m m) (fun xs => ∃ k, k ≤ m ∧ xs = frs m k) m w := fun lab J Jx W hW hJ hJx hY h0 => by
  have HST : Hid (∀ W, KpJ n₀ R w W → ∃ r, r.length = N ∧ Reads W (.slice ad N c) r) := hst
  have HKW : Hid (KpJ n₀ R w W) := KpJ.below hW hn
  have HBS : Hid (∀ W, KpJ n₀ R w W → Blk W gs [.slice ad N c] 23 ∧ Blk W gn [.int .i64 64] 3) := fun W h => ⟨h.blk hB hgs.1 hgs.2, h.blk hC hgn.1 hgn.2⟩
  have HN : Hid (N = 64 * m ∧ m ≤ 100000) := ⟨hN, hm⟩
  have HY : Aside (∀ pre x W1, J pre W1 → pre.length < m → YieldAt Fence.wide (n - 1) Tryz.prog lab (encsC (.slice ad N c) m x) W1 fun e W' => (e = .returned (.bool true) ∧ J (pre ++ [x]) W' ∧ KpJ n₀ R W1 W') ∨ (e = .returned (.bool false) ∧ Jx (pre ++ [x]) W')) := hY
  have HJ0 : Hid (J (frs m 0) W) := h0
  have HJA : Hid (∀ s X, J s X → J s X.drew) := fun s X hs => hJ s X X.drew none hs ⟨rfl, rfl, rfl, Nat.le_refl _, fun _ _ _ => rfl⟩ (fun r e => by cases e)
  clear hB hC hW hY h0 hJ hJx hst hN hm
  refine callsIn_wide.2 ?_
  simp only [List.append_toArray, List.cons_append, List.nil_append]
  go_enter Tryz.func149, Tryz.ntmps149
  go_wp2
  go_loopw [4] (fun i wr => ∃ k : Nat, k ≤ m ∧ i = .int .i64 ((64 * k : Nat) : Int) ∧ Hid (J (frs m k) wr) ∧ Hid (KpJ n₀ R w wr)) (fun i _ => 64 * m - (intOf i).toNat)
  case atStart => exact ⟨0, Nat.zero_le _, rfl, HJ0, HKW⟩
  case round =>
    clear HJ0 HKW
    obtain ⟨k, hk, rfl, HJK, HKP⟩ := hrel
    have c0 : wr.cell? ⟨gs, 0, none⟩ = some (.slice ad N c) := (HBS.out wr HKP.out).1.cell 0
    by_cases hlt : k < m
    case neg =>
      obtain rfl : k = m := by omega
      have hlk : ¬ (((64 * k : Nat) : Int) < (N : Int)) := by have := HN.out; omega
      go_wp2
      go_end0
      first
        | exact ⟨⟨_, rfl⟩, .inl ⟨_, rfl, HJK.out⟩⟩
        | exact ⟨⟨_, rfl⟩, .inl HJK.out⟩
    case pos =>
      obtain ⟨p, HP⟩ : ∃ p, Hid (p = 64 * k) := ⟨_, rfl⟩
      obtain ⟨p2, HP2⟩ : ∃ q, Hid (q = p + 64) := ⟨_, rfl⟩
      obtain ⟨q, HQ⟩ : ∃ q, Hid (q = N - p) := ⟨_, rfl⟩
      rw [← HP.out]
      have hpn : p + 64 ≤ N ∧ p2 < 10000000 := by have h1 := HN.out; have h2 := HP.out; have h3 := HP2.out; omega
      obtain ⟨r, hrl, hrd⟩ := HST.out wr HKP.out
      obtain ⟨b, off, had⟩ : ∃ b off, ad = some ⟨b, off, none⟩ := by
        obtain ⟨_, _, hv, _, _, hps⟩ := hrd
        simp only [Value.slice.injEq] at hv
        obtain ⟨b, off, h1, _⟩ := hps (by omega)
        exact ⟨b, off, by rw [hv.1]; exact h1⟩
      subst had
      have HCT : Hid (p < N ∧ N ≤ c ∧ p + 64 ≤ N ∧ (p2 : Int) = ((p + 64 : Nat) : Int) ∧ 64 = min 64 (N - p)) := ⟨by omega, (reads_nc hrd).2, hpn.1, by rw [HP2.out], by omega⟩
      have hlk : (p : Int) < (N : Int) := by omega
      have f1 : IntKind.i64.wrap ((p : Int) + 64) = (p2 : Int) := aJ HP2.out (by omega)
      clear hrd hrl hpn
      go_upto_region 3 with fail
      clear c0
      refine wp_region_held_drew (S := fun wx => Blk wx gs [.slice (some ⟨b, off, none⟩) N c] 23 ∧ Blk wx gn [.int .i64 64] 3) (by kernel_rfl) ⟨(HBS.out wr HKP.out).1.drew, (HBS.out wr HKP.out).2.drew⟩ ?_
      intro hS
      refine wpAnyH_take (i := 0) (v := .int .i64 64) rfl (by kernel_rfl) (by kernel_rfl) (by kernel_rfl) (fun _ _ _ h => h) (Or.inl ⟨by rfl, fun wx hx => by (have c0 : wx.cell? ⟨gn, 0, none⟩ = some (.int .i64 64) := hx.2.cell 0; simp [go_sem, c0])⟩) hS ?_
      simp only [Act.put, List.getElem_toArray, List.getElem_cons_zero, List.setIfInBounds_toArray, List.set_cons_zero, List.set_cons_succ]
      refine wpAnyH_take (i := 1) (v := .slice (some ⟨b, off, none⟩) N c) rfl (by kernel_rfl) (by kernel_rfl) (by kernel_rfl) (fun _ _ _ h => h) (Or.inl ⟨by rfl, fun wx hx => by (have c0 : wx.cell? ⟨gs, 0, none⟩ = some (.slice (some ⟨b, off, none⟩) N c) := hx.1.cell 0; simp [go_sem, c0])⟩) hS ?_
      simp only [Act.put, List.getElem_toArray, List.getElem_cons_succ, List.getElem_cons_zero, List.setIfInBounds_toArray, List.set_cons_zero, List.set_cons_succ]
      refine wpAnyH_take (i := 2) (v := .int .i64 (p : Int)) rfl (by kernel_rfl) (by kernel_rfl) (by kernel_rfl) (fun _ _ _ h => h) (Or.inl ⟨by rfl, fun wx hx => by simp [go_sem]⟩) hS ?_
      simp only [Act.put, List.getElem_toArray, List.getElem_cons_succ, List.getElem_cons_zero, List.setIfInBounds_toArray, List.set_cons_zero, List.set_cons_succ]
      refine wpAnyH_take (i := 3) (v := .slice (some ⟨b, off + p, none⟩) (N - p) (c - p)) rfl (by kernel_rfl) (by kernel_rfl) (by kernel_rfl) (fun _ _ _ h => h) (Or.inl ⟨by rfl, fun wx hx => by exact cutFrom b off N c p HCT.out.1 HCT.out.2.1 _ _ (.tmp 14) (.tmp 15) rfl rfl rfl _⟩) hS ?_
      simp only [Act.put, List.getElem_toArray, List.getElem_cons_succ, List.getElem_cons_zero, List.setIfInBounds_toArray, List.set_cons_zero, List.set_cons_succ]
      refine wpAnyH_take (i := 4) (v := .int .i64 ((N - p : Nat) : Int)) rfl (by kernel_rfl) (by kernel_rfl) (by kernel_rfl) (fun _ _ _ h => h) (Or.inl ⟨by rfl, fun wx hx => by simp [go_sem]⟩) hS ?_
      simp only [Act.put, List.getElem_toArray, List.getElem_cons_succ, List.getElem_cons_zero, List.setIfInBounds_toArray, List.set_cons_zero, List.set_cons_succ]
      refine wpAnyH_take (i := 5) (v := .int .i64 64) rfl (by kernel_rfl) (by kernel_rfl) (by kernel_rfl) (fun _ _ _ h => h) (Or.inl ⟨by rfl, fun wx hx => by exact run_min _ _ (.tmp 13) (.tmp 17) 64 (N - p) 64 HCT.out.2.2.2.2 rfl rfl rfl _⟩) hS ?_
      simp only [Act.put, List.getElem_toArray, List.getElem_cons_succ, List.getElem_cons_zero, List.setIfInBounds_toArray, List.set_cons_zero, List.set_cons_succ]
      refine wpAnyH_take (i := 6) (v := .int .i64 64) rfl (by kernel_rfl) (by kernel_rfl) (by kernel_rfl) (fun _ _ _ h => h) (Or.inl ⟨by rfl, fun wx hx => by simp [go_sem]⟩) hS ?_
      simp only [Act.put, List.getElem_toArray, List.getElem_cons_succ, List.getElem_cons_zero, List.setIfInBounds_toArray, List.set_cons_zero, List.set_cons_succ]
      refine wpAnyH_done (by kernel_rfl) ?_ _
      clear hS
      have HKD : Hid (KpJ n₀ R w wr.drew) := ⟨HKP.out.os, HKP.out.tape, HKP.out.output, HKP.out.size, HKP.out.block⟩
      have c0 : wr.drew.cell? ⟨gs, 0, none⟩ = some (.slice (some ⟨b, off, none⟩) N c) := (HBS.out _ HKD.out).1.cell 0
      obtain ⟨fn, tmps, assign, body, hy, hR⟩ := HY.out (frs m k) ⟨k, hlt⟩ wr.drew (HJA.out _ _ HJK.out) (by rw [frs_len m k hk]; exact hlt)
      rw [frs_snoc] at hR
      dsimp only [encsC, chV] at hy
      rw [← HP.out] at hy
      clear HJK
      go_upto_region 4 with fail
      refine (wpIn_wide (n := n)).1 ?_
      gi_wp2_with (first
        | (with_reducible refine wpSeqIn_cutMax (.tmp 20) (.tmp 21) (.tmp 24) (.tmp 27) b off N c p 64 (p2 : Int) (by decide) HCT.out.2.2.1 HCT.out.2.1 HCT.out.2.2.2.1 ?_ ?_ ?_ ?_ ?_ ?_ ?_
           · rfl
           · rfl
           · rfl
           · rfl
           · rfl
           · rfl))
      refine ⟨fun h => (nomatch h), ?_⟩
      refine hR.mono ?_
      clear hR hy c0
      rintro e W3 (⟨rfl, hJ3, hk3⟩ | ⟨rfl, hJx3⟩)
      · have HJ3 : Hid (J (frs m (k + 1)) W3) := hJ3
        have HK3 : Hid (KpJ n₀ R w W3) := HKD.out.trans hk3
        have c1 : W3.cell? ⟨gn, 0, none⟩ = some (.int .i64 64) := (HBS.out _ HK3.out).2.cell 0
        clear hJ3 hk3
        gi_wp2
        go_wp2
        go_roundw
        case rel => exact ⟨k + 1, by omega, by rw [HP2.out, HP.out]; rfl, HJ3, HK3⟩
        case measure => simp only [intOf]; have := HP2.out; have := HP.out; have := HN.out; omega
      · gi_wp2
        go_wp2
        refine bodyPost_ret (results_none rfl _ _ _) rfl ?_
        exact ⟨⟨_, rfl⟩, .inr ⟨_, ⟨k + 1, by omega, rfl⟩, hJx3⟩⟩
end Go.Proofs.YtopmeedmgjdcgaaGreatDoor
/- Plain: logs that are begun, opened again, and appended to (layer 14). -/
namespace Go.Proofs.YtopmeedmgjdcgaaGreatDoor
open Go.RowKit
set_option maxRecDepth 100000
theorem gen_zero (n : Nat) : genH (List.replicate n 0) = 0 := by
  unfold genH
  rw [if_pos]
  left
  rw [List.drop_replicate, List.take_replicate]
  have : ∀ m, rdNum (List.replicate m 0) = 0 := rd_zero
  exact this _
theorem half_zero (n k : Nat) : halfB (List.replicate n 0) k = List.replicate (min (halfN (List.replicate n (0 : BitVec 8))) (n - k * halfN (List.replicate n (0 : BitVec 8)))) 0 := by
  rw [halfB, List.drop_replicate, List.take_replicate]
theorem pick_zero (n : Nat) : pickB (List.replicate n 0) = (0, 0) := by
  unfold pickB
  rw [half_zero, half_zero, gen_zero, gen_zero]
  rfl
/-- a new disk, opened -/
theorem open_zero {m : Nat} (h1 : 8 ≤ m) (h2 : m ≤ 16384) : openX (zeroD m) = 0 ∧ (openS (zeroD m)).2 = ⟨0, 1, []⟩ ∧ Log (openD (zeroD m)) ⟨0, 1, []⟩ ∧ sizeD (openD (zeroD m)) = m := by
  have hl : (List.replicate (64 * m) (0 : BitVec 8)).length = 64 * m := List.length_replicate
  have hp := pick_zero (64 * m)
  have hJ : (openS (zeroD m)).2 = ⟨0, 1, []⟩ := by
    rw [zeroD_load]
    unfold openS
    rw [dump_idle, hp, if_pos rfl]
  obtain ⟨a, b, c, _⟩ := Log.open (s := List.replicate (64 * m) 0) (by rw [hl]; omega) (by rw [hl]; omega) (by rw [hp]; decide)
  rw [← zeroD_load, hJ] at b
  rw [← zeroD_load] at a c
  refine ⟨a, hJ, b, ?_⟩
  rw [c, hl]
  omega
theorem Log.read {D : DkT} {J : JnT} (h : Log D J) : readJ (dumpD D) = (J.gen, J.l) := by
  rw [h.idle, dump_idle]
  exact h.good.read
theorem Log.fits {D : DkT} {J : JnT} (h : Log D J) : 1 + secL J.l ≤ hsD D := by
  have h1 := h.good.size
  have h2 := halfN_eq D.safe
  have h3 := sizeL_eq J.l
  show _ ≤ D.safe.length / 64 / 2
  omega
/-- what the statements' own list is behind an append, and the answer -/
theorem app_ref (D : DkT) (J : JnT) (x : Bs) : (appE J D x = 0 ↔ chkX x ≠ 1 ∧ sizeL (J.l ++ [x]) + 64 ≤ 64 * (sizeD D / 2)) := by
  have h3 := sizeL_eq J.l
  rw [sizeL_snoc]
  unfold appE hsD
  by_cases hc : chkX x = 1
  · rw [if_pos hc]
    exact ⟨(fun e => by cases e), fun e => absurd hc e.1⟩
  · rw [if_neg hc]
    by_cases hs : sizeD D / 2 < 1 + secL J.l + secR x.length
    · rw [if_pos hs]
      exact ⟨(fun e => by cases e), fun e => by omega⟩
    · rw [if_neg hs]
      exact ⟨fun _ => ⟨hc, by omega⟩, fun _ => rfl⟩
end Go.Proofs.YtopmeedmgjdcgaaGreatDoor
/- What journal's functions must do; the statements' own fresh and works (layer 14). -/
namespace Go.Proofs.YtopmeedmgjdcgaaGreatDoor
open Go.RowKit
set_option maxRecDepth 100000
/-- blocks of either -/
def Un (P Q : Nat → Prop) : Nat → Prop := fun k => P k ∨ Q k
/-- a log and its disk that calls are made of -/
structure okJ (D : DkT) (J : JnT) : Prop where
  wt : D.wait = []
  lo : 8 ≤ sizeD D
  hi : sizeD D ≤ 100
  k1 : J.k ≤ 1
  g1 : 1 ≤ J.gen
  g2 : J.gen < 9223372036854775809
  fit : 1 + secL J.l ≤ hsD D
  ne : ∀ x ∈ J.l, x ≠ []
/-- a disk at block gd in blocks of P, and its log at block lg in blocks of Q -/
structure Pk (Lg : World → Nat → (Nat → Prop) → Nat → Nat → JnT → Prop) (w : World) (gd lg : Nat) (P Q : Nat → Prop) (D : DkT) (J : JnT) : Prop where
  dk : DkIs w gd P D
  lg : Lg w lg Q gd (sizeD D) J
  ap : ∀ k, Q k → ¬ P k
theorem DkIs.lt14 {w : World} {g : Nat} {P : Nat → Prop} {D : DkT} (h : DkIs w g P D) : ∀ k, P k → k < w.heap.size := fun k hk => by
  obtain ⟨gs, vw, fu, lf, hm, rfl⟩ := h
  exact hm.lt k hk
theorem Log.okJ {D : DkT} {J : JnT} (h : Log D J) (h1 : 8 ≤ sizeD D) (h2 : sizeD D ≤ 100) (h3 : J.gen < 9223372036854775809) : okJ D J :=
  ⟨by rw [h.idle]; rfl, h1, h2, h.good.hk, h.good.g1, h3, h.fits, fun x hx => (h.good.ne x hx).1⟩
def jn0 : JnT := ⟨0, 1, []⟩
/-- a text of one byte, of a constant: it stays whatever other blocks become -/
theorem wpSeq_constN {ops : Array Oper} {Q : Exit → Act → World → Prop} {rest : List Oper} {o : Oper} {a : Act} (x : Operand) (W : World) (c : BitVec 8) (v : Value) (hv : v = .int .u8 (c.toNat : Int)) (ho : o.op = .convert 23 23 x) (hx : a.eval x = .slice (some ⟨W.heap.size, 0, none⟩) 1 1) (hw : Region.wanted o (yielded ops a.tmps) = true)
    (h : ∀ g w', W.heap.size ≤ g → (∀ (P : Nat → Prop), ¬ P g → Sta P w' (fun X => Reads X (.slice (some ⟨g, 0, none⟩) 1 1) [c])) → Below W.heap.size W w' → wpList Tryz.prog ops Q rest (a.put o.dst (.slice (some ⟨g, 0, none⟩) 1 1)) w') : wpList Tryz.prog ops Q (o :: rest) a (W.alloc (.cells #[v] 5)) := by
  subst hv
  have hr := Go.Lib.run_convert_bytes_const (P := Tryz.prog) W 23 5 #[.int .u8 (c.toNat : Int)] 1 1 Tryz.underlying23 Tryz.underlying5
  refine wpSeq_val (.slice (some ⟨W.heap.size, 0, none⟩) 1 1) (W.alloc (.cells #[.int .u8 (c.toNat : Int)] 5 (1, 2))) hw ?_ (h W.heap.size (W.alloc (.cells #[.int .u8 (c.toNat : Int)] 5 (1, 2))) (Nat.le_refl _) (fun P hP X hX => ?_) (below_alloc _ _))
  · unfold execOp
    rw [ho]
    simp only [hx, Sem.run_bind]
    rw [hr]
    rfl
  · refine ⟨_, 1, rfl, Nat.le_refl _, (fun h => by cases h), fun _ => ⟨_, 0, rfl, fun j hj => ?_⟩⟩
    have hj0 : j = 0 := by simp at hj; exact hj
    subst hj0
    have hb := hX.block W.heap.size (by simp) hP
    unfold World.cell?
    rw [hb, heap_alloc_new W _]
    rfl
end Go.Proofs.YtopmeedmgjdcgaaGreatDoor

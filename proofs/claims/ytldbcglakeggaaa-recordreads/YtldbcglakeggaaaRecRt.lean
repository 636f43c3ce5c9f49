/- The walks of Right, of record and of the reference. -/
import Derived.Test.YtldbcglakeggaaaRecWp
namespace Go.Proofs.Ytldbcglakeggaaa
open Go.RowKit
def rightB (n : Nat) (en : Int) (ix va : List (BitVec 8)) : Bool := decide (n ≤ 256) && (decide (en = 1) || (decide (en = 0) && decide (ix = zb32) && decide (va = zb32)))
theorem wpSeq_allocZ {ops : Array Oper} {Q : Exit → Act → World → Prop} {rest : List Oper} {o : Oper} {a : Act} {w : World} (ho : o.op = .alloc 28) (hw : Region.wanted o (yielded ops a.tmps) = true) {zs : List Value} (hz : zs = cb zb32) {n : Nat} (hn : w.heap.size = n)
    (h : wpList Try.prog ops Q rest (a.put o.dst (.pointer (some ⟨n, 0, none⟩))) (w.alloc (.cells zs.toArray 28))) : wpList Try.prog ops Q (o :: rest) a w := by
  subst hz hn
  exact wpSeq_val _ _ hw (allocDigest _ _ ho _) h
theorem wpSeq_box {ops : Array Oper} {Q : Exit → Act → World → Prop} {rest : List Oper} {o : Oper} {a : Act} {w : World} (ty : TypeId) (x : Operand) (ho : o.op = .box ty x) (cs : List Value) (hx : a.eval x = .agg cs.toArray) (hw : Region.wanted o (yielded ops a.tmps) = true) (w0 : World) (h0 : w0 = w.alloc (.cells cs.toArray ty))
    (h : wpList Try.prog ops Q rest (a.put o.dst (.pointer (some ⟨w.heap.size, 0, none⟩))) w0) : wpList Try.prog ops Q (o :: rest) a w := by
  refine wpSeq_val _ w0 hw ?_ h
  subst h0
  unfold execOp
  rw [ho]
  simp only [hx]
  rfl
theorem buildZ (f : Operand → Value) (o : Oper) (ho : o.op = .build 28 #[]) (w : World) : (execOp f o).run Try.prog w = .ok (.value (.agg (cb zb32).toArray)) w := by
  unfold execOp
  rw [ho]
  kernel_rfl
theorem wpSeq_buildZ {ops : Array Oper} {Q : Exit → Act → World → Prop} {rest : List Oper} {o : Oper} {a : Act} {w : World} (ho : o.op = .build 28 #[]) (hw : Region.wanted o (yielded ops a.tmps) = true) {zs : List Value} (hz : zs = cb zb32)
    (h : wpList Try.prog ops Q rest (a.put o.dst (.agg zs.toArray)) w) : wpList Try.prog ops Q (o :: rest) a w := by
  subst hz
  exact wpSeq_val _ _ hw (buildZ _ _ ho _) h
theorem wpSeq_loadD {ops : Array Oper} {Q : Exit → Act → World → Prop} {rest : List Oper} {o : Oper} {a : Act} {w : World} (x : Operand) (ho : o.op = .load 28 x) (hw : Region.wanted o (yielded ops a.tmps) = true) (b of : Nat) (hx : a.eval x = .pointer (some ⟨b, of, none⟩)) (cs : List Value) (hc : w.rangeAt b of cs) (hi : (Try.prog.info? 28).map (·.size) = some cs.length)
    (h : wpList Try.prog ops Q rest (a.put o.dst (.agg cs.toArray)) w) : wpList Try.prog ops Q (o :: rest) a w :=
  wpSeq_val _ _ hw (load_run 28 x ho b of hx cs _ hc Try.underlying28 rfl hi) h
set_option maxRecDepth 100000 in
set_option maxHeartbeats 2000000 in
theorem rright_any (vs : Value) (ds : List (List (BitVec 8))) (en : Int) (ix va : List (BitVec 8)) (hix : ix.length = 32) (hva : va.length = 32) (w : World) (hs : ReadsD w vs ds) :
    Calls Try.prog 11 #[.agg (prfV vs en ix va).toArray] w fun e w' => e = .returned (.bool (rightB ds.length en ix va)) ∧ Below w.heap.size w w' := by
  have HIX : Hid (ix.length = 32) := hix
  have HVA : Hid (va.length = 32) := hva
  obtain ⟨⟨ad, cp, hv, hq1, hq2, hq3⟩, hq4⟩ := id hs
  clear hq1 hq2 hq3 hq4
  obtain ⟨n, HN⟩ : ∃ m, Hid (m = ds.length) := ⟨_, rfl⟩
  rw [← HN.out] at hv ⊢
  subst hv
  obtain ⟨o, HO⟩ : ∃ o, Hid (o = rightB n en ix va) := ⟨_, rfl⟩
  rw [← HO.out]
  obtain ⟨cs, HCS⟩ : ∃ cs, Hid (cs = (prfV (.slice ad n cp) en ix va)) := ⟨_, rfl⟩
  rw [← HCS.out]
  have HB0 : Hid (Below w.heap.size w (w.alloc (.cells cs.toArray 30))) := below_alloc _ _
  have hBK : Blk (w.alloc (.cells cs.toArray 30)) w.heap.size (prfV (.slice ad n cp) en ix va) 30 := by have := Blk.new w cs 30; rwa [HCS.out] at this ⊢
  have HBK : Hid (Blk (w.alloc (.cells cs.toArray 30)) w.heap.size (prfV (.slice ad n cp) en ix va) 30) := hBK
  have c0 : (w.alloc (.cells cs.toArray 30)).cell? ⟨w.heap.size, 0, none⟩ = some (.slice ad n cp) := hBK.cell 0
  have c1 : (w.alloc (.cells cs.toArray 30)).cell? ⟨w.heap.size, 1, none⟩ = some (.int .i64 en) := hBK.cell 1
  obtain ⟨bx, HBX⟩ : ∃ b, Hid (b = decide (ix = zb32)) := ⟨_, rfl⟩
  obtain ⟨bv, HBV⟩ : ∃ b, Hid (b = decide (va = zb32)) := ⟨_, rfl⟩
  have hex : ∀ wx : World, (Op.equalIn 10000 28 (.agg (cb ix).toArray) (.agg (cb zb32).toArray)).run Try.prog wx = .ok bx wx := fun wx => by rw [HBX.out]; exact eq_dig ix zb32 HIX.out len_zb32 wx
  have hev : ∀ wx : World, (Op.equalIn 10000 28 (.agg (cb va).toArray) (.agg (cb zb32).toArray)).run Try.prog wx = .ok bv wx := fun wx => by rw [HBV.out]; exact eq_dig va zb32 HVA.out len_zb32 wx
  have HRX : Hid ((w.alloc (.cells cs.toArray 30)).rangeAt w.heap.size 2 (cb ix)) := prfV_rix hBK
  have HRV : Hid ((w.alloc (.cells cs.toArray 30)).rangeAt w.heap.size 34 (cb va)) := prfV_rva hBK HIX.out
  have HOI : Hid (o = (decide (n ≤ 256) && (decide (en = 1) || (decide (en = 0) && bx && bv)))) := by show o = _; rw [HO.out, HBX.out, HBV.out]; rfl
  obtain ⟨zs, HZS⟩ : ∃ zs, Hid (zs = cb zb32) := ⟨_, rfl⟩
  obtain ⟨xs, HXS⟩ : ∃ zs, Hid (zs = cb ix) := ⟨_, rfl⟩
  obtain ⟨ys, HYS⟩ : ∃ zs, Hid (zs = cb va) := ⟨_, rfl⟩
  rw [← HZS.out] at hex hev
  rw [← HXS.out] at hex HRX
  rw [← HYS.out] at hev HRV
  have HIXS : Hid ((Try.prog.info? 28).map (·.size) = some xs.length) := by show _ = _; rw [HXS.out]; exact infoD ix HIX.out
  have HIYS : Hid ((Try.prog.info? 28).map (·.size) = some ys.length) := by show _ = _; rw [HYS.out]; exact infoD va HVA.out
  have HIZS : Hid ((Try.prog.info? 28).map (·.size) = some zs.length) := by show _ = _; rw [HZS.out]; exact infoD zb32 len_zb32
  have HZL : Hid (zs.length = 32) := by show _ = _; rw [HZS.out, cb_len, len_zb32]
  clear hix hva hs hBK HO HIX HVA HBX HBV
  have HZ1 : Hid ((w.alloc (.cells cs.toArray 30)).heap.size = w.heap.size + 1) := by show _ = _; simp
  obtain ⟨w0, HW0⟩ : ∃ x, Hid (x = w.alloc (.cells cs.toArray 30)) := ⟨_, rfl⟩
  rw [← HW0.out] at HB0 HBK c0 c1 HRX HRV HZ1
  by_cases hn : n ≤ 256
  · have hni : ¬ ((256 : Int) < (n : Int)) := by omega
    by_cases h1 : en = 1
    · skip
      subst h1
      have ho : o = true := by rw [HOI.out]; simp [hn]
      subst ho
      clear HOI
      go_enter Try.func11, Try.ntmps11
      go_wp2_with (first
          | (with_reducible refine wpSeq_box 30 (.tmp 0) ?_ cs ?_ ?_ w0 ?_ ?_
             · rfl
             · rfl
             · rfl
             · exact HW0.out
             clear HW0)
          | (with_reducible refine wpSeq_buildZ ?_ ?_ HZS.out ?_
             · rfl
             · rfl)
          | (with_reducible refine wpSeq_allocZ ?_ ?_ HZS.out HZ1.out ?_
             · rfl
             · rfl)
          | (with_reducible refine wpList_store_mid ?_ 28 (.tmp 3) (.tmp 8) ?_ (w.heap.size + 1) 0 zs.toArray ?_ ?_ ((Blk.new_at HZ1.out zs 28).there 0 _ (by rw [List.size_toArray]; omega)) (by rw [List.size_toArray]; exact HIZS.out) (all_oneCell_toArray (by rw [HZS.out]; exact cb_one zb32)) ?_
             · rfl
             · rfl
             · rfl
             · rfl
             change wpList _ _ _ _ _ ((w0.alloc (.cells zs.toArray 28)).setCells (w.heap.size + 1) 0 zs)
             have HG2 : Hid (Blk ((w0.alloc (.cells zs.toArray 28)).setCells (w.heap.size + 1) 0 zs) (w.heap.size + 1) zs 28) := (Blk.new_at HZ1.out zs 28).whole zs rfl
             have HB2 : Hid (Below (w.heap.size + 1) w0 ((w0.alloc (.cells zs.toArray 28)).setCells (w.heap.size + 1) 0 zs)) := Below.setCells _ (Nat.le_refl _) _ _ _ ((Below.refl _ _).alloc (by rw [HZ1.out]; exact Nat.le_refl _) _)
             have HRX2 : Hid (((w0.alloc (.cells zs.toArray 28)).setCells (w.heap.size + 1) 0 zs).rangeAt w.heap.size 2 xs) := rangeAt_below HRX.out HB2.out (Nat.lt_succ_self _)
             have HRV2 : Hid (((w0.alloc (.cells zs.toArray 28)).setCells (w.heap.size + 1) 0 zs).rangeAt w.heap.size 34 ys) := rangeAt_below HRV.out HB2.out (Nat.lt_succ_self _)
             have c12 : ((w0.alloc (.cells zs.toArray 28)).setCells (w.heap.size + 1) 0 zs).cell? ⟨w.heap.size, 1, none⟩ = some (.int .i64 _) := (HBK.out.below HB2.out (Nat.lt_succ_self _)).cell 1
             have HBF : Hid (Below w.heap.size w ((w0.alloc (.cells zs.toArray 28)).setCells (w.heap.size + 1) 0 zs)) := HB0.out.trans (HB2.out.mono (Nat.le_succ _))
             clear HB2 HRX HRV c0 c1
             generalize ((w0.alloc (.cells zs.toArray 28)).setCells (w.heap.size + 1) 0 zs) = w2 at *)
          | (with_reducible refine wpSeq_loadD (.tmp 17) ?_ ?_ w.heap.size 2 ?_ xs HRX2.out HIXS.out ?_
             · rfl
             · rfl
             · rfl)
          | (with_reducible refine wpSeq_loadD (.tmp 23) ?_ ?_ w.heap.size 34 ?_ ys HRV2.out HIYS.out ?_
             · rfl
             · rfl
             · rfl)
          | (with_reducible refine wpSeq_loadD (.tmp 3) ?_ ?_ (w.heap.size + 1) 0 ?_ zs HG2.out.range HIZS.out ?_
             · rfl
             · rfl
             · rfl))
      go_ret
      exact ⟨rfl, HBF.out⟩
    · by_cases h2 : en = 0
      · subst h2
        cases bx with
        | false =>
          have ho : o = false := by rw [HOI.out]; simp [hn]
          subst ho
          clear HOI
          go_enter Try.func11, Try.ntmps11
          go_wp2_with (first
              | (with_reducible refine wpSeq_box 30 (.tmp 0) ?_ cs ?_ ?_ w0 ?_ ?_
                 · rfl
                 · rfl
                 · rfl
                 · exact HW0.out
                 clear HW0)
              | (with_reducible refine wpSeq_buildZ ?_ ?_ HZS.out ?_
                 · rfl
                 · rfl)
              | (with_reducible refine wpSeq_allocZ ?_ ?_ HZS.out HZ1.out ?_
                 · rfl
                 · rfl)
              | (with_reducible refine wpList_store_mid ?_ 28 (.tmp 3) (.tmp 8) ?_ (w.heap.size + 1) 0 zs.toArray ?_ ?_ ((Blk.new_at HZ1.out zs 28).there 0 _ (by rw [List.size_toArray]; omega)) (by rw [List.size_toArray]; exact HIZS.out) (all_oneCell_toArray (by rw [HZS.out]; exact cb_one zb32)) ?_
                 · rfl
                 · rfl
                 · rfl
                 · rfl
                 change wpList _ _ _ _ _ ((w0.alloc (.cells zs.toArray 28)).setCells (w.heap.size + 1) 0 zs)
                 have HG2 : Hid (Blk ((w0.alloc (.cells zs.toArray 28)).setCells (w.heap.size + 1) 0 zs) (w.heap.size + 1) zs 28) := (Blk.new_at HZ1.out zs 28).whole zs rfl
                 have HB2 : Hid (Below (w.heap.size + 1) w0 ((w0.alloc (.cells zs.toArray 28)).setCells (w.heap.size + 1) 0 zs)) := Below.setCells _ (Nat.le_refl _) _ _ _ ((Below.refl _ _).alloc (by rw [HZ1.out]; exact Nat.le_refl _) _)
                 have HRX2 : Hid (((w0.alloc (.cells zs.toArray 28)).setCells (w.heap.size + 1) 0 zs).rangeAt w.heap.size 2 xs) := rangeAt_below HRX.out HB2.out (Nat.lt_succ_self _)
                 have HRV2 : Hid (((w0.alloc (.cells zs.toArray 28)).setCells (w.heap.size + 1) 0 zs).rangeAt w.heap.size 34 ys) := rangeAt_below HRV.out HB2.out (Nat.lt_succ_self _)
                 have c12 : ((w0.alloc (.cells zs.toArray 28)).setCells (w.heap.size + 1) 0 zs).cell? ⟨w.heap.size, 1, none⟩ = some (.int .i64 _) := (HBK.out.below HB2.out (Nat.lt_succ_self _)).cell 1
                 have HBF : Hid (Below w.heap.size w ((w0.alloc (.cells zs.toArray 28)).setCells (w.heap.size + 1) 0 zs)) := HB0.out.trans (HB2.out.mono (Nat.le_succ _))
                 clear HB2 HRX HRV c0 c1
                 generalize ((w0.alloc (.cells zs.toArray 28)).setCells (w.heap.size + 1) 0 zs) = w2 at *)
              | (with_reducible refine wpSeq_loadD (.tmp 17) ?_ ?_ w.heap.size 2 ?_ xs HRX2.out HIXS.out ?_
                 · rfl
                 · rfl
                 · rfl)
              | (with_reducible refine wpSeq_loadD (.tmp 23) ?_ ?_ w.heap.size 34 ?_ ys HRV2.out HIYS.out ?_
                 · rfl
                 · rfl
                 · rfl)
              | (with_reducible refine wpSeq_loadD (.tmp 3) ?_ ?_ (w.heap.size + 1) 0 ?_ zs HG2.out.range HIZS.out ?_
                 · rfl
                 · rfl
                 · rfl))
          go_ret
          exact ⟨rfl, HBF.out⟩
        | true =>
          cases bv with
          | false =>
            have ho : o = false := by rw [HOI.out]; simp [hn]
            subst ho
            clear HOI
            go_enter Try.func11, Try.ntmps11
            go_wp2_with (first
                | (with_reducible refine wpSeq_box 30 (.tmp 0) ?_ cs ?_ ?_ w0 ?_ ?_
                   · rfl
                   · rfl
                   · rfl
                   · exact HW0.out
                   clear HW0)
                | (with_reducible refine wpSeq_buildZ ?_ ?_ HZS.out ?_
                   · rfl
                   · rfl)
                | (with_reducible refine wpSeq_allocZ ?_ ?_ HZS.out HZ1.out ?_
                   · rfl
                   · rfl)
                | (with_reducible refine wpList_store_mid ?_ 28 (.tmp 3) (.tmp 8) ?_ (w.heap.size + 1) 0 zs.toArray ?_ ?_ ((Blk.new_at HZ1.out zs 28).there 0 _ (by rw [List.size_toArray]; omega)) (by rw [List.size_toArray]; exact HIZS.out) (all_oneCell_toArray (by rw [HZS.out]; exact cb_one zb32)) ?_
                   · rfl
                   · rfl
                   · rfl
                   · rfl
                   change wpList _ _ _ _ _ ((w0.alloc (.cells zs.toArray 28)).setCells (w.heap.size + 1) 0 zs)
                   have HG2 : Hid (Blk ((w0.alloc (.cells zs.toArray 28)).setCells (w.heap.size + 1) 0 zs) (w.heap.size + 1) zs 28) := (Blk.new_at HZ1.out zs 28).whole zs rfl
                   have HB2 : Hid (Below (w.heap.size + 1) w0 ((w0.alloc (.cells zs.toArray 28)).setCells (w.heap.size + 1) 0 zs)) := Below.setCells _ (Nat.le_refl _) _ _ _ ((Below.refl _ _).alloc (by rw [HZ1.out]; exact Nat.le_refl _) _)
                   have HRX2 : Hid (((w0.alloc (.cells zs.toArray 28)).setCells (w.heap.size + 1) 0 zs).rangeAt w.heap.size 2 xs) := rangeAt_below HRX.out HB2.out (Nat.lt_succ_self _)
                   have HRV2 : Hid (((w0.alloc (.cells zs.toArray 28)).setCells (w.heap.size + 1) 0 zs).rangeAt w.heap.size 34 ys) := rangeAt_below HRV.out HB2.out (Nat.lt_succ_self _)
                   have c12 : ((w0.alloc (.cells zs.toArray 28)).setCells (w.heap.size + 1) 0 zs).cell? ⟨w.heap.size, 1, none⟩ = some (.int .i64 _) := (HBK.out.below HB2.out (Nat.lt_succ_self _)).cell 1
                   have HBF : Hid (Below w.heap.size w ((w0.alloc (.cells zs.toArray 28)).setCells (w.heap.size + 1) 0 zs)) := HB0.out.trans (HB2.out.mono (Nat.le_succ _))
                   clear HB2 HRX HRV c0 c1
                   generalize ((w0.alloc (.cells zs.toArray 28)).setCells (w.heap.size + 1) 0 zs) = w2 at *)
                | (with_reducible refine wpSeq_loadD (.tmp 17) ?_ ?_ w.heap.size 2 ?_ xs HRX2.out HIXS.out ?_
                   · rfl
                   · rfl
                   · rfl)
                | (with_reducible refine wpSeq_loadD (.tmp 23) ?_ ?_ w.heap.size 34 ?_ ys HRV2.out HIYS.out ?_
                   · rfl
                   · rfl
                   · rfl)
                | (with_reducible refine wpSeq_loadD (.tmp 3) ?_ ?_ (w.heap.size + 1) 0 ?_ zs HG2.out.range HIZS.out ?_
                   · rfl
                   · rfl
                   · rfl))
            go_ret
            exact ⟨rfl, HBF.out⟩
          | true =>
            have ho : o = true := by rw [HOI.out]; simp [hn]
            subst ho
            clear HOI
            go_enter Try.func11, Try.ntmps11
            go_wp2_with (first
                | (with_reducible refine wpSeq_box 30 (.tmp 0) ?_ cs ?_ ?_ w0 ?_ ?_
                   · rfl
                   · rfl
                   · rfl
                   · exact HW0.out
                   clear HW0)
                | (with_reducible refine wpSeq_buildZ ?_ ?_ HZS.out ?_
                   · rfl
                   · rfl)
                | (with_reducible refine wpSeq_allocZ ?_ ?_ HZS.out HZ1.out ?_
                   · rfl
                   · rfl)
                | (with_reducible refine wpList_store_mid ?_ 28 (.tmp 3) (.tmp 8) ?_ (w.heap.size + 1) 0 zs.toArray ?_ ?_ ((Blk.new_at HZ1.out zs 28).there 0 _ (by rw [List.size_toArray]; omega)) (by rw [List.size_toArray]; exact HIZS.out) (all_oneCell_toArray (by rw [HZS.out]; exact cb_one zb32)) ?_
                   · rfl
                   · rfl
                   · rfl
                   · rfl
                   change wpList _ _ _ _ _ ((w0.alloc (.cells zs.toArray 28)).setCells (w.heap.size + 1) 0 zs)
                   have HG2 : Hid (Blk ((w0.alloc (.cells zs.toArray 28)).setCells (w.heap.size + 1) 0 zs) (w.heap.size + 1) zs 28) := (Blk.new_at HZ1.out zs 28).whole zs rfl
                   have HB2 : Hid (Below (w.heap.size + 1) w0 ((w0.alloc (.cells zs.toArray 28)).setCells (w.heap.size + 1) 0 zs)) := Below.setCells _ (Nat.le_refl _) _ _ _ ((Below.refl _ _).alloc (by rw [HZ1.out]; exact Nat.le_refl _) _)
                   have HRX2 : Hid (((w0.alloc (.cells zs.toArray 28)).setCells (w.heap.size + 1) 0 zs).rangeAt w.heap.size 2 xs) := rangeAt_below HRX.out HB2.out (Nat.lt_succ_self _)
                   have HRV2 : Hid (((w0.alloc (.cells zs.toArray 28)).setCells (w.heap.size + 1) 0 zs).rangeAt w.heap.size 34 ys) := rangeAt_below HRV.out HB2.out (Nat.lt_succ_self _)
                   have c12 : ((w0.alloc (.cells zs.toArray 28)).setCells (w.heap.size + 1) 0 zs).cell? ⟨w.heap.size, 1, none⟩ = some (.int .i64 _) := (HBK.out.below HB2.out (Nat.lt_succ_self _)).cell 1
                   have HBF : Hid (Below w.heap.size w ((w0.alloc (.cells zs.toArray 28)).setCells (w.heap.size + 1) 0 zs)) := HB0.out.trans (HB2.out.mono (Nat.le_succ _))
                   clear HB2 HRX HRV c0 c1
                   generalize ((w0.alloc (.cells zs.toArray 28)).setCells (w.heap.size + 1) 0 zs) = w2 at *)
                | (with_reducible refine wpSeq_loadD (.tmp 17) ?_ ?_ w.heap.size 2 ?_ xs HRX2.out HIXS.out ?_
                   · rfl
                   · rfl
                   · rfl)
                | (with_reducible refine wpSeq_loadD (.tmp 23) ?_ ?_ w.heap.size 34 ?_ ys HRV2.out HIYS.out ?_
                   · rfl
                   · rfl
                   · rfl)
                | (with_reducible refine wpSeq_loadD (.tmp 3) ?_ ?_ (w.heap.size + 1) 0 ?_ zs HG2.out.range HIZS.out ?_
                   · rfl
                   · rfl
                   · rfl))
            go_ret
            exact ⟨rfl, HBF.out⟩
      · have e1 : (en == 1) = false := by simp [h1]
        have e2 : (en == 0) = false := by simp [h2]
        have e3 : (en != 1) = true := by simp [h1]
        have e4 : (en != 0) = true := by simp [h2]
        have ho : o = false := by rw [HOI.out]; simp [hn, h1, h2]
        subst ho
        clear HOI
        go_enter Try.func11, Try.ntmps11
        go_wp2_with (first
            | (with_reducible refine wpSeq_box 30 (.tmp 0) ?_ cs ?_ ?_ w0 ?_ ?_
               · rfl
               · rfl
               · rfl
               · exact HW0.out
               clear HW0)
            | (with_reducible refine wpSeq_buildZ ?_ ?_ HZS.out ?_
               · rfl
               · rfl)
            | (with_reducible refine wpSeq_allocZ ?_ ?_ HZS.out HZ1.out ?_
               · rfl
               · rfl)
            | (with_reducible refine wpList_store_mid ?_ 28 (.tmp 3) (.tmp 8) ?_ (w.heap.size + 1) 0 zs.toArray ?_ ?_ ((Blk.new_at HZ1.out zs 28).there 0 _ (by rw [List.size_toArray]; omega)) (by rw [List.size_toArray]; exact HIZS.out) (all_oneCell_toArray (by rw [HZS.out]; exact cb_one zb32)) ?_
               · rfl
               · rfl
               · rfl
               · rfl
               change wpList _ _ _ _ _ ((w0.alloc (.cells zs.toArray 28)).setCells (w.heap.size + 1) 0 zs)
               have HG2 : Hid (Blk ((w0.alloc (.cells zs.toArray 28)).setCells (w.heap.size + 1) 0 zs) (w.heap.size + 1) zs 28) := (Blk.new_at HZ1.out zs 28).whole zs rfl
               have HB2 : Hid (Below (w.heap.size + 1) w0 ((w0.alloc (.cells zs.toArray 28)).setCells (w.heap.size + 1) 0 zs)) := Below.setCells _ (Nat.le_refl _) _ _ _ ((Below.refl _ _).alloc (by rw [HZ1.out]; exact Nat.le_refl _) _)
               have HRX2 : Hid (((w0.alloc (.cells zs.toArray 28)).setCells (w.heap.size + 1) 0 zs).rangeAt w.heap.size 2 xs) := rangeAt_below HRX.out HB2.out (Nat.lt_succ_self _)
               have HRV2 : Hid (((w0.alloc (.cells zs.toArray 28)).setCells (w.heap.size + 1) 0 zs).rangeAt w.heap.size 34 ys) := rangeAt_below HRV.out HB2.out (Nat.lt_succ_self _)
               have c12 : ((w0.alloc (.cells zs.toArray 28)).setCells (w.heap.size + 1) 0 zs).cell? ⟨w.heap.size, 1, none⟩ = some (.int .i64 _) := (HBK.out.below HB2.out (Nat.lt_succ_self _)).cell 1
               have HBF : Hid (Below w.heap.size w ((w0.alloc (.cells zs.toArray 28)).setCells (w.heap.size + 1) 0 zs)) := HB0.out.trans (HB2.out.mono (Nat.le_succ _))
               clear HB2 HRX HRV c0 c1
               generalize ((w0.alloc (.cells zs.toArray 28)).setCells (w.heap.size + 1) 0 zs) = w2 at *)
            | (with_reducible refine wpSeq_loadD (.tmp 17) ?_ ?_ w.heap.size 2 ?_ xs HRX2.out HIXS.out ?_
               · rfl
               · rfl
               · rfl)
            | (with_reducible refine wpSeq_loadD (.tmp 23) ?_ ?_ w.heap.size 34 ?_ ys HRV2.out HIYS.out ?_
               · rfl
               · rfl
               · rfl)
            | (with_reducible refine wpSeq_loadD (.tmp 3) ?_ ?_ (w.heap.size + 1) 0 ?_ zs HG2.out.range HIZS.out ?_
               · rfl
               · rfl
               · rfl))
        go_ret
        exact ⟨by first | rfl | simp, HBF.out⟩
  · have hni : (256 : Int) < (n : Int) := by omega
    have ho : o = false := by rw [HOI.out]; rw [decide_eq_false hn]; rfl
    subst ho
    clear HOI
    go_enter Try.func11, Try.ntmps11
    go_wp2_with (first
        | (with_reducible refine wpSeq_box 30 (.tmp 0) ?_ cs ?_ ?_ w0 ?_ ?_
           · rfl
           · rfl
           · rfl
           · exact HW0.out
           clear HW0)
        | (with_reducible refine wpSeq_buildZ ?_ ?_ HZS.out ?_
           · rfl
           · rfl)
        | (with_reducible refine wpSeq_allocZ ?_ ?_ HZS.out HZ1.out ?_
           · rfl
           · rfl)
        | (with_reducible refine wpList_store_mid ?_ 28 (.tmp 3) (.tmp 8) ?_ (w.heap.size + 1) 0 zs.toArray ?_ ?_ ((Blk.new_at HZ1.out zs 28).there 0 _ (by rw [List.size_toArray]; omega)) (by rw [List.size_toArray]; exact HIZS.out) (all_oneCell_toArray (by rw [HZS.out]; exact cb_one zb32)) ?_
           · rfl
           · rfl
           · rfl
           · rfl
           change wpList _ _ _ _ _ ((w0.alloc (.cells zs.toArray 28)).setCells (w.heap.size + 1) 0 zs)
           have HG2 : Hid (Blk ((w0.alloc (.cells zs.toArray 28)).setCells (w.heap.size + 1) 0 zs) (w.heap.size + 1) zs 28) := (Blk.new_at HZ1.out zs 28).whole zs rfl
           have HB2 : Hid (Below (w.heap.size + 1) w0 ((w0.alloc (.cells zs.toArray 28)).setCells (w.heap.size + 1) 0 zs)) := Below.setCells _ (Nat.le_refl _) _ _ _ ((Below.refl _ _).alloc (by rw [HZ1.out]; exact Nat.le_refl _) _)
           have HRX2 : Hid (((w0.alloc (.cells zs.toArray 28)).setCells (w.heap.size + 1) 0 zs).rangeAt w.heap.size 2 xs) := rangeAt_below HRX.out HB2.out (Nat.lt_succ_self _)
           have HRV2 : Hid (((w0.alloc (.cells zs.toArray 28)).setCells (w.heap.size + 1) 0 zs).rangeAt w.heap.size 34 ys) := rangeAt_below HRV.out HB2.out (Nat.lt_succ_self _)
           have c12 : ((w0.alloc (.cells zs.toArray 28)).setCells (w.heap.size + 1) 0 zs).cell? ⟨w.heap.size, 1, none⟩ = some (.int .i64 _) := (HBK.out.below HB2.out (Nat.lt_succ_self _)).cell 1
           have HBF : Hid (Below w.heap.size w ((w0.alloc (.cells zs.toArray 28)).setCells (w.heap.size + 1) 0 zs)) := HB0.out.trans (HB2.out.mono (Nat.le_succ _))
           clear HB2 HRX HRV c0 c1
           generalize ((w0.alloc (.cells zs.toArray 28)).setCells (w.heap.size + 1) 0 zs) = w2 at *)
        | (with_reducible refine wpSeq_loadD (.tmp 17) ?_ ?_ w.heap.size 2 ?_ xs HRX2.out HIXS.out ?_
           · rfl
           · rfl
           · rfl)
        | (with_reducible refine wpSeq_loadD (.tmp 23) ?_ ?_ w.heap.size 34 ?_ ys HRV2.out HIYS.out ?_
           · rfl
           · rfl
           · rfl)
        | (with_reducible refine wpSeq_loadD (.tmp 3) ?_ ?_ (w.heap.size + 1) 0 ?_ zs HG2.out.range HIZS.out ?_
           · rfl
           · rfl
           · rfl))
    go_ret
    exact ⟨rfl, HB0.out⟩
set_option maxRecDepth 100000 in
set_option maxHeartbeats 2000000 in
theorem rfright_any (vs : Value) (ds : List (List (BitVec 8))) (en : Int) (ix va : List (BitVec 8)) (hix : ix.length = 32) (hva : va.length = 32) (w : World) (hs : ReadsD w vs ds) :
    Calls Try.prog 12 #[.agg (prfV vs en ix va).toArray] w fun e w' => e = .returned (.bool (rightB ds.length en ix va)) ∧ Below w.heap.size w w' := by
  have HIX : Hid (ix.length = 32) := hix
  have HVA : Hid (va.length = 32) := hva
  obtain ⟨⟨ad, cp, hv, hq1, hq2, hq3⟩, hq4⟩ := id hs
  clear hq1 hq2 hq3 hq4
  obtain ⟨n, HN⟩ : ∃ m, Hid (m = ds.length) := ⟨_, rfl⟩
  rw [← HN.out] at hv ⊢
  subst hv
  obtain ⟨o, HO⟩ : ∃ o, Hid (o = rightB n en ix va) := ⟨_, rfl⟩
  rw [← HO.out]
  obtain ⟨cs, HCS⟩ : ∃ cs, Hid (cs = (prfV (.slice ad n cp) en ix va)) := ⟨_, rfl⟩
  rw [← HCS.out]
  have HB0 : Hid (Below w.heap.size w (w.alloc (.cells cs.toArray 30))) := below_alloc _ _
  have hBK : Blk (w.alloc (.cells cs.toArray 30)) w.heap.size (prfV (.slice ad n cp) en ix va) 30 := by have := Blk.new w cs 30; rwa [HCS.out] at this ⊢
  have HBK : Hid (Blk (w.alloc (.cells cs.toArray 30)) w.heap.size (prfV (.slice ad n cp) en ix va) 30) := hBK
  have c0 : (w.alloc (.cells cs.toArray 30)).cell? ⟨w.heap.size, 0, none⟩ = some (.slice ad n cp) := hBK.cell 0
  have c1 : (w.alloc (.cells cs.toArray 30)).cell? ⟨w.heap.size, 1, none⟩ = some (.int .i64 en) := hBK.cell 1
  obtain ⟨bx, HBX⟩ : ∃ b, Hid (b = decide (ix = zb32)) := ⟨_, rfl⟩
  obtain ⟨bv, HBV⟩ : ∃ b, Hid (b = decide (va = zb32)) := ⟨_, rfl⟩
  have hex : ∀ wx : World, (Op.equalIn 10000 28 (.agg (cb ix).toArray) (.agg (cb zb32).toArray)).run Try.prog wx = .ok bx wx := fun wx => by rw [HBX.out]; exact eq_dig ix zb32 HIX.out len_zb32 wx
  have hev : ∀ wx : World, (Op.equalIn 10000 28 (.agg (cb va).toArray) (.agg (cb zb32).toArray)).run Try.prog wx = .ok bv wx := fun wx => by rw [HBV.out]; exact eq_dig va zb32 HVA.out len_zb32 wx
  have HRX : Hid ((w.alloc (.cells cs.toArray 30)).rangeAt w.heap.size 2 (cb ix)) := prfV_rix hBK
  have HRV : Hid ((w.alloc (.cells cs.toArray 30)).rangeAt w.heap.size 34 (cb va)) := prfV_rva hBK HIX.out
  have HOI : Hid (o = (decide (n ≤ 256) && (decide (en = 1) || (decide (en = 0) && bx && bv)))) := by show o = _; rw [HO.out, HBX.out, HBV.out]; rfl
  obtain ⟨zs, HZS⟩ : ∃ zs, Hid (zs = cb zb32) := ⟨_, rfl⟩
  obtain ⟨xs, HXS⟩ : ∃ zs, Hid (zs = cb ix) := ⟨_, rfl⟩
  obtain ⟨ys, HYS⟩ : ∃ zs, Hid (zs = cb va) := ⟨_, rfl⟩
  rw [← HZS.out] at hex hev
  rw [← HXS.out] at hex HRX
  rw [← HYS.out] at hev HRV
  have HIXS : Hid ((Try.prog.info? 28).map (·.size) = some xs.length) := by show _ = _; rw [HXS.out]; exact infoD ix HIX.out
  have HIYS : Hid ((Try.prog.info? 28).map (·.size) = some ys.length) := by show _ = _; rw [HYS.out]; exact infoD va HVA.out
  have HIZS : Hid ((Try.prog.info? 28).map (·.size) = some zs.length) := by show _ = _; rw [HZS.out]; exact infoD zb32 len_zb32
  have HZL : Hid (zs.length = 32) := by show _ = _; rw [HZS.out, cb_len, len_zb32]
  clear hix hva hs hBK HO HIX HVA HBX HBV
  have HZ1 : Hid ((w.alloc (.cells cs.toArray 30)).heap.size = w.heap.size + 1) := by show _ = _; simp
  obtain ⟨w0, HW0⟩ : ∃ x, Hid (x = w.alloc (.cells cs.toArray 30)) := ⟨_, rfl⟩
  rw [← HW0.out] at HB0 HBK c0 c1 HRX HRV HZ1
  by_cases hn : n ≤ 256
  · have hni : ¬ ((256 : Int) < (n : Int)) := by omega
    by_cases h1 : en = 1
    · skip
      subst h1
      have ho : o = true := by rw [HOI.out]; simp [hn]
      subst ho
      clear HOI
      go_enter Try.func12, Try.ntmps12
      go_wp2_with (first
          | (with_reducible refine wpSeq_box 30 (.tmp 0) ?_ cs ?_ ?_ w0 ?_ ?_
             · rfl
             · rfl
             · rfl
             · exact HW0.out
             clear HW0)
          | (with_reducible refine wpSeq_buildZ ?_ ?_ HZS.out ?_
             · rfl
             · rfl)
          | (with_reducible refine wpSeq_loadD (.tmp 21) ?_ ?_ w.heap.size 2 ?_ xs HRX.out HIXS.out ?_
             · rfl
             · rfl
             · rfl)
          | (with_reducible refine wpSeq_loadD (.tmp 26) ?_ ?_ w.heap.size 34 ?_ ys HRV.out HIYS.out ?_
             · rfl
             · rfl
             · rfl))
      go_ret
      exact ⟨rfl, HB0.out⟩
    · by_cases h2 : en = 0
      · subst h2
        cases bx with
        | false =>
          have ho : o = false := by rw [HOI.out]; simp [hn]
          subst ho
          clear HOI
          go_enter Try.func12, Try.ntmps12
          go_wp2_with (first
              | (with_reducible refine wpSeq_box 30 (.tmp 0) ?_ cs ?_ ?_ w0 ?_ ?_
                 · rfl
                 · rfl
                 · rfl
                 · exact HW0.out
                 clear HW0)
              | (with_reducible refine wpSeq_buildZ ?_ ?_ HZS.out ?_
                 · rfl
                 · rfl)
              | (with_reducible refine wpSeq_loadD (.tmp 21) ?_ ?_ w.heap.size 2 ?_ xs HRX.out HIXS.out ?_
                 · rfl
                 · rfl
                 · rfl)
              | (with_reducible refine wpSeq_loadD (.tmp 26) ?_ ?_ w.heap.size 34 ?_ ys HRV.out HIYS.out ?_
                 · rfl
                 · rfl
                 · rfl))
          go_ret
          exact ⟨rfl, HB0.out⟩
        | true =>
          cases bv with
          | false =>
            have ho : o = false := by rw [HOI.out]; simp [hn]
            subst ho
            clear HOI
            go_enter Try.func12, Try.ntmps12
            go_wp2_with (first
                | (with_reducible refine wpSeq_box 30 (.tmp 0) ?_ cs ?_ ?_ w0 ?_ ?_
                   · rfl
                   · rfl
                   · rfl
                   · exact HW0.out
                   clear HW0)
                | (with_reducible refine wpSeq_buildZ ?_ ?_ HZS.out ?_
                   · rfl
                   · rfl)
                | (with_reducible refine wpSeq_loadD (.tmp 21) ?_ ?_ w.heap.size 2 ?_ xs HRX.out HIXS.out ?_
                   · rfl
                   · rfl
                   · rfl)
                | (with_reducible refine wpSeq_loadD (.tmp 26) ?_ ?_ w.heap.size 34 ?_ ys HRV.out HIYS.out ?_
                   · rfl
                   · rfl
                   · rfl))
            go_ret
            exact ⟨rfl, HB0.out⟩
          | true =>
            have ho : o = true := by rw [HOI.out]; simp [hn]
            subst ho
            clear HOI
            go_enter Try.func12, Try.ntmps12
            go_wp2_with (first
                | (with_reducible refine wpSeq_box 30 (.tmp 0) ?_ cs ?_ ?_ w0 ?_ ?_
                   · rfl
                   · rfl
                   · rfl
                   · exact HW0.out
                   clear HW0)
                | (with_reducible refine wpSeq_buildZ ?_ ?_ HZS.out ?_
                   · rfl
                   · rfl)
                | (with_reducible refine wpSeq_loadD (.tmp 21) ?_ ?_ w.heap.size 2 ?_ xs HRX.out HIXS.out ?_
                   · rfl
                   · rfl
                   · rfl)
                | (with_reducible refine wpSeq_loadD (.tmp 26) ?_ ?_ w.heap.size 34 ?_ ys HRV.out HIYS.out ?_
                   · rfl
                   · rfl
                   · rfl))
            go_ret
            exact ⟨rfl, HB0.out⟩
      · have e1 : (en == 1) = false := by simp [h1]
        have e2 : (en == 0) = false := by simp [h2]
        have e3 : (en != 1) = true := by simp [h1]
        have e4 : (en != 0) = true := by simp [h2]
        have ho : o = false := by rw [HOI.out]; simp [hn, h1, h2]
        subst ho
        clear HOI
        go_enter Try.func12, Try.ntmps12
        go_wp2_with (first
            | (with_reducible refine wpSeq_box 30 (.tmp 0) ?_ cs ?_ ?_ w0 ?_ ?_
               · rfl
               · rfl
               · rfl
               · exact HW0.out
               clear HW0)
            | (with_reducible refine wpSeq_buildZ ?_ ?_ HZS.out ?_
               · rfl
               · rfl)
            | (with_reducible refine wpSeq_loadD (.tmp 21) ?_ ?_ w.heap.size 2 ?_ xs HRX.out HIXS.out ?_
               · rfl
               · rfl
               · rfl)
            | (with_reducible refine wpSeq_loadD (.tmp 26) ?_ ?_ w.heap.size 34 ?_ ys HRV.out HIYS.out ?_
               · rfl
               · rfl
               · rfl))
        go_ret
        exact ⟨by first | rfl | simp, HB0.out⟩
  · have hni : (256 : Int) < (n : Int) := by omega
    have ho : o = false := by rw [HOI.out]; rw [decide_eq_false hn]; rfl
    subst ho
    clear HOI
    go_enter Try.func12, Try.ntmps12
    go_wp2_with (first
        | (with_reducible refine wpSeq_box 30 (.tmp 0) ?_ cs ?_ ?_ w0 ?_ ?_
           · rfl
           · rfl
           · rfl
           · exact HW0.out
           clear HW0)
        | (with_reducible refine wpSeq_buildZ ?_ ?_ HZS.out ?_
           · rfl
           · rfl)
        | (with_reducible refine wpSeq_loadD (.tmp 21) ?_ ?_ w.heap.size 2 ?_ xs HRX.out HIXS.out ?_
           · rfl
           · rfl
           · rfl)
        | (with_reducible refine wpSeq_loadD (.tmp 26) ?_ ?_ w.heap.size 34 ?_ ys HRV.out HIYS.out ?_
           · rfl
           · rfl
           · rfl))
    go_ret
    exact ⟨rfl, HB0.out⟩
end Go.Proofs.Ytldbcglakeggaaa

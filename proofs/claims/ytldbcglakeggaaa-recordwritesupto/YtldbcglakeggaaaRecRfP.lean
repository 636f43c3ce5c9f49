/- The walk of the reference's Proof. -/
import Derived.Test.YtldbcglakeggaaaRecRfQ
namespace Go.Proofs.Ytldbcglakeggaaa
open Go.RowKit
theorem reads_range {w : World} {b off : Nat} {d : List (BitVec 8)} (h : w.rangeAt b off (cb d)) (hd : d.length = 32) : Reads w (.slice (some ⟨b, off, none⟩) 32 32) d :=
  ⟨_, 32, by rw [hd], by omega, (fun h => by cases h), fun _ => ⟨b, off, rfl, fun j hj => h j _ (cb_get d j hj)⟩⟩
theorem one_of {en : Int} (h : Fit en) : u64of en = 1 ↔ en = 1 := by
  obtain ⟨h1, h2⟩ := h
  unfold u64of
  omega
structure RpfI (wa : World) (l : List (BitVec 8)) (v : Value) (W : World) : Prop where
  own : OwnB W wa.heap.size v l
  ov : Over wa W
set_option maxRecDepth 100000 in
set_option maxHeartbeats 8000000 in
theorem rfproof_any (vs : Value) (ds : List (List (BitVec 8))) (en : Int) (ix va : List (BitVec 8)) (hen : Fit en) (hix : ix.length = 32) (hva : va.length = 32) (w : World) (hs : ReadsD w vs ds) (hl : ds.length ≤ 1000000000) :
    Calls Try.prog 22 #[.agg (prfV vs en ix va).toArray] w fun e w' => ∃ v', e = .returned v' ∧ Reads w' v' (encProof (ds, u64of en, ix, va)) ∧ Below w.heap.size w w' := by
  have HS : Hid (ReadsD w vs ds) := hs
  have HL : Hid (ds.length ≤ 1000000000) := hl
  have HXV : Hid (ix.length = 32 ∧ va.length = 32) := ⟨hix, hva⟩
  have HT : Hid (u64of en = 1 ↔ en = 1) := one_of hen
  obtain ⟨ku, HKU⟩ : ∃ k, Hid (k = u64of en) := ⟨_, rfl⟩
  have hwr : IntKind.u64.wrap en = (ku : Int) := by rw [HKU.out]; exact wrap_u64of en
  have HLT : Hid (ku < 18446744073709551616) := by show _ < _; rw [HKU.out]; exact u64of_lt en
  obtain ⟨⟨sad, scp, hv, _, _, _⟩, _⟩ := hs
  obtain ⟨n, HN⟩ : ∃ n, Hid (n = ds.length) := ⟨_, rfl⟩
  rw [← HN.out] at hv
  subst hv
  have hn9 : n ≤ 1000000000 := by rw [HN.out]; exact hl
  have hwn : IntKind.u64.wrap (n : Int) = (n : Int) := by rw [IntKind.wrap_u64]; omega
  have HN9 : Hid (n ≤ 1000000000) := hn9
  clear hl hen hix hva hn9
  obtain ⟨cs, HCS⟩ : ∃ c, Hid (c = prfV (.slice sad n scp) en ix va) := ⟨_, rfl⟩
  rw [← HCS.out]
  go_enter Try.func22, Try.ntmps22
  go_upto_region 1 with (first
    | (with_reducible refine wpSeq_box 30 (.tmp 0) ?_ cs ?_ ?_ (w.alloc (.cells cs.toArray 30)) ?_ ?_
       · rfl
       · rfl
       · rfl
       · rfl
       have n0 : Blk (w.alloc (.cells cs.toArray 30)) w.heap.size cs 30 := Blk.new w cs _
       have b0 := below_alloc w (.cells cs.toArray 30)
       obtain ⟨wa, HW0⟩ : ∃ z, Hid (z = w.alloc (.cells cs.toArray 30)) := ⟨_, rfl⟩
       obtain ⟨g, HGG0⟩ : ∃ z, Hid (z = w.heap.size) := ⟨_, rfl⟩
       rw [← HW0.out] at n0 b0 ⊢
       rw [← HGG0.out] at n0 ⊢
       clear HW0 HGG0))
  have HB1 : Hid (Below w.heap.size w wa) := b0
  have C0 : Hid (wa.cell? ⟨g, 0, none⟩ = some (.slice sad n scp)) := by show _ = _; rw [n0.cell, HCS.out]; rfl
  have C1 : Hid (wa.cell? ⟨g, 1, none⟩ = some (.int .i64 en)) := by show _ = _; rw [n0.cell, HCS.out]; rfl
  have RX : Hid (Reads wa (.slice (some ⟨g, 2, none⟩) 32 32) ix) := reads_range (prfV_rix (by rw [← HCS.out]; exact n0)) HXV.out.1
  have RV : Hid (Reads wa (.slice (some ⟨g, 34, none⟩) 32 32) va) := reads_range (prfV_rva (by rw [← HCS.out]; exact n0) HXV.out.1) HXV.out.2
  have RS : Hid (ReadsD wa (.slice sad n scp) ds) := HS.out.below b0
  have hc0 : wa.cell? ⟨g, 0, none⟩ = some (.slice sad n scp) := C0.out
  clear n0 b0 HS
  go_wp2_with (go_at_call 42; refine (qnum_any n (by have := HN9.out; omega) _).mono ?_; rintro e w2 ⟨v2, rfl, ho2, hb2⟩)
  have HI0 : Hid (RpfI wa (encNum n ++ encAll (fun a => a) (ds.take 0)) v2 w2) := ⟨by simpa [encAll] using ho2, hb2⟩
  clear hc0 ho2 hb2
  go_loopw [3, 4] (fun u i wr => ∃ k : Nat, k ≤ n ∧ i = .int .i64 (k : Int) ∧ RpfI wa (encNum n ++ encAll (fun a => a) (ds.take k)) u wr) (fun _ i _ => n - (intOf i).toNat)
  case atStart => exact ⟨0, by omega, rfl, HI0.out⟩
  case round =>
    clear HI0
    obtain ⟨k, hk, rfl, hI⟩ := hrel
    have HI : Hid (RpfI wa (encNum n ++ encAll (fun a => a) (ds.take k)) u3 wr) := hI
    clear hI
    have hc0 : wr.cell? ⟨g, 0, none⟩ = some (.slice sad n scp) := below_cellO HI.out.ov C0.out
    have HLB : Hid ((encNum n ++ encAll (fun a => a) (ds.take k)).length ≤ 40000000000) := by
      show _ ≤ _
      have h1 := allT_len RS.out.2 k
      have h2 := enc_len10 n (by have := HN9.out; omega)
      have h3 := HL.out
      rw [List.length_append]; omega
    by_cases hlt : k < n
    · have hlti : (k : Int) < (n : Int) := by omega
      have k0 : (0 : Int) ≤ (k : Int) := by omega
      have f5 : IntKind.i64.wrap ((k : Int) + 1) = (k : Int) + 1 := by have := HN9.out; simp [IntKind.wrap, IntKind.bits, IntKind.signed]; omega
      have HKL : Hid (k < ds.length) := by show _ < _; rw [← HN.out]; exact hlt
      obtain ⟨⟨ad1, cap1, hv1, _, _, hx1⟩, h32⟩ := RS.out
      rw [← HN.out] at hv1 hx1
      simp only [Value.slice.injEq, true_and] at hv1
      obtain ⟨rfl, rfl⟩ := hv1
      obtain ⟨b, off, rfl, hy1⟩ := hx1 (by omega)
      obtain ⟨d, HD⟩ : ∃ d, Hid (d = ds.getD k []) := ⟨_, rfl⟩
      have HD32 : Hid (d.length = 32) := by show _ = _; rw [HD.out]; exact getD_mem32 h32 HKL.out
      have HRD : Hid (Reads wr (.slice (some ⟨b, off + k * 32, none⟩) 32 32) d) := by
        have h := hy1 k hlt
        rw [← HD.out] at h
        exact reads_range (rangeAt_below h HI.out.ov (rangeAt_lt h HD32.out)) HD32.out
      have HST : Hid (encNum n ++ encAll (fun a => a) (ds.take (k + 1)) = (encNum n ++ encAll (fun a => a) (ds.take k)) ++ d) := by
        show _ = _
        rw [allT_take ds k HKL.out, ← HD.out, List.append_assoc]
      clear hx1 hy1 h32
      obtain ⟨l, HLL⟩ : ∃ l, Hid (l = encNum n ++ encAll (fun a => a) (ds.take k)) := ⟨_, rfl⟩
      rw [← HLL.out] at HI HLB HST
      go_wp2_with (first
        | (with_reducible refine wpSeq_val (.slice (some ⟨b, off + k * 32, none⟩) 32 32) wr ?_ ?_ ?_
           · rfl
           · simp [execOp, Act.eval, slice_dig_at]
             done)
        | (at_builtin; refine wpList_appendB rfl (.tmp 17) (.tmp 22) rfl wa.heap.size _ l rfl HI.out.own _ d rfl HRD.out (by have := HLB.out; have := HD32.out; omega) HI.out.ov.size ?_; intro v9 w9 ho9 hb9 _))
      have HJ : Hid (RpfI wa (encNum n ++ encAll (fun a => a) (ds.take (k + 1))) v9 w9) := ⟨by rw [HST.out]; exact ho9, Below.trans HI.out.ov hb9⟩
      clear ho9 hb9 HI
      go_roundw
      case rel => exact ⟨k + 1, by omega, by simp, HJ.out⟩
      case measure => simp [intOf]; omega
    · have hkn : k = n := by omega
      subst hkn
      have ht : ds.take k = ds := by rw [HN.out]; exact List.take_length
      rw [ht] at HI HLB
      obtain ⟨l, HLL⟩ : ∃ l, Hid (l = encNum k ++ encAll (fun a => a) ds) := ⟨_, rfl⟩
      rw [← HLL.out] at HI HLB
      clear ht hlt hk hc0
      have hc0 : wr.cell? ⟨g, 0, none⟩ = some (.slice sad k scp) := below_cellO HI.out.ov C0.out
      have hc1 : wr.cell? ⟨g, 1, none⟩ = some (.int .i64 en) := below_cellO HI.out.ov C1.out
      have tailEq : ∀ ku', ku' = u64of en → encProof (ds, u64of en, ix, va) = (l ++ encNum ku') ++ encEnd ku' (ix, va) := by
        intro ku' h
        rw [h, HLL.out, HN.out]
        unfold encProof
        simp only [List.append_assoc]
      have HTE : Hid (encProof (ds, u64of en, ix, va) = (l ++ encNum ku) ++ encEnd ku (ix, va)) := tailEq ku HKU.out
      have HKL : Hid ((encNum ku).length ≤ 10) := enc_len10 ku HLT.out
      clear tailEq
      by_cases e1 : en = 1
      · have e1b : (en == 1) = true := by simpa using e1
        have HEQ : Hid (encProof (ds, u64of en, ix, va) = ((l ++ encNum ku) ++ ix) ++ va) := by
          show _ = _
          rw [HTE.out]
          unfold encEnd
          rw [if_pos (by rw [HKU.out]; exact HT.out.2 e1)]
          simp only [List.append_assoc]
        clear e1
        go_wp2_with (first
          | (go_at_call 42; refine (qnum_any ku HLT.out _).mono ?_; rintro e w5 ⟨v5, rfl, ho5, hb5⟩
             have HR5 : Hid (Reads w5 v5 (encNum ku)) := ho5.reads
             have HO5 : Hid (OwnB w5 wa.heap.size u3 l) := HI.out.own.below hb5 (Nat.le_refl _)
             have HV5 : Hid (Over wa w5) := HI.out.ov.more hb5
             clear ho5 hb5)
          | (at_builtin; refine wpList_appendB rfl (.tmp 24) (.tmp 28) rfl wa.heap.size _ l rfl HO5.out _ (encNum ku) rfl HR5.out (by have := HLB.out; have := HKL.out; omega) HV5.out.size ?_; intro v6 w6 ho6 hb6 _
             have HO6 : Hid (OwnB w6 wa.heap.size v6 (l ++ encNum ku)) := ho6
             have HV6 : Hid (Over wa w6) := Below.trans HV5.out hb6
             have hc6 : w6.cell? ⟨g, 1, none⟩ = some (.int .i64 en) := below_cellO HV6.out C1.out
             clear ho6 hb6)
          | (with_reducible refine wpSeq_val (.slice (some ⟨g, 2, none⟩) 32 32) w6 ?_ ?_ ?_
             · rfl
             · simp [execOp, Act.eval, slice_dig_at]
               done)
          | (at_builtin; refine wpList_appendB rfl (.tmp 33) (.tmp 35) rfl wa.heap.size _ (l ++ encNum ku) rfl HO6.out _ ix rfl (RX.out.below HV6.out) (by have := HLB.out; have := HKL.out; have := HXV.out; rw [List.length_append]; omega) HV6.out.size ?_; intro v7 w7 ho7 hb7 _
             have HO7 : Hid (OwnB w7 wa.heap.size v7 ((l ++ encNum ku) ++ ix)) := ho7
             have HV7 : Hid (Over wa w7) := Below.trans HV6.out hb7
             clear ho7 hb7)
          | (with_reducible refine wpSeq_val (.slice (some ⟨g, 34, none⟩) 32 32) w7 ?_ ?_ ?_
             · rfl
             · simp [execOp, Act.eval, slice_dig_at]
               done)
          | (at_builtin; refine wpList_appendB rfl (.tmp 37) (.tmp 39) rfl wa.heap.size _ ((l ++ encNum ku) ++ ix) rfl HO7.out _ va rfl (RV.out.below HV7.out) (by have := HLB.out; have := HKL.out; have := HXV.out; rw [List.length_append, List.length_append]; omega) HV7.out.size ?_; intro v8 w8 ho8 hb8 _))
        go_ret
        exact ⟨_, rfl, by rw [HEQ.out]; exact ho8.reads, (Over.after (Below.trans HV7.out hb8 : Over wa w8) HB1.out)⟩
      · have e1b : (en == 1) = false := by simpa using e1
        have HEQ : Hid (encProof (ds, u64of en, ix, va) = l ++ encNum ku) := by
          show _ = _
          rw [HTE.out]
          unfold encEnd
          rw [if_neg (by rw [HKU.out]; exact fun h => e1 (HT.out.1 h))]
          simp only [List.append_nil]
        clear e1
        go_wp2_with (first
          | (go_at_call 42; refine (qnum_any ku HLT.out _).mono ?_; rintro e w5 ⟨v5, rfl, ho5, hb5⟩
             have HR5 : Hid (Reads w5 v5 (encNum ku)) := ho5.reads
             have HO5 : Hid (OwnB w5 wa.heap.size u3 l) := HI.out.own.below hb5 (Nat.le_refl _)
             have HV5 : Hid (Over wa w5) := HI.out.ov.more hb5
             clear ho5 hb5)
          | (at_builtin; refine wpList_appendB rfl (.tmp 24) (.tmp 28) rfl wa.heap.size _ l rfl HO5.out _ (encNum ku) rfl HR5.out (by have := HLB.out; have := HKL.out; omega) HV5.out.size ?_; intro v6 w6 ho6 hb6 _
             have HO6 : Hid (OwnB w6 wa.heap.size v6 (l ++ encNum ku)) := ho6
             have HV6 : Hid (Over wa w6) := Below.trans HV5.out hb6
             have hc6 : w6.cell? ⟨g, 1, none⟩ = some (.int .i64 en) := below_cellO HV6.out C1.out
             clear ho6 hb6))
        go_ret
        exact ⟨_, rfl, by rw [HEQ.out]; exact HO6.out.reads, HV6.out.after HB1.out⟩
end Go.Proofs.Ytldbcglakeggaaa

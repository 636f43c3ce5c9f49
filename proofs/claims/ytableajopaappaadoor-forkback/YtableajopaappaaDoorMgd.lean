/- Texts that the proof leans on, one behind the other: A signed root's bytes, in the call's own blocks (layer 12). A list of texts that grows by append; signed roots read out of texts (layer 12). The walk of the reference's Bytes (layer 12). .. -/
import Derived.Test.YtableajopaappaaDoorMgc
import Derived.Test.YtableajopaappaaDoorMgb
import Derived.Laws.AppendOwnNone
import Derived.Laws.CopyRow
import Derived.Laws.MakeOwn
/- A signed root's bytes, in the call's own blocks (layer 12). -/
namespace Go.Proofs.YtableajopaappaaDoor
open Go.RowKit
set_option maxRecDepth 100000
set_option maxHeartbeats 400000 in
theorem rjoin_own (v : Value) (ls : List (List (BitVec 8))) (w : World) (hR : ReadsL w v ls) (hl : ls.flatten.length ≤ 140737488355328) (hn : ls.length < 4611686018427387904) :
    Calls Tryd.prog 69 #[v] w fun e w' => ∃ v', e = .returned v' ∧ OwnB w' w.heap.size v' ls.flatten ∧ Below w.heap.size w w' := by
  have HR : Hid (ReadsL w v ls) := hR
  obtain ⟨ad, cap, hv, hcap, _, _⟩ := hR
  obtain ⟨n, HNN⟩ : ∃ n, Hid (n = ls.length) := ⟨_, rfl⟩
  rw [← HNN.out] at hv hcap hn
  subst hv
  go_enter Tryd.func69, Tryd.ntmps69
  go_wp2
  go_loopw [3, 4] (fun u i wr => ∃ k : Nat, k ≤ n ∧ i = .int .i64 k ∧ RpInv w (ls.take k).flatten u wr) (fun _ i _ => n - (intOf i).toNat)
  case atStart => exact ⟨0, by omega, rfl, OwnB.nil _ _, Below.refl _ _⟩
  case round =>
    obtain ⟨k, hk, rfl, hI⟩ := hrel
    have HI : Hid (RpInv w (ls.take k).flatten u3 wr) := hI
    by_cases hlt : k < n
    · obtain ⟨ad', cap', hv', _, _, hx⟩ := HR.out.below hI.bel
      rw [← HNN.out] at hv' hx
      simp only [Value.slice.injEq, true_and] at hv'
      obtain ⟨rfl, rfl⟩ := hv'
      obtain ⟨b, off, rfl, hx2⟩ := hx (by omega)
      obtain ⟨vj, cj, hj⟩ := hx2 k hlt
      have HJ : Hid (Reads wr vj (ls.getD k [])) := hj
      have HF : Hid ((ls.take (k + 1)).flatten = (ls.take k).flatten ++ ls.getD k []) := flat_take ls k (by rw [← HNN.out]; exact hlt)
      have HL : Hid ((ls.take k).flatten.length + (ls.getD k []).length ≤ 140737488355328) := by
        have h1 := flat_le ls (k + 1)
        rw [HF.out, List.length_append] at h1
        exact Nat.le_trans h1 hl
      clear hx hx2 hj hI
      go_wp2_with (at_builtin; refine wpList_appendB rfl (.tmp 11) (.tmp 15) rfl w.heap.size _ (ls.take k).flatten rfl HI.out.own _ (ls.getD k []) rfl HJ.out HL.out HI.out.bel.size ?_; intro v2 w2 hown2 hb2 _)
      have hJ : RpInv w (ls.take (k + 1)).flatten v2 w2 := ⟨by rw [HF.out]; exact hown2, HI.out.bel.trans hb2⟩
      clear hown2 hb2 HI
      go_roundw
      case rel => exact ⟨k + 1, by omega, by go_num, hJ⟩
      case measure => simp [intOf]; omega
    · have hkn : k = n := by omega
      subst hkn
      have HV : Hid (OwnB wr w.heap.size u3 ls.flatten) := by
        have := hI.own
        rw [HNN.out, List.take_of_length_le (Nat.le_refl _)] at this
        exact this
      have hbel := hI.bel
      clear hI HI HR
      go_wp2
      go_ret
      exact ⟨_, rfl, HV.out, hbel⟩
set_option maxRecDepth 100000 in
set_option maxHeartbeats 4000000 in
theorem rfsigned_own (ep : Nat) (x y z sg : List (BitVec 8)) (vs : Value) (hep : ep < 18446744073709551616) (hx : x.length = 32) (hy : y.length = 32) (hz : z.length = 32) (w : World) (hk : Reads w vs sg) (hl : sg.length + 200 ≤ 140737488355328) :
    Calls Tryd.prog 41 #[.agg (sgnV ep x y z vs).toArray] w fun e w' => ∃ v', e = .returned v' ∧ OwnB w' w.heap.size v' (encSigned (ep, x, y, z, sg)) ∧ Below w.heap.size w w' := by
  have HK : Hid (Reads w vs sg) := hk
  have HL : Hid (sg.length + 200 ≤ 140737488355328) := hl
  have HE : Hid (ep < 18446744073709551616) := hep
  have HXYZ : Hid (x.length = 32 ∧ y.length = 32 ∧ z.length = 32) := ⟨hx, hy, hz⟩
  obtain ⟨sad, scp, hv, _, _, _⟩ := hk
  obtain ⟨n, HN⟩ : ∃ n, Hid (n = sg.length) := ⟨_, rfl⟩
  rw [← HN.out] at hv
  subst hv
  clear hep hx hy hz hl
  obtain ⟨cs, HCS⟩ : ∃ c, Hid (c = sgnV ep x y z (.slice sad n scp)) := ⟨_, rfl⟩
  rw [← HCS.out]
  go_enter Tryd.func41, Tryd.ntmps41
  go_upto_region 1 with (first
    | (with_reducible refine wpSeq_box 30 (.tmp 0) ?_ cs ?_ ?_ (w.alloc (.cells cs.toArray 30)) ?_ ?_
       · rfl
       · rfl
       · rfl
       · rfl
       have n0 : Blk (w.alloc (.cells cs.toArray 30)) w.heap.size cs 30 := Blk.new w cs _
       have b0 := below_alloc w (.cells cs.toArray 30)
       obtain ⟨wa, HW0⟩ : ∃ z, Hid (z = w.alloc (.cells cs.toArray 30)) := ⟨_, rfl⟩
       obtain ⟨g, HGG0⟩ : ∃ z, Hid (z = w.heap.size) := ⟨_, rfl⟩
       rw [← HW0.out] at n0 b0 ⊢
       rw [← HGG0.out] at n0 ⊢
       clear HW0 HGG0))
  have HB1 : Hid (Below w.heap.size w wa.drew) := b0.drew
  have C0 : Hid (wa.drew.cell? ⟨g, 0, none⟩ = some (.int .u64 (ep : Int))) := by show _ = _; rw [n0.drew.cell, HCS.out]; rfl
  have C97 : Hid (wa.drew.cell? ⟨g, 97, none⟩ = some (.slice sad n scp)) := by show _ = _; rw [n0.drew.cell, HCS.out]; exact sgnV_at HXYZ.out.1 HXYZ.out.2.1 HXYZ.out.2.2
  have HBD : Hid (Blk wa.drew g (sgnV ep x y z (.slice sad n scp)) 30) := by rw [← HCS.out]; exact n0.drew
  have RX : Hid (Reads wa.drew (.slice (some ⟨g, 1, none⟩) 32 32) x) := sgn_part (A := [.int .u64 (ep : Int)]) HXYZ.out.1 HBD.out rfl
  have RY : Hid (Reads wa.drew (.slice (some ⟨g, 33, none⟩) 32 32) y) := sgn_part (A := .int .u64 (ep : Int) :: cb x) (C := cb z ++ [.slice sad n scp]) HXYZ.out.2.1 (by have := HBD.out; unfold sgnV at this; simpa using this) (by simp [cb_len, HXYZ.out])
  have RZ : Hid (Reads wa.drew (.slice (some ⟨g, 65, none⟩) 32 32) z) := sgn_part (A := .int .u64 (ep : Int) :: (cb x ++ cb y)) (C := [.slice sad n scp]) HXYZ.out.2.2 (by have := HBD.out; unfold sgnV at this; simpa using this) (by simp [cb_len, HXYZ.out])
  have RS : Hid (Reads wa.drew (.slice sad n scp) sg) := HK.out.below HB1.out
  clear n0 b0 HK
  refine wp_region_held_drew (S := Over wa.drew) (by kernel_rfl) (Over.refl _) ?_
  intro hS
  refine wpAnyH_take (i := 0) (v := .pointer (some ⟨g, 0, none⟩)) rfl (by kernel_rfl) (by kernel_rfl) (by kernel_rfl) (fun _ _ _ h => h) (Or.inl ⟨by rfl, fun wx hx => by simp [go_sem]⟩) hS ?_
  simp only [Act.put, List.getElem_toArray, List.getElem_cons_zero, List.setIfInBounds_toArray, List.set_cons_zero, List.set_cons_succ]
  refine wpAnyH_take (i := 1) (v := .pointer (some ⟨g, 0, none⟩)) rfl (by kernel_rfl) (by kernel_rfl) (by kernel_rfl) (fun _ _ _ h => h) (Or.inl ⟨by rfl, fun wx hx => by simp [go_sem]⟩) hS ?_
  simp only [Act.put, List.getElem_toArray, List.getElem_cons_succ, List.getElem_cons_zero, List.setIfInBounds_toArray, List.set_cons_zero, List.set_cons_succ]
  refine wpAnyH_take (i := 2) (v := .int .u64 (ep : Int)) rfl (by kernel_rfl) (by kernel_rfl) (by kernel_rfl) (fun _ _ _ h => h) (Or.inl ⟨by rfl, fun wx hx => by (have hc := below_cellO hx C0.out; simp [go_sem, hc])⟩) hS ?_
  simp only [Act.put, List.getElem_toArray, List.getElem_cons_succ, List.getElem_cons_zero, List.setIfInBounds_toArray, List.set_cons_zero, List.set_cons_succ]
  refine wpAnyH_take (i := 4) (v := .pointer (some ⟨g, 0, none⟩)) rfl (by kernel_rfl) (by kernel_rfl) (by kernel_rfl) (fun _ _ _ h => h) (Or.inl ⟨by rfl, fun wx hx => by simp [go_sem]⟩) hS ?_
  simp only [Act.put, List.getElem_toArray, List.getElem_cons_succ, List.getElem_cons_zero, List.setIfInBounds_toArray, List.set_cons_zero, List.set_cons_succ]
  refine wpAnyH_take (i := 5) (v := .pointer (some ⟨g, 1, none⟩)) rfl (by kernel_rfl) (by kernel_rfl) (by kernel_rfl) (fun _ _ _ h => h) (Or.inl ⟨by rfl, fun wx hx => by simp [go_sem]⟩) hS ?_
  simp only [Act.put, List.getElem_toArray, List.getElem_cons_succ, List.getElem_cons_zero, List.setIfInBounds_toArray, List.set_cons_zero, List.set_cons_succ]
  refine wpAnyH_take (i := 6) (v := .slice (some ⟨g, 1, none⟩) 32 32) rfl (by kernel_rfl) (by kernel_rfl) (by kernel_rfl) (fun _ _ _ h => h) (Or.inl ⟨by rfl, fun wx hx => by simp [execOp, Act.eval, slice_dig_at]⟩) hS ?_
  simp only [Act.put, List.getElem_toArray, List.getElem_cons_succ, List.getElem_cons_zero, List.setIfInBounds_toArray, List.set_cons_zero, List.set_cons_succ]
  refine wpAnyH_take (i := 7) (v := .pointer (some ⟨g, 0, none⟩)) rfl (by kernel_rfl) (by kernel_rfl) (by kernel_rfl) (fun _ _ _ h => h) (Or.inl ⟨by rfl, fun wx hx => by simp [go_sem]⟩) hS ?_
  simp only [Act.put, List.getElem_toArray, List.getElem_cons_succ, List.getElem_cons_zero, List.setIfInBounds_toArray, List.set_cons_zero, List.set_cons_succ]
  refine wpAnyH_take (i := 8) (v := .pointer (some ⟨g, 33, none⟩)) rfl (by kernel_rfl) (by kernel_rfl) (by kernel_rfl) (fun _ _ _ h => h) (Or.inl ⟨by rfl, fun wx hx => by simp [go_sem]⟩) hS ?_
  simp only [Act.put, List.getElem_toArray, List.getElem_cons_succ, List.getElem_cons_zero, List.setIfInBounds_toArray, List.set_cons_zero, List.set_cons_succ]
  refine wpAnyH_take (i := 9) (v := .slice (some ⟨g, 33, none⟩) 32 32) rfl (by kernel_rfl) (by kernel_rfl) (by kernel_rfl) (fun _ _ _ h => h) (Or.inl ⟨by rfl, fun wx hx => by simp [execOp, Act.eval, slice_dig_at]⟩) hS ?_
  simp only [Act.put, List.getElem_toArray, List.getElem_cons_succ, List.getElem_cons_zero, List.setIfInBounds_toArray, List.set_cons_zero, List.set_cons_succ]
  refine wpAnyH_take (i := 10) (v := .pointer (some ⟨g, 0, none⟩)) rfl (by kernel_rfl) (by kernel_rfl) (by kernel_rfl) (fun _ _ _ h => h) (Or.inl ⟨by rfl, fun wx hx => by simp [go_sem]⟩) hS ?_
  simp only [Act.put, List.getElem_toArray, List.getElem_cons_succ, List.getElem_cons_zero, List.setIfInBounds_toArray, List.set_cons_zero, List.set_cons_succ]
  refine wpAnyH_take (i := 11) (v := .pointer (some ⟨g, 65, none⟩)) rfl (by kernel_rfl) (by kernel_rfl) (by kernel_rfl) (fun _ _ _ h => h) (Or.inl ⟨by rfl, fun wx hx => by simp [go_sem]⟩) hS ?_
  simp only [Act.put, List.getElem_toArray, List.getElem_cons_succ, List.getElem_cons_zero, List.setIfInBounds_toArray, List.set_cons_zero, List.set_cons_succ]
  refine wpAnyH_take (i := 12) (v := .slice (some ⟨g, 65, none⟩) 32 32) rfl (by kernel_rfl) (by kernel_rfl) (by kernel_rfl) (fun _ _ _ h => h) (Or.inl ⟨by rfl, fun wx hx => by simp [execOp, Act.eval, slice_dig_at]⟩) hS ?_
  simp only [Act.put, List.getElem_toArray, List.getElem_cons_succ, List.getElem_cons_zero, List.setIfInBounds_toArray, List.set_cons_zero, List.set_cons_succ]
  refine wpAnyH_take (i := 13) (v := .pointer (some ⟨g, 97, none⟩)) rfl (by kernel_rfl) (by kernel_rfl) (by kernel_rfl) (fun _ _ _ h => h) (Or.inl ⟨by rfl, fun wx hx => by simp [go_sem]⟩) hS ?_
  simp only [Act.put, List.getElem_toArray, List.getElem_cons_succ, List.getElem_cons_zero, List.setIfInBounds_toArray, List.set_cons_zero, List.set_cons_succ]
  refine wpAnyH_take (i := 14) (v := .slice sad n scp) rfl (by kernel_rfl) (by kernel_rfl) (by kernel_rfl) (fun _ _ _ h => h) (Or.inl ⟨by rfl, fun wx hx => by (have hc := below_cellO hx C97.out; simp [go_sem, hc])⟩) hS ?_
  simp only [Act.put, List.getElem_toArray, List.getElem_cons_succ, List.getElem_cons_zero, List.setIfInBounds_toArray, List.set_cons_zero, List.set_cons_succ]
  refine wpAnyH_enter 3 (by kernel_rfl) rfl (by rfl) (f := 70) (args := #[.int .u64 (ep : Int)]) (by simp [go_sem]) (qnum_any ep HE.out _) ?_
  rintro e w5 ⟨v5, rfl, hr5, hb5⟩
  replace hr5 := hr5.reads
  refine ⟨_, rfl, hS.more hb5, ?_⟩
  replace hS := hS.more hb5
  clear hb5
  simp only [Act.put, List.getElem_toArray, List.getElem_cons_succ, List.getElem_cons_zero, List.setIfInBounds_toArray, List.set_cons_zero, List.set_cons_succ]
  refine wpAnyH_enter 15 (by kernel_rfl) rfl (by rfl) (f := 71) (args := #[.slice sad n scp]) (by simp [go_sem]) (qtext_any _ sg _ (RS.out.below hS) (by have := HL.out; omega)) ?_
  rintro e w6 ⟨v6, rfl, hr6, hb6⟩
  refine ⟨_, rfl, hS.more hb6, ?_⟩
  replace hS := hS.more hb6
  replace hr5 := hr5.below hb6
  clear hb6
  simp only [Act.put, List.getElem_toArray, List.getElem_cons_succ, List.getElem_cons_zero, List.setIfInBounds_toArray, List.set_cons_zero, List.set_cons_succ]
  have rx := RX.out.below hS
  have ry := RY.out.below hS
  have rz := RZ.out.below hS
  obtain ⟨t5, HT5⟩ : ∃ q, Hid (q = encNum ep) := ⟨_, rfl⟩
  obtain ⟨t6, HT6⟩ : ∃ q, Hid (q = encText sg) := ⟨_, rfl⟩
  rw [← HT5.out] at hr5
  rw [← HT6.out] at hr6
  obtain ⟨a5, p5, rfl, _, _, _⟩ := id hr5
  obtain ⟨a6, p6, rfl, _, _, _⟩ := id hr6
  have hrl := readsL_five hr5 rx ry rz hr6
  have hba := below_alloc w6 (.cells #[.slice a5 t5.length p5, .slice (some ⟨g, 1, none⟩) 32 32, .slice (some ⟨g, 33, none⟩) 32 32, .slice (some ⟨g, 65, none⟩) 32 32, .slice a6 t6.length p6] 28)
  have hS7 := hS.more hba
  refine wpAnyH_step 16 (.slice (some ⟨w6.heap.size, 0, none⟩) 5 5) (w6.alloc (.cells #[.slice a5 t5.length p5, .slice (some ⟨g, 1, none⟩) 32 32, .slice (some ⟨g, 33, none⟩) 32 32, .slice (some ⟨g, 65, none⟩) 32 32, .slice a6 t6.length p6] 28)) (by kernel_rfl) rfl (by rfl) (by simp [go_sem]) hS7 ?_
  simp only [Act.put, List.getElem_toArray, List.getElem_cons_succ, List.getElem_cons_zero, List.setIfInBounds_toArray, List.set_cons_zero, List.set_cons_succ]
  generalize w6.alloc (.cells #[.slice a5 t5.length p5, .slice (some ⟨g, 1, none⟩) 32 32, .slice (some ⟨g, 33, none⟩) 32 32, .slice (some ⟨g, 65, none⟩) 32 32, .slice a6 t6.length p6] 28) = w7 at *
  clear hS hba rx ry rz hr5 hr6
  refine wpAnyH_enter 17 (by kernel_rfl) rfl (by rfl) (f := 69) (args := #[.slice (some ⟨w6.heap.size, 0, none⟩) 5 5]) (by simp [go_sem]) (rjoin_own _ _ w7 hrl (by
    have h1 := HL.out
    have h2 := encText_le (t := sg) (by omega)
    have h4 := enc_len10 ep HE.out
    have h5 := HXYZ.out
    simp only [List.flatten_cons, List.flatten_nil, List.append_nil, List.length_append, HT5.out, HT6.out]
    omega) (by simp)) ?_
  rintro e w8 ⟨v8, rfl, hr8, hb8⟩
  have hS := hS7.more hb8
  refine ⟨_, rfl, hS, ?_⟩
  simp only [Act.put, List.getElem_toArray, List.getElem_cons_succ, List.getElem_cons_zero, List.setIfInBounds_toArray, List.set_cons_zero, List.set_cons_succ]
  refine wpAnyH_take (i := 18) (v := v8) rfl (by kernel_rfl) (by kernel_rfl) (by kernel_rfl) (fun _ _ _ h => h) (Or.inl ⟨by rfl, fun wx hx => by simp [go_sem]⟩) hS ?_
  simp only [Act.put, List.getElem_toArray, List.getElem_cons_succ, List.getElem_cons_zero, List.setIfInBounds_toArray, List.set_cons_zero, List.set_cons_succ]
  refine wpAnyH_done (by kernel_rfl) ?_ _
  have hws : w.heap.size ≤ w7.heap.size := (hS7.after HB1.out).size
  have HF : Hid (OwnB w8 w.heap.size v8 (encSigned (ep, x, y, z, sg)) ∧ Below w.heap.size w w8) := ⟨OwnB.mono (by simp only [List.flatten_cons, List.flatten_nil, List.append_nil, HT5.out, HT6.out] at hr8; exact hr8) hws, hS.after HB1.out⟩
  clear hS7 hS hr8 hb8 hrl
  go_wp2
  go_ret
  exact ⟨_, rfl, HF.out⟩
set_option maxRecDepth 100000 in
set_option maxHeartbeats 2000000 in
theorem rsigned_own (ep : Nat) (x y z sg : List (BitVec 8)) (vs : Value) (hep : ep < 18446744073709551616) (hx : x.length = 32) (hy : y.length = 32) (hz : z.length = 32) (w : World) (hk : Reads w vs sg) (hl : sg.length + 200 ≤ 140737488355328) :
    Calls Tryd.prog 39 #[.agg (sgnV ep x y z vs).toArray] w fun e w' => ∃ v', e = .returned v' ∧ OwnB w' w.heap.size v' (encSigned (ep, x, y, z, sg)) ∧ Below w.heap.size w w' := by
  have HK : Hid (Reads w vs sg) := hk
  have HL : Hid (sg.length + 200 ≤ 140737488355328) := hl
  have HEP : Hid (ep < 18446744073709551616) := hep
  have HX : Hid (x.length = 32) := hx
  have HY : Hid (y.length = 32) := hy
  have HZ : Hid (z.length = 32) := hz
  obtain ⟨ad, cp, hv, _, _, _⟩ := hk
  obtain ⟨m, HM⟩ : ∃ m, Hid (m = sg.length) := ⟨_, rfl⟩
  rw [← HM.out] at hv
  subst hv
  obtain ⟨cs, HCS⟩ : ∃ cs, Hid (cs = (sgnV ep x y z (.slice ad m cp))) := ⟨_, rfl⟩
  rw [← HCS.out]
  have HB0 : Hid (Below w.heap.size w (w.alloc (.cells cs.toArray 30))) := below_alloc _ _
  have hB0 : Blk (w.alloc (.cells cs.toArray 30)) w.heap.size (sgnV ep x y z (.slice ad m cp)) 30 := by have := Blk.new w cs 30; rwa [HCS.out] at this ⊢
  have HBK : Hid (Blk (w.alloc (.cells cs.toArray 30)) w.heap.size (sgnV ep x y z (.slice ad m cp)) 30) := hB0
  have HK0 : Hid (Reads (w.alloc (.cells cs.toArray 30)) (.slice ad m cp) sg) := HK.out.below HB0.out
  have c0 : (w.alloc (.cells cs.toArray 30)).cell? ⟨w.heap.size, 0, none⟩ = some (.int .u64 (ep : Int)) := hB0.cell 0
  clear hep hx hy hz hl hB0 HK
  go_enter Tryd.func39, Tryd.ntmps39
  go_wp2_with fail
  generalize w.alloc (.cells cs.toArray 30) = w0 at *
  obtain ⟨B, HBB⟩ : ∃ B, Hid (B = w0.heap.size) := ⟨_, rfl⟩
  have HGB : Hid (w.heap.size < B) := by show _ < _; rw [HBB.out]; exact HBK.out.lt
  refine (cnum_any B _ [] ep HEP.out w0 (OwnB.nil _ _) (by rw [HBB.out]; exact Nat.le_refl _) (by simp)).mono ?_
  rintro e w1 ⟨v1, rfl, ho1, hb1⟩
  have HV : Hid (0 < sg.length → ∀ k, Value.ownBlock (.slice ad m cp) = some k → k < B) := by rw [HBB.out]; exact HK0.out.inB
  have HLE : Hid ((encNum ep).length ≤ 10) := enc_len10 ep HEP.out
  replace HBK : Hid (Blk w1 w.heap.size (sgnV ep x y z (.slice ad m cp)) 30) := HBK.out.below hb1 HGB.out
  have HK1 : Hid (Reads w1 (.slice ad m cp) sg) := HK0.out.keep hb1 HV.out
  have HB1 : Hid (Below w.heap.size w w1) := HB0.out.trans (hb1.mono (by have := HGB.out; omega))
  have HO1 : Hid (OwnB w1 B v1 ([] ++ encNum ep)) := ho1
  have HS1 : Hid (B ≤ w1.heap.size) := by show _ ≤ _; rw [HBB.out]; exact hb1.size
  have HRx : Hid (w1.rangeAt w.heap.size 1 (cb x)) := sgnV_rx HBK.out
  clear ho1 hb1 HB0 HK0 c0
  go_wp2_with (refine wpSeq_val (.agg (cb x).toArray) _ (by rfl) (load_run 23 _ rfl w.heap.size 1 rfl (cb x) _ HRx.out Tryd.underlying23 rfl (infoD x HX.out)) ?_)
  refine (cdigest_any B v1 ([] ++ encNum ep) x HX.out w1 HO1.out HS1.out (by have := HLE.out; simp only [List.length_append, List.length_nil]; omega)).mono ?_
  rintro e w2 ⟨v2, rfl, ho2, hb2⟩
  replace HBK : Hid (Blk w2 w.heap.size (sgnV ep x y z (.slice ad m cp)) 30) := HBK.out.below hb2 HGB.out
  have HK2 : Hid (Reads w2 (.slice ad m cp) sg) := HK1.out.keep hb2 HV.out
  have HB2 : Hid (Below w.heap.size w w2) := HB1.out.trans (hb2.mono (by have := HGB.out; omega))
  have HO2 : Hid (OwnB w2 B v2 (([] ++ encNum ep) ++ x)) := ho2
  have HS2 : Hid (B ≤ w2.heap.size) := by show _ ≤ _; exact Nat.le_trans HS1.out hb2.size
  have HRy : Hid (w2.rangeAt w.heap.size 33 (cb y)) := sgnV_ry HBK.out HX.out
  clear ho2 hb2 HB1 HK1 HO1 HS1
  go_wp2_with (refine wpSeq_val (.agg (cb y).toArray) _ (by rfl) (load_run 23 _ rfl w.heap.size 33 rfl (cb y) _ HRy.out Tryd.underlying23 rfl (infoD y HY.out)) ?_)
  refine (cdigest_any B v2 (([] ++ encNum ep) ++ x) y HY.out w2 HO2.out HS2.out (by have := HLE.out; simp only [List.length_append, List.length_nil, HX.out]; omega)).mono ?_
  rintro e w3 ⟨v3, rfl, ho3, hb3⟩
  replace HBK : Hid (Blk w3 w.heap.size (sgnV ep x y z (.slice ad m cp)) 30) := HBK.out.below hb3 HGB.out
  have HK3 : Hid (Reads w3 (.slice ad m cp) sg) := HK2.out.keep hb3 HV.out
  have HB3 : Hid (Below w.heap.size w w3) := HB2.out.trans (hb3.mono (by have := HGB.out; omega))
  have HO3 : Hid (OwnB w3 B v3 ((([] ++ encNum ep) ++ x) ++ y)) := ho3
  have HS3 : Hid (B ≤ w3.heap.size) := by show _ ≤ _; exact Nat.le_trans HS2.out hb3.size
  have HRz : Hid (w3.rangeAt w.heap.size 65 (cb z)) := sgnV_rz HBK.out HX.out HY.out
  clear ho3 hb3 HB2 HK2 HO2 HS2
  go_wp2_with (refine wpSeq_val (.agg (cb z).toArray) _ (by rfl) (load_run 23 _ rfl w.heap.size 65 rfl (cb z) _ HRz.out Tryd.underlying23 rfl (infoD z HZ.out)) ?_)
  refine (cdigest_any B v3 ((([] ++ encNum ep) ++ x) ++ y) z HZ.out w3 HO3.out HS3.out (by have := HLE.out; simp only [List.length_append, List.length_nil, HX.out, HY.out]; omega)).mono ?_
  rintro e w4 ⟨v4, rfl, ho4, hb4⟩
  replace HBK : Hid (Blk w4 w.heap.size (sgnV ep x y z (.slice ad m cp)) 30) := HBK.out.below hb4 HGB.out
  have HK4 : Hid (Reads w4 (.slice ad m cp) sg) := HK3.out.keep hb4 HV.out
  have HB4 : Hid (Below w.heap.size w w4) := HB3.out.trans (hb4.mono (by have := HGB.out; omega))
  have HO4 : Hid (OwnB w4 B v4 (((([] ++ encNum ep) ++ x) ++ y) ++ z)) := ho4
  have HS4 : Hid (B ≤ w4.heap.size) := Nat.le_trans HS3.out hb4.size
  have c9 : w4.cell? ⟨w.heap.size, 97, none⟩ = some (.slice ad m cp) := sgnV_last HBK.out HX.out HY.out HZ.out
  clear ho4 hb4 HB3 HK3 HO3 HS3
  go_wp2_with fail
  refine (ctext_any B v4 (.slice ad m cp) (((([] ++ encNum ep) ++ x) ++ y) ++ z) sg w4 HO4.out HK4.out HS4.out (by have h1 := HLE.out; have h2 := HL.out; simp only [List.length_append, List.length_nil, HX.out, HY.out, HZ.out]; omega)).mono ?_
  rintro e w5 ⟨v5, rfl, ho5, hb5⟩
  have HF : Hid (OwnB w5 w.heap.size v5 (encSigned (ep, x, y, z, sg)) ∧ Below w.heap.size w w5) := ⟨by have := ho5.mono (Nat.le_of_lt HGB.out); simp only [List.nil_append, List.append_assoc] at this; exact this, HB4.out.trans (hb5.mono (by have := HGB.out; omega))⟩
  clear ho5 hb5 HB4 HK4 HO4 HS4 c9
  go_wp2
  go_ret
  exact ⟨_, rfl, HF.out⟩
theorem signed_own (s : SgT) (vs : Value) (w : World) (os : okS s) (hr : Reads w vs s.2) (hl : s.2.length ≤ 1048576) : Calls Tryd.prog 39 #[.agg (sgC s vs).toArray] w fun e w' => ∃ v', e = .returned v' ∧ OwnB w' w.heap.size v' (encS s) ∧ Below w.heap.size w w' :=
  rsigned_own s.1.1 s.1.2.1 s.1.2.2.1 s.1.2.2.2 s.2 vs os.2.2.2 os.1 os.2.1 os.2.2.1 w hr (by omega)
theorem qsigned_own (s : SgT) (vs : Value) (w : World) (os : okS s) (hr : Reads w vs s.2) (hl : s.2.length ≤ 1048576) : Calls Tryd.prog 41 #[.agg (sgC s vs).toArray] w fun e w' => ∃ v', e = .returned v' ∧ OwnB w' w.heap.size v' (encS s) ∧ Below w.heap.size w w' :=
  rfsigned_own s.1.1 s.1.2.1 s.1.2.2.1 s.1.2.2.2 s.2 vs os.2.2.2 os.1 os.2.1 os.2.2.1 w hr (by omega)
/-- two signed roots: the same or not -/
theorem sameSg_any (s t : SgT) (va vb : Value) (w : World) (os : okS s) (ot : okS t) (ha : Reads w va s.2) (hb : Reads w vb t.2) : Calls Tryd.prog 37 #[.agg (sgC s va).toArray, .agg (sgC t vb).toArray] w fun e w' => e = .returned (.bool (decide (s = t))) ∧ Below w.heap.size w w' := by
  have h := sameSgn_any s.1.1 t.1.1 s.1.2.1 s.1.2.2.1 s.1.2.2.2 t.1.2.1 t.1.2.2.1 t.1.2.2.2 s.2 t.2 va vb w ⟨os.1, os.2.1, os.2.2.1⟩ ⟨ot.1, ot.2.1, ot.2.2.1⟩ ha hb
  have e : decide (s = t) = decide ((s.1.1 = t.1.1 ∧ s.1.2.1 = t.1.2.1 ∧ s.1.2.2.1 = t.1.2.2.1 ∧ s.1.2.2.2 = t.1.2.2.2) ∧ s.2 = t.2) := by
    obtain ⟨⟨n, x, y, z⟩, g⟩ := s
    obtain ⟨⟨m, a, b, c⟩, g'⟩ := t
    simp
  rw [e]
  exact h
end Go.Proofs.YtableajopaappaaDoor
/- A list of texts that grows by append; signed roots read out of texts (layer 12). -/
namespace Go.Proofs.YtableajopaappaaDoor
open Go.RowKit Go.Shelf
set_option maxRecDepth 100000
/-- one text more behind the own slice v -/
theorem wpSeq_appendV {ops : Array Oper} {Q : Exit → Act → World → Prop} {rest : List Oper} {o : Oper} {a : Act} {w : World} (s x : Operand) (base : Nat) (v u : Value) (vs : List Value) (g : Nat)
    (hown : OwnV w base 28 v vs) (hu : w.cell? ⟨g, 0, none⟩ = some u) (h1 : u.oneCell' = true) (hl : vs.length < 1000000) (hbase : base ≤ w.heap.size)
    (ho : o.op = .call { callee := .builtin .append, args := #[s, x], argTypes := #[64, 64] }) (hs : a.eval s = v) (hx : a.eval x = .slice (some ⟨g, 0, none⟩) 1 1) (hgd : o.guard = none)
    (h : ∀ v' w', OwnV w' base 28 v' (vs ++ [u]) → w.grownBy w' v.ownBlock → wpList Tryd.prog ops Q rest (a.put o.dst v') w') : wpList Tryd.prog ops Q (o :: rest) a w :=
  wpList_plain hgd fun _ hK => wp_appendT s x ho base v u vs g hs hown hx hu h1 hl hbase (fun v' w' k1 k2 => hK _ _ (h v' w' k1 k2))
/-- the slice v holds the texts xs, all the call's own from block base on -/
structure TxI (base : Nat) (v : Value) (us : List Value) (xs : List Bs) (W : World) : Prop where
  own : OwnV W base 28 v us
  good : GoodT W base us xs
  ge : base ≤ W.heap.size
theorem TxI.nil {base : Nat} {W : World} (h : base ≤ W.heap.size) : TxI base (.slice none 0 0) [] [] W := ⟨OwnV.nil _ _ _, ⟨rfl, fun j u hj => by simp at hj⟩, h⟩
theorem TxI.next {base : Nat} {v : Value} {us : List Value} {xs : List Bs} {W W' : World} (h : TxI base v us xs W) (hb : Below W.heap.size W W') : TxI base v us xs W' :=
  ⟨h.own.same fun k hk => hb.block k (h.own.lt k hk).2, ⟨h.good.1, fun j u hj => (h.good.2 j u hj).same fun k hk => hb.block k ((h.good.2 j u hj).lt k hk)⟩, Nat.le_trans h.ge hb.size⟩
theorem TxI.readsL {base : Nat} {v : Value} {us : List Value} {xs : List Bs} {W : World} (h : TxI base v us xs W) : ReadsL W v xs := h.own.readsL h.good
theorem TxI.len {base : Nat} {v : Value} {us : List Value} {xs : List Bs} {W : World} (h : TxI base v us xs W) : us.length = xs.length := h.good.1
/-- one text more -/
theorem TxI.grow {base : Nat} {v v2 u : Value} {us : List Value} {xs : List Bs} {t : Bs} {W W6 : World} (h : TxI base v us xs W) (hu : OwnB W base u t) (hown6 : OwnV W6 base 28 v2 (us ++ [u])) (hgrow : (W.alloc (.cells #[u] 28)).grownBy W6 v.ownBlock) :
    TxI base v2 (us ++ [u]) (xs ++ [t]) W6 ∧ Below base W W6 := by
  have b45 : Below base W (W.alloc (.cells #[u] 28)) := (below_alloc W _).mono h.ge
  have b56 : Below base (W.alloc (.cells #[u] 28)) W6 := (Below.refl _ _).grown hgrow (Nat.le_trans h.ge b45.size) (fun k hk => (h.own.lt k hk).1)
  have b46 := b45.trans b56
  have up : ∀ x t, OwnB W base x t → OwnB W6 base x t := fun x t hx => by
    have hne := hx.apart (by decide) h.own
    refine hx.same (fun k hk => ?_)
    have h2 := hx.lt k hk
    rw [hgrow.block k (by simp; omega) (hne k hk), Go.RowKit.Below.heap_alloc W _ k h2]
  refine ⟨⟨hown6, ⟨by rw [List.length_append, List.length_append, h.good.1]; rfl, fun j x hj => ?_⟩, Nat.le_trans h.ge b46.size⟩, b46⟩
  by_cases hjl : j < us.length
  · rw [List.getElem?_append_left hjl] at hj
    have h1 := h.good.2 j x hj
    have h2 : (xs ++ [t]).getD j [] = xs.getD j [] := by
      rw [List.getD_eq_getElem?_getD, List.getD_eq_getElem?_getD, List.getElem?_append_left (by rw [← h.good.1]; exact hjl)]
    rw [h2]
    exact up _ _ h1
  · rw [List.getElem?_append_right (by omega)] at hj
    have hj0 : j = us.length := by
      have := (List.getElem?_eq_some_iff.1 hj).1
      simp at this
      omega
    subst hj0
    simp at hj
    subst hj
    have h2 : (xs ++ [t]).getD us.length [] = t := by
      rw [List.getD_eq_getElem?_getD, h.good.1, List.getElem?_append_right (Nat.le_refl _), Nat.sub_self]
      rfl
    rw [h2]
    exact up _ _ hu
/-- what a text is as a signed root -/
def rdS (l : Bs) : SgT := (readS l).getD zeroS
def rdX (l : Bs) : Int := if (readS l).isSome then 0 else 3
def SgRes (l : Bs) (w : World) (e : Ending) (w' : World) : Prop := ∃ ad n c, e = .returned (.tuple #[.agg (sgC (rdS l) (.slice ad n c)).toArray, .int .i64 (rdX l)]) ∧ OwnB w' w.heap.size (.slice ad n c) (rdS l).2 ∧ okS (rdS l) ∧ Below w.heap.size w w'
theorem RdRes.sg {l : Bs} {w : World} {e : Ending} {w' : World} (h : RdRes sgnK w (whole (signedR l)) e w') : SgRes l w e w' := by
  obtain ⟨hb, h⟩ := h
  rcases h with ⟨a, cs, ho, rfl, vs, rfl, hv, h1, h2, h3, h4⟩ | ⟨ho, rfl⟩
  · have hr : readS l = some (unS a) := by rw [readS, ho]; rfl
    obtain ⟨ad, n, c, hvs⟩ := hv.reads.form
    subst hvs
    refine ⟨ad, n, c, ?_, ?_, ?_, hb⟩
    · rw [rdS, rdX, hr]; rfl
    · rw [rdS, hr]; exact hv
    · rw [rdS, hr]; exact ⟨h1, h2, h3, h4⟩
  · have hr : readS l = none := by rw [readS, ho]; rfl
    refine ⟨none, 0, 0, ?_, ?_, ?_, hb⟩
    · rw [rdS, rdX, hr]; rfl
    · rw [rdS, hr]; exact OwnB.nil _ _
    · rw [rdS, hr]; exact okS_zero
theorem crdSigned_any (v : Value) (l : Bs) (w : World) (hb : Reads w v l) : Calls Tryd.prog 33 #[v] w (SgRes l w) :=
  (rdSigned_any readSigned_one rfl v l w hb).mono fun _ _ h => h.sg
/-- texts read, both outcomes in one -/
def errOf {α : Type} (o : Option α) : Int := if o.isSome then 0 else 3
theorem readsL_nil (w : World) : ReadsL w (.slice none 0 0) [] := ⟨none, 0, rfl, Nat.le_refl _, fun _ => rfl, fun h => by simp at h⟩
theorem ListRead.t {o : Option (List (List (BitVec 8)))} {w : World} {e : Ending} {w' : World} (h : ListRead 28 GoodT o w e w') : ∃ v, e = .returned (.tuple #[v, .int .i64 (errOf o)]) ∧ ReadsL w' v (o.getD []) ∧ Below w.heap.size w w' := by
  rcases h with ⟨xs, v, vs, rfl, rfl, h3, h4, h5⟩ | ⟨rfl, rfl, h5⟩
  · exact ⟨v, rfl, h3.readsL h4, h5⟩
  · exact ⟨_, rfl, readsL_nil _, h5⟩
end Go.Proofs.YtableajopaappaaDoor
/- The walk of the reference's Bytes (layer 12). -/
namespace Go.Proofs.YtableajopaappaaDoor
open Go.RowKit Go.Shelf
set_option maxRecDepth 100000
/-- where the texts of the first k roots stand -/
structure ByI (w : World) (g : Nat) (cev : List Value) (l : List SgT) (v : Value) (us : List Value) (k : Nat) (W : World) : Prop where
  tx : TxI (g + 1) v us ((l.take k).map encS) W
  ev : Blk W g cev 32
  bel : Below w.heap.size w W
  ge : w.heap.size ≤ g
theorem ByI.next {w : World} {g : Nat} {cev : List Value} {l : List SgT} {v : Value} {us : List Value} {k : Nat} {W W' : World} (h : ByI w g cev l v us k W) (hb : Below W.heap.size W W') : ByI w g cev l v us k W' :=
  ⟨h.tx.next hb, h.ev.below hb h.ev.lt, h.bel.trans (hb.mono h.bel.size), h.ge⟩
theorem take_more {l : List SgT} {k : Nat} (hk : k < l.length) : l.take (k + 1) = l.take k ++ [l.getD k zeroS] := by
  rw [List.take_add_one, List.getD_eq_getElem?_getD, List.getElem?_eq_getElem hk]
  rfl
theorem ByI.more {w : World} {g : Nat} {cev : List Value} {l : List SgT} {v v2 u : Value} {us : List Value} {k : Nat} {W W6 : World} (h : ByI w g cev l v us k W) (hk : k < l.length) (hu : OwnB W (g + 1) u (encS (l.getD k zeroS))) (hown6 : OwnV W6 (g + 1) 28 v2 (us ++ [u])) (hgrow : (W.alloc (.cells #[u] 28)).grownBy W6 v.ownBlock) : ByI w g cev l v2 (us ++ [u]) (k + 1) W6 := by
  obtain ⟨h1, h2⟩ := h.tx.grow hu hown6 hgrow
  refine ⟨?_, h.ev.below h2 (by omega), h.bel.trans (h2.mono (by have := h.ge; omega)), h.ge⟩
  rw [take_more hk, List.map_append]
  exact h1
theorem ByI.len {w : World} {g : Nat} {cev : List Value} {l : List SgT} {v : Value} {us : List Value} {k : Nat} {W : World} (h : ByI w g cev l v us k W) : us.length ≤ k := by
  rw [h.tx.len, List.length_map, List.length_take]
  omega
theorem ByI.own1 {w : World} {g : Nat} {cev : List Value} {l : List SgT} {v u : Value} {us : List Value} {k : Nat} {W : World} (h : ByI w g cev l v us k W) : OwnV (W.alloc (.cells #[u] 28)) (g + 1) 28 v us := (h.tx.next (below_alloc W _)).own
theorem cell_new (W : World) (u : Value) : (W.alloc (.cells #[u] 28)).cell? ⟨W.heap.size, 0, none⟩ = some u := (Blk.new W [u] 28).cell 0
theorem ByI.size1 {w : World} {g : Nat} {cev : List Value} {l : List SgT} {v u : Value} {us : List Value} {k : Nat} {W : World} (h : ByI w g cev l v us k W) : g + 1 ≤ (W.alloc (.cells #[u] 28)).heap.size := Nat.le_trans h.tx.ge (below_alloc W _).size
theorem flatE_le (L : List SgT) (h : ∀ s ∈ L, okS s ∧ s.2.length ≤ 1048576) : ((L.map encS).flatten).length ≤ L.length * 1048692 := encAll_le encS 1048692 L fun s hs => by
  obtain ⟨o, l⟩ := h s hs
  have := len_encS o (by omega)
  omega
theorem allE_at (e : EvT) {k : Nat} (hk : k < e.1.length) : (allE e).getD k zeroS = e.1.getD k zeroS := by
  rw [allE, List.getD_eq_getElem?_getD, List.getD_eq_getElem?_getD, List.getElem?_append_left hk]
theorem allE_a (e : EvT) : (allE e).getD e.1.length zeroS = e.2.1 := by
  rw [allE, List.getD_eq_getElem?_getD, List.getElem?_append_right (Nat.le_refl _), Nat.sub_self]
  rfl
theorem allE_b (e : EvT) : (allE e).getD (e.1.length + 1) zeroS = e.2.2 := by
  rw [allE, List.getD_eq_getElem?_getD, List.getElem?_append_right (by omega), show e.1.length + 1 - e.1.length = 1 by omega]
  rfl
theorem mem_allE (e : EvT) {k : Nat} (hk : k < e.1.length) : e.1.getD k zeroS ∈ allE e := by
  rw [List.getD_eq_getElem?_getD, List.getElem?_eq_getElem hk]
  exact List.mem_append.2 (Or.inl (List.getElem_mem hk))
theorem mem_a (e : EvT) : e.2.1 ∈ allE e := by simp [allE]
theorem mem_b (e : EvT) : e.2.2 ∈ allE e := by simp [allE]
set_option maxRecDepth 100000 in
set_option maxHeartbeats 8000000 in
theorem qfBytes_any (e : EvT) (cs : List Value) (w : World) (hE : EvB w e cs) (h64 : e.1.length ≤ 64) (hsz : ∀ s ∈ allE e, s.2.length ≤ 1048576) :
    Calls Tryd.prog 19 #[.agg cs.toArray] w fun r w' => ∃ v, r = .returned v ∧ OwnB w' w.heap.size v (bytesF e) ∧ Below w.heap.size w w' := by
  obtain ⟨vt, va, vb, hcs, he⟩ := hE.open
  subst hcs
  obtain ⟨adt, ct, hvt⟩ := he.tr.form
  obtain ⟨ada, na, ca, hva⟩ := he.a.form
  obtain ⟨adb, nb, cc, hvb⟩ := he.b.form
  obtain ⟨nt, HNT⟩ : ∃ n, Hid (n = e.1.length) := ⟨_, rfl⟩
  rw [← HNT.out] at hvt
  subst hvt hva hvb
  obtain ⟨cev, HCE⟩ : ∃ c, Hid (c = evC e (.slice adt nt ct) (.slice ada na ca) (.slice adb nb cc)) := ⟨_, rfl⟩
  rw [← HCE.out]
  have HEV : Hid (EvIs w e (.slice adt nt ct) (.slice ada na ca) (.slice adb nb cc)) := he
  have HIE : Hid ((Tryd.prog.info? 32).map (·.size) = some cev.length) := by show _ = _; rw [HCE.out]; exact info_evC he.oa he.ob _ _ _
  have HAT : Hid (∀ (W : World) (g : Nat), Blk W g cev 32 → EvAt W g 0 e (.slice adt nt ct) (.slice ada na ca) (.slice adb nb cc)) := fun W g hg => by rw [HCE.out] at hg; exact hg.evAt HEV.out.oa HEV.out.ob
  obtain ⟨csa, HSA⟩ : ∃ c, Hid (c = sgC e.2.1 (.slice ada na ca)) := ⟨_, rfl⟩
  obtain ⟨csb, HSB⟩ : ∃ c, Hid (c = sgC e.2.2 (.slice adb nb cc)) := ⟨_, rfl⟩
  have HIS : Hid ((Tryd.prog.info? 30).map (·.size) = some csa.length ∧ (Tryd.prog.info? 30).map (·.size) = some csb.length) := by rw [HSA.out, HSB.out]; exact ⟨info_sgC HEV.out.oa _, info_sgC HEV.out.ob _⟩
  have HRG : Hid (∀ (W : World) (g : Nat), Blk W g cev 32 → W.rangeAt g 1 csa ∧ W.rangeAt g 99 csb) := fun W g hg => by rw [HSA.out, HSB.out]; have h := HAT.out W g hg; refine ⟨?_, ?_⟩; have := h.a.all; rwa [Nat.zero_add] at this; have := h.b.all; rwa [Nat.zero_add] at this
  clear he
  have HSZ : Hid (∀ s ∈ allE e, s.2.length ≤ 1048576) := hsz
  have HN64 : Hid (nt ≤ 64) := by show _ ≤ _; rw [HNT.out]; exact h64
  have HBW : Hid (Below w.heap.size w w) := Below.refl _ _
  have HCS : Hid (∀ (W : World) (s : SgT) (vs : Value), okS s → s.2.length ≤ 1048576 → Reads W vs s.2 → Calls Tryd.prog 41 #[.agg (sgC s vs).toArray] W fun r w' => ∃ v', r = .returned v' ∧ OwnB w' W.heap.size v' (encS s) ∧ Below W.heap.size W w') := fun W s vs os hl hr => qsigned_own s vs W os hr hl
  clear h64 hsz hE
  go_enter Tryd.func19, Tryd.ntmps19
  have tk0 : Hid True := trivial
  go_wp2_with (first
    | (clear tk0; with_reducible refine wpSeq_boxW 32 (.tmp 0) cev ?_ ?_ ?_ ?_
       · rfl
       · rfl
       · rfl
       intro g1 y1 nn
       have HI0 : Hid (ByI w g1 cev (allE e) (.slice none 0 0) [] 0 y1) := ⟨TxI.nil nn.blk.lt, nn.blk, nn.below, nn.ge⟩
       clear nn))
  go_loopw [3, 4] (fun t i wr => ∃ (k : Nat) (ad : Option Addr) (m c : Nat) (us : List Value), k ≤ nt ∧ i = .int .i64 (k : Int) ∧ t = .slice ad m c ∧ Hid (ByI w g1 cev (allE e) (.slice ad m c) us k wr)) (fun _ i _ => nt - (intOf i).toNat)
  case atStart => exact ⟨0, none, 0, 0, [], by omega, rfl, rfl, HI0⟩
  case round =>
    obtain ⟨k, ad, m, c, us, hkn, rfl, rfl, HI⟩ := hrel
    clear HI0 HBW
    have cet : wr.cell? ⟨g1, 0, none⟩ = some (.slice adt nt ct) := (HAT.out _ _ HI.out.ev).tr
    by_cases hlt : k < nt
    · have hlk : (k : Int) < (nt : Int) := by omega
      have k0 : (0 : Int) ≤ (k : Int) := by omega
      have f5 : IntKind.i64.wrap ((k : Int) + 1) = (k : Int) + 1 := by rw [IntKind.wrap_i64]; have := HN64.out; omega
      have HLT : Hid (k < e.1.length) := by show _ < _; rw [← HNT.out]; exact hlt
      obtain ⟨b, off, cap', hv2, hat⟩ := HEV.out.tr.at (Nat.lt_of_le_of_lt (Nat.zero_le _) HLT.out)
      simp only [Value.slice.injEq] at hv2
      obtain ⟨rfl, hnl, rfl⟩ := hv2
      clear hnl
      obtain ⟨vs, hsa, hrs⟩ := hat k HLT.out
      obtain ⟨s, HS⟩ : ∃ s, Hid (s = e.1.getD k zeroS) := ⟨_, rfl⟩
      rw [← HS.out] at hsa hrs
      obtain ⟨csk, HCK⟩ : ∃ c, Hid (c = sgC s vs) := ⟨_, rfl⟩
      have HRK : Hid (wr.rangeAt b (off + k * 98) csk) := by rw [HCK.out]; exact (hsa.below HI.out.bel (Nat.le_refl _)).all
      have HIK : Hid ((Tryd.prog.info? 30).map (·.size) = some csk.length) := by show _ = _; rw [HCK.out]; exact info_sgC hsa.ok vs
      have HAK : Hid ((allE e).getD k zeroS = s) := by show _ = _; rw [allE_at e HLT.out, HS.out]
      have HCC : Hid (Calls Tryd.prog 41 #[.agg csk.toArray] wr fun r w' => ∃ v', r = .returned v' ∧ OwnB w' wr.heap.size v' (encS s) ∧ Below wr.heap.size wr w') := by rw [HCK.out]; exact HCS.out wr s vs hsa.ok (HSZ.out s (by rw [HS.out]; exact mem_allE e HLT.out)) (hrs.below HI.out.bel)
      have HKL : Hid (k < (allE e).length) := by show _ < _; rw [len_allE]; have := HLT.out; omega
      clear hat hsa hrs
      have tk1 : Hid True := trivial
      have tk2 : Hid True := trivial
      have tk3 : Hid True := trivial
      go_wp2_with (first
        | (clear tk1; with_reducible refine wpSeq_loadW 30 (.tmp 16) b (off + k * 98) csk _ ?_ Tryd.underlying30 rfl ?_ ?_ ?_ ?_ ?_
           · exact HRK.out
           · exact HIK.out
           · rfl
           · rfl
           · rfl)
        | (clear tk2; go_at_call 41; refine (HCC.out).mono ?_; rintro e y2 ⟨v0, rfl, hu0, hbz⟩
           obtain ⟨au, nu, cu, hv0⟩ := hu0.reads.form
           subst hv0
           have HU : Hid (OwnB y2 (g1 + 1) (.slice au nu cu) (encS ((allE e).getD k zeroS))) := by have h := hu0.mono HI.out.tx.ge; rw [HAK.out]; exact h
           have HI2 : Hid (ByI w g1 cev (allE e) (.slice ad m c) us k y2) := HI.out.next hbz
           have HLU : Hid (us.length < 1000000) := by have h1 := HI.out.len; have h2 := HN64.out; show _ < _; omega
           clear hu0 hbz HI cet HRK HCC)
        | (clear tk3; with_reducible refine wpSeq_appendV (.tmp 12) (.tmp 19) (g1 + 1) (.slice ad m c) (.slice au nu cu) us y2.heap.size ?_ ?_ ?_ ?_ ?_ ?_ ?_ ?_ ?_ ?_
           · exact HI2.out.own1
           · exact cell_new _ _
           · rfl
           · exact HLU.out
           · exact HI2.out.size1
           · rfl
           · rfl
           · rfl
           · rfl
           intro vy3 y3 ho6 hg6
           have HNy3 : Hid (ByI w g1 cev (allE e) vy3 (us ++ [.slice au nu cu]) (k + 1) y3) := HI2.out.more HKL.out HU.out ho6 hg6
           clear ho6 hg6 HU HI2 HLU))
      obtain ⟨ad3, c3, hv3, _⟩ := HNy3.out.tx.own.slice
      subst hv3
      go_roundw
      case rel => exact ⟨k + 1, _, _, _, _, by omega, by simp, rfl, HNy3⟩
      case measure => simp [intOf]; omega
    · have hlk : ¬ ((k : Int) < (nt : Int)) := by omega
      obtain rfl : k = nt := by omega
      have HKA : Hid (k < (allE e).length) := by show _ < _; rw [len_allE, HNT.out]; omega
      have HKB : Hid (k + 1 < (allE e).length) := by show _ < _; rw [len_allE, HNT.out]; omega
      have HAK0 : Hid ((allE e).getD k zeroS = e.2.1) := by show _ = _; rw [HNT.out]; exact allE_a e
      have HAK1 : Hid ((allE e).getD (k + 1) zeroS = e.2.2) := by show _ = _; rw [HNT.out]; exact allE_b e
      have HCA : Hid (∀ W : World, Below w.heap.size w W → Calls Tryd.prog 41 #[.agg csa.toArray] W fun r w' => ∃ v', r = .returned v' ∧ OwnB w' W.heap.size v' (encS e.2.1) ∧ Below W.heap.size W w') := fun W hh => by rw [HSA.out]; exact HCS.out W e.2.1 _ HEV.out.oa (HSZ.out _ (mem_a e)) (HEV.out.a.below hh)
      have HCB : Hid (∀ W : World, Below w.heap.size w W → Calls Tryd.prog 41 #[.agg csb.toArray] W fun r w' => ∃ v', r = .returned v' ∧ OwnB w' W.heap.size v' (encS e.2.2) ∧ Below W.heap.size W w') := fun W hh => by rw [HSB.out]; exact HCS.out W e.2.2 _ HEV.out.ob (HSZ.out _ (mem_b e)) (HEV.out.b.below hh)
      have HAK := HAK0
      clear HAK0
      have tk1 : Hid True := trivial
      have tk2 : Hid True := trivial
      have tk3 : Hid True := trivial
      go_upto_region 7 with (first
        | (clear tk1; with_reducible refine wpSeq_loadW 30 (.tmp 22) g1 1 csa _ ?_ Tryd.underlying30 rfl ?_ ?_ ?_ ?_ ?_
           · exact (HRG.out _ _ HI.out.ev).1
           · exact HIS.out.1
           · rfl
           · rfl
           · rfl)
        | (clear tk2; go_at_call 41; refine (HCA.out wr HI.out.bel).mono ?_; rintro e y2 ⟨v0, rfl, hu0, hbz⟩
           obtain ⟨au, nu, cu, hv0⟩ := hu0.reads.form
           subst hv0
           have HU : Hid (OwnB y2 (g1 + 1) (.slice au nu cu) (encS ((allE e).getD k zeroS))) := by have h := hu0.mono HI.out.tx.ge; rw [HAK.out]; exact h
           have HI2 : Hid (ByI w g1 cev (allE e) (.slice ad m c) us k y2) := HI.out.next hbz
           have HLU : Hid (us.length < 1000000) := by have h1 := HI.out.len; have h2 := HN64.out; show _ < _; omega
           clear hu0 hbz HI cet)
        | (clear tk3; with_reducible refine wpSeq_appendV (.tmp 21) (.tmp 25) (g1 + 1) (.slice ad m c) (.slice au nu cu) us y2.heap.size ?_ ?_ ?_ ?_ ?_ ?_ ?_ ?_ ?_ ?_
           · exact HI2.out.own1
           · exact cell_new _ _
           · rfl
           · exact HLU.out
           · exact HI2.out.size1
           · rfl
           · rfl
           · rfl
           · rfl
           intro vy3 y3 ho6 hg6
           have HNy3 : Hid (ByI w g1 cev (allE e) vy3 (us ++ [.slice au nu cu]) (k + 1) y3) := HI2.out.more HKA.out HU.out ho6 hg6
           clear ho6 hg6 HU HI2 HLU))
      clear HAK
      have HAK := HAK1
      clear HAK1
      have cet : y3.cell? ⟨g1, 0, none⟩ = some (.slice adt k ct) := (HAT.out _ _ HNy3.out.ev).tr
      obtain ⟨us3, HUS3⟩ : ∃ u, Hid (u = us ++ [Value.slice au nu cu]) := ⟨_, rfl⟩
      rw [← HUS3.out] at HNy3
      clear HUS3
      have tk1 : Hid True := trivial
      have tk2 : Hid True := trivial
      have tk3 : Hid True := trivial
      have tk4 : Hid True := trivial
      go_wp2_with (first
        | (clear tk1; with_reducible refine wpSeq_loadW 30 (.tmp 28) g1 99 csb _ ?_ Tryd.underlying30 rfl ?_ ?_ ?_ ?_ ?_
           · exact (HRG.out _ _ HNy3.out.ev).2
           · exact HIS.out.2
           · rfl
           · rfl
           · rfl)
        | (clear tk2; go_at_call 41; refine (HCB.out y3 HNy3.out.bel).mono ?_; rintro e y4 ⟨v0, rfl, hu0, hbz⟩
           obtain ⟨au, nu, cu, hv0⟩ := hu0.reads.form
           subst hv0
           have HU : Hid (OwnB y4 (g1 + 1) (.slice au nu cu) (encS ((allE e).getD (k + 1) zeroS))) := by have h := hu0.mono HNy3.out.tx.ge; rw [HAK.out]; exact h
           have HI4 : Hid (ByI w g1 cev (allE e) vy3 us3 (k + 1) y4) := HNy3.out.next hbz
           have HLU : Hid (us3.length < 1000000) := by have h1 := HNy3.out.len; have h2 := HN64.out; show _ < _; omega
           clear hu0 hbz HNy3 cet)
        | (clear tk3; with_reducible refine wpSeq_appendV (.tmp 27) (.tmp 31) (g1 + 1) vy3 (.slice au nu cu) us3 y4.heap.size ?_ ?_ ?_ ?_ ?_ ?_ ?_ ?_ ?_ ?_
           · exact HI4.out.own1
           · exact cell_new _ _
           · rfl
           · exact HLU.out
           · exact HI4.out.size1
           · rfl
           · rfl
           · rfl
           · rfl
           intro vy5 y5 ho6 hg6
           have HNy5 : Hid (ByI w g1 cev (allE e) vy5 (us3 ++ [.slice au nu cu]) ((k + 1) + 1) y5) := HI4.out.more HKB.out HU.out ho6 hg6
           clear ho6 hg6 HU HI4 HLU)
        | (clear tk4; go_at_call 42; refine (qtexts_any _ ((allE e).map encS) y5 ?_ ?_).mono ?_
           · have h := HNy5.out.tx.readsL
             rw [List.take_of_length_le (by rw [len_allE, HNT.out]; omega)] at h
             exact h
           · have h := flatE_le (allE e) (fun s hs => ⟨by
               rcases List.mem_append.1 hs with hs | hs
               · exact HEV.out.tr.2 s hs
               · rcases List.mem_cons.1 hs with rfl | hs
                 · exact HEV.out.oa
                 · rw [List.mem_singleton.1 hs]; exact HEV.out.ob, HSZ.out s hs⟩)
             have h1 := HN64.out
             rw [len_allE, ← HNT.out] at h
             rw [List.length_map, len_allE, ← HNT.out]
             have h2 : (k + 2) * 1048692 ≤ 66 * 1048692 := Nat.mul_le_mul_right _ (by omega)
             omega
           rintro e y6 ⟨v9, rfl, ho9, hb9⟩))
      go_ret
      exact ⟨v9, rfl, ho9.mono HNy5.out.bel.size, HNy5.out.bel.trans (hb9.mono HNy5.out.bel.size)⟩
end Go.Proofs.YtableajopaappaaDoor
/- A list of signed roots that grows by append; evidence that is filled (layer 12). -/
namespace Go.Proofs.YtableajopaappaaDoor
open Go.RowKit Go.Shelf
set_option maxRecDepth 100000
def flatS (L : List (SgT × Value)) : List Value := (L.map fun p => sgC p.1 p.2).flatten
/-- the slice v of signed roots, the call's own from block base on, holds L -/
def OwnS (w : World) (base : Nat) (v : Value) (L : List (SgT × Value)) : Prop := w.ownsRow base 30 98 v L.length (flatS L) ∧ ∀ p ∈ L, okS p.1
theorem OwnS.nil (w : World) (base : Nat) : OwnS w base (.slice none 0 0) [] := ⟨World.ownsRow_nil _ _ _ _, fun _ h => by cases h⟩
theorem OwnS.lt {w : World} {base : Nat} {v : Value} {L : List (SgT × Value)} (h : OwnS w base v L) : ∀ k, v.ownBlock = some k → base ≤ k ∧ k < w.heap.size := World.ownsRow.lt h.1
theorem OwnS.keep {w w' : World} {base : Nat} {v : Value} {L : List (SgT × Value)} (h : OwnS w base v L) (hs : ∀ k, base ≤ k → k < w.heap.size → w'.heap[k]? = w.heap[k]?) : OwnS w' base v L := by
  refine ⟨?_, h.2⟩
  have hlt := World.ownsRow.lt h.1
  rcases h.1 with ⟨h1, ⟨rfl, h2⟩ | ⟨g, cap, cur, rfl, hg, hh, h3⟩⟩
  · exact ⟨h1, Or.inl ⟨rfl, h2⟩⟩
  · exact ⟨h1, Or.inr ⟨g, cap, cur, rfl, hg, by rw [hs g hg (hlt g rfl).2]; exact hh, h3⟩⟩
theorem OwnS.slice {w : World} {base : Nat} {v : Value} {L : List (SgT × Value)} (h : OwnS w base v L) : ∃ ad c, v = .slice ad L.length c := by
  rcases h.1 with ⟨_, ⟨rfl, h2⟩ | ⟨g, cap, cur, rfl, _⟩⟩
  · exact ⟨none, 0, by rw [h2]⟩
  · exact ⟨_, _, rfl⟩
theorem flatS_at {L : List (SgT × Value)} (h : ∀ p ∈ L, okS p.1) : ∀ (j i : Nat) (p : SgT × Value) (v : Value), L[j]? = some p → (sgC p.1 p.2)[i]? = some v → (flatS L)[j * 98 + i]? = some v := by
  unfold flatS
  induction L with
  | nil => intro j i p v hj; simp at hj
  | cons q r ih =>
    intro j i p v hj hv
    rw [List.map_cons, List.flatten_cons]
    cases j with
    | zero =>
      simp only [List.getElem?_cons_zero, Option.some.injEq] at hj
      subst hj
      have hi : i < (sgC q.1 q.2).length := (List.getElem?_eq_some_iff.1 hv).1
      rw [Nat.zero_mul, Nat.zero_add, List.getElem?_append_left hi, hv]
    | succ j =>
      simp only [List.getElem?_cons_succ] at hj
      have hl : (sgC q.1 q.2).length = 98 := len_sgC (h q (by simp)) _
      rw [List.getElem?_append_right (by rw [hl]; omega), hl, show (j + 1) * 98 + i - 98 = j * 98 + i by omega]
      exact ih (fun x hx => h x (by simp [hx])) j i p v hj hv
theorem OwnS.readsS {w : World} {base : Nat} {v : Value} {L : List (SgT × Value)} (h : OwnS w base v L) (hr : ∀ p ∈ L, Reads w p.2 p.1.2) : ReadsS w v (L.map (·.1)) := by
  refine ⟨?_, fun s hs => by obtain ⟨p, hp, rfl⟩ := List.mem_map.1 hs; exact h.2 p hp⟩
  rw [List.length_map]
  rcases h.1 with ⟨h1, ⟨rfl, h2⟩ | ⟨g, cap, cur, rfl, hg, hh, hc, hm, hs, ht⟩⟩
  · exact ⟨none, 0, by rw [h2], by omega, fun _ => rfl, fun hp => by omega⟩
  · refine ⟨_, cap, rfl, hc, fun h => (by cases h), fun hp => ⟨g, 0, rfl, fun j hj => ?_⟩⟩
    have hq : L[j]? = some L[j] := List.getElem?_eq_getElem hj
    have e : (L.map (·.1)).getD j zeroS = L[j].1 := by rw [List.getD_eq_getElem?_getD, List.getElem?_map, hq]; rfl
    rw [e]
    have hmem : L[j] ∈ L := List.getElem_mem hj
    refine ⟨L[j].2, ⟨fun i u hv => ?_, h.2 _ hmem⟩, hr _ hmem⟩
    have hi : i < 98 := by have := (List.getElem?_eq_some_iff.1 hv).1; rwa [len_sgC (h.2 _ hmem)] at this
    have hf := flatS_at h.2 j i L[j] u hq hv
    rw [← ht, List.getElem?_take] at hf
    rw [cell_of_row w g _ cur 30 (0, 0) hh, Nat.zero_add]
    rw [if_pos (by
      have : (j + 1) * 98 ≤ L.length * 98 := Nat.mul_le_mul_right 98 hj
      omega)] at hf
    simpa using hf
/-- a row of signed roots is no row of bytes -/
theorem OwnB.apartS {w : World} {b1 b2 : Nat} {v u : Value} {l : List (BitVec 8)} {L : List (SgT × Value)} (h : OwnB w b1 v l) (h2 : OwnS w b2 u L) : ∀ k, v.ownBlock = some k → some k ≠ u.ownBlock := by
  obtain ⟨_, h1⟩ := h
  obtain ⟨⟨_, h3⟩, _⟩ := h2
  intro k hk he
  rcases h1 with ⟨rfl, _⟩ | ⟨g, cap, cur, rfl, hg, hh, _⟩
  · simp [Value.ownBlock] at hk
  · rcases h3 with ⟨rfl, _⟩ | ⟨g2, cap2, cur2, rfl, hg2, hh2, _⟩
    · simp [Value.ownBlock] at he
    · simp only [Value.ownBlock, Option.some.injEq] at hk he
      subst hk he
      rw [hh] at hh2
      simp only [Option.some.injEq, Obj.cells.injEq] at hh2
      exact absurd hh2.2.1 (by decide)
/-- a signed root stored into a row -/
theorem wpSeq_storeSgAt {ops : Array Oper} {Q : Exit → Act → World → Prop} {rest : List Oper} {o : Oper} {a : Act} {w : World} (x y : Operand) (g off : Nat) (A B C ns : List Value) (ty : TypeId) (hb : Blk w g (A ++ (B ++ C)) ty) (hA : A.length = off) (hB : B.length = 98) (hl : ns.length = 98) (h1 : ∀ v ∈ ns, v.oneCell' = true) (ho : o.op = .store 30 x y) (hx : a.eval x = .pointer (some ⟨g, off, none⟩)) (hy : a.eval y = .agg ns.toArray) (hgd : o.guard = none)
    (h : ∀ w', SetR (A ++ (ns ++ C)) ty w g w' → wpList Tryd.prog ops Q rest (a.put o.dst undef) w') : wpList Tryd.prog ops Q (o :: rest) a w :=
  wpList_store_mid hgd 30 x y ho g off _ hx hy (hb.there off _ (by rw [List.size_toArray, List.length_append, List.length_append]; omega)) (by rw [List.size_toArray, hl]; exact info_signed) (all_oneCell_toArray h1)
    (by rw [List.toList_toArray]; exact h _ ⟨hb.seg (by omega) hA, Only.setCells _ _ _ (Only.refl g w)⟩)
/-- roots in order, as evidence of n roots -/
def evN (n : Nat) (rs : List SgT) : EvT := (rs.take (n - 2), rs.getD (n - 2) zeroS, rs.getD (n - 1) zeroS)
/-- evidence in block g, as far as the roots rs were read; its values the call's own -/
structure RdI (y1 : World) (g n : Nat) (rs : List SgT) (L : List (SgT × Value)) (vt va vb : Value) (W : World) : Prop where
  bel : Below y1.heap.size y1 W
  ev : Blk W g (evC (evN n rs) vt va vb) 32
  own : OwnS W (g + 1) vt L
  sg : ∀ p ∈ L, OwnB W (g + 1) p.2 p.1.2
  eq : L.map (·.1) = rs.take (n - 2)
  ra : OwnB W (g + 1) va (rs.getD (n - 2) zeroS).2
  rb : OwnB W (g + 1) vb (rs.getD (n - 1) zeroS).2
  ok : ∀ s ∈ rs, okS s
  ge : y1.heap.size ≤ g
theorem RdI.oa {y1 : World} {g n : Nat} {rs : List SgT} {L : List (SgT × Value)} {vt va vb : Value} {W : World} (h : RdI y1 g n rs L vt va vb W) : okS (rs.getD (n - 2) zeroS) := getD_okS h.ok _
theorem RdI.ob {y1 : World} {g n : Nat} {rs : List SgT} {L : List (SgT × Value)} {vt va vb : Value} {W : World} (h : RdI y1 g n rs L vt va vb W) : okS (rs.getD (n - 1) zeroS) := getD_okS h.ok _
theorem RdI.size {y1 : World} {g n : Nat} {rs : List SgT} {L : List (SgT × Value)} {vt va vb : Value} {W : World} (h : RdI y1 g n rs L vt va vb W) : g + 1 ≤ W.heap.size := h.ev.lt
theorem RdI.next {y1 : World} {g n : Nat} {rs : List SgT} {L : List (SgT × Value)} {vt va vb : Value} {W W' : World} (h : RdI y1 g n rs L vt va vb W) (hb : Below W.heap.size W W') : RdI y1 g n rs L vt va vb W' :=
  ⟨h.bel.trans (hb.mono h.bel.size), h.ev.below hb h.ev.lt, h.own.keep fun k _ hk => hb.block k hk, fun p hp => (h.sg p hp).same fun k hk => hb.block k ((h.sg p hp).lt k hk), h.eq, h.ra.same fun k hk => hb.block k (h.ra.lt k hk), h.rb.same fun k hk => hb.block k (h.rb.lt k hk), h.ok, h.ge⟩
/-- what stands there at the end -/
theorem RdI.evB {y1 : World} {g n : Nat} {rs : List SgT} {L : List (SgT × Value)} {vt va vb : Value} {W : World} (h : RdI y1 g n rs L vt va vb W) : EvB W (evN n rs) (evC (evN n rs) vt va vb) := by
  refine EvIs.evB ⟨?_, h.ra.reads, h.rb.reads, h.oa, h.ob⟩
  have h1 := h.own.readsS fun p hp => (h.sg p hp).reads
  rw [h.eq] at h1
  exact h1
end Go.Proofs.YtableajopaappaaDoor
/- The reference's Seal, its signature in the call's own blocks (layer 12). -/
namespace Go.Proofs.YtableajopaappaaDoor
open Go.RowKit Go.Shelf
set_option maxRecDepth 100000
end Go.Proofs.YtableajopaappaaDoor
/- The walk of the reference's Read (layer 12). -/
namespace Go.Proofs.YtableajopaappaaDoor
open Go.RowKit Go.Shelf
set_option maxRecDepth 100000
theorem ReadsL.atL {w : World} {ad : Option Addr} {n cp : Nat} {ls : List Bs} (h : ReadsL w (.slice ad n cp) ls) (hp : 0 < ls.length) : ∃ b off, ad = some ⟨b, off, none⟩ ∧ ∀ j, j < ls.length → ∃ vj, w.cell? ⟨b, off + j, none⟩ = some vj ∧ Reads w vj (ls.getD j []) := by
  obtain ⟨ad', cap, hv, _, _, hx⟩ := h
  simp only [Value.slice.injEq] at hv
  obtain ⟨rfl, _, _⟩ := hv
  exact hx hp
theorem mem_getD {ts : List Bs} {k : Nat} (hk : k < ts.length) : ts.getD k [] ∈ ts := by
  rw [List.getD_eq_getElem?_getD, List.getElem?_eq_getElem hk]
  exact List.getElem_mem hk
theorem takeB_more {l : List Bs} {k : Nat} (hk : k < l.length) : l.take (k + 1) = l.take k ++ [l.getD k []] := by
  rw [List.take_add_one, List.getD_eq_getElem?_getD, List.getElem?_eq_getElem hk]
  rfl
theorem readF_bad {b : Bs} (h : errOf (readList readText b) ≠ 0 ∨ ((readList readText b).getD []).length < 2 ∨ 65 < ((readList readText b).getD []).length ∨ readSs ((readList readText b).getD []) = none) : readF b = none := by
  unfold readF
  cases hr : readList readText b with
  | none => rfl
  | some ts =>
    rw [hr] at h
    simp only [Option.getD_some, errOf, Option.isSome_some, if_true, ne_eq, not_true, false_or] at h
    simp only
    by_cases h2 : 2 ≤ ts.length ∧ ts.length ≤ 65
    · rw [if_pos h2]
      rcases h with h | h | h
      · omega
      · omega
      · rw [h]; rfl
    · rw [if_neg h2]
theorem readF_good {b : Bs} {l : List SgT} (h0 : errOf (readList readText b) = 0) (h2 : 2 ≤ ((readList readText b).getD []).length) (h65 : ((readList readText b).getD []).length ≤ 65) (hl : readSs ((readList readText b).getD []) = some l) : readF b = some (evL l) := by
  unfold readF
  cases hr : readList readText b with
  | none => rw [hr] at h0; cases h0
  | some ts =>
    rw [hr] at h2 h65 hl
    simp only [Option.getD_some] at h2 h65 hl
    simp only
    rw [if_pos ⟨h2, h65⟩, hl]
    rfl
end Go.Proofs.YtableajopaappaaDoor
/- The walks of the reference's Pin and Honest (layer 12). -/
namespace Go.Proofs.YtableajopaappaaDoor
open Go.RowKit Go.Shelf
set_option maxRecDepth 100000
structure HnI (w : World) (g2 g6 : Nat) (seed : Bs) (h : HdT) (v : Value) (L : List (SgT × Value)) (W : World) : Prop where
  sd : Blk W g2 (cb seed) 23
  hd : Blk W g6 (hdC h) 50
  own : OwnS W (g6 + 1) v L
  sg : ∀ p ∈ L, OwnB W (g6 + 1) p.2 p.1.2
  bel : Below w.heap.size w W
  lt : g2 < g6
  ge : w.heap.size ≤ g2
theorem HnI.size {w : World} {g2 g6 : Nat} {seed : Bs} {h : HdT} {v : Value} {L : List (SgT × Value)} {W : World} (i : HnI w g2 g6 seed h v L W) : g6 + 1 ≤ W.heap.size := i.hd.lt
theorem HnI.next {w : World} {g2 g6 : Nat} {seed : Bs} {h : HdT} {v : Value} {L : List (SgT × Value)} {W W' : World} (i : HnI w g2 g6 seed h v L W) (hb : Below W.heap.size W W') : HnI w g2 g6 seed h v L W' :=
  ⟨i.sd.below hb i.sd.lt, i.hd.below hb i.hd.lt, i.own.keep fun k _ hk => hb.block k hk, fun p hp => (i.sg p hp).same fun k hk => hb.block k ((i.sg p hp).lt k hk), i.bel.trans (hb.mono i.bel.size), i.lt, i.ge⟩
theorem HnI.drew {w : World} {g2 g6 : Nat} {seed : Bs} {h : HdT} {v : Value} {L : List (SgT × Value)} {W : World} (i : HnI w g2 g6 seed h v L W) : HnI w g2 g6 seed h v L W.drew := i.next (Below.refl _ _).drew
theorem HnI.more {w : World} {g2 g6 : Nat} {seed : Bs} {h : HdT} {v v' sv : Value} {s : SgT} {L : List (SgT × Value)} {W W' : World} (i : HnI w g2 g6 seed h v L W) (hs : OwnB W (g6 + 1) sv s.2) (ho : OwnS W' (g6 + 1) v' (L ++ [(s, sv)])) (hg : Grow (g6 + 1) W v W' v') : HnI w g2 g6 seed h v' (L ++ [(s, sv)]) W' := by
  have up : ∀ {u : Value} {l : Bs}, OwnB W (g6 + 1) u l → OwnB W' (g6 + 1) u l := fun {u l} hv => hv.same fun k hk => hg.other k (hv.apartS i.own k hk) (hv.lt k hk)
  refine ⟨i.sd.below hg.below (by have := i.lt; omega), i.hd.below hg.below (by omega), ho, fun p hp => ?_, i.bel.trans (hg.below.mono (by have := i.lt; have := i.ge; omega)), i.lt, i.ge⟩
  rcases List.mem_append.1 hp with hp | hp
  · exact up (i.sg p hp)
  · rw [List.mem_singleton.1 hp]; exact up hs
theorem HnI.reads {w : World} {g2 g6 : Nat} {seed : Bs} {h : HdT} {v : Value} {L : List (SgT × Value)} {W : World} (i : HnI w g2 g6 seed h v L W) : ReadsS W v (L.map (·.1)) := i.own.readsS fun p hp => (i.sg p hp).reads
end Go.Proofs.YtableajopaappaaDoor
/- What breaks tells: a signed root that is taken by a seed's key, and is not what that key signed, breaks something (layer 12). -/
namespace Go.Proofs.YtableajopaappaaDoor
open Go.RowKit Go.Shelf
set_option maxRecDepth 100000
structure BrI (w : World) (g4 g7 g13 g14 : Nat) (seed : Bs) (csg : List Value) (dw d : Bs) (W : World) : Prop where
  a : Blk W g4 (cb seed) 23
  b : Blk W g7 csg 30
  c : Blk W g13 (cb dw) 23
  d : Blk W g14 (cb d) 23
  bel : Below w.heap.size w W
end Go.Proofs.YtableajopaappaaDoor
/- A slice of signed roots appended whole (layer 12). -/
namespace Go.Proofs.YtableajopaappaaDoor
open Go.RowKit Go.Shelf
set_option maxRecDepth 100000
theorem rows_of (w : World) (b : Nat) : ∀ (l : List SgT) (off : Nat), (∀ j, j < l.length → ∃ vs, SgAt w b (off + j * 98) (l.getD j zeroS) vs ∧ Reads w vs (l.getD j zeroS).2) →
    ∃ T : List (SgT × Value), T.map (·.1) = l ∧ (∀ p ∈ T, Reads w p.2 p.1.2 ∧ okS p.1) ∧ ∀ j u, (flatS T)[j]? = some u → w.cell? ⟨b, off + j, none⟩ = some u
  | [], off, _ => ⟨[], rfl, (fun p hp => by cases hp), fun j u hj => by simp [flatS] at hj⟩
  | s :: l, off, h => by
    obtain ⟨v0, h0, r0⟩ := h 0 (by simp)
    rw [Nat.zero_mul, Nat.add_zero] at h0
    obtain ⟨T, e, hp, hc⟩ := rows_of w b l (off + 98) (fun j hj => by
      obtain ⟨v, h1, h2⟩ := h (j + 1) (by simpa using hj)
      exact ⟨v, by rw [show off + 98 + j * 98 = off + (j + 1) * 98 by omega]; exact h1, h2⟩)
    refine ⟨(s, v0) :: T, by rw [List.map_cons, e], fun p hpp => ?_, fun j u hj => ?_⟩
    · rcases List.mem_cons.1 hpp with rfl | hpp
      · exact ⟨r0, h0.ok⟩
      · exact hp p hpp
    · have e2 : flatS ((s, v0) :: T) = sgC s v0 ++ flatS T := by simp [flatS]
      rw [e2] at hj
      have hl : (sgC s v0).length = 98 := len_sgC h0.ok v0
      by_cases hj98 : j < 98
      · rw [List.getElem?_append_left (by omega)] at hj
        exact h0.all j u hj
      · rw [List.getElem?_append_right (by omega), hl] at hj
        have := hc (j - 98) u hj
        rwa [show off + 98 + (j - 98) = off + j by omega] at this
theorem flatS_len : ∀ (T : List (SgT × Value)), (∀ p ∈ T, okS p.1) → (flatS T).length = T.length * 98
  | [], _ => rfl
  | p :: T, h => by
    have e2 : flatS (p :: T) = sgC p.1 p.2 ++ flatS T := by simp [flatS]
    rw [e2, List.length_append, len_sgC (h p (by simp)), flatS_len T (fun q hq => h q (by simp [hq])), List.length_cons]
    omega
theorem flatS_one : ∀ (T : List (SgT × Value)), (∀ p ∈ T, p.2.oneCell' = true) → ∀ u ∈ flatS T, u.oneCell' = true
  | [], _ => fun u hu => by simp [flatS] at hu
  | p :: T, h => fun u hu => by
    have e2 : flatS (p :: T) = sgC p.1 p.2 ++ flatS T := by simp [flatS]
    rw [e2, List.mem_append] at hu
    rcases hu with hu | hu
    · rw [sgC_eq, List.mem_append, List.mem_singleton] at hu
      rcases hu with hu | rfl
      · exact rtC_one _ u hu
      · exact h p (by simp)
    · exact flatS_one T (fun q hq => h q (by simp [hq])) u hu
theorem Reads.one {w : World} {v : Value} {l : Bs} (h : Reads w v l) : v.oneCell' = true := by
  obtain ⟨a, n, c, rfl⟩ := h.form
  rfl
end Go.Proofs.YtableajopaappaaDoor
/- A made row of signed roots: made, copied into, stored into, read (layer 12). -/
namespace Go.Proofs.YtableajopaappaaDoor
open Go.RowKit Go.Shelf
set_option maxRecDepth 100000
/-- the block g holds the signed roots L, one behind the other -/
structure RowS (w : World) (g : Nat) (L : List (SgT × Value)) : Prop where
  blk : Blk w g (flatS L) 30
  ok : ∀ p ∈ L, okS p.1
theorem RowS.below {w w' : World} {g : Nat} {L : List (SgT × Value)} (h : RowS w g L) (hb : Below w.heap.size w w') : RowS w' g L := ⟨h.blk.below hb h.blk.lt, h.ok⟩
theorem RowS.only {w w' : World} {g g' : Nat} {L : List (SgT × Value)} (h : RowS w g L) (ho : Only g' w w') (hne : g ≠ g') : RowS w' g L := ⟨h.blk.only ho hne, h.ok⟩
theorem RowS.drew {w : World} {g : Nat} {L : List (SgT × Value)} (h : RowS w g L) : RowS w.drew g L := ⟨h.blk.drew, h.ok⟩
theorem RowS.lt {w : World} {g : Nat} {L : List (SgT × Value)} (h : RowS w g L) : g < w.heap.size := h.blk.lt
def zeroL (n : Nat) : List (SgT × Value) := List.replicate n (zeroS, .slice none 0 0)
theorem zeroL_ok (n : Nat) : ∀ p ∈ zeroL n, okS p.1 := fun p hp => by rw [(List.mem_replicate.1 hp).2]; exact okS_zero
theorem len_zeroL (n : Nat) : (zeroL n).length = n := List.length_replicate
theorem flatS_cut (A B : List (SgT × Value)) : flatS (A ++ B) = flatS A ++ flatS B := by simp [flatS]
/-- the signed root at a place -/
theorem RowS.at {w : World} {g : Nat} {L : List (SgT × Value)} (h : RowS w g L) {k : Nat} {p : SgT × Value} (hk : L[k]? = some p) : SgAt w g (k * 98) p.1 p.2 :=
  ⟨fun i v hv => by rw [h.blk.cell]; exact flatS_at h.ok k i p v hk hv, h.ok p (List.mem_of_getElem? hk)⟩
/-- a beginning, as a slice -/
theorem RowS.readsS {w : World} {g : Nat} {L : List (SgT × Value)} (h : RowS w g L) (m : Nat) (hm : m ≤ L.length) (c : Nat) (hc : m ≤ c) (hr : ∀ p ∈ L.take m, Reads w p.2 p.1.2) : ReadsS w (.slice (some ⟨g, 0, none⟩) m c) ((L.take m).map (·.1)) := by
  have hl : ((L.take m).map (·.1)).length = m := by rw [List.length_map, List.length_take]; omega
  refine ⟨⟨_, c, by rw [hl], by rw [hl]; exact hc, (fun e => by cases e), fun _ => ⟨g, 0, rfl, fun j hj => ?_⟩⟩, fun s hs => ?_⟩
  · rw [hl] at hj
    have hjl : j < L.length := by omega
    have e : ((L.take m).map (·.1)).getD j zeroS = (L[j]).1 := by
      rw [List.getD_eq_getElem?_getD, List.getElem?_map, List.getElem?_take_of_lt hj, List.getElem?_eq_getElem hjl]
      rfl
    rw [e, Nat.zero_add]
    refine ⟨(L[j]).2, h.at (List.getElem?_eq_getElem hjl), hr _ ?_⟩
    have : (L.take m)[j]? = some L[j] := by rw [List.getElem?_take_of_lt hj, List.getElem?_eq_getElem hjl]
    exact List.mem_of_getElem? this
  · obtain ⟨p, hp, rfl⟩ := List.mem_map.1 hs
    exact h.ok p (List.mem_of_mem_take hp)
theorem flatS_zero (n : Nat) : (flatS (zeroL n)).length = n * 98 := by rw [flatS_len _ (zeroL_ok n), len_zeroL]
/-- what a made slice's cells are -/
theorem madeS (n : Nat) : madeCells (Value.cells (.agg (sgC zeroS (.slice none 0 0)).toArray)) (n * 98) = (flatS (zeroL n)).toArray := by
  apply Array.ext
  · rw [size_madeCells, List.size_toArray, flatS_zero]
  · intro j h1 h2
    rw [size_madeCells] at h1
    have hz : (Value.cells (.agg (sgC zeroS (.slice none 0 0)).toArray)).size = 98 := by
      show (sgC zeroS (.slice none 0 0)).toArray.size = 98
      rw [List.size_toArray]
      exact len_sgC okS_zero _
    have hj : j = (j / 98) * 98 + j % 98 := by omega
    have hq : j / 98 < n := by omega
    have hm : j % 98 < (sgC zeroS (.slice none 0 0)).length := by rw [len_sgC okS_zero]; omega
    have e1 := flatS_at (zeroL_ok n) (j / 98) (j % 98) (zeroS, .slice none 0 0) ((sgC zeroS (.slice none 0 0))[j % 98]) (by rw [zeroL, List.getElem?_replicate, if_pos hq]) (List.getElem?_eq_getElem hm)
    rw [← hj] at e1
    have e2 : (flatS (zeroL n)).toArray[j] = (sgC zeroS (.slice none 0 0))[j % 98] := by
      rw [List.getElem_toArray]
      exact Option.some.inj ((List.getElem?_eq_getElem _).symm.trans e1)
    rw [e2]
    simp only [madeCells, Array.getElem_map, Array.getElem_range, hz]
    show (sgC zeroS (.slice none 0 0)).toArray[j % 98]! = _
    rw [getElem!_pos _ _ (by rw [List.size_toArray]; exact hm), List.getElem_toArray]
theorem make_sg (f : Operand → Value) (o : Oper) (x y : Operand) (n : Nat) (hn : n ≤ 1000000) (ho : o.op = .makeSlice 24 x y) (hx : f x = .int .i64 (n : Int)) (hy : f y = .int .i64 (n : Int)) (w : World) :
    (execOp f o).run Tryd.prog w = .ok (.value (.slice (some ⟨w.heap.size, 0, none⟩) n n)) (w.alloc (.cells (flatS (zeroL n)).toArray 30)) := by
  obtain ⟨i0, hi, hz, hs, hby⟩ := info_parts Tryd.infos3
  have hr := run_make (P := Tryd.prog) w 24 30 i0 _ Tryd.underlying24 hi hz .i64 .i64 (n : Int) (n : Int) (by omega) (Int.le_refl _) (by rw [hby]; omega) (by omega)
  rw [Int.toNat_natCast, hs, madeS] at hr
  unfold execOp
  rw [ho]
  simp only [hx, hy, Sem.run_bind, hr, Result.andThen_ok, Sem.run_pure]
theorem wpSeq_makeS {ops : Array Oper} {Q : Exit → Act → World → Prop} {rest : List Oper} {o : Oper} {a : Act} {w : World} (x y : Operand) (n : Nat) (hn : n ≤ 1000000) (ho : o.op = .makeSlice 24 x y) (hx : a.eval x = .int .i64 (n : Int)) (hy : a.eval y = .int .i64 (n : Int)) (hw : Region.wanted o (yielded ops a.tmps) = true)
    (h : ∀ g w', w.heap.size ≤ g → RowS w' g (zeroL n) → Below w.heap.size w w' → wpList Tryd.prog ops Q rest (a.put o.dst (.slice (some ⟨g, 0, none⟩) n n)) w') : wpList Tryd.prog ops Q (o :: rest) a w :=
  wpSeq_val _ _ hw (make_sg _ o x y n hn ho hx hy w) (h _ _ (Nat.le_refl _) ⟨Blk.new _ _ _, zeroL_ok n⟩ (below_alloc _ _))
/-- a signed root stored at a place of a row -/
theorem RowS.put {w w' : World} {g k : Nat} {L : List (SgT × Value)} {s : SgT} {ad : Option Addr} {n c : Nat} (h : RowS w g L) (hk : k < L.length) (os : okS s) (hr : SetR (flatS (L.take k) ++ (sgC s (.slice ad n c) ++ flatS (L.drop (k + 1)))) 30 w g w') : RowS w' g (L.set k (s, .slice ad n c)) := by
  have e : L.set k (s, .slice ad n c) = L.take k ++ ((s, Value.slice ad n c) :: L.drop (k + 1)) := by rw [List.set_eq_take_append_cons_drop, if_pos hk]
  refine ⟨?_, fun p hp => ?_⟩
  · rw [e, flatS_cut]
    have e2 : flatS ((s, Value.slice ad n c) :: L.drop (k + 1)) = sgC s (.slice ad n c) ++ flatS (L.drop (k + 1)) := by simp [flatS]
    rw [e2]
    exact hr.blk
  · rw [e] at hp
    rcases List.mem_append.1 hp with hp | hp
    · exact h.ok p (List.mem_of_mem_take hp)
    · rcases List.mem_cons.1 hp with rfl | hp
      · exact os
      · exact h.ok p (List.mem_of_mem_drop hp)
theorem RowS.parts {w : World} {g k : Nat} {L : List (SgT × Value)} (h : RowS w g L) (hk : k < L.length) : Blk w g (flatS (L.take k) ++ (sgC (L[k]).1 (L[k]).2 ++ flatS (L.drop (k + 1)))) 30 ∧ (flatS (L.take k)).length = k * 98 := by
  have e : L = L.take k ++ (L[k] :: L.drop (k + 1)) := by rw [List.getElem_cons_drop, List.take_append_drop]
  have e2 : flatS L = flatS (L.take k) ++ (sgC (L[k]).1 (L[k]).2 ++ flatS (L.drop (k + 1))) := by
    conv => lhs; rw [e]
    rw [flatS_cut]
    congr 1
  refine ⟨by rw [← e2]; exact h.blk, ?_⟩
  rw [flatS_len _ (fun p hp => h.ok p (List.mem_of_mem_take hp)), List.length_take]
  congr 1
  omega
theorem wpSeq_storeRowS {ops : Array Oper} {Q : Exit → Act → World → Prop} {rest : List Oper} {o : Oper} {a : Act} {w : World} (x y : Operand) (g k : Nat) (L : List (SgT × Value)) (s : SgT) (ad : Option Addr) (n c : Nat) (h : RowS w g L) (hk : k < L.length) (os : okS s) (ho : o.op = .store 30 x y) (hx : a.eval x = .pointer (some ⟨g, k * 98, none⟩)) (hy : a.eval y = .agg (sgC s (.slice ad n c)).toArray) (hgd : o.guard = none)
    (hh : ∀ w', RowS w' g (L.set k (s, .slice ad n c)) → Only g w w' → wpList Tryd.prog ops Q rest (a.put o.dst undef) w') : wpList Tryd.prog ops Q (o :: rest) a w :=
  wpSeq_storeSgAt x y g (k * 98) (flatS (L.take k)) (sgC (L[k]).1 (L[k]).2) (flatS (L.drop (k + 1))) (sgC s (.slice ad n c)) 30 (h.parts hk).1 (h.parts hk).2 (len_sgC (h.ok _ (List.getElem_mem hk)) _) (len_sgC os _) (sgC_one _ _ _ _) ho hx hy hgd (fun w' hr => hh w' (h.put hk os hr) hr.only)
end Go.Proofs.YtableajopaappaaDoor
/- Rows of signed roots that are copied into from a place on; rows of texts that are made and stored into (layer 12). -/
namespace Go.Proofs.YtableajopaappaaDoor
open Go.RowKit Go.Shelf
set_option maxRecDepth 100000
theorem flatS_take {L : List (SgT × Value)} (h : ∀ p ∈ L, okS p.1) (k : Nat) (hk : k ≤ L.length) : (flatS L).take (k * 98) = flatS (L.take k) := by
  have e : flatS L = flatS (L.take k) ++ flatS (L.drop k) := by rw [← flatS_cut, List.take_append_drop]
  have hl : (flatS (L.take k)).length = k * 98 := by rw [flatS_len _ (fun p hp => h p (List.mem_of_mem_take hp)), List.length_take, Nat.min_eq_left hk]
  conv => lhs; rw [e]
  rw [← hl, List.take_left]
theorem flatS_drop {L : List (SgT × Value)} (h : ∀ p ∈ L, okS p.1) (k : Nat) (hk : k ≤ L.length) : (flatS L).drop (k * 98) = flatS (L.drop k) := by
  have e : flatS L = flatS (L.take k) ++ flatS (L.drop k) := by rw [← flatS_cut, List.take_append_drop]
  have hl : (flatS (L.take k)).length = k * 98 := by rw [flatS_len _ (fun p hp => h p (List.mem_of_mem_take hp)), List.length_take, Nat.min_eq_left hk]
  conv => lhs; rw [e]
  rw [← hl, List.drop_left]
/-- signed roots copied into a row, from place k on -/
theorem run_copyK (w : World) (ty : TypeId) (g k dLen dCap : Nat) (a : Addr) (sLen sCap : Nat) (L T : List (SgT × Value)) (h : RowS w g L) (hT : ∀ p ∈ T, okS p.1) (h1 : ∀ p ∈ T, p.2.oneCell' = true) (hd : k + dLen = L.length) (hm : Nat.min sLen dLen = T.length)
    (hsrc : ∀ j v, (flatS T)[j]? = some v → w.cell? (a.add j) = some v) :
    ∃ w', (Builtin.copy_ #[24, 24] ty #[.slice (some ⟨g, k * 98, none⟩) dLen dCap, .slice (some a) sLen sCap]).run Tryd.prog w = .ok (goInt T.length) w' ∧ RowS w' g (L.take k ++ T ++ L.drop (k + T.length)) ∧ Only g w w' := by
  obtain ⟨i0, hi, hz, hsz, _⟩ := info_parts Tryd.infos3
  have hle : T.length ≤ dLen := by rw [← hm]; exact Nat.min_le_right _ _
  have hl := run_loadCells_list (P := Tryd.prog) w a (flatS T) hsrc
  have hTl := flatS_len T hT
  have hLl := flatS_len L h.ok
  have hg : w.heap[g]? = some (.cells (flatS L).toArray 30 (0, 0)) := h.blk
  have hst := run_storeCells_at Tryd.prog g (k * 98) 30 (flatS T) 0 (flatS L).toArray w hg (by rw [List.size_toArray, hTl, hLl]; omega) (flatS_one T h1)
  have hn : (flatS T).length = Nat.min sLen dLen * 98 := by rw [hTl, hm]
  refine ⟨w.setRow g ((flatS L).toArray.toList.take (k * 98 + 0) ++ flatS T ++ (flatS L).toArray.toList.drop (k * 98 + 0 + (flatS T).length)).toArray, ?_, ⟨?_, ?_⟩, ?_⟩
  rotate_left
  · have e : (flatS L).toArray.toList.take (k * 98 + 0) ++ flatS T ++ (flatS L).toArray.toList.drop (k * 98 + 0 + (flatS T).length) = flatS (L.take k ++ T ++ L.drop (k + T.length)) := by
      rw [flatS_cut, flatS_cut, hTl, Nat.add_zero, ← Nat.add_mul, List.toList_toArray, flatS_take h.ok k (by omega), flatS_drop h.ok (k + T.length) (by omega)]
    show (w.setRow g _).heap[g]? = _
    rw [setRow_heap w g (flatS L).toArray _ 30 (0, 0) hg, e]
  · intro p hp
    rcases List.mem_append.1 hp with hp | hp
    · rcases List.mem_append.1 hp with hp | hp
      · exact h.ok p (List.mem_of_mem_take hp)
      · exact hT p hp
    · exact h.ok p (List.mem_of_mem_drop hp)
  · exact ⟨rfl, rfl, rfl, Nat.le_of_eq (size_setRow _ _ _).symm, fun k hk _ => setRow_other _ _ _ _ hk⟩
  · rw [← hm]
    simp [Builtin.copy_, run_underlying Tryd.underlying24, Builtin.lenOf, Builtin.firstCells, sizeOf, typeInfo, hi, hsz, ← hn, hl, hst]
theorem copyK_op (f : Operand → Value) (o : Oper) (d s : Operand) (ho : o.op = .call { callee := .builtin .copy, args := #[d, s], argTypes := #[24, 24] }) (w : World) (g k dLen dCap : Nat) (a : Addr) (sLen sCap : Nat) (L T : List (SgT × Value)) (h : RowS w g L) (hT : ∀ p ∈ T, okS p.1) (h1 : ∀ p ∈ T, p.2.oneCell' = true) (hd : k + dLen = L.length) (hm : Nat.min sLen dLen = T.length)
    (hsrc : ∀ j v, (flatS T)[j]? = some v → w.cell? (a.add j) = some v) (hx : f d = .slice (some ⟨g, k * 98, none⟩) dLen dCap) (hy : f s = .slice (some a) sLen sCap) :
    ∃ w', (execOp f o).run Tryd.prog w = .ok (.value (.int .i64 (T.length : Int))) w' ∧ RowS w' g (L.take k ++ T ++ L.drop (k + T.length)) ∧ Only g w w' := by
  obtain ⟨w', hrun, h2, h3⟩ := run_copyK w o.type g k dLen dCap a sLen sCap L T h hT h1 hd hm hsrc
  refine ⟨w', ?_, h2, h3⟩
  unfold execOp
  simp only [ho, resolve, invoke, builtin, Sem.run_bind, Sem.run_pure, Result.andThen_ok, List.map_toArray, List.map_cons, List.map_nil, hx, hy, hrun]
  rfl
theorem wpAnyH_copyK {md : Region.Mode} {ops : Array Oper} {Q : Exit → Act → World → Prop} {S : World → Prop} {fuel : Nat} {listed : Array Bool} {ac : Act} {w : World} (i : Nat) {oi : Oper} (d s : Operand) (g k dLen dCap : Nat) (a : Addr) (sLen sCap : Nat) (L T : List (SgT × Value)) (h : RowS w g L) (hT : ∀ p ∈ T, okS p.1) (h1 : ∀ p ∈ T, p.2.oneCell' = true) (hd : k + dLen = L.length) (hm : Nat.min sLen dLen = T.length)
    (hsrc : ∀ j v, (flatS T)[j]? = some v → w.cell? (a.add j) = some v) (hr : Region.ready md ops listed = [i]) (hi : ops[i]? = some oi) (hw : Region.wanted oi (yielded ops ac.tmps) = true) (ho : oi.op = .call { callee := .builtin .copy, args := #[d, s], argTypes := #[24, 24] }) (hx : ac.eval d = .slice (some ⟨g, k * 98, none⟩) dLen dCap) (hy : ac.eval s = .slice (some a) sLen sCap)
    (hh : ∀ w', RowS w' g (L.take k ++ T ++ L.drop (k + T.length)) → Only g w w' → S w' ∧ wpAnyH Tryd.prog md ops Q S fuel (listed.setIfInBounds i true) (ac.put oi.dst (.int .i64 (T.length : Int))) w') : wpAnyH Tryd.prog md ops Q S (fuel + 1) listed ac w := by
  obtain ⟨w', hrun, h2, h3⟩ := copyK_op ac.eval oi d s ho w g k dLen dCap a sLen sCap L T h hT h1 hd hm hsrc hx hy
  obtain ⟨hS, h4⟩ := hh w' h2 h3
  exact wpAnyH_step i _ w' hr hi hw hrun hS h4
/-- a slice of signed roots, as it was at an earlier world, copied to the front of a row: as many as have room -/
theorem wpSeq_copyW {ops : Array Oper} {Q : Exit → Act → World → Prop} {rest : List Oper} {o : Oper} {a : Act} {w : World} (w0 : World) (d s : Operand) (g N cap m : Nat) (L : List (SgT × Value)) (l : List SgT) (ad : Option Addr) (n c : Nat) (h : RowS w g L) (hd : N = L.length) (hr : ReadsS w0 (.slice ad n c) l) (hb0 : Below w0.heap.size w0 w) (hm : Nat.min l.length L.length = m)
    (ho : o.op = .call { callee := .builtin .copy, args := #[d, s], argTypes := #[24, 24] }) (hx : a.eval d = .slice (some ⟨g, 0, none⟩) N cap) (hy : a.eval s = .slice ad n c) (hgd : o.guard = none)
    (hh : ∀ w' T, T.map (·.1) = l.take m → (∀ p ∈ T, Reads w0 p.2 p.1.2) → RowS w' g (T ++ L.drop m) → Only g w w' → wpList Tryd.prog ops Q rest (a.put o.dst (.int .i64 (m : Int))) w') : wpList Tryd.prog ops Q (o :: rest) a w := by
  obtain ⟨⟨ad', c', hv, hc, hn, hat⟩, hok⟩ := id hr
  simp only [Value.slice.injEq] at hv
  obtain ⟨rfl, rfl, rfl⟩ := hv
  refine wpList_plain hgd fun K hK => ?_
  cases ad with
  | none =>
    have h0 : l = [] := List.eq_nil_of_length_eq_zero (by have := hn rfl; omega)
    subst h0
    have hc0 := hn rfl
    subst hc0
    have hm0 : m = 0 := by rw [← hm]; exact Nat.zero_min _
    subst hm0
    have hrun := run_copy_nil (P := Tryd.prog) w 24 24 o.type 30 ⟨g, 0, none⟩ N cap Tryd.underlying24 (by rw [info_signed]; rfl)
    unfold Oper.wp execOp
    simp only [ho, resolve, invoke, builtin, Sem.run_bind, Sem.run_pure, Result.andThen_ok, List.map_toArray, List.map_cons, List.map_nil, hx, hy, List.length_nil, hrun]
    exact hK _ _ (hh w [] rfl (fun p hp => by cases hp) (by simpa using h) (Only.refl _ _))
  | some ad =>
    obtain ⟨T, e, hp, hcell⟩ : ∃ T : List (SgT × Value), T.map (·.1) = l ∧ (∀ p ∈ T, Reads w0 p.2 p.1.2 ∧ okS p.1) ∧ ∀ j u, (flatS T)[j]? = some u → w.cell? (ad.add j) = some u := by
      by_cases hp : 0 < l.length
      · obtain ⟨b, off, hb, hyy⟩ := hat hp
        simp only [Option.some.injEq] at hb
        subst hb
        obtain ⟨T, e, h1, h2⟩ := rows_of w0 b l off hyy
        exact ⟨T, e, h1, fun j u hj => by rw [Addr.add_mid, Below.cell hb0 (block_lt_of_cell (h2 j u hj))]; exact h2 j u hj⟩
      · have h0 : l = [] := List.eq_nil_of_length_eq_zero (by omega)
        subst h0
        exact ⟨[], rfl, (fun p hp => by cases hp), fun j u hj => by simp [flatS] at hj⟩
    have hTl : T.length = l.length := by rw [← e, List.length_map]
    have hmT : m ≤ T.length := by rw [hTl, ← hm]; exact Nat.min_le_left _ _
    have hTm : (T.take m).length = m := by rw [List.length_take, Nat.min_eq_left hmT]
    have hcut : ∀ j u, (flatS (T.take m))[j]? = some u → (flatS T)[j]? = some u := fun j u hj => by
      rw [← flatS_take (fun p h => (hp p h).2) m hmT, List.getElem?_take] at hj
      split at hj
      · exact hj
      · cases hj
    obtain ⟨w', hrun, h1, h2⟩ := run_copyK w o.type g 0 N cap ad l.length c L (T.take m) h (fun p h => (hp p (List.mem_of_mem_take h)).2) (fun p h => (hp p (List.mem_of_mem_take h)).1.one) (by omega) (by rw [hTm, hd]; exact hm) (fun j u hj => hcell j u (hcut j u hj))
    rw [hTm] at hrun h1
    rw [Nat.zero_mul] at hrun
    rw [List.take_zero, List.nil_append, Nat.zero_add] at h1
    unfold Oper.wp execOp
    simp only [ho, resolve, invoke, builtin, Sem.run_bind, Sem.run_pure, Result.andThen_ok, List.map_toArray, List.map_cons, List.map_nil, hx, hy, hrun]
    exact hK _ _ (hh w' (T.take m) (by rw [List.map_take, e]) (fun p h => (hp p (List.mem_of_mem_take h)).1) h1 h2)
/-- a row copied to the front of another one: as many as have room -/
theorem wpSeq_copyR {ops : Array Oper} {Q : Exit → Act → World → Prop} {rest : List Oper} {o : Oper} {a : Act} {w : World} (d s : Operand) (g gs N M cap c m : Nat) (L Ls : List (SgT × Value)) (h : RowS w g L) (hs : RowS w gs Ls) (h1 : ∀ p ∈ Ls, p.2.oneCell' = true) (hd : N = L.length) (hM : M = Ls.length) (hm : Nat.min M N = m)
    (ho : o.op = .call { callee := .builtin .copy, args := #[d, s], argTypes := #[24, 24] }) (hx : a.eval d = .slice (some ⟨g, 0, none⟩) N cap) (hy : a.eval s = .slice (some ⟨gs, 0, none⟩) M c) (hgd : o.guard = none)
    (hh : ∀ w', RowS w' g (Ls.take m ++ L.drop m) → Only g w w' → wpList Tryd.prog ops Q rest (a.put o.dst (.int .i64 (m : Int))) w') : wpList Tryd.prog ops Q (o :: rest) a w := by
  refine wpList_plain hgd fun K hK => ?_
  have hmT : m ≤ Ls.length := by rw [← hM, ← hm]; exact Nat.min_le_left _ _
  have hTm : (Ls.take m).length = m := by rw [List.length_take, Nat.min_eq_left hmT]
  have hcut : ∀ j u, (flatS (Ls.take m))[j]? = some u → (flatS Ls)[j]? = some u := fun j u hj => by
    rw [← flatS_take hs.ok m hmT, List.getElem?_take] at hj
    split at hj
    · exact hj
    · cases hj
  obtain ⟨w', hrun, h2, h3⟩ := run_copyK w o.type g 0 N cap ⟨gs, 0, none⟩ M c L (Ls.take m) h (fun p h => hs.ok p (List.mem_of_mem_take h)) (fun p h => h1 p (List.mem_of_mem_take h)) (by omega) (by rw [hTm]; exact hm) (fun j u hj => by rw [Addr.add_mid, Nat.zero_add, hs.blk.cell]; exact hcut j u hj)
  rw [hTm] at hrun h2
  rw [Nat.zero_mul] at hrun
  rw [List.take_zero, List.nil_append, Nat.zero_add] at h2
  unfold Oper.wp execOp
  simp only [ho, resolve, invoke, builtin, Sem.run_bind, Sem.run_pure, Result.andThen_ok, List.map_toArray, List.map_cons, List.map_nil, hx, hy, hrun]
  exact hK _ _ (hh w' h2 h3)
/-- a cut of a row's last two -/
theorem drop2_op (f : Operand → Value) (o : Oper) (x lo : Operand) (ho : o.op = .slice 24 x (some lo) none none) (g k : Nat) (hx : f x = .slice (some ⟨g, 0, none⟩) (k + 2) (k + 2)) (hk : f lo = .int .i64 (k : Int)) (w : World) :
    (execOp f o).run Tryd.prog w = .ok (.value (.slice (some ⟨g, k * 98, none⟩) 2 2)) w := by
  have h := dropS_op f o x lo ho (some ⟨g, 0, none⟩) (k + 2) (k + 2) k hx hk (by omega) w
  have e : dropA (some ⟨g, 0, none⟩) k (k + 2) = some ⟨g, k * 98, none⟩ := by
    rw [dropA, if_neg (by omega), Option.map_some, Addr.add_mid, Nat.zero_add]
  rw [e, Nat.add_sub_cancel_left] at h
  exact h
theorem zeroL_drop (n k : Nat) : (zeroL n).drop k = zeroL (n - k) := by rw [zeroL, List.drop_replicate]; rfl
/-- a made row of texts -/
theorem Tryd.infosT : (Tryd.prog.info? 28).map (fun i => (i.zero, i.size, i.bytes)) = some (some (.slice none 0 0), 1, 24) := by kernel_rfl
def nilL (n : Nat) : List Value := List.replicate n (.slice none 0 0)
theorem len_nilL (n : Nat) : (nilL n).length = n := List.length_replicate
theorem madeT (n : Nat) : madeCells (Value.cells (.slice none 0 0)) (n * 1) = (nilL n).toArray := by
  apply Array.ext
  · rw [size_madeCells, List.size_toArray, len_nilL, Nat.mul_one]
  · intro j h1 h2
    have e2 : (nilL n).toArray[j] = .slice none 0 0 := by rw [List.getElem_toArray]; exact List.getElem_replicate _
    rw [e2]
    simp only [madeCells, Array.getElem_map, Array.getElem_range]
    have hz : j % (Value.cells (.slice none 0 0)).size = 0 := Nat.mod_one j
    rw [hz]
    rfl
theorem make_tx (f : Operand → Value) (o : Oper) (x y : Operand) (n : Nat) (hn : n ≤ 1000000) (ho : o.op = .makeSlice 64 x y) (hx : f x = .int .i64 (n : Int)) (hy : f y = .int .i64 (n : Int)) (w : World) :
    (execOp f o).run Tryd.prog w = .ok (.value (.slice (some ⟨w.heap.size, 0, none⟩) n n)) (w.alloc (.cells (nilL n).toArray 28)) := by
  obtain ⟨i0, hi, hz, hs, hby⟩ := info_parts Tryd.infosT
  have hr := run_make (P := Tryd.prog) w 64 28 i0 _ Tryd.underlying64 hi hz .i64 .i64 (n : Int) (n : Int) (by omega) (Int.le_refl _) (by rw [hby]; omega) (by omega)
  rw [Int.toNat_natCast, hs, madeT] at hr
  unfold execOp
  rw [ho]
  simp only [hx, hy, Sem.run_bind, hr, Result.andThen_ok, Sem.run_pure]
/-- the block g holds the texts xs, and room for n in all; the texts lie behind it -/
structure RowT (w : World) (g n : Nat) (us : List Value) (xs : List Bs) : Prop where
  blk : Blk w g (us ++ nilL (n - us.length)) 28
  good : GoodT w (g + 1) us xs
  le : us.length ≤ n
theorem RowT.next {w w' : World} {g n : Nat} {us : List Value} {xs : List Bs} (h : RowT w g n us xs) (hb : Below w.heap.size w w') : RowT w' g n us xs :=
  ⟨h.blk.below hb h.blk.lt, ⟨h.good.1, fun j u hj => (h.good.2 j u hj).same fun k hk => hb.block k ((h.good.2 j u hj).lt k hk)⟩, h.le⟩
theorem RowT.len {w : World} {g n : Nat} {us : List Value} {xs : List Bs} (h : RowT w g n us xs) : us.length = xs.length := h.good.1
theorem RowT.lt {w : World} {g n : Nat} {us : List Value} {xs : List Bs} (h : RowT w g n us xs) : g < w.heap.size := h.blk.lt
theorem RowT.put {w : World} {g n k : Nat} {us : List Value} {xs : List Bs} {u : Value} {t : Bs} (h : RowT w g n us xs) (hk : us.length = k) (hn : k < n) (hu : OwnB w (g + 1) u t) : RowT (w.setCell ⟨g, k, none⟩ u) g n (us ++ [u]) (xs ++ [t]) := by
  have o6 : Only g w (w.setCell ⟨g, k, none⟩ u) := Only.setCell (Only.refl g w) k _
  have up : ∀ x t, OwnB w (g + 1) x t → OwnB (w.setCell ⟨g, k, none⟩ u) (g + 1) x t := fun x t hx => hx.same fun j hj => o6.block j (by have := hx.own j hj; omega) (hx.lt j hj)
  refine ⟨?_, ⟨by rw [List.length_append, List.length_append, h.good.1]; rfl, fun j x hj => ?_⟩, by rw [List.length_append, List.length_singleton]; omega⟩
  · have h1 := h.blk.set k u
    have e : (us ++ nilL (n - us.length)).set k u = us ++ [u] ++ nilL (n - (us ++ [u]).length) := by
      rw [← hk, List.set_append_right _ _ (Nat.le_refl _), Nat.sub_self, List.length_append, List.length_singleton]
      obtain ⟨m, hm⟩ : ∃ m, n - us.length = m + 1 := ⟨n - us.length - 1, by omega⟩
      rw [hm, show n - (us.length + 1) = m by omega, nilL, List.replicate_succ, List.set_cons_zero, List.append_assoc]
      rfl
    rw [e] at h1
    exact h1
  · by_cases hjl : j < us.length
    · rw [List.getElem?_append_left hjl] at hj
      have h1 := h.good.2 j x hj
      have h2 : (xs ++ [t]).getD j [] = xs.getD j [] := by
        rw [List.getD_eq_getElem?_getD, List.getD_eq_getElem?_getD, List.getElem?_append_left (by rw [← h.good.1]; exact hjl)]
      rw [h2]
      exact up _ _ h1
    · rw [List.getElem?_append_right (by omega)] at hj
      have hj0 : j = us.length := by
        have := (List.getElem?_eq_some_iff.1 hj).1
        simp at this
        omega
      subst hj0
      simp at hj
      subst hj
      have h2 : (xs ++ [t]).getD us.length [] = t := by
        rw [List.getD_eq_getElem?_getD, h.good.1, List.getElem?_append_right (Nat.le_refl _), Nat.sub_self]
        rfl
      rw [h2]
      exact up _ _ hu
theorem RowT.readsL {w : World} {g n : Nat} {us : List Value} {xs : List Bs} (h : RowT w g n us xs) (hn : xs.length = n) : ReadsL w (.slice (some ⟨g, 0, none⟩) n n) xs := by
  refine ⟨some ⟨g, 0, none⟩, n, by rw [hn], by omega, (fun e => by cases e), fun _ => ⟨g, 0, rfl, fun j hj => ?_⟩⟩
  have hju : j < us.length := by rw [h.good.1]; exact hj
  refine ⟨us[j], ?_, (h.good.2 j us[j] (List.getElem?_eq_getElem hju)).reads⟩
  rw [h.blk.cell, Nat.zero_add, List.getElem?_append_left hju, List.getElem?_eq_getElem hju]
theorem wpSeq_makeT {ops : Array Oper} {Q : Exit → Act → World → Prop} {rest : List Oper} {o : Oper} {a : Act} {w : World} (x y : Operand) (n : Nat) (hn : n ≤ 1000000) (ho : o.op = .makeSlice 64 x y) (hx : a.eval x = .int .i64 (n : Int)) (hy : a.eval y = .int .i64 (n : Int)) (hw : Region.wanted o (yielded ops a.tmps) = true)
    (h : ∀ g w', w.heap.size ≤ g → RowT w' g n [] [] → Below w.heap.size w w' → wpList Tryd.prog ops Q rest (a.put o.dst (.slice (some ⟨g, 0, none⟩) n n)) w') : wpList Tryd.prog ops Q (o :: rest) a w :=
  wpSeq_val _ _ hw (make_tx _ o x y n hn ho hx hy w) (h _ _ (Nat.le_refl _) ⟨Blk.new _ _ _, ⟨rfl, fun j u hj => by simp at hj⟩, Nat.zero_le _⟩ (below_alloc _ _))
theorem wpSeq_storeT {ops : Array Oper} {Q : Exit → Act → World → Prop} {rest : List Oper} {o : Oper} {a : Act} {w : World} (x y : Operand) (g k : Nat) (cs : List Value) (ad : Option Addr) (n c : Nat) (hk : k < cs.length) (hb : Blk w g cs 28) (ho : o.op = .store 28 x y) (hx : a.eval x = .pointer (some ⟨g, k, none⟩)) (hy : a.eval y = .slice ad n c) (hw : Region.wanted o (yielded ops a.tmps) = true)
    (h : ∀ w', w' = w.setCell ⟨g, k, none⟩ (.slice ad n c) → wpList Tryd.prog ops Q rest (a.put o.dst undef) w') : wpList Tryd.prog ops Q (o :: rest) a w := by
  have hc : w.cell? ⟨g, k, none⟩ = some cs[k] := by rw [hb.cell, List.getElem?_eq_getElem hk]
  have hf : w.frozen? ⟨g, k, none⟩ = false := hb.frozen k
  have he : (execOp a.eval o).run Tryd.prog w = .ok .skip (w.setCell ⟨g, k, none⟩ (.slice ad n c)) := by
    clear h hw
    generalize a.eval = f at hx hy ⊢
    unfold execOp
    rw [ho]
    simp [go_sem, hx, hy, hc, hf]
  unfold wpList
  simp only [hw, if_true]
  left
  unfold Oper.wp
  rw [he, Oper.upon_skip]
  exact h _ rfl
/-- the signed roots L, room for n in all, in block g; their signatures lie behind it -/
structure RrI (y1 : World) (g n : Nat) (rs : List SgT) (L : List (SgT × Value)) (W : World) : Prop where
  bel : Below y1.heap.size y1 W
  row : RowS W g (L ++ zeroL (n - L.length))
  sg : ∀ p ∈ L, OwnB W (g + 1) p.2 p.1.2
  eq : L.map (·.1) = rs
  le : L.length ≤ n
  ge : y1.heap.size ≤ g
theorem RrI.next {y1 : World} {g n : Nat} {rs : List SgT} {L : List (SgT × Value)} {W W' : World} (h : RrI y1 g n rs L W) (hb : Below W.heap.size W W') : RrI y1 g n rs L W' :=
  ⟨h.bel.trans (hb.mono h.bel.size), h.row.below hb, fun p hp => (h.sg p hp).same fun k hk => hb.block k ((h.sg p hp).lt k hk), h.eq, h.le, h.ge⟩
theorem RrI.len {y1 : World} {g n : Nat} {rs : List SgT} {L : List (SgT × Value)} {W : World} (h : RrI y1 g n rs L W) : L.length = rs.length := by rw [← h.eq, List.length_map]
theorem RrI.room {y1 : World} {g n : Nat} {rs : List SgT} {L : List (SgT × Value)} {W : World} (h : RrI y1 g n rs L W) : (L ++ zeroL (n - L.length)).length = n := by
  rw [List.length_append, len_zeroL]
  have := h.le
  omega
theorem RrI.put {y1 : World} {g n k : Nat} {rs : List SgT} {L : List (SgT × Value)} {s : SgT} {sv : Value} {W W' : World} (h : RrI y1 g n rs L W) (hk : rs.length = k) (hn : k < n) (hs : OwnB W (g + 1) sv s.2) (hr : RowS W' g ((L ++ zeroL (n - L.length)).set k (s, sv))) (ho : Only g W W') : RrI y1 g n (rs ++ [s]) (L ++ [(s, sv)]) W' := by
  have hl := h.len
  have up : ∀ {v : Value} {l : Bs}, OwnB W (g + 1) v l → OwnB W' (g + 1) v l := fun {v l} hv => hv.same fun j hj => ho.block j (by have := hv.own j hj; omega) (hv.lt j hj)
  refine ⟨h.bel.trans (ho.below h.ge h.bel.size), ?_, fun p hp => ?_, by rw [List.map_append, h.eq]; rfl, by rw [List.length_append, List.length_singleton]; omega, h.ge⟩
  · have e : (L ++ zeroL (n - L.length)).set k (s, sv) = L ++ [(s, sv)] ++ zeroL (n - (L ++ [(s, sv)]).length) := by
      rw [← hk, ← hl, List.set_append_right _ _ (Nat.le_refl _), Nat.sub_self, List.length_append, List.length_singleton]
      obtain ⟨m, hm⟩ : ∃ m, n - L.length = m + 1 := ⟨n - L.length - 1, by omega⟩
      rw [hm, show n - (L.length + 1) = m by omega, zeroL, List.replicate_succ, List.set_cons_zero, List.append_assoc]
      rfl
    rw [e] at hr
    exact hr
  · rcases List.mem_append.1 hp with hp | hp
    · exact up (h.sg p hp)
    · rw [List.mem_singleton.1 hp]; exact up hs
theorem RrI.readsS {y1 : World} {g n : Nat} {rs : List SgT} {L : List (SgT × Value)} {W : World} (h : RrI y1 g n rs L W) (hn : rs.length = n) : ReadsS W (.slice (some ⟨g, 0, none⟩) n n) rs := by
  have hl := h.len
  have e0 : L ++ zeroL (n - L.length) = L := by rw [hl, hn, Nat.sub_self]; exact List.append_nil _
  have hr := h.row
  rw [e0] at hr
  have h2 := hr.readsS n (by omega) n (Nat.le_refl _) (fun p hp => (h.sg p (List.mem_of_mem_take hp)).reads)
  rw [List.take_of_length_le (by omega), h.eq] at h2
  exact h2
def zeroP : SgT × Value := (zeroS, .slice none 0 0)
theorem getD_map1 (L : List (SgT × Value)) (k : Nat) : (L.map (·.1)).getD k zeroS = (L.getD k zeroP).1 := by
  rw [List.getD_eq_getElem?_getD, List.getD_eq_getElem?_getD, List.getElem?_map]
  cases L[k]? <;> rfl
theorem getP_mem {L : List (SgT × Value)} {k : Nat} (hk : k < L.length) : L.getD k zeroP ∈ L ∧ L[k]? = some (L.getD k zeroP) := by
  have e : L.getD k zeroP = L[k] := by rw [List.getD_eq_getElem?_getD, List.getElem?_eq_getElem hk]; rfl
  rw [e]
  exact ⟨List.getElem_mem hk, List.getElem?_eq_getElem hk⟩
theorem evL_map (L : List (SgT × Value)) (n : Nat) (hn : L.length = n) : evL (L.map (·.1)) = ((L.take (n - 2)).map (·.1), (L.getD (n - 2) zeroP).1, (L.getD (n - 1) zeroP).1) := by
  rw [evL, List.length_map, hn, getD_map1, getD_map1, List.map_take]
/-- evidence made of such a row -/
theorem RrI.ev {y1 : World} {g n : Nat} {rs : List SgT} {L : List (SgT × Value)} {W W' : World} {g4 : Nat} (h : RrI y1 g n rs L W) (hn : rs.length = n) (h2 : 2 ≤ n) (up : ∀ {v : Value} {l : Bs}, OwnB W (g + 1) v l → OwnB W' (g + 1) v l) (hr : RowS W' g4 (L.take (n - 2))) :
    EvB W' (evL rs) (evC (evL rs) (.slice (some ⟨g4, 0, none⟩) (n - 2) (n - 2)) (L.getD (n - 2) zeroP).2 (L.getD (n - 1) zeroP).2) := by
  have hl : L.length = n := by rw [h.len, hn]
  have ok : ∀ p ∈ L, okS p.1 := fun p hp => h.row.ok p (List.mem_append.2 (Or.inl hp))
  have ma := (getP_mem (L := L) (k := n - 2) (by omega)).1
  have mb := (getP_mem (L := L) (k := n - 1) (by omega)).1
  rw [← h.eq, evL_map L n hl]
  refine EvIs.evB ⟨?_, (up (h.sg _ ma)).reads, (up (h.sg _ mb)).reads, ok _ ma, ok _ mb⟩
  have hlt : (L.take (n - 2)).length = n - 2 := by rw [List.length_take]; omega
  have h3 := hr.readsS (n - 2) (by omega) (n - 2) (Nat.le_refl _) (fun p hp => (up (h.sg p (List.mem_of_mem_take (List.mem_of_mem_take hp)))).reads)
  rw [List.take_of_length_le (by omega)] at h3
  exact h3
theorem readE_len (b : Bs) : (readE b).1.length < 1000000 := by
  unfold readE
  cases h : readF b with
  | none => show (0 : Nat) < _; decide
  | some e =>
    have h1 := ((readF_iff b e).1 h).1.1
    show e.1.length < _
    omega
theorem accept_read {pin b : Bs} (h : readX b = 0) : acceptF pin b = checkF pin (readE b) := by
  unfold readX at h
  unfold acceptF readE
  cases hr : readF b with
  | none => rw [hr] at h; cases h
  | some e => rfl
theorem accept_none {pin b : Bs} (h : readX b ≠ 0) : acceptF pin b = readX b := by
  unfold readX at h ⊢
  unfold acceptF
  cases hr : readF b with
  | none => rfl
  | some e => rw [hr] at h; exact absurd rfl h
/-- evidence whose memory is the call's own -/
def EvF (w0 w : World) (e : EvT) (cs : List Value) : Prop := ∀ W : World, (∀ j, w0.heap.size ≤ j → j < w.heap.size → W.heap[j]? = w.heap[j]?) → EvB W e cs
theorem EvF.evB {w0 w : World} {e : EvT} {cs : List Value} (h : EvF w0 w e cs) : EvB w e cs := h w fun _ _ _ => rfl
theorem RowS.same {w w' : World} {g : Nat} {L : List (SgT × Value)} (h : RowS w g L) (he : w'.heap[g]? = w.heap[g]?) : RowS w' g L := by
  refine ⟨?_, h.ok⟩
  have hb := h.blk
  unfold Blk at hb ⊢
  rw [he, hb]
theorem wpSeq_min12 {ops : Array Oper} {Q : Exit → Act → World → Prop} {rest : List Oper} {o : Oper} {a : Act} {w : World} (x y : Operand) (n m l : Nat) (hl : l = min n m) (ho : o.op = .call { callee := .builtin .min, args := #[x, y], argTypes := #[3, 3] }) (hx : a.eval x = .int .i64 (n : Int)) (hy : a.eval y = .int .i64 (m : Int)) (hw : Region.wanted o (yielded ops a.tmps) = true)
    (h : wpList Tryd.prog ops Q rest (a.put o.dst (.int .i64 (l : Int))) w) : wpList Tryd.prog ops Q (o :: rest) a w := by
  refine wpSeq_val _ w hw ?_ h
  clear h hw
  generalize a.eval = f at hx hy ⊢
  unfold execOp
  rw [ho]
  first
    | (simp [go_sem, hx, hy]; omega)
    | (simp [go_sem, hx, hy]; split <;> omega)
    | (by_cases hmn : m < n <;> simp [go_sem, hx, hy, hmn] <;> omega)
end Go.Proofs.YtableajopaappaaDoor
/- The walks of fork's next and Check (layer 12). -/
namespace Go.Proofs.YtableajopaappaaDoor
open Go.RowKit Go.Shelf
set_option maxRecDepth 100000
set_option maxRecDepth 100000 in
set_option maxHeartbeats 8000000 in
theorem fkNext_any (h : HdT) (s : SgT) (vs : Value) (w : World) (hK : KOk w) (oh : okH h) (os : okS s) (hr : Reads w vs s.2) :
    Calls Tryd.prog 29 #[.agg (hdC h).toArray, .agg (sgC s vs).toArray] w fun r w' => r = .returned (.bool (decide ((followR h s).2 = 0))) ∧ Below w.heap.size w w' := by
  obtain ⟨ch, HCH⟩ : ∃ c, Hid (c = hdC h) := ⟨_, rfl⟩
  obtain ⟨csg, HCS⟩ : ∃ c, Hid (c = sgC s vs) := ⟨_, rfl⟩
  obtain ⟨hf, HHF⟩ : ∃ c, Hid (c = (followR h s).1) := ⟨_, rfl⟩
  obtain ⟨ef, HEF⟩ : ∃ c, Hid (c = (followR h s).2) := ⟨_, rfl⟩
  have HOF : Hid (okH hf) := by rw [HHF.out]; exact follow_okH h s os
  have HIH : Hid ((Tryd.prog.info? 50).map (·.size) = some ch.length) := by show _ = _; rw [HCH.out]; exact info_hdC oh
  have HIS : Hid ((Tryd.prog.info? 30).map (·.size) = some csg.length) := by show _ = _; rw [HCS.out]; exact info_sgC os vs
  have HC : Hid (∀ W : World, Below w.heap.size w W → Calls Tryd.prog 44 #[.agg ch.toArray, .agg csg.toArray] W fun e w' => e = .returned (.tuple #[.agg (hdC hf).toArray, .int .i64 ef]) ∧ Below W.heap.size W w') := fun W hh => by rw [HCH.out, HCS.out, HHF.out, HEF.out]; exact chFollow_any h s vs W (hK.below hh hK.lt) oh os (hr.below hh)
  have HBW : Hid (Below w.heap.size w w) := Below.refl _ _
  rw [← HCH.out, ← HCS.out, ← HEF.out]
  clear hK oh os hr HHF HEF HCH HCS
  by_cases he : ef = 0
  · have q1 : (ef == 0) = true := by rw [beq_iff_eq]; exact he
    have HZ : Hid (decide (ef = 0) = true) := decide_eq_true he
    clear he
    go_enter Tryd.func29, Tryd.ntmps29
    have tk0 : Hid True := trivial
    have tk1 : Hid True := trivial
    have tk2 : Hid True := trivial
    have tk3 : Hid True := trivial
    have tk4 : Hid True := trivial
    have tk5 : Hid True := trivial
    have tk6 : Hid True := trivial
    go_wp2_with (first
      | (clear tk0; with_reducible refine wpSeq_boxW 50 (.tmp 0) ch ?_ ?_ ?_ ?_
         · rfl
         · rfl
         · rfl
         intro g2 y1 nn
         replace HBW : Hid (Below w.heap.size w y1) := HBW.out.trans (nn.below.mono HBW.out.size)
         have H2 : Hid (Blk y1 g2 ch 50) := nn.blk
         clear nn
         skip)
      | (clear tk1; with_reducible refine wpSeq_boxW 30 (.tmp 1) csg ?_ ?_ ?_ ?_
         · rfl
         · rfl
         · rfl
         intro g3 y2 nn
         replace H2 : Hid (Blk y2 g2 ch 50) := H2.out.below nn.below H2.out.lt
         replace HBW : Hid (Below w.heap.size w y2) := HBW.out.trans (nn.below.mono HBW.out.size)
         have H3 : Hid (Blk y2 g3 csg 30) := nn.blk
         clear nn
         skip)
      | (clear tk2; with_reducible refine wpSeq_loadW 50 (.tmp 2) g2 0 ch _ ?_ Tryd.underlying50 rfl ?_ ?_ ?_ ?_ ?_
         · exact H2.out.range
         · exact HIH.out
         · rfl
         · rfl
         · rfl)
      | (clear tk3; with_reducible refine wpSeq_loadW 30 (.tmp 3) g3 0 csg _ ?_ Tryd.underlying30 rfl ?_ ?_ ?_ ?_ ?_
         · exact H3.out.range
         · exact HIS.out
         · rfl
         · rfl
         · rfl)
      | (clear tk4; go_at_call 44; refine (HC.out y2 HBW.out).mono ?_; rintro e y3 ⟨rfl, hbz⟩
         replace H2 : Hid (Blk y3 g2 ch 50) := H2.out.below hbz H2.out.lt
         replace H3 : Hid (Blk y3 g3 csg 30) := H3.out.below hbz H3.out.lt
         replace HBW : Hid (Below w.heap.size w y3) := HBW.out.trans (hbz.mono HBW.out.size)
         clear hbz )
      | (clear tk5; with_reducible refine wpSeq_allocH ?_ ?_ ?_
         · rfl
         · rfl
         intro g5 y4 nn)
      | (clear tk6; with_reducible refine wpSeq_storeRow 50 (.tmp 5) (.tmp 11) g5 (hdC zeroH) (hdC hf) ?_ ?_ ?_ ?_ ?_ ?_ ?_ ?_ ?_
         · exact nn.blk
         · first | (with_reducible rfl) | rw [len_hdC HOF.out, len_hdC okH_zero]
         · exact info_hdC HOF.out
         · exact hdC_one _
         · rfl
         · rfl
         · rfl
         · rfl
         intro y5 hs
         have hbz := nn.below.trans (hs.only.below nn.ge nn.below.size)
         replace H2 : Hid (Blk y5 g2 ch 50) := H2.out.below hbz H2.out.lt
         replace H3 : Hid (Blk y5 g3 csg 30) := H3.out.below hbz H3.out.lt
         replace HBW : Hid (Below w.heap.size w y5) := HBW.out.trans (hbz.mono HBW.out.size)
         have H5 : Hid (Blk y5 g5 (hdC hf) 50) := hs.blk
         clear nn hs hbz))
    go_ret
    exact ⟨by rw [HZ.out]; rfl, HBW.out⟩
  · have q1 : (ef == 0) = false := by rw [beq_eq_false_iff_ne]; exact he
    have HZ : Hid (decide (ef = 0) = false) := decide_eq_false he
    clear he
    go_enter Tryd.func29, Tryd.ntmps29
    have tk0 : Hid True := trivial
    have tk1 : Hid True := trivial
    have tk2 : Hid True := trivial
    have tk3 : Hid True := trivial
    have tk4 : Hid True := trivial
    have tk5 : Hid True := trivial
    have tk6 : Hid True := trivial
    go_wp2_with (first
      | (clear tk0; with_reducible refine wpSeq_boxW 50 (.tmp 0) ch ?_ ?_ ?_ ?_
         · rfl
         · rfl
         · rfl
         intro g2 y1 nn
         replace HBW : Hid (Below w.heap.size w y1) := HBW.out.trans (nn.below.mono HBW.out.size)
         have H2 : Hid (Blk y1 g2 ch 50) := nn.blk
         clear nn
         skip)
      | (clear tk1; with_reducible refine wpSeq_boxW 30 (.tmp 1) csg ?_ ?_ ?_ ?_
         · rfl
         · rfl
         · rfl
         intro g3 y2 nn
         replace H2 : Hid (Blk y2 g2 ch 50) := H2.out.below nn.below H2.out.lt
         replace HBW : Hid (Below w.heap.size w y2) := HBW.out.trans (nn.below.mono HBW.out.size)
         have H3 : Hid (Blk y2 g3 csg 30) := nn.blk
         clear nn
         skip)
      | (clear tk2; with_reducible refine wpSeq_loadW 50 (.tmp 2) g2 0 ch _ ?_ Tryd.underlying50 rfl ?_ ?_ ?_ ?_ ?_
         · exact H2.out.range
         · exact HIH.out
         · rfl
         · rfl
         · rfl)
      | (clear tk3; with_reducible refine wpSeq_loadW 30 (.tmp 3) g3 0 csg _ ?_ Tryd.underlying30 rfl ?_ ?_ ?_ ?_ ?_
         · exact H3.out.range
         · exact HIS.out
         · rfl
         · rfl
         · rfl)
      | (clear tk4; go_at_call 44; refine (HC.out y2 HBW.out).mono ?_; rintro e y3 ⟨rfl, hbz⟩
         replace H2 : Hid (Blk y3 g2 ch 50) := H2.out.below hbz H2.out.lt
         replace H3 : Hid (Blk y3 g3 csg 30) := H3.out.below hbz H3.out.lt
         replace HBW : Hid (Below w.heap.size w y3) := HBW.out.trans (hbz.mono HBW.out.size)
         clear hbz )
      | (clear tk5; with_reducible refine wpSeq_allocH ?_ ?_ ?_
         · rfl
         · rfl
         intro g5 y4 nn)
      | (clear tk6; with_reducible refine wpSeq_storeRow 50 (.tmp 5) (.tmp 11) g5 (hdC zeroH) (hdC hf) ?_ ?_ ?_ ?_ ?_ ?_ ?_ ?_ ?_
         · exact nn.blk
         · first | (with_reducible rfl) | rw [len_hdC HOF.out, len_hdC okH_zero]
         · exact info_hdC HOF.out
         · exact hdC_one _
         · rfl
         · rfl
         · rfl
         · rfl
         intro y5 hs
         have hbz := nn.below.trans (hs.only.below nn.ge nn.below.size)
         replace H2 : Hid (Blk y5 g2 ch 50) := H2.out.below hbz H2.out.lt
         replace H3 : Hid (Blk y5 g3 csg 30) := H3.out.below hbz H3.out.lt
         replace HBW : Hid (Below w.heap.size w y5) := HBW.out.trans (hbz.mono HBW.out.size)
         have H5 : Hid (Blk y5 g5 (hdC hf) 50) := hs.blk
         clear nn hs hbz))
    go_ret
    exact ⟨by rw [HZ.out]; rfl, HBW.out⟩
set_option maxRecDepth 100000 in
set_option maxHeartbeats 8000000 in
theorem fkCheck_any (pin : List (BitVec 8)) (e : EvT) (cs : List Value) (w : World) (hK : KOk w) (hp : pin.length = 32) (hE : EvB w e cs) (hn : e.1.length < 1000000) :
    Calls Tryd.prog 11 #[.agg (cb pin).toArray, .agg cs.toArray] w fun r w' => r = .returned (.int .i64 (checkF pin e)) ∧ Below w.heap.size w w' := by
  obtain ⟨vt, va, vb, hcs, he⟩ := hE.open
  subst hcs
  obtain ⟨adt, ct, hvt⟩ := he.tr.form
  obtain ⟨ada, na, ca, hva⟩ := he.a.form
  obtain ⟨adb, nb, cc, hvb⟩ := he.b.form
  obtain ⟨nt, HNT⟩ : ∃ n, Hid (n = e.1.length) := ⟨_, rfl⟩
  rw [← HNT.out] at hvt
  subst hvt hva hvb
  obtain ⟨cev, HCE⟩ : ∃ c, Hid (c = evC e (.slice adt nt ct) (.slice ada na ca) (.slice adb nb cc)) := ⟨_, rfl⟩
  rw [← HCE.out]
  have HEV : Hid (EvIs w e (.slice adt nt ct) (.slice ada na ca) (.slice adb nb cc)) := he
  have HIE : Hid ((Tryd.prog.info? 32).map (·.size) = some cev.length) := by show _ = _; rw [HCE.out]; exact info_evC he.oa he.ob _ _ _
  have HAT : Hid (∀ (W : World) (g : Nat), Blk W g cev 32 → EvAt W g 0 e (.slice adt nt ct) (.slice ada na ca) (.slice adb nb cc)) := fun W g hg => by rw [HCE.out] at hg; exact hg.evAt HEV.out.oa HEV.out.ob
  obtain ⟨csa, HSA⟩ : ∃ c, Hid (c = sgC e.2.1 (.slice ada na ca)) := ⟨_, rfl⟩
  obtain ⟨csb, HSB⟩ : ∃ c, Hid (c = sgC e.2.2 (.slice adb nb cc)) := ⟨_, rfl⟩
  have HIS : Hid ((Tryd.prog.info? 30).map (·.size) = some csa.length ∧ (Tryd.prog.info? 30).map (·.size) = some csb.length) := by rw [HSA.out, HSB.out]; exact ⟨info_sgC HEV.out.oa _, info_sgC HEV.out.ob _⟩
  have HRG : Hid (∀ (W : World) (g : Nat), Blk W g cev 32 → W.rangeAt g 1 csa ∧ W.rangeAt g 99 csb) := fun W g hg => by rw [HSA.out, HSB.out]; have h := HAT.out W g hg; refine ⟨?_, ?_⟩; have := h.a.all; rwa [Nat.zero_add] at this; have := h.b.all; rwa [Nat.zero_add] at this
  clear he
  have HPL : Hid (pin.length = 32) := hp
  have HIP : Hid ((Tryd.prog.info? 23).map (·.size) = some (cb pin).length) := by show _ = _; rw [cb_len, hp]; exact info_digest
  have HN : Hid (e.1.length < 1000000) := hn
  have HBW : Hid (Below w.heap.size w w) := Below.refl _ _
  clear hn hp
  have HKW : Hid (∀ W : World, Below w.heap.size w W → KOk W) := fun W hh => hK.below hh hK.lt
  have HCS : Hid (∀ W : World, Calls Tryd.prog 24 #[.agg (cb pin).toArray] W fun r w' => r = .returned (.agg (hdC (0, zb32, pin)).toArray) ∧ Below W.heap.size W w') := fun W => chStart_any pin W HPL.out
  clear hK hE
  obtain ⟨h1, HH1⟩ : ∃ h, Hid (h = (walkR (stR pin) e.1).1) := ⟨_, rfl⟩
  obtain ⟨k1, HK1⟩ : ∃ h, Hid (h = ((walkR (stR pin) e.1).2.1 : Int)) := ⟨_, rfl⟩
  obtain ⟨a1, HA1⟩ : ∃ h, Hid (h = (walkR (stR pin) e.1).2.2) := ⟨_, rfl⟩
  have HO1 : Hid (okH h1) := by rw [HH1.out]; exact walk_okH _ _ (okH_mk rfl HPL.out (by decide)) HEV.out.tr.2
  obtain ⟨hA, HHA⟩ : ∃ h, Hid (h = (followR h1 e.2.1).1) := ⟨_, rfl⟩
  obtain ⟨eA, HEA⟩ : ∃ h, Hid (h = (followR h1 e.2.1).2) := ⟨_, rfl⟩
  obtain ⟨hB, HHB⟩ : ∃ h, Hid (h = (followR h1 e.2.2).1) := ⟨_, rfl⟩
  obtain ⟨eB, HEB⟩ : ∃ h, Hid (h = (followR h1 e.2.2).2) := ⟨_, rfl⟩
  have HOA : Hid (okH hA ∧ okH hB) := by rw [HHA.out, HHB.out]; exact ⟨follow_okH _ _ HEV.out.oa, follow_okH _ _ HEV.out.ob⟩
  obtain ⟨r, HRR⟩ : ∃ r, Hid (r = decide (e.2.1.1 = e.2.2.1)) := ⟨_, rfl⟩
  have HFR : Hid (checkF pin e = if a1 = 0 ∧ eA = 0 ∧ eB = 0 ∧ r = false then 0 else 15) := by
    show _ = _
    unfold checkF
    rw [HRR.out, HEA.out, HEB.out, HA1.out, HH1.out]
    simp only [ne_eq, decide_eq_false_iff_not]
  have HC1 : Hid (∀ W : World, Below w.heap.size w W → Calls Tryd.prog 23 #[.agg (hdC (0, zb32, pin)).toArray, .slice adt nt ct] W fun e w' => e = .returned (.tuple #[.agg (hdC h1).toArray, .int .i64 k1, .int .i64 a1]) ∧ Below W.heap.size W w') := fun W hh => by rw [HH1.out, HK1.out, HA1.out]; exact by rw [HNT.out]; exact chWalk_any _ _ _ W (fun W h s vs hK oh os hr => chFollow_any h s vs W hK oh os hr) (HKW.out W hh) (okH_mk rfl HPL.out (by decide)) (by rw [← HNT.out]; exact HEV.out.tr.below hh) HN.out
  have HC2 : Hid (∀ W : World, Below w.heap.size w W → Calls Tryd.prog 29 #[.agg (hdC h1).toArray, .agg csa.toArray] W fun e w' => e = .returned (.bool (decide (eA = 0))) ∧ Below W.heap.size W w') := fun W hh => by rw [HEA.out, HSA.out]; exact fkNext_any _ e.2.1 _ W (HKW.out W hh) HO1.out HEV.out.oa (HEV.out.a.below hh)
  have HC3 : Hid (∀ W : World, Below w.heap.size w W → Calls Tryd.prog 29 #[.agg (hdC h1).toArray, .agg csb.toArray] W fun e w' => e = .returned (.bool (decide (eB = 0))) ∧ Below W.heap.size W w') := fun W hh => by rw [HEB.out, HSB.out]; exact fkNext_any _ e.2.2 _ W (HKW.out W hh) HO1.out HEV.out.ob (HEV.out.b.below hh)
  obtain ⟨rta, HRTA⟩ : ∃ c, Hid (c = rtC e.2.1) := ⟨_, rfl⟩
  obtain ⟨rtb, HRTB⟩ : ∃ c, Hid (c = rtC e.2.2) := ⟨_, rfl⟩
  have HIR : Hid ((Tryd.prog.info? 27).map (·.size) = some rta.length ∧ (Tryd.prog.info? 27).map (·.size) = some rtb.length) := by rw [HRTA.out, HRTB.out]; exact ⟨info_rtC HEV.out.oa, info_rtC HEV.out.ob⟩
  have HRT : Hid (∀ (W : World) (g : Nat), Blk W g cev 32 → W.rangeAt g 1 rta ∧ W.rangeAt g 99 rtb) := fun W g hg => by rw [HRTA.out, HRTB.out]; have h := HAT.out W g hg; refine ⟨?_, ?_⟩; have := h.a.root; rwa [Nat.zero_add] at this; have := h.b.root; rwa [Nat.zero_add] at this
  have heq : ∀ wx : World, (Op.equalIn 10000 27 (.agg rta.toArray) (.agg rtb.toArray)).run Tryd.prog wx = .ok r wx := fun wx => by rw [HRTA.out, HRTB.out, HRR.out]; exact eq_rt _ _ HEV.out.oa HEV.out.ob wx
  clear HHA HEA HHB HEB HRR HA1 HK1 HH1 HRTA HRTB
  cases r with
  | true =>
    have HZ : Hid (checkF pin e = 15) := by show _ = _; rw [HFR.out, if_neg (fun k => by cases k.2.2.2)]
    go_enter Tryd.func11, Tryd.ntmps11
    have tk0 : Hid True := trivial
    have tk1 : Hid True := trivial
    have tk2 : Hid True := trivial
    have tk3 : Hid True := trivial
    go_wp2_with (first
      | (clear tk0; with_reducible refine wpSeq_boxW 23 (.tmp 0) (cb pin) ?_ ?_ ?_ ?_
         · rfl
         · rfl
         · rfl
         intro g2 y1 nn
         replace HBW : Hid (Below w.heap.size w y1) := HBW.out.trans (nn.below.mono HBW.out.size)
         have HG2 : Hid (Blk y1 g2 (cb pin) 23) := nn.blk
         clear nn
         skip)
      | (clear tk1; with_reducible refine wpSeq_boxW 32 (.tmp 1) cev ?_ ?_ ?_ ?_
         · rfl
         · rfl
         · rfl
         intro g3 y2 nn
         replace HG2 : Hid (Blk y2 g2 (cb pin) 23) := HG2.out.below nn.below HG2.out.lt
         replace HBW : Hid (Below w.heap.size w y2) := HBW.out.trans (nn.below.mono HBW.out.size)
         have HG3 : Hid (Blk y2 g3 cev 32) := nn.blk
         clear nn
         skip)
      | (clear tk2; with_reducible refine wpSeq_loadW 27 (.tmp 9) g3 1 rta _ ?_ Tryd.underlying27 rfl ?_ ?_ ?_ ?_ ?_
         · exact (HRT.out _ _ HG3.out).1
         · exact HIR.out.1
         · rfl
         · rfl
         · rfl)
      | (clear tk3; with_reducible refine wpSeq_loadW 27 (.tmp 12) g3 99 rtb _ ?_ Tryd.underlying27 rfl ?_ ?_ ?_ ?_ ?_
         · exact (HRT.out _ _ HG3.out).2
         · exact HIR.out.2
         · rfl
         · rfl
         · rfl))
    go_ret
    exact ⟨by rw [HZ.out]; rfl, HBW.out⟩
  | false =>
    go_enter Tryd.func11, Tryd.ntmps11
    have tk0 : Hid True := trivial
    have tk1 : Hid True := trivial
    have tk2 : Hid True := trivial
    have tk3 : Hid True := trivial
    go_upto_region 3 with (first
      | (clear tk0; with_reducible refine wpSeq_boxW 23 (.tmp 0) (cb pin) ?_ ?_ ?_ ?_
         · rfl
         · rfl
         · rfl
         intro g2 y1 nn
         replace HBW : Hid (Below w.heap.size w y1) := HBW.out.trans (nn.below.mono HBW.out.size)
         have HG2 : Hid (Blk y1 g2 (cb pin) 23) := nn.blk
         clear nn
         skip)
      | (clear tk1; with_reducible refine wpSeq_boxW 32 (.tmp 1) cev ?_ ?_ ?_ ?_
         · rfl
         · rfl
         · rfl
         intro g3 y2 nn
         replace HG2 : Hid (Blk y2 g2 (cb pin) 23) := HG2.out.below nn.below HG2.out.lt
         replace HBW : Hid (Below w.heap.size w y2) := HBW.out.trans (nn.below.mono HBW.out.size)
         have HG3 : Hid (Blk y2 g3 cev 32) := nn.blk
         clear nn
         skip)
      | (clear tk2; with_reducible refine wpSeq_loadW 27 (.tmp 9) g3 1 rta _ ?_ Tryd.underlying27 rfl ?_ ?_ ?_ ?_ ?_
         · exact (HRT.out _ _ HG3.out).1
         · exact HIR.out.1
         · rfl
         · rfl
         · rfl)
      | (clear tk3; with_reducible refine wpSeq_loadW 27 (.tmp 12) g3 99 rtb _ ?_ Tryd.underlying27 rfl ?_ ?_ ?_ ?_ ?_
         · exact (HRT.out _ _ HG3.out).2
         · exact HIR.out.2
         · rfl
         · rfl
         · rfl))
    go_cut [5, 6, 7] from 8 to 39 (fun a b c W => ∃ g5, a = .pointer (some ⟨g5, 0, none⟩) ∧ b = .int .i64 k1 ∧ c = .int .i64 a1 ∧ Blk W g5 (hdC h1) 50 ∧ Blk W g3 cev 32 ∧ Below w.heap.size w W)
    case first =>
      refine wp_region_held_drew (S := Over (World.drew y2)) (by kernel_rfl) (Over.refl _) ?_
      intro hS
      replace HG2 : Hid (Blk (World.drew y2) g2 (cb pin) 23) := HG2.out.drew
      replace HG3 : Hid (Blk (World.drew y2) g3 cev 32) := HG3.out.drew
      replace HBW : Hid (Below w.heap.size w (World.drew y2)) := HBW.out.drew
      change wpAnyH _ _ _ _ _ _ _ _ (World.drew y2)
      generalize World.drew y2 = y0 at *
      try simp only [Act.put, List.setIfInBounds_toArray, List.set_cons_zero, List.set_cons_succ]
      refine wpAnyH_take (i := 0) (v := .agg (cb pin).toArray) rfl (by kernel_rfl) (by kernel_rfl) (by kernel_rfl) (fun _ _ _ h => h) (Or.inl ⟨by rfl, fun wx hx => by exact loadDigest _ g2 pin HPL.out (HG2.out.below hx HG2.out.lt) rfl rfl⟩) hS ?_
      simp only [Act.put, List.getElem_toArray, List.getElem_cons_zero, List.setIfInBounds_toArray, List.set_cons_zero, List.set_cons_succ]
      refine wpAnyH_take (i := 2) (v := .pointer (some ⟨g3, 0, none⟩)) rfl (by kernel_rfl) (by kernel_rfl) (by kernel_rfl) (fun _ _ _ h => h) (Or.inl ⟨by rfl, fun wx hx => by simp [go_sem]⟩) hS ?_
      simp only [Act.put, List.getElem_toArray, List.getElem_cons_succ, List.getElem_cons_zero, List.setIfInBounds_toArray, List.set_cons_zero, List.set_cons_succ]
      refine wpAnyH_take (i := 3) (v := .slice adt nt ct) rfl (by kernel_rfl) (by kernel_rfl) (by kernel_rfl) (fun _ _ _ h => h) (Or.inl ⟨by rfl, fun wx hx => by (have hc : wx.cell? ⟨g3, 0, none⟩ = some (.slice adt nt ct) := (HAT.out _ _ (HG3.out.below hx HG3.out.lt)).tr); simp [go_sem, hc]⟩) hS ?_
      simp only [Act.put, List.getElem_toArray, List.getElem_cons_succ, List.getElem_cons_zero, List.setIfInBounds_toArray, List.set_cons_zero, List.set_cons_succ]
      refine wpAnyH_pair 1 9 (by kernel_rfl) ?_ ?_
      · refine wpOp_en 1 (by rfl) (by rfl) (f := 24) (args := #[.agg (cb pin).toArray]) (by simp [go_sem]) (HCS.out _) ?_
        rintro e z1 ⟨rfl, hb⟩
        replace hS := Over.more hS hb
        refine ⟨_, rfl, hS, ?_⟩
        clear hb
        simp only [Act.put, List.getElem_toArray, List.getElem_cons_succ, List.getElem_cons_zero, List.setIfInBounds_toArray, List.set_cons_zero, List.set_cons_succ]
        refine wpAnyH_pair 4 9 (by kernel_rfl) ?_ ?_
        · refine wpOp_en 4 (by rfl) (by rfl) (f := 23) (args := #[.agg (hdC (0, zb32, pin)).toArray, .slice adt nt ct]) (by simp [go_sem]) (HC1.out _ (HBW.out.trans (Below.mono hS HBW.out.size))) ?_
          rintro e z2 ⟨rfl, hb⟩
          replace hS := Over.more hS hb
          refine ⟨_, rfl, hS, ?_⟩
          clear hb
          simp only [Act.put, List.getElem_toArray, List.getElem_cons_succ, List.getElem_cons_zero, List.setIfInBounds_toArray, List.set_cons_zero, List.set_cons_succ]
          refine wpAnyH_take (i := 5) (v := .tuple #[.agg (hdC h1).toArray, .int .i64 k1, .int .i64 a1]) rfl (by kernel_rfl) (by kernel_rfl) (by kernel_rfl) (fun _ _ _ h => h) (Or.inl ⟨by rfl, fun wx hx => by simp [go_sem]⟩) hS ?_
          simp only [Act.put, List.getElem_toArray, List.getElem_cons_succ, List.getElem_cons_zero, List.setIfInBounds_toArray, List.set_cons_zero, List.set_cons_succ]
          refine wpAnyH_take (i := 6) (v := .agg (hdC h1).toArray) rfl (by kernel_rfl) (by kernel_rfl) (by kernel_rfl) (fun _ _ _ h => h) (Or.inl ⟨by rfl, fun wx hx => by simp [go_sem]⟩) hS ?_
          simp only [Act.put, List.getElem_toArray, List.getElem_cons_succ, List.getElem_cons_zero, List.setIfInBounds_toArray, List.set_cons_zero, List.set_cons_succ]
          refine wpAnyH_take (i := 7) (v := .int .i64 k1) rfl (by kernel_rfl) (by kernel_rfl) (by kernel_rfl) (fun _ _ _ h => h) (Or.inl ⟨by rfl, fun wx hx => by simp [go_sem]⟩) hS ?_
          simp only [Act.put, List.getElem_toArray, List.getElem_cons_succ, List.getElem_cons_zero, List.setIfInBounds_toArray, List.set_cons_zero, List.set_cons_succ]
          refine wpAnyH_take (i := 8) (v := .int .i64 a1) rfl (by kernel_rfl) (by kernel_rfl) (by kernel_rfl) (fun _ _ _ h => h) (Or.inl ⟨by rfl, fun wx hx => by simp [go_sem]⟩) hS ?_
          simp only [Act.put, List.getElem_toArray, List.getElem_cons_succ, List.getElem_cons_zero, List.setIfInBounds_toArray, List.set_cons_zero, List.set_cons_succ]
          have hb := below_alloc z2 (.cells (hdC zeroH).toArray 50)
          have hba : Blk (z2.alloc (.cells (hdC zeroH).toArray 50)) z2.heap.size (hdC zeroH) 50 := Blk.new _ _ _
          have hsz : y0.heap.size ≤ z2.heap.size := Below.size hS
          replace hS := Over.more hS hb
          refine wpAnyH_step 9 (.pointer (some ⟨z2.heap.size, 0, none⟩)) (z2.alloc (.cells (hdC zeroH).toArray 50)) (by kernel_rfl) rfl (by rfl) (alloc_hd _ _ rfl _) hS ?_
          simp only [Act.put, List.getElem_toArray, List.getElem_cons_succ, List.getElem_cons_zero, List.setIfInBounds_toArray, List.set_cons_zero, List.set_cons_succ]
          clear hb
          generalize z2.alloc (.cells (hdC zeroH).toArray 50) = z3 at *
          obtain ⟨ga, HGA⟩ : ∃ z, Hid (z = z2.heap.size) := ⟨_, rfl⟩
          have hgw : y0.heap.size ≤ ga := by rw [HGA.out]; exact hsz
          rw [← HGA.out] at hba ⊢
          clear HGA hsz
          refine wpAnyH_storeRow 10 50 (.tmp 5) (.tmp 21) ga (hdC zeroH) (hdC h1) hba (by rw [len_hdC HO1.out, len_hdC okH_zero]) (info_hdC HO1.out) (hdC_one _) (by kernel_rfl) rfl (by rfl) rfl rfl rfl ?_
          intro yE hs
          replace hS : Over y0 yE := Below.trans hS (hs.only.below hgw (Below.size hS))
          refine ⟨hS, ?_⟩
          simp only [Act.put, List.getElem_toArray, List.getElem_cons_succ, List.getElem_cons_zero]
          refine wpAnyH_take (i := 11) (v := .int .i64 k1) rfl (by kernel_rfl) (by kernel_rfl) (by kernel_rfl) (fun _ _ _ h => h) (Or.inl ⟨by rfl, fun wx hx => by simp [go_sem]⟩) hS ?_
          simp only [Act.put, List.getElem_toArray, List.getElem_cons_succ, List.getElem_cons_zero, List.setIfInBounds_toArray, List.set_cons_zero, List.set_cons_succ]
          refine wpAnyH_take (i := 12) (v := .int .i64 a1) rfl (by kernel_rfl) (by kernel_rfl) (by kernel_rfl) (fun _ _ _ h => h) (Or.inl ⟨by rfl, fun wx hx => by simp [go_sem]⟩) hS ?_
          simp only [Act.put, List.getElem_toArray, List.getElem_cons_succ, List.getElem_cons_zero, List.setIfInBounds_toArray, List.set_cons_zero, List.set_cons_succ]
          refine wpAnyH_done (by kernel_rfl) ?_ _
          go_wp2
          go_meet
          case rel => exact ⟨ga, rfl, rfl, rfl, hs.blk, HG3.out.below hS HG3.out.lt, HBW.out.trans (Below.mono hS HBW.out.size)⟩
        · have hb := below_alloc z1 (.cells (hdC zeroH).toArray 50)
          have hba : Blk (z1.alloc (.cells (hdC zeroH).toArray 50)) z1.heap.size (hdC zeroH) 50 := Blk.new _ _ _
          have hsz : y0.heap.size ≤ z1.heap.size := Below.size hS
          replace hS := Over.more hS hb
          refine wpOp_vl 9 (.pointer (some ⟨z1.heap.size, 0, none⟩)) (z1.alloc (.cells (hdC zeroH).toArray 50)) (by rfl) (by rfl) (alloc_hd _ _ rfl _) ⟨hS, ?_⟩
          simp only [Act.put, List.getElem_toArray, List.getElem_cons_succ, List.getElem_cons_zero, List.setIfInBounds_toArray, List.set_cons_zero, List.set_cons_succ]
          clear hb
          generalize z1.alloc (.cells (hdC zeroH).toArray 50) = z4 at *
          obtain ⟨ga, HGA⟩ : ∃ z, Hid (z = z1.heap.size) := ⟨_, rfl⟩
          have hgw : y0.heap.size ≤ ga := by rw [HGA.out]; exact hsz
          rw [← HGA.out] at hba ⊢
          clear HGA hsz
          refine wpAnyH_enter 4 (by kernel_rfl) rfl (by rfl) (f := 23) (args := #[.agg (hdC (0, zb32, pin)).toArray, .slice adt nt ct]) (by simp [go_sem]) (HC1.out _ (HBW.out.trans (Below.mono hS HBW.out.size))) ?_
          rintro e z5 ⟨rfl, hb⟩
          replace hS := Over.more hS hb
          replace hba := hba.below hb hba.lt
          refine ⟨_, rfl, hS, ?_⟩
          clear hb
          simp only [Act.put, List.getElem_toArray, List.getElem_cons_succ, List.getElem_cons_zero, List.setIfInBounds_toArray, List.set_cons_zero, List.set_cons_succ]
          refine wpAnyH_take (i := 5) (v := .tuple #[.agg (hdC h1).toArray, .int .i64 k1, .int .i64 a1]) rfl (by kernel_rfl) (by kernel_rfl) (by kernel_rfl) (fun _ _ _ h => h) (Or.inl ⟨by rfl, fun wx hx => by simp [go_sem]⟩) hS ?_
          simp only [Act.put, List.getElem_toArray, List.getElem_cons_succ, List.getElem_cons_zero, List.setIfInBounds_toArray, List.set_cons_zero, List.set_cons_succ]
          refine wpAnyH_take (i := 6) (v := .agg (hdC h1).toArray) rfl (by kernel_rfl) (by kernel_rfl) (by kernel_rfl) (fun _ _ _ h => h) (Or.inl ⟨by rfl, fun wx hx => by simp [go_sem]⟩) hS ?_
          simp only [Act.put, List.getElem_toArray, List.getElem_cons_succ, List.getElem_cons_zero, List.setIfInBounds_toArray, List.set_cons_zero, List.set_cons_succ]
          refine wpAnyH_take (i := 7) (v := .int .i64 k1) rfl (by kernel_rfl) (by kernel_rfl) (by kernel_rfl) (fun _ _ _ h => h) (Or.inl ⟨by rfl, fun wx hx => by simp [go_sem]⟩) hS ?_
          simp only [Act.put, List.getElem_toArray, List.getElem_cons_succ, List.getElem_cons_zero, List.setIfInBounds_toArray, List.set_cons_zero, List.set_cons_succ]
          refine wpAnyH_take (i := 8) (v := .int .i64 a1) rfl (by kernel_rfl) (by kernel_rfl) (by kernel_rfl) (fun _ _ _ h => h) (Or.inl ⟨by rfl, fun wx hx => by simp [go_sem]⟩) hS ?_
          simp only [Act.put, List.getElem_toArray, List.getElem_cons_succ, List.getElem_cons_zero, List.setIfInBounds_toArray, List.set_cons_zero, List.set_cons_succ]
          refine wpAnyH_storeRow 10 50 (.tmp 5) (.tmp 21) ga (hdC zeroH) (hdC h1) hba (by rw [len_hdC HO1.out, len_hdC okH_zero]) (info_hdC HO1.out) (hdC_one _) (by kernel_rfl) rfl (by rfl) rfl rfl rfl ?_
          intro yE hs
          replace hS : Over y0 yE := Below.trans hS (hs.only.below hgw (Below.size hS))
          refine ⟨hS, ?_⟩
          simp only [Act.put, List.getElem_toArray, List.getElem_cons_succ, List.getElem_cons_zero]
          refine wpAnyH_take (i := 11) (v := .int .i64 k1) rfl (by kernel_rfl) (by kernel_rfl) (by kernel_rfl) (fun _ _ _ h => h) (Or.inl ⟨by rfl, fun wx hx => by simp [go_sem]⟩) hS ?_
          simp only [Act.put, List.getElem_toArray, List.getElem_cons_succ, List.getElem_cons_zero, List.setIfInBounds_toArray, List.set_cons_zero, List.set_cons_succ]
          refine wpAnyH_take (i := 12) (v := .int .i64 a1) rfl (by kernel_rfl) (by kernel_rfl) (by kernel_rfl) (fun _ _ _ h => h) (Or.inl ⟨by rfl, fun wx hx => by simp [go_sem]⟩) hS ?_
          simp only [Act.put, List.getElem_toArray, List.getElem_cons_succ, List.getElem_cons_zero, List.setIfInBounds_toArray, List.set_cons_zero, List.set_cons_succ]
          refine wpAnyH_done (by kernel_rfl) ?_ _
          go_wp2
          go_meet
          case rel => exact ⟨ga, rfl, rfl, rfl, hs.blk, HG3.out.below hS HG3.out.lt, HBW.out.trans (Below.mono hS HBW.out.size)⟩
      · have hb := below_alloc y0 (.cells (hdC zeroH).toArray 50)
        have hba : Blk (y0.alloc (.cells (hdC zeroH).toArray 50)) y0.heap.size (hdC zeroH) 50 := Blk.new _ _ _
        have hsz : y0.heap.size ≤ y0.heap.size := Below.size hS
        replace hS := Over.more hS hb
        refine wpOp_vl 9 (.pointer (some ⟨y0.heap.size, 0, none⟩)) (y0.alloc (.cells (hdC zeroH).toArray 50)) (by rfl) (by rfl) (alloc_hd _ _ rfl _) ⟨hS, ?_⟩
        simp only [Act.put, List.getElem_toArray, List.getElem_cons_succ, List.getElem_cons_zero, List.setIfInBounds_toArray, List.set_cons_zero, List.set_cons_succ]
        clear hb
        generalize y0.alloc (.cells (hdC zeroH).toArray 50) = z6 at *
        obtain ⟨ga, HGA⟩ : ∃ z, Hid (z = y0.heap.size) := ⟨_, rfl⟩
        have hgw : y0.heap.size ≤ ga := by rw [HGA.out]; exact hsz
        rw [← HGA.out] at hba ⊢
        clear HGA hsz
        refine wpAnyH_enter 1 (by kernel_rfl) rfl (by rfl) (f := 24) (args := #[.agg (cb pin).toArray]) (by simp [go_sem]) (HCS.out _) ?_
        rintro e z7 ⟨rfl, hb⟩
        replace hS := Over.more hS hb
        replace hba := hba.below hb hba.lt
        refine ⟨_, rfl, hS, ?_⟩
        clear hb
        simp only [Act.put, List.getElem_toArray, List.getElem_cons_succ, List.getElem_cons_zero, List.setIfInBounds_toArray, List.set_cons_zero, List.set_cons_succ]
        refine wpAnyH_enter 4 (by kernel_rfl) rfl (by rfl) (f := 23) (args := #[.agg (hdC (0, zb32, pin)).toArray, .slice adt nt ct]) (by simp [go_sem]) (HC1.out _ (HBW.out.trans (Below.mono hS HBW.out.size))) ?_
        rintro e z8 ⟨rfl, hb⟩
        replace hS := Over.more hS hb
        replace hba := hba.below hb hba.lt
        refine ⟨_, rfl, hS, ?_⟩
        clear hb
        simp only [Act.put, List.getElem_toArray, List.getElem_cons_succ, List.getElem_cons_zero, List.setIfInBounds_toArray, List.set_cons_zero, List.set_cons_succ]
        refine wpAnyH_take (i := 5) (v := .tuple #[.agg (hdC h1).toArray, .int .i64 k1, .int .i64 a1]) rfl (by kernel_rfl) (by kernel_rfl) (by kernel_rfl) (fun _ _ _ h => h) (Or.inl ⟨by rfl, fun wx hx => by simp [go_sem]⟩) hS ?_
        simp only [Act.put, List.getElem_toArray, List.getElem_cons_succ, List.getElem_cons_zero, List.setIfInBounds_toArray, List.set_cons_zero, List.set_cons_succ]
        refine wpAnyH_take (i := 6) (v := .agg (hdC h1).toArray) rfl (by kernel_rfl) (by kernel_rfl) (by kernel_rfl) (fun _ _ _ h => h) (Or.inl ⟨by rfl, fun wx hx => by simp [go_sem]⟩) hS ?_
        simp only [Act.put, List.getElem_toArray, List.getElem_cons_succ, List.getElem_cons_zero, List.setIfInBounds_toArray, List.set_cons_zero, List.set_cons_succ]
        refine wpAnyH_take (i := 7) (v := .int .i64 k1) rfl (by kernel_rfl) (by kernel_rfl) (by kernel_rfl) (fun _ _ _ h => h) (Or.inl ⟨by rfl, fun wx hx => by simp [go_sem]⟩) hS ?_
        simp only [Act.put, List.getElem_toArray, List.getElem_cons_succ, List.getElem_cons_zero, List.setIfInBounds_toArray, List.set_cons_zero, List.set_cons_succ]
        refine wpAnyH_take (i := 8) (v := .int .i64 a1) rfl (by kernel_rfl) (by kernel_rfl) (by kernel_rfl) (fun _ _ _ h => h) (Or.inl ⟨by rfl, fun wx hx => by simp [go_sem]⟩) hS ?_
        simp only [Act.put, List.getElem_toArray, List.getElem_cons_succ, List.getElem_cons_zero, List.setIfInBounds_toArray, List.set_cons_zero, List.set_cons_succ]
        refine wpAnyH_storeRow 10 50 (.tmp 5) (.tmp 21) ga (hdC zeroH) (hdC h1) hba (by rw [len_hdC HO1.out, len_hdC okH_zero]) (info_hdC HO1.out) (hdC_one _) (by kernel_rfl) rfl (by rfl) rfl rfl rfl ?_
        intro yE hs
        replace hS : Over y0 yE := Below.trans hS (hs.only.below hgw (Below.size hS))
        refine ⟨hS, ?_⟩
        simp only [Act.put, List.getElem_toArray, List.getElem_cons_succ, List.getElem_cons_zero]
        refine wpAnyH_take (i := 11) (v := .int .i64 k1) rfl (by kernel_rfl) (by kernel_rfl) (by kernel_rfl) (fun _ _ _ h => h) (Or.inl ⟨by rfl, fun wx hx => by simp [go_sem]⟩) hS ?_
        simp only [Act.put, List.getElem_toArray, List.getElem_cons_succ, List.getElem_cons_zero, List.setIfInBounds_toArray, List.set_cons_zero, List.set_cons_succ]
        refine wpAnyH_take (i := 12) (v := .int .i64 a1) rfl (by kernel_rfl) (by kernel_rfl) (by kernel_rfl) (fun _ _ _ h => h) (Or.inl ⟨by rfl, fun wx hx => by simp [go_sem]⟩) hS ?_
        simp only [Act.put, List.getElem_toArray, List.getElem_cons_succ, List.getElem_cons_zero, List.setIfInBounds_toArray, List.set_cons_zero, List.set_cons_succ]
        refine wpAnyH_done (by kernel_rfl) ?_ _
        go_wp2
        go_meet
        case rel => exact ⟨ga, rfl, rfl, rfl, hs.blk, HG3.out.below hS HG3.out.lt, HBW.out.trans (Below.mono hS HBW.out.size)⟩
    case rest =>
      obtain ⟨g5, rfl, rfl, rfl, hb5, hb3, hbw⟩ := hcut
      have H5 : Hid (Blk wc g5 (hdC h1) 50) := hb5
      replace HG3 : Hid (Blk wc g3 cev 32) := hb3
      replace HBW : Hid (Below w.heap.size w wc) := hbw
      clear hb5 hb3 hbw HG2
      by_cases ha1 : a1 = 0
      case neg =>
        have qa1 : (a1 == 0) = false := by rw [beq_eq_false_iff_ne]; exact ha1
        have pa1 : (a1 != 0) = true := by rw [bne, qa1]; rfl
        have HZ : Hid (checkF pin e = 15) := by show _ = _; rw [HFR.out, if_neg (fun k => ha1 k.1)]
        clear ha1
        go_wp2
        go_ret
        exact ⟨by rw [HZ.out]; rfl, HBW.out⟩
      case pos =>
        have qa1 : (a1 == 0) = true := by rw [beq_iff_eq]; exact ha1
        have pa1 : (a1 != 0) = false := by rw [bne, qa1]; rfl
        by_cases heA : eA = 0
        case neg =>
          have DA : Hid (decide (eA = 0) = false) := decide_eq_false heA
          have HZ : Hid (checkF pin e = 15) := by show _ = _; rw [HFR.out, if_neg (fun k => heA k.2.1)]
          clear ha1 heA
          have tk40 : Hid True := trivial
          have tk41 : Hid True := trivial
          have tk42 : Hid True := trivial
          go_wp2_with (first
            | (clear tk40; with_reducible refine wpSeq_loadW 50 (.tmp 5) g5 0 (hdC h1) _ ?_ Tryd.underlying50 rfl ?_ ?_ ?_ ?_ ?_
               · exact H5.out.range
               · exact (info_hdC HO1.out)
               · rfl
               · rfl
               · rfl)
            | (clear tk41; with_reducible refine wpSeq_loadW 30 (.tmp 28) g3 1 csa _ ?_ Tryd.underlying30 rfl ?_ ?_ ?_ ?_ ?_
               · exact (HRG.out _ _ HG3.out).1
               · exact HIS.out.1
               · rfl
               · rfl
               · rfl)
            | (clear tk42; go_at_call 29; refine (HC2.out wc HBW.out).mono ?_; rintro e y41 ⟨rfl, hbz⟩
               replace H5 : Hid (Blk y41 g5 (hdC h1) 50) := H5.out.below hbz H5.out.lt
               replace HG3 : Hid (Blk y41 g3 cev 32) := HG3.out.below hbz HG3.out.lt
               replace HBW : Hid (Below w.heap.size w y41) := HBW.out.trans (hbz.mono HBW.out.size)
               rw [DA.out]
               clear hbz ))
          go_ret
          exact ⟨by rw [HZ.out]; rfl, HBW.out⟩
        case pos =>
          have DA : Hid (decide (eA = 0) = true) := decide_eq_true heA
          by_cases heB : eB = 0
          case neg =>
            have DB : Hid (decide (eB = 0) = false) := decide_eq_false heB
            have HZ : Hid (checkF pin e = 15) := by show _ = _; rw [HFR.out, if_neg (fun k => heB k.2.2.1)]
            clear ha1 heA heB
            have tk40 : Hid True := trivial
            have tk41 : Hid True := trivial
            have tk42 : Hid True := trivial
            have tk43 : Hid True := trivial
            have tk44 : Hid True := trivial
            have tk45 : Hid True := trivial
            go_wp2_with (first
              | (clear tk40; with_reducible refine wpSeq_loadW 50 (.tmp 5) g5 0 (hdC h1) _ ?_ Tryd.underlying50 rfl ?_ ?_ ?_ ?_ ?_
                 · exact H5.out.range
                 · exact (info_hdC HO1.out)
                 · rfl
                 · rfl
                 · rfl)
              | (clear tk41; with_reducible refine wpSeq_loadW 30 (.tmp 28) g3 1 csa _ ?_ Tryd.underlying30 rfl ?_ ?_ ?_ ?_ ?_
                 · exact (HRG.out _ _ HG3.out).1
                 · exact HIS.out.1
                 · rfl
                 · rfl
                 · rfl)
              | (clear tk42; go_at_call 29; refine (HC2.out wc HBW.out).mono ?_; rintro e y41 ⟨rfl, hbz⟩
                 replace H5 : Hid (Blk y41 g5 (hdC h1) 50) := H5.out.below hbz H5.out.lt
                 replace HG3 : Hid (Blk y41 g3 cev 32) := HG3.out.below hbz HG3.out.lt
                 replace HBW : Hid (Below w.heap.size w y41) := HBW.out.trans (hbz.mono HBW.out.size)
                 rw [DA.out]
                 clear hbz )
              | (clear tk43; with_reducible refine wpSeq_loadW 50 (.tmp 5) g5 0 (hdC h1) _ ?_ Tryd.underlying50 rfl ?_ ?_ ?_ ?_ ?_
                 · exact H5.out.range
                 · exact (info_hdC HO1.out)
                 · rfl
                 · rfl
                 · rfl)
              | (clear tk44; with_reducible refine wpSeq_loadW 30 (.tmp 35) g3 99 csb _ ?_ Tryd.underlying30 rfl ?_ ?_ ?_ ?_ ?_
                 · exact (HRG.out _ _ HG3.out).2
                 · exact HIS.out.2
                 · rfl
                 · rfl
                 · rfl)
              | (clear tk45; go_at_call 29; refine (HC3.out y41 HBW.out).mono ?_; rintro e y42 ⟨rfl, hbz⟩
                 replace H5 : Hid (Blk y42 g5 (hdC h1) 50) := H5.out.below hbz H5.out.lt
                 replace HG3 : Hid (Blk y42 g3 cev 32) := HG3.out.below hbz HG3.out.lt
                 replace HBW : Hid (Below w.heap.size w y42) := HBW.out.trans (hbz.mono HBW.out.size)
                 rw [DB.out]
                 clear hbz ))
            go_ret
            exact ⟨by rw [HZ.out]; rfl, HBW.out⟩
          case pos =>
            have DB : Hid (decide (eB = 0) = true) := decide_eq_true heB
            have HZ : Hid (checkF pin e = 0) := by show _ = _; rw [HFR.out, if_pos ⟨ha1, heA, heB, rfl⟩]
            clear ha1 heA heB
            have tk40 : Hid True := trivial
            have tk41 : Hid True := trivial
            have tk42 : Hid True := trivial
            have tk43 : Hid True := trivial
            have tk44 : Hid True := trivial
            have tk45 : Hid True := trivial
            go_wp2_with (first
              | (clear tk40; with_reducible refine wpSeq_loadW 50 (.tmp 5) g5 0 (hdC h1) _ ?_ Tryd.underlying50 rfl ?_ ?_ ?_ ?_ ?_
                 · exact H5.out.range
                 · exact (info_hdC HO1.out)
                 · rfl
                 · rfl
                 · rfl)
              | (clear tk41; with_reducible refine wpSeq_loadW 30 (.tmp 28) g3 1 csa _ ?_ Tryd.underlying30 rfl ?_ ?_ ?_ ?_ ?_
                 · exact (HRG.out _ _ HG3.out).1
                 · exact HIS.out.1
                 · rfl
                 · rfl
                 · rfl)
              | (clear tk42; go_at_call 29; refine (HC2.out wc HBW.out).mono ?_; rintro e y41 ⟨rfl, hbz⟩
                 replace H5 : Hid (Blk y41 g5 (hdC h1) 50) := H5.out.below hbz H5.out.lt
                 replace HG3 : Hid (Blk y41 g3 cev 32) := HG3.out.below hbz HG3.out.lt
                 replace HBW : Hid (Below w.heap.size w y41) := HBW.out.trans (hbz.mono HBW.out.size)
                 rw [DA.out]
                 clear hbz )
              | (clear tk43; with_reducible refine wpSeq_loadW 50 (.tmp 5) g5 0 (hdC h1) _ ?_ Tryd.underlying50 rfl ?_ ?_ ?_ ?_ ?_
                 · exact H5.out.range
                 · exact (info_hdC HO1.out)
                 · rfl
                 · rfl
                 · rfl)
              | (clear tk44; with_reducible refine wpSeq_loadW 30 (.tmp 35) g3 99 csb _ ?_ Tryd.underlying30 rfl ?_ ?_ ?_ ?_ ?_
                 · exact (HRG.out _ _ HG3.out).2
                 · exact HIS.out.2
                 · rfl
                 · rfl
                 · rfl)
              | (clear tk45; go_at_call 29; refine (HC3.out y41 HBW.out).mono ?_; rintro e y42 ⟨rfl, hbz⟩
                 replace H5 : Hid (Blk y42 g5 (hdC h1) 50) := H5.out.below hbz H5.out.lt
                 replace HG3 : Hid (Blk y42 g3 cev 32) := HG3.out.below hbz HG3.out.lt
                 replace HBW : Hid (Below w.heap.size w y42) := HBW.out.trans (hbz.mono HBW.out.size)
                 rw [DB.out]
                 clear hbz ))
            go_ret
            exact ⟨by rw [HZ.out]; rfl, HBW.out⟩
end Go.Proofs.YtableajopaappaaDoor
/- The walks of fork's joined and Bytes (layer 12). -/
namespace Go.Proofs.YtableajopaappaaDoor
open Go.RowKit Go.Shelf
set_option maxRecDepth 100000
set_option maxRecDepth 100000 in
set_option maxHeartbeats 8000000 in
theorem fkJoined_any (e : EvT) (cs : List Value) (w : World) (hE : EvB w e cs) (h64 : e.1.length ≤ 64) :
    Calls Tryd.prog 38 #[.agg cs.toArray] w fun r w' => ∃ v, r = .returned v ∧ ReadsS w' v (allE e) ∧ Below w.heap.size w w' := by
  obtain ⟨vt, va, vb, hcs, he⟩ := hE.open
  subst hcs
  obtain ⟨adt, ct, hvt⟩ := he.tr.form
  obtain ⟨ada, na, ca, hva⟩ := he.a.form
  obtain ⟨adb, nb, cc, hvb⟩ := he.b.form
  obtain ⟨nt, HNT⟩ : ∃ n, Hid (n = e.1.length) := ⟨_, rfl⟩
  rw [← HNT.out] at hvt
  subst hvt hva hvb
  obtain ⟨cev, HCE⟩ : ∃ c, Hid (c = evC e (.slice adt nt ct) (.slice ada na ca) (.slice adb nb cc)) := ⟨_, rfl⟩
  rw [← HCE.out]
  have HEV : Hid (EvIs w e (.slice adt nt ct) (.slice ada na ca) (.slice adb nb cc)) := he
  have HIE : Hid ((Tryd.prog.info? 32).map (·.size) = some cev.length) := by show _ = _; rw [HCE.out]; exact info_evC he.oa he.ob _ _ _
  have HAT : Hid (∀ (W : World) (g : Nat), Blk W g cev 32 → EvAt W g 0 e (.slice adt nt ct) (.slice ada na ca) (.slice adb nb cc)) := fun W g hg => by rw [HCE.out] at hg; exact hg.evAt HEV.out.oa HEV.out.ob
  obtain ⟨csa, HSA⟩ : ∃ c, Hid (c = sgC e.2.1 (.slice ada na ca)) := ⟨_, rfl⟩
  obtain ⟨csb, HSB⟩ : ∃ c, Hid (c = sgC e.2.2 (.slice adb nb cc)) := ⟨_, rfl⟩
  have HIS : Hid ((Tryd.prog.info? 30).map (·.size) = some csa.length ∧ (Tryd.prog.info? 30).map (·.size) = some csb.length) := by rw [HSA.out, HSB.out]; exact ⟨info_sgC HEV.out.oa _, info_sgC HEV.out.ob _⟩
  have HRG : Hid (∀ (W : World) (g : Nat), Blk W g cev 32 → W.rangeAt g 1 csa ∧ W.rangeAt g 99 csb) := fun W g hg => by rw [HSA.out, HSB.out]; have h := HAT.out W g hg; refine ⟨?_, ?_⟩; have := h.a.all; rwa [Nat.zero_add] at this; have := h.b.all; rwa [Nat.zero_add] at this
  clear he
  have HN64 : Hid (nt ≤ 64) := by show _ ≤ _; rw [HNT.out]; exact h64
  have HBW : Hid (Below w.heap.size w w) := Below.refl _ _
  have HLL : Hid (csa.length = 98 ∧ csb.length = 98) := by rw [HSA.out, HSB.out]; exact ⟨len_sgC HEV.out.oa _, len_sgC HEV.out.ob _⟩
  have HFL : Hid (flatS [(e.2.1, .slice ada na ca), (e.2.2, .slice adb nb cc)] = csa ++ csb) := by show _ = _; rw [HSA.out, HSB.out]; simp [flatS]
  have HOK2 : Hid (∀ p ∈ [(e.2.1, Value.slice ada na ca), (e.2.2, .slice adb nb cc)], okS p.1) := fun p hp => by
    rcases List.mem_cons.1 hp with rfl | hp
    · exact HEV.out.oa
    · rw [List.mem_singleton.1 hp]; exact HEV.out.ob
  have HON2 : Hid (∀ p ∈ [(e.2.1, Value.slice ada na ca), (e.2.2, .slice adb nb cc)], p.2.oneCell' = true) := fun p hp => by
    rcases List.mem_cons.1 hp with rfl | hp
    · rfl
    · rw [List.mem_singleton.1 hp]; rfl
  have f2 : IntKind.i64.wrap ((nt : Int) + 2) = (nt : Int) + 2 := by rw [IntKind.wrap_i64]; have := HN64.out; omega
  have HNZ : Hid (nt + 2 ≤ 1000000) := by show _ ≤ _; have := HN64.out; omega
  clear h64 hE
  go_enter Tryd.func38, Tryd.ntmps38
  have tk0 : Hid True := trivial
  have tk1 : Hid True := trivial
  have tk2 : Hid True := trivial
  go_upto_region 3 with (first
    | (clear tk0; with_reducible refine wpSeq_boxW 32 (.tmp 0) cev ?_ ?_ ?_ ?_
       · rfl
       · rfl
       · rfl
       intro g1 y1 nn
       have HG1 : Hid (Blk y1 g1 cev 32) := nn.blk
       have HGW : Hid (w.heap.size ≤ g1) := nn.ge
       replace HBW : Hid (Below w.heap.size w y1) := nn.below
       have cet : y1.cell? ⟨g1, 0, none⟩ = some (.slice adt nt ct) := (HAT.out _ _ HG1.out).tr
       clear nn)
    | (clear tk1; with_reducible refine wpSeq_makeS (.tmp 8) (.tmp 8) (nt + 2) HNZ.out ?_ ?_ ?_ ?_ ?_
       · rfl
       · first | rfl | (simp [Act.eval]; done)
       · first | rfl | (simp [Act.eval]; done)
       · rfl
       intro g4 y2 hge hrow hbz
       have HR : Hid (RowS y2 g4 (zeroL (nt + 2))) := hrow
       have HGG : Hid (g1 < g4) := Nat.lt_of_lt_of_le HG1.out.lt hge
       clear cet
       replace HG1 : Hid (Blk y2 g1 cev 32) := HG1.out.below hbz HG1.out.lt
       replace HBW : Hid (Below w.heap.size w y2) := HBW.out.trans (hbz.mono HBW.out.size)
       have cet : y2.cell? ⟨g1, 0, none⟩ = some (.slice adt nt ct) := (HAT.out _ _ HG1.out).tr
       clear hge hrow hbz)
    | (clear tk2; with_reducible refine wpSeq_copyW w (.tmp 10) (.tmp 12) g4 (nt + 2) (nt + 2) nt (zeroL (nt + 2)) e.1 adt nt ct HR.out (len_zeroL _).symm HEV.out.tr HBW.out ?_ ?_ ?_ ?_ ?_ ?_
       · rw [len_zeroL, ← HNT.out]; exact Nat.min_eq_left (by omega)
       · rfl
       · rfl
       · rfl
       · rfl
       intro y3 T hT1 hT2 hrow hon
       replace HR : Hid (RowS y3 g4 (T ++ zeroL 2)) := by rw [zeroL_drop, Nat.add_sub_cancel_left] at hrow; exact hrow
       have HTM : Hid (T.map (·.1) = e.1) := by rw [List.take_of_length_le (by rw [HNT.out]; omega)] at hT1; exact hT1
       have HTL : Hid (T.length = nt) := by show _ = _; rw [HNT.out, ← HTM.out, List.length_map]
       have HTR : Hid (∀ p ∈ T, Reads w p.2 p.1.2) := hT2
       clear cet
       replace HG1 : Hid (Blk y3 g1 cev 32) := HG1.out.only hon (by have := HGG.out; omega)
       replace HBW : Hid (Below w.heap.size w y3) := HBW.out.trans (hon.below (by have h1 := HGW.out; have h2 := HGG.out; omega) HBW.out.size)
       clear hT1 hT2 hrow hon))
  refine wp_region_held_drew (S := Below g4 (World.drew y3)) (by kernel_rfl) (Below.refl _ _) ?_
  intro hS
  replace HG1 : Hid (Blk (World.drew y3) g1 cev 32) := HG1.out.drew
  replace HR : Hid (RowS (World.drew y3) g4 (T ++ zeroL 2)) := HR.out.drew
  replace HBW : Hid (Below w.heap.size w (World.drew y3)) := HBW.out.drew
  change wpAnyH _ _ _ _ _ _ _ _ (World.drew y3)
  generalize World.drew y3 = y0 at *
  try simp only [Act.put, List.setIfInBounds_toArray, List.set_cons_zero, List.set_cons_succ]
  refine wpAnyH_take (i := 0) (v := .slice (some ⟨g4, 0, none⟩) (nt + 2) (nt + 2)) rfl (by kernel_rfl) (by kernel_rfl) (by kernel_rfl) (fun _ _ _ h => h) (Or.inl ⟨by rfl, fun wx hx => by simp [go_sem]⟩) hS ?_
  simp only [Act.put, List.getElem_toArray, List.getElem_cons_zero, List.setIfInBounds_toArray, List.set_cons_zero, List.set_cons_succ]
  refine wpAnyH_take (i := 1) (v := .int .i64 (nt : Int)) rfl (by kernel_rfl) (by kernel_rfl) (by kernel_rfl) (fun _ _ _ h => h) (Or.inl ⟨by rfl, fun wx hx => by simp [go_sem]⟩) hS ?_
  simp only [Act.put, List.getElem_toArray, List.getElem_cons_succ, List.getElem_cons_zero, List.setIfInBounds_toArray, List.set_cons_zero, List.set_cons_succ]
  refine wpAnyH_take (i := 2) (v := .slice (some ⟨g4, nt * 98, none⟩) 2 2) rfl (by kernel_rfl) (by kernel_rfl) (by kernel_rfl) (fun _ _ _ h => h) (Or.inl ⟨by rfl, fun wx hx => by exact drop2_op _ _ _ _ rfl g4 nt rfl rfl _⟩) hS ?_
  simp only [Act.put, List.getElem_toArray, List.getElem_cons_succ, List.getElem_cons_zero, List.setIfInBounds_toArray, List.set_cons_zero, List.set_cons_succ]
  refine wpAnyH_take (i := 3) (v := .pointer (some ⟨g1, 1, none⟩)) rfl (by kernel_rfl) (by kernel_rfl) (by kernel_rfl) (fun _ _ _ h => h) (Or.inl ⟨by rfl, fun wx hx => by simp [go_sem]⟩) hS ?_
  simp only [Act.put, List.getElem_toArray, List.getElem_cons_succ, List.getElem_cons_zero, List.setIfInBounds_toArray, List.set_cons_zero, List.set_cons_succ]
  refine wpAnyH_take (i := 4) (v := .agg csa.toArray) rfl (by kernel_rfl) (by kernel_rfl) (by kernel_rfl) (fun _ _ _ h => h) (Or.inl ⟨by rfl, fun wx hx => by exact load_run 30 _ rfl g1 1 rfl csa _ (HRG.out _ _ (HG1.out.below hx HGG.out)).1 Tryd.underlying30 rfl HIS.out.1⟩) hS ?_
  simp only [Act.put, List.getElem_toArray, List.getElem_cons_succ, List.getElem_cons_zero, List.setIfInBounds_toArray, List.set_cons_zero, List.set_cons_succ]
  refine wpAnyH_take (i := 5) (v := .pointer (some ⟨g1, 99, none⟩)) rfl (by kernel_rfl) (by kernel_rfl) (by kernel_rfl) (fun _ _ _ h => h) (Or.inl ⟨by rfl, fun wx hx => by simp [go_sem]⟩) hS ?_
  simp only [Act.put, List.getElem_toArray, List.getElem_cons_succ, List.getElem_cons_zero, List.setIfInBounds_toArray, List.set_cons_zero, List.set_cons_succ]
  refine wpAnyH_take (i := 6) (v := .agg csb.toArray) rfl (by kernel_rfl) (by kernel_rfl) (by kernel_rfl) (fun _ _ _ h => h) (Or.inl ⟨by rfl, fun wx hx => by exact load_run 30 _ rfl g1 99 rfl csb _ (HRG.out _ _ (HG1.out.below hx HGG.out)).2 Tryd.underlying30 rfl HIS.out.2⟩) hS ?_
  simp only [Act.put, List.getElem_toArray, List.getElem_cons_succ, List.getElem_cons_zero, List.setIfInBounds_toArray, List.set_cons_zero, List.set_cons_succ]
  have hb := below_alloc y0 (.cells (csa ++ csb).toArray 30)
  have hba : Blk (y0.alloc (.cells (csa ++ csb).toArray 30)) y0.heap.size (csa ++ csb) 30 := Blk.new _ _ _
  have hlt4 : g4 < y0.heap.size := HR.out.lt
  replace hS : Below g4 y0 (y0.alloc (.cells (csa ++ csb).toArray 30)) := Below.mono hb (Nat.le_of_lt hlt4)
  refine wpAnyH_step 7 (.slice (some ⟨y0.heap.size, 0, none⟩) 2 2) (y0.alloc (.cells (csa ++ csb).toArray 30)) (by kernel_rfl) rfl (by rfl) (build_sg2 _ _ _ _ rfl csa csb HLL.out.1 HLL.out.2 rfl rfl _) hS ?_
  simp only [Act.put, List.getElem_toArray, List.getElem_cons_succ, List.getElem_cons_zero, List.setIfInBounds_toArray, List.set_cons_zero, List.set_cons_succ]
  replace HR : Hid (RowS (y0.alloc (.cells (csa ++ csb).toArray 30)) g4 (T ++ zeroL 2)) := HR.out.below hb
  have HBZ : Hid (Below w.heap.size w (y0.alloc (.cells (csa ++ csb).toArray 30))) := HBW.out.trans (hb.mono HBW.out.size)
  clear hb
  generalize y0.alloc (.cells (csa ++ csb).toArray 30) = z1 at *
  obtain ⟨gb, HGB⟩ : ∃ z, Hid (z = y0.heap.size) := ⟨_, rfl⟩
  rw [← HGB.out] at hba ⊢
  clear HGB
  refine wpAnyH_copyK 8 (.tmp 16) (.tmp 21) g4 nt 2 2 ⟨gb, 0, none⟩ 2 2 (T ++ zeroL 2) [(e.2.1, .slice ada na ca), (e.2.2, .slice adb nb cc)] HR.out HOK2.out HON2.out (by rw [List.length_append, HTL.out, len_zeroL]) rfl (fun j v hj => by rw [Addr.add_mid, Nat.zero_add, hba.cell, ← HFL.out]; exact hj) (by kernel_rfl) rfl (by rfl) rfl rfl rfl ?_
  intro z2 hrow hon
  replace hS : Below g4 y0 z2 := Below.trans hS (hon.below (Nat.le_refl _) (Nat.le_trans (Nat.le_of_lt hlt4) (Below.size hS)))
  refine ⟨hS, ?_⟩
  simp only [Act.put]
  refine wpAnyH_done (by kernel_rfl) ?_ _
  have HRE : Hid (ReadsS z2 (.slice (some ⟨g4, 0, none⟩) (nt + 2) (nt + 2)) (allE e)) := by
    have hbw2 : Below w.heap.size w z2 := HBZ.out.trans (hon.below (by have h1 := HGW.out; have h2 := HGG.out; omega) HBZ.out.size)
    have el : (T ++ zeroL 2).take nt ++ [(e.2.1, Value.slice ada na ca), (e.2.2, .slice adb nb cc)] ++ (T ++ zeroL 2).drop (nt + [(e.2.1, Value.slice ada na ca), (e.2.2, Value.slice adb nb cc)].length) = T ++ [(e.2.1, Value.slice ada na ca), (e.2.2, .slice adb nb cc)] := by
      rw [← HTL.out, List.take_left, List.drop_eq_nil_of_le (by rw [List.length_append, len_zeroL]; exact Nat.le_refl _), List.append_nil]
    rw [el] at hrow
    have hl2 : (T ++ [(e.2.1, Value.slice ada na ca), (e.2.2, .slice adb nb cc)]).length = nt + 2 := by rw [List.length_append, HTL.out]; rfl
    have h := hrow.readsS (nt + 2) (by rw [hl2]; exact Nat.le_refl _) (nt + 2) (Nat.le_refl _) (fun p hp => by
      have hp := List.mem_of_mem_take hp
      rcases List.mem_append.1 hp with hp | hp
      · exact (HTR.out p hp).below hbw2
      · rcases List.mem_cons.1 hp with rfl | hp
        · exact HEV.out.a.below hbw2
        · rw [List.mem_singleton.1 hp]; exact HEV.out.b.below hbw2)
    rw [List.take_of_length_le (by rw [hl2]; exact Nat.le_refl _), List.map_append, HTM.out] at h
    exact h
  have HBF : Hid (Below w.heap.size w z2) := HBZ.out.trans (hon.below (by have h1 := HGW.out; have h2 := HGG.out; omega) HBZ.out.size)
  clear hrow hon hba
  go_wp2
  go_ret
  exact ⟨_, rfl, HRE.out, HBF.out⟩
/-- where the texts of the first k roots stand -/
structure BtI (w : World) (g n : Nat) (v : Value) (l : List SgT) (us : List Value) (k : Nat) (W : World) : Prop where
  tx : RowT W g n us ((l.take k).map encS)
  rd : ReadsS W v l
  bel : Below w.heap.size w W
set_option maxRecDepth 100000 in
set_option maxHeartbeats 8000000 in
theorem fkBytes_any (e : EvT) (cs : List Value) (w : World) (hE : EvB w e cs) (h64 : e.1.length ≤ 64) (hsz : ∀ s ∈ allE e, s.2.length ≤ 1048576) :
    Calls Tryd.prog 18 #[.agg cs.toArray] w fun r w' => ∃ v, r = .returned v ∧ Reads w' v (bytesF e) ∧ Below w.heap.size w w' := by
  have HOK : Hid (EvOk e cs) := hE.ok
  obtain ⟨l, HL⟩ : ∃ l, Hid (l = allE e) := ⟨_, rfl⟩
  obtain ⟨n, HN⟩ : ∃ n, Hid (n = l.length) := ⟨_, rfl⟩
  have HN64 : Hid (n ≤ 66) := by show _ ≤ _; rw [HN.out, HL.out, len_allE]; omega
  have HSZ : Hid (∀ s ∈ l, s.2.length ≤ 1048576) := by rw [HL.out]; exact hsz
  have HCJ : Hid (∀ W : World, Below w.heap.size w W → Calls Tryd.prog 38 #[.agg cs.toArray] W fun r w' => ∃ v, r = .returned v ∧ ReadsS w' v l ∧ Below W.heap.size W w') := fun W hh => by rw [HL.out]; exact fkJoined_any e cs W (hE.below hh) h64
  have HCS : Hid (∀ (W : World) (s : SgT) (vs : Value), okS s → s.2.length ≤ 1048576 → Reads W vs s.2 → Calls Tryd.prog 39 #[.agg (sgC s vs).toArray] W fun r w' => ∃ v', r = .returned v' ∧ OwnB w' W.heap.size v' (encS s) ∧ Below W.heap.size W w') := fun W s vs os hl hr => signed_own s vs W os hr hl
  have HBW : Hid (Below w.heap.size w w) := Below.refl _ _
  have HBB : Hid (bytesF e = encList encText (l.map encS)) := by show _ = _; rw [HL.out]; rfl
  rw [HBB.out]
  clear h64 hE hsz HBB HL
  go_enter Tryd.func18, Tryd.ntmps18
  have tk0 : Hid True := trivial
  have tk1 : Hid True := trivial
  have tk2 : Hid True := trivial
  have tk3 : Hid True := trivial
  go_wp2_with (first
    | (clear tk0; with_reducible refine wpSeq_boxW 32 (.tmp 0) cs ?_ ?_ ?_ ?_
       · rfl
       · rfl
       · rfl
       intro g1 y1 nn
       have HG1 : Hid (Blk y1 g1 cs 32) := nn.blk
       replace HBW : Hid (Below w.heap.size w y1) := nn.below
       clear nn)
    | (clear tk1; with_reducible refine wpSeq_loadW 32 (.tmp 1) g1 0 cs _ ?_ Tryd.underlying32 rfl ?_ ?_ ?_ ?_ ?_
       · exact HG1.out.range
       · exact HOK.out.info
       · rfl
       · rfl
       · rfl)
    | (clear tk2; go_at_call 38; refine (HCJ.out y1 HBW.out).mono ?_; rintro e0 y2 ⟨v, rfl, hrs, hbz⟩
       obtain ⟨ad, cp, hv⟩ := hrs.form
       rw [← HN.out] at hv
       subst hv
       have HRS : Hid (ReadsS y2 (.slice ad n cp) l) := hrs
       replace HBW : Hid (Below w.heap.size w y2) := HBW.out.trans (hbz.mono HBW.out.size)
       clear hrs hbz)
    | (clear tk3; with_reducible refine wpSeq_makeT (.tmp 10) (.tmp 10) n (Nat.le_trans HN64.out (by decide)) ?_ ?_ ?_ ?_ ?_
       · rfl
       · rfl
       · rfl
       · rfl
       intro g4 y3 hge hrow hbz
       have HI0 : Hid (BtI y2 g4 n (.slice ad n cp) l [] 0 y3) := ⟨hrow, HRS.out.below hbz, hbz⟩
       have HG4 : Hid (y2.heap.size ≤ g4) := hge
       clear hge hrow hbz))
  go_loopw [14] (fun i wr => ∃ (k : Nat) (us : List Value), k ≤ n ∧ i = .int .i64 (k : Int) ∧ Hid (BtI y2 g4 n (.slice ad n cp) l us k wr)) (fun i _ => n - (intOf i).toNat)
  case atStart => exact ⟨0, [], by omega, rfl, HI0⟩
  case round =>
    obtain ⟨k, us, hkn, rfl, HI⟩ := hrel
    clear HI0
    by_cases hlt : k < n
    · have hlk : (k : Int) < (n : Int) := by omega
      have k0 : (0 : Int) ≤ (k : Int) := by omega
      have f5 : IntKind.i64.wrap ((k : Int) + 1) = (k : Int) + 1 := by rw [IntKind.wrap_i64]; have := HN64.out; omega
      have HLT : Hid (k < l.length) := by show _ < _; rw [← HN.out]; exact hlt
      obtain ⟨b, off, cap', hv2, hat⟩ := HRS.out.at (Nat.lt_of_le_of_lt (Nat.zero_le _) HLT.out)
      simp only [Value.slice.injEq] at hv2
      obtain ⟨rfl, hnl, rfl⟩ := hv2
      clear hnl
      obtain ⟨vs, hsa, hrs⟩ := hat k HLT.out
      obtain ⟨s, HS⟩ : ∃ s, Hid (s = l.getD k zeroS) := ⟨_, rfl⟩
      rw [← HS.out] at hsa hrs
      obtain ⟨a3, n3, c3, hv3⟩ := hrs.form
      subst hv3
      obtain ⟨csk, HCK⟩ : ∃ c, Hid (c = sgC s (.slice a3 n3 c3)) := ⟨_, rfl⟩
      have HOS : Hid (okS s) := hsa.ok
      have HRK : Hid (wr.rangeAt b (off + k * 98) csk) := by rw [HCK.out]; exact (hsa.below HI.out.bel (Nat.le_refl _)).all
      have HIK : Hid ((Tryd.prog.info? 30).map (·.size) = some csk.length) := by show _ = _; rw [HCK.out]; exact info_sgC hsa.ok _
      have HLK : Hid (csk.length = (sgC zeroS (.slice none 0 0)).length) := by show _ = _; rw [HCK.out, len_sgC hsa.ok, len_sgC okS_zero]
      have HOC : Hid (∀ v ∈ csk, v.oneCell' = true) := by rw [HCK.out]; exact sgC_one _ _ _ _
      have HCC : Hid (∀ W : World, Below wr.heap.size wr W → Calls Tryd.prog 39 #[.agg csk.toArray] W fun r w' => ∃ v', r = .returned v' ∧ OwnB w' W.heap.size v' (encS s) ∧ Below W.heap.size W w') := fun W hh => by rw [HCK.out]; exact HCS.out W s _ HOS.out (HSZ.out s (by rw [HS.out, List.getD_eq_getElem?_getD, List.getElem?_eq_getElem HLT.out]; exact List.getElem_mem HLT.out)) ((hrs.below HI.out.bel).below hh)
      have HTK : Hid ((l.take (k + 1)).map encS = (l.take k).map encS ++ [encS s]) := by show _ = _; rw [take_more HLT.out, List.map_append, HS.out]; rfl
      have HUL : Hid (us.length = k) := by show _ = _; rw [HI.out.tx.len, List.length_map, List.length_take]; have := HLT.out; omega
      clear hat hsa hrs
      have tk1 : Hid True := trivial
      have tk2 : Hid True := trivial
      have tk3 : Hid True := trivial
      have tk4 : Hid True := trivial
      have tk5 : Hid True := trivial
      have tk6 : Hid True := trivial
      go_wp2_with (first
        | (clear tk1; with_reducible refine wpSeq_loadW 30 (.tmp 17) b (off + k * 98) csk _ ?_ Tryd.underlying30 rfl ?_ ?_ ?_ ?_ ?_
           · exact HRK.out
           · exact HIK.out
           · rfl
           · rfl
           · rfl)
        | (clear tk2; with_reducible refine wpSeq_allocS ?_ ?_ ?_
           · rfl
           · rfl
           intro g6 y4 nn)
        | (clear tk3; with_reducible refine wpSeq_storeRow 30 (.tmp 6) (.tmp 18) g6 (sgC zeroS (.slice none 0 0)) csk ?_ ?_ ?_ ?_ ?_ ?_ ?_ ?_ ?_
           · exact nn.blk
           · exact HLK.out
           · exact HIK.out
           · exact HOC.out
           · rfl
           · rfl
           · rfl
           · rfl
           intro y5 hs
           have hbz := nn.below.trans (hs.only.below nn.ge nn.below.size)
           have H6 : Hid (Blk y5 g6 csk 30) := hs.blk
           have HB5 : Hid (Below wr.heap.size wr y5) := hbz
           clear nn hs hbz)
        | (clear tk4; with_reducible refine wpSeq_loadW 30 (.tmp 6) g6 0 csk _ ?_ Tryd.underlying30 rfl ?_ ?_ ?_ ?_ ?_
           · exact H6.out.range
           · exact HIK.out
           · rfl
           · rfl
           · rfl)
        | (clear tk5; go_at_call 39; refine (HCC.out y5 HB5.out).mono ?_; rintro e0 y6 ⟨v0, rfl, hu0, hbz⟩
           obtain ⟨au, nu, cu, hv0⟩ := hu0.reads.form
           subst hv0
           have HB6 : Hid (Below wr.heap.size wr y6) := HB5.out.trans (hbz.mono HB5.out.size)
           have HU : Hid (OwnB y6 (g4 + 1) (.slice au nu cu) (encS s)) := hu0.mono (Nat.le_trans HI.out.tx.lt HB5.out.size)
           have HT6 : Hid (RowT y6 g4 n us ((l.take k).map encS)) := HI.out.tx.next HB6.out
           clear hu0 hbz)
        | (clear tk6; with_reducible refine wpSeq_storeT (.tmp 23) (.tmp 22) g4 k (us ++ nilL (n - us.length)) au nu cu ?_ HT6.out.blk ?_ ?_ ?_ ?_ ?_
           · rw [List.length_append, len_nilL, HUL.out]; omega
           · rfl
           · first | rfl | (simp [Act.eval]; done)
           · rfl
           · rfl
           intro y7 hy7
           have HI7 : Hid (BtI y2 g4 n (.slice (some ⟨b, off, none⟩) n cp) l (us ++ [.slice au nu cu]) (k + 1) y7) := by
             have ho : Only g4 y6 y7 := by rw [hy7]; exact Only.setCell (Only.refl _ _) _ _
             have hb7 : Below y2.heap.size y2 y7 := (HI.out.bel.trans (HB6.out.mono HI.out.bel.size)).trans (ho.below HG4.out (Nat.le_trans HI.out.bel.size HB6.out.size))
             refine ⟨?_, HRS.out.below hb7, hb7⟩
             rw [HTK.out, hy7]
             exact HT6.out.put HUL.out hlt HU.out
           clear hy7))
      go_roundw
      case rel => exact ⟨k + 1, _, by omega, by simp, HI7⟩
      case measure => simp [intOf]; omega
    · have hlk : ¬ ((k : Int) < (n : Int)) := by omega
      obtain rfl : k = n := by omega
      have HRL : Hid (ReadsL wr (.slice (some ⟨g4, 0, none⟩) k k) (l.map encS)) := by
        have h := HI.out.tx
        rw [List.take_of_length_le (by rw [← HN.out]; omega)] at h
        exact h.readsL (by rw [List.length_map, ← HN.out])
      have HFB : Hid ((l.map encS).flatten.length + 10 * (l.map encS).length + 40 ≤ 140737488355328) := by
        have h := flatE_le l (fun s hs => ⟨HRS.out.2 s hs, HSZ.out s hs⟩)
        have h1 := HN64.out
        rw [← HN.out] at h
        rw [List.length_map, ← HN.out]
        have h2 : k * 1048692 ≤ 66 * 1048692 := Nat.mul_le_mul_right _ h1
        show _ ≤ _
        omega
      have tk9 : Hid True := trivial
      go_wp2_with (first
        | (clear tk9; go_at_call 40; refine (ctexts_any _ (l.map encS) wr HRL.out HFB.out).mono ?_
           rintro e0 y6 ⟨v9, rfl, ho9, hb9⟩))
      go_ret
      exact ⟨v9, rfl, ho9.reads, (HBW.out.trans (HI.out.bel.mono HBW.out.size)).trans (hb9.mono (HBW.out.trans (HI.out.bel.mono HBW.out.size)).size)⟩
end Go.Proofs.YtableajopaappaaDoor
/- The walks of fork's parted, Read and Accept (layer 12). -/
namespace Go.Proofs.YtableajopaappaaDoor
open Go.RowKit Go.Shelf
set_option maxRecDepth 100000
set_option maxRecDepth 100000 in
set_option maxHeartbeats 8000000 in
theorem fkParted_any (g6 n kk : Nat) (L : List (SgT × Value)) (w : World) (hr : RowS w g6 L) (hn : L.length = n) (hk : n = kk + 2) (h65 : n ≤ 65) (hv : ∀ p ∈ L, ∃ a n c, p.2 = .slice a n c) :
    Calls Tryd.prog 34 #[.slice (some ⟨g6, 0, none⟩) n n] w fun r w' => ∃ g4, w.heap.size ≤ g4 ∧ r = .returned (.agg (evC (evL (L.map (·.1))) (.slice (some ⟨g4, 0, none⟩) kk kk) (L.getD kk zeroP).2 (L.getD (kk + 1) zeroP).2).toArray) ∧ RowS w' g4 (L.take kk) ∧ Below w.heap.size w w' := by
  have HKN : Hid (kk < n ∧ kk + 1 < n) := ⟨by omega, by omega⟩
  have HN65 : Hid (n ≤ 65) := h65
  have HKE : Hid (n = kk + 2) := hk
  obtain ⟨ma, qa⟩ := getP_mem (L := L) (k := kk) (by omega)
  obtain ⟨mb, qb⟩ := getP_mem (L := L) (k := kk + 1) (by omega)
  have hs1 := hr.at qa
  have hs2 := hr.at qb
  obtain ⟨e, HE⟩ : ∃ e, Hid (e = evL (L.map (·.1))) := ⟨_, rfl⟩
  have HEL : Hid (e = ((L.take kk).map (·.1), (L.getD kk zeroP).1, (L.getD (kk + 1) zeroP).1)) := by show _ = _; rw [HE.out, evL_map L n hn, show n - 2 = kk by omega, show n - 1 = kk + 1 by omega]
  rw [← HE.out]
  obtain ⟨a1, n1, d1, hw1⟩ := hv _ ma
  obtain ⟨a2, n2, d2, hw2⟩ := hv _ mb
  have HO1 : Hid (∀ p ∈ L, p.2.oneCell' = true) := fun p hp => by obtain ⟨_, _, _, h⟩ := hv p hp; rw [h]; rfl
  have HOA : Hid (okS e.2.1 ∧ okS e.2.2) := by rw [HEL.out]; exact ⟨hs1.ok, hs2.ok⟩
  rw [hw1] at hs1 ⊢
  rw [hw2] at hs2 ⊢
  obtain ⟨cka, HCA⟩ : ∃ c, Hid (c = sgC (L.getD kk zeroP).1 (.slice a1 n1 d1)) := ⟨_, rfl⟩
  obtain ⟨ckb, HCB⟩ : ∃ c, Hid (c = sgC (L.getD (kk + 1) zeroP).1 (.slice a2 n2 d2)) := ⟨_, rfl⟩
  obtain ⟨cz, HCZ⟩ : ∃ c, Hid (c = evC zeroE (.slice none 0 0) (.slice none 0 0) (.slice none 0 0)) := ⟨_, rfl⟩
  have HIS : Hid ((Tryd.prog.info? 30).map (·.size) = some cka.length ∧ (Tryd.prog.info? 30).map (·.size) = some ckb.length) := by rw [HCA.out, HCB.out]; exact ⟨info_sgC hs1.ok _, info_sgC hs2.ok _⟩
  have HRG : Hid (∀ W : World, Below w.heap.size w W → W.rangeAt g6 (0 + kk * 98) cka ∧ W.rangeAt g6 (0 + (kk + 1) * 98) ckb) := fun W hh => by rw [HCA.out, HCB.out, Nat.zero_add, Nat.zero_add]; exact ⟨(hs1.below hh (Nat.le_refl _)).all, (hs2.below hh (Nat.le_refl _)).all⟩
  have HBE : Hid (∀ (g : Nat) (ps : List (Nat × Value)), ps = [(0, .slice (some ⟨g, 0, none⟩) kk kk), (1, .agg cka.toArray), (2, .agg ckb.toArray)] → Tryd.prog.built 32 ps = some (evC e (.slice (some ⟨g, 0, none⟩) kk kk) (.slice a1 n1 d1) (.slice a2 n2 d2)).toArray) := fun g ps hps => by subst hps; rw [HEL.out, HCA.out, HCB.out]; exact (built_evid _).trans (fill_ev (e := ((L.take kk).map (·.1), (L.getD kk zeroP).1, (L.getD (kk + 1) zeroP).1)) hs1.ok hs2.ok)
  have HLE : Hid (∀ g : Nat, (evC e (.slice (some ⟨g, 0, none⟩) kk kk) (.slice a1 n1 d1) (.slice a2 n2 d2)).length = cz.length) := fun g => by rw [HCZ.out, len_evC HOA.out.1 HOA.out.2, len_zeroE]
  have HIE : Hid (∀ g : Nat, (Tryd.prog.info? 32).map (·.size) = some (evC e (.slice (some ⟨g, 0, none⟩) kk kk) (.slice a1 n1 d1) (.slice a2 n2 d2)).length) := fun g => info_evC HOA.out.1 HOA.out.2 _ _ _
  have HOE : Hid (∀ g : Nat, ∀ v ∈ evC e (.slice (some ⟨g, 0, none⟩) kk kk) (.slice a1 n1 d1) (.slice a2 n2 d2), v.oneCell' = true) := fun g => evC_one _ rfl rfl rfl
  have HRR : Hid (RowS w g6 L) := hr
  have HNL : Hid (n = L.length) := hn.symm
  have f2 : IntKind.i64.wrap ((n : Int) - 2) = (kk : Int) := by rw [IntKind.wrap_i64]; have h1 := HKE.out; have h2 := HN65.out; omega
  have f3 : IntKind.i64.wrap ((kk : Int) + 1) = (kk : Int) + 1 := by rw [IntKind.wrap_i64]; have h1 := HKE.out; have h2 := HN65.out; omega
  have HBW : Hid (Below w.heap.size w w) := Below.refl _ _
  clear hr hk hn h65 hv ma mb qa qb hs1 hs2 hw1 hw2 HCA HCB HEL HE
  go_enter Tryd.func34, Tryd.ntmps34
  have tk0 : Hid True := trivial
  have tk1 : Hid True := trivial
  have tk2 : Hid True := trivial
  go_upto_region 4 with (first
    | (clear tk0; with_reducible refine wpSeq_allocE ?_ ?_ ?_
       · rfl
       · rfl
       intro g2 y1 nn
       have HG2 : Hid (w.heap.size ≤ g2) := nn.ge
       have H2 : Hid (Blk y1 g2 cz 32) := by rw [HCZ.out]; exact nn.blk
       replace HBW : Hid (Below w.heap.size w y1) := nn.below
       clear nn)
    | (clear tk1; with_reducible refine wpSeq_makeS (.tmp 8) (.tmp 8) kk ?_ ?_ ?_ ?_ ?_ ?_
       · have h1 := HKE.out; have h2 := HN65.out; omega
       · rfl
       · rfl
       · rfl
       · rfl
       intro g4 y2 hge hrow hbz
       have HR : Hid (RowS y2 g4 (zeroL kk)) := hrow
       have HGG : Hid (g2 < g4 ∧ w.heap.size ≤ g4) := ⟨Nat.lt_of_lt_of_le H2.out.lt hge, Nat.le_trans HBW.out.size hge⟩
       replace H2 : Hid (Blk y2 g2 cz 32) := H2.out.below hbz H2.out.lt
       replace HBW : Hid (Below w.heap.size w y2) := HBW.out.trans (hbz.mono HBW.out.size)
       clear hge hrow hbz)
    | (clear tk2; with_reducible refine wpSeq_copyR (.tmp 10) (.tmp 11) g4 g6 kk n kk n kk (zeroL kk) L HR.out (HRR.out.below HBW.out) HO1.out (len_zeroL _).symm HNL.out (Nat.min_eq_right (Nat.le_of_lt HKN.out.1)) ?_ ?_ ?_ ?_ ?_
       · rfl
       · rfl
       · rfl
       · rfl
       intro y3 hrow hon
       replace HR : Hid (RowS y3 g4 (L.take kk)) := by rw [zeroL_drop, Nat.sub_self] at hrow; exact (List.append_nil (L.take kk)) ▸ hrow
       replace H2 : Hid (Blk y3 g2 cz 32) := H2.out.only hon (by have := HGG.out.1; omega)
       replace HBW : Hid (Below w.heap.size w y3) := HBW.out.trans (hon.below HGG.out.2 HBW.out.size)
       clear hrow hon))
  refine wp_region_held_drew (S := Below g2 (World.drew y3)) (by kernel_rfl) (Below.refl _ _) ?_
  intro hS
  replace H2 : Hid (Blk (World.drew y3) g2 cz 32) := H2.out.drew
  replace HR : Hid (RowS (World.drew y3) g4 (L.take kk)) := HR.out.drew
  replace HBW : Hid (Below w.heap.size w (World.drew y3)) := HBW.out.drew
  change wpAnyH _ _ _ _ _ _ _ _ (World.drew y3)
  generalize World.drew y3 = y0 at *
  try simp only [Act.put, List.setIfInBounds_toArray, List.set_cons_zero, List.set_cons_succ]
  refine wpAnyH_take (i := 0) (v := .slice (some ⟨g4, 0, none⟩) kk kk) rfl (by kernel_rfl) (by kernel_rfl) (by kernel_rfl) (fun _ _ _ h => h) (Or.inl ⟨by rfl, fun wx hx => by simp [go_sem]⟩) hS ?_
  simp only [Act.put, List.getElem_toArray, List.getElem_cons_zero, List.setIfInBounds_toArray, List.set_cons_zero, List.set_cons_succ]
  refine wpAnyH_take (i := 1) (v := .slice (some ⟨g6, 0, none⟩) n n) rfl (by kernel_rfl) (by kernel_rfl) (by kernel_rfl) (fun _ _ _ h => h) (Or.inl ⟨by rfl, fun wx hx => by simp [go_sem]⟩) hS ?_
  simp only [Act.put, List.getElem_toArray, List.getElem_cons_succ, List.getElem_cons_zero, List.setIfInBounds_toArray, List.set_cons_zero, List.set_cons_succ]
  refine wpAnyH_take (i := 2) (v := .int .i64 (kk : Int)) rfl (by kernel_rfl) (by kernel_rfl) (by kernel_rfl) (fun _ _ _ h => h) (Or.inl ⟨by rfl, fun wx hx => by simp [go_sem]⟩) hS ?_
  simp only [Act.put, List.getElem_toArray, List.getElem_cons_succ, List.getElem_cons_zero, List.setIfInBounds_toArray, List.set_cons_zero, List.set_cons_succ]
  refine wpAnyH_take (i := 3) (v := .pointer (some ⟨g6, 0 + kk * 98, none⟩)) rfl (by kernel_rfl) (by kernel_rfl) (by kernel_rfl) (fun _ _ _ h => h) (Or.inl ⟨by rfl, fun wx hx => by exact idx98 g6 0 n n kk HKN.out.1 _ _ _ _ rfl rfl rfl _⟩) hS ?_
  simp only [Act.put, List.getElem_toArray, List.getElem_cons_succ, List.getElem_cons_zero, List.setIfInBounds_toArray, List.set_cons_zero, List.set_cons_succ]
  refine wpAnyH_take (i := 4) (v := .agg cka.toArray) rfl (by kernel_rfl) (by kernel_rfl) (by kernel_rfl) (fun _ _ _ h => h) (Or.inl ⟨by rfl, fun wx hx => by exact load_run 30 _ rfl g6 (0 + kk * 98) rfl cka _ (HRG.out _ (HBW.out.trans (Below.mono hx HG2.out))).1 Tryd.underlying30 rfl HIS.out.1⟩) hS ?_
  simp only [Act.put, List.getElem_toArray, List.getElem_cons_succ, List.getElem_cons_zero, List.setIfInBounds_toArray, List.set_cons_zero, List.set_cons_succ]
  refine wpAnyH_take (i := 5) (v := .slice (some ⟨g6, 0, none⟩) n n) rfl (by kernel_rfl) (by kernel_rfl) (by kernel_rfl) (fun _ _ _ h => h) (Or.inl ⟨by rfl, fun wx hx => by simp [go_sem]⟩) hS ?_
  simp only [Act.put, List.getElem_toArray, List.getElem_cons_succ, List.getElem_cons_zero, List.setIfInBounds_toArray, List.set_cons_zero, List.set_cons_succ]
  refine wpAnyH_take (i := 6) (v := .int .i64 (kk : Int)) rfl (by kernel_rfl) (by kernel_rfl) (by kernel_rfl) (fun _ _ _ h => h) (Or.inl ⟨by rfl, fun wx hx => by simp [go_sem]⟩) hS ?_
  simp only [Act.put, List.getElem_toArray, List.getElem_cons_succ, List.getElem_cons_zero, List.setIfInBounds_toArray, List.set_cons_zero, List.set_cons_succ]
  refine wpAnyH_take (i := 7) (v := .int .i64 ((kk + 1 : Nat) : Int)) rfl (by kernel_rfl) (by kernel_rfl) (by kernel_rfl) (fun _ _ _ h => h) (Or.inl ⟨by rfl, fun wx hx => by simp [go_sem, f3]⟩) hS ?_
  simp only [Act.put, List.getElem_toArray, List.getElem_cons_succ, List.getElem_cons_zero, List.setIfInBounds_toArray, List.set_cons_zero, List.set_cons_succ]
  refine wpAnyH_take (i := 8) (v := .pointer (some ⟨g6, 0 + (kk + 1) * 98, none⟩)) rfl (by kernel_rfl) (by kernel_rfl) (by kernel_rfl) (fun _ _ _ h => h) (Or.inl ⟨by rfl, fun wx hx => by exact idx98 g6 0 n n (kk + 1) HKN.out.2 _ _ _ _ rfl rfl rfl _⟩) hS ?_
  simp only [Act.put, List.getElem_toArray, List.getElem_cons_succ, List.getElem_cons_zero, List.setIfInBounds_toArray, List.set_cons_zero, List.set_cons_succ]
  refine wpAnyH_take (i := 9) (v := .agg ckb.toArray) rfl (by kernel_rfl) (by kernel_rfl) (by kernel_rfl) (fun _ _ _ h => h) (Or.inl ⟨by rfl, fun wx hx => by exact load_run 30 _ rfl g6 (0 + (kk + 1) * 98) rfl ckb _ (HRG.out _ (HBW.out.trans (Below.mono hx HG2.out))).2 Tryd.underlying30 rfl HIS.out.2⟩) hS ?_
  simp only [Act.put, List.getElem_toArray, List.getElem_cons_succ, List.getElem_cons_zero, List.setIfInBounds_toArray, List.set_cons_zero, List.set_cons_succ]
  refine wpAnyH_take (i := 10) (v := .agg (evC e (.slice (some ⟨g4, 0, none⟩) kk kk) (.slice a1 n1 d1) (.slice a2 n2 d2)).toArray) rfl (by kernel_rfl) (by kernel_rfl) (by kernel_rfl) (fun _ _ _ h => h) (Or.inl ⟨by rfl, fun wx hx => by refine build_op _ _ 32 [(0, .tmp 13), (1, .tmp 17), (2, .tmp 22)] rfl _ ?_ _; exact HBE.out g4 _ rfl⟩) hS ?_
  simp only [Act.put, List.getElem_toArray, List.getElem_cons_succ, List.getElem_cons_zero, List.setIfInBounds_toArray, List.set_cons_zero, List.set_cons_succ]
  refine wpAnyH_storeRow 11 32 (.tmp 2) (.tmp 23) g2 cz (evC e (.slice (some ⟨g4, 0, none⟩) kk kk) (.slice a1 n1 d1) (.slice a2 n2 d2)) H2.out (HLE.out g4) (HIE.out g4) (HOE.out g4) (by kernel_rfl) rfl (by rfl) rfl rfl rfl ?_
  intro yE hs
  replace hS : Below g2 y0 yE := Below.trans hS (hs.only.below (Nat.le_refl _) (Nat.le_of_lt H2.out.lt))
  refine ⟨hS, ?_⟩
  simp only [Act.put, List.getElem_toArray, List.getElem_cons_succ, List.getElem_cons_zero]
  refine wpAnyH_done (by kernel_rfl) ?_ _
  have HBE2 : Hid (Below w.heap.size w yE) := HBW.out.trans (hs.only.below HG2.out HBW.out.size)
  have HRE : Hid (RowS yE g4 (L.take kk)) := HR.out.only hs.only (by have := HGG.out.1; omega)
  have HBK : Hid (Blk yE g2 (evC e (.slice (some ⟨g4, 0, none⟩) kk kk) (.slice a1 n1 d1) (.slice a2 n2 d2)) 32) := hs.blk
  clear hs
  go_wp2
  exact bodyPost_ret (v := .agg (evC e (.slice (some ⟨g4, 0, none⟩) kk kk) (.slice a1 n1 d1) (.slice a2 n2 d2)).toArray) (results_cell_row (by rfl) _ _ g2 32 _ (0, 0) _ rfl HBK.out Tryd.underlying32 rfl (by rw [List.size_toArray]; exact HIE.out g4)) rfl ⟨g4, HGG.out.2, rfl, HRE.out, HBE2.out⟩
set_option maxRecDepth 100000 in
set_option maxHeartbeats 8000000 in
theorem fkRead_own (v : Value) (b : Bs) (w : World) (hb : Reads w v b) :
    Calls Tryd.prog 13 #[v] w fun r w' => ∃ cs, r = .returned (.tuple #[.agg (cs : List Value).toArray, .int .i64 (readX b)]) ∧ EvF w w' (readE b) cs ∧ Below w.heap.size w w' := by
  obtain ⟨ts, HTS⟩ : ∃ t, Hid (t = (readList readText b).getD []) := ⟨_, rfl⟩
  obtain ⟨er, HER⟩ : ∃ t, Hid (t = errOf (readList readText b)) := ⟨_, rfl⟩
  obtain ⟨cz, HCZ⟩ : ∃ c, Hid (c = evC zeroE (.slice none 0 0) (.slice none 0 0) (.slice none 0 0)) := ⟨_, rfl⟩
  obtain ⟨n, HN⟩ : ∃ n, Hid (n = ts.length) := ⟨_, rfl⟩
  have HOZ : Hid (EvOk zeroE cz) := by rw [HCZ.out]; exact (EvB.zero w).ok
  have HC1 : Hid (∀ W : World, Below w.heap.size w W → Calls Tryd.prog 32 #[v] W fun r w' => ∃ u, r = .returned (.tuple #[u, .int .i64 er]) ∧ ReadsL w' u ts ∧ Below W.heap.size W w') := fun W hh => by rw [HTS.out, HER.out]; exact (creadT_any v b W (hb.below hh)).mono fun e w' h => h.t
  have HBAD : Hid ((er ≠ 0 ∨ n < 2 ∨ 65 < n ∨ readSs ts = none) → readF b = none) := by rw [HER.out, HN.out, HTS.out]; exact readF_bad
  have HGOOD : Hid (er = 0 → 2 ≤ n → n ≤ 65 → ∀ l, readSs ts = some l → readF b = some (evL l)) := by rw [HER.out, HN.out, HTS.out]; exact fun h0 h2 h65 l hl => readF_good h0 h2 h65 hl
  have HBW : Hid (Below w.heap.size w w) := Below.refl _ _
  clear hb HTS HER
  go_enter Tryd.func13, Tryd.ntmps13
  have tk0 : Hid True := trivial
  have tk1 : Hid True := trivial
  go_upto_region 2 with (first
    | (clear tk0; with_reducible refine wpSeq_allocE ?_ ?_ ?_
       · rfl
       · rfl
       intro g2 y1 nn
       have HG2 : Hid (w.heap.size ≤ g2) := nn.ge
       have H2 : Hid (Blk y1 g2 cz 32) := by rw [HCZ.out]; exact nn.blk
       replace HBW : Hid (Below w.heap.size w y1) := nn.below
       clear nn)
    | (clear tk1; go_at_call 32; refine (HC1.out y1 HBW.out).mono ?_; rintro e0 y2 ⟨u, rfl, hrl, hbz⟩
       replace H2 : Hid (Blk y2 g2 cz 32) := H2.out.below hbz H2.out.lt
       replace HBW : Hid (Below w.heap.size w y2) := HBW.out.trans (hbz.mono HBW.out.size)
       obtain ⟨ad, cp, hu, hq⟩ := id hrl
       clear hq
       rw [← HN.out] at hu
       subst hu
       have HRL : Hid (ReadsL y2 (.slice ad n cp) ts) := hrl
       clear hbz hrl))
  by_cases her : er = 0
  case neg =>
    have HF0 : Hid (readF b = none) := HBAD.out (Or.inl her)
    have HX3 : Hid (readX b = 3) := by show _ = _; rw [readX, HF0.out]; rfl
    have HE0 : Hid (readE b = zeroE) := by show _ = _; rw [readE, HF0.out]; rfl
    have qe : (er == 0) = false := by rw [beq_eq_false_iff_ne]; exact her
    have pe : (er != 0) = true := by rw [bne, qe]; rfl
    clear her
    have tk20 : Hid True := trivial
    have tk21 : Hid True := trivial
    go_wp2_with (first
      | (clear tk20; with_reducible refine wpSeq_build 32 [] cz ?_ ?_ ?_ ?_
         · exact (built_evid []).trans (by rw [HCZ.out]; rfl)
         · rfl
         · rfl)
      | (clear tk21; with_reducible refine wpSeq_storeRow 32 (.tmp 2) (.tmp 26) g2 cz cz ?_ ?_ ?_ ?_ ?_ ?_ ?_ ?_ ?_
         · exact H2.out
         · rfl
         · exact HOZ.out.info
         · exact HOZ.out.one
         · rfl
         · rfl
         · rfl
         · rfl
         intro y99 hs))
    exact bodyPost_ret (results_row_tmp (by rfl) _ _ g2 _ rfl (var_evB hs.blk HOZ.out)) rfl ⟨cz, by rw [HX3.out]; rfl, by rw [HE0.out, HCZ.out]; exact fun _ _ => EvB.zero _, HBW.out.trans (hs.only.below HG2.out HBW.out.size)⟩
  case pos =>
    have qe : (er == 0) = true := by rw [beq_iff_eq]; exact her
    have pe : (er != 0) = false := by rw [bne, qe]; rfl
    have HER0 : Hid (er = 0) := her
    clear her
    by_cases hn2 : n < 2
    · have hi2 : (n : Int) < 2 := by omega
      have HF0 : Hid (readF b = none) := HBAD.out (Or.inr (Or.inl hn2))
      have HX3 : Hid (readX b = 3) := by show _ = _; rw [readX, HF0.out]; rfl
      have HE0 : Hid (readE b = zeroE) := by show _ = _; rw [readE, HF0.out]; rfl
      have tk20 : Hid True := trivial
      have tk21 : Hid True := trivial
      go_wp2_with (first
        | (clear tk20; with_reducible refine wpSeq_build 32 [] cz ?_ ?_ ?_ ?_
           · exact (built_evid []).trans (by rw [HCZ.out]; rfl)
           · rfl
           · rfl)
        | (clear tk21; with_reducible refine wpSeq_storeRow 32 (.tmp 2) (.tmp 26) g2 cz cz ?_ ?_ ?_ ?_ ?_ ?_ ?_ ?_ ?_
           · exact H2.out
           · rfl
           · exact HOZ.out.info
           · exact HOZ.out.one
           · rfl
           · rfl
           · rfl
           · rfl
           intro y99 hs))
      exact bodyPost_ret (results_row_tmp (by rfl) _ _ g2 _ rfl (var_evB hs.blk HOZ.out)) rfl ⟨cz, by rw [HX3.out]; rfl, by rw [HE0.out, HCZ.out]; exact fun _ _ => EvB.zero _, HBW.out.trans (hs.only.below HG2.out HBW.out.size)⟩
    have hi2 : ¬ ((n : Int) < 2) := by omega
    by_cases hn65 : 65 < n
    · have hi65 : (65 : Int) < (n : Int) := by omega
      have HF0 : Hid (readF b = none) := HBAD.out (Or.inr (Or.inr (Or.inl hn65)))
      have HX3 : Hid (readX b = 3) := by show _ = _; rw [readX, HF0.out]; rfl
      have HE0 : Hid (readE b = zeroE) := by show _ = _; rw [readE, HF0.out]; rfl
      have tk20 : Hid True := trivial
      have tk21 : Hid True := trivial
      go_wp2_with (first
        | (clear tk20; with_reducible refine wpSeq_build 32 [] cz ?_ ?_ ?_ ?_
           · exact (built_evid []).trans (by rw [HCZ.out]; rfl)
           · rfl
           · rfl)
        | (clear tk21; with_reducible refine wpSeq_storeRow 32 (.tmp 2) (.tmp 26) g2 cz cz ?_ ?_ ?_ ?_ ?_ ?_ ?_ ?_ ?_
           · exact H2.out
           · rfl
           · exact HOZ.out.info
           · exact HOZ.out.one
           · rfl
           · rfl
           · rfl
           · rfl
           intro y99 hs))
      exact bodyPost_ret (results_row_tmp (by rfl) _ _ g2 _ rfl (var_evB hs.blk HOZ.out)) rfl ⟨cz, by rw [HX3.out]; rfl, by rw [HE0.out, HCZ.out]; exact fun _ _ => EvB.zero _, HBW.out.trans (hs.only.below HG2.out HBW.out.size)⟩
    have hi65 : ¬ ((65 : Int) < (n : Int)) := by omega
    have HN2 : Hid (2 ≤ n) := by show _ ≤ _; omega
    have HN65 : Hid (n ≤ 65) := by show _ ≤ _; omega
    clear hn2 hn65
    have tk30 : Hid True := trivial
    go_wp2_with (first
      | (clear tk30; with_reducible refine wpSeq_makeS (.tmp 28) (.tmp 28) n (Nat.le_trans HN65.out (by decide)) ?_ ?_ ?_ ?_ ?_
         · rfl
         · rfl
         · rfl
         · rfl
         intro g6 y3 hge hrow hbz
         have HI0 : Hid (RrI y2 g6 n [] [] y3) := ⟨hbz, by rw [List.nil_append]; exact hrow, (fun p hp => by cases hp), rfl, Nat.zero_le _, hge⟩
         clear hge hrow hbz))
    have HR20 : Hid (Blk y2 g2 cz 32) := H2.out
    have HBW2 : Hid (Below w.heap.size w y2) := HBW.out
    clear H2 HBW hi2 hi65 qe pe
    go_loopw [32, 5] (fun i ev wr => ∃ (k : Nat) (rs : List SgT) (L : List (SgT × Value)), k ≤ n ∧ i = .int .i64 (k : Int) ∧ ev = .int .i64 er ∧ Hid (readSs (ts.take k) = some rs) ∧ Hid (RrI y2 g6 n rs L wr)) (fun i _ _ => n - (intOf i).toNat)
    case atStart => exact ⟨0, [], [], by omega, rfl, rfl, rfl, HI0⟩
    case round =>
      obtain ⟨k, rs, L, hkn, rfl, rfl, HRS, HI⟩ := hrel
      clear HI0
      have HR2 : Hid (Blk wr g2 cz 32) := HR20.out.below HI.out.bel HR20.out.lt
      have HLR : Hid (rs.length = k) := by show _ = _; rw [readSs_len HRS.out, List.length_take, ← HN.out]; omega
      by_cases hlt : k < n
      case neg =>
        have hlk : ¬ ((k : Int) < (n : Int)) := by omega
        obtain rfl : k = n := by omega
        have HFS : Hid (readF b = some (evL rs)) := by
          have h := HRS.out
          rw [List.take_of_length_le (by rw [← HN.out]; omega)] at h
          exact HGOOD.out HER0.out HN2.out HN65.out rs h
        have HXE : Hid (readX b = 0) := by show _ = _; rw [readX, HFS.out]; rfl
        have HEE : Hid (readE b = evL rs) := by show _ = _; rw [readE, HFS.out]; rfl
        have HLN : Hid (L.length = k) := by show _ = _; rw [HI.out.len, HLR.out]
        obtain ⟨kk, HKK⟩ : ∃ j, Hid (j = k - 2) := ⟨_, rfl⟩
        have HKE : Hid (k = kk + 2) := by show _ = _; rw [HKK.out]; have := HN2.out; omega
        have HRW : Hid (RowS wr g6 L) := by
          have h := HI.out.row
          rw [HLN.out, Nat.sub_self] at h
          exact (List.append_nil L) ▸ h
        have HCP : Hid (Calls Tryd.prog 34 #[.slice (some ⟨g6, 0, none⟩) k k] wr fun r w' => ∃ g4 cs, cs = evC (evL rs) (.slice (some ⟨g4, 0, none⟩) kk kk) (L.getD kk zeroP).2 (L.getD (kk + 1) zeroP).2 ∧ wr.heap.size ≤ g4 ∧ r = .returned (.agg (cs : List Value).toArray) ∧ RowS w' g4 (L.take kk) ∧ Below wr.heap.size wr w') := (fkParted_any g6 k kk L wr HRW.out HLN.out HKE.out HN65.out (fun p hp => by obtain ⟨a, n, c, h⟩ := (HI.out.sg p hp).reads.form; exact ⟨a, n, c, h⟩)).mono fun e w' h => by
          obtain ⟨g4, h1, h2, h3, h4⟩ := h
          rw [HI.out.eq] at h2
          exact ⟨g4, _, rfl, h1, h2, h3, h4⟩
        have HB0 : Hid (Below w.heap.size w wr) := HBW2.out.trans (HI.out.bel.mono HBW2.out.size)
        have HEV : Hid (∀ (W : World) (g4 : Nat), (∀ {v : Value} {l : Bs}, OwnB wr (g6 + 1) v l → OwnB W (g6 + 1) v l) → RowS W g4 (L.take kk) → EvB W (evL rs) (evC (evL rs) (.slice (some ⟨g4, 0, none⟩) kk kk) (L.getD kk zeroP).2 (L.getD (kk + 1) zeroP).2)) := fun W g4 up hr => by
          have h := HI.out.ev HLR.out HN2.out (W' := W) (g4 := g4) up (by rw [show k - 2 = kk by rw [HKK.out]]; exact hr)
          rw [show k - 2 = kk by rw [HKK.out], show k - 1 = kk + 1 by have := HKE.out; omega] at h
          exact h
        have HG26 : Hid (g2 < y2.heap.size ∧ y2.heap.size ≤ g6 ∧ g6 < wr.heap.size) := ⟨HR20.out.lt, HI.out.ge, HI.out.row.lt⟩
        have tk60 : Hid True := trivial
        have tk61 : Hid True := trivial
        go_wp2_with (first
          | (clear tk60; go_at_call 34; refine (HCP.out).mono ?_; rintro e0 y8 ⟨g4, cs, hcs, hg4, rfl, hrow, hbz⟩
             have HE9 : Hid (∀ W : World, (∀ j, g6 < j → j < y8.heap.size → W.heap[j]? = y8.heap[j]?) → EvB W (evL rs) cs) := fun W hW => by
               rw [hcs]
               have hh := HG26.out
               refine HEV.out W g4 (fun {v l} hv => ?_) (hrow.same (hW g4 (by omega) hrow.lt))
               refine hv.same fun j hj => ?_
               have h1 := hv.own j hj
               have h2 := hv.lt j hj
               rw [hW j (by omega) (Nat.lt_of_lt_of_le h2 hbz.size), hbz.block j h2]
             have HEB : Hid (EvB y8 (evL rs) cs) := HE9.out y8 fun _ _ _ => rfl
             have HOE : Hid (EvOk (evL rs) cs) := HEB.out.ok
             replace HR2 : Hid (Blk y8 g2 cz 32) := HR2.out.below hbz HR2.out.lt
             have HB8 : Hid (Below wr.heap.size wr y8) := hbz
             clear hbz hrow hcs hg4)
          | (clear tk61; with_reducible refine wpSeq_storeRow 32 (.tmp 2) (.tmp 50) g2 cz cs ?_ ?_ ?_ ?_ ?_ ?_ ?_ ?_ ?_
             · exact HR2.out
             · rw [HCZ.out]; exact HOE.out.lz
             · exact HOE.out.info
             · exact HOE.out.one
             · rfl
             · rfl
             · rfl
             · rfl
             intro y99 hs))
        refine bodyPost_ret (results_row_tmp (by rfl) _ _ g2 _ rfl (var_evB hs.blk HOE.out)) rfl ⟨_, by rw [HXE.out]; rfl, ?_, ?_⟩
        · rw [HEE.out]
          intro W hW
          have hh := HG26.out
          have h0 := HB0.out.size
          have h8 : y8.heap.size ≤ y99.heap.size := hs.only.size
          have hw2 := HBW2.out.size
          exact HE9.out W fun j h1 h2 => by rw [hW j (by omega) (by omega), hs.only.block j (by omega) h2]
        · have hb8 := HB0.out.trans (HB8.out.mono HB0.out.size)
          exact hb8.trans (hs.only.below HG2.out hb8.size)
      case pos =>
        have hlk : (k : Int) < (n : Int) := by omega
        have k0 : (0 : Int) ≤ (k : Int) := by omega
        have f5 : IntKind.i64.wrap ((k : Int) + 1) = (k : Int) + 1 := by rw [IntKind.wrap_i64]; have := HN65.out; omega
        have HLT : Hid (k < ts.length) := by show _ < _; rw [← HN.out]; exact hlt
        obtain ⟨bb, off, rfl, hat⟩ := HRL.out.atL (Nat.lt_of_le_of_lt (Nat.zero_le _) HLT.out)
        obtain ⟨vj, hcj, hrj⟩ := hat k HLT.out
        obtain ⟨t, HT⟩ : ∃ t, Hid (t = ts.getD k []) := ⟨_, rfl⟩
        rw [← HT.out] at hrj
        obtain ⟨a3, n3, c3, hv3⟩ := hrj.form
        subst hv3
        have ckk : wr.cell? ⟨bb, off + k, none⟩ = some (.slice a3 n3 c3) := by rw [Below.cell HI.out.bel (block_lt_of_cell hcj)]; exact hcj
        have hres := crdSigned_any _ t wr (hrj.below HI.out.bel)
        clear hat hcj hrj
        cases hr : readS t with
        | none =>
          have HF0 : Hid (readF b = none) := HBAD.out (Or.inr (Or.inr (Or.inr (readSs_none (t := t) (by rw [HT.out]; exact mem_getD HLT.out) hr))))
          have HX3 : Hid (readX b = 3) := by show _ = _; rw [readX, HF0.out]; rfl
          have HE0 : Hid (readE b = zeroE) := by show _ = _; rw [readE, HF0.out]; rfl
          obtain ⟨s, HS⟩ : ∃ s, Hid (s = zeroS) := ⟨_, rfl⟩
          have HOS : Hid (okS s) := by rw [HS.out]; exact okS_zero
          have HCR : Hid (Calls Tryd.prog 33 #[.slice a3 n3 c3] wr fun e w' => ∃ aS nS cS, e = .returned (.tuple #[.agg (sgC s (.slice aS nS cS)).toArray, .int .i64 3]) ∧ OwnB w' wr.heap.size (.slice aS nS cS) s.2 ∧ Below wr.heap.size wr w') := hres.mono fun e w' h => by
            obtain ⟨aS, nS, cS, h1, h2, _, h4⟩ := h
            rw [rdX, rdS, hr] at h1
            rw [rdS, hr] at h2
            exact ⟨aS, nS, cS, by rw [HS.out]; exact h1, by rw [HS.out]; exact h2, h4⟩
          clear hres hr
          have tk40 : Hid True := trivial
          have tk41 : Hid True := trivial
          have tk43 : Hid True := trivial
          have tk44 : Hid True := trivial
          go_wp2_with (first
            | (clear tk40; go_at_call 33; refine (HCR.out).mono ?_; rintro e0 y71 ⟨aS, nS, cS, rfl, hov, hbz⟩
               clear ckk HCR
               replace HR2 : Hid (Blk y71 g2 cz 32) := HR2.out.below hbz HR2.out.lt
               have HOV : Hid (OwnB y71 (g6 + 1) (.slice aS nS cS) s.2) := hov.mono HI.out.row.lt
               replace HI : Hid (RrI y2 g6 n rs L y71) := HI.out.next hbz
               clear hbz hov)
            | (clear tk41; with_reducible refine wpSeq_storeRowS (.tmp 44) (.tmp 42) g6 k (L ++ zeroL (n - L.length)) s aS nS cS HI.out.row (by rw [HI.out.room]; exact hlt) HOS.out ?_ ?_ ?_ ?_ ?_
               · rfl
               · first | rfl | (simp [Act.eval]; done)
               · rfl
               · rfl
               intro y72 hrow hon
               have HI7 : Hid (RrI y2 g6 n (rs ++ [s]) (L ++ [(s, .slice aS nS cS)]) y72) := HI.out.put HLR.out hlt HOV.out hrow hon
               have HR7 : Hid (Blk y72 g2 cz 32) := HR2.out.only hon (by have h1 := HR20.out.lt; have h2 := HI.out.ge; omega)
               clear hrow hon HR2 HI HOV)
            | (clear tk43; with_reducible refine wpSeq_build 32 [] cz ?_ ?_ ?_ ?_
               · exact (built_evid []).trans (by rw [HCZ.out]; rfl)
               · rfl
               · rfl)
            | (clear tk44; with_reducible refine wpSeq_storeRow 32 (.tmp 2) (.tmp 47) g2 cz cz ?_ ?_ ?_ ?_ ?_ ?_ ?_ ?_ ?_
               · exact HR7.out
               · rfl
               · exact HOZ.out.info
               · exact HOZ.out.one
               · rfl
               · rfl
               · rfl
               · rfl
               intro y99 hs))
          have HBZ : Hid (Below w.heap.size w y72) := HBW2.out.trans (HI7.out.bel.mono HBW2.out.size)
          exact bodyPost_ret (results_row_tmp (by rfl) _ _ g2 _ rfl (var_evB hs.blk HOZ.out)) rfl ⟨cz, by rw [HX3.out]; rfl, by rw [HE0.out, HCZ.out]; exact fun _ _ => EvB.zero _, HBZ.out.trans (hs.only.below HG2.out HBZ.out.size)⟩
        | some s =>
          have hokt := ((readS_iff _ _).1 hr).1.1
          have HOS : Hid (okS s) := hokt
          have HCR : Hid (Calls Tryd.prog 33 #[.slice a3 n3 c3] wr fun e w' => ∃ aS nS cS, e = .returned (.tuple #[.agg (sgC s (.slice aS nS cS)).toArray, .int .i64 0]) ∧ OwnB w' wr.heap.size (.slice aS nS cS) s.2 ∧ Below wr.heap.size wr w') := hres.mono fun e w' h => by
            obtain ⟨aS, nS, cS, h1, h2, _, h4⟩ := h
            rw [rdX, rdS, hr] at h1
            rw [rdS, hr] at h2
            exact ⟨aS, nS, cS, h1, h2, h4⟩
          have HRS2 : Hid (readSs (ts.take (k + 1)) = some (rs ++ [s])) := by show _ = _; rw [takeB_more HLT.out, ← HT.out]; exact readSs_some HRS.out hr
          clear hres hr hokt
          have tk40 : Hid True := trivial
          have tk41 : Hid True := trivial
          go_wp2_with (first
            | (clear tk40; go_at_call 33; refine (HCR.out).mono ?_; rintro e0 y71 ⟨aS, nS, cS, rfl, hov, hbz⟩
               clear ckk HCR
               replace HR2 : Hid (Blk y71 g2 cz 32) := HR2.out.below hbz HR2.out.lt
               have HOV : Hid (OwnB y71 (g6 + 1) (.slice aS nS cS) s.2) := hov.mono HI.out.row.lt
               replace HI : Hid (RrI y2 g6 n rs L y71) := HI.out.next hbz
               clear hbz hov)
            | (clear tk41; with_reducible refine wpSeq_storeRowS (.tmp 44) (.tmp 42) g6 k (L ++ zeroL (n - L.length)) s aS nS cS HI.out.row (by rw [HI.out.room]; exact hlt) HOS.out ?_ ?_ ?_ ?_ ?_
               · rfl
               · first | rfl | (simp [Act.eval]; done)
               · rfl
               · rfl
               intro y72 hrow hon
               have HI7 : Hid (RrI y2 g6 n (rs ++ [s]) (L ++ [(s, .slice aS nS cS)]) y72) := HI.out.put HLR.out hlt HOV.out hrow hon
               have HR7 : Hid (Blk y72 g2 cz 32) := HR2.out.only hon (by have h1 := HR20.out.lt; have h2 := HI.out.ge; omega)
               clear hrow hon HR2 HI HOV))
          go_roundw
          case rel => exact ⟨k + 1, _, _, by omega, by simp, by rw [HER0.out], HRS2, HI7⟩
          case measure => simp [intOf]; omega
theorem fkRead_any (v : Value) (b : Bs) (w : World) (hb : Reads w v b) :
    Calls Tryd.prog 13 #[v] w fun r w' => ∃ cs, r = .returned (.tuple #[.agg (cs : List Value).toArray, .int .i64 (readX b)]) ∧ EvB w' (readE b) cs ∧ Below w.heap.size w w' :=
  (fkRead_own v b w hb).mono fun _ _ ⟨cs, h1, h2, h3⟩ => ⟨cs, h1, h2.evB, h3⟩
set_option maxRecDepth 100000 in
set_option maxHeartbeats 8000000 in
theorem fkAccept_any (pin : List (BitVec 8)) (v : Value) (b : Bs) (w : World) (hK : KOk w) (hp : pin.length = 32) (hb : Reads w v b) :
    Calls Tryd.prog 16 #[.agg (cb pin).toArray, v] w fun r w' => r = .returned (.int .i64 (acceptF pin b)) ∧ Below w.heap.size w w' := by
  obtain ⟨ad, n, cp, hv⟩ := hb.form
  subst hv
  have HIP : Hid ((Tryd.prog.info? 23).map (·.size) = some (cb pin).length) := by show _ = _; rw [cb_len, hp]; exact info_digest
  obtain ⟨er, HER⟩ : ∃ t, Hid (t = readX b) := ⟨_, rfl⟩
  obtain ⟨ck, HCK⟩ : ∃ t, Hid (t = checkF pin (readE b)) := ⟨_, rfl⟩
  have HC1 : Hid (∀ W : World, Below w.heap.size w W → Calls Tryd.prog 13 #[.slice ad n cp] W fun r w' => ∃ cs, r = .returned (.tuple #[.agg (cs : List Value).toArray, .int .i64 er]) ∧ EvB w' (readE b) cs ∧ Below W.heap.size W w') := fun W hh => by rw [HER.out]; exact fkRead_any _ b W (hb.below hh)
  have HCC : Hid (∀ (W : World) (cs : List Value), Below w.heap.size w W → EvB W (readE b) cs → Calls Tryd.prog 11 #[.agg (cb pin).toArray, .agg cs.toArray] W fun r w' => r = .returned (.int .i64 ck) ∧ Below W.heap.size W w') := fun W cs hh hE => by rw [HCK.out]; exact fkCheck_any pin (readE b) cs W (hK.below hh hK.lt) hp hE (readE_len b)
  have HBW : Hid (Below w.heap.size w w) := Below.refl _ _
  clear hb hK hp
  by_cases her : er = 0
  case pos =>
    have qe : (er == 0) = true := by rw [beq_iff_eq]; exact her
    have pe : (er != 0) = false := by rw [bne, qe]; rfl
    have HZ : Hid (acceptF pin b = ck) := by show _ = _; rw [HCK.out]; exact accept_read (by rw [← HER.out]; exact her)
    clear her HCK
    go_enter Tryd.func16, Tryd.ntmps16
    have tk0 : Hid True := trivial
    have tk1 : Hid True := trivial
    have tk2 : Hid True := trivial
    have tk3 : Hid True := trivial
    have tk4 : Hid True := trivial
    have tk5 : Hid True := trivial
    have tk6 : Hid True := trivial
    go_wp2_with (first
      | (clear tk0; with_reducible refine wpSeq_boxW 23 (.tmp 0) (cb pin) ?_ ?_ ?_ ?_
         · rfl
         · rfl
         · rfl
         intro g2 y1 nn
         replace HBW : Hid (Below w.heap.size w y1) := HBW.out.trans (nn.below.mono HBW.out.size)
         have HG2 : Hid (Blk y1 g2 (cb pin) 23) := nn.blk
         clear nn
         skip)
      | (clear tk1; go_at_call 13; refine (HC1.out y1 HBW.out).mono ?_; rintro e y2 ⟨cs, rfl, heb, hbz⟩
         replace HG2 : Hid (Blk y2 g2 (cb pin) 23) := HG2.out.below hbz HG2.out.lt
         replace HBW : Hid (Below w.heap.size w y2) := HBW.out.trans (hbz.mono HBW.out.size)
         have HOE : Hid (EvOk (readE b) cs) := heb.ok
         have HEB : Hid (EvB y2 (readE b) cs) := heb
         clear hbz heb)
      | (clear tk2; with_reducible refine wpSeq_allocE ?_ ?_ ?_
         · rfl
         · rfl
         intro g5 y3 nn)
      | (clear tk3; with_reducible refine wpSeq_storeRow 32 (.tmp 5) (.tmp 10) g5 (evC zeroE (.slice none 0 0) (.slice none 0 0) (.slice none 0 0)) cs ?_ ?_ ?_ ?_ ?_ ?_ ?_ ?_ ?_
         · exact nn.blk
         · exact HOE.out.lz
         · exact HOE.out.info
         · exact HOE.out.one
         · rfl
         · rfl
         · rfl
         · rfl
         intro y4 hs
         have hbz := nn.below.trans (hs.only.below nn.ge nn.below.size)
         replace HG2 : Hid (Blk y4 g2 (cb pin) 23) := HG2.out.below hbz HG2.out.lt
         replace HEB : Hid (EvB y4 (readE b) cs) := HEB.out.below hbz
         replace HBW : Hid (Below w.heap.size w y4) := HBW.out.trans (hbz.mono HBW.out.size)
         have H5 : Hid (Blk y4 g5 cs 32) := hs.blk
         clear nn hs hbz)
      | (clear tk4; with_reducible refine wpSeq_loadW 23 (.tmp 2) g2 0 (cb pin) _ ?_ Tryd.underlying23 rfl ?_ ?_ ?_ ?_ ?_
         · exact HG2.out.range
         · exact HIP.out
         · rfl
         · rfl
         · rfl)
      | (clear tk5; with_reducible refine wpSeq_loadW 32 (.tmp 5) g5 0 cs _ ?_ Tryd.underlying32 rfl ?_ ?_ ?_ ?_ ?_
         · exact H5.out.range
         · exact HOE.out.info
         · rfl
         · rfl
         · rfl)
      | (clear tk6; go_at_call 11; refine (HCC.out y4 cs HBW.out HEB.out).mono ?_; rintro e y5 ⟨rfl, hbz⟩
         replace HG2 : Hid (Blk y5 g2 (cb pin) 23) := HG2.out.below hbz HG2.out.lt
         replace H5 : Hid (Blk y5 g5 cs 32) := H5.out.below hbz H5.out.lt
         replace HEB : Hid (EvB y5 (readE b) cs) := HEB.out.below hbz
         replace HBW : Hid (Below w.heap.size w y5) := HBW.out.trans (hbz.mono HBW.out.size)
         clear hbz ))
    go_ret
    exact ⟨by rw [HZ.out]; rfl, HBW.out⟩
  case neg =>
    have qe : (er == 0) = false := by rw [beq_eq_false_iff_ne]; exact her
    have pe : (er != 0) = true := by rw [bne, qe]; rfl
    have HZ : Hid (acceptF pin b = er) := by show _ = _; rw [HER.out]; exact accept_none (by rw [← HER.out]; exact her)
    clear her HCK
    go_enter Tryd.func16, Tryd.ntmps16
    have tk0 : Hid True := trivial
    have tk1 : Hid True := trivial
    have tk2 : Hid True := trivial
    have tk3 : Hid True := trivial
    go_wp2_with (first
      | (clear tk0; with_reducible refine wpSeq_boxW 23 (.tmp 0) (cb pin) ?_ ?_ ?_ ?_
         · rfl
         · rfl
         · rfl
         intro g2 y1 nn
         replace HBW : Hid (Below w.heap.size w y1) := HBW.out.trans (nn.below.mono HBW.out.size)
         have HG2 : Hid (Blk y1 g2 (cb pin) 23) := nn.blk
         clear nn
         skip)
      | (clear tk1; go_at_call 13; refine (HC1.out y1 HBW.out).mono ?_; rintro e y2 ⟨cs, rfl, heb, hbz⟩
         replace HG2 : Hid (Blk y2 g2 (cb pin) 23) := HG2.out.below hbz HG2.out.lt
         replace HBW : Hid (Below w.heap.size w y2) := HBW.out.trans (hbz.mono HBW.out.size)
         have HOE : Hid (EvOk (readE b) cs) := heb.ok
         have HEB : Hid (EvB y2 (readE b) cs) := heb
         clear hbz heb)
      | (clear tk2; with_reducible refine wpSeq_allocE ?_ ?_ ?_
         · rfl
         · rfl
         intro g5 y3 nn)
      | (clear tk3; with_reducible refine wpSeq_storeRow 32 (.tmp 5) (.tmp 10) g5 (evC zeroE (.slice none 0 0) (.slice none 0 0) (.slice none 0 0)) cs ?_ ?_ ?_ ?_ ?_ ?_ ?_ ?_ ?_
         · exact nn.blk
         · exact HOE.out.lz
         · exact HOE.out.info
         · exact HOE.out.one
         · rfl
         · rfl
         · rfl
         · rfl
         intro y4 hs
         have hbz := nn.below.trans (hs.only.below nn.ge nn.below.size)
         replace HG2 : Hid (Blk y4 g2 (cb pin) 23) := HG2.out.below hbz HG2.out.lt
         replace HEB : Hid (EvB y4 (readE b) cs) := HEB.out.below hbz
         replace HBW : Hid (Below w.heap.size w y4) := HBW.out.trans (hbz.mono HBW.out.size)
         have H5 : Hid (Blk y4 g5 cs 32) := hs.blk
         clear nn hs hbz))
    go_ret
    exact ⟨by rw [HZ.out]; rfl, HBW.out⟩
end Go.Proofs.YtableajopaappaaDoor
/- The walk of the reference's Same (layer 12). -/
namespace Go.Proofs.YtableajopaappaaDoor
open Go.RowKit Go.Shelf
set_option maxRecDepth 100000
structure SmI (w : World) (g2 g3 : Nat) (c2 c3 : List Value) (W : World) : Prop where
  a : Blk W g2 c2 32
  b : Blk W g3 c3 32
  bel : Below w.heap.size w W
theorem SmI.next {w : World} {g2 g3 : Nat} {c2 c3 : List Value} {W W' : World} (h : SmI w g2 g3 c2 c3 W) (hb : Below W.heap.size W W') : SmI w g2 g3 c2 c3 W' := ⟨h.a.below hb h.a.lt, h.b.below hb h.b.lt, h.bel.trans (hb.mono h.bel.size)⟩
theorem SmI.drew {w : World} {g2 g3 : Nat} {c2 c3 : List Value} {W : World} (h : SmI w g2 g3 c2 c3 W) : SmI w g2 g3 c2 c3 W.drew := h.next (Below.refl _ _).drew
/-- the same evidence or not -/
def sameE (e f : EvT) : Bool := decide (e.1 = f.1) && decide (e.2.1 = f.2.1) && decide (e.2.2 = f.2.2)
theorem sameE_iff (e f : EvT) : sameE e f = true ↔ e = f := by
  obtain ⟨t, a, b⟩ := e
  obtain ⟨u, c, d⟩ := f
  unfold sameE
  simp only [decide_eq_true_eq, Bool.and_eq_true]
  constructor
  · rintro ⟨⟨h1, h2⟩, h3⟩; rw [h1, h2, h3]
  · intro h; simp only [Prod.mk.injEq] at h; exact ⟨⟨h.1, h.2.1⟩, h.2.2⟩
theorem same_ev (e f : EvT) : sameE e f = (decide (e.1.length = f.1.length) && decide (e.2.1 = f.2.1) && decide (e.2.2 = f.2.2) && decide (e.1 = f.1)) := by
  unfold sameE
  rw [Bool.eq_iff_iff]
  simp only [decide_eq_true_eq, Bool.and_eq_true]
  constructor
  · rintro ⟨⟨h1, h2⟩, h3⟩; exact ⟨⟨⟨by rw [h1], h2⟩, h3⟩, h1⟩
  · rintro ⟨⟨⟨_, h1⟩, h2⟩, h3⟩; exact ⟨⟨h3, h1⟩, h2⟩
set_option maxRecDepth 100000 in
set_option maxHeartbeats 8000000 in
theorem qfSame_any (e f : EvT) (cs ds : List Value) (w : World) (hE : EvB w e cs) (hF : EvB w f ds) (hn : e.1.length < 1000000) :
    Calls Tryd.prog 15 #[.agg cs.toArray, .agg ds.toArray] w fun r w' => r = .returned (.bool (sameE e f)) ∧ Below w.heap.size w w' := by
  obtain ⟨vt, va, vb, hcs, he⟩ := hE.open
  subst hcs
  obtain ⟨vt2, va2, vb2, hcs, he2⟩ := hF.open
  subst hcs
  obtain ⟨adt, ct, hvt⟩ := he.tr.form
  obtain ⟨ada, na, ca, hva⟩ := he.a.form
  obtain ⟨adb, nb, cc, hvb⟩ := he.b.form
  obtain ⟨nt, HNT⟩ : ∃ n, Hid (n = e.1.length) := ⟨_, rfl⟩
  rw [← HNT.out] at hvt
  subst hvt hva hvb
  obtain ⟨cev, HCE⟩ : ∃ c, Hid (c = evC e (.slice adt nt ct) (.slice ada na ca) (.slice adb nb cc)) := ⟨_, rfl⟩
  rw [← HCE.out]
  have HEV : Hid (EvIs w e (.slice adt nt ct) (.slice ada na ca) (.slice adb nb cc)) := he
  have HIE : Hid ((Tryd.prog.info? 32).map (·.size) = some cev.length) := by show _ = _; rw [HCE.out]; exact info_evC he.oa he.ob _ _ _
  have HAT : Hid (∀ (W : World) (g : Nat), Blk W g cev 32 → EvAt W g 0 e (.slice adt nt ct) (.slice ada na ca) (.slice adb nb cc)) := fun W g hg => by rw [HCE.out] at hg; exact hg.evAt HEV.out.oa HEV.out.ob
  obtain ⟨csa, HSA⟩ : ∃ c, Hid (c = sgC e.2.1 (.slice ada na ca)) := ⟨_, rfl⟩
  obtain ⟨csb, HSB⟩ : ∃ c, Hid (c = sgC e.2.2 (.slice adb nb cc)) := ⟨_, rfl⟩
  have HIS : Hid ((Tryd.prog.info? 30).map (·.size) = some csa.length ∧ (Tryd.prog.info? 30).map (·.size) = some csb.length) := by rw [HSA.out, HSB.out]; exact ⟨info_sgC HEV.out.oa _, info_sgC HEV.out.ob _⟩
  have HRG : Hid (∀ (W : World) (g : Nat), Blk W g cev 32 → W.rangeAt g 1 csa ∧ W.rangeAt g 99 csb) := fun W g hg => by rw [HSA.out, HSB.out]; have h := HAT.out W g hg; refine ⟨?_, ?_⟩; have := h.a.all; rwa [Nat.zero_add] at this; have := h.b.all; rwa [Nat.zero_add] at this
  clear he
  obtain ⟨adt2, ct2, hvt2⟩ := he2.tr.form
  obtain ⟨ada2, na2, ca2, hva2⟩ := he2.a.form
  obtain ⟨adb2, nb2, cc2, hvb2⟩ := he2.b.form
  obtain ⟨nt2, HNT2⟩ : ∃ n, Hid (n = f.1.length) := ⟨_, rfl⟩
  rw [← HNT2.out] at hvt2
  subst hvt2 hva2 hvb2
  obtain ⟨cev2, HCE2⟩ : ∃ c, Hid (c = evC f (.slice adt2 nt2 ct2) (.slice ada2 na2 ca2) (.slice adb2 nb2 cc2)) := ⟨_, rfl⟩
  rw [← HCE2.out]
  have HEV2 : Hid (EvIs w f (.slice adt2 nt2 ct2) (.slice ada2 na2 ca2) (.slice adb2 nb2 cc2)) := he2
  have HIE2 : Hid ((Tryd.prog.info? 32).map (·.size) = some cev2.length) := by show _ = _; rw [HCE2.out]; exact info_evC he2.oa he2.ob _ _ _
  have HAT2 : Hid (∀ (W : World) (g : Nat), Blk W g cev2 32 → EvAt W g 0 f (.slice adt2 nt2 ct2) (.slice ada2 na2 ca2) (.slice adb2 nb2 cc2)) := fun W g hg => by rw [HCE2.out] at hg; exact hg.evAt HEV2.out.oa HEV2.out.ob
  obtain ⟨csa2, HSA2⟩ : ∃ c, Hid (c = sgC f.2.1 (.slice ada2 na2 ca2)) := ⟨_, rfl⟩
  obtain ⟨csb2, HSB2⟩ : ∃ c, Hid (c = sgC f.2.2 (.slice adb2 nb2 cc2)) := ⟨_, rfl⟩
  have HIS2 : Hid ((Tryd.prog.info? 30).map (·.size) = some csa2.length ∧ (Tryd.prog.info? 30).map (·.size) = some csb2.length) := by rw [HSA2.out, HSB2.out]; exact ⟨info_sgC HEV2.out.oa _, info_sgC HEV2.out.ob _⟩
  have HRG2 : Hid (∀ (W : World) (g : Nat), Blk W g cev2 32 → W.rangeAt g 1 csa2 ∧ W.rangeAt g 99 csb2) := fun W g hg => by rw [HSA2.out, HSB2.out]; have h := HAT2.out W g hg; refine ⟨?_, ?_⟩; have := h.a.all; rwa [Nat.zero_add] at this; have := h.b.all; rwa [Nat.zero_add] at this
  clear he2
  have HNL : Hid (nt < 1000000) := by show _ < _; rw [HNT.out]; exact hn
  have HBW : Hid (Below w.heap.size w w) := Below.refl _ _
  obtain ⟨rA, HRA⟩ : ∃ r, Hid (r = decide (e.2.1 = f.2.1)) := ⟨_, rfl⟩
  obtain ⟨rB, HRB⟩ : ∃ r, Hid (r = decide (e.2.2 = f.2.2)) := ⟨_, rfl⟩
  obtain ⟨R, HR⟩ : ∃ r, Hid (r = sameE e f) := ⟨_, rfl⟩
  have HRR : Hid (R = (decide (nt = nt2) && rA && rB && decide (e.1 = f.1))) := by show _ = _; rw [HR.out, HRA.out, HRB.out, HNT.out, HNT2.out]; exact same_ev e f
  have HCA : Hid (∀ W : World, Below w.heap.size w W → Calls Tryd.prog 37 #[.agg csa.toArray, .agg csa2.toArray] W fun r w' => r = .returned (.bool rA) ∧ Below W.heap.size W w') := fun W hh => by rw [HSA.out, HSA2.out, HRA.out]; exact sameSg_any _ _ _ _ W HEV.out.oa HEV2.out.oa (HEV.out.a.below hh) (HEV2.out.a.below hh)
  have HCB : Hid (∀ W : World, Below w.heap.size w W → Calls Tryd.prog 37 #[.agg csb.toArray, .agg csb2.toArray] W fun r w' => r = .returned (.bool rB) ∧ Below W.heap.size W w') := fun W hh => by rw [HSB.out, HSB2.out, HRB.out]; exact sameSg_any _ _ _ _ W HEV.out.ob HEV2.out.ob (HEV.out.b.below hh) (HEV2.out.b.below hh)
  rw [← HR.out]
  clear hn hE hF HRA HRB HR
  by_cases hnn : nt = nt2
  case neg =>
    have q1 : ((nt : Int) == (nt2 : Int)) = false := by rw [beq_eq_false_iff_ne]; omega
    have p1 : ((nt : Int) != (nt2 : Int)) = true := by rw [bne, q1]; rfl
    have HZ : Hid (R = false) := by show _ = _; rw [HRR.out, decide_eq_false hnn]; rfl
    clear hnn
    go_enter Tryd.func15, Tryd.ntmps15
    have tk0 : Hid True := trivial
    have tk1 : Hid True := trivial
    go_wp2_with (first
      | (clear tk0; with_reducible refine wpSeq_boxW 32 (.tmp 0) cev ?_ ?_ ?_ ?_
         · rfl
         · rfl
         · rfl
         intro g2 y1 nn
         replace HBW : Hid (Below w.heap.size w y1) := HBW.out.trans (nn.below.mono HBW.out.size)
         have HG2 : Hid (Blk y1 g2 cev 32) := nn.blk
         clear nn
         have cet : (y1).cell? ⟨g2, 0, none⟩ = some (.slice adt nt ct) := (HAT.out _ _ HG2.out).tr
         skip)
      | (clear tk1; with_reducible refine wpSeq_boxW 32 (.tmp 1) cev2 ?_ ?_ ?_ ?_
         · rfl
         · rfl
         · rfl
         intro g3 y2 nn
         clear cet
         replace HG2 : Hid (Blk y2 g2 cev 32) := HG2.out.below nn.below HG2.out.lt
         replace HBW : Hid (Below w.heap.size w y2) := HBW.out.trans (nn.below.mono HBW.out.size)
         have cet : (y2).cell? ⟨g2, 0, none⟩ = some (.slice adt nt ct) := (HAT.out _ _ HG2.out).tr
         have HG3 : Hid (Blk y2 g3 cev2 32) := nn.blk
         clear nn
         have cet2 : (y2).cell? ⟨g3, 0, none⟩ = some (.slice adt2 nt2 ct2) := (HAT2.out _ _ HG3.out).tr
         skip))
    go_ret
    exact ⟨by rw [HZ.out]; rfl, HBW.out⟩
  case pos =>
    have q1 : ((nt : Int) == (nt2 : Int)) = true := by rw [beq_iff_eq]; omega
    have p1 : ((nt : Int) != (nt2 : Int)) = false := by rw [bne, q1]; rfl
    cases rA with
    | false =>
      have HZ : Hid (R = false) := by show _ = _; rw [HRR.out, decide_eq_true hnn]; rfl
      clear hnn
      go_enter Tryd.func15, Tryd.ntmps15
      have tk0 : Hid True := trivial
      have tk1 : Hid True := trivial
      have tk2 : Hid True := trivial
      have tk3 : Hid True := trivial
      have tk4 : Hid True := trivial
      go_wp2_with (first
        | (clear tk0; with_reducible refine wpSeq_boxW 32 (.tmp 0) cev ?_ ?_ ?_ ?_
           · rfl
           · rfl
           · rfl
           intro g2 y1 nn
           replace HBW : Hid (Below w.heap.size w y1) := HBW.out.trans (nn.below.mono HBW.out.size)
           have HG2 : Hid (Blk y1 g2 cev 32) := nn.blk
           clear nn
           have cet : (y1).cell? ⟨g2, 0, none⟩ = some (.slice adt nt ct) := (HAT.out _ _ HG2.out).tr
           skip)
        | (clear tk1; with_reducible refine wpSeq_boxW 32 (.tmp 1) cev2 ?_ ?_ ?_ ?_
           · rfl
           · rfl
           · rfl
           intro g3 y2 nn
           clear cet
           replace HG2 : Hid (Blk y2 g2 cev 32) := HG2.out.below nn.below HG2.out.lt
           replace HBW : Hid (Below w.heap.size w y2) := HBW.out.trans (nn.below.mono HBW.out.size)
           have cet : (y2).cell? ⟨g2, 0, none⟩ = some (.slice adt nt ct) := (HAT.out _ _ HG2.out).tr
           have HG3 : Hid (Blk y2 g3 cev2 32) := nn.blk
           clear nn
           have cet2 : (y2).cell? ⟨g3, 0, none⟩ = some (.slice adt2 nt2 ct2) := (HAT2.out _ _ HG3.out).tr
           skip)
        | (clear tk2; with_reducible refine wpSeq_loadW 30 (.tmp 14) g2 1 csa _ ?_ Tryd.underlying30 rfl ?_ ?_ ?_ ?_ ?_
           · exact (HRG.out _ _ HG2.out).1
           · exact HIS.out.1
           · rfl
           · rfl
           · rfl)
        | (clear tk3; with_reducible refine wpSeq_loadW 30 (.tmp 16) g3 1 csa2 _ ?_ Tryd.underlying30 rfl ?_ ?_ ?_ ?_ ?_
           · exact (HRG2.out _ _ HG3.out).1
           · exact HIS2.out.1
           · rfl
           · rfl
           · rfl)
        | (clear tk4; go_at_call 37; refine (HCA.out y2 HBW.out).mono ?_; rintro e y3 ⟨rfl, hbz⟩
           clear cet
           clear cet2
           replace HG2 : Hid (Blk y3 g2 cev 32) := HG2.out.below hbz HG2.out.lt
           replace HG3 : Hid (Blk y3 g3 cev2 32) := HG3.out.below hbz HG3.out.lt
           replace HBW : Hid (Below w.heap.size w y3) := HBW.out.trans (hbz.mono HBW.out.size)
           have cet : (y3).cell? ⟨g2, 0, none⟩ = some (.slice adt nt ct) := (HAT.out _ _ HG2.out).tr
           have cet2 : (y3).cell? ⟨g3, 0, none⟩ = some (.slice adt2 nt2 ct2) := (HAT2.out _ _ HG3.out).tr
           clear hbz ))
      go_ret
      exact ⟨by rw [HZ.out]; rfl, HBW.out⟩
    | true =>
      cases rB with
      | false =>
        have HZ : Hid (R = false) := by show _ = _; rw [HRR.out, decide_eq_true hnn]; rfl
        clear hnn
        go_enter Tryd.func15, Tryd.ntmps15
        have tk0 : Hid True := trivial
        have tk1 : Hid True := trivial
        have tk2 : Hid True := trivial
        have tk3 : Hid True := trivial
        have tk4 : Hid True := trivial
        have tk5 : Hid True := trivial
        have tk6 : Hid True := trivial
        have tk7 : Hid True := trivial
        go_wp2_with (first
          | (clear tk0; with_reducible refine wpSeq_boxW 32 (.tmp 0) cev ?_ ?_ ?_ ?_
             · rfl
             · rfl
             · rfl
             intro g2 y1 nn
             replace HBW : Hid (Below w.heap.size w y1) := HBW.out.trans (nn.below.mono HBW.out.size)
             have HG2 : Hid (Blk y1 g2 cev 32) := nn.blk
             clear nn
             have cet : (y1).cell? ⟨g2, 0, none⟩ = some (.slice adt nt ct) := (HAT.out _ _ HG2.out).tr
             skip)
          | (clear tk1; with_reducible refine wpSeq_boxW 32 (.tmp 1) cev2 ?_ ?_ ?_ ?_
             · rfl
             · rfl
             · rfl
             intro g3 y2 nn
             clear cet
             replace HG2 : Hid (Blk y2 g2 cev 32) := HG2.out.below nn.below HG2.out.lt
             replace HBW : Hid (Below w.heap.size w y2) := HBW.out.trans (nn.below.mono HBW.out.size)
             have cet : (y2).cell? ⟨g2, 0, none⟩ = some (.slice adt nt ct) := (HAT.out _ _ HG2.out).tr
             have HG3 : Hid (Blk y2 g3 cev2 32) := nn.blk
             clear nn
             have cet2 : (y2).cell? ⟨g3, 0, none⟩ = some (.slice adt2 nt2 ct2) := (HAT2.out _ _ HG3.out).tr
             skip)
          | (clear tk2; with_reducible refine wpSeq_loadW 30 (.tmp 14) g2 1 csa _ ?_ Tryd.underlying30 rfl ?_ ?_ ?_ ?_ ?_
             · exact (HRG.out _ _ HG2.out).1
             · exact HIS.out.1
             · rfl
             · rfl
             · rfl)
          | (clear tk3; with_reducible refine wpSeq_loadW 30 (.tmp 16) g3 1 csa2 _ ?_ Tryd.underlying30 rfl ?_ ?_ ?_ ?_ ?_
             · exact (HRG2.out _ _ HG3.out).1
             · exact HIS2.out.1
             · rfl
             · rfl
             · rfl)
          | (clear tk4; go_at_call 37; refine (HCA.out y2 HBW.out).mono ?_; rintro e y3 ⟨rfl, hbz⟩
             clear cet
             clear cet2
             replace HG2 : Hid (Blk y3 g2 cev 32) := HG2.out.below hbz HG2.out.lt
             replace HG3 : Hid (Blk y3 g3 cev2 32) := HG3.out.below hbz HG3.out.lt
             replace HBW : Hid (Below w.heap.size w y3) := HBW.out.trans (hbz.mono HBW.out.size)
             have cet : (y3).cell? ⟨g2, 0, none⟩ = some (.slice adt nt ct) := (HAT.out _ _ HG2.out).tr
             have cet2 : (y3).cell? ⟨g3, 0, none⟩ = some (.slice adt2 nt2 ct2) := (HAT2.out _ _ HG3.out).tr
             clear hbz )
          | (clear tk5; with_reducible refine wpSeq_loadW 30 (.tmp 22) g2 99 csb _ ?_ Tryd.underlying30 rfl ?_ ?_ ?_ ?_ ?_
             · exact (HRG.out _ _ HG2.out).2
             · exact HIS.out.2
             · rfl
             · rfl
             · rfl)
          | (clear tk6; with_reducible refine wpSeq_loadW 30 (.tmp 24) g3 99 csb2 _ ?_ Tryd.underlying30 rfl ?_ ?_ ?_ ?_ ?_
             · exact (HRG2.out _ _ HG3.out).2
             · exact HIS2.out.2
             · rfl
             · rfl
             · rfl)
          | (clear tk7; go_at_call 37; refine (HCB.out y3 HBW.out).mono ?_; rintro e y4 ⟨rfl, hbz⟩
             clear cet
             clear cet2
             replace HG2 : Hid (Blk y4 g2 cev 32) := HG2.out.below hbz HG2.out.lt
             replace HG3 : Hid (Blk y4 g3 cev2 32) := HG3.out.below hbz HG3.out.lt
             replace HBW : Hid (Below w.heap.size w y4) := HBW.out.trans (hbz.mono HBW.out.size)
             have cet : (y4).cell? ⟨g2, 0, none⟩ = some (.slice adt nt ct) := (HAT.out _ _ HG2.out).tr
             have cet2 : (y4).cell? ⟨g3, 0, none⟩ = some (.slice adt2 nt2 ct2) := (HAT2.out _ _ HG3.out).tr
             clear hbz ))
        go_ret
        exact ⟨by rw [HZ.out]; rfl, HBW.out⟩
      | true =>
        have HRL : Hid (R = decide (e.1 = f.1)) := by show _ = _; rw [HRR.out, decide_eq_true hnn]; rfl
        have HNN : Hid (nt = nt2) := hnn
        clear hnn HRR
        go_enter Tryd.func15, Tryd.ntmps15
        have tk0 : Hid True := trivial
        have tk1 : Hid True := trivial
        have tk2 : Hid True := trivial
        have tk3 : Hid True := trivial
        have tk4 : Hid True := trivial
        have tk5 : Hid True := trivial
        have tk6 : Hid True := trivial
        have tk7 : Hid True := trivial
        go_wp2_with (first
          | (clear tk0; with_reducible refine wpSeq_boxW 32 (.tmp 0) cev ?_ ?_ ?_ ?_
             · rfl
             · rfl
             · rfl
             intro g2 y1 nn
             replace HBW : Hid (Below w.heap.size w y1) := HBW.out.trans (nn.below.mono HBW.out.size)
             have HG2 : Hid (Blk y1 g2 cev 32) := nn.blk
             clear nn
             have cet : (y1).cell? ⟨g2, 0, none⟩ = some (.slice adt nt ct) := (HAT.out _ _ HG2.out).tr
             skip)
          | (clear tk1; with_reducible refine wpSeq_boxW 32 (.tmp 1) cev2 ?_ ?_ ?_ ?_
             · rfl
             · rfl
             · rfl
             intro g3 y2 nn
             clear cet
             replace HG2 : Hid (Blk y2 g2 cev 32) := HG2.out.below nn.below HG2.out.lt
             replace HBW : Hid (Below w.heap.size w y2) := HBW.out.trans (nn.below.mono HBW.out.size)
             have cet : (y2).cell? ⟨g2, 0, none⟩ = some (.slice adt nt ct) := (HAT.out _ _ HG2.out).tr
             have HG3 : Hid (Blk y2 g3 cev2 32) := nn.blk
             clear nn
             have cet2 : (y2).cell? ⟨g3, 0, none⟩ = some (.slice adt2 nt2 ct2) := (HAT2.out _ _ HG3.out).tr
             skip)
          | (clear tk2; with_reducible refine wpSeq_loadW 30 (.tmp 14) g2 1 csa _ ?_ Tryd.underlying30 rfl ?_ ?_ ?_ ?_ ?_
             · exact (HRG.out _ _ HG2.out).1
             · exact HIS.out.1
             · rfl
             · rfl
             · rfl)
          | (clear tk3; with_reducible refine wpSeq_loadW 30 (.tmp 16) g3 1 csa2 _ ?_ Tryd.underlying30 rfl ?_ ?_ ?_ ?_ ?_
             · exact (HRG2.out _ _ HG3.out).1
             · exact HIS2.out.1
             · rfl
             · rfl
             · rfl)
          | (clear tk4; go_at_call 37; refine (HCA.out y2 HBW.out).mono ?_; rintro e y3 ⟨rfl, hbz⟩
             clear cet
             clear cet2
             replace HG2 : Hid (Blk y3 g2 cev 32) := HG2.out.below hbz HG2.out.lt
             replace HG3 : Hid (Blk y3 g3 cev2 32) := HG3.out.below hbz HG3.out.lt
             replace HBW : Hid (Below w.heap.size w y3) := HBW.out.trans (hbz.mono HBW.out.size)
             have cet : (y3).cell? ⟨g2, 0, none⟩ = some (.slice adt nt ct) := (HAT.out _ _ HG2.out).tr
             have cet2 : (y3).cell? ⟨g3, 0, none⟩ = some (.slice adt2 nt2 ct2) := (HAT2.out _ _ HG3.out).tr
             clear hbz )
          | (clear tk5; with_reducible refine wpSeq_loadW 30 (.tmp 22) g2 99 csb _ ?_ Tryd.underlying30 rfl ?_ ?_ ?_ ?_ ?_
             · exact (HRG.out _ _ HG2.out).2
             · exact HIS.out.2
             · rfl
             · rfl
             · rfl)
          | (clear tk6; with_reducible refine wpSeq_loadW 30 (.tmp 24) g3 99 csb2 _ ?_ Tryd.underlying30 rfl ?_ ?_ ?_ ?_ ?_
             · exact (HRG2.out _ _ HG3.out).2
             · exact HIS2.out.2
             · rfl
             · rfl
             · rfl)
          | (clear tk7; go_at_call 37; refine (HCB.out y3 HBW.out).mono ?_; rintro e y4 ⟨rfl, hbz⟩
             clear cet
             clear cet2
             replace HG2 : Hid (Blk y4 g2 cev 32) := HG2.out.below hbz HG2.out.lt
             replace HG3 : Hid (Blk y4 g3 cev2 32) := HG3.out.below hbz HG3.out.lt
             replace HBW : Hid (Below w.heap.size w y4) := HBW.out.trans (hbz.mono HBW.out.size)
             have cet : (y4).cell? ⟨g2, 0, none⟩ = some (.slice adt nt ct) := (HAT.out _ _ HG2.out).tr
             have cet2 : (y4).cell? ⟨g3, 0, none⟩ = some (.slice adt2 nt2 ct2) := (HAT2.out _ _ HG3.out).tr
             clear hbz ))
        have HI0 : Hid (SmI w g2 g3 cev cev2 y4) := ⟨HG2.out, HG3.out, HBW.out⟩
        clear HG2 HG3 HBW cet cet2 q1 p1
        go_loopw [5] (fun i wr => ∃ (k : Nat), k ≤ nt ∧ i = .int .i64 (k : Int) ∧ Hid (e.1.take k = f.1.take k) ∧ Hid (SmI w g2 g3 cev cev2 wr)) (fun i _ => nt - (intOf i).toNat)
        case atStart => exact ⟨0, by omega, rfl, rfl, HI0⟩
        case round =>
          obtain ⟨k, hkn, rfl, HTK, HI⟩ := hrel
          clear HI0
          have cet : wr.cell? ⟨g2, 0, none⟩ = some (.slice adt nt ct) := (HAT.out _ _ HI.out.a).tr
          by_cases hlt : k < nt
          case neg =>
            have hlk : ¬ ((k : Int) < (nt : Int)) := by omega
            have HZ : Hid (R = true) := by
              have h := HTK.out
              have hkt : k = nt := by omega
              rw [List.take_of_length_le (by rw [← HNT.out]; omega), List.take_of_length_le (by rw [← HNT2.out, ← HNN.out]; omega)] at h
              show _ = _
              rw [HRL.out, decide_eq_true h]
            go_wp2
            go_ret
            exact ⟨by rw [HZ.out]; rfl, HI.out.bel⟩
          case pos =>
            have hlk : (k : Int) < (nt : Int) := by omega
            have f5 : IntKind.i64.wrap ((k : Int) + 1) = (k : Int) + 1 := by rw [IntKind.wrap_i64]; have := HNL.out; omega
            have hlt2 : k < nt2 := by rw [← HNN.out]; exact hlt
            have HL1 : Hid (k < e.1.length) := by show _ < _; rw [← HNT.out]; exact hlt
            have HL2 : Hid (k < f.1.length) := by show _ < _; rw [← HNT2.out]; exact hlt2
            obtain ⟨b1, o1, c1, hv1, hat1⟩ := HEV.out.tr.at (Nat.lt_of_le_of_lt (Nat.zero_le _) HL1.out)
            obtain ⟨b2, o2, c2, hv2, hat2⟩ := HEV2.out.tr.at (Nat.lt_of_le_of_lt (Nat.zero_le _) HL2.out)
            simp only [Value.slice.injEq] at hv1 hv2
            obtain ⟨rfl, hn1, rfl⟩ := hv1
            obtain ⟨rfl, hn2, rfl⟩ := hv2
            clear hn1 hn2
            obtain ⟨v1, hs1, hr1⟩ := hat1 k HL1.out
            obtain ⟨v2, hs2, hr2⟩ := hat2 k HL2.out
            obtain ⟨s, HS⟩ : ∃ s, Hid (s = e.1.getD k zeroS) := ⟨_, rfl⟩
            obtain ⟨t, HT⟩ : ∃ t, Hid (t = f.1.getD k zeroS) := ⟨_, rfl⟩
            rw [← HS.out] at hs1 hr1
            rw [← HT.out] at hs2 hr2
            obtain ⟨ck1, HK1⟩ : ∃ c, Hid (c = sgC s v1) := ⟨_, rfl⟩
            obtain ⟨ck2, HK2⟩ : ∃ c, Hid (c = sgC t v2) := ⟨_, rfl⟩
            have HR1 : Hid (∀ W : World, Below w.heap.size w W → W.rangeAt b1 (o1 + k * 98) ck1) := fun W hh => by rw [HK1.out]; exact (hs1.below hh (Nat.le_refl _)).all
            have HR2 : Hid (∀ W : World, Below w.heap.size w W → W.rangeAt b2 (o2 + k * 98) ck2) := fun W hh => by rw [HK2.out]; exact (hs2.below hh (Nat.le_refl _)).all
            have HI1 : Hid ((Tryd.prog.info? 30).map (·.size) = some ck1.length) := by show _ = _; rw [HK1.out]; exact info_sgC hs1.ok _
            have HI2 : Hid ((Tryd.prog.info? 30).map (·.size) = some ck2.length) := by show _ = _; rw [HK2.out]; exact info_sgC hs2.ok _
            obtain ⟨r, HRK⟩ : ∃ r, Hid (r = decide (s = t)) := ⟨_, rfl⟩
            have HCK : Hid (∀ W : World, Below w.heap.size w W → Calls Tryd.prog 37 #[.agg ck1.toArray, .agg ck2.toArray] W fun r' w' => r' = .returned (.bool r) ∧ Below W.heap.size W w') := fun W hh => by rw [HK1.out, HK2.out, HRK.out]; exact sameSg_any _ _ _ _ W hs1.ok hs2.ok (hr1.below hh) (hr2.below hh)
            clear hat1 hat2 hs1 hs2 hr1 hr2 HCA HCB
            go_wp2
            clear cet
            cases r with
            | false =>
              have HZ : Hid (R = false) := by
                show _ = _
                rw [HRL.out]
                refine decide_eq_false fun h => ?_
                have h2 : ¬ s = t := of_decide_eq_false HRK.out.symm
                exact h2 (by rw [HS.out, HT.out, h])
              refine wp_region_held_drew (S := Over (World.drew wr)) (by kernel_rfl) (Over.refl _) ?_
              intro hS
              replace HI : Hid (SmI w g2 g3 cev cev2 (World.drew wr)) := HI.out.drew
              change wpAnyH _ _ _ _ _ _ _ _ (World.drew wr)
              generalize World.drew wr = y0 at *
              try simp only [Act.put, List.setIfInBounds_toArray, List.set_cons_zero, List.set_cons_succ]
              refine wpAnyH_take (i := 0) (v := .pointer (some ⟨g2, 0, none⟩)) rfl (by kernel_rfl) (by kernel_rfl) (by kernel_rfl) (fun _ _ _ h => h) (Or.inl ⟨by rfl, fun wx hx => by simp [go_sem]⟩) hS ?_
              simp only [Act.put, List.getElem_toArray, List.getElem_cons_zero, List.setIfInBounds_toArray, List.set_cons_zero, List.set_cons_succ]
              refine wpAnyH_take (i := 1) (v := .slice (some ⟨b1, o1, none⟩) nt ct) rfl (by kernel_rfl) (by kernel_rfl) (by kernel_rfl) (fun _ _ _ h => h) (Or.inl ⟨by rfl, fun wx hx => by (have hc : wx.cell? ⟨g2, 0, none⟩ = some (.slice (some ⟨b1, o1, none⟩) nt ct) := (HAT.out _ _ (HI.out.next hx).a).tr); simp [go_sem, hc]⟩) hS ?_
              simp only [Act.put, List.getElem_toArray, List.getElem_cons_succ, List.getElem_cons_zero, List.setIfInBounds_toArray, List.set_cons_zero, List.set_cons_succ]
              refine wpAnyH_take (i := 2) (v := .int .i64 (k : Int)) rfl (by kernel_rfl) (by kernel_rfl) (by kernel_rfl) (fun _ _ _ h => h) (Or.inl ⟨by rfl, fun wx hx => by simp [go_sem]⟩) hS ?_
              simp only [Act.put, List.getElem_toArray, List.getElem_cons_succ, List.getElem_cons_zero, List.setIfInBounds_toArray, List.set_cons_zero, List.set_cons_succ]
              refine wpAnyH_take (i := 3) (v := .pointer (some ⟨b1, o1 + k * 98, none⟩)) rfl (by kernel_rfl) (by kernel_rfl) (by kernel_rfl) (fun _ _ _ h => h) (Or.inl ⟨by rfl, fun wx hx => by exact idx98 b1 o1 ct nt k hlt _ _ _ _ rfl rfl rfl _⟩) hS ?_
              simp only [Act.put, List.getElem_toArray, List.getElem_cons_succ, List.getElem_cons_zero, List.setIfInBounds_toArray, List.set_cons_zero, List.set_cons_succ]
              refine wpAnyH_take (i := 4) (v := .agg ck1.toArray) rfl (by kernel_rfl) (by kernel_rfl) (by kernel_rfl) (fun _ _ _ h => h) (Or.inl ⟨by rfl, fun wx hx => by exact load_run 30 _ rfl b1 (o1 + k * 98) rfl ck1 _ (HR1.out _ (HI.out.next hx).bel) Tryd.underlying30 rfl HI1.out⟩) hS ?_
              simp only [Act.put, List.getElem_toArray, List.getElem_cons_succ, List.getElem_cons_zero, List.setIfInBounds_toArray, List.set_cons_zero, List.set_cons_succ]
              refine wpAnyH_take (i := 5) (v := .pointer (some ⟨g3, 0, none⟩)) rfl (by kernel_rfl) (by kernel_rfl) (by kernel_rfl) (fun _ _ _ h => h) (Or.inl ⟨by rfl, fun wx hx => by simp [go_sem]⟩) hS ?_
              simp only [Act.put, List.getElem_toArray, List.getElem_cons_succ, List.getElem_cons_zero, List.setIfInBounds_toArray, List.set_cons_zero, List.set_cons_succ]
              refine wpAnyH_take (i := 6) (v := .slice (some ⟨b2, o2, none⟩) nt2 ct2) rfl (by kernel_rfl) (by kernel_rfl) (by kernel_rfl) (fun _ _ _ h => h) (Or.inl ⟨by rfl, fun wx hx => by (have hc : wx.cell? ⟨g3, 0, none⟩ = some (.slice (some ⟨b2, o2, none⟩) nt2 ct2) := (HAT2.out _ _ (HI.out.next hx).b).tr); simp [go_sem, hc]⟩) hS ?_
              simp only [Act.put, List.getElem_toArray, List.getElem_cons_succ, List.getElem_cons_zero, List.setIfInBounds_toArray, List.set_cons_zero, List.set_cons_succ]
              refine wpAnyH_take (i := 7) (v := .int .i64 (k : Int)) rfl (by kernel_rfl) (by kernel_rfl) (by kernel_rfl) (fun _ _ _ h => h) (Or.inl ⟨by rfl, fun wx hx => by simp [go_sem]⟩) hS ?_
              simp only [Act.put, List.getElem_toArray, List.getElem_cons_succ, List.getElem_cons_zero, List.setIfInBounds_toArray, List.set_cons_zero, List.set_cons_succ]
              refine wpAnyH_take (i := 8) (v := .pointer (some ⟨b2, o2 + k * 98, none⟩)) rfl (by kernel_rfl) (by kernel_rfl) (by kernel_rfl) (fun _ _ _ h => h) (Or.inl ⟨by rfl, fun wx hx => by exact idx98 b2 o2 ct2 nt2 k hlt2 _ _ _ _ rfl rfl rfl _⟩) hS ?_
              simp only [Act.put, List.getElem_toArray, List.getElem_cons_succ, List.getElem_cons_zero, List.setIfInBounds_toArray, List.set_cons_zero, List.set_cons_succ]
              refine wpAnyH_take (i := 9) (v := .agg ck2.toArray) rfl (by kernel_rfl) (by kernel_rfl) (by kernel_rfl) (fun _ _ _ h => h) (Or.inl ⟨by rfl, fun wx hx => by exact load_run 30 _ rfl b2 (o2 + k * 98) rfl ck2 _ (HR2.out _ (HI.out.next hx).bel) Tryd.underlying30 rfl HI2.out⟩) hS ?_
              simp only [Act.put, List.getElem_toArray, List.getElem_cons_succ, List.getElem_cons_zero, List.setIfInBounds_toArray, List.set_cons_zero, List.set_cons_succ]
              refine wpAnyH_enter 10 (by kernel_rfl) rfl (by rfl) (f := 37) (args := #[.agg ck1.toArray, .agg ck2.toArray]) (by simp [go_sem]) (HCK.out _ (HI.out.next hS).bel) ?_
              rintro e z1 ⟨rfl, hb⟩
              replace hS := Over.more hS hb
              refine ⟨_, rfl, hS, ?_⟩
              clear hb 
              simp only [Act.put, List.getElem_toArray, List.getElem_cons_succ, List.getElem_cons_zero, List.setIfInBounds_toArray, List.set_cons_zero, List.set_cons_succ]
              refine wpAnyH_take (i := 11) (v := .bool true) rfl (by kernel_rfl) (by kernel_rfl) (by kernel_rfl) (fun _ _ _ h => h) (Or.inl ⟨by rfl, fun wx hx => by simp [go_sem]⟩) hS ?_
              simp only [Act.put, List.getElem_toArray, List.getElem_cons_succ, List.getElem_cons_zero, List.setIfInBounds_toArray, List.set_cons_zero, List.set_cons_succ]
              refine wpAnyH_done (by kernel_rfl) ?_ _
              go_wp2
              go_ret
              exact ⟨by rw [HZ.out]; rfl, (HI.out.next hS).bel⟩
            | true =>
              have HT2 : Hid (e.1.take (k + 1) = f.1.take (k + 1)) := by
                show _ = _
                rw [take_more HL1.out, take_more HL2.out, HTK.out, ← HS.out, ← HT.out, of_decide_eq_true HRK.out.symm]
              refine wp_region_held_drew (S := Over (World.drew wr)) (by kernel_rfl) (Over.refl _) ?_
              intro hS
              replace HI : Hid (SmI w g2 g3 cev cev2 (World.drew wr)) := HI.out.drew
              change wpAnyH _ _ _ _ _ _ _ _ (World.drew wr)
              generalize World.drew wr = y0 at *
              try simp only [Act.put, List.setIfInBounds_toArray, List.set_cons_zero, List.set_cons_succ]
              refine wpAnyH_take (i := 0) (v := .pointer (some ⟨g2, 0, none⟩)) rfl (by kernel_rfl) (by kernel_rfl) (by kernel_rfl) (fun _ _ _ h => h) (Or.inl ⟨by rfl, fun wx hx => by simp [go_sem]⟩) hS ?_
              simp only [Act.put, List.getElem_toArray, List.getElem_cons_zero, List.setIfInBounds_toArray, List.set_cons_zero, List.set_cons_succ]
              refine wpAnyH_take (i := 1) (v := .slice (some ⟨b1, o1, none⟩) nt ct) rfl (by kernel_rfl) (by kernel_rfl) (by kernel_rfl) (fun _ _ _ h => h) (Or.inl ⟨by rfl, fun wx hx => by (have hc : wx.cell? ⟨g2, 0, none⟩ = some (.slice (some ⟨b1, o1, none⟩) nt ct) := (HAT.out _ _ (HI.out.next hx).a).tr); simp [go_sem, hc]⟩) hS ?_
              simp only [Act.put, List.getElem_toArray, List.getElem_cons_succ, List.getElem_cons_zero, List.setIfInBounds_toArray, List.set_cons_zero, List.set_cons_succ]
              refine wpAnyH_take (i := 2) (v := .int .i64 (k : Int)) rfl (by kernel_rfl) (by kernel_rfl) (by kernel_rfl) (fun _ _ _ h => h) (Or.inl ⟨by rfl, fun wx hx => by simp [go_sem]⟩) hS ?_
              simp only [Act.put, List.getElem_toArray, List.getElem_cons_succ, List.getElem_cons_zero, List.setIfInBounds_toArray, List.set_cons_zero, List.set_cons_succ]
              refine wpAnyH_take (i := 3) (v := .pointer (some ⟨b1, o1 + k * 98, none⟩)) rfl (by kernel_rfl) (by kernel_rfl) (by kernel_rfl) (fun _ _ _ h => h) (Or.inl ⟨by rfl, fun wx hx => by exact idx98 b1 o1 ct nt k hlt _ _ _ _ rfl rfl rfl _⟩) hS ?_
              simp only [Act.put, List.getElem_toArray, List.getElem_cons_succ, List.getElem_cons_zero, List.setIfInBounds_toArray, List.set_cons_zero, List.set_cons_succ]
              refine wpAnyH_take (i := 4) (v := .agg ck1.toArray) rfl (by kernel_rfl) (by kernel_rfl) (by kernel_rfl) (fun _ _ _ h => h) (Or.inl ⟨by rfl, fun wx hx => by exact load_run 30 _ rfl b1 (o1 + k * 98) rfl ck1 _ (HR1.out _ (HI.out.next hx).bel) Tryd.underlying30 rfl HI1.out⟩) hS ?_
              simp only [Act.put, List.getElem_toArray, List.getElem_cons_succ, List.getElem_cons_zero, List.setIfInBounds_toArray, List.set_cons_zero, List.set_cons_succ]
              refine wpAnyH_take (i := 5) (v := .pointer (some ⟨g3, 0, none⟩)) rfl (by kernel_rfl) (by kernel_rfl) (by kernel_rfl) (fun _ _ _ h => h) (Or.inl ⟨by rfl, fun wx hx => by simp [go_sem]⟩) hS ?_
              simp only [Act.put, List.getElem_toArray, List.getElem_cons_succ, List.getElem_cons_zero, List.setIfInBounds_toArray, List.set_cons_zero, List.set_cons_succ]
              refine wpAnyH_take (i := 6) (v := .slice (some ⟨b2, o2, none⟩) nt2 ct2) rfl (by kernel_rfl) (by kernel_rfl) (by kernel_rfl) (fun _ _ _ h => h) (Or.inl ⟨by rfl, fun wx hx => by (have hc : wx.cell? ⟨g3, 0, none⟩ = some (.slice (some ⟨b2, o2, none⟩) nt2 ct2) := (HAT2.out _ _ (HI.out.next hx).b).tr); simp [go_sem, hc]⟩) hS ?_
              simp only [Act.put, List.getElem_toArray, List.getElem_cons_succ, List.getElem_cons_zero, List.setIfInBounds_toArray, List.set_cons_zero, List.set_cons_succ]
              refine wpAnyH_take (i := 7) (v := .int .i64 (k : Int)) rfl (by kernel_rfl) (by kernel_rfl) (by kernel_rfl) (fun _ _ _ h => h) (Or.inl ⟨by rfl, fun wx hx => by simp [go_sem]⟩) hS ?_
              simp only [Act.put, List.getElem_toArray, List.getElem_cons_succ, List.getElem_cons_zero, List.setIfInBounds_toArray, List.set_cons_zero, List.set_cons_succ]
              refine wpAnyH_take (i := 8) (v := .pointer (some ⟨b2, o2 + k * 98, none⟩)) rfl (by kernel_rfl) (by kernel_rfl) (by kernel_rfl) (fun _ _ _ h => h) (Or.inl ⟨by rfl, fun wx hx => by exact idx98 b2 o2 ct2 nt2 k hlt2 _ _ _ _ rfl rfl rfl _⟩) hS ?_
              simp only [Act.put, List.getElem_toArray, List.getElem_cons_succ, List.getElem_cons_zero, List.setIfInBounds_toArray, List.set_cons_zero, List.set_cons_succ]
              refine wpAnyH_take (i := 9) (v := .agg ck2.toArray) rfl (by kernel_rfl) (by kernel_rfl) (by kernel_rfl) (fun _ _ _ h => h) (Or.inl ⟨by rfl, fun wx hx => by exact load_run 30 _ rfl b2 (o2 + k * 98) rfl ck2 _ (HR2.out _ (HI.out.next hx).bel) Tryd.underlying30 rfl HI2.out⟩) hS ?_
              simp only [Act.put, List.getElem_toArray, List.getElem_cons_succ, List.getElem_cons_zero, List.setIfInBounds_toArray, List.set_cons_zero, List.set_cons_succ]
              refine wpAnyH_enter 10 (by kernel_rfl) rfl (by rfl) (f := 37) (args := #[.agg ck1.toArray, .agg ck2.toArray]) (by simp [go_sem]) (HCK.out _ (HI.out.next hS).bel) ?_
              rintro e z1 ⟨rfl, hb⟩
              replace hS := Over.more hS hb
              refine ⟨_, rfl, hS, ?_⟩
              clear hb 
              simp only [Act.put, List.getElem_toArray, List.getElem_cons_succ, List.getElem_cons_zero, List.setIfInBounds_toArray, List.set_cons_zero, List.set_cons_succ]
              refine wpAnyH_take (i := 11) (v := .bool false) rfl (by kernel_rfl) (by kernel_rfl) (by kernel_rfl) (fun _ _ _ h => h) (Or.inl ⟨by rfl, fun wx hx => by simp [go_sem]⟩) hS ?_
              simp only [Act.put, List.getElem_toArray, List.getElem_cons_succ, List.getElem_cons_zero, List.setIfInBounds_toArray, List.set_cons_zero, List.set_cons_succ]
              refine wpAnyH_done (by kernel_rfl) ?_ _
              go_wp2
              go_roundw
              case rel => exact ⟨k + 1, by omega, by simp, HT2, HI.out.next hS⟩
              case measure => simp [intOf]; omega
end Go.Proofs.YtableajopaappaaDoor

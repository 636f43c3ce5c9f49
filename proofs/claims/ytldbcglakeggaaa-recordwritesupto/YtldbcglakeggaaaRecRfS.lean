/- The walk of the reference's Signed. -/
import Derived.Test.YtldbcglakeggaaaRecBkL
namespace Go.Proofs.Ytldbcglakeggaaa
open Go.RowKit
theorem readsL_five {w : World} {va vb vc vd ve : Value} {la lb lc ld le : List (BitVec 8)} (ha : Reads w va la) (hb : Reads w vb lb) (hc : Reads w vc lc) (hd : Reads w vd ld) (he : Reads w ve le) :
    ReadsL (w.alloc (.cells #[va, vb, vc, vd, ve] 22)) (.slice (some ⟨w.heap.size, 0, none⟩) 5 5) [la, lb, lc, ld, le] := by
  have hbl : Below w.heap.size w (w.alloc (.cells #[va, vb, vc, vd, ve] 22)) := (Below.refl _ _).alloc (Nat.le_refl _) _
  refine ⟨_, _, rfl, Nat.le_refl _, (fun h => by cases h), fun _ => ⟨w.heap.size, 0, rfl, fun j hj => ?_⟩⟩
  match j, hj with
  | 0, _ => exact ⟨va, by rw [World.cell?_alloc_mark]; rfl, ha.below hbl⟩
  | 1, _ => exact ⟨vb, by rw [World.cell?_alloc_mark]; rfl, hb.below hbl⟩
  | 2, _ => exact ⟨vc, by rw [World.cell?_alloc_mark]; rfl, hc.below hbl⟩
  | 3, _ => exact ⟨vd, by rw [World.cell?_alloc_mark]; rfl, hd.below hbl⟩
  | 4, _ => exact ⟨ve, by rw [World.cell?_alloc_mark]; rfl, he.below hbl⟩
theorem sgn_part {A C : List Value} {d : List (BitVec 8)} {w : World} {g off : Nat} {t : TypeId} (hd : d.length = 32) (h : Blk w g (A ++ (cb d ++ C)) t) (ho : A.length = off) : Reads w (.slice (some ⟨g, off, none⟩) 32 32) d := by
  subst ho
  refine h.reads_mid (by omega) (by omega) fun j hj => ?_
  rw [List.getElem?_append_right (by omega), List.getElem?_append_left (by rw [cb_len]; omega), show A.length + j - A.length = j by omega, cb_get d j hj]
set_option maxRecDepth 100000 in
set_option maxHeartbeats 4000000 in
theorem rfsigned_any (ep : Nat) (x y z sg : List (BitVec 8)) (vs : Value) (hep : ep < 18446744073709551616) (hx : x.length = 32) (hy : y.length = 32) (hz : z.length = 32) (w : World) (hk : Reads w vs sg) (hl : sg.length + 200 ≤ 140737488355328) :
    Calls Try.prog 20 #[.agg (sgnV ep x y z vs).toArray] w fun e w' => ∃ v', e = .returned v' ∧ Reads w' v' (encSigned (ep, x, y, z, sg)) ∧ Below w.heap.size w w' := by
  have HK : Hid (Reads w vs sg) := hk
  have HL : Hid (sg.length + 200 ≤ 140737488355328) := hl
  have HE : Hid (ep < 18446744073709551616) := hep
  have HXYZ : Hid (x.length = 32 ∧ y.length = 32 ∧ z.length = 32) := ⟨hx, hy, hz⟩
  obtain ⟨sad, scp, hv, _, _, _⟩ := hk
  obtain ⟨n, HN⟩ : ∃ n, Hid (n = sg.length) := ⟨_, rfl⟩
  rw [← HN.out] at hv
  subst hv
  clear hep hx hy hz hl
  obtain ⟨cs, HCS⟩ : ∃ c, Hid (c = sgnV ep x y z (.slice sad n scp)) := ⟨_, rfl⟩
  rw [← HCS.out]
  go_enter Try.func20, Try.ntmps20
  go_upto_region 1 with (first
    | (with_reducible refine wpSeq_box 42 (.tmp 0) ?_ cs ?_ ?_ (w.alloc (.cells cs.toArray 42)) ?_ ?_
       · rfl
       · rfl
       · rfl
       · rfl
       have n0 : Blk (w.alloc (.cells cs.toArray 42)) w.heap.size cs 42 := Blk.new w cs _
       have b0 := below_alloc w (.cells cs.toArray 42)
       obtain ⟨wa, HW0⟩ : ∃ z, Hid (z = w.alloc (.cells cs.toArray 42)) := ⟨_, rfl⟩
       obtain ⟨g, HGG0⟩ : ∃ z, Hid (z = w.heap.size) := ⟨_, rfl⟩
       rw [← HW0.out] at n0 b0 ⊢
       rw [← HGG0.out] at n0 ⊢
       clear HW0 HGG0))
  have HB1 : Hid (Below w.heap.size w wa.drew) := b0.drew
  have C0 : Hid (wa.drew.cell? ⟨g, 0, none⟩ = some (.int .u64 (ep : Int))) := by show _ = _; rw [n0.drew.cell, HCS.out]; rfl
  have C97 : Hid (wa.drew.cell? ⟨g, 97, none⟩ = some (.slice sad n scp)) := by show _ = _; rw [n0.drew.cell, HCS.out]; exact sgnV_at HXYZ.out.1 HXYZ.out.2.1 HXYZ.out.2.2
  have HBD : Hid (Blk wa.drew g (sgnV ep x y z (.slice sad n scp)) 42) := by rw [← HCS.out]; exact n0.drew
  have RX : Hid (Reads wa.drew (.slice (some ⟨g, 1, none⟩) 32 32) x) := sgn_part (A := [.int .u64 (ep : Int)]) HXYZ.out.1 HBD.out rfl
  have RY : Hid (Reads wa.drew (.slice (some ⟨g, 33, none⟩) 32 32) y) := sgn_part (A := .int .u64 (ep : Int) :: cb x) (C := cb z ++ [.slice sad n scp]) HXYZ.out.2.1 (by have := HBD.out; unfold sgnV at this; simpa using this) (by simp [cb_len, HXYZ.out])
  have RZ : Hid (Reads wa.drew (.slice (some ⟨g, 65, none⟩) 32 32) z) := sgn_part (A := .int .u64 (ep : Int) :: (cb x ++ cb y)) (C := [.slice sad n scp]) HXYZ.out.2.2 (by have := HBD.out; unfold sgnV at this; simpa using this) (by simp [cb_len, HXYZ.out])
  have RS : Hid (Reads wa.drew (.slice sad n scp) sg) := HK.out.below HB1.out
  clear n0 b0 HK
  refine wp_region_held_drew (S := Over wa.drew) (by kernel_rfl) (Over.refl _) ?_
  intro hS
  refine wpAnyH_take (i := 0) (v := .pointer (some ⟨g, 0, none⟩)) rfl (by kernel_rfl) (by kernel_rfl) (by kernel_rfl) (fun _ _ _ h => h) (Or.inl ⟨by rfl, fun wx hx => by simp [go_sem]⟩) hS ?_
  simp only [Act.put, List.getElem_toArray, List.getElem_cons_zero, List.setIfInBounds_toArray, List.set_cons_zero, List.set_cons_succ]
  refine wpAnyH_take (i := 1) (v := .pointer (some ⟨g, 0, none⟩)) rfl (by kernel_rfl) (by kernel_rfl) (by kernel_rfl) (fun _ _ _ h => h) (Or.inl ⟨by rfl, fun wx hx => by simp [go_sem]⟩) hS ?_
  simp only [Act.put, List.getElem_toArray, List.getElem_cons_succ, List.getElem_cons_zero, List.setIfInBounds_toArray, List.set_cons_zero, List.set_cons_succ]
  refine wpAnyH_take (i := 2) (v := .int .u64 (ep : Int)) rfl (by kernel_rfl) (by kernel_rfl) (by kernel_rfl) (fun _ _ _ h => h) (Or.inl ⟨by rfl, fun wx hx => by (have hc := below_cellO hx C0.out; simp [go_sem, hc])⟩) hS ?_
  simp only [Act.put, List.getElem_toArray, List.getElem_cons_succ, List.getElem_cons_zero, List.setIfInBounds_toArray, List.set_cons_zero, List.set_cons_succ]
  refine wpAnyH_take (i := 4) (v := .pointer (some ⟨g, 0, none⟩)) rfl (by kernel_rfl) (by kernel_rfl) (by kernel_rfl) (fun _ _ _ h => h) (Or.inl ⟨by rfl, fun wx hx => by simp [go_sem]⟩) hS ?_
  simp only [Act.put, List.getElem_toArray, List.getElem_cons_succ, List.getElem_cons_zero, List.setIfInBounds_toArray, List.set_cons_zero, List.set_cons_succ]
  refine wpAnyH_take (i := 5) (v := .pointer (some ⟨g, 1, none⟩)) rfl (by kernel_rfl) (by kernel_rfl) (by kernel_rfl) (fun _ _ _ h => h) (Or.inl ⟨by rfl, fun wx hx => by simp [go_sem]⟩) hS ?_
  simp only [Act.put, List.getElem_toArray, List.getElem_cons_succ, List.getElem_cons_zero, List.setIfInBounds_toArray, List.set_cons_zero, List.set_cons_succ]
  refine wpAnyH_take (i := 6) (v := .slice (some ⟨g, 1, none⟩) 32 32) rfl (by kernel_rfl) (by kernel_rfl) (by kernel_rfl) (fun _ _ _ h => h) (Or.inl ⟨by rfl, fun wx hx => by simp [execOp, Act.eval, slice_dig_at]⟩) hS ?_
  simp only [Act.put, List.getElem_toArray, List.getElem_cons_succ, List.getElem_cons_zero, List.setIfInBounds_toArray, List.set_cons_zero, List.set_cons_succ]
  refine wpAnyH_take (i := 7) (v := .pointer (some ⟨g, 0, none⟩)) rfl (by kernel_rfl) (by kernel_rfl) (by kernel_rfl) (fun _ _ _ h => h) (Or.inl ⟨by rfl, fun wx hx => by simp [go_sem]⟩) hS ?_
  simp only [Act.put, List.getElem_toArray, List.getElem_cons_succ, List.getElem_cons_zero, List.setIfInBounds_toArray, List.set_cons_zero, List.set_cons_succ]
  refine wpAnyH_take (i := 8) (v := .pointer (some ⟨g, 33, none⟩)) rfl (by kernel_rfl) (by kernel_rfl) (by kernel_rfl) (fun _ _ _ h => h) (Or.inl ⟨by rfl, fun wx hx => by simp [go_sem]⟩) hS ?_
  simp only [Act.put, List.getElem_toArray, List.getElem_cons_succ, List.getElem_cons_zero, List.setIfInBounds_toArray, List.set_cons_zero, List.set_cons_succ]
  refine wpAnyH_take (i := 9) (v := .slice (some ⟨g, 33, none⟩) 32 32) rfl (by kernel_rfl) (by kernel_rfl) (by kernel_rfl) (fun _ _ _ h => h) (Or.inl ⟨by rfl, fun wx hx => by simp [execOp, Act.eval, slice_dig_at]⟩) hS ?_
  simp only [Act.put, List.getElem_toArray, List.getElem_cons_succ, List.getElem_cons_zero, List.setIfInBounds_toArray, List.set_cons_zero, List.set_cons_succ]
  refine wpAnyH_take (i := 10) (v := .pointer (some ⟨g, 0, none⟩)) rfl (by kernel_rfl) (by kernel_rfl) (by kernel_rfl) (fun _ _ _ h => h) (Or.inl ⟨by rfl, fun wx hx => by simp [go_sem]⟩) hS ?_
  simp only [Act.put, List.getElem_toArray, List.getElem_cons_succ, List.getElem_cons_zero, List.setIfInBounds_toArray, List.set_cons_zero, List.set_cons_succ]
  refine wpAnyH_take (i := 11) (v := .pointer (some ⟨g, 65, none⟩)) rfl (by kernel_rfl) (by kernel_rfl) (by kernel_rfl) (fun _ _ _ h => h) (Or.inl ⟨by rfl, fun wx hx => by simp [go_sem]⟩) hS ?_
  simp only [Act.put, List.getElem_toArray, List.getElem_cons_succ, List.getElem_cons_zero, List.setIfInBounds_toArray, List.set_cons_zero, List.set_cons_succ]
  refine wpAnyH_take (i := 12) (v := .slice (some ⟨g, 65, none⟩) 32 32) rfl (by kernel_rfl) (by kernel_rfl) (by kernel_rfl) (fun _ _ _ h => h) (Or.inl ⟨by rfl, fun wx hx => by simp [execOp, Act.eval, slice_dig_at]⟩) hS ?_
  simp only [Act.put, List.getElem_toArray, List.getElem_cons_succ, List.getElem_cons_zero, List.setIfInBounds_toArray, List.set_cons_zero, List.set_cons_succ]
  refine wpAnyH_take (i := 13) (v := .pointer (some ⟨g, 97, none⟩)) rfl (by kernel_rfl) (by kernel_rfl) (by kernel_rfl) (fun _ _ _ h => h) (Or.inl ⟨by rfl, fun wx hx => by simp [go_sem]⟩) hS ?_
  simp only [Act.put, List.getElem_toArray, List.getElem_cons_succ, List.getElem_cons_zero, List.setIfInBounds_toArray, List.set_cons_zero, List.set_cons_succ]
  refine wpAnyH_take (i := 14) (v := .slice sad n scp) rfl (by kernel_rfl) (by kernel_rfl) (by kernel_rfl) (fun _ _ _ h => h) (Or.inl ⟨by rfl, fun wx hx => by (have hc := below_cellO hx C97.out; simp [go_sem, hc])⟩) hS ?_
  simp only [Act.put, List.getElem_toArray, List.getElem_cons_succ, List.getElem_cons_zero, List.setIfInBounds_toArray, List.set_cons_zero, List.set_cons_succ]
  refine wpAnyH_enter 3 (by kernel_rfl) rfl (by rfl) (f := 42) (args := #[.int .u64 (ep : Int)]) (by simp [go_sem]) (qnum_any ep HE.out _) ?_
  rintro e w5 ⟨v5, rfl, hr5, hb5⟩
  replace hr5 := hr5.reads
  refine ⟨_, rfl, hS.more hb5, ?_⟩
  replace hS := hS.more hb5
  clear hb5
  simp only [Act.put, List.getElem_toArray, List.getElem_cons_succ, List.getElem_cons_zero, List.setIfInBounds_toArray, List.set_cons_zero, List.set_cons_succ]
  refine wpAnyH_enter 15 (by kernel_rfl) rfl (by rfl) (f := 41) (args := #[.slice sad n scp]) (by simp [go_sem]) (qtext_any _ sg _ (RS.out.below hS) (by have := HL.out; omega)) ?_
  rintro e w6 ⟨v6, rfl, hr6, hb6⟩
  refine ⟨_, rfl, hS.more hb6, ?_⟩
  replace hS := hS.more hb6
  replace hr5 := hr5.below hb6
  clear hb6
  simp only [Act.put, List.getElem_toArray, List.getElem_cons_succ, List.getElem_cons_zero, List.setIfInBounds_toArray, List.set_cons_zero, List.set_cons_succ]
  have rx := RX.out.below hS
  have ry := RY.out.below hS
  have rz := RZ.out.below hS
  obtain ⟨t5, HT5⟩ : ∃ q, Hid (q = encNum ep) := ⟨_, rfl⟩
  obtain ⟨t6, HT6⟩ : ∃ q, Hid (q = encText sg) := ⟨_, rfl⟩
  rw [← HT5.out] at hr5
  rw [← HT6.out] at hr6
  obtain ⟨a5, p5, rfl, _, _, _⟩ := id hr5
  obtain ⟨a6, p6, rfl, _, _, _⟩ := id hr6
  have hrl := readsL_five hr5 rx ry rz hr6
  have hba := below_alloc w6 (.cells #[.slice a5 t5.length p5, .slice (some ⟨g, 1, none⟩) 32 32, .slice (some ⟨g, 33, none⟩) 32 32, .slice (some ⟨g, 65, none⟩) 32 32, .slice a6 t6.length p6] 22)
  have hS7 := hS.more hba
  refine wpAnyH_step 16 (.slice (some ⟨w6.heap.size, 0, none⟩) 5 5) (w6.alloc (.cells #[.slice a5 t5.length p5, .slice (some ⟨g, 1, none⟩) 32 32, .slice (some ⟨g, 33, none⟩) 32 32, .slice (some ⟨g, 65, none⟩) 32 32, .slice a6 t6.length p6] 22)) (by kernel_rfl) rfl (by rfl) (by simp [go_sem]) hS7 ?_
  simp only [Act.put, List.getElem_toArray, List.getElem_cons_succ, List.getElem_cons_zero, List.setIfInBounds_toArray, List.set_cons_zero, List.set_cons_succ]
  generalize w6.alloc (.cells #[.slice a5 t5.length p5, .slice (some ⟨g, 1, none⟩) 32 32, .slice (some ⟨g, 33, none⟩) 32 32, .slice (some ⟨g, 65, none⟩) 32 32, .slice a6 t6.length p6] 22) = w7 at *
  clear hS hba rx ry rz hr5 hr6
  refine wpAnyH_enter 17 (by kernel_rfl) rfl (by rfl) (f := 40) (args := #[.slice (some ⟨w6.heap.size, 0, none⟩) 5 5]) (by simp [go_sem]) (rjoin_any _ _ w7 hrl (by
    have h1 := HL.out
    have h2 := encText_le (t := sg) (by omega)
    have h4 := enc_len10 ep HE.out
    have h5 := HXYZ.out
    simp only [List.flatten_cons, List.flatten_nil, List.append_nil, List.length_append, HT5.out, HT6.out]
    omega) (by simp)) ?_
  rintro e w8 ⟨v8, rfl, hr8, hb8⟩
  have hS := hS7.more hb8
  refine ⟨_, rfl, hS, ?_⟩
  simp only [Act.put, List.getElem_toArray, List.getElem_cons_succ, List.getElem_cons_zero, List.setIfInBounds_toArray, List.set_cons_zero, List.set_cons_succ]
  refine wpAnyH_take (i := 18) (v := v8) rfl (by kernel_rfl) (by kernel_rfl) (by kernel_rfl) (fun _ _ _ h => h) (Or.inl ⟨by rfl, fun wx hx => by simp [go_sem]⟩) hS ?_
  simp only [Act.put, List.getElem_toArray, List.getElem_cons_succ, List.getElem_cons_zero, List.setIfInBounds_toArray, List.set_cons_zero, List.set_cons_succ]
  refine wpAnyH_done (by kernel_rfl) ?_ _
  have HF : Hid (Reads w8 v8 (encSigned (ep, x, y, z, sg)) ∧ Below w.heap.size w w8) := ⟨by simp only [List.flatten_cons, List.flatten_nil, List.append_nil, HT5.out, HT6.out] at hr8; exact hr8, hS.after HB1.out⟩
  clear hS7 hS hr8 hb8 hrl
  go_wp2
  go_ret
  exact ⟨_, rfl, HF.out⟩
end Go.Proofs.Ytldbcglakeggaaa

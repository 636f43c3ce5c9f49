/- The walks of tags.tagged and blazonref03.sign: a sign, and texts behind it; of tags.count; and a string's bytes. -/
import Derived.Test.YtaleeaocmomjlaaDoorNum
import Derived.Lib.ConvBytes
namespace Go.Proofs.YtaleeaocmomjlaaDoor
open Go.RowKit
theorem strB_size (l : List (BitVec 8)) : (strB l).size = l.length := by
  have h := congrArg List.length (strOfNums_data (l.map fun b => (b.toNat : Int)))
  simpa [strB] using h
theorem strB_data (l : List (BitVec 8)) : (strB l).data.toList = l.map fun b => UInt8.ofNat b.toNat := by
  unfold strB
  rw [strOfNums_data]
  simp
theorem conv_string (l : List (BitVec 8)) (w : World) : (convert 9 24 (.string (strB l))).run Tryd.prog w = .ok (.slice (some ⟨w.heap.size, 0, none⟩) l.length (grownCap w l.length 0 5)) (Lib.bytesWorld w 5 (strB l)) := by
  have := Lib.run_convert_string_bytes (P := Tryd.prog) w 9 24 5 (strB l) Tryd.underlying9 Tryd.underlying24 Tryd.underlying5
  rw [strB_size] at this
  exact this
theorem bytesWorld_reads (l : List (BitVec 8)) (w : World) : Reads (Lib.bytesWorld w 5 (strB l)) (.slice (some ⟨w.heap.size, 0, none⟩) l.length (grownCap w l.length 0 5)) l := by
  refine ⟨_, _, rfl, grownCap_ge _ _ _ _, (fun h => by cases h), fun _ => ⟨w.heap.size, 0, rfl, fun j hj => ?_⟩⟩
  rw [Nat.zero_add, Lib.bytesWorld_cell _ _ _ _ (by rw [strB_size]; exact hj), strB_data]
  have h2 : (l.map fun b => UInt8.ofNat b.toNat).getD j 0 = UInt8.ofNat (l.getD j 0).toNat := by simp [hj]
  rw [h2]
  have := (l.getD j 0).isLt
  simp
theorem bytesWorld_below (l : List (BitVec 8)) (w : World) : Below w.heap.size w (Lib.bytesWorld w 5 (strB l)) :=
  ⟨rfl, rfl, rfl, by rw [Lib.bytesWorld_size]; omega, fun k hk => Lib.bytesWorld_at_old _ _ _ _ hk⟩
set_option maxHeartbeats 400000 in
theorem count_any (l : List (BitVec 8)) (hl : l.length < 18446744073709551616) (w : World) : Calls Tryd.prog 36 #[.string (strB l)] w fun e w' => ∃ v, e = .returned v ∧ Reads w' v (num8 l.length) ∧ Below w.heap.size w w' := by
  have hs := strB_size l
  generalize strB l = s at *
  generalize l.length = n at *
  go_enter Tryd.func36, Tryd.ntmps36
  go_wp2_with (go_at_call 37; refine (number_any n _).mono ?_; rintro e w1 ⟨v, rfl, hr, hb⟩)
  go_ret
  exact ⟨_, rfl, hr, hb⟩
theorem make_room (w : World) : (Instr.makeSlice 24 (.int .i64 0) (.int .i64 128)).run Tryd.prog w =
    .ok (.slice (some ⟨w.heap.size, 0, none⟩) 0 128) (w.alloc (.cells (cb (List.replicate 128 0)).toArray 5)) := by
  obtain ⟨i0, hi, hz0, hz1, hz2⟩ := info_parts Tryd.infob
  rw [run_make (P := Tryd.prog) w 24 5 i0 _ Tryd.underlying24 hi hz0 .i64 .i64 _ _ (by omega) (by omega) (by rw [hz2]; omega) (by omega)]
  rw [hz1, Nat.mul_one]
  congr 3
  kernel_rfl
theorem own_room (w : World) (base : Nat) (hb : base ≤ w.heap.size) : OwnB (w.alloc (.cells (cb (List.replicate 128 0)).toArray 5)) base (.slice (some ⟨w.heap.size, 0, none⟩) 0 128) [] := by
  refine ⟨rfl, Or.inr ⟨w.heap.size, 128, _, rfl, hb, heap_alloc_new w _, Nat.zero_le _, by decide, by simp [cb_len], rfl⟩⟩
theorem OwnB.cut {w : World} {base : Nat} {v : Value} {l : List (BitVec 8)} (h : OwnB w base v l) (hne : l ≠ []) : ∃ g cap, v = .slice (some ⟨g, 0, none⟩) l.length cap ∧ l.length ≤ cap ∧ Reads w (.slice (some ⟨g, 0, none⟩) l.length l.length) l := by
  obtain ⟨ad, cap, hv, hc, hnn, hx⟩ := h.reads
  obtain ⟨h1, h2⟩ := h
  rcases h2 with ⟨rfl, h0⟩ | ⟨g, cap', cur, rfl, hg, hh, hc', hm, hs, ht⟩
  · exact absurd (List.eq_nil_of_length_eq_zero h0) hne
  · cases hv
    exact ⟨g, cap, rfl, hc', _, _, rfl, Nat.le_refl _, (fun h => by cases h), hx⟩
set_option maxHeartbeats 400000 in
theorem tagged_any (c : BitVec 8) (v : Value) (ls : List (List (BitVec 8))) (w : World) (hR : ReadsL w v ls) (hl : ls.flatten.length < 140737488355328) (hn : ls.length < 4611686018427387904) :
    Calls Tryd.prog 34 #[.int .u8 (c.toNat : Int), v] w fun e w' => ∃ v', e = .returned v' ∧ Reads w' v' (c :: ls.flatten) ∧ Below w.heap.size w w' := by
  have HR : Hid (ReadsL w v ls) := hR
  obtain ⟨ad, cap, hv, hcap, _, _⟩ := hR
  obtain ⟨n, HNN⟩ : ∃ n, Hid (n = ls.length) := ⟨_, rfl⟩
  rw [← HNN.out] at hv hcap hn
  subst hv
  have hm := make_room w
  have HO : Hid (OwnB (w.alloc (.cells (cb (List.replicate 128 0)).toArray 5)) w.heap.size (.slice (some ⟨w.heap.size, 0, none⟩) 0 128) []) := own_room w _ (Nat.le_refl _)
  have HB0 : Hid (Below w.heap.size w (w.alloc (.cells (cb (List.replicate 128 0)).toArray 5))) := below_alloc _ _
  have HS0 : Hid (w.heap.size + 1 ≤ (w.alloc (.cells (cb (List.replicate 128 0)).toArray 5)).heap.size) := by show _ ≤ _; simp
  generalize w.alloc (.cells (cb (List.replicate 128 0)).toArray 5) = w0 at *
  generalize Value.slice (some ⟨w.heap.size, 0, none⟩) 0 128 = v0 at *
  go_enter Tryd.func34, Tryd.ntmps34
  go_wp2_with (at_builtin; refine wpList_appendB rfl (.tmp 8) (.tmp 10) rfl w.heap.size _ [] rfl (HO.out.below (below_alloc _ _) (Nat.le_refl _)) _ [c] rfl (reads_val w0 _ c rfl) (by simp) (by have := HS0.out; simp; omega) ?_; intro v1 w1 hown1 hb1 _)
  have hI : RpInv w [c] v1 w1 := ⟨hown1, HB0.out.trans (((Below.refl _ _).alloc (by have := HS0.out; omega) _).trans hb1)⟩
  clear hown1 hb1 HO HB0 hm HS0
  go_loopw [5, 14] (fun u i wr => ∃ k : Nat, k ≤ n ∧ i = .int .i64 k ∧ RpInv w (c :: (ls.take k).flatten) u wr) (fun _ i _ => n - (intOf i).toNat)
  case atStart => exact ⟨0, by omega, rfl, hI⟩
  case round =>
    clear hI
    obtain ⟨k, hk, rfl, hI⟩ := hrel
    have HI : Hid (RpInv w (c :: (ls.take k).flatten) u5 wr) := hI
    by_cases hlt : k < n
    · obtain ⟨ad', cap', hv', _, _, hx⟩ := HR.out.below hI.bel
      rw [← HNN.out] at hv' hx
      simp only [Value.slice.injEq, true_and] at hv'
      obtain ⟨rfl, rfl⟩ := hv'
      obtain ⟨b, off, rfl, hx2⟩ := hx (by omega)
      obtain ⟨vj, cj, hj⟩ := hx2 k hlt
      have HJ : Hid (Reads wr vj (ls.getD k [])) := hj
      have HF : Hid ((ls.take (k + 1)).flatten = (ls.take k).flatten ++ ls.getD k []) := flat_take ls k (by rw [← HNN.out]; exact hlt)
      have HL : Hid ((c :: (ls.take k).flatten).length + (ls.getD k []).length ≤ 140737488355328) := by
        have h1 := flat_le ls (k + 1)
        rw [HF.out, List.length_append] at h1
        show _ ≤ _
        rw [List.length_cons]
        omega
      clear hx hx2 hj hI
      go_wp2_with (at_builtin; refine wpList_appendB rfl (.tmp 18) (.tmp 19) rfl w.heap.size _ (c :: (ls.take k).flatten) rfl HI.out.own _ (ls.getD k []) rfl HJ.out HL.out HI.out.bel.size ?_; intro v2 w2 hown2 hb2 _)
      have hJ : RpInv w (c :: (ls.take (k + 1)).flatten) v2 w2 := ⟨by rw [HF.out]; exact hown2, HI.out.bel.trans hb2⟩
      clear hown2 hb2 HI
      go_wp2
      go_roundw
      case rel => exact ⟨k + 1, by omega, by go_num, hJ⟩
      case measure => simp [intOf]; omega
    · have hkn : k = n := by omega
      subst hkn
      rw [HNN.out, List.take_of_length_le (Nat.le_refl _)] at hI
      obtain ⟨g, cap', rfl, hc', hr⟩ := hI.own.cut (by simp)
      have HV : Hid (Reads wr (.slice (some ⟨g, 0, none⟩) (c :: ls.flatten).length (c :: ls.flatten).length) (c :: ls.flatten)) := hr
      have hbel := hI.bel
      have hcl : (c :: ls.flatten).length < 140737488355329 := by rw [List.length_cons]; omega
      clear hI HI HR hr hl
      generalize (c :: ls.flatten).length = m at *
      go_wp2
      go_ret
      exact ⟨_, rfl, HV.out, hbel⟩
end Go.Proofs.YtaleeaocmomjlaaDoor

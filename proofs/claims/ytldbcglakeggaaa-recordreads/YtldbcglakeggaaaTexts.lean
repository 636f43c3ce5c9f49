/- The walks of codec.Text, codec.Digest and blazonref04.Text: a text, a digest behind bytes. -/
import Derived.Test.YtldbcglakeggaaaIns
namespace Go.Proofs.Ytldbcglakeggaaa
open Go.RowKit
theorem OwnB.below' {w w' : World} {base B : Nat} {v : Value} {l : List (BitVec 8)} (h : OwnB w base v l) (hb : Below B w w') (hB : ∀ k, v.ownBlock = some k → k < B) : OwnB w' base v l := by
  obtain ⟨h1, h2⟩ := h
  refine ⟨h1, ?_⟩
  rcases h2 with h2 | ⟨g, cap, cur, rfl, hg, hh, r⟩
  · exact Or.inl h2
  · exact Or.inr ⟨g, cap, cur, rfl, hg, by rw [hb.block g (hB g rfl)]; exact hh, r⟩
theorem OwnB.lt {w : World} {base : Nat} {v : Value} {l : List (BitVec 8)} (h : OwnB w base v l) : ∀ k, v.ownBlock = some k → k < w.heap.size := by
  obtain ⟨h1, h2⟩ := h
  rcases h2 with ⟨rfl, h0⟩ | ⟨g, cap, cur, rfl, hg, hh, _⟩
  · intro k hk; simp [Value.ownBlock] at hk
  · intro k hk
    simp [Value.ownBlock] at hk
    subst hk
    rcases Nat.lt_or_ge g w.heap.size with h' | h'
    · exact h'
    · rw [Array.getElem?_eq_none h'] at hh; cases hh
set_option maxHeartbeats 400000 in
theorem ctext_any (base : Nat) (v vt : Value) (l t : List (BitVec 8)) (w : World) (hown : OwnB w base v l) (hr : Reads w vt t) (hb : base ≤ w.heap.size) (hl : l.length + t.length + 10 ≤ 140737488355328) :
    Calls Try.prog 44 #[v, vt] w fun e w' => ∃ v', e = .returned v' ∧ OwnB w' base v' (l ++ encText t) ∧ Below base w w' := by
  have HO : Hid (OwnB w base v l) := hown
  have HR : Hid (Reads w vt t) := hr
  have HL : Hid (l.length + t.length + 10 ≤ 140737488355328) := hl
  have HB : Hid (base ≤ w.heap.size) := hb
  obtain ⟨ad, cap, rfl, _, _, _⟩ := id hown.reads
  obtain ⟨at', capt, rfl, _, _, _⟩ := id hr
  obtain ⟨n, HNN⟩ : ∃ n, Hid (n = l.length) := ⟨_, rfl⟩
  obtain ⟨m, HM⟩ : ∃ m, Hid (m = t.length) := ⟨_, rfl⟩
  rw [← HNN.out] at HO
  rw [← HM.out] at HR
  rw [← HNN.out, ← HM.out]
  have hm : m < 140737488355328 := by have := HL.out; have := HM.out; omega
  clear hown hr hl hb
  go_enter Try.func44, Try.ntmps44
  go_wp2_with (at_builtin; refine wpList_appendB rfl (.tmp 5) (.tmp 6) rfl base _ l rfl HO.out _ t rfl HR.out (by have := HL.out; omega) HB.out ?_; intro v2 w2 hown2 hb2 _)
  have HO2 : Hid (OwnB w2 base v2 (l ++ t)) := hown2
  have HB2 : Hid (Below base w w2) := hb2
  have HS2 : Hid (base ≤ w2.heap.size) := Nat.le_trans HB.out hb2.size
  clear hown2 hb2
  have hw : IntKind.u64.wrap (m : Int) = (m : Int) := by rw [IntKind.wrap_u64]; omega
  go_wp2_with fail
  refine (cnum_any w2.heap.size _ [] m (by omega) w2 (OwnB.nil _ _) (Nat.le_refl _) (by simp)).mono ?_
  rintro e w3 ⟨v3, rfl, ho3, hb3⟩
  have HO3 : Hid (OwnB w3 w2.heap.size v3 (encNum m)) := ho3
  have HB3 : Hid (Below w2.heap.size w2 w3) := hb3
  clear ho3 hb3
  go_wp2_with fail
  have hO := HO2.out.below' HB3.out (HO2.out.lt)
  have hn : (n : Int) = (l.length : Int) := by rw [HNN.out]
  rw [hn]
  refine (ins_any base w2.heap.size v2 v3 l t (encNum m) w3 hO HO3.out HO2.out.lt (by intro h; have := encNum_pos m; rw [h] at this; simp at this) HS2.out HB3.out.size (by have := HL.out; have := enc_len10 m (by omega); omega)).mono ?_
  rintro e w4 ⟨v4, rfl, ho4, hb4⟩
  have HO4 : Hid (OwnB w4 base v4 (l ++ encText t)) := by show OwnB _ _ _ _; unfold encText; rw [← HM.out]; exact ho4
  have HB4 : Hid (Below base w w4) := HB2.out.trans ((HB3.out.mono HS2.out).trans hb4)
  clear ho4 hb4 hO
  go_wp2
  go_ret
  exact ⟨_, rfl, HO4.out, HB4.out⟩
theorem slice_dig_at (g o : Nat) (w : World) : (Instr.sliceAt 28 (.pointer (some ⟨g, o, none⟩)) none none none).run Try.prog w = .ok (.slice (some ⟨g, o, none⟩) 32 32) w := by kernel_rfl
set_option maxHeartbeats 400000 in
theorem cdigest_any (base : Nat) (v : Value) (l d : List (BitVec 8)) (hd : d.length = 32) (w : World) (hown : OwnB w base v l) (hb : base ≤ w.heap.size) (hl : l.length + 32 ≤ 140737488355328) :
    Calls Try.prog 43 #[v, .agg (cb d).toArray] w fun e w' => ∃ v', e = .returned v' ∧ OwnB w' base v' (l ++ d) ∧ Below base w w' := by
  have HO : Hid (OwnB w base v l) := hown
  have HD : Hid (d.length = 32) := hd
  have HL : Hid (l.length + 32 ≤ 140737488355328) := hl
  have HB : Hid (base ≤ w.heap.size) := hb
  have hs := slice_dig_at w.heap.size 0
  clear hown hd hl hb
  have b0 := below_alloc w (.cells (cb d).toArray 28)
  have HR : Hid (Reads (w.alloc (.cells (cb d).toArray 28)) (.slice (some ⟨w.heap.size, 0, none⟩) 32 32) d) := (Blk.new w (cb d) 28).reads HD.out.symm (by rw [HD.out]; omega)
  have HO1 : Hid (OwnB (w.alloc (.cells (cb d).toArray 28)) base v l) := HO.out.below b0 (Nat.le_refl _)
  have HB1 : Hid (Below base w (w.alloc (.cells (cb d).toArray 28))) := b0.mono HB.out
  have HS1 : Hid (base ≤ (w.alloc (.cells (cb d).toArray 28)).heap.size) := Nat.le_trans HB.out b0.size
  clear b0
  go_enter Try.func43, Try.ntmps43
  go_wp2_with (at_builtin; refine wpList_appendB rfl (.tmp 5) (.tmp 6) rfl base _ l rfl HO1.out _ d rfl HR.out (by have := HL.out; have := HD.out; omega) HS1.out ?_; intro v2 w2 hown2 hb2 _)
  have hB2 := HB1.out.trans hb2
  go_wp2
  go_ret
  exact ⟨_, rfl, hown2, hB2⟩
set_option maxHeartbeats 400000 in
theorem qtext_any (vt : Value) (t : List (BitVec 8)) (w : World) (hr : Reads w vt t) (hl : t.length + 10 ≤ 140737488355328) :
    Calls Try.prog 41 #[vt] w fun e w' => ∃ v', e = .returned v' ∧ Reads w' v' (encText t) ∧ Below w.heap.size w w' := by
  have HR : Hid (Reads w vt t) := hr
  have HL : Hid (t.length + 10 ≤ 140737488355328) := hl
  obtain ⟨at', capt, rfl, _, _, _⟩ := id hr
  obtain ⟨m, HM⟩ : ∃ m, Hid (m = t.length) := ⟨_, rfl⟩
  rw [← HM.out] at HR
  rw [← HM.out]
  have hm : m < 140737488355328 := by have := HL.out; have := HM.out; omega
  have hw : IntKind.u64.wrap (m : Int) = (m : Int) := by rw [IntKind.wrap_u64]; omega
  clear hr hl
  go_enter Try.func41, Try.ntmps41
  go_wp2_with fail
  refine (qnum_any m (by omega) w).mono ?_
  rintro e w1 ⟨v1, rfl, ho1, hb1⟩
  have r1 := ho1.reads
  obtain ⟨a1, c1, rfl, _, _, _⟩ := id r1
  obtain ⟨k1, HK1⟩ : ∃ k, Hid (k = (encNum m).length) := ⟨_, rfl⟩
  have HL2 : Hid (ReadsL (w1.alloc (.cells #[.slice a1 k1 c1, .slice at' m capt] 22)) (.slice (some ⟨w1.heap.size, 0, none⟩) 2 2) [encNum m, t]) := by
    rw [HK1.out]; exact readsL_two r1 (HR.out.below hb1)
  have HB1 : Hid (Below w.heap.size w w1) := hb1
  have HK : Hid (k1 ≤ 10) := by show _ ≤ _; rw [HK1.out]; exact enc_len10 m (by omega)
  clear ho1 hb1 r1
  rw [← HK1.out]
  go_wp2_with fail
  refine (rjoin_any _ _ _ HL2.out (by rw [fl2, ← HK1.out]; have := HK.out; have := HL.out; omega) (by simp)).mono ?_
  rintro e w2 ⟨v2, rfl, r2, b2⟩
  have HR2 : Hid (Reads w2 v2 (encText t)) := by
    show Reads _ _ _; unfold encText; rw [← HM.out]; simpa using r2
  have b3 := (below_alloc w1 (.cells #[.slice a1 k1 c1, .slice at' m capt] 22)).trans (b2.mono (by simp))
  have HB2 : Hid (Below w.heap.size w w2) := HB1.out.trans (b3.mono HB1.out.size)
  clear r2 b2 b3 HL2
  go_wp2
  go_ret
  exact ⟨_, rfl, HR2.out, HB2.out⟩
end Go.Proofs.Ytldbcglakeggaaa

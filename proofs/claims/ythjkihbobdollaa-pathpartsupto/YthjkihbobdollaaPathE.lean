/- The walks of the reference's Part and Same. -/
import Derived.Test.YthjkihbobdollaaPathD
namespace Go.Proofs.Ythjkihbobdollaa
open Go.RowKit
structure SpI (ds : List (List (BitVec 8))) (i : Int) (on : Bool) (w : World) (k : Nat) (v : Value) (W : World) : Prop where
  o1 : OwnD W w.heap.size v ((ds.take k).filter fun d => bitI d i == on)
  bel : Below w.heap.size w W
theorem SpI.next {ds : List (List (BitVec 8))} {i : Int} {on : Bool} {w : World} {k : Nat} {v : Value} {W W' : World} (h : SpI ds i on w k v W) (hb : Below W.heap.size W W') : SpI ds i on w k v W' :=
  ⟨h.o1.keep fun j _ hj => hb.block j hj, h.bel.trans (hb.mono h.bel.size)⟩
set_option maxRecDepth 100000 in
set_option maxHeartbeats 2000000 in
theorem sPart_any (v : Value) (ds : List (List (BitVec 8))) (i : Int) (on : Bool) (w : World) (hR : ReadsD w v ds) (hl : ds.length < 2000000) :
    Calls Try.prog 24 #[v, .int .i64 i, .bool on] w fun e w' => ∃ v1, e = .returned v1 ∧ ReadsD w' v1 (ds.filter fun d => bitI d i == on) ∧ Below w.heap.size w w' := by
  have HR : Hid (ReadsD w v ds) := hR
  have HL : Hid (ds.length < 2000000) := hl
  obtain ⟨⟨ad, cp, hv, q1, q2, q3⟩, q4⟩ := hR
  clear q1 q2 q3 q4
  obtain ⟨n, HN⟩ : ∃ n, Hid (n = ds.length) := ⟨_, rfl⟩
  rw [← HN.out] at hv
  subst hv
  clear hl
  go_enter Try.func24, Try.ntmps24
  go_wp2
  go_loopw [7, 8] (fun a j wr => ∃ k : Nat, k ≤ n ∧ j = .int .i64 (k : Int) ∧ SpI ds i on w k a wr) (fun _ j _ => n - (intOf j).toNat)
  case atStart => exact ⟨0, by omega, rfl, OwnD.nil _ _, Below.refl _ _⟩
  case round =>
    obtain ⟨k, hk, rfl, hI⟩ := hrel
    have HI : Hid (SpI ds i on w k u7 wr) := hI
    clear hI
    by_cases hlt : k < n
    · have hlti : (k : Int) < (n : Int) := by omega
      have k0 : (0 : Int) ≤ (k : Int) := by omega
      have hn6 : n < 2000000 := by rw [HN.out]; exact HL.out
      have f5 : IntKind.i64.wrap ((k : Int) + 1) = (k : Int) + 1 := wrap_small2 _ (by omega) (by omega)
      have HKL : Hid (k < ds.length) := by show _ < _; rw [← HN.out]; exact hlt
      obtain ⟨⟨ad1, cap1, hv1, _, _, hx1⟩, h32⟩ := HR.out
      rw [← HN.out] at hv1 hx1
      simp only [Value.slice.injEq, true_and] at hv1
      obtain ⟨rfl, rfl⟩ := hv1
      obtain ⟨b, off, rfl, hy1⟩ := hx1 (by omega)
      obtain ⟨d, HD⟩ : ∃ d, Hid (d = ds.getD k []) := ⟨_, rfl⟩
      have HD32 : Hid (d.length = 32) := by show _ = _; rw [HD.out]; exact getD_mem32 h32 HKL.out
      have HRA : Hid (wr.rangeAt b (off + k * 32) (cb d)) := by
        have h := hy1 k hlt
        rw [← HD.out] at h
        exact rangeAt_below h HI.out.bel (rangeAt_lt h HD32.out)
      clear hx1 hy1 h32
      obtain ⟨p, HP⟩ : ∃ p, Hid (bitI d i = p) := ⟨_, rfl⟩
      by_cases hpo : p = on
      · subst hpo
        go_wp2_with (first
          | (with_reducible refine wpSeq_loadAt (.tmp 17) b (off + k * 32) d ?_ ?_ ?_ ?_ ?_ ?_
             · exact HD32.out
             · exact HRA.out
             · with_reducible rfl
             · rfl
             · rfl)
          | (go_at_call 10; refine (sBit_any d HD32.out _ _).mono ?_; rintro e w7 ⟨rfl, hb7⟩; rw [HP.out]
             replace HRA : Hid (w7.rangeAt b (off + k * 32) (cb d)) := rangeAt_below HRA.out hb7 (rangeAt_lt HRA.out HD32.out)
             replace HI : Hid (SpI ds i p w k u7 w7) := HI.out.next hb7
             clear hb7)
          | (with_reducible refine wpSeq_loadAt (.tmp 26) b (off + k * 32) d ?_ ?_ ?_ ?_ ?_ ?_
             · exact HD32.out
             · exact HRA.out
             · with_reducible rfl
             · rfl
             · rfl)
          | (with_reducible refine wpSeq_buildD (.tmp 27) d ?_ ?_ ?_ ?_ ?_
             · exact HD32.out
             · with_reducible rfl
             · rfl
             · rfl
             intro g8 w8 n8
             replace HI : Hid (SpI ds i p w k u7 w8) := HI.out.next n8.below
             have H8 : Hid (Blk w8 g8 (cb d) 23) := n8.blk
             clear n8)
          | (with_reducible refine wpSeq_appendD (.tmp 23) (.tmp 28) w.heap.size u7 _ d g8 HI.out.o1 H8.out HD32.out ?_ HI.out.bel.size ?_ ?_ ?_ ?_ ?_
             · exact Nat.lt_of_le_of_lt (filter_le ds k _) HL.out
             · with_reducible rfl
             · rfl
             · rfl
             · rfl
             intro v9 w9 o9 g9
             have HJ : Hid (SpI ds i p w (k + 1) v9 w9) := ⟨by rw [take_next HKL.out, ← HD.out, HP.out]; simpa using o9, HI.out.bel.trans g9.below⟩
             clear o9 g9))
        go_roundw
        case rel => exact ⟨k + 1, by omega, by simp, HJ.out⟩
        case measure => simp [intOf]; omega
      · have hpo2 : (p == on) = false := by simpa using hpo
        have HPO : Hid ((p == on) = false) := hpo2
        go_wp2_with (first
          | (with_reducible refine wpSeq_loadAt (.tmp 17) b (off + k * 32) d ?_ ?_ ?_ ?_ ?_ ?_
             · exact HD32.out
             · exact HRA.out
             · with_reducible rfl
             · rfl
             · rfl)
          | (go_at_call 10; refine (sBit_any d HD32.out _ _).mono ?_; rintro e w7 ⟨rfl, hb7⟩; rw [HP.out]
             replace HRA : Hid (w7.rangeAt b (off + k * 32) (cb d)) := rangeAt_below HRA.out hb7 (rangeAt_lt HRA.out HD32.out)
             replace HI : Hid (SpI ds i on w k u7 w7) := HI.out.next hb7
             clear hb7))
        have HJ : Hid (SpI ds i on w (k + 1) u7 w7) := ⟨by rw [take_next HKL.out, ← HD.out, HP.out, HPO.out]; simpa using HI.out.o1, HI.out.bel⟩
        go_roundw
        case rel => exact ⟨k + 1, by omega, by simp, HJ.out⟩
        case measure => simp [intOf]; omega
    · have hkn : k = n := by omega
      subst hkn
      have ht : ds.take k = ds := by rw [HN.out]; exact List.take_length
      have HE : Hid (ReadsD wr u7 (ds.filter fun d => bitI d i == on)) := by
        have h1 := HI.out.o1.readsD
        rw [ht] at h1
        exact h1
      clear ht
      go_wp2
      go_ret
      exact ⟨u7, rfl, HE.out, HI.out.bel⟩
set_option maxRecDepth 100000 in
set_option maxHeartbeats 2000000 in
theorem sSame_same (va vb : Value) (ds : List (List (BitVec 8))) (w : World) (hA : ReadsD w va ds) (hB : ReadsD w vb ds) (hl : ds.length < 2000000) :
    Calls Try.prog 23 #[va, vb] w fun e w' => e = .returned (.bool true) ∧ Below w.heap.size w w' := by
  have HR : Hid (ReadsD w va ds) := hA
  have HS : Hid (ReadsD w vb ds) := hB
  have HL : Hid (ds.length < 2000000) := hl
  obtain ⟨⟨ad, cp, hv, q1, q2, q3⟩, q4⟩ := hA
  obtain ⟨⟨ad', cp', hv', q5, q6, q7⟩, q8⟩ := hB
  clear q1 q2 q3 q4 q5 q6 q7 q8
  obtain ⟨n, HN⟩ : ∃ n, Hid (n = ds.length) := ⟨_, rfl⟩
  rw [← HN.out] at hv hv'
  subst hv hv'
  clear hl
  go_enter Try.func23, Try.ntmps23
  go_wp2
  go_loopw [5] (fun j wr => ∃ k q : Nat, k ≤ n ∧ j = .int .i64 (k : Int) ∧ wr = w.drewN q) (fun j _ => n - (intOf j).toNat)
  case atStart => exact ⟨0, 0, by omega, rfl, rfl⟩
  case round =>
    obtain ⟨k, q, hk, rfl, hwr⟩ := hrel
    have HWR : Hid (wr = w.drewN q) := hwr
    clear hwr
    by_cases hlt : k < n
    · have hlti : (k : Int) < (n : Int) := by omega
      have k0 : (0 : Int) ≤ (k : Int) := by omega
      have hn6 : n < 2000000 := by rw [HN.out]; exact HL.out
      have f5 : IntKind.i64.wrap ((k : Int) + 1) = (k : Int) + 1 := wrap_small2 _ (by omega) (by omega)
      have HKL : Hid (k < ds.length) := by show _ < _; rw [← HN.out]; exact hlt
      obtain ⟨⟨ad1, cap1, hv1, _, _, hx1⟩, h32⟩ := HR.out
      rw [← HN.out] at hv1 hx1
      simp only [Value.slice.injEq, true_and] at hv1
      obtain ⟨rfl, rfl⟩ := hv1
      obtain ⟨b, off, rfl, hy1⟩ := hx1 (by omega)
      obtain ⟨d, HD⟩ : ∃ d, Hid (d = ds.getD k []) := ⟨_, rfl⟩
      have HD32 : Hid (d.length = 32) := by show _ = _; rw [HD.out]; exact getD_mem32 h32 HKL.out
      obtain ⟨⟨ad2, cap2, hv2, _, _, hx2⟩, _⟩ := HS.out
      rw [← HN.out] at hv2 hx2
      simp only [Value.slice.injEq, true_and] at hv2
      obtain ⟨rfl, rfl⟩ := hv2
      obtain ⟨b2, off2, rfl, hy2⟩ := hx2 (by omega)
      have HR1 : Hid (wr.drew.rangeAt b (off + k * 32) (cb d)) := by have := hy1 k hlt; rw [← HD.out] at this; show World.rangeAt _ _ _ _; rw [HWR.out]; exact this
      have HR2 : Hid (wr.drew.rangeAt b2 (off2 + k * 32) (cb d)) := by have := hy2 k hlt; rw [← HD.out] at this; show World.rangeAt _ _ _ _; rw [HWR.out]; exact this
      have heq : ∀ wx : World, (Op.equalIn 10000 23 (.agg (cb d).toArray) (.agg (cb d).toArray)).run Try.prog wx = .ok true wx := fun wx => eq_dig_same d HD32.out wx
      clear hx1 hx2 hy1 hy2 h32
      go_wp2_with fail
      refine wp_region_held_drew (S := fun wx => wx = wr.drew) (by kernel_rfl) rfl ?_
      intro hS
      refine wpAnyH_take (i := 0) (v := .slice (some ⟨b, off, none⟩) n cp) rfl (by kernel_rfl) (by kernel_rfl) (by kernel_rfl) (fun _ _ _ h => h) (Or.inl ⟨by rfl, fun wx hx => by simp [go_sem]⟩) hS ?_
      simp only [Act.put, List.getElem_toArray, List.getElem_cons_zero, List.setIfInBounds_toArray, List.set_cons_zero, List.set_cons_succ]
      refine wpAnyH_take (i := 1) (v := .int .i64 (k : Int)) rfl (by kernel_rfl) (by kernel_rfl) (by kernel_rfl) (fun _ _ _ h => h) (Or.inl ⟨by rfl, fun wx hx => by simp [go_sem]⟩) hS ?_
      simp only [Act.put, List.getElem_toArray, List.getElem_cons_succ, List.getElem_cons_zero, List.setIfInBounds_toArray, List.set_cons_zero, List.set_cons_succ]
      refine wpAnyH_take (i := 2) (v := .pointer (some ⟨b, off + k * 32, none⟩)) rfl (by kernel_rfl) (by kernel_rfl) (by kernel_rfl) (fun _ _ _ h => h) (Or.inl ⟨by rfl, fun wx hx => by simp [go_sem, hlti]⟩) hS ?_
      simp only [Act.put, List.getElem_toArray, List.getElem_cons_succ, List.getElem_cons_zero, List.setIfInBounds_toArray, List.set_cons_zero, List.set_cons_succ]
      refine wpAnyH_take (i := 3) (v := .agg (cb d).toArray) rfl (by kernel_rfl) (by kernel_rfl) (by kernel_rfl) (fun _ _ _ h => h) (Or.inl ⟨by rfl, fun wx hxx => by subst hxx; exact load_run 23 _ rfl b (off + k * 32) rfl (cb d) _ HR1.out Try.underlying23 rfl (by rw [cb_len, HD32.out]; exact info_digest)⟩) hS ?_
      simp only [Act.put, List.getElem_toArray, List.getElem_cons_succ, List.getElem_cons_zero, List.setIfInBounds_toArray, List.set_cons_zero, List.set_cons_succ]
      refine wpAnyH_take (i := 4) (v := (.slice (some ⟨b2, off2, none⟩) n cp')) rfl (by kernel_rfl) (by kernel_rfl) (by kernel_rfl) (fun _ _ _ h => h) (Or.inl ⟨by rfl, fun wx hx => by simp [go_sem]⟩) hS ?_
      simp only [Act.put, List.getElem_toArray, List.getElem_cons_succ, List.getElem_cons_zero, List.setIfInBounds_toArray, List.set_cons_zero, List.set_cons_succ]
      refine wpAnyH_take (i := 5) (v := .int .i64 (k : Int)) rfl (by kernel_rfl) (by kernel_rfl) (by kernel_rfl) (fun _ _ _ h => h) (Or.inl ⟨by rfl, fun wx hx => by simp [go_sem]⟩) hS ?_
      simp only [Act.put, List.getElem_toArray, List.getElem_cons_succ, List.getElem_cons_zero, List.setIfInBounds_toArray, List.set_cons_zero, List.set_cons_succ]
      refine wpAnyH_take (i := 6) (v := .pointer (some ⟨b2, off2 + k * 32, none⟩)) rfl (by kernel_rfl) (by kernel_rfl) (by kernel_rfl) (fun _ _ _ h => h) (Or.inl ⟨by rfl, fun wx hx => by simp [go_sem, hlti]⟩) hS ?_
      simp only [Act.put, List.getElem_toArray, List.getElem_cons_succ, List.getElem_cons_zero, List.setIfInBounds_toArray, List.set_cons_zero, List.set_cons_succ]
      refine wpAnyH_take (i := 7) (v := .agg (cb d).toArray) rfl (by kernel_rfl) (by kernel_rfl) (by kernel_rfl) (fun _ _ _ h => h) (Or.inl ⟨by rfl, fun wx hxx => by subst hxx; exact load_run 23 _ rfl b2 (off2 + k * 32) rfl (cb d) _ HR2.out Try.underlying23 rfl (by rw [cb_len, HD32.out]; exact info_digest)⟩) hS ?_
      simp only [Act.put, List.getElem_toArray, List.getElem_cons_succ, List.getElem_cons_zero, List.setIfInBounds_toArray, List.set_cons_zero, List.set_cons_succ]
      refine wpAnyH_take (i := 8) (v := .bool false) rfl (by kernel_rfl) (by kernel_rfl) (by kernel_rfl) (fun _ _ _ h => h) (Or.inl ⟨by rfl, fun wx hx => by simp [go_sem, heq]⟩) hS ?_
      simp only [Act.put, List.getElem_toArray, List.getElem_cons_succ, List.getElem_cons_zero, List.setIfInBounds_toArray, List.set_cons_zero, List.set_cons_succ]
      refine wpAnyH_done (by kernel_rfl) ?_ _
      go_wp2
      go_roundw
      case rel => exact ⟨k + 1, q + 1, by omega, by simp, by rw [HWR.out]; rfl⟩
      case measure => simp [intOf]; omega
    · have hkn : k = n := by omega
      subst hkn
      go_wp2
      go_ret
      exact ⟨rfl, by rw [HWR.out]; exact ⟨rfl, rfl, rfl, Nat.le_refl _, fun _ _ => rfl⟩⟩
end Go.Proofs.Ythjkihbobdollaa

/- Texts that the proof leans on, one behind the other: Where the records lie that the reference reads (layer 14). The law StoreOpens (layer 15). What the listed variable gives: the rounds' words lie where the walks look for them. .. -/
import Derived.Test.YtopmeedmgjdcgaaGreatDoorMyc
import Derived.Test.YtopmeedmgjdcgaaGreatDoorMyd
import Derived.Test.YtopmeedmgjdcgaaGreatDoorMyh
import Derived.Test.YtopmeedmgjdcgaaGreatDoorRows
import Derived.Test.YtopmeedmgjdcgaaGreatDoorMya
import Derived.ProofKit
import Derived.LaidMore
import Derived.OpenShut
import Derived.Stop.Joined
import Derived.Lib.LaidTab
import Derived.Carry
import Derived.ChangeSlices
import Derived.Test.YtopmeedmgjdcgaaGreatDoorMyg
import Derived.Deep.Slices
import Derived.Deep.Strs
import Derived.Lib.SmallJoins
/- Where the records lie that the reference reads (layer 14). -/
namespace Go.Proofs.YtopmeedmgjdcgaaGreatDoor
open Go.RowKit
set_option maxRecDepth 100000
def TxE (base : Nat) (v : Value) (xs : List Bs) (W : World) : Prop := ∃ us, TxJ base v us xs W
set_option maxRecDepth 100000 in
set_option maxHeartbeats 8000000 in
theorem nRecords_t (gen : Nat) (hg : gen < 18446744073709551616) (bb off H c : Nat) (half : Bs) (hl : 64 ≤ half.length) (hl2 : half.length < 60000000) (w : World) (hr : Reads w (.slice (some ⟨bb, off, none⟩) H c) half) : Calls Tryz.prog 57 #[.int .u64 (gen : Int), .slice (some ⟨bb, off, none⟩) H c] w fun e w' => ∃ v, e = .returned (.tuple #[v, .int .i64 ((recsOf gen half).2 : Int)]) ∧ TxE w.heap.size v (recsOf gen half).1 w' ∧ Below w.heap.size w w' := by
  have hnh : H = half.length := by obtain ⟨_, cp, hv, _⟩ := hr; simp only [Value.slice.injEq] at hv; exact hv.2.1
  have HNC : Hid (H ≤ c) := by obtain ⟨_, cp, hv, hc, _⟩ := hr; simp only [Value.slice.injEq] at hv; show _ ≤ _; rw [hnh, hv.2.2]; exact hc
  have HHL : Hid (H = half.length) := hnh
  have HB8 : Hid (64 ≤ H ∧ H < 60000000) := ⟨by omega, by omega⟩
  have HG : Hid (gen < 18446744073709551616) := hg
  have HR : Hid (Reads w (.slice (some ⟨bb, off, none⟩) H c) half) := hr
  have HRE0 : Hid (recsOf gen half = ([] ++ (recsL gen half (H / 64) 64 ([] : List Bs).length).1, (recsL gen half (H / 64) 64 ([] : List Bs).length).2)) := by show _ = _; rw [recsOf, ← hnh]; rfl
  have HTX0 : Hid (TxJ w.heap.size (.slice none 0 0) [] [] w) := TxJ.nil (Nat.le_refl _)
  clear hr hl hl2 hnh hg
  go_enter Tryz.func57, Tryz.ntmps57
  go_wp2
  go_loopw [6, 7] (fun lv i wr => ∃ (xa : Option Addr) (kn xc : Nat) (us : List Value) (xs : List Bs) (p f : Nat), kn = xs.length ∧ lv = .slice xa kn xc ∧ i = .int .i64 (p : Int) ∧ p = 64 + sizeL xs ∧ p ≤ H ∧ f + kn = H / 64 ∧ Hid (TxJ w.heap.size (.slice xa kn xc) us xs wr) ∧ Hid (recsOf gen half = (xs ++ (recsL gen half f p kn).1, (recsL gen half f p kn).2)) ∧ Hid (Below w.heap.size w wr)) (fun _ i _ => H - (intOf i).toNat)
  case atStart => exact ⟨none, 0, 0, [], [], 64, H / 64, rfl, rfl, rfl, rfl, HB8.out.1, rfl, HTX0, HRE0, Below.refl _ _⟩
  case round =>
    obtain ⟨xa, kn, xc, us, xs, p, f, hkn, rfl, rfl, hp, hpH, hfk, HTX, HRE, HBB⟩ := hrel
    have HKN : Hid (kn = xs.length) := hkn
    have HPP : Hid (p = 64 + sizeL xs ∧ p ≤ H ∧ f + kn = H / 64) := ⟨hp, hpH, hfk⟩
    clear hkn hp hpH hfk HRE0 HTX0
    obtain ⟨p64, HP64⟩ : ∃ m, Hid (m = p + 64) := ⟨_, rfl⟩
    have hb8 := HB8.out
    have hpp := HPP.out.2.1
    have f1 : IntKind.i64.wrap ((p : Int) + 64) = (p64 : Int) := aJ HP64.out (by have := HP64.out; omega)
    by_cases h1 : p64 ≤ H
    case neg =>
      have q1 : ¬ ((p64 : Int) ≤ (H : Int)) := by omega
      have HZ : Hid (recsL gen half f p kn = ([], p)) := recs_zero (by rw [← HHL.out, ← HP64.out]; exact h1)
      clear hb8 hpp
      go_wp2
      have HRF : recsOf gen half = (xs, p) := by rw [HRE.out, HZ.out, List.append_nil]
      rw [HRF]
      refine bodyPost_ret (results_tmp2 rfl _ _ _) rfl ?_
      exact ⟨_, rfl, ⟨_, HTX.out⟩, HBB.out⟩
    case pos =>
      have q1 : (p64 : Int) ≤ (H : Int) := by omega
      obtain ⟨f', rfl⟩ : ∃ f', f = f' + 1 := by
        cases f with
        | zero =>
          exfalso
          have h5 := HPP.out
          have h6 := sizeL_ge xs
          have h7 := HKN.out
          have h8 := HP64.out
          omega
        | succ f => exact ⟨f, rfl⟩
      obtain ⟨p49, HP49⟩ : ∃ m, Hid (m = p + 49) := ⟨_, rfl⟩
      obtain ⟨p57, HP57⟩ : ∃ m, Hid (m = p + 57) := ⟨_, rfl⟩
      have f2 : IntKind.i64.wrap ((p : Int) + 49) = (p49 : Int) := aJ HP49.out (by have := HP49.out; omega)
      have f3 : IntKind.i64.wrap ((p : Int) + 57) = (p57 : Int) := aJ HP57.out (by have := HP57.out; omega)
      have hp64 := HP64.out
      have HL8 : Hid (((half.drop (p + 49)).take 8).length = 8) := by show _ = _; rw [List.length_take, List.length_drop, ← HHL.out]; omega
      obtain ⟨n, HNN⟩ : ∃ n, Hid (n = rdNum ((half.drop (p + 49)).take 8)) := ⟨_, rfl⟩
      have HNM : Hid (Calls Tryz.prog 83 #[.slice (some ⟨bb, off + p49, none⟩) 8 (c - p49)] wr fun e w' => e = .returned (.int .u64 (n : Int)) ∧ w' = wr) := by
        rw [HNN.out]
        refine nNumber_any bb (off + p49) (c - p49) _ HL8.out wr ?_
        have h9 := (HR.out.below HBB.out).cutJ (p + 49) 8 (c - p49) (by rw [← HHL.out]; omega) (by have := HNC.out; have := HP49.out; omega)
        rw [HP49.out] at h9 ⊢
        exact h9
      have HC1 : Hid (0 < 8 ∧ p49 + 8 ≤ H ∧ (p57 : Int) = ((p49 + 8 : Nat) : Int)) := by have h1 := HP49.out; have h2 := HP57.out; exact ⟨by decide, by omega, by omega⟩
      obtain ⟨hq, HHQ⟩ : ∃ q, Hid (q = H - p) := ⟨_, rfl⟩
      obtain ⟨hq2, HHQ2⟩ : ∃ q, Hid (q = hq - 57) := ⟨_, rfl⟩
      have hhq := HHQ.out
      have hhq2 := HHQ2.out
      have f4 : IntKind.i64.wrap ((H : Int) - (p : Int)) = (hq : Int) := sJ (by omega) (by omega)
      have f5 : IntKind.i64.wrap ((hq : Int) - 57) = (hq2 : Int) := sJ (b := 57) (by omega) (by omega)
      have f6 : IntKind.u64.wrap (hq2 : Int) = (hq2 : Int) := uJ (by omega)
      by_cases h2 : n = 0 ∨ hq2 < n
      · have HZ : Hid (recsL gen half (f' + 1) p kn = ([], p)) := by
          show _ = _
          rw [recsL, if_pos (by rw [← HHL.out]; omega), ← HNN.out, if_pos (by rw [← HHL.out]; omega)]
        clear hb8 hpp hp64 hhq hhq2
        by_cases hn0 : n = 0
        · subst hn0
          have tk0 : Hid True := trivial
          have tk1 : Hid True := trivial
          go_wp2_with (first
    | (clear tk0; with_reducible refine wpSeq_cut (.tmp 17) (.tmp 19) (.tmp 21) bb off H c p49 8 (p49 : Int) (p57 : Int) rfl HC1.out.2.2 HC1.out.1 HC1.out.2.1 HNC.out ?_ ?_ ?_ ?_ ?_ ?_
       · rfl
       · rfl
       · rfl
       · rfl
       · rfl)
    | (clear tk1; go_at_call 83; refine (HNM.out).mono ?_; rintro e0 y0 ⟨rfl, hy0⟩; subst hy0))
          have HRF : recsOf gen half = (xs, p) := by rw [HRE.out, HZ.out, List.append_nil]
          rw [HRF]
          refine bodyPost_ret (results_tmp2 rfl _ _ _) rfl ?_
          exact ⟨_, rfl, ⟨_, HTX.out⟩, HBB.out⟩
        · have q2 : ((n : Int) == 0) = false := by rw [beq_eq_false_iff_ne]; omega
          have q3 : (hq2 : Int) < (n : Int) := by omega
          have tk0 : Hid True := trivial
          have tk1 : Hid True := trivial
          go_wp2_with (first
    | (clear tk0; with_reducible refine wpSeq_cut (.tmp 17) (.tmp 19) (.tmp 21) bb off H c p49 8 (p49 : Int) (p57 : Int) rfl HC1.out.2.2 HC1.out.1 HC1.out.2.1 HNC.out ?_ ?_ ?_ ?_ ?_ ?_
       · rfl
       · rfl
       · rfl
       · rfl
       · rfl)
    | (clear tk1; go_at_call 83; refine (HNM.out).mono ?_; rintro e0 y0 ⟨rfl, hy0⟩; subst hy0))
          have HRF : recsOf gen half = (xs, p) := by rw [HRE.out, HZ.out, List.append_nil]
          rw [HRF]
          refine bodyPost_ret (results_tmp2 rfl _ _ _) rfl ?_
          exact ⟨_, rfl, ⟨_, HTX.out⟩, HBB.out⟩
      · have q2 : ((n : Int) == 0) = false := by rw [beq_eq_false_iff_ne]; omega
        have q3 : ¬ ((hq2 : Int) < (n : Int)) := by omega
        have hnp : 0 < n := by omega
        have f7 : IntKind.i64.wrap (n : Int) = (n : Int) := iJ (by omega)
        obtain ⟨pn, HPN⟩ : ∃ m, Hid (m = p57 + n) := ⟨_, rfl⟩
        have hp57 := HP57.out
        have f8 : IntKind.i64.wrap ((p57 : Int) + (n : Int)) = (pn : Int) := aJ HPN.out (by have := HPN.out; omega)
        have f9 : IntKind.u64.wrap (kn : Int) = (kn : Int) := uJ (by have := HPP.out.2.2; omega)
        have HC2 : Hid (0 < n ∧ p57 + n ≤ H ∧ (pn : Int) = ((p57 + n : Nat) : Int)) := by have := HPN.out; exact ⟨hnp, by omega, by omega⟩
        obtain ⟨x, HXX⟩ : ∃ x, Hid (x = (half.drop (p + 57)).take n) := ⟨_, rfl⟩
        have HXL : Hid (x.length = n) := by show _ = _; rw [HXX.out, List.length_take, List.length_drop, ← HHL.out]; omega
        have HXR : Hid (Reads wr (.slice (some ⟨bb, off + p57, none⟩) n (c - p57)) x) := by
          have h9 := (HR.out.below HBB.out).cutJ (p + 57) n (c - p57) (by rw [← HHL.out]; omega) (by have := HNC.out; have := HP57.out; omega)
          rw [HXX.out]
          rw [HP57.out] at h9 ⊢
          exact h9
        have HRC : Hid (Calls Tryz.prog 84 #[.int .u64 (gen : Int), .int .u64 (kn : Int), .slice (some ⟨bb, off + p57, none⟩) n (c - p57)] wr fun e w' => ∃ v', e = .returned v' ∧ Reads w' v' (recB gen kn x) ∧ Below wr.heap.size wr w') := nRecord_any gen kn HG.out (by have := HPP.out.2.2; omega) _ x (by rw [HXL.out]; omega) wr HXR.out
        obtain ⟨rc, HRR⟩ : ∃ r, Hid (r = recB gen kn x) := ⟨_, rfl⟩
        obtain ⟨rl, HRL⟩ : ∃ r, Hid (r = rc.length) := ⟨_, rfl⟩
        have HRLE : Hid (rl = 64 * secR n) := by show _ = _; rw [HRL.out, HRR.out, len_recB, HXL.out]
        have HRLB : Hid (0 < rl ∧ rl < 160000000) := by have h1 := HRLE.out; unfold secR at h1; exact ⟨by omega, by omega⟩
        rw [← HRR.out] at HRC
        obtain ⟨pr, HPR⟩ : ∃ m, Hid (m = p + rl) := ⟨_, rfl⟩
        have f10 : IntKind.i64.wrap ((p : Int) + (rl : Int)) = (pr : Int) := aJ HPR.out (by have h1 := HPR.out; have h2 := HRLB.out; omega)
        have hz9 : recsL gen half (f' + 1) p kn = if half.length < p + rl ∨ (half.drop p).take rl ≠ rc then ([], p) else (x :: (recsL gen half f' (p + rl) (kn + 1)).1, (recsL gen half f' (p + rl) (kn + 1)).2) := by
          rw [recsL, if_pos (by rw [← HHL.out]; omega), ← HNN.out, if_neg (by rw [← HHL.out]; omega), ← HXX.out, ← HRR.out, ← HRL.out]
        have HZ9 : Hid (recsL gen half (f' + 1) p kn = if H < pr ∨ (half.drop p).take rl ≠ rc then ([], p) else (x :: (recsL gen half f' pr (kn + 1)).1, (recsL gen half f' pr (kn + 1)).2)) := by rw [HHL.out, HPR.out]; exact hz9
        clear hz9 hb8 hp64 hhq hhq2 hp57 hnp h2
        have tk0 : Hid True := trivial
        have tk1 : Hid True := trivial
        have tk2 : Hid True := trivial
        have tk3 : Hid True := trivial
        go_wp2_with (first
    | (clear tk0; with_reducible refine wpSeq_cut (.tmp 17) (.tmp 19) (.tmp 21) bb off H c p49 8 (p49 : Int) (p57 : Int) rfl HC1.out.2.2 HC1.out.1 HC1.out.2.1 HNC.out ?_ ?_ ?_ ?_ ?_ ?_
       · rfl
       · rfl
       · rfl
       · rfl
       · rfl)
    | (clear tk1; go_at_call 83; refine (HNM.out).mono ?_; rintro e0 y0 ⟨rfl, hy0⟩; subst hy0)
    | (clear tk2; with_reducible refine wpSeq_cut (.tmp 36) (.tmp 38) (.tmp 43) bb off H c p57 n (p57 : Int) (pn : Int) rfl HC2.out.2.2 HC2.out.1 HC2.out.2.1 HNC.out ?_ ?_ ?_ ?_ ?_ ?_
       · rfl
       · rfl
       · rfl
       · rfl
       · rfl)
    | (clear tk3; go_at_call 84; refine (HRC.out).mono ?_; rintro e0 y2 ⟨v2, rfl, hr2, hz⟩
       obtain ⟨a2, c2, hv⟩ : ∃ ad c, v2 = .slice ad rl c := by obtain ⟨a, c, hv, _⟩ := hr2; rw [← HRL.out] at hv; exact ⟨a, c, hv⟩
       subst hv
       have HR2 : Hid (Reads y2 (.slice a2 rl c2) rc) := hr2
       replace HTX : Hid (TxJ w.heap.size (.slice xa kn xc) us xs y2) := HTX.out.next hz
       replace HXR : Hid (Reads y2 (.slice (some ⟨bb, off + p57, none⟩) n (c - p57)) x) := HXR.out.below hz
       replace HBB : Hid (Below w.heap.size w y2) := HBB.out.trans (hz.mono HBB.out.size)
       clear hr2 hz HNM HRC)
    | fail)
        refine wp_region_held_drew (S := Over (World.drew y2)) (by kernel_rfl) (Over.refl _) ?_
        intro hS
        replace HR2 : Hid (Reads (World.drew y2) (.slice a2 rl c2) rc) := HR2.out
        replace HTX : Hid (TxJ w.heap.size (.slice xa kn xc) us xs (World.drew y2)) := ⟨HTX.out.own, HTX.out.len, HTX.out.good, HTX.out.ge⟩
        replace HXR : Hid (Reads (World.drew y2) (.slice (some ⟨bb, off + p57, none⟩) n (c - p57)) x) := HXR.out
        replace HBB : Hid (Below w.heap.size w (World.drew y2)) := HBB.out.drew
        change wpAnyH _ _ _ _ _ _ _ _ (World.drew y2)
        generalize World.drew y2 = y3 at *
        refine wpAnyH_take (i := 0) (v := .int .i64 (p : Int)) rfl (by kernel_rfl) (by kernel_rfl) (by kernel_rfl) (fun _ _ _ h => h) (Or.inl ⟨by rfl, fun wx hx => by simp [go_sem]⟩) hS ?_
        simp only [Act.put, List.getElem_toArray, List.getElem_cons_zero, List.setIfInBounds_toArray, List.set_cons_zero, List.set_cons_succ]
        refine wpAnyH_take (i := 1) (v := .slice a2 rl c2) rfl (by kernel_rfl) (by kernel_rfl) (by kernel_rfl) (fun _ _ _ h => h) (Or.inl ⟨by rfl, fun wx hx => by simp [go_sem]⟩) hS ?_
        simp only [Act.put, List.getElem_toArray, List.getElem_cons_succ, List.getElem_cons_zero, List.setIfInBounds_toArray, List.set_cons_zero, List.set_cons_succ]
        refine wpAnyH_take (i := 2) (v := .int .i64 (rl : Int)) rfl (by kernel_rfl) (by kernel_rfl) (by kernel_rfl) (fun _ _ _ h => h) (Or.inl ⟨by rfl, fun wx hx => by simp [go_sem]⟩) hS ?_
        simp only [Act.put, List.getElem_toArray, List.getElem_cons_succ, List.getElem_cons_zero, List.setIfInBounds_toArray, List.set_cons_zero, List.set_cons_succ]
        refine wpAnyH_take (i := 3) (v := .int .i64 (pr : Int)) rfl (by kernel_rfl) (by kernel_rfl) (by kernel_rfl) (fun _ _ _ h => h) (Or.inl ⟨by rfl, fun wx hx => by simp [go_sem, f10]⟩) hS ?_
        simp only [Act.put, List.getElem_toArray, List.getElem_cons_succ, List.getElem_cons_zero, List.setIfInBounds_toArray, List.set_cons_zero, List.set_cons_succ]
        refine wpAnyH_take (i := 4) (v := .slice (some ⟨bb, off, none⟩) H c) rfl (by kernel_rfl) (by kernel_rfl) (by kernel_rfl) (fun _ _ _ h => h) (Or.inl ⟨by rfl, fun wx hx => by simp [go_sem]⟩) hS ?_
        simp only [Act.put, List.getElem_toArray, List.getElem_cons_succ, List.getElem_cons_zero, List.setIfInBounds_toArray, List.set_cons_zero, List.set_cons_succ]
        refine wpAnyH_take (i := 5) (v := .int .i64 (H : Int)) rfl (by kernel_rfl) (by kernel_rfl) (by kernel_rfl) (fun _ _ _ h => h) (Or.inl ⟨by rfl, fun wx hx => by simp [go_sem]⟩) hS ?_
        simp only [Act.put, List.getElem_toArray, List.getElem_cons_succ, List.getElem_cons_zero, List.setIfInBounds_toArray, List.set_cons_zero, List.set_cons_succ]
        by_cases h3 : H < pr
        · have q4 : (H : Int) < (pr : Int) := by omega
          have HZ : Hid (recsL gen half (f' + 1) p kn = ([], p)) := by show _ = _; rw [HZ9.out, if_pos (Or.inl h3)]
          refine wpAnyH_take (i := 6) (v := .bool true) rfl (by kernel_rfl) (by kernel_rfl) (by kernel_rfl) (fun _ _ _ h => h) (Or.inl ⟨by rfl, fun wx hx => by simp [go_sem, q4]⟩) hS ?_
          simp only [Act.put, List.getElem_toArray, List.getElem_cons_succ, List.getElem_cons_zero, List.setIfInBounds_toArray, List.set_cons_zero, List.set_cons_succ]
          refine wpAnyH_take (i := 7) (v := .bool true) rfl (by kernel_rfl) (by kernel_rfl) (by kernel_rfl) (fun _ _ _ h => h) (Or.inl ⟨by rfl, fun wx hx => by simp [go_sem]⟩) hS ?_
          simp only [Act.put, List.getElem_toArray, List.getElem_cons_succ, List.getElem_cons_zero, List.setIfInBounds_toArray, List.set_cons_zero, List.set_cons_succ]
          refine wpAnyH_take (i := 8) (v := undef) rfl (by kernel_rfl) (by kernel_rfl) (by kernel_rfl) (fun _ _ _ h => h) (Or.inr ⟨by rfl, rfl⟩) hS ?_
          simp only [Act.put, List.getElem_toArray, List.getElem_cons_succ, List.getElem_cons_zero, List.setIfInBounds_toArray, List.set_cons_zero, List.set_cons_succ]
          refine wpAnyH_take (i := 9) (v := undef) rfl (by kernel_rfl) (by kernel_rfl) (by kernel_rfl) (fun _ _ _ h => h) (Or.inr ⟨by rfl, rfl⟩) hS ?_
          simp only [Act.put, List.getElem_toArray, List.getElem_cons_succ, List.getElem_cons_zero, List.setIfInBounds_toArray, List.set_cons_zero, List.set_cons_succ]
          refine wpAnyH_take (i := 10) (v := undef) rfl (by kernel_rfl) (by kernel_rfl) (by kernel_rfl) (fun _ _ _ h => h) (Or.inr ⟨by rfl, rfl⟩) hS ?_
          simp only [Act.put, List.getElem_toArray, List.getElem_cons_succ, List.getElem_cons_zero, List.setIfInBounds_toArray, List.set_cons_zero, List.set_cons_succ]
          refine wpAnyH_take (i := 11) (v := undef) rfl (by kernel_rfl) (by kernel_rfl) (by kernel_rfl) (fun _ _ _ h => h) (Or.inr ⟨by rfl, rfl⟩) hS ?_
          simp only [Act.put, List.getElem_toArray, List.getElem_cons_succ, List.getElem_cons_zero, List.setIfInBounds_toArray, List.set_cons_zero, List.set_cons_succ]
          refine wpAnyH_take (i := 12) (v := undef) rfl (by kernel_rfl) (by kernel_rfl) (by kernel_rfl) (fun _ _ _ h => h) (Or.inr ⟨by rfl, rfl⟩) hS ?_
          simp only [Act.put, List.getElem_toArray, List.getElem_cons_succ, List.getElem_cons_zero, List.setIfInBounds_toArray, List.set_cons_zero, List.set_cons_succ]
          refine wpAnyH_take (i := 13) (v := undef) rfl (by kernel_rfl) (by kernel_rfl) (by kernel_rfl) (fun _ _ _ h => h) (Or.inr ⟨by rfl, rfl⟩) hS ?_
          simp only [Act.put, List.getElem_toArray, List.getElem_cons_succ, List.getElem_cons_zero, List.setIfInBounds_toArray, List.set_cons_zero, List.set_cons_succ]
          refine wpAnyH_take (i := 14) (v := undef) rfl (by kernel_rfl) (by kernel_rfl) (by kernel_rfl) (fun _ _ _ h => h) (Or.inr ⟨by rfl, rfl⟩) hS ?_
          simp only [Act.put, List.getElem_toArray, List.getElem_cons_succ, List.getElem_cons_zero, List.setIfInBounds_toArray, List.set_cons_zero, List.set_cons_succ]
          refine wpAnyH_take (i := 15) (v := undef) rfl (by kernel_rfl) (by kernel_rfl) (by kernel_rfl) (fun _ _ _ h => h) (Or.inr ⟨by rfl, rfl⟩) hS ?_
          simp only [Act.put, List.getElem_toArray, List.getElem_cons_succ, List.getElem_cons_zero, List.setIfInBounds_toArray, List.set_cons_zero, List.set_cons_succ]
          refine wpAnyH_take (i := 16) (v := undef) rfl (by kernel_rfl) (by kernel_rfl) (by kernel_rfl) (fun _ _ _ h => h) (Or.inr ⟨by rfl, rfl⟩) hS ?_
          simp only [Act.put, List.getElem_toArray, List.getElem_cons_succ, List.getElem_cons_zero, List.setIfInBounds_toArray, List.set_cons_zero, List.set_cons_succ]
          refine wpAnyH_take (i := 17) (v := undef) rfl (by kernel_rfl) (by kernel_rfl) (by kernel_rfl) (fun _ _ _ h => h) (Or.inr ⟨by rfl, rfl⟩) hS ?_
          simp only [Act.put, List.getElem_toArray, List.getElem_cons_succ, List.getElem_cons_zero, List.setIfInBounds_toArray, List.set_cons_zero, List.set_cons_succ]
          refine wpAnyH_take (i := 18) (v := undef) rfl (by kernel_rfl) (by kernel_rfl) (by kernel_rfl) (fun _ _ _ h => h) (Or.inr ⟨by rfl, rfl⟩) hS ?_
          simp only [Act.put, List.getElem_toArray, List.getElem_cons_succ, List.getElem_cons_zero, List.setIfInBounds_toArray, List.set_cons_zero, List.set_cons_succ]
          refine wpAnyH_take (i := 19) (v := .bool true) rfl (by kernel_rfl) (by kernel_rfl) (by kernel_rfl) (fun _ _ _ h => h) (Or.inl ⟨by rfl, fun wx hx => by simp [go_sem]⟩) hS ?_
          simp only [Act.put, List.getElem_toArray, List.getElem_cons_succ, List.getElem_cons_zero, List.setIfInBounds_toArray, List.set_cons_zero, List.set_cons_succ]
          refine wpAnyH_done (by kernel_rfl) ?_ _
          clear hS
          go_wp2
          have HRF : recsOf gen half = (xs, p) := by rw [HRE.out, HZ.out, List.append_nil]
          rw [HRF]
          refine bodyPost_ret (results_tmp2 rfl _ _ _) rfl ?_
          exact ⟨_, rfl, ⟨_, HTX.out⟩, HBB.out⟩
        · have q4 : ¬ ((H : Int) < (pr : Int)) := by omega
          have HC3 : Hid (0 < rl ∧ p + rl ≤ H ∧ (pr : Int) = ((p + rl : Nat) : Int)) := by have h1 := HPR.out; have h2 := HRLB.out; exact ⟨h2.1, by omega, by omega⟩
          obtain ⟨z, HZZ⟩ : ∃ z, Hid (z = (half.drop p).take rl) := ⟨_, rfl⟩
          have HZR : Hid (Reads y3 (.slice (some ⟨bb, off + p, none⟩) rl (c - p)) z) := by
            rw [HZZ.out]
            exact (HR.out.below HBB.out).cutJ p rl (c - p) (by rw [← HHL.out]; exact HC3.out.2.1) (by have h1 := HNC.out; have h2 := HC3.out.2.1; omega)
          have hs := strB_inj z rc
          refine wpAnyH_take (i := 6) (v := .bool false) rfl (by kernel_rfl) (by kernel_rfl) (by kernel_rfl) (fun _ _ _ h => h) (Or.inl ⟨by rfl, fun wx hx => by simp [go_sem, q4]⟩) hS ?_
          simp only [Act.put, List.getElem_toArray, List.getElem_cons_succ, List.getElem_cons_zero, List.setIfInBounds_toArray, List.set_cons_zero, List.set_cons_succ]
          refine wpAnyH_take (i := 7) (v := .bool false) rfl (by kernel_rfl) (by kernel_rfl) (by kernel_rfl) (fun _ _ _ h => h) (Or.inl ⟨by rfl, fun wx hx => by simp [go_sem]⟩) hS ?_
          simp only [Act.put, List.getElem_toArray, List.getElem_cons_succ, List.getElem_cons_zero, List.setIfInBounds_toArray, List.set_cons_zero, List.set_cons_succ]
          refine wpAnyH_take (i := 8) (v := .slice (some ⟨bb, off, none⟩) H c) rfl (by kernel_rfl) (by kernel_rfl) (by kernel_rfl) (fun _ _ _ h => h) (Or.inl ⟨by rfl, fun wx hx => by simp [go_sem]⟩) hS ?_
          simp only [Act.put, List.getElem_toArray, List.getElem_cons_succ, List.getElem_cons_zero, List.setIfInBounds_toArray, List.set_cons_zero, List.set_cons_succ]
          refine wpAnyH_take (i := 9) (v := .int .i64 (p : Int)) rfl (by kernel_rfl) (by kernel_rfl) (by kernel_rfl) (fun _ _ _ h => h) (Or.inl ⟨by rfl, fun wx hx => by simp [go_sem]⟩) hS ?_
          simp only [Act.put, List.getElem_toArray, List.getElem_cons_succ, List.getElem_cons_zero, List.setIfInBounds_toArray, List.set_cons_zero, List.set_cons_succ]
          refine wpAnyH_take (i := 10) (v := .int .i64 (p : Int)) rfl (by kernel_rfl) (by kernel_rfl) (by kernel_rfl) (fun _ _ _ h => h) (Or.inl ⟨by rfl, fun wx hx => by simp [go_sem]⟩) hS ?_
          simp only [Act.put, List.getElem_toArray, List.getElem_cons_succ, List.getElem_cons_zero, List.setIfInBounds_toArray, List.set_cons_zero, List.set_cons_succ]
          refine wpAnyH_take (i := 11) (v := .slice a2 rl c2) rfl (by kernel_rfl) (by kernel_rfl) (by kernel_rfl) (fun _ _ _ h => h) (Or.inl ⟨by rfl, fun wx hx => by simp [go_sem]⟩) hS ?_
          simp only [Act.put, List.getElem_toArray, List.getElem_cons_succ, List.getElem_cons_zero, List.setIfInBounds_toArray, List.set_cons_zero, List.set_cons_succ]
          refine wpAnyH_take (i := 12) (v := .int .i64 (rl : Int)) rfl (by kernel_rfl) (by kernel_rfl) (by kernel_rfl) (fun _ _ _ h => h) (Or.inl ⟨by rfl, fun wx hx => by simp [go_sem]⟩) hS ?_
          simp only [Act.put, List.getElem_toArray, List.getElem_cons_succ, List.getElem_cons_zero, List.setIfInBounds_toArray, List.set_cons_zero, List.set_cons_succ]
          refine wpAnyH_take (i := 13) (v := .int .i64 (pr : Int)) rfl (by kernel_rfl) (by kernel_rfl) (by kernel_rfl) (fun _ _ _ h => h) (Or.inl ⟨by rfl, fun wx hx => by simp [go_sem, f10]⟩) hS ?_
          simp only [Act.put, List.getElem_toArray, List.getElem_cons_succ, List.getElem_cons_zero, List.setIfInBounds_toArray, List.set_cons_zero, List.set_cons_succ]
          refine wpAnyH_take (i := 14) (v := .slice (some ⟨bb, off + p, none⟩) rl (c - p)) rfl (by kernel_rfl) (by kernel_rfl) (by kernel_rfl) (fun _ _ _ h => h) (Or.inl ⟨by rfl, fun wx hx => by exact cutMid bb off H c p rl HC3.out.1 HC3.out.2.1 HNC.out (p : Int) (pr : Int) rfl HC3.out.2.2 _ _ _ _ _ rfl rfl rfl rfl _⟩) hS ?_
          simp only [Act.put, List.getElem_toArray, List.getElem_cons_succ, List.getElem_cons_zero, List.setIfInBounds_toArray, List.set_cons_zero, List.set_cons_succ]
          refine wpAnyH_take (i := 15) (v := .string (strB z)) rfl (by kernel_rfl) (by kernel_rfl) (by kernel_rfl) (fun _ _ _ h => h) (Or.inl ⟨by rfl, fun wx hx => by (have hc := conv_reads (HZR.out.below (Over.out hx)); simp [go_sem, hc])⟩) hS ?_
          simp only [Act.put, List.getElem_toArray, List.getElem_cons_succ, List.getElem_cons_zero, List.setIfInBounds_toArray, List.set_cons_zero, List.set_cons_succ]
          refine wpAnyH_take (i := 16) (v := .slice a2 rl c2) rfl (by kernel_rfl) (by kernel_rfl) (by kernel_rfl) (fun _ _ _ h => h) (Or.inl ⟨by rfl, fun wx hx => by simp [go_sem]⟩) hS ?_
          simp only [Act.put, List.getElem_toArray, List.getElem_cons_succ, List.getElem_cons_zero, List.setIfInBounds_toArray, List.set_cons_zero, List.set_cons_succ]
          refine wpAnyH_take (i := 17) (v := .string (strB rc)) rfl (by kernel_rfl) (by kernel_rfl) (by kernel_rfl) (fun _ _ _ h => h) (Or.inl ⟨by rfl, fun wx hx => by (have hc := conv_reads (HR2.out.below (Over.out hx)); simp [go_sem, hc])⟩) hS ?_
          simp only [Act.put, List.getElem_toArray, List.getElem_cons_succ, List.getElem_cons_zero, List.setIfInBounds_toArray, List.set_cons_zero, List.set_cons_succ]
          by_cases he : z = rc
          case neg =>
            have HZ : Hid (recsL gen half (f' + 1) p kn = ([], p)) := by show _ = _; rw [HZ9.out, if_pos (Or.inr (by rw [← HZZ.out]; exact he))]
            rw [decide_eq_false he] at hs
            refine wpAnyH_take (i := 18) (v := .bool true) rfl (by kernel_rfl) (by kernel_rfl) (by kernel_rfl) (fun _ _ _ h => h) (Or.inl ⟨by rfl, fun wx hx => by simp [go_sem, hs]⟩) hS ?_
            simp only [Act.put, List.getElem_toArray, List.getElem_cons_succ, List.getElem_cons_zero, List.setIfInBounds_toArray, List.set_cons_zero, List.set_cons_succ]
            refine wpAnyH_take (i := 19) (v := .bool true) rfl (by kernel_rfl) (by kernel_rfl) (by kernel_rfl) (fun _ _ _ h => h) (Or.inl ⟨by rfl, fun wx hx => by simp [go_sem]⟩) hS ?_
            simp only [Act.put, List.getElem_toArray, List.getElem_cons_succ, List.getElem_cons_zero, List.setIfInBounds_toArray, List.set_cons_zero, List.set_cons_succ]
            refine wpAnyH_done (by kernel_rfl) ?_ _
            clear hS
            go_wp2
            have HRF : recsOf gen half = (xs, p) := by rw [HRE.out, HZ.out, List.append_nil]
            rw [HRF]
            refine bodyPost_ret (results_tmp2 rfl _ _ _) rfl ?_
            exact ⟨_, rfl, ⟨_, HTX.out⟩, HBB.out⟩
          case pos =>
            have HRE2 : Hid (recsOf gen half = ((xs ++ [x]) ++ (recsL gen half f' pr (kn + 1)).1, (recsL gen half f' pr (kn + 1)).2)) := by
              show _ = _
              rw [HRE.out, HZ9.out, if_neg (fun h => h.elim h3 (fun h => h (by rw [← HZZ.out]; exact he)))]
              simp
            rw [decide_eq_true he] at hs
            refine wpAnyH_take (i := 18) (v := .bool false) rfl (by kernel_rfl) (by kernel_rfl) (by kernel_rfl) (fun _ _ _ h => h) (Or.inl ⟨by rfl, fun wx hx => by simp [go_sem, hs]⟩) hS ?_
            simp only [Act.put, List.getElem_toArray, List.getElem_cons_succ, List.getElem_cons_zero, List.setIfInBounds_toArray, List.set_cons_zero, List.set_cons_succ]
            refine wpAnyH_take (i := 19) (v := .bool false) rfl (by kernel_rfl) (by kernel_rfl) (by kernel_rfl) (fun _ _ _ h => h) (Or.inl ⟨by rfl, fun wx hx => by simp [go_sem]⟩) hS ?_
            simp only [Act.put, List.getElem_toArray, List.getElem_cons_succ, List.getElem_cons_zero, List.setIfInBounds_toArray, List.set_cons_zero, List.set_cons_succ]
            refine wpAnyH_done (by kernel_rfl) ?_ _
            clear hS
            have HXP : Hid (0 < x.length ∧ ([] : Bs).length + x.length ≤ 140737488355328) := by rw [HXL.out]; exact ⟨HC2.out.1, by show 0 + n ≤ _; have h1 := HC2.out.2.1; have h2 := HB8.out.2; omega⟩
            have HUL : Hid (us.length < 1000000) := by show _ < _; rw [HTX.out.len, ← HKN.out]; have h1 := HPP.out.2.2; have h2 := HB8.out.2; omega
            have tk4 : Hid True := trivial
            have tk5 : Hid True := trivial
            have tk6 : Hid True := trivial
            go_wp2_with (first
                | (clear tk4; at_builtin; with_reducible refine wpSeq_appY (.tmp 72) (.tmp 73) w.heap.size (.slice none 0 0) (.slice (some ⟨bb, off + p57, none⟩) n (c - p57)) [] x (OwnB.nil _ _) HXR.out HXP.out.1 HXP.out.2 HBB.out.size ?_ ?_ ?_ ?_ ?_
                   · rfl
                   · rfl
                   · rfl
                   · rfl
                   intro v5 y5 hown hgr hbz
                   rw [List.nil_append] at hown
                   obtain ⟨a5, n5, c5, hv⟩ := hown.reads.form
                   subst hv
                   have HO5 : Hid (OwnB y5 w.heap.size (.slice a5 n5 c5) x) := hown
                   have hb5 : Below y3.heap.size y3 y5 := ⟨hgr.os, hgr.tape, hgr.output, hgr.size, fun k hk => hgr.block k hk (fun e => by cases e)⟩
                   replace HTX : Hid (TxJ w.heap.size (.slice xa kn xc) us xs y5) := HTX.out.next hb5
                   replace HBB : Hid (Below w.heap.size w y5) := HBB.out.trans (hb5.mono HBB.out.size)
                   clear hown hgr hbz hb5 HXR HR2 HZR)
                | (clear tk5; with_reducible refine wpSeq_buildX (.tmp 74) a5 n5 c5 ?_ ?_ ?_ ?_
                   · rfl
                   · rfl
                   · rfl
                   intro g6 y6 hg6 hy6
                   have HG6 : Hid (g6 = y5.heap.size ∧ y6 = y5.alloc (.cells #[Value.slice a5 n5 c5] 23)) := ⟨hg6, hy6⟩
                   have HB6 : Hid (Below y5.heap.size y5 y6) := by rw [hy6]; exact below_alloc _ _
                   have HC6 : Hid (y6.cell? ⟨g6, 0, none⟩ = some (.slice a5 n5 c5)) := by
                     have h9 : Blk y6 g6 [.slice a5 n5 c5] 23 := by rw [hg6, hy6]; exact Blk.new _ _ _
                     exact h9.cell 0
                   have HX6 : Hid (OwnX y6 w.heap.size (.slice xa kn xc) us) := (HTX.out.next HB6.out).own
                   have HZ6 : Hid (w.heap.size ≤ y6.heap.size) := Nat.le_trans HBB.out.size HB6.out.size
                   clear hg6 hy6)
                | (clear tk6; at_builtin; with_reducible refine wpSeq_appX (.tmp 71) (.tmp 75) w.heap.size (.slice xa kn xc) (.slice a5 n5 c5) us g6 HX6.out HC6.out rfl HUL.out HZ6.out ?_ ?_ ?_ ?_ ?_
                   · rfl
                   · rfl
                   · rfl
                   · rfl
                   intro v7 y7 hown hgr
                   rw [HG6.out.2] at hgr
                   have hgg := HTX.out.grow HO5.out hown hgr
                   obtain ⟨a7, c7, hv⟩ := hown.form
                   obtain ⟨k7, HK7⟩ : ∃ k, Hid (k = (us ++ [Value.slice a5 n5 c5]).length) := ⟨_, rfl⟩
                   rw [← HK7.out] at hv
                   subst hv
                   have HTX7 : Hid (TxJ w.heap.size (.slice a7 k7 c7) (us ++ [.slice a5 n5 c5]) (xs ++ [x]) y7) := hgg.1
                   have HBB7 : Hid (Below w.heap.size w y7) := HBB.out.trans hgg.2
                   clear hown hgr hgg))
            go_roundw
            case rel =>
              have hk7 : k7 = kn + 1 := by rw [HK7.out, List.length_append, HTX.out.len, ← HKN.out]; rfl
              subst hk7
              have hsz : pr = 64 + sizeL (xs ++ [x]) := by rw [sizeL_snoc, HXL.out, HPR.out, HRLE.out, HPP.out.1]; omega
              exact ⟨a7, kn + 1, c7, us ++ [.slice a5 n5 c5], xs ++ [x], pr, f', by rw [List.length_append, ← HKN.out]; rfl, rfl, by trivial, hsz, by omega, by have := HPP.out.2.2; omega, HTX7, HRE2, HBB7⟩
            case measure =>
              have h1 := HPR.out
              have h2 := HRLB.out.1
              simp [intOf]
              omega
set_option maxRecDepth 100000 in
set_option maxHeartbeats 8000000 in
theorem nRead_t (v : Value) (b : Bs) (hl : b.length < 100000000) (w : World) (hr : Reads w v b) : Calls Tryz.prog 24 #[v] w fun e w' => ∃ lv base, e = .returned (.tuple #[.int .u64 (rdG14 b : Int), lv, .int .i64 (rdX14 b)]) ∧ TxE base lv (rdL14 b) w' ∧ w.heap.size ≤ base ∧ Below w.heap.size w w' := by
  obtain ⟨ad, cp, hv, hcp, _, hx⟩ := id hr
  obtain ⟨L, HLL⟩ : ∃ n, Hid (n = b.length) := ⟨_, rfl⟩
  rw [← HLL.out] at hv hl
  subst hv
  by_cases hok : okB b
  case neg =>
    rw [show rdG14 b = 0 from if_neg hok, show rdX14 b = 1 from if_neg hok, show rdL14 b = [] from if_neg hok]
    unfold okB at hok
    rw [← HLL.out] at hok
    clear hx hcp hr
    by_cases h1 : L % 64 = 0
    · have f1 : (L : Int) % 64 = 0 := by omega
      have q1 : (L : Int) < 512 := by omega
      clear hok h1
      go_enter Tryz.func24, Tryz.ntmps24
      go_wp2
      refine bodyPost_ret (results_3J rfl _ _ _) rfl ?_
      exact ⟨_, w.heap.size, rfl, ⟨_, TxJ.nil (Nat.le_refl _)⟩, Nat.le_refl _, Below.refl _ _⟩
    · have f1 : ((L : Int) % 64 != 0) = true := by rw [bne_iff_ne]; omega
      clear hok h1
      go_enter Tryz.func24, Tryz.ntmps24
      go_wp2
      refine bodyPost_ret (results_3J rfl _ _ _) rfl ?_
      exact ⟨_, w.heap.size, rfl, ⟨_, TxJ.nil (Nat.le_refl _)⟩, Nat.le_refl _, Below.refl _ _⟩
  case pos =>
    rw [show rdG14 b = (readJ b).1 from if_pos hok, show rdX14 b = 0 from if_pos hok, show rdL14 b = (readJ b).2 from if_pos hok]
    unfold okB at hok
    have hhn := halfN_eq b
    rw [← HLL.out] at hok hhn
    obtain ⟨bb, off, rfl, _⟩ := hx (by rw [← HLL.out]; omega)
    have f1 : (L : Int) % 64 = 0 := by omega
    have q1 : ¬ ((L : Int) < 512) := by omega
    have HHN : Hid (64 ≤ halfN b ∧ halfN b < 60000000) := ⟨by omega, by omega⟩
    have HPK : Hid (Calls Tryz.prog 56 #[.slice (some ⟨bb, off, none⟩) L cp] w fun e w' => e = .returned (.tuple #[.int .i64 ((pickB b).1 : Int), .int .u64 ((pickB b).2 : Int)]) ∧ Below w.heap.size w w') := by
      rw [HLL.out]
      rw [HLL.out] at hr
      exact nPick_any bb off cp b HHN.out.1 (by rw [← HLL.out]; omega) w hr
    obtain ⟨k, gen, hpk⟩ : ∃ k gen, pickB b = (k, gen) := ⟨_, _, rfl⟩
    have hk1 : k ≤ 1 := by
      unfold pickB at hpk
      split at hpk <;> cases hpk <;> omega
    have hg9 : gen < 18446744073709551616 := by
      unfold pickB at hpk
      split at hpk <;> cases hpk
      · by_cases h0 : genH (halfB b 1) = 0
        · omega
        · exact (gen_is h0).2
      · by_cases h0 : genH (halfB b 0) = 0
        · omega
        · exact (gen_is h0).2
    rw [hpk] at HPK
    have HB : Hid (Reads w (.slice (some ⟨bb, off, none⟩) L cp) b) := hr
    have HBW : Hid (Below w.heap.size w w) := Below.refl _ _
    by_cases hg0 : gen = 0
    · have hrd : readJ b = (0, []) := by rw [readJ, hpk, hg0]; rfl
      rw [hrd]
      subst hg0
      clear hr hx hcp hok hhn hl hpk hk1 hg9 hrd
      go_enter Tryz.func24, Tryz.ntmps24
      have tk0 : Hid True := trivial
      go_wp2_with (first
          | (clear tk0; go_at_call 56; refine (HPK.out).mono ?_; rintro e0 y1 ⟨rfl, hz⟩
             replace HBW : Hid (Below w.heap.size w y1) := HBW.out.trans (hz.mono HBW.out.size)
             clear hz))
      refine bodyPost_ret (results_3J rfl _ _ _) rfl ?_
      exact ⟨_, w.heap.size, rfl, ⟨_, TxJ.nil HBW.out.size⟩, Nat.le_refl _, HBW.out⟩
    · have q2 : ((gen : Int) == 0) = false := by rw [beq_eq_false_iff_ne]; omega
      obtain ⟨rl, HRL⟩ : ∃ l, Hid (l = (recsOf gen (halfB b k)).1) := ⟨_, rfl⟩
      have hrd : readJ b = (gen, rl) := by rw [readJ, hpk]; show (if gen = 0 then _ else _) = _; rw [if_neg hg0, HRL.out]
      obtain ⟨H, HH⟩ : ∃ H, Hid (H = halfN b) := ⟨_, rfl⟩
      rw [hrd]
      have HHF : Hid (∀ W, Reads W (.slice (some ⟨bb, off, none⟩) L cp) b → Calls Tryz.prog 58 #[.slice (some ⟨bb, off, none⟩) L cp, .int .i64 (k : Int)] W fun e w' => (∃ o c2, e = .returned (.slice (some ⟨bb, o, none⟩) H c2) ∧ Reads W (.slice (some ⟨bb, o, none⟩) H c2) (halfB b k)) ∧ w' = W) := fun W h => by rw [HLL.out] at h ⊢; rw [HH.out]; exact nHalf_any bb off cp b k hk1 HHN.out.1 (by rw [← HLL.out]; omega) W h
      have HRC : Hid (∀ (W : World) (o c2 : Nat), Reads W (.slice (some ⟨bb, o, none⟩) H c2) (halfB b k) → Calls Tryz.prog 57 #[.int .u64 (gen : Int), .slice (some ⟨bb, o, none⟩) H c2] W fun e w' => ∃ v, e = .returned (.tuple #[v, .int .i64 ((recsOf gen (halfB b k)).2 : Int)]) ∧ TxE W.heap.size v rl w' ∧ Below W.heap.size W w') := fun W o c2 h => by rw [HRL.out]; exact nRecords_t gen hg9 bb o H c2 (halfB b k) (by rw [len_half hk1]; exact HHN.out.1) (by rw [len_half hk1]; exact HHN.out.2) W h
      obtain ⟨en, HEN⟩ : ∃ l, Hid (l = (recsOf gen (halfB b k)).2) := ⟨_, rfl⟩
      rw [← HEN.out] at HRC
      clear hr hx hcp hok hhn hl hpk hk1 hg9 hrd
      go_enter Tryz.func24, Tryz.ntmps24
      have tk0 : Hid True := trivial
      have tk1 : Hid True := trivial
      have tk2 : Hid True := trivial
      go_wp2_with (first
          | (clear tk0; go_at_call 56; refine (HPK.out).mono ?_; rintro e0 y1 ⟨rfl, hz⟩
             replace HB : Hid (Reads y1 (.slice (some ⟨bb, off, none⟩) L cp) b) := HB.out.below hz
             replace HBW : Hid (Below w.heap.size w y1) := HBW.out.trans (hz.mono HBW.out.size)
             clear hz)
          | (clear tk1; go_at_call 58; refine (HHF.out _ HB.out).mono ?_; rintro e0 y2 ⟨⟨o2, c2, rfl, hr2⟩, hy2⟩
             subst hy2
             have HR2 : Hid (Reads y2 (.slice (some ⟨bb, o2, none⟩) H c2) (halfB b k)) := hr2
             clear hr2)
          | (clear tk2; go_at_call 57; refine (HRC.out _ _ _ HR2.out).mono ?_; rintro e0 y3 ⟨v3, rfl, hr3, hz⟩
             have HR3 : Hid (TxE y2.heap.size v3 rl y3 ∧ w.heap.size ≤ y2.heap.size) := ⟨hr3, HBW.out.size⟩
             replace HBW : Hid (Below w.heap.size w y3) := HBW.out.trans (hz.mono HBW.out.size)
             clear hr3 hz))
      refine bodyPost_ret (results_3J rfl _ _ _) rfl ?_
      exact ⟨_, _, rfl, HR3.out.1, HR3.out.2, HBW.out⟩
theorem TxJ.mutJ {P : Nat → Prop} {base : Nat} {v : Value} {us : List Value} {xs : List Bs} {W W' : World} (h : TxJ base v us xs W) (m : Mut P W W') (hP : ∀ k, P k → k < base) : TxJ base v us xs W' :=
  ⟨h.own.same fun k hk => m.block k (h.own.lt k hk).2 (fun hp => by have := hP k hp; have := (h.own.lt k hk).1; omega), h.len, fun j u hj => (h.good j u hj).sameJ fun k hk => m.block k ((h.good j u hj).ltJ k hk).2 (fun hp => by have := hP k hp; have := ((h.good j u hj).ltJ k hk).1; omega), Nat.le_trans h.ge m.size⟩
/-- what was read stays whatever becomes of blocks that were there -/
theorem nRead_sta (v : Value) (b : Bs) (hl : b.length < 100000000) (w : World) (hr : Reads w v b) {P : Nat → Prop} (hP : ∀ k, P k → k < w.heap.size) : Calls Tryz.prog 24 #[v] w fun e w' => ∃ lv, e = .returned (.tuple #[.int .u64 (rdG14 b : Int), lv, .int .i64 (rdX14 b)]) ∧ Sta P w' (fun W => ReadsL W lv (rdL14 b)) ∧ Below w.heap.size w w' :=
  (nRead_t v b hl w hr).mono (fun e w' h => by
    obtain ⟨lv, base, h1, ⟨us, h2⟩, h3, h4⟩ := h
    exact ⟨lv, h1, fun X hX => (h2.mutJ hX (fun k hk => Nat.lt_of_lt_of_le (hP k hk) h3)).readsL, h4⟩)
end Go.Proofs.YtopmeedmgjdcgaaGreatDoor
/- The law StoreOpens (layer 15). -/
namespace Go.Proofs.YtopmeedmgjdcgaaGreatDoor
open Go.RowKit
set_option maxRecDepth 100000
set_option maxRecDepth 100000 in
set_option maxHeartbeats 8000000 in
theorem storeOpens_law (v0 : Value) (key b : Bs) (w : World) (hK : KOk w) (hr : Reads w v0 b) (hky : key.length ≤ 9223372036854775807) : Calls Tryz.prog 5 #[v0, .string (strB key)] w fun e w' => e = .returned (.bool true) ∧ Below w.heap.size w w' := by
  obtain ⟨N, HN⟩ : ∃ x, Hid (x = b.length) := ⟨_, rfl⟩
  obtain ⟨ad, cp, hv⟩ : ∃ a c, v0 = .slice a N c := by obtain ⟨a, c, h, _⟩ := hr; rw [HN.out]; exact ⟨a, c, h⟩
  subst hv
  obtain ⟨sk, HSK⟩ : ∃ x, Hid (x = strB key) := ⟨_, rfl⟩
  rw [← HSK.out]
  have HR : Hid (Reads w (.slice ad N cp) b) := hr
  have HKY : Hid (key.length ≤ 9223372036854775807) := hky
  have HK0 : Hid (∀ W, Below w.heap.size w W → KOk W) := fun W hb => hK.below hb hK.lt
  have HWK : Hid (∀ W, Below w.heap.size w W → Calls Tryz.prog 10 #[] W fun e w' => e = .returned (.bool true) ∧ Below W.heap.size W w') := fun W hb => works15_any W (hK.below hb hK.lt)
  have HZ : Hid (Below w.heap.size w w) := Below.refl _ _
  clear hK hr hky
  by_cases h1 : 6400 < N
  case pos =>
    have hgt : (6400 : Int) < (N : Int) := by omega
    go_enter Tryz.func5, Tryz.ntmps5
    have t00 : Hid True := trivial
    go_wp2_with (first
      | (clear t00; go_at_call 10; refine (HWK.out _ HZ.out).mono ?_; rintro e9 y9 ⟨rfl, bl9⟩
         replace HZ : Hid (Below w.heap.size w y9) := HZ.out.trans (bl9.mono HZ.out.size)
         clear bl9))
    go_ret
    exact ⟨rfl, HZ.out⟩
  case neg =>
  have hgt : ¬ (6400 : Int) < (N : Int) := by omega
  by_cases h2 : b.length % 64 = 0
  case neg =>
    have HLD : Hid (Calls Tryz.prog 29 #[.slice ad N cp] w fun r w' => r = .returned (.tuple #[.pointer none, .int .i64 1]) ∧ Below w.heap.size w w') := dkLoad_arg w _ b HR.out h2
    go_enter Tryz.func5, Tryz.ntmps5
    have t10 : Hid True := trivial
    have t11 : Hid True := trivial
    go_wp2_with (first
      | (clear t10; go_at_call 29; refine (HLD.out).mono ?_; rintro e1 y1 ⟨rfl, bl1⟩
         replace HZ : Hid (Below w.heap.size w y1) := bl1
         clear bl1)
      | (clear t11; go_at_call 10; refine (HWK.out _ HZ.out).mono ?_; rintro e9 y9 ⟨rfl, bl9⟩
         replace HZ : Hid (Below w.heap.size w y9) := HZ.out.trans (bl9.mono HZ.out.size)
         clear bl9))
    go_ret
    exact ⟨rfl, HZ.out⟩
  case pos =>
  by_cases h3 : b = []
  case pos =>
    have HLD : Hid (Calls Tryz.prog 29 #[.slice ad N cp] w fun r w' => r = .returned (.tuple #[.pointer none, .int .i64 2]) ∧ Below w.heap.size w w') := dkLoad_range w _ (by have h := HR.out; rw [h3] at h; exact h)
    go_enter Tryz.func5, Tryz.ntmps5
    have t10 : Hid True := trivial
    have t11 : Hid True := trivial
    go_wp2_with (first
      | (clear t10; go_at_call 29; refine (HLD.out).mono ?_; rintro e1 y1 ⟨rfl, bl1⟩
         replace HZ : Hid (Below w.heap.size w y1) := bl1
         clear bl1)
      | (clear t11; go_at_call 10; refine (HWK.out _ HZ.out).mono ?_; rintro e9 y9 ⟨rfl, bl9⟩
         replace HZ : Hid (Below w.heap.size w y9) := HZ.out.trans (bl9.mono HZ.out.size)
         clear bl9))
    go_ret
    exact ⟨rfl, HZ.out⟩
  case neg =>
  obtain ⟨ns, HNS⟩ : ∃ x, Hid (x = b.length / 64) := ⟨_, rfl⟩
  have hne : b.length ≠ 0 := fun e => h3 (List.eq_nil_of_length_eq_zero e)
  have HBN : Hid (b.length = 64 * ns ∧ 1 ≤ ns ∧ ns ≤ 100 ∧ b.length ≤ 6400) := by have e1 := HNS.out; have e2 := HN.out; show _ ∧ _; omega
  obtain ⟨D, HD⟩ : ∃ x, Hid (x = loadD b) := ⟨_, rfl⟩
  have HDB : Hid (dumpD D = b ∧ D.wait = [] ∧ sizeD D = ns ∧ readX13 D 0 = 0) := by
    show _ ∧ _
    rw [HD.out]
    exact ⟨rfl, rfl, HNS.out.symm, rx_up (by have := HBN.out; omega)⟩
  have HLD : Hid (Calls Tryz.prog 29 #[.slice ad N cp] w fun r w' => ∃ g P, r = .returned (.tuple #[.pointer (some ⟨g, 0, none⟩), .int .i64 0]) ∧ DkIs w' g P D ∧ Below w.heap.size w w' ∧ ∀ k, P k → w.heap.size ≤ k) := by
    rw [HD.out]
    exact dkLoad_any w _ b ns HR.out HBN.out.1 HBN.out.2.1 (by have := HBN.out.2.2.1; omega)
  obtain ⟨gn, HGN⟩ : ∃ x, Hid (x = rdG14 b) := ⟨_, rfl⟩
  obtain ⟨rs, HRS⟩ : ∃ x, Hid (x = rdL14 b) := ⟨_, rfl⟩
  obtain ⟨fx, HFX⟩ : ∃ x, Hid (x = rdX14 b) := ⟨_, rfl⟩
  have HRD : Hid (∀ W gd P, Below w.heap.size w W → DkIs W gd P D → Calls Tryz.prog 24 #[.slice ad N cp] W fun e w' => ∃ al nl cl, e = .returned (.tuple #[.int .u64 (gn : Int), .slice al nl cl, .int .i64 fx]) ∧ Sta P w' (fun X => ReadsL X (.slice al nl cl) rs) ∧ Below W.heap.size W w') := fun W gd P hb hd => by
    rw [HGN.out, HRS.out, HFX.out]
    refine (nRead_sta _ b (by have := HBN.out.2.2.2; omega) W (HR.out.below hb) (P := P) (fun k hk => hd.ltS k hk)).mono (fun e w' h => ?_)
    obtain ⟨lv, e1, e2, e3⟩ := h
    obtain ⟨al, cl, e4⟩ : ∃ a c, lv = .slice a (rdL14 b).length c := by obtain ⟨a, c, h, _⟩ := e2.now; exact ⟨a, c, h⟩
    subst e4
    exact ⟨al, _, cl, e1, e2, e3⟩
  have HSB : Hid (sumB rs ≤ 6400 ∧ rs.length ≤ 6400) := by
    have h := rd_small b
    have h2 := HBN.out.2.2.2
    rw [← HRS.out] at h
    show _ ∧ _
    omega
  have HDL : Hid ((dumpD D).length < 8000000 ∧ rdL14 (dumpD D) = rs) := by
    show _ ∧ _
    rw [HDB.out.1, HRS.out]
    exact ⟨by have := HBN.out.2.2.2; omega, rfl⟩
  clear h1 h2 h3 hne
  by_cases h8 : ns < 8
  case pos =>
    have HOP : Hid (∀ W gd P, KOk W → DkIs W gd P D → Calls Tryz.prog 28 #[.pointer (some ⟨gd, 0, none⟩)] W fun e w' => e = .returned (.tuple #[.pointer none, .int .i64 1]) ∧ Below W.heap.size W w') := fun W gd P hk hd => sOpen_small hk hd HDB.out.2.1 HDL.out.1 (by rw [HDB.out.2.2.1]; exact h8)
    obtain rfl : fx = 1 := by
      rw [HFX.out]
      exact if_neg (fun h => by have h2 := h.2; have := HBN.out.1; omega)
    clear h8
    go_enter Tryz.func5, Tryz.ntmps5
    have t20 : Hid True := trivial
    have t21 : Hid True := trivial
    have t22 : Hid True := trivial
    have t23 : Hid True := trivial
    go_wp2_with (first
      | (clear t20; go_at_call 29; refine (HLD.out).mono ?_; rintro e1 y1 ⟨gd, P, rfl, hd1, bl1, hp1⟩
         have HDK : Hid (DkIs y1 gd P D ∧ ∀ k, P k → w.heap.size ≤ k) := ⟨hd1, hp1⟩
         replace HZ : Hid (Below w.heap.size w y1) := bl1
         clear hd1 bl1 hp1)
      | (clear t21; go_at_call 24; refine (HRD.out _ gd P HZ.out HDK.out.1).mono ?_; rintro e2 y2 ⟨al, nl, cl, rfl, hl2, bl2⟩
         have HLV : Hid (Sta P y2 (fun X => ReadsL X (.slice al nl cl) rs)) := hl2
         replace HDK : Hid (DkIs y2 gd P D ∧ ∀ k, P k → w.heap.size ≤ k) := ⟨HDK.out.1.belowS bl2, HDK.out.2⟩
         replace HZ : Hid (Below w.heap.size w y2) := HZ.out.trans (bl2.mono HZ.out.size)
         clear hl2 bl2)
      | (clear t22; go_at_call 28; refine (HOP.out _ gd P (HK0.out _ HZ.out) HDK.out.1).mono ?_; rintro e3 y3 ⟨rfl, bl3⟩
         replace HZ : Hid (Below w.heap.size w y3) := HZ.out.trans (bl3.mono HZ.out.size)
         clear bl3)
      | (clear t23; go_at_call 10; refine (HWK.out _ HZ.out).mono ?_; rintro e9 y9 ⟨rfl, bl9⟩
         replace HZ : Hid (Below w.heap.size w y9) := HZ.out.trans (bl9.mono HZ.out.size)
         clear bl9))
    go_ret
    exact ⟨rfl, HZ.out⟩
  case neg =>
  obtain rfl : fx = 0 := by
    rw [HFX.out]
    exact if_pos ⟨by have := HBN.out.1; omega, by have := HBN.out.1; omega⟩
  have HOF : Hid (∀ W al nl cl, ReadsL W (.slice al nl cl) rs → Calls Tryz.prog 30 #[.slice al nl cl] W fun e w' => OfA W rs e w') := fun W al nl cl h => oOf_any _ rs W h (by have := HSB.out.1; omega) (by have := HSB.out.2; omega)
  have HXX : Hid ((runJ D (openG D).1).2 = 0) := by
    show _ = _
    rw [HD.out]
    exact openG_zero (by rw [← HNS.out]; omega)
  cases hof : ofM rs with
  | none =>
    have HOP : Hid (∀ W gd P, KOk W → DkIs W gd P D → Calls Tryz.prog 28 #[.pointer (some ⟨gd, 0, none⟩)] W fun e w' => e = .returned (.tuple #[.pointer none, .int .i64 3]) ∧ Mut P W w') := fun W gd P hk hd => sOpen_bad hk hd (by rw [HDB.out.2.1]; exact Nat.zero_le _) HDL.out.1 (by rw [HDL.out.2]; have := HSB.out.1; omega) (by rw [HDL.out.2]; have := HSB.out.2; omega) HDB.out.2.2.2 (by rw [HDL.out.2]; exact hof)
    have HOG : Hid (∀ W al nl cl, ReadsL W (.slice al nl cl) rs → Calls Tryz.prog 30 #[.slice al nl cl] W fun e w' => ∃ a1 n1 k1 a2 n2 k2, e = .returned (.tuple #[.agg [.slice a1 n1 k1, .slice a2 n2 k2].toArray, .bool false]) ∧ Below W.heap.size W w') := fun W al nl cl h => (HOF.out W al nl cl h).mono (fun e w' hx => by
      obtain ⟨hb, a1, n1, k1, a2, n2, k2, ⟨m, h1, _⟩ | ⟨_, h2⟩⟩ := hx
      · rw [hof] at h1; cases h1
      · exact ⟨a1, n1, k1, a2, n2, k2, h2, hb⟩)
    clear hof h8 HOF
    by_cases hbig : (9223372036854775808 : Int) < (gn : Int)
    case pos =>
      go_enter Tryz.func5, Tryz.ntmps5
      have t30 : Hid True := trivial
      have t31 : Hid True := trivial
      have t32 : Hid True := trivial
      have t33 : Hid True := trivial
      go_wp2_with (first
        | (clear t30; go_at_call 29; refine (HLD.out).mono ?_; rintro e1 y1 ⟨gd, P, rfl, hd1, bl1, hp1⟩
           have HDK : Hid (DkIs y1 gd P D ∧ ∀ k, P k → w.heap.size ≤ k) := ⟨hd1, hp1⟩
           replace HZ : Hid (Below w.heap.size w y1) := bl1
           clear hd1 bl1 hp1)
        | (clear t31; go_at_call 24; refine (HRD.out _ gd P HZ.out HDK.out.1).mono ?_; rintro e2 y2 ⟨al, nl, cl, rfl, hl2, bl2⟩
           have HLV : Hid (Sta P y2 (fun X => ReadsL X (.slice al nl cl) rs)) := hl2
           replace HDK : Hid (DkIs y2 gd P D ∧ ∀ k, P k → w.heap.size ≤ k) := ⟨HDK.out.1.belowS bl2, HDK.out.2⟩
           replace HZ : Hid (Below w.heap.size w y2) := HZ.out.trans (bl2.mono HZ.out.size)
           clear hl2 bl2)
        | (clear t32; go_at_call 28; refine (HOP.out _ gd P (HK0.out _ HZ.out) HDK.out.1).mono ?_; rintro e3 y3 ⟨rfl, mu3⟩
           have HL3 : Hid (ReadsL y3 (.slice al nl cl) rs) := HLV.out.at mu3
           replace HZ : Hid (Below w.heap.size w y3) := HZ.out.trans (mu3.below HZ.out.size HDK.out.2)
           clear mu3)
        | (clear t33; go_at_call 10; refine (HWK.out _ HZ.out).mono ?_; rintro e9 y9 ⟨rfl, bl9⟩
           replace HZ : Hid (Below w.heap.size w y9) := HZ.out.trans (bl9.mono HZ.out.size)
           clear bl9))
      go_ret
      exact ⟨rfl, HZ.out⟩
    case neg =>
      go_enter Tryz.func5, Tryz.ntmps5
      have t40 : Hid True := trivial
      have t41 : Hid True := trivial
      have t42 : Hid True := trivial
      have t43 : Hid True := trivial
      have t44 : Hid True := trivial
      have t45 : Hid True := trivial
      have t46 : Hid True := trivial
      go_wp2_with (first
        | (clear t40; go_at_call 29; refine (HLD.out).mono ?_; rintro e1 y1 ⟨gd, P, rfl, hd1, bl1, hp1⟩
           have HDK : Hid (DkIs y1 gd P D ∧ ∀ k, P k → w.heap.size ≤ k) := ⟨hd1, hp1⟩
           replace HZ : Hid (Below w.heap.size w y1) := bl1
           clear hd1 bl1 hp1)
        | (clear t41; go_at_call 24; refine (HRD.out _ gd P HZ.out HDK.out.1).mono ?_; rintro e2 y2 ⟨al, nl, cl, rfl, hl2, bl2⟩
           have HLV : Hid (Sta P y2 (fun X => ReadsL X (.slice al nl cl) rs)) := hl2
           replace HDK : Hid (DkIs y2 gd P D ∧ ∀ k, P k → w.heap.size ≤ k) := ⟨HDK.out.1.belowS bl2, HDK.out.2⟩
           replace HZ : Hid (Below w.heap.size w y2) := HZ.out.trans (bl2.mono HZ.out.size)
           clear hl2 bl2)
        | (clear t42; go_at_call 28; refine (HOP.out _ gd P (HK0.out _ HZ.out) HDK.out.1).mono ?_; rintro e3 y3 ⟨rfl, mu3⟩
           have HL3 : Hid (ReadsL y3 (.slice al nl cl) rs) := HLV.out.at mu3
           replace HZ : Hid (Below w.heap.size w y3) := HZ.out.trans (mu3.below HZ.out.size HDK.out.2)
           clear mu3)
        | (clear t43; go_at_call 30; refine (HOG.out _ _ _ _ HL3.out).mono ?_; rintro e4 y4 ⟨a1, n1, k1, a2, n2, k2, rfl, bl4⟩
           replace HZ : Hid (Below w.heap.size w y4) := HZ.out.trans (bl4.mono HZ.out.size)
           clear bl4)
        | (clear t44; with_reducible refine wpSeq_allocK ?_ ?_ ?_
           · rfl
           · rfl
           intro g11 y5 nn
           have H5 : Hid (Blk y5 g11 [.slice none 0 0, .slice none 0 0] 43 ∧ y4.heap.size ≤ g11 ∧ Below y4.heap.size y4 y5) := ⟨nn.blk, nn.ge, nn.below⟩
           clear nn)
        | (clear t45; with_reducible refine wpSeq_storeRow 43 (.tmp 11) (.tmp 54) g11 [.slice none 0 0, .slice none 0 0] [.slice a1 n1 k1, .slice a2 n2 k2] H5.out.1 rfl (info_keys _ _) (one_keys _ _ _ _ _ _) ?_ ?_ ?_ ?_ ?_
           · rfl
           · rfl
           · rfl
           · rfl
           intro y6 sr
           have bl6 : Below y4.heap.size y4 y6 := H5.out.2.2.trans (sr.only.below H5.out.2.1 H5.out.2.2.size)
           replace HZ : Hid (Below w.heap.size w y6) := HZ.out.trans (bl6.mono HZ.out.size)
           clear sr bl6 H5)
        | (clear t46; go_at_call 10; refine (HWK.out _ HZ.out).mono ?_; rintro e9 y9 ⟨rfl, bl9⟩
           replace HZ : Hid (Below w.heap.size w y9) := HZ.out.trans (bl9.mono HZ.out.size)
           clear bl9))
      go_ret
      exact ⟨rfl, HZ.out⟩
  | some m =>
    have HOP : Hid (∀ W gd P, KOk W → DkIs W gd P D → Calls Tryz.prog 28 #[.pointer (some ⟨gd, 0, none⟩)] W fun e w' => ∃ gs gm n lv V, e = .returned (.tuple #[.pointer (some ⟨gs, 0, none⟩), .int .i64 0]) ∧ StR w' gs gm n lv V m ∧ Mut P W w') := fun W gd P hk hd => sOpen_good hk hd HDB.out.2.1 HDL.out.1 (by rw [HDL.out.2]; have := HSB.out.1; omega) (by rw [HDL.out.2]; have := HSB.out.2; omega) (by rw [HDB.out.2.2.1]; omega) (by rw [HDB.out.2.2.1]; exact HBN.out.2.2.1) HXX.out (by rw [HDL.out.2]; exact hof)
    have HOG : Hid (∀ W al nl cl, ReadsL W (.slice al nl cl) rs → Calls Tryz.prog 30 #[.slice al nl cl] W fun e w' => ∃ a1 n1 k1 a2 n2 k2, e = .returned (.tuple #[.agg [.slice a1 n1 k1, .slice a2 n2 k2].toArray, .bool true]) ∧ (ReadsS w' (.slice a1 n1 k1) (m.map (·.1)) ∧ ReadsL w' (.slice a2 n2 k2) (m.map (·.2))) ∧ m.length < 1000000 ∧ Below W.heap.size W w') := fun W al nl cl h => (HOF.out W al nl cl h).mono (fun e w' hx => by
      obtain ⟨hb, a1, n1, k1, a2, n2, k2, ⟨m', h1, h2, h3, h4, h5⟩ | ⟨h1, _⟩⟩ := hx
      · rw [hof] at h1
        cases h1
        exact ⟨a1, n1, k1, a2, n2, k2, h2, ⟨h3, h4⟩, by have := HSB.out.1; omega, hb⟩
      · rw [hof] at h1; cases h1)
    clear hof h8 HOF
    by_cases hbig : (9223372036854775808 : Int) < (gn : Int)
    case pos =>
      go_enter Tryz.func5, Tryz.ntmps5
      have t50 : Hid True := trivial
      have t51 : Hid True := trivial
      have t52 : Hid True := trivial
      have t53 : Hid True := trivial
      go_wp2_with (first
        | (clear t50; go_at_call 29; refine (HLD.out).mono ?_; rintro e1 y1 ⟨gd, P, rfl, hd1, bl1, hp1⟩
           have HDK : Hid (DkIs y1 gd P D ∧ ∀ k, P k → w.heap.size ≤ k) := ⟨hd1, hp1⟩
           replace HZ : Hid (Below w.heap.size w y1) := bl1
           clear hd1 bl1 hp1)
        | (clear t51; go_at_call 24; refine (HRD.out _ gd P HZ.out HDK.out.1).mono ?_; rintro e2 y2 ⟨al, nl, cl, rfl, hl2, bl2⟩
           have HLV : Hid (Sta P y2 (fun X => ReadsL X (.slice al nl cl) rs)) := hl2
           replace HDK : Hid (DkIs y2 gd P D ∧ ∀ k, P k → w.heap.size ≤ k) := ⟨HDK.out.1.belowS bl2, HDK.out.2⟩
           replace HZ : Hid (Below w.heap.size w y2) := HZ.out.trans (bl2.mono HZ.out.size)
           clear hl2 bl2)
        | (clear t52; go_at_call 28; refine (HOP.out _ gd P (HK0.out _ HZ.out) HDK.out.1).mono ?_; rintro e3 y3 ⟨gs, gm, n, lv, V, rfl, hs3, mu3⟩
           have HS3 : Hid (StR y3 gs gm n lv V m) := hs3
           have HL3 : Hid (ReadsL y3 (.slice al nl cl) rs) := HLV.out.at mu3
           replace HZ : Hid (Below w.heap.size w y3) := HZ.out.trans (mu3.below HZ.out.size HDK.out.2)
           clear hs3 mu3)
        | (clear t53; go_at_call 10; refine (HWK.out _ HZ.out).mono ?_; rintro e9 y9 ⟨rfl, bl9⟩
           replace HZ : Hid (Below w.heap.size w y9) := HZ.out.trans (bl9.mono HZ.out.size)
           clear bl9))
      go_ret
      exact ⟨rfl, HZ.out⟩
    case neg =>
      go_enter Tryz.func5, Tryz.ntmps5
      have HLI : Hid (∀ W gs gm n lv V a1 n1 k1 a2 n2 k2, StR W gs gm n lv V m → ((ReadsS W (.slice a1 n1 k1) (m.map (·.1)) ∧ ReadsL W (.slice a2 n2 k2) (m.map (·.2))) ∧ m.length < 1000000) → Calls Tryz.prog 26 #[.pointer (some ⟨gs, 0, none⟩), .agg [.slice a1 n1 k1, .slice a2 n2 k2].toArray, .string sk] W fun e w' => e = .returned (.bool true) ∧ Below W.heap.size W w') := fun W gs gm n lv V a1 n1 k1 a2 n2 k2 h1 h2 => by
        rw [HSK.out]
        exact like15_any h1 _ _ h2.1.1 h2.1.2 key HKY.out h2.2
      have t60 : Hid True := trivial
      have t61 : Hid True := trivial
      have t62 : Hid True := trivial
      have t63 : Hid True := trivial
      have t64 : Hid True := trivial
      have t65 : Hid True := trivial
      have t66 : Hid True := trivial
      have t67 : Hid True := trivial
      have t68 : Hid True := trivial
      go_wp2_with (first
        | (clear t60; go_at_call 29; refine (HLD.out).mono ?_; rintro e1 y1 ⟨gd, P, rfl, hd1, bl1, hp1⟩
           have HDK : Hid (DkIs y1 gd P D ∧ ∀ k, P k → w.heap.size ≤ k) := ⟨hd1, hp1⟩
           replace HZ : Hid (Below w.heap.size w y1) := bl1
           clear hd1 bl1 hp1)
        | (clear t61; go_at_call 24; refine (HRD.out _ gd P HZ.out HDK.out.1).mono ?_; rintro e2 y2 ⟨al, nl, cl, rfl, hl2, bl2⟩
           have HLV : Hid (Sta P y2 (fun X => ReadsL X (.slice al nl cl) rs)) := hl2
           replace HDK : Hid (DkIs y2 gd P D ∧ ∀ k, P k → w.heap.size ≤ k) := ⟨HDK.out.1.belowS bl2, HDK.out.2⟩
           replace HZ : Hid (Below w.heap.size w y2) := HZ.out.trans (bl2.mono HZ.out.size)
           clear hl2 bl2)
        | (clear t62; go_at_call 28; refine (HOP.out _ gd P (HK0.out _ HZ.out) HDK.out.1).mono ?_; rintro e3 y3 ⟨gs, gm, n, lv, V, rfl, hs3, mu3⟩
           have HS3 : Hid (StR y3 gs gm n lv V m) := hs3
           have HL3 : Hid (ReadsL y3 (.slice al nl cl) rs) := HLV.out.at mu3
           replace HZ : Hid (Below w.heap.size w y3) := HZ.out.trans (mu3.below HZ.out.size HDK.out.2)
           clear hs3 mu3)
        | (clear t63; go_at_call 30; refine (HOG.out _ _ _ _ HL3.out).mono ?_; rintro e4 y4 ⟨a1, n1, k1, a2, n2, k2, rfl, hr4, hm4, bl4⟩
           have HK4 : Hid ((ReadsS y4 (.slice a1 n1 k1) (m.map (·.1)) ∧ ReadsL y4 (.slice a2 n2 k2) (m.map (·.2))) ∧ m.length < 1000000) := ⟨hr4, hm4⟩
           replace HS3 : Hid (StR y4 gs gm n lv V m) := HS3.out.below bl4
           replace HZ : Hid (Below w.heap.size w y4) := HZ.out.trans (bl4.mono HZ.out.size)
           clear hr4 hm4 bl4)
        | (clear t64; with_reducible refine wpSeq_allocK ?_ ?_ ?_
           · rfl
           · rfl
           intro g11 y5 nn
           have H5 : Hid (Blk y5 g11 [.slice none 0 0, .slice none 0 0] 43 ∧ y4.heap.size ≤ g11 ∧ Below y4.heap.size y4 y5) := ⟨nn.blk, nn.ge, nn.below⟩
           clear nn)
        | (clear t65; with_reducible refine wpSeq_storeRow 43 (.tmp 11) (.tmp 54) g11 [.slice none 0 0, .slice none 0 0] [.slice a1 n1 k1, .slice a2 n2 k2] H5.out.1 rfl (info_keys _ _) (one_keys _ _ _ _ _ _) ?_ ?_ ?_ ?_ ?_
           · rfl
           · rfl
           · rfl
           · rfl
           intro y6 sr
           have bl6 : Below y4.heap.size y4 y6 := H5.out.2.2.trans (sr.only.below H5.out.2.1 H5.out.2.2.size)
           have H6 : Hid (Blk y6 g11 [.slice a1 n1 k1, .slice a2 n2 k2] 43) := sr.blk
           replace HK4 : Hid ((ReadsS y6 (.slice a1 n1 k1) (m.map (·.1)) ∧ ReadsL y6 (.slice a2 n2 k2) (m.map (·.2))) ∧ m.length < 1000000) := ⟨⟨HK4.out.1.1.below bl6, HK4.out.1.2.below bl6⟩, HK4.out.2⟩
           replace HS3 : Hid (StR y6 gs gm n lv V m) := HS3.out.below bl6
           replace HZ : Hid (Below w.heap.size w y6) := HZ.out.trans (bl6.mono HZ.out.size)
           clear sr bl6 H5)
        | (clear t66; with_reducible refine wpSeq_loadW 43 (.tmp 11) g11 0 [.slice a1 n1 k1, .slice a2 n2 k2] _ (Blk.range H6.out) Tryz.underlying43 rfl (info_keys _ _) ?_ ?_ ?_ ?_
           · rfl
           · rfl
           · rfl)
        | (clear t67; go_at_call 26; refine (HLI.out _ _ _ _ _ _ _ _ _ _ _ _ HS3.out HK4.out).mono ?_; rintro e7 y7 ⟨rfl, bl7⟩
           replace HZ : Hid (Below w.heap.size w y7) := HZ.out.trans (bl7.mono HZ.out.size)
           clear bl7)
        | (clear t68; go_at_call 10; refine (HWK.out _ HZ.out).mono ?_; rintro e9 y9 ⟨rfl, bl9⟩
           replace HZ : Hid (Below w.heap.size w y9) := HZ.out.trans (bl9.mono HZ.out.size)
           clear bl9))
      go_ret
      exact ⟨rfl, HZ.out⟩
end Go.Proofs.YtopmeedmgjdcgaaGreatDoor
/- What the listed variable gives: the rounds' words lie where the walks look for them. -/
namespace Go.Proofs.YtopmeedmgjdcgaaGreatDoor
open Go.ChangeShapes Go.WideShapes Go.ChangeAt Go.WideMaps Go.WideElems Go.RowKit
set_option maxRecDepth 100000
theorem own : ownKnob Tryz.prog.godebug = none := by kernel_rfl
theorem gKw : Tryz.prog.globalNamed "blazon/sha.roundWords" = some 1 := by kernel_rfl
theorem tKw : (Tryz.prog.globals[1]?).map (·.type) = some 196 := by kernel_rfl
def laidK : List (String × DataW Unit) := [("blazon/sha.roundWords", Rows.laid_blazon_sha_roundWords)]
def kzs : List Int := kw.map fun x => (x.toNat : Int)
theorem laid_tab : (Rows.laid_blazon_sha_roundWords : DataW Unit) = Lib.tabData .u32 kzs := by kernel_rfl
theorem door_met (os : Os) (args : Array Value) : laidMetH Tryz.prog laidK ((World.doorLaid Tryz.prog 400 os).forCall (fun _ _ => 0) ⟨#[], args, []⟩).memory :=
  laidMetH_of_parts3 (fuel := 8) (laidMet_of_run' 8 (by kernel_rfl) (by kernel_rfl)) (by kernel_rfl) (by kernel_rfl)
theorem getD_toNat (l : List (BitVec 32)) (j : Nat) : (l.map fun x => (x.toNat : Int)).getD j 0 = ((l.getD j 0).toNat : Int) := by
  rw [List.getD_eq_getElem?_getD, List.getD_eq_getElem?_getD, List.getElem?_map]
  cases l[j]? <;> rfl
theorem kok_of_laid {W : World} (h : laidMetH Tryz.prog laidK W) : KOk W := by
  rw [MakeChecks.laidMetH_plain _ _ _ (by kernel_rfl)] at h
  unfold laidK at h
  rw [laid_tab] at h
  have hT := Lib.tabIs_of_head gKw tKw Tryz.underlying196 Tryz.underlying181 (by kernel_rfl) (by kernel_rfl) h
  intro j hj
  rw [hT.cell gKw j (by simpa [kzs, kw] using hj), kzs, getD_toNat]
end Go.Proofs.YtopmeedmgjdcgaaGreatDoor
/- What a slice of bytes that came in gives: the bytes that it reads as; and that it reads so still behind a call that changed no old block. -/
namespace Go.Proofs.YtopmeedmgjdcgaaGreatDoor
open Go.ChangeShapes Go.WideShapes Go.ChangeAt Go.WideMaps Go.WideElems Go.RowKit
set_option maxRecDepth 100000
theorem cells_byte : Tryz.prog.cellsOf 5 = 1 := by kernel_rfl
theorem laid_out : laidOutB Tryz.prog = true := by kernel_rfl
theorem readable_bytes : Tryz.prog.readableRec 23 = true := by kernel_rfl
theorem row_bytes : 23 < Tryz.prog.types.size := of_decide_eq_true (by kernel_rfl)
theorem byte_range {zs : List Int} (h : ∀ n ∈ zs, (Lit.int .u8 n).wf = true) (j : Nat) : 0 ≤ zs.getD j 0 ∧ zs.getD j 0 < 256 := by
  rw [List.getD_eq_getElem?_getD]
  cases hj : zs[j]? with
  | none => simp
  | some n =>
    have := h n (List.mem_of_getElem? hj)
    have := bounds_u8 this
    simp
    omega
theorem reads_of_trod {H : Type} {enc : TypeId × Value → H} {W : World} {base : Nat} {v : Value} {d : DataW H} {p : List MemPlace} (hval : Value.okWide Tryz.prog W .any base 23 v)
    (h : DataW.Trod enc Tryz.prog W 0 (fun _ => true) true 23 v d p) :
    ∃ bs, Reads W v bs ∧ bs.length ≤ maxLen ∧ ∀ x ∈ p, x.block < W.heap.size := by
  obtain ⟨a1, len, cap, rfl⟩ := okWide_slice Tryz.underlying23 hval
  obtain ⟨fuel, hf⟩ := h
  rcases open_ints Tryz.underlying23 Tryz.underlying5 cells_byte hf with ⟨hcs, hx⟩ | ⟨a, len', cap', zs, hcs, _, hl, hm, hz, hx, hcell, hwz⟩
  · simp [Value.cells] at hcs
    obtain ⟨rfl, rfl, rfl⟩ := hcs
    simp only [Prod.mk.injEq] at hx
    obtain ⟨rfl, rfl⟩ := hx
    exact ⟨[], ⟨none, 0, rfl, Nat.le_refl _, fun _ => rfl, fun h => by cases h⟩, Nat.zero_le _, fun _ h => by cases h⟩
  · simp [Value.cells] at hcs
    obtain ⟨rfl, rfl, rfl⟩ := hcs
    simp only [Prod.mk.injEq] at hx
    obtain ⟨rfl, rfl⟩ := hx
    simp only [if_true] at hz
    have hlen : ((zs.take len).map fun n => BitVec.ofInt 8 n).length = len := by simp; omega
    obtain ⟨ab, ao, spot⟩ := a
    refine ⟨(zs.take len).map fun n => BitVec.ofInt 8 n, ⟨some ⟨ab, ao, spot⟩, cap, by rw [hlen], by rw [hlen]; exact hl, (fun h => by cases h), fun hp => ?_⟩, by rw [hlen]; omega, fun x hx => ?_⟩
    · rw [hlen] at hp ⊢
      have hspot : spot = none := by simpa [Addr.add] using World.cell?_spot (hcell 0 (by omega))
      subst hspot
      refine ⟨ab, ao, rfl, fun j hj => ?_⟩
      have hcj := hcell j (by omega)
      rw [Addr.add_lit] at hcj
      rw [hcj]
      have hb := byte_range hwz j
      have e : ((zs.take len).map fun n => BitVec.ofInt 8 n).getD j 0 = BitVec.ofInt 8 (zs.getD j 0) := by
        rw [List.getD_eq_getElem?_getD, List.getElem?_map, List.getElem?_take_of_lt hj, List.getD_eq_getElem?_getD, List.getElem?_eq_getElem (show j < zs.length by omega)]
        rfl
      rw [e, BitVec.toNat_ofInt]
      congr 2
      omega
    · simp only [MemPlace.row, List.mem_map, List.mem_range] at hx
      obtain ⟨i, hi, rfl⟩ := hx
      have hcj := hcell i (by omega)
      have := block_lt_of_cell hcj
      simp only [Addr.add] at this
      split at this <;> exact this
end Go.Proofs.YtopmeedmgjdcgaaGreatDoor
/- What a digest that came in gives: its 32 bytes. -/
namespace Go.Proofs.YtopmeedmgjdcgaaGreatDoor
open Go.ChangeShapes Go.WideShapes Go.ChangeAt Go.WideMaps Go.WideElems Go.RowKit
set_option maxRecDepth 100000
end Go.Proofs.YtopmeedmgjdcgaaGreatDoor
/- What a slice of acts and bytes that came in give, with their sizes (layer 15). -/
namespace Go.Proofs.YtopmeedmgjdcgaaGreatDoor
open Go.ChangeShapes Go.WideShapes Go.ChangeAt Go.WideMaps Go.WideElems Go.RowKit
set_option maxRecDepth 100000
theorem strB_of (s : ByteArray) : ∃ nm, s = strB nm := by
  refine ⟨s.data.toList.map fun b => BitVec.ofNat 8 b.toNat, ?_⟩
  have h := strB_data (s.data.toList.map fun b => BitVec.ofNat 8 b.toNat)
  have h2 : (s.data.toList.map fun b => BitVec.ofNat 8 b.toNat).map (fun b => UInt8.ofNat b.toNat) = s.data.toList := by
    rw [List.map_map]
    have : ((fun b : BitVec 8 => UInt8.ofNat b.toNat) ∘ fun b : UInt8 => BitVec.ofNat 8 b.toNat) = id := by
      funext b
      simp only [Function.comp, BitVec.toNat_ofNat, id]
      have := b.toNat_lt
      rw [Nat.mod_eq_of_lt (by omega)]
      simp
    rw [this, List.map_id]
  rw [h2] at h
  obtain ⟨d⟩ := s
  generalize strB _ = t at *
  obtain ⟨e⟩ := t
  simp only at h
  rw [Array.ext' h]
end Go.Proofs.YtopmeedmgjdcgaaGreatDoor

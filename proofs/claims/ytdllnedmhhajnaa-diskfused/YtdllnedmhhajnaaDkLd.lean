/- DiskLoads over what disk's functions do (layer 13). -/
import Derived.Test.YtdllnedmhhajnaaDkD2
namespace Go.Proofs.Ytdllnedmhhajnaa
open Go.RowKit
set_option maxRecDepth 100000
set_option maxRecDepth 100000 in
set_option maxHeartbeats 8000000 in
theorem diskLoads_law {Dk : World → Nat → (Nat → Prop) → DkT → Prop} (OPS : DkOps Dk) (LD : DkLoad Dk) (v : Value) (b : Bs) (n : Int) (w : World) (hb : Reads w v b) :
    Calls Try.prog 4 #[v, .int .i64 n] w fun e w' => e = .returned (.bool true) ∧ Below w.heap.size w w' := by
  obtain ⟨ab, cb2, hv, hq0⟩ := id hb
  clear hq0
  obtain ⟨L, HL⟩ : ∃ n, Hid (n = b.length) := ⟨_, rfl⟩
  rw [← HL.out] at hv
  subst hv
  have HRB : Hid (Reads w (.slice ab L cb2) b) := hb
  have HBW : Hid (Below w.heap.size w w) := Below.refl _ _
  clear hb
  by_cases hbig : 12800 < L
  case pos =>
    have l1 : (L : Int) > 12800 := by omega
    go_enter Try.func4, Try.ntmps4
    have tk0 : Hid True := trivial
    go_wp2_with (first
      | (clear tk0; go_at_call 10; refine (works13_any OPS w).mono ?_; rintro e y1 ⟨rfl, hbz⟩
         replace HBW : Hid (Below w.heap.size w y1) := HBW.out.trans (hbz.mono HBW.out.size)
         clear hbz ))
    go_ret
    exact ⟨rfl, HBW.out⟩
  have l1 : ¬ ((L : Int) > 12800) := by omega
  by_cases hm0 : L % 64 = 0
  case neg =>
    have HB1 : Hid (b.length % 64 ≠ 0) := by show _ ≠ _; rw [← HL.out]; exact hm0
    clear hbig hm0
    by_cases hn1 : 300 < n ∧ n ≤ 16384
    case pos =>
      have n3 : n > 300 := hn1.1
      have n4 : n ≤ 16384 := hn1.2
      clear hn1
      go_enter Try.func4, Try.ntmps4
      have tk0 : Hid True := trivial
      have tk1 : Hid True := trivial
      have tk2 : Hid True := trivial
      have tk3 : Hid True := trivial
      go_upto_region 7 with (first
        | (clear tk0; go_at_call 17; refine (LD.arg w _ b HRB.out HB1.out).mono ?_; rintro e y1 ⟨rfl, hbz⟩
           replace HBW : Hid (Below w.heap.size w y1) := HBW.out.trans (hbz.mono HBW.out.size)
           clear hbz )
        | (clear tk1; go_at_call 18; refine (rdLoad_arg _ b y1 (HRB.out.below HBW.out) HB1.out).mono ?_; rintro e y2 ⟨rfl, hbz⟩
           replace HBW : Hid (Below w.heap.size w y2) := HBW.out.trans (hbz.mono HBW.out.size)
           clear hbz )
        | (clear tk2; with_reducible refine wpSeq_allocRd ?_ ?_ ?_
           · rfl
           · rfl
           intro gr y3 nn)
        | (clear tk3; with_reducible refine wpSeq_storeRow 27 (.tmp 7) (.tmp 24) gr [.slice none 0 0, .slice none 0 0, .int .i64 0, .bool false] [.slice none 0 0, .slice none 0 0, .int .i64 0, .bool false] ?_ ?_ ?_ ?_ ?_ ?_ ?_ ?_ ?_
           · exact nn.blk
           · rfl
           · exact info_rd _ _ _ _
           · exact one_rd _ _ _ _ _ _ _ _
           · rfl
           · rfl
           · rfl
           · rfl
           intro y4 hs
           have hbz := nn.below.trans (hs.only.below nn.ge nn.below.size)
           replace HBW : Hid (Below w.heap.size w y4) := HBW.out.trans (hbz.mono HBW.out.size)
           have HR : Hid (Blk y4 gr [.slice none 0 0, .slice none 0 0, .int .i64 0, .bool false] 27) := hs.blk
           clear nn hs hbz))
      refine wp_region_held_drew (S := Over (World.drew y4)) (by kernel_rfl) (Over.refl _) ?_
      intro hS
      replace HBW : Hid (Below w.heap.size w (World.drew y4)) := HBW.out.drew
      change wpAnyH _ _ _ _ _ _ _ _ (World.drew y4)
      generalize World.drew y4 = y0 at *
      try simp only [Act.put, List.setIfInBounds_toArray, List.set_cons_zero, List.set_cons_succ]
      refine wpAnyH_take (i := 0) (v := .pointer none) rfl (by kernel_rfl) (by kernel_rfl) (by kernel_rfl) (fun _ _ _ h => h) (Or.inl ⟨by rfl, fun wx hx => by simp [go_sem]⟩) hS ?_
      simp only [Act.put, List.getElem_toArray, List.getElem_cons_zero, List.setIfInBounds_toArray, List.set_cons_zero, List.set_cons_succ]
      refine wpAnyH_take (i := 1) (v := .bool false) rfl (by kernel_rfl) (by kernel_rfl) (by kernel_rfl) (fun _ _ _ h => h) (Or.inl ⟨by rfl, fun wx hx => by simp [go_sem]⟩) hS ?_
      simp only [Act.put, List.getElem_toArray, List.getElem_cons_succ, List.getElem_cons_zero, List.setIfInBounds_toArray, List.set_cons_zero, List.set_cons_succ]
      refine wpAnyH_take (i := 2) (v := .bool false) rfl (by kernel_rfl) (by kernel_rfl) (by kernel_rfl) (fun _ _ _ h => h) (Or.inl ⟨by rfl, fun wx hx => by simp [go_sem]⟩) hS ?_
      simp only [Act.put, List.getElem_toArray, List.getElem_cons_succ, List.getElem_cons_zero, List.setIfInBounds_toArray, List.set_cons_zero, List.set_cons_succ]
      refine wpAnyH_take (i := 3) (v := undef) rfl (by kernel_rfl) (by kernel_rfl) (by kernel_rfl) (fun _ _ _ h => h) (Or.inr ⟨by rfl, rfl⟩) hS ?_
      simp only [Act.put, List.getElem_toArray, List.getElem_cons_succ, List.getElem_cons_zero, List.setIfInBounds_toArray, List.set_cons_zero, List.set_cons_succ]
      refine wpAnyH_take (i := 4) (v := undef) rfl (by kernel_rfl) (by kernel_rfl) (by kernel_rfl) (fun _ _ _ h => h) (Or.inr ⟨by rfl, rfl⟩) hS ?_
      simp only [Act.put, List.getElem_toArray, List.getElem_cons_succ, List.getElem_cons_zero, List.setIfInBounds_toArray, List.set_cons_zero, List.set_cons_succ]
      refine wpAnyH_take (i := 5) (v := undef) rfl (by kernel_rfl) (by kernel_rfl) (by kernel_rfl) (fun _ _ _ h => h) (Or.inr ⟨by rfl, rfl⟩) hS ?_
      simp only [Act.put, List.getElem_toArray, List.getElem_cons_succ, List.getElem_cons_zero, List.setIfInBounds_toArray, List.set_cons_zero, List.set_cons_succ]
      refine wpAnyH_take (i := 6) (v := undef) rfl (by kernel_rfl) (by kernel_rfl) (by kernel_rfl) (fun _ _ _ h => h) (Or.inr ⟨by rfl, rfl⟩) hS ?_
      simp only [Act.put, List.getElem_toArray, List.getElem_cons_succ, List.getElem_cons_zero, List.setIfInBounds_toArray, List.set_cons_zero, List.set_cons_succ]
      refine wpAnyH_take (i := 7) (v := undef) rfl (by kernel_rfl) (by kernel_rfl) (by kernel_rfl) (fun _ _ _ h => h) (Or.inr ⟨by rfl, rfl⟩) hS ?_
      simp only [Act.put, List.getElem_toArray, List.getElem_cons_succ, List.getElem_cons_zero, List.setIfInBounds_toArray, List.set_cons_zero, List.set_cons_succ]
      refine wpAnyH_take (i := 8) (v := undef) rfl (by kernel_rfl) (by kernel_rfl) (by kernel_rfl) (fun _ _ _ h => h) (Or.inr ⟨by rfl, rfl⟩) hS ?_
      simp only [Act.put, List.getElem_toArray, List.getElem_cons_succ, List.getElem_cons_zero, List.setIfInBounds_toArray, List.set_cons_zero, List.set_cons_succ]
      refine wpAnyH_take (i := 9) (v := undef) rfl (by kernel_rfl) (by kernel_rfl) (by kernel_rfl) (fun _ _ _ h => h) (Or.inr ⟨by rfl, rfl⟩) hS ?_
      simp only [Act.put, List.getElem_toArray, List.getElem_cons_succ, List.getElem_cons_zero, List.setIfInBounds_toArray, List.set_cons_zero, List.set_cons_succ]
      refine wpAnyH_take (i := 10) (v := undef) rfl (by kernel_rfl) (by kernel_rfl) (by kernel_rfl) (fun _ _ _ h => h) (Or.inr ⟨by rfl, rfl⟩) hS ?_
      simp only [Act.put, List.getElem_toArray, List.getElem_cons_succ, List.getElem_cons_zero, List.setIfInBounds_toArray, List.set_cons_zero, List.set_cons_succ]
      refine wpAnyH_take (i := 11) (v := undef) rfl (by kernel_rfl) (by kernel_rfl) (by kernel_rfl) (fun _ _ _ h => h) (Or.inr ⟨by rfl, rfl⟩) hS ?_
      simp only [Act.put, List.getElem_toArray, List.getElem_cons_succ, List.getElem_cons_zero, List.setIfInBounds_toArray, List.set_cons_zero, List.set_cons_succ]
      refine wpAnyH_take (i := 12) (v := undef) rfl (by kernel_rfl) (by kernel_rfl) (by kernel_rfl) (fun _ _ _ h => h) (Or.inr ⟨by rfl, rfl⟩) hS ?_
      simp only [Act.put, List.getElem_toArray, List.getElem_cons_succ, List.getElem_cons_zero, List.setIfInBounds_toArray, List.set_cons_zero, List.set_cons_succ]
      refine wpAnyH_take (i := 13) (v := undef) rfl (by kernel_rfl) (by kernel_rfl) (by kernel_rfl) (fun _ _ _ h => h) (Or.inr ⟨by rfl, rfl⟩) hS ?_
      simp only [Act.put, List.getElem_toArray, List.getElem_cons_succ, List.getElem_cons_zero, List.setIfInBounds_toArray, List.set_cons_zero, List.set_cons_succ]
      refine wpAnyH_take (i := 14) (v := undef) rfl (by kernel_rfl) (by kernel_rfl) (by kernel_rfl) (fun _ _ _ h => h) (Or.inr ⟨by rfl, rfl⟩) hS ?_
      simp only [Act.put, List.getElem_toArray, List.getElem_cons_succ, List.getElem_cons_zero, List.setIfInBounds_toArray, List.set_cons_zero, List.set_cons_succ]
      refine wpAnyH_take (i := 15) (v := undef) rfl (by kernel_rfl) (by kernel_rfl) (by kernel_rfl) (fun _ _ _ h => h) (Or.inr ⟨by rfl, rfl⟩) hS ?_
      simp only [Act.put, List.getElem_toArray, List.getElem_cons_succ, List.getElem_cons_zero, List.setIfInBounds_toArray, List.set_cons_zero, List.set_cons_succ]
      refine wpAnyH_take (i := 16) (v := undef) rfl (by kernel_rfl) (by kernel_rfl) (by kernel_rfl) (fun _ _ _ h => h) (Or.inr ⟨by rfl, rfl⟩) hS ?_
      simp only [Act.put, List.getElem_toArray, List.getElem_cons_succ, List.getElem_cons_zero, List.setIfInBounds_toArray, List.set_cons_zero, List.set_cons_succ]
      refine wpAnyH_take (i := 17) (v := undef) rfl (by kernel_rfl) (by kernel_rfl) (by kernel_rfl) (fun _ _ _ h => h) (Or.inr ⟨by rfl, rfl⟩) hS ?_
      simp only [Act.put, List.getElem_toArray, List.getElem_cons_succ, List.getElem_cons_zero, List.setIfInBounds_toArray, List.set_cons_zero, List.set_cons_succ]
      refine wpAnyH_take (i := 18) (v := undef) rfl (by kernel_rfl) (by kernel_rfl) (by kernel_rfl) (fun _ _ _ h => h) (Or.inr ⟨by rfl, rfl⟩) hS ?_
      simp only [Act.put, List.getElem_toArray, List.getElem_cons_succ, List.getElem_cons_zero, List.setIfInBounds_toArray, List.set_cons_zero, List.set_cons_succ]
      refine wpAnyH_take (i := 19) (v := undef) rfl (by kernel_rfl) (by kernel_rfl) (by kernel_rfl) (fun _ _ _ h => h) (Or.inr ⟨by rfl, rfl⟩) hS ?_
      simp only [Act.put, List.getElem_toArray, List.getElem_cons_succ, List.getElem_cons_zero, List.setIfInBounds_toArray, List.set_cons_zero, List.set_cons_succ]
      refine wpAnyH_take (i := 20) (v := undef) rfl (by kernel_rfl) (by kernel_rfl) (by kernel_rfl) (fun _ _ _ h => h) (Or.inr ⟨by rfl, rfl⟩) hS ?_
      simp only [Act.put, List.getElem_toArray, List.getElem_cons_succ, List.getElem_cons_zero, List.setIfInBounds_toArray, List.set_cons_zero, List.set_cons_succ]
      refine wpAnyH_take (i := 21) (v := undef) rfl (by kernel_rfl) (by kernel_rfl) (by kernel_rfl) (fun _ _ _ h => h) (Or.inr ⟨by rfl, rfl⟩) hS ?_
      simp only [Act.put, List.getElem_toArray, List.getElem_cons_succ, List.getElem_cons_zero, List.setIfInBounds_toArray, List.set_cons_zero, List.set_cons_succ]
      refine wpAnyH_take (i := 22) (v := .bool false) rfl (by kernel_rfl) (by kernel_rfl) (by kernel_rfl) (fun _ _ _ h => h) (Or.inl ⟨by rfl, fun wx hx => by simp [go_sem]⟩) hS ?_
      simp only [Act.put, List.getElem_toArray, List.getElem_cons_succ, List.getElem_cons_zero, List.setIfInBounds_toArray, List.set_cons_zero, List.set_cons_succ]
      refine wpAnyH_done (by kernel_rfl) ?_ _
      clear HR hS
      have tk60 : Hid True := trivial
      go_wp2_with (first
        | (clear tk60; go_at_call 10; refine (works13_any OPS y0).mono ?_; rintro e y61 ⟨rfl, hbz⟩
           replace HBW : Hid (Below w.heap.size w y61) := HBW.out.trans (hbz.mono HBW.out.size)
           clear hbz ))
      go_ret
      exact ⟨rfl, HBW.out⟩
    case neg =>
      by_cases hn2 : n < 1
      case pos =>
        have HNB : Hid (n < 1 ∨ 16384 < n) := Or.inl hn2
        have n3 : ¬ (n > 300) := by omega
        clear hn1
        go_enter Try.func4, Try.ntmps4
        have tk0 : Hid True := trivial
        have tk1 : Hid True := trivial
        have tk2 : Hid True := trivial
        have tk3 : Hid True := trivial
        go_upto_region 7 with (first
          | (clear tk0; go_at_call 17; refine (LD.arg w _ b HRB.out HB1.out).mono ?_; rintro e y1 ⟨rfl, hbz⟩
             replace HBW : Hid (Below w.heap.size w y1) := HBW.out.trans (hbz.mono HBW.out.size)
             clear hbz )
          | (clear tk1; go_at_call 18; refine (rdLoad_arg _ b y1 (HRB.out.below HBW.out) HB1.out).mono ?_; rintro e y2 ⟨rfl, hbz⟩
             replace HBW : Hid (Below w.heap.size w y2) := HBW.out.trans (hbz.mono HBW.out.size)
             clear hbz )
          | (clear tk2; with_reducible refine wpSeq_allocRd ?_ ?_ ?_
             · rfl
             · rfl
             intro gr y3 nn)
          | (clear tk3; with_reducible refine wpSeq_storeRow 27 (.tmp 7) (.tmp 24) gr [.slice none 0 0, .slice none 0 0, .int .i64 0, .bool false] [.slice none 0 0, .slice none 0 0, .int .i64 0, .bool false] ?_ ?_ ?_ ?_ ?_ ?_ ?_ ?_ ?_
             · exact nn.blk
             · rfl
             · exact info_rd _ _ _ _
             · exact one_rd _ _ _ _ _ _ _ _
             · rfl
             · rfl
             · rfl
             · rfl
             intro y4 hs
             have hbz := nn.below.trans (hs.only.below nn.ge nn.below.size)
             replace HBW : Hid (Below w.heap.size w y4) := HBW.out.trans (hbz.mono HBW.out.size)
             have HR : Hid (Blk y4 gr [.slice none 0 0, .slice none 0 0, .int .i64 0, .bool false] 27) := hs.blk
             clear nn hs hbz))
        refine wp_region_held_drew (S := Over (World.drew y4)) (by kernel_rfl) (Over.refl _) ?_
        intro hS
        replace HBW : Hid (Below w.heap.size w (World.drew y4)) := HBW.out.drew
        change wpAnyH _ _ _ _ _ _ _ _ (World.drew y4)
        generalize World.drew y4 = y0 at *
        try simp only [Act.put, List.setIfInBounds_toArray, List.set_cons_zero, List.set_cons_succ]
        refine wpAnyH_take (i := 0) (v := .pointer none) rfl (by kernel_rfl) (by kernel_rfl) (by kernel_rfl) (fun _ _ _ h => h) (Or.inl ⟨by rfl, fun wx hx => by simp [go_sem]⟩) hS ?_
        simp only [Act.put, List.getElem_toArray, List.getElem_cons_zero, List.setIfInBounds_toArray, List.set_cons_zero, List.set_cons_succ]
        refine wpAnyH_take (i := 1) (v := .bool false) rfl (by kernel_rfl) (by kernel_rfl) (by kernel_rfl) (fun _ _ _ h => h) (Or.inl ⟨by rfl, fun wx hx => by simp [go_sem]⟩) hS ?_
        simp only [Act.put, List.getElem_toArray, List.getElem_cons_succ, List.getElem_cons_zero, List.setIfInBounds_toArray, List.set_cons_zero, List.set_cons_succ]
        refine wpAnyH_take (i := 2) (v := .bool false) rfl (by kernel_rfl) (by kernel_rfl) (by kernel_rfl) (fun _ _ _ h => h) (Or.inl ⟨by rfl, fun wx hx => by simp [go_sem]⟩) hS ?_
        simp only [Act.put, List.getElem_toArray, List.getElem_cons_succ, List.getElem_cons_zero, List.setIfInBounds_toArray, List.set_cons_zero, List.set_cons_succ]
        refine wpAnyH_take (i := 3) (v := undef) rfl (by kernel_rfl) (by kernel_rfl) (by kernel_rfl) (fun _ _ _ h => h) (Or.inr ⟨by rfl, rfl⟩) hS ?_
        simp only [Act.put, List.getElem_toArray, List.getElem_cons_succ, List.getElem_cons_zero, List.setIfInBounds_toArray, List.set_cons_zero, List.set_cons_succ]
        refine wpAnyH_take (i := 4) (v := undef) rfl (by kernel_rfl) (by kernel_rfl) (by kernel_rfl) (fun _ _ _ h => h) (Or.inr ⟨by rfl, rfl⟩) hS ?_
        simp only [Act.put, List.getElem_toArray, List.getElem_cons_succ, List.getElem_cons_zero, List.setIfInBounds_toArray, List.set_cons_zero, List.set_cons_succ]
        refine wpAnyH_take (i := 5) (v := undef) rfl (by kernel_rfl) (by kernel_rfl) (by kernel_rfl) (fun _ _ _ h => h) (Or.inr ⟨by rfl, rfl⟩) hS ?_
        simp only [Act.put, List.getElem_toArray, List.getElem_cons_succ, List.getElem_cons_zero, List.setIfInBounds_toArray, List.set_cons_zero, List.set_cons_succ]
        refine wpAnyH_take (i := 6) (v := undef) rfl (by kernel_rfl) (by kernel_rfl) (by kernel_rfl) (fun _ _ _ h => h) (Or.inr ⟨by rfl, rfl⟩) hS ?_
        simp only [Act.put, List.getElem_toArray, List.getElem_cons_succ, List.getElem_cons_zero, List.setIfInBounds_toArray, List.set_cons_zero, List.set_cons_succ]
        refine wpAnyH_take (i := 7) (v := undef) rfl (by kernel_rfl) (by kernel_rfl) (by kernel_rfl) (fun _ _ _ h => h) (Or.inr ⟨by rfl, rfl⟩) hS ?_
        simp only [Act.put, List.getElem_toArray, List.getElem_cons_succ, List.getElem_cons_zero, List.setIfInBounds_toArray, List.set_cons_zero, List.set_cons_succ]
        refine wpAnyH_take (i := 8) (v := undef) rfl (by kernel_rfl) (by kernel_rfl) (by kernel_rfl) (fun _ _ _ h => h) (Or.inr ⟨by rfl, rfl⟩) hS ?_
        simp only [Act.put, List.getElem_toArray, List.getElem_cons_succ, List.getElem_cons_zero, List.setIfInBounds_toArray, List.set_cons_zero, List.set_cons_succ]
        refine wpAnyH_take (i := 9) (v := undef) rfl (by kernel_rfl) (by kernel_rfl) (by kernel_rfl) (fun _ _ _ h => h) (Or.inr ⟨by rfl, rfl⟩) hS ?_
        simp only [Act.put, List.getElem_toArray, List.getElem_cons_succ, List.getElem_cons_zero, List.setIfInBounds_toArray, List.set_cons_zero, List.set_cons_succ]
        refine wpAnyH_take (i := 10) (v := undef) rfl (by kernel_rfl) (by kernel_rfl) (by kernel_rfl) (fun _ _ _ h => h) (Or.inr ⟨by rfl, rfl⟩) hS ?_
        simp only [Act.put, List.getElem_toArray, List.getElem_cons_succ, List.getElem_cons_zero, List.setIfInBounds_toArray, List.set_cons_zero, List.set_cons_succ]
        refine wpAnyH_take (i := 11) (v := undef) rfl (by kernel_rfl) (by kernel_rfl) (by kernel_rfl) (fun _ _ _ h => h) (Or.inr ⟨by rfl, rfl⟩) hS ?_
        simp only [Act.put, List.getElem_toArray, List.getElem_cons_succ, List.getElem_cons_zero, List.setIfInBounds_toArray, List.set_cons_zero, List.set_cons_succ]
        refine wpAnyH_take (i := 12) (v := undef) rfl (by kernel_rfl) (by kernel_rfl) (by kernel_rfl) (fun _ _ _ h => h) (Or.inr ⟨by rfl, rfl⟩) hS ?_
        simp only [Act.put, List.getElem_toArray, List.getElem_cons_succ, List.getElem_cons_zero, List.setIfInBounds_toArray, List.set_cons_zero, List.set_cons_succ]
        refine wpAnyH_take (i := 13) (v := undef) rfl (by kernel_rfl) (by kernel_rfl) (by kernel_rfl) (fun _ _ _ h => h) (Or.inr ⟨by rfl, rfl⟩) hS ?_
        simp only [Act.put, List.getElem_toArray, List.getElem_cons_succ, List.getElem_cons_zero, List.setIfInBounds_toArray, List.set_cons_zero, List.set_cons_succ]
        refine wpAnyH_take (i := 14) (v := undef) rfl (by kernel_rfl) (by kernel_rfl) (by kernel_rfl) (fun _ _ _ h => h) (Or.inr ⟨by rfl, rfl⟩) hS ?_
        simp only [Act.put, List.getElem_toArray, List.getElem_cons_succ, List.getElem_cons_zero, List.setIfInBounds_toArray, List.set_cons_zero, List.set_cons_succ]
        refine wpAnyH_take (i := 15) (v := undef) rfl (by kernel_rfl) (by kernel_rfl) (by kernel_rfl) (fun _ _ _ h => h) (Or.inr ⟨by rfl, rfl⟩) hS ?_
        simp only [Act.put, List.getElem_toArray, List.getElem_cons_succ, List.getElem_cons_zero, List.setIfInBounds_toArray, List.set_cons_zero, List.set_cons_succ]
        refine wpAnyH_take (i := 16) (v := undef) rfl (by kernel_rfl) (by kernel_rfl) (by kernel_rfl) (fun _ _ _ h => h) (Or.inr ⟨by rfl, rfl⟩) hS ?_
        simp only [Act.put, List.getElem_toArray, List.getElem_cons_succ, List.getElem_cons_zero, List.setIfInBounds_toArray, List.set_cons_zero, List.set_cons_succ]
        refine wpAnyH_take (i := 17) (v := undef) rfl (by kernel_rfl) (by kernel_rfl) (by kernel_rfl) (fun _ _ _ h => h) (Or.inr ⟨by rfl, rfl⟩) hS ?_
        simp only [Act.put, List.getElem_toArray, List.getElem_cons_succ, List.getElem_cons_zero, List.setIfInBounds_toArray, List.set_cons_zero, List.set_cons_succ]
        refine wpAnyH_take (i := 18) (v := undef) rfl (by kernel_rfl) (by kernel_rfl) (by kernel_rfl) (fun _ _ _ h => h) (Or.inr ⟨by rfl, rfl⟩) hS ?_
        simp only [Act.put, List.getElem_toArray, List.getElem_cons_succ, List.getElem_cons_zero, List.setIfInBounds_toArray, List.set_cons_zero, List.set_cons_succ]
        refine wpAnyH_take (i := 19) (v := undef) rfl (by kernel_rfl) (by kernel_rfl) (by kernel_rfl) (fun _ _ _ h => h) (Or.inr ⟨by rfl, rfl⟩) hS ?_
        simp only [Act.put, List.getElem_toArray, List.getElem_cons_succ, List.getElem_cons_zero, List.setIfInBounds_toArray, List.set_cons_zero, List.set_cons_succ]
        refine wpAnyH_take (i := 20) (v := undef) rfl (by kernel_rfl) (by kernel_rfl) (by kernel_rfl) (fun _ _ _ h => h) (Or.inr ⟨by rfl, rfl⟩) hS ?_
        simp only [Act.put, List.getElem_toArray, List.getElem_cons_succ, List.getElem_cons_zero, List.setIfInBounds_toArray, List.set_cons_zero, List.set_cons_succ]
        refine wpAnyH_take (i := 21) (v := undef) rfl (by kernel_rfl) (by kernel_rfl) (by kernel_rfl) (fun _ _ _ h => h) (Or.inr ⟨by rfl, rfl⟩) hS ?_
        simp only [Act.put, List.getElem_toArray, List.getElem_cons_succ, List.getElem_cons_zero, List.setIfInBounds_toArray, List.set_cons_zero, List.set_cons_succ]
        refine wpAnyH_take (i := 22) (v := .bool false) rfl (by kernel_rfl) (by kernel_rfl) (by kernel_rfl) (fun _ _ _ h => h) (Or.inl ⟨by rfl, fun wx hx => by simp [go_sem]⟩) hS ?_
        simp only [Act.put, List.getElem_toArray, List.getElem_cons_succ, List.getElem_cons_zero, List.setIfInBounds_toArray, List.set_cons_zero, List.set_cons_succ]
        refine wpAnyH_done (by kernel_rfl) ?_ _
        clear HR hS
        have tk60 : Hid True := trivial
        have tk61 : Hid True := trivial
        go_wp2_with (first
          | (clear tk60; go_at_call 19; refine (OPS.newBad y0 n HNB.out).mono ?_; rintro e y61 ⟨rfl, hbz⟩
             replace HBW : Hid (Below w.heap.size w y61) := HBW.out.trans (hbz.mono HBW.out.size)
             clear hbz )
          | (clear tk61; go_at_call 10; refine (works13_any OPS y61).mono ?_; rintro e y62 ⟨rfl, hbz⟩
             replace HBW : Hid (Below w.heap.size w y62) := HBW.out.trans (hbz.mono HBW.out.size)
             clear hbz ))
        go_ret
        exact ⟨rfl, HBW.out⟩
      case neg =>
        by_cases hn3 : 16384 < n
        case pos =>
          have HNB : Hid (n < 1 ∨ 16384 < n) := Or.inr hn3
          have n3 : n > 300 := by omega
          have n4 : ¬ (n ≤ 16384) := by omega
          have n5 : n > 16384 := hn3
          clear hn1
          go_enter Try.func4, Try.ntmps4
          have tk0 : Hid True := trivial
          have tk1 : Hid True := trivial
          have tk2 : Hid True := trivial
          have tk3 : Hid True := trivial
          go_upto_region 7 with (first
            | (clear tk0; go_at_call 17; refine (LD.arg w _ b HRB.out HB1.out).mono ?_; rintro e y1 ⟨rfl, hbz⟩
               replace HBW : Hid (Below w.heap.size w y1) := HBW.out.trans (hbz.mono HBW.out.size)
               clear hbz )
            | (clear tk1; go_at_call 18; refine (rdLoad_arg _ b y1 (HRB.out.below HBW.out) HB1.out).mono ?_; rintro e y2 ⟨rfl, hbz⟩
               replace HBW : Hid (Below w.heap.size w y2) := HBW.out.trans (hbz.mono HBW.out.size)
               clear hbz )
            | (clear tk2; with_reducible refine wpSeq_allocRd ?_ ?_ ?_
               · rfl
               · rfl
               intro gr y3 nn)
            | (clear tk3; with_reducible refine wpSeq_storeRow 27 (.tmp 7) (.tmp 24) gr [.slice none 0 0, .slice none 0 0, .int .i64 0, .bool false] [.slice none 0 0, .slice none 0 0, .int .i64 0, .bool false] ?_ ?_ ?_ ?_ ?_ ?_ ?_ ?_ ?_
               · exact nn.blk
               · rfl
               · exact info_rd _ _ _ _
               · exact one_rd _ _ _ _ _ _ _ _
               · rfl
               · rfl
               · rfl
               · rfl
               intro y4 hs
               have hbz := nn.below.trans (hs.only.below nn.ge nn.below.size)
               replace HBW : Hid (Below w.heap.size w y4) := HBW.out.trans (hbz.mono HBW.out.size)
               have HR : Hid (Blk y4 gr [.slice none 0 0, .slice none 0 0, .int .i64 0, .bool false] 27) := hs.blk
               clear nn hs hbz))
          refine wp_region_held_drew (S := Over (World.drew y4)) (by kernel_rfl) (Over.refl _) ?_
          intro hS
          replace HBW : Hid (Below w.heap.size w (World.drew y4)) := HBW.out.drew
          change wpAnyH _ _ _ _ _ _ _ _ (World.drew y4)
          generalize World.drew y4 = y0 at *
          try simp only [Act.put, List.setIfInBounds_toArray, List.set_cons_zero, List.set_cons_succ]
          refine wpAnyH_take (i := 0) (v := .pointer none) rfl (by kernel_rfl) (by kernel_rfl) (by kernel_rfl) (fun _ _ _ h => h) (Or.inl ⟨by rfl, fun wx hx => by simp [go_sem]⟩) hS ?_
          simp only [Act.put, List.getElem_toArray, List.getElem_cons_zero, List.setIfInBounds_toArray, List.set_cons_zero, List.set_cons_succ]
          refine wpAnyH_take (i := 1) (v := .bool false) rfl (by kernel_rfl) (by kernel_rfl) (by kernel_rfl) (fun _ _ _ h => h) (Or.inl ⟨by rfl, fun wx hx => by simp [go_sem]⟩) hS ?_
          simp only [Act.put, List.getElem_toArray, List.getElem_cons_succ, List.getElem_cons_zero, List.setIfInBounds_toArray, List.set_cons_zero, List.set_cons_succ]
          refine wpAnyH_take (i := 2) (v := .bool false) rfl (by kernel_rfl) (by kernel_rfl) (by kernel_rfl) (fun _ _ _ h => h) (Or.inl ⟨by rfl, fun wx hx => by simp [go_sem]⟩) hS ?_
          simp only [Act.put, List.getElem_toArray, List.getElem_cons_succ, List.getElem_cons_zero, List.setIfInBounds_toArray, List.set_cons_zero, List.set_cons_succ]
          refine wpAnyH_take (i := 3) (v := undef) rfl (by kernel_rfl) (by kernel_rfl) (by kernel_rfl) (fun _ _ _ h => h) (Or.inr ⟨by rfl, rfl⟩) hS ?_
          simp only [Act.put, List.getElem_toArray, List.getElem_cons_succ, List.getElem_cons_zero, List.setIfInBounds_toArray, List.set_cons_zero, List.set_cons_succ]
          refine wpAnyH_take (i := 4) (v := undef) rfl (by kernel_rfl) (by kernel_rfl) (by kernel_rfl) (fun _ _ _ h => h) (Or.inr ⟨by rfl, rfl⟩) hS ?_
          simp only [Act.put, List.getElem_toArray, List.getElem_cons_succ, List.getElem_cons_zero, List.setIfInBounds_toArray, List.set_cons_zero, List.set_cons_succ]
          refine wpAnyH_take (i := 5) (v := undef) rfl (by kernel_rfl) (by kernel_rfl) (by kernel_rfl) (fun _ _ _ h => h) (Or.inr ⟨by rfl, rfl⟩) hS ?_
          simp only [Act.put, List.getElem_toArray, List.getElem_cons_succ, List.getElem_cons_zero, List.setIfInBounds_toArray, List.set_cons_zero, List.set_cons_succ]
          refine wpAnyH_take (i := 6) (v := undef) rfl (by kernel_rfl) (by kernel_rfl) (by kernel_rfl) (fun _ _ _ h => h) (Or.inr ⟨by rfl, rfl⟩) hS ?_
          simp only [Act.put, List.getElem_toArray, List.getElem_cons_succ, List.getElem_cons_zero, List.setIfInBounds_toArray, List.set_cons_zero, List.set_cons_succ]
          refine wpAnyH_take (i := 7) (v := undef) rfl (by kernel_rfl) (by kernel_rfl) (by kernel_rfl) (fun _ _ _ h => h) (Or.inr ⟨by rfl, rfl⟩) hS ?_
          simp only [Act.put, List.getElem_toArray, List.getElem_cons_succ, List.getElem_cons_zero, List.setIfInBounds_toArray, List.set_cons_zero, List.set_cons_succ]
          refine wpAnyH_take (i := 8) (v := undef) rfl (by kernel_rfl) (by kernel_rfl) (by kernel_rfl) (fun _ _ _ h => h) (Or.inr ⟨by rfl, rfl⟩) hS ?_
          simp only [Act.put, List.getElem_toArray, List.getElem_cons_succ, List.getElem_cons_zero, List.setIfInBounds_toArray, List.set_cons_zero, List.set_cons_succ]
          refine wpAnyH_take (i := 9) (v := undef) rfl (by kernel_rfl) (by kernel_rfl) (by kernel_rfl) (fun _ _ _ h => h) (Or.inr ⟨by rfl, rfl⟩) hS ?_
          simp only [Act.put, List.getElem_toArray, List.getElem_cons_succ, List.getElem_cons_zero, List.setIfInBounds_toArray, List.set_cons_zero, List.set_cons_succ]
          refine wpAnyH_take (i := 10) (v := undef) rfl (by kernel_rfl) (by kernel_rfl) (by kernel_rfl) (fun _ _ _ h => h) (Or.inr ⟨by rfl, rfl⟩) hS ?_
          simp only [Act.put, List.getElem_toArray, List.getElem_cons_succ, List.getElem_cons_zero, List.setIfInBounds_toArray, List.set_cons_zero, List.set_cons_succ]
          refine wpAnyH_take (i := 11) (v := undef) rfl (by kernel_rfl) (by kernel_rfl) (by kernel_rfl) (fun _ _ _ h => h) (Or.inr ⟨by rfl, rfl⟩) hS ?_
          simp only [Act.put, List.getElem_toArray, List.getElem_cons_succ, List.getElem_cons_zero, List.setIfInBounds_toArray, List.set_cons_zero, List.set_cons_succ]
          refine wpAnyH_take (i := 12) (v := undef) rfl (by kernel_rfl) (by kernel_rfl) (by kernel_rfl) (fun _ _ _ h => h) (Or.inr ⟨by rfl, rfl⟩) hS ?_
          simp only [Act.put, List.getElem_toArray, List.getElem_cons_succ, List.getElem_cons_zero, List.setIfInBounds_toArray, List.set_cons_zero, List.set_cons_succ]
          refine wpAnyH_take (i := 13) (v := undef) rfl (by kernel_rfl) (by kernel_rfl) (by kernel_rfl) (fun _ _ _ h => h) (Or.inr ⟨by rfl, rfl⟩) hS ?_
          simp only [Act.put, List.getElem_toArray, List.getElem_cons_succ, List.getElem_cons_zero, List.setIfInBounds_toArray, List.set_cons_zero, List.set_cons_succ]
          refine wpAnyH_take (i := 14) (v := undef) rfl (by kernel_rfl) (by kernel_rfl) (by kernel_rfl) (fun _ _ _ h => h) (Or.inr ⟨by rfl, rfl⟩) hS ?_
          simp only [Act.put, List.getElem_toArray, List.getElem_cons_succ, List.getElem_cons_zero, List.setIfInBounds_toArray, List.set_cons_zero, List.set_cons_succ]
          refine wpAnyH_take (i := 15) (v := undef) rfl (by kernel_rfl) (by kernel_rfl) (by kernel_rfl) (fun _ _ _ h => h) (Or.inr ⟨by rfl, rfl⟩) hS ?_
          simp only [Act.put, List.getElem_toArray, List.getElem_cons_succ, List.getElem_cons_zero, List.setIfInBounds_toArray, List.set_cons_zero, List.set_cons_succ]
          refine wpAnyH_take (i := 16) (v := undef) rfl (by kernel_rfl) (by kernel_rfl) (by kernel_rfl) (fun _ _ _ h => h) (Or.inr ⟨by rfl, rfl⟩) hS ?_
          simp only [Act.put, List.getElem_toArray, List.getElem_cons_succ, List.getElem_cons_zero, List.setIfInBounds_toArray, List.set_cons_zero, List.set_cons_succ]
          refine wpAnyH_take (i := 17) (v := undef) rfl (by kernel_rfl) (by kernel_rfl) (by kernel_rfl) (fun _ _ _ h => h) (Or.inr ⟨by rfl, rfl⟩) hS ?_
          simp only [Act.put, List.getElem_toArray, List.getElem_cons_succ, List.getElem_cons_zero, List.setIfInBounds_toArray, List.set_cons_zero, List.set_cons_succ]
          refine wpAnyH_take (i := 18) (v := undef) rfl (by kernel_rfl) (by kernel_rfl) (by kernel_rfl) (fun _ _ _ h => h) (Or.inr ⟨by rfl, rfl⟩) hS ?_
          simp only [Act.put, List.getElem_toArray, List.getElem_cons_succ, List.getElem_cons_zero, List.setIfInBounds_toArray, List.set_cons_zero, List.set_cons_succ]
          refine wpAnyH_take (i := 19) (v := undef) rfl (by kernel_rfl) (by kernel_rfl) (by kernel_rfl) (fun _ _ _ h => h) (Or.inr ⟨by rfl, rfl⟩) hS ?_
          simp only [Act.put, List.getElem_toArray, List.getElem_cons_succ, List.getElem_cons_zero, List.setIfInBounds_toArray, List.set_cons_zero, List.set_cons_succ]
          refine wpAnyH_take (i := 20) (v := undef) rfl (by kernel_rfl) (by kernel_rfl) (by kernel_rfl) (fun _ _ _ h => h) (Or.inr ⟨by rfl, rfl⟩) hS ?_
          simp only [Act.put, List.getElem_toArray, List.getElem_cons_succ, List.getElem_cons_zero, List.setIfInBounds_toArray, List.set_cons_zero, List.set_cons_succ]
          refine wpAnyH_take (i := 21) (v := undef) rfl (by kernel_rfl) (by kernel_rfl) (by kernel_rfl) (fun _ _ _ h => h) (Or.inr ⟨by rfl, rfl⟩) hS ?_
          simp only [Act.put, List.getElem_toArray, List.getElem_cons_succ, List.getElem_cons_zero, List.setIfInBounds_toArray, List.set_cons_zero, List.set_cons_succ]
          refine wpAnyH_take (i := 22) (v := .bool false) rfl (by kernel_rfl) (by kernel_rfl) (by kernel_rfl) (fun _ _ _ h => h) (Or.inl ⟨by rfl, fun wx hx => by simp [go_sem]⟩) hS ?_
          simp only [Act.put, List.getElem_toArray, List.getElem_cons_succ, List.getElem_cons_zero, List.setIfInBounds_toArray, List.set_cons_zero, List.set_cons_succ]
          refine wpAnyH_done (by kernel_rfl) ?_ _
          clear HR hS
          have tk60 : Hid True := trivial
          have tk61 : Hid True := trivial
          go_wp2_with (first
            | (clear tk60; go_at_call 19; refine (OPS.newBad y0 n HNB.out).mono ?_; rintro e y61 ⟨rfl, hbz⟩
               replace HBW : Hid (Below w.heap.size w y61) := HBW.out.trans (hbz.mono HBW.out.size)
               clear hbz )
            | (clear tk61; go_at_call 10; refine (works13_any OPS y61).mono ?_; rintro e y62 ⟨rfl, hbz⟩
               replace HBW : Hid (Below w.heap.size w y62) := HBW.out.trans (hbz.mono HBW.out.size)
               clear hbz ))
          go_ret
          exact ⟨rfl, HBW.out⟩
        case neg =>
          obtain ⟨nn1, rfl⟩ : ∃ m : Nat, n = (m : Int) := ⟨n.toNat, by omega⟩
          have HNG : Hid (1 ≤ nn1 ∧ nn1 ≤ 300) := ⟨by omega, by omega⟩
          have n3 : ¬ ((nn1 : Int) > 300) := by have h := HNG.out; omega
          have n5 : ¬ ((nn1 : Int) > 16384) := by have h := HNG.out; omega
          clear hn1
          go_enter Try.func4, Try.ntmps4
          have tk0 : Hid True := trivial
          have tk1 : Hid True := trivial
          have tk2 : Hid True := trivial
          have tk3 : Hid True := trivial
          go_upto_region 7 with (first
            | (clear tk0; go_at_call 17; refine (LD.arg w _ b HRB.out HB1.out).mono ?_; rintro e y1 ⟨rfl, hbz⟩
               replace HBW : Hid (Below w.heap.size w y1) := HBW.out.trans (hbz.mono HBW.out.size)
               clear hbz )
            | (clear tk1; go_at_call 18; refine (rdLoad_arg _ b y1 (HRB.out.below HBW.out) HB1.out).mono ?_; rintro e y2 ⟨rfl, hbz⟩
               replace HBW : Hid (Below w.heap.size w y2) := HBW.out.trans (hbz.mono HBW.out.size)
               clear hbz )
            | (clear tk2; with_reducible refine wpSeq_allocRd ?_ ?_ ?_
               · rfl
               · rfl
               intro gr y3 nn)
            | (clear tk3; with_reducible refine wpSeq_storeRow 27 (.tmp 7) (.tmp 24) gr [.slice none 0 0, .slice none 0 0, .int .i64 0, .bool false] [.slice none 0 0, .slice none 0 0, .int .i64 0, .bool false] ?_ ?_ ?_ ?_ ?_ ?_ ?_ ?_ ?_
               · exact nn.blk
               · rfl
               · exact info_rd _ _ _ _
               · exact one_rd _ _ _ _ _ _ _ _
               · rfl
               · rfl
               · rfl
               · rfl
               intro y4 hs
               have hbz := nn.below.trans (hs.only.below nn.ge nn.below.size)
               replace HBW : Hid (Below w.heap.size w y4) := HBW.out.trans (hbz.mono HBW.out.size)
               have HR : Hid (Blk y4 gr [.slice none 0 0, .slice none 0 0, .int .i64 0, .bool false] 27) := hs.blk
               clear nn hs hbz))
          refine wp_region_held_drew (S := Over (World.drew y4)) (by kernel_rfl) (Over.refl _) ?_
          intro hS
          replace HBW : Hid (Below w.heap.size w (World.drew y4)) := HBW.out.drew
          change wpAnyH _ _ _ _ _ _ _ _ (World.drew y4)
          generalize World.drew y4 = y0 at *
          try simp only [Act.put, List.setIfInBounds_toArray, List.set_cons_zero, List.set_cons_succ]
          refine wpAnyH_take (i := 0) (v := .pointer none) rfl (by kernel_rfl) (by kernel_rfl) (by kernel_rfl) (fun _ _ _ h => h) (Or.inl ⟨by rfl, fun wx hx => by simp [go_sem]⟩) hS ?_
          simp only [Act.put, List.getElem_toArray, List.getElem_cons_zero, List.setIfInBounds_toArray, List.set_cons_zero, List.set_cons_succ]
          refine wpAnyH_take (i := 1) (v := .bool false) rfl (by kernel_rfl) (by kernel_rfl) (by kernel_rfl) (fun _ _ _ h => h) (Or.inl ⟨by rfl, fun wx hx => by simp [go_sem]⟩) hS ?_
          simp only [Act.put, List.getElem_toArray, List.getElem_cons_succ, List.getElem_cons_zero, List.setIfInBounds_toArray, List.set_cons_zero, List.set_cons_succ]
          refine wpAnyH_take (i := 2) (v := .bool false) rfl (by kernel_rfl) (by kernel_rfl) (by kernel_rfl) (fun _ _ _ h => h) (Or.inl ⟨by rfl, fun wx hx => by simp [go_sem]⟩) hS ?_
          simp only [Act.put, List.getElem_toArray, List.getElem_cons_succ, List.getElem_cons_zero, List.setIfInBounds_toArray, List.set_cons_zero, List.set_cons_succ]
          refine wpAnyH_take (i := 3) (v := undef) rfl (by kernel_rfl) (by kernel_rfl) (by kernel_rfl) (fun _ _ _ h => h) (Or.inr ⟨by rfl, rfl⟩) hS ?_
          simp only [Act.put, List.getElem_toArray, List.getElem_cons_succ, List.getElem_cons_zero, List.setIfInBounds_toArray, List.set_cons_zero, List.set_cons_succ]
          refine wpAnyH_take (i := 4) (v := undef) rfl (by kernel_rfl) (by kernel_rfl) (by kernel_rfl) (fun _ _ _ h => h) (Or.inr ⟨by rfl, rfl⟩) hS ?_
          simp only [Act.put, List.getElem_toArray, List.getElem_cons_succ, List.getElem_cons_zero, List.setIfInBounds_toArray, List.set_cons_zero, List.set_cons_succ]
          refine wpAnyH_take (i := 5) (v := undef) rfl (by kernel_rfl) (by kernel_rfl) (by kernel_rfl) (fun _ _ _ h => h) (Or.inr ⟨by rfl, rfl⟩) hS ?_
          simp only [Act.put, List.getElem_toArray, List.getElem_cons_succ, List.getElem_cons_zero, List.setIfInBounds_toArray, List.set_cons_zero, List.set_cons_succ]
          refine wpAnyH_take (i := 6) (v := undef) rfl (by kernel_rfl) (by kernel_rfl) (by kernel_rfl) (fun _ _ _ h => h) (Or.inr ⟨by rfl, rfl⟩) hS ?_
          simp only [Act.put, List.getElem_toArray, List.getElem_cons_succ, List.getElem_cons_zero, List.setIfInBounds_toArray, List.set_cons_zero, List.set_cons_succ]
          refine wpAnyH_take (i := 7) (v := undef) rfl (by kernel_rfl) (by kernel_rfl) (by kernel_rfl) (fun _ _ _ h => h) (Or.inr ⟨by rfl, rfl⟩) hS ?_
          simp only [Act.put, List.getElem_toArray, List.getElem_cons_succ, List.getElem_cons_zero, List.setIfInBounds_toArray, List.set_cons_zero, List.set_cons_succ]
          refine wpAnyH_take (i := 8) (v := undef) rfl (by kernel_rfl) (by kernel_rfl) (by kernel_rfl) (fun _ _ _ h => h) (Or.inr ⟨by rfl, rfl⟩) hS ?_
          simp only [Act.put, List.getElem_toArray, List.getElem_cons_succ, List.getElem_cons_zero, List.setIfInBounds_toArray, List.set_cons_zero, List.set_cons_succ]
          refine wpAnyH_take (i := 9) (v := undef) rfl (by kernel_rfl) (by kernel_rfl) (by kernel_rfl) (fun _ _ _ h => h) (Or.inr ⟨by rfl, rfl⟩) hS ?_
          simp only [Act.put, List.getElem_toArray, List.getElem_cons_succ, List.getElem_cons_zero, List.setIfInBounds_toArray, List.set_cons_zero, List.set_cons_succ]
          refine wpAnyH_take (i := 10) (v := undef) rfl (by kernel_rfl) (by kernel_rfl) (by kernel_rfl) (fun _ _ _ h => h) (Or.inr ⟨by rfl, rfl⟩) hS ?_
          simp only [Act.put, List.getElem_toArray, List.getElem_cons_succ, List.getElem_cons_zero, List.setIfInBounds_toArray, List.set_cons_zero, List.set_cons_succ]
          refine wpAnyH_take (i := 11) (v := undef) rfl (by kernel_rfl) (by kernel_rfl) (by kernel_rfl) (fun _ _ _ h => h) (Or.inr ⟨by rfl, rfl⟩) hS ?_
          simp only [Act.put, List.getElem_toArray, List.getElem_cons_succ, List.getElem_cons_zero, List.setIfInBounds_toArray, List.set_cons_zero, List.set_cons_succ]
          refine wpAnyH_take (i := 12) (v := undef) rfl (by kernel_rfl) (by kernel_rfl) (by kernel_rfl) (fun _ _ _ h => h) (Or.inr ⟨by rfl, rfl⟩) hS ?_
          simp only [Act.put, List.getElem_toArray, List.getElem_cons_succ, List.getElem_cons_zero, List.setIfInBounds_toArray, List.set_cons_zero, List.set_cons_succ]
          refine wpAnyH_take (i := 13) (v := undef) rfl (by kernel_rfl) (by kernel_rfl) (by kernel_rfl) (fun _ _ _ h => h) (Or.inr ⟨by rfl, rfl⟩) hS ?_
          simp only [Act.put, List.getElem_toArray, List.getElem_cons_succ, List.getElem_cons_zero, List.setIfInBounds_toArray, List.set_cons_zero, List.set_cons_succ]
          refine wpAnyH_take (i := 14) (v := undef) rfl (by kernel_rfl) (by kernel_rfl) (by kernel_rfl) (fun _ _ _ h => h) (Or.inr ⟨by rfl, rfl⟩) hS ?_
          simp only [Act.put, List.getElem_toArray, List.getElem_cons_succ, List.getElem_cons_zero, List.setIfInBounds_toArray, List.set_cons_zero, List.set_cons_succ]
          refine wpAnyH_take (i := 15) (v := undef) rfl (by kernel_rfl) (by kernel_rfl) (by kernel_rfl) (fun _ _ _ h => h) (Or.inr ⟨by rfl, rfl⟩) hS ?_
          simp only [Act.put, List.getElem_toArray, List.getElem_cons_succ, List.getElem_cons_zero, List.setIfInBounds_toArray, List.set_cons_zero, List.set_cons_succ]
          refine wpAnyH_take (i := 16) (v := undef) rfl (by kernel_rfl) (by kernel_rfl) (by kernel_rfl) (fun _ _ _ h => h) (Or.inr ⟨by rfl, rfl⟩) hS ?_
          simp only [Act.put, List.getElem_toArray, List.getElem_cons_succ, List.getElem_cons_zero, List.setIfInBounds_toArray, List.set_cons_zero, List.set_cons_succ]
          refine wpAnyH_take (i := 17) (v := undef) rfl (by kernel_rfl) (by kernel_rfl) (by kernel_rfl) (fun _ _ _ h => h) (Or.inr ⟨by rfl, rfl⟩) hS ?_
          simp only [Act.put, List.getElem_toArray, List.getElem_cons_succ, List.getElem_cons_zero, List.setIfInBounds_toArray, List.set_cons_zero, List.set_cons_succ]
          refine wpAnyH_take (i := 18) (v := undef) rfl (by kernel_rfl) (by kernel_rfl) (by kernel_rfl) (fun _ _ _ h => h) (Or.inr ⟨by rfl, rfl⟩) hS ?_
          simp only [Act.put, List.getElem_toArray, List.getElem_cons_succ, List.getElem_cons_zero, List.setIfInBounds_toArray, List.set_cons_zero, List.set_cons_succ]
          refine wpAnyH_take (i := 19) (v := undef) rfl (by kernel_rfl) (by kernel_rfl) (by kernel_rfl) (fun _ _ _ h => h) (Or.inr ⟨by rfl, rfl⟩) hS ?_
          simp only [Act.put, List.getElem_toArray, List.getElem_cons_succ, List.getElem_cons_zero, List.setIfInBounds_toArray, List.set_cons_zero, List.set_cons_succ]
          refine wpAnyH_take (i := 20) (v := undef) rfl (by kernel_rfl) (by kernel_rfl) (by kernel_rfl) (fun _ _ _ h => h) (Or.inr ⟨by rfl, rfl⟩) hS ?_
          simp only [Act.put, List.getElem_toArray, List.getElem_cons_succ, List.getElem_cons_zero, List.setIfInBounds_toArray, List.set_cons_zero, List.set_cons_succ]
          refine wpAnyH_take (i := 21) (v := undef) rfl (by kernel_rfl) (by kernel_rfl) (by kernel_rfl) (fun _ _ _ h => h) (Or.inr ⟨by rfl, rfl⟩) hS ?_
          simp only [Act.put, List.getElem_toArray, List.getElem_cons_succ, List.getElem_cons_zero, List.setIfInBounds_toArray, List.set_cons_zero, List.set_cons_succ]
          refine wpAnyH_take (i := 22) (v := .bool false) rfl (by kernel_rfl) (by kernel_rfl) (by kernel_rfl) (fun _ _ _ h => h) (Or.inl ⟨by rfl, fun wx hx => by simp [go_sem]⟩) hS ?_
          simp only [Act.put, List.getElem_toArray, List.getElem_cons_succ, List.getElem_cons_zero, List.setIfInBounds_toArray, List.set_cons_zero, List.set_cons_succ]
          refine wpAnyH_done (by kernel_rfl) ?_ _
          clear HR hS
          have tk60 : Hid True := trivial
          have tk61 : Hid True := trivial
          go_wp2_with (first
            | (clear tk60; go_at_call 19; refine (OPS.new y0 nn1 HNG.out.1 HNG.out.2).mono ?_; rintro e0 y61 ⟨g2, Px, rfl, hdk2, hbz, hpw2⟩
               clear hdk2 hpw2
               replace HBW : Hid (Below w.heap.size w y61) := HBW.out.trans (hbz.mono HBW.out.size)
               clear hbz)
            | (clear tk61; go_at_call 10; refine (works13_any OPS y61).mono ?_; rintro e y62 ⟨rfl, hbz⟩
               replace HBW : Hid (Below w.heap.size w y62) := HBW.out.trans (hbz.mono HBW.out.size)
               clear hbz ))
          go_ret
          refine ⟨?_, HBW.out⟩
          show Ending.returned (Value.bool (!decide ((nn1 : Int) < 1) && !decide (16384 < (nn1 : Int)))) = _
          rw [decide_eq_false (by have h := HNG.out; omega), decide_eq_false (by have h := HNG.out; omega)]
          rfl
  by_cases hl0 : L = 0
  case pos =>
    have HB0 : Hid (b = []) := List.eq_nil_of_length_eq_zero (by rw [← HL.out]; exact hl0)
    have HRB0 : Hid (Reads w (.slice ab L cb2) []) := by have h := HRB.out; rw [HB0.out] at h; exact h
    clear hbig hm0 hl0
    by_cases hn1 : 300 < n ∧ n ≤ 16384
    case pos =>
      have n3 : n > 300 := hn1.1
      have n4 : n ≤ 16384 := hn1.2
      clear hn1
      go_enter Try.func4, Try.ntmps4
      have tk0 : Hid True := trivial
      have tk1 : Hid True := trivial
      have tk2 : Hid True := trivial
      have tk3 : Hid True := trivial
      go_upto_region 7 with (first
        | (clear tk0; go_at_call 17; refine (LD.range w _ HRB0.out).mono ?_; rintro e y1 ⟨rfl, hbz⟩
           replace HBW : Hid (Below w.heap.size w y1) := HBW.out.trans (hbz.mono HBW.out.size)
           clear hbz )
        | (clear tk1; go_at_call 18; refine (rdLoad_range _ y1 (HRB0.out.below HBW.out)).mono ?_; rintro e y2 ⟨rfl, hbz⟩
           replace HBW : Hid (Below w.heap.size w y2) := HBW.out.trans (hbz.mono HBW.out.size)
           clear hbz )
        | (clear tk2; with_reducible refine wpSeq_allocRd ?_ ?_ ?_
           · rfl
           · rfl
           intro gr y3 nn)
        | (clear tk3; with_reducible refine wpSeq_storeRow 27 (.tmp 7) (.tmp 24) gr [.slice none 0 0, .slice none 0 0, .int .i64 0, .bool false] [.slice none 0 0, .slice none 0 0, .int .i64 0, .bool false] ?_ ?_ ?_ ?_ ?_ ?_ ?_ ?_ ?_
           · exact nn.blk
           · rfl
           · exact info_rd _ _ _ _
           · exact one_rd _ _ _ _ _ _ _ _
           · rfl
           · rfl
           · rfl
           · rfl
           intro y4 hs
           have hbz := nn.below.trans (hs.only.below nn.ge nn.below.size)
           replace HBW : Hid (Below w.heap.size w y4) := HBW.out.trans (hbz.mono HBW.out.size)
           have HR : Hid (Blk y4 gr [.slice none 0 0, .slice none 0 0, .int .i64 0, .bool false] 27) := hs.blk
           clear nn hs hbz))
      refine wp_region_held_drew (S := Over (World.drew y4)) (by kernel_rfl) (Over.refl _) ?_
      intro hS
      replace HBW : Hid (Below w.heap.size w (World.drew y4)) := HBW.out.drew
      change wpAnyH _ _ _ _ _ _ _ _ (World.drew y4)
      generalize World.drew y4 = y0 at *
      try simp only [Act.put, List.setIfInBounds_toArray, List.set_cons_zero, List.set_cons_succ]
      refine wpAnyH_take (i := 0) (v := .pointer none) rfl (by kernel_rfl) (by kernel_rfl) (by kernel_rfl) (fun _ _ _ h => h) (Or.inl ⟨by rfl, fun wx hx => by simp [go_sem]⟩) hS ?_
      simp only [Act.put, List.getElem_toArray, List.getElem_cons_zero, List.setIfInBounds_toArray, List.set_cons_zero, List.set_cons_succ]
      refine wpAnyH_take (i := 1) (v := .bool false) rfl (by kernel_rfl) (by kernel_rfl) (by kernel_rfl) (fun _ _ _ h => h) (Or.inl ⟨by rfl, fun wx hx => by simp [go_sem]⟩) hS ?_
      simp only [Act.put, List.getElem_toArray, List.getElem_cons_succ, List.getElem_cons_zero, List.setIfInBounds_toArray, List.set_cons_zero, List.set_cons_succ]
      refine wpAnyH_take (i := 2) (v := .bool false) rfl (by kernel_rfl) (by kernel_rfl) (by kernel_rfl) (fun _ _ _ h => h) (Or.inl ⟨by rfl, fun wx hx => by simp [go_sem]⟩) hS ?_
      simp only [Act.put, List.getElem_toArray, List.getElem_cons_succ, List.getElem_cons_zero, List.setIfInBounds_toArray, List.set_cons_zero, List.set_cons_succ]
      refine wpAnyH_take (i := 3) (v := undef) rfl (by kernel_rfl) (by kernel_rfl) (by kernel_rfl) (fun _ _ _ h => h) (Or.inr ⟨by rfl, rfl⟩) hS ?_
      simp only [Act.put, List.getElem_toArray, List.getElem_cons_succ, List.getElem_cons_zero, List.setIfInBounds_toArray, List.set_cons_zero, List.set_cons_succ]
      refine wpAnyH_take (i := 4) (v := undef) rfl (by kernel_rfl) (by kernel_rfl) (by kernel_rfl) (fun _ _ _ h => h) (Or.inr ⟨by rfl, rfl⟩) hS ?_
      simp only [Act.put, List.getElem_toArray, List.getElem_cons_succ, List.getElem_cons_zero, List.setIfInBounds_toArray, List.set_cons_zero, List.set_cons_succ]
      refine wpAnyH_take (i := 5) (v := undef) rfl (by kernel_rfl) (by kernel_rfl) (by kernel_rfl) (fun _ _ _ h => h) (Or.inr ⟨by rfl, rfl⟩) hS ?_
      simp only [Act.put, List.getElem_toArray, List.getElem_cons_succ, List.getElem_cons_zero, List.setIfInBounds_toArray, List.set_cons_zero, List.set_cons_succ]
      refine wpAnyH_take (i := 6) (v := undef) rfl (by kernel_rfl) (by kernel_rfl) (by kernel_rfl) (fun _ _ _ h => h) (Or.inr ⟨by rfl, rfl⟩) hS ?_
      simp only [Act.put, List.getElem_toArray, List.getElem_cons_succ, List.getElem_cons_zero, List.setIfInBounds_toArray, List.set_cons_zero, List.set_cons_succ]
      refine wpAnyH_take (i := 7) (v := undef) rfl (by kernel_rfl) (by kernel_rfl) (by kernel_rfl) (fun _ _ _ h => h) (Or.inr ⟨by rfl, rfl⟩) hS ?_
      simp only [Act.put, List.getElem_toArray, List.getElem_cons_succ, List.getElem_cons_zero, List.setIfInBounds_toArray, List.set_cons_zero, List.set_cons_succ]
      refine wpAnyH_take (i := 8) (v := undef) rfl (by kernel_rfl) (by kernel_rfl) (by kernel_rfl) (fun _ _ _ h => h) (Or.inr ⟨by rfl, rfl⟩) hS ?_
      simp only [Act.put, List.getElem_toArray, List.getElem_cons_succ, List.getElem_cons_zero, List.setIfInBounds_toArray, List.set_cons_zero, List.set_cons_succ]
      refine wpAnyH_take (i := 9) (v := undef) rfl (by kernel_rfl) (by kernel_rfl) (by kernel_rfl) (fun _ _ _ h => h) (Or.inr ⟨by rfl, rfl⟩) hS ?_
      simp only [Act.put, List.getElem_toArray, List.getElem_cons_succ, List.getElem_cons_zero, List.setIfInBounds_toArray, List.set_cons_zero, List.set_cons_succ]
      refine wpAnyH_take (i := 10) (v := undef) rfl (by kernel_rfl) (by kernel_rfl) (by kernel_rfl) (fun _ _ _ h => h) (Or.inr ⟨by rfl, rfl⟩) hS ?_
      simp only [Act.put, List.getElem_toArray, List.getElem_cons_succ, List.getElem_cons_zero, List.setIfInBounds_toArray, List.set_cons_zero, List.set_cons_succ]
      refine wpAnyH_take (i := 11) (v := undef) rfl (by kernel_rfl) (by kernel_rfl) (by kernel_rfl) (fun _ _ _ h => h) (Or.inr ⟨by rfl, rfl⟩) hS ?_
      simp only [Act.put, List.getElem_toArray, List.getElem_cons_succ, List.getElem_cons_zero, List.setIfInBounds_toArray, List.set_cons_zero, List.set_cons_succ]
      refine wpAnyH_take (i := 12) (v := undef) rfl (by kernel_rfl) (by kernel_rfl) (by kernel_rfl) (fun _ _ _ h => h) (Or.inr ⟨by rfl, rfl⟩) hS ?_
      simp only [Act.put, List.getElem_toArray, List.getElem_cons_succ, List.getElem_cons_zero, List.setIfInBounds_toArray, List.set_cons_zero, List.set_cons_succ]
      refine wpAnyH_take (i := 13) (v := undef) rfl (by kernel_rfl) (by kernel_rfl) (by kernel_rfl) (fun _ _ _ h => h) (Or.inr ⟨by rfl, rfl⟩) hS ?_
      simp only [Act.put, List.getElem_toArray, List.getElem_cons_succ, List.getElem_cons_zero, List.setIfInBounds_toArray, List.set_cons_zero, List.set_cons_succ]
      refine wpAnyH_take (i := 14) (v := undef) rfl (by kernel_rfl) (by kernel_rfl) (by kernel_rfl) (fun _ _ _ h => h) (Or.inr ⟨by rfl, rfl⟩) hS ?_
      simp only [Act.put, List.getElem_toArray, List.getElem_cons_succ, List.getElem_cons_zero, List.setIfInBounds_toArray, List.set_cons_zero, List.set_cons_succ]
      refine wpAnyH_take (i := 15) (v := undef) rfl (by kernel_rfl) (by kernel_rfl) (by kernel_rfl) (fun _ _ _ h => h) (Or.inr ⟨by rfl, rfl⟩) hS ?_
      simp only [Act.put, List.getElem_toArray, List.getElem_cons_succ, List.getElem_cons_zero, List.setIfInBounds_toArray, List.set_cons_zero, List.set_cons_succ]
      refine wpAnyH_take (i := 16) (v := undef) rfl (by kernel_rfl) (by kernel_rfl) (by kernel_rfl) (fun _ _ _ h => h) (Or.inr ⟨by rfl, rfl⟩) hS ?_
      simp only [Act.put, List.getElem_toArray, List.getElem_cons_succ, List.getElem_cons_zero, List.setIfInBounds_toArray, List.set_cons_zero, List.set_cons_succ]
      refine wpAnyH_take (i := 17) (v := undef) rfl (by kernel_rfl) (by kernel_rfl) (by kernel_rfl) (fun _ _ _ h => h) (Or.inr ⟨by rfl, rfl⟩) hS ?_
      simp only [Act.put, List.getElem_toArray, List.getElem_cons_succ, List.getElem_cons_zero, List.setIfInBounds_toArray, List.set_cons_zero, List.set_cons_succ]
      refine wpAnyH_take (i := 18) (v := undef) rfl (by kernel_rfl) (by kernel_rfl) (by kernel_rfl) (fun _ _ _ h => h) (Or.inr ⟨by rfl, rfl⟩) hS ?_
      simp only [Act.put, List.getElem_toArray, List.getElem_cons_succ, List.getElem_cons_zero, List.setIfInBounds_toArray, List.set_cons_zero, List.set_cons_succ]
      refine wpAnyH_take (i := 19) (v := undef) rfl (by kernel_rfl) (by kernel_rfl) (by kernel_rfl) (fun _ _ _ h => h) (Or.inr ⟨by rfl, rfl⟩) hS ?_
      simp only [Act.put, List.getElem_toArray, List.getElem_cons_succ, List.getElem_cons_zero, List.setIfInBounds_toArray, List.set_cons_zero, List.set_cons_succ]
      refine wpAnyH_take (i := 20) (v := undef) rfl (by kernel_rfl) (by kernel_rfl) (by kernel_rfl) (fun _ _ _ h => h) (Or.inr ⟨by rfl, rfl⟩) hS ?_
      simp only [Act.put, List.getElem_toArray, List.getElem_cons_succ, List.getElem_cons_zero, List.setIfInBounds_toArray, List.set_cons_zero, List.set_cons_succ]
      refine wpAnyH_take (i := 21) (v := undef) rfl (by kernel_rfl) (by kernel_rfl) (by kernel_rfl) (fun _ _ _ h => h) (Or.inr ⟨by rfl, rfl⟩) hS ?_
      simp only [Act.put, List.getElem_toArray, List.getElem_cons_succ, List.getElem_cons_zero, List.setIfInBounds_toArray, List.set_cons_zero, List.set_cons_succ]
      refine wpAnyH_take (i := 22) (v := .bool false) rfl (by kernel_rfl) (by kernel_rfl) (by kernel_rfl) (fun _ _ _ h => h) (Or.inl ⟨by rfl, fun wx hx => by simp [go_sem]⟩) hS ?_
      simp only [Act.put, List.getElem_toArray, List.getElem_cons_succ, List.getElem_cons_zero, List.setIfInBounds_toArray, List.set_cons_zero, List.set_cons_succ]
      refine wpAnyH_done (by kernel_rfl) ?_ _
      clear HR hS
      have tk60 : Hid True := trivial
      go_wp2_with (first
        | (clear tk60; go_at_call 10; refine (works13_any OPS y0).mono ?_; rintro e y61 ⟨rfl, hbz⟩
           replace HBW : Hid (Below w.heap.size w y61) := HBW.out.trans (hbz.mono HBW.out.size)
           clear hbz ))
      go_ret
      exact ⟨rfl, HBW.out⟩
    case neg =>
      by_cases hn2 : n < 1
      case pos =>
        have HNB : Hid (n < 1 ∨ 16384 < n) := Or.inl hn2
        have n3 : ¬ (n > 300) := by omega
        clear hn1
        go_enter Try.func4, Try.ntmps4
        have tk0 : Hid True := trivial
        have tk1 : Hid True := trivial
        have tk2 : Hid True := trivial
        have tk3 : Hid True := trivial
        go_upto_region 7 with (first
          | (clear tk0; go_at_call 17; refine (LD.range w _ HRB0.out).mono ?_; rintro e y1 ⟨rfl, hbz⟩
             replace HBW : Hid (Below w.heap.size w y1) := HBW.out.trans (hbz.mono HBW.out.size)
             clear hbz )
          | (clear tk1; go_at_call 18; refine (rdLoad_range _ y1 (HRB0.out.below HBW.out)).mono ?_; rintro e y2 ⟨rfl, hbz⟩
             replace HBW : Hid (Below w.heap.size w y2) := HBW.out.trans (hbz.mono HBW.out.size)
             clear hbz )
          | (clear tk2; with_reducible refine wpSeq_allocRd ?_ ?_ ?_
             · rfl
             · rfl
             intro gr y3 nn)
          | (clear tk3; with_reducible refine wpSeq_storeRow 27 (.tmp 7) (.tmp 24) gr [.slice none 0 0, .slice none 0 0, .int .i64 0, .bool false] [.slice none 0 0, .slice none 0 0, .int .i64 0, .bool false] ?_ ?_ ?_ ?_ ?_ ?_ ?_ ?_ ?_
             · exact nn.blk
             · rfl
             · exact info_rd _ _ _ _
             · exact one_rd _ _ _ _ _ _ _ _
             · rfl
             · rfl
             · rfl
             · rfl
             intro y4 hs
             have hbz := nn.below.trans (hs.only.below nn.ge nn.below.size)
             replace HBW : Hid (Below w.heap.size w y4) := HBW.out.trans (hbz.mono HBW.out.size)
             have HR : Hid (Blk y4 gr [.slice none 0 0, .slice none 0 0, .int .i64 0, .bool false] 27) := hs.blk
             clear nn hs hbz))
        refine wp_region_held_drew (S := Over (World.drew y4)) (by kernel_rfl) (Over.refl _) ?_
        intro hS
        replace HBW : Hid (Below w.heap.size w (World.drew y4)) := HBW.out.drew
        change wpAnyH _ _ _ _ _ _ _ _ (World.drew y4)
        generalize World.drew y4 = y0 at *
        try simp only [Act.put, List.setIfInBounds_toArray, List.set_cons_zero, List.set_cons_succ]
        refine wpAnyH_take (i := 0) (v := .pointer none) rfl (by kernel_rfl) (by kernel_rfl) (by kernel_rfl) (fun _ _ _ h => h) (Or.inl ⟨by rfl, fun wx hx => by simp [go_sem]⟩) hS ?_
        simp only [Act.put, List.getElem_toArray, List.getElem_cons_zero, List.setIfInBounds_toArray, List.set_cons_zero, List.set_cons_succ]
        refine wpAnyH_take (i := 1) (v := .bool false) rfl (by kernel_rfl) (by kernel_rfl) (by kernel_rfl) (fun _ _ _ h => h) (Or.inl ⟨by rfl, fun wx hx => by simp [go_sem]⟩) hS ?_
        simp only [Act.put, List.getElem_toArray, List.getElem_cons_succ, List.getElem_cons_zero, List.setIfInBounds_toArray, List.set_cons_zero, List.set_cons_succ]
        refine wpAnyH_take (i := 2) (v := .bool false) rfl (by kernel_rfl) (by kernel_rfl) (by kernel_rfl) (fun _ _ _ h => h) (Or.inl ⟨by rfl, fun wx hx => by simp [go_sem]⟩) hS ?_
        simp only [Act.put, List.getElem_toArray, List.getElem_cons_succ, List.getElem_cons_zero, List.setIfInBounds_toArray, List.set_cons_zero, List.set_cons_succ]
        refine wpAnyH_take (i := 3) (v := undef) rfl (by kernel_rfl) (by kernel_rfl) (by kernel_rfl) (fun _ _ _ h => h) (Or.inr ⟨by rfl, rfl⟩) hS ?_
        simp only [Act.put, List.getElem_toArray, List.getElem_cons_succ, List.getElem_cons_zero, List.setIfInBounds_toArray, List.set_cons_zero, List.set_cons_succ]
        refine wpAnyH_take (i := 4) (v := undef) rfl (by kernel_rfl) (by kernel_rfl) (by kernel_rfl) (fun _ _ _ h => h) (Or.inr ⟨by rfl, rfl⟩) hS ?_
        simp only [Act.put, List.getElem_toArray, List.getElem_cons_succ, List.getElem_cons_zero, List.setIfInBounds_toArray, List.set_cons_zero, List.set_cons_succ]
        refine wpAnyH_take (i := 5) (v := undef) rfl (by kernel_rfl) (by kernel_rfl) (by kernel_rfl) (fun _ _ _ h => h) (Or.inr ⟨by rfl, rfl⟩) hS ?_
        simp only [Act.put, List.getElem_toArray, List.getElem_cons_succ, List.getElem_cons_zero, List.setIfInBounds_toArray, List.set_cons_zero, List.set_cons_succ]
        refine wpAnyH_take (i := 6) (v := undef) rfl (by kernel_rfl) (by kernel_rfl) (by kernel_rfl) (fun _ _ _ h => h) (Or.inr ⟨by rfl, rfl⟩) hS ?_
        simp only [Act.put, List.getElem_toArray, List.getElem_cons_succ, List.getElem_cons_zero, List.setIfInBounds_toArray, List.set_cons_zero, List.set_cons_succ]
        refine wpAnyH_take (i := 7) (v := undef) rfl (by kernel_rfl) (by kernel_rfl) (by kernel_rfl) (fun _ _ _ h => h) (Or.inr ⟨by rfl, rfl⟩) hS ?_
        simp only [Act.put, List.getElem_toArray, List.getElem_cons_succ, List.getElem_cons_zero, List.setIfInBounds_toArray, List.set_cons_zero, List.set_cons_succ]
        refine wpAnyH_take (i := 8) (v := undef) rfl (by kernel_rfl) (by kernel_rfl) (by kernel_rfl) (fun _ _ _ h => h) (Or.inr ⟨by rfl, rfl⟩) hS ?_
        simp only [Act.put, List.getElem_toArray, List.getElem_cons_succ, List.getElem_cons_zero, List.setIfInBounds_toArray, List.set_cons_zero, List.set_cons_succ]
        refine wpAnyH_take (i := 9) (v := undef) rfl (by kernel_rfl) (by kernel_rfl) (by kernel_rfl) (fun _ _ _ h => h) (Or.inr ⟨by rfl, rfl⟩) hS ?_
        simp only [Act.put, List.getElem_toArray, List.getElem_cons_succ, List.getElem_cons_zero, List.setIfInBounds_toArray, List.set_cons_zero, List.set_cons_succ]
        refine wpAnyH_take (i := 10) (v := undef) rfl (by kernel_rfl) (by kernel_rfl) (by kernel_rfl) (fun _ _ _ h => h) (Or.inr ⟨by rfl, rfl⟩) hS ?_
        simp only [Act.put, List.getElem_toArray, List.getElem_cons_succ, List.getElem_cons_zero, List.setIfInBounds_toArray, List.set_cons_zero, List.set_cons_succ]
        refine wpAnyH_take (i := 11) (v := undef) rfl (by kernel_rfl) (by kernel_rfl) (by kernel_rfl) (fun _ _ _ h => h) (Or.inr ⟨by rfl, rfl⟩) hS ?_
        simp only [Act.put, List.getElem_toArray, List.getElem_cons_succ, List.getElem_cons_zero, List.setIfInBounds_toArray, List.set_cons_zero, List.set_cons_succ]
        refine wpAnyH_take (i := 12) (v := undef) rfl (by kernel_rfl) (by kernel_rfl) (by kernel_rfl) (fun _ _ _ h => h) (Or.inr ⟨by rfl, rfl⟩) hS ?_
        simp only [Act.put, List.getElem_toArray, List.getElem_cons_succ, List.getElem_cons_zero, List.setIfInBounds_toArray, List.set_cons_zero, List.set_cons_succ]
        refine wpAnyH_take (i := 13) (v := undef) rfl (by kernel_rfl) (by kernel_rfl) (by kernel_rfl) (fun _ _ _ h => h) (Or.inr ⟨by rfl, rfl⟩) hS ?_
        simp only [Act.put, List.getElem_toArray, List.getElem_cons_succ, List.getElem_cons_zero, List.setIfInBounds_toArray, List.set_cons_zero, List.set_cons_succ]
        refine wpAnyH_take (i := 14) (v := undef) rfl (by kernel_rfl) (by kernel_rfl) (by kernel_rfl) (fun _ _ _ h => h) (Or.inr ⟨by rfl, rfl⟩) hS ?_
        simp only [Act.put, List.getElem_toArray, List.getElem_cons_succ, List.getElem_cons_zero, List.setIfInBounds_toArray, List.set_cons_zero, List.set_cons_succ]
        refine wpAnyH_take (i := 15) (v := undef) rfl (by kernel_rfl) (by kernel_rfl) (by kernel_rfl) (fun _ _ _ h => h) (Or.inr ⟨by rfl, rfl⟩) hS ?_
        simp only [Act.put, List.getElem_toArray, List.getElem_cons_succ, List.getElem_cons_zero, List.setIfInBounds_toArray, List.set_cons_zero, List.set_cons_succ]
        refine wpAnyH_take (i := 16) (v := undef) rfl (by kernel_rfl) (by kernel_rfl) (by kernel_rfl) (fun _ _ _ h => h) (Or.inr ⟨by rfl, rfl⟩) hS ?_
        simp only [Act.put, List.getElem_toArray, List.getElem_cons_succ, List.getElem_cons_zero, List.setIfInBounds_toArray, List.set_cons_zero, List.set_cons_succ]
        refine wpAnyH_take (i := 17) (v := undef) rfl (by kernel_rfl) (by kernel_rfl) (by kernel_rfl) (fun _ _ _ h => h) (Or.inr ⟨by rfl, rfl⟩) hS ?_
        simp only [Act.put, List.getElem_toArray, List.getElem_cons_succ, List.getElem_cons_zero, List.setIfInBounds_toArray, List.set_cons_zero, List.set_cons_succ]
        refine wpAnyH_take (i := 18) (v := undef) rfl (by kernel_rfl) (by kernel_rfl) (by kernel_rfl) (fun _ _ _ h => h) (Or.inr ⟨by rfl, rfl⟩) hS ?_
        simp only [Act.put, List.getElem_toArray, List.getElem_cons_succ, List.getElem_cons_zero, List.setIfInBounds_toArray, List.set_cons_zero, List.set_cons_succ]
        refine wpAnyH_take (i := 19) (v := undef) rfl (by kernel_rfl) (by kernel_rfl) (by kernel_rfl) (fun _ _ _ h => h) (Or.inr ⟨by rfl, rfl⟩) hS ?_
        simp only [Act.put, List.getElem_toArray, List.getElem_cons_succ, List.getElem_cons_zero, List.setIfInBounds_toArray, List.set_cons_zero, List.set_cons_succ]
        refine wpAnyH_take (i := 20) (v := undef) rfl (by kernel_rfl) (by kernel_rfl) (by kernel_rfl) (fun _ _ _ h => h) (Or.inr ⟨by rfl, rfl⟩) hS ?_
        simp only [Act.put, List.getElem_toArray, List.getElem_cons_succ, List.getElem_cons_zero, List.setIfInBounds_toArray, List.set_cons_zero, List.set_cons_succ]
        refine wpAnyH_take (i := 21) (v := undef) rfl (by kernel_rfl) (by kernel_rfl) (by kernel_rfl) (fun _ _ _ h => h) (Or.inr ⟨by rfl, rfl⟩) hS ?_
        simp only [Act.put, List.getElem_toArray, List.getElem_cons_succ, List.getElem_cons_zero, List.setIfInBounds_toArray, List.set_cons_zero, List.set_cons_succ]
        refine wpAnyH_take (i := 22) (v := .bool false) rfl (by kernel_rfl) (by kernel_rfl) (by kernel_rfl) (fun _ _ _ h => h) (Or.inl ⟨by rfl, fun wx hx => by simp [go_sem]⟩) hS ?_
        simp only [Act.put, List.getElem_toArray, List.getElem_cons_succ, List.getElem_cons_zero, List.setIfInBounds_toArray, List.set_cons_zero, List.set_cons_succ]
        refine wpAnyH_done (by kernel_rfl) ?_ _
        clear HR hS
        have tk60 : Hid True := trivial
        have tk61 : Hid True := trivial
        go_wp2_with (first
          | (clear tk60; go_at_call 19; refine (OPS.newBad y0 n HNB.out).mono ?_; rintro e y61 ⟨rfl, hbz⟩
             replace HBW : Hid (Below w.heap.size w y61) := HBW.out.trans (hbz.mono HBW.out.size)
             clear hbz )
          | (clear tk61; go_at_call 10; refine (works13_any OPS y61).mono ?_; rintro e y62 ⟨rfl, hbz⟩
             replace HBW : Hid (Below w.heap.size w y62) := HBW.out.trans (hbz.mono HBW.out.size)
             clear hbz ))
        go_ret
        exact ⟨rfl, HBW.out⟩
      case neg =>
        by_cases hn3 : 16384 < n
        case pos =>
          have HNB : Hid (n < 1 ∨ 16384 < n) := Or.inr hn3
          have n3 : n > 300 := by omega
          have n4 : ¬ (n ≤ 16384) := by omega
          have n5 : n > 16384 := hn3
          clear hn1
          go_enter Try.func4, Try.ntmps4
          have tk0 : Hid True := trivial
          have tk1 : Hid True := trivial
          have tk2 : Hid True := trivial
          have tk3 : Hid True := trivial
          go_upto_region 7 with (first
            | (clear tk0; go_at_call 17; refine (LD.range w _ HRB0.out).mono ?_; rintro e y1 ⟨rfl, hbz⟩
               replace HBW : Hid (Below w.heap.size w y1) := HBW.out.trans (hbz.mono HBW.out.size)
               clear hbz )
            | (clear tk1; go_at_call 18; refine (rdLoad_range _ y1 (HRB0.out.below HBW.out)).mono ?_; rintro e y2 ⟨rfl, hbz⟩
               replace HBW : Hid (Below w.heap.size w y2) := HBW.out.trans (hbz.mono HBW.out.size)
               clear hbz )
            | (clear tk2; with_reducible refine wpSeq_allocRd ?_ ?_ ?_
               · rfl
               · rfl
               intro gr y3 nn)
            | (clear tk3; with_reducible refine wpSeq_storeRow 27 (.tmp 7) (.tmp 24) gr [.slice none 0 0, .slice none 0 0, .int .i64 0, .bool false] [.slice none 0 0, .slice none 0 0, .int .i64 0, .bool false] ?_ ?_ ?_ ?_ ?_ ?_ ?_ ?_ ?_
               · exact nn.blk
               · rfl
               · exact info_rd _ _ _ _
               · exact one_rd _ _ _ _ _ _ _ _
               · rfl
               · rfl
               · rfl
               · rfl
               intro y4 hs
               have hbz := nn.below.trans (hs.only.below nn.ge nn.below.size)
               replace HBW : Hid (Below w.heap.size w y4) := HBW.out.trans (hbz.mono HBW.out.size)
               have HR : Hid (Blk y4 gr [.slice none 0 0, .slice none 0 0, .int .i64 0, .bool false] 27) := hs.blk
               clear nn hs hbz))
          refine wp_region_held_drew (S := Over (World.drew y4)) (by kernel_rfl) (Over.refl _) ?_
          intro hS
          replace HBW : Hid (Below w.heap.size w (World.drew y4)) := HBW.out.drew
          change wpAnyH _ _ _ _ _ _ _ _ (World.drew y4)
          generalize World.drew y4 = y0 at *
          try simp only [Act.put, List.setIfInBounds_toArray, List.set_cons_zero, List.set_cons_succ]
          refine wpAnyH_take (i := 0) (v := .pointer none) rfl (by kernel_rfl) (by kernel_rfl) (by kernel_rfl) (fun _ _ _ h => h) (Or.inl ⟨by rfl, fun wx hx => by simp [go_sem]⟩) hS ?_
          simp only [Act.put, List.getElem_toArray, List.getElem_cons_zero, List.setIfInBounds_toArray, List.set_cons_zero, List.set_cons_succ]
          refine wpAnyH_take (i := 1) (v := .bool false) rfl (by kernel_rfl) (by kernel_rfl) (by kernel_rfl) (fun _ _ _ h => h) (Or.inl ⟨by rfl, fun wx hx => by simp [go_sem]⟩) hS ?_
          simp only [Act.put, List.getElem_toArray, List.getElem_cons_succ, List.getElem_cons_zero, List.setIfInBounds_toArray, List.set_cons_zero, List.set_cons_succ]
          refine wpAnyH_take (i := 2) (v := .bool false) rfl (by kernel_rfl) (by kernel_rfl) (by kernel_rfl) (fun _ _ _ h => h) (Or.inl ⟨by rfl, fun wx hx => by simp [go_sem]⟩) hS ?_
          simp only [Act.put, List.getElem_toArray, List.getElem_cons_succ, List.getElem_cons_zero, List.setIfInBounds_toArray, List.set_cons_zero, List.set_cons_succ]
          refine wpAnyH_take (i := 3) (v := undef) rfl (by kernel_rfl) (by kernel_rfl) (by kernel_rfl) (fun _ _ _ h => h) (Or.inr ⟨by rfl, rfl⟩) hS ?_
          simp only [Act.put, List.getElem_toArray, List.getElem_cons_succ, List.getElem_cons_zero, List.setIfInBounds_toArray, List.set_cons_zero, List.set_cons_succ]
          refine wpAnyH_take (i := 4) (v := undef) rfl (by kernel_rfl) (by kernel_rfl) (by kernel_rfl) (fun _ _ _ h => h) (Or.inr ⟨by rfl, rfl⟩) hS ?_
          simp only [Act.put, List.getElem_toArray, List.getElem_cons_succ, List.getElem_cons_zero, List.setIfInBounds_toArray, List.set_cons_zero, List.set_cons_succ]
          refine wpAnyH_take (i := 5) (v := undef) rfl (by kernel_rfl) (by kernel_rfl) (by kernel_rfl) (fun _ _ _ h => h) (Or.inr ⟨by rfl, rfl⟩) hS ?_
          simp only [Act.put, List.getElem_toArray, List.getElem_cons_succ, List.getElem_cons_zero, List.setIfInBounds_toArray, List.set_cons_zero, List.set_cons_succ]
          refine wpAnyH_take (i := 6) (v := undef) rfl (by kernel_rfl) (by kernel_rfl) (by kernel_rfl) (fun _ _ _ h => h) (Or.inr ⟨by rfl, rfl⟩) hS ?_
          simp only [Act.put, List.getElem_toArray, List.getElem_cons_succ, List.getElem_cons_zero, List.setIfInBounds_toArray, List.set_cons_zero, List.set_cons_succ]
          refine wpAnyH_take (i := 7) (v := undef) rfl (by kernel_rfl) (by kernel_rfl) (by kernel_rfl) (fun _ _ _ h => h) (Or.inr ⟨by rfl, rfl⟩) hS ?_
          simp only [Act.put, List.getElem_toArray, List.getElem_cons_succ, List.getElem_cons_zero, List.setIfInBounds_toArray, List.set_cons_zero, List.set_cons_succ]
          refine wpAnyH_take (i := 8) (v := undef) rfl (by kernel_rfl) (by kernel_rfl) (by kernel_rfl) (fun _ _ _ h => h) (Or.inr ⟨by rfl, rfl⟩) hS ?_
          simp only [Act.put, List.getElem_toArray, List.getElem_cons_succ, List.getElem_cons_zero, List.setIfInBounds_toArray, List.set_cons_zero, List.set_cons_succ]
          refine wpAnyH_take (i := 9) (v := undef) rfl (by kernel_rfl) (by kernel_rfl) (by kernel_rfl) (fun _ _ _ h => h) (Or.inr ⟨by rfl, rfl⟩) hS ?_
          simp only [Act.put, List.getElem_toArray, List.getElem_cons_succ, List.getElem_cons_zero, List.setIfInBounds_toArray, List.set_cons_zero, List.set_cons_succ]
          refine wpAnyH_take (i := 10) (v := undef) rfl (by kernel_rfl) (by kernel_rfl) (by kernel_rfl) (fun _ _ _ h => h) (Or.inr ⟨by rfl, rfl⟩) hS ?_
          simp only [Act.put, List.getElem_toArray, List.getElem_cons_succ, List.getElem_cons_zero, List.setIfInBounds_toArray, List.set_cons_zero, List.set_cons_succ]
          refine wpAnyH_take (i := 11) (v := undef) rfl (by kernel_rfl) (by kernel_rfl) (by kernel_rfl) (fun _ _ _ h => h) (Or.inr ⟨by rfl, rfl⟩) hS ?_
          simp only [Act.put, List.getElem_toArray, List.getElem_cons_succ, List.getElem_cons_zero, List.setIfInBounds_toArray, List.set_cons_zero, List.set_cons_succ]
          refine wpAnyH_take (i := 12) (v := undef) rfl (by kernel_rfl) (by kernel_rfl) (by kernel_rfl) (fun _ _ _ h => h) (Or.inr ⟨by rfl, rfl⟩) hS ?_
          simp only [Act.put, List.getElem_toArray, List.getElem_cons_succ, List.getElem_cons_zero, List.setIfInBounds_toArray, List.set_cons_zero, List.set_cons_succ]
          refine wpAnyH_take (i := 13) (v := undef) rfl (by kernel_rfl) (by kernel_rfl) (by kernel_rfl) (fun _ _ _ h => h) (Or.inr ⟨by rfl, rfl⟩) hS ?_
          simp only [Act.put, List.getElem_toArray, List.getElem_cons_succ, List.getElem_cons_zero, List.setIfInBounds_toArray, List.set_cons_zero, List.set_cons_succ]
          refine wpAnyH_take (i := 14) (v := undef) rfl (by kernel_rfl) (by kernel_rfl) (by kernel_rfl) (fun _ _ _ h => h) (Or.inr ⟨by rfl, rfl⟩) hS ?_
          simp only [Act.put, List.getElem_toArray, List.getElem_cons_succ, List.getElem_cons_zero, List.setIfInBounds_toArray, List.set_cons_zero, List.set_cons_succ]
          refine wpAnyH_take (i := 15) (v := undef) rfl (by kernel_rfl) (by kernel_rfl) (by kernel_rfl) (fun _ _ _ h => h) (Or.inr ⟨by rfl, rfl⟩) hS ?_
          simp only [Act.put, List.getElem_toArray, List.getElem_cons_succ, List.getElem_cons_zero, List.setIfInBounds_toArray, List.set_cons_zero, List.set_cons_succ]
          refine wpAnyH_take (i := 16) (v := undef) rfl (by kernel_rfl) (by kernel_rfl) (by kernel_rfl) (fun _ _ _ h => h) (Or.inr ⟨by rfl, rfl⟩) hS ?_
          simp only [Act.put, List.getElem_toArray, List.getElem_cons_succ, List.getElem_cons_zero, List.setIfInBounds_toArray, List.set_cons_zero, List.set_cons_succ]
          refine wpAnyH_take (i := 17) (v := undef) rfl (by kernel_rfl) (by kernel_rfl) (by kernel_rfl) (fun _ _ _ h => h) (Or.inr ⟨by rfl, rfl⟩) hS ?_
          simp only [Act.put, List.getElem_toArray, List.getElem_cons_succ, List.getElem_cons_zero, List.setIfInBounds_toArray, List.set_cons_zero, List.set_cons_succ]
          refine wpAnyH_take (i := 18) (v := undef) rfl (by kernel_rfl) (by kernel_rfl) (by kernel_rfl) (fun _ _ _ h => h) (Or.inr ⟨by rfl, rfl⟩) hS ?_
          simp only [Act.put, List.getElem_toArray, List.getElem_cons_succ, List.getElem_cons_zero, List.setIfInBounds_toArray, List.set_cons_zero, List.set_cons_succ]
          refine wpAnyH_take (i := 19) (v := undef) rfl (by kernel_rfl) (by kernel_rfl) (by kernel_rfl) (fun _ _ _ h => h) (Or.inr ⟨by rfl, rfl⟩) hS ?_
          simp only [Act.put, List.getElem_toArray, List.getElem_cons_succ, List.getElem_cons_zero, List.setIfInBounds_toArray, List.set_cons_zero, List.set_cons_succ]
          refine wpAnyH_take (i := 20) (v := undef) rfl (by kernel_rfl) (by kernel_rfl) (by kernel_rfl) (fun _ _ _ h => h) (Or.inr ⟨by rfl, rfl⟩) hS ?_
          simp only [Act.put, List.getElem_toArray, List.getElem_cons_succ, List.getElem_cons_zero, List.setIfInBounds_toArray, List.set_cons_zero, List.set_cons_succ]
          refine wpAnyH_take (i := 21) (v := undef) rfl (by kernel_rfl) (by kernel_rfl) (by kernel_rfl) (fun _ _ _ h => h) (Or.inr ⟨by rfl, rfl⟩) hS ?_
          simp only [Act.put, List.getElem_toArray, List.getElem_cons_succ, List.getElem_cons_zero, List.setIfInBounds_toArray, List.set_cons_zero, List.set_cons_succ]
          refine wpAnyH_take (i := 22) (v := .bool false) rfl (by kernel_rfl) (by kernel_rfl) (by kernel_rfl) (fun _ _ _ h => h) (Or.inl ⟨by rfl, fun wx hx => by simp [go_sem]⟩) hS ?_
          simp only [Act.put, List.getElem_toArray, List.getElem_cons_succ, List.getElem_cons_zero, List.setIfInBounds_toArray, List.set_cons_zero, List.set_cons_succ]
          refine wpAnyH_done (by kernel_rfl) ?_ _
          clear HR hS
          have tk60 : Hid True := trivial
          have tk61 : Hid True := trivial
          go_wp2_with (first
            | (clear tk60; go_at_call 19; refine (OPS.newBad y0 n HNB.out).mono ?_; rintro e y61 ⟨rfl, hbz⟩
               replace HBW : Hid (Below w.heap.size w y61) := HBW.out.trans (hbz.mono HBW.out.size)
               clear hbz )
            | (clear tk61; go_at_call 10; refine (works13_any OPS y61).mono ?_; rintro e y62 ⟨rfl, hbz⟩
               replace HBW : Hid (Below w.heap.size w y62) := HBW.out.trans (hbz.mono HBW.out.size)
               clear hbz ))
          go_ret
          exact ⟨rfl, HBW.out⟩
        case neg =>
          obtain ⟨nn1, rfl⟩ : ∃ m : Nat, n = (m : Int) := ⟨n.toNat, by omega⟩
          have HNG : Hid (1 ≤ nn1 ∧ nn1 ≤ 300) := ⟨by omega, by omega⟩
          have n3 : ¬ ((nn1 : Int) > 300) := by have h := HNG.out; omega
          have n5 : ¬ ((nn1 : Int) > 16384) := by have h := HNG.out; omega
          clear hn1
          go_enter Try.func4, Try.ntmps4
          have tk0 : Hid True := trivial
          have tk1 : Hid True := trivial
          have tk2 : Hid True := trivial
          have tk3 : Hid True := trivial
          go_upto_region 7 with (first
            | (clear tk0; go_at_call 17; refine (LD.range w _ HRB0.out).mono ?_; rintro e y1 ⟨rfl, hbz⟩
               replace HBW : Hid (Below w.heap.size w y1) := HBW.out.trans (hbz.mono HBW.out.size)
               clear hbz )
            | (clear tk1; go_at_call 18; refine (rdLoad_range _ y1 (HRB0.out.below HBW.out)).mono ?_; rintro e y2 ⟨rfl, hbz⟩
               replace HBW : Hid (Below w.heap.size w y2) := HBW.out.trans (hbz.mono HBW.out.size)
               clear hbz )
            | (clear tk2; with_reducible refine wpSeq_allocRd ?_ ?_ ?_
               · rfl
               · rfl
               intro gr y3 nn)
            | (clear tk3; with_reducible refine wpSeq_storeRow 27 (.tmp 7) (.tmp 24) gr [.slice none 0 0, .slice none 0 0, .int .i64 0, .bool false] [.slice none 0 0, .slice none 0 0, .int .i64 0, .bool false] ?_ ?_ ?_ ?_ ?_ ?_ ?_ ?_ ?_
               · exact nn.blk
               · rfl
               · exact info_rd _ _ _ _
               · exact one_rd _ _ _ _ _ _ _ _
               · rfl
               · rfl
               · rfl
               · rfl
               intro y4 hs
               have hbz := nn.below.trans (hs.only.below nn.ge nn.below.size)
               replace HBW : Hid (Below w.heap.size w y4) := HBW.out.trans (hbz.mono HBW.out.size)
               have HR : Hid (Blk y4 gr [.slice none 0 0, .slice none 0 0, .int .i64 0, .bool false] 27) := hs.blk
               clear nn hs hbz))
          refine wp_region_held_drew (S := Over (World.drew y4)) (by kernel_rfl) (Over.refl _) ?_
          intro hS
          replace HBW : Hid (Below w.heap.size w (World.drew y4)) := HBW.out.drew
          change wpAnyH _ _ _ _ _ _ _ _ (World.drew y4)
          generalize World.drew y4 = y0 at *
          try simp only [Act.put, List.setIfInBounds_toArray, List.set_cons_zero, List.set_cons_succ]
          refine wpAnyH_take (i := 0) (v := .pointer none) rfl (by kernel_rfl) (by kernel_rfl) (by kernel_rfl) (fun _ _ _ h => h) (Or.inl ⟨by rfl, fun wx hx => by simp [go_sem]⟩) hS ?_
          simp only [Act.put, List.getElem_toArray, List.getElem_cons_zero, List.setIfInBounds_toArray, List.set_cons_zero, List.set_cons_succ]
          refine wpAnyH_take (i := 1) (v := .bool false) rfl (by kernel_rfl) (by kernel_rfl) (by kernel_rfl) (fun _ _ _ h => h) (Or.inl ⟨by rfl, fun wx hx => by simp [go_sem]⟩) hS ?_
          simp only [Act.put, List.getElem_toArray, List.getElem_cons_succ, List.getElem_cons_zero, List.setIfInBounds_toArray, List.set_cons_zero, List.set_cons_succ]
          refine wpAnyH_take (i := 2) (v := .bool false) rfl (by kernel_rfl) (by kernel_rfl) (by kernel_rfl) (fun _ _ _ h => h) (Or.inl ⟨by rfl, fun wx hx => by simp [go_sem]⟩) hS ?_
          simp only [Act.put, List.getElem_toArray, List.getElem_cons_succ, List.getElem_cons_zero, List.setIfInBounds_toArray, List.set_cons_zero, List.set_cons_succ]
          refine wpAnyH_take (i := 3) (v := undef) rfl (by kernel_rfl) (by kernel_rfl) (by kernel_rfl) (fun _ _ _ h => h) (Or.inr ⟨by rfl, rfl⟩) hS ?_
          simp only [Act.put, List.getElem_toArray, List.getElem_cons_succ, List.getElem_cons_zero, List.setIfInBounds_toArray, List.set_cons_zero, List.set_cons_succ]
          refine wpAnyH_take (i := 4) (v := undef) rfl (by kernel_rfl) (by kernel_rfl) (by kernel_rfl) (fun _ _ _ h => h) (Or.inr ⟨by rfl, rfl⟩) hS ?_
          simp only [Act.put, List.getElem_toArray, List.getElem_cons_succ, List.getElem_cons_zero, List.setIfInBounds_toArray, List.set_cons_zero, List.set_cons_succ]
          refine wpAnyH_take (i := 5) (v := undef) rfl (by kernel_rfl) (by kernel_rfl) (by kernel_rfl) (fun _ _ _ h => h) (Or.inr ⟨by rfl, rfl⟩) hS ?_
          simp only [Act.put, List.getElem_toArray, List.getElem_cons_succ, List.getElem_cons_zero, List.setIfInBounds_toArray, List.set_cons_zero, List.set_cons_succ]
          refine wpAnyH_take (i := 6) (v := undef) rfl (by kernel_rfl) (by kernel_rfl) (by kernel_rfl) (fun _ _ _ h => h) (Or.inr ⟨by rfl, rfl⟩) hS ?_
          simp only [Act.put, List.getElem_toArray, List.getElem_cons_succ, List.getElem_cons_zero, List.setIfInBounds_toArray, List.set_cons_zero, List.set_cons_succ]
          refine wpAnyH_take (i := 7) (v := undef) rfl (by kernel_rfl) (by kernel_rfl) (by kernel_rfl) (fun _ _ _ h => h) (Or.inr ⟨by rfl, rfl⟩) hS ?_
          simp only [Act.put, List.getElem_toArray, List.getElem_cons_succ, List.getElem_cons_zero, List.setIfInBounds_toArray, List.set_cons_zero, List.set_cons_succ]
          refine wpAnyH_take (i := 8) (v := undef) rfl (by kernel_rfl) (by kernel_rfl) (by kernel_rfl) (fun _ _ _ h => h) (Or.inr ⟨by rfl, rfl⟩) hS ?_
          simp only [Act.put, List.getElem_toArray, List.getElem_cons_succ, List.getElem_cons_zero, List.setIfInBounds_toArray, List.set_cons_zero, List.set_cons_succ]
          refine wpAnyH_take (i := 9) (v := undef) rfl (by kernel_rfl) (by kernel_rfl) (by kernel_rfl) (fun _ _ _ h => h) (Or.inr ⟨by rfl, rfl⟩) hS ?_
          simp only [Act.put, List.getElem_toArray, List.getElem_cons_succ, List.getElem_cons_zero, List.setIfInBounds_toArray, List.set_cons_zero, List.set_cons_succ]
          refine wpAnyH_take (i := 10) (v := undef) rfl (by kernel_rfl) (by kernel_rfl) (by kernel_rfl) (fun _ _ _ h => h) (Or.inr ⟨by rfl, rfl⟩) hS ?_
          simp only [Act.put, List.getElem_toArray, List.getElem_cons_succ, List.getElem_cons_zero, List.setIfInBounds_toArray, List.set_cons_zero, List.set_cons_succ]
          refine wpAnyH_take (i := 11) (v := undef) rfl (by kernel_rfl) (by kernel_rfl) (by kernel_rfl) (fun _ _ _ h => h) (Or.inr ⟨by rfl, rfl⟩) hS ?_
          simp only [Act.put, List.getElem_toArray, List.getElem_cons_succ, List.getElem_cons_zero, List.setIfInBounds_toArray, List.set_cons_zero, List.set_cons_succ]
          refine wpAnyH_take (i := 12) (v := undef) rfl (by kernel_rfl) (by kernel_rfl) (by kernel_rfl) (fun _ _ _ h => h) (Or.inr ⟨by rfl, rfl⟩) hS ?_
          simp only [Act.put, List.getElem_toArray, List.getElem_cons_succ, List.getElem_cons_zero, List.setIfInBounds_toArray, List.set_cons_zero, List.set_cons_succ]
          refine wpAnyH_take (i := 13) (v := undef) rfl (by kernel_rfl) (by kernel_rfl) (by kernel_rfl) (fun _ _ _ h => h) (Or.inr ⟨by rfl, rfl⟩) hS ?_
          simp only [Act.put, List.getElem_toArray, List.getElem_cons_succ, List.getElem_cons_zero, List.setIfInBounds_toArray, List.set_cons_zero, List.set_cons_succ]
          refine wpAnyH_take (i := 14) (v := undef) rfl (by kernel_rfl) (by kernel_rfl) (by kernel_rfl) (fun _ _ _ h => h) (Or.inr ⟨by rfl, rfl⟩) hS ?_
          simp only [Act.put, List.getElem_toArray, List.getElem_cons_succ, List.getElem_cons_zero, List.setIfInBounds_toArray, List.set_cons_zero, List.set_cons_succ]
          refine wpAnyH_take (i := 15) (v := undef) rfl (by kernel_rfl) (by kernel_rfl) (by kernel_rfl) (fun _ _ _ h => h) (Or.inr ⟨by rfl, rfl⟩) hS ?_
          simp only [Act.put, List.getElem_toArray, List.getElem_cons_succ, List.getElem_cons_zero, List.setIfInBounds_toArray, List.set_cons_zero, List.set_cons_succ]
          refine wpAnyH_take (i := 16) (v := undef) rfl (by kernel_rfl) (by kernel_rfl) (by kernel_rfl) (fun _ _ _ h => h) (Or.inr ⟨by rfl, rfl⟩) hS ?_
          simp only [Act.put, List.getElem_toArray, List.getElem_cons_succ, List.getElem_cons_zero, List.setIfInBounds_toArray, List.set_cons_zero, List.set_cons_succ]
          refine wpAnyH_take (i := 17) (v := undef) rfl (by kernel_rfl) (by kernel_rfl) (by kernel_rfl) (fun _ _ _ h => h) (Or.inr ⟨by rfl, rfl⟩) hS ?_
          simp only [Act.put, List.getElem_toArray, List.getElem_cons_succ, List.getElem_cons_zero, List.setIfInBounds_toArray, List.set_cons_zero, List.set_cons_succ]
          refine wpAnyH_take (i := 18) (v := undef) rfl (by kernel_rfl) (by kernel_rfl) (by kernel_rfl) (fun _ _ _ h => h) (Or.inr ⟨by rfl, rfl⟩) hS ?_
          simp only [Act.put, List.getElem_toArray, List.getElem_cons_succ, List.getElem_cons_zero, List.setIfInBounds_toArray, List.set_cons_zero, List.set_cons_succ]
          refine wpAnyH_take (i := 19) (v := undef) rfl (by kernel_rfl) (by kernel_rfl) (by kernel_rfl) (fun _ _ _ h => h) (Or.inr ⟨by rfl, rfl⟩) hS ?_
          simp only [Act.put, List.getElem_toArray, List.getElem_cons_succ, List.getElem_cons_zero, List.setIfInBounds_toArray, List.set_cons_zero, List.set_cons_succ]
          refine wpAnyH_take (i := 20) (v := undef) rfl (by kernel_rfl) (by kernel_rfl) (by kernel_rfl) (fun _ _ _ h => h) (Or.inr ⟨by rfl, rfl⟩) hS ?_
          simp only [Act.put, List.getElem_toArray, List.getElem_cons_succ, List.getElem_cons_zero, List.setIfInBounds_toArray, List.set_cons_zero, List.set_cons_succ]
          refine wpAnyH_take (i := 21) (v := undef) rfl (by kernel_rfl) (by kernel_rfl) (by kernel_rfl) (fun _ _ _ h => h) (Or.inr ⟨by rfl, rfl⟩) hS ?_
          simp only [Act.put, List.getElem_toArray, List.getElem_cons_succ, List.getElem_cons_zero, List.setIfInBounds_toArray, List.set_cons_zero, List.set_cons_succ]
          refine wpAnyH_take (i := 22) (v := .bool false) rfl (by kernel_rfl) (by kernel_rfl) (by kernel_rfl) (fun _ _ _ h => h) (Or.inl ⟨by rfl, fun wx hx => by simp [go_sem]⟩) hS ?_
          simp only [Act.put, List.getElem_toArray, List.getElem_cons_succ, List.getElem_cons_zero, List.setIfInBounds_toArray, List.set_cons_zero, List.set_cons_succ]
          refine wpAnyH_done (by kernel_rfl) ?_ _
          clear HR hS
          have tk60 : Hid True := trivial
          have tk61 : Hid True := trivial
          go_wp2_with (first
            | (clear tk60; go_at_call 19; refine (OPS.new y0 nn1 HNG.out.1 HNG.out.2).mono ?_; rintro e0 y61 ⟨g2, Px, rfl, hdk2, hbz, hpw2⟩
               clear hdk2 hpw2
               replace HBW : Hid (Below w.heap.size w y61) := HBW.out.trans (hbz.mono HBW.out.size)
               clear hbz)
            | (clear tk61; go_at_call 10; refine (works13_any OPS y61).mono ?_; rintro e y62 ⟨rfl, hbz⟩
               replace HBW : Hid (Below w.heap.size w y62) := HBW.out.trans (hbz.mono HBW.out.size)
               clear hbz ))
          go_ret
          refine ⟨?_, HBW.out⟩
          show Ending.returned (Value.bool (!decide ((nn1 : Int) < 1) && !decide (16384 < (nn1 : Int)))) = _
          rw [decide_eq_false (by have h := HNG.out; omega), decide_eq_false (by have h := HNG.out; omega)]
          rfl
  obtain ⟨m, HM⟩ : ∃ m, Hid (m = L / 64) := ⟨_, rfl⟩
  have HBM : Hid (b.length = 64 * m ∧ 1 ≤ m ∧ m ≤ 200) := by rw [HM.out, ← HL.out]; exact ⟨by omega, by omega, by omega⟩
  have hq : Int.tdiv (L : Int) 64 = (m : Int) := by rw [Int.tdiv_eq_ediv_of_nonneg (by omega), HM.out]; omega
  have fq : IntKind.i64.wrap (m : Int) = (m : Int) := by rw [IntKind.wrap_i64]; have h := HBM.out; omega
  have HSZ0 : Hid (sizeD (loadD b) = m) := by show b.length / 64 = m; rw [HBM.out.1, Nat.mul_div_cancel_left _ (by decide)]
  have HRL : Hid (∀ (W : World) (X : Nat → Prop), Below w.heap.size w W → (∀ k, X k → k < W.heap.size) → Calls Try.prog 18 #[.slice ab L cb2] W fun r w' => ∃ va na ca, r = .returned (.tuple #[.agg [.slice va na ca, .slice none 0 0, .int .i64 (-1), .bool false].toArray, .int .i64 0]) ∧ RdS X w' (loadD b) (.slice va na ca) (.slice none 0 0) ∧ Below W.heap.size W w') := fun W X h1 h2 => (rdLoad_any X _ b m W (HRB.out.below h1) HBM.out.1 HBM.out.2.1 (by have h := HBM.out; omega) h2).mono fun e w' h => by
    obtain ⟨vs, e1, e2, e3⟩ := h
    obtain ⟨a, c, _, _, f1, _⟩ := e2.form
    subst f1
    exact ⟨_, _, _, e1, e2, e3⟩
  have HDM : Hid (∀ (W : World) (g : Nat) (X : Nat → Prop), Dk W g X (loadD b) → Calls Try.prog 14 #[.pointer (some ⟨g, 0, none⟩)] W fun r w' => ∃ P' da dl dc, r = .returned (.slice da dl dc) ∧ Reads w' (.slice da dl dc) b ∧ Dk w' g P' (loadD b) ∧ Mut X W w' ∧ Grew W X P') := fun W g X h => (OPS.dump h (Nat.zero_le _)).mono fun r w' h => by
    obtain ⟨P', v, e1, e2, e3, e4, e5⟩ := h
    obtain ⟨a, n, c, hv⟩ := e2.now.form
    subst hv
    exact ⟨P', a, n, c, e1, e2.now, e3, e4, e5⟩
  have HSZ : Hid (∀ (W : World) (g : Nat) (X : Nat → Prop), Dk W g X (loadD b) → Calls Try.prog 16 #[.pointer (some ⟨g, 0, none⟩)] W fun r w' => ∃ P', r = .returned (.int .i64 (m : Int)) ∧ Dk w' g P' (loadD b) ∧ Mut X W w' ∧ Grew W X P') := fun W g X h => by rw [← HSZ0.out]; exact OPS.size h
  have HPN : Hid (∀ (W : World) (g : Nat) (X : Nat → Prop), Dk W g X (loadD b) → Calls Try.prog 12 #[.pointer (some ⟨g, 0, none⟩)] W fun r w' => ∃ P', r = .returned (.int .i64 0) ∧ Dk w' g P' (loadD b) ∧ Mut X W w' ∧ Grew W X P') := fun W g X h => OPS.pending h
  clear hbig hm0 hl0
  by_cases hn1 : 300 < n ∧ n ≤ 16384
  case pos =>
    have n3 : n > 300 := hn1.1
    have n4 : n ≤ 16384 := hn1.2
    clear hn1
    go_enter Try.func4, Try.ntmps4
    have tk0 : Hid True := trivial
    have tk1 : Hid True := trivial
    have tk2 : Hid True := trivial
    have tk3 : Hid True := trivial
    go_upto_region 7 with (first
      | (clear tk0; go_at_call 17; refine (LD.load w _ b m HRB.out HBM.out.1 HBM.out.2.1 HBM.out.2.2).mono ?_; rintro e0 y1 ⟨g, P, rfl, hdk, hbz, hpw⟩
         have HDK : Hid (Dk y1 g P (loadD b)) := hdk
         have HPW : Hid (∀ k, P k → w.heap.size ≤ k) := hpw
         replace HBW : Hid (Below w.heap.size w y1) := hbz
         clear hdk hpw hbz)
      | (clear tk1; go_at_call 18; refine (HRL.out y1 P HBW.out (fun k hk => OPS.lt HDK.out k hk)).mono ?_; rintro e0 y2 ⟨va, na, ca, rfl, hrs, hbz⟩
         replace HDK : Hid (Dk y2 g P (loadD b)) := OPS.same HDK.out hbz.size (fun k hk => hbz.block k (OPS.lt HDK.out k hk))
         replace HBW : Hid (Below w.heap.size w y2) := HBW.out.trans (hbz.mono HBW.out.size)
         have HRS : Hid (RdS P y2 (loadD b) (.slice va na ca) (.slice none 0 0)) := hrs
         clear hrs hbz)
      | (clear tk2; with_reducible refine wpSeq_allocRd ?_ ?_ ?_
         · rfl
         · rfl
         intro gr y3 nn
         have NP_gr : Hid (¬ P gr) := fun h => absurd (OPS.lt HDK.out gr h) (by have h2 := nn.ge; omega)
         have GE_gr : Hid (w.heap.size ≤ gr) := Nat.le_trans HBW.out.size nn.ge
         have HRX : Hid (RdS (Ext P [gr]) y2 (loadD b) (.slice va na ca) (.slice none 0 0)) := HRS.out.go (Mut.refl _ _) (fun k hk h => h.elim id (fun h => by rw [List.mem_singleton.1 h] at hk; have h2 := nn.ge; omega)))
      | (clear tk3; with_reducible refine wpSeq_storeRow 27 (.tmp 7) (.tmp 24) gr [.slice none 0 0, .slice none 0 0, .int .i64 0, .bool false] [.slice va na ca, .slice none 0 0, .int .i64 (-1), .bool false] ?_ ?_ ?_ ?_ ?_ ?_ ?_ ?_ ?_
         · exact nn.blk
         · rfl
         · exact info_rd _ _ _ _
         · exact one_rd _ _ _ _ _ _ _ _
         · rfl
         · rfl
         · rfl
         · rfl
         intro y4 hs
         have hbz := nn.below.trans (hs.only.below nn.ge nn.below.size)
         replace HDK : Hid (Dk y4 g P (loadD b)) := OPS.same HDK.out hbz.size (fun k hk => hbz.block k (OPS.lt HDK.out k hk))
         replace HRS : Hid (RdS P y4 (loadD b) (.slice va na ca) (.slice none 0 0)) := HRS.out.below hbz
         replace HBW : Hid (Below w.heap.size w y4) := HBW.out.trans (hbz.mono HBW.out.size)
         have HR : Hid (Blk y4 gr [.slice va na ca, .slice none 0 0, .int .i64 (-1), .bool false] 27) := hs.blk
         replace HRX : Hid (RdS (Ext P [gr]) y4 (loadD b) (.slice va na ca) (.slice none 0 0)) := HRX.out.below hbz
         clear nn hs hbz))
    have HI : Hid (DdI Dk w g gr m 0 P (loadD b) (.slice va na ca) (.slice none 0 0) y4) := ⟨HBW.out, HDK.out, HPW.out, HR.out, HRX.out, NP_gr.out, GE_gr.out, Nat.le_refl _, HSZ0.out⟩
    go_cut [58] from 59 to 89 (fun c W => c = .bool false ∧ Below w.heap.size w W)
    case first =>
      refine wp_region_held_drew (S := Mut P (World.drew y4)) (by kernel_rfl) (Mut.refl _ _) ?_
      intro hS
      replace HI : Hid (DdI Dk w g gr m 0 P (loadD b) (.slice va na ca) (.slice none 0 0) (World.drew y4)) := HI.out.drew OPS
      clear HDK HPW HRS HRX HR
      change wpAnyH _ _ _ _ _ _ _ _ (World.drew y4)
      generalize World.drew y4 = y0 at *
      try simp only [Act.put, List.setIfInBounds_toArray, List.set_cons_zero, List.set_cons_succ]
      refine wpAnyH_take (i := 0) (v := .pointer (some ⟨g, 0, none⟩)) rfl (by kernel_rfl) (by kernel_rfl) (by kernel_rfl) (fun _ _ _ h => h) (Or.inl ⟨by rfl, fun wx hx => by simp [go_sem]⟩) hS ?_
      simp only [Act.put, List.getElem_toArray, List.getElem_cons_zero, List.setIfInBounds_toArray, List.set_cons_zero, List.set_cons_succ]
      refine wpAnyH_take (i := 1) (v := .bool true) rfl (by kernel_rfl) (by kernel_rfl) (by kernel_rfl) (fun _ _ _ h => h) (Or.inl ⟨by rfl, fun wx hx => by simp [go_sem]⟩) hS ?_
      simp only [Act.put, List.getElem_toArray, List.getElem_cons_succ, List.getElem_cons_zero, List.setIfInBounds_toArray, List.set_cons_zero, List.set_cons_succ]
      refine wpAnyH_take (i := 2) (v := .bool true) rfl (by kernel_rfl) (by kernel_rfl) (by kernel_rfl) (fun _ _ _ h => h) (Or.inl ⟨by rfl, fun wx hx => by simp [go_sem]⟩) hS ?_
      simp only [Act.put, List.getElem_toArray, List.getElem_cons_succ, List.getElem_cons_zero, List.setIfInBounds_toArray, List.set_cons_zero, List.set_cons_succ]
      refine wpAnyH_take (i := 3) (v := .pointer (some ⟨g, 0, none⟩)) rfl (by kernel_rfl) (by kernel_rfl) (by kernel_rfl) (fun _ _ _ h => h) (Or.inl ⟨by rfl, fun wx hx => by simp [go_sem]⟩) hS ?_
      simp only [Act.put, List.getElem_toArray, List.getElem_cons_succ, List.getElem_cons_zero, List.setIfInBounds_toArray, List.set_cons_zero, List.set_cons_succ]
      refine wpAnyH_take (i := 5) (v := .pointer (some ⟨gr, 0, none⟩)) rfl (by kernel_rfl) (by kernel_rfl) (by kernel_rfl) (fun _ _ _ h => h) (Or.inl ⟨by rfl, fun wx hx => by simp [go_sem]⟩) hS ?_
      simp only [Act.put, List.getElem_toArray, List.getElem_cons_succ, List.getElem_cons_zero, List.setIfInBounds_toArray, List.set_cons_zero, List.set_cons_succ]
      refine wpAnyH_take (i := 6) (v := .slice va na ca) rfl (by kernel_rfl) (by kernel_rfl) (by kernel_rfl) (fun _ _ _ h => h) (Or.inl ⟨by rfl, fun wx hx => by (have hc : wx.cell? ⟨gr, 0, none⟩ = some (.slice va na ca) := (hx.blk HI.out.rr HI.out.np).cell 0); simp [go_sem, hc]⟩) hS ?_
      simp only [Act.put, List.getElem_toArray, List.getElem_cons_succ, List.getElem_cons_zero, List.setIfInBounds_toArray, List.set_cons_zero, List.set_cons_succ]
      have hcc := HDM.out y0 _ _ HI.out.dk
      generalize hA : (#[.pointer (some ⟨g, 0, none⟩)] : Array Value) = AA at hcc
      refine wpAnyH_enter 4 (by kernel_rfl) rfl (by rfl) (f := 14) (args := AA) ?_ hcc ?_
      · subst hA; simp [go_sem]
      clear hcc hA
      rintro e z1 ⟨P1, da, dl, dc, rfl, hrd, hdk, hm, hgr⟩
      have HI1 : Hid (DdI Dk w g gr m 0 P1 (loadD b) (.slice va na ca) (.slice none 0 0) z1) := HI.out.act hdk hm hgr
      replace hS : Mut P y0 z1 := hm
      have HG1 : Hid (Grew y0 P P1) := hgr
      have HRD : Hid (Reads z1 (.slice da dl dc) b) := hrd
      clear hrd
      refine ⟨_, rfl, hS, ?_⟩
      clear hdk hm hgr
      simp only [Act.put, List.getElem_toArray, List.getElem_cons_succ, List.getElem_cons_zero, List.setIfInBounds_toArray, List.set_cons_zero, List.set_cons_succ]
      refine wpAnyH_enter 7 (by kernel_rfl) rfl (by rfl) (f := 13) (args := #[.slice da dl dc, .slice va na ca]) (by simp [go_sem]) (same_self _ _ b z1 HRD.out HI1.out.rs.sf.now) ?_
      rintro e z0 ⟨rfl, rfl⟩
      refine ⟨_, rfl, hS, ?_⟩
      simp only [Act.put, List.getElem_toArray, List.getElem_cons_succ, List.getElem_cons_zero, List.setIfInBounds_toArray, List.set_cons_zero, List.set_cons_succ]
      refine wpAnyH_take (i := 8) (v := .bool false) rfl (by kernel_rfl) (by kernel_rfl) (by kernel_rfl) (fun _ _ _ h => h) (Or.inl ⟨by rfl, fun wx hx => by simp [go_sem]⟩) hS ?_
      simp only [Act.put, List.getElem_toArray, List.getElem_cons_succ, List.getElem_cons_zero, List.setIfInBounds_toArray, List.set_cons_zero, List.set_cons_succ]
      refine wpAnyH_take (i := 9) (v := .bool false) rfl (by kernel_rfl) (by kernel_rfl) (by kernel_rfl) (fun _ _ _ h => h) (Or.inl ⟨by rfl, fun wx hx => by simp [go_sem]⟩) hS ?_
      simp only [Act.put, List.getElem_toArray, List.getElem_cons_succ, List.getElem_cons_zero, List.setIfInBounds_toArray, List.set_cons_zero, List.set_cons_succ]
      refine wpAnyH_take (i := 10) (v := .pointer (some ⟨g, 0, none⟩)) rfl (by kernel_rfl) (by kernel_rfl) (by kernel_rfl) (fun _ _ _ h => h) (Or.inl ⟨by rfl, fun wx hx => by simp [go_sem]⟩) hS ?_
      simp only [Act.put, List.getElem_toArray, List.getElem_cons_succ, List.getElem_cons_zero, List.setIfInBounds_toArray, List.set_cons_zero, List.set_cons_succ]
      refine wpAnyH_take (i := 12) (v := .slice ab L cb2) rfl (by kernel_rfl) (by kernel_rfl) (by kernel_rfl) (fun _ _ _ h => h) (Or.inl ⟨by rfl, fun wx hx => by simp [go_sem]⟩) hS ?_
      simp only [Act.put, List.getElem_toArray, List.getElem_cons_succ, List.getElem_cons_zero, List.setIfInBounds_toArray, List.set_cons_zero, List.set_cons_succ]
      refine wpAnyH_take (i := 13) (v := .int .i64 (L : Int)) rfl (by kernel_rfl) (by kernel_rfl) (by kernel_rfl) (fun _ _ _ h => h) (Or.inl ⟨by rfl, fun wx hx => by simp [go_sem]⟩) hS ?_
      simp only [Act.put, List.getElem_toArray, List.getElem_cons_succ, List.getElem_cons_zero, List.setIfInBounds_toArray, List.set_cons_zero, List.set_cons_succ]
      refine wpAnyH_take (i := 14) (v := .int .i64 (m : Int)) rfl (by kernel_rfl) (by kernel_rfl) (by kernel_rfl) (fun _ _ _ h => h) (Or.inl ⟨by rfl, fun wx hx => by simp [go_sem, hq, fq]⟩) hS ?_
      simp only [Act.put, List.getElem_toArray, List.getElem_cons_succ, List.getElem_cons_zero, List.setIfInBounds_toArray, List.set_cons_zero, List.set_cons_succ]
      have hsz1 : y0.heap.size ≤ z0.heap.size := hS.size
      have hcc := HSZ.out z0 _ _ HI1.out.dk
      generalize hA : (#[.pointer (some ⟨g, 0, none⟩)] : Array Value) = AA at hcc
      refine wpAnyH_enter 11 (by kernel_rfl) rfl (by rfl) (f := 16) (args := AA) ?_ hcc ?_
      · subst hA; simp [go_sem]
      clear hcc hA
      rintro e z2 ⟨P2, rfl, hdk, hm, hgr⟩
      have HI2 : Hid (DdI Dk w g gr m 0 P2 (loadD b) (.slice va na ca) (.slice none 0 0) z2) := HI1.out.act hdk hm hgr
      replace hS : Mut P y0 z2 := hS.trans HG1.out.old hm
      have HG2 : Hid (Grew y0 P P2) := HG1.out.trans hsz1 hgr
      refine ⟨_, rfl, hS, ?_⟩
      clear hdk hm hgr
      simp only [Act.put, List.getElem_toArray, List.getElem_cons_succ, List.getElem_cons_zero, List.setIfInBounds_toArray, List.set_cons_zero, List.set_cons_succ]
      refine wpAnyH_take (i := 15) (v := .bool false) rfl (by kernel_rfl) (by kernel_rfl) (by kernel_rfl) (fun _ _ _ h => h) (Or.inl ⟨by rfl, fun wx hx => by simp [go_sem]⟩) hS ?_
      simp only [Act.put, List.getElem_toArray, List.getElem_cons_succ, List.getElem_cons_zero, List.setIfInBounds_toArray, List.set_cons_zero, List.set_cons_succ]
      refine wpAnyH_take (i := 16) (v := .bool false) rfl (by kernel_rfl) (by kernel_rfl) (by kernel_rfl) (fun _ _ _ h => h) (Or.inl ⟨by rfl, fun wx hx => by simp [go_sem]⟩) hS ?_
      simp only [Act.put, List.getElem_toArray, List.getElem_cons_succ, List.getElem_cons_zero, List.setIfInBounds_toArray, List.set_cons_zero, List.set_cons_succ]
      refine wpAnyH_take (i := 17) (v := .bool false) rfl (by kernel_rfl) (by kernel_rfl) (by kernel_rfl) (fun _ _ _ h => h) (Or.inl ⟨by rfl, fun wx hx => by simp [go_sem]⟩) hS ?_
      simp only [Act.put, List.getElem_toArray, List.getElem_cons_succ, List.getElem_cons_zero, List.setIfInBounds_toArray, List.set_cons_zero, List.set_cons_succ]
      refine wpAnyH_take (i := 18) (v := .pointer (some ⟨g, 0, none⟩)) rfl (by kernel_rfl) (by kernel_rfl) (by kernel_rfl) (fun _ _ _ h => h) (Or.inl ⟨by rfl, fun wx hx => by simp [go_sem]⟩) hS ?_
      simp only [Act.put, List.getElem_toArray, List.getElem_cons_succ, List.getElem_cons_zero, List.setIfInBounds_toArray, List.set_cons_zero, List.set_cons_succ]
      have hcc := HPN.out z2 _ _ HI2.out.dk
      generalize hA : (#[.pointer (some ⟨g, 0, none⟩)] : Array Value) = AA at hcc
      refine wpAnyH_enter 19 (by kernel_rfl) rfl (by rfl) (f := 12) (args := AA) ?_ hcc ?_
      · subst hA; simp [go_sem]
      clear hcc hA
      rintro e z3 ⟨P3, rfl, hdk, hm, hgr⟩
      have HI3 : Hid (DdI Dk w g gr m 0 P3 (loadD b) (.slice va na ca) (.slice none 0 0) z3) := HI2.out.act hdk hm hgr
      replace hS : Mut P y0 z3 := hS.trans HG2.out.old hm
      refine ⟨_, rfl, hS, ?_⟩
      clear hdk hm hgr
      simp only [Act.put, List.getElem_toArray, List.getElem_cons_succ, List.getElem_cons_zero, List.setIfInBounds_toArray, List.set_cons_zero, List.set_cons_succ]
      refine wpAnyH_take (i := 20) (v := .bool false) rfl (by kernel_rfl) (by kernel_rfl) (by kernel_rfl) (fun _ _ _ h => h) (Or.inl ⟨by rfl, fun wx hx => by simp [go_sem]⟩) hS ?_
      simp only [Act.put, List.getElem_toArray, List.getElem_cons_succ, List.getElem_cons_zero, List.setIfInBounds_toArray, List.set_cons_zero, List.set_cons_succ]
      refine wpAnyH_take (i := 21) (v := .bool false) rfl (by kernel_rfl) (by kernel_rfl) (by kernel_rfl) (fun _ _ _ h => h) (Or.inl ⟨by rfl, fun wx hx => by simp [go_sem]⟩) hS ?_
      simp only [Act.put, List.getElem_toArray, List.getElem_cons_succ, List.getElem_cons_zero, List.setIfInBounds_toArray, List.set_cons_zero, List.set_cons_succ]
      refine wpAnyH_take (i := 22) (v := .bool false) rfl (by kernel_rfl) (by kernel_rfl) (by kernel_rfl) (fun _ _ _ h => h) (Or.inl ⟨by rfl, fun wx hx => by simp [go_sem]⟩) hS ?_
      simp only [Act.put, List.getElem_toArray, List.getElem_cons_succ, List.getElem_cons_zero, List.setIfInBounds_toArray, List.set_cons_zero, List.set_cons_succ]
      refine wpAnyH_done (by kernel_rfl) ?_ _
      go_wp2
      go_meet
      case rel => exact ⟨rfl, HI3.out.bel⟩
    case rest =>
      obtain ⟨rfl, hbw⟩ := hcut
      clear HI HDK HPW HRS HRX HR HBW
      have HBW : Hid (Below w.heap.size w wc) := hbw
      clear hbw
      have tk60 : Hid True := trivial
      go_wp2_with (first
        | (clear tk60; go_at_call 10; refine (works13_any OPS wc).mono ?_; rintro e y61 ⟨rfl, hbz⟩
           replace HBW : Hid (Below w.heap.size w y61) := HBW.out.trans (hbz.mono HBW.out.size)
           clear hbz ))
      go_ret
      exact ⟨rfl, HBW.out⟩
  case neg =>
    by_cases hn2 : n < 1
    case pos =>
      have HNB : Hid (n < 1 ∨ 16384 < n) := Or.inl hn2
      have n3 : ¬ (n > 300) := by omega
      clear hn1
      go_enter Try.func4, Try.ntmps4
      have tk0 : Hid True := trivial
      have tk1 : Hid True := trivial
      have tk2 : Hid True := trivial
      have tk3 : Hid True := trivial
      go_upto_region 7 with (first
        | (clear tk0; go_at_call 17; refine (LD.load w _ b m HRB.out HBM.out.1 HBM.out.2.1 HBM.out.2.2).mono ?_; rintro e0 y1 ⟨g, P, rfl, hdk, hbz, hpw⟩
           have HDK : Hid (Dk y1 g P (loadD b)) := hdk
           have HPW : Hid (∀ k, P k → w.heap.size ≤ k) := hpw
           replace HBW : Hid (Below w.heap.size w y1) := hbz
           clear hdk hpw hbz)
        | (clear tk1; go_at_call 18; refine (HRL.out y1 P HBW.out (fun k hk => OPS.lt HDK.out k hk)).mono ?_; rintro e0 y2 ⟨va, na, ca, rfl, hrs, hbz⟩
           replace HDK : Hid (Dk y2 g P (loadD b)) := OPS.same HDK.out hbz.size (fun k hk => hbz.block k (OPS.lt HDK.out k hk))
           replace HBW : Hid (Below w.heap.size w y2) := HBW.out.trans (hbz.mono HBW.out.size)
           have HRS : Hid (RdS P y2 (loadD b) (.slice va na ca) (.slice none 0 0)) := hrs
           clear hrs hbz)
        | (clear tk2; with_reducible refine wpSeq_allocRd ?_ ?_ ?_
           · rfl
           · rfl
           intro gr y3 nn
           have NP_gr : Hid (¬ P gr) := fun h => absurd (OPS.lt HDK.out gr h) (by have h2 := nn.ge; omega)
           have GE_gr : Hid (w.heap.size ≤ gr) := Nat.le_trans HBW.out.size nn.ge
           have HRX : Hid (RdS (Ext P [gr]) y2 (loadD b) (.slice va na ca) (.slice none 0 0)) := HRS.out.go (Mut.refl _ _) (fun k hk h => h.elim id (fun h => by rw [List.mem_singleton.1 h] at hk; have h2 := nn.ge; omega)))
        | (clear tk3; with_reducible refine wpSeq_storeRow 27 (.tmp 7) (.tmp 24) gr [.slice none 0 0, .slice none 0 0, .int .i64 0, .bool false] [.slice va na ca, .slice none 0 0, .int .i64 (-1), .bool false] ?_ ?_ ?_ ?_ ?_ ?_ ?_ ?_ ?_
           · exact nn.blk
           · rfl
           · exact info_rd _ _ _ _
           · exact one_rd _ _ _ _ _ _ _ _
           · rfl
           · rfl
           · rfl
           · rfl
           intro y4 hs
           have hbz := nn.below.trans (hs.only.below nn.ge nn.below.size)
           replace HDK : Hid (Dk y4 g P (loadD b)) := OPS.same HDK.out hbz.size (fun k hk => hbz.block k (OPS.lt HDK.out k hk))
           replace HRS : Hid (RdS P y4 (loadD b) (.slice va na ca) (.slice none 0 0)) := HRS.out.below hbz
           replace HBW : Hid (Below w.heap.size w y4) := HBW.out.trans (hbz.mono HBW.out.size)
           have HR : Hid (Blk y4 gr [.slice va na ca, .slice none 0 0, .int .i64 (-1), .bool false] 27) := hs.blk
           replace HRX : Hid (RdS (Ext P [gr]) y4 (loadD b) (.slice va na ca) (.slice none 0 0)) := HRX.out.below hbz
           clear nn hs hbz))
      have HI : Hid (DdI Dk w g gr m 0 P (loadD b) (.slice va na ca) (.slice none 0 0) y4) := ⟨HBW.out, HDK.out, HPW.out, HR.out, HRX.out, NP_gr.out, GE_gr.out, Nat.le_refl _, HSZ0.out⟩
      go_cut [58] from 59 to 89 (fun c W => c = .bool false ∧ Below w.heap.size w W)
      case first =>
        refine wp_region_held_drew (S := Mut P (World.drew y4)) (by kernel_rfl) (Mut.refl _ _) ?_
        intro hS
        replace HI : Hid (DdI Dk w g gr m 0 P (loadD b) (.slice va na ca) (.slice none 0 0) (World.drew y4)) := HI.out.drew OPS
        clear HDK HPW HRS HRX HR
        change wpAnyH _ _ _ _ _ _ _ _ (World.drew y4)
        generalize World.drew y4 = y0 at *
        try simp only [Act.put, List.setIfInBounds_toArray, List.set_cons_zero, List.set_cons_succ]
        refine wpAnyH_take (i := 0) (v := .pointer (some ⟨g, 0, none⟩)) rfl (by kernel_rfl) (by kernel_rfl) (by kernel_rfl) (fun _ _ _ h => h) (Or.inl ⟨by rfl, fun wx hx => by simp [go_sem]⟩) hS ?_
        simp only [Act.put, List.getElem_toArray, List.getElem_cons_zero, List.setIfInBounds_toArray, List.set_cons_zero, List.set_cons_succ]
        refine wpAnyH_take (i := 1) (v := .bool true) rfl (by kernel_rfl) (by kernel_rfl) (by kernel_rfl) (fun _ _ _ h => h) (Or.inl ⟨by rfl, fun wx hx => by simp [go_sem]⟩) hS ?_
        simp only [Act.put, List.getElem_toArray, List.getElem_cons_succ, List.getElem_cons_zero, List.setIfInBounds_toArray, List.set_cons_zero, List.set_cons_succ]
        refine wpAnyH_take (i := 2) (v := .bool true) rfl (by kernel_rfl) (by kernel_rfl) (by kernel_rfl) (fun _ _ _ h => h) (Or.inl ⟨by rfl, fun wx hx => by simp [go_sem]⟩) hS ?_
        simp only [Act.put, List.getElem_toArray, List.getElem_cons_succ, List.getElem_cons_zero, List.setIfInBounds_toArray, List.set_cons_zero, List.set_cons_succ]
        refine wpAnyH_take (i := 3) (v := .pointer (some ⟨g, 0, none⟩)) rfl (by kernel_rfl) (by kernel_rfl) (by kernel_rfl) (fun _ _ _ h => h) (Or.inl ⟨by rfl, fun wx hx => by simp [go_sem]⟩) hS ?_
        simp only [Act.put, List.getElem_toArray, List.getElem_cons_succ, List.getElem_cons_zero, List.setIfInBounds_toArray, List.set_cons_zero, List.set_cons_succ]
        refine wpAnyH_take (i := 5) (v := .pointer (some ⟨gr, 0, none⟩)) rfl (by kernel_rfl) (by kernel_rfl) (by kernel_rfl) (fun _ _ _ h => h) (Or.inl ⟨by rfl, fun wx hx => by simp [go_sem]⟩) hS ?_
        simp only [Act.put, List.getElem_toArray, List.getElem_cons_succ, List.getElem_cons_zero, List.setIfInBounds_toArray, List.set_cons_zero, List.set_cons_succ]
        refine wpAnyH_take (i := 6) (v := .slice va na ca) rfl (by kernel_rfl) (by kernel_rfl) (by kernel_rfl) (fun _ _ _ h => h) (Or.inl ⟨by rfl, fun wx hx => by (have hc : wx.cell? ⟨gr, 0, none⟩ = some (.slice va na ca) := (hx.blk HI.out.rr HI.out.np).cell 0); simp [go_sem, hc]⟩) hS ?_
        simp only [Act.put, List.getElem_toArray, List.getElem_cons_succ, List.getElem_cons_zero, List.setIfInBounds_toArray, List.set_cons_zero, List.set_cons_succ]
        have hcc := HDM.out y0 _ _ HI.out.dk
        generalize hA : (#[.pointer (some ⟨g, 0, none⟩)] : Array Value) = AA at hcc
        refine wpAnyH_enter 4 (by kernel_rfl) rfl (by rfl) (f := 14) (args := AA) ?_ hcc ?_
        · subst hA; simp [go_sem]
        clear hcc hA
        rintro e z1 ⟨P1, da, dl, dc, rfl, hrd, hdk, hm, hgr⟩
        have HI1 : Hid (DdI Dk w g gr m 0 P1 (loadD b) (.slice va na ca) (.slice none 0 0) z1) := HI.out.act hdk hm hgr
        replace hS : Mut P y0 z1 := hm
        have HG1 : Hid (Grew y0 P P1) := hgr
        have HRD : Hid (Reads z1 (.slice da dl dc) b) := hrd
        clear hrd
        refine ⟨_, rfl, hS, ?_⟩
        clear hdk hm hgr
        simp only [Act.put, List.getElem_toArray, List.getElem_cons_succ, List.getElem_cons_zero, List.setIfInBounds_toArray, List.set_cons_zero, List.set_cons_succ]
        refine wpAnyH_enter 7 (by kernel_rfl) rfl (by rfl) (f := 13) (args := #[.slice da dl dc, .slice va na ca]) (by simp [go_sem]) (same_self _ _ b z1 HRD.out HI1.out.rs.sf.now) ?_
        rintro e z0 ⟨rfl, rfl⟩
        refine ⟨_, rfl, hS, ?_⟩
        simp only [Act.put, List.getElem_toArray, List.getElem_cons_succ, List.getElem_cons_zero, List.setIfInBounds_toArray, List.set_cons_zero, List.set_cons_succ]
        refine wpAnyH_take (i := 8) (v := .bool false) rfl (by kernel_rfl) (by kernel_rfl) (by kernel_rfl) (fun _ _ _ h => h) (Or.inl ⟨by rfl, fun wx hx => by simp [go_sem]⟩) hS ?_
        simp only [Act.put, List.getElem_toArray, List.getElem_cons_succ, List.getElem_cons_zero, List.setIfInBounds_toArray, List.set_cons_zero, List.set_cons_succ]
        refine wpAnyH_take (i := 9) (v := .bool false) rfl (by kernel_rfl) (by kernel_rfl) (by kernel_rfl) (fun _ _ _ h => h) (Or.inl ⟨by rfl, fun wx hx => by simp [go_sem]⟩) hS ?_
        simp only [Act.put, List.getElem_toArray, List.getElem_cons_succ, List.getElem_cons_zero, List.setIfInBounds_toArray, List.set_cons_zero, List.set_cons_succ]
        refine wpAnyH_take (i := 10) (v := .pointer (some ⟨g, 0, none⟩)) rfl (by kernel_rfl) (by kernel_rfl) (by kernel_rfl) (fun _ _ _ h => h) (Or.inl ⟨by rfl, fun wx hx => by simp [go_sem]⟩) hS ?_
        simp only [Act.put, List.getElem_toArray, List.getElem_cons_succ, List.getElem_cons_zero, List.setIfInBounds_toArray, List.set_cons_zero, List.set_cons_succ]
        refine wpAnyH_take (i := 12) (v := .slice ab L cb2) rfl (by kernel_rfl) (by kernel_rfl) (by kernel_rfl) (fun _ _ _ h => h) (Or.inl ⟨by rfl, fun wx hx => by simp [go_sem]⟩) hS ?_
        simp only [Act.put, List.getElem_toArray, List.getElem_cons_succ, List.getElem_cons_zero, List.setIfInBounds_toArray, List.set_cons_zero, List.set_cons_succ]
        refine wpAnyH_take (i := 13) (v := .int .i64 (L : Int)) rfl (by kernel_rfl) (by kernel_rfl) (by kernel_rfl) (fun _ _ _ h => h) (Or.inl ⟨by rfl, fun wx hx => by simp [go_sem]⟩) hS ?_
        simp only [Act.put, List.getElem_toArray, List.getElem_cons_succ, List.getElem_cons_zero, List.setIfInBounds_toArray, List.set_cons_zero, List.set_cons_succ]
        refine wpAnyH_take (i := 14) (v := .int .i64 (m : Int)) rfl (by kernel_rfl) (by kernel_rfl) (by kernel_rfl) (fun _ _ _ h => h) (Or.inl ⟨by rfl, fun wx hx => by simp [go_sem, hq, fq]⟩) hS ?_
        simp only [Act.put, List.getElem_toArray, List.getElem_cons_succ, List.getElem_cons_zero, List.setIfInBounds_toArray, List.set_cons_zero, List.set_cons_succ]
        have hsz1 : y0.heap.size ≤ z0.heap.size := hS.size
        have hcc := HSZ.out z0 _ _ HI1.out.dk
        generalize hA : (#[.pointer (some ⟨g, 0, none⟩)] : Array Value) = AA at hcc
        refine wpAnyH_enter 11 (by kernel_rfl) rfl (by rfl) (f := 16) (args := AA) ?_ hcc ?_
        · subst hA; simp [go_sem]
        clear hcc hA
        rintro e z2 ⟨P2, rfl, hdk, hm, hgr⟩
        have HI2 : Hid (DdI Dk w g gr m 0 P2 (loadD b) (.slice va na ca) (.slice none 0 0) z2) := HI1.out.act hdk hm hgr
        replace hS : Mut P y0 z2 := hS.trans HG1.out.old hm
        have HG2 : Hid (Grew y0 P P2) := HG1.out.trans hsz1 hgr
        refine ⟨_, rfl, hS, ?_⟩
        clear hdk hm hgr
        simp only [Act.put, List.getElem_toArray, List.getElem_cons_succ, List.getElem_cons_zero, List.setIfInBounds_toArray, List.set_cons_zero, List.set_cons_succ]
        refine wpAnyH_take (i := 15) (v := .bool false) rfl (by kernel_rfl) (by kernel_rfl) (by kernel_rfl) (fun _ _ _ h => h) (Or.inl ⟨by rfl, fun wx hx => by simp [go_sem]⟩) hS ?_
        simp only [Act.put, List.getElem_toArray, List.getElem_cons_succ, List.getElem_cons_zero, List.setIfInBounds_toArray, List.set_cons_zero, List.set_cons_succ]
        refine wpAnyH_take (i := 16) (v := .bool false) rfl (by kernel_rfl) (by kernel_rfl) (by kernel_rfl) (fun _ _ _ h => h) (Or.inl ⟨by rfl, fun wx hx => by simp [go_sem]⟩) hS ?_
        simp only [Act.put, List.getElem_toArray, List.getElem_cons_succ, List.getElem_cons_zero, List.setIfInBounds_toArray, List.set_cons_zero, List.set_cons_succ]
        refine wpAnyH_take (i := 17) (v := .bool false) rfl (by kernel_rfl) (by kernel_rfl) (by kernel_rfl) (fun _ _ _ h => h) (Or.inl ⟨by rfl, fun wx hx => by simp [go_sem]⟩) hS ?_
        simp only [Act.put, List.getElem_toArray, List.getElem_cons_succ, List.getElem_cons_zero, List.setIfInBounds_toArray, List.set_cons_zero, List.set_cons_succ]
        refine wpAnyH_take (i := 18) (v := .pointer (some ⟨g, 0, none⟩)) rfl (by kernel_rfl) (by kernel_rfl) (by kernel_rfl) (fun _ _ _ h => h) (Or.inl ⟨by rfl, fun wx hx => by simp [go_sem]⟩) hS ?_
        simp only [Act.put, List.getElem_toArray, List.getElem_cons_succ, List.getElem_cons_zero, List.setIfInBounds_toArray, List.set_cons_zero, List.set_cons_succ]
        have hcc := HPN.out z2 _ _ HI2.out.dk
        generalize hA : (#[.pointer (some ⟨g, 0, none⟩)] : Array Value) = AA at hcc
        refine wpAnyH_enter 19 (by kernel_rfl) rfl (by rfl) (f := 12) (args := AA) ?_ hcc ?_
        · subst hA; simp [go_sem]
        clear hcc hA
        rintro e z3 ⟨P3, rfl, hdk, hm, hgr⟩
        have HI3 : Hid (DdI Dk w g gr m 0 P3 (loadD b) (.slice va na ca) (.slice none 0 0) z3) := HI2.out.act hdk hm hgr
        replace hS : Mut P y0 z3 := hS.trans HG2.out.old hm
        refine ⟨_, rfl, hS, ?_⟩
        clear hdk hm hgr
        simp only [Act.put, List.getElem_toArray, List.getElem_cons_succ, List.getElem_cons_zero, List.setIfInBounds_toArray, List.set_cons_zero, List.set_cons_succ]
        refine wpAnyH_take (i := 20) (v := .bool false) rfl (by kernel_rfl) (by kernel_rfl) (by kernel_rfl) (fun _ _ _ h => h) (Or.inl ⟨by rfl, fun wx hx => by simp [go_sem]⟩) hS ?_
        simp only [Act.put, List.getElem_toArray, List.getElem_cons_succ, List.getElem_cons_zero, List.setIfInBounds_toArray, List.set_cons_zero, List.set_cons_succ]
        refine wpAnyH_take (i := 21) (v := .bool false) rfl (by kernel_rfl) (by kernel_rfl) (by kernel_rfl) (fun _ _ _ h => h) (Or.inl ⟨by rfl, fun wx hx => by simp [go_sem]⟩) hS ?_
        simp only [Act.put, List.getElem_toArray, List.getElem_cons_succ, List.getElem_cons_zero, List.setIfInBounds_toArray, List.set_cons_zero, List.set_cons_succ]
        refine wpAnyH_take (i := 22) (v := .bool false) rfl (by kernel_rfl) (by kernel_rfl) (by kernel_rfl) (fun _ _ _ h => h) (Or.inl ⟨by rfl, fun wx hx => by simp [go_sem]⟩) hS ?_
        simp only [Act.put, List.getElem_toArray, List.getElem_cons_succ, List.getElem_cons_zero, List.setIfInBounds_toArray, List.set_cons_zero, List.set_cons_succ]
        refine wpAnyH_done (by kernel_rfl) ?_ _
        go_wp2
        go_meet
        case rel => exact ⟨rfl, HI3.out.bel⟩
      case rest =>
        obtain ⟨rfl, hbw⟩ := hcut
        clear HI HDK HPW HRS HRX HR HBW
        have HBW : Hid (Below w.heap.size w wc) := hbw
        clear hbw
        have tk60 : Hid True := trivial
        have tk61 : Hid True := trivial
        go_wp2_with (first
          | (clear tk60; go_at_call 19; refine (OPS.newBad wc n HNB.out).mono ?_; rintro e y61 ⟨rfl, hbz⟩
             replace HBW : Hid (Below w.heap.size w y61) := HBW.out.trans (hbz.mono HBW.out.size)
             clear hbz )
          | (clear tk61; go_at_call 10; refine (works13_any OPS y61).mono ?_; rintro e y62 ⟨rfl, hbz⟩
             replace HBW : Hid (Below w.heap.size w y62) := HBW.out.trans (hbz.mono HBW.out.size)
             clear hbz ))
        go_ret
        exact ⟨rfl, HBW.out⟩
    case neg =>
      by_cases hn3 : 16384 < n
      case pos =>
        have HNB : Hid (n < 1 ∨ 16384 < n) := Or.inr hn3
        have n3 : n > 300 := by omega
        have n4 : ¬ (n ≤ 16384) := by omega
        have n5 : n > 16384 := hn3
        clear hn1
        go_enter Try.func4, Try.ntmps4
        have tk0 : Hid True := trivial
        have tk1 : Hid True := trivial
        have tk2 : Hid True := trivial
        have tk3 : Hid True := trivial
        go_upto_region 7 with (first
          | (clear tk0; go_at_call 17; refine (LD.load w _ b m HRB.out HBM.out.1 HBM.out.2.1 HBM.out.2.2).mono ?_; rintro e0 y1 ⟨g, P, rfl, hdk, hbz, hpw⟩
             have HDK : Hid (Dk y1 g P (loadD b)) := hdk
             have HPW : Hid (∀ k, P k → w.heap.size ≤ k) := hpw
             replace HBW : Hid (Below w.heap.size w y1) := hbz
             clear hdk hpw hbz)
          | (clear tk1; go_at_call 18; refine (HRL.out y1 P HBW.out (fun k hk => OPS.lt HDK.out k hk)).mono ?_; rintro e0 y2 ⟨va, na, ca, rfl, hrs, hbz⟩
             replace HDK : Hid (Dk y2 g P (loadD b)) := OPS.same HDK.out hbz.size (fun k hk => hbz.block k (OPS.lt HDK.out k hk))
             replace HBW : Hid (Below w.heap.size w y2) := HBW.out.trans (hbz.mono HBW.out.size)
             have HRS : Hid (RdS P y2 (loadD b) (.slice va na ca) (.slice none 0 0)) := hrs
             clear hrs hbz)
          | (clear tk2; with_reducible refine wpSeq_allocRd ?_ ?_ ?_
             · rfl
             · rfl
             intro gr y3 nn
             have NP_gr : Hid (¬ P gr) := fun h => absurd (OPS.lt HDK.out gr h) (by have h2 := nn.ge; omega)
             have GE_gr : Hid (w.heap.size ≤ gr) := Nat.le_trans HBW.out.size nn.ge
             have HRX : Hid (RdS (Ext P [gr]) y2 (loadD b) (.slice va na ca) (.slice none 0 0)) := HRS.out.go (Mut.refl _ _) (fun k hk h => h.elim id (fun h => by rw [List.mem_singleton.1 h] at hk; have h2 := nn.ge; omega)))
          | (clear tk3; with_reducible refine wpSeq_storeRow 27 (.tmp 7) (.tmp 24) gr [.slice none 0 0, .slice none 0 0, .int .i64 0, .bool false] [.slice va na ca, .slice none 0 0, .int .i64 (-1), .bool false] ?_ ?_ ?_ ?_ ?_ ?_ ?_ ?_ ?_
             · exact nn.blk
             · rfl
             · exact info_rd _ _ _ _
             · exact one_rd _ _ _ _ _ _ _ _
             · rfl
             · rfl
             · rfl
             · rfl
             intro y4 hs
             have hbz := nn.below.trans (hs.only.below nn.ge nn.below.size)
             replace HDK : Hid (Dk y4 g P (loadD b)) := OPS.same HDK.out hbz.size (fun k hk => hbz.block k (OPS.lt HDK.out k hk))
             replace HRS : Hid (RdS P y4 (loadD b) (.slice va na ca) (.slice none 0 0)) := HRS.out.below hbz
             replace HBW : Hid (Below w.heap.size w y4) := HBW.out.trans (hbz.mono HBW.out.size)
             have HR : Hid (Blk y4 gr [.slice va na ca, .slice none 0 0, .int .i64 (-1), .bool false] 27) := hs.blk
             replace HRX : Hid (RdS (Ext P [gr]) y4 (loadD b) (.slice va na ca) (.slice none 0 0)) := HRX.out.below hbz
             clear nn hs hbz))
        have HI : Hid (DdI Dk w g gr m 0 P (loadD b) (.slice va na ca) (.slice none 0 0) y4) := ⟨HBW.out, HDK.out, HPW.out, HR.out, HRX.out, NP_gr.out, GE_gr.out, Nat.le_refl _, HSZ0.out⟩
        go_cut [58] from 59 to 89 (fun c W => c = .bool false ∧ Below w.heap.size w W)
        case first =>
          refine wp_region_held_drew (S := Mut P (World.drew y4)) (by kernel_rfl) (Mut.refl _ _) ?_
          intro hS
          replace HI : Hid (DdI Dk w g gr m 0 P (loadD b) (.slice va na ca) (.slice none 0 0) (World.drew y4)) := HI.out.drew OPS
          clear HDK HPW HRS HRX HR
          change wpAnyH _ _ _ _ _ _ _ _ (World.drew y4)
          generalize World.drew y4 = y0 at *
          try simp only [Act.put, List.setIfInBounds_toArray, List.set_cons_zero, List.set_cons_succ]
          refine wpAnyH_take (i := 0) (v := .pointer (some ⟨g, 0, none⟩)) rfl (by kernel_rfl) (by kernel_rfl) (by kernel_rfl) (fun _ _ _ h => h) (Or.inl ⟨by rfl, fun wx hx => by simp [go_sem]⟩) hS ?_
          simp only [Act.put, List.getElem_toArray, List.getElem_cons_zero, List.setIfInBounds_toArray, List.set_cons_zero, List.set_cons_succ]
          refine wpAnyH_take (i := 1) (v := .bool true) rfl (by kernel_rfl) (by kernel_rfl) (by kernel_rfl) (fun _ _ _ h => h) (Or.inl ⟨by rfl, fun wx hx => by simp [go_sem]⟩) hS ?_
          simp only [Act.put, List.getElem_toArray, List.getElem_cons_succ, List.getElem_cons_zero, List.setIfInBounds_toArray, List.set_cons_zero, List.set_cons_succ]
          refine wpAnyH_take (i := 2) (v := .bool true) rfl (by kernel_rfl) (by kernel_rfl) (by kernel_rfl) (fun _ _ _ h => h) (Or.inl ⟨by rfl, fun wx hx => by simp [go_sem]⟩) hS ?_
          simp only [Act.put, List.getElem_toArray, List.getElem_cons_succ, List.getElem_cons_zero, List.setIfInBounds_toArray, List.set_cons_zero, List.set_cons_succ]
          refine wpAnyH_take (i := 3) (v := .pointer (some ⟨g, 0, none⟩)) rfl (by kernel_rfl) (by kernel_rfl) (by kernel_rfl) (fun _ _ _ h => h) (Or.inl ⟨by rfl, fun wx hx => by simp [go_sem]⟩) hS ?_
          simp only [Act.put, List.getElem_toArray, List.getElem_cons_succ, List.getElem_cons_zero, List.setIfInBounds_toArray, List.set_cons_zero, List.set_cons_succ]
          refine wpAnyH_take (i := 5) (v := .pointer (some ⟨gr, 0, none⟩)) rfl (by kernel_rfl) (by kernel_rfl) (by kernel_rfl) (fun _ _ _ h => h) (Or.inl ⟨by rfl, fun wx hx => by simp [go_sem]⟩) hS ?_
          simp only [Act.put, List.getElem_toArray, List.getElem_cons_succ, List.getElem_cons_zero, List.setIfInBounds_toArray, List.set_cons_zero, List.set_cons_succ]
          refine wpAnyH_take (i := 6) (v := .slice va na ca) rfl (by kernel_rfl) (by kernel_rfl) (by kernel_rfl) (fun _ _ _ h => h) (Or.inl ⟨by rfl, fun wx hx => by (have hc : wx.cell? ⟨gr, 0, none⟩ = some (.slice va na ca) := (hx.blk HI.out.rr HI.out.np).cell 0); simp [go_sem, hc]⟩) hS ?_
          simp only [Act.put, List.getElem_toArray, List.getElem_cons_succ, List.getElem_cons_zero, List.setIfInBounds_toArray, List.set_cons_zero, List.set_cons_succ]
          have hcc := HDM.out y0 _ _ HI.out.dk
          generalize hA : (#[.pointer (some ⟨g, 0, none⟩)] : Array Value) = AA at hcc
          refine wpAnyH_enter 4 (by kernel_rfl) rfl (by rfl) (f := 14) (args := AA) ?_ hcc ?_
          · subst hA; simp [go_sem]
          clear hcc hA
          rintro e z1 ⟨P1, da, dl, dc, rfl, hrd, hdk, hm, hgr⟩
          have HI1 : Hid (DdI Dk w g gr m 0 P1 (loadD b) (.slice va na ca) (.slice none 0 0) z1) := HI.out.act hdk hm hgr
          replace hS : Mut P y0 z1 := hm
          have HG1 : Hid (Grew y0 P P1) := hgr
          have HRD : Hid (Reads z1 (.slice da dl dc) b) := hrd
          clear hrd
          refine ⟨_, rfl, hS, ?_⟩
          clear hdk hm hgr
          simp only [Act.put, List.getElem_toArray, List.getElem_cons_succ, List.getElem_cons_zero, List.setIfInBounds_toArray, List.set_cons_zero, List.set_cons_succ]
          refine wpAnyH_enter 7 (by kernel_rfl) rfl (by rfl) (f := 13) (args := #[.slice da dl dc, .slice va na ca]) (by simp [go_sem]) (same_self _ _ b z1 HRD.out HI1.out.rs.sf.now) ?_
          rintro e z0 ⟨rfl, rfl⟩
          refine ⟨_, rfl, hS, ?_⟩
          simp only [Act.put, List.getElem_toArray, List.getElem_cons_succ, List.getElem_cons_zero, List.setIfInBounds_toArray, List.set_cons_zero, List.set_cons_succ]
          refine wpAnyH_take (i := 8) (v := .bool false) rfl (by kernel_rfl) (by kernel_rfl) (by kernel_rfl) (fun _ _ _ h => h) (Or.inl ⟨by rfl, fun wx hx => by simp [go_sem]⟩) hS ?_
          simp only [Act.put, List.getElem_toArray, List.getElem_cons_succ, List.getElem_cons_zero, List.setIfInBounds_toArray, List.set_cons_zero, List.set_cons_succ]
          refine wpAnyH_take (i := 9) (v := .bool false) rfl (by kernel_rfl) (by kernel_rfl) (by kernel_rfl) (fun _ _ _ h => h) (Or.inl ⟨by rfl, fun wx hx => by simp [go_sem]⟩) hS ?_
          simp only [Act.put, List.getElem_toArray, List.getElem_cons_succ, List.getElem_cons_zero, List.setIfInBounds_toArray, List.set_cons_zero, List.set_cons_succ]
          refine wpAnyH_take (i := 10) (v := .pointer (some ⟨g, 0, none⟩)) rfl (by kernel_rfl) (by kernel_rfl) (by kernel_rfl) (fun _ _ _ h => h) (Or.inl ⟨by rfl, fun wx hx => by simp [go_sem]⟩) hS ?_
          simp only [Act.put, List.getElem_toArray, List.getElem_cons_succ, List.getElem_cons_zero, List.setIfInBounds_toArray, List.set_cons_zero, List.set_cons_succ]
          refine wpAnyH_take (i := 12) (v := .slice ab L cb2) rfl (by kernel_rfl) (by kernel_rfl) (by kernel_rfl) (fun _ _ _ h => h) (Or.inl ⟨by rfl, fun wx hx => by simp [go_sem]⟩) hS ?_
          simp only [Act.put, List.getElem_toArray, List.getElem_cons_succ, List.getElem_cons_zero, List.setIfInBounds_toArray, List.set_cons_zero, List.set_cons_succ]
          refine wpAnyH_take (i := 13) (v := .int .i64 (L : Int)) rfl (by kernel_rfl) (by kernel_rfl) (by kernel_rfl) (fun _ _ _ h => h) (Or.inl ⟨by rfl, fun wx hx => by simp [go_sem]⟩) hS ?_
          simp only [Act.put, List.getElem_toArray, List.getElem_cons_succ, List.getElem_cons_zero, List.setIfInBounds_toArray, List.set_cons_zero, List.set_cons_succ]
          refine wpAnyH_take (i := 14) (v := .int .i64 (m : Int)) rfl (by kernel_rfl) (by kernel_rfl) (by kernel_rfl) (fun _ _ _ h => h) (Or.inl ⟨by rfl, fun wx hx => by simp [go_sem, hq, fq]⟩) hS ?_
          simp only [Act.put, List.getElem_toArray, List.getElem_cons_succ, List.getElem_cons_zero, List.setIfInBounds_toArray, List.set_cons_zero, List.set_cons_succ]
          have hsz1 : y0.heap.size ≤ z0.heap.size := hS.size
          have hcc := HSZ.out z0 _ _ HI1.out.dk
          generalize hA : (#[.pointer (some ⟨g, 0, none⟩)] : Array Value) = AA at hcc
          refine wpAnyH_enter 11 (by kernel_rfl) rfl (by rfl) (f := 16) (args := AA) ?_ hcc ?_
          · subst hA; simp [go_sem]
          clear hcc hA
          rintro e z2 ⟨P2, rfl, hdk, hm, hgr⟩
          have HI2 : Hid (DdI Dk w g gr m 0 P2 (loadD b) (.slice va na ca) (.slice none 0 0) z2) := HI1.out.act hdk hm hgr
          replace hS : Mut P y0 z2 := hS.trans HG1.out.old hm
          have HG2 : Hid (Grew y0 P P2) := HG1.out.trans hsz1 hgr
          refine ⟨_, rfl, hS, ?_⟩
          clear hdk hm hgr
          simp only [Act.put, List.getElem_toArray, List.getElem_cons_succ, List.getElem_cons_zero, List.setIfInBounds_toArray, List.set_cons_zero, List.set_cons_succ]
          refine wpAnyH_take (i := 15) (v := .bool false) rfl (by kernel_rfl) (by kernel_rfl) (by kernel_rfl) (fun _ _ _ h => h) (Or.inl ⟨by rfl, fun wx hx => by simp [go_sem]⟩) hS ?_
          simp only [Act.put, List.getElem_toArray, List.getElem_cons_succ, List.getElem_cons_zero, List.setIfInBounds_toArray, List.set_cons_zero, List.set_cons_succ]
          refine wpAnyH_take (i := 16) (v := .bool false) rfl (by kernel_rfl) (by kernel_rfl) (by kernel_rfl) (fun _ _ _ h => h) (Or.inl ⟨by rfl, fun wx hx => by simp [go_sem]⟩) hS ?_
          simp only [Act.put, List.getElem_toArray, List.getElem_cons_succ, List.getElem_cons_zero, List.setIfInBounds_toArray, List.set_cons_zero, List.set_cons_succ]
          refine wpAnyH_take (i := 17) (v := .bool false) rfl (by kernel_rfl) (by kernel_rfl) (by kernel_rfl) (fun _ _ _ h => h) (Or.inl ⟨by rfl, fun wx hx => by simp [go_sem]⟩) hS ?_
          simp only [Act.put, List.getElem_toArray, List.getElem_cons_succ, List.getElem_cons_zero, List.setIfInBounds_toArray, List.set_cons_zero, List.set_cons_succ]
          refine wpAnyH_take (i := 18) (v := .pointer (some ⟨g, 0, none⟩)) rfl (by kernel_rfl) (by kernel_rfl) (by kernel_rfl) (fun _ _ _ h => h) (Or.inl ⟨by rfl, fun wx hx => by simp [go_sem]⟩) hS ?_
          simp only [Act.put, List.getElem_toArray, List.getElem_cons_succ, List.getElem_cons_zero, List.setIfInBounds_toArray, List.set_cons_zero, List.set_cons_succ]
          have hcc := HPN.out z2 _ _ HI2.out.dk
          generalize hA : (#[.pointer (some ⟨g, 0, none⟩)] : Array Value) = AA at hcc
          refine wpAnyH_enter 19 (by kernel_rfl) rfl (by rfl) (f := 12) (args := AA) ?_ hcc ?_
          · subst hA; simp [go_sem]
          clear hcc hA
          rintro e z3 ⟨P3, rfl, hdk, hm, hgr⟩
          have HI3 : Hid (DdI Dk w g gr m 0 P3 (loadD b) (.slice va na ca) (.slice none 0 0) z3) := HI2.out.act hdk hm hgr
          replace hS : Mut P y0 z3 := hS.trans HG2.out.old hm
          refine ⟨_, rfl, hS, ?_⟩
          clear hdk hm hgr
          simp only [Act.put, List.getElem_toArray, List.getElem_cons_succ, List.getElem_cons_zero, List.setIfInBounds_toArray, List.set_cons_zero, List.set_cons_succ]
          refine wpAnyH_take (i := 20) (v := .bool false) rfl (by kernel_rfl) (by kernel_rfl) (by kernel_rfl) (fun _ _ _ h => h) (Or.inl ⟨by rfl, fun wx hx => by simp [go_sem]⟩) hS ?_
          simp only [Act.put, List.getElem_toArray, List.getElem_cons_succ, List.getElem_cons_zero, List.setIfInBounds_toArray, List.set_cons_zero, List.set_cons_succ]
          refine wpAnyH_take (i := 21) (v := .bool false) rfl (by kernel_rfl) (by kernel_rfl) (by kernel_rfl) (fun _ _ _ h => h) (Or.inl ⟨by rfl, fun wx hx => by simp [go_sem]⟩) hS ?_
          simp only [Act.put, List.getElem_toArray, List.getElem_cons_succ, List.getElem_cons_zero, List.setIfInBounds_toArray, List.set_cons_zero, List.set_cons_succ]
          refine wpAnyH_take (i := 22) (v := .bool false) rfl (by kernel_rfl) (by kernel_rfl) (by kernel_rfl) (fun _ _ _ h => h) (Or.inl ⟨by rfl, fun wx hx => by simp [go_sem]⟩) hS ?_
          simp only [Act.put, List.getElem_toArray, List.getElem_cons_succ, List.getElem_cons_zero, List.setIfInBounds_toArray, List.set_cons_zero, List.set_cons_succ]
          refine wpAnyH_done (by kernel_rfl) ?_ _
          go_wp2
          go_meet
          case rel => exact ⟨rfl, HI3.out.bel⟩
        case rest =>
          obtain ⟨rfl, hbw⟩ := hcut
          clear HI HDK HPW HRS HRX HR HBW
          have HBW : Hid (Below w.heap.size w wc) := hbw
          clear hbw
          have tk60 : Hid True := trivial
          have tk61 : Hid True := trivial
          go_wp2_with (first
            | (clear tk60; go_at_call 19; refine (OPS.newBad wc n HNB.out).mono ?_; rintro e y61 ⟨rfl, hbz⟩
               replace HBW : Hid (Below w.heap.size w y61) := HBW.out.trans (hbz.mono HBW.out.size)
               clear hbz )
            | (clear tk61; go_at_call 10; refine (works13_any OPS y61).mono ?_; rintro e y62 ⟨rfl, hbz⟩
               replace HBW : Hid (Below w.heap.size w y62) := HBW.out.trans (hbz.mono HBW.out.size)
               clear hbz ))
          go_ret
          exact ⟨rfl, HBW.out⟩
      case neg =>
        obtain ⟨nn1, rfl⟩ : ∃ m : Nat, n = (m : Int) := ⟨n.toNat, by omega⟩
        have HNG : Hid (1 ≤ nn1 ∧ nn1 ≤ 300) := ⟨by omega, by omega⟩
        have n3 : ¬ ((nn1 : Int) > 300) := by have h := HNG.out; omega
        have n5 : ¬ ((nn1 : Int) > 16384) := by have h := HNG.out; omega
        clear hn1
        go_enter Try.func4, Try.ntmps4
        have tk0 : Hid True := trivial
        have tk1 : Hid True := trivial
        have tk2 : Hid True := trivial
        have tk3 : Hid True := trivial
        go_upto_region 7 with (first
          | (clear tk0; go_at_call 17; refine (LD.load w _ b m HRB.out HBM.out.1 HBM.out.2.1 HBM.out.2.2).mono ?_; rintro e0 y1 ⟨g, P, rfl, hdk, hbz, hpw⟩
             have HDK : Hid (Dk y1 g P (loadD b)) := hdk
             have HPW : Hid (∀ k, P k → w.heap.size ≤ k) := hpw
             replace HBW : Hid (Below w.heap.size w y1) := hbz
             clear hdk hpw hbz)
          | (clear tk1; go_at_call 18; refine (HRL.out y1 P HBW.out (fun k hk => OPS.lt HDK.out k hk)).mono ?_; rintro e0 y2 ⟨va, na, ca, rfl, hrs, hbz⟩
             replace HDK : Hid (Dk y2 g P (loadD b)) := OPS.same HDK.out hbz.size (fun k hk => hbz.block k (OPS.lt HDK.out k hk))
             replace HBW : Hid (Below w.heap.size w y2) := HBW.out.trans (hbz.mono HBW.out.size)
             have HRS : Hid (RdS P y2 (loadD b) (.slice va na ca) (.slice none 0 0)) := hrs
             clear hrs hbz)
          | (clear tk2; with_reducible refine wpSeq_allocRd ?_ ?_ ?_
             · rfl
             · rfl
             intro gr y3 nn
             have NP_gr : Hid (¬ P gr) := fun h => absurd (OPS.lt HDK.out gr h) (by have h2 := nn.ge; omega)
             have GE_gr : Hid (w.heap.size ≤ gr) := Nat.le_trans HBW.out.size nn.ge
             have HRX : Hid (RdS (Ext P [gr]) y2 (loadD b) (.slice va na ca) (.slice none 0 0)) := HRS.out.go (Mut.refl _ _) (fun k hk h => h.elim id (fun h => by rw [List.mem_singleton.1 h] at hk; have h2 := nn.ge; omega)))
          | (clear tk3; with_reducible refine wpSeq_storeRow 27 (.tmp 7) (.tmp 24) gr [.slice none 0 0, .slice none 0 0, .int .i64 0, .bool false] [.slice va na ca, .slice none 0 0, .int .i64 (-1), .bool false] ?_ ?_ ?_ ?_ ?_ ?_ ?_ ?_ ?_
             · exact nn.blk
             · rfl
             · exact info_rd _ _ _ _
             · exact one_rd _ _ _ _ _ _ _ _
             · rfl
             · rfl
             · rfl
             · rfl
             intro y4 hs
             have hbz := nn.below.trans (hs.only.below nn.ge nn.below.size)
             replace HDK : Hid (Dk y4 g P (loadD b)) := OPS.same HDK.out hbz.size (fun k hk => hbz.block k (OPS.lt HDK.out k hk))
             replace HRS : Hid (RdS P y4 (loadD b) (.slice va na ca) (.slice none 0 0)) := HRS.out.below hbz
             replace HBW : Hid (Below w.heap.size w y4) := HBW.out.trans (hbz.mono HBW.out.size)
             have HR : Hid (Blk y4 gr [.slice va na ca, .slice none 0 0, .int .i64 (-1), .bool false] 27) := hs.blk
             replace HRX : Hid (RdS (Ext P [gr]) y4 (loadD b) (.slice va na ca) (.slice none 0 0)) := HRX.out.below hbz
             clear nn hs hbz))
        have HI : Hid (DdI Dk w g gr m 0 P (loadD b) (.slice va na ca) (.slice none 0 0) y4) := ⟨HBW.out, HDK.out, HPW.out, HR.out, HRX.out, NP_gr.out, GE_gr.out, Nat.le_refl _, HSZ0.out⟩
        go_cut [58] from 59 to 89 (fun c W => c = .bool false ∧ Below w.heap.size w W)
        case first =>
          refine wp_region_held_drew (S := Mut P (World.drew y4)) (by kernel_rfl) (Mut.refl _ _) ?_
          intro hS
          replace HI : Hid (DdI Dk w g gr m 0 P (loadD b) (.slice va na ca) (.slice none 0 0) (World.drew y4)) := HI.out.drew OPS
          clear HDK HPW HRS HRX HR
          change wpAnyH _ _ _ _ _ _ _ _ (World.drew y4)
          generalize World.drew y4 = y0 at *
          try simp only [Act.put, List.setIfInBounds_toArray, List.set_cons_zero, List.set_cons_succ]
          refine wpAnyH_take (i := 0) (v := .pointer (some ⟨g, 0, none⟩)) rfl (by kernel_rfl) (by kernel_rfl) (by kernel_rfl) (fun _ _ _ h => h) (Or.inl ⟨by rfl, fun wx hx => by simp [go_sem]⟩) hS ?_
          simp only [Act.put, List.getElem_toArray, List.getElem_cons_zero, List.setIfInBounds_toArray, List.set_cons_zero, List.set_cons_succ]
          refine wpAnyH_take (i := 1) (v := .bool true) rfl (by kernel_rfl) (by kernel_rfl) (by kernel_rfl) (fun _ _ _ h => h) (Or.inl ⟨by rfl, fun wx hx => by simp [go_sem]⟩) hS ?_
          simp only [Act.put, List.getElem_toArray, List.getElem_cons_succ, List.getElem_cons_zero, List.setIfInBounds_toArray, List.set_cons_zero, List.set_cons_succ]
          refine wpAnyH_take (i := 2) (v := .bool true) rfl (by kernel_rfl) (by kernel_rfl) (by kernel_rfl) (fun _ _ _ h => h) (Or.inl ⟨by rfl, fun wx hx => by simp [go_sem]⟩) hS ?_
          simp only [Act.put, List.getElem_toArray, List.getElem_cons_succ, List.getElem_cons_zero, List.setIfInBounds_toArray, List.set_cons_zero, List.set_cons_succ]
          refine wpAnyH_take (i := 3) (v := .pointer (some ⟨g, 0, none⟩)) rfl (by kernel_rfl) (by kernel_rfl) (by kernel_rfl) (fun _ _ _ h => h) (Or.inl ⟨by rfl, fun wx hx => by simp [go_sem]⟩) hS ?_
          simp only [Act.put, List.getElem_toArray, List.getElem_cons_succ, List.getElem_cons_zero, List.setIfInBounds_toArray, List.set_cons_zero, List.set_cons_succ]
          refine wpAnyH_take (i := 5) (v := .pointer (some ⟨gr, 0, none⟩)) rfl (by kernel_rfl) (by kernel_rfl) (by kernel_rfl) (fun _ _ _ h => h) (Or.inl ⟨by rfl, fun wx hx => by simp [go_sem]⟩) hS ?_
          simp only [Act.put, List.getElem_toArray, List.getElem_cons_succ, List.getElem_cons_zero, List.setIfInBounds_toArray, List.set_cons_zero, List.set_cons_succ]
          refine wpAnyH_take (i := 6) (v := .slice va na ca) rfl (by kernel_rfl) (by kernel_rfl) (by kernel_rfl) (fun _ _ _ h => h) (Or.inl ⟨by rfl, fun wx hx => by (have hc : wx.cell? ⟨gr, 0, none⟩ = some (.slice va na ca) := (hx.blk HI.out.rr HI.out.np).cell 0); simp [go_sem, hc]⟩) hS ?_
          simp only [Act.put, List.getElem_toArray, List.getElem_cons_succ, List.getElem_cons_zero, List.setIfInBounds_toArray, List.set_cons_zero, List.set_cons_succ]
          have hcc := HDM.out y0 _ _ HI.out.dk
          generalize hA : (#[.pointer (some ⟨g, 0, none⟩)] : Array Value) = AA at hcc
          refine wpAnyH_enter 4 (by kernel_rfl) rfl (by rfl) (f := 14) (args := AA) ?_ hcc ?_
          · subst hA; simp [go_sem]
          clear hcc hA
          rintro e z1 ⟨P1, da, dl, dc, rfl, hrd, hdk, hm, hgr⟩
          have HI1 : Hid (DdI Dk w g gr m 0 P1 (loadD b) (.slice va na ca) (.slice none 0 0) z1) := HI.out.act hdk hm hgr
          replace hS : Mut P y0 z1 := hm
          have HG1 : Hid (Grew y0 P P1) := hgr
          have HRD : Hid (Reads z1 (.slice da dl dc) b) := hrd
          clear hrd
          refine ⟨_, rfl, hS, ?_⟩
          clear hdk hm hgr
          simp only [Act.put, List.getElem_toArray, List.getElem_cons_succ, List.getElem_cons_zero, List.setIfInBounds_toArray, List.set_cons_zero, List.set_cons_succ]
          refine wpAnyH_enter 7 (by kernel_rfl) rfl (by rfl) (f := 13) (args := #[.slice da dl dc, .slice va na ca]) (by simp [go_sem]) (same_self _ _ b z1 HRD.out HI1.out.rs.sf.now) ?_
          rintro e z0 ⟨rfl, rfl⟩
          refine ⟨_, rfl, hS, ?_⟩
          simp only [Act.put, List.getElem_toArray, List.getElem_cons_succ, List.getElem_cons_zero, List.setIfInBounds_toArray, List.set_cons_zero, List.set_cons_succ]
          refine wpAnyH_take (i := 8) (v := .bool false) rfl (by kernel_rfl) (by kernel_rfl) (by kernel_rfl) (fun _ _ _ h => h) (Or.inl ⟨by rfl, fun wx hx => by simp [go_sem]⟩) hS ?_
          simp only [Act.put, List.getElem_toArray, List.getElem_cons_succ, List.getElem_cons_zero, List.setIfInBounds_toArray, List.set_cons_zero, List.set_cons_succ]
          refine wpAnyH_take (i := 9) (v := .bool false) rfl (by kernel_rfl) (by kernel_rfl) (by kernel_rfl) (fun _ _ _ h => h) (Or.inl ⟨by rfl, fun wx hx => by simp [go_sem]⟩) hS ?_
          simp only [Act.put, List.getElem_toArray, List.getElem_cons_succ, List.getElem_cons_zero, List.setIfInBounds_toArray, List.set_cons_zero, List.set_cons_succ]
          refine wpAnyH_take (i := 10) (v := .pointer (some ⟨g, 0, none⟩)) rfl (by kernel_rfl) (by kernel_rfl) (by kernel_rfl) (fun _ _ _ h => h) (Or.inl ⟨by rfl, fun wx hx => by simp [go_sem]⟩) hS ?_
          simp only [Act.put, List.getElem_toArray, List.getElem_cons_succ, List.getElem_cons_zero, List.setIfInBounds_toArray, List.set_cons_zero, List.set_cons_succ]
          refine wpAnyH_take (i := 12) (v := .slice ab L cb2) rfl (by kernel_rfl) (by kernel_rfl) (by kernel_rfl) (fun _ _ _ h => h) (Or.inl ⟨by rfl, fun wx hx => by simp [go_sem]⟩) hS ?_
          simp only [Act.put, List.getElem_toArray, List.getElem_cons_succ, List.getElem_cons_zero, List.setIfInBounds_toArray, List.set_cons_zero, List.set_cons_succ]
          refine wpAnyH_take (i := 13) (v := .int .i64 (L : Int)) rfl (by kernel_rfl) (by kernel_rfl) (by kernel_rfl) (fun _ _ _ h => h) (Or.inl ⟨by rfl, fun wx hx => by simp [go_sem]⟩) hS ?_
          simp only [Act.put, List.getElem_toArray, List.getElem_cons_succ, List.getElem_cons_zero, List.setIfInBounds_toArray, List.set_cons_zero, List.set_cons_succ]
          refine wpAnyH_take (i := 14) (v := .int .i64 (m : Int)) rfl (by kernel_rfl) (by kernel_rfl) (by kernel_rfl) (fun _ _ _ h => h) (Or.inl ⟨by rfl, fun wx hx => by simp [go_sem, hq, fq]⟩) hS ?_
          simp only [Act.put, List.getElem_toArray, List.getElem_cons_succ, List.getElem_cons_zero, List.setIfInBounds_toArray, List.set_cons_zero, List.set_cons_succ]
          have hsz1 : y0.heap.size ≤ z0.heap.size := hS.size
          have hcc := HSZ.out z0 _ _ HI1.out.dk
          generalize hA : (#[.pointer (some ⟨g, 0, none⟩)] : Array Value) = AA at hcc
          refine wpAnyH_enter 11 (by kernel_rfl) rfl (by rfl) (f := 16) (args := AA) ?_ hcc ?_
          · subst hA; simp [go_sem]
          clear hcc hA
          rintro e z2 ⟨P2, rfl, hdk, hm, hgr⟩
          have HI2 : Hid (DdI Dk w g gr m 0 P2 (loadD b) (.slice va na ca) (.slice none 0 0) z2) := HI1.out.act hdk hm hgr
          replace hS : Mut P y0 z2 := hS.trans HG1.out.old hm
          have HG2 : Hid (Grew y0 P P2) := HG1.out.trans hsz1 hgr
          refine ⟨_, rfl, hS, ?_⟩
          clear hdk hm hgr
          simp only [Act.put, List.getElem_toArray, List.getElem_cons_succ, List.getElem_cons_zero, List.setIfInBounds_toArray, List.set_cons_zero, List.set_cons_succ]
          refine wpAnyH_take (i := 15) (v := .bool false) rfl (by kernel_rfl) (by kernel_rfl) (by kernel_rfl) (fun _ _ _ h => h) (Or.inl ⟨by rfl, fun wx hx => by simp [go_sem]⟩) hS ?_
          simp only [Act.put, List.getElem_toArray, List.getElem_cons_succ, List.getElem_cons_zero, List.setIfInBounds_toArray, List.set_cons_zero, List.set_cons_succ]
          refine wpAnyH_take (i := 16) (v := .bool false) rfl (by kernel_rfl) (by kernel_rfl) (by kernel_rfl) (fun _ _ _ h => h) (Or.inl ⟨by rfl, fun wx hx => by simp [go_sem]⟩) hS ?_
          simp only [Act.put, List.getElem_toArray, List.getElem_cons_succ, List.getElem_cons_zero, List.setIfInBounds_toArray, List.set_cons_zero, List.set_cons_succ]
          refine wpAnyH_take (i := 17) (v := .bool false) rfl (by kernel_rfl) (by kernel_rfl) (by kernel_rfl) (fun _ _ _ h => h) (Or.inl ⟨by rfl, fun wx hx => by simp [go_sem]⟩) hS ?_
          simp only [Act.put, List.getElem_toArray, List.getElem_cons_succ, List.getElem_cons_zero, List.setIfInBounds_toArray, List.set_cons_zero, List.set_cons_succ]
          refine wpAnyH_take (i := 18) (v := .pointer (some ⟨g, 0, none⟩)) rfl (by kernel_rfl) (by kernel_rfl) (by kernel_rfl) (fun _ _ _ h => h) (Or.inl ⟨by rfl, fun wx hx => by simp [go_sem]⟩) hS ?_
          simp only [Act.put, List.getElem_toArray, List.getElem_cons_succ, List.getElem_cons_zero, List.setIfInBounds_toArray, List.set_cons_zero, List.set_cons_succ]
          have hcc := HPN.out z2 _ _ HI2.out.dk
          generalize hA : (#[.pointer (some ⟨g, 0, none⟩)] : Array Value) = AA at hcc
          refine wpAnyH_enter 19 (by kernel_rfl) rfl (by rfl) (f := 12) (args := AA) ?_ hcc ?_
          · subst hA; simp [go_sem]
          clear hcc hA
          rintro e z3 ⟨P3, rfl, hdk, hm, hgr⟩
          have HI3 : Hid (DdI Dk w g gr m 0 P3 (loadD b) (.slice va na ca) (.slice none 0 0) z3) := HI2.out.act hdk hm hgr
          replace hS : Mut P y0 z3 := hS.trans HG2.out.old hm
          refine ⟨_, rfl, hS, ?_⟩
          clear hdk hm hgr
          simp only [Act.put, List.getElem_toArray, List.getElem_cons_succ, List.getElem_cons_zero, List.setIfInBounds_toArray, List.set_cons_zero, List.set_cons_succ]
          refine wpAnyH_take (i := 20) (v := .bool false) rfl (by kernel_rfl) (by kernel_rfl) (by kernel_rfl) (fun _ _ _ h => h) (Or.inl ⟨by rfl, fun wx hx => by simp [go_sem]⟩) hS ?_
          simp only [Act.put, List.getElem_toArray, List.getElem_cons_succ, List.getElem_cons_zero, List.setIfInBounds_toArray, List.set_cons_zero, List.set_cons_succ]
          refine wpAnyH_take (i := 21) (v := .bool false) rfl (by kernel_rfl) (by kernel_rfl) (by kernel_rfl) (fun _ _ _ h => h) (Or.inl ⟨by rfl, fun wx hx => by simp [go_sem]⟩) hS ?_
          simp only [Act.put, List.getElem_toArray, List.getElem_cons_succ, List.getElem_cons_zero, List.setIfInBounds_toArray, List.set_cons_zero, List.set_cons_succ]
          refine wpAnyH_take (i := 22) (v := .bool false) rfl (by kernel_rfl) (by kernel_rfl) (by kernel_rfl) (fun _ _ _ h => h) (Or.inl ⟨by rfl, fun wx hx => by simp [go_sem]⟩) hS ?_
          simp only [Act.put, List.getElem_toArray, List.getElem_cons_succ, List.getElem_cons_zero, List.setIfInBounds_toArray, List.set_cons_zero, List.set_cons_succ]
          refine wpAnyH_done (by kernel_rfl) ?_ _
          go_wp2
          go_meet
          case rel => exact ⟨rfl, HI3.out.bel⟩
        case rest =>
          obtain ⟨rfl, hbw⟩ := hcut
          clear HI HDK HPW HRS HRX HR HBW
          have HBW : Hid (Below w.heap.size w wc) := hbw
          clear hbw
          have tk60 : Hid True := trivial
          have tk61 : Hid True := trivial
          go_wp2_with (first
            | (clear tk60; go_at_call 19; refine (OPS.new wc nn1 HNG.out.1 HNG.out.2).mono ?_; rintro e0 y61 ⟨g2, Px, rfl, hdk2, hbz, hpw2⟩
               clear hdk2 hpw2
               replace HBW : Hid (Below w.heap.size w y61) := HBW.out.trans (hbz.mono HBW.out.size)
               clear hbz)
            | (clear tk61; go_at_call 10; refine (works13_any OPS y61).mono ?_; rintro e y62 ⟨rfl, hbz⟩
               replace HBW : Hid (Below w.heap.size w y62) := HBW.out.trans (hbz.mono HBW.out.size)
               clear hbz ))
          go_ret
          refine ⟨?_, HBW.out⟩
          show Ending.returned (Value.bool (!decide ((nn1 : Int) < 1) && !decide (16384 < (nn1 : Int)))) = _
          rw [decide_eq_false (by have h := HNG.out; omega), decide_eq_false (by have h := HNG.out; omega)]
          rfl
end Go.Proofs.Ytdllnedmhhajnaa

/- The walk of the statement ShaPieces. -/
import Derived.Test.YtngcdfhmgjmhkaaDoorRSum
import Derived.Test.YtngcdfhmgjmhkaaDoorLists
import Derived.Test.YtngcdfhmgjmhkaaDoorWorks
import Derived.Test.YtngcdfhmgjmhkaaDoorSumsWalk
import Derived.Deep.RegionWith
import Derived.Deep.CutRange
import Derived.Deep.DeepCutAuto
namespace Go.Proofs.YtngcdfhmgjmhkaaDoor
open Go.RowKit
theorem slice_upto (ba off n cap k : Nat) (h1 : k + 1 ≤ n) (h2 : n ≤ cap) (w : World) :
    (Instr.sliceAt 33 (.slice (some ⟨ba, off, none⟩) n cap) none (some (.int .i64 ((k : Int) + 1))) none).run Tryd.prog w = .ok (.slice (some ⟨ba, off, none⟩) (k + 1) cap) w := by
  have e1 : ((k : Int) + 1).toNat = k + 1 := by omega
  have hs : (sizeOf 22).run Tryd.prog w = .ok 1 w := by kernel_rfl
  rw [run_sliceAt_slice w 33 _ _ _ _ (by kernel_rfl), run_slice_h w 33 _ _ _ (by kernel_rfl) .i64 _ (by omega) (by omega)]
  rw [show Tryd.prog.elem 33 = 22 from by kernel_rfl, hs]
  simp only [Result.andThen_ok, sliced, e1, Nat.mul_one]
  first | rfl | simp [Addr.add_mid] | (rw [if_neg (by omega)]; simp [Addr.add_mid])
theorem ReadsL.take {w : World} {ad : Option Addr} {n cap k : Nat} {ls : List (List (BitVec 8))} (h : ReadsL w (.slice ad n cap) ls) (hk : k + 1 ≤ n) : ReadsL w (.slice ad (k + 1) cap) (ls.take (k + 1)) := by
  obtain ⟨ad', cap', hv, hc, hn, hx⟩ := h
  simp only [Value.slice.injEq] at hv
  obtain ⟨rfl, rfl, rfl⟩ := hv
  have hl : (ls.take (k + 1)).length = k + 1 := by simp; omega
  refine ⟨ad, cap, by rw [hl], by rw [hl]; omega, hn, fun _ => ?_⟩
  obtain ⟨b, off, h1, h2⟩ := hx (by omega)
  refine ⟨b, off, h1, fun j hj => ?_⟩
  rw [hl] at hj
  obtain ⟨vj, h3, h4⟩ := h2 j (by omega)
  refine ⟨vj, h3, ?_⟩
  have e : (ls.take (k + 1)).getD j [] = ls.getD j [] := by simp [List.getElem?_take_of_lt hj]
  rw [e]; exact h4
theorem wpAny_enter {P : Program} {md : Region.Mode} {ops : Array Oper} {Q : Exit → Act → World → Prop} {fuel : Nat} {listed : Array Bool} {a : Act} {w : World} (i : Nat) {oi : Oper} {f : FuncId} {args : Array Value} {R : Ending → World → Prop}
    (hr : Region.ready md ops listed = [i]) (hi : ops[i]? = some oi) (hw : Region.wanted oi (yielded ops a.tmps) = true) (he : (execOp a.eval oi).run P w = .ok (.enter f args) w) (hc : Calls P f args w R)
    (h : ∀ e w', R e w' → ∃ v, e = .returned v ∧ wpAny P md ops Q fuel (listed.setIfInBounds i true) (a.put oi.dst v) w') : wpAny P md ops Q (fuel + 1) listed a w := by
  refine wpAny_all hr (by simp) (fun j hj => ?_)
  obtain rfl : j = i := by simpa using hj
  unfold wpOp
  rw [hi]
  simp only [hw, if_true]
  left
  unfold Oper.wp
  rw [he, Oper.upon_enter]
  refine hc.mono ?_
  intro e w' hR
  obtain ⟨v, rfl, hv⟩ := h e w' hR
  exact hv
structure PcInv (w0 : World) (g : Nat) (m : List (BitVec 8)) (wr : World) : Prop where
  hash : HashIs 51 wr g m
  bel : Below w0.heap.size w0 wr
set_option maxHeartbeats 1000000 in
theorem pieces_any (v : Value) (ls : List (List (BitVec 8))) (w : World) (hK : KOk w) (hR : ReadsL w v ls) (hl : ls.flatten.length ≤ 140737488355328) (hn : ls.length < 4611686018427387904) :
    Calls Tryd.prog 5 #[v] w fun e w' => e = .returned (.bool true) ∧ Below w.heap.size w w' := by
  have HK : Hid (KOk w) := hK
  have HR : Hid (ReadsL w v ls) := hR
  obtain ⟨ad, cap, hv, hcap, _, _⟩ := hR
  obtain ⟨n, HNN⟩ : ∃ n, Hid (n = ls.length) := ⟨_, rfl⟩
  rw [← HNN.out] at hv hcap
  subst hv
  clear hK
  by_cases h200 : 200 < n
  · go_enter Tryd.func5, Tryd.ntmps5
    go_wp2_with (go_at_call 10; refine (works_any _ HK.out).mono ?_; rintro e w4 ⟨rfl, hb4⟩)
    go_ret
    exact ⟨rfl, hb4⟩
  · go_enter Tryd.func5, Tryd.ntmps5
    go_wp2_with fail
    refine (rjoin_any _ ls _ HR.out hl hn).mono ?_
    rintro e w1 ⟨v1, rfl, hr1, hb1⟩
    have HJ : Hid (Reads w1 v1 ls.flatten) := hr1
    have HB1 : Hid (Below w.heap.size w w1) := hb1
    clear hr1 hb1 hn hl
    by_cases hlong : 65536 < ls.flatten.length
    · go_wp2_with (first
        | (go_at_call 9; refine (long_any _ ls.flatten _ HJ.out).mono ?_; rintro e w2 ⟨rfl, rfl⟩; simp only [hlong, decide_true])
        | (go_at_call 10; refine (works_any _ (HK.out.below HB1.out HK.out.lt)).mono ?_; rintro e w4 ⟨rfl, hb4⟩))
      go_ret
      exact ⟨rfl, HB1.out.trans (hb4.mono HB1.out.size)⟩
    · go_wp2_with fail
      refine (long_any _ ls.flatten _ HJ.out).mono ?_
      rintro e w2 ⟨rfl, rfl⟩
      simp only [hlong, decide_false]
      have HL : Hid (ls.flatten.length ≤ 65536) := by show _ ≤ _; omega
      clear hlong HJ
      go_wp2_with fail
      refine (new_any _).mono ?_
      rintro e w3 ⟨g, rfl, hg, hh3, hb3⟩
      have HG : Hid (0 ≠ g ∧ w.heap.size ≤ g) := ⟨by have := HK.out.lt; have := HB1.out.size; omega, by have := HB1.out.size; omega⟩
      have hI : PcInv w g [] w3 := ⟨hh3, HB1.out.trans (hb3.mono HB1.out.size)⟩
      clear hb3 hh3 hg HB1
      go_wp2
      go_loopw [4] (fun i wr => ∃ k : Nat, k ≤ n ∧ i = .int .i64 k ∧ PcInv w g (ls.take k).flatten wr) (fun i _ => n - (intOf i).toNat)
      case atStart => exact ⟨0, by omega, rfl, hI⟩
      case round =>
        clear hI
        obtain ⟨k, hk, rfl, hI⟩ := hrel
        by_cases hlt : k < n
        · obtain ⟨ad', cap', hv', hc', _, hx⟩ := HR.out.below hI.bel
          have HRL : Hid (ReadsL w (.slice ad n cap) ls) := HR
          rw [← HNN.out] at hv' hx
          simp only [Value.slice.injEq, true_and] at hv'
          obtain ⟨rfl, rfl⟩ := hv'
          obtain ⟨b, off, rfl, hx2⟩ := hx (by omega)
          obtain ⟨vj, cj, hj⟩ := hx2 k hlt
          obtain ⟨bk, HBK⟩ : ∃ x, Hid (x = ls.getD k []) := ⟨_, rfl⟩
          rw [← HBK.out] at hj
          have HJ : Hid (Bytes wr g vj bk) := by
            obtain ⟨ad0, cap0, hv0, _, _, hx0⟩ := HRL.out
            simp only [Value.slice.injEq] at hv0
            obtain ⟨rfl, _, rfl⟩ := hv0
            obtain ⟨b0, off0, hb0, hc0⟩ := hx0 (by rw [← HNN.out]; omega)
            simp only [Option.some.injEq, Addr.mk.injEq, and_true] at hb0
            obtain ⟨rfl, rfl⟩ := hb0
            obtain ⟨v0, h1, h2⟩ := hc0 k (by rw [← HNN.out]; exact hlt)
            have h3 := hI.bel.cell (p := ⟨b, off + k, none⟩) (block_lt_of_cell h1)
            rw [cj, h1] at h3
            cases h3
            rw [HBK.out]
            exact (h2.bytes HG.out.2).below hI.bel
          have HF : Hid ((ls.take (k + 1)).flatten = (ls.take k).flatten ++ bk) := by rw [HBK.out]; exact flat_take ls k (by rw [← HNN.out]; exact hlt)
          have HL1 : Hid ((ls.take k).flatten.length + bk.length ≤ 65536) := by
            have h1 := flat_le ls (k + 1)
            rw [HF.out, List.length_append] at h1
            exact Nat.le_trans h1 HL.out
          have HI : Hid (PcInv w g (ls.take k).flatten wr) := hI
          clear hx hx2 hj hI
          go_wp2_with fail
          refine (write_any g (ls.take k).flatten bk vj wr HG.out.1 (HK.out.below HI.out.bel HK.out.lt) HI.out.hash HJ.out (by have := HL1.out; omega)).mono ?_
          rintro e w4 ⟨rfl, hh4, ho4⟩
          have HI4 : Hid (PcInv w g (ls.take (k + 1)).flatten w4) := ⟨by rw [HF.out]; exact hh4, HI.out.bel.trans (ho4.below HG.out.2 HI.out.bel.size)⟩
          clear hh4 ho4 HI HJ cj
          obtain ⟨m, HM⟩ : ∃ x, Hid (x = (ls.take (k + 1)).flatten) := ⟨_, rfl⟩
          rw [← HM.out] at HI4
          have hsl := slice_upto b off n cap k (by omega) (by omega)
          have hwr : IntKind.i64.wrap ((k : Int) + 1) = (k : Int) + 1 := by rw [IntKind.wrap_i64]; omega
          have HX : Hid (∀ wx, PcInv w g m wx → KOk wx ∧ HashIs 51 wx g m ∧ ReadsL wx (.slice (some ⟨b, off, none⟩) (k + 1) cap) (ls.take (k + 1))) := fun wx hx =>
            ⟨HK.out.below hx.bel HK.out.lt, hx.hash, (HR.out.below hx.bel).take (by omega)⟩
          have HT : Hid ((ls.take (k + 1)).flatten.length ≤ 65536 ∧ (ls.take (k + 1)).length ≤ 200) := ⟨Nat.le_trans (flat_le ls (k + 1)) HL.out, by simp; omega⟩
          obtain ⟨dd, HD⟩ : ∃ x, Hid (x = dig m) := ⟨_, rfl⟩
          have heq := fun wx => eq_dig_same dd (by rw [HD.out]; exact len_dig _) wx
          go_wp2_with fail
          go_cut [41] from 17 to 41 (fun b wx => b = .bool false ∧ PcInv w g m wx)
          case first =>
            by_cases h8 : k < 8
            · have hd : decide ((k : Int) < 8) = true := by simp; omega
              refine wp_region_any (by kernel_rfl) ?_
              change wpAny _ _ _ _ _ _ _ (World.drew _)
              refine wpAny_take (i := 0) (v := .int .i64 (k : Int)) rfl (by kernel_rfl) (by kernel_rfl) (by kernel_rfl) (fun _ _ _ h => h) (Or.inl ⟨by rfl, fun wx => by simp [go_sem]⟩) ?_
              simp only [Act.put, List.getElem_toArray, List.getElem_cons_zero, List.setIfInBounds_toArray, List.set_cons_zero, List.set_cons_succ]
              refine wpAny_take (i := 1) (v := .bool true) rfl (by kernel_rfl) (by kernel_rfl) (by kernel_rfl) (fun _ _ _ h => h) (Or.inl ⟨by rfl, fun wx => by simp [go_sem, hd]⟩) ?_
              simp only [Act.put, List.getElem_toArray, List.getElem_cons_succ, List.getElem_cons_zero, List.setIfInBounds_toArray, List.set_cons_zero, List.set_cons_succ]
              refine wpAny_take (i := 2) (v := .bool true) rfl (by kernel_rfl) (by kernel_rfl) (by kernel_rfl) (fun _ _ _ h => h) (Or.inl ⟨by rfl, fun wx => by simp [go_sem]⟩) ?_
              simp only [Act.put, List.getElem_toArray, List.getElem_cons_succ, List.getElem_cons_zero, List.setIfInBounds_toArray, List.set_cons_zero, List.set_cons_succ]
              refine wpAny_take (i := 3) (v := .pointer (some ⟨g, 0, none⟩)) rfl (by kernel_rfl) (by kernel_rfl) (by kernel_rfl) (fun _ _ _ h => h) (Or.inl ⟨by rfl, fun wx => by simp [go_sem]⟩) ?_
              simp only [Act.put, List.getElem_toArray, List.getElem_cons_succ, List.getElem_cons_zero, List.setIfInBounds_toArray, List.set_cons_zero, List.set_cons_succ]
              refine wpAny_take (i := 5) (v := .slice (some ⟨b, off, none⟩) n cap) rfl (by kernel_rfl) (by kernel_rfl) (by kernel_rfl) (fun _ _ _ h => h) (Or.inl ⟨by rfl, fun wx => by simp [go_sem]⟩) ?_
              simp only [Act.put, List.getElem_toArray, List.getElem_cons_succ, List.getElem_cons_zero, List.setIfInBounds_toArray, List.set_cons_zero, List.set_cons_succ]
              refine wpAny_take (i := 6) (v := .int .i64 (k : Int)) rfl (by kernel_rfl) (by kernel_rfl) (by kernel_rfl) (fun _ _ _ h => h) (Or.inl ⟨by rfl, fun wx => by simp [go_sem]⟩) ?_
              simp only [Act.put, List.getElem_toArray, List.getElem_cons_succ, List.getElem_cons_zero, List.setIfInBounds_toArray, List.set_cons_zero, List.set_cons_succ]
              refine wpAny_take (i := 7) (v := .int .i64 ((k : Int) + 1)) rfl (by kernel_rfl) (by kernel_rfl) (by kernel_rfl) (fun _ _ _ h => h) (Or.inl ⟨by rfl, fun wx => by simp [go_sem, hwr]⟩) ?_
              simp only [Act.put, List.getElem_toArray, List.getElem_cons_succ, List.getElem_cons_zero, List.setIfInBounds_toArray, List.set_cons_zero, List.set_cons_succ]
              refine wpAny_take (i := 8) (v := .slice (some ⟨b, off, none⟩) (k + 1) cap) rfl (by kernel_rfl) (by kernel_rfl) (by kernel_rfl) (fun _ _ _ h => h) (Or.inl ⟨by rfl, fun wx => by simp [execOp, Act.eval, hsl]⟩) ?_
              simp only [Act.put, List.getElem_toArray, List.getElem_cons_succ, List.getElem_cons_zero, List.setIfInBounds_toArray, List.set_cons_zero, List.set_cons_succ]
              have hI5 : PcInv w g m w4.drew := ⟨HI4.out.hash, HI4.out.bel.drew⟩
              refine wpAny_enter 4 (by kernel_rfl) rfl (by rfl) (f := 19) (args := #[.pointer (some ⟨g, 0, none⟩)]) (by simp [go_sem]) (digest_any g m _ (HX.out _ hI5).1 (HX.out _ hI5).2.1 ?_) ?_
              · have := HT.out.1; rw [← HM.out] at this; omega
              rintro e w5 ⟨rfl, hb5⟩
              refine ⟨_, rfl, ?_⟩
              rw [← HD.out]
              simp only [Act.put, List.getElem_toArray, List.getElem_cons_succ, List.getElem_cons_zero, List.setIfInBounds_toArray, List.set_cons_zero, List.set_cons_succ]
              have hI6 : PcInv w g m w5 := ⟨hI5.hash.below hb5 hI5.hash.lt, hI5.bel.trans (hb5.mono hI5.bel.size)⟩
              clear hb5 hI5
              refine wpAny_enter 9 (by kernel_rfl) rfl (by rfl) (f := 16) (args := #[.slice (some ⟨b, off, none⟩) (k + 1) cap]) (by simp [go_sem]) (rjoin_any _ (ls.take (k + 1)) _ (HX.out _ hI6).2.2 ?_ ?_) ?_
              · have := HT.out; omega
              · have := HT.out; omega
              rintro e w6 ⟨v6, rfl, hr6, hb6⟩
              refine ⟨_, rfl, ?_⟩
              simp only [Act.put, List.getElem_toArray, List.getElem_cons_succ, List.getElem_cons_zero, List.setIfInBounds_toArray, List.set_cons_zero, List.set_cons_succ]
              have hI7 : PcInv w g m w6 := ⟨hI6.hash.below hb6 hI6.hash.lt, hI6.bel.trans (hb6.mono hI6.bel.size)⟩
              clear hb6 hI6
              rw [← HM.out] at hr6
              refine wpAny_enter 10 (by kernel_rfl) rfl (by rfl) (f := 12) (args := #[v6]) (by simp [go_sem]) (rsum_any _ m _ hr6 ?_) ?_
              · have := HT.out; rw [← HM.out] at this; omega
              rintro e w7 ⟨rfl, hb7⟩
              refine ⟨_, rfl, ?_⟩
              rw [← HD.out]
              simp only [Act.put, List.getElem_toArray, List.getElem_cons_succ, List.getElem_cons_zero, List.setIfInBounds_toArray, List.set_cons_zero, List.set_cons_succ]
              have hI8 : PcInv w g m w7 := ⟨hI7.hash.below hb7 hI7.hash.lt, hI7.bel.trans (hb7.mono hI7.bel.size)⟩
              clear hb7 hI7 hr6
              refine wpAny_take (i := 11) (v := .bool false) rfl (by kernel_rfl) (by kernel_rfl) (by kernel_rfl) (fun _ _ _ h => h) (Or.inl ⟨by rfl, fun wx => by simp [go_sem, heq]⟩) ?_
              simp only [Act.put, List.getElem_toArray, List.getElem_cons_succ, List.getElem_cons_zero, List.setIfInBounds_toArray, List.set_cons_zero, List.set_cons_succ]
              refine wpAny_take (i := 12) (v := .bool false) rfl (by kernel_rfl) (by kernel_rfl) (by kernel_rfl) (fun _ _ _ h => h) (Or.inl ⟨by rfl, fun wx => by simp [go_sem]⟩) ?_
              simp only [Act.put, List.getElem_toArray, List.getElem_cons_succ, List.getElem_cons_zero, List.setIfInBounds_toArray, List.set_cons_zero, List.set_cons_succ]
              refine wpAny_done (by kernel_rfl) ?_ _
              go_wp2_with fail
              go_meet
              case rel => exact ⟨rfl, hI8⟩
            · have hd : decide ((k : Int) < 8) = false := by simp; omega
              refine wp_region_any (by kernel_rfl) ?_
              change wpAny _ _ _ _ _ _ _ (World.drew _)
              refine wpAny_take (i := 0) (v := .int .i64 (k : Int)) rfl (by kernel_rfl) (by kernel_rfl) (by kernel_rfl) (fun _ _ _ h => h) (Or.inl ⟨by rfl, fun wx => by simp [go_sem]⟩) ?_
              simp only [Act.put, List.getElem_toArray, List.getElem_cons_zero, List.setIfInBounds_toArray, List.set_cons_zero, List.set_cons_succ]
              refine wpAny_take (i := 1) (v := .bool false) rfl (by kernel_rfl) (by kernel_rfl) (by kernel_rfl) (fun _ _ _ h => h) (Or.inl ⟨by rfl, fun wx => by simp [go_sem, hd]⟩) ?_
              simp only [Act.put, List.getElem_toArray, List.getElem_cons_succ, List.getElem_cons_zero, List.setIfInBounds_toArray, List.set_cons_zero, List.set_cons_succ]
              refine wpAny_take (i := 2) (v := .bool false) rfl (by kernel_rfl) (by kernel_rfl) (by kernel_rfl) (fun _ _ _ h => h) (Or.inl ⟨by rfl, fun wx => by simp [go_sem]⟩) ?_
              simp only [Act.put, List.getElem_toArray, List.getElem_cons_succ, List.getElem_cons_zero, List.setIfInBounds_toArray, List.set_cons_zero, List.set_cons_succ]
              refine wpAny_take (i := 3) (v := undef) rfl (by kernel_rfl) (by kernel_rfl) (by kernel_rfl) (fun _ _ _ h => h) (Or.inr ⟨by rfl, rfl⟩) ?_
              simp only [Act.put, List.getElem_toArray, List.getElem_cons_succ, List.getElem_cons_zero, List.setIfInBounds_toArray, List.set_cons_zero, List.set_cons_succ]
              refine wpAny_take (i := 4) (v := undef) rfl (by kernel_rfl) (by kernel_rfl) (by kernel_rfl) (fun _ _ _ h => h) (Or.inr ⟨by rfl, rfl⟩) ?_
              simp only [Act.put, List.getElem_toArray, List.getElem_cons_succ, List.getElem_cons_zero, List.setIfInBounds_toArray, List.set_cons_zero, List.set_cons_succ]
              refine wpAny_take (i := 5) (v := undef) rfl (by kernel_rfl) (by kernel_rfl) (by kernel_rfl) (fun _ _ _ h => h) (Or.inr ⟨by rfl, rfl⟩) ?_
              simp only [Act.put, List.getElem_toArray, List.getElem_cons_succ, List.getElem_cons_zero, List.setIfInBounds_toArray, List.set_cons_zero, List.set_cons_succ]
              refine wpAny_take (i := 6) (v := undef) rfl (by kernel_rfl) (by kernel_rfl) (by kernel_rfl) (fun _ _ _ h => h) (Or.inr ⟨by rfl, rfl⟩) ?_
              simp only [Act.put, List.getElem_toArray, List.getElem_cons_succ, List.getElem_cons_zero, List.setIfInBounds_toArray, List.set_cons_zero, List.set_cons_succ]
              refine wpAny_take (i := 7) (v := undef) rfl (by kernel_rfl) (by kernel_rfl) (by kernel_rfl) (fun _ _ _ h => h) (Or.inr ⟨by rfl, rfl⟩) ?_
              simp only [Act.put, List.getElem_toArray, List.getElem_cons_succ, List.getElem_cons_zero, List.setIfInBounds_toArray, List.set_cons_zero, List.set_cons_succ]
              refine wpAny_take (i := 8) (v := undef) rfl (by kernel_rfl) (by kernel_rfl) (by kernel_rfl) (fun _ _ _ h => h) (Or.inr ⟨by rfl, rfl⟩) ?_
              simp only [Act.put, List.getElem_toArray, List.getElem_cons_succ, List.getElem_cons_zero, List.setIfInBounds_toArray, List.set_cons_zero, List.set_cons_succ]
              refine wpAny_take (i := 9) (v := undef) rfl (by kernel_rfl) (by kernel_rfl) (by kernel_rfl) (fun _ _ _ h => h) (Or.inr ⟨by rfl, rfl⟩) ?_
              simp only [Act.put, List.getElem_toArray, List.getElem_cons_succ, List.getElem_cons_zero, List.setIfInBounds_toArray, List.set_cons_zero, List.set_cons_succ]
              refine wpAny_take (i := 10) (v := undef) rfl (by kernel_rfl) (by kernel_rfl) (by kernel_rfl) (fun _ _ _ h => h) (Or.inr ⟨by rfl, rfl⟩) ?_
              simp only [Act.put, List.getElem_toArray, List.getElem_cons_succ, List.getElem_cons_zero, List.setIfInBounds_toArray, List.set_cons_zero, List.set_cons_succ]
              refine wpAny_take (i := 11) (v := undef) rfl (by kernel_rfl) (by kernel_rfl) (by kernel_rfl) (fun _ _ _ h => h) (Or.inr ⟨by rfl, rfl⟩) ?_
              simp only [Act.put, List.getElem_toArray, List.getElem_cons_succ, List.getElem_cons_zero, List.setIfInBounds_toArray, List.set_cons_zero, List.set_cons_succ]
              refine wpAny_take (i := 12) (v := .bool false) rfl (by kernel_rfl) (by kernel_rfl) (by kernel_rfl) (fun _ _ _ h => h) (Or.inl ⟨by rfl, fun wx => by simp [go_sem]⟩) ?_
              simp only [Act.put, List.getElem_toArray, List.getElem_cons_succ, List.getElem_cons_zero, List.setIfInBounds_toArray, List.set_cons_zero, List.set_cons_succ]
              refine wpAny_done (by kernel_rfl) ?_ _
              go_wp2_with fail
              go_meet
              case rel => exact ⟨rfl, HI4.out.hash, HI4.out.bel.drew⟩
          case rest =>
            obtain ⟨rfl, hI⟩ := hcut
            clear heq hsl hwr
            go_wp2
            exact ⟨⟨k + 1, by omega, by go_num, by rw [← HM.out]; exact hI⟩, by simp [intOf]; omega⟩
        · have hkn : k = n := by omega
          subst hkn
          have HI : Hid (PcInv w g ls.flatten wr) := by
            rw [HNN.out, List.take_of_length_le (Nat.le_refl _)] at hI
            exact hI
          clear hI
          go_wp2_with fail
          refine (digest_any g ls.flatten _ (HK.out.below HI.out.bel HK.out.lt) HI.out.hash (by have := HL.out; omega)).mono ?_
          rintro e w5 ⟨rfl, hb5⟩
          have HB5 : Hid (Below w.heap.size w w5) := HI.out.bel.trans (hb5.mono HI.out.bel.size)
          clear hb5 HI
          obtain ⟨dd, HD⟩ : ∃ x, Hid (x = dig ls.flatten) := ⟨_, rfl⟩
          rw [← HD.out]
          go_wp2_with fail
          refine (rjoin_any _ ls _ (HR.out.below HB5.out) (by have := HL.out; omega) (by rw [← HNN.out]; omega)).mono ?_
          rintro e w6 ⟨v6, rfl, hr6, hb6⟩
          have HB6 : Hid (Below w.heap.size w w6) := HB5.out.trans (hb6.mono HB5.out.size)
          clear hb6 HB5
          go_wp2_with fail
          refine (rsum_any _ ls.flatten _ hr6 (by have := HL.out; omega)).mono ?_
          rintro e w7 ⟨rfl, hb7⟩
          have HB7 : Hid (Below w.heap.size w w7) := HB6.out.trans (hb7.mono HB6.out.size)
          clear hb7 HB6 hr6
          rw [← HD.out]
          have heq := fun wx => eq_dig_same dd (by rw [HD.out]; exact len_dig _) wx
          go_wp2_with (go_at_call 10; refine (works_any _ (HK.out.below HB7.out HK.out.lt)).mono ?_; rintro e w8 ⟨rfl, hb8⟩)
          go_ret
          exact ⟨rfl, HB7.out.trans (hb8.mono HB7.out.size)⟩
end Go.Proofs.YtngcdfhmgjmhkaaDoor

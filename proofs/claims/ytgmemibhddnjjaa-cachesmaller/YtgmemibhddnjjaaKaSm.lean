/- The laws' same and works (layer 16). -/
import Derived.Test.YtgmemibhddnjjaaKaLw
namespace Go.Proofs.Ytgmemibhddnjjaa
open Go.RowKit
set_option maxRecDepth 100000
def strV (l : List ByteArray) : List Value := l.map Value.string
theorem strV_len (l : List ByteArray) : (strV l).length = l.length := List.length_map ..
theorem strV_at {l : List ByteArray} {k : Nat} {p : ByteArray} (h : l[k]? = some p) : (strV l)[k]? = some (.string p) := by unfold strV; rw [List.getElem?_map, h]; rfl
theorem ky_str (l : List KV) : kyV l = strV (l.map (·.1)) := by unfold kyV strV; rw [List.map_map]; rfl
set_option maxRecDepth 100000 in
set_option maxHeartbeats 800000 in
theorem same16_any {w : World} {va vb : Value} {la lb : List ByteArray} (ha : RdV 9 w va (strV la)) (hb : RdV 9 w vb (strV lb)) (hl : la.length < 1000000) : Calls Try.prog 13 #[va, vb] w fun e w' => e = .returned (.bool (decide (la = lb))) ∧ Below w.heap.size w w' := by
  have HA : Hid (RdV 9 w va (strV la)) := ha
  have HB : Hid (RdV 9 w vb (strV lb)) := hb
  obtain ⟨aa, ca, ea⟩ := ha.form
  obtain ⟨ab, cb, eb⟩ := hb.form
  rw [strV_len] at ea eb
  obtain ⟨n, HN⟩ : ∃ n, Hid (n = la.length) := ⟨_, rfl⟩
  obtain ⟨m, HM⟩ : ∃ n, Hid (n = lb.length) := ⟨_, rfl⟩
  rw [← HN.out] at ea
  rw [← HM.out] at eb
  subst ea eb
  have HNL : Hid (n < 1000000) := by show n < _; rw [HN.out]; exact hl
  obtain ⟨rb, HRB⟩ : ∃ b, Hid (b = decide (la = lb)) := ⟨_, rfl⟩
  rw [← HRB.out]
  clear ha hb hl
  by_cases hnm : n = m
  · subst hnm
    go_enter Try.func13, Try.ntmps13
    go_wp2
    go_loopw [5] (fun i wr => ∃ k : Nat, k ≤ n ∧ i = .int .i64 (k : Int) ∧ la.take k = lb.take k ∧ Below w.heap.size w wr) (fun i _ => n - (intOf i).toNat)
    case atStart => exact ⟨0, Nat.zero_le _, rfl, rfl, Below.refl _ _⟩
    case round =>
      obtain ⟨k, hkn, rfl, htk, hbl⟩ := hrel
      have HT : Hid (la.take k = lb.take k) := htk
      have HBL : Hid (Below w.heap.size w wr) := hbl
      clear htk hbl
      by_cases hlt : k < n
      · obtain ⟨p, hp⟩ : ∃ p, la[k]? = some p := ⟨_, List.getElem?_eq_getElem (by rw [← HN.out]; exact hlt)⟩
        obtain ⟨r, hr⟩ : ∃ p, lb[k]? = some p := ⟨_, List.getElem?_eq_getElem (by rw [← HM.out]; exact hlt)⟩
        obtain ⟨bk, ofk, e1, k1⟩ := (HA.out.below HBL.out).at (strV_at hp)
        obtain ⟨bv, ofv, e2, k2⟩ := (HB.out.below HBL.out).at (strV_at hr)
        subst e1 e2
        have k0 : (0 : Int) ≤ (k : Int) := by omega
        have hlti : (k : Int) < (n : Int) := by omega
        have f5 : IntKind.i64.wrap ((k : Int) + 1) = (k : Int) + 1 := by have := HNL.out; rw [IntKind.wrap_i64]; omega
        have HBL2 : Hid (Below w.heap.size w wr.drew) := ⟨HBL.out.os, HBL.out.tape, HBL.out.output, HBL.out.size, HBL.out.block⟩
        by_cases hpr : p = r
        · have HT2 : Hid (la.take (k + 1) = lb.take (k + 1)) := by show _ = _; rw [List.take_add_one, List.take_add_one, hp, hr, HT.out, hpr]
          have hq : (p.toList == r.toList) = true := by rw [str_eq]; exact decide_eq_true hpr
          clear hpr hp hr
          go_wp2
          go_region_held3 (fun wx => wx.cell? ⟨bk, ofk + k, none⟩ = some (.string p) ∧ wx.cell? ⟨bv, ofv + k, none⟩ = some (.string r)) (go_keep) (fail)
          go_wp2
          go_roundw
          case rel => exact ⟨k + 1, hlt, rfl, HT2.out, HBL2.out⟩
          case measure => simp [intOf]; omega
        · have HD : Hid (decide (la = lb) = false) := decide_eq_false (fun e => hpr (by rw [e, hr] at hp; cases hp; rfl))
          have hq : (p.toList == r.toList) = false := by rw [str_eq]; exact decide_eq_false hpr
          clear hpr hp hr
          go_wp2
          go_region_held3 (fun wx => wx.cell? ⟨bk, ofk + k, none⟩ = some (.string p) ∧ wx.cell? ⟨bv, ofv + k, none⟩ = some (.string r)) (go_keep) (fail)
          go_wp2
          go_ret
          exact ⟨by have e1 := HRB.out; rw [HD.out] at e1; rw [e1]; rfl, HBL2.out⟩
      · have hkk : k = n := by omega
        subst hkk
        have HD : Hid (decide (la = lb) = true) := decide_eq_true (by
          have := HT.out
          rw [List.take_of_length_le (by rw [← HN.out]; exact Nat.le_refl _), List.take_of_length_le (by rw [← HM.out]; exact Nat.le_refl _)] at this
          exact this)
        go_wp2
        go_ret
        exact ⟨by have e1 := HRB.out; rw [HD.out] at e1; rw [e1]; rfl, HBL.out⟩
  · have q1 : ¬ ((n : Int) = (m : Int)) := by omega
    have HD : Hid (decide (la = lb) = false) := decide_eq_false (fun e => hnm (by rw [HN.out, HM.out, e]))
    clear hnm
    go_enter Try.func13, Try.ntmps13
    go_wp2
    go_ret
    exact ⟨by have e1 := HRB.out; rw [HD.out] at e1; rw [e1]; rfl, Below.refl _ _⟩
def sA : ByteArray := ⟨#[97]⟩
def sB : ByteArray := ⟨#[98]⟩
def wC1 : KaT := putC (newC 1) sA 1
def wC2 : KaT := putC wC1 sB 2
theorem wC_2 : hasK wC2 sA = false ∧ getV wC2 sA = 0 := by decide
theorem wC_3 : hasK (getC wC2 sA) sB = true ∧ getV (getC wC2 sA) sB = 2 := by decide
theorem wC_4 : (getC (getC wC2 sA) sB).hits = 1 ∧ (getC (getC wC2 sA) sB).miss = 1 := by decide
theorem sm_wC : smC (newC 1) ∧ smC wC1 ∧ smC wC2 ∧ smC (getC wC2 sA) := by
  refine ⟨⟨?_, ?_, ?_, ?_⟩, ⟨?_, ?_, ?_, ?_⟩, ⟨?_, ?_, ?_, ?_⟩, ⟨?_, ?_, ?_, ?_⟩⟩ <;> decide
theorem sz_A : sA.size ≤ maxLen := by decide
theorem sz_B : sB.size ≤ maxLen := by decide
set_option maxRecDepth 100000 in
set_option maxHeartbeats 800000 in
theorem works16_any (w : World) : Calls Try.prog 10 #[] w fun e w' => e = .returned (.bool true) ∧ Below w.heap.size w w' := by
  obtain ⟨C0, HC0⟩ : ∃ C, Hid (C = newC 1) := ⟨_, rfl⟩
  obtain ⟨C1, HC1⟩ : ∃ C, Hid (C = wC1) := ⟨_, rfl⟩
  obtain ⟨C2, HC2⟩ : ∃ C, Hid (C = wC2) := ⟨_, rfl⟩
  obtain ⟨C3, HC3⟩ : ∃ C, Hid (C = getC wC2 sA) := ⟨_, rfl⟩
  obtain ⟨C4, HC4⟩ : ∃ C, Hid (C = getC (getC wC2 sA) sB) := ⟨_, rfl⟩
  have S0 : Hid (smC C0) := by show smC C0; rw [HC0.out]; exact sm_wC.1
  have S1 : Hid (smC C1) := by show smC C1; rw [HC1.out]; exact sm_wC.2.1
  have S2 : Hid (smC C2) := by show smC C2; rw [HC2.out]; exact sm_wC.2.2.1
  have S3 : Hid (smC C3) := by show smC C3; rw [HC3.out]; exact sm_wC.2.2.2
  have HN : Hid (Calls Try.prog 16 #[.int .i64 1] w fun r w' => ∃ g P, r = .returned (.pointer (some ⟨g, 0, none⟩)) ∧ CaIs w' g P C0 ∧ Below w.heap.size w w' ∧ ∀ k, P k → w.heap.size ≤ k) := by show Calls _ _ _ _ _; rw [HC0.out]; exact kaNew_any w 1
  have HP1 : Hid (∀ y g P, CaIs y g P C0 → Calls Try.prog 17 #[.pointer (some ⟨g, 0, none⟩), .string ⟨#[97]⟩, .int .i64 1] y fun r w' => ∃ P', r = .returned (.tuple #[]) ∧ CaIs w' g P' C1 ∧ Mut P y w' ∧ Grew y P P') := fun y g P h => by
    have := kaPut_any h S0.out sz_A 1
    rw [show putC C0 sA 1 = C1 by rw [HC0.out, HC1.out]; rfl] at this
    exact this
  have HP2 : Hid (∀ y g P, CaIs y g P C1 → Calls Try.prog 17 #[.pointer (some ⟨g, 0, none⟩), .string ⟨#[98]⟩, .int .i64 2] y fun r w' => ∃ P', r = .returned (.tuple #[]) ∧ CaIs w' g P' C2 ∧ Mut P y w' ∧ Grew y P P') := fun y g P h => by
    have := kaPut_any h S1.out sz_B 2
    rw [show putC C1 sB 2 = C2 by rw [HC1.out, HC2.out]; rfl] at this
    exact this
  have HG1 : Hid (∀ y g P, CaIs y g P C2 → Calls Try.prog 15 #[.pointer (some ⟨g, 0, none⟩), .string ⟨#[97]⟩] y fun r w' => ∃ P', r = .returned (.tuple #[.int .i64 0, .bool false]) ∧ CaIs w' g P' C3 ∧ Mut P y w' ∧ Grew y P P') := fun y g P h => by
    have := kaGet_any h S2.out sz_A
    rw [show getC C2 sA = C3 by rw [HC2.out, HC3.out], show getV C2 sA = 0 by rw [HC2.out]; exact wC_2.2, show hasK C2 sA = false by rw [HC2.out]; exact wC_2.1] at this
    exact this
  have HG2 : Hid (∀ y g P, CaIs y g P C3 → Calls Try.prog 15 #[.pointer (some ⟨g, 0, none⟩), .string ⟨#[98]⟩] y fun r w' => ∃ P', r = .returned (.tuple #[.int .i64 2, .bool true]) ∧ CaIs w' g P' C4 ∧ Mut P y w' ∧ Grew y P P') := fun y g P h => by
    have := kaGet_any h S3.out sz_B
    rw [show getC C3 sB = C4 by rw [HC3.out, HC4.out], show getV C3 sB = 2 by rw [HC3.out]; exact wC_3.2, show hasK C3 sB = true by rw [HC3.out]; exact wC_3.1] at this
    exact this
  have HCt : Hid (∀ y g P, CaIs y g P C4 → Calls Try.prog 12 #[.pointer (some ⟨g, 0, none⟩)] y fun r w' => r = .returned (.tuple #[.int .i64 1, .int .i64 1]) ∧ CaIs w' g P C4 ∧ Below y.heap.size y w') := fun y g P h => by
    have := kaCount_any h
    rw [show C4.hits = 1 by rw [HC4.out]; exact wC_4.1, show C4.miss = 1 by rw [HC4.out]; exact wC_4.2] at this
    exact this
  have HST : Hid (∀ y y' P P', (∀ k, P k → w.heap.size ≤ k) → Below w.heap.size w y → Mut P y y' → Grew y P P' → Below w.heap.size w y' ∧ ∀ k, P' k → w.heap.size ≤ k) := fun y y' P P' hP hb hm hg => ⟨hb.trans (hm.below hb.size hP), fun k hk => (hg k hk).elim (hP k) (fun h => Nat.le_trans hb.size h)⟩
  clear HC0 HC1 HC2 HC3 HC4 S0 S1 S2 S3
  go_enter Try.func10, Try.ntmps10
  have tk0 : Hid True := trivial
  have tk1 : Hid True := trivial
  have tk2 : Hid True := trivial
  have tk3 : Hid True := trivial
  have tk4 : Hid True := trivial
  have tk5 : Hid True := trivial
  go_wp2_with (first
    | (clear tk0; go_at_call 16; refine (HN.out).mono ?_; rintro e0 y0 ⟨g, P0, rfl, ca, bl, hP⟩
       have HI : Hid (CaIs y0 g P0 C0) := ca
       have HB : Hid (Below w.heap.size w y0 ∧ ∀ k, P0 k → w.heap.size ≤ k) := ⟨bl, hP⟩
       clear ca bl hP)
    | (clear tk1; go_at_call 17; refine (HP1.out y0 g P0 HI.out).mono ?_; rintro e1 y1 ⟨P1, rfl, ca, mu, gr⟩
       replace HI : Hid (CaIs y1 g P1 C1) := ca
       replace HB : Hid (Below w.heap.size w y1 ∧ ∀ k, P1 k → w.heap.size ≤ k) := HST.out y0 y1 P0 P1 HB.out.2 HB.out.1 mu gr
       clear ca mu gr)
    | (clear tk2; go_at_call 17; refine (HP2.out y1 g P1 HI.out).mono ?_; rintro e2 y2 ⟨P2, rfl, ca, mu, gr⟩
       replace HI : Hid (CaIs y2 g P2 C2) := ca
       replace HB : Hid (Below w.heap.size w y2 ∧ ∀ k, P2 k → w.heap.size ≤ k) := HST.out y1 y2 P1 P2 HB.out.2 HB.out.1 mu gr
       clear ca mu gr)
    | (clear tk3; go_at_call 15; refine (HG1.out y2 g P2 HI.out).mono ?_; rintro e3 y3 ⟨P3, rfl, ca, mu, gr⟩
       replace HI : Hid (CaIs y3 g P3 C3) := ca
       replace HB : Hid (Below w.heap.size w y3 ∧ ∀ k, P3 k → w.heap.size ≤ k) := HST.out y2 y3 P2 P3 HB.out.2 HB.out.1 mu gr
       clear ca mu gr)
    | (clear tk4; go_at_call 15; refine (HG2.out y3 g P3 HI.out).mono ?_; rintro e4 y4 ⟨P4, rfl, ca, mu, gr⟩
       replace HI : Hid (CaIs y4 g P4 C4) := ca
       replace HB : Hid (Below w.heap.size w y4 ∧ ∀ k, P4 k → w.heap.size ≤ k) := HST.out y3 y4 P3 P4 HB.out.2 HB.out.1 mu gr
       clear ca mu gr)
    | (clear tk5; go_at_call 12; refine (HCt.out y4 g P4 HI.out).mono ?_; rintro e5 y5 ⟨rfl, ca, bl⟩
       replace HB : Hid (Below w.heap.size w y5) := HB.out.1.trans (bl.mono HB.out.1.size)
       clear ca bl))
  go_ret
  exact ⟨rfl, HB.out⟩
end Go.Proofs.Ytgmemibhddnjjaa

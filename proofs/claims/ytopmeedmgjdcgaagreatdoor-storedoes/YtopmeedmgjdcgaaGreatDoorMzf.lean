/- Texts that the proof leans on, one behind the other: The reference's keys in memory; the walk of its place (layer 15). The walk of the reference's Get (layer 15). Where a key stands in a rising list (layer 15; plain). .. -/
import Derived.Test.YtopmeedmgjdcgaaGreatDoorMze
import Derived.Maps.OwnSet
import Derived.Maps.RangeWalk
import Derived.Shelf.SlLaysF0
import Derived.Test.YtopmeedmgjdcgaaGreatDoorProg
import Derived.Shelf.SlSortCmp.WholeK
import Derived.Lib.Bytealg
import Derived.Shelf.SlMaps.Clone
import Derived.RangeFuncFrom
set_option maxRecDepth 100000
set_option maxHeartbeats 16000000
namespace Go.Proofs.YtopmeedmgjdcgaaGreatDoor
open Go.RowKit
def ReadsS (w : World) (v : Value) (ks : List Bs) : Prop :=
 ∃ ad cap, v = .slice ad ks.length cap ∧ ks.length ≤ cap ∧ (ad = none → cap = 0) ∧ (0 < ks.length → ∃ b off, ad = some ⟨b, off, none⟩ ∧ ∀ j, j < ks.length → w.cell? ⟨b, off + j, none⟩ = some (.string (strB (ks.getD j []))))
theorem ReadsS.form {w : World} {v : Value} {ks : List Bs} (h : ReadsS w v ks) : ∃ ad c, v = .slice ad ks.length c := by
 obtain ⟨ad, c, hv, _⟩ := h
 exact ⟨ad, c, hv⟩
theorem ReadsS.below {w w' : World} {v : Value} {ks : List Bs} (h : ReadsS w v ks) (hb : Below w.heap.size w w') : ReadsS w' v ks := by
 obtain ⟨ad, cap, h1, h2, h3, h4⟩ := h
 refine ⟨ad, cap, h1, h2, h3, fun hp => ?_⟩
 obtain ⟨b, off, h5, h6⟩ := h4 hp
 refine ⟨b, off, h5, fun j hj => ?_⟩
 have h7 := h6 j hj
 rw [hb.cell (p := ⟨b, off + j, none⟩) (block_lt_of_cell h7)]
 exact h7
theorem ReadsS.at {w : World} {ad : Option Addr} {n c : Nat} {ks : List Bs} (h : ReadsS w (.slice ad n c) ks) {j : Nat} (hj : j < ks.length) : ∃ b off, ad = some ⟨b, off, none⟩ ∧ w.cell? ⟨b, off + j, none⟩ = some (.string (strB (ks.getD j []))) := by
 obtain ⟨ad', cap, h1, h2, h3, h4⟩ := h
 simp only [Value.slice.injEq] at h1
 obtain ⟨rfl, _, _⟩ := h1
 obtain ⟨b, off, h5, h6⟩ := h4 (Nat.lt_of_le_of_lt (Nat.zero_le _) hj)
 exact ⟨b, off, h5, h6 j hj⟩
def plI (ks : List Bs) (key : Bs) : Nat := (ks.takeWhile fun k => ltB k key).length
def plB (ks : List Bs) (key : Bs) : Bool := decide (plI ks key < ks.length) && decide (ks.getD (plI ks key) [] = key)
theorem plI_at : ∀ (ks : List Bs) (key : Bs) (i : Nat), i ≤ ks.length → (∀ j, j < i → ltB (ks.getD j []) key = true) → (i < ks.length → ltB (ks.getD i []) key = false) → plI ks key = i
 | [], _, 0, _, _, _ => rfl
 | [], _, i + 1, h, _, _ => by simp at h
 | k :: ks, key, 0, _, _, h => by
  have h1 := h (by simp)
  simp only [List.getD_cons_zero] at h1
  rw [plI, List.takeWhile_cons, h1]
  rfl
 | k :: ks, key, i + 1, hl, h1, h2 => by
  have h3 := h1 0 (by omega)
  simp only [List.getD_cons_zero] at h3
  have h4 := plI_at ks key i (by simpa using hl) (fun j hj => by have := h1 (j + 1) (by omega); simpa using this) (fun hi => by have := h2 (by simp; omega); simpa using this)
  rw [plI, List.takeWhile_cons, h3]
  simp only [if_true, List.length_cons]
  rw [plI] at h4
  rw [h4]
theorem idxS (b off n c k : Nat) (hk : k < n) (f : Operand → Value) (o : Oper) (x y : Operand) (ho : o.op = .indexAddr 40 x y) (hx : f x = .slice (some ⟨b, off, none⟩) n c) (hy : f y = .int .i64 (k : Int)) (w : World) :
 (execOp f o).run Tryz.prog w = .ok (.value (.pointer (some ⟨b, off + k, none⟩))) w := by
 have k0 : (0 : Int) ≤ (k : Int) := by omega
 have k1 : (k : Int) < (n : Int) := by omega
 have hs : (sizeOf 9).run Tryz.prog w = .ok 1 w := by kernel_rfl
 unfold execOp
 rw [ho]
 simp [go_sem, hx, hy, k0, k1, Addr.add_mid, hs]
theorem wpSeq_idxS {ops : Array Oper} {Q : Exit → Act → World → Prop} {rest : List Oper} {o : Oper} {a : Act} {w : World} (x y : Operand) (b off n c k : Nat) (hk : k < n) (ho : o.op = .indexAddr 40 x y) (hx : a.eval x = .slice (some ⟨b, off, none⟩) n c) (hy : a.eval y = .int .i64 (k : Int)) (hw : Region.wanted o (yielded ops a.tmps) = true)
 (h : wpList Tryz.prog ops Q rest (a.put o.dst (.pointer (some ⟨b, off + k, none⟩))) w) : wpList Tryz.prog ops Q (o :: rest) a w :=
 wpSeq_val _ _ hw (idxS b off n c k hk _ o x y ho hx hy w) h
theorem oPlace_any (vK vV : Value) (ks : List Bs) (key : Bs) (w : World) (hr : ReadsS w vK ks) (hl : ks.length < 4611686018427387904) : Calls Tryz.prog 85 #[.agg [vK, vV].toArray, .string (strB key)] w fun e w' => e = .returned (.tuple #[.int .i64 (plI ks key : Int), .bool (plB ks key)]) ∧ Below w.heap.size w w' := by
 have HR : Hid (ReadsS w vK ks) := hr
 obtain ⟨ad, c, hv⟩ := hr.form
 obtain ⟨n, HN⟩ := sqn (ks.length)
 rw [← HN.out] at hv hl
 subst hv
 have HNL : Hid (n < 4611686018427387904) := hl
 obtain ⟨sk, HSK⟩ := sqn (strB key)
 obtain ⟨pI, HPI⟩ := sqn (plI ks key)
 obtain ⟨pB, HPB⟩ := sqn (plB ks key)
 rw [← HSK.out, ← HPI.out, ← HPB.out]
 clear hr hl
 go_enter Tryz.func85, Tryz.ntmps85
 have tk0 : Hid True := trivial
 go_wp2_with (first
  | (clear tk0; with_reducible refine wpSeq_boxW 43 (.tmp 0) [.slice ad n c, vV] ?_ ?_ ?_ ?_
     · rfl
     · rfl
     · rfl
     intro gm y1 nn; have HM : Hid (Blk y1 gm [.slice ad n c, vV] 43) := nn.blk; have HB1 : Hid (Below w.heap.size w y1) := nn.below; have HR1 : Hid (ReadsS y1 (.slice ad n c) ks) := HR.out.below nn.below; clear nn))
 go_loopw [6] (fun iv W => ∃ i : Nat, i ≤ n ∧ iv = .int .i64 (i : Int) ∧ Hid (∀ j, j < i → ltB (ks.getD j []) key = true) ∧ W = y1) (fun iv _ => n - (intOf iv).toNat)
 case atStart => exact ⟨0, Nat.zero_le _, rfl, fun j hj => by omega, rfl⟩
 case round =>
  obtain ⟨i, hi, rfl, HF, rfl⟩ := hrel
  have d0 : wr.cell? ⟨gm, 0, none⟩ = some (.slice ad n c) := HM.out.cell 0
  by_cases hin : i < n
  case neg =>
   have hlk : ¬ ((i : Int) < (n : Int)) := by omega
   have HIe : Hid (plI ks key = i) := plI_at ks key i (by rw [← HN.out]; exact hi) HF.out (fun h => by rw [← HN.out] at h; omega)
   obtain rfl : pI = i := by rw [HPI.out]; exact HIe.out
   obtain rfl : pB = false := by rw [HPB.out, plB, HIe.out, ← HN.out, decide_eq_false hin]; rfl
   go_wp2; refine wp_region_held_drew (S := Over (World.drew wr)) (by kernel_rfl) (Over.refl _) ?_
   intro hS; have HD0 : Hid ((World.drew wr).cell? ⟨gm, 0, none⟩ = some (.slice ad n c)) := HM.out.cell 0; have HBB : Hid (Below w.heap.size w (World.drew wr)) := HB1.out.drew
   change wpAnyH _ _ _ _ _ _ _ _ (World.drew wr)
   generalize World.drew wr = y3 at *
   refine tkc 0 (.int .i64 (pI : Int)) rfl hS ?_; simp only [Act.put, sq]; refine tkc 1 (.int .i64 (pI : Int)) rfl hS ?_; simp only [Act.put, sq]; refine tkc 2 (.pointer (some ⟨gm, 0, none⟩)) rfl hS ?_; simp only [Act.put, sq]; refine tka 3 (.slice ad n c) rfl (fun wx hx => by (have hc := below_cell hx HD0.out; simp [go_sem, hc])) hS ?_
   simp only [Act.put, sq]; refine tkc 4 (.int .i64 (n : Int)) rfl hS ?_; simp only [Act.put, sq]; refine tka 5 (.bool false) rfl (fun wx hx => by (simp [go_sem]; omega)) hS ?_
   simp only [Act.put, sq]; refine tkc 6 (.bool false) rfl hS ?_; simp only [Act.put, sq]; refine tkb 7 rfl hS ?_; simp only [Act.put, sq]; refine tkb 8 rfl hS ?_; simp only [Act.put, sq]; refine tkb 9 rfl hS ?_; simp only [Act.put, sq]; refine tkb 10 rfl hS ?_; simp only [Act.put, sq]; refine tkb 11 rfl hS ?_; simp only [Act.put, sq]; refine tkb 12 rfl hS ?_; simp only [Act.put, sq]; refine tkb 13 rfl hS ?_; simp only [Act.put, sq]; refine tkc 14 (.bool false) rfl hS ?_; simp only [Act.put, sq]; refine tkc 15 (.int .i64 (pI : Int)) rfl hS ?_; simp only [Act.put, sq]; refine tkc 16 (.bool false) rfl hS ?_; simp only [Act.put, sq]; refine wpAnyH_done (by kernel_rfl) ?_ _
   clear hS; go_wp2; refine bodyPost_ret (results_tmp2 rfl _ _ _) rfl ?_; exact ⟨rfl, HBB.out⟩
  case pos =>
   have hlk : (i : Int) < (n : Int) := by omega
   have HIN : Hid (i < n) := hin; have f1 : IntKind.i64.wrap ((i : Int) + 1) = (i : Int) + 1 := by rw [IntKind.wrap_i64]; have := HNL.out; omega
   have hik : i < ks.length := by rw [← HN.out]; exact hin
   obtain ⟨b, off, rfl, hci⟩ := HR1.out.at hik; obtain ⟨si, HSI⟩ := sqn (strB (ks.getD i [])); rw [← HSI.out] at hci; have HLT : Hid (Op.bytesLess si.toList sk.toList = ltB (ks.getD i []) key) := by show _ = _; rw [HSI.out, HSK.out, less_str]
   cases hlt : ltB (ks.getD i []) key
   case false =>
    have HL2 : Hid (Op.bytesLess si.toList sk.toList = false) := by show _ = _; rw [HLT.out]; exact hlt
    have HIe : Hid (plI ks key = i) := plI_at ks key i (by rw [← HN.out]; exact hi) HF.out (fun _ => hlt)
    have HEQ : Hid ((si.toList == sk.toList) = pB) := by
     show _ = _; rw [HPB.out, HSI.out, HSK.out, strB_inj, plB, HIe.out, ← HN.out, decide_eq_true hin]
     rfl
    obtain rfl : pI = i := by rw [HPI.out]; exact HIe.out
    clear hlt; obtain ⟨tq0, tq1⟩ := sqk2
    go_wp2_with (first
     | (clear tq0; with_reducible refine wpSeq_idxS (.tmp 14) (.tmp 15) b off n c pI HIN.out ?_ ?_ ?_ ?_ ?_
        · rfl
        · rfl
        · rfl
        · rfl)
     | (clear tq1; with_reducible refine wpSeq_sLt si sk false (.tmp 17) (.tmp 18) HL2.out ?_ ?_ ?_ ?_ ?_
        · rfl
        · rfl
        · rfl
        · rfl))
    refine wp_region_held_drew (S := Over (World.drew wr)) (by kernel_rfl) (Over.refl _) ?_
    intro hS; have HD0 : Hid ((World.drew wr).cell? ⟨gm, 0, none⟩ = some (.slice (some ⟨b, off, none⟩) n c)) := HM.out.cell 0; have HDC : Hid ((World.drew wr).cell? ⟨b, off + pI, none⟩ = some (.string si)) := hci; have HBB : Hid (Below w.heap.size w (World.drew wr)) := HB1.out.drew
    change wpAnyH _ _ _ _ _ _ _ _ (World.drew wr)
    generalize World.drew wr = y3 at *
    refine tkc 0 (.int .i64 (pI : Int)) rfl hS ?_; simp only [Act.put, sq]; refine tkc 1 (.int .i64 (pI : Int)) rfl hS ?_; simp only [Act.put, sq]; refine tkc 2 (.pointer (some ⟨gm, 0, none⟩)) rfl hS ?_; simp only [Act.put, sq]; refine tka 3 (.slice (some ⟨b, off, none⟩) n c) rfl (fun wx hx => by (have hc := below_cell hx HD0.out; simp [go_sem, hc])) hS ?_
    simp only [Act.put, sq]; refine tkc 4 (.int .i64 (n : Int)) rfl hS ?_; simp only [Act.put, sq]; refine tka 5 (.bool true) rfl (fun wx hx => by simp [go_sem, hlk]) hS ?_
    simp only [Act.put, sq]; refine tkc 6 (.bool true) rfl hS ?_; simp only [Act.put, sq]; refine tkc 7 (.pointer (some ⟨gm, 0, none⟩)) rfl hS ?_; simp only [Act.put, sq]; refine tka 8 (.slice (some ⟨b, off, none⟩) n c) rfl (fun wx hx => by (have hc := below_cell hx HD0.out; simp [go_sem, hc])) hS ?_
    simp only [Act.put, sq]; refine tkc 9 (.int .i64 (pI : Int)) rfl hS ?_; simp only [Act.put, sq]; refine tka 10 (.pointer (some ⟨b, off + pI, none⟩)) rfl (fun wx hx => by exact idxS b off n c pI HIN.out _ _ _ _ rfl rfl rfl _) hS ?_
    simp only [Act.put, sq]; refine tka 11 (.string si) rfl (fun wx hx => by (have hc := below_cell hx HDC.out; simp [go_sem, hc])) hS ?_
    simp only [Act.put, sq]; refine tkc 12 (.string sk) rfl hS ?_; simp only [Act.put, sq]; refine tka 13 (.bool pB) rfl (fun wx hx => by exact run_strOp .eql si sk _ HEQ.out (Or.inr (Or.inr (Or.inl rfl))) _ _ _ _ rfl rfl rfl _) hS ?_
    simp only [Act.put, sq]; refine tkc 14 (.bool pB) rfl hS ?_; simp only [Act.put, sq]; refine tkc 15 (.int .i64 (pI : Int)) rfl hS ?_; simp only [Act.put, sq]; refine tkc 16 (.bool pB) rfl hS ?_; simp only [Act.put, sq]; refine wpAnyH_done (by kernel_rfl) ?_ _
    clear hS; go_wp2; refine bodyPost_ret (results_tmp2 rfl _ _ _) rfl ?_; exact ⟨rfl, HBB.out⟩
   case true =>
    have HL2 : Hid (Op.bytesLess si.toList sk.toList = true) := by show _ = _; rw [HLT.out]; exact hlt
    have HF2 : Hid (∀ j, j < i + 1 → ltB (ks.getD j []) key = true) := fun j hj => by
     by_cases hji : j = i
     · rw [hji]; exact hlt
     · exact HF.out j (by omega)
    clear hlt; obtain ⟨tr0, tr1⟩ := sqk2
    go_wp2_with (first
     | (clear tr0; with_reducible refine wpSeq_idxS (.tmp 14) (.tmp 15) b off n c i HIN.out ?_ ?_ ?_ ?_ ?_
        · rfl
        · rfl
        · rfl
        · rfl)
     | (clear tr1; with_reducible refine wpSeq_sLt si sk true (.tmp 17) (.tmp 18) HL2.out ?_ ?_ ?_ ?_ ?_
        · rfl
        · rfl
        · rfl
        · rfl))
    go_roundw
    case rel => exact ⟨i + 1, by omega, by simp, HF2, trivial⟩
    case measure => simp [intOf]; omega
theorem info_keys (x y : Value) : (Tryz.prog.info? 43).map (·.size) = some [x, y].length := by kernel_rfl
theorem plB_lt {ks : List Bs} {key : Bs} (h : plB ks key = true) : plI ks key < ks.length := by
 unfold plB at h
 simp only [Bool.and_eq_true, decide_eq_true_eq] at h
 exact h.1
def GetJ (vs : List Bs) (i : Nat) (ok : Bool) (e : Ending) (w' : World) : Prop := ∃ vv, e = .returned (.tuple #[vv, .bool ok]) ∧ (ok = true → Reads w' vv (vs.getD i [])) ∧ (ok = false → vv = .slice none 0 0)
theorem oGet_any (vK vV : Value) (ks vs : List Bs) (key : Bs) (w : World) (hr : ReadsS w vK ks) (hv : ReadsL w vV vs) (he : ks.length = vs.length) (hl : ks.length < 4611686018427387904) : Calls Tryz.prog 59 #[.agg [vK, vV].toArray, .string (strB key)] w fun e w' => GetJ vs (plI ks key) (plB ks key) e w' ∧ Below w.heap.size w w' := by
 have HR : Hid (ReadsS w vK ks) := hr
 have HV : Hid (ReadsL w vV vs) := hv
 have HL : Hid (ks.length < 4611686018427387904) := hl
 have HLE : Hid (ks.length = vs.length) := he
 obtain ⟨ad, c, hvk⟩ := hr.form
 obtain ⟨n, HN⟩ := sqn (ks.length)
 rw [← HN.out] at hvk
 subst hvk
 obtain ⟨ad2, c2, hvv, _⟩ := hv
 rw [← he, ← HN.out] at hvv
 subst hvv
 obtain ⟨sk, HSK⟩ := sqn (strB key)
 obtain ⟨pI, HPI⟩ := sqn (plI ks key)
 obtain ⟨pB, HPB⟩ := sqn (plB ks key)
 rw [← HSK.out]
 rw [← HPI.out, ← HPB.out]
 clear hr hl he
 cases pB
 case false =>
  go_enter Tryz.func59, Tryz.ntmps59
  obtain ⟨ta0, ta1, ta2⟩ := sqk3
  go_wp2_with (first
   | (clear ta0; with_reducible refine wpSeq_boxW 43 (.tmp 0) [.slice ad n c, .slice ad2 n c2] ?_ ?_ ?_ ?_
      · rfl
      · rfl
      · rfl
      intro gm y1 nn; have HM : Hid (Blk y1 gm [.slice ad n c, .slice ad2 n c2] 43) := nn.blk; have HB1 : Hid (Below w.heap.size w y1) := nn.below
      have HC : Hid (Calls Tryz.prog 85 #[.agg [.slice ad n c, .slice ad2 n c2].toArray, .string sk] y1 fun e w' => e = .returned (.tuple #[.int .i64 (pI : Int), .bool false]) ∧ Below y1.heap.size y1 w') := by
       rw [HSK.out, HPI.out, HPB.out]; exact oPlace_any _ _ ks key y1 (HR.out.below nn.below) HL.out
      clear nn)
   | (clear ta1; with_reducible refine wpSeq_loadW 43 (.tmp 2) gm 0 [.slice ad n c, .slice ad2 n c2] _ (Blk.range HM.out) Tryz.underlying43 rfl (info_keys _ _) ?_ ?_ ?_ ?_
      · rfl
      · rfl
      · rfl)
   | (clear ta2; go_at_call 85; refine (HC.out).mono ?_; rintro e1 y2 ⟨rfl, hb⟩
      have HB2 : Hid (Below w.heap.size w y2) := HB1.out.trans (hb.mono HB1.out.size); have d1 : y2.cell? ⟨gm, 1, none⟩ = some (.slice ad2 n c2) := (HM.out.below hb HM.out.lt).cell 1; clear hb))
  refine bodyPost_ret (results_tmp2 rfl _ _ _) rfl ?_
  exact ⟨⟨_, rfl, fun h => (by cases h), fun _ => rfl⟩, HB2.out⟩
 case true =>
  have hlt : pI < n := by rw [HPI.out, HN.out]; exact plB_lt HPB.out.symm
  have k0 : (0 : Int) ≤ (pI : Int) := by omega
  have k1 : (pI : Int) < (n : Int) := by omega
  have HPV : Hid (pI < vs.length) := by show _ < _; rw [← HLE.out, ← HN.out]; exact hlt
  obtain ⟨b, off, vj, rfl, hcj, hrj⟩ := HV.out.atJ HPV.out
  have HCJ : Hid (w.cell? ⟨b, off + pI, none⟩ = some vj) := hcj
  have HRJ : Hid (Reads w vj (vs.getD pI [])) := hrj
  clear hcj hrj
  go_enter Tryz.func59, Tryz.ntmps59
  obtain ⟨tb0, tb1, tb2⟩ := sqk3
  go_wp2_with (first
   | (clear tb0; with_reducible refine wpSeq_boxW 43 (.tmp 0) [.slice ad n c, .slice (some ⟨b, off, none⟩) n c2] ?_ ?_ ?_ ?_
      · rfl
      · rfl
      · rfl
      intro gm y1 nn; have HM : Hid (Blk y1 gm [.slice ad n c, .slice (some ⟨b, off, none⟩) n c2] 43) := nn.blk; have HB1 : Hid (Below w.heap.size w y1) := nn.below
      have HC : Hid (Calls Tryz.prog 85 #[.agg [.slice ad n c, .slice (some ⟨b, off, none⟩) n c2].toArray, .string sk] y1 fun e w' => e = .returned (.tuple #[.int .i64 (pI : Int), .bool true]) ∧ Below y1.heap.size y1 w') := by
       rw [HSK.out, HPI.out, HPB.out]; exact oPlace_any _ _ ks key y1 (HR.out.below nn.below) HL.out
      clear nn)
   | (clear tb1; with_reducible refine wpSeq_loadW 43 (.tmp 2) gm 0 [.slice ad n c, .slice (some ⟨b, off, none⟩) n c2] _ (Blk.range HM.out) Tryz.underlying43 rfl (info_keys _ _) ?_ ?_ ?_ ?_
      · rfl
      · rfl
      · rfl)
   | (clear tb2; go_at_call 85; refine (HC.out).mono ?_; rintro e1 y2 ⟨rfl, hb⟩
      have HB2 : Hid (Below w.heap.size w y2) := HB1.out.trans (hb.mono HB1.out.size); have d1 : y2.cell? ⟨gm, 1, none⟩ = some (.slice (some ⟨b, off, none⟩) n c2) := (HM.out.below hb HM.out.lt).cell 1; clear hb; have d2 : y2.cell? ⟨b, off + pI, none⟩ = some vj := by rw [HB2.out.cell (p := ⟨b, off + pI, none⟩) (block_lt_of_cell HCJ.out)]; exact HCJ.out))
  refine bodyPost_ret (results_tmp2 rfl _ _ _) rfl ?_
  exact ⟨⟨_, rfl, fun _ => HRJ.out.below HB2.out, fun h => by cases h⟩, HB2.out⟩
end Go.Proofs.YtopmeedmgjdcgaaGreatDoor
namespace Go.Proofs.YtopmeedmgjdcgaaGreatDoor
theorem plI_cons (k : Bs) (ks : List Bs) (key : Bs) : plI (k :: ks) key = if ltB k key = true then plI ks key + 1 else 0 := by
 rw [plI, List.takeWhile_cons]
 cases ltB k key <;> rfl
theorem plB_lt1 {k : Bs} {ks : List Bs} {key : Bs} (h : ltB k key = true) : plB (k :: ks) key = plB ks key := by
 rw [plB, plB, plI_cons, if_pos h, List.length_cons, List.getD_cons_succ]
 congr 1
 rw [decide_eq_decide]
 omega
theorem plB_ge {k : Bs} {ks : List Bs} {key : Bs} (h : ltB k key = false) : plB (k :: ks) key = decide (k = key) := by
 rw [plB, plI_cons, if_neg (by rw [h]; decide), List.length_cons, List.getD_cons_zero, decide_eq_true (Nat.succ_pos _), Bool.true_and]
theorem rise_cons {p : Bs × Bs} {m : KM} : Rise (p :: m) ↔ (∀ q ∈ m, ltB p.1 q.1 = true) ∧ Rise m := List.pairwise_cons
theorem ge_lt {a b c : Bs} (h : ltB a b = false) (h2 : ltB a c = true) : ltB b c = true := by
 rcases ltB_tri a b with h3 | h3 | h3
 · rw [h3] at h; cases h
 · rw [← h3]; exact h2
 · exact ltB_trans _ _ _ h3 h2
theorem lt_part : ∀ {m : KM} (key : Bs), Rise m → m.filter (fun p => ltB p.1 key) = m.take (plI (m.map (·.1)) key)
 | [], _, _ => rfl
 | p :: m, key, h => by
  obtain ⟨h1, h2⟩ := rise_cons.1 h
  rw [List.map_cons, plI_cons, List.filter_cons]
  cases hp : ltB p.1 key
  · rw [if_neg (by decide), if_neg (by decide), List.take_zero, List.filter_eq_nil_iff]
    intro q hq; have h3 := ge_lt hp (h1 q hq); rw [ltB_asym h3]
    decide
  · rw [if_pos rfl, if_pos rfl, List.take_succ_cons, lt_part key h2]
theorem gt_part : ∀ {m : KM} (key : Bs), Rise m → m.filter (fun p => ltB key p.1) = m.drop (if plB (m.map (·.1)) key = true then plI (m.map (·.1)) key + 1 else plI (m.map (·.1)) key)
 | [], _, _ => by simp
 | p :: m, key, h => by
  obtain ⟨h1, h2⟩ := rise_cons.1 h
  have ft : ¬ (false = true) := by decide
  rw [List.map_cons, plI_cons, List.filter_cons]
  cases hp : ltB p.1 key
  · rw [if_neg ft, plB_ge hp]
    have hall : m.filter (fun q => ltB key q.1) = m := by
     rw [List.filter_eq_self]; exact fun q hq => ge_lt hp (h1 q hq)
    by_cases he : p.1 = key
    · rw [decide_eq_true he, if_pos rfl, he, ltB_irr, if_neg ft, hall]
      rfl
    · rw [decide_eq_false he, if_neg ft]
      have h3 : ltB key p.1 = true := by
       rcases ltB_tri p.1 key with h | h | h
       · rw [h] at hp; cases hp
       · exact absurd h he
       · exact h
      rw [if_pos h3, hall]
      rfl
  · rw [if_pos rfl, plB_lt1 hp, if_neg (by rw [ltB_asym hp]; decide), gt_part key h2]
    split <;> rfl
theorem oneM_cut {m : KM} (h : Rise m) (a : ActT) : oneM m a = m.take (plI (m.map (·.1)) a.key) ++ ((if a.set then [(a.key, a.data)] else []) ++ m.drop (if plB (m.map (·.1)) a.key = true then plI (m.map (·.1)) a.key + 1 else plI (m.map (·.1)) a.key)) := by
 rw [oneM, lt_part _ h, gt_part _ h]
theorem getM_pl : ∀ {m : KM} (key : Bs), Rise m → getM m key = if plB (m.map (·.1)) key = true then some ((m.map (·.2)).getD (plI (m.map (·.1)) key) []) else none
 | [], _, _ => rfl
 | p :: m, key, h => by
  obtain ⟨h1, h2⟩ := rise_cons.1 h
  have ft : ¬ (false = true) := by decide
  have ih := getM_pl key h2
  unfold getM at ih ⊢
  rw [List.map_cons, List.map_cons, plI_cons, List.find?_cons]
  cases hp : ltB p.1 key
  · rw [if_neg ft, plB_ge hp]
    by_cases he : p.1 = key
    · rw [decide_eq_true he, if_pos rfl]
      rfl
    · rw [decide_eq_false he, if_neg ft]
      have h0 : m.find? (fun q => decide (q.1 = key)) = none := by
       rw [List.find?_eq_none]; intro q hq hk; have h3 := ge_lt hp (h1 q hq); rw [of_decide_eq_true hk, ltB_irr] at h3
       cases h3
      simp only [h0]
      rfl
  · rw [if_pos rfl, plB_lt1 hp, List.getD_cons_succ, ← ih, decide_eq_false (ltB_ne hp)]
end Go.Proofs.YtopmeedmgjdcgaaGreatDoor
namespace Go.Proofs.YtopmeedmgjdcgaaGreatDoor
open Go.RowKit
theorem getM_cons (p : Bs × Bs) (m : KM) (k : Bs) : getM (p :: m) k = if p.1 = k then some p.2 else getM m k := by
 unfold getM
 by_cases e : p.1 = k
 · rw [if_pos e, List.find?_cons_of_pos (by simp [e])]; rfl
 · rw [if_neg e, List.find?_cons_of_neg (by simp [e])]
theorem opt_ext {x y : Option Bs} (h : ∀ d, x = some d ↔ y = some d) : x = y := by
 cases x with
 | none =>
  cases y with
  | none => rfl
  | some d => exact absurd ((h d).2 rfl) (by simp)
 | some d => exact ((h d).1 rfl).symm
theorem get_one {m : KM} (h : Rise m) (a : ActT) (q : Bs) : getM (oneM m a) q = if q = a.key then (if a.set then some a.data else none) else getM m q := by
 apply opt_ext
 intro d
 rw [getM_mem (h.one a), mem_one]
 by_cases e : q = a.key
 · rw [if_pos e]
   constructor
   · rintro (⟨_, h2⟩ | ⟨h1, h2⟩)
     · exact absurd e h2
     · rw [if_pos h1]; simp at h2; rw [h2.2]
   · intro h1
     by_cases hs : a.set = true
     · rw [if_pos hs] at h1
       simp at h1
       exact Or.inr ⟨hs, by rw [e, h1]⟩
     · rw [if_neg hs] at h1
       cases h1
 · rw [if_neg e, getM_mem h]
   constructor
   · rintro (⟨h1, _⟩ | ⟨_, h2⟩)
     · exact h1
     · simp at h2; exact absurd h2.1 e
   · intro h1
     exact Or.inl ⟨h1, e⟩
theorem len_parts : ∀ {m : KM} (k : Bs), Rise m → (m.filter (fun p => ltB p.1 k)).length + (m.filter (fun p => ltB k p.1)).length + (if (getM m k).isSome then 1 else 0) = m.length
 | [], k, _ => by simp [getM]
 | p :: m, k, h => by
  obtain ⟨h1, h2⟩ := rise_cons.1 h
  have ih := len_parts k h2
  rw [getM_cons]
  rcases ltB_tri p.1 k with c | c | c
  · rw [List.filter_cons_of_pos (by exact c), List.filter_cons_of_neg (by rw [ltB_asym c]; decide), if_neg (ltB_ne c), List.length_cons, List.length_cons]
    omega
  · have e1 : m.filter (fun p => ltB p.1 k) = [] := List.filter_eq_nil_iff.2 (fun q hq => by have := h1 q hq; rw [c] at this; simp [ltB_asym this])
    have e2 : m.filter (fun p => ltB k p.1) = m := List.filter_eq_self.2 (fun q hq => by have := h1 q hq; rw [c] at this; exact this)
    rw [List.filter_cons_of_neg (by rw [c, ltB_irr]; decide), List.filter_cons_of_neg (by rw [c, ltB_irr]; decide), e1, e2, if_pos c]
    simp
  · rw [List.filter_cons_of_neg (by rw [ltB_asym c]; decide), List.filter_cons_of_pos (by exact c), if_neg (show ¬ p.1 = k from fun e => by rw [e, ltB_irr] at c; cases c), List.length_cons, List.length_cons]
    omega
theorem len_one {m : KM} (h : Rise m) (a : ActT) : (oneM m a).length + (if (getM m a.key).isSome then 1 else 0) = m.length + (if a.set then 1 else 0) := by
 have h1 := len_parts a.key h
 unfold oneM
 rw [List.length_append, List.length_append]
 cases a.set <;> simp <;> omega
def slD : Value → DataW Unit
 | .slice none n c => .agg [.lit (.int .i64 (-1)), .lit (.int .i64 0), .lit (.int .i64 (n : Int)), .lit (.int .i64 (c : Int)), .lit (.int .i64 0)]
 | .slice (some ⟨b, o, none⟩) n c => .agg [.lit (.int .i64 (b : Int)), .lit (.int .i64 (o : Int)), .lit (.int .i64 (n : Int)), .lit (.int .i64 (c : Int)), .lit (.int .i64 (-1))]
 | .slice (some ⟨b, o, some s⟩) n c => .agg [.lit (.int .i64 (b : Int)), .lit (.int .i64 (o : Int)), .lit (.int .i64 (n : Int)), .lit (.int .i64 (c : Int)), .lit (.int .i64 (s : Int))]
 | _ => .nil
def isSl : Value → Bool
 | .slice _ _ _ => true
 | _ => false
def slE (v : Value) : Option (DataW Unit × List MemPlace) := if isSl v then some (slD v, []) else none
theorem slE_mk {v : Value} (h : isSl v = true) : slE v = some (slD v, []) := if_pos h
theorem slE_inv {v u : Value} {ps : List MemPlace} (hu : isSl u = true) (h : slE v = some (slD u, ps)) : v = u := by
 unfold slE at h
 split at h
 · rename_i hv
   simp only [Option.some.injEq, Prod.mk.injEq] at h; obtain ⟨e, _⟩ := h
   cases v <;> simp [isSl] at hv
   rename_i ad n c
   cases u <;> simp [isSl] at hu
   rename_i ad2 n2 c2
   rcases ad with _ | ⟨b, o, _ | s⟩ <;> rcases ad2 with _ | ⟨b2, o2, _ | s2⟩ <;> simp [slD] at e ⊢ <;> omega
 · cases h
def litB (s : Bs) : Lit := .string (strB s).data.toList
theorem strB_inj2 {s t : Bs} (h : strB s = strB t) : s = t := by
 have h1 := strB_inj s t
 rw [h] at h1
 simp at h1
 exact h1
theorem litB_inj {s t : Bs} (h : litB s = litB t) : s = t := by
 unfold litB at h
 apply strB_inj2
 revert h
 cases strB s; cases strB t
 intro h
 simp at h
 simp [h]
theorem kSt : Maps.Keyed Tryz.prog 9 := Maps.string_keyed Tryz.underlying9
theorem keyB {s : Bs} (h : s.length ≤ 1000000) : keyOf Tryz.prog 9 (.string (strB s)) = some (litB s) := WideMaps.keyOf_string_mk Tryz.underlying9 (by rw [strB_size]; unfold maxLen; omega)
theorem litBK (s : Bs) : WideAt.IsKeyLit (litB s) := trivial
structure MapM (w : World) (gm n : Nat) (V : Bs → Value) (m : KM) : Prop where
 ex : ∃ D : DataW Unit, w.ownsMap Tryz.prog 9 slE gm n D ∧ Maps.size D = m.length ∧ ∀ s, Maps.has D (litB s) = (getM m s).isSome ∧ ((getM m s).isSome = true → D.atKey (litB s) (slD (.slice none 0 0)) = slD (V s))
 sl : ∀ s, (getM m s).isSome = true → isSl (V s) = true
 up : Rise m
theorem MapM.lt {w : World} {gm n : Nat} {V : Bs → Value} {m : KM} (h : MapM w gm n V m) : gm < w.heap.size := by obtain ⟨D, h1, _⟩ := h.ex; exact h1.lt
theorem MapM.same {w w' : World} {gm n : Nat} {V : Bs → Value} {m : KM} (h : MapM w gm n V m) (e : w'.heap[gm]? = w.heap[gm]?) : MapM w' gm n V m := by
 obtain ⟨D, ⟨es, cl, hb, r⟩, h2⟩ := h.ex
 exact ⟨⟨D, ⟨es, cl, by rw [e]; exact hb, r⟩, h2⟩, h.sl, h.up⟩
theorem MapM.ne {w : World} {gm n : Nat} {V : Bs → Value} {m : KM} (h : MapM w gm n V m) {g : Nat} {cs : Array Value} {t : TypeId} {fr : Nat × Nat} (hb : w.heap[g]? = some (.cells cs t fr)) : gm ≠ g := fun e => by
 obtain ⟨D, ⟨es, cl, hm, _⟩, _⟩ := h.ex
 subst e
 rw [hm] at hb
 cases hb
theorem mapM_new (w : World) (V : Bs → Value) : MapM (w.alloc (.map #[] 0)) w.heap.size 0 V [] :=
 ⟨⟨.map [], World.ownsMap_made w _ _ _, rfl, fun _ => ⟨rfl, fun h => (by cases h)⟩⟩, fun _ h => (by cases h), List.Pairwise.nil⟩
theorem MapM.look {w : World} {gm n : Nat} {V : Bs → Value} {m : KM} (h : MapM w gm n V m) {s : Bs} (hs : s.length ≤ 1000000) : (Instr.lookup 97 (.map (some gm)) (.string (strB s)) true).run Tryz.prog w = .ok (.tuple #[if (getM m s).isSome then V s else .slice none 0 0, .bool (getM m s).isSome]) w := by
 obtain ⟨D, h1, h2, h3⟩ := h.ex
 obtain ⟨v, ps, hr, hv⟩ := h1.look_ok kSt Tryz.underlying97 (z := .slice none 0 0) (by kernel_rfl) (slE_mk rfl) (keyB hs)
 obtain ⟨h4, h5⟩ := h3 s
 rw [h4] at hr
 by_cases c : (getM m s).isSome = true
 · rw [h5 c] at hv
   rw [slE_inv (h.sl s c) hv] at hr; rw [if_pos c]; exact hr
 · have hf : Maps.has D (litB s) = false := by rw [h4]; simpa using c
   rw [Maps.atKey_of_not_has hf] at hv; rw [slE_inv rfl hv] at hr; rw [if_neg c]; exact hr
theorem MapM.len {w : World} {gm n : Nat} {V : Bs → Value} {m : KM} (h : MapM w gm n V m) (ty : TypeId) : (Builtin.len_ #[97] ty #[.map (some gm)]).run Tryz.prog w = .ok (.int .i64 (m.length : Int)) w := by
 obtain ⟨D, h1, h2, _⟩ := h.ex
 rw [h1.len Tryz.underlying97 ty, h2]
theorem mapTurned_only {w w' : World} {gm : Nat} (h : w.mapTurned w' gm) : Only gm w w' := by
 obtain ⟨es, cl, es', cl', hb, rfl⟩ := h
 exact ⟨rfl, rfl, rfl, by simp [ChangeMaps.setBlock], fun k hk _ => ChangeMaps.heap_setBlock_other hb _ hk⟩
theorem MapM.lay {w : World} {gm n : Nat} {V : Bs → Value} {m : KM} (h : MapM w gm n V m) (hn : n < 100000000) {s : Bs} (hs : s.length ≤ 1000000) {v : Value} (hv : isSl v = true) (t : Bs) : ∃ w', (Instr.mapUpdate 97 (.map (some gm)) (.string (strB s)) v).run Tryz.prog w = .ok () w' ∧ MapM w' gm (n + 1) (fun q => if q = s then v else V q) (oneM m ⟨s, true, t⟩) ∧ Only gm w w' := by
 obtain ⟨D, h1, h2, h3⟩ := h.ex
 have hi := h1.isMap
 have ht := h1.tidy kSt
 obtain ⟨w', hr, h4, h5⟩ := h1.store kSt Tryz.underlying97 (by unfold maxLen; omega) (keyB hs) (slE_mk hv)
 refine ⟨w', hr, ⟨⟨_, h4, ?_, fun q => ?_⟩, fun q hq => ?_, h.up.one _⟩, mapTurned_only h5⟩
 · have e1 := Maps.size_put (k := litB s) ht (slD v)
   have e2 := len_one h.up ⟨s, true, t⟩; rw [(h3 s).1] at e1; rw [e1]; simp only [if_true] at e2
   by_cases c : (getM m s).isSome = true
   · rw [if_pos c] at e2 ⊢; omega
   · rw [if_neg c] at e2 ⊢; omega
 · rw [get_one h.up]
   by_cases e : q = s
   · subst e
     refine ⟨?_, fun _ => ?_⟩
     · rw [Maps.has_put_same hi (litBK _)]; simp
     · rw [Maps.atKey_put_same hi (litBK _), if_pos rfl]
   · have hne : litB q ≠ litB s := fun e2 => e (litB_inj e2)
     rw [if_neg e]; refine ⟨?_, fun hq => ?_⟩
     · rw [Maps.has_put_other hne]; exact (h3 q).1
     · rw [Maps.atKey_put_other hne, if_neg e]; exact (h3 q).2 hq
 · show isSl (if q = s then v else V q) = true
   by_cases e : q = s
   · rw [if_pos e]; exact hv
   · rw [if_neg e]
     rw [get_one h.up, if_neg e] at hq; exact h.sl q hq
theorem MapM.cut {w : World} {gm n : Nat} {V : Bs → Value} {m : KM} (h : MapM w gm n V m) {s : Bs} (hs : s.length ≤ 1000000) (ty : TypeId) : ∃ w', (Builtin.delete_ #[97, 9] ty #[.map (some gm), .string (strB s)]).run Tryz.prog w = .ok (.tuple #[]) w' ∧ MapM w' gm n V (oneM m ⟨s, false, []⟩) ∧ Only gm w w' := by
 obtain ⟨D, h1, h2, h3⟩ := h.ex
 have ht := h1.tidy kSt
 obtain ⟨w', hr, h4, h5⟩ := h1.drop kSt Tryz.underlying97 (keyB hs) ty
 refine ⟨w', hr, ⟨⟨_, h4, ?_, fun q => ?_⟩, fun q hq => ?_, h.up.one _⟩, mapTurned_only h5⟩
 · have e1 := Maps.size_del (k := litB s) ht
   have e2 := len_one h.up ⟨s, false, []⟩; rw [(h3 s).1] at e1; simp only [Bool.false_eq_true, if_false] at e2; omega
 · rw [get_one h.up]
   by_cases e : q = s
   · subst e
     refine ⟨?_, fun hq => ?_⟩
     · rw [Maps.has_del_same]; simp
     · simp at hq
   · have hne : litB q ≠ litB s := fun e2 => e (litB_inj e2)
     rw [if_neg e]; refine ⟨?_, fun hq => ?_⟩
     · rw [Maps.has_del_other hne]; exact (h3 q).1
     · rw [Maps.atKey_del_other hne]; exact (h3 q).2 hq
 · rw [get_one h.up] at hq
   by_cases e : q = s
   · rw [if_pos e] at hq; simp at hq
   · rw [if_neg e] at hq; exact h.sl q hq
def RdP (w : World) (v : Value) (ps : List (ActT × Value)) : Prop := ∃ ad cap, v = .slice ad ps.length cap ∧ (0 < ps.length → ∃ b off, ad = some ⟨b, off, none⟩ ∧ ∀ (j : Nat) (p : ActT × Value), ps[j]? = some p → w.rangeAt b (off + j * 3) (actC p.1 p.2))
theorem RdP.form {w : World} {v : Value} {ps : List (ActT × Value)} (h : RdP w v ps) : ∃ ad c, v = .slice ad ps.length c := by
 obtain ⟨ad, c, hv, _⟩ := h
 exact ⟨ad, c, hv⟩
theorem RdP.at {w : World} {ad : Option Addr} {n c : Nat} {ps : List (ActT × Value)} (h : RdP w (.slice ad n c) ps) {j : Nat} {p : ActT × Value} (hj : ps[j]? = some p) : ∃ b off, ad = some ⟨b, off, none⟩ ∧ w.rangeAt b (off + j * 3) (actC p.1 p.2) := by
 obtain ⟨ad', cap, h1, h3⟩ := h
 simp only [Value.slice.injEq] at h1
 obtain ⟨rfl, _, _⟩ := h1
 have hl := (List.getElem?_eq_some_iff.1 hj).1
 obtain ⟨b, off, h4, h5⟩ := h3 (by omega)
 exact ⟨b, off, h4, h5 j p hj⟩
theorem range_mut {w w' : World} {P : Nat → Prop} {b off : Nat} {cs : List Value} (h : w.rangeAt b off cs) (m : Mut P w w') (hb : ¬ P b) : w'.rangeAt b off cs := fun j u hj => by
 have h1 := h j u hj
 rw [World.cell?_of_block (w := w) (m.block b (block_lt_of_cell h1) hb)]
 exact h1
theorem MapM.neC {w : World} {gm n : Nat} {V : Bs → Value} {m : KM} (h : MapM w gm n V m) {a : Addr} {u : Value} (hc : w.cell? a = some u) : a.block ≠ gm := fun e => by
 obtain ⟨D, ⟨es, cl, hm, _⟩, _⟩ := h.ex
 rw [World.cell?, e, hm] at hc
 simp at hc
structure DoS (w : World) (gm n : Nat) (K : Value → Bs → Prop) (m : KM) (V : Bs → Value) (wr : World) : Prop where
 mp : MapM wr gm n V m
 kk : ∀ s t, getM m s = some t → K (V s) t
 mu : Mut (fun j => j = gm) w wr
theorem DoS.below {w wr w' : World} {gm n : Nat} {K : Value → Bs → Prop} {m : KM} {V : Bs → Value} (h : DoS w gm n K m V wr) (hb : Below wr.heap.size wr w') : DoS w gm n K m V w' := ⟨h.mp.same (hb.block gm h.mp.lt), h.kk, h.mu.trans (fun _ _ h => h) (mut_below hb _)⟩
theorem DoS.only {w wr w' : World} {gm n g : Nat} {K : Value → Bs → Prop} {m : KM} {V : Bs → Value} {cs : List Value} {t : TypeId} (h : DoS w gm n K m V wr) (hb : Blk wr g cs t) (hg : w.heap.size ≤ g) (ho : Only g wr w') : DoS w gm n K m V w' :=
 ⟨h.mp.same (ho.block gm (h.mp.ne hb) h.mp.lt), h.kk, h.mu.trans (fun k hk (e : k = g) => absurd hk (by omega)) (ho.mut (P := fun k => k = g) rfl)⟩
theorem DoS.set {w wr w' : World} {gm n : Nat} {K : Value → Bs → Prop} {m : KM} {V : Bs → Value} (h : DoS w gm n K m V wr) {s t : Bs} {v : Value} (hv : K v t) (hm : MapM w' gm (n + 1) (fun q => if q = s then v else V q) (oneM m ⟨s, true, t⟩)) (ho : Only gm wr w') : DoS w gm (n + 1) K (oneM m ⟨s, true, t⟩) (fun q => if q = s then v else V q) w' := by
 refine ⟨hm, fun q u hq => ?_, h.mu.trans (fun _ _ h => h) (ho.mut (P := fun k => k = gm) rfl)⟩
 rw [get_one h.mp.up] at hq
 by_cases e : q = s
 · rw [if_pos e] at hq
   simp at hq
   show K (if q = s then v else V q) u; rw [if_pos e, ← hq]; exact hv
 · rw [if_neg e] at hq
   show K (if q = s then v else V q) u; rw [if_neg e]; exact h.kk q u hq
theorem DoS.del {w wr w' : World} {gm n : Nat} {K : Value → Bs → Prop} {m : KM} {V : Bs → Value} (h : DoS w gm n K m V wr) {s : Bs} (hm : MapM w' gm n V (oneM m ⟨s, false, []⟩)) (ho : Only gm wr w') : DoS w gm (n + 1) K (oneM m ⟨s, false, []⟩) V w' := by
 refine ⟨⟨?_, hm.sl, hm.up⟩, fun q u hq => ?_, h.mu.trans (fun _ _ h => h) (ho.mut (P := fun k => k = gm) rfl)⟩
 · obtain ⟨D, h1, h2⟩ := hm.ex
   exact ⟨D, h1.mono (Nat.le_succ _), h2⟩
 · rw [get_one h.mp.up] at hq
   by_cases e : q = s
   · rw [if_pos e] at hq; simp at hq
   · rw [if_neg e] at hq
     exact h.kk q u hq
theorem one_unset (m : KM) (a : ActT) (h : a.set = false) : oneM m a = oneM m ⟨a.key, false, []⟩ := by unfold oneM; rw [h]; rfl
theorem isSl_form {v : Value} (h : isSl v = true) : ∃ ad n c, v = .slice ad n c := by
 cases v <;> simp [isSl] at h
 exact ⟨_, _, _, rfl⟩
theorem sDo_any {w : World} {gm n : Nat} {V : Bs → Value} {m : KM} (K : Value → Bs → Prop) (hm : MapM w gm n V m) (hK : ∀ s t, getM m s = some t → K (V s) t) (v : Value) (ps : List (ActT × Value)) (hr : RdP w v ps) (hp : ∀ p ∈ ps, p.1.key.length ≤ 1000000 ∧ isSl p.2 = true ∧ (p.1.set = true → K p.2 p.1.data)) (hn : n + ps.length < 10000000) :
 Calls Tryz.prog 54 #[.map (some gm), v] w fun e w' => e = .returned (.tuple #[]) ∧ ∃ V', DoS w gm (n + ps.length) K (doneM m (ps.map (·.1))) V' w' := by
 obtain ⟨ad, cp, hv⟩ := hr.form
 obtain ⟨N, HN⟩ := sqn (ps.length)
 rw [← HN.out] at hv hn ⊢
 subst hv
 have HR : Hid (RdP w (.slice ad N cp) ps) := hr
 have HP : Hid (∀ p ∈ ps, p.1.key.length ≤ 1000000 ∧ isSl p.2 = true ∧ (p.1.set = true → K p.2 p.1.data)) := hp
 have HNN : Hid (n + N < 10000000) := hn
 have HI0 : Hid (DoS w gm (n + 0) K (doneM m ((ps.take 0).map (·.1))) V w) := ⟨hm, hK, Mut.refl _ _⟩
 have HM0 : Hid (MapM w gm n V m) := hm
 clear hr hp hn hm hK
 go_enter Tryz.func54, Tryz.ntmps54
 go_wp2
 go_loopw [8] (fun i wr => ∃ k : Nat, k ≤ N ∧ i = .int .i64 (k : Int) ∧ ∃ V', DoS w gm (n + k) K (doneM m ((ps.take k).map (·.1))) V' wr) (fun i _ => N - (intOf i).toNat)
 case atStart => exact ⟨0, Nat.zero_le _, rfl, V, HI0.out⟩
 case round =>
  clear HI0
  obtain ⟨k, hkn, rfl, V', hI⟩ := hrel
  by_cases hlt : k < N
  · obtain ⟨p, hp⟩ : ∃ p, ps[k]? = some p := ⟨_, List.getElem?_eq_getElem (by rw [← HN.out]; exact hlt)⟩
    obtain ⟨hk1, hk2, hk3⟩ := HP.out p (List.mem_of_getElem? hp); obtain ⟨b, off, e1, hrg⟩ := HR.out.at hp; subst e1; have hneb : ¬ b = gm := HM0.out.neC (hrg 0 _ rfl); have hrw := range_mut hrg hI.mu hneb
    have HTK : Hid (doneM m ((ps.take (k + 1)).map (·.1)) = oneM (doneM m ((ps.take k).map (·.1))) p.1) := by
     show _ = _; rw [List.take_add_one, hp, List.map_append]; exact doneM_snoc _ _ _
    obtain ⟨⟨ky, st, da⟩, vd⟩ := p; obtain ⟨av, nv, cv, hvd⟩ := isSl_form hk2; simp only at hvd; subst hvd; obtain ⟨sk, HSK⟩ := sqn (strB ky)
    have HRW : Hid (wr.rangeAt b (off + k * 3) [.string sk, .bool st, .slice av nv cv]) := by
     show wr.rangeAt _ _ _; rw [HSK.out]; exact hrw
    have HW : Hid (DoS w gm (n + k) K (doneM m ((ps.take k).map (·.1))) V' wr) := hI; have HKY : Hid (ky.length ≤ 1000000 ∧ isSl (.slice av nv cv) = true ∧ (st = true → K (.slice av nv cv) da)) := ⟨hk1, hk2, hk3⟩; have k0 : (0 : Int) ≤ (k : Int) := by omega
    have k3 : (k : Int) < (N : Int) := by omega
    have f5 : IntKind.i64.wrap ((k : Int) + 1) = (k : Int) + 1 := by have := HNN.out; rw [IntKind.wrap_i64]; omega
    clear hI hp hk1 hk2 hk3 hrg hrw hneb; obtain ⟨tk0, tk1, tk2, tk3⟩ := sqk4
    cases st with
    | true =>
     go_wp2_with (first
      | (clear tk3; with_reducible refine wpSeq_idxA (.tmp 6) (.tmp 8) b off N cp k hlt ?_ ?_ ?_ ?_ ?_
         · rfl
         · rfl
         · rfl
         · rfl)
      | (clear tk0; with_reducible refine wpSeq_loadW 62 (.tmp 10) b (off + k * 3) [.string sk, .bool true, .slice av nv cv] _ HRW.out Tryz.underlying62 rfl (info_act15 _ _ _) ?_ ?_ ?_ ?_
         · rfl
         · rfl
         · rfl)
      | (clear tk1; with_reducible refine wpSeq_allocA ?_ ?_ ?_
         · rfl
         · rfl
         intro g5 y1 nn; have H5 : Hid (Blk y1 g5 zA 62) := nn.blk; have HG5 : Hid (w.heap.size ≤ g5) := Nat.le_trans HW.out.mu.size nn.ge; replace HW : Hid (DoS w gm (n + k) K (doneM m ((ps.take k).map (·.1))) V' y1) := HW.out.below nn.below; clear nn)
      | (clear tk2; with_reducible refine wpSeq_storeRow 62 (.tmp 5) (.tmp 11) g5 zA [.string sk, .bool true, .slice av nv cv] H5.out rfl (info_act15 _ _ _) (one_act _ _ _ _ _) ?_ ?_ ?_ ?_ ?_
         · rfl
         · rfl
         · rfl
         · rfl
         intro y2 sr; replace HW : Hid (DoS w gm (n + k) K (doneM m ((ps.take k).map (·.1))) V' y2) := HW.out.only H5.out HG5.out sr.only; have c0 : y2.cell? ⟨g5, 0, none⟩ = some (.string sk) := sr.blk.cell 0; have c1 : y2.cell? ⟨g5, 1, none⟩ = some (.bool true) := sr.blk.cell 1; have c2 : y2.cell? ⟨g5, 2, none⟩ = some (.slice av nv cv) := sr.blk.cell 2; obtain ⟨y3, hr3, hm3, ho3⟩ := HW.out.mp.lay (by have := HNN.out; omega) HKY.out.1 HKY.out.2.1 da
         rw [← HSK.out] at hr3; have HW3 : Hid (DoS w gm (n + k + 1) K (oneM (doneM m ((ps.take k).map (·.1))) ⟨ky, true, da⟩) (fun q => if q = ky then .slice av nv cv else V' q) y3) := HW.out.set (HKY.out.2.2 rfl) hm3 ho3
         clear sr hm3 ho3))
     go_roundw
     case rel => exact ⟨k + 1, hlt, rfl, _, by rw [HTK.out]; exact HW3.out⟩
     case measure => simp [intOf]; omega
    | false =>
     go_wp2_with (first
      | (clear tk3; with_reducible refine wpSeq_idxA (.tmp 6) (.tmp 8) b off N cp k hlt ?_ ?_ ?_ ?_ ?_
         · rfl
         · rfl
         · rfl
         · rfl)
      | (clear tk0; with_reducible refine wpSeq_loadW 62 (.tmp 10) b (off + k * 3) [.string sk, .bool false, .slice av nv cv] _ HRW.out Tryz.underlying62 rfl (info_act15 _ _ _) ?_ ?_ ?_ ?_
         · rfl
         · rfl
         · rfl)
      | (clear tk1; with_reducible refine wpSeq_allocA ?_ ?_ ?_
         · rfl
         · rfl
         intro g5 y1 nn; have H5 : Hid (Blk y1 g5 zA 62) := nn.blk; have HG5 : Hid (w.heap.size ≤ g5) := Nat.le_trans HW.out.mu.size nn.ge; replace HW : Hid (DoS w gm (n + k) K (doneM m ((ps.take k).map (·.1))) V' y1) := HW.out.below nn.below; clear nn)
      | (clear tk2; with_reducible refine wpSeq_storeRow 62 (.tmp 5) (.tmp 11) g5 zA [.string sk, .bool false, .slice av nv cv] H5.out rfl (info_act15 _ _ _) (one_act _ _ _ _ _) ?_ ?_ ?_ ?_ ?_
         · rfl
         · rfl
         · rfl
         · rfl
         intro y2 sr; replace HW : Hid (DoS w gm (n + k) K (doneM m ((ps.take k).map (·.1))) V' y2) := HW.out.only H5.out HG5.out sr.only; have c0 : y2.cell? ⟨g5, 0, none⟩ = some (.string sk) := sr.blk.cell 0; have c1 : y2.cell? ⟨g5, 1, none⟩ = some (.bool false) := sr.blk.cell 1; obtain ⟨y3, hr3, hm3, ho3⟩ := HW.out.mp.cut HKY.out.1 0; rw [← HSK.out] at hr3; have HW3 : Hid (DoS w gm (n + k + 1) K (oneM (doneM m ((ps.take k).map (·.1))) ⟨ky, false, []⟩) V' y3) := HW.out.del hm3 ho3; clear sr hm3 ho3))
     go_roundw
     case rel => exact ⟨k + 1, hlt, rfl, _, by rw [HTK.out, one_unset _ ⟨ky, false, da⟩ rfl]; exact HW3.out⟩
     case measure => simp [intOf]; omega
  · have hkk : k = N := by omega
    subst hkk
    have HF : Hid (DoS w gm (n + k) K (doneM m (ps.map (·.1))) V' wr) := by
     have h9 := hI; rw [List.take_of_length_le (by rw [← HN.out]; exact Nat.le_refl _)] at h9
     exact h9
    clear hI; go_wp2; refine bodyPost_end (results_none rfl _ _ _) rfl ?_; exact ⟨rfl, _, HF.out⟩
theorem rowP_app (a b : List (ActT × Value)) : rowP (a ++ b) = rowP a ++ rowP b := by simp [rowP]
theorem rowP_idx {ps : List (ActT × Value)} {q : Nat} {u : Value} (h : (rowP ps)[q]? = some u) : ∃ p, ps[q / 3]? = some p ∧ (actC p.1 p.2)[q % 3]? = some u := by
 have hl : q < (rowP ps).length := (List.getElem?_eq_some_iff.1 h).1
 rw [rowP_len] at hl
 have hq : q / 3 < ps.length := by omega
 refine ⟨ps[q / 3], List.getElem?_eq_getElem hq, ?_⟩
 have h3 : q % 3 < (actC ps[q / 3].1 ps[q / 3].2).length := by show q % 3 < 3; omega
 have h4 := rowP_at ps (q / 3) (q % 3) _ _ (List.getElem?_eq_getElem hq) (List.getElem?_eq_getElem h3)
 rw [show q / 3 * 3 + q % 3 = q by omega, h] at h4
 rw [List.getElem?_eq_getElem h3]
 exact h4.symm
theorem rowP_one {ps : List (ActT × Value)} (h : ∀ p ∈ ps, isSl p.2 = true) : ∀ u ∈ rowP ps, u.oneCell' = true := by
 intro u hu
 obtain ⟨q, hq⟩ := List.mem_iff_getElem?.1 hu
 obtain ⟨p, hp, hi⟩ := rowP_idx hq
 obtain ⟨ad, n, c, e⟩ := isSl_form (h p (List.mem_of_getElem? hp))
 rw [actC, e] at hi
 exact one_act _ _ _ _ _ u (List.mem_of_getElem? hi)
theorem build_a0 (f : Operand → Value) (o : Oper) (ho : o.op = .buildSlice 22 0 #[]) (w : World) : (execOp f o).run Tryz.prog w = .ok (.value (.slice (some ⟨w.heap.size, 0, none⟩) 0 0)) (w.alloc (.cells #[] 62)) := by
 unfold execOp
 rw [ho]
 kernel_rfl
theorem wpSeq_buildA0 {ops : Array Oper} {Q : Exit → Act → World → Prop} {rest : List Oper} {o : Oper} {a : Act} {w : World} (ho : o.op = .buildSlice 22 0 #[]) (hw : Region.wanted o (yielded ops a.tmps) = true)
 (h : ∀ g w', w.heap.size ≤ g → w'.ownsRow w.heap.size 62 3 (.slice (some ⟨g, 0, none⟩) 0 0) 0 [] → Below w.heap.size w w' → wpList Tryz.prog ops Q rest (a.put o.dst (.slice (some ⟨g, 0, none⟩) 0 0)) w') : wpList Tryz.prog ops Q (o :: rest) a w :=
 wpSeq_val _ _ hw (build_a0 _ _ ho _) (h _ _ (Nat.le_refl _) ⟨rfl, Or.inr ⟨w.heap.size, 0, #[], rfl, Nat.le_refl _, Blk.new w [] _, Nat.le_refl _, by unfold maxLen; omega, rfl, rfl⟩⟩ (below_alloc _ _))
theorem slCloneA_any {w : World} (v : Value) (ps : List (ActT × Value)) (hr : RdP w v ps) (hs : ∀ p ∈ ps, isSl p.2 = true) (hl : ps.length < 1000000) : Calls Tryz.prog 81 #[v] w fun e w' => ∃ v', e = .returned v' ∧ w'.ownsRow w.heap.size 62 3 v' ps.length (rowP ps) ∧ Below w.heap.size w w' := by
 obtain ⟨ad, cp, hv, hx⟩ := id hr
 obtain ⟨N, HN⟩ := sqn (ps.length)
 rw [← HN.out] at hv hl
 subst hv
 have HR : Hid (RdP w (.slice ad N cp) ps) := hr
 have HS : Hid (∀ u ∈ rowP ps, u.oneCell' = true) := rowP_one hs
 have HL : Hid (N < 1000000) := hl
 cases ad with
 | none =>
  have h0 : ps = [] := by
   rcases Nat.eq_zero_or_pos ps.length with h | h
   · exact List.eq_nil_of_length_eq_zero h
   · obtain ⟨b, off, e, _⟩ := hx h
     cases e
  have HF : Hid (w.ownsRow w.heap.size 62 3 (.slice none 0 0) ps.length (rowP ps)) := by
   show World.ownsRow _ _ _ _ _ _ _; rw [h0]; exact World.ownsRow_nil _ _ _ _
  clear hr hx hs hl h0
  have fe : (binOp .eql 22 (.slice none N cp) (.slice none 0 0)).run Tryz.prog w = .ok (.bool true) w := by kernel_rfl
  go_enter Tryz.func81, Tryz.ntmps81
  go_wp2
  go_ret
  exact ⟨_, rfl, HF.out, Below.refl _ _⟩
 | some a =>
  have HRG : Hid (∀ q u, (rowP ps)[q]? = some u → w.cell? (a.add q) = some u) := fun q u hq => by
   obtain ⟨p, hp, hi⟩ := rowP_idx hq; obtain ⟨b, off, e, h⟩ := HR.out.at hp
   cases e
   have h2 := h _ _ hi; rw [Addr.add_mid]; rw [show off + q / 3 * 3 + q % 3 = off + q by omega] at h2
   exact h2
  clear hr hx hs hl
  have fe : (binOp .eql 22 (.slice (some a) N cp) (.slice none 0 0)).run Tryz.prog w = .ok (.bool false) w := by kernel_rfl
  go_enter Tryz.func81, Tryz.ntmps81
  obtain ⟨tk0, tk1⟩ := sqk2
  go_wp2_with (first
   | (clear tk0; with_reducible refine wpSeq_buildA0 ?_ ?_ ?_
      · rfl
      · rfl
      intro g5 y1 hg5 ow1 bl1; have HO : Hid (y1.ownsRow w.heap.size 62 3 (.slice (some ⟨g5, 0, none⟩) 0 0) 0 []) := ow1; have HBL : Hid (Below w.heap.size w y1) := bl1
      have HRG1 : Hid (∀ q u, (rowP ps)[q]? = some u → y1.cell? (a.add q) = some u) := fun q u hq => by
       have h2 := HRG.out q u hq; rw [bl1.cell (p := a.add q) (block_lt_of_cell h2)]; exact h2
      clear ow1 bl1 hg5)
   | (clear tk1; at_builtin
      obtain ⟨i0, hi, hz0, hz1, hz2⟩ := info_parts Tryz.infoact; refine wpList_append_own (P := Tryz.prog) y1 rfl (.tmp 5) (.tmp 6) 22 rfl w.heap.size 62 i0 (.agg zA.toArray) 3 48 Tryz.underlying22 hi hz0 hz1 hz2 rfl (by decide) _ 0 [] rfl HO.out a N cp (rowP ps) rfl (by rw [rowP_len, HN.out]) HRG1.out HS.out (by unfold maxLen; have := HL.out; omega) (by have := HL.out; omega) HBL.out.size ?_
      intro v2 y2 ow2 gr2 _
      have HF : Hid (y2.ownsRow w.heap.size 62 3 v2 ps.length (rowP ps)) := by
       show World.ownsRow _ _ _ _ _ _ _; rw [Nat.zero_add, List.nil_append, HN.out] at ow2; exact ow2
      have HB2 : Hid (Below w.heap.size w y2) := HBL.out.trans ((Below.refl _ _).grown gr2 HBL.out.size (fun k hk => (World.ownsRow.lt HO.out k hk).1))
      clear ow2 gr2 hi hz0 hz1 hz2))
  go_ret
  exact ⟨_, rfl, HF.out, HB2.out⟩
theorem OwnB.isSl {w : World} {base : Nat} {v : Value} {l : Bs} (h : OwnB w base v l) : isSl v = true := by
 obtain ⟨_, ⟨rfl, _⟩ | ⟨g, cap, cur, rfl, _⟩⟩ := h
 · rfl
 · rfl
structure CpI (w : World) (g : Nat) (ps qs : List (ActT × Value)) (k : Nat) (tail : List Value) (W : World) : Prop where
 blk : Blk W g (rowP (qs ++ ps.drop k) ++ tail) 62
 len : qs.length = k
 fst : qs.map (·.1) = (ps.take k).map (·.1)
 dat : ∀ p ∈ qs, OwnB W w.heap.size p.2 p.1.data
 bel : Below w.heap.size w W
theorem OwnB.onlyA {w w' : World} {base g : Nat} {v : Value} {l : Bs} {cs : List Value} (h : OwnB w base v l) (hb : Blk w g cs 62) (ho : Only g w w') : OwnB w' base v l :=
 h.sameS (fun k hk => ho.block k (fun e => by subst e; exact h.neA hb (by decide) hk) (h.ltS k hk).2)
theorem sCopies_any {w : World} (v : Value) (ps : List (ActT × Value)) (hr : RdP w v ps) (hs : ∀ p ∈ ps, isSl p.2 = true) (hd : ∀ p ∈ ps, Reads w p.2 p.1.data) (hb : ∀ p ∈ ps, p.1.data.length ≤ 140737488355328) (hl : ps.length < 1000000) : Calls Tryz.prog 55 #[v] w fun e w' => ∃ v' qs, e = .returned v' ∧ OwnA w' w.heap.size v' qs ∧ qs.map (·.1) = ps.map (·.1) ∧ Below w.heap.size w w' := by
 have hcl := slCloneA_any v ps hr hs hl
 obtain ⟨N, HN⟩ := sqn (ps.length)
 have HCL : Hid (Calls Tryz.prog 81 #[v] w fun e w' => ∃ v', e = .returned v' ∧ w'.ownsRow w.heap.size 62 3 v' ps.length (rowP ps) ∧ Below w.heap.size w w') := hcl
 have HD : Hid (∀ p ∈ ps, Reads w p.2 p.1.data ∧ p.1.data.length ≤ 140737488355328) := fun p hp => ⟨hd p hp, hb p hp⟩
 have HSL : Hid (∀ p ∈ ps, isSl p.2 = true) := hs
 have HNL : Hid (N < 1000000) := by show N < _; rw [HN.out]; exact hl
 clear hcl hr hs hd hb hl
 go_enter Tryz.func55, Tryz.ntmps55
 have tk0 : Hid True := trivial
 go_wp2_with (first
  | (clear tk0; go_at_call 81; refine (HCL.out).mono ?_; rintro e0 y0 ⟨vc, rfl, ow0, bl0⟩
     obtain ⟨ad, cp, hvc⟩ : ∃ ad cp, vc = .slice ad N cp := by
      obtain ⟨_, ⟨rfl, h0⟩ | ⟨g, cap, cur, rfl, _⟩⟩ := ow0
      · exact ⟨none, 0, by rw [HN.out, h0]⟩
      · exact ⟨_, _, by rw [HN.out]⟩
     subst hvc; have HOW : Hid (y0.ownsRow w.heap.size 62 3 (.slice ad N cp) ps.length (rowP ps)) := ow0; have HB0 : Hid (Below w.heap.size w y0) := bl0; clear ow0 bl0))
 by_cases hz : N = 0
 · subst hz
   have HF : Hid (OwnA y0 w.heap.size (.slice ad 0 cp) [] ∧ ([] : List (ActT × Value)).map (·.1) = ps.map (·.1)) := by
    have e : ps = [] := List.eq_nil_of_length_eq_zero HN.out.symm; have h1 := HOW.out; rw [e] at h1 ⊢; exact ⟨⟨h1, fun p hp => by cases hp⟩, rfl⟩
   go_loopw [9] (fun i wr => i = .int .i64 0 ∧ wr = y0) (fun _ _ => 0)
   case atStart => exact ⟨rfl, rfl⟩
   case round =>
    obtain ⟨rfl, rfl⟩ := hrel; go_wp2; go_ret; exact ⟨_, rfl, [], HF.out.1, HF.out.2, HB0.out⟩
 · obtain ⟨g, tail, HG⟩ : ∃ g tail, Hid (ad = some ⟨g, 0, none⟩ ∧ w.heap.size ≤ g ∧ Blk y0 g (rowP ps ++ tail) 62 ∧ N ≤ cp ∧ cp ≤ maxLen ∧ (rowP ps ++ tail).length = cp * 3) := by
    obtain ⟨h1, ⟨e, h0⟩ | ⟨g, cap, cur, e, hg, hh, hc, hmx, hsz, ht⟩⟩ := HOW.out
    · exact absurd (by rw [HN.out]; exact h0) hz
    · simp only [Value.slice.injEq] at e
      obtain ⟨rfl, _, rfl⟩ := e; have e2 : rowP ps ++ cur.toList.drop (ps.length * 3) = cur.toList := by rw [← ht]; exact List.take_append_drop _ _
      refine ⟨g, cur.toList.drop (ps.length * 3), rfl, hg, ?_, by rw [HN.out]; exact hc, hmx, by rw [e2]; simpa using hsz⟩
      rw [e2]; exact hh
   obtain ⟨hga, hge, hblk, hnc, hcm, hlen⟩ := HG.out; subst hga; have HI0 : Hid (CpI w g ps [] 0 tail y0) := ⟨hblk, rfl, rfl, fun p hp => (by cases hp), HB0.out⟩
   have HGE : Hid (w.heap.size ≤ g) := hge; have HCP : Hid (N ≤ cp ∧ cp ≤ maxLen ∧ (rowP ps ++ tail).length = cp * 3) := ⟨hnc, hcm, hlen⟩; clear hge hblk hnc hcm hlen HG HOW HB0
   go_loopw [9] (fun i wr => ∃ (k : Nat) (qs : List (ActT × Value)), k ≤ N ∧ i = .int .i64 (k : Int) ∧ CpI w g ps qs k tail wr) (fun i _ => N - (intOf i).toNat)
   case atStart => exact ⟨0, [], Nat.zero_le _, rfl, HI0.out⟩
   case round =>
    clear HI0; obtain ⟨k, qs, hkn, rfl, hI⟩ := hrel; have HI : Hid (CpI w g ps qs k tail wr) := hI
    by_cases hlt : k < N
    · obtain ⟨p, hp⟩ : ∃ p, ps[k]? = some p := ⟨_, List.getElem?_eq_getElem (by rw [← HN.out]; exact hlt)⟩
      have hdr : ps.drop k = p :: ps.drop (k + 1) := by
       rw [List.drop_eq_getElem_cons (by rw [← HN.out]; exact hlt)]
       congr 1
       rw [List.getElem?_eq_getElem (by rw [← HN.out]; exact hlt)] at hp
       simpa using hp
      obtain ⟨hrd, hbd⟩ := HD.out p (List.mem_of_getElem? hp); have hbr := hI.blk; rw [hdr, rowP_app] at hbr; obtain ⟨av, nv, cv, hvd⟩ := isSl_form (HSL.out p (List.mem_of_getElem? hp)); obtain ⟨⟨ky, st, da⟩, vd⟩ := p; simp only at hvd; subst hvd; have hq3 : (rowP qs).length = k * 3 := by rw [rowP_len, hI.len]
      have d2 : wr.cell? ⟨g, k * 3 + 2, none⟩ = some (.slice av nv cv) := by
       rw [hbr.cell, List.append_assoc, List.getElem?_append_right (by omega), hq3, show k * 3 + 2 - k * 3 = 2 by omega]
       rfl
      have HBC : Hid (Calls Tryz.prog 64 #[.slice av nv cv] wr fun e w' => ∃ v', e = .returned v' ∧ OwnB w' wr.heap.size v' da ∧ Below wr.heap.size wr w') := bclone_any _ _ _ (hrd.below hI.bel) hbd
      have HNX : Hid (∀ y z a n c, z = .slice a n c → OwnB y wr.heap.size z da → Below wr.heap.size wr y → Blk y g (rowP qs ++ (actC ⟨ky, st, da⟩ (.slice av nv cv) ++ rowP (ps.drop (k + 1))) ++ tail) 62 ∧ CpI w g ps (qs ++ [(⟨ky, st, da⟩, z)]) (k + 1) tail (y.setCell ⟨g, k * 3 + 2, none⟩ z)) := by
       intro y z a n c hz2 ow bl; have hby : Blk y g (rowP qs ++ (actC ⟨ky, st, da⟩ (.slice av nv cv) ++ rowP (ps.drop (k + 1))) ++ tail) 62 := hbr.below bl hbr.lt; have on := Only.setCell (Only.refl g y) (k * 3 + 2) z; refine ⟨hby, ⟨?_, by rw [List.length_append, hI.len]; rfl, ?_, ?_, ?_⟩⟩
       · have h7 := hby.set (k * 3 + 2) z
         have e7 : (rowP qs ++ (actC ⟨ky, st, da⟩ (.slice av nv cv) ++ rowP (ps.drop (k + 1))) ++ tail).set (k * 3 + 2) z = rowP (qs ++ [(⟨ky, st, da⟩, z)] ++ ps.drop (k + 1)) ++ tail := by
          rw [rowP_app, rowP_snoc, List.append_assoc, List.append_assoc, List.append_assoc, List.set_append_right _ _ (by omega), hq3, show k * 3 + 2 - k * 3 = 2 by omega, List.append_assoc]
          rfl
         rw [e7] at h7; exact h7
       · rw [List.map_append, hI.fst, List.take_add_one, hp, List.map_append]; rfl
       · intro q hq
         rcases List.mem_append.1 hq with hq | hq
         · have h8 := hI.dat q hq
           exact (h8.below bl (Nat.le_refl _)).onlyA hby on
         · simp at hq
           rw [hq]
           have h8 : OwnB y w.heap.size z da := by
            obtain ⟨g1, ⟨e9, g2⟩ | ⟨gg, cap, cur, e9, hg9, r9⟩⟩ := ow
            · exact ⟨g1, Or.inl ⟨e9, g2⟩⟩
            · exact ⟨g1, Or.inr ⟨gg, cap, cur, e9, Nat.le_trans hI.bel.size hg9, r9⟩⟩
           exact h8.onlyA hby on
       · exact (hI.bel.trans (bl.mono hI.bel.size)).trans (on.below HGE.out (Nat.le_trans hI.bel.size bl.size))
      have k0 : (0 : Int) ≤ (k : Int) := by omega
      have k3 : (k : Int) < (N : Int) := by omega
      have f5 : IntKind.i64.wrap ((k : Int) + 1) = (k : Int) + 1 := by have := HNL.out; rw [IntKind.wrap_i64]; omega
      clear hI hp hdr hrd hbd hbr hq3; obtain ⟨tk1, tk2, tk3⟩ := sqk3
      go_wp2_with (first
       | (clear tk1; with_reducible refine wpSeq_idxA (.tmp 14) (.tmp 15) g 0 N cp k hlt ?_ ?_ ?_ ?_ ?_
          · rfl
          · rfl
          · rfl
          · rfl
          rw [Nat.zero_add])
       | (clear tk2; go_at_call 64; refine (HBC.out).mono ?_; rintro e4 y4 ⟨v4, rfl, ow4, bl4⟩
          obtain ⟨a4, c4, hv4⟩ : ∃ a c, v4 = .slice a da.length c := by obtain ⟨a, c, h, _⟩ := ow4.reads; exact ⟨a, c, h⟩
          obtain ⟨n4, HN4⟩ := sqn (da.length); rw [← HN4.out] at hv4; obtain ⟨hb4, hi4⟩ := HNX.out y4 v4 a4 n4 c4 hv4 ow4 bl4; subst hv4; have HI4 : Hid (CpI w g ps (qs ++ [(⟨ky, st, da⟩, .slice a4 n4 c4)]) (k + 1) tail (y4.setCell ⟨g, k * 3 + 2, none⟩ (.slice a4 n4 c4))) := hi4; have hf4 := hb4.frozen (k * 3 + 2)
          have hc4 : y4.cell? ⟨g, k * 3 + 2, none⟩ = some (.slice av nv cv) := by
           have h9 := d2; rw [← bl4.cell (p := ⟨g, k * 3 + 2, none⟩) (block_lt_of_cell h9)] at h9; exact h9
          clear ow4 bl4 hb4 hi4)
       | (clear tk3; with_reducible refine wpSeq_idxA (.tmp 12) (.tmp 13) g 0 N cp k hlt ?_ ?_ ?_ ?_ ?_
          · rfl
          · rfl
          · rfl
          · rfl
          rw [Nat.zero_add]))
      go_roundw
      case rel => exact ⟨k + 1, _, hlt, rfl, HI4.out⟩
      case measure => simp [intOf]; omega
    · have hkk : k = N := by omega
      subst hkk
      have HF : Hid (OwnA wr w.heap.size (.slice (some ⟨g, 0, none⟩) k cp) qs ∧ qs.map (·.1) = ps.map (·.1) ∧ Below w.heap.size w wr) := by
       have hb := hI.blk; rw [List.drop_eq_nil_of_le (by rw [← HN.out]; exact Nat.le_refl _), List.append_nil] at hb
       have hql : qs.length = k := hI.len; have hrl : (rowP qs).length = (rowP ps).length := by rw [rowP_len, rowP_len, hql, HN.out]
       refine ⟨⟨⟨rowP_len qs, Or.inr ⟨g, cp, (rowP qs ++ tail).toArray, by rw [hql], HGE.out, hb, by rw [hql]; exact HCP.out.1, HCP.out.2.1, ?_, ?_⟩⟩, hI.dat⟩, ?_, hI.bel⟩
       · have h9 := HCP.out.2.2
         rw [List.size_toArray, List.length_append, hrl, ← List.length_append]; exact h9
       · rw [List.toList_toArray, ← rowP_len, List.take_left]
       · rw [hI.fst, List.take_of_length_le (by rw [← HN.out]; exact Nat.le_refl _)]
      clear hI; go_wp2; go_ret; exact ⟨_, rfl, qs, HF.out.1, HF.out.2.1, HF.out.2.2⟩
def Um (P Q : Nat → Prop) (g : Nat) : Nat → Prop := fun k => Un P Q k ∨ k = g
theorem DkIs.belowS {w w' : World} {g : Nat} {P : Nat → Prop} {D : DkT} (h : DkIs w g P D) (hb : Below w.heap.size w w') : DkIs w' g P D := by
 obtain ⟨gs, vw, fu, lf, hm, hP⟩ := h
 exact ⟨gs, vw, fu, lf, hm.below hb, hP⟩
structure StM (w : World) (gs gd lg gm n : Nat) (P Q : Nat → Prop) (V : Bs → Value) (m : KM) (D : DkT) (J : JnT) : Prop where
 sb : Blk w gs [.pointer (some ⟨lg, 0, none⟩), .map (some gm)] 99
 pk : Pk LgJ w gd lg P Q D J
 mp : MapM w gm n V m
 tx : ∀ s t, getM m s = some t → Sta (Um P Q gm) w (fun W => Reads W (V s) t) ∧ t.length ≤ 1048576
 ns : ¬ Un P Q gs
 nm : ¬ Un P Q gm
theorem sGet_any {w : World} {gs gm n : Nat} {lv : Value} {V : Bs → Value} {m : KM} (hsb : Blk w gs [lv, .map (some gm)] 99) (hm : MapM w gm n V m) (htx : ∀ s t, getM m s = some t → Reads w (V s) t ∧ t.length ≤ 1048576) (s : Bs) (hs : s.length ≤ 1000000) :
 Calls Tryz.prog 32 #[.pointer (some ⟨gs, 0, none⟩), .string (strB s)] w fun e w' => ∃ v', e = .returned (.tuple #[v', .bool (getM m s).isSome]) ∧ OwnB w' w.heap.size v' ((getM m s).getD []) ∧ Below w.heap.size w w' := by
 have c1 : w.cell? ⟨gs, 1, none⟩ = some (.map (some gm)) := hsb.cell 1
 have hk := hm.look hs
 obtain ⟨sk, HSK⟩ := sqn (strB s)
 rw [← HSK.out] at hk ⊢
 cases e : getM m s with
 | none =>
  rw [e] at hk
  simp only [Option.isSome_none, Bool.false_eq_true, if_false] at hk
  have HBC : Hid (Calls Tryz.prog 64 #[.slice none 0 0] w fun e w' => ∃ v', e = .returned v' ∧ OwnB w' w.heap.size v' [] ∧ Below w.heap.size w w') := bclone_any _ [] w (reads_nil13 w) (by decide)
  clear hsb hm htx e hs
  go_enter Tryz.func32, Tryz.ntmps32
  go_wp2_with (first
   | (go_at_call 64; refine (HBC.out).mono ?_; rintro e4 y4 ⟨v4, rfl, ow4, bl4⟩
      have HO : Hid (OwnB y4 w.heap.size v4 [] ∧ Below w.heap.size w y4) := ⟨ow4, bl4⟩; clear ow4 bl4))
  refine bodyPost_ret (results_tmp2 rfl _ _ _) rfl ?_
  exact ⟨v4, rfl, HO.out.1, HO.out.2⟩
 | some t =>
  rw [e] at hk
  simp only [Option.isSome_some, if_true] at hk
  obtain ⟨hrd, hle⟩ := htx s t e
  obtain ⟨av, nv, cv, hvs⟩ := isSl_form (hm.sl s (by rw [e]; rfl))
  have HBC : Hid (Calls Tryz.prog 64 #[.slice av nv cv] w fun e w' => ∃ v', e = .returned v' ∧ OwnB w' w.heap.size v' t ∧ Below w.heap.size w w') := by rw [← hvs]; exact bclone_any _ t w hrd (Nat.le_trans hle (by decide))
  rw [hvs] at hk
  clear hsb hm htx e hs hrd hle hvs
  go_enter Tryz.func32, Tryz.ntmps32
  go_wp2_with (first
   | (go_at_call 64; refine (HBC.out).mono ?_; rintro e4 y4 ⟨v4, rfl, ow4, bl4⟩
      have HO : Hid (OwnB y4 w.heap.size v4 t ∧ Below w.heap.size w y4) := ⟨ow4, bl4⟩; clear ow4 bl4))
  refine bodyPost_ret (results_tmp2 rfl _ _ _) rfl ?_
  exact ⟨v4, rfl, HO.out.1, HO.out.2⟩
theorem sLen_any {w : World} {gs gm n : Nat} {lv : Value} {V : Bs → Value} {m : KM} (hsb : Blk w gs [lv, .map (some gm)] 99) (hm : MapM w gm n V m) : Calls Tryz.prog 36 #[.pointer (some ⟨gs, 0, none⟩)] w fun e w' => e = .returned (.int .i64 (m.length : Int)) ∧ w' = w := by
 have c1 : w.cell? ⟨gs, 1, none⟩ = some (.map (some gm)) := hsb.cell 1
 have hk := fun ty => hm.len ty
 clear hsb hm
 go_enter Tryz.func36, Tryz.ntmps36
 go_wp2
 go_ret
 exact ⟨rfl, rfl⟩
theorem wpSeq_mkMap {ops : Array Oper} {Q : Exit → Act → World → Prop} {rest : List Oper} {o : Oper} {a : Act} {w : World} (V : Bs → Value) (ho : o.op = .makeMap 97 none) (hw : Region.wanted o (yielded ops a.tmps) = true)
 (h : ∀ gm w', w.heap.size ≤ gm → MapM w' gm 0 V [] → Below w.heap.size w w' → wpList Tryz.prog ops Q rest (a.put o.dst (.map (some gm))) w') : wpList Tryz.prog ops Q (o :: rest) a w := by
 refine wpSeq_val _ _ hw ?_ (h _ _ (Nat.le_refl _) (mapM_new w V) (below_alloc _ _))
 unfold execOp
 rw [ho]
 rfl
def nilV : Bs → Value := fun _ => .slice none 0 0
theorem sLoad_empty {w : World} {gd : Nat} {P : Nat → Prop} {D : DkT} (hK : KOk w) (hd : DkIs w gd P D) (hw : D.wait.length ≤ 200) (hl : (dumpD D).length < 8000000) (h0 : rdL14 (dumpD D) = []) :
 Calls Tryz.prog 61 #[.pointer (some ⟨gd, 0, none⟩)] w fun e w' => ∃ gm, e = .returned (.tuple #[.map (some gm), .bool true]) ∧ MapM w' gm 0 nilV [] ∧ Below w.heap.size w w' ∧ w.heap.size ≤ gm := by
 have HD : Hid (DkIs w gd P D ∧ D.wait.length ≤ 200 ∧ (dumpD D).length < 8000000 ∧ rdL14 (dumpD D) = [] ∧ KOk w) := ⟨hd, hw, hl, h0, hK⟩
 clear hd hw hl h0 hK
 obtain ⟨gn, HGN⟩ := sqn ((rdG14 (dumpD D) : Int))
 obtain ⟨xn, HXN⟩ := sqn (rdX14 (dumpD D))
 go_enter Tryz.func61, Tryz.ntmps61
 obtain ⟨tk0, tk1, tk2⟩ := sqk3
 go_wp2_with (first
  | (clear tk0; with_reducible refine wpSeq_mkMap nilV ?_ ?_ ?_
     · rfl
     · rfl
     intro gm y0 hg0 hm0 bl0; have HM : Hid (MapM y0 gm 0 nilV []) := hm0; have HB : Hid (Below w.heap.size w y0 ∧ w.heap.size ≤ gm) := ⟨bl0, hg0⟩; clear hg0 hm0 bl0)
  | (clear tk1; go_at_call 25; refine (dkDump_b (HD.out.1.belowS HB.out.1) HD.out.2.1).mono ?_; rintro e1 y1 ⟨vd, rfl, hr1, bl1⟩
     have HR1 : Hid (Reads y1 vd (dumpD D)) := hr1; replace HM : Hid (MapM y1 gm 0 nilV []) := HM.out.same (bl1.block gm HM.out.lt); replace HB : Hid (Below w.heap.size w y1 ∧ w.heap.size ≤ gm) := ⟨HB.out.1.trans (bl1.mono HB.out.1.size), HB.out.2⟩; clear hr1 bl1)
  | (clear tk2; go_at_call 86; refine (jRead_any vd (dumpD D) HD.out.2.2.1 y1 (HD.out.2.2.2.2.below HB.out.1 HD.out.2.2.2.2.lt) HR1.out).mono ?_; rintro e2 y2 ⟨lv, rfl, hl2, bl2⟩
     rw [HD.out.2.2.2.1] at hl2; obtain ⟨al, cl, hlv⟩ : ∃ a c, lv = .slice a 0 c := by obtain ⟨a, c, h, _⟩ := hl2; exact ⟨a, c, h⟩
     subst hlv; rw [← HGN.out, ← HXN.out]; replace HM : Hid (MapM y2 gm 0 nilV []) := HM.out.same (bl2.block gm HM.out.lt); replace HB : Hid (Below w.heap.size w y2 ∧ w.heap.size ≤ gm) := ⟨HB.out.1.trans (bl2.mono HB.out.1.size), HB.out.2⟩; clear hl2 bl2 HR1))
 go_loopw [25] (fun i wr => i = .int .i64 0 ∧ wr = y2) (fun _ _ => 0)
 case atStart => exact ⟨rfl, rfl⟩
 case round =>
  obtain ⟨rfl, rfl⟩ := hrel
  go_wp2
  refine bodyPost_ret (results_tmp2 rfl _ _ _) rfl ?_
  exact ⟨gm, rfl, HM.out, HB.out.1, HB.out.2⟩
theorem dump_zero (m : Nat) : dumpD (zeroD m) = List.replicate (64 * m) 0 := by rw [zeroD_load]; exact dump_idle _
theorem rdl_zero (m : Nat) : rdL14 (dumpD (zeroD m)) = [] := by
 unfold rdL14
 split
 · unfold readJ
   rw [dump_zero, pick_zero]
   rfl
 · rfl
theorem DkIs.ltS {w : World} {g : Nat} {P : Nat → Prop} {D : DkT} (h : DkIs w g P D) : ∀ k, P k → k < w.heap.size := by
 obtain ⟨gs, vw, fu, lf, hm, hP⟩ := h
 subst hP
 exact hm.lt
theorem LgJ.ltS {w : World} {lg gd n : Nat} {Q : Nat → Prop} {J : JnT} (h : LgJ w lg Q gd n J) : ∀ k, Q k → k < w.heap.size := by
 obtain ⟨vr, us, hm, hQ⟩ := h
 subst hQ
 exact hm.lt
theorem LgJ.sameS {w w' : World} {lg gd n : Nat} {Q : Nat → Prop} {J : JnT} (h : LgJ w lg Q gd n J) (hs : w.heap.size ≤ w'.heap.size) (hq : ∀ k, Q k → w'.heap[k]? = w.heap[k]?) : LgJ w' lg Q gd n J := by
 obtain ⟨vr, us, hm, hQ⟩ := h
 subst hQ
 exact ⟨vr, us, hm.same hs hq, rfl⟩
theorem Pk.belowS {w w' : World} {gd lg : Nat} {P Q : Nat → Prop} {D : DkT} {J : JnT} (h : Pk LgJ w gd lg P Q D J) (hb : Below w.heap.size w w') : Pk LgJ w' gd lg P Q D J := ⟨h.dk.belowS hb, h.lg.sameS hb.size (fun k hk => hb.block k (h.lg.ltS k hk)), h.ap⟩
theorem StM.below {w w' : World} {gs gd lg gm n : Nat} {P Q : Nat → Prop} {V : Bs → Value} {m : KM} {D : DkT} {J : JnT} (h : StM w gs gd lg gm n P Q V m D J) (hb : Below w.heap.size w w') : StM w' gs gd lg gm n P Q V m D J :=
 ⟨h.sb.below hb h.sb.lt, h.pk.belowS hb, h.mp.same (hb.block gm h.mp.lt), fun s t ht => ⟨(h.tx s t ht).1.below hb, (h.tx s t ht).2⟩, h.ns, h.nm⟩
theorem sOpen_zero {w : World} {gd : Nat} {P : Nat → Prop} (m : Nat) (hK : KOk w) (hd : DkIs w gd P (zeroD m)) (h8 : 8 ≤ m) (h9 : m ≤ 100) :
 Calls Tryz.prog 28 #[.pointer (some ⟨gd, 0, none⟩)] w fun e w' => ∃ gs lg gm P' Q, e = .returned (.tuple #[.pointer (some ⟨gs, 0, none⟩), .int .i64 0]) ∧ StM w' gs gd lg gm 0 P' Q nilV [] (openD (zeroD m)) ⟨0, 1, []⟩ ∧ Mut P w w' ∧ Grew w P P' ∧ (∀ k, Q k → w.heap.size ≤ k) ∧ w.heap.size ≤ gs ∧ w.heap.size ≤ gm := by
 obtain ⟨z1, z2, z3, z4⟩ := open_zero h8 (Nat.le_trans h9 (by decide))
 have HLD : Hid (Calls Tryz.prog 61 #[.pointer (some ⟨gd, 0, none⟩)] w fun e w' => ∃ gm, e = .returned (.tuple #[.map (some gm), .bool true]) ∧ MapM w' gm 0 nilV [] ∧ Below w.heap.size w w' ∧ w.heap.size ≤ gm) := sLoad_empty hK hd (Nat.zero_le _) (by rw [dump_zero, List.length_replicate]; omega) (rdl_zero m)
 have HOP : Hid (∀ W, KOk W → DkIs W gd P (zeroD m) → Calls Tryz.prog 63 #[.pointer (some ⟨gd, 0, none⟩)] W fun e w' => ∃ P' lg Q, e = .returned (.tuple #[.pointer (some ⟨lg, 0, none⟩), .int .i64 0]) ∧ Pk LgJ w' gd lg P' Q (openD (zeroD m)) ⟨0, 1, []⟩ ∧ Mut P W w' ∧ Grew W P P' ∧ ∀ k, Q k → W.heap.size ≤ k) := fun W hk hd2 => by
  have hn8 : ¬ sizeD (zeroD m) < 8 := by rw [size_zero]; omega
  have hg := openG_eq (D := zeroD m) (by rw [dump_zero, pick_zero]; decide)
  have hok : okD (zeroD m) := okD_zero (by omega) (by omega)
  refine (jOpen_any hk hd2 rfl (by rw [size_zero]; omega) (by rw [size_zero]; omega)).mono (fun e w' h => ?_)
  obtain ⟨P', lv, h1, h2⟩ := h
  rw [hg] at h1 h2
  have ex : (runJ (zeroD m) (openS (zeroD m)).1).2 = 0 := by have := z1; rw [show openX (zeroD m) = (runJ (zeroD m) (openS (zeroD m)).1).2 from if_neg hn8] at this; exact this
  have ed : (runJ (zeroD m) (openS (zeroD m)).1).1 = openD (zeroD m) := (if_neg hn8).symm
  obtain ⟨lg, Q, e1, e2, e3⟩ := h2.lg ex
  rw [ex, e1] at h1
  have h3 := h2.dk
  rw [ed] at h3
  rw [z2] at e2
  have e4 : LgJ w' lg Q gd (sizeD (openD (zeroD m))) ⟨0, 1, []⟩ := by rw [z4, ← size_zero m]; exact e2
  exact ⟨P', lg, Q, h1, ⟨h3, e4, fun k hk => (e3 k hk).2⟩, h2.mv, h2.gr, fun k hk => (e3 k hk).1⟩
 have HD : Hid (DkIs w gd P (zeroD m) ∧ KOk w) := ⟨hd, hK⟩
 clear hd hK z1 z2 z3 z4 h8 h9
 go_enter Tryz.func28, Tryz.ntmps28
 obtain ⟨tk0, tk1, tk2⟩ := sqk3
 go_wp2_with (first
  | (clear tk0; go_at_call 61; refine (HLD.out).mono ?_; rintro e0 y0 ⟨gm, rfl, hm0, bl0, hg0⟩
     have HM : Hid (MapM y0 gm 0 nilV [] ∧ Below w.heap.size w y0 ∧ w.heap.size ≤ gm) := ⟨hm0, bl0, hg0⟩; clear hm0 bl0 hg0)
  | (clear tk1; go_at_call 63; refine (HOP.out y0 (HD.out.2.below HM.out.2.1 HD.out.2.lt) (HD.out.1.belowS HM.out.2.1)).mono ?_; rintro e1 y1 ⟨P1, lg, Q, rfl, hpk, mu1, gr1, hq1⟩
     have HPK : Hid (Pk LgJ y1 gd lg P1 Q (openD (zeroD m)) ⟨0, 1, []⟩) := hpk; have HNP : Hid (¬ P gm) := fun h => absurd (HD.out.1.ltS gm h) (by have := HM.out.2.2; omega)
     have HM1 : Hid (MapM y1 gm 0 nilV []) := HM.out.1.same (mu1.block gm HM.out.1.lt HNP.out); have HMU : Hid (Mut P w y1 ∧ Grew w P P1 ∧ ∀ k, Q k → y0.heap.size ≤ k) := ⟨(mut_below HM.out.2.1 P).trans (fun _ _ h => h) mu1, (Grew.refl w P).trans HM.out.2.1.size gr1, hq1⟩
     have HNU : Hid (¬ Un P1 Q gm) := fun h => by
      rcases h with h | h
      · rcases gr1 gm h with h2 | h2
        · exact HNP.out h2
        · exact absurd HM.out.1.lt (by omega)
      · exact absurd HM.out.1.lt (by have := hq1 gm h; omega)
     clear hpk mu1 gr1 hq1)
  | (clear tk2; with_reducible refine wpSeq_boxW 99 (.tmp 33) [.pointer (some ⟨lg, 0, none⟩), .map (some gm)] ?_ ?_ ?_ ?_
     · rfl
     · rfl
     · rfl
     intro gs y2 nn
     have HF : Hid (StM y2 gs gd lg gm 0 P1 Q nilV [] (openD (zeroD m)) ⟨0, 1, []⟩) := ⟨nn.blk, HPK.out.belowS nn.below, HM1.out.same (nn.below.block gm HM1.out.lt), fun s t h => (by cases h), fun h => by
      rcases h with h | h
      · exact absurd (HPK.out.dk.ltS gs h) (by have := nn.ge; omega)
      · exact absurd (HPK.out.lg.ltS gs h) (by have := nn.ge; omega), HNU.out⟩
     have HMU2 : Hid (Mut P w y2 ∧ w.heap.size ≤ gs) := ⟨HMU.out.1.trans (fun _ _ h => h) (mut_below nn.below P), Nat.le_trans HMU.out.1.size nn.ge⟩
     clear nn))
 refine bodyPost_ret (results_tmp2 rfl _ _ _) rfl ?_
 exact ⟨gs, lg, gm, P1, Q, rfl, HF.out, HMU2.out.1, HMU.out.2.1, fun k hk => Nat.le_trans HM.out.2.1.size (HMU.out.2.2 k hk), HMU2.out.2, HM.out.2.2⟩
theorem StM.lt {w : World} {gs gd lg gm n : Nat} {P Q : Nat → Prop} {V : Bs → Value} {m : KM} {D : DkT} {J : JnT} (h : StM w gs gd lg gm n P Q V m D J) : ∀ k, Un P Q k → k < w.heap.size := fun k hk => hk.elim (h.pk.dk.ltS k) (h.pk.lg.ltS k)
theorem StM.ltM {w : World} {gs gd lg gm n : Nat} {P Q : Nat → Prop} {V : Bs → Value} {m : KM} {D : DkT} {J : JnT} (h : StM w gs gd lg gm n P Q V m D J) : ∀ k, Um P Q gm k → k < w.heap.size := fun k hk => hk.elim (h.lt k) (fun e => by rw [e]; exact h.mp.lt)
theorem StM.moved {w w' : World} {gs gd lg gm n : Nat} {P Q P' Q' : Nat → Prop} {V : Bs → Value} {m : KM} {D D' : DkT} {J J' : JnT} (h : StM w gs gd lg gm n P Q V m D J) (hm : Mut (Un P Q) w w') (hg : Grew w (Un P Q) (Un P' Q')) (hp : Pk LgJ w' gd lg P' Q' D' J') : StM w' gs gd lg gm n P' Q' V m D' J' :=
 ⟨hm.blk h.sb h.ns, hp, h.mp.same (hm.block gm h.mp.lt h.nm), fun s t ht => ⟨(h.tx s t ht).1.go ⟨hm.os, hm.tape, hm.output, hm.size, fun k hk hn => hm.block k hk (fun hx => hn (Or.inl hx))⟩ (fun k hk hx => hx.elim (fun hx => Or.inl (hg.old k hk hx)) Or.inr), (h.tx s t ht).2⟩, fun hx => h.ns (hg.old gs h.sb.lt hx), fun hx => h.nm (hg.old gm h.mp.lt hx)⟩
theorem sRecord_fit {w : World} {gs gd lg gm n : Nat} {P Q : Nat → Prop} {V : Bs → Value} {m : KM} {D : DkT} {J : JnT} (h : StM w gs gd lg gm n P Q V m D J) (hK : KOk w) (hok : okJ D J) (v : Value) (l : List ActT) (hr : ReadsA w v l) (hz : okZ l) (hf : (batchB l).length ≤ roomZ J.l (sizeD D)) :
 Calls Tryz.prog 53 #[.pointer (some ⟨gs, 0, none⟩), v] w fun e w' => e = .returned (.int .i64 (appX J D (batchB l))) ∧ ∃ P' Q', Mut (Un P Q) w w' ∧ Grew w (Un P Q) (Un P' Q') ∧ (appX J D (batchB l) ≠ 14 → StM w' gs gd lg gm n P' Q' V m (appD J D (batchB l)) (appJ J D (batchB l))) := by
 obtain ⟨nr, HNR⟩ := sqn (roomZ J.l (sizeD D))
 rw [← HNR.out] at hf
 have h4 : Calls Tryz.prog 78 #[.pointer (some ⟨lg, 0, none⟩)] w fun e w' => e = .returned (.int .i64 (nr : Int)) ∧ Below w.heap.size w w' := by
  obtain ⟨vr, us, hm, hQ⟩ := id h.pk.lg
  have h1 := hok.fit
  have h2 := hok.hi
  have h3 := sizeL_eq J.l
  unfold hsD at h1
  have h4 := jRoom_any hm.lb (by omega) (by omega)
  rw [show min 1048576 (64 * (sizeD D / 2 - (1 + secL J.l)) - 57) = nr from by rw [HNR.out, roomZ]; omega] at h4
  exact h4
 have HRM : Hid (Calls Tryz.prog 78 #[.pointer (some ⟨lg, 0, none⟩)] w fun e w' => e = .returned (.int .i64 (nr : Int)) ∧ Below w.heap.size w w') := h4
 have hxl : (batchB l).length ≤ 100000 := by
  have h2 := hok.hi
  have h3 := HNR.out
  rw [roomZ] at h3
  omega
 obtain ⟨x, HX⟩ := sqn (batchB l)
 have HWI : Hid (∀ W, ReadsA W v l → Calls Tryz.prog 46 #[v, .int .i64 (nr : Int)] W fun e w' => ∃ vb, e = .returned (.tuple #[vb, .bool true]) ∧ OwnB w' W.heap.size vb x ∧ Below W.heap.size W w') := fun W hr => by
  refine (sWithin_any v l (nr : Int) W hr hz).mono (fun e w' h => ?_)
  obtain ⟨vb, e1, e2, e3⟩ := h
  have hle : ((batchB l).length : Int) ≤ (nr : Int) := by omega
  rw [decide_eq_true hle] at e1
  rw [HX.out]
  exact ⟨vb, e1, e2 hle, e3⟩
 rw [← HX.out] at hxl ⊢
 obtain ⟨ex, HEX⟩ := sqn (appX J D x)
 have HAP : Hid (∀ W vb, StM W gs gd lg gm n P Q V m D J → KOk W → Sta (Un P Q) W (fun X => Reads X vb x) → Calls Tryz.prog 79 #[.pointer (some ⟨lg, 0, none⟩), vb] W fun e w' => e = .returned (.int .i64 ex) ∧ ∃ P' Q', Mut (Un P Q) W w' ∧ Grew W (Un P Q) (Un P' Q') ∧ (ex ≠ 14 → StM w' gs gd lg gm n P' Q' V m (appD J D x) (appJ J D x))) := fun W vb hs hk hb => by
  refine (jAppend_any vb x hk hs.pk hok hxl hb).mono (fun e w' h => ?_)
  obtain ⟨h1, P', Q', h2, h3, h4, h5⟩ := h
  rw [← HEX.out] at h1 h5
  exact ⟨h1, P', Q', h3, h4, fun he => hs.moved h3 h4 (h5 he)⟩
 rw [← HEX.out]
 have HS : Hid (StM w gs gd lg gm n P Q V m D J) := h
 have HR : Hid (ReadsA w v l ∧ KOk w) := ⟨hr, hK⟩
 have c0 : w.cell? ⟨gs, 0, none⟩ = some (.pointer (some ⟨lg, 0, none⟩)) := h.sb.cell 0
 clear h hK hok hr hz hf h4 hxl
 go_enter Tryz.func53, Tryz.ntmps53
 obtain ⟨tk0, tk1, tk2⟩ := sqk3
 go_wp2_with (first
  | (clear tk0; go_at_call 78; refine (HRM.out).mono ?_; rintro e0 y0 ⟨rfl, bl0⟩
     have HS0 : Hid (StM y0 gs gd lg gm n P Q V m D J) := HS.out.below bl0; have HB0 : Hid (Below w.heap.size w y0) := bl0; clear bl0)
  | (clear tk1; go_at_call 46; refine (HWI.out y0 (HR.out.1.below HB0.out)).mono ?_; rintro e1 y1 ⟨vb, rfl, ow1, bl1⟩
     have HST : Hid (Sta (Un P Q) y1 (fun X => Reads X vb x)) := ow1.st (fun k hk => HS0.out.lt k hk)
     have HS1 : Hid (StM y1 gs gd lg gm n P Q V m D J) := HS0.out.below bl1; have HB1 : Hid (Below w.heap.size w y1) := HB0.out.trans (bl1.mono HB0.out.size); have c1 : y1.cell? ⟨gs, 0, none⟩ = some (.pointer (some ⟨lg, 0, none⟩)) := HS1.out.sb.cell 0; clear ow1 bl1)
  | (clear tk2; go_at_call 79; refine (HAP.out y1 vb HS1.out (HR.out.2.below HB1.out HR.out.2.lt) HST.out).mono ?_; rintro e2 y2 ⟨rfl, P', Q', mu, gr, hs2⟩
     have HF : Hid (Mut (Un P Q) w y2 ∧ Grew w (Un P Q) (Un P' Q') ∧ (ex ≠ 14 → StM y2 gs gd lg gm n P' Q' V m (appD J D x) (appJ J D x))) := ⟨(mut_below HB1.out _).trans (fun _ _ h => h) mu, fun k hk => (gr k hk).elim Or.inl (fun h => Or.inr (Nat.le_trans HB1.out.size h)), hs2⟩
     clear mu gr hs2))
 go_ret
 exact ⟨rfl, P', Q', HF.out⟩
theorem OwnA.rdp {W : World} {base : Nat} {v : Value} {ps : List (ActT × Value)} (h : OwnA W base v ps) : RdP W v ps := by
 obtain ⟨h1, h2⟩ := id h.row
 rcases h2 with ⟨rfl, h0⟩ | ⟨g, cap, cur, rfl, hg, hh, hc, hm, hs, ht⟩
 · exact ⟨none, 0, by rw [h0], fun h => absurd h (by omega)⟩
 · refine ⟨_, cap, rfl, fun _ => ⟨g, 0, rfl, fun j p hp i u hu => ?_⟩⟩
   have hr := rowP_at ps j i p u hp hu; have hi : j * 3 + i < (rowP ps).length := (List.getElem?_eq_some_iff.1 hr).1; rw [rowP_len] at hi; rw [cell_of_row W g (0 + j * 3 + i) cur _ (0, 0) hh, Nat.zero_add]; rw [← ht, List.getElem?_take_of_lt hi] at hr
   simpa using hr
theorem RdP.below {w w' : World} {v : Value} {ps : List (ActT × Value)} (h : RdP w v ps) (hb : Below w.heap.size w w') : RdP w' v ps := by
 obtain ⟨ad, cap, h1, h2⟩ := h
 refine ⟨ad, cap, h1, fun hp => ?_⟩
 obtain ⟨b, off, h3, h4⟩ := h2 hp
 exact ⟨b, off, h3, fun j p hj => range_below (h4 j p hj) hb (block_lt_of_cell (h4 j p hj 0 _ rfl))⟩
theorem StM.done {w w' : World} {gs gd lg gm n n' : Nat} {P Q : Nat → Prop} {V V' : Bs → Value} {m m' : KM} {D : DkT} {J : JnT} (h : StM w gs gd lg gm n P Q V m D J) (hd : DoS w gm n' (fun v t => Sta (Um P Q gm) w (fun W => Reads W v t) ∧ t.length ≤ 1048576) m' V' w') : StM w' gs gd lg gm n' P Q V' m' D J := by
 have hne : ¬ gs = gm := fun e => h.mp.ne h.sb e.symm
 refine ⟨hd.mu.blk h.sb hne, ⟨h.pk.dk.same14 (fun k hk => hd.mu.block k (h.pk.dk.ltS k hk) (fun e => h.nm (by rw [← e]; exact Or.inl hk))), h.pk.lg.sameS hd.mu.size (fun k hk => hd.mu.block k (h.pk.lg.ltS k hk) (fun e => h.nm (by rw [← e]; exact Or.inr hk))), h.pk.ap⟩, hd.mp, fun s t ht => ?_, h.ns, h.nm⟩
 obtain ⟨h1, h2⟩ := hd.kk s t ht
 exact ⟨h1.go ⟨hd.mu.os, hd.mu.tape, hd.mu.output, hd.mu.size, fun k hk hn => hd.mu.block k hk (fun e => hn (Or.inr e))⟩ (fun _ _ h => h), h2⟩
theorem sApply_ok {w : World} {gs gd lg gm n : Nat} {P Q : Nat → Prop} {V : Bs → Value} {m : KM} {D : DkT} {J : JnT} (h : StM w gs gd lg gm n P Q V m D J) (hK : KOk w) (hok : okJ D J) (v : Value) (ps : List (ActT × Value)) (hst : Sta (Un P Q) w (fun W => RdP W v ps ∧ (∀ p ∈ ps, Reads W p.2 p.1.data) ∧ ReadsA W v (ps.map (·.1)))) (hsl : ∀ p ∈ ps, isSl p.2 = true ∧ p.1.key.length ≤ 1000000 ∧ p.1.data.length ≤ 1048576) (hz : okZ (ps.map (·.1))) (hck : chkL (ps.map (·.1)) = 0) (h0 : ps ≠ []) (hf : (batchB (ps.map (·.1))).length ≤ roomZ J.l (sizeD D)) (hx : appX J D (batchB (ps.map (·.1))) = 0) (hn : n + ps.length < 10000000) (hpl : ps.length < 1000000) :
 Calls Tryz.prog 23 #[.pointer (some ⟨gs, 0, none⟩), v] w fun e w' => e = .returned (.int .i64 0) ∧ ∃ P' Q' V', StM w' gs gd lg gm (n + ps.length) P' Q' V' (doneM m (ps.map (·.1))) (appD J D (batchB (ps.map (·.1)))) (appJ J D (batchB (ps.map (·.1)))) ∧ Mut (Um P Q gm) w w' ∧ Grew w (Un P Q) (Un P' Q') := by
 obtain ⟨l, HL⟩ := sqn (ps.map (·.1))
 rw [← HL.out] at hst hz hck hf hx ⊢
 obtain ⟨D', HD'⟩ : ∃ x, Hid (x = appD J D (batchB l)) := ⟨_, rfl⟩
 obtain ⟨J', HJ'⟩ : ∃ x, Hid (x = appJ J D (batchB l)) := ⟨_, rfl⟩
 have HRC : Hid (∀ W, Below w.heap.size w W → Calls Tryz.prog 53 #[.pointer (some ⟨gs, 0, none⟩), v] W fun e w' => e = .returned (.int .i64 0) ∧ ∃ P' Q', Mut (Un P Q) W w' ∧ Grew W (Un P Q) (Un P' Q') ∧ StM w' gs gd lg gm n P' Q' V m D' J') := fun W hb => by
  refine (sRecord_fit (h.below hb) (hK.below hb hK.lt) hok v l (hst.now.2.2.below hb) hz hf).mono (fun e w' h => ?_)
  obtain ⟨h1, P', Q', h2, h3, h4⟩ := h
  rw [hx] at h1 h4
  rw [HD'.out, HJ'.out]
  exact ⟨h1, P', Q', h2, h3, h4 (by decide)⟩
 rw [← HD'.out, ← HJ'.out]
 have hcc := sCheck_any v l w hst.now.2.2 (by have := hz.n; omega)
 rw [hck] at hcc
 have HCK : Hid (Calls Tryz.prog 11 #[v] w fun e w' => e = .returned (.int .i64 0) ∧ Below w.heap.size w w') := hcc
 obtain ⟨N, HN⟩ := sqn (ps.length)
 obtain ⟨ad, cp, hv⟩ := hst.now.1.form
 rw [← HN.out] at hv
 subst hv
 have fz : ¬ ((N : Int) = 0) := by
  have h1 : 0 < ps.length := List.length_pos_iff.2 h0
  have h2 := HN.out
  omega
 have HCP : Hid (∀ W, RdP W (.slice ad N cp) ps → (∀ p ∈ ps, Reads W p.2 p.1.data) → Calls Tryz.prog 55 #[.slice ad N cp] W fun e w' => ∃ v' qs, e = .returned v' ∧ OwnA w' W.heap.size v' qs ∧ qs.map (·.1) = l ∧ Below W.heap.size W w') := fun W h1 h2 => by
  rw [HL.out]
  exact sCopies_any _ ps h1 (fun p hp => (hsl p hp).1) h2 (fun p hp => Nat.le_trans (hsl p hp).2.2 (by decide)) hpl
 have HQS : Hid (∀ qs : List (ActT × Value), qs.map (·.1) = l → qs.length = N ∧ ∀ q ∈ qs, q.1.key.length ≤ 1000000 ∧ q.1.data.length ≤ 1048576) := fun qs hq => by
  rw [HL.out] at hq
  have hle : (qs.map (·.1)).length = (ps.map (·.1)).length := by rw [hq]
  rw [List.length_map, List.length_map] at hle
  refine ⟨by rw [HN.out, hle], fun q hqm => ?_⟩
  have h1 : q.1 ∈ ps.map (·.1) := by rw [← hq]; exact List.mem_map_of_mem hqm
  obtain ⟨p, hp, e⟩ := List.mem_map.1 h1
  rw [← e]
  exact (hsl p hp).2
 have HST : Hid (Sta (Un P Q) w (fun W => RdP W (.slice ad N cp) ps ∧ (∀ p ∈ ps, Reads W p.2 p.1.data) ∧ ReadsA W (.slice ad N cp) l)) := hst
 have HNN : Hid (n + N < 10000000) := by show _ < _; rw [HN.out]; exact hn
 have HNM : Hid (¬ gs = gm) := fun e => h.mp.ne h.sb e.symm
 rw [← HN.out]
 clear h hK hok hst hsl hz hck h0 hf hx hn hpl hcc
 go_enter Tryz.func23, Tryz.ntmps23
 obtain ⟨tk0, tk1⟩ := sqk2
 go_upto_region 7 with (first
  | (clear tk0; go_at_call 11; refine (HCK.out).mono ?_; rintro e0 y0 ⟨rfl, bl0⟩
     have HB0 : Hid (Below w.heap.size w y0) := bl0; clear bl0)
  | (clear tk1; go_at_call 53; refine (HRC.out y0 HB0.out).mono ?_; rintro e1 y1 ⟨rfl, P', Q', mu1, gr1, hs1⟩
     have HS : Hid (StM y1 gs gd lg gm n P' Q' V m D' J') := hs1; have HMU : Hid (Mut (Un P Q) w y1 ∧ Grew w (Un P Q) (Un P' Q')) := ⟨(mut_below HB0.out _).trans (fun _ _ h => h) mu1, fun k hk => (gr1 k hk).elim Or.inl (fun h => Or.inr (Nat.le_trans HB0.out.size h))⟩
     clear mu1 gr1 hs1))
 have HS1 : Hid (StM y1.drew gs gd lg gm n P' Q' V m D' J') := HS.out.below (Below.refl _ _).drew
 have HX1 : Hid (RdP y1.drew (.slice ad N cp) ps ∧ ∀ p ∈ ps, Reads y1.drew p.2 p.1.data) := ⟨(HST.out.at HMU.out.1.drew).1, (HST.out.at HMU.out.1.drew).2.1⟩
 refine wp_region_held_drew (S := fun wx => Blk wx gs [.pointer (some ⟨lg, 0, none⟩), .map (some gm)] 99) (by kernel_rfl) HS.out.sb.drew ?_
 intro hS
 refine tkc 0 (.pointer (some ⟨gs, 0, none⟩)) rfl hS ?_
 simp only [Act.put, sq]
 refine tkc 1 (.pointer (some ⟨gs, 0, none⟩)) rfl hS ?_
 simp only [Act.put, sq]
 refine tkc 2 (.pointer (some ⟨gs, 1, none⟩)) rfl hS ?_
 simp only [Act.put, sq]
 refine tka 3 (.map (some gm)) rfl (fun wx hx => by (have c0 : wx.cell? ⟨gs, 1, none⟩ = some (.map (some gm)) := hx.cell 1; simp [go_sem, c0])) hS ?_
 simp only [Act.put, sq]
 refine tkc 4 (.slice ad N cp) rfl hS ?_
 simp only [Act.put, sq]
 refine wpAnyH_enter 5 (by kernel_rfl) rfl (by rfl) (f := 55) (args := #[.slice ad N cp]) (by simp [go_sem]) (HCP.out _ HX1.out.1 HX1.out.2) ?_
 rintro e2 y2 ⟨v2, qs, rfl, ow2, hq2, bl2⟩
 have hS2 := HS1.out.below bl2
 refine ⟨_, rfl, hS2.sb, ?_⟩
 simp only [Act.put, sq]
 obtain ⟨hqn, hqz⟩ := HQS.out qs hq2
 have hdo := sDo_any (fun v t => Sta (Um P' Q' gm) y2 (fun W => Reads W v t) ∧ t.length ≤ 1048576) hS2.mp hS2.tx v2 qs ow2.rdp (fun q hq => ⟨(hqz q hq).1, (ow2.dat q hq).isSl, fun _ => ⟨(ow2.dat q hq).st (fun k hk => HS1.out.ltM k hk), (hqz q hq).2⟩⟩) (by rw [hqn]; exact HNN.out)
 refine wpAnyH_enter 6 (by kernel_rfl) rfl (by rfl) (f := 54) (args := #[.map (some gm), v2]) (by simp [go_sem]) hdo ?_
 rintro e3 y3 ⟨rfl, V', hI⟩
 rw [hq2, hqn] at hI
 have hS3 := hS2.done hI
 refine ⟨_, rfl, hS3.sb, ?_⟩
 simp only [Act.put, sq]
 have HF : Hid (StM y3 gs gd lg gm (n + N) P' Q' V' (doneM m l) D' J' ∧ Mut (Um P Q gm) w y3 ∧ Grew w (Un P Q) (Un P' Q')) := by
  refine ⟨hS3, ?_, HMU.out.2⟩
  have m1 : Mut (Um P Q gm) w y1.drew := ⟨HMU.out.1.os, HMU.out.1.tape, HMU.out.1.output, HMU.out.1.size, fun k hk hn => HMU.out.1.block k hk (fun hx => hn (Or.inl hx))⟩
  exact (m1.trans (fun _ _ h => h) (mut_below bl2 _)).trans (fun _ _ h => Or.inr h) hI.mu
 clear hS hS2 hS3 hI hdo ow2 hq2 bl2 hqn hqz
 refine wpAnyH_done (by kernel_rfl) ?_ _
 go_wp2
 go_ret
 exact ⟨rfl, P', Q', V', HF.out⟩
theorem staA {w : World} {g : Nat} {P : Nat → Prop} {ps : List (ActT × Value)} (hb : Blk w g (rowP ps) 62) (hg : ¬ P g) (hd : ∀ p ∈ ps, Sta P w (fun W => Reads W p.2 p.1.data)) : Sta P w (fun W => RdP W (.slice (some ⟨g, 0, none⟩) ps.length ps.length) ps ∧ (∀ p ∈ ps, Reads W p.2 p.1.data) ∧ ReadsA W (.slice (some ⟨g, 0, none⟩) ps.length ps.length) (ps.map (·.1))) := fun W m => by
 have hb2 := m.blk hb hg
 have hrg : ∀ (j : Nat) (p : ActT × Value), ps[j]? = some p → W.rangeAt g (0 + j * 3) (actC p.1 p.2) := fun j p hp i u hu => by
  rw [hb2.cell, Nat.zero_add]
  exact rowP_at ps j i p u hp hu
 refine ⟨⟨_, _, rfl, fun _ => ⟨g, 0, rfl, hrg⟩⟩, fun p hp => (hd p hp).at m, ⟨_, ps.length, by rw [List.length_map], by rw [List.length_map]; exact Nat.le_refl _, (fun e => by cases e), fun _ => ⟨g, 0, rfl, fun j hj => ?_⟩⟩⟩
 rw [List.length_map] at hj
 obtain ⟨p, hp⟩ : ∃ p, ps[j]? = some p := ⟨ps[j], List.getElem?_eq_getElem hj⟩
 have e : (ps.map (·.1)).getD j ⟨[], false, []⟩ = p.1 := by rw [List.getD_eq_getElem?_getD, List.getElem?_map, hp]; rfl
 rw [e]
 exact ⟨p.2, hrg j p hp, (hd p (List.mem_of_getElem? hp)).at m⟩
def wkA : List ActT := [⟨[97], true, [120]⟩, ⟨[98], false, []⟩]
def wkP (g : Nat) : List (ActT × Value) := [(⟨[97], true, [120]⟩, .slice (some ⟨g, 0, none⟩) 1 1), (⟨[98], false, []⟩, .slice none 0 0)]
theorem wkP_fst (g : Nat) : (wkP g).map (·.1) = wkA := rfl
def wkC (g : Nat) : List Value := [.string ⟨#[97]⟩, .bool true, .slice (some ⟨g, 0, none⟩) 1 1, .string ⟨#[98]⟩, .bool false, .slice none 0 0]
theorem wk_batch : batchB wkA = [2, 1, 97, 1, 1, 120, 1, 98, 0] := by
 simp [batchB, wkA, encList, encAll, encA, encText, encNum_lt]
theorem wk_chk : chkL wkA = 0 := by decide
theorem wk_done : doneM [] wkA = [([97], [120])] := by decide
theorem wk_okZ : okZ wkA := ⟨by decide, by rw [wk_batch]; decide, by decide⟩
theorem wk_plain : appX jn0 (openD (zeroD 8)) (batchB wkA) = 0 ∧ okJ (openD (zeroD 8)) jn0 ∧ (batchB wkA).length ≤ roomZ jn0.l (sizeD (openD (zeroD 8))) := by
 obtain ⟨z1, z2, z3, z4⟩ := open_zero (m := 8) (by decide) (by decide)
 rw [wk_batch]
 have he : appE jn0 (openD (zeroD 8)) [2, 1, 97, 1, 1, 120, 1, 98, 0] = 0 := by
  rw [app_ref, z4]
  exact ⟨by decide, by decide⟩
 obtain ⟨a1, a2, a3, a4⟩ := Log.app (J := jn0) z3 he
 exact ⟨a1, Log.okJ (J := jn0) z3 (by rw [z4]; decide) (by rw [z4]; decide) (by decide), by rw [z4]; decide⟩
theorem build_a2 (f : Operand → Value) (o : Oper) (x y : Operand) (g : Nat) (hx : f x = .agg #[.string ⟨#[97]⟩, .bool true, .slice (some ⟨g, 0, none⟩) 1 1]) (hy : f y = .agg #[.string ⟨#[98]⟩, .bool false, .slice none 0 0]) (ho : o.op = .buildSlice 22 2 #[(0, x), (1, y)]) (w : World) : (execOp f o).run Tryz.prog w = .ok (.value (.slice (some ⟨w.heap.size, 0, none⟩) 2 2)) (w.alloc (.cells (wkC g).toArray 62)) := by
 unfold execOp
 rw [ho]
 simp only [List.map_toArray, List.map_cons, List.map_nil, hx, hy]
 kernel_rfl
theorem wpSeq_buildA2 {ops : Array Oper} {Q : Exit → Act → World → Prop} {rest : List Oper} {o : Oper} {a : Act} {w : World} (x y : Operand) (g : Nat) (hx : a.eval x = .agg #[.string ⟨#[97]⟩, .bool true, .slice (some ⟨g, 0, none⟩) 1 1]) (hy : a.eval y = .agg #[.string ⟨#[98]⟩, .bool false, .slice none 0 0]) (ho : o.op = .buildSlice 22 2 #[(0, x), (1, y)]) (hw : Region.wanted o (yielded ops a.tmps) = true)
 (h : ∀ g2 w', NewR (wkC g) 62 w g2 w' → wpList Tryz.prog ops Q rest (a.put o.dst (.slice (some ⟨g2, 0, none⟩) 2 2)) w') : wpList Tryz.prog ops Q (o :: rest) a w :=
 wpSeq_val _ _ hw (build_a2 _ o x y g hx hy ho w) (h _ _ (NewR.of _ _ w))
theorem build_b1 (f : Operand → Value) (o : Oper) (ho : o.op = .build 62 #[(0, .const (.string ⟨#[98]⟩))]) (hf : f (.const (.string ⟨#[98]⟩)) = .string ⟨#[98]⟩) (w : World) : (execOp f o).run Tryz.prog w = .ok (.value (.agg #[.string ⟨#[98]⟩, .bool false, .slice none 0 0])) w := by
 unfold execOp
 rw [ho]
 simp only [List.map_toArray, List.map_cons, List.map_nil, hf]
 kernel_rfl
theorem wpSeq_buildB1 {ops : Array Oper} {Q : Exit → Act → World → Prop} {rest : List Oper} {o : Oper} {a : Act} {w : World} (ho : o.op = .build 62 #[(0, .const (.string ⟨#[98]⟩))]) (hw : Region.wanted o (yielded ops a.tmps) = true)
 (h : wpList Tryz.prog ops Q rest (a.put o.dst (.agg #[.string ⟨#[98]⟩, .bool false, .slice none 0 0])) w) : wpList Tryz.prog ops Q (o :: rest) a w :=
 wpSeq_val _ _ hw (build_b1 _ o ho rfl w) h
theorem str120 : strB [120] = ⟨#[120]⟩ := by rfl
theorem works15_any (w : World) (hK : KOk w) : Calls Tryz.prog 10 #[] w fun e w' => e = .returned (.bool true) ∧ Below w.heap.size w w' := by
 obtain ⟨p1, p2, p3⟩ := wk_plain
 obtain ⟨D0, HD0⟩ := sqn (openD (zeroD 8))
 rw [← HD0.out] at p1 p2 p3
 obtain ⟨D1, HD1⟩ := sqn (appD jn0 D0 (batchB wkA))
 obtain ⟨J1, HJ1⟩ := sqn (appJ jn0 D0 (batchB wkA))
 obtain ⟨m1, HM1⟩ := sqn (doneM [] wkA)
 have HNW : Hid (Calls Tryz.prog 35 #[.int .i64 8] w fun r w' => ∃ g gs, r = .returned (.tuple #[.pointer (some ⟨g, 0, none⟩), .int .i64 0]) ∧ DkM w' g gs (.slice none 0 0) false 0 (zeroD 8) ∧ Below w.heap.size w w' ∧ w.heap.size ≤ g ∧ w.heap.size ≤ gs) := dkNew_m w 8 (by decide) (by decide)
 have HOP : Hid (∀ (W : World) (gd : Nat) (P : Nat → Prop), KOk W → DkIs W gd P (zeroD 8) → Calls Tryz.prog 28 #[.pointer (some ⟨gd, 0, none⟩)] W fun e w' => ∃ gs lg gm P' Q, e = .returned (.tuple #[.pointer (some ⟨gs, 0, none⟩), .int .i64 0]) ∧ StM w' gs gd lg gm 0 P' Q nilV [] D0 jn0 ∧ Mut P W w' ∧ Grew W P P' ∧ (∀ k, Q k → W.heap.size ≤ k) ∧ W.heap.size ≤ gs ∧ W.heap.size ≤ gm) := fun W gd P hk hd => by
  rw [HD0.out]
  exact sOpen_zero 8 hk hd (by decide) (by decide)
 have HAP : Hid (∀ (W : World) (gs gd lg gm g gy : Nat) (P Q : Nat → Prop), StM W gs gd lg gm 0 P Q nilV [] D0 jn0 → KOk W → Blk W g (wkC gy) 62 → ¬ Un P Q g → Sta (Un P Q) W (fun X => Reads X (.slice (some ⟨gy, 0, none⟩) 1 1) [120]) → Calls Tryz.prog 23 #[.pointer (some ⟨gs, 0, none⟩), .slice (some ⟨g, 0, none⟩) 2 2] W fun e w' => e = .returned (.int .i64 0) ∧ ∃ P' Q' V', StM w' gs gd lg gm 2 P' Q' V' m1 D1 J1 ∧ Mut (Um P Q gm) W w') := fun W gs gd lg gm g gy P Q hs hk hb hg hy => by
  have hst : Sta (Un P Q) W (fun W => RdP W (.slice (some ⟨g, 0, none⟩) 2 2) (wkP gy) ∧ (∀ p ∈ wkP gy, Reads W p.2 p.1.data) ∧ ReadsA W (.slice (some ⟨g, 0, none⟩) 2 2) ((wkP gy).map (·.1))) := staA (ps := wkP gy) hb hg (fun p hp => by
   simp only [wkP, List.mem_cons, List.not_mem_nil, or_false] at hp
   rcases hp with rfl | rfl
   · exact hy
   · exact Sta.nil _ _)
  refine (sApply_ok hs hk p2 _ (wkP gy) hst (fun p hp => ?_) wk_okZ wk_chk (by simp [wkP]) p3 p1 (show 0 + 2 < 10000000 by decide) (show 2 < 1000000 by decide)).mono (fun e w' h => ?_)
  · simp only [wkP, List.mem_cons, List.not_mem_nil, or_false] at hp
    rcases hp with rfl | rfl
    · exact ⟨rfl, show 1 ≤ 1000000 by decide, show 1 ≤ 1048576 by decide⟩
    · exact ⟨rfl, show 1 ≤ 1000000 by decide, show 0 ≤ 1048576 by decide⟩
  · obtain ⟨h1, P', Q', V', h2, h3, _⟩ := h
    rw [wkP_fst, ← HM1.out, ← HD1.out, ← HJ1.out] at h2; exact ⟨h1, P', Q', V', h2, h3⟩
 have g1 : getM m1 [97] = some [120] := by rw [HM1.out, wk_done]; decide
 have g2 : getM m1 [98] = none := by rw [HM1.out, wk_done]; decide
 have g3 : m1.length = 1 := by rw [HM1.out, wk_done]; rfl
 have HGA : Hid (∀ (W : World) (gs gd lg gm n : Nat) (P Q : Nat → Prop) (V : Bs → Value), StM W gs gd lg gm n P Q V m1 D1 J1 → Calls Tryz.prog 32 #[.pointer (some ⟨gs, 0, none⟩), .string ⟨#[97]⟩] W fun e w' => ∃ v', e = .returned (.tuple #[v', .bool true]) ∧ Reads w' v' [120] ∧ Below W.heap.size W w') := fun W gs gd lg gm n P Q V h => by
  have h1 := sGet_any h.sb h.mp (fun s t ht => ⟨(h.tx s t ht).1.now, (h.tx s t ht).2⟩) [97] (by decide)
  rw [g1] at h1
  refine h1.mono (fun e w' h => ?_)
  obtain ⟨v', h2, h3, h4⟩ := h
  exact ⟨v', h2, h3.reads, h4⟩
 have HGB : Hid (∀ (W : World) (gs gd lg gm n : Nat) (P Q : Nat → Prop) (V : Bs → Value), StM W gs gd lg gm n P Q V m1 D1 J1 → Calls Tryz.prog 32 #[.pointer (some ⟨gs, 0, none⟩), .string ⟨#[98]⟩] W fun e w' => ∃ v', e = .returned (.tuple #[v', .bool false]) ∧ Below W.heap.size W w') := fun W gs gd lg gm n P Q V h => by
  have h1 := sGet_any h.sb h.mp (fun s t ht => ⟨(h.tx s t ht).1.now, (h.tx s t ht).2⟩) [98] (by decide)
  rw [g2] at h1
  refine h1.mono (fun e w' h => ?_)
  obtain ⟨v', h2, h3, h4⟩ := h
  exact ⟨v', h2, h4⟩
 have HLN : Hid (∀ (W : World) (gs gd lg gm n : Nat) (P Q : Nat → Prop) (V : Bs → Value), StM W gs gd lg gm n P Q V m1 D1 J1 → Calls Tryz.prog 36 #[.pointer (some ⟨gs, 0, none⟩)] W fun e w' => e = .returned (.int .i64 1) ∧ w' = W) := fun W gs gd lg gm n P Q V h => by
  have h1 := sLen_any h.sb h.mp
  rw [g3] at h1
  exact h1
 have HK0 : Hid (KOk w) := hK
 clear p1 p2 p3 g1 g2 g3 hK
 go_enter Tryz.func10, Tryz.ntmps10
 obtain ⟨tk0, tk1, tk2, tk3, tk4, tk5, tk6, tk7, tk8⟩ := sqk9
 go_wp2_with (first
  | (clear tk0; go_at_call 35; refine (HNW.out).mono ?_; rintro e0 y1 ⟨gd, gs0, rfl, hm, hb, hg1, hg2⟩
     have HDK : Hid (DkIs y1 gd (dkP gd gs0 (.slice none 0 0)) (zeroD 8)) := ⟨gs0, _, _, _, hm, rfl⟩
     have HPW : Hid (∀ k, dkP gd gs0 (.slice none 0 0) k → w.heap.size ≤ k) := fun k hk => by
      rcases hk with rfl | rfl | hk
      · exact hg1
      · exact hg2
      · cases hk
     have HBW : Hid (Below w.heap.size w y1) := hb; clear hm hb hg1 hg2 HNW)
  | (clear tk1; go_at_call 28; refine (HOP.out _ _ _ (HK0.out.below HBW.out HK0.out.lt) HDK.out).mono ?_; rintro e0 y2 ⟨gs, lg, gm, P2, Q2, rfl, hs2, hm2, hg2, hq2, hgs, hgm⟩
     have HS : Hid (StM y2 gs gd lg gm 0 P2 Q2 nilV [] D0 jn0) := hs2
     have HUN : Hid (∀ k, Um P2 Q2 gm k → w.heap.size ≤ k) := fun k hk => by
      rcases hk with (h | h) | rfl
      · exact (hg2 k h).elim (HPW.out k) (fun h => Nat.le_trans HBW.out.size h)
      · exact Nat.le_trans HBW.out.size (hq2 k h)
      · exact Nat.le_trans HBW.out.size hgm
     replace HBW : Hid (Below w.heap.size w y2) := HBW.out.trans (hm2.below HBW.out.size HPW.out); clear hs2 hm2 hg2 hq2 hgs hgm HOP HDK HPW)
  | (clear tk2; with_reducible refine wpSeq_constN (.tmp 31) y2 120 _ rfl ?_ ?_ ?_ ?_
     · rfl
     · rfl
     · rfl
     intro gy y3 hge hst hz; have HRY : Hid (Sta (Un P2 Q2) y3 (fun X => Reads X (.slice (some ⟨gy, 0, none⟩) 1 1) [120])) := hst _ (fun h => absurd (HS.out.lt gy h) (by omega))
     replace HS : Hid (StM y3 gs gd lg gm 0 P2 Q2 nilV [] D0 jn0) := HS.out.below hz; replace HBW := sqt HBW hz; clear hge hst hz)
  | (clear tk3; with_reducible refine wpSeq_buildB1 ?_ ?_ ?_
     · rfl
     · rfl)
  | (clear tk4; with_reducible refine wpSeq_buildA2 (.tmp 33) (.tmp 34) gy ?_ ?_ ?_ ?_ ?_
     · rfl
     · rfl
     · rfl
     · rfl
     intro ga y4 nn; have HRA : Hid (Blk y4 ga (wkC gy) 62 ∧ ¬ Un P2 Q2 ga) := ⟨nn.blk, fun h => absurd (HS.out.lt ga h) (by have := nn.ge; omega)⟩
     replace HRY : Hid (Sta (Un P2 Q2) y4 (fun X => Reads X (.slice (some ⟨gy, 0, none⟩) 1 1) [120])) := HRY.out.below nn.below
     replace HS : Hid (StM y4 gs gd lg gm 0 P2 Q2 nilV [] D0 jn0) := HS.out.below nn.below; replace HBW : Hid (Below w.heap.size w y4) := HBW.out.trans (nn.below.mono HBW.out.size); clear nn)
  | (clear tk5; go_at_call 23; refine (HAP.out _ _ _ _ _ _ _ _ _ HS.out (HK0.out.below HBW.out HK0.out.lt) HRA.out.1 HRA.out.2 HRY.out).mono ?_; rintro e0 y5 ⟨rfl, P5, Q5, V5, hs5, hm5⟩
     have HS5 : Hid (StM y5 gs gd lg gm 2 P5 Q5 V5 m1 D1 J1) := hs5; replace HBW : Hid (Below w.heap.size w y5) := HBW.out.trans (hm5.below HBW.out.size HUN.out); clear hs5 hm5 HS HRA HRY HUN)
  | (clear tk6; go_at_call 32; refine (HGA.out _ _ _ _ _ _ _ _ _ HS5.out).mono ?_; rintro e0 y6 ⟨v6, rfl, hr6, bl6⟩
     have HR6 : Hid (Reads y6 v6 [120]) := hr6; have HS6 : Hid (StM y6 gs gd lg gm 2 P5 Q5 V5 m1 D1 J1) := HS5.out.below bl6; replace HBW := sqt HBW bl6; clear hr6 bl6 HS5)
  | (clear tk7; go_at_call 32; refine (HGB.out _ _ _ _ _ _ _ _ _ HS6.out).mono ?_; rintro e0 y7 ⟨v7, rfl, bl7⟩
     have hc7 := conv_reads (HR6.out.below bl7); rw [str120] at hc7; have HS7 : Hid (StM y7 gs gd lg gm 2 P5 Q5 V5 m1 D1 J1) := HS6.out.below bl7; replace HBW := sqt HBW bl7; clear bl7 HS6 HR6)
  | (clear tk8; go_at_call 36; refine (HLN.out _ _ _ _ _ _ _ _ _ HS7.out).mono ?_; rintro e0 y8 ⟨rfl, hz⟩
     subst hz; clear HS7))
 go_ret
 exact ⟨rfl, HBW.out⟩
def setP (V : Bs → Value) (ks : KM) : List (ActT × Value) := ks.map fun p => (⟨p.1, true, p.2⟩, V p.1)
theorem setP_snoc (V : Bs → Value) (ks : KM) (p : Bs × Bs) : setP V (ks ++ [p]) = setP V ks ++ [(⟨p.1, true, p.2⟩, V p.1)] := by simp [setP]
theorem setP_len (V : Bs → Value) (ks : KM) : (setP V ks).length = ks.length := by simp [setP]
theorem strB_of2 (s : ByteArray) : ∃ nm, s = strB nm := by
 refine ⟨s.data.toList.map fun b => BitVec.ofNat 8 b.toNat, ?_⟩
 have h := strB_data (s.data.toList.map fun b => BitVec.ofNat 8 b.toNat)
 have h2 : (s.data.toList.map fun b => BitVec.ofNat 8 b.toNat).map (fun b => UInt8.ofNat b.toNat) = s.data.toList := by
  rw [List.map_map]
  have : ((fun b : BitVec 8 => UInt8.ofNat b.toNat) ∘ fun b : UInt8 => BitVec.ofNat 8 b.toNat) = id := by
   funext b
   simp only [Function.comp, BitVec.toNat_ofNat, id]; have := b.toNat_lt; rw [Nat.mod_eq_of_lt (by omega)]
   simp
  rw [this, List.map_id]
 rw [h2] at h
 generalize strB _ = t at *
 cases s; cases t
 simp at h
 simp [h]
theorem key_str {key : Value} {kl : Lit} (h : keyOf Tryz.prog 9 key = some kl) : ∃ s, key = .string (strB s) ∧ kl = litB s := by
 cases key <;> simp [keyOf, Tryz.underlying9, mapKey] at h
 rename_i s
 obtain ⟨nm, rfl⟩ := strB_of2 s
 exact ⟨nm, rfl, h.2.symm⟩
theorem same_lit (q s : Bs) : (litB q).sameKey (litB s) = decide (q = s) := by
 by_cases e : q = s
 · subst e
   simp [litB, Lit.sameKey]
 · rw [decide_eq_false e]
   have h : litB q ≠ litB s := fun h => e (litB_inj h)
   simp only [litB, Lit.sameKey]; exact beq_eq_false_iff_ne.2 (fun h2 => h (by unfold litB; rw [h2]))
theorem perm_mem {α : Type} [DecidableEq α] : ∀ {a b : List α}, a.Nodup → b.Nodup → (∀ x, x ∈ a ↔ x ∈ b) → a.Perm b
 | [], b, _, _, h => by
  cases b with
  | nil => exact List.Perm.nil
  | cons y b => exact absurd ((h y).2 (List.mem_cons_self ..)) (by simp)
 | x :: a, b, ha, hb, h => by
  have hx : x ∈ b := (h x).1 (List.mem_cons_self ..)
  obtain ⟨hxa, ha2⟩ := List.nodup_cons.1 ha
  refine List.Perm.trans (List.Perm.cons x (perm_mem ha2 (hb.erase x) (fun y => ?_))) (List.perm_cons_erase hx).symm
  rw [hb.mem_erase_iff]
  constructor
  · intro hy
    exact ⟨fun e => hxa (e ▸ hy), (h y).1 (List.mem_cons_of_mem _ hy)⟩
  · rintro ⟨h1, h2⟩
    rcases List.mem_cons.1 ((h y).2 h2) with h3 | h3
    · exact absurd h3 h1
    · exact h3
def SortOk : Prop := ∀ (W : World) (base : Nat) (v : Value) (ps ts : List (ActT × Value)), W.ownsRow base 62 3 v ps.length (rowP ps) → v ≠ .slice none 0 0 → ts.Perm ps → ts.Pairwise (fun a b => ltB a.1.key b.1.key = true) → ps.length < 1000000 → (∀ p ∈ ps, isSl p.2 = true) → base ≤ W.heap.size →
 Calls Tryz.prog 93 #[v, .func (.func 94) #[] #[]] W fun e w' => e = .returned (.tuple #[]) ∧ w'.ownsRow base 62 3 v ps.length (rowP ts) ∧ Below base W w'
structure RgI (w : World) (gm r n : Nat) (V : Bs → Value) (m : KM) (D : DataW Unit) (ks : KM) (v : Value) (left : Lit → Bool) (cnt : Nat) (W : World) : Prop where
 rg : W.ranges Tryz.prog 9 slE gm r n D left cnt
 ow : W.ownsRow w.heap.size 62 3 v ks.length (rowP (setP V ks))
 sub : ∀ p ∈ ks, getM m p.1 = some p.2
 nd : ks.Nodup
 lf : ∀ s, left (litB s) = true ↔ (getM m s).isSome = true ∧ ∀ p ∈ ks, p.1 ≠ s
 bel : Below w.heap.size w W
 nr : v.ownBlock ≠ some r ∧ v.ownBlock ≠ some gm
 rge : w.heap.size ≤ r
 ln : ks.length + cnt ≤ m.length
 nz : v ≠ .slice none 0 0
theorem rise_nodup : ∀ {m : KM}, Rise m → m.Nodup
 | [], _ => List.nodup_nil
 | p :: m, h => by
  obtain ⟨h1, h2⟩ := rise_cons.1 h
  exact List.nodup_cons.2 ⟨fun hp => (by have := h1 p hp; rw [ltB_irr] at this; cases this), rise_nodup h2⟩
theorem RgI.perm {w W : World} {gm r n cnt : Nat} {V : Bs → Value} {m ks : KM} {D : DataW Unit} {v : Value} {left : Lit → Bool} (h : RgI w gm r n V m D ks v left cnt W) (hm : Rise m) (h0 : ∀ kl, left kl = false) : ks.Perm m := by
 refine perm_mem h.nd (rise_nodup hm) (fun p => ⟨fun hp => (getM_mem hm _ _).1 (h.sub p hp), fun hp => ?_⟩)
 have hg : getM m p.1 = some p.2 := (getM_mem hm _ _).2 hp
 by_cases hx : ∃ q ∈ ks, q.1 = p.1
 · obtain ⟨q, hq, e⟩ := hx
   have h1 := h.sub q hq; rw [e, hg] at h1; simp at h1; have : q = p := Prod.ext e h1.symm; rw [← this]; exact hq
 · have h2 := (h.lf p.1).2 ⟨by rw [hg]; rfl, fun q hq e => hx ⟨q, hq, e⟩⟩
   rw [h0] at h2
   cases h2
theorem ranges_iter {H : Type} {P : Program} {k : TypeId} {R : Value → Option (DataW H × List MemPlace)} {w : World} {b r n cnt : Nat} {D : DataW H} {left : Lit → Bool} (h : w.ranges P k R b r n D left cnt) : (∀ cs t f, w.heap[r]? ≠ some (.cells cs t f)) ∧ ∀ cs t f, w.heap[b]? ≠ some (.cells cs t f) := by
 obtain ⟨es, cl, si, se, c0, h1, _, _, _, h2, _⟩ := h
 exact ⟨fun _ _ _ => by rw [h2]; simp, fun _ _ _ => by rw [h1]; simp⟩
theorem own_ne {w : World} {base g n : Nat} {v : Value} {xs : List Value} (h : w.ownsRow base 62 3 v n xs) (hg : ∀ cs t f, w.heap[g]? ≠ some (.cells cs t f)) : v.ownBlock ≠ some g := fun e => by
 obtain ⟨_, ⟨rfl, _⟩ | ⟨g2, cap, cur, rfl, _, hh, _⟩⟩ := h
 · cases e
 · simp [Value.ownBlock] at e
   subst e; exact hg _ _ _ hh
theorem own_nz {w : World} {base n : Nat} {v : Value} {xs : List Value} (h : w.ownsRow base 62 3 v n xs) (hn : n ≠ 0) : v ≠ .slice none 0 0 := fun e => by
 obtain ⟨_, ⟨_, h0⟩ | ⟨g2, cap, cur, e2, _⟩⟩ := h
 · exact hn h0
 · rw [e] at e2
   cases e2
abbrev mkS (c : Option Addr × Nat × Nat) : Value := .slice c.1 c.2.1 c.2.2
theorem slE_form {v : Value} {y : DataW Unit × List MemPlace} (h : slE v = some y) : ∃ c, v = mkS c := by
 unfold slE at h
 split at h
 · rename_i hv
   obtain ⟨ad, n, c, rfl⟩ := isSl_form hv; exact ⟨(ad, n, c), rfl⟩
 · cases h
theorem RgI.next {w W : World} {gm r n cnt : Nat} {V : Bs → Value} {m ks : KM} {D : DataW Unit} {v : Value} {left : Lit → Bool} (h : RgI w gm r n V m D ks v left cnt W) (h3 : ∀ s, Maps.has D (litB s) = (getM m s).isSome ∧ ((getM m s).isSome = true → D.atKey (litB s) (slD (.slice none 0 0)) = slD (V s))) (hsl : ∀ s, (getM m s).isSome = true → isSl (V s) = true) {x : ByteArray} {c : Option Addr × Nat × Nat} {kl : Lit} {y : DataW Unit × List MemPlace} (hkey : keyOf Tryz.prog 9 (.string x) = some kl) (hlk : left kl = true) (hv : slE (mkS c) = some y) (hat : ∀ zd, D.atKey kl zd = y.1) :
 ∃ s t, x = strB s ∧ kl = litB s ∧ mkS c = V s ∧ getM m s = some t ∧ ∀ p ∈ ks, p.1 ≠ s := by
 obtain ⟨s, e1, rfl⟩ := key_str hkey
 simp only [Value.string.injEq] at e1
 obtain ⟨h4, h5⟩ := (h.lf s).1 hlk
 obtain ⟨t, ht⟩ := Option.isSome_iff_exists.1 h4
 refine ⟨s, t, e1, rfl, ?_, ht, h5⟩
 have h6 := (h3 s).2 h4
 rw [hat] at h6
 obtain ⟨y1, y2⟩ := y
 simp only at h6
 rw [h6] at hv
 exact slE_inv (hsl s h4) hv
theorem RgI.snoc {w W w1 y3 y4 : World} {gm r n cnt cnt1 : Nat} {V : Bs → Value} {m ks : KM} {D : DataW Unit} {v v2 : Value} {left : Lit → Bool} {s t : Bs} (h : RgI w gm r n V m D ks v left cnt W) (ht : getM m s = some t) (hne : ∀ p ∈ ks, p.1 ≠ s)
 (hg1 : W.grownBy w1 (some r)) (hrg1 : w1.ranges Tryz.prog 9 slE gm r n D (fun z => left z && !z.sameKey (litB s)) cnt1) (hb : Below w1.heap.size w1 y3) (ow2 : y4.ownsRow w.heap.size 62 3 v2 (ks.length + 1) (rowP (setP V ks) ++ rowP [(⟨s, true, t⟩, V s)])) (gr2 : y3.grownBy y4 v.ownBlock) (hlt : cnt1 < cnt) :
 RgI w gm r n V m D (ks ++ [(s, t)]) v2 (fun z => left z && !z.sameKey (litB s)) cnt1 y4 := by
 have hg3 : w1.grownBy y3 none := ⟨hb.os, hb.tape, hb.output, hb.size, fun k hk _ => hb.block k hk⟩
 have hr3 := hrg1.kept hg3 (by simp) (by simp)
 have hr4 := hr3.kept gr2 (fun e => h.nr.2 e.symm) (fun e => h.nr.1 e.symm)
 obtain ⟨hit, hmp⟩ := ranges_iter hr4
 have hbl : Below w.heap.size w y4 := ⟨gr2.os.trans (hb.os.trans (hg1.os.trans h.bel.os)), gr2.tape.trans (hb.tape.trans (hg1.tape.trans h.bel.tape)), gr2.output.trans (hb.output.trans (hg1.output.trans h.bel.output)), Nat.le_trans h.bel.size (Nat.le_trans hg1.size (Nat.le_trans hb.size gr2.size)), fun k hk => by
  have k1 := Nat.lt_of_lt_of_le hk h.bel.size
  have k2 := Nat.lt_of_lt_of_le k1 hg1.size
  have k3 := Nat.lt_of_lt_of_le k2 hb.size
  have n1 : some k ≠ some r := fun e => by simp at e; have := h.rge; omega
  have n2 : some k ≠ v.ownBlock := fun e => by have := (h.ow.lt k e.symm).1; omega
  exact (gr2.block k k3 n2).trans ((hb.block k k2).trans ((hg1.block k k1 n1).trans (h.bel.block k hk)))⟩
 have how : y4.ownsRow w.heap.size 62 3 v2 (ks ++ [(s, t)]).length (rowP (setP V (ks ++ [(s, t)]))) := by
  rw [setP_snoc, rowP_app, List.length_append]
  exact ow2
 refine ⟨hr4, how, fun p hp => ?_, ?_, fun q => ?_, hbl, ⟨own_ne how hit, own_ne how hmp⟩, h.rge, by have := h.ln; rw [List.length_append]; simp; omega, own_nz how (by simp)⟩
 · rcases List.mem_append.1 hp with hp | hp
   · exact h.sub p hp
   · simp at hp
     rw [hp]; exact ht
 · rw [List.nodup_append]
   refine ⟨h.nd, by simp, fun a ha b hb2 e => ?_⟩
   simp at hb2
   rw [hb2] at e; exact hne a ha (by rw [e])
 · rw [same_lit, Bool.and_eq_true, h.lf q]
   constructor
   · rintro ⟨⟨h1, h2⟩, h3⟩
     refine ⟨h1, fun p hp => ?_⟩
     rcases List.mem_append.1 hp with hp | hp
     · exact h2 p hp
     · simp at hp h3
       rw [hp]; exact fun e => h3 e.symm
   · rintro ⟨h1, h2⟩
     refine ⟨⟨h1, fun p hp => h2 p (List.mem_append_left _ hp)⟩, ?_⟩
     have h3 := h2 (s, t) (List.mem_append_right _ (by simp))
     simp
     exact fun e => h3 e.symm
theorem sSetting_of (SO : SortOk) {w : World} {gm n : Nat} {V : Bs → Value} {m : KM} (hm : MapM w gm n V m) (hml : m.length < 1000000) : Calls Tryz.prog 65 #[.map (some gm)] w fun e w' => ∃ v, e = .returned v ∧ w'.ownsRow w.heap.size 62 3 v m.length (rowP (setP V m)) ∧ Below w.heap.size w w' := by
 obtain ⟨D, h1, h2, h3⟩ := hm.ex
 have hk := fun ty => hm.len ty
 obtain ⟨N, HN⟩ := sqn (m.length)
 rw [← HN.out] at hml
 simp only [← HN.out] at hk
 have HD : Hid (w.ownsMap Tryz.prog 9 slE gm n D) := h1
 have H3 : Hid (∀ s, Maps.has D (litB s) = (getM m s).isSome ∧ ((getM m s).isSome = true → D.atKey (litB s) (slD (.slice none 0 0)) = slD (V s))) := h3
 have HM : Hid (MapM w gm n V m) := hm
 have H2 : Hid (Maps.size D = m.length) := h2
 have HML : Hid (N < 1000000) := hml
 clear h1 h2 h3 hm hml
 go_enter Tryz.func65, Tryz.ntmps65
 obtain ⟨tk0, tk1⟩ := sqk2
 go_wp2_with (first
  | (clear tk0
     obtain ⟨i0, hi, hz0, hz1, hz2⟩ := info_parts Tryz.infoact; refine wpList_make_own w rfl (.const (.int .i64 0)) (.tmp 7) 22 rfl w.heap.size 62 i0 (.agg zA.toArray) 3 Tryz.underlying22 hi hz0 hz1 .i64 .i64 _ N rfl rfl rfl (by rw [hz2]; have := HML.out; omega) (by unfold maxLen; have := HML.out; omega) (Nat.le_refl _) ?_
     intro y0 ow0 gr0; have HO0 : Hid (y0.ownsRow w.heap.size 62 3 (.slice (some ⟨w.heap.size, 0, none⟩) 0 N) 0 []) := ow0; have HG0 : Hid (w.grownBy y0 none) := gr0
     have HD0 : Hid (y0.ownsMap Tryz.prog 9 slE gm n D) := by
      obtain ⟨es, cl, hb, r⟩ := HD.out; exact ⟨es, cl, by rw [gr0.block gm HM.out.lt (by simp)]; exact hb, r⟩
     clear ow0 gr0 hi hz0 hz1 hz2)
  | (clear tk1; at_range; refine wpList_range_own y0 rfl _ 97 rfl 9 23 kSt Tryz.underlying97 slE gm n D rfl HD0.out ?_
     intro y1 hrg hg1 hs1
     have HI0 : Hid (RgI w gm y0.heap.size n V m D [] (.slice (some ⟨w.heap.size, 0, none⟩) 0 N) (Maps.has D) (Maps.size D) y1) := by
      have how := HO0.out.kept hg1 (Or.inr (by simp [Value.ownBlock]))
      obtain ⟨hit, hmp⟩ := ranges_iter hrg; have hbl : Below w.heap.size w y1 := ⟨hg1.os.trans HG0.out.os, hg1.tape.trans HG0.out.tape, hg1.output.trans HG0.out.output, Nat.le_trans HG0.out.size hg1.size, fun k hk => (hg1.block k (Nat.lt_of_lt_of_le hk HG0.out.size) (by simp)).trans (HG0.out.block k hk (by simp))⟩
      refine ⟨hrg, how, (fun p hp => by cases hp), List.nodup_nil, fun s => ?_, hbl, ⟨own_ne how hit, own_ne how hmp⟩, HG0.out.size, by rw [H2.out]; simp, by simp⟩
      rw [(H3.out s).1]; exact ⟨fun h => ⟨h, fun p hp => by cases hp⟩, fun h => h.1⟩
     clear hrg hg1 hs1))
 go_frame
 obtain ⟨r, HR⟩ := sqn (y0.heap.size)
 rw [← HR.out] at HI0 ⊢
 clear HO0 HG0 HD0
 go_loopw [3] (fun v wr => ∃ ks left cnt, RgI w gm r n V m D ks v left cnt wr) (fun _ wr => wr.rangeLeft gm r)
 case atStart => exact ⟨[], _, _, HI0.out⟩
 case round =>
  clear HI0
  obtain ⟨ks, left, cnt, hI⟩ := hrel
  have HI : Hid (RgI w gm r n V m D ks u3 left cnt wr) := hI
  clear hI
  obtain ⟨tk2, tk3, tk4, tk5⟩ := sqk4
  go_wp2_with (first
   | (clear tk2; at_next; refine wpList_next_ranges wr rfl _ rfl 9 kSt slE Value.string mkS (fun key kl h => by obtain ⟨s, h, _⟩ := key_str h; exact ⟨_, h⟩) (fun v y h => slE_form h) gm r n D left cnt rfl HI.out.rg (fun hc0 hl0 => ?_) (fun x c kl y w1 cnt1 hkey hlk hv hat hrg1 hlt hg1 hs1 hen => ?_))
   | (clear tk3; obtain ⟨ca, cn, cc⟩ := c
      with_reducible refine wpSeq_buildA1 (.tmp 19) x true ca cn cc ?_ ?_ ?_ ?_
      · rfl
      · rfl
      · rfl
      intro g5 y3 nn; obtain ⟨s, t, ex, ek, ev, ht, hne⟩ := HI.out.next H3.out HM.out.sl hkey hlk hv hat; subst ex; subst ek; have hg3 : w1.grownBy y3 none := ⟨nn.below.os, nn.below.tape, nn.below.output, nn.below.size, fun k hk _ => nn.below.block k hk⟩
      have HO3 : Hid (y3.ownsRow w.heap.size 62 3 u3 ks.length (rowP (setP V ks))) := (HI.out.ow.kept hg1 (Or.inr HI.out.nr.1)).kept hg3 (by cases u3.ownBlock <;> simp)
      have HC3 : Hid (∀ q u, (rowP [((⟨s, true, t⟩ : ActT), V s)])[q]? = some u → y3.cell? ((⟨g5, 0, none⟩ : Addr).add q) = some u) := fun q u hq => by
       rw [Addr.add_mid, Nat.zero_add, nn.blk.cell]; rw [← ev] at hq; exact hq
      have HS3 : Hid (∀ u ∈ rowP [((⟨s, true, t⟩ : ActT), V s)], u.oneCell' = true) := rowP_one (fun p hp => by
       simp at hp
       rw [hp]; exact HM.out.sl s (by rw [ht]; rfl))
      have HX : Hid (getM m s = some t ∧ (∀ p ∈ ks, p.1 ≠ s) ∧ wr.grownBy w1 (some r) ∧ w1.ranges Tryz.prog 9 slE gm r n D (fun z => left z && !z.sameKey (litB s)) cnt1 ∧ Below w1.heap.size w1 y3 ∧ cnt1 < cnt) := ⟨ht, hne, hg1, hrg1, nn.below, hlt⟩
      have HBS3 : Hid (w.heap.size ≤ y3.heap.size ∧ ks.length < 1000000) := ⟨Nat.le_trans HI.out.bel.size (Nat.le_trans hg1.size nn.below.size), by have h1 := HI.out.ln; have h2 := HML.out; have h3 := HN.out; omega⟩
      clear ht hne hg1 hrg1 nn hlt hg3 hkey hlk hv hat hs1 hen ev)
   | (clear tk5; at_builtin
      obtain ⟨i0, hi, hz0, hz1, hz2⟩ := info_parts Tryz.infoact; refine wpList_append_own (P := Tryz.prog) y3 rfl (.tmp 16) (.tmp 20) 22 rfl w.heap.size 62 i0 (.agg zA.toArray) 3 48 Tryz.underlying22 hi hz0 hz1 hz2 rfl (by decide) _ ks.length (rowP (setP V ks)) rfl HO3.out ⟨g5, 0, none⟩ 1 1 (rowP [((⟨s, true, t⟩ : ActT), V s)]) rfl (by rw [rowP_len]; rfl) HC3.out HS3.out (by unfold maxLen; have := HBS3.out.2; omega) (by have := HBS3.out.2; omega) HBS3.out.1 ?_
      intro v2 y4 ow2 gr2 _; have HI4 : Hid (RgI w gm r n V m D (ks ++ [(s, t)]) v2 (fun z => left z && !z.sameKey (litB s)) cnt1 y4) := HI.out.snoc HX.out.1 HX.out.2.1 HX.out.2.2.1 HX.out.2.2.2.1 HX.out.2.2.2.2.1 ow2 gr2 HX.out.2.2.2.2.2
      clear ow2 gr2 hi hz0 hz1 hz2)
   | (clear tk4; go_at_call 93
      have hperm := HI.out.perm HM.out.up hl0
      refine (SO _ w.heap.size u3 (setP V ks) (setP V m) (by rw [setP_len]; exact HI.out.ow) HI.out.nz (hperm.symm.map _) (List.pairwise_map.2 HM.out.up) (by rw [setP_len, hperm.length_eq, ← HN.out]; exact HML.out) (fun p hp => by
       obtain ⟨q, hq, e⟩ := List.mem_map.1 hp; rw [← e]; exact HM.out.sl q.1 (by rw [HI.out.sub q hq]; rfl)) HI.out.bel.size).mono ?_
      rintro e9 y9 ⟨rfl, ow9, bl9⟩; have HF : Hid (y9.ownsRow w.heap.size 62 3 u3 m.length (rowP (setP V m)) ∧ Below w.heap.size w y9) := ⟨by rw [setP_len, hperm.length_eq] at ow9; exact ow9, HI.out.bel.trans bl9⟩
      clear ow9 bl9 hperm))
  · go_ret
    exact ⟨_, rfl, HF.out.1, HF.out.2⟩
  · go_roundw
    case rel => exact ⟨_, _, _, HI4.out⟩
    case measure =>
     rw [HI4.out.rg.left_eq, HI.out.rg.left_eq]; exact HX.out.2.2.2.2.2
end Go.Proofs.YtopmeedmgjdcgaaGreatDoor
namespace Go.Proofs.YtopmeedmgjdcgaaGreatDoor
open Go.Shelf
def sortA_ren : Go.Shelf.Ren := ⟨fun | 6 => 93 | 15 => 120 | 14 => 119 | 28 => 143 | 29 => 144 | 20 => 135 | 21 => 136 | 22 => 137 | 23 => 138 | 24 => 139 | 25 => 140 | 26 => 141 | 27 => 142 | 46 => 154 | 47 => 155 | 48 => 156 | 49 => 157 | 50 => 158 | 57 => 166 | n => n, fun | 22 => 22 | 24 => 62 | 25 => 149 | 3 => 3 | 39 => 150 | 0 => 0 | 53 => 181 | 55 => 47 | 4 => 4 | 46 => 175 | 45 => 174 | 50 => 133 | 5 => 5 | 9 => 9 | 66 => 187 | 70 => 190 | 76 => 200 | 77 => 201 | n => n, fun | n => n⟩
theorem sortA : Go.Proofs.SlLaysF0.n6 Tryz.prog sortA_ren := {
 mixed := by kernel_rfl
 f6 := ⟨Tryz.f93.name, by decide, Tryz.func93.trans (congrArg some (by kernel_rfl))⟩
 f14 := ⟨Tryz.f119.name, by decide, Tryz.func119.trans (congrArg some (by kernel_rfl))⟩
 f15 := Tryz.func120.trans (congrArg some (by kernel_rfl))
 f20 := ⟨Tryz.f135.name, by decide, Tryz.func135.trans (congrArg some (by kernel_rfl))⟩
 f21 := ⟨Tryz.f136.name, by decide, Tryz.func136.trans (congrArg some (by kernel_rfl))⟩
 f22 := ⟨Tryz.f137.name, by decide, Tryz.func137.trans (congrArg some (by kernel_rfl))⟩
 f23 := ⟨Tryz.f138.name, by decide, Tryz.func138.trans (congrArg some (by kernel_rfl))⟩
 f24 := ⟨Tryz.f139.name, by decide, Tryz.func139.trans (congrArg some (by kernel_rfl))⟩
 f25 := ⟨Tryz.f140.name, by decide, Tryz.func140.trans (congrArg some (by kernel_rfl))⟩
 f26 := ⟨Tryz.f141.name, by decide, Tryz.func141.trans (congrArg some (by kernel_rfl))⟩
 f27 := ⟨Tryz.f142.name, by decide, Tryz.func142.trans (congrArg some (by kernel_rfl))⟩
 f28 := Tryz.func143.trans (congrArg some (by kernel_rfl))
 f29 := Tryz.func144.trans (congrArg some (by kernel_rfl))
 f46 := ⟨Tryz.f154.name, by decide, Tryz.func154.trans (congrArg some (by kernel_rfl))⟩
 f47 := Tryz.func155.trans (congrArg some (by kernel_rfl))
 f48 := Tryz.func156.trans (congrArg some (by kernel_rfl))
 f49 := ⟨Tryz.f157.name, by decide, Tryz.func157.trans (congrArg some (by kernel_rfl))⟩
 f50 := ⟨Tryz.f158.name, by decide, Tryz.func158.trans (congrArg some (by kernel_rfl))⟩
 f57 := ⟨Tryz.f166.name, by decide, Tryz.func166.trans (congrArg some (by kernel_rfl))⟩
 t0 := Tryz.underlying0
 a0 := Tryz.isAgg0
 z0 := Tryz.sizeOf0
 v0 := Tryz.zeroValue0
 t3 := Tryz.underlying3
 a3 := Tryz.isAgg3
 z3 := Tryz.sizeOf3
 v3 := Tryz.zeroValue3
 t4 := Tryz.underlying4
 a4 := Tryz.isAgg4
 z4 := Tryz.sizeOf4
 v4 := Tryz.zeroValue4
 t5 := Tryz.underlying5
 a5 := Tryz.isAgg5
 z5 := Tryz.sizeOf5
 v5 := Tryz.zeroValue5
 t9 := Tryz.underlying9
 a9 := Tryz.isAgg9
 z9 := Tryz.sizeOf9
 v9 := Tryz.zeroValue9
 t22 := Tryz.underlying22
 a22 := Tryz.isAgg22
 z22 := Tryz.sizeOf22
 v22 := Tryz.zeroValue22
 t25 := Tryz.underlying149
 a25 := Tryz.isAgg149
 z25 := Tryz.sizeOf149
 v25 := Tryz.zeroValue149
 t39 := Tryz.underlying150
 a39 := Tryz.isAgg150
 z39 := Tryz.sizeOf150
 v39 := Tryz.zeroValue150
 t45 := Tryz.underlying174
 a45 := Tryz.isAgg174
 z45 := Tryz.sizeOf174
 v45 := Tryz.zeroValue174
 t46 := Tryz.underlying175
 a46 := Tryz.isAgg175
 z46 := Tryz.sizeOf175
 v46 := Tryz.zeroValue175
 t50 := Tryz.underlying133
 a50 := Tryz.isAgg133
 z50 := Tryz.sizeOf133
 v50 := Tryz.zeroValue133
 t53 := Tryz.underlying181
 a53 := Tryz.isAgg181
 z53 := Tryz.sizeOf181
 v53 := Tryz.zeroValue181
 t55 := Tryz.underlying47
 a55 := Tryz.isAgg47
 z55 := Tryz.sizeOf47
 v55 := Tryz.zeroValue47
 t66 := Tryz.underlying187
 a66 := Tryz.isAgg187
 z66 := Tryz.sizeOf187
 v66 := Tryz.zeroValue187
 t70 := Tryz.underlying190
 a70 := Tryz.isAgg190
 z70 := Tryz.sizeOf190
 v70 := Tryz.zeroValue190
 t76 := Tryz.underlying200
 a76 := Tryz.isAgg200
 z76 := Tryz.sizeOf200
 v76 := Tryz.zeroValue200
 t77 := Tryz.underlying201
 a77 := Tryz.isAgg201
 z77 := Tryz.sizeOf201
 v77 := Tryz.zeroValue201 }
end Go.Proofs.YtopmeedmgjdcgaaGreatDoor
namespace Go.Proofs.YtopmeedmgjdcgaaGreatDoor
open Go.RowKit Go.Shelf
abbrev AcT := ActT × (Option Addr × Nat × Nat)
@[reducible] def acI : Inhabited AcT := ⟨(⟨[], false, []⟩, (none, 0, 0))⟩
def encAc (x : AcT) : List Value := actC x.1 (mkS x.2)
def cfA (x y : AcT) : Int := Lib.compareBytes (strB x.1.key).data.toList (strB y.1.key).data.toList
theorem u8_lt15 (a b : BitVec 8) : (UInt8.ofNat a.toNat < UInt8.ofNat b.toNat) ↔ a.toNat < b.toNat := by
 rw [UInt8.lt_iff_toNat_lt]
 have h1 := a.isLt
 have h2 := b.isLt
 rw [UInt8.toNat_ofNat', UInt8.toNat_ofNat']
 omega
theorem cmp_lt : ∀ (a b : Bs), decide (Lib.compareBytes (a.map fun b => UInt8.ofNat b.toNat) (b.map fun b => UInt8.ofNat b.toNat) < 0) = ltB a b
 | [], [] => by simp [Lib.compareBytes, ltB]
 | [], _ :: _ => by simp [Lib.compareBytes, ltB]
 | _ :: _, [] => by simp [Lib.compareBytes, ltB]
 | a :: x, b :: y => by
  have ih := cmp_lt x y
  simp only [List.map_cons, Lib.compareBytes, ltB, u8_lt15]
  by_cases h1 : a.toNat < b.toNat
  · simp [h1]
  · by_cases h2 : b.toNat < a.toNat
    · have : a ≠ b := fun e => by rw [e] at h2; omega
      simp [h1, h2, this]
    · have : a = b := BitVec.eq_of_toNat_eq (by omega)
      simp [this] at ih ⊢
      exact ih
theorem lt_cf (x y : AcT) : ltOf cfA x y = ltB x.1.key y.1.key := by
 unfold ltOf cfA
 rw [strB_data, strB_data]
 exact cmp_lt _ _
theorem ltB_ntrans (a b c : Bs) (h1 : ltB a b = false) (h2 : ltB b c = false) : ltB a c = false := by
 cases h3 : ltB a c with
 | false => rfl
 | true =>
  rcases ltB_tri a b with h | h | h
  · rw [h] at h1; cases h1
  · rw [h, h2] at h3; cases h3
  · rw [ltB_trans b a c h h3] at h2; cases h2
theorem swoA : Sort.SWO (ltOf cfA) where
 irrefl x := by rw [lt_cf, ltB_irr]
 trans x y z h1 h2 := by rw [lt_cf] at *; exact ltB_trans _ _ _ h1 h2
 ntrans x y z h1 h2 := by rw [lt_cf] at *; exact ltB_ntrans _ _ _ h1 h2
theorem rise_uniq {α : Type} (lt : α → α → Bool) : ∀ (ts ds : List α), ds.Perm ts → ts.Pairwise (fun a b => lt a b = true) → ds.Pairwise (fun a b => lt b a = false) → ds = ts
 | [], ds, hp, _, _ => List.Perm.eq_nil hp
 | t :: ts, ds, hp, ht, hd => by
  cases ds with
  | nil => exact absurd hp.symm.eq_nil (by simp)
  | cons d ds =>
   obtain ⟨h1, h2⟩ := List.pairwise_cons.1 ht; obtain ⟨h3, h4⟩ := List.pairwise_cons.1 hd
   have hdt : d = t := by
    have hm : d ∈ t :: ts := hp.subset (List.mem_cons_self ..)
    rcases List.mem_cons.1 hm with e | e
    · exact e
    · have hm2 : t ∈ d :: ds := hp.symm.subset (List.mem_cons_self ..)
      rcases List.mem_cons.1 hm2 with e2 | e2
      · exact e2.symm
      · have a1 := h1 d e
        have a2 := h3 t e2; rw [a1] at a2
        cases a2
   subst hdt; rw [rise_uniq lt ts ds (List.perm_cons _ |>.1 hp) h2 h4]
def acOf (p : ActT × Value) : AcT := (p.1, match p.2 with | .slice a n c => (a, n, c) | _ => (none, 0, 0))
theorem enc_acOf {p : ActT × Value} (h : isSl p.2 = true) : encAc (acOf p) = actC p.1 p.2 := by
 obtain ⟨a, n, c, e⟩ := isSl_form h
 unfold encAc acOf
 rw [e]
theorem row_flat (ps : List (ActT × Value)) (hs : ∀ p ∈ ps, isSl p.2 = true) (t : Nat) (ht : t < ps.length * 3) : letI := acI; (rowP ps)[t]? = some (Sort.flatK encAc 3 (ps.map acOf).toArray)[t]! := by
 letI := acI
 rw [Sort.get_flatK _ _ _ _ (by simpa using ht)]
 have hq : t / 3 < ps.length := by omega
 have h3 : t % 3 < 3 := Nat.mod_lt _ (by decide)
 have e1 : ((ps.map acOf).toArray)[t / 3]! = acOf ps[t / 3] := by
  rw [getElem!_pos _ _ (by simpa using hq)]
  simp
 rw [e1, enc_acOf (hs _ (List.getElem_mem _))]
 have h4 := rowP_at ps (t / 3) (t % 3) _ _ (List.getElem?_eq_getElem hq) (List.getElem?_eq_getElem (show t % 3 < (actC ps[t / 3].1 ps[t / 3].2).length from h3))
 rw [show t / 3 * 3 + t % 3 = t from by omega] at h4
 rw [h4]
 exact congrArg some (getElem!_pos (actC ps[t / 3].1 ps[t / 3].2) (t % 3) h3).symm
theorem bytCmp_any (a b : ByteArray) (w : World) : Calls Tryz.prog 121 #[.string a, .string b] w fun e w' => e = .returned (.int .i64 (Lib.compareBytes a.data.toList b.data.toList)) ∧ w' = w := by
 go_enter Tryz.func121, Tryz.ntmps121
 go_wp2
 rw [run_callFunc_extern Tryz.func145 (by kernel_rfl) (by kernel_rfl) (by kernel_rfl) (e := Extern.BytealgCompare.compare) (by kernel_rfl), Lib.run_compareString]
 simp only [Result.andThen]
 rw [Oper.upon_value]
 go_wp2
 go_ret
 exact ⟨rfl, rfl⟩
theorem strCmp_any (a b : ByteArray) (w : World) : Calls Tryz.prog 95 #[.string a, .string b] w fun e w' => e = .returned (.int .i64 (Lib.compareBytes a.data.toList b.data.toList)) ∧ w' = w := by
 go_enter Tryz.func95, Tryz.ntmps95
 go_wp2_with (go_at_call 121; refine (bytCmp_any _ _ _).mono ?_; rintro e w' ⟨rfl, rfl⟩)
 go_ret
 exact ⟨rfl, rfl⟩
theorem setting1_any (x y : AcT) (W : World) : Calls Tryz.prog 94 #[.agg (encAc x).toArray, .agg (encAc y).toArray] W fun e w' => e = .returned (.int .i64 (cfA x y)) ∧ ∃ q os', w' = Sort.grow (W.drewN q) os' := by
 have hcon := fun W' => strCmp_any (strB x.1.key) (strB y.1.key) W'
 change ∀ W', Calls Tryz.prog 95 _ W' (fun e w' => e = .returned (.int .i64 (cfA x y)) ∧ w' = W') at hcon
 generalize cfA x y = r at hcon ⊢
 obtain ⟨⟨k1, s1, d1⟩, ad1, n1, c1⟩ := x
 obtain ⟨⟨k2, s2, d2⟩, ad2, n2, c2⟩ := y
 dsimp only [encAc, actC, mkS] at hcon ⊢
 generalize strB k1 = z1 at hcon ⊢
 generalize strB k2 = z2 at hcon ⊢
 go_enter Tryz.func94, Tryz.ntmps94
 go_wp2_with (go_at_call 95; refine (hcon _).mono ?_; rintro e w' ⟨rfl, rfl⟩)
 go_ret
 exact ⟨rfl, 0, _, by rw [Sort.alloc_eq_grow, Sort.alloc_eq_grow, Sort.grow_grow]; rfl⟩
theorem cmpLaysA (blk off size : Nat) (w : World) : letI := acI; CmpLays Tryz.prog 94 #[] encAc 3 cfA blk off size w := by
 letI := acI
 exact fun _ _ _ _ x y => setting1_any x y _
theorem agg_act : ∀ w, (isAgg 62).run Tryz.prog w = .ok true w := fun w => by kernel_rfl
theorem size_act3 : ∀ w, (Go.sizeOf 62).run Tryz.prog w = .ok 3 w := fun w => by kernel_rfl
theorem sort_ok : SortOk := by
 letI := acI
 intro W base v ps ts how hnz hperm hpw hlen hsl hb
 obtain ⟨hl, ⟨rfl, h0⟩ | ⟨g, cap, cur, rfl, hg, hh, hc, hm, hs, ht⟩⟩ := how
 · exact absurd rfl hnz
 have hlt : g < W.heap.size := (Array.getElem?_eq_some_iff.1 hh).1
 obtain ⟨d, hd⟩ : ∃ d : Array AcT, d = (ps.map acOf).toArray := ⟨_, rfl⟩
 have hds : d.size = ps.length := by rw [hd]; simp
 have hH : Sort.HoldsK encAc 3 W g 0 d := fun t htl => by
  rw [Sort.size_flatK, hds] at htl
  have h1 := row_flat ps hsl t htl
  rw [← hd, ← ht, List.getElem?_take_of_lt htl] at h1
  refine ⟨?_, ?_⟩
  · rw [Nat.zero_add, World.cell?, hh]
    simpa using h1
  · simp [World.frozen?, hh]
 have eg : ∀ args w, (callFunc 94 args).run Tryz.prog w = .ok (.enter 94 args) w := enters_of Tryz.func94 (by kernel_rfl) rfl
 have hcon := AnyQ.slices_SortFunc sortA 3 agg_act size_act3 encAc (fun _ => rfl) (fun x v hv => by simp [encAc, actC] at hv; rcases hv with rfl | rfl | rfl <;> rfl) cfA swoA 94 #[] g 0 cap d W eg (cmpLaysA g 0 d.size W) hH hlt (by rw [hds]; omega)
 rw [hds] at hcon
 refine hcon.mono ?_
 rintro e w' ⟨rfl, d', n, os, ⟨hp1, _, hp3⟩, hso, rfl⟩
 have hd's : d'.size = ps.length := hp1.trans hds
 have hdl : d'.toList = ts.map acOf := by
  refine rise_uniq (fun x y : AcT => ltB x.1.key y.1.key) _ _ ?_ ?_ ?_
  · have e1 : (d'.extract 0 ps.length).toList = d'.toList := by rw [← hd's]; simp
    have e2 : (d.extract 0 ps.length).toList = d.toList := by rw [← hds]; simp
    rw [e1, e2, hd] at hp3; exact hp3.trans (hperm.symm.map acOf)
  · exact List.pairwise_map.2 hpw
  · rw [List.pairwise_iff_getElem]
    intro i j hi hj hij; have h1 := hso i j (Nat.zero_le _) hij (by rw [← hd's]; simpa using hj)
    rw [lt_cf, getElem!_pos d' i (by simpa using hi), getElem!_pos d' j (by simpa using hj)] at h1
    simpa using h1
 have hd'a : d' = (ts.map acOf).toArray := by rw [← hdl]
 have hlts : ts.length = ps.length := hperm.length_eq
 have hst : ∀ p ∈ ts, isSl p.2 = true := fun p hp => hsl p (hperm.subset hp)
 refine ⟨rfl, ⟨by rw [rowP_len, hlts], Or.inr ⟨g, cap, Sort.putCells id 0 (Sort.flatK encAc 3 d') cur, rfl, hg, ?_, hc, hm, ?_, ?_⟩⟩, ?_⟩
 · unfold sortWorldK
   rw [Sort.heap_grow_old _ _ (by simp [Sort.putRowK]; exact hlt)]
   simp [Sort.putRowK, Sort.putRow, Sort.mapBlock, Array.getElem?_modify, hh, Sort.onCells]
 · simp [Sort.putCells, hs]
 · apply List.ext_getElem?
   intro t
   by_cases htl : t < ps.length * 3
   · rw [List.getElem?_take_of_lt htl]
     have h1 := row_flat ts hst t (by rw [hlts]; exact htl)
     rw [h1, ← hd'a]; have hcz : t < cur.size := by rw [hs]; have := Nat.mul_le_mul_right 3 hc; omega
     simp [Sort.putCells, hcz, hd's, htl]
   · rw [List.getElem?_eq_none (by simp; omega), List.getElem?_eq_none (by rw [rowP_len, hlts]; omega)]
 · refine ⟨rfl, rfl, rfl, by simp [sortWorldK, Sort.putRowK], fun k hk => ?_⟩
   have hkl : k < W.heap.size := Nat.lt_of_lt_of_le hk hb; unfold sortWorldK; rw [Sort.heap_grow_old _ _ (by simp [Sort.putRowK]; exact hkl)]
   simp [Sort.putRowK, Sort.putRow, Sort.mapBlock, Array.getElem?_modify, show g ≠ k by omega]
theorem sSetting_any {w : World} {gm n : Nat} {V : Bs → Value} {m : KM} (hm : MapM w gm n V m) (hml : m.length < 1000000) : Calls Tryz.prog 65 #[.map (some gm)] w fun e w' => ∃ v, e = .returned v ∧ w'.ownsRow w.heap.size 62 3 v m.length (rowP (setP V m)) ∧ Below w.heap.size w w' := sSetting_of sort_ok hm hml
end Go.Proofs.YtopmeedmgjdcgaaGreatDoor
namespace Go.Proofs.YtopmeedmgjdcgaaGreatDoor
open Go.RowKit
theorem mapsClone_any {w : World} {gm n : Nat} {V : Bs → Value} {m : KM} (hm : MapM w gm n V m) : Calls Tryz.prog 104 #[.map (some gm)] w fun e w' => ∃ g, e = .returned (.map (some g)) ∧ MapM w' g n V m ∧ Below w.heap.size w w' ∧ w.heap.size ≤ g := by
 obtain ⟨D, ⟨es, cl, hb, r⟩, h2⟩ := hm.ex
 have HF : Hid (MapM (w.alloc (.map es cl)) w.heap.size n V m) := ⟨⟨D, ⟨es, cl, World.alloc_heap_new w _, r⟩, h2⟩, hm.sl, hm.up⟩
 have HB : Hid (w.heap[gm]? = some (.map es cl)) := hb
 have hq := fun w => run_eql_map_nil_sl (P := Tryz.prog) w 97 _ _ (some gm) Tryz.underlying97
 clear hb r h2 hm
 go_enter Tryz.func104, Tryz.ntmps104
 go_wp2
 rw [run_callFunc_extern Tryz.func129 (by kernel_rfl) (by kernel_rfl) (by kernel_rfl) (e := Extern.MapsClone.clone) (by kernel_rfl), run_maps_clone_sl w 97 HB.out]
 simp only [Result.andThen]
 rw [Oper.upon_value]
 go_wp2
 rw [run_typeAssert_map_sl _ 97 _ _ _ _ Tryz.underlying97]
 simp only [Result.andThen]
 rw [Oper.upon_value]
 go_wp2
 go_ret
 exact ⟨_, rfl, HF.out, below_alloc _ _, Nat.le_refl _⟩
theorem encText_le (t : Bs) (h : t.length < 18446744073709551616) : (encText t).length ≤ t.length + 10 := by
 unfold encText
 rw [List.length_append]
 have := enc_len10 t.length h
 omega
theorem encA_le (a : ActT) (hk : a.key.length < 18446744073709551616) (hd : a.data.length < 18446744073709551616) : (encA a).length ≤ wtA a + 40 := by
 have h1 := encText_le a.key hk
 have h2 := encText_le a.data hd
 have h3 := enc_len10 1 (by decide)
 have h4 := enc_len10 0 (by decide)
 unfold encA wtA
 rw [List.length_append]
 cases a.set
 · simp only [Bool.false_eq_true, if_false]
   omega
 · simp only [if_true, List.length_append]
   omega
theorem encAll_le (c : Nat) : ∀ (l : List ActT), (∀ a ∈ l, (encA a).length ≤ c) → (encAll encA l).length ≤ c * l.length
 | [], _ => by simp [encAll]
 | a :: l, h => by
  have h1 := encAll_le c l (fun x hx => h x (List.mem_cons_of_mem _ hx))
  have h2 := h a (List.mem_cons_self ..)
  rw [encAll_cons, List.length_append, List.length_cons, Nat.mul_add, Nat.mul_one]
  omega
theorem batch_le (c : Nat) (l : List ActT) (hl : l.length ≤ 4096) (h : ∀ a ∈ l, (encA a).length ≤ c) : (batchB l).length ≤ c * 4096 + 10 := by
 have h1 := encAll_le c l h
 have h2 := enc_len10 l.length (by omega)
 have h3 : c * l.length ≤ c * 4096 := Nat.mul_le_mul_left c hl
 show (encNum l.length ++ encAll encA l).length ≤ _
 rw [List.length_append]
 omega
theorem wt_sum : ∀ (l : List ActT) (a : ActT), a ∈ l → wtA a ≤ sumA l
 | [], _, h => by cases h
 | x :: l, a, h => by
  have e : sumA (x :: l) = wtA x + sumA l := by simp [sumA]
  rcases List.mem_cons.1 h with rfl | h
  · omega
  · have := wt_sum l a h
    omega
theorem okZ_light {l : List ActT} (h1 : l.length ≤ 60) (h2 : sumA l ≤ 20000) : okZ l := by
 have hw : ∀ a ∈ l, wtA a ≤ 20000 := fun a ha => Nat.le_trans (wt_sum l a ha) h2
 have hb := batch_le 20040 l (by omega) (fun a ha => by
  have h3 := hw a ha
  have h4 := encA_le a (by unfold wtA at h3; omega) (by unfold wtA at h3; omega)
  omega)
 exact ⟨by omega, by omega, fun a ha => by have h3 := hw a ha; unfold wtA at h3; omega⟩
theorem okA_sz {a : ActT} (h : okA a = true) : a.key.length ≤ 64 ∧ a.data.length ≤ 1048576 := by
 unfold okA at h
 rw [Bool.and_eq_true] at h
 obtain ⟨h1, h2⟩ := h
 refine ⟨of_decide_eq_true h1, ?_⟩
 cases hs : a.set
 · rw [hs] at h2
   simp at h2
   simp [h2]
 · rw [hs] at h2
   simpa using h2
def wt1 (p : Bs × Bs) : Nat := p.1.length + p.2.length + 3
def wtM (m : KM) : Nat := (m.map wt1).sum
theorem wtM_cons (p : Bs × Bs) (m : KM) : wtM (p :: m) = wt1 p + wtM m := by simp [wtM]
theorem wtM_app (a b : KM) : wtM (a ++ b) = wtM a + wtM b := by simp [wtM]
theorem wtM_len : ∀ (m : KM), 3 * m.length ≤ wtM m
 | [] => Nat.le_refl _
 | p :: m => by have := wtM_len m; rw [wtM_cons, List.length_cons, wt1]; omega
theorem wtM_parts (k : Bs) : ∀ (m : KM), wtM (m.filter (fun p => ltB p.1 k)) + wtM (m.filter (fun p => ltB k p.1)) ≤ wtM m
 | [] => Nat.le_refl _
 | p :: m => by
  have ih := wtM_parts k m
  rw [wtM_cons]
  cases h1 : ltB p.1 k with
  | true =>
   rw [List.filter_cons_of_pos (by exact h1), List.filter_cons_of_neg (by rw [ltB_asym h1]; decide), wtM_cons]
   omega
  | false =>
   rw [List.filter_cons_of_neg (by rw [h1]; decide)]
   cases h2 : ltB k p.1 with
   | true => rw [List.filter_cons_of_pos (by exact h2), wtM_cons]; omega
   | false => rw [List.filter_cons_of_neg (by rw [h2]; decide)]; omega
theorem encNum_ge1 (n : Nat) : 1 ≤ (encNum n).length := by
 by_cases h : n < 128
 · rw [encNum_lt h]; exact Nat.le_refl _
 · rw [encNum_ge h, List.length_cons]; omega
theorem encA_ge (a : ActT) (h : a.set = true) : wt1 (a.key, a.data) ≤ (encA a).length := by
 have h1 := encNum_ge1 a.key.length
 have h2 := encNum_ge1 a.data.length
 have h3 := encNum_ge1 1
 unfold encA encText wt1
 rw [h]
 simp only [if_true, List.length_append]
 omega
theorem wtM_one (m : KM) (a : ActT) : wtM (oneM m a) ≤ wtM m + (encA a).length := by
 have h1 := wtM_parts a.key m
 unfold oneM
 rw [wtM_app, wtM_app]
 cases hs : a.set with
 | true =>
  have h2 := encA_ge a hs
  rw [if_pos rfl, wtM_cons]
  have : wtM [] = 0 := rfl
  omega
 | false =>
  rw [if_neg (by decide)]
  have : wtM [] = 0 := rfl
  omega
theorem wtM_done : ∀ (l : List ActT) (m : KM), wtM (doneM m l) ≤ wtM m + (encAll encA l).length
 | [], m => Nat.le_add_right _ _
 | a :: l, m => by
  have h1 := wtM_done l (oneM m a)
  have h2 := wtM_one m a
  rw [encAll_cons, List.length_append]
  show wtM (doneM (oneM m a) l) ≤ _
  omega
theorem len_oneM {m : KM} (h : Rise m) (a : ActT) : (oneM m a).length ≤ m.length + 1 := by
 have h1 := len_one h a
 have h2 : (if a.set = true then 1 else 0) ≤ 1 := by split <;> decide
 generalize (if a.set = true then 1 else 0) = z at h1 h2
 generalize (if (getM m a.key).isSome = true then 1 else 0) = y at h1
 omega
theorem len_doneM : ∀ (l : List ActT) {m : KM}, Rise m → (doneM m l).length ≤ m.length + l.length
 | [], m, _ => Nat.le_refl _
 | a :: l, m, h => by
  have h1 := len_doneM l (h.one a)
  have h2 := len_oneM h a
  show (doneM (oneM m a) l).length ≤ _
  rw [List.length_cons]
  omega
theorem encAll_light : ∀ (l : List ActT), (∀ a ∈ l, a.key.length < 18446744073709551616 ∧ a.data.length < 18446744073709551616) → (encAll encA l).length ≤ sumA l + 40 * l.length
 | [], _ => Nat.le_refl _
 | a :: l, h => by
  have h1 := encAll_light l (fun x hx => h x (List.mem_cons_of_mem _ hx))
  have h2 := encA_le a (h a (List.mem_cons_self ..)).1 (h a (List.mem_cons_self ..)).2
  have e : sumA (a :: l) = wtA a + sumA l := by simp [sumA]
  rw [encAll_cons, List.length_append, List.length_cons, e]
  omega
theorem sum_whole : ∀ (m : KM), sumA (wholeM m) + 3 * m.length = wtM m
 | [] => rfl
 | p :: m => by
  have ih := sum_whole m
  have e : sumA (wholeM (p :: m)) = wtA ⟨p.1, true, p.2⟩ + sumA (wholeM m) := by simp [sumA, wholeM]
  rw [e, wtM_cons, List.length_cons, wt1, wtA]
  simp only
  omega
theorem wtM_mem : ∀ (m : KM), ∀ p ∈ m, wt1 p ≤ wtM m
 | [], p, h => by cases h
 | q :: m, p, h => by
  rw [wtM_cons]
  rcases List.mem_cons.1 h with rfl | h
  · omega
  · have := wtM_mem m p h; omega
theorem whole_le (m : KM) (h : wtM m ≤ 30000) : (batchB (wholeM m)).length ≤ 10 + wtM m + 37 * m.length := by
 have h1 := encAll_light (wholeM m) (fun a ha => by
  obtain ⟨p, hp, e⟩ := List.mem_map.1 ha
  have h3 := wtM_mem m p hp
  rw [← e]
  unfold wt1 at h3
  simp only
  omega)
 have h2 := sum_whole m
 have hl : (wholeM m).length = m.length := by simp [wholeM]
 have h3 := wtM_len m
 have h4 := enc_len10 (wholeM m).length (by omega)
 unfold batchB encList
 rw [List.length_append]
 omega
def anewM (m : KM) : List Bs := if m = [] then [] else [batchB (wholeM m)]
def apyX (m : KM) (rs : List Bs) (l : List ActT) (n : Nat) : Int :=
 if chkL l = 0 ∧ l ≠ [] then (if apX rs (batchB l) n = 0 then 0 else if chkL (wholeM (doneM m l)) = 0 ∧ rsX (anewM (doneM m l)) n = 0 then 0 else 13) else chkL l
def apyM (m : KM) (rs : List Bs) (l : List ActT) (n : Nat) : KM := if apyX m rs l n = 0 then doneM m l else m
def apyL (m : KM) (rs : List Bs) (l : List ActT) (n : Nat) : List Bs :=
 if chkL l = 0 ∧ l ≠ [] then (if apX rs (batchB l) n = 0 then rs ++ [batchB l] else if chkL (wholeM (doneM m l)) = 0 ∧ rsX (anewM (doneM m l)) n = 0 then anewM (doneM m l) else rs) else rs
structure StP (m : KM) (D : DkT) (J : JnT) : Prop where
 lg : Log D J
 lo : 8 ≤ sizeD D
 hi : sizeD D ≤ 47
 ge : J.gen < 1000000
 up : Rise m
 wt : wtM m ≤ sumB J.l
theorem sumB_size : ∀ (l : List Bs), sumB l ≤ sizeL l
 | [] => Nat.le_refl _
 | x :: l => by
  have ih := sumB_size l
  have h1 : sumB (x :: l) = x.length + sumB l := by simp [sumB]
  have h2 : sizeL (x :: l) = 64 * secR x.length + sizeL l := by simp [sizeL]
  rw [h1, h2, secR]
  omega
theorem StP.small {m : KM} {D : DkT} {J : JnT} (h : StP m D J) : wtM m ≤ 1504 := by
 have h1 := h.lg.fits
 have h2 := sizeL_eq J.l
 have h3 := sumB_size J.l
 have h4 := h.wt
 have h5 := h.hi
 unfold hsD at h1
 omega
theorem StP.okJ {m : KM} {D : DkT} {J : JnT} (h : StP m D J) : okJ D J := h.lg.okJ h.lo (Nat.le_trans h.hi (by decide)) (by have := h.ge; omega)
theorem batch_ne (l : List ActT) : 1 ≤ (batchB l).length := by
 unfold batchB encList
 rw [List.length_append]
 have := encNum_ge1 l.length
 omega
theorem room_batch (rs : List Bs) (l : List ActT) (n : Nat) : (batchB l).length ≤ roomZ rs n ↔ apX rs (batchB l) n = 0 := by
 have h0 := batch_ne l
 have h1 := sizeL_eq rs
 generalize batchB l = b at h0
 have hfit := fit_iff (rs ++ [b]) n
 rw [secL_snoc, secR] at hfit
 unfold apX chkX
 rw [roomZ]
 by_cases hc : b.length = 0 ∨ 1048576 < b.length
 · rw [if_pos hc]
   constructor
   · intro h; omega
   · intro h; simp at h
 · rw [if_neg hc, if_neg (by decide)]
   by_cases hf : fit14 (rs ++ [b]) n = true
   · have h2 := hfit.1 hf
     rw [if_pos hf]; exact ⟨fun _ => rfl, fun _ => by omega⟩
   · have h2 : ¬ (1 + (secL rs + (b.length + 120) / 64) ≤ n / 2) := fun h => hf (hfit.2 h)
     rw [if_neg hf]
     constructor
     · intro h; omega
     · intro h; cases h
theorem StP.done {m : KM} {D : DkT} {J : JnT} (h : StP m D J) {l : List ActT} (h1 : l.length ≤ 60) (h2 : sumA l ≤ 20000) : wtM (doneM m l) ≤ 23904 ∧ (doneM m l).length ≤ 562 ∧ (batchB (wholeM (doneM m l))).length ≤ 50000 := by
 have h3 := h.small
 have h4 := wtM_len m
 have hw : ∀ a ∈ l, wtA a ≤ 20000 := fun a ha => Nat.le_trans (wt_sum l a ha) h2
 have h5 := encAll_light l (fun a ha => by have h3 := hw a ha; unfold wtA at h3; omega)
 have h6 := wtM_done l m
 have h7 := len_doneM l h.up
 have h8 := whole_le (doneM m l) (by omega)
 omega
theorem StP.fit {m : KM} {D : DkT} {J : JnT} (h : StP m D J) {l : List ActT} (hf : apX J.l (batchB l) (sizeD D) = 0) : appX J D (batchB l) = 0 ∧ StP (doneM m l) (appD J D (batchB l)) (appJ J D (batchB l)) ∧ (appJ J D (batchB l)).l = J.l ++ [batchB l] ∧ sizeD (appD J D (batchB l)) = sizeD D ∧ (appJ J D (batchB l)).gen = J.gen := by
 obtain ⟨h1, h2, h3, h4, _, h6, _⟩ := do_app h.lg (batchB l)
 rw [hf] at h1
 have h7 : apL J.l (batchB l) (sizeD D) = J.l ++ [batchB l] := if_pos hf
 rw [h7] at h3
 refine ⟨h1, ⟨h2, by rw [h4]; exact h.lo, by rw [h4]; exact h.hi, by rw [h6]; exact h.ge, h.up.done l, ?_⟩, h3, h4, h6⟩
 rw [h3, sumB_snoc]
 have h8 := wtM_done l m
 have h9 := h.wt
 have h10 : (encAll encA l).length ≤ (batchB l).length := by unfold batchB encList; rw [List.length_append]; omega
 omega
theorem wt_whole (m : KM) : wtM m ≤ sumB (anewM m) := by
 unfold anewM
 by_cases e : m = []
 · rw [e]; exact Nat.zero_le _
 rw [if_neg e]
 have h1 : sumB [batchB (wholeM m)] = (batchB (wholeM m)).length := by simp [sumB]
 rw [h1]
 have h2 : ∀ (m : KM), wtM m ≤ (encAll encA (wholeM m)).length := fun m => by
  induction m with
  | nil => exact Nat.le_refl _
  | cons p m ih =>
   have h3 := encA_ge ⟨p.1, true, p.2⟩ rfl; show wtM (p :: m) ≤ (encAll encA (⟨p.1, true, p.2⟩ :: wholeM m)).length; rw [wtM_cons, encAll_cons, List.length_append]; have h4 : wt1 p = wt1 (p.1, p.2) := rfl; simp only at h3; omega
 have h3 := h2 m
 unfold batchB encList
 rw [List.length_append]
 omega
theorem StP.anew {m m2 : KM} {D : DkT} {J : JnT} (h : StP m D J) (hu : Rise m2) (hg : J.gen + 1 < 1000000) (hf : rsX (anewM m2) (sizeD D) = 0) : rstX J D (anewM m2) = 0 ∧ StP m2 (rstD J D (anewM m2)) (rstJ J D (anewM m2)) ∧ (rstJ J D (anewM m2)).l = anewM m2 ∧ sizeD (rstD J D (anewM m2)) = sizeD D ∧ (rstJ J D (anewM m2)).gen = J.gen + 1 := by
 obtain ⟨h1, h2, h3, h4, _, h6⟩ := do_rst h.lg (by omega) (anewM m2)
 rw [hf] at h1
 rw [if_pos h1] at h6
 have h7 : rsL J.l (anewM m2) (sizeD D) = anewM m2 := if_pos hf
 rw [h7] at h3
 exact ⟨h1, ⟨h2, by rw [h4]; exact h.lo, by rw [h4]; exact h.hi, by rw [h6]; exact hg, hu, by rw [h3]; exact wt_whole m2⟩, h3, h4, h6⟩
theorem StP.full {m : KM} {D : DkT} {J : JnT} (h : StP m D J) {m2 : KM} (hl : (batchB (wholeM m2)).length ≤ 50000) (hf : rsX (anewM m2) (sizeD D) ≠ 0) : rstX J D (anewM m2) = 13 ∧ rstD J D (anewM m2) = D ∧ rstJ J D (anewM m2) = J := by
 have hc : ¬ ∃ x ∈ anewM m2, chkX x = 1 := by
  rintro ⟨x, hx, hx1⟩
  unfold anewM at hx
  split at hx
  · cases hx
  · simp at hx
    have := batch_ne (wholeM m2); rw [hx] at hx1; unfold chkX at hx1; rw [if_neg (by omega)] at hx1
    cases hx1
 have h1 : rsX (anewM m2) (sizeD D) = 13 := by
  unfold rsX at hf ⊢
  rw [if_neg hc] at hf ⊢
  split
  · rename_i hx
    rw [if_pos hx] at hf; exact absurd rfl hf
  · rfl
 obtain ⟨h2, _⟩ := do_rst h.lg (by have := h.ge; omega) (anewM m2)
 rw [h1] at h2
 have h3 : rstE D (anewM m2) ≠ 0 := fun e => by
  have h4 := (h.lg.rst (by have := h.ge; omega) e).1
  rw [h2] at h4
  cases h4
 exact ⟨h2, if_neg h3, if_neg h3⟩
theorem rowA_reads {W : World} {base : Nat} {v : Value} {ps : List (ActT × Value)} (h : W.ownsRow base 62 3 v ps.length (rowP ps)) (hd : ∀ p ∈ ps, Reads W p.2 p.1.data) : ReadsA W v (ps.map (·.1)) := by
 obtain ⟨h1, h2⟩ := id h
 rcases h2 with ⟨rfl, h0⟩ | ⟨g, cap, cur, rfl, hg, hh, hc, hm, hs, ht⟩
 · have : ps = [] := List.eq_nil_of_length_eq_zero h0
   subst this; exact ReadsA.nil W
 · refine ⟨_, cap, by rw [List.length_map], by rw [List.length_map]; exact hc, (fun e => by cases e), fun _ => ⟨g, 0, rfl, fun j hj => ?_⟩⟩
   rw [List.length_map] at hj; obtain ⟨p, hp⟩ : ∃ p, ps[j]? = some p := ⟨ps[j], List.getElem?_eq_getElem hj⟩; have e : (ps.map (·.1)).getD j ⟨[], false, []⟩ = p.1 := by rw [List.getD_eq_getElem?_getD, List.getElem?_map, hp]; rfl
   rw [e]; refine ⟨p.2, fun i u hu => ?_, hd p (List.mem_of_getElem? hp)⟩
   have hr := rowP_at ps j i p u hp hu; have hi : j * 3 + i < (rowP ps).length := (List.getElem?_eq_some_iff.1 hr).1; rw [rowP_len] at hi; rw [cell_of_row W g (0 + j * 3 + i) cur _ (0, 0) hh, Nat.zero_add]; rw [← ht, List.getElem?_take_of_lt hi] at hr
   simpa using hr
theorem setP_whole (V : Bs → Value) (m : KM) : (setP V m).map (·.1) = wholeM m := by simp [setP, wholeM]
theorem build_t1 (f : Operand → Value) (o : Oper) (x : Operand) (ad : Option Addr) (n c : Nat) (hx : f x = .slice ad n c) (ho : o.op = .buildSlice 41 1 #[(0, x)]) (w : World) : (execOp f o).run Tryz.prog w = .ok (.value (.slice (some ⟨w.heap.size, 0, none⟩) 1 1)) (w.alloc (.cells #[.slice ad n c] 23)) := by
 unfold execOp
 rw [ho]
 simp only [List.map_toArray, List.map_cons, List.map_nil, hx]
 kernel_rfl
theorem wpSeq_buildT1 {ops : Array Oper} {Q : Exit → Act → World → Prop} {rest : List Oper} {o : Oper} {a : Act} {w : World} (x : Operand) (ad : Option Addr) (n c : Nat) (hx : a.eval x = .slice ad n c) (ho : o.op = .buildSlice 41 1 #[(0, x)]) (hw : Region.wanted o (yielded ops a.tmps) = true)
 (h : ∀ g w', NewR [.slice ad n c] 23 w g w' → wpList Tryz.prog ops Q rest (a.put o.dst (.slice (some ⟨g, 0, none⟩) 1 1)) w') : wpList Tryz.prog ops Q (o :: rest) a w :=
 wpSeq_val _ _ hw (build_t1 _ o x ad n c hx ho w) (h _ _ (NewR.of _ _ w))
theorem staL_one {P : Nat → Prop} {w : World} {g : Nat} {v : Value} {b : Bs} (hb : Blk w g [v] 23) (hg : ¬ P g) (hs : Sta P w (fun W => Reads W v b)) : Sta P w (fun W => ReadsL W (.slice (some ⟨g, 0, none⟩) 1 1) [b]) := fun W hW => by
 refine ⟨_, _, rfl, Nat.le_refl _, (fun h => by cases h), fun _ => ⟨g, 0, rfl, fun j hj => ?_⟩⟩
 match j, hj with
 | 0, _ => exact ⟨v, (hW.blk hb hg).cell 0, hs W hW⟩
theorem sRestart_none {w : World} {gs gd lg gm n : Nat} {P Q : Nat → Prop} {V : Bs → Value} {m : KM} {D : DkT} {J : JnT} (h : StM w gs gd lg gm n P Q V m D J) (hK : KOk w) (hp : StP m D J) (v : Value) (ps : List (ActT × Value)) (hst : Sta (Un P Q) w (fun W => RdP W v ps ∧ (∀ p ∈ ps, Reads W p.2 p.1.data) ∧ ReadsA W v (ps.map (·.1)))) (hsl : ∀ p ∈ ps, isSl p.2 = true ∧ p.1.key.length ≤ 1000000 ∧ p.1.data.length ≤ 1048576) (h60 : ps.length ≤ 60) (h2 : sumA (ps.map (·.1)) ≤ 20000) (hn : n + ps.length < 10000000) (h0 : doneM m (ps.map (·.1)) = []) :
 Calls Tryz.prog 80 #[.pointer (some ⟨gs, 0, none⟩), v] w fun e w' => e = .returned (.int .i64 (rstX J D (anewM (doneM m (ps.map (·.1)))))) ∧ ∃ P' Q', Mut (Un P Q) w w' ∧ Grew w (Un P Q) (Un P' Q') ∧ (rstX J D (anewM (doneM m (ps.map (·.1)))) ≠ 14 → StM w' gs gd lg gm n P' Q' V m (rstD J D (anewM (doneM m (ps.map (·.1))))) (rstJ J D (anewM (doneM m (ps.map (·.1)))))) := by
 obtain ⟨l, HL⟩ := sqn (ps.map (·.1))
 rw [← HL.out] at hst h2 h0 ⊢
 obtain ⟨m2, HM2⟩ := sqn (doneM m l)
 rw [← HM2.out] at h0 ⊢
 obtain ⟨N, HN⟩ := sqn (ps.length)
 obtain ⟨ad, cp, hv⟩ := hst.now.1.form
 rw [← HN.out] at hv
 subst hv
 have hbd := hp.done (l := l) (by rw [HL.out, List.length_map]; exact h60) h2
 rw [← HM2.out] at hbd
 have hpl : ps.length < 1000000 := by omega
 have HBD : Hid (m2.length < 1000000 ∧ (batchB (wholeM m2)).length ≤ 50000 ∧ wtM m2 ≤ 23904) := ⟨by omega, hbd.2.2, hbd.1⟩
 have HDO : Hid (∀ (W : World) (g : Nat), Below w.heap.size w W → MapM W g n V m → w.heap.size ≤ g → Calls Tryz.prog 54 #[.map (some g), .slice ad N cp] W fun e w' => e = .returned (.tuple #[]) ∧ ∃ V' n', MapM w' g n' V' m2 ∧ (∀ s t, getM m2 s = some t → Reads w' (V' s) t) ∧ Mut (fun k => k = g) W w') := fun W g hb hm hg => by
  have hmu := mut_below hb (Un P Q)
  have hmm := mut_below hb (Um P Q gm)
  have hK : ∀ s t, getM m s = some t → (Sta (fun k => k = g) W (fun X => Reads X (V s) t) ∧ t.length ≤ 1048576) := fun s t ht => ⟨(h.tx s t ht).1.go hmm (fun k hk e => absurd hk (by omega)), (h.tx s t ht).2⟩
  have hs2 := hst.go hmu (P' := fun k => k = g) (fun k hk e => absurd hk (by omega))
  refine (sDo_any (fun v t => Sta (fun k => k = g) W (fun X => Reads X v t) ∧ t.length ≤ 1048576) hm hK (.slice ad N cp) ps hs2.now.1 (fun p hp => ⟨(hsl p hp).2.1, (hsl p hp).1, fun _ => ⟨hs2.mono (fun X hX => hX.2.1 p hp), (hsl p hp).2.2⟩⟩) hn).mono (fun e w' hx => ?_)
  obtain ⟨h1, V', hI⟩ := hx
  rw [← HL.out, ← HM2.out] at hI
  exact ⟨h1, V', _, hI.mp, fun s t ht => (hI.kk s t ht).1.at hI.mu, hI.mu⟩
 have hg1 : ∀ (W : World), Below w.heap.size w W → StM W gs gd lg gm n P Q V m D J := fun W hb => h.below hb
 have HS : Hid (∀ (W : World), Below w.heap.size w W → StM W gs gd lg gm n P Q V m D J ∧ KOk W) := fun W hb => ⟨h.below hb, hK.below hb hK.lt⟩
 have HMC : Hid (Calls Tryz.prog 104 #[.map (some gm)] w fun e w' => ∃ g, e = .returned (.map (some g)) ∧ MapM w' g n V m ∧ Below w.heap.size w w' ∧ w.heap.size ≤ g) := mapsClone_any h.mp
 have c1 : w.cell? ⟨gs, 1, none⟩ = some (.map (some gm)) := h.sb.cell 1
 obtain ⟨ex, HEX⟩ := sqn (rstX J D (anewM m2))
 have HAN : Hid (∀ x ∈ anewM m2, x.length ≤ 100000) := fun x hx => by
  unfold anewM at hx
  by_cases e : m2 = []
  · rw [if_pos e] at hx
    cases hx
  · rw [if_neg e] at hx
    simp at hx
    rw [hx]; have := HBD.out.2.1; omega
 have HRE : Hid (∀ W vr, Below w.heap.size w W → Sta (Un P Q) W (fun X => ReadsL X vr (anewM m2)) → Calls Tryz.prog 105 #[.pointer (some ⟨lg, 0, none⟩), vr] W fun e w' => e = .returned (.int .i64 ex) ∧ ∃ P' Q', Mut (Un P Q) w w' ∧ Grew w (Un P Q) (Un P' Q') ∧ (ex ≠ 14 → StM w' gs gd lg gm n P' Q' V m (rstD J D (anewM m2)) (rstJ J D (anewM m2)))) := fun W vr hb hs => by
  have hS := HS.out W hb
  refine (jRestart_any vr (anewM m2) hS.2 hS.1.pk hp.okJ (by unfold anewM; split <;> simp) HAN.out hs).mono (fun e w' hx => ?_)
  obtain ⟨h3, P', Q', h4, h5, h6, h7⟩ := hx
  rw [← HEX.out] at h3 h7
  exact ⟨h3, P', Q', (mut_below hb _).trans (fun _ _ h => h) h5, fun k hk => (h6 k hk).elim Or.inl (fun h => Or.inr (Nat.le_trans hb.size h)), fun he => hS.1.moved h5 h6 (h7 he)⟩
 rw [← HEX.out]
 have ha : anewM m2 = [] := by unfold anewM; rw [if_pos h0]
 rw [ha] at HRE
 clear h hK hp hst hsl h60 h2 hn hbd hpl hg1 ha
 go_enter Tryz.func80, Tryz.ntmps80
 obtain ⟨tk0, tk1, tk2, tk3, tk4, tk5, tk6⟩ := sqk7
 go_wp2_with (first
  | (clear tk0; go_at_call 104; refine (HMC.out).mono ?_; rintro e0 y0 ⟨g0, rfl, hm0, bl0, hg0⟩
     have HM0 : Hid (MapM y0 g0 n V m) := hm0; have HB0 : Hid (Below w.heap.size w y0 ∧ w.heap.size ≤ g0) := ⟨bl0, hg0⟩; clear hm0 bl0 hg0)
  | (clear tk1; go_at_call 54; refine (HDO.out y0 g0 HB0.out.1 HM0.out HB0.out.2).mono ?_; rintro e1 y1 ⟨rfl, V', n', hm1, hr1, mu1⟩
     have HM1 : Hid (MapM y1 g0 n' V' m2) := hm1; have HR1 : Hid (∀ s t, getM m2 s = some t → Reads y1 (V' s) t) := hr1; have HB1 : Hid (Below w.heap.size w y1) := HB0.out.1.trans (mu1.below HB0.out.1.size (fun k e => by rw [e]; exact HB0.out.2))
     have c2 : y1.cell? ⟨gs, 0, none⟩ = some (.pointer (some ⟨lg, 0, none⟩)) := (HS.out y1 HB1.out).1.sb.cell 0; have hk := fun ty => HM1.out.len ty
     rw [h0] at hk; have fl : ((([] : KM).length : Nat) : Int) = 0 := rfl; simp only [fl] at hk; clear hm1 hr1 mu1)
  | (clear tk2; go_at_call 105; refine (HRE.out y1 (.slice none 0 0) HB1.out (fun X _ => readsL_nil X)).mono ?_; rintro e2 y2 ⟨rfl, P', Q', mu, gr, hs2⟩
     have HF : Hid (Mut (Un P Q) w y2 ∧ Grew w (Un P Q) (Un P' Q') ∧ (ex ≠ 14 → StM y2 gs gd lg gm n P' Q' V m (rstD J D (anewM m2)) (rstJ J D (anewM m2)))) := ⟨mu, gr, by rw [show anewM m2 = [] by unfold anewM; rw [if_pos h0]]; exact hs2⟩
     clear mu gr hs2))
 go_ret
 exact ⟨rfl, P', Q', HF.out⟩
theorem sRestart_full {w : World} {gs gd lg gm n : Nat} {P Q : Nat → Prop} {V : Bs → Value} {m : KM} {D : DkT} {J : JnT} (h : StM w gs gd lg gm n P Q V m D J) (hK : KOk w) (hp : StP m D J) (v : Value) (ps : List (ActT × Value)) (hst : Sta (Un P Q) w (fun W => RdP W v ps ∧ (∀ p ∈ ps, Reads W p.2 p.1.data) ∧ ReadsA W v (ps.map (·.1)))) (hsl : ∀ p ∈ ps, isSl p.2 = true ∧ p.1.key.length ≤ 1000000 ∧ p.1.data.length ≤ 1048576) (h60 : ps.length ≤ 60) (h2 : sumA (ps.map (·.1)) ≤ 20000) (hn : n + ps.length < 10000000) (h0 : doneM m (ps.map (·.1)) ≠ []) (hc : chkL (wholeM (doneM m (ps.map (·.1)))) = 0) :
 Calls Tryz.prog 80 #[.pointer (some ⟨gs, 0, none⟩), v] w fun e w' => e = .returned (.int .i64 (rstX J D (anewM (doneM m (ps.map (·.1)))))) ∧ ∃ P' Q', Mut (Un P Q) w w' ∧ Grew w (Un P Q) (Un P' Q') ∧ (rstX J D (anewM (doneM m (ps.map (·.1)))) ≠ 14 → StM w' gs gd lg gm n P' Q' V m (rstD J D (anewM (doneM m (ps.map (·.1))))) (rstJ J D (anewM (doneM m (ps.map (·.1)))))) := by
 obtain ⟨l, HL⟩ := sqn (ps.map (·.1))
 rw [← HL.out] at hst h2 h0 hc ⊢
 obtain ⟨m2, HM2⟩ := sqn (doneM m l)
 rw [← HM2.out] at h0 hc ⊢
 obtain ⟨N, HN⟩ := sqn (ps.length)
 obtain ⟨ad, cp, hv⟩ := hst.now.1.form
 rw [← HN.out] at hv
 subst hv
 have hbd := hp.done (l := l) (by rw [HL.out, List.length_map]; exact h60) h2
 rw [← HM2.out] at hbd
 have hpl : ps.length < 1000000 := by omega
 have HBD : Hid (m2.length < 1000000 ∧ (batchB (wholeM m2)).length ≤ 50000 ∧ wtM m2 ≤ 23904) := ⟨by omega, hbd.2.2, hbd.1⟩
 have HDO : Hid (∀ (W : World) (g : Nat), Below w.heap.size w W → MapM W g n V m → w.heap.size ≤ g → Calls Tryz.prog 54 #[.map (some g), .slice ad N cp] W fun e w' => e = .returned (.tuple #[]) ∧ ∃ V' n', MapM w' g n' V' m2 ∧ (∀ s t, getM m2 s = some t → Reads w' (V' s) t) ∧ Mut (fun k => k = g) W w') := fun W g hb hm hg => by
  have hmu := mut_below hb (Un P Q)
  have hmm := mut_below hb (Um P Q gm)
  have hK : ∀ s t, getM m s = some t → (Sta (fun k => k = g) W (fun X => Reads X (V s) t) ∧ t.length ≤ 1048576) := fun s t ht => ⟨(h.tx s t ht).1.go hmm (fun k hk e => absurd hk (by omega)), (h.tx s t ht).2⟩
  have hs2 := hst.go hmu (P' := fun k => k = g) (fun k hk e => absurd hk (by omega))
  refine (sDo_any (fun v t => Sta (fun k => k = g) W (fun X => Reads X v t) ∧ t.length ≤ 1048576) hm hK (.slice ad N cp) ps hs2.now.1 (fun p hp => ⟨(hsl p hp).2.1, (hsl p hp).1, fun _ => ⟨hs2.mono (fun X hX => hX.2.1 p hp), (hsl p hp).2.2⟩⟩) hn).mono (fun e w' hx => ?_)
  obtain ⟨h1, V', hI⟩ := hx
  rw [← HL.out, ← HM2.out] at hI
  exact ⟨h1, V', _, hI.mp, fun s t ht => (hI.kk s t ht).1.at hI.mu, hI.mu⟩
 have hg1 : ∀ (W : World), Below w.heap.size w W → StM W gs gd lg gm n P Q V m D J := fun W hb => h.below hb
 have HS : Hid (∀ (W : World), Below w.heap.size w W → StM W gs gd lg gm n P Q V m D J ∧ KOk W) := fun W hb => ⟨h.below hb, hK.below hb hK.lt⟩
 have HMC : Hid (Calls Tryz.prog 104 #[.map (some gm)] w fun e w' => ∃ g, e = .returned (.map (some g)) ∧ MapM w' g n V m ∧ Below w.heap.size w w' ∧ w.heap.size ≤ g) := mapsClone_any h.mp
 have c1 : w.cell? ⟨gs, 1, none⟩ = some (.map (some gm)) := h.sb.cell 1
 obtain ⟨ex, HEX⟩ := sqn (rstX J D (anewM m2))
 have HAN : Hid (∀ x ∈ anewM m2, x.length ≤ 100000) := fun x hx => by
  unfold anewM at hx
  by_cases e : m2 = []
  · rw [if_pos e] at hx
    cases hx
  · rw [if_neg e] at hx
    simp at hx
    rw [hx]; have := HBD.out.2.1; omega
 have HRE : Hid (∀ W vr, Below w.heap.size w W → Sta (Un P Q) W (fun X => ReadsL X vr (anewM m2)) → Calls Tryz.prog 105 #[.pointer (some ⟨lg, 0, none⟩), vr] W fun e w' => e = .returned (.int .i64 ex) ∧ ∃ P' Q', Mut (Un P Q) w w' ∧ Grew w (Un P Q) (Un P' Q') ∧ (ex ≠ 14 → StM w' gs gd lg gm n P' Q' V m (rstD J D (anewM m2)) (rstJ J D (anewM m2)))) := fun W vr hb hs => by
  have hS := HS.out W hb
  refine (jRestart_any vr (anewM m2) hS.2 hS.1.pk hp.okJ (by unfold anewM; split <;> simp) HAN.out hs).mono (fun e w' hx => ?_)
  obtain ⟨h3, P', Q', h4, h5, h6, h7⟩ := hx
  rw [← HEX.out] at h3 h7
  exact ⟨h3, P', Q', (mut_below hb _).trans (fun _ _ h => h) h5, fun k hk => (h6 k hk).elim Or.inl (fun h => Or.inr (Nat.le_trans hb.size h)), fun he => hS.1.moved h5 h6 (h7 he)⟩
 rw [← HEX.out]
 have hze : okZ (wholeM m2) := ⟨by rw [show (wholeM m2).length = m2.length by simp [wholeM]]; have := HBD.out.1; omega, by have := HBD.out.2.1; omega, fun a ha => by
  obtain ⟨p, hp, e⟩ := List.mem_map.1 ha
  have h3 := wtM_mem m2 p hp
  have h4 := HBD.out.2.2
  unfold wt1 at h3
  rw [← e]
  show p.2.length ≤ _
  omega⟩
 have HWI : Hid (∀ W v, ReadsA W v (wholeM m2) → Calls Tryz.prog 46 #[v, .int .i64 1048576] W fun e w' => ∃ vb, e = .returned (.tuple #[vb, .bool true]) ∧ OwnB w' W.heap.size vb (batchB (wholeM m2)) ∧ Below W.heap.size W w') := fun W v hr => by
  refine (sWithin_any v (wholeM m2) 1048576 W hr hze).mono (fun e w' hx => ?_)
  obtain ⟨vb, e1, e2, e3⟩ := hx
  have hle : ((batchB (wholeM m2)).length : Int) ≤ 1048576 := by have := HBD.out.2.1; omega
  rw [decide_eq_true hle] at e1
  exact ⟨vb, e1, e2 hle, e3⟩
 have HCK : Hid (∀ W v, ReadsA W v (wholeM m2) → Calls Tryz.prog 11 #[v] W fun e w' => e = .returned (.int .i64 0) ∧ Below W.heap.size W w') := fun W v hr => by
  have hx := sCheck_any v (wholeM m2) W hr (by have := hze.n; omega)
  rw [hc] at hx
  exact hx
 have fl : ¬ ((m2.length : Int) = 0) := by
  have h3 : 0 < m2.length := List.length_pos_iff.2 h0
  omega
 have ha : anewM m2 = [batchB (wholeM m2)] := by unfold anewM; rw [if_neg h0]
 rw [ha] at HRE
 clear h hK hp hst hsl h60 h2 hn hbd hpl hg1 hze
 go_enter Tryz.func80, Tryz.ntmps80
 obtain ⟨tk0, tk1, tk2, tk3, tk4, tk5, tk6⟩ := sqk7
 go_wp2_with (first
  | (clear tk0; go_at_call 104; refine (HMC.out).mono ?_; rintro e0 y0 ⟨g0, rfl, hm0, bl0, hg0⟩
     have HM0 : Hid (MapM y0 g0 n V m) := hm0; have HB0 : Hid (Below w.heap.size w y0 ∧ w.heap.size ≤ g0) := ⟨bl0, hg0⟩; clear hm0 bl0 hg0)
  | (clear tk1; go_at_call 54; refine (HDO.out y0 g0 HB0.out.1 HM0.out HB0.out.2).mono ?_; rintro e1 y1 ⟨rfl, V', n', hm1, hr1, mu1⟩
     have HM1 : Hid (MapM y1 g0 n' V' m2) := hm1; have HR1 : Hid (∀ s t, getM m2 s = some t → Reads y1 (V' s) t) := hr1; have HB1 : Hid (Below w.heap.size w y1) := HB0.out.1.trans (mu1.below HB0.out.1.size (fun k e => by rw [e]; exact HB0.out.2))
     have c2 : y1.cell? ⟨gs, 0, none⟩ = some (.pointer (some ⟨lg, 0, none⟩)) := (HS.out y1 HB1.out).1.sb.cell 0; have hk := fun ty => HM1.out.len ty
     skip
     clear hm1 hr1 mu1)
  | (clear tk2; go_at_call 65; refine (sSetting_any HM1.out HBD.out.1).mono ?_; rintro e2 y2 ⟨v2, rfl, ow2, bl2⟩
     have hrd : ReadsA y2 v2 (wholeM m2) := by
      have h3 := rowA_reads (ps := setP V' m2) (by rw [setP_len]; exact ow2) (fun p hp => by
       obtain ⟨q, hq, e⟩ := List.mem_map.1 hp; rw [← e]; exact (HR1.out q.1 q.2 ((getM_mem HM1.out.up _ _).2 hq)).below bl2)
      rwa [setP_whole] at h3
     have HA2 : Hid (ReadsA y2 v2 (wholeM m2)) := hrd; have HB2 : Hid (Below w.heap.size w y2) := HB1.out.trans (bl2.mono HB1.out.size); clear ow2 bl2 hrd)
  | (clear tk3; go_at_call 46; refine (HWI.out y2 v2 HA2.out).mono ?_; rintro e3 y3 ⟨vb, rfl, ow3, bl3⟩
     obtain ⟨ab, nb, cb, hvb⟩ := isSl_form ow3.isSl; subst hvb; have HO3 : Hid (OwnB y3 y2.heap.size (.slice ab nb cb) (batchB (wholeM m2))) := ow3; have HA3 : Hid (ReadsA y3 v2 (wholeM m2)) := HA2.out.below bl3; have HB3 : Hid (Below w.heap.size w y3) := HB2.out.trans (bl3.mono HB2.out.size); clear ow3 bl3)
  | (clear tk4; go_at_call 11; refine (HCK.out y3 v2 HA3.out).mono ?_; rintro e4 y4 ⟨rfl, bl4⟩
     have HO4 : Hid (OwnB y4 y2.heap.size (.slice ab nb cb) (batchB (wholeM m2))) := HO3.out.below bl4 (Nat.le_refl _); have HB4 : Hid (Below w.heap.size w y4) := HB3.out.trans (bl4.mono HB3.out.size); have c3 : y4.cell? ⟨gs, 0, none⟩ = some (.pointer (some ⟨lg, 0, none⟩)) := (HS.out y4 HB4.out).1.sb.cell 0; clear bl4)
  | (clear tk5; with_reducible refine wpSeq_buildT1 (.tmp 43) ab nb cb ?_ ?_ ?_ ?_
     · rfl
     · rfl
     · rfl
     intro g5 y5 nn; have HB5 : Hid (Below w.heap.size w y5) := HB4.out.trans (nn.below.mono HB4.out.size)
     have HL5 : Hid (Sta (Un P Q) y5 (fun W => ReadsL W (.slice (some ⟨g5, 0, none⟩) 1 1) [batchB (wholeM m2)])) := by
      have hlt : ∀ k, Un P Q k → k < y2.heap.size := fun k hk => (HS.out y2 HB2.out).1.lt k hk
      refine staL_one nn.blk (fun hk => ?_) ((HO4.out.st hlt).below nn.below)
      have h3 := hlt g5 hk; have h4 := nn.ge; have h5 := (HS.out y4 HB4.out).1.lt g5 hk; omega
     clear nn)
  | (clear tk6; go_at_call 105; refine (HRE.out y5 _ HB5.out HL5.out).mono ?_; rintro e6 y6 ⟨rfl, P', Q', mu, gr, hs2⟩
     have HF : Hid (Mut (Un P Q) w y6 ∧ Grew w (Un P Q) (Un P' Q') ∧ (ex ≠ 14 → StM y6 gs gd lg gm n P' Q' V m (rstD J D (anewM m2)) (rstJ J D (anewM m2)))) := ⟨mu, gr, by rw [show anewM m2 = [batchB (wholeM m2)] by unfold anewM; rw [if_neg h0]]; exact hs2⟩
     clear mu gr hs2))
 go_ret
 exact ⟨rfl, P', Q', HF.out⟩
theorem sRestart_bad {w : World} {gs gd lg gm n : Nat} {P Q : Nat → Prop} {V : Bs → Value} {m : KM} {D : DkT} {J : JnT} (h : StM w gs gd lg gm n P Q V m D J) (hK : KOk w) (hp : StP m D J) (v : Value) (ps : List (ActT × Value)) (hst : Sta (Un P Q) w (fun W => RdP W v ps ∧ (∀ p ∈ ps, Reads W p.2 p.1.data) ∧ ReadsA W v (ps.map (·.1)))) (hsl : ∀ p ∈ ps, isSl p.2 = true ∧ p.1.key.length ≤ 1000000 ∧ p.1.data.length ≤ 1048576) (h60 : ps.length ≤ 60) (h2 : sumA (ps.map (·.1)) ≤ 20000) (hn : n + ps.length < 10000000) (h0 : doneM m (ps.map (·.1)) ≠ []) (hc : chkL (wholeM (doneM m (ps.map (·.1)))) = 1) :
 Calls Tryz.prog 80 #[.pointer (some ⟨gs, 0, none⟩), v] w fun e w' => e = .returned (.int .i64 13) ∧ Below w.heap.size w w' := by
 obtain ⟨l, HL⟩ := sqn (ps.map (·.1))
 rw [← HL.out] at hst h2 h0 hc
 obtain ⟨m2, HM2⟩ := sqn (doneM m l)
 rw [← HM2.out] at h0 hc
 obtain ⟨N, HN⟩ := sqn (ps.length)
 obtain ⟨ad, cp, hv⟩ := hst.now.1.form
 rw [← HN.out] at hv
 subst hv
 have hbd := hp.done (l := l) (by rw [HL.out, List.length_map]; exact h60) h2
 rw [← HM2.out] at hbd
 have hpl : ps.length < 1000000 := by omega
 have HBD : Hid (m2.length < 1000000 ∧ (batchB (wholeM m2)).length ≤ 50000 ∧ wtM m2 ≤ 23904) := ⟨by omega, hbd.2.2, hbd.1⟩
 have HDO : Hid (∀ (W : World) (g : Nat), Below w.heap.size w W → MapM W g n V m → w.heap.size ≤ g → Calls Tryz.prog 54 #[.map (some g), .slice ad N cp] W fun e w' => e = .returned (.tuple #[]) ∧ ∃ V' n', MapM w' g n' V' m2 ∧ (∀ s t, getM m2 s = some t → Reads w' (V' s) t) ∧ Mut (fun k => k = g) W w') := fun W g hb hm hg => by
  have hmu := mut_below hb (Un P Q)
  have hmm := mut_below hb (Um P Q gm)
  have hK : ∀ s t, getM m s = some t → (Sta (fun k => k = g) W (fun X => Reads X (V s) t) ∧ t.length ≤ 1048576) := fun s t ht => ⟨(h.tx s t ht).1.go hmm (fun k hk e => absurd hk (by omega)), (h.tx s t ht).2⟩
  have hs2 := hst.go hmu (P' := fun k => k = g) (fun k hk e => absurd hk (by omega))
  refine (sDo_any (fun v t => Sta (fun k => k = g) W (fun X => Reads X v t) ∧ t.length ≤ 1048576) hm hK (.slice ad N cp) ps hs2.now.1 (fun p hp => ⟨(hsl p hp).2.1, (hsl p hp).1, fun _ => ⟨hs2.mono (fun X hX => hX.2.1 p hp), (hsl p hp).2.2⟩⟩) hn).mono (fun e w' hx => ?_)
  obtain ⟨h1, V', hI⟩ := hx
  rw [← HL.out, ← HM2.out] at hI
  exact ⟨h1, V', _, hI.mp, fun s t ht => (hI.kk s t ht).1.at hI.mu, hI.mu⟩
 have hg1 : ∀ (W : World), Below w.heap.size w W → StM W gs gd lg gm n P Q V m D J := fun W hb => h.below hb
 have HS : Hid (∀ (W : World), Below w.heap.size w W → StM W gs gd lg gm n P Q V m D J ∧ KOk W) := fun W hb => ⟨h.below hb, hK.below hb hK.lt⟩
 have HMC : Hid (Calls Tryz.prog 104 #[.map (some gm)] w fun e w' => ∃ g, e = .returned (.map (some g)) ∧ MapM w' g n V m ∧ Below w.heap.size w w' ∧ w.heap.size ≤ g) := mapsClone_any h.mp
 have c1 : w.cell? ⟨gs, 1, none⟩ = some (.map (some gm)) := h.sb.cell 1
 have hze : okZ (wholeM m2) := ⟨by rw [show (wholeM m2).length = m2.length by simp [wholeM]]; have := HBD.out.1; omega, by have := HBD.out.2.1; omega, fun a ha => by
  obtain ⟨p, hp, e⟩ := List.mem_map.1 ha
  have h3 := wtM_mem m2 p hp
  have h4 := HBD.out.2.2
  unfold wt1 at h3
  rw [← e]
  show p.2.length ≤ _
  omega⟩
 have HWI : Hid (∀ W v, ReadsA W v (wholeM m2) → Calls Tryz.prog 46 #[v, .int .i64 1048576] W fun e w' => ∃ vb, e = .returned (.tuple #[vb, .bool true]) ∧ OwnB w' W.heap.size vb (batchB (wholeM m2)) ∧ Below W.heap.size W w') := fun W v hr => by
  refine (sWithin_any v (wholeM m2) 1048576 W hr hze).mono (fun e w' hx => ?_)
  obtain ⟨vb, e1, e2, e3⟩ := hx
  have hle : ((batchB (wholeM m2)).length : Int) ≤ 1048576 := by have := HBD.out.2.1; omega
  rw [decide_eq_true hle] at e1
  exact ⟨vb, e1, e2 hle, e3⟩
 have HCK : Hid (∀ W v, ReadsA W v (wholeM m2) → Calls Tryz.prog 11 #[v] W fun e w' => e = .returned (.int .i64 1) ∧ Below W.heap.size W w') := fun W v hr => by
  have hx := sCheck_any v (wholeM m2) W hr (by have := hze.n; omega)
  rw [hc] at hx
  exact hx
 have fl : ¬ ((m2.length : Int) = 0) := by
  have h3 : 0 < m2.length := List.length_pos_iff.2 h0
  omega
 clear h hK hp hst hsl h60 h2 hn hbd hpl hg1 hze
 go_enter Tryz.func80, Tryz.ntmps80
 obtain ⟨tk0, tk1, tk2, tk3, tk4, tk5, tk6⟩ := sqk7
 go_wp2_with (first
  | (clear tk0; go_at_call 104; refine (HMC.out).mono ?_; rintro e0 y0 ⟨g0, rfl, hm0, bl0, hg0⟩
     have HM0 : Hid (MapM y0 g0 n V m) := hm0; have HB0 : Hid (Below w.heap.size w y0 ∧ w.heap.size ≤ g0) := ⟨bl0, hg0⟩; clear hm0 bl0 hg0)
  | (clear tk1; go_at_call 54; refine (HDO.out y0 g0 HB0.out.1 HM0.out HB0.out.2).mono ?_; rintro e1 y1 ⟨rfl, V', n', hm1, hr1, mu1⟩
     have HM1 : Hid (MapM y1 g0 n' V' m2) := hm1; have HR1 : Hid (∀ s t, getM m2 s = some t → Reads y1 (V' s) t) := hr1; have HB1 : Hid (Below w.heap.size w y1) := HB0.out.1.trans (mu1.below HB0.out.1.size (fun k e => by rw [e]; exact HB0.out.2))
     have c2 : y1.cell? ⟨gs, 0, none⟩ = some (.pointer (some ⟨lg, 0, none⟩)) := (HS.out y1 HB1.out).1.sb.cell 0; have hk := fun ty => HM1.out.len ty
     skip
     clear hm1 hr1 mu1)
  | (clear tk2; go_at_call 65; refine (sSetting_any HM1.out HBD.out.1).mono ?_; rintro e2 y2 ⟨v2, rfl, ow2, bl2⟩
     have hrd : ReadsA y2 v2 (wholeM m2) := by
      have h3 := rowA_reads (ps := setP V' m2) (by rw [setP_len]; exact ow2) (fun p hp => by
       obtain ⟨q, hq, e⟩ := List.mem_map.1 hp; rw [← e]; exact (HR1.out q.1 q.2 ((getM_mem HM1.out.up _ _).2 hq)).below bl2)
      rwa [setP_whole] at h3
     have HA2 : Hid (ReadsA y2 v2 (wholeM m2)) := hrd; have HB2 : Hid (Below w.heap.size w y2) := HB1.out.trans (bl2.mono HB1.out.size); clear ow2 bl2 hrd)
  | (clear tk3; go_at_call 46; refine (HWI.out y2 v2 HA2.out).mono ?_; rintro e3 y3 ⟨vb, rfl, ow3, bl3⟩
     obtain ⟨ab, nb, cb, hvb⟩ := isSl_form ow3.isSl; subst hvb; have HO3 : Hid (OwnB y3 y2.heap.size (.slice ab nb cb) (batchB (wholeM m2))) := ow3; have HA3 : Hid (ReadsA y3 v2 (wholeM m2)) := HA2.out.below bl3; have HB3 : Hid (Below w.heap.size w y3) := HB2.out.trans (bl3.mono HB2.out.size); clear ow3 bl3)
  | (clear tk4; go_at_call 11; refine (HCK.out y3 v2 HA3.out).mono ?_; rintro e4 y4 ⟨rfl, bl4⟩
     have HO4 : Hid (OwnB y4 y2.heap.size (.slice ab nb cb) (batchB (wholeM m2))) := HO3.out.below bl4 (Nat.le_refl _); have HB4 : Hid (Below w.heap.size w y4) := HB3.out.trans (bl4.mono HB3.out.size); have c3 : y4.cell? ⟨gs, 0, none⟩ = some (.pointer (some ⟨lg, 0, none⟩)) := (HS.out y4 HB4.out).1.sb.cell 0; clear bl4))
 go_ret
 exact ⟨rfl, HB4.out⟩
theorem DoS.weak {w wr : World} {gm n : Nat} {K K' : Value → Bs → Prop} {m : KM} {V : Bs → Value} (h : DoS w gm n K m V wr) (hk : ∀ v t, K v t → K' v t) : DoS w gm n K' m V wr := ⟨h.mp, fun s t ht => hk _ _ (h.kk s t ht), h.mu⟩
theorem sApply_of {X : Value → Prop} {w : World} {gs gd lg gm n : Nat} {P Q : Nat → Prop} {V : Bs → Value} {m : KM} {D D' : DkT} {J J' : JnT} (h : StM w gs gd lg gm n P Q V m D J) (v : Value) (ps : List (ActT × Value)) (hst : Sta (Un P Q) w (fun W => RdP W v ps ∧ (∀ p ∈ ps, Reads W p.2 p.1.data) ∧ ReadsA W v (ps.map (·.1)))) (hsl : ∀ p ∈ ps, isSl p.2 = true ∧ p.1.key.length ≤ 1000000 ∧ p.1.data.length ≤ 1048576) (hz : okZ (ps.map (·.1))) (hck : chkL (ps.map (·.1)) = 0) (h0 : ps ≠ []) (hn : n + ps.length < 10000000) (hpl : ps.length < 1000000) (hX : ∀ s t, getM m s = some t → X (V s)) (hXn : ∀ (W : World) (base : Nat) (v : Value) (t : Bs), OwnB W base v t → w.heap.size ≤ base → X v)
 (hrc : ∀ W, Below w.heap.size w W → Calls Tryz.prog 53 #[.pointer (some ⟨gs, 0, none⟩), v] W fun e w' => e = .returned (.int .i64 0) ∧ ∃ P' Q', Mut (Un P Q) W w' ∧ Grew W (Un P Q) (Un P' Q') ∧ StM w' gs gd lg gm n P' Q' V m D' J') :
 Calls Tryz.prog 23 #[.pointer (some ⟨gs, 0, none⟩), v] w fun e w' => e = .returned (.int .i64 0) ∧ ∃ P' Q' V', StM w' gs gd lg gm (n + ps.length) P' Q' V' (doneM m (ps.map (·.1))) D' J' ∧ Mut (Um P Q gm) w w' ∧ Grew w (Un P Q) (Un P' Q') ∧ ∀ s t, getM (doneM m (ps.map (·.1))) s = some t → X (V' s) := by
 obtain ⟨l, HL⟩ := sqn (ps.map (·.1))
 rw [← HL.out] at hst hz hck ⊢
 have HRC : Hid (∀ W, Below w.heap.size w W → Calls Tryz.prog 53 #[.pointer (some ⟨gs, 0, none⟩), v] W fun e w' => e = .returned (.int .i64 0) ∧ ∃ P' Q', Mut (Un P Q) W w' ∧ Grew W (Un P Q) (Un P' Q') ∧ StM w' gs gd lg gm n P' Q' V m D' J') := hrc
 have hcc := sCheck_any v l w hst.now.2.2 (by have := hz.n; omega)
 rw [hck] at hcc
 have HCK : Hid (Calls Tryz.prog 11 #[v] w fun e w' => e = .returned (.int .i64 0) ∧ Below w.heap.size w w') := hcc
 obtain ⟨N, HN⟩ := sqn (ps.length)
 obtain ⟨ad, cp, hv⟩ := hst.now.1.form
 rw [← HN.out] at hv
 subst hv
 have fz : ¬ ((N : Int) = 0) := by
  have h1 : 0 < ps.length := List.length_pos_iff.2 h0
  have h2 := HN.out
  omega
 have HCP : Hid (∀ W, RdP W (.slice ad N cp) ps → (∀ p ∈ ps, Reads W p.2 p.1.data) → Calls Tryz.prog 55 #[.slice ad N cp] W fun e w' => ∃ v' qs, e = .returned v' ∧ OwnA w' W.heap.size v' qs ∧ qs.map (·.1) = l ∧ Below W.heap.size W w') := fun W h1 h2 => by
  rw [HL.out]
  exact sCopies_any _ ps h1 (fun p hp => (hsl p hp).1) h2 (fun p hp => Nat.le_trans (hsl p hp).2.2 (by decide)) hpl
 have HQS : Hid (∀ qs : List (ActT × Value), qs.map (·.1) = l → qs.length = N ∧ ∀ q ∈ qs, q.1.key.length ≤ 1000000 ∧ q.1.data.length ≤ 1048576) := fun qs hq => by
  rw [HL.out] at hq
  have hle : (qs.map (·.1)).length = (ps.map (·.1)).length := by rw [hq]
  rw [List.length_map, List.length_map] at hle
  refine ⟨by rw [HN.out, hle], fun q hqm => ?_⟩
  have h1 : q.1 ∈ ps.map (·.1) := by rw [← hq]; exact List.mem_map_of_mem hqm
  obtain ⟨p, hp, e⟩ := List.mem_map.1 h1
  rw [← e]
  exact (hsl p hp).2
 have HST : Hid (Sta (Un P Q) w (fun W => RdP W (.slice ad N cp) ps ∧ (∀ p ∈ ps, Reads W p.2 p.1.data) ∧ ReadsA W (.slice ad N cp) l)) := hst
 have HNN : Hid (n + N < 10000000) := by show _ < _; rw [HN.out]; exact hn
 have HXX : Hid ((∀ s t, getM m s = some t → X (V s)) ∧ ∀ (W : World) (base : Nat) (v : Value) (t : Bs), OwnB W base v t → w.heap.size ≤ base → X v) := ⟨hX, hXn⟩
 have HNM : Hid (¬ gs = gm) := fun e => h.mp.ne h.sb e.symm
 rw [← HN.out]
 clear h hst hsl hz hck h0 hn hpl hcc hrc hX hXn
 go_enter Tryz.func23, Tryz.ntmps23
 obtain ⟨tk0, tk1⟩ := sqk2
 go_upto_region 7 with (first
  | (clear tk0; go_at_call 11; refine (HCK.out).mono ?_; rintro e0 y0 ⟨rfl, bl0⟩
     have HB0 : Hid (Below w.heap.size w y0) := bl0; clear bl0)
  | (clear tk1; go_at_call 53; refine (HRC.out y0 HB0.out).mono ?_; rintro e1 y1 ⟨rfl, P', Q', mu1, gr1, hs1⟩
     have HS : Hid (StM y1 gs gd lg gm n P' Q' V m D' J') := hs1; have HMU : Hid (Mut (Un P Q) w y1 ∧ Grew w (Un P Q) (Un P' Q')) := ⟨(mut_below HB0.out _).trans (fun _ _ h => h) mu1, fun k hk => (gr1 k hk).elim Or.inl (fun h => Or.inr (Nat.le_trans HB0.out.size h))⟩
     clear mu1 gr1 hs1))
 have HS1 : Hid (StM y1.drew gs gd lg gm n P' Q' V m D' J') := HS.out.below (Below.refl _ _).drew
 have HX1 : Hid (RdP y1.drew (.slice ad N cp) ps ∧ ∀ p ∈ ps, Reads y1.drew p.2 p.1.data) := ⟨(HST.out.at HMU.out.1.drew).1, (HST.out.at HMU.out.1.drew).2.1⟩
 refine wp_region_held_drew (S := fun wx => Blk wx gs [.pointer (some ⟨lg, 0, none⟩), .map (some gm)] 99) (by kernel_rfl) HS.out.sb.drew ?_
 intro hS
 refine tkc 0 (.pointer (some ⟨gs, 0, none⟩)) rfl hS ?_
 simp only [Act.put, sq]
 refine tkc 1 (.pointer (some ⟨gs, 0, none⟩)) rfl hS ?_
 simp only [Act.put, sq]
 refine tkc 2 (.pointer (some ⟨gs, 1, none⟩)) rfl hS ?_
 simp only [Act.put, sq]
 refine tka 3 (.map (some gm)) rfl (fun wx hx => by (have c0 : wx.cell? ⟨gs, 1, none⟩ = some (.map (some gm)) := hx.cell 1; simp [go_sem, c0])) hS ?_
 simp only [Act.put, sq]
 refine tkc 4 (.slice ad N cp) rfl hS ?_
 simp only [Act.put, sq]
 refine wpAnyH_enter 5 (by kernel_rfl) rfl (by rfl) (f := 55) (args := #[.slice ad N cp]) (by simp [go_sem]) (HCP.out _ HX1.out.1 HX1.out.2) ?_
 rintro e2 y2 ⟨v2, qs, rfl, ow2, hq2, bl2⟩
 have hS2 := HS1.out.below bl2
 refine ⟨_, rfl, hS2.sb, ?_⟩
 simp only [Act.put, sq]
 obtain ⟨hqn, hqz⟩ := HQS.out qs hq2
 have hdo := sDo_any (fun v t => (Sta (Um P' Q' gm) y2 (fun W => Reads W v t) ∧ t.length ≤ 1048576) ∧ X v) hS2.mp (fun s t ht => ⟨hS2.tx s t ht, HXX.out.1 s t ht⟩) v2 qs ow2.rdp (fun q hq => ⟨(hqz q hq).1, (ow2.dat q hq).isSl, fun _ => ⟨⟨(ow2.dat q hq).st (fun k hk => HS1.out.ltM k hk), (hqz q hq).2⟩, HXX.out.2 _ _ _ _ (ow2.dat q hq) HMU.out.1.size⟩⟩) (by rw [hqn]; exact HNN.out)
 refine wpAnyH_enter 6 (by kernel_rfl) rfl (by rfl) (f := 54) (args := #[.map (some gm), v2]) (by simp [go_sem]) hdo ?_
 rintro e3 y3 ⟨rfl, V', hI⟩
 rw [hq2, hqn] at hI
 have hS3 := hS2.done (DoS.weak hI (fun _ _ h => h.1))
 refine ⟨_, rfl, hS3.sb, ?_⟩
 simp only [Act.put, sq]
 have HF : Hid (StM y3 gs gd lg gm (n + N) P' Q' V' (doneM m l) D' J' ∧ Mut (Um P Q gm) w y3 ∧ Grew w (Un P Q) (Un P' Q') ∧ ∀ s t, getM (doneM m l) s = some t → X (V' s)) := by
  refine ⟨hS3, ?_, HMU.out.2, fun s t ht => (hI.kk s t ht).2⟩
  have m1 : Mut (Um P Q gm) w y1.drew := ⟨HMU.out.1.os, HMU.out.1.tape, HMU.out.1.output, HMU.out.1.size, fun k hk hn => HMU.out.1.block k hk (fun hx => hn (Or.inl hx))⟩
  exact (m1.trans (fun _ _ h => h) (mut_below bl2 _)).trans (fun _ _ h => Or.inr h) hI.mu
 clear hS hS2 hS3 hI hdo ow2 hq2 bl2 hqn hqz
 refine wpAnyH_done (by kernel_rfl) ?_ _
 go_wp2
 go_ret
 exact ⟨rfl, P', Q', V', HF.out⟩
def RsR (w : World) (gs gd lg gm n : Nat) (P Q : Nat → Prop) (V : Bs → Value) (m m2 : KM) (D : DkT) (J : JnT) (e : Ending) (w' : World) : Prop :=
 ∃ P' Q', Mut (Un P Q) w w' ∧ Grew w (Un P Q) (Un P' Q') ∧ (((chkL (wholeM m2) = 0 ∧ rsX (anewM m2) (sizeD D) = 0) ∧ e = .returned (.int .i64 0) ∧ StM w' gs gd lg gm n P' Q' V m (rstD J D (anewM m2)) (rstJ J D (anewM m2))) ∨ (¬ (chkL (wholeM m2) = 0 ∧ rsX (anewM m2) (sizeD D) = 0) ∧ e = .returned (.int .i64 13) ∧ StM w' gs gd lg gm n P' Q' V m D J))
theorem sRestart_any {w : World} {gs gd lg gm n : Nat} {P Q : Nat → Prop} {V : Bs → Value} {m : KM} {D : DkT} {J : JnT} (h : StM w gs gd lg gm n P Q V m D J) (hK : KOk w) (hp : StP m D J) (hg : J.gen + 1 < 1000000) (v : Value) (ps : List (ActT × Value)) (hst : Sta (Un P Q) w (fun W => RdP W v ps ∧ (∀ p ∈ ps, Reads W p.2 p.1.data) ∧ ReadsA W v (ps.map (·.1)))) (hsl : ∀ p ∈ ps, isSl p.2 = true ∧ p.1.key.length ≤ 1000000 ∧ p.1.data.length ≤ 1048576) (h60 : ps.length ≤ 60) (h2 : sumA (ps.map (·.1)) ≤ 20000) (hn : n + ps.length < 10000000) :
 Calls Tryz.prog 80 #[.pointer (some ⟨gs, 0, none⟩), v] w fun e w' => RsR w gs gd lg gm n P Q V m (doneM m (ps.map (·.1))) D J e w' := by
 have hbd := hp.done (l := ps.map (·.1)) (by rw [List.length_map]; exact h60) h2
 have hup : Rise (doneM m (ps.map (·.1))) := hp.up.done _
 have fin : ∀ e w', chkL (wholeM (doneM m (ps.map (·.1)))) = 0 → (e = .returned (.int .i64 (rstX J D (anewM (doneM m (ps.map (·.1)))))) ∧ ∃ P' Q', Mut (Un P Q) w w' ∧ Grew w (Un P Q) (Un P' Q') ∧ (rstX J D (anewM (doneM m (ps.map (·.1)))) ≠ 14 → StM w' gs gd lg gm n P' Q' V m (rstD J D (anewM (doneM m (ps.map (·.1))))) (rstJ J D (anewM (doneM m (ps.map (·.1))))))) → RsR w gs gd lg gm n P Q V m (doneM m (ps.map (·.1))) D J e w' := fun e w' hc hx => by
  obtain ⟨h3, P', Q', h4, h5, h6⟩ := hx
  refine ⟨P', Q', h4, h5, ?_⟩
  by_cases hr : rsX (anewM (doneM m (ps.map (·.1)))) (sizeD D) = 0
  · have h7 := (hp.anew hup hg hr).1
    rw [h7] at h3 h6; exact Or.inl ⟨⟨hc, hr⟩, h3, h6 (by decide)⟩
  · obtain ⟨h7, h8, h9⟩ := hp.full hbd.2.2 hr
    rw [h7, h8, h9] at h6; rw [h7] at h3; exact Or.inr ⟨fun h => hr h.2, h3, h6 (by decide)⟩
 by_cases h0 : doneM m (ps.map (·.1)) = []
 · refine (sRestart_none h hK hp v ps hst hsl h60 h2 hn h0).mono (fun e w' hx => fin e w' ?_ hx)
   rw [h0]
   rfl
 · rcases chkL_or (wholeM (doneM m (ps.map (·.1)))) with hc | hc
   · exact (sRestart_full h hK hp v ps hst hsl h60 h2 hn h0 hc).mono (fun e w' hx => fin e w' hc hx)
   · refine (sRestart_bad h hK hp v ps hst hsl h60 h2 hn h0 hc).mono (fun e w' hx => ?_)
     exact ⟨P, Q, mut_below hx.2 _, Grew.refl _ _, Or.inr ⟨(fun hh => by rw [hc] at hh; cases hh.1), hx.1, h.below hx.2⟩⟩
theorem sRecord_not {w : World} {gs gd lg gm n : Nat} {P Q : Nat → Prop} {V : Bs → Value} {m : KM} {D : DkT} {J : JnT} (h : StM w gs gd lg gm n P Q V m D J) (hK : KOk w) (hp : StP m D J) (hg : J.gen + 1 < 1000000) (v : Value) (ps : List (ActT × Value)) (hst : Sta (Un P Q) w (fun W => RdP W v ps ∧ (∀ p ∈ ps, Reads W p.2 p.1.data) ∧ ReadsA W v (ps.map (·.1)))) (hsl : ∀ p ∈ ps, isSl p.2 = true ∧ p.1.key.length ≤ 1000000 ∧ p.1.data.length ≤ 1048576) (h60 : ps.length ≤ 60) (h2 : sumA (ps.map (·.1)) ≤ 20000) (hn : n + ps.length < 10000000) (hf : ¬ (batchB (ps.map (·.1))).length ≤ roomZ J.l (sizeD D)) :
 Calls Tryz.prog 53 #[.pointer (some ⟨gs, 0, none⟩), v] w fun e w' => RsR w gs gd lg gm n P Q V m (doneM m (ps.map (·.1))) D J e w' := by
 obtain ⟨nr, HNR⟩ := sqn (roomZ J.l (sizeD D))
 rw [← HNR.out] at hf
 have h4 : Calls Tryz.prog 78 #[.pointer (some ⟨lg, 0, none⟩)] w fun e w' => e = .returned (.int .i64 (nr : Int)) ∧ Below w.heap.size w w' := by
  obtain ⟨vr, us, hm, hQ⟩ := id h.pk.lg
  have h1 := hp.okJ.fit
  have h2 := hp.okJ.hi
  have h3 := sizeL_eq J.l
  unfold hsD at h1
  have h4 := jRoom_any hm.lb (by omega) (by omega)
  rw [show min 1048576 (64 * (sizeD D / 2 - (1 + secL J.l)) - 57) = nr from by rw [HNR.out, roomZ]; omega] at h4
  exact h4
 have HRM : Hid (Calls Tryz.prog 78 #[.pointer (some ⟨lg, 0, none⟩)] w fun e w' => e = .returned (.int .i64 (nr : Int)) ∧ Below w.heap.size w w') := h4
 have hz : okZ (ps.map (·.1)) := okZ_light (by rw [List.length_map]; exact h60) h2
 have HWI : Hid (∀ W, ReadsA W v (ps.map (·.1)) → Calls Tryz.prog 46 #[v, .int .i64 (nr : Int)] W fun e w' => ∃ vb, e = .returned (.tuple #[vb, .bool false]) ∧ Below W.heap.size W w') := fun W hr => by
  refine (sWithin_any v _ (nr : Int) W hr hz).mono (fun e w' h => ?_)
  obtain ⟨vb, e1, e2, e3⟩ := h
  have hle : ¬ ((batchB (ps.map (·.1))).length : Int) ≤ (nr : Int) := by omega
  rw [decide_eq_false hle] at e1
  exact ⟨vb, e1, e3⟩
 obtain ⟨m2, HM2⟩ := sqn (doneM m (ps.map (·.1)))
 have HRS : Hid (∀ W, Below w.heap.size w W → Calls Tryz.prog 80 #[.pointer (some ⟨gs, 0, none⟩), v] W fun e w' => RsR w gs gd lg gm n P Q V m m2 D J e w') := fun W hb => by
  refine (sRestart_any (h.below hb) (hK.below hb hK.lt) hp hg v ps (hst.below hb) hsl h60 h2 hn).mono (fun e w' hx => ?_)
  rw [← HM2.out] at hx
  obtain ⟨P', Q', h5, h6, h7⟩ := hx
  exact ⟨P', Q', (mut_below hb _).trans (fun _ _ h => h) h5, fun k hk => (h6 k hk).elim Or.inl (fun h => Or.inr (Nat.le_trans hb.size h)), h7⟩
 rw [← HM2.out]
 have HR : Hid (∀ W, Below w.heap.size w W → ReadsA W v (ps.map (·.1)) ∧ StM W gs gd lg gm n P Q V m D J) := fun W hb => ⟨hst.now.2.2.below hb, h.below hb⟩
 have c0 : w.cell? ⟨gs, 0, none⟩ = some (.pointer (some ⟨lg, 0, none⟩)) := h.sb.cell 0
 obtain ⟨ad, nn, cp, hv⟩ : ∃ a n c, v = .slice a n c := by obtain ⟨a, c, h⟩ := hst.now.1.form; exact ⟨a, _, c, h⟩
 subst hv
 clear h hK hp hg hst hsl h60 h2 hn hf h4 hz
 go_enter Tryz.func53, Tryz.ntmps53
 obtain ⟨tk0, tk1, tk2⟩ := sqk3
 go_wp2_with (first
  | (clear tk0; go_at_call 78; refine (HRM.out).mono ?_; rintro e0 y0 ⟨rfl, bl0⟩
     have HB0 : Hid (Below w.heap.size w y0) := bl0; clear bl0)
  | (clear tk1; go_at_call 46; refine (HWI.out y0 (HR.out y0 HB0.out).1).mono ?_; rintro e1 y1 ⟨vb, rfl, bl1⟩
     have HB1 : Hid (Below w.heap.size w y1) := HB0.out.trans (bl1.mono HB0.out.size); clear bl1)
  | (clear tk2; go_at_call 80; refine (HRS.out y1 HB1.out).mono ?_; rintro e2 y2 hx
     obtain ⟨x, hxe⟩ : ∃ x : Int, e2 = .returned (.int .i64 x) := by
      obtain ⟨_, _, _, _, ⟨_, h, _⟩ | ⟨_, h, _⟩⟩ := hx
      · exact ⟨_, h⟩
      · exact ⟨_, h⟩
     subst hxe; have HF : Hid (RsR w gs gd lg gm n P Q V m m2 D J (.returned (.int .i64 x)) y2) := hx; clear hx))
 go_ret
 exact HF.out
theorem sApply_no {w : World} {gs : Nat} (v : Value) (l : List ActT) (hr : ReadsA w v l) (hl : l.length ≤ 1000000) (hc : chkL l ≠ 0 ∨ l = []) : Calls Tryz.prog 23 #[.pointer (some ⟨gs, 0, none⟩), v] w fun e w' => e = .returned (.int .i64 (chkL l)) ∧ Below w.heap.size w w' := by
 obtain ⟨N, HN⟩ := sqn (l.length)
 obtain ⟨ad, cp, hv⟩ := hr.form
 rw [← HN.out] at hv
 subst hv
 obtain ⟨cx, HC⟩ := sqn (chkL l)
 have hk := sCheck_any _ l w hr (by omega)
 rw [← HC.out] at hk ⊢
 have HK : Hid (Calls Tryz.prog 11 #[.slice ad N cp] w fun e w' => e = .returned (.int .i64 cx) ∧ Below w.heap.size w w') := hk
 by_cases h0 : cx = 0
 · subst h0
   have hz : N = 0 := by
    have h1 := HC.out
    rcases hc with h | h
    · exact absurd h1.symm h
    · rw [HN.out, h]; rfl
   subst hz; clear hr hl hc hk
   go_enter Tryz.func23, Tryz.ntmps23
   go_wp2_with (first
    | (go_at_call 11; refine (HK.out).mono ?_; rintro e0 y0 ⟨rfl, bl0⟩
       have HB0 : Hid (Below w.heap.size w y0) := bl0; clear bl0))
   go_ret; exact ⟨rfl, HB0.out⟩
 · have q1 : (cx != 0) = true := by rw [bne_iff_ne]; exact h0
   clear hr hl hc hk
   go_enter Tryz.func23, Tryz.ntmps23
   go_wp2_with (first
    | (go_at_call 11; refine (HK.out).mono ?_; rintro e0 y0 ⟨rfl, bl0⟩
       have HB0 : Hid (Below w.heap.size w y0) := bl0; clear bl0))
   go_ret; exact ⟨rfl, HB0.out⟩
theorem sApply_full {w : World} {gs : Nat} {K : World → Prop} (v : Value) (l : List ActT) (hr : ReadsA w v l) (hl : l.length ≤ 1000000) (hc : chkL l = 0) (h0 : l ≠ []) (hrc : ∀ W, Below w.heap.size w W → Calls Tryz.prog 53 #[.pointer (some ⟨gs, 0, none⟩), v] W fun e w' => e = .returned (.int .i64 13) ∧ K w') : Calls Tryz.prog 23 #[.pointer (some ⟨gs, 0, none⟩), v] w fun e w' => e = .returned (.int .i64 13) ∧ K w' := by
 obtain ⟨N, HN⟩ := sqn (l.length)
 obtain ⟨ad, cp, hv⟩ := hr.form
 rw [← HN.out] at hv
 subst hv
 have hk := sCheck_any _ l w hr (by omega)
 rw [hc] at hk
 have HK : Hid (Calls Tryz.prog 11 #[.slice ad N cp] w fun e w' => e = .returned (.int .i64 0) ∧ Below w.heap.size w w') := hk
 have HRC : Hid (∀ W, Below w.heap.size w W → Calls Tryz.prog 53 #[.pointer (some ⟨gs, 0, none⟩), .slice ad N cp] W fun e w' => e = .returned (.int .i64 13) ∧ K w') := hrc
 have fz : ¬ ((N : Int) = 0) := by
  have h1 : 0 < l.length := List.length_pos_iff.2 h0
  have h2 := HN.out
  omega
 clear hr hl hc h0 hrc hk
 go_enter Tryz.func23, Tryz.ntmps23
 obtain ⟨tk0, tk1⟩ := sqk2
 go_wp2_with (first
  | (clear tk0; go_at_call 11; refine (HK.out).mono ?_; rintro e0 y0 ⟨rfl, bl0⟩
     have HB0 : Hid (Below w.heap.size w y0) := bl0; clear bl0)
  | (clear tk1; go_at_call 53; refine (HRC.out y0 HB0.out).mono ?_; rintro e1 y1 ⟨rfl, hk1⟩
     have HF : Hid (K y1) := hk1; clear hk1))
 go_ret
 exact ⟨rfl, HF.out⟩
structure ApR (X : Value → Prop) (w : World) (gs gd lg gm n : Nat) (P Q : Nat → Prop) (m : KM) (D : DkT) (J : JnT) (l : List ActT) (n' : Nat) (P' Q' : Nat → Prop) (V' : Bs → Value) (D' : DkT) (J' : JnT) (w' : World) : Prop where
 st : StM w' gs gd lg gm n' P' Q' V' (apyM m J.l l (sizeD D)) D' J'
 sp : StP (apyM m J.l l (sizeD D)) D' J'
 rs : J'.l = apyL m J.l l (sizeD D)
 sz : sizeD D' = sizeD D
 ge : J'.gen ≤ J.gen + 1
 nn : n' ≤ n + l.length
 mu : Mut (Um P Q gm) w w'
 gr : Grew w (Un P Q) (Un P' Q')
 xx : ∀ s t, getM (apyM m J.l l (sizeD D)) s = some t → X (V' s)
theorem wide_un {P Q : Nat → Prop} {gm : Nat} {w w' : World} (h : Mut (Un P Q) w w') : Mut (Um P Q gm) w w' := ⟨h.os, h.tape, h.output, h.size, fun k hk hn => h.block k hk (fun hx => hn (Or.inl hx))⟩
theorem sApply_any (X : Value → Prop) {w : World} {gs gd lg gm n : Nat} {P Q : Nat → Prop} {V : Bs → Value} {m : KM} {D : DkT} {J : JnT} (h : StM w gs gd lg gm n P Q V m D J) (hK : KOk w) (hp : StP m D J) (hg : J.gen + 1 < 1000000) (v : Value) (ps : List (ActT × Value)) (hst : Sta (Un P Q) w (fun W => RdP W v ps ∧ (∀ p ∈ ps, Reads W p.2 p.1.data) ∧ ReadsA W v (ps.map (·.1)))) (hsl : ∀ p ∈ ps, isSl p.2 = true) (h60 : ps.length ≤ 60) (h2 : sumA (ps.map (·.1)) ≤ 20000) (hn : n + ps.length < 10000000) (hX : ∀ s t, getM m s = some t → X (V s)) (hXn : ∀ (W : World) (base : Nat) (v : Value) (t : Bs), OwnB W base v t → w.heap.size ≤ base → X v) :
 Calls Tryz.prog 23 #[.pointer (some ⟨gs, 0, none⟩), v] w fun e w' => e = .returned (.int .i64 (apyX m J.l (ps.map (·.1)) (sizeD D))) ∧ ∃ n' P' Q' V' D' J', ApR X w gs gd lg gm n P Q m D J (ps.map (·.1)) n' P' Q' V' D' J' w' := by
 obtain ⟨l, HL⟩ := sqn (ps.map (·.1))
 have hll : l.length = ps.length := by rw [HL.out, List.length_map]
 have h2l := h2
 rw [← HL.out] at h2l
 have hw : ∀ a ∈ l, wtA a ≤ 20000 := fun a ha => Nat.le_trans (wt_sum l a ha) h2l
 have hs2 : ∀ p ∈ ps, isSl p.2 = true ∧ p.1.key.length ≤ 1000000 ∧ p.1.data.length ≤ 1048576 := fun p hp => by
  have h3 := hw p.1 (by rw [HL.out]; exact List.mem_map_of_mem hp)
  unfold wtA at h3
  exact ⟨hsl p hp, by omega, by omega⟩
 have hz : okZ l := okZ_light (by rw [hll]; exact h60) h2l
 rw [← HL.out]
 by_cases hc : chkL l = 0 ∧ l ≠ []
 case neg =>
  have hx : apyX m J.l l (sizeD D) = chkL l := if_neg hc
  have hm : apyM m J.l l (sizeD D) = m := by
   unfold apyM; rw [hx]
   by_cases h0 : chkL l = 0
   · have hl0 : l = [] := by
      by_cases e : l = []
      · exact e
      · exact absurd ⟨h0, e⟩ hc
     rw [if_pos h0, hl0]
     rfl
   · rw [if_neg h0]
  have hl' : apyL m J.l l (sizeD D) = J.l := if_neg hc
  refine (sApply_no v l (by rw [HL.out]; exact hst.now.2.2) (by omega) (by
   by_cases e : l = []
   · exact Or.inr e
   · exact Or.inl (fun h0 => hc ⟨h0, e⟩))).mono (fun e w' hx2 => ?_)
  rw [hx]
  refine ⟨hx2.1, n, P, Q, V, D, J, ?_⟩
  exact ⟨by rw [hm]; exact h.below hx2.2, by rw [hm]; exact hp, hl'.symm, rfl, by omega, by omega, mut_below hx2.2 _, Grew.refl _ _, by rw [hm]; exact hX⟩
 case pos =>
  obtain ⟨hc0, hl0⟩ := hc
  have hp0 : ps ≠ [] := fun e => hl0 (by rw [HL.out, e]; rfl)
  by_cases hf : (batchB l).length ≤ roomZ J.l (sizeD D)
  · have ha := (room_batch J.l l (sizeD D)).1 hf
    obtain ⟨f1, f2, f3, f4, f5⟩ := hp.fit (l := l) ha; have hx : apyX m J.l l (sizeD D) = 0 := by unfold apyX; rw [if_pos ⟨hc0, hl0⟩, if_pos ha]
    have hm : apyM m J.l l (sizeD D) = doneM m l := if_pos hx; have hl' : apyL m J.l l (sizeD D) = J.l ++ [batchB l] := by unfold apyL; rw [if_pos ⟨hc0, hl0⟩, if_pos ha]
    refine (sApply_of (D' := appD J D (batchB l)) (J' := appJ J D (batchB l)) h v ps hst hs2 (by rw [← HL.out]; exact hz) (by rw [← HL.out]; exact hc0) hp0 hn (by omega) hX hXn (fun W hb => ?_)).mono (fun e w' hx2 => ?_)
    · refine (sRecord_fit (h.below hb) (hK.below hb hK.lt) hp.okJ v l (by rw [HL.out]; exact hst.now.2.2.below hb) hz hf).mono (fun e w' h3 => ?_)
      obtain ⟨h4, P', Q', h5, h6, h7⟩ := h3; rw [f1] at h4 h7; exact ⟨h4, P', Q', h5, h6, h7 (by decide)⟩
    · obtain ⟨h4, P', Q', V', h5, h6, h7, h8⟩ := hx2
      rw [← HL.out] at h5 h8; rw [hx]; exact ⟨h4, _, P', Q', V', _, _, by rw [hm]; exact h5, by rw [hm]; exact f2, by rw [hl']; exact f3, f4, by omega, by rw [hll]; exact Nat.le_refl _, h6, h7, by rw [hm]; exact h8⟩
  · have ha : apX J.l (batchB l) (sizeD D) ≠ 0 := fun e => hf ((room_batch J.l l (sizeD D)).2 e)
    have hrec : ∀ W, Below w.heap.size w W → Calls Tryz.prog 53 #[.pointer (some ⟨gs, 0, none⟩), v] W fun e w' => RsR W gs gd lg gm n P Q V m (doneM m l) D J e w' := fun W hb => by
     have h3 := sRecord_not (h.below hb) (hK.below hb hK.lt) hp hg v ps (hst.below hb) hs2 h60 h2 hn (by rw [← HL.out]; exact hf)
     rw [← HL.out] at h3; exact h3
    by_cases hr : chkL (wholeM (doneM m l)) = 0 ∧ rsX (anewM (doneM m l)) (sizeD D) = 0
    · have hx : apyX m J.l l (sizeD D) = 0 := by unfold apyX; rw [if_pos ⟨hc0, hl0⟩, if_neg ha, if_pos hr]
      have hm : apyM m J.l l (sizeD D) = doneM m l := if_pos hx; have hl' : apyL m J.l l (sizeD D) = anewM (doneM m l) := by unfold apyL; rw [if_pos ⟨hc0, hl0⟩, if_neg ha, if_pos hr]
      obtain ⟨f1, f2, f3, f4, f5⟩ := hp.anew (hp.up.done l) hg hr.2; refine (sApply_of (D' := rstD J D (anewM (doneM m l))) (J' := rstJ J D (anewM (doneM m l))) h v ps hst hs2 (by rw [← HL.out]; exact hz) (by rw [← HL.out]; exact hc0) hp0 hn (by omega) hX hXn (fun W hb => ?_)).mono (fun e w' hx2 => ?_)
      · refine (hrec W hb).mono (fun e w' h3 => ?_)
        obtain ⟨P', Q', h5, h6, ⟨_, h7, h8⟩ | ⟨h7, _⟩⟩ := h3
        · exact ⟨h7, P', Q', h5, h6, h8⟩
        · exact absurd hr h7
      · obtain ⟨h4, P', Q', V', h5, h6, h7, h8⟩ := hx2
        rw [← HL.out] at h5 h8; rw [hx]; exact ⟨h4, _, P', Q', V', _, _, by rw [hm]; exact h5, by rw [hm]; exact f2, by rw [hl']; exact f3, f4, by omega, by rw [hll]; exact Nat.le_refl _, h6, h7, by rw [hm]; exact h8⟩
    · have hx : apyX m J.l l (sizeD D) = 13 := by unfold apyX; rw [if_pos ⟨hc0, hl0⟩, if_neg ha, if_neg hr]
      have hm : apyM m J.l l (sizeD D) = m := by unfold apyM; rw [hx, if_neg (by decide)]
      have hl' : apyL m J.l l (sizeD D) = J.l := by unfold apyL; rw [if_pos ⟨hc0, hl0⟩, if_neg ha, if_neg hr]
      refine (sApply_full (K := fun w' => ∃ P' Q', Mut (Un P Q) w w' ∧ Grew w (Un P Q) (Un P' Q') ∧ StM w' gs gd lg gm n P' Q' V m D J) v l (by rw [HL.out]; exact hst.now.2.2) (by omega) hc0 hl0 (fun W hb => ?_)).mono (fun e w' hx2 => ?_)
      · refine (hrec W hb).mono (fun e w' h3 => ?_)
        obtain ⟨P', Q', h5, h6, ⟨h7, _⟩ | ⟨_, h7, h8⟩⟩ := h3
        · exact absurd h7 hr
        · exact ⟨h7, P', Q', (mut_below hb _).trans (fun _ _ h => h) h5, fun k hk => (h6 k hk).elim Or.inl (fun h => Or.inr (Nat.le_trans hb.size h)), h8⟩
      · obtain ⟨h4, P', Q', h5, h6, h7⟩ := hx2
        rw [hx]; exact ⟨h4, n, P', Q', V, D, J, by rw [hm]; exact h7, by rw [hm]; exact hp, hl'.symm, rfl, by omega, by omega, wide_un h5, h6, by rw [hm]; exact hX⟩
def SeqG {α : Type} (n gf : Nat) (lb : Array Value) (encs : α → Array Value) (G : α → World → Prop) (Kp : World → World → Prop) (S Sp : List α → Prop) (w : World) : Prop :=
 ∀ (l : Nat) (J Jx : List α → World → Prop) (W : World), Below w.heap.size w W → (∀ s X Y, J s X → Below X.heap.size X Y → J s Y) → (∀ s X Y, Jx s X → Below X.heap.size X Y → Jx s Y) →
  (∀ pre x X, J pre X → Sp (pre ++ [x]) → G x X → YieldAt Fence.wide (n - 1) Tryz.prog l (encs x) X fun e Y => (e = .returned (.bool true) ∧ J (pre ++ [x]) Y ∧ Kp X Y) ∨ (e = .returned (.bool false) ∧ Jx (pre ++ [x]) Y)) →
  J [] W → CallsIn Fence.wide n Tryz.prog gf (#[.func (.yield l) #[] #[]] ++ lb) W fun e Y => (∃ v, e = .returned v) ∧ ((∃ xs, S xs ∧ J xs Y) ∨ ∃ pre, Sp pre ∧ Jx pre Y)
theorem own_grows {β : Type} {B : Nat} {I : β → World → Prop} (h : OwnFrom B I) {s : β} {X Y : World} (hs : I s X) (hb : Below X.heap.size X Y) : I s Y :=
 h s X Y none hs ⟨hb.os, hb.tape, hb.output, hb.size, fun k hk _ => hb.block k hk⟩ (fun r e => by cases e)
structure LpAt (L : LoopState → Option Code → Loop) (n : Nat) (s : LoopState) (p : Option Code) (X : World) : Prop where
 lp : X.heap[n + 1]? = some (.loop (L s p))
 df : X.heap[n]? = some (.deferred (some []))
theorem LpAt.grows {L : LoopState → Option Code → Loop} {n : Nat} {s : LoopState} {p : Option Code} {X Y : World} (h : LpAt L n s p X) (hb : Below X.heap.size X Y) : LpAt L n s p Y :=
 ⟨(hb.block _ (Array.getElem?_eq_some_iff.1 h.lp).1).trans h.lp, (hb.block _ (Array.getElem?_eq_some_iff.1 h.df).1).trans h.df⟩
theorem LpAt.put {L : LoopState → Option Code → Loop} {n : Nat} {s : LoopState} {p : Option Code} {X : World} (h : LpAt L n s p X) (s' : LoopState) (p' : Option Code) : LpAt L n s' p' (X.putObj (n + 1) (.loop (L s' p'))) :=
 ⟨World.putObj_heap_same (Array.getElem?_eq_some_iff.1 h.lp).1, (World.putObj_heap_other (by omega)).trans h.df⟩
theorem LpAt.others {L : LoopState → Option Code → Loop} {n : Nat} {s : LoopState} {p : Option Code} {X Y : World} (h : LpAt L n s p X) (hk : KeepsOthers X Y) : LpAt L n s p Y := ⟨hk.same _ _ h.lp rfl, hk.same _ _ h.df rfl⟩
theorem range_good {α : Type} {n : Nat} {g : Operand} {ps : Array Tmp} {assign body : Code} {Q : Exit → Act → World → Prop} {a : Act} {w : World} (h1 : 1 ≤ n) {gf : Nat} {lb : Array Value} (hg : a.eval g = .func (.func gf) #[] lb) (eg : ∀ args w, (callFunc gf args).run Tryz.prog w = .ok (.enter gf args) w)
 {encs : α → Array Value} {G : α → World → Prop} {Kp : World → World → Prop} {S Sp : List α → Prop} {w0 : World} (hseq : SeqG (n - 1) gf lb encs G Kp S Sp w0) (hKt : ∀ {A B C : World}, Kp A B → Kp B C → Kp A C) (hKb : ∀ (W : World) (l : Nat) (o o' : Obj), w.heap.size ≤ l → W.heap[l]? = some o → o.isCells = false → o.isWalk = false → Kp W (W.putObj l o')) (hb0 : Below w0.heap.size w0 w) (hps : ∀ x, (encs x).size = ps.size)
 (I : List α → World → Prop) (Ix : Code → List α → World → Prop) (hI : OwnFrom w.heap.size I) (hIx : ∀ c, OwnFrom w.heap.size (Ix c)) (hG : OwnFrom w.heap.size G) (h0 : I [] w) (a₁ : α → Act)
 (hassign : ∀ (l : Nat) (x : α) (W : World) (K : Act → World → Prop), K (a₁ x) W → assign.wpIn (Fence.wide.inRound l) (n - 1 - 1) Tryz.prog (Exit.then K (fun _ _ _ => False)) { tmps := (ps.zip (encs x)).foldl (fun t (p, v) => t.setIfInBounds p v) a.tmps, defers := [] } W)
 (hbody : ∀ (l : Nat) (pre : List α) (x : α) (W : World), I pre W → Sp (pre ++ [x]) → G x W → body.wpIn (Fence.wide.inRound l) (n - 1 - 1) Tryz.prog (ownPostK Kp I Ix (pre ++ [x]) W) (a₁ x) W)
 (hdone : ∀ (D : Nat) (xs : List α) (W : World), w.heap.size ≤ D → S xs → I xs W → W.heap[D]? = some (.deferred (some [])) → Q .normal { a with defers := { target := .collected D, args := #[] } :: a.defers } W)
 (hstop : ∀ (D : Nat) (c : Code) (pre : List α) (W : World), w.heap.size ≤ D → Sp pre → Ix c pre W → W.heap[D]? = some (.deferred (some [])) → c.wpIn Fence.wide n Tryz.prog Q { a with defers := { target := .collected D, args := #[] } :: a.defers } W) :
 (Code.rangeFunc g ps assign body).wpIn Fence.wide n Tryz.prog Q a w := by
 refine wpIn_rangeFunc fun fn hfn => ?_
 obtain ⟨L, hL⟩ : ∃ L : LoopState → Option Code → Loop, ∀ s p, L s p = { state := s, pending := p, fn := fn, tmps := a.tmps, params := ps, assign := assign, body := body, defers := w.heap.size } := ⟨fun s p => { state := s, pending := p, fn := fn, tmps := a.tmps, params := ps, assign := assign, body := body, defers := w.heap.size }, fun _ _ => rfl⟩
 obtain ⟨V, hV⟩ : ∃ V, V = (w.alloc (.deferred (some []))).alloc (.loop (L .ready none)) := ⟨_, rfl⟩
 have hbw : Below w.heap.size w V := by
  rw [hV]
  exact ((Below.refl _ w).alloc (Nat.le_refl _) _).alloc (by simp) _
 have hat : LpAt L w.heap.size .ready none V := by
  rw [hV]
  refine ⟨?_, (Below.heap_alloc _ _ _ (by simp)).trans (World.alloc_heap_new w _)⟩
  have := World.alloc_heap_new (w.alloc (.deferred (some []))) (.loop (L .ready none))
  rwa [World.size_alloc] at this
 refine ⟨w.heap.size + 1, [{ target := .collected w.heap.size, args := #[] }], V, { target := .fn (.func gf) lb, args := #[.func (.yield (w.heap.size + 1)) #[] #[]] }, V, gf, #[.func (.yield (w.heap.size + 1)) #[] #[]] ++ lb, V, ?_, ?_, fun _ _ => trivial, ?_, fun _ => h1, ?_⟩
 · rw [hV, hL]
   exact run_enterLoop_outer _ _ _ _ _
 · simp only [resolve, hg]
   simp [go_sem]
 · simp [invoke, go_sem, eg]
 have hput : ∀ {β : Type} {K : β → World → Prop}, OwnFrom w.heap.size K → ∀ {b : β} {X : World} {s : LoopState} {p : Option Code}, K b X → LpAt L w.heap.size s p X → ∀ s' p', K b (X.putObj (w.heap.size + 1) (.loop (L s' p'))) := fun hK b X s p hb hl s' p' => hK.putObj _ hb (by omega) hl.lp rfl
 have hkp : ∀ {X : World} {s : LoopState} {p : Option Code}, LpAt L w.heap.size s p X → ∀ s' p', Kp X (X.putObj (w.heap.size + 1) (.loop (L s' p'))) := fun hl s' p' => hKb _ _ _ _ (by omega) hl.lp rfl rfl
 refine (hseq (w.heap.size + 1) (fun pre X => I pre X ∧ LpAt L w.heap.size .ready none X) (fun pre X => ∃ c, Ix c pre X ∧ LpAt L w.heap.size .done (some c) X) V (hb0.trans (hbw.mono hb0.size)) (fun s X Y h hb => ⟨own_grows hI h.1 hb, h.2.grows hb⟩) (fun s X Y h hb => by obtain ⟨c, h2, h3⟩ := h; exact ⟨c, own_grows (hIx c) h2 hb, h3.grows hb⟩) ?_ ⟨own_grows hI h0 hbw, hat⟩).mono ?_
 · rintro pre x X ⟨hi, hl⟩ hsp hgx
   have hy := run_yield (P := Tryz.prog) (args := encs x) hl.lp (by rw [hL]; exact hps x)
   rw [hL] at hy; have hbg := run_beginRound (P := Tryz.prog) hl.lp (by rw [hL])
   have hbz : ({ L .ready none with state := .busy } : Loop) = L .busy none := by rw [hL, hL]
   rw [hbz] at hbg; refine ⟨fn, _, assign, body, hy, roundIn_of_wpIn hfn (hassign _ x X _ ⟨_, hbg, ?_⟩)⟩; have hl2 := hl.put .busy none; refine wpIn_mono (hbody _ pre x _ (hput hI hi hl .busy none) hsp (hput hG hgx hl .busy none)) ?_
   have hend : ∀ (j : Option Code) (Z : World), KeepsOthers (X.putObj (w.heap.size + 1) (.loop (L .busy none))) Z → LpAt L w.heap.size .busy none Z ∧ (Instr.endRound (w.heap.size + 1) j).run Tryz.prog Z = .ok (.bool j.isNone) (Z.putObj (w.heap.size + 1) (.loop (L (if j.isNone then .ready else .done) j))) := fun j Z hk => by
    have hz := hl2.others hk; have he := run_endRound (P := Tryz.prog) j hz.lp; have e2 : ({ L .busy none with state := if j.isNone then .ready else .done, pending := j } : Loop) = L (if j.isNone then .ready else .done) j := by rw [hL, hL]
    rw [e2] at he; exact ⟨hz, he⟩
   have hjump : ∀ (c : Code) (Z : World), KeepsOthers (X.putObj (w.heap.size + 1) (.loop (L .busy none))) Z → Ix c (pre ++ [x]) Z → ∃ c2, Ix c2 (pre ++ [x]) (Z.putObj (w.heap.size + 1) (.loop (L .done (some c)))) ∧ LpAt L w.heap.size .done (some c2) (Z.putObj (w.heap.size + 1) (.loop (L .done (some c)))) := fun c Z hk hz => ⟨c, hput (hIx c) hz (hend (some c) Z hk).1 _ _, (hend (some c) Z hk).1.put _ _⟩
   intro e b Z hp
   cases e with
   | normal =>
    obtain ⟨hk, hkz, hiz⟩ := hp; obtain ⟨hz, he⟩ := hend none Z hk; exact ⟨_, _, he, Or.inl ⟨rfl, ⟨hput hI hiz hz .ready none, hz.put .ready none⟩, hKt (hKt (hkp hl .busy none) hkz) (hkp hz .ready none)⟩⟩
   | ret => exact ⟨_, _, (hend (some .ret) Z hp.1).2, Or.inr ⟨rfl, hjump .ret Z hp.1 hp.2⟩⟩
   | exit id => exact ⟨_, _, (hend (some (.exit id)) Z hp.1).2, Or.inr ⟨rfl, hjump (.exit id) Z hp.1 hp.2⟩⟩
   | goto t => exact ⟨_, _, (hend (some (.goto t)) Z hp.1).2, Or.inr ⟨rfl, hjump (.goto t) Z hp.1 hp.2⟩⟩
   | panic ch => exact hp.elim
   | outgrown => exact hp.elim
 · rintro e Y ⟨⟨v, rfl⟩, ⟨xs, hS, hi, hl⟩ | ⟨pre, hSp, c, hi, hl⟩⟩
   · have he := run_endLoop (P := Tryz.prog) hl.lp (by rw [hL]; simp)
     have e2 : ({ L .ready none with state := .exhausted } : Loop) = L .exhausted none := by rw [hL, hL]
     rw [e2, show (L .ready none).pending = none by rw [hL]] at he
     exact ⟨none, _, he, hdone _ xs _ (Nat.le_refl _) hS (hput hI hi hl .exhausted none) (hl.put .exhausted none).df⟩
   · have he := run_endLoop (P := Tryz.prog) hl.lp (by rw [hL]; simp)
     have e2 : ({ L .done (some c) with state := .exhausted } : Loop) = L .exhausted (some c) := by rw [hL, hL]
     rw [e2, show (L .done (some c)).pending = some c by rw [hL]] at he
     exact ⟨some c, _, he, hstop _ c pre _ (Nat.le_refl _) hSp (hput (hIx c) hi hl .exhausted (some c)) (hl.put .exhausted (some c)).df⟩
end Go.Proofs.YtopmeedmgjdcgaaGreatDoor
namespace Go.Proofs.YtopmeedmgjdcgaaGreatDoor
open Go.RowKit Go.Shelf
attribute [local go_sem] Oper.semAt_some
theorem roundIn_wide15 {m k : Nat} {P : Program} {l : Nat} {f : FuncId} {tmps : Array Value} {assign body : Code} {w : World} {R : Ending → World → Prop} (h : RoundIn Fence.wide m P l f tmps assign body w R) : RoundIn Fence.wide k P l f tmps assign body w R := ⟨h.1, fun c cs _ => h.2 c cs (room_wide _)⟩
section
variable {n : Nat} {P : Program} {ops : Array Oper} {Q : Exit → Act → World → Prop}
theorem wpOpIn_val {i : Nat} {o : Oper} {v : Value} {a : Act} {w w' : World} {K : Act → World → Prop} (hi : ops[i]? = some o) (hw : Region.wanted o (yielded ops a.tmps) = true) (he : (execOp a.eval o).run P w = .ok (.value v) w') (h : K (a.put o.dst v) w') : wpOpIn Fence.wide n P ops Q i K a w := by
 unfold wpOpIn
 simp only [hi, hw, if_true]
 refine ⟨fun _ _ => trivial, ?_⟩
 show Oper.uponIn _ _ _ _ _ _ _ ((execOp a.eval o).run P w)
 rw [he]
 exact h
theorem wpOpIn_enter {i : Nat} {o : Oper} {f : Nat} {args : Array Value} {a : Act} {w : World} {K : Act → World → Prop} {R : Ending → World → Prop} (hi : ops[i]? = some o) (hw : Region.wanted o (yielded ops a.tmps) = true) (he : (execOp a.eval o).run P w = .ok (.enter f args) w) (hR : Calls P f args w R) (h : ∀ e w', R e w' → ∃ v, e = .returned v ∧ K (a.put o.dst v) w') : wpOpIn Fence.wide n P ops Q i K a w := by
 unfold wpOpIn
 simp only [hi, hw, if_true]
 refine ⟨fun _ _ => trivial, ?_⟩
 show Oper.uponIn _ _ _ _ _ _ _ ((execOp a.eval o).run P w)
 rw [he]
 refine ⟨fun h => (nomatch h), callsIn_wide.2 (hR.mono fun e w' hr => ?_)⟩
 obtain ⟨v, rfl, hk⟩ := h e w' hr
 exact hk
theorem wpOpIn_round {i : Nat} {o : Oper} {l : Nat} {fn : FuncId} {tmps : Array Value} {assign body : Code} {a : Act} {w : World} {K : Act → World → Prop} {R : Ending → World → Prop} {m : Nat} (hi : ops[i]? = some o) (hw : Region.wanted o (yielded ops a.tmps) = true) (he : (execOp a.eval o).run P w = .ok (.round l fn tmps assign body) w) (hR : RoundIn Fence.wide m P l fn tmps assign body w R) (h : ∀ e w', R e w' → ∃ v, e = .returned v ∧ K (a.put o.dst v) w') : wpOpIn Fence.wide n P ops Q i K a w := by
 unfold wpOpIn
 simp only [hi, hw, if_true]
 refine ⟨fun _ _ => trivial, ?_⟩
 show Oper.uponIn _ _ _ _ _ _ _ ((execOp a.eval o).run P w)
 rw [he, Oper.uponIn_round]
 refine ⟨fun h => (by cases h), (roundIn_wide15 hR).mono fun e w' hr => ?_⟩
 obtain ⟨v, rfl, hk⟩ := h e w' hr
 exact hk
theorem wpAnyIn_pairs {md : Region.Mode} {fuel : Nat} {listed : Array Bool} {a : Act} {w : World} (i j : Nat) (hr : Region.ready md ops listed = [i, j]) (h1 : wpOpIn Fence.wide n P ops Q i (wpAnyIn Fence.wide n P md ops Q fuel (listed.setIfInBounds i true)) a w) (h2 : wpOpIn Fence.wide n P ops Q j (wpAnyIn Fence.wide n P md ops Q fuel (listed.setIfInBounds j true)) a w) : wpAnyIn Fence.wide n P md ops Q (fuel + 1) listed a w := by
 refine wpAnyIn_all hr (by simp) fun k hk => ?_
 simp only [List.mem_cons, List.not_mem_nil, or_false] at hk
 rcases hk with rfl | rfl
 · exact h1
 · exact h2
theorem wpAnyIn_lone {md : Region.Mode} {fuel : Nat} {listed : Array Bool} {a : Act} {w : World} (i : Nat) (hr : Region.ready md ops listed = [i]) (h1 : wpOpIn Fence.wide n P ops Q i (wpAnyIn Fence.wide n P md ops Q fuel (listed.setIfInBounds i true)) a w) : wpAnyIn Fence.wide n P md ops Q (fuel + 1) listed a w := by
 refine wpAnyIn_all hr (by simp) fun k hk => ?_
 simp only [List.mem_singleton] at hk
 rw [hk]; exact h1
end
theorem sAll_any {w : World} {gs gm n : Nat} {lv : Value} {V : Bs → Value} {m : KM} (hsb : Blk w gs [lv, .map (some gm)] 99) (hm : MapM w gm n V m) (hml : m.length < 1000000) :
 Calls Tryz.prog 34 #[.pointer (some ⟨gs, 0, none⟩)] w fun e w' => ∃ gl v, e = .returned (.func (.func 66) #[] #[.pointer (some ⟨gl, 0, none⟩)]) ∧ Blk w' gl [v] 22 ∧ w'.ownsRow w.heap.size 62 3 v m.length (rowP (setP V m)) ∧ Below w.heap.size w w' ∧ w.heap.size ≤ gl := by
 have c1 : w.cell? ⟨gs, 1, none⟩ = some (.map (some gm)) := hsb.cell 1
 have HSE : Hid (Calls Tryz.prog 65 #[.map (some gm)] w fun e w' => ∃ v, e = .returned v ∧ w'.ownsRow w.heap.size 62 3 v m.length (rowP (setP V m)) ∧ Below w.heap.size w w') := sSetting_any hm hml
 clear hsb hm hml
 go_enter Tryz.func34, Tryz.ntmps34
 go_wp2_with (first
  | (go_at_call 65; refine (HSE.out).mono ?_; rintro e0 y0 ⟨v0, rfl, ow0, bl0⟩
     obtain ⟨a0, n0, k0, hv0⟩ : ∃ a n c, v0 = .slice a n c := by
      obtain ⟨_, ⟨h, _⟩ | ⟨g, cap, cur, h, _⟩⟩ := ow0
      · exact ⟨_, _, _, h⟩
      · exact ⟨_, _, _, h⟩
     subst hv0; have HO : Hid (y0.ownsRow w.heap.size 62 3 (.slice a0 n0 k0) m.length (rowP (setP V m)) ∧ Below w.heap.size w y0) := ⟨ow0, bl0⟩; clear ow0 bl0))
 go_ret
 have hbl := below_alloc y0 (.cells #[.slice a0 n0 k0] 22)
 refine ⟨y0.heap.size, .slice a0 n0 k0, rfl, Blk.new y0 [.slice a0 n0 k0] 22, ?_, HO.out.2.trans (hbl.mono HO.out.2.size), HO.out.2.size⟩
 exact HO.out.1.kept (row := none) ⟨hbl.os, hbl.tape, hbl.output, hbl.size, fun k hk _ => hbl.block k hk⟩ (by cases (Value.slice a0 n0 k0).ownBlock <;> simp)
abbrev KvT := (Bs × Bs) × (Option Addr × Nat × Nat)
abbrev encsK (x : KvT) : Array Value := #[.string (strB x.1.1), mkS x.2]
theorem ownB_low {w : World} {base B : Nat} {v : Value} {l : Bs} (h : OwnB w base v l) (hB : B ≤ base) : OwnB w B v l := by
 obtain ⟨h1, ⟨h2, h3⟩ | ⟨g, cap, cur, h2, h3, h4⟩⟩ := h
 · exact ⟨h1, Or.inl ⟨h2, h3⟩⟩
 · exact ⟨h1, Or.inr ⟨g, cap, cur, h2, Nat.le_trans hB h3, h4⟩⟩
def SK (m : KM) : List KvT → Prop := fun xs => xs.map (·.1) = m
def SpK (m : KM) : List KvT → Prop := fun xs => ∃ k, k ≤ m.length ∧ xs.map (·.1) = m.take k
theorem all_stops (n : Nat) {n₀ : Nat} {R : Nat → Prop} {gl : Nat} {v : Value} {V : Bs → Value} {m : KM} (w : World) (hn : n₀ ≤ w.heap.size) (hB : Blk w gl [v] 22) (hgl : gl < n₀ ∧ ¬ R gl) (hst : ∀ W, KpJ n₀ R w W → RdP W v (setP V m) ∧ ∀ p ∈ setP V m, Reads W p.2 p.1.data) (hsl : ∀ p ∈ setP V m, isSl p.2 = true ∧ p.1.data.length ≤ 1048576) (hml : m.length < 1000000) :
 SeqG n 66 #[.pointer (some ⟨gl, 0, none⟩)] encsK (fun x X => OwnB X n₀ (mkS x.2) x.1.2) (KpJ n₀ R) (SK m) (SpK m) w := fun lab J Jx W hW hJ hJx hY h0 => by
 obtain ⟨N, HN⟩ := sqn (m.length)
 obtain ⟨ad, cp, hv⟩ := (hst w (KpJ.refl _ _ _)).1.form
 rw [setP_len, ← HN.out] at hv
 subst hv
 have HST : Hid (∀ W, KpJ n₀ R w W → RdP W (.slice ad N cp) (setP V m) ∧ ∀ p ∈ setP V m, Reads W p.2 p.1.data) := hst
 have HSL : Hid (∀ p ∈ setP V m, isSl p.2 = true ∧ p.1.data.length ≤ 1048576) := hsl
 have HKW : Hid (KpJ n₀ R w W) := KpJ.below hW hn
 have HNW : Hid (n₀ ≤ w.heap.size) := hn
 have HBS : Hid (∀ W, KpJ n₀ R w W → Blk W gl [.slice ad N cp] 22) := fun W h => h.blk hB hgl.1 hgl.2
 have HML : Hid (N < 1000000) := by rw [HN.out]; exact hml
 have HY : Aside (∀ pre x X, J pre X → SpK m (pre ++ [x]) → OwnB X n₀ (mkS x.2) x.1.2 → YieldAt Fence.wide (n - 1) Tryz.prog lab (encsK x) X fun e Y => (e = .returned (.bool true) ∧ J (pre ++ [x]) Y ∧ KpJ n₀ R X Y) ∨ (e = .returned (.bool false) ∧ Jx (pre ++ [x]) Y)) := hY
 have HJB : Hid (∀ s X Y, J s X → Below X.heap.size X Y → J s Y) := hJ
 have HJ0 : Hid (J [] W) := h0
 have c0 : W.cell? ⟨gl, 0, none⟩ = some (.slice ad N cp) := (HBS.out W HKW.out).cell 0
 clear hB hW hY h0 hJ hJx hst hsl hn hml
 refine callsIn_wide.2 ?_
 simp only [List.append_toArray, List.cons_append, List.nil_append]
 go_enter Tryz.func66, Tryz.ntmps66
 go_wp2
 clear c0
 go_loopw [7] (fun i wr => ∃ k : Nat, k ≤ N ∧ i = .int .i64 (k : Int) ∧ Hid (∃ pre, pre.map (·.1) = m.take k ∧ J pre wr) ∧ Hid (KpJ n₀ R w wr)) (fun i _ => N - (intOf i).toNat)
 case atStart => exact ⟨0, Nat.zero_le _, rfl, ⟨[], rfl, HJ0.out⟩, HKW⟩
 case round =>
  clear HJ0 HKW
  obtain ⟨k, hkn, rfl, HJK, HKP⟩ := hrel
  by_cases hlt : k < N
  case neg =>
   obtain rfl : k = N := by omega
   have hlk : ¬ ((k : Int) < (k : Int)) := by omega
   go_wp2
   go_end0
   obtain ⟨pre, hpre, hj⟩ := HJK.out; refine ⟨⟨_, rfl⟩, Or.inl ⟨pre, ?_, hj⟩⟩; show pre.map (·.1) = m; rw [hpre, List.take_of_length_le (by rw [← HN.out]; exact Nat.le_refl _)]
  case pos =>
   obtain ⟨q, hq⟩ : ∃ q, m[k]? = some q := ⟨_, List.getElem?_eq_getElem (by rw [← HN.out]; exact hlt)⟩
   obtain ⟨ky, da⟩ := q; have hp : (setP V m)[k]? = some (⟨ky, true, da⟩, V ky) := by rw [setP, List.getElem?_map, hq]; rfl
   obtain ⟨hk2, hk4⟩ := HSL.out _ (List.mem_of_getElem? hp); obtain ⟨hrd, hdt⟩ := HST.out wr HKP.out; have hda := hdt _ (List.mem_of_getElem? hp); obtain ⟨b, off, e1, hrw⟩ := hrd.at hp; subst e1; simp only at hk2 hk4 hda hrw; obtain ⟨av, nv, cv, hvd⟩ := isSl_form hk2; rw [hvd] at hda hrw; obtain ⟨sk, HSK⟩ := sqn (strB ky)
   have HRW : Hid (wr.rangeAt b (off + k * 3) [.string sk, .bool true, .slice av nv cv]) := by
    show wr.rangeAt _ _ _; rw [HSK.out]; exact hrw
   have HDA : Hid (Reads wr (.slice av nv cv) da ∧ da.length ≤ 1048576) := ⟨hda, hk4⟩; have HTK : Hid (m.take (k + 1) = m.take k ++ [(ky, da)]) := by show _ = _; rw [List.take_add_one, hq]; rfl
   have HBW : Hid (Below wr.heap.size wr wr) := Below.refl _ _; have k0 : (0 : Int) ≤ (k : Int) := by omega
   have k3 : (k : Int) < (N : Int) := by omega
   have f5 : IntKind.i64.wrap ((k : Int) + 1) = (k : Int) + 1 := by have := HML.out; rw [IntKind.wrap_i64]; omega
   clear hp hk2 hk4 hrd hdt hda hrw hvd hq; obtain ⟨tk0, tk1, tk2, tk3⟩ := sqk4
   go_upto_region 3 with (first
    | (clear tk3; with_reducible refine wpSeq_idxA (.tmp 5) (.tmp 7) b off N cp k hlt ?_ ?_ ?_ ?_ ?_
       · rfl
       · rfl
       · rfl
       · rfl)
    | (clear tk0; with_reducible refine wpSeq_loadW 62 (.tmp 9) b (off + k * 3) [.string sk, .bool true, .slice av nv cv] _ HRW.out Tryz.underlying62 rfl (info_act15 _ _ _) ?_ ?_ ?_ ?_
       · rfl
       · rfl
       · rfl)
    | (clear tk1; with_reducible refine wpSeq_allocA ?_ ?_ ?_
       · rfl
       · rfl
       intro g5 y1 nn; have H5 : Hid (Blk y1 g5 zA 62) := nn.blk; have HG5 : Hid (wr.heap.size ≤ g5) := nn.ge; have HB1 : Hid (Below wr.heap.size wr y1) := nn.below; clear nn)
    | (clear tk2; with_reducible refine wpSeq_storeRow 62 (.tmp 4) (.tmp 10) g5 zA [.string sk, .bool true, .slice av nv cv] H5.out rfl (info_act15 _ _ _) (one_act _ _ _ _ _) ?_ ?_ ?_ ?_ ?_
       · rfl
       · rfl
       · rfl
       · rfl
       intro y2 sr; have HB2 : Hid (Below wr.heap.size wr y2.drew) := (HB1.out.trans (sr.only.below HG5.out HB1.out.size)).drew; have H52 : Hid (Blk y2.drew g5 [.string sk, .bool true, .slice av nv cv] 62) := sr.blk.drew; clear sr))
   have HCL : Hid (Calls Tryz.prog 64 #[.slice av nv cv] y2.drew fun e w' => ∃ v', e = .returned v' ∧ OwnB w' y2.drew.heap.size v' da ∧ Below y2.drew.heap.size y2.drew w') := bclone_any _ da _ (HDA.out.1.below HB2.out) (Nat.le_trans HDA.out.2 (by decide))
   have HYD : Hid (∀ y3 ab nb cb, OwnB y3 y2.drew.heap.size (.slice ab nb cb) da → Below y2.drew.heap.size y2.drew y3 → ∃ pre, (pre ++ [((ky, da), (ab, nb, cb))]).map (·.1) = m.take (k + 1) ∧ YieldAt Fence.wide (n - 1) Tryz.prog lab #[.string sk, .slice ab nb cb] y3 fun e Y => (e = .returned (.bool true) ∧ J (pre ++ [((ky, da), (ab, nb, cb))]) Y ∧ KpJ n₀ R w Y) ∨ (e = .returned (.bool false) ∧ Jx (pre ++ [((ky, da), (ab, nb, cb))]) Y)) := fun y3 ab nb cb ho hb => by
    obtain ⟨pre, hpre, hj⟩ := HJK.out; have hwy : Below wr.heap.size wr y3 := HB2.out.trans (hb.mono HB2.out.size); have hnw : n₀ ≤ wr.heap.size := Nat.le_trans HNW.out HKP.out.size; have hk3 : KpJ n₀ R w y3 := HKP.out.trans (KpJ.below hwy hnw); have hmp : (pre ++ [((ky, da), (ab, nb, cb))]).map (·.1) = m.take (k + 1) := by rw [List.map_append, hpre, HTK.out]; rfl
    have hy := HY.out pre ((ky, da), (ab, nb, cb)) y3 (HJB.out _ _ _ hj hwy) ⟨k + 1, by rw [← HN.out]; exact hlt, hmp⟩ (ownB_low ho (Nat.le_trans hnw HB2.out.size))
    refine ⟨pre, hmp, ?_⟩; obtain ⟨fn, tmps, assign, body, hyr, hR⟩ := hy
    dsimp only [encsK] at hyr
    rw [← HSK.out] at hyr; exact ⟨fn, tmps, assign, body, hyr, hR.mono fun e Y h => h.imp (fun h => ⟨h.1, h.2.1, hk3.trans h.2.2⟩) id⟩
   have cK : ∀ wx, Blk wx g5 [.string sk, .bool true, .slice av nv cv] 62 → wx.cell? ⟨g5, 0, none⟩ = some (.string sk) := fun wx h => h.cell 0
   have cD : ∀ wx, Blk wx g5 [.string sk, .bool true, .slice av nv cv] 62 → wx.cell? ⟨g5, 2, none⟩ = some (.slice av nv cv) := fun wx h => h.cell 2
   have HCK : Hid (∀ wx, Blk wx g5 [.string sk, .bool true, .slice av nv cv] 62 → wx.cell? ⟨g5, 0, none⟩ = some (.string sk)) := cK; have HCD : Hid (∀ wx, Blk wx g5 [.string sk, .bool true, .slice av nv cv] 62 → wx.cell? ⟨g5, 2, none⟩ = some (.slice av nv cv)) := cD; have HNN : Hid (n = n) := rfl; clear cK cD HJK HDA HRW HB1 H5 HBW; refine (wpIn_wide (n := n)).1 ?_; refine wpIn_region_any (by kernel_rfl) ?_
   change wpAnyIn _ _ _ _ _ _ _ _ _ (World.drew y2)
   refine wpAnyIn_take (i := 0) (v := .func (.yield lab) #[] #[]) rfl rfl (by kernel_rfl) (by kernel_rfl) (by kernel_rfl) (fun _ _ _ h => h) ⟨Or.inl ⟨by rfl, fun wx => by simp [go_sem]⟩, fun _ => rfl⟩ ?_
   simp only [Act.put, sq]; refine wpAnyIn_take (i := 1) (v := .pointer (some ⟨g5, 0, none⟩)) rfl rfl (by kernel_rfl) (by kernel_rfl) (by kernel_rfl) (fun _ _ _ h => h) ⟨Or.inl ⟨by rfl, fun wx => by simp [go_sem]⟩, fun _ => rfl⟩ ?_
   simp only [Act.put, sq]; refine wpAnyIn_take (i := 3) (v := .pointer (some ⟨g5, 2, none⟩)) rfl rfl (by kernel_rfl) (by kernel_rfl) (by kernel_rfl) (fun _ _ _ h => h) ⟨Or.inl ⟨by rfl, fun wx => by simp [go_sem]⟩, fun _ => rfl⟩ ?_
   simp only [Act.put, sq]; refine wpAnyIn_pairs 2 4 (by kernel_rfl) ?_ ?_
   · skip
     have cx := HCK.out _ H52.out; refine wpOpIn_val (v := .string sk) (w' := y2.drew) rfl (by rfl) (by simp [go_sem, cx]) ?_
     clear cx; simp only [Act.put, sq]; refine wpAnyIn_lone 4 (by kernel_rfl) ?_
     have cx := HCD.out _ H52.out; refine wpOpIn_val (v := .slice av nv cv) (w' := y2.drew) rfl (by rfl) (by simp [go_sem, cx]) ?_
     clear cx; simp only [Act.put, sq]; refine wpAnyIn_lone 5 (by kernel_rfl) ?_
     refine wpOpIn_enter (f := 64) (args := #[.slice av nv cv]) rfl (by rfl) (by simp [go_sem]) HCL.out ?_
     rintro e3 y3 ⟨v3, rfl, ow3, bl3⟩; obtain ⟨ab, nb, cb, hv3⟩ := isSl_form ow3.isSl; subst hv3; have H53 : Hid (Blk y3 g5 [.string sk, .bool true, .slice av nv cv] 62) := H52.out.below bl3 H52.out.lt; have HOW : Hid (OwnB y3 y2.drew.heap.size (.slice ab nb cb) da ∧ Below y2.drew.heap.size y2.drew y3) := ⟨ow3, bl3⟩; clear ow3 bl3; refine ⟨_, rfl, ?_⟩; simp only [Act.put, sq]; refine wpAnyIn_lone 6 (by kernel_rfl) ?_
     obtain ⟨pre, hmp, fn, tmps, assign, body, hyr, hR⟩ := HYD.out y3 ab nb cb HOW.out.1 HOW.out.2; refine wpOpIn_round rfl (by rfl) (by simp [go_sem, hyr]) hR ?_
     rintro e4 y4 (⟨rfl, hj, hkp⟩ | ⟨rfl, hj⟩)
     · refine ⟨_, rfl, ?_⟩
       simp only [Act.put, sq]; refine wpAnyIn_lone 7 (by kernel_rfl) ?_
       refine wpOpIn_val (v := .bool false) (w' := y4) rfl (by rfl) (by simp [go_sem]) ?_
       simp only [Act.put, sq]; refine wpAnyIn_done (by kernel_rfl) ?_ _
       have HJ4 : Hid (∃ pre, pre.map (·.1) = m.take (k + 1) ∧ J pre y4) := ⟨_, hmp, hj⟩; have HK4 : Hid (KpJ n₀ R w y4) := hkp; clear hj hkp hyr hR hmp
       gi_wp2
       go_wp2; go_roundw
       case rel => exact ⟨k + 1, hlt, rfl, HJ4, HK4⟩
       case measure => simp [intOf]; omega
     · refine ⟨_, rfl, ?_⟩
       simp only [Act.put, sq]; refine wpAnyIn_lone 7 (by kernel_rfl) ?_
       refine wpOpIn_val (v := .bool true) (w' := y4) rfl (by rfl) (by simp [go_sem]) ?_
       simp only [Act.put, sq]; refine wpAnyIn_done (by kernel_rfl) ?_ _
       have HJ4 : Hid (∃ pre, SpK m pre ∧ Jx pre y4) := ⟨_, ⟨k + 1, by rw [← HN.out]; exact hlt, hmp⟩, hj⟩
       clear hj hyr hR hmp
       gi_wp2
       go_wp2; refine bodyPost_ret (results_none rfl _ _ _) rfl ?_; exact ⟨⟨_, rfl⟩, Or.inr HJ4.out⟩
   · skip
     have cx := HCD.out _ H52.out; refine wpOpIn_val (v := .slice av nv cv) (w' := y2.drew) rfl (by rfl) (by simp [go_sem, cx]) ?_
     clear cx; simp only [Act.put, sq]; refine wpAnyIn_pairs 2 5 (by kernel_rfl) ?_ ?_
     · skip
       have cx := HCK.out _ H52.out; refine wpOpIn_val (v := .string sk) (w' := y2.drew) rfl (by rfl) (by simp [go_sem, cx]) ?_
       clear cx; simp only [Act.put, sq]; refine wpAnyIn_lone 5 (by kernel_rfl) ?_
       refine wpOpIn_enter (f := 64) (args := #[.slice av nv cv]) rfl (by rfl) (by simp [go_sem]) HCL.out ?_
       rintro e3 y3 ⟨v3, rfl, ow3, bl3⟩; obtain ⟨ab, nb, cb, hv3⟩ := isSl_form ow3.isSl; subst hv3; have H53 : Hid (Blk y3 g5 [.string sk, .bool true, .slice av nv cv] 62) := H52.out.below bl3 H52.out.lt; have HOW : Hid (OwnB y3 y2.drew.heap.size (.slice ab nb cb) da ∧ Below y2.drew.heap.size y2.drew y3) := ⟨ow3, bl3⟩; clear ow3 bl3; refine ⟨_, rfl, ?_⟩; simp only [Act.put, sq]; refine wpAnyIn_lone 6 (by kernel_rfl) ?_
       obtain ⟨pre, hmp, fn, tmps, assign, body, hyr, hR⟩ := HYD.out y3 ab nb cb HOW.out.1 HOW.out.2; refine wpOpIn_round rfl (by rfl) (by simp [go_sem, hyr]) hR ?_
       rintro e4 y4 (⟨rfl, hj, hkp⟩ | ⟨rfl, hj⟩)
       · refine ⟨_, rfl, ?_⟩
         simp only [Act.put, sq]; refine wpAnyIn_lone 7 (by kernel_rfl) ?_
         refine wpOpIn_val (v := .bool false) (w' := y4) rfl (by rfl) (by simp [go_sem]) ?_
         simp only [Act.put, sq]; refine wpAnyIn_done (by kernel_rfl) ?_ _
         have HJ4 : Hid (∃ pre, pre.map (·.1) = m.take (k + 1) ∧ J pre y4) := ⟨_, hmp, hj⟩; have HK4 : Hid (KpJ n₀ R w y4) := hkp; clear hj hkp hyr hR hmp
         gi_wp2
         go_wp2; go_roundw
         case rel => exact ⟨k + 1, hlt, rfl, HJ4, HK4⟩
         case measure => simp [intOf]; omega
       · refine ⟨_, rfl, ?_⟩
         simp only [Act.put, sq]; refine wpAnyIn_lone 7 (by kernel_rfl) ?_
         refine wpOpIn_val (v := .bool true) (w' := y4) rfl (by rfl) (by simp [go_sem]) ?_
         simp only [Act.put, sq]; refine wpAnyIn_done (by kernel_rfl) ?_ _
         have HJ4 : Hid (∃ pre, SpK m pre ∧ Jx pre y4) := ⟨_, ⟨k + 1, by rw [← HN.out]; exact hlt, hmp⟩, hj⟩
         clear hj hyr hR hmp
         gi_wp2
         go_wp2; refine bodyPost_ret (results_none rfl _ _ _) rfl ?_; exact ⟨⟨_, rfl⟩, Or.inr HJ4.out⟩
     · skip
       refine wpOpIn_enter (f := 64) (args := #[.slice av nv cv]) rfl (by rfl) (by simp [go_sem]) HCL.out ?_
       rintro e3 y3 ⟨v3, rfl, ow3, bl3⟩; obtain ⟨ab, nb, cb, hv3⟩ := isSl_form ow3.isSl; subst hv3; have H53 : Hid (Blk y3 g5 [.string sk, .bool true, .slice av nv cv] 62) := H52.out.below bl3 H52.out.lt; have HOW : Hid (OwnB y3 y2.drew.heap.size (.slice ab nb cb) da ∧ Below y2.drew.heap.size y2.drew y3) := ⟨ow3, bl3⟩; clear ow3 bl3; refine ⟨_, rfl, ?_⟩; simp only [Act.put, sq]; refine wpAnyIn_lone 2 (by kernel_rfl) ?_
       have cx := HCK.out _ H53.out; refine wpOpIn_val (v := .string sk) (w' := y3) rfl (by rfl) (by simp [go_sem, cx]) ?_
       clear cx; simp only [Act.put, sq]; refine wpAnyIn_lone 6 (by kernel_rfl) ?_
       obtain ⟨pre, hmp, fn, tmps, assign, body, hyr, hR⟩ := HYD.out y3 ab nb cb HOW.out.1 HOW.out.2; refine wpOpIn_round rfl (by rfl) (by simp [go_sem, hyr]) hR ?_
       rintro e4 y4 (⟨rfl, hj, hkp⟩ | ⟨rfl, hj⟩)
       · refine ⟨_, rfl, ?_⟩
         simp only [Act.put, sq]; refine wpAnyIn_lone 7 (by kernel_rfl) ?_
         refine wpOpIn_val (v := .bool false) (w' := y4) rfl (by rfl) (by simp [go_sem]) ?_
         simp only [Act.put, sq]; refine wpAnyIn_done (by kernel_rfl) ?_ _
         have HJ4 : Hid (∃ pre, pre.map (·.1) = m.take (k + 1) ∧ J pre y4) := ⟨_, hmp, hj⟩; have HK4 : Hid (KpJ n₀ R w y4) := hkp; clear hj hkp hyr hR hmp
         gi_wp2
         go_wp2; go_roundw
         case rel => exact ⟨k + 1, hlt, rfl, HJ4, HK4⟩
         case measure => simp [intOf]; omega
       · refine ⟨_, rfl, ?_⟩
         simp only [Act.put, sq]; refine wpAnyIn_lone 7 (by kernel_rfl) ?_
         refine wpOpIn_val (v := .bool true) (w' := y4) rfl (by rfl) (by simp [go_sem]) ?_
         simp only [Act.put, sq]; refine wpAnyIn_done (by kernel_rfl) ?_ _
         have HJ4 : Hid (∃ pre, SpK m pre ∧ Jx pre y4) := ⟨_, ⟨k + 1, by rw [← HN.out]; exact hlt, hmp⟩, hj⟩
         clear hj hyr hR hmp
         gi_wp2
         go_wp2; refine bodyPost_ret (results_none rfl _ _ _) rfl ?_; exact ⟨⟨_, rfl⟩, Or.inr HJ4.out⟩
end Go.Proofs.YtopmeedmgjdcgaaGreatDoor
namespace Go.Proofs.YtopmeedmgjdcgaaGreatDoor
open Go.RowKit
def RdV (t : TypeId) (w : World) (v : Value) (cs : List Value) : Prop := ∃ ad cap, v = .slice ad cs.length cap ∧ cs.length ≤ cap ∧ (0 < cs.length → ∃ b off ar, ad = some ⟨b, off, none⟩ ∧ w.heap[b]? = some (.cells ar t (0, 0)) ∧ ∀ (j : Nat) u, cs[j]? = some u → ar[off + j]? = some u)
def OwnR (t : TypeId) (w : World) (base : Nat) (v : Value) (cs : List Value) : Prop := w.ownsRow base t 1 v cs.length cs
theorem heap_lt {w : World} {b : Nat} {o : Obj} (h : w.heap[b]? = some o) : b < w.heap.size := (Array.getElem?_eq_some_iff.1 h).1
theorem RdV.nil (t : TypeId) (w : World) : RdV t w (.slice none 0 0) [] := ⟨none, 0, rfl, Nat.le_refl _, fun h => by simp at h⟩
theorem RdV.form {t : TypeId} {w : World} {v : Value} {cs : List Value} (h : RdV t w v cs) : ∃ ad c, v = .slice ad cs.length c := by
 obtain ⟨ad, cap, h1, _⟩ := h
 exact ⟨ad, cap, h1⟩
theorem RdV.at {t : TypeId} {w : World} {ad : Option Addr} {n c : Nat} {cs : List Value} (h : RdV t w (.slice ad n c) cs) {j : Nat} {u : Value} (hj : cs[j]? = some u) : ∃ b off, ad = some ⟨b, off, none⟩ ∧ w.cell? ⟨b, off + j, none⟩ = some u := by
 obtain ⟨ad', cap, h1, h2, h3⟩ := h
 simp only [Value.slice.injEq] at h1
 obtain ⟨rfl, _, _⟩ := h1
 have hl := (List.getElem?_eq_some_iff.1 hj).1
 obtain ⟨b, off, ar, h4, h5, h6⟩ := h3 (by omega)
 refine ⟨b, off, h4, ?_⟩
 rw [cell_of_row w b (off + j) ar t (0, 0) h5]
 exact h6 j u hj
theorem OwnR.nil (t : TypeId) (w : World) (base : Nat) : OwnR t w base (.slice none 0 0) [] := World.ownsRow_nil _ _ _ _
theorem OwnR.rd {t : TypeId} {w : World} {base : Nat} {v : Value} {cs : List Value} (h : OwnR t w base v cs) : RdV t w v cs := by
 obtain ⟨h1, ⟨rfl, h2⟩ | ⟨g, cap, cur, rfl, hg, hh, hc, hm, hs, ht⟩⟩ := h
 · have : cs = [] := List.eq_nil_of_length_eq_zero h2
   subst this; exact RdV.nil _ _
 · refine ⟨_, cap, rfl, hc, fun _ => ⟨g, 0, cur, rfl, hh, fun j u hj => ?_⟩⟩
   have hl := (List.getElem?_eq_some_iff.1 hj).1; rw [Nat.mul_one] at ht; rw [← ht, List.getElem?_take_of_lt hl] at hj
   simpa using hj
theorem OwnR.form {t : TypeId} {w : World} {base : Nat} {v : Value} {cs : List Value} (h : OwnR t w base v cs) : ∃ ad c, v = .slice ad cs.length c := h.rd.form
theorem OwnR.lt {t : TypeId} {w : World} {base : Nat} {v : Value} {cs : List Value} (h : OwnR t w base v cs) : ∀ k, v.ownBlock = some k → base ≤ k ∧ k < w.heap.size := fun k hk => World.ownsRow.lt h k hk
theorem OwnR.same {t : TypeId} {w w' : World} {base : Nat} {v : Value} {cs : List Value} (h : OwnR t w base v cs) (hs : ∀ (k : Nat) (ar : Array Value), w.heap[k]? = some (Obj.cells ar t (0, 0)) → v.ownBlock = some k → w'.heap[k]? = w.heap[k]?) : OwnR t w' base v cs := by
 obtain ⟨h1, ⟨rfl, h2⟩ | ⟨g, cap, cur, rfl, hg, hh, r⟩⟩ := h
 · exact ⟨h1, Or.inl ⟨rfl, h2⟩⟩
 · exact ⟨h1, Or.inr ⟨g, cap, cur, rfl, hg, by rw [hs g cur hh rfl]; exact hh, r⟩⟩
theorem OwnR.below {t : TypeId} {w w' : World} {base : Nat} {v : Value} {cs : List Value} (h : OwnR t w base v cs) (hb : Below w.heap.size w w') : OwnR t w' base v cs := h.same (fun k _ hh _ => hb.block k (heap_lt hh))
theorem OwnR.mono {t : TypeId} {w : World} {base base' : Nat} {v : Value} {cs : List Value} (h : OwnR t w base v cs) (hb : base' ≤ base) : OwnR t w base' v cs := by
 obtain ⟨h1, h2 | ⟨g, cap, cur, hv, hg, r⟩⟩ := h
 · exact ⟨h1, Or.inl h2⟩
 · exact ⟨h1, Or.inr ⟨g, cap, cur, hv, Nat.le_trans hb hg, r⟩⟩
theorem Tryz.infoStr : (Tryz.prog.info? 9).map (fun i => (i.zero, i.size, i.bytes)) = some (some (.string ⟨#[]⟩), 1, 16) := by kernel_rfl
theorem app_row (ts te : TypeId) (ht : Tryz.prog.underlying ts = some (.slice te)) (z : Value) (by_ : Nat) (hinf : (Tryz.prog.info? te).map (fun i => (i.zero, i.size, i.bytes)) = some (some z, 1, by_)) (hz : z.cells.size = 1) (hby : by_ ≤ 48) {o : Oper} {a : Act} {w : World} {K : Act → World → Prop} {Q : Exit → Act → World → Prop} (s x : Operand) (base : Nat) (v u : Value) (cs : List Value) (g : Nat)
 (hown : OwnR te w base v cs) (hb : Blk w g [u] te) (h1 : u.oneCell' = true) (hlen : cs.length < 1000000) (hbase : base ≤ w.heap.size)
 (ho : o.op = .call { callee := .builtin .append, args := #[s, x], argTypes := #[ts, ts] }) (hs : a.eval s = v) (hx : a.eval x = .slice (some ⟨g, 0, none⟩) 1 1)
 (h : ∀ v' w', OwnR te w' base v' (cs ++ [u]) → w.grownBy w' v.ownBlock → Below base w w' → K (a.put o.dst v') w') : o.wp Tryz.prog a w K Q := by
 obtain ⟨i0, hi, hz0, hz1, hz2⟩ := info_parts hinf
 obtain ⟨v', w', hr, h2, h3, h4, h5⟩ := run_append_own_at (P := Tryz.prog) w base ts o.type te i0 z 1 by_ ht hi hz0 hz1 hz2 hz (by decide) v cs.length cs hown ⟨g, 0, none⟩ 1 1 [u] rfl (fun j q hj => by rw [Addr.add_mid, Nat.zero_add, hb.cell]; exact hj) (fun q hq => by rw [List.mem_singleton.1 hq]; exact h1) (by unfold maxLen; omega) (by have := Nat.mul_le_mul (show cs.length + 1 ≤ 1000000 by omega) hby; omega) hbase
 unfold Oper.wp execOp
 simp only [ho, resolve, invoke, builtin, Sem.run_bind, Sem.run_pure, Result.andThen_ok, List.map_toArray, List.map_cons, List.map_nil, hs, hx, hr]
 refine h v' w' ?_ h3 ((Below.refl _ _).grown h3 hbase (fun k hk => (hown.lt k hk).1))
 unfold OwnR
 rw [List.length_append]
 exact h2
theorem wp_appK {o : Oper} {a : Act} {w : World} {K : Act → World → Prop} {Q : Exit → Act → World → Prop} (s x : Operand) (base : Nat) (v : Value) (u : ByteArray) (cs : List Value) (g : Nat)
 (hown : OwnR 9 w base v cs) (hb : Blk w g [.string u] 9) (hlen : cs.length < 1000000) (hbase : base ≤ w.heap.size)
 (ho : o.op = .call { callee := .builtin .append, args := #[s, x], argTypes := #[40, 40] }) (hs : a.eval s = v) (hx : a.eval x = .slice (some ⟨g, 0, none⟩) 1 1)
 (h : ∀ v' w', OwnR 9 w' base v' (cs ++ [.string u]) → w.grownBy w' v.ownBlock → Below base w w' → K (a.put o.dst v') w') : o.wp Tryz.prog a w K Q :=
 app_row 40 9 Tryz.underlying40 _ _ Tryz.infoStr rfl (by decide) s x base v _ cs g hown hb rfl hlen hbase ho hs hx h
theorem wpList_appK {ops : Array Oper} {rest : List Oper} {o : Oper} {a : Act} {w : World} {Q : Exit → Act → World → Prop} (s x : Operand) (base : Nat) (v : Value) (u : ByteArray) (cs : List Value) (g : Nat)
 (hown : OwnR 9 w base v cs) (hb : Blk w g [.string u] 9) (hlen : cs.length < 1000000) (hbase : base ≤ w.heap.size) (hgd : o.guard = none)
 (ho : o.op = .call { callee := .builtin .append, args := #[s, x], argTypes := #[40, 40] }) (hs : a.eval s = v) (hx : a.eval x = .slice (some ⟨g, 0, none⟩) 1 1)
 (h : ∀ v' w', OwnR 9 w' base v' (cs ++ [.string u]) → w.grownBy w' v.ownBlock → Below base w w' → wpList Tryz.prog ops Q rest (a.put o.dst v') w') : wpList Tryz.prog ops Q (o :: rest) a w :=
 wpList_plain hgd fun _ hK => wp_appK s x base v u cs g hown hb hlen hbase ho hs hx fun v' w' h2 h3 h4 => hK _ _ (h v' w' h2 h3 h4)
theorem wp_appT15 {o : Oper} {a : Act} {w : World} {K : Act → World → Prop} {Q : Exit → Act → World → Prop} (s x : Operand) (base : Nat) (v : Value) (u : Option Addr × Nat × Nat) (cs : List Value) (g : Nat)
 (hown : OwnR 23 w base v cs) (hb : Blk w g [mkS u] 23) (hlen : cs.length < 1000000) (hbase : base ≤ w.heap.size)
 (ho : o.op = .call { callee := .builtin .append, args := #[s, x], argTypes := #[41, 41] }) (hs : a.eval s = v) (hx : a.eval x = .slice (some ⟨g, 0, none⟩) 1 1)
 (h : ∀ v' w', OwnR 23 w' base v' (cs ++ [mkS u]) → w.grownBy w' v.ownBlock → Below base w w' → K (a.put o.dst v') w') : o.wp Tryz.prog a w K Q :=
 app_row 41 23 Tryz.underlying41 _ _ Tryz.infobsJ rfl (by decide) s x base v _ cs g hown hb rfl hlen hbase ho hs hx h
theorem wpList_appT15 {ops : Array Oper} {rest : List Oper} {o : Oper} {a : Act} {w : World} {Q : Exit → Act → World → Prop} (s x : Operand) (base : Nat) (v : Value) (u : Option Addr × Nat × Nat) (cs : List Value) (g : Nat)
 (hown : OwnR 23 w base v cs) (hb : Blk w g [mkS u] 23) (hlen : cs.length < 1000000) (hbase : base ≤ w.heap.size) (hgd : o.guard = none)
 (ho : o.op = .call { callee := .builtin .append, args := #[s, x], argTypes := #[41, 41] }) (hs : a.eval s = v) (hx : a.eval x = .slice (some ⟨g, 0, none⟩) 1 1)
 (h : ∀ v' w', OwnR 23 w' base v' (cs ++ [mkS u]) → w.grownBy w' v.ownBlock → Below base w w' → wpList Tryz.prog ops Q rest (a.put o.dst v') w') : wpList Tryz.prog ops Q (o :: rest) a w :=
 wpList_plain hgd fun _ hK => wp_appT15 s x base v u cs g hown hb hlen hbase ho hs hx fun v' w' h2 h3 h4 => hK _ _ (h v' w' h2 h3 h4)
theorem OwnB.toR {w : World} {base : Nat} {v : Value} {l : Bs} (h : OwnB w base v l) : OwnR 5 w base v (cb l) := by unfold OwnR; rw [cb_len]; exact h
theorem OwnR.toB {w : World} {base : Nat} {v : Value} {l : Bs} (h : OwnR 5 w base v (cb l)) : OwnB w base v l := by unfold OwnR at h; rw [cb_len] at h; exact h
end Go.Proofs.YtopmeedmgjdcgaaGreatDoor

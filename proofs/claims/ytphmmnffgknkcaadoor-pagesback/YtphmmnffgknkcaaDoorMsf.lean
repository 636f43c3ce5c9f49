/- Texts that the proof leans on, one behind the other: SameTexts of blazonref04, at this seat; the walk of the statement PagesOne (layer 17). The law's clash (layer 17): has a text the digest of another one of a list. Rows of slices that grow by several (layer 17). .. -/
import Derived.Test.YtphmmnffgknkcaaDoorMse
import Derived.BigQuiet
import Derived.Test.YtphmmnffgknkcaaDoorRows
import Derived.Test.YtphmmnffgknkcaaDoorMsa
import Derived.ProofKit
import Derived.LaidMore
import Derived.OpenShut
import Derived.Stop.Joined
import Derived.Lib.LaidTab
import Derived.Carry
import Derived.ChangeSlices
import Derived.Test.YtphmmnffgknkcaaDoorMsb
import Derived.Deep.Slices
import Derived.Test.YtphmmnffgknkcaaDoorMsd
/- SameTexts of blazonref04, at this seat; the walk of the statement PagesOne (layer 17). -/
namespace Go.Proofs.YtphmmnffgknkcaaDoor
open Go.RowKit
set_option maxRecDepth 100000
theorem take_same {α : Type} {a b : List α} {k : Nat} (z : α) (h : a.take k = b.take k) (ha : k < a.length) (hb : k < b.length) (he : a.getD k z = b.getD k z) : a.take (k + 1) = b.take (k + 1) := by
  rw [List.getD_eq_getElem?_getD, List.getD_eq_getElem?_getD, List.getElem?_eq_getElem ha, List.getElem?_eq_getElem hb] at he
  rw [List.take_add_one, List.take_add_one, h, List.getElem?_eq_getElem ha, List.getElem?_eq_getElem hb]
  simp only [Option.getD_some] at he
  rw [he]
theorem Reads.drewN {w : World} {v : Value} {l : List (BitVec 8)} (h : Reads w v l) (q : Nat) : Reads (w.drewN q) v l := h
set_option maxRecDepth 100000 in
set_option maxHeartbeats 1000000 in
theorem sametexts_any (va vb : Value) (a b : List (List (BitVec 8))) (w : World) (ha : ReadsL w va a) (hb : ReadsL w vb b) (hl : a.length < 4611686018427387904) :
    Calls Tryd.prog 14 #[va, vb] w fun e w' => e = .returned (.bool (decide (a = b))) ∧ ∃ q, w' = w.drewN q := by
  have HA : Hid (ReadsL w va a) := ha
  have HB : Hid (ReadsL w vb b) := hb
  have hnot : ∀ (x : Bool) (w : World), (Op.unary .not (.bool x)).run Tryd.prog w = .ok (.bool (!x)) w := fun _ _ => rfl
  obtain ⟨ada, ca, hva, _, _, _⟩ := ha
  obtain ⟨adb, cb', hvb, _, _, _⟩ := hb
  obtain ⟨n, HN⟩ : ∃ n, Hid (n = a.length) := ⟨_, rfl⟩
  obtain ⟨m, HM⟩ : ∃ n, Hid (n = b.length) := ⟨_, rfl⟩
  rw [← HN.out] at hva hl
  rw [← HM.out] at hvb
  subst hva hvb
  obtain ⟨o, HO⟩ : ∃ o, Hid (o = decide (a = b)) := ⟨_, rfl⟩
  rw [← HO.out]
  by_cases hnm : n = m
  · subst hnm
    go_enter Tryd.func14, Tryd.ntmps14
    go_wp2
    go_loopw [5] (fun i wr => ∃ k q : Nat, k ≤ n ∧ i = .int .i64 (k : Int) ∧ a.take k = b.take k ∧ wr = w.drewN q) (fun i _ => n - (intOf i).toNat)
    case atStart => exact ⟨0, 0, by omega, rfl, rfl, rfl⟩
    case round =>
      obtain ⟨k, q, hk, rfl, heq, hwr⟩ := hrel
      have HW : Hid (wr = w.drewN q) := hwr
      clear hwr
      by_cases hlt : k < n
      · obtain ⟨ad1, cap1, hv1, _, _, hx1⟩ := HA.out
        rw [← HN.out] at hv1 hx1
        simp only [Value.slice.injEq, true_and] at hv1
        obtain ⟨rfl, rfl⟩ := hv1
        obtain ⟨b1, off1, rfl, hy1⟩ := hx1 (by omega)
        obtain ⟨ad2, cap2, hv2, _, _, hx2⟩ := HB.out
        rw [← HM.out] at hv2 hx2
        simp only [Value.slice.injEq, true_and] at hv2
        obtain ⟨rfl, rfl⟩ := hv2
        obtain ⟨b2, off2, rfl, hy2⟩ := hx2 (by omega)
        obtain ⟨v1, h1, r1⟩ := hy1 k hlt
        obtain ⟨v2, h2, r2⟩ := hy2 k hlt
        replace h1 : wr.cell? ⟨b1, off1 + k, none⟩ = some v1 := by rw [HW.out]; exact h1
        replace h2 : wr.cell? ⟨b2, off2 + k, none⟩ = some v2 := by rw [HW.out]; exact h2
        obtain ⟨x, HX⟩ : ∃ x, Hid (x = a.getD k []) := ⟨_, rfl⟩
        obtain ⟨y, HY⟩ : ∃ x, Hid (x = b.getD k []) := ⟨_, rfl⟩
        rw [← HX.out] at r1
        rw [← HY.out] at r2
        obtain ⟨p1, z1, hvv1, _, _, _⟩ := id r1
        obtain ⟨p2, z2, hvv2, _, _, _⟩ := id r2
        obtain ⟨l1, HL1⟩ : ∃ l1, Hid (l1 = x.length) := ⟨_, rfl⟩
        obtain ⟨l2, HL2⟩ : ∃ l2, Hid (l2 = y.length) := ⟨_, rfl⟩
        rw [← HL1.out] at hvv1
        rw [← HL2.out] at hvv2
        subst hvv1 hvv2
        have HR1 : Hid (∀ j, Reads (wr.drewN j) (.slice p1 l1 z1) x) := fun j => by rw [HW.out]; exact r1
        have HR2 : Hid (∀ j, Reads (wr.drewN j) (.slice p2 l2 z2) y) := fun j => by rw [HW.out]; exact r2
        have HQ : Hid (a.take k = b.take k) := heq
        clear heq hx1 hx2 hy1 hy2 r1 r2
        by_cases hxy : x = y
        · have HJ : Hid (a.take (k + 1) = b.take (k + 1)) := take_same [] HQ.out (by rw [← HN.out]; exact hlt) (by rw [← HM.out]; exact hlt) (by rw [← HX.out, ← HY.out, hxy])
          have HC : Hid (∀ j, Calls Tryd.prog 29 #[.slice p1 l1 z1, .slice p2 l2 z2] (wr.drewN j) fun e w' => e = .returned (.bool true) ∧ w' = wr.drewN j) := fun j => by
            have := same_any _ _ x y (wr.drewN j) (HR1.out j) (HR2.out j)
            rw [decide_eq_true hxy] at this
            exact this
          clear HR1 HR2 hxy
          go_wp2
          go_quiet (first | (go_at_call 29; refine Calls.quiet_of_same (HC.out _)))
          go_wp2
          go_roundw
          case rel => exact ⟨k + 1, _, by omega, by go_num, HJ.out, by rw [HW.out]; exact World.drewN_drewN ..⟩
          case measure => simp [intOf]; omega
        · have HF : Hid (o = false) := by
            show _ = _
            rw [HO.out, decide_eq_false_iff_not]
            intro he
            apply hxy
            rw [HX.out, HY.out, he]
          have HC : Hid (∀ j, Calls Tryd.prog 29 #[.slice p1 l1 z1, .slice p2 l2 z2] (wr.drewN j) fun e w' => e = .returned (.bool false) ∧ w' = wr.drewN j) := fun j => by
            have := same_any _ _ x y (wr.drewN j) (HR1.out j) (HR2.out j)
            rw [decide_eq_false hxy] at this
            exact this
          clear HR1 HR2 hxy
          go_wp2
          go_quiet (first | (go_at_call 29; refine Calls.quiet_of_same (HC.out _)))
          go_wp2
          go_ret
          exact ⟨by rw [HF.out]; rfl, _, by rw [HW.out]; exact World.drewN_drewN ..⟩
      · have hkn : k = n := by omega
        subst hkn
        have HF : Hid (o = true) := by
          show _ = _
          rw [HO.out, decide_eq_true_iff]
          have h1 := heq
          rw [List.take_of_length_le (by rw [← HN.out]; exact Nat.le_refl _), List.take_of_length_le (by rw [← HM.out]; exact Nat.le_refl _)] at h1
          exact h1
        clear heq
        go_wp2
        go_ret
        exact ⟨by rw [HF.out]; rfl, q, HW.out⟩
  · have hnm2 : ¬ ((n : Int) = (m : Int)) := by omega
    have HF : Hid (o = false) := by
      show _ = _
      rw [HO.out, decide_eq_false_iff_not]
      intro he
      apply hnm
      rw [HN.out, HM.out, he]
    go_enter Tryd.func14, Tryd.ntmps14
    go_wp2
    go_ret
    exact ⟨by rw [HF.out]; rfl, 0, rfl⟩
/-- the list turned round, from the K-th on -/
def turned (ds : List (List (BitVec 8))) (K q : Nat) : List (List (BitVec 8)) := (List.range q).map fun i => ds.getD ((K + ds.length - i) % ds.length) []
theorem mem_getD {ds : List (List (BitVec 8))} {d : List (BitVec 8)} : d ∈ ds ↔ ∃ j, j < ds.length ∧ ds.getD j [] = d := by
  rw [List.mem_iff_getElem]
  constructor
  · rintro ⟨j, hj, rfl⟩
    exact ⟨j, hj, by rw [List.getD_eq_getElem?_getD, List.getElem?_eq_getElem hj]; rfl⟩
  · rintro ⟨j, hj, h⟩
    refine ⟨j, hj, ?_⟩
    rw [List.getD_eq_getElem?_getD, List.getElem?_eq_getElem hj] at h
    exact h
theorem mem_turned {ds : List (List (BitVec 8))} {K : Nat} (hK : K < ds.length) {d : List (BitVec 8)} : d ∈ turned ds K ds.length ↔ d ∈ ds := by
  rw [mem_getD (ds := ds)]
  unfold turned
  rw [List.mem_map]
  constructor
  · rintro ⟨i, _, rfl⟩
    exact ⟨_, Nat.mod_lt _ (by omega), rfl⟩
  · rintro ⟨j, hj, rfl⟩
    by_cases h : j ≤ K
    · refine ⟨K - j, List.mem_range.2 (by omega), ?_⟩
      rw [show K + ds.length - (K - j) = j + ds.length by omega, Nat.add_mod_right, Nat.mod_eq_of_lt hj]
    · refine ⟨K + ds.length - j, List.mem_range.2 (by omega), ?_⟩
      rw [show K + ds.length - (K + ds.length - j) = j by omega, Nat.mod_eq_of_lt hj]
theorem wrap_nonneg (x : Int) : 0 ≤ IntKind.u64.wrap x := by simp [IntKind.wrap, IntKind.bits, IntKind.signed]; omega
theorem below_drew17 {B : Nat} {a b : World} (h : Below B a b) (n : Nat) : Below B a (b.drewN n) := ⟨h.os, h.tape, h.output, h.size, h.block⟩
end Go.Proofs.YtphmmnffgknkcaaDoor
/- The law's clash (layer 17): has a text the digest of another one of a list. -/
namespace Go.Proofs.YtphmmnffgknkcaaDoor
open Go.RowKit
set_option maxRecDepth 100000
theorem idxQ (b off n c k : Nat) (hk : k < n) (f : Operand → Value) (o : Oper) (x y : Operand) (ho : o.op = .indexAddr 29 x y) (hx : f x = .slice (some ⟨b, off, none⟩) n c) (hy : f y = .int .i64 (k : Int)) (w : World) :
    (execOp f o).run Tryd.prog w = .ok (.value (.pointer (some ⟨b, off + k, none⟩))) w := by
  have k0 : (0 : Int) ≤ (k : Int) := by omega
  have k1 : (k : Int) < (n : Int) := by omega
  unfold execOp
  rw [ho]
  simp [go_sem, hx, hy, k0, k1, Addr.add_mid]
def clashB (b : By) (ls : List By) : Bool := ls.any fun p => decide (p ≠ b) && decide (dig p = dig b)
theorem clash_take (b : By) (ls : List By) (k : Nat) (hk : k < ls.length) : clashB b (ls.take (k + 1)) = (clashB b (ls.take k) || (decide (ls.getD k [] ≠ b) && decide (dig (ls.getD k []) = dig b))) := by
  have e : ls.take (k + 1) = ls.take k ++ [ls.getD k []] := by
    rw [List.take_add_one, List.getElem?_eq_getElem hk, List.getD_eq_getElem?_getD, List.getElem?_eq_getElem hk]; rfl
  unfold clashB
  rw [e, List.any_append, List.any_cons, List.any_nil, Bool.or_false]
theorem clash_at {b : By} {ls : List By} {k : Nat} (hk : k < ls.length) (h1 : ls.getD k [] ≠ b) (h2 : dig (ls.getD k []) = dig b) : clashB b ls = true := by
  unfold clashB
  rw [List.any_eq_true]
  refine ⟨ls.getD k [], ?_, by rw [decide_eq_true h1, decide_eq_true h2]; rfl⟩
  rw [List.getD_eq_getElem?_getD, List.getElem?_eq_getElem hk]
  exact List.getElem_mem hk
set_option maxRecDepth 100000 in
set_option maxHeartbeats 8000000 in
theorem clash17_any (vb vl : Value) (b : By) (ls : List By) (w : World) (hB : Reads w vb b) (hL : ReadsL w vl ls) (hb : b.length < 140737488355000) (hl : ∀ p ∈ ls, p.length < 140737488355000) (hn : ls.length < 1000000) :
    Calls Tryd.prog 15 #[vb, vl] w fun e w' => e = .returned (.bool (clashB b ls)) ∧ Below w.heap.size w w' := by
  have HB : Hid (∀ wx, Below w.heap.size w wx → Reads wx vb b) := fun wx hx => hB.below hx
  have HBL : Hid (b.length < 140737488355000) := hb
  have HLS : Hid (∀ p ∈ ls, p.length < 140737488355000) := hl
  obtain ⟨ad, cap, hv, _, _, hx⟩ := hL
  obtain ⟨n, HN⟩ : ∃ n, Hid (n = ls.length) := ⟨_, rfl⟩
  obtain ⟨ab, pb, hvb, _, _, _⟩ := id hB
  obtain ⟨nb, HNB⟩ : ∃ n, Hid (n = b.length) := ⟨_, rfl⟩
  rw [← HN.out] at hv
  rw [← HNB.out] at hvb
  subst hv hvb
  have HX : Hid (0 < ls.length → ∃ b off, ad = some ⟨b, off, none⟩ ∧ ∀ j, j < ls.length → ∃ vj, w.cell? ⟨b, off + j, none⟩ = some vj ∧ Reads w vj (ls.getD j [])) := hx
  have HNN : Hid (n < 1000000) := by show _ < _; rw [HN.out]; exact hn
  clear hx hB hb hl hn
  obtain ⟨r, HR⟩ : ∃ z, Hid (z = clashB b ls) := ⟨_, rfl⟩
  rw [← HR.out]
  obtain ⟨db, HDB⟩ : ∃ z, Hid (z = dig b) := ⟨_, rfl⟩
  have HDBL : Hid (db.length = 32) := by show _ = _; rw [HDB.out]; exact len_dig' _
  go_enter Tryd.func15, Tryd.ntmps15
  go_wp2
  go_loopw [5] (fun i wr => ∃ k : Nat, k ≤ n ∧ i = .int .i64 k ∧ Hid (clashB b (ls.take k) = false) ∧ Hid (Below w.heap.size w wr)) (fun i _ => n - (intOf i).toNat)
  case atStart => exact ⟨0, Nat.zero_le _, rfl, rfl, Below.refl _ _⟩
  case round =>
    obtain ⟨k, hk, rfl, HC, HBW⟩ := hrel
    by_cases hlt : k < n
    case pos =>
      have hlk : (k : Int) < (n : Int) := by omega
      have f7 : IntKind.i64.wrap ((k : Int) + 1) = (k : Int) + 1 := by rw [IntKind.wrap_i64]; have := HNN.out; omega
      have HKL : Hid (k < ls.length) := by show _ < _; rw [← HN.out]; exact hlt
      obtain ⟨bb, off, rfl, hat⟩ := HX.out (by have := HKL.out; omega)
      obtain ⟨vj, hc, hrj⟩ := hat k HKL.out
      obtain ⟨p, HP⟩ : ∃ z, Hid (z = ls.getD k []) := ⟨_, rfl⟩
      rw [← HP.out] at hrj
      obtain ⟨aj, cj, hvj, _, _, _⟩ := id hrj
      obtain ⟨nj, HNJ⟩ : ∃ z, Hid (z = p.length) := ⟨_, rfl⟩
      rw [← HNJ.out] at hvj
      subst hvj
      have HPL : Hid (p.length < 140737488355000) := HLS.out p (by rw [HP.out, List.getD_eq_getElem?_getD, List.getElem?_eq_getElem HKL.out]; exact List.getElem_mem HKL.out)
      have HCE : Hid (∀ wx, Below w.heap.size w wx → wx.cell? ⟨bb, off + k, none⟩ = some (.slice aj nj cj)) := fun wx hx => by rw [hx.cell (p := ⟨bb, off + k, none⟩) (block_lt_of_cell hc)]; exact hc
      have HRJ : Hid (∀ wx, Below w.heap.size w wx → Reads wx (.slice aj nj cj) p) := fun wx hx => hrj.below hx
      obtain ⟨c2, HC2⟩ : ∃ z, Hid (z = decide (p ≠ b)) := ⟨_, rfl⟩
      have HEQ : Hid ((!((strB p).toList == (strB b).toList)) = c2) := by show _ = _; rw [strB_inj, HC2.out]; by_cases h : p = b <;> simp [h]
      have HCT : Hid (clashB b (ls.take (k + 1)) = (c2 && decide (dig p = dig b))) := by show _ = _; rw [clash_take b ls k HKL.out, HC.out, ← HP.out, ← HC2.out, Bool.false_or]
      clear hat hc hrj HX
      cases c2 with
      | false =>
        have HJ : Hid (clashB b (ls.take (k + 1)) = false) := by show _ = _; rw [HCT.out]; rfl
        go_wp2_with fail
        refine wp_region_held_drew (S := Below w.heap.size w) (by kernel_rfl) HBW.out.drew ?_
        intro hS
        have HBD : Hid (Below w.heap.size w wr.drew) := HBW.out.drew
        change wpAnyH _ _ _ _ _ _ _ _ (World.drew wr)
        generalize World.drew wr = y at *
        refine wpAnyH_take (i := 0) (v := .slice (some ⟨bb, off, none⟩) n cap) rfl (by kernel_rfl) (by kernel_rfl) (by kernel_rfl) (fun _ _ _ h => h) (Or.inl ⟨by rfl, fun wx hx => by simp [go_sem]⟩) hS ?_
        simp only [Act.put, List.getElem_toArray, List.getElem_cons_zero, List.setIfInBounds_toArray, List.set_cons_zero, List.set_cons_succ]
        refine wpAnyH_take (i := 1) (v := .int .i64 (k : Int)) rfl (by kernel_rfl) (by kernel_rfl) (by kernel_rfl) (fun _ _ _ h => h) (Or.inl ⟨by rfl, fun wx hx => by simp [go_sem]⟩) hS ?_
        simp only [Act.put, List.getElem_toArray, List.getElem_cons_succ, List.getElem_cons_zero, List.setIfInBounds_toArray, List.set_cons_zero, List.set_cons_succ]
        refine wpAnyH_take (i := 2) (v := .pointer (some ⟨bb, off + k, none⟩)) rfl (by kernel_rfl) (by kernel_rfl) (by kernel_rfl) (fun _ _ _ h => h) (Or.inl ⟨by rfl, fun wx hx => by exact idxQ bb off n cap k hlt _ _ _ _ rfl rfl rfl _⟩) hS ?_
        simp only [Act.put, List.getElem_toArray, List.getElem_cons_succ, List.getElem_cons_zero, List.setIfInBounds_toArray, List.set_cons_zero, List.set_cons_succ]
        refine wpAnyH_take (i := 3) (v := .slice aj nj cj) rfl (by kernel_rfl) (by kernel_rfl) (by kernel_rfl) (fun _ _ _ h => h) (Or.inl ⟨by rfl, fun wx hx => by (have hc := HCE.out wx hx; simp [go_sem, hc])⟩) hS ?_
        simp only [Act.put, List.getElem_toArray, List.getElem_cons_succ, List.getElem_cons_zero, List.setIfInBounds_toArray, List.set_cons_zero, List.set_cons_succ]
        refine wpAnyH_take (i := 4) (v := .string (strB p)) rfl (by kernel_rfl) (by kernel_rfl) (by kernel_rfl) (fun _ _ _ h => h) (Or.inl ⟨by rfl, fun wx hx => by (have hc := conv_reads (HRJ.out wx hx); simp [go_sem, hc])⟩) hS ?_
        simp only [Act.put, List.getElem_toArray, List.getElem_cons_succ, List.getElem_cons_zero, List.setIfInBounds_toArray, List.set_cons_zero, List.set_cons_succ]
        refine wpAnyH_take (i := 5) (v := .slice ab nb pb) rfl (by kernel_rfl) (by kernel_rfl) (by kernel_rfl) (fun _ _ _ h => h) (Or.inl ⟨by rfl, fun wx hx => by simp [go_sem]⟩) hS ?_
        simp only [Act.put, List.getElem_toArray, List.getElem_cons_succ, List.getElem_cons_zero, List.setIfInBounds_toArray, List.set_cons_zero, List.set_cons_succ]
        refine wpAnyH_take (i := 6) (v := .string (strB b)) rfl (by kernel_rfl) (by kernel_rfl) (by kernel_rfl) (fun _ _ _ h => h) (Or.inl ⟨by rfl, fun wx hx => by (have hc := conv_reads (HB.out wx hx); simp [go_sem, hc])⟩) hS ?_
        simp only [Act.put, List.getElem_toArray, List.getElem_cons_succ, List.getElem_cons_zero, List.setIfInBounds_toArray, List.set_cons_zero, List.set_cons_succ]
        refine wpAnyH_take (i := 7) (v := .bool false) rfl (by kernel_rfl) (by kernel_rfl) (by kernel_rfl) (fun _ _ _ h => h) (Or.inl ⟨by rfl, fun wx hx => by (have hs := HEQ.out; simpa [go_sem] using hs)⟩) hS ?_
        simp only [Act.put, List.getElem_toArray, List.getElem_cons_succ, List.getElem_cons_zero, List.setIfInBounds_toArray, List.set_cons_zero, List.set_cons_succ]
        refine wpAnyH_take (i := 8) (v := .bool false) rfl (by kernel_rfl) (by kernel_rfl) (by kernel_rfl) (fun _ _ _ h => h) (Or.inl ⟨by rfl, fun wx hx => by simp [go_sem]⟩) hS ?_
        simp only [Act.put, List.getElem_toArray, List.getElem_cons_succ, List.getElem_cons_zero, List.setIfInBounds_toArray, List.set_cons_zero, List.set_cons_succ]
        refine wpAnyH_take (i := 9) (v := undef) rfl (by kernel_rfl) (by kernel_rfl) (by kernel_rfl) (fun _ _ _ h => h) (Or.inr ⟨by rfl, rfl⟩) hS ?_
        simp only [Act.put, List.getElem_toArray, List.getElem_cons_succ, List.getElem_cons_zero, List.setIfInBounds_toArray, List.set_cons_zero, List.set_cons_succ]
        refine wpAnyH_take (i := 10) (v := undef) rfl (by kernel_rfl) (by kernel_rfl) (by kernel_rfl) (fun _ _ _ h => h) (Or.inr ⟨by rfl, rfl⟩) hS ?_
        simp only [Act.put, List.getElem_toArray, List.getElem_cons_succ, List.getElem_cons_zero, List.setIfInBounds_toArray, List.set_cons_zero, List.set_cons_succ]
        refine wpAnyH_take (i := 11) (v := undef) rfl (by kernel_rfl) (by kernel_rfl) (by kernel_rfl) (fun _ _ _ h => h) (Or.inr ⟨by rfl, rfl⟩) hS ?_
        simp only [Act.put, List.getElem_toArray, List.getElem_cons_succ, List.getElem_cons_zero, List.setIfInBounds_toArray, List.set_cons_zero, List.set_cons_succ]
        refine wpAnyH_take (i := 12) (v := undef) rfl (by kernel_rfl) (by kernel_rfl) (by kernel_rfl) (fun _ _ _ h => h) (Or.inr ⟨by rfl, rfl⟩) hS ?_
        simp only [Act.put, List.getElem_toArray, List.getElem_cons_succ, List.getElem_cons_zero, List.setIfInBounds_toArray, List.set_cons_zero, List.set_cons_succ]
        refine wpAnyH_take (i := 13) (v := undef) rfl (by kernel_rfl) (by kernel_rfl) (by kernel_rfl) (fun _ _ _ h => h) (Or.inr ⟨by rfl, rfl⟩) hS ?_
        simp only [Act.put, List.getElem_toArray, List.getElem_cons_succ, List.getElem_cons_zero, List.setIfInBounds_toArray, List.set_cons_zero, List.set_cons_succ]
        refine wpAnyH_take (i := 14) (v := undef) rfl (by kernel_rfl) (by kernel_rfl) (by kernel_rfl) (fun _ _ _ h => h) (Or.inr ⟨by rfl, rfl⟩) hS ?_
        simp only [Act.put, List.getElem_toArray, List.getElem_cons_succ, List.getElem_cons_zero, List.setIfInBounds_toArray, List.set_cons_zero, List.set_cons_succ]
        refine wpAnyH_take (i := 15) (v := undef) rfl (by kernel_rfl) (by kernel_rfl) (by kernel_rfl) (fun _ _ _ h => h) (Or.inr ⟨by rfl, rfl⟩) hS ?_
        simp only [Act.put, List.getElem_toArray, List.getElem_cons_succ, List.getElem_cons_zero, List.setIfInBounds_toArray, List.set_cons_zero, List.set_cons_succ]
        refine wpAnyH_take (i := 16) (v := undef) rfl (by kernel_rfl) (by kernel_rfl) (by kernel_rfl) (fun _ _ _ h => h) (Or.inr ⟨by rfl, rfl⟩) hS ?_
        simp only [Act.put, List.getElem_toArray, List.getElem_cons_succ, List.getElem_cons_zero, List.setIfInBounds_toArray, List.set_cons_zero, List.set_cons_succ]
        refine wpAnyH_take (i := 17) (v := .bool false) rfl (by kernel_rfl) (by kernel_rfl) (by kernel_rfl) (fun _ _ _ h => h) (Or.inl ⟨by rfl, fun wx hx => by simp [go_sem]⟩) hS ?_
        simp only [Act.put, List.getElem_toArray, List.getElem_cons_succ, List.getElem_cons_zero, List.setIfInBounds_toArray, List.set_cons_zero, List.set_cons_succ]
        refine wpAnyH_done (by kernel_rfl) ?_ _
        clear hS
        go_wp2
        go_roundw
        case rel => exact ⟨k + 1, by omega, by simp, HJ, HBD⟩
        case measure => simp [intOf]; omega
      | true =>
        obtain ⟨dp, HDP⟩ : ∃ z, Hid (z = dig p) := ⟨_, rfl⟩
        have HDPL : Hid (dp.length = 32) := by show _ = _; rw [HDP.out]; exact len_dig' _
        have HNE : Hid (p ≠ b) := by show p ≠ b; exact of_decide_eq_true HC2.out.symm
        obtain ⟨o, HO⟩ : ∃ z, Hid (z = decide (dp = db)) := ⟨_, rfl⟩
        have qq : ∀ wx : World, (Op.equalIn 10000 28 (.agg (cb dp).toArray) (.agg (cb db).toArray)).run Tryd.prog wx = .ok o wx := fun wx => by rw [HO.out]; exact eq_dig dp db HDPL.out HDBL.out wx
        have HJ : Hid (clashB b (ls.take (k + 1)) = o) := by show _ = _; rw [HCT.out, HO.out, HDP.out, HDB.out, Bool.true_and]
        have HT : Hid (o = true → r = true) := fun h => by rw [HR.out]; rw [HO.out] at h; have h2 := of_decide_eq_true h; rw [HDP.out, HDB.out] at h2; exact clash_at HKL.out (by rw [← HP.out]; exact HNE.out) (by rw [← HP.out]; exact h2)
        go_wp2_with fail
        refine wp_region_held_drew (S := Below w.heap.size w) (by kernel_rfl) HBW.out.drew ?_
        intro hS
        change wpAnyH _ _ _ _ _ _ _ _ (World.drew wr)
        generalize World.drew wr = y at *
        refine wpAnyH_take (i := 0) (v := .slice (some ⟨bb, off, none⟩) n cap) rfl (by kernel_rfl) (by kernel_rfl) (by kernel_rfl) (fun _ _ _ h => h) (Or.inl ⟨by rfl, fun wx hx => by simp [go_sem]⟩) hS ?_
        simp only [Act.put, List.getElem_toArray, List.getElem_cons_zero, List.setIfInBounds_toArray, List.set_cons_zero, List.set_cons_succ]
        refine wpAnyH_take (i := 1) (v := .int .i64 (k : Int)) rfl (by kernel_rfl) (by kernel_rfl) (by kernel_rfl) (fun _ _ _ h => h) (Or.inl ⟨by rfl, fun wx hx => by simp [go_sem]⟩) hS ?_
        simp only [Act.put, List.getElem_toArray, List.getElem_cons_succ, List.getElem_cons_zero, List.setIfInBounds_toArray, List.set_cons_zero, List.set_cons_succ]
        refine wpAnyH_take (i := 2) (v := .pointer (some ⟨bb, off + k, none⟩)) rfl (by kernel_rfl) (by kernel_rfl) (by kernel_rfl) (fun _ _ _ h => h) (Or.inl ⟨by rfl, fun wx hx => by exact idxQ bb off n cap k hlt _ _ _ _ rfl rfl rfl _⟩) hS ?_
        simp only [Act.put, List.getElem_toArray, List.getElem_cons_succ, List.getElem_cons_zero, List.setIfInBounds_toArray, List.set_cons_zero, List.set_cons_succ]
        refine wpAnyH_take (i := 3) (v := .slice aj nj cj) rfl (by kernel_rfl) (by kernel_rfl) (by kernel_rfl) (fun _ _ _ h => h) (Or.inl ⟨by rfl, fun wx hx => by (have hc := HCE.out wx hx; simp [go_sem, hc])⟩) hS ?_
        simp only [Act.put, List.getElem_toArray, List.getElem_cons_succ, List.getElem_cons_zero, List.setIfInBounds_toArray, List.set_cons_zero, List.set_cons_succ]
        refine wpAnyH_take (i := 4) (v := .string (strB p)) rfl (by kernel_rfl) (by kernel_rfl) (by kernel_rfl) (fun _ _ _ h => h) (Or.inl ⟨by rfl, fun wx hx => by (have hc := conv_reads (HRJ.out wx hx); simp [go_sem, hc])⟩) hS ?_
        simp only [Act.put, List.getElem_toArray, List.getElem_cons_succ, List.getElem_cons_zero, List.setIfInBounds_toArray, List.set_cons_zero, List.set_cons_succ]
        refine wpAnyH_take (i := 5) (v := .slice ab nb pb) rfl (by kernel_rfl) (by kernel_rfl) (by kernel_rfl) (fun _ _ _ h => h) (Or.inl ⟨by rfl, fun wx hx => by simp [go_sem]⟩) hS ?_
        simp only [Act.put, List.getElem_toArray, List.getElem_cons_succ, List.getElem_cons_zero, List.setIfInBounds_toArray, List.set_cons_zero, List.set_cons_succ]
        refine wpAnyH_take (i := 6) (v := .string (strB b)) rfl (by kernel_rfl) (by kernel_rfl) (by kernel_rfl) (fun _ _ _ h => h) (Or.inl ⟨by rfl, fun wx hx => by (have hc := conv_reads (HB.out wx hx); simp [go_sem, hc])⟩) hS ?_
        simp only [Act.put, List.getElem_toArray, List.getElem_cons_succ, List.getElem_cons_zero, List.setIfInBounds_toArray, List.set_cons_zero, List.set_cons_succ]
        refine wpAnyH_take (i := 7) (v := .bool true) rfl (by kernel_rfl) (by kernel_rfl) (by kernel_rfl) (fun _ _ _ h => h) (Or.inl ⟨by rfl, fun wx hx => by (have hs := HEQ.out; simpa [go_sem] using hs)⟩) hS ?_
        simp only [Act.put, List.getElem_toArray, List.getElem_cons_succ, List.getElem_cons_zero, List.setIfInBounds_toArray, List.set_cons_zero, List.set_cons_succ]
        refine wpAnyH_take (i := 8) (v := .bool true) rfl (by kernel_rfl) (by kernel_rfl) (by kernel_rfl) (fun _ _ _ h => h) (Or.inl ⟨by rfl, fun wx hx => by simp [go_sem]⟩) hS ?_
        simp only [Act.put, List.getElem_toArray, List.getElem_cons_succ, List.getElem_cons_zero, List.setIfInBounds_toArray, List.set_cons_zero, List.set_cons_succ]
        refine wpAnyH_take (i := 9) (v := .slice (some ⟨bb, off, none⟩) n cap) rfl (by kernel_rfl) (by kernel_rfl) (by kernel_rfl) (fun _ _ _ h => h) (Or.inl ⟨by rfl, fun wx hx => by simp [go_sem]⟩) hS ?_
        simp only [Act.put, List.getElem_toArray, List.getElem_cons_succ, List.getElem_cons_zero, List.setIfInBounds_toArray, List.set_cons_zero, List.set_cons_succ]
        refine wpAnyH_take (i := 10) (v := .int .i64 (k : Int)) rfl (by kernel_rfl) (by kernel_rfl) (by kernel_rfl) (fun _ _ _ h => h) (Or.inl ⟨by rfl, fun wx hx => by simp [go_sem]⟩) hS ?_
        simp only [Act.put, List.getElem_toArray, List.getElem_cons_succ, List.getElem_cons_zero, List.setIfInBounds_toArray, List.set_cons_zero, List.set_cons_succ]
        refine wpAnyH_take (i := 11) (v := .pointer (some ⟨bb, off + k, none⟩)) rfl (by kernel_rfl) (by kernel_rfl) (by kernel_rfl) (fun _ _ _ h => h) (Or.inl ⟨by rfl, fun wx hx => by exact idxQ bb off n cap k hlt _ _ _ _ rfl rfl rfl _⟩) hS ?_
        simp only [Act.put, List.getElem_toArray, List.getElem_cons_succ, List.getElem_cons_zero, List.setIfInBounds_toArray, List.set_cons_zero, List.set_cons_succ]
        refine wpAnyH_take (i := 12) (v := .slice aj nj cj) rfl (by kernel_rfl) (by kernel_rfl) (by kernel_rfl) (fun _ _ _ h => h) (Or.inl ⟨by rfl, fun wx hx => by (have hc := HCE.out wx hx; simp [go_sem, hc])⟩) hS ?_
        simp only [Act.put, List.getElem_toArray, List.getElem_cons_succ, List.getElem_cons_zero, List.setIfInBounds_toArray, List.set_cons_zero, List.set_cons_succ]
        refine wpAnyH_take (i := 14) (v := .slice ab nb pb) rfl (by kernel_rfl) (by kernel_rfl) (by kernel_rfl) (fun _ _ _ h => h) (Or.inl ⟨by rfl, fun wx hx => by simp [go_sem]⟩) hS ?_
        simp only [Act.put, List.getElem_toArray, List.getElem_cons_succ, List.getElem_cons_zero, List.setIfInBounds_toArray, List.set_cons_zero, List.set_cons_succ]
        refine wpAnyH_enter 13 (by kernel_rfl) rfl (by rfl) (f := 26) (args := #[.slice aj nj cj]) (by simp [go_sem]) (rOf_big _ p y (HRJ.out y hS) HPL.out) ?_
        rintro e y1 ⟨rfl, hb⟩
        rw [← HDP.out]
        have hS2 : Below w.heap.size w y1 := hS.trans (hb.mono hS.size)
        refine ⟨_, rfl, hS2, ?_⟩
        simp only [Act.put, List.getElem_toArray, List.getElem_cons_succ, List.getElem_cons_zero, List.setIfInBounds_toArray, List.set_cons_zero, List.set_cons_succ]
        clear hS hb
        have hS := hS2
        clear hS2
        refine wpAnyH_enter 15 (by kernel_rfl) rfl (by rfl) (f := 26) (args := #[.slice ab nb pb]) (by simp [go_sem]) (rOf_big _ b y1 (HB.out y1 hS) HBL.out) ?_
        rintro e y2 ⟨rfl, hb⟩
        rw [← HDB.out]
        have hS2 : Below w.heap.size w y2 := hS.trans (hb.mono hS.size)
        refine ⟨_, rfl, hS2, ?_⟩
        simp only [Act.put, List.getElem_toArray, List.getElem_cons_succ, List.getElem_cons_zero, List.setIfInBounds_toArray, List.set_cons_zero, List.set_cons_succ]
        clear hS hb
        have hS := hS2
        clear hS2
        refine wpAnyH_take (i := 16) (v := .bool o) rfl (by kernel_rfl) (by kernel_rfl) (by kernel_rfl) (fun _ _ _ h => h) (Or.inl ⟨by rfl, fun wx hx => by simp [go_sem, qq]⟩) hS ?_
        simp only [Act.put, List.getElem_toArray, List.getElem_cons_succ, List.getElem_cons_zero, List.setIfInBounds_toArray, List.set_cons_zero, List.set_cons_succ]
        refine wpAnyH_take (i := 17) (v := .bool o) rfl (by kernel_rfl) (by kernel_rfl) (by kernel_rfl) (fun _ _ _ h => h) (Or.inl ⟨by rfl, fun wx hx => by simp [go_sem]⟩) hS ?_
        simp only [Act.put, List.getElem_toArray, List.getElem_cons_succ, List.getElem_cons_zero, List.setIfInBounds_toArray, List.set_cons_zero, List.set_cons_succ]
        refine wpAnyH_done (by kernel_rfl) ?_ _
        have HBD : Hid (Below w.heap.size w y2) := hS
        clear hS qq
        cases o with
        | true =>
          go_wp2
          go_ret
          exact ⟨by rw [HT.out trivial]; rfl, HBD.out⟩
        | false =>
          go_wp2
          go_roundw
          case rel => exact ⟨k + 1, by omega, by simp, HJ, HBD⟩
          case measure => simp [intOf]; omega
    case neg =>
      have hke : k = n := by omega
      have HF : Hid (r = false) := by show _ = _; rw [HR.out, ← HC.out, hke, HN.out, List.take_length]
      subst hke
      go_wp2
      go_ret
      exact ⟨by rw [HF.out]; rfl, HBW.out⟩
end Go.Proofs.YtphmmnffgknkcaaDoor
/- Rows of slices that grow by several (layer 17). -/
namespace Go.Proofs.YtphmmnffgknkcaaDoor
open Go.RowKit
set_option maxRecDepth 100000
/-- a new block -/
structure NewR (cs : List Value) (t : TypeId) (w : World) (g : Nat) (w' : World) : Prop where
  ge : w.heap.size ≤ g
  blk : Blk w' g cs t
  below : Below w.heap.size w w'
theorem NewR.of (cs : List Value) (t : TypeId) (w : World) : NewR cs t w w.heap.size (w.alloc (.cells cs.toArray t)) := ⟨Nat.le_refl _, Blk.new w cs t, below_alloc w _⟩
theorem wpSeq_boxW {ops : Array Oper} {Q : Exit → Act → World → Prop} {rest : List Oper} {o : Oper} {a : Act} {w : World} (ty : TypeId) (x : Operand) (cs : List Value) (ho : o.op = .box ty x) (hx : a.eval x = .agg cs.toArray) (hw : Region.wanted o (yielded ops a.tmps) = true)
    (h : ∀ g w', NewR cs ty w g w' → wpList Tryd.prog ops Q rest (a.put o.dst (.pointer (some ⟨g, 0, none⟩))) w') : wpList Tryd.prog ops Q (o :: rest) a w :=
  wpSeq_box ty x ho cs hx hw _ rfl (h _ _ (NewR.of cs ty w))
/-- a row stored whole -/
structure SetR (cs : List Value) (t : TypeId) (w : World) (g : Nat) (w' : World) : Prop where
  blk : Blk w' g cs t
  only : Only g w w'
theorem SetR.of {cs ns : List Value} {t : TypeId} {w : World} {g : Nat} (hb : Blk w g cs t) (hl : ns.length = cs.length) : SetR ns t w g (w.setCells g 0 ns) := ⟨hb.whole ns hl, Only.setCells _ _ _ (Only.refl g w)⟩
theorem wpSeq_storeRow {ops : Array Oper} {Q : Exit → Act → World → Prop} {rest : List Oper} {o : Oper} {a : Act} {w : World} (ty : TypeId) (x y : Operand) (g : Nat) (cs ns : List Value) (hb : Blk w g cs ty) (hl : ns.length = cs.length) (hi : (Tryd.prog.info? ty).map (·.size) = some ns.length) (h1 : ∀ v ∈ ns, v.oneCell' = true)
    (ho : o.op = .store ty x y) (hx : a.eval x = .pointer (some ⟨g, 0, none⟩)) (hy : a.eval y = .agg ns.toArray) (hgd : o.guard = none)
    (h : ∀ w', SetR ns ty w g w' → wpList Tryd.prog ops Q rest (a.put o.dst undef) w') : wpList Tryd.prog ops Q (o :: rest) a w :=
  wpList_store_mid hgd ty x y ho g 0 _ hx hy (hb.there 0 _ (by rw [List.size_toArray, hl]; omega)) (by rw [List.size_toArray]; exact hi) (all_oneCell_toArray h1)
    (by rw [List.toList_toArray]; exact h _ (SetR.of hb hl))
/-- a row loaded whole, from wherever it lies -/
theorem wpSeq_loadW {ops : Array Oper} {Q : Exit → Act → World → Prop} {rest : List Oper} {o : Oper} {a : Act} {w : World} (ty : TypeId) (x : Operand) (b off : Nat) (cs : List Value) (d : TypeDesc) (hb : w.rangeAt b off cs) (hu : Tryd.prog.underlying ty = some d) (hd : d.isRow = true) (hi : (Tryd.prog.info? ty).map (·.size) = some cs.length) (ho : o.op = .load ty x) (hx : a.eval x = .pointer (some ⟨b, off, none⟩)) (hw : Region.wanted o (yielded ops a.tmps) = true)
    (h : wpList Tryd.prog ops Q rest (a.put o.dst (.agg cs.toArray)) w) : wpList Tryd.prog ops Q (o :: rest) a w :=
  wpSeq_val _ _ hw (load_run ty x ho b off hx cs d hb hu hd hi) h
/-- several slices behind a list of slices -/
theorem wpSeq_appXs {ops : Array Oper} {Q : Exit → Act → World → Prop} {rest : List Oper} {o : Oper} {a : Act} {w : World} (s x : Operand) (base : Nat) (v : Value) (us us2 : List Value) (b off n c : Nat)
    (hown : OwnX w base v us) (hn : us2.length = n) (hnc : n ≤ c) (hc : ∀ j u, us2[j]? = some u → w.cell? ⟨b, off + j, none⟩ = some u) (h1 : ∀ u ∈ us2, u.oneCell' = true) (hlen : us.length + n ≤ 1000000) (hbase : base ≤ w.heap.size)
    (ho : o.op = .call { callee := .builtin .append, args := #[s, x], argTypes := #[29, 29] }) (hs : a.eval s = v) (hx : a.eval x = .slice (some ⟨b, off, none⟩) n c) (hgd : o.guard = none)
    (h : ∀ v' w', OwnX w' base v' (us ++ us2) → GrV w v w' v' → wpList Tryd.prog ops Q rest (a.put o.dst v') w') : wpList Tryd.prog ops Q (o :: rest) a w := by
  obtain ⟨i0, hi, hz0, hz1, hz2⟩ := info_parts Tryd.infobsP
  subst hn
  refine wpList_append_own_at (P := Tryd.prog) w hgd s x 29 ho base 37 i0 (.slice none 0 0) 1 24 Tryd.underlying29 hi hz0 hz1 hz2 rfl (by decide) v us.length us hs hown ⟨b, off, none⟩ us2.length c us2 hx (by omega) (fun j q hj => by rw [Addr.add_mid]; exact hc j q hj) h1 (by unfold maxLen; omega) (by omega) hbase ?_
  intro v' w' h2 h3 _ h5
  refine h v' w' ?_ ⟨mut_grown h3, fun k hk => ?_⟩
  · unfold OwnX; rw [List.length_append]; exact h2
  · rcases h5 with h5 | h5
    · exact Or.inl (h5 ▸ hk)
    · rw [h5] at hk; cases hk; exact Or.inr (Nat.le_refl _)
theorem reads_one {w : World} {v : Value} {l : By} (h : Reads w v l) : v.oneCell' = true := by
  obtain ⟨ad, c, rfl, _⟩ := h
  rfl
/-- several pages more -/
theorem PgS.mores {W W' : World} {base : Nat} {v v' : Value} {us us2 : List Value} {ps ps2 : List By} {X : Nat → Prop} (h : PgS W base v us ps X) (ho : OwnX W' base v' (us ++ us2)) (hg : GrV W v W' v') (h2 : us2.length = ps2.length) (hu : ∀ j u, us2[j]? = some u → Reads W u (ps2.getD j []) ∧ ∀ k, u.ownBlock = some k → k < W.heap.size ∧ v.ownBlock ≠ some k ∧ ¬ X k) : PgS W' base v' (us ++ us2) (ps ++ ps2) X := by
  have key : ∀ {x : Value} {q : By}, Reads W x q → (∀ k, x.ownBlock = some k → k < W.heap.size ∧ v.ownBlock ≠ some k ∧ ¬ X k) → Reads W' x q ∧ ∀ k, x.ownBlock = some k → k < W'.heap.size ∧ v'.ownBlock ≠ some k ∧ ¬ X k := fun hr hx =>
    ⟨hr.sameP fun k e => hg.other (hx k e).1 (hx k e).2.1, fun k e => ⟨Nat.lt_of_lt_of_le (hx k e).1 hg.mt.size, fun e2 => by
      rcases hg.lies k e2 with e3 | e3
      · exact (hx k e).2.1 e3
      · have := (hx k e).1; omega, (hx k e).2.2⟩⟩
  refine ⟨ho, by rw [List.length_append, List.length_append, h.len, h2], fun j x hj => ?_⟩
  rcases Nat.lt_or_ge j us.length with hl | hl
  · rw [List.getElem?_append_left hl] at hj
    have hp : (ps ++ ps2).getD j [] = ps.getD j [] := by
      rw [List.getD_eq_getElem?_getD, List.getD_eq_getElem?_getD, List.getElem?_append_left (by rw [← h.len]; exact hl)]
    rw [hp]
    exact key (h.good j x hj).1 (h.good j x hj).2
  · rw [List.getElem?_append_right hl] at hj
    have hp : (ps ++ ps2).getD j [] = ps2.getD (j - us.length) [] := by
      rw [List.getD_eq_getElem?_getD, List.getD_eq_getElem?_getD, List.getElem?_append_right (by rw [← h.len]; exact hl), ← h.len]
    rw [hp]
    exact key (hu _ x hj).1 (hu _ x hj).2
/-- the cells of an own row -/
theorem PgS.row {W : World} {base : Nat} {v : Value} {us : List Value} {ps : List By} {X : Nat → Prop} (h : PgS W base v us ps X) (hp : 0 < ps.length) : ∃ g c, v = .slice (some ⟨g, 0, none⟩) us.length c ∧ us.length ≤ c ∧ (∀ j u, us[j]? = some u → W.cell? ⟨g, 0 + j, none⟩ = some u) ∧ ∀ u ∈ us, u.oneCell' = true := by
  have hl := h.len
  rcases h.own with ⟨_, ⟨e1, h2⟩ | ⟨g, cap, cur, e1, hg, hh, hc, hm, hs, ht⟩⟩
  · omega
  refine ⟨g, cap, e1, hc, fun j u hj => ?_, fun u hu => ?_⟩
  · obtain ⟨g2, c2, e2, hc2, _⟩ := h.own.at hj
    rw [e1] at e2
    cases e2
    rw [Nat.zero_add]; exact hc2
  · obtain ⟨j, hj, rfl⟩ := List.mem_iff_getElem.1 hu
    exact reads_one (h.good j _ (List.getElem?_eq_getElem hj)).1
theorem blk_own_x {w : World} {g base : Nat} {u : Value} (h : Blk w g [u] 37) (hb : base ≤ g) : OwnX w base (.slice (some ⟨g, 0, none⟩) 1 1) [u] :=
  ⟨rfl, Or.inr ⟨g, 1, [u].toArray, rfl, hb, h, Nat.le_refl _, by unfold maxLen; omega, rfl, by simp⟩⟩
end Go.Proofs.YtphmmnffgknkcaaDoor
/- The walk of blazonref17.Save (layer 17). -/
namespace Go.Proofs.YtphmmnffgknkcaaDoor
open Go.RowKit
set_option maxRecDepth 100000
def svB (d : Nat) (l : List Lf) : Nat → By
  | 0 => [2]
  | 1 => 2 :: sidePg (d + 1) (halfL l d false)
  | _ => 2 :: (sidePg (d + 1) (halfL l d false) ++ sidePg (d + 1) (halfL l d true))
def svP (d : Nat) (l : List Lf) : Nat → List By
  | 0 => []
  | 1 => restPg (d + 1) (halfL l d false)
  | _ => restPg (d + 1) (halfL l d false) ++ restPg (d + 1) (halfL l d true)
theorem sv_next (d : Nat) (l : List Lf) (k : Nat) (hk : k < 2) : svB d l (k + 1) = svB d l k ++ sidePg (d + 1) (halfL l d (decide (k = 1))) ∧ svP d l (k + 1) = svP d l k ++ restPg (d + 1) (halfL l d (decide (k = 1))) := by
  match k, hk with
  | 0, _ => exact ⟨rfl, (List.nil_append _).symm⟩
  | 1, _ => exact ⟨rfl, rfl⟩
theorem sv_len {d : Nat} {l : List Lf} (hF : Fits l d) (k : Nat) : (svB d l k).length ≤ 131 := by
  have h0 := (side_len (d := d + 1) (hF.half false).1).2
  have h1 := (side_len (d := d + 1) (hF.half true).1).2
  match k with
  | 0 => simp [svB]
  | 1 => simp only [svB, List.length_cons]; omega
  | _ + 2 => simp only [svB, List.length_cons, List.length_append]; omega
theorem sv_count {d : Nat} {l : List Lf} (hF : Fits l d) (hd : d < 256) (hl : l.length ≤ 100) (b : Bool) : (restPg (d + 1) (halfL l d b)).length ≤ 25601 := by
  unfold restPg
  split
  · simp
  · have h := save_count (256 - (d + 1)) (d + 1) _ (by omega) (hF.half b)
    have h2 := half_le l d b
    have h3 : (256 - (d + 1)) * (halfL l d b).length ≤ 256 * 100 := Nat.mul_le_mul (by omega) (by omega)
    omega
theorem sv_most {d : Nat} {l : List Lf} (hF : Fits l d) (hd : d < 256) (hl : l.length ≤ 100) (k : Nat) : (svP d l k).length ≤ 51202 := by
  have h0 := sv_count hF hd hl false
  have h1 := sv_count hF hd hl true
  match k with
  | 0 => simp [svP]
  | 1 => simp only [svP]; omega
  | _ + 2 => simp only [svP, List.length_append]; omega
/-- where a tree's piece is too long, one of its sides is linked -/
theorem sv_some {d : Nat} {l : List Lf} (hF : Fits l d) (h : 512 < (wholeL d l).length) : 0 < (svP d l 2).length := by
  have h2 := long_two hF h
  rcases Nat.lt_or_ge (halfL l d false).length 2 with ha | ha
  · rcases Nat.lt_or_ge (halfL l d true).length 2 with hb | hb
    · rw [whole_two h2.2 h2.1, List.length_cons, List.length_append, whole_few ha, whole_few hb, one_le (hF.half false).1 ha, one_le (hF.half true).1 hb] at h
      omega
    · have : 0 < (restPg (d + 1) (halfL l d true)).length := by unfold restPg; rw [if_neg (by omega), save_top]; simp
      simp only [svP, List.length_append]; omega
  · have : 0 < (restPg (d + 1) (halfL l d false)).length := by unfold restPg; rw [if_neg (by omega), save_top]; simp
    simp only [svP, List.length_append]; omega
structure SvI (w1 : World) (B : Nat) (vb vr : Value) (usr : List Value) (bs : By) (psr : List By) (W : World) : Prop where
  bl : Below B w1 W
  le : B ≤ W.heap.size
  b : OwnB W B vb bs
  r : PgS W B vr usr psr (fun k => k < B ∨ vb.ownBlock = some k)
theorem SvI.next {w1 W W' : World} {B : Nat} {vb vr : Value} {usr : List Value} {bs : By} {psr : List By} (h : SvI w1 B vb vr usr bs psr W) (hb : Below W.heap.size W W') : SvI w1 B vb vr usr bs psr W' :=
  ⟨h.bl.trans (hb.mono h.le), Nat.le_trans h.le hb.size, h.b.next hb, h.r.next hb⟩
theorem SvI.appB {w1 W W' : World} {B : Nat} {vb vb' vr : Value} {usr : List Value} {bs bs' : By} {psr : List By} (h : SvI w1 B vb vr usr bs psr W) (ho : OwnB W' B vb' bs') (hg : GrV W vb W' vb') : SvI w1 B vb' vr usr bs' psr W' :=
  ⟨h.bl.trans (hg.below h.le fun k hk => (h.b.ltP k hk).1), Nat.le_trans h.le hg.mt.size, ho, h.r.beside h.b hg⟩
theorem SvI.appR {w1 W W' : World} {B : Nat} {vb vr vr' : Value} {usr us2 : List Value} {bs : By} {psr ps2 : List By} (h : SvI w1 B vb vr usr bs psr W) (ho : OwnX W' B vr' (usr ++ us2)) (hg : GrV W vr W' vr') (h2 : us2.length = ps2.length) (hu : ∀ j u, us2[j]? = some u → Reads W u (ps2.getD j []) ∧ ∀ k, u.ownBlock = some k → k < W.heap.size ∧ vr.ownBlock ≠ some k ∧ ¬ (k < B ∨ vb.ownBlock = some k)) : SvI w1 B vb vr' (usr ++ us2) bs (psr ++ ps2) W' :=
  ⟨h.bl.trans (hg.below h.le fun k hk => (h.r.own.lt k hk).1), Nat.le_trans h.le hg.mt.size, h.b.sameP fun k hk => hg.other (h.b.ltP k hk).2 (fun e => h.r.own.ne_bytes h.b k e hk), h.r.mores ho hg h2 hu⟩
/-- what a call told, beside the bytes that grow -/
structure MoI (Bm : Nat) (vb vr vm : Value) (usm : List Value) (psm : List By) (W : World) : Prop where
  m : PgS W Bm vm usm psm (fun k => k < Bm ∨ vb.ownBlock = some k)
  r : ∀ k, vr.ownBlock = some k → k < Bm
theorem MoI.next {W W' : World} {Bm : Nat} {vb vr vm : Value} {usm : List Value} {psm : List By} (h : MoI Bm vb vr vm usm psm W) (hb : Below W.heap.size W W') : MoI Bm vb vr vm usm psm W' := ⟨h.m.next hb, h.r⟩
theorem MoI.appB {W W' : World} {B Bm : Nat} {vb vb' vr vm : Value} {usm : List Value} {bs : By} {psm : List By} (h : MoI Bm vb vr vm usm psm W) (ho : OwnB W B vb bs) (hg : GrV W vb W' vb') : MoI Bm vb' vr vm usm psm W' := ⟨h.m.beside ho hg, h.r⟩
theorem MoI.of {w1 W W' : World} {B : Nat} {vb vr vm : Value} {usr usm : List Value} {bs : By} {psr psm : List By} (h : SvI w1 B vb vr usr bs psr W) (hm : PgS W' W.heap.size vm usm psm (fun k => k < W.heap.size)) : MoI W.heap.size vb vr vm usm psm W' :=
  ⟨hm.weak fun k _ hk => hk.elim (fun e => e) (fun e => (h.b.ltP k e).2), fun k hk => (h.r.own.lt k hk).2⟩
theorem MoI.good {W : World} {B Bm : Nat} {vb vr vm : Value} {usm : List Value} {psm : List By} (h : MoI Bm vb vr vm usm psm W) (hB : B ≤ Bm) : ∀ j u, usm[j]? = some u → Reads W u (psm.getD j []) ∧ ∀ k, u.ownBlock = some k → k < W.heap.size ∧ vr.ownBlock ≠ some k ∧ ¬ (k < B ∨ vb.ownBlock = some k) := fun j u hj =>
  ⟨(h.m.good j u hj).1, fun k hk => by
    obtain ⟨h1, h2, h3⟩ := (h.m.good j u hj).2 k hk
    exact ⟨h1, fun e => h3 (Or.inl (h.r k e)), fun e => h3 (e.elim (fun e => Or.inl (by omega)) Or.inr)⟩⟩
theorem row_cells {W : World} {base g n c : Nat} {us : List Value} {ps : List By} {X : Nat → Prop} (h : PgS W base (.slice (some ⟨g, 0, none⟩) n c) us ps X) : ∀ j u, us[j]? = some u → W.cell? ⟨g, 0 + j, none⟩ = some u := fun j u hj => by
  obtain ⟨g2, c2, e2, hc2, _⟩ := h.own.at hj
  cases e2
  rw [Nat.zero_add]; exact hc2
theorem info_lvs {a b : Value} : (Tryd.prog.info? 34).map (·.size) = some [a, b].length := by kernel_rfl
theorem one_lvs {a1 a2 : Option Addr} {n1 n2 c1 c2 : Nat} : ∀ v ∈ [Value.slice a1 n1 c1, .slice a2 n2 c2], v.oneCell' = true := fun v hv => by
  simp only [List.mem_cons, List.not_mem_nil, or_false] at hv
  rcases hv with rfl | rfl <;> rfl
theorem wpSeq_allocLvs {ops : Array Oper} {Q : Exit → Act → World → Prop} {rest : List Oper} {o : Oper} {a : Act} {w : World} (ho : o.op = .alloc 34) (hw : Region.wanted o (yielded ops a.tmps) = true)
    (h : ∀ g w', NewR [nilV, nilV] 34 w g w' → wpList Tryd.prog ops Q rest (a.put o.dst (.pointer (some ⟨g, 0, none⟩))) w') : wpList Tryd.prog ops Q (o :: rest) a w := by
  refine wpSeq_val _ (w.alloc (.cells [nilV, nilV].toArray 34)) hw ?_ (h _ _ (NewR.of _ _ w))
  unfold execOp
  rw [ho]
  kernel_rfl
def SvR (w : World) (d : Nat) (l : List Lf) (e : Ending) (w' : World) : Prop := ∃ v us, e = .returned (.tuple #[.agg (cb (dig (topPg d l))).toArray, v]) ∧ PgS w' w.heap.size v us (saveL d l) (fun k => k < w.heap.size) ∧ Below w.heap.size w w'
set_option maxRecDepth 100000 in
set_option maxHeartbeats 16000000 in
theorem eSave_step (l : List Lf) (d : Nat) (va vv : Value) (w : World) (hK : KOk w) (hF : Fits l d) (hR : ReadsLf w va vv l) (hl : l.length ≤ 100) (hd : d ≤ 256)
    (ih : d < 256 → ∀ on xa xv W, KOk W → ReadsLf W xa xv (halfL l d on) → Calls Tryd.prog 12 #[.agg #[xa, xv], .int .i64 ((d + 1 : Nat) : Int)] W (SvR W (d + 1) (halfL l d on))) :
    Calls Tryd.prog 12 #[.agg #[va, vv], .int .i64 (d : Int)] w (SvR w d l) := by
  have HK : Hid (KOk w) := hK
  have HF : Hid (Fits l d) := hF
  have HR : Hid (ReadsLf w va vv l) := hR
  have HL : Hid (l.length ≤ 100) := hl
  have HDD : Hid (d ≤ 256) := hd
  have HIH := id ih
  replace ih : Hid True := trivial
  have HIHH : Hid (d < 256 → ∀ on xa xv W, KOk W → ReadsLf W xa xv (halfL l d on) → Calls Tryd.prog 12 #[.agg #[xa, xv], .int .i64 ((d + 1 : Nat) : Int)] W (SvR W (d + 1) (halfL l d on))) := HIH
  clear HIH ih
  obtain ⟨ada, cpa, hva⟩ := hR.1.slice
  obtain ⟨adv, cpv, hvv⟩ := hR.2.slice
  obtain ⟨na, HNA⟩ : ∃ n, Hid (n = (l.map (·.1)).length) := ⟨_, rfl⟩
  obtain ⟨nv, HNV⟩ : ∃ n, Hid (n = (l.map (·.2)).length) := ⟨_, rfl⟩
  rw [← HNA.out] at hva
  rw [← HNV.out] at hvv
  subst hva hvv
  have HWS : Hid ((wholeL d l).length ≤ 2000000000) := whole_small hd hF (by omega)
  clear hK hF hR hl hd
  have HBW : Hid (Below w.heap.size w w) := Below.refl _ _
  go_enter Tryd.func12, Tryd.ntmps12
  have ta0 : Hid True := trivial
  have ta1 : Hid True := trivial
  have ta2 : Hid True := trivial
  have ta3 : Hid True := trivial
  go_upto_region 2 with (first
    | (clear ta0; with_reducible refine wpSeq_boxW 34 (.tmp 0) [Value.slice ada na cpa, .slice adv nv cpv] ?_ ?_ ?_ ?_
       · rfl
       · rfl
       · rfl
       intro g2 wa nn
       have HBA : Hid (Below w.heap.size w wa) := nn.below
       have H2 : Hid (Blk wa g2 [Value.slice ada na cpa, .slice adv nv cpv] 34) := nn.blk
       clear nn)
    | (clear ta1; with_reducible refine wpSeq_allocD ?_ ?_ ?_
       · rfl
       · rfl
       intro g4 w1 nn
       have H4 : Hid (Blk w1 g4 (cb zb32) 28) := nn.blk
       have HG4 : Hid (w.heap.size ≤ g4) := Nat.le_trans HBA.out.size nn.ge
       have HB1 : Hid (Below w.heap.size w w1) := HBA.out.trans (nn.below.mono HBA.out.size)
       replace H2 : Hid (Blk w1 g2 [Value.slice ada na cpa, .slice adv nv cpv] 34) := H2.out.below nn.below H2.out.lt
       clear nn HBA)
    | (clear ta2; with_reducible refine wpSeq_loadW 34 (.tmp 2) g2 0 [Value.slice ada na cpa, .slice adv nv cpv] _ H2.out.range Tryd.underlying34 rfl info_lvs ?_ ?_ ?_ ?_
       · rfl
       · rfl
       · rfl)
    | (clear ta3; go_at_call 25; refine (eWhole_any (256 - d) d (by have := HDD.out; omega) l _ _ _ HF.out (HR.out.below HB1.out) (by have := HL.out; omega) HDD.out).mono ?_; rintro e w2 ⟨vb, rfl, ho, hb⟩
       have HOB : Hid (OwnB w2 w1.heap.size vb (wholeL d l)) := ho
       have HB2 : Hid (Below w1.heap.size w1 w2) := hb
       obtain ⟨ab, cpb, hvb⟩ := ho.formP
       obtain ⟨nb, HNB⟩ : ∃ n, Hid (n = (wholeL d l).length) := ⟨_, rfl⟩
       rw [← HNB.out] at hvb
       subst hvb
       clear ho hb))
  by_cases hs : (wholeL d l).length ≤ 512
  case pos =>
    have hle : (nb : Int) ≤ 512 := by rw [HNB.out]; omega
    have HT : Hid (saveL d l = [wholeL d l] ∧ topPg d l = wholeL d l) := ⟨save_one hs, top_one hs⟩
    clear hs
    obtain ⟨dg, HDG⟩ : ∃ z, Hid (z = dig (wholeL d l)) := ⟨_, rfl⟩
    have HDL : Hid (dg.length = 32) := by show _ = _; rw [HDG.out]; exact len_dig' _
    replace H4 : Hid (Blk w2 g4 (cb zb32) 28) := H4.out.below HB2.out H4.out.lt
    have tb0 : Hid True := trivial
    have tb1 : Hid True := trivial
    have tb2 : Hid True := trivial
    go_wp2_with (first
      | (clear tb0; go_at_call 26; refine (rOf_any _ (wholeL d l) _ HOB.out.reads (by have := HWS.out; omega)).mono ?_; rintro e w3 ⟨rfl, hb⟩
         rw [← HDG.out]
         have HOB3 : Hid (OwnB w3 w1.heap.size (.slice ab nb cpb) (wholeL d l)) := HOB.out.next hb
         have HB3 : Hid (Below w1.heap.size w1 w3) := HB2.out.trans (hb.mono HB2.out.size)
         replace H4 : Hid (Blk w3 g4 (cb zb32) 28) := H4.out.below hb H4.out.lt
         clear hb HOB)
      | (clear tb1; with_reducible refine wpSeq_buildX (.tmp 21) ab nb cpb ?_ ?_ ?_ ?_
         · rfl
         · rfl
         · rfl
         intro g5 w4 hy hge hb
         have HOB4 : Hid (OwnB w4 w1.heap.size (.slice ab nb cpb) (wholeL d l)) := HOB3.out.next hb
         have HLT : Hid (∀ k, (Value.slice ab nb cpb).ownBlock = some k → k < w3.heap.size) := fun k hk => (HOB3.out.ltP k hk).2
         have HG5 : Hid (w3.heap.size ≤ g5) := hge
         have HY : Hid (Blk w4 g5 [.slice ab nb cpb] 37) := hy
         have HB4 : Hid (Below w1.heap.size w1 w4) := HB3.out.trans (hb.mono HB3.out.size)
         replace H4 : Hid (Blk w4 g4 (cb zb32) 28) := H4.out.below hb H4.out.lt
         clear hb hy hge HOB3)
      | (clear tb2; with_reducible refine wpSeq_storeD (.tmp 4) (.tmp 20) g4 zb32 dg zb32_len HDL.out H4.out ?_ ?_ ?_ ?_ ?_
         · rfl
         · rfl
         · rfl
         · rfl
         intro w5 h9
         have HN4 : Hid (Blk w5 g4 (cb dg) 28) := h9.blk
         have HO5 : Hid (Only g4 w4 w5) := h9.only
         clear h9))
    refine bodyPost_ret (results_row_tmp (by rfl) _ _ _ g4 28 (cb dg) _ (.slice (some ⟨g5, 0, none⟩) 1 1) rfl rfl HN4.out Tryd.underlying28 rfl (by rw [cb_len, HDL.out]; exact info_digest)) rfl ?_
    refine ⟨_, [.slice ab nb cpb], by rw [HDG.out, HT.out.2], ?_, HB1.out.trans ((HB4.out.mono HB1.out.size).trans (HO5.out.below HG4.out (Nat.le_trans HB1.out.size HB4.out.size)))⟩
    rw [HT.out.1]
    have hne : ∀ k, (Value.slice ab nb cpb).ownBlock = some k → k ≠ g4 := fun k hk e => HOB4.out.ne_blk H4.out (by decide) (e ▸ hk)
    have h5 : g5 ≠ g4 := fun e => by have h0 := H4.out; have h1 := HY.out; rw [e] at h1; unfold Blk at h0 h1; rw [h0] at h1; simp only [Option.some.injEq, Obj.cells.injEq] at h1; exact absurd h1.2.1 (by decide)
    have hY5 : Blk w5 g5 [.slice ab nb cpb] 37 := HY.out.only HO5.out h5
    exact ⟨blk_own_x hY5 (Nat.le_trans HB1.out.size (Nat.le_trans HB3.out.size HG5.out)), rfl, fun j u hj => by
      match j, hj with
      | 0, hj =>
        cases hj
        exact ⟨HOB4.out.reads.sameP fun k hk => HO5.out.block k (hne k hk) (HOB4.out.ltP k hk).2, fun k hk => ⟨Nat.lt_of_lt_of_le (HOB4.out.ltP k hk).2 HO5.out.size, fun e => by
          have h1 := HLT.out k hk
          have h2 := HG5.out
          simp only [Value.ownBlock, Option.some.injEq] at e
          omega, by have h1 := (HOB4.out.ltP k hk).1; have h2 := HB1.out.size; omega⟩⟩
      | _ + 1, hj => simp at hj⟩
  case neg =>
    have HLG : Hid (512 < (wholeL d l).length) := by show _ < _; omega
    have hle : ¬ (nb : Int) ≤ 512 := by rw [HNB.out]; omega
    have hd : d < 256 := (long_two HF.out HLG.out).2
    have HD : Hid (d < 256) := hd
    have f1 : IntKind.i64.wrap ((d : Int) + 1) = ((d + 1 : Nat) : Int) := by rw [IntKind.wrap_i64]; omega
    obtain ⟨d1, HD1⟩ : ∃ z, Hid (z = d + 1) := ⟨_, rfl⟩
    rw [← HD1.out] at f1
    have HIH : Hid (∀ on xa xv W, KOk W → ReadsLf W xa xv (halfL l d on) → Calls Tryd.prog 12 #[.agg #[xa, xv], .int .i64 (d1 : Int)] W (SvR W d1 (halfL l d on))) := by rw [HD1.out]; exact HIHH.out hd
    clear hs hd HIHH HOB
    obtain ⟨B, HBB⟩ : ∃ z, Hid (z = w1.heap.size) := ⟨_, rfl⟩
    have H4L : Hid (g4 < B ∧ g2 < B ∧ 1 < B) := by rw [HBB.out]; exact ⟨H4.out.lt, H2.out.lt, Nat.lt_of_lt_of_le HK.out.lt HB1.out.size⟩
    have HKK : Hid (∀ W, Below B w1 W → KOk W) := fun W hW => (HK.out.below HB1.out HK.out.lt).below hW H4L.out.2.2
    have H2W : Hid (∀ W, Below B w1 W → Blk W g2 [Value.slice ada na cpa, .slice adv nv cpv] 34) := fun W hW => H2.out.below hW H4L.out.2.1
    have H4W : Hid (∀ W, Below B w1 W → Blk W g4 (cb zb32) 28) := fun W hW => H4.out.below hW H4L.out.1
    have HRW : Hid (∀ W, Below B w1 W → ReadsLf W (.slice ada na cpa) (.slice adv nv cpv) l) := fun W hW => (HR.out.below HB1.out).below (by rw [← HBB.out]; exact hW)
    have HB2' : Hid (Below B w1 w2) := by rw [HBB.out]; exact HB2.out
    clear H2 H4 HR HK
    have tc0 : Hid True := trivial
    go_wp2_with (first
      | (clear tc0; with_reducible refine wpSeq_buildY 2 (.const (.int .u8 2)) ?_ ?_ ?_ ?_
         · rfl
         · rfl
         · rfl
         intro g6 w3 hy hge hb
         have HI0 : Hid (SvI w1 B (.slice (some ⟨g6, 0, none⟩) 1 1) (.slice none 0 0) [] [2] [] w3) := ⟨HB2'.out.trans (hb.mono (by rw [HBB.out]; exact HB2.out.size)), Nat.le_trans (by rw [HBB.out]; exact HB2.out.size) hb.size, blk_own_y hy (Nat.le_trans (by rw [HBB.out]; exact HB2.out.size) hge), PgS.nil _ _ _⟩
         clear hy hge hb HB2 HB2'))
    go_loopw [6, 7, 8] (fun b r i W => ∃ (k : Nat) (ab : Option Addr) (nb cb2 : Nat) (ar : Option Addr) (nr cr : Nat) (usr : List Value), k ≤ 2 ∧ b = .slice ab nb cb2 ∧ r = .slice ar nr cr ∧ i = .int .i64 (k : Int) ∧ Hid (SvI w1 B (.slice ab nb cb2) (.slice ar nr cr) usr (svB d l k) (svP d l k) W)) (fun _ _ i _ => 2 - (intOf i).toNat)
    case atStart => exact ⟨0, some ⟨g6, 0, none⟩, 1, 1, none, 0, 0, [], by omega, rfl, rfl, rfl, HI0.out⟩
    case round =>
      obtain ⟨k, ab2, nb2, cb2, ar, nr, cr, usr, hk, rfl, rfl, rfl, HI⟩ := hrel
      by_cases hlt : k < 2
      case pos =>
        have hlk : (k : Int) < 2 := by omega
        have fk : IntKind.i64.wrap ((k : Int) + 1) = (k : Int) + 1 := by rw [IntKind.wrap_i64]; omega
        obtain ⟨on, HON⟩ : ∃ z, Hid (z = decide (k = 1)) := ⟨_, rfl⟩
        have e1 : ((k : Int) == 1) = on := by rw [HON.out]; by_cases h : k = 1 <;> simp [h]; omega
        obtain ⟨h, HH⟩ : ∃ z, Hid (z = halfL l d on) := ⟨_, rfl⟩
        have HHF : Hid (Fits h d1 ∧ h.length ≤ 100) := by rw [HH.out, HD1.out]; exact ⟨HF.out.half on, Nat.le_trans (half_le l d on) HL.out⟩
        have HNX : Hid (svB d l (k + 1) = svB d l k ++ sidePg d1 h ∧ svP d l (k + 1) = svP d l k ++ restPg d1 h) := by rw [HH.out, HON.out, HD1.out]; exact sv_next d l k hlt
        have HBL : Hid ((svB d l k).length ≤ 131) := sv_len HF.out k
        have HPL : Hid ((svP d l k).length ≤ 51202) := sv_most HF.out HD.out HL.out k
        obtain ⟨bs, HBS⟩ : ∃ z, Hid (z = svB d l k) := ⟨_, rfl⟩
        obtain ⟨psr, HPS⟩ : ∃ z, Hid (z = svP d l k) := ⟨_, rfl⟩
        rw [← HBS.out] at HBL HNX HI
        rw [← HPS.out] at HPL HNX HI
        have td0 : Hid True := trivial
        have td1 : Hid True := trivial
        have td2 : Hid True := trivial
        have td3 : Hid True := trivial
        go_upto_region 10 with (first
          | (clear td0; with_reducible refine wpSeq_loadW 34 (.tmp 2) g2 0 [Value.slice ada na cpa, .slice adv nv cpv] _ (H2W.out _ HI.out.bl).range Tryd.underlying34 rfl info_lvs ?_ ?_ ?_ ?_
             · rfl
             · rfl
             · rfl)
          | (clear td1; go_at_call 27; refine (eHalf_b _ _ l d HD.out on _ (HRW.out _ HI.out.bl) (by have := HL.out; omega)).mono ?_; rintro e w5 ⟨xa, xv, rfl, ho, hb⟩
             rw [← HH.out] at ho
             have hrd := ho.reads
             obtain ⟨axa, cxa, hxa⟩ := hrd.1.slice
             obtain ⟨axv, cxv, hxv⟩ := hrd.2.slice
             obtain ⟨nxa, HXA⟩ : ∃ n, Hid (n = (h.map (·.1)).length) := ⟨_, rfl⟩
             obtain ⟨nxv, HXV⟩ : ∃ n, Hid (n = (h.map (·.2)).length) := ⟨_, rfl⟩
             rw [← HXA.out] at hxa
             rw [← HXV.out] at hxv
             subst hxa hxv
             have HRX : Hid (ReadsLf w5 (.slice axa nxa cxa) (.slice axv nxv cxv) h) := hrd
             replace HI : Hid (SvI w1 B (.slice ab2 nb2 cb2) (.slice ar nr cr) usr bs psr w5) := HI.out.next hb
             clear ho hrd hb)
          | (clear td2; with_reducible refine wpSeq_allocLvs ?_ ?_ ?_
             · rfl
             · rfl
             intro g9 w6 nn
             have HNN : Hid (NewR [nilV, nilV] 34 w5 g9 w6) := nn
             clear nn)
          | (clear td3; with_reducible refine wpSeq_storeRow 34 (.tmp 9) (.tmp 32) g9 [nilV, nilV] [Value.slice axa nxa cxa, .slice axv nxv cxv] HNN.out.blk rfl info_lvs one_lvs ?_ ?_ ?_ ?_ ?_
             · rfl
             · rfl
             · rfl
             · rfl
             intro w7 sr
             have hb : Below w5.heap.size w5 w7 := HNN.out.below.trans (sr.only.below HNN.out.ge HNN.out.below.size)
             have H9 : Hid (Blk w7 g9 [Value.slice axa nxa cxa, .slice axv nxv cxv] 34) := sr.blk
             replace HRX : Hid (ReadsLf w7 (.slice axa nxa cxa) (.slice axv nxv cxv) h) := HRX.out.below hb
             replace HI : Hid (SvI w1 B (.slice ab2 nb2 cb2) (.slice ar nr cr) usr bs psr w7) := HI.out.next hb
             have c9 : w7.cell? ⟨g9, 0, none⟩ = some (.slice axa nxa cxa) := H9.out.cell 0
             clear sr hb HNN))
        by_cases h2 : h.length < 2
        case pos =>
          have hx2 : (nxa : Int) < 2 := by rw [HXA.out, List.length_map]; omega
          have HSD : Hid (sidePg d1 h = wholeL d1 h ∧ restPg d1 h = [] ∧ 0 < (wholeL d1 h).length ∧ (wholeL d1 h).length ≤ 65) := by
            have ho := one_le HHF.out.1.1 h2
            refine ⟨by unfold sidePg; rw [if_pos h2], by unfold restPg; rw [if_pos h2], ?_, ?_⟩ <;> rw [whole_few h2, ho] <;> omega
          clear h2
          have te0 : Hid True := trivial
          have te1 : Hid True := trivial
          have te2 : Hid True := trivial
          go_wp2_with (first
            | (clear te0; with_reducible refine wpSeq_loadW 34 (.tmp 9) g9 0 [Value.slice axa nxa cxa, .slice axv nxv cxv] _ H9.out.range Tryd.underlying34 rfl info_lvs ?_ ?_ ?_ ?_
               · rfl
               · rfl
               · rfl)
            | (clear te1; go_at_call 25; refine (eWhole_any (256 - d1) d1 (by have := HD.out; have := HD1.out; omega) h _ _ _ HHF.out.1 HRX.out (by have := HHF.out.2; omega) (by have := HD.out; have := HD1.out; omega)).mono ?_; rintro e w8 ⟨vw, rfl, ho, hb⟩
               have HRV : Hid (Reads w8 vw (wholeL d1 h)) := ho.reads
               replace HI : Hid (SvI w1 B (.slice ab2 nb2 cb2) (.slice ar nr cr) usr bs psr w8) := HI.out.next hb
               clear ho hb H9 HRX)
            | (clear te2; with_reducible refine wpSeq_appB (.tmp 37) (.tmp 41) B (.slice ab2 nb2 cb2) vw bs (wholeL d1 h) HI.out.b HRV.out HSD.out.2.2.1 (by have := HSD.out.2.2.2; have := HBL.out; omega) HI.out.le ?_ ?_ ?_ ?_ ?_
               · rfl
               · rfl
               · rfl
               · rfl
               intro v9 w9 ho hg
               obtain ⟨a9, c9', hv9⟩ := ho.formP
               obtain ⟨n9, HN9⟩ : ∃ n, Hid (n = (bs ++ wholeL d1 h).length) := ⟨_, rfl⟩
               rw [← HN9.out] at hv9
               subst hv9
               replace HI : Hid (SvI w1 B (.slice a9 n9 c9') (.slice ar nr cr) usr (bs ++ wholeL d1 h) psr w9) := HI.out.appB ho hg
               clear ho hg HRV))
          go_roundw
          case rel => exact ⟨k + 1, a9, n9, c9', ar, nr, cr, usr, by omega, rfl, rfl, by simp, by rw [HNX.out.1, HNX.out.2, HSD.out.1, HSD.out.2.1, List.append_nil]; exact HI.out⟩
          case measure => simp [intOf]; omega
        case neg =>
          have hx2 : ¬ (nxa : Int) < 2 := by rw [HXA.out, List.length_map]; omega
          obtain ⟨dg, HDG⟩ : ∃ z, Hid (z = dig (topPg d1 h)) := ⟨_, rfl⟩
          have HDL : Hid (dg.length = 32) := by show _ = _; rw [HDG.out]; exact len_dig' _
          have HSD : Hid (sidePg d1 h = 3 :: dg ∧ restPg d1 h = saveL d1 h ∧ (saveL d1 h).length ≤ 25601) := by
            refine ⟨by unfold sidePg; rw [if_neg h2, HDG.out], by unfold restPg; rw [if_neg h2], ?_⟩
            have := sv_count HF.out HD.out HL.out on
            rw [← HH.out, ← HD1.out] at this
            unfold restPg at this
            rwa [if_neg h2] at this
          clear h2
          have tf0 : Hid True := trivial
          have tf1 : Hid True := trivial
          have tf2 : Hid True := trivial
          have tf3 : Hid True := trivial
          have tf4 : Hid True := trivial
          have tf5 : Hid True := trivial
          have tf6 : Hid True := trivial
          have tf7 : Hid True := trivial
          go_wp2_with (first
            | (clear tf0; with_reducible refine wpSeq_loadW 34 (.tmp 9) g9 0 [Value.slice axa nxa cxa, .slice axv nxv cxv] _ H9.out.range Tryd.underlying34 rfl info_lvs ?_ ?_ ?_ ?_
               · rfl
               · rfl
               · rfl)
            | (clear tf1; go_at_call 12; refine (HIH.out on _ _ _ (HKK.out _ HI.out.bl) (by rw [← HH.out]; exact HRX.out)).mono ?_; rintro e w8 ⟨vm, usm, rfl, hp, hb⟩
               rw [← HH.out] at hp ⊢
               rw [← HDG.out]
               have hmo := MoI.of HI.out hp
               obtain ⟨gm, cm, hvm, hcm, hce, hon⟩ := hp.row (by rw [save_top]; simp)
               obtain ⟨nm, HNM⟩ : ∃ n, Hid (n = usm.length) := ⟨_, rfl⟩
               rw [← HNM.out] at hvm
               subst hvm
               obtain ⟨Bm, HBM⟩ : ∃ z, Hid (z = w7.heap.size) := ⟨_, rfl⟩
               rw [← HBM.out] at hmo
               have HBB2 : Hid (B ≤ Bm) := by rw [HBM.out]; exact HI.out.le
               have HM : Hid (MoI Bm (.slice ab2 nb2 cb2) (.slice ar nr cr) (.slice (some ⟨gm, 0, none⟩) nm cm) usm (saveL d1 h) w8) := hmo
               replace HI : Hid (SvI w1 B (.slice ab2 nb2 cb2) (.slice ar nr cr) usr bs psr w8) := HI.out.next hb
               have HCM : Hid (nm ≤ cm ∧ ∀ u ∈ usm, u.oneCell' = true) := ⟨by rw [HNM.out]; exact hcm, hon⟩
               clear hmo hp hb hcm hce hon H9 HRX c9)
            | (clear tf2; with_reducible refine wpSeq_allocD ?_ ?_ ?_
               · rfl
               · rfl
               intro g10 w9 nn
               have HNN : Hid (Blk w9 g10 (cb zb32) 28 ∧ w8.heap.size ≤ g10 ∧ Below w8.heap.size w8 w9) := ⟨nn.blk, nn.ge, nn.below⟩
               clear nn)
            | (clear tf3; with_reducible refine wpSeq_storeD (.tmp 10) (.tmp 48) g10 zb32 dg zb32_len HDL.out HNN.out.1 ?_ ?_ ?_ ?_ ?_
               · rfl
               · rfl
               · rfl
               · rfl
               intro w10 h9
               have hb : Below w8.heap.size w8 w10 := HNN.out.2.2.trans (h9.only.below HNN.out.2.1 HNN.out.2.2.size)
               have H10 : Hid (Blk w10 g10 (cb dg) 28) := h9.blk
               replace HI : Hid (SvI w1 B (.slice ab2 nb2 cb2) (.slice ar nr cr) usr bs psr w10) := HI.out.next hb
               replace HM : Hid (MoI Bm (.slice ab2 nb2 cb2) (.slice ar nr cr) (.slice (some ⟨gm, 0, none⟩) nm cm) usm (saveL d1 h) w10) := HM.out.next hb
               clear h9 hb HNN)
            | (clear tf4; with_reducible refine wpSeq_buildY 3 (.const (.int .u8 3)) ?_ ?_ ?_ ?_
               · rfl
               · rfl
               · rfl
               intro g11 w11 hy hge hb
               have HRY : Hid (Reads w11 (.slice (some ⟨g11, 0, none⟩) 1 1) [3]) := blk_reads_y hy
               replace H10 : Hid (Blk w11 g10 (cb dg) 28) := H10.out.below hb H10.out.lt
               replace HI : Hid (SvI w1 B (.slice ab2 nb2 cb2) (.slice ar nr cr) usr bs psr w11) := HI.out.next hb
               replace HM : Hid (MoI Bm (.slice ab2 nb2 cb2) (.slice ar nr cr) (.slice (some ⟨gm, 0, none⟩) nm cm) usm (saveL d1 h) w11) := HM.out.next hb
               clear hy hge hb)
            | (clear tf5; with_reducible refine wpSeq_appB (.tmp 50) (.tmp 51) B (.slice ab2 nb2 cb2) (.slice (some ⟨g11, 0, none⟩) 1 1) bs [3] HI.out.b HRY.out (by decide) (by have := HBL.out; simp; omega) HI.out.le ?_ ?_ ?_ ?_ ?_
               · rfl
               · rfl
               · rfl
               · rfl
               intro v12 w12 ho hg
               obtain ⟨a12, c12, hv12⟩ := ho.formP
               obtain ⟨n12, HN12⟩ : ∃ n : Nat, Hid (n = (bs ++ ([3] : By)).length) := ⟨_, rfl⟩
               rw [← HN12.out] at hv12
               subst hv12
               replace H10 : Hid (Blk w12 g10 (cb dg) 28) := hg.mt.blk H10.out fun e => HI.out.b.ne_blk H10.out (by decide) e
               replace HM : Hid (MoI Bm (.slice a12 n12 c12) (.slice ar nr cr) (.slice (some ⟨gm, 0, none⟩) nm cm) usm (saveL d1 h) w12) := HM.out.appB HI.out.b hg
               replace HI : Hid (SvI w1 B (.slice a12 n12 c12) (.slice ar nr cr) usr (bs ++ [3]) psr w12) := HI.out.appB ho hg
               have HRD : Hid (Reads w12 (.slice (some ⟨g10, 0, none⟩) 32 32) dg) := reads_dig_at HDL.out H10.out.range
               have sd := slice_dig17 g10 0 w12
               clear ho hg HRY H10)
            | (clear tf6; with_reducible refine wpSeq_appB (.tmp 53) (.tmp 54) B (.slice a12 n12 c12) (.slice (some ⟨g10, 0, none⟩) 32 32) (bs ++ [3]) dg HI.out.b HRD.out (by have := HDL.out; omega) (by have := HBL.out; have := HDL.out; simp; omega) HI.out.le ?_ ?_ ?_ ?_ ?_
               · rfl
               · rfl
               · rfl
               · rfl
               intro v13 w13 ho hg
               obtain ⟨a13, c13, hv13⟩ := ho.formP
               obtain ⟨n13, HN13⟩ : ∃ n : Nat, Hid (n = (bs ++ ([3] : By) ++ dg).length) := ⟨_, rfl⟩
               rw [← HN13.out] at hv13
               subst hv13
               replace HM : Hid (MoI Bm (.slice a13 n13 c13) (.slice ar nr cr) (.slice (some ⟨gm, 0, none⟩) nm cm) usm (saveL d1 h) w13) := HM.out.appB HI.out.b hg
               replace HI : Hid (SvI w1 B (.slice a13 n13 c13) (.slice ar nr cr) usr (bs ++ [3] ++ dg) psr w13) := HI.out.appB ho hg
               have HCE : Hid (∀ j u, usm[j]? = some u → w13.cell? ⟨gm, 0 + j, none⟩ = some u) := row_cells HM.out.m
               clear ho hg HRD sd)
            | (clear tf7; with_reducible refine wpSeq_appXs (.tmp 56) (.tmp 57) B (.slice ar nr cr) usr usm gm 0 nm cm HI.out.r.own HNM.out.symm HCM.out.1 HCE.out HCM.out.2 (by have h1 := HI.out.r.len; have h2 := HPL.out; have h3 := HM.out.m.len; have h4 := HSD.out.2.2; have h5 := HNM.out; omega) HI.out.le ?_ ?_ ?_ ?_ ?_
               · rfl
               · rfl
               · rfl
               · rfl
               intro v14 w14 ho hg
               obtain ⟨a14, c14, hv14⟩ := ho.form
               obtain ⟨n14, HN14⟩ : ∃ n, Hid (n = (usr ++ usm).length) := ⟨_, rfl⟩
               rw [← HN14.out] at hv14
               subst hv14
               replace HI : Hid (SvI w1 B (.slice a13 n13 c13) (.slice a14 n14 c14) (usr ++ usm) (bs ++ [3] ++ dg) (psr ++ saveL d1 h) w14) := HI.out.appR ho hg HM.out.m.len (HM.out.good HBB2.out)
               clear ho hg HM HCE))
          go_roundw
          case rel => exact ⟨k + 1, a13, n13, c13, a14, n14, c14, usr ++ usm, by omega, rfl, rfl, by simp, by rw [HNX.out.1, HNX.out.2, HSD.out.1, HSD.out.2.1, show bs ++ 3 :: dg = bs ++ [3] ++ dg by simp]; exact HI.out⟩
          case measure => simp [intOf]; omega
      case neg =>
        have hke : k = 2 := by omega
        subst hke
        have HT : Hid (saveL d l = svB d l 2 :: svP d l 2 ∧ topPg d l = svB d l 2) := ⟨save_more HD.out HLG.out, top_more HD.out HLG.out⟩
        have HPP : Hid (0 < (svP d l 2).length) := sv_some HF.out HLG.out
        have HPL : Hid ((svP d l 2).length ≤ 51202) := sv_most HF.out HD.out HL.out 2
        have HBL : Hid ((svB d l 2).length ≤ 131) := sv_len HF.out 2
        obtain ⟨bs, HBS⟩ : ∃ z, Hid (z = svB d l 2) := ⟨_, rfl⟩
        obtain ⟨psr, HPS⟩ : ∃ z, Hid (z = svP d l 2) := ⟨_, rfl⟩
        rw [← HBS.out] at HBL HT HI
        rw [← HPS.out] at HPL HPP HT HI
        obtain ⟨dg, HDG⟩ : ∃ z, Hid (z = dig bs) := ⟨_, rfl⟩
        have HDL : Hid (dg.length = 32) := by show _ = _; rw [HDG.out]; exact len_dig' _
        obtain ⟨gr, cr2, hvr, hcr, hce, hon⟩ := HI.out.r.row HPP.out
        obtain ⟨nr2, HNR⟩ : ∃ n, Hid (n = usr.length) := ⟨_, rfl⟩
        rw [← HNR.out] at hvr
        simp only [Value.slice.injEq] at hvr
        obtain ⟨rfl, rfl, rfl⟩ := hvr
        have HCM : Hid (nr ≤ cr ∧ ∀ u ∈ usr, u.oneCell' = true) := ⟨by rw [HNR.out]; exact hcr, hon⟩
        clear hcr hce hon
        have HLE : Hid (B ≤ wr.heap.size) := HI.out.le
        have tg0 : Hid True := trivial
        have tg1 : Hid True := trivial
        have tg2 : Hid True := trivial
        have tg3 : Hid True := trivial
        go_wp2_with (first
          | (clear tg0; with_reducible refine wpSeq_buildX (.tmp 59) ab2 nb2 cb2 ?_ ?_ ?_ ?_
             · rfl
             · rfl
             · rfl
             intro g12 w5 hy hge hb
             have HOU : Hid (wr.heap.size ≤ g12 ∧ Blk w5 g12 [.slice ab2 nb2 cb2] 37 ∧ ∀ k, k < wr.heap.size → k ≠ g12) := ⟨hge, hy, fun k hk e => by omega⟩
             have HLB : Hid ((∀ k, (Value.slice ab2 nb2 cb2).ownBlock = some k → k < g12) ∧ ∀ (j : Nat) (u : Value), usr[j]? = some u → ∀ k, u.ownBlock = some k → k < g12) := ⟨fun k hk => Nat.lt_of_lt_of_le (HI.out.b.ltP k hk).2 hge, fun j u hj k hk => Nat.lt_of_lt_of_le ((HI.out.r.good j u hj).2 k hk).1 hge⟩
             replace HI : Hid (SvI w1 B (.slice ab2 nb2 cb2) (.slice (some ⟨gr, 0, none⟩) nr cr) usr bs psr w5) := HI.out.next hb
             have HOP : Hid (PgS w5 B (.slice (some ⟨g12, 0, none⟩) 1 1) [.slice ab2 nb2 cb2] [bs] (fun k => k < B)) := ⟨blk_own_x hy (Nat.le_trans HLE.out hge), rfl, fun j u hj => by
               match j, hj with
               | 0, hj => cases hj; exact ⟨HI.out.b.reads, fun k hk => ⟨(HI.out.b.ltP k hk).2, fun e => by have h1 := HLB.out.1 k hk; simp only [Value.ownBlock, Option.some.injEq] at e; omega, by have h1 := (HI.out.b.ltP k hk).1; omega⟩⟩
               | _ + 1, hj => simp at hj⟩
             clear hy hge hb HOU)
          | (clear tg1; go_at_call 26; refine (rOf_any _ bs _ HI.out.b.reads (by have := HBL.out; omega)).mono ?_; rintro e w6 ⟨rfl, hb⟩
             rw [← HDG.out]
             replace HI : Hid (SvI w1 B (.slice ab2 nb2 cb2) (.slice (some ⟨gr, 0, none⟩) nr cr) usr bs psr w6) := HI.out.next hb
             replace HOP : Hid (PgS w6 B (.slice (some ⟨g12, 0, none⟩) 1 1) [.slice ab2 nb2 cb2] [bs] (fun k => k < B)) := HOP.out.next hb
             have HCE : Hid (∀ j u, usr[j]? = some u → w6.cell? ⟨gr, 0 + j, none⟩ = some u) := row_cells HI.out.r
             clear hb)
          | (clear tg2; with_reducible refine wpSeq_appXs (.tmp 63) (.tmp 64) B (.slice (some ⟨g12, 0, none⟩) 1 1) [.slice ab2 nb2 cb2] usr gr 0 nr cr HOP.out.own HNR.out.symm HCM.out.1 HCE.out HCM.out.2 (by have h1 := HI.out.r.len; have h2 := HPL.out; have h3 := HNR.out; simp; omega) HI.out.le ?_ ?_ ?_ ?_ ?_
             · rfl
             · rfl
             · rfl
             · rfl
             intro v7 w7 ho hg
             have HZ : Hid (PgS w7 B v7 ([.slice ab2 nb2 cb2] ++ usr) ([bs] ++ psr) (fun k => k < B)) := HOP.out.mores ho hg HI.out.r.len fun j u hj => ⟨(HI.out.r.good j u hj).1, fun k hk => ⟨((HI.out.r.good j u hj).2 k hk).1, (fun e => by have h1 := HLB.out.2 j u hj k hk; simp only [Value.ownBlock, Option.some.injEq] at e; omega), fun e => ((HI.out.r.good j u hj).2 k hk).2.2 (Or.inl e)⟩⟩
             have HBZ : Hid (Below B w1 w7) := HI.out.bl.trans (hg.below HI.out.le fun k hk => (HOP.out.own.lt k hk).1)
             have HLZ : Hid (B ≤ w7.heap.size) := Nat.le_trans HI.out.le hg.mt.size
             have H4 : Hid (Blk w7 g4 (cb zb32) 28) := H4W.out _ HBZ.out
             clear ho hg HI HOP HCE)
          | (clear tg3; with_reducible refine wpSeq_storeD (.tmp 4) (.tmp 62) g4 zb32 dg zb32_len HDL.out H4.out ?_ ?_ ?_ ?_ ?_
             · rfl
             · rfl
             · rfl
             · rfl
             intro w8 h9
             have HN4 : Hid (Blk w8 g4 (cb dg) 28) := h9.blk
             have HO8 : Hid (Only g4 w7 w8) := h9.only
             clear h9))
        refine bodyPost_ret (results_row_tmp (by rfl) _ _ _ g4 28 (cb dg) _ v7 rfl rfl HN4.out Tryd.underlying28 rfl (by rw [cb_len, HDL.out]; exact info_digest)) rfl ?_
        have hB1 : w.heap.size ≤ B := by rw [HBB.out]; exact HB1.out.size
        refine ⟨v7, [.slice ab2 nb2 cb2] ++ usr, by rw [HDG.out, HT.out.2], ?_, HB1.out.trans ((HBZ.out.mono hB1).trans (HO8.out.below HG4.out (Nat.le_trans hB1 HLZ.out)))⟩
        rw [HT.out.1]
        exact ((HZ.out.only (show g4 < B from H4L.out.1) (fun e => by have h1 := (HZ.out.own.lt g4 e).1; have h2 := H4L.out.1; omega) HO8.out).weak fun k _ h => by have h1 := h; omega).lower hB1
theorem eSave_any : ∀ (f d : Nat), 256 ≤ d + f → ∀ (l : List Lf) (va vv : Value) (w : World), KOk w → Fits l d → ReadsLf w va vv l → l.length ≤ 100 → d ≤ 256 →
    Calls Tryd.prog 12 #[.agg #[va, vv], .int .i64 (d : Int)] w (SvR w d l) := by
  intro f
  induction f with
  | zero => exact fun d hf l va vv w hK hF hR hl hd => eSave_step l d va vv w hK hF hR hl hd fun h2 => absurd h2 (by omega)
  | succ f ih => exact fun d hf l va vv w hK hF hR hl hd => eSave_step l d va vv w hK hF hR hl hd fun h2 on xa xv W hK hx => ih (d + 1) (by omega) (halfL l d on) xa xv W hK (hF.half on) hx (Nat.le_trans (half_le l d on) hl) h2
end Go.Proofs.YtphmmnffgknkcaaDoor
/- The walk of the statement PagesSaves (layer 17). -/
namespace Go.Proofs.YtphmmnffgknkcaaDoor
open Go.RowKit
set_option maxRecDepth 100000
theorem wpSeq_idxQ17 {ops : Array Oper} {Q : Exit → Act → World → Prop} {rest : List Oper} {o : Oper} {a : Act} {w : World} (x y : Operand) (b off n c k : Nat) (hk : k < n) (ho : o.op = .indexAddr 29 x y) (hx : a.eval x = .slice (some ⟨b, off, none⟩) n c) (hy : a.eval y = .int .i64 (k : Int)) (hw : Region.wanted o (yielded ops a.tmps) = true)
    (h : wpList Tryd.prog ops Q rest (a.put o.dst (.pointer (some ⟨b, off + k, none⟩))) w) : wpList Tryd.prog ops Q (o :: rest) a w :=
  wpSeq_val _ _ hw (idxQ b off n c k hk _ _ x y ho hx hy w) h
theorem eSave_zero (l : List Lf) (va vv : Value) (w : World) (hK : KOk w) (hF : Fits l 0) (hR : ReadsLf w va vv l) (hl : l.length ≤ 100) : Calls Tryd.prog 12 #[.agg #[va, vv], .int .i64 0] w (SvR w 0 l) :=
  eSave_any 256 0 (by omega) l va vv w hK hF hR hl (by omega)
set_option maxRecDepth 100000 in
set_option maxHeartbeats 16000000 in
theorem pagesSaves_law (vt vu : Value) (ds es : List By) (w : World) (hK : KOk w) (hD : ReadsD w vt ds) (hE : ReadsD w vu es) :
    Calls Tryd.prog 3 #[vt, vu] w fun e w' => e = .returned (.bool true) ∧ Below w.heap.size w w' := by
  have HD : Hid (ReadsD w vt ds) := hD
  have HE : Hid (ReadsD w vu es) := hE
  have HK : Hid (KOk w) := hK
  have HBW : Hid (Below w.heap.size w w) := Below.refl _ _
  clear hD hE hK
  by_cases h40 : ds.length ≤ 40
  case neg =>
    have HF : Hid (decide (ds.length ≤ 40) = false) := decide_eq_false h40
    clear h40
    go_enter Tryd.func3, Tryd.ntmps3
    have tk0 : Hid True := trivial
    have tk1 : Hid True := trivial
    go_wp2_with (first
      | (clear tk0; go_at_call 8; refine (few17_any vt _ _ (HD.out.below HBW.out)).mono ?_; rintro e wq0 ⟨rfl, hq⟩
         obtain rfl := hq.symm
         rw [HF.out])
      | (clear tk1; go_at_call 9; refine (works17_any _ (HK.out.below HBW.out HK.out.lt)).mono ?_; rintro e wz ⟨rfl, hz⟩
         have HBZ : Hid (Below w.heap.size w wz) := HBW.out.trans (hz.mono HBW.out.size)
         clear hz))
    go_ret
    exact ⟨rfl, HBZ.out⟩
  case pos =>
    have HF : Hid (decide (ds.length ≤ 40) = true) := decide_eq_true h40
    obtain ⟨l0, Hl0⟩ : ∃ l, Hid (l = ofL (ds.zip es)) := ⟨_, rfl⟩
    have HOK : Hid (okLf l0 ∧ Up l0 ∧ l0.length ≤ 40) := by
      rw [Hl0.out]
      have h := ofL_good _ (zip_okR HD.out HE.out)
      exact ⟨h.1, h.2, by have h1 := ofL_len (ds.zip es); have h2 : (ds.zip es).length ≤ ds.length := by rw [List.length_zip]; omega
                          omega⟩
    have HFZ : Hid (Fits l0 0) := fits_zero HOK.out.1 HOK.out.2.1
    have HSZ : Hid ((saveL 0 l0).length ≤ 25601 ∧ ∀ p ∈ saveL 0 l0, 1 ≤ p.length ∧ p.length ≤ 512) := ⟨save_few HOK.out.1 HOK.out.2.1 (by have := HOK.out.2.2; omega), save_short 256 0 l0 (by omega) HFZ.out⟩
    obtain ⟨dg, HDG⟩ : ∃ z, Hid (z = dig (topPg 0 l0)) := ⟨_, rfl⟩
    have HDL : Hid (dg.length = 32) := by show _ = _; rw [HDG.out]; exact len_dig' _
    clear h40
    go_enter Tryd.func3, Tryd.ntmps3
    have hqd : ∀ wx : World, (Op.equalIn 10000 28 (.agg (cb dg).toArray) (.agg (cb dg).toArray)).run Tryd.prog wx = .ok true wx := fun wx => eq_dig_same dg HDL.out wx
    have tk0 : Hid True := trivial
    have tk1 : Hid True := trivial
    have tk2 : Hid True := trivial
    have tk3 : Hid True := trivial
    have tk4 : Hid True := trivial
    have tk5 : Hid True := trivial
    have tk6 : Hid True := trivial
    have tk7 : Hid True := trivial
    have tk8 : Hid True := trivial
    have tk9 : Hid True := trivial
    have tk10 : Hid True := trivial
    have tk11 : Hid True := trivial
    go_wp2_with (first
      | (clear tk0; go_at_call 8; refine (few17_any vt _ _ (HD.out.below HBW.out)).mono ?_; rintro e wq0 ⟨rfl, hq⟩
         obtain rfl := hq.symm
         rw [HF.out])
      | (clear tk1; go_at_call 10; refine (trOf_any _ vt vu ds es (HK.out.below HBW.out HK.out.lt) (HD.out.below HBW.out) (HE.out.below HBW.out) (by have := of_decide_eq_true HF.out; omega)).mono ?_; rintro e w1 ⟨gt, rfl, ht, hb⟩
         rw [← Hl0.out] at ht
         have HT : Hid (TT w1 gt l0) := ht
         clear ht
         replace HBW : Hid (Below w.heap.size w w1) := HBW.out.trans (hb.mono HBW.out.size)
         clear hb)
      | (clear tk2; go_at_call 11; refine (pgSave_any gt l0 _ (HK.out.below HBW.out HK.out.lt) HT.out (Nat.le_trans HOK.out.2.2 (by decide))).mono ?_; rintro e w2 ⟨vv2, us2, rfl, hp, hb⟩
         rw [← HDG.out]
         obtain ⟨gl, nl, cl, hvv, hrow⟩ := row17_of hp (save_pos 0 l0)
         subst hvv
         have HRL : Hid (Row17 w2 gl nl cl (saveL 0 l0)) := hrow
         clear hp hrow
         replace HT : Hid (TT w2 gt l0) := HT.out.next hb
         replace HBW : Hid (Below w.heap.size w w2) := HBW.out.trans (hb.mono HBW.out.size)
         clear hb)
      | (clear tk3; with_reducible refine wpSeq_allocD ?_ ?_ ?_
         · rfl
         · rfl
         intro gd w3 nn
         have HN2 : Hid (Blk w3 gd (cb zb32) 28 ∧ w2.heap.size ≤ gd ∧ Below w2.heap.size w2 w3) := ⟨nn.blk, nn.ge, nn.below⟩
         clear nn)
      | (clear tk4; with_reducible refine wpSeq_storeD (.tmp 6) (.tmp 23) gd zb32 dg zb32_len HDL.out HN2.out.1 ?_ ?_ ?_ ?_ ?_
         · rfl
         · rfl
         · rfl
         · rfl
         intro w4 h9
         have hb : Below w2.heap.size w2 w4 := HN2.out.2.2.trans (h9.only.below HN2.out.2.1 HN2.out.2.2.size)
         have HBgd : Hid (Blk w4 gd (cb dg) 28) := h9.blk
         clear h9 HN2
         replace HT : Hid (TT w4 gt l0) := HT.out.next hb
         replace HRL : Hid (Row17 w4 gl nl cl (saveL 0 l0)) := HRL.out.next hb
         replace HBW : Hid (Below w.heap.size w w4) := HBW.out.trans (hb.mono HBW.out.size)
         clear hb)
      | (clear tk5; go_at_call 13; refine (lfOf_any vt vu ds es _ (HD.out.below HBW.out) (HE.out.below HBW.out) (by have := of_decide_eq_true HF.out; omega)).mono ?_; rintro e w5 ⟨xa, xv, rfl, ho, hb⟩
         rw [← Hl0.out] at ho
         have HRX : Hid (ReadsLf w5 xa xv l0) := ho.reads
         clear ho HT
         replace HRL : Hid (Row17 w5 gl nl cl (saveL 0 l0)) := HRL.out.next hb
         replace HBgd : Hid (Blk w5 gd (cb dg) 28) := HBgd.out.below hb HBgd.out.lt
         replace HBW : Hid (Below w.heap.size w w5) := HBW.out.trans (hb.mono HBW.out.size)
         clear hb)
      | (clear tk6; go_at_call 12; refine (eSave_zero l0 xa xv _ (HK.out.below HBW.out HK.out.lt) HFZ.out HRX.out (Nat.le_trans HOK.out.2.2 (by decide))).mono ?_; rintro e w6 ⟨vm, usm, rfl, hp, hb⟩
         rw [← HDG.out]
         have HRM : Hid (ReadsL w6 vm (saveL 0 l0)) := hp.readsL
         clear hp HRX
         replace HRL : Hid (Row17 w6 gl nl cl (saveL 0 l0)) := HRL.out.next hb
         replace HBgd : Hid (Blk w6 gd (cb dg) 28) := HBgd.out.below hb HBgd.out.lt
         replace HBW : Hid (Below w.heap.size w w6) := HBW.out.trans (hb.mono HBW.out.size)
         clear hb)
      | (clear tk7; with_reducible refine wpSeq_allocD ?_ ?_ ?_
         · rfl
         · rfl
         intro ge w7 nn
         have HN6 : Hid (Blk w7 ge (cb zb32) 28 ∧ w6.heap.size ≤ ge ∧ Below w6.heap.size w6 w7) := ⟨nn.blk, nn.ge, nn.below⟩
         clear nn)
      | (clear tk8; with_reducible refine wpSeq_storeD (.tmp 8) (.tmp 30) ge zb32 dg zb32_len HDL.out HN6.out.1 ?_ ?_ ?_ ?_ ?_
         · rfl
         · rfl
         · rfl
         · rfl
         intro w8 h9
         have hb : Below w6.heap.size w6 w8 := HN6.out.2.2.trans (h9.only.below HN6.out.2.1 HN6.out.2.2.size)
         have HBge : Hid (Blk w8 ge (cb dg) 28) := h9.blk
         clear h9 HN6
         replace HRL : Hid (Row17 w8 gl nl cl (saveL 0 l0)) := HRL.out.next hb
         replace HBgd : Hid (Blk w8 gd (cb dg) 28) := HBgd.out.below hb HBgd.out.lt
         replace HRM : Hid (ReadsL w8 vm (saveL 0 l0)) := HRM.out.below hb
         replace HBW : Hid (Below w.heap.size w w8) := HBW.out.trans (hb.mono HBW.out.size)
         clear hb)
      | (clear tk9; with_reducible refine wpSeq_loadD (.tmp 6) gd dg HDL.out HBgd.out ?_ ?_ ?_ ?_
         · rfl
         · rfl
         · rfl
         have HQ1 : Hid True := trivial)
      | (clear tk10; with_reducible refine wpSeq_loadD (.tmp 8) ge dg HDL.out HBge.out ?_ ?_ ?_ ?_
         · rfl
         · rfl
         · rfl
         have HQ2 : Hid True := trivial)
      | (clear tk11; go_at_call 14; refine (sametexts_any _ _ (saveL 0 l0) (saveL 0 l0) _ HRL.out.rd HRM.out (by have := HSZ.out.1; omega)).mono ?_; rintro e wx ⟨rfl, qd, rfl⟩
         rw [decide_eq_true (rfl : saveL 0 l0 = saveL 0 l0)]
         have hb : Below w8.heap.size w8 (w8.drewN qd) := below_drew17 (Below.refl _ _) qd
         generalize w8.drewN qd = w9 at *
         clear HRM
         replace HRL : Hid (Row17 w9 gl nl cl (saveL 0 l0)) := HRL.out.next hb
         replace HBgd : Hid (Blk w9 gd (cb dg) 28) := HBgd.out.below hb HBgd.out.lt
         replace HBge : Hid (Blk w9 ge (cb dg) 28) := HBge.out.below hb HBge.out.lt
         replace HBW : Hid (Below w.heap.size w w9) := HBW.out.trans (hb.mono HBW.out.size)
         clear hb))
    have HNL : Hid (nl = (saveL 0 l0).length) := HRL.out.len
    obtain ⟨ps, HPP⟩ : ∃ z, Hid (z = saveL 0 l0) := ⟨_, rfl⟩
    rw [← HPP.out] at HRL HNL HSZ
    clear HBgd HBge hqd
    go_loopw [10] (fun i wr => ∃ k : Nat, k ≤ nl ∧ i = .int .i64 k ∧ Hid (Below w9.heap.size w9 wr)) (fun i _ => nl - (intOf i).toNat)
    case atStart => exact ⟨0, Nat.zero_le _, rfl, Below.refl _ _⟩
    case round =>
      obtain ⟨i, hi, rfl, HBL⟩ := hrel
      by_cases hlt : i < nl
      case pos =>
        have hli : (i : Int) < (nl : Int) := by omega
        have HIM : Hid (i < ps.length ∧ i < 1000000) := ⟨by rw [← HNL.out]; exact hlt, by have := HSZ.out.1; have := HNL.out; omega⟩
        have fi : IntKind.i64.wrap ((i : Int) + 1) = (i : Int) + 1 := by rw [IntKind.wrap_i64]; have := HIM.out.2; omega
        obtain ⟨u, hc, hr⟩ := (HRL.out.next HBL.out).at_ i hlt
        have hsz := HSZ.out.2 (ps.getD i []) (by rw [List.getD_eq_getElem?_getD, List.getElem?_eq_getElem HIM.out.1]; exact List.getElem_mem HIM.out.1)
        obtain ⟨ua, uc, rfl, _⟩ := id hr
        obtain ⟨un, HUN⟩ : ∃ z, Hid (z = (ps.getD i []).length) := ⟨_, rfl⟩
        rw [← HUN.out] at hc hsz
        have e0 : ((un : Int) == 0) = false := by rw [beq_eq_false_iff_ne]; omega
        have e1 : ¬ (512 : Int) < (un : Int) := by omega
        clear hr hsz
        have tl0 : Hid True := trivial
        have tl1 : Hid True := trivial
        go_wp2_with (first
          | (clear tl0; with_reducible refine wpSeq_idxQ17 (.tmp 47) (.tmp 48) gl 0 nl cl i hlt ?_ ?_ ?_ ?_ ?_
             · rfl
             · rfl
             · rfl
             · rfl
             rw [Nat.zero_add]
             have HQ3 : Hid True := trivial)
          | (clear tl1; with_reducible refine wpSeq_idxQ17 (.tmp 54) (.tmp 55) gl 0 nl cl i hlt ?_ ?_ ?_ ?_ ?_
             · rfl
             · rfl
             · rfl
             · rfl
             rw [Nat.zero_add]
             have HQ4 : Hid True := trivial))
        go_roundw
        case rel => exact ⟨i + 1, by omega, by simp, HBL⟩
        case measure => simp [intOf]; omega
      case neg =>
        have hie : i = nl := by omega
        subst hie
        replace HBW : Hid (Below w.heap.size w wr) := HBW.out.trans (HBL.out.mono HBW.out.size)
        have tz0 : Hid True := trivial
        go_wp2_with (first
          | (clear tz0; go_at_call 9; refine (works17_any _ (HK.out.below HBW.out HK.out.lt)).mono ?_; rintro e wz ⟨rfl, hz⟩
             have HBZ : Hid (Below w.heap.size w wz) := HBW.out.trans (hz.mono HBW.out.size)
             clear hz))
        go_ret
        exact ⟨rfl, HBZ.out⟩
end Go.Proofs.YtphmmnffgknkcaaDoor
/- What the listed variable gives: the rounds' words lie where the walks look for them. -/
namespace Go.Proofs.YtphmmnffgknkcaaDoor
open Go.ChangeShapes Go.WideShapes Go.ChangeAt Go.WideMaps Go.WideElems Go.RowKit
set_option maxRecDepth 100000
theorem own : ownKnob Tryd.prog.godebug = none := by kernel_rfl
theorem gKw : Tryd.prog.globalNamed "blazon/sha.roundWords" = some 1 := by kernel_rfl
theorem tKw : (Tryd.prog.globals[1]?).map (·.type) = some 118 := by kernel_rfl
def laidK : List (String × DataW Unit) := [("blazon/sha.roundWords", Rows.laid_blazon_sha_roundWords)]
def kzs : List Int := kw.map fun x => (x.toNat : Int)
theorem laid_tab : (Rows.laid_blazon_sha_roundWords : DataW Unit) = Lib.tabData .u32 kzs := by kernel_rfl
theorem door_met (os : Os) (args : Array Value) : laidMetH Tryd.prog laidK ((World.doorLaid Tryd.prog 400 os).forCall (fun _ _ => 0) ⟨#[], args, []⟩).memory :=
  laidMetH_of_parts3 (fuel := 8) (laidMet_of_run' 8 (by kernel_rfl) (by kernel_rfl)) (by kernel_rfl) (by kernel_rfl)
theorem getD_toNat (l : List (BitVec 32)) (j : Nat) : (l.map fun x => (x.toNat : Int)).getD j 0 = ((l.getD j 0).toNat : Int) := by
  rw [List.getD_eq_getElem?_getD, List.getD_eq_getElem?_getD, List.getElem?_map]
  cases l[j]? <;> rfl
theorem kok_of_laid {W : World} (h : laidMetH Tryd.prog laidK W) : KOk W := by
  rw [MakeChecks.laidMetH_plain _ _ _ (by kernel_rfl)] at h
  unfold laidK at h
  rw [laid_tab] at h
  have hT := Lib.tabIs_of_head gKw tKw Tryd.underlying118 Tryd.underlying108 (by kernel_rfl) (by kernel_rfl) h
  intro j hj
  rw [hT.cell gKw j (by simpa [kzs, kw] using hj), kzs, getD_toNat]
end Go.Proofs.YtphmmnffgknkcaaDoor
/- What a slice of bytes that came in gives: the bytes that it reads as; and that it reads so still behind a call that changed no old block. -/
namespace Go.Proofs.YtphmmnffgknkcaaDoor
open Go.ChangeShapes Go.WideShapes Go.ChangeAt Go.WideMaps Go.WideElems Go.RowKit
set_option maxRecDepth 100000
theorem cells_byte : Tryd.prog.cellsOf 5 = 1 := by kernel_rfl
theorem laid_out : laidOutB Tryd.prog = true := by kernel_rfl
theorem byte_range {zs : List Int} (h : ∀ n ∈ zs, (Lit.int .u8 n).wf = true) (j : Nat) : 0 ≤ zs.getD j 0 ∧ zs.getD j 0 < 256 := by
  rw [List.getD_eq_getElem?_getD]
  cases hj : zs[j]? with
  | none => simp
  | some n =>
    have := h n (List.mem_of_getElem? hj)
    have := bounds_u8 this
    simp
    omega
end Go.Proofs.YtphmmnffgknkcaaDoor
/- What a digest that came in gives: its 32 bytes. -/
namespace Go.Proofs.YtphmmnffgknkcaaDoor
open Go.ChangeShapes Go.WideShapes Go.ChangeAt Go.WideMaps Go.WideElems Go.RowKit
set_option maxRecDepth 100000
theorem cells_digest : Tryd.prog.cellsOf 28 = 32 := by kernel_rfl
def numOf8 : Value → BitVec 8
  | .int _ n => BitVec.ofInt 8 n
  | _ => 0
end Go.Proofs.YtphmmnffgknkcaaDoor
/- What a slice of digests that came in gives; five arguments that came in, opened and shut (for the statements of layer 7). -/
namespace Go.Proofs.YtphmmnffgknkcaaDoor
open Go.ChangeShapes Go.WideShapes Go.ChangeAt Go.WideMaps Go.WideElems Go.RowKit
set_option maxRecDepth 100000
set_option maxRecDepth 100000 in
theorem bulk_pos {H : Type} (d : DataW H) : 1 ≤ Rows.uptoBulk d := by
  cases d with
  | lit l => cases l <;> simp [Rows.uptoBulk]
  | _ => simp [Rows.uptoBulk]
set_option maxRecDepth 100000 in
theorem bulk_slice {H : Type} (e s : List (DataW H)) : Rows.uptoBulkAll e ≤ Rows.uptoBulk (DataW.slice e s) := by
  simp only [Rows.uptoBulk]; omega
set_option maxRecDepth 100000 in
theorem bulk_len {H : Type} : ∀ l : List (DataW H), l.length ≤ Rows.uptoBulkAll l
  | [] => Nat.zero_le _
  | d :: r => by
    have h1 := bulk_len r
    have h2 := bulk_pos d
    simp only [Rows.uptoBulkAll, List.length_cons]
    omega
theorem digest_of_cells {H : Type} {enc : TypeId × Value → H} {W : World} {cs : List Value} {d : DataW H} {p : List MemPlace} {fuel : Nat} (hf : DataW.trod enc Tryd.prog W 0 (fun _ => true) true fuel 28 cs = some (d, p)) :
    ∃ dg, cs = cb dg ∧ dg.length = 32 ∧ ∀ x ∈ p, x.block < W.heap.size := by
  obtain ⟨xs, m, _, hx, hl, hn, hi⟩ := DataW.trod_array Tryd.underlying28 hf
  rw [cells_digest] at hl
  rw [cells_byte] at hi
  have each : ∀ i, i < 32 → ∃ n, cs[i]? = some (.int .u8 n) ∧ xs[i]? = some (.lit (.int .u8 n), []) ∧ (Lit.int .u8 n).wf = true := by
    intro i h32
    have h1 := hi i h32
    rw [List.getElem?_eq_getElem (by omega)] at h1
    obtain ⟨n, hc, hxx, hw⟩ := DataW.trod_int Tryd.underlying5 h1
    refine ⟨n, ?_, by rw [List.getElem?_eq_getElem (by omega), hxx], hw⟩
    rw [Nat.mul_one] at hc
    have h2 := congrArg (fun l => l[0]?) hc
    simpa using h2
  have hlen : (cs.map numOf8).length = 32 := by simpa using hl
  refine ⟨cs.map numOf8, ?_, hlen, ?_⟩
  · apply List.ext_getElem?
    intro i
    by_cases h32 : i < 32
    · obtain ⟨n, h1, _, hw⟩ := each i h32
      have hb := bounds_u8 hw
      rw [h1, cb_get _ _ (by omega), List.getD_eq_getElem?_getD, List.getElem?_map, h1]
      simp only [Option.map_some, Option.getD_some, numOf8, BitVec.toNat_ofInt]
      congr 2
      omega
    · rw [List.getElem?_eq_none (by omega), List.getElem?_eq_none (by rw [cb_len]; omega)]
  · simp only [Prod.mk.injEq] at hx
    rw [hx.2]
    intro x hmem
    obtain ⟨y, hy, hxy⟩ := List.mem_flatMap.1 hmem
    obtain ⟨i, hlt, rfl⟩ := List.getElem_of_mem hy
    obtain ⟨n, _, h2, _⟩ := each i (by omega)
    rw [List.getElem?_eq_getElem hlt] at h2
    rw [Option.some.inj h2] at hxy
    cases hxy
set_option maxRecDepth 100000 in
theorem readable_digests : Tryd.prog.readableRec 22 = true := by kernel_rfl
set_option maxRecDepth 100000 in
theorem row_digests : 22 < Tryd.prog.types.size := of_decide_eq_true (by kernel_rfl)
theorem readsD_of_trod {H : Type} {enc : TypeId × Value → H} {W : World} {base : Nat} {v : Value} {d : DataW H} {p : List MemPlace} (hval : Value.okWide Tryd.prog W .any base 22 v)
    (h : DataW.Trod enc Tryd.prog W 0 (fun _ => true) true 22 v d p) :
    ∃ ds, ReadsD W v ds ∧ ds.length ≤ Rows.uptoBulk d ∧ ∀ x ∈ p, x.block < W.heap.size := by
  obtain ⟨a1, len, cap, rfl⟩ := okWide_slice Tryd.underlying22 hval
  obtain ⟨fuel, hf⟩ := h
  rcases Go.Deep.open_slice Tryd.underlying22 hf with ⟨hcs, hx⟩ | ⟨a, len', cap', m, n, D, Pl, hcs, _, hl, hm, hmm, hx, hV⟩
  · simp [Value.cells] at hcs
    obtain ⟨rfl, rfl, rfl⟩ := hcs
    simp only [Prod.mk.injEq] at hx
    obtain ⟨rfl, rfl⟩ := hx
    exact ⟨[], ⟨⟨none, 0, rfl, Nat.le_refl _, fun _ => rfl, fun h => by cases h⟩, fun _ h => by cases h⟩, Nat.zero_le _, fun _ h => by cases h⟩
  · simp [Value.cells] at hcs
    obtain ⟨rfl, rfl, rfl⟩ := hcs
    simp only [Prod.mk.injEq] at hx
    obtain ⟨rfl, rfl⟩ := hx
    simp only [if_true] at hmm
    subst hmm
    rw [cells_digest] at hV
    obtain ⟨B, hB⟩ := Go.Deep.choose_lt (α := List (BitVec 8)) (p := fun i dg => W.cells? 0 (a.add (i * 32)) 32 = some (cb dg) ∧ dg.length = 32 ∧ ∀ x ∈ Pl i, x.block < W.heap.size) (fun i hi => by
      obtain ⟨cs', h1, h2⟩ := hV i hi
      obtain ⟨dg, rfl, h3, h4⟩ := digest_of_cells h2
      exact ⟨dg, h1, h3, h4⟩)
    have hlen : ((List.range len).map B).length = len := by simp
    obtain ⟨ab, ao, spot⟩ := a
    have cell : ∀ i, i < m → ∀ j, j < 32 → W.cell? ((⟨ab, ao, spot⟩ : Addr).add (i * 32 + j)) = (cb (B i))[j]? := by
      intro i hi j hj
      obtain ⟨h1, _, _⟩ := hB i hi
      obtain ⟨_, _, h4⟩ := World.cells?_some h1
      have := h4 j hj
      rw [Go.Deep.add_add] at this
      exact this
    have hspot : 0 < m → spot = none := fun hp => by
      have h := cell 0 hp 0 (by omega)
      rw [cb_get _ 0 (by rw [(hB 0 hp).2.1]; omega)] at h
      simpa [Addr.add] using World.cell?_spot h
    refine ⟨(List.range len).map B, ⟨⟨some ⟨ab, ao, spot⟩, m, by rw [hlen], by rw [hlen]; exact hl, (fun h => by cases h), fun hp => ?_⟩, ?_⟩, by rw [hlen]; exact Nat.le_trans (by have := bulk_len ((List.range len).map D); simpa using this) (bulk_slice _ _), fun x hx => ?_⟩
    · rw [hlen] at hp ⊢
      have hs := hspot (by omega)
      subst hs
      refine ⟨ab, ao, rfl, fun j hj i v hv => ?_⟩
      have e : ((List.range len).map B).getD j [] = B j := by simp [hj]
      rw [e] at hv
      have hi : i < 32 := by have := (List.getElem?_eq_some_iff.1 hv).1; rwa [cb_len, (hB j (by omega)).2.1] at this
      have h := cell j (by omega) i hi
      rw [hv, Addr.add_lit] at h
      rw [Nat.add_assoc]; exact h
    · intro dg hd
      obtain ⟨i, hi, rfl⟩ := List.mem_map.1 hd
      exact (hB i (by have := List.mem_range.1 hi; omega)).2.1
    · rcases List.mem_append.1 hx with hx | hx
      · rw [cells_digest] at hx
        simp only [MemPlace.row, List.mem_map, List.mem_range] at hx
        obtain ⟨i, hi, rfl⟩ := hx
        have h := cell (i / 32) (by omega) (i % 32) (by omega)
        rw [cb_get _ _ (by rw [(hB (i / 32) (by omega)).2.1]; omega), show i / 32 * 32 + i % 32 = i by omega] at h
        have := block_lt_of_cell h
        simp only [Addr.add] at this
        split at this <;> exact this
      · obtain ⟨i, hi, hx⟩ := List.mem_flatMap.1 hx
        exact (hB i (List.mem_range.1 hi)).2.2 x hx
theorem trodAll_five {H : Type} {enc : TypeId × Value → H} {P : Program} {w : World} {base : Nat} {spare : Nat → Bool} {held : Bool} {t0 t1 t2 t3 t4 : TypeId} {args : Array Value} {ds : List (DataW H)} {ps : List MemPlace} (h : DataW.TrodAll enc P w base spare held [t0, t1, t2, t3, t4] args.toList ds ps) :
    ∃ v0 v1 v2 v3 v4 d0 d1 d2 d3 d4 p0 p1 p2 p3 p4, args = #[v0, v1, v2, v3, v4] ∧ ds = [d0, d1, d2, d3, d4] ∧ ps = p0 ++ p1 ++ p2 ++ p3 ++ p4 ∧ DataW.Trod enc P w base spare held t0 v0 d0 p0 ∧ DataW.Trod enc P w base spare held t1 v1 d1 p1 ∧ DataW.Trod enc P w base spare held t2 v2 d2 p2 ∧ DataW.Trod enc P w base spare held t3 v3 d3 p3 ∧ DataW.Trod enc P w base spare held t4 v4 d4 p4 := by
  obtain ⟨v0, vs0, d0, ds0, p0, q0, hargs, rfl, rfl, h0, r0⟩ := trodAll_cons h
  obtain ⟨v1, vs1, d1, ds1, p1, q1, rfl, rfl, rfl, h1, r1⟩ := trodAll_cons r0
  obtain ⟨v2, vs2, d2, ds2, p2, q2, rfl, rfl, rfl, h2, r2⟩ := trodAll_cons r1
  obtain ⟨v3, vs3, d3, ds3, p3, q3, rfl, rfl, rfl, h3, r3⟩ := trodAll_cons r2
  obtain ⟨v4, vs4, d4, ds4, p4, q4, rfl, rfl, rfl, h4, r4⟩ := trodAll_cons r3
  obtain ⟨rfl, rfl, rfl⟩ := trodAll_nil r4
  exact ⟨v0, v1, v2, v3, v4, d0, d1, d2, d3, d4, p0, p1, p2, p3, p4, by cases args; simp_all, rfl, by simp, h0, h1, h2, h3, h4⟩
theorem trodAll_mk5 {H : Type} {enc : TypeId × Value → H} {P : Program} {w : World} {base : Nat} {spare : Nat → Bool} {held : Bool} {t0 t1 t2 t3 t4 : TypeId} {v0 v1 v2 v3 v4 : Value} {d0 d1 d2 d3 d4 : DataW H} {p0 p1 p2 p3 p4 : List MemPlace} (h0 : DataW.Trod enc P w base spare held t0 v0 d0 p0) (h1 : DataW.Trod enc P w base spare held t1 v1 d1 p1) (h2 : DataW.Trod enc P w base spare held t2 v2 d2 p2) (h3 : DataW.Trod enc P w base spare held t3 v3 d3 p3) (h4 : DataW.Trod enc P w base spare held t4 v4 d4 p4) : DataW.TrodAll enc P w base spare held [t0, t1, t2, t3, t4] [v0, v1, v2, v3, v4] [d0, d1, d2, d3, d4] (p0 ++ (p1 ++ (p2 ++ (p3 ++ p4)))) :=
  ⟨p0, _, h0, trodAll_mk4 h1 h2 h3 h4, rfl⟩
end Go.Proofs.YtphmmnffgknkcaaDoor
/- blazonref09.Any: where it is false, no two unlike texts of the list have one digest (layer 17). -/
namespace Go.Proofs.YtphmmnffgknkcaaDoor
open Go.RowKit
set_option maxRecDepth 100000
theorem idxD17 (b off cap n k : Nat) (hk : k < n) (f : Operand → Value) (o : Oper) (x y : Operand) (ho : o.op = .indexAddr 22 x y) (hx : f x = .slice (some ⟨b, off, none⟩) n cap) (hy : f y = .int .i64 (k : Int)) (w : World) :
    (execOp f o).run Tryd.prog w = .ok (.value (.pointer (some ⟨b, off + k * 32, none⟩))) w := by
  have k0 : (0 : Int) ≤ (k : Int) := by omega
  have k1 : (k : Int) < (n : Int) := by omega
  unfold execOp
  rw [ho]
  simp [go_sem, hx, hy, k0, k1, Addr.add_mid]
/-- no two unlike ones have one digest -/
def Apart17 (ls : List By) : Prop := ∀ i j, i < ls.length → j < i → dig (ls.getD j []) = dig (ls.getD i []) → ls.getD j [] = ls.getD i []
theorem apart_mem {ls : List By} (h : Apart17 ls) : ∀ p ∈ ls, ∀ q ∈ ls, dig p = dig q → p = q := by
  intro p hp q hq he
  obtain ⟨i, hi, rfl⟩ := mem_getD.1 hp
  obtain ⟨j, hj, rfl⟩ := mem_getD.1 hq
  rcases Nat.lt_trichotomy i j with h1 | h1 | h1
  · exact h j i hj h1 he
  · rw [h1]
  · exact (h i j hi h1 he.symm).symm
theorem getD_take {α : Type} (l : List α) (n j : Nat) (z : α) (h : j < n) : (l.take n).getD j z = l.getD j z := by
  rw [List.getD_eq_getElem?_getD, List.getD_eq_getElem?_getD, List.getElem?_take_of_lt h]
theorem apart_more {ls : List By} {i : Nat} (h : Apart17 (ls.take i)) (hn : ∀ j, j < i → dig (ls.getD j []) = dig (ls.getD i []) → ls.getD j [] = ls.getD i []) : Apart17 (ls.take (i + 1)) := by
  intro a b ha hb he
  rw [List.length_take] at ha
  rw [getD_take _ _ _ _ (by omega), getD_take _ _ _ _ (by omega)] at he ⊢
  rcases Nat.lt_or_ge a i with h1 | h1
  · have := h a b (by rw [List.length_take]; omega) hb
    rw [getD_take _ _ _ _ (by omega), getD_take _ _ _ _ (by omega)] at this
    exact this he
  · have : a = i := by omega
    subst this
    exact hn b hb he
set_option maxRecDepth 100000 in
set_option maxHeartbeats 8000000 in
theorem any9_any (vl : Value) (ls : List By) (w : World) (hL : ReadsL w vl ls) (hl : ∀ p ∈ ls, p.length < 140737488355000) (hn : ls.length < 1000000) :
    Calls Tryd.prog 16 #[vl] w fun e w' => ∃ t : Bool, e = .returned (.bool t) ∧ (t = false → Apart17 ls) ∧ Below w.heap.size w w' := by
  have HLS : Hid (∀ p ∈ ls, p.length < 140737488355000) := hl
  obtain ⟨ad, cap, hv, _, _, hx⟩ := hL
  obtain ⟨n, HN⟩ : ∃ n, Hid (n = ls.length) := ⟨_, rfl⟩
  rw [← HN.out] at hv
  subst hv
  have HX : Hid (0 < ls.length → ∃ b off, ad = some ⟨b, off, none⟩ ∧ ∀ j, j < ls.length → ∃ vj, w.cell? ⟨b, off + j, none⟩ = some vj ∧ Reads w vj (ls.getD j [])) := hx
  have HNN : Hid (n < 1000000) := by show _ < _; rw [HN.out]; exact hn
  clear hx hl hn
  go_enter Tryd.func16, Tryd.ntmps16
  go_wp2
  go_loopw [3, 4] (fun v i wr => ∃ (k : Nat) (av : Option Addr) (nv cv : Nat), k ≤ n ∧ v = .slice av nv cv ∧ i = .int .i64 k ∧ Hid (OwnD wr w.heap.size (.slice av nv cv) ((ls.take k).map dig)) ∧ Hid (Apart17 (ls.take k)) ∧ Hid (Below w.heap.size w wr)) (fun _ i _ => n - (intOf i).toNat)
  case atStart => exact ⟨0, none, 0, 0, Nat.zero_le _, rfl, rfl, OwnD.nil _ _, (fun i j hi => by simp at hi), Below.refl _ _⟩
  case round =>
    obtain ⟨i, av, nv, cv, hi, rfl, rfl, HO, HAP, HBW⟩ := hrel
    by_cases hlt : i < n
    case pos =>
      have hli : (i : Int) < (n : Int) := by omega
      have fi : IntKind.i64.wrap ((i : Int) + 1) = (i : Int) + 1 := by rw [IntKind.wrap_i64]; have := HNN.out; omega
      have HIL : Hid (i < ls.length) := by show _ < _; rw [← HN.out]; exact hlt
      obtain ⟨bb, off, rfl, hat⟩ := HX.out (by have := HIL.out; omega)
      have HAT : Hid (∀ j, j < ls.length → ∃ aj nj cj, nj = (ls.getD j []).length ∧ ∀ wx, Below w.heap.size w wx → wx.cell? ⟨bb, off + j, none⟩ = some (.slice aj nj cj) ∧ Reads wx (.slice aj nj cj) (ls.getD j [])) := fun j hj => by
        obtain ⟨vj, hc, hr⟩ := hat j hj
        obtain ⟨aj, cj, rfl, _⟩ := id hr
        exact ⟨aj, _, cj, rfl, fun wx hx => ⟨by rw [hx.cell (p := ⟨bb, off + j, none⟩) (block_lt_of_cell hc)]; exact hc, hr.below hx⟩⟩
      clear hat HX
      obtain ⟨p, HP⟩ : ∃ z, Hid (z = ls.getD i []) := ⟨_, rfl⟩
      obtain ⟨a1, n1, c1, hn1, h1⟩ := HAT.out i HIL.out
      rw [← HP.out] at h1
      have HCE : Hid (∀ wx, Below w.heap.size w wx → wx.cell? ⟨bb, off + i, none⟩ = some (.slice a1 n1 c1)) := fun wx hx => (h1 wx hx).1
      have HRP : Hid (∀ wx, Below w.heap.size w wx → Reads wx (.slice a1 n1 c1) p) := fun wx hx => (h1 wx hx).2
      clear hn1 h1
      have HPL : Hid (p.length < 140737488355000) := HLS.out p (by rw [HP.out, List.getD_eq_getElem?_getD, List.getElem?_eq_getElem HIL.out]; exact List.getElem_mem HIL.out)
      obtain ⟨dp, HDP⟩ : ∃ z, Hid (z = dig p) := ⟨_, rfl⟩
      have HDPL : Hid (dp.length = 32) := by show _ = _; rw [HDP.out]; exact len_dig' _
      obtain ⟨D, HDD⟩ : ∃ z, Hid (z = (ls.take (i + 1)).map dig) := ⟨_, rfl⟩
      have HDS : Hid (D = (ls.take i).map dig ++ [dp]) := by
        show _ = _
        rw [HDD.out, HDP.out, HP.out, List.take_add_one, List.getElem?_eq_getElem HIL.out, List.getD_eq_getElem?_getD, List.getElem?_eq_getElem HIL.out, List.map_append, Option.toList_some, List.map_cons, List.map_nil, Option.getD_some]
      have HDL : Hid (D.length = i + 1) := by show _ = _; rw [HDD.out, List.length_map, List.length_take]; have := HIL.out; omega
      have HDJ : Hid (∀ j, j < i + 1 → D.getD j [] = dig (ls.getD j [])) := fun j hj => by
        rw [HDD.out, List.getD_eq_getElem?_getD, List.getElem?_map, List.getElem?_take_of_lt hj, List.getD_eq_getElem?_getD, List.getElem?_eq_getElem (by have := HIL.out; omega : j < ls.length), Option.map_some, Option.getD_some, Option.getD_some]
      have HTL : Hid (((ls.take i).map dig).length < 2000000) := by show _ < _; rw [List.length_map, List.length_take]; have := HNN.out; omega
      obtain ⟨D0, HD0⟩ : ∃ z, Hid (z = (ls.take i).map dig) := ⟨_, rfl⟩
      rw [← HD0.out] at HO HDS HTL
      have hcw : wr.cell? ⟨bb, off + i, none⟩ = some (.slice a1 n1 c1) := HCE.out wr HBW.out
      have tk0 : Hid True := trivial
      have tk1 : Hid True := trivial
      have tk2 : Hid True := trivial
      have tk3 : Hid True := trivial
      go_wp2_with (first
        | (clear tk0; with_reducible refine wpSeq_idxQ17 (.tmp 13) (.tmp 14) bb off n cap i hlt ?_ ?_ ?_ ?_ ?_
           · rfl
           · rfl
           · rfl
           · rfl
           skip)
        | (clear tk1; go_at_call 26; refine (rOf_big _ p _ (HRP.out _ HBW.out) HPL.out).mono ?_; rintro e w5 ⟨rfl, hb⟩
           rw [← HDP.out]
           replace HO : Hid (OwnD w5 w.heap.size (.slice av nv cv) D0) := HO.out.keep fun j _ hj => hb.block j hj
           replace HBW : Hid (Below w.heap.size w w5) := HBW.out.trans (hb.mono HBW.out.size)
           clear hb)
        | (clear tk2; with_reducible refine wpSeq_buildD (.tmp 17) dp HDPL.out ?_ ?_ ?_ ?_
           · rfl
           · rfl
           · rfl
           intro g8 w8 n8
           replace HO : Hid (OwnD w8 w.heap.size (.slice av nv cv) D0) := HO.out.keep fun j _ hj => n8.below.block j hj
           replace HBW : Hid (Below w.heap.size w w8) := HBW.out.trans (n8.below.mono HBW.out.size)
           have H8 : Hid (Blk w8 g8 (cb dp) 28) := n8.blk
           clear n8)
        | (clear tk3; with_reducible refine wpSeq_appendD (.tmp 12) (.tmp 18) w.heap.size (.slice av nv cv) D0 dp g8 HO.out H8.out HDPL.out HTL.out HBW.out.size ?_ ?_ ?_ ?_ ?_
           · rfl
           · rfl
           · rfl
           · rfl
           intro vv9 wz o9 g9
           have HO9 : Hid (OwnD wz w.heap.size vv9 D) := by rw [HDS.out]; exact o9
           have HBZ : Hid (Below w.heap.size w wz) := HBW.out.trans g9.below
           clear o9 g9 HO H8))
      obtain ⟨bD, oD, cD, hvD, hatD⟩ := HO9.out.readsD.at (by have := HDL.out; omega)
      rw [HDL.out] at hvD
      subst hvD
      have HRD : Hid (∀ W, Below wz.heap.size wz W → ∀ j, j < i + 1 → W.rangeAt bD (oD + j * 32) (cb (D.getD j []))) := fun W hW j hj =>
        rangeAt_below (hatD j (by have := HDL.out; omega)) hW (range_lt (hatD j (by have := HDL.out; omega)) (by rw [cb_len, HDJ.out j hj, len_dig']; omega))
      have HBZZ : Hid (∀ W, Below wz.heap.size wz W → Below w.heap.size w W) := fun W hW => HBZ.out.trans (hW.mono HBZ.out.size)
      have HOK : Hid (∀ W, Below wz.heap.size wz W → OwnD W w.heap.size (.slice (some ⟨bD, oD, none⟩) (i + 1) cD) D) := fun W hW => HO9.out.keep fun j _ hj => hW.block j hj
      clear hatD hcw HO9
      go_loopw [5] (fun q w2 => ∃ k : Nat, k ≤ i ∧ q = .int .i64 k ∧ Hid (∀ j, j < k → dig (ls.getD j []) = dp → ls.getD j [] = p) ∧ Hid (Below wz.heap.size wz w2)) (fun q _ => i - (intOf q).toNat)
      case atStart => exact ⟨0, Nat.zero_le _, rfl, (fun j hj => by omega), Below.refl _ _⟩
      case round =>
        rename World => wq
        obtain ⟨k, hk, rfl, HJ, HBQ⟩ := hrel
        by_cases hki : k < i
        case pos =>
          have hlk : (k : Int) < (i : Int) := by omega
          have fk : IntKind.i64.wrap ((k : Int) + 1) = (k : Int) + 1 := by rw [IntKind.wrap_i64]; have := HNN.out; omega
          obtain ⟨a2, n2, c2, hn2, h2⟩ := HAT.out k (by have := HIL.out; omega)
          obtain ⟨q, HQ⟩ : ∃ z, Hid (z = ls.getD k []) := ⟨_, rfl⟩
          rw [← HQ.out] at h2
          have HC2 : Hid (∀ wx, Below w.heap.size w wx → wx.cell? ⟨bb, off + k, none⟩ = some (.slice a2 n2 c2)) := fun wx hx => (h2 wx hx).1
          have HR2 : Hid (∀ wx, Below w.heap.size w wx → Reads wx (.slice a2 n2 c2) q) := fun wx hx => (h2 wx hx).2
          clear hn2 h2
          obtain ⟨dk, HDK⟩ : ∃ z, Hid (z = dig q) := ⟨_, rfl⟩
          have HDKL : Hid (dk.length = 32) := by show _ = _; rw [HDK.out]; exact len_dig' _
          have HRK : Hid (∀ W, Below wz.heap.size wz W → W.rangeAt bD (oD + k * 32) (cb dk)) := fun W hW => by have := HRD.out W hW k (by omega); rw [HDJ.out k (by omega), ← HQ.out, ← HDK.out] at this; exact this
          have HRI : Hid (∀ W, Below wz.heap.size wz W → W.rangeAt bD (oD + i * 32) (cb dp)) := fun W hW => by have := HRD.out W hW i (by omega); rw [HDJ.out i (by omega), ← HP.out, ← HDP.out] at this; exact this
          obtain ⟨c1b, HCB⟩ : ∃ z, Hid (z = decide (dk = dp)) := ⟨_, rfl⟩
          obtain ⟨c2b, HCC⟩ : ∃ z, Hid (z = decide (q ≠ p)) := ⟨_, rfl⟩
          have HEQ : Hid ((!((strB q).toList == (strB p).toList)) = c2b) := by show _ = _; rw [strB_inj, HCC.out]; by_cases h : q = p <;> simp [h]
          have HNX : Hid ((c1b && c2b) = false → ∀ j, j < k + 1 → dig (ls.getD j []) = dp → ls.getD j [] = p) := fun hf j hj he => by
            rcases Nat.lt_or_ge j k with h1 | h1
            · exact HJ.out j h1 he
            · have : j = k := by omega
              subst this
              rw [← HQ.out] at he ⊢
              rw [HCB.out, HCC.out, decide_eq_true (by rw [HDK.out]; exact he)] at hf
              simpa using hf
          cases c1b with
          | false =>
            have HN2 : Hid (∀ j, j < k + 1 → dig (ls.getD j []) = dp → ls.getD j [] = p) := HNX.out rfl
            go_wp2
            refine wp_region_held_drew (S := fun W => W = wq.drew) (by kernel_rfl) rfl ?_
            intro hS
            have HBQ2 : Hid (Below wz.heap.size wz wq.drew) := HBQ.out.drew
            obtain ⟨y, HY⟩ : ∃ z, z = wq.drew := ⟨_, rfl⟩
            rw [← HY] at HBQ2 hS ⊢
            refine wpAnyH_take (i := 0) (v := .slice (some ⟨bD, oD, none⟩) (i + 1) cD) rfl (by kernel_rfl) (by kernel_rfl) (by kernel_rfl) (fun _ _ _ h => h) (Or.inl ⟨by rfl, fun wx hx => by simp [go_sem]⟩) hS ?_
            simp only [Act.put, List.getElem_toArray, List.getElem_cons_zero, List.setIfInBounds_toArray, List.set_cons_zero, List.set_cons_succ]
            refine wpAnyH_take (i := 1) (v := .int .i64 (k : Int)) rfl (by kernel_rfl) (by kernel_rfl) (by kernel_rfl) (fun _ _ _ h => h) (Or.inl ⟨by rfl, fun wx hx => by simp [go_sem]⟩) hS ?_
            simp only [Act.put, List.getElem_toArray, List.getElem_cons_succ, List.getElem_cons_zero, List.setIfInBounds_toArray, List.set_cons_zero, List.set_cons_succ]
            refine wpAnyH_take (i := 2) (v := .pointer (some ⟨bD, oD + k * 32, none⟩)) rfl (by kernel_rfl) (by kernel_rfl) (by kernel_rfl) (fun _ _ _ h => h) (Or.inl ⟨by rfl, fun wx hx => by exact idxD17 bD oD cD (i + 1) k (by omega) _ _ _ _ rfl rfl rfl _⟩) hS ?_
            simp only [Act.put, List.getElem_toArray, List.getElem_cons_succ, List.getElem_cons_zero, List.setIfInBounds_toArray, List.set_cons_zero, List.set_cons_succ]
            refine wpAnyH_take (i := 3) (v := .agg (cb dk).toArray) rfl (by kernel_rfl) (by kernel_rfl) (by kernel_rfl) (fun _ _ _ h => h) (Or.inl ⟨by rfl, fun wx hx => by (rw [hx]; have hr := HRK.out _ HBQ2.out; exact load_run 28 _ rfl _ _ rfl (cb dk) _ hr Tryd.underlying28 rfl (by rw [cb_len, HDKL.out]; exact info_digest))⟩) hS ?_
            simp only [Act.put, List.getElem_toArray, List.getElem_cons_succ, List.getElem_cons_zero, List.setIfInBounds_toArray, List.set_cons_zero, List.set_cons_succ]
            refine wpAnyH_take (i := 4) (v := .slice (some ⟨bD, oD, none⟩) (i + 1) cD) rfl (by kernel_rfl) (by kernel_rfl) (by kernel_rfl) (fun _ _ _ h => h) (Or.inl ⟨by rfl, fun wx hx => by simp [go_sem]⟩) hS ?_
            simp only [Act.put, List.getElem_toArray, List.getElem_cons_succ, List.getElem_cons_zero, List.setIfInBounds_toArray, List.set_cons_zero, List.set_cons_succ]
            refine wpAnyH_take (i := 5) (v := .int .i64 (i : Int)) rfl (by kernel_rfl) (by kernel_rfl) (by kernel_rfl) (fun _ _ _ h => h) (Or.inl ⟨by rfl, fun wx hx => by simp [go_sem]⟩) hS ?_
            simp only [Act.put, List.getElem_toArray, List.getElem_cons_succ, List.getElem_cons_zero, List.setIfInBounds_toArray, List.set_cons_zero, List.set_cons_succ]
            refine wpAnyH_take (i := 6) (v := .pointer (some ⟨bD, oD + i * 32, none⟩)) rfl (by kernel_rfl) (by kernel_rfl) (by kernel_rfl) (fun _ _ _ h => h) (Or.inl ⟨by rfl, fun wx hx => by exact idxD17 bD oD cD (i + 1) i (by omega) _ _ _ _ rfl rfl rfl _⟩) hS ?_
            simp only [Act.put, List.getElem_toArray, List.getElem_cons_succ, List.getElem_cons_zero, List.setIfInBounds_toArray, List.set_cons_zero, List.set_cons_succ]
            refine wpAnyH_take (i := 7) (v := .agg (cb dp).toArray) rfl (by kernel_rfl) (by kernel_rfl) (by kernel_rfl) (fun _ _ _ h => h) (Or.inl ⟨by rfl, fun wx hx => by (rw [hx]; have hr := HRI.out _ HBQ2.out; exact load_run 28 _ rfl _ _ rfl (cb dp) _ hr Tryd.underlying28 rfl (by rw [cb_len, HDPL.out]; exact info_digest))⟩) hS ?_
            simp only [Act.put, List.getElem_toArray, List.getElem_cons_succ, List.getElem_cons_zero, List.setIfInBounds_toArray, List.set_cons_zero, List.set_cons_succ]
            refine wpAnyH_take (i := 8) (v := .bool false) rfl (by kernel_rfl) (by kernel_rfl) (by kernel_rfl) (fun _ _ _ h => h) (Or.inl ⟨by rfl, fun wx hx => by (have hq := eq_dig dk dp HDKL.out HDPL.out wx; rw [← HCB.out] at hq; simp [go_sem, hq])⟩) hS ?_
            simp only [Act.put, List.getElem_toArray, List.getElem_cons_succ, List.getElem_cons_zero, List.setIfInBounds_toArray, List.set_cons_zero, List.set_cons_succ]
            refine wpAnyH_take (i := 9) (v := .bool false) rfl (by kernel_rfl) (by kernel_rfl) (by kernel_rfl) (fun _ _ _ h => h) (Or.inl ⟨by rfl, fun wx hx => by simp [go_sem]⟩) hS ?_
            simp only [Act.put, List.getElem_toArray, List.getElem_cons_succ, List.getElem_cons_zero, List.setIfInBounds_toArray, List.set_cons_zero, List.set_cons_succ]
            refine wpAnyH_take (i := 10) (v := undef) rfl (by kernel_rfl) (by kernel_rfl) (by kernel_rfl) (fun _ _ _ h => h) (Or.inr ⟨by rfl, rfl⟩) hS ?_
            simp only [Act.put, List.getElem_toArray, List.getElem_cons_succ, List.getElem_cons_zero, List.setIfInBounds_toArray, List.set_cons_zero, List.set_cons_succ]
            refine wpAnyH_take (i := 11) (v := undef) rfl (by kernel_rfl) (by kernel_rfl) (by kernel_rfl) (fun _ _ _ h => h) (Or.inr ⟨by rfl, rfl⟩) hS ?_
            simp only [Act.put, List.getElem_toArray, List.getElem_cons_succ, List.getElem_cons_zero, List.setIfInBounds_toArray, List.set_cons_zero, List.set_cons_succ]
            refine wpAnyH_take (i := 12) (v := undef) rfl (by kernel_rfl) (by kernel_rfl) (by kernel_rfl) (fun _ _ _ h => h) (Or.inr ⟨by rfl, rfl⟩) hS ?_
            simp only [Act.put, List.getElem_toArray, List.getElem_cons_succ, List.getElem_cons_zero, List.setIfInBounds_toArray, List.set_cons_zero, List.set_cons_succ]
            refine wpAnyH_take (i := 13) (v := undef) rfl (by kernel_rfl) (by kernel_rfl) (by kernel_rfl) (fun _ _ _ h => h) (Or.inr ⟨by rfl, rfl⟩) hS ?_
            simp only [Act.put, List.getElem_toArray, List.getElem_cons_succ, List.getElem_cons_zero, List.setIfInBounds_toArray, List.set_cons_zero, List.set_cons_succ]
            refine wpAnyH_take (i := 14) (v := undef) rfl (by kernel_rfl) (by kernel_rfl) (by kernel_rfl) (fun _ _ _ h => h) (Or.inr ⟨by rfl, rfl⟩) hS ?_
            simp only [Act.put, List.getElem_toArray, List.getElem_cons_succ, List.getElem_cons_zero, List.setIfInBounds_toArray, List.set_cons_zero, List.set_cons_succ]
            refine wpAnyH_take (i := 15) (v := undef) rfl (by kernel_rfl) (by kernel_rfl) (by kernel_rfl) (fun _ _ _ h => h) (Or.inr ⟨by rfl, rfl⟩) hS ?_
            simp only [Act.put, List.getElem_toArray, List.getElem_cons_succ, List.getElem_cons_zero, List.setIfInBounds_toArray, List.set_cons_zero, List.set_cons_succ]
            refine wpAnyH_take (i := 16) (v := undef) rfl (by kernel_rfl) (by kernel_rfl) (by kernel_rfl) (fun _ _ _ h => h) (Or.inr ⟨by rfl, rfl⟩) hS ?_
            simp only [Act.put, List.getElem_toArray, List.getElem_cons_succ, List.getElem_cons_zero, List.setIfInBounds_toArray, List.set_cons_zero, List.set_cons_succ]
            refine wpAnyH_take (i := 17) (v := undef) rfl (by kernel_rfl) (by kernel_rfl) (by kernel_rfl) (fun _ _ _ h => h) (Or.inr ⟨by rfl, rfl⟩) hS ?_
            simp only [Act.put, List.getElem_toArray, List.getElem_cons_succ, List.getElem_cons_zero, List.setIfInBounds_toArray, List.set_cons_zero, List.set_cons_succ]
            refine wpAnyH_take (i := 18) (v := undef) rfl (by kernel_rfl) (by kernel_rfl) (by kernel_rfl) (fun _ _ _ h => h) (Or.inr ⟨by rfl, rfl⟩) hS ?_
            simp only [Act.put, List.getElem_toArray, List.getElem_cons_succ, List.getElem_cons_zero, List.setIfInBounds_toArray, List.set_cons_zero, List.set_cons_succ]
            refine wpAnyH_take (i := 19) (v := undef) rfl (by kernel_rfl) (by kernel_rfl) (by kernel_rfl) (fun _ _ _ h => h) (Or.inr ⟨by rfl, rfl⟩) hS ?_
            simp only [Act.put, List.getElem_toArray, List.getElem_cons_succ, List.getElem_cons_zero, List.setIfInBounds_toArray, List.set_cons_zero, List.set_cons_succ]
            refine wpAnyH_take (i := 20) (v := undef) rfl (by kernel_rfl) (by kernel_rfl) (by kernel_rfl) (fun _ _ _ h => h) (Or.inr ⟨by rfl, rfl⟩) hS ?_
            simp only [Act.put, List.getElem_toArray, List.getElem_cons_succ, List.getElem_cons_zero, List.setIfInBounds_toArray, List.set_cons_zero, List.set_cons_succ]
            refine wpAnyH_take (i := 21) (v := .bool false) rfl (by kernel_rfl) (by kernel_rfl) (by kernel_rfl) (fun _ _ _ h => h) (Or.inl ⟨by rfl, fun wx hx => by simp [go_sem]⟩) hS ?_
            simp only [Act.put, List.getElem_toArray, List.getElem_cons_succ, List.getElem_cons_zero, List.setIfInBounds_toArray, List.set_cons_zero, List.set_cons_succ]
            refine wpAnyH_done (by kernel_rfl) ?_ _
            clear hS HY
            go_wp2
            go_roundw
            case rel => exact ⟨k + 1, by omega, by simp, HN2, HBQ2⟩
            case measure => simp [intOf]; omega
          | true =>
            cases c2b with
            | false =>
              have HN2 : Hid (∀ j, j < k + 1 → dig (ls.getD j []) = dp → ls.getD j [] = p) := HNX.out rfl
              go_wp2
              refine wp_region_held_drew (S := fun W => W = wq.drew) (by kernel_rfl) rfl ?_
              intro hS
              have HBQ2 : Hid (Below wz.heap.size wz wq.drew) := HBQ.out.drew
              obtain ⟨y, HY⟩ : ∃ z, z = wq.drew := ⟨_, rfl⟩
              rw [← HY] at HBQ2 hS ⊢
              refine wpAnyH_take (i := 0) (v := .slice (some ⟨bD, oD, none⟩) (i + 1) cD) rfl (by kernel_rfl) (by kernel_rfl) (by kernel_rfl) (fun _ _ _ h => h) (Or.inl ⟨by rfl, fun wx hx => by simp [go_sem]⟩) hS ?_
              simp only [Act.put, List.getElem_toArray, List.getElem_cons_zero, List.setIfInBounds_toArray, List.set_cons_zero, List.set_cons_succ]
              refine wpAnyH_take (i := 1) (v := .int .i64 (k : Int)) rfl (by kernel_rfl) (by kernel_rfl) (by kernel_rfl) (fun _ _ _ h => h) (Or.inl ⟨by rfl, fun wx hx => by simp [go_sem]⟩) hS ?_
              simp only [Act.put, List.getElem_toArray, List.getElem_cons_succ, List.getElem_cons_zero, List.setIfInBounds_toArray, List.set_cons_zero, List.set_cons_succ]
              refine wpAnyH_take (i := 2) (v := .pointer (some ⟨bD, oD + k * 32, none⟩)) rfl (by kernel_rfl) (by kernel_rfl) (by kernel_rfl) (fun _ _ _ h => h) (Or.inl ⟨by rfl, fun wx hx => by exact idxD17 bD oD cD (i + 1) k (by omega) _ _ _ _ rfl rfl rfl _⟩) hS ?_
              simp only [Act.put, List.getElem_toArray, List.getElem_cons_succ, List.getElem_cons_zero, List.setIfInBounds_toArray, List.set_cons_zero, List.set_cons_succ]
              refine wpAnyH_take (i := 3) (v := .agg (cb dk).toArray) rfl (by kernel_rfl) (by kernel_rfl) (by kernel_rfl) (fun _ _ _ h => h) (Or.inl ⟨by rfl, fun wx hx => by (rw [hx]; have hr := HRK.out _ HBQ2.out; exact load_run 28 _ rfl _ _ rfl (cb dk) _ hr Tryd.underlying28 rfl (by rw [cb_len, HDKL.out]; exact info_digest))⟩) hS ?_
              simp only [Act.put, List.getElem_toArray, List.getElem_cons_succ, List.getElem_cons_zero, List.setIfInBounds_toArray, List.set_cons_zero, List.set_cons_succ]
              refine wpAnyH_take (i := 4) (v := .slice (some ⟨bD, oD, none⟩) (i + 1) cD) rfl (by kernel_rfl) (by kernel_rfl) (by kernel_rfl) (fun _ _ _ h => h) (Or.inl ⟨by rfl, fun wx hx => by simp [go_sem]⟩) hS ?_
              simp only [Act.put, List.getElem_toArray, List.getElem_cons_succ, List.getElem_cons_zero, List.setIfInBounds_toArray, List.set_cons_zero, List.set_cons_succ]
              refine wpAnyH_take (i := 5) (v := .int .i64 (i : Int)) rfl (by kernel_rfl) (by kernel_rfl) (by kernel_rfl) (fun _ _ _ h => h) (Or.inl ⟨by rfl, fun wx hx => by simp [go_sem]⟩) hS ?_
              simp only [Act.put, List.getElem_toArray, List.getElem_cons_succ, List.getElem_cons_zero, List.setIfInBounds_toArray, List.set_cons_zero, List.set_cons_succ]
              refine wpAnyH_take (i := 6) (v := .pointer (some ⟨bD, oD + i * 32, none⟩)) rfl (by kernel_rfl) (by kernel_rfl) (by kernel_rfl) (fun _ _ _ h => h) (Or.inl ⟨by rfl, fun wx hx => by exact idxD17 bD oD cD (i + 1) i (by omega) _ _ _ _ rfl rfl rfl _⟩) hS ?_
              simp only [Act.put, List.getElem_toArray, List.getElem_cons_succ, List.getElem_cons_zero, List.setIfInBounds_toArray, List.set_cons_zero, List.set_cons_succ]
              refine wpAnyH_take (i := 7) (v := .agg (cb dp).toArray) rfl (by kernel_rfl) (by kernel_rfl) (by kernel_rfl) (fun _ _ _ h => h) (Or.inl ⟨by rfl, fun wx hx => by (rw [hx]; have hr := HRI.out _ HBQ2.out; exact load_run 28 _ rfl _ _ rfl (cb dp) _ hr Tryd.underlying28 rfl (by rw [cb_len, HDPL.out]; exact info_digest))⟩) hS ?_
              simp only [Act.put, List.getElem_toArray, List.getElem_cons_succ, List.getElem_cons_zero, List.setIfInBounds_toArray, List.set_cons_zero, List.set_cons_succ]
              refine wpAnyH_take (i := 8) (v := .bool true) rfl (by kernel_rfl) (by kernel_rfl) (by kernel_rfl) (fun _ _ _ h => h) (Or.inl ⟨by rfl, fun wx hx => by (have hq := eq_dig dk dp HDKL.out HDPL.out wx; rw [← HCB.out] at hq; simp [go_sem, hq])⟩) hS ?_
              simp only [Act.put, List.getElem_toArray, List.getElem_cons_succ, List.getElem_cons_zero, List.setIfInBounds_toArray, List.set_cons_zero, List.set_cons_succ]
              refine wpAnyH_take (i := 9) (v := .bool true) rfl (by kernel_rfl) (by kernel_rfl) (by kernel_rfl) (fun _ _ _ h => h) (Or.inl ⟨by rfl, fun wx hx => by simp [go_sem]⟩) hS ?_
              simp only [Act.put, List.getElem_toArray, List.getElem_cons_succ, List.getElem_cons_zero, List.setIfInBounds_toArray, List.set_cons_zero, List.set_cons_succ]
              refine wpAnyH_take (i := 10) (v := .slice (some ⟨bb, off, none⟩) n cap) rfl (by kernel_rfl) (by kernel_rfl) (by kernel_rfl) (fun _ _ _ h => h) (Or.inl ⟨by rfl, fun wx hx => by simp [go_sem]⟩) hS ?_
              simp only [Act.put, List.getElem_toArray, List.getElem_cons_succ, List.getElem_cons_zero, List.setIfInBounds_toArray, List.set_cons_zero, List.set_cons_succ]
              refine wpAnyH_take (i := 11) (v := .int .i64 (k : Int)) rfl (by kernel_rfl) (by kernel_rfl) (by kernel_rfl) (fun _ _ _ h => h) (Or.inl ⟨by rfl, fun wx hx => by simp [go_sem]⟩) hS ?_
              simp only [Act.put, List.getElem_toArray, List.getElem_cons_succ, List.getElem_cons_zero, List.setIfInBounds_toArray, List.set_cons_zero, List.set_cons_succ]
              refine wpAnyH_take (i := 12) (v := .pointer (some ⟨bb, off + k, none⟩)) rfl (by kernel_rfl) (by kernel_rfl) (by kernel_rfl) (fun _ _ _ h => h) (Or.inl ⟨by rfl, fun wx hx => by exact idxQ bb off n cap k (by omega) _ _ _ _ rfl rfl rfl _⟩) hS ?_
              simp only [Act.put, List.getElem_toArray, List.getElem_cons_succ, List.getElem_cons_zero, List.setIfInBounds_toArray, List.set_cons_zero, List.set_cons_succ]
              refine wpAnyH_take (i := 13) (v := .slice a2 n2 c2) rfl (by kernel_rfl) (by kernel_rfl) (by kernel_rfl) (fun _ _ _ h => h) (Or.inl ⟨by rfl, fun wx hx => by (rw [hx]; have hc := HC2.out _ (HBZZ.out _ HBQ2.out); simp [go_sem, hc])⟩) hS ?_
              simp only [Act.put, List.getElem_toArray, List.getElem_cons_succ, List.getElem_cons_zero, List.setIfInBounds_toArray, List.set_cons_zero, List.set_cons_succ]
              refine wpAnyH_take (i := 14) (v := .string (strB q)) rfl (by kernel_rfl) (by kernel_rfl) (by kernel_rfl) (fun _ _ _ h => h) (Or.inl ⟨by rfl, fun wx hx => by (rw [hx]; have hc := conv_reads (HR2.out _ (HBZZ.out _ HBQ2.out)); simp [go_sem, hc])⟩) hS ?_
              simp only [Act.put, List.getElem_toArray, List.getElem_cons_succ, List.getElem_cons_zero, List.setIfInBounds_toArray, List.set_cons_zero, List.set_cons_succ]
              refine wpAnyH_take (i := 15) (v := .slice (some ⟨bb, off, none⟩) n cap) rfl (by kernel_rfl) (by kernel_rfl) (by kernel_rfl) (fun _ _ _ h => h) (Or.inl ⟨by rfl, fun wx hx => by simp [go_sem]⟩) hS ?_
              simp only [Act.put, List.getElem_toArray, List.getElem_cons_succ, List.getElem_cons_zero, List.setIfInBounds_toArray, List.set_cons_zero, List.set_cons_succ]
              refine wpAnyH_take (i := 16) (v := .int .i64 (i : Int)) rfl (by kernel_rfl) (by kernel_rfl) (by kernel_rfl) (fun _ _ _ h => h) (Or.inl ⟨by rfl, fun wx hx => by simp [go_sem]⟩) hS ?_
              simp only [Act.put, List.getElem_toArray, List.getElem_cons_succ, List.getElem_cons_zero, List.setIfInBounds_toArray, List.set_cons_zero, List.set_cons_succ]
              refine wpAnyH_take (i := 17) (v := .pointer (some ⟨bb, off + i, none⟩)) rfl (by kernel_rfl) (by kernel_rfl) (by kernel_rfl) (fun _ _ _ h => h) (Or.inl ⟨by rfl, fun wx hx => by exact idxQ bb off n cap i hlt _ _ _ _ rfl rfl rfl _⟩) hS ?_
              simp only [Act.put, List.getElem_toArray, List.getElem_cons_succ, List.getElem_cons_zero, List.setIfInBounds_toArray, List.set_cons_zero, List.set_cons_succ]
              refine wpAnyH_take (i := 18) (v := .slice a1 n1 c1) rfl (by kernel_rfl) (by kernel_rfl) (by kernel_rfl) (fun _ _ _ h => h) (Or.inl ⟨by rfl, fun wx hx => by (rw [hx]; have hc := HCE.out _ (HBZZ.out _ HBQ2.out); simp [go_sem, hc])⟩) hS ?_
              simp only [Act.put, List.getElem_toArray, List.getElem_cons_succ, List.getElem_cons_zero, List.setIfInBounds_toArray, List.set_cons_zero, List.set_cons_succ]
              refine wpAnyH_take (i := 19) (v := .string (strB p)) rfl (by kernel_rfl) (by kernel_rfl) (by kernel_rfl) (fun _ _ _ h => h) (Or.inl ⟨by rfl, fun wx hx => by (rw [hx]; have hc := conv_reads (HRP.out _ (HBZZ.out _ HBQ2.out)); simp [go_sem, hc])⟩) hS ?_
              simp only [Act.put, List.getElem_toArray, List.getElem_cons_succ, List.getElem_cons_zero, List.setIfInBounds_toArray, List.set_cons_zero, List.set_cons_succ]
              refine wpAnyH_take (i := 20) (v := .bool false) rfl (by kernel_rfl) (by kernel_rfl) (by kernel_rfl) (fun _ _ _ h => h) (Or.inl ⟨by rfl, fun wx hx => by (have hs := HEQ.out; simpa [go_sem] using hs)⟩) hS ?_
              simp only [Act.put, List.getElem_toArray, List.getElem_cons_succ, List.getElem_cons_zero, List.setIfInBounds_toArray, List.set_cons_zero, List.set_cons_succ]
              refine wpAnyH_take (i := 21) (v := .bool false) rfl (by kernel_rfl) (by kernel_rfl) (by kernel_rfl) (fun _ _ _ h => h) (Or.inl ⟨by rfl, fun wx hx => by simp [go_sem]⟩) hS ?_
              simp only [Act.put, List.getElem_toArray, List.getElem_cons_succ, List.getElem_cons_zero, List.setIfInBounds_toArray, List.set_cons_zero, List.set_cons_succ]
              refine wpAnyH_done (by kernel_rfl) ?_ _
              clear hS HY
              go_wp2
              go_roundw
              case rel => exact ⟨k + 1, by omega, by simp, HN2, HBQ2⟩
              case measure => simp [intOf]; omega
            | true =>
              go_wp2
              refine wp_region_held_drew (S := fun W => W = wq.drew) (by kernel_rfl) rfl ?_
              intro hS
              have HBQ2 : Hid (Below wz.heap.size wz wq.drew) := HBQ.out.drew
              obtain ⟨y, HY⟩ : ∃ z, z = wq.drew := ⟨_, rfl⟩
              rw [← HY] at HBQ2 hS ⊢
              refine wpAnyH_take (i := 0) (v := .slice (some ⟨bD, oD, none⟩) (i + 1) cD) rfl (by kernel_rfl) (by kernel_rfl) (by kernel_rfl) (fun _ _ _ h => h) (Or.inl ⟨by rfl, fun wx hx => by simp [go_sem]⟩) hS ?_
              simp only [Act.put, List.getElem_toArray, List.getElem_cons_zero, List.setIfInBounds_toArray, List.set_cons_zero, List.set_cons_succ]
              refine wpAnyH_take (i := 1) (v := .int .i64 (k : Int)) rfl (by kernel_rfl) (by kernel_rfl) (by kernel_rfl) (fun _ _ _ h => h) (Or.inl ⟨by rfl, fun wx hx => by simp [go_sem]⟩) hS ?_
              simp only [Act.put, List.getElem_toArray, List.getElem_cons_succ, List.getElem_cons_zero, List.setIfInBounds_toArray, List.set_cons_zero, List.set_cons_succ]
              refine wpAnyH_take (i := 2) (v := .pointer (some ⟨bD, oD + k * 32, none⟩)) rfl (by kernel_rfl) (by kernel_rfl) (by kernel_rfl) (fun _ _ _ h => h) (Or.inl ⟨by rfl, fun wx hx => by exact idxD17 bD oD cD (i + 1) k (by omega) _ _ _ _ rfl rfl rfl _⟩) hS ?_
              simp only [Act.put, List.getElem_toArray, List.getElem_cons_succ, List.getElem_cons_zero, List.setIfInBounds_toArray, List.set_cons_zero, List.set_cons_succ]
              refine wpAnyH_take (i := 3) (v := .agg (cb dk).toArray) rfl (by kernel_rfl) (by kernel_rfl) (by kernel_rfl) (fun _ _ _ h => h) (Or.inl ⟨by rfl, fun wx hx => by (rw [hx]; have hr := HRK.out _ HBQ2.out; exact load_run 28 _ rfl _ _ rfl (cb dk) _ hr Tryd.underlying28 rfl (by rw [cb_len, HDKL.out]; exact info_digest))⟩) hS ?_
              simp only [Act.put, List.getElem_toArray, List.getElem_cons_succ, List.getElem_cons_zero, List.setIfInBounds_toArray, List.set_cons_zero, List.set_cons_succ]
              refine wpAnyH_take (i := 4) (v := .slice (some ⟨bD, oD, none⟩) (i + 1) cD) rfl (by kernel_rfl) (by kernel_rfl) (by kernel_rfl) (fun _ _ _ h => h) (Or.inl ⟨by rfl, fun wx hx => by simp [go_sem]⟩) hS ?_
              simp only [Act.put, List.getElem_toArray, List.getElem_cons_succ, List.getElem_cons_zero, List.setIfInBounds_toArray, List.set_cons_zero, List.set_cons_succ]
              refine wpAnyH_take (i := 5) (v := .int .i64 (i : Int)) rfl (by kernel_rfl) (by kernel_rfl) (by kernel_rfl) (fun _ _ _ h => h) (Or.inl ⟨by rfl, fun wx hx => by simp [go_sem]⟩) hS ?_
              simp only [Act.put, List.getElem_toArray, List.getElem_cons_succ, List.getElem_cons_zero, List.setIfInBounds_toArray, List.set_cons_zero, List.set_cons_succ]
              refine wpAnyH_take (i := 6) (v := .pointer (some ⟨bD, oD + i * 32, none⟩)) rfl (by kernel_rfl) (by kernel_rfl) (by kernel_rfl) (fun _ _ _ h => h) (Or.inl ⟨by rfl, fun wx hx => by exact idxD17 bD oD cD (i + 1) i (by omega) _ _ _ _ rfl rfl rfl _⟩) hS ?_
              simp only [Act.put, List.getElem_toArray, List.getElem_cons_succ, List.getElem_cons_zero, List.setIfInBounds_toArray, List.set_cons_zero, List.set_cons_succ]
              refine wpAnyH_take (i := 7) (v := .agg (cb dp).toArray) rfl (by kernel_rfl) (by kernel_rfl) (by kernel_rfl) (fun _ _ _ h => h) (Or.inl ⟨by rfl, fun wx hx => by (rw [hx]; have hr := HRI.out _ HBQ2.out; exact load_run 28 _ rfl _ _ rfl (cb dp) _ hr Tryd.underlying28 rfl (by rw [cb_len, HDPL.out]; exact info_digest))⟩) hS ?_
              simp only [Act.put, List.getElem_toArray, List.getElem_cons_succ, List.getElem_cons_zero, List.setIfInBounds_toArray, List.set_cons_zero, List.set_cons_succ]
              refine wpAnyH_take (i := 8) (v := .bool true) rfl (by kernel_rfl) (by kernel_rfl) (by kernel_rfl) (fun _ _ _ h => h) (Or.inl ⟨by rfl, fun wx hx => by (have hq := eq_dig dk dp HDKL.out HDPL.out wx; rw [← HCB.out] at hq; simp [go_sem, hq])⟩) hS ?_
              simp only [Act.put, List.getElem_toArray, List.getElem_cons_succ, List.getElem_cons_zero, List.setIfInBounds_toArray, List.set_cons_zero, List.set_cons_succ]
              refine wpAnyH_take (i := 9) (v := .bool true) rfl (by kernel_rfl) (by kernel_rfl) (by kernel_rfl) (fun _ _ _ h => h) (Or.inl ⟨by rfl, fun wx hx => by simp [go_sem]⟩) hS ?_
              simp only [Act.put, List.getElem_toArray, List.getElem_cons_succ, List.getElem_cons_zero, List.setIfInBounds_toArray, List.set_cons_zero, List.set_cons_succ]
              refine wpAnyH_take (i := 10) (v := .slice (some ⟨bb, off, none⟩) n cap) rfl (by kernel_rfl) (by kernel_rfl) (by kernel_rfl) (fun _ _ _ h => h) (Or.inl ⟨by rfl, fun wx hx => by simp [go_sem]⟩) hS ?_
              simp only [Act.put, List.getElem_toArray, List.getElem_cons_succ, List.getElem_cons_zero, List.setIfInBounds_toArray, List.set_cons_zero, List.set_cons_succ]
              refine wpAnyH_take (i := 11) (v := .int .i64 (k : Int)) rfl (by kernel_rfl) (by kernel_rfl) (by kernel_rfl) (fun _ _ _ h => h) (Or.inl ⟨by rfl, fun wx hx => by simp [go_sem]⟩) hS ?_
              simp only [Act.put, List.getElem_toArray, List.getElem_cons_succ, List.getElem_cons_zero, List.setIfInBounds_toArray, List.set_cons_zero, List.set_cons_succ]
              refine wpAnyH_take (i := 12) (v := .pointer (some ⟨bb, off + k, none⟩)) rfl (by kernel_rfl) (by kernel_rfl) (by kernel_rfl) (fun _ _ _ h => h) (Or.inl ⟨by rfl, fun wx hx => by exact idxQ bb off n cap k (by omega) _ _ _ _ rfl rfl rfl _⟩) hS ?_
              simp only [Act.put, List.getElem_toArray, List.getElem_cons_succ, List.getElem_cons_zero, List.setIfInBounds_toArray, List.set_cons_zero, List.set_cons_succ]
              refine wpAnyH_take (i := 13) (v := .slice a2 n2 c2) rfl (by kernel_rfl) (by kernel_rfl) (by kernel_rfl) (fun _ _ _ h => h) (Or.inl ⟨by rfl, fun wx hx => by (rw [hx]; have hc := HC2.out _ (HBZZ.out _ HBQ2.out); simp [go_sem, hc])⟩) hS ?_
              simp only [Act.put, List.getElem_toArray, List.getElem_cons_succ, List.getElem_cons_zero, List.setIfInBounds_toArray, List.set_cons_zero, List.set_cons_succ]
              refine wpAnyH_take (i := 14) (v := .string (strB q)) rfl (by kernel_rfl) (by kernel_rfl) (by kernel_rfl) (fun _ _ _ h => h) (Or.inl ⟨by rfl, fun wx hx => by (rw [hx]; have hc := conv_reads (HR2.out _ (HBZZ.out _ HBQ2.out)); simp [go_sem, hc])⟩) hS ?_
              simp only [Act.put, List.getElem_toArray, List.getElem_cons_succ, List.getElem_cons_zero, List.setIfInBounds_toArray, List.set_cons_zero, List.set_cons_succ]
              refine wpAnyH_take (i := 15) (v := .slice (some ⟨bb, off, none⟩) n cap) rfl (by kernel_rfl) (by kernel_rfl) (by kernel_rfl) (fun _ _ _ h => h) (Or.inl ⟨by rfl, fun wx hx => by simp [go_sem]⟩) hS ?_
              simp only [Act.put, List.getElem_toArray, List.getElem_cons_succ, List.getElem_cons_zero, List.setIfInBounds_toArray, List.set_cons_zero, List.set_cons_succ]
              refine wpAnyH_take (i := 16) (v := .int .i64 (i : Int)) rfl (by kernel_rfl) (by kernel_rfl) (by kernel_rfl) (fun _ _ _ h => h) (Or.inl ⟨by rfl, fun wx hx => by simp [go_sem]⟩) hS ?_
              simp only [Act.put, List.getElem_toArray, List.getElem_cons_succ, List.getElem_cons_zero, List.setIfInBounds_toArray, List.set_cons_zero, List.set_cons_succ]
              refine wpAnyH_take (i := 17) (v := .pointer (some ⟨bb, off + i, none⟩)) rfl (by kernel_rfl) (by kernel_rfl) (by kernel_rfl) (fun _ _ _ h => h) (Or.inl ⟨by rfl, fun wx hx => by exact idxQ bb off n cap i hlt _ _ _ _ rfl rfl rfl _⟩) hS ?_
              simp only [Act.put, List.getElem_toArray, List.getElem_cons_succ, List.getElem_cons_zero, List.setIfInBounds_toArray, List.set_cons_zero, List.set_cons_succ]
              refine wpAnyH_take (i := 18) (v := .slice a1 n1 c1) rfl (by kernel_rfl) (by kernel_rfl) (by kernel_rfl) (fun _ _ _ h => h) (Or.inl ⟨by rfl, fun wx hx => by (rw [hx]; have hc := HCE.out _ (HBZZ.out _ HBQ2.out); simp [go_sem, hc])⟩) hS ?_
              simp only [Act.put, List.getElem_toArray, List.getElem_cons_succ, List.getElem_cons_zero, List.setIfInBounds_toArray, List.set_cons_zero, List.set_cons_succ]
              refine wpAnyH_take (i := 19) (v := .string (strB p)) rfl (by kernel_rfl) (by kernel_rfl) (by kernel_rfl) (fun _ _ _ h => h) (Or.inl ⟨by rfl, fun wx hx => by (rw [hx]; have hc := conv_reads (HRP.out _ (HBZZ.out _ HBQ2.out)); simp [go_sem, hc])⟩) hS ?_
              simp only [Act.put, List.getElem_toArray, List.getElem_cons_succ, List.getElem_cons_zero, List.setIfInBounds_toArray, List.set_cons_zero, List.set_cons_succ]
              refine wpAnyH_take (i := 20) (v := .bool true) rfl (by kernel_rfl) (by kernel_rfl) (by kernel_rfl) (fun _ _ _ h => h) (Or.inl ⟨by rfl, fun wx hx => by (have hs := HEQ.out; simpa [go_sem] using hs)⟩) hS ?_
              simp only [Act.put, List.getElem_toArray, List.getElem_cons_succ, List.getElem_cons_zero, List.setIfInBounds_toArray, List.set_cons_zero, List.set_cons_succ]
              refine wpAnyH_take (i := 21) (v := .bool true) rfl (by kernel_rfl) (by kernel_rfl) (by kernel_rfl) (fun _ _ _ h => h) (Or.inl ⟨by rfl, fun wx hx => by simp [go_sem]⟩) hS ?_
              simp only [Act.put, List.getElem_toArray, List.getElem_cons_succ, List.getElem_cons_zero, List.setIfInBounds_toArray, List.set_cons_zero, List.set_cons_succ]
              refine wpAnyH_done (by kernel_rfl) ?_ _
              clear hS HY
              go_wp2
              go_ret
              exact ⟨true, rfl, (fun h => by cases h), HBZZ.out _ HBQ2.out⟩
        case neg =>
          have hke : k = i := by omega
          subst hke
          have HF2 : Hid (Apart17 (ls.take (k + 1))) := apart_more HAP.out (by rw [← HP.out, ← HDP.out]; exact HJ.out)
          have HF3 : Hid (OwnD wq w.heap.size (.slice (some ⟨bD, oD, none⟩) (k + 1) cD) ((ls.take (k + 1)).map dig)) := by rw [← HDD.out]; exact HOK.out _ HBQ.out
          go_wp2
          go_roundw
          case rel => exact ⟨k + 1, some ⟨bD, oD, none⟩, k + 1, cD, by omega, rfl, by simp, HF3, HF2, HBZZ.out _ HBQ.out⟩
          case measure => simp [intOf]; omega
    case neg =>
      have hke : i = n := by omega
      have HF : Hid (Apart17 ls) := by have h := HAP.out; rw [hke, HN.out, List.take_length] at h; exact h
      subst hke
      go_wp2
      go_ret
      exact ⟨false, rfl, fun _ => HF.out, HBW.out⟩
end Go.Proofs.YtphmmnffgknkcaaDoor
/- The law's same: has a tree just these leaves (layer 17). -/
namespace Go.Proofs.YtphmmnffgknkcaaDoor
open Go.RowKit
set_option maxRecDepth 100000
set_option maxRecDepth 100000 in
set_option maxHeartbeats 16000000 in
theorem same17_any (g : Nat) (va vv : Value) (l : List Lf) (w : World) (hK : KOk w) (hT : TT w g l) (hR : ReadsLf w va vv l) (hl : l.length < 2000000) :
    Calls Tryd.prog 18 #[.pointer (some ⟨g, 0, none⟩), .agg #[va, vv]] w fun e w' => e = .returned (.bool true) ∧ Below w.heap.size w w' := by
  have HK : Hid (KOk w) := hK
  have HT : Hid (TT w g l) := hT
  have HR : Hid (ReadsLf w va vv l) := hR
  have HL : Hid (l.length < 2000000) := hl
  have HFZ : Hid (Fits l 0) := fits_zero hT.2.1 hT.2.2
  obtain ⟨ada, cpa, hva⟩ := hR.1.slice
  obtain ⟨adv, cpv, hvv⟩ := hR.2.slice
  obtain ⟨n, HN⟩ : ∃ n, Hid (n = l.length) := ⟨_, rfl⟩
  rw [List.length_map, ← HN.out] at hva hvv
  subst hva hvv
  have HBW : Hid (Below w.heap.size w w) := Below.refl _ _
  obtain ⟨rt, HRT⟩ : ∃ x, Hid (x = rootL l 0) := ⟨_, rfl⟩
  have HRL : Hid (rt.length = 32) := by show _ = _; rw [HRT.out]; exact rootL_len (fits_zero hT.2.1 hT.2.2)
  have hq : ∀ wx : World, (Op.equalIn 10000 28 (.agg (cb rt).toArray) (.agg (cb rt).toArray)).run Tryd.prog wx = .ok true wx := fun wx => eq_dig_same rt HRL.out wx
  clear hK hT hR hl
  go_enter Tryd.func18, Tryd.ntmps18
  have tk0 : Hid True := trivial
  go_wp2_with (first
    | (clear tk0; with_reducible refine wpSeq_boxW 34 (.tmp 1) [Value.slice ada n cpa, .slice adv n cpv] ?_ ?_ ?_ ?_
       · rfl
       · rfl
       · rfl
       intro g3 w1 nn
       have H3 : Hid (Blk w1 g3 [Value.slice ada n cpa, .slice adv n cpv] 34) := nn.blk
       replace HBW : Hid (Below w.heap.size w w1) := nn.below
       clear nn))
  refine wp_region_held_drew (S := Below w1.heap.size w1.drew) (by kernel_rfl) (Below.refl _ _) ?_
  intro hS
  clear hS
  have HBd : Hid (Below w.heap.size w w1.drew) := HBW.out.trans ((Below.refl _ _).drew.mono HBW.out.size)
  have H3d : Hid (Blk w1.drew g3 [Value.slice ada n cpa, .slice adv n cpv] 34) := H3.out.below (Below.refl _ _).drew H3.out.lt
  have HLW : Hid (w.heap.size ≤ w1.heap.size) := HBW.out.size
  clear H3 HBW
  obtain ⟨B, HBB⟩ : ∃ x, Hid (x = w1.heap.size) := ⟨_, rfl⟩
  have HBD : Hid (w1.drew.heap.size = B) := by rw [HBB.out]; rfl
  rw [← HBB.out] at HLW ⊢
  change wpAnyH _ _ _ _ _ _ _ _ (World.drew w1)
  generalize World.drew w1 = wd at *
  clear HBB
  have hS : Below B wd wd := Below.refl _ _
  have HX : Hid (∀ W, Below B wd W → B ≤ W.heap.size ∧ Below w.heap.size w W ∧ Blk W g3 [Value.slice ada n cpa, .slice adv n cpv] 34) := fun W hW =>
    have hW2 : Below wd.heap.size wd W := hW.mono (Nat.le_of_eq HBD.out)
    ⟨by have := hW.size; rw [HBD.out] at this; exact this, HBd.out.trans (hW.mono HLW.out), H3d.out.below hW2 H3d.out.lt⟩
  clear HBd H3d
  refine wpAnyH_take (i := 0) (v := .pointer (some ⟨g, 0, none⟩)) rfl (by kernel_rfl) (by kernel_rfl) (by kernel_rfl) (fun _ _ _ h => h) (Or.inl ⟨by rfl, fun wx hx => by simp [go_sem]⟩) hS ?_
  simp only [Act.put, List.getElem_toArray, List.getElem_cons_zero, List.setIfInBounds_toArray, List.set_cons_zero, List.set_cons_succ]
  refine wpAnyH_take (i := 1) (v := .bool true) rfl (by kernel_rfl) (by kernel_rfl) (by kernel_rfl) (fun _ _ _ h => h) (Or.inl ⟨by rfl, fun wx hx => by simp [go_sem]⟩) hS ?_
  simp only [Act.put, List.getElem_toArray, List.getElem_cons_succ, List.getElem_cons_zero, List.setIfInBounds_toArray, List.set_cons_zero, List.set_cons_succ]
  refine wpAnyH_take (i := 2) (v := .bool true) rfl (by kernel_rfl) (by kernel_rfl) (by kernel_rfl) (fun _ _ _ h => h) (Or.inl ⟨by rfl, fun wx hx => by simp [go_sem]⟩) hS ?_
  simp only [Act.put, List.getElem_toArray, List.getElem_cons_succ, List.getElem_cons_zero, List.setIfInBounds_toArray, List.set_cons_zero, List.set_cons_succ]
  refine wpAnyH_take (i := 3) (v := .pointer (some ⟨g, 0, none⟩)) rfl (by kernel_rfl) (by kernel_rfl) (by kernel_rfl) (fun _ _ _ h => h) (Or.inl ⟨by rfl, fun wx hx => by simp [go_sem]⟩) hS ?_
  simp only [Act.put, List.getElem_toArray, List.getElem_cons_succ, List.getElem_cons_zero, List.setIfInBounds_toArray, List.set_cons_zero, List.set_cons_succ]
  refine wpAnyH_take (i := 5) (v := .pointer (some ⟨g3, 0, none⟩)) rfl (by kernel_rfl) (by kernel_rfl) (by kernel_rfl) (fun _ _ _ h => h) (Or.inl ⟨by rfl, fun wx hx => by simp [go_sem]⟩) hS ?_
  simp only [Act.put, List.getElem_toArray, List.getElem_cons_succ, List.getElem_cons_zero, List.setIfInBounds_toArray, List.set_cons_zero, List.set_cons_succ]
  refine wpAnyH_take (i := 6) (v := .slice ada n cpa) rfl (by kernel_rfl) (by kernel_rfl) (by kernel_rfl) (fun _ _ _ h => h) (Or.inl ⟨by rfl, fun wx hx => by (have hq := (HX.out wx hx).2.2.cell 0; simp [go_sem] at hq ⊢; simp [hq])⟩) hS ?_
  simp only [Act.put, List.getElem_toArray, List.getElem_cons_succ, List.getElem_cons_zero, List.setIfInBounds_toArray, List.set_cons_zero, List.set_cons_succ]
  refine wpAnyH_take (i := 7) (v := .int .i64 (n : Int)) rfl (by kernel_rfl) (by kernel_rfl) (by kernel_rfl) (fun _ _ _ h => h) (Or.inl ⟨by rfl, fun wx hx => by simp [go_sem]⟩) hS ?_
  simp only [Act.put, List.getElem_toArray, List.getElem_cons_succ, List.getElem_cons_zero, List.setIfInBounds_toArray, List.set_cons_zero, List.set_cons_succ]
  refine wpAnyH_enter 4 (by kernel_rfl) rfl (by rfl) (f := 32) (args := #[.pointer (some ⟨g, 0, none⟩)]) (by simp [go_sem]) (trLen_any _ 0 g l (HT.out.next (HX.out _ hS).2.1).1) ?_
  rintro e w2 ⟨rfl, hb⟩
  have hS := hS.trans (hb.mono (HX.out _ hS).1)
  rw [← HN.out]
  refine ⟨_, rfl, hS, ?_⟩
  simp only [Act.put, List.getElem_toArray, List.getElem_cons_succ, List.getElem_cons_zero, List.setIfInBounds_toArray, List.set_cons_zero, List.set_cons_succ]
  refine wpAnyH_take (i := 8) (v := .bool true) rfl (by kernel_rfl) (by kernel_rfl) (by kernel_rfl) (fun _ _ _ h => h) (Or.inl ⟨by rfl, fun wx hx => by simp [go_sem]⟩) hS ?_
  simp only [Act.put, List.getElem_toArray, List.getElem_cons_succ, List.getElem_cons_zero, List.setIfInBounds_toArray, List.set_cons_zero, List.set_cons_succ]
  refine wpAnyH_take (i := 9) (v := .bool true) rfl (by kernel_rfl) (by kernel_rfl) (by kernel_rfl) (fun _ _ _ h => h) (Or.inl ⟨by rfl, fun wx hx => by simp [go_sem]⟩) hS ?_
  simp only [Act.put, List.getElem_toArray, List.getElem_cons_succ, List.getElem_cons_zero, List.setIfInBounds_toArray, List.set_cons_zero, List.set_cons_succ]
  refine wpAnyH_take (i := 10) (v := .bool true) rfl (by kernel_rfl) (by kernel_rfl) (by kernel_rfl) (fun _ _ _ h => h) (Or.inl ⟨by rfl, fun wx hx => by simp [go_sem]⟩) hS ?_
  simp only [Act.put, List.getElem_toArray, List.getElem_cons_succ, List.getElem_cons_zero, List.setIfInBounds_toArray, List.set_cons_zero, List.set_cons_succ]
  refine wpAnyH_take (i := 11) (v := .pointer (some ⟨g, 0, none⟩)) rfl (by kernel_rfl) (by kernel_rfl) (by kernel_rfl) (fun _ _ _ h => h) (Or.inl ⟨by rfl, fun wx hx => by simp [go_sem]⟩) hS ?_
  simp only [Act.put, List.getElem_toArray, List.getElem_cons_succ, List.getElem_cons_zero, List.setIfInBounds_toArray, List.set_cons_zero, List.set_cons_succ]
  refine wpAnyH_take (i := 13) (v := .agg [Value.slice ada n cpa, .slice adv n cpv].toArray) rfl (by kernel_rfl) (by kernel_rfl) (by kernel_rfl) (fun _ _ _ h => h) (Or.inl ⟨by rfl, fun wx hx => by (have hq := (HX.out wx hx).2.2; exact load_run 34 _ rfl _ 0 rfl _ _ hq.range Tryd.underlying34 rfl info_lvs)⟩) hS ?_
  simp only [Act.put, List.getElem_toArray, List.getElem_cons_succ, List.getElem_cons_zero, List.setIfInBounds_toArray, List.set_cons_zero, List.set_cons_succ]
  refine wpAnyH_enter 12 (by kernel_rfl) rfl (by rfl) (f := 20) (args := #[.pointer (some ⟨g, 0, none⟩)]) (by simp [go_sem]) (trRoot_any _ 0 g l (HK.out.below (HX.out _ hS).2.1 HK.out.lt) (HT.out.next (HX.out _ hS).2.1).1 HFZ.out) ?_
  rintro e w3 ⟨rfl, hb⟩
  have hS := hS.trans (hb.mono (HX.out _ hS).1)
  rw [← HRT.out]
  refine ⟨_, rfl, hS, ?_⟩
  simp only [Act.put, List.getElem_toArray, List.getElem_cons_succ, List.getElem_cons_zero, List.setIfInBounds_toArray, List.set_cons_zero, List.set_cons_succ]
  refine wpAnyH_enter 14 (by kernel_rfl) rfl (by rfl) (f := 33) (args := #[.agg [Value.slice ada n cpa, .slice adv n cpv].toArray, .int .i64 0]) (by simp [go_sem]) (lfRoot_any 256 l 0 _ _ _ (by omega) HFZ.out (HR.out.below (HX.out _ hS).2.1) HL.out (by omega)) ?_
  rintro e w4 ⟨rfl, hb⟩
  have hS := hS.trans (hb.mono (HX.out _ hS).1)
  rw [← HRT.out]
  refine ⟨_, rfl, hS, ?_⟩
  simp only [Act.put, List.getElem_toArray, List.getElem_cons_succ, List.getElem_cons_zero, List.setIfInBounds_toArray, List.set_cons_zero, List.set_cons_succ]
  refine wpAnyH_take (i := 15) (v := .bool true) rfl (by kernel_rfl) (by kernel_rfl) (by kernel_rfl) (fun _ _ _ h => h) (Or.inl ⟨by rfl, fun wx hx => by (have hh := hq; simp [go_sem, hh])⟩) hS ?_
  simp only [Act.put, List.getElem_toArray, List.getElem_cons_succ, List.getElem_cons_zero, List.setIfInBounds_toArray, List.set_cons_zero, List.set_cons_succ]
  refine wpAnyH_take (i := 16) (v := .bool true) rfl (by kernel_rfl) (by kernel_rfl) (by kernel_rfl) (fun _ _ _ h => h) (Or.inl ⟨by rfl, fun wx hx => by simp [go_sem]⟩) hS ?_
  simp only [Act.put, List.getElem_toArray, List.getElem_cons_succ, List.getElem_cons_zero, List.setIfInBounds_toArray, List.set_cons_zero, List.set_cons_succ]
  refine wpAnyH_take (i := 17) (v := .bool true) rfl (by kernel_rfl) (by kernel_rfl) (by kernel_rfl) (fun _ _ _ h => h) (Or.inl ⟨by rfl, fun wx hx => by simp [go_sem]⟩) hS ?_
  simp only [Act.put, List.getElem_toArray, List.getElem_cons_succ, List.getElem_cons_zero, List.setIfInBounds_toArray, List.set_cons_zero, List.set_cons_succ]
  refine wpAnyH_done (by kernel_rfl) ?_ _
  have HBZ : Hid (Below w.heap.size w w4) := (HX.out _ hS).2.1
  clear hS HX hb hq
  go_wp2
  go_ret
  exact ⟨rfl, HBZ.out⟩
end Go.Proofs.YtphmmnffgknkcaaDoor
/- A tree's pages are unlike each other, where no two unlike ones have one digest (layer 17, plainly). -/
namespace Go.Proofs.YtphmmnffgknkcaaDoor
open Go.RowKit
set_option maxRecDepth 100000
/-- no page of one list has the digest of an unlike one of another -/
def Inj17 (S S' : List By) : Prop := ∀ p ∈ S, ∀ q ∈ S', dig p = dig q → p = q
theorem Inj17.left {A B C : List By} (h : Inj17 (A ++ B) C) : Inj17 A C := fun p hp => h p (List.mem_append_left _ hp)
theorem Inj17.sub {A A' B B' : List By} (h : Inj17 A B) (ha : ∀ p ∈ A', p ∈ A) (hb : ∀ p ∈ B', p ∈ B) : Inj17 A' B' := fun p hp q hq => h p (ha p hp) q (hb q hq)
theorem halves_eq {d e : Nat} {l m : List Lf} (hl : Up l) (hm : Up m) (h0 : halfL l d false = halfL m e false) (h1 : halfL l d true = halfL m e true) : l = m := by
  refine up_ext hl hm fun p => ?_
  have key : ∀ {l : List Lf} {d : Nat}, p ∈ l ↔ p ∈ halfL l d false ∨ p ∈ halfL l d true := fun {l d} => by
    rw [mem_halfL, mem_halfL]
    cases bt p.1 d <;> simp
  rw [key (l := l) (d := d), key (l := m) (d := e), h0, h1]
/-- the same bytes are the same leaves -/
theorem Pc.same {d1 : Nat} {l1 : List Lf} {t1 : By} {S1 : List By} (h1 : Pc d1 l1 t1 S1) : ∀ {d2 : Nat} {l2 : List Lf} {t2 : By} {S2 : List By} (r1 r2 : By), Pc d2 l2 t2 S2 → Inj17 S1 S2 → t1 ++ r1 = t2 ++ r2 → l1 = l2 ∧ t1 = t2 ∧ r1 = r2 := by
  induction h1 with
  | few d l hF hd hl =>
    intro d2 l2 t2 S2 r1 r2 h2 hI he
    have key : ∀ {m : List Lf}, okLf m → m.length < 2 → oneP1 l ++ r1 = oneP1 m ++ r2 → l = m ∧ oneP1 l = oneP1 m ∧ r1 = r2 := fun {m} hm hm2 he => by
      have ho := hF.1
      match l, m, hl, hm2, ho, hm, he with
      | [], [], _, _, _, _, he => exact ⟨rfl, rfl, by simpa [oneP1] using he⟩
      | [], [q], _, _, _, _, he => simp [oneP1] at he
      | [p], [], _, _, _, _, he => simp [oneP1] at he
      | [p], [q], _, _, ho, hm, he =>
        have hp := ho p (by simp)
        have hq := hm q (by simp)
        simp only [oneP1, List.cons_append, List.cons.injEq, true_and, List.append_assoc] at he
        have e1 := List.append_inj he (by rw [hp.1, hq.1])
        have e2 := List.append_inj e1.2 (by rw [hp.2, hq.2])
        have e3 : p = q := Prod.ext e1.1 e2.1
        subst e3
        exact ⟨rfl, rfl, e2.2⟩
    have hhd : ∀ x : BitVec 8, ∀ r, oneP1 l ++ r1 = x :: r → x = 0 ∨ x = 1 := fun x r he => by
      match l, hl, he with
      | [], _, he => simp only [oneP1, List.cons_append, List.cons.injEq] at he; exact Or.inl he.1.symm
      | [p], _, he => simp only [oneP1, List.cons_append, List.cons.injEq] at he; exact Or.inr he.1.symm
    cases h2 with
    | few _ _ hF2 hd2 hl2 => exact key hF2.1 hl2 he
    | two => rw [List.cons_append] at he; rcases hhd _ _ he with h | h <;> cases h
    | link => rw [List.cons_append] at he; rcases hhd _ _ he with h | h <;> cases h
  | two d l t0 t1 S0 S1 hF hl hp0 hp1 ih0 ih1 =>
    intro d2 l2 t2 S2 r1 r2 h2 hI he
    cases h2 with
    | few _ _ hF2 hd2 hl2 =>
      match l2, hl2, he with
      | [], _, he => simp [oneP1] at he
      | [p], _, he => simp [oneP1] at he
    | two _ _ u0 u1 V0 V1 hF2 hl2 hq0 hq1 =>
      simp only [List.cons_append, List.cons.injEq, true_and, List.append_assoc] at he
      obtain ⟨e1, e2, e3⟩ := ih0 (t1 ++ r1) (u1 ++ r2) hq0 (hI.sub (fun p hp => List.mem_append_left _ hp) fun p hp => List.mem_append_left _ hp) he
      obtain ⟨e4, e5, e6⟩ := ih1 r1 r2 hq1 (hI.sub (fun p hp => List.mem_append_right _ hp) fun p hp => List.mem_append_right _ hp) e3
      exact ⟨halves_eq hF.2.1 hF2.2.1 e1 e4, by rw [e2, e5], e6⟩
    | link => simp at he
  | link d l t S hl ht hp ih =>
    intro d2 l2 t2 S2 r1 r2 h2 hI he
    cases h2 with
    | few _ _ hF2 hd2 hl2 =>
      match l2, hl2, he with
      | [], _, he => simp [oneP1] at he
      | [p], _, he => simp [oneP1] at he
    | two => simp at he
    | link _ _ u V hl2 hu hq =>
      simp only [List.cons_append, List.cons.injEq, true_and] at he
      have e1 := List.append_inj he (by rw [len_dig', len_dig'])
      have e2 : t = u := hI t (by simp) u (by simp) e1.1
      subst e2
      obtain ⟨e3, _, _⟩ := ih [] [] hq (hI.sub (fun p hp => List.mem_cons_of_mem _ hp) fun p hp => List.mem_cons_of_mem _ hp) rfl
      exact ⟨e3, rfl, e1.2⟩
theorem half_all {l : List Lf} {d : Nat} {b : Bool} (h : ∀ p ∈ l, bt p.1 d = b) : halfL l d b = l := by
  unfold halfL
  rw [List.filter_eq_self]
  intro p hp
  rw [h p hp]
  simp
/-- a tree's page is no page of the same leaves farther down -/
theorem Pc.deep {d : Nat} {l : List Lf} {t : By} {S : List By} (h : Pc d l t S) : 2 ≤ l.length → ∀ {e : Nat} {S' : List By}, Pc e l t S' → d < e → Inj17 S S' → False := by
  induction h with
  | few d l hF hd hl => intro h2; omega
  | two d l t0 t1 S0 S1 hF hl hp0 hp1 ih0 ih1 =>
    intro h2 e S' h3 hde hI
    generalize ht : 2 :: (t0 ++ t1) = t at h3
    cases h3 with
    | few _ _ _ _ hl3 => omega
    | two _ _ u0 u1 V0 V1 hF3 hl3 hq0 hq1 =>
      simp only [List.cons.injEq, true_and] at ht
      obtain ⟨e1, e2, e3⟩ := hp0.same t1 u1 hq0 (hI.sub (fun p hp => List.mem_append_left _ hp) fun p hp => List.mem_append_left _ hp) ht
      obtain ⟨e4, e5, _⟩ := hp1.same [] [] hq1 (hI.sub (fun p hp => List.mem_append_right _ hp) fun p hp => List.mem_append_right _ hp) (by rw [e3])
      obtain ⟨p0, hp0m⟩ : ∃ p, p ∈ l := ⟨l[0]'(by omega), List.getElem_mem _⟩
      have hall : ∀ p ∈ l, bt p.1 d = bt p0.1 d := fun p hp => hF3.2.2 p hp p0 hp0m d hde
      cases hb : bt p0.1 d with
      | false =>
        have hh := half_all (l := l) (d := d) (b := false) (fun p hp => by rw [hall p hp, hb])
        subst e2
        refine ih0 (by rw [hh]; exact h2) (S' := V0) (e := e + 1) (by rw [e1]; exact hq0) (by omega) (hI.sub (fun p hp => List.mem_append_left _ hp) fun p hp => List.mem_append_left _ hp)
      | true =>
        have hh := half_all (l := l) (d := d) (b := true) (fun p hp => by rw [hall p hp, hb])
        subst e5
        refine ih1 (by rw [hh]; exact h2) (S' := V1) (e := e + 1) (by rw [e4]; exact hq1) (by omega) (hI.sub (fun p hp => List.mem_append_right _ hp) fun p hp => List.mem_append_right _ hp)
    | link => cases ht
  | link d l t S hl ht hp ih =>
    intro h2 e S' h3 hde hI
    generalize ht2 : 3 :: dig t = t2 at h3
    cases h3 with
    | few _ _ _ _ hl3 => omega
    | two => cases ht2
    | link _ _ u V hl3 hu hq =>
      simp only [List.cons.injEq, true_and] at ht2
      have e2 : t = u := hI t (by simp) u (by simp) ht2
      subst e2
      exact ih h2 hq hde (hI.sub (fun p hp => List.mem_cons_of_mem _ hp) fun p hp => List.mem_cons_of_mem _ hp)
/-- each page of a tree is the first one of leaves below -/
theorem save_mem : ∀ (f d : Nat) (l : List Lf), 256 = d + f → Fits l d → 2 ≤ l.length → ∀ p ∈ saveL d l, ∃ d' l', d ≤ d' ∧ Fits l' d' ∧ 2 ≤ l'.length ∧ Pc d' l' p (saveL d' l').tail ∧ (∀ q ∈ (saveL d' l').tail, q ∈ saveL d l) ∧ ∀ x ∈ l', x ∈ l := by
  intro f
  induction f with
  | zero => intro d l hd hF h2; have := hF.lt h2; omega
  | succ f ih =>
    intro d l hd hF h2 p hp
    rcases Nat.lt_or_ge 512 (wholeL d l).length with h | h
    · have e := save_more (by omega) h
      have hp2 := hp
      rw [e] at hp
      have hr : ∀ b, p ∈ restPg (d + 1) (halfL l d b) → ∃ d' l', d ≤ d' ∧ Fits l' d' ∧ 2 ≤ l'.length ∧ Pc d' l' p (saveL d' l').tail ∧ (∀ q ∈ (saveL d' l').tail, q ∈ saveL d l) ∧ ∀ x ∈ l', x ∈ l := fun b hb => by
        unfold restPg at hb
        split at hb
        · cases hb
        · rename_i h3
          obtain ⟨d', l', a1, a2, a3, a4, a5, a6⟩ := ih (d + 1) (halfL l d b) (by omega) (hF.half b) (by omega) p hb
          refine ⟨d', l', by omega, a2, a3, a4, fun q hq => ?_, fun x hx => (mem_halfL.1 (a6 x hx)).1⟩
          have h4 := a5 q hq
          rw [e]
          refine List.mem_cons_of_mem _ ?_
          have h5 : q ∈ restPg (d + 1) (halfL l d b) := by unfold restPg; rw [if_neg h3]; exact h4
          cases b with
          | false => exact List.mem_append_left _ h5
          | true => exact List.mem_append_right _ h5
      rcases List.mem_cons.1 hp with hp | hp
      · refine ⟨d, l, Nat.le_refl _, hF, h2, ?_, fun q hq => by rw [save_top]; exact List.mem_cons_of_mem _ hq, fun x hx => hx⟩
        rw [hp, ← top_more (by omega) h]
        exact top_pc (f + 1) d l hd hF
      · rcases List.mem_append.1 hp with hp | hp
        · exact hr false hp
        · exact hr true hp
    · refine ⟨d, l, Nat.le_refl _, hF, h2, ?_, fun q hq => by rw [save_top]; exact List.mem_cons_of_mem _ hq, fun x hx => hx⟩
      rw [save_one h] at hp
      rw [List.mem_singleton.1 hp, ← top_one h]
      exact top_pc (f + 1) d l hd hF
/-- no two of a tree's pages are the same -/
theorem save_nodup : ∀ (f d : Nat) (l : List Lf), 256 = d + f → Fits l d → Inj17 (saveL d l) (saveL d l) → (saveL d l).Nodup := by
  intro f
  induction f with
  | zero =>
    intro d l hd hF _
    have hs : (wholeL d l).length ≤ 512 := by
      rcases Nat.lt_or_ge 512 (wholeL d l).length with h | h
      · have := (long_two hF h).2; omega
      · exact h
    rw [save_one hs]; simp
  | succ f ih =>
    intro d l hd hF hI
    rcases Nat.lt_or_ge 512 (wholeL d l).length with h | h
    · have h2 := (long_two hF h).1
      have e := save_more (show d < 256 by omega) h
      have hsub : ∀ b, ∀ p ∈ restPg (d + 1) (halfL l d b), p ∈ saveL d l := fun b p hp => by
        rw [e]
        refine List.mem_cons_of_mem _ ?_
        cases b with
        | false => exact List.mem_append_left _ hp
        | true => exact List.mem_append_right _ hp
      have hnd : ∀ b, (restPg (d + 1) (halfL l d b)).Nodup := fun b => by
        have h3 := hsub b
        unfold restPg at h3 ⊢
        split
        · simp
        · rename_i h4
          rw [if_neg h4] at h3
          exact ih (d + 1) _ (by omega) (hF.half b) (hI.sub h3 h3)
      have hat : ∀ b, ∀ p ∈ restPg (d + 1) (halfL l d b), ∃ d' l', d < d' ∧ Fits l' d' ∧ 2 ≤ l'.length ∧ Pc d' l' p (saveL d' l').tail ∧ (∀ q ∈ (saveL d' l').tail, q ∈ saveL d l) ∧ ∀ x ∈ l', x ∈ halfL l d b := fun b p hp => by
        have h3 := hsub b
        unfold restPg at hp h3
        split at hp
        · cases hp
        · rename_i h4
          rw [if_neg h4] at h3
          obtain ⟨d', l', a1, a2, a3, a4, a5, a6⟩ := save_mem f (d + 1) _ (by omega) (hF.half b) (by omega) p hp
          exact ⟨d', l', by omega, a2, a3, a4, fun q hq => h3 q (a5 q hq), a6⟩
      have htop : ∀ b, topPg d l ∉ restPg (d + 1) (halfL l d b) := fun b hm => by
        obtain ⟨d', l', a1, a2, a3, a4, a5, a6⟩ := hat b _ hm
        have hpc := top_pc (f + 1) d l hd hF
        have hJ : Inj17 (saveL d l).tail (saveL d' l').tail := hI.sub (fun q hq => by rw [save_top]; exact List.mem_cons_of_mem _ hq) a5
        obtain ⟨e1, _, _⟩ := hpc.same [] [] a4 hJ rfl
        subst e1
        exact hpc.deep h2 a4 a1 hJ
      rw [e, ← top_more (by omega) h]
      refine List.nodup_cons.2 ⟨fun hm => ?_, List.nodup_append.2 ⟨hnd false, hnd true, fun p hp q hq hpq => ?_⟩⟩
      · rcases List.mem_append.1 hm with hm | hm
        · exact htop false hm
        · exact htop true hm
      · subst hpq
        obtain ⟨d1, l1, a1, a2, a3, a4, a5, a6⟩ := hat false _ hp
        obtain ⟨d2, l2, b1, b2, b3, b4, b5, b6⟩ := hat true _ hq
        obtain ⟨e1, _, _⟩ := a4.same [] [] b4 (hI.sub a5 b5) rfl
        subst e1
        have hm : l1[0]'(by omega) ∈ l1 := List.getElem_mem _
        have c1 := (mem_halfL.1 (a6 _ hm)).2
        have c2 := (mem_halfL.1 (b6 _ hm)).2
        rw [c1] at c2
        cases c2
    · rw [save_one h]; simp
end Go.Proofs.YtphmmnffgknkcaaDoor
/- Rows of pages, bytes that are changed, what lacks (layer 17). -/
namespace Go.Proofs.YtphmmnffgknkcaaDoor
open Go.RowKit
set_option maxRecDepth 100000
theorem row17_us {w : World} {g n c : Nat} {ps : List By} (h : Row17 w g n c ps) : ∃ us : List Value, us.length = n ∧ (∀ j u, us[j]? = some u → w.cell? ⟨g, j, none⟩ = some u ∧ Reads w u (ps.getD j [])) ∧ ∀ u ∈ us, u.oneCell' = true := by
  have hat : ∀ j u, ((List.range n).map fun j => (w.cell? ⟨g, j, none⟩).getD undef)[j]? = some u → w.cell? ⟨g, j, none⟩ = some u ∧ Reads w u (ps.getD j []) := fun j u hj => by
    have hl := (List.getElem?_eq_some_iff.1 hj).1
    simp only [List.length_map, List.length_range] at hl
    obtain ⟨v, h1, h2⟩ := h.at_ j hl
    rw [List.getElem?_map, List.getElem?_range hl, Option.map_some, h1] at hj
    cases hj
    exact ⟨h1, h2⟩
  refine ⟨_, by simp, hat, fun u hu => ?_⟩
  obtain ⟨j, hj, rfl⟩ := List.mem_iff_getElem.1 hu
  exact reads_one (hat j _ (List.getElem?_eq_getElem hj)).2
theorem reads_lt17 {w : World} {v : Value} {l : By} (h : Reads w v l) (hp : 0 < l.length) : ∀ k, v.ownBlock = some k → k < w.heap.size := fun k hk => by
  obtain ⟨ad, c, rfl, _, _, hx⟩ := h
  obtain ⟨b, off, rfl, hy⟩ := hx hp
  cases hk
  exact block_lt_of_cell (hy 0 hp)
theorem xLo (b off n cap k : Nat) (h : k ≤ cap) (w : World) : (Instr.sliceAt 29 (.slice (some ⟨b, off, none⟩) n cap) none (some (.int .i64 (k : Int))) none).run Tryd.prog w = .ok (.slice (some ⟨b, off, none⟩) k cap) w := by
  have hs : (sizeOf 37).run Tryd.prog w = .ok 1 w := by kernel_rfl
  rw [run_sliceAt_slice w 29 _ _ _ _ (by kernel_rfl), run_slice_h w 29 _ _ _ (by kernel_rfl) .i64 _ (by omega) (by omega)]
  rw [show Tryd.prog.elem 29 = 37 from by kernel_rfl, hs]
  simp only [Result.andThen_ok, sliced, Int.toNat_natCast, Option.map_some]
  split <;> simp [Addr.add_mid]
theorem xHi (b off n cap k : Nat) (h : k ≤ n) (w : World) : (Instr.sliceAt 29 (.slice (some ⟨b, off, none⟩) n cap) (some (.int .i64 (k : Int))) none none).run Tryd.prog w = .ok (.slice (some ⟨b, if cap = k then off else off + k, none⟩) (n - k) (cap - k)) w := by
  have hs : (sizeOf 37).run Tryd.prog w = .ok 1 w := by kernel_rfl
  rw [run_sliceAt_slice w 29 _ _ _ _ (by kernel_rfl), run_slice_l w 29 _ _ _ (by kernel_rfl) .i64 _ (by omega) (by omega)]
  rw [show Tryd.prog.elem 29 = 37 from by kernel_rfl, hs]
  simp only [Result.andThen_ok, sliced, Int.toNat_natCast, Option.map_some]
  split <;> simp [Addr.add_mid]
/-- one byte of bytes of the call's own -/
theorem wpSeq_storeOB {ops : Array Oper} {Q : Exit → Act → World → Prop} {rest : List Oper} {o : Oper} {a : Act} {w : World} (x y : Operand) (base g n c k : Nat) (l : By) (b : BitVec 8) (hown : OwnB w base (.slice (some ⟨g, 0, none⟩) n c) l) (hk : k < l.length) (ho : o.op = .store 5 x y) (hx : a.eval x = .pointer (some ⟨g, k, none⟩)) (hy : a.eval y = .int .u8 (b.toNat : Int)) (hw : Region.wanted o (yielded ops a.tmps) = true)
    (h : ∀ w', OwnB w' base (.slice (some ⟨g, 0, none⟩) n c) (l.set k b) → Only g w w' → wpList Tryd.prog ops Q rest (a.put o.dst undef) w') : wpList Tryd.prog ops Q (o :: rest) a w := by
  obtain ⟨hl, ⟨e1, h2⟩ | ⟨g2, cap, cur, e1, hg, hh, hc, hm, hs, ht⟩⟩ := hown
  · cases e1
  cases e1
  rw [Nat.mul_one] at hs ht
  have hb : Blk w g cur.toList 5 := by unfold Blk; rw [Array.toArray_toList]; exact hh
  have hkc : k < cur.toList.length := by rw [Array.length_toList]; omega
  have hcl : w.cell? ⟨g, k, none⟩ = some cur.toList[k] := by rw [hb.cell, List.getElem?_eq_getElem hkc]
  have hf : w.frozen? ⟨g, k, none⟩ = false := hb.frozen k
  have he : (execOp a.eval o).run Tryd.prog w = .ok .skip (w.setCell ⟨g, k, none⟩ (.int .u8 (b.toNat : Int))) := by
    clear h hw
    generalize a.eval = f at hx hy ⊢
    unfold execOp
    rw [ho]
    simp [go_sem, hx, hy, hcl, hf]
  unfold wpList
  simp only [hw, if_true]
  left
  unfold Oper.wp
  rw [he, Oper.upon_skip]
  refine h _ ⟨by rw [cb_len, Nat.mul_one], Or.inr ⟨g, c, (cur.toList.set k (.int .u8 (b.toNat : Int))).toArray, by rw [List.length_set], hg, hb.set k _, by rw [List.length_set]; exact hc, hm, by simp [hs], ?_⟩⟩ (Only.setCell (Only.refl g w) k _)
  rw [List.length_set, Nat.mul_one, List.take_set, ht]
  exact cb_set l k b
theorem clash_no {b : By} {ls : List By} (h : clashB b ls = false) : ∀ p ∈ ls, dig p = dig b → p = b := fun p hp he => by
  unfold clashB at h
  rw [List.any_eq_false] at h
  have h1 := h p hp
  rw [decide_eq_true he, Bool.and_true] at h1
  simpa using h1
/-- a list without the one at k -/
theorem drop_one {S : List By} (hn : S.Nodup) {k : Nat} (hk : k < S.length) : S.getD k [] ∉ S.take k ++ S.drop (k + 1) := by
  have e : S = S.take k ++ (S.getD k [] :: S.drop (k + 1)) := by
    rw [List.getD_eq_getElem?_getD, List.getElem?_eq_getElem hk, Option.getD_some, List.getElem_cons_drop, List.take_append_drop]
  generalize hx : S.getD k [] = x at *
  generalize S.take k = A at *
  generalize S.drop (k + 1) = C at *
  rw [e] at hn
  have h := List.nodup_append.1 hn
  have h2 := List.nodup_cons.1 h.2.1
  rw [List.mem_append]
  rintro (hm | hm)
  · exact h.2.2 x hm x (by simp) rfl
  · exact h2.1 hm
theorem set_ne {l : By} {i : Nat} (hi : i < l.length) {x : BitVec 8} (hx : x ≠ 0) : l.set i (l.getD i 0 ^^^ x) ≠ l := fun h => by
  have h1 : (l.set i (l.getD i 0 ^^^ x)).getD i 0 = l.getD i 0 := by rw [h]
  rw [List.getD_eq_getElem?_getD, List.getElem?_set_self hi, Option.getD_some] at h1
  refine hx ?_
  have h2 : l.getD i 0 ^^^ (l.getD i 0 ^^^ x) = l.getD i 0 ^^^ l.getD i 0 := by rw [h1]
  rw [← BitVec.xor_assoc, BitVec.xor_self, BitVec.zero_xor] at h2
  exact h2
theorem build_y0 (f : Operand → Value) (o : Oper) (ho : o.op = .buildSlice 37 0 #[]) (w : World) : (execOp f o).run Tryd.prog w = .ok (.value (.slice (some ⟨w.heap.size, 0, none⟩) 0 0)) (w.alloc (.cells ([] : List Value).toArray 5)) := by
  unfold execOp
  rw [ho]
  kernel_rfl
theorem wpSeq_buildY0 {ops : Array Oper} {Q : Exit → Act → World → Prop} {rest : List Oper} {o : Oper} {a : Act} {w : World} (ho : o.op = .buildSlice 37 0 #[]) (hw : Region.wanted o (yielded ops a.tmps) = true)
    (h : ∀ g w', Blk w' g [] 5 → w.heap.size ≤ g → Below w.heap.size w w' → wpList Tryd.prog ops Q rest (a.put o.dst (.slice (some ⟨g, 0, none⟩) 0 0)) w') : wpList Tryd.prog ops Q (o :: rest) a w :=
  wpSeq_val _ _ hw (build_y0 _ o ho w) (h _ _ (Blk.new w _ _) (Nat.le_refl _) (below_alloc w _))
theorem OwnB.zero17 (w : World) (base g : Nat) (hg : base ≤ g) (h : Blk w g [] 5) : OwnB w base (.slice (some ⟨g, 0, none⟩) 0 0) [] :=
  ⟨by simp [cb], Or.inr ⟨g, 0, #[], rfl, hg, h, Nat.le_refl _, by unfold maxLen; omega, rfl, rfl⟩⟩
theorem OwnB.some17 {w : World} {base : Nat} {v : Value} {l : By} (h : OwnB w base v l) (hp : 0 < l.length) : ∃ g c, v = .slice (some ⟨g, 0, none⟩) l.length c := by
  rcases h with ⟨_, ⟨_, h2⟩ | ⟨g, cap, cur, rfl, _⟩⟩
  · omega
  · exact ⟨g, cap, rfl⟩
theorem Reads.own17 {w : World} {g n c : Nat} {l : By} (h : Reads w (.slice (some ⟨g, 0, none⟩) n c) l) (hp : 0 < l.length) : ∀ j, j < l.length → w.cell? ⟨g, j, none⟩ = some (.int .u8 ((l.getD j 0).toNat : Int)) := fun j hj => by
  obtain ⟨ad, cap, h1, _, _, h4⟩ := h
  obtain ⟨b, off, rfl, h5⟩ := h4 hp
  simp only [Value.slice.injEq, Option.some.injEq, Addr.mk.injEq] at h1
  obtain ⟨⟨rfl, rfl, _⟩, _⟩ := h1
  have := h5 j hj
  rwa [Nat.zero_add] at this
theorem wpSeq_idxY17 {ops : Array Oper} {Q : Exit → Act → World → Prop} {rest : List Oper} {o : Oper} {a : Act} {w : World} (x y : Operand) (b off n c k : Nat) (hk : k < n) (ho : o.op = .indexAddr 37 x y) (hx : a.eval x = .slice (some ⟨b, off, none⟩) n c) (hy : a.eval y = .int .i64 (k : Int)) (hw : Region.wanted o (yielded ops a.tmps) = true)
    (h : wpList Tryd.prog ops Q rest (a.put o.dst (.pointer (some ⟨b, off + k, none⟩))) w) : wpList Tryd.prog ops Q (o :: rest) a w := by
  refine wpSeq_val _ _ hw ?_ h
  have i0 : (0 : Int) ≤ (k : Int) := by omega
  have i1 : (k : Int) < (n : Int) := by omega
  unfold execOp
  generalize a.eval = f at hx hy ⊢
  simp only [ho, hx, hy]
  simp [go_sem, i0, i1]
theorem apart_inj {ls : List By} (h : Apart17 ls) : Inj17 ls ls := fun p hp q hq => apart_mem h p hp q hq
end Go.Proofs.YtphmmnffgknkcaaDoor
/- The walk of the statement PagesLacks (layer 17). -/
namespace Go.Proofs.YtphmmnffgknkcaaDoor
open Go.RowKit
set_option maxRecDepth 100000
set_option maxRecDepth 100000 in
set_option maxHeartbeats 16000000 in
theorem pagesLacks_law (vt vu : Value) (ds es : List By) (tn bn : Int) (x : BitVec 8) (w : World) (hK : KOk w) (hD : ReadsD w vt ds) (hE : ReadsD w vu es) :
    Calls Tryd.prog 5 #[vt, vu, .int .i64 tn, .int .i64 bn, .int .u8 (x.toNat : Int)] w fun e w' => e = .returned (.bool true) ∧ Below w.heap.size w w' := by
  have HD : Hid (ReadsD w vt ds) := hD
  have HE : Hid (ReadsD w vu es) := hE
  have HK : Hid (KOk w) := hK
  have HBW : Hid (Below w.heap.size w w) := Below.refl _ _
  clear hD hE hK
  by_cases h40 : ds.length ≤ 40
  case neg =>
    have HF : Hid (decide (ds.length ≤ 40) = false) := decide_eq_false h40
    clear h40
    go_enter Tryd.func5, Tryd.ntmps5
    have tk0 : Hid True := trivial
    have tk1 : Hid True := trivial
    go_wp2_with (first
      | (clear tk0; go_at_call 8; refine (few17_any vt _ _ (HD.out.below HBW.out)).mono ?_; rintro e wq0 ⟨rfl, hq⟩
         obtain rfl := hq.symm
         rw [HF.out])
      | (clear tk1; go_at_call 9; refine (works17_any _ (HK.out.below HBW.out HK.out.lt)).mono ?_; rintro e wz ⟨rfl, hz⟩
         have HBZ : Hid (Below w.heap.size w wz) := HBW.out.trans (hz.mono HBW.out.size)
         clear hz))
    go_ret
    exact ⟨rfl, HBZ.out⟩
  case pos =>
    have HF : Hid (decide (ds.length ≤ 40) = true) := decide_eq_true h40
    obtain ⟨l0, Hl0⟩ : ∃ l, Hid (l = ofL (ds.zip es)) := ⟨_, rfl⟩
    have HOK : Hid (okLf l0 ∧ Up l0 ∧ l0.length ≤ 40) := by
      rw [Hl0.out]
      have h := ofL_good _ (zip_okR HD.out HE.out)
      exact ⟨h.1, h.2, by have h1 := ofL_len (ds.zip es); have h2 : (ds.zip es).length ≤ ds.length := by rw [List.length_zip]; omega
                          omega⟩
    have HFZ : Hid (Fits l0 0) := fits_zero HOK.out.1 HOK.out.2.1
    have HSZ : Hid ((saveL 0 l0).length ≤ 25601 ∧ ∀ p ∈ saveL 0 l0, 1 ≤ p.length ∧ p.length ≤ 512) := ⟨save_few HOK.out.1 HOK.out.2.1 (by have := HOK.out.2.2; omega), save_short 256 0 l0 (by omega) HFZ.out⟩
    obtain ⟨dg, HDG⟩ : ∃ z, Hid (z = dig (topPg 0 l0)) := ⟨_, rfl⟩
    have HDL : Hid (dg.length = 32) := by show _ = _; rw [HDG.out]; exact len_dig' _
    clear h40
    obtain ⟨n, HN⟩ : ∃ z, Hid (z = (saveL 0 l0).length) := ⟨_, rfl⟩
    have hn0 : 0 < n := by rw [HN.out]; exact save_pos 0 l0
    have hn1 : n ≤ 25601 := by rw [HN.out]; exact HSZ.out.1
    have e0 : ((n : Int) == 0) = false := by rw [beq_eq_false_iff_ne]; omega
    obtain ⟨tu, htu⟩ : ∃ t : Nat, IntKind.u64.wrap tn = (t : Int) := ⟨(IntKind.u64.wrap tn).toNat, by have := wrap_nonneg tn; omega⟩
    obtain ⟨K, HKD⟩ : ∃ K, Hid (K = tu % n) := ⟨_, rfl⟩
    have hKn : K < n := by rw [HKD.out]; exact Nat.mod_lt _ hn0
    have hw2 : IntKind.u64.wrap (n : Int) = (n : Int) := by simp [IntKind.wrap, IntKind.bits, IntKind.signed]; omega
    have hrem : Int.tmod (tu : Int) (n : Int) = (K : Int) := by rw [HKD.out]; rfl
    have hw3 : IntKind.i64.wrap (K : Int) = (K : Int) := wrap_small2 _ (by omega) (by omega)
    have hw4 : IntKind.u64.wrap (K : Int) = (K : Int) := by simp [IntKind.wrap, IntKind.bits, IntKind.signed]; omega
    go_enter Tryd.func5, Tryd.ntmps5
    have tk0 : Hid True := trivial
    have tk1 : Hid True := trivial
    have tk2 : Hid True := trivial
    have tk3 : Hid True := trivial
    have tk4 : Hid True := trivial
    go_upto_region 10 with (first
      | (clear tk0; go_at_call 8; refine (few17_any vt _ _ (HD.out.below HBW.out)).mono ?_; rintro e wq0 ⟨rfl, hq⟩
         obtain rfl := hq.symm
         rw [HF.out])
      | (clear tk1; go_at_call 10; refine (trOf_any _ vt vu ds es (HK.out.below HBW.out HK.out.lt) (HD.out.below HBW.out) (HE.out.below HBW.out) (by have := of_decide_eq_true HF.out; omega)).mono ?_; rintro e w1 ⟨gt, rfl, ht, hb⟩
         rw [← Hl0.out] at ht
         have HT : Hid (TT w1 gt l0) := ht
         clear ht
         replace HBW : Hid (Below w.heap.size w w1) := HBW.out.trans (hb.mono HBW.out.size)
         clear hb)
      | (clear tk2; go_at_call 11; refine (pgSave_any gt l0 _ (HK.out.below HBW.out HK.out.lt) HT.out (Nat.le_trans HOK.out.2.2 (by decide))).mono ?_; rintro e w2 ⟨vv2, us2, rfl, hp, hb⟩
         rw [← HDG.out]
         obtain ⟨gl, nx, cl, hvv, hrow⟩ := row17_of hp (save_pos 0 l0)
         have hnx := hrow.len
         rw [← HN.out] at hnx
         obtain rfl : n = nx := hnx.symm
         subst hvv
         have HRL : Hid (Row17 w2 gl n cl (saveL 0 l0)) := hrow
         clear hp hrow hnx HT
         replace HBW : Hid (Below w.heap.size w w2) := HBW.out.trans (hb.mono HBW.out.size)
         clear hb)
      | (clear tk3; with_reducible refine wpSeq_allocD ?_ ?_ ?_
         · rfl
         · rfl
         intro gd w3 nn
         have HN2 : Hid (Blk w3 gd (cb zb32) 28 ∧ w2.heap.size ≤ gd ∧ Below w2.heap.size w2 w3) := ⟨nn.blk, nn.ge, nn.below⟩
         clear nn)
      | (clear tk4; with_reducible refine wpSeq_storeD (.tmp 12) (.tmp 32) gd zb32 dg zb32_len HDL.out HN2.out.1 ?_ ?_ ?_ ?_ ?_
         · rfl
         · rfl
         · rfl
         · rfl
         intro w4 h9
         have hb : Below w2.heap.size w2 w4 := HN2.out.2.2.trans (h9.only.below HN2.out.2.1 HN2.out.2.2.size)
         have HBgd : Hid (Blk w4 gd (cb dg) 28) := h9.blk
         clear h9 HN2
         replace HRL : Hid (Row17 w4 gl n cl (saveL 0 l0)) := HRL.out.next hb
         replace HBW : Hid (Below w.heap.size w w4) := HBW.out.trans (hb.mono HBW.out.size)
         clear hb))
    obtain ⟨us, husl, husa, huso⟩ := row17_us HRL.out
    have HLEN : Hid ((saveL 0 l0).length = n) := HN.out.symm
    obtain ⟨ps, HPS⟩ : ∃ z, Hid (z = saveL 0 l0) := ⟨_, rfl⟩
    rw [← HPS.out] at HRL HSZ HLEN husa
    obtain ⟨B, HBB⟩ : ∃ z, Hid (z = w4.heap.size) := ⟨_, rfl⟩
    have HCL : Hid (n ≤ cl) := by
      obtain ⟨ad, cap, h1, h2, _⟩ := HRL.out.rd
      simp only [Value.slice.injEq] at h1
      show _ ≤ _
      rw [h1.2.2, h1.2.1]; exact h2
    have HUS : Hid (us.length = n ∧ ∀ u ∈ us, u.oneCell' = true) := ⟨husl, huso⟩
    have HUE : Hid (∀ (j : Nat) (u : Value), us[j]? = some u → Reads w4 u (ps.getD j []) ∧ ∀ k, u.ownBlock = some k → k < B) := fun j u hj => by
      obtain ⟨h1, h2⟩ := husa j u hj
      have hjn : j < ps.length := by rw [HLEN.out, ← HUS.out.1]; exact (List.getElem?_eq_some_iff.1 hj).1
      have hp := (HSZ.out.2 (ps.getD j []) (by rw [List.getD_eq_getElem?_getD, List.getElem?_eq_getElem hjn]; exact List.getElem_mem hjn)).1
      exact ⟨h2, fun k hk => by rw [HBB.out]; exact reads_lt17 h2 hp k hk⟩
    have HX : Hid (∀ W, Below B w4 W → B ≤ W.heap.size ∧ KOk W ∧ Below w.heap.size w W ∧ Row17 W gl n cl ps ∧ Blk W gd (cb dg) 28 ∧ ∀ (j : Nat) (u : Value), us[j]? = some u → W.cell? ⟨gl, 0 + j, none⟩ = some u ∧ Reads W u (ps.getD j [])) := fun W hW =>
      have hW2 : Below w4.heap.size w4 W := by rw [← HBB.out]; exact hW
      ⟨by rw [HBB.out]; exact hW2.size, (HK.out.below HBW.out HK.out.lt).below hW2 (HK.out.below HBW.out HK.out.lt).lt, HBW.out.trans (hW2.mono HBW.out.size), HRL.out.next hW2, HBgd.out.below hW2 HBgd.out.lt, fun j u hj => by
        obtain ⟨h1, h2⟩ := husa j u hj
        exact ⟨by rw [Nat.zero_add, hW2.cell (p := ⟨gl, j, none⟩) (block_lt_of_cell h1)]; exact h1, h2.below hW2⟩⟩
    have HB0 : Hid (Below B w4 w4) := Below.refl _ _
    clear husl husa huso HRL HBgd HBW
    obtain ⟨pk, HPK⟩ : ∃ z, Hid (z = ps.getD K []) := ⟨_, rfl⟩
    have hKp : K < ps.length := by rw [HLEN.out]; exact hKn
    have HPM : Hid (pk ∈ ps ∧ 0 < pk.length ∧ pk.length ≤ 512) := by
      have hm : pk ∈ ps := by rw [HPK.out, List.getD_eq_getElem?_getD, List.getElem?_eq_getElem hKp]; exact List.getElem_mem hKp
      exact ⟨hm, HSZ.out.2 pk hm⟩
    obtain ⟨rest, HRS⟩ : ∃ z, Hid (z = ps.take K ++ ps.drop (K + 1)) := ⟨_, rfl⟩
    have HRM : Hid (∀ p ∈ rest, p ∈ ps) := fun p hp => by
      rw [HRS.out] at hp
      rcases List.mem_append.1 hp with hp | hp
      · exact List.mem_of_mem_take hp
      · exact List.mem_of_mem_drop hp
    have HRN : Hid (rest.length + 1 = n) := by show _ = _; rw [HRS.out, List.length_append, List.length_take, List.length_drop, HLEN.out]; omega
    have HND : Hid (Apart17 ps → pk ∉ rest) := fun hap => by
      rw [HPK.out, HRS.out]
      refine drop_one ?_ hKp
      rw [HPS.out] at hap ⊢
      exact save_nodup 256 0 l0 (by omega) HFZ.out (apart_inj hap)
    obtain ⟨uk, huk⟩ : ∃ u, us[K]? = some u := ⟨us[K]'(by rw [HUS.out.1]; exact hKn), List.getElem?_eq_getElem _⟩
    obtain ⟨nk, HNK⟩ : ∃ z, Hid (z = pk.length) := ⟨_, rfl⟩
    obtain ⟨ak, ck, hvk⟩ : ∃ a c, uk = .slice a nk c := by
      obtain ⟨a, c, h1, _⟩ := (HUE.out K uk huk).1
      exact ⟨a, c, by rw [h1, HNK.out, HPK.out]⟩
    subst hvk
    have HUK : Hid (∀ W, Below B w4 W → W.cell? ⟨gl, K, none⟩ = some (.slice ak nk ck) ∧ Reads W (.slice ak nk ck) pk) := fun W hW => by
      have h := (HX.out W hW).2.2.2.2.2 K _ huk
      rw [← HPK.out, Nat.zero_add] at h
      exact h
    have ek : ((nk : Int) == 0) = false := by rw [beq_eq_false_iff_ne, HNK.out]; have := HPM.out.2.1; omega
    have fK : IntKind.i64.wrap ((K : Int) + 1) = ((K + 1 : Nat) : Int) := by rw [IntKind.wrap_i64]; omega
    obtain ⟨K1, HK1⟩ : ∃ z, Hid (z = K + 1) := ⟨_, rfl⟩
    rw [← HK1.out] at fK
    have sl := xLo gl 0 n cl K (by have := HCL.out; omega)
    have sh := xHi gl 0 n cl K1 (by rw [HK1.out]; omega)
    obtain ⟨o2, HO2⟩ : ∃ z, Hid (z = if cl = K1 then 0 else 0 + K1) := ⟨_, rfl⟩
    obtain ⟨n2, HN2⟩ : ∃ z, Hid (z = n - K1) := ⟨_, rfl⟩
    obtain ⟨c2, HC2⟩ : ∃ z, Hid (z = cl - K1) := ⟨_, rfl⟩
    rw [← HO2.out, ← HN2.out, ← HC2.out] at sh
    have HT1 : Hid ((us.take K).length = K ∧ (ps.take K).length = K ∧ (us.drop K1).length = n2 ∧ (ps.drop K1).length = n2 ∧ n2 ≤ c2 ∧ K ≤ cl ∧ rest = ps.take K ++ ps.drop K1) := by
      have h1 := HUS.out.1
      have h2 := HLEN.out
      have h3 := HCL.out
      refine ⟨?_, ?_, ?_, ?_, ?_, ?_, by rw [HRS.out, HK1.out]⟩
      · rw [List.length_take]; omega
      · rw [List.length_take]; omega
      · rw [List.length_drop, HN2.out, h1]
      · rw [List.length_drop, HN2.out, h2]
      · rw [HN2.out, HC2.out]; omega
      · omega
    have HE1 : Hid (∀ W, Below B w4 W → ∀ (j : Nat) (u : Value), (us.take K)[j]? = some u → W.cell? ⟨gl, 0 + j, none⟩ = some u ∧ Reads W u ((ps.take K).getD j []) ∧ ∀ k, u.ownBlock = some k → k < B) := fun W hW j u hj => by
      have hjk : j < K := by have := (List.getElem?_eq_some_iff.1 hj).1; rw [HT1.out.1] at this; exact this
      rw [List.getElem?_take_of_lt hjk] at hj
      have h := (HX.out W hW).2.2.2.2.2 j u hj
      exact ⟨h.1, by rw [getD_take _ _ _ _ hjk]; exact h.2, (HUE.out j u hj).2⟩
    have HE2 : Hid (∀ W, Below B w4 W → ∀ (j : Nat) (u : Value), (us.drop K1)[j]? = some u → W.cell? ⟨gl, o2 + j, none⟩ = some u ∧ Reads W u ((ps.drop K1).getD j []) ∧ ∀ k, u.ownBlock = some k → k < B) := fun W hW j u hj => by
      have hjn : j < n2 := by have := (List.getElem?_eq_some_iff.1 hj).1; rw [HT1.out.2.2.1] at this; exact this
      rw [List.getElem?_drop] at hj
      have h := (HX.out W hW).2.2.2.2.2 (K1 + j) u hj
      have ho : o2 = K1 := by rw [HO2.out, if_neg (by have := HT1.out.2.2.2.2.1; have := HC2.out; omega)]; omega
      refine ⟨by rw [ho]; have := h.1; rwa [Nat.zero_add] at this, ?_, (HUE.out (K1 + j) u hj).2⟩
      rw [List.getD_eq_getElem?_getD, List.getElem?_drop, ← List.getD_eq_getElem?_getD]
      exact h.2
    have HO1 : Hid ((∀ u ∈ us.take K, u.oneCell' = true) ∧ ∀ u ∈ us.drop K1, u.oneCell' = true) := ⟨fun u hu => HUS.out.2 u (List.mem_of_mem_take hu), fun u hu => HUS.out.2 u (List.mem_of_mem_drop hu)⟩
    obtain ⟨bu, hbu⟩ : ∃ t : Nat, IntKind.u64.wrap bn = (t : Int) := ⟨(IntKind.u64.wrap bn).toNat, by have := wrap_nonneg bn; omega⟩
    obtain ⟨I, HID⟩ : ∃ K, Hid (K = bu % nk) := ⟨_, rfl⟩
    have hIn : I < nk := by rw [HID.out]; exact Nat.mod_lt _ (by rw [HNK.out]; exact HPM.out.2.1)
    have hnk1 : nk ≤ 512 := by rw [HNK.out]; exact HPM.out.2.2
    have hv2 : IntKind.u64.wrap (nk : Int) = (nk : Int) := by simp [IntKind.wrap, IntKind.bits, IntKind.signed]; omega
    have hvrem : Int.tmod (bu : Int) (nk : Int) = (I : Int) := by rw [HID.out]; rfl
    have hv3 : IntKind.i64.wrap (I : Int) = (I : Int) := wrap_small2 _ (by omega) (by omega)
    have hv4 : IntKind.u64.wrap (I : Int) = (I : Int) := by simp [IntKind.wrap, IntKind.bits, IntKind.signed]; omega
    have hIi : (I : Int) < (nk : Int) := by omega
    obtain ⟨bx, HBX⟩ : ∃ z, Hid (z = pk.set I (pk.getD I 0 ^^^ x)) := ⟨_, rfl⟩
    obtain ⟨y0, HY0⟩ : ∃ z, Hid (z = pk.getD I 0) := ⟨_, rfl⟩
    obtain ⟨y1, HY1⟩ : ∃ z, Hid (z = y0 ^^^ x) := ⟨_, rfl⟩
    have HBX2 : Hid (bx = pk.set I y1) := by show _ = _; rw [HBX.out, HY1.out, HY0.out]
    have hxo : bits .xor .u8 (y0.toNat : Int) (x.toNat : Int) = (y1.toNat : Int) := by rw [HY1.out]; exact xor_byte y0 x
    have HBL : Hid (bx.length = pk.length) := by show _ = _; rw [HBX.out, List.length_set]
    have HLD1 : Hid (∀ W v, KOk W → ReadsL W v rest → Apart17 ps → Calls Tryd.prog 17 #[.agg (cb dg).toArray, v] W fun e w' => e = .returned (.tuple #[.pointer none, .int .i64 7]) ∧ Below W.heap.size W w') := fun W v hk hr hap => by
      rw [HDG.out]
      refine pgLoad_no l0 v rest W hk HOK.out.1 HOK.out.2.1 (by have := HOK.out.2.2; omega) hr (by have := HRN.out; omega) (fun p hp => by have := (HSZ.out.2 p (HRM.out p hp)).2; omega) ?_ (by rw [← HPS.out, HLEN.out]; have := HRN.out; omega) fun h => HND.out hap (h pk (by rw [← HPS.out]; exact HPM.out.1))
      rw [← HPS.out]
      exact fun p hp q hq he => apart_mem hap q (HRM.out q hq) p hp he
    have HLD2 : Hid (∀ W v, KOk W → ReadsL W v (rest ++ [bx]) → Apart17 ps → false = clashB bx ps → x ≠ 0 → Calls Tryd.prog 17 #[.agg (cb dg).toArray, v] W fun e w' => e = .returned (.tuple #[.pointer none, .int .i64 7]) ∧ Below W.heap.size W w') := fun W v hk hr hap hcl hx => by
      rw [HDG.out]
      refine pgLoad_no l0 v (rest ++ [bx]) W hk HOK.out.1 HOK.out.2.1 (by have := HOK.out.2.2; omega) hr (by rw [List.length_append]; have := HRN.out; simp; omega) (fun p hp => ?_) ?_ (by rw [← HPS.out, HLEN.out, List.length_append]; have := HRN.out; omega) fun h => ?_
      · rcases List.mem_append.1 hp with hp | hp
        · have := (HSZ.out.2 p (HRM.out p hp)).2; omega
        · rw [List.mem_singleton.1 hp, HBL.out]; have := HPM.out.2.2; omega
      · rw [← HPS.out]
        intro p hp q hq he
        rcases List.mem_append.1 hq with hq | hq
        · exact apart_mem hap q (HRM.out q hq) p hp he
        · have hq2 := List.mem_singleton.1 hq
          rw [hq2] at he ⊢
          exact (clash_no hcl.symm p hp he.symm).symm
      · rcases List.mem_append.1 (h pk (by rw [← HPS.out]; exact HPM.out.1)) with h1 | h1
        · exact HND.out hap h1
        · have h2 := List.mem_singleton.1 h1
          rw [HBX.out] at h2
          exact set_ne (by rw [← HNK.out]; exact hIn) hx h2.symm
    have HAN : Hid ((∀ p ∈ ps, p.length < 140737488355000) ∧ ps.length < 1000000 ∧ bx.length < 140737488355000) := ⟨fun p hp => by have := (HSZ.out.2 p hp).2; omega, by rw [HLEN.out]; omega, by rw [HBL.out]; have := HPM.out.2.2; omega⟩
    obtain ⟨cb0, HCB⟩ : ∃ z, Hid (z = clashB bx ps) := ⟨_, rfl⟩
    clear hw2 hrem hw3 hw4 htu
    by_cases hx0 : x = 0
    case pos =>
      have eB : ((x.toNat : Int) == 0) = true := by rw [hx0]; rfl
      clear hx0
      have tb0 : Hid True := trivial
      have tb1 : Hid True := trivial
      have tb2 : Hid True := trivial
      have tb3 : Hid True := trivial
      have tb4 : Hid True := trivial
      have tb5 : Hid True := trivial
      go_wp2_with (first
        | (clear tb0; go_at_call 16; refine (any9_any _ ps _ (HX.out _ HB0.out).2.2.2.1.rd HAN.out.1 HAN.out.2.1).mono ?_; rintro e w5 ⟨tb, rfl, hap, hb⟩
           have HAP : Hid (tb = false → Apart17 ps) := hap
           clear hap
           replace HB0 : Hid (Below B w4 w5) := HB0.out.trans (hb.mono (HX.out _ HB0.out).1)
           clear hb
           cases tb)
        | (clear tb1; go_at_call 9; refine (works17_any _ (HX.out _ HB0.out).2.1).mono ?_; rintro e wz ⟨rfl, hz⟩
           have HBZ : Hid (Below w.heap.size w wz) := (HX.out _ HB0.out).2.2.1.trans (hz.mono (HX.out _ HB0.out).2.2.1.size)
           clear hz)
        | (clear tb2; with_reducible refine wpSeq_appXs (.tmp 47) (.tmp 50) B (.slice none 0 0) [] (us.take K) gl 0 K cl (OwnX.nil _ _) HT1.out.1 HT1.out.2.2.2.2.2.1 (fun j u hj => (HE1.out _ HB0.out j u hj).1) HO1.out.1 (by have := HT1.out.1; simp; omega) (HX.out _ HB0.out).1 ?_ ?_ ?_ ?_ ?_
           · rfl
           · rfl
           · rfl
           · rfl
           intro v5 w6 ho hg
           obtain ⟨a5, c5, hv5⟩ := ho.form
           generalize hn5 : (([] : List Value) ++ us.take K).length = n5 at hv5
           clear hn5
           subst hv5
           have HR : Hid (PgS w6 B (.slice a5 n5 c5) (us.take K) (ps.take K) (fun _ => False)) := (PgS.nil _ _ _).mores ho hg (by rw [HT1.out.1, HT1.out.2.1]) fun j u hj => ⟨(HE1.out _ HB0.out j u hj).2.1, fun k hk => ⟨Nat.lt_of_lt_of_le ((HE1.out _ HB0.out j u hj).2.2 k hk) (HX.out _ HB0.out).1, (by intro e; cases e), fun e => e⟩⟩
           replace HB0 : Hid (Below B w4 w6) := HB0.out.trans (hg.below (HX.out _ HB0.out).1 fun k hk => by cases hk)
           clear ho hg)
        | (clear tb3; with_reducible refine wpSeq_appXs (.tmp 52) (.tmp 56) B (.slice a5 n5 c5) (us.take K) (us.drop K1) gl o2 n2 c2 HR.out.own HT1.out.2.2.1 HT1.out.2.2.2.2.1 (fun j u hj => (HE2.out _ HB0.out j u hj).1) HO1.out.2 (by have h1 := HT1.out.1; have h2 := HN2.out; omega) (HX.out _ HB0.out).1 ?_ ?_ ?_ ?_ ?_
           · rfl
           · rfl
           · rfl
           · rfl
           intro v6 w7 ho hg
           obtain ⟨a6, c6, hv6⟩ := ho.form
           generalize hn6 : (us.take K ++ us.drop K1).length = n6 at hv6
           clear hn6
           subst hv6
           have hR6 : PgS w7 B (.slice a6 n6 c6) (us.take K ++ us.drop K1) (ps.take K ++ ps.drop K1) (fun _ => False) := HR.out.mores ho hg (by rw [HT1.out.2.2.1, HT1.out.2.2.2.1]) fun j u hj => ⟨(HE2.out _ HB0.out j u hj).2.1, fun k hk => ⟨Nat.lt_of_lt_of_le ((HE2.out _ HB0.out j u hj).2.2 k hk) (HX.out _ HB0.out).1, (fun e => by have h1 := (HR.out.own.lt k e).1; have h2 := (HE2.out _ HB0.out j u hj).2.2 k hk; omega), fun e => e⟩⟩
           rw [← HT1.out.2.2.2.2.2.2] at hR6
           replace HB0 : Hid (Below B w4 w7) := HB0.out.trans (hg.below (HX.out _ HB0.out).1 fun k hk => (HR.out.own.lt k hk).1)
           replace HR : Hid (PgS w7 B (.slice a6 n6 c6) (us.take K ++ us.drop K1) rest (fun _ => False)) := hR6
           clear ho hg hR6)
        | (clear tb4; with_reducible refine wpSeq_loadD (.tmp 12) gd dg HDL.out (HX.out _ HB0.out).2.2.2.2.1 ?_ ?_ ?_ ?_
           · rfl
           · rfl
           · rfl
           have HQ1 : Hid True := trivial)
        | (clear tb5; go_at_call 17; refine (HLD1.out _ _ (HX.out _ HB0.out).2.1 HR.out.readsL (HAP.out (by trivial))).mono ?_; rintro e w8 ⟨rfl, hb⟩
           replace HR : Hid (PgS w8 B (.slice a6 n6 c6) (us.take K ++ us.drop K1) rest (fun _ => False)) := HR.out.next hb
           replace HB0 : Hid (Below B w4 w8) := HB0.out.trans (hb.mono (HX.out _ HB0.out).1)
           clear hb
           have ckc := (HUK.out _ HB0.out).1))
      all_goals
        go_ret
        exact ⟨rfl, HBZ.out⟩
    case neg =>
      have HX0 : Hid (x ≠ 0) := hx0
      have eB : ((x.toNat : Int) == 0) = false := by
        rw [beq_eq_false_iff_ne]
        intro h
        exact hx0 (BitVec.eq_of_toNat_eq (by simpa using h))
      clear hx0
      have ta0 : Hid True := trivial
      have ta1 : Hid True := trivial
      have ta2 : Hid True := trivial
      have ta3 : Hid True := trivial
      have ta4 : Hid True := trivial
      have ta5 : Hid True := trivial
      have ta6 : Hid True := trivial
      have ta7 : Hid True := trivial
      have ta8 : Hid True := trivial
      have ta9 : Hid True := trivial
      have ta10 : Hid True := trivial
      have ta11 : Hid True := trivial
      have ta12 : Hid True := trivial
      have ta13 : Hid True := trivial
      have ta14 : Hid True := trivial
      have ta15 : Hid True := trivial
      have ta16 : Hid True := trivial
      have ta17 : Hid True := trivial
      go_wp2_with (first
        | (clear ta0; go_at_call 16; refine (any9_any _ ps _ (HX.out _ HB0.out).2.2.2.1.rd HAN.out.1 HAN.out.2.1).mono ?_; rintro e w5 ⟨tb, rfl, hap, hb⟩
           have HAP : Hid (tb = false → Apart17 ps) := hap
           clear hap
           replace HB0 : Hid (Below B w4 w5) := HB0.out.trans (hb.mono (HX.out _ HB0.out).1)
           clear hb
           cases tb)
        | (clear ta1; go_at_call 9; refine (works17_any _ (HX.out _ HB0.out).2.1).mono ?_; rintro e wz ⟨rfl, hz⟩
           have HBZ : Hid (Below w.heap.size w wz) := (HX.out _ HB0.out).2.2.1.trans (hz.mono (HX.out _ HB0.out).2.2.1.size)
           clear hz)
        | (clear ta2; with_reducible refine wpSeq_appXs (.tmp 47) (.tmp 50) B (.slice none 0 0) [] (us.take K) gl 0 K cl (OwnX.nil _ _) HT1.out.1 HT1.out.2.2.2.2.2.1 (fun j u hj => (HE1.out _ HB0.out j u hj).1) HO1.out.1 (by have := HT1.out.1; simp; omega) (HX.out _ HB0.out).1 ?_ ?_ ?_ ?_ ?_
           · rfl
           · rfl
           · rfl
           · rfl
           intro v5 w6 ho hg
           obtain ⟨a5, c5, hv5⟩ := ho.form
           generalize hn5 : (([] : List Value) ++ us.take K).length = n5 at hv5
           clear hn5
           subst hv5
           have HR : Hid (PgS w6 B (.slice a5 n5 c5) (us.take K) (ps.take K) (fun _ => False)) := (PgS.nil _ _ _).mores ho hg (by rw [HT1.out.1, HT1.out.2.1]) fun j u hj => ⟨(HE1.out _ HB0.out j u hj).2.1, fun k hk => ⟨Nat.lt_of_lt_of_le ((HE1.out _ HB0.out j u hj).2.2 k hk) (HX.out _ HB0.out).1, (by intro e; cases e), fun e => e⟩⟩
           replace HB0 : Hid (Below B w4 w6) := HB0.out.trans (hg.below (HX.out _ HB0.out).1 fun k hk => by cases hk)
           clear ho hg)
        | (clear ta3; with_reducible refine wpSeq_appXs (.tmp 52) (.tmp 56) B (.slice a5 n5 c5) (us.take K) (us.drop K1) gl o2 n2 c2 HR.out.own HT1.out.2.2.1 HT1.out.2.2.2.2.1 (fun j u hj => (HE2.out _ HB0.out j u hj).1) HO1.out.2 (by have h1 := HT1.out.1; have h2 := HN2.out; omega) (HX.out _ HB0.out).1 ?_ ?_ ?_ ?_ ?_
           · rfl
           · rfl
           · rfl
           · rfl
           intro v6 w7 ho hg
           obtain ⟨a6, c6, hv6⟩ := ho.form
           generalize hn6 : (us.take K ++ us.drop K1).length = n6 at hv6
           clear hn6
           subst hv6
           have hR6 : PgS w7 B (.slice a6 n6 c6) (us.take K ++ us.drop K1) (ps.take K ++ ps.drop K1) (fun _ => False) := HR.out.mores ho hg (by rw [HT1.out.2.2.1, HT1.out.2.2.2.1]) fun j u hj => ⟨(HE2.out _ HB0.out j u hj).2.1, fun k hk => ⟨Nat.lt_of_lt_of_le ((HE2.out _ HB0.out j u hj).2.2 k hk) (HX.out _ HB0.out).1, (fun e => by have h1 := (HR.out.own.lt k e).1; have h2 := (HE2.out _ HB0.out j u hj).2.2 k hk; omega), fun e => e⟩⟩
           rw [← HT1.out.2.2.2.2.2.2] at hR6
           replace HB0 : Hid (Below B w4 w7) := HB0.out.trans (hg.below (HX.out _ HB0.out).1 fun k hk => (HR.out.own.lt k hk).1)
           replace HR : Hid (PgS w7 B (.slice a6 n6 c6) (us.take K ++ us.drop K1) rest (fun _ => False)) := hR6
           clear ho hg hR6)
        | (clear ta4; with_reducible refine wpSeq_loadD (.tmp 12) gd dg HDL.out (HX.out _ HB0.out).2.2.2.2.1 ?_ ?_ ?_ ?_
           · rfl
           · rfl
           · rfl
           have HQ1 : Hid True := trivial)
        | (clear ta5; go_at_call 17; refine (HLD1.out _ _ (HX.out _ HB0.out).2.1 HR.out.readsL (HAP.out (by trivial))).mono ?_; rintro e w8 ⟨rfl, hb⟩
           replace HR : Hid (PgS w8 B (.slice a6 n6 c6) (us.take K ++ us.drop K1) rest (fun _ => False)) := HR.out.next hb
           replace HB0 : Hid (Below B w4 w8) := HB0.out.trans (hb.mono (HX.out _ HB0.out).1)
           clear hb
           have ckc := (HUK.out _ HB0.out).1)
        | (clear ta6; with_reducible refine wpSeq_idxQ17 (.tmp 73) (.tmp 74) gl 0 n cl K hKn ?_ ?_ ?_ ?_ ?_
           · rfl
           · rfl
           · rfl
           · rfl
           rw [Nat.zero_add]
           have HQ2 : Hid True := trivial)
        | (clear ta7; with_reducible refine wpSeq_buildY0 ?_ ?_ ?_
           · rfl
           · rfl
           intro gE w9 hy hge hb
           have HOB : Hid (OwnB w9 B (.slice (some ⟨gE, 0, none⟩) 0 0) []) := OwnB.zero17 _ _ _ (Nat.le_trans (HX.out _ HB0.out).1 hge) hy
           replace HR : Hid (PgS w9 B (.slice a6 n6 c6) (us.take K ++ us.drop K1) rest (fun k => False ∨ (Value.slice (some ⟨gE, 0, none⟩) 0 0).ownBlock = some k)) := HR.out.fresh hb fun k hk => Or.inr (hk.elim (fun h => h.elim) fun h => by cases h; exact hge)
           replace HB0 : Hid (Below B w4 w9) := HB0.out.trans (hb.mono (HX.out _ HB0.out).1)
           clear hy hge hb ckc
           have ckc := (HUK.out _ HB0.out).1)
        | (clear ta8; with_reducible refine wpSeq_idxQ17 (.tmp 82) (.tmp 83) gl 0 n cl K hKn ?_ ?_ ?_ ?_ ?_
           · rfl
           · rfl
           · rfl
           · rfl
           rw [Nat.zero_add]
           have HQ3 : Hid True := trivial)
        | (clear ta9; with_reducible refine wpSeq_appB (.tmp 81) (.tmp 85) B (.slice (some ⟨gE, 0, none⟩) 0 0) (.slice ak nk ck) [] pk HOB.out (HUK.out _ HB0.out).2 HPM.out.2.1 (by have := HPM.out.2.2; simp; omega) (HX.out _ HB0.out).1 ?_ ?_ ?_ ?_ ?_
           · rfl
           · rfl
           · rfl
           · rfl
           intro v9 w10 ho hg
           have ho2 : OwnB w10 B v9 pk := ho
           obtain ⟨g9, c9, hv9⟩ := ho2.some17 HPM.out.2.1
           rw [← HNK.out] at hv9
           subst hv9
           replace HR : Hid (PgS w10 B (.slice a6 n6 c6) (us.take K ++ us.drop K1) rest (fun k => False ∨ (Value.slice (some ⟨g9, 0, none⟩) nk c9).ownBlock = some k)) := HR.out.beside HOB.out hg
           replace HB0 : Hid (Below B w4 w10) := HB0.out.trans (hg.below (HX.out _ HB0.out).1 fun k hk => (HOB.out.ltP k hk).1)
           replace HOB : Hid (OwnB w10 B (.slice (some ⟨g9, 0, none⟩) nk c9) pk) := ho2
           clear ho ho2 hg ckc
           have cY : w10.cell? ⟨g9, I, none⟩ = some (.int .u8 (y0.toNat : Int)) := by
             obtain ⟨ad, cap, h1, _, _, h4⟩ := HOB.out.reads
             obtain ⟨b, off, h5, h6⟩ := h4 HPM.out.2.1
             have hb2 := (HOB.out.reads.own17 HPM.out.2.1) I (by rw [← HNK.out]; exact hIn)
             rw [← HY0.out] at hb2
             exact hb2)
        | (clear ta10; with_reducible refine wpSeq_idxY17 (.tmp 96) (.tmp 97) g9 0 nk c9 I hIn ?_ ?_ ?_ ?_ ?_
           · rfl
           · rfl
           · rfl
           · rfl
           rw [Nat.zero_add]
           have HQ4 : Hid True := trivial)
        | (clear ta11; with_reducible refine wpSeq_idxY17 (.tmp 94) (.tmp 95) g9 0 nk c9 I hIn ?_ ?_ ?_ ?_ ?_
           · rfl
           · rfl
           · rfl
           · rfl
           rw [Nat.zero_add]
           have HQ5 : Hid True := trivial)
        | (clear ta12; with_reducible refine wpSeq_storeOB (.tmp 102) (.tmp 101) B g9 nk c9 I pk y1 HOB.out (by rw [← HNK.out]; exact hIn) ?_ ?_ ?_ ?_ ?_
           · rfl
           · rfl
           · rfl
           · rfl
           intro w11 ho hs
           have hgB : B ≤ g9 := (HOB.out.ltP g9 rfl).1
           replace HR : Hid (PgS w11 B (.slice a6 n6 c6) (us.take K ++ us.drop K1) rest (fun k => False ∨ (Value.slice (some ⟨g9, 0, none⟩) nk c9).ownBlock = some k)) := HR.out.only (Or.inr rfl) (fun e => HR.out.own.ne_bytes HOB.out g9 e rfl) hs
           replace HB0 : Hid (Below B w4 w11) := HB0.out.trans (hs.below hgB (HX.out _ HB0.out).1)
           replace HOB : Hid (OwnB w11 B (.slice (some ⟨g9, 0, none⟩) nk c9) bx) := by rw [HBX2.out]; exact ho
           clear ho hs hgB cY)
        | (clear ta13; go_at_call 15; refine (clash17_any _ _ bx ps _ HOB.out.reads (HX.out _ HB0.out).2.2.2.1.rd HAN.out.2.2 HAN.out.1 HAN.out.2.1).mono ?_; rintro e w12 ⟨rfl, hb⟩
           rw [← HCB.out]
           replace HR : Hid (PgS w12 B (.slice a6 n6 c6) (us.take K ++ us.drop K1) rest (fun k => False ∨ (Value.slice (some ⟨g9, 0, none⟩) nk c9).ownBlock = some k)) := HR.out.next hb
           replace HOB : Hid (OwnB w12 B (.slice (some ⟨g9, 0, none⟩) nk c9) bx) := HOB.out.next hb
           replace HB0 : Hid (Below B w4 w12) := HB0.out.trans (hb.mono (HX.out _ HB0.out).1)
           clear hb
           cases cb0)
        | (clear ta14; with_reducible refine wpSeq_buildX (.tmp 108) (some ⟨g9, 0, none⟩) nk c9 ?_ ?_ ?_ ?_
           · rfl
           · rfl
           · rfl
           intro gX w13 hy hge hb
           have HY : Hid (Blk w13 gX [.slice (some ⟨g9, 0, none⟩) nk c9] 37) := hy
           replace HR : Hid (PgS w13 B (.slice a6 n6 c6) (us.take K ++ us.drop K1) rest (fun k => False ∨ (Value.slice (some ⟨g9, 0, none⟩) nk c9).ownBlock = some k)) := HR.out.next hb
           replace HOB : Hid (OwnB w13 B (.slice (some ⟨g9, 0, none⟩) nk c9) bx) := HOB.out.next hb
           replace HB0 : Hid (Below B w4 w13) := HB0.out.trans (hb.mono (HX.out _ HB0.out).1)
           clear hb
           clear hy hge)
        | (clear ta15; with_reducible refine wpSeq_appX (.tmp 107) (.tmp 109) B (.slice a6 n6 c6) (.slice (some ⟨g9, 0, none⟩) nk c9) (us.take K ++ us.drop K1) gX HR.out.own HY.out rfl (by have h1 := HR.out.len; have h2 := HRN.out; omega) (HX.out _ HB0.out).1 ?_ ?_ ?_ ?_ ?_
           · rfl
           · rfl
           · rfl
           · rfl
           intro v12 w14 ho hg
           have hbl : ∀ k, (Value.slice (some ⟨g9, 0, none⟩) nk c9).ownBlock = some k → k < w13.heap.size ∧ ((.slice a6 n6 c6) : Value).ownBlock ≠ some k ∧ ¬ False := fun k hk => ⟨(HOB.out.ltP k hk).2, (fun e => HR.out.own.ne_bytes HOB.out k e hk), fun h => h⟩
           have HR2 : Hid (PgS w14 B v12 ((us.take K ++ us.drop K1) ++ [.slice (some ⟨g9, 0, none⟩) nk c9]) (rest ++ [bx]) (fun _ => False)) := (HR.out.weak fun k _ h => h.elim).more ho hg HOB.out.reads hbl
           replace HB0 : Hid (Below B w4 w14) := HB0.out.trans (hg.below (HX.out _ HB0.out).1 fun k hk => (HR.out.own.lt k hk).1)
           clear ho hg hbl HR HOB HY)
        | (clear ta16; with_reducible refine wpSeq_loadD (.tmp 12) gd dg HDL.out (HX.out _ HB0.out).2.2.2.2.1 ?_ ?_ ?_ ?_
           · rfl
           · rfl
           · rfl
           have HQ6 : Hid True := trivial)
        | (clear ta17; go_at_call 17; refine (HLD2.out _ _ (HX.out _ HB0.out).2.1 HR2.out.readsL (HAP.out (by trivial)) HCB.out HX0.out).mono ?_; rintro e w15 ⟨rfl, hb⟩
           clear HR2
           replace HB0 : Hid (Below B w4 w15) := HB0.out.trans (hb.mono (HX.out _ HB0.out).1)
           clear hb))
      all_goals
        go_ret
        exact ⟨rfl, HBZ.out⟩
end Go.Proofs.YtphmmnffgknkcaaDoor
/- The walk of the statement PagesBack (layer 17). -/
namespace Go.Proofs.YtphmmnffgknkcaaDoor
open Go.RowKit
set_option maxRecDepth 100000
/-- a row of texts that stood in memory when it was begun -/
structure RwX (w0 : World) (B : Nat) (v : Value) (us : List Value) (ps : List By) (W : World) : Prop where
  own : OwnX W B v us
  len : us.length = ps.length
  rd : ∀ j u, us[j]? = some u → Reads w0 u (ps.getD j [])
  bel : Below B w0 W
  eq : B = w0.heap.size
theorem RwX.le {w0 W : World} {B : Nat} {v : Value} {us : List Value} {ps : List By} (h : RwX w0 B v us ps W) : B ≤ W.heap.size := by rw [h.eq]; exact h.bel.size
theorem RwX.next {w0 W W' : World} {B : Nat} {v : Value} {us : List Value} {ps : List By} (h : RwX w0 B v us ps W) (hb : Below W.heap.size W W') : RwX w0 B v us ps W' :=
  ⟨h.own.same fun k hk => hb.block k (h.own.lt k hk).2, h.len, h.rd, h.bel.trans (hb.mono h.le), h.eq⟩
theorem RwX.more {w0 W W' : World} {B : Nat} {v v' u : Value} {us : List Value} {ps : List By} {p : By} (h : RwX w0 B v us ps W) (ho : OwnX W' B v' (us ++ [u])) (hg : GrV W v W' v') (hr : Reads w0 u p) : RwX w0 B v' (us ++ [u]) (ps ++ [p]) W' := by
  refine ⟨ho, by rw [List.length_append, List.length_append, h.len]; rfl, fun j x hj => ?_, h.bel.trans (hg.below h.le fun k hk => (h.own.lt k hk).1), h.eq⟩
  rcases Nat.lt_or_ge j us.length with hl | hl
  · rw [List.getElem?_append_left hl] at hj
    rw [List.getD_eq_getElem?_getD, List.getElem?_append_left (by rw [← h.len]; exact hl), ← List.getD_eq_getElem?_getD]
    exact h.rd j x hj
  · rw [List.getElem?_append_right hl] at hj
    have hj0 : j - us.length = 0 := by have := (List.getElem?_eq_some_iff.1 hj).1; simp at this; omega
    rw [hj0] at hj
    cases hj
    rw [List.getD_eq_getElem?_getD, List.getElem?_append_right (by rw [← h.len]; exact hl), ← h.len, hj0]
    exact hr
theorem RwX.readsL {w0 W : World} {B : Nat} {v : Value} {us : List Value} {ps : List By} (h : RwX w0 B v us ps W) : ReadsL W v ps := by
  have hl := h.len
  have hb2 : Below w0.heap.size w0 W := by rw [← h.eq]; exact h.bel
  rcases h.own with ⟨_, ⟨e1, h2⟩ | ⟨g, cap, cur, e1, hg, hh, hc, hm, hs, ht⟩⟩
  · have : ps = [] := List.eq_nil_of_length_eq_zero (by rw [← hl]; exact h2)
    subst this
    exact ⟨none, 0, e1, Nat.le_refl _, fun _ => rfl, fun hp => by simp at hp⟩
  · refine ⟨_, cap, by rw [e1, hl], by rw [← hl]; exact hc, (fun e => by cases e), fun hp => ⟨g, 0, rfl, fun j hj => ?_⟩⟩
    have hju : j < us.length := by rw [hl]; exact hj
    obtain ⟨g2, c2, e2, hc2, _⟩ := h.own.at (j := j) (u := us[j]) (by rw [List.getElem?_eq_getElem hju])
    rw [e1] at e2
    cases e2
    exact ⟨us[j], by rw [Nat.zero_add]; exact hc2, (h.rd j us[j] (by rw [List.getElem?_eq_getElem hju])).below hb2⟩
/-- the pages turned round, with others between -/
def backL (ps os : List By) (K n : Nat) : Nat → List By
  | 0 => []
  | i + 1 => backL ps os K n i ++ [ps.getD ((K + n - i) % n) []] ++ (if i < os.length then [os.getD i []] else [])
theorem backL_len (ps os : List By) (K n : Nat) : ∀ i, i ≤ (backL ps os K n i).length ∧ (backL ps os K n i).length ≤ 2 * i
  | 0 => ⟨Nat.le_refl _, Nat.le_refl _⟩
  | i + 1 => by
    have := backL_len ps os K n i
    simp only [backL, List.length_append, List.length_cons, List.length_nil]
    split <;> simp only [List.length_cons, List.length_nil] <;> omega
theorem backL_has (ps os : List By) (K n : Nat) : ∀ i j, j < i → ps.getD ((K + n - j) % n) [] ∈ backL ps os K n i
  | 0, j, h => by omega
  | i + 1, j, h => by
    simp only [backL, List.mem_append, List.mem_singleton]
    rcases Nat.lt_or_ge j i with h1 | h1
    · exact Or.inl (Or.inl (backL_has ps os K n i j h1))
    · have : j = i := by omega
      subst this
      exact Or.inl (Or.inr rfl)
theorem backL_of (ps os : List By) (K n : Nat) (hn : n = ps.length) (h0 : 0 < n) : ∀ i p, p ∈ backL ps os K n i → p ∈ ps ∨ p ∈ os
  | 0, p, h => by cases h
  | i + 1, p, h => by
    simp only [backL, List.mem_append, List.mem_singleton] at h
    rcases h with (h | h) | h
    · exact backL_of ps os K n hn h0 i p h
    · have hm : (K + n - i) % n < ps.length := by rw [← hn]; exact Nat.mod_lt _ h0
      rw [h, List.getD_eq_getElem?_getD, List.getElem?_eq_getElem hm]
      exact Or.inl (List.getElem_mem hm)
    · split at h
      · rename_i hi
        rw [List.mem_singleton.1 h, List.getD_eq_getElem?_getD, List.getElem?_eq_getElem hi]
        exact Or.inr (List.getElem_mem hi)
      · cases h
set_option maxRecDepth 100000 in
set_option maxHeartbeats 16000000 in
theorem pagesBack_law (vt vu vo : Value) (ds es os : List By) (tn : Int) (w : World) (hK : KOk w) (hD : ReadsD w vt ds) (hE : ReadsD w vu es) (hO : ReadsL w vo os) (hos : ∀ t ∈ os, t.length < 140737488355000) :
    Calls Tryd.prog 4 #[vt, vu, .int .i64 tn, vo] w fun e w' => e = .returned (.bool true) ∧ Below w.heap.size w w' := by
  have HD : Hid (ReadsD w vt ds) := hD
  have HE : Hid (ReadsD w vu es) := hE
  have HK : Hid (KOk w) := hK
  have HBW : Hid (Below w.heap.size w w) := Below.refl _ _
  clear hD hE hK
  have HOL : Hid (∀ t ∈ os, t.length < 140737488355000) := hos
  obtain ⟨ado, cpo, hvo, _, _, hxo⟩ := hO
  obtain ⟨m, HM⟩ : ∃ n, Hid (n = os.length) := ⟨_, rfl⟩
  rw [← HM.out] at hvo
  subst hvo
  have HXO : Hid (0 < os.length → ∃ b off, ado = some ⟨b, off, none⟩ ∧ ∀ j, j < os.length → ∃ vj, w.cell? ⟨b, off + j, none⟩ = some vj ∧ Reads w vj (os.getD j [])) := hxo
  clear hxo hos
  by_cases h40 : ds.length ≤ 40
  case neg =>
    have HF : Hid (decide (ds.length ≤ 40) = false) := decide_eq_false h40
    clear h40
    go_enter Tryd.func4, Tryd.ntmps4
    have tk0 : Hid True := trivial
    have tk1 : Hid True := trivial
    go_wp2_with (first
      | (clear tk0; go_at_call 8; refine (few17_any vt _ _ (HD.out.below HBW.out)).mono ?_; rintro e wq0 ⟨rfl, hq⟩
         obtain rfl := hq.symm
         rw [HF.out])
      | (clear tk1; go_at_call 9; refine (works17_any _ (HK.out.below HBW.out HK.out.lt)).mono ?_; rintro e wz ⟨rfl, hz⟩
         have HBZ : Hid (Below w.heap.size w wz) := HBW.out.trans (hz.mono HBW.out.size)
         clear hz))
    go_ret
    exact ⟨rfl, HBZ.out⟩
  case pos =>
  by_cases h20 : m ≤ 20
  case neg =>
    have HF : Hid (decide (ds.length ≤ 40) = true) := decide_eq_true h40
    have hgt : (20 : Int) < (m : Int) := by omega
    clear h40 h20
    go_enter Tryd.func4, Tryd.ntmps4
    have tk0 : Hid True := trivial
    have tk1 : Hid True := trivial
    go_wp2_with (first
      | (clear tk0; go_at_call 8; refine (few17_any vt _ _ (HD.out.below HBW.out)).mono ?_; rintro e wq0 ⟨rfl, hq⟩
         obtain rfl := hq.symm
         rw [HF.out])
      | (clear tk1; go_at_call 9; refine (works17_any _ (HK.out.below HBW.out HK.out.lt)).mono ?_; rintro e wz ⟨rfl, hz⟩
         have HBZ : Hid (Below w.heap.size w wz) := HBW.out.trans (hz.mono HBW.out.size)
         clear hz))
    go_ret
    exact ⟨rfl, HBZ.out⟩
  case pos =>
    have hle : ¬ (20 : Int) < (m : Int) := by omega
    have HF : Hid (decide (ds.length ≤ 40) = true) := decide_eq_true h40
    obtain ⟨l0, Hl0⟩ : ∃ l, Hid (l = ofL (ds.zip es)) := ⟨_, rfl⟩
    have HOK : Hid (okLf l0 ∧ Up l0 ∧ l0.length ≤ 40) := by
      rw [Hl0.out]
      have h := ofL_good _ (zip_okR HD.out HE.out)
      exact ⟨h.1, h.2, by have h1 := ofL_len (ds.zip es); have h2 : (ds.zip es).length ≤ ds.length := by rw [List.length_zip]; omega
                          omega⟩
    have HFZ : Hid (Fits l0 0) := fits_zero HOK.out.1 HOK.out.2.1
    have HSZ : Hid ((saveL 0 l0).length ≤ 25601 ∧ ∀ p ∈ saveL 0 l0, 1 ≤ p.length ∧ p.length ≤ 512) := ⟨save_few HOK.out.1 HOK.out.2.1 (by have := HOK.out.2.2; omega), save_short 256 0 l0 (by omega) HFZ.out⟩
    obtain ⟨dg, HDG⟩ : ∃ z, Hid (z = dig (topPg 0 l0)) := ⟨_, rfl⟩
    have HDL : Hid (dg.length = 32) := by show _ = _; rw [HDG.out]; exact len_dig' _
    clear h40
    obtain ⟨n, HN⟩ : ∃ z, Hid (z = (saveL 0 l0).length) := ⟨_, rfl⟩
    have hn0 : 0 < n := by rw [HN.out]; exact save_pos 0 l0
    have hn1 : n ≤ 25601 := by rw [HN.out]; exact HSZ.out.1
    have e0 : ((n : Int) == 0) = false := by rw [beq_eq_false_iff_ne]; omega
    obtain ⟨tu, htu⟩ : ∃ t : Nat, IntKind.u64.wrap tn = (t : Int) := ⟨(IntKind.u64.wrap tn).toNat, by have := wrap_nonneg tn; omega⟩
    obtain ⟨K, HKD⟩ : ∃ K, Hid (K = tu % n) := ⟨_, rfl⟩
    have hKn : K < n := by rw [HKD.out]; exact Nat.mod_lt _ hn0
    have hw2 : IntKind.u64.wrap (n : Int) = (n : Int) := by simp [IntKind.wrap, IntKind.bits, IntKind.signed]; omega
    have hrem : Int.tmod (tu : Int) (n : Int) = (K : Int) := by rw [HKD.out]; rfl
    have hw3 : IntKind.i64.wrap (K : Int) = (K : Int) := wrap_small2 _ (by omega) (by omega)
    have hw4 : IntKind.u64.wrap (K : Int) = (K : Int) := by simp [IntKind.wrap, IntKind.bits, IntKind.signed]; omega
    go_enter Tryd.func4, Tryd.ntmps4
    have tk0 : Hid True := trivial
    have tk1 : Hid True := trivial
    have tk2 : Hid True := trivial
    have tk3 : Hid True := trivial
    have tk4 : Hid True := trivial
    go_upto_region 10 with (first
      | (clear tk0; go_at_call 8; refine (few17_any vt _ _ (HD.out.below HBW.out)).mono ?_; rintro e wq0 ⟨rfl, hq⟩
         obtain rfl := hq.symm
         rw [HF.out])
      | (clear tk1; go_at_call 10; refine (trOf_any _ vt vu ds es (HK.out.below HBW.out HK.out.lt) (HD.out.below HBW.out) (HE.out.below HBW.out) (by have := of_decide_eq_true HF.out; omega)).mono ?_; rintro e w1 ⟨gt, rfl, ht, hb⟩
         rw [← Hl0.out] at ht
         have HT : Hid (TT w1 gt l0) := ht
         clear ht
         replace HBW : Hid (Below w.heap.size w w1) := HBW.out.trans (hb.mono HBW.out.size)
         clear hb)
      | (clear tk2; go_at_call 11; refine (pgSave_any gt l0 _ (HK.out.below HBW.out HK.out.lt) HT.out (Nat.le_trans HOK.out.2.2 (by decide))).mono ?_; rintro e w2 ⟨vv2, us2, rfl, hp, hb⟩
         rw [← HDG.out]
         obtain ⟨gl, nx, cl, hvv, hrow⟩ := row17_of hp (save_pos 0 l0)
         have hnx := hrow.len
         rw [← HN.out] at hnx
         obtain rfl : n = nx := hnx.symm
         subst hvv
         have HRL : Hid (Row17 w2 gl n cl (saveL 0 l0)) := hrow
         clear hp hrow hnx HT
         replace HBW : Hid (Below w.heap.size w w2) := HBW.out.trans (hb.mono HBW.out.size)
         clear hb)
      | (clear tk3; with_reducible refine wpSeq_allocD ?_ ?_ ?_
         · rfl
         · rfl
         intro gd w3 nn
         have HN2 : Hid (Blk w3 gd (cb zb32) 28 ∧ w2.heap.size ≤ gd ∧ Below w2.heap.size w2 w3) := ⟨nn.blk, nn.ge, nn.below⟩
         clear nn)
      | (clear tk4; with_reducible refine wpSeq_storeD (.tmp 10) (.tmp 34) gd zb32 dg zb32_len HDL.out HN2.out.1 ?_ ?_ ?_ ?_ ?_
         · rfl
         · rfl
         · rfl
         · rfl
         intro w4 h9
         have hb : Below w2.heap.size w2 w4 := HN2.out.2.2.trans (h9.only.below HN2.out.2.1 HN2.out.2.2.size)
         have HBgd : Hid (Blk w4 gd (cb dg) 28) := h9.blk
         clear h9 HN2
         replace HRL : Hid (Row17 w4 gl n cl (saveL 0 l0)) := HRL.out.next hb
         replace HBW : Hid (Below w.heap.size w w4) := HBW.out.trans (hb.mono HBW.out.size)
         clear hb))
    obtain ⟨us, husl, husa, huso⟩ := row17_us HRL.out
    have HLEN : Hid ((saveL 0 l0).length = n) := HN.out.symm
    obtain ⟨ps, HPS⟩ : ∃ z, Hid (z = saveL 0 l0) := ⟨_, rfl⟩
    rw [← HPS.out] at HRL HSZ HLEN husa
    obtain ⟨B, HBB⟩ : ∃ z, Hid (z = w4.heap.size) := ⟨_, rfl⟩
    have HCL : Hid (n ≤ cl) := by
      obtain ⟨ad, cap, h1, h2, _⟩ := HRL.out.rd
      simp only [Value.slice.injEq] at h1
      show _ ≤ _
      rw [h1.2.2, h1.2.1]; exact h2
    have HUS : Hid (us.length = n ∧ ∀ u ∈ us, u.oneCell' = true) := ⟨husl, huso⟩
    have HUE : Hid (∀ (j : Nat) (u : Value), us[j]? = some u → Reads w4 u (ps.getD j []) ∧ ∀ k, u.ownBlock = some k → k < B) := fun j u hj => by
      obtain ⟨h1, h2⟩ := husa j u hj
      have hjn : j < ps.length := by rw [HLEN.out, ← HUS.out.1]; exact (List.getElem?_eq_some_iff.1 hj).1
      have hp := (HSZ.out.2 (ps.getD j []) (by rw [List.getD_eq_getElem?_getD, List.getElem?_eq_getElem hjn]; exact List.getElem_mem hjn)).1
      exact ⟨h2, fun k hk => by rw [HBB.out]; exact reads_lt17 h2 hp k hk⟩
    have HX : Hid (∀ W, Below B w4 W → B ≤ W.heap.size ∧ KOk W ∧ Below w.heap.size w W ∧ Row17 W gl n cl ps ∧ Blk W gd (cb dg) 28 ∧ ∀ (j : Nat) (u : Value), us[j]? = some u → W.cell? ⟨gl, 0 + j, none⟩ = some u ∧ Reads W u (ps.getD j [])) := fun W hW =>
      have hW2 : Below w4.heap.size w4 W := by rw [← HBB.out]; exact hW
      ⟨by rw [HBB.out]; exact hW2.size, (HK.out.below HBW.out HK.out.lt).below hW2 (HK.out.below HBW.out HK.out.lt).lt, HBW.out.trans (hW2.mono HBW.out.size), HRL.out.next hW2, HBgd.out.below hW2 HBgd.out.lt, fun j u hj => by
        obtain ⟨h1, h2⟩ := husa j u hj
        exact ⟨by rw [Nat.zero_add, hW2.cell (p := ⟨gl, j, none⟩) (block_lt_of_cell h1)]; exact h1, h2.below hW2⟩⟩
    have HB0 : Hid (Below B w4 w4) := Below.refl _ _
    clear husl husa huso HRL HBgd HBW
    have HDE : Hid (∀ W, Below w.heap.size w W → ReadsD W vt ds ∧ ReadsD W vu es) := fun W hW => ⟨HD.out.below hW, HE.out.below hW⟩
    obtain ⟨Z, HZ⟩ : ∃ z, Hid (z = backL ps os K n n) := ⟨_, rfl⟩
    have HZP : Hid (∀ p ∈ ps, p ∈ Z) := fun p hp => by
      have h1 := (mem_turned (K := K) (by rw [HLEN.out]; exact hKn)).2 hp
      unfold turned at h1
      rw [List.mem_map] at h1
      obtain ⟨q, hq, rfl⟩ := h1
      rw [List.mem_range] at hq
      rw [HZ.out]
      have := backL_has ps os K n n q (by rw [← HLEN.out]; exact hq)
      rw [HLEN.out]; exact this
    have HZL : Hid (n ≤ Z.length ∧ Z.length ≤ 51202 ∧ ∀ p ∈ Z, p.length < 140737488355000) := by
      have h1 := backL_len ps os K n n
      rw [HZ.out]
      refine ⟨h1.1, by omega, fun p hp => ?_⟩
      rcases backL_of ps os K n HLEN.out.symm hn0 n p hp with h | h
      · have := (HSZ.out.2 p h).2; omega
      · exact HOL.out p h
    have HLD : Hid (∀ W v, KOk W → ReadsL W v Z → Apart17 Z → Calls Tryd.prog 17 #[.agg (cb dg).toArray, v] W fun e w' => ∃ g, e = .returned (.tuple #[.pointer (some ⟨g, 0, none⟩), .int .i64 0]) ∧ TT w' g l0 ∧ Below W.heap.size W w') := fun W v hk hr hap => by
      rw [HDG.out]
      refine pgLoad_ok l0 v Z W hk HOK.out.1 HOK.out.2.1 (by have := HOK.out.2.2; omega) hr (by have := HZL.out.2.1; omega) (fun p hp => by have := HZL.out.2.2 p hp; omega) ?_ (by rw [← HPS.out, HLEN.out]; have := HZL.out.1; omega) (by rw [← HPS.out]; exact HZP.out)
      rw [← HPS.out]
      exact fun p hp q hq he => apart_mem hap q hq p (HZP.out p hp) he
    have HAN : Hid ((∀ p ∈ ps, p.length < 140737488355000) ∧ ps.length < 1000000) := ⟨fun p hp => by have := (HSZ.out.2 p hp).2; omega, by rw [HLEN.out]; omega⟩
    have HBEG : Hid (RwX w4 B (.slice none 0 0) [] [] w4) := ⟨OwnX.nil _ _, rfl, fun j u h => by simp at h, HB0.out, HBB.out⟩
    clear hw2 hrem hw3 hw4 htu HB0
    go_wp2
    go_loopw [13, 14] (fun v q W => ∃ (i : Nat) (av : Option Addr) (nv cv : Nat) (vs : List Value), i ≤ n ∧ v = .slice av nv cv ∧ q = .int .i64 (i : Int) ∧ Hid (RwX w4 B (.slice av nv cv) vs (backL ps os K n i) W)) (fun _ q _ => n - (intOf q).toNat)
    case atStart => exact ⟨0, none, 0, 0, [], Nat.zero_le _, rfl, rfl, HBEG.out⟩
    case round =>
      obtain ⟨i, av, nv, cv, vs, hi, rfl, rfl, HR⟩ := hrel
      have HB0 : Hid (Below B w4 wr) := HR.out.bel
      by_cases hlt : i < n
      case pos =>
        have hlti : (i : Int) < (n : Int) := by omega
        have f5 : IntKind.i64.wrap ((i : Int) + 1) = (i : Int) + 1 := wrap_small2 _ (by omega) (by omega)
        have g1 : IntKind.i64.wrap ((K : Int) + (n : Int)) = ((K + n : Nat) : Int) := by rw [wrap_small2 _ (by omega) (by omega)]; rfl
        obtain ⟨s1, HS1⟩ : ∃ z, Hid (z = K + n) := ⟨_, rfl⟩
        rw [← HS1.out] at g1
        obtain ⟨s2, HS2⟩ : ∃ z, Hid (z = K + n - i) := ⟨_, rfl⟩
        have g2 : IntKind.i64.wrap ((s1 : Int) - (i : Int)) = (s2 : Int) := by
          have h1 := HS1.out
          have h2 := HS2.out
          rw [wrap_small2 _ (by omega) (by omega)]
          omega
        obtain ⟨q, HQ⟩ : ∃ z, Hid (z = s2 % n) := ⟨_, rfl⟩
        have g3 : Int.tmod (s2 : Int) (n : Int) = (q : Int) := by rw [HQ.out]; rfl
        have hqn : q < n := by rw [HQ.out]; exact Nat.mod_lt _ hn0
        have g4 : IntKind.i64.wrap (q : Int) = (q : Int) := wrap_small2 _ (by omega) (by omega)
        have hqi : (q : Int) < (n : Int) := by omega
        obtain ⟨pq, HPQ⟩ : ∃ z, Hid (z = ps.getD q []) := ⟨_, rfl⟩
        obtain ⟨uq, huq⟩ : ∃ u, us[q]? = some u := ⟨us[q]'(by rw [HUS.out.1]; exact hqn), List.getElem?_eq_getElem _⟩
        have hrq := (HUE.out q uq huq).1
        rw [← HPQ.out] at hrq
        obtain ⟨nq, HNQ⟩ : ∃ z, Hid (z = pq.length) := ⟨_, rfl⟩
        obtain ⟨aq, cq, hvq⟩ : ∃ a c, uq = .slice a nq c := by
          obtain ⟨a, c, h1, _⟩ := hrq
          exact ⟨a, c, by rw [h1, HNQ.out]⟩
        subst hvq
        have HRQ : Hid (Reads w4 (.slice aq nq cq) pq) := hrq
        have ckq : wr.cell? ⟨gl, q, none⟩ = some (.slice aq nq cq) := by have := ((HX.out _ HB0.out).2.2.2.2.2 q _ huq).1; rwa [Nat.zero_add] at this
        obtain ⟨A0, HA0⟩ : ∃ z, Hid (z = backL ps os K n i) := ⟨_, rfl⟩
        have HA1 : Hid (A0.length ≤ 51202) := by show _ ≤ _; rw [HA0.out]; have := (backL_len ps os K n i).2; omega
        have HAX : Hid (backL ps os K n (i + 1) = A0 ++ [pq] ++ (if i < m then [os.getD i []] else [])) := by show _ = _; rw [HPQ.out, HQ.out, HS2.out, HA0.out, HM.out]; rfl
        rw [← HA0.out] at HR
        clear hrq huq
        by_cases hio : i < m
        case neg =>
          have hioi : ¬ (i : Int) < (m : Int) := by omega
          rw [if_neg hio, List.append_nil] at HAX
          clear hio
          have ta0 : Hid True := trivial
          have ta1 : Hid True := trivial
          have ta2 : Hid True := trivial
          go_wp2_with (first
            | (clear ta0; with_reducible refine wpSeq_idxQ17 (.tmp 53) (.tmp 62) gl 0 n cl q hqn ?_ ?_ ?_ ?_ ?_
               · rfl
               · rfl
               · rfl
               · rfl
               rw [Nat.zero_add]
               have HQ1 : Hid True := trivial)
            | (clear ta1; with_reducible refine wpSeq_buildX (.tmp 64) aq nq cq ?_ ?_ ?_ ?_
               · rfl
               · rfl
               · rfl
               intro gX w11 hy hge hb
               have HY : Hid (Blk w11 gX [(Value.slice aq nq cq)] 37) := hy
               replace HR : Hid (RwX w4 B (Value.slice av nv cv) vs A0 w11) := HR.out.next hb
               replace HB0 : Hid (Below B w4 w11) := HR.out.bel
               clear hy hge hb ckq)
            | (clear ta2; with_reducible refine wpSeq_appX (.tmp 52) (.tmp 65) B (Value.slice av nv cv) (Value.slice aq nq cq) vs gX HR.out.own HY.out rfl (by have h1 := HR.out.len; have h2 := HA1.out; omega) HR.out.le ?_ ?_ ?_ ?_ ?_
               · rfl
               · rfl
               · rfl
               · rfl
               intro v12 w12 ho hg
               obtain ⟨a12, c12, hv12⟩ := ho.form
               generalize hn12 : (vs ++ [(Value.slice aq nq cq)]).length = n12 at hv12
               clear hn12
               subst hv12
               replace HR : Hid (RwX w4 B (.slice a12 n12 c12) (vs ++ [(Value.slice aq nq cq)]) (A0 ++ [pq]) w12) := HR.out.more ho hg HRQ.out
               replace HB0 : Hid (Below B w4 w12) := HR.out.bel
               clear ho hg HY))
          go_roundw
          case rel => exact ⟨i + 1, a12, n12, c12, vs ++ [(Value.slice aq nq cq)], by omega, rfl, by simp, by rw [HAX.out]; exact HR.out⟩
          case measure => simp [intOf]; omega
        case pos =>
          have hioi : (i : Int) < (m : Int) := by omega
          rw [if_pos hio] at HAX
          obtain ⟨bo, oo, rfl, hat⟩ := HXO.out (by rw [← HM.out]; omega)
          obtain ⟨uo, hco, hro⟩ := hat i (by rw [← HM.out]; exact hio)
          obtain ⟨oi, HOI⟩ : ∃ z, Hid (z = os.getD i []) := ⟨_, rfl⟩
          rw [← HOI.out] at hro HAX
          obtain ⟨no, HNO⟩ : ∃ z, Hid (z = oi.length) := ⟨_, rfl⟩
          obtain ⟨ao, co, hvo⟩ : ∃ a c, uo = .slice a no c := by
            obtain ⟨a, c, h1, _⟩ := hro
            exact ⟨a, c, by rw [h1, HNO.out]⟩
          subst hvo
          have HCO : Hid (∀ W, Below w.heap.size w W → W.cell? ⟨bo, oo + i, none⟩ = some (.slice ao no co) ∧ Reads W (.slice ao no co) oi) := fun W hW => ⟨by rw [hW.cell (p := ⟨bo, oo + i, none⟩) (block_lt_of_cell hco)]; exact hco, hro.below hW⟩
          have HRO : Hid (Reads w4 (.slice ao no co) oi) := (HCO.out _ (HX.out _ (Below.refl _ _)).2.2.1).2
          have HOLI : Hid (oi.length < 140737488355000) := HOL.out oi (by rw [HOI.out, List.getD_eq_getElem?_getD, List.getElem?_eq_getElem (by rw [← HM.out]; exact hio)]; exact List.getElem_mem _)
          obtain ⟨cb0, HCB⟩ : ∃ z, Hid (z = clashB oi ps) := ⟨_, rfl⟩
          clear hat hco hro
          have tb0 : Hid True := trivial
          have tb1 : Hid True := trivial
          have tb2 : Hid True := trivial
          have tb3 : Hid True := trivial
          have tb4 : Hid True := trivial
          have tb5 : Hid True := trivial
          have tb6 : Hid True := trivial
          have tb7 : Hid True := trivial
          have tb8 : Hid True := trivial
          go_wp2_with (first
            | (clear tb0; with_reducible refine wpSeq_idxQ17 (.tmp 53) (.tmp 62) gl 0 n cl q hqn ?_ ?_ ?_ ?_ ?_
               · rfl
               · rfl
               · rfl
               · rfl
               rw [Nat.zero_add]
               have HQ1 : Hid True := trivial)
            | (clear tb1; with_reducible refine wpSeq_buildX (.tmp 64) aq nq cq ?_ ?_ ?_ ?_
               · rfl
               · rfl
               · rfl
               intro gX w11 hy hge hb
               have HY : Hid (Blk w11 gX [(Value.slice aq nq cq)] 37) := hy
               replace HR : Hid (RwX w4 B (Value.slice av nv cv) vs A0 w11) := HR.out.next hb
               replace HB0 : Hid (Below B w4 w11) := HR.out.bel
               clear hy hge hb ckq)
            | (clear tb2; with_reducible refine wpSeq_appX (.tmp 52) (.tmp 65) B (Value.slice av nv cv) (Value.slice aq nq cq) vs gX HR.out.own HY.out rfl (by have h1 := HR.out.len; have h2 := HA1.out; omega) HR.out.le ?_ ?_ ?_ ?_ ?_
               · rfl
               · rfl
               · rfl
               · rfl
               intro v12 w12 ho hg
               obtain ⟨a12, c12, hv12⟩ := ho.form
               generalize hn12 : (vs ++ [(Value.slice aq nq cq)]).length = n12 at hv12
               clear hn12
               subst hv12
               replace HR : Hid (RwX w4 B (.slice a12 n12 c12) (vs ++ [(Value.slice aq nq cq)]) (A0 ++ [pq]) w12) := HR.out.more ho hg HRQ.out
               replace HB0 : Hid (Below B w4 w12) := HR.out.bel
               clear ho hg HY
               have cko := (HCO.out _ (HX.out _ HB0.out).2.2.1).1)
            | (clear tb3; with_reducible refine wpSeq_idxQ17 (.tmp 71) (.tmp 72) bo oo m cpo i hio ?_ ?_ ?_ ?_ ?_
               · rfl
               · rfl
               · rfl
               · rfl
               have HQ2 : Hid True := trivial)
            | (clear tb4; go_at_call 15; refine (clash17_any _ _ oi ps _ (HCO.out _ (HX.out _ HB0.out).2.2.1).2 (HX.out _ HB0.out).2.2.2.1.rd HOLI.out HAN.out.1 HAN.out.2).mono ?_; rintro e w13 ⟨rfl, hb⟩
               rw [← HCB.out]
               replace HR : Hid (RwX w4 B (.slice a12 n12 c12) (vs ++ [(Value.slice aq nq cq)]) (A0 ++ [pq]) w13) := HR.out.next hb
               replace HB0 : Hid (Below B w4 w13) := HR.out.bel
               clear hb cko
               have cko := (HCO.out _ (HX.out _ HB0.out).2.2.1).1
               cases cb0)
            | (clear tb5; go_at_call 9; refine (works17_any _ (HX.out _ HB0.out).2.1).mono ?_; rintro e wz ⟨rfl, hz⟩
               have HBZ : Hid (Below w.heap.size w wz) := (HX.out _ HB0.out).2.2.1.trans (hz.mono (HX.out _ HB0.out).2.2.1.size)
               clear hz)
            | (clear tb6; with_reducible refine wpSeq_idxQ17 (.tmp 79) (.tmp 80) bo oo m cpo i hio ?_ ?_ ?_ ?_ ?_
               · rfl
               · rfl
               · rfl
               · rfl
               have HQ3 : Hid True := trivial)
            | (clear tb7; with_reducible refine wpSeq_buildX (.tmp 82) ao no co ?_ ?_ ?_ ?_
               · rfl
               · rfl
               · rfl
               intro gY w14 hy hge hb
               have HY : Hid (Blk w14 gY [Value.slice ao no co] 37) := hy
               replace HR : Hid (RwX w4 B (.slice a12 n12 c12) (vs ++ [(Value.slice aq nq cq)]) (A0 ++ [pq]) w14) := HR.out.next hb
               replace HB0 : Hid (Below B w4 w14) := HR.out.bel
               clear hy hge hb cko)
            | (clear tb8; with_reducible refine wpSeq_appX (.tmp 78) (.tmp 83) B (.slice a12 n12 c12) (.slice ao no co) (vs ++ [(Value.slice aq nq cq)]) gY HR.out.own HY.out rfl (by have h1 := HR.out.len; have h2 := HA1.out; rw [List.length_append] at h1 ⊢; simp at h1 ⊢; omega) HR.out.le ?_ ?_ ?_ ?_ ?_
               · rfl
               · rfl
               · rfl
               · rfl
               intro v15 w15 ho hg
               obtain ⟨a15, c15, hv15⟩ := ho.form
               generalize hn15 : (vs ++ [(Value.slice aq nq cq)] ++ [Value.slice ao no co]).length = n15 at hv15
               clear hn15
               subst hv15
               replace HR : Hid (RwX w4 B (.slice a15 n15 c15) (vs ++ [(Value.slice aq nq cq)] ++ [Value.slice ao no co]) (A0 ++ [pq] ++ [oi]) w15) := HR.out.more ho hg HRO.out
               clear ho hg HY))
          any_goals (first | (go_ret; exact ⟨rfl, HBZ.out⟩) | skip)
          go_roundw
          case rel => exact ⟨i + 1, a15, n15, c15, vs ++ [(Value.slice aq nq cq)] ++ [Value.slice ao no co], by omega, rfl, by simp, by rw [HAX.out]; exact HR.out⟩
          case measure => simp [intOf]; omega
      case neg =>
        have hie : i = n := by omega
        subst hie
        rw [← HZ.out] at HR
        have HRZ : Hid (ReadsL wr (.slice av nv cv) Z) := HR.out.readsL
        clear HR HBEG
        have tc0 : Hid True := trivial
        have tc1 : Hid True := trivial
        have tc2 : Hid True := trivial
        have tc3 : Hid True := trivial
        have tc4 : Hid True := trivial
        have tc5 : Hid True := trivial
        go_wp2_with (first
          | (clear tc0; go_at_call 16; refine (any9_any _ Z _ HRZ.out HZL.out.2.2 (by have := HZL.out.2.1; omega)).mono ?_; rintro e w61 ⟨tb, rfl, hap, hb⟩
             have HAP : Hid (tb = false → Apart17 Z) := hap
             clear hap
             replace HRZ : Hid (ReadsL w61 (.slice av nv cv) Z) := HRZ.out.below hb
             replace HB0 : Hid (Below B w4 w61) := HB0.out.trans (hb.mono (HX.out _ HB0.out).1)
             clear hb
             cases tb)
          | (clear tc1; go_at_call 9; refine (works17_any _ (HX.out _ HB0.out).2.1).mono ?_; rintro e wz ⟨rfl, hz⟩
             have HBZ : Hid (Below w.heap.size w wz) := (HX.out _ HB0.out).2.2.1.trans (hz.mono (HX.out _ HB0.out).2.2.1.size)
             clear hz)
          | (clear tc2; with_reducible refine wpSeq_loadD (.tmp 10) gd dg HDL.out (HX.out _ HB0.out).2.2.2.2.1 ?_ ?_ ?_ ?_
             · rfl
             · rfl
             · rfl
             have HQ4 : Hid True := trivial)
          | (clear tc3; go_at_call 17; refine (HLD.out _ _ (HX.out _ HB0.out).2.1 HRZ.out (HAP.out (by trivial))).mono ?_; rintro e w62 ⟨gu, rfl, ht, hb⟩
             have HTU : Hid (TT w62 gu l0) := ht
             clear ht
             replace HRZ : Hid (ReadsL w62 (.slice av nv cv) Z) := HRZ.out.below hb
             replace HB0 : Hid (Below B w4 w62) := HB0.out.trans (hb.mono (HX.out _ HB0.out).1)
             clear hb)
          | (clear tc4; go_at_call 13; refine (lfOf_any vt vu ds es _ (HDE.out _ (HX.out _ HB0.out).2.2.1).1 (HDE.out _ (HX.out _ HB0.out).2.2.1).2 (by have := of_decide_eq_true HF.out; omega)).mono ?_; rintro e w63 ⟨xa, xv, rfl, ho, hb⟩
             rw [← Hl0.out] at ho
             have HRX : Hid (ReadsLf w63 xa xv l0) := ho.reads
             clear ho
             replace HTU : Hid (TT w63 gu l0) := HTU.out.next hb
             replace HB0 : Hid (Below B w4 w63) := HB0.out.trans (hb.mono (HX.out _ HB0.out).1)
             clear hb)
          | (clear tc5; go_at_call 18; refine (same17_any gu _ _ l0 _ (HX.out _ HB0.out).2.1 HTU.out HRX.out (by have := HOK.out.2.2; omega)).mono ?_; rintro e w64 ⟨rfl, hb⟩
             clear HRX
             replace HTU : Hid (TT w64 gu l0) := HTU.out.next hb
             replace HB0 : Hid (Below B w4 w64) := HB0.out.trans (hb.mono (HX.out _ HB0.out).1)
             clear hb))
        all_goals
          go_ret
          exact ⟨rfl, HBZ.out⟩
end Go.Proofs.YtphmmnffgknkcaaDoor
/- Texts and bindings that came in, with their sizes. -/
namespace Go.Proofs.YtphmmnffgknkcaaDoor
open Go.ChangeShapes Go.WideShapes Go.ChangeAt Go.WideMaps Go.WideElems Go.RowKit
set_option maxRecDepth 100000
theorem cells_bytes : Tryd.prog.cellsOf 37 = 1 := by kernel_rfl
theorem readable_bytess : Tryd.prog.readableRec 29 = true := by kernel_rfl
theorem row_bytess : 29 < Tryd.prog.types.size := of_decide_eq_true (by kernel_rfl)
theorem bytes_byte : Tryd.prog.bytesOf 5 = 1 := by kernel_rfl
theorem bytes_bytes : Tryd.prog.bytesOf 37 = 24 := by kernel_rfl
theorem weightsAll_mem {H : Type} {P : Program} {e : TypeId} {q : Nat → Bool} : ∀ (l : List (DataW H)), (DataW.weightsAll P e l).all q = true → ∀ d ∈ l, (d.weights P e).all q = true
  | [], _, _, h => by cases h
  | x :: r, hl, d, h => by
    rw [DataW.weightsAll, List.all_append, Bool.and_eq_true] at hl
    rcases List.mem_cons.1 h with rfl | h
    · exact hl.1
    · exact weightsAll_mem r hl.2 d h
theorem reads_sized {H : Type} {enc : TypeId × Value → H} {W : World} {v : Value} {d : DataW H} {p : List MemPlace} {fuel : Nat} (hf : DataW.trod enc Tryd.prog W 0 (fun _ => true) true fuel 37 [v] = some (d, p)) :
    ∃ bs, Reads W v bs ∧ (∀ N, (d.weights Tryd.prog 37).all (· ≤ N) = true → bs.length ≤ N) ∧ ∀ x ∈ p, x.block < W.heap.size := by
  rcases open_ints Tryd.underlying37 Tryd.underlying5 cells_byte hf with ⟨hcs, hx⟩ | ⟨a, len, cap, zs, hcs, _, hl, hm, hz, hx, hcell, hwz⟩
  · simp only [List.cons.injEq, and_true] at hcs
    subst hcs
    simp only [Prod.mk.injEq] at hx
    obtain ⟨rfl, rfl⟩ := hx
    exact ⟨[], ⟨none, 0, rfl, Nat.le_refl _, fun _ => rfl, fun h => by cases h⟩, fun _ _ => Nat.zero_le _, fun _ h => by cases h⟩
  · simp only [List.cons.injEq, and_true] at hcs
    subst hcs
    simp only [Prod.mk.injEq] at hx
    obtain ⟨rfl, rfl⟩ := hx
    simp only [if_true] at hz
    have hlen : ((zs.take len).map fun n => BitVec.ofInt 8 n).length = len := by simp; omega
    obtain ⟨ab, ao, spot⟩ := a
    refine ⟨(zs.take len).map fun n => BitVec.ofInt 8 n, ⟨some ⟨ab, ao, spot⟩, cap, by rw [hlen], by rw [hlen]; exact hl, (fun h => by cases h), fun hp => ?_⟩, ?_, fun x hx => ?_⟩
    · rw [hlen] at hp ⊢
      have hspot : spot = none := by simpa [Addr.add] using World.cell?_spot (hcell 0 (by omega))
      subst hspot
      refine ⟨ab, ao, rfl, fun j hj => ?_⟩
      have hcj := hcell j (by omega)
      rw [Addr.add_lit] at hcj
      rw [hcj]
      have hb := byte_range hwz j
      have e : ((zs.take len).map fun n => BitVec.ofInt 8 n).getD j 0 = BitVec.ofInt 8 (zs.getD j 0) := by
        rw [List.getD_eq_getElem?_getD, List.getElem?_map, List.getElem?_take_of_lt hj, List.getD_eq_getElem?_getD, List.getElem?_eq_getElem (show j < zs.length by omega)]
        rfl
      rw [e, BitVec.toNat_ofInt]
      congr 2
      omega
    · intro N hN
      rw [hlen]
      rw [DataW.weights] at hN
      simp only [Tryd.underlying37, bytes_byte, Nat.mul_one, List.all_cons, Bool.and_eq_true, decide_eq_true_eq] at hN
      have h3 : (lits (H := H) .u8 (zs.take len)).length = len := by simp [lits]; omega
      have := hN.1
      omega
    · simp only [MemPlace.row, List.mem_map, List.mem_range] at hx
      obtain ⟨i, hi, rfl⟩ := hx
      have hcj := hcell i (by omega)
      have := block_lt_of_cell hcj
      simp only [Addr.add] at this
      split at this <;> exact this
theorem readsL_sized {H : Type} {enc : TypeId × Value → H} {W : World} {base : Nat} {v : Value} {d : DataW H} {p : List MemPlace} (hval : Value.okWide Tryd.prog W .any base 29 v)
    (h : DataW.Trod enc Tryd.prog W 0 (fun _ => true) true 29 v d p) :
    ∃ ls, ReadsL W v ls ∧ (∀ N, (d.weights Tryd.prog 29).all (· ≤ N) = true → ls.length ≤ N ∧ ∀ t ∈ ls, t.length ≤ N) ∧ ∀ x ∈ p, x.block < W.heap.size := by
  obtain ⟨a1, len, cap, rfl⟩ := okWide_slice Tryd.underlying29 hval
  obtain ⟨fuel, hf⟩ := h
  rcases Go.Deep.open_slice1 Tryd.underlying29 cells_bytes hf with ⟨hcs, hx⟩ | ⟨a, len', cap', m, n, V, D, Pl, hcs, _, hl, hm, hmm, hx, hV⟩
  · simp [Value.cells] at hcs
    obtain ⟨rfl, rfl, rfl⟩ := hcs
    simp only [Prod.mk.injEq] at hx
    obtain ⟨rfl, rfl⟩ := hx
    exact ⟨[], ⟨none, 0, rfl, Nat.le_refl _, fun _ => rfl, fun h => by cases h⟩, fun _ _ => ⟨Nat.zero_le _, fun _ h => by cases h⟩, fun _ h => by cases h⟩
  · simp [Value.cells] at hcs
    obtain ⟨rfl, rfl, rfl⟩ := hcs
    simp only [Prod.mk.injEq] at hx
    obtain ⟨rfl, rfl⟩ := hx
    simp only [if_true] at hmm
    subst hmm
    obtain ⟨B, hB⟩ := Go.Deep.choose_lt (α := List (BitVec 8)) (p := fun i bs => Reads W (V i) bs ∧ (∀ N, ((D i).weights Tryd.prog 37).all (· ≤ N) = true → bs.length ≤ N) ∧ ∀ x ∈ Pl i, x.block < W.heap.size) (fun i hi => reads_sized (hV i hi).2)
    have hlen : ((List.range len).map B).length = len := by simp
    obtain ⟨ab, ao, spot⟩ := a
    refine ⟨(List.range len).map B, ⟨some ⟨ab, ao, spot⟩, m, by rw [hlen], by rw [hlen]; exact hl, (fun h => by cases h), fun hp => ?_⟩, ?_, fun x hx => ?_⟩
    · rw [hlen] at hp ⊢
      have hspot : spot = none := by simpa [Addr.add] using World.cell?_spot (hV 0 (by omega)).1
      subst hspot
      refine ⟨ab, ao, rfl, fun j hj => ⟨V j, ?_, ?_⟩⟩
      · have hcj := (hV j (by omega)).1
        rw [Addr.add_lit] at hcj
        exact hcj
      · have e : ((List.range len).map B).getD j [] = B j := by simp [hj]
        rw [e]; exact (hB j (by omega)).1
    · intro N hN
      rw [DataW.weights] at hN
      simp only [Tryd.underlying29, bytes_bytes, List.all_cons, List.all_append, Bool.and_eq_true, decide_eq_true_eq, List.length_map, List.length_range] at hN
      refine ⟨by rw [hlen]; have := hN.1; omega, fun t ht => ?_⟩
      obtain ⟨i, hi, rfl⟩ := List.mem_map.1 ht
      have hi2 := List.mem_range.1 hi
      exact (hB i (by omega)).2.1 N (weightsAll_mem _ hN.2.1 _ (List.mem_map_of_mem hi))
    · rcases List.mem_append.1 hx with hx | hx
      · simp only [MemPlace.row, List.mem_map, List.mem_range] at hx
        obtain ⟨i, hi, rfl⟩ := hx
        have := block_lt_of_cell (hV i hi).1
        simp only [Addr.add] at this
        split at this <;> exact this
      · obtain ⟨i, hi, hx⟩ := List.mem_flatMap.1 hx
        exact (hB i (List.mem_range.1 hi)).2.2 x hx
end Go.Proofs.YtphmmnffgknkcaaDoor

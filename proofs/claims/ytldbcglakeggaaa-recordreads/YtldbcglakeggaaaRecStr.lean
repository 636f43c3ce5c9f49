/- Names and keys: strings as bytes; the walks of record's isName and Check, and of the reference's Name and Check. -/
import Derived.Test.YtldbcglakeggaaaRecPlain
import Derived.Lib.ConvBytes
import Derived.BigQuiet
namespace Go.Proofs.Ytldbcglakeggaaa
open Go.RowKit
theorem strB_size (l : List (BitVec 8)) : (strB l).size = l.length := by
  have h := congrArg List.length (strOfNums_data (l.map fun b => (b.toNat : Int)))
  simpa [strB] using h
theorem strB_data (l : List (BitVec 8)) : (strB l).data.toList = l.map fun b => UInt8.ofNat b.toNat := by
  unfold strB
  rw [strOfNums_data]
  simp
theorem conv_string (l : List (BitVec 8)) (w : World) : (convert 9 22 (.string (strB l))).run Try.prog w = .ok (.slice (some ⟨w.heap.size, 0, none⟩) l.length (grownCap w l.length 0 5)) (Lib.bytesWorld w 5 (strB l)) := by
  have := Lib.run_convert_string_bytes (P := Try.prog) w 9 22 5 (strB l) Try.underlying9 Try.underlying22 Try.underlying5
  rw [strB_size] at this
  exact this
theorem bytesWorld_reads (l : List (BitVec 8)) (w : World) : Reads (Lib.bytesWorld w 5 (strB l)) (.slice (some ⟨w.heap.size, 0, none⟩) l.length (grownCap w l.length 0 5)) l := by
  refine ⟨_, _, rfl, grownCap_ge _ _ _ _, (fun h => by cases h), fun _ => ⟨w.heap.size, 0, rfl, fun j hj => ?_⟩⟩
  rw [Nat.zero_add, Lib.bytesWorld_cell _ _ _ _ (by rw [strB_size]; exact hj), strB_data]
  have h2 : (l.map fun b => UInt8.ofNat b.toNat).getD j 0 = UInt8.ofNat (l.getD j 0).toNat := by simp [hj]
  rw [h2]
  have := (l.getD j 0).isLt
  simp
theorem bytesWorld_below (l : List (BitVec 8)) (w : World) : Below w.heap.size w (Lib.bytesWorld w 5 (strB l)) :=
  ⟨rfl, rfl, rfl, by rw [Lib.bytesWorld_size]; omega, fun k hk => Lib.bytesWorld_at_old _ _ _ _ hk⟩
theorem strB_at (l : List (BitVec 8)) (k : Nat) (h : k < (strB l).size) : ((strB l)[k]).toNat = (l.getD k 0).toNat := by
  have hk : k < l.length := by rwa [strB_size] at h
  have h1 : (strB l).data.toList[k]? = some ((strB l)[k]) := by
    rw [Array.getElem?_toList]
    exact Array.getElem?_eq_getElem h
  rw [strB_data, List.getElem?_map, List.getElem?_eq_getElem hk] at h1
  simp only [Option.map_some, Option.some.injEq] at h1
  rw [← h1, List.getD_eq_getElem?_getD, List.getElem?_eq_getElem hk]
  have := (l[k]).isLt
  simp
def nameB (n : Nat) : Bool := (97 ≤ n && n ≤ 122) || (48 ≤ n && n ≤ 57) || n == 46 || n == 45
theorem nameByte_eq (c : BitVec 8) : nameByte c = nameB c.toNat := rfl
set_option maxRecDepth 100000 in
set_option maxHeartbeats 1000000 in
theorem inNames_any (n : Nat) (w : World) :
    Calls Try.prog 58 #[.int .u8 (n : Int)] w fun e w' => e = .returned (.bool (nameB n)) ∧ w' = w := by
  obtain ⟨o, HO⟩ : ∃ o, Hid (o = nameB n) := ⟨_, rfl⟩
  rw [← HO.out]
  by_cases h1 : 97 ≤ n
  · by_cases h2 : n ≤ 122
    · have ho : o = true := by rw [HO.out]; unfold nameB; simp <;> omega
      subst ho
      have i0 : (97 : Int) ≤ (n : Int) := by omega
      have i1 : (n : Int) ≤ 122 := by omega
      clear HO
      go_enter Try.func58, Try.ntmps58
      go_wp2
      go_ret
      exact ⟨rfl, rfl⟩
    · have ho : o = false := by rw [HO.out]; unfold nameB; simp <;> omega
      subst ho
      have i0 : (97 : Int) ≤ (n : Int) := by omega
      have i1 : ¬ ((n : Int) ≤ 122) := by omega
      have i2 : (48 : Int) ≤ (n : Int) := by omega
      have i3 : ¬ ((n : Int) ≤ 57) := by omega
      have i4 : ¬ ((n : Int) = 46) := by omega
      have i5 : ¬ ((n : Int) = 45) := by omega
      have e5 : ((n : Int) == 46) = false := by rw [beq_eq_false_iff_ne]; omega
      have e6 : ((n : Int) == 45) = false := by rw [beq_eq_false_iff_ne]; omega
      clear HO
      go_enter Try.func58, Try.ntmps58
      go_wp2
      go_ret
      exact ⟨by first | simp | simp [e5, e6], rfl⟩
  · by_cases h3 : 48 ≤ n
    · by_cases h4 : n ≤ 57
      · have ho : o = true := by rw [HO.out]; unfold nameB; simp <;> omega
        subst ho
        have i0 : ¬ ((97 : Int) ≤ (n : Int)) := by omega
        have i1 : (48 : Int) ≤ (n : Int) := by omega
        have i2 : (n : Int) ≤ 57 := by omega
        clear HO
        go_enter Try.func58, Try.ntmps58
        go_wp2
        go_ret
        exact ⟨rfl, rfl⟩
      · have ho : o = false := by rw [HO.out]; unfold nameB; simp <;> omega
        subst ho
        have i0 : ¬ ((97 : Int) ≤ (n : Int)) := by omega
        have i1 : (48 : Int) ≤ (n : Int) := by omega
        have i2 : ¬ ((n : Int) ≤ 57) := by omega
        have i3 : ¬ ((n : Int) = 46) := by omega
        have i4 : ¬ ((n : Int) = 45) := by omega
        have e5 : ((n : Int) == 46) = false := by rw [beq_eq_false_iff_ne]; omega
        have e6 : ((n : Int) == 45) = false := by rw [beq_eq_false_iff_ne]; omega
        clear HO
        go_enter Try.func58, Try.ntmps58
        go_wp2
        go_ret
        exact ⟨by first | simp | simp [e5, e6], rfl⟩
    · by_cases h5 : n = 46
      · have ho : o = true := by rw [HO.out]; unfold nameB; simp <;> omega
        subst ho
        have i0 : ¬ ((97 : Int) ≤ (n : Int)) := by omega
        have i1 : ¬ ((48 : Int) ≤ (n : Int)) := by omega
        have i2 : (n : Int) = 46 := by omega
        clear HO
        go_enter Try.func58, Try.ntmps58
        go_wp2
        go_ret
        exact ⟨rfl, rfl⟩
      · by_cases h6 : n = 45
        · have ho : o = true := by rw [HO.out]; unfold nameB; simp <;> omega
          subst ho
          have i0 : ¬ ((97 : Int) ≤ (n : Int)) := by omega
          have i1 : ¬ ((48 : Int) ≤ (n : Int)) := by omega
          have i2 : ¬ ((n : Int) = 46) := by omega
          have i3 : (n : Int) = 45 := by omega
          clear HO
          go_enter Try.func58, Try.ntmps58
          go_wp2
          go_ret
          exact ⟨rfl, rfl⟩
        · have ho : o = false := by rw [HO.out]; unfold nameB; simp <;> omega
          subst ho
          have i0 : ¬ ((97 : Int) ≤ (n : Int)) := by omega
          have i1 : ¬ ((48 : Int) ≤ (n : Int)) := by omega
          have i2 : ¬ ((n : Int) = 46) := by omega
          have i3 : ¬ ((n : Int) = 45) := by omega
          have e5 : ((n : Int) == 46) = false := by rw [beq_eq_false_iff_ne]; omega
          have e6 : ((n : Int) == 45) = false := by rw [beq_eq_false_iff_ne]; omega
          clear HO
          go_enter Try.func58, Try.ntmps58
          go_wp2
          go_ret
          exact ⟨by first | simp | simp [e5, e6], rfl⟩
theorem nameOk_no {l : List (BitVec 8)} (h : ¬ (1 ≤ l.length ∧ l.length ≤ 32)) : nameOk l = false := by
  unfold nameOk
  by_cases h1 : 1 ≤ l.length
  · rw [show decide (l.length ≤ 32) = false from decide_eq_false (by omega)]; simp
  · rw [show decide (1 ≤ l.length) = false from decide_eq_false h1]; simp
theorem nameOk_is {l : List (BitVec 8)} (h : 1 ≤ l.length ∧ l.length ≤ 32) : nameOk l = l.all nameByte := by
  unfold nameOk
  rw [decide_eq_true h.1, decide_eq_true h.2]; simp
theorem all_not {l : List (BitVec 8)} {k : Nat} (hk : k < l.length) (h : nameB (l.getD k 0).toNat = false) : l.all nameByte = false := by
  rw [Bool.eq_false_iff]
  intro ha
  have := List.all_eq_true.1 ha (l.getD k 0) (by rw [List.getD_eq_getElem?_getD, List.getElem?_eq_getElem hk]; exact List.getElem_mem hk)
  rw [nameByte_eq, h] at this
  cases this
theorem all_more {l : List (BitVec 8)} {k : Nat} (hk : k < l.length) (h : (l.take k).all nameByte = true) (h2 : nameB (l.getD k 0).toNat = true) : (l.take (k + 1)).all nameByte = true := by
  rw [List.take_add_one, List.getElem?_eq_getElem hk, List.all_append, h]
  rw [List.getD_eq_getElem?_getD, List.getElem?_eq_getElem hk] at h2
  simpa [nameByte_eq] using h2
theorem unot : ∀ (x : Bool) (w : World), (Op.unary .not (.bool x)).run Try.prog w = .ok (.bool (!x)) w := fun _ _ => rfl
set_option maxRecDepth 100000 in
set_option maxHeartbeats 1000000 in
theorem isName_any (l : List (BitVec 8)) (w : World) :
    Calls Try.prog 36 #[.string (strB l)] w fun e w' => e = .returned (.bool (nameOk l)) ∧ Below w.heap.size w w' := by
  have hs := strB_size l
  have hnot := unot
  obtain ⟨o, HO⟩ : ∃ o, Hid (o = nameOk l) := ⟨_, rfl⟩
  rw [← HO.out]
  obtain ⟨m, HM⟩ : ∃ m, Hid (m = l.length) := ⟨_, rfl⟩
  rw [← HM.out] at hs
  by_cases h1 : m < 1
  · have ho : o = false := by rw [HO.out]; exact nameOk_no (by rw [← HM.out]; omega)
    subst ho
    have i1 : (m : Int) < 1 := by omega
    clear HO h1
    generalize strB l = s at *
    go_enter Try.func36, Try.ntmps36
    go_wp2
    go_ret
    exact ⟨rfl, Below.refl _ _⟩
  · have i1 : ¬ ((m : Int) < 1) := by omega
    by_cases h2 : 32 < m
    · have ho : o = false := by rw [HO.out]; exact nameOk_no (by rw [← HM.out]; omega)
      subst ho
      have i2 : (32 : Int) < (m : Int) := by omega
      clear HO h1 h2
      generalize strB l = s at *
      go_enter Try.func36, Try.ntmps36
      go_wp2
      go_ret
      exact ⟨rfl, Below.refl _ _⟩
    · have i2 : ¬ ((32 : Int) < (m : Int)) := by omega
      have HOK : Hid (o = l.all nameByte) := by show o = _; rw [HO.out]; exact nameOk_is (by rw [← HM.out]; omega)
      have hcv := conv_string l w
      have hrd := bytesWorld_reads l w
      have hbl := bytesWorld_below l w
      rw [← HM.out] at hcv hrd
      generalize Lib.bytesWorld w 5 (strB l) = w0 at *
      generalize grownCap w m 0 5 = cp at *
      have HB : Hid (Below w.heap.size w w0) := hbl
      have HC : Hid (∀ j, j < m → w0.cell? ⟨w.heap.size, j, none⟩ = some (.int .u8 ((l.getD j 0).toNat : Int))) := by
        intro j hj
        obtain ⟨ad, cap, hv, _, _, hx⟩ := hrd
        obtain ⟨b, off, hb, hy⟩ := hx (by rw [← HM.out]; omega)
        simp only [Value.slice.injEq] at hv
        rw [hb] at hv
        simp only [Option.some.injEq, Addr.mk.injEq] at hv
        obtain ⟨⟨rfl, rfl, _⟩, _⟩ := hv
        have := hy j (by rw [← HM.out]; exact hj)
        rwa [Nat.zero_add] at this
      clear hrd hbl HO
      generalize strB l = s at *
      go_enter Try.func36, Try.ntmps36
      go_wp2
      go_loopw [16] (fun i wr => ∃ k : Nat, k ≤ m ∧ i = .int .i64 (k : Int) ∧ (l.take k).all nameByte = true ∧ wr = w0) (fun i _ => m - (intOf i).toNat)
      case atStart => exact ⟨0, by omega, rfl, rfl, rfl⟩
      case round =>
        obtain ⟨k, hk, rfl, hall, hwr⟩ := hrel
        subst hwr
        by_cases hlt : k < m
        · have cK := HC.out k hlt
          have HKL : Hid (k < l.length) := by show _ < _; rw [← HM.out]; exact hlt
          have HAL : Hid ((l.take k).all nameByte = true) := hall
          obtain ⟨x, HX⟩ : ∃ x, Hid (x = (l.getD k 0).toNat) := ⟨_, rfl⟩
          obtain ⟨bb, HBB⟩ : ∃ bb, Hid (bb = nameB x) := ⟨_, rfl⟩
          rw [← HX.out] at cK
          clear hall
          go_wp2_with fail
          refine (inNames_any _ _).mono ?_
          rintro e w2 ⟨rfl, rfl⟩
          rw [← HBB.out]
          cases bb with
          | false =>
            have ho : o = false := by rw [HOK.out]; exact all_not HKL.out (by rw [← HX.out, ← HBB.out])
            subst ho
            clear HBB
            go_wp2
            go_ret
            exact ⟨rfl, HB.out⟩
          | true =>
            have HA2 : Hid ((l.take (k + 1)).all nameByte = true) := all_more HKL.out HAL.out (by rw [← HX.out, ← HBB.out])
            clear HBB
            go_wp2
            go_roundw
            case rel => exact ⟨k + 1, by omega, by go_num, HA2.out, trivial⟩
            case measure => simp [intOf]; omega
        · have hkm : k = m := by omega
          subst hkm
          have ho : o = true := by rw [HOK.out]; rwa [HM.out, List.take_of_length_le (Nat.le_refl _)] at hall
          subst ho
          clear hall HC
          go_wp2
          go_ret
          exact ⟨rfl, HB.out⟩
set_option maxRecDepth 100000 in
set_option maxHeartbeats 1000000 in
theorem rfName_any (l : List (BitVec 8)) (w : World) :
    Calls Try.prog 37 #[.string (strB l)] w fun e w' => e = .returned (.bool (nameOk l)) ∧ ∃ k, w' = w.drewN k := by
  have hs := strB_size l
  have hnot := unot
  obtain ⟨o, HO⟩ : ∃ o, Hid (o = nameOk l) := ⟨_, rfl⟩
  rw [← HO.out]
  obtain ⟨m, HM⟩ : ∃ m, Hid (m = l.length) := ⟨_, rfl⟩
  rw [← HM.out] at hs
  by_cases h1 : m < 1
  · have ho : o = false := by rw [HO.out]; exact nameOk_no (by rw [← HM.out]; omega)
    subst ho
    have i1 : (m : Int) < 1 := by omega
    clear HO h1
    generalize strB l = s at *
    go_enter Try.func37, Try.ntmps37
    go_wp2
    go_ret
    exact ⟨rfl, 0, rfl⟩
  · have i1 : ¬ ((m : Int) < 1) := by omega
    by_cases h2 : 32 < m
    · have ho : o = false := by rw [HO.out]; exact nameOk_no (by rw [← HM.out]; omega)
      subst ho
      have i2 : (32 : Int) < (m : Int) := by omega
      clear HO h1 h2
      generalize strB l = s at *
      go_enter Try.func37, Try.ntmps37
      go_wp2
      go_ret
      exact ⟨rfl, 0, rfl⟩
    · have i2 : ¬ ((32 : Int) < (m : Int)) := by omega
      have HOK : Hid (o = l.all nameByte) := by show o = _; rw [HO.out]; exact nameOk_is (by rw [← HM.out]; omega)
      go_enter Try.func37, Try.ntmps37
      go_wp2
      go_loopw [3] (fun i wr => ∃ k q : Nat, k ≤ m ∧ i = .int .i64 (k : Int) ∧ (l.take k).all nameByte = true ∧ wr = w.drewN q) (fun i _ => m - (intOf i).toNat)
      case atStart => exact ⟨0, 0, by omega, rfl, rfl, rfl⟩
      case round =>
        obtain ⟨k, q, hk, rfl, hall, hwr⟩ := hrel
        subst hwr
        by_cases hlt : k < m
        · have HKL : Hid (k < l.length) := by show _ < _; rw [← HM.out]; exact hlt
          have HAL : Hid ((l.take k).all nameByte = true) := hall
          obtain ⟨x, HX⟩ : ∃ x, Hid (x = (l.getD k 0).toNat) := ⟨_, rfl⟩
          have hx : ((strB l)[k]'(by rw [hs]; exact hlt)).toNat = x := by rw [HX.out]; exact strB_at l k _
          clear hall
          generalize strB l = s at *
          by_cases h3 : 97 ≤ x
          · by_cases h4 : x ≤ 122
            · have hb : nameB x = true := by unfold nameB; simp <;> omega
              have HA2 : Hid ((l.take (k + 1)).all nameByte = true) := all_more HKL.out HAL.out (by rw [← HX.out]; exact hb)
              have j0 : (97 : Int) ≤ (x : Int) := by omega
              have j1 : (x : Int) ≤ 122 := by omega
              have j2 : (48 : Int) ≤ (x : Int) := by omega
              have j3 : ¬ ((x : Int) ≤ 57) := by omega
              clear hb
              go_wp2
              go_roundw
              case rel => exact ⟨k + 1, q, by omega, by go_num, HA2.out, rfl⟩
              case measure => simp [intOf]; omega
            · have hb : nameB x = false := by unfold nameB; simp <;> omega
              have ho : o = false := by rw [HOK.out]; exact all_not HKL.out (by rw [← HX.out]; exact hb)
              subst ho
              have j0 : (97 : Int) ≤ (x : Int) := by omega
              have j1 : ¬ ((x : Int) ≤ 122) := by omega
              have j2 : (48 : Int) ≤ (x : Int) := by omega
              have j3 : ¬ ((x : Int) ≤ 57) := by omega
              have e0 : ((x : Int) != 46) = true := by simp <;> omega
              have e1 : ((x : Int) != 45) = true := by simp <;> omega
              clear hb
              go_wp2
              go_ret
              exact ⟨rfl, q, rfl⟩
          · by_cases h4 : 48 ≤ x
            · by_cases h5 : x ≤ 57
              · have hb : nameB x = true := by unfold nameB; simp <;> omega
                have HA2 : Hid ((l.take (k + 1)).all nameByte = true) := all_more HKL.out HAL.out (by rw [← HX.out]; exact hb)
                have j0 : ¬ ((97 : Int) ≤ (x : Int)) := by omega
                have j1 : (48 : Int) ≤ (x : Int) := by omega
                have j2 : (x : Int) ≤ 57 := by omega
                clear hb
                go_wp2
                go_roundw
                case rel => exact ⟨k + 1, q, by omega, by go_num, HA2.out, rfl⟩
                case measure => simp [intOf]; omega
              · have hb : nameB x = false := by unfold nameB; simp <;> omega
                have ho : o = false := by rw [HOK.out]; exact all_not HKL.out (by rw [← HX.out]; exact hb)
                subst ho
                have j0 : ¬ ((97 : Int) ≤ (x : Int)) := by omega
                have j1 : (48 : Int) ≤ (x : Int) := by omega
                have j2 : ¬ ((x : Int) ≤ 57) := by omega
                have e0 : ((x : Int) != 46) = true := by simp <;> omega
                have e1 : ((x : Int) != 45) = true := by simp <;> omega
                clear hb
                go_wp2
                go_ret
                exact ⟨rfl, q, rfl⟩
            · by_cases h5 : x = 46
              · have hb : nameB x = true := by unfold nameB; simp <;> omega
                have HA2 : Hid ((l.take (k + 1)).all nameByte = true) := all_more HKL.out HAL.out (by rw [← HX.out]; exact hb)
                have j0 : ¬ ((97 : Int) ≤ (x : Int)) := by omega
                have j1 : ¬ ((48 : Int) ≤ (x : Int)) := by omega
                have e0 : ((x : Int) != 46) = false := by simp <;> omega
                clear hb
                go_wp2
                go_roundw
                case rel => exact ⟨k + 1, q, by omega, by go_num, HA2.out, rfl⟩
                case measure => simp [intOf]; omega
              · by_cases h6 : x = 45
                · have hb : nameB x = true := by unfold nameB; simp <;> omega
                  have HA2 : Hid ((l.take (k + 1)).all nameByte = true) := all_more HKL.out HAL.out (by rw [← HX.out]; exact hb)
                  have j0 : ¬ ((97 : Int) ≤ (x : Int)) := by omega
                  have j1 : ¬ ((48 : Int) ≤ (x : Int)) := by omega
                  have e0 : ((x : Int) != 46) = true := by simp <;> omega
                  have e1 : ((x : Int) != 45) = false := by simp <;> omega
                  clear hb
                  go_wp2
                  go_roundw
                  case rel => exact ⟨k + 1, q, by omega, by go_num, HA2.out, rfl⟩
                  case measure => simp [intOf]; omega
                · have hb : nameB x = false := by unfold nameB; simp <;> omega
                  have ho : o = false := by rw [HOK.out]; exact all_not HKL.out (by rw [← HX.out]; exact hb)
                  subst ho
                  have j0 : ¬ ((97 : Int) ≤ (x : Int)) := by omega
                  have j1 : ¬ ((48 : Int) ≤ (x : Int)) := by omega
                  have e0 : ((x : Int) != 46) = true := by simp <;> omega
                  have e1 : ((x : Int) != 45) = true := by simp <;> omega
                  clear hb
                  go_wp2
                  go_ret
                  exact ⟨rfl, q, rfl⟩
        · have hkm : k = m := by omega
          subst hkm
          have ho : o = true := by rw [HOK.out]; rwa [HM.out, List.take_of_length_le (Nat.le_refl _)] at hall
          subst ho
          clear hall
          go_wp2
          go_ret
          exact ⟨rfl, q, rfl⟩
end Go.Proofs.Ytldbcglakeggaaa

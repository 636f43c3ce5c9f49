/- The walks of Of, EmptyBytes, SameBinding and of the statements' own bound (layer 3). -/
import Derived.Test.YtaleeaocmomjlaaDoorFlow
namespace Go.Proofs.YtaleeaocmomjlaaDoor
open Go.RowKit
/-- a binding as a value -/
def bindV (nm : List (BitVec 8)) (vk : Value) (sr : Nat) : Value := .agg #[.string (strB nm), vk, .int .u64 (sr : Int)]
set_option maxHeartbeats 400000 in
theorem few_any (nm : List (BitVec 8)) (ad : Option Addr) (n cp sr : Nat) (w : World) :
    Calls Tryd.prog 8 #[.agg #[.string (strB nm), .slice ad n cp, .int .u64 (sr : Int)]] w fun e w' => e = .returned (.bool (decide (nm.length ≤ 2000 ∧ n ≤ 2000))) ∧ Below w.heap.size w w' := by
  have hs := strB_size nm
  have HB : Hid (Below w.heap.size w (w.alloc (.cells #[.string (strB nm), .slice ad n cp, .int .u64 (sr : Int)] 27))) := below_alloc _ _
  by_cases h1 : nm.length ≤ 2000
  · have h2 : decide ((n : Int) ≤ 2000) = decide (nm.length ≤ 2000 ∧ n ≤ 2000) := by rw [decide_eq_decide]; omega
    generalize decide (nm.length ≤ 2000 ∧ n ≤ 2000) = bb at *
    generalize nm.length = m at *
    generalize strB nm = s at *
    go_enter Tryd.func8, Tryd.ntmps8
    go_wp2
    go_ret
    exact ⟨by simp, HB.out⟩
  · have h2 : decide (nm.length ≤ 2000 ∧ n ≤ 2000) = false := by rw [decide_eq_false_iff_not]; omega
    generalize decide (nm.length ≤ 2000 ∧ n ≤ 2000) = bb at *
    generalize nm.length = m at *
    generalize strB nm = s at *
    go_enter Tryd.func8, Tryd.ntmps8
    go_wp2
    go_ret
    exact ⟨by simp, HB.out⟩
set_option maxHeartbeats 400000 in
theorem rEmpty_any (w : World) : Calls Tryd.prog 20 #[] w fun e w' => ∃ v, e = .returned v ∧ Reads w' v [69] ∧ Below w.heap.size w w' := by
  go_enter Tryd.func20, Tryd.ntmps20
  go_wp2
  go_ret
  exact ⟨_, rfl, reads_val w 69 69 rfl, below_alloc _ _⟩
theorem readsL_none (w : World) : ReadsL w (.slice none 0 0) [] := ⟨none, 0, rfl, Nat.le_refl _, fun _ => rfl, fun h => by cases h⟩
set_option maxHeartbeats 400000 in
theorem tEmpty_any (w : World) : Calls Tryd.prog 19 #[] w fun e w' => ∃ v, e = .returned v ∧ Reads w' v [69] ∧ Below w.heap.size w w' := by
  have HT : Hid (Calls Tryd.prog 34 #[.int .u8 69, .slice none 0 0] w fun e w' => ∃ v', e = .returned v' ∧ Reads w' v' [69] ∧ Below w.heap.size w w') := tagged_any 69 (.slice none 0 0) [] w (readsL_none w) (by decide) (by decide)
  go_enter Tryd.func19, Tryd.ntmps19
  go_wp2_with (go_at_call 34; refine HT.out.mono ?_; rintro e w1 ⟨v, rfl, hr, hb⟩)
  go_ret
  exact ⟨_, rfl, hr, hb⟩
set_option maxHeartbeats 400000 in
theorem tOf_any (v : Value) (bs : List (BitVec 8)) (w : World) (hK : KOk w) (hR : Reads w v bs) (hl : bs.length < 2305843009213693952) :
    Calls Tryd.prog 32 #[v] w fun e w' => e = .returned (.agg (cb (dig bs)).toArray) ∧ Below w.heap.size w w' := by
  have HK : Hid (KOk w) := hK
  have HR : Hid (Reads w v bs) := hR
  clear hK hR
  go_enter Tryd.func32, Tryd.ntmps32
  go_wp2_with fail
  generalize h0 : Obj.cells _ 23 = o32
  have ho : o32 = Obj.cells (cb zb32).toArray 23 := h0.symm
  clear h0
  subst ho
  have hb0 := below_alloc w (Obj.cells (cb zb32).toArray 23)
  refine (sum_any _ bs _ (HK.out.below hb0 HK.out.lt) (HR.out.below hb0) hl).mono ?_
  rintro e w1 ⟨rfl, hb1⟩
  simp at hb1
  obtain ⟨es, HES⟩ : ∃ zz, Hid (zz = cb (dig bs)) := ⟨_, rfl⟩
  have HLe : Hid (es.length = 32) := by show _ = _; rw [HES.out, cb_len, len_dig']
  have HZe : Hid ((Tryd.prog.info? 23).map (·.size) = some es.length) := by show _ = _; rw [HLe.out]; exact Tryd.info23
  have H1e : Hid (∀ v ∈ es, v.oneCell' = true) := by show ∀ _, _; rw [HES.out]; exact cb_one _
  have HR1 : Hid (Blk w1 w.heap.size (cb zb32) 23) := (Blk.new w (cb zb32) 23).below hb1 (by omega)
  have HS1 : Hid (Below w.heap.size w w1) := hb0.trans (hb1.mono (by omega))
  clear hb0 hb1
  rw [← HES.out]
  go_wp2_with (refine wpList_store_mid rfl 23 _ _ rfl w.heap.size 0 es.toArray rfl rfl (HR1.out.there 0 _ (by rw [List.size_toArray, HLe.out, cb_len, len_zb32]; omega)) (by simpa using HZe.out) (all_oneCell_toArray H1e.out) ?_)
  have hB := HR1.out.whole es (by rw [HLe.out, cb_len, len_zb32])
  refine bodyPost_ret (v := .agg es.toArray) (results_cell_row (by rfl) _ _ w.heap.size 23 _ (0, 0) _ rfl hB Tryd.underlying23 rfl (by simpa using HZe.out)) rfl ⟨by rw [HES.out], Below.setCells _ (Nat.le_refl _) _ _ _ HS1.out⟩
set_option maxHeartbeats 400000 in
theorem rOf_any (v : Value) (bs : List (BitVec 8)) (w : World) (hR : Reads w v bs) (hl : bs.length < 140737488350000) :
    Calls Tryd.prog 41 #[v] w fun e w' => e = .returned (.agg (cb (dig bs)).toArray) ∧ Below w.heap.size w w' := by
  have HR : Hid (Reads w v bs) := hR
  clear hR
  go_enter Tryd.func41, Tryd.ntmps41
  go_wp2_with fail
  generalize h0 : Obj.cells _ 23 = o32
  have ho : o32 = Obj.cells (cb zb32).toArray 23 := h0.symm
  clear h0
  subst ho
  have hb0 := below_alloc w (Obj.cells (cb zb32).toArray 23)
  refine (rsum_any _ bs _ (HR.out.below hb0) hl).mono ?_
  rintro e w1 ⟨rfl, hb1⟩
  simp at hb1
  obtain ⟨es, HES⟩ : ∃ zz, Hid (zz = cb (dig bs)) := ⟨_, rfl⟩
  have HLe : Hid (es.length = 32) := by show _ = _; rw [HES.out, cb_len, len_dig']
  have HZe : Hid ((Tryd.prog.info? 23).map (·.size) = some es.length) := by show _ = _; rw [HLe.out]; exact Tryd.info23
  have H1e : Hid (∀ v ∈ es, v.oneCell' = true) := by show ∀ _, _; rw [HES.out]; exact cb_one _
  have HR1 : Hid (Blk w1 w.heap.size (cb zb32) 23) := (Blk.new w (cb zb32) 23).below hb1 (by omega)
  have HS1 : Hid (Below w.heap.size w w1) := hb0.trans (hb1.mono (by omega))
  clear hb0 hb1
  rw [← HES.out]
  go_wp2_with (refine wpList_store_mid rfl 23 _ _ rfl w.heap.size 0 es.toArray rfl rfl (HR1.out.there 0 _ (by rw [List.size_toArray, HLe.out, cb_len, len_zb32]; omega)) (by simpa using HZe.out) (all_oneCell_toArray H1e.out) ?_)
  have hB := HR1.out.whole es (by rw [HLe.out, cb_len, len_zb32])
  refine bodyPost_ret (v := .agg es.toArray) (results_cell_row (by rfl) _ _ w.heap.size 23 _ (0, 0) _ rfl hB Tryd.underlying23 rfl (by simpa using HZe.out)) rfl ⟨by rw [HES.out], Below.setCells _ (Nat.le_refl _) _ _ _ HS1.out⟩
set_option maxHeartbeats 1000000 in
theorem sameBinding_any (na nb ka kb : List (BitVec 8)) (va vb : Value) (sa sb : Nat) (w : World) (ha : Reads w va ka) (hb : Reads w vb kb) :
    Calls Tryd.prog 29 #[.agg #[.string (strB na), va, .int .u64 (sa : Int)], .agg #[.string (strB nb), vb, .int .u64 (sb : Int)]] w fun e w' => e = .returned (.bool (decide (na = nb ∧ sa = sb ∧ ka = kb))) ∧ Below w.heap.size w w' := by
  have hs1 := strB_inj na nb
  have hs2 := strB_inj ka kb
  have HA : Hid (Reads w va ka) := ha
  have HB : Hid (Reads w vb kb) := hb
  obtain ⟨a1, c1, rfl, _, _, _⟩ := ha
  obtain ⟨a2, c2, rfl, _, _, _⟩ := hb
  obtain ⟨W, HW⟩ : ∃ zz, Hid (zz = (w.alloc (.cells #[.string (strB na), .slice a1 ka.length c1, .int .u64 (sa : Int)] 27)).alloc (.cells #[.string (strB nb), .slice a2 kb.length c2, .int .u64 (sb : Int)] 27)) := ⟨_, rfl⟩
  have HBW : Hid (Below w.heap.size w ((w.alloc (.cells #[.string (strB na), .slice a1 ka.length c1, .int .u64 (sa : Int)] 27)).alloc (.cells #[.string (strB nb), .slice a2 kb.length c2, .int .u64 (sb : Int)] 27))) := (below_alloc _ _).trans ((below_alloc _ _).mono (by simp))
  have ca := conv_reads (HA.out.below HBW.out)
  have cb := conv_reads (HB.out.below HBW.out)
  clear HA HB
  by_cases h1 : na = nb
  · by_cases h2 : sa = sb
    · have h3 : decide (na = nb ∧ sa = sb ∧ ka = kb) = decide (ka = kb) := by simp [h1, h2]
      rw [decide_eq_true h1] at hs1
      have h2' : ((sa : Int) == (sb : Int)) = true := by simp [h2]
      clear h1 h2
      generalize decide (ka = kb) = bb at *
      generalize decide (na = nb ∧ sa = sb ∧ ka = kb) = bc at *
      go_enter Tryd.func29, Tryd.ntmps29
      go_wp2
      go_ret
      exact ⟨by simp [h3], HBW.out⟩
    · have h3 : decide (na = nb ∧ sa = sb ∧ ka = kb) = false := by simp [h2]
      rw [decide_eq_true h1] at hs1
      have h2' : ((sa : Int) == (sb : Int)) = false := by rw [beq_eq_false_iff_ne]; omega
      clear h1 h2 hs2
      generalize decide (na = nb ∧ sa = sb ∧ ka = kb) = bc at *
      go_enter Tryd.func29, Tryd.ntmps29
      go_wp2
      go_ret
      exact ⟨by simp [h3], HBW.out⟩
  · have h3 : decide (na = nb ∧ sa = sb ∧ ka = kb) = false := by simp [h1]
    rw [decide_eq_false h1] at hs1
    clear h1 hs2
    generalize decide (na = nb ∧ sa = sb ∧ ka = kb) = bc at *
    go_enter Tryd.func29, Tryd.ntmps29
    go_wp2
    go_ret
    exact ⟨by simp [h3], HBW.out⟩
end Go.Proofs.YtaleeaocmomjlaaDoor

/- The walk of the statement TagsKeyed. -/
import Derived.Test.YtaleeaocmomjlaaDoorLawT
namespace Go.Proofs.YtaleeaocmomjlaaDoor
open Go.RowKit
def plOf (bi si : Int) : Nat := (IntKind.u64.wrap (IntKind.u64.wrap (2 * IntKind.u64.wrap bi) + IntKind.u64.wrap si)).toNat
theorem plOf_eq (bi si : Int) : IntKind.u64.wrap (IntKind.u64.wrap (2 * IntKind.u64.wrap bi) + IntKind.u64.wrap si) = (plOf bi si : Int) := by
  unfold plOf
  generalize IntKind.u64.wrap (2 * IntKind.u64.wrap bi) + IntKind.u64.wrap si = z
  rw [IntKind.wrap_u64, Int.toNat_of_nonneg (by omega)]
theorem plOf_lt (bi si : Int) : plOf bi si < 18446744073709551616 := by
  have h := plOf_eq bi si
  generalize IntKind.u64.wrap (2 * IntKind.u64.wrap bi) + IntKind.u64.wrap si = z at h
  rw [IntKind.wrap_u64] at h
  omega
set_option maxRecDepth 100000 in
set_option maxHeartbeats 8000000 in
theorem tagsKeyed_any (x nm ky : List (BitVec 8)) (vk : Value) (sr pl : Nat) (bi si : Int) (w : World) (hK : KOk w) (hx : x.length = 32 ∧ pl < 18446744073709551616) (hk : Reads w vk ky) (hs : sr < 18446744073709551616) (hp : IntKind.u64.wrap (IntKind.u64.wrap (2 * IntKind.u64.wrap bi) + IntKind.u64.wrap si) = (pl : Int)) :
    Calls Tryd.prog 4 #[.agg (cb x).toArray, .agg #[.string (strB nm), vk, .int .u64 (sr : Int)], .int .i64 bi, .int .i64 si] w fun e w' => e = .returned (.bool true) ∧ Below w.heap.size w w' := by
  have HK : Hid (KOk w) := hK
  have HX : Hid (x.length = 32 ∧ pl < 18446744073709551616) := hx
  have HP : Hid (IntKind.u64.wrap (IntKind.u64.wrap (2 * IntKind.u64.wrap bi) + IntKind.u64.wrap si) = (pl : Int)) := hp
  have HV : Hid (Reads w vk ky) := hk
  obtain ⟨ad, cp, rfl, _, _, _⟩ := hk
  by_cases hfew : nm.length ≤ 2000 ∧ ky.length ≤ 2000
  · have HF : Hid (nm.length ≤ 2000 ∧ ky.length ≤ 2000 ∧ sr < 18446744073709551616) := ⟨hfew.1, hfew.2, hs⟩
    clear hK hx hp hs
    go_enter Tryd.func4, Tryd.ntmps4
    go_wp2_with fail
    have hB0 : Below w.heap.size w ((w.alloc (.cells (cb x).toArray 23)).alloc (.cells #[.string (strB nm), .slice ad ky.length cp, .int .u64 (sr : Int)] 27)) := ((below_alloc _ _).trans ((below_alloc _ _).mono (by simp <;> omega)))
    have b0 : Blk ((w.alloc (.cells (cb x).toArray 23)).alloc (.cells #[.string (strB nm), .slice ad ky.length cp, .int .u64 (sr : Int)] 27)) (w.heap.size) (cb x) 23 := ((Blk.new w (cb x) 23).alloc _)
    have b1 : Blk ((w.alloc (.cells (cb x).toArray 23)).alloc (.cells #[.string (strB nm), .slice ad ky.length cp, .int .u64 (sr : Int)] 27)) (w.heap.size + 1) [.string (strB nm), .slice ad ky.length cp, .int .u64 (sr : Int)] 27 := (Blk.new_at (w := (w.alloc (.cells (cb x).toArray 23))) (by simp) [.string (strB nm), .slice ad ky.length cp, .int .u64 (sr : Int)] 27)
    have rk := HV.out.below hB0
    generalize ((w.alloc (.cells (cb x).toArray 23)).alloc (.cells #[.string (strB nm), .slice ad ky.length cp, .int .u64 (sr : Int)] 27)) = w0 at *
    refine (few_any nm ad ky.length cp sr _).mono ?_
    rintro e wf ⟨rfl, bf⟩
    rw [decide_eq_true hfew]
    have hW := hB0.trans (bf.mono hB0.size)
    replace b0 := b0.below bf b0.lt
    replace b1 := b1.below bf b1.lt
    replace rk := rk.below bf
    clear hB0 bf hfew HV
    go_wp2_with fail
    refine wp_region_held_drew (S := Over wf.drew) (by kernel_rfl) (Over.refl _) ?_
    intro hS
    replace b0 := b0.drew
    replace b1 := b1.drew
    replace rk := reads_drew rk
    have HB1 : Hid (Below w.heap.size w wf.drew) := (hW).drew
    generalize wf.drew = w1 at *
    have c10 : w1.cell? ⟨w.heap.size + 1, 0, none⟩ = some (.string (strB nm)) := b1.cell 0
    have c11 : w1.cell? ⟨w.heap.size + 1, 1, none⟩ = some (.slice ad ky.length cp) := b1.cell 1
    have c12 : w1.cell? ⟨w.heap.size + 1, 2, none⟩ = some (.int .u64 (sr : Int)) := b1.cell 2
    clear hW
    refine wpAnyH_take (i := 0) (v := .agg (cb x).toArray) rfl (by kernel_rfl) (by kernel_rfl) (by kernel_rfl) (fun _ _ _ h => h) (Or.inl ⟨by rfl, fun wx hx => by exact load_run 23 _ rfl (w.heap.size) 0 rfl (cb x) _ (Blk.range (b0.below hx.out b0.lt)) Tryd.underlying23 rfl (info_dig x HX.out.1)⟩) hS ?_
    simp only [Act.put, List.getElem_toArray, List.getElem_cons_zero, List.setIfInBounds_toArray, List.set_cons_zero, List.set_cons_succ]
    refine wpAnyH_take (i := 1) (v := .pointer (some ⟨w.heap.size + 1, 0, none⟩)) rfl (by kernel_rfl) (by kernel_rfl) (by kernel_rfl) (fun _ _ _ h => h) (Or.inl ⟨by rfl, fun wx _ => by simp [go_sem]⟩) hS ?_
    simp only [Act.put, List.getElem_toArray, List.getElem_cons_succ, List.getElem_cons_zero, List.setIfInBounds_toArray, List.set_cons_zero, List.set_cons_succ]
    refine wpAnyH_take (i := 2) (v := .string (strB nm)) rfl (by kernel_rfl) (by kernel_rfl) (by kernel_rfl) (fun _ _ _ h => h) (Or.inl ⟨by rfl, fun wx hx => by (have hc := below_cell hx c10; simp [go_sem, hc])⟩) hS ?_
    simp only [Act.put, List.getElem_toArray, List.getElem_cons_succ, List.getElem_cons_zero, List.setIfInBounds_toArray, List.set_cons_zero, List.set_cons_succ]
    refine wpAnyH_take (i := 4) (v := .agg (cb x).toArray) rfl (by kernel_rfl) (by kernel_rfl) (by kernel_rfl) (fun _ _ _ h => h) (Or.inl ⟨by rfl, fun wx hx => by exact load_run 23 _ rfl (w.heap.size) 0 rfl (cb x) _ (Blk.range (b0.below hx.out b0.lt)) Tryd.underlying23 rfl (info_dig x HX.out.1)⟩) hS ?_
    simp only [Act.put, List.getElem_toArray, List.getElem_cons_succ, List.getElem_cons_zero, List.setIfInBounds_toArray, List.set_cons_zero, List.set_cons_succ]
    refine wpAnyH_take (i := 5) (v := .pointer (some ⟨w.heap.size + 1, 0, none⟩)) rfl (by kernel_rfl) (by kernel_rfl) (by kernel_rfl) (fun _ _ _ h => h) (Or.inl ⟨by rfl, fun wx _ => by simp [go_sem]⟩) hS ?_
    simp only [Act.put, List.getElem_toArray, List.getElem_cons_succ, List.getElem_cons_zero, List.setIfInBounds_toArray, List.set_cons_zero, List.set_cons_succ]
    refine wpAnyH_take (i := 6) (v := .string (strB nm)) rfl (by kernel_rfl) (by kernel_rfl) (by kernel_rfl) (fun _ _ _ h => h) (Or.inl ⟨by rfl, fun wx hx => by (have hc := below_cell hx c10; simp [go_sem, hc])⟩) hS ?_
    simp only [Act.put, List.getElem_toArray, List.getElem_cons_succ, List.getElem_cons_zero, List.setIfInBounds_toArray, List.set_cons_zero, List.set_cons_succ]
    refine wpAnyH_enter 3 (by kernel_rfl) rfl (by rfl) (f := 21) (args := #[.agg (cb x).toArray, .string (strB nm)]) (by simp [go_sem]) (tIndex_any x nm _ (HK.out.below (hS.after HB1.out) HK.out.lt) (by have := HF.out; have := HX.out; omega)) ?_
    rintro e w2 ⟨rfl, hbA⟩
    have hS1 : Over w1 w2 := hS.more hbA
    refine ⟨_, rfl, hS1, ?_⟩
    clear hS
    have hS := hS1
    clear hS1
    simp only [Act.put, List.getElem_toArray, List.getElem_cons_succ, List.getElem_cons_zero, List.setIfInBounds_toArray, List.set_cons_zero, List.set_cons_succ]
    clear hbA
    refine wpAnyH_enter 7 (by kernel_rfl) rfl (by rfl) (f := 22) (args := #[.agg (cb x).toArray, .string (strB nm)]) (by simp [go_sem]) (rIndex_any x nm _ (by have := HF.out; have := HX.out; omega)) ?_
    rintro e w3 ⟨rfl, hbA⟩
    have hS2 : Over w1 w3 := hS.more hbA
    refine ⟨_, rfl, hS2, ?_⟩
    clear hS
    have hS := hS2
    clear hS2
    simp only [Act.put, List.getElem_toArray, List.getElem_cons_succ, List.getElem_cons_zero, List.setIfInBounds_toArray, List.set_cons_zero, List.set_cons_succ]
    clear hbA
    refine wpAnyH_take (i := 8) (v := .bool true) rfl (by kernel_rfl) (by kernel_rfl) (by kernel_rfl) (fun _ _ _ h => h) (Or.inl ⟨by rfl, fun wx _ => by (have heq := fun wx => eq_dig_same (hmac x (indexB nm)) (len_hmac _ _) wx; simp [go_sem, heq])⟩) hS ?_
    simp only [Act.put, List.getElem_toArray, List.getElem_cons_succ, List.getElem_cons_zero, List.setIfInBounds_toArray, List.set_cons_zero, List.set_cons_succ]
    refine wpAnyH_take (i := 9) (v := .bool true) rfl (by kernel_rfl) (by kernel_rfl) (by kernel_rfl) (fun _ _ _ h => h) (Or.inl ⟨by rfl, fun wx _ => by simp [go_sem]⟩) hS ?_
    simp only [Act.put, List.getElem_toArray, List.getElem_cons_succ, List.getElem_cons_zero, List.setIfInBounds_toArray, List.set_cons_zero, List.set_cons_succ]
    refine wpAnyH_take (i := 10) (v := .agg (cb x).toArray) rfl (by kernel_rfl) (by kernel_rfl) (by kernel_rfl) (fun _ _ _ h => h) (Or.inl ⟨by rfl, fun wx hx => by exact load_run 23 _ rfl (w.heap.size) 0 rfl (cb x) _ (Blk.range (b0.below hx.out b0.lt)) Tryd.underlying23 rfl (info_dig x HX.out.1)⟩) hS ?_
    simp only [Act.put, List.getElem_toArray, List.getElem_cons_succ, List.getElem_cons_zero, List.setIfInBounds_toArray, List.set_cons_zero, List.set_cons_succ]
    refine wpAnyH_take (i := 11) (v := .pointer (some ⟨w.heap.size + 1, 0, none⟩)) rfl (by kernel_rfl) (by kernel_rfl) (by kernel_rfl) (fun _ _ _ h => h) (Or.inl ⟨by rfl, fun wx _ => by simp [go_sem]⟩) hS ?_
    simp only [Act.put, List.getElem_toArray, List.getElem_cons_succ, List.getElem_cons_zero, List.setIfInBounds_toArray, List.set_cons_zero, List.set_cons_succ]
    refine wpAnyH_take (i := 12) (v := .string (strB nm)) rfl (by kernel_rfl) (by kernel_rfl) (by kernel_rfl) (fun _ _ _ h => h) (Or.inl ⟨by rfl, fun wx hx => by (have hc := below_cell hx c10; simp [go_sem, hc])⟩) hS ?_
    simp only [Act.put, List.getElem_toArray, List.getElem_cons_succ, List.getElem_cons_zero, List.setIfInBounds_toArray, List.set_cons_zero, List.set_cons_succ]
    refine wpAnyH_take (i := 13) (v := .pointer (some ⟨w.heap.size + 1, 2, none⟩)) rfl (by kernel_rfl) (by kernel_rfl) (by kernel_rfl) (fun _ _ _ h => h) (Or.inl ⟨by rfl, fun wx _ => by simp [go_sem]⟩) hS ?_
    simp only [Act.put, List.getElem_toArray, List.getElem_cons_succ, List.getElem_cons_zero, List.setIfInBounds_toArray, List.set_cons_zero, List.set_cons_succ]
    refine wpAnyH_take (i := 14) (v := .int .u64 (sr : Int)) rfl (by kernel_rfl) (by kernel_rfl) (by kernel_rfl) (fun _ _ _ h => h) (Or.inl ⟨by rfl, fun wx hx => by (have hc := below_cell hx c12; simp [go_sem, hc])⟩) hS ?_
    simp only [Act.put, List.getElem_toArray, List.getElem_cons_succ, List.getElem_cons_zero, List.setIfInBounds_toArray, List.set_cons_zero, List.set_cons_succ]
    refine wpAnyH_take (i := 16) (v := .agg (cb x).toArray) rfl (by kernel_rfl) (by kernel_rfl) (by kernel_rfl) (fun _ _ _ h => h) (Or.inl ⟨by rfl, fun wx hx => by exact load_run 23 _ rfl (w.heap.size) 0 rfl (cb x) _ (Blk.range (b0.below hx.out b0.lt)) Tryd.underlying23 rfl (info_dig x HX.out.1)⟩) hS ?_
    simp only [Act.put, List.getElem_toArray, List.getElem_cons_succ, List.getElem_cons_zero, List.setIfInBounds_toArray, List.set_cons_zero, List.set_cons_succ]
    refine wpAnyH_take (i := 17) (v := .pointer (some ⟨w.heap.size + 1, 0, none⟩)) rfl (by kernel_rfl) (by kernel_rfl) (by kernel_rfl) (fun _ _ _ h => h) (Or.inl ⟨by rfl, fun wx _ => by simp [go_sem]⟩) hS ?_
    simp only [Act.put, List.getElem_toArray, List.getElem_cons_succ, List.getElem_cons_zero, List.setIfInBounds_toArray, List.set_cons_zero, List.set_cons_succ]
    refine wpAnyH_take (i := 18) (v := .string (strB nm)) rfl (by kernel_rfl) (by kernel_rfl) (by kernel_rfl) (fun _ _ _ h => h) (Or.inl ⟨by rfl, fun wx hx => by (have hc := below_cell hx c10; simp [go_sem, hc])⟩) hS ?_
    simp only [Act.put, List.getElem_toArray, List.getElem_cons_succ, List.getElem_cons_zero, List.setIfInBounds_toArray, List.set_cons_zero, List.set_cons_succ]
    refine wpAnyH_take (i := 19) (v := .pointer (some ⟨w.heap.size + 1, 2, none⟩)) rfl (by kernel_rfl) (by kernel_rfl) (by kernel_rfl) (fun _ _ _ h => h) (Or.inl ⟨by rfl, fun wx _ => by simp [go_sem]⟩) hS ?_
    simp only [Act.put, List.getElem_toArray, List.getElem_cons_succ, List.getElem_cons_zero, List.setIfInBounds_toArray, List.set_cons_zero, List.set_cons_succ]
    refine wpAnyH_take (i := 20) (v := .int .u64 (sr : Int)) rfl (by kernel_rfl) (by kernel_rfl) (by kernel_rfl) (fun _ _ _ h => h) (Or.inl ⟨by rfl, fun wx hx => by (have hc := below_cell hx c12; simp [go_sem, hc])⟩) hS ?_
    simp only [Act.put, List.getElem_toArray, List.getElem_cons_succ, List.getElem_cons_zero, List.setIfInBounds_toArray, List.set_cons_zero, List.set_cons_succ]
    refine wpAnyH_enter 15 (by kernel_rfl) rfl (by rfl) (f := 23) (args := #[.agg (cb x).toArray, .string (strB nm), .int .u64 (sr : Int)]) (by simp [go_sem]) (tSalt_any x nm sr _ (HK.out.below (hS.after HB1.out) HK.out.lt) (by have := HF.out; have := HX.out; omega)) ?_
    rintro e w4 ⟨rfl, hbA⟩
    have hS3 : Over w1 w4 := hS.more hbA
    refine ⟨_, rfl, hS3, ?_⟩
    clear hS
    have hS := hS3
    clear hS3
    simp only [Act.put, List.getElem_toArray, List.getElem_cons_succ, List.getElem_cons_zero, List.setIfInBounds_toArray, List.set_cons_zero, List.set_cons_succ]
    clear hbA
    refine wpAnyH_enter 21 (by kernel_rfl) rfl (by rfl) (f := 24) (args := #[.agg (cb x).toArray, .string (strB nm), .int .u64 (sr : Int)]) (by simp [go_sem]) (rSalt_any x nm sr _ (by have := HF.out; have := HX.out; omega)) ?_
    rintro e w5 ⟨rfl, hbA⟩
    have hS4 : Over w1 w5 := hS.more hbA
    refine ⟨_, rfl, hS4, ?_⟩
    clear hS
    have hS := hS4
    clear hS4
    simp only [Act.put, List.getElem_toArray, List.getElem_cons_succ, List.getElem_cons_zero, List.setIfInBounds_toArray, List.set_cons_zero, List.set_cons_succ]
    clear hbA
    refine wpAnyH_take (i := 22) (v := .bool true) rfl (by kernel_rfl) (by kernel_rfl) (by kernel_rfl) (fun _ _ _ h => h) (Or.inl ⟨by rfl, fun wx _ => by (have heq := fun wx => eq_dig_same (hmac x (saltB sr nm)) (len_hmac _ _) wx; simp [go_sem, heq])⟩) hS ?_
    simp only [Act.put, List.getElem_toArray, List.getElem_cons_succ, List.getElem_cons_zero, List.setIfInBounds_toArray, List.set_cons_zero, List.set_cons_succ]
    refine wpAnyH_take (i := 23) (v := .bool true) rfl (by kernel_rfl) (by kernel_rfl) (by kernel_rfl) (fun _ _ _ h => h) (Or.inl ⟨by rfl, fun wx _ => by simp [go_sem]⟩) hS ?_
    simp only [Act.put, List.getElem_toArray, List.getElem_cons_succ, List.getElem_cons_zero, List.setIfInBounds_toArray, List.set_cons_zero, List.set_cons_succ]
    refine wpAnyH_take (i := 24) (v := .bool true) rfl (by kernel_rfl) (by kernel_rfl) (by kernel_rfl) (fun _ _ _ h => h) (Or.inl ⟨by rfl, fun wx _ => by simp [go_sem]⟩) hS ?_
    simp only [Act.put, List.getElem_toArray, List.getElem_cons_succ, List.getElem_cons_zero, List.setIfInBounds_toArray, List.set_cons_zero, List.set_cons_succ]
    refine wpAnyH_done (by kernel_rfl) ?_ _
    have hW := hS.after HB1.out
    replace b0 := b0.below hS.out b0.lt
    replace b1 := b1.below hS.out b1.lt
    replace rk := rk.below hS.out
    clear hS HB1 c10 c11 c12
    go_wp2_with fail
    refine wp_region_held_drew (S := Over w5.drew) (by kernel_rfl) (Over.refl _) ?_
    intro hS
    replace b0 := b0.drew
    replace b1 := b1.drew
    replace rk := reads_drew rk
    have HB1 : Hid (Below w.heap.size w w5.drew) := (hW).drew
    generalize w5.drew = wb at *
    have c10 : wb.cell? ⟨w.heap.size + 1, 0, none⟩ = some (.string (strB nm)) := b1.cell 0
    have c11 : wb.cell? ⟨w.heap.size + 1, 1, none⟩ = some (.slice ad ky.length cp) := b1.cell 1
    have c12 : wb.cell? ⟨w.heap.size + 1, 2, none⟩ = some (.int .u64 (sr : Int)) := b1.cell 2
    clear hW
    refine wpAnyH_take (i := 0) (v := .bool true) rfl (by kernel_rfl) (by kernel_rfl) (by kernel_rfl) (fun _ _ _ h => h) (Or.inl ⟨by rfl, fun wx _ => by simp [go_sem]⟩) hS ?_
    simp only [Act.put, List.getElem_toArray, List.getElem_cons_zero, List.setIfInBounds_toArray, List.set_cons_zero, List.set_cons_succ]
    refine wpAnyH_take (i := 1) (v := .bool true) rfl (by kernel_rfl) (by kernel_rfl) (by kernel_rfl) (fun _ _ _ h => h) (Or.inl ⟨by rfl, fun wx _ => by simp [go_sem]⟩) hS ?_
    simp only [Act.put, List.getElem_toArray, List.getElem_cons_succ, List.getElem_cons_zero, List.setIfInBounds_toArray, List.set_cons_zero, List.set_cons_succ]
    refine wpAnyH_take (i := 2) (v := .agg (cb x).toArray) rfl (by kernel_rfl) (by kernel_rfl) (by kernel_rfl) (fun _ _ _ h => h) (Or.inl ⟨by rfl, fun wx hx => by exact load_run 23 _ rfl (w.heap.size) 0 rfl (cb x) _ (Blk.range (b0.below hx.out b0.lt)) Tryd.underlying23 rfl (info_dig x HX.out.1)⟩) hS ?_
    simp only [Act.put, List.getElem_toArray, List.getElem_cons_succ, List.getElem_cons_zero, List.setIfInBounds_toArray, List.set_cons_zero, List.set_cons_succ]
    refine wpAnyH_take (i := 3) (v := .pointer (some ⟨w.heap.size + 1, 2, none⟩)) rfl (by kernel_rfl) (by kernel_rfl) (by kernel_rfl) (fun _ _ _ h => h) (Or.inl ⟨by rfl, fun wx _ => by simp [go_sem]⟩) hS ?_
    simp only [Act.put, List.getElem_toArray, List.getElem_cons_succ, List.getElem_cons_zero, List.setIfInBounds_toArray, List.set_cons_zero, List.set_cons_succ]
    refine wpAnyH_take (i := 4) (v := .int .u64 (sr : Int)) rfl (by kernel_rfl) (by kernel_rfl) (by kernel_rfl) (fun _ _ _ h => h) (Or.inl ⟨by rfl, fun wx hx => by (have hc := below_cell hx c12; simp [go_sem, hc])⟩) hS ?_
    simp only [Act.put, List.getElem_toArray, List.getElem_cons_succ, List.getElem_cons_zero, List.setIfInBounds_toArray, List.set_cons_zero, List.set_cons_succ]
    refine wpAnyH_take (i := 5) (v := .int .i64 bi) rfl (by kernel_rfl) (by kernel_rfl) (by kernel_rfl) (fun _ _ _ h => h) (Or.inl ⟨by rfl, fun wx _ => by simp [go_sem]⟩) hS ?_
    simp only [Act.put, List.getElem_toArray, List.getElem_cons_succ, List.getElem_cons_zero, List.setIfInBounds_toArray, List.set_cons_zero, List.set_cons_succ]
    refine wpAnyH_take (i := 6) (v := .int .i64 si) rfl (by kernel_rfl) (by kernel_rfl) (by kernel_rfl) (fun _ _ _ h => h) (Or.inl ⟨by rfl, fun wx _ => by simp [go_sem]⟩) hS ?_
    simp only [Act.put, List.getElem_toArray, List.getElem_cons_succ, List.getElem_cons_zero, List.setIfInBounds_toArray, List.set_cons_zero, List.set_cons_succ]
    refine wpAnyH_take (i := 8) (v := .agg (cb x).toArray) rfl (by kernel_rfl) (by kernel_rfl) (by kernel_rfl) (fun _ _ _ h => h) (Or.inl ⟨by rfl, fun wx hx => by exact load_run 23 _ rfl (w.heap.size) 0 rfl (cb x) _ (Blk.range (b0.below hx.out b0.lt)) Tryd.underlying23 rfl (info_dig x HX.out.1)⟩) hS ?_
    simp only [Act.put, List.getElem_toArray, List.getElem_cons_succ, List.getElem_cons_zero, List.setIfInBounds_toArray, List.set_cons_zero, List.set_cons_succ]
    refine wpAnyH_take (i := 9) (v := .pointer (some ⟨w.heap.size + 1, 2, none⟩)) rfl (by kernel_rfl) (by kernel_rfl) (by kernel_rfl) (fun _ _ _ h => h) (Or.inl ⟨by rfl, fun wx _ => by simp [go_sem]⟩) hS ?_
    simp only [Act.put, List.getElem_toArray, List.getElem_cons_succ, List.getElem_cons_zero, List.setIfInBounds_toArray, List.set_cons_zero, List.set_cons_succ]
    refine wpAnyH_take (i := 10) (v := .int .u64 (sr : Int)) rfl (by kernel_rfl) (by kernel_rfl) (by kernel_rfl) (fun _ _ _ h => h) (Or.inl ⟨by rfl, fun wx hx => by (have hc := below_cell hx c12; simp [go_sem, hc])⟩) hS ?_
    simp only [Act.put, List.getElem_toArray, List.getElem_cons_succ, List.getElem_cons_zero, List.setIfInBounds_toArray, List.set_cons_zero, List.set_cons_succ]
    refine wpAnyH_take (i := 11) (v := .int .i64 bi) rfl (by kernel_rfl) (by kernel_rfl) (by kernel_rfl) (fun _ _ _ h => h) (Or.inl ⟨by rfl, fun wx _ => by simp [go_sem]⟩) hS ?_
    simp only [Act.put, List.getElem_toArray, List.getElem_cons_succ, List.getElem_cons_zero, List.setIfInBounds_toArray, List.set_cons_zero, List.set_cons_succ]
    refine wpAnyH_take (i := 12) (v := .int .i64 si) rfl (by kernel_rfl) (by kernel_rfl) (by kernel_rfl) (fun _ _ _ h => h) (Or.inl ⟨by rfl, fun wx _ => by simp [go_sem]⟩) hS ?_
    simp only [Act.put, List.getElem_toArray, List.getElem_cons_succ, List.getElem_cons_zero, List.setIfInBounds_toArray, List.set_cons_zero, List.set_cons_succ]
    refine wpAnyH_enter 7 (by kernel_rfl) rfl (by rfl) (f := 25) (args := #[.agg (cb x).toArray, .int .u64 (sr : Int), .int .i64 bi, .int .i64 si]) (by simp [go_sem]) (tKey_any x sr pl bi si _ (HK.out.below (hS.after HB1.out) HK.out.lt) HP.out (by have := HF.out; have := HX.out; omega)) ?_
    rintro e w6 ⟨rfl, hbA⟩
    have hS5 : Over wb w6 := hS.more hbA
    refine ⟨_, rfl, hS5, ?_⟩
    clear hS
    have hS := hS5
    clear hS5
    simp only [Act.put, List.getElem_toArray, List.getElem_cons_succ, List.getElem_cons_zero, List.setIfInBounds_toArray, List.set_cons_zero, List.set_cons_succ]
    clear hbA
    refine wpAnyH_enter 13 (by kernel_rfl) rfl (by rfl) (f := 26) (args := #[.agg (cb x).toArray, .int .u64 (sr : Int), .int .i64 bi, .int .i64 si]) (by simp [go_sem]) (rKeyOf_any x sr pl bi si _ HP.out (by have := HF.out; have := HX.out; omega)) ?_
    rintro e w7 ⟨rfl, hbA⟩
    have hS6 : Over wb w7 := hS.more hbA
    refine ⟨_, rfl, hS6, ?_⟩
    clear hS
    have hS := hS6
    clear hS6
    simp only [Act.put, List.getElem_toArray, List.getElem_cons_succ, List.getElem_cons_zero, List.setIfInBounds_toArray, List.set_cons_zero, List.set_cons_succ]
    clear hbA
    refine wpAnyH_take (i := 14) (v := .bool true) rfl (by kernel_rfl) (by kernel_rfl) (by kernel_rfl) (fun _ _ _ h => h) (Or.inl ⟨by rfl, fun wx _ => by (have heq := fun wx => eq_dig_same (dig (keyB x sr pl)) (len_dig' _) wx; simp [go_sem, heq])⟩) hS ?_
    simp only [Act.put, List.getElem_toArray, List.getElem_cons_succ, List.getElem_cons_zero, List.setIfInBounds_toArray, List.set_cons_zero, List.set_cons_succ]
    refine wpAnyH_take (i := 15) (v := .bool true) rfl (by kernel_rfl) (by kernel_rfl) (by kernel_rfl) (fun _ _ _ h => h) (Or.inl ⟨by rfl, fun wx _ => by simp [go_sem]⟩) hS ?_
    simp only [Act.put, List.getElem_toArray, List.getElem_cons_succ, List.getElem_cons_zero, List.setIfInBounds_toArray, List.set_cons_zero, List.set_cons_succ]
    refine wpAnyH_take (i := 16) (v := .bool true) rfl (by kernel_rfl) (by kernel_rfl) (by kernel_rfl) (fun _ _ _ h => h) (Or.inl ⟨by rfl, fun wx _ => by simp [go_sem]⟩) hS ?_
    simp only [Act.put, List.getElem_toArray, List.getElem_cons_succ, List.getElem_cons_zero, List.setIfInBounds_toArray, List.set_cons_zero, List.set_cons_succ]
    refine wpAnyH_take (i := 17) (v := .pointer (some ⟨w.heap.size + 1, 1, none⟩)) rfl (by kernel_rfl) (by kernel_rfl) (by kernel_rfl) (fun _ _ _ h => h) (Or.inl ⟨by rfl, fun wx _ => by simp [go_sem]⟩) hS ?_
    simp only [Act.put, List.getElem_toArray, List.getElem_cons_succ, List.getElem_cons_zero, List.setIfInBounds_toArray, List.set_cons_zero, List.set_cons_succ]
    refine wpAnyH_take (i := 18) (v := .slice ad ky.length cp) rfl (by kernel_rfl) (by kernel_rfl) (by kernel_rfl) (fun _ _ _ h => h) (Or.inl ⟨by rfl, fun wx hx => by (have hc := below_cell hx c11; simp [go_sem, hc])⟩) hS ?_
    simp only [Act.put, List.getElem_toArray, List.getElem_cons_succ, List.getElem_cons_zero, List.setIfInBounds_toArray, List.set_cons_zero, List.set_cons_succ]
    refine wpAnyH_take (i := 19) (v := .pointer (some ⟨w.heap.size + 1, 0, none⟩)) rfl (by kernel_rfl) (by kernel_rfl) (by kernel_rfl) (fun _ _ _ h => h) (Or.inl ⟨by rfl, fun wx _ => by simp [go_sem]⟩) hS ?_
    simp only [Act.put, List.getElem_toArray, List.getElem_cons_succ, List.getElem_cons_zero, List.setIfInBounds_toArray, List.set_cons_zero, List.set_cons_succ]
    refine wpAnyH_take (i := 20) (v := .string (strB nm)) rfl (by kernel_rfl) (by kernel_rfl) (by kernel_rfl) (fun _ _ _ h => h) (Or.inl ⟨by rfl, fun wx hx => by (have hc := below_cell hx c10; simp [go_sem, hc])⟩) hS ?_
    simp only [Act.put, List.getElem_toArray, List.getElem_cons_succ, List.getElem_cons_zero, List.setIfInBounds_toArray, List.set_cons_zero, List.set_cons_succ]
    refine wpAnyH_take (i := 21) (v := .pointer (some ⟨w.heap.size + 1, 2, none⟩)) rfl (by kernel_rfl) (by kernel_rfl) (by kernel_rfl) (fun _ _ _ h => h) (Or.inl ⟨by rfl, fun wx _ => by simp [go_sem]⟩) hS ?_
    simp only [Act.put, List.getElem_toArray, List.getElem_cons_succ, List.getElem_cons_zero, List.setIfInBounds_toArray, List.set_cons_zero, List.set_cons_succ]
    refine wpAnyH_take (i := 22) (v := .int .u64 (sr : Int)) rfl (by kernel_rfl) (by kernel_rfl) (by kernel_rfl) (fun _ _ _ h => h) (Or.inl ⟨by rfl, fun wx hx => by (have hc := below_cell hx c12; simp [go_sem, hc])⟩) hS ?_
    simp only [Act.put, List.getElem_toArray, List.getElem_cons_succ, List.getElem_cons_zero, List.setIfInBounds_toArray, List.set_cons_zero, List.set_cons_succ]
    refine wpAnyH_take (i := 23) (v := .pointer (some ⟨w.heap.size + 1, 1, none⟩)) rfl (by kernel_rfl) (by kernel_rfl) (by kernel_rfl) (fun _ _ _ h => h) (Or.inl ⟨by rfl, fun wx _ => by simp [go_sem]⟩) hS ?_
    simp only [Act.put, List.getElem_toArray, List.getElem_cons_succ, List.getElem_cons_zero, List.setIfInBounds_toArray, List.set_cons_zero, List.set_cons_succ]
    refine wpAnyH_take (i := 24) (v := .slice ad ky.length cp) rfl (by kernel_rfl) (by kernel_rfl) (by kernel_rfl) (fun _ _ _ h => h) (Or.inl ⟨by rfl, fun wx hx => by (have hc := below_cell hx c11; simp [go_sem, hc])⟩) hS ?_
    simp only [Act.put, List.getElem_toArray, List.getElem_cons_succ, List.getElem_cons_zero, List.setIfInBounds_toArray, List.set_cons_zero, List.set_cons_succ]
    refine wpAnyH_take (i := 26) (v := .pointer (some ⟨w.heap.size + 1, 1, none⟩)) rfl (by kernel_rfl) (by kernel_rfl) (by kernel_rfl) (fun _ _ _ h => h) (Or.inl ⟨by rfl, fun wx _ => by simp [go_sem]⟩) hS ?_
    simp only [Act.put, List.getElem_toArray, List.getElem_cons_succ, List.getElem_cons_zero, List.setIfInBounds_toArray, List.set_cons_zero, List.set_cons_succ]
    refine wpAnyH_take (i := 27) (v := .slice ad ky.length cp) rfl (by kernel_rfl) (by kernel_rfl) (by kernel_rfl) (fun _ _ _ h => h) (Or.inl ⟨by rfl, fun wx hx => by (have hc := below_cell hx c11; simp [go_sem, hc])⟩) hS ?_
    simp only [Act.put, List.getElem_toArray, List.getElem_cons_succ, List.getElem_cons_zero, List.setIfInBounds_toArray, List.set_cons_zero, List.set_cons_succ]
    refine wpAnyH_take (i := 28) (v := .pointer (some ⟨w.heap.size + 1, 0, none⟩)) rfl (by kernel_rfl) (by kernel_rfl) (by kernel_rfl) (fun _ _ _ h => h) (Or.inl ⟨by rfl, fun wx _ => by simp [go_sem]⟩) hS ?_
    simp only [Act.put, List.getElem_toArray, List.getElem_cons_succ, List.getElem_cons_zero, List.setIfInBounds_toArray, List.set_cons_zero, List.set_cons_succ]
    refine wpAnyH_take (i := 29) (v := .string (strB nm)) rfl (by kernel_rfl) (by kernel_rfl) (by kernel_rfl) (fun _ _ _ h => h) (Or.inl ⟨by rfl, fun wx hx => by (have hc := below_cell hx c10; simp [go_sem, hc])⟩) hS ?_
    simp only [Act.put, List.getElem_toArray, List.getElem_cons_succ, List.getElem_cons_zero, List.setIfInBounds_toArray, List.set_cons_zero, List.set_cons_succ]
    refine wpAnyH_take (i := 30) (v := .pointer (some ⟨w.heap.size + 1, 2, none⟩)) rfl (by kernel_rfl) (by kernel_rfl) (by kernel_rfl) (fun _ _ _ h => h) (Or.inl ⟨by rfl, fun wx _ => by simp [go_sem]⟩) hS ?_
    simp only [Act.put, List.getElem_toArray, List.getElem_cons_succ, List.getElem_cons_zero, List.setIfInBounds_toArray, List.set_cons_zero, List.set_cons_succ]
    refine wpAnyH_take (i := 31) (v := .int .u64 (sr : Int)) rfl (by kernel_rfl) (by kernel_rfl) (by kernel_rfl) (fun _ _ _ h => h) (Or.inl ⟨by rfl, fun wx hx => by (have hc := below_cell hx c12; simp [go_sem, hc])⟩) hS ?_
    simp only [Act.put, List.getElem_toArray, List.getElem_cons_succ, List.getElem_cons_zero, List.setIfInBounds_toArray, List.set_cons_zero, List.set_cons_succ]
    refine wpAnyH_take (i := 32) (v := .pointer (some ⟨w.heap.size + 1, 1, none⟩)) rfl (by kernel_rfl) (by kernel_rfl) (by kernel_rfl) (fun _ _ _ h => h) (Or.inl ⟨by rfl, fun wx _ => by simp [go_sem]⟩) hS ?_
    simp only [Act.put, List.getElem_toArray, List.getElem_cons_succ, List.getElem_cons_zero, List.setIfInBounds_toArray, List.set_cons_zero, List.set_cons_succ]
    refine wpAnyH_take (i := 33) (v := .slice ad ky.length cp) rfl (by kernel_rfl) (by kernel_rfl) (by kernel_rfl) (fun _ _ _ h => h) (Or.inl ⟨by rfl, fun wx hx => by (have hc := below_cell hx c11; simp [go_sem, hc])⟩) hS ?_
    simp only [Act.put, List.getElem_toArray, List.getElem_cons_succ, List.getElem_cons_zero, List.setIfInBounds_toArray, List.set_cons_zero, List.set_cons_succ]
    refine wpAnyH_enter 25 (by kernel_rfl) rfl (by rfl) (f := 27) (args := #[.slice ad ky.length cp, .string (strB nm), .int .u64 (sr : Int), .slice ad ky.length cp]) (by simp [go_sem]) (tAuth_any ky nm ky _ _ sr _ (HK.out.below (hS.after HB1.out) HK.out.lt) (rk.below hS) (rk.below hS) (by have := HF.out; have := HX.out; omega)) ?_
    rintro e w8 ⟨rfl, hbA⟩
    have hS7 : Over wb w8 := hS.more hbA
    refine ⟨_, rfl, hS7, ?_⟩
    clear hS
    have hS := hS7
    clear hS7
    simp only [Act.put, List.getElem_toArray, List.getElem_cons_succ, List.getElem_cons_zero, List.setIfInBounds_toArray, List.set_cons_zero, List.set_cons_succ]
    clear hbA
    refine wpAnyH_enter 34 (by kernel_rfl) rfl (by rfl) (f := 28) (args := #[.slice ad ky.length cp, .string (strB nm), .int .u64 (sr : Int), .slice ad ky.length cp]) (by simp [go_sem]) (rAuth_any ky nm ky _ _ sr _ (rk.below hS) (rk.below hS) (by have := HF.out; have := HX.out; omega)) ?_
    rintro e w9 ⟨rfl, hbA⟩
    have hS8 : Over wb w9 := hS.more hbA
    refine ⟨_, rfl, hS8, ?_⟩
    clear hS
    have hS := hS8
    clear hS8
    simp only [Act.put, List.getElem_toArray, List.getElem_cons_succ, List.getElem_cons_zero, List.setIfInBounds_toArray, List.set_cons_zero, List.set_cons_succ]
    clear hbA
    refine wpAnyH_take (i := 35) (v := .bool true) rfl (by kernel_rfl) (by kernel_rfl) (by kernel_rfl) (fun _ _ _ h => h) (Or.inl ⟨by rfl, fun wx _ => by (have heq := fun wx => eq_dig_same (hmac ky (authB nm sr ky)) (len_hmac _ _) wx; simp [go_sem, heq])⟩) hS ?_
    simp only [Act.put, List.getElem_toArray, List.getElem_cons_succ, List.getElem_cons_zero, List.setIfInBounds_toArray, List.set_cons_zero, List.set_cons_succ]
    refine wpAnyH_take (i := 36) (v := .bool true) rfl (by kernel_rfl) (by kernel_rfl) (by kernel_rfl) (fun _ _ _ h => h) (Or.inl ⟨by rfl, fun wx _ => by simp [go_sem]⟩) hS ?_
    simp only [Act.put, List.getElem_toArray, List.getElem_cons_succ, List.getElem_cons_zero, List.setIfInBounds_toArray, List.set_cons_zero, List.set_cons_succ]
    refine wpAnyH_take (i := 37) (v := .bool true) rfl (by kernel_rfl) (by kernel_rfl) (by kernel_rfl) (fun _ _ _ h => h) (Or.inl ⟨by rfl, fun wx _ => by simp [go_sem]⟩) hS ?_
    simp only [Act.put, List.getElem_toArray, List.getElem_cons_succ, List.getElem_cons_zero, List.setIfInBounds_toArray, List.set_cons_zero, List.set_cons_succ]
    refine wpAnyH_enter 38 (by kernel_rfl) rfl (by rfl) (f := 9) (args := #[]) (by simp [go_sem]) (tworks_any _ (HK.out.below (hS.after HB1.out) HK.out.lt)) ?_
    rintro e w10 ⟨rfl, hbA⟩
    have hS9 : Over wb w10 := hS.more hbA
    refine ⟨_, rfl, hS9, ?_⟩
    clear hS
    have hS := hS9
    clear hS9
    simp only [Act.put, List.getElem_toArray, List.getElem_cons_succ, List.getElem_cons_zero, List.setIfInBounds_toArray, List.set_cons_zero, List.set_cons_succ]
    clear hbA
    refine wpAnyH_take (i := 39) (v := .bool true) rfl (by kernel_rfl) (by kernel_rfl) (by kernel_rfl) (fun _ _ _ h => h) (Or.inl ⟨by rfl, fun wx _ => by simp [go_sem]⟩) hS ?_
    simp only [Act.put, List.getElem_toArray, List.getElem_cons_succ, List.getElem_cons_zero, List.setIfInBounds_toArray, List.set_cons_zero, List.set_cons_succ]
    refine wpAnyH_take (i := 40) (v := .bool true) rfl (by kernel_rfl) (by kernel_rfl) (by kernel_rfl) (fun _ _ _ h => h) (Or.inl ⟨by rfl, fun wx _ => by simp [go_sem]⟩) hS ?_
    simp only [Act.put, List.getElem_toArray, List.getElem_cons_succ, List.getElem_cons_zero, List.setIfInBounds_toArray, List.set_cons_zero, List.set_cons_succ]
    refine wpAnyH_done (by kernel_rfl) ?_ _
    have HBF : Hid (Below w.heap.size w w10) := hS.after HB1.out
    clear hS b0 b1 rk
    go_wp2
    go_ret
    exact ⟨rfl, HBF.out⟩
  · clear hx hp hs
    go_enter Tryd.func4, Tryd.ntmps4
    go_wp2_with fail
    have hB0 : Below w.heap.size w ((w.alloc (.cells (cb x).toArray 23)).alloc (.cells #[.string (strB nm), .slice ad ky.length cp, .int .u64 (sr : Int)] 27)) := ((below_alloc _ _).trans ((below_alloc _ _).mono (by simp <;> omega)))
    generalize ((w.alloc (.cells (cb x).toArray 23)).alloc (.cells #[.string (strB nm), .slice ad ky.length cp, .int .u64 (sr : Int)] 27)) = w0 at *
    refine (few_any nm ad ky.length cp sr _).mono ?_
    rintro e wf ⟨rfl, bf⟩
    rw [decide_eq_false hfew]
    have HB1 : Hid (Below w.heap.size w wf) := hB0.trans (bf.mono hB0.size)
    clear hB0 bf hfew HV
    go_wp2_with (go_at_call 9; refine (tworks_any _ (HK.out.below HB1.out HK.out.lt)).mono ?_; rintro e w4 ⟨rfl, hb4⟩)
    go_ret
    exact ⟨rfl, HB1.out.trans (hb4.mono HB1.out.size)⟩
end Go.Proofs.YtaleeaocmomjlaaDoor

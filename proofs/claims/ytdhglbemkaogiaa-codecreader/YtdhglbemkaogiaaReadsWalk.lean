/- The walks of the statements CodecReads and CodecOne. -/
import Derived.Test.YtdhglbemkaogiaaCWorks
namespace Go.Proofs.Ytdhglbemkaogiaa
open Go.RowKit
def errOf {α : Type} (o : Option α) : Int := if o.isSome then 0 else 3
theorem readsN_nil (w : World) : ReadsN w (.slice none 0 0) [] := ⟨none, 0, rfl, Nat.le_refl _, fun _ => rfl, fun h => by simp at h⟩
theorem readsL_nil (w : World) : ReadsL w (.slice none 0 0) [] := ⟨none, 0, rfl, Nat.le_refl _, fun _ => rfl, fun h => by simp at h⟩
theorem ListRead.n {o : Option (List Nat)} {w : World} {e : Ending} {w' : World} (h : ListRead 23 GoodN o w e w') : ∃ v, e = .returned (.tuple #[v, .int .i64 (errOf o)]) ∧ ReadsN w' v (o.getD []) ∧ Below w.heap.size w w' := by
  rcases h with ⟨xs, v, vs, rfl, rfl, h2, h3, h4⟩ | ⟨rfl, rfl, h2⟩
  · exact ⟨v, rfl, h2.readsN h3, h4⟩
  · exact ⟨_, rfl, readsN_nil _, h2⟩
theorem ListRead.t {o : Option (List (List (BitVec 8)))} {w : World} {e : Ending} {w' : World} (h : ListRead 22 GoodT o w e w') : ∃ v, e = .returned (.tuple #[v, .int .i64 (errOf o)]) ∧ ReadsL w' v (o.getD []) ∧ Below w.heap.size w w' := by
  rcases h with ⟨xs, v, vs, rfl, rfl, h2, h3, h4⟩ | ⟨rfl, rfl, h2⟩
  · exact ⟨v, rfl, h2.readsL h3, h4⟩
  · exact ⟨_, rfl, readsL_nil _, h2⟩
theorem readNums_len (b : List (BitVec 8)) : ((readList readNum b).getD []).length ≤ 4096 := by
  cases h : readList readNum b with
  | none => simp
  | some l => exact ((readList_iff readNum_ok b l).1 h).1
theorem readTexts_len (b : List (BitVec 8)) : ((readList readText b).getD []).length ≤ 4096 := by
  cases h : readList readText b with
  | none => simp
  | some l => exact ((readList_iff readText_ok b l).1 h).1
theorem drew_below (w : World) (q : Nat) : Below w.heap.size w (w.drewN q) := ⟨rfl, rfl, rfl, Nat.le_refl _, fun _ _ => rfl⟩
set_option maxRecDepth 100000 in
set_option maxHeartbeats 1000000 in
theorem reads_law (vb : Value) (bs : List (BitVec 8)) (w : World) (hb : Reads w vb bs) (hl : bs.length ≤ 9223372036854775807) :
    Calls Try.prog 4 #[vb] w fun e w' => e = .returned (.bool true) ∧ Below w.heap.size w w' := by
  have HB : Hid (Reads w vb bs) := hb
  have HL : Hid (bs.length ≤ 9223372036854775807) := hl
  obtain ⟨en, HEN⟩ : ∃ x, Hid (x = errOf (readList readNum bs)) := ⟨_, rfl⟩
  obtain ⟨et, HET⟩ : ∃ x, Hid (x = errOf (readList readText bs)) := ⟨_, rfl⟩
  clear hb hl
  go_enter Try.func4, Try.ntmps4
  go_wp2_with fail
  refine (creadN_any vb bs w HB.out).mono ?_
  intro e w1 hD
  obtain ⟨v1, rfl, r1, b1⟩ := hD.n
  rw [← HEN.out]
  have HB1 : Hid (Below w.heap.size w w1) := b1
  have HR1 : Hid (ReadsN w1 v1 ((readList readNum bs).getD [])) := r1
  clear hD r1 b1
  go_wp2_with fail
  refine (qreadN_any vb bs w1 (HB.out.below HB1.out) HL.out).mono ?_
  intro e w2 hD
  obtain ⟨v2, rfl, r2, b2⟩ := hD.n
  rw [← HEN.out]
  have HB2 : Hid (Below w.heap.size w w2) := HB1.out.trans (b2.mono HB1.out.size)
  have HR12 : Hid (ReadsN w2 v1 ((readList readNum bs).getD [])) := HR1.out.below b2
  have HR2 : Hid (ReadsN w2 v2 ((readList readNum bs).getD [])) := r2
  clear hD r2 b2 HR1 HB1
  go_wp2_with fail
  refine (creadT_any vb bs w2 (HB.out.below HB2.out)).mono ?_
  intro e w3 hD
  obtain ⟨v3, rfl, r3, b3⟩ := hD.t
  rw [← HET.out]
  have HB3 : Hid (Below w.heap.size w w3) := HB2.out.trans (b3.mono HB2.out.size)
  have HR13 : Hid (ReadsN w3 v1 ((readList readNum bs).getD [])) := HR12.out.below b3
  have HR23 : Hid (ReadsN w3 v2 ((readList readNum bs).getD [])) := HR2.out.below b3
  have HR3 : Hid (ReadsL w3 v3 ((readList readText bs).getD [])) := r3
  clear hD r3 b3 HR12 HR2 HB2
  go_wp2_with fail
  refine (qreadT_any vb bs w3 (HB.out.below HB3.out) HL.out).mono ?_
  intro e w4 hD
  obtain ⟨v4, rfl, r4, b4⟩ := hD.t
  rw [← HET.out]
  have HB4 : Hid (Below w.heap.size w w4) := HB3.out.trans (b4.mono HB3.out.size)
  have HR14 : Hid (ReadsN w4 v1 ((readList readNum bs).getD [])) := HR13.out.below b4
  have HR24 : Hid (ReadsN w4 v2 ((readList readNum bs).getD [])) := HR23.out.below b4
  have HR34 : Hid (ReadsL w4 v3 ((readList readText bs).getD [])) := HR3.out.below b4
  have HR4 : Hid (ReadsL w4 v4 ((readList readText bs).getD [])) := r4
  clear hD r4 b4 HR13 HR23 HR3 HB3
  go_wp2_with fail
  refine (samenums_any v1 v2 _ _ w4 HR14.out HR24.out (Nat.lt_of_le_of_lt (readNums_len bs) (by omega))).mono ?_
  rintro e w5 ⟨rfl, q, hq⟩
  have HB5 : Hid (Below w.heap.size w w5) := by rw [hq]; exact HB4.out.trans ((drew_below w4 q).mono HB4.out.size)
  have HR35 : Hid (ReadsL w5 v3 ((readList readText bs).getD [])) := by rw [hq]; exact HR34.out
  have HR45 : Hid (ReadsL w5 v4 ((readList readText bs).getD [])) := by rw [hq]; exact HR4.out
  simp only [decide_true]
  clear hq HR14 HR24 HR34 HR4 HB4
  go_wp2_with fail
  refine (sametexts_any v3 v4 _ _ w5 HR35.out HR45.out (Nat.lt_of_le_of_lt (readTexts_len bs) (by omega))).mono ?_
  rintro e w6 ⟨rfl, q2, hq⟩
  have HB6 : Hid (Below w.heap.size w w6) := by rw [hq]; exact HB5.out.trans ((drew_below w5 q2).mono HB5.out.size)
  simp only [decide_true]
  clear hq HR35 HR45 HB5
  go_wp2_with fail
  refine (cworks_any w6).mono ?_
  rintro e w7 ⟨rfl, b7⟩
  have hB := HB6.out.trans (b7.mono HB6.out.size)
  go_wp2
  go_ret
  exact ⟨rfl, hB⟩
theorem flat_bound (ls : List (List (BitVec 8))) (c : Nat) (h : ∀ t ∈ ls, t.length ≤ c) : ls.flatten.length ≤ c * ls.length := by
  induction ls with
  | nil => simp
  | cons t r ih =>
    rw [List.flatten_cons, List.length_append, List.length_cons, Nat.mul_add, Nat.mul_one]
    have h1 := h t (by simp)
    have h2 := ih (fun u hu => h u (by simp [hu]))
    omega
set_option maxRecDepth 100000 in
set_option maxHeartbeats 1000000 in
theorem one_law (vb : Value) (bs : List (BitVec 8)) (w : World) (hb : Reads w vb bs) :
    Calls Try.prog 7 #[vb] w fun e w' => e = .returned (.bool true) ∧ Below w.heap.size w w' := by
  have HB : Hid (Reads w vb bs) := hb
  have hnot : ∀ (x : Bool) (w : World), (Op.unary .not (.bool x)).run Try.prog w = .ok (.bool (!x)) w := fun _ _ => rfl
  clear hb
  go_enter Try.func7, Try.ntmps7
  go_wp2_with fail
  refine (creadN_any vb bs w HB.out).mono ?_
  intro e w1 hD
  obtain ⟨v1, rfl, r1, b1⟩ := hD.n
  have HB1 : Hid (Below w.heap.size w w1) := b1
  have HR1 : Hid (ReadsN w1 v1 ((readList readNum bs).getD [])) := r1
  clear hD r1 b1
  cases h1 : readList readNum bs with
  | none =>
    rw [show errOf (none : Option (List Nat)) = 3 from rfl]
    clear HR1 h1
    go_wp2_with fail
    refine (creadT_any vb bs w1 (HB.out.below HB1.out)).mono ?_
    intro e w4 hD
    obtain ⟨v4, rfl, r4, b4⟩ := hD.t
    have HB4 : Hid (Below w.heap.size w w4) := HB1.out.trans (b4.mono HB1.out.size)
    have HR4 : Hid (ReadsL w4 v4 ((readList readText bs).getD [])) := r4
    clear hD r4 b4
    cases h2 : readList readText bs with
    | none =>
      rw [show errOf (none : Option (List (List (BitVec 8)))) = 3 from rfl]
      clear HR4
      go_wp2_with fail
      refine (cworks_any w4).mono ?_
      rintro e w9 ⟨rfl, b9⟩
      have hB := HB4.out.trans (b9.mono HB4.out.size)
      go_wp2
      go_ret
      exact ⟨rfl, hB⟩
    | some ys =>
      rw [show errOf (some ys) = 0 from rfl]
      rw [h2] at HR4
      obtain ⟨k1, k2, k3⟩ := (readList_iff readText_ok bs ys).1 h2
      have HQ : Hid (encList encText ys = bs) := k3.symm
      have HLN : Hid (ys.flatten.length + 10 * ys.length + 40 ≤ 140737488355328) := by
        have h5 := flat_bound ys 1048576 k2
        have h6 : 1048576 * ys.length ≤ 1048576 * 4096 := Nat.mul_le_mul_left _ k1
        show _ ≤ _
        omega
      clear k1 k2 k3 h2
      go_wp2_with fail
      refine (ctexts_any v4 ys w4 HR4.out HLN.out).mono ?_
      rintro e w5 ⟨v5, rfl, ho5, b5⟩
      rw [HQ.out] at ho5
      have HB5 : Hid (Below w.heap.size w w5) := HB4.out.trans (b5.mono HB4.out.size)
      have HR5 : Hid (Reads w5 v5 bs) := ho5.reads
      clear ho5 b5 HR4
      go_wp2_with fail
      refine (same_any v5 vb bs bs w5 HR5.out (HB.out.below HB5.out)).mono ?_
      rintro e w6 ⟨rfl, rfl⟩
      simp only [decide_true]
      go_wp2_with fail
      refine (cworks_any w6).mono ?_
      rintro e w9 ⟨rfl, b9⟩
      have hB := HB5.out.trans (b9.mono HB5.out.size)
      go_wp2
      go_ret
      exact ⟨rfl, hB⟩
  | some xs =>
    rw [show errOf (some xs) = 0 from rfl]
    rw [h1] at HR1
    obtain ⟨k1, k2, k3⟩ := (readList_iff readNum_ok bs xs).1 h1
    have HQ1 : Hid (encList encNum xs = bs) := k3.symm
    have HN1 : Hid (xs.length ≤ 4096 ∧ ∀ n ∈ xs, n < 18446744073709551616) := ⟨k1, k2⟩
    clear k1 k2 k3 h1
    go_wp2_with fail
    refine (cnums_any v1 xs w1 HR1.out HN1.out.2 (by have := HN1.out.1; omega)).mono ?_
    rintro e w2 ⟨v2, rfl, ho2, b2⟩
    rw [HQ1.out] at ho2
    have HB2 : Hid (Below w.heap.size w w2) := HB1.out.trans (b2.mono HB1.out.size)
    have HR2 : Hid (Reads w2 v2 bs) := ho2.reads
    clear ho2 b2 HR1
    go_wp2_with fail
    refine (same_any v2 vb bs bs w2 HR2.out (HB.out.below HB2.out)).mono ?_
    rintro e w3 ⟨rfl, rfl⟩
    simp only [decide_true]
    go_wp2_with fail
    refine (creadT_any vb bs w3 (HB.out.below HB2.out)).mono ?_
    intro e w4 hD
    obtain ⟨v4, rfl, r4, b4⟩ := hD.t
    have HB4 : Hid (Below w.heap.size w w4) := HB2.out.trans (b4.mono HB2.out.size)
    have HR4 : Hid (ReadsL w4 v4 ((readList readText bs).getD [])) := r4
    clear hD r4 b4
    cases h2 : readList readText bs with
    | none =>
      rw [show errOf (none : Option (List (List (BitVec 8)))) = 3 from rfl]
      clear HR4
      go_wp2_with fail
      refine (cworks_any w4).mono ?_
      rintro e w9 ⟨rfl, b9⟩
      have hB := HB4.out.trans (b9.mono HB4.out.size)
      go_wp2
      go_ret
      exact ⟨rfl, hB⟩
    | some ys =>
      rw [show errOf (some ys) = 0 from rfl]
      rw [h2] at HR4
      obtain ⟨k1, k2, k3⟩ := (readList_iff readText_ok bs ys).1 h2
      have HQ : Hid (encList encText ys = bs) := k3.symm
      have HLN : Hid (ys.flatten.length + 10 * ys.length + 40 ≤ 140737488355328) := by
        have h5 := flat_bound ys 1048576 k2
        have h6 : 1048576 * ys.length ≤ 1048576 * 4096 := Nat.mul_le_mul_left _ k1
        show _ ≤ _
        omega
      clear k1 k2 k3 h2
      go_wp2_with fail
      refine (ctexts_any v4 ys w4 HR4.out HLN.out).mono ?_
      rintro e w5 ⟨v5, rfl, ho5, b5⟩
      rw [HQ.out] at ho5
      have HB5 : Hid (Below w.heap.size w w5) := HB4.out.trans (b5.mono HB4.out.size)
      have HR5 : Hid (Reads w5 v5 bs) := ho5.reads
      clear ho5 b5 HR4
      go_wp2_with fail
      refine (same_any v5 vb bs bs w5 HR5.out (HB.out.below HB5.out)).mono ?_
      rintro e w6 ⟨rfl, rfl⟩
      simp only [decide_true]
      go_wp2_with fail
      refine (cworks_any w6).mono ?_
      rintro e w9 ⟨rfl, b9⟩
      have hB := HB5.out.trans (b9.mono HB5.out.size)
      go_wp2
      go_ret
      exact ⟨rfl, hB⟩
end Go.Proofs.Ytdhglbemkaogiaa

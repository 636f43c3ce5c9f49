/- The walk of the statement ShaLengths. -/
import Derived.Test.YtngcdfhmgjmhkaaDoorRSum
import Derived.Test.YtngcdfhmgjmhkaaDoorMakeN
import Derived.Test.YtngcdfhmgjmhkaaDoorWorks
import Derived.Test.YtngcdfhmgjmhkaaDoorSumsWalk
namespace Go.Proofs.YtngcdfhmgjmhkaaDoor
open Go.RowKit
def fillN (c : BitVec 8) (k j : Nat) : List (BitVec 8) := List.replicate j c ++ List.replicate (k - j) 0
theorem len_fillN (c : BitVec 8) (k j : Nat) (h : j ≤ k) : (fillN c k j).length = k := by simp [fillN]; omega
theorem fillN_set (c : BitVec 8) (k j : Nat) (h : j < k) : (fillN c k j).set j c = fillN c k (j + 1) := by
  unfold fillN
  rw [List.set_append_right _ _ (by simp), show k - j = (k - (j + 1)) + 1 by omega, List.replicate_succ]
  simp [List.replicate_succ']
set_option maxHeartbeats 400000 in
theorem lengths_any (n : Nat) (c : BitVec 8) (w : World) (hK : KOk w) :
    Calls Tryd.prog 7 #[.int .u16 (n : Int), .int .u8 (c.toNat : Int)] w fun e w' => e = .returned (.bool true) ∧ Below w.heap.size w w' := by
  have HK : Hid (KOk w) := hK
  clear hK
  have hm : (n : Int).tmod 700 = ((n % 700 : Nat) : Int) := by rw [Int.tmod_eq_emod_of_nonneg (by omega)]; omega
  have hk : n % 700 < 700 := Nat.mod_lt _ (by omega)
  generalize n % 700 = k at *
  have hmk := fun wx => make_n .u16 k (by omega) wx
  go_enter Tryd.func7, Tryd.ntmps7
  go_wp2
  go_loopw [6] (fun i wr => ∃ j : Nat, j ≤ k ∧ i = .int .i64 j ∧ Blk wr w.heap.size (cb (fillN c k j)) 5 ∧ Below w.heap.size w wr) (fun i _ => k - (intOf i).toNat)
  case atStart => exact ⟨0, by omega, rfl, by have := Blk.new w (cb (List.replicate k 0)) 5; simpa [fillN] using this, (Below.refl _ _).alloc (Nat.le_refl _) _⟩
  case round =>
    clear hmk
    obtain ⟨j, hj, rfl, hB, hbel⟩ := hrel
    by_cases hlt : j < k
    · obtain ⟨o, cT⟩ : ∃ o, wr.cell? ⟨w.heap.size, j, none⟩ = some o := ⟨_, by rw [hB.cell, cb_get _ _ (by rw [len_fillN c k j hj]; omega)]⟩
      have fT : wr.frozen? ⟨w.heap.size, j, none⟩ = false := hB.frozen _
      have HB : Hid (Blk wr w.heap.size (cb (fillN c k j)) 5) := hB
      clear hB
      go_wp2
      go_roundw
      case rel =>
        refine ⟨j + 1, by omega, by go_num, ?_, hbel.setCell (Nat.le_refl _) _⟩
        have h := HB.out.set j (.int .u8 (c.toNat : Int))
        rw [cb_set, fillN_set c k j hlt] at h
        exact h
      case measure => simp [intOf]; omega
    · have hjk : j = k := by omega
      subst hjk
      have hl := len_fillN c j j (Nat.le_refl _)
      have HR : Hid (Reads wr (.slice (some ⟨w.heap.size, 0, none⟩) j j) (fillN c j j)) := hB.reads hl.symm (by omega)
      have HL : Hid ((fillN c j j).length = j) := hl
      clear hB hl
      generalize fillN c j j = bs at *
      have HK1 : Hid (KOk wr) := HK.out.below hbel HK.out.lt
      go_wp2_with fail
      refine (sum_any _ bs _ HK1.out HR.out (by have := HL.out; omega)).mono ?_
      rintro e w3 ⟨rfl, hb3⟩
      have HR3 : Hid (Reads w3 (.slice (some ⟨w.heap.size, 0, none⟩) j j) bs) := HR.out.below hb3
      have HB3 : Hid (Below w.heap.size w w3) := hbel.trans (hb3.mono hbel.size)
      clear hb3 hbel HR
      go_wp2_with fail
      refine (rsum_any _ bs _ HR3.out (by have := HL.out; omega)).mono ?_
      rintro e w4 ⟨rfl, hb4⟩
      have HB4 : Hid (Below w.heap.size w w4) := HB3.out.trans (hb4.mono HB3.out.size)
      clear hb4 HB3 HR3
      have heq := fun wx => eq_dig_same (dig bs) (len_dig bs) wx
      generalize dig bs = dd at *
      go_wp2_with (first
        | (go_at_call 10; refine (works_any _ (HK.out.below HB4.out HK.out.lt)).mono ?_; rintro e w6 ⟨rfl, hb6⟩))
      go_ret
      exact ⟨rfl, HB4.out.trans (hb6.mono HB4.out.size)⟩
end Go.Proofs.YtngcdfhmgjmhkaaDoor

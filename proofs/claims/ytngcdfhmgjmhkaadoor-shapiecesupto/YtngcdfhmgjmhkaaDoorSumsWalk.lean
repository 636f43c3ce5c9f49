/- The walk of the statement ShaSums. -/
import Derived.Test.YtngcdfhmgjmhkaaDoorRSum
import Derived.Test.YtngcdfhmgjmhkaaDoorLong
import Derived.Test.YtngcdfhmgjmhkaaDoorWorks
namespace Go.Proofs.YtngcdfhmgjmhkaaDoor
open Go.RowKit
theorem len_dig (bs : List (BitVec 8)) : (dig bs).length = 32 := by unfold dig; exact len_outB _ _
theorem OwnB.new0 (w : World) : OwnB (w.alloc (.cells #[] 5)) w.heap.size (.slice (some ⟨w.heap.size, 0, none⟩) 0 0) [] :=
  ⟨rfl, Or.inr ⟨w.heap.size, 0, #[], rfl, Nat.le_refl _, heap_alloc_new w _, Nat.le_refl _, by unfold maxLen; omega, rfl, rfl⟩⟩
set_option maxHeartbeats 400000 in
theorem sums_any (v : Value) (bs : List (BitVec 8)) (w : World) (hK : KOk w) (hR : Reads w v bs) :
    Calls Tryd.prog 3 #[v] w fun e w' => e = .returned (.bool true) ∧ Below w.heap.size w w' := by
  have HK : Hid (KOk w) := hK
  have HR : Hid (Reads w v bs) := hR
  clear hK hR
  by_cases hl : 65536 < bs.length
  · go_enter Tryd.func3, Tryd.ntmps3
    go_wp2_with (first
      | (go_at_call 9; refine (long_any _ bs _ HR.out).mono ?_; rintro e w1 ⟨rfl, rfl⟩; simp only [hl, decide_true])
      | (go_at_call 10; refine (works_any _ HK.out).mono ?_; rintro e w4 ⟨rfl, hb4⟩))
    go_ret
    exact ⟨rfl, hb4⟩
  · go_enter Tryd.func3, Tryd.ntmps3
    go_wp2_with (first
      | (go_at_call 9; refine (long_any _ bs _ HR.out).mono ?_; rintro e w1 ⟨rfl, rfl⟩; simp only [hl, decide_false])
      | (at_builtin; refine wpList_appendB rfl (.tmp 7) (.tmp 8) rfl w1.heap.size _ [] rfl (OwnB.new0 _) _ bs rfl (HR.out.below ((Below.refl _ _).alloc (Nat.le_refl _) _)) (by simp; omega) (by simp) ?_; intro v2 w2 hown2 hb2 _; refine Hid.out ?_))
    have HB2 : Hid (Below w1.heap.size w1 w2) := ((Below.refl _ _).alloc (Nat.le_refl _) _).trans hb2
    have HO2 : Hid (Reads w2 v2 bs) := by show Reads _ _ _; have := hown2.reads; simpa using this
    clear hown2 hb2
    unfold Hid
    go_wp2_with fail
    refine (sum_any _ bs _ (HK.out.below HB2.out HK.out.lt) HO2.out (by omega)).mono ?_
    rintro e w3 ⟨rfl, hb3⟩
    have HB3 : Hid (Below w1.heap.size w1 w3) := HB2.out.trans (hb3.mono HB2.out.size)
    have HO3 : Hid (Reads w3 v2 bs) := HO2.out.below hb3
    clear hb3 HB2 HO2
    have HR3 : Hid (Reads w3 v bs) := HR.out.below HB3.out
    go_wp2_with fail
    refine (rsum_any _ bs _ HR3.out (by omega)).mono ?_
    rintro e w4 ⟨rfl, hb4⟩
    have HB4 : Hid (Below w1.heap.size w1 w4) := HB3.out.trans (hb4.mono HB3.out.size)
    have HO4 : Hid (Reads w4 v2 bs) := HO3.out.below hb4
    have HR4 : Hid (Reads w4 v bs) := HR3.out.below hb4
    clear hb4 HB3 HO3 HR3
    have heq := fun wx => eq_dig_same (dig bs) (len_dig bs) wx
    generalize dig bs = dd at *
    go_wp2_with (first
      | (go_at_call 13; refine (same_any _ _ _ _ _ HO4.out HR4.out).mono ?_; rintro e w5 ⟨rfl, rfl⟩; simp only [decide_true])
      | (go_at_call 10; refine (works_any _ (HK.out.below HB4.out HK.out.lt)).mono ?_; rintro e w6 ⟨rfl, hb6⟩))
    go_ret
    exact ⟨rfl, HB4.out.trans (hb6.mono HB4.out.size)⟩
end Go.Proofs.YtngcdfhmgjmhkaaDoor

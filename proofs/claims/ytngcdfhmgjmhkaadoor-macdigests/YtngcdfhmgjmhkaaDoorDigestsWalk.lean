/- The walk of the statement MacDigests. -/
import Derived.Test.YtngcdfhmgjmhkaaDoorRMac
import Derived.Test.YtngcdfhmgjmhkaaDoorMWorks
import Derived.Test.YtngcdfhmgjmhkaaDoorEq
namespace Go.Proofs.YtngcdfhmgjmhkaaDoor
open Go.RowKit
set_option maxHeartbeats 1000000 in
theorem macDigests_any (vk vb : Value) (key bb : List (BitVec 8)) (w : World) (hK : KOk w) (hk : Reads w vk key) (hb : Reads w vb bb) :
    Calls Tryd.prog 8 #[vk, vb] w fun e w' => e = .returned (.bool true) ∧ Below w.heap.size w w' := by
  have HK : Hid (KOk w) := hK
  have HA : Hid (Reads w vk key) := hk
  have HB : Hid (Reads w vb bb) := hb
  obtain ⟨aa, ca, rfl, _, _, _⟩ := hk
  obtain ⟨ab, cc, rfl, _, _, _⟩ := hb
  clear hK
  by_cases h1 : 32768 < key.length
  · go_enter Tryd.func8, Tryd.ntmps8
    go_wp2_with (first
      | (go_at_call 21; refine (mlong_any _ key _ HA.out).mono ?_; rintro e w1 ⟨rfl, rfl⟩; simp only [h1, decide_true])
      | (go_at_call 22; refine (mworks_any _ HK.out).mono ?_; rintro e w4 ⟨rfl, hb4⟩))
    go_ret
    exact ⟨rfl, hb4⟩
  · by_cases h2 : 32768 < bb.length
    · go_enter Tryd.func8, Tryd.ntmps8
      go_wp2_with fail
      refine (mlong_any _ key _ HA.out).mono ?_
      rintro e w1 ⟨rfl, rfl⟩
      simp only [h1, decide_false]
      go_wp2_with fail
      refine (mlong_any _ bb _ HB.out).mono ?_
      rintro e w2 ⟨rfl, rfl⟩
      simp only [h2, decide_true]
      go_wp2_with (go_at_call 22; refine (mworks_any _ HK.out).mono ?_; rintro e w4 ⟨rfl, hb4⟩)
      go_ret
      exact ⟨rfl, hb4⟩
    · go_enter Tryd.func8, Tryd.ntmps8
      go_wp2_with fail
      refine (mlong_any _ key _ HA.out).mono ?_
      rintro e w0 ⟨rfl, rfl⟩
      simp only [h1, decide_false]
      go_wp2_with fail
      refine (mlong_any _ bb _ HB.out).mono ?_
      rintro e w0 ⟨rfl, rfl⟩
      simp only [h2, decide_false]
      have HL : Hid (key.length ≤ 32768 ∧ bb.length ≤ 32768) := ⟨by omega, by omega⟩
      clear h1 h2
      go_wp2_with fail
      have b1 := below_alloc w0 (.cells #[.slice ab bb.length cc] 22)
      refine (mac_any _ _ key [bb] _ (HK.out.below b1 HK.out.lt) (HA.out.below b1) (readsL_one HB.out) (by have := HL.out; omega) (by have := HL.out; simp; omega) (by simp)).mono ?_
      rintro e w2 ⟨rfl, hb2⟩
      have HS2 : Hid (Below w0.heap.size w0 w2) := b1.trans (hb2.mono (by simp))
      rw [show [bb].flatten = bb by simp]
      clear b1 hb2
      go_wp2_with fail
      refine (rmac_any _ _ key bb _ (HA.out.below HS2.out) (HB.out.below HS2.out) (by have := HL.out; omega) (by have := HL.out; omega)).mono ?_
      rintro e w3 ⟨rfl, hb3⟩
      have HS3 : Hid (Below w0.heap.size w0 w3) := HS2.out.trans (hb3.mono HS2.out.size)
      clear hb3 HS2
      have heq := fun wx => eq_dig_same (hmac key bb) (len_hmac key bb) wx
      generalize hmac key bb = dd at *
      go_wp2_with (go_at_call 22; refine (mworks_any _ (HK.out.below HS3.out HK.out.lt)).mono ?_; rintro e w4 ⟨rfl, hb4⟩)
      go_ret
      exact ⟨rfl, HS3.out.trans (hb4.mono HS3.out.size)⟩
end Go.Proofs.YtngcdfhmgjmhkaaDoor

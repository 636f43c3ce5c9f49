/- The walk of blazonlaw05's works; of Right, of record and of the reference. -/
import Derived.Test.YtldbcglakeggaaaRecWr
import Derived.Lib.SlBytesConst
namespace Go.Proofs.Ytldbcglakeggaaa
open Go.RowKit
theorem annB : strB [97#8, 110#8, 110#8] = ⟨#[97, 110, 110]⟩ := by kernel_rfl
theorem AnnB : strB [65#8, 110#8, 110#8] = ⟨#[65, 110, 110]⟩ := by kernel_rfl
theorem ann7 : strB [3#8, 97#8, 110#8, 110#8, 1#8, 107#8, 1#8] = ⟨#[3, 97, 110, 110, 1, 107, 1]⟩ := by kernel_rfl
theorem annE : encBinding ([97#8, 110#8, 110#8], [107#8], 1) = [3#8, 97#8, 110#8, 110#8, 1#8, 107#8, 1#8] := by
  simp only [encBinding, encText, List.length_cons, List.length_nil]
  rw [encNum_lt (by omega), encNum_lt (by omega)]
  rfl
theorem annR : whole (bindS [3#8, 97#8, 110#8, 110#8, 1#8, 107#8, 1#8]) = some ([97#8, 110#8, 110#8], [107#8], 1) := by decide
theorem AnnC : chk [65#8, 110#8, 110#8] [107#8] = 4 := by decide
theorem ann_bind (vk : Value) (w : World) (hk : Reads w vk [107#8]) : Calls Try.prog 15 #[.agg #[.string ⟨#[97, 110, 110]⟩, vk, .int .u64 1]] w fun e w' => ∃ v', e = .returned v' ∧ Reads w' v' [3#8, 97#8, 110#8, 110#8, 1#8, 107#8, 1#8] ∧ Below w.heap.size w w' := by
  have h := rbind_any [97#8, 110#8, 110#8] [107#8] vk 1 (by omega) w hk (by simp)
  rw [annE] at h
  unfold bindV at h
  rw [annB] at h
  exact h
theorem Ann_chk (vk : Value) (w : World) (hk : Reads w vk [107#8]) : Calls Try.prog 9 #[.agg #[.string ⟨#[65, 110, 110]⟩, vk, .int .u64 0]] w fun e w' => e = .returned (.int .i64 4) ∧ Below w.heap.size w w' := by
  have h := rcheck_any [65#8, 110#8, 110#8] [107#8] vk 0 w hk
  rw [AnnC, AnnB] at h
  exact h
theorem ann_read (vb : Value) (w : World) (hb : Reads w vb [3#8, 97#8, 110#8, 110#8, 1#8, 107#8, 1#8]) : Calls Try.prog 23 #[vb] w fun e w' => Below w.heap.size w w' ∧ ∃ ad n cp, e = .returned (.tuple #[.agg #[.string ⟨#[97, 110, 110]⟩, .slice ad n cp, .int .u64 1], .int .i64 0]) := by
  refine (rdBinding_any readBinding_one bindS_nil vb _ w hb).mono ?_
  rintro e w' ⟨hb, ⟨a, cs, hw, rfl, hG⟩ | ⟨hw, _⟩⟩
  · rw [annR] at hw
    simp only [Option.some.injEq] at hw
    subst hw
    obtain ⟨vk, rfl, ho, _⟩ := hG
    obtain ⟨ad, cp, rfl, _⟩ := ho.reads
    refine ⟨hb, ad, 1, cp, ?_⟩
    unfold bindV
    rw [annB]
    rfl
  · rw [annR] at hw; cases hw
theorem k_reads (w : World) : Reads (w.alloc (.cells #[.int .u8 107] 5 (1, 2))) (.slice (some ⟨w.heap.size, 0, none⟩) 1 1) [107#8] := by
  refine ⟨_, _, rfl, Nat.le_refl _, (fun h => by cases h), fun _ => ⟨w.heap.size, 0, rfl, fun j hj => ?_⟩⟩
  obtain rfl : j = 0 := by simpa using hj
  rw [cell_of_row _ w.heap.size (0 + 0) #[.int .u8 107] 5 (1, 2) (heap_alloc_new _ _)]
  rfl
set_option maxRecDepth 100000 in
set_option maxHeartbeats 1000000 in
theorem rworks_any (w : World) : Calls Try.prog 13 #[] w fun e w' => e = .returned (.bool true) ∧ Below w.heap.size w w' := by
  have kc := fun (w : World) (C : Array Value) (n c : Nat) => Lib.run_convert_bytes_const (P := Try.prog) w 22 5 C n c Try.underlying22 Try.underlying5
  have HK : Hid (Reads (w.alloc (.cells #[.int .u8 107] 5 (1, 2))) (.slice (some ⟨w.heap.size, 0, none⟩) 1 1) [107#8]) := k_reads w
  go_enter Try.func13, Try.ntmps13
  go_wp2_with fail
  have HB : Hid (Below w.heap.size w ((w.alloc (.cells #[.int .u8 107] 5 (1, 2))).alloc (.cells #[.string ⟨#[97, 110, 110]⟩, .slice (some ⟨w.heap.size, 0, none⟩) 1 1, .int .u64 1] 25))) := (below_alloc _ _).trans ((below_alloc _ _).mono (by simp))
  have HK2 : Hid (Reads ((w.alloc (.cells #[.int .u8 107] 5 (1, 2))).alloc (.cells #[.string ⟨#[97, 110, 110]⟩, .slice (some ⟨w.heap.size, 0, none⟩) 1 1, .int .u64 1] 25)) (.slice (some ⟨w.heap.size, 0, none⟩) 1 1) [107#8]) := HK.out.below (below_alloc _ _)
  clear HK
  generalize (w.alloc (.cells #[.int .u8 107] 5 (1, 2))).alloc (.cells #[.string ⟨#[97, 110, 110]⟩, .slice (some ⟨w.heap.size, 0, none⟩) 1 1, .int .u64 1] 25) = w0 at *
  refine (ann_bind _ w0 HK2.out).mono ?_
  rintro e w1 ⟨v1, rfl, hr1, hb1⟩
  have HB1 : Hid (Below w.heap.size w w1) := HB.out.trans (hb1.mono HB.out.size)
  have HR1 : Hid (Reads w1 v1 [3#8, 97#8, 110#8, 110#8, 1#8, 107#8, 1#8]) := hr1
  clear hr1 hb1 HB HK2
  go_wp2_with fail
  refine (ann_read v1 w1 HR1.out).mono ?_
  rintro e w2 ⟨hb2, ad, n, cp, rfl⟩
  have HB2 : Hid (Below w.heap.size w w2) := HB1.out.trans (hb2.mono HB1.out.size)
  have hcv := conv_reads ((HR1.out.below hb2).below (below_alloc w2 (.cells #[.string ⟨#[97, 110, 110]⟩, .slice ad n cp, .int .u64 1] 25)))
  rw [ann7] at hcv
  obtain ⟨W, HW⟩ : ∃ x, Hid (x = w2.alloc (.cells #[.string ⟨#[97, 110, 110]⟩, .slice ad n cp, .int .u64 1] 25)) := ⟨_, rfl⟩
  have hz : (w2.alloc (.cells #[.string ⟨#[97, 110, 110]⟩, .slice ad n cp, .int .u64 1] 25)).heap.size = w2.heap.size + 1 := by simp
  have kc2 := kc (w2.alloc (.cells #[.string ⟨#[97, 110, 110]⟩, .slice ad n cp, .int .u64 1] 25)) #[.int .u8 107] 1 1
  have hk2 := k_reads (w2.alloc (.cells #[.string ⟨#[97, 110, 110]⟩, .slice ad n cp, .int .u64 1] 25))
  rw [hz] at kc2 hk2
  have HK2 : Hid (Reads ((w2.alloc (.cells #[.string ⟨#[97, 110, 110]⟩, .slice ad n cp, .int .u64 1] 25)).alloc (.cells #[.int .u8 107] 5 (1, 2))) (.slice (some ⟨w2.heap.size + 1, 0, none⟩) 1 1) [107#8]) := hk2
  have HB3 : Hid (Below w.heap.size w ((w2.alloc (.cells #[.string ⟨#[97, 110, 110]⟩, .slice ad n cp, .int .u64 1] 25)).alloc (.cells #[.int .u8 107] 5 (1, 2)))) := HB2.out.trans (((below_alloc _ _).mono HB2.out.size).trans ((below_alloc _ _).mono (by rw [hz]; have := HB2.out.size; omega)))
  clear hb2 HB1 HR1 hk2 hz kc
  go_wp2_with fail
  refine (Ann_chk _ _ HK2.out).mono ?_
  rintro e w4 ⟨rfl, hb4⟩
  have HF : Hid (Below w.heap.size w w4) := HB3.out.trans (hb4.mono HB3.out.size)
  clear hb4 HB3 HK2 hcv kc2 HW
  go_wp2
  go_ret
  exact ⟨rfl, HF.out⟩
end Go.Proofs.Ytldbcglakeggaaa

/- The walk of layer 4's own example. -/
import Derived.Test.YtdhglbemkaogiaaSames
namespace Go.Proofs.Ytdhglbemkaogiaa
open Go.RowKit
theorem ex1 : readList readNum [2#8, 5#8, 172#8, 2#8] = some [5, 300] := by decide
theorem ex2 : readList readNum [1#8, 128#8, 0#8] = none := by decide
theorem ex3 : encNum 300 = [172#8, 2#8] := by rw [encNum_ge (by omega), encNum_lt (by omega)]
set_option maxRecDepth 100000 in
set_option maxHeartbeats 1000000 in
theorem cworks_any (w : World) : Calls Try.prog 16 #[] w fun e w' => e = .returned (.bool true) ∧ Below w.heap.size w w' := by
  have hstr : strB [172#8, 2#8] = ⟨#[172, 2]⟩ := by rfl
  go_enter Try.func16, Try.ntmps16
  go_wp2_with fail
  have b0 := below_alloc w (.cells #[.int .u8 2, .int .u8 5, .int .u8 172, .int .u8 2] 5)
  have r0 : Reads (w.alloc (.cells #[.int .u8 2, .int .u8 5, .int .u8 172, .int .u8 2] 5)) (.slice (some ⟨w.heap.size, 0, none⟩) 4 4) [2#8, 5#8, 172#8, 2#8] := (Blk.new w (cb [2#8, 5#8, 172#8, 2#8]) 5).reads rfl (by decide)
  refine (creadN_any _ _ _ r0).mono ?_
  rintro e w1 hD
  rw [ex1] at hD
  rcases hD with ⟨xs, v, vs, h1, rfl, hown, hgd, hb1⟩ | ⟨h1, _, _⟩
  case inr => cases h1
  simp only [Option.some.injEq] at h1
  subst h1
  have hN := hown.readsN hgd
  have HB1 : Hid (Below w.heap.size w w1) := b0.trans (hb1.mono b0.size)
  have HN1 : Hid (ReadsN w1 v [5, 300]) := hN
  obtain ⟨ad, cap, hv, _, _, hx⟩ := hN
  have HV : Hid (v = .slice ad 2 cap) := hv
  clear hown hgd hb1 b0 r0 hx hv
  go_wp2_with fail
  have b1 := below_alloc w1 (.cells #[.int .u8 1, .int .u8 128, .int .u8 0] 5)
  have r1 : Reads (w1.alloc (.cells #[.int .u8 1, .int .u8 128, .int .u8 0] 5)) (.slice (some ⟨w1.heap.size, 0, none⟩) 3 3) [1#8, 128#8, 0#8] := (Blk.new w1 (cb [1#8, 128#8, 0#8]) 5).reads rfl (by decide)
  refine (creadN_any _ _ _ r1).mono ?_
  rintro e w2 hD
  rw [ex2] at hD
  rcases hD with ⟨xs, v', vs', h1, _, _, _, _⟩ | ⟨_, rfl, hb2⟩
  case inl => cases h1
  have hb12 : Below w1.heap.size w1 w2 := b1.trans (hb2.mono b1.size)
  have HB2 : Hid (Below w.heap.size w w2) := HB1.out.trans (hb12.mono HB1.out.size)
  have HN2 : Hid (ReadsN w2 v [5, 300]) := HN1.out.below hb12
  clear b1 r1 hb2 hb12 HN1 HB1
  go_wp2_with fail
  refine (cnum_any w2.heap.size _ [] 300 (by omega) w2 (OwnB.nil _ _) (Nat.le_refl _) (by simp)).mono ?_
  rintro e w3 ⟨v3, rfl, ho3, hb3⟩
  rw [List.nil_append, ex3] at ho3
  have hc := conv_reads ho3.reads
  rw [hstr] at hc
  have hB : Below w.heap.size w w3 := HB2.out.trans (hb3.mono HB2.out.size)
  obtain ⟨ad', cap', hv', hcap, _, hx⟩ := HN2.out.below hb3
  rw [HV.out] at hv'
  simp only [Value.slice.injEq] at hv'
  obtain ⟨rfl, _, rfl⟩ := hv'
  obtain ⟨b, off, rfl, hy⟩ := hx (by simp)
  have c1 : w3.cell? ⟨b, off + 1, none⟩ = some (.int .u64 300) := hy 1 (by simp)
  have hcap2 : 2 ≤ cap := by simpa using hcap
  have hv2 := HV.out
  subst hv2
  clear ho3 hb3 hx hy HN2 HB2 hcap HV hstr
  go_wp2
  go_ret
  exact ⟨rfl, hB⟩
end Go.Proofs.Ytdhglbemkaogiaa

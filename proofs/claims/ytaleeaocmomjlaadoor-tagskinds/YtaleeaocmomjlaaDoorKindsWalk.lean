/- The walk of the statement TagsKinds. -/
import Derived.Test.YtaleeaocmomjlaaDoorLawT
namespace Go.Proofs.YtaleeaocmomjlaaDoor
open Go.RowKit
set_option maxRecDepth 100000 in
set_option maxHeartbeats 8000000 in
theorem tagsKinds_any (bs x nm ky p q r : List (BitVec 8)) (vb vk : Value) (sr n : Nat) (w : World) (hK : KOk w) (hb : Reads w vb bs) (hx : x.length = 32) (hk : Reads w vk ky) (hs : sr < 18446744073709551616) (hr : p.length = 32 ∧ q.length = 32 ∧ r.length = 32 ∧ n < 18446744073709551616) :
    Calls Tryd.prog 7 #[vb, .agg (cb x).toArray, .agg #[.string (strB nm), vk, .int .u64 (sr : Int)], .agg (Value.int .u64 (n : Int) :: (cb p ++ (cb q ++ cb r))).toArray] w fun e w' => e = .returned (.bool true) ∧ Below w.heap.size w w' := by
  have HK : Hid (KOk w) := hK
  have HX : Hid (x.length = 32) := hx
  have HR : Hid (p.length = 32 ∧ q.length = 32 ∧ r.length = 32 ∧ n < 18446744073709551616) := hr
  have HV : Hid (Reads w vk ky) := hk
  have HVB : Hid (Reads w vb bs) := hb
  obtain ⟨ad, cp, rfl, _, _, _⟩ := hk
  obtain ⟨ab, cq, rfl, _, _, _⟩ := hb
  by_cases hfew : nm.length ≤ 2000 ∧ ky.length ≤ 2000
  · have HF : Hid (nm.length ≤ 2000 ∧ ky.length ≤ 2000 ∧ sr < 18446744073709551616) := ⟨hfew.1, hfew.2, hs⟩
    clear hK hx hr hs
    go_enter Tryd.func7, Tryd.ntmps7
    go_wp2_with fail
    have hB0 : Below w.heap.size w (((w.alloc (.cells (cb x).toArray 23)).alloc (.cells #[.string (strB nm), .slice ad ky.length cp, .int .u64 (sr : Int)] 27)).alloc (.cells (Value.int .u64 (n : Int) :: (cb p ++ (cb q ++ cb r))).toArray 29)) := (((below_alloc _ _).trans ((below_alloc _ _).mono (by simp <;> omega))).trans ((below_alloc _ _).mono (by simp <;> omega)))
    have b0 : Blk (((w.alloc (.cells (cb x).toArray 23)).alloc (.cells #[.string (strB nm), .slice ad ky.length cp, .int .u64 (sr : Int)] 27)).alloc (.cells (Value.int .u64 (n : Int) :: (cb p ++ (cb q ++ cb r))).toArray 29)) (w.heap.size) (cb x) 23 := (((Blk.new w (cb x) 23).alloc _).alloc _)
    have b1 : Blk (((w.alloc (.cells (cb x).toArray 23)).alloc (.cells #[.string (strB nm), .slice ad ky.length cp, .int .u64 (sr : Int)] 27)).alloc (.cells (Value.int .u64 (n : Int) :: (cb p ++ (cb q ++ cb r))).toArray 29)) (w.heap.size + 1) [.string (strB nm), .slice ad ky.length cp, .int .u64 (sr : Int)] 27 := ((Blk.new_at (w := (w.alloc (.cells (cb x).toArray 23))) (by simp) [.string (strB nm), .slice ad ky.length cp, .int .u64 (sr : Int)] 27).alloc _)
    have b2 : Blk (((w.alloc (.cells (cb x).toArray 23)).alloc (.cells #[.string (strB nm), .slice ad ky.length cp, .int .u64 (sr : Int)] 27)).alloc (.cells (Value.int .u64 (n : Int) :: (cb p ++ (cb q ++ cb r))).toArray 29)) (w.heap.size + 1 + 1) (Value.int .u64 (n : Int) :: (cb p ++ (cb q ++ cb r))) 29 := (Blk.new_at (w := ((w.alloc (.cells (cb x).toArray 23)).alloc (.cells #[.string (strB nm), .slice ad ky.length cp, .int .u64 (sr : Int)] 27))) (by simp) (Value.int .u64 (n : Int) :: (cb p ++ (cb q ++ cb r))) 29)
    have rk := HV.out.below hB0
    have rb := HVB.out.below hB0
    generalize (((w.alloc (.cells (cb x).toArray 23)).alloc (.cells #[.string (strB nm), .slice ad ky.length cp, .int .u64 (sr : Int)] 27)).alloc (.cells (Value.int .u64 (n : Int) :: (cb p ++ (cb q ++ cb r))).toArray 29)) = w0 at *
    refine (few_any nm ad ky.length cp sr _).mono ?_
    rintro e wf ⟨rfl, bf⟩
    rw [decide_eq_true hfew]
    have hW := hB0.trans (bf.mono hB0.size)
    replace b0 := b0.below bf b0.lt
    replace b1 := b1.below bf b1.lt
    replace b2 := b2.below bf b2.lt
    replace rk := rk.below bf
    replace rb := rb.below bf
    clear hB0 bf hfew HV
    go_wp2_with fail
    refine (tKind_any _ bs _ rb).mono ?_
    rintro e w1 ⟨rfl, hbA⟩
    replace hW := hW.trans (hbA.mono hW.size)
    replace b0 := b0.below hbA b0.lt
    replace b1 := b1.below hbA b1.lt
    replace b2 := b2.below hbA b2.lt
    replace rk := rk.below hbA
    replace rb := rb.below hbA
    clear hbA
    go_wp2_with fail
    refine (rKind_b _ bs _ rb).mono ?_
    rintro e w2 ⟨rfl, hbA⟩
    replace hW := hW.trans (hbA.mono hW.size)
    replace b0 := b0.below hbA b0.lt
    replace b1 := b1.below hbA b1.lt
    replace b2 := b2.below hbA b2.lt
    replace rk := rk.below hbA
    replace rb := rb.below hbA
    clear hbA
    generalize kindB bs = kk at *
    clear rb HVB
    go_wp2_with (refine wpSeq_val (.agg (cb x).toArray) _ (by rfl) (load_run 23 _ rfl (w.heap.size) 0 rfl (cb x) _ b0.range Tryd.underlying23 rfl (info_dig x HX.out)) ?_)
    refine (tLeaf_any x x HX.out HX.out _).mono ?_
    rintro e w3 ⟨v3, rfl, r3, hbA⟩
    obtain ⟨l3, HL3⟩ : ∃ zz, Hid (zz = pairB 76 x x) := ⟨_, rfl⟩
    rw [← HL3.out] at r3
    have HR3 : Hid (Reads w3 v3 l3) := r3
    obtain ⟨ad3, cp3, rfl, _, _, _⟩ := r3
    replace hW := hW.trans (hbA.mono hW.size)
    replace b0 := b0.below hbA b0.lt
    replace b1 := b1.below hbA b1.lt
    replace b2 := b2.below hbA b2.lt
    replace rk := rk.below hbA
    clear hbA
    go_wp2_with fail
    refine (tKind_any _ l3 _ HR3.out).mono ?_
    rintro e w4 ⟨rfl, hbA⟩
    rw [show (((kindB l3).toNat : Nat) : Int) = 76 from by rw [HL3.out, kind_76 x x HX.out HX.out]; rfl]
    replace hW := hW.trans (hbA.mono hW.size)
    replace b0 := b0.below hbA b0.lt
    replace b1 := b1.below hbA b1.lt
    replace b2 := b2.below hbA b2.lt
    replace rk := rk.below hbA
    clear hbA
    clear HR3 HL3
    go_wp2_with (refine wpSeq_val (.agg (cb x).toArray) _ (by rfl) (load_run 23 _ rfl (w.heap.size) 0 rfl (cb x) _ b0.range Tryd.underlying23 rfl (info_dig x HX.out)) ?_)
    refine (tNode_any x x HX.out HX.out _).mono ?_
    rintro e w5 ⟨v5, rfl, r5, hbA⟩
    obtain ⟨l5, HL5⟩ : ∃ zz, Hid (zz = pairB 78 x x) := ⟨_, rfl⟩
    rw [← HL5.out] at r5
    have HR5 : Hid (Reads w5 v5 l5) := r5
    obtain ⟨ad5, cp5, rfl, _, _, _⟩ := r5
    replace hW := hW.trans (hbA.mono hW.size)
    replace b0 := b0.below hbA b0.lt
    replace b1 := b1.below hbA b1.lt
    replace b2 := b2.below hbA b2.lt
    replace rk := rk.below hbA
    clear hbA
    go_wp2_with fail
    refine (tKind_any _ l5 _ HR5.out).mono ?_
    rintro e w6 ⟨rfl, hbA⟩
    rw [show (((kindB l5).toNat : Nat) : Int) = 78 from by rw [HL5.out, kind_78 x x HX.out HX.out]; rfl]
    replace hW := hW.trans (hbA.mono hW.size)
    replace b0 := b0.below hbA b0.lt
    replace b1 := b1.below hbA b1.lt
    replace b2 := b2.below hbA b2.lt
    replace rk := rk.below hbA
    clear hbA
    clear HR5 HL5
    go_wp2_with (first | (refine wpSeq_val (.agg (cb x).toArray) _ (by rfl) (load_run 23 _ rfl (w.heap.size) 0 rfl (cb x) _ b0.range Tryd.underlying23 rfl (info_dig x HX.out)) ?_) | (refine wpSeq_val (.agg #[.string (strB nm), .slice ad ky.length cp, .int .u64 (sr : Int)]) _ (by rfl) (load_run 27 _ rfl (w.heap.size + 1) 0 rfl [.string (strB nm), .slice ad ky.length cp, .int .u64 (sr : Int)] _ b1.range Tryd.underlying27 rfl info_binding) ?_))
    refine (tValue_any x nm ky _ sr _ HX.out rk (by have := HF.out; omega)).mono ?_
    rintro e w7 ⟨v7, rfl, r7, hbA⟩
    obtain ⟨l7, HL7⟩ : ∃ zz, Hid (zz = valueB x nm sr ky) := ⟨_, rfl⟩
    rw [← HL7.out] at r7
    have HR7 : Hid (Reads w7 v7 l7) := r7
    obtain ⟨ad7, cp7, rfl, _, _, _⟩ := r7
    replace hW := hW.trans (hbA.mono hW.size)
    replace b0 := b0.below hbA b0.lt
    replace b1 := b1.below hbA b1.lt
    replace b2 := b2.below hbA b2.lt
    replace rk := rk.below hbA
    clear hbA
    go_wp2_with fail
    refine (tKind_any _ l7 _ HR7.out).mono ?_
    rintro e w8 ⟨rfl, hbA⟩
    rw [show (((kindB l7).toNat : Nat) : Int) = 86 from by rw [HL7.out, kind_86 x nm sr ky HX.out HF.out.1 HF.out.2.1]; rfl]
    replace hW := hW.trans (hbA.mono hW.size)
    replace b0 := b0.below hbA b0.lt
    replace b1 := b1.below hbA b1.lt
    replace b2 := b2.below hbA b2.lt
    replace rk := rk.below hbA
    clear hbA
    clear HR7 HL7
    go_wp2_with (refine wpSeq_val (.agg (Value.int .u64 (n : Int) :: (cb p ++ (cb q ++ cb r))).toArray) _ (by rfl) (load_run 29 _ rfl (w.heap.size + 1 + 1) 0 rfl (Value.int .u64 (n : Int) :: (cb p ++ (cb q ++ cb r))) _ b2.range Tryd.underlying29 rfl (info_root _ p q r ⟨HR.out.1, HR.out.2.1, HR.out.2.2.1⟩)) ?_)
    refine (tRoot_any p q r n _ HR.out).mono ?_
    rintro e w9 ⟨v9, rfl, r9, hbA⟩
    obtain ⟨l9, HL9⟩ : ∃ zz, Hid (zz = rootB n p q r) := ⟨_, rfl⟩
    rw [← HL9.out] at r9
    have HR9 : Hid (Reads w9 v9 l9) := r9
    obtain ⟨ad9, cp9, rfl, _, _, _⟩ := r9
    replace hW := hW.trans (hbA.mono hW.size)
    replace b0 := b0.below hbA b0.lt
    replace b1 := b1.below hbA b1.lt
    replace b2 := b2.below hbA b2.lt
    replace rk := rk.below hbA
    clear hbA
    go_wp2_with fail
    refine (tKind_any _ l9 _ HR9.out).mono ?_
    rintro e w10 ⟨rfl, hbA⟩
    rw [show (((kindB l9).toNat : Nat) : Int) = 82 from by rw [HL9.out, kind_82 n p q r ⟨HR.out.1, HR.out.2.1, HR.out.2.2.1⟩]; rfl]
    replace hW := hW.trans (hbA.mono hW.size)
    replace b0 := b0.below hbA b0.lt
    replace b1 := b1.below hbA b1.lt
    replace b2 := b2.below hbA b2.lt
    replace rk := rk.below hbA
    clear hbA
    clear HR9 HL9
    go_wp2_with fail
    refine (tworks_any _ (HK.out.below hW HK.out.lt)).mono ?_
    rintro e w11 ⟨rfl, hbA⟩
    replace hW := hW.trans (hbA.mono hW.size)
    replace b0 := b0.below hbA b0.lt
    replace b1 := b1.below hbA b1.lt
    replace b2 := b2.below hbA b2.lt
    replace rk := rk.below hbA
    clear hbA
    have HBF : Hid (Below w.heap.size w w11) := hW
    clear hW b0 b1 b2 rk
    go_wp2
    go_ret
    exact ⟨rfl, HBF.out⟩
  · clear hx hr hs
    go_enter Tryd.func7, Tryd.ntmps7
    go_wp2_with fail
    have hB0 : Below w.heap.size w (((w.alloc (.cells (cb x).toArray 23)).alloc (.cells #[.string (strB nm), .slice ad ky.length cp, .int .u64 (sr : Int)] 27)).alloc (.cells (Value.int .u64 (n : Int) :: (cb p ++ (cb q ++ cb r))).toArray 29)) := (((below_alloc _ _).trans ((below_alloc _ _).mono (by simp <;> omega))).trans ((below_alloc _ _).mono (by simp <;> omega)))
    generalize (((w.alloc (.cells (cb x).toArray 23)).alloc (.cells #[.string (strB nm), .slice ad ky.length cp, .int .u64 (sr : Int)] 27)).alloc (.cells (Value.int .u64 (n : Int) :: (cb p ++ (cb q ++ cb r))).toArray 29)) = w0 at *
    refine (few_any nm ad ky.length cp sr _).mono ?_
    rintro e wf ⟨rfl, bf⟩
    rw [decide_eq_false hfew]
    have HB1 : Hid (Below w.heap.size w wf) := hB0.trans (bf.mono hB0.size)
    clear hB0 bf hfew HV
    go_wp2_with (go_at_call 9; refine (tworks_any _ (HK.out.below HB1.out HK.out.lt)).mono ?_; rintro e w4 ⟨rfl, hb4⟩)
    go_ret
    exact ⟨rfl, HB1.out.trans (hb4.mono HB1.out.size)⟩
end Go.Proofs.YtaleeaocmomjlaaDoor

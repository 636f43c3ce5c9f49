/- The walk of the statement RecordApart. -/
import Derived.Test.YtldbcglakeggaaaRecAp
namespace Go.Proofs.Ytldbcglakeggaaa
open Go.RowKit
structure ApS (w : World) (g0 g1 g2 g3 g4 g5 g6 g7 : Nat) (c0 c1 c2 c3 c4 c5 c6 c7 : List Value) (v0 v1 v2 v3 v4 v5 v6 v7 : Value) (l0 l1 l2 l3 l4 l5 : List (BitVec 8)) (d6 d7 : List (List (BitVec 8))) (W : World) : Prop where
  b0 : Blk W g0 c0 25
  k0 : Reads W v0 l0
  b1 : Blk W g1 c1 25
  k1 : Reads W v1 l1
  b2 : Blk W g2 c2 38
  k2 : Reads W v2 l2
  b3 : Blk W g3 c3 38
  k3 : Reads W v3 l3
  b4 : Blk W g4 c4 42
  k4 : Reads W v4 l4
  b5 : Blk W g5 c5 42
  k5 : Reads W v5 l5
  b6 : Blk W g6 c6 30
  k6 : ReadsD W v6 d6
  b7 : Blk W g7 c7 30
  k7 : ReadsD W v7 d7
  bel : Below w.heap.size w W
theorem ApS.next {w : World} {g0 g1 g2 g3 g4 g5 g6 g7 : Nat} {c0 c1 c2 c3 c4 c5 c6 c7 : List Value} {v0 v1 v2 v3 v4 v5 v6 v7 : Value} {l0 l1 l2 l3 l4 l5 : List (BitVec 8)} {d6 d7 : List (List (BitVec 8))} {W W' : World} (h : ApS w g0 g1 g2 g3 g4 g5 g6 g7 c0 c1 c2 c3 c4 c5 c6 c7 v0 v1 v2 v3 v4 v5 v6 v7 l0 l1 l2 l3 l4 l5 d6 d7 W) (hb : Below W.heap.size W W') : ApS w g0 g1 g2 g3 g4 g5 g6 g7 c0 c1 c2 c3 c4 c5 c6 c7 v0 v1 v2 v3 v4 v5 v6 v7 l0 l1 l2 l3 l4 l5 d6 d7 W' :=
  ⟨h.b0.below hb h.b0.lt, h.k0.below hb, h.b1.below hb h.b1.lt, h.k1.below hb, h.b2.below hb h.b2.lt, h.k2.below hb, h.b3.below hb h.b3.lt, h.k3.below hb, h.b4.below hb h.b4.lt, h.k4.below hb, h.b5.below hb h.b5.lt, h.k5.below hb, h.b6.below hb h.b6.lt, h.k6.below hb, h.b7.below hb h.b7.lt, h.k7.below hb, h.bel.trans (hb.mono h.bel.size)⟩
theorem ApS.over {w : World} {g0 g1 g2 g3 g4 g5 g6 g7 : Nat} {c0 c1 c2 c3 c4 c5 c6 c7 : List Value} {v0 v1 v2 v3 v4 v5 v6 v7 : Value} {l0 l1 l2 l3 l4 l5 : List (BitVec 8)} {d6 d7 : List (List (BitVec 8))} {W W' : World} (h : ApS w g0 g1 g2 g3 g4 g5 g6 g7 c0 c1 c2 c3 c4 c5 c6 c7 v0 v1 v2 v3 v4 v5 v6 v7 l0 l1 l2 l3 l4 l5 d6 d7 W) (hb : Over W.drew W') : ApS w g0 g1 g2 g3 g4 g5 g6 g7 c0 c1 c2 c3 c4 c5 c6 c7 v0 v1 v2 v3 v4 v5 v6 v7 l0 l1 l2 l3 l4 l5 d6 d7 W' :=
  h.next ((Below.refl W.heap.size W).drew.trans hb)
set_option maxRecDepth 100000 in
set_option maxHeartbeats 8000000 in
theorem apart_law (nm0 l0 : List (BitVec 8)) (v0 : Value) (sr0 : Nat) (hsr0 : sr0 < 18446744073709551616) (hl0 : nm0.length + l0.length ≤ 100000000000)
    (nm1 l1 : List (BitVec 8)) (v1 : Value) (sr1 : Nat) (hsr1 : sr1 < 18446744073709551616) (hl1 : nm1.length + l1.length ≤ 100000000000)
    (kd2 : Int) (nm2 l2 au2 : List (BitVec 8)) (v2 : Value) (ha2 : au2.length = 32)
    (kd3 : Int) (nm3 l3 au3 : List (BitVec 8)) (v3 : Value) (ha3 : au3.length = 32)
    (ep4 : Nat) (x4 y4 z4 l4 : List (BitVec 8)) (v4 : Value) (hg4 : ep4 < 18446744073709551616 ∧ x4.length = 32 ∧ y4.length = 32 ∧ z4.length = 32) (hl4 : l4.length ≤ 100000000000)
    (ep5 : Nat) (x5 y5 z5 l5 : List (BitVec 8)) (v5 : Value) (hg5 : ep5 < 18446744073709551616 ∧ x5.length = 32 ∧ y5.length = 32 ∧ z5.length = 32) (hl5 : l5.length ≤ 100000000000)
    (d6 : List (List (BitVec 8))) (en6 : Int) (ix6 va6 : List (BitVec 8)) (v6 : Value) (hp6 : ix6.length = 32 ∧ va6.length = 32)
    (d7 : List (List (BitVec 8))) (en7 : Int) (ix7 va7 : List (BitVec 8)) (v7 : Value) (hp7 : ix7.length = 32 ∧ va7.length = 32)
    (w : World) (hk0 : Reads w v0 l0) (hk1 : Reads w v1 l1) (hk2 : Reads w v2 l2) (hk3 : Reads w v3 l3) (hk4 : Reads w v4 l4) (hk5 : Reads w v5 l5) (hk6 : ReadsD w v6 d6) (hk7 : ReadsD w v7 d7) :
    Calls Try.prog 8 #[.agg (bindV nm0 v0 sr0).toArray, .agg (bindV nm1 v1 sr1).toArray, .agg (reqV kd2 nm2 v2 au2).toArray, .agg (reqV kd3 nm3 v3 au3).toArray, .agg (sgnV ep4 x4 y4 z4 v4).toArray, .agg (sgnV ep5 x5 y5 z5 v5).toArray, .agg (prfV v6 en6 ix6 va6).toArray, .agg (prfV v7 en7 ix7 va7).toArray] w fun e w' => e = .returned (.bool true) ∧ Below w.heap.size w w' := by
  have HK0 : Hid (Reads w v0 l0) := hk0
  have HK1 : Hid (Reads w v1 l1) := hk1
  have HK2 : Hid (Reads w v2 l2) := hk2
  have HK3 : Hid (Reads w v3 l3) := hk3
  have HK4 : Hid (Reads w v4 l4) := hk4
  have HK5 : Hid (Reads w v5 l5) := hk5
  have HK6 : Hid (ReadsD w v6 d6) := hk6
  have HK7 : Hid (ReadsD w v7 d7) := hk7
  have HSR0 : Hid (sr0 < 18446744073709551616 ∧ nm0.length + l0.length ≤ 100000000000) := ⟨hsr0, hl0⟩
  have HSR1 : Hid (sr1 < 18446744073709551616 ∧ nm1.length + l1.length ≤ 100000000000) := ⟨hsr1, hl1⟩
  have HAU2 : Hid (au2.length = 32) := ha2
  have HAU3 : Hid (au3.length = 32) := ha3
  have HSG4 : Hid ((ep4 < 18446744073709551616 ∧ x4.length = 32 ∧ y4.length = 32 ∧ z4.length = 32) ∧ l4.length ≤ 100000000000) := ⟨hg4, hl4⟩
  have HSG5 : Hid ((ep5 < 18446744073709551616 ∧ x5.length = 32 ∧ y5.length = 32 ∧ z5.length = 32) ∧ l5.length ≤ 100000000000) := ⟨hg5, hl5⟩
  have HPR6 : Hid (ix6.length = 32 ∧ va6.length = 32) := hp6
  have HPR7 : Hid (ix7.length = 32 ∧ va7.length = 32) := hp7
  clear hk0 hk1 hk2 hk3 hk4 hk5 hk6 hk7 hsr0 hsr1 hl0 hl1 ha2 ha3 hg4 hg5 hl4 hl5 hp6 hp7
  obtain ⟨c0, HC0⟩ : ∃ c, Hid (c = bindV nm0 v0 sr0) := ⟨_, rfl⟩
  obtain ⟨c1, HC1⟩ : ∃ c, Hid (c = bindV nm1 v1 sr1) := ⟨_, rfl⟩
  obtain ⟨c2, HC2⟩ : ∃ c, Hid (c = reqV kd2 nm2 v2 au2) := ⟨_, rfl⟩
  obtain ⟨c3, HC3⟩ : ∃ c, Hid (c = reqV kd3 nm3 v3 au3) := ⟨_, rfl⟩
  obtain ⟨c4, HC4⟩ : ∃ c, Hid (c = sgnV ep4 x4 y4 z4 v4) := ⟨_, rfl⟩
  obtain ⟨c5, HC5⟩ : ∃ c, Hid (c = sgnV ep5 x5 y5 z5 v5) := ⟨_, rfl⟩
  obtain ⟨c6, HC6⟩ : ∃ c, Hid (c = prfV v6 en6 ix6 va6) := ⟨_, rfl⟩
  obtain ⟨c7, HC7⟩ : ∃ c, Hid (c = prfV v7 en7 ix7 va7) := ⟨_, rfl⟩
  have HI0 : Hid ((Try.prog.info? 25).map (·.size) = some c0.length) := by show _ = _; rw [HC0.out]; kernel_rfl
  have HI1 : Hid ((Try.prog.info? 25).map (·.size) = some c1.length) := by show _ = _; rw [HC1.out]; kernel_rfl
  have HI2 : Hid ((Try.prog.info? 38).map (·.size) = some c2.length) := by show _ = _; rw [HC2.out]; rw [show (reqV kd2 nm2 v2 au2).length = 35 from by simp [reqV, cb_len, HAU2.out]]; kernel_rfl
  have HI3 : Hid ((Try.prog.info? 38).map (·.size) = some c3.length) := by show _ = _; rw [HC3.out]; rw [show (reqV kd3 nm3 v3 au3).length = 35 from by simp [reqV, cb_len, HAU3.out]]; kernel_rfl
  have HI4 : Hid ((Try.prog.info? 42).map (·.size) = some c4.length) := by show _ = _; rw [HC4.out]; rw [show (sgnV ep4 x4 y4 z4 v4).length = 98 from by simp [sgnV, cb_len, HSG4.out]]; kernel_rfl
  have HI5 : Hid ((Try.prog.info? 42).map (·.size) = some c5.length) := by show _ = _; rw [HC5.out]; rw [show (sgnV ep5 x5 y5 z5 v5).length = 98 from by simp [sgnV, cb_len, HSG5.out]]; kernel_rfl
  have HI6 : Hid ((Try.prog.info? 30).map (·.size) = some c6.length) := by show _ = _; rw [HC6.out]; rw [prfV_len HPR6.out.1 HPR6.out.2]; kernel_rfl
  have HI7 : Hid ((Try.prog.info? 30).map (·.size) = some c7.length) := by show _ = _; rw [HC7.out]; rw [prfV_len HPR7.out.1 HPR7.out.2]; kernel_rfl
  rw [← HC0.out, ← HC1.out, ← HC2.out, ← HC3.out, ← HC4.out, ← HC5.out, ← HC6.out, ← HC7.out]
  go_enter Try.func8, Try.ntmps8
  go_upto_region 1 with (first
    | (with_reducible refine wpSeq_box 25 (.tmp 0) ?_ c0 ?_ ?_ (w.alloc (.cells c0.toArray 25)) ?_ ?_
       · rfl
       · rfl
       · rfl
       · rfl
       have n0 : Blk (w.alloc (.cells c0.toArray 25)) w.heap.size c0 25 := Blk.new w c0 _
       have b0 := below_alloc w (.cells c0.toArray 25)
       obtain ⟨wa0, HW0⟩ : ∃ z, Hid (z = w.alloc (.cells c0.toArray 25)) := ⟨_, rfl⟩
       obtain ⟨g0, HGG0⟩ : ∃ z, Hid (z = w.heap.size) := ⟨_, rfl⟩
       rw [← HW0.out] at n0 b0 ⊢
       rw [← HGG0.out] at n0 ⊢
       clear HW0 HGG0)
    | (with_reducible refine wpSeq_box 25 (.tmp 1) ?_ c1 ?_ ?_ (wa0.alloc (.cells c1.toArray 25)) ?_ ?_
       · rfl
       · rfl
       · rfl
       · rfl
       have n1 : Blk (wa0.alloc (.cells c1.toArray 25)) wa0.heap.size c1 25 := Blk.new wa0 c1 _
       have b1 := below_alloc wa0 (.cells c1.toArray 25)
       obtain ⟨wa1, HW1⟩ : ∃ z, Hid (z = wa0.alloc (.cells c1.toArray 25)) := ⟨_, rfl⟩
       obtain ⟨g1, HGG1⟩ : ∃ z, Hid (z = wa0.heap.size) := ⟨_, rfl⟩
       rw [← HW1.out] at n1 b1 ⊢
       rw [← HGG1.out] at n1 ⊢
       clear HW1 HGG1)
    | (with_reducible refine wpSeq_box 38 (.tmp 2) ?_ c2 ?_ ?_ (wa1.alloc (.cells c2.toArray 38)) ?_ ?_
       · rfl
       · rfl
       · rfl
       · rfl
       have n2 : Blk (wa1.alloc (.cells c2.toArray 38)) wa1.heap.size c2 38 := Blk.new wa1 c2 _
       have b2 := below_alloc wa1 (.cells c2.toArray 38)
       obtain ⟨wa2, HW2⟩ : ∃ z, Hid (z = wa1.alloc (.cells c2.toArray 38)) := ⟨_, rfl⟩
       obtain ⟨g2, HGG2⟩ : ∃ z, Hid (z = wa1.heap.size) := ⟨_, rfl⟩
       rw [← HW2.out] at n2 b2 ⊢
       rw [← HGG2.out] at n2 ⊢
       clear HW2 HGG2)
    | (with_reducible refine wpSeq_box 38 (.tmp 3) ?_ c3 ?_ ?_ (wa2.alloc (.cells c3.toArray 38)) ?_ ?_
       · rfl
       · rfl
       · rfl
       · rfl
       have n3 : Blk (wa2.alloc (.cells c3.toArray 38)) wa2.heap.size c3 38 := Blk.new wa2 c3 _
       have b3 := below_alloc wa2 (.cells c3.toArray 38)
       obtain ⟨wa3, HW3⟩ : ∃ z, Hid (z = wa2.alloc (.cells c3.toArray 38)) := ⟨_, rfl⟩
       obtain ⟨g3, HGG3⟩ : ∃ z, Hid (z = wa2.heap.size) := ⟨_, rfl⟩
       rw [← HW3.out] at n3 b3 ⊢
       rw [← HGG3.out] at n3 ⊢
       clear HW3 HGG3)
    | (with_reducible refine wpSeq_box 42 (.tmp 4) ?_ c4 ?_ ?_ (wa3.alloc (.cells c4.toArray 42)) ?_ ?_
       · rfl
       · rfl
       · rfl
       · rfl
       have n4 : Blk (wa3.alloc (.cells c4.toArray 42)) wa3.heap.size c4 42 := Blk.new wa3 c4 _
       have b4 := below_alloc wa3 (.cells c4.toArray 42)
       obtain ⟨wa4, HW4⟩ : ∃ z, Hid (z = wa3.alloc (.cells c4.toArray 42)) := ⟨_, rfl⟩
       obtain ⟨g4, HGG4⟩ : ∃ z, Hid (z = wa3.heap.size) := ⟨_, rfl⟩
       rw [← HW4.out] at n4 b4 ⊢
       rw [← HGG4.out] at n4 ⊢
       clear HW4 HGG4)
    | (with_reducible refine wpSeq_box 42 (.tmp 5) ?_ c5 ?_ ?_ (wa4.alloc (.cells c5.toArray 42)) ?_ ?_
       · rfl
       · rfl
       · rfl
       · rfl
       have n5 : Blk (wa4.alloc (.cells c5.toArray 42)) wa4.heap.size c5 42 := Blk.new wa4 c5 _
       have b5 := below_alloc wa4 (.cells c5.toArray 42)
       obtain ⟨wa5, HW5⟩ : ∃ z, Hid (z = wa4.alloc (.cells c5.toArray 42)) := ⟨_, rfl⟩
       obtain ⟨g5, HGG5⟩ : ∃ z, Hid (z = wa4.heap.size) := ⟨_, rfl⟩
       rw [← HW5.out] at n5 b5 ⊢
       rw [← HGG5.out] at n5 ⊢
       clear HW5 HGG5)
    | (with_reducible refine wpSeq_box 30 (.tmp 6) ?_ c6 ?_ ?_ (wa5.alloc (.cells c6.toArray 30)) ?_ ?_
       · rfl
       · rfl
       · rfl
       · rfl
       have n6 : Blk (wa5.alloc (.cells c6.toArray 30)) wa5.heap.size c6 30 := Blk.new wa5 c6 _
       have b6 := below_alloc wa5 (.cells c6.toArray 30)
       obtain ⟨wa6, HW6⟩ : ∃ z, Hid (z = wa5.alloc (.cells c6.toArray 30)) := ⟨_, rfl⟩
       obtain ⟨g6, HGG6⟩ : ∃ z, Hid (z = wa5.heap.size) := ⟨_, rfl⟩
       rw [← HW6.out] at n6 b6 ⊢
       rw [← HGG6.out] at n6 ⊢
       clear HW6 HGG6)
    | (with_reducible refine wpSeq_box 30 (.tmp 7) ?_ c7 ?_ ?_ (wa6.alloc (.cells c7.toArray 30)) ?_ ?_
       · rfl
       · rfl
       · rfl
       · rfl
       have n7 : Blk (wa6.alloc (.cells c7.toArray 30)) wa6.heap.size c7 30 := Blk.new wa6 c7 _
       have b7 := below_alloc wa6 (.cells c7.toArray 30)
       obtain ⟨wa7, HW7⟩ : ∃ z, Hid (z = wa6.alloc (.cells c7.toArray 30)) := ⟨_, rfl⟩
       obtain ⟨g7, HGG7⟩ : ∃ z, Hid (z = wa6.heap.size) := ⟨_, rfl⟩
       rw [← HW7.out] at n7 b7 ⊢
       rw [← HGG7.out] at n7 ⊢
       clear HW7 HGG7))
  have t0 : Below w.heap.size w wa0 := b0
  have t1 : Below w.heap.size w wa1 := t0.trans (b1.mono t0.size)
  have t2 : Below w.heap.size w wa2 := t1.trans (b2.mono t1.size)
  have t3 : Below w.heap.size w wa3 := t2.trans (b3.mono t2.size)
  have t4 : Below w.heap.size w wa4 := t3.trans (b4.mono t3.size)
  have t5 : Below w.heap.size w wa5 := t4.trans (b5.mono t4.size)
  have t6 : Below w.heap.size w wa6 := t5.trans (b6.mono t5.size)
  have t7 : Below w.heap.size w wa7 := t6.trans (b7.mono t6.size)
  replace n0 := n0.below b1 n0.lt
  replace n0 := n0.below b2 n0.lt
  replace n0 := n0.below b3 n0.lt
  replace n0 := n0.below b4 n0.lt
  replace n0 := n0.below b5 n0.lt
  replace n0 := n0.below b6 n0.lt
  replace n0 := n0.below b7 n0.lt
  replace n1 := n1.below b2 n1.lt
  replace n1 := n1.below b3 n1.lt
  replace n1 := n1.below b4 n1.lt
  replace n1 := n1.below b5 n1.lt
  replace n1 := n1.below b6 n1.lt
  replace n1 := n1.below b7 n1.lt
  replace n2 := n2.below b3 n2.lt
  replace n2 := n2.below b4 n2.lt
  replace n2 := n2.below b5 n2.lt
  replace n2 := n2.below b6 n2.lt
  replace n2 := n2.below b7 n2.lt
  replace n3 := n3.below b4 n3.lt
  replace n3 := n3.below b5 n3.lt
  replace n3 := n3.below b6 n3.lt
  replace n3 := n3.below b7 n3.lt
  replace n4 := n4.below b5 n4.lt
  replace n4 := n4.below b6 n4.lt
  replace n4 := n4.below b7 n4.lt
  replace n5 := n5.below b6 n5.lt
  replace n5 := n5.below b7 n5.lt
  replace n6 := n6.below b7 n6.lt
  have HI : Hid (ApS w g0 g1 g2 g3 g4 g5 g6 g7 c0 c1 c2 c3 c4 c5 c6 c7 v0 v1 v2 v3 v4 v5 v6 v7 l0 l1 l2 l3 l4 l5 d6 d7 wa7) := ⟨n0, HK0.out.below t7, n1, HK1.out.below t7, n2, HK2.out.below t7, n3, HK3.out.below t7, n4, HK4.out.below t7, n5, HK5.out.below t7, n6, HK6.out.below t7, n7, HK7.out.below t7, t7⟩
  clear n0 b0 t0 HK0 n1 b1 t1 HK1 n2 b2 t2 HK2 n3 b3 t3 HK3 n4 b4 t4 HK4 n5 b5 t5 HK5 n6 b6 t6 HK6 n7 b7 t7 HK7
  obtain ⟨wv, HWV⟩ : ∃ z, Hid (z = wa7) := ⟨_, rfl⟩
  rw [← HWV.out] at HI ⊢
  clear HWV
  obtain ⟨e0, HE0⟩ : ∃ e, Hid (e = encBinding (nm0, l0, sr0)) := ⟨_, rfl⟩
  obtain ⟨e1, HE1⟩ : ∃ e, Hid (e = encBinding (nm1, l1, sr1)) := ⟨_, rfl⟩
  obtain ⟨pp0, HPP0⟩ : ∃ p, Hid (p = decide (nm0 = nm1 ∧ sr0 = sr1 ∧ l0 = l1)) := ⟨_, rfl⟩
  have HEQ0 : Hid (decide (e0 = e1) = pp0) := by
    show _ = _
    rw [HPP0.out, HE0.out, HE1.out, decide_eq_decide]
    rw [binding_inj ⟨by show nm0.length < _; have := HSR0.out.2; omega, by show l0.length < _; have := HSR0.out.2; omega, HSR0.out.1⟩ ⟨by show nm1.length < _; have := HSR1.out.2; omega, by show l1.length < _; have := HSR1.out.2; omega, HSR1.out.1⟩]
    simp only [Prod.mk.injEq]
    exact ⟨fun ⟨h1, h2, h3⟩ => ⟨h1, h3, h2⟩, fun ⟨h1, h2, h3⟩ => ⟨h1, h3, h2⟩⟩
  have HWI : Hid (∀ W, Reads W v0 l0 → Calls Try.prog 15 #[.agg c0.toArray] W fun e w' => ∃ v', e = .returned v' ∧ Reads w' v' e0 ∧ Below W.heap.size W w') := fun W h => by rw [HC0.out, HE0.out]; exact rbind_any nm0 l0 v0 sr0 HSR0.out.1 W h (by have := HSR0.out.2; omega)
  have HWJ : Hid (∀ W, Reads W v1 l1 → Calls Try.prog 15 #[.agg c1.toArray] W fun e w' => ∃ v', e = .returned v' ∧ Reads w' v' e1 ∧ Below W.heap.size W w') := fun W h => by rw [HC1.out, HE1.out]; exact rbind_any nm1 l1 v1 sr1 HSR1.out.1 W h (by have := HSR1.out.2; omega)
  have HSM : Hid (∀ W, Reads W v0 l0 → Reads W v1 l1 → Calls Try.prog 25 #[.agg c0.toArray, .agg c1.toArray] W fun e w' => e = .returned (.bool pp0) ∧ Below W.heap.size W w') := fun W h1 h2 => by rw [HC0.out, HC1.out, HPP0.out]; exact sameBinding_any nm0 nm1 l0 l1 v0 v1 sr0 sr1 W h1 h2
  refine wp_region_held_drew (S := Over wv.drew) (by kernel_rfl) (Over.refl _) ?_
  intro hS
  refine wpAnyH_take (i := 0) (v := .agg c0.toArray) rfl (by kernel_rfl) (by kernel_rfl) (by kernel_rfl) (fun _ _ _ h => h) (Or.inl ⟨by rfl, fun wx hx => by exact load_run 25 _ rfl g0 0 rfl c0 _ (hx.blkO HI.out.b0.drew).range Try.underlying25 rfl HI0.out⟩) hS ?_
  simp only [Act.put, List.getElem_toArray, List.getElem_cons_zero, List.setIfInBounds_toArray, List.set_cons_zero, List.set_cons_succ]
  refine wpAnyH_take (i := 2) (v := .agg c1.toArray) rfl (by kernel_rfl) (by kernel_rfl) (by kernel_rfl) (fun _ _ _ h => h) (Or.inl ⟨by rfl, fun wx hx => by exact load_run 25 _ rfl g1 0 rfl c1 _ (hx.blkO HI.out.b1.drew).range Try.underlying25 rfl HI1.out⟩) hS ?_
  simp only [Act.put, List.getElem_toArray, List.getElem_cons_succ, List.getElem_cons_zero, List.setIfInBounds_toArray, List.set_cons_zero, List.set_cons_succ]
  refine wpAnyH_take (i := 5) (v := .agg c0.toArray) rfl (by kernel_rfl) (by kernel_rfl) (by kernel_rfl) (fun _ _ _ h => h) (Or.inl ⟨by rfl, fun wx hx => by exact load_run 25 _ rfl g0 0 rfl c0 _ (hx.blkO HI.out.b0.drew).range Try.underlying25 rfl HI0.out⟩) hS ?_
  simp only [Act.put, List.getElem_toArray, List.getElem_cons_succ, List.getElem_cons_zero, List.setIfInBounds_toArray, List.set_cons_zero, List.set_cons_succ]
  refine wpAnyH_take (i := 6) (v := .agg c1.toArray) rfl (by kernel_rfl) (by kernel_rfl) (by kernel_rfl) (fun _ _ _ h => h) (Or.inl ⟨by rfl, fun wx hx => by exact load_run 25 _ rfl g1 0 rfl c1 _ (hx.blkO HI.out.b1.drew).range Try.underlying25 rfl HI1.out⟩) hS ?_
  simp only [Act.put, List.getElem_toArray, List.getElem_cons_succ, List.getElem_cons_zero, List.setIfInBounds_toArray, List.set_cons_zero, List.set_cons_succ]
  refine wpAnyH_enter 1 (by kernel_rfl) rfl (by rfl) (f := 15) (args := #[.agg c0.toArray]) (by simp [go_sem]) (HWI.out _ ((HI.out.over hS).k0)) ?_
  rintro e wy ⟨u1, rfl, r1, hbq⟩
  refine ⟨_, rfl, hS.more hbq, ?_⟩
  replace hS := hS.more hbq
  clear hbq
  simp only [Act.put, List.getElem_toArray, List.getElem_cons_succ, List.getElem_cons_zero, List.setIfInBounds_toArray, List.set_cons_zero, List.set_cons_succ]
  refine wpAnyH_enter 3 (by kernel_rfl) rfl (by rfl) (f := 15) (args := #[.agg c1.toArray]) (by simp [go_sem]) (HWJ.out _ ((HI.out.over hS).k1)) ?_
  rintro e wy ⟨u2, rfl, r2, hbq⟩
  refine ⟨_, rfl, hS.more hbq, ?_⟩
  replace hS := hS.more hbq
  replace r1 := r1.below hbq
  clear hbq
  simp only [Act.put, List.getElem_toArray, List.getElem_cons_succ, List.getElem_cons_zero, List.setIfInBounds_toArray, List.set_cons_zero, List.set_cons_succ]
  refine wpAnyH_enter 4 (by kernel_rfl) rfl (by rfl) (f := 14) (args := #[u1, u2]) (by simp [go_sem]) (same_b _ _ _ _ _ r1 r2) ?_
  rintro e wy ⟨rfl, hbq⟩
  refine ⟨_, rfl, hS.more hbq, ?_⟩
  replace hS := hS.more hbq
  rw [HEQ0.out]
  clear r1 r2
  clear hbq
  simp only [Act.put, List.getElem_toArray, List.getElem_cons_succ, List.getElem_cons_zero, List.setIfInBounds_toArray, List.set_cons_zero, List.set_cons_succ]
  refine wpAnyH_enter 7 (by kernel_rfl) rfl (by rfl) (f := 25) (args := #[.agg c0.toArray, .agg c1.toArray]) (by simp [go_sem]) (HSM.out _ ((HI.out.over hS).k0) ((HI.out.over hS).k1)) ?_
  rintro e wy ⟨rfl, hbq⟩
  refine ⟨_, rfl, hS.more hbq, ?_⟩
  replace hS := hS.more hbq
  clear hbq
  simp only [Act.put, List.getElem_toArray, List.getElem_cons_succ, List.getElem_cons_zero, List.setIfInBounds_toArray, List.set_cons_zero, List.set_cons_succ]
  refine wpAnyH_take (i := 8) (v := .bool true) rfl (by kernel_rfl) (by kernel_rfl) (by kernel_rfl) (fun _ _ _ h => h) (Or.inl ⟨by rfl, fun wx hx => by simp [go_sem]⟩) hS ?_
  simp only [Act.put, List.getElem_toArray, List.getElem_cons_succ, List.getElem_cons_zero, List.setIfInBounds_toArray, List.set_cons_zero, List.set_cons_succ]
  refine wpAnyH_take (i := 9) (v := .bool true) rfl (by kernel_rfl) (by kernel_rfl) (by kernel_rfl) (fun _ _ _ h => h) (Or.inl ⟨by rfl, fun wx hx => by simp [go_sem]⟩) hS ?_
  simp only [Act.put, List.getElem_toArray, List.getElem_cons_succ, List.getElem_cons_zero, List.setIfInBounds_toArray, List.set_cons_zero, List.set_cons_succ]
  refine wpAnyH_done (by kernel_rfl) ?_ _
  replace HI : Hid (ApS w g0 g1 g2 g3 g4 g5 g6 g7 c0 c1 c2 c3 c4 c5 c6 c7 v0 v1 v2 v3 v4 v5 v6 v7 l0 l1 l2 l3 l4 l5 d6 d7 wy) := HI.out.over hS
  clear hS HWI HWJ HSM
  obtain ⟨wb, HWQ⟩ : ∃ z, Hid (z = wy) := ⟨_, rfl⟩
  rw [← HWQ.out] at HI ⊢
  clear HWQ
  go_wp2_with fail
  obtain ⟨e4, HE4⟩ : ∃ e, Hid (e = encSigned (ep4, x4, y4, z4, l4)) := ⟨_, rfl⟩
  obtain ⟨e5, HE5⟩ : ∃ e, Hid (e = encSigned (ep5, x5, y5, z5, l5)) := ⟨_, rfl⟩
  obtain ⟨pp4, HPP4⟩ : ∃ p, Hid (p = decide ((ep4 = ep5 ∧ x4 = x5 ∧ y4 = y5 ∧ z4 = z5) ∧ l4 = l5)) := ⟨_, rfl⟩
  have HEQ4 : Hid (decide (e4 = e5) = pp4) := by
    show _ = _
    rw [HPP4.out, HE4.out, HE5.out, decide_eq_decide]
    rw [pre_signed.inj (a := (ep4, x4, y4, z4, l4)) (b := (ep5, x5, y5, z5, l5)) ⟨HSG4.out.1.1, HSG4.out.1.2.1, HSG4.out.1.2.2.1, HSG4.out.1.2.2.2, by show l4.length < _; have := HSG4.out.2; omega⟩ ⟨HSG5.out.1.1, HSG5.out.1.2.1, HSG5.out.1.2.2.1, HSG5.out.1.2.2.2, by show l5.length < _; have := HSG5.out.2; omega⟩]
    simp only [Prod.mk.injEq]
    exact ⟨fun ⟨h1, h2, h3, h4, h5⟩ => ⟨⟨h1, h2, h3, h4⟩, h5⟩, fun ⟨⟨h1, h2, h3, h4⟩, h5⟩ => ⟨h1, h2, h3, h4, h5⟩⟩
  have HWI : Hid (∀ W, Reads W v4 l4 → Calls Try.prog 19 #[.agg c4.toArray] W fun e w' => ∃ v', e = .returned v' ∧ Reads w' v' e4 ∧ Below W.heap.size W w') := fun W h => by rw [HC4.out, HE4.out]; exact rsigned_any ep4 x4 y4 z4 l4 v4 HSG4.out.1.1 HSG4.out.1.2.1 HSG4.out.1.2.2.1 HSG4.out.1.2.2.2 W h (by have := HSG4.out.2; omega)
  have HWJ : Hid (∀ W, Reads W v5 l5 → Calls Try.prog 19 #[.agg c5.toArray] W fun e w' => ∃ v', e = .returned v' ∧ Reads w' v' e5 ∧ Below W.heap.size W w') := fun W h => by rw [HC5.out, HE5.out]; exact rsigned_any ep5 x5 y5 z5 l5 v5 HSG5.out.1.1 HSG5.out.1.2.1 HSG5.out.1.2.2.1 HSG5.out.1.2.2.2 W h (by have := HSG5.out.2; omega)
  have HSM : Hid (∀ W, Reads W v4 l4 → Reads W v5 l5 → Calls Try.prog 31 #[.agg c4.toArray, .agg c5.toArray] W fun e w' => e = .returned (.bool pp4) ∧ Below W.heap.size W w') := fun W h1 h2 => by rw [HC4.out, HC5.out, HPP4.out]; exact sameSgn_any ep4 ep5 x4 y4 z4 x5 y5 z5 l4 l5 v4 v5 W HSG4.out.1.2 HSG5.out.1.2 h1 h2
  refine wp_region_held_drew (S := Over wb.drew) (by kernel_rfl) (Over.refl _) ?_
  intro hS
  refine wpAnyH_take (i := 0) (v := .bool true) rfl (by kernel_rfl) (by kernel_rfl) (by kernel_rfl) (fun _ _ _ h => h) (Or.inl ⟨by rfl, fun wx hx => by simp [go_sem]⟩) hS ?_
  simp only [Act.put, List.getElem_toArray, List.getElem_cons_zero, List.setIfInBounds_toArray, List.set_cons_zero, List.set_cons_succ]
  refine wpAnyH_take (i := 1) (v := .bool true) rfl (by kernel_rfl) (by kernel_rfl) (by kernel_rfl) (fun _ _ _ h => h) (Or.inl ⟨by rfl, fun wx hx => by simp [go_sem]⟩) hS ?_
  simp only [Act.put, List.getElem_toArray, List.getElem_cons_succ, List.getElem_cons_zero, List.setIfInBounds_toArray, List.set_cons_zero, List.set_cons_succ]
  refine wpAnyH_take (i := 2) (v := .agg c4.toArray) rfl (by kernel_rfl) (by kernel_rfl) (by kernel_rfl) (fun _ _ _ h => h) (Or.inl ⟨by rfl, fun wx hx => by exact load_run 42 _ rfl g4 0 rfl c4 _ (hx.blkO HI.out.b4.drew).range Try.underlying42 rfl HI4.out⟩) hS ?_
  simp only [Act.put, List.getElem_toArray, List.getElem_cons_succ, List.getElem_cons_zero, List.setIfInBounds_toArray, List.set_cons_zero, List.set_cons_succ]
  refine wpAnyH_take (i := 4) (v := .agg c5.toArray) rfl (by kernel_rfl) (by kernel_rfl) (by kernel_rfl) (fun _ _ _ h => h) (Or.inl ⟨by rfl, fun wx hx => by exact load_run 42 _ rfl g5 0 rfl c5 _ (hx.blkO HI.out.b5.drew).range Try.underlying42 rfl HI5.out⟩) hS ?_
  simp only [Act.put, List.getElem_toArray, List.getElem_cons_succ, List.getElem_cons_zero, List.setIfInBounds_toArray, List.set_cons_zero, List.set_cons_succ]
  refine wpAnyH_take (i := 7) (v := .agg c4.toArray) rfl (by kernel_rfl) (by kernel_rfl) (by kernel_rfl) (fun _ _ _ h => h) (Or.inl ⟨by rfl, fun wx hx => by exact load_run 42 _ rfl g4 0 rfl c4 _ (hx.blkO HI.out.b4.drew).range Try.underlying42 rfl HI4.out⟩) hS ?_
  simp only [Act.put, List.getElem_toArray, List.getElem_cons_succ, List.getElem_cons_zero, List.setIfInBounds_toArray, List.set_cons_zero, List.set_cons_succ]
  refine wpAnyH_take (i := 8) (v := .agg c5.toArray) rfl (by kernel_rfl) (by kernel_rfl) (by kernel_rfl) (fun _ _ _ h => h) (Or.inl ⟨by rfl, fun wx hx => by exact load_run 42 _ rfl g5 0 rfl c5 _ (hx.blkO HI.out.b5.drew).range Try.underlying42 rfl HI5.out⟩) hS ?_
  simp only [Act.put, List.getElem_toArray, List.getElem_cons_succ, List.getElem_cons_zero, List.setIfInBounds_toArray, List.set_cons_zero, List.set_cons_succ]
  refine wpAnyH_enter 3 (by kernel_rfl) rfl (by rfl) (f := 19) (args := #[.agg c4.toArray]) (by simp [go_sem]) (HWI.out _ ((HI.out.over hS).k4)) ?_
  rintro e wy ⟨u1, rfl, r1, hbq⟩
  refine ⟨_, rfl, hS.more hbq, ?_⟩
  replace hS := hS.more hbq
  clear hbq
  simp only [Act.put, List.getElem_toArray, List.getElem_cons_succ, List.getElem_cons_zero, List.setIfInBounds_toArray, List.set_cons_zero, List.set_cons_succ]
  refine wpAnyH_enter 5 (by kernel_rfl) rfl (by rfl) (f := 19) (args := #[.agg c5.toArray]) (by simp [go_sem]) (HWJ.out _ ((HI.out.over hS).k5)) ?_
  rintro e wy ⟨u2, rfl, r2, hbq⟩
  refine ⟨_, rfl, hS.more hbq, ?_⟩
  replace hS := hS.more hbq
  replace r1 := r1.below hbq
  clear hbq
  simp only [Act.put, List.getElem_toArray, List.getElem_cons_succ, List.getElem_cons_zero, List.setIfInBounds_toArray, List.set_cons_zero, List.set_cons_succ]
  refine wpAnyH_enter 6 (by kernel_rfl) rfl (by rfl) (f := 14) (args := #[u1, u2]) (by simp [go_sem]) (same_b _ _ _ _ _ r1 r2) ?_
  rintro e wy ⟨rfl, hbq⟩
  refine ⟨_, rfl, hS.more hbq, ?_⟩
  replace hS := hS.more hbq
  rw [HEQ4.out]
  clear r1 r2
  clear hbq
  simp only [Act.put, List.getElem_toArray, List.getElem_cons_succ, List.getElem_cons_zero, List.setIfInBounds_toArray, List.set_cons_zero, List.set_cons_succ]
  refine wpAnyH_enter 9 (by kernel_rfl) rfl (by rfl) (f := 31) (args := #[.agg c4.toArray, .agg c5.toArray]) (by simp [go_sem]) (HSM.out _ ((HI.out.over hS).k4) ((HI.out.over hS).k5)) ?_
  rintro e wy ⟨rfl, hbq⟩
  refine ⟨_, rfl, hS.more hbq, ?_⟩
  replace hS := hS.more hbq
  clear hbq
  simp only [Act.put, List.getElem_toArray, List.getElem_cons_succ, List.getElem_cons_zero, List.setIfInBounds_toArray, List.set_cons_zero, List.set_cons_succ]
  refine wpAnyH_take (i := 10) (v := .bool true) rfl (by kernel_rfl) (by kernel_rfl) (by kernel_rfl) (fun _ _ _ h => h) (Or.inl ⟨by rfl, fun wx hx => by simp [go_sem]⟩) hS ?_
  simp only [Act.put, List.getElem_toArray, List.getElem_cons_succ, List.getElem_cons_zero, List.setIfInBounds_toArray, List.set_cons_zero, List.set_cons_succ]
  refine wpAnyH_take (i := 11) (v := .bool true) rfl (by kernel_rfl) (by kernel_rfl) (by kernel_rfl) (fun _ _ _ h => h) (Or.inl ⟨by rfl, fun wx hx => by simp [go_sem]⟩) hS ?_
  simp only [Act.put, List.getElem_toArray, List.getElem_cons_succ, List.getElem_cons_zero, List.setIfInBounds_toArray, List.set_cons_zero, List.set_cons_succ]
  refine wpAnyH_take (i := 12) (v := .bool true) rfl (by kernel_rfl) (by kernel_rfl) (by kernel_rfl) (fun _ _ _ h => h) (Or.inl ⟨by rfl, fun wx hx => by simp [go_sem]⟩) hS ?_
  simp only [Act.put, List.getElem_toArray, List.getElem_cons_succ, List.getElem_cons_zero, List.setIfInBounds_toArray, List.set_cons_zero, List.set_cons_succ]
  refine wpAnyH_done (by kernel_rfl) ?_ _
  replace HI : Hid (ApS w g0 g1 g2 g3 g4 g5 g6 g7 c0 c1 c2 c3 c4 c5 c6 c7 v0 v1 v2 v3 v4 v5 v6 v7 l0 l1 l2 l3 l4 l5 d6 d7 wy) := HI.out.over hS
  clear hS HWI HWJ HSM
  obtain ⟨wd, HWQ⟩ : ∃ z, Hid (z = wy) := ⟨_, rfl⟩
  rw [← HWQ.out] at HI ⊢
  clear HWQ
  obtain ⟨m2, HM2⟩ : ∃ m, Hid (m = mayQ kd2 nm2 l2 au2) := ⟨_, rfl⟩
  obtain ⟨m3, HM3⟩ : ∃ m, Hid (m = mayQ kd3 nm3 l3 au3) := ⟨_, rfl⟩
  have HT2 : Hid (∀ W, Reads W v2 l2 → Calls Try.prog 35 #[.agg c2.toArray] W fun e w' => e = .returned (.bool m2) ∧ Below W.heap.size W w') := fun W h => by rw [HC2.out, HM2.out]; exact rmay_any kd2 nm2 l2 au2 v2 HAU2.out W h
  have HT3 : Hid (∀ W, Reads W v3 l3 → Calls Try.prog 35 #[.agg c3.toArray] W fun e w' => e = .returned (.bool m3) ∧ Below W.heap.size W w') := fun W h => by rw [HC3.out, HM3.out]; exact rmay_any kd3 nm3 l3 au3 v3 HAU3.out W h
  go_upto_region 3 with fail
  go_cut [44] from 39 to 44 (fun b W => b = .bool (m2 && m3) ∧ ApS w g0 g1 g2 g3 g4 g5 g6 g7 c0 c1 c2 c3 c4 c5 c6 c7 v0 v1 v2 v3 v4 v5 v6 v7 l0 l1 l2 l3 l4 l5 d6 d7 W)
  case first =>
    cases m2
    all_goals cases m3
    all_goals
      go_wp2_with (first
        | (with_reducible refine wpSeq_loadK 38 (.tmp 10) ?_ ?_ g2 ?_ c2 _ HI.out.b2 Try.underlying38 ?_ HI2.out ?_
           · with_reducible rfl
           · rfl
           · rfl
           · rfl)
        | (with_reducible refine wpSeq_loadK 38 (.tmp 11) ?_ ?_ g3 ?_ c3 _ HI.out.b3 Try.underlying38 ?_ HI3.out ?_
           · with_reducible rfl
           · rfl
           · rfl
           · rfl)
        | (go_at_call 35; refine (HT2.out _ HI.out.k2).mono ?_; clear HT2
           rintro e wf ⟨rfl, hbe⟩
           replace HI : Hid (ApS w g0 g1 g2 g3 g4 g5 g6 g7 c0 c1 c2 c3 c4 c5 c6 c7 v0 v1 v2 v3 v4 v5 v6 v7 l0 l1 l2 l3 l4 l5 d6 d7 wf) := HI.out.next hbe
           clear hbe)
        | (go_at_call 35; refine (HT3.out _ HI.out.k3).mono ?_; clear HT3
           rintro e wf ⟨rfl, hbe⟩
           replace HI : Hid (ApS w g0 g1 g2 g3 g4 g5 g6 g7 c0 c1 c2 c3 c4 c5 c6 c7 v0 v1 v2 v3 v4 v5 v6 v7 l0 l1 l2 l3 l4 l5 d6 d7 wf) := HI.out.next hbe
           clear hbe))
      go_meet
      case rel => exact ⟨rfl, HI.out⟩
  case rest =>
    clear HI
    obtain ⟨rfl, hcut⟩ := hcut
    have HI : Hid (ApS w g0 g1 g2 g3 g4 g5 g6 g7 c0 c1 c2 c3 c4 c5 c6 c7 v0 v1 v2 v3 v4 v5 v6 v7 l0 l1 l2 l3 l4 l5 d6 d7 wc) := hcut
    clear hcut
    obtain ⟨we, HWQ⟩ : ∃ z, Hid (z = wc) := ⟨_, rfl⟩
    rw [← HWQ.out] at HI ⊢
    clear HWQ
    go_upto_if 44 with fail
    go_cut [17] from 44 to 56 (fun b W => b = .bool true ∧ ApS w g0 g1 g2 g3 g4 g5 g6 g7 c0 c1 c2 c3 c4 c5 c6 c7 v0 v1 v2 v3 v4 v5 v6 v7 l0 l1 l2 l3 l4 l5 d6 d7 W)
    case first =>
      by_cases hm : (m2 && m3) = true
      · rw [hm]
        obtain ⟨hm2, hm3⟩ := Bool.and_eq_true_iff.1 hm
        obtain ⟨hq2, k2, rfl, a2, b2, f2⟩ := mayQ_ok (HM2.out.symm.trans hm2)
        obtain ⟨hq3, k3, rfl, a3, b3, f3⟩ := mayQ_ok (HM3.out.symm.trans hm3)
        have HQ2 : Hid (chk nm2 l2 = 0 ∧ k2 ≤ 2 ∧ (k2 ≠ 2 → au2 = zb32)) := ⟨hq2, b2, f2⟩
        have HQ3 : Hid (chk nm3 l3 = 0 ∧ k3 ≤ 2 ∧ (k3 ≠ 2 → au3 = zb32)) := ⟨hq3, b3, f3⟩
        have ok2 : okRequest (k2, nm2, l2, au2) := ⟨b2, by have := nameOk_len (chk_zero hq2).1; show nm2.length ≤ _; omega, by have := keyOk_len (chk_zero hq2).2; show l2.length ≤ _; omega, HAU2.out, f2⟩
        have ok3 : okRequest (k3, nm3, l3, au3) := ⟨b3, by have := nameOk_len (chk_zero hq3).1; show nm3.length ≤ _; omega, by have := keyOk_len (chk_zero hq3).2; show l3.length ≤ _; omega, HAU3.out, f3⟩
        have HO2 : Hid (okRequest (k2, nm2, l2, au2)) := ok2
        have HO3 : Hid (okRequest (k3, nm3, l3, au3)) := ok3
        clear hq2 a2 b2 f2 hq3 a3 b3 f3 ok2 ok3 hm hm2 hm3 HM2 HM3 HT2 HT3
        go_wp2_with fail
        obtain ⟨e2, HE2⟩ : ∃ e, Hid (e = encRequest (k2, nm2, l2, au2)) := ⟨_, rfl⟩
        obtain ⟨e3, HE3⟩ : ∃ e, Hid (e = encRequest (k3, nm3, l3, au3)) := ⟨_, rfl⟩
        obtain ⟨pp2, HPP2⟩ : ∃ p, Hid (p = decide ((k2 : Int) = (k3 : Int) ∧ nm2 = nm3 ∧ l2 = l3 ∧ au2 = au3)) := ⟨_, rfl⟩
        have HEQ2 : Hid (decide (e2 = e3) = pp2) := by
          show _ = _
          rw [HPP2.out, HE2.out, HE3.out, decide_eq_decide]
          rw [request_inj HO2.out HO3.out]
          simp only [Prod.mk.injEq]
          exact ⟨fun ⟨h1, h2⟩ => ⟨by omega, h2⟩, fun ⟨h1, h2⟩ => ⟨by omega, h2⟩⟩
        have HWI : Hid (∀ W, Reads W v2 l2 → Calls Try.prog 17 #[.agg c2.toArray] W fun e w' => ∃ v', e = .returned v' ∧ Reads w' v' e2 ∧ Below W.heap.size W w') := fun W h => by rw [HC2.out, HE2.out]; exact wkRequest HQ2.out.1 HQ2.out.2.1 HAU2.out h
        have HWJ : Hid (∀ W, Reads W v3 l3 → Calls Try.prog 17 #[.agg c3.toArray] W fun e w' => ∃ v', e = .returned v' ∧ Reads w' v' e3 ∧ Below W.heap.size W w') := fun W h => by rw [HC3.out, HE3.out]; exact wkRequest HQ3.out.1 HQ3.out.2.1 HAU3.out h
        have HSM : Hid (∀ W, Reads W v2 l2 → Reads W v3 l3 → Calls Try.prog 28 #[.agg c2.toArray, .agg c3.toArray] W fun e w' => e = .returned (.bool pp2) ∧ Below W.heap.size W w') := fun W h1 h2 => by rw [HC2.out, HC3.out, HPP2.out]; exact sameReq_any (k2 : Int) (k3 : Int) nm2 nm3 l2 l3 au2 au3 v2 v3 W HAU2.out HAU3.out h1 h2
        refine wp_region_held_drew (S := Over we.drew) (by kernel_rfl) (Over.refl _) ?_
        intro hS
        refine wpAnyH_take (i := 0) (v := .bool true) rfl (by kernel_rfl) (by kernel_rfl) (by kernel_rfl) (fun _ _ _ h => h) (Or.inl ⟨by rfl, fun wx hx => by simp [go_sem]⟩) hS ?_
        simp only [Act.put, List.getElem_toArray, List.getElem_cons_zero, List.setIfInBounds_toArray, List.set_cons_zero, List.set_cons_succ]
        refine wpAnyH_take (i := 1) (v := .bool true) rfl (by kernel_rfl) (by kernel_rfl) (by kernel_rfl) (fun _ _ _ h => h) (Or.inl ⟨by rfl, fun wx hx => by simp [go_sem]⟩) hS ?_
        simp only [Act.put, List.getElem_toArray, List.getElem_cons_succ, List.getElem_cons_zero, List.setIfInBounds_toArray, List.set_cons_zero, List.set_cons_succ]
        refine wpAnyH_take (i := 2) (v := .agg c2.toArray) rfl (by kernel_rfl) (by kernel_rfl) (by kernel_rfl) (fun _ _ _ h => h) (Or.inl ⟨by rfl, fun wx hx => by exact load_run 38 _ rfl g2 0 rfl c2 _ (hx.blkO HI.out.b2.drew).range Try.underlying38 rfl HI2.out⟩) hS ?_
        simp only [Act.put, List.getElem_toArray, List.getElem_cons_succ, List.getElem_cons_zero, List.setIfInBounds_toArray, List.set_cons_zero, List.set_cons_succ]
        refine wpAnyH_take (i := 4) (v := .agg c3.toArray) rfl (by kernel_rfl) (by kernel_rfl) (by kernel_rfl) (fun _ _ _ h => h) (Or.inl ⟨by rfl, fun wx hx => by exact load_run 38 _ rfl g3 0 rfl c3 _ (hx.blkO HI.out.b3.drew).range Try.underlying38 rfl HI3.out⟩) hS ?_
        simp only [Act.put, List.getElem_toArray, List.getElem_cons_succ, List.getElem_cons_zero, List.setIfInBounds_toArray, List.set_cons_zero, List.set_cons_succ]
        refine wpAnyH_take (i := 7) (v := .agg c2.toArray) rfl (by kernel_rfl) (by kernel_rfl) (by kernel_rfl) (fun _ _ _ h => h) (Or.inl ⟨by rfl, fun wx hx => by exact load_run 38 _ rfl g2 0 rfl c2 _ (hx.blkO HI.out.b2.drew).range Try.underlying38 rfl HI2.out⟩) hS ?_
        simp only [Act.put, List.getElem_toArray, List.getElem_cons_succ, List.getElem_cons_zero, List.setIfInBounds_toArray, List.set_cons_zero, List.set_cons_succ]
        refine wpAnyH_take (i := 8) (v := .agg c3.toArray) rfl (by kernel_rfl) (by kernel_rfl) (by kernel_rfl) (fun _ _ _ h => h) (Or.inl ⟨by rfl, fun wx hx => by exact load_run 38 _ rfl g3 0 rfl c3 _ (hx.blkO HI.out.b3.drew).range Try.underlying38 rfl HI3.out⟩) hS ?_
        simp only [Act.put, List.getElem_toArray, List.getElem_cons_succ, List.getElem_cons_zero, List.setIfInBounds_toArray, List.set_cons_zero, List.set_cons_succ]
        refine wpAnyH_enter 3 (by kernel_rfl) rfl (by rfl) (f := 17) (args := #[.agg c2.toArray]) (by simp [go_sem]) (HWI.out _ ((HI.out.over hS).k2)) ?_
        rintro e wy ⟨u1, rfl, r1, hbq⟩
        refine ⟨_, rfl, hS.more hbq, ?_⟩
        replace hS := hS.more hbq
        clear hbq
        simp only [Act.put, List.getElem_toArray, List.getElem_cons_succ, List.getElem_cons_zero, List.setIfInBounds_toArray, List.set_cons_zero, List.set_cons_succ]
        refine wpAnyH_enter 5 (by kernel_rfl) rfl (by rfl) (f := 17) (args := #[.agg c3.toArray]) (by simp [go_sem]) (HWJ.out _ ((HI.out.over hS).k3)) ?_
        rintro e wy ⟨u2, rfl, r2, hbq⟩
        refine ⟨_, rfl, hS.more hbq, ?_⟩
        replace hS := hS.more hbq
        replace r1 := r1.below hbq
        clear hbq
        simp only [Act.put, List.getElem_toArray, List.getElem_cons_succ, List.getElem_cons_zero, List.setIfInBounds_toArray, List.set_cons_zero, List.set_cons_succ]
        refine wpAnyH_enter 6 (by kernel_rfl) rfl (by rfl) (f := 14) (args := #[u1, u2]) (by simp [go_sem]) (same_b _ _ _ _ _ r1 r2) ?_
        rintro e wy ⟨rfl, hbq⟩
        refine ⟨_, rfl, hS.more hbq, ?_⟩
        replace hS := hS.more hbq
        rw [HEQ2.out]
        clear r1 r2
        clear hbq
        simp only [Act.put, List.getElem_toArray, List.getElem_cons_succ, List.getElem_cons_zero, List.setIfInBounds_toArray, List.set_cons_zero, List.set_cons_succ]
        refine wpAnyH_enter 9 (by kernel_rfl) rfl (by rfl) (f := 28) (args := #[.agg c2.toArray, .agg c3.toArray]) (by simp [go_sem]) (HSM.out _ ((HI.out.over hS).k2) ((HI.out.over hS).k3)) ?_
        rintro e wy ⟨rfl, hbq⟩
        refine ⟨_, rfl, hS.more hbq, ?_⟩
        replace hS := hS.more hbq
        clear hbq
        simp only [Act.put, List.getElem_toArray, List.getElem_cons_succ, List.getElem_cons_zero, List.setIfInBounds_toArray, List.set_cons_zero, List.set_cons_succ]
        refine wpAnyH_take (i := 10) (v := .bool true) rfl (by kernel_rfl) (by kernel_rfl) (by kernel_rfl) (fun _ _ _ h => h) (Or.inl ⟨by rfl, fun wx hx => by simp [go_sem]⟩) hS ?_
        simp only [Act.put, List.getElem_toArray, List.getElem_cons_succ, List.getElem_cons_zero, List.setIfInBounds_toArray, List.set_cons_zero, List.set_cons_succ]
        refine wpAnyH_take (i := 11) (v := .bool true) rfl (by kernel_rfl) (by kernel_rfl) (by kernel_rfl) (fun _ _ _ h => h) (Or.inl ⟨by rfl, fun wx hx => by simp [go_sem]⟩) hS ?_
        simp only [Act.put, List.getElem_toArray, List.getElem_cons_succ, List.getElem_cons_zero, List.setIfInBounds_toArray, List.set_cons_zero, List.set_cons_succ]
        refine wpAnyH_take (i := 12) (v := .bool true) rfl (by kernel_rfl) (by kernel_rfl) (by kernel_rfl) (fun _ _ _ h => h) (Or.inl ⟨by rfl, fun wx hx => by simp [go_sem]⟩) hS ?_
        simp only [Act.put, List.getElem_toArray, List.getElem_cons_succ, List.getElem_cons_zero, List.setIfInBounds_toArray, List.set_cons_zero, List.set_cons_succ]
        refine wpAnyH_done (by kernel_rfl) ?_ _
        replace HI : Hid (ApS w g0 g1 g2 g3 g4 g5 g6 g7 c0 c1 c2 c3 c4 c5 c6 c7 v0 v1 v2 v3 v4 v5 v6 v7 l0 l1 l2 l3 l4 l5 d6 d7 wy) := HI.out.over hS
        clear hS HWI HWJ HSM
        go_wp2
        go_meet
        case rel => exact ⟨rfl, HI.out⟩
      · have hm2 : (m2 && m3) = false := by simpa using hm
        rw [hm2]
        go_wp2
        go_meet
        case rel => exact ⟨rfl, HI.out⟩
    case rest =>
      clear HI
      obtain ⟨rfl, hcut⟩ := hcut
      have HI : Hid (ApS w g0 g1 g2 g3 g4 g5 g6 g7 c0 c1 c2 c3 c4 c5 c6 c7 v0 v1 v2 v3 v4 v5 v6 v7 l0 l1 l2 l3 l4 l5 d6 d7 wc) := hcut
      clear hcut
      obtain ⟨wg, HWQ⟩ : ∃ z, Hid (z = wc) := ⟨_, rfl⟩
      rw [← HWQ.out] at HI ⊢
      clear HWQ
      obtain ⟨m6, HM6⟩ : ∃ m, Hid (m = rightB d6.length en6 ix6 va6) := ⟨_, rfl⟩
      obtain ⟨m7, HM7⟩ : ∃ m, Hid (m = rightB d7.length en7 ix7 va7) := ⟨_, rfl⟩
      have HT6 : Hid (∀ W, ReadsD W v6 d6 → Calls Try.prog 12 #[.agg c6.toArray] W fun e w' => e = .returned (.bool m6) ∧ Below W.heap.size W w') := fun W h => by rw [HC6.out, HM6.out]; exact rfright_any v6 d6 en6 ix6 va6 HPR6.out.1 HPR6.out.2 W h
      have HT7 : Hid (∀ W, ReadsD W v7 d7 → Calls Try.prog 12 #[.agg c7.toArray] W fun e w' => e = .returned (.bool m7) ∧ Below W.heap.size W w') := fun W h => by rw [HC7.out, HM7.out]; exact rfright_any v7 d7 en7 ix7 va7 HPR7.out.1 HPR7.out.2 W h
      go_upto_region 5 with fail
      go_cut [62] from 57 to 62 (fun b W => b = .bool (m6 && m7) ∧ ApS w g0 g1 g2 g3 g4 g5 g6 g7 c0 c1 c2 c3 c4 c5 c6 c7 v0 v1 v2 v3 v4 v5 v6 v7 l0 l1 l2 l3 l4 l5 d6 d7 W)
      case first =>
        cases m6
        all_goals cases m7
        all_goals
          go_wp2_with (first
            | (with_reducible refine wpSeq_loadK 30 (.tmp 14) ?_ ?_ g6 ?_ c6 _ HI.out.b6 Try.underlying30 ?_ HI6.out ?_
               · with_reducible rfl
               · rfl
               · rfl
               · rfl)
            | (with_reducible refine wpSeq_loadK 30 (.tmp 15) ?_ ?_ g7 ?_ c7 _ HI.out.b7 Try.underlying30 ?_ HI7.out ?_
               · with_reducible rfl
               · rfl
               · rfl
               · rfl)
            | (go_at_call 12; refine (HT6.out _ HI.out.k6).mono ?_; clear HT6
               rintro e wf ⟨rfl, hbe⟩
               replace HI : Hid (ApS w g0 g1 g2 g3 g4 g5 g6 g7 c0 c1 c2 c3 c4 c5 c6 c7 v0 v1 v2 v3 v4 v5 v6 v7 l0 l1 l2 l3 l4 l5 d6 d7 wf) := HI.out.next hbe
               clear hbe)
            | (go_at_call 12; refine (HT7.out _ HI.out.k7).mono ?_; clear HT7
               rintro e wf ⟨rfl, hbe⟩
               replace HI : Hid (ApS w g0 g1 g2 g3 g4 g5 g6 g7 c0 c1 c2 c3 c4 c5 c6 c7 v0 v1 v2 v3 v4 v5 v6 v7 l0 l1 l2 l3 l4 l5 d6 d7 wf) := HI.out.next hbe
               clear hbe))
          go_meet
          case rel => exact ⟨rfl, HI.out⟩
      case rest =>
        clear HI
        obtain ⟨rfl, hcut⟩ := hcut
        have HI : Hid (ApS w g0 g1 g2 g3 g4 g5 g6 g7 c0 c1 c2 c3 c4 c5 c6 c7 v0 v1 v2 v3 v4 v5 v6 v7 l0 l1 l2 l3 l4 l5 d6 d7 wc) := hcut
        clear hcut
        obtain ⟨wh, HWQ⟩ : ∃ z, Hid (z = wc) := ⟨_, rfl⟩
        rw [← HWQ.out] at HI ⊢
        clear HWQ
        go_upto_if 62 with fail
        go_cut [17] from 62 to 74 (fun b W => b = .bool true ∧ ApS w g0 g1 g2 g3 g4 g5 g6 g7 c0 c1 c2 c3 c4 c5 c6 c7 v0 v1 v2 v3 v4 v5 v6 v7 l0 l1 l2 l3 l4 l5 d6 d7 W)
        case first =>
          by_cases hm : (m6 && m7) = true
          · rw [hm]
            obtain ⟨hm6, hm7⟩ := Bool.and_eq_true_iff.1 hm
            obtain ⟨hd6, k6, rfl, a6, b6⟩ := right_ok (HM6.out.symm.trans hm6)
            obtain ⟨hd7, k7, rfl, a7, b7⟩ := right_ok (HM7.out.symm.trans hm7)
            have HO6 : Hid (okProof (d6, k6, ix6, va6)) := ⟨hd6, HI.out.k6.2, a6, HPR6.out.1, HPR6.out.2, b6⟩
            have HO7 : Hid (okProof (d7, k7, ix7, va7)) := ⟨hd7, HI.out.k7.2, a7, HPR7.out.1, HPR7.out.2, b7⟩
            have HD6 : Hid (d6.length < 1000000000) := by show _ < _; omega
            clear hd6 a6 b6 hd7 a7 b7 hm hm6 hm7 HM6 HM7 HT6 HT7
            go_wp2_with fail
            obtain ⟨e6, HE6⟩ : ∃ e, Hid (e = encProof (d6, k6, ix6, va6)) := ⟨_, rfl⟩
            obtain ⟨e7, HE7⟩ : ∃ e, Hid (e = encProof (d7, k7, ix7, va7)) := ⟨_, rfl⟩
            obtain ⟨pp6, HPP6⟩ : ∃ p, Hid (p = decide (d6 = d7 ∧ (k6 : Int) = (k7 : Int) ∧ ix6 = ix7 ∧ va6 = va7)) := ⟨_, rfl⟩
            have HEQ6 : Hid (decide (e6 = e7) = pp6) := by
              show _ = _
              rw [HPP6.out, HE6.out, HE7.out, decide_eq_decide]
              rw [proof_inj HO6.out HO7.out]
              simp only [Prod.mk.injEq]
              exact ⟨fun ⟨h1, h2, h3⟩ => ⟨h1, by omega, h3⟩, fun ⟨h1, h2, h3⟩ => ⟨h1, by omega, h3⟩⟩
            have HWI : Hid (∀ W, ReadsD W v6 d6 → Calls Try.prog 21 #[.agg c6.toArray] W fun e w' => ∃ v', e = .returned v' ∧ Reads w' v' e6 ∧ Below W.heap.size W w') := fun W h => by rw [HC6.out, HE6.out]; exact wkProof HO6.out h
            have HWJ : Hid (∀ W, ReadsD W v7 d7 → Calls Try.prog 21 #[.agg c7.toArray] W fun e w' => ∃ v', e = .returned v' ∧ Reads w' v' e7 ∧ Below W.heap.size W w') := fun W h => by rw [HC7.out, HE7.out]; exact wkProof HO7.out h
            have HSM : Hid (∀ W, ReadsD W v6 d6 → ReadsD W v7 d7 → Calls Try.prog 34 #[.agg c6.toArray, .agg c7.toArray] W fun e w' => e = .returned (.bool pp6) ∧ Below W.heap.size W w') := fun W h1 h2 => by rw [HC6.out, HC7.out, HPP6.out]; exact samePrf_any d6 d7 (k6 : Int) (k7 : Int) ix6 va6 ix7 va7 v6 v7 W HPR6.out HPR7.out h1 h2 HD6.out
            refine wp_region_held_drew (S := Over wh.drew) (by kernel_rfl) (Over.refl _) ?_
            intro hS
            refine wpAnyH_take (i := 0) (v := .bool true) rfl (by kernel_rfl) (by kernel_rfl) (by kernel_rfl) (fun _ _ _ h => h) (Or.inl ⟨by rfl, fun wx hx => by simp [go_sem]⟩) hS ?_
            simp only [Act.put, List.getElem_toArray, List.getElem_cons_zero, List.setIfInBounds_toArray, List.set_cons_zero, List.set_cons_succ]
            refine wpAnyH_take (i := 1) (v := .bool true) rfl (by kernel_rfl) (by kernel_rfl) (by kernel_rfl) (fun _ _ _ h => h) (Or.inl ⟨by rfl, fun wx hx => by simp [go_sem]⟩) hS ?_
            simp only [Act.put, List.getElem_toArray, List.getElem_cons_succ, List.getElem_cons_zero, List.setIfInBounds_toArray, List.set_cons_zero, List.set_cons_succ]
            refine wpAnyH_take (i := 2) (v := .agg c6.toArray) rfl (by kernel_rfl) (by kernel_rfl) (by kernel_rfl) (fun _ _ _ h => h) (Or.inl ⟨by rfl, fun wx hx => by exact load_run 30 _ rfl g6 0 rfl c6 _ (hx.blkO HI.out.b6.drew).range Try.underlying30 rfl HI6.out⟩) hS ?_
            simp only [Act.put, List.getElem_toArray, List.getElem_cons_succ, List.getElem_cons_zero, List.setIfInBounds_toArray, List.set_cons_zero, List.set_cons_succ]
            refine wpAnyH_take (i := 4) (v := .agg c7.toArray) rfl (by kernel_rfl) (by kernel_rfl) (by kernel_rfl) (fun _ _ _ h => h) (Or.inl ⟨by rfl, fun wx hx => by exact load_run 30 _ rfl g7 0 rfl c7 _ (hx.blkO HI.out.b7.drew).range Try.underlying30 rfl HI7.out⟩) hS ?_
            simp only [Act.put, List.getElem_toArray, List.getElem_cons_succ, List.getElem_cons_zero, List.setIfInBounds_toArray, List.set_cons_zero, List.set_cons_succ]
            refine wpAnyH_take (i := 7) (v := .agg c6.toArray) rfl (by kernel_rfl) (by kernel_rfl) (by kernel_rfl) (fun _ _ _ h => h) (Or.inl ⟨by rfl, fun wx hx => by exact load_run 30 _ rfl g6 0 rfl c6 _ (hx.blkO HI.out.b6.drew).range Try.underlying30 rfl HI6.out⟩) hS ?_
            simp only [Act.put, List.getElem_toArray, List.getElem_cons_succ, List.getElem_cons_zero, List.setIfInBounds_toArray, List.set_cons_zero, List.set_cons_succ]
            refine wpAnyH_take (i := 8) (v := .agg c7.toArray) rfl (by kernel_rfl) (by kernel_rfl) (by kernel_rfl) (fun _ _ _ h => h) (Or.inl ⟨by rfl, fun wx hx => by exact load_run 30 _ rfl g7 0 rfl c7 _ (hx.blkO HI.out.b7.drew).range Try.underlying30 rfl HI7.out⟩) hS ?_
            simp only [Act.put, List.getElem_toArray, List.getElem_cons_succ, List.getElem_cons_zero, List.setIfInBounds_toArray, List.set_cons_zero, List.set_cons_succ]
            refine wpAnyH_enter 3 (by kernel_rfl) rfl (by rfl) (f := 21) (args := #[.agg c6.toArray]) (by simp [go_sem]) (HWI.out _ ((HI.out.over hS).k6)) ?_
            rintro e wy ⟨u1, rfl, r1, hbq⟩
            refine ⟨_, rfl, hS.more hbq, ?_⟩
            replace hS := hS.more hbq
            clear hbq
            simp only [Act.put, List.getElem_toArray, List.getElem_cons_succ, List.getElem_cons_zero, List.setIfInBounds_toArray, List.set_cons_zero, List.set_cons_succ]
            refine wpAnyH_enter 5 (by kernel_rfl) rfl (by rfl) (f := 21) (args := #[.agg c7.toArray]) (by simp [go_sem]) (HWJ.out _ ((HI.out.over hS).k7)) ?_
            rintro e wy ⟨u2, rfl, r2, hbq⟩
            refine ⟨_, rfl, hS.more hbq, ?_⟩
            replace hS := hS.more hbq
            replace r1 := r1.below hbq
            clear hbq
            simp only [Act.put, List.getElem_toArray, List.getElem_cons_succ, List.getElem_cons_zero, List.setIfInBounds_toArray, List.set_cons_zero, List.set_cons_succ]
            refine wpAnyH_enter 6 (by kernel_rfl) rfl (by rfl) (f := 14) (args := #[u1, u2]) (by simp [go_sem]) (same_b _ _ _ _ _ r1 r2) ?_
            rintro e wy ⟨rfl, hbq⟩
            refine ⟨_, rfl, hS.more hbq, ?_⟩
            replace hS := hS.more hbq
            rw [HEQ6.out]
            clear r1 r2
            clear hbq
            simp only [Act.put, List.getElem_toArray, List.getElem_cons_succ, List.getElem_cons_zero, List.setIfInBounds_toArray, List.set_cons_zero, List.set_cons_succ]
            refine wpAnyH_enter 9 (by kernel_rfl) rfl (by rfl) (f := 34) (args := #[.agg c6.toArray, .agg c7.toArray]) (by simp [go_sem]) (HSM.out _ ((HI.out.over hS).k6) ((HI.out.over hS).k7)) ?_
            rintro e wy ⟨rfl, hbq⟩
            refine ⟨_, rfl, hS.more hbq, ?_⟩
            replace hS := hS.more hbq
            clear hbq
            simp only [Act.put, List.getElem_toArray, List.getElem_cons_succ, List.getElem_cons_zero, List.setIfInBounds_toArray, List.set_cons_zero, List.set_cons_succ]
            refine wpAnyH_take (i := 10) (v := .bool true) rfl (by kernel_rfl) (by kernel_rfl) (by kernel_rfl) (fun _ _ _ h => h) (Or.inl ⟨by rfl, fun wx hx => by simp [go_sem]⟩) hS ?_
            simp only [Act.put, List.getElem_toArray, List.getElem_cons_succ, List.getElem_cons_zero, List.setIfInBounds_toArray, List.set_cons_zero, List.set_cons_succ]
            refine wpAnyH_take (i := 11) (v := .bool true) rfl (by kernel_rfl) (by kernel_rfl) (by kernel_rfl) (fun _ _ _ h => h) (Or.inl ⟨by rfl, fun wx hx => by simp [go_sem]⟩) hS ?_
            simp only [Act.put, List.getElem_toArray, List.getElem_cons_succ, List.getElem_cons_zero, List.setIfInBounds_toArray, List.set_cons_zero, List.set_cons_succ]
            refine wpAnyH_take (i := 12) (v := .bool true) rfl (by kernel_rfl) (by kernel_rfl) (by kernel_rfl) (fun _ _ _ h => h) (Or.inl ⟨by rfl, fun wx hx => by simp [go_sem]⟩) hS ?_
            simp only [Act.put, List.getElem_toArray, List.getElem_cons_succ, List.getElem_cons_zero, List.setIfInBounds_toArray, List.set_cons_zero, List.set_cons_succ]
            refine wpAnyH_done (by kernel_rfl) ?_ _
            replace HI : Hid (ApS w g0 g1 g2 g3 g4 g5 g6 g7 c0 c1 c2 c3 c4 c5 c6 c7 v0 v1 v2 v3 v4 v5 v6 v7 l0 l1 l2 l3 l4 l5 d6 d7 wy) := HI.out.over hS
            clear hS HWI HWJ HSM
            go_wp2
            go_meet
            case rel => exact ⟨rfl, HI.out⟩
          · have hm2 : (m6 && m7) = false := by simpa using hm
            rw [hm2]
            go_wp2
            go_meet
            case rel => exact ⟨rfl, HI.out⟩
        case rest =>
          clear HI
          obtain ⟨rfl, hcut⟩ := hcut
          have HI : Hid (ApS w g0 g1 g2 g3 g4 g5 g6 g7 c0 c1 c2 c3 c4 c5 c6 c7 v0 v1 v2 v3 v4 v5 v6 v7 l0 l1 l2 l3 l4 l5 d6 d7 wc) := hcut
          clear hcut
          go_wp2_with (go_at_call 13; refine (rworks_any _).mono ?_; rintro e wz ⟨rfl, hbz⟩)
          go_ret
          exact ⟨rfl, (HI.out.next hbz).bel⟩
end Go.Proofs.Ytldbcglakeggaaa

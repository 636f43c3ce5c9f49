/- Two caches beside each other; what one of more things has of one of fewer (layer 16). -/
import Derived.Test.YtgmemibhddnjjaaKaLt
namespace Go.Proofs.Ytgmemibhddnjjaa
open Go.RowKit
set_option maxRecDepth 100000
structure TwI (w : World) (ga gb : Nat) (PA PB : Nat → Prop) (A B : KaT) (W : World) : Prop where
  ca : CaIs W ga PA A
  cb : CaIs W gb PB B
  dj : ∀ k, PA k → ¬ PB k
  bel : Below w.heap.size w W
  geA : ∀ k, PA k → w.heap.size ≤ k
  geB : ∀ k, PB k → w.heap.size ≤ k
theorem TwI.a {w W W' : World} {ga gb : Nat} {PA PB PA' : Nat → Prop} {A B A' : KaT} (h : TwI w ga gb PA PB A B W) (c : CaIs W' ga PA' A') (m : Mut PA W W') (g : Grew W PA PA') : TwI w ga gb PA' PB A' B W' :=
  ⟨c, h.cb.same (fun k hk => m.block k (h.cb.lt k hk) (fun e => h.dj k e hk)), fun k hk hb => (g k hk).elim (fun e => h.dj k e hb) (fun e => absurd (h.cb.lt k hb) (by omega)), h.bel.trans (m.below h.bel.size h.geA), fun k hk => (g k hk).elim (h.geA k) (fun e => Nat.le_trans h.bel.size e), h.geB⟩
theorem TwI.b {w W W' : World} {ga gb : Nat} {PA PB PB' : Nat → Prop} {A B B' : KaT} (h : TwI w ga gb PA PB A B W) (c : CaIs W' gb PB' B') (m : Mut PB W W') (g : Grew W PB PB') : TwI w ga gb PA PB' A B' W' :=
  ⟨h.ca.same (fun k hk => m.block k (h.ca.lt k hk) (fun e => h.dj k hk e)), c, fun k hk hb => (g k hb).elim (fun e => h.dj k hk e) (fun e => absurd (h.ca.lt k hk) (by omega)), h.bel.trans (m.below h.bel.size h.geB), h.geA, fun k hk => (g k hk).elim (h.geB k) (fun e => Nat.le_trans h.bel.size e)⟩
theorem TwI.below {w W W' : World} {ga gb : Nat} {PA PB : Nat → Prop} {A B : KaT} (h : TwI w ga gb PA PB A B W) (hb : Below W.heap.size W W') : TwI w ga gb PA PB A B W' := ⟨h.ca.below hb, h.cb.below hb, h.dj, h.bel.trans (hb.mono h.bel.size), h.geA, h.geB⟩
theorem TwI.drew {w W : World} {ga gb : Nat} {PA PB : Nat → Prop} {A B : KaT} (h : TwI w ga gb PA PB A B W) : TwI w ga gb PA PB A B W.drew := ⟨h.ca.same (fun _ _ => rfl), h.cb.same (fun _ _ => rfl), h.dj, ⟨h.bel.os, h.bel.tape, h.bel.output, h.bel.size, h.bel.block⟩, h.geA, h.geB⟩
/-- a cache of fewer things, and one of more -/
structure SubC (A B : KaT) : Prop where
  sub : A.l.Sublist B.l
  gap : B.l.length + A.most ≤ A.l.length + B.most
  okA : okC A
  okB : okC B
theorem SubC.fd {A B : KaT} (h : SubC A B) {s : ByteArray} {v : Int} (hf : fdK A.l s = some v) : fdK B.l s = some v := fd_mem h.okB.nd (h.sub.mem (fd_some hf))
theorem wo_len1 {l : List KV} (h : (l.map (·.1)).Nodup) {k : ByteArray} {v : Int} (hf : fdK l k = some v) : (woK l k).length + 1 = l.length := by
  obtain ⟨i, hi⟩ := List.mem_iff_getElem?.1 (fd_some hf)
  have hl : i < l.length := (List.getElem?_eq_some_iff.1 hi).1
  rw [wo_erase h hi, List.length_eraseIdx_of_lt hl]
  omega
theorem wo_subl {a b : List KV} (h : a.Sublist b) (k : ByteArray) : (woK a k).Sublist (woK b k) := h.filter _
theorem sub_drop1 {α : Type} {a b : List α} (h : a.Sublist b) : (a.drop 1).Sublist (b.drop 1) := by
  rw [List.drop_one, List.drop_one]
  exact h.tail
theorem sub_get {A B : KaT} (h : SubC A B) (k : ByteArray) (hk : k.size ≤ maxLen) : SubC (getC A k) (getC B k) := by
  have o1 := ok_get h.okA k hk
  have o2 := ok_get h.okB k hk
  have hgap := h.gap
  cases ea : fdK A.l k with
  | some v =>
    have eb := h.fd ea
    have la := wo_len1 h.okA.nd ea
    have lb := wo_len1 h.okB.nd eb
    have ga : getC A k = ⟨A.most, woK A.l k ++ [(k, v)], A.hits + 1, A.miss, A.puts⟩ := by unfold getC; rw [ea]
    have gb : getC B k = ⟨B.most, woK B.l k ++ [(k, v)], B.hits + 1, B.miss, B.puts⟩ := by unfold getC; rw [eb]
    refine ⟨?_, ?_, o1, o2⟩
    · rw [ga, gb]; exact (wo_subl h.sub k).append (List.Sublist.refl _)
    · rw [ga, gb]; simp only [List.length_append, List.length_singleton]; omega
  | none =>
    have ga : getC A k = ⟨A.most, A.l, A.hits, A.miss + 1, A.puts⟩ := by unfold getC; rw [ea]
    cases eb : fdK B.l k with
    | none =>
      have gb : getC B k = ⟨B.most, B.l, B.hits, B.miss + 1, B.puts⟩ := by unfold getC; rw [eb]
      exact ⟨by rw [ga, gb]; exact h.sub, by rw [ga, gb]; exact hgap, o1, o2⟩
    | some v =>
      have lb := wo_len1 h.okB.nd eb
      have gb : getC B k = ⟨B.most, woK B.l k ++ [(k, v)], B.hits + 1, B.miss, B.puts⟩ := by unfold getC; rw [eb]
      refine ⟨?_, ?_, o1, o2⟩
      · rw [ga, gb]
        have h1 := wo_subl h.sub k
        rw [wo_same (fd_none.1 ea)] at h1
        exact h1.trans (List.sublist_append_left _ _)
      · rw [ga, gb]; simp only [List.length_append, List.length_singleton]; omega
theorem sub_drop {A B : KaT} (h : SubC A B) (k : ByteArray) : SubC (dropC A k) (dropC B k) := by
  have hgap := h.gap
  refine ⟨wo_subl h.sub k, ?_, ok_drop h.okA k, ok_drop h.okB k⟩
  show (woK B.l k).length + A.most ≤ (woK A.l k).length + B.most
  cases ea : fdK A.l k with
  | some v =>
    have la := wo_len1 h.okA.nd ea
    have lb := wo_len1 h.okB.nd (h.fd ea)
    omega
  | none =>
    rw [wo_same (fd_none.1 ea)]
    have := wo_len B.l k
    omega
theorem sub_put {A B : KaT} (h : SubC A B) (k : ByteArray) (v : Int) (hk : k.size ≤ maxLen) : SubC (putC A k v) (putC B k v) := by
  have hd := sub_drop h k
  have g1 : (woK B.l k).length + A.most ≤ (woK A.l k).length + B.most := hd.gap
  have lA : (woK A.l k).length ≤ A.most := hd.okA.le
  have lB : (woK B.l k).length ≤ B.most := hd.okB.le
  have s1 : (woK A.l k ++ [(k, v)]).Sublist (woK B.l k ++ [(k, v)]) := hd.sub.append (List.Sublist.refl _)
  refine ⟨?_, ?_, ok_put h.okA k v hk, ok_put h.okB k v hk⟩
  · show ((woK A.l k ++ [(k, v)]).drop _).Sublist ((woK B.l k ++ [(k, v)]).drop _)
    by_cases qb : B.most < (woK B.l k).length + 1
    · have qa : A.most < (woK A.l k).length + 1 := by omega
      rw [if_pos qa, if_pos qb]
      exact sub_drop1 s1
    · rw [if_neg qb]
      exact (List.drop_sublist _ _).trans s1
  · show ((woK B.l k ++ [(k, v)]).drop _).length + A.most ≤ ((woK A.l k ++ [(k, v)]).drop _).length + B.most
    rw [List.length_drop, List.length_drop, List.length_append, List.length_append, List.length_singleton]
    by_cases qb : B.most < (woK B.l k).length + 1
    · have qa : A.most < (woK A.l k).length + 1 := by omega
      rw [if_pos qa, if_pos qb]
      omega
    · rw [if_neg qb]
      split <;> omega
theorem sub_step {A B : KaT} (h : SubC A B) (o : OpK) (hk : o.k.size ≤ maxLen) : SubC (stepC A o) (stepC B o) := by
  unfold stepC
  split
  · exact sub_get h _ hk
  · split
    · exact sub_put h _ _ hk
    · split
      · exact sub_drop h _
      · exact h
theorem sub_new {a b : Nat} (h : a ≤ b) : SubC (newC a) (newC b) := ⟨List.Sublist.refl _, by show 0 + a ≤ 0 + b; omega, ok_new a, ok_new b⟩
theorem sub_run {A B : KaT} (h : SubC A B) : ∀ l : List OpK, (∀ o ∈ l, o.k.size ≤ maxLen) → SubC (runC A l) (runC B l) := fun l hl => by
  induction l generalizing A B with
  | nil => exact h
  | cons o l ih => exact ih (sub_step h o (hl o (by simp))) (fun p hp => hl p (by simp [hp]))
theorem has_get (C : KaT) (k s : ByteArray) : hasK (getC C k) s = hasK C s := by unfold hasK; rw [get_fd]
end Go.Proofs.Ytgmemibhddnjjaa

/- The walks of Common. -/
import Derived.Test.YthjkihbobdollaaPathOwn
namespace Go.Proofs.Ythjkihbobdollaa
open Go.RowKit Go.Shelf
attribute [local go_sem] Oper.semAt_some
theorem bits_split {x : List (BitVec 8)} {k : Nat} {pre : List (Nat × Bool)} {p : Nat × Bool} (h : bitsOf x k = pre ++ [p]) : ∃ j, k = j + 1 ∧ pre = bitsOf x j ∧ p = (j, bt x j) := by
  cases k with
  | zero => simp [bitsOf] at h
  | succ j =>
    rw [bitsOf_succ] at h
    obtain ⟨h1, h2⟩ := List.append_inj' h rfl
    exact ⟨j, rfl, h1.symm, by simpa using h2.symm⟩
theorem mem_bits {x : List (BitVec 8)} {k : Nat} {j : Nat} (h : j < k) : (j, bt x j) ∈ bitsOf x k := by
  unfold bitsOf
  exact List.mem_map.2 ⟨j, List.mem_range.2 h, rfl⟩
/-- what Common has seen: bits that y has too -/
def CmI (y : List (BitVec 8)) (g1 g2 : Nat) (pre : List (Nat × Bool)) (W : World) : Prop := Blk W g1 (cb y) 23 ∧ Blk W g2 [.int .i64 0] 3 ∧ ∀ p ∈ pre, p.2 = bitI y (p.1 : Int)
/-- the last bit that Common has seen is the first that y has not -/
def CmX (y : List (BitVec 8)) (g2 : Nat) (c : Code) (pre : List (Nat × Bool)) (W : World) : Prop :=
  ∃ pr p, c = .ret ∧ pre = pr ++ [p] ∧ (∀ q ∈ pr, q.2 = bitI y (q.1 : Int)) ∧ p.2 ≠ bitI y (p.1 : Int) ∧ Blk W g2 [.int .i64 (p.1 : Int)] 3
theorem CmI.own (y : List (BitVec 8)) (g1 g2 : Nat) : Own (CmI y g1 g2) := fun _ A B row hs hg hr =>
  ⟨blk_own (β := Unit) g1 (fun _ => cb y) _ () A B row hs.1 hg hr, blk_own (β := Unit) g2 (fun _ => [.int .i64 0]) _ () A B row hs.2.1 hg hr, hs.2.2⟩
theorem CmX.own (y : List (BitVec 8)) (g2 : Nat) (c : Code) : Own (CmX y g2 c) := fun _ A B row hs hg hr => by
  obtain ⟨pr, p, h1, h2, h3, h4, h5⟩ := hs
  exact ⟨pr, p, h1, h2, h3, h4, blk_own (β := Unit) g2 (fun _ => [.int .i64 (p.1 : Int)]) _ () A B row h5 hg hr⟩
theorem CmI.all {x y : List (BitVec 8)} {g1 g2 : Nat} {W : World} (h : CmI y g1 g2 (bitsOf x 256) W) : common x y = 256 :=
  common_is x y 256 (Nat.le_refl _) (fun j hj => by have := h.2.2 _ (mem_bits (x := x) hj); rwa [bitI_nat y j hj] at this) (by omega)
theorem CmX.at {x y : List (BitVec 8)} {g2 : Nat} {c : Code} {k : Nat} {W : World} (hk : k ≤ 256) (h : CmX y g2 c (bitsOf x k) W) : c = .ret ∧ Blk W g2 [.int .i64 (common x y : Int)] 3 := by
  obtain ⟨pr, p, h1, h2, h3, h4, h5⟩ := h
  obtain ⟨j, rfl, rfl, rfl⟩ := bits_split h2
  rw [bitI_nat y j (by omega)] at h4
  refine ⟨h1, ?_⟩
  rw [common_is x y j (by omega) (fun i hi => by have := h3 _ (mem_bits (x := x) hi); rwa [bitI_nat y i (by omega)] at this) (fun _ => h4)]
  exact h5
set_option maxRecDepth 100000 in
set_option maxHeartbeats 2000000 in
theorem pCommon_any (x y : List (BitVec 8)) (hx : x.length = 32) (hy : y.length = 32) (w : World) : Calls Try.prog 14 #[.agg (cb x).toArray, .agg (cb y).toArray] w fun e w' => e = .returned (.int .i64 (common x y : Int)) ∧ Below w.heap.size w w' := by
  have HX : Hid (x.length = 32) := hx
  have HY : Hid (y.length = 32) := hy
  clear hx hy
  refine (callsIn_wide (n := 4)).1 ?_
  refine callsIn_of_wp_marks Try.func14 rfl trivial ?_ rfl
  simp only [Try.ntmps14, List.size_toArray, List.length_cons, List.length_nil, Nat.reduceAdd, Nat.reduceSub, Array.replicate_succ, Array.replicate_zero, List.push_toArray, List.append_toArray, List.nil_append, List.cons_append]
  refine wpIn_wide.2 ?_
  go_wp2_with (first
    | (with_reducible refine wpSeq_boxD (.tmp 0) x ?_ ?_ ?_ ?_
       · rfl
       · rfl
       · rfl
       intro g0 w1 n1)
    | (with_reducible refine wpSeq_boxD (.tmp 1) y ?_ ?_ ?_ ?_
       · rfl
       · rfl
       · rfl
       intro g1 w2 n2
       have H0 : Hid (Blk w2 g0 (cb x) 23) := n1.blk.below n2.below n1.blk.lt
       have H1 : Hid (Blk w2 g1 (cb y) 23) := n2.blk
       have hlt1 : g1 < w2.heap.size := n2.blk.lt
       have HG : Hid (w.heap.size ≤ w2.heap.size) := Nat.le_trans n1.below.size n2.below.size
       have HBW : Hid (Below w.heap.size w w2) := n1.below.trans (n2.below.mono n1.below.size)
       clear n1 n2)
    | (with_reducible refine wpSeq_allocI ?_ ?_ ?_
       · rfl
       · rfl
       intro g2 w3 n3
       replace H0 : Hid (Blk w3 g0 (cb x) 23) := H0.out.below n3.below H0.out.lt
       replace H1 : Hid (Blk w3 g1 (cb y) 23) := H1.out.below n3.below H1.out.lt
       have H2 : Hid (Blk w3 g2 [.int .i64 0] 3) := n3.blk
       have HG2 : Hid (w.heap.size ≤ g2 ∧ g1 ≠ g2 ∧ w.heap.size ≤ w3.heap.size) := ⟨Nat.le_trans HG.out n3.ge, fun e => by have := n3.ge; have := H1.out; have := hlt1; omega, Nat.le_trans HG.out n3.below.size⟩
       replace HBW : Hid (Below w.heap.size w w3) := HBW.out.trans (n3.below.mono HG.out)
       clear n3 HG hlt1)
    | (with_reducible refine wpSeq_loadD (.tmp 2) g0 x ?_ ?_ ?_ ?_ ?_ ?_
       · exact HX.out
       · exact H0.out
       · rfl
       · rfl
       · rfl)
    | (go_at_call 13; refine (pBits_any x _).mono ?_; rintro e w4 ⟨g3, rfl, n4⟩
       replace H1 : Hid (Blk w4 g1 (cb y) 23) := H1.out.below n4.below H1.out.lt
       replace H2 : Hid (Blk w4 g2 [.int .i64 0] 3) := H2.out.below n4.below H2.out.lt
       have H3 : Hid (Blk w4 g3 (cb x) 23) := n4.blk
       replace HBW : Hid (Below w.heap.size w w4) := HBW.out.trans (n4.below.mono HG2.out.2.2)
       replace HG2 : Hid (w.heap.size ≤ g2 ∧ g1 ≠ g2 ∧ w.heap.size ≤ w4.heap.size) := ⟨HG2.out.1, HG2.out.2.1, Nat.le_trans HG2.out.2.2 n4.below.size⟩
       clear n4 H0))
  refine (wpIn_wide (n := 4)).1 ?_
  refine wpIn_rangeFunc_ownF (F := Fence.wide) rfl (by omega) (gf := 27) (lb := #[.pointer (some ⟨g3, 0, none⟩)]) rfl trivial (enters_of Try.func27 (by kernel_rfl) rfl)
    (bits_stops 3 (by omega) g3 x HX.out w4 H3.out) (fun _ _ => trivial) (fun _ _ _ _ _ _ _ _ => trivial) (Below.refl _ _) (fun _ => rfl)
    (fun pre W => CmI y g1 g2 pre W ∧ Below w.heap.size w W) (fun c pre W => CmX y g2 c pre W ∧ Below w.heap.size w W)
    (OwnFrom.and (Own.from (CmI.own y g1 g2) _) (ownFrom_below (Nat.le_refl _) HG2.out.2.2))
    (fun c => OwnFrom.and (Own.from (CmX.own y g2 c) _) (ownFrom_below (Nat.le_refl _) HG2.out.2.2))
    ⟨⟨H1.out, H2.out, by simp⟩, HBW.out⟩
    (fun z => { tmps := #[.agg (cb x).toArray, .agg (cb y).toArray, .pointer (some ⟨g0, 0, none⟩), .pointer (some ⟨g1, 0, none⟩), .pointer (some ⟨g2, 0, none⟩), .int .i64 (z.1 : Int), .bool z.2, .agg (cb x).toArray, .func (.func 27) #[] #[.pointer (some ⟨g3, 0, none⟩)], .int .i64 (z.1 : Int), .bool z.2, undef, undef, undef, undef, undef, undef], defers := [] }) ?assign ?body ?done ?stop
  case assign =>
    intro l z W K hK
    gi_wp2
    exact hK
  case body =>
    rintro l pre ⟨zi, zb⟩ W ⟨hI, hB⟩ _
    have HI : Hid (CmI y g1 g2 pre W) := hI
    have HB : Hid (Below w.heap.size w W) := hB
    clear hI hB
    gi_wp2_with (first
      | (with_reducible refine wpSeqIn_loadD (.tmp 3) g1 y ?_ ?_ ?_ ?_ ?_ ?_
         · exact HY.out
         · exact HI.out.1
         · rfl
         · rfl
         · rfl)
      | (refine ⟨trivial, ?_⟩; gi_at_call 9; refine (CallsIn.inRound l (callsIn_wide.2 (pBit_any y HY.out _ _))).mono ?_; rintro e W2 ⟨rfl, hb2⟩
         have HK2 : Hid (KeepsOthers W W2) := keepsOthers_of_below hb2
         have HC : Hid (Blk W2 g2 [.int .i64 0] 3) := HI.out.2.1.below hb2 HI.out.2.1.lt
         have HY2 : Hid (Blk W2 g1 (cb y) 23) := HI.out.1.below hb2 HI.out.1.lt
         have HB2 : Hid (Below w.heap.size w W2) := HB.out.trans (hb2.mono HB.out.size)
         have hc2 : W2.cell? ⟨g2, 0, none⟩ = some (.int .i64 0) := HC.out.cell 0
         have hf2 : W2.frozen? ⟨g2, 0, none⟩ = false := HC.out.frozen 0
         clear hb2))
    · rename_i hne
      refine ⟨HK2.out.trans (KeepsOthers.setCell _ _ _), ⟨pre, (zi, zb), rfl, rfl, HI.out.2.2, ?_, HC.out.set 0 _⟩, HB2.out.setCell (p := ⟨g2, 0, none⟩) HG2.out.1 _⟩
      intro e
      simp only at e
      rw [e] at hne
      cases hh : bitI y (zi : Int) <;> rw [hh] at hne <;> cases hne
    · rename_i hne
      refine ⟨HK2.out, trivial, ⟨HY2.out, HC.out, fun p hp => ?_⟩, HB2.out⟩
      rcases List.mem_append.1 hp with hp | hp
      · exact HI.out.2.2 p hp
      · obtain rfl : p = (zi, zb) := by simpa using hp
        cases zb <;> cases hh : bitI y (zi : Int) <;> rw [hh] at hne <;> first | rfl | cases hne
  case done =>
    rintro D ys W hD rfl ⟨hI, hB⟩ hK
    have HD : Hid (w.heap.size ≤ D) := Nat.le_trans HG2.out.2.2 hD
    have HCM : Hid (common x y = 256) := hI.all
    have HC : Hid (Blk W g2 [.int .i64 0] 3) := hI.2.1
    have hc2 : W.cell? ⟨g2, 0, none⟩ = some (.int .i64 0) := HC.out.cell 0
    have hf2 : W.frozen? ⟨g2, 0, none⟩ = false := HC.out.frozen 0
    have HB : Hid (Below w.heap.size w W) := hB
    have HK : Hid (W.heap[D]? = some (.deferred (some []))) := hK
    clear hI hB hK hD
    gi_wp2
    go_wp2
    have hK' := (KeepsOthers.setCell W ⟨g2, 0, none⟩ (.int .i64 256)).same D _ HK.out rfl
    refine ⟨by simp, .inl ⟨_, _, rfl, run_takeDeferred hK', ?_⟩⟩
    have hc5 := ((HC.out.set 0 (.int .i64 256)).put hK' rfl (o' := .deferred none)).cell 0
    refine ⟨.int .i64 256, ?_, by rw [HCM.out]; rfl, (HB.out.setCell (p := ⟨g2, 0, none⟩) HG2.out.1 _).trans (belowK_b (w := w) (Nat.le_refl _) _ D _ _ HD.out hK' rfl rfl)⟩
    simp at hc5
    simp [results, Try.f14, go_sem, hc5]
  case stop =>
    rintro D c pre W hD ⟨k, hk, rfl⟩ ⟨hX, hB⟩ hK
    obtain ⟨rfl, hC⟩ := hX.at hk
    have HD : Hid (w.heap.size ≤ D) := Nat.le_trans HG2.out.2.2 hD
    have HC : Hid (Blk W g2 [.int .i64 (common x y : Int)] 3) := hC
    have HB : Hid (Below w.heap.size w W) := hB
    have HK : Hid (W.heap[D]? = some (.deferred (some []))) := hK
    clear hX hB hK hD hC
    gi_wp2
    refine ⟨by simp, .inl ⟨_, _, rfl, run_takeDeferred HK.out, ?_⟩⟩
    have hc5 := (HC.out.put HK.out rfl (o' := .deferred none)).cell 0
    refine ⟨.int .i64 (common x y : Int), ?_, rfl, HB.out.trans (belowK_b (w := w) (Nat.le_refl _) _ D _ _ HD.out HK.out rfl rfl)⟩
    simp at hc5
    simp [results, Try.f14, go_sem, hc5]
end Go.Proofs.Ythjkihbobdollaa

/- The walks of Cut. -/
import Derived.Test.YthjkihbobdollaaPathCm
namespace Go.Proofs.Ythjkihbobdollaa
open Go.RowKit Go.Shelf
attribute [local go_sem] Oper.semAt_some
def cutF (pre : List (Nat × Bool)) : List (BitVec 8) := pre.foldl (fun y p => setI y (p.1 : Int) p.2) zb32
theorem cutF_snoc (pre : List (Nat × Bool)) (p : Nat × Bool) : cutF (pre ++ [p]) = setI (cutF pre) (p.1 : Int) p.2 := by simp [cutF]
theorem foldl_set_len (l : List (Nat × Bool)) : ∀ y : List (BitVec 8), (l.foldl (fun y p => setI y (p.1 : Int) p.2) y).length = y.length := by
  induction l with
  | nil => intro y; rfl
  | cons p r ih => intro y; rw [List.foldl_cons, ih, setI_len]
theorem cutF_len (pre : List (Nat × Bool)) : (cutF pre).length = 32 := by rw [cutF, foldl_set_len]; rfl
theorem bt_zero (j : Nat) : bt zb32 j = false := by
  unfold bt zb32
  rw [List.getD_eq_getElem?_getD, List.getElem?_replicate]
  split <;> simp
theorem cutF_bits (x : List (BitVec 8)) : ∀ k, k ≤ 256 → ∀ j, j < 256 → bt (cutF (bitsOf x k)) j = (decide (j < k) && bt x j)
  | 0, _, j, _ => by simp [bitsOf, cutF, bt_zero]
  | k + 1, hk, j, hj => by
    rw [bitsOf_succ, cutF_snoc, setI_nat _ _ _ (by omega), bt_set _ (cutF_len _) _ _ _ (by omega) hj, cutF_bits x k (by omega) j hj]
    by_cases e : j = k
    · subst e; simp
    · rw [if_neg e]
      by_cases h : j < k
      · have h2 : j < k + 1 := by omega
        simp [h, h2]
      · have h2 : ¬ j < k + 1 := by omega
        simp [h, h2]
/-- what Cut has done: the bits that came, all ahead of n -/
def CuI (n : Int) (gn gr gc : Nat) (pre : List (Nat × Bool)) (W : World) : Prop := Blk W gn [.int .i64 n] 3 ∧ Blk W gr (cb zb32) 23 ∧ Blk W gc (cb (cutF pre)) 23 ∧ ∀ p ∈ pre, (p.1 : Int) < n
def CuX (n : Int) (gr gc : Nat) (c : Code) (pre : List (Nat × Bool)) (W : World) : Prop :=
  ∃ pr p, c = .exit 0 ∧ pre = pr ++ [p] ∧ (∀ q ∈ pr, (q.1 : Int) < n) ∧ n ≤ (p.1 : Int) ∧ Blk W gr (cb zb32) 23 ∧ Blk W gc (cb (cutF pr)) 23
theorem CuI.own (n : Int) (gn gr gc : Nat) : Own (CuI n gn gr gc) := fun s A B row hs hg hr =>
  ⟨blk_own (β := Unit) gn (fun _ => [.int .i64 n]) _ () A B row hs.1 hg hr, blk_own (β := Unit) gr (fun _ => cb zb32) _ () A B row hs.2.1 hg hr, blk_own (β := Unit) gc (fun _ => cb (cutF s)) _ () A B row hs.2.2.1 hg hr, hs.2.2.2⟩
theorem CuX.own (n : Int) (gr gc : Nat) (c : Code) : Own (CuX n gr gc c) := fun _ A B row hs hg hr => by
  obtain ⟨pr, p, h1, h2, h3, h4, h5, h6⟩ := hs
  exact ⟨pr, p, h1, h2, h3, h4, blk_own (β := Unit) gr (fun _ => cb zb32) _ () A B row h5 hg hr, blk_own (β := Unit) gc (fun _ => cb (cutF pr)) _ () A B row h6 hg hr⟩
theorem CuI.all {x : List (BitVec 8)} {n : Int} {gn gr gc : Nat} {W : World} (h : CuI n gn gr gc (bitsOf x 256) W) : ∃ y, IsCut x n y ∧ Blk W gr (cb zb32) 23 ∧ Blk W gc (cb y) 23 := by
  refine ⟨_, ⟨cutF_len _, fun j hj => ?_⟩, h.2.1, h.2.2.1⟩
  have h1 := h.2.2.2 _ (mem_bits (x := x) hj)
  simp only at h1
  rw [cutF_bits x 256 (Nat.le_refl _) j hj, decide_eq_true hj, decide_eq_true h1]
theorem CuX.at {x : List (BitVec 8)} {n : Int} {gr gc : Nat} {c : Code} {k : Nat} {W : World} (hk : k ≤ 256) (h : CuX n gr gc c (bitsOf x k) W) : c = .exit 0 ∧ ∃ y, IsCut x n y ∧ Blk W gr (cb zb32) 23 ∧ Blk W gc (cb y) 23 := by
  obtain ⟨pr, p, h1, h2, h3, h4, h5, h6⟩ := h
  obtain ⟨i, rfl, rfl, rfl⟩ := bits_split h2
  simp only at h4
  refine ⟨h1, _, ⟨cutF_len _, fun j hj => ?_⟩, h5, h6⟩
  rw [cutF_bits x i (by omega) j hj]
  by_cases h : j < i
  · have h7 := h3 _ (mem_bits (x := x) h)
    simp only at h7
    rw [decide_eq_true h, decide_eq_true h7]
  · have h7 : ¬ ((j : Int) < n) := by omega
    rw [decide_eq_false h, decide_eq_false h7]
set_option maxRecDepth 100000 in
set_option maxHeartbeats 2000000 in
theorem pCut_any (x : List (BitVec 8)) (hx : x.length = 32) (n : Int) (w : World) : Calls Try.prog 16 #[.agg (cb x).toArray, .int .i64 n] w fun e w' => ∃ y, e = .returned (.agg (cb y).toArray) ∧ IsCut x n y ∧ Below w.heap.size w w' := by
  have HX : Hid (x.length = 32) := hx
  clear hx
  refine (callsIn_wide (n := 4)).1 ?_
  refine callsIn_of_wp_marks Try.func16 rfl trivial ?_ rfl
  simp only [Try.ntmps16, List.size_toArray, List.length_cons, List.length_nil, Nat.reduceAdd, Nat.reduceSub, Array.replicate_succ, Array.replicate_zero, List.push_toArray, List.append_toArray, List.nil_append, List.cons_append]
  refine wpIn_wide.2 ?_
  have hfst : Hid (w.heap.size = w.heap.size) := rfl
  go_wp2_with (first
    | (with_reducible refine wpSeq_boxD (.tmp 0) x ?_ ?_ ?_ ?_
       · rfl
       · rfl
       · rfl
       intro g0 w1 n1)
    | (with_reducible refine wpSeq_boxI (.tmp 1) n ?_ ?_ ?_ ?_
       · rfl
       · rfl
       · rfl
       intro gn w2 n2
       have H0 : Hid (Blk w2 g0 (cb x) 23) := n1.blk.below n2.below n1.blk.lt
       have H1 : Hid (Blk w2 gn [.int .i64 n] 3) := n2.blk
       have HG : Hid (w.heap.size ≤ w2.heap.size) := Nat.le_trans n1.below.size n2.below.size
       have HBW : Hid (Below w.heap.size w w2) := n1.below.trans (n2.below.mono n1.below.size)
       clear n1 n2)
    | (clear hfst
       with_reducible refine wpSeq_allocD ?_ ?_ ?_
       · rfl
       · rfl
       intro gr w3 n3
       replace H0 : Hid (Blk w3 g0 (cb x) 23) := H0.out.below n3.below H0.out.lt
       replace H1 : Hid (Blk w3 gn [.int .i64 n] 3) := H1.out.below n3.below H1.out.lt
       have H2 : Hid (Blk w3 gr (cb zb32) 23) := n3.blk
       have HGR : Hid (w.heap.size ≤ gr) := Nat.le_trans HG.out n3.ge
       replace HBW : Hid (Below w.heap.size w w3) := HBW.out.trans (n3.below.mono HG.out)
       replace HG : Hid (w.heap.size ≤ w3.heap.size) := Nat.le_trans HG.out n3.below.size
       clear n3)
    | (with_reducible refine wpSeq_allocD ?_ ?_ ?_
       · rfl
       · rfl
       intro gc w5 n3
       have HNE : Hid (gr < gc ∧ gn < gc) := ⟨Nat.lt_of_lt_of_le H2.out.lt n3.ge, Nat.lt_of_lt_of_le H1.out.lt n3.ge⟩
       replace H0 : Hid (Blk w5 g0 (cb x) 23) := H0.out.below n3.below H0.out.lt
       replace H1 : Hid (Blk w5 gn [.int .i64 n] 3) := H1.out.below n3.below H1.out.lt
       replace H2 : Hid (Blk w5 gr (cb zb32) 23) := H2.out.below n3.below H2.out.lt
       have H5 : Hid (Blk w5 gc (cb zb32) 23) := n3.blk
       replace HBW : Hid (Below w.heap.size w w5) := HBW.out.trans (n3.below.mono HG.out)
       replace HG : Hid (w.heap.size ≤ w5.heap.size) := Nat.le_trans HG.out n3.below.size
       clear n3)
    | (with_reducible refine wpSeq_loadD (.tmp 2) g0 x ?_ ?_ ?_ ?_ ?_ ?_
       · exact HX.out
       · exact H0.out
       · rfl
       · rfl
       · rfl)
    | (go_at_call 13; refine (pBits_any x _).mono ?_; rintro e w4 ⟨g3, rfl, n4⟩
       replace H1 : Hid (Blk w4 gn [.int .i64 n] 3) := H1.out.below n4.below H1.out.lt
       replace H2 : Hid (Blk w4 gr (cb zb32) 23) := H2.out.below n4.below H2.out.lt
       replace H5 : Hid (Blk w4 gc (cb zb32) 23) := H5.out.below n4.below H5.out.lt
       have H3 : Hid (Blk w4 g3 (cb x) 23) := n4.blk
       replace HBW : Hid (Below w.heap.size w w4) := HBW.out.trans (n4.below.mono HG.out)
       replace HG : Hid (w.heap.size ≤ w4.heap.size) := Nat.le_trans HG.out n4.below.size
       clear n4 H0))
  refine (wpIn_wide (n := 4)).1 ?_
  refine wpIn_rangeFunc_ownF (F := Fence.wide) rfl (by omega) (gf := 27) (lb := #[.pointer (some ⟨g3, 0, none⟩)]) rfl trivial (enters_of Try.func27 (by kernel_rfl) rfl)
    (bits_stops 3 (by omega) g3 x HX.out w4 H3.out) (fun _ _ => trivial) (fun _ _ _ _ _ _ _ _ => trivial) (Below.refl _ _) (fun _ => rfl)
    (fun pre W => CuI n gn gr gc pre W ∧ Below w.heap.size w W) (fun c pre W => CuX n gr gc c pre W ∧ Below w.heap.size w W)
    (OwnFrom.and (Own.from (CuI.own n gn gr gc) _) (ownFrom_below (Nat.le_refl _) HG.out))
    (fun c => OwnFrom.and (Own.from (CuX.own n gr gc c) _) (ownFrom_below (Nat.le_refl _) HG.out))
    ⟨⟨H1.out, H2.out, H5.out, by simp⟩, HBW.out⟩
    (fun z => { tmps := #[.agg (cb x).toArray, .int .i64 n, .pointer (some ⟨g0, 0, none⟩), .pointer (some ⟨gn, 0, none⟩), .pointer (some ⟨gr, 0, none⟩), .pointer (some ⟨gc, 0, none⟩), .int .i64 (z.1 : Int), .bool z.2, .agg (cb x).toArray, .func (.func 27) #[] #[.pointer (some ⟨g3, 0, none⟩)], .int .i64 (z.1 : Int), .bool z.2, undef, undef, undef, undef, undef, undef, undef, undef], defers := [] }) ?assign ?body ?done ?stop
  case assign =>
    intro l z W K hK
    gi_wp2
    exact hK
  case body =>
    rintro l pre ⟨zi, zb⟩ W ⟨hI, hB⟩ _
    have HI : Hid (CuI n gn gr gc pre W) := hI
    have HB : Hid (Below w.heap.size w W) := hB
    have hcn : W.cell? ⟨gn, 0, none⟩ = some (.int .i64 n) := hI.1.cell 0
    have HL : Hid ((cutF pre).length = 32) := cutF_len pre
    obtain ⟨y, HYY⟩ : ∃ y, Hid (y = cutF pre) := ⟨_, rfl⟩
    have HC : Hid (Blk W gc (cb y) 23) := by rw [HYY.out]; exact hI.2.2.1
    rw [← HYY.out] at HL
    obtain ⟨y2, HY2⟩ : ∃ y2, Hid (y2 = setI y (zi : Int) zb) := ⟨_, rfl⟩
    have HL2 : Hid (y2.length = 32) := by show _ = _; rw [HY2.out, setI_len]; exact HL.out
    clear hI hB
    gi_wp2_with (first
      | (with_reducible refine wpSeqIn_loadD (.tmp 5) gc y ?_ ?_ ?_ ?_ ?_ ?_
         · exact HL.out
         · exact HC.out
         · rfl
         · rfl
         · rfl)
      | (refine ⟨trivial, ?_⟩; gi_at_call 8; refine (CallsIn.inRound l (callsIn_wide.2 (pSet_any y HL.out _ _ _))).mono ?_; rintro e W2 ⟨rfl, hb2⟩
         rw [← HY2.out]
         have HK2 : Hid (KeepsOthers W W2) := keepsOthers_of_below hb2
         have HC2 : Hid (Blk W2 gc (cb y) 23) := HC.out.below hb2 HC.out.lt
         have HN2 : Hid (Blk W2 gn [.int .i64 n] 3) := HI.out.1.below hb2 HI.out.1.lt
         have HR2 : Hid (Blk W2 gr (cb zb32) 23) := HI.out.2.1.below hb2 HI.out.2.1.lt
         have HB2 : Hid (Below w.heap.size w W2) := HB.out.trans (hb2.mono HB.out.size)
         clear hb2)
      | (with_reducible refine wpSeqIn_storeD (.tmp 5) (.tmp 18) gc y y2 ?_ ?_ ?_ ?_ ?_ ?_ ?_ ?_
         · exact HL.out
         · exact HL2.out
         · exact HC2.out
         · rfl
         · rfl
         · rfl
         · rfl
         intro W3 h3 hk3))
    · rename_i hge
      exact ⟨KeepsOthers.refl _, ⟨pre, (zi, zb), rfl, rfl, HI.out.2.2.2, hge, HI.out.2.1, HI.out.2.2.1⟩, HB.out⟩
    · rename_i hlt
      refine ⟨HK2.out.trans hk3, trivial, ⟨HN2.out.only h3.only (by have := HNE.out; omega), HR2.out.only h3.only (by have := HNE.out; omega), ?_, fun p hp => ?_⟩, HB2.out.trans (h3.only.below (by have := HNE.out; have := HGR.out; omega) HB2.out.size)⟩
      · rw [cutF_snoc, ← HYY.out, ← HY2.out]; exact h3.blk
      · rcases List.mem_append.1 hp with hp | hp
        · exact HI.out.2.2.2 p hp
        · obtain rfl : p = (zi, zb) := by simpa using hp
          exact hlt
  case done =>
    rintro D ys W hD rfl ⟨HXX, hB⟩ hK
    obtain ⟨y, hC, hr, hc⟩ := HXX.all
    have HD : Hid (w.heap.size ≤ D) := Nat.le_trans HG.out hD
    have HY : Hid (IsCut x n y) := hC
    have HR : Hid (Blk W gr (cb zb32) 23) := hr
    have HC : Hid (Blk W gc (cb y) 23) := hc
    have HL : Hid (y.length = 32) := hC.1
    have HB : Hid (Below w.heap.size w W) := hB
    have HK : Hid (W.heap[D]? = some (.deferred (some []))) := hK
    clear HXX hB hK hD hC hr hc
    gi_wp2
    go_wp2_with (first
      | (with_reducible refine wpSeq_loadD (.tmp 5) gc y ?_ ?_ ?_ ?_ ?_ ?_
         · exact HL.out
         · exact HC.out
         · rfl
         · rfl
         · rfl)
      | (with_reducible refine wpSeq_storeD (.tmp 4) (.tmp 19) gr zb32 y ?_ ?_ ?_ ?_ ?_ ?_ ?_ ?_
         · rfl
         · exact HL.out
         · exact HR.out
         · rfl
         · rfl
         · rfl
         · rfl
         intro W5 h5))
    have hK' : W5.heap[D]? = some (.deferred (some [])) := by
      rw [h5.only.block D (fun e => by have h := HR.out; unfold Blk at h; rw [← e, HK.out] at h; cases h) (Array.getElem?_eq_some_iff.1 HK.out).1]; exact HK.out
    refine ⟨by simp, .inl ⟨_, _, rfl, run_takeDeferred hK', ?_⟩⟩
    have hB5 := h5.blk.put hK' rfl (o' := .deferred none)
    exact ⟨.agg (cb y).toArray, results_cell_row (by rfl) _ _ gr 23 _ (0, 0) _ rfl hB5 Try.underlying23 rfl (by rw [List.size_toArray, cb_len, HL.out]; exact info_digest), y, rfl, HY.out, (HB.out.trans (h5.only.below HGR.out (Nat.le_trans (Nat.le_refl _) HB.out.size))).trans (belowK_b (w := w) (Nat.le_refl _) _ D _ _ HD.out hK' rfl rfl)⟩
  case stop =>
    rintro D c pre W hD ⟨k, hk, rfl⟩ ⟨HXX, hB⟩ hK
    obtain ⟨rfl, y, hC, hr, hc⟩ := HXX.at hk
    have HD : Hid (w.heap.size ≤ D) := Nat.le_trans HG.out hD
    have HY : Hid (IsCut x n y) := hC
    have HR : Hid (Blk W gr (cb zb32) 23) := hr
    have HC : Hid (Blk W gc (cb y) 23) := hc
    have HL : Hid (y.length = 32) := hC.1
    have HB : Hid (Below w.heap.size w W) := hB
    have HK : Hid (W.heap[D]? = some (.deferred (some []))) := hK
    clear HXX hB hK hD hC hr hc
    gi_wp2
    go_wp2_with (first
      | (with_reducible refine wpSeq_loadD (.tmp 5) gc y ?_ ?_ ?_ ?_ ?_ ?_
         · exact HL.out
         · exact HC.out
         · rfl
         · rfl
         · rfl)
      | (with_reducible refine wpSeq_storeD (.tmp 4) (.tmp 19) gr zb32 y ?_ ?_ ?_ ?_ ?_ ?_ ?_ ?_
         · rfl
         · exact HL.out
         · exact HR.out
         · rfl
         · rfl
         · rfl
         · rfl
         intro W5 h5))
    have hK' : W5.heap[D]? = some (.deferred (some [])) := by
      rw [h5.only.block D (fun e => by have h := HR.out; unfold Blk at h; rw [← e, HK.out] at h; cases h) (Array.getElem?_eq_some_iff.1 HK.out).1]; exact HK.out
    refine ⟨by simp, .inl ⟨_, _, rfl, run_takeDeferred hK', ?_⟩⟩
    have hB5 := h5.blk.put hK' rfl (o' := .deferred none)
    exact ⟨.agg (cb y).toArray, results_cell_row (by rfl) _ _ gr 23 _ (0, 0) _ rfl hB5 Try.underlying23 rfl (by rw [List.size_toArray, cb_len, HL.out]; exact info_digest), y, rfl, HY.out, (HB.out.trans (h5.only.below HGR.out (Nat.le_trans (Nat.le_refl _) HB.out.size))).trans (belowK_b (w := w) (Nat.le_refl _) _ D _ _ HD.out hK' rfl rfl)⟩
end Go.Proofs.Ythjkihbobdollaa

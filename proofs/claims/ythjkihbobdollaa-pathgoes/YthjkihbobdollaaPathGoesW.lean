/- PathGoes, walked. -/
import Derived.Test.YthjkihbobdollaaPathWk
namespace Go.Proofs.Ythjkihbobdollaa
open Go.RowKit Go.Shelf
attribute [local go_sem] Oper.semAt_some
/-- the round that leaves (d: the digest, sp: where to stop): what is wrong with the bit that came last -/
def GoBad (d : List (BitVec 8)) (pr : List (Nat × Bool)) (p : Nat × Bool) : Prop := p.1 ≠ pr.length ∨ 255 < pr.length ∨ p.2 ≠ bitI d (p.1 : Int)
structure GoI (d : List (BitVec 8)) (sp : Int) (gd gs gr gn : Nat) (pre : List (Nat × Bool)) (W : World) : Prop where
  bd : Blk W gd (cb d) 23
  bs : Blk W gs [.int .i64 sp] 3
  br : Blk W gr [.bool false] 4
  bn : Blk W gn [.int .i64 (pre.length : Int)] 3
  le : pre.length ≤ 256
def GoX (d : List (BitVec 8)) (sp : Int) (gd gs gr gn : Nat) (c : Code) (pre : List (Nat × Bool)) (W : World) : Prop :=
  (c = .ret ∧ ∃ pr p, pre = pr ++ [p] ∧ GoBad d pr p) ∨ (c = .exit 0 ∧ GoI d sp gd gs gr gn pre W ∧ (pre.length : Int) = sp)
theorem GoI.kept {d : List (BitVec 8)} {sp : Int} {gd gs gr gn : Nat} {pre : List (Nat × Bool)} {A B : World} {row : Option Nat} (h : GoI d sp gd gs gr gn pre A) (hg : A.grownBy B row) (hr : ∀ r, row = some r → ∃ o : Obj, A.heap[r]? = some o ∧ o.isCells = false) : GoI d sp gd gs gr gn pre B :=
  ⟨blk_own (β := Unit) gd (fun _ => cb d) _ () A B row h.bd hg hr, blk_own (β := Unit) gs (fun _ => [.int .i64 sp]) _ () A B row h.bs hg hr, blk_own (β := Unit) gr (fun _ => [.bool false]) _ () A B row h.br hg hr, blk_own (β := Unit) gn (fun _ => [.int .i64 (pre.length : Int)]) _ () A B row h.bn hg hr, h.le⟩
theorem GoI.own (d : List (BitVec 8)) (sp : Int) (gd gs gr gn : Nat) : Own (GoI d sp gd gs gr gn) := fun _ _ _ _ hs hg hr => hs.kept hg hr
theorem GoX.own (d : List (BitVec 8)) (sp : Int) (gd gs gr gn : Nat) (c : Code) : Own (GoX d sp gd gs gr gn c) := fun _ _ _ _ hs hg hr => by
  rcases hs with h | ⟨h1, h2, h3⟩
  · exact Or.inl h
  · exact Or.inr ⟨h1, h2.kept hg hr, h3⟩
theorem GoX.at {d : List (BitVec 8)} {sp : Int} {gd gs gr gn : Nat} {c : Code} {k : Nat} {W : World} (hk : k ≤ 256) (h : GoX d sp gd gs gr gn c (bitsOf d k) W) : c = .exit 0 ∧ GoI d sp gd gs gr gn (bitsOf d k) W ∧ (k : Int) = sp := by
  rcases h with ⟨_, pr, p, h1, h2⟩ | ⟨h1, h2, h3⟩
  · obtain ⟨j, rfl, rfl, rfl⟩ := bits_split h1
    unfold GoBad at h2
    rw [bitsOf_len] at h2
    simp only at h2
    rw [bitI_nat d j (by omega)] at h2
    rcases h2 with h2 | h2 | h2
    · exact absurd rfl h2
    · omega
    · exact absurd rfl h2
  · rw [bitsOf_len] at h3
    exact ⟨h1, h2, h3⟩
theorem notNil (g : Nat) (w : World) : (binOp .eql 29 (.func (.func 27) #[] #[.pointer (some ⟨g, 0, none⟩)]) .nilFunc).run Try.prog w = .ok (.bool false) w := by kernel_rfl
set_option maxRecDepth 100000 in
set_option maxHeartbeats 4000000 in
theorem pathGoes_walk (x : List (BitVec 8)) (hx : x.length = 32) (sp : Int) (w : World) : Calls Try.prog 4 #[.agg (cb x).toArray, .int .i64 sp] w fun e w' => e = .returned (.bool true) ∧ Below w.heap.size w w' := by
  have HX : Hid (x.length = 32) := hx
  have hnil := notNil
  clear hx
  refine (callsIn_wide (n := 4)).1 ?_
  refine callsIn_of_wp_marks Try.func4 rfl trivial ?_ rfl
  simp only [Try.ntmps4, List.size_toArray, List.length_cons, List.length_nil, Nat.reduceAdd, Nat.reduceSub, Array.replicate_succ, Array.replicate_zero, List.push_toArray, List.append_toArray, List.nil_append, List.cons_append]
  refine wpIn_wide.2 ?_
  go_wp2_with (first
    | (with_reducible refine wpSeq_boxD (.tmp 0) x ?_ ?_ ?_ ?_
       · rfl
       · rfl
       · rfl
       intro gd w1 n1)
    | (with_reducible refine wpSeq_boxI (.tmp 1) sp ?_ ?_ ?_ ?_
       · rfl
       · rfl
       · rfl
       intro gs w2 n2
       have H0 : Hid (Blk w2 gd (cb x) 23) := n1.blk.below n2.below n1.blk.lt
       have H1 : Hid (Blk w2 gs [.int .i64 sp] 3) := n2.blk
       have HG : Hid (w.heap.size ≤ w2.heap.size) := Nat.le_trans n1.below.size n2.below.size
       have HBW : Hid (Below w.heap.size w w2) := n1.below.trans (n2.below.mono n1.below.size)
       clear n1 n2)
    | (with_reducible refine wpSeq_allocT ?_ ?_ ?_
       · rfl
       · rfl
       intro gr w3 n3
       replace H0 : Hid (Blk w3 gd (cb x) 23) := H0.out.below n3.below H0.out.lt
       replace H1 : Hid (Blk w3 gs [.int .i64 sp] 3) := H1.out.below n3.below H1.out.lt
       have H2 : Hid (Blk w3 gr [.bool false] 4) := n3.blk
       have HGR : Hid (w.heap.size ≤ gr) := Nat.le_trans HG.out n3.ge
       replace HBW : Hid (Below w.heap.size w w3) := HBW.out.trans (n3.below.mono HG.out)
       replace HG : Hid (w.heap.size ≤ w3.heap.size) := Nat.le_trans HG.out n3.below.size
       clear n3)
    | (with_reducible refine wpSeq_loadD (.tmp 2) gd x ?_ ?_ ?_ ?_ ?_ ?_
       · exact HX.out
       · exact H0.out
       · with_reducible rfl
       · rfl
       · rfl)
    | (go_at_call 13; refine (pBits_any x _).mono ?_; rintro e w4 ⟨g3, rfl, n4⟩
       replace H0 : Hid (Blk w4 gd (cb x) 23) := H0.out.below n4.below H0.out.lt
       replace H1 : Hid (Blk w4 gs [.int .i64 sp] 3) := H1.out.below n4.below H1.out.lt
       replace H2 : Hid (Blk w4 gr [.bool false] 4) := H2.out.below n4.below H2.out.lt
       have H3 : Hid (Blk w4 g3 (cb x) 23) := n4.blk
       replace HBW : Hid (Below w.heap.size w w4) := HBW.out.trans (n4.below.mono HG.out)
       replace HG : Hid (w.heap.size ≤ w4.heap.size) := Nat.le_trans HG.out n4.below.size
       clear n4)
    | (with_reducible refine wpSeq_allocI ?_ ?_ ?_
       · rfl
       · rfl
       intro gn w5 n5
       have HNE : Hid (gd < gn ∧ gs < gn ∧ gr < gn ∧ g3 < gn) := ⟨Nat.lt_of_lt_of_le H0.out.lt n5.ge, Nat.lt_of_lt_of_le H1.out.lt n5.ge, Nat.lt_of_lt_of_le H2.out.lt n5.ge, Nat.lt_of_lt_of_le H3.out.lt n5.ge⟩
       replace H0 : Hid (Blk w5 gd (cb x) 23) := H0.out.below n5.below H0.out.lt
       replace H1 : Hid (Blk w5 gs [.int .i64 sp] 3) := H1.out.below n5.below H1.out.lt
       replace H2 : Hid (Blk w5 gr [.bool false] 4) := H2.out.below n5.below H2.out.lt
       replace H3 : Hid (Blk w5 g3 (cb x) 23) := H3.out.below n5.below H3.out.lt
       have H4 : Hid (Blk w5 gn [.int .i64 0] 3) := n5.blk
       replace HBW : Hid (Below w.heap.size w w5) := HBW.out.trans (n5.below.mono HG.out)
       have HGN : Hid (w.heap.size ≤ gn) := Nat.le_trans HG.out n5.ge
       replace HG : Hid (w.heap.size ≤ w5.heap.size) := Nat.le_trans HG.out n5.below.size
       have hc4 : w5.cell? ⟨gn, 0, none⟩ = some (.int .i64 0) := H4.out.cell 0
       have hf4 : w5.frozen? ⟨gn, 0, none⟩ = false := H4.out.frozen 0
       clear n5))
  have HW6 : Hid (GoI x sp gd gs gr gn [] (w5.setCell ⟨gn, 0, none⟩ (.int .i64 0))) := ⟨H0.out.other _ _ (by have := HNE.out; show _ ≠ gn; omega), H1.out.other _ _ (by have := HNE.out; show _ ≠ gn; omega), H2.out.other _ _ (by have := HNE.out; show _ ≠ gn; omega), H4.out.set 0 _, by simp⟩
  have H36 : Hid (Blk (w5.setCell ⟨gn, 0, none⟩ (.int .i64 0)) g3 (cb x) 23) := H3.out.other _ _ (by have := HNE.out; show _ ≠ gn; omega)
  have HB6 : Hid (Below w.heap.size w (w5.setCell ⟨gn, 0, none⟩ (.int .i64 0))) := HBW.out.setCell (p := ⟨gn, 0, none⟩) HGN.out _
  clear hc4 hf4 H0 H1 H2 H3 H4 HBW HG hnil
  generalize w5.setCell ⟨gn, 0, none⟩ (.int .i64 0) = w6 at *
  refine (wpIn_wide (n := 4)).1 ?_
  refine wpIn_rangeFunc_ownF (F := Fence.wide) rfl (by omega) (gf := 27) (lb := #[.pointer (some ⟨g3, 0, none⟩)]) rfl trivial (enters_of Try.func27 (by kernel_rfl) rfl)
    (bits_stops 3 (by omega) g3 x HX.out w6 H36.out) (fun _ _ => trivial) (fun _ _ _ _ _ _ _ _ => trivial) (Below.refl _ _) (fun _ => rfl)
    (fun pre W => GoI x sp gd gs gr gn pre W ∧ Below w.heap.size w W) (fun c pre W => GoX x sp gd gs gr gn c pre W ∧ Below w.heap.size w W)
    (OwnFrom.and (Own.from (GoI.own x sp gd gs gr gn) _) (ownFrom_below (Nat.le_refl _) HB6.out.size))
    (fun c => OwnFrom.and (Own.from (GoX.own x sp gd gs gr gn c) _) (ownFrom_below (Nat.le_refl _) HB6.out.size))
    ⟨HW6.out, HB6.out⟩
    (fun z => { tmps := #[.agg (cb x).toArray, .int .i64 sp, .pointer (some ⟨gd, 0, none⟩), .pointer (some ⟨gs, 0, none⟩), .pointer (some ⟨gr, 0, none⟩), .func (.func 27) #[] #[.pointer (some ⟨g3, 0, none⟩)], .pointer (some ⟨gn, 0, none⟩), .int .i64 (z.1 : Int), .bool z.2, .agg (cb x).toArray, .func (.func 27) #[] #[.pointer (some ⟨g3, 0, none⟩)], .func (.func 27) #[] #[.pointer (some ⟨g3, 0, none⟩)], .bool false, .func (.func 27) #[] #[.pointer (some ⟨g3, 0, none⟩)], .int .i64 (z.1 : Int), .bool z.2, undef, undef, undef, undef, undef, undef, undef, undef, undef, undef, undef, undef, undef, undef, undef, undef, undef, undef, undef, undef, undef, undef, undef, undef, undef, undef, undef, undef, undef], defers := [] }) ?assign ?body ?done ?stop
  case assign =>
    intro l z W K hK
    gi_wp2
    exact hK
  case body =>
    rintro l pre ⟨zi, zb⟩ W ⟨hI, hB⟩ hlen
    have HI : Hid (GoI x sp gd gs gr gn pre W) := hI
    have HB : Hid (Below w.heap.size w W) := hB
    obtain ⟨L, hL⟩ : ∃ L, pre.length = L := ⟨_, rfl⟩
    have HLE : Hid (pre.length = L) := hL
    have hcn : W.cell? ⟨gn, 0, none⟩ = some (.int .i64 (L : Int)) := by rw [← hL]; exact hI.bn.cell 0
    have hcr : W.cell? ⟨gr, 0, none⟩ = some (.bool false) := hI.br.cell 0
    have hfr : W.frozen? ⟨gr, 0, none⟩ = false := hI.br.frozen 0
    rw [hL] at hlen
    have f5 : IntKind.i64.wrap ((L : Int) + 1) = (L : Int) + 1 := wrap_small _ (by omega) (by omega)
    have i255 : ¬ ((255 : Int) < (L : Int)) := by omega
    have HLEN : Hid (L < 256) := hlen
    clear hI hB hL hlen
    by_cases hz : zi = L
    · subst hz
      obtain ⟨o, HBI⟩ : ∃ o, Hid (bitI x (zi : Int) = o) := ⟨_, rfl⟩
      by_cases hb : zb = o
      · subst hb
        gi_wp2_with (first
          | (with_reducible refine wpSeqIn_loadD (.tmp 2) gd x ?_ ?_ ?_ ?_ ?_ ?_
             · exact HX.out
             · exact HI.out.bd
             · with_reducible rfl
             · rfl
             · rfl)
          | (refine ⟨trivial, ?_⟩; gi_at_call 10; refine (CallsIn.inRound l (callsIn_wide.2 (sBit_any x HX.out _ _))).mono ?_; rintro e W2 ⟨rfl, hb2⟩; rw [HBI.out]
             have HK2 : Hid (KeepsOthers W W2) := keepsOthers_of_below hb2
             have HI2 : Hid (GoI x sp gd gs gr gn pre W2) := ⟨HI.out.bd.below hb2 HI.out.bd.lt, HI.out.bs.below hb2 HI.out.bs.lt, HI.out.br.below hb2 HI.out.br.lt, HI.out.bn.below hb2 HI.out.bn.lt, HI.out.le⟩
             have HB2 : Hid (Below w.heap.size w W2) := HB.out.trans (hb2.mono HB.out.size)
             have hn2 : W2.cell? ⟨gn, 0, none⟩ = some (.int .i64 (zi : Int)) := by rw [← HLE.out]; exact HI2.out.bn.cell 0
             have hnf2 : W2.frozen? ⟨gn, 0, none⟩ = false := HI2.out.bn.frozen 0
             have hr2 : W2.cell? ⟨gr, 0, none⟩ = some (.bool false) := HI2.out.br.cell 0
             have hrf2 : W2.frozen? ⟨gr, 0, none⟩ = false := HI2.out.br.frozen 0
             have hs2 : (W2.setCell ⟨gn, 0, none⟩ (.int .i64 ((zi : Int) + 1))).cell? ⟨gs, 0, none⟩ = some (.int .i64 sp) := (HI2.out.bs.other _ _ (by have := HNE.out; show _ ≠ gn; omega)).cell 0
             have hn3 : (W2.setCell ⟨gn, 0, none⟩ (.int .i64 ((zi : Int) + 1))).cell? ⟨gn, 0, none⟩ = some (.int .i64 ((zi : Int) + 1)) := (HI2.out.bn.set 0 _).cell 0
             have HGI : Hid (GoI x sp gd gs gr gn (pre ++ [(zi, zb)]) (W2.setCell ⟨gn, 0, none⟩ (.int .i64 ((zi : Int) + 1)))) := ⟨HI2.out.bd.other _ _ (by have := HNE.out; show _ ≠ gn; omega), HI2.out.bs.other _ _ (by have := HNE.out; show _ ≠ gn; omega), HI2.out.br.other _ _ (by have := HNE.out; show _ ≠ gn; omega), by
               have h := HI2.out.bn.set 0 (.int .i64 ((zi : Int) + 1))
               rw [List.length_append, HLE.out]; simpa using h, by rw [List.length_append, HLE.out]; have := HLEN.out; simp; omega⟩
             clear hb2))
        · rename_i hsp
          exact ⟨HK2.out.trans (KeepsOthers.setCell _ _ _), Or.inr ⟨rfl, HGI.out, by rw [List.length_append, HLE.out]; have h2 : (zi : Int) + 1 = sp := (by first | exact hsp | simpa using hsp); simp only [List.length_cons, List.length_nil]; omega⟩, HB2.out.setCell (p := ⟨gn, 0, none⟩) HGN.out _⟩
        · exact ⟨HK2.out.trans (KeepsOthers.setCell _ _ _), trivial, HGI.out, HB2.out.setCell (p := ⟨gn, 0, none⟩) HGN.out _⟩
      · have hbn : (zb == o) = false := by simpa using hb
        gi_wp2_with (first
          | (with_reducible refine wpSeqIn_loadD (.tmp 2) gd x ?_ ?_ ?_ ?_ ?_ ?_
             · exact HX.out
             · exact HI.out.bd
             · with_reducible rfl
             · rfl
             · rfl)
          | (refine ⟨trivial, ?_⟩; gi_at_call 10; refine (CallsIn.inRound l (callsIn_wide.2 (sBit_any x HX.out _ _))).mono ?_; rintro e W2 ⟨rfl, hb2⟩; rw [HBI.out]
             have HK2 : Hid (KeepsOthers W W2) := keepsOthers_of_below hb2
             have HI2 : Hid (GoI x sp gd gs gr gn pre W2) := ⟨HI.out.bd.below hb2 HI.out.bd.lt, HI.out.bs.below hb2 HI.out.bs.lt, HI.out.br.below hb2 HI.out.br.lt, HI.out.bn.below hb2 HI.out.bn.lt, HI.out.le⟩
             have HB2 : Hid (Below w.heap.size w W2) := HB.out.trans (hb2.mono HB.out.size)
             have hn2 : W2.cell? ⟨gn, 0, none⟩ = some (.int .i64 (zi : Int)) := by rw [← HLE.out]; exact HI2.out.bn.cell 0
             have hnf2 : W2.frozen? ⟨gn, 0, none⟩ = false := HI2.out.bn.frozen 0
             have hr2 : W2.cell? ⟨gr, 0, none⟩ = some (.bool false) := HI2.out.br.cell 0
             have hrf2 : W2.frozen? ⟨gr, 0, none⟩ = false := HI2.out.br.frozen 0
             have hs2 : (W2.setCell ⟨gn, 0, none⟩ (.int .i64 ((zi : Int) + 1))).cell? ⟨gs, 0, none⟩ = some (.int .i64 sp) := (HI2.out.bs.other _ _ (by have := HNE.out; show _ ≠ gn; omega)).cell 0
             have hn3 : (W2.setCell ⟨gn, 0, none⟩ (.int .i64 ((zi : Int) + 1))).cell? ⟨gn, 0, none⟩ = some (.int .i64 ((zi : Int) + 1)) := (HI2.out.bn.set 0 _).cell 0
             have HGI : Hid (GoI x sp gd gs gr gn (pre ++ [(zi, zb)]) (W2.setCell ⟨gn, 0, none⟩ (.int .i64 ((zi : Int) + 1)))) := ⟨HI2.out.bd.other _ _ (by have := HNE.out; show _ ≠ gn; omega), HI2.out.bs.other _ _ (by have := HNE.out; show _ ≠ gn; omega), HI2.out.br.other _ _ (by have := HNE.out; show _ ≠ gn; omega), by
               have h := HI2.out.bn.set 0 (.int .i64 ((zi : Int) + 1))
               rw [List.length_append, HLE.out]; simpa using h, by rw [List.length_append, HLE.out]; have := HLEN.out; simp; omega⟩
             clear hb2))
        exact ⟨HK2.out.trans (KeepsOthers.setCell _ _ _), Or.inl ⟨rfl, pre, (zi, zb), rfl, Or.inr (Or.inr (by simp only [HBI.out]; exact hb))⟩, HB2.out.setCell (p := ⟨gr, 0, none⟩) HGR.out _⟩
    · have hzz : ¬ ((zi : Int) = (L : Int)) := by omega
      gi_wp2
      refine ⟨trivial, ?_⟩
      gi_wp2
      exact ⟨KeepsOthers.setCell _ _ _, Or.inl ⟨rfl, pre, (zi, zb), rfl, Or.inl (by rw [HLE.out]; exact hz)⟩, HB.out.setCell (p := ⟨gr, 0, none⟩) HGR.out _⟩
  case done =>
    rintro D ys W hD rfl ⟨hI, hB⟩ hK
    have HD : Hid (w.heap.size ≤ D) := Nat.le_trans HB6.out.size hD
    have HI : Hid (GoI x sp gd gs gr gn (bitsOf x 256) W) := hI
    have hcn : W.cell? ⟨gn, 0, none⟩ = some (.int .i64 (256 : Int)) := by have h := hI.bn.cell 0; rw [bitsOf_len] at h; exact h
    have hcs : W.cell? ⟨gs, 0, none⟩ = some (.int .i64 sp) := hI.bs.cell 0
    have HB : Hid (Below w.heap.size w W) := hB
    have HK : Hid (W.heap[D]? = some (.deferred (some []))) := hK
    clear hI hB hK hD
    gi_wp2
    go_wp2_with (go_at_call 12; refine (pworks_any _).mono ?_; rintro e W2 ⟨rfl, hb2⟩; have HR2 : Hid (Blk W2 gr [.bool false] 4) := (HI.out.br.below hb2 HI.out.br.lt); have hr2 : W2.cell? ⟨gr, 0, none⟩ = some (.bool false) := (HR2.out.cell 0); have hrf2 : W2.frozen? ⟨gr, 0, none⟩ = false := (HR2.out.frozen 0); have HK2 : Hid (W2.heap[D]? = some (.deferred (some []))) := ((keepsOthers_of_below hb2).same D _ HK.out rfl); have HB2 : Hid (Below w.heap.size w W2) := (HB.out.trans (hb2.mono HB.out.size)); clear hb2)
    all_goals
      have hK' := (KeepsOthers.setCell W2 ⟨gr, 0, none⟩ (.bool true)).same D _ HK2.out rfl
      refine ⟨by simp, .inl ⟨_, _, rfl, run_takeDeferred hK', ?_⟩⟩
      have hc5 := ((HR2.out.set 0 (.bool true)).put hK' rfl (o' := .deferred none)).cell 0
      refine ⟨.bool true, ?_, rfl, (HB2.out.setCell (p := ⟨gr, 0, none⟩) HGR.out _).trans (belowK_b (w := w) (Nat.le_refl _) _ D _ _ HD.out hK' rfl rfl)⟩
      simp at hc5
      simp [results, Try.f4, go_sem, hc5]
  case stop =>
    rintro D c pre W hD ⟨k, hk, rfl⟩ ⟨hX, hB⟩ hK
    obtain ⟨rfl, hI, hsp⟩ := hX.at hk
    clear hX
    by_cases h256 : k = 256
    · subst h256
      clear hsp
      have HD : Hid (w.heap.size ≤ D) := Nat.le_trans HB6.out.size hD
      have HI : Hid (GoI x sp gd gs gr gn (bitsOf x 256) W) := hI
      have hcn : W.cell? ⟨gn, 0, none⟩ = some (.int .i64 (256 : Int)) := by have h := hI.bn.cell 0; rw [bitsOf_len] at h; exact h
      have hcs : W.cell? ⟨gs, 0, none⟩ = some (.int .i64 sp) := hI.bs.cell 0
      have HB : Hid (Below w.heap.size w W) := hB
      have HK : Hid (W.heap[D]? = some (.deferred (some []))) := hK
      clear hI hB hK hD
      gi_wp2
      go_wp2_with (go_at_call 12; refine (pworks_any _).mono ?_; rintro e W2 ⟨rfl, hb2⟩; have HR2 : Hid (Blk W2 gr [.bool false] 4) := (HI.out.br.below hb2 HI.out.br.lt); have hr2 : W2.cell? ⟨gr, 0, none⟩ = some (.bool false) := (HR2.out.cell 0); have hrf2 : W2.frozen? ⟨gr, 0, none⟩ = false := (HR2.out.frozen 0); have HK2 : Hid (W2.heap[D]? = some (.deferred (some []))) := ((keepsOthers_of_below hb2).same D _ HK.out rfl); have HB2 : Hid (Below w.heap.size w W2) := (HB.out.trans (hb2.mono HB.out.size)); clear hb2)
      all_goals
        have hK' := (KeepsOthers.setCell W2 ⟨gr, 0, none⟩ (.bool true)).same D _ HK2.out rfl
        refine ⟨by simp, .inl ⟨_, _, rfl, run_takeDeferred hK', ?_⟩⟩
        have hc5 := ((HR2.out.set 0 (.bool true)).put hK' rfl (o' := .deferred none)).cell 0
        refine ⟨.bool true, ?_, rfl, (HB2.out.setCell (p := ⟨gr, 0, none⟩) HGR.out _).trans (belowK_b (w := w) (Nat.le_refl _) _ D _ _ HD.out hK' rfl rfl)⟩
        simp at hc5
        simp [results, Try.f4, go_sem, hc5]
    · have h256' : ¬ ((k : Int) = 256) := by omega
      subst hsp
      have HD : Hid (w.heap.size ≤ D) := Nat.le_trans HB6.out.size hD
      have HI : Hid (GoI x (k : Int) gd gs gr gn (bitsOf x k) W) := hI
      have hcn : W.cell? ⟨gn, 0, none⟩ = some (.int .i64 (k : Int)) := by have h := hI.bn.cell 0; rw [bitsOf_len] at h; exact h
      have hcs : W.cell? ⟨gs, 0, none⟩ = some (.int .i64 (k : Int)) := hI.bs.cell 0
      have HB : Hid (Below w.heap.size w W) := hB
      have HK : Hid (W.heap[D]? = some (.deferred (some []))) := hK
      clear hI hB hK hD
      gi_wp2
      go_wp2_with (go_at_call 12; refine (pworks_any _).mono ?_; rintro e W2 ⟨rfl, hb2⟩; have HR2 : Hid (Blk W2 gr [.bool false] 4) := (HI.out.br.below hb2 HI.out.br.lt); have hr2 : W2.cell? ⟨gr, 0, none⟩ = some (.bool false) := (HR2.out.cell 0); have hrf2 : W2.frozen? ⟨gr, 0, none⟩ = false := (HR2.out.frozen 0); have HK2 : Hid (W2.heap[D]? = some (.deferred (some []))) := ((keepsOthers_of_below hb2).same D _ HK.out rfl); have HB2 : Hid (Below w.heap.size w W2) := (HB.out.trans (hb2.mono HB.out.size)); clear hb2)
      all_goals
        have hK' := (KeepsOthers.setCell W2 ⟨gr, 0, none⟩ (.bool true)).same D _ HK2.out rfl
        refine ⟨by simp, .inl ⟨_, _, rfl, run_takeDeferred hK', ?_⟩⟩
        have hc5 := ((HR2.out.set 0 (.bool true)).put hK' rfl (o' := .deferred none)).cell 0
        refine ⟨.bool true, ?_, rfl, (HB2.out.setCell (p := ⟨gr, 0, none⟩) HGR.out _).trans (belowK_b (w := w) (Nat.le_refl _) _ D _ _ HD.out hK' rfl rfl)⟩
        simp at hc5
        simp [results, Try.f4, go_sem, hc5]
end Go.Proofs.Ythjkihbobdollaa

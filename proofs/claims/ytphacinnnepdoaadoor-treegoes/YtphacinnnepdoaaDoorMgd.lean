/- Texts that the proof leans on, one behind the other: The walks of tree's Root, sides and Get. tree's each, and the function that All hands out: it yields all leaves, in order. The walks of sort.Search, and of tree.below: the tree of leaves that stand in a row. .. -/
import Derived.Test.YtphacinnnepdoaaDoorMgc
import Derived.RangeFuncFrom
import Derived.Sort.Lot0
import Derived.Test.YtphacinnnepdoaaDoorChecked
import Derived.Shelf.SlSortCmp.Kit1
import Derived.Sort.WalkB2
import Derived.Sort.WalkB12
import Derived.Deep.LoopGhost
import Derived.Sort.WalkA
import Derived.Deep.CutRange
/- The walks of tree's Root, sides and Get. -/
namespace Go.Proofs.YtphacinnnepdoaaDoor
open Go.RowKit
theorem below_drewN {B : Nat} {w w' : World} (h : Below B w w') (n : Nat) : Below B w (w'.drewN n) := ⟨h.os, h.tape, h.output, h.size, h.block⟩
theorem RETD {w w' W9 : World} {gr : Nat} {r : List (BitVec 8)} (h9 : SetB r w' gr W9) (hg : w.heap.size ≤ gr) (hb : Below w.heap.size w w') : Below w.heap.size w W9 := hb.trans (h9.only.below hg hb.size)
set_option maxRecDepth 100000 in
set_option maxHeartbeats 2000000 in
theorem trRoot_any (w : World) (d g : Nat) (l : List Lf) (hK : KOk w) (h : TreeIs w d g l) (hF : Fits l d) : Calls Tryd.prog 13 #[.pointer (some ⟨g, 0, none⟩)] w fun e w' => e = .returned (.agg (cb (rootL l d)).toArray) ∧ Below w.heap.size w w' := by
  obtain ⟨r, HRD⟩ : ∃ r, Hid (r = rootL l d) := ⟨_, rfl⟩
  have HRL : Hid (r.length = 32) := by show _ = _; rw [HRD.out]; exact rootL_len hF
  obtain ⟨ix, vl, p, q, hc⟩ := h.cells
  rw [← HRD.out] at hc ⊢
  have HC : Hid (TreeC w g l.length r ix vl p q) := hc
  have HK : Hid (KOk w) := hK
  obtain ⟨n, HN⟩ : ∃ n, Hid (n = l.length) := ⟨_, rfl⟩
  rw [← HN.out] at HC
  have HE : Hid (n = 0 → r = dig [69]) := fun e => by
    have : l = [] := List.length_eq_zero_iff.1 (by rw [← HN.out, e])
    rw [HRD.out, this, rootL_nil]
  clear h hF hc hK
  go_enter Tryd.func13, Tryd.ntmps13
  go_upto_region 1 with (first
    | (with_reducible refine wpSeq_allocD ?_ ?_ ?_
       · rfl
       · rfl
       intro gr wa nn
       have HGR : Hid (w.heap.size ≤ gr) := nn.ge
       have HB : Hid (Blk wa gr (cb zb32) 24) := nn.blk
       have HBW : Hid (Below w.heap.size w wa) := nn.below
       replace HC : Hid (TreeC wa g n r ix vl p q) := HC.out.next nn.below
       replace HK : Hid (KOk wa) := HK.out.below nn.below HK.out.lt
       clear nn))
  have c0 := HC.out.cnt
  by_cases hz : n = 0
  · subst hz
    have HRE := HE.out rfl
    clear HE
    go_wp2_with (first
      | (go_at_call 23; refine (trEmpty_any _ HK.out).mono ?_; rintro e wb ⟨ge, rfl, hce, hb⟩
         rw [← HRE] at hce
         have HCE : Hid (TreeC wb ge 0 r zb32 zb32 (.pointer none) (.pointer none)) := hce
         replace HB : Hid (Blk wb gr (cb zb32) 24) := HB.out.below hb HB.out.lt
         replace HBW : Hid (Below w.heap.size w wb) := HBW.out.trans (hb.mono HBW.out.size)
         clear hce hb c0 HRE)
      | (with_reducible refine wpSeq_loadAt (.tmp 10) ge 1 r ?_ ?_ ?_ ?_ ?_ ?_
         · exact HRL.out
         · exact HCE.out.root
         · with_reducible rfl
         · rfl
         · rfl)
      | (with_reducible refine wpSeq_storeD (.tmp 2) (.tmp 11) gr zb32 r ?_ ?_ ?_ ?_ ?_ ?_ ?_ ?_
         · rfl
         · exact HRL.out
         · exact HB.out
         · rfl
         · rfl
         · rfl
         · rfl
         intro W9 h9))
    exact bodyPost_ret (v := .agg (cb r).toArray) (results_cell_row (by rfl) _ _ gr 24 _ (0, 0) _ rfl h9.blk Tryd.underlying24 rfl (by rw [List.size_toArray, cb_len, HRL.out]; exact info_digest)) rfl ⟨rfl, RETD h9 HGR.out HBW.out⟩
  · have hz' : ¬ ((n : Int) = 0) := by omega
    have hz2 : ((n : Int) == 0) = false := by rw [beq_eq_false_iff_ne]; exact hz'
    clear HE HK
    go_wp2_with (first
      | (with_reducible refine wpSeq_loadAt (.tmp 14) g 1 r ?_ ?_ ?_ ?_ ?_ ?_
         · exact HRL.out
         · exact HC.out.root
         · with_reducible rfl
         · rfl
         · rfl)
      | (with_reducible refine wpSeq_storeD (.tmp 2) (.tmp 15) gr zb32 r ?_ ?_ ?_ ?_ ?_ ?_ ?_ ?_
         · rfl
         · exact HRL.out
         · exact HB.out
         · rfl
         · rfl
         · rfl
         · rfl
         intro W9 h9))
    exact bodyPost_ret (v := .agg (cb r).toArray) (results_cell_row (by rfl) _ _ gr 24 _ (0, 0) _ rfl h9.blk Tryd.underlying24 rfl (by rw [List.size_toArray, cb_len, HRL.out]; exact info_digest)) rfl ⟨rfl, RETD h9 HGR.out HBW.out⟩
set_option maxRecDepth 100000 in
set_option maxHeartbeats 2000000 in
theorem trSides_any (w : World) (g c g0 g1 dd : Nat) (rt ix vl x : List (BitVec 8)) (hc : TreeC w g c rt ix vl (ptr g0) (ptr g1)) (hx : x.length = 32) (hd : dd < 256) : Calls Tryd.prog 31 #[.pointer (some ⟨g, 0, none⟩), .agg (cb x).toArray, .int .i64 (dd : Int)] w fun e w' => e = .returned (.tuple #[bif bt x dd then ptr g1 else ptr g0, bif bt x dd then ptr g0 else ptr g1]) ∧ Below w.heap.size w w' := by
  have HC : Hid (TreeC w g c rt ix vl (ptr g0) (ptr g1)) := hc
  have HX : Hid (x.length = 32) := hx
  obtain ⟨b, HB⟩ : ∃ b, Hid (b = bt x dd) := ⟨_, rfl⟩
  have HBB : Hid (bitI x (dd : Int) = b) := by show _ = _; rw [bitI_nat x dd hd, HB.out]
  rw [← HB.out]
  clear hc hx
  go_enter Tryd.func31, Tryd.ntmps31
  go_upto_if 10 with (first
    | (with_reducible refine wpSeq_boxD (.tmp 1) x ?_ ?_ ?_ ?_
       · rfl
       · rfl
       · rfl
       intro gx wx nn
       have HBX : Hid (Blk wx gx (cb x) 24) := nn.blk
       have HBW : Hid (Below w.heap.size w wx) := nn.below
       replace HC : Hid (TreeC wx g c rt ix vl (ptr g0) (ptr g1)) := HC.out.next nn.below
       clear nn)
    | (with_reducible refine wpSeq_loadD (.tmp 4) gx x ?_ ?_ ?_ ?_ ?_ ?_
       · exact HX.out
       · exact HBX.out
       · rfl
       · rfl
       · rfl)
    | (go_at_call 44; refine (pBit_any x HX.out _ _).mono ?_; rintro e w2 ⟨rfl, hb⟩; rw [HBB.out]
       replace HBW : Hid (Below w.heap.size w w2) := HBW.out.trans (hb.mono HBW.out.size)
       replace HC : Hid (TreeC w2 g c rt ix vl (ptr g0) (ptr g1)) := HC.out.next hb
       clear hb HBX))
  have c97 : w2.cell? ⟨g, 97, none⟩ = some (.pointer (some ⟨g0, 0, none⟩)) := HC.out.off
  have c98 : w2.cell? ⟨g, 98, none⟩ = some (.pointer (some ⟨g1, 0, none⟩)) := HC.out.on
  clear HC HB HBB
  cases b with
  | true =>
    go_wp2_with fail
    go_quiet (fail)
    go_wp2_with fail
    go_ret2
    exact ⟨rfl, below_drewN HBW.out _⟩
  | false =>
    go_wp2_with fail
    go_quiet (fail)
    go_wp2_with fail
    go_ret2
    exact ⟨rfl, below_drewN HBW.out _⟩
/-- where Get stands -/
structure Gt (w : World) (x : List (BitVec 8)) (gx gr : Nat) (l0 : List Lf) (d g : Nat) (l : List Lf) (W : World) : Prop where
  le : d ≤ 256
  tree : TreeIs W d g l
  fit : Fits l d
  eq : getL l x = getL l0 x
  xb : Blk W gx (cb x) 24
  rb : Blk W gr (cb zb32) 24
  ge : w.heap.size ≤ gr
  bel : Below w.heap.size w W
theorem Gt.next {w W W' : World} {x : List (BitVec 8)} {gx gr d g : Nat} {l0 l : List Lf} (h : Gt w x gx gr l0 d g l W) (hb : Below W.heap.size W W') : Gt w x gx gr l0 d g l W' :=
  ⟨h.le, h.tree.next hb, h.fit, h.eq, h.xb.below hb h.xb.lt, h.rb.below hb h.rb.lt, h.ge, h.bel.trans (hb.mono h.bel.size)⟩
theorem Gt.down {w W : World} {x : List (BitVec 8)} {gx gr d g g2 : Nat} {l0 l : List Lf} (h : Gt w x gx gr l0 d g l W) (h2 : 2 ≤ l.length) (ht : TreeIs W (d + 1) g2 (halfL l d (bt x d))) : Gt w x gx gr l0 (d + 1) g2 (halfL l d (bt x d)) W :=
  ⟨h.fit.lt h2, ht, h.fit.half _, by rw [getL_half, h.eq], h.xb, h.rb, h.ge, h.bel⟩
/-- a tree of two leaves or more -/
theorem TreeIs.two {W : World} {d g : Nat} {l : List Lf} (h : TreeIs W d g l) (h2 : 2 ≤ l.length) : ∃ g0 g1, TreeIs W (d + 1) g0 (halfL l d false) ∧ TreeIs W (d + 1) g1 (halfL l d true) ∧ TreeC W g l.length (rootL l d) zb32 zb32 (ptr g0) (ptr g1) := by
  cases h with
  | none _ _ _ => simp at h2
  | leaf _ _ _ _ _ => simp at h2
  | node _ _ g0 g1 _ _ _ h0 h1 hc => exact ⟨g0, g1, h0, h1, hc⟩
theorem TreeIs.one {W : World} {d g : Nat} {p : Lf} (h : TreeIs W d g [p]) : TreeC W g 1 (dig (pairB 76 p.1 p.2)) p.1 p.2 (.pointer Option.none) (.pointer Option.none) := by
  cases h with
  | leaf _ _ x v hc => exact hc
  | node _ _ g0 g1 _ h2 => simp at h2
theorem TreeIs.nil {W : World} {d g : Nat} (h : TreeIs W d g []) : TreeC W g 0 (dig [69]) zb32 zb32 (.pointer Option.none) (.pointer Option.none) := by
  cases h with
  | none _ _ hc => exact hc
  | node _ _ g0 g1 _ h2 => simp at h2
set_option maxRecDepth 100000 in
set_option maxHeartbeats 4000000 in
theorem trGet_any (w : World) (g : Nat) (l : List Lf) (x : List (BitVec 8)) (h : TreeIs w 0 g l) (hF : Fits l 0) (hx : x.length = 32) : Calls Tryd.prog 16 #[.pointer (some ⟨g, 0, none⟩), .agg (cb x).toArray] w fun e w' => e = .returned (.tuple #[.agg (cb ((getL l x).getD zb32)).toArray, .bool (getL l x).isSome]) ∧ Below w.heap.size w w' := by
  have HX : Hid (x.length = 32) := hx
  have HT : Hid (TreeIs w 0 g l) := h
  have HFI : Hid (Fits l 0) := hF
  clear h hF hx
  go_enter Tryd.func16, Tryd.ntmps16
  go_wp2_with (first
    | (with_reducible refine wpSeq_boxD (.tmp 1) x ?_ ?_ ?_ ?_
       · rfl
       · rfl
       · rfl
       intro gx wx nn
       have HBX : Hid (Blk wx gx (cb x) 24) := nn.blk
       have HBW : Hid (Below w.heap.size w wx) := nn.below
       clear nn)
    | (with_reducible refine wpSeq_allocD ?_ ?_ ?_
       · rfl
       · rfl
       intro gr wa nn
       have HGT : Hid (Gt w x gx gr l 0 g l wa) := ⟨by omega, (HT.out.next HBW.out).next nn.below, HFI.out, rfl, HBX.out.below nn.below HBX.out.lt, nn.blk, Nat.le_trans HBW.out.size nn.ge, HBW.out.trans (nn.below.mono HBW.out.size)⟩
       clear nn HBX HBW HT HFI))
  go_loopg [0, 6] 300 (fun kx s0 s6 wr => ∃ (d g2 : Nat) (l2 : List Lf), s0 = .pointer (some ⟨g2, 0, none⟩) ∧ s6 = .int .i64 (d : Int) ∧ 257 - d ≤ kx ∧ Hid (Gt w x gx gr l d g2 l2 wr))
  case atStart => exact ⟨0, g, l, rfl, rfl, by omega, HGT⟩
  case round =>
    clear HGT
    obtain ⟨d, g2, l2, rfl, rfl, hkx, HG⟩ := hrel
    obtain ⟨n, HN⟩ : ∃ n, Hid (n = l2.length) := ⟨_, rfl⟩
    obtain ⟨ix, vl, pp, qq, hcc⟩ := HG.out.tree.cells
    have c0 : wr.cell? ⟨g2, 0, none⟩ = some (.int .i64 (n : Int)) := by rw [HN.out]; exact hcc.cnt
    clear hcc ix vl pp qq
    by_cases h2 : 2 ≤ n
    · have h2z : (n : Int) > 1 := by omega
      have h2z' : (1 : Int) < (n : Int) := by omega
      have h2d : decide ((n : Int) > 1) = true := decide_eq_true h2z
      obtain ⟨g0, g1, t0, t1, hcc⟩ := HG.out.tree.two (by rw [← HN.out]; exact h2)
      have hdlt : d < 256 := HG.out.fit.lt (by rw [← HN.out]; exact h2)
      have HCC : Hid (TreeC wr g2 l2.length (rootL l2 d) zb32 zb32 (ptr g0) (ptr g1)) := hcc
      have HT0 : Hid (TreeIs wr (d + 1) g0 (halfL l2 d false)) := t0
      have HT1 : Hid (TreeIs wr (d + 1) g1 (halfL l2 d true)) := t1
      clear hcc t0 t1
      have rd : IntKind.i64.wrap ((d : Int) + 1) = (d : Int) + 1 := by rw [IntKind.wrap_i64]; omega
      cases hb : bt x d with
      | false =>
        go_wp2_with (first
          | (with_reducible refine wpSeq_loadD (.tmp 3) gx x ?_ ?_ ?_ ?_ ?_ ?_
             · exact HX.out
             · exact HG.out.xb
             · rfl
             · rfl
             · rfl)
          | (go_at_call 31; refine (trSides_any _ g2 _ g0 g1 d _ _ _ x HCC.out HX.out hdlt).mono ?_; rintro e w2 ⟨rfl, hbq⟩
             simp only [hb, cond_false, ptr]
             replace HG : Hid (Gt w x gx gr l d g2 l2 w2) := HG.out.next hbq
             replace HT0 : Hid (TreeIs w2 (d + 1) g0 (halfL l2 d false)) := HT0.out.next hbq
             clear hbq HCC HT1 c0))
        go_roundg (257 - (d + 1))
        case measure => omega
        case rel => exact ⟨d + 1, g0, halfL l2 d (bt x d), rfl, by go_num, Nat.le_refl _, HG.out.down (by rw [← HN.out]; exact h2) (by rw [hb]; exact HT0.out)⟩
      | true =>
        go_wp2_with (first
          | (with_reducible refine wpSeq_loadD (.tmp 3) gx x ?_ ?_ ?_ ?_ ?_ ?_
             · exact HX.out
             · exact HG.out.xb
             · rfl
             · rfl
             · rfl)
          | (go_at_call 31; refine (trSides_any _ g2 _ g0 g1 d _ _ _ x HCC.out HX.out hdlt).mono ?_; rintro e w2 ⟨rfl, hbq⟩
             simp only [hb, cond_true, ptr]
             replace HG : Hid (Gt w x gx gr l d g2 l2 w2) := HG.out.next hbq
             replace HT1 : Hid (TreeIs w2 (d + 1) g1 (halfL l2 d true)) := HT1.out.next hbq
             clear hbq HCC HT0 c0))
        go_roundg (257 - (d + 1))
        case measure => omega
        case rel => exact ⟨d + 1, g1, halfL l2 d (bt x d), rfl, by go_num, Nat.le_refl _, HG.out.down (by rw [← HN.out]; exact h2) (by rw [hb]; exact HT1.out)⟩
    · have h2z : ¬ ((n : Int) > 1) := by omega
      have h2z' : ¬ ((1 : Int) < (n : Int)) := by omega
      have h2d : decide ((n : Int) > 1) = false := decide_eq_false h2z
      go_upto_region 5 with fail
      clear h2z h2z' h2d
      by_cases hz : n = 0
      · subst hz
        have hnil : l2 = [] := List.length_eq_zero_iff.1 HN.out.symm
        have HQ : Hid (getL l x = none) := by show _ = _; rw [← HG.out.eq, hnil]; rfl
        have c0d : wr.drew.cell? ⟨g2, 0, none⟩ = some (.int .i64 0) := c0
        have HLT : Hid (g2 < wr.drew.heap.size) := block_lt_of_cell c0
        go_cut [33] from 21 to 33 (fun b W => b = .bool true ∧ Gt w x gx gr l d g2 l2 W)
        case first =>
          refine wp_region_held_drew (S := Over wr.drew) (by kernel_rfl) (Over.refl _) ?_
          intro hS
          refine wpAnyH_take (i := 0) (v := .pointer (some ⟨g2, 0, none⟩)) rfl (by kernel_rfl) (by kernel_rfl) (by kernel_rfl) (fun _ _ _ h => h) (Or.inl ⟨by rfl, fun wx hx => by simp [go_sem]⟩) hS ?_
          simp only [Act.put, List.getElem_toArray, List.getElem_cons_zero, List.setIfInBounds_toArray, List.set_cons_zero, List.set_cons_succ]
          refine wpAnyH_take (i := 1) (v := .pointer (some ⟨g2, 0, none⟩)) rfl (by kernel_rfl) (by kernel_rfl) (by kernel_rfl) (fun _ _ _ h => h) (Or.inl ⟨by rfl, fun wx hx => by simp [go_sem]⟩) hS ?_
          simp only [Act.put, List.getElem_toArray, List.getElem_cons_succ, List.getElem_cons_zero, List.setIfInBounds_toArray, List.set_cons_zero, List.set_cons_succ]
          refine wpAnyH_take (i := 2) (v := .pointer (some ⟨g2, 0, none⟩)) rfl (by kernel_rfl) (by kernel_rfl) (by kernel_rfl) (fun _ _ _ h => h) (Or.inl ⟨by rfl, fun wx hx => by simp [go_sem]⟩) hS ?_
          simp only [Act.put, List.getElem_toArray, List.getElem_cons_succ, List.getElem_cons_zero, List.setIfInBounds_toArray, List.set_cons_zero, List.set_cons_succ]
          refine wpAnyH_take (i := 3) (v := .int .i64 0) rfl (by kernel_rfl) (by kernel_rfl) (by kernel_rfl) (fun _ _ _ h => h) (Or.inl ⟨by rfl, fun wx hx => by (have hc := (hx.out.cell (p := ⟨g2, 0, none⟩) HLT.out).trans c0d; simp [go_sem, hc])⟩) hS ?_
          simp only [Act.put, List.getElem_toArray, List.getElem_cons_succ, List.getElem_cons_zero, List.setIfInBounds_toArray, List.set_cons_zero, List.set_cons_succ]
          refine wpAnyH_take (i := 4) (v := .bool true) rfl (by kernel_rfl) (by kernel_rfl) (by kernel_rfl) (fun _ _ _ h => h) (Or.inl ⟨by rfl, fun wx hx => by simp [go_sem]⟩) hS ?_
          simp only [Act.put, List.getElem_toArray, List.getElem_cons_succ, List.getElem_cons_zero, List.setIfInBounds_toArray, List.set_cons_zero, List.set_cons_succ]
          refine wpAnyH_take (i := 5) (v := .bool true) rfl (by kernel_rfl) (by kernel_rfl) (by kernel_rfl) (fun _ _ _ h => h) (Or.inl ⟨by rfl, fun wx hx => by simp [go_sem]⟩) hS ?_
          simp only [Act.put, List.getElem_toArray, List.getElem_cons_succ, List.getElem_cons_zero, List.setIfInBounds_toArray, List.set_cons_zero, List.set_cons_succ]
          refine wpAnyH_take (i := 6) (v := undef) rfl (by kernel_rfl) (by kernel_rfl) (by kernel_rfl) (fun _ _ _ h => h) (Or.inr ⟨by rfl, rfl⟩) hS ?_
          simp only [Act.put, List.getElem_toArray, List.getElem_cons_succ, List.getElem_cons_zero, List.setIfInBounds_toArray, List.set_cons_zero, List.set_cons_succ]
          refine wpAnyH_take (i := 7) (v := undef) rfl (by kernel_rfl) (by kernel_rfl) (by kernel_rfl) (fun _ _ _ h => h) (Or.inr ⟨by rfl, rfl⟩) hS ?_
          simp only [Act.put, List.getElem_toArray, List.getElem_cons_succ, List.getElem_cons_zero, List.setIfInBounds_toArray, List.set_cons_zero, List.set_cons_succ]
          refine wpAnyH_take (i := 8) (v := undef) rfl (by kernel_rfl) (by kernel_rfl) (by kernel_rfl) (fun _ _ _ h => h) (Or.inr ⟨by rfl, rfl⟩) hS ?_
          simp only [Act.put, List.getElem_toArray, List.getElem_cons_succ, List.getElem_cons_zero, List.setIfInBounds_toArray, List.set_cons_zero, List.set_cons_succ]
          refine wpAnyH_take (i := 9) (v := undef) rfl (by kernel_rfl) (by kernel_rfl) (by kernel_rfl) (fun _ _ _ h => h) (Or.inr ⟨by rfl, rfl⟩) hS ?_
          simp only [Act.put, List.getElem_toArray, List.getElem_cons_succ, List.getElem_cons_zero, List.setIfInBounds_toArray, List.set_cons_zero, List.set_cons_succ]
          refine wpAnyH_take (i := 10) (v := undef) rfl (by kernel_rfl) (by kernel_rfl) (by kernel_rfl) (fun _ _ _ h => h) (Or.inr ⟨by rfl, rfl⟩) hS ?_
          simp only [Act.put, List.getElem_toArray, List.getElem_cons_succ, List.getElem_cons_zero, List.setIfInBounds_toArray, List.set_cons_zero, List.set_cons_succ]
          refine wpAnyH_take (i := 11) (v := undef) rfl (by kernel_rfl) (by kernel_rfl) (by kernel_rfl) (fun _ _ _ h => h) (Or.inr ⟨by rfl, rfl⟩) hS ?_
          simp only [Act.put, List.getElem_toArray, List.getElem_cons_succ, List.getElem_cons_zero, List.setIfInBounds_toArray, List.set_cons_zero, List.set_cons_succ]
          refine wpAnyH_take (i := 12) (v := .bool true) rfl (by kernel_rfl) (by kernel_rfl) (by kernel_rfl) (fun _ _ _ h => h) (Or.inl ⟨by rfl, fun wx hx => by simp [go_sem]⟩) hS ?_
          simp only [Act.put, List.getElem_toArray, List.getElem_cons_succ, List.getElem_cons_zero, List.setIfInBounds_toArray, List.set_cons_zero, List.set_cons_succ]
          refine wpAnyH_done (by kernel_rfl) ?_ _
          go_wp2_with fail
          go_meet
          case rel => exact ⟨rfl, HG.out.next (Below.refl _ wr).drew⟩
        case rest =>
          obtain ⟨rfl, hG⟩ := hcut
          replace HG : Hid (Gt w x gx gr l d g2 l2 wc) := hG
          clear hG c0 c0d
          go_wp2_with (first
            | (with_reducible refine wpSeq_buildZ0 ?_ ?_ ?_
               · rfl
               · rfl
               skip)
            | (with_reducible refine wpSeq_storeD (.tmp 4) (.tmp 34) gr zb32 zb32 ?_ ?_ ?_ ?_ ?_ ?_ ?_ ?_
               · rfl
               · rfl
               · exact HG.out.rb
               · rfl
               · rfl
               · rfl
               · rfl
               intro W9 h9))
          refine bodyPost_ret (v := Value.tuple #[Value.agg (cb zb32).toArray, Value.bool false]) ?_ rfl ⟨by rw [HQ.out]; rfl, RETD h9 HG.out.ge HG.out.bel⟩
          exact results_row_tmp (by rfl) _ _ _ gr 24 (cb zb32) _ (.bool false) rfl rfl h9.blk Tryd.underlying24 rfl (by rw [cb_len, zb32_len]; exact info_digest)
      · have h1 : n = 1 := by omega
        subst h1
        obtain ⟨p, hp⟩ : ∃ p, l2 = [p] := List.length_eq_one_iff.1 HN.out.symm
        subst hp
        obtain ⟨px, pv⟩ := p
        have HTC : Hid (TreeC wr g2 1 (dig (pairB 76 px pv)) px pv (.pointer none) (.pointer none)) := HG.out.tree.one
        have HPX : Hid (px.length = 32) := HTC.out.l2
        have HPV : Hid (pv.length = 32) := HTC.out.l3
        have heq : ∀ wx : World, (Op.equalIn 10000 24 (.agg (cb px).toArray) (.agg (cb x).toArray)).run Tryd.prog wx = .ok (decide (px = x)) wx := fun wx => eq_dig px x HPX.out HX.out wx
        have HQ : Hid (getL l x = if px = x then some pv else none) := by
          show _ = _
          rw [← HG.out.eq]
          unfold getL
          by_cases e : px = x <;> simp [e]
        go_cut [33] from 21 to 33 (fun b W => b = .bool (!decide (px = x)) ∧ Gt w x gx gr l d g2 [(px, pv)] W)
        case first =>
          refine wp_region_held_drew (S := Over wr.drew) (by kernel_rfl) (Over.refl _) ?_
          intro hS
          refine wpAnyH_take (i := 0) (v := .pointer (some ⟨g2, 0, none⟩)) rfl (by kernel_rfl) (by kernel_rfl) (by kernel_rfl) (fun _ _ _ h => h) (Or.inl ⟨by rfl, fun wx hx => by simp [go_sem]⟩) hS ?_
          simp only [Act.put, List.getElem_toArray, List.getElem_cons_zero, List.setIfInBounds_toArray, List.set_cons_zero, List.set_cons_succ]
          refine wpAnyH_take (i := 1) (v := .pointer (some ⟨g2, 0, none⟩)) rfl (by kernel_rfl) (by kernel_rfl) (by kernel_rfl) (fun _ _ _ h => h) (Or.inl ⟨by rfl, fun wx hx => by simp [go_sem]⟩) hS ?_
          simp only [Act.put, List.getElem_toArray, List.getElem_cons_succ, List.getElem_cons_zero, List.setIfInBounds_toArray, List.set_cons_zero, List.set_cons_succ]
          refine wpAnyH_take (i := 2) (v := .pointer (some ⟨g2, 0, none⟩)) rfl (by kernel_rfl) (by kernel_rfl) (by kernel_rfl) (fun _ _ _ h => h) (Or.inl ⟨by rfl, fun wx hx => by simp [go_sem]⟩) hS ?_
          simp only [Act.put, List.getElem_toArray, List.getElem_cons_succ, List.getElem_cons_zero, List.setIfInBounds_toArray, List.set_cons_zero, List.set_cons_succ]
          refine wpAnyH_take (i := 3) (v := .int .i64 1) rfl (by kernel_rfl) (by kernel_rfl) (by kernel_rfl) (fun _ _ _ h => h) (Or.inl ⟨by rfl, fun wx hx => by (have hc := (HTC.out.drew.below hx.out HTC.out.blk.lt).cnt; simp [go_sem, hc])⟩) hS ?_
          simp only [Act.put, List.getElem_toArray, List.getElem_cons_succ, List.getElem_cons_zero, List.setIfInBounds_toArray, List.set_cons_zero, List.set_cons_succ]
          refine wpAnyH_take (i := 4) (v := .bool false) rfl (by kernel_rfl) (by kernel_rfl) (by kernel_rfl) (fun _ _ _ h => h) (Or.inl ⟨by rfl, fun wx hx => by simp [go_sem]⟩) hS ?_
          simp only [Act.put, List.getElem_toArray, List.getElem_cons_succ, List.getElem_cons_zero, List.setIfInBounds_toArray, List.set_cons_zero, List.set_cons_succ]
          refine wpAnyH_take (i := 5) (v := .bool false) rfl (by kernel_rfl) (by kernel_rfl) (by kernel_rfl) (fun _ _ _ h => h) (Or.inl ⟨by rfl, fun wx hx => by simp [go_sem]⟩) hS ?_
          simp only [Act.put, List.getElem_toArray, List.getElem_cons_succ, List.getElem_cons_zero, List.setIfInBounds_toArray, List.set_cons_zero, List.set_cons_succ]
          refine wpAnyH_take (i := 6) (v := .pointer (some ⟨g2, 0, none⟩)) rfl (by kernel_rfl) (by kernel_rfl) (by kernel_rfl) (fun _ _ _ h => h) (Or.inl ⟨by rfl, fun wx hx => by simp [go_sem]⟩) hS ?_
          simp only [Act.put, List.getElem_toArray, List.getElem_cons_succ, List.getElem_cons_zero, List.setIfInBounds_toArray, List.set_cons_zero, List.set_cons_succ]
          refine wpAnyH_take (i := 7) (v := .pointer (some ⟨g2, 0, none⟩)) rfl (by kernel_rfl) (by kernel_rfl) (by kernel_rfl) (fun _ _ _ h => h) (Or.inl ⟨by rfl, fun wx hx => by simp [go_sem]⟩) hS ?_
          simp only [Act.put, List.getElem_toArray, List.getElem_cons_succ, List.getElem_cons_zero, List.setIfInBounds_toArray, List.set_cons_zero, List.set_cons_succ]
          refine wpAnyH_take (i := 8) (v := .pointer (some ⟨g2, 33, none⟩)) rfl (by kernel_rfl) (by kernel_rfl) (by kernel_rfl) (fun _ _ _ h => h) (Or.inl ⟨by rfl, fun wx hx => by simp [go_sem]⟩) hS ?_
          simp only [Act.put, List.getElem_toArray, List.getElem_cons_succ, List.getElem_cons_zero, List.setIfInBounds_toArray, List.set_cons_zero, List.set_cons_succ]
          refine wpAnyH_take (i := 9) (v := .agg (cb px).toArray) rfl (by kernel_rfl) (by kernel_rfl) (by kernel_rfl) (fun _ _ _ h => h) (Or.inl ⟨by rfl, fun wx hx => by exact load_run 24 _ rfl _ _ rfl (cb px) _ ((HTC.out.drew.below hx.out HTC.out.blk.lt).index) Tryd.underlying24 rfl (by rw [cb_len, HPX.out]; exact info_digest)⟩) hS ?_
          simp only [Act.put, List.getElem_toArray, List.getElem_cons_succ, List.getElem_cons_zero, List.setIfInBounds_toArray, List.set_cons_zero, List.set_cons_succ]
          refine wpAnyH_take (i := 10) (v := .agg (cb x).toArray) rfl (by kernel_rfl) (by kernel_rfl) (by kernel_rfl) (fun _ _ _ h => h) (Or.inl ⟨by rfl, fun wx hx => by exact loadDigest _ gx x HX.out (Over.blk hx HG.out.xb.drew) rfl rfl⟩) hS ?_
          simp only [Act.put, List.getElem_toArray, List.getElem_cons_succ, List.getElem_cons_zero, List.setIfInBounds_toArray, List.set_cons_zero, List.set_cons_succ]
          refine wpAnyH_take (i := 11) (v := .bool (!decide (px = x))) rfl (by kernel_rfl) (by kernel_rfl) (by kernel_rfl) (fun _ _ _ h => h) (Or.inl ⟨by rfl, fun wx hx => by simp [go_sem, heq]⟩) hS ?_
          simp only [Act.put, List.getElem_toArray, List.getElem_cons_succ, List.getElem_cons_zero, List.setIfInBounds_toArray, List.set_cons_zero, List.set_cons_succ]
          refine wpAnyH_take (i := 12) (v := .bool (!decide (px = x))) rfl (by kernel_rfl) (by kernel_rfl) (by kernel_rfl) (fun _ _ _ h => h) (Or.inl ⟨by rfl, fun wx hx => by simp [go_sem]⟩) hS ?_
          simp only [Act.put, List.getElem_toArray, List.getElem_cons_succ, List.getElem_cons_zero, List.setIfInBounds_toArray, List.set_cons_zero, List.set_cons_succ]
          refine wpAnyH_done (by kernel_rfl) ?_ _
          go_wp2_with fail
          go_meet
          case rel => exact ⟨rfl, HG.out.next (Below.refl _ wr).drew⟩
        case rest =>
          obtain ⟨rfl, hG⟩ := hcut
          replace HG : Hid (Gt w x gx gr l d g2 [(px, pv)] wc) := hG
          clear hG heq HTC c0
          by_cases e : px = x
          · have HQ2 : Hid (getL l x = some pv) := by show _ = _; rw [HQ.out, if_pos e]
            rw [decide_eq_true e]
            have HTC : Hid (TreeC wc g2 1 (dig (pairB 76 px pv)) px pv (.pointer none) (.pointer none)) := HG.out.tree.one
            clear e
            go_wp2_with (first
              | (with_reducible refine wpSeq_loadAt (.tmp 37) g2 65 pv ?_ ?_ ?_ ?_ ?_ ?_
                 · exact HPV.out
                 · exact HTC.out.value
                 · with_reducible rfl
                 · rfl
                 · rfl)
              | (with_reducible refine wpSeq_storeD (.tmp 4) (.tmp 38) gr zb32 pv ?_ ?_ ?_ ?_ ?_ ?_ ?_ ?_
                 · rfl
                 · exact HPV.out
                 · exact HG.out.rb
                 · rfl
                 · rfl
                 · rfl
                 · rfl
                 intro W9 h9))
            refine bodyPost_ret (v := Value.tuple #[Value.agg (cb pv).toArray, Value.bool true]) ?_ rfl ⟨by rw [HQ2.out]; rfl, RETD h9 HG.out.ge HG.out.bel⟩
            exact results_row_tmp (by rfl) _ _ _ gr 24 (cb pv) _ (.bool true) rfl rfl h9.blk Tryd.underlying24 rfl (by rw [cb_len, HPV.out]; exact info_digest)
          · replace HQ : Hid (getL l x = none) := by show _ = _; rw [HQ.out, if_neg e]
            rw [decide_eq_false e]
            clear e
            go_wp2_with (first
              | (with_reducible refine wpSeq_buildZ0 ?_ ?_ ?_
                 · rfl
                 · rfl
                 skip)
              | (with_reducible refine wpSeq_storeD (.tmp 4) (.tmp 34) gr zb32 zb32 ?_ ?_ ?_ ?_ ?_ ?_ ?_ ?_
                 · rfl
                 · rfl
                 · exact HG.out.rb
                 · rfl
                 · rfl
                 · rfl
                 · rfl
                 intro W9 h9))
            refine bodyPost_ret (v := Value.tuple #[Value.agg (cb zb32).toArray, Value.bool false]) ?_ rfl ⟨by rw [HQ.out]; rfl, RETD h9 HG.out.ge HG.out.bel⟩
            exact results_row_tmp (by rfl) _ _ _ gr 24 (cb zb32) _ (.bool false) rfl rfl h9.blk Tryd.underlying24 rfl (by rw [cb_len, zb32_len]; exact info_digest)
end Go.Proofs.YtphacinnnepdoaaDoor
/- tree's each, and the function that All hands out: it yields all leaves, in order. -/
namespace Go.Proofs.YtphacinnnepdoaaDoor
open Go.RowKit Go.Shelf
attribute [local go_sem] Oper.semAt_some
abbrev encsL (p : Lf) : Array Value := #[.agg (cb p.1).toArray, .agg (cb p.2).toArray]
theorem roundIn_wide {m k : Nat} {P : Program} {l : Nat} {f : FuncId} {tmps : Array Value} {assign body : Code} {w : World} {R : Ending → World → Prop} (h : RoundIn Fence.wide m P l f tmps assign body w R) : RoundIn Fence.wide k P l f tmps assign body w R :=
  ⟨h.1, fun c cs _ => h.2 c cs (room_wide _)⟩
theorem grownBy_drew (w : World) : w.grownBy w.drew none := ⟨rfl, rfl, rfl, Nat.le_refl _, fun _ _ _ => rfl⟩
section
variable {n : Nat} {P : Program} {ops : Array Oper} {Q : Exit → Act → World → Prop}
theorem wpOpIn_val {i : Nat} {o : Oper} {v : Value} {a : Act} {w w' : World} {K : Act → World → Prop} (hi : ops[i]? = some o) (hw : Region.wanted o (yielded ops a.tmps) = true) (he : (execOp a.eval o).run P w = .ok (.value v) w') (h : K (a.put o.dst v) w') : wpOpIn Fence.wide n P ops Q i K a w := by
  unfold wpOpIn
  simp only [hi, hw, if_true]
  refine ⟨fun _ _ => trivial, ?_⟩
  show Oper.uponIn _ _ _ _ _ _ _ ((execOp a.eval o).run P w)
  rw [he]
  exact h
theorem wpOpIn_round {i : Nat} {o : Oper} {l : Nat} {fn : FuncId} {tmps : Array Value} {assign body : Code} {a : Act} {w : World} {K : Act → World → Prop} {R : Ending → World → Prop} {m : Nat} (hi : ops[i]? = some o) (hw : Region.wanted o (yielded ops a.tmps) = true) (he : (execOp a.eval o).run P w = .ok (.round l fn tmps assign body) w) (hR : RoundIn Fence.wide m P l fn tmps assign body w R) (h : ∀ e w', R e w' → ∃ v, e = .returned v ∧ K (a.put o.dst v) w') : wpOpIn Fence.wide n P ops Q i K a w := by
  unfold wpOpIn
  simp only [hi, hw, if_true]
  refine ⟨fun _ _ => trivial, ?_⟩
  show Oper.uponIn _ _ _ _ _ _ _ ((execOp a.eval o).run P w)
  rw [he, Oper.uponIn_round]
  refine ⟨fun h => (by cases h), (roundIn_wide hR).mono fun e w' hr => ?_⟩
  obtain ⟨v, rfl, hk⟩ := h e w' hr
  exact hk
theorem wpAnyIn_pairs {md : Region.Mode} {fuel : Nat} {listed : Array Bool} {a : Act} {w : World} (i j : Nat) (hr : Region.ready md ops listed = [i, j]) (h1 : wpOpIn Fence.wide n P ops Q i (wpAnyIn Fence.wide n P md ops Q fuel (listed.setIfInBounds i true)) a w) (h2 : wpOpIn Fence.wide n P ops Q j (wpAnyIn Fence.wide n P md ops Q fuel (listed.setIfInBounds j true)) a w) : wpAnyIn Fence.wide n P md ops Q (fuel + 1) listed a w := by
  refine wpAnyIn_all hr (by simp) fun k hk => ?_
  simp only [List.mem_cons, List.not_mem_nil, or_false] at hk
  rcases hk with rfl | rfl
  · exact h1
  · exact h2
theorem wpAnyIn_lone {md : Region.Mode} {fuel : Nat} {listed : Array Bool} {a : Act} {w : World} (i : Nat) (hr : Region.ready md ops listed = [i]) (h1 : wpOpIn Fence.wide n P ops Q i (wpAnyIn Fence.wide n P md ops Q fuel (listed.setIfInBounds i true)) a w) : wpAnyIn Fence.wide n P md ops Q (fuel + 1) listed a w := by
  refine wpAnyIn_all hr (by simp) fun k hk => ?_
  simp only [List.mem_singleton] at hk
  rw [hk]; exact h1
end
/-- what a walk over leaves does, to whom they are yielded -/
def EachDoes (v0 : World) (n₀ lab : Nat) (J Jx : List Lf → World → Prop) (g : Nat) (l pre : List Lf) (W : World) : Prop :=
  Calls Tryd.prog 34 #[.pointer (some ⟨g, 0, none⟩), .func (.yield lab) #[] #[]] W fun e W' => (e = .returned (.bool true) ∧ J (pre ++ l) W' ∧ Below n₀ v0 W') ∨ (e = .returned (.bool false) ∧ ∃ k, k < l.length ∧ Jx (pre ++ l.take (k + 1)) W')
theorem each_none {v0 : World} {n₀ lab : Nat} {J Jx : List Lf → World → Prop} {g : Nat} {pre : List Lf} {W : World} (hc : TreeC W g 0 (dig [69]) zb32 zb32 (.pointer none) (.pointer none)) (hb : Below n₀ v0 W) (h : J pre W) : EachDoes v0 n₀ lab J Jx g [] pre W := by
  unfold EachDoes
  have c0 := hc.cnt
  have HJ : Hid (J (pre ++ []) W) := by rw [List.append_nil]; exact h
  have HB : Hid (Below n₀ v0 W) := hb
  clear hc h hb
  go_enter Tryd.func34, Tryd.ntmps34
  go_wp2
  go_ret
  exact Or.inl ⟨rfl, HJ.out, HB.out⟩
set_option maxRecDepth 100000 in
set_option maxHeartbeats 2000000 in
theorem each_leaf {v0 : World} {n₀ lab m : Nat} {J Jx : List Lf → World → Prop} {g : Nat} {x v : List (BitVec 8)} {pre : List Lf} {W : World} (hc : TreeC W g 1 (dig (pairB 76 x v)) x v (.pointer none) (.pointer none)) (hb : Below n₀ v0 W)
    (hy : YieldAt Fence.wide m Tryd.prog lab (encsL (x, v)) W.drew fun e W' => (e = .returned (.bool true) ∧ J (pre ++ [(x, v)]) W' ∧ Below n₀ W.drew W') ∨ (e = .returned (.bool false) ∧ Jx (pre ++ [(x, v)]) W')) : EachDoes v0 n₀ lab J Jx g [(x, v)] pre W := by
  unfold EachDoes
  have c0 := hc.cnt
  have HX : Hid (W.drew.rangeAt g 33 (cb x)) := hc.index
  have HV : Hid (W.drew.rangeAt g 65 (cb v)) := hc.value
  have HL2 : Hid (x.length = 32) := hc.l2
  have HL3 : Hid (v.length = 32) := hc.l3
  have HB : Hid (∀ W', Below n₀ W.drew W' → Below n₀ v0 W') := fun W' h => hb.trans ⟨h.os, h.tape, h.output, h.size, h.block⟩
  obtain ⟨fn, tmps, assign, body, hyr, hR⟩ := hy
  dsimp only [encsL] at hyr
  clear hc hb
  go_enter Tryd.func34, Tryd.ntmps34
  go_upto_region 5 with fail
  clear c0
  refine (wpIn_wide (n := 5)).1 ?_
  refine wpIn_region_any (by kernel_rfl) ?_
  change wpAnyIn _ _ _ _ _ _ _ _ _ (World.drew W)
  refine wpAnyIn_take (i := 0) (v := .func (.yield lab) #[] #[]) rfl rfl (by kernel_rfl) (by kernel_rfl) (by kernel_rfl) (fun _ _ _ h => h) ⟨Or.inl ⟨by rfl, fun wx => by simp [go_sem]⟩, fun _ => rfl⟩ ?_
  simp only [Act.put, List.getElem_toArray, List.getElem_cons_zero, List.setIfInBounds_toArray, List.set_cons_zero, List.set_cons_succ]
  refine wpAnyIn_take (i := 1) (v := .pointer (some ⟨g, 0, none⟩)) rfl rfl (by kernel_rfl) (by kernel_rfl) (by kernel_rfl) (fun _ _ _ h => h) ⟨Or.inl ⟨by rfl, fun wx => by simp [go_sem]⟩, fun _ => rfl⟩ ?_
  simp only [Act.put, List.getElem_toArray, List.getElem_cons_succ, List.getElem_cons_zero, List.setIfInBounds_toArray, List.set_cons_zero, List.set_cons_succ]
  refine wpAnyIn_take (i := 2) (v := .pointer (some ⟨g, 0, none⟩)) rfl rfl (by kernel_rfl) (by kernel_rfl) (by kernel_rfl) (fun _ _ _ h => h) ⟨Or.inl ⟨by rfl, fun wx => by simp [go_sem]⟩, fun _ => rfl⟩ ?_
  simp only [Act.put, List.getElem_toArray, List.getElem_cons_succ, List.getElem_cons_zero, List.setIfInBounds_toArray, List.set_cons_zero, List.set_cons_succ]
  refine wpAnyIn_take (i := 3) (v := .pointer (some ⟨g, 33, none⟩)) rfl rfl (by kernel_rfl) (by kernel_rfl) (by kernel_rfl) (fun _ _ _ h => h) ⟨Or.inl ⟨by rfl, fun wx => by simp [go_sem]⟩, fun _ => rfl⟩ ?_
  simp only [Act.put, List.getElem_toArray, List.getElem_cons_succ, List.getElem_cons_zero, List.setIfInBounds_toArray, List.set_cons_zero, List.set_cons_succ]
  refine wpAnyIn_take (i := 5) (v := .pointer (some ⟨g, 0, none⟩)) rfl rfl (by kernel_rfl) (by kernel_rfl) (by kernel_rfl) (fun _ _ _ h => h) ⟨Or.inl ⟨by rfl, fun wx => by simp [go_sem]⟩, fun _ => rfl⟩ ?_
  simp only [Act.put, List.getElem_toArray, List.getElem_cons_succ, List.getElem_cons_zero, List.setIfInBounds_toArray, List.set_cons_zero, List.set_cons_succ]
  refine wpAnyIn_take (i := 6) (v := .pointer (some ⟨g, 0, none⟩)) rfl rfl (by kernel_rfl) (by kernel_rfl) (by kernel_rfl) (fun _ _ _ h => h) ⟨Or.inl ⟨by rfl, fun wx => by simp [go_sem]⟩, fun _ => rfl⟩ ?_
  simp only [Act.put, List.getElem_toArray, List.getElem_cons_succ, List.getElem_cons_zero, List.setIfInBounds_toArray, List.set_cons_zero, List.set_cons_succ]
  refine wpAnyIn_take (i := 7) (v := .pointer (some ⟨g, 65, none⟩)) rfl rfl (by kernel_rfl) (by kernel_rfl) (by kernel_rfl) (fun _ _ _ h => h) ⟨Or.inl ⟨by rfl, fun wx => by simp [go_sem]⟩, fun _ => rfl⟩ ?_
  simp only [Act.put, List.getElem_toArray, List.getElem_cons_succ, List.getElem_cons_zero, List.setIfInBounds_toArray, List.set_cons_zero, List.set_cons_succ]
  refine wpAnyIn_pairs 4 8 (by kernel_rfl) ?_ ?_
  · skip
    refine wpOpIn_val (v := .agg (cb x).toArray) (w' := W.drew) rfl (by rfl) (load_run 24 _ rfl _ _ rfl (cb x) _ HX.out Tryd.underlying24 rfl (by rw [cb_len, HL2.out]; exact info_digest)) ?_
    simp only [Act.put, List.getElem_toArray, List.getElem_cons_succ, List.getElem_cons_zero, List.setIfInBounds_toArray, List.set_cons_zero, List.set_cons_succ]
    refine wpAnyIn_lone 8 (by kernel_rfl) ?_
    refine wpOpIn_val (v := .agg (cb v).toArray) (w' := W.drew) rfl (by rfl) (load_run 24 _ rfl _ _ rfl (cb v) _ HV.out Tryd.underlying24 rfl (by rw [cb_len, HL3.out]; exact info_digest)) ?_
    simp only [Act.put, List.getElem_toArray, List.getElem_cons_succ, List.getElem_cons_zero, List.setIfInBounds_toArray, List.set_cons_zero, List.set_cons_succ]
    refine wpAnyIn_lone 9 (by kernel_rfl) ?_
    refine wpOpIn_round rfl (by rfl) (by simp [go_sem, hyr]) hR ?_
    rintro e W' (⟨rfl, hj, hbb⟩ | ⟨rfl, hj⟩)
    · refine ⟨_, rfl, ?_⟩
      simp only [Act.put, List.getElem_toArray, List.getElem_cons_succ, List.getElem_cons_zero, List.setIfInBounds_toArray, List.set_cons_zero, List.set_cons_succ]
      refine wpAnyIn_lone 10 (by kernel_rfl) ?_
      refine wpOpIn_val (v := .bool true) (w' := W') rfl (by rfl) (by simp [go_sem]) ?_
      simp only [Act.put, List.getElem_toArray, List.getElem_cons_succ, List.getElem_cons_zero, List.setIfInBounds_toArray, List.set_cons_zero, List.set_cons_succ]
      refine wpAnyIn_done (by kernel_rfl) ?_ _
      have HJ : Hid (J (pre ++ [(x, v)]) W') := hj
      have HB2 : Hid (Below n₀ v0 W') := HB.out W' hbb
      clear hj hbb hyr hR
      go_wp2
      go_ret
      exact Or.inl ⟨rfl, HJ.out, HB2.out⟩
    · refine ⟨_, rfl, ?_⟩
      simp only [Act.put, List.getElem_toArray, List.getElem_cons_succ, List.getElem_cons_zero, List.setIfInBounds_toArray, List.set_cons_zero, List.set_cons_succ]
      refine wpAnyIn_lone 10 (by kernel_rfl) ?_
      refine wpOpIn_val (v := .bool false) (w' := W') rfl (by rfl) (by simp [go_sem]) ?_
      simp only [Act.put, List.getElem_toArray, List.getElem_cons_succ, List.getElem_cons_zero, List.setIfInBounds_toArray, List.set_cons_zero, List.set_cons_succ]
      refine wpAnyIn_done (by kernel_rfl) ?_ _
      have HJ : Hid (Jx (pre ++ [(x, v)]) W') := hj
      clear hj hyr hR
      go_wp2
      go_ret
      exact Or.inr ⟨rfl, 0, by simp, HJ.out⟩
  · skip
    refine wpOpIn_val (v := .agg (cb v).toArray) (w' := W.drew) rfl (by rfl) (load_run 24 _ rfl _ _ rfl (cb v) _ HV.out Tryd.underlying24 rfl (by rw [cb_len, HL3.out]; exact info_digest)) ?_
    simp only [Act.put, List.getElem_toArray, List.getElem_cons_succ, List.getElem_cons_zero, List.setIfInBounds_toArray, List.set_cons_zero, List.set_cons_succ]
    refine wpAnyIn_lone 4 (by kernel_rfl) ?_
    refine wpOpIn_val (v := .agg (cb x).toArray) (w' := W.drew) rfl (by rfl) (load_run 24 _ rfl _ _ rfl (cb x) _ HX.out Tryd.underlying24 rfl (by rw [cb_len, HL2.out]; exact info_digest)) ?_
    simp only [Act.put, List.getElem_toArray, List.getElem_cons_succ, List.getElem_cons_zero, List.setIfInBounds_toArray, List.set_cons_zero, List.set_cons_succ]
    refine wpAnyIn_lone 9 (by kernel_rfl) ?_
    refine wpOpIn_round rfl (by rfl) (by simp [go_sem, hyr]) hR ?_
    rintro e W' (⟨rfl, hj, hbb⟩ | ⟨rfl, hj⟩)
    · refine ⟨_, rfl, ?_⟩
      simp only [Act.put, List.getElem_toArray, List.getElem_cons_succ, List.getElem_cons_zero, List.setIfInBounds_toArray, List.set_cons_zero, List.set_cons_succ]
      refine wpAnyIn_lone 10 (by kernel_rfl) ?_
      refine wpOpIn_val (v := .bool true) (w' := W') rfl (by rfl) (by simp [go_sem]) ?_
      simp only [Act.put, List.getElem_toArray, List.getElem_cons_succ, List.getElem_cons_zero, List.setIfInBounds_toArray, List.set_cons_zero, List.set_cons_succ]
      refine wpAnyIn_done (by kernel_rfl) ?_ _
      have HJ : Hid (J (pre ++ [(x, v)]) W') := hj
      have HB2 : Hid (Below n₀ v0 W') := HB.out W' hbb
      clear hj hbb hyr hR
      go_wp2
      go_ret
      exact Or.inl ⟨rfl, HJ.out, HB2.out⟩
    · refine ⟨_, rfl, ?_⟩
      simp only [Act.put, List.getElem_toArray, List.getElem_cons_succ, List.getElem_cons_zero, List.setIfInBounds_toArray, List.set_cons_zero, List.set_cons_succ]
      refine wpAnyIn_lone 10 (by kernel_rfl) ?_
      refine wpOpIn_val (v := .bool false) (w' := W') rfl (by rfl) (by simp [go_sem]) ?_
      simp only [Act.put, List.getElem_toArray, List.getElem_cons_succ, List.getElem_cons_zero, List.setIfInBounds_toArray, List.set_cons_zero, List.set_cons_succ]
      refine wpAnyIn_done (by kernel_rfl) ?_ _
      have HJ : Hid (Jx (pre ++ [(x, v)]) W') := hj
      clear hj hyr hR
      go_wp2
      go_ret
      exact Or.inr ⟨rfl, 0, by simp, HJ.out⟩
set_option maxRecDepth 100000 in
set_option maxHeartbeats 2000000 in
theorem each_node {v0 : World} {n₀ lab : Nat} {J Jx : List Lf → World → Prop} {g g0 g1 c : Nat} {rt : List (BitVec 8)} {A B pre : List Lf} {W : World} (hc : ∀ W', Below n₀ v0 W' → TreeC W' g c rt zb32 zb32 (ptr g0) (ptr g1)) (hb : Below n₀ v0 W) (h2 : 2 ≤ c)
    (h0 : EachDoes v0 n₀ lab J Jx g0 A pre W) (h1 : ∀ W', J (pre ++ A) W' → Below n₀ v0 W' → EachDoes v0 n₀ lab J Jx g1 B (pre ++ A) W') : EachDoes v0 n₀ lab J Jx g (A ++ B) pre W := by
  unfold EachDoes at *
  have HC : Hid (∀ W', Below n₀ v0 W' → TreeC W' g c rt zb32 zb32 (ptr g0) (ptr g1)) := hc
  have H0 : Hid (Calls Tryd.prog 34 #[.pointer (some ⟨g0, 0, none⟩), .func (.yield lab) #[] #[]] W fun e W' => (e = .returned (.bool true) ∧ J (pre ++ A) W' ∧ Below n₀ v0 W') ∨ (e = .returned (.bool false) ∧ ∃ k, k < A.length ∧ Jx (pre ++ A.take (k + 1)) W')) := h0
  have H1 : Hid (∀ W', J (pre ++ A) W' → Below n₀ v0 W' → Calls Tryd.prog 34 #[.pointer (some ⟨g1, 0, none⟩), .func (.yield lab) #[] #[]] W' fun e W'' => (e = .returned (.bool true) ∧ J (pre ++ A ++ B) W'' ∧ Below n₀ v0 W'') ∨ (e = .returned (.bool false) ∧ ∃ k, k < B.length ∧ Jx (pre ++ A ++ B.take (k + 1)) W'')) := h1
  have c0 : W.cell? ⟨g, 0, none⟩ = some (.int .i64 (c : Int)) := (hc W hb).cnt
  have c97 : W.cell? ⟨g, 97, none⟩ = some (.pointer (some ⟨g0, 0, none⟩)) := (hc W hb).off
  have z0 : ¬ ((c : Int) = 0) := by omega
  have z0' : ((c : Int) == 0) = false := by rw [beq_eq_false_iff_ne]; omega
  have z1 : ¬ ((c : Int) = 1) := by omega
  have z1' : ((c : Int) == 1) = false := by rw [beq_eq_false_iff_ne]; omega
  clear hc hb h0 h1
  go_enter Tryd.func34, Tryd.ntmps34
  go_wp2_with fail
  refine H0.out.mono ?_
  clear H0 c0 c97 z0 z0' z1 z1'
  rintro e W1 (⟨rfl, hj, hbb⟩ | ⟨rfl, k, hk, hj⟩)
  · have HA : Hid (Calls Tryd.prog 34 #[.pointer (some ⟨g1, 0, none⟩), .func (.yield lab) #[] #[]] W1 fun e W'' => (e = .returned (.bool true) ∧ J (pre ++ A ++ B) W'' ∧ Below n₀ v0 W'') ∨ (e = .returned (.bool false) ∧ ∃ k, k < B.length ∧ Jx (pre ++ A ++ B.take (k + 1)) W'')) := H1.out W1 hj hbb
    have c98 : W1.cell? ⟨g, 98, none⟩ = some (.pointer (some ⟨g1, 0, none⟩)) := (HC.out W1 hbb).on
    clear hj hbb H1 HC
    go_wp2_with fail
    refine HA.out.mono ?_
    clear HA c98
    rintro e W2 (⟨rfl, hj, hbb⟩ | ⟨rfl, k, hk, hj⟩)
    · have HJ : Hid (J (pre ++ (A ++ B)) W2) := by rw [← List.append_assoc]; exact hj
      have HB : Hid (Below n₀ v0 W2) := hbb
      clear hj hbb
      go_wp2
      go_ret
      exact Or.inl ⟨rfl, HJ.out, HB.out⟩
    · have HJ : Hid (∃ k, k < (A ++ B).length ∧ Jx (pre ++ (A ++ B).take (k + 1)) W2) := by
        refine ⟨A.length + k, by rw [List.length_append]; omega, ?_⟩
        rw [show A.length + k + 1 = A.length + (k + 1) by omega, List.take_length_add_append, ← List.append_assoc]
        exact hj
      clear hj hk
      go_wp2
      go_ret
      exact Or.inr ⟨rfl, HJ.out⟩
  · have HJ : Hid (∃ k, k < (A ++ B).length ∧ Jx (pre ++ (A ++ B).take (k + 1)) W1) := by
      refine ⟨k, by rw [List.length_append]; omega, ?_⟩
      rw [List.take_append_of_le_length (by omega)]
      exact hj
    clear hj hk H1 HC
    go_wp2
    go_ret
    exact Or.inr ⟨rfl, HJ.out⟩
theorem each_any {v0 : World} {n₀ lab m N B : Nat} {J Jx : List Lf → World → Prop} (hz : v0.heap.size = n₀) (hJ : AbidesFrom B J)
    (hY : ∀ pre x W1, x.1.length = 32 ∧ x.2.length = 32 → J pre W1 → pre.length < N → YieldAt Fence.wide m Tryd.prog lab (encsL x) W1 fun e W' => (e = .returned (.bool true) ∧ J (pre ++ [x]) W' ∧ Below n₀ W1 W') ∨ (e = .returned (.bool false) ∧ Jx (pre ++ [x]) W')) {d g : Nat} {l : List Lf} (h : TreeIs v0 d g l) :
    ∀ (pre : List Lf) (W : World), Below n₀ v0 W → J pre W → pre.length + l.length ≤ N → EachDoes v0 n₀ lab J Jx g l pre W := by
  induction h with
  | none d g hc => exact fun pre W hb hj _ => each_none (hc.below hb (by rw [← hz]; exact hc.blk.lt)) hb hj
  | leaf d g x v hc => exact fun pre W hb hj hl => each_leaf (hc.below hb (by rw [← hz]; exact hc.blk.lt)) hb (hY pre (x, v) W.drew ⟨hc.l2, hc.l3⟩ (hJ _ _ _ none hj (grownBy_drew W) (fun r e => by cases e)) (by simp at hl; omega))
  | node d g g0 g1 l h2 hf _ _ hc i0 i1 =>
    intro pre W hb hj hl
    have ho := half_order hf
    have hlen := half_len hf
    rw [ho]
    refine each_node (fun W' hb' => hc.below hb' (by rw [← hz]; exact hc.blk.lt)) hb h2 (i0 pre W hb hj (by omega)) fun W' hj' hb' => i1 _ W' hb' hj' (by rw [List.length_append]; omega)
theorem trAll_any (w : World) (g : Nat) : Calls Tryd.prog 21 #[.pointer (some ⟨g, 0, none⟩)] w fun e w' => ∃ gb, e = .returned (.func (.func 33) #[] #[.pointer (some ⟨gb, 0, none⟩)]) ∧ Blk w' gb [ptr g] 27 ∧ Below w.heap.size w w' := by
  go_enter Tryd.func21, Tryd.ntmps21
  go_wp2
  go_ret
  exact ⟨_, rfl, Blk.new w [ptr g] _, below_alloc w _⟩
/-- a leaf: an index and a value, two digests -/
abbrev Lf32 : Type := { p : Lf // p.1.length = 32 ∧ p.2.length = 32 }
abbrev encs32 (p : Lf32) : Array Value := encsL p.1
set_option maxRecDepth 100000 in
set_option maxHeartbeats 2000000 in
theorem all_stops (n : Nat) {v0 : World} {n₀ g gb : Nat} {l : List Lf} (hz : v0.heap.size = n₀) (hT : TreeIs v0 0 g l) (w : World) (hw : Below n₀ v0 w) (hnw : n₀ ≤ w.heap.size) (hB : Blk w gb [ptr g] 27) :
    SeqStopsK Fence.wide n Tryd.prog 33 #[.pointer (some ⟨gb, 0, none⟩)] encs32 (Below n₀) (fun xs => xs.map (·.1) = l) (fun pre => ∃ k, k ≤ l.length ∧ pre.map (·.1) = l.take k) l.length w := fun lab J Jx W hW hJ hJx hY h0 => by
  have HE : Hid (EachDoes v0 n₀ lab (fun pre W => ∃ p : List Lf32, p.map (·.1) = pre ∧ J p W) (fun pre W => ∃ p : List Lf32, p.map (·.1) = pre ∧ Jx p W) g l [] W) := by
    refine each_any (m := n - 1) (N := l.length) (B := W.heap.size) hz (fun s A A' row hs hg hr => ?_) (fun pre x W1 hx hp hl => ?_) hT [] W (hw.trans (hW.mono hnw)) ⟨[], rfl, h0⟩ (by simp)
    · obtain ⟨p, e, hp⟩ := hs
      exact ⟨p, e, hJ p A A' row hp hg hr⟩
    · obtain ⟨p, e, hp⟩ := hp
      refine (hY p ⟨x, hx⟩ W1 hp (by rw [← e, List.length_map] at hl; exact hl)).mono fun e' W' he => ?_
      rcases he with ⟨h1, h2, h3⟩ | ⟨h1, h2⟩
      · exact Or.inl ⟨h1, ⟨p ++ [⟨x, hx⟩], by rw [List.map_append, e]; rfl, h2⟩, h3⟩
      · exact Or.inr ⟨h1, ⟨p ++ [⟨x, hx⟩], by rw [List.map_append, e]; rfl, h2⟩⟩
  have c0 : W.cell? ⟨gb, 0, none⟩ = some (.pointer (some ⟨g, 0, none⟩)) := (hB.below hW hB.lt).cell 0
  clear hB hW hw hT hY h0 hJ hJx
  refine callsIn_wide.2 ?_
  simp only [List.append_toArray, List.cons_append, List.nil_append]
  go_enter Tryd.func33, Tryd.ntmps33
  go_wp2_with fail
  have HE2 := HE.out
  unfold EachDoes at HE2
  refine HE2.mono ?_
  clear HE HE2 c0
  rintro e W2 (⟨rfl, hj, hbb⟩ | ⟨rfl, k, hk, hj⟩)
  · have HJ : Hid (∃ p : List Lf32, p.map (·.1) = l ∧ J p W2) := by simp only [List.nil_append] at hj; exact hj
    clear hj hbb
    go_wp2
    go_end0
    exact ⟨⟨_, rfl⟩, .inl HJ.out⟩
  · have HJ : Hid (∃ p : List Lf32, p.map (·.1) = l.take (k + 1) ∧ Jx p W2) := by simp only [List.nil_append] at hj; exact hj
    clear hj
    go_wp2
    go_end0
    obtain ⟨p, e, hp⟩ := HJ.out
    exact ⟨⟨_, rfl⟩, .inr ⟨p, ⟨k + 1, hk, e⟩, hp⟩⟩
end Go.Proofs.YtphacinnnepdoaaDoor
/- The walks of sort.Search, and of tree.below: the tree of leaves that stand in a row. -/
namespace Go.Proofs.YtphacinnnepdoaaDoor
open Go.RowKit
set_option maxRecDepth 100000 in
set_option maxHeartbeats 2000000 in
theorem soSearch_any (n g : Nat) (cbs : Array Value) (p : Nat → Bool) (w : World) (eg : ∀ args w, (callFunc g args).run Tryd.prog w = .ok (.enter g args) w) (hn : n < 1000000000) (hf : ∀ W i, Over w W → i < n → Calls Tryd.prog g (#[.int .i64 (i : Int)] ++ cbs) W fun e w' => e = .returned (.bool (p i)) ∧ Below W.heap.size W w') :
    Calls Tryd.prog 42 #[.int .i64 (n : Int), .func (.func g) #[] cbs] w fun e w' => ∃ k : Nat, e = .returned (.int .i64 (k : Int)) ∧ k ≤ n ∧ (k = 0 ∨ p (k - 1) = false) ∧ (k = n ∨ p k = true) ∧ Below w.heap.size w w' := by
  have HFF : Aside (∀ W i, Over w W → i < n → Calls Tryd.prog g (#[.int .i64 (i : Int)] ++ cbs) W fun e w' => e = .returned (.bool (p i)) ∧ Below W.heap.size W w') := hf
  clear hf
  go_enter Tryd.func42, Tryd.ntmps42
  go_wp2
  go_loopg [5, 6] n (fun kx s5 s6 wr => ∃ (i j : Nat), s5 = .int .i64 i ∧ s6 = .int .i64 j ∧ i ≤ j ∧ j ≤ n ∧ j - i ≤ kx ∧ Hid (Over w wr) ∧ Hid (i = 0 ∨ p (i - 1) = false) ∧ Hid (j = n ∨ p j = true))
  case atStart => exact ⟨0, n, rfl, rfl, by omega, by omega, by omega, Over.refl w, Or.inl rfl, Or.inl rfl⟩
  case round =>
    obtain ⟨i, j, rfl, rfl, hij, hjn, hkx, HO, H1, H2⟩ := hrel
    by_cases hlt : i < j
    · have hltz : (i : Int) < (j : Int) := by omega
      have rs : IntKind.i64.wrap ((i : Int) + (j : Int)) = (i : Int) + (j : Int) := by rw [IntKind.wrap_i64]; omega
      go_upto_region 4 with (fail)
      obtain ⟨h, hh1, hh2, eh⟩ : ∃ h : Nat, i ≤ h ∧ h < j ∧ ((i : Int) + (j : Int)) / 2 = (h : Int) := ⟨(i + j) / 2, by omega, by omega, by omega⟩
      simp only [eh]
      clear eh rs
      have HCA : Hid (Calls Tryd.prog g (#[.int .i64 (h : Int)] ++ cbs) wr fun e w' => e = .returned (.bool (p h)) ∧ Below wr.heap.size wr w') := HFF.out wr h HO.out (by omega)
      have r1 : IntKind.i64.wrap ((h : Int) + 1) = (h : Int) + 1 := by rw [IntKind.wrap_i64]; omega
      cases hp : p h with
      | false =>
        rw [hp] at HCA
        go_wp2_with (go_at_fn g; refine HCA.out.mono ?_; rintro e w2 ⟨rfl, hb⟩)
        go_roundg (j - (h + 1))
        case measure => omega
        case rel => exact ⟨h + 1, j, by go_num, rfl, by omega, hjn, Nat.le_refl _, HO.out.more hb, Or.inr hp, H2⟩
      | true =>
        rw [hp] at HCA
        go_wp2_with (go_at_fn g; refine HCA.out.mono ?_; rintro e w2 ⟨rfl, hb⟩)
        go_roundg (h - i)
        case measure => omega
        case rel => exact ⟨i, h, rfl, rfl, by omega, by omega, Nat.le_refl _, HO.out.more hb, H1, Or.inr hp⟩
    · have hltz : ¬ (i : Int) < (j : Int) := by omega
      have e : j = i := by omega
      subst e
      go_wp2
      go_ret
      exact ⟨j, rfl, hjn, H1.out, H2.out, HO.out⟩
/-- a slice of trees that are leaves, one behind the other; ps: their blocks and what they hold -/
structure LvRow (W : World) (b off : Nat) (ps : List (Nat × Lf)) : Prop where
  cell : ∀ k, k < ps.length → W.cell? ⟨b, off + k, none⟩ = some (ptr (ps.getD k default).1)
  leaf : ∀ q ∈ ps, TreeC W q.1 1 (dig (pairB 76 q.2.1 q.2.2)) q.2.1 q.2.2 (.pointer none) (.pointer none)
theorem LvRow.next {W W' : World} {b off : Nat} {ps : List (Nat × Lf)} (h : LvRow W b off ps) (hb : Below W.heap.size W W') : LvRow W' b off ps :=
  ⟨fun k hk => by
    have h1 := h.cell k hk
    rw [hb.cell (p := ⟨b, off + k, none⟩) (block_lt_of_cell h1)]
    exact h1, fun q hq => (h.leaf q hq).next hb⟩
theorem LvRow.take {W : World} {b off k : Nat} {ps : List (Nat × Lf)} (h : LvRow W b off ps) : LvRow W b off (ps.take k) :=
  ⟨fun j hj => by
    rw [List.length_take] at hj
    rw [h.cell j (by omega), List.getD_eq_getElem?_getD, List.getD_eq_getElem?_getD, List.getElem?_take_of_lt (by omega)], fun q hq => h.leaf q (List.mem_of_mem_take hq)⟩
theorem LvRow.drop {W : World} {b off k : Nat} {ps : List (Nat × Lf)} (h : LvRow W b off ps) : LvRow W b (off + k) (ps.drop k) :=
  ⟨fun j hj => by
    rw [List.length_drop] at hj
    rw [Nat.add_assoc, h.cell (k + j) (by omega), List.getD_eq_getElem?_getD, List.getD_eq_getElem?_getD, List.getElem?_drop], fun q hq => h.leaf q (List.mem_of_mem_drop hq)⟩
set_option maxRecDepth 100000 in
set_option maxHeartbeats 2000000 in
theorem trBelow1_any (b off n cap i g2 g3 : Nat) (d : Nat) (ps : List (Nat × Lf)) (w : World) (hR : LvRow w b off ps) (hn : ps.length = n) (hi : i < n) (hd : d < 256) (hc2 : w.cell? ⟨g2, 0, none⟩ = some (.slice (some ⟨b, off, none⟩) n cap)) (hc3 : w.cell? ⟨g3, 0, none⟩ = some (.int .i64 (d : Int))) :
    Calls Tryd.prog 43 (#[.int .i64 (i : Int)] ++ #[.pointer (some ⟨g2, 0, none⟩), .pointer (some ⟨g3, 0, none⟩)]) w fun e w' => e = .returned (.bool (bt (ps.getD i default).2.1 d)) ∧ Below w.heap.size w w' := by
  have HR : Hid (LvRow w.drew b off ps) := hR.next (Below.refl _ w).drew
  obtain ⟨q, HQ⟩ : ∃ q, Hid (q = ps.getD i default) := ⟨_, rfl⟩
  have HM : Hid (q ∈ ps) := by
    show _ ∈ _
    rw [HQ.out, List.getD_eq_getElem?_getD, List.getElem?_eq_getElem (by omega), Option.getD_some]
    exact List.getElem_mem _
  have HL : Hid (q.2.1.length = 32) := (hR.leaf q HM.out).l2
  have HB : Hid (bitI q.2.1 (d : Int) = bt q.2.1 d) := bitI_nat _ _ hd
  rw [← HQ.out, ← HB.out]
  obtain ⟨gq, x, vq⟩ := q
  have HC : Hid (∀ wx, Over w.drew wx → wx.cell? ⟨b, off + i, none⟩ = some (.pointer (some ⟨gq, 0, none⟩))) := fun wx hx => by
    have := (HR.out.next hx.out).cell i (by omega)
    rw [← HQ.out] at this
    exact this
  have HX : Hid (∀ wx, Over w.drew wx → wx.rangeAt gq 33 (cb x)) := fun wx hx => ((HR.out.next hx.out).leaf _ HM.out).index
  have HC2 : Hid (∀ wx, Over w.drew wx → wx.cell? ⟨g2, 0, none⟩ = some (.slice (some ⟨b, off, none⟩) n cap)) := fun wx hx => (hx.out.cell (p := ⟨g2, 0, none⟩) (block_lt_of_cell hc2)).trans hc2
  have HC3 : Hid (∀ wx, Over w.drew wx → wx.cell? ⟨g3, 0, none⟩ = some (.int .i64 (d : Int))) := fun wx hx => (hx.out.cell (p := ⟨g3, 0, none⟩) (block_lt_of_cell hc3)).trans hc3
  clear hR hn hc2 hc3 HR HQ HM HB
  have i0 : (0 : Int) ≤ (i : Int) := by omega
  have i1 : (i : Int) < (n : Int) := by omega
  simp only [List.append_toArray, List.cons_append, List.nil_append]
  go_enter Tryd.func43, Tryd.ntmps43
  go_wp2_with fail
  refine wp_region_held_drew (S := Over w.drew) (by kernel_rfl) (Over.refl _) ?_
  intro hS
  refine wpAnyH_take (i := 0) (v := .slice (some ⟨b, off, none⟩) n cap) rfl (by kernel_rfl) (by kernel_rfl) (by kernel_rfl) (fun _ _ _ h => h) (Or.inl ⟨by rfl, fun wx hx => by (have hc := HC2.out wx hx; simp [go_sem, hc])⟩) hS ?_
  simp only [Act.put, List.getElem_toArray, List.getElem_cons_zero, List.setIfInBounds_toArray, List.set_cons_zero, List.set_cons_succ]
  refine wpAnyH_take (i := 1) (v := .int .i64 (i : Int)) rfl (by kernel_rfl) (by kernel_rfl) (by kernel_rfl) (fun _ _ _ h => h) (Or.inl ⟨by rfl, fun wx hx => by simp [go_sem]⟩) hS ?_
  simp only [Act.put, List.getElem_toArray, List.getElem_cons_succ, List.getElem_cons_zero, List.setIfInBounds_toArray, List.set_cons_zero, List.set_cons_succ]
  refine wpAnyH_take (i := 2) (v := .pointer (some ⟨b, off + i, none⟩)) rfl (by kernel_rfl) (by kernel_rfl) (by kernel_rfl) (fun _ _ _ h => h) (Or.inl ⟨by rfl, fun wx hx => by simp [go_sem, i0, i1]⟩) hS ?_
  simp only [Act.put, List.getElem_toArray, List.getElem_cons_succ, List.getElem_cons_zero, List.setIfInBounds_toArray, List.set_cons_zero, List.set_cons_succ]
  refine wpAnyH_take (i := 3) (v := .pointer (some ⟨gq, 0, none⟩)) rfl (by kernel_rfl) (by kernel_rfl) (by kernel_rfl) (fun _ _ _ h => h) (Or.inl ⟨by rfl, fun wx hx => by (have hc := HC.out wx hx; simp [go_sem, hc])⟩) hS ?_
  simp only [Act.put, List.getElem_toArray, List.getElem_cons_succ, List.getElem_cons_zero, List.setIfInBounds_toArray, List.set_cons_zero, List.set_cons_succ]
  refine wpAnyH_take (i := 4) (v := .pointer (some ⟨gq, 0, none⟩)) rfl (by kernel_rfl) (by kernel_rfl) (by kernel_rfl) (fun _ _ _ h => h) (Or.inl ⟨by rfl, fun wx hx => by simp [go_sem]⟩) hS ?_
  simp only [Act.put, List.getElem_toArray, List.getElem_cons_succ, List.getElem_cons_zero, List.setIfInBounds_toArray, List.set_cons_zero, List.set_cons_succ]
  refine wpAnyH_take (i := 5) (v := .pointer (some ⟨gq, 33, none⟩)) rfl (by kernel_rfl) (by kernel_rfl) (by kernel_rfl) (fun _ _ _ h => h) (Or.inl ⟨by rfl, fun wx hx => by simp [go_sem]⟩) hS ?_
  simp only [Act.put, List.getElem_toArray, List.getElem_cons_succ, List.getElem_cons_zero, List.setIfInBounds_toArray, List.set_cons_zero, List.set_cons_succ]
  refine wpAnyH_take (i := 6) (v := .agg (cb x).toArray) rfl (by kernel_rfl) (by kernel_rfl) (by kernel_rfl) (fun _ _ _ h => h) (Or.inl ⟨by rfl, fun wx hx => by exact load_run 24 _ rfl _ _ rfl (cb x) _ (HX.out wx hx) Tryd.underlying24 rfl (by rw [cb_len, HL.out]; exact info_digest)⟩) hS ?_
  simp only [Act.put, List.getElem_toArray, List.getElem_cons_succ, List.getElem_cons_zero, List.setIfInBounds_toArray, List.set_cons_zero, List.set_cons_succ]
  refine wpAnyH_take (i := 7) (v := .int .i64 (d : Int)) rfl (by kernel_rfl) (by kernel_rfl) (by kernel_rfl) (fun _ _ _ h => h) (Or.inl ⟨by rfl, fun wx hx => by (have hc := HC3.out wx hx; simp [go_sem, hc])⟩) hS ?_
  simp only [Act.put, List.getElem_toArray, List.getElem_cons_succ, List.getElem_cons_zero, List.setIfInBounds_toArray, List.set_cons_zero, List.set_cons_succ]
  refine wpAnyH_enter 8 (by kernel_rfl) rfl (by rfl) (f := 44) (args := #[.agg (cb x).toArray, .int .i64 (d : Int)]) (by simp [go_sem]) (pBit_any x HL.out _ _) ?_
  rintro e wy ⟨rfl, hbq⟩
  refine ⟨_, rfl, hS.more hbq, ?_⟩
  replace hS := hS.more hbq
  clear hbq
  simp only [Act.put, List.getElem_toArray, List.getElem_cons_succ, List.getElem_cons_zero, List.setIfInBounds_toArray, List.set_cons_zero, List.set_cons_succ]
  refine wpAnyH_take (i := 9) (v := .bool (bitI x (d : Int))) rfl (by kernel_rfl) (by kernel_rfl) (by kernel_rfl) (fun _ _ _ h => h) (Or.inl ⟨by rfl, fun wx hx => by simp [go_sem]⟩) hS ?_
  simp only [Act.put, List.getElem_toArray, List.getElem_cons_succ, List.getElem_cons_zero, List.setIfInBounds_toArray, List.set_cons_zero, List.set_cons_succ]
  refine wpAnyH_done (by kernel_rfl) ?_ _
  go_wp2_with fail
  go_ret
  exact ⟨rfl, hS.after (Below.refl _ w).drew⟩
theorem slLo (b off n cap k : Nat) (h : k ≤ cap) (w : World) : (Instr.sliceAt 55 (.slice (some ⟨b, off, none⟩) n cap) none (some (.int .i64 (k : Int))) none).run Tryd.prog w = .ok (.slice (some ⟨b, off, none⟩) k cap) w := by
  have hs : (sizeOf 27).run Tryd.prog w = .ok 1 w := by kernel_rfl
  rw [run_sliceAt_slice w 55 _ _ _ _ (by kernel_rfl), run_slice_h w 55 _ _ _ (by kernel_rfl) .i64 _ (by omega) (by omega)]
  rw [show Tryd.prog.elem 55 = 27 from by kernel_rfl, hs]
  simp only [Result.andThen_ok, sliced, Int.toNat_natCast, Nat.mul_one, Option.map_some]
  split <;> simp [Addr.add_mid]
theorem slHi (b off n cap k : Nat) (h : k ≤ n) (w : World) : (Instr.sliceAt 55 (.slice (some ⟨b, off, none⟩) n cap) (some (.int .i64 (k : Int))) none none).run Tryd.prog w = .ok (.slice (some ⟨b, if cap = k then off else off + k, none⟩) (n - k) (cap - k)) w := by
  have hs : (sizeOf 27).run Tryd.prog w = .ok 1 w := by kernel_rfl
  rw [run_sliceAt_slice w 55 _ _ _ _ (by kernel_rfl), run_slice_l w 55 _ _ _ (by kernel_rfl) .i64 _ (by omega) (by omega)]
  rw [show Tryd.prog.elem 55 = 27 from by kernel_rfl, hs]
  simp only [Result.andThen_ok, sliced, Int.toNat_natCast, Nat.mul_one, Option.map_some]
  split <;> simp [Addr.add_mid]
/-- where the first leaf stands whose bit is on -/
theorem search_half {ps : List (Nat × Lf)} {d k : Nat} (hF : Fits (ps.map (·.2)) d) (hk : k ≤ ps.length) (h1 : k = 0 ∨ bt (ps.getD (k - 1) default).2.1 d = false) (h2 : k = ps.length ∨ bt (ps.getD k default).2.1 d = true) : (ps.take k).map (·.2) = halfL (ps.map (·.2)) d false ∧ (ps.drop k).map (·.2) = halfL (ps.map (·.2)) d true := by
  have ho := half_order hF
  obtain ⟨A, hA⟩ : ∃ A, A = halfL (ps.map (·.2)) d false := ⟨_, rfl⟩
  obtain ⟨B, hB⟩ : ∃ B, B = halfL (ps.map (·.2)) d true := ⟨_, rfl⟩
  rw [← hA, ← hB] at ho ⊢
  have hAm : ∀ p ∈ A, bt p.1 d = false := fun p hp => by rw [hA] at hp; exact (mem_halfL.1 hp).2
  have hBm : ∀ p ∈ B, bt p.1 d = true := fun p hp => by rw [hB] at hp; exact (mem_halfL.1 hp).2
  have hlen : ps.length = A.length + B.length := by have := congrArg List.length ho; rw [List.length_map, List.length_append] at this; exact this
  have get : ∀ j, j < ps.length → (ps.getD j default).2 = (A ++ B).getD j ([], []) := fun j hj => by
    rw [← ho, List.getD_eq_getElem?_getD, List.getD_eq_getElem?_getD, List.getElem?_map, List.getElem?_eq_getElem hj]
    rfl
  have hkA : k = A.length := by
    rcases Nat.lt_trichotomy k A.length with h | h | h
    · rcases h2 with e | e
      · omega
      · rw [get k (by omega), List.getD_eq_getElem?_getD, List.getElem?_append_left h, List.getElem?_eq_getElem h, Option.getD_some, hAm _ (List.getElem_mem _)] at e
        cases e
    · exact h
    · rcases h1 with e | e
      · omega
      · rw [get (k - 1) (by omega), List.getD_eq_getElem?_getD, List.getElem?_append_right (by omega), List.getElem?_eq_getElem (by omega), Option.getD_some, hBm _ (List.getElem_mem _)] at e
        cases e
  rw [List.map_take, List.map_drop, ho, hkA]
  exact ⟨List.take_left, List.drop_left⟩
theorem trBelow_nil (ad : Option Addr) (cap d : Nat) (w : World) (hK : KOk w) : Calls Tryd.prog 26 #[.slice ad 0 cap, .int .i64 (d : Int)] w fun e w' => ∃ g, e = .returned (.pointer (some ⟨g, 0, none⟩)) ∧ TreeIs w' d g [] ∧ Below w.heap.size w w' := by
  have HK : Hid (KOk w) := hK
  clear hK
  obtain ⟨wB, HWB⟩ : ∃ z, Hid (z = (w.alloc (.cells #[.slice ad 0 cap] 55)).alloc (.cells #[.int .i64 (d : Int)] 3)) := ⟨_, rfl⟩
  have HBW : Hid (Below w.heap.size w wB) := by rw [HWB.out]; exact ((Below.refl _ w).alloc (Nat.le_refl _) _).alloc (by simp) _
  replace HK : Hid (KOk wB) := HK.out.below HBW.out HK.out.lt
  go_enter Tryd.func26, Tryd.ntmps26
  go_upto_region 3 with fail
  rw [← HWB.out]
  go_wp2_with (go_at_call 23; refine (trEmpty_any _ HK.out).mono ?_; rintro e wb ⟨ge, rfl, hce, hb⟩)
  go_ret
  exact ⟨ge, rfl, .none d ge hce, HBW.out.trans (hb.mono HBW.out.size)⟩
theorem trBelow_one (b off cap d : Nat) (q : Nat × Lf) (w : World) (hR : LvRow w b off [q]) : Calls Tryd.prog 26 #[.slice (some ⟨b, off, none⟩) 1 cap, .int .i64 (d : Int)] w fun e w' => ∃ g, e = .returned (.pointer (some ⟨g, 0, none⟩)) ∧ TreeIs w' d g [q.2] ∧ Below w.heap.size w w' := by
  obtain ⟨gq, x, v⟩ := q
  obtain ⟨wB, HWB⟩ : ∃ z, Hid (z = (w.alloc (.cells #[.slice (some ⟨b, off, none⟩) 1 cap] 55)).alloc (.cells #[.int .i64 (d : Int)] 3)) := ⟨_, rfl⟩
  have HBW : Hid (Below w.heap.size w wB) := by rw [HWB.out]; exact ((Below.refl _ w).alloc (Nat.le_refl _) _).alloc (by simp) _
  have HR : Hid (LvRow wB b off [(gq, x, v)]) := hR.next HBW.out
  have c1 : wB.cell? ⟨b, off, none⟩ = some (.pointer (some ⟨gq, 0, none⟩)) := HR.out.cell 0 (by simp)
  have c2 : wB.cell? ⟨w.heap.size, 0, none⟩ = some (.slice (some ⟨b, off, none⟩) 1 cap) := by rw [HWB.out]; simp
  clear hR
  go_enter Tryd.func26, Tryd.ntmps26
  go_upto_region 5 with fail
  rw [← HWB.out]
  go_wp2_with fail
  go_ret
  exact ⟨gq, rfl, .leaf d gq x v (HR.out.leaf (gq, x, v) (by simp)), HBW.out⟩
set_option maxRecDepth 100000 in
set_option maxHeartbeats 8000000 in
theorem trBelow_many (b off n cap d : Nat) (ps : List (Nat × Lf)) (w : World) (IH : ∀ (ad : Option Addr) (b off n cap : Nat) (ps : List (Nat × Lf)) (w : World), KOk w → LvRow w b off ps → ps.length = n → n ≤ cap → (n = 0 ∨ ad = some ⟨b, off, none⟩) → n < 100000 → Fits (ps.map (·.2)) (d + 1) → Calls Tryd.prog 26 #[.slice ad n cap, .int .i64 ((d + 1 : Nat) : Int)] w fun e w' => ∃ g, e = .returned (.pointer (some ⟨g, 0, none⟩)) ∧ TreeIs w' (d + 1) g (ps.map (·.2)) ∧ Below w.heap.size w w') (hK : KOk w) (hR : LvRow w b off ps) (hn : ps.length = n) (hcap : n ≤ cap) (h2 : 2 ≤ n) (hn2 : n < 100000) (hF : Fits (ps.map (·.2)) d) :
    Calls Tryd.prog 26 #[.slice (some ⟨b, off, none⟩) n cap, .int .i64 (d : Int)] w fun e w' => ∃ g, e = .returned (.pointer (some ⟨g, 0, none⟩)) ∧ TreeIs w' d g (ps.map (·.2)) ∧ Below w.heap.size w w' := by
  have hd : d < 256 := hF.lt (by rw [List.length_map]; omega)
  have HFI : Hid (Fits (ps.map (·.2)) d) := hF
  have HN : Hid (ps.length = n) := hn
  have HIH : Aside _ := IH
  obtain ⟨gl, HGL⟩ : ∃ g, Hid (g = w.heap.size) := ⟨_, rfl⟩
  obtain ⟨wB, HWB⟩ : ∃ z, Hid (z = (w.alloc (.cells #[.slice (some ⟨b, off, none⟩) n cap] 55)).alloc (.cells #[.int .i64 (d : Int)] 3)) := ⟨_, rfl⟩
  have HBW : Hid (Below w.heap.size w wB) := by rw [HWB.out]; exact ((Below.refl _ w).alloc (Nat.le_refl _) _).alloc (by simp) _
  have HK : Hid (KOk wB) := hK.below HBW.out hK.lt
  have HR : Hid (LvRow wB b off ps) := hR.next HBW.out
  have c2 : wB.cell? ⟨gl, 0, none⟩ = some (.slice (some ⟨b, off, none⟩) n cap) := by rw [HWB.out, HGL.out]; simp
  have c3 : wB.cell? ⟨gl + 1, 0, none⟩ = some (.int .i64 (d : Int)) := by rw [HWB.out, HGL.out]; simp
  have HC2 : Hid (∀ wx, Over wB wx → wx.cell? ⟨gl, 0, none⟩ = some (.slice (some ⟨b, off, none⟩) n cap)) := fun wx hx => (hx.out.cell (p := ⟨gl, 0, none⟩) (block_lt_of_cell c2)).trans c2
  have HC3 : Hid (∀ wx, Over wB wx → wx.cell? ⟨gl + 1, 0, none⟩ = some (.int .i64 (d : Int))) := fun wx hx => (hx.out.cell (p := ⟨gl + 1, 0, none⟩) (block_lt_of_cell c3)).trans c3
  have HSE : Hid (Calls Tryd.prog 42 #[.int .i64 (n : Int), .func (.func 43) #[] #[.pointer (some ⟨gl, 0, none⟩), .pointer (some ⟨gl + 1, 0, none⟩)]] wB fun e w' => ∃ k : Nat, e = .returned (.int .i64 (k : Int)) ∧ k ≤ n ∧ (k = 0 ∨ bt (ps.getD (k - 1) default).2.1 d = false) ∧ (k = n ∨ bt (ps.getD k default).2.1 d = true) ∧ Below wB.heap.size wB w') :=
    soSearch_any n 43 _ (fun i => bt (ps.getD i default).2.1 d) wB (enters_of Tryd.func43 (by kernel_rfl) rfl) (by omega) fun W i hW hi => trBelow1_any b off n cap i gl (gl + 1) d ps W (HR.out.next hW.out) HN.out hi hd (HC2.out W hW) (HC3.out W hW)
  have z0 : ¬ ((n : Int) = 0) := by omega
  have z0' : ((n : Int) == 0) = false := by rw [beq_eq_false_iff_ne]; omega
  have z1 : ¬ ((n : Int) = 1) := by omega
  have z1' : ((n : Int) == 1) = false := by rw [beq_eq_false_iff_ne]; omega
  clear hF hn IH hK hR
  go_enter Tryd.func26, Tryd.ntmps26
  go_upto_region 1 with fail
  rw [← HWB.out]
  have e0 : (some ⟨w.heap.size, 0, none⟩ : Option Addr) = some ⟨gl, 0, none⟩ := by rw [HGL.out]
  have e1 : (some ⟨w.heap.size + 1, 0, none⟩ : Option Addr) = some ⟨gl + 1, 0, none⟩ := by rw [HGL.out]
  simp only [e0, e1]
  clear e0 e1
  go_upto_region 7 with (go_at_call 42; refine HSE.out.mono ?_; rintro e w1 ⟨k, rfl, hkn, hk1, hk2, hb1⟩
                         have HO : Hid (Over wB w1) := hb1
                         have HK1 : Hid (k = 0 ∨ bt (ps.getD (k - 1) default).2.1 d = false) := hk1
                         have HK2 : Hid (k = n ∨ bt (ps.getD k default).2.1 d = true) := hk2
                         clear hb1 hk1 hk2 c2 c3 HSE)
  clear z0 z0' z1 z1'
  have HSP : Hid ((ps.take k).map (·.2) = halfL (ps.map (·.2)) d false ∧ (ps.drop k).map (·.2) = halfL (ps.map (·.2)) d true) := search_half HFI.out (by rw [HN.out]; exact hkn) HK1.out (by rw [HN.out]; exact HK2.out)
  have HO1 : Hid (∀ wx, Over w1.drew wx → Over wB wx) := fun wx hx => (HO.out.more (Below.refl _ w1).drew).more hx.out
  have rd : IntKind.i64.wrap ((d : Int) + 1) = ((d + 1 : Nat) : Int) := by rw [IntKind.wrap_i64]; omega
  obtain ⟨o2, HO2⟩ : ∃ o, Hid (o = if cap = k then off else off + k) := ⟨_, rfl⟩
  have hsl := slLo b off n cap k (by omega)
  have hsh := slHi b off n cap k hkn
  rw [← HO2.out] at hsh
  obtain ⟨n2, HN2⟩ : ∃ x, Hid (x = n - k) := ⟨_, rfl⟩
  obtain ⟨cap2, HCAP2⟩ : ∃ x, Hid (x = cap - k) := ⟨_, rfl⟩
  rw [← HN2.out, ← HCAP2.out] at hsh
  obtain ⟨d1, HD1⟩ : ∃ x, Hid (x = d + 1) := ⟨_, rfl⟩
  rw [← HD1.out] at rd
  have HCA : Hid (∀ wx, Over w1.drew wx → Calls Tryd.prog 26 #[.slice (some ⟨b, off, none⟩) k cap, .int .i64 (d1 : Int)] wx fun e w' => ∃ g, e = .returned (.pointer (some ⟨g, 0, none⟩)) ∧ TreeIs w' (d + 1) g (halfL (ps.map (·.2)) d false) ∧ Below wx.heap.size wx w') := fun wx hx => by
    have := HIH.out (some ⟨b, off, none⟩) b off k cap (ps.take k) wx (HK.out.below (HO1.out wx hx).out HK.out.lt) (HR.out.next (HO1.out wx hx).out).take (by rw [List.length_take, HN.out]; omega) (by omega) (Or.inr rfl) (by omega) (by rw [HSP.out.1]; exact HFI.out.half _)
    rw [HSP.out.1] at this
    rw [HD1.out]
    exact this
  have HCB : Hid (∀ wx, Over w1.drew wx → Calls Tryd.prog 26 #[.slice (some ⟨b, o2, none⟩) n2 cap2, .int .i64 (d1 : Int)] wx fun e w' => ∃ g, e = .returned (.pointer (some ⟨g, 0, none⟩)) ∧ TreeIs w' (d + 1) g (halfL (ps.map (·.2)) d true) ∧ Below wx.heap.size wx w') := fun wx hx => by
    have hrow : LvRow wx b o2 (ps.drop k) := by
      by_cases e : cap = k
      · have h0 : ps.drop k = [] := List.drop_eq_nil_of_le (by rw [HN.out]; omega)
        rw [h0]
        exact ⟨fun j hj => absurd hj (Nat.not_lt_zero _), fun q hq => by simp at hq⟩
      · rw [HO2.out, if_neg e]
        exact (HR.out.next (HO1.out wx hx).out).drop
    have := HIH.out (some ⟨b, o2, none⟩) b o2 n2 cap2 (ps.drop k) wx (HK.out.below (HO1.out wx hx).out HK.out.lt) hrow (by rw [List.length_drop, HN.out, HN2.out]) (by rw [HN2.out, HCAP2.out]; omega) (Or.inr rfl) (by rw [HN2.out]; omega) (by rw [HSP.out.2]; exact HFI.out.half _)
    rw [HSP.out.2] at this
    rw [HD1.out]
    exact this
  have k0 : (0 : Int) ≤ (k : Int) := by omega
  refine wp_region_held_drew (S := Over w1.drew) (by kernel_rfl) (Over.refl _) ?_
  intro hS
  refine wpAnyH_take (i := 0) (v := .slice (some ⟨b, off, none⟩) n cap) rfl (by kernel_rfl) (by kernel_rfl) (by kernel_rfl) (fun _ _ _ h => h) (Or.inl ⟨by rfl, fun wx hx => by (have hc := HC2.out wx (HO1.out wx hx); simp [go_sem, hc])⟩) hS ?_
  simp only [Act.put, List.getElem_toArray, List.getElem_cons_zero, List.setIfInBounds_toArray, List.set_cons_zero, List.set_cons_succ]
  refine wpAnyH_take (i := 1) (v := .int .i64 (k : Int)) rfl (by kernel_rfl) (by kernel_rfl) (by kernel_rfl) (fun _ _ _ h => h) (Or.inl ⟨by rfl, fun wx hx => by simp [go_sem]⟩) hS ?_
  simp only [Act.put, List.getElem_toArray, List.getElem_cons_succ, List.getElem_cons_zero, List.setIfInBounds_toArray, List.set_cons_zero, List.set_cons_succ]
  refine wpAnyH_take (i := 2) (v := .slice (some ⟨b, off, none⟩) k cap) rfl (by kernel_rfl) (by kernel_rfl) (by kernel_rfl) (fun _ _ _ h => h) (Or.inl ⟨by rfl, fun wx hx => by simp [execOp, Act.eval, hsl]⟩) hS ?_
  simp only [Act.put, List.getElem_toArray, List.getElem_cons_succ, List.getElem_cons_zero, List.setIfInBounds_toArray, List.set_cons_zero, List.set_cons_succ]
  refine wpAnyH_take (i := 3) (v := .int .i64 (d : Int)) rfl (by kernel_rfl) (by kernel_rfl) (by kernel_rfl) (fun _ _ _ h => h) (Or.inl ⟨by rfl, fun wx hx => by (have hc := HC3.out wx (HO1.out wx hx); simp [go_sem, hc])⟩) hS ?_
  simp only [Act.put, List.getElem_toArray, List.getElem_cons_succ, List.getElem_cons_zero, List.setIfInBounds_toArray, List.set_cons_zero, List.set_cons_succ]
  refine wpAnyH_take (i := 4) (v := .int .i64 (d1 : Int)) rfl (by kernel_rfl) (by kernel_rfl) (by kernel_rfl) (fun _ _ _ h => h) (Or.inl ⟨by rfl, fun wx hx => by simp [go_sem, rd]⟩) hS ?_
  simp only [Act.put, List.getElem_toArray, List.getElem_cons_succ, List.getElem_cons_zero, List.setIfInBounds_toArray, List.set_cons_zero, List.set_cons_succ]
  refine wpAnyH_take (i := 6) (v := .slice (some ⟨b, off, none⟩) n cap) rfl (by kernel_rfl) (by kernel_rfl) (by kernel_rfl) (fun _ _ _ h => h) (Or.inl ⟨by rfl, fun wx hx => by (have hc := HC2.out wx (HO1.out wx hx); simp [go_sem, hc])⟩) hS ?_
  simp only [Act.put, List.getElem_toArray, List.getElem_cons_succ, List.getElem_cons_zero, List.setIfInBounds_toArray, List.set_cons_zero, List.set_cons_succ]
  refine wpAnyH_take (i := 7) (v := .int .i64 (k : Int)) rfl (by kernel_rfl) (by kernel_rfl) (by kernel_rfl) (fun _ _ _ h => h) (Or.inl ⟨by rfl, fun wx hx => by simp [go_sem]⟩) hS ?_
  simp only [Act.put, List.getElem_toArray, List.getElem_cons_succ, List.getElem_cons_zero, List.setIfInBounds_toArray, List.set_cons_zero, List.set_cons_succ]
  refine wpAnyH_take (i := 8) (v := .slice (some ⟨b, o2, none⟩) n2 cap2) rfl (by kernel_rfl) (by kernel_rfl) (by kernel_rfl) (fun _ _ _ h => h) (Or.inl ⟨by rfl, fun wx hx => by simp [execOp, Act.eval, hsh]⟩) hS ?_
  simp only [Act.put, List.getElem_toArray, List.getElem_cons_succ, List.getElem_cons_zero, List.setIfInBounds_toArray, List.set_cons_zero, List.set_cons_succ]
  refine wpAnyH_take (i := 9) (v := .int .i64 (d : Int)) rfl (by kernel_rfl) (by kernel_rfl) (by kernel_rfl) (fun _ _ _ h => h) (Or.inl ⟨by rfl, fun wx hx => by (have hc := HC3.out wx (HO1.out wx hx); simp [go_sem, hc])⟩) hS ?_
  simp only [Act.put, List.getElem_toArray, List.getElem_cons_succ, List.getElem_cons_zero, List.setIfInBounds_toArray, List.set_cons_zero, List.set_cons_succ]
  refine wpAnyH_take (i := 10) (v := .int .i64 (d1 : Int)) rfl (by kernel_rfl) (by kernel_rfl) (by kernel_rfl) (fun _ _ _ h => h) (Or.inl ⟨by rfl, fun wx hx => by simp [go_sem, rd]⟩) hS ?_
  simp only [Act.put, List.getElem_toArray, List.getElem_cons_succ, List.getElem_cons_zero, List.setIfInBounds_toArray, List.set_cons_zero, List.set_cons_succ]
  refine wpAnyH_enter 5 (by kernel_rfl) rfl (by rfl) (f := 26) (args := #[.slice (some ⟨b, off, none⟩) k cap, .int .i64 (d1 : Int)]) (by simp [go_sem]) (HCA.out _ hS) ?_
  rintro e wy ⟨g0, rfl, ht0, hbq⟩
  refine ⟨_, rfl, hS.more hbq, ?_⟩
  replace hS := hS.more hbq
  clear hbq
  simp only [Act.put, List.getElem_toArray, List.getElem_cons_succ, List.getElem_cons_zero, List.setIfInBounds_toArray, List.set_cons_zero, List.set_cons_succ]
  refine wpAnyH_enter 11 (by kernel_rfl) rfl (by rfl) (f := 26) (args := #[.slice (some ⟨b, o2, none⟩) n2 cap2, .int .i64 (d1 : Int)]) (by simp [go_sem]) (HCB.out _ hS) ?_
  rintro e wz ⟨g1, rfl, ht1, hbq⟩
  replace ht0 := ht0.next hbq
  refine ⟨_, rfl, hS.more hbq, ?_⟩
  replace hS := hS.more hbq
  clear hbq
  simp only [Act.put, List.getElem_toArray, List.getElem_cons_succ, List.getElem_cons_zero, List.setIfInBounds_toArray, List.set_cons_zero, List.set_cons_succ]
  obtain ⟨ix0, vl0, p0, q0, hc0⟩ := ht0.cells
  obtain ⟨ix1, vl1, p1, q1, hc1⟩ := ht1.cells
  have hlen : (halfL (ps.map (·.2)) d false).length + (halfL (ps.map (·.2)) d true).length = (ps.map (·.2)).length := (half_len HFI.out).symm
  refine wpAnyH_enter 12 (by kernel_rfl) rfl (by rfl) (f := 45) (args := #[.pointer (some ⟨g0, 0, none⟩), .pointer (some ⟨g1, 0, none⟩)]) (by simp [go_sem]) (trJoined_any g0 g1 _ _ _ _ _ _ _ _ _ _ _ _ wz (HK.out.below (HO1.out _ hS).out HK.out.lt) hc0 hc1 (by rw [hlen, List.length_map, HN.out]; omega)) ?_
  rintro e wn ⟨g, rfl, hcg, hbq⟩
  replace ht0 := ht0.next hbq
  replace ht1 := ht1.next hbq
  refine ⟨_, rfl, hS.more hbq, ?_⟩
  replace hS := hS.more hbq
  clear hbq
  have HTR : Hid (TreeIs wn d g (ps.map (·.2))) := by
    rw [hlen] at hcg
    refine .node d g g0 g1 _ (by rw [List.length_map, HN.out]; exact h2) HFI.out ht0 ht1 ?_
    rw [rootL_two HFI.out (by rw [List.length_map, HN.out]; exact h2)]
    exact hcg
  clear ht0 ht1 hc0 hc1 hcg hlen
  simp only [Act.put, List.getElem_toArray, List.getElem_cons_succ, List.getElem_cons_zero, List.setIfInBounds_toArray, List.set_cons_zero, List.set_cons_succ]
  refine wpAnyH_take (i := 13) (v := .pointer (some ⟨g, 0, none⟩)) rfl (by kernel_rfl) (by kernel_rfl) (by kernel_rfl) (fun _ _ _ h => h) (Or.inl ⟨by rfl, fun wx hx => by simp [go_sem]⟩) hS ?_
  simp only [Act.put, List.getElem_toArray, List.getElem_cons_succ, List.getElem_cons_zero, List.setIfInBounds_toArray, List.set_cons_zero, List.set_cons_succ]
  refine wpAnyH_done (by kernel_rfl) ?_ _
  go_wp2_with fail
  go_ret
  exact ⟨g, rfl, HTR.out, ((HO1.out _ hS).after HBW.out)⟩
theorem trBelow_any : ∀ (f d : Nat) (ad : Option Addr) (b off n cap : Nat) (ps : List (Nat × Lf)) (w : World), 256 ≤ d + f → KOk w → LvRow w b off ps → ps.length = n → n ≤ cap → (n = 0 ∨ ad = some ⟨b, off, none⟩) → n < 100000 → Fits (ps.map (·.2)) d → Calls Tryd.prog 26 #[.slice ad n cap, .int .i64 (d : Int)] w fun e w' => ∃ g, e = .returned (.pointer (some ⟨g, 0, none⟩)) ∧ TreeIs w' d g (ps.map (·.2)) ∧ Below w.heap.size w w'
  | f, d, ad, b, off, n, cap, ps, w, hf, hK, hR, hn, hcap, had, hn2, hF => by
    match n, had with
    | 0, _ =>
      have : ps = [] := List.length_eq_zero_iff.1 hn
      subst this
      exact trBelow_nil ad cap d w hK
    | 1, had =>
      obtain ⟨q, hq⟩ : ∃ q, ps = [q] := List.length_eq_one_iff.1 hn
      subst hq
      have e : ad = some ⟨b, off, none⟩ := by rcases had with h | h; cases h; exact h
      subst e
      exact trBelow_one b off cap d q w hR
    | n + 2, had =>
      have e : ad = some ⟨b, off, none⟩ := by rcases had with h | h; cases h; exact h
      subst e
      have hd : d < 256 := hF.lt (by rw [List.length_map]; omega)
      match f with
      | 0 => omega
      | f + 1 => exact trBelow_many b off (n + 2) cap d ps w (fun ad b off n cap ps w h1 h2 h3 h4 h5 h6 h7 => trBelow_any f (d + 1) ad b off n cap ps w (by omega) h1 h2 h3 h4 h5 h6 h7) hK hR hn hcap (by omega) hn2 hF
end Go.Proofs.YtphacinnnepdoaaDoor
/- Plain: a sort that keeps the order of equals: insertions, pieces exchanged, merges in place (slices.SortStableFunc). -/
namespace Go.Proofs.YtphacinnnepdoaaDoor
open Go.Sort
variable {α : Type} [Inhabited α] {lt : α → α → Bool} {R : α → α → Prop}
/-- rising by R, from place a up to b -/
def Ris (R : α → α → Prop) (a b : Nat) (d : Array α) : Prop := ∀ i j, a ≤ i → i < j → j < b → R d[i]! d[j]!
/-- R: by lt, and where neither is less by where they stood -/
structure Keep (lt : α → α → Bool) (R : α → α → Prop) : Prop where
  tr : ∀ x y z, R x y → R y z → R x z
  lr : ∀ x y, lt x y = true → R x y
/-- what stands from a to m stood ahead of what stands from m to b -/
def Ahead (lt : α → α → Bool) (R : α → α → Prop) (a m b : Nat) (d : Array α) : Prop := ∀ i j, a ≤ i → i < m → m ≤ j → j < b → lt d[j]! d[i]! = false → R d[i]! d[j]!
theorem Ahead.mono {a m b a' m' b' : Nat} {d : Array α} (h : Ahead lt R a m b d) (h1 : a ≤ a') (h2 : m' ≤ m) (h3 : m ≤ m') (h4 : b' ≤ b) : Ahead lt R a' m' b' d := fun i j hi hi2 hj hj2 => h i j (by omega) (by omega) (by omega) (by omega)
theorem Ris.mono {a b a' b' : Nat} {d : Array α} (h : Ris R a b d) (h1 : a ≤ a') (h2 : b' ≤ b) : Ris R a' b' d := fun i j hi hij hj => h i j (by omega) hij (by omega)
theorem Ris.glue {a q b : Nat} {d : Array α} (h1 : Ris R a q d) (h2 : Ris R q b d) (hc : ∀ i j, a ≤ i → i < q → q ≤ j → j < b → R d[i]! d[j]!) : Ris R a b d := by
  intro i j hi hij hj
  by_cases hq : j < q
  · exact h1 i j hi hij hq
  · by_cases hq2 : i < q
    · exact hc i j hi hq2 (by omega) hj
    · exact h2 i j (by omega) hij hj
theorem Ris.le (K : Keep lt R) {a b i j : Nat} {d : Array α} {y : α} (h : Ris R a b d) (hi : a ≤ i) (hij : i ≤ j) (hj : j < b) (hy : R d[j]! y) : R d[i]! y := by
  by_cases e : i = j
  · rw [e]; exact hy
  · exact K.tr _ _ _ (h i j hi (by omega) hj) hy
theorem Ris.ge (K : Keep lt R) {a b i j : Nat} {d : Array α} {y : α} (h : Ris R a b d) (hi : a ≤ i) (hij : i ≤ j) (hj : j < b) (hy : R y d[i]!) : R y d[j]! := by
  by_cases e : i = j
  · rw [← e]; exact hy
  · exact K.tr _ _ _ hy (h i j hi (by omega) hj)
/-- the pieces from s to m and from m to e, exchanged -/
structure Rot (s m e : Nat) (d d' : Array α) : Prop where
  le1 : s ≤ m
  le2 : m ≤ e
  hi : e ≤ d.size
  fst : ∀ k, s ≤ k → k < s + (e - m) → d'[k]! = d[k + (m - s)]!
  snd : ∀ k, s + (e - m) ≤ k → k < e → d'[k]! = d[k - (e - m)]!
  perm : PermIn s e d d'
theorem Rot.size {s m e : Nat} {d d' : Array α} (h : Rot s m e d d') : d'.size = d.size := h.perm.1
theorem Rot.out {s m e : Nat} {d d' : Array α} (h : Rot s m e d d') (k : Nat) (hk : k < s ∨ e ≤ k) : d'[k]! = d[k]! := h.perm.2.1 k hk
theorem Rot.none {s m e : Nat} {d : Array α} (h1 : s ≤ m) (h2 : m ≤ e) (h3 : e ≤ d.size) (h : s = m ∨ m = e) : Rot s m e d d := by
  refine ⟨h1, h2, h3, fun k hk hk2 => ?_, fun k hk hk2 => ?_, permIn_refl _ _ _⟩
  · congr 1; omega
  · congr 1; omega
/-- what an exchange of pieces leaves in order -/
structure Mid (lt : α → α → Bool) (R : α → α → Prop) (a s q e b : Nat) (d : Array α) : Prop where
  r1 : Ris R a s d
  r2 : Ris R s q d
  r3 : Ris R q e d
  r4 : Ris R e b d
  a1 : Ahead lt R a s q d
  a2 : Ahead lt R q e b d
  cross : ∀ i j, a ≤ i → i < q → q ≤ j → j < b → R d[i]! d[j]!
theorem rot_mid (K : Keep lt R) {a s m e b : Nat} {d d' : Array α} (h1 : Ris R a m d) (h2 : Ris R m b d) (hx : Ahead lt R a m b d) (hr : Rot s m e d d') (has : a ≤ s) (heb : e ≤ b) (hlo : (s = a ∨ e = b) ∨ lt d[e]! d[s - 1]! = false) (hhi : (s = m ∨ e = m) ∨ lt d[e - 1]! d[s]! = true) : Mid lt R a s (s + (e - m)) e b d' := by
  have l1 := hr.le1
  have l2 := hr.le2
  refine ⟨?_, ?_, ?_, ?_, ?_, ?_, ?_⟩
  · intro i j hi hij hj
    rw [hr.out i (by omega), hr.out j (by omega)]
    exact h1 i j hi hij (by omega)
  · intro i j hi hij hj
    rw [hr.fst i (by omega) (by omega), hr.fst j (by omega) (by omega)]
    exact h2 _ _ (by omega) (by omega) (by omega)
  · intro i j hi hij hj
    rw [hr.snd i (by omega) (by omega), hr.snd j (by omega) (by omega)]
    exact h1 _ _ (by omega) (by omega) (by omega)
  · intro i j hi hij hj
    rw [hr.out i (by omega), hr.out j (by omega)]
    exact h2 i j (by omega) hij hj
  · intro i j hi hi2 hj hj2
    rw [hr.out i (by omega), hr.fst j (by omega) (by omega)]
    exact hx _ _ hi (by omega) (by omega) (by omega)
  · intro i j hi hi2 hj hj2
    rw [hr.snd i (by omega) (by omega), hr.out j (by omega)]
    exact hx _ _ (by omega) (by omega) (by omega) (by omega)
  · intro i j hi hi2 hj hj2
    by_cases c1 : i < s
    · rw [hr.out i (by omega)]
      by_cases c2 : j < e
      · rw [hr.snd j (by omega) c2]
        exact h1 _ _ hi (by omega) (by omega)
      · rw [hr.out j (by omega)]
        rcases hlo with h | h
        · omega
        · have := hx (s - 1) e (by omega) (by omega) (by omega) (by omega) h
          exact Ris.le K h1 hi (show i ≤ s - 1 by omega) (by omega) (Ris.ge K h2 (show m ≤ e by omega) (by omega) hj2 this)
    · rw [hr.fst i (by omega) (by omega)]
      by_cases c2 : j < e
      · rw [hr.snd j (by omega) c2]
        rcases hhi with h | h
        · omega
        · have := K.lr _ _ h
          exact Ris.le K h2 (by omega) (show i + (m - s) ≤ e - 1 by omega) (by omega) (Ris.ge K h1 (show a ≤ s by omega) (by omega) (by omega) this)
      · rw [hr.out j (by omega)]
        exact h2 _ _ (by omega) (by omega) hj2
/-- a merge: in place, and rising -/
def Merged (R : α → α → Prop) (a b : Nat) (d d' : Array α) : Prop := PermIn a b d d' ∧ Ris R a b d'
theorem PermIn.wide {a b a' b' : Nat} {d d' : Array α} (h : PermIn a b d d') (h1 : a' ≤ a) (h2 : b ≤ b') (h3 : b' ≤ d.size) : PermIn a' b' d d' := permIn_mono d d' a b a' b' h1 h2 h3 h
/-- one that is merged with those behind it -/
theorem one_left (K : Keep lt R) {a m b i : Nat} {d d' : Array α} (hm : m = a + 1) (h2 : Ris R m b d) (hx : Ahead lt R a m b d) (hb : b ≤ d.size) (hi : i ≤ b) (hr : Rot a m i d d') (hlo : i = b ∨ lt d[i]! d[a]! = false) (hhi : i = m ∨ lt d[i - 1]! d[a]! = true) : Merged R a b d d' := by
  subst hm
  have l2 := hr.le2
  have h1 : Ris R a (a + 1) d := fun i j h1 h2 h3 => by omega
  have hM := rot_mid K h1 h2 hx hr (Nat.le_refl _) hi (Or.inl (Or.inl rfl)) (by rcases hhi with h | h; exact Or.inl (Or.inr h); exact Or.inr h)
  refine ⟨PermIn.wide hr.perm (Nat.le_refl _) hi hb, Ris.glue (q := a + (i - (a + 1))) hM.r2 (Ris.glue (q := i) hM.r3 hM.r4 ?_) hM.cross⟩
  intro k j hk hk2 hj hj2
  rw [hr.snd k hk hk2, hr.out j (by omega)]
  rcases hlo with h | h
  · omega
  · have e : k - (i - (a + 1)) = a := by omega
    rw [e]
    exact Ris.ge K h2 (by omega) hj hj2 (hx a i (by omega) (by omega) (by omega) (by omega) h)
/-- those that are merged with one behind them -/
theorem one_right (K : Keep lt R) {a m b i : Nat} {d d' : Array α} (hm : b = m + 1) (h1 : Ris R a m d) (hx : Ahead lt R a m b d) (hb : b ≤ d.size) (hi : a ≤ i) (hr : Rot i m b d d') (hlo : i = a ∨ lt d[m]! d[i - 1]! = false) (hhi : i = m ∨ lt d[m]! d[i]! = true) : Merged R a b d d' := by
  subst hm
  have l1 := hr.le1
  have h2 : Ris R m (m + 1) d := fun i j h1 h2 h3 => by omega
  have hM := rot_mid K h1 h2 hx hr hi (Nat.le_refl _) (Or.inl (Or.inr rfl)) (by rcases hhi with h | h; exact Or.inl (Or.inl h); exact Or.inr h)
  refine ⟨PermIn.wide hr.perm hi (Nat.le_refl _) hb, Ris.glue (q := i + (m + 1 - m)) (Ris.glue (q := i) hM.r1 hM.r2 ?_) (Ris.glue (q := m + 1) hM.r3 hM.r4 (fun _ _ _ _ h3 h4 => by omega)) hM.cross⟩
  intro k j hk hk2 hj hj2
  rw [hr.out k (by omega), hr.fst j (by omega) (by omega)]
  rcases hlo with h | h
  · omega
  · have e : j + (m - i) = m := by omega
    rw [e]
    exact Ris.le K h1 hk (show k ≤ i - 1 by omega) (by omega) (hx (i - 1) m (by omega) (by omega) (by omega) (by omega) h)
/-- both sides of a merge, each merged by itself -/
theorem both {a mid b : Nat} {d d1 d2 d3 : Array α} (h1 : PermIn a b d d1) (hb : b ≤ d.size) (ham : a ≤ mid) (hmb : mid ≤ b) (hc : ∀ i j, a ≤ i → i < mid → mid ≤ j → j < b → R d1[i]! d1[j]!) (m1 : Merged R a mid d1 d2) (m2 : Merged R mid b d2 d3) : Merged R a b d d3 := by
  have s1 : d1.size = d.size := h1.1
  have s2 : d2.size = d1.size := m1.1.1
  have p1 : PermIn a b d1 d2 := PermIn.wide m1.1 (Nat.le_refl _) hmb (by omega)
  have p2 : PermIn a b d2 d3 := PermIn.wide m2.1 ham (Nat.le_refl _) (by omega)
  refine ⟨permIn_trans _ _ _ _ _ (permIn_trans _ _ _ _ _ h1 p1) p2, Ris.glue (q := mid) ?_ m2.2 ?_⟩
  · intro i j hi hij hj
    rw [m2.1.2.1 i (by omega), m2.1.2.1 j (by omega)]
    exact m1.2 i j hi hij hj
  · intro i j hi hi2 hj hj2
    rw [m2.1.2.1 i (by omega)]
    have A := permIn_all d1 d2 a mid (fun x => ∀ j, mid ≤ j → j < b → R x d1[j]!) (by omega) m1.1 (fun i hi hi2 j hj hj2 => hc i j hi hi2 hj hj2) i hi hi2
    have B := permIn_all d2 d3 mid b (fun y => R d2[i]! y) (by omega) m2.1 (fun j hj hj2 => by rw [m1.1.2.1 j (by omega)]; exact A j hj hj2) j hj hj2
    exact B
theorem Merged.none {a b : Nat} {d : Array α} (h : Ris R a b d) : Merged R a b d d := ⟨permIn_refl _ _ _, h⟩
/-- an insertion -/
theorem insInner_ris (K : Keep lt R) (a i : Nat) : ∀ (j : Nat) (d : Array α), a ≤ j → j ≤ i → i < d.size → Ris R a j d → Ris R j (i + 1) d → (∀ p q, a ≤ p → p < j → j < q → q ≤ i → R d[p]! d[q]!) → (∀ p, a ≤ p → p < j → lt d[j]! d[p]! = false → R d[p]! d[j]!) → Merged R a (i + 1) d (insInner lt a j d)
  | 0, d, ha, hj, hi, h1, h2, h3, h4 => by
    have e : a = 0 := by omega
    subst e
    exact Merged.none h2
  | j + 1, d, ha, hj, hi, h1, h2, h3, h4 => by
    have stop : (¬ (j + 1 > a) ∨ lt d[j + 1]! d[j]! = false) → Merged R a (i + 1) d d := by
      intro hs
      refine Merged.none (Ris.glue (q := j + 1) h1 h2 ?_)
      intro p q hp hp2 hq hq2
      rcases hs with hs | hs
      · omega
      · have := h4 j (by omega) (by omega) hs
        by_cases e : q = j + 1
        · rw [e]
          exact Ris.le K h1 hp (show p ≤ j by omega) (by omega) this
        · exact h3 p q hp hp2 (by omega) (by omega)
    unfold insInner
    cases hc : (decide (j + 1 > a) && lt d[j + 1]! d[j]!) with
    | false =>
      rw [if_neg (by simp)]
      refine stop ?_
      rw [Bool.and_eq_false_iff] at hc
      rcases hc with hc | hc
      · exact Or.inl (of_decide_eq_false hc)
      · exact Or.inr hc
    | true =>
      rw [if_pos rfl]
      rw [Bool.and_eq_true] at hc
      have hja : a < j + 1 := of_decide_eq_true hc.1
      have hR := K.lr _ _ hc.2
      have sl : (swp d (j + 1) j)[j + 1]! = d[j]! := swp_left d (j + 1) j (by omega) (by omega)
      have sr : (swp d (j + 1) j)[j]! = d[j + 1]! := swp_right d (j + 1) j (by omega)
      have so : ∀ k, k ≠ j → k ≠ j + 1 → (swp d (j + 1) j)[k]! = d[k]! := fun k h1 h2 => swp_other d (j + 1) j k h2 h1
      have ih := insInner_ris K a i j (swp d (j + 1) j) (by omega) (by omega) (by rw [size_swp]; exact hi) ?_ ?_ ?_ ?_
      · exact ⟨permIn_trans _ _ _ _ _ (swp_permIn d a (i + 1) (j + 1) j (by omega) (by omega) (by omega) (by omega) (by omega)) ih.1, ih.2⟩
      · intro p q hp hpq hq
        rw [so p (by omega) (by omega), so q (by omega) (by omega)]
        exact h1 p q hp hpq (by omega)
      · intro p q hp hpq hq
        by_cases ep : p = j
        · rw [ep, sr]
          by_cases eq : q = j + 1
          · rw [eq, sl]; exact hR
          · rw [so q (by omega) eq]
            exact h2 (j + 1) q (by omega) (by omega) hq
        · by_cases ep2 : p = j + 1
          · rw [ep2, sl, so q (by omega) (by omega)]
            exact h3 j q (by omega) (by omega) (by omega) (by omega)
          · rw [so p ep ep2, so q (by omega) (by omega)]
            exact h2 p q (by omega) hpq hq
      · intro p q hp hp2 hq hq2
        rw [so p (by omega) (by omega)]
        by_cases eq : q = j + 1
        · rw [eq, sl]
          exact h1 p j hp hp2 (by omega)
        · rw [so q (by omega) eq]
          exact h3 p q hp (by omega) (by omega) hq2
      · intro p hp hp2
        rw [sr, so p (by omega) (by omega)]
        exact h4 p hp (by omega)
/-- as they stood -/
def Stood (lt : α → α → Bool) (R : α → α → Prop) (a b : Nat) (d : Array α) : Prop := ∀ i j, a ≤ i → i < j → j < b → lt d[j]! d[i]! = false → R d[i]! d[j]!
theorem insOuter_ris (K : Keep lt R) (a b : Nat) : ∀ (n i : Nat) (d : Array α), b - i ≤ n → a < i → i ≤ b ∨ b ≤ a + 1 → b ≤ d.size → Ris R a i d → (∀ p q, a ≤ p → p < q → i ≤ q → q < b → lt d[q]! d[p]! = false → R d[p]! d[q]!) → Merged R a b d (insOuter lt a b i d)
  | 0, i, d, hn, hai, hib, hb, h1, h2 => by
    unfold insOuter
    rw [if_neg (by omega)]
    exact Merged.none (h1.mono (Nat.le_refl _) (by omega))
  | n + 1, i, d, hn, hai, hib, hb, h1, h2 => by
    unfold insOuter
    by_cases hc : i < b
    · rw [if_pos hc]
      have hI := insInner_ris K a i i d (by omega) (Nat.le_refl _) (by omega) h1 (fun p q h1 h2 h3 => by omega) (fun p q _ _ h3 h4 => by omega) (fun p hp hp2 hl => h2 p i hp hp2 (Nat.le_refl _) hc hl)
      have hs : (insInner lt a i d).size = d.size := hI.1.1
      have ih := insOuter_ris K a b n (i + 1) (insInner lt a i d) (by omega) (by omega) (by omega) (by omega) hI.2 ?_
      · exact ⟨permIn_trans _ _ _ _ _ (PermIn.wide hI.1 (Nat.le_refl _) (by omega) hb) ih.1, ih.2⟩
      · intro p q hp hpq hq hqb
        rw [hI.1.2.1 q (by omega)]
        by_cases hpi : p < i + 1
        · exact permIn_all d _ a (i + 1) (fun x => lt d[q]! x = false → R x d[q]!) (by omega) hI.1 (fun k hk hk2 => h2 k q hk (by omega) (by omega) hqb) p hp hpi
        · rw [hI.1.2.1 p (by omega)]
          exact h2 p q hp hpq (by omega) hqb
    · rw [if_neg hc]
      exact Merged.none (h1.mono (Nat.le_refl _) (by omega))
theorem insertion_ris (K : Keep lt R) {a b : Nat} {d : Array α} (hab : a ≤ b) (hb : b ≤ d.size) (h : Stood lt R a b d) : Merged R a b d (insertionSort lt d a b) :=
  insOuter_ris K a b (b - (a + 1)) (a + 1) d (Nat.le_refl _) (by omega) (by omega) hb (fun i j _ _ _ => by omega) (fun p q hp hpq _ hqb => h p q hp hpq hqb)
/-- no mixture across the place c -/
def Cut (lt : α → α → Bool) (R : α → α → Prop) (c n : Nat) (d : Array α) : Prop := Ahead lt R 0 c n d
theorem Cut.perm {c n a b : Nat} {d d' : Array α} (h : Cut lt R c n d) (hp : PermIn a b d d') (hb : b ≤ d.size) (hbn : b ≤ n) (hc : b ≤ c ∨ c ≤ a) : Cut lt R c n d' := by
  intro i j hi hi2 hj hj2
  rcases hc with hc | hc
  · rw [hp.2.1 j (by omega)]
    by_cases c1 : a ≤ i ∧ i < b
    · exact permIn_all d d' a b (fun x => lt d[j]! x = false → R x d[j]!) hb hp (fun k hk hk2 => h k j (by omega) (by omega) hj hj2) i c1.1 c1.2
    · rw [hp.2.1 i (by omega)]
      exact h i j hi hi2 hj hj2
  · rw [hp.2.1 i (by omega)]
    by_cases c1 : a ≤ j ∧ j < b
    · exact permIn_all d d' a b (fun y => lt y d[i]! = false → R d[i]! y) hb hp (fun k hk hk2 => h i k (by omega) (by omega) (by omega) (by omega)) j c1.1 c1.2
    · rw [hp.2.1 j (by omega)]
      exact h i j hi hi2 hj hj2
theorem Ris.other {a b a' b' : Nat} {d d' : Array α} (h : Ris R a' b' d) (hp : PermIn a b d d') (hc : b' ≤ a ∨ b ≤ a') : Ris R a' b' d' := by
  intro i j hi hij hj
  rw [hp.2.1 i (by omega), hp.2.1 j (by omega)]
  exact h i j hi hij hj
/-- blocks of B, from lo up to n, each rising -/
def Blks (R : α → α → Prop) (B lo hi n : Nat) (d : Array α) : Prop := ∀ k, lo ≤ k * B → k * B < hi → Ris R (k * B) (min (k * B + B) n) d
end Go.Proofs.YtphacinnnepdoaaDoor
/- Plain: pieces exchanged by swaps; one place moved by swaps (slices.SortStableFunc's rotations). -/
namespace Go.Proofs.YtphacinnnepdoaaDoor
open Go.Sort
variable {α : Type} [Inhabited α]
/-- the k places from a on and the k places from b on, exchanged one by one -/
def swaps (a b : Nat) : Nat → Array α → Array α
  | 0, d => d
  | k + 1, d => swp (swaps a b k d) (a + k) (b + k)
theorem size_swaps (a b k : Nat) (d : Array α) : (swaps a b k d).size = d.size := by
  induction k with
  | zero => rfl
  | succ k ih => rw [swaps, size_swp, ih]
theorem swaps_other (a b k : Nat) (d : Array α) (x : Nat) (h1 : x < a ∨ a + k ≤ x) (h2 : x < b ∨ b + k ≤ x) : (swaps a b k d)[x]! = d[x]! := by
  induction k with
  | zero => rfl
  | succ k ih => rw [swaps, swp_other _ _ _ _ (by omega) (by omega), ih (by omega) (by omega)]
theorem swaps_fst (a b k : Nat) (d : Array α) (hab : a + k ≤ b) (hb : b + k ≤ d.size) (x : Nat) (h1 : a ≤ x) (h2 : x < a + k) : (swaps a b k d)[x]! = d[x + (b - a)]! := by
  induction k with
  | zero => omega
  | succ k ih =>
    rw [swaps]
    by_cases e : x = a + k
    · rw [e, swp_left _ _ _ (by rw [size_swaps]; omega) (by omega), swaps_other _ _ _ _ _ (by omega) (by omega)]
      congr 1; omega
    · rw [swp_other _ _ _ _ (by omega) (by omega)]
      exact ih (by omega) (by omega) (by omega)
theorem swaps_snd (a b k : Nat) (d : Array α) (hab : a + k ≤ b) (hb : b + k ≤ d.size) (x : Nat) (h1 : b ≤ x) (h2 : x < b + k) : (swaps a b k d)[x]! = d[x - (b - a)]! := by
  induction k with
  | zero => omega
  | succ k ih =>
    rw [swaps]
    by_cases e : x = b + k
    · rw [e, swp_right _ _ _ (by rw [size_swaps]; omega), swaps_other _ _ _ _ _ (by omega) (by omega)]
      congr 1; omega
    · rw [swp_other _ _ _ _ (by omega) (by omega)]
      exact ih (by omega) (by omega) (by omega)
theorem swaps_perm (a b k lo hi : Nat) (d : Array α) (h1 : lo ≤ a) (h2 : a + k ≤ hi) (h3 : lo ≤ b) (h4 : b + k ≤ hi) (hh : hi ≤ d.size) : PermIn lo hi d (swaps a b k d) := by
  induction k with
  | zero => exact permIn_refl _ _ _
  | succ k ih => exact permIn_trans _ _ _ _ _ (ih (by omega) (by omega)) (swp_permIn _ lo hi (a + k) (b + k) (by omega) (by omega) (by omega) (by omega) (by rw [size_swaps]; exact hh))
/-- the shorter piece lies behind -/
theorem rot_left {m i j : Nat} {d d' : Array α} (him : i ≤ m) (hji : j < i) (hs : m + j ≤ d.size) (h : Rot (m - (i - j)) m (m + j) (swaps (m - i) m j d) d') : Rot (m - i) m (m + j) d d' := by
  have h2 := h.perm
  refine ⟨by omega, by omega, hs, fun k hk hk2 => ?_, fun k hk hk2 => ?_, permIn_trans _ _ _ _ _ (swaps_perm _ _ _ (m - i) (m + j) d (by omega) (by omega) (by omega) (by omega) hs) (PermIn.wide h2 (by omega) (by omega) (by rw [size_swaps]; exact hs))⟩
  · rw [h.out k (by omega), swaps_fst _ _ _ _ (by omega) hs k hk (by omega)]
  · by_cases c : k < m
    · by_cases c2 : k < m - (i - j) + (m + j - m)
      · rw [h.fst k (by omega) c2, swaps_snd _ _ _ _ (by omega) hs _ (by omega) (by omega)]
        congr 1; omega
      · rw [h.snd k (by omega) (by omega), swaps_other _ _ _ _ _ (by omega) (by omega)]
    · by_cases c2 : k < m - (i - j) + (m + j - m)
      · rw [h.fst k (by omega) c2, swaps_snd _ _ _ _ (by omega) hs _ (by omega) (by omega)]
        congr 1; omega
      · rw [h.snd k (by omega) (by omega), swaps_other _ _ _ _ _ (by omega) (by omega)]
/-- the shorter piece lies ahead -/
theorem rot_right {m i j : Nat} {d d' : Array α} (him : i ≤ m) (hij : i < j) (hs : m + j ≤ d.size) (h : Rot (m - i) m (m + (j - i)) (swaps (m - i) (m + j - i) i d) d') : Rot (m - i) m (m + j) d d' := by
  have h2 := h.perm
  refine ⟨by omega, by omega, hs, fun k hk hk2 => ?_, fun k hk hk2 => ?_, permIn_trans _ _ _ _ _ (swaps_perm _ _ _ (m - i) (m + j) d (by omega) (by omega) (by omega) (by omega) hs) (PermIn.wide h2 (by omega) (by omega) (by rw [size_swaps]; exact hs))⟩
  · by_cases c2 : k < m - i + (m + (j - i) - m)
    · rw [h.fst k (by omega) c2, swaps_other _ _ _ _ _ (by omega) (by omega)]
    · rw [h.snd k (by omega) (by omega), swaps_fst _ _ _ _ (by omega) (by omega) _ (by omega) (by omega)]
      congr 1; omega
  · rw [h.out k (by omega), swaps_snd _ _ _ _ (by omega) (by omega) k (by omega) (by omega)]
    congr 1; omega
/-- both are as long -/
theorem rot_even {m i : Nat} {d : Array α} (him : i ≤ m) (hs : m + i ≤ d.size) : Rot (m - i) m (m + i) d (swaps (m - i) m i d) := by
  refine ⟨by omega, by omega, hs, fun k hk hk2 => ?_, fun k hk hk2 => ?_, swaps_perm _ _ _ (m - i) (m + i) d (by omega) (by omega) (by omega) (by omega) hs⟩
  · rw [swaps_fst _ _ _ _ (by omega) hs k hk (by omega)]
  · rw [swaps_snd _ _ _ _ (by omega) hs k (by omega) (by omega)]
    congr 1; omega
/-- the place a, moved up by k -/
theorem rot_up {a k : Nat} {d d' : Array α} (hs : a + 1 + k < d.size) (h : Rot a (a + 1) (a + 1 + k) d d') : Rot a (a + 1) (a + 1 + (k + 1)) d (swp d' (a + k) (a + k + 1)) := by
  have hz := h.size
  refine ⟨by omega, by omega, by omega, fun x hx hx2 => ?_, fun x hx hx2 => ?_, ?_⟩
  · by_cases e : x = a + k
    · rw [e, swp_left _ _ _ (by omega) (by omega), h.out _ (by omega)]
      congr 1; omega
    · rw [swp_other _ _ _ _ e (by omega), h.fst x hx (by omega)]
  · have e : x = a + k + 1 := by omega
    rw [e, swp_right _ _ _ (by omega), h.snd _ (by omega) (by omega)]
    congr 1; omega
  · exact permIn_trans _ _ _ _ _ (PermIn.wide h.perm (Nat.le_refl _) (by omega) (by omega)) (swp_permIn _ _ _ _ _ (by omega) (by omega) (by omega) (by omega) (by omega))
/-- the place m, moved down -/
theorem rot_down {m k : Nat} {d d' : Array α} (hk : k < m) (hs : m < d.size) (h : Rot (k + 1) m (m + 1) d d') : Rot k m (m + 1) d (swp d' (k + 1) k) := by
  have hz := h.size
  refine ⟨by omega, by omega, by omega, fun x hx hx2 => ?_, fun x hx hx2 => ?_, ?_⟩
  · have e : x = k := by omega
    rw [e, swp_right _ _ _ (by omega), h.fst _ (by omega) (by omega)]
    congr 1; omega
  · by_cases e : x = k + 1
    · rw [e, swp_left _ _ _ (by omega) (by omega), h.out _ (by omega)]
      congr 1; omega
    · rw [swp_other _ _ _ _ e (by omega), h.snd x (by omega) hx2]
  · exact permIn_trans _ _ _ _ _ (PermIn.wide h.perm (by omega) (Nat.le_refl _) (by omega)) (swp_permIn _ _ _ _ _ (by omega) (by omega) (by omega) (by omega) (by omega))
end Go.Proofs.YtphacinnnepdoaaDoor
/- The walk of slices.swapRangeCmpFunc at trees: two pieces, exchanged place by place. -/
namespace Go.Proofs.YtphacinnnepdoaaDoor
open Go.Shelf Go.RowKit Go.Lib Go.Sort
variable {α : Type} [Inhabited α]
set_option maxHeartbeats 4000000 in
set_option maxRecDepth 1000000 in
theorem swapRange_any (enc : α → Value) (g : Nat) (cb : Array Value) (blk off L cap a b n : Nat) (d0 d : Array α) (w0 w : World) (R : Row1 enc w0 blk off d0) (hs : d0.size = d.size) (hL : d.size = L) (S : SW enc w0 blk off d w) (hab : a + n ≤ b) (hb : b + n ≤ d.size) (hsz : d.size < 4611686018427387904) :
    Calls Tryd.prog 84 #[.slice (some ⟨blk, off, none⟩) L cap, .int .i64 a, .int .i64 b, .int .i64 n, .func (.func g) #[] cb] w fun e w' => e = .returned (.tuple #[]) ∧ SW enc w0 blk off (swaps a b n d) w' := by
  have mixed : Tryd.prog.follows .mixedOrders = true := by kernel_rfl
  have hcl0 := R.hO.cells
  simp only [Value.cells] at hcl0
  have hst := R.hO.store Tryd.prog
  have S0 : Aside (SW enc w0 blk off d w) := S
  clear S
  go_enter Tryd.func84, Tryd.ntmps84
  go_wp2
  go_loopg [10] n (fun kx s10 wr => ∃ (i : Nat) (dk : Array α), s10 = .int .i64 i ∧ i ≤ n ∧ n - i ≤ kx ∧ dk.size = d.size ∧ Aside (SW enc w0 blk off dk wr) ∧ Hid (dk = swaps a b i d))
  case atStart => exact ⟨0, d, rfl, by omega, by omega, rfl, S0, rfl⟩
  case round =>
    clear S0
    obtain ⟨i, dk, rfl, hin, hkx, hds, S1, HE⟩ := hrel
    by_cases hlt : i < n
    · have hltz : (i : Int) < (n : Int) := by omega
      go_wp2_with fail
      obtain ⟨iN, hiN⟩ : ∃ q, q = a + i := ⟨_, rfl⟩
      obtain ⟨jN, hjN⟩ : ∃ q, q = b + i := ⟨_, rfl⟩
      have ea : ((a : Int) + (i : Int)).toNat = iN := by omega
      have pa : (0 : Int) ≤ (a : Int) + (i : Int) := by omega
      have ba : (a : Int) + (i : Int) < (L : Int) := by omega
      have ra : IntKind.i64.wrap ((a : Int) + (i : Int)) = (a : Int) + (i : Int) := by rw [IntKind.wrap_i64]; omega
      have ec : ((b : Int) + (i : Int)).toNat = jN := by omega
      have pc : (0 : Int) ≤ (b : Int) + (i : Int) := by omega
      have bc : (b : Int) + (i : Int) < (L : Int) := by omega
      have rc : IntKind.i64.wrap ((b : Int) + (i : Int)) = (b : Int) + (i : Int) := by rw [IntKind.wrap_i64]; omega
      obtain ⟨x, hx⟩ : ∃ x, x = dk[a + i]! := ⟨_, rfl⟩
      obtain ⟨y, hy⟩ : ∃ x, x = dk[b + i]! := ⟨_, rfl⟩
      have S2 : Aside (SW enc w0 blk off (swp dk (a + i) (b + i)) ((wr.setCell ⟨blk, off + iN, none⟩ (enc y)).setCell ⟨blk, off + jN, none⟩ (enc x)).drew) := by rw [hiN, hjN, hx, hy]; exact S1.out.swapped R (a + i) (b + i) (by omega) (by omega)
      have ca := S1.out.c1 R (by omega) (a + i) (by omega)
      have cc := S1.out.c1 R (by omega) (b + i) (by omega)
      have fa := S1.out.f1 R (by omega) (a + i) (by omega)
      have fb := S1.out.f1 R (by omega) (b + i) (by omega)
      obtain ⟨u, cu⟩ := S1.out.c2 R (by omega) (a + i) (b + i) (by omega) (by omega) (enc y)
      rw [← hjN, ← hiN] at cu
      rw [← hx, ← hiN] at ca
      rw [← hy, ← hjN] at cc
      rw [← hiN] at fa
      rw [← hjN] at fb
      clear S1 hx hy hiN hjN
      go_wp2_with fail
      go_big_region_o
      clear ca cc cu fa fb
      generalize ((wr.setCell ⟨blk, off + iN, none⟩ (enc y)).setCell ⟨blk, off + jN, none⟩ (enc x)).drew = w2 at S2 ⊢
      clear ea ec
      go_wp2
      go_roundg (n - (i + 1))
      case measure => omega
      case rel => exact ⟨i + 1, swp dk (a + i) (b + i), by go_num, by omega, Nat.le_refl _, by rw [size_swp]; exact hds, S2, (show Hid _ from by show _ = _; rw [HE.out]; rfl)⟩
    · have e : i = n := by omega
      subst e
      have hltz : ¬ (i : Int) < (i : Int) := by omega
      go_wp2
      go_end0
      exact ⟨rfl, by rw [← HE.out]; exact S1.out⟩
set_option maxHeartbeats 4000000 in
set_option maxRecDepth 1000000 in
theorem rotate_any (enc : α → Value) (g : Nat) (cb : Array Value) (blk off L cap a m b : Nat) (d0 d : Array α) (w0 w : World) (R : Row1 enc w0 blk off d0) (hs : d0.size = d.size) (hL : d.size = L) (S : SW enc w0 blk off d w) (ham : a < m) (hmb : m < b) (hb : b ≤ d.size) (hsz : d.size < 4611686018427387904) :
    Calls Tryd.prog 81 #[.slice (some ⟨blk, off, none⟩) L cap, .int .i64 a, .int .i64 m, .int .i64 b, .func (.func g) #[] cb] w fun e w' => e = .returned (.tuple #[]) ∧ ∃ d', Rot a m b d d' ∧ SW enc w0 blk off d' w' := by
  have S0 : Aside (SW enc w0 blk off d w) := S
  have HR : Hid (Row1 enc w0 blk off d0) := R
  have CS : Aside (∀ (a b n : Nat) (dk : Array α) (w : World), dk.size = L → SW enc w0 blk off dk w → a + n ≤ b → b + n ≤ L → Calls Tryd.prog 84 #[.slice (some ⟨blk, off, none⟩) L cap, .int .i64 a, .int .i64 b, .int .i64 n, .func (.func g) #[] cb] w fun e w' => e = .returned (.tuple #[]) ∧ SW enc w0 blk off (swaps a b n dk) w') := fun a b n dk w h1 h2 h3 h4 => swapRange_any enc g cb blk off L cap a b n d0 dk w0 w R (by omega) h1 h2 h3 (by omega) (by omega)
  clear S R
  have r1 : IntKind.i64.wrap ((m : Int) - (a : Int)) = (m : Int) - (a : Int) := by rw [IntKind.wrap_i64]; omega
  have r2 : IntKind.i64.wrap ((b : Int) - (m : Int)) = (b : Int) - (m : Int) := by rw [IntKind.wrap_i64]; omega
  go_enter Tryd.func81, Tryd.ntmps81
  go_wp2
  clear r1 r2
  go_loopg [10, 11] (b - a) (fun kx s10 s11 wr => ∃ (i j : Nat) (dk : Array α), s10 = .int .i64 i ∧ s11 = .int .i64 j ∧ 0 < i ∧ i ≤ m ∧ 0 < j ∧ m + j ≤ L ∧ i + j ≤ kx ∧ dk.size = d.size ∧ Aside (SW enc w0 blk off dk wr) ∧ Hid (∀ d', Rot (m - i) m (m + j) dk d' → Rot a m b d d'))
  case atStart =>
    refine ⟨m - a, b - m, d, by congr 1; omega, by congr 1; omega, by omega, by omega, by omega, by omega, by omega, rfl, S0, fun d' h => ?_⟩
    rw [show m - (m - a) = a by omega, show m + (b - m) = b by omega] at h
    exact h
  case round =>
    clear S0
    obtain ⟨i, j, dk, rfl, rfl, hi0, him, hj0, hjm, hkx, hds, S1, HE⟩ := hrel
    have rm : IntKind.i64.wrap ((m : Int) - (i : Int)) = ((m - i : Nat) : Int) := by rw [IntKind.wrap_i64]; omega
    by_cases hij : i = j
    · subst hij
      have HE' : Hid (Rot a m b d (swaps (m - i) m i dk)) := HE.out _ (rot_even him (by omega))
      have hd : decide ((i : Int) ≠ (i : Int)) = false := decide_eq_false fun h => h rfl
      go_wp2_with (go_at_call 84; refine (CS.out (m - i) m i dk _ (by omega) S1.out (by omega) (by omega)).mono ?_; rintro e w2 ⟨rfl, hS⟩)
      go_end0
      exact ⟨rfl, _, HE'.out, hS⟩
    · have hne : (i : Int) ≠ (j : Int) := by omega
      have hd : decide ((i : Int) ≠ (j : Int)) = true := decide_eq_true hne
      by_cases hgt : j < i
      · have hg : decide ((i : Int) > (j : Int)) = true := decide_eq_true (by omega)
        have hg' : (j : Int) < (i : Int) := by omega
        have ri : IntKind.i64.wrap ((i : Int) - (j : Int)) = ((i - j : Nat) : Int) := by rw [IntKind.wrap_i64]; omega
        go_wp2_with (go_at_call 84; refine (CS.out (m - i) m j dk _ (by omega) S1.out (by omega) (by omega)).mono ?_; rintro e w2 ⟨rfl, hS⟩)
        go_roundg (i - j + j)
        case measure => omega
        case rel => exact ⟨i - j, j, swaps (m - i) m j dk, rfl, rfl, by omega, by omega, hj0, hjm, by omega, by rw [size_swaps]; exact hds, hS, fun d' h => HE.out d' (rot_left him hgt (by omega) h)⟩
      · have hg : decide ((i : Int) > (j : Int)) = false := decide_eq_false (by omega)
        have hg' : ¬ (j : Int) < (i : Int) := by omega
        have ri : IntKind.i64.wrap ((j : Int) - (i : Int)) = ((j - i : Nat) : Int) := by rw [IntKind.wrap_i64]; omega
        have r3 : IntKind.i64.wrap ((m : Int) + (j : Int)) = (m : Int) + (j : Int) := by rw [IntKind.wrap_i64]; omega
        have r4 : IntKind.i64.wrap ((m : Int) + (j : Int) - (i : Int)) = ((m + j - i : Nat) : Int) := by rw [IntKind.wrap_i64]; omega
        go_wp2_with (go_at_call 84; refine (CS.out (m - i) (m + j - i) i dk _ (by omega) S1.out (by omega) (by omega)).mono ?_; rintro e w2 ⟨rfl, hS⟩)
        go_roundg (i + (j - i))
        case measure => omega
        case rel => exact ⟨i, j - i, swaps (m - i) (m + j - i) i dk, rfl, rfl, hi0, him, by omega, by omega, by omega, by rw [size_swaps]; exact hds, hS, fun d' h => HE.out d' (rot_right him (by omega) (by omega) h)⟩
end Go.Proofs.YtphacinnnepdoaaDoor
/- The walk of slices.symMergeCmpFunc at trees where one place is merged with those behind it. -/
namespace Go.Proofs.YtphacinnnepdoaaDoor
open Go.Shelf Go.RowKit Go.Lib Go.Sort
variable {α : Type} [Inhabited α]
set_option maxHeartbeats 8000000 in
set_option maxRecDepth 1000000 in
theorem symLeft_any (enc : α → Value) (cf : α → α → Int) (Rr : α → α → Prop) (K : Keep (ltOf cf) Rr) (g : Nat) (cb : Array Value) (eg : ∀ args w, (callFunc g args).run Tryd.prog w = .ok (.enter g args) w) (blk off L cap a m b : Nat) (d0 d : Array α) (w0 w : World) (hcmp : CmpLays1 Tryd.prog g cb enc cf blk off d0.size w0) (R : Row1 enc w0 blk off d0) (hs : d0.size = d.size) (hL : d.size = L) (S : SW enc w0 blk off d w) (ham : m = a + 1) (hmb : m < b) (hb : b ≤ d.size) (hsz : d.size < 1000000000) (h2 : Ris Rr m b d) (hx : Ahead (ltOf cf) Rr a m b d) :
    Calls Tryd.prog 73 #[.slice (some ⟨blk, off, none⟩) L cap, .int .i64 a, .int .i64 m, .int .i64 b, .func (.func g) #[] cb] w fun e w' => e = .returned (.tuple #[]) ∧ ∃ d', Merged Rr a b d d' ∧ SW enc w0 blk off d' w' := by
  have mixed : Tryd.prog.follows .mixedOrders = true := by kernel_rfl
  have hcl0 := R.hO.cells
  simp only [Value.cells] at hcl0
  have hst := R.hO.store Tryd.prog
  have HC : Aside _ := hcmp
  have HM : Hid (∀ i d', i ≤ b → Rot a m i d d' → (i = b ∨ ltOf cf d[i]! d[a]! = false) → (i = m ∨ ltOf cf d[i - 1]! d[a]! = true) → Merged Rr a b d d') := fun i d' hi hr hlo hhi => one_left K ham h2 hx hb hi hr hlo hhi
  have HAM : Hid (m = a + 1) := ham
  have hm1 : m ≤ a + 1 := Nat.le_of_eq ham
  have hm2 : a + 1 ≤ m := Nat.le_of_eq ham.symm
  clear h2 hx K hcmp ham
  have S0 : Aside (SW enc w0 blk off d w) := S
  clear S
  have e0 : IntKind.i64.wrap ((m : Int) - (a : Int)) = 1 := by rw [IntKind.wrap_i64]; omega
  go_enter Tryd.func73, Tryd.ntmps73
  go_wp2
  clear e0
  go_loopg [10, 11] (b - m) (fun kx s10 s11 wr => ∃ (i j : Nat), s10 = .int .i64 i ∧ s11 = .int .i64 j ∧ m ≤ i ∧ i ≤ j ∧ j ≤ b ∧ j - i ≤ kx ∧ Aside (SW enc w0 blk off d wr) ∧ Hid (i = m ∨ ltOf cf d[i - 1]! d[a]! = true) ∧ Hid (j = b ∨ ltOf cf d[j]! d[a]! = false))
  case atStart => exact ⟨m, b, rfl, rfl, by omega, by omega, by omega, by omega, S0, Or.inl rfl, Or.inl rfl⟩
  case round =>
    clear S0
    obtain ⟨i, j, rfl, rfl, hmi, hij, hjb, hkx, S1, H1, H2⟩ := hrel
    by_cases hlt : i < j
    · have hltz : (i : Int) < (j : Int) := by omega
      have rs : IntKind.i64.wrap ((i : Int) + (j : Int)) = (i : Int) + (j : Int) := by rw [IntKind.wrap_i64]; omega
      go_wp2_with fail
      obtain ⟨h, hh1, hh2, eh⟩ : ∃ h : Nat, i ≤ h ∧ h < j ∧ ((i : Int) + (j : Int)) / 2 = (h : Int) := ⟨(i + j) / 2, by omega, by omega, by omega⟩
      simp only [eh]
      clear eh rs
      cases hlv : ltOf cf d[h]! d[a]! with
      | true =>
        obtain ⟨iNp, hiNp⟩ : ∃ q, q = h := ⟨_, rfl⟩
        obtain ⟨jNp, hjNp⟩ : ∃ q, q = a := ⟨_, rfl⟩
        have eap : ((h : Int)).toNat = iNp := by omega
        have pap : (0 : Int) ≤ (h : Int) := by omega
        have bap : (h : Int) < (L : Int) := by omega
        have rap : IntKind.i64.wrap ((h : Int)) = (h : Int) := by rw [IntKind.wrap_i64]; omega
        have ecp : ((a : Int)).toNat = jNp := by omega
        have pcp : (0 : Int) ≤ (a : Int) := by omega
        have bcp : (a : Int) < (L : Int) := by omega
        obtain ⟨xp, hxp⟩ : ∃ x, x = d[h]! := ⟨_, rfl⟩
        obtain ⟨yp, hyp⟩ : ∃ x, x = d[a]! := ⟨_, rfl⟩
        have lap := S1.out.cl R (by omega) (h) (by omega)
        have lbp := S1.out.cl R (by omega) (a) (by omega)
        rw [← hxp, ← hiNp] at lap
        rw [← hyp, ← hjNp] at lbp
        have hcp := S1.out.cmp HC.out (by omega) xp yp
        have hvp : cf xp yp < 0 := by rw [hxp, hyp]; exact of_decide_eq_true hlv
        have hdp : decide (cf xp yp < 0) = true := decide_eq_true hvp
        clear hxp hyp hiNp hjNp
        go_quiet_grown (first | (go_at_fn g; refine Calls.grown_of (hcp _ _)))
        have S2 : Aside (SW enc w0 blk off d (grow (wr.drewN nq) osq)) := S1.out.grown nq osq
        clear lap lbp hcp S1
        generalize grow (wr.drewN nq) osq = wp at S2 ⊢
        clear nq osq
        clear eap ecp
        go_wp2
        go_roundg (j - (h + 1))
        case measure => omega
        case rel => exact ⟨h + 1, j, by first | rfl | go_num, rfl, by omega, by omega, hjb, Nat.le_refl _, S2, Or.inr hlv, H2⟩
      | false =>
        obtain ⟨iNp, hiNp⟩ : ∃ q, q = h := ⟨_, rfl⟩
        obtain ⟨jNp, hjNp⟩ : ∃ q, q = a := ⟨_, rfl⟩
        have eap : ((h : Int)).toNat = iNp := by omega
        have pap : (0 : Int) ≤ (h : Int) := by omega
        have bap : (h : Int) < (L : Int) := by omega
        have rap : IntKind.i64.wrap ((h : Int)) = (h : Int) := by rw [IntKind.wrap_i64]; omega
        have ecp : ((a : Int)).toNat = jNp := by omega
        have pcp : (0 : Int) ≤ (a : Int) := by omega
        have bcp : (a : Int) < (L : Int) := by omega
        obtain ⟨xp, hxp⟩ : ∃ x, x = d[h]! := ⟨_, rfl⟩
        obtain ⟨yp, hyp⟩ : ∃ x, x = d[a]! := ⟨_, rfl⟩
        have lap := S1.out.cl R (by omega) (h) (by omega)
        have lbp := S1.out.cl R (by omega) (a) (by omega)
        rw [← hxp, ← hiNp] at lap
        rw [← hyp, ← hjNp] at lbp
        have hcp := S1.out.cmp HC.out (by omega) xp yp
        have hvp : ¬ cf xp yp < 0 := by rw [hxp, hyp]; exact of_decide_eq_false hlv
        have hdp : decide (cf xp yp < 0) = false := decide_eq_false hvp
        clear hxp hyp hiNp hjNp
        go_quiet_grown (first | (go_at_fn g; refine Calls.grown_of (hcp _ _)))
        have S2 : Aside (SW enc w0 blk off d (grow (wr.drewN nq) osq)) := S1.out.grown nq osq
        clear lap lbp hcp S1
        generalize grow (wr.drewN nq) osq = wp at S2 ⊢
        clear nq osq
        clear eap ecp
        go_wp2
        go_roundg (h - i)
        case measure => omega
        case rel => exact ⟨i, h, rfl, by first | rfl | go_num, hmi, by omega, by omega, Nat.le_refl _, S2, H1, Or.inr hlv⟩
    · have e : j = i := by omega
      subst e
      have hltz : ¬ (j : Int) < (j : Int) := by omega
      have HM2 : Hid (∀ d', Rot a m j d d' → Merged Rr a b d d') := fun d' h => HM.out j d' hjb h H2.out H1.out
      clear HM H1 H2 HC
      have r0 : IntKind.i64.wrap ((j : Int) - 1) = (j : Int) - 1 := by rw [IntKind.wrap_i64]; omega
      go_wp2
      go_loopg [13] (j - 1 - a) (fun kx s13 wr => ∃ (k : Nat) (dk : Array α), s13 = .int .i64 k ∧ a ≤ k ∧ k ≤ j - 1 ∧ j - 1 - k ≤ kx ∧ dk.size = d.size ∧ Aside (SW enc w0 blk off dk wr) ∧ Hid (Rot a (a + 1) (a + 1 + (k - a)) d dk))
      case atStart => exact ⟨a, d, rfl, Nat.le_refl _, by omega, Nat.le_refl _, rfl, S1, Rot.none (by omega) (by omega) (by omega) (Or.inr (by omega))⟩
      case round =>
        clear S1
        obtain ⟨k, dk, rfl, hak, hkj, hkx2, hds, S2, HE⟩ := hrel
        by_cases hk : k < j - 1
        · have hkz : (k : Int) < (j : Int) - 1 := by omega
          go_wp2_with fail
          obtain ⟨iNq, hiNq⟩ : ∃ q, q = k := ⟨_, rfl⟩
          obtain ⟨jNq, hjNq⟩ : ∃ q, q = k + 1 := ⟨_, rfl⟩
          have eaq : ((k : Int)).toNat = iNq := by omega
          have paq : (0 : Int) ≤ (k : Int) := by omega
          have baq : (k : Int) < (L : Int) := by omega
          have raq : IntKind.i64.wrap ((k : Int)) = (k : Int) := by rw [IntKind.wrap_i64]; omega
          have ecq : ((k : Int) + 1).toNat = jNq := by omega
          have pcq : (0 : Int) ≤ (k : Int) + 1 := by omega
          have bcq : (k : Int) + 1 < (L : Int) := by omega
          have rcq : IntKind.i64.wrap ((k : Int) + 1) = (k : Int) + 1 := by rw [IntKind.wrap_i64]; omega
          obtain ⟨xq, hxq⟩ : ∃ x, x = dk[k]! := ⟨_, rfl⟩
          obtain ⟨yq, hyq⟩ : ∃ x, x = dk[k + 1]! := ⟨_, rfl⟩
          have S3 : Aside (SW enc w0 blk off (swp dk (k) (k + 1)) ((wr.setCell ⟨blk, off + iNq, none⟩ (enc yq)).setCell ⟨blk, off + jNq, none⟩ (enc xq)).drew) := by rw [hiNq, hjNq, hxq, hyq]; exact S2.out.swapped R (k) (k + 1) (by omega) (by omega)
          have caq := S2.out.c1 R (by omega) (k) (by omega)
          have ccq := S2.out.c1 R (by omega) (k + 1) (by omega)
          have faq := S2.out.f1 R (by omega) (k) (by omega)
          have fbq := S2.out.f1 R (by omega) (k + 1) (by omega)
          obtain ⟨uq, cuq⟩ := S2.out.c2 R (by omega) (k) (k + 1) (by omega) (by omega) (enc yq)
          rw [← hjNq, ← hiNq] at cuq
          rw [← hxq, ← hiNq] at caq
          rw [← hyq, ← hjNq] at ccq
          rw [← hiNq] at faq
          rw [← hjNq] at fbq
          clear S2 hxq hyq hiNq hjNq
          go_wp2_with fail
          go_big_region_o
          clear caq ccq cuq faq fbq
          generalize ((wr.setCell ⟨blk, off + iNq, none⟩ (enc yq)).setCell ⟨blk, off + jNq, none⟩ (enc xq)).drew = wq at S3 ⊢
          clear eaq ecq
          go_wp2
          go_roundg (j - 1 - (k + 1))
          case measure => omega
          case rel =>
            refine ⟨k + 1, swp dk k (k + 1), by go_num, by omega, by omega, Nat.le_refl _, by rw [size_swp]; exact hds, S3, ?_⟩
            show Rot _ _ _ _ _
            have := rot_up (by omega) HE.out
            rw [show a + (k - a) = k by omega] at this
            rw [show k + 1 - a = k - a + 1 by omega]
            exact this
        · have hkz : ¬ (k : Int) < (j : Int) - 1 := by omega
          have ek : a + 1 + (k - a) = j := by omega
          go_wp2
          (try simp only [Exit.inBlock, Exit.then]); refine bodyPost_ret (results_none rfl _ _ _) rfl ?_
          refine ⟨rfl, dk, HM2.out dk ?_, S2.out⟩
          have := HE.out
          rw [ek] at this
          rw [HAM.out]
          exact this
end Go.Proofs.YtphacinnnepdoaaDoor
/- The walk of slices.symMergeCmpFunc at trees where those of one piece are merged with one place behind them. -/
namespace Go.Proofs.YtphacinnnepdoaaDoor
open Go.Shelf Go.RowKit Go.Lib Go.Sort
variable {α : Type} [Inhabited α]
set_option maxHeartbeats 8000000 in
set_option maxRecDepth 1000000 in
theorem symRight_any (enc : α → Value) (cf : α → α → Int) (Rr : α → α → Prop) (K : Keep (ltOf cf) Rr) (g : Nat) (cb : Array Value) (eg : ∀ args w, (callFunc g args).run Tryd.prog w = .ok (.enter g args) w) (blk off L cap a m b : Nat) (d0 d : Array α) (w0 w : World) (hcmp : CmpLays1 Tryd.prog g cb enc cf blk off d0.size w0) (R : Row1 enc w0 blk off d0) (hs : d0.size = d.size) (hL : d.size = L) (S : SW enc w0 blk off d w) (ham : a < m) (ham1 : m ≠ a + 1) (hmb : b = m + 1) (hb : b ≤ d.size) (hsz : d.size < 1000000000) (h1 : Ris Rr a m d) (hx : Ahead (ltOf cf) Rr a m b d) :
    Calls Tryd.prog 73 #[.slice (some ⟨blk, off, none⟩) L cap, .int .i64 a, .int .i64 m, .int .i64 b, .func (.func g) #[] cb] w fun e w' => e = .returned (.tuple #[]) ∧ ∃ d', Merged Rr a b d d' ∧ SW enc w0 blk off d' w' := by
  have mixed : Tryd.prog.follows .mixedOrders = true := by kernel_rfl
  have hcl0 := R.hO.cells
  simp only [Value.cells] at hcl0
  have hst := R.hO.store Tryd.prog
  have HC : Aside _ := hcmp
  have HM : Hid (∀ i d', a ≤ i → Rot i m b d d' → (i = a ∨ ltOf cf d[m]! d[i - 1]! = false) → (i = m ∨ ltOf cf d[m]! d[i]! = true) → Merged Rr a b d d') := fun i d' hi hr hlo hhi => one_right K hmb h1 hx hb hi hr hlo hhi
  have HAM : Hid (b = m + 1) := hmb
  have hm1 : b ≤ m + 1 := Nat.le_of_eq hmb
  have hm2 : m + 1 ≤ b := Nat.le_of_eq hmb.symm
  clear h1 hx K hcmp hmb
  have S0 : Aside (SW enc w0 blk off d w) := S
  clear S
  have e0 : IntKind.i64.wrap ((m : Int) - (a : Int)) = (m : Int) - (a : Int) := by rw [IntKind.wrap_i64]; omega
  have e1 : ((m : Int) - (a : Int) == 1) = false := by rw [beq_eq_false_iff_ne]; omega
  have e1' : ¬ ((m : Int) - (a : Int) = 1) := by omega
  have e2 : IntKind.i64.wrap ((b : Int) - (m : Int)) = 1 := by rw [IntKind.wrap_i64]; omega
  go_enter Tryd.func73, Tryd.ntmps73
  go_wp2
  clear e0 e1 e2
  go_loopg [14, 15] (m - a) (fun kx s10 s11 wr => ∃ (i j : Nat), s10 = .int .i64 i ∧ s11 = .int .i64 j ∧ a ≤ i ∧ i ≤ j ∧ j ≤ m ∧ j - i ≤ kx ∧ Aside (SW enc w0 blk off d wr) ∧ Hid (i = a ∨ ltOf cf d[m]! d[i - 1]! = false) ∧ Hid (j = m ∨ ltOf cf d[m]! d[j]! = true))
  case atStart => exact ⟨a, m, rfl, rfl, by omega, by omega, by omega, by omega, S0, Or.inl rfl, Or.inl rfl⟩
  case round =>
    clear S0
    obtain ⟨i, j, rfl, rfl, hmi, hij, hjb, hkx, S1, H1, H2⟩ := hrel
    by_cases hlt : i < j
    · have hltz : (i : Int) < (j : Int) := by omega
      have rs : IntKind.i64.wrap ((i : Int) + (j : Int)) = (i : Int) + (j : Int) := by rw [IntKind.wrap_i64]; omega
      go_wp2_with fail
      obtain ⟨h, hh1, hh2, eh⟩ : ∃ h : Nat, i ≤ h ∧ h < j ∧ ((i : Int) + (j : Int)) / 2 = (h : Int) := ⟨(i + j) / 2, by omega, by omega, by omega⟩
      simp only [eh]
      clear eh rs
      cases hlv : ltOf cf d[m]! d[h]! with
      | false =>
        obtain ⟨iNp, hiNp⟩ : ∃ q, q = m := ⟨_, rfl⟩
        obtain ⟨jNp, hjNp⟩ : ∃ q, q = h := ⟨_, rfl⟩
        have eap : ((m : Int)).toNat = iNp := by omega
        have pap : (0 : Int) ≤ (m : Int) := by omega
        have bap : (m : Int) < (L : Int) := by omega
        have rap : IntKind.i64.wrap ((m : Int)) = (m : Int) := by rw [IntKind.wrap_i64]; omega
        have ecp : ((h : Int)).toNat = jNp := by omega
        have pcp : (0 : Int) ≤ (h : Int) := by omega
        have bcp : (h : Int) < (L : Int) := by omega
        obtain ⟨xp, hxp⟩ : ∃ x, x = d[m]! := ⟨_, rfl⟩
        obtain ⟨yp, hyp⟩ : ∃ x, x = d[h]! := ⟨_, rfl⟩
        have lap := S1.out.cl R (by omega) (m) (by omega)
        have lbp := S1.out.cl R (by omega) (h) (by omega)
        rw [← hxp, ← hiNp] at lap
        rw [← hyp, ← hjNp] at lbp
        have hcp := S1.out.cmp HC.out (by omega) xp yp
        have hvp : ¬ cf xp yp < 0 := by rw [hxp, hyp]; exact of_decide_eq_false hlv
        have hdp : decide (cf xp yp < 0) = false := decide_eq_false hvp
        clear hxp hyp hiNp hjNp
        go_quiet_grown (first | (go_at_fn g; refine Calls.grown_of (hcp _ _)))
        have S2 : Aside (SW enc w0 blk off d (grow (wr.drewN nq) osq)) := S1.out.grown nq osq
        clear lap lbp hcp S1
        generalize grow (wr.drewN nq) osq = wp at S2 ⊢
        clear nq osq
        clear eap ecp
        go_wp2
        go_roundg (j - (h + 1))
        case measure => omega
        case rel => exact ⟨h + 1, j, by first | rfl | go_num, rfl, by omega, by omega, hjb, Nat.le_refl _, S2, Or.inr hlv, H2⟩
      | true =>
        obtain ⟨iNp, hiNp⟩ : ∃ q, q = m := ⟨_, rfl⟩
        obtain ⟨jNp, hjNp⟩ : ∃ q, q = h := ⟨_, rfl⟩
        have eap : ((m : Int)).toNat = iNp := by omega
        have pap : (0 : Int) ≤ (m : Int) := by omega
        have bap : (m : Int) < (L : Int) := by omega
        have rap : IntKind.i64.wrap ((m : Int)) = (m : Int) := by rw [IntKind.wrap_i64]; omega
        have ecp : ((h : Int)).toNat = jNp := by omega
        have pcp : (0 : Int) ≤ (h : Int) := by omega
        have bcp : (h : Int) < (L : Int) := by omega
        obtain ⟨xp, hxp⟩ : ∃ x, x = d[m]! := ⟨_, rfl⟩
        obtain ⟨yp, hyp⟩ : ∃ x, x = d[h]! := ⟨_, rfl⟩
        have lap := S1.out.cl R (by omega) (m) (by omega)
        have lbp := S1.out.cl R (by omega) (h) (by omega)
        rw [← hxp, ← hiNp] at lap
        rw [← hyp, ← hjNp] at lbp
        have hcp := S1.out.cmp HC.out (by omega) xp yp
        have hvp : cf xp yp < 0 := by rw [hxp, hyp]; exact of_decide_eq_true hlv
        have hdp : decide (cf xp yp < 0) = true := decide_eq_true hvp
        clear hxp hyp hiNp hjNp
        go_quiet_grown (first | (go_at_fn g; refine Calls.grown_of (hcp _ _)))
        have S2 : Aside (SW enc w0 blk off d (grow (wr.drewN nq) osq)) := S1.out.grown nq osq
        clear lap lbp hcp S1
        generalize grow (wr.drewN nq) osq = wp at S2 ⊢
        clear nq osq
        clear eap ecp
        go_wp2
        go_roundg (h - i)
        case measure => omega
        case rel => exact ⟨i, h, rfl, by first | rfl | go_num, hmi, by omega, by omega, Nat.le_refl _, S2, H1, Or.inr hlv⟩
    · have e : j = i := by omega
      subst e
      have hltz : ¬ (j : Int) < (j : Int) := by omega
      have HM2 : Hid (∀ d', Rot j m b d d' → Merged Rr a b d d') := fun d' h => HM.out j d' hmi h H1.out H2.out
      clear HM H1 H2 HC
      go_wp2
      go_loopg [17] (m - j) (fun kx s13 wr => ∃ (k : Nat) (dk : Array α), s13 = .int .i64 k ∧ j ≤ k ∧ k ≤ m ∧ k - j ≤ kx ∧ dk.size = d.size ∧ Aside (SW enc w0 blk off dk wr) ∧ Hid (Rot k m (m + 1) d dk))
      case atStart => exact ⟨m, d, rfl, by omega, by omega, Nat.le_refl _, rfl, S1, Rot.none (by omega) (by omega) (by omega) (Or.inl rfl)⟩
      case round =>
        clear S1
        obtain ⟨k, dk, rfl, hak, hkj, hkx2, hds, S2, HE⟩ := hrel
        by_cases hk : j < k
        · have hkz : (j : Int) < (k : Int) := by omega
          obtain ⟨kp, rfl⟩ : ∃ q, k = q + 1 := ⟨k - 1, by omega⟩
          have hkz2 : (j : Int) < (kp : Int) + 1 := by omega
          have rk : IntKind.i64.wrap ((kp : Int) + 1 - 1) = (kp : Int) := by rw [IntKind.wrap_i64]; omega
          go_wp2_with fail
          obtain ⟨iNq, hiNq⟩ : ∃ q, q = kp + 1 := ⟨_, rfl⟩
          obtain ⟨jNq, hjNq⟩ : ∃ q, q = kp := ⟨_, rfl⟩
          have eaq : ((kp : Int) + 1).toNat = iNq := by omega
          have paq : (0 : Int) ≤ (kp : Int) + 1 := by omega
          have baq : (kp : Int) + 1 < (L : Int) := by omega
          have raq : IntKind.i64.wrap ((kp : Int) + 1) = (kp : Int) + 1 := by rw [IntKind.wrap_i64]; omega
          have ecq : ((kp : Int)).toNat = jNq := by omega
          have pcq : (0 : Int) ≤ (kp : Int) := by omega
          have bcq : (kp : Int) < (L : Int) := by omega
          have rcq : IntKind.i64.wrap ((kp : Int)) = (kp : Int) := by rw [IntKind.wrap_i64]; omega
          obtain ⟨xq, hxq⟩ : ∃ x, x = dk[kp + 1]! := ⟨_, rfl⟩
          obtain ⟨yq, hyq⟩ : ∃ x, x = dk[kp]! := ⟨_, rfl⟩
          have S3 : Aside (SW enc w0 blk off (swp dk (kp + 1) (kp)) ((wr.setCell ⟨blk, off + iNq, none⟩ (enc yq)).setCell ⟨blk, off + jNq, none⟩ (enc xq)).drew) := by rw [hiNq, hjNq, hxq, hyq]; exact S2.out.swapped R (kp + 1) (kp) (by omega) (by omega)
          have caq := S2.out.c1 R (by omega) (kp + 1) (by omega)
          have ccq := S2.out.c1 R (by omega) (kp) (by omega)
          have faq := S2.out.f1 R (by omega) (kp + 1) (by omega)
          have fbq := S2.out.f1 R (by omega) (kp) (by omega)
          obtain ⟨uq, cuq⟩ := S2.out.c2 R (by omega) (kp + 1) (kp) (by omega) (by omega) (enc yq)
          rw [← hiNq, ← hjNq] at cuq
          rw [← hxq, ← hiNq] at caq
          rw [← hyq, ← hjNq] at ccq
          rw [← hiNq] at faq
          rw [← hjNq] at fbq
          clear S2 hxq hyq hiNq hjNq
          go_wp2_with fail
          go_big_region_o
          clear caq ccq cuq faq fbq
          generalize ((wr.setCell ⟨blk, off + iNq, none⟩ (enc yq)).setCell ⟨blk, off + jNq, none⟩ (enc xq)).drew = wq at S3 ⊢
          clear eaq ecq
          go_wp2
          go_roundg (kp - j)
          case measure => omega
          case rel => exact ⟨kp, swp dk (kp + 1) kp, by first | rfl | go_num, by omega, by omega, Nat.le_refl _, by rw [size_swp]; exact hds, S3, rot_down (by omega) (by omega) HE.out⟩
        · have hkz : ¬ (j : Int) < (k : Int) := by omega
          have ek : k = j := by omega
          go_wp2
          (try simp only [Exit.inBlock, Exit.then]); refine bodyPost_ret (results_none rfl _ _ _) rfl ?_
          refine ⟨rfl, dk, HM2.out dk ?_, S2.out⟩
          have := HE.out
          rw [ek, ← HAM.out] at this
          exact this
end Go.Proofs.YtphacinnnepdoaaDoor
/- Plain: a merge that exchanges two pieces and merges both sides (slices.SortStableFunc). -/
namespace Go.Proofs.YtphacinnnepdoaaDoor
open Go.Sort
variable {α : Type} [Inhabited α] {lt : α → α → Bool} {R : α → α → Prop}
theorem mid_left {a s mid e b : Nat} {d : Array α} (M : Mid lt R a s mid e b d) (h1 : a ≤ s) (h2 : s ≤ mid) (h : ¬ (a < s ∧ s < mid)) : Ris R a mid d := by
  by_cases e1 : s = a
  · subst e1; exact M.r2
  · have e2 : s = mid := by omega
    subst e2; exact M.r1
theorem mid_right {a s mid e b : Nat} {d d2 : Array α} (M : Mid lt R a s mid e b d) (h1 : mid ≤ e) (h2 : e ≤ b) (hp : PermIn a mid d d2) (h : ¬ (mid < e ∧ e < b)) : Ris R mid b d2 := by
  refine Ris.other ?_ hp (Or.inr (Nat.le_refl _))
  by_cases e1 : e = mid
  · subst e1; exact M.r4
  · have e2 : e = b := by omega
    subst e2; exact M.r3
theorem mid_ahead {a s mid e b : Nat} {d d2 : Array α} (M : Mid lt R a s mid e b d) (h1 : mid ≤ e) (hp : PermIn a mid d d2) : Ris R mid e d2 ∧ Ris R e b d2 ∧ Ahead lt R mid e b d2 := by
  refine ⟨M.r3.other hp (Or.inr (Nat.le_refl _)), M.r4.other hp (Or.inr h1), fun i j hi hi2 hj hj2 => ?_⟩
  rw [hp.2.1 i (by omega), hp.2.1 j (by omega)]
  exact M.a2 i j hi hi2 hj hj2
theorem mid_of (K : Keep lt R) {a m b s e mid n p lo hi : Nat} {d d1 : Array α} (h1 : Ris R a m d) (h2 : Ris R m b d) (hx : Ahead lt R a m b d) (hr : Rot s m e d d1) (hn : n = mid + m) (hp : p + 1 = n) (he : e = n - s) (hm : 2 * mid ≤ a + b ∧ a + b ≤ 2 * mid + 1) (ham : a < m) (hmb : m < b) (hlh : (mid < m ∧ lo = n - b ∧ hi = mid) ∨ (m ≤ mid ∧ lo = a ∧ hi = m)) (hs1 : lo ≤ s) (hs2 : s ≤ hi) (i1 : s = lo ∨ lt d[p - (s - 1)]! d[s - 1]! = false) (i2 : s = hi ∨ lt d[p - s]! d[s]! = true) : Mid lt R a s mid e b d1 := by
  have := rot_mid (s := s) (e := e) K h1 h2 hx hr (by omega) (by omega) ?_ ?_
  · rw [show s + (e - m) = mid by omega] at this
    exact this
  · rcases i1 with h | h
    · exact Or.inl (by omega)
    · by_cases c : s = lo
      · exact Or.inl (by omega)
      · rw [show p - (s - 1) = e by omega] at h
        exact Or.inr h
  · rcases i2 with h | h
    · exact Or.inl (by omega)
    · by_cases c : s = hi
      · exact Or.inl (by omega)
      · rw [show p - s = e - 1 by omega] at h
        exact Or.inr h
end Go.Proofs.YtphacinnnepdoaaDoor
/- The walk of slices.symMergeCmpFunc at trees: two pieces exchanged, both sides merged (the middle lies ahead of the second piece). -/
namespace Go.Proofs.YtphacinnnepdoaaDoor
open Go.Shelf Go.RowKit Go.Lib Go.Sort
variable {α : Type} [Inhabited α]
set_option maxHeartbeats 8000000 in
set_option maxRecDepth 1000000 in
theorem symMidA_any (enc : α → Value) (cf : α → α → Int) (Rr : α → α → Prop) (K : Keep (ltOf cf) Rr) (g : Nat) (cb : Array Value) (eg : ∀ args w, (callFunc g args).run Tryd.prog w = .ok (.enter g args) w) (blk off L cap a m b : Nat) (d0 d : Array α) (w0 w : World) (hcmp : CmpLays1 Tryd.prog g cb enc cf blk off d0.size w0) (R : Row1 enc w0 blk off d0) (hs : d0.size = d.size) (hL : d.size = L) (S : SW enc w0 blk off d w) (NN : Nat) (hNN : b - a ≤ NN) (IH : (∀ (a m b : Nat) (d : Array α) (w : World), b - a < NN → d0.size = d.size → SW enc w0 blk off d w → a < m → m < b → b ≤ d.size → Ris Rr a m d → Ris Rr m b d → Ahead (ltOf cf) Rr a m b d → Calls Tryd.prog 73 #[.slice (some ⟨blk, off, none⟩) L cap, .int .i64 a, .int .i64 m, .int .i64 b, .func (.func g) #[] cb] w fun e w' => e = .returned (.tuple #[]) ∧ ∃ d', Merged Rr a b d d' ∧ SW enc w0 blk off d' w')) (ham : a < m) (ham1 : m ≠ a + 1) (hmb : m < b) (hmb1 : b ≠ m + 1) (mid : Nat) (hmid : 2 * mid ≤ a + b ∧ a + b ≤ 2 * mid + 1) (hcase : mid < m) (hb : b ≤ d.size) (hsz : d.size < 1000000000) (h1 : Ris Rr a m d) (h2 : Ris Rr m b d) (hx : Ahead (ltOf cf) Rr a m b d) :
    Calls Tryd.prog 73 #[.slice (some ⟨blk, off, none⟩) L cap, .int .i64 a, .int .i64 m, .int .i64 b, .func (.func g) #[] cb] w fun e w' => e = .returned (.tuple #[]) ∧ ∃ d', Merged Rr a b d d' ∧ SW enc w0 blk off d' w' := by
  have mixed : Tryd.prog.follows .mixedOrders = true := by kernel_rfl
  have hcl0 := R.hO.cells
  simp only [Value.cells] at hcl0
  have hst := R.hO.store Tryd.prog
  have HC : Aside _ := hcmp
  obtain ⟨n, hn⟩ : ∃ n, n = mid + m := ⟨_, rfl⟩
  obtain ⟨p, hp⟩ : ∃ p, p + 1 = n := ⟨n - 1, by omega⟩
  obtain ⟨lo, hlo⟩ : ∃ x, x = n - b := ⟨_, rfl⟩
  obtain ⟨hi, hhi⟩ : ∃ x, x = mid := ⟨_, rfl⟩
  have HLO : Hid (lo = n - b) := hlo
  have HHI : Hid (hi = mid) := hhi
  have HMo : Hid (∀ s e d1, Rot s m e d d1 → e = n - s → lo ≤ s → s ≤ hi → (s = lo ∨ ltOf cf d[p - (s - 1)]! d[s - 1]! = false) → (s = hi ∨ ltOf cf d[p - s]! d[s]! = true) → Mid (ltOf cf) Rr a s mid e b d1) := fun s e d1 hr he hs1 hs2 i1 i2 => mid_of K h1 h2 hx hr hn hp he hmid ham hmb (Or.inl ⟨hcase, HLO.out, HHI.out⟩) hs1 hs2 i1 i2
  have HIH : Aside _ := IH
  have CR : Aside (∀ (s e : Nat) (w : World), SW enc w0 blk off d w → s < m → m < e → e ≤ d.size → Calls Tryd.prog 81 #[.slice (some ⟨blk, off, none⟩) L cap, .int .i64 s, .int .i64 m, .int .i64 e, .func (.func g) #[] cb] w fun e' w' => e' = .returned (.tuple #[]) ∧ ∃ d', Rot s m e d d' ∧ SW enc w0 blk off d' w') := fun s e w h1 h2 h3 h4 => rotate_any enc g cb blk off L cap s m e d0 d w0 w R hs hL h1 h2 h3 h4 (by omega)
  clear IH h1 h2 hx K hcmp
  have n1 : n ≤ mid + m := Nat.le_of_eq hn
  have n2 : mid + m ≤ n := Nat.le_of_eq hn.symm
  have p1 : p + 1 ≤ n := Nat.le_of_eq hp
  have p2 : n ≤ p + 1 := Nat.le_of_eq hp.symm
  have lo1 : lo ≤ n - b := Nat.le_of_eq hlo
  have lo2 : n - b ≤ lo := Nat.le_of_eq hlo.symm
  have hi1 : hi ≤ mid := Nat.le_of_eq hhi
  have hi2 : mid ≤ hi := Nat.le_of_eq hhi.symm
  have S0 : Aside (SW enc w0 blk off d w) := S
  clear S hn hp hlo hhi
  have e0 : IntKind.i64.wrap ((m : Int) - (a : Int)) = (m : Int) - (a : Int) := by rw [IntKind.wrap_i64]; omega
  have e1 : ((m : Int) - (a : Int) == 1) = false := by rw [beq_eq_false_iff_ne]; omega
  have e1' : ¬ ((m : Int) - (a : Int) = 1) := by omega
  have e2 : IntKind.i64.wrap ((b : Int) - (m : Int)) = (b : Int) - (m : Int) := by rw [IntKind.wrap_i64]; omega
  have e3 : ((b : Int) - (m : Int) == 1) = false := by rw [beq_eq_false_iff_ne]; omega
  have e3' : ¬ ((b : Int) - (m : Int) = 1) := by omega
  have rs : IntKind.i64.wrap ((a : Int) + (b : Int)) = (a : Int) + (b : Int) := by rw [IntKind.wrap_i64]; omega
  go_enter Tryd.func73, Tryd.ntmps73
  go_upto_region 25 with (fail)
  clear e0 e1 e1' e2 e3 e3' rs
  have em : ((a : Int) + (b : Int)) / 2 = (mid : Int) := by omega
  simp only [em]
  clear em
  have rn : IntKind.i64.wrap ((mid : Int) + (m : Int)) = (n : Int) := by rw [IntKind.wrap_i64]; omega
  have rp : IntKind.i64.wrap ((n : Int) - 1) = (p : Int) := by rw [IntKind.wrap_i64]; omega
  have rl : IntKind.i64.wrap ((n : Int) - (b : Int)) = (lo : Int) := by rw [IntKind.wrap_i64]; omega
  have gt : decide ((m : Int) > (mid : Int)) = true := decide_eq_true (by omega)
  have gt2 : (mid : Int) < (m : Int) := by omega
  go_wp2
  clear rn rp gt gt2
  go_loopg [20, 21] (b - a) (fun kx s20 s21 wr => ∃ (i j : Nat), s20 = .int .i64 i ∧ s21 = .int .i64 j ∧ lo ≤ i ∧ i ≤ j ∧ j ≤ hi ∧ j - i ≤ kx ∧ Aside (SW enc w0 blk off d wr) ∧ Hid (i = lo ∨ ltOf cf d[p - (i - 1)]! d[i - 1]! = false) ∧ Hid (j = hi ∨ ltOf cf d[p - j]! d[j]! = true))
  case atStart => exact ⟨lo, hi, by first | rfl | (congr 1; omega), by first | rfl | (congr 1; omega), by omega, by omega, by omega, by omega, S0, Or.inl rfl, Or.inl rfl⟩
  case round =>
    clear S0
    obtain ⟨i, j, rfl, rfl, hmi, hij, hjb, hkx, S1, H1, H2⟩ := hrel
    by_cases hlt : i < j
    · have hltz : (i : Int) < (j : Int) := by omega
      have rs : IntKind.i64.wrap ((i : Int) + (j : Int)) = (i : Int) + (j : Int) := by rw [IntKind.wrap_i64]; omega
      go_wp2_with fail
      obtain ⟨h, hh1, hh2, eh⟩ : ∃ h : Nat, i ≤ h ∧ h < j ∧ ((i : Int) + (j : Int)) / 2 = (h : Int) := ⟨(i + j) / 2, by omega, by omega, by omega⟩
      simp only [eh]
      clear eh rs
      obtain ⟨qn, hq⟩ : ∃ q, q = p - h := ⟨_, rfl⟩
      have HQ : Hid (qn = p - h) := hq
      have q1 : qn ≤ p - h := Nat.le_of_eq hq
      have q2 : p - h ≤ qn := Nat.le_of_eq hq.symm
      clear hq
      have rq : IntKind.i64.wrap ((p : Int) - (h : Int)) = (qn : Int) := by rw [IntKind.wrap_i64]; omega
      cases hlv : ltOf cf d[qn]! d[h]! with
      | false =>
        obtain ⟨iNp, hiNp⟩ : ∃ q, q = qn := ⟨_, rfl⟩
        obtain ⟨jNp, hjNp⟩ : ∃ q, q = h := ⟨_, rfl⟩
        have eap : ((qn : Int)).toNat = iNp := by omega
        have pap : (0 : Int) ≤ (qn : Int) := by omega
        have bap : (qn : Int) < (L : Int) := by omega
        have rap : IntKind.i64.wrap ((qn : Int)) = (qn : Int) := by rw [IntKind.wrap_i64]; omega
        have ecp : ((h : Int)).toNat = jNp := by omega
        have pcp : (0 : Int) ≤ (h : Int) := by omega
        have bcp : (h : Int) < (L : Int) := by omega
        obtain ⟨xp, hxp⟩ : ∃ x, x = d[qn]! := ⟨_, rfl⟩
        obtain ⟨yp, hyp⟩ : ∃ x, x = d[h]! := ⟨_, rfl⟩
        have lap := S1.out.cl R (by omega) (qn) (by omega)
        have lbp := S1.out.cl R (by omega) (h) (by omega)
        rw [← hxp, ← hiNp] at lap
        rw [← hyp, ← hjNp] at lbp
        have hcp := S1.out.cmp HC.out (by omega) xp yp
        have hvp : ¬ cf xp yp < 0 := by rw [hxp, hyp]; exact of_decide_eq_false hlv
        have hdp : decide (cf xp yp < 0) = false := decide_eq_false hvp
        clear hxp hyp hiNp hjNp
        go_quiet_grown (first | (go_at_fn g; refine Calls.grown_of (hcp _ _)))
        have S2 : Aside (SW enc w0 blk off d (grow (wr.drewN nq) osq)) := S1.out.grown nq osq
        clear lap lbp hcp S1
        generalize grow (wr.drewN nq) osq = wp at S2 ⊢
        clear nq osq
        clear eap ecp
        go_wp2
        go_roundg (j - (h + 1))
        case measure => omega
        case rel => exact ⟨h + 1, j, by first | rfl | go_num, rfl, by omega, by omega, hjb, Nat.le_refl _, S2, Or.inr (by rw [HQ.out] at hlv; exact hlv), H2⟩
      | true =>
        obtain ⟨iNp, hiNp⟩ : ∃ q, q = qn := ⟨_, rfl⟩
        obtain ⟨jNp, hjNp⟩ : ∃ q, q = h := ⟨_, rfl⟩
        have eap : ((qn : Int)).toNat = iNp := by omega
        have pap : (0 : Int) ≤ (qn : Int) := by omega
        have bap : (qn : Int) < (L : Int) := by omega
        have rap : IntKind.i64.wrap ((qn : Int)) = (qn : Int) := by rw [IntKind.wrap_i64]; omega
        have ecp : ((h : Int)).toNat = jNp := by omega
        have pcp : (0 : Int) ≤ (h : Int) := by omega
        have bcp : (h : Int) < (L : Int) := by omega
        obtain ⟨xp, hxp⟩ : ∃ x, x = d[qn]! := ⟨_, rfl⟩
        obtain ⟨yp, hyp⟩ : ∃ x, x = d[h]! := ⟨_, rfl⟩
        have lap := S1.out.cl R (by omega) (qn) (by omega)
        have lbp := S1.out.cl R (by omega) (h) (by omega)
        rw [← hxp, ← hiNp] at lap
        rw [← hyp, ← hjNp] at lbp
        have hcp := S1.out.cmp HC.out (by omega) xp yp
        have hvp : cf xp yp < 0 := by rw [hxp, hyp]; exact of_decide_eq_true hlv
        have hdp : decide (cf xp yp < 0) = true := decide_eq_true hvp
        clear hxp hyp hiNp hjNp
        go_quiet_grown (first | (go_at_fn g; refine Calls.grown_of (hcp _ _)))
        have S2 : Aside (SW enc w0 blk off d (grow (wr.drewN nq) osq)) := S1.out.grown nq osq
        clear lap lbp hcp S1
        generalize grow (wr.drewN nq) osq = wp at S2 ⊢
        clear nq osq
        clear eap ecp
        go_wp2
        go_roundg (h - i)
        case measure => omega
        case rel => exact ⟨i, h, rfl, by first | rfl | go_num, hmi, by omega, by omega, Nat.le_refl _, S2, H1, Or.inr (by rw [HQ.out] at hlv; exact hlv)⟩
    · have e : j = i := by omega
      subst e
      have hltz : ¬ (j : Int) < (j : Int) := by omega
      clear HC hcl0 hst mixed
      obtain ⟨ee, hee⟩ : ∃ x, x = n - j := ⟨_, rfl⟩
      have HM2 : Hid (∀ d1, Rot j m ee d d1 → Mid (ltOf cf) Rr a j mid ee b d1) := fun d1 hr => HMo.out j ee d1 hr hee hmi hjb H1.out H2.out
      clear HMo H1 H2
      have re : IntKind.i64.wrap ((n : Int) - (j : Int)) = (ee : Int) := by rw [IntKind.wrap_i64]; omega
      have ee1 : ee ≤ n - j := Nat.le_of_eq hee
      have ee2 : n - j ≤ ee := Nat.le_of_eq hee.symm
      clear hee
      have hje : j ≤ m := by omega
      have hme : m ≤ ee := by omega
      have heb : ee ≤ b := by omega
      have haj : a ≤ j := by omega
      have hjm : j ≤ mid := by omega
      have hmide : mid ≤ ee := by omega
      have hmidb : mid < b := by omega
      have hamid : a < mid := by omega
      clear lo1 lo2 hi1 hi2 hmi hjb HLO HHI n1 n2 p1 p2 ee1 ee2
      go_upto_region 39 with (fail)
      obtain ⟨c39, hc39⟩ : ∃ c : Bool, Hid (c = (decide (j < m) && decide (m < ee))) := ⟨_, rfl⟩
      go_cut [185] from 178 to 185 (fun b W => b = .bool c39 ∧ W = wr)
      case first =>
        by_cases k1 : j < m
        · have k1z : ((j : Nat) : Int) < ((m : Nat) : Int) := by omega
          by_cases k2 : m < ee
          · have k2z : ((m : Nat) : Int) < ((ee : Nat) : Int) := by omega
            go_wp2_with fail
            go_meet
            case rel => exact ⟨by rw [hc39.out, decide_eq_true k1, decide_eq_true k2]; rfl, rfl⟩
          · have k2z : ¬ ((m : Nat) : Int) < ((ee : Nat) : Int) := by omega
            go_wp2_with fail
            go_meet
            case rel => exact ⟨by rw [hc39.out, decide_eq_true k1, decide_eq_false k2]; rfl, rfl⟩
        · have k1z : ¬ ((j : Nat) : Int) < ((m : Nat) : Int) := by omega
          go_wp2_with fail
          go_meet
          case rel => exact ⟨by rw [hc39.out, decide_eq_false k1]; rfl, rfl⟩
      case rest =>
        obtain ⟨rfl, rfl⟩ := hcut
        go_upto_if 185 with (fail)
        go_cut [191] from 185 to 191 (fun _ W => ∃ d1 : Array α, Hid (Rot j m ee d d1) ∧ Aside (SW enc w0 blk off d1 W))
        case first =>
          cases hcc : c39 with
          | true =>
            have k := hc39.out.symm.trans hcc
            rw [Bool.and_eq_true] at k
            have k1 := of_decide_eq_true k.1
            have k2 := of_decide_eq_true k.2
            clear k
            go_wp2_with (go_at_call 81; refine (CR.out j ee _ S1.out k1 k2 (by omega)).mono ?_; rintro e w2 ⟨rfl, d1, hrot, hS1⟩)
            go_meet
            case rel => exact ⟨d1, hrot, hS1⟩
          | false =>
            have k : ¬ (j < m ∧ m < ee) := fun h => by
              have := hc39.out.symm.trans hcc
              rw [decide_eq_true h.1, decide_eq_true h.2] at this
              cases this
            go_wp2_with fail
            go_meet
            case rel => exact ⟨d, Rot.none hje hme (by omega) (by omega), S1⟩
        case rest =>
          clear hc39
          obtain ⟨d1, HRO, S2⟩ := hcut
          have HMM : Hid (Mid (ltOf cf) Rr a j mid ee b d1) := HM2.out d1 HRO.out
          have hz1 : d1.size = d.size := HRO.out.size
          clear CR HM2 S1
          go_upto_region 41 with (fail)
          obtain ⟨c41, hc41⟩ : ∃ c : Bool, Hid (c = (decide (a < j) && decide (j < mid))) := ⟨_, rfl⟩
          go_cut [199] from 192 to 199 (fun b W => b = .bool c41 ∧ W = wc)
          case first =>
            by_cases k1 : a < j
            · have k1z : ((a : Nat) : Int) < ((j : Nat) : Int) := by omega
              by_cases k2 : j < mid
              · have k2z : ((j : Nat) : Int) < ((mid : Nat) : Int) := by omega
                go_wp2_with fail
                go_meet
                case rel => exact ⟨by rw [hc41.out, decide_eq_true k1, decide_eq_true k2]; rfl, rfl⟩
              · have k2z : ¬ ((j : Nat) : Int) < ((mid : Nat) : Int) := by omega
                go_wp2_with fail
                go_meet
                case rel => exact ⟨by rw [hc41.out, decide_eq_true k1, decide_eq_false k2]; rfl, rfl⟩
            · have k1z : ¬ ((a : Nat) : Int) < ((j : Nat) : Int) := by omega
              go_wp2_with fail
              go_meet
              case rel => exact ⟨by rw [hc41.out, decide_eq_false k1]; rfl, rfl⟩
          case rest =>
            obtain ⟨rfl, rfl⟩ := hcut
            go_upto_if 199 with (fail)
            go_cut [205] from 199 to 205 (fun _ W => ∃ d2 : Array α, Hid (Merged Rr a mid d1 d2) ∧ Aside (SW enc w0 blk off d2 W))
            case first =>
              cases hcc : c41 with
              | true =>
                have k := hc41.out.symm.trans hcc
                rw [Bool.and_eq_true] at k
                have k1 := of_decide_eq_true k.1
                have k2 := of_decide_eq_true k.2
                clear k
                go_wp2_with (go_at_call 73; refine (HIH.out a j mid d1 _ (by omega) (by omega) S2.out k1 k2 (by omega) HMM.out.r1 HMM.out.r2 HMM.out.a1).mono ?_; rintro e w2 ⟨rfl, d2, hmg, hS1⟩)
                go_meet
                case rel => exact ⟨d2, hmg, hS1⟩
              | false =>
                have k : ¬ (a < j ∧ j < mid) := fun h => by
                  have := hc41.out.symm.trans hcc
                  rw [decide_eq_true h.1, decide_eq_true h.2] at this
                  cases this
                go_wp2_with fail
                go_meet
                case rel => exact ⟨d1, Merged.none (mid_left HMM.out haj hjm k), S2⟩
            case rest =>
              clear hc41
              obtain ⟨d2, HG1, S3⟩ := hcut
              have hz2 : d2.size = d1.size := HG1.out.1.1
              clear S2
              go_upto_region 43 with (fail)
              obtain ⟨c43, hc43⟩ : ∃ c : Bool, Hid (c = (decide (mid < ee) && decide (ee < b))) := ⟨_, rfl⟩
              go_cut [213] from 206 to 213 (fun b W => b = .bool c43 ∧ W = wc)
              case first =>
                by_cases k1 : mid < ee
                · have k1z : ((mid : Nat) : Int) < ((ee : Nat) : Int) := by omega
                  by_cases k2 : ee < b
                  · have k2z : ((ee : Nat) : Int) < ((b : Nat) : Int) := by omega
                    go_wp2_with fail
                    go_meet
                    case rel => exact ⟨by rw [hc43.out, decide_eq_true k1, decide_eq_true k2]; rfl, rfl⟩
                  · have k2z : ¬ ((ee : Nat) : Int) < ((b : Nat) : Int) := by omega
                    go_wp2_with fail
                    go_meet
                    case rel => exact ⟨by rw [hc43.out, decide_eq_true k1, decide_eq_false k2]; rfl, rfl⟩
                · have k1z : ¬ ((mid : Nat) : Int) < ((ee : Nat) : Int) := by omega
                  go_wp2_with fail
                  go_meet
                  case rel => exact ⟨by rw [hc43.out, decide_eq_false k1]; rfl, rfl⟩
              case rest =>
                obtain ⟨rfl, rfl⟩ := hcut
                go_upto_if 213 with (fail)
                cases hcc : c43 with
                | true =>
                  have k := hc43.out.symm.trans hcc
                  rw [Bool.and_eq_true] at k
                  have k1 := of_decide_eq_true k.1
                  have k2 := of_decide_eq_true k.2
                  clear k
                  go_wp2_with (go_at_call 73; refine (HIH.out mid ee b d2 _ (by omega) (by omega) S3.out k1 k2 (by omega) (mid_ahead HMM.out hmide HG1.out.1).1 (mid_ahead HMM.out hmide HG1.out.1).2.1 (mid_ahead HMM.out hmide HG1.out.1).2.2).mono ?_; rintro e w2 ⟨rfl, d3, hmg, hS1⟩)
                  go_end0
                  exact ⟨rfl, d3, both (PermIn.wide HRO.out.perm haj heb hb) hb (Nat.le_of_lt hamid) (Nat.le_of_lt hmidb) HMM.out.cross HG1.out hmg, hS1⟩
                | false =>
                  have k : ¬ (mid < ee ∧ ee < b) := fun h => by
                    have := hc43.out.symm.trans hcc
                    rw [decide_eq_true h.1, decide_eq_true h.2] at this
                    cases this
                  go_wp2_with fail
                  go_end0
                  exact ⟨rfl, d2, both (PermIn.wide HRO.out.perm haj heb hb) hb (Nat.le_of_lt hamid) (Nat.le_of_lt hmidb) HMM.out.cross HG1.out (Merged.none (mid_right HMM.out hmide heb HG1.out.1 k)), S3.out⟩
end Go.Proofs.YtphacinnnepdoaaDoor
/- The walk of slices.symMergeCmpFunc at trees: two pieces exchanged, both sides merged (the middle lies in the second piece). -/
namespace Go.Proofs.YtphacinnnepdoaaDoor
open Go.Shelf Go.RowKit Go.Lib Go.Sort
variable {α : Type} [Inhabited α]
set_option maxHeartbeats 8000000 in
set_option maxRecDepth 1000000 in
theorem symMidB_any (enc : α → Value) (cf : α → α → Int) (Rr : α → α → Prop) (K : Keep (ltOf cf) Rr) (g : Nat) (cb : Array Value) (eg : ∀ args w, (callFunc g args).run Tryd.prog w = .ok (.enter g args) w) (blk off L cap a m b : Nat) (d0 d : Array α) (w0 w : World) (hcmp : CmpLays1 Tryd.prog g cb enc cf blk off d0.size w0) (R : Row1 enc w0 blk off d0) (hs : d0.size = d.size) (hL : d.size = L) (S : SW enc w0 blk off d w) (NN : Nat) (hNN : b - a ≤ NN) (IH : (∀ (a m b : Nat) (d : Array α) (w : World), b - a < NN → d0.size = d.size → SW enc w0 blk off d w → a < m → m < b → b ≤ d.size → Ris Rr a m d → Ris Rr m b d → Ahead (ltOf cf) Rr a m b d → Calls Tryd.prog 73 #[.slice (some ⟨blk, off, none⟩) L cap, .int .i64 a, .int .i64 m, .int .i64 b, .func (.func g) #[] cb] w fun e w' => e = .returned (.tuple #[]) ∧ ∃ d', Merged Rr a b d d' ∧ SW enc w0 blk off d' w')) (ham : a < m) (ham1 : m ≠ a + 1) (hmb : m < b) (hmb1 : b ≠ m + 1) (mid : Nat) (hmid : 2 * mid ≤ a + b ∧ a + b ≤ 2 * mid + 1) (hcase : m ≤ mid) (hb : b ≤ d.size) (hsz : d.size < 1000000000) (h1 : Ris Rr a m d) (h2 : Ris Rr m b d) (hx : Ahead (ltOf cf) Rr a m b d) :
    Calls Tryd.prog 73 #[.slice (some ⟨blk, off, none⟩) L cap, .int .i64 a, .int .i64 m, .int .i64 b, .func (.func g) #[] cb] w fun e w' => e = .returned (.tuple #[]) ∧ ∃ d', Merged Rr a b d d' ∧ SW enc w0 blk off d' w' := by
  have mixed : Tryd.prog.follows .mixedOrders = true := by kernel_rfl
  have hcl0 := R.hO.cells
  simp only [Value.cells] at hcl0
  have hst := R.hO.store Tryd.prog
  have HC : Aside _ := hcmp
  obtain ⟨n, hn⟩ : ∃ n, n = mid + m := ⟨_, rfl⟩
  obtain ⟨p, hp⟩ : ∃ p, p + 1 = n := ⟨n - 1, by omega⟩
  obtain ⟨lo, hlo⟩ : ∃ x, x = a := ⟨_, rfl⟩
  obtain ⟨hi, hhi⟩ : ∃ x, x = m := ⟨_, rfl⟩
  have HLO : Hid (lo = a) := hlo
  have HHI : Hid (hi = m) := hhi
  have HMo : Hid (∀ s e d1, Rot s m e d d1 → e = n - s → lo ≤ s → s ≤ hi → (s = lo ∨ ltOf cf d[p - (s - 1)]! d[s - 1]! = false) → (s = hi ∨ ltOf cf d[p - s]! d[s]! = true) → Mid (ltOf cf) Rr a s mid e b d1) := fun s e d1 hr he hs1 hs2 i1 i2 => mid_of K h1 h2 hx hr hn hp he hmid ham hmb (Or.inr ⟨hcase, HLO.out, HHI.out⟩) hs1 hs2 i1 i2
  have HIH : Aside _ := IH
  have CR : Aside (∀ (s e : Nat) (w : World), SW enc w0 blk off d w → s < m → m < e → e ≤ d.size → Calls Tryd.prog 81 #[.slice (some ⟨blk, off, none⟩) L cap, .int .i64 s, .int .i64 m, .int .i64 e, .func (.func g) #[] cb] w fun e' w' => e' = .returned (.tuple #[]) ∧ ∃ d', Rot s m e d d' ∧ SW enc w0 blk off d' w') := fun s e w h1 h2 h3 h4 => rotate_any enc g cb blk off L cap s m e d0 d w0 w R hs hL h1 h2 h3 h4 (by omega)
  clear IH h1 h2 hx K hcmp
  have n1 : n ≤ mid + m := Nat.le_of_eq hn
  have n2 : mid + m ≤ n := Nat.le_of_eq hn.symm
  have p1 : p + 1 ≤ n := Nat.le_of_eq hp
  have p2 : n ≤ p + 1 := Nat.le_of_eq hp.symm
  have lo1 : lo ≤ a := Nat.le_of_eq hlo
  have lo2 : a ≤ lo := Nat.le_of_eq hlo.symm
  have hi1 : hi ≤ m := Nat.le_of_eq hhi
  have hi2 : m ≤ hi := Nat.le_of_eq hhi.symm
  have S0 : Aside (SW enc w0 blk off d w) := S
  clear S hn hp hlo hhi
  have e0 : IntKind.i64.wrap ((m : Int) - (a : Int)) = (m : Int) - (a : Int) := by rw [IntKind.wrap_i64]; omega
  have e1 : ((m : Int) - (a : Int) == 1) = false := by rw [beq_eq_false_iff_ne]; omega
  have e1' : ¬ ((m : Int) - (a : Int) = 1) := by omega
  have e2 : IntKind.i64.wrap ((b : Int) - (m : Int)) = (b : Int) - (m : Int) := by rw [IntKind.wrap_i64]; omega
  have e3 : ((b : Int) - (m : Int) == 1) = false := by rw [beq_eq_false_iff_ne]; omega
  have e3' : ¬ ((b : Int) - (m : Int) = 1) := by omega
  have rs : IntKind.i64.wrap ((a : Int) + (b : Int)) = (a : Int) + (b : Int) := by rw [IntKind.wrap_i64]; omega
  go_enter Tryd.func73, Tryd.ntmps73
  go_upto_region 25 with (fail)
  clear e0 e1 e1' e2 e3 e3' rs
  have em : ((a : Int) + (b : Int)) / 2 = (mid : Int) := by omega
  simp only [em]
  clear em
  have rn : IntKind.i64.wrap ((mid : Int) + (m : Int)) = (n : Int) := by rw [IntKind.wrap_i64]; omega
  have rp : IntKind.i64.wrap ((n : Int) - 1) = (p : Int) := by rw [IntKind.wrap_i64]; omega
  have gt : decide ((m : Int) > (mid : Int)) = false := decide_eq_false (by omega)
  have gt2 : ¬ (mid : Int) < (m : Int) := by omega
  go_wp2
  clear rn rp gt gt2
  go_loopg [20, 21] (b - a) (fun kx s20 s21 wr => ∃ (i j : Nat), s20 = .int .i64 i ∧ s21 = .int .i64 j ∧ lo ≤ i ∧ i ≤ j ∧ j ≤ hi ∧ j - i ≤ kx ∧ Aside (SW enc w0 blk off d wr) ∧ Hid (i = lo ∨ ltOf cf d[p - (i - 1)]! d[i - 1]! = false) ∧ Hid (j = hi ∨ ltOf cf d[p - j]! d[j]! = true))
  case atStart => exact ⟨lo, hi, by first | rfl | (congr 1; omega), by first | rfl | (congr 1; omega), by omega, by omega, by omega, by omega, S0, Or.inl rfl, Or.inl rfl⟩
  case round =>
    clear S0
    obtain ⟨i, j, rfl, rfl, hmi, hij, hjb, hkx, S1, H1, H2⟩ := hrel
    by_cases hlt : i < j
    · have hltz : (i : Int) < (j : Int) := by omega
      have rs : IntKind.i64.wrap ((i : Int) + (j : Int)) = (i : Int) + (j : Int) := by rw [IntKind.wrap_i64]; omega
      go_wp2_with fail
      obtain ⟨h, hh1, hh2, eh⟩ : ∃ h : Nat, i ≤ h ∧ h < j ∧ ((i : Int) + (j : Int)) / 2 = (h : Int) := ⟨(i + j) / 2, by omega, by omega, by omega⟩
      simp only [eh]
      clear eh rs
      obtain ⟨qn, hq⟩ : ∃ q, q = p - h := ⟨_, rfl⟩
      have HQ : Hid (qn = p - h) := hq
      have q1 : qn ≤ p - h := Nat.le_of_eq hq
      have q2 : p - h ≤ qn := Nat.le_of_eq hq.symm
      clear hq
      have rq : IntKind.i64.wrap ((p : Int) - (h : Int)) = (qn : Int) := by rw [IntKind.wrap_i64]; omega
      cases hlv : ltOf cf d[qn]! d[h]! with
      | false =>
        obtain ⟨iNp, hiNp⟩ : ∃ q, q = qn := ⟨_, rfl⟩
        obtain ⟨jNp, hjNp⟩ : ∃ q, q = h := ⟨_, rfl⟩
        have eap : ((qn : Int)).toNat = iNp := by omega
        have pap : (0 : Int) ≤ (qn : Int) := by omega
        have bap : (qn : Int) < (L : Int) := by omega
        have rap : IntKind.i64.wrap ((qn : Int)) = (qn : Int) := by rw [IntKind.wrap_i64]; omega
        have ecp : ((h : Int)).toNat = jNp := by omega
        have pcp : (0 : Int) ≤ (h : Int) := by omega
        have bcp : (h : Int) < (L : Int) := by omega
        obtain ⟨xp, hxp⟩ : ∃ x, x = d[qn]! := ⟨_, rfl⟩
        obtain ⟨yp, hyp⟩ : ∃ x, x = d[h]! := ⟨_, rfl⟩
        have lap := S1.out.cl R (by omega) (qn) (by omega)
        have lbp := S1.out.cl R (by omega) (h) (by omega)
        rw [← hxp, ← hiNp] at lap
        rw [← hyp, ← hjNp] at lbp
        have hcp := S1.out.cmp HC.out (by omega) xp yp
        have hvp : ¬ cf xp yp < 0 := by rw [hxp, hyp]; exact of_decide_eq_false hlv
        have hdp : decide (cf xp yp < 0) = false := decide_eq_false hvp
        clear hxp hyp hiNp hjNp
        go_quiet_grown (first | (go_at_fn g; refine Calls.grown_of (hcp _ _)))
        have S2 : Aside (SW enc w0 blk off d (grow (wr.drewN nq) osq)) := S1.out.grown nq osq
        clear lap lbp hcp S1
        generalize grow (wr.drewN nq) osq = wp at S2 ⊢
        clear nq osq
        clear eap ecp
        go_wp2
        go_roundg (j - (h + 1))
        case measure => omega
        case rel => exact ⟨h + 1, j, by first | rfl | go_num, rfl, by omega, by omega, hjb, Nat.le_refl _, S2, Or.inr (by rw [HQ.out] at hlv; exact hlv), H2⟩
      | true =>
        obtain ⟨iNp, hiNp⟩ : ∃ q, q = qn := ⟨_, rfl⟩
        obtain ⟨jNp, hjNp⟩ : ∃ q, q = h := ⟨_, rfl⟩
        have eap : ((qn : Int)).toNat = iNp := by omega
        have pap : (0 : Int) ≤ (qn : Int) := by omega
        have bap : (qn : Int) < (L : Int) := by omega
        have rap : IntKind.i64.wrap ((qn : Int)) = (qn : Int) := by rw [IntKind.wrap_i64]; omega
        have ecp : ((h : Int)).toNat = jNp := by omega
        have pcp : (0 : Int) ≤ (h : Int) := by omega
        have bcp : (h : Int) < (L : Int) := by omega
        obtain ⟨xp, hxp⟩ : ∃ x, x = d[qn]! := ⟨_, rfl⟩
        obtain ⟨yp, hyp⟩ : ∃ x, x = d[h]! := ⟨_, rfl⟩
        have lap := S1.out.cl R (by omega) (qn) (by omega)
        have lbp := S1.out.cl R (by omega) (h) (by omega)
        rw [← hxp, ← hiNp] at lap
        rw [← hyp, ← hjNp] at lbp
        have hcp := S1.out.cmp HC.out (by omega) xp yp
        have hvp : cf xp yp < 0 := by rw [hxp, hyp]; exact of_decide_eq_true hlv
        have hdp : decide (cf xp yp < 0) = true := decide_eq_true hvp
        clear hxp hyp hiNp hjNp
        go_quiet_grown (first | (go_at_fn g; refine Calls.grown_of (hcp _ _)))
        have S2 : Aside (SW enc w0 blk off d (grow (wr.drewN nq) osq)) := S1.out.grown nq osq
        clear lap lbp hcp S1
        generalize grow (wr.drewN nq) osq = wp at S2 ⊢
        clear nq osq
        clear eap ecp
        go_wp2
        go_roundg (h - i)
        case measure => omega
        case rel => exact ⟨i, h, rfl, by first | rfl | go_num, hmi, by omega, by omega, Nat.le_refl _, S2, H1, Or.inr (by rw [HQ.out] at hlv; exact hlv)⟩
    · have e : j = i := by omega
      subst e
      have hltz : ¬ (j : Int) < (j : Int) := by omega
      clear HC hcl0 hst mixed
      obtain ⟨ee, hee⟩ : ∃ x, x = n - j := ⟨_, rfl⟩
      have HM2 : Hid (∀ d1, Rot j m ee d d1 → Mid (ltOf cf) Rr a j mid ee b d1) := fun d1 hr => HMo.out j ee d1 hr hee hmi hjb H1.out H2.out
      clear HMo H1 H2
      have re : IntKind.i64.wrap ((n : Int) - (j : Int)) = (ee : Int) := by rw [IntKind.wrap_i64]; omega
      have ee1 : ee ≤ n - j := Nat.le_of_eq hee
      have ee2 : n - j ≤ ee := Nat.le_of_eq hee.symm
      clear hee
      have hje : j ≤ m := by omega
      have hme : m ≤ ee := by omega
      have heb : ee ≤ b := by omega
      have haj : a ≤ j := by omega
      have hjm : j ≤ mid := by omega
      have hmide : mid ≤ ee := by omega
      have hmidb : mid < b := by omega
      have hamid : a < mid := by omega
      clear lo1 lo2 hi1 hi2 hmi hjb HLO HHI n1 n2 p1 p2 ee1 ee2
      go_upto_region 39 with (fail)
      obtain ⟨c39, hc39⟩ : ∃ c : Bool, Hid (c = (decide (j < m) && decide (m < ee))) := ⟨_, rfl⟩
      go_cut [185] from 178 to 185 (fun b W => b = .bool c39 ∧ W = wr)
      case first =>
        by_cases k1 : j < m
        · have k1z : ((j : Nat) : Int) < ((m : Nat) : Int) := by omega
          by_cases k2 : m < ee
          · have k2z : ((m : Nat) : Int) < ((ee : Nat) : Int) := by omega
            go_wp2_with fail
            go_meet
            case rel => exact ⟨by rw [hc39.out, decide_eq_true k1, decide_eq_true k2]; rfl, rfl⟩
          · have k2z : ¬ ((m : Nat) : Int) < ((ee : Nat) : Int) := by omega
            go_wp2_with fail
            go_meet
            case rel => exact ⟨by rw [hc39.out, decide_eq_true k1, decide_eq_false k2]; rfl, rfl⟩
        · have k1z : ¬ ((j : Nat) : Int) < ((m : Nat) : Int) := by omega
          go_wp2_with fail
          go_meet
          case rel => exact ⟨by rw [hc39.out, decide_eq_false k1]; rfl, rfl⟩
      case rest =>
        obtain ⟨rfl, rfl⟩ := hcut
        go_upto_if 185 with (fail)
        go_cut [191] from 185 to 191 (fun _ W => ∃ d1 : Array α, Hid (Rot j m ee d d1) ∧ Aside (SW enc w0 blk off d1 W))
        case first =>
          cases hcc : c39 with
          | true =>
            have k := hc39.out.symm.trans hcc
            rw [Bool.and_eq_true] at k
            have k1 := of_decide_eq_true k.1
            have k2 := of_decide_eq_true k.2
            clear k
            go_wp2_with (go_at_call 81; refine (CR.out j ee _ S1.out k1 k2 (by omega)).mono ?_; rintro e w2 ⟨rfl, d1, hrot, hS1⟩)
            go_meet
            case rel => exact ⟨d1, hrot, hS1⟩
          | false =>
            have k : ¬ (j < m ∧ m < ee) := fun h => by
              have := hc39.out.symm.trans hcc
              rw [decide_eq_true h.1, decide_eq_true h.2] at this
              cases this
            go_wp2_with fail
            go_meet
            case rel => exact ⟨d, Rot.none hje hme (by omega) (by omega), S1⟩
        case rest =>
          clear hc39
          obtain ⟨d1, HRO, S2⟩ := hcut
          have HMM : Hid (Mid (ltOf cf) Rr a j mid ee b d1) := HM2.out d1 HRO.out
          have hz1 : d1.size = d.size := HRO.out.size
          clear CR HM2 S1
          go_upto_region 41 with (fail)
          obtain ⟨c41, hc41⟩ : ∃ c : Bool, Hid (c = (decide (a < j) && decide (j < mid))) := ⟨_, rfl⟩
          go_cut [199] from 192 to 199 (fun b W => b = .bool c41 ∧ W = wc)
          case first =>
            by_cases k1 : a < j
            · have k1z : ((a : Nat) : Int) < ((j : Nat) : Int) := by omega
              by_cases k2 : j < mid
              · have k2z : ((j : Nat) : Int) < ((mid : Nat) : Int) := by omega
                go_wp2_with fail
                go_meet
                case rel => exact ⟨by rw [hc41.out, decide_eq_true k1, decide_eq_true k2]; rfl, rfl⟩
              · have k2z : ¬ ((j : Nat) : Int) < ((mid : Nat) : Int) := by omega
                go_wp2_with fail
                go_meet
                case rel => exact ⟨by rw [hc41.out, decide_eq_true k1, decide_eq_false k2]; rfl, rfl⟩
            · have k1z : ¬ ((a : Nat) : Int) < ((j : Nat) : Int) := by omega
              go_wp2_with fail
              go_meet
              case rel => exact ⟨by rw [hc41.out, decide_eq_false k1]; rfl, rfl⟩
          case rest =>
            obtain ⟨rfl, rfl⟩ := hcut
            go_upto_if 199 with (fail)
            go_cut [205] from 199 to 205 (fun _ W => ∃ d2 : Array α, Hid (Merged Rr a mid d1 d2) ∧ Aside (SW enc w0 blk off d2 W))
            case first =>
              cases hcc : c41 with
              | true =>
                have k := hc41.out.symm.trans hcc
                rw [Bool.and_eq_true] at k
                have k1 := of_decide_eq_true k.1
                have k2 := of_decide_eq_true k.2
                clear k
                go_wp2_with (go_at_call 73; refine (HIH.out a j mid d1 _ (by omega) (by omega) S2.out k1 k2 (by omega) HMM.out.r1 HMM.out.r2 HMM.out.a1).mono ?_; rintro e w2 ⟨rfl, d2, hmg, hS1⟩)
                go_meet
                case rel => exact ⟨d2, hmg, hS1⟩
              | false =>
                have k : ¬ (a < j ∧ j < mid) := fun h => by
                  have := hc41.out.symm.trans hcc
                  rw [decide_eq_true h.1, decide_eq_true h.2] at this
                  cases this
                go_wp2_with fail
                go_meet
                case rel => exact ⟨d1, Merged.none (mid_left HMM.out haj hjm k), S2⟩
            case rest =>
              clear hc41
              obtain ⟨d2, HG1, S3⟩ := hcut
              have hz2 : d2.size = d1.size := HG1.out.1.1
              clear S2
              go_upto_region 43 with (fail)
              obtain ⟨c43, hc43⟩ : ∃ c : Bool, Hid (c = (decide (mid < ee) && decide (ee < b))) := ⟨_, rfl⟩
              go_cut [213] from 206 to 213 (fun b W => b = .bool c43 ∧ W = wc)
              case first =>
                by_cases k1 : mid < ee
                · have k1z : ((mid : Nat) : Int) < ((ee : Nat) : Int) := by omega
                  by_cases k2 : ee < b
                  · have k2z : ((ee : Nat) : Int) < ((b : Nat) : Int) := by omega
                    go_wp2_with fail
                    go_meet
                    case rel => exact ⟨by rw [hc43.out, decide_eq_true k1, decide_eq_true k2]; rfl, rfl⟩
                  · have k2z : ¬ ((ee : Nat) : Int) < ((b : Nat) : Int) := by omega
                    go_wp2_with fail
                    go_meet
                    case rel => exact ⟨by rw [hc43.out, decide_eq_true k1, decide_eq_false k2]; rfl, rfl⟩
                · have k1z : ¬ ((mid : Nat) : Int) < ((ee : Nat) : Int) := by omega
                  go_wp2_with fail
                  go_meet
                  case rel => exact ⟨by rw [hc43.out, decide_eq_false k1]; rfl, rfl⟩
              case rest =>
                obtain ⟨rfl, rfl⟩ := hcut
                go_upto_if 213 with (fail)
                cases hcc : c43 with
                | true =>
                  have k := hc43.out.symm.trans hcc
                  rw [Bool.and_eq_true] at k
                  have k1 := of_decide_eq_true k.1
                  have k2 := of_decide_eq_true k.2
                  clear k
                  go_wp2_with (go_at_call 73; refine (HIH.out mid ee b d2 _ (by omega) (by omega) S3.out k1 k2 (by omega) (mid_ahead HMM.out hmide HG1.out.1).1 (mid_ahead HMM.out hmide HG1.out.1).2.1 (mid_ahead HMM.out hmide HG1.out.1).2.2).mono ?_; rintro e w2 ⟨rfl, d3, hmg, hS1⟩)
                  go_end0
                  exact ⟨rfl, d3, both (PermIn.wide HRO.out.perm haj heb hb) hb (Nat.le_of_lt hamid) (Nat.le_of_lt hmidb) HMM.out.cross HG1.out hmg, hS1⟩
                | false =>
                  have k : ¬ (mid < ee ∧ ee < b) := fun h => by
                    have := hc43.out.symm.trans hcc
                    rw [decide_eq_true h.1, decide_eq_true h.2] at this
                    cases this
                  go_wp2_with fail
                  go_end0
                  exact ⟨rfl, d2, both (PermIn.wide HRO.out.perm haj heb hb) hb (Nat.le_of_lt hamid) (Nat.le_of_lt hmidb) HMM.out.cross HG1.out (Merged.none (mid_right HMM.out hmide heb HG1.out.1 k)), S3.out⟩
end Go.Proofs.YtphacinnnepdoaaDoor
/- The walk of slices.insertionSortCmpFunc at trees: insertions that keep the order of equals. -/
namespace Go.Proofs.YtphacinnnepdoaaDoor
open Go.Shelf Go.RowKit Go.Lib Go.Sort
variable {α : Type} [Inhabited α]
/-- an insertion under way: what stood at place i stands at j -/
structure Ins (lt : α → α → Bool) (R : α → α → Prop) (a i j : Nat) (dk dj : Array α) : Prop where
  r1 : Ris R a j dj
  r2 : Ris R j (i + 1) dj
  cr : ∀ p q, a ≤ p → p < j → j < q → q ≤ i → R dj[p]! dj[q]!
  tie : ∀ p, a ≤ p → p < j → lt dj[j]! dj[p]! = false → R dj[p]! dj[j]!
  perm : PermIn a (i + 1) dk dj
theorem Ins.start {lt : α → α → Bool} {R : α → α → Prop} {a i : Nat} {dk : Array α} (h : Ris R a i dk) (ht : ∀ p, a ≤ p → p < i → lt dk[i]! dk[p]! = false → R dk[p]! dk[i]!) : Ins lt R a i i dk dk :=
  ⟨h, fun _ _ _ _ _ => by omega, fun _ _ _ _ _ _ => by omega, ht, permIn_refl _ _ _⟩
theorem Ins.step {lt : α → α → Bool} {R : α → α → Prop} (K : Keep lt R) {a i j : Nat} {dk dj : Array α} (h : Ins lt R a i (j + 1) dk dj) (haj : a ≤ j) (hji : j + 1 ≤ i) (hi : i < dk.size) (hl : lt dj[j + 1]! dj[j]! = true) : Ins lt R a i j dk (swp dj (j + 1) j) := by
  have hz : dj.size = dk.size := h.perm.1
  have hR := K.lr _ _ hl
  have sl : (swp dj (j + 1) j)[j + 1]! = dj[j]! := swp_left dj (j + 1) j (by omega) (by omega)
  have sr : (swp dj (j + 1) j)[j]! = dj[j + 1]! := swp_right dj (j + 1) j (by omega)
  have so : ∀ k, k ≠ j → k ≠ j + 1 → (swp dj (j + 1) j)[k]! = dj[k]! := fun k h1 h2 => swp_other dj (j + 1) j k h2 h1
  refine ⟨?_, ?_, ?_, ?_, permIn_trans _ _ _ _ _ h.perm (swp_permIn dj a (i + 1) (j + 1) j (by omega) (by omega) (by omega) (by omega) (by omega))⟩
  · intro p q hp hpq hq
    rw [so p (by omega) (by omega), so q (by omega) (by omega)]
    exact h.r1 p q hp hpq (by omega)
  · intro p q hp hpq hq
    by_cases ep : p = j
    · rw [ep, sr]
      by_cases eq : q = j + 1
      · rw [eq, sl]; exact hR
      · rw [so q (by omega) eq]
        exact h.r2 (j + 1) q (by omega) (by omega) hq
    · by_cases ep2 : p = j + 1
      · rw [ep2, sl, so q (by omega) (by omega)]
        exact h.cr j q (by omega) (by omega) (by omega) (by omega)
      · rw [so p ep ep2, so q (by omega) (by omega)]
        exact h.r2 p q (by omega) hpq hq
  · intro p q hp hp2 hq hq2
    rw [so p (by omega) (by omega)]
    by_cases eq : q = j + 1
    · rw [eq, sl]
      exact h.r1 p j hp hp2 (by omega)
    · rw [so q (by omega) eq]
      exact h.cr p q hp (by omega) (by omega) hq2
  · intro p hp hp2
    rw [sr, so p (by omega) (by omega)]
    exact h.tie p hp (by omega)
theorem Ins.stop {lt : α → α → Bool} {R : α → α → Prop} (K : Keep lt R) {a i j : Nat} {dk dj : Array α} (h : Ins lt R a i j dk dj) (haj : a ≤ j) (hs : j = a ∨ lt dj[j]! dj[j - 1]! = false) : Merged R a (i + 1) dk dj := by
  refine ⟨h.perm, Ris.glue (q := j) h.r1 h.r2 fun p q hp hp2 hq hq2 => ?_⟩
  rcases hs with hs | hs
  · omega
  · have := h.tie (j - 1) (by omega) (by omega) hs
    by_cases e : q = j
    · rw [e]
      exact Ris.le K h.r1 hp (show p ≤ j - 1 by omega) (by omega) this
    · exact h.cr p q hp hp2 (by omega) (by omega)
/-- those up to i are inserted, the others stand where they stood -/
structure InsO (lt : α → α → Bool) (R : α → α → Prop) (a b i : Nat) (d dk : Array α) : Prop where
  mg : Merged R a i d dk
  tie : ∀ p q, a ≤ p → p < q → i ≤ q → q < b → lt dk[q]! dk[p]! = false → R dk[p]! dk[q]!
theorem InsO.next {lt : α → α → Bool} {R : α → α → Prop} {a b i : Nat} {d dk dj : Array α} (h : InsO lt R a b i d dk) (hib : i < b) (hb : b ≤ d.size) (hm : Merged R a (i + 1) dk dj) : InsO lt R a b (i + 1) d dj := by
  have hz : dk.size = d.size := h.mg.1.1
  refine ⟨⟨permIn_trans _ _ _ _ _ (PermIn.wide h.mg.1 (Nat.le_refl _) (by omega) (by omega)) hm.1, hm.2⟩, fun p q hp hpq hq hqb => ?_⟩
  rw [hm.1.2.1 q (by omega)]
  by_cases hpi : p < i + 1
  · exact permIn_all dk dj a (i + 1) (fun x => lt dk[q]! x = false → R x dk[q]!) (by omega) hm.1 (fun k hk hk2 => h.tie k q hk (by omega) (by omega) hqb) p hp hpi
  · rw [hm.1.2.1 p (by omega)]
    exact h.tie p q hp hpq (by omega) hqb
set_option maxHeartbeats 8000000 in
set_option maxRecDepth 1000000 in
theorem insertion_any (enc : α → Value) (cf : α → α → Int) (Rr : α → α → Prop) (K : Keep (ltOf cf) Rr) (g : Nat) (cb : Array Value) (eg : ∀ args w, (callFunc g args).run Tryd.prog w = .ok (.enter g args) w) (blk off L cap a b : Nat) (d0 d : Array α) (w0 w : World) (hcmp : CmpLays1 Tryd.prog g cb enc cf blk off d0.size w0) (R : Row1 enc w0 blk off d0) (hs : d0.size = d.size) (hL : d.size = L) (S : SW enc w0 blk off d w) (hab : a ≤ b) (hb : b ≤ d.size) (hsz : d.size < 1000000000) (hS : Stood (ltOf cf) Rr a b d) :
    Calls Tryd.prog 72 #[.slice (some ⟨blk, off, none⟩) L cap, .int .i64 a, .int .i64 b, .func (.func g) #[] cb] w fun e w' => e = .returned (.tuple #[]) ∧ ∃ d', Merged Rr a b d d' ∧ SW enc w0 blk off d' w' := by
  have mixed : Tryd.prog.follows .mixedOrders = true := by kernel_rfl
  have hcl0 := R.hO.cells
  simp only [Value.cells] at hcl0
  have hst := R.hO.store Tryd.prog
  have HC : Aside _ := hcmp
  have HK : Hid (Keep (ltOf cf) Rr) := K
  have HI0 : Hid (InsO (ltOf cf) Rr a b (a + 1) d d) := ⟨⟨permIn_refl _ _ _, fun i j h1 h2 h3 => by omega⟩, fun p q hp hpq _ hqb hl => hS p q hp hpq hqb hl⟩
  have S0 : Aside (SW enc w0 blk off d w) := S
  clear S hcmp K hS
  go_enter Tryd.func72, Tryd.ntmps72
  go_wp2
  go_loopg [8] (b - a) (fun g1 vi wr => ∃ (i : Nat) (dk : Array α), vi = .int .i64 i ∧ a < i ∧ i ≤ b + 1 ∧ (a < b → i ≤ b) ∧ b + 1 - i ≤ g1 + 1 ∧ dk.size = d.size ∧ Aside (SW enc w0 blk off dk wr) ∧ Hid (InsO (ltOf cf) Rr a b i d dk) ∧ Hid (b ≤ a → dk = d))
  case atStart => exact ⟨a + 1, d, by go_num, by omega, by omega, by omega, by omega, rfl, S0, HI0, fun _ => rfl⟩
  case round =>
    clear S0 HI0
    obtain ⟨i, dk, rfl, hai, hib, hib2, hg1, hsk, S1, HO, HN⟩ := hrel
    by_cases hlt : i < b
    · have hltz : (i : Int) < (b : Int) := by omega
      clear hib2
      go_wp2
      have HI1 : Hid (Ins (ltOf cf) Rr a i i dk dk) := Ins.start HO.out.mg.2 (fun p hp hp2 hl => HO.out.tie p i hp hp2 (Nat.le_refl _) hlt hl)
      go_loopg [9] i (fun g2 vj wr2 => ∃ (j : Nat) (dj : Array α), vj = .int .i64 j ∧ a ≤ j ∧ j ≤ i ∧ j ≤ g2 ∧ dj.size = d.size ∧ Aside (SW enc w0 blk off dj wr2) ∧ Hid (Ins (ltOf cf) Rr a i j dk dj))
      case atStart => exact ⟨i, dk, rfl, by omega, Nat.le_refl _, Nat.le_refl _, hsk, S1, HI1⟩
      case round =>
        clear S1 HI1
        obtain ⟨j, dj, rfl, haj, hji, hg2, hsj, SJ, HI⟩ := hrel
        by_cases hja : a < j
        · obtain ⟨jp, rfl⟩ : ∃ q, j = q + 1 := ⟨j - 1, by omega⟩
          have hjad : decide ((jp : Int) + 1 > (a : Int)) = true := decide_eq_true (by omega)
          have hjaz' : (a : Int) < (jp : Int) + 1 := by omega
          have rj : IntKind.i64.wrap ((jp : Int) + 1 - 1) = (jp : Int) := by rw [IntKind.wrap_i64]; omega
          cases hlv : (ltOf cf) dj[jp + 1]! dj[jp]! with
          | true =>
            go_wp2_with fail
            obtain ⟨iNp, hiNp⟩ : ∃ q, q = jp + 1 := ⟨_, rfl⟩
            obtain ⟨jNp, hjNp⟩ : ∃ q, q = jp := ⟨_, rfl⟩
            have eap : ((jp : Int) + 1).toNat = iNp := by omega
            have pap : (0 : Int) ≤ (jp : Int) + 1 := by omega
            have bap : (jp : Int) + 1 < (L : Int) := by omega
            have rap : IntKind.i64.wrap ((jp : Int) + 1) = (jp : Int) + 1 := by rw [IntKind.wrap_i64]; omega
            have ecp : ((jp : Int)).toNat = jNp := by omega
            have pcp : (0 : Int) ≤ (jp : Int) := by omega
            have bcp : (jp : Int) < (L : Int) := by omega
            have rcp : IntKind.i64.wrap ((jp : Int)) = (jp : Int) := by rw [IntKind.wrap_i64]; omega
            obtain ⟨xp, hxp⟩ : ∃ x, x = dj[jp + 1]! := ⟨_, rfl⟩
            obtain ⟨yp, hyp⟩ : ∃ x, x = dj[jp]! := ⟨_, rfl⟩
            have lap := SJ.out.cl R (by omega) (jp + 1) (by omega)
            have lbp := SJ.out.cl R (by omega) (jp) (by omega)
            rw [← hxp, ← hiNp] at lap
            rw [← hyp, ← hjNp] at lbp
            have hcp := SJ.out.cmp HC.out (by omega) xp yp
            have hvp : cf xp yp < 0 := by rw [hxp, hyp]; exact of_decide_eq_true hlv
            have hdp : decide (cf xp yp < 0) = true := decide_eq_true hvp
            clear hxp hyp hiNp hjNp
            go_quiet_grown (first | (go_at_fn g; refine Calls.grown_of (hcp _ _)))
            have S2 : Aside (SW enc w0 blk off dj (grow (wr.drewN nq) osq)) := SJ.out.grown nq osq
            clear lap lbp hcp SJ
            generalize grow (wr.drewN nq) osq = wp at S2 ⊢
            clear nq osq
            clear eap ecp
            go_wp2_with fail
            obtain ⟨iNq, hiNq⟩ : ∃ q, q = jp + 1 := ⟨_, rfl⟩
            obtain ⟨jNq, hjNq⟩ : ∃ q, q = jp := ⟨_, rfl⟩
            have eaq : ((jp : Int) + 1).toNat = iNq := by omega
            have paq : (0 : Int) ≤ (jp : Int) + 1 := by omega
            have baq : (jp : Int) + 1 < (L : Int) := by omega
            have raq : IntKind.i64.wrap ((jp : Int) + 1) = (jp : Int) + 1 := by rw [IntKind.wrap_i64]; omega
            have ecq : ((jp : Int)).toNat = jNq := by omega
            have pcq : (0 : Int) ≤ (jp : Int) := by omega
            have bcq : (jp : Int) < (L : Int) := by omega
            have rcq : IntKind.i64.wrap ((jp : Int)) = (jp : Int) := by rw [IntKind.wrap_i64]; omega
            obtain ⟨xq, hxq⟩ : ∃ x, x = dj[jp + 1]! := ⟨_, rfl⟩
            obtain ⟨yq, hyq⟩ : ∃ x, x = dj[jp]! := ⟨_, rfl⟩
            have S3 : Aside (SW enc w0 blk off (swp dj (jp + 1) (jp)) ((wp.setCell ⟨blk, off + iNq, none⟩ (enc yq)).setCell ⟨blk, off + jNq, none⟩ (enc xq)).drew) := by rw [hiNq, hjNq, hxq, hyq]; exact S2.out.swapped R (jp + 1) (jp) (by omega) (by omega)
            have caq := S2.out.c1 R (by omega) (jp + 1) (by omega)
            have ccq := S2.out.c1 R (by omega) (jp) (by omega)
            have faq := S2.out.f1 R (by omega) (jp + 1) (by omega)
            have fbq := S2.out.f1 R (by omega) (jp) (by omega)
            obtain ⟨uq, cuq⟩ := S2.out.c2 R (by omega) (jp + 1) (jp) (by omega) (by omega) (enc yq)
            rw [← hiNq, ← hjNq] at cuq
            rw [← hxq, ← hiNq] at caq
            rw [← hyq, ← hjNq] at ccq
            rw [← hiNq] at faq
            rw [← hjNq] at fbq
            clear S2 hxq hyq hiNq hjNq
            go_wp2_with fail
            go_big_region_o
            clear caq ccq cuq faq fbq
            generalize ((wp.setCell ⟨blk, off + iNq, none⟩ (enc yq)).setCell ⟨blk, off + jNq, none⟩ (enc xq)).drew = wq at S3 ⊢
            clear eaq ecq
            go_wp2
            go_roundg jp
            case measure => omega
            case rel => exact ⟨jp, swp dj (jp + 1) jp, by first | rfl | go_num, by omega, by omega, Nat.le_refl _, by rw [size_swp]; exact hsj, S3, Ins.step HK.out HI.out (by omega) hji (by omega) hlv⟩
          | false =>
            go_wp2_with fail
            obtain ⟨iNp, hiNp⟩ : ∃ q, q = jp + 1 := ⟨_, rfl⟩
            obtain ⟨jNp, hjNp⟩ : ∃ q, q = jp := ⟨_, rfl⟩
            have eap : ((jp : Int) + 1).toNat = iNp := by omega
            have pap : (0 : Int) ≤ (jp : Int) + 1 := by omega
            have bap : (jp : Int) + 1 < (L : Int) := by omega
            have rap : IntKind.i64.wrap ((jp : Int) + 1) = (jp : Int) + 1 := by rw [IntKind.wrap_i64]; omega
            have ecp : ((jp : Int)).toNat = jNp := by omega
            have pcp : (0 : Int) ≤ (jp : Int) := by omega
            have bcp : (jp : Int) < (L : Int) := by omega
            have rcp : IntKind.i64.wrap ((jp : Int)) = (jp : Int) := by rw [IntKind.wrap_i64]; omega
            obtain ⟨xp, hxp⟩ : ∃ x, x = dj[jp + 1]! := ⟨_, rfl⟩
            obtain ⟨yp, hyp⟩ : ∃ x, x = dj[jp]! := ⟨_, rfl⟩
            have lap := SJ.out.cl R (by omega) (jp + 1) (by omega)
            have lbp := SJ.out.cl R (by omega) (jp) (by omega)
            rw [← hxp, ← hiNp] at lap
            rw [← hyp, ← hjNp] at lbp
            have hcp := SJ.out.cmp HC.out (by omega) xp yp
            have hvp : ¬ cf xp yp < 0 := by rw [hxp, hyp]; exact of_decide_eq_false hlv
            have hdp : decide (cf xp yp < 0) = false := decide_eq_false hvp
            clear hxp hyp hiNp hjNp
            go_quiet_grown (first | (go_at_fn g; refine Calls.grown_of (hcp _ _)))
            have S2 : Aside (SW enc w0 blk off dj (grow (wr.drewN nq) osq)) := SJ.out.grown nq osq
            clear lap lbp hcp SJ
            generalize grow (wr.drewN nq) osq = wp at S2 ⊢
            clear nq osq
            clear eap ecp
            go_wp2
            go_roundg (b - (i + 1))
            case measure => omega
            case rel => exact ⟨i + 1, dj, by go_num, by omega, by omega, by omega, by omega, hsj, S2, InsO.next HO.out hlt hb (HI.out.stop HK.out (by omega) (Or.inr hlv)), fun h => absurd h (by omega)⟩
        · have hjaz : decide ((j : Int) > (a : Int)) = false := decide_eq_false (by omega)
          have hjaz' : ¬ (a : Int) < (j : Int) := by omega
          go_wp2_with fail
          go_big_region_o
          have S2 : Aside (SW enc w0 blk off dj wr.drew) := SJ.out.drew
          clear SJ
          generalize wr.drew = w2 at S2 ⊢
          go_wp2
          go_roundg (b - (i + 1))
          case measure => omega
          case rel => exact ⟨i + 1, dj, by go_num, by omega, by omega, by omega, by omega, hsj, S2, InsO.next HO.out hlt hb (HI.out.stop HK.out haj (Or.inl (by omega))), fun h => absurd h (by omega)⟩
    · have hltz : ¬ (i : Int) < (b : Int) := by omega
      have HF : Hid (Merged Rr a b d dk) := by
        show Merged _ _ _ _ _
        by_cases e : i = b
        · rw [← e]; exact HO.out.mg
        · have hnab : ¬ a < b := fun h => by have := hib2 h; omega
          rw [HN.out (by omega)]
          exact ⟨permIn_refl _ _ _, fun x y h1 h2 h3 => by omega⟩
      go_wp2
      go_end0
      exact ⟨rfl, dk, HF.out, S1.out⟩
end Go.Proofs.YtphacinnnepdoaaDoor
/- slices.symMergeCmpFunc, stableCmpFunc and SortStableFunc at trees: a sort that keeps the order of equals. -/
namespace Go.Proofs.YtphacinnnepdoaaDoor
open Go.Shelf Go.RowKit Go.Lib Go.Sort
variable {α : Type} [Inhabited α]
theorem symMerge_any (enc : α → Value) (cf : α → α → Int) (Rr : α → α → Prop) (K : Keep (ltOf cf) Rr) (g : Nat) (cb : Array Value) (eg : ∀ args w, (callFunc g args).run Tryd.prog w = .ok (.enter g args) w) (blk off L cap : Nat) (d0 : Array α) (w0 : World) (hcmp : CmpLays1 Tryd.prog g cb enc cf blk off d0.size w0) (R : Row1 enc w0 blk off d0) (hL : d0.size = L) (hsz : L < 1000000000) : ∀ (NN a m b : Nat) (d : Array α) (w : World), b - a < NN → d0.size = d.size → SW enc w0 blk off d w → a < m → m < b → b ≤ d.size → Ris Rr a m d → Ris Rr m b d → Ahead (ltOf cf) Rr a m b d → Calls Tryd.prog 73 #[.slice (some ⟨blk, off, none⟩) L cap, .int .i64 a, .int .i64 m, .int .i64 b, .func (.func g) #[] cb] w fun e w' => e = .returned (.tuple #[]) ∧ ∃ d', Merged Rr a b d d' ∧ SW enc w0 blk off d' w'
  | 0, a, m, b, d, w, h, _, _, _, _, _, _, _, _ => by omega
  | NN + 1, a, m, b, d, w, h, hz, S, ham, hmb, hb, h1, h2, hx => by
    have IH := symMerge_any enc cf Rr K g cb eg blk off L cap d0 w0 hcmp R hL hsz NN
    by_cases c1 : m = a + 1
    · exact symLeft_any enc cf Rr K g cb eg blk off L cap a m b d0 d w0 w hcmp R hz (by omega) S c1 hmb hb (by omega) h2 hx
    · by_cases c2 : b = m + 1
      · exact symRight_any enc cf Rr K g cb eg blk off L cap a m b d0 d w0 w hcmp R hz (by omega) S ham c1 c2 hb (by omega) h1 hx
      · by_cases c3 : (a + b) / 2 < m
        · exact symMidA_any enc cf Rr K g cb eg blk off L cap a m b d0 d w0 w hcmp R hz (by omega) S NN (by omega) IH ham c1 hmb c2 ((a + b) / 2) ⟨by omega, by omega⟩ c3 hb (by omega) h1 h2 hx
        · exact symMidB_any enc cf Rr K g cb eg blk off L cap a m b d0 d w0 w hcmp R hz (by omega) S NN (by omega) IH ham c1 hmb c2 ((a + b) / 2) ⟨by omega, by omega⟩ (by omega) hb (by omega) h1 h2 hx
/-- blocks of B: those below hi rise, no two are mixed -/
structure Blkd (lt : α → α → Bool) (R : α → α → Prop) (B hi n : Nat) (d dk : Array α) : Prop where
  perm : PermIn 0 n d dk
  cut : ∀ k, Cut lt R (k * B) n dk
  ris : ∀ k, k * B < hi → Ris R (k * B) (min (k * B + B) n) dk
/-- in the midst of making blocks of B into blocks of 2 B: those of 2 B below a, those of B from a on -/
structure Half (lt : α → α → Bool) (R : α → α → Prop) (B k n : Nat) (d dk : Array α) : Prop where
  perm : PermIn 0 n d dk
  cut2 : ∀ j, Cut lt R (j * (2 * B)) n dk
  cut1 : ∀ j, k * (2 * B) ≤ j * B → Cut lt R (j * B) n dk
  ris2 : ∀ j, j < k → Ris R (j * (2 * B)) (min (j * (2 * B) + 2 * B) n) dk
  ris1 : ∀ j, k * (2 * B) ≤ j * B → j * B < n → Ris R (j * B) (min (j * B + B) n) dk
theorem Blkd.first {lt : α → α → Bool} {R : α → α → Prop} {n : Nat} {d : Array α} (h : Stood lt R 0 n d) : Blkd lt R 20 0 n d d :=
  ⟨permIn_refl _ _ _, fun k i j _ hi hj hj2 hl => h i j (Nat.zero_le _) (by omega) hj2 hl, fun k hk => by omega⟩
/-- one block of 20 more, up to e -/
theorem Blkd.next {lt : α → α → Bool} {R : α → α → Prop} {k e n : Nat} {d dk dj : Array α} (h : Blkd lt R 20 (k * 20) n d dk) (he : e = min (k * 20 + 20) n) (hk : k * 20 ≤ n) (hn : n ≤ d.size) (hm : Merged R (k * 20) e dk dj) : Blkd lt R 20 (k * 20 + 20) n d dj := by
  have hz : dk.size = d.size := h.perm.1
  refine ⟨permIn_trans _ _ _ _ _ h.perm (PermIn.wide hm.1 (Nat.zero_le _) (by omega) (by omega)), fun c => (h.cut c).perm hm.1 (by omega) (by omega) ?_, fun c hc => ?_⟩
  · by_cases c1 : c ≤ k
    · exact Or.inr (Nat.mul_le_mul_right 20 c1)
    · have : (k + 1) * 20 ≤ c * 20 := Nat.mul_le_mul_right 20 (by omega)
      exact Or.inl (by omega)
  · by_cases c1 : c < k
    · have h1 : (c + 1) * 20 ≤ k * 20 := Nat.mul_le_mul_right 20 (by omega)
      exact (h.ris c (by omega)).other hm.1 (Or.inl (by omega))
    · have e1 : c = k := by
        by_cases c2 : k < c
        · have : (k + 1) * 20 ≤ c * 20 := Nat.mul_le_mul_right 20 (by omega)
          omega
        · omega
      rw [e1, ← he]
      exact hm.2
theorem Blkd.half {lt : α → α → Bool} {R : α → α → Prop} {B n : Nat} {d dk : Array α} (h : Blkd lt R B n n d dk) : Half lt R B 0 n d dk :=
  ⟨h.perm, fun j => by rw [show j * (2 * B) = (j * 2) * B by rw [Nat.mul_assoc]]; exact h.cut _, fun j _ => h.cut j, fun j hj => by omega, fun j _ hj => h.ris j hj⟩
/-- two blocks of B, merged -/
theorem Half.next {lt : α → α → Bool} {R : α → α → Prop} {B k e n : Nat} {d dk dj : Array α} (h : Half lt R B k n d dk) (he : e = min (k * (2 * B) + 2 * B) n) (hn : n ≤ d.size) (hm : Merged R (k * (2 * B)) e dk dj) : Half lt R B (k + 1) n d dj := by
  have hz : dk.size = d.size := h.perm.1
  have hk1 : (k + 1) * (2 * B) = k * (2 * B) + 2 * B := Nat.succ_mul _ _
  refine ⟨permIn_trans _ _ _ _ _ h.perm (PermIn.wide hm.1 (Nat.zero_le _) (by omega) (by omega)), fun c => (h.cut2 c).perm hm.1 (by omega) (by omega) ?_, fun c hc => (h.cut1 c (by omega)).perm hm.1 (by omega) (by omega) (Or.inl (by omega)), fun c hc => ?_, fun c hc hcn => (h.ris1 c (by omega) hcn).other hm.1 (Or.inr (by omega))⟩
  · by_cases c1 : c ≤ k
    · exact Or.inr (Nat.mul_le_mul_right _ c1)
    · have : (k + 1) * (2 * B) ≤ c * (2 * B) := Nat.mul_le_mul_right _ (by omega)
      exact Or.inl (by omega)
  · by_cases c1 : c < k
    · have h1 : (c + 1) * (2 * B) ≤ k * (2 * B) := Nat.mul_le_mul_right _ (by omega)
      rw [Nat.succ_mul] at h1
      exact (h.ris2 c c1).other hm.1 (Or.inl (by omega))
    · rw [show c = k by omega, ← he]
      exact hm.2
/-- what a merge of two blocks asks -/
theorem Half.asks {lt : α → α → Bool} {R : α → α → Prop} {B k e n : Nat} {d dk : Array α} (h : Half lt R B k n d dk) (he : e = min (k * (2 * B) + 2 * B) n) (hB : 0 < B) (hm : k * (2 * B) + B < n) : Ris R (k * (2 * B)) (k * (2 * B) + B) dk ∧ Ris R (k * (2 * B) + B) e dk ∧ Ahead lt R (k * (2 * B)) (k * (2 * B) + B) e dk := by
  have e1 : k * (2 * B) = (2 * k) * B := by rw [Nat.mul_comm k, Nat.mul_assoc, Nat.mul_assoc, Nat.mul_comm B k]
  have e2 : k * (2 * B) + B = (2 * k + 1) * B := by rw [Nat.succ_mul (2 * k), e1]
  have q1 := h.ris1 (2 * k) (by omega) (by omega)
  have q2 := h.ris1 (2 * k + 1) (by omega) (by omega)
  have q3 := h.cut1 (2 * k + 1) (by omega)
  rw [← e1] at q1
  rw [← e2] at q2 q3
  exact ⟨q1.mono (Nat.le_refl _) (by omega), q2.mono (Nat.le_refl _) (by omega), q3.mono (Nat.zero_le _) (Nat.le_refl _) (Nat.le_refl _) (by omega)⟩
/-- the last, lone block -/
theorem Half.last {lt : α → α → Bool} {R : α → α → Prop} {B k n : Nat} {d dk : Array α} (h : Half lt R B k n d dk) (hB : 0 < B) (h1 : n ≤ k * (2 * B) + B) : Blkd lt R (2 * B) n n d dk := by
  refine ⟨h.perm, h.cut2, fun c hc => ?_⟩
  by_cases c1 : c < k
  · exact h.ris2 c c1
  · by_cases c2 : k < c
    · have : (k + 1) * (2 * B) ≤ c * (2 * B) := Nat.mul_le_mul_right _ (by omega)
      rw [Nat.succ_mul] at this
      omega
    · have e : c = k := by omega
      subst e
      have e1 : c * (2 * B) = (2 * c) * B := by rw [Nat.mul_comm c, Nat.mul_assoc, Nat.mul_assoc, Nat.mul_comm B c]
      have q1 := h.ris1 (2 * c) (by omega) (by omega)
      rw [← e1] at q1
      exact q1.mono (Nat.le_refl _) (by omega)
theorem Half.done {lt : α → α → Bool} {R : α → α → Prop} {B k n : Nat} {d dk : Array α} (h : Half lt R B k n d dk) (h1 : n ≤ k * (2 * B)) : Blkd lt R (2 * B) n n d dk := by
  refine ⟨h.perm, h.cut2, fun c hc => h.ris2 c ?_⟩
  by_cases c2 : c < k
  · exact c2
  · have : k * (2 * B) ≤ c * (2 * B) := Nat.mul_le_mul_right _ (by omega)
    omega
theorem Blkd.wide {lt : α → α → Bool} {R : α → α → Prop} {B hi n : Nat} {d dk : Array α} (h : Blkd lt R B hi n d dk) (hh : n ≤ hi) : Blkd lt R B n n d dk := ⟨h.perm, h.cut, fun k hk => h.ris k (by omega)⟩
theorem Blkd.whole {lt : α → α → Bool} {R : α → α → Prop} {B n : Nat} {d dk : Array α} (h : Blkd lt R B n n d dk) (hB : n ≤ B) : Merged R 0 n d dk := by
  refine ⟨h.perm, ?_⟩
  by_cases hn : n = 0
  · intro i j _ _ hj; omega
  · have := h.ris 0 (by omega)
    rw [Nat.zero_mul, Nat.zero_add, show min B n = n by omega] at this
    exact this
set_option maxHeartbeats 8000000 in
set_option maxRecDepth 1000000 in
theorem stable_any (enc : α → Value) (cf : α → α → Int) (Rr : α → α → Prop) (K : Keep (ltOf cf) Rr) (g : Nat) (cb : Array Value) (eg : ∀ args w, (callFunc g args).run Tryd.prog w = .ok (.enter g args) w) (blk off n cap : Nat) (d : Array α) (w0 w : World) (hcmp : CmpLays1 Tryd.prog g cb enc cf blk off d.size w0) (R : Row1 enc w0 blk off d) (hn : d.size = n) (S : SW enc w0 blk off d w) (hsz : n < 1000000000) (hS : Stood (ltOf cf) Rr 0 n d) :
    Calls Tryd.prog 63 #[.slice (some ⟨blk, off, none⟩) n cap, .int .i64 n, .func (.func g) #[] cb] w fun e w' => e = .returned (.tuple #[]) ∧ ∃ d', Merged Rr 0 n d d' ∧ SW enc w0 blk off d' w' := by
  have CI : Aside (∀ (a b : Nat) (dk : Array α) (w : World), dk.size = n → SW enc w0 blk off dk w → a ≤ b → b ≤ n → Stood (ltOf cf) Rr a b dk → Calls Tryd.prog 72 #[.slice (some ⟨blk, off, none⟩) n cap, .int .i64 a, .int .i64 b, .func (.func g) #[] cb] w fun e w' => e = .returned (.tuple #[]) ∧ ∃ d', Merged Rr a b dk d' ∧ SW enc w0 blk off d' w') := fun a b dk w h1 h2 h3 h4 h5 => insertion_any enc cf Rr K g cb eg blk off n cap a b d dk w0 w hcmp R (by omega) h1 h2 h3 (by omega) (by omega) h5
  have CM : Aside (∀ (a m b : Nat) (dk : Array α) (w : World), dk.size = n → SW enc w0 blk off dk w → a < m → m < b → b ≤ n → (Ris Rr a m dk ∧ Ris Rr m b dk ∧ Ahead (ltOf cf) Rr a m b dk) → Calls Tryd.prog 73 #[.slice (some ⟨blk, off, none⟩) n cap, .int .i64 a, .int .i64 m, .int .i64 b, .func (.func g) #[] cb] w fun e w' => e = .returned (.tuple #[]) ∧ ∃ d', Merged Rr a b dk d' ∧ SW enc w0 blk off d' w') := fun a m b dk w h1 h2 h3 h4 h5 h6 => symMerge_any enc cf Rr K g cb eg blk off n cap d w0 hcmp R hn hsz (b - a + 1) a m b dk w (by omega) (by omega) h2 h3 h4 (by omega) h6.1 h6.2.1 h6.2.2
  have HST : Hid (Stood (ltOf cf) Rr 0 n d) := hS
  have S0 : Aside (SW enc w0 blk off d w) := S
  have n1 : n ≤ d.size := Nat.le_of_eq hn.symm
  have n2 : d.size ≤ n := Nat.le_of_eq hn
  clear S hcmp R K hS hn
  go_enter Tryd.func63, Tryd.ntmps63
  go_wp2
  go_loopg [7, 8] n (fun kx s7 s8 wr => ∃ (aN bN : Nat) (dk : Array α), s7 = .int .i64 aN ∧ s8 = .int .i64 bN ∧ bN ≤ aN + 20 ∧ aN + 20 ≤ bN ∧ aN ≤ n ∧ n - aN ≤ kx ∧ Hid (dk.size = n) ∧ Aside (SW enc w0 blk off dk wr) ∧ Hid (∀ i, aN ≤ i → dk[i]! = d[i]!) ∧ Hid (∃ k, aN = k * 20 ∧ Blkd (ltOf cf) Rr 20 (k * 20) n d dk))
  case atStart => exact ⟨0, 20, d, rfl, rfl, by omega, by omega, by omega, by omega, (show d.size = n by omega), S0, fun _ _ => rfl, ⟨0, rfl, Blkd.first HST.out⟩⟩
  case round =>
    clear S0
    obtain ⟨aN, bN, dk, rfl, rfl, hb1, hb2, han, hkx, HZ, S1, HSA, HB⟩ := hrel
    by_cases hlt : bN ≤ n
    · have hltz : (bN : Int) ≤ (n : Int) := by omega
      have rb : IntKind.i64.wrap ((bN : Int) + 20) = (bN : Int) + 20 := by rw [IntKind.wrap_i64]; omega
      have HSS : Hid (Stood (ltOf cf) Rr aN bN dk) := fun i j hi hij hj hl => by
        rw [HSA.out i hi, HSA.out j (by omega)] at hl ⊢
        exact HST.out i j (Nat.zero_le _) hij (by omega) hl
      go_wp2_with (go_at_call 72; refine (CI.out aN bN dk _ HZ.out S1.out (by omega) (by omega) HSS.out).mono ?_; rintro e w2 ⟨rfl, d2, hmg, hS2⟩)
      go_roundg (n - bN)
      case measure => omega
      case rel =>
        refine ⟨bN, bN + 20, d2, rfl, by go_num, by omega, by omega, by omega, Nat.le_refl _, (show d2.size = n by rw [hmg.1.1]; exact HZ.out), hS2, fun i hi => ?_, ?_⟩
        · rw [hmg.1.2.1 i (by omega)]
          exact HSA.out i (by omega)
        · obtain ⟨k, hk, hB⟩ := HB.out
          have e : bN = (k + 1) * 20 := by omega
          refine ⟨k + 1, e, ?_⟩
          rw [hk] at hmg
          have := hB.next (e := bN) (by omega) (by omega) n1 hmg
          rw [Nat.succ_mul]
          exact this
    · have hltz : ¬ (bN : Int) ≤ (n : Int) := by omega
      have HSS : Hid (Stood (ltOf cf) Rr aN n dk) := fun i j hi hij hj hl => by
        rw [HSA.out i hi, HSA.out j (by omega)] at hl ⊢
        exact HST.out i j (Nat.zero_le _) hij (by omega) hl
      go_wp2_with (go_at_call 72; refine (CI.out aN n dk _ HZ.out S1.out han (Nat.le_refl _) HSS.out).mono ?_; rintro e w2 ⟨rfl, d2, hmg, hS2⟩)
      have HB2 : Hid (Blkd (ltOf cf) Rr 20 n n d d2) := by
        obtain ⟨k, hk, hB⟩ := HB.out
        rw [hk] at hmg
        exact (hB.next (e := n) (by omega) (by omega) n1 hmg).wide (by omega)
      have HZ2 : Hid (d2.size = n) := (show d2.size = n by rw [hmg.1.1]; exact HZ.out)
      have S2 : Aside (SW enc w0 blk off d2 w2) := hS2
      clear CI HST HSA HB HSS hmg hS2 S1 HZ
      go_loopg [6] n (fun kx s6 wr => ∃ (B : Nat) (dk : Array α), s6 = .int .i64 B ∧ 0 < B ∧ B ≤ 2 * n + 20 ∧ n - B ≤ kx ∧ Hid (dk.size = n) ∧ Aside (SW enc w0 blk off dk wr) ∧ Hid (Blkd (ltOf cf) Rr B n n d dk))
      case atStart => exact ⟨20, d2, rfl, by omega, by omega, by omega, HZ2, S2, HB2⟩
      case round =>
        clear S2 HB2 HZ2
        obtain ⟨B, dk, rfl, hB0, hB1, hkx2, HZ, S1, HB⟩ := hrel
        by_cases hBn : B < n
        · have hBz : (B : Int) < (n : Int) := by omega
          have r2 : IntKind.i64.wrap (2 * (B : Int)) = 2 * (B : Int) := by rw [IntKind.wrap_i64]; omega
          go_wp2
          go_loopg [7, 8] n (fun kx s7 s8 wr => ∃ (aN bN : Nat) (dj : Array α), s7 = .int .i64 aN ∧ s8 = .int .i64 bN ∧ bN ≤ aN + 2 * B ∧ aN + 2 * B ≤ bN ∧ aN ≤ n ∧ n - aN ≤ kx ∧ Hid (dj.size = n) ∧ Aside (SW enc w0 blk off dj wr) ∧ Hid (∃ k, aN = k * (2 * B) ∧ Half (ltOf cf) Rr B k n d dj))
          case atStart => exact ⟨0, 2 * B, dk, rfl, by first | rfl | go_num, by omega, by omega, by omega, by omega, HZ, S1, ⟨0, by omega, HB.out.half⟩⟩
          case round =>
            clear S1 HZ HB
            obtain ⟨aN, bN, dj, rfl, rfl, hb3, hb4, han2, hkx3, HZ, S1, HH⟩ := hrel
            by_cases hlt2 : bN ≤ n
            · have hltz2 : (bN : Int) ≤ (n : Int) := by omega
              have ra : IntKind.i64.wrap ((aN : Int) + (B : Int)) = ((aN + B : Nat) : Int) := by rw [IntKind.wrap_i64]; omega
              have rb : IntKind.i64.wrap ((bN : Int) + 2 * (B : Int)) = (bN : Int) + 2 * (B : Int) := by rw [IntKind.wrap_i64]; omega
              have HA : Hid (Ris Rr aN (aN + B) dj ∧ Ris Rr (aN + B) bN dj ∧ Ahead (ltOf cf) Rr aN (aN + B) bN dj) := by
                obtain ⟨k, hk, hH⟩ := HH.out
                have := hH.asks (e := bN) (by omega) hB0 (by omega)
                rw [← hk] at this
                exact this
              go_wp2_with (go_at_call 73; refine (CM.out aN (aN + B) bN dj _ HZ.out S1.out (by omega) (by omega) hlt2 HA.out).mono ?_; rintro e w3 ⟨rfl, d3, hmg, hS3⟩)
              go_roundg (n - bN)
              case measure => omega
              case rel =>
                refine ⟨bN, bN + 2 * B, d3, rfl, by go_num, by omega, by omega, by omega, Nat.le_refl _, (show d3.size = n by rw [hmg.1.1]; exact HZ.out), hS3, ?_⟩
                obtain ⟨k, hk, hH⟩ := HH.out
                have e : bN = (k + 1) * (2 * B) := by rw [Nat.succ_mul]; omega
                refine ⟨k + 1, e, ?_⟩
                rw [hk] at hmg
                exact hH.next (e := bN) (by omega) n1 hmg
            · have hltz2 : ¬ (bN : Int) ≤ (n : Int) := by omega
              obtain ⟨mN, hmN⟩ : ∃ x, x = aN + B := ⟨_, rfl⟩
              have ra : IntKind.i64.wrap ((aN : Int) + (B : Int)) = (mN : Int) := by rw [IntKind.wrap_i64]; omega
              have m1 : mN ≤ aN + B := Nat.le_of_eq hmN
              have m2 : aN + B ≤ mN := Nat.le_of_eq hmN.symm
              have HMN : Hid (mN = aN + B) := hmN
              clear hmN
              have rB : IntKind.i64.wrap ((B : Int) * 2) = (B : Int) * 2 := by rw [IntKind.wrap_i64]; omega
              by_cases hmn : mN < n
              · have hmz : (mN : Int) < (n : Int) := by omega
                have HA : Hid (Ris Rr aN mN dj ∧ Ris Rr mN n dj ∧ Ahead (ltOf cf) Rr aN mN n dj) := by
                  obtain ⟨k, hk, hH⟩ := HH.out
                  have := hH.asks (e := n) (by omega) hB0 (by omega)
                  rw [← hk, ← HMN.out] at this
                  exact this
                go_wp2_with (go_at_call 73; refine (CM.out aN mN n dj _ HZ.out S1.out (by omega) hmn (Nat.le_refl _) HA.out).mono ?_; rintro e w3 ⟨rfl, d3, hmg, hS3⟩)
                go_roundg (n - 2 * B)
                case measure => omega
                case rel =>
                  refine ⟨2 * B, d3, by first | rfl | go_num | (congr 1; omega), by omega, by omega, Nat.le_refl _, (show d3.size = n by rw [hmg.1.1]; exact HZ.out), hS3, ?_⟩
                  obtain ⟨k, hk, hH⟩ := HH.out
                  rw [hk] at hmg
                  exact (hH.next (e := n) (by omega) n1 hmg).done (by rw [Nat.succ_mul]; omega)
              · have hmz : ¬ (mN : Int) < (n : Int) := by omega
                go_wp2_with fail
                go_roundg (n - 2 * B)
                case measure => omega
                case rel =>
                  refine ⟨2 * B, dj, by first | rfl | go_num | (congr 1; omega), by omega, by omega, Nat.le_refl _, HZ, S1, ?_⟩
                  obtain ⟨k, hk, hH⟩ := HH.out
                  exact hH.last hB0 (by omega)
        · have hBz : ¬ (B : Int) < (n : Int) := by omega
          go_wp2
          go_end0
          exact ⟨rfl, dk, HB.out.whole (by omega), S1.out⟩
end Go.Proofs.YtphacinnnepdoaaDoor
/- Worlds of the sort; the walks of tree.rising's two functions that are handed to slices. -/
namespace Go.Proofs.YtphacinnnepdoaaDoor
open Go.Shelf Go.RowKit Go.Lib Go.Sort
theorem heap_mapBlock (w : World) (blk j : Nat) (f : Array Value → Array Value) (h : j ≠ blk) : (mapBlock w blk f).heap[j]? = w.heap[j]? := by
  unfold mapBlock
  simp [Array.getElem?_modify, Ne.symm h]
section
variable {α : Type} [Inhabited α] {enc : α → Value} {w0 W : World} {blk off : Nat} {dk : Array α}
theorem heap_sortWorld (n j : Nat) (os : Array Obj) (h : j ≠ blk) (hj : j < w0.heap.size) : (sortWorld enc w0 blk off n dk os).heap[j]? = w0.heap[j]? := by
  unfold sortWorld
  show ((putRow enc (Sort.ahead w0 n) blk off dk).heap ++ os)[j]? = _
  rw [Array.getElem?_append_left (by rw [Go.Sort.size_putRow]; exact hj)]
  exact heap_mapBlock _ _ _ _ h
theorem sw_heap (h : SW enc w0 blk off dk W) (j : Nat) (hj : j ≠ blk) (hl : j < w0.heap.size) : W.heap[j]? = w0.heap[j]? := by
  obtain ⟨n, os, rfl⟩ := h
  exact heap_sortWorld n j os hj hl
theorem sw_bel {w : World} {B : Nat} (h : SW enc w0 blk off dk W) (hb : Below B w w0) (hB : B ≤ blk) (hs : B ≤ w0.heap.size) : Below B w W := by
  have hh := sw_heap h
  have hle := h.le
  obtain ⟨n, os, rfl⟩ := h
  refine ⟨hb.os, hb.tape, hb.output, Nat.le_trans hb.size hle, fun k hk => ?_⟩
  rw [hh k (by omega) (by omega)]
  exact hb.block k hk
theorem sw_set (h : SW enc w0 blk off dk W) (hblk : blk < w0.heap.size) (i : Nat) (x : α) (hi : i < dk.size) : SW enc w0 blk off (dk.setIfInBounds i x) (W.setCell ⟨blk, off + i, none⟩ (enc x)) := by
  obtain ⟨n, os, rfl⟩ := h
  refine ⟨n, os, ?_⟩
  unfold sortWorld
  rw [← putRow_grow enc (Sort.ahead w0 n) os blk off dk hblk, putRow_set enc _ blk off dk i x hi, putRow_grow enc (Sort.ahead w0 n) os blk off _ hblk]
end
theorem blk_heap {W W' : World} {g : Nat} {cs : List Value} {t : TypeId} (h : Blk W g cs t) (e : W'.heap[g]? = W.heap[g]?) : Blk W' g cs t := by
  unfold Blk at *
  rw [e]; exact h
theorem TreeC.heap {W W' : World} {g c : Nat} {rt ix vl : List (BitVec 8)} {p q : Value} (h : TreeC W g c rt ix vl p q) (e : W'.heap[g]? = W.heap[g]?) : TreeC W' g c rt ix vl p q := ⟨blk_heap h.blk e, h.l1, h.l2, h.l3⟩
abbrev cmpB (x y : List (BitVec 8)) : Int := Lib.compareBytes (x.map UInt8.ofBitVec) (y.map UInt8.ofBitVec)
theorem loadB (z : List (BitVec 8)) (b o : Nat) (w : World) (hz : z.length = 32) (hb : w.rangeAt b o (cb z)) : (Extern.Bytes.loadBytes ⟨b, o, none⟩ 32 .empty).run Tryd.prog w = .ok ⟨(z.map UInt8.ofBitVec).toArray⟩ w := by
  have hl := Lib.run_loadBytesX (P := Tryd.prog) w (z.map fun b => (b.toNat : Int)) ⟨b, o, none⟩ .empty (fun j v hj => by
    have hjl : j < z.length := by have := (List.getElem?_eq_some_iff.1 hj).1; simpa using this
    rw [Addr.add_mid, hb j _ (cb_get z j hjl)]
    rw [List.getElem?_map, List.getElem?_eq_getElem hjl] at hj
    simp only [Option.map_some, Option.some.injEq] at hj
    rw [← hj, List.getD_eq_getElem?_getD, List.getElem?_eq_getElem hjl, Option.getD_some])
  rw [List.length_map, hz, bytes_cb] at hl
  simpa using hl
theorem run_compareR (x y : List (BitVec 8)) (hx : x.length = 32) (hy : y.length = 32) (g h o p : Nat) {w : World} (h1 : w.rangeAt g o (cb x)) (h2 : w.rangeAt h p (cb y)) :
    (Extern.BytealgCompare.compare #[.slice (some ⟨g, o, none⟩) 32 32, .slice (some ⟨h, p, none⟩) 32 32]).run Tryd.prog w = .ok (.int .i64 (cmpB x y)) w := by
  change Sem.run Tryd.prog (do pure (goInt (Extern.BytealgCompare.cmp (← Extern.Bytes.bytesOf (.slice (some ⟨g, o, none⟩) 32 32)) (← Extern.Bytes.bytesOf (.slice (some ⟨h, p, none⟩) 32 32))))) w = _
  simp only [Extern.Bytes.bytesOf, Sem.run_bind, Sem.run_pure, loadB x g o w hx h1, loadB y h p w hy h2, Result.andThen]
  rw [Lib.cmp_eq]
  rfl
theorem slice_dig33 (g : Nat) (w : World) : (Instr.sliceAt 24 (.pointer (some ⟨g, 33, none⟩)) none none none).run Tryd.prog w = .ok (.slice (some ⟨g, 33, none⟩) 32 32) w := by kernel_rfl
set_option maxRecDepth 100000 in
theorem bCompareR_any (x y : List (BitVec 8)) (hx : x.length = 32) (hy : y.length = 32) (g h o p : Nat) (w : World) (h1 : w.rangeAt g o (cb x)) (h2 : w.rangeAt h p (cb y)) :
    Calls Tryd.prog 49 #[.slice (some ⟨g, o, none⟩) 32 32, .slice (some ⟨h, p, none⟩) 32 32] w fun e w' => e = .returned (.int .i64 (cmpB x y)) ∧ w' = w := by
  have hr := run_compareR x y hx hy g h o p h1 h2
  obtain ⟨c, HC⟩ : ∃ c, Hid (c = cmpB x y) := ⟨_, rfl⟩
  rw [← HC.out] at hr ⊢
  clear h1 h2
  go_enter Tryd.func49, Tryd.ntmps49
  go_wp2
  rw [run_callFunc_extern Tryd.func64 (by kernel_rfl) (by kernel_rfl) (by kernel_rfl) (e := Extern.BytealgCompare.compare) (by kernel_rfl), hr]
  simp only [Result.andThen]
  rw [Oper.upon_value]
  go_wp2
  go_ret
  exact ⟨rfl, rfl⟩
set_option maxRecDepth 100000 in
set_option maxHeartbeats 1000000 in
theorem trRising1_any (gx gy : Nat) (x y : List (BitVec 8)) (w : World) (hx : w.rangeAt gx 33 (cb x)) (hy : w.rangeAt gy 33 (cb y)) (h1 : x.length = 32) (h2 : y.length = 32) : Calls Tryd.prog 48 #[.pointer (some ⟨gx, 0, none⟩), .pointer (some ⟨gy, 0, none⟩)] w fun e w' => e = .returned (.int .i64 (cmpB x y)) ∧ w' = w.drew := by
  have HX : Hid (w.drew.rangeAt gx 33 (cb x)) := hx
  have HY : Hid (w.drew.rangeAt gy 33 (cb y)) := hy
  have H1 : Hid (x.length = 32) := h1
  have H2 : Hid (y.length = 32) := h2
  obtain ⟨c, HC⟩ : ∃ c, Hid (c = cmpB x y) := ⟨_, rfl⟩
  rw [← HC.out]
  clear hx hy h1 h2
  go_enter Tryd.func48, Tryd.ntmps48
  go_wp2_with fail
  refine wp_region_any (by kernel_rfl) ?_
  change wpAny _ _ _ _ _ _ _ (World.drew w)
  refine wpAny_take (i := 0) (v := .pointer (some ⟨gx, 0, none⟩)) rfl (by kernel_rfl) (by kernel_rfl) (by kernel_rfl) (fun _ _ _ h => h) (Or.inl ⟨by rfl, fun wx => by simp [go_sem]⟩) ?_
  simp only [Act.put, List.getElem_toArray, List.getElem_cons_zero, List.setIfInBounds_toArray, List.set_cons_zero, List.set_cons_succ]
  refine wpAny_take (i := 1) (v := .pointer (some ⟨gx, 0, none⟩)) rfl (by kernel_rfl) (by kernel_rfl) (by kernel_rfl) (fun _ _ _ h => h) (Or.inl ⟨by rfl, fun wx => by simp [go_sem]⟩) ?_
  simp only [Act.put, List.getElem_toArray, List.getElem_cons_succ, List.getElem_cons_zero, List.setIfInBounds_toArray, List.set_cons_zero, List.set_cons_succ]
  refine wpAny_take (i := 2) (v := .pointer (some ⟨gx, 33, none⟩)) rfl (by kernel_rfl) (by kernel_rfl) (by kernel_rfl) (fun _ _ _ h => h) (Or.inl ⟨by rfl, fun wx => by simp [go_sem]⟩) ?_
  simp only [Act.put, List.getElem_toArray, List.getElem_cons_succ, List.getElem_cons_zero, List.setIfInBounds_toArray, List.set_cons_zero, List.set_cons_succ]
  refine wpAny_take (i := 3) (v := .slice (some ⟨gx, 33, none⟩) 32 32) rfl (by kernel_rfl) (by kernel_rfl) (by kernel_rfl) (fun _ _ _ h => h) (Or.inl ⟨by rfl, fun wx => by simp [execOp, Act.eval, slice_dig33]⟩) ?_
  simp only [Act.put, List.getElem_toArray, List.getElem_cons_succ, List.getElem_cons_zero, List.setIfInBounds_toArray, List.set_cons_zero, List.set_cons_succ]
  refine wpAny_take (i := 4) (v := .pointer (some ⟨gy, 0, none⟩)) rfl (by kernel_rfl) (by kernel_rfl) (by kernel_rfl) (fun _ _ _ h => h) (Or.inl ⟨by rfl, fun wx => by simp [go_sem]⟩) ?_
  simp only [Act.put, List.getElem_toArray, List.getElem_cons_succ, List.getElem_cons_zero, List.setIfInBounds_toArray, List.set_cons_zero, List.set_cons_succ]
  refine wpAny_take (i := 5) (v := .pointer (some ⟨gy, 0, none⟩)) rfl (by kernel_rfl) (by kernel_rfl) (by kernel_rfl) (fun _ _ _ h => h) (Or.inl ⟨by rfl, fun wx => by simp [go_sem]⟩) ?_
  simp only [Act.put, List.getElem_toArray, List.getElem_cons_succ, List.getElem_cons_zero, List.setIfInBounds_toArray, List.set_cons_zero, List.set_cons_succ]
  refine wpAny_take (i := 6) (v := .pointer (some ⟨gy, 33, none⟩)) rfl (by kernel_rfl) (by kernel_rfl) (by kernel_rfl) (fun _ _ _ h => h) (Or.inl ⟨by rfl, fun wx => by simp [go_sem]⟩) ?_
  simp only [Act.put, List.getElem_toArray, List.getElem_cons_succ, List.getElem_cons_zero, List.setIfInBounds_toArray, List.set_cons_zero, List.set_cons_succ]
  refine wpAny_take (i := 7) (v := .slice (some ⟨gy, 33, none⟩) 32 32) rfl (by kernel_rfl) (by kernel_rfl) (by kernel_rfl) (fun _ _ _ h => h) (Or.inl ⟨by rfl, fun wx => by simp [execOp, Act.eval, slice_dig33]⟩) ?_
  simp only [Act.put, List.getElem_toArray, List.getElem_cons_succ, List.getElem_cons_zero, List.setIfInBounds_toArray, List.set_cons_zero, List.set_cons_succ]
  refine wpAny_enter 8 (by kernel_rfl) rfl (by rfl) (f := 49) (args := #[.slice (some ⟨gx, 33, none⟩) 32 32, .slice (some ⟨gy, 33, none⟩) 32 32]) (by simp [go_sem]) (bCompareR_any x y H1.out H2.out gx gy 33 33 _ HX.out HY.out) ?_
  rintro e wz ⟨rfl, hz⟩
  rw [hz, ← HC.out]; clear hz wz
  refine ⟨_, rfl, ?_⟩
  simp only [Act.put, List.getElem_toArray, List.getElem_cons_succ, List.getElem_cons_zero, List.setIfInBounds_toArray, List.set_cons_zero, List.set_cons_succ]
  refine wpAny_take (i := 9) (v := .int .i64 c) rfl (by kernel_rfl) (by kernel_rfl) (by kernel_rfl) (fun _ _ _ h => h) (Or.inl ⟨by rfl, fun wx => by simp [go_sem]⟩) ?_
  simp only [Act.put, List.getElem_toArray, List.getElem_cons_succ, List.getElem_cons_zero, List.setIfInBounds_toArray, List.set_cons_zero, List.set_cons_succ]
  refine wpAny_done (by kernel_rfl) ?_ _
  go_wp2_with fail
  go_ret
  exact ⟨rfl, rfl⟩
set_option maxRecDepth 100000 in
set_option maxHeartbeats 1000000 in
theorem trRising2_any (gx gy : Nat) (x y : List (BitVec 8)) (w : World) (hx : w.rangeAt gx 33 (cb x)) (hy : w.rangeAt gy 33 (cb y)) (h1 : x.length = 32) (h2 : y.length = 32) : Calls Tryd.prog 51 #[.pointer (some ⟨gx, 0, none⟩), .pointer (some ⟨gy, 0, none⟩)] w fun e w' => e = .returned (.bool (decide (x = y))) ∧ w' = w.drew := by
  have HX : Hid (∀ wx, Over w.drew wx → wx.rangeAt gx 33 (cb x)) := fun wx hw => rangeAt_below (w := w.drew) hx hw.out (rangeAt_lt hx h1)
  have HY : Hid (∀ wx, Over w.drew wx → wx.rangeAt gy 33 (cb y)) := fun wx hw => rangeAt_below (w := w.drew) hy hw.out (rangeAt_lt hy h2)
  have H1 : Hid (x.length = 32) := h1
  have H2 : Hid (y.length = 32) := h2
  have heq : ∀ wx : World, (Op.equalIn 10000 24 (.agg (cb x).toArray) (.agg (cb y).toArray)).run Tryd.prog wx = .ok (decide (x = y)) wx := fun wx => eq_dig x y h1 h2 wx
  clear hx hy h1 h2
  go_enter Tryd.func51, Tryd.ntmps51
  go_wp2_with fail
  refine wp_region_held_drew (S := Over w.drew) (by kernel_rfl) (Over.refl _) ?_
  intro hS
  refine wpAnyH_take (i := 0) (v := .pointer (some ⟨gx, 0, none⟩)) rfl (by kernel_rfl) (by kernel_rfl) (by kernel_rfl) (fun _ _ _ h => h) (Or.inl ⟨by rfl, fun wx hx => by simp [go_sem]⟩) hS ?_
  simp only [Act.put, List.getElem_toArray, List.getElem_cons_zero, List.setIfInBounds_toArray, List.set_cons_zero, List.set_cons_succ]
  refine wpAnyH_take (i := 1) (v := .pointer (some ⟨gx, 0, none⟩)) rfl (by kernel_rfl) (by kernel_rfl) (by kernel_rfl) (fun _ _ _ h => h) (Or.inl ⟨by rfl, fun wx hx => by simp [go_sem]⟩) hS ?_
  simp only [Act.put, List.getElem_toArray, List.getElem_cons_succ, List.getElem_cons_zero, List.setIfInBounds_toArray, List.set_cons_zero, List.set_cons_succ]
  refine wpAnyH_take (i := 2) (v := .pointer (some ⟨gx, 33, none⟩)) rfl (by kernel_rfl) (by kernel_rfl) (by kernel_rfl) (fun _ _ _ h => h) (Or.inl ⟨by rfl, fun wx hx => by simp [go_sem]⟩) hS ?_
  simp only [Act.put, List.getElem_toArray, List.getElem_cons_succ, List.getElem_cons_zero, List.setIfInBounds_toArray, List.set_cons_zero, List.set_cons_succ]
  refine wpAnyH_take (i := 3) (v := .agg (cb x).toArray) rfl (by kernel_rfl) (by kernel_rfl) (by kernel_rfl) (fun _ _ _ h => h) (Or.inl ⟨by rfl, fun wx hx => by exact load_run 24 _ rfl _ _ rfl (cb x) _ (HX.out wx hx) Tryd.underlying24 rfl (by rw [cb_len, H1.out]; exact info_digest)⟩) hS ?_
  simp only [Act.put, List.getElem_toArray, List.getElem_cons_succ, List.getElem_cons_zero, List.setIfInBounds_toArray, List.set_cons_zero, List.set_cons_succ]
  refine wpAnyH_take (i := 4) (v := .pointer (some ⟨gy, 0, none⟩)) rfl (by kernel_rfl) (by kernel_rfl) (by kernel_rfl) (fun _ _ _ h => h) (Or.inl ⟨by rfl, fun wx hx => by simp [go_sem]⟩) hS ?_
  simp only [Act.put, List.getElem_toArray, List.getElem_cons_succ, List.getElem_cons_zero, List.setIfInBounds_toArray, List.set_cons_zero, List.set_cons_succ]
  refine wpAnyH_take (i := 5) (v := .pointer (some ⟨gy, 0, none⟩)) rfl (by kernel_rfl) (by kernel_rfl) (by kernel_rfl) (fun _ _ _ h => h) (Or.inl ⟨by rfl, fun wx hx => by simp [go_sem]⟩) hS ?_
  simp only [Act.put, List.getElem_toArray, List.getElem_cons_succ, List.getElem_cons_zero, List.setIfInBounds_toArray, List.set_cons_zero, List.set_cons_succ]
  refine wpAnyH_take (i := 6) (v := .pointer (some ⟨gy, 33, none⟩)) rfl (by kernel_rfl) (by kernel_rfl) (by kernel_rfl) (fun _ _ _ h => h) (Or.inl ⟨by rfl, fun wx hx => by simp [go_sem]⟩) hS ?_
  simp only [Act.put, List.getElem_toArray, List.getElem_cons_succ, List.getElem_cons_zero, List.setIfInBounds_toArray, List.set_cons_zero, List.set_cons_succ]
  refine wpAnyH_take (i := 7) (v := .agg (cb y).toArray) rfl (by kernel_rfl) (by kernel_rfl) (by kernel_rfl) (fun _ _ _ h => h) (Or.inl ⟨by rfl, fun wx hx => by exact load_run 24 _ rfl _ _ rfl (cb y) _ (HY.out wx hx) Tryd.underlying24 rfl (by rw [cb_len, H2.out]; exact info_digest)⟩) hS ?_
  simp only [Act.put, List.getElem_toArray, List.getElem_cons_succ, List.getElem_cons_zero, List.setIfInBounds_toArray, List.set_cons_zero, List.set_cons_succ]
  refine wpAnyH_take (i := 8) (v := .bool (decide (x = y))) rfl (by kernel_rfl) (by kernel_rfl) (by kernel_rfl) (fun _ _ _ h => h) (Or.inl ⟨by rfl, fun wx hx => by simp [go_sem, heq]⟩) hS ?_
  simp only [Act.put, List.getElem_toArray, List.getElem_cons_succ, List.getElem_cons_zero, List.setIfInBounds_toArray, List.set_cons_zero, List.set_cons_succ]
  refine wpAnyH_take (i := 9) (v := .bool (decide (x = y))) rfl (by kernel_rfl) (by kernel_rfl) (by kernel_rfl) (fun _ _ _ h => h) (Or.inl ⟨by rfl, fun wx hx => by simp [go_sem]⟩) hS ?_
  simp only [Act.put, List.getElem_toArray, List.getElem_cons_succ, List.getElem_cons_zero, List.setIfInBounds_toArray, List.set_cons_zero, List.set_cons_succ]
  refine wpAnyH_done (by kernel_rfl) ?_ _
  go_wp2_with fail
  go_ret
  exact ⟨rfl, rfl⟩
end Go.Proofs.YtphacinnnepdoaaDoor

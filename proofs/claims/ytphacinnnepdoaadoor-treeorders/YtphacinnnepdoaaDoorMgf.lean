/- Texts that the proof leans on, one behind the other: The walk of tree's Prove. The landed tree's functions do what the chapter says. What the listed variable gives: the rounds' words lie where the walks look for them. .. -/
import Derived.Test.YtphacinnnepdoaaDoorMgd
import Derived.Test.YtphacinnnepdoaaDoorMge
import Derived.Test.YtphacinnnepdoaaDoorRows
import Derived.Test.YtphacinnnepdoaaDoorMga
import Derived.ProofKit
import Derived.LaidMore
import Derived.OpenShut
import Derived.Stop.Joined
import Derived.Lib.LaidTab
import Derived.Carry
import Derived.ChangeSlices
import Derived.Test.YtphacinnnepdoaaDoorMgb
import Derived.Deep.Slices
/- The walk of tree's Prove. -/
namespace Go.Proofs.YtphacinnnepdoaaDoor
open Go.RowKit
/-- where Prove stands: the index, the result, the proof that is being made; the tree lies as it lay -/
structure Qv (w : World) (gl : Nat) (x : List (BitVec 8)) (vs : Value) (sd : List (List (BitVec 8))) (cs : List Value) (W : World) : Prop where
  xb : Blk W gl (cb x) 24
  rb : Blk W (gl + 1) (prfV nilV 0 zb32 zb32) 41
  pb : Blk W (gl + 2) cs 41
  os : OwnD W (gl + 3) vs sd
  bel : Below gl w W
theorem Qv.next {w W W' : World} {gl : Nat} {x : List (BitVec 8)} {vs : Value} {sd : List (List (BitVec 8))} {cs : List Value} (h : Qv w gl x vs sd cs W) (hb : Below W.heap.size W W') : Qv w gl x vs sd cs W' :=
  ⟨h.xb.below hb h.xb.lt, h.rb.below hb h.rb.lt, h.pb.below hb h.pb.lt, h.os.keep fun k _ hk => hb.block k hk, h.bel.trans (hb.mono (Nat.le_of_lt h.xb.lt))⟩
theorem Qv.drew {w W : World} {gl : Nat} {x : List (BitVec 8)} {vs : Value} {sd : List (List (BitVec 8))} {cs : List Value} (h : Qv w gl x vs sd cs W) : Qv w gl x vs sd cs W.drew :=
  ⟨h.xb, h.rb, h.pb, h.os.keep fun _ _ _ => rfl, ⟨h.bel.os, h.bel.tape, h.bel.output, h.bel.size, h.bel.block⟩⟩
theorem Qv.side {w W W' : World} {gl : Nat} {x r : List (BitVec 8)} {vs vs' : Value} {sd : List (List (BitVec 8))} (h : Qv w gl x vs sd (prfV vs 0 zb32 zb32) W) (ho : OwnD W' (gl + 3) vs' (sd ++ [r])) (hg : Grow (gl + 3) W vs W' vs') : Qv w gl x vs' (sd ++ [r]) (prfV vs' 0 zb32 zb32) (W'.setCell ⟨gl + 2, 0, none⟩ vs') := by
  have hv : ∀ j, vs.ownBlock = some j → gl + 3 ≤ j := fun j hj => (h.os.lt j hj).1
  exact ⟨(h.xb.grow hg hv (by omega)).one (by omega), (h.rb.grow hg hv (by omega)).one (by omega), (h.pb.grow hg hv (by omega)).set 0 vs', ho.keep fun k h1 _ => heap_one (by omega), (h.bel.trans (hg.below.mono (by omega))).setCell (by show gl ≤ gl + 2; omega) _⟩
theorem Qv.at {w W W' : World} {gl : Nat} {x : List (BitVec 8)} {vs : Value} {sd : List (List (BitVec 8))} {cs cs2 : List Value} (h : Qv w gl x vs sd cs W) (hk : ∀ k, k ≠ gl + 2 → W'.heap[k]? = W.heap[k]?) (hb : Blk W' (gl + 2) cs2 41) (hbel : Below gl w W') : Qv w gl x vs sd cs2 W' := by
  refine ⟨?_, ?_, hb, h.os.keep fun k h1 _ => hk k (by omega), hbel⟩
  · have := h.xb; unfold Blk at *; rw [hk gl (by omega)]; exact this
  · have := h.rb; unfold Blk at *; rw [hk (gl + 1) (by omega)]; exact this
theorem wpAnyH_store {P : Program} {md : Region.Mode} {ops : Array Oper} {Q : Exit → Act → World → Prop} {S : World → Prop} {fuel : Nat} {listed : Array Bool} {a : Act} {w : World} (i : Nat) {oi : Oper} (ty : TypeId) (x y : Operand)
    (hr : Region.ready md ops listed = [i]) (hi : ops[i]? = some oi) (hw : Region.wanted oi (yielded ops a.tmps) = true) (ho : oi.op = .store ty x y)
    (b o : Nat) (cells : Array Value) (hx : a.eval x = .pointer (some ⟨b, o, none⟩)) (hy : a.eval y = .agg cells)
    (ht : w.there b o cells.size) (hz : (P.info? ty).map (·.size) = some cells.size) (h1 : cells.all (·.oneCell') = true) (hS : S (w.setCells b o cells.toList))
    (h : wpAnyH P md ops Q S fuel (listed.setIfInBounds i true) (a.put oi.dst undef) (w.setCells b o cells.toList)) : wpAnyH P md ops Q S (fuel + 1) listed a w :=
  wpAnyH_law i hr hi hw (wp_store_mid ty x y ho b o cells hx hy ht hz h1 ⟨hS, h⟩)
set_option maxRecDepth 100000 in
set_option maxHeartbeats 8000000 in
theorem trProve_any (w : World) (g : Nat) (l0 : List Lf) (x : List (BitVec 8)) (hT : TreeIs w 0 g l0) (hF : Fits l0 0) (hx : x.length = 32) :
    Calls Tryd.prog 19 #[.pointer (some ⟨g, 0, none⟩), .agg (cb x).toArray] w fun e w' => ∃ vs, e = .returned (.agg (prfV vs (pend (wayL l0 x 0).2).1 (pend (wayL l0 x 0).2).2.1 (pend (wayL l0 x 0).2).2.2).toArray) ∧ OwnD w' w.heap.size vs (wayL l0 x 0).1 ∧ Below w.heap.size w w' := by
  have HX32 : Hid (x.length = 32) := hx
  have HWY : Hid (Wy l0 x 0 l0 []) := Wy.start hF
  have HT : Hid (TreeIs w 0 g l0) := hT
  obtain ⟨gl, HGL⟩ : ∃ g, Hid (g = w.heap.size) := ⟨_, rfl⟩
  obtain ⟨w1, HW1⟩ : ∃ z, Hid (z = w.alloc (.cells (cb x).toArray 24)) := ⟨_, rfl⟩
  obtain ⟨w2, HW2⟩ : ∃ z, Hid (z = w1.alloc (.cells (prfV nilV 0 zb32 zb32).toArray 41)) := ⟨_, rfl⟩
  obtain ⟨w3, HW3⟩ : ∃ z, Hid (z = w2.alloc (.cells (prfV nilV 0 zb32 zb32).toArray 41)) := ⟨_, rfl⟩
  have s1 : w1.heap.size = gl + 1 := by rw [HW1.out, HGL.out]; simp
  have s2 : w2.heap.size = gl + 2 := by rw [HW2.out]; simp [s1]
  have t0 : Below gl w w1 := by rw [HW1.out, HGL.out]; exact below_alloc _ _
  have t1 : Below (gl + 1) w1 w2 := by rw [← s1, HW2.out]; exact below_alloc _ _
  have t2 : Below (gl + 2) w2 w3 := by rw [← s2, HW3.out]; exact below_alloc _ _
  have HI : Hid (Qv w gl x nilV [] (prfV nilV 0 zb32 zb32) w3) := by
    have h1 : Blk w1 gl (cb x) 24 := by rw [HW1.out, HGL.out]; exact Blk.new w _ _
    have h2 : Blk w2 (gl + 1) (prfV nilV 0 zb32 zb32) 41 := by rw [HW2.out, ← s1]; exact Blk.new w1 _ _
    have h3 : Blk w3 (gl + 2) (prfV nilV 0 zb32 zb32) 41 := by rw [HW3.out, ← s2]; exact Blk.new w2 _ _
    exact ⟨(h1.below t1 (by omega)).below t2 (by omega), h2.below t2 (by omega), h3, OwnD.nil _ _, (t0.trans (t1.mono (by omega))).trans (t2.mono (by omega))⟩
  have HS : Hid (w1.heap.size = gl + 1 ∧ w2.heap.size = gl + 2) := ⟨s1, s2⟩
  clear t0 t1 t2 hT hF hx s1 s2
  go_enter Tryd.func19, Tryd.ntmps19
  go_upto_region 2 with (first
    | (refine wpSeq_val _ _ (by rfl) (boxDigest _ _ (.tmp 1) rfl x rfl _) ?_)
    | (refine wpSeq_val _ _ (by rfl) (allocPrf _ _ rfl _) ?_))
  have e0 : (some ⟨w.heap.size, 0, none⟩ : Option Addr) = some ⟨gl, 0, none⟩ := by rw [HGL.out]
  simp only [e0]
  clear e0
  rw [← HW1.out, ← HW2.out, ← HW3.out, HS.out.1, HS.out.2]
  clear HW1 HW2 HW3 HS
  go_wp2_with fail
  go_loopg [0, 6] 300 (fun kx s0 s6 wr => ∃ (d g2 : Nat) (vs : Value) (l : List Lf) (sd : List (List (BitVec 8))), s0 = .pointer (some ⟨g2, 0, none⟩) ∧ s6 = .int .i64 (d : Int) ∧ 257 - d ≤ kx ∧ Hid (TreeIs w d g2 l) ∧ Hid (Qv w gl x vs sd (prfV vs 0 zb32 zb32) wr) ∧ Hid (Wy l0 x d l sd))
  case atStart => exact ⟨0, g, nilV, l0, [], rfl, rfl, by omega, HT, HI, HWY⟩
  case round =>
    clear HI HWY HT
    obtain ⟨d, g2, vs, l, sd, rfl, rfl, hkx, HT, HI, HW⟩ := hrel
    obtain ⟨n, HN⟩ : ∃ n, Hid (n = l.length) := ⟨_, rfl⟩
    have HBL : Hid (Below w.heap.size w wr) := by rw [← HGL.out]; exact HI.out.bel
    have c0 : wr.cell? ⟨g2, 0, none⟩ = some (.int .i64 (n : Int)) := by
      obtain ⟨ix, vl, pp, qq, hcc⟩ := (HT.out.next HBL.out).cells
      rw [HN.out]; exact hcc.cnt
    by_cases h2 : 2 ≤ n
    · have h2z : (n : Int) > 1 := by omega
      have h2z' : (1 : Int) < (n : Int) := by omega
      have h2d : decide ((n : Int) > 1) = true := decide_eq_true h2z
      have HN2 : Hid (2 ≤ l.length) := by show _ ≤ _; rw [← HN.out]; exact h2
      obtain ⟨g0, g1, t0, t1, hcc⟩ := HT.out.two HN2.out
      have hdlt : d < 256 := HW.out.fit.lt HN2.out
      have HCC : Hid (TreeC wr g2 l.length (rootL l d) zb32 zb32 (ptr g0) (ptr g1)) := hcc.next HBL.out
      have rd : IntKind.i64.wrap ((d : Int) + 1) = (d : Int) + 1 := by rw [IntKind.wrap_i64]; omega
      have HNX : Hid (Wy l0 x (d + 1) (halfL l d (bt x d)) (sd ++ [rootL (halfL l d (!bt x d)) (d + 1)])) := HW.out.next HN2.out
      obtain ⟨r, HRD⟩ : ∃ r, Hid (r = rootL (halfL l d (!bt x d)) (d + 1)) := ⟨_, rfl⟩
      rw [← HRD.out] at HNX
      have HRL : Hid (r.length = 32) := by show _ = _; rw [HRD.out]; exact rootL_len (HW.out.fit.half _)
      have HSL : Hid (sd.length < 2000000) := by show _ < _; have h1 := HW.out.sides; omega
      obtain ⟨ga, gb, HGA, HGB, HGG⟩ : ∃ ga gb, Hid (TreeIs w (d + 1) ga (halfL l d (bt x d))) ∧ Hid (TreeIs w (d + 1) gb (halfL l d (!bt x d))) ∧ Hid ((bif bt x d then ptr g1 else ptr g0) = .pointer (some ⟨ga, 0, none⟩) ∧ (bif bt x d then ptr g0 else ptr g1) = .pointer (some ⟨gb, 0, none⟩)) := by
        cases bt x d with
        | false => exact ⟨g0, g1, t0, t1, rfl, rfl⟩
        | true => exact ⟨g1, g0, t1, t0, rfl, rfl⟩
      have HRT : Hid (∀ wx, Below gl w wx → wx.rangeAt gb 1 (cb r)) := fun wx hx => by
        have hx' : Below w.heap.size w wx := by rw [← HGL.out]; exact hx
        obtain ⟨ix, vl, pp, qq, hcc⟩ := (HGB.out.next hx').cells
        rw [HRD.out]; exact hcc.root
      clear hcc t0 t1 HN2 HBL
      obtain ⟨ns, HNS⟩ : ∃ z : Nat, Hid (z = sd.length) := ⟨_, rfl⟩
      obtain ⟨ads, cps, hvs⟩ := HI.out.os.slice
      rw [← HNS.out] at hvs
      subst hvs
      go_upto_region 6 with (first
        | (with_reducible refine wpSeq_loadD (.tmp 3) gl x ?_ ?_ ?_ ?_ ?_ ?_
           · exact HX32.out
           · exact HI.out.xb
           · rfl
           · rfl
           · rfl)
        | (go_at_call 31; refine (trSides_any _ g2 _ g0 g1 d _ _ _ x HCC.out HX32.out hdlt).mono ?_; rintro e w7 ⟨rfl, hbq⟩
           rw [HGG.out.1, HGG.out.2]
           replace HI : Hid (Qv w gl x (.slice ads ns cps) sd (prfV (.slice ads ns cps) 0 zb32 zb32) w7) := HI.out.next hbq
           clear hbq HCC HGG c0))
      refine wp_region_held_drew (S := Below gl w) (by kernel_rfl) HI.out.drew.bel ?_
      intro hS
      have hI := HI.out.drew
      clear HI
      change wpAnyH _ _ _ _ _ _ _ _ (World.drew w7)
      generalize World.drew w7 = y2 at *
      refine wpAnyH_take (i := 0) (v := .pointer (some ⟨gl + 2, 0, none⟩)) rfl (by kernel_rfl) (by kernel_rfl) (by kernel_rfl) (fun _ _ _ h => h) (Or.inl ⟨by rfl, fun wx hx => by simp [go_sem]⟩) hS ?_
      simp only [Act.put, List.getElem_toArray, List.getElem_cons_zero, List.setIfInBounds_toArray, List.set_cons_zero, List.set_cons_succ]
      refine wpAnyH_take (i := 2) (v := .pointer (some ⟨gb, 0, none⟩)) rfl (by kernel_rfl) (by kernel_rfl) (by kernel_rfl) (fun _ _ _ h => h) (Or.inl ⟨by rfl, fun wx hx => by simp [go_sem]⟩) hS ?_
      simp only [Act.put, List.getElem_toArray, List.getElem_cons_succ, List.getElem_cons_zero, List.setIfInBounds_toArray, List.set_cons_zero, List.set_cons_succ]
      refine wpAnyH_take (i := 3) (v := .pointer (some ⟨gb, 0, none⟩)) rfl (by kernel_rfl) (by kernel_rfl) (by kernel_rfl) (fun _ _ _ h => h) (Or.inl ⟨by rfl, fun wx hx => by simp [go_sem]⟩) hS ?_
      simp only [Act.put, List.getElem_toArray, List.getElem_cons_succ, List.getElem_cons_zero, List.setIfInBounds_toArray, List.set_cons_zero, List.set_cons_succ]
      refine wpAnyH_take (i := 4) (v := .pointer (some ⟨gb, 1, none⟩)) rfl (by kernel_rfl) (by kernel_rfl) (by kernel_rfl) (fun _ _ _ h => h) (Or.inl ⟨by rfl, fun wx hx => by simp [go_sem]⟩) hS ?_
      simp only [Act.put, List.getElem_toArray, List.getElem_cons_succ, List.getElem_cons_zero, List.setIfInBounds_toArray, List.set_cons_zero, List.set_cons_succ]
      refine wpAnyH_take (i := 5) (v := .agg (cb r).toArray) rfl (by kernel_rfl) (by kernel_rfl) (by kernel_rfl) (fun _ _ _ h => h) (Or.inl ⟨by rfl, fun wx hx => by exact load_run 24 _ rfl _ _ rfl (cb r) _ (HRT.out wx hx) Tryd.underlying24 rfl (by rw [cb_len, HRL.out]; exact info_digest)⟩) hS ?_
      simp only [Act.put, List.getElem_toArray, List.getElem_cons_succ, List.getElem_cons_zero, List.setIfInBounds_toArray, List.set_cons_zero, List.set_cons_succ]
      have hnb := NewB.of r y2
      have hn1 := hI.next hnb.below
      have hce : y2.cell? ⟨gl + 2, 0, none⟩ = some (.slice ads ns cps) := hI.pb.cell 0
      have hce2 : (y2.alloc (.cells (cb r).toArray 24)).cell? ⟨gl + 2, 0, none⟩ = some (.slice ads ns cps) := hn1.pb.cell 0
      refine wpAnyH_comm 1 6 (.slice ads ns cps) (.slice (some ⟨y2.heap.size, 0, none⟩) 1 1) (y2.alloc (.cells (cb r).toArray 24)) (by kernel_rfl) rfl rfl (by rfl) (by rfl) (by rfl) (by rfl) (by simp [go_sem, hce]) (buildD _ _ _ rfl r HRL.out rfl _) (by simp [go_sem, hce2]) (buildD _ _ _ rfl r HRL.out rfl _) (by kernel_rfl) (by kernel_rfl) (by rfl) (by rfl) hI.bel hn1.bel ?_
      clear hce hce2
      simp only [Act.put, List.getElem_toArray, List.getElem_cons_succ, List.getElem_cons_zero, List.setIfInBounds_toArray, List.set_cons_zero, List.set_cons_succ]
      refine wpAnyH_law 7 (by kernel_rfl) rfl (by rfl) (wp_appendG (.tmp 24) (.tmp 29) (gl + 3) (.slice ads ns cps) sd r y2.heap.size hn1.os hnb.blk HRL.out HSL.out hn1.pb.lt rfl rfl rfl ?_)
      intro z9 q9 ho hg
      have hJ := hn1.side ho hg
      have hb9 := hn1.pb.grow hg (fun j hj => (hn1.os.lt j hj).1) (Nat.lt_succ_self _)
      have hl9 : Below gl w q9 := hn1.bel.trans (hg.below.mono (by omega))
      have hc9 : q9.cell? ⟨gl + 2, 0, none⟩ = some (.slice ads ns cps) := hb9.cell 0
      have hf9 := hb9.frozen 0
      obtain ⟨a9, c9, hx9⟩ := ho.slice
      obtain ⟨n9, HN9⟩ : ∃ z : Nat, Hid (z = (sd ++ [r]).length) := ⟨_, rfl⟩
      rw [← HN9.out] at hx9
      subst hx9
      refine ⟨hl9, ?_⟩
      simp only [Act.put, List.getElem_toArray, List.getElem_cons_succ, List.getElem_cons_zero, List.setIfInBounds_toArray, List.set_cons_zero, List.set_cons_succ]
      refine wpAnyH_take (i := 8) (v := .pointer (some ⟨gl + 2, 0, none⟩)) rfl (by kernel_rfl) (by kernel_rfl) (by kernel_rfl) (fun _ _ _ h => h) (Or.inl ⟨by rfl, fun wx hx => by simp [go_sem]⟩) hl9 ?_
      simp only [Act.put, List.getElem_toArray, List.getElem_cons_succ, List.getElem_cons_zero, List.setIfInBounds_toArray, List.set_cons_zero, List.set_cons_succ]
      refine wpAnyH_skip 9 (q9.setCell ⟨gl + 2, 0, none⟩ (.slice a9 n9 c9)) (by kernel_rfl) rfl (by rfl) (by simp [go_sem, hc9, hf9]) hJ.bel ?_
      simp only [Act.put, List.getElem_toArray, List.getElem_cons_succ, List.getElem_cons_zero]
      refine wpAnyH_done (by kernel_rfl) ?_ _
      have HI : Hid (Qv w gl x (.slice a9 n9 c9) (sd ++ [r]) (prfV (.slice a9 n9 c9) 0 zb32 zb32) (q9.setCell ⟨gl + 2, 0, none⟩ (.slice a9 n9 c9))) := hJ
      clear hI hn1 hnb ho hg hJ hb9 hl9 hc9 hf9 hS
      generalize q9.setCell ⟨gl + 2, 0, none⟩ (.slice a9 n9 c9) = w8 at *
      generalize Value.slice a9 n9 c9 = vs2 at *
      go_wp2_with fail
      go_roundg (257 - (d + 1))
      case measure => omega
      case rel => exact ⟨d + 1, ga, vs2, _, _, rfl, by go_num, Nat.le_refl _, HGA, HI, HNX⟩
    · have h2z : ¬ ((n : Int) > 1) := by omega
      have h2z' : ¬ ((1 : Int) < (n : Int)) := by omega
      have h2d : decide ((n : Int) > 1) = false := decide_eq_false h2z
      have HDN : Hid (wayL l0 x 0 = (sd, l.head?)) := HW.out.done (by rw [← HN.out]; omega)
      obtain ⟨ns, HNS⟩ : ∃ z : Nat, Hid (z = sd.length) := ⟨_, rfl⟩
      obtain ⟨ads, cps, hvs⟩ := HI.out.os.slice
      rw [← HNS.out] at hvs
      subst hvs
      go_upto_region 8 with fail
      clear h2z h2z' h2d
      by_cases hz : n = 0
      · subst hz
        have hnil : l = [] := List.length_eq_zero_iff.1 HN.out.symm
        obtain ⟨cs, HCS⟩ : ∃ c, Hid (c = prfV (.slice ads ns cps) 0 zb32 zb32) := ⟨_, rfl⟩
        have HF : Hid (Qv w gl x (.slice ads ns cps) sd cs wr) := by rw [HCS.out]; exact HI.out
        have HCE : Hid (prfV (.slice ads ns cps) (pend (wayL l0 x 0).2).1 (pend (wayL l0 x 0).2).2.1 (pend (wayL l0 x 0).2).2.2 = cs) := by show _ = _; rw [HDN.out, hnil, HCS.out]; rfl
        have HIC : Hid ((Tryd.prog.info? 41).map (·.size) = some cs.length) := by show _ = _; rw [HCS.out, prfV_len zb32_len zb32_len]; exact info_proof
        have H1C : Hid (cs.toArray.all (·.oneCell') = true) := by show _ = _; rw [HCS.out]; exact all_oneCell_toArray (prfV_one rfl)
        have HLC : Hid (cs.length = 66) := by show _ = _; rw [HCS.out, prfV_len zb32_len zb32_len]
        clear hnil HCS HI
        go_wp2_with (first
          | (refine wpSeq_val (.agg cs.toArray) _ (by rfl) (load_run 41 _ rfl (gl + 2) 0 rfl cs _ HF.out.pb.range Tryd.underlying41 rfl HIC.out) ?_)
          | (with_reducible refine wpList_store_mid ?_ 41 (.tmp 4) (.tmp 49) ?_ (gl + 1) 0 cs.toArray ?_ ?_ (HF.out.rb.there 0 _ (by rw [List.size_toArray, HLC.out, prfV_len zb32_len zb32_len]; omega)) (by rw [List.size_toArray]; exact HIC.out) H1C.out ?_
             · rfl
             · rfl
             · rfl
             · rfl))
        have hB6 := HF.out.rb.whole cs (by rw [HLC.out, prfV_len zb32_len zb32_len])
        refine bodyPost_ret (v := Value.agg cs.toArray) ?_ rfl ⟨.slice ads ns cps, by rw [HCE.out], ?_, ?_⟩
        · exact results_cell_row (by rfl) _ _ (gl + 1) 41 _ (0, 0) _ rfl hB6 Tryd.underlying41 rfl (by rw [List.size_toArray]; exact HIC.out)
        · rw [HDN.out]
          refine (HF.out.os.keep fun j h1 _ => ?_).mono (by have := HGL.out; omega)
          exact (At'.setCells cs 0 wr (fun _ _ => rfl) j (by omega))
        · have hbb : Below gl w (wr.setCells (gl + 1) 0 cs) := Below.setCells _ (by omega) _ _ _ HF.out.bel
          rw [← HGL.out]
          exact hbb
      · have h1 : n = 1 := by omega
        subst h1
        obtain ⟨p, hp⟩ : ∃ p, l = [p] := List.length_eq_one_iff.1 HN.out.symm
        subst hp
        obtain ⟨px, pv⟩ := p
        have HTC : Hid (∀ wx, Below gl w wx → TreeC wx g2 1 (dig (pairB 76 px pv)) px pv (.pointer none) (.pointer none)) := fun wx hx => by
          have hx' : Below w.heap.size w wx := by rw [← HGL.out]; exact hx
          exact (HT.out.next hx').one
        have HPX : Hid (px.length = 32) := (HTC.out w (Below.refl _ _)).l2
        have HPV : Hid (pv.length = 32) := (HTC.out w (Below.refl _ _)).l3
        go_upto_region 9 with fail
        clear c0
        refine wp_region_held_drew (S := Below gl w) (by kernel_rfl) HI.out.drew.bel ?_
        intro hS
        have hI := HI.out.drew
        clear HI
        change wpAnyH _ _ _ _ _ _ _ _ (World.drew wr)
        generalize World.drew wr = y0 at *
        refine wpAnyH_take (i := 0) (v := .pointer (some ⟨g2, 0, none⟩)) rfl (by kernel_rfl) (by kernel_rfl) (by kernel_rfl) (fun _ _ _ h => h) (Or.inl ⟨by rfl, fun wx hx => by simp [go_sem]⟩) hS ?_
        simp only [Act.put, List.getElem_toArray, List.getElem_cons_zero, List.setIfInBounds_toArray, List.set_cons_zero, List.set_cons_succ]
        refine wpAnyH_take (i := 1) (v := .pointer (some ⟨g2, 0, none⟩)) rfl (by kernel_rfl) (by kernel_rfl) (by kernel_rfl) (fun _ _ _ h => h) (Or.inl ⟨by rfl, fun wx hx => by simp [go_sem]⟩) hS ?_
        simp only [Act.put, List.getElem_toArray, List.getElem_cons_succ, List.getElem_cons_zero, List.setIfInBounds_toArray, List.set_cons_zero, List.set_cons_succ]
        refine wpAnyH_take (i := 2) (v := .pointer (some ⟨g2, 33, none⟩)) rfl (by kernel_rfl) (by kernel_rfl) (by kernel_rfl) (fun _ _ _ h => h) (Or.inl ⟨by rfl, fun wx hx => by simp [go_sem]⟩) hS ?_
        simp only [Act.put, List.getElem_toArray, List.getElem_cons_succ, List.getElem_cons_zero, List.setIfInBounds_toArray, List.set_cons_zero, List.set_cons_succ]
        refine wpAnyH_take (i := 3) (v := .agg (cb px).toArray) rfl (by kernel_rfl) (by kernel_rfl) (by kernel_rfl) (fun _ _ _ h => h) (Or.inl ⟨by rfl, fun wx hx => by exact load_run 24 _ rfl _ _ rfl (cb px) _ ((HTC.out wx hx).index) Tryd.underlying24 rfl (by rw [cb_len, HPX.out]; exact info_digest)⟩) hS ?_
        simp only [Act.put, List.getElem_toArray, List.getElem_cons_succ, List.getElem_cons_zero, List.setIfInBounds_toArray, List.set_cons_zero, List.set_cons_succ]
        refine wpAnyH_take (i := 4) (v := .pointer (some ⟨g2, 0, none⟩)) rfl (by kernel_rfl) (by kernel_rfl) (by kernel_rfl) (fun _ _ _ h => h) (Or.inl ⟨by rfl, fun wx hx => by simp [go_sem]⟩) hS ?_
        simp only [Act.put, List.getElem_toArray, List.getElem_cons_succ, List.getElem_cons_zero, List.setIfInBounds_toArray, List.set_cons_zero, List.set_cons_succ]
        refine wpAnyH_take (i := 5) (v := .pointer (some ⟨g2, 0, none⟩)) rfl (by kernel_rfl) (by kernel_rfl) (by kernel_rfl) (fun _ _ _ h => h) (Or.inl ⟨by rfl, fun wx hx => by simp [go_sem]⟩) hS ?_
        simp only [Act.put, List.getElem_toArray, List.getElem_cons_succ, List.getElem_cons_zero, List.setIfInBounds_toArray, List.set_cons_zero, List.set_cons_succ]
        refine wpAnyH_take (i := 6) (v := .pointer (some ⟨g2, 65, none⟩)) rfl (by kernel_rfl) (by kernel_rfl) (by kernel_rfl) (fun _ _ _ h => h) (Or.inl ⟨by rfl, fun wx hx => by simp [go_sem]⟩) hS ?_
        simp only [Act.put, List.getElem_toArray, List.getElem_cons_succ, List.getElem_cons_zero, List.setIfInBounds_toArray, List.set_cons_zero, List.set_cons_succ]
        refine wpAnyH_take (i := 7) (v := .agg (cb pv).toArray) rfl (by kernel_rfl) (by kernel_rfl) (by kernel_rfl) (fun _ _ _ h => h) (Or.inl ⟨by rfl, fun wx hx => by exact load_run 24 _ rfl _ _ rfl (cb pv) _ ((HTC.out wx hx).value) Tryd.underlying24 rfl (by rw [cb_len, HPV.out]; exact info_digest)⟩) hS ?_
        simp only [Act.put, List.getElem_toArray, List.getElem_cons_succ, List.getElem_cons_zero, List.setIfInBounds_toArray, List.set_cons_zero, List.set_cons_succ]
        refine wpAnyH_take (i := 8) (v := .pointer (some ⟨gl + 2, 1, none⟩)) rfl (by kernel_rfl) (by kernel_rfl) (by kernel_rfl) (fun _ _ _ h => h) (Or.inl ⟨by rfl, fun wx hx => by simp [go_sem]⟩) hS ?_
        simp only [Act.put, List.getElem_toArray, List.getElem_cons_succ, List.getElem_cons_zero, List.setIfInBounds_toArray, List.set_cons_zero, List.set_cons_succ]
        have ce : y0.cell? ⟨gl + 2, 1, none⟩ = some (.int .i64 0) := hI.pb.cell 1
        have fe : y0.frozen? ⟨gl + 2, 1, none⟩ = false := hI.pb.frozen 1
        have hI1 : Qv w gl x (.slice ads ns cps) sd (prfV (.slice ads ns cps) 1 zb32 zb32) (y0.setCell ⟨gl + 2, 1, none⟩ (.int .i64 1)) := hI.at (fun k hk => heap_one hk) (hI.pb.set 1 _) (hI.bel.setCell (by show gl ≤ gl + 2; omega) _)
        refine wpAnyH_skip 9 (y0.setCell ⟨gl + 2, 1, none⟩ (.int .i64 1)) (by kernel_rfl) rfl (by rfl) (by simp [go_sem, ce, fe]) hI1.bel ?_
        simp only [Act.put, List.getElem_toArray, List.getElem_cons_succ, List.getElem_cons_zero]
        clear ce fe hI
        generalize y0.setCell ⟨gl + 2, 1, none⟩ (.int .i64 1) = u1 at *
        refine wpAnyH_take (i := 10) (v := .pointer (some ⟨gl + 2, 2, none⟩)) rfl (by kernel_rfl) (by kernel_rfl) (by kernel_rfl) (fun _ _ _ h => h) (Or.inl ⟨by rfl, fun wx hx => by simp [go_sem]⟩) hI1.bel ?_
        simp only [Act.put, List.getElem_toArray, List.getElem_cons_succ, List.getElem_cons_zero, List.setIfInBounds_toArray, List.set_cons_zero, List.set_cons_succ]
        have hI2 : Qv w gl x (.slice ads ns cps) sd (prfV (.slice ads ns cps) 1 px zb32) (u1.setCells (gl + 2) 2 (cb px)) := hI1.at (fun k hk => At'.setCells _ _ _ (fun _ _ => rfl) k hk) (prfV_ix hI1.pb zb32_len HPX.out) (Below.setCells _ (by omega) _ _ _ hI1.bel)
        refine wpAnyH_store 11 24 (.tmp 47) (.tmp 41) (by kernel_rfl) rfl (by rfl) rfl (gl + 2) 2 (cb px).toArray rfl rfl (hI1.pb.there 2 _ (by rw [List.size_toArray, cb_len, HPX.out, prfV_len zb32_len zb32_len]; omega)) (by rw [List.size_toArray, cb_len, HPX.out]; exact info_digest) (all_oneCell_toArray (cb_one px)) (by rw [List.toList_toArray]; exact hI2.bel) ?_
        simp only [Act.put, List.getElem_toArray, List.getElem_cons_succ, List.getElem_cons_zero]
        try rw [List.toList_toArray]
        clear hI1
        generalize u1.setCells (gl + 2) 2 (cb px) = u2 at *
        refine wpAnyH_take (i := 12) (v := .pointer (some ⟨gl + 2, 34, none⟩)) rfl (by kernel_rfl) (by kernel_rfl) (by kernel_rfl) (fun _ _ _ h => h) (Or.inl ⟨by rfl, fun wx hx => by simp [go_sem]⟩) hI2.bel ?_
        simp only [Act.put, List.getElem_toArray, List.getElem_cons_succ, List.getElem_cons_zero, List.setIfInBounds_toArray, List.set_cons_zero, List.set_cons_succ]
        have hI3 : Qv w gl x (.slice ads ns cps) sd (prfV (.slice ads ns cps) 1 px pv) (u2.setCells (gl + 2) 34 (cb pv)) := hI2.at (fun k hk => At'.setCells _ _ _ (fun _ _ => rfl) k hk) (prfV_va hI2.pb HPX.out zb32_len HPV.out) (Below.setCells _ (by omega) _ _ _ hI2.bel)
        refine wpAnyH_store 13 24 (.tmp 48) (.tmp 45) (by kernel_rfl) rfl (by rfl) rfl (gl + 2) 34 (cb pv).toArray rfl rfl (hI2.pb.there 34 _ (by rw [List.size_toArray, cb_len, HPV.out, prfV_len HPX.out zb32_len]; omega)) (by rw [List.size_toArray, cb_len, HPV.out]; exact info_digest) (all_oneCell_toArray (cb_one pv)) (by rw [List.toList_toArray]; exact hI3.bel) ?_
        simp only [Act.put, List.getElem_toArray, List.getElem_cons_succ, List.getElem_cons_zero]
        try rw [List.toList_toArray]
        clear hI2 hS
        generalize u2.setCells (gl + 2) 34 (cb pv) = u3 at *
        refine wpAnyH_done (by kernel_rfl) ?_ _
        obtain ⟨cs, HCS⟩ : ∃ c, Hid (c = (prfV (.slice ads ns cps) 1 px pv)) := ⟨_, rfl⟩
        have HF : Hid (Qv w gl x (.slice ads ns cps) sd cs u3) := by rw [HCS.out]; exact hI3
        have HCE : Hid (prfV (.slice ads ns cps) (pend (wayL l0 x 0).2).1 (pend (wayL l0 x 0).2).2.1 (pend (wayL l0 x 0).2).2.2 = cs) := by show _ = _; rw [HDN.out, HCS.out]; rfl
        have HIC : Hid ((Tryd.prog.info? 41).map (·.size) = some cs.length) := by show _ = _; rw [HCS.out, prfV_len HPX.out HPV.out]; exact info_proof
        have H1C : Hid (cs.toArray.all (·.oneCell') = true) := by show _ = _; rw [HCS.out]; exact all_oneCell_toArray (prfV_one rfl)
        have HLC : Hid (cs.length = 66) := by show _ = _; rw [HCS.out, prfV_len HPX.out HPV.out]
        clear HCS hI3
        go_wp2_with (first
          | (refine wpSeq_val (.agg cs.toArray) _ (by rfl) (load_run 41 _ rfl (gl + 2) 0 rfl cs _ HF.out.pb.range Tryd.underlying41 rfl HIC.out) ?_)
          | (with_reducible refine wpList_store_mid ?_ 41 (.tmp 4) (.tmp 49) ?_ (gl + 1) 0 cs.toArray ?_ ?_ (HF.out.rb.there 0 _ (by rw [List.size_toArray, HLC.out, prfV_len zb32_len zb32_len]; omega)) (by rw [List.size_toArray]; exact HIC.out) H1C.out ?_
             · rfl
             · rfl
             · rfl
             · rfl))
        have hB6 := HF.out.rb.whole cs (by rw [HLC.out, prfV_len zb32_len zb32_len])
        refine bodyPost_ret (v := Value.agg cs.toArray) ?_ rfl ⟨.slice ads ns cps, by rw [HCE.out], ?_, ?_⟩
        · exact results_cell_row (by rfl) _ _ (gl + 1) 41 _ (0, 0) _ rfl hB6 Tryd.underlying41 rfl (by rw [List.size_toArray]; exact HIC.out)
        · rw [HDN.out]
          refine (HF.out.os.keep fun j h1 _ => ?_).mono (by have := HGL.out; omega)
          exact (At'.setCells cs 0 u3 (fun _ _ => rfl) j (by omega))
        · have hbb : Below gl w (u3.setCells (gl + 1) 0 cs) := Below.setCells _ (by omega) _ _ _ HF.out.bel
          rw [← HGL.out]
          exact hbb
end Go.Proofs.YtphacinnnepdoaaDoor
/- The landed tree's functions do what the chapter says. -/
namespace Go.Proofs.YtphacinnnepdoaaDoor
open Go.RowKit
theorem zip_okR {W : World} {vt vu : Value} {ds es : List (List (BitVec 8))} (h1 : ReadsD W vt ds) (h2 : ReadsD W vu es) : okLf (ds.zip es) := fun _ hp => ⟨h1.2 _ (List.of_mem_zip hp).1, h2.2 _ (List.of_mem_zip hp).2⟩
set_option maxHeartbeats 1000000 in
theorem trOf_any (w : World) (vt vu : Value) (ds es : List (List (BitVec 8))) (hK : KOk w) (hA : ReadsD w vt ds) (hB : ReadsD w vu es) (hl : ds.length < 50000) :
    Calls Tryd.prog 11 #[vt, vu] w fun e w' => ∃ g, e = .returned (.pointer (some ⟨g, 0, none⟩)) ∧ TT w' g (ofL (ds.zip es)) ∧ Below w.heap.size w w' := by
  have HK : Hid (KOk w) := hK
  have HG : Hid (okLf (ofL (ds.zip es)) ∧ Up (ofL (ds.zip es))) := ofL_good _ (zip_okR hA hB)
  have HR : Hid (Calls Tryd.prog 27 #[vt, vu] w fun e w' => ∃ ad B n cap qs, e = .returned (.slice ad n cap) ∧ qs.length = n ∧ n ≤ cap ∧ (n = 0 ∨ ad = some ⟨B, 0, none⟩) ∧ n < 100000 ∧ LvRow w' B 0 qs ∧ qs.map (·.2) = ofL (ds.zip es) ∧ Below w.heap.size w w') := trRising_any w vt vu ds es hK hA hB hl
  clear hK hA hB hl
  go_enter Tryd.func11, Tryd.ntmps11
  go_wp2_with (first
    | (go_at_call 27; refine HR.out.mono ?_; rintro e w1 ⟨ad, B, n, cap, qs, rfl, h1, h2, h3, h4, h5, h6, h7⟩
       have HBW : Hid (Below w.heap.size w w1) := h7
       have HC : Hid (Calls Tryd.prog 26 #[.slice ad n cap, .int .i64 ((0 : Nat) : Int)] w1 fun e w' => ∃ g, e = .returned (.pointer (some ⟨g, 0, none⟩)) ∧ TreeIs w' 0 g (ofL (ds.zip es)) ∧ Below w1.heap.size w1 w') := by
         have := trBelow_any 256 0 ad B 0 n cap qs w1 (by omega) (HK.out.below h7 HK.out.lt) h5 h1 h2 h3 h4 (by rw [h6]; exact fits_zero HG.out.1 HG.out.2)
         rw [h6] at this
         exact this
       clear h1 h2 h3 h4 h5 h6 h7)
    | (go_at_call 26; refine HC.out.mono ?_; rintro e w2 ⟨g, rfl, ht, hb⟩))
  go_ret
  exact ⟨g, rfl, ⟨ht, HG.out⟩, HBW.out.trans (hb.mono HBW.out.size)⟩
set_option maxHeartbeats 1000000 in
theorem trPut_any (w : World) (g : Nat) (l : List Lf) (x v : List (BitVec 8)) (hK : KOk w) (hT : TT w g l) (hl : l.length < 90000) (hx : x.length = 32) (hv : v.length = 32) :
    Calls Tryd.prog 22 #[.pointer (some ⟨g, 0, none⟩), .agg (cb x).toArray, .agg (cb v).toArray] w fun e w' => ∃ g', e = .returned (.pointer (some ⟨g', 0, none⟩)) ∧ TT w' g' (putL l x v) ∧ Below w.heap.size w w' := by
  have HK : Hid (KOk w) := hK
  have HT : Hid (TT w g l) := hT
  have HL : Hid (l.length < 90000) := hl
  have HX : Hid (x.length = 32) := hx
  have HV : Hid (v.length = 32) := hv
  clear hK hT hl hx hv
  go_enter Tryd.func22, Tryd.ntmps22
  go_wp2_with (first
    | (with_reducible refine wpSeq_boxD (.tmp 1) x ?_ ?_ ?_ ?_
       · rfl
       · rfl
       · rfl
       intro gx wx nn
       have HBX : Hid (Blk wx gx (cb x) 24) := nn.blk
       have HBW : Hid (Below w.heap.size w wx) := nn.below
       clear nn)
    | (with_reducible refine wpSeq_boxD (.tmp 2) v ?_ ?_ ?_ ?_
       · rfl
       · rfl
       · rfl
       intro gv wv nn
       replace HBX : Hid (Blk wv gx (cb x) 24) := HBX.out.below nn.below HBX.out.lt
       have HBV : Hid (Blk wv gv (cb v) 24) := nn.blk
       replace HBW : Hid (Below w.heap.size w wv) := HBW.out.trans (nn.below.mono HBW.out.size)
       clear nn)
    | (with_reducible refine wpSeq_loadD (.tmp 4) gx x ?_ ?_ ?_ ?_ ?_ ?_
       · exact HX.out
       · exact HBX.out
       · rfl
       · rfl
       · rfl)
    | (with_reducible refine wpSeq_loadD (.tmp 5) gv v ?_ ?_ ?_ ?_ ?_ ?_
       · exact HV.out
       · exact HBV.out
       · rfl
       · rfl
       · rfl)
    | (go_at_call 36; refine (trSingle_any x v HX.out HV.out _ (HK.out.below HBW.out HK.out.lt)).mono ?_; rintro e w1 ⟨gl, rfl, hge, hc, hb⟩
       replace HBW : Hid (Below w.heap.size w w1) := HBW.out.trans (hb.mono HBW.out.size)
       have HW : Hid (Wt w1 0 g gl l x v) := ⟨HK.out.below HBW.out HK.out.lt, HT.out.1.next HBW.out, hc⟩
       have HC : Hid (Calls Tryd.prog 35 #[.pointer (some ⟨g, 0, none⟩), .pointer (some ⟨gl, 0, none⟩), .int .i64 ((0 : Nat) : Int)] w1 fun e w' => ∃ g', e = .returned (.pointer (some ⟨g', 0, none⟩)) ∧ TreeIs w' 0 g' (putL l x v) ∧ Below w1.heap.size w1 w') := trWith_any 256 0 g gl l x v w1 (by omega) (by omega) HW.out (fits_zero HT.out.2.1 HT.out.2.2) (Near.zero _ _) HL.out
       clear hge hc hb HBX HBV)
    | (go_at_call 35; refine HC.out.mono ?_; rintro e w2 ⟨g2, rfl, ht, hb⟩))
  go_ret
  exact ⟨g2, rfl, ⟨ht, putL_ok HT.out.2.1 HX.out HV.out, putL_up HT.out.2.1 HX.out HT.out.2.2⟩, HBW.out.trans (hb.mono HBW.out.size)⟩
theorem trOps : TrOps TT where
  next := TT.next
  good h := h.2
  empty W hK := (trEmpty_any W hK).mono fun _ _ ⟨g, he, hc, hb⟩ => ⟨g, he, ⟨.none 0 g hc, fun p hp => by simp at hp, List.Pairwise.nil⟩, hb⟩
  put W g l x v hK hT hl hx hv := trPut_any W g l x v hK hT (by omega) hx hv
  ofs W vt vu ds es hK hA hB hl := trOf_any W vt vu ds es hK hA hB (by omega)
  len W g l hT := trLen_any W 0 g l hT.1
  root W g l hK hT := trRoot_any W 0 g l hK hT.1 (fits_zero hT.2.1 hT.2.2)
  get W g l x hT hx := trGet_any W g l x hT.1 (fits_zero hT.2.1 hT.2.2) hx
  prove W g l x _ hT hx := trProve_any W g l x hT.1 (fits_zero hT.2.1 hT.2.2) hx
end Go.Proofs.YtphacinnnepdoaaDoor
/- What the listed variable gives: the rounds' words lie where the walks look for them. -/
namespace Go.Proofs.YtphacinnnepdoaaDoor
open Go.ChangeShapes Go.WideShapes Go.ChangeAt Go.WideMaps Go.WideElems Go.RowKit
set_option maxRecDepth 100000
theorem own : ownKnob Tryd.prog.godebug = none := by kernel_rfl
theorem gKw : Tryd.prog.globalNamed "blazon/sha.roundWords" = some 1 := by kernel_rfl
theorem tKw : (Tryd.prog.globals[1]?).map (·.type) = some 102 := by kernel_rfl
def laidK : List (String × DataW Unit) := [("blazon/sha.roundWords", Rows.laid_blazon_sha_roundWords)]
def kzs : List Int := kw.map fun x => (x.toNat : Int)
theorem laid_tab : (Rows.laid_blazon_sha_roundWords : DataW Unit) = Lib.tabData .u32 kzs := by kernel_rfl
theorem door_met (os : Os) (args : Array Value) : laidMetH Tryd.prog laidK ((World.doorLaid Tryd.prog 400 os).forCall (fun _ _ => 0) ⟨#[], args, []⟩).memory :=
  laidMetH_of_parts3 (fuel := 8) (laidMet_of_run' 8 (by kernel_rfl) (by kernel_rfl)) (by kernel_rfl) (by kernel_rfl)
theorem getD_toNat (l : List (BitVec 32)) (j : Nat) : (l.map fun x => (x.toNat : Int)).getD j 0 = ((l.getD j 0).toNat : Int) := by
  rw [List.getD_eq_getElem?_getD, List.getD_eq_getElem?_getD, List.getElem?_map]
  cases l[j]? <;> rfl
theorem kok_of_laid {W : World} (h : laidMetH Tryd.prog laidK W) : KOk W := by
  rw [MakeChecks.laidMetH_plain _ _ _ (by kernel_rfl)] at h
  unfold laidK at h
  rw [laid_tab] at h
  have hT := Lib.tabIs_of_head gKw tKw Tryd.underlying102 Tryd.underlying90 (by kernel_rfl) (by kernel_rfl) h
  intro j hj
  rw [hT.cell gKw j (by simpa [kzs, kw] using hj), kzs, getD_toNat]
end Go.Proofs.YtphacinnnepdoaaDoor
/- What a slice of bytes that came in gives: the bytes that it reads as; and that it reads so still behind a call that changed no old block. -/
namespace Go.Proofs.YtphacinnnepdoaaDoor
open Go.ChangeShapes Go.WideShapes Go.ChangeAt Go.WideMaps Go.WideElems Go.RowKit
set_option maxRecDepth 100000
theorem cells_byte : Tryd.prog.cellsOf 5 = 1 := by kernel_rfl
theorem laid_out : laidOutB Tryd.prog = true := by kernel_rfl
theorem readable_bytes : Tryd.prog.readableRec 68 = true := by kernel_rfl
theorem row_bytes : 68 < Tryd.prog.types.size := of_decide_eq_true (by kernel_rfl)
theorem byte_range {zs : List Int} (h : ∀ n ∈ zs, (Lit.int .u8 n).wf = true) (j : Nat) : 0 ≤ zs.getD j 0 ∧ zs.getD j 0 < 256 := by
  rw [List.getD_eq_getElem?_getD]
  cases hj : zs[j]? with
  | none => simp
  | some n =>
    have := h n (List.mem_of_getElem? hj)
    have := bounds_u8 this
    simp
    omega
theorem reads_of_trod {H : Type} {enc : TypeId × Value → H} {W : World} {base : Nat} {v : Value} {d : DataW H} {p : List MemPlace} (hval : Value.okWide Tryd.prog W .any base 68 v)
    (h : DataW.Trod enc Tryd.prog W 0 (fun _ => true) true 68 v d p) :
    ∃ bs, Reads W v bs ∧ bs.length ≤ maxLen ∧ ∀ x ∈ p, x.block < W.heap.size := by
  obtain ⟨a1, len, cap, rfl⟩ := okWide_slice Tryd.underlying68 hval
  obtain ⟨fuel, hf⟩ := h
  rcases open_ints Tryd.underlying68 Tryd.underlying5 cells_byte hf with ⟨hcs, hx⟩ | ⟨a, len', cap', zs, hcs, _, hl, hm, hz, hx, hcell, hwz⟩
  · simp [Value.cells] at hcs
    obtain ⟨rfl, rfl, rfl⟩ := hcs
    simp only [Prod.mk.injEq] at hx
    obtain ⟨rfl, rfl⟩ := hx
    exact ⟨[], ⟨none, 0, rfl, Nat.le_refl _, fun _ => rfl, fun h => by cases h⟩, Nat.zero_le _, fun _ h => by cases h⟩
  · simp [Value.cells] at hcs
    obtain ⟨rfl, rfl, rfl⟩ := hcs
    simp only [Prod.mk.injEq] at hx
    obtain ⟨rfl, rfl⟩ := hx
    simp only [if_true] at hz
    have hlen : ((zs.take len).map fun n => BitVec.ofInt 8 n).length = len := by simp; omega
    obtain ⟨ab, ao, spot⟩ := a
    refine ⟨(zs.take len).map fun n => BitVec.ofInt 8 n, ⟨some ⟨ab, ao, spot⟩, cap, by rw [hlen], by rw [hlen]; exact hl, (fun h => by cases h), fun hp => ?_⟩, by rw [hlen]; omega, fun x hx => ?_⟩
    · rw [hlen] at hp ⊢
      have hspot : spot = none := by simpa [Addr.add] using World.cell?_spot (hcell 0 (by omega))
      subst hspot
      refine ⟨ab, ao, rfl, fun j hj => ?_⟩
      have hcj := hcell j (by omega)
      rw [Addr.add_lit] at hcj
      rw [hcj]
      have hb := byte_range hwz j
      have e : ((zs.take len).map fun n => BitVec.ofInt 8 n).getD j 0 = BitVec.ofInt 8 (zs.getD j 0) := by
        rw [List.getD_eq_getElem?_getD, List.getElem?_map, List.getElem?_take_of_lt hj, List.getD_eq_getElem?_getD, List.getElem?_eq_getElem (show j < zs.length by omega)]
        rfl
      rw [e, BitVec.toNat_ofInt]
      congr 2
      omega
    · simp only [MemPlace.row, List.mem_map, List.mem_range] at hx
      obtain ⟨i, hi, rfl⟩ := hx
      have hcj := hcell i (by omega)
      have := block_lt_of_cell hcj
      simp only [Addr.add] at this
      split at this <;> exact this
end Go.Proofs.YtphacinnnepdoaaDoor
/- What a digest that came in gives: its 32 bytes. -/
namespace Go.Proofs.YtphacinnnepdoaaDoor
open Go.ChangeShapes Go.WideShapes Go.ChangeAt Go.WideMaps Go.WideElems Go.RowKit
set_option maxRecDepth 100000
theorem cells_digest : Tryd.prog.cellsOf 24 = 32 := by kernel_rfl
theorem readable_digest : Tryd.prog.readableRec 24 = true := by kernel_rfl
theorem row_digest : 24 < Tryd.prog.types.size := of_decide_eq_true (by kernel_rfl)
def numOf8 : Value → BitVec 8
  | .int _ n => BitVec.ofInt 8 n
  | _ => 0
theorem digest_of_trod {H : Type} {enc : TypeId × Value → H} {W : World} {base : Nat} {v : Value} {d : DataW H} {p : List MemPlace} (hval : Value.okWide Tryd.prog W .any base 24 v)
    (h : DataW.Trod enc Tryd.prog W 0 (fun _ => true) true 24 v d p) :
    ∃ dg, v = .agg (cb dg).toArray ∧ dg.length = 32 ∧ ∀ x ∈ p, x.block < W.heap.size := by
  simp only [Value.okWide, Tryd.underlying24] at hval
  obtain ⟨cs, rfl, hcs, _⟩ := hval
  obtain ⟨fuel, hf⟩ := h
  obtain ⟨xs, m, _, hx, hl, hn, hi⟩ := DataW.trod_array Tryd.underlying24 hf
  simp only [Value.cells] at hl hi
  rw [cells_digest] at hl
  rw [cells_byte] at hi
  have each : ∀ i, i < 32 → ∃ n, cs.toList[i]? = some (.int .u8 n) ∧ xs[i]? = some (.lit (.int .u8 n), []) ∧ (Lit.int .u8 n).wf = true := by
    intro i h32
    have h1 := hi i h32
    rw [List.getElem?_eq_getElem (by omega)] at h1
    obtain ⟨n, hc, hxx, hw⟩ := DataW.trod_int Tryd.underlying5 h1
    refine ⟨n, ?_, by rw [List.getElem?_eq_getElem (by omega), hxx], hw⟩
    rw [Nat.mul_one] at hc
    have h2 := congrArg (fun l => l[0]?) hc
    simpa using h2
  have hlen : (cs.toList.map numOf8).length = 32 := by simpa using hl
  refine ⟨cs.toList.map numOf8, ?_, hlen, ?_⟩
  · congr 1
    apply Array.ext'
    rw [List.toList_toArray]
    apply List.ext_getElem?
    intro i
    by_cases h32 : i < 32
    · obtain ⟨n, h1, _, hw⟩ := each i h32
      have hb := bounds_u8 hw
      rw [h1, cb_get _ _ (by omega), List.getD_eq_getElem?_getD, List.getElem?_map, h1]
      simp only [Option.map_some, Option.getD_some, numOf8, BitVec.toNat_ofInt]
      congr 2
      omega
    · rw [List.getElem?_eq_none (by omega), List.getElem?_eq_none (by rw [cb_len]; omega)]
  · simp only [Prod.mk.injEq] at hx
    rw [hx.2]
    intro x hmem
    obtain ⟨y, hy, hxy⟩ := List.mem_flatMap.1 hmem
    obtain ⟨i, hlt, rfl⟩ := List.getElem_of_mem hy
    obtain ⟨n, _, h2, _⟩ := each i (by omega)
    rw [List.getElem?_eq_getElem hlt] at h2
    rw [Option.some.inj h2] at hxy
    cases hxy
end Go.Proofs.YtphacinnnepdoaaDoor
/- What a slice of digests that came in gives; five arguments that came in, opened and shut (for the statements of layer 7). -/
namespace Go.Proofs.YtphacinnnepdoaaDoor
open Go.ChangeShapes Go.WideShapes Go.ChangeAt Go.WideMaps Go.WideElems Go.RowKit
set_option maxRecDepth 100000
set_option maxRecDepth 100000 in
theorem bulk_pos {H : Type} (d : DataW H) : 1 ≤ Rows.uptoBulk d := by
  cases d with
  | lit l => cases l <;> simp [Rows.uptoBulk]
  | _ => simp [Rows.uptoBulk]
set_option maxRecDepth 100000 in
theorem bulk_slice {H : Type} (e s : List (DataW H)) : Rows.uptoBulkAll e ≤ Rows.uptoBulk (DataW.slice e s) := by
  simp only [Rows.uptoBulk]; omega
set_option maxRecDepth 100000 in
theorem bulk_len {H : Type} : ∀ l : List (DataW H), l.length ≤ Rows.uptoBulkAll l
  | [] => Nat.zero_le _
  | d :: r => by
    have h1 := bulk_len r
    have h2 := bulk_pos d
    simp only [Rows.uptoBulkAll, List.length_cons]
    omega
theorem digest_of_cells {H : Type} {enc : TypeId × Value → H} {W : World} {cs : List Value} {d : DataW H} {p : List MemPlace} {fuel : Nat} (hf : DataW.trod enc Tryd.prog W 0 (fun _ => true) true fuel 24 cs = some (d, p)) :
    ∃ dg, cs = cb dg ∧ dg.length = 32 ∧ ∀ x ∈ p, x.block < W.heap.size := by
  obtain ⟨xs, m, _, hx, hl, hn, hi⟩ := DataW.trod_array Tryd.underlying24 hf
  rw [cells_digest] at hl
  rw [cells_byte] at hi
  have each : ∀ i, i < 32 → ∃ n, cs[i]? = some (.int .u8 n) ∧ xs[i]? = some (.lit (.int .u8 n), []) ∧ (Lit.int .u8 n).wf = true := by
    intro i h32
    have h1 := hi i h32
    rw [List.getElem?_eq_getElem (by omega)] at h1
    obtain ⟨n, hc, hxx, hw⟩ := DataW.trod_int Tryd.underlying5 h1
    refine ⟨n, ?_, by rw [List.getElem?_eq_getElem (by omega), hxx], hw⟩
    rw [Nat.mul_one] at hc
    have h2 := congrArg (fun l => l[0]?) hc
    simpa using h2
  have hlen : (cs.map numOf8).length = 32 := by simpa using hl
  refine ⟨cs.map numOf8, ?_, hlen, ?_⟩
  · apply List.ext_getElem?
    intro i
    by_cases h32 : i < 32
    · obtain ⟨n, h1, _, hw⟩ := each i h32
      have hb := bounds_u8 hw
      rw [h1, cb_get _ _ (by omega), List.getD_eq_getElem?_getD, List.getElem?_map, h1]
      simp only [Option.map_some, Option.getD_some, numOf8, BitVec.toNat_ofInt]
      congr 2
      omega
    · rw [List.getElem?_eq_none (by omega), List.getElem?_eq_none (by rw [cb_len]; omega)]
  · simp only [Prod.mk.injEq] at hx
    rw [hx.2]
    intro x hmem
    obtain ⟨y, hy, hxy⟩ := List.mem_flatMap.1 hmem
    obtain ⟨i, hlt, rfl⟩ := List.getElem_of_mem hy
    obtain ⟨n, _, h2, _⟩ := each i (by omega)
    rw [List.getElem?_eq_getElem hlt] at h2
    rw [Option.some.inj h2] at hxy
    cases hxy
set_option maxRecDepth 100000 in
theorem readable_digests : Tryd.prog.readableRec 22 = true := by kernel_rfl
set_option maxRecDepth 100000 in
theorem row_digests : 22 < Tryd.prog.types.size := of_decide_eq_true (by kernel_rfl)
theorem readsD_of_trod {H : Type} {enc : TypeId × Value → H} {W : World} {base : Nat} {v : Value} {d : DataW H} {p : List MemPlace} (hval : Value.okWide Tryd.prog W .any base 22 v)
    (h : DataW.Trod enc Tryd.prog W 0 (fun _ => true) true 22 v d p) :
    ∃ ds, ReadsD W v ds ∧ ds.length ≤ Rows.uptoBulk d ∧ ∀ x ∈ p, x.block < W.heap.size := by
  obtain ⟨a1, len, cap, rfl⟩ := okWide_slice Tryd.underlying22 hval
  obtain ⟨fuel, hf⟩ := h
  rcases Go.Deep.open_slice Tryd.underlying22 hf with ⟨hcs, hx⟩ | ⟨a, len', cap', m, n, D, Pl, hcs, _, hl, hm, hmm, hx, hV⟩
  · simp [Value.cells] at hcs
    obtain ⟨rfl, rfl, rfl⟩ := hcs
    simp only [Prod.mk.injEq] at hx
    obtain ⟨rfl, rfl⟩ := hx
    exact ⟨[], ⟨⟨none, 0, rfl, Nat.le_refl _, fun _ => rfl, fun h => by cases h⟩, fun _ h => by cases h⟩, Nat.zero_le _, fun _ h => by cases h⟩
  · simp [Value.cells] at hcs
    obtain ⟨rfl, rfl, rfl⟩ := hcs
    simp only [Prod.mk.injEq] at hx
    obtain ⟨rfl, rfl⟩ := hx
    simp only [if_true] at hmm
    subst hmm
    rw [cells_digest] at hV
    obtain ⟨B, hB⟩ := Go.Deep.choose_lt (α := List (BitVec 8)) (p := fun i dg => W.cells? 0 (a.add (i * 32)) 32 = some (cb dg) ∧ dg.length = 32 ∧ ∀ x ∈ Pl i, x.block < W.heap.size) (fun i hi => by
      obtain ⟨cs', h1, h2⟩ := hV i hi
      obtain ⟨dg, rfl, h3, h4⟩ := digest_of_cells h2
      exact ⟨dg, h1, h3, h4⟩)
    have hlen : ((List.range len).map B).length = len := by simp
    obtain ⟨ab, ao, spot⟩ := a
    have cell : ∀ i, i < m → ∀ j, j < 32 → W.cell? ((⟨ab, ao, spot⟩ : Addr).add (i * 32 + j)) = (cb (B i))[j]? := by
      intro i hi j hj
      obtain ⟨h1, _, _⟩ := hB i hi
      obtain ⟨_, _, h4⟩ := World.cells?_some h1
      have := h4 j hj
      rw [Go.Deep.add_add] at this
      exact this
    have hspot : 0 < m → spot = none := fun hp => by
      have h := cell 0 hp 0 (by omega)
      rw [cb_get _ 0 (by rw [(hB 0 hp).2.1]; omega)] at h
      simpa [Addr.add] using World.cell?_spot h
    refine ⟨(List.range len).map B, ⟨⟨some ⟨ab, ao, spot⟩, m, by rw [hlen], by rw [hlen]; exact hl, (fun h => by cases h), fun hp => ?_⟩, ?_⟩, by rw [hlen]; exact Nat.le_trans (by have := bulk_len ((List.range len).map D); simpa using this) (bulk_slice _ _), fun x hx => ?_⟩
    · rw [hlen] at hp ⊢
      have hs := hspot (by omega)
      subst hs
      refine ⟨ab, ao, rfl, fun j hj i v hv => ?_⟩
      have e : ((List.range len).map B).getD j [] = B j := by simp [hj]
      rw [e] at hv
      have hi : i < 32 := by have := (List.getElem?_eq_some_iff.1 hv).1; rwa [cb_len, (hB j (by omega)).2.1] at this
      have h := cell j (by omega) i hi
      rw [hv, Addr.add_lit] at h
      rw [Nat.add_assoc]; exact h
    · intro dg hd
      obtain ⟨i, hi, rfl⟩ := List.mem_map.1 hd
      exact (hB i (by have := List.mem_range.1 hi; omega)).2.1
    · rcases List.mem_append.1 hx with hx | hx
      · rw [cells_digest] at hx
        simp only [MemPlace.row, List.mem_map, List.mem_range] at hx
        obtain ⟨i, hi, rfl⟩ := hx
        have h := cell (i / 32) (by omega) (i % 32) (by omega)
        rw [cb_get _ _ (by rw [(hB (i / 32) (by omega)).2.1]; omega), show i / 32 * 32 + i % 32 = i by omega] at h
        have := block_lt_of_cell h
        simp only [Addr.add] at this
        split at this <;> exact this
      · obtain ⟨i, hi, hx⟩ := List.mem_flatMap.1 hx
        exact (hB i (List.mem_range.1 hi)).2.2 x hx
theorem trodAll_five {H : Type} {enc : TypeId × Value → H} {P : Program} {w : World} {base : Nat} {spare : Nat → Bool} {held : Bool} {t0 t1 t2 t3 t4 : TypeId} {args : Array Value} {ds : List (DataW H)} {ps : List MemPlace} (h : DataW.TrodAll enc P w base spare held [t0, t1, t2, t3, t4] args.toList ds ps) :
    ∃ v0 v1 v2 v3 v4 d0 d1 d2 d3 d4 p0 p1 p2 p3 p4, args = #[v0, v1, v2, v3, v4] ∧ ds = [d0, d1, d2, d3, d4] ∧ ps = p0 ++ p1 ++ p2 ++ p3 ++ p4 ∧ DataW.Trod enc P w base spare held t0 v0 d0 p0 ∧ DataW.Trod enc P w base spare held t1 v1 d1 p1 ∧ DataW.Trod enc P w base spare held t2 v2 d2 p2 ∧ DataW.Trod enc P w base spare held t3 v3 d3 p3 ∧ DataW.Trod enc P w base spare held t4 v4 d4 p4 := by
  obtain ⟨v0, vs0, d0, ds0, p0, q0, hargs, rfl, rfl, h0, r0⟩ := trodAll_cons h
  obtain ⟨v1, vs1, d1, ds1, p1, q1, rfl, rfl, rfl, h1, r1⟩ := trodAll_cons r0
  obtain ⟨v2, vs2, d2, ds2, p2, q2, rfl, rfl, rfl, h2, r2⟩ := trodAll_cons r1
  obtain ⟨v3, vs3, d3, ds3, p3, q3, rfl, rfl, rfl, h3, r3⟩ := trodAll_cons r2
  obtain ⟨v4, vs4, d4, ds4, p4, q4, rfl, rfl, rfl, h4, r4⟩ := trodAll_cons r3
  obtain ⟨rfl, rfl, rfl⟩ := trodAll_nil r4
  exact ⟨v0, v1, v2, v3, v4, d0, d1, d2, d3, d4, p0, p1, p2, p3, p4, by cases args; simp_all, rfl, by simp, h0, h1, h2, h3, h4⟩
theorem trodAll_mk5 {H : Type} {enc : TypeId × Value → H} {P : Program} {w : World} {base : Nat} {spare : Nat → Bool} {held : Bool} {t0 t1 t2 t3 t4 : TypeId} {v0 v1 v2 v3 v4 : Value} {d0 d1 d2 d3 d4 : DataW H} {p0 p1 p2 p3 p4 : List MemPlace} (h0 : DataW.Trod enc P w base spare held t0 v0 d0 p0) (h1 : DataW.Trod enc P w base spare held t1 v1 d1 p1) (h2 : DataW.Trod enc P w base spare held t2 v2 d2 p2) (h3 : DataW.Trod enc P w base spare held t3 v3 d3 p3) (h4 : DataW.Trod enc P w base spare held t4 v4 d4 p4) : DataW.TrodAll enc P w base spare held [t0, t1, t2, t3, t4] [v0, v1, v2, v3, v4] [d0, d1, d2, d3, d4] (p0 ++ (p1 ++ (p2 ++ (p3 ++ p4)))) :=
  ⟨p0, _, h0, trodAll_mk4 h1 h2 h3 h4, rfl⟩
end Go.Proofs.YtphacinnnepdoaaDoor

/- Texts that the proof leans on, one behind the other: The walk of journal's put, as it landed: sectors written in order, and synced (layer 14). The walks of journal's copies, All, Gen, Room and fit, as they landed (layer 14). The walks of journal's begin and next, as they landed (layer 14). .. -/
import Derived.Test.YtopmeedmgjdcgaaGreatDoorMyc
import Derived.Deep.CutRange
import Derived.Test.YtopmeedmgjdcgaaGreatDoorMya
import Derived.Lib.Strings
/- The walk of journal's put, as it landed: sectors written in order, and synced (layer 14). -/
namespace Go.Proofs.YtopmeedmgjdcgaaGreatDoor
open Go.RowKit Go.Shelf
set_option maxRecDepth 100000
attribute [local go_sem] Oper.semAt_some
def wrF (gd : Nat) : Value := .func (.func 89) #[.pointer (some ⟨gd, 0, none⟩)] #[]
def syF (gd : Nat) : Value := .func (.func 90) #[.pointer (some ⟨gd, 0, none⟩)] #[]
/-- a log's cells -/
def lgC (gd hs : Nat) (fl : Int) (k gen : Nat) (vr : Value) (u : Nat) : List Value := [wrF gd, syF gd, .int .i64 (hs : Int), .int .i64 fl, .int .i64 (k : Int), .int .u64 (gen : Int), vr, .int .i64 (u : Int)]
theorem secs_at : ∀ (m s : Nat) (r : Bs) (j : Nat), j < m → (secsOf s m r)[j]? = some (s + j, (r.drop (64 * j)).take 64)
  | 0, _, _, _, h => absurd h (by omega)
  | m + 1, s, r, 0, _ => by simp [secsOf]
  | m + 1, s, r, j + 1, h => by
    rw [secsOf, List.getElem?_cons_succ, secs_at m (s + 1) (r.drop 64) j (by omega), List.drop_drop]
    congr 2
    · omega
    · congr 2; omega
theorem secs_take (m s : Nat) (r : Bs) {j : Nat} (h : j < m) : (secsOf s m r).take (j + 1) = (secsOf s m r).take j ++ [(s + j, (r.drop (64 * j)).take 64)] := by
  rw [List.take_add_one, secs_at m s r j h]
  rfl
theorem put_wait (D : DkT) (i : Int) (b : Bs) : (putD13 D i b).wait.length ≤ D.wait.length + 1 := by
  unfold putD13
  split
  · omega
  split
  · omega
  split
  · omega
  · simp
/-- the writes of sectors, in some order -/
def wsN (at_ : Nat) (r : Bs) (l : List Nat) : List (Nat × Bs) := l.mapIdx fun j z => (at_ + j, (r.drop (64 * z)).take 64)
theorem wsN_snoc (at_ : Nat) (r : Bs) (l : List Nat) (z : Nat) : wsN at_ r (l ++ [z]) = wsN at_ r l ++ [(at_ + l.length, (r.drop (64 * z)).take 64)] := by simp [wsN]
theorem wsN_range (at_ m : Nat) (r : Bs) : ∀ k, k ≤ m → wsN at_ r (List.range k) = (secsOf at_ m r).take k
  | 0, _ => by simp [wsN]
  | k + 1, h => by rw [List.range_succ, wsN_snoc, wsN_range at_ m r k (by omega), secs_take m at_ r (by omega), List.length_range]
/-- writes that were done -/
def RunTo (D : DkT) (L : List (Nat × Bs)) (D' : DkT) : Prop := ∀ rest, runJ D (L.map some ++ rest) = runJ D' rest
theorem RunTo.zero (D : DkT) : RunTo D [] D := fun _ => rfl
theorem RunTo.next {D D' : DkT} {L : List (Nat × Bs)} (h : RunTo D L D') {p : Nat × Bs} (hx : putX13 D' (p.1 : Int) p.2 = 0) : RunTo D (L ++ [p]) (putD13 D' (p.1 : Int) p.2) := fun rest => by
  rw [List.map_append, List.append_assoc, h]
  show runJ D' (some p :: rest) = _
  rw [runJ, if_pos hx]
theorem RunTo.stop {D D' : DkT} {L : List (Nat × Bs)} (h : RunTo D L D') {p : Nat × Bs} (hx : putX13 D' (p.1 : Int) p.2 ≠ 0) (t : List (Option (Nat × Bs))) : runJ D ((L ++ [p]).map some ++ t) = (putD13 D' (p.1 : Int) p.2, putX13 D' (p.1 : Int) p.2) := by
  rw [List.map_append, List.append_assoc, h]
  show runJ D' (some p :: t) = _
  rw [runJ, if_neg hx]
theorem DkIs.cells {w : World} {g : Nat} {P : Nat → Prop} {D : DkT} (h : DkIs w g P D) : ∀ k, P k → ∃ cs t, w.heap[k]? = some (.cells cs t (0, 0)) := by
  obtain ⟨gs, vw, fu, lf, hm, rfl⟩ := h
  intro k hk
  rcases hk with rfl | rfl | hk
  · exact ⟨_, _, hm.me⟩
  · exact ⟨_, _, hm.sf⟩
  · rcases hm.wt with ⟨_, ⟨e, _⟩ | ⟨g2, cap2, cur2, e, _, hh2, _⟩⟩
    · rw [e] at hk; cases hk
    · rw [e] at hk
      have e2 : g2 = k := by simpa [Value.ownBlock] using hk
      rw [← e2]
      exact ⟨_, _, hh2⟩
theorem DkIs.same14 {w w' : World} {g : Nat} {P : Nat → Prop} {D : DkT} (h : DkIs w g P D) (hs : ∀ k, P k → w'.heap[k]? = w.heap[k]?) : DkIs w' g P D := by
  obtain ⟨gs, vw, fu, lf, hm, rfl⟩ := h
  exact ⟨gs, vw, fu, lf, hm.same hs, rfl⟩
theorem DkIs.own14 {X Y : World} {g : Nat} {P : Nat → Prop} {D : DkT} {row : Option Nat} (h : DkIs X g P D) (hg : X.grownBy Y row) (hr : ∀ r, row = some r → ∃ o : Obj, X.heap[r]? = some o ∧ o.isCells = false) : DkIs Y g P D := by
  refine h.same14 fun k hk => ?_
  obtain ⟨cs, t, hc⟩ := h.cells k hk
  refine hg.block k (Array.getElem?_eq_some_iff.1 hc).1 (fun e => ?_)
  obtain ⟨o, ho, hn⟩ := hr k e.symm
  rw [hc] at ho
  cases ho
  cases hn
theorem keeps_mut {Q : Nat → Prop} {X Y : World} (h : Mut Q X Y) (hc : ∀ k, Q k → ∃ cs t, X.heap[k]? = some (.cells cs t (0, 0))) : KeepsOthers X Y :=
  ⟨h.size, fun k o hk ho => by
    rw [h.block k (Array.getElem?_eq_some_iff.1 hk).1 (fun hq => ?_)]
    · exact hk
    · obtain ⟨cs, t, h2⟩ := hc k hq
      rw [hk] at h2
      cases h2
      cases ho⟩
/-- a region that is not left but by its end -/
def onlyNormal (Q : Exit → Act → World → Prop) : Exit → Act → World → Prop
  | .normal, a, w => Q .normal a w
  | _, _, _ => False
theorem wp_normal {c : Code} {Q : Exit → Act → World → Prop} {a : Act} {w : World} (h : c.wp Tryz.prog (onlyNormal Q) a w) : c.wp Tryz.prog Q a w :=
  wp_mono h (fun e a w h => by cases e <;> first | exact h | exact h.elim)
/-- what is changed by put -/
def puR (P : Nat → Prop) (lg g4 g6 : Nat) : Nat → Prop := fun k => P k ∨ k = lg ∨ k = g4 ∨ k = g6
/-- put's own memory, and the disk, behind j writes -/
structure PuI (v1 : World) (gd lg g3 g4 g6 : Nat) (P : Nat → Prop) (lc : Int → List Value) (D : DkT) (at_ m : Nat) (r : Bs) (fl : Int) (an : Nat) (rs : Int) (P' : Nat → Prop) (D' : DkT) (W : World) : Prop where
  dk : DkIs W gd P' D'
  gr : Grew v1 P P'
  lb : Blk W lg (lc fl) 144
  b3 : Blk W g3 [.pointer (some ⟨lg, 0, none⟩)] 96
  b4 : Blk W g4 [.int .i64 (an : Int)] 3
  b6 : Blk W g6 [.int .i64 rs] 26
  mv : Mut (puR P lg g4 g6) v1 W
theorem PuI.own {v1 : World} {gd lg g3 g4 g6 : Nat} {P : Nat → Prop} {lc : Int → List Value} {D : DkT} {at_ m : Nat} {r : Bs} {fl : Int} {an : Nat} {rs : Int} {P' : Nat → Prop} {D' : DkT} {X Y : World} {row : Option Nat} (h : PuI v1 gd lg g3 g4 g6 P lc D at_ m r fl an rs P' D' X) (hg : X.grownBy Y row) (hr : ∀ x, row = some x → v1.heap.size ≤ x ∧ ∃ o : Obj, X.heap[x]? = some o ∧ o.isCells = false) : PuI v1 gd lg g3 g4 g6 P lc D at_ m r fl an rs P' D' Y :=
  ⟨h.dk.own14 hg (fun x e => (hr x e).2), h.gr, blk_own (β := Unit) lg (fun _ => lc fl) _ () X Y row h.lb hg (fun x e => (hr x e).2), blk_own (β := Unit) g3 (fun _ => [.pointer (some ⟨lg, 0, none⟩)]) _ () X Y row h.b3 hg (fun x e => (hr x e).2), blk_own (β := Unit) g4 (fun _ => [.int .i64 (an : Int)]) _ () X Y row h.b4 hg (fun x e => (hr x e).2), blk_own (β := Unit) g6 (fun _ => [.int .i64 rs]) _ () X Y row h.b6 hg (fun x e => (hr x e).2),
    ⟨hg.os.trans h.mv.os, hg.tape.trans h.mv.tape, hg.output.trans h.mv.output, Nat.le_trans h.mv.size hg.size, fun k hk hn => (hg.block k (Nat.lt_of_lt_of_le hk h.mv.size) (fun e => by have := (hr k e.symm).1; omega)).trans (h.mv.block k hk hn)⟩⟩
/-- the loop so far -/
def PuJ (v1 : World) (gd lg g3 g4 g6 : Nat) (P : Nat → Prop) (lc : Int → List Value) (D : DkT) (at_ m : Nat) (r : Bs) (pre : List (Fin m)) (W : World) : Prop :=
  ∃ P' D', PuI v1 gd lg g3 g4 g6 P lc D at_ m r 0 (at_ + pre.length) 0 P' D' W ∧ RunTo D (wsN at_ r (pre.map Fin.val)) D' ∧ D'.wait.length ≤ D.wait.length + pre.length
/-- the loop left by an error -/
def PuX (v1 : World) (gd lg g3 g4 g6 : Nat) (P : Nat → Prop) (lc : Int → List Value) (D : DkT) (at_ m : Nat) (r : Bs) (c : Code) (pre : List (Fin m)) (W : World) : Prop :=
  c = .ret ∧ ∃ P' D' an x, PuI v1 gd lg g3 g4 g6 P lc D at_ m r x an x P' D' W ∧ ∀ t, runJ D ((wsN at_ r (pre.map Fin.val)).map some ++ t) = (D', x)
theorem wpSeq_box1 {ops : Array Oper} {Q : Exit → Act → World → Prop} {rest : List Oper} {o : Oper} {a : Act} {w : World} (ty : TypeId) (x : Operand) (v : Value) (h1 : v.cells = #[v]) (ho : o.op = .box ty x) (hx : a.eval x = v) (hw : Region.wanted o (yielded ops a.tmps) = true)
    (h : ∀ g w', NewC v ty w g w' → wpList Tryz.prog ops Q rest (a.put o.dst (.pointer (some ⟨g, 0, none⟩))) w') : wpList Tryz.prog ops Q (o :: rest) a w :=
  wpSeq_val _ _ hw (box_any _ _ ty x v h1 ho hx w) (h _ _ (NewC.of v ty w))
theorem wpSeq_allocEr {ops : Array Oper} {Q : Exit → Act → World → Prop} {rest : List Oper} {o : Oper} {a : Act} {w : World} (ho : o.op = .alloc 26) (hw : Region.wanted o (yielded ops a.tmps) = true)
    (h : ∀ g w', NewC (.int .i64 0) 26 w g w' → wpList Tryz.prog ops Q rest (a.put o.dst (.pointer (some ⟨g, 0, none⟩))) w') : wpList Tryz.prog ops Q (o :: rest) a w :=
  wpSeq_val _ _ hw (by unfold execOp; rw [ho]; kernel_rfl) (h _ _ (NewC.of (.int .i64 0) 26 w))
theorem chunk_reads {W : World} {ad : Option Addr} {N c m : Nat} {r : Bs} (h : Reads W (.slice ad N c) r) (hr : r.length = 64 * m) {k : Nat} (hk : k < m) : Reads W (chV (.slice ad N c) k) ((r.drop (64 * k)).take 64) := by
  obtain ⟨_, _, hv, _, _, hps⟩ := id h
  simp only [Value.slice.injEq] at hv
  obtain ⟨b, off, h1, _⟩ := hps (by omega)
  rw [← hv.1] at h1
  subst h1
  exact h.cutJ (64 * k) 64 64 (by omega) (Nat.le_refl _)
set_option maxRecDepth 100000 in
set_option maxHeartbeats 8000000 in
theorem jPut_any {w : World} {gd lg : Nat} {P : Nat → Prop} {D : DkT} (hs k gen u at_ m : Nat) (vr v : Value) (r : Bs) (hdk : DkIs w gd P D) (hlb : Blk w lg (lgC gd hs 0 k gen vr u) 144) (hnp : ¬ P lg) (hrl : r.length = 64 * m) (hm : m ≤ 100) (ha : at_ ≤ 100) (hwt : D.wait.length + m ≤ 200) (hst : Sta (Un P (fun x => x = lg)) w (fun W => Reads W v r)) :
    Calls Tryz.prog 102 #[.pointer (some ⟨lg, 0, none⟩), .int .i64 (at_ : Int), v] w fun e w' => e = .returned (.int .i64 (runJ D ((secsOf at_ m r).map some ++ [none])).2) ∧ ∃ P', DkIs w' gd P' (runJ D ((secsOf at_ m r).map some ++ [none])).1 ∧ Blk w' lg (lgC gd hs (runJ D ((secsOf at_ m r).map some ++ [none])).2 k gen vr u) 144 ∧ Mut (Un P (fun x => x = lg)) w w' ∧ Grew w P P' := by
  obtain ⟨DX, xX, HX⟩ : ∃ D2 x, Hid (runJ D ((secsOf at_ m r).map some ++ [none]) = (D2, x)) := ⟨(runJ D ((secsOf at_ m r).map some ++ [none])).1, (runJ D ((secsOf at_ m r).map some ++ [none])).2, rfl⟩
  rw [HX.out]
  show Calls Tryz.prog 102 _ w fun e w' => e = .returned (.int .i64 xX) ∧ ∃ P', DkIs w' gd P' DX ∧ Blk w' lg (lgC gd hs xX k gen vr u) 144 ∧ Mut (Un P (fun x => x = lg)) w w' ∧ Grew w P P'
  obtain ⟨N, HN⟩ : ∃ N, Hid (N = r.length) := ⟨_, rfl⟩
  obtain ⟨ad, c, hv⟩ : ∃ a c, v = .slice a N c := by obtain ⟨a, c, hv, _⟩ := hst.now; rw [← HN.out] at hv; exact ⟨a, c, hv⟩
  subst hv
  obtain ⟨lc, HLC⟩ : ∃ lc : Int → List Value, Hid (∀ x, lc x = lgC gd hs x k gen vr u) := ⟨fun x => lgC gd hs x k gen vr u, fun _ => rfl⟩
  have HLB : Hid (Blk w lg (lc 0) 144) := by rw [HLC.out]; exact hlb
  have HDK : Hid (DkIs w gd P D) := hdk
  have HNP : Hid (¬ P lg) := hnp
  have HBD : Hid (r.length = 64 * m ∧ m ≤ 100 ∧ at_ ≤ 100 ∧ D.wait.length + m ≤ 200) := ⟨hrl, hm, ha, hwt⟩
  have HST : Hid (Sta (Un P (fun x => x = lg)) w (fun W => Reads W (.slice ad N c) r)) := hst
  have cF : ∀ W, Blk W lg (lc 0) 144 → W.cell? ⟨lg, 3, none⟩ = some (.int .i64 0) := fun W h => by rw [HLC.out] at h; exact h.cell 3
  have HCF : Hid (∀ W x, Blk W lg (lc x) 144 → W.cell? ⟨lg, 0, none⟩ = some (wrF gd) ∧ W.cell? ⟨lg, 1, none⟩ = some (syF gd) ∧ W.cell? ⟨lg, 3, none⟩ = some (.int .i64 x) ∧ W.frozen? ⟨lg, 3, none⟩ = false) := fun W x h => by rw [HLC.out] at h; exact ⟨h.cell 0, h.cell 1, h.cell 3, h.frozen 3⟩
  have HSF : Hid (∀ W x y, Blk W lg (lc x) 144 → Blk (W.setCell ⟨lg, 3, none⟩ (.int .i64 y)) lg (lc y) 144) := fun W x y h => by rw [HLC.out] at h ⊢; exact h.set 3 _
  clear cF
  clear hdk hlb hnp hrl hm ha hwt hst
  refine (callsIn_wide (n := 4)).1 ?_
  refine callsIn_of_wp_marks Tryz.func102 rfl trivial ?_ rfl
  simp only [Tryz.ntmps102, List.size_toArray, List.length_cons, List.length_nil, Nat.reduceAdd, Nat.reduceSub, Array.replicate_succ, Array.replicate_zero, List.push_toArray, List.append_toArray, List.nil_append, List.cons_append]
  refine wpIn_wide.2 ?_
  have tk0 : Hid True := trivial
  have tk1 : Hid True := trivial
  have tk2 : Hid True := trivial
  have tk3 : Hid True := trivial
  go_wp2_with (first
    | (clear tk0; with_reducible refine wpSeq_box1 96 (.tmp 0) (.pointer (some ⟨lg, 0, none⟩)) rfl ?_ ?_ ?_ ?_
       · rfl
       · rfl
       · rfl
       intro g3 y1 nn
       have HN1 : Hid (NewC (.pointer (some ⟨lg, 0, none⟩)) 96 w g3 y1) := nn
       clear nn)
    | (clear tk1; with_reducible refine wpSeq_box1 3 (.tmp 1) (.int .i64 (at_ : Int)) rfl ?_ ?_ ?_ ?_
       · rfl
       · rfl
       · rfl
       intro g4 y2 nn
       have HN2 : Hid (NewC (.int .i64 (at_ : Int)) 3 y1 g4 y2) := nn
       clear nn)
    | (clear tk2; with_reducible refine wpSeq_allocEr ?_ ?_ ?_
       · rfl
       · rfl
       intro g6 y3 nn
       have hb3 : Below w.heap.size w y3 := HN1.out.below.trans ((HN2.out.below.mono HN1.out.below.size).trans (nn.below.mono (Nat.le_trans HN1.out.below.size HN2.out.below.size)))
       have h3 : Blk y2 g3 [.pointer (some ⟨lg, 0, none⟩)] 96 := HN1.out.blk.below HN2.out.below HN1.out.blk.lt
       have HB3 : Hid (Blk y3 g3 [.pointer (some ⟨lg, 0, none⟩)] 96) := h3.below nn.below h3.lt
       have HB4 : Hid (Blk y3 g4 [.int .i64 (at_ : Int)] 3) := HN2.out.blk.below nn.below HN2.out.blk.lt
       have HB6 : Hid (Blk y3 g6 [.int .i64 0] 26) := nn.blk
       have HGE : Hid (w.heap.size ≤ g3 ∧ w.heap.size ≤ g4 ∧ w.heap.size ≤ g6) := ⟨HN1.out.ge, Nat.le_trans HN1.out.below.size HN2.out.ge, Nat.le_trans (Nat.le_trans HN1.out.below.size HN2.out.below.size) nn.ge⟩
       have HBW : Hid (Below w.heap.size w y3) := hb3
       have HL3 : Hid (Blk y3 lg (lc 0) 144) := HLB.out.below hb3 HLB.out.lt
       have c3 : y3.cell? ⟨g3, 0, none⟩ = some (.pointer (some ⟨lg, 0, none⟩)) := HB3.out.cell 0
       have cF : y3.cell? ⟨lg, 3, none⟩ = some (.int .i64 0) := (HCF.out y3 0 HL3.out).2.2.1
       clear nn hb3 h3 HN1 HN2)
    | (clear tk3; go_at_call 128; refine (chunk_any ad N c _).mono ?_; rintro e0 v1 ⟨gs, gn, rfl, hs1, hs2, hg1, hg2, hz⟩
       have hl4 : g4 < y3.heap.size := HB4.out.lt
       replace HB3 : Hid (Blk v1 g3 [.pointer (some ⟨lg, 0, none⟩)] 96) := HB3.out.below hz HB3.out.lt
       replace HB4 : Hid (Blk v1 g4 [.int .i64 (at_ : Int)] 3) := HB4.out.below hz HB4.out.lt
       replace HB6 : Hid (Blk v1 g6 [.int .i64 0] 26) := HB6.out.below hz HB6.out.lt
       replace HL3 : Hid (Blk v1 lg (lc 0) 144) := HL3.out.below hz HL3.out.lt
       have HS1 : Hid (Blk v1 gs [.slice ad N c] 23 ∧ Blk v1 gn [.int .i64 64] 3 ∧ g4 ≠ gs ∧ g4 ≠ gn ∧ g6 ≠ gs ∧ g6 ≠ gn ∧ w.heap.size ≤ gs ∧ w.heap.size ≤ gn) := ⟨hs1, hs2, HB4.out.neT hs1 (by decide), by omega, HB6.out.neT hs1 (by decide), HB6.out.neT hs2 (by decide), Nat.le_trans HBW.out.size hg1, Nat.le_trans HBW.out.size hg2⟩
       replace HBW : Hid (Below w.heap.size w v1) := HBW.out.trans (hz.mono HBW.out.size)
       clear hz hs1 hs2 hg1 hg2 c3 cF hl4))
  have HLT : Hid (∀ k, P k → k < w.heap.size) := HDK.out.lt14
  have HLG : Hid (lg < w.heap.size) := HLB.out.lt
  have HNQ : Hid (∀ P0, Grew v1 P P0 → ¬ P0 lg ∧ ¬ P0 g3 ∧ ¬ P0 g4 ∧ ¬ P0 g6) := fun P0 hg => by
    have hs := HBW.out.size
    have hge := HGE.out
    have l3 := HB3.out.lt
    have l4 := HB4.out.lt
    have l6 := HB6.out.lt
    have hl := HLG.out
    refine ⟨fun h => ?_, fun h => ?_, fun h => ?_, fun h => ?_⟩
    · rcases hg _ h with h | h
      · exact HNP.out h
      · omega
    · rcases hg _ h with h | h
      · have := HLT.out _ h; omega
      · omega
    · rcases hg _ h with h | h
      · have := HLT.out _ h; omega
      · omega
    · rcases hg _ h with h | h
      · have := HLT.out _ h; omega
      · omega
  have HRM : Hid (∀ W, Mut (puR P lg g4 g6) v1 W → Mut (Un P (fun x => x = lg)) w W) := fun W h => ⟨h.os.trans HBW.out.os, h.tape.trans HBW.out.tape, h.output.trans HBW.out.output, Nat.le_trans HBW.out.size h.size, fun k hk hn => (h.block k (Nat.lt_of_lt_of_le hk HBW.out.size) (fun hr => by
    have hge := HGE.out
    rcases hr with hr | hr | hr | hr
    · exact hn (Or.inl hr)
    · exact hn (Or.inr hr)
    · omega
    · omega)).trans (HBW.out.block k hk)⟩
  have HTX : Hid (∀ W, Mut (puR P lg g4 g6) v1 W → Reads W (.slice ad N c) r) := fun W h => HST.out W (HRM.out W h)
  have HV0 : Hid (PuI v1 gd lg g3 g4 g6 P lc D at_ m r 0 at_ 0 P D v1) := ⟨HDK.out.same14 (fun k hk => HBW.out.block k (HLT.out k hk)), Grew.refl _ _, HL3.out, HB3.out, HB4.out, HB6.out, Mut.refl _ _⟩
  have HNS : Hid (¬ puR P lg g4 g6 gs ∧ ¬ puR P lg g4 g6 gn) := by
    have h1 := HS1.out
    have h2 := HLG.out
    refine ⟨fun h => ?_, fun h => ?_⟩
    · rcases h with h | h | h | h
      · have := HLT.out _ h; omega
      · omega
      · exact h1.2.2.1 h.symm
      · exact h1.2.2.2.2.1 h.symm
    · rcases h with h | h | h | h
      · have := HLT.out _ h; omega
      · omega
      · exact h1.2.2.2.1 h.symm
      · exact h1.2.2.2.2.2.1 h.symm
  refine (wpIn_wide (n := 4)).1 ?_
  refine wpIn_rangeFunc_ownF (F := Fence.wide) (α := Fin m) rfl (by omega) (gf := 149) (lb := #[.pointer (some ⟨gs, 0, none⟩), .pointer (some ⟨gn, 0, none⟩)]) rfl trivial (enters_of Tryz.func149 (by kernel_rfl) rfl)
    (chunk_stops 3 (n₀ := v1.heap.size) (R := puR P lg g4 g6) (ad := ad) (N := N) (c := c) (m := m) (HN.out.trans HBD.out.1) (Nat.le_trans HBD.out.2.1 (by decide)) v1 (Nat.le_refl _) (fun W h => ⟨r, HN.out.symm, HTX.out W h.mut⟩) HS1.out.1 HS1.out.2.1 ⟨HS1.out.1.lt, HNS.out.1⟩ ⟨HS1.out.2.1.lt, HNS.out.2⟩)
    KpJ.trans (fun W l o o' h1 h2 h3 h4 => KpJ.put (w := v1) (Nat.le_refl _) W l o o' h1 h2 h3 h4) (Below.refl _ _) (fun _ => rfl)
    (PuJ v1 gd lg g3 g4 g6 P lc D at_ m r) (PuX v1 gd lg g3 g4 g6 P lc D at_ m r)
    (fun s X Y row hs hg hr => by
      obtain ⟨P', D', h1, h2⟩ := hs
      exact ⟨P', D', h1.own hg hr, h2⟩)
    (fun c s X Y row hs hg hr => by
      obtain ⟨e, P', D', an, x, h1, h2⟩ := hs
      exact ⟨e, P', D', an, x, h1.own hg hr, h2⟩)
    ⟨P, D, HV0.out, RunTo.zero D, Nat.le_refl _⟩
    (fun z => { tmps := #[.pointer (some ⟨lg, 0, none⟩), .int .i64 (at_ : Int), .slice ad N c, .pointer (some ⟨g3, 0, none⟩), .pointer (some ⟨g4, 0, none⟩), undef, .pointer (some ⟨g6, 0, none⟩), chV (.slice ad N c) z.val, .pointer (some ⟨lg, 0, none⟩), .pointer (some ⟨lg, 0, none⟩), .pointer (some ⟨lg, 3, none⟩), .int .i64 0, .bool false, undef, undef, undef, undef, .slice ad N c, .func (.func 149) #[] #[.pointer (some ⟨gs, 0, none⟩), .pointer (some ⟨gn, 0, none⟩)], chV (.slice ad N c) z.val, undef, undef, undef, undef, undef, undef, undef, undef, undef, undef, undef, undef, undef, undef, undef, undef, undef, undef, undef, undef, undef, undef, undef, undef, undef, undef, undef, undef, undef, undef, undef, undef, undef], defers := [] }) ?assign ?body ?done ?stop
  case assign =>
    intro l z W K hK
    gi_wp2
    exact hK
  case body =>
    rintro lab pre z W ⟨P', D', hi, hrun, hwt⟩ hlen
    obtain ⟨an, HAN⟩ : ∃ an, Hid (an = at_ + pre.length) := ⟨_, rfl⟩
    obtain ⟨b, HB⟩ : ∃ b, Hid (b = (r.drop (64 * z.val)).take 64) := ⟨_, rfl⟩
    obtain ⟨x, HXX⟩ : ∃ x, Hid (x = putX13 D' (an : Int) b) := ⟨_, rfl⟩
    rw [← HAN.out] at hi
    have HI : Hid (PuI v1 gd lg g3 g4 g6 P lc D at_ m r 0 an 0 P' D' W) := hi
    have HRN : Hid (RunTo D (wsN at_ r (pre.map Fin.val)) D') := hrun
    have HWT : Hid (D'.wait.length ≤ D.wait.length + pre.length ∧ pre.length < m) := ⟨hwt, hlen⟩
    have HPU : Hid (∀ k, k < v1.heap.size → P' k → puR P lg g4 g6 k) := fun k hk h => (hi.gr k h).elim Or.inl (fun h2 => absurd h2 (by omega))
    have HCH : Hid (Sta P' W.drew (fun Y => Reads Y (chV (.slice ad N c) z.val) b)) := fun Y hY => by
      rw [HB.out]
      exact chunk_reads (HTX.out Y ((hi.mv.drew).trans HPU.out hY)) HBD.out.1 z.isLt
    have HWC : Hid (Calls Tryz.prog 89 #[.pointer (some ⟨gd, 0, none⟩), .int .i64 (an : Int), chV (.slice ad N c) z.val] W.drew fun e w' => ∃ P2, e = .returned (.int .i64 x) ∧ DkIs w' gd P2 (putD13 D' (an : Int) b) ∧ Mut P' W.drew w' ∧ Grew W.drew P' P2) := by
      rw [HXX.out]
      exact dkWrite_any (an : Int) _ b (hi.dk.same14 (w' := W.drew) (fun _ _ => rfl)) (by have h1 := HBD.out.2.2.2; omega) HCH.out
    clear hi hrun hwt hlen
    gi_wp2_with fail
    refine wpIn_round_held (S := fun wx => Blk wx g3 [.pointer (some ⟨lg, 0, none⟩)] 96 ∧ Blk wx g4 [.int .i64 (an : Int)] 3 ∧ wx.cell? ⟨lg, 0, none⟩ = some (wrF gd)) (by kernel_rfl) (by kernel_rfl) (by rintro ⟨_, _, h⟩; exact h) ⟨HI.out.b3.drew, HI.out.b4.drew, (HCF.out W 0 HI.out.lb).1⟩ ?_
    intro hS
    refine wpAnyH_take (i := 0) (v := .pointer (some ⟨lg, 0, none⟩)) rfl (by kernel_rfl) (by kernel_rfl) (by kernel_rfl) (fun _ _ _ h => h) (Or.inl ⟨by rfl, fun wx hx => by (have c0 : wx.cell? ⟨g3, 0, none⟩ = some (.pointer (some ⟨lg, 0, none⟩)) := hx.1.cell 0; simp [go_sem, c0])⟩) hS ?_
    simp only [Act.put, List.getElem_toArray, List.getElem_cons_zero, List.setIfInBounds_toArray, List.set_cons_zero, List.set_cons_succ]
    refine wpAnyH_take (i := 1) (v := .pointer (some ⟨lg, 0, none⟩)) rfl (by kernel_rfl) (by kernel_rfl) (by kernel_rfl) (fun _ _ _ h => h) (Or.inl ⟨by rfl, fun wx hx => by (have c0 : wx.cell? ⟨g3, 0, none⟩ = some (.pointer (some ⟨lg, 0, none⟩)) := hx.1.cell 0; simp [go_sem, c0])⟩) hS ?_
    simp only [Act.put, List.getElem_toArray, List.getElem_cons_succ, List.getElem_cons_zero, List.setIfInBounds_toArray, List.set_cons_zero, List.set_cons_succ]
    refine wpAnyH_take (i := 2) (v := .pointer (some ⟨lg, 0, none⟩)) rfl (by kernel_rfl) (by kernel_rfl) (by kernel_rfl) (fun _ _ _ h => h) (Or.inl ⟨by rfl, fun wx hx => by simp [go_sem]⟩) hS ?_
    simp only [Act.put, List.getElem_toArray, List.getElem_cons_succ, List.getElem_cons_zero, List.setIfInBounds_toArray, List.set_cons_zero, List.set_cons_succ]
    refine wpAnyH_take (i := 3) (v := .pointer (some ⟨lg, 0, none⟩)) rfl (by kernel_rfl) (by kernel_rfl) (by kernel_rfl) (fun _ _ _ h => h) (Or.inl ⟨by rfl, fun wx hx => by simp [go_sem]⟩) hS ?_
    simp only [Act.put, List.getElem_toArray, List.getElem_cons_succ, List.getElem_cons_zero, List.setIfInBounds_toArray, List.set_cons_zero, List.set_cons_succ]
    refine wpAnyH_take (i := 4) (v := wrF gd) rfl (by kernel_rfl) (by kernel_rfl) (by kernel_rfl) (fun _ _ _ h => h) (Or.inl ⟨by rfl, fun wx hx => by simp [go_sem, hx.2.2]⟩) hS ?_
    simp only [Act.put, List.getElem_toArray, List.getElem_cons_succ, List.getElem_cons_zero, List.setIfInBounds_toArray, List.set_cons_zero, List.set_cons_succ]
    refine wpAnyH_take (i := 5) (v := .int .i64 (an : Int)) rfl (by kernel_rfl) (by kernel_rfl) (by kernel_rfl) (fun _ _ _ h => h) (Or.inl ⟨by rfl, fun wx hx => by (have c0 : wx.cell? ⟨g4, 0, none⟩ = some (.int .i64 (an : Int)) := hx.2.1.cell 0; simp [go_sem, c0])⟩) hS ?_
    simp only [Act.put, List.getElem_toArray, List.getElem_cons_succ, List.getElem_cons_zero, List.setIfInBounds_toArray, List.set_cons_zero, List.set_cons_succ]
    refine wpAnyH_take (i := 6) (v := chV (.slice ad N c) z.val) rfl (by kernel_rfl) (by kernel_rfl) (by kernel_rfl) (fun _ _ _ h => h) (Or.inl ⟨by rfl, fun wx hx => by simp [go_sem]⟩) hS ?_
    simp only [Act.put, List.getElem_toArray, List.getElem_cons_succ, List.getElem_cons_zero, List.setIfInBounds_toArray, List.set_cons_zero, List.set_cons_succ]
    refine wpAnyH_enter 7 (by kernel_rfl) rfl (by rfl) (f := 89) (args := #[.pointer (some ⟨gd, 0, none⟩), .int .i64 (an : Int), chV (.slice ad N c) z.val]) (by simp [go_sem, wrF]) HWC.out ?_
    rintro e0 W2 ⟨P2, rfl, hd2, hm2, hg2⟩
    have hgr2 : Grew v1 P P2 := HI.out.gr.trans HI.out.mv.size hg2
    obtain ⟨n1, n3, n4, n6⟩ := HNQ.out P' HI.out.gr
    have HL2 : Hid (Blk W2 lg (lc 0) 144) := hm2.blk HI.out.lb.drew n1
    have HB32 : Hid (Blk W2 g3 [.pointer (some ⟨lg, 0, none⟩)] 96) := hm2.blk HI.out.b3.drew n3
    have HB42 : Hid (Blk W2 g4 [.int .i64 (an : Int)] 3) := hm2.blk HI.out.b4.drew n4
    have HB62 : Hid (Blk W2 g6 [.int .i64 0] 26) := hm2.blk HI.out.b6.drew n6
    obtain ⟨f1, f2, f3, f4⟩ := HCF.out W2 0 HL2.out
    replace hS : Blk W2 g3 [.pointer (some ⟨lg, 0, none⟩)] 96 ∧ Blk W2 g4 [.int .i64 (an : Int)] 3 ∧ W2.cell? ⟨lg, 0, none⟩ = some (wrF gd) := ⟨HB32.out, HB42.out, f1⟩
    refine ⟨_, rfl, hS, ?_⟩
    simp only [Act.put, List.getElem_toArray, List.getElem_cons_succ, List.getElem_cons_zero, List.setIfInBounds_toArray, List.set_cons_zero, List.set_cons_succ]
    refine wpAnyH_take (i := 8) (v := .pointer (some ⟨lg, 0, none⟩)) rfl (by kernel_rfl) (by kernel_rfl) (by kernel_rfl) (fun _ _ _ h => h) (Or.inl ⟨by rfl, fun wx hx => by simp [go_sem]⟩) hS ?_
    simp only [Act.put, List.getElem_toArray, List.getElem_cons_succ, List.getElem_cons_zero, List.setIfInBounds_toArray, List.set_cons_zero, List.set_cons_succ]
    refine wpAnyH_take (i := 9) (v := .pointer (some ⟨lg, 3, none⟩)) rfl (by kernel_rfl) (by kernel_rfl) (by kernel_rfl) (fun _ _ _ h => h) (Or.inl ⟨by rfl, fun wx hx => by simp [go_sem]⟩) hS ?_
    simp only [Act.put, List.getElem_toArray, List.getElem_cons_succ, List.getElem_cons_zero, List.setIfInBounds_toArray, List.set_cons_zero, List.set_cons_succ]
    obtain ⟨W3, HW3⟩ : ∃ y, Hid (y = W2.setCell ⟨lg, 3, none⟩ (.int .i64 x)) := ⟨_, rfl⟩
    have ho3 : Only lg W2 W3 := by rw [HW3.out]; exact Only.setCell (Only.refl _ _) _ _
    have hl3 : Blk W3 lg (lc x) 144 := by rw [HW3.out]; exact HSF.out W2 0 x HL2.out
    have hne3 : g3 ≠ lg := by have h1 := HGE.out; have h2 := HLG.out; omega
    have hne4 : g4 ≠ lg := by have h1 := HGE.out; have h2 := HLG.out; omega
    have hne6 : g6 ≠ lg := by have h1 := HGE.out; have h2 := HLG.out; omega
    replace hS : Blk W3 g3 [.pointer (some ⟨lg, 0, none⟩)] 96 ∧ Blk W3 g4 [.int .i64 (an : Int)] 3 ∧ W3.cell? ⟨lg, 0, none⟩ = some (wrF gd) := ⟨HB32.out.only ho3 hne3, HB42.out.only ho3 hne4, (HCF.out W3 x hl3).1⟩
    refine wpAnyH_skip 10 W3 (by kernel_rfl) rfl (by rfl) (by rw [HW3.out]; simp [go_sem, f3, f4]) hS ?_
    simp only [Act.put]
    refine wpAnyH_done (by kernel_rfl) ?_ _
    obtain ⟨m1, m3, m4, m6⟩ := HNQ.out P2 hgr2
    have HD3 : Hid (DkIs W3 gd P2 (putD13 D' (an : Int) b)) := hd2.same14 (fun k hk => ho3.block k (fun e => m1 (e ▸ hk)) (hd2.lt14 k hk))
    have HM3 : Hid (Mut (puR P' lg g4 g6) W W3) := ((mut_drew (puR P' lg g4 g6) W).trans (fun _ _ h => h) ((Mut.refl (puR P' lg g4 g6) W.drew).trans (fun _ _ h => Or.inl h) hm2)).trans (fun _ _ h => h) (ho3.mut (Or.inr (Or.inl rfl)))
    have HL3x : Hid (Blk W3 lg (lc x) 144) := hl3
    have HB33 : Hid (Blk W3 g3 [.pointer (some ⟨lg, 0, none⟩)] 96) := hS.1
    have HB43 : Hid (Blk W3 g4 [.int .i64 (an : Int)] 3) := hS.2.1
    have HB63 : Hid (Blk W3 g6 [.int .i64 0] 26) := HB62.out.only ho3 hne6
    have HG3 : Hid (Grew v1 P P2) := hgr2
    have HKC : Hid (∀ k, puR P' lg g4 g6 k → ∃ cs t, W.heap[k]? = some (.cells cs t (0, 0))) := fun k hk => by
      rcases hk with hk | rfl | rfl | rfl
      · exact HI.out.dk.cells k hk
      · exact ⟨_, _, HI.out.lb⟩
      · exact ⟨_, _, HI.out.b4⟩
      · exact ⟨_, _, HI.out.b6⟩
    have HPQ : Hid (∀ k, k < v1.heap.size → puR P' lg g4 g6 k → puR P lg g4 g6 k) := fun k hk h => by
      rcases h with h | h
      · exact HPU.out k hk h
      · exact Or.inr h
    have c3 : W3.cell? ⟨g3, 0, none⟩ = some (.pointer (some ⟨lg, 0, none⟩)) := hS.1.cell 0
    have c4 : W3.cell? ⟨g4, 0, none⟩ = some (.int .i64 (an : Int)) := hS.2.1.cell 0
    have d4 : W3.frozen? ⟨g4, 0, none⟩ = false := hS.2.1.frozen 0
    have c6 : W3.cell? ⟨g6, 0, none⟩ = some (.int .i64 0) := HB63.out.cell 0
    have d6 : W3.frozen? ⟨g6, 0, none⟩ = false := HB63.out.frozen 0
    have cF : W3.cell? ⟨lg, 3, none⟩ = some (.int .i64 x) := (HCF.out W3 x hl3).2.2.1
    have fan : IntKind.i64.wrap ((an : Int) + 1) = ((an + 1 : Nat) : Int) := by rw [IntKind.wrap_i64]; have h1 := HAN.out; have h2 := HBD.out; have h3 := HWT.out; omega
    have HLEN : Hid (an + 1 = at_ + (pre ++ [z]).length) := by show _ = _; rw [HAN.out, List.length_append]; rfl
    clear hS hl3 hne3 hne4 hne6 ho3 m1 m3 m4 m6 n1 n3 n4 n6 hd2 hm2 hg2 hgr2 f1 f2 f3 f4 HW3 HWC HCH
    have n34 : g3 ≠ g4 := HB33.out.neT HB43.out (by decide)
    have n64 : g6 ≠ g4 := HB63.out.neT HB43.out (by decide)
    have nl4 : lg ≠ g4 := HL3x.out.neT HB43.out (by decide)
    have n36 : g3 ≠ g6 := HB33.out.neT HB63.out (by decide)
    have nl6 : lg ≠ g6 := HL3x.out.neT HB63.out (by decide)
    have HWS : Hid (wsN at_ r ((pre ++ [z]).map Fin.val) = wsN at_ r (pre.map Fin.val) ++ [(an, b)]) := by
      show _ = _
      rw [List.map_append, List.map_cons, List.map_nil, wsN_snoc, List.length_map, HAN.out, HB.out]
    have HNE : Hid (g3 ≠ g4 ∧ g6 ≠ g4 ∧ lg ≠ g4 ∧ g3 ≠ g6 ∧ lg ≠ g6) := ⟨n34, n64, nl4, n36, nl6⟩
    clear n34 n64 nl4 n36 nl6
    by_cases hx0 : x = 0
    case pos =>
      subst hx0
      gi_wp2
      obtain ⟨W4, HW4⟩ : ∃ y, Hid (y = W3.setCell ⟨g4, 0, none⟩ (.int .i64 ((an : Int) + 1))) := ⟨_, rfl⟩
      have ho4 : Only g4 W3 W4 := by rw [HW4.out]; exact Only.setCell (Only.refl _ _) _ _
      have hb4 : Blk W4 g4 [.int .i64 ((at_ + (pre ++ [z]).length : Nat) : Int)] 3 := by rw [HW4.out, ← HLEN.out]; exact HB43.out.set 0 _
      rw [← HW4.out]
      have HM4 : Mut (puR P' lg g4 g6) W W4 := HM3.out.trans (fun _ _ h => h) (ho4.mut (Or.inr (Or.inr (Or.inl rfl))))
      obtain ⟨m1, m3, m4, m6⟩ := HNQ.out P2 HG3.out
      refine ⟨keeps_mut HM4 HKC.out, ⟨HM4.os, HM4.tape, HM4.output, HM4.size, fun k hk hn => HM4.block k (Nat.lt_of_lt_of_le hk HI.out.mv.size) (fun h => hn (HPQ.out k hk h))⟩, P2, putD13 D' (an : Int) b, ⟨HD3.out.same14 (fun k hk => ho4.block k (fun e => m4 (e ▸ hk)) (HD3.out.lt14 k hk)), HG3.out, HL3x.out.only ho4 HNE.out.2.2.1, HB33.out.only ho4 HNE.out.1, hb4, HB63.out.only ho4 HNE.out.2.1, HI.out.mv.trans HPQ.out HM4⟩, ?_, ?_⟩
      · rw [HWS.out]
        exact HRN.out.next (p := (an, b)) HXX.out.symm
      · have h1 := put_wait D' (an : Int) b
        have h2 := HWT.out.1
        rw [List.length_append]
        show _ ≤ D.wait.length + (pre.length + 1)
        omega
    case neg =>
      have q1 : (x != 0) = true := by rw [bne_iff_ne]; exact hx0
      gi_wp2
      obtain ⟨W4, HW4⟩ : ∃ y, Hid (y = W3.setCell ⟨g6, 0, none⟩ (.int .i64 x)) := ⟨_, rfl⟩
      have ho4 : Only g6 W3 W4 := by rw [HW4.out]; exact Only.setCell (Only.refl _ _) _ _
      have hb6 : Blk W4 g6 [.int .i64 x] 26 := by rw [HW4.out]; exact HB63.out.set 0 _
      rw [← HW4.out]
      have HM4 : Mut (puR P' lg g4 g6) W W4 := HM3.out.trans (fun _ _ h => h) (ho4.mut (Or.inr (Or.inr (Or.inr rfl))))
      obtain ⟨m1, m3, m4, m6⟩ := HNQ.out P2 HG3.out
      refine ⟨keeps_mut HM4 HKC.out, rfl, P2, putD13 D' (an : Int) b, an, x, ⟨HD3.out.same14 (fun k hk => ho4.block k (fun e => m6 (e ▸ hk)) (HD3.out.lt14 k hk)), HG3.out, HL3x.out.only ho4 HNE.out.2.2.2.2, HB33.out.only ho4 HNE.out.2.2.2.1, HB43.out.only ho4 (Ne.symm HNE.out.2.1), hb6, HI.out.mv.trans HPQ.out HM4⟩, fun t => ?_⟩
      rw [HWS.out, HXX.out]
      exact HRN.out.stop (p := (an, b)) (by rw [← HXX.out]; exact hx0) t
  case done =>
    rintro Dd xs W hD hxs ⟨P', D', hi, hrun, hwt⟩ hK
    subst hxs
    rw [frs_val m m (Nat.le_refl _), wsN_range at_ m r m (Nat.le_refl _), List.take_of_length_le (by rw [secs_len]; exact Nat.le_refl _)] at hrun
    rw [frs_len m m (Nat.le_refl _)] at hwt hi
    have HXE : Hid (DX = syncD13 D' ∧ xX = syncX13 D') := by
      have h := HX.out
      rw [hrun, runJ] at h
      by_cases h0 : syncX13 D' = 0
      · rw [if_pos h0, runJ] at h
        exact ⟨(congrArg Prod.fst h).symm, by rw [h0]; exact (congrArg Prod.snd h).symm⟩
      · rw [if_neg h0] at h
        exact ⟨(congrArg Prod.fst h).symm, (congrArg Prod.snd h).symm⟩
    have HI : Hid (PuI v1 gd lg g3 g4 g6 P lc D at_ m r 0 (at_ + m) 0 P' D' W) := hi
    have HSC : Hid (Calls Tryz.prog 90 #[.pointer (some ⟨gd, 0, none⟩)] W.drew fun e w' => ∃ P2, e = .returned (.int .i64 xX) ∧ DkIs w' gd P2 DX ∧ Mut P' W.drew w' ∧ Grew W.drew P' P2) := by
      rw [HXE.out.1, HXE.out.2]
      exact dkSync_any (hi.dk.same14 (w' := W.drew) (fun _ _ => rfl)) (by have h1 := HBD.out.2.2.2; omega)
    have HPQ : Hid (∀ k, k < v1.heap.size → puR P' lg g4 g6 k → puR P lg g4 g6 k) := fun k hk h => by
      rcases h with h | h
      · exact (hi.gr k h).elim Or.inl (fun h2 => absurd h2 (by omega))
      · exact Or.inr h
    have HKD : Hid (W.heap[Dd]? = some (.deferred (some []))) := hK
    have HKG : Hid (v1.heap.size ≤ Dd) := hD
    clear hi hrun hwt hK hD
    gi_wp2_with fail
    go_wp2_with fail
    refine wp_normal ?_
    refine wp_region_held_drew (S := fun wx => Blk wx g3 [.pointer (some ⟨lg, 0, none⟩)] 96 ∧ wx.cell? ⟨lg, 1, none⟩ = some (syF gd)) (by kernel_rfl) ⟨HI.out.b3.drew, (HCF.out W 0 HI.out.lb).2.1⟩ ?_
    intro hS
    refine wpAnyH_take (i := 0) (v := .pointer (some ⟨lg, 0, none⟩)) rfl (by kernel_rfl) (by kernel_rfl) (by kernel_rfl) (fun _ _ _ h => h) (Or.inl ⟨by rfl, fun wx hx => by (have c0 : wx.cell? ⟨g3, 0, none⟩ = some (.pointer (some ⟨lg, 0, none⟩)) := hx.1.cell 0; simp [go_sem, c0])⟩) hS ?_
    simp only [Act.put, List.getElem_toArray, List.getElem_cons_zero, List.setIfInBounds_toArray, List.set_cons_zero, List.set_cons_succ]
    refine wpAnyH_take (i := 1) (v := .pointer (some ⟨lg, 0, none⟩)) rfl (by kernel_rfl) (by kernel_rfl) (by kernel_rfl) (fun _ _ _ h => h) (Or.inl ⟨by rfl, fun wx hx => by (have c0 : wx.cell? ⟨g3, 0, none⟩ = some (.pointer (some ⟨lg, 0, none⟩)) := hx.1.cell 0; simp [go_sem, c0])⟩) hS ?_
    simp only [Act.put, List.getElem_toArray, List.getElem_cons_succ, List.getElem_cons_zero, List.setIfInBounds_toArray, List.set_cons_zero, List.set_cons_succ]
    refine wpAnyH_take (i := 2) (v := .pointer (some ⟨lg, 0, none⟩)) rfl (by kernel_rfl) (by kernel_rfl) (by kernel_rfl) (fun _ _ _ h => h) (Or.inl ⟨by rfl, fun wx hx => by simp [go_sem]⟩) hS ?_
    simp only [Act.put, List.getElem_toArray, List.getElem_cons_succ, List.getElem_cons_zero, List.setIfInBounds_toArray, List.set_cons_zero, List.set_cons_succ]
    refine wpAnyH_take (i := 3) (v := .pointer (some ⟨lg, 1, none⟩)) rfl (by kernel_rfl) (by kernel_rfl) (by kernel_rfl) (fun _ _ _ h => h) (Or.inl ⟨by rfl, fun wx hx => by simp [go_sem]⟩) hS ?_
    simp only [Act.put, List.getElem_toArray, List.getElem_cons_succ, List.getElem_cons_zero, List.setIfInBounds_toArray, List.set_cons_zero, List.set_cons_succ]
    refine wpAnyH_take (i := 4) (v := syF gd) rfl (by kernel_rfl) (by kernel_rfl) (by kernel_rfl) (fun _ _ _ h => h) (Or.inl ⟨by rfl, fun wx hx => by simp [go_sem, hx.2]⟩) hS ?_
    simp only [Act.put, List.getElem_toArray, List.getElem_cons_succ, List.getElem_cons_zero, List.setIfInBounds_toArray, List.set_cons_zero, List.set_cons_succ]
    refine wpAnyH_enter 5 (by kernel_rfl) rfl (by rfl) (f := 90) (args := #[.pointer (some ⟨gd, 0, none⟩)]) (by simp [go_sem, syF]) HSC.out ?_
    rintro e0 W2 ⟨P2, rfl, hd2, hm2, hg2⟩
    have hgr2 : Grew v1 P P2 := HI.out.gr.trans HI.out.mv.size hg2
    obtain ⟨n1, n3, n4, n6⟩ := HNQ.out P' HI.out.gr
    have HL2 : Hid (Blk W2 lg (lc 0) 144) := hm2.blk HI.out.lb.drew n1
    have HB32 : Hid (Blk W2 g3 [.pointer (some ⟨lg, 0, none⟩)] 96) := hm2.blk HI.out.b3.drew n3
    have HB62 : Hid (Blk W2 g6 [.int .i64 0] 26) := hm2.blk HI.out.b6.drew n6
    have HK2 : Hid (W2.heap[Dd]? = some (.deferred (some []))) := (keeps_mut hm2 (fun k hk => HI.out.dk.cells k hk)).same Dd _ HKD.out rfl
    obtain ⟨f1, f2, f3, f4⟩ := HCF.out W2 0 HL2.out
    replace hS : Blk W2 g3 [.pointer (some ⟨lg, 0, none⟩)] 96 ∧ W2.cell? ⟨lg, 1, none⟩ = some (syF gd) := ⟨HB32.out, f2⟩
    refine ⟨_, rfl, hS, ?_⟩
    simp only [Act.put, List.getElem_toArray, List.getElem_cons_succ, List.getElem_cons_zero, List.setIfInBounds_toArray, List.set_cons_zero, List.set_cons_succ]
    refine wpAnyH_take (i := 6) (v := .pointer (some ⟨lg, 0, none⟩)) rfl (by kernel_rfl) (by kernel_rfl) (by kernel_rfl) (fun _ _ _ h => h) (Or.inl ⟨by rfl, fun wx hx => by simp [go_sem]⟩) hS ?_
    simp only [Act.put, List.getElem_toArray, List.getElem_cons_succ, List.getElem_cons_zero, List.setIfInBounds_toArray, List.set_cons_zero, List.set_cons_succ]
    refine wpAnyH_take (i := 7) (v := .pointer (some ⟨lg, 3, none⟩)) rfl (by kernel_rfl) (by kernel_rfl) (by kernel_rfl) (fun _ _ _ h => h) (Or.inl ⟨by rfl, fun wx hx => by simp [go_sem]⟩) hS ?_
    simp only [Act.put, List.getElem_toArray, List.getElem_cons_succ, List.getElem_cons_zero, List.setIfInBounds_toArray, List.set_cons_zero, List.set_cons_succ]
    obtain ⟨W3, HW3⟩ : ∃ y, Hid (y = W2.setCell ⟨lg, 3, none⟩ (.int .i64 xX)) := ⟨_, rfl⟩
    have ho3 : Only lg W2 W3 := by rw [HW3.out]; exact Only.setCell (Only.refl _ _) _ _
    have hl3 : Blk W3 lg (lc xX) 144 := by rw [HW3.out]; exact HSF.out W2 0 xX HL2.out
    have hne3 : g3 ≠ lg := by have h1 := HGE.out; have h2 := HLG.out; omega
    have hne6 : g6 ≠ lg := by have h1 := HGE.out; have h2 := HLG.out; omega
    replace hS : Blk W3 g3 [.pointer (some ⟨lg, 0, none⟩)] 96 ∧ W3.cell? ⟨lg, 1, none⟩ = some (syF gd) := ⟨HB32.out.only ho3 hne3, (HCF.out W3 xX hl3).2.1⟩
    refine wpAnyH_skip 8 W3 (by kernel_rfl) rfl (by rfl) (by rw [HW3.out]; simp [go_sem, f3, f4]) hS ?_
    simp only [Act.put]
    refine wpAnyH_done (by kernel_rfl) ?_ _
    obtain ⟨m1, m3, m4, m6⟩ := HNQ.out P2 hgr2
    have HD3 : Hid (DkIs W3 gd P2 DX) := hd2.same14 (fun k hk => ho3.block k (fun e => m1 (e ▸ hk)) (hd2.lt14 k hk))
    have HM3 : Hid (Mut (puR P' lg g4 g6) W W3) := ((mut_drew (puR P' lg g4 g6) W).trans (fun _ _ h => h) ((Mut.refl (puR P' lg g4 g6) W.drew).trans (fun _ _ h => Or.inl h) hm2)).trans (fun _ _ h => h) (ho3.mut (Or.inr (Or.inl rfl)))
    have HL3x : Hid (Blk W3 lg (lc xX) 144) := hl3
    have HB63 : Hid (Blk W3 g6 [.int .i64 0] 26) := HB62.out.only ho3 hne6
    have HG3 : Hid (Grew v1 P P2) := hgr2
    have HK3 : Hid (W3.heap[Dd]? = some (.deferred (some []))) := by
      show _ = _
      rw [ho3.block Dd (by have h1 := HKG.out; have h2 := HLG.out; have h3 := HBW.out.size; omega) (Array.getElem?_eq_some_iff.1 HK2.out).1]
      exact HK2.out
    have c3 : W3.cell? ⟨g3, 0, none⟩ = some (.pointer (some ⟨lg, 0, none⟩)) := hS.1.cell 0
    have c6 : W3.cell? ⟨g6, 0, none⟩ = some (.int .i64 0) := HB63.out.cell 0
    have d6 : W3.frozen? ⟨g6, 0, none⟩ = false := HB63.out.frozen 0
    have cF : W3.cell? ⟨lg, 3, none⟩ = some (.int .i64 xX) := (HCF.out W3 xX hl3).2.2.1
    clear hS hl3 hne3 hne6 ho3 m1 m3 m4 n1 n3 n4 n6 hd2 hm2 hg2 hgr2 f1 f2 f3 f4 HW3 HSC
    simp only [onlyNormal]
    go_wp2
    obtain ⟨W4, HW4⟩ : ∃ y, Hid (y = W3.setCell ⟨g6, 0, none⟩ (.int .i64 xX)) := ⟨_, rfl⟩
    have ho4 : Only g6 W3 W4 := by rw [HW4.out]; exact Only.setCell (Only.refl _ _) _ _
    have hb6 : Blk W4 g6 [.int .i64 xX] 26 := by rw [HW4.out]; exact HB63.out.set 0 _
    have nl6 : lg ≠ g6 := HL3x.out.neT HB63.out (by decide)
    have hk4 : W4.heap[Dd]? = some (.deferred (some [])) := by
      rw [ho4.block Dd (fun e => by have h := HB63.out; unfold Blk at h; rw [← e, HK3.out] at h; cases h) (Array.getElem?_eq_some_iff.1 HK3.out).1]
      exact HK3.out
    rw [← HW4.out]
    have HM4 : Mut (puR P lg g4 g6) v1 W4 := HI.out.mv.trans HPQ.out (HM3.out.trans (fun _ _ h => h) (ho4.mut (Or.inr (Or.inr (Or.inr rfl)))))
    refine ⟨by simp, .inl ⟨_, _, rfl, run_takeDeferred hk4, ?_⟩⟩
    have hc5 := (hb6.put hk4 rfl (o' := .deferred none)).cell 0
    have hgp := grownBy_putObj' W4 Dd (.deferred none)
    have hd5 : DkIs (W4.putObj Dd (.deferred none)) gd P2 DX := (HD3.out.same14 (w' := W4) (fun k hk => ho4.block k (fun e => m6 (e ▸ hk)) (HD3.out.lt14 k hk))).own14 hgp (fun x e => by cases e; exact ⟨_, hk4, rfl⟩)
    have hl5 : Blk (W4.putObj Dd (.deferred none)) lg (lc xX) 144 := (HL3x.out.only ho4 nl6).put hk4 rfl
    have hm5 : Mut (puR P lg g4 g6) v1 (W4.putObj Dd (.deferred none)) := ⟨hgp.os.trans HM4.os, hgp.tape.trans HM4.tape, hgp.output.trans HM4.output, Nat.le_trans HM4.size hgp.size, fun k hk hn => (hgp.block k (Nat.lt_of_lt_of_le hk HM4.size) (fun e => by cases e; have := HKG.out; omega)).trans (HM4.block k hk hn)⟩
    refine ⟨.int .i64 xX, ?_, rfl, P2, hd5, by rw [← HLC.out]; exact hl5, HRM.out _ hm5, fun k hk => (HG3.out k hk).imp id (fun h => Nat.le_trans HBW.out.size h)⟩
    simp at hc5
    simp [results, Tryz.f102, go_sem, hc5]
  case stop =>
    rintro Dd cc pre W hD ⟨kk, hk, rfl⟩ ⟨rfl, P', D', an, x, hi, hrun⟩ hK
    rw [frs_val m kk hk, wsN_range at_ m r kk hk] at hrun
    have hxe : D' = DX ∧ x = xX := by
      have h1 := hrun (((secsOf at_ m r).drop kk).map some ++ [none])
      rw [← List.append_assoc, ← List.map_append, List.take_append_drop, HX.out] at h1
      exact ⟨(congrArg Prod.fst h1).symm, (congrArg Prod.snd h1).symm⟩
    obtain ⟨rfl, rfl⟩ := hxe
    have HI : Hid (PuI v1 gd lg g3 g4 g6 P lc D at_ m r x an x P' D' W) := hi
    have HKD : Hid (W.heap[Dd]? = some (.deferred (some []))) := hK
    have HKG : Hid (v1.heap.size ≤ Dd) := hD
    clear hi hrun hK hD
    gi_wp2
    refine ⟨by simp, .inl ⟨_, _, rfl, run_takeDeferred HKD.out, ?_⟩⟩
    have hc5 := (HI.out.b6.put HKD.out rfl (o' := .deferred none)).cell 0
    have hI5 : PuI v1 gd lg g3 g4 g6 P lc D at_ m r x an x P' D' (W.putObj Dd (.deferred none)) := HI.out.own (grownBy_putObj' W Dd (.deferred none)) (fun x e => by cases e; exact ⟨HKG.out, _, HKD.out, rfl⟩)
    refine ⟨.int .i64 x, ?_, rfl, P', hI5.dk, by rw [← HLC.out]; exact hI5.lb, HRM.out _ hI5.mv, fun k hk => (hI5.gr k hk).imp id (fun h => Nat.le_trans HBW.out.size h)⟩
    simp at hc5
    simp [results, Tryz.f102, go_sem, hc5]
end Go.Proofs.YtopmeedmgjdcgaaGreatDoor
/- The walks of journal's copies, All, Gen, Room and fit, as they landed (layer 14). -/
namespace Go.Proofs.YtopmeedmgjdcgaaGreatDoor
open Go.RowKit
set_option maxRecDepth 100000
def nilL (n : Nat) : List Value := List.replicate n (.slice none 0 0)
/-- the block g holds the texts xs, and room for n in all; the texts lie behind it -/
structure RowJ (w : World) (g n : Nat) (us : List Value) (xs : List Bs) : Prop where
  blk : Blk w g (us ++ nilL (n - us.length)) 23
  len : us.length = xs.length
  good : ∀ j u, us[j]? = some u → OwnB w (g + 1) u (xs.getD j [])
  le : us.length ≤ n
theorem RowJ.next {w w' : World} {g n : Nat} {us : List Value} {xs : List Bs} (h : RowJ w g n us xs) (hb : Below w.heap.size w w') : RowJ w' g n us xs :=
  ⟨h.blk.below hb h.blk.lt, h.len, fun j u hj => (h.good j u hj).sameJ fun k hk => hb.block k ((h.good j u hj).ltJ k hk).2, h.le⟩
theorem RowJ.put {w : World} {g n k : Nat} {us : List Value} {xs : List Bs} {u : Value} {t : Bs} (h : RowJ w g n us xs) (hk : us.length = k) (hn : k < n) (hu : OwnB w (g + 1) u t) : RowJ (w.setCell ⟨g, k, none⟩ u) g n (us ++ [u]) (xs ++ [t]) := by
  have o6 : Only g w (w.setCell ⟨g, k, none⟩ u) := Only.setCell (Only.refl g w) k _
  have up : ∀ x t, OwnB w (g + 1) x t → OwnB (w.setCell ⟨g, k, none⟩ u) (g + 1) x t := fun x t hx => hx.sameJ fun j hj => o6.block j (by have := (hx.ltJ j hj).1; omega) (hx.ltJ j hj).2
  refine ⟨?_, by rw [List.length_append, List.length_append, h.len]; rfl, fun j x hj => ?_, by rw [List.length_append, List.length_singleton]; omega⟩
  · have h1 := h.blk.set k u
    have e : (us ++ nilL (n - us.length)).set k u = us ++ [u] ++ nilL (n - (us ++ [u]).length) := by
      rw [← hk, List.set_append_right _ _ (Nat.le_refl _), Nat.sub_self, List.length_append, List.length_singleton]
      obtain ⟨m, hm⟩ : ∃ m, n - us.length = m + 1 := ⟨n - us.length - 1, by omega⟩
      rw [hm, show n - (us.length + 1) = m by omega, nilL, List.replicate_succ, List.set_cons_zero, List.append_assoc]
      rfl
    rw [e] at h1
    exact h1
  · by_cases hjl : j < us.length
    · rw [List.getElem?_append_left hjl] at hj
      have h1 := h.good j x hj
      have h2 : (xs ++ [t]).getD j [] = xs.getD j [] := by
        rw [List.getD_eq_getElem?_getD, List.getD_eq_getElem?_getD, List.getElem?_append_left (by rw [← h.len]; exact hjl)]
      rw [h2]
      exact up _ _ h1
    · rw [List.getElem?_append_right (by omega)] at hj
      have hj0 : j = us.length := by
        have := (List.getElem?_eq_some_iff.1 hj).1
        simp at this
        omega
      subst hj0
      simp at hj
      subst hj
      have h2 : (xs ++ [t]).getD us.length [] = t := by
        rw [List.getD_eq_getElem?_getD, h.len, List.getElem?_append_right (Nat.le_refl _), Nat.sub_self]
        rfl
      rw [h2]
      exact up _ _ hu
theorem RowJ.tx {w : World} {g n base : Nat} {us : List Value} {xs : List Bs} (h : RowJ w g n us xs) (hn : us.length = n) (hb : base ≤ g) (hm : n ≤ 1000000) (hw : base ≤ w.heap.size) : TxJ base (.slice (some ⟨g, 0, none⟩) n n) us xs w := by
  refine ⟨?_, h.len, fun j u hj => ownB_lower (h.good j u hj) (by omega), hw⟩
  have hb2 := h.blk
  rw [hn, Nat.sub_self, nilL, List.replicate_zero, List.append_nil] at hb2
  subst hn
  exact ⟨by rw [Nat.mul_one], Or.inr ⟨g, us.length, us.toArray, rfl, hb, hb2, Nat.le_refl _, by unfold maxLen; omega, by simp, by simp⟩⟩
set_option maxRecDepth 100000 in
set_option maxHeartbeats 8000000 in
theorem jRoom_any {gd hs k gen u lg : Nat} {fl : Int} {vr : Value} {w : World} (hlb : Blk w lg (lgC gd hs fl k gen vr u) 144) (hu : u ≤ hs) (hh : hs < 1000000) : Calls Tryz.prog 78 #[.pointer (some ⟨lg, 0, none⟩)] w fun e w' => e = .returned (.int .i64 ((min 1048576 (64 * (hs - u) - 57) : Nat) : Int)) ∧ Below w.heap.size w w' := by
  have HLB : Hid (Blk w lg (lgC gd hs fl k gen vr u) 144) := hlb
  obtain ⟨m, HM⟩ : ∃ m, Hid (m = hs - u) := ⟨_, rfl⟩
  have f1 : IntKind.i64.wrap ((hs : Int) - (u : Int)) = (m : Int) := by rw [IntKind.wrap_i64]; have := HM.out; omega
  rw [← HM.out]
  obtain ⟨r, HR⟩ : ∃ r, Hid (r = min 1048576 (64 * m - 57)) := ⟨_, rfl⟩
  have HC : Hid (∀ W, Calls Tryz.prog 99 #[.int .i64 (m : Int)] W fun e w' => e = .returned (.int .i64 (r : Int)) ∧ w' = W) := fun W => by rw [HR.out]; exact jRoom1_any m (by have := HM.out; omega) W
  rw [← HR.out]
  clear hlb hu hh
  go_enter Tryz.func78, Tryz.ntmps78
  go_upto_region 1 with fail
  refine wp_region_held_drew (S := fun wx => Blk wx lg (lgC gd hs fl k gen vr u) 144) (by kernel_rfl) HLB.out.drew ?_
  intro hS
  refine wpAnyH_take (i := 0) (v := .pointer (some ⟨lg, 0, none⟩)) rfl (by kernel_rfl) (by kernel_rfl) (by kernel_rfl) (fun _ _ _ h => h) (Or.inl ⟨by rfl, fun wx hx => by simp [go_sem]⟩) hS ?_
  simp only [Act.put, List.getElem_toArray, List.getElem_cons_zero, List.setIfInBounds_toArray, List.set_cons_zero, List.set_cons_succ]
  refine wpAnyH_take (i := 1) (v := .pointer (some ⟨lg, 0, none⟩)) rfl (by kernel_rfl) (by kernel_rfl) (by kernel_rfl) (fun _ _ _ h => h) (Or.inl ⟨by rfl, fun wx hx => by simp [go_sem]⟩) hS ?_
  simp only [Act.put, List.getElem_toArray, List.getElem_cons_succ, List.getElem_cons_zero, List.setIfInBounds_toArray, List.set_cons_zero, List.set_cons_succ]
  refine wpAnyH_take (i := 2) (v := .pointer (some ⟨lg, 2, none⟩)) rfl (by kernel_rfl) (by kernel_rfl) (by kernel_rfl) (fun _ _ _ h => h) (Or.inl ⟨by rfl, fun wx hx => by simp [go_sem]⟩) hS ?_
  simp only [Act.put, List.getElem_toArray, List.getElem_cons_succ, List.getElem_cons_zero, List.setIfInBounds_toArray, List.set_cons_zero, List.set_cons_succ]
  refine wpAnyH_take (i := 3) (v := .int .i64 (hs : Int)) rfl (by kernel_rfl) (by kernel_rfl) (by kernel_rfl) (fun _ _ _ h => h) (Or.inl ⟨by rfl, fun wx hx => by (have c0 : wx.cell? ⟨lg, 2, none⟩ = some (.int .i64 (hs : Int)) := hx.cell 2; simp [go_sem, c0])⟩) hS ?_
  simp only [Act.put, List.getElem_toArray, List.getElem_cons_succ, List.getElem_cons_zero, List.setIfInBounds_toArray, List.set_cons_zero, List.set_cons_succ]
  refine wpAnyH_take (i := 4) (v := .pointer (some ⟨lg, 0, none⟩)) rfl (by kernel_rfl) (by kernel_rfl) (by kernel_rfl) (fun _ _ _ h => h) (Or.inl ⟨by rfl, fun wx hx => by simp [go_sem]⟩) hS ?_
  simp only [Act.put, List.getElem_toArray, List.getElem_cons_succ, List.getElem_cons_zero, List.setIfInBounds_toArray, List.set_cons_zero, List.set_cons_succ]
  refine wpAnyH_take (i := 5) (v := .pointer (some ⟨lg, 0, none⟩)) rfl (by kernel_rfl) (by kernel_rfl) (by kernel_rfl) (fun _ _ _ h => h) (Or.inl ⟨by rfl, fun wx hx => by simp [go_sem]⟩) hS ?_
  simp only [Act.put, List.getElem_toArray, List.getElem_cons_succ, List.getElem_cons_zero, List.setIfInBounds_toArray, List.set_cons_zero, List.set_cons_succ]
  refine wpAnyH_take (i := 6) (v := .pointer (some ⟨lg, 4, none⟩)) rfl (by kernel_rfl) (by kernel_rfl) (by kernel_rfl) (fun _ _ _ h => h) (Or.inl ⟨by rfl, fun wx hx => by simp [go_sem]⟩) hS ?_
  simp only [Act.put, List.getElem_toArray, List.getElem_cons_succ, List.getElem_cons_zero, List.setIfInBounds_toArray, List.set_cons_zero, List.set_cons_succ]
  refine wpAnyH_take (i := 7) (v := .pointer (some ⟨lg, 7, none⟩)) rfl (by kernel_rfl) (by kernel_rfl) (by kernel_rfl) (fun _ _ _ h => h) (Or.inl ⟨by rfl, fun wx hx => by simp [go_sem]⟩) hS ?_
  simp only [Act.put, List.getElem_toArray, List.getElem_cons_succ, List.getElem_cons_zero, List.setIfInBounds_toArray, List.set_cons_zero, List.set_cons_succ]
  refine wpAnyH_take (i := 8) (v := .int .i64 (u : Int)) rfl (by kernel_rfl) (by kernel_rfl) (by kernel_rfl) (fun _ _ _ h => h) (Or.inl ⟨by rfl, fun wx hx => by (have c0 : wx.cell? ⟨lg, 7, none⟩ = some (.int .i64 (u : Int)) := hx.cell 7; simp [go_sem, c0])⟩) hS ?_
  simp only [Act.put, List.getElem_toArray, List.getElem_cons_succ, List.getElem_cons_zero, List.setIfInBounds_toArray, List.set_cons_zero, List.set_cons_succ]
  refine wpAnyH_take (i := 9) (v := .int .i64 (m : Int)) rfl (by kernel_rfl) (by kernel_rfl) (by kernel_rfl) (fun _ _ _ h => h) (Or.inl ⟨by rfl, fun wx hx => by simp [go_sem, f1]⟩) hS ?_
  simp only [Act.put, List.getElem_toArray, List.getElem_cons_succ, List.getElem_cons_zero, List.setIfInBounds_toArray, List.set_cons_zero, List.set_cons_succ]
  refine wpAnyH_enter 10 (by kernel_rfl) rfl (by rfl) (f := 99) (args := #[.int .i64 (m : Int)]) (by simp [go_sem]) (HC.out _) ?_
  rintro e0 y1 ⟨rfl, hy1⟩
  subst hy1
  refine ⟨_, rfl, hS, ?_⟩
  simp only [Act.put, List.getElem_toArray, List.getElem_cons_succ, List.getElem_cons_zero, List.setIfInBounds_toArray, List.set_cons_zero, List.set_cons_succ]
  refine wpAnyH_take (i := 11) (v := .int .i64 (r : Int)) rfl (by kernel_rfl) (by kernel_rfl) (by kernel_rfl) (fun _ _ _ h => h) (Or.inl ⟨by rfl, fun wx hx => by simp [go_sem]⟩) hS ?_
  simp only [Act.put, List.getElem_toArray, List.getElem_cons_succ, List.getElem_cons_zero, List.setIfInBounds_toArray, List.set_cons_zero, List.set_cons_succ]
  refine wpAnyH_done (by kernel_rfl) ?_ _
  go_wp2
  go_ret
  exact ⟨rfl, (Below.refl _ _).drew⟩
end Go.Proofs.YtopmeedmgjdcgaaGreatDoor
/- The walks of journal's begin and next, as they landed (layer 14). -/
namespace Go.Proofs.YtopmeedmgjdcgaaGreatDoor
open Go.RowKit
set_option maxRecDepth 100000
theorem Blk.seg {w : World} {g off : Nat} {A B B2 C : List Value} {t : TypeId} (h : Blk w g (A ++ (B ++ C)) t) (hl : B2.length = B.length) (ho : A.length = off) : Blk (w.setCells g off B2) g (A ++ (B2 ++ C)) t := by
  subst ho
  have h2 := setCells_eq g B2 A.length w _ t h (by simp only [List.length_append]; omega)
  have e : (A ++ (B ++ C)).take A.length ++ B2 ++ (A ++ (B ++ C)).drop (A.length + B2.length) = A ++ (B2 ++ C) := by
    rw [List.take_left, ← List.drop_drop, List.drop_left, hl, List.drop_left, List.append_assoc]
  rwa [e] at h2
theorem run_two : ∀ (a b : List (Option (Nat × Bs))) (D : DkT), runJ D (a ++ b) = if (runJ D a).2 = 0 then runJ (runJ D a).1 b else runJ D a
  | [], b, D => by simp [runJ]
  | some p :: a, b, D => by
    rw [List.cons_append, runJ, runJ]
    by_cases h : putX13 D (p.1 : Int) p.2 = 0
    · rw [if_pos h, if_pos h, run_two a b]
    · rw [if_neg h, if_neg h, if_neg h]
  | none :: a, b, D => by
    rw [List.cons_append, runJ, runJ]
    by_cases h : syncX13 D = 0
    · rw [if_pos h, if_pos h, run_two a b]
    · rw [if_neg h, if_neg h, if_neg h]
theorem sync_wait {D : DkT} (h : syncX13 D = 0) : (syncD13 D).wait = [] := by
  unfold syncX13 at h
  unfold syncD13
  by_cases h1 : D.down
  · rw [if_pos h1] at h; cases h
  rw [if_neg h1] at h ⊢
  by_cases h2 : D.left = 0
  · rw [if_pos h2] at h; cases h
  rw [if_neg h2]
theorem seg_wait : ∀ (l : List (Nat × Bs)) (D : DkT), (runJ D (l.map some ++ [none])).2 = 0 → (runJ D (l.map some ++ [none])).1.wait = []
  | [], D, h => by
    rw [List.map_nil, List.nil_append, runJ] at h ⊢
    by_cases h1 : syncX13 D = 0
    · rw [if_pos h1, runJ]; exact sync_wait h1
    · rw [if_neg h1] at h; exact absurd h h1
  | p :: l, D, h => by
    rw [List.map_cons, List.cons_append, runJ] at h ⊢
    by_cases h1 : putX13 D (p.1 : Int) p.2 = 0
    · rw [if_pos h1] at h ⊢; exact seg_wait l _ h
    · rw [if_neg h1] at h; exact absurd h h1
theorem run_size : ∀ (l : List (Option (Nat × Bs))) (D : DkT), okD D → sizeD (runJ D l).1 = sizeD D ∧ okD (runJ D l).1
  | [], _, h => ⟨rfl, h⟩
  | some p :: l, D, h => by
    have e : sizeD (putD13 D (p.1 : Int) p.2) = sizeD D := by rw [sizeD, size_put]; rfl
    rw [runJ]
    by_cases h1 : putX13 D (p.1 : Int) p.2 = 0
    · rw [if_pos h1]
      have h2 := run_size l _ (h.put (p.1 : Int) p.2)
      exact ⟨h2.1.trans e, h2.2⟩
    · rw [if_neg h1]; exact ⟨e, h.put _ _⟩
  | none :: l, D, h => by
    rw [runJ]
    by_cases h1 : syncX13 D = 0
    · rw [if_pos h1]
      have h2 := run_size l _ h.sync
      exact ⟨h2.1.trans (size_sync h), h2.2⟩
    · rw [if_neg h1]; exact ⟨size_sync h, h.sync⟩
/-- the j-th of three steps to begin anew: where, how many sectors, what -/
def stA (hs k : Nat) (j : Nat) : Nat := if j = 1 then k * hs + 1 else k * hs
def stM (hs : Nat) (l : List Bs) (j : Nat) : Nat := if j = 0 then hs else if j = 1 then secL l else 1
def stR (hs gen : Nat) (l : List Bs) (j : Nat) : Bs := if j = 0 then List.replicate (64 * hs) 0 else if j = 1 then recsB gen 0 l else headB gen
def stS (hs k gen : Nat) (l : List Bs) (j : Nat) : List (Option (Nat × Bs)) := (secsOf (stA hs k j) (stM hs l j) (stR hs gen l j)).map some ++ [none]
/-- what is left to do from the j-th step on -/
def stL (hs k gen : Nat) (l : List Bs) : Nat → List (Option (Nat × Bs))
  | 0 => stS hs k gen l 0 ++ (stS hs k gen l 1 ++ stS hs k gen l 2)
  | 1 => stS hs k gen l 1 ++ stS hs k gen l 2
  | 2 => stS hs k gen l 2
  | _ => []
theorem stL_anew (hs k gen : Nat) (l : List Bs) : anewS hs k gen l = stL hs k gen l 0 := by
  simp [anewS, stL, stS, stA, stM, stR]
theorem stL_step (hs k gen : Nat) (l : List Bs) {j : Nat} (hj : j < 3) : stL hs k gen l j = stS hs k gen l j ++ stL hs k gen l (j + 1) := by
  match j, hj with
  | 0, _ => rfl
  | 1, _ => rfl
  | 2, _ => simp [stL]
theorem len_stR (hs gen : Nat) (l : List Bs) {j : Nat} (hj : j < 3) : (stR hs gen l j).length = 64 * stM hs l j := by
  match j, hj with
  | 0, _ => simp [stR, stM]
  | 1, _ => show (recsB gen 0 l).length = 64 * secL l; rw [len_recsB, sizeL_eq]
  | 2, _ => show (headB gen).length = 64 * 1; rw [len_headB]
theorem stM_le {hs : Nat} {l : List Bs} (h : 1 + secL l ≤ hs) (j : Nat) : stM hs l j ≤ hs := by
  unfold stM
  split
  · omega
  · split <;> omega
theorem recsB_take (gen : Nat) {l : List Bs} {k : Nat} (hk : k < l.length) : recsB gen 0 (l.take (k + 1)) = recsB gen 0 (l.take k) ++ recB gen k (l.getD k []) := by
  rw [List.take_add_one, List.getElem?_eq_getElem hk, List.getD_eq_getElem?_getD, List.getElem?_eq_getElem hk]
  show recsB gen 0 (l.take k ++ [l[k]]) = _
  rw [recsB_snoc, List.length_take, Nat.min_eq_left (by omega), Nat.zero_add]
  rfl
/-- three steps' cells -/
def stC (a0 a1 a2 : Nat) (t0 t1 t2 : Value) : List Value := [.int .i64 (a0 : Int), t0, .int .i64 (a1 : Int), t1, .int .i64 (a2 : Int), t2]
theorem size_st : (Tryz.prog.info? 162).map (·.size) = some 2 := by kernel_rfl
theorem built_st (a : Int) (v : Value) (ad : Option Addr) (n c : Nat) (hv : v = .slice ad n c) (ps : List (Nat × Value)) (h : ps = [(0, .int .i64 a), (1, v)]) : Tryz.prog.built 162 ps = some #[.int .i64 a, v] := by subst h hv; kernel_rfl
theorem build_sts (f : Operand → Value) (o : Oper) (x0 x1 x2 : Operand) (a0 a1 a2 : Int) (ad0 ad1 ad2 : Option Addr) (n0 c0 n1 c1 n2 c2 : Nat) (h0 : f x0 = .agg #[.int .i64 a0, .slice ad0 n0 c0]) (h1 : f x1 = .agg #[.int .i64 a1, .slice ad1 n1 c1]) (h2 : f x2 = .agg #[.int .i64 a2, .slice ad2 n2 c2]) (ho : o.op = .buildSlice 163 3 #[(0, x0), (1, x1), (2, x2)]) (w : World) : (execOp f o).run Tryz.prog w = .ok (.value (.slice (some ⟨w.heap.size, 0, none⟩) 3 3)) (w.alloc (.cells [.int .i64 a0, .slice ad0 n0 c0, .int .i64 a1, .slice ad1 n1 c1, .int .i64 a2, .slice ad2 n2 c2].toArray 162)) := by
  unfold execOp
  rw [ho]
  simp only [List.map_toArray, List.map_cons, List.map_nil, h0, h1, h2]
  kernel_rfl
theorem alloc_st (f : Operand → Value) (o : Oper) (ho : o.op = .alloc 162) (w : World) : (execOp f o).run Tryz.prog w = .ok (.value (.pointer (some ⟨w.heap.size, 0, none⟩))) (w.alloc (.cells [.int .i64 0, .slice none 0 0].toArray 162)) := by
  unfold execOp
  rw [ho]
  kernel_rfl
theorem wpSeq_allocSt {ops : Array Oper} {Q : Exit → Act → World → Prop} {rest : List Oper} {o : Oper} {a : Act} {w : World} (ho : o.op = .alloc 162) (hw : Region.wanted o (yielded ops a.tmps) = true)
    (h : ∀ g w', NewR [.int .i64 0, .slice none 0 0] 162 w g w' → wpList Tryz.prog ops Q rest (a.put o.dst (.pointer (some ⟨g, 0, none⟩))) w') : wpList Tryz.prog ops Q (o :: rest) a w :=
  wpSeq_val _ _ hw (alloc_st _ _ ho _) (h _ _ (NewR.of _ _ w))
theorem info_st (x y : Value) : (Tryz.prog.info? 162).map (·.size) = some [x, y].length := size_st
theorem len_st (x y z u : Value) : [x, y].length = [z, u].length := rfl
theorem st_one (a : Int) (ad : Option Addr) (n c : Nat) : ∀ v ∈ [Value.int .i64 a, .slice ad n c], v.oneCell' = true := by
  intro v hv
  simp only [List.mem_cons, List.not_mem_nil, or_false] at hv
  rcases hv with rfl | rfl <;> rfl
theorem idxSt (b k : Nat) (hk : k < 3) (f : Operand → Value) (o : Oper) (x y : Operand) (ho : o.op = .indexAddr 163 x y) (hx : f x = .slice (some ⟨b, 0, none⟩) 3 3) (hy : f y = .int .i64 (k : Int)) (w : World) : (execOp f o).run Tryz.prog w = .ok (.value (.pointer (some ⟨b, 2 * k, none⟩))) w := by
  unfold execOp
  rw [ho]
  simp only [hx, hy]
  obtain rfl | rfl | rfl : k = 0 ∨ k = 1 ∨ k = 2 := by omega
  · kernel_rfl
  · kernel_rfl
  · kernel_rfl
theorem built_ct4 (a b u : Int) (ad : Option Addr) (n c : Nat) (ps : List (Nat × Value)) (h : ps = [(0, .int .i64 a), (1, .int .u64 b), (2, .slice ad n c), (3, .int .i64 u)]) : Tryz.prog.built 138 ps = some #[.int .i64 a, .int .u64 b, .slice ad n c, .int .i64 u] := by subst h; kernel_rfl
theorem make_zs (f : Operand → Value) (o : Oper) (x : Operand) (n : Nat) (hn : n < 281474976710600) (ho : o.op = .makeSlice 23 x x) (hx : f x = .int .i64 (n : Int)) (w : World) : (execOp f o).run Tryz.prog w = .ok (.value (.slice (some ⟨w.heap.size, 0, none⟩) n n)) (w.alloc (.cells (cb (List.replicate n 0)).toArray 5)) := by
  have hr := make_cap n n (Nat.le_refl _) hn w
  unfold execOp
  rw [ho]
  simp only [hx, Sem.run_bind, hr, Result.andThen_ok, Sem.run_pure]
/-- what a log has, stored whole -/
theorem wpSeq_storeCt {ops : Array Oper} {Q : Exit → Act → World → Prop} {rest : List Oper} {o : Oper} {a : Act} {w : World} (x y : Operand) (lg gd hs : Nat) (fl : Int) (k gen u k' gen' u' : Nat) (vr : Value) (ad : Option Addr) (n c : Nat) (hb : Blk w lg (lgC gd hs fl k gen vr u) 144)
    (ho : o.op = .store 138 x y) (hx : a.eval x = .pointer (some ⟨lg, 4, none⟩)) (hy : a.eval y = .agg (ctC k' gen' (.slice ad n c) u').toArray) (hgd : o.guard = none)
    (h : ∀ w', Blk w' lg (lgC gd hs fl k' gen' (.slice ad n c) u') 144 → Only lg w w' → wpList Tryz.prog ops Q rest (a.put o.dst undef) w') : wpList Tryz.prog ops Q (o :: rest) a w :=
  wpList_store_mid hgd 138 x y ho lg 4 _ hx hy (hb.there 4 _ (by simp [lgC, ctC])) (by rw [List.size_toArray]; exact size_ct) (all_oneCell_toArray (ct_one _ _ _ _ _ _))
    (by rw [List.toList_toArray]; exact h _ (Blk.seg (A := [wrF gd, syF gd, .int .i64 (hs : Int), .int .i64 fl]) (B := ctC k gen vr u) (C := []) hb rfl rfl) (Only.setCells _ _ _ (Only.refl lg w)))
/-- the loop of the three steps -/
structure BgI (W0 : World) (gd lg : Nat) (P : Nat → Prop) (lc : List Value) (D : DkT) (L : List (Option (Nat × Bs))) (P' : Nat → Prop) (D' : DkT) (R' : List (Option (Nat × Bs))) (W : World) : Prop where
  dk : DkIs W gd P' D'
  gr : Grew W0 P P'
  lb : Blk W lg lc 144
  mv : Mut (Un P (fun x => x = lg)) W0 W
  wt : D'.wait = []
  run : runJ D L = runJ D' R'
set_option maxRecDepth 100000 in
set_option maxHeartbeats 8000000 in
theorem jBegin_any {w : World} {gd lg : Nat} {P : Nat → Prop} {D : DkT} (hs k gen u k' gen' : Nat) (vr v : Value) (l : List Bs) (hK : KOk w) (hdk : DkIs w gd P D) (hwt : D.wait = []) (hlb : Blk w lg (lgC gd hs 0 k gen vr u) 144) (hnp : ¬ P lg) (hk' : k' ≤ 1) (hg' : gen' < 18446744073709551616) (hs1 : 1 ≤ hs) (hs2 : hs ≤ 50) (hfit : 1 + secL l ≤ hs) (hst : Sta (Un P (fun x => x = lg)) w (fun W => ReadsL W v l)) :
    Calls Tryz.prog 91 #[.pointer (some ⟨lg, 0, none⟩), .int .i64 (k' : Int), .int .u64 (gen' : Int), v] w fun e w' => e = .returned (.int .i64 (runJ D (anewS hs k' gen' l)).2) ∧ ∃ P', DkIs w' gd P' (runJ D (anewS hs k' gen' l)).1 ∧ ((runJ D (anewS hs k' gen' l)).2 = 0 → Blk w' lg (lgC gd hs 0 k' gen' v (1 + secL l)) 144) ∧ Mut (Un P (fun x => x = lg)) w w' ∧ Grew w P P' := by
  rw [stL_anew]
  obtain ⟨L, HLL⟩ : ∃ L, Hid (L = stL hs k' gen' l 0) := ⟨_, rfl⟩
  obtain ⟨DX, xX, HX⟩ : ∃ D2 x, Hid (runJ D L = (D2, x)) := ⟨(runJ D L).1, (runJ D L).2, rfl⟩
  rw [← HLL.out, HX.out]
  show Calls Tryz.prog 91 _ w fun e w' => e = .returned (.int .i64 xX) ∧ ∃ P', DkIs w' gd P' DX ∧ (xX = 0 → Blk w' lg (lgC gd hs 0 k' gen' v (1 + secL l)) 144) ∧ Mut (Un P (fun x => x = lg)) w w' ∧ Grew w P P'
  have hsl := sizeL_eq l
  have hge := sizeL_ge l
  obtain ⟨n, HN⟩ : ∃ n, Hid (n = l.length) := ⟨_, rfl⟩
  obtain ⟨ad, c, hv⟩ : ∃ a c, v = .slice a n c := by obtain ⟨a, c, hv, _⟩ := hst.now; rw [← HN.out] at hv; exact ⟨a, c, hv⟩
  subst hv
  have HST : Hid (Sta (Un P (fun x => x = lg)) w (fun W => ReadsL W (.slice ad n c) l)) := hst
  have HRL : Hid (ReadsL w (.slice ad n c) l) := hst.now
  have HDK : Hid (DkIs w gd P D) := hdk
  have HLB : Hid (Blk w lg (lgC gd hs 0 k gen vr u) 144) := hlb
  have HNP : Hid (¬ P lg) := hnp
  have HWT : Hid (D.wait = []) := hwt
  have HK : Hid (KOk w) := hK
  have HGN : Hid (gen' < 18446744073709551616) := hg'
  have HBD : Hid (k' ≤ 1 ∧ 1 ≤ hs ∧ hs ≤ 50 ∧ 1 + secL l ≤ hs ∧ n ≤ 50) := ⟨hk', hs1, hs2, hfit, by have := HN.out; omega⟩
  have HLX : Hid (∀ x ∈ l, x.length < 8000000) := fun x hx => by
    have h1 : 64 * secR x.length ≤ sizeL l := by
      obtain ⟨i, hi, rfl⟩ := List.getElem_of_mem hx
      have h2 := sizeL_take hi
      have h3 := sizeL_mono l (i + 1)
      rw [List.getD_eq_getElem?_getD, List.getElem?_eq_getElem hi] at h2
      simp only [Option.getD_some] at h2
      omega
    have h2 := secR_ge x.length
    omega
  obtain ⟨a0, HA0⟩ : ∃ m, Hid (m = k' * hs) := ⟨_, rfl⟩
  obtain ⟨a1, HA1⟩ : ∃ m, Hid (m = a0 + 1) := ⟨_, rfl⟩
  obtain ⟨N, HNN⟩ : ∃ m, Hid (m = hs * 64) := ⟨_, rfl⟩
  have ha0 : a0 ≤ 50 := by rw [HA0.out]; rcases Nat.le_one_iff_eq_zero_or_eq_one.1 hk' with e | e <;> rw [e] <;> omega
  have HAB : Hid (a0 ≤ 50 ∧ a1 ≤ 51) := ⟨ha0, by have := HA1.out; omega⟩
  have f1 : IntKind.i64.wrap ((k' : Int) * (hs : Int)) = (a0 : Int) := mJ HA0.out (by omega)
  have f2 : IntKind.i64.wrap ((a0 : Int) + 1) = (a1 : Int) := by rw [IntKind.wrap_i64]; have := HA1.out; omega
  have f3 : IntKind.i64.wrap ((hs : Int) * 64) = (N : Int) := mJ HNN.out (by have := HNN.out; omega)
  have c2 : w.cell? ⟨lg, 2, none⟩ = some (.int .i64 (hs : Int)) := hlb.cell 2
  clear hsl hge hst hdk hlb hnp hwt hK hg' hk' hs1 hs2 hfit ha0
  go_enter Tryz.func91, Tryz.ntmps91
  go_wp2
  clear c2 f1
  go_loopw [10, 25] (fun tv i wr => ∃ (kk : Nat), kk ≤ n ∧ i = .int .i64 (kk : Int) ∧ Hid (OwnB wr w.heap.size tv (recsB gen' 0 (l.take kk))) ∧ Hid (Below w.heap.size w wr)) (fun _ i _ => n - (intOf i).toNat)
  case atStart => exact ⟨0, Nat.zero_le _, rfl, by rw [List.take_zero]; exact OwnB.nil _ _, Below.refl _ _⟩
  case round =>
    obtain ⟨kk, hk, rfl, HOW, HBB⟩ := hrel
    by_cases hlt : kk < n
    case pos =>
      have hlk : (kk : Int) < (n : Int) := by omega
      have k0 : (0 : Int) ≤ (kk : Int) := by omega
      have g1 : IntKind.i64.wrap ((kk : Int) + 1) = (kk : Int) + 1 := by rw [IntKind.wrap_i64]; have := HBD.out; omega
      have g2 : IntKind.u64.wrap (kk : Int) = (kk : Int) := uJ (by have := HBD.out; omega)
      have hkl : kk < l.length := by rw [← HN.out]; exact hlt
      obtain ⟨b, off, vj, rfl, hc, hrj⟩ := (HRL.out.below HBB.out).atJ hkl
      obtain ⟨x, HXX⟩ : ∃ x, Hid (x = l.getD kk []) := ⟨_, rfl⟩
      rw [← HXX.out] at hrj
      obtain ⟨aj, nj, cj, hvj⟩ := hrj.form
      subst hvj
      have HTK : Hid (recsB gen' 0 (l.take (kk + 1)) = recsB gen' 0 (l.take kk) ++ recB gen' kk x) := by show _ = _; rw [recsB_take gen' hkl, ← HXX.out]
      have HRC : Hid (Calls Tryz.prog 101 #[.int .u64 (gen' : Int), .int .u64 (kk : Int), .slice aj nj cj] wr fun e w' => ∃ v', e = .returned v' ∧ OwnB w' wr.heap.size v' (recB gen' kk x) ∧ Below wr.heap.size wr w') := jRecord_own gen' kk HGN.out (by have := HBD.out; omega) _ x (HLX.out x (by rw [HXX.out, List.getD_eq_getElem?_getD, List.getElem?_eq_getElem hkl]; exact List.getElem_mem hkl)) wr (HK.out.below HBB.out HK.out.lt) hrj
      have HLN : Hid ((recsB gen' 0 (l.take kk)).length + (recB gen' kk x).length ≤ 140737488355328) := by
        have h1 := congrArg List.length HTK.out
        rw [List.length_append, len_recsB] at h1
        have h2 := sizeL_mono l (kk + 1)
        have h3 := sizeL_eq l
        have h4 := HBD.out
        show _ ≤ _
        omega
      clear hkl hrj f2 f3
      have tk0 : Hid True := trivial
      have tk1 : Hid True := trivial
      go_wp2_with (first
        | (clear tk0; go_at_call 101; refine HRC.out.mono ?_; rintro e0 y1 ⟨v1, rfl, ho, hz⟩
           replace HOW : Hid (OwnB y1 w.heap.size u10 (recsB gen' 0 (l.take kk))) := HOW.out.below hz (Nat.le_refl _)
           have HR1 : Hid (Reads y1 v1 (recB gen' kk x)) := ho.reads
           replace HBB : Hid (Below w.heap.size w y1) := HBB.out.trans (hz.mono HBB.out.size)
           clear ho hz)
        | (clear tk1; at_builtin; refine wpList_appendB rfl (.tmp 30) (.tmp 35) rfl w.heap.size _ (recsB gen' 0 (l.take kk)) rfl HOW.out _ (recB gen' kk x) rfl HR1.out HLN.out HBB.out.size ?_; intro v2 y2 ho hz _
           have HOW2 : Hid (OwnB y2 w.heap.size v2 (recsB gen' 0 (l.take (kk + 1)))) := by rw [HTK.out]; exact ho
           have HBB2 : Hid (Below w.heap.size w y2) := HBB.out.trans hz
           clear ho hz))
      go_roundw
      case rel => exact ⟨kk + 1, by omega, by simp, HOW2, HBB2⟩
      case measure => simp [intOf]; omega
    case neg =>
      have hlk : ¬ ((kk : Int) < (n : Int)) := by omega
      have HE : Hid (l.take kk = l) := List.take_of_length_le (by rw [← HN.out]; omega)
      rw [HE.out] at HOW
      obtain ⟨tx, HTX⟩ : ∃ t, Hid (t = recsB gen' 0 l) := ⟨_, rfl⟩
      obtain ⟨tn, HTN⟩ : ∃ t, Hid (t = tx.length) := ⟨_, rfl⟩
      rw [← HTX.out] at HOW
      obtain ⟨ta, tc, htv⟩ := ownB_form HOW.out
      rw [← HTN.out] at htv
      subst htv
      clear hk
      go_upto_region 8 with fail
      have HLR : Hid (Blk wr lg (lgC gd hs 0 k gen vr u) 144) := HLB.out.below HBB.out HLB.out.lt
      have HKR : Hid (KOk wr) := HK.out.below HBB.out HK.out.lt
      go_cut [13] from 38 to 55 (fun sv W => ∃ gT gz ah nh ch, sv = .slice (some ⟨gT, 0, none⟩) 3 3 ∧ Blk W gT (stC a0 a1 a0 (.slice (some ⟨gz, 0, none⟩) N N) (.slice ta tn tc) (.slice ah nh ch)) 162 ∧ Blk W gz (cb (List.replicate N 0)) 5 ∧ OwnB W w.heap.size (.slice ah nh ch) (headB gen') ∧ Below wr.heap.size wr W ∧ wr.heap.size ≤ gT ∧ wr.heap.size ≤ gz)
      case first =>
        have HMK : Hid (N ≤ N ∧ N < 281474976710600) := ⟨Nat.le_refl _, by have h1 := HNN.out; have h2 := HBD.out; omega⟩
        refine wp_region_held_drew (S := fun wx => wx.cell? ⟨lg, 2, none⟩ = some (.int .i64 (hs : Int))) (by kernel_rfl) (HLR.out.drew.cell 2) ?_
        intro hS
        replace HLR : Hid (Blk (World.drew wr) lg (lgC gd hs 0 k gen vr u) 144) := HLR.out.drew
        have HBD2 : Hid (Below wr.heap.size wr (World.drew wr)) := (Below.refl _ _).drew
        replace HKR : Hid (KOk (World.drew wr)) := HKR.out.below HBD2.out HKR.out.lt
        have HSZ : Hid (wr.heap.size = (World.drew wr).heap.size ∧ w.heap.size ≤ (World.drew wr).heap.size) := ⟨rfl, HBB.out.size⟩
        change wpAnyH _ _ _ _ _ _ _ _ (World.drew wr)
        generalize World.drew wr = y0 at *
        refine wpAnyH_take (i := 0) (v := .int .i64 (a0 : Int)) rfl (by kernel_rfl) (by kernel_rfl) (by kernel_rfl) (fun _ _ _ h => h) (Or.inl ⟨by rfl, fun wx hx => by simp [go_sem]⟩) hS ?_
        simp only [Act.put, List.getElem_toArray, List.getElem_cons_zero, List.setIfInBounds_toArray, List.set_cons_zero, List.set_cons_succ]
        refine wpAnyH_take (i := 1) (v := .pointer (some ⟨lg, 0, none⟩)) rfl (by kernel_rfl) (by kernel_rfl) (by kernel_rfl) (fun _ _ _ h => h) (Or.inl ⟨by rfl, fun wx hx => by simp [go_sem]⟩) hS ?_
        simp only [Act.put, List.getElem_toArray, List.getElem_cons_succ, List.getElem_cons_zero, List.setIfInBounds_toArray, List.set_cons_zero, List.set_cons_succ]
        refine wpAnyH_take (i := 2) (v := .pointer (some ⟨lg, 0, none⟩)) rfl (by kernel_rfl) (by kernel_rfl) (by kernel_rfl) (fun _ _ _ h => h) (Or.inl ⟨by rfl, fun wx hx => by simp [go_sem]⟩) hS ?_
        simp only [Act.put, List.getElem_toArray, List.getElem_cons_succ, List.getElem_cons_zero, List.setIfInBounds_toArray, List.set_cons_zero, List.set_cons_succ]
        refine wpAnyH_take (i := 3) (v := .pointer (some ⟨lg, 2, none⟩)) rfl (by kernel_rfl) (by kernel_rfl) (by kernel_rfl) (fun _ _ _ h => h) (Or.inl ⟨by rfl, fun wx hx => by simp [go_sem]⟩) hS ?_
        simp only [Act.put, List.getElem_toArray, List.getElem_cons_succ, List.getElem_cons_zero, List.setIfInBounds_toArray, List.set_cons_zero, List.set_cons_succ]
        refine wpAnyH_take (i := 4) (v := .int .i64 (hs : Int)) rfl (by kernel_rfl) (by kernel_rfl) (by kernel_rfl) (fun _ _ _ h => h) (Or.inl ⟨by rfl, fun wx hx => by simp [go_sem, hx]⟩) hS ?_
        simp only [Act.put, List.getElem_toArray, List.getElem_cons_succ, List.getElem_cons_zero, List.setIfInBounds_toArray, List.set_cons_zero, List.set_cons_succ]
        refine wpAnyH_take (i := 5) (v := .int .i64 (N : Int)) rfl (by kernel_rfl) (by kernel_rfl) (by kernel_rfl) (fun _ _ _ h => h) (Or.inl ⟨by rfl, fun wx hx => by simp [go_sem, f3]⟩) hS ?_
        simp only [Act.put, List.getElem_toArray, List.getElem_cons_succ, List.getElem_cons_zero, List.setIfInBounds_toArray, List.set_cons_zero, List.set_cons_succ]
        refine wpAnyH_take (i := 8) (v := .int .i64 (a0 : Int)) rfl (by kernel_rfl) (by kernel_rfl) (by kernel_rfl) (fun _ _ _ h => h) (Or.inl ⟨by rfl, fun wx hx => by simp [go_sem]⟩) hS ?_
        simp only [Act.put, List.getElem_toArray, List.getElem_cons_succ, List.getElem_cons_zero, List.setIfInBounds_toArray, List.set_cons_zero, List.set_cons_succ]
        refine wpAnyH_take (i := 9) (v := .int .i64 (a1 : Int)) rfl (by kernel_rfl) (by kernel_rfl) (by kernel_rfl) (fun _ _ _ h => h) (Or.inl ⟨by rfl, fun wx hx => by simp [go_sem, f2]⟩) hS ?_
        simp only [Act.put, List.getElem_toArray, List.getElem_cons_succ, List.getElem_cons_zero, List.setIfInBounds_toArray, List.set_cons_zero, List.set_cons_succ]
        refine wpAnyH_take (i := 10) (v := .slice ta tn tc) rfl (by kernel_rfl) (by kernel_rfl) (by kernel_rfl) (fun _ _ _ h => h) (Or.inl ⟨by rfl, fun wx hx => by simp [go_sem]⟩) hS ?_
        simp only [Act.put, List.getElem_toArray, List.getElem_cons_succ, List.getElem_cons_zero, List.setIfInBounds_toArray, List.set_cons_zero, List.set_cons_succ]
        refine wpAnyH_take (i := 11) (v := .agg #[.int .i64 (a1 : Int), .slice ta tn tc]) rfl (by kernel_rfl) (by kernel_rfl) (by kernel_rfl) (fun _ _ _ h => h) (Or.inl ⟨by rfl, fun wx hx => by exact build_op _ _ 162 [(0, .tmp 47), (1, .tmp 48)] rfl _ (built_st _ _ _ _ _ rfl _ rfl) _⟩) hS ?_
        simp only [Act.put, List.getElem_toArray, List.getElem_cons_succ, List.getElem_cons_zero, List.setIfInBounds_toArray, List.set_cons_zero, List.set_cons_succ]
        refine wpAnyH_take (i := 12) (v := .int .i64 (a0 : Int)) rfl (by kernel_rfl) (by kernel_rfl) (by kernel_rfl) (fun _ _ _ h => h) (Or.inl ⟨by rfl, fun wx hx => by simp [go_sem]⟩) hS ?_
        simp only [Act.put, List.getElem_toArray, List.getElem_cons_succ, List.getElem_cons_zero, List.setIfInBounds_toArray, List.set_cons_zero, List.set_cons_succ]
        refine wpAnyH_take (i := 13) (v := .int .u64 (gen' : Int)) rfl (by kernel_rfl) (by kernel_rfl) (by kernel_rfl) (fun _ _ _ h => h) (Or.inl ⟨by rfl, fun wx hx => by simp [go_sem]⟩) hS ?_
        simp only [Act.put, List.getElem_toArray, List.getElem_cons_succ, List.getElem_cons_zero, List.setIfInBounds_toArray, List.set_cons_zero, List.set_cons_succ]
        refine wpAnyH_pair 6 14 (by kernel_rfl) ?_ ?_
        · have hz1 := below_alloc y0 (.cells (cb (List.replicate N 0)).toArray 5)
          have hbz : Blk (y0.alloc (.cells (cb (List.replicate N 0)).toArray 5)) y0.heap.size (cb (List.replicate N 0)) 5 := Blk.new _ _ _
          refine wpOp_vl 6 (.slice (some ⟨y0.heap.size, 0, none⟩) N N) (y0.alloc (.cells (cb (List.replicate N 0)).toArray 5)) (by rfl) (by rfl) (make_zs _ _ (.tmp 43) N HMK.out.2 rfl rfl _) ?_
          replace hS : (y0.alloc (.cells (cb (List.replicate N 0)).toArray 5)).cell? ⟨lg, 2, none⟩ = some (.int .i64 (hs : Int)) := (HLR.out.below hz1 HLR.out.lt).cell 2
          refine ⟨hS, ?_⟩
          simp only [Act.put, List.getElem_toArray, List.getElem_cons_succ, List.getElem_cons_zero, List.setIfInBounds_toArray, List.set_cons_zero, List.set_cons_succ]
          generalize y0.alloc (.cells (cb (List.replicate N 0)).toArray 5) = y1 at *
          obtain ⟨gz, HGZ⟩ : ∃ g, Hid (g = y0.heap.size) := ⟨_, rfl⟩
          rw [← HGZ.out] at hbz ⊢
          refine wpAnyH_take (i := 7) (v := .agg #[.int .i64 (a0 : Int), .slice (some ⟨gz, 0, none⟩) N N]) rfl (by kernel_rfl) (by kernel_rfl) (by kernel_rfl) (fun _ _ _ h => h) (Or.inl ⟨by rfl, fun wx hx => by exact build_op _ _ 162 [(0, .tmp 38), (1, .tmp 44)] rfl _ (built_st _ _ _ _ _ rfl _ rfl) _⟩) hS ?_
          simp only [Act.put, List.getElem_toArray, List.getElem_cons_succ, List.getElem_cons_zero, List.setIfInBounds_toArray, List.set_cons_zero, List.set_cons_succ]
          refine wpAnyH_enter 14 (by kernel_rfl) rfl (by rfl) (f := 118) (args := #[.int .u64 (gen' : Int)]) (by simp [go_sem]) (jHead_own gen' HGN.out _ (HKR.out.below hz1 HKR.out.lt)) ?_
          rintro e0 y2 ⟨vh, rfl, ho, hz2⟩
          obtain ⟨ah, ch, hvh⟩ := ownB_form ho
          obtain ⟨nh, HNH⟩ : ∃ m, Hid (m = (headB gen').length) := ⟨_, rfl⟩
          rw [← HNH.out] at hvh
          subst hvh
          replace hS : y2.cell? ⟨lg, 2, none⟩ = some (.int .i64 (hs : Int)) := ((HLR.out.below hz1 HLR.out.lt).below hz2 (HLR.out.below hz1 HLR.out.lt).lt).cell 2
          refine ⟨_, rfl, hS, ?_⟩
          simp only [Act.put, List.getElem_toArray, List.getElem_cons_succ, List.getElem_cons_zero, List.setIfInBounds_toArray, List.set_cons_zero, List.set_cons_succ]
          refine wpAnyH_take (i := 15) (v := .agg #[.int .i64 (a0 : Int), .slice ah nh ch]) rfl (by kernel_rfl) (by kernel_rfl) (by kernel_rfl) (fun _ _ _ h => h) (Or.inl ⟨by rfl, fun wx hx => by exact build_op _ _ 162 [(0, .tmp 50), (1, .tmp 52)] rfl _ (built_st _ _ _ _ _ rfl _ rfl) _⟩) hS ?_
          simp only [Act.put, List.getElem_toArray, List.getElem_cons_succ, List.getElem_cons_zero, List.setIfInBounds_toArray, List.set_cons_zero, List.set_cons_succ]
          have hz3 := below_alloc y2 (.cells (stC a0 a1 a0 (.slice (some ⟨gz, 0, none⟩) N N) (.slice ta tn tc) (.slice ah nh ch)).toArray 162)
          have hbt : Blk (y2.alloc (.cells (stC a0 a1 a0 (.slice (some ⟨gz, 0, none⟩) N N) (.slice ta tn tc) (.slice ah nh ch)).toArray 162)) y2.heap.size (stC a0 a1 a0 (.slice (some ⟨gz, 0, none⟩) N N) (.slice ta tn tc) (.slice ah nh ch)) 162 := Blk.new _ _ _
          refine wpAnyH_step 16 (.slice (some ⟨y2.heap.size, 0, none⟩) 3 3) (y2.alloc (.cells (stC a0 a1 a0 (.slice (some ⟨gz, 0, none⟩) N N) (.slice ta tn tc) (.slice ah nh ch)).toArray 162)) (by kernel_rfl) rfl (by rfl) (build_sts _ _ (.tmp 45) (.tmp 49) (.tmp 53) _ _ _ _ _ _ _ _ _ _ _ _ rfl rfl rfl rfl _) ((((HLR.out.below hz1 HLR.out.lt).below hz2 (HLR.out.below hz1 HLR.out.lt).lt).below hz3 ((HLR.out.below hz1 HLR.out.lt).below hz2 (HLR.out.below hz1 HLR.out.lt).lt).lt).cell 2) ?_
          simp only [Act.put, List.getElem_toArray, List.getElem_cons_succ, List.getElem_cons_zero, List.setIfInBounds_toArray, List.set_cons_zero, List.set_cons_succ]
          replace hS := (((HLR.out.below hz1 HLR.out.lt).below hz2 (HLR.out.below hz1 HLR.out.lt).lt).below hz3 ((HLR.out.below hz1 HLR.out.lt).below hz2 (HLR.out.below hz1 HLR.out.lt).lt).lt).cell 2
          refine wpAnyH_take (i := 17) (v := .slice (some ⟨y2.heap.size, 0, none⟩) 3 3) rfl (by kernel_rfl) (by kernel_rfl) (by kernel_rfl) (fun _ _ _ h => h) (Or.inl ⟨by rfl, fun wx hx => by simp [go_sem]⟩) hS ?_
          simp only [Act.put, List.getElem_toArray, List.getElem_cons_succ, List.getElem_cons_zero, List.setIfInBounds_toArray, List.set_cons_zero, List.set_cons_succ]
          refine wpAnyH_done (by kernel_rfl) ?_ _
          go_wp2
          go_meet
          case rel =>
            have hbb1 : Below wr.heap.size wr y2 := HBD2.out.trans ((hz1.trans (hz2.mono hz1.size)).mono (by rw [HSZ.out.1]; exact Nat.le_refl _))
            have h7 : wr.heap.size ≤ y2.heap.size := hbb1.size
            refine ⟨y2.heap.size, gz, ah, nh, ch, rfl, hbt, (hbz.below hz2 hbz.lt).below hz3 (hbz.below hz2 hbz.lt).lt, ownB_lower (ho.below hz3 (Nat.le_refl _)) (Nat.le_trans HSZ.out.2 hz1.size), hbb1.trans (hz3.mono hbb1.size), h7, by rw [HGZ.out, HSZ.out.1]; exact Nat.le_refl _⟩
        · refine wpOp_en 14 (by rfl) (by rfl) (f := 118) (args := #[.int .u64 (gen' : Int)]) (by simp [go_sem]) (jHead_own gen' HGN.out _ HKR.out) ?_
          rintro e0 y1 ⟨vh, rfl, ho, hz1⟩
          obtain ⟨ah, ch, hvh⟩ := ownB_form ho
          obtain ⟨nh, HNH⟩ : ∃ m, Hid (m = (headB gen').length) := ⟨_, rfl⟩
          rw [← HNH.out] at hvh
          subst hvh
          have hl1 : Blk y1 lg (lgC gd hs 0 k gen vr u) 144 := HLR.out.below hz1 HLR.out.lt
          replace hS : y1.cell? ⟨lg, 2, none⟩ = some (.int .i64 (hs : Int)) := hl1.cell 2
          refine ⟨_, rfl, hS, ?_⟩
          simp only [Act.put, List.getElem_toArray, List.getElem_cons_succ, List.getElem_cons_zero, List.setIfInBounds_toArray, List.set_cons_zero, List.set_cons_succ]
          refine wpAnyH_take (i := 15) (v := .agg #[.int .i64 (a0 : Int), .slice ah nh ch]) rfl (by kernel_rfl) (by kernel_rfl) (by kernel_rfl) (fun _ _ _ h => h) (Or.inl ⟨by rfl, fun wx hx => by exact build_op _ _ 162 [(0, .tmp 50), (1, .tmp 52)] rfl _ (built_st _ _ _ _ _ rfl _ rfl) _⟩) hS ?_
          simp only [Act.put, List.getElem_toArray, List.getElem_cons_succ, List.getElem_cons_zero, List.setIfInBounds_toArray, List.set_cons_zero, List.set_cons_succ]
          have hz2 := below_alloc y1 (.cells (cb (List.replicate N 0)).toArray 5)
          have hbz : Blk (y1.alloc (.cells (cb (List.replicate N 0)).toArray 5)) y1.heap.size (cb (List.replicate N 0)) 5 := Blk.new _ _ _
          have hl2 : Blk (y1.alloc (.cells (cb (List.replicate N 0)).toArray 5)) lg (lgC gd hs 0 k gen vr u) 144 := hl1.below hz2 hl1.lt
          refine wpAnyH_step 6 (.slice (some ⟨y1.heap.size, 0, none⟩) N N) (y1.alloc (.cells (cb (List.replicate N 0)).toArray 5)) (by kernel_rfl) rfl (by rfl) (make_zs _ _ (.tmp 43) N HMK.out.2 rfl rfl _) (hl2.cell 2) ?_
          replace hS := hl2.cell 2
          simp only [Act.put, List.getElem_toArray, List.getElem_cons_succ, List.getElem_cons_zero, List.setIfInBounds_toArray, List.set_cons_zero, List.set_cons_succ]
          generalize y1.alloc (.cells (cb (List.replicate N 0)).toArray 5) = y2 at *
          obtain ⟨gz, HGZ⟩ : ∃ g, Hid (g = y1.heap.size) := ⟨_, rfl⟩
          rw [← HGZ.out] at hbz ⊢
          refine wpAnyH_take (i := 7) (v := .agg #[.int .i64 (a0 : Int), .slice (some ⟨gz, 0, none⟩) N N]) rfl (by kernel_rfl) (by kernel_rfl) (by kernel_rfl) (fun _ _ _ h => h) (Or.inl ⟨by rfl, fun wx hx => by exact build_op _ _ 162 [(0, .tmp 38), (1, .tmp 44)] rfl _ (built_st _ _ _ _ _ rfl _ rfl) _⟩) hS ?_
          simp only [Act.put, List.getElem_toArray, List.getElem_cons_succ, List.getElem_cons_zero, List.setIfInBounds_toArray, List.set_cons_zero, List.set_cons_succ]
          have hz3 := below_alloc y2 (.cells (stC a0 a1 a0 (.slice (some ⟨gz, 0, none⟩) N N) (.slice ta tn tc) (.slice ah nh ch)).toArray 162)
          have hbt : Blk (y2.alloc (.cells (stC a0 a1 a0 (.slice (some ⟨gz, 0, none⟩) N N) (.slice ta tn tc) (.slice ah nh ch)).toArray 162)) y2.heap.size (stC a0 a1 a0 (.slice (some ⟨gz, 0, none⟩) N N) (.slice ta tn tc) (.slice ah nh ch)) 162 := Blk.new _ _ _
          refine wpAnyH_step 16 (.slice (some ⟨y2.heap.size, 0, none⟩) 3 3) (y2.alloc (.cells (stC a0 a1 a0 (.slice (some ⟨gz, 0, none⟩) N N) (.slice ta tn tc) (.slice ah nh ch)).toArray 162)) (by kernel_rfl) rfl (by rfl) (build_sts _ _ (.tmp 45) (.tmp 49) (.tmp 53) _ _ _ _ _ _ _ _ _ _ _ _ rfl rfl rfl rfl _) ((hl2.below hz3 hl2.lt).cell 2) ?_
          simp only [Act.put, List.getElem_toArray, List.getElem_cons_succ, List.getElem_cons_zero, List.setIfInBounds_toArray, List.set_cons_zero, List.set_cons_succ]
          replace hS := (hl2.below hz3 hl2.lt).cell 2
          refine wpAnyH_take (i := 17) (v := .slice (some ⟨y2.heap.size, 0, none⟩) 3 3) rfl (by kernel_rfl) (by kernel_rfl) (by kernel_rfl) (fun _ _ _ h => h) (Or.inl ⟨by rfl, fun wx hx => by simp [go_sem]⟩) hS ?_
          simp only [Act.put, List.getElem_toArray, List.getElem_cons_succ, List.getElem_cons_zero, List.setIfInBounds_toArray, List.set_cons_zero, List.set_cons_succ]
          refine wpAnyH_done (by kernel_rfl) ?_ _
          go_wp2
          go_meet
          case rel =>
            have hbb1 : Below wr.heap.size wr y2 := HBD2.out.trans ((hz1.trans (hz2.mono hz1.size)).mono (by rw [HSZ.out.1]; exact Nat.le_refl _))
            have h7 : wr.heap.size ≤ y2.heap.size := hbb1.size
            refine ⟨y2.heap.size, gz, ah, nh, ch, rfl, hbt, hbz.below hz3 hbz.lt, ownB_lower ((ho.below hz2 (Nat.le_refl _)).below hz3 (Nat.le_refl _)) HSZ.out.2, hbb1.trans (hz3.mono hbb1.size), h7, by rw [HGZ.out, HSZ.out.1]; exact hz1.size⟩
      case rest =>
        obtain ⟨gT, gz, ah, nh, ch, rfl, hbT, hbz, hoh, hbw, hgT, hgz⟩ := hcut
        clear HLR HKR
        have HBC : Hid (Below w.heap.size w wc) := HBB.out.trans (hbw.mono HBB.out.size)
        have HLT : Hid (∀ x, Un P (fun x => x = lg) x → x < w.heap.size) := fun x hx => hx.elim (HDK.out.lt14 x) (fun e => by rw [e]; exact HLB.out.lt)
        have HMC : Hid (Mut (Un P (fun x => x = lg)) w wc) := mut_below HBC.out _
        have HST0 : Hid (Sta (Un P (fun x => x = lg)) wc (fun W => ReadsL W (.slice ad n c) l)) := HST.out.below HBC.out
        have HT0 : Hid (∀ j, j < 3 → Sta (Un P (fun x => x = lg)) wc (fun W => Reads W ([.slice (some ⟨gz, 0, none⟩) N N, .slice ta tn tc, .slice ah nh ch].getD j undef) (stR hs gen' l j))) := fun j hj => by
          match j, hj with
          | 0, _ =>
            have e : stR hs gen' l 0 = List.replicate N 0 := by show List.replicate (64 * hs) 0 = _; rw [HNN.out, Nat.mul_comm]
            show Sta _ wc (fun W => Reads W (.slice (some ⟨gz, 0, none⟩) N N) (stR hs gen' l 0))
            rw [e]
            exact hbz.stB (fun h => absurd (HLT.out gz h) (by have := HBB.out.size; omega)) (by rw [List.length_replicate]) (by rw [List.length_replicate]; exact Nat.le_refl _)
          | 1, _ =>
            show Sta _ wc (fun W => Reads W (.slice ta tn tc) (recsB gen' 0 l))
            rw [← HTX.out]
            exact (HOW.out.below hbw (Nat.le_refl _)).st HLT.out
          | 2, _ => exact hoh.st HLT.out
        have HV0 : Hid (BgI wc gd lg P (lgC gd hs 0 k gen vr u) D L P D (stL hs k' gen' l 0) wc) := ⟨HDK.out.same14 (fun x hx => HBC.out.block x (HDK.out.lt14 x hx)), Grew.refl _ _, HLB.out.below HBC.out HLB.out.lt, Mut.refl _ _, HWT.out, by rw [HLL.out]⟩
        have HBT : Hid (Blk wc gT (stC a0 a1 a0 (.slice (some ⟨gz, 0, none⟩) N N) (.slice ta tn tc) (.slice ah nh ch)) 162) := hbT
        have HGT : Hid (¬ Un P (fun x => x = lg) gT) := fun h => absurd (HLT.out gT h) (by have := HBB.out.size; omega)
        have HAT : Hid (∀ j, j < 3 → stA hs k' j = ([a0, a1, a0] : List Nat).getD j 0) := fun j hj => by
          match j, hj with
          | 0, _ => show k' * hs = a0; rw [HA0.out]
          | 1, _ => show k' * hs + 1 = a1; rw [HA1.out, HA0.out]
          | 2, _ => show k' * hs = a0; rw [HA0.out]
        clear hbT hbz hoh hbw hgT hgz
        go_wp2
        go_loopw [57] (fun i wr => ∃ (j : Nat) (P' : Nat → Prop) (D' : DkT), j ≤ 3 ∧ i = .int .i64 (j : Int) ∧ Hid (BgI wc gd lg P (lgC gd hs 0 k gen vr u) D L P' D' (stL hs k' gen' l j) wr)) (fun i _ => 3 - (intOf i).toNat)
        case atStart => exact ⟨0, P, D, by omega, rfl, HV0⟩
        case round =>
          clear HV0
          obtain ⟨j, P', D', hj, rfl, HBI⟩ := hrel
          by_cases hlt3 : j < 3
          case pos =>
            have hlk3 : (j : Int) < 3 := by omega
            have g1 : IntKind.i64.wrap ((j : Int) + 1) = (j : Int) + 1 := by rw [IntKind.wrap_i64]; omega
            obtain ⟨aj, HAJ⟩ : ∃ m, Hid (m = stA hs k' j) := ⟨_, rfl⟩
            obtain ⟨mj, HMJ⟩ : ∃ m, Hid (m = stM hs l j) := ⟨_, rfl⟩
            obtain ⟨rj, HRJ⟩ : ∃ m, Hid (m = stR hs gen' l j) := ⟨_, rfl⟩
            obtain ⟨tj, HTJ⟩ : ∃ t : Value, Hid (t = [.slice (some ⟨gz, 0, none⟩) N N, .slice ta tn tc, .slice ah nh ch].getD j undef) := ⟨_, rfl⟩
            have hcell : (stC a0 a1 a0 (.slice (some ⟨gz, 0, none⟩) N N) (.slice ta tn tc) (.slice ah nh ch))[2 * j]? = some (.int .i64 (aj : Int)) ∧ (stC a0 a1 a0 (.slice (some ⟨gz, 0, none⟩) N N) (.slice ta tn tc) (.slice ah nh ch))[2 * j + 1]? = some tj := by
              rw [HAJ.out, HAT.out j hlt3, HTJ.out]
              match j, hlt3 with
              | 0, _ => exact ⟨rfl, rfl⟩
              | 1, _ => exact ⟨rfl, rfl⟩
              | 2, _ => exact ⟨rfl, rfl⟩
            have HSJ : Hid (Sta (Un P (fun x => x = lg)) wc (fun W => Reads W tj rj)) := by rw [HTJ.out, HRJ.out]; exact HT0.out j hlt3
            have HPO : Hid (∀ x, x < wc.heap.size → Un P' (fun x => x = lg) x → Un P (fun x => x = lg) x) := fun x hx h => h.elim (fun h => (HBI.out.gr x h).elim Or.inl (fun h2 => absurd h2 (by omega))) Or.inr
            have HNP2 : Hid (¬ P' lg) := fun h => (HBI.out.gr lg h).elim HNP.out (fun h2 => absurd h2 (by have h3 := HLB.out.lt; have h4 := HBC.out.size; omega))
            obtain ⟨tad, tnn, tcc, htj⟩ := (HSJ.out.now).form
            subst htj
            have HBTr : Hid (Blk wr gT (stC a0 a1 a0 (.slice (some ⟨gz, 0, none⟩) N N) (.slice ta tn tc) (.slice ah nh ch)) 162) := HBI.out.mv.blk HBT.out HGT.out
            have HRG : Hid (wr.rangeAt gT (2 * j) [.int .i64 (aj : Int), .slice tad tnn tcc]) := fun i v hv => by
              match i, hv with
              | 0, hv => simp at hv; subst hv; rw [Nat.add_zero, HBTr.out.cell]; exact hcell.1
              | 1, hv => simp at hv; subst hv; rw [HBTr.out.cell]; exact hcell.2
            obtain ⟨D2, x2, HX2⟩ : ∃ D2 x, Hid (runJ D' (stS hs k' gen' l j) = (D2, x)) := ⟨(runJ D' (stS hs k' gen' l j)).1, (runJ D' (stS hs k' gen' l j)).2, rfl⟩
            have HPC : Hid (∀ W, Below wr.heap.size wr W → Calls Tryz.prog 102 #[.pointer (some ⟨lg, 0, none⟩), .int .i64 (aj : Int), .slice tad tnn tcc] W fun e w' => e = .returned (.int .i64 x2) ∧ ∃ P2, DkIs w' gd P2 D2 ∧ Blk w' lg (lgC gd hs x2 k gen vr u) 144 ∧ Mut (Un P' (fun x => x = lg)) W w' ∧ Grew W P' P2) := fun W hW => by
              have hbi := HBI.out
              have hmW : Mut (Un P (fun x => x = lg)) wc W := hbi.mv.trans (fun _ _ h => h) (mut_below hW _)
              have h1 := jPut_any (w := W) (gd := gd) (lg := lg) (P := P') (D := D') hs k gen u aj mj vr (.slice tad tnn tcc) rj (hbi.dk.same14 (fun x hx => hW.block x (hbi.dk.lt14 x hx))) (hbi.lb.below hW hbi.lb.lt) HNP2.out (by rw [HRJ.out, HMJ.out]; exact len_stR hs gen' l hlt3) (by rw [HMJ.out]; have h2 := stM_le (l := l) HBD.out.2.2.2.1 j; have h3 := HBD.out; omega) (by rw [HAJ.out]; unfold stA; have h2 := HAB.out; have h3 := HA0.out; have h4 := HA1.out; split <;> omega) (by rw [hbi.wt]; show 0 + mj ≤ 200; rw [HMJ.out]; have h2 := stM_le (l := l) HBD.out.2.2.2.1 j; have h3 := HBD.out; omega) (HSJ.out.go hmW HPO.out)
              have e : (secsOf aj mj rj).map some ++ [none] = stS hs k' gen' l j := by rw [stS, HAJ.out, HMJ.out, HRJ.out]
              rw [e, HX2.out] at h1
              exact h1
            have HRS : Hid (runJ D L = if x2 = 0 then runJ D2 (stL hs k' gen' l (j + 1)) else (D2, x2)) := by
              show _ = _
              rw [HBI.out.run, stL_step hs k' gen' l hlt3, run_two, HX2.out]
            have HWT2 : Hid (x2 = 0 → D2.wait = []) := fun h => by
              have h1 := seg_wait (secsOf (stA hs k' j) (stM hs l j) (stR hs gen' l j)) D'
              have e : (secsOf (stA hs k' j) (stM hs l j) (stR hs gen' l j)).map some ++ [none] = stS hs k' gen' l j := rfl
              rw [e, HX2.out] at h1
              exact h1 h
            clear hcell
            have tk0 : Hid True := trivial
            have tk1 : Hid True := trivial
            have tk2 : Hid True := trivial
            have tk3 : Hid True := trivial
            have tk4 : Hid True := trivial
            go_upto_region 13 with (first
              | (clear tk0; refine wpSeq_val (.pointer (some ⟨gT, 2 * j, none⟩)) _ (by rfl) (idxSt gT j hlt3 _ _ (.tmp 55) (.tmp 57) rfl rfl rfl _) ?_)
              | (clear tk1; with_reducible refine wpSeq_loadW 162 (.tmp 59) gT (2 * j) [.int .i64 (aj : Int), .slice tad tnn tcc] _ HRG.out Tryz.underlying162 rfl (info_st _ _) ?_ ?_ ?_ ?_
                 · rfl
                 · rfl
                 · rfl)
              | (clear tk2; with_reducible refine wpSeq_allocSt ?_ ?_ ?_
                 · rfl
                 · rfl
                 intro g15 y1 nn
                 have HN1 : Hid (NewR [.int .i64 0, .slice none 0 0] 162 wr g15 y1) := nn
                 clear nn)
              | (clear tk3; with_reducible refine wpSeq_storeRow 162 (.tmp 15) (.tmp 60) g15 [.int .i64 0, .slice none 0 0] [.int .i64 (aj : Int), .slice tad tnn tcc] HN1.out.blk (len_st _ _ _ _) (info_st _ _) (st_one _ _ _ _) ?_ ?_ ?_ ?_ ?_
                 · rfl
                 · rfl
                 · rfl
                 · rfl
                 intro y2 hs2
                 have HB2 : Hid (Below wr.heap.size wr y2) := HN1.out.below.trans (hs2.only.below HN1.out.ge HN1.out.below.size)
                 have c0 : y2.cell? ⟨g15, 0, none⟩ = some (.int .i64 (aj : Int)) := hs2.blk.cell 0
                 have c1 : y2.cell? ⟨g15, 1, none⟩ = some (.slice tad tnn tcc) := hs2.blk.cell 1
                 clear hs2)
              | (clear tk4; go_at_call 102; refine (HPC.out _ HB2.out).mono ?_; rintro e0 y3 ⟨rfl, P2, hd2, hl2, hm2, hg2⟩
                 have hm3 : Mut (Un P (fun x => x = lg)) wc y3 := (HBI.out.mv.trans (fun _ _ h => h) (mut_below HB2.out _)).trans HPO.out hm2
                 have hg3 : Grew wc P P2 := HBI.out.gr.trans (Nat.le_trans HBI.out.mv.size HB2.out.size) hg2
                 have HD3 : Hid (DkIs y3 gd P2 D2 ∧ Blk y3 lg (lgC gd hs x2 k gen vr u) 144 ∧ Mut (Un P (fun x => x = lg)) wc y3 ∧ Grew wc P P2) := ⟨hd2, hl2, hm3, hg3⟩
                 clear hd2 hl2 hm2 hg2 hm3 hg3 c0 c1))
            by_cases hx0 : x2 = 0
            case pos =>
              subst hx0
              have HBI2 : Hid (BgI wc gd lg P (lgC gd hs 0 k gen vr u) D L P2 D2 (stL hs k' gen' l (j + 1)) y3) := ⟨HD3.out.1, HD3.out.2.2.2, HD3.out.2.1, HD3.out.2.2.1, HWT2.out rfl, by rw [HRS.out, if_pos rfl]⟩
              go_wp2
              go_roundw
              case rel => exact ⟨j + 1, P2, D2, by omega, by simp, HBI2⟩
              case measure => simp [intOf]; omega
            case neg =>
              have q1 : (x2 != 0) = true := by rw [bne_iff_ne]; exact hx0
              have hxe : D2 = DX ∧ x2 = xX := by
                have h := HRS.out
                rw [if_neg hx0, HX.out] at h
                exact ⟨(congrArg Prod.fst h).symm, (congrArg Prod.snd h).symm⟩
              obtain ⟨rfl, rfl⟩ := hxe
              go_wp2
              go_ret
              exact ⟨rfl, P2, HD3.out.1, fun h => absurd h hx0, HMC.out.trans (fun _ _ h => h) HD3.out.2.2.1, fun x hx => (HD3.out.2.2.2 x hx).imp id (fun h => Nat.le_trans HBC.out.size h)⟩
          case neg =>
            obtain rfl : j = 3 := by omega
            have hlk3 : ¬ (((3 : Nat) : Int) < 3) := by omega
            have hxe : D' = DX ∧ 0 = xX := by
              have h := HBI.out.run
              rw [HX.out] at h
              exact ⟨(congrArg Prod.fst h).symm, (congrArg Prod.snd h).symm⟩
            obtain ⟨rfl, rfl⟩ := hxe
            obtain ⟨ts, HTS⟩ : ∃ m, Hid (m = secL l) := ⟨_, rfl⟩
            obtain ⟨u2, HU2⟩ : ∃ m, Hid (m = 1 + secL l) := ⟨_, rfl⟩
            have HSC : Hid (∀ W, Calls Tryz.prog 103 #[.int .i64 (tn : Int)] W fun e w' => e = .returned (.int .i64 (ts : Int)) ∧ w' = W) := fun W => by
              have h2 : tn = 64 * secL l := by rw [HTN.out, HTX.out, len_recsB, sizeL_eq]
              have h3 := HBD.out
              have h1 := jSectors_any tn (by omega) W
              have e : (tn + 63) / 64 = ts := by rw [HTS.out]; omega
              rw [e] at h1
              exact h1
            have g2 : IntKind.i64.wrap (1 + (ts : Int)) = (u2 : Int) := by rw [IntKind.wrap_i64]; have h1 := HTS.out; have h2 := HU2.out; have h3 := HBD.out; omega
            have HLR : Hid (Blk wr lg (lgC gd hs 0 k gen vr u) 144) := HBI.out.lb
            have tk0 : Hid True := trivial
            have tk1 : Hid True := trivial
            have tk2 : Hid True := trivial
            go_wp2_with (first
              | (clear tk0; go_at_call 103; refine (HSC.out _).mono ?_; rintro e0 y1 ⟨rfl, hy1⟩; subst hy1)
              | (clear tk1; with_reducible refine wpSeq_build 138 [(0, .tmp 72), (1, .tmp 73), (2, .tmp 74), (3, .tmp 78)] (ctC k' gen' (.slice ad n c) u2) ?_ ?_ ?_ ?_
                 · exact built_ct4 _ _ _ _ _ _ _ rfl
                 · rfl
                 · rfl)
              | (clear tk2; with_reducible refine wpSeq_storeCt (.tmp 81) (.tmp 79) lg gd hs 0 k gen u k' gen' u2 vr ad n c HLR.out ?_ ?_ ?_ ?_ ?_
                 · rfl
                 · rfl
                 · rfl
                 · rfl
                 intro y2 hb2 ho2
                 have HL2 : Hid (Blk y2 lg (lgC gd hs 0 k' gen' (.slice ad n c) u2) 144) := hb2
                 have HO2 : Hid (Only lg y1 y2) := ho2
                 clear hb2 ho2))
            go_ret
            have hnp2 : ¬ P' lg := fun h => (HBI.out.gr lg h).elim HNP.out (fun h2 => absurd h2 (by have h3 := HLB.out.lt; have h4 := HBC.out.size; omega))
            refine ⟨rfl, P', HBI.out.dk.same14 (fun x hx => HO2.out.block x (fun e => hnp2 (e ▸ hx)) (HBI.out.dk.lt14 x hx)), by first | (intro _; rw [← HU2.out]; exact HL2.out) | (rw [← HU2.out]; exact HL2.out), HMC.out.trans (fun _ _ h => h) (HBI.out.mv.trans (fun _ _ h => h) (HO2.out.mut (Or.inr rfl))), fun x hx => (HBI.out.gr x hx).imp id (fun h => Nat.le_trans HBC.out.size h)⟩
end Go.Proofs.YtopmeedmgjdcgaaGreatDoor
/- The walks of journal's next, Append and Restart, as they landed (layer 14). -/
namespace Go.Proofs.YtopmeedmgjdcgaaGreatDoor
open Go.RowKit
set_option maxRecDepth 100000
/-- the next generation's number -/
def gN (gen : Nat) : Nat := (gen + 1) % 18446744073709551616
theorem gN_eq {gen : Nat} (h : gen + 1 < 18446744073709551616) : gN gen = gen + 1 := Nat.mod_eq_of_lt h
theorem gN_lt (gen : Nat) : gN gen < 18446744073709551616 := Nat.mod_lt _ (by decide)
set_option maxRecDepth 100000 in
set_option maxHeartbeats 8000000 in
theorem jNext_any {w : World} {gd lg : Nat} {P : Nat → Prop} {D : DkT} (hs k gen u : Nat) (vr v : Value) (l : List Bs) (hK : KOk w) (hdk : DkIs w gd P D) (hwt : D.wait = []) (hlb : Blk w lg (lgC gd hs 0 k gen vr u) 144) (hnp : ¬ P lg) (hk1 : k ≤ 1) (hs1 : 1 ≤ hs) (hs2 : hs ≤ 50) (hfit : 1 + secL l ≤ hs) (hst : Sta (Un P (fun x => x = lg)) w (fun W => ReadsL W v l)) :
    Calls Tryz.prog 92 #[.pointer (some ⟨lg, 0, none⟩), v] w fun e w' => e = .returned (.int .i64 (runJ D (anewS hs (1 - k) (gN gen) l)).2) ∧ ∃ P', DkIs w' gd P' (runJ D (anewS hs (1 - k) (gN gen) l)).1 ∧ ((runJ D (anewS hs (1 - k) (gN gen) l)).2 = 0 → Blk w' lg (lgC gd hs 0 (1 - k) (gN gen) v (1 + secL l)) 144) ∧ Mut (Un P (fun x => x = lg)) w w' ∧ Grew w P P' := by
  obtain ⟨k1, HK1⟩ : ∃ m, Hid (m = 1 - k) := ⟨_, rfl⟩
  obtain ⟨g1, HG1⟩ : ∃ m, Hid (m = gN gen) := ⟨_, rfl⟩
  have f1 : IntKind.i64.wrap (1 - (k : Int)) = (k1 : Int) := by rw [IntKind.wrap_i64]; have := HK1.out; omega
  have f2 : IntKind.u64.wrap ((gen : Int) + 1) = (g1 : Int) := by rw [IntKind.wrap_u64, HG1.out, gN]; omega
  rw [← HK1.out, ← HG1.out]
  obtain ⟨xX, HXX⟩ : ∃ x, Hid (x = (runJ D (anewS hs k1 g1 l)).2) := ⟨_, rfl⟩
  have HC : Hid (∀ W, Below w.heap.size w W → Calls Tryz.prog 91 #[.pointer (some ⟨lg, 0, none⟩), .int .i64 (k1 : Int), .int .u64 (g1 : Int), v] W fun e w' => e = .returned (.int .i64 xX) ∧ ∃ P', DkIs w' gd P' (runJ D (anewS hs k1 g1 l)).1 ∧ (xX = 0 → Blk w' lg (lgC gd hs 0 k1 g1 v (1 + secL l)) 144) ∧ Mut (Un P (fun x => x = lg)) w w' ∧ Grew w P P') := fun W hW => by
    rw [HXX.out]
    refine (jBegin_any (w := W) hs k gen u k1 g1 vr v l (hK.below hW hK.lt) (hdk.same14 (fun x hx => hW.block x (hdk.lt14 x hx))) hwt (hlb.below hW hlb.lt) hnp (by rw [HK1.out]; omega) (by rw [HG1.out]; exact gN_lt gen) hs1 hs2 hfit (hst.below hW)).mono ?_
    rintro e w' ⟨h1, P', h2, h3, h4, h5⟩
    exact ⟨h1, P', h2, h3, (mut_below hW _).trans (fun _ _ h => h) h4, fun x hx => (h5 x hx).imp id (fun h => Nat.le_trans hW.size h)⟩
  rw [← HXX.out]
  obtain ⟨ad, n, c, hv⟩ : ∃ a n c, v = .slice a n c := by obtain ⟨a, c, hv, _⟩ := hst.now; exact ⟨_, _, _, hv⟩
  have HV : Hid (v = .slice ad n c) := hv
  have c4 : w.drew.cell? ⟨lg, 4, none⟩ = some (.int .i64 (k : Int)) := hlb.cell 4
  have c5 : w.drew.cell? ⟨lg, 5, none⟩ = some (.int .u64 (gen : Int)) := hlb.cell 5
  have HBD : Hid (Below w.heap.size w w.drew) := (Below.refl _ _).drew
  clear hK hdk hwt hlb hnp hk1 hs1 hs2 hfit hst hv
  go_enter Tryz.func92, Tryz.ntmps92
  go_upto_region 1 with fail
  refine wp_region_held_drew (S := fun _ => True) (by kernel_rfl) trivial ?_
  intro _
  refine wpAnyH_take (i := 0) (v := .pointer (some ⟨lg, 0, none⟩)) rfl (by kernel_rfl) (by kernel_rfl) (by kernel_rfl) (fun _ _ _ h => h) (Or.inl ⟨by rfl, fun wx hx => by simp [go_sem]⟩) trivial ?_
  simp only [Act.put, List.getElem_toArray, List.getElem_cons_zero, List.setIfInBounds_toArray, List.set_cons_zero, List.set_cons_succ]
  refine wpAnyH_take (i := 1) (v := .pointer (some ⟨lg, 0, none⟩)) rfl (by kernel_rfl) (by kernel_rfl) (by kernel_rfl) (fun _ _ _ h => h) (Or.inl ⟨by rfl, fun wx hx => by simp [go_sem]⟩) trivial ?_
  simp only [Act.put, List.getElem_toArray, List.getElem_cons_succ, List.getElem_cons_zero, List.setIfInBounds_toArray, List.set_cons_zero, List.set_cons_succ]
  refine wpAnyH_take (i := 2) (v := .pointer (some ⟨lg, 0, none⟩)) rfl (by kernel_rfl) (by kernel_rfl) (by kernel_rfl) (fun _ _ _ h => h) (Or.inl ⟨by rfl, fun wx hx => by simp [go_sem]⟩) trivial ?_
  simp only [Act.put, List.getElem_toArray, List.getElem_cons_succ, List.getElem_cons_zero, List.setIfInBounds_toArray, List.set_cons_zero, List.set_cons_succ]
  refine wpAnyH_take (i := 3) (v := .pointer (some ⟨lg, 4, none⟩)) rfl (by kernel_rfl) (by kernel_rfl) (by kernel_rfl) (fun _ _ _ h => h) (Or.inl ⟨by rfl, fun wx hx => by simp [go_sem]⟩) trivial ?_
  simp only [Act.put, List.getElem_toArray, List.getElem_cons_succ, List.getElem_cons_zero, List.setIfInBounds_toArray, List.set_cons_zero, List.set_cons_succ]
  refine wpAnyH_take (i := 4) (v := .pointer (some ⟨lg, 4, none⟩)) rfl (by kernel_rfl) (by kernel_rfl) (by kernel_rfl) (fun _ _ _ h => h) (Or.inl ⟨by rfl, fun wx hx => by simp [go_sem]⟩) trivial ?_
  simp only [Act.put, List.getElem_toArray, List.getElem_cons_succ, List.getElem_cons_zero, List.setIfInBounds_toArray, List.set_cons_zero, List.set_cons_succ]
  refine wpAnyH_take (i := 7) (v := .pointer (some ⟨lg, 0, none⟩)) rfl (by kernel_rfl) (by kernel_rfl) (by kernel_rfl) (fun _ _ _ h => h) (Or.inl ⟨by rfl, fun wx hx => by simp [go_sem]⟩) trivial ?_
  simp only [Act.put, List.getElem_toArray, List.getElem_cons_succ, List.getElem_cons_zero, List.setIfInBounds_toArray, List.set_cons_zero, List.set_cons_succ]
  refine wpAnyH_take (i := 8) (v := .pointer (some ⟨lg, 0, none⟩)) rfl (by kernel_rfl) (by kernel_rfl) (by kernel_rfl) (fun _ _ _ h => h) (Or.inl ⟨by rfl, fun wx hx => by simp [go_sem]⟩) trivial ?_
  simp only [Act.put, List.getElem_toArray, List.getElem_cons_succ, List.getElem_cons_zero, List.setIfInBounds_toArray, List.set_cons_zero, List.set_cons_succ]
  refine wpAnyH_take (i := 9) (v := .pointer (some ⟨lg, 4, none⟩)) rfl (by kernel_rfl) (by kernel_rfl) (by kernel_rfl) (fun _ _ _ h => h) (Or.inl ⟨by rfl, fun wx hx => by simp [go_sem]⟩) trivial ?_
  simp only [Act.put, List.getElem_toArray, List.getElem_cons_succ, List.getElem_cons_zero, List.setIfInBounds_toArray, List.set_cons_zero, List.set_cons_succ]
  refine wpAnyH_take (i := 10) (v := .pointer (some ⟨lg, 5, none⟩)) rfl (by kernel_rfl) (by kernel_rfl) (by kernel_rfl) (fun _ _ _ h => h) (Or.inl ⟨by rfl, fun wx hx => by simp [go_sem]⟩) trivial ?_
  simp only [Act.put, List.getElem_toArray, List.getElem_cons_succ, List.getElem_cons_zero, List.setIfInBounds_toArray, List.set_cons_zero, List.set_cons_succ]
  refine wpAnyH_take (i := 13) (v := v) rfl (by kernel_rfl) (by kernel_rfl) (by kernel_rfl) (fun _ _ _ h => h) (Or.inl ⟨by rfl, fun wx hx => by simp [go_sem]⟩) trivial ?_
  simp only [Act.put, List.getElem_toArray, List.getElem_cons_succ, List.getElem_cons_zero, List.setIfInBounds_toArray, List.set_cons_zero, List.set_cons_succ]
  refine wpAnyH_pair 5 11 (by kernel_rfl) ?_ ?_
  · refine wpOp_vl 5 (.int .i64 (k : Int)) w.drew (by rfl) (by rfl) (by simp [go_sem, c4]) ⟨trivial, ?_⟩
    simp only [Act.put, List.getElem_toArray, List.getElem_cons_succ, List.getElem_cons_zero, List.setIfInBounds_toArray, List.set_cons_zero, List.set_cons_succ]
    refine wpAnyH_take (i := 6) (v := .int .i64 (k1 : Int)) rfl (by kernel_rfl) (by kernel_rfl) (by kernel_rfl) (fun _ _ _ h => h) (Or.inl ⟨by rfl, fun wx hx => by simp [go_sem, f1]⟩) trivial ?_
    simp only [Act.put, List.getElem_toArray, List.getElem_cons_succ, List.getElem_cons_zero, List.setIfInBounds_toArray, List.set_cons_zero, List.set_cons_succ]
    refine wpAnyH_step 11 (.int .u64 (gen : Int)) w.drew (by kernel_rfl) rfl (by rfl) (by simp [go_sem, c5]) trivial ?_
    simp only [Act.put, List.getElem_toArray, List.getElem_cons_succ, List.getElem_cons_zero, List.setIfInBounds_toArray, List.set_cons_zero, List.set_cons_succ]
    refine wpAnyH_take (i := 12) (v := .int .u64 (g1 : Int)) rfl (by kernel_rfl) (by kernel_rfl) (by kernel_rfl) (fun _ _ _ h => h) (Or.inl ⟨by rfl, fun wx hx => by simp [go_sem, f2]⟩) trivial ?_
    simp only [Act.put, List.getElem_toArray, List.getElem_cons_succ, List.getElem_cons_zero, List.setIfInBounds_toArray, List.set_cons_zero, List.set_cons_succ]
    refine wpAnyH_enter 14 (by kernel_rfl) rfl (by rfl) (f := 91) (args := #[.pointer (some ⟨lg, 0, none⟩), .int .i64 (k1 : Int), .int .u64 (g1 : Int), v]) (by simp [go_sem]) (HC.out _ HBD.out) ?_
    rintro e0 y1 ⟨rfl, h1⟩
    refine ⟨_, rfl, trivial, ?_⟩
    simp only [Act.put, List.getElem_toArray, List.getElem_cons_succ, List.getElem_cons_zero, List.setIfInBounds_toArray, List.set_cons_zero, List.set_cons_succ]
    refine wpAnyH_take (i := 15) (v := .int .i64 xX) rfl (by kernel_rfl) (by kernel_rfl) (by kernel_rfl) (fun _ _ _ h => h) (Or.inl ⟨by rfl, fun wx hx => by simp [go_sem]⟩) trivial ?_
    simp only [Act.put, List.getElem_toArray, List.getElem_cons_succ, List.getElem_cons_zero, List.setIfInBounds_toArray, List.set_cons_zero, List.set_cons_succ]
    refine wpAnyH_done (by kernel_rfl) ?_ _
    go_wp2
    go_ret
    exact ⟨rfl, h1⟩
  · refine wpOp_vl 11 (.int .u64 (gen : Int)) w.drew (by rfl) (by rfl) (by simp [go_sem, c5]) ⟨trivial, ?_⟩
    simp only [Act.put, List.getElem_toArray, List.getElem_cons_succ, List.getElem_cons_zero, List.setIfInBounds_toArray, List.set_cons_zero, List.set_cons_succ]
    refine wpAnyH_take (i := 12) (v := .int .u64 (g1 : Int)) rfl (by kernel_rfl) (by kernel_rfl) (by kernel_rfl) (fun _ _ _ h => h) (Or.inl ⟨by rfl, fun wx hx => by simp [go_sem, f2]⟩) trivial ?_
    simp only [Act.put, List.getElem_toArray, List.getElem_cons_succ, List.getElem_cons_zero, List.setIfInBounds_toArray, List.set_cons_zero, List.set_cons_succ]
    refine wpAnyH_step 5 (.int .i64 (k : Int)) w.drew (by kernel_rfl) rfl (by rfl) (by simp [go_sem, c4]) trivial ?_
    simp only [Act.put, List.getElem_toArray, List.getElem_cons_succ, List.getElem_cons_zero, List.setIfInBounds_toArray, List.set_cons_zero, List.set_cons_succ]
    refine wpAnyH_take (i := 6) (v := .int .i64 (k1 : Int)) rfl (by kernel_rfl) (by kernel_rfl) (by kernel_rfl) (fun _ _ _ h => h) (Or.inl ⟨by rfl, fun wx hx => by simp [go_sem, f1]⟩) trivial ?_
    simp only [Act.put, List.getElem_toArray, List.getElem_cons_succ, List.getElem_cons_zero, List.setIfInBounds_toArray, List.set_cons_zero, List.set_cons_succ]
    refine wpAnyH_enter 14 (by kernel_rfl) rfl (by rfl) (f := 91) (args := #[.pointer (some ⟨lg, 0, none⟩), .int .i64 (k1 : Int), .int .u64 (g1 : Int), v]) (by simp [go_sem]) (HC.out _ HBD.out) ?_
    rintro e0 y1 ⟨rfl, h1⟩
    refine ⟨_, rfl, trivial, ?_⟩
    simp only [Act.put, List.getElem_toArray, List.getElem_cons_succ, List.getElem_cons_zero, List.setIfInBounds_toArray, List.set_cons_zero, List.set_cons_succ]
    refine wpAnyH_take (i := 15) (v := .int .i64 xX) rfl (by kernel_rfl) (by kernel_rfl) (by kernel_rfl) (fun _ _ _ h => h) (Or.inl ⟨by rfl, fun wx hx => by simp [go_sem]⟩) trivial ?_
    simp only [Act.put, List.getElem_toArray, List.getElem_cons_succ, List.getElem_cons_zero, List.setIfInBounds_toArray, List.set_cons_zero, List.set_cons_succ]
    refine wpAnyH_done (by kernel_rfl) ?_ _
    go_wp2
    go_ret
    exact ⟨rfl, h1⟩
/-- a log in memory: its cells, its records' row and texts -/
structure LgM (w : World) (lg gd n : Nat) (vr : Value) (us : List Value) (J : JnT) : Prop where
  lb : Blk w lg (lgC gd (n / 2) 0 J.k J.gen vr (1 + secL J.l)) 144
  tx : TxJ 0 vr us J.l w
def lgQ (lg : Nat) (vr : Value) (us : List Value) : Nat → Prop := fun k => k = lg ∨ vr.ownBlock = some k ∨ ∃ u ∈ us, u.ownBlock = some k
/-- the log J of the disk of n sectors at block gd lies at block lg, in blocks of Q alone -/
def LgJ (w : World) (lg : Nat) (Q : Nat → Prop) (gd n : Nat) (J : JnT) : Prop := ∃ vr us, LgM w lg gd n vr us J ∧ Q = lgQ lg vr us
theorem LgM.lt {w : World} {lg gd n : Nat} {vr : Value} {us : List Value} {J : JnT} (h : LgM w lg gd n vr us J) : ∀ k, lgQ lg vr us k → k < w.heap.size := fun k hk => by
  rcases hk with rfl | hk | ⟨u, hu, hk⟩
  · exact h.lb.lt
  · exact (h.tx.own.lt k hk).2
  · obtain ⟨i, hi, rfl⟩ := List.getElem_of_mem hu
    exact ((h.tx.good i _ (List.getElem?_eq_getElem hi)).ltJ k hk).2
theorem TxJ.sameQ {base : Nat} {v : Value} {us : List Value} {xs : List Bs} {w w' : World} (h : TxJ base v us xs w) (hs : w.heap.size ≤ w'.heap.size) (hv : ∀ k, v.ownBlock = some k → w'.heap[k]? = w.heap[k]?) (hu : ∀ u ∈ us, ∀ k, u.ownBlock = some k → w'.heap[k]? = w.heap[k]?) : TxJ base v us xs w' :=
  ⟨h.own.same hv, h.len, fun j u hj => (h.good j u hj).sameJ (hu u (List.mem_of_getElem? hj)), Nat.le_trans h.ge hs⟩
theorem LgM.same {w w' : World} {lg gd n : Nat} {vr : Value} {us : List Value} {J : JnT} (h : LgM w lg gd n vr us J) (hs : w.heap.size ≤ w'.heap.size) (hq : ∀ k, lgQ lg vr us k → w'.heap[k]? = w.heap[k]?) : LgM w' lg gd n vr us J :=
  ⟨blk_same h.lb (hq lg (Or.inl rfl)), h.tx.sameQ hs (fun k hk => hq k (Or.inr (Or.inl hk))) (fun u hu k hk => hq k (Or.inr (Or.inr ⟨u, hu, hk⟩)))⟩
theorem ownB_ne_lg {w : World} {base lg : Nat} {u : Value} {t : Bs} {cs : List Value} (h : OwnB w base u t) (hb : Blk w lg cs 144) : u.ownBlock ≠ some lg := fun e => by
  rcases h with ⟨_, ⟨rfl, _⟩ | ⟨g2, cap2, cur2, rfl, _, hh2, _⟩⟩
  · cases e
  have e2 : g2 = lg := by simpa [Value.ownBlock] using e
  unfold Blk at hb
  rw [← e2, hh2] at hb
  simp only [Option.some.injEq, Obj.cells.injEq] at hb
  exact absurd hb.2.1 (by decide)
theorem ownX_ne_lg {w : World} {base lg : Nat} {v : Value} {us : List Value} {cs : List Value} (h : OwnX w base v us) (hb : Blk w lg cs 144) : v.ownBlock ≠ some lg := fun e => by
  rcases h with ⟨_, ⟨rfl, _⟩ | ⟨g2, cap2, cur2, rfl, _, hh2, _⟩⟩
  · cases e
  have e2 : g2 = lg := by simpa [Value.ownBlock] using e
  unfold Blk at hb
  rw [← e2, hh2] at hb
  simp only [Option.some.injEq, Obj.cells.injEq] at hb
  exact absurd hb.2.1 (by decide)
theorem DkIs.typ {w : World} {g : Nat} {P : Nat → Prop} {D : DkT} (h : DkIs w g P D) : ∀ k, P k → ∃ cs t, w.heap[k]? = some (.cells cs t (0, 0)) ∧ t ≠ 23 ∧ t ≠ 5 ∧ t ≠ 144 := by
  obtain ⟨gs, vw, fu, lf, hm, rfl⟩ := h
  intro k hk
  rcases hk with rfl | rfl | hk
  · exact ⟨_, _, hm.me, by decide, by decide, by decide⟩
  · exact ⟨_, _, hm.sf, by decide, by decide, by decide⟩
  · rcases hm.wt with ⟨_, ⟨e, _⟩ | ⟨g2, cap2, cur2, e, _, hh2, _⟩⟩
    · rw [e] at hk; cases hk
    · rw [e] at hk
      have e2 : g2 = k := by simpa [Value.ownBlock] using hk
      rw [← e2]
      exact ⟨_, _, hh2, by decide, by decide, by decide⟩
/-- a disk and a log are apart by the types of their blocks -/
theorem pk_ap {w : World} {gd lg n : Nat} {P : Nat → Prop} {D : DkT} {vr : Value} {us : List Value} {J : JnT} (hd : DkIs w gd P D) (hm : LgM w lg gd n vr us J) : ∀ z, lgQ lg vr us z → ¬ P z := fun z hz hp => by
  obtain ⟨cs, t, h1, h2, h3, h4⟩ := hd.typ z hp
  rcases hz with rfl | hz | ⟨u, hu, hz⟩
  · have hb := hm.lb
    unfold Blk at hb
    rw [h1] at hb
    simp only [Option.some.injEq, Obj.cells.injEq] at hb
    exact h4 hb.2.1
  · rcases hm.tx.own with ⟨_, ⟨rfl, _⟩ | ⟨g2, cap2, cur2, rfl, _, hh2, _⟩⟩
    · cases hz
    have e2 : g2 = z := by simpa [Value.ownBlock] using hz
    rw [e2, h1] at hh2
    simp only [Option.some.injEq, Obj.cells.injEq] at hh2
    exact h2 hh2.2.1
  · obtain ⟨i, hi, rfl⟩ := List.getElem_of_mem hu
    rcases hm.tx.good i _ (List.getElem?_eq_getElem hi) with ⟨_, ⟨e, _⟩ | ⟨g2, cap2, cur2, e, _, hh2, _⟩⟩
    · rw [e] at hz; cases hz
    rw [e] at hz
    have e2 : g2 = z := by simpa [Value.ownBlock] using hz
    rw [e2, h1] at hh2
    simp only [Option.some.injEq, Obj.cells.injEq] at hh2
    exact h3 hh2.2.1
theorem run_err : ∀ (L : List (Option (Nat × Bs))) (D : DkT), okD D → (∀ p, some p ∈ L → p.1 < sizeD D ∧ p.2.length = 64) → (runJ D L).2 = 0 ∨ (runJ D L).2 = 14
  | [], _, _, _ => Or.inl rfl
  | some p :: L, D, hd, h => by
    have hp := h p (List.mem_cons_self ..)
    have hh : ¬ (hasD D (p.1 : Int) = false) := by rw [hasD_not]; exact fun e => e ⟨by omega, by omega⟩
    have e : putX13 D (p.1 : Int) p.2 = 0 ∨ putX13 D (p.1 : Int) p.2 = 14 := by
      unfold putX13
      by_cases h1 : D.down = true
      · rw [if_pos h1]; exact Or.inr rfl
      rw [if_neg h1, if_neg hh, if_neg (by rw [hp.2]; decide)]
      by_cases h2 : D.left = 0
      · rw [if_pos h2]; exact Or.inr rfl
      · rw [if_neg h2]; exact Or.inl rfl
    rw [runJ]
    by_cases h1 : putX13 D (p.1 : Int) p.2 = 0
    · rw [if_pos h1]
      exact run_err L _ (hd.put _ _) (fun q hq => by rw [show sizeD (putD13 D (p.1 : Int) p.2) = sizeD D by rw [sizeD, size_put]; rfl]; exact h q (List.mem_cons_of_mem _ hq))
    · rw [if_neg h1]; exact e
  | none :: L, D, hd, h => by
    have e : syncX13 D = 0 ∨ syncX13 D = 14 := by
      unfold syncX13
      split
      · exact Or.inr rfl
      split
      · exact Or.inr rfl
      · exact Or.inl rfl
    rw [runJ]
    by_cases h1 : syncX13 D = 0
    · rw [if_pos h1]
      exact run_err L _ hd.sync (fun q hq => by rw [size_sync hd]; exact h q (List.mem_cons_of_mem _ hq))
    · rw [if_neg h1]; exact e
theorem room_iff {hs u n : Nat} (h0 : 0 < n) (h1 : n ≤ 1048576) (hu : u ≤ hs) (hh : hs < 10000) : min 1048576 (64 * (hs - u) - 57) < n ↔ hs < u + secR n := by
  unfold secR
  omega
theorem Sta.weak {P Q : Nat → Prop} {w : World} {X : World → Prop} (h : Sta P w X) (hq : ∀ k, k < w.heap.size → Q k → P k) : Sta Q w X := fun w' m => h w' ⟨m.os, m.tape, m.output, m.size, fun k hk hn => m.block k hk (fun h2 => hn (hq k hk h2))⟩
theorem lg_set {w : World} {lg gd hs k gen u : Nat} {fl : Int} {vr : Value} (v : Value) (h : Blk w lg (lgC gd hs fl k gen vr u) 144) : Blk (w.setCell ⟨lg, 6, none⟩ v) lg (lgC gd hs fl k gen v u) 144 := h.set 6 v
theorem lg_setU {w : World} {lg gd hs k gen u : Nat} {fl : Int} {vr : Value} (u' : Nat) (h : Blk w lg (lgC gd hs fl k gen vr u) 144) : Blk (w.setCell ⟨lg, 7, none⟩ (.int .i64 (u' : Int))) lg (lgC gd hs fl k gen vr u') 144 := h.set 7 _
set_option maxRecDepth 100000 in
set_option maxHeartbeats 8000000 in
theorem jAppend_any {w : World} {gd lg : Nat} {P Q : Nat → Prop} {D : DkT} {J : JnT} (v : Value) (x : Bs) (hK : KOk w) (hp : Pk LgJ w gd lg P Q D J) (hok : okJ D J) (hxl : x.length ≤ 100000) (hst : Sta (Un P Q) w (fun W => Reads W v x)) :
    Calls Tryz.prog 79 #[.pointer (some ⟨lg, 0, none⟩), v] w fun e w' => e = .returned (.int .i64 (appX J D x)) ∧ ∃ P' Q', DkIs w' gd P' (appD J D x) ∧ Mut (Un P Q) w w' ∧ Grew w (Un P Q) (Un P' Q') ∧ (appX J D x ≠ 14 → Pk LgJ w' gd lg P' Q' (appD J D x) (appJ J D x)) := by
  obtain ⟨vr, us, hm, hQ⟩ := id hp.lg
  obtain ⟨nx, HNX⟩ : ∃ m, Hid (m = x.length) := ⟨_, rfl⟩
  obtain ⟨ax, cx, hv⟩ : ∃ a c, v = .slice a nx c := by obtain ⟨a, c, hv, _⟩ := hst.now; rw [← HNX.out] at hv; exact ⟨a, c, hv⟩
  subst hv
  obtain ⟨hs, HHS⟩ : ∃ m, Hid (m = sizeD D / 2) := ⟨_, rfl⟩
  obtain ⟨u, HU⟩ : ∃ m, Hid (m = 1 + secL J.l) := ⟨_, rfl⟩
  obtain ⟨k, HKK⟩ : ∃ m, Hid (m = J.k) := ⟨_, rfl⟩
  obtain ⟨gen, HGN⟩ : ∃ m, Hid (m = J.gen) := ⟨_, rfl⟩
  obtain ⟨kn, HKN⟩ : ∃ m, Hid (m = J.l.length) := ⟨_, rfl⟩
  obtain ⟨xa, xc, hvr⟩ := hm.tx.form
  rw [← HKN.out] at hvr
  subst hvr
  have hlb := hm.lb
  rw [← HHS.out, ← HU.out, ← HKK.out, ← HGN.out] at hlb
  have HLB : Hid (Blk w lg (lgC gd hs 0 k gen (.slice xa kn xc) u) 144) := hlb
  have HTX : Hid (TxJ 0 (.slice xa kn xc) us J.l w) := hm.tx
  have HDK : Hid (DkIs w gd P D) := hp.dk
  have HQQ : Hid (Q = lgQ lg (.slice xa kn xc) us) := hQ
  have HAP : Hid (∀ k, Q k → ¬ P k) := hp.ap
  have HK : Hid (KOk w) := hK
  have HRD : Hid (Sta (Un P Q) w (fun W => Reads W (.slice ax nx cx) x)) := hst
  have HPP : Hid (Pk LgJ w gd lg P Q D J) := hp
  have hfit := hok.fit
  have hsl := sizeL_ge J.l
  rw [sizeL_eq] at hsl
  have hhd : hsD D = hs := HHS.out.symm
  rw [hhd, ← HU.out] at hfit
  have HBD : Hid (u ≤ hs ∧ hs ≤ 50 ∧ k ≤ 1 ∧ gen < 18446744073709551616 ∧ kn < 1000 ∧ nx ≤ 100000 ∧ 4 ≤ hs ∧ D.wait = [] ∧ sizeD D ≤ 100) := ⟨hfit, by have h1 := HHS.out; have h2 := hok.hi; omega, by rw [HKK.out]; exact hok.k1, by have h1 := hok.g2; rw [HGN.out]; omega, by have h1 := HKN.out; have h2 := HU.out; have h3 := hok.hi; have h4 := HHS.out; omega, by rw [HNX.out]; exact hxl, by have h1 := HHS.out; have h2 := hok.lo; omega, hok.wt, hok.hi⟩
  have HCK : Hid (∀ W, Below w.heap.size w W → Calls Tryz.prog 100 #[.slice ax nx cx] W fun e w' => e = .returned (.int .i64 (chkX x)) ∧ w' = W) := fun W hW => jCheck_any _ x W (hst.now.below hW)
  have HEE : Hid (appE J D x = if chkX x = 1 then 1 else if hs < u + secR nx then 13 else 0) := by show _ = _; rw [appE, hhd, HU.out, HNX.out]
  clear hK hok hxl hst hm hQ hlb hfit hhd hp hsl
  obtain ⟨cc, HCC⟩ : ∃ z, Hid (z = chkX x) := ⟨_, rfl⟩
  rw [← HCC.out] at HCK HEE
  have HCO : Hid (cc = 0 ∨ cc = 1) := by rw [HCC.out]; exact chk_or x
  by_cases hc1 : cc = 1
  case pos =>
    subst hc1
    have hE : appE J D x = 1 := by rw [HEE.out, if_pos rfl]
    have hX : appX J D x = 1 := by rw [appX, if_neg (by rw [hE]; decide), hE]
    have hD : appD J D x = D := by rw [appD, if_neg (by rw [hE]; decide)]
    have hJ : appJ J D x = J := by rw [appJ, if_neg (by rw [hE]; decide)]
    rw [hX, hD, hJ]
    clear hE hX hD hJ
    go_enter Tryz.func79, Tryz.ntmps79
    have tk0 : Hid True := trivial
    go_wp2_with (first
      | (clear tk0; go_at_call 100; refine (HCK.out _ (Below.refl _ _)).mono ?_; rintro e0 y1 ⟨rfl, hy1⟩; subst hy1))
    go_ret
    refine ⟨rfl, P, Q, HPP.out.dk, Mut.refl _ _, Grew.refl _ _, ?_⟩
    first | exact fun _ => HPP.out | exact HPP.out
  obtain rfl : cc = 0 := HCO.out.elim id (fun h => absurd h hc1)
  have HNN : Hid (0 < nx ∧ nx ≤ 1048576) := by
    have h := HCC.out.symm
    unfold chkX at h
    by_cases h3 : x.length = 0 ∨ 1048576 < x.length
    · rw [if_pos h3] at h; cases h
    · rw [← HNX.out] at h3
      exact ⟨by omega, by omega⟩
  obtain ⟨rm, HRM⟩ : ∃ m, Hid (m = min 1048576 (64 * (hs - u) - 57)) := ⟨_, rfl⟩
  have HRO : Hid (∀ W, Blk W lg (lgC gd hs 0 k gen (.slice xa kn xc) u) 144 → Calls Tryz.prog 78 #[.pointer (some ⟨lg, 0, none⟩)] W fun e w' => e = .returned (.int .i64 (rm : Int)) ∧ Below W.heap.size W w') := fun W hW => by
    rw [HRM.out]
    exact jRoom_any hW HBD.out.1 (by have := HBD.out; omega)
  have HRI : Hid (rm < nx ↔ hs < u + secR nx) := by rw [HRM.out]; exact room_iff HNN.out.1 HNN.out.2 HBD.out.1 (by have := HBD.out; omega)
  by_cases hno : hs < u + secR nx
  case pos =>
    have hE : appE J D x = 13 := by rw [HEE.out, if_neg (by decide), if_pos hno]
    have hX : appX J D x = 13 := by rw [appX, if_neg (by rw [hE]; decide), hE]
    have hD : appD J D x = D := by rw [appD, if_neg (by rw [hE]; decide)]
    have hJ : appJ J D x = J := by rw [appJ, if_neg (by rw [hE]; decide)]
    rw [hX, hD, hJ]
    have q1 : (rm : Int) < (nx : Int) := by have := HRI.out.2 hno; omega
    clear hE hX hD hJ hno hc1
    go_enter Tryz.func79, Tryz.ntmps79
    have tk0 : Hid True := trivial
    have tk1 : Hid True := trivial
    go_wp2_with (first
      | (clear tk0; go_at_call 100; refine (HCK.out _ (Below.refl _ _)).mono ?_; rintro e0 y1 ⟨rfl, hy1⟩; subst hy1)
      | (clear tk1; go_at_call 78; refine (HRO.out _ HLB.out).mono ?_; rintro e0 y2 ⟨rfl, hz⟩
         have HBW : Hid (Below y1.heap.size y1 y2) := hz
         clear hz))
    go_ret
    have hpk : Pk LgJ y2 gd lg P Q D J := ⟨HPP.out.dk.same14 (fun x hx => HBW.out.block x (HPP.out.dk.lt14 x hx)), by
      obtain ⟨vr, us, hm, hQ⟩ := HPP.out.lg
      exact ⟨vr, us, hm.same HBW.out.size (fun x hx => HBW.out.block x (hm.lt x hx)), hQ⟩, HPP.out.ap⟩
    refine ⟨rfl, P, Q, hpk.dk, mut_below HBW.out _, Grew.refl _ _, ?_⟩
    first | exact fun _ => hpk | exact hpk
  case neg =>
    have hE : appE J D x = 0 := by rw [HEE.out, if_neg (by decide), if_neg hno]
    have q1 : ¬ ((rm : Int) < (nx : Int)) := by have := (not_congr HRI.out).2 hno; omega
    obtain ⟨sx, HSX⟩ : ∃ m, Hid (m = secR nx) := ⟨_, rfl⟩
    obtain ⟨at_, HAT⟩ : ∃ m, Hid (m = k * hs + u) := ⟨_, rfl⟩
    obtain ⟨kh, HKH⟩ : ∃ m, Hid (m = k * hs) := ⟨_, rfl⟩
    obtain ⟨rb, HRB⟩ : ∃ r, Hid (r = recB gen kn x) := ⟨_, rfl⟩
    obtain ⟨rl, HRL⟩ : ∃ m, Hid (m = rb.length) := ⟨_, rfl⟩
    have HRL2 : Hid (rl = 64 * sx) := by show _ = _; rw [HRL.out, HRB.out, len_recB, HSX.out, HNX.out]
    have hkh : kh ≤ hs := by rw [HKH.out]; rcases Nat.le_one_iff_eq_zero_or_eq_one.1 HBD.out.2.2.1 with e | e <;> rw [e] <;> omega
    have HSB : Hid (u + sx ≤ hs ∧ at_ ≤ 100 ∧ at_ = kh + u ∧ kh ≤ 50) := ⟨by rw [HSX.out]; omega, by have h1 := HBD.out; have h2 := HAT.out; have h3 := HKH.out; omega, by rw [HAT.out, HKH.out], by have := HBD.out; omega⟩
    have HSG : Hid (appS (hsD D) J.k J.gen J.l x = (secsOf at_ sx rb).map some ++ [none]) := by
      show _ = _
      rw [appS, show hsD D = hs from HHS.out.symm, ← HKK.out, ← HGN.out, ← HKN.out, ← HU.out, ← HAT.out, ← HNX.out, ← HSX.out, ← HRB.out]
    obtain ⟨DX, xX, HX⟩ : ∃ D2 z, Hid (runJ D ((secsOf at_ sx rb).map some ++ [none]) = (D2, z)) := ⟨(runJ D ((secsOf at_ sx rb).map some ++ [none])).1, (runJ D ((secsOf at_ sx rb).map some ++ [none])).2, rfl⟩
    have hX : appX J D x = xX := by rw [appX, if_pos hE, HSG.out, HX.out]
    have hD : appD J D x = DX := by rw [appD, if_pos hE, HSG.out, HX.out]
    have hJ : appJ J D x = ⟨J.k, J.gen, J.l ++ [x]⟩ := by rw [appJ, if_pos hE]
    have HOKD : Hid (okD D) := by obtain ⟨_, _, _, _, hm, _⟩ := HDK.out; exact hm.ok
    have HER : Hid ((xX = 0 ∨ xX = 14) ∧ sizeD DX = sizeD D) := by
      have h1 := run_err ((secsOf at_ sx rb).map some ++ [none]) D HOKD.out (fun p hp => by
        rw [List.mem_append] at hp
        rcases hp with hp | hp
        · rw [List.mem_map] at hp
          obtain ⟨q, hq, e⟩ := hp
          cases e
          exact secs_mem (n := sizeD D) sx at_ rb (by rw [← HRL.out, HRL2.out]) (by have h2 := HSB.out; have h3 := HHS.out; have h4 := HKH.out; have h5 := hkh; omega) p hq
        · simp at hp)
      have h2 := (run_size ((secsOf at_ sx rb).map some ++ [none]) D HOKD.out).1
      rw [HX.out] at h1 h2
      exact ⟨h1, h2⟩
    rw [hX, hD, hJ]
    have f1 : IntKind.u64.wrap (kn : Int) = (kn : Int) := uJ (by have := HBD.out; omega)
    have f2 : IntKind.i64.wrap ((k : Int) * (hs : Int)) = (kh : Int) := mJ HKH.out (by have := HBD.out; omega)
    have f3 : IntKind.i64.wrap ((kh : Int) + (u : Int)) = (at_ : Int) := aJ HSB.out.2.2.1 (by have := HSB.out; omega)
    obtain ⟨u2, HU2⟩ : ∃ m, Hid (m = u + sx) := ⟨_, rfl⟩
    have f4 : IntKind.i64.wrap ((u : Int) + (sx : Int)) = (u2 : Int) := aJ HU2.out (by have h1 := HU2.out; have h2 := HSB.out; have h3 := HBD.out; omega)
    have HLT : Hid (∀ k, Un P Q k → k < w.heap.size) := fun k hk => hk.elim (HDK.out.lt14 k) (fun h => by
      obtain ⟨vr, us, hm, hQ⟩ := HPP.out.lg
      rw [hQ] at h
      exact hm.lt k h)
    have HQL : Hid (Q lg) := by rw [HQQ.out]; exact Or.inl rfl
    have HUN : Hid (∀ k, Un P (fun z => z = lg) k → Un P Q k) := fun k hk => hk.elim Or.inl (fun e => Or.inr (by rw [e]; exact HQL.out))
    have HNP : Hid (¬ P lg) := HAP.out lg HQL.out
    clear hE hX hD hJ hno hc1 hkh HEE HRI
    go_enter Tryz.func79, Tryz.ntmps79
    have tk0 : Hid True := trivial
    have tk1 : Hid True := trivial
    go_upto_region 6 with (first
      | (clear tk0; go_at_call 100; refine (HCK.out _ (Below.refl _ _)).mono ?_; rintro e0 y1 ⟨rfl, hy1⟩; subst hy1)
      | (clear tk1; go_at_call 78; refine (HRO.out _ HLB.out).mono ?_; rintro e0 y2 ⟨rfl, hz⟩
         have HBW : Hid (Below y1.heap.size y1 y2) := hz
         clear hz))
    have HD2 : Hid (Below y1.heap.size y1 y2.drew) := HBW.out.drew
    have HL2 : Hid (Blk y2.drew lg (lgC gd hs 0 k gen (.slice xa kn xc) u) 144) := HLB.out.below HD2.out HLB.out.lt
    refine wp_region_held_drew (S := fun wx => Blk wx lg (lgC gd hs 0 k gen (.slice xa kn xc) u) 144) (by kernel_rfl) HL2.out ?_
    intro hS
    refine wpAnyH_take (i := 0) (v := .pointer (some ⟨lg, 0, none⟩)) rfl (by kernel_rfl) (by kernel_rfl) (by kernel_rfl) (fun _ _ _ h => h) (Or.inl ⟨by rfl, fun wx hx => by simp [go_sem]⟩) hS ?_
    simp only [Act.put, List.getElem_toArray, List.getElem_cons_zero, List.setIfInBounds_toArray, List.set_cons_zero, List.set_cons_succ]
    refine wpAnyH_take (i := 1) (v := .pointer (some ⟨lg, 0, none⟩)) rfl (by kernel_rfl) (by kernel_rfl) (by kernel_rfl) (fun _ _ _ h => h) (Or.inl ⟨by rfl, fun wx hx => by simp [go_sem]⟩) hS ?_
    simp only [Act.put, List.getElem_toArray, List.getElem_cons_succ, List.getElem_cons_zero, List.setIfInBounds_toArray, List.set_cons_zero, List.set_cons_succ]
    refine wpAnyH_take (i := 2) (v := .pointer (some ⟨lg, 4, none⟩)) rfl (by kernel_rfl) (by kernel_rfl) (by kernel_rfl) (fun _ _ _ h => h) (Or.inl ⟨by rfl, fun wx hx => by simp [go_sem]⟩) hS ?_
    simp only [Act.put, List.getElem_toArray, List.getElem_cons_succ, List.getElem_cons_zero, List.setIfInBounds_toArray, List.set_cons_zero, List.set_cons_succ]
    refine wpAnyH_take (i := 3) (v := .pointer (some ⟨lg, 5, none⟩)) rfl (by kernel_rfl) (by kernel_rfl) (by kernel_rfl) (fun _ _ _ h => h) (Or.inl ⟨by rfl, fun wx hx => by simp [go_sem]⟩) hS ?_
    simp only [Act.put, List.getElem_toArray, List.getElem_cons_succ, List.getElem_cons_zero, List.setIfInBounds_toArray, List.set_cons_zero, List.set_cons_succ]
    refine wpAnyH_take (i := 4) (v := .int .u64 (gen : Int)) rfl (by kernel_rfl) (by kernel_rfl) (by kernel_rfl) (fun _ _ _ h => h) (Or.inl ⟨by rfl, fun wx hx => by (have c0 : wx.cell? ⟨lg, 5, none⟩ = some (.int .u64 (gen : Int)) := hx.cell 5; simp [go_sem, c0])⟩) hS ?_
    simp only [Act.put, List.getElem_toArray, List.getElem_cons_succ, List.getElem_cons_zero, List.setIfInBounds_toArray, List.set_cons_zero, List.set_cons_succ]
    refine wpAnyH_take (i := 5) (v := .pointer (some ⟨lg, 0, none⟩)) rfl (by kernel_rfl) (by kernel_rfl) (by kernel_rfl) (fun _ _ _ h => h) (Or.inl ⟨by rfl, fun wx hx => by simp [go_sem]⟩) hS ?_
    simp only [Act.put, List.getElem_toArray, List.getElem_cons_succ, List.getElem_cons_zero, List.setIfInBounds_toArray, List.set_cons_zero, List.set_cons_succ]
    refine wpAnyH_take (i := 6) (v := .pointer (some ⟨lg, 0, none⟩)) rfl (by kernel_rfl) (by kernel_rfl) (by kernel_rfl) (fun _ _ _ h => h) (Or.inl ⟨by rfl, fun wx hx => by simp [go_sem]⟩) hS ?_
    simp only [Act.put, List.getElem_toArray, List.getElem_cons_succ, List.getElem_cons_zero, List.setIfInBounds_toArray, List.set_cons_zero, List.set_cons_succ]
    refine wpAnyH_take (i := 7) (v := .pointer (some ⟨lg, 4, none⟩)) rfl (by kernel_rfl) (by kernel_rfl) (by kernel_rfl) (fun _ _ _ h => h) (Or.inl ⟨by rfl, fun wx hx => by simp [go_sem]⟩) hS ?_
    simp only [Act.put, List.getElem_toArray, List.getElem_cons_succ, List.getElem_cons_zero, List.setIfInBounds_toArray, List.set_cons_zero, List.set_cons_succ]
    refine wpAnyH_take (i := 8) (v := .pointer (some ⟨lg, 6, none⟩)) rfl (by kernel_rfl) (by kernel_rfl) (by kernel_rfl) (fun _ _ _ h => h) (Or.inl ⟨by rfl, fun wx hx => by simp [go_sem]⟩) hS ?_
    simp only [Act.put, List.getElem_toArray, List.getElem_cons_succ, List.getElem_cons_zero, List.setIfInBounds_toArray, List.set_cons_zero, List.set_cons_succ]
    refine wpAnyH_take (i := 9) (v := .slice xa kn xc) rfl (by kernel_rfl) (by kernel_rfl) (by kernel_rfl) (fun _ _ _ h => h) (Or.inl ⟨by rfl, fun wx hx => by (have c0 : wx.cell? ⟨lg, 6, none⟩ = some (.slice xa kn xc) := hx.cell 6; simp [go_sem, c0])⟩) hS ?_
    simp only [Act.put, List.getElem_toArray, List.getElem_cons_succ, List.getElem_cons_zero, List.setIfInBounds_toArray, List.set_cons_zero, List.set_cons_succ]
    refine wpAnyH_take (i := 10) (v := .int .i64 (kn : Int)) rfl (by kernel_rfl) (by kernel_rfl) (by kernel_rfl) (fun _ _ _ h => h) (Or.inl ⟨by rfl, fun wx hx => by simp [go_sem]⟩) hS ?_
    simp only [Act.put, List.getElem_toArray, List.getElem_cons_succ, List.getElem_cons_zero, List.setIfInBounds_toArray, List.set_cons_zero, List.set_cons_succ]
    refine wpAnyH_take (i := 11) (v := .int .u64 (kn : Int)) rfl (by kernel_rfl) (by kernel_rfl) (by kernel_rfl) (fun _ _ _ h => h) (Or.inl ⟨by rfl, fun wx hx => by simp [go_sem, f1]⟩) hS ?_
    simp only [Act.put, List.getElem_toArray, List.getElem_cons_succ, List.getElem_cons_zero, List.setIfInBounds_toArray, List.set_cons_zero, List.set_cons_succ]
    refine wpAnyH_take (i := 12) (v := .slice ax nx cx) rfl (by kernel_rfl) (by kernel_rfl) (by kernel_rfl) (fun _ _ _ h => h) (Or.inl ⟨by rfl, fun wx hx => by simp [go_sem]⟩) hS ?_
    simp only [Act.put, List.getElem_toArray, List.getElem_cons_succ, List.getElem_cons_zero, List.setIfInBounds_toArray, List.set_cons_zero, List.set_cons_succ]
    refine wpAnyH_enter 13 (by kernel_rfl) rfl (by rfl) (f := 101) (args := #[.int .u64 (gen : Int), .int .u64 (kn : Int), .slice ax nx cx]) (by simp [go_sem]) (jRecord_own gen kn HBD.out.2.2.2.1 (by have := HBD.out; omega) _ x (by rw [← HNX.out]; have := HBD.out; omega) _ (HK.out.below HD2.out HK.out.lt) (HRD.out.now.below HD2.out)) ?_
    rintro e0 y3 ⟨v3, rfl, ho3, hz3⟩
    rw [← HRB.out] at ho3
    obtain ⟨a3, c3, hv3⟩ := ownB_form ho3
    rw [← HRL.out] at hv3
    subst hv3
    replace hS : Blk y3 lg (lgC gd hs 0 k gen (.slice xa kn xc) u) 144 := HL2.out.below hz3 HL2.out.lt
    refine ⟨_, rfl, hS, ?_⟩
    simp only [Act.put, List.getElem_toArray, List.getElem_cons_succ, List.getElem_cons_zero, List.setIfInBounds_toArray, List.set_cons_zero, List.set_cons_succ]
    refine wpAnyH_take (i := 14) (v := .slice a3 rl c3) rfl (by kernel_rfl) (by kernel_rfl) (by kernel_rfl) (fun _ _ _ h => h) (Or.inl ⟨by rfl, fun wx hx => by simp [go_sem]⟩) hS ?_
    simp only [Act.put, List.getElem_toArray, List.getElem_cons_succ, List.getElem_cons_zero, List.setIfInBounds_toArray, List.set_cons_zero, List.set_cons_succ]
    refine wpAnyH_done (by kernel_rfl) ?_ _
    have HB3 : Hid (Below y1.heap.size y1 y3) := HD2.out.trans (hz3.mono HD2.out.size)
    have HO3 : Hid (Sta (Un P Q) y3 (fun W => Reads W (.slice a3 rl c3) rb)) := (ho3.st (P := Un P Q) (fun z hz => Nat.lt_of_lt_of_le (HLT.out z hz) HD2.out.size))
    clear hS ho3 hz3 HL2 HD2 HBW
    go_upto_region 7 with fail
    have HD4 : Hid (Below y1.heap.size y1 y3.drew) := HB3.out.drew
    have HL4 : Hid (Blk y3.drew lg (lgC gd hs 0 k gen (.slice xa kn xc) u) 144) := HLB.out.below HD4.out HLB.out.lt
    have HPC : Hid (Calls Tryz.prog 102 #[.pointer (some ⟨lg, 0, none⟩), .int .i64 (at_ : Int), .slice a3 rl c3] y3.drew fun e w' => e = .returned (.int .i64 xX) ∧ ∃ P', DkIs w' gd P' DX ∧ Blk w' lg (lgC gd hs xX k gen (.slice xa kn xc) u) 144 ∧ Mut (Un P (fun z => z = lg)) y3.drew w' ∧ Grew y3.drew P P') := by
      have h1 := jPut_any (w := y3.drew) (gd := gd) (lg := lg) (P := P) (D := D) hs k gen u at_ sx (.slice xa kn xc) (.slice a3 rl c3) rb (HDK.out.same14 (fun z hz => HD4.out.block z (HDK.out.lt14 z hz))) HL4.out HNP.out (by rw [← HRL.out, HRL2.out]) (by have h2 := HSB.out; have h3 := HBD.out; omega) HSB.out.2.1 (by rw [HBD.out.2.2.2.2.2.2.2.1]; show 0 + sx ≤ 200; have h2 := HSB.out; have h3 := HBD.out; omega) ((HO3.out.below ((Below.refl _ _).drew)).weak (fun z _ h => HUN.out z h))
      rw [HX.out] at h1
      exact h1
    refine wp_region_held_drew (S := fun wx => wx.cell? ⟨lg, 4, none⟩ = some (.int .i64 (k : Int)) ∧ wx.cell? ⟨lg, 2, none⟩ = some (.int .i64 (hs : Int)) ∧ wx.cell? ⟨lg, 7, none⟩ = some (.int .i64 (u : Int))) (by kernel_rfl) ⟨HL4.out.cell 4, HL4.out.cell 2, HL4.out.cell 7⟩ ?_
    intro hS
    refine wpAnyH_take (i := 0) (v := .pointer (some ⟨lg, 0, none⟩)) rfl (by kernel_rfl) (by kernel_rfl) (by kernel_rfl) (fun _ _ _ h => h) (Or.inl ⟨by rfl, fun wx hx => by simp [go_sem]⟩) hS ?_
    simp only [Act.put, List.getElem_toArray, List.getElem_cons_zero, List.setIfInBounds_toArray, List.set_cons_zero, List.set_cons_succ]
    refine wpAnyH_take (i := 1) (v := .pointer (some ⟨lg, 0, none⟩)) rfl (by kernel_rfl) (by kernel_rfl) (by kernel_rfl) (fun _ _ _ h => h) (Or.inl ⟨by rfl, fun wx hx => by simp [go_sem]⟩) hS ?_
    simp only [Act.put, List.getElem_toArray, List.getElem_cons_succ, List.getElem_cons_zero, List.setIfInBounds_toArray, List.set_cons_zero, List.set_cons_succ]
    refine wpAnyH_take (i := 2) (v := .pointer (some ⟨lg, 0, none⟩)) rfl (by kernel_rfl) (by kernel_rfl) (by kernel_rfl) (fun _ _ _ h => h) (Or.inl ⟨by rfl, fun wx hx => by simp [go_sem]⟩) hS ?_
    simp only [Act.put, List.getElem_toArray, List.getElem_cons_succ, List.getElem_cons_zero, List.setIfInBounds_toArray, List.set_cons_zero, List.set_cons_succ]
    refine wpAnyH_take (i := 3) (v := .pointer (some ⟨lg, 4, none⟩)) rfl (by kernel_rfl) (by kernel_rfl) (by kernel_rfl) (fun _ _ _ h => h) (Or.inl ⟨by rfl, fun wx hx => by simp [go_sem]⟩) hS ?_
    simp only [Act.put, List.getElem_toArray, List.getElem_cons_succ, List.getElem_cons_zero, List.setIfInBounds_toArray, List.set_cons_zero, List.set_cons_succ]
    refine wpAnyH_take (i := 4) (v := .pointer (some ⟨lg, 4, none⟩)) rfl (by kernel_rfl) (by kernel_rfl) (by kernel_rfl) (fun _ _ _ h => h) (Or.inl ⟨by rfl, fun wx hx => by simp [go_sem]⟩) hS ?_
    simp only [Act.put, List.getElem_toArray, List.getElem_cons_succ, List.getElem_cons_zero, List.setIfInBounds_toArray, List.set_cons_zero, List.set_cons_succ]
    refine wpAnyH_take (i := 5) (v := .int .i64 (k : Int)) rfl (by kernel_rfl) (by kernel_rfl) (by kernel_rfl) (fun _ _ _ h => h) (Or.inl ⟨by rfl, fun wx hx => by simp [go_sem, hx.1]⟩) hS ?_
    simp only [Act.put, List.getElem_toArray, List.getElem_cons_succ, List.getElem_cons_zero, List.setIfInBounds_toArray, List.set_cons_zero, List.set_cons_succ]
    refine wpAnyH_take (i := 6) (v := .pointer (some ⟨lg, 0, none⟩)) rfl (by kernel_rfl) (by kernel_rfl) (by kernel_rfl) (fun _ _ _ h => h) (Or.inl ⟨by rfl, fun wx hx => by simp [go_sem]⟩) hS ?_
    simp only [Act.put, List.getElem_toArray, List.getElem_cons_succ, List.getElem_cons_zero, List.setIfInBounds_toArray, List.set_cons_zero, List.set_cons_succ]
    refine wpAnyH_take (i := 7) (v := .pointer (some ⟨lg, 0, none⟩)) rfl (by kernel_rfl) (by kernel_rfl) (by kernel_rfl) (fun _ _ _ h => h) (Or.inl ⟨by rfl, fun wx hx => by simp [go_sem]⟩) hS ?_
    simp only [Act.put, List.getElem_toArray, List.getElem_cons_succ, List.getElem_cons_zero, List.setIfInBounds_toArray, List.set_cons_zero, List.set_cons_succ]
    refine wpAnyH_take (i := 8) (v := .pointer (some ⟨lg, 2, none⟩)) rfl (by kernel_rfl) (by kernel_rfl) (by kernel_rfl) (fun _ _ _ h => h) (Or.inl ⟨by rfl, fun wx hx => by simp [go_sem]⟩) hS ?_
    simp only [Act.put, List.getElem_toArray, List.getElem_cons_succ, List.getElem_cons_zero, List.setIfInBounds_toArray, List.set_cons_zero, List.set_cons_succ]
    refine wpAnyH_take (i := 9) (v := .int .i64 (hs : Int)) rfl (by kernel_rfl) (by kernel_rfl) (by kernel_rfl) (fun _ _ _ h => h) (Or.inl ⟨by rfl, fun wx hx => by simp [go_sem, hx.2.1]⟩) hS ?_
    simp only [Act.put, List.getElem_toArray, List.getElem_cons_succ, List.getElem_cons_zero, List.setIfInBounds_toArray, List.set_cons_zero, List.set_cons_succ]
    refine wpAnyH_take (i := 10) (v := .int .i64 (kh : Int)) rfl (by kernel_rfl) (by kernel_rfl) (by kernel_rfl) (fun _ _ _ h => h) (Or.inl ⟨by rfl, fun wx hx => by simp [go_sem, f2]⟩) hS ?_
    simp only [Act.put, List.getElem_toArray, List.getElem_cons_succ, List.getElem_cons_zero, List.setIfInBounds_toArray, List.set_cons_zero, List.set_cons_succ]
    refine wpAnyH_take (i := 11) (v := .pointer (some ⟨lg, 0, none⟩)) rfl (by kernel_rfl) (by kernel_rfl) (by kernel_rfl) (fun _ _ _ h => h) (Or.inl ⟨by rfl, fun wx hx => by simp [go_sem]⟩) hS ?_
    simp only [Act.put, List.getElem_toArray, List.getElem_cons_succ, List.getElem_cons_zero, List.setIfInBounds_toArray, List.set_cons_zero, List.set_cons_succ]
    refine wpAnyH_take (i := 12) (v := .pointer (some ⟨lg, 0, none⟩)) rfl (by kernel_rfl) (by kernel_rfl) (by kernel_rfl) (fun _ _ _ h => h) (Or.inl ⟨by rfl, fun wx hx => by simp [go_sem]⟩) hS ?_
    simp only [Act.put, List.getElem_toArray, List.getElem_cons_succ, List.getElem_cons_zero, List.setIfInBounds_toArray, List.set_cons_zero, List.set_cons_succ]
    refine wpAnyH_take (i := 13) (v := .pointer (some ⟨lg, 4, none⟩)) rfl (by kernel_rfl) (by kernel_rfl) (by kernel_rfl) (fun _ _ _ h => h) (Or.inl ⟨by rfl, fun wx hx => by simp [go_sem]⟩) hS ?_
    simp only [Act.put, List.getElem_toArray, List.getElem_cons_succ, List.getElem_cons_zero, List.setIfInBounds_toArray, List.set_cons_zero, List.set_cons_succ]
    refine wpAnyH_take (i := 14) (v := .pointer (some ⟨lg, 7, none⟩)) rfl (by kernel_rfl) (by kernel_rfl) (by kernel_rfl) (fun _ _ _ h => h) (Or.inl ⟨by rfl, fun wx hx => by simp [go_sem]⟩) hS ?_
    simp only [Act.put, List.getElem_toArray, List.getElem_cons_succ, List.getElem_cons_zero, List.setIfInBounds_toArray, List.set_cons_zero, List.set_cons_succ]
    refine wpAnyH_take (i := 15) (v := .int .i64 (u : Int)) rfl (by kernel_rfl) (by kernel_rfl) (by kernel_rfl) (fun _ _ _ h => h) (Or.inl ⟨by rfl, fun wx hx => by simp [go_sem, hx.2.2]⟩) hS ?_
    simp only [Act.put, List.getElem_toArray, List.getElem_cons_succ, List.getElem_cons_zero, List.setIfInBounds_toArray, List.set_cons_zero, List.set_cons_succ]
    refine wpAnyH_take (i := 16) (v := .int .i64 (at_ : Int)) rfl (by kernel_rfl) (by kernel_rfl) (by kernel_rfl) (fun _ _ _ h => h) (Or.inl ⟨by rfl, fun wx hx => by simp [go_sem, f3]⟩) hS ?_
    simp only [Act.put, List.getElem_toArray, List.getElem_cons_succ, List.getElem_cons_zero, List.setIfInBounds_toArray, List.set_cons_zero, List.set_cons_succ]
    refine wpAnyH_take (i := 17) (v := .slice a3 rl c3) rfl (by kernel_rfl) (by kernel_rfl) (by kernel_rfl) (fun _ _ _ h => h) (Or.inl ⟨by rfl, fun wx hx => by simp [go_sem]⟩) hS ?_
    simp only [Act.put, List.getElem_toArray, List.getElem_cons_succ, List.getElem_cons_zero, List.setIfInBounds_toArray, List.set_cons_zero, List.set_cons_succ]
    refine wpAnyH_enter 18 (by kernel_rfl) rfl (by rfl) (f := 102) (args := #[.pointer (some ⟨lg, 0, none⟩), .int .i64 (at_ : Int), .slice a3 rl c3]) (by simp [go_sem]) HPC.out ?_
    rintro e0 y5 ⟨rfl, P5, hd5, hl5, hm5, hg5⟩
    replace hS : y5.cell? ⟨lg, 4, none⟩ = some (.int .i64 (k : Int)) ∧ y5.cell? ⟨lg, 2, none⟩ = some (.int .i64 (hs : Int)) ∧ y5.cell? ⟨lg, 7, none⟩ = some (.int .i64 (u : Int)) := ⟨hl5.cell 4, hl5.cell 2, hl5.cell 7⟩
    refine ⟨_, rfl, hS, ?_⟩
    simp only [Act.put, List.getElem_toArray, List.getElem_cons_succ, List.getElem_cons_zero, List.setIfInBounds_toArray, List.set_cons_zero, List.set_cons_succ]
    refine wpAnyH_take (i := 19) (v := .int .i64 xX) rfl (by kernel_rfl) (by kernel_rfl) (by kernel_rfl) (fun _ _ _ h => h) (Or.inl ⟨by rfl, fun wx hx => by simp [go_sem]⟩) hS ?_
    simp only [Act.put, List.getElem_toArray, List.getElem_cons_succ, List.getElem_cons_zero, List.setIfInBounds_toArray, List.set_cons_zero, List.set_cons_succ]
    refine wpAnyH_done (by kernel_rfl) ?_ _
    have HM5 : Hid (Mut (Un P Q) y1 y5) := (mut_below HD4.out _).trans (fun _ _ h => h) ((Mut.refl (Un P Q) y3.drew).trans (fun z _ h => HUN.out z h) hm5)
    have HMP : Hid (∀ z, z < y3.drew.heap.size → ¬ Un P (fun z => z = lg) z → y5.heap[z]? = y3.drew.heap[z]?) := hm5.block
    have HG5 : Hid (∀ z, P5 z → P z ∨ y1.heap.size ≤ z) := fun z hz => (hg5 z hz).imp id (fun h => Nat.le_trans HD4.out.size h)
    have HD5 : Hid (DkIs y5 gd P5 DX) := hd5
    have HL5 : Hid (Blk y5 lg (lgC gd hs xX k gen (.slice xa kn xc) u) 144) := hl5
    clear hS hd5 hl5 hm5 hg5 HPC HL4
    by_cases hx0 : xX = 0
    case neg =>
      have hx14 : xX = 14 := HER.out.1.elim (fun h => absurd h hx0) id
      have q2 : (xX != 0) = true := by rw [bne_iff_ne]; exact hx0
      go_wp2
      go_ret
      refine ⟨rfl, P5, fun _ => False, HD5.out, HM5.out, fun z hz => hz.elim (fun h => (HG5.out z h).imp Or.inl id) (fun h => h.elim), fun h => absurd hx14 h⟩
    case pos =>
      subst hx0
      go_upto_region 10 with fail
      have HQO : Hid (∀ z, lgQ lg (.slice xa kn xc) us z → Q z) := by rw [HQQ.out]; exact fun z h => h
      have hbl : ∀ z, Q z → z ≠ lg → y5.heap[z]? = y1.heap[z]? := fun z hq hne => by
        have h1 : z < y1.heap.size := HLT.out z (Or.inr hq)
        rw [HMP.out z (Nat.lt_of_lt_of_le h1 HD4.out.size) (fun h => h.elim (HAP.out z hq) hne), HD4.out.block z h1]
      have HT5 : Hid (TxJ 0 (.slice xa kn xc) us J.l y5) := HTX.out.sameQ HM5.out.size (fun z hz => hbl z (HQO.out z (Or.inr (Or.inl hz))) (fun e => ownX_ne_lg HTX.out.own HLB.out (e ▸ hz))) (fun uu huu z hz => hbl z (HQO.out z (Or.inr (Or.inr ⟨uu, huu, hz⟩))) (fun e => by
        obtain ⟨i, hi, rfl⟩ := List.getElem_of_mem huu
        exact ownB_ne_lg (HTX.out.good i _ (List.getElem?_eq_getElem hi)) HLB.out (e ▸ hz)))
      have HX5 : Hid (Reads y5 (.slice ax nx cx) x) := HRD.out y5 HM5.out
      clear hbl HMP HD4
      have HD6 : Hid (Below y5.heap.size y5 y5.drew) := (Below.refl _ _).drew
      replace HX5 : Hid (Reads y5.drew (.slice ax nx cx) x) := HX5.out.below HD6.out
      have HT6 : Hid (TxJ 0 (.slice xa kn xc) us J.l y5.drew) := HT5.out.next HD6.out
      have HL6 : Hid (Blk y5.drew lg (lgC gd hs 0 k gen (.slice xa kn xc) u) 144) := HL5.out.drew
      have c6 : y5.drew.cell? ⟨lg, 6, none⟩ = some (.slice xa kn xc) := HL6.out.cell 6
      refine wp_region_held_drew (S := fun _ => True) (by kernel_rfl) trivial ?_
      intro _
      refine wpAnyH_take (i := 0) (v := .pointer (some ⟨lg, 0, none⟩)) rfl (by kernel_rfl) (by kernel_rfl) (by kernel_rfl) (fun _ _ _ h => h) (Or.inl ⟨by rfl, fun wx hx => by simp [go_sem]⟩) trivial ?_
      simp only [Act.put, List.getElem_toArray, List.getElem_cons_zero, List.setIfInBounds_toArray, List.set_cons_zero, List.set_cons_succ]
      refine wpAnyH_take (i := 1) (v := .pointer (some ⟨lg, 0, none⟩)) rfl (by kernel_rfl) (by kernel_rfl) (by kernel_rfl) (fun _ _ _ h => h) (Or.inl ⟨by rfl, fun wx hx => by simp [go_sem]⟩) trivial ?_
      simp only [Act.put, List.getElem_toArray, List.getElem_cons_succ, List.getElem_cons_zero, List.setIfInBounds_toArray, List.set_cons_zero, List.set_cons_succ]
      refine wpAnyH_take (i := 2) (v := .pointer (some ⟨lg, 0, none⟩)) rfl (by kernel_rfl) (by kernel_rfl) (by kernel_rfl) (fun _ _ _ h => h) (Or.inl ⟨by rfl, fun wx hx => by simp [go_sem]⟩) trivial ?_
      simp only [Act.put, List.getElem_toArray, List.getElem_cons_succ, List.getElem_cons_zero, List.setIfInBounds_toArray, List.set_cons_zero, List.set_cons_succ]
      refine wpAnyH_take (i := 3) (v := .pointer (some ⟨lg, 4, none⟩)) rfl (by kernel_rfl) (by kernel_rfl) (by kernel_rfl) (fun _ _ _ h => h) (Or.inl ⟨by rfl, fun wx hx => by simp [go_sem]⟩) trivial ?_
      simp only [Act.put, List.getElem_toArray, List.getElem_cons_succ, List.getElem_cons_zero, List.setIfInBounds_toArray, List.set_cons_zero, List.set_cons_succ]
      refine wpAnyH_take (i := 4) (v := .pointer (some ⟨lg, 6, none⟩)) rfl (by kernel_rfl) (by kernel_rfl) (by kernel_rfl) (fun _ _ _ h => h) (Or.inl ⟨by rfl, fun wx hx => by simp [go_sem]⟩) trivial ?_
      simp only [Act.put, List.getElem_toArray, List.getElem_cons_succ, List.getElem_cons_zero, List.setIfInBounds_toArray, List.set_cons_zero, List.set_cons_succ]
      refine wpAnyH_take (i := 6) (v := .slice ax nx cx) rfl (by kernel_rfl) (by kernel_rfl) (by kernel_rfl) (fun _ _ _ h => h) (Or.inl ⟨by rfl, fun wx hx => by simp [go_sem]⟩) trivial ?_
      simp only [Act.put, List.getElem_toArray, List.getElem_cons_succ, List.getElem_cons_zero, List.setIfInBounds_toArray, List.set_cons_zero, List.set_cons_succ]
      refine wpAnyH_readCB 5 7 8 (.slice xa kn xc) (f := 64) (args := #[.slice ax nx cx]) (by kernel_rfl) rfl rfl rfl (by rfl) (by rfl) (fun _ => by rfl) (fun _ _ => by rfl) (by rfl) (fun _ => by rfl) (fun _ => by rfl) (by simp [go_sem, c6]) (by simp [go_sem]) (by simp [go_sem]) (bclone_any _ x _ HX5.out (by rw [← HNX.out]; have h1 := HBD.out; omega)) (by kernel_rfl) (by kernel_rfl) (by kernel_rfl) (by kernel_rfl) (fun _ => by rfl) (fun _ _ => by rfl) (by rfl) (by rfl) trivial ?_
      rintro e0 y6 ⟨vc, rfl, ho6, hz6⟩
      obtain ⟨ac, cc, hvc⟩ := ownB_form ho6
      rw [← HNX.out] at hvc
      subst hvc
      have hl6 : Blk y6 lg (lgC gd hs 0 k gen (.slice xa kn xc) u) 144 := HL6.out.below hz6 HL6.out.lt
      have hz7 := below_alloc y6 (.cells #[Value.slice ac nx cc] 23)
      have hl7 : Blk (y6.alloc (.cells #[Value.slice ac nx cc] 23)) lg (lgC gd hs 0 k gen (.slice xa kn xc) u) 144 := hl6.below hz7 hl6.lt
      have c6b : y6.cell? ⟨lg, 6, none⟩ = some (.slice xa kn xc) := hl6.cell 6
      have c6c : (y6.alloc (.cells #[Value.slice ac nx cc] 23)).cell? ⟨lg, 6, none⟩ = some (.slice xa kn xc) := hl7.cell 6
      refine ⟨_, rfl, trivial, by simp [go_sem, c6b], .slice (some ⟨y6.heap.size, 0, none⟩) 1 1, y6.alloc (.cells #[Value.slice ac nx cc] 23), build_x1 _ _ (.tmp 61) ac nx cc rfl rfl _, build_x1 _ _ (.tmp 61) ac nx cc rfl rfl _, trivial, by simp [go_sem, c6c], ?_⟩
      simp only [Act.put, List.getElem_toArray, List.getElem_cons_succ, List.getElem_cons_zero, List.setIfInBounds_toArray, List.set_cons_zero, List.set_cons_succ]
      have HT7 : Hid (TxJ 0 (.slice xa kn xc) us J.l y6) := HT6.out.next hz6
      have HOW : Hid (OwnB y6 y5.drew.heap.size (.slice ac nx cc) x) := ho6
      refine wpAnyH_appX 9 (.tmp 59) (.tmp 62) 0 (.slice xa kn xc) (.slice ac nx cc) us y6.heap.size (HT7.out.next hz7).own ((Blk.new y6 [Value.slice ac nx cc] 23).cell 0) rfl (by have h1 := HT7.out.len; have h2 := HKN.out; have h3 := HBD.out; omega) (Nat.zero_le _) (by kernel_rfl) rfl (by rfl) rfl rfl rfl ?_
      intro v8 y8 ho8 hg8 ha8
      refine ⟨trivial, ?_⟩
      simp only [Act.put, List.getElem_toArray, List.getElem_cons_succ, List.getElem_cons_zero, List.setIfInBounds_toArray, List.set_cons_zero, List.set_cons_succ]
      obtain ⟨HT8, _⟩ := HT7.out.grow (ownB_lower HOW.out (Nat.zero_le _)) ho8 hg8
      obtain ⟨a8, c8, hv8⟩ := HT8.form
      obtain ⟨kn1, HKN1⟩ : ∃ m, Hid (m = kn + 1) := ⟨_, rfl⟩
      have hkl : (J.l ++ [x]).length = kn1 := by rw [List.length_append, ← HKN.out, HKN1.out]; rfl
      rw [hkl] at hv8
      subst hv8
      have hrow : (Value.slice xa kn xc).ownBlock ≠ some lg := ownX_ne_lg (HT7.out.next hz7).own hl7
      have hl8 : Blk y8 lg (lgC gd hs 0 k gen (.slice xa kn xc) u) 144 := hl7.grownJ hg8 hrow
      have hb58 : ∀ z, z < y5.heap.size → (Value.slice xa kn xc).ownBlock ≠ some z → y8.heap[z]? = y5.heap[z]? := fun z hz hne => by
        have h1 : z < y6.heap.size := Nat.lt_of_lt_of_le hz hz6.size
        have h2 : z < (y6.alloc (.cells #[Value.slice ac nx cc] 23)).heap.size := Nat.lt_of_lt_of_le h1 hz7.size
        rw [hg8.block z h2 (Ne.symm hne), hz7.block z h1, hz6.block z hz]
        rfl
      have HS8 : Hid (y5.heap.size ≤ y8.heap.size) := Nat.le_trans hz6.size (Nat.le_trans hz7.size hg8.size)
      have HRQ : Hid (∀ z, (Value.slice xa kn xc).ownBlock = some z → Q z ∧ z < y1.heap.size) := fun z hz => ⟨HQO.out z (Or.inr (Or.inl hz)), HLT.out z (Or.inr (HQO.out z (Or.inr (Or.inl hz))))⟩
      have HM8 : Hid (Mut (Un P Q) y1 y8) := by
        have ho := hg8.os.trans (hz7.os.trans (hz6.os.trans rfl))
        refine ⟨(hg8.os.trans (hz7.os.trans hz6.os)).trans HM5.out.os, (hg8.tape.trans (hz7.tape.trans hz6.tape)).trans HM5.out.tape, (hg8.output.trans (hz7.output.trans hz6.output)).trans HM5.out.output, Nat.le_trans HM5.out.size HS8.out, fun z hz hn => ?_⟩
        rw [hb58 z (Nat.lt_of_lt_of_le hz HM5.out.size) (fun e => hn (Or.inr (HRQ.out z e).1))]
        exact HM5.out.block z hz hn
      have HD8 : Hid (DkIs y8 gd P5 DX) := HD5.out.same14 (fun z hz => hb58 z (HD5.out.lt14 z hz) (fun e => (HG5.out z hz).elim (fun h => HAP.out z (HRQ.out z e).1 h) (fun h => absurd (HRQ.out z e).2 (by omega))))
      have HQ8 : Hid (∀ z, lgQ lg (.slice a8 kn1 c8) (us ++ [.slice ac nx cc]) z → Q z ∨ y1.heap.size ≤ z) := fun z hz => by
        rcases hz with rfl | hz | ⟨uu, huu, hz⟩
        · exact Or.inl HQL.out
        · rcases ha8 with h | h
          · rw [h] at hz; exact Or.inl (HRQ.out z hz).1
          · rw [h] at hz
            cases hz
            exact Or.inr (Nat.le_trans HM5.out.size (Nat.le_trans hz6.size hz7.size))
        · rcases List.mem_append.1 huu with huu | huu
          · exact Or.inl (HQO.out z (Or.inr (Or.inr ⟨uu, huu, hz⟩)))
          · simp at huu
            subst huu
            exact Or.inr (Nat.le_trans HM5.out.size (HOW.out.ltJ z hz).1)
      have HT8' : Hid (TxJ 0 (.slice a8 kn1 c8) (us ++ [.slice ac nx cc]) (J.l ++ [x]) y8) := HT8
      have HL8 : Hid (Blk y8 lg (lgC gd hs 0 k gen (.slice xa kn xc) u) 144) := hl8
      clear HT8 hl8 hb58 hrow hkl ho8 hg8 ha8 hz6 hz7 hl6 hl7 c6 c6b c6c ho6 HOW HT7 HT6 HT5 HL6 HX5 HRQ HQO
      refine wpAnyH_take (i := 10) (v := .pointer (some ⟨lg, 0, none⟩)) rfl (by kernel_rfl) (by kernel_rfl) (by kernel_rfl) (fun _ _ _ h => h) (Or.inl ⟨by rfl, fun wx hx => by simp [go_sem]⟩) trivial ?_
      simp only [Act.put, List.getElem_toArray, List.getElem_cons_succ, List.getElem_cons_zero, List.setIfInBounds_toArray, List.set_cons_zero, List.set_cons_succ]
      refine wpAnyH_take (i := 11) (v := .pointer (some ⟨lg, 4, none⟩)) rfl (by kernel_rfl) (by kernel_rfl) (by kernel_rfl) (fun _ _ _ h => h) (Or.inl ⟨by rfl, fun wx hx => by simp [go_sem]⟩) trivial ?_
      simp only [Act.put, List.getElem_toArray, List.getElem_cons_succ, List.getElem_cons_zero, List.setIfInBounds_toArray, List.set_cons_zero, List.set_cons_succ]
      refine wpAnyH_take (i := 12) (v := .pointer (some ⟨lg, 6, none⟩)) rfl (by kernel_rfl) (by kernel_rfl) (by kernel_rfl) (fun _ _ _ h => h) (Or.inl ⟨by rfl, fun wx hx => by simp [go_sem]⟩) trivial ?_
      simp only [Act.put, List.getElem_toArray, List.getElem_cons_succ, List.getElem_cons_zero, List.setIfInBounds_toArray, List.set_cons_zero, List.set_cons_succ]
      have c68 : y8.cell? ⟨lg, 6, none⟩ = some (.slice xa kn xc) := HL8.out.cell 6
      have d68 : y8.frozen? ⟨lg, 6, none⟩ = false := HL8.out.frozen 6
      refine wpAnyH_skip 13 (y8.setCell ⟨lg, 6, none⟩ (.slice a8 kn1 c8)) (by kernel_rfl) rfl (by rfl) (by simp [go_sem, c68, d68]) trivial ?_
      simp only [Act.put]
      refine wpAnyH_done (by kernel_rfl) ?_ _
      obtain ⟨y9, HY9⟩ : ∃ y, Hid (y = y8.setCell ⟨lg, 6, none⟩ (.slice a8 kn1 c8)) := ⟨_, rfl⟩
      rw [← HY9.out]
      have ho9 : Only lg y8 y9 := by rw [HY9.out]; exact Only.setCell (Only.refl _ _) _ _
      have HL9 : Hid (Blk y9 lg (lgC gd hs 0 k gen (.slice a8 kn1 c8) u) 144) := by rw [HY9.out]; exact lg_set _ HL8.out
      have HT9 : Hid (TxJ 0 (.slice a8 kn1 c8) (us ++ [.slice ac nx cc]) (J.l ++ [x]) y9) := HT8'.out.onlyT ho9 HL8.out (by decide) (by decide)
      have HM9 : Hid (Mut (Un P Q) y1 y9) := HM8.out.trans (fun _ _ h => h) (ho9.mut (Or.inr HQL.out))
      have HN5 : Hid (¬ P5 lg) := fun h => (HG5.out lg h).elim HNP.out (fun h2 => absurd h2 (by have := HLB.out.lt; omega))
      have HD9 : Hid (DkIs y9 gd P5 DX) := HD8.out.same14 (fun z hz => ho9.block z (fun e => HN5.out (e ▸ hz)) (HD8.out.lt14 z hz))
      clear HY9 ho9 HL8 HT8' HM8 HD8 c68 d68
      go_upto_region 11 with fail
      have HL10 : Hid (Blk y9.drew lg (lgC gd hs 0 k gen (.slice a8 kn1 c8) u) 144) := HL9.out.drew
      have c7 : y9.drew.cell? ⟨lg, 7, none⟩ = some (.int .i64 (u : Int)) := HL10.out.cell 7
      have d7 : y9.drew.frozen? ⟨lg, 7, none⟩ = false := HL10.out.frozen 7
      have HSC : Hid (∀ W, Calls Tryz.prog 103 #[.int .i64 (rl : Int)] W fun e w' => e = .returned (.int .i64 (sx : Int)) ∧ w' = W) := fun W => by
        have h1 := jSectors_any rl (by have h2 := HRL2.out; have h3 := HSB.out; have h4 := HBD.out; omega) W
        have e : (rl + 63) / 64 = sx := by have h2 := HRL2.out; omega
        rw [e] at h1
        exact h1
      refine wp_region_held_drew (S := fun _ => True) (by kernel_rfl) trivial ?_
      intro _
      refine wpAnyH_take (i := 0) (v := .pointer (some ⟨lg, 0, none⟩)) rfl (by kernel_rfl) (by kernel_rfl) (by kernel_rfl) (fun _ _ _ h => h) (Or.inl ⟨by rfl, fun wx hx => by simp [go_sem]⟩) trivial ?_
      simp only [Act.put, List.getElem_toArray, List.getElem_cons_zero, List.setIfInBounds_toArray]
      refine wpAnyH_take (i := 1) (v := .pointer (some ⟨lg, 0, none⟩)) rfl (by kernel_rfl) (by kernel_rfl) (by kernel_rfl) (fun _ _ _ h => h) (Or.inl ⟨by rfl, fun wx hx => by simp [go_sem]⟩) trivial ?_
      simp only [Act.put, List.getElem_toArray, List.getElem_cons_succ, List.getElem_cons_zero, List.setIfInBounds_toArray, List.set_cons_zero, List.set_cons_succ]
      refine wpAnyH_take (i := 2) (v := .pointer (some ⟨lg, 4, none⟩)) rfl (by kernel_rfl) (by kernel_rfl) (by kernel_rfl) (fun _ _ _ h => h) (Or.inl ⟨by rfl, fun wx hx => by simp [go_sem]⟩) trivial ?_
      simp only [Act.put, List.getElem_toArray, List.getElem_cons_succ, List.getElem_cons_zero, List.setIfInBounds_toArray, List.set_cons_zero, List.set_cons_succ]
      refine wpAnyH_take (i := 3) (v := .pointer (some ⟨lg, 7, none⟩)) rfl (by kernel_rfl) (by kernel_rfl) (by kernel_rfl) (fun _ _ _ h => h) (Or.inl ⟨by rfl, fun wx hx => by simp [go_sem]⟩) trivial ?_
      simp only [Act.put, List.getElem_toArray, List.getElem_cons_succ, List.getElem_cons_zero, List.setIfInBounds_toArray, List.set_cons_zero, List.set_cons_succ]
      refine wpAnyH_take (i := 5) (v := .slice a3 rl c3) rfl (by kernel_rfl) (by kernel_rfl) (by kernel_rfl) (fun _ _ _ h => h) (Or.inl ⟨by rfl, fun wx hx => by simp [go_sem]⟩) trivial ?_
      simp only [Act.put, List.getElem_toArray, List.getElem_cons_succ, List.getElem_cons_zero, List.setIfInBounds_toArray, List.set_cons_zero, List.set_cons_succ]
      refine wpAnyH_take (i := 6) (v := .int .i64 (rl : Int)) rfl (by kernel_rfl) (by kernel_rfl) (by kernel_rfl) (fun _ _ _ h => h) (Or.inl ⟨by rfl, fun wx hx => by simp [go_sem]⟩) trivial ?_
      simp only [Act.put, List.getElem_toArray, List.getElem_cons_succ, List.getElem_cons_zero, List.setIfInBounds_toArray, List.set_cons_zero, List.set_cons_succ]
      refine wpAnyH_readC 4 7 (.int .i64 (u : Int)) (f := 103) (args := #[.int .i64 (rl : Int)]) (by kernel_rfl) rfl rfl (by rfl) (by rfl) (fun _ => by rfl) (by rfl) (by simp [go_sem, c7]) (by simp [go_sem]) (by simp [go_sem]) (HSC.out _) (by kernel_rfl) (by kernel_rfl) (fun _ => by rfl) (by rfl) trivial ?_
      rintro e0 y10 ⟨rfl, hy10⟩
      subst hy10
      refine ⟨_, rfl, trivial, by simp [go_sem, c7], ?_⟩
      simp only [Act.put, List.getElem_toArray, List.getElem_cons_succ, List.getElem_cons_zero, List.setIfInBounds_toArray, List.set_cons_zero, List.set_cons_succ]
      refine wpAnyH_take (i := 8) (v := .int .i64 (u2 : Int)) rfl (by kernel_rfl) (by kernel_rfl) (by kernel_rfl) (fun _ _ _ h => h) (Or.inl ⟨by rfl, fun wx hx => by simp [go_sem, f4]⟩) trivial ?_
      simp only [Act.put, List.getElem_toArray, List.getElem_cons_succ, List.getElem_cons_zero, List.setIfInBounds_toArray, List.set_cons_zero, List.set_cons_succ]
      refine wpAnyH_take (i := 9) (v := .pointer (some ⟨lg, 0, none⟩)) rfl (by kernel_rfl) (by kernel_rfl) (by kernel_rfl) (fun _ _ _ h => h) (Or.inl ⟨by rfl, fun wx hx => by simp [go_sem]⟩) trivial ?_
      simp only [Act.put, List.getElem_toArray, List.getElem_cons_succ, List.getElem_cons_zero, List.setIfInBounds_toArray, List.set_cons_zero, List.set_cons_succ]
      refine wpAnyH_take (i := 10) (v := .pointer (some ⟨lg, 4, none⟩)) rfl (by kernel_rfl) (by kernel_rfl) (by kernel_rfl) (fun _ _ _ h => h) (Or.inl ⟨by rfl, fun wx hx => by simp [go_sem]⟩) trivial ?_
      simp only [Act.put, List.getElem_toArray, List.getElem_cons_succ, List.getElem_cons_zero, List.setIfInBounds_toArray, List.set_cons_zero, List.set_cons_succ]
      refine wpAnyH_take (i := 11) (v := .pointer (some ⟨lg, 7, none⟩)) rfl (by kernel_rfl) (by kernel_rfl) (by kernel_rfl) (fun _ _ _ h => h) (Or.inl ⟨by rfl, fun wx hx => by simp [go_sem]⟩) trivial ?_
      simp only [Act.put, List.getElem_toArray, List.getElem_cons_succ, List.getElem_cons_zero, List.setIfInBounds_toArray, List.set_cons_zero, List.set_cons_succ]
      refine wpAnyH_skip 12 (y9.drew.setCell ⟨lg, 7, none⟩ (.int .i64 (u2 : Int))) (by kernel_rfl) rfl (by rfl) (by simp [go_sem, c7, d7]) trivial ?_
      simp only [Act.put]
      refine wpAnyH_done (by kernel_rfl) ?_ _
      obtain ⟨y11, HY11⟩ : ∃ y, Hid (y = y9.drew.setCell ⟨lg, 7, none⟩ (.int .i64 (u2 : Int))) := ⟨_, rfl⟩
      rw [← HY11.out]
      have ho11 : Only lg y9.drew y11 := by rw [HY11.out]; exact Only.setCell (Only.refl _ _) _ _
      have HL11 : Hid (Blk y11 lg (lgC gd hs 0 k gen (.slice a8 kn1 c8) u2) 144) := by rw [HY11.out]; exact lg_setU _ HL10.out
      have HT11 : Hid (TxJ 0 (.slice a8 kn1 c8) (us ++ [.slice ac nx cc]) (J.l ++ [x]) y11) := (HT9.out.next ((Below.refl _ _).drew)).onlyT ho11 HL10.out (by decide) (by decide)
      have HM11 : Hid (Mut (Un P Q) y1 y11) := HM9.out.drew.trans (fun _ _ h => h) (ho11.mut (Or.inr HQL.out))
      have HD11 : Hid (DkIs y11 gd P5 DX) := (HD9.out.same14 (w' := y9.drew) (fun _ _ => rfl)).same14 (fun z hz => ho11.block z (fun e => HN5.out (e ▸ hz)) (HD9.out.lt14 z hz))
      clear HY11 ho11 c7 d7
      go_wp2
      go_ret
      have hlm : LgM y11 lg gd (sizeD DX) (.slice a8 kn1 c8) (us ++ [.slice ac nx cc]) ⟨J.k, J.gen, J.l ++ [x]⟩ := ⟨by
        show Blk y11 lg (lgC gd (sizeD DX / 2) 0 J.k J.gen (.slice a8 kn1 c8) (1 + secL (J.l ++ [x]))) 144
        rw [HER.out.2, ← HHS.out, ← HKK.out, ← HGN.out, secL_snoc, ← HNX.out, ← HSX.out, ← Nat.add_assoc, ← HU.out, ← HU2.out]
        exact HL11.out, HT11.out⟩
      have hpk : Pk LgJ y11 gd lg P5 (lgQ lg (.slice a8 kn1 c8) (us ++ [.slice ac nx cc])) DX ⟨J.k, J.gen, J.l ++ [x]⟩ := ⟨HD11.out, ⟨_, _, hlm, rfl⟩, pk_ap HD11.out hlm⟩
      have hgw : Grew y1 (Un P Q) (Un P5 (lgQ lg (.slice a8 kn1 c8) (us ++ [.slice ac nx cc]))) := fun z hz => hz.elim (fun h => (HG5.out z h).imp Or.inl id) (fun h => (HQ8.out z h).imp Or.inr id)
      first
        | exact ⟨rfl, P5, _, HD11.out, HM11.out, hgw, fun _ => hpk⟩
        | exact ⟨rfl, P5, _, HD11.out, HM11.out, hgw, hpk⟩
        | exact ⟨rfl, P5, HD11.out, HM11.out, _, hgw, hpk⟩
        | trace_state
end Go.Proofs.YtopmeedmgjdcgaaGreatDoor
/- The walk of journal's Restart, as it landed (layer 14). -/
namespace Go.Proofs.YtopmeedmgjdcgaaGreatDoor
open Go.RowKit
set_option maxRecDepth 100000
/-- texts that lie in no block of R stay, whatever R becomes -/
theorem TxJ.stN {base : Nat} {v : Value} {us : List Value} {xs : List Bs} {w : World} (h : TxJ base v us xs w) {R : Nat → Prop} (hv : ∀ z, v.ownBlock = some z → ¬ R z) (hu : ∀ u ∈ us, ∀ z, u.ownBlock = some z → ¬ R z) : Sta R w (fun W => ReadsL W v xs) := fun W m =>
  (h.sameQ m.size (fun z hz => m.block z (h.own.lt z hz).2 (hv z hz)) (fun u huu z hz => m.block z (by
    obtain ⟨i, hi, rfl⟩ := List.getElem_of_mem huu
    exact ((h.good i _ (List.getElem?_eq_getElem hi)).ltJ z hz).2) (hu u huu z hz))).readsL
theorem TxJ.ge_all {base : Nat} {v : Value} {us : List Value} {xs : List Bs} {w : World} (h : TxJ base v us xs w) : (∀ z, v.ownBlock = some z → base ≤ z ∧ z < w.heap.size) ∧ ∀ u ∈ us, ∀ z, u.ownBlock = some z → base ≤ z ∧ z < w.heap.size := ⟨h.own.lt, fun u huu z hz => by
  obtain ⟨i, hi, rfl⟩ := List.getElem_of_mem huu
  exact (h.good i _ (List.getElem?_eq_getElem hi)).ltJ z hz⟩
theorem TxJ.lower {base B : Nat} {v : Value} {us : List Value} {xs : List Bs} {w : World} (h : TxJ base v us xs w) (hB : B ≤ base) : TxJ B v us xs w := by
  refine ⟨?_, h.len, fun j u hj => ownB_lower (h.good j u hj) hB, Nat.le_trans hB h.ge⟩
  rcases h.own with ⟨h1, ⟨rfl, h2⟩ | ⟨g, cap, cur, rfl, hg, r⟩⟩
  · exact ⟨h1, Or.inl ⟨rfl, h2⟩⟩
  · exact ⟨h1, Or.inr ⟨g, cap, cur, rfl, Nat.le_trans hB hg, r⟩⟩
end Go.Proofs.YtopmeedmgjdcgaaGreatDoor
/- Slices of texts that stay whatever blocks of P become; blazonref14.Append and Restart with them (layer 14). -/
namespace Go.Proofs.YtopmeedmgjdcgaaGreatDoor
open Go.RowKit
set_option maxRecDepth 100000
/-- a slice of texts, whatever blocks of P become -/
def StaL (P : Nat → Prop) (w : World) (v : Value) (l : List Bs) : Prop :=
  ∃ ad cap, v = .slice ad l.length cap ∧ l.length ≤ cap ∧ (ad = none → cap = 0) ∧ (0 < l.length → ∃ b off, ad = some ⟨b, off, none⟩ ∧ ¬ P b ∧ ∀ j, j < l.length → ∃ vj, w.cell? ⟨b, off + j, none⟩ = some vj ∧ Sta P w (fun W => Reads W vj (l.getD j [])))
theorem StaL.now {P : Nat → Prop} {w : World} {v : Value} {l : List Bs} (h : StaL P w v l) : ReadsL w v l := by
  obtain ⟨ad, cap, h1, h2, h3, h4⟩ := h
  refine ⟨ad, cap, h1, h2, h3, fun hp => ?_⟩
  obtain ⟨b, off, h5, _, h6⟩ := h4 hp
  refine ⟨b, off, h5, fun j hj => ?_⟩
  obtain ⟨vj, h7, h9⟩ := h6 j hj
  exact ⟨vj, h7, h9.now⟩
theorem StaL.go {P P' : Nat → Prop} {w w' : World} {v : Value} {l : List Bs} (h : StaL P w v l) (m : Mut P w w') (hP : ∀ k, k < w.heap.size → P' k → P k) : StaL P' w' v l := by
  obtain ⟨ad, cap, h1, h2, h3, h4⟩ := h
  refine ⟨ad, cap, h1, h2, h3, fun hp => ?_⟩
  obtain ⟨b, off, h5, hnb, h6⟩ := h4 hp
  obtain ⟨_, h0, _⟩ := h6 0 hp
  refine ⟨b, off, h5, fun hb => hnb (hP b (block_lt_of_cell h0) hb), fun j hj => ?_⟩
  obtain ⟨vj, h7, h9⟩ := h6 j hj
  exact ⟨vj, m.cell hnb h7, h9.go m hP⟩
theorem StaL.below {P : Nat → Prop} {w w' : World} {v : Value} {l : List Bs} (h : StaL P w v l) (hb : Below w.heap.size w w') : StaL P w' v l := h.go (mut_below hb P) (fun _ _ h => h)
theorem StaL.nil (P : Nat → Prop) (w : World) : StaL P w (.slice none 0 0) [] := ⟨none, 0, rfl, Nat.le_refl _, fun _ => rfl, fun h => by simp at h⟩
end Go.Proofs.YtopmeedmgjdcgaaGreatDoor
/- The walk of the statements' do, over what journal's functions do (layer 14). -/
namespace Go.Proofs.YtopmeedmgjdcgaaGreatDoor
open Go.RowKit
set_option maxRecDepth 100000
/-- an act -/
structure OpT where
  ag : Bool
  b : Bs
  l : List Bs
/-- an act that is not more than is waited for -/
structure okO (o : OpT) : Prop where
  b : o.b.length ≤ 100000
  n : o.l.length ≤ 100000
  l : ∀ x ∈ o.l, x.length ≤ 100000
  s : sizeL o.l < 100000000
end Go.Proofs.YtopmeedmgjdcgaaGreatDoor
/- The walk of the statements' few (layer 14). -/
namespace Go.Proofs.YtopmeedmgjdcgaaGreatDoor
open Go.RowKit
set_option maxRecDepth 100000
/-- a slice of acts -/
def ROps (w : World) (v : Value) (os : List OpT) : Prop :=
  ∃ ad cap, v = .slice ad os.length cap ∧ os.length ≤ cap ∧ (0 < os.length → ∃ b off, ad = some ⟨b, off, none⟩ ∧ ∀ j, j < os.length → ∃ vB vL, w.cell? ⟨b, off + j * 3, none⟩ = some (.bool (os.getD j ⟨false, [], []⟩).ag) ∧ w.cell? ⟨b, off + j * 3 + 1, none⟩ = some vB ∧ w.cell? ⟨b, off + j * 3 + 2, none⟩ = some vL ∧ Reads w vB (os.getD j ⟨false, [], []⟩).b ∧ ReadsL w vL (os.getD j ⟨false, [], []⟩).l)
theorem ROps.below {w w' : World} {v : Value} {os : List OpT} (h : ROps w v os) (hb : Below w.heap.size w w') : ROps w' v os := by
  obtain ⟨ad, cap, h1, h2, h3⟩ := h
  refine ⟨ad, cap, h1, h2, fun hp => ?_⟩
  obtain ⟨b, off, h4, h5⟩ := h3 hp
  refine ⟨b, off, h4, fun j hj => ?_⟩
  obtain ⟨vB, vL, c0, c1, c2, r1, r2⟩ := h5 j hj
  have up : ∀ k u, w.cell? ⟨b, k, none⟩ = some u → w'.cell? ⟨b, k, none⟩ = some u := fun k u hu => by rw [hb.cell (p := ⟨b, k, none⟩) (block_lt_of_cell hu)]; exact hu
  exact ⟨vB, vL, up _ _ c0, up _ _ c1, up _ _ c2, r1.below hb, r2.below hb⟩
theorem ROps.at {w : World} {ad : Option Addr} {n c : Nat} {os : List OpT} (h : ROps w (.slice ad n c) os) {j : Nat} (hj : j < os.length) : ∃ b off vB vL, ad = some ⟨b, off, none⟩ ∧ w.cell? ⟨b, off + j * 3, none⟩ = some (.bool (os.getD j ⟨false, [], []⟩).ag) ∧ w.cell? ⟨b, off + j * 3 + 1, none⟩ = some vB ∧ w.cell? ⟨b, off + j * 3 + 2, none⟩ = some vL ∧ Reads w vB (os.getD j ⟨false, [], []⟩).b ∧ ReadsL w vL (os.getD j ⟨false, [], []⟩).l := by
  obtain ⟨ad', cap, h1, h2, h3⟩ := h
  simp only [Value.slice.injEq] at h1
  obtain ⟨rfl, _, _⟩ := h1
  obtain ⟨b, off, h4, h5⟩ := h3 (Nat.lt_of_le_of_lt (Nat.zero_le _) hj)
  obtain ⟨vB, vL, r⟩ := h5 j hj
  exact ⟨b, off, vB, vL, h4, r⟩
def sumB (l : List Bs) : Nat := (l.map List.length).sum
theorem sumB_snoc (l : List Bs) (x : Bs) : sumB (l ++ [x]) = sumB l + x.length := by simp [sumB]
theorem sumB_take {l : List Bs} {k : Nat} (hk : k < l.length) : sumB (l.take (k + 1)) = sumB (l.take k) + (l.getD k []).length := by
  rw [List.take_add_one, List.getElem?_eq_getElem hk, List.getD_eq_getElem?_getD, List.getElem?_eq_getElem hk]
  exact sumB_snoc _ _
/-- lengths that no machine's memory passes -/
structure szO (o : OpT) : Prop where
  b : o.b.length ≤ 1125899906842624
  n : o.l.length ≤ 1125899906842624
  l : ∀ x ∈ o.l, x.length ≤ 1125899906842624
end Go.Proofs.YtopmeedmgjdcgaaGreatDoor
/- Plain: an act by the log, and by the reference (layer 14). -/
namespace Go.Proofs.YtopmeedmgjdcgaaGreatDoor
open Go.RowKit
set_option maxRecDepth 100000
end Go.Proofs.YtopmeedmgjdcgaaGreatDoor
/- JournalDoes, over what journal's functions do (layer 14). -/
namespace Go.Proofs.YtopmeedmgjdcgaaGreatDoor
open Go.RowKit
set_option maxRecDepth 100000
set_option maxRecDepth 100000 in
set_option maxHeartbeats 3000000 in
theorem dkSize_pure {w : World} {g : Nat} {P : Nat → Prop} {D : DkT} (h : DkIs w g P D) : Calls Tryz.prog 22 #[.pointer (some ⟨g, 0, none⟩)] w fun r w' => r = .returned (.int .i64 (sizeD D : Int)) ∧ w' = w := by
  obtain ⟨gs, vw, fu, lf, hm, hP⟩ := h
  clear hP
  obtain ⟨n, HN⟩ : ∃ n, Hid (n = sizeD D) := ⟨_, rfl⟩
  have c0 : w.cell? ⟨g, 0, none⟩ = some (.slice (some ⟨gs, 0, none⟩) n n) := by rw [hm.me.cell 0, HN.out]; rfl
  rw [← HN.out]
  clear hm
  go_enter Tryz.func22, Tryz.ntmps22
  go_wp2
  go_ret
  exact ⟨rfl, rfl⟩
set_option maxRecDepth 100000 in
set_option maxHeartbeats 3000000 in
theorem dkDump_b {w : World} {g : Nat} {P : Nat → Prop} {D : DkT} (h : DkIs w g P D) (hw2 : D.wait.length ≤ 200) : Calls Tryz.prog 25 #[.pointer (some ⟨g, 0, none⟩)] w fun r w' => ∃ v, r = .returned v ∧ Reads w' v (dumpD D) ∧ Below w.heap.size w w' := by
  obtain ⟨gs, vw, fu, lf, hm, hP⟩ := h
  subst hP
  obtain ⟨n, HN⟩ : ∃ n, Hid (n = sizeD D) := ⟨_, rfl⟩
  obtain ⟨aw, cw, hvw⟩ := hm.wt.form
  obtain ⟨nw, HNW⟩ : ∃ n, Hid (n = D.wait.length) := ⟨_, rfl⟩
  rw [← HNW.out] at hvw
  subst hvw
  obtain ⟨dn, HDN⟩ : ∃ b, Hid (b = D.down) := ⟨_, rfl⟩
  have HM : Hid (DkM w g gs (.slice aw nw cw) fu lf D) := hm
  have HME : Hid (Blk w g [.slice (some ⟨gs, 0, none⟩) n n, .slice aw nw cw, .bool dn, .bool fu, .int .i64 lf] 94) := by have h9 := hm.me; rw [dkC, ← HN.out, ← HDN.out] at h9; exact h9
  have c0 : w.cell? ⟨g, 0, none⟩ = some (.slice (some ⟨gs, 0, none⟩) n n) := HME.out.cell 0
  have HW2 : Hid (nw ≤ 200) := by show _ ≤ _; rw [HNW.out]; exact hw2
  have HOK : Hid (okD D) := hm.ok
  obtain ⟨N, HNN⟩ : ∃ N : Nat, Hid (N = 64 * n) := ⟨_, rfl⟩
  have HSL : Hid (D.safe.length = 64 * n ∧ n ≤ 16384) := by rw [HN.out]; exact ⟨hm.ok.size.1, hm.ok.size.2.2⟩
  have HMK : Hid (N ≤ N ∧ N < 281474976710600) := ⟨Nat.le_refl _, by have h1 := HNN.out; have h2 := HSL.out.2; omega⟩
  clear hm hw2
  have f1 : IntKind.i64.wrap ((n : Int) * 64) = (N : Int) := by rw [IntKind.wrap_i64]; have h1 := HNN.out; have h2 := HSL.out.2; omega
  go_enter Tryz.func25, Tryz.ntmps25
  have tk0 : Hid True := trivial
  go_wp2_with (first
    | (clear tk0; with_reducible refine wpSeq_make (.tmp 12) (.tmp 12) N N HMK.out.1 HMK.out.2 ?_ ?_ ?_ ?_ ?_
       · rfl
       · rfl
       · rfl
       · rfl
       intro gb y1 z hz hge hzb hzl
       have HGE : Hid (w.heap.size ≤ gb) := hge
       have HBZ : Hid (Blk y1 gb (cb z) 5) := hzb
       have HBW : Hid (Below w.heap.size w y1) := hzl
       have HZL : Hid (z.length = 64 * n) := by show _ = _; rw [hz, List.length_replicate, HNN.out]
       have HME1 : Hid (Blk y1 g [.slice (some ⟨gs, 0, none⟩) n n, .slice aw nw cw, .bool dn, .bool fu, .int .i64 lf] 94) := HME.out.below hzl HME.out.lt
       replace c0 : y1.cell? ⟨g, 0, none⟩ = some (.slice (some ⟨gs, 0, none⟩) n n) := HME1.out.cell 0
       clear hz hge hzb hzl))
  clear c0 f1 HME1
  go_loopw [19] (fun i wr => ∃ k : Nat, k ≤ n ∧ i = .int .i64 (k : Int) ∧ Hid (Blk wr gb (cb (upTo D.safe z k)) 5) ∧ Hid (Below w.heap.size w wr)) (fun i _ => n - (intOf i).toNat)
  case atStart => exact ⟨0, Nat.zero_le _, rfl, by rw [upTo_zero]; exact HBZ, HBW⟩
  case round =>
    obtain ⟨k, hkn, rfl, HBK, HBB⟩ := hrel
    clear HBZ HBW
    have HMEr : Hid (Blk wr g [.slice (some ⟨gs, 0, none⟩) n n, .slice aw nw cw, .bool dn, .bool fu, .int .i64 lf] 94) := HME.out.below HBB.out HME.out.lt
    by_cases hlt : k < n
    case pos =>
      have hlk : (k : Int) < (n : Int) := by omega
      have f5 : IntKind.i64.wrap ((k : Int) + 1) = (k : Int) + 1 := by rw [IntKind.wrap_i64]; have := HSL.out.2; omega
      obtain ⟨o, HOO⟩ : ∃ o : Nat, Hid (o = 64 * k) := ⟨_, rfl⟩
      have f6 : IntKind.i64.wrap ((k : Int) * 64) = (o : Int) := by rw [IntKind.wrap_i64]; have := HSL.out.2; have := HOO.out; omega
      have HKN : Hid (k < n) := hlt
      have HON : Hid (o < N ∧ 64 ≤ N - o) := by have h1 := HOO.out; have h2 := HNN.out; exact ⟨by omega, by omega⟩
      have HS6 : Hid ((secD D.safe k).length = 64) := sec_len (by rw [HSL.out.1]; omega)
      go_wp2_with fail
      refine wp_region_held_drew (S := fun wx => Blk wx g [.slice (some ⟨gs, 0, none⟩) n n, .slice aw nw cw, .bool dn, .bool fu, .int .i64 lf] 94) (by kernel_rfl) HMEr.out.drew ?_
      intro hS
      have HB3 : Hid (Blk wr.drew gb (cb (upTo D.safe z k)) 5) := HBK.out.drew
      have HBB3 : Hid (Below w.heap.size w wr.drew) := HBB.out.drew
      clear HBK HBB HMEr
      change wpAnyH _ _ _ _ _ _ _ _ (World.drew wr)
      generalize World.drew wr = y3 at *
      refine wpAnyH_take (i := 0) (v := .slice (some ⟨gb, 0, none⟩) N N) rfl (by kernel_rfl) (by kernel_rfl) (by kernel_rfl) (fun _ _ _ h => h) (Or.inl ⟨by rfl, fun wx hx => by simp [go_sem]⟩) hS ?_
      simp only [Act.put, List.getElem_toArray, List.getElem_cons_zero, List.setIfInBounds_toArray, List.set_cons_zero, List.set_cons_succ]
      refine wpAnyH_take (i := 1) (v := .int .i64 (k : Int)) rfl (by kernel_rfl) (by kernel_rfl) (by kernel_rfl) (fun _ _ _ h => h) (Or.inl ⟨by rfl, fun wx hx => by simp [go_sem]⟩) hS ?_
      simp only [Act.put, List.getElem_toArray, List.getElem_cons_succ, List.getElem_cons_zero, List.setIfInBounds_toArray, List.set_cons_zero, List.set_cons_succ]
      refine wpAnyH_take (i := 2) (v := .int .i64 (o : Int)) rfl (by kernel_rfl) (by kernel_rfl) (by kernel_rfl) (fun _ _ _ h => h) (Or.inl ⟨by rfl, fun wx hx => by simp [go_sem, f6]⟩) hS ?_
      simp only [Act.put, List.getElem_toArray, List.getElem_cons_succ, List.getElem_cons_zero, List.setIfInBounds_toArray, List.set_cons_zero, List.set_cons_succ]
      refine wpAnyH_take (i := 3) (v := .slice (some ⟨gb, 0 + o, none⟩) (N - o) (N - o)) rfl (by kernel_rfl) (by kernel_rfl) (by kernel_rfl) (fun _ _ _ h => h) (Or.inl ⟨by rfl, fun wx hx => by exact cutFrom gb 0 N N o HON.out.1 (Nat.le_refl _) _ _ _ _ rfl rfl rfl _⟩) hS ?_
      simp only [Act.put, List.getElem_toArray, List.getElem_cons_succ, List.getElem_cons_zero, List.setIfInBounds_toArray, List.set_cons_zero, List.set_cons_succ]
      refine wpAnyH_take (i := 4) (v := .pointer (some ⟨g, 0, none⟩)) rfl (by kernel_rfl) (by kernel_rfl) (by kernel_rfl) (fun _ _ _ h => h) (Or.inl ⟨by rfl, fun wx hx => by simp [go_sem]⟩) hS ?_
      simp only [Act.put, List.getElem_toArray, List.getElem_cons_succ, List.getElem_cons_zero, List.setIfInBounds_toArray, List.set_cons_zero, List.set_cons_succ]
      refine wpAnyH_take (i := 5) (v := .pointer (some ⟨g, 0, none⟩)) rfl (by kernel_rfl) (by kernel_rfl) (by kernel_rfl) (fun _ _ _ h => h) (Or.inl ⟨by rfl, fun wx hx => by simp [go_sem]⟩) hS ?_
      simp only [Act.put, List.getElem_toArray, List.getElem_cons_succ, List.getElem_cons_zero, List.setIfInBounds_toArray, List.set_cons_zero, List.set_cons_succ]
      refine wpAnyH_take (i := 6) (v := .pointer (some ⟨g, 0, none⟩)) rfl (by kernel_rfl) (by kernel_rfl) (by kernel_rfl) (fun _ _ _ h => h) (Or.inl ⟨by rfl, fun wx hx => by simp [go_sem]⟩) hS ?_
      simp only [Act.put, List.getElem_toArray, List.getElem_cons_succ, List.getElem_cons_zero, List.setIfInBounds_toArray, List.set_cons_zero, List.set_cons_succ]
      refine wpAnyH_take (i := 7) (v := .slice (some ⟨gs, 0, none⟩) n n) rfl (by kernel_rfl) (by kernel_rfl) (by kernel_rfl) (fun _ _ _ h => h) (Or.inl ⟨by rfl, fun wx hx => by (have hc := hx.cell 0; simp at hc; simp [go_sem, hc])⟩) hS ?_
      simp only [Act.put, List.getElem_toArray, List.getElem_cons_succ, List.getElem_cons_zero, List.setIfInBounds_toArray, List.set_cons_zero, List.set_cons_succ]
      refine wpAnyH_take (i := 8) (v := .int .i64 (k : Int)) rfl (by kernel_rfl) (by kernel_rfl) (by kernel_rfl) (fun _ _ _ h => h) (Or.inl ⟨by rfl, fun wx hx => by simp [go_sem]⟩) hS ?_
      simp only [Act.put, List.getElem_toArray, List.getElem_cons_succ, List.getElem_cons_zero, List.setIfInBounds_toArray, List.set_cons_zero, List.set_cons_succ]
      refine wpAnyH_take (i := 9) (v := .pointer (some ⟨gs, 64 * k, none⟩)) rfl (by kernel_rfl) (by kernel_rfl) (by kernel_rfl) (fun _ _ _ h => h) (Or.inl ⟨by rfl, fun wx hx => by exact idxSec gs n k HKN.out _ _ _ _ rfl rfl rfl _⟩) hS ?_
      simp only [Act.put, List.getElem_toArray, List.getElem_cons_succ, List.getElem_cons_zero, List.setIfInBounds_toArray, List.set_cons_zero, List.set_cons_succ]
      refine wpAnyH_take (i := 10) (v := .slice (some ⟨gs, 64 * k, none⟩) 64 64) rfl (by kernel_rfl) (by kernel_rfl) (by kernel_rfl) (fun _ _ _ h => h) (Or.inl ⟨by rfl, fun wx hx => by exact sliceSec gs (64 * k) _ _ _ rfl rfl _⟩) hS ?_
      simp only [Act.put, List.getElem_toArray, List.getElem_cons_succ, List.getElem_cons_zero, List.setIfInBounds_toArray, List.set_cons_zero, List.set_cons_succ]
      have hsf := (HM.out.below HBB3.out).sf
      refine wpAnyH_copyO 11 (.tmp 25) (.tmp 32) gb (0 + o) (N - o) (N - o) gs (64 * k) 64 64 5 _ (secD D.safe k) HB3.out (by rw [HS6.out]; have := HON.out.2; omega) (by rw [HS6.out, cb_len, upTo_len HSL.out.1 HZL.out (Nat.le_of_lt HKN.out)]; have h1 := HON.out; have h2 := HNN.out; omega) (range_cells (sec_range hsf (by rw [HSL.out.1]; have := HKN.out; omega))) (by kernel_rfl) rfl (by rfl) rfl rfl rfl ?_
      intro y4 hb4 ho4
      refine ⟨hS.only ho4 (hS.neT HB3.out (by decide)), ?_⟩
      have HB4 : Hid (Blk y4 gb (cb (upTo D.safe z (k + 1))) 5) := by
        rw [Nat.zero_add, HOO.out, lay_sec HS6.out, upTo_step HSL.out.1 HKN.out] at hb4
        exact hb4
      have HBB4 : Hid (Below w.heap.size w y4) := HBB3.out.trans (ho4.below HGE.out HBB3.out.size)
      clear hb4 ho4 hsf hS HB3 HBB3
      simp only [Act.put, List.getElem_toArray, List.getElem_cons_succ, List.getElem_cons_zero]
      refine wpAnyH_done (by kernel_rfl) ?_ _
      go_wp2
      go_roundw
      case rel => exact ⟨k + 1, by omega, by simp, HB4, HBB4⟩
      case measure => simp [intOf]; omega
    case neg =>
      have hlk : ¬ ((k : Int) < (n : Int)) := by omega
      obtain rfl : k = n := by omega
      have HB2 : Hid (Blk wr gb (cb (dumpW D.safe (D.wait.take 0))) 5) := by
        have h9 := HBK.out
        rw [upTo_all HSL.out.1 HZL.out] at h9
        exact h9
      have c1 : wr.cell? ⟨g, 1, none⟩ = some (.slice aw nw cw) := HMEr.out.cell 1
      clear HBK hkn hlt
      go_wp2_with fail
      clear c1 HMEr
      obtain ⟨n, HNK⟩ : ∃ n, Hid (n = k) := ⟨_, rfl⟩
      go_loopw [40] (fun i wr => ∃ j : Nat, j ≤ nw ∧ i = .int .i64 (j : Int) ∧ Hid (Blk wr gb (cb (dumpW D.safe (D.wait.take j))) 5) ∧ Hid (Below w.heap.size w wr)) (fun i _ => nw - (intOf i).toNat)
      case atStart => exact ⟨0, Nat.zero_le _, rfl, HB2, HBB⟩
      case round =>
        obtain ⟨j, hjn, rfl, HBK, HBB⟩ := hrel
        clear HB2
        have HMr : Hid (DkM wr g gs (.slice aw nw cw) fu lf D) := HM.out.below HBB.out
        by_cases hlt : j < nw
        case neg =>
          have hlk : ¬ ((j : Int) < (nw : Int)) := by omega
          have HBD : Hid (Blk wr gb (cb (dumpD D)) 5) := by
            have h9 := HBK.out
            rw [List.take_of_length_le (by rw [← HNW.out]; omega)] at h9
            exact h9
          have HLN : Hid ((dumpD D).length = N) := by show _ = _; rw [len_dumpD HOK.out, HSL.out.1, HNN.out]
          go_wp2
          go_ret
          exact ⟨_, rfl, HBD.out.reads HLN.out.symm (by rw [HLN.out]; exact Nat.le_refl _), HBB.out⟩
        case pos =>
          have hlk : (j : Int) < (nw : Int) := by omega
          have HKN : Hid (j < nw) := hlt
          have HLT : Hid (j < D.wait.length) := by show _ < _; rw [← HNW.out]; exact hlt
          have f5 : IntKind.i64.wrap ((j : Int) + 1) = (j : Int) + 1 := by rw [IntKind.wrap_i64]; have := HW2.out; omega
          obtain ⟨hmem, htk⟩ := getD_memV2 HLT.out
          obtain ⟨b, rfl, hat⟩ := HMr.out.wt.at (fun p hp => (HOK.out.wait p hp).2) (Nat.lt_of_le_of_lt (Nat.zero_le _) HLT.out)
          have hrg := hat j HLT.out
          replace hrg : wr.rangeAt b (j * 65) (wrC (D.wait.getD j (0, []))) := hrg
          obtain ⟨p, HPP⟩ : ∃ p, Hid (p = D.wait.getD j (0, [])) := ⟨_, rfl⟩
          rw [← HPP.out] at hmem htk hrg
          have HRG : Hid (wr.rangeAt b (j * 65) (wrC p)) := hrg
          have HTK : Hid (dumpW D.safe (D.wait.take (j + 1)) = layD (dumpW D.safe (D.wait.take j)) p.1 p.2 64) := by show _ = _; rw [htk, dumpW_snoc]
          have HPW : Hid (p.1 < k ∧ p.2.length = 64) := by rw [HN.out]; exact HOK.out.wait p hmem
          have HP6 : Hid (p.2.length = 64) := HPW.out.2
          have HWL : Hid ((wrC p).length = (wrC (0, zs64)).length) := by show _ = _; rw [wrC_len HP6.out, wrC_len (p := (0, zs64)) len_zs64]
          have HLN : Hid ((dumpW D.safe (D.wait.take j)).length = N) := by
            show _ = _
            rw [len_dumpW _ _ HOK.out.size.1 (fun q hq => HOK.out.wait q (List.mem_of_mem_take hq)), HNN.out, HN.out]
          obtain ⟨o, HOO⟩ : ∃ o : Nat, Hid (o = 64 * p.1) := ⟨_, rfl⟩
          have f6 : IntKind.i64.wrap ((p.1 : Int) * 64) = (o : Int) := by rw [IntKind.wrap_i64]; have := HSL.out.2; have := HOO.out; have := HPW.out.1; omega
          have HON : Hid (o < N ∧ 64 ≤ N - o) := by have h1 := HOO.out; have h2 := HNN.out; have h3 := HPW.out.1; exact ⟨by omega, by omega⟩
          clear hat hrg hmem htk
          have tk1 : Hid True := trivial
          have tk2 : Hid True := trivial
          have tk3 : Hid True := trivial
          have tk4 : Hid True := trivial
          go_wp2_with (first
    | (clear tk1; with_reducible refine wpSeq_idxWr (.tmp 38) (.tmp 40) b nw cw j HKN.out ?_ ?_ ?_ ?_ ?_
       · rfl
       · rfl
       · rfl
       · rfl)
    | (clear tk2; with_reducible refine wpSeq_loadW 109 (.tmp 42) b (j * 65) (wrC p) _ HRG.out Tryz.underlying109 rfl (sz_wr HP6.out) ?_ ?_ ?_ ?_
       · rfl
       · rfl
       · rfl)
    | (clear tk3; with_reducible refine wpSeq_allocDw ?_ ?_ ?_
       · rfl
       · rfl
       intro g6 y1 nn
       have HG6 : Hid (Blk y1 g6 (wrC (0, zs64)) 109) := nn.blk
       have HBW : Hid (Below wr.heap.size wr y1) := nn.below
       have HG6E : Hid (wr.heap.size ≤ g6) := nn.ge
       clear nn)
    | (clear tk4; with_reducible refine wpSeq_storeRow 109 (.tmp 6) (.tmp 43) g6 (wrC (0, zs64)) (wrC p) HG6.out HWL.out (sz_wr HP6.out) (wrC_one _) ?_ ?_ ?_ ?_ ?_
       · rfl
       · rfl
       · rfl
       · rfl
       intro y2 hs
       replace HG6 : Hid (Blk y2 g6 (wrC p) 109) := hs.blk
       replace HBW : Hid (Below wr.heap.size wr y2) := HBW.out.trans (hs.only.below HG6E.out HBW.out.size)
       clear hs)
    | fail)
          refine wp_region_held_drew (S := fun wx => Blk wx g6 (wrC p) 109) (by kernel_rfl) HG6.out.drew ?_
          intro hS
          have HB3 : Hid (Blk y2.drew gb (cb (dumpW D.safe (D.wait.take j))) 5) := HBK.out.below HBW.out.drew HBK.out.lt
          have HBB3 : Hid (Below w.heap.size w y2.drew) := HBB.out.trans (HBW.out.drew.mono HBB.out.size)
          clear HBK HBB HBW HG6 HG6E HRG HMr
          change wpAnyH _ _ _ _ _ _ _ _ (World.drew y2)
          generalize World.drew y2 = y3 at *
          refine wpAnyH_take (i := 0) (v := .slice (some ⟨gb, 0, none⟩) N N) rfl (by kernel_rfl) (by kernel_rfl) (by kernel_rfl) (fun _ _ _ h => h) (Or.inl ⟨by rfl, fun wx hx => by simp [go_sem]⟩) hS ?_
          simp only [Act.put, List.getElem_toArray, List.getElem_cons_zero, List.setIfInBounds_toArray, List.set_cons_zero, List.set_cons_succ]
          refine wpAnyH_take (i := 1) (v := .pointer (some ⟨g6, 0, none⟩)) rfl (by kernel_rfl) (by kernel_rfl) (by kernel_rfl) (fun _ _ _ h => h) (Or.inl ⟨by rfl, fun wx hx => by simp [go_sem]⟩) hS ?_
          simp only [Act.put, List.getElem_toArray, List.getElem_cons_succ, List.getElem_cons_zero, List.setIfInBounds_toArray, List.set_cons_zero, List.set_cons_succ]
          refine wpAnyH_take (i := 2) (v := .int .i64 (p.1 : Int)) rfl (by kernel_rfl) (by kernel_rfl) (by kernel_rfl) (fun _ _ _ h => h) (Or.inl ⟨by rfl, fun wx hx => by (have hc : wx.cell? ⟨g6, 0, none⟩ = some (.int .i64 (p.1 : Int)) := hx.cell 0; simp [go_sem, hc])⟩) hS ?_
          simp only [Act.put, List.getElem_toArray, List.getElem_cons_succ, List.getElem_cons_zero, List.setIfInBounds_toArray, List.set_cons_zero, List.set_cons_succ]
          refine wpAnyH_take (i := 3) (v := .int .i64 (o : Int)) rfl (by kernel_rfl) (by kernel_rfl) (by kernel_rfl) (fun _ _ _ h => h) (Or.inl ⟨by rfl, fun wx hx => by simp [go_sem, f6]⟩) hS ?_
          simp only [Act.put, List.getElem_toArray, List.getElem_cons_succ, List.getElem_cons_zero, List.setIfInBounds_toArray, List.set_cons_zero, List.set_cons_succ]
          refine wpAnyH_take (i := 4) (v := .slice (some ⟨gb, 0 + o, none⟩) (N - o) (N - o)) rfl (by kernel_rfl) (by kernel_rfl) (by kernel_rfl) (fun _ _ _ h => h) (Or.inl ⟨by rfl, fun wx hx => by exact cutFrom gb 0 N N o HON.out.1 (Nat.le_refl _) _ _ _ _ rfl rfl rfl _⟩) hS ?_
          simp only [Act.put, List.getElem_toArray, List.getElem_cons_succ, List.getElem_cons_zero, List.setIfInBounds_toArray, List.set_cons_zero, List.set_cons_succ]
          refine wpAnyH_take (i := 5) (v := .pointer (some ⟨g6, 1, none⟩)) rfl (by kernel_rfl) (by kernel_rfl) (by kernel_rfl) (fun _ _ _ h => h) (Or.inl ⟨by rfl, fun wx hx => by simp [go_sem]⟩) hS ?_
          simp only [Act.put, List.getElem_toArray, List.getElem_cons_succ, List.getElem_cons_zero, List.setIfInBounds_toArray, List.set_cons_zero, List.set_cons_succ]
          refine wpAnyH_take (i := 6) (v := .slice (some ⟨g6, 1, none⟩) 64 64) rfl (by kernel_rfl) (by kernel_rfl) (by kernel_rfl) (fun _ _ _ h => h) (Or.inl ⟨by rfl, fun wx hx => by exact sliceSec g6 1 _ _ _ rfl rfl _⟩) hS ?_
          simp only [Act.put, List.getElem_toArray, List.getElem_cons_succ, List.getElem_cons_zero, List.setIfInBounds_toArray, List.set_cons_zero, List.set_cons_succ]
          refine wpAnyH_copyO 7 (.tmp 48) (.tmp 50) gb (0 + o) (N - o) (N - o) g6 1 64 64 5 _ p.2 HB3.out (by rw [HP6.out]; have := HON.out.2; omega) (by rw [HP6.out, cb_len, HLN.out]; have h1 := HON.out; omega) (range_cells (range_tail (off := 0) (Blk.range hS))) (by kernel_rfl) rfl (by rfl) rfl rfl rfl ?_
          intro y4 hb4 ho4
          refine ⟨hS.only ho4 (hS.neT HB3.out (by decide)), ?_⟩
          have HB4 : Hid (Blk y4 gb (cb (dumpW D.safe (D.wait.take (j + 1)))) 5) := by
            rw [Nat.zero_add, HOO.out, lay_sec HP6.out, ← HTK.out] at hb4
            exact hb4
          have HBB4 : Hid (Below w.heap.size w y4) := HBB3.out.trans (ho4.below HGE.out HBB3.out.size)
          clear hb4 ho4 hS HB3 HBB3
          simp only [Act.put, List.getElem_toArray, List.getElem_cons_succ, List.getElem_cons_zero]
          refine wpAnyH_done (by kernel_rfl) ?_ _
          go_wp2
          go_roundw
          case rel => exact ⟨j + 1, by omega, by simp, HB4, HBB4⟩
          case measure => simp [intOf]; omega
/-- where JournalDoes' loop stands -/
structure DoI (Lg : World → Nat → (Nat → Prop) → Nat → Nat → JnT → Prop) (w : World) (gd lg N i : Nat) (wv : Value) (P Q : Nat → Prop) (D : DkT) (J : JnT) (W : World) : Prop where
  pk : Pk Lg W gd lg P Q D J
  log : Log D J
  size : sizeD D = N
  gen : J.gen ≤ i + 1
  want : StaL (Un P Q) W wv J.l
  bel : Below w.heap.size w W
  own : ∀ k, Un P Q k → w.heap.size ≤ k
theorem Log.len {D : DkT} {J : JnT} (h : Log D J) (hs : sizeD D ≤ 100) : J.l.length ≤ 1000 ∧ sizeL J.l ≤ 6400 := by
  have h1 := h.fits
  have h2 := sizeL_ge J.l
  have h3 := sizeL_eq J.l
  unfold hsD at h1
  exact ⟨by omega, by omega⟩
end Go.Proofs.YtopmeedmgjdcgaaGreatDoor
/- The walk of journal's Open, as it landed (layer 14). -/
namespace Go.Proofs.YtopmeedmgjdcgaaGreatDoor
open Go.RowKit
set_option maxRecDepth 100000
/-- what is written where a log is opened, and the log -/
def openG (D : DkT) : List (Option (Nat × Bs)) × JnT :=
  if (pickB (dumpD D)).2 = 0 then (anewS (hsD D) 0 1 [], ⟨0, 1, []⟩)
  else if ∀ z ∈ (halfB (dumpD D) (pickB (dumpD D)).1).drop (recsOf (pickB (dumpD D)).2 (halfB (dumpD D) (pickB (dumpD D)).1)).2, z = 0 then ([], ⟨(pickB (dumpD D)).1, (pickB (dumpD D)).2, (recsOf (pickB (dumpD D)).2 (halfB (dumpD D) (pickB (dumpD D)).1)).1⟩)
  else (anewS (hsD D) (1 - (pickB (dumpD D)).1) (gN (pickB (dumpD D)).2) (recsOf (pickB (dumpD D)).2 (halfB (dumpD D) (pickB (dumpD D)).1)).1, ⟨1 - (pickB (dumpD D)).1, gN (pickB (dumpD D)).2, (recsOf (pickB (dumpD D)).2 (halfB (dumpD D) (pickB (dumpD D)).1)).1⟩)
theorem openG_eq {D : DkT} (h : (pickB (dumpD D)).2 + 1 < 18446744073709551616) : openG D = openS D := by
  unfold openG openS
  rw [gN_eq h]
theorem box_agg (f : Operand → Value) (o : Oper) (ty : TypeId) (x : Operand) (cs : List Value) (ho : o.op = .box ty x) (hx : f x = .agg cs.toArray) (w : World) : (execOp f o).run Tryz.prog w = .ok (.value (.pointer (some ⟨w.heap.size, 0, none⟩))) (w.alloc (.cells cs.toArray ty)) := by
  unfold execOp
  rw [ho]
  simp only [hx]
  rfl
theorem built_lg (gd hs k gen u : Nat) (ad : Option Addr) (n c : Nat) (ps : List (Nat × Value)) (h : ps = [(0, wrF gd), (1, syF gd), (2, .int .i64 (hs : Int)), (4, .agg (ctC k gen (.slice ad n c) u).toArray)]) : Tryz.prog.built 144 ps = some (lgC gd hs 0 k gen (.slice ad n c) u).toArray := by subst h; kernel_rfl
/-- a log opened -/
structure OpA (w : World) (gd : Nat) (P : Nat → Prop) (n : Nat) (DX : DkT) (JX : JnT) (P' : Nat → Prop) (lv : Value) (x : Int) (w' : World) : Prop where
  dk : DkIs w' gd P' DX
  mv : Mut P w w'
  gr : Grew w P P'
  lg : x = 0 → ∃ lg Q, lv = .pointer (some ⟨lg, 0, none⟩) ∧ LgJ w' lg Q gd n JX ∧ ∀ k, Q k → w.heap.size ≤ k ∧ ¬ P' k
set_option maxRecDepth 100000 in
set_option maxHeartbeats 8000000 in
theorem jOpen_small {w : World} {gd : Nat} {P : Nat → Prop} {D : DkT} (hdk : DkIs w gd P D) (h8 : sizeD D < 8) : Calls Tryz.prog 63 #[.pointer (some ⟨gd, 0, none⟩)] w fun e w' => e = .returned (.tuple #[.pointer none, .int .i64 1]) ∧ w' = w := by
  obtain ⟨n, HN⟩ : ∃ n, Hid (n = sizeD D) := ⟨_, rfl⟩
  have HSZ : Hid (Calls Tryz.prog 22 #[.pointer (some ⟨gd, 0, none⟩)] w fun r w' => r = .returned (.int .i64 (n : Int)) ∧ w' = w) := by rw [HN.out]; exact dkSize_pure hdk
  have hn : (n : Int) < 8 := by have := HN.out; omega
  clear hdk h8
  go_enter Tryz.func63, Tryz.ntmps63
  have tk0 : Hid True := trivial
  go_wp2_with (first
    | (clear tk0; go_at_call 22; refine HSZ.out.mono ?_; rintro e0 y1 ⟨rfl, hy1⟩; subst hy1))
  refine bodyPost_ret (results_tmp2 rfl _ _ _) rfl ?_
  exact ⟨rfl, rfl⟩
set_option maxRecDepth 100000 in
set_option maxHeartbeats 8000000 in
theorem jOpen_any {w : World} {gd : Nat} {P : Nat → Prop} {D : DkT} (hK : KOk w) (hdk : DkIs w gd P D) (hwt : D.wait = []) (hsz : sizeD D ≤ 100) (h8 : 8 ≤ sizeD D) : Calls Tryz.prog 63 #[.pointer (some ⟨gd, 0, none⟩)] w fun e w' => ∃ P' lv, e = .returned (.tuple #[lv, .int .i64 (runJ D (openG D).1).2]) ∧ OpA w gd P (sizeD D) (runJ D (openG D).1).1 (openG D).2 P' lv (runJ D (openG D).1).2 w' := by
  obtain ⟨X, HX⟩ : ∃ z, Hid (z = (runJ D (openG D).1).2) := ⟨_, rfl⟩
  obtain ⟨DX, HDX⟩ : ∃ z, Hid (z = (runJ D (openG D).1).1) := ⟨_, rfl⟩
  obtain ⟨JX, HJX⟩ : ∃ z, Hid (z = (openG D).2) := ⟨_, rfl⟩
  rw [← HX.out, ← HDX.out, ← HJX.out]
  obtain ⟨n, HN⟩ : ∃ n, Hid (n = sizeD D) := ⟨_, rfl⟩
  obtain ⟨hs, HHS⟩ : ∃ m, Hid (m = n / 2) := ⟨_, rfl⟩
  obtain ⟨b, HB⟩ : ∃ b, Hid (b = dumpD D) := ⟨_, rfl⟩
  rw [← HN.out] at hsz h8 ⊢
  have HOKD : Hid (okD D) := by obtain ⟨_, _, _, _, hm, _⟩ := hdk; exact hm.ok
  have HBL : Hid (b.length = 64 * n) := by show _ = _; rw [HB.out, len_dumpD HOKD.out, HOKD.out.size.1, HN.out]
  have HOB : Hid (okB b) := by show okB b; have h := HBL.out; unfold okB; omega
  have HHH : Hid (hsD D = hs) := by show sizeD D / 2 = hs; rw [← HN.out]; exact HHS.out.symm
  have HNH : Hid (halfN b = 64 * hs) := by show _ = _; have h := HBL.out; have h2 := HHS.out; rw [halfN]; omega
  have HDK : Hid (DkIs w gd P D) := hdk
  have HWT : Hid (D.wait = []) := hwt
  have HK : Hid (KOk w) := hK
  have HBD : Hid (4 ≤ hs ∧ hs ≤ 50 ∧ n ≤ 100 ∧ 8 ≤ n) := by have h := HHS.out; exact ⟨by omega, by omega, by omega, by omega⟩
  have HLT : Hid (∀ k, P k → k < w.heap.size) := hdk.lt14
  have f1 : ¬ ((n : Int) < 8) := by omega
  have f2 : IntKind.i64.wrap ((n : Int) / 2) = (hs : Int) := by rw [IntKind.wrap_i64]; have := HHS.out; omega
  clear hdk hwt hsz h8 hK
  have HSZ : Hid (∀ W, Below w.heap.size w W → Calls Tryz.prog 22 #[.pointer (some ⟨gd, 0, none⟩)] W fun r w' => r = .returned (.int .i64 (n : Int)) ∧ w' = W) := fun W hW => by rw [HN.out]; exact dkSize_pure (HDK.out.same14 (fun k hk => hW.block k (HLT.out k hk)))
  have HDU : Hid (Calls Tryz.prog 25 #[.pointer (some ⟨gd, 0, none⟩)] w fun r w' => ∃ v, r = .returned v ∧ Reads w' v b ∧ Below w.heap.size w w') := by rw [HB.out]; exact dkDump_b HDK.out (by rw [HWT.out]; decide)
  go_enter Tryz.func63, Tryz.ntmps63
  have tk0 : Hid True := trivial
  have tk1 : Hid True := trivial
  have tk2 : Hid True := trivial
  have tk3 : Hid True := trivial
  have tk4 : Hid True := trivial
  go_upto_region 4 with (first
    | (clear tk0; go_at_call 22; refine (HSZ.out _ (Below.refl _ _)).mono ?_; rintro e0 y1 ⟨rfl, hy1⟩; have hy2 := hy1.symm; clear hy1; subst hy2)
    | (clear tk1; go_at_call 25; refine HDU.out.mono ?_; rintro e0 y1 ⟨v1, rfl, hr, hz⟩
       obtain ⟨ad, cp, hv, hcp, _, hx⟩ := id hr
       obtain ⟨bb, off, rfl, _⟩ := hx (by have h1 := HBL.out; have h2 := HBD.out; omega)
       subst hv
       obtain ⟨L, HLL⟩ : ∃ m, Hid (m = b.length) := ⟨_, rfl⟩
       rw [← HLL.out] at hr ⊢
       have HRD : Hid (Reads y1 (.slice (some ⟨bb, off, none⟩) L cp) b) := hr
       have HBW : Hid (Below w.heap.size w y1) := hz
       clear hr hz hcp hx)
    | (clear tk2; go_at_call 88; refine (jLook_any bb off L cp b HOB.out (by have h1 := HBL.out; have h2 := HBD.out; omega) _ (HK.out.below HBW.out HK.out.lt) HRD.out).mono ?_; rintro e0 y2 ⟨k, gen, vr, us, u, cl, rfl, hlk⟩
       obtain ⟨a1, n1, c1, hvr⟩ : ∃ a n c, vr = .slice a n c := by
         by_cases hg : gen = 0
         · exact ⟨_, _, _, (hlk.z hg).1⟩
         · obtain ⟨a, c, hv, _⟩ := (hlk.nz hg).1.readsL; exact ⟨_, _, _, hv⟩
       subst hvr
       have HLK : Hid (LookA y1 b k gen (.slice a1 n1 c1) us u cl y2) := hlk
       have HBW2 : Hid (Below w.heap.size w y2) := HBW.out.trans (hlk.bel.mono HBW.out.size)
       clear hlk)
    | (clear tk3; with_reducible refine wpSeq_allocCt ?_ ?_ ?_
       · rfl
       · rfl
       intro g4 y3 nn
       have H4 : Hid (Blk y3 g4 ctZ 138) := nn.blk
       have HG4 : Hid (w.heap.size ≤ g4 ∧ y2.heap.size ≤ g4) := ⟨Nat.le_trans HBW2.out.size nn.ge, nn.ge⟩
       have HBW3 : Hid (Below y2.heap.size y2 y3) := nn.below
       clear nn)
    | (clear tk4; with_reducible refine wpSeq_storeRow 138 (.tmp 4) (.tmp 19) g4 ctZ (ctC k gen (.slice a1 n1 c1) u) H4.out (len_ctZ _ _ _ _) (info_ct _ _ _ _) (ct_one _ _ _ _ _ _) ?_ ?_ ?_ ?_ ?_
       · rfl
       · rfl
       · rfl
       · rfl
       intro y4 hs4
       have HB4 : Hid (Blk y4 g4 (ctC k gen (.slice a1 n1 c1) u) 138) := hs4.blk
       have HBW4 : Hid (Below y2.heap.size y2 y4) := HBW3.out.trans (hs4.only.below HG4.out.2 HBW3.out.size)
       clear hs4))
  have HBY : Hid (Below y2.heap.size y2 (World.drew y4)) := HBW4.out.drew
  clear H4 HBW3 HBW4 HRD HDU
  refine wp_region_held_drew (S := fun wx => Blk wx g4 (ctC k gen (.slice a1 n1 c1) u) 138) (by kernel_rfl) HB4.out.drew ?_
  intro hS
  clear HB4
  change wpAnyH _ _ _ _ _ _ _ _ (World.drew y4)
  generalize World.drew y4 = y5 at *
  have HBZ : Hid (Below w.heap.size w y5) := HBW2.out.trans (HBY.out.mono HBW2.out.size)
  refine wpAnyH_take (i := 0) (v := .pointer (some ⟨gd, 0, none⟩)) rfl (by kernel_rfl) (by kernel_rfl) (by kernel_rfl) (fun _ _ _ h => h) (Or.inl ⟨by rfl, fun wx hx => by simp [go_sem]⟩) hS ?_
  simp only [Act.put, List.getElem_toArray, List.getElem_cons_zero, List.setIfInBounds_toArray, List.set_cons_zero, List.set_cons_succ]
  refine wpAnyH_take (i := 1) (v := wrF gd) rfl (by kernel_rfl) (by kernel_rfl) (by kernel_rfl) (fun _ _ _ h => h) (Or.inl ⟨by rfl, fun wx hx => by simp [go_sem, wrF]⟩) hS ?_
  simp only [Act.put, List.getElem_toArray, List.getElem_cons_succ, List.getElem_cons_zero, List.setIfInBounds_toArray, List.set_cons_zero, List.set_cons_succ]
  refine wpAnyH_take (i := 2) (v := .pointer (some ⟨gd, 0, none⟩)) rfl (by kernel_rfl) (by kernel_rfl) (by kernel_rfl) (fun _ _ _ h => h) (Or.inl ⟨by rfl, fun wx hx => by simp [go_sem]⟩) hS ?_
  simp only [Act.put, List.getElem_toArray, List.getElem_cons_succ, List.getElem_cons_zero, List.setIfInBounds_toArray, List.set_cons_zero, List.set_cons_succ]
  refine wpAnyH_take (i := 3) (v := syF gd) rfl (by kernel_rfl) (by kernel_rfl) (by kernel_rfl) (fun _ _ _ h => h) (Or.inl ⟨by rfl, fun wx hx => by simp [go_sem, syF]⟩) hS ?_
  simp only [Act.put, List.getElem_toArray, List.getElem_cons_succ, List.getElem_cons_zero, List.setIfInBounds_toArray, List.set_cons_zero, List.set_cons_succ]
  refine wpAnyH_take (i := 4) (v := .pointer (some ⟨gd, 0, none⟩)) rfl (by kernel_rfl) (by kernel_rfl) (by kernel_rfl) (fun _ _ _ h => h) (Or.inl ⟨by rfl, fun wx hx => by simp [go_sem]⟩) hS ?_
  simp only [Act.put, List.getElem_toArray, List.getElem_cons_succ, List.getElem_cons_zero, List.setIfInBounds_toArray, List.set_cons_zero, List.set_cons_succ]
  refine wpAnyH_take (i := 7) (v := .agg (ctC k gen (.slice a1 n1 c1) u).toArray) rfl (by kernel_rfl) (by kernel_rfl) (by kernel_rfl) (fun _ _ _ h => h) (Or.inl ⟨by rfl, fun wx hx => by exact load_run 138 (.tmp 4) rfl g4 0 rfl (ctC k gen (.slice a1 n1 c1) u) _ hx.range Tryz.underlying138 rfl (info_ct _ _ _ _)⟩) hS ?_
  simp only [Act.put, List.getElem_toArray, List.getElem_cons_succ, List.getElem_cons_zero, List.setIfInBounds_toArray, List.set_cons_zero, List.set_cons_succ]
  refine wpAnyH_enter 5 (by kernel_rfl) rfl (by rfl) (f := 22) (args := #[.pointer (some ⟨gd, 0, none⟩)]) (by simp [go_sem]) (HSZ.out _ HBZ.out) ?_
  rintro e0 y6 ⟨rfl, hy6⟩
  have hy7 := hy6.symm
  clear hy6
  subst hy7
  refine ⟨_, rfl, hS, ?_⟩
  simp only [Act.put, List.getElem_toArray, List.getElem_cons_succ, List.getElem_cons_zero, List.setIfInBounds_toArray, List.set_cons_zero, List.set_cons_succ]
  refine wpAnyH_take (i := 6) (v := .int .i64 (hs : Int)) rfl (by kernel_rfl) (by kernel_rfl) (by kernel_rfl) (fun _ _ _ h => h) (Or.inl ⟨by rfl, fun wx hx => by simp [go_sem, f2]⟩) hS ?_
  simp only [Act.put, List.getElem_toArray, List.getElem_cons_succ, List.getElem_cons_zero, List.setIfInBounds_toArray, List.set_cons_zero, List.set_cons_succ]
  refine wpAnyH_take (i := 8) (v := .agg (lgC gd hs 0 k gen (.slice a1 n1 c1) u).toArray) rfl (by kernel_rfl) (by kernel_rfl) (by kernel_rfl) (fun _ _ _ h => h) (Or.inl ⟨by rfl, fun wx hx => by exact build_op _ _ 144 [(0, .tmp 22), (1, .tmp 24), (2, .tmp 27), (4, .tmp 28)] rfl _ (built_lg _ _ _ _ _ _ _ _ _ rfl) _⟩) hS ?_
  simp only [Act.put, List.getElem_toArray, List.getElem_cons_succ, List.getElem_cons_zero, List.setIfInBounds_toArray, List.set_cons_zero, List.set_cons_succ]
  have hz6 := below_alloc y5 (.cells (lgC gd hs 0 k gen (.slice a1 n1 c1) u).toArray 144)
  have hb6 : Blk (y5.alloc (.cells (lgC gd hs 0 k gen (.slice a1 n1 c1) u).toArray 144)) y5.heap.size (lgC gd hs 0 k gen (.slice a1 n1 c1) u) 144 := Blk.new _ _ _
  have hS6 := hS.below hz6 hS.lt
  refine wpAnyH_step 9 (.pointer (some ⟨y5.heap.size, 0, none⟩)) (y5.alloc (.cells (lgC gd hs 0 k gen (.slice a1 n1 c1) u).toArray 144)) (by kernel_rfl) rfl (by rfl) (box_agg _ _ 144 (.tmp 29) _ rfl rfl _) hS6 ?_
  clear hS
  have hS := hS6
  clear hS6
  simp only [Act.put, List.getElem_toArray, List.getElem_cons_succ, List.getElem_cons_zero, List.setIfInBounds_toArray, List.set_cons_zero, List.set_cons_succ]
  generalize y5.alloc (.cells (lgC gd hs 0 k gen (.slice a1 n1 c1) u).toArray 144) = y6 at *
  obtain ⟨lg, HLG⟩ : ∃ g, Hid (g = y5.heap.size) := ⟨_, rfl⟩
  rw [← HLG.out] at hb6 ⊢
  refine wpAnyH_take (i := 10) (v := .pointer (some ⟨lg, 0, none⟩)) rfl (by kernel_rfl) (by kernel_rfl) (by kernel_rfl) (fun _ _ _ h => h) (Or.inl ⟨by rfl, fun wx hx => by simp [go_sem]⟩) hS ?_
  simp only [Act.put, List.getElem_toArray, List.getElem_cons_succ, List.getElem_cons_zero, List.setIfInBounds_toArray, List.set_cons_zero, List.set_cons_succ]
  refine wpAnyH_done (by kernel_rfl) ?_ _
  have HLB : Hid (Blk y6 lg (lgC gd hs 0 k gen (.slice a1 n1 c1) u) 144) := hb6
  have HBX : Hid (Below w.heap.size w y6) := HBZ.out.trans (hz6.mono HBZ.out.size)
  have HBV : Hid (Below y2.heap.size y2 y6) := HBY.out.trans (hz6.mono HBY.out.size)
  have d1 : y6.cell? ⟨g4, 1, none⟩ = some (.int .u64 (gen : Int)) := hS.cell 1
  have d2 : y6.cell? ⟨g4, 2, none⟩ = some (.slice a1 n1 c1) := hS.cell 2
  have HLW : Hid (w.heap.size ≤ lg) := by rw [HLG.out]; exact HBZ.out.size
  clear hb6 hz6 hS HBY HBZ HLG f2 f1 HSZ
  have HNP : Hid (¬ P lg) := fun h => by have h1 := HLT.out lg h; have h2 := HLW.out; omega
  have HD6 : Hid (DkIs y6 gd P D) := HDK.out.same14 (fun z hz => HBX.out.block z (HLT.out z hz))
  have HK6 : Hid (KOk y6) := HK.out.below HBX.out HK.out.lt
  have HPB : Hid (pickB (dumpD D) = (k, gen)) := by show _ = _; rw [← HB.out]; exact HLK.out.pk
  have HK1 : Hid (k ≤ 1 ∧ gen < 18446744073709551616) := by have h := pick_lt (dumpD D); rw [HPB.out] at h; exact ⟨h.2, h.1⟩
  have HMV : Hid (∀ {W P'}, Mut (Un P (fun z => z = lg)) y6 W → Grew y6 P P' → Mut P w W ∧ Grew w P P') := fun {W P'} hm hg => ⟨(mut_below HBX.out P).trans (fun z hz h => h.elim id (fun e => absurd hz (by have := HLW.out; omega))) hm, fun z hz => (hg z hz).imp id (fun h => Nat.le_trans HBX.out.size h)⟩
  by_cases hg : gen = 0
  · subst hg
    have HG : Hid (openG D = (anewS hs 0 1 [], ⟨0, 1, []⟩)) := by show _ = _; rw [openG, HPB.out, if_pos rfl, HHH.out]
    have HXE : Hid (X = (runJ D (anewS hs 0 1 [])).2 ∧ DX = (runJ D (anewS hs 0 1 [])).1 ∧ JX = ⟨0, 1, []⟩) := by rw [HX.out, HDX.out, HJX.out, HG.out]; exact ⟨rfl, rfl, rfl⟩
    have HNX : Hid (Calls Tryz.prog 91 #[.pointer (some ⟨lg, 0, none⟩), .int .i64 0, .int .u64 1, .slice none 0 0] y6 fun e w' => e = .returned (.int .i64 X) ∧ ∃ P', DkIs w' gd P' DX ∧ (X = 0 → Blk w' lg (lgC gd hs 0 0 1 (.slice none 0 0) 1) 144) ∧ Mut (Un P (fun z => z = lg)) y6 w' ∧ Grew y6 P P') := by
      rw [HXE.out.1, HXE.out.2.1]
      exact jBegin_any (w := y6) hs k 0 u 0 1 _ (.slice none 0 0) [] HK6.out HD6.out HWT.out HLB.out HNP.out (by decide) (by decide) (by have := HBD.out; omega) HBD.out.2.1 (by have h1 := HBD.out; show 1 + 0 ≤ hs; omega) (fun W _ => readsL_nil W)
    have tk0 : Hid True := trivial
    go_wp2_with (first
      | (clear tk0; go_at_call 91; refine HNX.out.mono ?_; rintro e0 y7 ⟨rfl, P3, hd3, hl3, hm3, hg3⟩
         have HR3 : Hid (DkIs y7 gd P3 DX ∧ (X = 0 → Blk y7 lg (lgC gd hs 0 0 1 (.slice none 0 0) 1) 144) ∧ Mut P w y7 ∧ Grew w P P3) := ⟨hd3, hl3, HMV.out hm3 hg3⟩
         clear hd3 hl3 hm3 hg3))
    rotate_left
    · refine bodyPost_ret (results_tmp2 rfl _ _ _) rfl ?_
      have hx0 : X = 0 := by first | assumption | (rename_i h; simpa using h)
      have hlm : LgM y7 lg gd n (.slice none 0 0) [] JX := by
        rw [HXE.out.2.2]
        exact ⟨by rw [← HHS.out]; exact HR3.out.2.1 hx0, TxJ.nil (Nat.zero_le _)⟩
      refine ⟨P3, _, by rw [hx0]; rfl, HR3.out.1, HR3.out.2.2.1, HR3.out.2.2.2, fun _ => ⟨lg, _, rfl, ⟨_, _, hlm, rfl⟩, fun z hz => ⟨?_, pk_ap HR3.out.1 hlm z hz⟩⟩⟩
      rcases hz with rfl | h | ⟨uu, huu, h⟩
      · exact HLW.out
      · cases h
      · cases huu
    · refine bodyPost_ret (results_tmp2 rfl _ _ _) rfl ?_
      have hx0 : ¬ X = 0 := by first | assumption | (rename_i h; simpa using h)
      exact ⟨P3, _, rfl, HR3.out.1, HR3.out.2.2.1, HR3.out.2.2.2, fun h => absurd h hx0⟩
  · have hgz : ¬ ((gen : Int) = 0) := by omega
    obtain ⟨half, HHF⟩ : ∃ h, Hid (h = halfB b k) := ⟨_, rfl⟩
    obtain ⟨l, HL⟩ : ∃ l, Hid (l = (recsOf gen half).1) := ⟨_, rfl⟩
    have HTX : Hid (TxJ y1.heap.size (.slice a1 n1 c1) us l y6) := by
      have h := (HLK.out.nz hg).1.next HBV.out
      rw [← HHF.out, ← HL.out] at h
      exact h
    have HUU : Hid (u = 1 + secL l ∧ 1 + secL l ≤ hs) := by
      have h1 := (HLK.out.nz hg).2.1
      have h2 : half.length = 64 * hs := by rw [HHF.out, len_half HK1.out.1, HNH.out]
      have h3 := recs_inv (gen := gen) (half := half) (half.length / 64) 64 0 (by have := HBD.out; omega)
      rw [← HHF.out] at h1
      have h4 : (recsOf gen half).2 = 64 + sizeL (recsOf gen half).1 := h3.2.1
      have h5 : (recsOf gen half).2 ≤ half.length := h3.2.2.1
      rw [← HL.out, sizeL_eq] at h4
      exact ⟨by omega, by omega⟩
    have HCL : Hid (cl = decide (∀ z ∈ half.drop (recsOf gen half).2, z = 0)) := by show _ = _; rw [HHF.out]; exact (HLK.out.nz hg).2.2
    have HBQ : Hid (w.heap.size ≤ y1.heap.size) := HBW.out.size
    have HQG : Hid (∀ z, lgQ lg (.slice a1 n1 c1) us z → w.heap.size ≤ z) := fun z hz => by
      rcases hz with rfl | h | ⟨uu, huu, h⟩
      · exact HLW.out
      · exact Nat.le_trans HBQ.out (HTX.out.ge_all.1 z h).1
      · exact Nat.le_trans HBQ.out (HTX.out.ge_all.2 uu huu z h).1
    have hGG : openG D = if ∀ z ∈ half.drop (recsOf gen half).2, z = 0 then ([], ⟨k, gen, l⟩) else (anewS hs (1 - k) (gN gen) l, ⟨1 - k, gN gen, l⟩) := by
      rw [openG, HPB.out, if_neg hg, HHH.out, ← HB.out, ← HHF.out, ← HL.out]
    clear HLK HBW HBV
    cases cl with
    | true =>
      have HXE : Hid (X = 0 ∧ DX = D ∧ JX = ⟨k, gen, l⟩) := by
        rw [HX.out, HDX.out, HJX.out, hGG, if_pos (of_decide_eq_true HCL.out.symm)]
        exact ⟨rfl, rfl, rfl⟩
      clear hGG HCL
      go_wp2
      refine bodyPost_ret (results_tmp2 rfl _ _ _) rfl ?_
      have hlm : LgM y6 lg gd n (.slice a1 n1 c1) us JX := by
        rw [HXE.out.2.2]
        exact ⟨by rw [← HHS.out]; show Blk y6 lg (lgC gd hs 0 k gen _ (1 + secL l)) _; rw [← HUU.out.1]; exact HLB.out, HTX.out.lower (Nat.zero_le _)⟩
      refine ⟨P, _, by rw [HXE.out.1]; rfl, by rw [HXE.out.2.1]; exact HD6.out, mut_below HBX.out P, Grew.refl _ _, fun _ => ⟨lg, _, rfl, ⟨_, _, hlm, rfl⟩, fun z hz => ⟨HQG.out z hz, pk_ap HD6.out hlm z hz⟩⟩⟩
    | false =>
      have HXE : Hid (X = (runJ D (anewS hs (1 - k) (gN gen) l)).2 ∧ DX = (runJ D (anewS hs (1 - k) (gN gen) l)).1 ∧ JX = ⟨1 - k, gN gen, l⟩) := by
        rw [HX.out, HDX.out, HJX.out, hGG, if_neg (of_decide_eq_false HCL.out.symm)]
        exact ⟨rfl, rfl, rfl⟩
      clear hGG HCL
      have HNR : Hid (∀ z, w.heap.size ≤ z → z ≠ lg → ¬ Un P (fun z => z = lg) z) := fun z hz hn h => h.elim (fun hp => absurd (HLT.out z hp) (by omega)) hn
      have HNV : Hid (∀ z, (Value.slice a1 n1 c1).ownBlock = some z → z ≠ lg) := fun z hz e => by
        subst e
        exact ownX_ne_lg HTX.out.own HLB.out hz
      have HNU : Hid (∀ uu ∈ us, ∀ z, uu.ownBlock = some z → z ≠ lg) := fun uu huu z hz e => by
        subst e
        obtain ⟨i, hi, rfl⟩ := List.getElem_of_mem huu
        exact ownB_ne_lg (HTX.out.good i _ (List.getElem?_eq_getElem hi)) HLB.out hz
      have HNX : Hid (Calls Tryz.prog 92 #[.pointer (some ⟨lg, 0, none⟩), .slice a1 n1 c1] y6 fun e w' => e = .returned (.int .i64 X) ∧ ∃ P', DkIs w' gd P' DX ∧ (X = 0 → Blk w' lg (lgC gd hs 0 (1 - k) (gN gen) (.slice a1 n1 c1) (1 + secL l)) 144) ∧ Mut (Un P (fun z => z = lg)) y6 w' ∧ Grew y6 P P') := by
        rw [HXE.out.1, HXE.out.2.1]
        exact jNext_any (w := y6) hs k gen u _ (.slice a1 n1 c1) l HK6.out HD6.out HWT.out HLB.out HNP.out HK1.out.1 (by have := HBD.out; omega) HBD.out.2.1 HUU.out.2 (HTX.out.stN (fun z hz => HNR.out z (Nat.le_trans HBQ.out (HTX.out.ge_all.1 z hz).1) (HNV.out z hz)) (fun uu huu z hz => HNR.out z (Nat.le_trans HBQ.out (HTX.out.ge_all.2 uu huu z hz).1) (HNU.out uu huu z hz)))
      have tk0 : Hid True := trivial
      go_wp2_with (first
        | (clear tk0; go_at_call 92; refine HNX.out.mono ?_; rintro e0 y7 ⟨rfl, P3, hd3, hl3, hm3, hg3⟩
           have HR3 : Hid (DkIs y7 gd P3 DX ∧ (X = 0 → Blk y7 lg (lgC gd hs 0 (1 - k) (gN gen) (.slice a1 n1 c1) (1 + secL l)) 144) ∧ Mut P w y7 ∧ Grew w P P3) := ⟨hd3, hl3, HMV.out hm3 hg3⟩
           have HM3 : Hid (Mut (Un P (fun z => z = lg)) y6 y7) := hm3
           clear hd3 hl3 hm3 hg3))
      rotate_left
      · refine bodyPost_ret (results_tmp2 rfl _ _ _) rfl ?_
        have hx0 : X = 0 := by first | assumption | (rename_i h; simpa using h)
        have htx : TxJ 0 (.slice a1 n1 c1) us l y7 := (HTX.out.lower (Nat.zero_le _)).sameQ HM3.out.size (fun z hz => HM3.out.block z (HTX.out.ge_all.1 z hz).2 (HNR.out z (Nat.le_trans HBQ.out (HTX.out.ge_all.1 z hz).1) (HNV.out z hz))) (fun uu huu z hz => HM3.out.block z (HTX.out.ge_all.2 uu huu z hz).2 (HNR.out z (Nat.le_trans HBQ.out (HTX.out.ge_all.2 uu huu z hz).1) (HNU.out uu huu z hz)))
        have hlm : LgM y7 lg gd n (.slice a1 n1 c1) us JX := by
          rw [HXE.out.2.2]
          exact ⟨by rw [← HHS.out]; exact HR3.out.2.1 hx0, htx⟩
        exact ⟨P3, _, by rw [hx0]; rfl, HR3.out.1, HR3.out.2.2.1, HR3.out.2.2.2, fun _ => ⟨lg, _, rfl, ⟨_, _, hlm, rfl⟩, fun z hz => ⟨HQG.out z hz, pk_ap HR3.out.1 hlm z hz⟩⟩⟩
      · refine bodyPost_ret (results_tmp2 rfl _ _ _) rfl ?_
        have hx0 : ¬ X = 0 := by first | assumption | (rename_i h; simpa using h)
        exact ⟨P3, _, rfl, HR3.out.1, HR3.out.2.2.1, HR3.out.2.2.2, fun h => absurd h hx0⟩
end Go.Proofs.YtopmeedmgjdcgaaGreatDoor
/- Acts in memory; strings held against each other (layer 15). -/
namespace Go.Proofs.YtopmeedmgjdcgaaGreatDoor
open Go.RowKit
set_option maxRecDepth 100000
theorem str_toList (a : Bs) : (strB a).toList = a.map fun b => UInt8.ofNat b.toNat := by rw [Lib.toList_data, strB_data]
theorem u8_lt (a b : BitVec 8) : (UInt8.ofNat a.toNat < UInt8.ofNat b.toNat) ↔ a.toNat < b.toNat := by
  have ha := a.isLt
  have hb := b.isLt
  rw [UInt8.lt_iff_toNat_lt]
  simp
theorem u8_eq (a b : BitVec 8) : (UInt8.ofNat a.toNat = UInt8.ofNat b.toNat) ↔ a = b := by
  constructor
  · intro h
    have h2 := congrArg UInt8.toNat h
    simp at h2
    exact BitVec.eq_of_toNat_eq h2
  · intro h
    rw [h]
theorem str_lt : ∀ (a b : Bs), Op.bytesLess (a.map fun b => UInt8.ofNat b.toNat) (b.map fun b => UInt8.ofNat b.toNat) = ltB a b
  | [], [] => rfl
  | [], _ :: _ => rfl
  | _ :: _, [] => rfl
  | a :: x, b :: y => by
    rw [List.map_cons, List.map_cons, Op.bytesLess, ltB, str_lt x y]
    congr 1
    · rw [decide_eq_decide]; exact u8_lt a b
    · congr 1
      rw [Bool.eq_iff_iff, beq_iff_eq, decide_eq_true_eq]
      exact u8_eq a b
theorem less_str (a b : Bs) : Op.bytesLess (strB a).toList (strB b).toList = ltB a b := by rw [str_toList, str_toList, str_lt]
theorem leq_str (a b : Bs) : (Op.bytesLess (strB a).toList (strB b).toList || ((strB a).toList == (strB b).toList)) = !ltB b a := by
  rw [less_str, strB_inj]
  rcases ltB_tri a b with h | h | h
  · rw [h, ltB_asym h]; rfl
  · rw [h, ltB_irr]; simp
  · rw [h, ltB_asym h]; simp [(ltB_ne h).symm]
theorem run_strOp (op : BinOp) (s t : ByteArray) (r : Bool) (hr : (match op with | .lss => Op.bytesLess s.toList t.toList | .leq => Op.bytesLess s.toList t.toList || (s.toList == t.toList) | .eql => s.toList == t.toList | .neq => !(s.toList == t.toList) | _ => false) = r) (hop : op = .lss ∨ op = .leq ∨ op = .eql ∨ op = .neq) (f : Operand → Value) (o : Oper) (x y : Operand) (ho : o.op = .binOp op 9 x y 9) (hx : f x = .string s) (hy : f y = .string t) (w : World) : (execOp f o).run Tryz.prog w = .ok (.value (.bool r)) w := by
  unfold execOp
  rw [ho]
  rcases hop with rfl | rfl | rfl | rfl <;> subst hr <;> simp [go_sem, hx, hy]
theorem wpSeq_str {ops : Array Oper} {Q : Exit → Act → World → Prop} {rest : List Oper} {o : Oper} {a : Act} {w : World} (op : BinOp) (s t : ByteArray) (r : Bool) (x y : Operand) (hr : (match op with | .lss => Op.bytesLess s.toList t.toList | .leq => Op.bytesLess s.toList t.toList || (s.toList == t.toList) | .eql => s.toList == t.toList | .neq => !(s.toList == t.toList) | _ => false) = r) (hop : op = .lss ∨ op = .leq ∨ op = .eql ∨ op = .neq) (ho : o.op = .binOp op 9 x y 9) (hx : a.eval x = .string s) (hy : a.eval y = .string t) (hw : Region.wanted o (yielded ops a.tmps) = true)
    (h : wpList Tryz.prog ops Q rest (a.put o.dst (.bool r)) w) : wpList Tryz.prog ops Q (o :: rest) a w :=
  wpSeq_val _ _ hw (run_strOp op s t r hr hop _ o x y ho hx hy w) h
theorem wpSeq_sLe {ops : Array Oper} {Q : Exit → Act → World → Prop} {rest : List Oper} {o : Oper} {a : Act} {w : World} (s t : ByteArray) (r : Bool) (x y : Operand) (hr : (Op.bytesLess s.toList t.toList || (s.toList == t.toList)) = r) (ho : o.op = .binOp .leq 9 x y 9) (hx : a.eval x = .string s) (hy : a.eval y = .string t) (hw : Region.wanted o (yielded ops a.tmps) = true)
    (h : wpList Tryz.prog ops Q rest (a.put o.dst (.bool r)) w) : wpList Tryz.prog ops Q (o :: rest) a w := wpSeq_str .leq s t r x y hr (Or.inr (Or.inl rfl)) ho hx hy hw h
theorem wpSeq_sLt {ops : Array Oper} {Q : Exit → Act → World → Prop} {rest : List Oper} {o : Oper} {a : Act} {w : World} (s t : ByteArray) (r : Bool) (x y : Operand) (hr : Op.bytesLess s.toList t.toList = r) (ho : o.op = .binOp .lss 9 x y 9) (hx : a.eval x = .string s) (hy : a.eval y = .string t) (hw : Region.wanted o (yielded ops a.tmps) = true)
    (h : wpList Tryz.prog ops Q rest (a.put o.dst (.bool r)) w) : wpList Tryz.prog ops Q (o :: rest) a w := wpSeq_str .lss s t r x y hr (Or.inl rfl) ho hx hy hw h
/-- an act's cells -/
def actC (a : ActT) (vd : Value) : List Value := [.string (strB a.key), .bool a.set, vd]
/-- a slice of acts -/
def ReadsA (w : World) (v : Value) (l : List ActT) : Prop :=
  ∃ ad cap, v = .slice ad l.length cap ∧ l.length ≤ cap ∧ (ad = none → cap = 0) ∧ (0 < l.length → ∃ b off, ad = some ⟨b, off, none⟩ ∧ ∀ j, j < l.length → ∃ vd, w.rangeAt b (off + j * 3) (actC (l.getD j ⟨[], false, []⟩) vd) ∧ Reads w vd (l.getD j ⟨[], false, []⟩).data)
theorem ReadsA.form {w : World} {v : Value} {l : List ActT} (h : ReadsA w v l) : ∃ ad c, v = .slice ad l.length c := by
  obtain ⟨ad, c, hv, _⟩ := h
  exact ⟨ad, c, hv⟩
theorem ReadsA.nil (w : World) : ReadsA w (.slice none 0 0) [] := ⟨none, 0, rfl, Nat.le_refl _, fun _ => rfl, fun h => by simp at h⟩
theorem range_below {w w' : World} {B b off : Nat} {cs : List Value} (h : w.rangeAt b off cs) (hb : Below B w w') (hlt : b < B) : w'.rangeAt b off cs := fun j u hj => by
  rw [hb.cell (p := ⟨b, off + j, none⟩) hlt]
  exact h j u hj
theorem ReadsA.below {w w' : World} {v : Value} {l : List ActT} (h : ReadsA w v l) (hb : Below w.heap.size w w') : ReadsA w' v l := by
  obtain ⟨ad, cap, h1, h2, h3, h4⟩ := h
  refine ⟨ad, cap, h1, h2, h3, fun hp => ?_⟩
  obtain ⟨b, off, h5, h6⟩ := h4 hp
  refine ⟨b, off, h5, fun j hj => ?_⟩
  obtain ⟨vd, h7, h8⟩ := h6 j hj
  exact ⟨vd, range_below h7 hb (block_lt_of_cell (h7 0 _ rfl)), h8.below hb⟩
theorem ReadsA.at {w : World} {ad : Option Addr} {n c : Nat} {l : List ActT} (h : ReadsA w (.slice ad n c) l) {j : Nat} (hj : j < l.length) : ∃ b off vd, ad = some ⟨b, off, none⟩ ∧ w.rangeAt b (off + j * 3) (actC (l.getD j ⟨[], false, []⟩) vd) ∧ Reads w vd (l.getD j ⟨[], false, []⟩).data := by
  obtain ⟨ad', cap, h1, h2, h3, h4⟩ := h
  simp only [Value.slice.injEq] at h1
  obtain ⟨rfl, _, _⟩ := h1
  obtain ⟨b, off, h5, h6⟩ := h4 (Nat.lt_of_le_of_lt (Nat.zero_le _) hj)
  obtain ⟨vd, h7, h8⟩ := h6 j hj
  exact ⟨b, off, vd, h5, h7, h8⟩
theorem take_act {l : List ActT} {i : Nat} (h : i < l.length) : l.take (i + 1) = l.take i ++ [l.getD i ⟨[], false, []⟩] := by
  rw [List.take_add_one, List.getElem?_eq_getElem h, List.getD_eq_getElem?_getD, List.getElem?_eq_getElem h]
  rfl
theorem info_act15 (x y z : Value) : (Tryz.prog.info? 62).map (·.size) = some [x, y, z].length := by kernel_rfl
theorem idxA (b off n c k : Nat) (hk : k < n) (f : Operand → Value) (o : Oper) (x y : Operand) (ho : o.op = .indexAddr 22 x y) (hx : f x = .slice (some ⟨b, off, none⟩) n c) (hy : f y = .int .i64 (k : Int)) (w : World) :
    (execOp f o).run Tryz.prog w = .ok (.value (.pointer (some ⟨b, off + k * 3, none⟩))) w := by
  have k0 : (0 : Int) ≤ (k : Int) := by omega
  have k1 : (k : Int) < (n : Int) := by omega
  have hs : (sizeOf 62).run Tryz.prog w = .ok 3 w := by kernel_rfl
  unfold execOp
  rw [ho]
  simp [go_sem, hx, hy, k0, k1, Addr.add_mid, hs]
theorem wpSeq_idxA {ops : Array Oper} {Q : Exit → Act → World → Prop} {rest : List Oper} {o : Oper} {a : Act} {w : World} (x y : Operand) (b off n c k : Nat) (hk : k < n) (ho : o.op = .indexAddr 22 x y) (hx : a.eval x = .slice (some ⟨b, off, none⟩) n c) (hy : a.eval y = .int .i64 (k : Int)) (hw : Region.wanted o (yielded ops a.tmps) = true)
    (h : wpList Tryz.prog ops Q rest (a.put o.dst (.pointer (some ⟨b, off + k * 3, none⟩))) w) : wpList Tryz.prog ops Q (o :: rest) a w :=
  wpSeq_val _ _ hw (idxA b off n c k hk _ o x y ho hx hy w) h
def zA : List Value := [.string ⟨#[]⟩, .bool false, .slice none 0 0]
theorem alloc_act (f : Operand → Value) (o : Oper) (ho : o.op = .alloc 62) (w : World) : (execOp f o).run Tryz.prog w = .ok (.value (.pointer (some ⟨w.heap.size, 0, none⟩))) (w.alloc (.cells zA.toArray 62)) := by
  unfold execOp
  rw [ho]
  kernel_rfl
theorem wpSeq_allocA {ops : Array Oper} {Q : Exit → Act → World → Prop} {rest : List Oper} {o : Oper} {a : Act} {w : World} (ho : o.op = .alloc 62) (hw : Region.wanted o (yielded ops a.tmps) = true)
    (h : ∀ g w', NewR zA 62 w g w' → wpList Tryz.prog ops Q rest (a.put o.dst (.pointer (some ⟨g, 0, none⟩))) w') : wpList Tryz.prog ops Q (o :: rest) a w :=
  wpSeq_val _ _ hw (alloc_act _ _ ho _) (h _ _ (NewR.of _ _ w))
theorem one_act (s : ByteArray) (b : Bool) (ad : Option Addr) (n c : Nat) : ∀ v ∈ [Value.string s, .bool b, .slice ad n c], v.oneCell' = true := fun v hv => by
  simp only [List.mem_cons, List.not_mem_nil, or_false] at hv
  rcases hv with rfl | rfl | rfl <;> rfl
/-- may an act have the data that it has? -/
def mayD (a : ActT) : Bool := if a.set then decide (a.data.length ≤ 1048576) else decide (a.data.length = 0)
theorem okA_may (a : ActT) : okA a = (decide (a.key.length ≤ 64) && mayD a) := rfl
set_option maxRecDepth 100000 in
set_option maxHeartbeats 2000000 in
theorem sDataMay_any (a : ActT) (vd : Value) (w : World) (hr : Reads w vd a.data) : Calls Tryz.prog 37 #[.agg (actC a vd).toArray] w fun e w' => e = .returned (.bool (mayD a)) ∧ Below w.heap.size w w' := by
  obtain ⟨n, HN⟩ : ∃ n, Hid (n = a.data.length) := ⟨_, rfl⟩
  obtain ⟨ad, c, hv⟩ : ∃ ad c, vd = .slice ad n c := by obtain ⟨ad, c, hv, _⟩ := hr; exact ⟨ad, c, by rw [HN.out]; exact hv⟩
  subst hv
  obtain ⟨ks, HKS⟩ : ∃ s, Hid (s = strB a.key) := ⟨_, rfl⟩
  obtain ⟨st, HST⟩ : ∃ b, Hid (b = a.set) := ⟨_, rfl⟩
  have hm : mayD a = if st then decide (n ≤ 1048576) else decide (n = 0) := by rw [mayD, HST.out, HN.out]
  rw [hm, actC, ← HKS.out, ← HST.out]
  clear hr hm
  cases st with
  | true =>
    rw [if_pos rfl]
    have q : decide (n ≤ 1048576) = decide ((n : Int) ≤ 1048576) := by rw [decide_eq_decide]; omega
    rw [q]
    clear q
    go_enter Tryz.func37, Tryz.ntmps37
    have tk0 : Hid True := trivial
    go_wp2_with (first
      | (clear tk0; with_reducible refine wpSeq_boxW 62 (.tmp 0) [.string ks, .bool true, .slice ad n c] ?_ ?_ ?_ ?_
         · rfl
         · rfl
         · rfl
         intro g1 y1 nn
         have c1 : y1.cell? ⟨g1, 1, none⟩ = some (.bool true) := nn.blk.cell 1
         have c2 : y1.cell? ⟨g1, 2, none⟩ = some (.slice ad n c) := nn.blk.cell 2
         have HB : Hid (Below w.heap.size w y1) := nn.below
         clear nn))
    go_ret
    exact ⟨rfl, HB.out⟩
  | false =>
    rw [if_neg Bool.false_ne_true]
    have q : decide (n = 0) = ((n : Int) == 0) := by rw [Bool.eq_iff_iff, beq_iff_eq, decide_eq_true_eq]; omega
    rw [q]
    clear q
    go_enter Tryz.func37, Tryz.ntmps37
    have tk0 : Hid True := trivial
    go_wp2_with (first
      | (clear tk0; with_reducible refine wpSeq_boxW 62 (.tmp 0) [.string ks, .bool false, .slice ad n c] ?_ ?_ ?_ ?_
         · rfl
         · rfl
         · rfl
         intro g1 y1 nn
         have c1 : y1.cell? ⟨g1, 1, none⟩ = some (.bool false) := nn.blk.cell 1
         have c2 : y1.cell? ⟨g1, 2, none⟩ = some (.slice ad n c) := nn.blk.cell 2
         have HB : Hid (Below w.heap.size w y1) := nn.below
         clear nn))
    go_ret
    exact ⟨rfl, HB.out⟩
end Go.Proofs.YtopmeedmgjdcgaaGreatDoor

/- Texts that the proof leans on, one behind the other: A region that draws its order, in a round of a loop over a function: no other than anywhere. Plain: leaves by their indexes, put one behind the other; the root of leaves; the way to an index (layer 7). Plain: the root of leaves, and the way to an index, by what is hashed (layer 7). .. -/
import Derived.Deep.RegionHeld
import Derived.RangeFuncNested
import Derived.RangeFuncFrom
import Derived.OrdersIn
import Derived.TacticsIn
import Derived.Test.YtableajopaappaaDoorMga
import Derived.Deep.DeepCutAuto
import Derived.Deep.CutRange
import Derived.Laws.Tables
import Derived.Shelf.Spec.SlicesInsertGrow
import Derived.Defers
import Derived.Recover
import Derived.Laws.Pointers
/- A region that draws its order, in a round of a loop over a function: no other than anywhere. -/
namespace Go.Proofs.YtableajopaappaaDoor
open Go.RowKit
set_option maxRecDepth 100000
theorem upon_round {P : Program} {o : Oper} {a : Act} {K : Act → World → Prop} {Q : Exit → Act → World → Prop} {l n : Nat} : ∀ {r : Result Next}, o.upon P a K Q r → o.uponIn (Fence.wide.inRound l) n P a K Q r
  | .ok (.value _) _, h => h
  | .ok .skip _, h => h
  | .ok (.defer _) _, h => h
  | .ok (.enter _ _) _, h => ⟨fun hx => (nomatch hx), CallsIn.inRound l (callsIn_wide.2 h)⟩
  | .ok (.row _ _) _, h => ⟨fun hx => (nomatch hx), fun c cs _ => by
      obtain ⟨v, wq, r, s⟩ := h c cs
      exact ⟨v, wq, r, stepsIn_wide.2 s⟩⟩
  | .halt (.panic _) _, h => h
/-- no operation is put off -/
def noDefer (ops : Array Oper) : Bool := ops.toList.all fun o => match o.op with | .defer _ => false | _ => true
theorem noDefer_at {ops : Array Oper} (h : noDefer ops = true) {i : Nat} {o : Oper} (hi : ops[i]? = some o) (c : _) : o.op ≠ .defer c := by
  intro he
  have h1 := List.all_eq_true.1 h o (by rw [Array.mem_toList_iff]; exact Array.mem_of_getElem? hi)
  rw [he] at h1
  cases h1
theorem wpOp_round {P : Program} {ops : Array Oper} {Q : Exit → Act → World → Prop} {l n : Nat} (hnd : noDefer ops = true) (hQ : ¬ LetsOut Q) {i : Nat} {K K' : Act → World → Prop} (hK : ∀ a w, K a w → K' a w) {a : Act} {w : World} (h : wpOp P ops Q i K a w) : wpOpIn (Fence.wide.inRound l) n P ops Q i K' a w := by
  refine wpOpIn_mono hK ?_
  unfold wpOp at h
  unfold wpOpIn
  cases ho : ops[i]? with
  | none => rw [ho] at h; exact h
  | some o =>
    rw [ho] at h
    simp only at h ⊢
    by_cases hw : Region.wanted o (yielded ops a.tmps) = true
    · rw [if_pos hw] at h ⊢
      rcases h with h | h
      · refine ⟨fun _ _ => trivial, ?_⟩
        rw [Oper.semAt_eq _ _ _ (noDefer_at hnd ho)]
        exact upon_round h
      · exact absurd h.2 hQ
    · rw [if_neg hw] at h ⊢
      exact ⟨fun _ _ => trivial, h⟩
theorem wpAny_round {P : Program} {md : Region.Mode} {ops : Array Oper} {Q : Exit → Act → World → Prop} {l n : Nat} (hnd : noDefer ops = true) (hQ : ¬ LetsOut Q) : ∀ (fuel : Nat) (listed : Array Bool) (a : Act) (w : World), wpAny P md ops Q fuel listed a w → wpAnyIn (Fence.wide.inRound l) n P md ops Q fuel listed a w
  | 0, _, _, _, h => h
  | fuel + 1, _, _, _, h => ⟨h.1, fun i hi => wpOp_round hnd hQ (fun a w h => wpAny_round hnd hQ fuel _ a w h) (h.2 i hi)⟩
/-- a region that draws, in a round -/
theorem wpIn_round_held {P : Program} {ops : Array Oper} {Q : Exit → Act → World → Prop} {S : World → Prop} {l n id : Nat} {a : Act} {w : World} (hm : P.follows .mixedOrders = true) (hnd : noDefer ops = true) (hQ : ¬ LetsOut Q) (hS : S w.drew)
    (h : S w.drew → wpAnyH P .any ops Q S ops.size (Array.replicate ops.size false) a w.drew) : (Code.region id ops true).wpIn (Fence.wide.inRound l) n P Q a w :=
  wpIn_region_any hm (wpAny_round hnd hQ _ _ _ _ (wpAny_of_held _ _ _ _ (h hS)))
theorem wpList_round {P : Program} {ops : Array Oper} {Q : Exit → Act → World → Prop} {m n : Nat} (hQ : ¬ LetsOut Q) : ∀ (l : List Oper) (_ : noDefer l.toArray = true) (a : Act) (w : World), wpList P ops Q l a w → wpListIn (Fence.wide.inRound m) n P ops Q l a w
  | [], _, _, _, h => h
  | o :: rest, hnd, a, w, h => by
    have ho : ∀ c, o.op ≠ .defer c := fun c => noDefer_at hnd (i := 0) rfl c
    have hr : noDefer rest.toArray = true := by
      unfold noDefer at hnd ⊢
      simp only [List.all_cons, Bool.and_eq_true] at hnd
      exact hnd.2
    unfold wpList at h
    unfold wpListIn
    by_cases hw : Region.wanted o (yielded ops a.tmps) = true
    · rw [if_pos hw] at h ⊢
      rcases h with h | h
      · refine Oper.wpIn_mono (fun a w h => wpList_round hQ rest hr a w h) ⟨fun _ _ => trivial, ?_⟩
        rw [Oper.semAt_eq _ _ _ ho]
        exact upon_round h
      · exact absurd h.2 hQ
    · rw [if_neg hw] at h ⊢
      exact ⟨fun _ _ => trivial, wpList_round hQ rest hr _ w h⟩
/-- a region that does not draw, in a round -/
theorem wpIn_round_list {P : Program} {l : List Oper} {Q : Exit → Act → World → Prop} {m n id : Nat} {a : Act} {w : World} (hnd : noDefer l.toArray = true) (hQ : ¬ LetsOut Q) (h : wpList P l.toArray Q l a w) : (Code.region id l.toArray false).wpIn (Fence.wide.inRound m) n P Q a w :=
  wpIn_region_lit (wpList_round hQ l hnd a w h)
end Go.Proofs.YtableajopaappaaDoor
/- Plain: leaves by their indexes, put one behind the other; the root of leaves; the way to an index (layer 7). -/
namespace Go.Proofs.YtableajopaappaaDoor
abbrev Lf := List (BitVec 8) × List (BitVec 8)
def okLf (l : List Lf) : Prop := ∀ p ∈ l, p.1.length = 32 ∧ p.2.length = 32
/-- rising, each once -/
def Up (l : List Lf) : Prop := l.Pairwise fun p q => lessB p.1 q.1 = true
theorem less_ne {x y : List (BitVec 8)} (h : lessB x y = true) : x ≠ y := by
  rintro rfl
  rw [lessB_self] at h
  cases h
/-- the leaves have their first d bits in common, and are unlike -/
def Fits (l : List Lf) (d : Nat) : Prop := okLf l ∧ Up l ∧ ∀ p ∈ l, ∀ q ∈ l, ∀ j, j < d → bt p.1 j = bt q.1 j
theorem Fits.zero {l : List Lf} (h : okLf l) (hu : Up l) : Fits l 0 := ⟨h, hu, fun _ _ _ _ j hj => by omega⟩
theorem Fits.lt {l : List Lf} {d : Nat} (h : Fits l d) (h2 : 2 ≤ l.length) : d < 256 := by
  match l, h2 with
  | a :: b :: r, _ =>
    rcases Nat.lt_or_ge d 256 with hd | hd
    · exact hd
    · exfalso
      have hab := (List.pairwise_cons.1 h.2.1).1 b List.mem_cons_self
      have ha := h.1 a List.mem_cons_self
      have hb := h.1 b (List.mem_cons_of_mem _ List.mem_cons_self)
      exact less_ne hab (bits_ext _ _ ha.1 hb.1 fun j hj => h.2.2 a List.mem_cons_self b (List.mem_cons_of_mem _ List.mem_cons_self) j (by omega))
end Go.Proofs.YtableajopaappaaDoor
/- Plain: the root of leaves, and the way to an index, by what is hashed (layer 7). -/
namespace Go.Proofs.YtableajopaappaaDoor
open Go.RowKit
set_option maxRecDepth 100000
end Go.Proofs.YtableajopaappaaDoor
/- Leaves in memory: two slices of digests in a struct; one more behind each; regions that draw their order. -/
namespace Go.Proofs.YtableajopaappaaDoor
open Go.RowKit
set_option maxRecDepth 100000
theorem wpAnyH_law {P : Program} {md : Region.Mode} {ops : Array Oper} {Q : Exit → Act → World → Prop} {S : World → Prop} {fuel : Nat} {listed : Array Bool} {a : Act} {w : World} (i : Nat) {oi : Oper}
    (hr : Region.ready md ops listed = [i]) (hi : ops[i]? = some oi) (hw : Region.wanted oi (yielded ops a.tmps) = true)
    (h : Oper.wp P oi a w (fun a' w' => S w' ∧ wpAnyH P md ops Q S fuel (listed.setIfInBounds i true) a' w') Q) : wpAnyH P md ops Q S (fuel + 1) listed a w := by
  refine wpAnyH_all hr (by simp) (fun j hj => ?_)
  obtain rfl : j = i := by simpa using hj
  unfold wpOp
  rw [hi]
  simp only [hw, if_true]
  exact Or.inl h
theorem OwnD.grow {w w' : World} {base B : Nat} {v x x' : Value} {ds : List (List (BitVec 8))} (h : OwnD w base v ds) (hg : Grow B w x w' x') (hn : ∀ j, v.ownBlock = some j → x.ownBlock ≠ some j) : OwnD w' base v ds := by
  refine ⟨?_, h.2⟩
  have hlt := World.ownsRow.lt h.1
  rcases h.1 with ⟨e1, ⟨e2, e3⟩ | ⟨g, cap, cur, e2, hgg, hh, h3⟩⟩
  · exact ⟨e1, Or.inl ⟨e2, e3⟩⟩
  · subst e2
    exact ⟨e1, Or.inr ⟨g, cap, cur, rfl, hgg, by rw [hg.other g (fun e => hn g rfl e.symm) (hlt g rfl).2]; exact hh, h3⟩⟩
theorem Blk.grow {w w' : World} {B g : Nat} {x x' : Value} {cs : List Value} {t : TypeId} (h : Blk w g cs t) (hg : Grow B w x w' x') (hn : ∀ j, x.ownBlock = some j → B ≤ j) (hlt : g < B) : Blk w' g cs t := by
  unfold Blk at *
  have hs : g < w.heap.size := Blk.lt (cs := cs) (t := t) h
  rw [hg.other g (fun e => by have := hn g e.symm; omega) hs]
  exact h
/-- leaves that are the call's own, from block b on -/
structure OwnLf (W : World) (b : Nat) (xa xv : Value) (la lv : List (List (BitVec 8))) : Prop where
  a : OwnD W b xa la
  v : OwnD W b xv lv
  ne : ∀ j, xa.ownBlock = some j → xv.ownBlock ≠ some j
theorem OwnLf.keep {W W' : World} {b : Nat} {xa xv : Value} {la lv : List (List (BitVec 8))} (h : OwnLf W b xa xv la lv) (hs : ∀ k, b ≤ k → k < W.heap.size → W'.heap[k]? = W.heap[k]?) : OwnLf W' b xa xv la lv := ⟨h.a.keep hs, h.v.keep hs, h.ne⟩
theorem OwnLf.mono {W : World} {b B : Nat} {xa xv : Value} {la lv : List (List (BitVec 8))} (h : OwnLf W b xa xv la lv) (hB : B ≤ b) : OwnLf W B xa xv la lv := ⟨h.a.mono hB, h.v.mono hB, h.ne⟩
theorem OwnLf.nil (W : World) (b : Nat) : OwnLf W b nilV nilV [] [] := ⟨OwnD.nil _ _, OwnD.nil _ _, fun j hj => by cases hj⟩
/-- leaves that a call reads -/
def ReadsLf (W : World) (va vv : Value) (l : List Lf) : Prop := ReadsD W va (l.map (·.1)) ∧ ReadsD W vv (l.map (·.2))
theorem ReadsLf.below {W W' : World} {va vv : Value} {l : List Lf} (h : ReadsLf W va vv l) (hb : Below W.heap.size W W') : ReadsLf W' va vv l := ⟨h.1.below hb, h.2.below hb⟩
theorem ReadsLf.ok {W : World} {va vv : Value} {l : List Lf} (h : ReadsLf W va vv l) : okLf l := fun _ hp => ⟨h.1.2 _ (List.mem_map_of_mem hp), h.2.2 _ (List.mem_map_of_mem hp)⟩
theorem OwnLf.reads {W : World} {b : Nat} {xa xv : Value} {l : List Lf} (h : OwnLf W b xa xv (l.map (·.1)) (l.map (·.2))) : ReadsLf W xa xv l := ⟨h.a.readsD, h.v.readsD⟩
/-- where one of a slice of digests lies -/
theorem ReadsD.at {W : World} {v : Value} {ds : List (List (BitVec 8))} (h : ReadsD W v ds) (hp : 0 < ds.length) : ∃ b off cp, v = .slice (some ⟨b, off, none⟩) ds.length cp ∧ ∀ j, j < ds.length → W.rangeAt b (off + j * 32) (cb (ds.getD j [])) := by
  obtain ⟨⟨ad, cp, hv, q1, q2, q3⟩, q4⟩ := h
  obtain ⟨b, off, rfl, hy⟩ := q3 hp
  exact ⟨b, off, cp, hv, hy⟩
theorem ReadsD.slice {W : World} {v : Value} {ds : List (List (BitVec 8))} (h : ReadsD W v ds) : ∃ ad cp, v = .slice ad ds.length cp := by
  obtain ⟨⟨ad, cp, hv, _⟩, _⟩ := h
  exact ⟨ad, cp, hv⟩
end Go.Proofs.YtableajopaappaaDoor
/- The walk of the reference's half. -/
namespace Go.Proofs.YtableajopaappaaDoor
open Go.RowKit
set_option maxRecDepth 100000
theorem wpAnyH_skip {P : Program} {md : Region.Mode} {ops : Array Oper} {Q : Exit → Act → World → Prop} {S : World → Prop} {fuel : Nat} {listed : Array Bool} {a : Act} {w : World} (i : Nat) {oi : Oper} (w' : World)
    (hr : Region.ready md ops listed = [i]) (hi : ops[i]? = some oi) (hw : Region.wanted oi (yielded ops a.tmps) = true) (he : (execOp a.eval oi).run P w = .ok .skip w') (hS : S w')
    (h : wpAnyH P md ops Q S fuel (listed.setIfInBounds i true) (a.put oi.dst undef) w') : wpAnyH P md ops Q S (fuel + 1) listed a w := by
  refine wpAnyH_law i hr hi hw ?_
  unfold Oper.wp
  rw [he]
  exact ⟨hS, h⟩
end Go.Proofs.YtableajopaappaaDoor
/- A slice of bytes that grows in a box while a loop over a function goes on (layer 10). -/
namespace Go.Proofs.YtableajopaappaaDoor
open Go.RowKit Go.Shelf
set_option maxRecDepth 100000
theorem OwnB.kept {X Y : World} {base : Nat} {v : Value} {l : List (BitVec 8)} {row : Option Nat} (h : OwnB X base v l) (hg : X.grownBy Y row) (hr : ∀ r, row = some r → ∃ o : Obj, X.heap[r]? = some o ∧ o.isCells = false) : OwnB Y base v l := by
  obtain ⟨h1, h2⟩ := h
  refine ⟨h1, ?_⟩
  rcases h2 with h2 | ⟨g, cap, cur, rfl, hb, hh, r⟩
  · exact Or.inl h2
  · refine Or.inr ⟨g, cap, cur, rfl, hb, ?_, r⟩
    rw [hg.block g (Array.getElem?_eq_some_iff.1 hh).1 (fun e => ?_)]
    · exact hh
    · obtain ⟨o, ho, hc⟩ := hr g e.symm
      rw [hh] at ho; cases ho; cases hc
/-- the box gO holds a slice of bytes of one's own, from block base on, with the bytes l -/
def OutI (base gO : Nat) (l : List (BitVec 8)) (W : World) : Prop := ∃ v, Blk W gO [v] 28 ∧ OwnB W base v l
theorem OutI.own {β : Type} (base gO : Nat) (f : β → List (BitVec 8)) : Own (fun (s : β) W => OutI base gO (f s) W) := fun s X Y row hs hg hr => by
  obtain ⟨v, h1, h2⟩ := hs
  exact ⟨v, blk_own (β := Unit) gO (fun _ => [v]) _ () X Y row h1 hg hr, h2.kept hg hr⟩
theorem OutI.next {base gO : Nat} {l : List (BitVec 8)} {W W' : World} (h : OutI base gO l W) (hb : Below W.heap.size W W') : OutI base gO l W' := by
  obtain ⟨v, h1, h2⟩ := h
  exact ⟨v, h1.below hb h1.lt, h2.below hb (Nat.le_refl _)⟩
/-- more bytes: the slice's own block alone has changed, then the box -/
theorem OutI.put {base gO : Nat} {l news : List (BitVec 8)} {W W1 : World} {v v' : Value} (h1 : Blk W gO [v] 28) (h2 : OwnB W base v l) (h3 : OwnB W1 base v' (l ++ news)) (hg : W.grownBy W1 v.ownBlock) : OutI base gO (l ++ news) (W1.setCell ⟨gO, 0, none⟩ v') ∧ Only gO W1 (W1.setCell ⟨gO, 0, none⟩ v') ∧ Blk W1 gO [v] 28 := by
  have hb : Blk W1 gO [v] 28 := h1.grown hg (h2.ne h1 (by decide))
  have ho : Only gO W1 (W1.setCell ⟨gO, 0, none⟩ v') := Only.setCell (Only.refl gO W1) 0 v'
  refine ⟨⟨v', by simpa using hb.set 0 v', ?_⟩, ho, hb⟩
  have hne := h3.ne hb (by decide)
  obtain ⟨e1, e2⟩ := h3
  refine ⟨e1, ?_⟩
  rcases e2 with e2 | ⟨g, cap, cur, rfl, hg2, hh, r⟩
  · exact Or.inl e2
  · refine Or.inr ⟨g, cap, cur, rfl, hg2, ?_, r⟩
    rw [ho.block g (fun e => hne (by rw [e]; rfl)) (Array.getElem?_eq_some_iff.1 hh).1]
    exact hh
theorem keeps_append {w w' : World} {base : Nat} {v : Value} {l : List (BitVec 8)} (hown : OwnB w base v l) (hg : w.grownBy w' v.ownBlock) : KeepsOthers w w' := by
  refine KeepsOthers.of_grownBy hg (fun j o hj ho => ?_)
  obtain ⟨_, h2⟩ := hown
  rcases h2 with ⟨rfl, _⟩ | ⟨g2, cap, cur, rfl, hg2, hh, _⟩
  · simp [Value.ownBlock] at hj
  · simp only [Value.ownBlock, Option.some.injEq] at hj
    subst hj
    rw [hh] at ho
    cases ho
    rfl
/-- where a round stands: out's bytes l in the box gO, the digest x at gx -/
structure RoI (w : World) (gO : Nat) (l : List (BitVec 8)) (W y : World) : Prop where
  out : OutI w.heap.size gO l y
  bel : Below w.heap.size w y
  kp : KeepsOthers W y
theorem RoI.next {w W y y' : World} {gO : Nat} {l : List (BitVec 8)} (h : RoI w gO l W y) (hb : Below y.heap.size y y') : RoI w gO l W y' := ⟨h.out.next hb, h.bel.trans (hb.mono h.bel.size), h.kp.trans (keepsOthers_of_below hb)⟩
theorem RoI.put {w W y y1 : World} {gO : Nat} {l news : List (BitVec 8)} {v v' : Value} (h : RoI w gO l W y) (hgO : w.heap.size ≤ gO) (h1 : Blk y gO [v] 28) (h2 : OwnB y w.heap.size v l) (h3 : OwnB y1 w.heap.size v' (l ++ news)) (hg : y.grownBy y1 v.ownBlock) (hb : Below w.heap.size y y1) : RoI w gO (l ++ news) W (y1.setCell ⟨gO, 0, none⟩ v') := by
  obtain ⟨a, b, c⟩ := OutI.put h1 h2 h3 hg
  exact ⟨a, (h.bel.trans hb).trans (b.below hgO (Nat.le_trans h.bel.size hb.size)), (h.kp.trans (keeps_append h2 hg)).trans (KeepsOthers.setCell _ _ _)⟩
theorem RoI.drew {w W y : World} {gO : Nat} {l : List (BitVec 8)} (h : RoI w gO l W y) : RoI w gO l W y.drew := ⟨h.out, h.bel.drew, h.kp.trans (KeepsOthers.drew _)⟩
theorem OwnB.form {w : World} {base : Nat} {v : Value} {l : List (BitVec 8)} (h : OwnB w base v l) : ∃ a c, v = .slice a l.length c := by
  obtain ⟨_, h2⟩ := h
  rcases h2 with ⟨rfl, h0⟩ | ⟨g, cap, cur, rfl, _⟩
  · exact ⟨_, _, by rw [h0]⟩
  · exact ⟨_, _, rfl⟩
end Go.Proofs.YtableajopaappaaDoor
/- path.Bits' function once more: it yields the places below 256, in order, each with its bit. -/
namespace Go.Proofs.YtableajopaappaaDoor
open Go.RowKit Go.Shelf
set_option maxRecDepth 100000
attribute [local go_sem] Oper.semAt_some
abbrev encsT (x : List (BitVec 8)) (p : {k : Nat // k < 256}) : Array Value := #[.int .i64 (p.1 : Int), .bool (bt x p.1)]
/-- the first k places -/
def pathT : Nat → List {k : Nat // k < 256}
  | 0 => []
  | k + 1 => if h : k < 256 then pathT k ++ [⟨k, h⟩] else pathT k
theorem pathT_succ (k : Nat) (h : k < 256) : pathT (k + 1) = pathT k ++ [⟨k, h⟩] := by rw [pathT, dif_pos h]
theorem pathT_len (k : Nat) (h : k ≤ 256) : (pathT k).length = k := by
  induction k with
  | zero => rfl
  | succ k ih => rw [pathT_succ k (by omega), List.length_append, ih (by omega)]; rfl
set_option maxRecDepth 100000 in
set_option maxHeartbeats 2000000 in
theorem bits_told (n : Nat) (hn : 1 ≤ n) (g : Nat) (x : List (BitVec 8)) (hx : x.length = 32) (w : World) (hb : Blk w g (cb x) 23) :
    SeqStopsK Fence.wide n Tryd.prog 112 #[.pointer (some ⟨g, 0, none⟩)] (encsT x) (fun _ _ => True) (fun xs => xs = pathT 256) (fun pre => ∃ k, k ≤ 256 ∧ pre = pathT k) 256 w := fun l J Jx W hW hJ hJx hY h0 => by
  refine callsIn_of_wp Tryd.func112 rfl trivial ?_ rfl
  simp only [Tryd.ntmps112, List.size_toArray, List.length_cons, List.length_nil, Nat.reduceAdd, Nat.reduceSub, Array.replicate_succ, Array.replicate_zero, List.push_toArray, List.append_toArray, List.nil_append, List.cons_append]
  refine (wpIn_wide (n := n)).2 (wp_scope_straight ?_)
  have HW : Hid (Blk W g (cb x) 23) := hb.below hW hb.lt
  have HL : Hid (x.length = 32) := hx
  have HJ : Hid (AbidesFrom W.heap.size J) := hJ
  have HJX : Hid (AbidesFrom W.heap.size Jx) := hJx
  clear hb hx hJ hJx hW
  refine wp_seq (wp_label ?_)
  show Code.wp _ _ _ _ _
  go_wp2_with (first
    | (with_reducible refine wpSeq_loadD (.tmp 1) g x ?_ ?_ ?_ ?_ ?_ ?_
       · exact HL.out
       · exact HW.out
       · rfl
       · rfl
       · rfl))
  go_loopw [7] (fun p wr => ∃ k : Nat, k ≤ 32 ∧ p = .int .i64 (k : Int) ∧ J (pathT (8 * k)) wr) (fun p _ => 32 - (intOf p).toNat)
  case atStart => exact ⟨0, by omega, rfl, h0⟩
  case round =>
    obtain ⟨k, hk, rfl, hJk⟩ := hrel
    have HJK : Hid (J (pathT (8 * k)) wr) := hJk
    clear hJk
    by_cases hlt : k < 32
    · have HKX : Hid (k < x.length) := by show _ < _; rw [HL.out]; exact hlt
      obtain ⟨b, hbb⟩ : ∃ b, b = x.getD k 0 := ⟨_, rfl⟩
      have hix : ∀ wz, (Instr.index 23 (.agg (cb x).toArray) (.int .i64 (k : Int))).run Tryd.prog wz = .ok (.int .u8 (b.toNat : Int)) wz := fun wz => by rw [hbb]; exact idx_dig x HL.out k hlt wz
      have HBB : Hid (b = x.getD k 0) := hbb
      clear hbb
      have k0 : (0 : Int) ≤ (k : Int) := by omega
      have k1 : (k : Int) < 32 := by omega
      go_wp2
      go_loopw [11] (fun p wr => ∃ j : Nat, j ≤ 8 ∧ p = .int .i64 (j : Int) ∧ J (pathT (8 * k + j)) wr) (fun p _ => 8 - (intOf p).toNat)
      case atStart => exact ⟨0, by omega, rfl, HJK.out⟩
      case round =>
        rename_i wr2 _ _ _ _ _ _ _ _ _ _ _ _ _ _ _ _ _
        obtain ⟨j, hj, rfl, hJj⟩ := hrel
        clear HJK
        by_cases hlt2 : j < 8
        · obtain ⟨q, hq⟩ : ∃ q, q = 8 * k + j := ⟨_, rfl⟩
          obtain ⟨k8, hk8⟩ : ∃ k8, k8 = k * 8 := ⟨_, rfl⟩
          obtain ⟨o, ho⟩ : ∃ o, o = bt x q := ⟨_, rfl⟩
          have f1 : (k : Int) * 8 = (k8 : Int) := by omega
          have f2 : IntKind.i64.wrap (k8 : Int) = (k8 : Int) := wrap_small _ (by omega) (by omega)
          have f3 : (k8 : Int) + (j : Int) = (q : Int) := by omega
          have f4 : IntKind.i64.wrap (q : Int) = (q : Int) := wrap_small _ (by omega) (by omega)
          have j1 : (j : Int) < 8 := by omega
          have f5 : IntKind.i64.wrap ((j : Int) + 1) = (j : Int) + 1 := wrap_small _ (by omega) (by omega)
          have hand := u8_and b (mask j)
          have hz : ((((b.toNat &&& (mask j).toNat : Nat) : Int)) != 0) = o := by
            have h := mask_and b ⟨j, hlt2⟩
            have hm : mask j = 128#8 >>> j := by rw [mask, Nat.mod_eq_of_lt hlt2]
            simp only [← hm] at h
            have e : o = b.getMsbD j := by rw [ho, HBB.out, bt, hq, show (8 * k + j) / 8 = k by omega, show (8 * k + j) % 8 = j by omega]
            rw [e, ← BitVec.toNat_and]
            cases hg : b.getMsbD j
            · rw [hg] at h
              have h2 := of_decide_eq_true (h.trans rfl)
              rw [h2]; rfl
            · rw [hg] at h
              have h2 := of_decide_eq_false (h.trans rfl)
              rw [bne_iff_ne]
              intro h3
              exact h2 (BitVec.eq_of_toNat_eq (by simpa using h3))
          have hq6 : q < 256 := by omega
          have HNX : Hid (pathT (8 * k + (j + 1)) = pathT (8 * k + j) ++ [⟨q, hq6⟩]) := by
            show _ = _
            subst hq
            rw [← Nat.add_assoc]
            exact pathT_succ _ hq6
          obtain ⟨fn, tmps, assign, body, hy, hR⟩ := hY (pathT (8 * k + j)) ⟨q, hq6⟩ _ hJj (by rw [pathT_len _ (by omega)]; omega)
          dsimp only [encsT] at hy
          rw [← ho] at hy
          clear hq hk8 ho hlt2 hj
          refine (wpIn_wide (n := n)).1 ?_
          gi_wp2_with (refine ⟨trivial, ?_⟩; gi_at_call 113; refine (callsIn_wide.2 (bitOf_any _ _)).mono ?_; rintro e wz ⟨rfl, hz2⟩; rw [hz2]; clear hz2 wz)
          refine hR.mono ?_
          clear hR hy hY hJj
          rintro e W3 (⟨rfl, hJ3, _⟩ | ⟨rfl, hJx3⟩)
          · rw [← HNX.out] at hJ3
            gi_wp2
            go_roundw
            case rel => exact ⟨j + 1, by omega, by simp, hJ3⟩
            case measure => simp [intOf]; omega
          · rw [← HNX.out] at hJx3
            gi_wp2
            refine noGoto_normal ?_
            go_end0
            exact ⟨⟨_, rfl⟩, .inr ⟨_, ⟨8 * k + (j + 1), by omega, rfl⟩, hJx3⟩⟩
        · have hj8 : j = 8 := by omega
          subst hj8
          have HJ8 : Hid (J (pathT (8 * (k + 1))) wr) := by rw [Nat.mul_add]; exact hJj
          have f5 : IntKind.i64.wrap ((k : Int) + 1) = (k : Int) + 1 := wrap_small _ (by omega) (by omega)
          clear hJj hj hlt2
          go_wp2
          go_roundw
          case rel => exact ⟨k + 1, by omega, by simp, HJ8.out⟩
          case measure => simp [intOf]; omega
    · have hk32 : k = 32 := by omega
      subst hk32
      go_wp2
      refine noGoto_normal ?_
      go_end0
      exact ⟨⟨_, rfl⟩, .inl ⟨_, rfl, HJK.out⟩⟩
end Go.Proofs.YtableajopaappaaDoor
/- A reading beside one call, and beside two calls in a row, in a region that draws: all orders at once. -/
namespace Go.Proofs.YtableajopaappaaDoor
open Go.RowKit
set_option maxRecDepth 100000
/-- a reading beside a call -/
theorem wpAnyH_readC {P : Program} {md : Region.Mode} {ops : Array Oper} {Q : Exit → Act → World → Prop} {S : World → Prop} {fuel : Nat} {listed : Array Bool} {a : Act} {w : World} (i j : Nat) {oi oj : Oper} (v : Value) {f : FuncId} {args : Array Value} {R : Ending → World → Prop}
    (hr : Region.ready md ops listed = [i, j]) (hi : ops[i]? = some oi) (hj : ops[j]? = some oj)
    (wi : Region.wanted oi (yielded ops a.tmps) = true) (wj : Region.wanted oj (yielded ops a.tmps) = true) (wi2 : ∀ u, Region.wanted oi (yielded ops (a.put oj.dst u).tmps) = true) (wj2 : Region.wanted oj (yielded ops (a.put oi.dst v).tmps) = true)
    (ei : (execOp a.eval oi).run P w = .ok (.value v) w) (ej : (execOp a.eval oj).run P w = .ok (.enter f args) w) (ej2 : (execOp (a.put oi.dst v).eval oj).run P w = .ok (.enter f args) w) (hc : Calls P f args w R)
    (hr1 : Region.ready md ops (listed.setIfInBounds i true) = [j]) (hr2 : Region.ready md ops (listed.setIfInBounds j true) = [i])
    (hp : ∀ u, (a.put oj.dst u).put oi.dst v = (a.put oi.dst v).put oj.dst u) (hl : (listed.setIfInBounds j true).setIfInBounds i true = (listed.setIfInBounds i true).setIfInBounds j true)
    (hS : S w) (h : ∀ e w', R e w' → ∃ u, e = .returned u ∧ S w' ∧ (execOp (a.put oj.dst u).eval oi).run P w' = .ok (.value v) w' ∧ wpAnyH P md ops Q S fuel ((listed.setIfInBounds i true).setIfInBounds j true) ((a.put oi.dst v).put oj.dst u) w') : wpAnyH P md ops Q S (fuel + 2) listed a w := by
  refine wpAnyH_all hr (by simp) (fun k hk => ?_)
  rcases List.mem_cons.1 hk with rfl | hk
  · refine wpOp_vl k v w hi wi ei ⟨hS, wpAnyH_enter j hr1 hj wj2 ej2 hc fun e w' hR => ?_⟩
    obtain ⟨u, h1, h2, _, h4⟩ := h e w' hR
    exact ⟨u, h1, h2, h4⟩
  · obtain rfl : k = j := by simpa using hk
    unfold wpOp
    rw [hj]
    simp only [wj, if_true]
    left
    unfold Oper.wp
    rw [ej, Oper.upon_enter]
    refine hc.mono ?_
    intro e w' hR
    obtain ⟨u, rfl, h2, h3, h4⟩ := h e w' hR
    refine ⟨h2, wpAnyH_step i v w' hr2 hi (wi2 u) h3 h2 ?_⟩
    rw [hl, hp]
    exact h4
end Go.Proofs.YtableajopaappaaDoor
/- The walks of lamport's begun, put, hidden and halves (layer 10). -/
namespace Go.Proofs.YtableajopaappaaDoor
open Go.RowKit Go.Shelf
set_option maxRecDepth 100000
/-- what stands below base, and every block but one of bytes, is as it was -/
structure KeptB (base : Nat) (w w' : World) : Prop where
  bel : Below base w w'
  oth : KeepsOthers w w'
  blk : ∀ g cs t, t ≠ 5 → Blk w g cs t → Blk w' g cs t
theorem KeptB.refl (base : Nat) (w : World) : KeptB base w w := ⟨Below.refl _ _, KeepsOthers.refl _, fun _ _ _ _ h => h⟩
theorem KeptB.next {base : Nat} {w y y' : World} (h : KeptB base w y) (hb : base ≤ w.heap.size) (hy : Below y.heap.size y y') : KeptB base w y' :=
  ⟨h.bel.trans (hy.mono (Nat.le_trans hb h.bel.size)), h.oth.trans (keepsOthers_of_below hy), fun g cs t ht hg => (h.blk g cs t ht hg).below hy (h.blk g cs t ht hg).lt⟩
theorem KeptB.grown {base : Nat} {w y y' : World} {v : Value} {l : List (BitVec 8)} (h : KeptB base w y) (ho : OwnB y base v l) (hg : y.grownBy y' v.ownBlock) (hb : Below base y y') : KeptB base w y' :=
  ⟨h.bel.trans hb, h.oth.trans (keeps_append ho hg), fun g cs t ht hh => (h.blk g cs t ht hh).grown hg (ho.ne (h.blk g cs t ht hh) ht)⟩
/-- a slice of one byte -/
theorem wpSeq_buildY {ops : Array Oper} {Q : Exit → Act → World → Prop} {rest : List Oper} {o : Oper} {a : Act} {w : World} (b : BitVec 8) (x : Operand) (hx : a.eval x = .int .u8 (b.toNat : Int)) (ho : o.op = .buildSlice 28 1 #[(0, x)]) (hw : Region.wanted o (yielded ops a.tmps) = true)
    (h : ∀ g w', Blk w' g (cb [b]) 5 → Below w.heap.size w w' → wpList Tryd.prog ops Q rest (a.put o.dst (.slice (some ⟨g, 0, none⟩) 1 1)) w') : wpList Tryd.prog ops Q (o :: rest) a w := by
  refine wpSeq_val _ (w.alloc (.cells (cb [b]).toArray 5)) hw ?_ (h w.heap.size _ (Blk.new w _ 5) (below_alloc _ _))
  unfold execOp
  rw [ho]
  generalize a.eval = f at hx ⊢
  simp only [List.map_toArray, List.map_cons, List.map_nil, hx]
  kernel_rfl
theorem blk_reads_y {w : World} {g : Nat} {l : List (BitVec 8)} (h : Blk w g (cb l) 5) : Reads w (.slice (some ⟨g, 0, none⟩) l.length l.length) l :=
  ⟨_, _, rfl, Nat.le_refl _, (fun e => by cases e), fun _ => ⟨g, 0, rfl, fun j hj => by rw [Nat.zero_add, h.cell, cb_get l j hj]⟩⟩
set_option maxRecDepth 100000 in
set_option maxHeartbeats 8000000 in
theorem lBegun_any (w : World) : Calls Tryd.prog 101 #[] w fun e w' => ∃ v, e = .returned v ∧ OwnB w' w.heap.size v [80] ∧ Below w.heap.size w w' := by
  have HBW : Hid (Below w.heap.size w w) := Below.refl _ _
  go_enter Tryd.func101, Tryd.ntmps101
  have tk0 : Hid True := trivial
  have tk1 : Hid True := trivial
  have tk2 : Hid True := trivial
  go_wp2_with (first
    | (clear tk0; with_reducible refine wpSeq_make (.const (.int .i64 0)) (.const (.int .i64 16385)) 0 16385 ?_ ?_ ?_ ?_ ?_ ?_ ?_
       · decide
       · decide
       · rfl
       · rfl
       · rfl
       · rfl
       intro go y1 z hz hge hzb hzl
       have HO : Hid (OwnB y1 w.heap.size (.slice (some ⟨go, 0, none⟩) 0 16385) []) := own_of_blk (k := 0) hzb (Nat.le_trans HBW.out.size hge) (by rw [hz, List.length_replicate]) (by decide) (by decide)
       replace HBW : Hid (Below w.heap.size w y1) := HBW.out.trans (hzl.mono HBW.out.size)
       clear hz hge hzb hzl)
    | (clear tk1; with_reducible refine wpSeq_buildY 80 (.const (.int .u8 80)) ?_ ?_ ?_ ?_
       · rfl
       · rfl
       · rfl
       intro gy y2 hgb hbz
       replace HO : Hid (OwnB y2 w.heap.size (.slice (some ⟨go, 0, none⟩) 0 16385) ([])) := HO.out.below hbz (Nat.le_refl _)
       replace HBW : Hid (Below w.heap.size w y2) := HBW.out.trans (hbz.mono HBW.out.size)
       have HR : Hid (Reads y2 (.slice (some ⟨gy, 0, none⟩) 1 1) [80]) := blk_reads_y hgb
       clear hgb hbz)
    | (clear tk2; at_builtin; with_reducible refine wpSeq_appendG (.tmp 1) (.tmp 2) w.heap.size (.slice (some ⟨go, 0, none⟩) 0 16385) (.slice (some ⟨gy, 0, none⟩) 1 1) ([]) ([80]) HO.out (HR.out) (by decide) (by decide) HBW.out.size ?_ ?_ ?_ ?_ ?_
       · rfl
       · rfl
       · rfl
       · rfl
       intro v1 y3 hown hgr hbz
       replace HO : Hid (OwnB y3 w.heap.size v1 ([] ++ [80])) := hown
       replace HBW : Hid (Below w.heap.size w y3) := HBW.out.trans hbz
       clear hown hgr hbz))
  go_ret
  exact ⟨_, rfl, HO.out, HBW.out⟩
set_option maxRecDepth 100000 in
set_option maxHeartbeats 8000000 in
theorem lPut_any (v : Value) (l f s : List (BitVec 8)) (base : Nat) (w : World) (hb : base ≤ w.heap.size) (ho : OwnB w base v l) (hf : f.length = 32) (hs : s.length = 32) (hl : l.length ≤ 1000000) :
    Calls Tryd.prog 104 #[v, .agg (cb f).toArray, .agg (cb s).toArray] w fun e w' => ∃ v', e = .returned v' ∧ OwnB w' base v' (l ++ f ++ s) ∧ KeptB base w w' := by
  have HBS : Hid (base ≤ w.heap.size) := hb
  have HO : Hid (OwnB w base v l) := ho
  have HFL : Hid (f.length = 32) := hf
  have HSL : Hid (s.length = 32) := hs
  have HLL : Hid (l.length ≤ 1000000) := hl
  have HKP : Hid (KeptB base w w) := KeptB.refl _ _
  clear hb ho hf hs hl
  go_enter Tryd.func104, Tryd.ntmps104
  have tka7 : Hid True := trivial
  have tka10 : Hid True := trivial
  have tk1 : Hid True := trivial
  have tk2 : Hid True := trivial
  go_wp2_with (first
    | (clear tk1; with_reducible refine wpSeq_boxD (.tmp 1) f ?_ ?_ ?_ ?_
       · rfl
       · rfl
       · rfl
       intro gf y1 nn
       replace HKP : Hid (KeptB base w y1) := HKP.out.next HBS.out nn.below
       replace HO : Hid (OwnB y1 base v l) := HO.out.below nn.below (Nat.le_refl _)
       have HF : Hid (Blk y1 gf (cb f) 23) := nn.blk
       clear nn)
    | (clear tk2; with_reducible refine wpSeq_boxD (.tmp 2) s ?_ ?_ ?_ ?_
       · rfl
       · rfl
       · rfl
       intro gs y2 nn
       replace HKP : Hid (KeptB base w y2) := HKP.out.next HBS.out nn.below
       replace HO : Hid (OwnB y2 base v l) := HO.out.below nn.below (Nat.le_refl _)
       replace HF : Hid (Blk y2 gf (cb f) 23) := HF.out.below nn.below HF.out.lt
       have HG : Hid (Blk y2 gs (cb s) 23) := nn.blk
       clear nn)
    | (at_builtin; clear tka7; with_reducible refine wpSeq_appendG (.tmp 7) (.tmp 8) base v (.slice (some ⟨gf, 0, none⟩) 32 32) (l) f HO.out (HF.out.reads HFL.out.symm (by rw [HFL.out]; exact Nat.le_refl _)) (by rw [HFL.out]; decide) (by have h1 := HLL.out; have h2 := HFL.out; have h3 := HSL.out; (try rw [List.length_append]); omega) (Nat.le_trans HBS.out HKP.out.bel.size) ?_ ?_ ?_ ?_ ?_
       · rfl
       · rfl
       · rfl
       · rfl
       intro v1 y3 hown hgr hbz
       replace HKP : Hid (KeptB base w y3) := HKP.out.grown HO.out hgr hbz
       replace HG : Hid (Blk y3 gs (cb s) 23) := HG.out.grown hgr (HO.out.ne HG.out (by decide))
       replace HO : Hid (OwnB y3 base v1 (l ++ f)) := hown
       clear hown hgr hbz)
    | (at_builtin; clear tka10; with_reducible refine wpSeq_appendG (.tmp 10) (.tmp 11) base v1 (.slice (some ⟨gs, 0, none⟩) 32 32) (l ++ f) s HO.out (HG.out.reads HSL.out.symm (by rw [HSL.out]; exact Nat.le_refl _)) (by rw [HSL.out]; decide) (by have h1 := HLL.out; have h2 := HFL.out; have h3 := HSL.out; (try rw [List.length_append]); omega) (Nat.le_trans HBS.out HKP.out.bel.size) ?_ ?_ ?_ ?_ ?_
       · rfl
       · rfl
       · rfl
       · rfl
       intro v2 y4 hown hgr hbz
       replace HKP : Hid (KeptB base w y4) := HKP.out.grown HO.out hgr hbz
       replace HG : Hid (Blk y4 gs (cb s) 23) := HG.out.grown hgr (HO.out.ne HG.out (by decide))
       replace HO : Hid (OwnB y4 base v2 (l ++ f ++ s)) := hown
       clear hown hgr hbz))
  go_ret
  exact ⟨_, rfl, HO.out, HKP.out⟩
/-- from a place on -/
theorem from_run (ga off n cap l : Nat) (hn : l < n) (hc : n ≤ cap) (w : World) :
    (Instr.sliceAt 28 (.slice (some ⟨ga, off, none⟩) n cap) (some (.int .i64 (l : Int))) none none).run Tryd.prog w = .ok (.slice (some ⟨ga, off + l, none⟩) (n - l) (cap - l)) w := by
  have hs : (sizeOf 5).run Tryd.prog w = .ok 1 w := by kernel_rfl
  rw [run_sliceAt_slice w 28 _ _ _ _ (by kernel_rfl), run_slice_l w 28 _ _ _ (by kernel_rfl) .i64 _ (by omega) (by omega)]
  rw [show Tryd.prog.elem 28 = 5 from by kernel_rfl, hs]
  simp only [Result.andThen_ok, sliced, Int.toNat_natCast, Nat.mul_one]
  rw [if_neg (by omega)]
  simp [Addr.add_mid]
theorem from_op (f : Operand → Value) (o : Oper) (x lo : Operand) (ho : o.op = .slice 28 x (some lo) none none) (ga off n cap l : Nat) (hx : f x = .slice (some ⟨ga, off, none⟩) n cap) (L : Int) (hlo : f lo = .int .i64 L) (hL : L = (l : Int)) (hn : l < n) (hc : n ≤ cap) (w : World) :
    (execOp f o).run Tryd.prog w = .ok (.value (.slice (some ⟨ga, off + l, none⟩) (n - l) (cap - l))) w := by
  subst hL
  unfold execOp
  rw [ho]
  simp only [hx, hlo, Option.map_some, Option.map_none, Sem.run_bind, from_run ga off n cap l hn hc w]
  rfl
theorem wpSeq_from {ops : Array Oper} {Q : Exit → Act → World → Prop} {rest : List Oper} {o : Oper} {a : Act} {w : World} (x lo : Operand) (ga off n cap l : Nat) (L : Int) (hL : L = (l : Int)) (hn : l < n) (hc : n ≤ cap) (ho : o.op = .slice 28 x (some lo) none none) (hx : a.eval x = .slice (some ⟨ga, off, none⟩) n cap) (hlo : a.eval lo = .int .i64 L) (hw : Region.wanted o (yielded ops a.tmps) = true)
    (h : wpList Tryd.prog ops Q rest (a.put o.dst (.slice (some ⟨ga, off + l, none⟩) (n - l) (cap - l))) w) : wpList Tryd.prog ops Q (o :: rest) a w :=
  wpSeq_val _ _ hw (from_op a.eval o x lo ho ga off n cap l hx L hlo hL hn hc w) h
/-- thirty-two bytes copied over a digest -/
theorem copy_run (f : Operand → Value) (o : Oper) (s x : Operand) (ho : o.op = .call { callee := .builtin .copy, args := #[s, x], argTypes := #[28, 28] }) (w : World) (g b off n cap : Nat) (l bs : List (BitVec 8)) (hg : Blk w g (cb l) 23) (hl : l.length = 32) (hbs : bs.length = 32) (hn : 32 ≤ n) (hc2 : ∃ c, Reads w (.slice (some ⟨b, off, none⟩) 32 c) bs) (hs : f s = .slice (some ⟨g, 0, none⟩) 32 32) (hx : f x = .slice (some ⟨b, off, none⟩) n cap) :
    (execOp f o).run Tryd.prog w = .ok (.value (goInt 32)) (w.setCells g 0 (cb bs)) := by
  obtain ⟨c, ad, c', hv, _, _, hy⟩ := hc2
  obtain ⟨b', off', h1, h2⟩ := hy (by omega)
  subst h1
  simp only [Value.slice.injEq, Option.some.injEq, Addr.mk.injEq, and_true] at hv
  obtain ⟨⟨rfl, rfl⟩, _⟩ := hv
  have hcp : ∀ ty, (Builtin.copy_ #[28, 28] ty #[.slice (some ⟨g, 0, none⟩) 32 32, .slice (some ⟨b, off, none⟩) n cap]).run Tryd.prog w = .ok (goInt (cb bs).length) (w.setCells g 0 (cb bs)) := fun ty =>
      run_copy_cells w _ _ ty 5 g 0 32 32 ⟨b, off, none⟩ n cap (cb bs) Tryd.underlying28 (by kernel_rfl) (by rw [cb_len, hbs]; exact (Nat.min_eq_right hn).symm)
        (fun j u hj => by
          have hjl : j < bs.length := by have := (List.getElem?_eq_some_iff.1 hj).1; rwa [cb_len] at this
          rw [Addr.add_mid, h2 j hjl, ← hj, cb_get bs j hjl])
        (fun j hj => by rw [hg.cell, List.getElem?_eq_getElem (by rw [cb_len, hl]; rw [cb_len, hbs] at hj; omega)]; rfl) (fun j _ => hg.frozen _) (cb_one _)
  rw [cb_len, hbs] at hcp
  unfold execOp
  rw [ho]
  simp [resolve, invoke, builtin, hs, hx, hcp, Result.andThen]
theorem wpSeq_copyY {ops : Array Oper} {Q : Exit → Act → World → Prop} {rest : List Oper} {o : Oper} {a : Act} {w : World} (s x : Operand) (g b off n cap : Nat) (l bs : List (BitVec 8)) (hg : Blk w g (cb l) 23) (hl : l.length = 32) (hbs : bs.length = 32) (hn : 32 ≤ n) (hc2 : ∃ c, Reads w (.slice (some ⟨b, off, none⟩) 32 c) bs) (ho : o.op = .call { callee := .builtin .copy, args := #[s, x], argTypes := #[28, 28] }) (hs : a.eval s = .slice (some ⟨g, 0, none⟩) 32 32) (hx : a.eval x = .slice (some ⟨b, off, none⟩) n cap) (hw : Region.wanted o (yielded ops a.tmps) = true)
    (h : ∀ w', SetB bs w g w' → wpList Tryd.prog ops Q rest (a.put o.dst (goInt 32)) w') : wpList Tryd.prog ops Q (o :: rest) a w :=
  wpSeq_val _ _ hw (copy_run a.eval o s x ho w g b off n cap l bs hg hl hbs hn hc2 hs hx) (h _ (SetB.of l bs hl hbs hg))
theorem results_digs2 {fn : Func} {p q : Tmp} (h : fn.results = #[.cell p 23, .cell q 23]) (tmps : Array Value) (w : World) (g1 g2 : Nat) (l1 l2 : List (BitVec 8)) (h1 : l1.length = 32) (h2 : l2.length = 32)
    (hp : tmps.getD p undef = .pointer (some ⟨g1, 0, none⟩)) (hq : tmps.getD q undef = .pointer (some ⟨g2, 0, none⟩)) (hb1 : Blk w g1 (cb l1) 23) (hb2 : Blk w g2 (cb l2) 23) : (results fn tmps).run Tryd.prog w = .ok (.tuple #[.agg (cb l1).toArray, .agg (cb l2).toArray]) w := by
  have hp' : tmps[p]?.getD undef = .pointer (some ⟨g1, 0, none⟩) := by simpa using hp
  have hq' : tmps[q]?.getD undef = .pointer (some ⟨g2, 0, none⟩) := by simpa using hq
  have e1 := run_loadVar_row (P := Tryd.prog) w g1 23 23 (cb l1).toArray (0, 0) _ hb1 Tryd.underlying23 rfl (by rw [List.size_toArray, cb_len, h1]; exact info_digest)
  have e2 := run_loadVar_row (P := Tryd.prog) w g2 23 23 (cb l2).toArray (0, 0) _ hb2 Tryd.underlying23 rfl (by rw [List.size_toArray, cb_len, h2]; exact info_digest)
  simp [results, h, hp', hq', asAddr, e1, e2]
set_option maxRecDepth 100000 in
set_option maxHeartbeats 8000000 in
theorem lHalves_any (vs : Value) (sig : List (BitVec 8)) (i : Nat) (w : World) (hs : Reads w vs sig) (h16 : sig.length = 16384) (hi : i < 256) :
    Calls Tryd.prog 103 #[vs, .int .i64 (i : Int)] w fun e w' => e = .returned (.tuple #[.agg (cb (blk32 sig (2 * i))).toArray, .agg (cb (blk32 sig (2 * i + 1))).toArray]) ∧ Below w.heap.size w w' := by
  obtain ⟨bs, offs, cps, hcp, rfl⟩ : ∃ bs offs cps, 16384 ≤ cps ∧ vs = .slice (some ⟨bs, offs, none⟩) 16384 cps := by
    obtain ⟨ad', cp', hv', hc, _, hx⟩ := id hs
    obtain ⟨bs, offs, rfl, _⟩ := hx (by omega)
    rw [h16] at hv' hc
    exact ⟨bs, offs, cp', hc, hv'⟩
  obtain ⟨pa, HPA⟩ : ∃ r, Hid (r = blk32 sig (2 * i)) := ⟨_, rfl⟩
  obtain ⟨pb, HPB⟩ : ∃ r, Hid (r = blk32 sig (2 * i + 1)) := ⟨_, rfl⟩
  have HPAL : Hid (pa.length = 32) := by show _ = _; rw [HPA.out]; exact len_blk32 (by omega)
  have HPBL : Hid (pb.length = 32) := by show _ = _; rw [HPB.out]; exact len_blk32 (by omega)
  have HCA : Hid (∀ W, Below w.heap.size w W → ∃ c, Reads W (.slice (some ⟨bs, offs + 64 * i, none⟩) 32 c) pa) := fun W hh => by
    have h := (hs.below hh).cut (2 * i) (by omega)
    rw [← HPA.out, show 32 * (2 * i) = 64 * i by omega] at h
    exact ⟨_, h⟩
  have HCB : Hid (∀ W, Below w.heap.size w W → ∃ c, Reads W (.slice (some ⟨bs, offs + 64 * i + 32, none⟩) 32 c) pb) := fun W hh => by
    have h := (hs.below hh).cut (2 * i + 1) (by omega)
    rw [← HPB.out, show 32 * (2 * i + 1) = 64 * i + 32 by omega, ← Nat.add_assoc] at h
    exact ⟨_, h⟩
  rw [← HPA.out, ← HPB.out]
  have HBW : Hid (Below w.heap.size w w) := Below.refl _ _
  have HCP : Hid (16384 ≤ cps ∧ i < 256) := ⟨hcp, hi⟩
  have f6 : IntKind.i64.wrap ((i : Int) * 64) = (i : Int) * 64 := by rw [IntKind.wrap_i64]; omega
  clear hs h16 hi hcp HPA HPB
  go_enter Tryd.func103, Tryd.ntmps103
  have tk1 : Hid True := trivial
  have tk2 : Hid True := trivial
  have tk3 : Hid True := trivial
  have tk4 : Hid True := trivial
  go_wp2_with (first
    | (clear tk1; with_reducible refine wpSeq_allocD ?_ ?_ ?_
       · rfl
       · rfl
       intro ga y1 nn
       have HGA : Hid (w.heap.size ≤ ga) := Nat.le_trans HBW.out.size nn.ge
       replace HBW : Hid (Below w.heap.size w y1) := HBW.out.trans (nn.below.mono HBW.out.size)
       have HA : Hid (Blk y1 ga (cb zb32) 23) := nn.blk
       clear nn)
    | (clear tk2; with_reducible refine wpSeq_allocD ?_ ?_ ?_
       · rfl
       · rfl
       intro gb y2 nn
       have HGB : Hid (w.heap.size ≤ gb) := Nat.le_trans HBW.out.size nn.ge
       have HNE : Hid (ga ≠ gb) := by have h1 := HA.out.lt; have h2 := nn.ge; show _ ≠ _; omega
       replace HBW : Hid (Below w.heap.size w y2) := HBW.out.trans (nn.below.mono HBW.out.size)
       replace HA : Hid (Blk y2 ga (cb zb32) 23) := HA.out.below nn.below HA.out.lt
       have HB : Hid (Blk y2 gb (cb zb32) 23) := nn.blk
       clear nn)
    | (clear tk3; with_reducible refine wpSeq_from (.tmp 7) (.tmp 9) bs offs 16384 cps (64 * i) ((i : Int) * 64) ?_ ?_ ?_ ?_ ?_ ?_ ?_ ?_
       · have := HCP.out.2; omega
       · have := HCP.out.2; omega
       · exact HCP.out.1
       · rfl
       · rfl
       · rfl
       · rfl
       obtain ⟨n1, HN1⟩ : ∃ n, Hid (n = 16384 - 64 * i) := ⟨_, rfl⟩
       obtain ⟨c1, HC1⟩ : ∃ n, Hid (n = cps - 64 * i) := ⟨_, rfl⟩
       obtain ⟨o1, HO1⟩ : ∃ n, Hid (n = offs + 64 * i) := ⟨_, rfl⟩
       rw [← HN1.out, ← HC1.out, ← HO1.out]
       replace HCA : Hid (∀ W, Below w.heap.size w W → ∃ c, Reads W (.slice (some ⟨bs, o1, none⟩) 32 c) pa) := by rw [HO1.out]; exact HCA.out
       replace HCB : Hid (∀ W, Below w.heap.size w W → ∃ c, Reads W (.slice (some ⟨bs, o1 + 32, none⟩) 32 c) pb) := by rw [HO1.out]; exact HCB.out
       have HN2 : Hid (64 ≤ n1 ∧ n1 ≤ c1) := by have h1 := HCP.out.1; have h2 := HCP.out.2; have h3 := HN1.out; have h4 := HC1.out; exact ⟨by omega, by omega⟩
       clear HN1 HC1 HO1)
    | (clear tk4; with_reducible refine wpSeq_copyY (.tmp 11) (.tmp 12) ga bs o1 n1 c1 zb32 pa HA.out rfl HPAL.out (by have := HN2.out.1; omega) (HCA.out _ HBW.out) ?_ ?_ ?_ ?_ ?_
       · rfl
       · rfl
       · rfl
       · rfl
       intro y3 hs
       replace HA : Hid (Blk y3 ga (cb pa) 23) := hs.blk
       replace HB : Hid (Blk y3 gb (cb zb32) 23) := HB.out.only hs.only (fun e => HNE.out e.symm)
       replace HBW : Hid (Below w.heap.size w y3) := HBW.out.trans (hs.only.below HGA.out HBW.out.size)
       clear hs))
  refine wp_region_held_drew (S := fun _ => True) (by kernel_rfl) trivial ?_
  intro hS
  replace HA : Hid (Blk (World.drew y3) ga (cb pa) 23) := HA.out.drew
  replace HB : Hid (Blk (World.drew y3) gb (cb zb32) 23) := HB.out.drew
  replace HBW : Hid (Below w.heap.size w (World.drew y3)) := HBW.out.drew
  change wpAnyH _ _ _ _ _ _ _ _ (World.drew y3)
  generalize World.drew y3 = q at *
  try simp only [Act.put, List.setIfInBounds_toArray, List.set_cons_zero, List.set_cons_succ]
  refine wpAnyH_take (i := 0) (v := .slice (some ⟨gb, 0, none⟩) 32 32) rfl (by kernel_rfl) (by kernel_rfl) (by kernel_rfl) (fun _ _ _ h => h) (Or.inl ⟨by rfl, fun wx hx => by simp [execOp, Act.eval, slice_dig]⟩) hS ?_
  simp only [Act.put, List.getElem_toArray, List.getElem_cons_zero, List.setIfInBounds_toArray, List.set_cons_zero, List.set_cons_succ]
  refine wpAnyH_take (i := 1) (v := .slice (some ⟨bs, o1, none⟩) n1 c1) rfl (by kernel_rfl) (by kernel_rfl) (by kernel_rfl) (fun _ _ _ h => h) (Or.inl ⟨by rfl, fun wx hx => by simp [go_sem]⟩) hS ?_
  simp only [Act.put, List.getElem_toArray, List.getElem_cons_succ, List.getElem_cons_zero, List.setIfInBounds_toArray, List.set_cons_zero, List.set_cons_succ]
  refine wpAnyH_take (i := 2) (v := .slice (some ⟨bs, o1 + 32, none⟩) (n1 - 32) (c1 - 32)) rfl (by kernel_rfl) (by kernel_rfl) (by kernel_rfl) (fun _ _ _ h => h) (Or.inl ⟨by rfl, fun wx hx => by exact from_op _ _ (.tmp 15) (.const (.int .i64 32)) rfl bs o1 n1 c1 32 rfl 32 rfl rfl (by have := HN2.out.1; omega) HN2.out.2 _⟩) hS ?_
  simp only [Act.put, List.getElem_toArray, List.getElem_cons_succ, List.getElem_cons_zero, List.setIfInBounds_toArray, List.set_cons_zero, List.set_cons_succ]
  refine wpAnyH_step 3 (goInt 32) (q.setCells gb 0 (cb pb)) (by kernel_rfl) rfl (by rfl) (copy_run _ _ (.tmp 14) (.tmp 16) rfl q gb bs (o1 + 32) (n1 - 32) (c1 - 32) zb32 pb HB.out rfl HPBL.out (by have := HN2.out.1; omega) (HCB.out _ HBW.out) rfl rfl) trivial ?_
  simp only [Act.put, List.getElem_toArray, List.getElem_cons_succ, List.getElem_cons_zero, List.setIfInBounds_toArray, List.set_cons_zero, List.set_cons_succ]
  refine wpAnyH_done (by kernel_rfl) ?_ _
  have hs : SetB pb q gb (q.setCells gb 0 (cb pb)) := SetB.of zb32 pb rfl HPBL.out HB.out
  replace HB : Hid (Blk (q.setCells gb 0 (cb pb)) gb (cb pb) 23) := hs.blk
  replace HA : Hid (Blk (q.setCells gb 0 (cb pb)) ga (cb pa) 23) := HA.out.only hs.only HNE.out
  replace HBW : Hid (Below w.heap.size w (q.setCells gb 0 (cb pb))) := HBW.out.trans (hs.only.below HGB.out HBW.out.size)
  clear hs hS HCA HCB
  generalize q.setCells gb 0 (cb pb) = y4 at *
  have tk5 : Hid True := trivial
  have tk6 : Hid True := trivial
  have tk7 : Hid True := trivial
  have tk8 : Hid True := trivial
  go_wp2_with (first
    | (clear tk5; with_reducible refine wpSeq_loadD (.tmp 4) ga pa ?_ ?_ ?_ ?_ ?_ ?_
       · exact HPAL.out
       · exact HA.out
       · rfl
       · rfl
       · rfl)
    | (clear tk6; with_reducible refine wpSeq_loadD (.tmp 5) gb pb ?_ ?_ ?_ ?_ ?_ ?_
       · exact HPBL.out
       · exact HB.out
       · rfl
       · rfl
       · rfl)
    | (clear tk7; with_reducible refine wpSeq_storeD (.tmp 4) (.tmp 18) ga pa pa ?_ ?_ ?_ ?_ ?_ ?_ ?_ ?_
       · exact HPAL.out
       · exact HPAL.out
       · exact HA.out
       · rfl
       · rfl
       · rfl
       · rfl
       intro y5 hs
       replace HA : Hid (Blk y5 ga (cb pa) 23) := hs.blk
       replace HB : Hid (Blk y5 gb (cb pb) 23) := HB.out.only hs.only (fun e => HNE.out e.symm)
       replace HBW : Hid (Below w.heap.size w y5) := HBW.out.trans (hs.only.below HGA.out HBW.out.size)
       clear hs)
    | (clear tk8; with_reducible refine wpSeq_storeD (.tmp 5) (.tmp 19) gb pb pb ?_ ?_ ?_ ?_ ?_ ?_ ?_ ?_
       · exact HPBL.out
       · exact HPBL.out
       · exact HB.out
       · rfl
       · rfl
       · rfl
       · rfl
       intro y6 hs
       replace HA : Hid (Blk y6 ga (cb pa) 23) := HA.out.only hs.only HNE.out
       replace HB : Hid (Blk y6 gb (cb pb) 23) := hs.blk
       replace HBW : Hid (Below w.heap.size w y6) := HBW.out.trans (hs.only.below HGB.out HBW.out.size)
       clear hs))
  exact bodyPost_ret (results_digs2 (by rfl) _ _ ga gb pa pb HPAL.out HPBL.out rfl rfl HA.out HB.out) rfl ⟨rfl, HBW.out⟩
end Go.Proofs.YtableajopaappaaDoor
/- The walks of lamport's Text and Public (layer 10). -/
namespace Go.Proofs.YtableajopaappaaDoor
open Go.RowKit Go.Shelf
set_option maxRecDepth 100000
theorem OwnB.lower {w : World} {base B : Nat} {v : Value} {l : List (BitVec 8)} (h : OwnB w base v l) (hB : B ≤ base) : OwnB w B v l := by
  obtain ⟨h1, h2⟩ := h
  refine ⟨h1, ?_⟩
  rcases h2 with h2 | ⟨g, cap, cur, rfl, hb, r⟩
  · exact Or.inl h2
  · exact Or.inr ⟨g, cap, cur, rfl, Nat.le_trans hB hb, r⟩
end Go.Proofs.YtableajopaappaaDoor
/- The walk of lamport's Sign (layer 10): a loop over path.Bits. -/
namespace Go.Proofs.YtableajopaappaaDoor
open Go.RowKit Go.Shelf
set_option maxRecDepth 100000
attribute [local go_sem] Oper.semAt_some
theorem wpSeq_allocB {ops : Array Oper} {Q : Exit → Act → World → Prop} {rest : List Oper} {o : Oper} {a : Act} {w : World} (ho : o.op = .alloc 28) (hw : Region.wanted o (yielded ops a.tmps) = true)
    (h : ∀ g w', NewC (.slice none 0 0) 28 w g w' → wpList Tryd.prog ops Q rest (a.put o.dst (.pointer (some ⟨g, 0, none⟩))) w') : wpList Tryd.prog ops Q (o :: rest) a w :=
  wpSeq_val _ _ hw (by unfold execOp; rw [ho]; kernel_rfl) (h _ _ (NewC.of (.slice none 0 0) 28 w))
/-- a slice put into its box -/
theorem OwnB.boxed {y : World} {base gO : Nat} {v v' u : Value} {l : List (BitVec 8)} (h : OwnB y base v' l) (hb : Blk y gO [v] 28) : OwnB (y.setCell ⟨gO, 0, none⟩ u) base v' l := by
  have ho : Only gO y (y.setCell ⟨gO, 0, none⟩ u) := Only.setCell (Only.refl gO y) 0 u
  have hne := h.ne hb (by decide)
  obtain ⟨e1, e2⟩ := h
  refine ⟨e1, ?_⟩
  rcases e2 with e2 | ⟨g, cap, cur, rfl, hg2, hh, r⟩
  · exact Or.inl e2
  · refine Or.inr ⟨g, cap, cur, rfl, hg2, ?_, r⟩
    rw [ho.block g (fun e => hne (by rw [e]; rfl)) (Array.getElem?_eq_some_iff.1 hh).1]
    exact hh
theorem RoI.kept {w W y y1 : World} {gO : Nat} {l l' : List (BitVec 8)} {v v' : Value} (h : RoI w gO l W y) (hgO : w.heap.size ≤ gO) (h1 : Blk y gO [v] 28) (hk : KeptB w.heap.size y y1) (h3 : OwnB y1 w.heap.size v' l') : RoI w gO l' W (y1.setCell ⟨gO, 0, none⟩ v') := by
  have hb := hk.blk gO [v] _ (by decide) h1
  exact ⟨⟨v', by simpa using hb.set 0 v', h3.boxed hb⟩, (h.bel.trans hk.bel).trans ((Only.setCell (Only.refl gO y1) 0 v').below hgO (Nat.le_trans h.bel.size hk.bel.size)), (h.kp.trans hk.oth).trans (KeepsOthers.setCell _ _ _)⟩
theorem KeptB.boxed {base : Nat} {y y1 : World} {gO g : Nat} {v' : Value} {cs : List Value} {t : TypeId} (hk : KeptB base y y1) (h : Blk y g cs t) (ht : t ≠ 5) (hne : g ≠ gO) : Blk (y1.setCell ⟨gO, 0, none⟩ v') g cs t :=
  (hk.blk g cs t ht h).only (Only.setCell (Only.refl gO y1) 0 v') hne
theorem blk_ne {y : World} {g gO : Nat} {cs ds : List Value} {t u : TypeId} (h : Blk y g cs t) (h1 : Blk y gO ds u) (ht : t ≠ u) : g ≠ gO := by
  rintro rfl
  unfold Blk at h h1
  rw [h] at h1
  simp only [Option.some.injEq, Obj.cells.injEq] at h1
  exact ht h1.2.1
/-- a slice of bytes stored into its box -/
theorem wpSeq_storeS {ops : Array Oper} {Q : Exit → Act → World → Prop} {rest : List Oper} {o : Oper} {a : Act} {w : World} (x y : Operand) (gO : Nat) (v : Value) (ad : Option Addr) (n c : Nat) (hb : Blk w gO [v] 28) (ho : o.op = .store 28 x y) (hx : a.eval x = .pointer (some ⟨gO, 0, none⟩)) (hy : a.eval y = .slice ad n c) (hw : Region.wanted o (yielded ops a.tmps) = true)
    (h : ∀ w', w' = w.setCell ⟨gO, 0, none⟩ (.slice ad n c) → wpList Tryd.prog ops Q rest (a.put o.dst undef) w') : wpList Tryd.prog ops Q (o :: rest) a w := by
  have hc : w.cell? ⟨gO, 0, none⟩ = some v := hb.cell 0
  have hf : w.frozen? ⟨gO, 0, none⟩ = false := hb.frozen 0
  have he : (execOp a.eval o).run Tryd.prog w = .ok .skip (w.setCell ⟨gO, 0, none⟩ (.slice ad n c)) := by
    clear h hw
    generalize a.eval = f at hx hy ⊢
    unfold execOp
    rw [ho]
    simp [go_sem, hx, hy, hc, hf]
  unfold wpList
  simp only [hw, if_true]
  left
  unfold Oper.wp
  rw [he, Oper.upon_skip]
  exact h _ rfl
end Go.Proofs.YtableajopaappaaDoor
/- The walk of lamport's Opened (layer 10): a loop over path.Bits that is gone on from by a label. -/
namespace Go.Proofs.YtableajopaappaaDoor
open Go.RowKit Go.Shelf
set_option maxRecDepth 100000
attribute [local go_sem] Oper.semAt_some
/-- what a list of places makes of a signature -/
def openB (on : Nat → Bool) (sig : List (BitVec 8)) (q : Nat) : List (BitVec 8) := if on q then blk32 sig (2 * q + 1) ++ dig (blk32 sig (2 * q)) else dig (blk32 sig (2 * q)) ++ blk32 sig (2 * q + 1)
def openF (on : Nat → Bool) (sig : List (BitVec 8)) (pre : List {k : Nat // k < 256}) : List (BitVec 8) := 80 :: (pre.map fun q => openB on sig q.1).flatten
theorem openF_snoc (on : Nat → Bool) (sig : List (BitVec 8)) (pre : List {k : Nat // k < 256}) (q : {k : Nat // k < 256}) : openF on sig (pre ++ [q]) = openF on sig pre ++ openB on sig q.1 := by simp [openF]
theorem openF_path (on : Nat → Bool) (sig : List (BitVec 8)) (k : Nat) (h : k ≤ 256) : openF on sig (pathT k) = openR on sig k := by
  induction k with
  | zero => rfl
  | succ k ih => rw [pathT_succ k (by omega), openF_snoc, ih (by omega), openR]; rfl
theorem openB_len (on : Nat → Bool) {sig : List (BitVec 8)} (h : sig.length = 16384) (q : {k : Nat // k < 256}) : (openB on sig q.1).length = 64 := by
  have h1 : (blk32 sig (2 * q.1 + 1)).length = 32 := len_blk32 (by have := q.2; omega)
  unfold openB
  split <;> rw [List.length_append, len_dig', h1]
theorem openF_len (on : Nat → Bool) {sig : List (BitVec 8)} (h : sig.length = 16384) (pre : List {k : Nat // k < 256}) : (openF on sig pre).length = 64 * pre.length + 1 := by
  unfold openF
  rw [List.length_cons]
  congr 1
  induction pre with
  | nil => rfl
  | cons q r ih => rw [List.map_cons, List.flatten_cons, List.length_append, openB_len on h, ih, List.length_cons]; omega
theorem noGoto_ret {Q : Exit → Act → World → Prop} {a : Act} {w : World} (h : Q .ret a w) : Exit.noGoto Q .ret a w := h
theorem wpSeq_boxS {ops : Array Oper} {Q : Exit → Act → World → Prop} {rest : List Oper} {o : Oper} {a : Act} {w : World} (x : Operand) (ad : Option Addr) (n c : Nat) (ho : o.op = .box 28 x) (hx : a.eval x = .slice ad n c) (hw : Region.wanted o (yielded ops a.tmps) = true)
    (h : ∀ g w', NewC (.slice ad n c) 28 w g w' → wpList Tryd.prog ops Q rest (a.put o.dst (.pointer (some ⟨g, 0, none⟩))) w') : wpList Tryd.prog ops Q (o :: rest) a w :=
  wpSeq_val _ _ hw (by unfold execOp; rw [ho]; simp only [hx]; rfl) (h _ _ (NewC.of (.slice ad n c) 28 w))
set_option maxRecDepth 100000 in
set_option maxHeartbeats 8000000 in
theorem lOpened_any (vb vs : Value) (b sig : List (BitVec 8)) (w : World) (hK : KOk w) (hb : Reads w vb b) (hs : Reads w vs sig) (hl : b.length < 140737488350000) :
    Calls Tryd.prog 91 #[vb, vs] w (OpenA w b sig) := by
  obtain ⟨ab, cbb, hvb, hqb⟩ := id hb
  clear hqb
  obtain ⟨nb, HNB⟩ : ∃ n, Hid (n = b.length) := ⟨_, rfl⟩
  rw [← HNB.out] at hvb
  by_cases h16 : sig.length = 16384
  · obtain ⟨bs, offs, cps, rfl⟩ : ∃ bs offs cps, vs = .slice (some ⟨bs, offs, none⟩) 16384 cps := by
      obtain ⟨ad', cp', hv', hc, _, hx⟩ := id hs
      obtain ⟨bs, offs, rfl, _⟩ := hx (by omega)
      rw [h16] at hv'
      exact ⟨bs, offs, cp', hv'⟩
    obtain ⟨d, HDD⟩ : ∃ d, Hid (d = dig b) := ⟨_, rfl⟩
    have HDL : Hid (d.length = 32) := by show _ = _; rw [HDD.out]; exact len_dig' _
    have HL : Hid (openL b sig = openR (bt d) sig 256 ∧ openE sig = 0) := by show _ ∧ _; rw [openL, openE, if_pos h16, if_pos h16, HDD.out]; exact ⟨rfl, rfl⟩
    have HSL : Hid (sig.length = 16384) := h16
    have HC0 : Hid (∀ W : World, Below w.heap.size w W → Calls Tryd.prog 75 #[vb] W fun e w' => e = .returned (.agg (cb d).toArray) ∧ Below W.heap.size W w') := fun W hh => by rw [HDD.out]; exact tOf_any vb b W (hK.below hh hK.lt) (hb.below hh) (by omega)
    have HC1 : Hid (∀ (W : World) (v : Value) (p : List (BitVec 8)), Below w.heap.size w W → p.length = 32 → Reads W v p → Calls Tryd.prog 75 #[v] W fun e w' => e = .returned (.agg (cb (dig p)).toArray) ∧ Below W.heap.size W w') := fun W v p hh hp hv => tOf_any v p W (hK.below hh hK.lt) hv (by rw [hp]; decide)
    have HC2 : Hid (∀ W : World, Below w.heap.size w W → ∀ i : Nat, i < 256 → Calls Tryd.prog 103 #[.slice (some ⟨bs, offs, none⟩) 16384 cps, .int .i64 (i : Int)] W fun e w' => e = .returned (.tuple #[.agg (cb (blk32 sig (2 * i))).toArray, .agg (cb (blk32 sig (2 * i + 1))).toArray]) ∧ Below W.heap.size W w') := fun W hh i hi => lHalves_any _ sig i W (hs.below hh) h16 hi
    have HBW : Hid (Below w.heap.size w w) := Below.refl _ _
    subst hvb
    clear hb hs hl h16 HDD hK
    refine (callsIn_wide (n := 4)).1 ?_
    refine callsIn_of_wp_marks Tryd.func91 rfl trivial ?_ rfl
    simp only [Tryd.ntmps91, List.size_toArray, List.length_cons, List.length_nil, Nat.reduceAdd, Nat.reduceSub, Array.replicate_succ, Array.replicate_zero, List.push_toArray, List.append_toArray, List.nil_append, List.cons_append]
    refine wpIn_wide.2 ?_
    go_wp2_with (first
    | (with_reducible refine wpSeq_boxS (.tmp 1) (some ⟨bs, offs, none⟩) 16384 cps ?_ ?_ ?_ ?_
       · rfl
       · rfl
       · rfl
       intro gS w1 nn
       have HSB : Hid (Blk w1 gS [.slice (some ⟨bs, offs, none⟩) 16384 cps] 28) := nn.blk
       have csb : w1.cell? ⟨gS, 0, none⟩ = some (.slice (some ⟨bs, offs, none⟩) 16384 cps) := nn.blk.cell 0
       replace HBW : Hid (Below w.heap.size w w1) := HBW.out.trans (nn.below.mono HBW.out.size)
       clear nn))
    refine wp_scope_straight ?_
    go_wp2_with (first
    | (go_at_call 101; refine (lBegun_any _).mono ?_; rintro e w2 ⟨v0, rfl, hown, hbz⟩
       obtain ⟨a0, c0, hf⟩ := hown.form
       rw [show ([80] : List (BitVec 8)).length = 1 from rfl] at hf
       subst hf
       clear csb
       have HM : Hid (OwnB w2 w.heap.size (.slice a0 1 c0) [80]) := hown.lower HBW.out.size
       replace HSB : Hid (Blk w2 gS [.slice (some ⟨bs, offs, none⟩) 16384 cps] 28) := HSB.out.below hbz HSB.out.lt
       replace HBW : Hid (Below w.heap.size w w2) := HBW.out.trans (hbz.mono HBW.out.size)
       clear hbz hown)
    | (with_reducible refine wpSeq_allocB ?_ ?_ ?_
       · rfl
       · rfl
       intro gO w3 nn
       have HGO : Hid (w.heap.size ≤ gO) := Nat.le_trans HBW.out.size nn.ge
       have HNE : Hid (gS ≠ gO) := by have h1 := HSB.out.lt; have h3 := nn.ge; show _ ≠ _; omega
       replace HSB : Hid (Blk w3 gS [.slice (some ⟨bs, offs, none⟩) 16384 cps] 28) := HSB.out.below nn.below HSB.out.lt
       replace HM : Hid (OwnB w3 w.heap.size (.slice a0 1 c0) [80]) := HM.out.below nn.below (Nat.le_refl _)
       replace HBW : Hid (Below w.heap.size w w3) := HBW.out.trans (nn.below.mono HBW.out.size)
       have HO : Hid (Blk w3 gO [.slice none 0 0] 28) := nn.blk
       clear nn)
    | (with_reducible refine wpSeq_storeS (.tmp 6) (.tmp 14) gO (.slice none 0 0) a0 1 c0 ?_ ?_ ?_ ?_ ?_ ?_
       · exact HO.out
       · rfl
       · rfl
       · rfl
       · rfl
       intro w4 h4
       have hon : Only gO w3 w4 := by rw [h4]; exact Only.setCell (Only.refl gO w3) 0 _
       replace HO : Hid (OutI w.heap.size gO [80] w4) := by rw [h4]; exact ⟨_, by simpa using HO.out.set 0 (.slice a0 1 c0), HM.out.boxed HO.out⟩
       replace HSB : Hid (Blk w4 gS [.slice (some ⟨bs, offs, none⟩) 16384 cps] 28) := HSB.out.only hon HNE.out
       replace HBW : Hid (Below w.heap.size w w4) := HBW.out.trans (hon.below HGO.out HBW.out.size)
       clear hon HM h4))
    refine wp_label ?_
    go_wp2_with (first
    | (go_at_call 75; refine (HC0.out _ HBW.out).mono ?_; rintro e w6 ⟨rfl, hbz⟩
       replace HSB : Hid (Blk w6 gS [.slice (some ⟨bs, offs, none⟩) 16384 cps] 28) := HSB.out.below hbz HSB.out.lt
       replace HO : Hid (OutI w.heap.size gO [80] w6) := HO.out.next hbz
       replace HBW : Hid (Below w.heap.size w w6) := HBW.out.trans (hbz.mono HBW.out.size)
       clear hbz)
    | (go_at_call 102; refine (pBits_any d _).mono ?_; rintro e w7 ⟨g3, rfl, nn⟩
       replace HSB : Hid (Blk w7 gS [.slice (some ⟨bs, offs, none⟩) 16384 cps] 28) := HSB.out.below nn.below HSB.out.lt
       replace HO : Hid (OutI w.heap.size gO [80] w7) := HO.out.next nn.below
       replace HBW : Hid (Below w.heap.size w w7) := HBW.out.trans (nn.below.mono HBW.out.size)
       have H3 : Hid (Blk w7 g3 (cb d) 23) := nn.blk
       clear nn))
    refine (wpIn_wide (n := 4)).1 ?_
    refine wpIn_rangeFunc_ownF (F := Fence.wide) rfl (by omega) (gf := 112) (lb := #[.pointer (some ⟨g3, 0, none⟩)]) rfl trivial (enters_of Tryd.func112 (by kernel_rfl) rfl)
      (bits_told 3 (by omega) g3 d HDL.out w7 H3.out) (fun _ _ => trivial) (fun _ _ _ _ _ _ _ _ => trivial) (Below.refl _ _) (fun _ => rfl)
      (fun pre W => OutI w.heap.size gO (openF (bt d) sig pre) W ∧ Blk W gS [.slice (some ⟨bs, offs, none⟩) 16384 cps] 28 ∧ Below w.heap.size w W) (fun _ _ _ => False)
      (OwnFrom.and (Own.from (OutI.own w.heap.size gO (openF (bt d) sig)) _) (OwnFrom.and (Own.from (blk_own gS (fun _ => [.slice (some ⟨bs, offs, none⟩) 16384 cps]) 28) _) (ownFrom_below (Nat.le_refl _) HBW.out.size)))
      (fun c s X Y row hs _ _ => hs.elim)
      ⟨HO.out, HSB.out, HBW.out⟩
      (fun z => { tmps := #[.slice ab nb cbb, .slice (some ⟨bs, offs, none⟩) 16384 cps, undef, .pointer (some ⟨gS, 0, none⟩), .slice none 0 0, .int .i64 0, .pointer (some ⟨gO, 0, none⟩), .int .i64 (z.1 : Int), .bool (bt d z.1), undef, undef, .slice (some ⟨bs, offs, none⟩) 16384 cps, .int .i64 16384, .bool false, .slice a0 1 c0, .slice ab nb cbb, .agg (cb d).toArray, .func (.func 112) #[] #[.pointer (some ⟨g3, 0, none⟩)], .int .i64 (z.1 : Int), .bool (bt d z.1), undef, undef, undef, undef, undef, undef, undef, undef, undef, undef, undef, undef, undef, undef, undef, undef, undef, undef], defers := [] }) ?assign ?body ?done ?stop
    case assign =>
      intro l z W K hK
      gi_wp2
      exact hK
    case body =>
      clear HSB HO H3
      rintro l pre z W ⟨hO, hX, hB⟩ hlen
      obtain ⟨lo, HLO⟩ : ∃ lo, Hid (lo = openF (bt d) sig pre) := ⟨_, rfl⟩
      have HLL : Hid (lo.length < 16386) := by show _ < _; rw [HLO.out, openF_len _ HSL.out]; omega
      have HSB : Hid (Blk W gS [.slice (some ⟨bs, offs, none⟩) 16384 cps] 28) := hX
      have HRO : Hid (RoI w gO lo W W) := ⟨by rw [HLO.out]; exact hO, hB, KeepsOthers.refl _⟩
      have HSN : Hid (openF (bt d) sig (pre ++ [z]) = lo ++ openB (bt d) sig z.1) := by rw [HLO.out]; exact openF_snoc _ _ _ _
      obtain ⟨pa, HPA⟩ : ∃ p, Hid (p = blk32 sig (2 * z.1)) := ⟨_, rfl⟩
      have HPAL : Hid (pa.length = 32) := by show _ = _; rw [HPA.out]; exact len_blk32 (by have := HSL.out; have := z.2; omega)
      obtain ⟨pb, HPB⟩ : ∃ p, Hid (p = blk32 sig (2 * z.1 + 1)) := ⟨_, rfl⟩
      have HPBL : Hid (pb.length = 32) := by show _ = _; rw [HPB.out]; exact len_blk32 (by have := HSL.out; have := z.2; omega)
      replace HSN : Hid (openF (bt d) sig (pre ++ [z]) = lo ++ if bt d z.1 then pb ++ dig pa else dig pa ++ pb) := by show _ = _; rw [HSN.out, HPA.out, HPB.out]; rfl
      obtain ⟨pd, HPD⟩ : ∃ p, Hid (p = dig pa) := ⟨_, rfl⟩
      have HPDL : Hid (pd.length = 32) := by show _ = _; rw [HPD.out]; exact len_dig' _
      rw [← HPD.out] at HSN
      obtain ⟨o, HOO⟩ : ∃ o, Hid (o = bt d z.1) := ⟨_, rfl⟩
      rw [← HOO.out] at HSN
      simp only [← HOO.out]
      clear hO hX hB HLO hlen HOO
      have tka : Hid True := trivial
      have tkb : Hid True := trivial
      have tkc : Hid True := trivial
      have tkd : Hid True := trivial
      refine wpIn_block (wpIn_seq ?_)
      refine wpIn_round_list (by kernel_rfl) (by rintro ⟨_, _, h⟩; exact h) ?_
      have csb : W.cell? ⟨gS, 0, none⟩ = some (.slice (some ⟨bs, offs, none⟩) 16384 cps) := HSB.out.cell 0
      go_wp2_with (first
      | (go_at_call 103; refine (HC2.out _ HRO.out.bel z.1 z.2).mono ?_; rintro e y1 ⟨rfl, hbz⟩
         rw [← HPA.out, ← HPB.out]
         replace HRO : Hid (RoI w gO lo W y1) := HRO.out.next hbz
         replace HSB : Hid (Blk y1 gS [.slice (some ⟨bs, offs, none⟩) 16384 cps] 28) := HSB.out.below hbz HSB.out.lt
         clear hbz csb)
      | (clear tka; with_reducible refine wpSeq_allocD ?_ ?_ ?_
         · rfl
         · rfl
         intro ga y2 nn
         have HGA : Hid (y1.heap.size ≤ ga) := nn.ge
         have HA : Hid (Blk y2 ga (cb zb32) 23) := nn.blk
         have HAB : Hid (Below y1.heap.size y1 y2) := nn.below
         clear nn)
      | (clear tkb; with_reducible refine wpSeq_allocD ?_ ?_ ?_
         · rfl
         · rfl
         intro gb y3 nn
         have HGB : Hid (y1.heap.size ≤ gb) := Nat.le_trans HAB.out.size nn.ge
         have HNAB : Hid (ga ≠ gb) := by have h1 := HA.out.lt; have h3 := nn.ge; show _ ≠ _; omega
         replace HA : Hid (Blk y3 ga (cb zb32) 23) := HA.out.below nn.below HA.out.lt
         have HB : Hid (Blk y3 gb (cb zb32) 23) := nn.blk
         replace HAB : Hid (Below y1.heap.size y1 y3) := HAB.out.trans (nn.below.mono HAB.out.size)
         clear nn)
      | (clear tkc; with_reducible refine wpSeq_storeD (.tmp 9) (.tmp 24) ga zb32 pa ?_ ?_ ?_ ?_ ?_ ?_ ?_ ?_
         · rfl
         · exact HPAL.out
         · exact HA.out
         · rfl
         · rfl
         · rfl
         · rfl
         intro y4 hs
         replace HA : Hid (Blk y4 ga (cb pa) 23) := hs.blk
         replace HB : Hid (Blk y4 gb (cb zb32) 23) := HB.out.only hs.only (fun e => HNAB.out e.symm)
         replace HAB : Hid (Below y1.heap.size y1 y4) := HAB.out.trans (hs.only.below HGA.out HAB.out.size)
         clear hs)
      | (clear tkd; with_reducible refine wpSeq_storeD (.tmp 10) (.tmp 25) gb zb32 pb ?_ ?_ ?_ ?_ ?_ ?_ ?_ ?_
         · rfl
         · exact HPBL.out
         · exact HB.out
         · rfl
         · rfl
         · rfl
         · rfl
         intro y5 hs
         replace HA : Hid (Blk y5 ga (cb pa) 23) := HA.out.only hs.only HNAB.out
         replace HB : Hid (Blk y5 gb (cb pb) 23) := hs.blk
         replace HAB : Hid (Below y1.heap.size y1 y5) := HAB.out.trans (hs.only.below HGB.out HAB.out.size)
         replace HRO : Hid (RoI w gO lo W y5) := HRO.out.next HAB.out
         replace HSB : Hid (Blk y5 gS [.slice (some ⟨bs, offs, none⟩) 16384 cps] 28) := HSB.out.below HAB.out HSB.out.lt
         clear hs HAB HGA HGB))
      clear HC2
      cases o with
      | true =>
        have HS2 : Hid (openF (bt d) sig (pre ++ [z]) = lo ++ pb ++ pd) := by show _ = _; rw [HSN.out, List.append_assoc]; rfl
        clear HSN
        gi_wp2
        refine wpIn_round_held (S := fun W => Blk W ga (cb pa) 23 ∧ Blk W gb (cb pb) 23) (by kernel_rfl) (by kernel_rfl) (by rintro ⟨_, _, h⟩; exact h) ⟨HA.out.drew, HB.out.drew⟩ ?_
        intro hS
        replace HRO : Hid (RoI w gO lo W (World.drew y5)) := HRO.out.drew
        replace HSB : Hid (Blk (World.drew y5) gS [.slice (some ⟨bs, offs, none⟩) 16384 cps] 28) := HSB.out.drew
        clear HA HB
        change wpAnyH _ _ _ _ _ _ _ _ (World.drew y5)
        generalize World.drew y5 = q at *
        obtain ⟨v, hv, ho⟩ := HRO.out.out
        obtain ⟨aq, cq, hf1⟩ := ho.form
        obtain ⟨nq, HNQ⟩ : ∃ n, Hid (n = lo.length) := ⟨_, rfl⟩
        rw [← HNQ.out] at hf1
        subst hf1
        have hcq : q.cell? ⟨gO, 0, none⟩ = some (.slice aq nq cq) := hv.cell 0
        try simp only [Act.put, List.setIfInBounds_toArray, List.set_cons_zero, List.set_cons_succ]
        refine wpAnyH_take (i := 1) (v := .agg (cb pb).toArray) rfl (by kernel_rfl) (by kernel_rfl) (by kernel_rfl) (fun _ _ _ h => h) (Or.inl ⟨by rfl, fun wx hx => by exact loadDigest _ gb pb HPBL.out hx.2 rfl rfl⟩) hS ?_
        simp only [Act.put, List.getElem_toArray, List.getElem_cons_succ, List.getElem_cons_zero, List.setIfInBounds_toArray, List.set_cons_zero, List.set_cons_succ]
        refine wpAnyH_take (i := 2) (v := .slice (some ⟨ga, 0, none⟩) 32 32) rfl (by kernel_rfl) (by kernel_rfl) (by kernel_rfl) (fun _ _ _ h => h) (Or.inl ⟨by rfl, fun wx hx => by simp [execOp, Act.eval, slice_dig]⟩) hS ?_
        simp only [Act.put, List.getElem_toArray, List.getElem_cons_succ, List.getElem_cons_zero, List.setIfInBounds_toArray, List.set_cons_zero, List.set_cons_succ]
        refine wpAnyH_readC 0 3 (.slice aq nq cq) (f := 75) (args := #[.slice (some ⟨ga, 0, none⟩) 32 32]) (by kernel_rfl) rfl rfl (by rfl) (by rfl) (fun _ => by rfl) (by rfl) (by simp [go_sem, hcq]) (by simp [go_sem]) (by simp [go_sem]) (HC1.out _ _ pa HRO.out.bel HPAL.out (hS.1.reads HPAL.out.symm (by rw [HPAL.out]; exact Nat.le_refl _))) (by kernel_rfl) (by kernel_rfl) (fun _ => by rfl) (by rfl) hS ?_
        rintro e y6 ⟨rfl, hbq⟩
        rw [← HPD.out]
        clear hcq
        replace HRO : Hid (RoI w gO lo W y6) := HRO.out.next hbq
        replace hS : Blk y6 ga (cb pa) 23 ∧ Blk y6 gb (cb pb) 23 := ⟨hS.1.below hbq hS.1.lt, hS.2.below hbq hS.2.lt⟩
        replace ho : OwnB y6 w.heap.size (.slice aq nq cq) lo := ho.below hbq (Nat.le_refl _)
        replace hv : Blk y6 gO [.slice aq nq cq] 28 := hv.below hbq hv.lt
        have hcy6 : y6.cell? ⟨gO, 0, none⟩ = some (.slice aq nq cq) := hv.cell 0
        replace HSB : Hid (Blk y6 gS [.slice (some ⟨bs, offs, none⟩) 16384 cps] 28) := HSB.out.below hbq HSB.out.lt
        clear hbq
        refine ⟨_, rfl, hS, by simp [go_sem, hcy6], ?_⟩
        simp only [Act.put, List.getElem_toArray, List.getElem_cons_succ, List.getElem_cons_zero, List.setIfInBounds_toArray, List.set_cons_zero, List.set_cons_succ]
        refine wpAnyH_enter 4 (by kernel_rfl) rfl (by rfl) (f := 104) (args := #[.slice aq nq cq, .agg (cb pb).toArray, .agg (cb pd).toArray]) (by simp [go_sem]) (lPut_any (.slice aq nq cq) lo pb pd w.heap.size y6 HRO.out.bel.size ho HPBL.out HPDL.out (by have := HLL.out; omega)) ?_
        rintro e y7 ⟨v9, rfl, ho9, hk9⟩
        obtain ⟨a9, c9, hv9⟩ := ho9.form
        obtain ⟨n9, HN9⟩ : ∃ n, Hid (n = (lo ++ pb ++ pd).length) := ⟨_, rfl⟩
        rw [← HN9.out] at hv9
        subst hv9
        have hb3 : Blk y7 gO [.slice aq nq cq] 28 := hk9.blk _ _ _ (by decide) hv
        have hc3 : y7.cell? ⟨gO, 0, none⟩ = some (.slice aq nq cq) := hb3.cell 0
        have hf3 : y7.frozen? ⟨gO, 0, none⟩ = false := hb3.frozen 0
        have hro := HRO.out.kept HGO.out hv hk9 ho9
        have hS2 : Blk (y7.setCell ⟨gO, 0, none⟩ (.slice a9 n9 c9)) ga (cb pa) 23 ∧ Blk (y7.setCell ⟨gO, 0, none⟩ (.slice a9 n9 c9)) gb (cb pb) 23 := ⟨hk9.boxed hS.1 (by decide) (blk_ne hS.1 hv (by decide)), hk9.boxed hS.2 (by decide) (blk_ne hS.2 hv (by decide))⟩
        have hsb : Blk (y7.setCell ⟨gO, 0, none⟩ (.slice a9 n9 c9)) gS [.slice (some ⟨bs, offs, none⟩) 16384 cps] 28 := hk9.boxed HSB.out (by decide) HNE.out
        refine ⟨_, rfl, ⟨hk9.blk _ _ _ (by decide) hS.1, hk9.blk _ _ _ (by decide) hS.2⟩, ?_⟩
        simp only [Act.put, List.getElem_toArray, List.getElem_cons_succ, List.getElem_cons_zero, List.setIfInBounds_toArray, List.set_cons_zero, List.set_cons_succ]
        refine wpAnyH_skip 5 (y7.setCell ⟨gO, 0, none⟩ (.slice a9 n9 c9)) (by kernel_rfl) rfl (by rfl) (by simp [go_sem, hc3, hf3]) hS2 ?_
        simp only [Act.put, List.getElem_toArray, List.getElem_cons_succ, List.getElem_cons_zero]
        refine wpAnyH_done (by kernel_rfl) ?_ _
        gi_wp2
        exact ⟨hro.kp, trivial, by rw [HS2.out]; exact hro.out, hsb, hro.bel⟩
      | false =>
        have HS2 : Hid (openF (bt d) sig (pre ++ [z]) = lo ++ pd ++ pb) := by show _ = _; rw [HSN.out, List.append_assoc]; rfl
        clear HSN
        gi_wp2
        refine wpIn_round_held (S := fun W => Blk W ga (cb pa) 23 ∧ Blk W gb (cb pb) 23) (by kernel_rfl) (by kernel_rfl) (by rintro ⟨_, _, h⟩; exact h) ⟨HA.out.drew, HB.out.drew⟩ ?_
        intro hS
        replace HRO : Hid (RoI w gO lo W (World.drew y5)) := HRO.out.drew
        replace HSB : Hid (Blk (World.drew y5) gS [.slice (some ⟨bs, offs, none⟩) 16384 cps] 28) := HSB.out.drew
        clear HA HB
        change wpAnyH _ _ _ _ _ _ _ _ (World.drew y5)
        generalize World.drew y5 = q at *
        obtain ⟨v, hv, ho⟩ := HRO.out.out
        obtain ⟨aq, cq, hf1⟩ := ho.form
        obtain ⟨nq, HNQ⟩ : ∃ n, Hid (n = lo.length) := ⟨_, rfl⟩
        rw [← HNQ.out] at hf1
        subst hf1
        have hcq : q.cell? ⟨gO, 0, none⟩ = some (.slice aq nq cq) := hv.cell 0
        try simp only [Act.put, List.setIfInBounds_toArray, List.set_cons_zero, List.set_cons_succ]
        refine wpAnyH_take (i := 1) (v := .slice (some ⟨ga, 0, none⟩) 32 32) rfl (by kernel_rfl) (by kernel_rfl) (by kernel_rfl) (fun _ _ _ h => h) (Or.inl ⟨by rfl, fun wx hx => by simp [execOp, Act.eval, slice_dig]⟩) hS ?_
        simp only [Act.put, List.getElem_toArray, List.getElem_cons_succ, List.getElem_cons_zero, List.setIfInBounds_toArray, List.set_cons_zero, List.set_cons_succ]
        refine wpAnyH_take (i := 3) (v := .agg (cb pb).toArray) rfl (by kernel_rfl) (by kernel_rfl) (by kernel_rfl) (fun _ _ _ h => h) (Or.inl ⟨by rfl, fun wx hx => by exact loadDigest _ gb pb HPBL.out hx.2 rfl rfl⟩) hS ?_
        simp only [Act.put, List.getElem_toArray, List.getElem_cons_succ, List.getElem_cons_zero, List.setIfInBounds_toArray, List.set_cons_zero, List.set_cons_succ]
        refine wpAnyH_readC 0 2 (.slice aq nq cq) (f := 75) (args := #[.slice (some ⟨ga, 0, none⟩) 32 32]) (by kernel_rfl) rfl rfl (by rfl) (by rfl) (fun _ => by rfl) (by rfl) (by simp [go_sem, hcq]) (by simp [go_sem]) (by simp [go_sem]) (HC1.out _ _ pa HRO.out.bel HPAL.out (hS.1.reads HPAL.out.symm (by rw [HPAL.out]; exact Nat.le_refl _))) (by kernel_rfl) (by kernel_rfl) (fun _ => by rfl) (by rfl) hS ?_
        rintro e y6 ⟨rfl, hbq⟩
        rw [← HPD.out]
        clear hcq
        replace HRO : Hid (RoI w gO lo W y6) := HRO.out.next hbq
        replace hS : Blk y6 ga (cb pa) 23 ∧ Blk y6 gb (cb pb) 23 := ⟨hS.1.below hbq hS.1.lt, hS.2.below hbq hS.2.lt⟩
        replace ho : OwnB y6 w.heap.size (.slice aq nq cq) lo := ho.below hbq (Nat.le_refl _)
        replace hv : Blk y6 gO [.slice aq nq cq] 28 := hv.below hbq hv.lt
        have hcy6 : y6.cell? ⟨gO, 0, none⟩ = some (.slice aq nq cq) := hv.cell 0
        replace HSB : Hid (Blk y6 gS [.slice (some ⟨bs, offs, none⟩) 16384 cps] 28) := HSB.out.below hbq HSB.out.lt
        clear hbq
        refine ⟨_, rfl, hS, by simp [go_sem, hcy6], ?_⟩
        simp only [Act.put, List.getElem_toArray, List.getElem_cons_succ, List.getElem_cons_zero, List.setIfInBounds_toArray, List.set_cons_zero, List.set_cons_succ]
        refine wpAnyH_enter 4 (by kernel_rfl) rfl (by rfl) (f := 104) (args := #[.slice aq nq cq, .agg (cb pd).toArray, .agg (cb pb).toArray]) (by simp [go_sem]) (lPut_any (.slice aq nq cq) lo pd pb w.heap.size y6 HRO.out.bel.size ho HPDL.out HPBL.out (by have := HLL.out; omega)) ?_
        rintro e y7 ⟨v9, rfl, ho9, hk9⟩
        obtain ⟨a9, c9, hv9⟩ := ho9.form
        obtain ⟨n9, HN9⟩ : ∃ n, Hid (n = (lo ++ pd ++ pb).length) := ⟨_, rfl⟩
        rw [← HN9.out] at hv9
        subst hv9
        have hb3 : Blk y7 gO [.slice aq nq cq] 28 := hk9.blk _ _ _ (by decide) hv
        have hc3 : y7.cell? ⟨gO, 0, none⟩ = some (.slice aq nq cq) := hb3.cell 0
        have hf3 : y7.frozen? ⟨gO, 0, none⟩ = false := hb3.frozen 0
        have hro := HRO.out.kept HGO.out hv hk9 ho9
        have hS2 : Blk (y7.setCell ⟨gO, 0, none⟩ (.slice a9 n9 c9)) ga (cb pa) 23 ∧ Blk (y7.setCell ⟨gO, 0, none⟩ (.slice a9 n9 c9)) gb (cb pb) 23 := ⟨hk9.boxed hS.1 (by decide) (blk_ne hS.1 hv (by decide)), hk9.boxed hS.2 (by decide) (blk_ne hS.2 hv (by decide))⟩
        have hsb : Blk (y7.setCell ⟨gO, 0, none⟩ (.slice a9 n9 c9)) gS [.slice (some ⟨bs, offs, none⟩) 16384 cps] 28 := hk9.boxed HSB.out (by decide) HNE.out
        refine ⟨_, rfl, ⟨hk9.blk _ _ _ (by decide) hS.1, hk9.blk _ _ _ (by decide) hS.2⟩, ?_⟩
        simp only [Act.put, List.getElem_toArray, List.getElem_cons_succ, List.getElem_cons_zero, List.setIfInBounds_toArray, List.set_cons_zero, List.set_cons_succ]
        refine wpAnyH_skip 5 (y7.setCell ⟨gO, 0, none⟩ (.slice a9 n9 c9)) (by kernel_rfl) rfl (by rfl) (by simp [go_sem, hc3, hf3]) hS2 ?_
        simp only [Act.put, List.getElem_toArray, List.getElem_cons_succ, List.getElem_cons_zero]
        refine wpAnyH_done (by kernel_rfl) ?_ _
        exact ⟨hro.kp, trivial, by rw [HS2.out]; exact hro.out, hsb, hro.bel⟩
    case done =>
      rintro D ys W hD rfl ⟨hO, hX, hB⟩ hK
      rw [openF_path (bt d) sig 256 (Nat.le_refl _)] at hO
      obtain ⟨v, hv, ho⟩ := hO
      have HD : Hid (w.heap.size ≤ D) := Nat.le_trans HBW.out.size hD
      have HOW : Hid (OwnB W w.heap.size v (openR (bt d) sig 256)) := ho
      have HB : Hid (Below w.heap.size w W) := hB
      have HKD : Hid (W.heap[D]? = some (.deferred (some []))) := hK
      have cv : W.cell? ⟨gO, 0, none⟩ = some v := hv.cell 0
      clear hX hB hK hD hv ho HSB HO H3 HBW
      gi_wp2
      go_wp2
      refine noGoto_ret ?_
      refine ⟨by simp, .inl ⟨_, _, rfl, run_takeDeferred HKD.out, ?_⟩⟩
      refine ⟨.tuple #[v, .int .i64 0], ?_, v, by rw [HL.out.2], by rw [HL.out.1]; exact (HOW.out.kept (grownBy_putObj' _ D _) (fun r e => by cases e; exact ⟨_, HKD.out, rfl⟩)).reads, HB.out.trans (belowK_b (w := w) (Nat.le_refl _) _ D _ _ HD.out HKD.out rfl rfl)⟩
      simp [results, Tryd.f91, go_sem]
    case stop =>
      rintro D c pre W _ _ hX _
      exact hX.elim
  · have HL : Hid (openL b sig = [] ∧ openE sig = 15) := by show _ ∧ _; rw [openL, openE, if_neg h16, if_neg h16]; exact ⟨rfl, rfl⟩
    obtain ⟨ads, cps, hvs, _⟩ := id hs
    obtain ⟨n, HNL⟩ : ∃ n, Hid (n = sig.length) := ⟨_, rfl⟩
    rw [← HNL.out] at hvs h16
    have hne : ((n : Int) == 16384) = false := by rw [beq_eq_false_iff_ne]; omega
    subst hvb hvs
    clear hb hs hl
    go_enter Tryd.func91, Tryd.ntmps91
    go_wp2_with (first
    | (with_reducible refine wpSeq_boxS (.tmp 1) ads n cps ?_ ?_ ?_ ?_
       · rfl
       · rfl
       · rfl
       intro gS w1 nn
       have csb : w1.cell? ⟨gS, 0, none⟩ = some (.slice ads n cps) := nn.blk.cell 0
       have HBW : Hid (Below w.heap.size w w1) := nn.below
       clear nn))
    refine wp_scope_straight ?_
    go_wp2
    refine noGoto_ret ?_
    refine bodyPost_ret (results_tmp2 rfl _ _ _) rfl ?_
    exact ⟨_, by rw [HL.out.2]; rfl, by rw [HL.out.1]; exact ⟨Option.none, 0, rfl, Nat.le_refl _, fun _ => rfl, fun h => by cases h⟩, HBW.out⟩
end Go.Proofs.YtableajopaappaaDoor
/- The walk of lamport's Check; all that lamport does (layer 10). -/
namespace Go.Proofs.YtableajopaappaaDoor
open Go.RowKit Go.Shelf
set_option maxRecDepth 100000
set_option maxRecDepth 100000 in
set_option maxHeartbeats 8000000 in
theorem lCheck_any (p : List (BitVec 8)) (vb vs : Value) (b sig : List (BitVec 8)) (w : World) (hK : KOk w) (hp : p.length = 32) (hb : Reads w vb b) (hs : Reads w vs sig) (hl : b.length < 140737488350000) :
    Calls Tryd.prog 74 #[.agg (cb p).toArray, vb, vs] w fun e w' => e = .returned (.int .i64 (checkE p b sig)) ∧ Below w.heap.size w w' := by
  obtain ⟨ab, cbb, hvb, hq1⟩ := id hb
  obtain ⟨ads, cps, hvs, hq2⟩ := id hs
  clear hq1 hq2
  obtain ⟨nb, HNB⟩ : ∃ n, Hid (n = b.length) := ⟨_, rfl⟩
  obtain ⟨ns, HNS⟩ : ∃ n, Hid (n = sig.length) := ⟨_, rfl⟩
  rw [← HNB.out] at hvb
  rw [← HNS.out] at hvs
  have HPL : Hid (p.length = 32) := hp
  have HC1 : Hid (∀ W : World, Below w.heap.size w W → Calls Tryd.prog 91 #[vb, vs] W (OpenA W b sig)) := fun W hh => lOpened_any vb vs b sig W (hK.below hh hK.lt) (hb.below hh) (hs.below hh) hl
  have HKK : Hid (∀ W : World, Below w.heap.size w W → KOk W) := fun W hh => hK.below hh hK.lt
  subst hvb hvs
  clear hb hs hl hp hK
  by_cases h16 : sig.length = 16384
  · obtain ⟨t, HT⟩ : ∃ t, Hid (t = openR (bt (dig b)) sig 256) := ⟨_, rfl⟩
    have HTL : Hid (t.length = 16385) := by show _ = _; rw [HT.out, len_openR _ (by omega)]
    have HOL : Hid (openL b sig = t ∧ openE sig = 0) := by show _ ∧ _; rw [openL, openE, if_pos h16, if_pos h16, HT.out]; exact ⟨rfl, rfl⟩
    obtain ⟨r, HRD⟩ : ∃ r, Hid (r = dig t) := ⟨_, rfl⟩
    have HRL : Hid (r.length = 32) := by show _ = _; rw [HRD.out]; exact len_dig' _
    have HCK : Hid (checkE p b sig = if r = p then 0 else 15) := by show _ = _; unfold checkE; rw [← HT.out, ← HRD.out]; simp [h16]
    have HC2 : Hid (∀ (W : World) (v : Value), Below w.heap.size w W → Reads W v t → Calls Tryd.prog 75 #[v] W fun e w' => e = .returned (.agg (cb r).toArray) ∧ Below W.heap.size W w') := fun W v hh hv => by rw [HRD.out]; exact tOf_any v t W (HKK.out W hh) hv (by rw [HTL.out]; omega)
    have heq : ∀ wx : World, (Op.equalIn 10000 23 (.agg (cb r).toArray) (.agg (cb p).toArray)).run Tryd.prog wx = .ok (decide (r = p)) wx := fun wx => eq_dig r p HRL.out HPL.out wx
    obtain ⟨o, HO⟩ : ∃ o, Hid (o = decide (r = p)) := ⟨_, rfl⟩
    rw [← HO.out] at heq
    have HCK2 : Hid (checkE p b sig = if o then 0 else 15) := by
      show _ = _
      rw [HCK.out, HO.out]
      by_cases e : r = p
      · rw [if_pos e, decide_eq_true e]; rfl
      · rw [if_neg e, decide_eq_false e]; rfl
    rw [HCK2.out]
    clear h16 HT HRD HCK HO HCK2
    go_enter Tryd.func74, Tryd.ntmps74
    go_wp2_with (first
      | (with_reducible refine wpSeq_boxD (.tmp 0) p ?_ ?_ ?_ ?_
         · rfl
         · rfl
         · rfl
         intro gp w1 nn
         have HB1 : Hid (Below w.heap.size w w1) := nn.below
         have HGP : Hid (Blk w1 gp (cb p) 23) := nn.blk
         clear nn)
      | (go_at_call 91; refine (HC1.out _ HB1.out).mono ?_; rintro e w2 ⟨v, rfl, hv, hb2⟩
         rw [HOL.out.1] at hv
         have HV : Hid (Reads w2 v t) := hv
         replace HGP : Hid (Blk w2 gp (cb p) 23) := HGP.out.below hb2 HGP.out.lt
         replace HB1 : Hid (Below w.heap.size w w2) := HB1.out.trans (hb2.mono HB1.out.size)
         rw [HOL.out.2]
         clear hv hb2))
    have HYB : Hid (Below w.heap.size w (World.drew w2)) := HB1.out.drew
    replace HGP : Hid (Blk (World.drew w2) gp (cb p) 23) := HGP.out.drew
    replace HV : Hid (Reads (World.drew w2) v t) := reads_drew HV.out
    clear HB1
    refine wp_region_held_drew (S := Over (World.drew w2)) (by kernel_rfl) (Over.refl _) ?_
    intro hS
    change wpAnyH _ _ _ _ _ _ _ _ (World.drew w2)
    generalize World.drew w2 = y0 at *
    try simp only [Act.put, List.setIfInBounds_toArray, List.set_cons_zero, List.set_cons_succ]
    refine wpAnyH_take (i := 0) (v := v) rfl (by kernel_rfl) (by kernel_rfl) (by kernel_rfl) (fun _ _ _ h => h) (Or.inl ⟨by rfl, fun wx hx => by simp [go_sem]⟩) hS ?_
    simp only [Act.put, List.getElem_toArray, List.getElem_cons_zero, List.setIfInBounds_toArray, List.set_cons_zero, List.set_cons_succ]
    refine wpAnyH_take (i := 2) (v := .agg (cb p).toArray) rfl (by kernel_rfl) (by kernel_rfl) (by kernel_rfl) (fun _ _ _ h => h) (Or.inl ⟨by rfl, fun wx hx => by exact loadDigest _ gp p HPL.out (HGP.out.below hx HGP.out.lt) rfl rfl⟩) hS ?_
    simp only [Act.put, List.getElem_toArray, List.getElem_cons_succ, List.getElem_cons_zero, List.setIfInBounds_toArray, List.set_cons_zero, List.set_cons_succ]
    refine wpAnyH_enter 1 (by kernel_rfl) rfl (by rfl) (f := 75) (args := #[v]) (by simp [go_sem]) (HC2.out _ v (HYB.out.trans (Below.mono hS HYB.out.size)) (HV.out.below hS)) ?_
    rintro e y1 ⟨rfl, hbq⟩
    replace hS := Over.more hS hbq
    refine ⟨_, rfl, hS, ?_⟩
    clear hbq
    simp only [Act.put, List.getElem_toArray, List.getElem_cons_succ, List.getElem_cons_zero, List.setIfInBounds_toArray, List.set_cons_zero, List.set_cons_succ]
    refine wpAnyH_take (i := 3) (v := .bool (!o)) rfl (by kernel_rfl) (by kernel_rfl) (by kernel_rfl) (fun _ _ _ h => h) (Or.inl ⟨by rfl, fun wx hx => by simp [go_sem, heq]⟩) hS ?_
    simp only [Act.put, List.getElem_toArray, List.getElem_cons_succ, List.getElem_cons_zero, List.setIfInBounds_toArray, List.set_cons_zero, List.set_cons_succ]
    refine wpAnyH_done (by kernel_rfl) ?_ _
    have HBW : Hid (Below w.heap.size w y1) := HYB.out.trans (Below.mono hS HYB.out.size)
    clear hS HV HGP HYB
    cases o with
    | true =>
      simp only [Bool.not_true]
      go_wp2
      go_ret
      exact ⟨rfl, HBW.out⟩
    | false =>
      simp only [Bool.not_false]
      go_wp2
      go_ret
      exact ⟨rfl, HBW.out⟩
  · have HOL : Hid (openL b sig = [] ∧ openE sig = 15) := by show _ ∧ _; rw [openL, openE, if_neg h16, if_neg h16]; exact ⟨rfl, rfl⟩
    have HCK : Hid (checkE p b sig = 15) := by show _ = _; unfold checkE; rw [if_neg (fun h => h16 h.1)]
    rw [HCK.out]
    clear h16 HCK
    go_enter Tryd.func74, Tryd.ntmps74
    go_wp2_with (first
      | (with_reducible refine wpSeq_boxD (.tmp 0) p ?_ ?_ ?_ ?_
         · rfl
         · rfl
         · rfl
         intro gp w1 nn
         have HB1 : Hid (Below w.heap.size w w1) := nn.below
         clear nn)
      | (go_at_call 91; refine (HC1.out _ HB1.out).mono ?_; rintro e w2 ⟨v, rfl, hv, hb2⟩
         replace HB1 : Hid (Below w.heap.size w w2) := HB1.out.trans (hb2.mono HB1.out.size)
         rw [HOL.out.2]
         clear hv hb2))
    go_ret
    exact ⟨rfl, HB1.out⟩
end Go.Proofs.YtableajopaappaaDoor
/- Heads, roots and signed roots that are made, loaded and stored whole (layer 11). -/
namespace Go.Proofs.YtableajopaappaaDoor
open Go.RowKit
set_option maxRecDepth 100000
theorem fold_set (off : Nat) : ∀ (vs B A C : List Value) (k : Nat), A.length = off + k → B.length = vs.length → (vs.zipIdx k).foldl (fun (cs : Array Value) (p : Value × Nat) => cs.setIfInBounds (off + p.2) p.1) (A ++ (B ++ C)).toArray = (A ++ (vs ++ C)).toArray
  | [], B, A, C, k, _, hB => by
    obtain rfl : B = [] := List.length_eq_zero_iff.1 hB
    rfl
  | v :: vs, [], A, C, k, _, hB => by simp at hB
  | v :: vs, b :: B, A, C, k, hA, hB => by
    rw [List.zipIdx_cons, List.foldl_cons]
    have e : (A ++ (b :: B ++ C)).toArray.setIfInBounds (off + k) v = ((A ++ [v]) ++ (B ++ C)).toArray := by
      rw [List.setIfInBounds_toArray, ← hA]
      congr 1
      rw [List.set_append_right _ _ (Nat.le_refl _), Nat.sub_self]
      simp
    rw [e, fold_set off vs B (A ++ [v]) C (k + 1) (by rw [List.length_append, hA]; rfl) (by simpa using hB)]
    simp
theorem fill_seg {place : Nat → Option (Nat × Nat)} {A B C vs : List Value} {i off size : Nat} {rest : List (Nat × Value)} {v : Value} (hp : place i = some (off, size)) (hA : A.length = off) (hB : B.length = size) (hv : v.cells = vs.toArray) (hvl : vs.length = size) :
    Instr.fill place (A ++ (B ++ C)).toArray ((i, v) :: rest) = Instr.fill place (A ++ (vs ++ C)).toArray rest := by
  have h1 : v.cells.size = size := by rw [hv, List.size_toArray, hvl]
  have h2 : (A ++ (B ++ C)).toArray.size = off + size + C.length := by simp [hA, hB]; omega
  rw [Instr.fill, hp]
  simp only [h1, h2]
  rw [if_neg (by simp)]
  congr 1
  rw [hv, ← fold_set off vs B A C 0 (by omega) (by omega), ← Array.foldl_toList, Array.toList_zipIdx]
def hdPl (i : Nat) : Option (Nat × Nat) := (#[(0, 1), (1, 32), (33, 32)] : Array (Nat × Nat))[i]?
theorem built_head (parts : List (Nat × Value)) : Tryd.prog.built 50 parts = Instr.fill hdPl (hdC zeroH).toArray parts := by kernel_rfl
theorem len_zb : (cb zb32).length = 32 := by rw [cb_len]; rfl
theorem fill_hd {n : Nat} {x y : List (BitVec 8)} (hx : x.length = 32) (hy : y.length = 32) : Instr.fill hdPl (hdC zeroH).toArray [(0, .int .u64 (n : Int)), (1, .agg (cb x).toArray), (2, .agg (cb y).toArray)] = some (hdC (n, x, y)).toArray := by
  have e0 : hdC zeroH = [] ++ ([Value.int .u64 0] ++ (cb zb32 ++ cb zb32)) := rfl
  rw [e0, fill_seg (vs := [.int .u64 (n : Int)]) (size := 1) (by rfl) rfl rfl rfl rfl]
  rw [List.nil_append, fill_seg (A := [.int .u64 (n : Int)]) (vs := cb x) (off := 1) (size := 32) (by rfl) rfl len_zb rfl (by rw [cb_len, hx])]
  have e1 : [Value.int .u64 (n : Int)] ++ (cb x ++ cb zb32) = ([Value.int .u64 (n : Int)] ++ cb x) ++ (cb zb32 ++ []) := by simp
  rw [e1, fill_seg (vs := cb y) (off := 33) (size := 32) (by rfl) (by rw [List.length_append, cb_len, hx]; rfl) len_zb rfl (by rw [cb_len, hy])]
  rw [Instr.fill]
  simp [hdC]
theorem fill_hk {y : List (BitVec 8)} (hy : y.length = 32) : Instr.fill hdPl (hdC zeroH).toArray [(2, .agg (cb y).toArray)] = some (hdC (0, zb32, y)).toArray := by
  have e1 : hdC zeroH = ([Value.int .u64 0] ++ cb zb32) ++ (cb zb32 ++ []) := by rw [List.append_nil]; rfl
  rw [e1, fill_seg (vs := cb y) (off := 33) (size := 32) (by rfl) (by rw [List.length_append, len_zb]; rfl) len_zb rfl (by rw [cb_len, hy])]
  rw [Instr.fill]
  simp [hdC]
/-- a literal's value, out of what it is built of -/
theorem build_op (f : Operand → Value) (o : Oper) (t : TypeId) (ps : List (Nat × Operand)) (ho : o.op = .build t ps.toArray) (cells : Array Value) (h : Tryd.prog.built t (ps.map fun p => (p.1, f p.2)) = some cells) (w : World) : (execOp f o).run Tryd.prog w = .ok (.value (.agg cells)) w := by
  unfold execOp
  rw [ho]
  have hm : (ps.toArray.map fun (p : Nat × Operand) => (p.1, f p.2)) = (ps.map fun p => (p.1, f p.2)).toArray := by simp
  have hr := run_build (P := Tryd.prog) w t (ps.map fun p => (p.1, f p.2)).toArray cells (by simpa using h)
  simp only [hm, Sem.run_bind, hr, Result.andThen_ok, Sem.run_pure]
theorem wpSeq_build {ops : Array Oper} {Q : Exit → Act → World → Prop} {rest : List Oper} {o : Oper} {a : Act} {w : World} (t : TypeId) (ps : List (Nat × Operand)) (cells : List Value) (h1 : Tryd.prog.built t (ps.map fun p => (p.1, a.eval p.2)) = some cells.toArray) (ho : o.op = .build t ps.toArray) (hw : Region.wanted o (yielded ops a.tmps) = true)
    (h : wpList Tryd.prog ops Q rest (a.put o.dst (.agg cells.toArray)) w) : wpList Tryd.prog ops Q (o :: rest) a w :=
  wpSeq_val _ _ hw (build_op a.eval o t ps ho cells.toArray h1 w) h
theorem alloc_hd (f : Operand → Value) (o : Oper) (ho : o.op = .alloc 50) (w : World) : (execOp f o).run Tryd.prog w = .ok (.value (.pointer (some ⟨w.heap.size, 0, none⟩))) (w.alloc (.cells (hdC zeroH).toArray 50)) := by
  unfold execOp
  rw [ho]
  kernel_rfl
theorem alloc_sg (f : Operand → Value) (o : Oper) (ho : o.op = .alloc 30) (w : World) : (execOp f o).run Tryd.prog w = .ok (.value (.pointer (some ⟨w.heap.size, 0, none⟩))) (w.alloc (.cells (sgC zeroS (.slice none 0 0)).toArray 30)) := by
  unfold execOp
  rw [ho]
  kernel_rfl
/-- a new block -/
structure NewR (cs : List Value) (t : TypeId) (w : World) (g : Nat) (w' : World) : Prop where
  ge : w.heap.size ≤ g
  blk : Blk w' g cs t
  below : Below w.heap.size w w'
theorem NewR.of (cs : List Value) (t : TypeId) (w : World) : NewR cs t w w.heap.size (w.alloc (.cells cs.toArray t)) := ⟨Nat.le_refl _, Blk.new w cs t, below_alloc w _⟩
theorem wpSeq_allocH {ops : Array Oper} {Q : Exit → Act → World → Prop} {rest : List Oper} {o : Oper} {a : Act} {w : World} (ho : o.op = .alloc 50) (hw : Region.wanted o (yielded ops a.tmps) = true)
    (h : ∀ g w', NewR (hdC zeroH) 50 w g w' → wpList Tryd.prog ops Q rest (a.put o.dst (.pointer (some ⟨g, 0, none⟩))) w') : wpList Tryd.prog ops Q (o :: rest) a w :=
  wpSeq_val _ _ hw (alloc_hd _ _ ho _) (h _ _ (NewR.of _ _ w))
theorem wpSeq_allocS {ops : Array Oper} {Q : Exit → Act → World → Prop} {rest : List Oper} {o : Oper} {a : Act} {w : World} (ho : o.op = .alloc 30) (hw : Region.wanted o (yielded ops a.tmps) = true)
    (h : ∀ g w', NewR (sgC zeroS (.slice none 0 0)) 30 w g w' → wpList Tryd.prog ops Q rest (a.put o.dst (.pointer (some ⟨g, 0, none⟩))) w') : wpList Tryd.prog ops Q (o :: rest) a w :=
  wpSeq_val _ _ hw (alloc_sg _ _ ho _) (h _ _ (NewR.of _ _ w))
theorem wpSeq_boxW {ops : Array Oper} {Q : Exit → Act → World → Prop} {rest : List Oper} {o : Oper} {a : Act} {w : World} (ty : TypeId) (x : Operand) (cs : List Value) (ho : o.op = .box ty x) (hx : a.eval x = .agg cs.toArray) (hw : Region.wanted o (yielded ops a.tmps) = true)
    (h : ∀ g w', NewR cs ty w g w' → wpList Tryd.prog ops Q rest (a.put o.dst (.pointer (some ⟨g, 0, none⟩))) w') : wpList Tryd.prog ops Q (o :: rest) a w :=
  wpSeq_box ty x ho cs hx hw _ rfl (h _ _ (NewR.of cs ty w))
/-- a row stored whole -/
structure SetR (cs : List Value) (t : TypeId) (w : World) (g : Nat) (w' : World) : Prop where
  blk : Blk w' g cs t
  only : Only g w w'
theorem SetR.of {cs ns : List Value} {t : TypeId} {w : World} {g : Nat} (hb : Blk w g cs t) (hl : ns.length = cs.length) : SetR ns t w g (w.setCells g 0 ns) := ⟨hb.whole ns hl, Only.setCells _ _ _ (Only.refl g w)⟩
theorem wpSeq_storeRow {ops : Array Oper} {Q : Exit → Act → World → Prop} {rest : List Oper} {o : Oper} {a : Act} {w : World} (ty : TypeId) (x y : Operand) (g : Nat) (cs ns : List Value) (hb : Blk w g cs ty) (hl : ns.length = cs.length) (hi : (Tryd.prog.info? ty).map (·.size) = some ns.length) (h1 : ∀ v ∈ ns, v.oneCell' = true)
    (ho : o.op = .store ty x y) (hx : a.eval x = .pointer (some ⟨g, 0, none⟩)) (hy : a.eval y = .agg ns.toArray) (hgd : o.guard = none)
    (h : ∀ w', SetR ns ty w g w' → wpList Tryd.prog ops Q rest (a.put o.dst undef) w') : wpList Tryd.prog ops Q (o :: rest) a w :=
  wpList_store_mid hgd ty x y ho g 0 _ hx hy (hb.there 0 _ (by rw [List.size_toArray, hl]; omega)) (by rw [List.size_toArray]; exact hi) (all_oneCell_toArray h1)
    (by rw [List.toList_toArray]; exact h _ (SetR.of hb hl))
theorem hdC_one (h : HdT) : ∀ v ∈ hdC h, v.oneCell' = true := by
  intro v hv
  simp only [hdC, List.mem_cons, List.mem_append] at hv
  rcases hv with rfl | hv | hv
  · rfl
  · exact cb_one _ v hv
  · exact cb_one _ v hv
theorem rtC_one (s : SgT) : ∀ v ∈ rtC s, v.oneCell' = true := by
  intro v hv
  simp only [rtC, List.mem_cons, List.mem_append] at hv
  rcases hv with rfl | hv | hv | hv
  · rfl
  · exact cb_one _ v hv
  · exact cb_one _ v hv
  · exact cb_one _ v hv
theorem sgC_one (s : SgT) (ad : Option Addr) (n c : Nat) : ∀ v ∈ sgC s (.slice ad n c), v.oneCell' = true := by
  intro v hv
  rw [sgC_eq, List.mem_append, List.mem_singleton] at hv
  rcases hv with hv | rfl
  · exact rtC_one s v hv
  · rfl
/-- a row loaded whole, from wherever it lies -/
theorem wpSeq_loadW {ops : Array Oper} {Q : Exit → Act → World → Prop} {rest : List Oper} {o : Oper} {a : Act} {w : World} (ty : TypeId) (x : Operand) (b off : Nat) (cs : List Value) (d : TypeDesc) (hb : w.rangeAt b off cs) (hu : Tryd.prog.underlying ty = some d) (hd : d.isRow = true) (hi : (Tryd.prog.info? ty).map (·.size) = some cs.length) (ho : o.op = .load ty x) (hx : a.eval x = .pointer (some ⟨b, off, none⟩)) (hw : Region.wanted o (yielded ops a.tmps) = true)
    (h : wpList Tryd.prog ops Q rest (a.put o.dst (.agg cs.toArray)) w) : wpList Tryd.prog ops Q (o :: rest) a w :=
  wpSeq_val _ _ hw (load_run ty x ho b off hx cs d hb hu hd hi) h
theorem wpAnyH_storeRow {md : Region.Mode} {ops : Array Oper} {Q : Exit → Act → World → Prop} {S : World → Prop} {fuel : Nat} {listed : Array Bool} {a : Act} {w : World} (i : Nat) {oi : Oper} (ty : TypeId) (x y : Operand) (g : Nat) (cs ns : List Value) (hb : Blk w g cs ty) (hl : ns.length = cs.length) (hi0 : (Tryd.prog.info? ty).map (·.size) = some ns.length) (h1 : ∀ v ∈ ns, v.oneCell' = true)
    (hr : Region.ready md ops listed = [i]) (hi : ops[i]? = some oi) (hw : Region.wanted oi (yielded ops a.tmps) = true) (ho : oi.op = .store ty x y) (hx : a.eval x = .pointer (some ⟨g, 0, none⟩)) (hy : a.eval y = .agg ns.toArray)
    (h : ∀ w', SetR ns ty w g w' → S w' ∧ wpAnyH Tryd.prog md ops Q S fuel (listed.setIfInBounds i true) (a.put oi.dst undef) w') : wpAnyH Tryd.prog md ops Q S (fuel + 1) listed a w :=
  wpAnyH_law i hr hi hw (wp_store_mid ty x y ho g 0 ns.toArray hx hy (hb.there 0 _ (by rw [List.size_toArray, hl]; omega)) (by rw [List.size_toArray]; exact hi0) (all_oneCell_toArray h1) (by rw [List.toList_toArray]; exact h _ (SetR.of hb hl)))
/-- what results of a row and of plain ones tell -/
theorem var_hd {w : World} {g : Nat} {h : HdT} (hb : Blk w g (hdC h) 50) (oh : okH h) : (loadVar 50 ⟨g, 0, none⟩).run Tryd.prog w = .ok (.agg (hdC h).toArray) w :=
  run_loadVar_row (P := Tryd.prog) w g 50 50 (hdC h).toArray (0, 0) _ hb Tryd.underlying50 rfl (by rw [List.size_toArray]; exact info_hdC oh)
theorem results_row_tmp {fn : Func} {p u : Tmp} {ty : TypeId} (h : fn.results = #[.cell p ty, .tmp u]) (tmps : Array Value) (w : World) (g : Nat) (v : Value) (hp : tmps.getD p undef = .pointer (some ⟨g, 0, none⟩)) (e1 : (loadVar ty ⟨g, 0, none⟩).run Tryd.prog w = .ok v w) :
    (results fn tmps).run Tryd.prog w = .ok (.tuple #[v, tmps.getD u undef]) w := by
  have hp' : tmps[p]?.getD undef = .pointer (some ⟨g, 0, none⟩) := by simpa using hp
  simp [results, h, hp', asAddr, e1]
theorem results_row_tmp2 {fn : Func} {p u x : Tmp} {ty : TypeId} (h : fn.results = #[.cell p ty, .tmp u, .tmp x]) (tmps : Array Value) (w : World) (g : Nat) (v : Value) (hp : tmps.getD p undef = .pointer (some ⟨g, 0, none⟩)) (e1 : (loadVar ty ⟨g, 0, none⟩).run Tryd.prog w = .ok v w) :
    (results fn tmps).run Tryd.prog w = .ok (.tuple #[v, tmps.getD u undef, tmps.getD x undef]) w := by
  have hp' : tmps[p]?.getD undef = .pointer (some ⟨g, 0, none⟩) := by simpa using hp
  simp [results, h, hp', asAddr, e1]
end Go.Proofs.YtableajopaappaaDoor
/- The walk of the reference's Follow (layer 11). -/
namespace Go.Proofs.YtableajopaappaaDoor
open Go.RowKit Go.Shelf
set_option maxRecDepth 100000
theorem Only.still {g : Nat} {w w1 w2 : World} (h : Only g w w1) (hb : Below w1.heap.size w1 w2) : Only g w w2 :=
  ⟨hb.os.trans h.os, hb.tape.trans h.tape, hb.output.trans h.output, Nat.le_trans h.size hb.size, fun k hk hlt => by rw [hb.block k (Nat.lt_of_lt_of_le hlt h.size), h.block k hk hlt]⟩
theorem rangeAt_only {w w' : World} {b off g : Nat} {cs : List Value} (h : w.rangeAt b off cs) (ho : Only g w w') (hne : b ≠ g) : w'.rangeAt b off cs := fun j v hj => ho.cell (p := ⟨b, off + j, none⟩) hne (h j v hj)
theorem SgAt.only {y0 wx : World} {b off g : Nat} {s : SgT} {vs : Value} (r : SgAt y0 b off s vs) (hx : Only g y0 wx) (hne : b ≠ g) : SgAt wx b off s vs := ⟨rangeAt_only r.all hx hne, r.ok⟩
theorem HdAt.only {y0 wx : World} {b off g : Nat} {h : HdT} (r : HdAt y0 b off h) (hx : Only g y0 wx) (hne : b ≠ g) : HdAt wx b off h := ⟨rangeAt_only r.all hx hne, r.ok⟩
theorem loadDigAt {a : Act} {o : Oper} {w : World} (x : Operand) (b off : Nat) (l : List (BitVec 8)) (hl : l.length = 32) (hb : w.rangeAt b off (cb l)) (ho : o.op = .load 23 x) (hx : a.eval x = .pointer (some ⟨b, off, none⟩)) : (execOp a.eval o).run Tryd.prog w = .ok (.value (.agg (cb l).toArray)) w :=
  load_run 23 x ho b off hx (cb l) _ hb Tryd.underlying23 rfl (by rw [cb_len, hl]; exact info_digest)
theorem loadSgAt {a : Act} {o : Oper} {w : World} (x : Operand) (b off : Nat) (s : SgT) (vs : Value) (r : SgAt w b off s vs) (ho : o.op = .load 30 x) (hx : a.eval x = .pointer (some ⟨b, off, none⟩)) : (execOp a.eval o).run Tryd.prog w = .ok (.value (.agg (sgC s vs).toArray)) w :=
  load_run 30 x ho b off hx (sgC s vs) _ r.all Tryd.underlying30 rfl (info_sgC r.ok vs)
theorem loadHdAt {a : Act} {o : Oper} {w : World} (x : Operand) (b off : Nat) (h : HdT) (r : HdAt w b off h) (ho : o.op = .load 50 x) (hx : a.eval x = .pointer (some ⟨b, off, none⟩)) : (execOp a.eval o).run Tryd.prog w = .ok (.value (.agg (hdC h).toArray)) w :=
  load_run 50 x ho b off hx (hdC h) _ r.all Tryd.underlying50 rfl (info_hdC r.ok)
end Go.Proofs.YtableajopaappaaDoor
/- The walk of the reference's Walk (layer 11). -/
namespace Go.Proofs.YtableajopaappaaDoor
open Go.RowKit Go.Shelf
set_option maxRecDepth 100000
/-- where a walk stands: the head, and the answer that is to be -/
structure WkI (w : World) (g2 g4 : Nat) (h : HdT) (W : World) : Prop where
  hd : Blk W g2 (hdC h) 50
  rs : Blk W g4 (hdC zeroH) 50
  bel : Below w.heap.size w W
theorem WkI.next {w W W' : World} {g2 g4 : Nat} {h : HdT} (i : WkI w g2 g4 h W) (hb : Below W.heap.size W W') : WkI w g2 g4 h W' := ⟨i.hd.below hb i.hd.lt, i.rs.below hb i.rs.lt, i.bel.trans (hb.mono i.bel.size)⟩
theorem WkI.drew {w W : World} {g2 g4 : Nat} {h : HdT} (i : WkI w g2 g4 h W) : WkI w g2 g4 h W.drew := ⟨i.hd.drew, i.rs.drew, i.bel.drew⟩
theorem idx98 (b off cap n k : Nat) (hk : k < n) (f : Operand → Value) (o : Oper) (x y : Operand) (ho : o.op = .indexAddr 24 x y) (hx : f x = .slice (some ⟨b, off, none⟩) n cap) (hy : f y = .int .i64 (k : Int)) (w : World) :
    (execOp f o).run Tryd.prog w = .ok (.value (.pointer (some ⟨b, off + k * 98, none⟩))) w := by
  have k0 : (0 : Int) ≤ (k : Int) := by omega
  have k1 : (k : Int) < (n : Int) := by omega
  unfold execOp
  rw [ho]
  simp [go_sem, hx, hy, k0, k1, Addr.add_mid]
end Go.Proofs.YtableajopaappaaDoor
/- The walk of the reference's Seal (layer 11). -/
namespace Go.Proofs.YtableajopaappaaDoor
open Go.RowKit Go.Shelf
set_option maxRecDepth 100000
theorem Blk.seg {w : World} {g off : Nat} {A B B2 C : List Value} {t : TypeId} (h : Blk w g (A ++ (B ++ C)) t) (hl : B2.length = B.length) (ho : A.length = off) : Blk (w.setCells g off B2) g (A ++ (B2 ++ C)) t := by
  subst ho
  have h2 := setCells_eq g B2 A.length w _ t h (by simp only [List.length_append]; omega)
  have e : (A ++ (B ++ C)).take A.length ++ B2 ++ (A ++ (B ++ C)).drop (A.length + B2.length) = A ++ (B2 ++ C) := by
    rw [List.take_left, ← List.drop_drop, List.drop_left, hl, List.drop_left, List.append_assoc]
  rwa [e] at h2
end Go.Proofs.YtableajopaappaaDoor
/- What the functions of layer 11 do (ChOps); the statements' own works and few. -/
namespace Go.Proofs.YtableajopaappaaDoor
open Go.RowKit Go.Shelf
set_option maxRecDepth 100000
end Go.Proofs.YtableajopaappaaDoor
/- The walks of chain's spent, Pin, Start and Walk (layer 11). -/
namespace Go.Proofs.YtableajopaappaaDoor
open Go.RowKit Go.Shelf
set_option maxRecDepth 100000
set_option maxRecDepth 100000 in
set_option maxHeartbeats 8000000 in
theorem chSpent_any (h : HdT) (w : World) : Calls Tryd.prog 72 #[.agg (hdC h).toArray] w fun e w' => e = .returned (.bool (decide (64 ≤ h.1))) ∧ Below w.heap.size w w' := by
  obtain ⟨ch, HCH⟩ : ∃ c, Hid (c = hdC h) := ⟨_, rfl⟩
  obtain ⟨n, HNN⟩ : ∃ n, Hid (n = h.1) := ⟨_, rfl⟩
  rw [← HCH.out]
  by_cases h64 : 64 ≤ n
  · have c64 : (64 : Int) ≤ (n : Int) := by omega
    go_enter Tryd.func72, Tryd.ntmps72
    have tk0 : Hid True := trivial
    go_wp2_with (first
      | (clear tk0; with_reducible refine wpSeq_boxW 50 (.tmp 0) ch ?_ ?_ ?_ ?_
         · rfl
         · rfl
         · rfl
         intro g1 y1 nn
         have ce : y1.cell? ⟨g1, 0, none⟩ = some (.int .u64 (n : Int)) := by have := nn.blk.cell 0; rw [HCH.out] at this; rw [HNN.out]; exact this))
    go_ret
    exact ⟨by rw [← HNN.out, decide_eq_true h64]; rfl, nn.below⟩
  · have c64 : ¬ ((64 : Int) ≤ (n : Int)) := by omega
    go_enter Tryd.func72, Tryd.ntmps72
    have tk0 : Hid True := trivial
    go_wp2_with (first
      | (clear tk0; with_reducible refine wpSeq_boxW 50 (.tmp 0) ch ?_ ?_ ?_ ?_
         · rfl
         · rfl
         · rfl
         intro g1 y1 nn
         have ce : y1.cell? ⟨g1, 0, none⟩ = some (.int .u64 (n : Int)) := by have := nn.blk.cell 0; rw [HCH.out] at this; rw [HNN.out]; exact this))
    go_ret
    exact ⟨by rw [← HNN.out, decide_eq_false h64]; rfl, nn.below⟩
set_option maxRecDepth 100000 in
set_option maxHeartbeats 8000000 in
theorem chStart_any (p : List (BitVec 8)) (w : World) (hp : p.length = 32) : Calls Tryd.prog 24 #[.agg (cb p).toArray] w fun e w' => e = .returned (.agg (hdC (0, zb32, p)).toArray) ∧ Below w.heap.size w w' := by
  have HPL : Hid (p.length = 32) := hp
  have HOK : Hid (okH (0, zb32, p)) := okH_mk rfl hp (by decide)
  have HID : Hid ((Tryd.prog.info? 23).map (·.size) = some (cb p).length) := by show _ = _; rw [cb_len, hp]; exact info_digest
  have HBW : Hid (Below w.heap.size w w) := Below.refl _ _
  clear hp
  go_enter Tryd.func24, Tryd.ntmps24
  have tk0 : Hid True := trivial
  have tk1 : Hid True := trivial
  have tk2 : Hid True := trivial
  have tk3 : Hid True := trivial
  have tk4 : Hid True := trivial
  go_wp2_with (first
    | (clear tk0; with_reducible refine wpSeq_boxW 23 (.tmp 0) (cb p) ?_ ?_ ?_ ?_
       · rfl
       · rfl
       · rfl
       intro g1 y1 nn
       replace HBW : Hid (Below w.heap.size w y1) := HBW.out.trans (nn.below.mono HBW.out.size)
       have HG1 : Hid (Blk y1 g1 (cb p) 23) := nn.blk
       clear nn)
    | (clear tk1; with_reducible refine wpSeq_allocH ?_ ?_ ?_
       · rfl
       · rfl
       intro g2 y2 nn
       have HGE : Hid (w.heap.size ≤ g2) := Nat.le_trans HBW.out.size nn.ge
       replace HG1 : Hid (Blk y2 g1 (cb p) 23) := HG1.out.below nn.below HG1.out.lt
       replace HBW : Hid (Below w.heap.size w y2) := HBW.out.trans (nn.below.mono HBW.out.size)
       have HG2 : Hid (Blk y2 g2 (hdC zeroH) 50) := nn.blk
       clear nn)
    | (clear tk2; with_reducible refine wpSeq_loadW 23 (.tmp 1) g1 0 (cb p) _ ?_ Tryd.underlying23 rfl ?_ ?_ ?_ ?_ ?_
       · exact HG1.out.range
       · exact HID.out
       · rfl
       · rfl
       · rfl)
    | (clear tk3; with_reducible refine wpSeq_build 50 [(2, .tmp 3)] (hdC (0, zb32, p)) ?_ ?_ ?_ ?_
       · exact (built_head _).trans (fill_hk HPL.out)
       · rfl
       · rfl)
    | (clear tk4; with_reducible refine wpSeq_storeRow 50 (.tmp 2) (.tmp 4) g2 (hdC zeroH) (hdC (0, zb32, p)) ?_ ?_ ?_ ?_ ?_ ?_ ?_ ?_ ?_
       · exact HG2.out
       · rw [len_hdC HOK.out, len_hdC okH_zero]
       · exact info_hdC HOK.out
       · exact hdC_one _
       · rfl
       · rfl
       · rfl
       · rfl
       intro yE hs))
  exact bodyPost_ret (v := .agg (hdC (0, zb32, p)).toArray) (results_cell_row (by rfl) _ _ g2 50 _ (0, 0) _ rfl hs.blk Tryd.underlying50 rfl (by rw [List.size_toArray]; exact info_hdC HOK.out)) rfl ⟨rfl, HBW.out.trans (hs.only.below HGE.out HBW.out.size)⟩
set_option maxRecDepth 100000 in
set_option maxHeartbeats 8000000 in
theorem chWalk_any (h : HdT) (v : Value) (l : List SgT) (w : World) (hFo : ∀ (W : World) (h : HdT) (s : SgT) (vs : Value), KOk W → okH h → okS s → Reads W vs s.2 → Calls Tryd.prog 44 #[.agg (hdC h).toArray, .agg (sgC s vs).toArray] W fun e w' => e = .returned (.tuple #[.agg (hdC (followR h s).1).toArray, .int .i64 (followR h s).2]) ∧ Below W.heap.size W w') (hK : KOk w) (oh : okH h) (hl : ReadsS w v l) (hn : l.length < 1000000) :
    Calls Tryd.prog 23 #[.agg (hdC h).toArray, v] w fun e w' => e = .returned (.tuple #[.agg (hdC (walkR h l).1).toArray, .int .i64 ((walkR h l).2.1 : Int), .int .i64 (walkR h l).2.2]) ∧ Below w.heap.size w w' := by
  obtain ⟨⟨ad, cap, hv, hq1, hq2, hq3⟩, hok⟩ := id hl
  clear hq1 hq2 hq3
  obtain ⟨n, HN⟩ : ∃ n, Hid (n = l.length) := ⟨_, rfl⟩
  rw [← HN.out] at hv
  have HNL : Hid (n < 1000000) := by show _ < _; rw [HN.out]; exact hn
  have HL : Hid (ReadsS w v l) := hl
  have HOK : Hid (∀ s ∈ l, okS s) := hok
  have HOH : Hid (okH h) := oh
  have HCF : Hid (∀ (W : World) (g : HdT) (s : SgT) (vs : Value), Below w.heap.size w W → okH g → okS s → Reads W vs s.2 → Calls Tryd.prog 44 #[.agg (hdC g).toArray, .agg (sgC s vs).toArray] W fun e w' => e = .returned (.tuple #[.agg (hdC (followR g s).1).toArray, .int .i64 (followR g s).2]) ∧ Below W.heap.size W w') := fun W g s vs hh og os hr => hFo W g s vs (hK.below hh hK.lt) og os hr
  have HBW : Hid (Below w.heap.size w w) := Below.refl _ _
  obtain ⟨ch, HCH⟩ : ∃ c, Hid (c = hdC h) := ⟨_, rfl⟩
  rw [← HCH.out]
  subst hv
  clear hl hok oh hn hK hFo
  go_enter Tryd.func23, Tryd.ntmps23
  have tk0 : Hid True := trivial
  have tk1 : Hid True := trivial
  go_wp2_with (first
    | (clear tk0; with_reducible refine wpSeq_boxW 50 (.tmp 0) ch ?_ ?_ ?_ ?_
       · rfl
       · rfl
       · rfl
       intro g2 y1 nn
       have HG2 : Hid (Blk y1 g2 ch 50) := nn.blk
       have HGE2 : Hid (w.heap.size ≤ g2) := Nat.le_trans HBW.out.size nn.ge
       replace HBW : Hid (Below w.heap.size w y1) := HBW.out.trans (nn.below.mono HBW.out.size)
       clear nn)
    | (clear tk1; with_reducible refine wpSeq_allocH ?_ ?_ ?_
       · rfl
       · rfl
       intro g4 y2 nn
       have HN4 : Hid (g2 ≠ g4 ∧ w.heap.size ≤ g4) := by have h1 := HG2.out.lt; have h3 := nn.ge; have h4 := HBW.out.size; exact ⟨by omega, by omega⟩
       replace HG2 : Hid (Blk y2 g2 ch 50) := HG2.out.below nn.below HG2.out.lt
       have HG4 : Hid (Blk y2 g4 (hdC zeroH) 50) := nn.blk
       replace HBW : Hid (Below w.heap.size w y2) := HBW.out.trans (nn.below.mono HBW.out.size)
       clear nn))
  have HI : Hid (WkI w g2 g4 h y2) := ⟨by rw [← HCH.out]; exact HG2.out, HG4.out, HBW.out⟩
  clear HG2 HG4 HBW
  go_loopw [12] (fun i wr => ∃ (k : Nat) (g : HdT), k ≤ n ∧ i = .int .i64 (k : Int) ∧ okH g ∧ walkR h (l.take k) = (g, k, 0) ∧ WkI w g2 g4 g wr) (fun i _ => n - (intOf i).toNat)
  case atStart => exact ⟨0, h, by omega, rfl, HOH.out, rfl, HI.out⟩
  case round =>
    clear HI
    obtain ⟨k, g, hkn, rfl, hog, hwk, hI⟩ := hrel
    have HI : Hid (WkI w g2 g4 g wr) := hI
    have HWK : Hid (walkR h (l.take k) = (g, k, 0)) := hwk
    have HOG : Hid (okH g) := hog
    clear hI hwk hog
    by_cases hlt : k < n
    · have hi : (k : Int) < (n : Int) := by omega
      have f5 : IntKind.i64.wrap ((k : Int) + 1) = (k : Int) + 1 := by have := HNL.out; rw [IntKind.wrap_i64]; omega
      obtain ⟨b, off, cap', hv2, hat⟩ := HL.out.at (by rw [← HN.out]; omega)
      simp only [Value.slice.injEq] at hv2
      obtain ⟨rfl, hnl, rfl⟩ := hv2
      clear hnl
      obtain ⟨s, HS⟩ : ∃ s, Hid (s = l.getD k zeroS) := ⟨_, rfl⟩
      obtain ⟨vs, hsa, hrs⟩ := hat k (by rw [← HN.out]; exact hlt)
      rw [← HS.out] at hsa hrs
      have HOS : Hid (okS s) := hsa.ok
      have HSA : Hid (∀ W, Below w.heap.size w W → SgAt W b (off + k * 98) s vs) := fun W hh => hsa.below hh (Nat.le_refl _)
      have HRS : Hid (∀ W, Below w.heap.size w W → Reads W vs s.2) := fun W hh => hrs.below hh
      have HST : Hid (((followR g s).2 = 0 → walkR h (l.take (k + 1)) = ((followR g s).1, k + 1, 0)) ∧ ((followR g s).2 ≠ 0 → walkR h l = (zeroH, k, (followR g s).2))) := walk_take (by rw [← HN.out]; exact hlt) HWK.out s HS.out.symm
      have HOF : Hid (okH (followR g s).1) := follow_okH g s HOS.out
      obtain ⟨hf, HHF⟩ : ∃ c, Hid (c = (followR g s).1) := ⟨_, rfl⟩
      obtain ⟨ef, HEF⟩ : ∃ c, Hid (c = (followR g s).2) := ⟨_, rfl⟩
      have HC : Hid (∀ W, WkI w g2 g4 g W → Calls Tryd.prog 44 #[.agg (hdC g).toArray, .agg (sgC s vs).toArray] W fun e w' => e = .returned (.tuple #[.agg (hdC hf).toArray, .int .i64 ef]) ∧ Below W.heap.size W w') := fun W hW => by rw [HHF.out, HEF.out]; exact HCF.out W g s vs hW.bel HOG.out HOS.out (HRS.out W hW.bel)
      rw [← HHF.out] at HST HOF
      rw [← HEF.out] at HST
      clear hat hsa hrs HHF HEF HWK HS
      go_wp2
      go_cut [8, 9] from 15 to 23 (fun a b W => ∃ g8, a = .pointer (some ⟨g8, 0, none⟩) ∧ b = .int .i64 ef ∧ WkI w g2 g4 g W ∧ Blk W g8 (hdC hf) 50 ∧ g8 ≠ g2)
      case first =>
        refine wp_region_held_drew (S := Over (World.drew wr)) (by kernel_rfl) (Over.refl _) ?_
        intro hS
        replace HI : Hid (WkI w g2 g4 g (World.drew wr)) := HI.out.drew
        change wpAnyH _ _ _ _ _ _ _ _ (World.drew wr)
        generalize World.drew wr = y0 at *
        try simp only [Act.put, List.setIfInBounds_toArray, List.set_cons_zero, List.set_cons_succ]
        refine wpAnyH_take (i := 0) (v := .agg (hdC g).toArray) rfl (by kernel_rfl) (by kernel_rfl) (by kernel_rfl) (fun _ _ _ h => h) (Or.inl ⟨by rfl, fun wx hx => by exact loadHdAt _ g2 0 g ((HI.out.next hx).hd.hdAt HOG.out) rfl rfl⟩) hS ?_
        simp only [Act.put, List.getElem_toArray, List.getElem_cons_zero, List.setIfInBounds_toArray, List.set_cons_zero, List.set_cons_succ]
        refine wpAnyH_take (i := 1) (v := .slice (some ⟨b, off, none⟩) n cap) rfl (by kernel_rfl) (by kernel_rfl) (by kernel_rfl) (fun _ _ _ h => h) (Or.inl ⟨by rfl, fun wx hx => by simp [go_sem]⟩) hS ?_
        simp only [Act.put, List.getElem_toArray, List.getElem_cons_succ, List.getElem_cons_zero, List.setIfInBounds_toArray, List.set_cons_zero, List.set_cons_succ]
        refine wpAnyH_take (i := 2) (v := .int .i64 (k : Int)) rfl (by kernel_rfl) (by kernel_rfl) (by kernel_rfl) (fun _ _ _ h => h) (Or.inl ⟨by rfl, fun wx hx => by simp [go_sem]⟩) hS ?_
        simp only [Act.put, List.getElem_toArray, List.getElem_cons_succ, List.getElem_cons_zero, List.setIfInBounds_toArray, List.set_cons_zero, List.set_cons_succ]
        refine wpAnyH_take (i := 3) (v := .pointer (some ⟨b, off + k * 98, none⟩)) rfl (by kernel_rfl) (by kernel_rfl) (by kernel_rfl) (fun _ _ _ h => h) (Or.inl ⟨by rfl, fun wx hx => by exact idx98 b off cap n k hlt _ _ _ _ rfl rfl rfl _⟩) hS ?_
        simp only [Act.put, List.getElem_toArray, List.getElem_cons_succ, List.getElem_cons_zero, List.setIfInBounds_toArray, List.set_cons_zero, List.set_cons_succ]
        refine wpAnyH_take (i := 4) (v := .agg (sgC s vs).toArray) rfl (by kernel_rfl) (by kernel_rfl) (by kernel_rfl) (fun _ _ _ h => h) (Or.inl ⟨by rfl, fun wx hx => by exact loadSgAt _ b (off + k * 98) s vs (HSA.out _ (HI.out.next hx).bel) rfl rfl⟩) hS ?_
        simp only [Act.put, List.getElem_toArray, List.getElem_cons_succ, List.getElem_cons_zero, List.setIfInBounds_toArray, List.set_cons_zero, List.set_cons_succ]
        refine wpAnyH_pair 5 9 (by kernel_rfl) ?_ ?_
        · refine wpOp_en 5 (by rfl) (by rfl) (f := 44) (args := #[.agg (hdC g).toArray, .agg (sgC s vs).toArray]) (by simp [go_sem]) (HC.out _ (HI.out.next hS)) ?_
          rintro e z1 ⟨rfl, hb⟩
          replace hS := Over.more hS hb
          refine ⟨_, rfl, hS, ?_⟩
          clear hb
          simp only [Act.put, List.getElem_toArray, List.getElem_cons_succ, List.getElem_cons_zero, List.setIfInBounds_toArray, List.set_cons_zero, List.set_cons_succ]
          refine wpAnyH_take (i := 6) (v := .tuple #[.agg (hdC hf).toArray, .int .i64 ef]) rfl (by kernel_rfl) (by kernel_rfl) (by kernel_rfl) (fun _ _ _ h => h) (Or.inl ⟨by rfl, fun wx hx => by simp [go_sem]⟩) hS ?_
          simp only [Act.put, List.getElem_toArray, List.getElem_cons_succ, List.getElem_cons_zero, List.setIfInBounds_toArray, List.set_cons_zero, List.set_cons_succ]
          refine wpAnyH_take (i := 7) (v := .agg (hdC hf).toArray) rfl (by kernel_rfl) (by kernel_rfl) (by kernel_rfl) (fun _ _ _ h => h) (Or.inl ⟨by rfl, fun wx hx => by simp [go_sem]⟩) hS ?_
          simp only [Act.put, List.getElem_toArray, List.getElem_cons_succ, List.getElem_cons_zero, List.setIfInBounds_toArray, List.set_cons_zero, List.set_cons_succ]
          refine wpAnyH_take (i := 8) (v := .int .i64 ef) rfl (by kernel_rfl) (by kernel_rfl) (by kernel_rfl) (fun _ _ _ h => h) (Or.inl ⟨by rfl, fun wx hx => by simp [go_sem]⟩) hS ?_
          simp only [Act.put, List.getElem_toArray, List.getElem_cons_succ, List.getElem_cons_zero, List.setIfInBounds_toArray, List.set_cons_zero, List.set_cons_succ]
          have hb := below_alloc z1 (.cells (hdC zeroH).toArray 50)
          have hba : Blk (z1.alloc (.cells (hdC zeroH).toArray 50)) z1.heap.size (hdC zeroH) 50 := Blk.new _ _ _
          have hsz : y0.heap.size ≤ z1.heap.size := Below.size hS
          replace hS := Over.more hS hb
          refine wpAnyH_step 9 (.pointer (some ⟨z1.heap.size, 0, none⟩)) (z1.alloc (.cells (hdC zeroH).toArray 50)) (by kernel_rfl) rfl (by rfl) (alloc_hd _ _ rfl _) hS ?_
          simp only [Act.put, List.getElem_toArray, List.getElem_cons_succ, List.getElem_cons_zero, List.setIfInBounds_toArray, List.set_cons_zero, List.set_cons_succ]
          clear hb
          generalize z1.alloc (.cells (hdC zeroH).toArray 50) = z2 at *
          obtain ⟨ga, HGA⟩ : ∃ z, Hid (z = z1.heap.size) := ⟨_, rfl⟩
          have hgw : y0.heap.size ≤ ga := by rw [HGA.out]; exact hsz
          rw [← HGA.out] at hba ⊢
          clear HGA hsz
          refine wpAnyH_storeRow 10 50 (.tmp 8) (.tmp 22) ga (hdC zeroH) (hdC hf) hba (by rw [len_hdC HOF.out, len_hdC okH_zero]) (info_hdC HOF.out) (hdC_one _) (by kernel_rfl) rfl (by rfl) rfl rfl rfl ?_
          intro yE hs
          replace hS : Over y0 yE := Below.trans hS (hs.only.below hgw (Below.size hS))
          refine ⟨hS, ?_⟩
          simp only [Act.put, List.getElem_toArray, List.getElem_cons_succ, List.getElem_cons_zero]
          refine wpAnyH_take (i := 11) (v := .int .i64 ef) rfl (by kernel_rfl) (by kernel_rfl) (by kernel_rfl) (fun _ _ _ h => h) (Or.inl ⟨by rfl, fun wx hx => by simp [go_sem]⟩) hS ?_
          simp only [Act.put, List.getElem_toArray, List.getElem_cons_succ, List.getElem_cons_zero, List.setIfInBounds_toArray, List.set_cons_zero, List.set_cons_succ]
          refine wpAnyH_done (by kernel_rfl) ?_ _
          go_wp2
          go_meet
          case rel => exact ⟨ga, rfl, rfl, HI.out.next hS, hs.blk, by have h1 := HI.out.hd.lt; omega⟩
        · have hb := below_alloc y0 (.cells (hdC zeroH).toArray 50)
          have hba : Blk (y0.alloc (.cells (hdC zeroH).toArray 50)) y0.heap.size (hdC zeroH) 50 := Blk.new _ _ _
          have hsz : y0.heap.size ≤ y0.heap.size := Below.size hS
          replace hS := Over.more hS hb
          refine wpOp_vl 9 (.pointer (some ⟨y0.heap.size, 0, none⟩)) (y0.alloc (.cells (hdC zeroH).toArray 50)) (by rfl) (by rfl) (alloc_hd _ _ rfl _) ⟨hS, ?_⟩
          simp only [Act.put, List.getElem_toArray, List.getElem_cons_succ, List.getElem_cons_zero, List.setIfInBounds_toArray, List.set_cons_zero, List.set_cons_succ]
          clear hb
          generalize y0.alloc (.cells (hdC zeroH).toArray 50) = z1 at *
          obtain ⟨ga, HGA⟩ : ∃ z, Hid (z = y0.heap.size) := ⟨_, rfl⟩
          have hgw : y0.heap.size ≤ ga := by rw [HGA.out]; exact hsz
          rw [← HGA.out] at hba ⊢
          clear HGA hsz
          refine wpAnyH_enter 5 (by kernel_rfl) rfl (by rfl) (f := 44) (args := #[.agg (hdC g).toArray, .agg (sgC s vs).toArray]) (by simp [go_sem]) (HC.out _ (HI.out.next hS)) ?_
          rintro e z2 ⟨rfl, hb⟩
          replace hS := Over.more hS hb
          replace hba := hba.below hb hba.lt
          refine ⟨_, rfl, hS, ?_⟩
          clear hb
          simp only [Act.put, List.getElem_toArray, List.getElem_cons_succ, List.getElem_cons_zero, List.setIfInBounds_toArray, List.set_cons_zero, List.set_cons_succ]
          refine wpAnyH_take (i := 6) (v := .tuple #[.agg (hdC hf).toArray, .int .i64 ef]) rfl (by kernel_rfl) (by kernel_rfl) (by kernel_rfl) (fun _ _ _ h => h) (Or.inl ⟨by rfl, fun wx hx => by simp [go_sem]⟩) hS ?_
          simp only [Act.put, List.getElem_toArray, List.getElem_cons_succ, List.getElem_cons_zero, List.setIfInBounds_toArray, List.set_cons_zero, List.set_cons_succ]
          refine wpAnyH_take (i := 7) (v := .agg (hdC hf).toArray) rfl (by kernel_rfl) (by kernel_rfl) (by kernel_rfl) (fun _ _ _ h => h) (Or.inl ⟨by rfl, fun wx hx => by simp [go_sem]⟩) hS ?_
          simp only [Act.put, List.getElem_toArray, List.getElem_cons_succ, List.getElem_cons_zero, List.setIfInBounds_toArray, List.set_cons_zero, List.set_cons_succ]
          refine wpAnyH_take (i := 8) (v := .int .i64 ef) rfl (by kernel_rfl) (by kernel_rfl) (by kernel_rfl) (fun _ _ _ h => h) (Or.inl ⟨by rfl, fun wx hx => by simp [go_sem]⟩) hS ?_
          simp only [Act.put, List.getElem_toArray, List.getElem_cons_succ, List.getElem_cons_zero, List.setIfInBounds_toArray, List.set_cons_zero, List.set_cons_succ]
          refine wpAnyH_storeRow 10 50 (.tmp 8) (.tmp 22) ga (hdC zeroH) (hdC hf) hba (by rw [len_hdC HOF.out, len_hdC okH_zero]) (info_hdC HOF.out) (hdC_one _) (by kernel_rfl) rfl (by rfl) rfl rfl rfl ?_
          intro yE hs
          replace hS : Over y0 yE := Below.trans hS (hs.only.below hgw (Below.size hS))
          refine ⟨hS, ?_⟩
          simp only [Act.put, List.getElem_toArray, List.getElem_cons_succ, List.getElem_cons_zero]
          refine wpAnyH_take (i := 11) (v := .int .i64 ef) rfl (by kernel_rfl) (by kernel_rfl) (by kernel_rfl) (fun _ _ _ h => h) (Or.inl ⟨by rfl, fun wx hx => by simp [go_sem]⟩) hS ?_
          simp only [Act.put, List.getElem_toArray, List.getElem_cons_succ, List.getElem_cons_zero, List.setIfInBounds_toArray, List.set_cons_zero, List.set_cons_succ]
          refine wpAnyH_done (by kernel_rfl) ?_ _
          go_wp2
          go_meet
          case rel => exact ⟨ga, rfl, rfl, HI.out.next hS, hs.blk, by have h1 := HI.out.hd.lt; omega⟩
      case rest =>
        obtain ⟨g8, rfl, rfl, hI2, hb8, hne⟩ := hcut
        have HI2 : Hid (WkI w g2 g4 g wc) := hI2
        have HB8 : Hid (Blk wc g8 (hdC hf) 50) := hb8
        clear hI2 hb8 HI
        have tk2 : Hid True := trivial
        have tk3 : Hid True := trivial
        by_cases hef : ef = 0
        case pos =>
          have k1 : (ef == 0) = true := by rw [beq_iff_eq]; exact hef
          have k2 : (ef != 0) = false := by rw [bne, k1]; rfl
          have HEZ : Hid (ef = 0) := hef
          clear hef
          go_wp2_with (first
            | (clear tk2; with_reducible refine wpSeq_loadW 50 (.tmp 8) g8 0 (hdC hf) _ ?_ Tryd.underlying50 rfl ?_ ?_ ?_ ?_ ?_
               · exact HB8.out.range
               · exact info_hdC HOF.out
               · rfl
               · rfl
               · rfl)
            | (clear tk3; with_reducible refine wpSeq_storeRow 50 (.tmp 2) (.tmp 29) g2 (hdC g) (hdC hf) ?_ ?_ ?_ ?_ ?_ ?_ ?_ ?_ ?_
               · exact HI2.out.hd
               · rw [len_hdC HOF.out, len_hdC HOG.out]
               · exact info_hdC HOF.out
               · exact hdC_one _
               · rfl
               · rfl
               · rfl
               · rfl
               intro yF hs
               have HIF : Hid (WkI w g2 g4 hf yF) := ⟨hs.blk, HI2.out.rs.only hs.only (fun e => HN4.out.1 e.symm), HI2.out.bel.trans (hs.only.below HGE2.out HI2.out.bel.size)⟩
               clear hs HI2 HB8))
          go_roundw
          case rel => exact ⟨k + 1, hf, by omega, by simp, HOF.out, HST.out.1 HEZ.out, HIF.out⟩
          case measure => simp [intOf]; omega
        case neg =>
          have k1 : (ef == 0) = false := by rw [beq_eq_false_iff_ne]; exact hef
          have k2 : (ef != 0) = true := by rw [bne, k1]; rfl
          go_wp2_with (first
            | (clear tk2; with_reducible refine wpSeq_build 50 [] (hdC zeroH) ?_ ?_ ?_ ?_
               · exact built_head []
               · rfl
               · rfl)
            | (clear tk3; with_reducible refine wpSeq_storeRow 50 (.tmp 4) (.tmp 26) g4 (hdC zeroH) (hdC zeroH) ?_ ?_ ?_ ?_ ?_ ?_ ?_ ?_ ?_
               · exact HI2.out.rs
               · rfl
               · exact info_hdC okH_zero
               · exact hdC_one _
               · rfl
               · rfl
               · rfl
               · rfl
               intro yF hs))
          exact bodyPost_ret (results_row_tmp2 (by rfl) _ _ g4 _ rfl (var_hd hs.blk okH_zero)) rfl ⟨by rw [HST.out.2 hef]; rfl, HI2.out.bel.trans (hs.only.below HN4.out.2 HI2.out.bel.size)⟩
    · have hi : ¬ ((k : Int) < (n : Int)) := by omega
      have hk : k = n := by omega
      subst hk
      have HWL : Hid (walkR h l = (g, k, 0)) := by have h1 := HWK.out; rw [List.take_of_length_le (by have := HN.out; omega)] at h1; exact h1
      have tk2 : Hid True := trivial
      have tk3 : Hid True := trivial
      go_wp2_with (first
        | (clear tk2; with_reducible refine wpSeq_loadW 50 (.tmp 2) g2 0 (hdC g) _ ?_ Tryd.underlying50 rfl ?_ ?_ ?_ ?_ ?_
           · exact HI.out.hd.range
           · exact info_hdC HOG.out
           · rfl
           · rfl
           · rfl)
        | (clear tk3; with_reducible refine wpSeq_storeRow 50 (.tmp 4) (.tmp 31) g4 (hdC zeroH) (hdC g) ?_ ?_ ?_ ?_ ?_ ?_ ?_ ?_ ?_
           · exact HI.out.rs
           · rw [len_hdC HOG.out, len_hdC okH_zero]
           · exact info_hdC HOG.out
           · exact hdC_one _
           · rfl
           · rfl
           · rfl
           · rfl
           intro yF hs))
      exact bodyPost_ret (results_row_tmp2 (by rfl) _ _ g4 _ rfl (var_hd hs.blk HOG.out)) rfl ⟨by rw [HWL.out]; rfl, HI.out.bel.trans (hs.only.below HN4.out.2 HI.out.bel.size)⟩
end Go.Proofs.YtableajopaappaaDoor
/- The walk of chain's Follow (layer 11). -/
namespace Go.Proofs.YtableajopaappaaDoor
open Go.RowKit Go.Shelf
set_option maxRecDepth 100000
set_option maxRecDepth 100000 in
set_option maxHeartbeats 8000000 in
theorem chFollow_any (h : HdT) (s : SgT) (vs : Value) (w : World) (hK : KOk w) (oh : okH h) (os : okS s) (hr : Reads w vs s.2) :
    Calls Tryd.prog 44 #[.agg (hdC h).toArray, .agg (sgC s vs).toArray] w fun e w' => e = .returned (.tuple #[.agg (hdC (followR h s).1).toArray, .int .i64 (followR h s).2]) ∧ Below w.heap.size w w' := by
  obtain ⟨ads, cps, hvs, hqs⟩ := id hr
  clear hqs
  obtain ⟨ns, HNS⟩ : ∃ n, Hid (n = s.2.length) := ⟨_, rfl⟩
  rw [← HNS.out] at hvs
  have HR : Hid (Reads w vs s.2) := hr
  subst hvs
  obtain ⟨ch, HCH⟩ : ∃ c, Hid (c = hdC h) := ⟨_, rfl⟩
  obtain ⟨csg, HCS⟩ : ∃ c, Hid (c = sgC s (.slice ads ns cps)) := ⟨_, rfl⟩
  obtain ⟨n, HNN⟩ : ∃ n, Hid (n = h.1) := ⟨_, rfl⟩
  obtain ⟨m, HMM⟩ : ∃ n, Hid (n = s.1.1) := ⟨_, rfl⟩
  rw [← HCH.out, ← HCS.out]
  have HOH : Hid (okH h) := oh
  have HOS : Hid (okS s) := os
  have HIH : Hid ((Tryd.prog.info? 50).map (·.size) = some ch.length) := by show _ = _; rw [HCH.out]; exact info_hdC HOH.out
  have HBW : Hid (Below w.heap.size w w) := Below.refl _ _
  have hm0 : (m : Int) < 18446744073709551616 := by have := os.2.2.2; rw [HMM.out]; omega
  have HKW : Hid (∀ W : World, Below w.heap.size w W → KOk W) := fun W hh => hK.below hh hK.lt
  clear oh os hr hK
  by_cases h64 : 64 ≤ n
  · have HFR : Hid (followR h s = (zeroH, 10)) := by show _ = _; unfold followR; rw [if_pos (Or.inl (by rw [← HNN.out]; exact h64))]
    have HSP : Hid (∀ W : World, Calls Tryd.prog 72 #[.agg ch.toArray] W fun e w' => e = .returned (.bool true) ∧ Below W.heap.size W w') := fun W => by have := chSpent_any h W; rw [← HCH.out, ← HNN.out, decide_eq_true h64] at this; exact this
    have c64 : (64 : Int) ≤ (n : Int) := by omega
    have d64 : decide ((64 : Int) ≤ (n : Int)) = true := decide_eq_true c64
    clear hm0
    go_enter Tryd.func44, Tryd.ntmps44
    have tk0 : Hid True := trivial
    have tk1 : Hid True := trivial
    have tk2 : Hid True := trivial
    have tk3 : Hid True := trivial
    have tk4 : Hid True := trivial
    have tk90 : Hid True := trivial
    have tk91 : Hid True := trivial
    go_wp2_with (first
    | (clear tk0; with_reducible refine wpSeq_boxW 50 (.tmp 0) ch ?_ ?_ ?_ ?_
       · rfl
       · rfl
       · rfl
       intro g2 y1 nn
       have HG2 : Hid (Blk y1 g2 ch 50) := nn.blk
       replace HBW : Hid (Below w.heap.size w y1) := HBW.out.trans (nn.below.mono HBW.out.size)
       clear nn)
    | (clear tk1; with_reducible refine wpSeq_boxW 30 (.tmp 1) csg ?_ ?_ ?_ ?_
       · rfl
       · rfl
       · rfl
       intro g3 y2 nn
       replace HG2 : Hid (Blk y2 g2 ch 50) := HG2.out.below nn.below HG2.out.lt
       have HG3 : Hid (Blk y2 g3 csg 30) := nn.blk
       replace HBW : Hid (Below w.heap.size w y2) := HBW.out.trans (nn.below.mono HBW.out.size)
       clear nn)
    | (clear tk2; with_reducible refine wpSeq_allocH ?_ ?_ ?_
       · rfl
       · rfl
       intro g4 y2b nn
       have HN4 : Hid (g2 ≠ g4 ∧ g3 ≠ g4 ∧ w.heap.size ≤ g4) := by have h1 := HG2.out.lt; have h2 := HG3.out.lt; have h3 := nn.ge; have h4 := HBW.out.size; exact ⟨by omega, by omega, by omega⟩
       replace HG2 : Hid (Blk y2b g2 ch 50) := HG2.out.below nn.below HG2.out.lt
       replace HG3 : Hid (Blk y2b g3 csg 30) := HG3.out.below nn.below HG3.out.lt
       have HG4 : Hid (Blk y2b g4 (hdC zeroH) 50) := nn.blk
       replace HBW : Hid (Below w.heap.size w y2b) := HBW.out.trans (nn.below.mono HBW.out.size)
       clear nn)
    | (clear tk90; with_reducible refine wpSeq_loadW 50 (.tmp 2) g2 0 ch _ ?_ Tryd.underlying50 rfl ?_ ?_ ?_ ?_ ?_
       · exact HG2.out.range
       · exact HIH.out
       · rfl
       · rfl
       · rfl)
    | (clear tk91; go_at_call 72; refine (HSP.out y2b).mono ?_; rintro e y3 ⟨rfl, hbz⟩
       replace HG2 : Hid (Blk y3 g2 ch 50) := HG2.out.below hbz HG2.out.lt
       replace HG3 : Hid (Blk y3 g3 csg 30) := HG3.out.below hbz HG3.out.lt
       replace HG4 : Hid (Blk y3 g4 (hdC zeroH) 50) := HG4.out.below hbz HG4.out.lt
       replace HBW : Hid (Below w.heap.size w y3) := HBW.out.trans (hbz.mono HBW.out.size)
       have ce : y3.cell? ⟨g2, 0, none⟩ = some (.int .u64 (n : Int)) := by have := HG2.out.cell 0; rw [HCH.out] at this; rw [HNN.out]; exact this
       have cm : y3.cell? ⟨g3, 0, none⟩ = some (.int .u64 (m : Int)) := by have := HG3.out.cell 0; rw [HCS.out] at this; rw [HMM.out]; exact this
       clear hbz)
    | (clear tk3; with_reducible refine wpSeq_build 50 [] (hdC zeroH) ?_ ?_ ?_ ?_
       · exact built_head []
       · rfl
       · rfl)
    | (clear tk4; with_reducible refine wpSeq_storeRow 50 (.tmp 4) (.tmp 18) g4 (hdC zeroH) (hdC zeroH) ?_ ?_ ?_ ?_ ?_ ?_ ?_ ?_ ?_
       · exact HG4.out
       · rfl
       · exact info_hdC okH_zero
       · exact hdC_one _
       · rfl
       · rfl
       · rfl
       · rfl
       intro y4 hs))
    exact bodyPost_ret (results_row_tmp (by rfl) _ _ g4 _ rfl (var_hd hs.blk okH_zero)) rfl ⟨by rw [HFR.out]; rfl, HBW.out.trans (hs.only.below HN4.out.2.2 HBW.out.size)⟩
  have HSP : Hid (∀ W : World, Calls Tryd.prog 72 #[.agg ch.toArray] W fun e w' => e = .returned (.bool false) ∧ Below W.heap.size W w') := fun W => by have := chSpent_any h W; rw [← HCH.out, ← HNN.out, decide_eq_false h64] at this; exact this
  have hn64 : n < 64 := by omega
  have c64 : ¬ ((64 : Int) ≤ (n : Int)) := by omega
  have d64 : decide ((64 : Int) ≤ (n : Int)) = false := decide_eq_false c64
  have f1 : IntKind.u64.wrap ((n : Int) + 1) = (n : Int) + 1 := by rw [IntKind.wrap_u64]; omega
  by_cases hep : m = n + 1
  case neg =>
    have HFR : Hid (followR h s = (zeroH, 10)) := by show _ = _; unfold followR; rw [if_pos (Or.inr (by rw [← HNN.out, ← HMM.out]; exact hep))]
    have e1 : ((m : Int) == (n : Int) + 1) = false := by rw [beq_eq_false_iff_ne]; omega
    have e2 : ((m : Int) != (n : Int) + 1) = true := by rw [bne, e1]; rfl
    clear hm0 hep h64
    go_enter Tryd.func44, Tryd.ntmps44
    have tk0 : Hid True := trivial
    have tk1 : Hid True := trivial
    have tk2 : Hid True := trivial
    have tk3 : Hid True := trivial
    have tk4 : Hid True := trivial
    have tk90 : Hid True := trivial
    have tk91 : Hid True := trivial
    go_wp2_with (first
    | (clear tk0; with_reducible refine wpSeq_boxW 50 (.tmp 0) ch ?_ ?_ ?_ ?_
       · rfl
       · rfl
       · rfl
       intro g2 y1 nn
       have HG2 : Hid (Blk y1 g2 ch 50) := nn.blk
       replace HBW : Hid (Below w.heap.size w y1) := HBW.out.trans (nn.below.mono HBW.out.size)
       clear nn)
    | (clear tk1; with_reducible refine wpSeq_boxW 30 (.tmp 1) csg ?_ ?_ ?_ ?_
       · rfl
       · rfl
       · rfl
       intro g3 y2 nn
       replace HG2 : Hid (Blk y2 g2 ch 50) := HG2.out.below nn.below HG2.out.lt
       have HG3 : Hid (Blk y2 g3 csg 30) := nn.blk
       replace HBW : Hid (Below w.heap.size w y2) := HBW.out.trans (nn.below.mono HBW.out.size)
       clear nn)
    | (clear tk2; with_reducible refine wpSeq_allocH ?_ ?_ ?_
       · rfl
       · rfl
       intro g4 y2b nn
       have HN4 : Hid (g2 ≠ g4 ∧ g3 ≠ g4 ∧ w.heap.size ≤ g4) := by have h1 := HG2.out.lt; have h2 := HG3.out.lt; have h3 := nn.ge; have h4 := HBW.out.size; exact ⟨by omega, by omega, by omega⟩
       replace HG2 : Hid (Blk y2b g2 ch 50) := HG2.out.below nn.below HG2.out.lt
       replace HG3 : Hid (Blk y2b g3 csg 30) := HG3.out.below nn.below HG3.out.lt
       have HG4 : Hid (Blk y2b g4 (hdC zeroH) 50) := nn.blk
       replace HBW : Hid (Below w.heap.size w y2b) := HBW.out.trans (nn.below.mono HBW.out.size)
       clear nn)
    | (clear tk90; with_reducible refine wpSeq_loadW 50 (.tmp 2) g2 0 ch _ ?_ Tryd.underlying50 rfl ?_ ?_ ?_ ?_ ?_
       · exact HG2.out.range
       · exact HIH.out
       · rfl
       · rfl
       · rfl)
    | (clear tk91; go_at_call 72; refine (HSP.out y2b).mono ?_; rintro e y3 ⟨rfl, hbz⟩
       replace HG2 : Hid (Blk y3 g2 ch 50) := HG2.out.below hbz HG2.out.lt
       replace HG3 : Hid (Blk y3 g3 csg 30) := HG3.out.below hbz HG3.out.lt
       replace HG4 : Hid (Blk y3 g4 (hdC zeroH) 50) := HG4.out.below hbz HG4.out.lt
       replace HBW : Hid (Below w.heap.size w y3) := HBW.out.trans (hbz.mono HBW.out.size)
       have ce : y3.cell? ⟨g2, 0, none⟩ = some (.int .u64 (n : Int)) := by have := HG2.out.cell 0; rw [HCH.out] at this; rw [HNN.out]; exact this
       have cm : y3.cell? ⟨g3, 0, none⟩ = some (.int .u64 (m : Int)) := by have := HG3.out.cell 0; rw [HCS.out] at this; rw [HMM.out]; exact this
       clear hbz)
    | (clear tk3; with_reducible refine wpSeq_build 50 [] (hdC zeroH) ?_ ?_ ?_ ?_
       · exact built_head []
       · rfl
       · rfl)
    | (clear tk4; with_reducible refine wpSeq_storeRow 50 (.tmp 4) (.tmp 18) g4 (hdC zeroH) (hdC zeroH) ?_ ?_ ?_ ?_ ?_ ?_ ?_ ?_ ?_
       · exact HG4.out
       · rfl
       · exact info_hdC okH_zero
       · exact hdC_one _
       · rfl
       · rfl
       · rfl
       · rfl
       intro y4 hs))
    exact bodyPost_ret (results_row_tmp (by rfl) _ _ g4 _ rfl (var_hd hs.blk okH_zero)) rfl ⟨by rw [HFR.out]; rfl, HBW.out.trans (hs.only.below HN4.out.2.2 HBW.out.size)⟩
  case pos =>
    have e1 : ((m : Int) == (n : Int) + 1) = true := by rw [beq_iff_eq]; omega
    have e2 : ((m : Int) != (n : Int) + 1) = false := by rw [bne, e1]; rfl
    have HEP : Hid (¬ (64 ≤ h.1 ∨ s.1.1 ≠ h.1 + 1)) := by show ¬ _; rw [← HNN.out, ← HMM.out]; rintro (h1 | h1); exact h64 h1; exact h1 hep
    obtain ⟨pv, HPV⟩ : ∃ c, Hid (c = s.1.2.1) := ⟨_, rfl⟩
    obtain ⟨nx, HNX⟩ : ∃ c, Hid (c = s.1.2.2.2) := ⟨_, rfl⟩
    obtain ⟨hr0, HHR⟩ : ∃ c, Hid (c = h.2.1) := ⟨_, rfl⟩
    obtain ⟨ky, HKY⟩ : ∃ c, Hid (c = h.2.2) := ⟨_, rfl⟩
    have HLN : Hid (pv.length = 32 ∧ nx.length = 32 ∧ hr0.length = 32 ∧ ky.length = 32) := by rw [HPV.out, HNX.out, HHR.out, HKY.out]; exact ⟨HOS.out.1, HOS.out.2.2.1, HOH.out.1, HOH.out.2.1⟩
    obtain ⟨o, HO⟩ : ∃ o, Hid (o = decide (pv = hr0)) := ⟨_, rfl⟩
    have heq : ∀ wx : World, (Op.equalIn 10000 23 (.agg (cb pv).toArray) (.agg (cb hr0).toArray)).run Tryd.prog wx = .ok o wx := fun wx => by rw [HO.out]; exact eq_dig pv hr0 HLN.out.1 HLN.out.2.2.1 wx
    obtain ⟨rt, HRT⟩ : ∃ c, Hid (c = rtC s) := ⟨_, rfl⟩
    obtain ⟨rb, HRB⟩ : ∃ c, Hid (c = rbS s) := ⟨_, rfl⟩
    have HLB : Hid (rb.length = 105) := by show _ = _; rw [HRB.out]; exact len_rbS HOS.out
    obtain ⟨dg, HDG⟩ : ∃ c, Hid (c = dig rb) := ⟨_, rfl⟩
    have HDL : Hid (dg.length = 32) := by show _ = _; rw [HDG.out]; exact len_dig' _
    obtain ⟨ck, HCK⟩ : ∃ c, Hid (c = checkE ky rb s.2) := ⟨_, rfl⟩
    have HC1 : Hid (∀ W : World, Below w.heap.size w W → Calls Tryd.prog 73 #[.agg rt.toArray] W fun e w' => ∃ v, e = .returned v ∧ Reads w' v rb ∧ Below W.heap.size W w') := fun W hh => by rw [HRT.out, HRB.out]; exact tRoot_any _ _ _ _ W ⟨HOS.out.1, HOS.out.2.1, HOS.out.2.2.1, HOS.out.2.2.2⟩
    have HC2 : Hid (∀ (W : World) (v : Value), Below w.heap.size w W → Reads W v rb → Calls Tryd.prog 74 #[.agg (cb ky).toArray, v, .slice ads ns cps] W fun e w' => e = .returned (.int .i64 ck) ∧ Below W.heap.size W w') := fun W v hh hv => by rw [HCK.out]; exact lCheck_any ky v _ rb s.2 W (HKW.out W hh) HLN.out.2.2.2 hv (HR.out.below hh) (by rw [HLB.out]; decide)
    have HC3 : Hid (∀ (W : World) (v : Value), Below w.heap.size w W → Reads W v rb → Calls Tryd.prog 75 #[v] W fun e w' => e = .returned (.agg (cb dg).toArray) ∧ Below W.heap.size W w') := fun W v hh hv => by rw [HDG.out]; exact tOf_any v rb W (HKW.out W hh) hv (by rw [HLB.out]; omega)
    have HFR : Hid (followR h s = if o = true ∧ ck = 0 then ((m, dg, nx), 0) else (zeroH, 15)) := by
      show _ = _
      unfold followR
      rw [if_neg HEP.out, HMM.out, HDG.out, HNX.out, HRB.out, HCK.out, HRB.out, HKY.out, HO.out, HPV.out, HHR.out]
      by_cases q1 : s.1.2.1 = h.2.1
      · by_cases q2 : checkE h.2.2 (rbS s) s.2 = 0
        · rw [if_neg (by rintro (k | k); exact k q1; exact k q2), if_pos ⟨decide_eq_true q1, q2⟩]
        · rw [if_pos (Or.inr q2), if_neg (fun k => q2 k.2)]
      · rw [if_pos (Or.inl q1), if_neg (fun k => q1 (of_decide_eq_true k.1))]
    have HTC : Hid (∀ (W : World) (g : Nat), Blk W g ch 50 → HdAt W g 0 h) := fun W g hg => by rw [HCH.out] at hg; exact hg.hdAt HOH.out
    have HTS : Hid (∀ (W : World) (g : Nat), Blk W g csg 30 → SgAt W g 0 s (.slice ads ns cps)) := fun W g hg => by rw [HCS.out] at hg; exact hg.sgAt HOS.out
    clear hep h64 hm0 HEP HO HDG HCK HRB
    have HIR : Hid ((Tryd.prog.info? 27).map (·.size) = some rt.length) := by show _ = _; rw [HRT.out]; exact info_rtC HOS.out
    cases o with
    | false =>
      go_enter Tryd.func44, Tryd.ntmps44
      have tk0 : Hid True := trivial
      have tk1 : Hid True := trivial
      have tk2 : Hid True := trivial
      have tk90 : Hid True := trivial
      have tk91 : Hid True := trivial
      have tk30 : Hid True := trivial
      have tk31 : Hid True := trivial
      have tk32 : Hid True := trivial
      have tk33 : Hid True := trivial
      have tk34 : Hid True := trivial
      have tk35 : Hid True := trivial
      go_wp2_with (first
        | (clear tk0; with_reducible refine wpSeq_boxW 50 (.tmp 0) ch ?_ ?_ ?_ ?_
           · rfl
           · rfl
           · rfl
           intro g2 y1 nn
           have HG2 : Hid (Blk y1 g2 ch 50) := nn.blk
           replace HBW : Hid (Below w.heap.size w y1) := HBW.out.trans (nn.below.mono HBW.out.size)
           clear nn)
        | (clear tk1; with_reducible refine wpSeq_boxW 30 (.tmp 1) csg ?_ ?_ ?_ ?_
           · rfl
           · rfl
           · rfl
           intro g3 y2 nn
           replace HG2 : Hid (Blk y2 g2 ch 50) := HG2.out.below nn.below HG2.out.lt
           have HG3 : Hid (Blk y2 g3 csg 30) := nn.blk
           replace HBW : Hid (Below w.heap.size w y2) := HBW.out.trans (nn.below.mono HBW.out.size)
           clear nn)
        | (clear tk2; with_reducible refine wpSeq_allocH ?_ ?_ ?_
           · rfl
           · rfl
           intro g4 y2b nn
           have HN4 : Hid (g2 ≠ g4 ∧ g3 ≠ g4 ∧ w.heap.size ≤ g4) := by have h1 := HG2.out.lt; have h2 := HG3.out.lt; have h3 := nn.ge; have h4 := HBW.out.size; exact ⟨by omega, by omega, by omega⟩
           replace HG2 : Hid (Blk y2b g2 ch 50) := HG2.out.below nn.below HG2.out.lt
           replace HG3 : Hid (Blk y2b g3 csg 30) := HG3.out.below nn.below HG3.out.lt
           have HG4 : Hid (Blk y2b g4 (hdC zeroH) 50) := nn.blk
           replace HBW : Hid (Below w.heap.size w y2b) := HBW.out.trans (nn.below.mono HBW.out.size)
           clear nn)
        | (clear tk90; with_reducible refine wpSeq_loadW 50 (.tmp 2) g2 0 ch _ ?_ Tryd.underlying50 rfl ?_ ?_ ?_ ?_ ?_
           · exact HG2.out.range
           · exact HIH.out
           · rfl
           · rfl
           · rfl)
        | (clear tk91; go_at_call 72; refine (HSP.out y2b).mono ?_; rintro e y3 ⟨rfl, hbz⟩
           replace HG2 : Hid (Blk y3 g2 ch 50) := HG2.out.below hbz HG2.out.lt
           replace HG3 : Hid (Blk y3 g3 csg 30) := HG3.out.below hbz HG3.out.lt
           replace HG4 : Hid (Blk y3 g4 (hdC zeroH) 50) := HG4.out.below hbz HG4.out.lt
           replace HBW : Hid (Below w.heap.size w y3) := HBW.out.trans (hbz.mono HBW.out.size)
           have ce : y3.cell? ⟨g2, 0, none⟩ = some (.int .u64 (n : Int)) := by have := HG2.out.cell 0; rw [HCH.out] at this; rw [HNN.out]; exact this
           have cm : y3.cell? ⟨g3, 0, none⟩ = some (.int .u64 (m : Int)) := by have := HG3.out.cell 0; rw [HCS.out] at this; rw [HMM.out]; exact this
           clear hbz)
        | (clear tk30; with_reducible refine wpSeq_loadW 27 (.tmp 19) g3 0 rt _ ?_ Tryd.underlying27 rfl ?_ ?_ ?_ ?_ ?_
           · exact (by rw [HRT.out]; exact (HTS.out _ _ HG3.out).root)
           · exact HIR.out
           · rfl
           · rfl
           · rfl)
        | (clear tk31; go_at_call 73; refine (HC1.out y3 HBW.out).mono ?_; rintro e y31 ⟨vb, rfl, hvb, hbz⟩
           clear ce cm
           replace HG2 : Hid (Blk y31 g2 ch 50) := HG2.out.below hbz HG2.out.lt
           replace HG3 : Hid (Blk y31 g3 csg 30) := HG3.out.below hbz HG3.out.lt
           replace HG4 : Hid (Blk y31 g4 (hdC zeroH) 50) := HG4.out.below hbz HG4.out.lt
           replace HBW : Hid (Below w.heap.size w y31) := HBW.out.trans (hbz.mono HBW.out.size)
           have HVB : Hid (Reads y31 vb rb) := hvb
           have cv : y31.cell? ⟨g3, 97, none⟩ = some (.slice ads ns cps) := by have := (HTS.out _ _ HG3.out).sig; rwa [Nat.zero_add] at this
           clear hbz hvb)
        | (clear tk32; with_reducible refine wpSeq_loadAt (.tmp 23) g3 1 pv ?_ ?_ ?_ ?_ ?_ ?_
           · exact HLN.out.1
           · rw [HPV.out]; exact (HTS.out _ _ HG3.out).prev
           · rfl
           · rfl
           · rfl)
        | (clear tk33; with_reducible refine wpSeq_loadAt (.tmp 25) g2 1 hr0 ?_ ?_ ?_ ?_ ?_ ?_
           · exact HLN.out.2.2.1
           · rw [HHR.out]; exact (HTC.out _ _ HG2.out).rt
           · rfl
           · rfl
           · rfl)
        | (clear tk34; with_reducible refine wpSeq_build 50 [] (hdC zeroH) ?_ ?_ ?_ ?_
           · exact built_head []
           · rfl
           · rfl)
        | (clear tk35; with_reducible refine wpSeq_storeRow 50 (.tmp 4) (.tmp 37) g4 (hdC zeroH) (hdC zeroH) ?_ ?_ ?_ ?_ ?_ ?_ ?_ ?_ ?_
           · exact HG4.out
           · rfl
           · exact info_hdC okH_zero
           · exact hdC_one _
           · rfl
           · rfl
           · rfl
           · rfl
           intro y99 hs))
      exact bodyPost_ret (results_row_tmp (by rfl) _ _ g4 _ rfl (var_hd hs.blk okH_zero)) rfl ⟨by rw [HFR.out, if_neg (fun k => by cases k.1)]; rfl, HBW.out.trans (hs.only.below HN4.out.2.2 HBW.out.size)⟩
    | true =>
      by_cases hck : ck = 0
      case neg =>
        have k1 : (ck == 0) = false := by rw [beq_eq_false_iff_ne]; exact hck
        have k2 : (ck != 0) = true := by rw [bne, k1]; rfl
        go_enter Tryd.func44, Tryd.ntmps44
        have tk0 : Hid True := trivial
        have tk1 : Hid True := trivial
        have tk2 : Hid True := trivial
        have tk90 : Hid True := trivial
        have tk91 : Hid True := trivial
        have tk30 : Hid True := trivial
        have tk31 : Hid True := trivial
        have tk32 : Hid True := trivial
        have tk33 : Hid True := trivial
        have tk34 : Hid True := trivial
        have tk35 : Hid True := trivial
        have tk36 : Hid True := trivial
        have tk37 : Hid True := trivial
        go_wp2_with (first
          | (clear tk0; with_reducible refine wpSeq_boxW 50 (.tmp 0) ch ?_ ?_ ?_ ?_
             · rfl
             · rfl
             · rfl
             intro g2 y1 nn
             have HG2 : Hid (Blk y1 g2 ch 50) := nn.blk
             replace HBW : Hid (Below w.heap.size w y1) := HBW.out.trans (nn.below.mono HBW.out.size)
             clear nn)
          | (clear tk1; with_reducible refine wpSeq_boxW 30 (.tmp 1) csg ?_ ?_ ?_ ?_
             · rfl
             · rfl
             · rfl
             intro g3 y2 nn
             replace HG2 : Hid (Blk y2 g2 ch 50) := HG2.out.below nn.below HG2.out.lt
             have HG3 : Hid (Blk y2 g3 csg 30) := nn.blk
             replace HBW : Hid (Below w.heap.size w y2) := HBW.out.trans (nn.below.mono HBW.out.size)
             clear nn)
          | (clear tk2; with_reducible refine wpSeq_allocH ?_ ?_ ?_
             · rfl
             · rfl
             intro g4 y2b nn
             have HN4 : Hid (g2 ≠ g4 ∧ g3 ≠ g4 ∧ w.heap.size ≤ g4) := by have h1 := HG2.out.lt; have h2 := HG3.out.lt; have h3 := nn.ge; have h4 := HBW.out.size; exact ⟨by omega, by omega, by omega⟩
             replace HG2 : Hid (Blk y2b g2 ch 50) := HG2.out.below nn.below HG2.out.lt
             replace HG3 : Hid (Blk y2b g3 csg 30) := HG3.out.below nn.below HG3.out.lt
             have HG4 : Hid (Blk y2b g4 (hdC zeroH) 50) := nn.blk
             replace HBW : Hid (Below w.heap.size w y2b) := HBW.out.trans (nn.below.mono HBW.out.size)
             clear nn)
          | (clear tk90; with_reducible refine wpSeq_loadW 50 (.tmp 2) g2 0 ch _ ?_ Tryd.underlying50 rfl ?_ ?_ ?_ ?_ ?_
             · exact HG2.out.range
             · exact HIH.out
             · rfl
             · rfl
             · rfl)
          | (clear tk91; go_at_call 72; refine (HSP.out y2b).mono ?_; rintro e y3 ⟨rfl, hbz⟩
             replace HG2 : Hid (Blk y3 g2 ch 50) := HG2.out.below hbz HG2.out.lt
             replace HG3 : Hid (Blk y3 g3 csg 30) := HG3.out.below hbz HG3.out.lt
             replace HG4 : Hid (Blk y3 g4 (hdC zeroH) 50) := HG4.out.below hbz HG4.out.lt
             replace HBW : Hid (Below w.heap.size w y3) := HBW.out.trans (hbz.mono HBW.out.size)
             have ce : y3.cell? ⟨g2, 0, none⟩ = some (.int .u64 (n : Int)) := by have := HG2.out.cell 0; rw [HCH.out] at this; rw [HNN.out]; exact this
             have cm : y3.cell? ⟨g3, 0, none⟩ = some (.int .u64 (m : Int)) := by have := HG3.out.cell 0; rw [HCS.out] at this; rw [HMM.out]; exact this
             clear hbz)
          | (clear tk30; with_reducible refine wpSeq_loadW 27 (.tmp 19) g3 0 rt _ ?_ Tryd.underlying27 rfl ?_ ?_ ?_ ?_ ?_
             · exact (by rw [HRT.out]; exact (HTS.out _ _ HG3.out).root)
             · exact HIR.out
             · rfl
             · rfl
             · rfl)
          | (clear tk31; go_at_call 73; refine (HC1.out y3 HBW.out).mono ?_; rintro e y31 ⟨vb, rfl, hvb, hbz⟩
             clear ce cm
             replace HG2 : Hid (Blk y31 g2 ch 50) := HG2.out.below hbz HG2.out.lt
             replace HG3 : Hid (Blk y31 g3 csg 30) := HG3.out.below hbz HG3.out.lt
             replace HG4 : Hid (Blk y31 g4 (hdC zeroH) 50) := HG4.out.below hbz HG4.out.lt
             replace HBW : Hid (Below w.heap.size w y31) := HBW.out.trans (hbz.mono HBW.out.size)
             have HVB : Hid (Reads y31 vb rb) := hvb
             have cv : y31.cell? ⟨g3, 97, none⟩ = some (.slice ads ns cps) := by have := (HTS.out _ _ HG3.out).sig; rwa [Nat.zero_add] at this
             clear hbz hvb)
          | (clear tk32; with_reducible refine wpSeq_loadAt (.tmp 23) g3 1 pv ?_ ?_ ?_ ?_ ?_ ?_
             · exact HLN.out.1
             · rw [HPV.out]; exact (HTS.out _ _ HG3.out).prev
             · rfl
             · rfl
             · rfl)
          | (clear tk33; with_reducible refine wpSeq_loadAt (.tmp 25) g2 1 hr0 ?_ ?_ ?_ ?_ ?_ ?_
             · exact HLN.out.2.2.1
             · rw [HHR.out]; exact (HTC.out _ _ HG2.out).rt
             · rfl
             · rfl
             · rfl)
          | (clear tk34; with_reducible refine wpSeq_loadAt (.tmp 29) g2 33 ky ?_ ?_ ?_ ?_ ?_ ?_
             · exact HLN.out.2.2.2
             · rw [HKY.out]; exact (HTC.out _ _ HG2.out).ky
             · rfl
             · rfl
             · rfl)
          | (clear tk35; go_at_call 74; refine (HC2.out y31 vb HBW.out HVB.out).mono ?_; rintro e y32 ⟨rfl, hbz⟩
             clear cv
             replace HG2 : Hid (Blk y32 g2 ch 50) := HG2.out.below hbz HG2.out.lt
             replace HG3 : Hid (Blk y32 g3 csg 30) := HG3.out.below hbz HG3.out.lt
             replace HG4 : Hid (Blk y32 g4 (hdC zeroH) 50) := HG4.out.below hbz HG4.out.lt
             replace HBW : Hid (Below w.heap.size w y32) := HBW.out.trans (hbz.mono HBW.out.size)
             replace HVB : Hid (Reads y32 vb rb) := HVB.out.below hbz
             clear hbz )
          | (clear tk36; with_reducible refine wpSeq_build 50 [] (hdC zeroH) ?_ ?_ ?_ ?_
             · exact built_head []
             · rfl
             · rfl)
          | (clear tk37; with_reducible refine wpSeq_storeRow 50 (.tmp 4) (.tmp 37) g4 (hdC zeroH) (hdC zeroH) ?_ ?_ ?_ ?_ ?_ ?_ ?_ ?_ ?_
             · exact HG4.out
             · rfl
             · exact info_hdC okH_zero
             · exact hdC_one _
             · rfl
             · rfl
             · rfl
             · rfl
             intro y99 hs))
        exact bodyPost_ret (results_row_tmp (by rfl) _ _ g4 _ rfl (var_hd hs.blk okH_zero)) rfl ⟨by rw [HFR.out, if_neg (fun k => hck k.2)]; rfl, HBW.out.trans (hs.only.below HN4.out.2.2 HBW.out.size)⟩
      case pos =>
        have k1 : (ck == 0) = true := by rw [beq_iff_eq]; exact hck
        have k2 : (ck != 0) = false := by rw [bne, k1]; rfl
        have HKK : Hid (ck = 0) := hck
        have HOK : Hid (okH (m, dg, nx)) := okH_mk HDL.out HLN.out.2.1 (by have := HOS.out.2.2.2; rw [HMM.out]; exact this)
        clear hck
        go_enter Tryd.func44, Tryd.ntmps44
        have tk0 : Hid True := trivial
        have tk1 : Hid True := trivial
        have tk2 : Hid True := trivial
        have tk90 : Hid True := trivial
        have tk91 : Hid True := trivial
        have tk30 : Hid True := trivial
        have tk31 : Hid True := trivial
        have tk32 : Hid True := trivial
        have tk33 : Hid True := trivial
        have tk34 : Hid True := trivial
        have tk35 : Hid True := trivial
        go_upto_region 6 with (first
          | (clear tk0; with_reducible refine wpSeq_boxW 50 (.tmp 0) ch ?_ ?_ ?_ ?_
             · rfl
             · rfl
             · rfl
             intro g2 y1 nn
             have HG2 : Hid (Blk y1 g2 ch 50) := nn.blk
             replace HBW : Hid (Below w.heap.size w y1) := HBW.out.trans (nn.below.mono HBW.out.size)
             clear nn)
          | (clear tk1; with_reducible refine wpSeq_boxW 30 (.tmp 1) csg ?_ ?_ ?_ ?_
             · rfl
             · rfl
             · rfl
             intro g3 y2 nn
             replace HG2 : Hid (Blk y2 g2 ch 50) := HG2.out.below nn.below HG2.out.lt
             have HG3 : Hid (Blk y2 g3 csg 30) := nn.blk
             replace HBW : Hid (Below w.heap.size w y2) := HBW.out.trans (nn.below.mono HBW.out.size)
             clear nn)
          | (clear tk2; with_reducible refine wpSeq_allocH ?_ ?_ ?_
             · rfl
             · rfl
             intro g4 y2b nn
             have HN4 : Hid (g2 ≠ g4 ∧ g3 ≠ g4 ∧ w.heap.size ≤ g4) := by have h1 := HG2.out.lt; have h2 := HG3.out.lt; have h3 := nn.ge; have h4 := HBW.out.size; exact ⟨by omega, by omega, by omega⟩
             replace HG2 : Hid (Blk y2b g2 ch 50) := HG2.out.below nn.below HG2.out.lt
             replace HG3 : Hid (Blk y2b g3 csg 30) := HG3.out.below nn.below HG3.out.lt
             have HG4 : Hid (Blk y2b g4 (hdC zeroH) 50) := nn.blk
             replace HBW : Hid (Below w.heap.size w y2b) := HBW.out.trans (nn.below.mono HBW.out.size)
             clear nn)
          | (clear tk90; with_reducible refine wpSeq_loadW 50 (.tmp 2) g2 0 ch _ ?_ Tryd.underlying50 rfl ?_ ?_ ?_ ?_ ?_
             · exact HG2.out.range
             · exact HIH.out
             · rfl
             · rfl
             · rfl)
          | (clear tk91; go_at_call 72; refine (HSP.out y2b).mono ?_; rintro e y3 ⟨rfl, hbz⟩
             replace HG2 : Hid (Blk y3 g2 ch 50) := HG2.out.below hbz HG2.out.lt
             replace HG3 : Hid (Blk y3 g3 csg 30) := HG3.out.below hbz HG3.out.lt
             replace HG4 : Hid (Blk y3 g4 (hdC zeroH) 50) := HG4.out.below hbz HG4.out.lt
             replace HBW : Hid (Below w.heap.size w y3) := HBW.out.trans (hbz.mono HBW.out.size)
             have ce : y3.cell? ⟨g2, 0, none⟩ = some (.int .u64 (n : Int)) := by have := HG2.out.cell 0; rw [HCH.out] at this; rw [HNN.out]; exact this
             have cm : y3.cell? ⟨g3, 0, none⟩ = some (.int .u64 (m : Int)) := by have := HG3.out.cell 0; rw [HCS.out] at this; rw [HMM.out]; exact this
             clear hbz)
          | (clear tk30; with_reducible refine wpSeq_loadW 27 (.tmp 19) g3 0 rt _ ?_ Tryd.underlying27 rfl ?_ ?_ ?_ ?_ ?_
             · exact (by rw [HRT.out]; exact (HTS.out _ _ HG3.out).root)
             · exact HIR.out
             · rfl
             · rfl
             · rfl)
          | (clear tk31; go_at_call 73; refine (HC1.out y3 HBW.out).mono ?_; rintro e y31 ⟨vb, rfl, hvb, hbz⟩
             clear ce cm
             replace HG2 : Hid (Blk y31 g2 ch 50) := HG2.out.below hbz HG2.out.lt
             replace HG3 : Hid (Blk y31 g3 csg 30) := HG3.out.below hbz HG3.out.lt
             replace HG4 : Hid (Blk y31 g4 (hdC zeroH) 50) := HG4.out.below hbz HG4.out.lt
             replace HBW : Hid (Below w.heap.size w y31) := HBW.out.trans (hbz.mono HBW.out.size)
             have HVB : Hid (Reads y31 vb rb) := hvb
             have cv : y31.cell? ⟨g3, 97, none⟩ = some (.slice ads ns cps) := by have := (HTS.out _ _ HG3.out).sig; rwa [Nat.zero_add] at this
             clear hbz hvb)
          | (clear tk32; with_reducible refine wpSeq_loadAt (.tmp 23) g3 1 pv ?_ ?_ ?_ ?_ ?_ ?_
             · exact HLN.out.1
             · rw [HPV.out]; exact (HTS.out _ _ HG3.out).prev
             · rfl
             · rfl
             · rfl)
          | (clear tk33; with_reducible refine wpSeq_loadAt (.tmp 25) g2 1 hr0 ?_ ?_ ?_ ?_ ?_ ?_
             · exact HLN.out.2.2.1
             · rw [HHR.out]; exact (HTC.out _ _ HG2.out).rt
             · rfl
             · rfl
             · rfl)
          | (clear tk34; with_reducible refine wpSeq_loadAt (.tmp 29) g2 33 ky ?_ ?_ ?_ ?_ ?_ ?_
             · exact HLN.out.2.2.2
             · rw [HKY.out]; exact (HTC.out _ _ HG2.out).ky
             · rfl
             · rfl
             · rfl)
          | (clear tk35; go_at_call 74; refine (HC2.out y31 vb HBW.out HVB.out).mono ?_; rintro e y32 ⟨rfl, hbz⟩
             clear cv
             replace HG2 : Hid (Blk y32 g2 ch 50) := HG2.out.below hbz HG2.out.lt
             replace HG3 : Hid (Blk y32 g3 csg 30) := HG3.out.below hbz HG3.out.lt
             replace HG4 : Hid (Blk y32 g4 (hdC zeroH) 50) := HG4.out.below hbz HG4.out.lt
             replace HBW : Hid (Below w.heap.size w y32) := HBW.out.trans (hbz.mono HBW.out.size)
             replace HVB : Hid (Reads y32 vb rb) := HVB.out.below hbz
             clear hbz ))
        have HSA : Hid (SgAt y32 g3 0 s (.slice ads ns cps)) := HTS.out _ _ HG3.out
        refine wp_region_held_drew (S := Only g4 (World.drew y32)) (by kernel_rfl) (Only.refl _ _) ?_
        intro hS
        replace HG4 : Hid (Blk (World.drew y32) g4 (hdC zeroH) 50) := HG4.out.drew
        replace HBW : Hid (Below w.heap.size w (World.drew y32)) := HBW.out.drew
        replace HSA : Hid (SgAt (World.drew y32) g3 0 s (.slice ads ns cps)) := ⟨HSA.out.all, HSA.out.ok⟩
        replace HVB : Hid (Reads (World.drew y32) vb rb) := reads_drew HVB.out
        clear HG2 HG3
        change wpAnyH _ _ _ _ _ _ _ _ (World.drew y32)
        generalize World.drew y32 = y7 at *
        try simp only [Act.put]
        refine wpAnyH_take (i := 0) (v := .pointer (some ⟨g3, 0, none⟩)) rfl (by kernel_rfl) (by kernel_rfl) (by kernel_rfl) (fun _ _ _ h => h) (Or.inl ⟨by rfl, fun wx hx => by simp [go_sem]⟩) hS ?_
        simp only [Act.put, List.getElem_toArray, List.getElem_cons_zero, List.setIfInBounds_toArray, List.set_cons_zero, List.set_cons_succ]
        refine wpAnyH_take (i := 1) (v := .pointer (some ⟨g3, 0, none⟩)) rfl (by kernel_rfl) (by kernel_rfl) (by kernel_rfl) (fun _ _ _ h => h) (Or.inl ⟨by rfl, fun wx hx => by simp [go_sem]⟩) hS ?_
        simp only [Act.put, List.getElem_toArray, List.getElem_cons_succ, List.getElem_cons_zero, List.setIfInBounds_toArray, List.set_cons_zero, List.set_cons_succ]
        refine wpAnyH_take (i := 2) (v := .int .u64 (m : Int)) rfl (by kernel_rfl) (by kernel_rfl) (by kernel_rfl) (fun _ _ _ h => h) (Or.inl ⟨by rfl, fun wx hx => by (have cm : wx.cell? ⟨g3, 0, none⟩ = some (.int .u64 (m : Int)) := by rw [HMM.out]; exact (HSA.out.only hx HN4.out.2.1).ep); simp [go_sem, cm]⟩) hS ?_
        simp only [Act.put, List.getElem_toArray, List.getElem_cons_succ, List.getElem_cons_zero, List.setIfInBounds_toArray, List.set_cons_zero, List.set_cons_succ]
        refine wpAnyH_take (i := 3) (v := vb) rfl (by kernel_rfl) (by kernel_rfl) (by kernel_rfl) (fun _ _ _ h => h) (Or.inl ⟨by rfl, fun wx hx => by simp [go_sem]⟩) hS ?_
        simp only [Act.put, List.getElem_toArray, List.getElem_cons_succ, List.getElem_cons_zero, List.setIfInBounds_toArray, List.set_cons_zero, List.set_cons_succ]
        refine wpAnyH_take (i := 5) (v := .pointer (some ⟨g3, 0, none⟩)) rfl (by kernel_rfl) (by kernel_rfl) (by kernel_rfl) (fun _ _ _ h => h) (Or.inl ⟨by rfl, fun wx hx => by simp [go_sem]⟩) hS ?_
        simp only [Act.put, List.getElem_toArray, List.getElem_cons_succ, List.getElem_cons_zero, List.setIfInBounds_toArray, List.set_cons_zero, List.set_cons_succ]
        refine wpAnyH_take (i := 6) (v := .pointer (some ⟨g3, 65, none⟩)) rfl (by kernel_rfl) (by kernel_rfl) (by kernel_rfl) (fun _ _ _ h => h) (Or.inl ⟨by rfl, fun wx hx => by simp [go_sem]⟩) hS ?_
        simp only [Act.put, List.getElem_toArray, List.getElem_cons_succ, List.getElem_cons_zero, List.setIfInBounds_toArray, List.set_cons_zero, List.set_cons_succ]
        refine wpAnyH_take (i := 7) (v := .agg (cb nx).toArray) rfl (by kernel_rfl) (by kernel_rfl) (by kernel_rfl) (fun _ _ _ h => h) (Or.inl ⟨by rfl, fun wx hx => by exact loadDigAt _ g3 65 nx HLN.out.2.1 (by rw [HNX.out]; exact (HSA.out.only hx HN4.out.2.1).next) rfl rfl⟩) hS ?_
        simp only [Act.put, List.getElem_toArray, List.getElem_cons_succ, List.getElem_cons_zero, List.setIfInBounds_toArray, List.set_cons_zero, List.set_cons_succ]
        refine wpAnyH_enter 4 (by kernel_rfl) rfl (by rfl) (f := 75) (args := #[vb]) (by simp [go_sem]) (HC3.out _ vb HBW.out HVB.out) ?_
        rintro e y8 ⟨rfl, hbq⟩
        replace hS := hS.still hbq
        replace HG4 : Hid (Blk y8 g4 (hdC zeroH) 50) := HG4.out.below hbq HG4.out.lt
        replace HBW : Hid (Below w.heap.size w y8) := HBW.out.trans (hbq.mono HBW.out.size)
        refine ⟨_, rfl, hS, ?_⟩
        clear hbq
        simp only [Act.put, List.getElem_toArray, List.getElem_cons_succ, List.getElem_cons_zero, List.setIfInBounds_toArray, List.set_cons_zero, List.set_cons_succ]
        refine wpAnyH_take (i := 8) (v := .agg (hdC (m, dg, nx)).toArray) rfl (by kernel_rfl) (by kernel_rfl) (by kernel_rfl) (fun _ _ _ h => h) (Or.inl ⟨by rfl, fun wx hx => by refine build_op _ _ 50 [(0, .tmp 40), (1, .tmp 42), (2, .tmp 45)] rfl _ ?_ _; exact (built_head _).trans (fill_hd HDL.out HLN.out.2.1)⟩) hS ?_
        simp only [Act.put, List.getElem_toArray, List.getElem_cons_succ, List.getElem_cons_zero, List.setIfInBounds_toArray, List.set_cons_zero, List.set_cons_succ]
        refine wpAnyH_storeRow 9 50 (.tmp 4) (.tmp 46) g4 (hdC zeroH) (hdC (m, dg, nx)) HG4.out (by rw [len_hdC HOK.out, len_hdC okH_zero]) (info_hdC HOK.out) (hdC_one _) (by kernel_rfl) rfl (by rfl) rfl rfl rfl ?_
        intro y9 hs
        replace hS := hS.trans hs.only
        refine ⟨hS, ?_⟩
        simp only [Act.put, List.getElem_toArray, List.getElem_cons_succ, List.getElem_cons_zero]
        refine wpAnyH_take (i := 10) (v := .int .i64 0) rfl (by kernel_rfl) (by kernel_rfl) (by kernel_rfl) (fun _ _ _ h => h) (Or.inl ⟨by rfl, fun wx hx => by simp [go_sem]⟩) hS ?_
        simp only [Act.put, List.getElem_toArray, List.getElem_cons_succ, List.getElem_cons_zero, List.setIfInBounds_toArray, List.set_cons_zero, List.set_cons_succ]
        refine wpAnyH_done (by kernel_rfl) ?_ _
        go_wp2
        exact bodyPost_ret (results_row_tmp (by rfl) _ _ g4 _ rfl (var_hd hs.blk HOK.out)) rfl ⟨by rw [HFR.out, if_pos ⟨by trivial, HKK.out⟩]; rfl, HBW.out.trans (hs.only.below HN4.out.2.2 HBW.out.size)⟩
end Go.Proofs.YtableajopaappaaDoor
/- The walk of chain's Seal; all that chain does (layer 11). -/
namespace Go.Proofs.YtableajopaappaaDoor
open Go.RowKit Go.Shelf
set_option maxRecDepth 100000
end Go.Proofs.YtableajopaappaaDoor
/- The walks of codec.Num and blazonref04.Num: a number's groups of seven bits behind bytes. -/
namespace Go.Proofs.YtableajopaappaaDoor
open Go.RowKit
set_option maxRecDepth 100000
theorem enc_len (n : Nat) (k : Nat) (h : n < 128 ^ (k + 1)) : (encNum n).length ≤ k + 1 := by
  induction k generalizing n with
  | zero => rw [encNum_lt (by simpa using h)]; simp
  | succ k ih =>
    by_cases h1 : n < 128
    · rw [encNum_lt h1]; simp
    · rw [encNum_ge h1, List.length_cons]
      have := ih (n / 128) (by rw [Nat.pow_succ] at h; omega)
      omega
theorem enc_len10 (n : Nat) (h : n < 18446744073709551616) : (encNum n).length ≤ 10 := enc_len n 9 (by omega)
theorem or128 (m : Nat) : bits .or .u8 ((m : Int) % 256) 128 = (((BitVec.ofNat 8 (m % 128 + 128)).toNat : Nat) : Int) := by
  have key : ∀ x : BitVec 8, (x ||| 128#8).toNat = x.toNat % 128 + 128 := by decide
  have e : BitVec.ofInt 8 ((m : Int) % 256) = BitVec.ofNat 8 (m % 256) := by
    rw [show ((m : Int) % 256) = ((m % 256 : Nat) : Int) by omega, BitVec.ofInt_natCast]
  show IntKind.u8.wrap ((BitVec.ofInt 8 ((m : Int) % 256) ||| BitVec.ofInt 8 128).toNat : Int) = _
  rw [e, show (BitVec.ofInt 8 128 : BitVec 8) = 128#8 from rfl, key, BitVec.toNat_ofNat, BitVec.toNat_ofNat]
  simp [IntKind.wrap, IntKind.bits, IntKind.signed]
theorem enc_step {p : List (BitVec 8)} {m n : Nat} (hm : ¬ m < 128) (hp : p ++ encNum m = encNum n) : (p ++ [BitVec.ofNat 8 (m % 128 + 128)]) ++ encNum (m / 128) = encNum n := by
  rw [← hp, encNum_ge hm]; simp
structure NuInv (base : Nat) (w : World) (l : List (BitVec 8)) (n m : Nat) (p : List (BitVec 8)) (u : Value) (wr : World) : Prop where
  own : OwnB wr base u (l ++ p)
  bel : Below base w wr
  eq : p ++ encNum m = encNum n
  lt : m < 18446744073709551616
theorem NuInv.le {base : Nat} {w wr : World} {l p : List (BitVec 8)} {n m : Nat} {u : Value} (h : NuInv base w l n m p u wr) (hn : n < 18446744073709551616) : p.length < 10 := by
  have := enc_len10 n hn
  have h2 := congrArg List.length h.eq
  have h3 := encNum_pos m
  rw [List.length_append] at h2
  omega
set_option maxHeartbeats 400000 in
theorem cnum_any (base : Nat) (v : Value) (l : List (BitVec 8)) (n : Nat) (hn : n < 18446744073709551616) (w : World) (hown : OwnB w base v l) (hb : base ≤ w.heap.size) (hl : l.length + 10 ≤ 140737488355328) :
    Calls Tryd.prog 65 #[v, .int .u64 (n : Int)] w fun e w' => ∃ v', e = .returned v' ∧ OwnB w' base v' (l ++ encNum n) ∧ Below base w w' := by
  have HO : Hid (OwnB w base v l) := hown
  have HN : Hid (n < 18446744073709551616) := hn
  have HL : Hid (l.length + 10 ≤ 140737488355328) := hl
  have HB : Hid (base ≤ w.heap.size) := hb
  clear hown hn hl hb
  go_enter Tryd.func65, Tryd.ntmps65
  go_wp2
  go_loopw [0, 1] (fun u x wr => ∃ (p : List (BitVec 8)) (m : Nat), x = .int .u64 m ∧ NuInv base w l n m p u wr) (fun _ x _ => (intOf x).toNat)
  case atStart => exact ⟨[], n, rfl, by simpa using HO.out, Below.refl _ _, rfl, HN.out⟩
  case round =>
    obtain ⟨p, m, rfl, hI⟩ := hrel
    have HI : Hid (NuInv base w l n m p u0 wr) := hI
    have HP : Hid (p.length < 10) := hI.le HN.out
    have HS : Hid (base ≤ wr.heap.size) := Nat.le_trans HB.out hI.bel.size
    clear hI
    by_cases hlt : m < 128
    · have hge : ¬ (128 ≤ (m : Int)) := by omega
      have hx : (m : Int) % 256 = (m : Int) := by omega
      go_wp2_with (at_builtin; refine wpList_appendB rfl (.tmp 15) (.tmp 18) rfl base _ (l ++ p) rfl (HI.out.own.below ((Below.refl _ _).alloc (Nat.le_refl _) _) (Nat.le_refl _)) _ [BitVec.ofNat 8 m] rfl (reads_val wr _ _ ?_) (by have := HL.out; have := HP.out; simp; omega) (by have := HS.out; simp; omega) ?_; simp; omega; intro v2 w2 hown2 hb2 _)
      have HR : Hid (OwnB w2 base v2 (l ++ encNum n)) := by
        rw [← HI.out.eq, encNum_lt hlt, ← List.append_assoc]; exact hown2
      have hB : Below base w w2 := HI.out.bel.trans (((Below.refl _ _).alloc HS.out _).trans hb2)
      clear hown2 hb2 HI
      go_wp2
      go_ret
      exact ⟨_, rfl, HR.out, hB⟩
    · have hge : 128 ≤ (m : Int) := by omega
      have HLT : Hid (¬ m < 128) := hlt
      have hw : IntKind.u64.wrap ((m : Int) / 128) = (m : Int) / 128 := by have := HI.out.lt; rw [IntKind.wrap_u64]; omega
      clear hlt
      go_wp2_with (at_builtin; refine wpList_appendB rfl (.tmp 7) (.tmp 11) rfl base _ (l ++ p) rfl (HI.out.own.below ((Below.refl _ _).alloc (Nat.le_refl _) _) (Nat.le_refl _)) _ [BitVec.ofNat 8 (m % 128 + 128)] rfl (reads_val wr _ _ ?_) (by have := HL.out; have := HP.out; simp; omega) (by have := HS.out; simp; omega) ?_; (go_loud (rw [or128 m])); intro v2 w2 hown2 hb2 _)
      have hJ : NuInv base w l n (m / 128) (p ++ [BitVec.ofNat 8 (m % 128 + 128)]) v2 w2 := ⟨by rw [List.append_assoc] at hown2; exact hown2, HI.out.bel.trans (((Below.refl _ _).alloc HS.out _).trans hb2), enc_step HLT.out HI.out.eq, by have := HI.out.lt; omega⟩
      clear hown2 hb2 HI
      go_wp2
      go_roundw
      case rel => exact ⟨_, m / 128, by simp, hJ⟩
      case measure => simp [intOf]; omega
end Go.Proofs.YtableajopaappaaDoor
/- The walk of slices.Insert at bytes, where what is put in lies in a block of its own: what stood ahead, what is put in, what stood behind. -/
namespace Go.Proofs.YtableajopaappaaDoor
open Go.RowKit
set_option maxRecDepth 100000
theorem overlaps_no (w : World) (b vb x y m vc lb kb : Nat) (cs vs : List Value) (tA tB : TypeId) (hne : vb ≠ b) (hv : Blk w vb vs tA) (hb : Blk w b cs tB) (hc : cs ≠ []) :
    (callFunc 99 #[.slice (some ⟨vb, x, none⟩) m vc, .slice (some ⟨b, y, none⟩) lb kb]).run Tryd.prog w = .ok (.value (.bool false)) w := by
  have hz : ∀ w, (Go.sizeOf 5).run Tryd.prog w = .ok 1 w := fun w => by kernel_rfl
  have sa : w.shape? vb = some (tA, vs.length) := by have h := hv; unfold Blk at h; simp [World.shape?, h]
  have sb : w.shape? b = some (tB, cs.length) := by have h := hb; unfold Blk at h; simp [World.shape?, h]
  rw [run_callFunc_extern Tryd.func99 (by kernel_rfl) (by kernel_rfl) (by kernel_rfl) (e := Extern.SlicesOverlaps.overlaps #[28, 28] #[4]) (by kernel_rfl),
    Lib.run_overlaps_apart w 28 4 5 Tryd.underlying28 1 hz ⟨vb, x, none⟩ ⟨b, y, none⟩ m vc lb kb hne tA tB vs.length cs.length sa sb (by simpa using hc) (hv.frozen _) (hv.frozen _)]
  rfl
set_option maxHeartbeats 4000000 in
set_option maxRecDepth 100000 in
/-- there is room: in place -/
theorem ins_shift (b n c i vb m vc : Nat) (cs vs cur vcur : List Value) (w : World) (hi : i < n) (hm : 0 < m) (hroom : n + m ≤ c) (hc63 : c ≤ 9223372036854775807) (hvb : vb ≠ b)
    (hcl : cs.length = n) (hvl : vs.length = m) (hB : Blk w b cur 5) (hV : Blk w vb vcur 5) (hcap : cur.length = c) (hcs : cur.take n = cs) (hvs : vcur.take m = vs) (h1c : ∀ v ∈ cs, v.oneCell' = true) (h1v : ∀ v ∈ vs, v.oneCell' = true) :
    Calls Tryd.prog 88 #[.slice (some ⟨b, 0, none⟩) n c, .int .i64 i, .slice (some ⟨vb, 0, none⟩) m vc] w fun e w' =>
      e = .returned (.slice (some ⟨b, 0, none⟩) (n + m) c) ∧ w' = (w.drew.setCells b (i + m) (cs.drop i)).setCells b i vs := by
  have mixed : Tryd.prog.follows Departure.mixedOrders = true := by kernel_rfl
  have hz1 : ¬ ((m : Int) = 0) := by omega
  have hz2 : ¬ ((i : Int) = (n : Int)) := by omega
  have hsz : (Tryd.prog.info? 5).map (·.size) = some 1 := by kernel_rfl
  have hov : ∀ lb kb, (callFunc 99 #[.slice (some ⟨vb, 0, none⟩) m vc, .slice (some ⟨b, i + m, none⟩) lb kb]).run Tryd.prog w = .ok (.value (.bool false)) w := fun lb kb => overlaps_no w b vb 0 (i + m) m vc lb kb cur vcur _ _ hvb hV hB (by intro h; subst h; simp at hcap; omega)
  have hdl : (cs.drop i).length = n - i := by rw [List.length_drop, hcl]
  have hcc : ∀ j v, cs[j]? = some v → w.cell? ⟨b, j, none⟩ = some v := fun j v hj => by
    rw [hB.cell, ← hj, ← hcs, List.getElem?_take_of_lt (by have := (List.getElem?_eq_some_iff.1 hj).1; omega)]
  have hvv : ∀ j v, vs[j]? = some v → w.cell? ⟨vb, j, none⟩ = some v := fun j v hj => by
    rw [hV.cell, ← hj, ← hvs, List.getElem?_take_of_lt (by have := (List.getElem?_eq_some_iff.1 hj).1; omega)]
  have hsp : ∀ j, j < n + m → (w.cell? ⟨b, j, none⟩).isSome = true := fun j hj => by rw [hB.cell, List.getElem?_eq_getElem (by omega)]; rfl
  have hfz : ∀ j, w.frozen? ⟨b, j, none⟩ = false := fun j => hB.frozen j
  have hw1 : IntKind.i64.wrap ((i : Int) + (m : Int)) = (i : Int) + (m : Int) := by rw [IntKind.wrap_i64]; omega
  have hb1 : (0 : Int) ≤ (i : Int) + (m : Int) := by omega
  have hin : i ≤ n := by omega
  have htn : ((i : Int) + (m : Int)).toNat = i + m := by omega
  have hb2 : ¬ (c = i + m) := by omega
  have hb3 : (i : Int) ≤ (n : Int) + (m : Int) := by omega
  have hb4 : ¬ (c = i) := by omega
  have hcp1 : ∀ ty dc sc, (Builtin.copy_ #[28, 28] ty #[.slice (some ⟨b, i + m, none⟩) (n + m - (i + m)) dc, .slice (some ⟨b, i, none⟩) (n + m - i) sc]).run Tryd.prog w.drew = .ok (goInt (cs.drop i).length) (w.drew.setCells b (i + m) (cs.drop i)) := fun ty dc sc =>
    run_copy_cells w.drew _ _ ty 5 b (i + m) (n + m - (i + m)) dc ⟨b, i, none⟩ (n + m - i) sc (cs.drop i) Tryd.underlying28 hsz (by rw [hdl]; simp only [Nat.min_def]; split <;> omega)
      (fun j v hj => by rw [Addr.add_lit]; exact hcc (i + j) v (by rwa [List.getElem?_drop] at hj))
      (fun j hj => hsp _ (by omega)) (fun j hj => hfz _) (fun v hv => h1c v (List.mem_of_mem_drop hv))
  obtain ⟨W1, hW1⟩ : ∃ W1, W1 = w.drew.setCells b (i + m) (cs.drop i) := ⟨_, rfl⟩
  have hsp1 : ∀ k, k < n + m → (W1.cell? ⟨b, k, none⟩).isSome = true := fun k hk => by
    rw [hW1]
    exact isSome_setCells b (cs.drop i) (i + m) w.drew (fun j hj => hsp (i + m + j) (by omega)) k (hsp k hk)
  have hcp2 : ∀ (W : World), (∀ x, W.cell? x = W1.cell? x) → (∀ x, W.frozen? x = W1.frozen? x) → ∀ ty dc, (Builtin.copy_ #[28, 28] ty #[.slice (some ⟨b, i, none⟩) (n + m - i) dc, .slice (some ⟨vb, 0, none⟩) m vc]).run Tryd.prog W = .ok (goInt vs.length) (W.setCells b i vs) := fun W hWc hWf ty dc =>
    run_copy_cells W _ _ ty 5 b i (n + m - i) dc ⟨vb, 0, none⟩ m vc vs Tryd.underlying28 hsz (by rw [hvl]; simp only [Nat.min_def]; split <;> omega)
      (fun j v hj => by
        rw [Addr.add_lit, hWc, hW1, World.cell?_setCells_out b _ _ _ _ (fun h _ => absurd h hvb), Nat.zero_add]
        exact hvv j v hj)
      (fun j hj => by rw [hWc]; exact hsp1 _ (by omega)) (fun j hj => by rw [hWf, hW1, World.frozen?_setCells]; exact hfz _) h1v
  rw [← hW1] at hcp1
  clear hcs hvs
  go_enter Tryd.func88, Tryd.ntmps88
  go_wp2_with (simp only [hov])
  go_region_law_o (refine step_copy_runI rfl _ _ 28 28 rfl _ _ (by simp [Act.eval, Act.put]) (by simp [Act.eval, Act.put]) (hcp1 _ _ _) ?_)
  go_wp2_with (at_builtin; refine wpList_copy_runI _ rfl _ _ 28 28 rfl _ _ rfl rfl (hcp2 _ (fun _ => rfl) (fun _ => rfl) _ _) ?_)
  go_ret
  first | exact ⟨rfl, rfl⟩ | exact ⟨rfl, by rw [hW1]⟩
set_option maxHeartbeats 4000000 in
set_option maxRecDepth 100000 in
/-- there is no room: a new row -/
theorem ins_grow (b n c i vb m vc : Nat) (cs vs cur vcur : List Value) (w : World) (hi : i < n) (hm : 0 < m) (hnc : n ≤ c) (hroom : c < n + m) (hbig : n + m ≤ 140737488355328)
    (hcl : cs.length = n) (hvl : vs.length = m) (hB : Blk w b cur 5) (hV : Blk w vb vcur 5) (hcs : cur.take n = cs) (hvs : vcur.take m = vs) (h1c : ∀ v ∈ cs, v.oneCell' = true) (h1v : ∀ v ∈ vs, v.oneCell' = true) :
    Calls Tryd.prog 88 #[.slice (some ⟨b, 0, none⟩) n c, .int .i64 i, .slice (some ⟨vb, 0, none⟩) m vc] w fun e w' =>
      ∃ (G : Nat) (row : List Value), e = .returned (.slice (some ⟨w.heap.size, 0, none⟩) (n + m) G) ∧ n + m ≤ G ∧ G ≤ maxLen ∧ row.length = G ∧ row.take i = cs.take i ∧
      w' = (((w.alloc (.cells row.toArray 5)).drew.setCells w.heap.size i vs).drew).setCells w.heap.size (i + m) (cs.drop i) := by
  have mixed : Tryd.prog.follows Departure.mixedOrders = true := by kernel_rfl
  obtain ⟨i0, hi0, hz0, hzs, hzb⟩ := info_parts Tryd.infob
  have hz1 : ¬ ((m : Int) = 0) := by omega
  have hz2 : ¬ ((i : Int) = (n : Int)) := by omega
  have hz3 : (c : Int) < (n : Int) + (m : Int) := by omega
  have hsz : (Tryd.prog.info? 5).map (·.size) = some 1 := by kernel_rfl
  have hcc : ∀ j v, cs[j]? = some v → w.cell? ⟨b, j, none⟩ = some v := fun j v hj => by
    rw [hB.cell, ← hj, ← hcs, List.getElem?_take_of_lt (by have := (List.getElem?_eq_some_iff.1 hj).1; omega)]
  have hvv : ∀ j v, vs[j]? = some v → w.cell? ⟨vb, j, none⟩ = some v := fun j v hj => by
    rw [hV.cell, ← hj, ← hvs, List.getElem?_take_of_lt (by have := (List.getElem?_eq_some_iff.1 hj).1; omega)]
  have hbw : b < w.heap.size := hB.lt
  have hvw : vb < w.heap.size := hV.lt
  have hkk : (n : Int) + (m : Int) - (i : Int) = ((n + m - i : Nat) : Int) := by omega
  have hik : i + (n + m - i) = n + m := by omega
  have hold : (Builtin.firstCells i0.size i (.slice (some ⟨b, 0, none⟩) i c)).run Tryd.prog w.drew = .ok (cs.take i).toArray w.drew := by
    rw [hzs]
    exact run_firstCells_some w.drew 1 i ⟨b, 0, none⟩ i c (cs.take i) (by rw [List.length_take]; omega) (fun j v hj => by
      rw [Addr.add_lit, Nat.zero_add]
      rw [List.getElem?_take] at hj
      split at hj
      · exact hcc j v hj
      · cases hj)
  have hrz : ∀ ty, (Builtin.append_ #[28, 3] ty #[.slice (some ⟨b, 0, none⟩) i c, .int .i64 ((n : Int) + (m : Int) - (i : Int))]).run Tryd.prog w =
      .ok (.slice (some ⟨w.heap.size, 0, none⟩) (n + m) (grownCap w (n + m) c 5)) (w.drew.alloc (.cells ((cs.take i).toArray ++ Builtin.zeroCells (Value.int .u8 0).cells (n + m - i) ++ Builtin.zeroCells (Value.int .u8 0).cells (grownCap w (n + m) c 5 - (n + m))) 5)) := fun ty => by
    have h := Lib.run_append_grow_zeros w 28 3 ty 5 i0 _ .i64 .i64 Tryd.underlying28 Tryd.underlying3 hi0 hz0 (some ⟨b, 0, none⟩) i c (cs.take i) hold (n + m - i) (by omega) (by omega) (by omega) (by omega) (by rw [hzb]; omega) (by rw [hzb, hik]; exact growslice_fits hroom (by omega))
    rw [hik] at h
    rw [hkk]
    exact h
  obtain ⟨G, hG⟩ : ∃ G, G = grownCap w (n + m) c 5 := ⟨_, rfl⟩
  have hGn : n + m ≤ G := by rw [hG]; exact grownCap_ge w _ _ _
  have hGm : G ≤ maxLen := by rw [hG]; exact grownCap_le_maxLen w (n + m) c 5 (by unfold maxLen; omega)
  obtain ⟨ROW, hROW⟩ : ∃ ROW : Array Value, ROW = (cs.take i).toArray ++ Builtin.zeroCells (Value.int .u8 0).cells (n + m - i) ++ Builtin.zeroCells (Value.int .u8 0).cells (G - (n + m)) := ⟨_, rfl⟩
  rw [← hG] at hrz
  rw [← hROW] at hrz
  have hRs : ROW.size = G := by
    have hzc : ∀ k, (Builtin.zeroCells (Value.int .u8 0).cells k).size = k := fun k => by simp [Builtin.zeroCells, Value.cells]
    rw [hROW, Array.size_append, Array.size_append, hzc, hzc, List.size_toArray, List.length_take]
    omega
  have hRt : ROW.toList.take i = cs.take i := by
    rw [hROW]
    simp only [Array.toList_append, List.append_assoc]
    rw [List.take_append_of_le_length (by rw [List.length_take]; omega), List.take_take, Nat.min_self]
  obtain ⟨W1, hW1⟩ : ∃ W1, W1 = w.drew.alloc (.cells ROW 5) := ⟨_, rfl⟩
  rw [← hW1] at hrz
  have hN : ∀ j, j < n + m → (W1.cell? ⟨w.heap.size, j, none⟩).isSome = true := fun j hj => by
    rw [hW1, World.cell?_alloc_at (w := w.drew) ROW _ w.heap.size j rfl, Array.getElem?_eq_getElem (by omega)]; rfl
  have hNf : ∀ j, W1.frozen? ⟨w.heap.size, j, none⟩ = false := fun j => by rw [hW1]; exact World.frozen?_alloc_at (w := w.drew) ROW _ w.heap.size j rfl
  have hOb : ∀ j v, w.cell? ⟨b, j, none⟩ = some v → W1.cell? ⟨b, j, none⟩ = some v := fun j v h => by rw [hW1, World.cell?_alloc_past (w := w.drew) _ b j hbw]; exact h
  have hOv : ∀ j v, w.cell? ⟨vb, j, none⟩ = some v → W1.cell? ⟨vb, j, none⟩ = some v := fun j v h => by rw [hW1, World.cell?_alloc_past (w := w.drew) _ vb j hvw]; exact h
  have hcpA : ∀ (W : World), (∀ x, W.cell? x = W1.cell? x) → (∀ x, W.frozen? x = W1.frozen? x) → ∀ ty dc, (Builtin.copy_ #[28, 28] ty #[.slice (some ⟨w.heap.size, i, none⟩) (n + m - i) dc, .slice (some ⟨vb, 0, none⟩) m vc]).run Tryd.prog W = .ok (goInt vs.length) (W.setCells w.heap.size i vs) := fun W hWc hWf ty dc =>
    run_copy_cells W _ _ ty 5 w.heap.size i (n + m - i) dc ⟨vb, 0, none⟩ m vc vs Tryd.underlying28 hsz (by rw [hvl]; simp only [Nat.min_def]; split <;> omega)
      (fun j v hj => by rw [Addr.add_lit, hWc, Nat.zero_add]; exact hOv _ v (hvv j v hj))
      (fun j hj => by rw [hWc]; exact hN _ (by omega)) (fun j hj => by rw [hWf]; exact hNf _) h1v
  have hG63 : G ≤ 9223372036854775807 := by unfold maxLen at hGm; omega
  have hGi : ¬ (G = i) := by omega
  have hGim : ¬ (G = i + m) := by omega
  have hci : ¬ (c = i) := by omega
  have hbN : b ≠ w.heap.size := by omega
  have hdl : (cs.drop i).length = n - i := by rw [List.length_drop, hcl]
  have hcpB : ∀ (W : World), (∀ x, W.cell? x = (W1.setCells w.heap.size i vs).cell? x) → (∀ x, W.frozen? x = (W1.setCells w.heap.size i vs).frozen? x) → ∀ ty dc sc, (Builtin.copy_ #[28, 28] ty #[.slice (some ⟨w.heap.size, i + m, none⟩) (n + m - (i + m)) dc, .slice (some ⟨b, i, none⟩) (n - i) sc]).run Tryd.prog W = .ok (goInt (cs.drop i).length) (W.setCells w.heap.size (i + m) (cs.drop i)) := fun W hWc hWf ty dc sc =>
    run_copy_cells W _ _ ty 5 w.heap.size (i + m) (n + m - (i + m)) dc ⟨b, i, none⟩ (n - i) sc (cs.drop i) Tryd.underlying28 hsz (by rw [hdl]; simp only [Nat.min_def]; split <;> omega)
      (fun j v hj => by
        rw [Addr.add_lit, hWc, World.cell?_setCells_out _ _ _ _ _ (fun h _ => absurd h hbN)]
        exact hOb _ v (hcc (i + j) v (by rwa [List.getElem?_drop] at hj)))
      (fun j hj => by rw [hWc]; exact isSome_setCells _ _ _ _ (fun t ht => hN _ (by omega)) _ (hN _ (by omega)))
      (fun j hj => by rw [hWf, World.frozen?_setCells]; exact hNf _) (fun v hv => h1c v (List.mem_of_mem_drop hv))
  subst hW1
  have hE1 : ∀ x, ((w.alloc (.cells ROW 5)).drew).cell? x = (w.drew.alloc (.cells ROW 5)).cell? x := fun x => rfl
  have hE2 : ∀ x, ((w.alloc (.cells ROW 5)).drew).frozen? x = (w.drew.alloc (.cells ROW 5)).frozen? x := fun x => rfl
  have hF1 : ∀ x, (((w.alloc (.cells ROW 5)).drew.setCells w.heap.size i vs).drew).cell? x = ((w.drew.alloc (.cells ROW 5)).setCells w.heap.size i vs).cell? x := fun x => rfl
  have hF2 : ∀ x, (((w.alloc (.cells ROW 5)).drew.setCells w.heap.size i vs).drew).frozen? x = ((w.drew.alloc (.cells ROW 5)).setCells w.heap.size i vs).frozen? x := fun x => rfl
  have hw1 : IntKind.i64.wrap ((i : Int) + (m : Int)) = (i : Int) + (m : Int) := by rw [IntKind.wrap_i64]; omega
  have hb1 : (0 : Int) ≤ (i : Int) + (m : Int) := by omega
  have hin : i ≤ n := by omega
  have htn : ((i : Int) + (m : Int)).toNat = i + m := by omega
  have hb3 : (i : Int) ≤ (n : Int) := by omega
  have HRR : Hid (ROW.size = G ∧ ROW.toList.take i = cs.take i) := ⟨hRs, hRt⟩
  clear hkk hik hold hROW hG hRs hRt hcs hvs hi0 hz0 hzs hzb
  go_enter Tryd.func88, Tryd.ntmps88
  go_wp2_with (first
    | (at_builtin; refine Lib.wpList_append_run _ rfl _ _ _ _ rfl _ _ rfl rfl _ _ (hrz _) ?_)
    | (at_builtin; refine wpList_copy_runI _ rfl _ _ 28 28 rfl _ _ rfl rfl (hcpA _ hE1 hE2 _ _) ?_)
    | (at_builtin; refine wpList_copy_runI _ rfl _ _ 28 28 rfl _ _ rfl rfl (hcpB _ (fun _ => rfl) (fun _ => rfl) _ _ _) ?_))
  go_region_law_o (refine step_copy_runI rfl _ _ 28 28 rfl (.slice (some ⟨w.heap.size, i + m, none⟩) (n + m - (i + m)) (G - (i + m))) (.slice (some ⟨b, i, none⟩) (n - i) (c - i)) (by simp [Act.eval, Act.put]) (by simp [Act.eval, Act.put]) (hcpB _ hF1 hF2 3 (G - (i + m)) (c - i)) ?_)
  go_wp2
  go_ret
  exact ⟨G, ROW.toList, rfl, hGn, hGm, by simpa using HRR.out.1, HRR.out.2, rfl⟩
theorem put_two {w : World} {b : Nat} {cur : List Value} {t : TypeId} (hB : Blk w b cur t) (x y : List Value) (i : Nat) (hl : i + x.length + y.length ≤ cur.length) :
    Blk ((w.setCells b (i + x.length) y).setCells b i x) b (cur.take i ++ x ++ y ++ cur.drop (i + x.length + y.length)) t := by
  have h1 := setCells_eq b y (i + x.length) w cur t hB (by omega)
  have h2 := setCells_eq b x i _ _ t h1 (by simp; omega)
  have e : (cur.take (i + x.length) ++ y ++ cur.drop (i + x.length + y.length)).take i ++ x ++ (cur.take (i + x.length) ++ y ++ cur.drop (i + x.length + y.length)).drop (i + x.length) = cur.take i ++ x ++ y ++ cur.drop (i + x.length + y.length) := by
    have e1 : (cur.take (i + x.length)).length = i + x.length := by rw [List.length_take]; omega
    rw [List.append_assoc (cur.take (i + x.length)), List.take_append_of_le_length (by omega), List.take_take, Nat.min_eq_left (by omega), List.drop_append_of_le_length (by omega), List.drop_of_length_le (by omega), List.nil_append]
    simp
  rw [e] at h2; exact h2
theorem put_two' {w : World} {b : Nat} {cur : List Value} {t : TypeId} (hB : Blk w b cur t) (x y : List Value) (i : Nat) (hl : i + x.length + y.length ≤ cur.length) :
    Blk (((w.setCells b i x).drew).setCells b (i + x.length) y) b (cur.take i ++ x ++ y ++ cur.drop (i + x.length + y.length)) t := by
  have h1 := setCells_eq b x i w cur t hB (by omega)
  have h2 := setCells_eq b y (i + x.length) _ _ t h1.drew (by simp; omega)
  have e : (cur.take i ++ x ++ cur.drop (i + x.length)).take (i + x.length) ++ y ++ (cur.take i ++ x ++ cur.drop (i + x.length)).drop (i + x.length + y.length) = cur.take i ++ x ++ y ++ cur.drop (i + x.length + y.length) := by
    have e1 : (cur.take i ++ x).length = i + x.length := by rw [List.length_append, List.length_take]; omega
    rw [List.take_append_of_le_length (by omega), List.take_of_length_le (by omega), List.drop_append, List.drop_of_length_le (by omega), List.nil_append, e1, List.drop_drop]
    congr 2
    omega
  rw [e] at h2; exact h2
theorem cb_app (a b : List (BitVec 8)) : cb (a ++ b) = cb a ++ cb b := by simp [cb]
theorem cb_drop (a : List (BitVec 8)) (k : Nat) : (cb a).drop k = cb (a.drop k) := by simp [cb]
theorem cb_take (a : List (BitVec 8)) (k : Nat) : (cb a).take k = cb (a.take k) := by simp [cb]
theorem OwnB.of_blk {w : World} {base b : Nat} {row : List Value} {l : List (BitVec 8)} {c : Nat} (h : Blk w b row 5) (hb : base ≤ b) (hc : row.length = c) (hm : c ≤ maxLen) (hl : l.length ≤ c) (ht : row.take l.length = cb l) : OwnB w base (.slice (some ⟨b, 0, none⟩) l.length c) l :=
  ⟨by rw [cb_len]; omega, Or.inr ⟨b, c, row.toArray, rfl, hb, h, hl, hm, by simpa using hc, by simpa using ht⟩⟩
set_option maxHeartbeats 1000000 in
theorem ins_any (base bv : Nat) (s v : Value) (l t e : List (BitVec 8)) (w : World) (hs : OwnB w base s (l ++ t)) (hv : OwnB w bv v e) (hsep : ∀ k, s.ownBlock = some k → k < bv) (he : e ≠ []) (hbase : base ≤ bv) (hbv : bv ≤ w.heap.size) (hlen : l.length + t.length + e.length ≤ 140737488355328) :
    Calls Tryd.prog 88 #[s, .int .i64 (l.length : Int), v] w fun en w' => ∃ v', en = .returned v' ∧ OwnB w' base v' (l ++ (e ++ t)) ∧ Below base w w' := by
  have hm : 0 < e.length := List.length_pos_iff.2 he
  have hR := hv.reads
  have HS : Hid (OwnB w base s (l ++ t)) := hs
  obtain ⟨hv1, hv2⟩ := hv
  rcases hv2 with ⟨rfl, h0⟩ | ⟨vb, vc, vcur, rfl, hvg, hvh, hvc, hvm, hvs, hvt⟩
  · omega
  have HV : Blk w vb vcur.toList 5 := hvh
  rw [Nat.mul_one] at hvs hvt
  by_cases ht : t = []
  · subst ht
    rw [List.append_nil] at hs HS
    have HRV : Hid (Reads w (.slice (some ⟨vb, 0, none⟩) e.length vc) e) := hR
    have hz1 : ¬ ((e.length : Int) = 0) := by omega
    obtain ⟨ad, cap, rfl, hcap, _, _⟩ := id hs.reads
    have hcb : cap ≤ maxLen := by
      obtain ⟨_, h2⟩ := hs
      rcases h2 with ⟨h, _⟩ | ⟨g, cc, cur, h, _, _, _, h3, _⟩
      · simp only [Value.slice.injEq] at h; omega
      · simp only [Value.slice.injEq] at h; omega
    unfold maxLen at hcb
    clear hs hR hvh HV hvs hvt hv1 hsep
    obtain ⟨m, HM⟩ : ∃ m, Hid (m = e.length) := ⟨_, rfl⟩
    obtain ⟨n, HNN⟩ : ∃ n, Hid (n = l.length) := ⟨_, rfl⟩
    rw [← HM.out] at hm hlen hz1 hvc HRV
    rw [← HM.out]
    rw [← HNN.out] at hlen hcap HS
    rw [← HNN.out]
    have HB : Hid (base ≤ w.heap.size) := Nat.le_trans hbase hbv
    clear hvm hvg
    rw [List.append_nil]
    have HLN : Hid (l.length + e.length ≤ 140737488355328) := by show _ ≤ _; rw [← HM.out, ← HNN.out]; simp at hlen; omega
    by_cases hcn : cap = n
    · subst hcn
      go_enter Tryd.func88, Tryd.ntmps88
      go_wp2_with (at_builtin; refine wpList_appendB rfl _ _ rfl base _ l rfl HS.out _ e rfl HRV.out HLN.out HB.out ?_; intro v2 w2 hown2 hb2 _)
      go_ret
      exact ⟨_, rfl, hown2, hb2⟩
    · go_enter Tryd.func88, Tryd.ntmps88
      go_wp2_with (at_builtin; refine wpList_appendB rfl _ _ rfl base _ l rfl HS.out _ e rfl HRV.out HLN.out HB.out ?_; intro v2 w2 hown2 hb2 _)
      go_ret
      exact ⟨_, rfl, hown2, hb2⟩
  · have htl : 0 < t.length := List.length_pos_iff.2 ht
    obtain ⟨hs1, hs2⟩ := hs
    rcases hs2 with ⟨rfl, h0⟩ | ⟨b, c, cur, rfl, hg, hh, hc, hcm, hcs, hct⟩
    · rw [List.length_append] at h0; omega
    have HB : Blk w b cur.toList 5 := hh
    rw [Nat.mul_one] at hcs hct
    have hlt : b < bv := hsep b rfl
    have hne : vb ≠ b := by omega
    have hmx : maxLen = 9223372036854775807 := rfl
    by_cases hroom : (l ++ t).length + e.length ≤ c
    · refine (ins_shift b (l ++ t).length c l.length vb e.length vc (cb (l ++ t)) (cb e) cur.toList vcur.toList w (by rw [List.length_append]; omega) hm hroom (by omega) hne (cb_len _) (cb_len _) HB HV (by simpa using hcs) hct hvt (cb_one _) (cb_one _)).mono ?_
      rintro en w' ⟨rfl, rfl⟩
      have hd : (cb (l ++ t)).drop l.length = cb t := by rw [cb_drop, List.drop_left]
      rw [hd]
      have hcl : cur.toList.length = c := by simpa using hcs
      have hk := put_two HB.drew (cb e) (cb t) l.length (by rw [cb_len, cb_len, hcl]; rw [List.length_append] at hroom; omega)
      rw [cb_len] at hk
      have hb' : Below base w ((w.drew.setCells b (l.length + e.length) (cb t)).setCells b l.length (cb e)) := Below.setCells _ hg _ _ _ (Below.setCells _ hg _ _ _ (Below.refl _ _).drew)
      refine ⟨_, rfl, ?_, hb'⟩
      have := OwnB.of_blk (base := base) (l := l ++ (e ++ t)) hk hg (c := c) (by rw [List.length_append] at hroom; simp only [List.length_append, List.length_take, List.length_drop, cb_len, hcl]; omega) hcm (by simp; simp at hroom; omega) (by
        have e1 : cur.toList.take l.length = cb l := by
          have := congrArg (List.take l.length) hct
          rw [List.take_take, Nat.min_eq_left (by simp), cb_take, List.take_left] at this
          exact this
        rw [e1, List.take_append_of_le_length (by simp only [List.length_append, cb_len]; omega), List.take_of_length_le (by simp only [List.length_append, cb_len]; omega), cb_app, cb_app, List.append_assoc])
      have e2 : (l ++ (e ++ t)).length = (l ++ t).length + e.length := by simp; omega
      rw [e2] at this
      exact this
    · refine (ins_grow b (l ++ t).length c l.length vb e.length vc (cb (l ++ t)) (cb e) cur.toList vcur.toList w (by rw [List.length_append]; omega) hm hc (by omega) (by rw [List.length_append]; omega) (cb_len _) (cb_len _) HB HV hct hvt (cb_one _) (cb_one _)).mono ?_
      rintro en w' ⟨G, row, rfl, hG1, hG2, hG3, hG4, rfl⟩
      have hd : (cb (l ++ t)).drop l.length = cb t := by rw [cb_drop, List.drop_left]
      rw [hd]
      have hN := Blk.new w row 5
      have hk := put_two' hN.drew (cb e) (cb t) l.length (by rw [cb_len, cb_len, hG3]; rw [List.length_append] at hG1; omega)
      rw [cb_len] at hk
      have hwb : base ≤ w.heap.size := Nat.le_trans hbase hbv
      have hb' : Below base w (((w.alloc (.cells row.toArray 5)).drew.setCells w.heap.size l.length (cb e)).drew.setCells w.heap.size (l.length + e.length) (cb t)) := Below.setCells _ hwb _ _ _ (Below.setCells _ hwb _ _ _ ((Below.refl _ _).alloc hwb _).drew).drew
      refine ⟨_, rfl, ?_, hb'⟩
      have := OwnB.of_blk (base := base) (l := l ++ (e ++ t)) hk hwb (c := G) (by simp [cb_len, hG3]; rw [List.length_append] at hG1; omega) hG2 (by simp; simp at hG1; omega) (by
        have e1 : row.take l.length = cb l := by rw [hG4, cb_take, List.take_left]
        rw [e1, List.take_append_of_le_length (by simp only [List.length_append, cb_len]; omega), List.take_of_length_le (by simp only [List.length_append, cb_len]; omega), cb_app, cb_app, List.append_assoc])
      have e2 : (l ++ (e ++ t)).length = (l ++ t).length + e.length := by simp; omega
      rw [e2] at this
      exact this
end Go.Proofs.YtableajopaappaaDoor
/- The walks of codec.Text, codec.Digest and blazonref04.Text: a text, a digest behind bytes. -/
namespace Go.Proofs.YtableajopaappaaDoor
open Go.RowKit
set_option maxRecDepth 100000
theorem OwnB.below' {w w' : World} {base B : Nat} {v : Value} {l : List (BitVec 8)} (h : OwnB w base v l) (hb : Below B w w') (hB : ∀ k, v.ownBlock = some k → k < B) : OwnB w' base v l := by
  obtain ⟨h1, h2⟩ := h
  refine ⟨h1, ?_⟩
  rcases h2 with h2 | ⟨g, cap, cur, rfl, hg, hh, r⟩
  · exact Or.inl h2
  · exact Or.inr ⟨g, cap, cur, rfl, hg, by rw [hb.block g (hB g rfl)]; exact hh, r⟩
theorem OwnB.lt {w : World} {base : Nat} {v : Value} {l : List (BitVec 8)} (h : OwnB w base v l) : ∀ k, v.ownBlock = some k → k < w.heap.size := by
  obtain ⟨h1, h2⟩ := h
  rcases h2 with ⟨rfl, h0⟩ | ⟨g, cap, cur, rfl, hg, hh, _⟩
  · intro k hk; simp [Value.ownBlock] at hk
  · intro k hk
    simp [Value.ownBlock] at hk
    subst hk
    rcases Nat.lt_or_ge g w.heap.size with h' | h'
    · exact h'
    · rw [Array.getElem?_eq_none h'] at hh; cases hh
set_option maxHeartbeats 400000 in
theorem ctext_any (base : Nat) (v vt : Value) (l t : List (BitVec 8)) (w : World) (hown : OwnB w base v l) (hr : Reads w vt t) (hb : base ≤ w.heap.size) (hl : l.length + t.length + 10 ≤ 140737488355328) :
    Calls Tryd.prog 67 #[v, vt] w fun e w' => ∃ v', e = .returned v' ∧ OwnB w' base v' (l ++ encText t) ∧ Below base w w' := by
  have HO : Hid (OwnB w base v l) := hown
  have HR : Hid (Reads w vt t) := hr
  have HL : Hid (l.length + t.length + 10 ≤ 140737488355328) := hl
  have HB : Hid (base ≤ w.heap.size) := hb
  obtain ⟨ad, cap, rfl, _, _, _⟩ := id hown.reads
  obtain ⟨at', capt, rfl, _, _, _⟩ := id hr
  obtain ⟨n, HNN⟩ : ∃ n, Hid (n = l.length) := ⟨_, rfl⟩
  obtain ⟨m, HM⟩ : ∃ m, Hid (m = t.length) := ⟨_, rfl⟩
  rw [← HNN.out] at HO
  rw [← HM.out] at HR
  rw [← HNN.out, ← HM.out]
  have hm : m < 140737488355328 := by have := HL.out; have := HM.out; omega
  clear hown hr hl hb
  go_enter Tryd.func67, Tryd.ntmps67
  go_wp2_with (at_builtin; refine wpList_appendB rfl (.tmp 5) (.tmp 6) rfl base _ l rfl HO.out _ t rfl HR.out (by have := HL.out; omega) HB.out ?_; intro v2 w2 hown2 hb2 _)
  have HO2 : Hid (OwnB w2 base v2 (l ++ t)) := hown2
  have HB2 : Hid (Below base w w2) := hb2
  have HS2 : Hid (base ≤ w2.heap.size) := Nat.le_trans HB.out hb2.size
  clear hown2 hb2
  have hw : IntKind.u64.wrap (m : Int) = (m : Int) := by rw [IntKind.wrap_u64]; omega
  go_wp2_with fail
  refine (cnum_any w2.heap.size _ [] m (by omega) w2 (OwnB.nil _ _) (Nat.le_refl _) (by simp)).mono ?_
  rintro e w3 ⟨v3, rfl, ho3, hb3⟩
  have HO3 : Hid (OwnB w3 w2.heap.size v3 (encNum m)) := ho3
  have HB3 : Hid (Below w2.heap.size w2 w3) := hb3
  clear ho3 hb3
  go_wp2_with fail
  have hO := HO2.out.below' HB3.out (HO2.out.lt)
  have hn : (n : Int) = (l.length : Int) := by rw [HNN.out]
  rw [hn]
  refine (ins_any base w2.heap.size v2 v3 l t (encNum m) w3 hO HO3.out HO2.out.lt (by intro h; have := encNum_pos m; rw [h] at this; simp at this) HS2.out HB3.out.size (by have := HL.out; have := enc_len10 m (by omega); omega)).mono ?_
  rintro e w4 ⟨v4, rfl, ho4, hb4⟩
  have HO4 : Hid (OwnB w4 base v4 (l ++ encText t)) := by show OwnB _ _ _ _; unfold encText; rw [← HM.out]; exact ho4
  have HB4 : Hid (Below base w w4) := HB2.out.trans ((HB3.out.mono HS2.out).trans hb4)
  clear ho4 hb4 hO
  go_wp2
  go_ret
  exact ⟨_, rfl, HO4.out, HB4.out⟩
set_option maxHeartbeats 400000 in
theorem cdigest_any (base : Nat) (v : Value) (l d : List (BitVec 8)) (hd : d.length = 32) (w : World) (hown : OwnB w base v l) (hb : base ≤ w.heap.size) (hl : l.length + 32 ≤ 140737488355328) :
    Calls Tryd.prog 66 #[v, .agg (cb d).toArray] w fun e w' => ∃ v', e = .returned v' ∧ OwnB w' base v' (l ++ d) ∧ Below base w w' := by
  have HO : Hid (OwnB w base v l) := hown
  have HD : Hid (d.length = 32) := hd
  have HL : Hid (l.length + 32 ≤ 140737488355328) := hl
  have HB : Hid (base ≤ w.heap.size) := hb
  have hs := slice_dig_at w.heap.size 0
  clear hown hd hl hb
  have b0 := below_alloc w (.cells (cb d).toArray 23)
  have HR : Hid (Reads (w.alloc (.cells (cb d).toArray 23)) (.slice (some ⟨w.heap.size, 0, none⟩) 32 32) d) := (Blk.new w (cb d) 23).reads HD.out.symm (by rw [HD.out]; omega)
  have HO1 : Hid (OwnB (w.alloc (.cells (cb d).toArray 23)) base v l) := HO.out.below b0 (Nat.le_refl _)
  have HB1 : Hid (Below base w (w.alloc (.cells (cb d).toArray 23))) := b0.mono HB.out
  have HS1 : Hid (base ≤ (w.alloc (.cells (cb d).toArray 23)).heap.size) := Nat.le_trans HB.out b0.size
  clear b0
  go_enter Tryd.func66, Tryd.ntmps66
  go_wp2_with (at_builtin; refine wpList_appendB rfl (.tmp 5) (.tmp 6) rfl base _ l rfl HO1.out _ d rfl HR.out (by have := HL.out; have := HD.out; omega) HS1.out ?_; intro v2 w2 hown2 hb2 _)
  have hB2 := HB1.out.trans hb2
  go_wp2
  go_ret
  exact ⟨_, rfl, hown2, hB2⟩
end Go.Proofs.YtableajopaappaaDoor
/- The walks of the reader's Fail and take: bytes from their front on; what is thrown. -/
namespace Go.Proofs.YtableajopaappaaDoor
open Go.RowKit
set_option maxRecDepth 100000
/-- the reader at gr, of the input at gi, which still has the bytes l -/
structure Rd (w : World) (gr gi : Nat) (v : Value) (l : List (BitVec 8)) : Prop where
  rd : Blk w gr [.pointer (some ⟨gi, 0, none⟩)] 122
  inp : Blk w gi [v, .bool true, .bool false] 120
  byt : Reads w v l
/-- what a reader throws -/
def thrown (gi : Nat) : Ending := .panicked [{ v := .iface 118 (.pointer (some ⟨gi, 0, none⟩)), recovered := false }]
structure Threw (gi : Nat) (w : World) (e : Ending) (w' : World) : Prop where
  eq : e = thrown gi
  bad : ∃ v, Blk w' gi [v, .bool true, .bool true] 120 ∧ ∃ ad n c, v = .slice ad n c
  onl : Only gi w w'
theorem Rd.ne {w : World} {gr gi : Nat} {v : Value} {l : List (BitVec 8)} (h : Rd w gr gi v l) : gr ≠ gi := by
  intro he
  have h1 := h.rd
  have h2 := h.inp
  subst he
  unfold Blk at h1 h2
  rw [h1] at h2
  simp at h2
theorem Rd.slice {w : World} {gr gi : Nat} {v : Value} {l : List (BitVec 8)} (h : Rd w gr gi v l) : ∃ ad c, v = .slice ad l.length c := by
  obtain ⟨ad, c, hv, _⟩ := h.byt
  exact ⟨ad, c, hv⟩
/-- no byte lies in a block of a slice and two bools -/
theorem Blk.apart {w : World} {gi : Nat} {u : Value} {x y : Bool} {t : TypeId} {l : List (BitVec 8)} (hb : Blk w gi [u, .bool x, .bool y] t) (hu : ∃ ad n c, u = .slice ad n c) : ∀ b off, 0 < l.length → (∀ j, j < l.length → w.cell? ⟨b, off + j, none⟩ = some (.int .u8 ((l.getD j 0).toNat : Int))) → b ≠ gi := by
  intro b off hp hc he
  subst he
  have h0 := hc 0 hp
  rw [hb.cell] at h0
  obtain ⟨ad, n, c, rfl⟩ := hu
  match off, h0 with
  | 0, h0 => simp at h0
  | 1, h0 => simp at h0
  | 2, h0 => simp at h0
  | k + 3, h0 => simp at h0
theorem Reads.only {w w' : World} {gi : Nat} {v u : Value} {x y : Bool} {t : TypeId} {l : List (BitVec 8)} (h : Reads w v l) (hb : Blk w gi [u, .bool x, .bool y] t) (hu : ∃ ad n c, u = .slice ad n c) (ho : Only gi w w') : Reads w' v l := by
  have ha := hb.apart (l := l) hu
  obtain ⟨ad, cap, rfl, hc, hn, hx⟩ := h
  refine ⟨ad, cap, rfl, hc, hn, fun hp => ?_⟩
  obtain ⟨b, off, h1, h2⟩ := hx hp
  exact ⟨b, off, h1, fun j hj => ho.cell (p := ⟨b, off + j, none⟩) (ha b off hp h2) (h2 j hj)⟩
theorem Reads.take {w : World} {ad : Option Addr} {n c : Nat} {l : List (BitVec 8)} (h : Reads w (.slice ad n c) l) (k : Nat) (hk : k ≤ l.length) : Reads w (.slice ad k c) (l.take k) := by
  obtain ⟨ad', cap, hv, hc, hn, hx⟩ := h
  simp only [Value.slice.injEq] at hv
  obtain ⟨rfl, rfl, rfl⟩ := hv
  have hl : (l.take k).length = k := by rw [List.length_take]; omega
  refine ⟨ad, c, by rw [hl], by omega, hn, fun hp => ?_⟩
  rw [hl] at hp ⊢
  obtain ⟨b, off, h1, h2⟩ := hx (by omega)
  refine ⟨b, off, h1, fun j hj => ?_⟩
  rw [h2 j (by omega)]
  simp [hj]
theorem Reads.drop {w : World} {ad : Addr} {n c : Nat} {l : List (BitVec 8)} (h : Reads w (.slice (some ad) n c) l) (k : Nat) (hk : k ≤ l.length) (o : Addr) (ho : k < l.length → o = ad.add k) : Reads w (.slice (some o) (n - k) (c - k)) (l.drop k) := by
  obtain ⟨ad', cap, hv, hc, hn, hx⟩ := h
  simp only [Value.slice.injEq] at hv
  obtain ⟨rfl, rfl, rfl⟩ := hv
  have hl : (l.drop k).length = l.length - k := by rw [List.length_drop]
  refine ⟨_, c - k, by rw [hl], by omega, (fun h => by cases h), fun hp => ?_⟩
  rw [hl] at hp ⊢
  obtain ⟨b', off', h1, h2⟩ := hx (by omega)
  simp only [Option.some.injEq] at h1
  subst h1
  have := ho (by omega)
  rw [Addr.add_mid] at this
  subst this
  refine ⟨b', _, rfl, fun j hj => ?_⟩
  rw [Nat.add_assoc, h2 (k + j) (by omega)]
  simp
theorem Rd.next {w : World} {gr gi : Nat} {v : Value} {l : List (BitVec 8)} (h : Rd w gr gi v l) (v2 : Value) (l2 : List (BitVec 8)) (h2 : Reads w v2 l2) : Rd (w.setCell ⟨gi, 0, none⟩ v2) gr gi v2 l2 := by
  obtain ⟨ad, c, hv⟩ := h.slice
  exact ⟨h.rd.other _ _ (by exact h.ne), h.inp.set 0 v2, h2.only h.inp ⟨ad, _, c, hv⟩ ((Only.refl _ _).setCell _ _)⟩
set_option maxHeartbeats 400000 in
theorem cfail_any (gr gi : Nat) (v : Value) (l : List (BitVec 8)) (w : World) (h : Rd w gr gi v l) :
    Calls Tryd.prog 98 #[.pointer (some ⟨gr, 0, none⟩)] w fun e w' => e = thrown gi ∧ w' = w.setCell ⟨gi, 2, none⟩ (.bool true) := by
  have c1 : w.cell? ⟨gr, 0, none⟩ = some (.pointer (some ⟨gi, 0, none⟩)) := h.rd.cell 0
  have c2 : w.cell? ⟨gi, 1, none⟩ = some (.bool true) := h.inp.cell 1
  have c3 : w.cell? ⟨gi, 2, none⟩ = some (.bool false) := h.inp.cell 2
  have f3 : w.frozen? ⟨gi, 2, none⟩ = false := h.inp.frozen 2
  have hne := h.ne
  unfold thrown
  clear h
  go_enter Tryd.func98, Tryd.ntmps98
  go_wp2
  exact ⟨rfl, rfl, rfl⟩
theorem Rd.threw {w : World} {gr gi : Nat} {v : Value} {l : List (BitVec 8)} (h : Rd w gr gi v l) : Threw gi w (thrown gi) (w.setCell ⟨gi, 2, none⟩ (.bool true)) := by
  obtain ⟨ad, c, hv⟩ := h.slice
  exact ⟨rfl, ⟨v, h.inp.set 2 (.bool true), ad, _, c, hv⟩, (Only.refl _ _).setCell _ _⟩
theorem Threw.after {gi : Nat} {w w1 w2 : World} {e : Ending} (ho : Only gi w w1) (h : Threw gi w1 e w2) : Threw gi w e w2 := ⟨h.eq, h.bad, ho.trans h.onl⟩
/-- what a call of the reader's does: it hands out what was there, or throws -/
def RdDoes {α : Type} (gr gi : Nat) (v0 : Value) (w : World) (o : Option (α × List (BitVec 8))) (R : α → World → Value → Prop) (e : Ending) (w' : World) : Prop :=
  (∃ a r v v', o = some (a, r) ∧ e = .returned v ∧ R a w' v ∧ Rd w' gr gi v' r ∧ Only gi w w' ∧ v'.ownBlock = v0.ownBlock) ∨ (o = none ∧ Threw gi w e w')
def cut (n : Nat) (l : List (BitVec 8)) : Option (List (BitVec 8) × List (BitVec 8)) := if n ≤ l.length then some (l.take n, l.drop n) else none
set_option maxHeartbeats 400000 in
theorem take_any (gr gi n : Nat) (v : Value) (l : List (BitVec 8)) (w : World) (h : Rd w gr gi v l) (hn : n < 4611686018427387904) :
    Calls Tryd.prog 83 #[.pointer (some ⟨gr, 0, none⟩), .int .i64 (n : Int)] w fun e w' => RdDoes gr gi v w (cut n l) (fun a w' v => Reads w' v a) e w' := by
  have HR : Hid (Rd w gr gi v l) := h
  have c1 : w.cell? ⟨gr, 0, none⟩ = some (.pointer (some ⟨gi, 0, none⟩)) := h.rd.cell 0
  have c0 : w.cell? ⟨gi, 0, none⟩ = some v := h.inp.cell 0
  have c3 : w.cell? ⟨gi, 2, none⟩ = some (.bool false) := h.inp.cell 2
  have f0 : w.frozen? ⟨gi, 0, none⟩ = false := h.inp.frozen 0
  have hne := h.ne
  obtain ⟨ad, cap, rfl, hcap, hnn, hx⟩ := id h.byt
  obtain ⟨m, HM⟩ : ∃ m, Hid (m = l.length) := ⟨_, rfl⟩
  rw [← HM.out] at HR c0 hcap
  rw [← HM.out]
  clear hx h
  by_cases hlt : n ≤ m
  · have hng : ¬ ((m : Int) < (n : Int)) := by omega
    have HC : Hid (cut n l = some (l.take n, l.drop n)) := by show cut n l = _; unfold cut; rw [if_pos (by rw [← HM.out]; exact hlt)]
    have HK : Hid (n ≤ l.length) := by rw [← HM.out]; exact hlt
    have hfin : ∀ v1 v2, Reads w v1 (l.take n) → Reads w v2 (l.drop n) → v2.ownBlock = (Value.slice ad m cap).ownBlock → RdDoes gr gi (.slice ad m cap) w (cut n l) (fun a w' v => Reads w' v a) (.returned v1) (w.setCell ⟨gi, 0, none⟩ v2) := fun v1 v2 h1 h2 h3 =>
      Or.inl ⟨_, _, v1, v2, HC.out, rfl, h1.only HR.out.inp ⟨_, _, _, rfl⟩ ((Only.refl _ _).setCell _ _), HR.out.next v2 _ h2, (Only.refl _ _).setCell _ _, h3⟩
    have HF : Hid (∀ v1 v2, Reads w v1 (l.take n) → Reads w v2 (l.drop n) → v2.ownBlock = (Value.slice ad m cap).ownBlock → RdDoes gr gi (.slice ad m cap) w (cut n l) (fun a w' v => Reads w' v a) (.returned v1) (w.setCell ⟨gi, 0, none⟩ v2)) := hfin
    clear hfin
    cases ad with
    | none =>
      have hc0 := hnn rfl
      subst hc0
      have hm0 : m = 0 := by omega
      subst hm0
      have hn0 : n = 0 := by omega
      subst hn0
      clear hnn hng hlt hcap
      go_enter Tryd.func83, Tryd.ntmps83
      go_wp2
      go_ret
      have hl0 : l = [] := List.eq_nil_of_length_eq_zero HM.out.symm
      refine HF.out _ _ ?_ ?_ rfl
      · rw [List.take_zero]; exact ⟨none, 0, rfl, Nat.le_refl _, fun _ => rfl, fun h => by cases h⟩
      · rw [List.drop_zero, hl0]; exact ⟨none, 0, rfl, Nat.le_refl _, fun _ => rfl, fun h => by cases h⟩
    | some ad =>
      clear hnn
      by_cases hcn : cap = n
      · subst hcn
        have hmn : m = cap := by omega
        subst hmn
        have HZ : Hid (m - m = 0) := Nat.sub_self m
        go_enter Tryd.func83, Tryd.ntmps83
        go_wp2
        go_ret
        refine HF.out _ _ ((HR.out.byt).take m HK.out) ?_ rfl
        have := HR.out.byt.drop m HK.out ad (fun h => by have := HM.out; omega)
        rw [HZ.out] at this
        first | exact this | (rw [HZ.out]; exact this)
      · go_enter Tryd.func83, Tryd.ntmps83
        go_wp2
        go_ret
        exact HF.out _ _ ((HR.out.byt).take n HK.out) (HR.out.byt.drop n HK.out _ (fun _ => rfl)) (by simp [Value.ownBlock, Addr.add]; split <;> rfl)
  · have hgt : (m : Int) < (n : Int) := by omega
    have HC : Hid (cut n l = none) := by show cut n l = _; unfold cut; rw [if_neg (by rw [← HM.out]; exact hlt)]
    go_enter Tryd.func83, Tryd.ntmps83
    go_wp2_with fail
    refine (cfail_any gr gi (.slice ad m cap) l w HR.out).mono ?_
    rintro e w1 ⟨rfl, rfl⟩
    have hT := HR.out.threw
    obtain ⟨w1, HW1⟩ : ∃ x, Hid (x = w.setCell ⟨gi, 2, none⟩ (.bool true)) := ⟨_, rfl⟩
    rw [← HW1.out] at hT ⊢
    unfold thrown at hT ⊢
    go_wp2
    exact ⟨rfl, Or.inr ⟨HC.out, hT⟩⟩
end Go.Proofs.YtableajopaappaaDoor
/- The walks of the reader's Num and Count. -/
namespace Go.Proofs.YtableajopaappaaDoor
open Go.RowKit
set_option maxRecDepth 100000
structure RnInv (gr gi : Nat) (v0 : Value) (w : World) (l : List (BitVec 8)) (k acc : Nat) (rest : List (BitVec 8)) (wr : World) : Prop where
  le : k ≤ 10
  lt : acc < 2 ^ (7 * k)
  eq : readNum l = decNum (10 - k) k acc rest
  rd : ∃ v, Rd wr gr gi v rest ∧ v.ownBlock = v0.ownBlock
  onl : Only gi w wr
theorem dec_step (k acc : Nat) (hk : k < 10) (c : BitVec 8) (r : List (BitVec 8)) : decNum (10 - k) k acc (c :: r) =
    if (k = 9 ∧ 1 < c.toNat) ∨ (0 < k ∧ c.toNat = 0) then none else if c.toNat < 128 then some (acc + c.toNat % 128 * 2 ^ (7 * k), r) else decNum (10 - (k + 1)) (k + 1) (acc + c.toNat % 128 * 2 ^ (7 * k)) r := by
  rw [show 10 - k = (10 - (k + 1)) + 1 by omega, decNum]
theorem dec_nil (k acc : Nat) (hk : k < 10) : decNum (10 - k) k acc [] = none := by
  rw [show 10 - k = (10 - (k + 1)) + 1 by omega, decNum]
theorem or_add (acc g k : Nat) (hk : k < 10) (h : acc < 2 ^ (7 * k)) (h2 : g * 2 ^ (7 * k) < 18446744073709551616) : bits .or .u64 (acc : Int) (IntKind.u64.wrap ((g : Int) * 2 ^ (7 * k))) = ((acc + g * 2 ^ (7 * k) : Nat) : Int) := by
  have e : (g : Int) * 2 ^ (7 * k) = ((g * 2 ^ (7 * k) : Nat) : Int) := by simp
  have hs : acc + g * 2 ^ (7 * k) < 18446744073709551616 ∧ acc ||| g * 2 ^ (7 * k) = acc + g * 2 ^ (7 * k) := by
    have h3 := Nat.two_pow_add_eq_or_of_lt h g
    rw [Nat.mul_comm] at h3
    have h4 : g * 2 ^ (7 * k) ||| acc = acc ||| g * 2 ^ (7 * k) := Nat.or_comm _ _
    have h5 : acc ||| g * 2 ^ (7 * k) < 2 ^ 64 := by
      by_cases hg : g = 0
      · subst hg
        simp only [Nat.zero_mul, Nat.or_zero] at *
        exact Nat.lt_of_lt_of_le h (Nat.pow_le_pow_right (by omega) (by omega))
      · apply Nat.or_lt_two_pow
        · have : 2 ^ (7 * k) ≤ g * 2 ^ (7 * k) := Nat.le_mul_of_pos_left _ (by omega)
          omega
        · omega
    omega
  rw [e]
  have hw : IntKind.u64.wrap ((g * 2 ^ (7 * k) : Nat) : Int) = ((g * 2 ^ (7 * k) : Nat) : Int) := by rw [IntKind.wrap_u64]; omega
  rw [hw]
  generalize g * 2 ^ (7 * k) = x at *
  show IntKind.u64.wrap ((BitVec.ofInt 64 (acc : Int) ||| BitVec.ofInt 64 (x : Int)).toNat : Int) = _
  rw [BitVec.ofInt_natCast, BitVec.ofInt_natCast, BitVec.toNat_or, BitVec.toNat_ofNat, BitVec.toNat_ofNat, Nat.mod_eq_of_lt (by omega), Nat.mod_eq_of_lt (by omega), hs.2, IntKind.wrap_u64]
  omega
theorem top_small (k g : Nat) (hk : k < 10) (hg : g < 128) (h : 18446744073709551615 / 2 ^ (7 * k) < g) : k = 9 ∧ 1 < g := by
  by_cases h9 : k = 9
  · subst h9
    simp only [Nat.reduceMul, Nat.reducePow, Nat.reduceDiv] at h
    omega
  · exfalso
    have h1 : 18446744073709551615 / 2 ^ 56 ≤ 18446744073709551615 / 2 ^ (7 * k) := Nat.div_le_div_left (Nat.pow_le_pow_right (by omega) (by omega)) (Nat.pow_pos (by omega))
    simp only [Nat.reducePow, Nat.reduceDiv] at h1
    omega
theorem top_cast (k : Nat) : (18446744073709551615 : Int) / 2 ^ (7 * k) = ((18446744073709551615 / 2 ^ (7 * k) : Nat) : Int) := by simp
set_option maxRecDepth 100000 in
set_option maxHeartbeats 1000000 in
theorem crnum_any (gr gi : Nat) (v : Value) (l : List (BitVec 8)) (w : World) (h : Rd w gr gi v l) :
    Calls Tryd.prog 85 #[.pointer (some ⟨gr, 0, none⟩)] w fun e w' => RdDoes gr gi v w (readNum l) (fun a _ v => v = .int .u64 (a : Int)) e w' := by
  have hI : RnInv gr gi v w l 0 0 l w := ⟨by omega, by simp, rfl, ⟨v, h, rfl⟩, Only.refl _ _⟩
  clear h
  go_enter Tryd.func85, Tryd.ntmps85
  go_wp2
  go_loopw [3, 8] (fun x i wr => ∃ (k acc : Nat) (rest : List (BitVec 8)), i = .int .i64 (k : Int) ∧ x = .int .u64 (acc : Int) ∧ RnInv gr gi v w l k acc rest wr) (fun _ i _ => 10 - (intOf i).toNat)
  case atStart => exact ⟨0, 0, l, rfl, rfl, hI⟩
  case round =>
    clear hI
    obtain ⟨k, acc, rest, rfl, rfl, hI⟩ := hrel
    have hk := hI.le
    have HI : Hid (RnInv gr gi v w l k acc rest wr) := hI
    clear hI
    by_cases hlt : k < 10
    · go_wp2_with fail
      obtain ⟨v1, h1, hob1⟩ := HI.out.rd
      refine (take_any gr gi 1 v1 rest wr h1 (by omega)).mono ?_
      rintro e w1 hT
      rcases hT with ⟨a, r, va, v2, hc, rfl, hr, hrd, ho, hob⟩ | ⟨hc, hT⟩
      · obtain ⟨c, rest2, rfl⟩ : ∃ c rest2, rest = c :: rest2 := by
          cases rest with
          | nil => simp [cut] at hc
          | cons c r => exact ⟨c, r, rfl⟩
        simp [cut] at hc
        obtain ⟨rfl, rfl⟩ := hc
        obtain ⟨ad, cap, rfl, _, _, hx⟩ := hr
        obtain ⟨b, off, rfl, hy⟩ := hx (by simp)
        have cc := hy 0 (by simp)
        simp at cc
        have hc8 := c.isLt
        have HE : Hid (readNum l = if (k = 9 ∧ 1 < c.toNat) ∨ (0 < k ∧ c.toNat = 0) then none else if c.toNat < 128 then some (acc + c.toNat % 128 * 2 ^ (7 * k), rest2) else decNum (10 - (k + 1)) (k + 1) (acc + c.toNat % 128 * 2 ^ (7 * k)) rest2) := by
          show _ = _; rw [HI.out.eq, dec_step k acc hlt]
        obtain ⟨cn, HCN⟩ : ∃ x, Hid (x = c.toNat) := ⟨_, rfl⟩
        rw [← HCN.out] at cc hc8 HE
        have HRD : Hid (Rd w1 gr gi v2 rest2) := hrd
        have HOB : Hid (v2.ownBlock = v.ownBlock) := hob.trans hob1
        clear hob hob1
        have HO : Hid (Only gi w w1) := HI.out.onl.trans ho
        have HA : Hid (acc < 2 ^ (7 * k)) := HI.out.lt
        clear hx hy hrd ho h1 HI
        have h7 : IntKind.i64.wrap (7 * (k : Int)) = 7 * (k : Int) := by rw [IntKind.wrap_i64]; omega
        have h70 : ¬ (7 * (k : Int) < 0) := by omega
        have HT := top_cast k
        by_cases hA : 18446744073709551615 / 2 ^ (7 * k) < cn % 128
        · have hAi : (18446744073709551615 : Int) / 2 ^ (7 * k) < (cn : Int) % 128 := by rw [HT]; omega
          have HNo : Hid (readNum l = none) := by
            show _ = _
            obtain ⟨h9, h10⟩ := top_small k _ hlt (by omega) hA
            rw [HE.out, if_pos (Or.inl ⟨h9, by omega⟩)]
          clear HT hA HE
          go_wp2_with fail
          refine (cfail_any gr gi v2 rest2 w1 HRD.out).mono ?_
          rintro e w2 ⟨rfl, rfl⟩
          have hT := HRD.out.threw.after HO.out
          obtain ⟨w2, HW2⟩ : ∃ x, Hid (x = w1.setCell ⟨gi, 2, none⟩ (.bool true)) := ⟨_, rfl⟩
          rw [← HW2.out] at hT ⊢
          unfold thrown at hT ⊢
          go_wp2
          exact ⟨rfl, Or.inr ⟨HNo.out, hT⟩⟩
        · have hAi : ¬ ((18446744073709551615 : Int) / 2 ^ (7 * k) < (cn : Int) % 128) := by rw [HT]; omega
          have HG : Hid (cn % 128 * 2 ^ (7 * k) < 18446744073709551616) := by
            have h1 : cn % 128 * 2 ^ (7 * k) ≤ 18446744073709551615 / 2 ^ (7 * k) * 2 ^ (7 * k) := Nat.mul_le_mul_right _ (by omega)
            have h2 := Nat.div_mul_le_self 18446744073709551615 (2 ^ (7 * k))
            show _ < _
            omega
          have hor := or_add acc (cn % 128) k hlt HA.out HG.out
          rw [show ((cn % 128 : Nat) : Int) = (cn : Int) % 128 by omega] at hor
          obtain ⟨sm, HSM⟩ : ∃ x, Hid (x = acc + cn % 128 * 2 ^ (7 * k)) := ⟨_, rfl⟩
          rw [← HSM.out] at hor HE
          have HS2 : Hid (sm < 2 ^ (7 * (k + 1))) := by
            show _ < _
            rw [HSM.out, pow7]
            have h1 := HA.out
            have h2 : cn % 128 * 2 ^ (7 * k) ≤ 127 * 2 ^ (7 * k) := Nat.mul_le_mul_right _ (by omega)
            omega
          clear HT hA
          by_cases hB : 0 < k ∧ cn = 0
          · obtain ⟨hk0, rfl⟩ := hB
            have HNo : Hid (readNum l = none) := by show _ = _; rw [HE.out, if_pos (Or.inr ⟨hk0, rfl⟩)]
            clear HE hor
            go_wp2_with fail
            refine (cfail_any gr gi v2 rest2 w1 HRD.out).mono ?_
            rintro e w2 ⟨rfl, rfl⟩
            have hT := HRD.out.threw.after HO.out
            obtain ⟨w2, HW2⟩ : ∃ x, Hid (x = w1.setCell ⟨gi, 2, none⟩ (.bool true)) := ⟨_, rfl⟩
            rw [← HW2.out] at hT ⊢
            unfold thrown at hT ⊢
            go_wp2
            exact ⟨rfl, Or.inr ⟨HNo.out, hT⟩⟩
          · by_cases hC : cn < 128
            · have hC2 : (cn : Int) < 128 := by omega
              have HYes : Hid (readNum l = if k = 9 ∧ 1 < cn then none else some (sm, rest2)) := by
                show _ = _
                rw [HE.out, if_pos hC]
                by_cases h9 : k = 9 ∧ 1 < cn
                · rw [if_pos (Or.inl h9), if_pos h9]
                · rw [if_neg (by rintro (h | h); exact h9 h; exact hB h), if_neg h9]
              have H9 : Hid (¬ (k = 9 ∧ 1 < cn)) := by
                rintro ⟨rfl, h⟩
                have := HG.out
                simp only [Nat.reduceMul, Nat.reducePow] at this
                omega
              have HY2 : Hid (readNum l = some (sm, rest2)) := by show _ = _; rw [HYes.out, if_neg H9.out]
              clear HE HYes
              by_cases hz : cn = 0
              · have hk0 : k = 0 := by omega
                subst hz hk0
                have ha0 : acc = 0 := by have := HA.out; simp at this; omega
                subst ha0
                have hs0 : sm = 0 := HSM.out
                subst hs0
                clear hor hB h70 h7 hAi
                go_wp2
                go_ret
                exact Or.inl ⟨0, rest2, _, v2, HY2.out, rfl, rfl, HRD.out, HO.out, HOB.out⟩
              · have hz2 : ¬ ((cn : Int) = 0) := by omega
                clear hB
                go_wp2
                go_ret
                exact Or.inl ⟨sm, rest2, _, v2, HY2.out, rfl, rfl, HRD.out, HO.out, HOB.out⟩
            · have hC2 : ¬ ((cn : Int) < 128) := by omega
              have hz2 : ¬ ((cn : Int) = 0) := by omega
              have HD : Hid (readNum l = decNum (10 - (k + 1)) (k + 1) sm rest2) := by
                show _ = _
                rw [HE.out, if_neg hC]
                by_cases h9 : k = 9
                · subst h9
                  rw [if_pos (Or.inl ⟨rfl, by omega⟩)]; rfl
                · rw [if_neg (by omega)]
              clear HE hB hC
              go_wp2
              go_roundw
              case rel => exact ⟨k + 1, sm, rest2, by go_num, rfl, by omega, HS2.out, HD.out, ⟨v2, HRD.out, HOB.out⟩, HO.out⟩
              case measure => simp [intOf]; omega
      · have hn : rest = [] := by
          cases rest with
          | nil => rfl
          | cons c r => simp [cut] at hc
        subst hn
        have HNo : Hid (readNum l = none) := by show _ = _; rw [HI.out.eq, dec_nil k acc hlt]
        have hT2 := hT.after HI.out.onl
        obtain rfl := hT.eq
        unfold thrown at hT2 ⊢
        clear hT HI h1
        go_wp2
        exact ⟨rfl, Or.inr ⟨HNo.out, hT2⟩⟩
    · have hk10 : k = 10 := by omega
      subst hk10
      have HNo : Hid (readNum l = none) := by show _ = _; rw [HI.out.eq]; rfl
      obtain ⟨v1, h1, hob1⟩ := HI.out.rd
      have HO := HI.out.onl
      have HRD : Hid (Rd wr gr gi v1 rest) := h1
      clear HI h1
      go_wp2_with fail
      refine (cfail_any gr gi v1 rest wr HRD.out).mono ?_
      rintro e w2 ⟨rfl, rfl⟩
      have hT := HRD.out.threw.after HO
      obtain ⟨w2, HW2⟩ : ∃ x, Hid (x = wr.setCell ⟨gi, 2, none⟩ (.bool true)) := ⟨_, rfl⟩
      rw [← HW2.out] at hT ⊢
      unfold thrown at hT ⊢
      go_wp2
      exact ⟨rfl, Or.inr ⟨HNo.out, hT⟩⟩
def readCount (most : Nat) (l : List (BitVec 8)) : Option (Nat × List (BitVec 8)) :=
  match readNum l with
  | none => none
  | some (n, r) => if n ≤ most then some (n, r) else none
set_option maxHeartbeats 400000 in
theorem ccount_any (gr gi most : Nat) (hm : most < 9223372036854775808) (v : Value) (l : List (BitVec 8)) (w : World) (h : Rd w gr gi v l) :
    Calls Tryd.prog 81 #[.pointer (some ⟨gr, 0, none⟩), .int .i64 (most : Int)] w fun e w' => RdDoes gr gi v w (readCount most l) (fun a _ v => v = .int .i64 (a : Int)) e w' := by
  have HR : Hid (Rd w gr gi v l) := h
  have hw : IntKind.u64.wrap (most : Int) = (most : Int) := by rw [IntKind.wrap_u64]; omega
  have h0 : ¬ ((most : Int) < 0) := by omega
  clear h
  go_enter Tryd.func81, Tryd.ntmps81
  go_wp2_with fail
  refine (crnum_any gr gi v l w HR.out).mono ?_
  rintro e w1 (⟨n, r, va, v2, hc, rfl, rfl, hrd, ho, hob⟩ | ⟨hc, hT⟩)
  · have HRD : Hid (Rd w1 gr gi v2 r) := hrd
    have HOB : Hid (v2.ownBlock = v.ownBlock) := hob
    clear hob
    have HO : Hid (Only gi w w1) := ho
    have HC : Hid (readCount most l = if n ≤ most then some (n, r) else none) := by show _ = _; unfold readCount; rw [hc]
    clear hrd ho hc
    by_cases hle : n ≤ most
    · have hng : ¬ ((most : Int) < (n : Int)) := by omega
      have hwn : IntKind.i64.wrap (n : Int) = (n : Int) := by rw [IntKind.wrap_i64]; omega
      have HC2 : Hid (readCount most l = some (n, r)) := by show _ = _; rw [HC.out, if_pos hle]
      clear HC
      go_wp2
      go_ret
      exact Or.inl ⟨n, r, _, v2, HC2.out, rfl, rfl, HRD.out, HO.out, HOB.out⟩
    · have hg : (most : Int) < (n : Int) := by omega
      have HC2 : Hid (readCount most l = none) := by show _ = _; rw [HC.out, if_neg hle]
      clear HC hle
      go_wp2_with fail
      refine (cfail_any gr gi v2 r w1 HRD.out).mono ?_
      rintro e w2 ⟨rfl, rfl⟩
      have hT := HRD.out.threw.after HO.out
      obtain ⟨w2, HW2⟩ : ∃ x, Hid (x = w1.setCell ⟨gi, 2, none⟩ (.bool true)) := ⟨_, rfl⟩
      rw [← HW2.out] at hT ⊢
      unfold thrown at hT ⊢
      go_wp2
      exact ⟨rfl, Or.inr ⟨HC2.out, hT⟩⟩
  · have HC2 : Hid (readCount most l = none) := by show _ = _; unfold readCount; rw [hc]
    have hT2 := hT
    obtain rfl := hT.eq
    unfold thrown at hT2 ⊢
    clear hT hc
    go_wp2
    exact ⟨rfl, Or.inr ⟨HC2.out, hT2⟩⟩
end Go.Proofs.YtableajopaappaaDoor

/- Texts that the proof leans on, one behind the other: A list of signed roots that grows by append; evidence that is filled (layer 12). The reference's Seal, its signature in the call's own blocks (layer 12). The walk of the reference's Read (layer 12). .. -/
import Derived.Test.YtableajopaappaaDoorMgc
import Derived.Test.YtableajopaappaaDoorMgb
import Derived.Laws.AppendOwnNone
import Derived.Laws.CopyRow
import Derived.Laws.MakeOwn
/- A list of signed roots that grows by append; evidence that is filled (layer 12). -/
namespace Go.Proofs.YtableajopaappaaDoor
open Go.RowKit Go.Shelf
set_option maxRecDepth 100000
def flatS (L : List (SgT × Value)) : List Value := (L.map fun p => sgC p.1 p.2).flatten
/-- the slice v of signed roots, the call's own from block base on, holds L -/
def OwnS (w : World) (base : Nat) (v : Value) (L : List (SgT × Value)) : Prop := w.ownsRow base 30 98 v L.length (flatS L) ∧ ∀ p ∈ L, okS p.1
theorem OwnS.nil (w : World) (base : Nat) : OwnS w base (.slice none 0 0) [] := ⟨World.ownsRow_nil _ _ _ _, fun _ h => by cases h⟩
theorem OwnS.lt {w : World} {base : Nat} {v : Value} {L : List (SgT × Value)} (h : OwnS w base v L) : ∀ k, v.ownBlock = some k → base ≤ k ∧ k < w.heap.size := World.ownsRow.lt h.1
theorem OwnS.keep {w w' : World} {base : Nat} {v : Value} {L : List (SgT × Value)} (h : OwnS w base v L) (hs : ∀ k, base ≤ k → k < w.heap.size → w'.heap[k]? = w.heap[k]?) : OwnS w' base v L := by
  refine ⟨?_, h.2⟩
  have hlt := World.ownsRow.lt h.1
  rcases h.1 with ⟨h1, ⟨rfl, h2⟩ | ⟨g, cap, cur, rfl, hg, hh, h3⟩⟩
  · exact ⟨h1, Or.inl ⟨rfl, h2⟩⟩
  · exact ⟨h1, Or.inr ⟨g, cap, cur, rfl, hg, by rw [hs g hg (hlt g rfl).2]; exact hh, h3⟩⟩
theorem OwnS.slice {w : World} {base : Nat} {v : Value} {L : List (SgT × Value)} (h : OwnS w base v L) : ∃ ad c, v = .slice ad L.length c := by
  rcases h.1 with ⟨_, ⟨rfl, h2⟩ | ⟨g, cap, cur, rfl, _⟩⟩
  · exact ⟨none, 0, by rw [h2]⟩
  · exact ⟨_, _, rfl⟩
theorem flatS_at {L : List (SgT × Value)} (h : ∀ p ∈ L, okS p.1) : ∀ (j i : Nat) (p : SgT × Value) (v : Value), L[j]? = some p → (sgC p.1 p.2)[i]? = some v → (flatS L)[j * 98 + i]? = some v := by
  unfold flatS
  induction L with
  | nil => intro j i p v hj; simp at hj
  | cons q r ih =>
    intro j i p v hj hv
    rw [List.map_cons, List.flatten_cons]
    cases j with
    | zero =>
      simp only [List.getElem?_cons_zero, Option.some.injEq] at hj
      subst hj
      have hi : i < (sgC q.1 q.2).length := (List.getElem?_eq_some_iff.1 hv).1
      rw [Nat.zero_mul, Nat.zero_add, List.getElem?_append_left hi, hv]
    | succ j =>
      simp only [List.getElem?_cons_succ] at hj
      have hl : (sgC q.1 q.2).length = 98 := len_sgC (h q (by simp)) _
      rw [List.getElem?_append_right (by rw [hl]; omega), hl, show (j + 1) * 98 + i - 98 = j * 98 + i by omega]
      exact ih (fun x hx => h x (by simp [hx])) j i p v hj hv
theorem OwnS.readsS {w : World} {base : Nat} {v : Value} {L : List (SgT × Value)} (h : OwnS w base v L) (hr : ∀ p ∈ L, Reads w p.2 p.1.2) : ReadsS w v (L.map (·.1)) := by
  refine ⟨?_, fun s hs => by obtain ⟨p, hp, rfl⟩ := List.mem_map.1 hs; exact h.2 p hp⟩
  rw [List.length_map]
  rcases h.1 with ⟨h1, ⟨rfl, h2⟩ | ⟨g, cap, cur, rfl, hg, hh, hc, hm, hs, ht⟩⟩
  · exact ⟨none, 0, by rw [h2], by omega, fun _ => rfl, fun hp => by omega⟩
  · refine ⟨_, cap, rfl, hc, fun h => (by cases h), fun hp => ⟨g, 0, rfl, fun j hj => ?_⟩⟩
    have hq : L[j]? = some L[j] := List.getElem?_eq_getElem hj
    have e : (L.map (·.1)).getD j zeroS = L[j].1 := by rw [List.getD_eq_getElem?_getD, List.getElem?_map, hq]; rfl
    rw [e]
    have hmem : L[j] ∈ L := List.getElem_mem hj
    refine ⟨L[j].2, ⟨fun i u hv => ?_, h.2 _ hmem⟩, hr _ hmem⟩
    have hi : i < 98 := by have := (List.getElem?_eq_some_iff.1 hv).1; rwa [len_sgC (h.2 _ hmem)] at this
    have hf := flatS_at h.2 j i L[j] u hq hv
    rw [← ht, List.getElem?_take] at hf
    rw [cell_of_row w g _ cur 30 (0, 0) hh, Nat.zero_add]
    rw [if_pos (by
      have : (j + 1) * 98 ≤ L.length * 98 := Nat.mul_le_mul_right 98 hj
      omega)] at hf
    simpa using hf
/-- a row of signed roots is no row of bytes -/
theorem OwnB.apartS {w : World} {b1 b2 : Nat} {v u : Value} {l : List (BitVec 8)} {L : List (SgT × Value)} (h : OwnB w b1 v l) (h2 : OwnS w b2 u L) : ∀ k, v.ownBlock = some k → some k ≠ u.ownBlock := by
  obtain ⟨_, h1⟩ := h
  obtain ⟨⟨_, h3⟩, _⟩ := h2
  intro k hk he
  rcases h1 with ⟨rfl, _⟩ | ⟨g, cap, cur, rfl, hg, hh, _⟩
  · simp [Value.ownBlock] at hk
  · rcases h3 with ⟨rfl, _⟩ | ⟨g2, cap2, cur2, rfl, hg2, hh2, _⟩
    · simp [Value.ownBlock] at he
    · simp only [Value.ownBlock, Option.some.injEq] at hk he
      subst hk he
      rw [hh] at hh2
      simp only [Option.some.injEq, Obj.cells.injEq] at hh2
      exact absurd hh2.2.1 (by decide)
/-- a signed root stored into a row -/
theorem wpSeq_storeSgAt {ops : Array Oper} {Q : Exit → Act → World → Prop} {rest : List Oper} {o : Oper} {a : Act} {w : World} (x y : Operand) (g off : Nat) (A B C ns : List Value) (ty : TypeId) (hb : Blk w g (A ++ (B ++ C)) ty) (hA : A.length = off) (hB : B.length = 98) (hl : ns.length = 98) (h1 : ∀ v ∈ ns, v.oneCell' = true) (ho : o.op = .store 30 x y) (hx : a.eval x = .pointer (some ⟨g, off, none⟩)) (hy : a.eval y = .agg ns.toArray) (hgd : o.guard = none)
    (h : ∀ w', SetR (A ++ (ns ++ C)) ty w g w' → wpList Tryd.prog ops Q rest (a.put o.dst undef) w') : wpList Tryd.prog ops Q (o :: rest) a w :=
  wpList_store_mid hgd 30 x y ho g off _ hx hy (hb.there off _ (by rw [List.size_toArray, List.length_append, List.length_append]; omega)) (by rw [List.size_toArray, hl]; exact info_signed) (all_oneCell_toArray h1)
    (by rw [List.toList_toArray]; exact h _ ⟨hb.seg (by omega) hA, Only.setCells _ _ _ (Only.refl g w)⟩)
/-- roots in order, as evidence of n roots -/
def evN (n : Nat) (rs : List SgT) : EvT := (rs.take (n - 2), rs.getD (n - 2) zeroS, rs.getD (n - 1) zeroS)
/-- evidence in block g, as far as the roots rs were read; its values the call's own -/
structure RdI (y1 : World) (g n : Nat) (rs : List SgT) (L : List (SgT × Value)) (vt va vb : Value) (W : World) : Prop where
  bel : Below y1.heap.size y1 W
  ev : Blk W g (evC (evN n rs) vt va vb) 32
  own : OwnS W (g + 1) vt L
  sg : ∀ p ∈ L, OwnB W (g + 1) p.2 p.1.2
  eq : L.map (·.1) = rs.take (n - 2)
  ra : OwnB W (g + 1) va (rs.getD (n - 2) zeroS).2
  rb : OwnB W (g + 1) vb (rs.getD (n - 1) zeroS).2
  ok : ∀ s ∈ rs, okS s
  ge : y1.heap.size ≤ g
theorem RdI.oa {y1 : World} {g n : Nat} {rs : List SgT} {L : List (SgT × Value)} {vt va vb : Value} {W : World} (h : RdI y1 g n rs L vt va vb W) : okS (rs.getD (n - 2) zeroS) := getD_okS h.ok _
theorem RdI.ob {y1 : World} {g n : Nat} {rs : List SgT} {L : List (SgT × Value)} {vt va vb : Value} {W : World} (h : RdI y1 g n rs L vt va vb W) : okS (rs.getD (n - 1) zeroS) := getD_okS h.ok _
theorem RdI.size {y1 : World} {g n : Nat} {rs : List SgT} {L : List (SgT × Value)} {vt va vb : Value} {W : World} (h : RdI y1 g n rs L vt va vb W) : g + 1 ≤ W.heap.size := h.ev.lt
theorem RdI.next {y1 : World} {g n : Nat} {rs : List SgT} {L : List (SgT × Value)} {vt va vb : Value} {W W' : World} (h : RdI y1 g n rs L vt va vb W) (hb : Below W.heap.size W W') : RdI y1 g n rs L vt va vb W' :=
  ⟨h.bel.trans (hb.mono h.bel.size), h.ev.below hb h.ev.lt, h.own.keep fun k _ hk => hb.block k hk, fun p hp => (h.sg p hp).same fun k hk => hb.block k ((h.sg p hp).lt k hk), h.eq, h.ra.same fun k hk => hb.block k (h.ra.lt k hk), h.rb.same fun k hk => hb.block k (h.rb.lt k hk), h.ok, h.ge⟩
/-- what stands there at the end -/
theorem RdI.evB {y1 : World} {g n : Nat} {rs : List SgT} {L : List (SgT × Value)} {vt va vb : Value} {W : World} (h : RdI y1 g n rs L vt va vb W) : EvB W (evN n rs) (evC (evN n rs) vt va vb) := by
  refine EvIs.evB ⟨?_, h.ra.reads, h.rb.reads, h.oa, h.ob⟩
  have h1 := h.own.readsS fun p hp => (h.sg p hp).reads
  rw [h.eq] at h1
  exact h1
end Go.Proofs.YtableajopaappaaDoor
/- The reference's Seal, its signature in the call's own blocks (layer 12). -/
namespace Go.Proofs.YtableajopaappaaDoor
open Go.RowKit Go.Shelf
set_option maxRecDepth 100000
end Go.Proofs.YtableajopaappaaDoor
/- The walk of the reference's Read (layer 12). -/
namespace Go.Proofs.YtableajopaappaaDoor
open Go.RowKit Go.Shelf
set_option maxRecDepth 100000
theorem ReadsL.atL {w : World} {ad : Option Addr} {n cp : Nat} {ls : List Bs} (h : ReadsL w (.slice ad n cp) ls) (hp : 0 < ls.length) : ∃ b off, ad = some ⟨b, off, none⟩ ∧ ∀ j, j < ls.length → ∃ vj, w.cell? ⟨b, off + j, none⟩ = some vj ∧ Reads w vj (ls.getD j []) := by
  obtain ⟨ad', cap, hv, _, _, hx⟩ := h
  simp only [Value.slice.injEq] at hv
  obtain ⟨rfl, _, _⟩ := hv
  exact hx hp
theorem mem_getD {ts : List Bs} {k : Nat} (hk : k < ts.length) : ts.getD k [] ∈ ts := by
  rw [List.getD_eq_getElem?_getD, List.getElem?_eq_getElem hk]
  exact List.getElem_mem hk
theorem takeB_more {l : List Bs} {k : Nat} (hk : k < l.length) : l.take (k + 1) = l.take k ++ [l.getD k []] := by
  rw [List.take_add_one, List.getD_eq_getElem?_getD, List.getElem?_eq_getElem hk]
  rfl
theorem readF_bad {b : Bs} (h : errOf (readList readText b) ≠ 0 ∨ ((readList readText b).getD []).length < 2 ∨ 65 < ((readList readText b).getD []).length ∨ readSs ((readList readText b).getD []) = none) : readF b = none := by
  unfold readF
  cases hr : readList readText b with
  | none => rfl
  | some ts =>
    rw [hr] at h
    simp only [Option.getD_some, errOf, Option.isSome_some, if_true, ne_eq, not_true, false_or] at h
    simp only
    by_cases h2 : 2 ≤ ts.length ∧ ts.length ≤ 65
    · rw [if_pos h2]
      rcases h with h | h | h
      · omega
      · omega
      · rw [h]; rfl
    · rw [if_neg h2]
theorem readF_good {b : Bs} {l : List SgT} (h0 : errOf (readList readText b) = 0) (h2 : 2 ≤ ((readList readText b).getD []).length) (h65 : ((readList readText b).getD []).length ≤ 65) (hl : readSs ((readList readText b).getD []) = some l) : readF b = some (evL l) := by
  unfold readF
  cases hr : readList readText b with
  | none => rw [hr] at h0; cases h0
  | some ts =>
    rw [hr] at h2 h65 hl
    simp only [Option.getD_some] at h2 h65 hl
    simp only
    rw [if_pos ⟨h2, h65⟩, hl]
    rfl
end Go.Proofs.YtableajopaappaaDoor
/- The walks of the reference's Pin and Honest (layer 12). -/
namespace Go.Proofs.YtableajopaappaaDoor
open Go.RowKit Go.Shelf
set_option maxRecDepth 100000
structure HnI (w : World) (g2 g6 : Nat) (seed : Bs) (h : HdT) (v : Value) (L : List (SgT × Value)) (W : World) : Prop where
  sd : Blk W g2 (cb seed) 23
  hd : Blk W g6 (hdC h) 50
  own : OwnS W (g6 + 1) v L
  sg : ∀ p ∈ L, OwnB W (g6 + 1) p.2 p.1.2
  bel : Below w.heap.size w W
  lt : g2 < g6
  ge : w.heap.size ≤ g2
theorem HnI.size {w : World} {g2 g6 : Nat} {seed : Bs} {h : HdT} {v : Value} {L : List (SgT × Value)} {W : World} (i : HnI w g2 g6 seed h v L W) : g6 + 1 ≤ W.heap.size := i.hd.lt
theorem HnI.next {w : World} {g2 g6 : Nat} {seed : Bs} {h : HdT} {v : Value} {L : List (SgT × Value)} {W W' : World} (i : HnI w g2 g6 seed h v L W) (hb : Below W.heap.size W W') : HnI w g2 g6 seed h v L W' :=
  ⟨i.sd.below hb i.sd.lt, i.hd.below hb i.hd.lt, i.own.keep fun k _ hk => hb.block k hk, fun p hp => (i.sg p hp).same fun k hk => hb.block k ((i.sg p hp).lt k hk), i.bel.trans (hb.mono i.bel.size), i.lt, i.ge⟩
theorem HnI.drew {w : World} {g2 g6 : Nat} {seed : Bs} {h : HdT} {v : Value} {L : List (SgT × Value)} {W : World} (i : HnI w g2 g6 seed h v L W) : HnI w g2 g6 seed h v L W.drew := i.next (Below.refl _ _).drew
theorem HnI.more {w : World} {g2 g6 : Nat} {seed : Bs} {h : HdT} {v v' sv : Value} {s : SgT} {L : List (SgT × Value)} {W W' : World} (i : HnI w g2 g6 seed h v L W) (hs : OwnB W (g6 + 1) sv s.2) (ho : OwnS W' (g6 + 1) v' (L ++ [(s, sv)])) (hg : Grow (g6 + 1) W v W' v') : HnI w g2 g6 seed h v' (L ++ [(s, sv)]) W' := by
  have up : ∀ {u : Value} {l : Bs}, OwnB W (g6 + 1) u l → OwnB W' (g6 + 1) u l := fun {u l} hv => hv.same fun k hk => hg.other k (hv.apartS i.own k hk) (hv.lt k hk)
  refine ⟨i.sd.below hg.below (by have := i.lt; omega), i.hd.below hg.below (by omega), ho, fun p hp => ?_, i.bel.trans (hg.below.mono (by have := i.lt; have := i.ge; omega)), i.lt, i.ge⟩
  rcases List.mem_append.1 hp with hp | hp
  · exact up (i.sg p hp)
  · rw [List.mem_singleton.1 hp]; exact up hs
theorem HnI.reads {w : World} {g2 g6 : Nat} {seed : Bs} {h : HdT} {v : Value} {L : List (SgT × Value)} {W : World} (i : HnI w g2 g6 seed h v L W) : ReadsS W v (L.map (·.1)) := i.own.readsS fun p hp => (i.sg p hp).reads
end Go.Proofs.YtableajopaappaaDoor
/- What breaks tells: a signed root that is taken by a seed's key, and is not what that key signed, breaks something (layer 12). -/
namespace Go.Proofs.YtableajopaappaaDoor
open Go.RowKit Go.Shelf
set_option maxRecDepth 100000
structure BrI (w : World) (g4 g7 g13 g14 : Nat) (seed : Bs) (csg : List Value) (dw d : Bs) (W : World) : Prop where
  a : Blk W g4 (cb seed) 23
  b : Blk W g7 csg 30
  c : Blk W g13 (cb dw) 23
  d : Blk W g14 (cb d) 23
  bel : Below w.heap.size w W
end Go.Proofs.YtableajopaappaaDoor
/- A slice of signed roots appended whole (layer 12). -/
namespace Go.Proofs.YtableajopaappaaDoor
open Go.RowKit Go.Shelf
set_option maxRecDepth 100000
theorem rows_of (w : World) (b : Nat) : ∀ (l : List SgT) (off : Nat), (∀ j, j < l.length → ∃ vs, SgAt w b (off + j * 98) (l.getD j zeroS) vs ∧ Reads w vs (l.getD j zeroS).2) →
    ∃ T : List (SgT × Value), T.map (·.1) = l ∧ (∀ p ∈ T, Reads w p.2 p.1.2 ∧ okS p.1) ∧ ∀ j u, (flatS T)[j]? = some u → w.cell? ⟨b, off + j, none⟩ = some u
  | [], off, _ => ⟨[], rfl, (fun p hp => by cases hp), fun j u hj => by simp [flatS] at hj⟩
  | s :: l, off, h => by
    obtain ⟨v0, h0, r0⟩ := h 0 (by simp)
    rw [Nat.zero_mul, Nat.add_zero] at h0
    obtain ⟨T, e, hp, hc⟩ := rows_of w b l (off + 98) (fun j hj => by
      obtain ⟨v, h1, h2⟩ := h (j + 1) (by simpa using hj)
      exact ⟨v, by rw [show off + 98 + j * 98 = off + (j + 1) * 98 by omega]; exact h1, h2⟩)
    refine ⟨(s, v0) :: T, by rw [List.map_cons, e], fun p hpp => ?_, fun j u hj => ?_⟩
    · rcases List.mem_cons.1 hpp with rfl | hpp
      · exact ⟨r0, h0.ok⟩
      · exact hp p hpp
    · have e2 : flatS ((s, v0) :: T) = sgC s v0 ++ flatS T := by simp [flatS]
      rw [e2] at hj
      have hl : (sgC s v0).length = 98 := len_sgC h0.ok v0
      by_cases hj98 : j < 98
      · rw [List.getElem?_append_left (by omega)] at hj
        exact h0.all j u hj
      · rw [List.getElem?_append_right (by omega), hl] at hj
        have := hc (j - 98) u hj
        rwa [show off + 98 + (j - 98) = off + j by omega] at this
theorem flatS_len : ∀ (T : List (SgT × Value)), (∀ p ∈ T, okS p.1) → (flatS T).length = T.length * 98
  | [], _ => rfl
  | p :: T, h => by
    have e2 : flatS (p :: T) = sgC p.1 p.2 ++ flatS T := by simp [flatS]
    rw [e2, List.length_append, len_sgC (h p (by simp)), flatS_len T (fun q hq => h q (by simp [hq])), List.length_cons]
    omega
theorem flatS_one : ∀ (T : List (SgT × Value)), (∀ p ∈ T, p.2.oneCell' = true) → ∀ u ∈ flatS T, u.oneCell' = true
  | [], _ => fun u hu => by simp [flatS] at hu
  | p :: T, h => fun u hu => by
    have e2 : flatS (p :: T) = sgC p.1 p.2 ++ flatS T := by simp [flatS]
    rw [e2, List.mem_append] at hu
    rcases hu with hu | hu
    · rw [sgC_eq, List.mem_append, List.mem_singleton] at hu
      rcases hu with hu | rfl
      · exact rtC_one _ u hu
      · exact h p (by simp)
    · exact flatS_one T (fun q hq => h q (by simp [hq])) u hu
theorem Reads.one {w : World} {v : Value} {l : Bs} (h : Reads w v l) : v.oneCell' = true := by
  obtain ⟨a, n, c, rfl⟩ := h.form
  rfl
end Go.Proofs.YtableajopaappaaDoor
/- A made row of signed roots: made, copied into, stored into, read (layer 12). -/
namespace Go.Proofs.YtableajopaappaaDoor
open Go.RowKit Go.Shelf
set_option maxRecDepth 100000
/-- the block g holds the signed roots L, one behind the other -/
structure RowS (w : World) (g : Nat) (L : List (SgT × Value)) : Prop where
  blk : Blk w g (flatS L) 30
  ok : ∀ p ∈ L, okS p.1
theorem RowS.below {w w' : World} {g : Nat} {L : List (SgT × Value)} (h : RowS w g L) (hb : Below w.heap.size w w') : RowS w' g L := ⟨h.blk.below hb h.blk.lt, h.ok⟩
theorem RowS.only {w w' : World} {g g' : Nat} {L : List (SgT × Value)} (h : RowS w g L) (ho : Only g' w w') (hne : g ≠ g') : RowS w' g L := ⟨h.blk.only ho hne, h.ok⟩
theorem RowS.drew {w : World} {g : Nat} {L : List (SgT × Value)} (h : RowS w g L) : RowS w.drew g L := ⟨h.blk.drew, h.ok⟩
theorem RowS.lt {w : World} {g : Nat} {L : List (SgT × Value)} (h : RowS w g L) : g < w.heap.size := h.blk.lt
def zeroL (n : Nat) : List (SgT × Value) := List.replicate n (zeroS, .slice none 0 0)
theorem zeroL_ok (n : Nat) : ∀ p ∈ zeroL n, okS p.1 := fun p hp => by rw [(List.mem_replicate.1 hp).2]; exact okS_zero
theorem len_zeroL (n : Nat) : (zeroL n).length = n := List.length_replicate
theorem flatS_cut (A B : List (SgT × Value)) : flatS (A ++ B) = flatS A ++ flatS B := by simp [flatS]
/-- the signed root at a place -/
theorem RowS.at {w : World} {g : Nat} {L : List (SgT × Value)} (h : RowS w g L) {k : Nat} {p : SgT × Value} (hk : L[k]? = some p) : SgAt w g (k * 98) p.1 p.2 :=
  ⟨fun i v hv => by rw [h.blk.cell]; exact flatS_at h.ok k i p v hk hv, h.ok p (List.mem_of_getElem? hk)⟩
/-- a beginning, as a slice -/
theorem RowS.readsS {w : World} {g : Nat} {L : List (SgT × Value)} (h : RowS w g L) (m : Nat) (hm : m ≤ L.length) (c : Nat) (hc : m ≤ c) (hr : ∀ p ∈ L.take m, Reads w p.2 p.1.2) : ReadsS w (.slice (some ⟨g, 0, none⟩) m c) ((L.take m).map (·.1)) := by
  have hl : ((L.take m).map (·.1)).length = m := by rw [List.length_map, List.length_take]; omega
  refine ⟨⟨_, c, by rw [hl], by rw [hl]; exact hc, (fun e => by cases e), fun _ => ⟨g, 0, rfl, fun j hj => ?_⟩⟩, fun s hs => ?_⟩
  · rw [hl] at hj
    have hjl : j < L.length := by omega
    have e : ((L.take m).map (·.1)).getD j zeroS = (L[j]).1 := by
      rw [List.getD_eq_getElem?_getD, List.getElem?_map, List.getElem?_take_of_lt hj, List.getElem?_eq_getElem hjl]
      rfl
    rw [e, Nat.zero_add]
    refine ⟨(L[j]).2, h.at (List.getElem?_eq_getElem hjl), hr _ ?_⟩
    have : (L.take m)[j]? = some L[j] := by rw [List.getElem?_take_of_lt hj, List.getElem?_eq_getElem hjl]
    exact List.mem_of_getElem? this
  · obtain ⟨p, hp, rfl⟩ := List.mem_map.1 hs
    exact h.ok p (List.mem_of_mem_take hp)
theorem flatS_zero (n : Nat) : (flatS (zeroL n)).length = n * 98 := by rw [flatS_len _ (zeroL_ok n), len_zeroL]
/-- what a made slice's cells are -/
theorem madeS (n : Nat) : madeCells (Value.cells (.agg (sgC zeroS (.slice none 0 0)).toArray)) (n * 98) = (flatS (zeroL n)).toArray := by
  apply Array.ext
  · rw [size_madeCells, List.size_toArray, flatS_zero]
  · intro j h1 h2
    rw [size_madeCells] at h1
    have hz : (Value.cells (.agg (sgC zeroS (.slice none 0 0)).toArray)).size = 98 := by
      show (sgC zeroS (.slice none 0 0)).toArray.size = 98
      rw [List.size_toArray]
      exact len_sgC okS_zero _
    have hj : j = (j / 98) * 98 + j % 98 := by omega
    have hq : j / 98 < n := by omega
    have hm : j % 98 < (sgC zeroS (.slice none 0 0)).length := by rw [len_sgC okS_zero]; omega
    have e1 := flatS_at (zeroL_ok n) (j / 98) (j % 98) (zeroS, .slice none 0 0) ((sgC zeroS (.slice none 0 0))[j % 98]) (by rw [zeroL, List.getElem?_replicate, if_pos hq]) (List.getElem?_eq_getElem hm)
    rw [← hj] at e1
    have e2 : (flatS (zeroL n)).toArray[j] = (sgC zeroS (.slice none 0 0))[j % 98] := by
      rw [List.getElem_toArray]
      exact Option.some.inj ((List.getElem?_eq_getElem _).symm.trans e1)
    rw [e2]
    simp only [madeCells, Array.getElem_map, Array.getElem_range, hz]
    show (sgC zeroS (.slice none 0 0)).toArray[j % 98]! = _
    rw [getElem!_pos _ _ (by rw [List.size_toArray]; exact hm), List.getElem_toArray]
theorem make_sg (f : Operand → Value) (o : Oper) (x y : Operand) (n : Nat) (hn : n ≤ 1000000) (ho : o.op = .makeSlice 24 x y) (hx : f x = .int .i64 (n : Int)) (hy : f y = .int .i64 (n : Int)) (w : World) :
    (execOp f o).run Tryd.prog w = .ok (.value (.slice (some ⟨w.heap.size, 0, none⟩) n n)) (w.alloc (.cells (flatS (zeroL n)).toArray 30)) := by
  obtain ⟨i0, hi, hz, hs, hby⟩ := info_parts Tryd.infos3
  have hr := run_make (P := Tryd.prog) w 24 30 i0 _ Tryd.underlying24 hi hz .i64 .i64 (n : Int) (n : Int) (by omega) (Int.le_refl _) (by rw [hby]; omega) (by omega)
  rw [Int.toNat_natCast, hs, madeS] at hr
  unfold execOp
  rw [ho]
  simp only [hx, hy, Sem.run_bind, hr, Result.andThen_ok, Sem.run_pure]
theorem wpSeq_makeS {ops : Array Oper} {Q : Exit → Act → World → Prop} {rest : List Oper} {o : Oper} {a : Act} {w : World} (x y : Operand) (n : Nat) (hn : n ≤ 1000000) (ho : o.op = .makeSlice 24 x y) (hx : a.eval x = .int .i64 (n : Int)) (hy : a.eval y = .int .i64 (n : Int)) (hw : Region.wanted o (yielded ops a.tmps) = true)
    (h : ∀ g w', w.heap.size ≤ g → RowS w' g (zeroL n) → Below w.heap.size w w' → wpList Tryd.prog ops Q rest (a.put o.dst (.slice (some ⟨g, 0, none⟩) n n)) w') : wpList Tryd.prog ops Q (o :: rest) a w :=
  wpSeq_val _ _ hw (make_sg _ o x y n hn ho hx hy w) (h _ _ (Nat.le_refl _) ⟨Blk.new _ _ _, zeroL_ok n⟩ (below_alloc _ _))
/-- a signed root stored at a place of a row -/
theorem RowS.put {w w' : World} {g k : Nat} {L : List (SgT × Value)} {s : SgT} {ad : Option Addr} {n c : Nat} (h : RowS w g L) (hk : k < L.length) (os : okS s) (hr : SetR (flatS (L.take k) ++ (sgC s (.slice ad n c) ++ flatS (L.drop (k + 1)))) 30 w g w') : RowS w' g (L.set k (s, .slice ad n c)) := by
  have e : L.set k (s, .slice ad n c) = L.take k ++ ((s, Value.slice ad n c) :: L.drop (k + 1)) := by rw [List.set_eq_take_append_cons_drop, if_pos hk]
  refine ⟨?_, fun p hp => ?_⟩
  · rw [e, flatS_cut]
    have e2 : flatS ((s, Value.slice ad n c) :: L.drop (k + 1)) = sgC s (.slice ad n c) ++ flatS (L.drop (k + 1)) := by simp [flatS]
    rw [e2]
    exact hr.blk
  · rw [e] at hp
    rcases List.mem_append.1 hp with hp | hp
    · exact h.ok p (List.mem_of_mem_take hp)
    · rcases List.mem_cons.1 hp with rfl | hp
      · exact os
      · exact h.ok p (List.mem_of_mem_drop hp)
theorem RowS.parts {w : World} {g k : Nat} {L : List (SgT × Value)} (h : RowS w g L) (hk : k < L.length) : Blk w g (flatS (L.take k) ++ (sgC (L[k]).1 (L[k]).2 ++ flatS (L.drop (k + 1)))) 30 ∧ (flatS (L.take k)).length = k * 98 := by
  have e : L = L.take k ++ (L[k] :: L.drop (k + 1)) := by rw [List.getElem_cons_drop, List.take_append_drop]
  have e2 : flatS L = flatS (L.take k) ++ (sgC (L[k]).1 (L[k]).2 ++ flatS (L.drop (k + 1))) := by
    conv => lhs; rw [e]
    rw [flatS_cut]
    congr 1
  refine ⟨by rw [← e2]; exact h.blk, ?_⟩
  rw [flatS_len _ (fun p hp => h.ok p (List.mem_of_mem_take hp)), List.length_take]
  congr 1
  omega
theorem wpSeq_storeRowS {ops : Array Oper} {Q : Exit → Act → World → Prop} {rest : List Oper} {o : Oper} {a : Act} {w : World} (x y : Operand) (g k : Nat) (L : List (SgT × Value)) (s : SgT) (ad : Option Addr) (n c : Nat) (h : RowS w g L) (hk : k < L.length) (os : okS s) (ho : o.op = .store 30 x y) (hx : a.eval x = .pointer (some ⟨g, k * 98, none⟩)) (hy : a.eval y = .agg (sgC s (.slice ad n c)).toArray) (hgd : o.guard = none)
    (hh : ∀ w', RowS w' g (L.set k (s, .slice ad n c)) → Only g w w' → wpList Tryd.prog ops Q rest (a.put o.dst undef) w') : wpList Tryd.prog ops Q (o :: rest) a w :=
  wpSeq_storeSgAt x y g (k * 98) (flatS (L.take k)) (sgC (L[k]).1 (L[k]).2) (flatS (L.drop (k + 1))) (sgC s (.slice ad n c)) 30 (h.parts hk).1 (h.parts hk).2 (len_sgC (h.ok _ (List.getElem_mem hk)) _) (len_sgC os _) (sgC_one _ _ _ _) ho hx hy hgd (fun w' hr => hh w' (h.put hk os hr) hr.only)
end Go.Proofs.YtableajopaappaaDoor
/- Rows of signed roots that are copied into from a place on; rows of texts that are made and stored into (layer 12). -/
namespace Go.Proofs.YtableajopaappaaDoor
open Go.RowKit Go.Shelf
set_option maxRecDepth 100000
theorem flatS_take {L : List (SgT × Value)} (h : ∀ p ∈ L, okS p.1) (k : Nat) (hk : k ≤ L.length) : (flatS L).take (k * 98) = flatS (L.take k) := by
  have e : flatS L = flatS (L.take k) ++ flatS (L.drop k) := by rw [← flatS_cut, List.take_append_drop]
  have hl : (flatS (L.take k)).length = k * 98 := by rw [flatS_len _ (fun p hp => h p (List.mem_of_mem_take hp)), List.length_take, Nat.min_eq_left hk]
  conv => lhs; rw [e]
  rw [← hl, List.take_left]
theorem flatS_drop {L : List (SgT × Value)} (h : ∀ p ∈ L, okS p.1) (k : Nat) (hk : k ≤ L.length) : (flatS L).drop (k * 98) = flatS (L.drop k) := by
  have e : flatS L = flatS (L.take k) ++ flatS (L.drop k) := by rw [← flatS_cut, List.take_append_drop]
  have hl : (flatS (L.take k)).length = k * 98 := by rw [flatS_len _ (fun p hp => h p (List.mem_of_mem_take hp)), List.length_take, Nat.min_eq_left hk]
  conv => lhs; rw [e]
  rw [← hl, List.drop_left]
/-- signed roots copied into a row, from place k on -/
theorem run_copyK (w : World) (ty : TypeId) (g k dLen dCap : Nat) (a : Addr) (sLen sCap : Nat) (L T : List (SgT × Value)) (h : RowS w g L) (hT : ∀ p ∈ T, okS p.1) (h1 : ∀ p ∈ T, p.2.oneCell' = true) (hd : k + dLen = L.length) (hm : Nat.min sLen dLen = T.length)
    (hsrc : ∀ j v, (flatS T)[j]? = some v → w.cell? (a.add j) = some v) :
    ∃ w', (Builtin.copy_ #[24, 24] ty #[.slice (some ⟨g, k * 98, none⟩) dLen dCap, .slice (some a) sLen sCap]).run Tryd.prog w = .ok (goInt T.length) w' ∧ RowS w' g (L.take k ++ T ++ L.drop (k + T.length)) ∧ Only g w w' := by
  obtain ⟨i0, hi, hz, hsz, _⟩ := info_parts Tryd.infos3
  have hle : T.length ≤ dLen := by rw [← hm]; exact Nat.min_le_right _ _
  have hl := run_loadCells_list (P := Tryd.prog) w a (flatS T) hsrc
  have hTl := flatS_len T hT
  have hLl := flatS_len L h.ok
  have hg : w.heap[g]? = some (.cells (flatS L).toArray 30 (0, 0)) := h.blk
  have hst := run_storeCells_at Tryd.prog g (k * 98) 30 (flatS T) 0 (flatS L).toArray w hg (by rw [List.size_toArray, hTl, hLl]; omega) (flatS_one T h1)
  have hn : (flatS T).length = Nat.min sLen dLen * 98 := by rw [hTl, hm]
  refine ⟨w.setRow g ((flatS L).toArray.toList.take (k * 98 + 0) ++ flatS T ++ (flatS L).toArray.toList.drop (k * 98 + 0 + (flatS T).length)).toArray, ?_, ⟨?_, ?_⟩, ?_⟩
  rotate_left
  · have e : (flatS L).toArray.toList.take (k * 98 + 0) ++ flatS T ++ (flatS L).toArray.toList.drop (k * 98 + 0 + (flatS T).length) = flatS (L.take k ++ T ++ L.drop (k + T.length)) := by
      rw [flatS_cut, flatS_cut, hTl, Nat.add_zero, ← Nat.add_mul, List.toList_toArray, flatS_take h.ok k (by omega), flatS_drop h.ok (k + T.length) (by omega)]
    show (w.setRow g _).heap[g]? = _
    rw [setRow_heap w g (flatS L).toArray _ 30 (0, 0) hg, e]
  · intro p hp
    rcases List.mem_append.1 hp with hp | hp
    · rcases List.mem_append.1 hp with hp | hp
      · exact h.ok p (List.mem_of_mem_take hp)
      · exact hT p hp
    · exact h.ok p (List.mem_of_mem_drop hp)
  · exact ⟨rfl, rfl, rfl, Nat.le_of_eq (size_setRow _ _ _).symm, fun k hk _ => setRow_other _ _ _ _ hk⟩
  · rw [← hm]
    simp [Builtin.copy_, run_underlying Tryd.underlying24, Builtin.lenOf, Builtin.firstCells, sizeOf, typeInfo, hi, hsz, ← hn, hl, hst]
theorem copyK_op (f : Operand → Value) (o : Oper) (d s : Operand) (ho : o.op = .call { callee := .builtin .copy, args := #[d, s], argTypes := #[24, 24] }) (w : World) (g k dLen dCap : Nat) (a : Addr) (sLen sCap : Nat) (L T : List (SgT × Value)) (h : RowS w g L) (hT : ∀ p ∈ T, okS p.1) (h1 : ∀ p ∈ T, p.2.oneCell' = true) (hd : k + dLen = L.length) (hm : Nat.min sLen dLen = T.length)
    (hsrc : ∀ j v, (flatS T)[j]? = some v → w.cell? (a.add j) = some v) (hx : f d = .slice (some ⟨g, k * 98, none⟩) dLen dCap) (hy : f s = .slice (some a) sLen sCap) :
    ∃ w', (execOp f o).run Tryd.prog w = .ok (.value (.int .i64 (T.length : Int))) w' ∧ RowS w' g (L.take k ++ T ++ L.drop (k + T.length)) ∧ Only g w w' := by
  obtain ⟨w', hrun, h2, h3⟩ := run_copyK w o.type g k dLen dCap a sLen sCap L T h hT h1 hd hm hsrc
  refine ⟨w', ?_, h2, h3⟩
  unfold execOp
  simp only [ho, resolve, invoke, builtin, Sem.run_bind, Sem.run_pure, Result.andThen_ok, List.map_toArray, List.map_cons, List.map_nil, hx, hy, hrun]
  rfl
theorem wpAnyH_copyK {md : Region.Mode} {ops : Array Oper} {Q : Exit → Act → World → Prop} {S : World → Prop} {fuel : Nat} {listed : Array Bool} {ac : Act} {w : World} (i : Nat) {oi : Oper} (d s : Operand) (g k dLen dCap : Nat) (a : Addr) (sLen sCap : Nat) (L T : List (SgT × Value)) (h : RowS w g L) (hT : ∀ p ∈ T, okS p.1) (h1 : ∀ p ∈ T, p.2.oneCell' = true) (hd : k + dLen = L.length) (hm : Nat.min sLen dLen = T.length)
    (hsrc : ∀ j v, (flatS T)[j]? = some v → w.cell? (a.add j) = some v) (hr : Region.ready md ops listed = [i]) (hi : ops[i]? = some oi) (hw : Region.wanted oi (yielded ops ac.tmps) = true) (ho : oi.op = .call { callee := .builtin .copy, args := #[d, s], argTypes := #[24, 24] }) (hx : ac.eval d = .slice (some ⟨g, k * 98, none⟩) dLen dCap) (hy : ac.eval s = .slice (some a) sLen sCap)
    (hh : ∀ w', RowS w' g (L.take k ++ T ++ L.drop (k + T.length)) → Only g w w' → S w' ∧ wpAnyH Tryd.prog md ops Q S fuel (listed.setIfInBounds i true) (ac.put oi.dst (.int .i64 (T.length : Int))) w') : wpAnyH Tryd.prog md ops Q S (fuel + 1) listed ac w := by
  obtain ⟨w', hrun, h2, h3⟩ := copyK_op ac.eval oi d s ho w g k dLen dCap a sLen sCap L T h hT h1 hd hm hsrc hx hy
  obtain ⟨hS, h4⟩ := hh w' h2 h3
  exact wpAnyH_step i _ w' hr hi hw hrun hS h4
/-- a slice of signed roots, as it was at an earlier world, copied to the front of a row: as many as have room -/
theorem wpSeq_copyW {ops : Array Oper} {Q : Exit → Act → World → Prop} {rest : List Oper} {o : Oper} {a : Act} {w : World} (w0 : World) (d s : Operand) (g N cap m : Nat) (L : List (SgT × Value)) (l : List SgT) (ad : Option Addr) (n c : Nat) (h : RowS w g L) (hd : N = L.length) (hr : ReadsS w0 (.slice ad n c) l) (hb0 : Below w0.heap.size w0 w) (hm : Nat.min l.length L.length = m)
    (ho : o.op = .call { callee := .builtin .copy, args := #[d, s], argTypes := #[24, 24] }) (hx : a.eval d = .slice (some ⟨g, 0, none⟩) N cap) (hy : a.eval s = .slice ad n c) (hgd : o.guard = none)
    (hh : ∀ w' T, T.map (·.1) = l.take m → (∀ p ∈ T, Reads w0 p.2 p.1.2) → RowS w' g (T ++ L.drop m) → Only g w w' → wpList Tryd.prog ops Q rest (a.put o.dst (.int .i64 (m : Int))) w') : wpList Tryd.prog ops Q (o :: rest) a w := by
  obtain ⟨⟨ad', c', hv, hc, hn, hat⟩, hok⟩ := id hr
  simp only [Value.slice.injEq] at hv
  obtain ⟨rfl, rfl, rfl⟩ := hv
  refine wpList_plain hgd fun K hK => ?_
  cases ad with
  | none =>
    have h0 : l = [] := List.eq_nil_of_length_eq_zero (by have := hn rfl; omega)
    subst h0
    have hc0 := hn rfl
    subst hc0
    have hm0 : m = 0 := by rw [← hm]; exact Nat.zero_min _
    subst hm0
    have hrun := run_copy_nil (P := Tryd.prog) w 24 24 o.type 30 ⟨g, 0, none⟩ N cap Tryd.underlying24 (by rw [info_signed]; rfl)
    unfold Oper.wp execOp
    simp only [ho, resolve, invoke, builtin, Sem.run_bind, Sem.run_pure, Result.andThen_ok, List.map_toArray, List.map_cons, List.map_nil, hx, hy, List.length_nil, hrun]
    exact hK _ _ (hh w [] rfl (fun p hp => by cases hp) (by simpa using h) (Only.refl _ _))
  | some ad =>
    obtain ⟨T, e, hp, hcell⟩ : ∃ T : List (SgT × Value), T.map (·.1) = l ∧ (∀ p ∈ T, Reads w0 p.2 p.1.2 ∧ okS p.1) ∧ ∀ j u, (flatS T)[j]? = some u → w.cell? (ad.add j) = some u := by
      by_cases hp : 0 < l.length
      · obtain ⟨b, off, hb, hyy⟩ := hat hp
        simp only [Option.some.injEq] at hb
        subst hb
        obtain ⟨T, e, h1, h2⟩ := rows_of w0 b l off hyy
        exact ⟨T, e, h1, fun j u hj => by rw [Addr.add_mid, Below.cell hb0 (block_lt_of_cell (h2 j u hj))]; exact h2 j u hj⟩
      · have h0 : l = [] := List.eq_nil_of_length_eq_zero (by omega)
        subst h0
        exact ⟨[], rfl, (fun p hp => by cases hp), fun j u hj => by simp [flatS] at hj⟩
    have hTl : T.length = l.length := by rw [← e, List.length_map]
    have hmT : m ≤ T.length := by rw [hTl, ← hm]; exact Nat.min_le_left _ _
    have hTm : (T.take m).length = m := by rw [List.length_take, Nat.min_eq_left hmT]
    have hcut : ∀ j u, (flatS (T.take m))[j]? = some u → (flatS T)[j]? = some u := fun j u hj => by
      rw [← flatS_take (fun p h => (hp p h).2) m hmT, List.getElem?_take] at hj
      split at hj
      · exact hj
      · cases hj
    obtain ⟨w', hrun, h1, h2⟩ := run_copyK w o.type g 0 N cap ad l.length c L (T.take m) h (fun p h => (hp p (List.mem_of_mem_take h)).2) (fun p h => (hp p (List.mem_of_mem_take h)).1.one) (by omega) (by rw [hTm, hd]; exact hm) (fun j u hj => hcell j u (hcut j u hj))
    rw [hTm] at hrun h1
    rw [Nat.zero_mul] at hrun
    rw [List.take_zero, List.nil_append, Nat.zero_add] at h1
    unfold Oper.wp execOp
    simp only [ho, resolve, invoke, builtin, Sem.run_bind, Sem.run_pure, Result.andThen_ok, List.map_toArray, List.map_cons, List.map_nil, hx, hy, hrun]
    exact hK _ _ (hh w' (T.take m) (by rw [List.map_take, e]) (fun p h => (hp p (List.mem_of_mem_take h)).1) h1 h2)
/-- a row copied to the front of another one: as many as have room -/
theorem wpSeq_copyR {ops : Array Oper} {Q : Exit → Act → World → Prop} {rest : List Oper} {o : Oper} {a : Act} {w : World} (d s : Operand) (g gs N M cap c m : Nat) (L Ls : List (SgT × Value)) (h : RowS w g L) (hs : RowS w gs Ls) (h1 : ∀ p ∈ Ls, p.2.oneCell' = true) (hd : N = L.length) (hM : M = Ls.length) (hm : Nat.min M N = m)
    (ho : o.op = .call { callee := .builtin .copy, args := #[d, s], argTypes := #[24, 24] }) (hx : a.eval d = .slice (some ⟨g, 0, none⟩) N cap) (hy : a.eval s = .slice (some ⟨gs, 0, none⟩) M c) (hgd : o.guard = none)
    (hh : ∀ w', RowS w' g (Ls.take m ++ L.drop m) → Only g w w' → wpList Tryd.prog ops Q rest (a.put o.dst (.int .i64 (m : Int))) w') : wpList Tryd.prog ops Q (o :: rest) a w := by
  refine wpList_plain hgd fun K hK => ?_
  have hmT : m ≤ Ls.length := by rw [← hM, ← hm]; exact Nat.min_le_left _ _
  have hTm : (Ls.take m).length = m := by rw [List.length_take, Nat.min_eq_left hmT]
  have hcut : ∀ j u, (flatS (Ls.take m))[j]? = some u → (flatS Ls)[j]? = some u := fun j u hj => by
    rw [← flatS_take hs.ok m hmT, List.getElem?_take] at hj
    split at hj
    · exact hj
    · cases hj
  obtain ⟨w', hrun, h2, h3⟩ := run_copyK w o.type g 0 N cap ⟨gs, 0, none⟩ M c L (Ls.take m) h (fun p h => hs.ok p (List.mem_of_mem_take h)) (fun p h => h1 p (List.mem_of_mem_take h)) (by omega) (by rw [hTm]; exact hm) (fun j u hj => by rw [Addr.add_mid, Nat.zero_add, hs.blk.cell]; exact hcut j u hj)
  rw [hTm] at hrun h2
  rw [Nat.zero_mul] at hrun
  rw [List.take_zero, List.nil_append, Nat.zero_add] at h2
  unfold Oper.wp execOp
  simp only [ho, resolve, invoke, builtin, Sem.run_bind, Sem.run_pure, Result.andThen_ok, List.map_toArray, List.map_cons, List.map_nil, hx, hy, hrun]
  exact hK _ _ (hh w' h2 h3)
/-- a cut of a row's last two -/
theorem drop2_op (f : Operand → Value) (o : Oper) (x lo : Operand) (ho : o.op = .slice 24 x (some lo) none none) (g k : Nat) (hx : f x = .slice (some ⟨g, 0, none⟩) (k + 2) (k + 2)) (hk : f lo = .int .i64 (k : Int)) (w : World) :
    (execOp f o).run Tryd.prog w = .ok (.value (.slice (some ⟨g, k * 98, none⟩) 2 2)) w := by
  have h := dropS_op f o x lo ho (some ⟨g, 0, none⟩) (k + 2) (k + 2) k hx hk (by omega) w
  have e : dropA (some ⟨g, 0, none⟩) k (k + 2) = some ⟨g, k * 98, none⟩ := by
    rw [dropA, if_neg (by omega), Option.map_some, Addr.add_mid, Nat.zero_add]
  rw [e, Nat.add_sub_cancel_left] at h
  exact h
theorem zeroL_drop (n k : Nat) : (zeroL n).drop k = zeroL (n - k) := by rw [zeroL, List.drop_replicate]; rfl
/-- a made row of texts -/
theorem Tryd.infosT : (Tryd.prog.info? 28).map (fun i => (i.zero, i.size, i.bytes)) = some (some (.slice none 0 0), 1, 24) := by kernel_rfl
def nilL (n : Nat) : List Value := List.replicate n (.slice none 0 0)
theorem len_nilL (n : Nat) : (nilL n).length = n := List.length_replicate
theorem madeT (n : Nat) : madeCells (Value.cells (.slice none 0 0)) (n * 1) = (nilL n).toArray := by
  apply Array.ext
  · rw [size_madeCells, List.size_toArray, len_nilL, Nat.mul_one]
  · intro j h1 h2
    have e2 : (nilL n).toArray[j] = .slice none 0 0 := by rw [List.getElem_toArray]; exact List.getElem_replicate _
    rw [e2]
    simp only [madeCells, Array.getElem_map, Array.getElem_range]
    have hz : j % (Value.cells (.slice none 0 0)).size = 0 := Nat.mod_one j
    rw [hz]
    rfl
theorem make_tx (f : Operand → Value) (o : Oper) (x y : Operand) (n : Nat) (hn : n ≤ 1000000) (ho : o.op = .makeSlice 64 x y) (hx : f x = .int .i64 (n : Int)) (hy : f y = .int .i64 (n : Int)) (w : World) :
    (execOp f o).run Tryd.prog w = .ok (.value (.slice (some ⟨w.heap.size, 0, none⟩) n n)) (w.alloc (.cells (nilL n).toArray 28)) := by
  obtain ⟨i0, hi, hz, hs, hby⟩ := info_parts Tryd.infosT
  have hr := run_make (P := Tryd.prog) w 64 28 i0 _ Tryd.underlying64 hi hz .i64 .i64 (n : Int) (n : Int) (by omega) (Int.le_refl _) (by rw [hby]; omega) (by omega)
  rw [Int.toNat_natCast, hs, madeT] at hr
  unfold execOp
  rw [ho]
  simp only [hx, hy, Sem.run_bind, hr, Result.andThen_ok, Sem.run_pure]
/-- the block g holds the texts xs, and room for n in all; the texts lie behind it -/
structure RowT (w : World) (g n : Nat) (us : List Value) (xs : List Bs) : Prop where
  blk : Blk w g (us ++ nilL (n - us.length)) 28
  good : GoodT w (g + 1) us xs
  le : us.length ≤ n
theorem RowT.next {w w' : World} {g n : Nat} {us : List Value} {xs : List Bs} (h : RowT w g n us xs) (hb : Below w.heap.size w w') : RowT w' g n us xs :=
  ⟨h.blk.below hb h.blk.lt, ⟨h.good.1, fun j u hj => (h.good.2 j u hj).same fun k hk => hb.block k ((h.good.2 j u hj).lt k hk)⟩, h.le⟩
theorem RowT.len {w : World} {g n : Nat} {us : List Value} {xs : List Bs} (h : RowT w g n us xs) : us.length = xs.length := h.good.1
theorem RowT.lt {w : World} {g n : Nat} {us : List Value} {xs : List Bs} (h : RowT w g n us xs) : g < w.heap.size := h.blk.lt
theorem RowT.put {w : World} {g n k : Nat} {us : List Value} {xs : List Bs} {u : Value} {t : Bs} (h : RowT w g n us xs) (hk : us.length = k) (hn : k < n) (hu : OwnB w (g + 1) u t) : RowT (w.setCell ⟨g, k, none⟩ u) g n (us ++ [u]) (xs ++ [t]) := by
  have o6 : Only g w (w.setCell ⟨g, k, none⟩ u) := Only.setCell (Only.refl g w) k _
  have up : ∀ x t, OwnB w (g + 1) x t → OwnB (w.setCell ⟨g, k, none⟩ u) (g + 1) x t := fun x t hx => hx.same fun j hj => o6.block j (by have := hx.own j hj; omega) (hx.lt j hj)
  refine ⟨?_, ⟨by rw [List.length_append, List.length_append, h.good.1]; rfl, fun j x hj => ?_⟩, by rw [List.length_append, List.length_singleton]; omega⟩
  · have h1 := h.blk.set k u
    have e : (us ++ nilL (n - us.length)).set k u = us ++ [u] ++ nilL (n - (us ++ [u]).length) := by
      rw [← hk, List.set_append_right _ _ (Nat.le_refl _), Nat.sub_self, List.length_append, List.length_singleton]
      obtain ⟨m, hm⟩ : ∃ m, n - us.length = m + 1 := ⟨n - us.length - 1, by omega⟩
      rw [hm, show n - (us.length + 1) = m by omega, nilL, List.replicate_succ, List.set_cons_zero, List.append_assoc]
      rfl
    rw [e] at h1
    exact h1
  · by_cases hjl : j < us.length
    · rw [List.getElem?_append_left hjl] at hj
      have h1 := h.good.2 j x hj
      have h2 : (xs ++ [t]).getD j [] = xs.getD j [] := by
        rw [List.getD_eq_getElem?_getD, List.getD_eq_getElem?_getD, List.getElem?_append_left (by rw [← h.good.1]; exact hjl)]
      rw [h2]
      exact up _ _ h1
    · rw [List.getElem?_append_right (by omega)] at hj
      have hj0 : j = us.length := by
        have := (List.getElem?_eq_some_iff.1 hj).1
        simp at this
        omega
      subst hj0
      simp at hj
      subst hj
      have h2 : (xs ++ [t]).getD us.length [] = t := by
        rw [List.getD_eq_getElem?_getD, h.good.1, List.getElem?_append_right (Nat.le_refl _), Nat.sub_self]
        rfl
      rw [h2]
      exact up _ _ hu
theorem RowT.readsL {w : World} {g n : Nat} {us : List Value} {xs : List Bs} (h : RowT w g n us xs) (hn : xs.length = n) : ReadsL w (.slice (some ⟨g, 0, none⟩) n n) xs := by
  refine ⟨some ⟨g, 0, none⟩, n, by rw [hn], by omega, (fun e => by cases e), fun _ => ⟨g, 0, rfl, fun j hj => ?_⟩⟩
  have hju : j < us.length := by rw [h.good.1]; exact hj
  refine ⟨us[j], ?_, (h.good.2 j us[j] (List.getElem?_eq_getElem hju)).reads⟩
  rw [h.blk.cell, Nat.zero_add, List.getElem?_append_left hju, List.getElem?_eq_getElem hju]
theorem wpSeq_makeT {ops : Array Oper} {Q : Exit → Act → World → Prop} {rest : List Oper} {o : Oper} {a : Act} {w : World} (x y : Operand) (n : Nat) (hn : n ≤ 1000000) (ho : o.op = .makeSlice 64 x y) (hx : a.eval x = .int .i64 (n : Int)) (hy : a.eval y = .int .i64 (n : Int)) (hw : Region.wanted o (yielded ops a.tmps) = true)
    (h : ∀ g w', w.heap.size ≤ g → RowT w' g n [] [] → Below w.heap.size w w' → wpList Tryd.prog ops Q rest (a.put o.dst (.slice (some ⟨g, 0, none⟩) n n)) w') : wpList Tryd.prog ops Q (o :: rest) a w :=
  wpSeq_val _ _ hw (make_tx _ o x y n hn ho hx hy w) (h _ _ (Nat.le_refl _) ⟨Blk.new _ _ _, ⟨rfl, fun j u hj => by simp at hj⟩, Nat.zero_le _⟩ (below_alloc _ _))
theorem wpSeq_storeT {ops : Array Oper} {Q : Exit → Act → World → Prop} {rest : List Oper} {o : Oper} {a : Act} {w : World} (x y : Operand) (g k : Nat) (cs : List Value) (ad : Option Addr) (n c : Nat) (hk : k < cs.length) (hb : Blk w g cs 28) (ho : o.op = .store 28 x y) (hx : a.eval x = .pointer (some ⟨g, k, none⟩)) (hy : a.eval y = .slice ad n c) (hw : Region.wanted o (yielded ops a.tmps) = true)
    (h : ∀ w', w' = w.setCell ⟨g, k, none⟩ (.slice ad n c) → wpList Tryd.prog ops Q rest (a.put o.dst undef) w') : wpList Tryd.prog ops Q (o :: rest) a w := by
  have hc : w.cell? ⟨g, k, none⟩ = some cs[k] := by rw [hb.cell, List.getElem?_eq_getElem hk]
  have hf : w.frozen? ⟨g, k, none⟩ = false := hb.frozen k
  have he : (execOp a.eval o).run Tryd.prog w = .ok .skip (w.setCell ⟨g, k, none⟩ (.slice ad n c)) := by
    clear h hw
    generalize a.eval = f at hx hy ⊢
    unfold execOp
    rw [ho]
    simp [go_sem, hx, hy, hc, hf]
  unfold wpList
  simp only [hw, if_true]
  left
  unfold Oper.wp
  rw [he, Oper.upon_skip]
  exact h _ rfl
/-- the signed roots L, room for n in all, in block g; their signatures lie behind it -/
structure RrI (y1 : World) (g n : Nat) (rs : List SgT) (L : List (SgT × Value)) (W : World) : Prop where
  bel : Below y1.heap.size y1 W
  row : RowS W g (L ++ zeroL (n - L.length))
  sg : ∀ p ∈ L, OwnB W (g + 1) p.2 p.1.2
  eq : L.map (·.1) = rs
  le : L.length ≤ n
  ge : y1.heap.size ≤ g
theorem RrI.next {y1 : World} {g n : Nat} {rs : List SgT} {L : List (SgT × Value)} {W W' : World} (h : RrI y1 g n rs L W) (hb : Below W.heap.size W W') : RrI y1 g n rs L W' :=
  ⟨h.bel.trans (hb.mono h.bel.size), h.row.below hb, fun p hp => (h.sg p hp).same fun k hk => hb.block k ((h.sg p hp).lt k hk), h.eq, h.le, h.ge⟩
theorem RrI.len {y1 : World} {g n : Nat} {rs : List SgT} {L : List (SgT × Value)} {W : World} (h : RrI y1 g n rs L W) : L.length = rs.length := by rw [← h.eq, List.length_map]
theorem RrI.room {y1 : World} {g n : Nat} {rs : List SgT} {L : List (SgT × Value)} {W : World} (h : RrI y1 g n rs L W) : (L ++ zeroL (n - L.length)).length = n := by
  rw [List.length_append, len_zeroL]
  have := h.le
  omega
theorem RrI.put {y1 : World} {g n k : Nat} {rs : List SgT} {L : List (SgT × Value)} {s : SgT} {sv : Value} {W W' : World} (h : RrI y1 g n rs L W) (hk : rs.length = k) (hn : k < n) (hs : OwnB W (g + 1) sv s.2) (hr : RowS W' g ((L ++ zeroL (n - L.length)).set k (s, sv))) (ho : Only g W W') : RrI y1 g n (rs ++ [s]) (L ++ [(s, sv)]) W' := by
  have hl := h.len
  have up : ∀ {v : Value} {l : Bs}, OwnB W (g + 1) v l → OwnB W' (g + 1) v l := fun {v l} hv => hv.same fun j hj => ho.block j (by have := hv.own j hj; omega) (hv.lt j hj)
  refine ⟨h.bel.trans (ho.below h.ge h.bel.size), ?_, fun p hp => ?_, by rw [List.map_append, h.eq]; rfl, by rw [List.length_append, List.length_singleton]; omega, h.ge⟩
  · have e : (L ++ zeroL (n - L.length)).set k (s, sv) = L ++ [(s, sv)] ++ zeroL (n - (L ++ [(s, sv)]).length) := by
      rw [← hk, ← hl, List.set_append_right _ _ (Nat.le_refl _), Nat.sub_self, List.length_append, List.length_singleton]
      obtain ⟨m, hm⟩ : ∃ m, n - L.length = m + 1 := ⟨n - L.length - 1, by omega⟩
      rw [hm, show n - (L.length + 1) = m by omega, zeroL, List.replicate_succ, List.set_cons_zero, List.append_assoc]
      rfl
    rw [e] at hr
    exact hr
  · rcases List.mem_append.1 hp with hp | hp
    · exact up (h.sg p hp)
    · rw [List.mem_singleton.1 hp]; exact up hs
theorem RrI.readsS {y1 : World} {g n : Nat} {rs : List SgT} {L : List (SgT × Value)} {W : World} (h : RrI y1 g n rs L W) (hn : rs.length = n) : ReadsS W (.slice (some ⟨g, 0, none⟩) n n) rs := by
  have hl := h.len
  have e0 : L ++ zeroL (n - L.length) = L := by rw [hl, hn, Nat.sub_self]; exact List.append_nil _
  have hr := h.row
  rw [e0] at hr
  have h2 := hr.readsS n (by omega) n (Nat.le_refl _) (fun p hp => (h.sg p (List.mem_of_mem_take hp)).reads)
  rw [List.take_of_length_le (by omega), h.eq] at h2
  exact h2
def zeroP : SgT × Value := (zeroS, .slice none 0 0)
theorem getD_map1 (L : List (SgT × Value)) (k : Nat) : (L.map (·.1)).getD k zeroS = (L.getD k zeroP).1 := by
  rw [List.getD_eq_getElem?_getD, List.getD_eq_getElem?_getD, List.getElem?_map]
  cases L[k]? <;> rfl
theorem getP_mem {L : List (SgT × Value)} {k : Nat} (hk : k < L.length) : L.getD k zeroP ∈ L ∧ L[k]? = some (L.getD k zeroP) := by
  have e : L.getD k zeroP = L[k] := by rw [List.getD_eq_getElem?_getD, List.getElem?_eq_getElem hk]; rfl
  rw [e]
  exact ⟨List.getElem_mem hk, List.getElem?_eq_getElem hk⟩
theorem evL_map (L : List (SgT × Value)) (n : Nat) (hn : L.length = n) : evL (L.map (·.1)) = ((L.take (n - 2)).map (·.1), (L.getD (n - 2) zeroP).1, (L.getD (n - 1) zeroP).1) := by
  rw [evL, List.length_map, hn, getD_map1, getD_map1, List.map_take]
/-- evidence made of such a row -/
theorem RrI.ev {y1 : World} {g n : Nat} {rs : List SgT} {L : List (SgT × Value)} {W W' : World} {g4 : Nat} (h : RrI y1 g n rs L W) (hn : rs.length = n) (h2 : 2 ≤ n) (up : ∀ {v : Value} {l : Bs}, OwnB W (g + 1) v l → OwnB W' (g + 1) v l) (hr : RowS W' g4 (L.take (n - 2))) :
    EvB W' (evL rs) (evC (evL rs) (.slice (some ⟨g4, 0, none⟩) (n - 2) (n - 2)) (L.getD (n - 2) zeroP).2 (L.getD (n - 1) zeroP).2) := by
  have hl : L.length = n := by rw [h.len, hn]
  have ok : ∀ p ∈ L, okS p.1 := fun p hp => h.row.ok p (List.mem_append.2 (Or.inl hp))
  have ma := (getP_mem (L := L) (k := n - 2) (by omega)).1
  have mb := (getP_mem (L := L) (k := n - 1) (by omega)).1
  rw [← h.eq, evL_map L n hl]
  refine EvIs.evB ⟨?_, (up (h.sg _ ma)).reads, (up (h.sg _ mb)).reads, ok _ ma, ok _ mb⟩
  have hlt : (L.take (n - 2)).length = n - 2 := by rw [List.length_take]; omega
  have h3 := hr.readsS (n - 2) (by omega) (n - 2) (Nat.le_refl _) (fun p hp => (up (h.sg p (List.mem_of_mem_take (List.mem_of_mem_take hp)))).reads)
  rw [List.take_of_length_le (by omega)] at h3
  exact h3
theorem readE_len (b : Bs) : (readE b).1.length < 1000000 := by
  unfold readE
  cases h : readF b with
  | none => show (0 : Nat) < _; decide
  | some e =>
    have h1 := ((readF_iff b e).1 h).1.1
    show e.1.length < _
    omega
theorem accept_read {pin b : Bs} (h : readX b = 0) : acceptF pin b = checkF pin (readE b) := by
  unfold readX at h
  unfold acceptF readE
  cases hr : readF b with
  | none => rw [hr] at h; cases h
  | some e => rfl
theorem accept_none {pin b : Bs} (h : readX b ≠ 0) : acceptF pin b = readX b := by
  unfold readX at h ⊢
  unfold acceptF
  cases hr : readF b with
  | none => rfl
  | some e => rw [hr] at h; exact absurd rfl h
/-- evidence whose memory is the call's own -/
def EvF (w0 w : World) (e : EvT) (cs : List Value) : Prop := ∀ W : World, (∀ j, w0.heap.size ≤ j → j < w.heap.size → W.heap[j]? = w.heap[j]?) → EvB W e cs
theorem EvF.evB {w0 w : World} {e : EvT} {cs : List Value} (h : EvF w0 w e cs) : EvB w e cs := h w fun _ _ _ => rfl
theorem RowS.same {w w' : World} {g : Nat} {L : List (SgT × Value)} (h : RowS w g L) (he : w'.heap[g]? = w.heap[g]?) : RowS w' g L := by
  refine ⟨?_, h.ok⟩
  have hb := h.blk
  unfold Blk at hb ⊢
  rw [he, hb]
theorem wpSeq_min12 {ops : Array Oper} {Q : Exit → Act → World → Prop} {rest : List Oper} {o : Oper} {a : Act} {w : World} (x y : Operand) (n m l : Nat) (hl : l = min n m) (ho : o.op = .call { callee := .builtin .min, args := #[x, y], argTypes := #[3, 3] }) (hx : a.eval x = .int .i64 (n : Int)) (hy : a.eval y = .int .i64 (m : Int)) (hw : Region.wanted o (yielded ops a.tmps) = true)
    (h : wpList Tryd.prog ops Q rest (a.put o.dst (.int .i64 (l : Int))) w) : wpList Tryd.prog ops Q (o :: rest) a w := by
  refine wpSeq_val _ w hw ?_ h
  clear h hw
  generalize a.eval = f at hx hy ⊢
  unfold execOp
  rw [ho]
  first
    | (simp [go_sem, hx, hy]; omega)
    | (simp [go_sem, hx, hy]; split <;> omega)
    | (by_cases hmn : m < n <;> simp [go_sem, hx, hy, hmn] <;> omega)
end Go.Proofs.YtableajopaappaaDoor
/- The walks of fork's next and Check (layer 12). -/
namespace Go.Proofs.YtableajopaappaaDoor
open Go.RowKit Go.Shelf
set_option maxRecDepth 100000
set_option maxRecDepth 100000 in
set_option maxHeartbeats 8000000 in
theorem fkNext_any (h : HdT) (s : SgT) (vs : Value) (w : World) (hK : KOk w) (oh : okH h) (os : okS s) (hr : Reads w vs s.2) :
    Calls Tryd.prog 29 #[.agg (hdC h).toArray, .agg (sgC s vs).toArray] w fun r w' => r = .returned (.bool (decide ((followR h s).2 = 0))) ∧ Below w.heap.size w w' := by
  obtain ⟨ch, HCH⟩ : ∃ c, Hid (c = hdC h) := ⟨_, rfl⟩
  obtain ⟨csg, HCS⟩ : ∃ c, Hid (c = sgC s vs) := ⟨_, rfl⟩
  obtain ⟨hf, HHF⟩ : ∃ c, Hid (c = (followR h s).1) := ⟨_, rfl⟩
  obtain ⟨ef, HEF⟩ : ∃ c, Hid (c = (followR h s).2) := ⟨_, rfl⟩
  have HOF : Hid (okH hf) := by rw [HHF.out]; exact follow_okH h s os
  have HIH : Hid ((Tryd.prog.info? 50).map (·.size) = some ch.length) := by show _ = _; rw [HCH.out]; exact info_hdC oh
  have HIS : Hid ((Tryd.prog.info? 30).map (·.size) = some csg.length) := by show _ = _; rw [HCS.out]; exact info_sgC os vs
  have HC : Hid (∀ W : World, Below w.heap.size w W → Calls Tryd.prog 44 #[.agg ch.toArray, .agg csg.toArray] W fun e w' => e = .returned (.tuple #[.agg (hdC hf).toArray, .int .i64 ef]) ∧ Below W.heap.size W w') := fun W hh => by rw [HCH.out, HCS.out, HHF.out, HEF.out]; exact chFollow_any h s vs W (hK.below hh hK.lt) oh os (hr.below hh)
  have HBW : Hid (Below w.heap.size w w) := Below.refl _ _
  rw [← HCH.out, ← HCS.out, ← HEF.out]
  clear hK oh os hr HHF HEF HCH HCS
  by_cases he : ef = 0
  · have q1 : (ef == 0) = true := by rw [beq_iff_eq]; exact he
    have HZ : Hid (decide (ef = 0) = true) := decide_eq_true he
    clear he
    go_enter Tryd.func29, Tryd.ntmps29
    have tk0 : Hid True := trivial
    have tk1 : Hid True := trivial
    have tk2 : Hid True := trivial
    have tk3 : Hid True := trivial
    have tk4 : Hid True := trivial
    have tk5 : Hid True := trivial
    have tk6 : Hid True := trivial
    go_wp2_with (first
      | (clear tk0; with_reducible refine wpSeq_boxW 50 (.tmp 0) ch ?_ ?_ ?_ ?_
         · rfl
         · rfl
         · rfl
         intro g2 y1 nn
         replace HBW : Hid (Below w.heap.size w y1) := HBW.out.trans (nn.below.mono HBW.out.size)
         have H2 : Hid (Blk y1 g2 ch 50) := nn.blk
         clear nn
         skip)
      | (clear tk1; with_reducible refine wpSeq_boxW 30 (.tmp 1) csg ?_ ?_ ?_ ?_
         · rfl
         · rfl
         · rfl
         intro g3 y2 nn
         replace H2 : Hid (Blk y2 g2 ch 50) := H2.out.below nn.below H2.out.lt
         replace HBW : Hid (Below w.heap.size w y2) := HBW.out.trans (nn.below.mono HBW.out.size)
         have H3 : Hid (Blk y2 g3 csg 30) := nn.blk
         clear nn
         skip)
      | (clear tk2; with_reducible refine wpSeq_loadW 50 (.tmp 2) g2 0 ch _ ?_ Tryd.underlying50 rfl ?_ ?_ ?_ ?_ ?_
         · exact H2.out.range
         · exact HIH.out
         · rfl
         · rfl
         · rfl)
      | (clear tk3; with_reducible refine wpSeq_loadW 30 (.tmp 3) g3 0 csg _ ?_ Tryd.underlying30 rfl ?_ ?_ ?_ ?_ ?_
         · exact H3.out.range
         · exact HIS.out
         · rfl
         · rfl
         · rfl)
      | (clear tk4; go_at_call 44; refine (HC.out y2 HBW.out).mono ?_; rintro e y3 ⟨rfl, hbz⟩
         replace H2 : Hid (Blk y3 g2 ch 50) := H2.out.below hbz H2.out.lt
         replace H3 : Hid (Blk y3 g3 csg 30) := H3.out.below hbz H3.out.lt
         replace HBW : Hid (Below w.heap.size w y3) := HBW.out.trans (hbz.mono HBW.out.size)
         clear hbz )
      | (clear tk5; with_reducible refine wpSeq_allocH ?_ ?_ ?_
         · rfl
         · rfl
         intro g5 y4 nn)
      | (clear tk6; with_reducible refine wpSeq_storeRow 50 (.tmp 5) (.tmp 11) g5 (hdC zeroH) (hdC hf) ?_ ?_ ?_ ?_ ?_ ?_ ?_ ?_ ?_
         · exact nn.blk
         · first | (with_reducible rfl) | rw [len_hdC HOF.out, len_hdC okH_zero]
         · exact info_hdC HOF.out
         · exact hdC_one _
         · rfl
         · rfl
         · rfl
         · rfl
         intro y5 hs
         have hbz := nn.below.trans (hs.only.below nn.ge nn.below.size)
         replace H2 : Hid (Blk y5 g2 ch 50) := H2.out.below hbz H2.out.lt
         replace H3 : Hid (Blk y5 g3 csg 30) := H3.out.below hbz H3.out.lt
         replace HBW : Hid (Below w.heap.size w y5) := HBW.out.trans (hbz.mono HBW.out.size)
         have H5 : Hid (Blk y5 g5 (hdC hf) 50) := hs.blk
         clear nn hs hbz))
    go_ret
    exact ⟨by rw [HZ.out]; rfl, HBW.out⟩
  · have q1 : (ef == 0) = false := by rw [beq_eq_false_iff_ne]; exact he
    have HZ : Hid (decide (ef = 0) = false) := decide_eq_false he
    clear he
    go_enter Tryd.func29, Tryd.ntmps29
    have tk0 : Hid True := trivial
    have tk1 : Hid True := trivial
    have tk2 : Hid True := trivial
    have tk3 : Hid True := trivial
    have tk4 : Hid True := trivial
    have tk5 : Hid True := trivial
    have tk6 : Hid True := trivial
    go_wp2_with (first
      | (clear tk0; with_reducible refine wpSeq_boxW 50 (.tmp 0) ch ?_ ?_ ?_ ?_
         · rfl
         · rfl
         · rfl
         intro g2 y1 nn
         replace HBW : Hid (Below w.heap.size w y1) := HBW.out.trans (nn.below.mono HBW.out.size)
         have H2 : Hid (Blk y1 g2 ch 50) := nn.blk
         clear nn
         skip)
      | (clear tk1; with_reducible refine wpSeq_boxW 30 (.tmp 1) csg ?_ ?_ ?_ ?_
         · rfl
         · rfl
         · rfl
         intro g3 y2 nn
         replace H2 : Hid (Blk y2 g2 ch 50) := H2.out.below nn.below H2.out.lt
         replace HBW : Hid (Below w.heap.size w y2) := HBW.out.trans (nn.below.mono HBW.out.size)
         have H3 : Hid (Blk y2 g3 csg 30) := nn.blk
         clear nn
         skip)
      | (clear tk2; with_reducible refine wpSeq_loadW 50 (.tmp 2) g2 0 ch _ ?_ Tryd.underlying50 rfl ?_ ?_ ?_ ?_ ?_
         · exact H2.out.range
         · exact HIH.out
         · rfl
         · rfl
         · rfl)
      | (clear tk3; with_reducible refine wpSeq_loadW 30 (.tmp 3) g3 0 csg _ ?_ Tryd.underlying30 rfl ?_ ?_ ?_ ?_ ?_
         · exact H3.out.range
         · exact HIS.out
         · rfl
         · rfl
         · rfl)
      | (clear tk4; go_at_call 44; refine (HC.out y2 HBW.out).mono ?_; rintro e y3 ⟨rfl, hbz⟩
         replace H2 : Hid (Blk y3 g2 ch 50) := H2.out.below hbz H2.out.lt
         replace H3 : Hid (Blk y3 g3 csg 30) := H3.out.below hbz H3.out.lt
         replace HBW : Hid (Below w.heap.size w y3) := HBW.out.trans (hbz.mono HBW.out.size)
         clear hbz )
      | (clear tk5; with_reducible refine wpSeq_allocH ?_ ?_ ?_
         · rfl
         · rfl
         intro g5 y4 nn)
      | (clear tk6; with_reducible refine wpSeq_storeRow 50 (.tmp 5) (.tmp 11) g5 (hdC zeroH) (hdC hf) ?_ ?_ ?_ ?_ ?_ ?_ ?_ ?_ ?_
         · exact nn.blk
         · first | (with_reducible rfl) | rw [len_hdC HOF.out, len_hdC okH_zero]
         · exact info_hdC HOF.out
         · exact hdC_one _
         · rfl
         · rfl
         · rfl
         · rfl
         intro y5 hs
         have hbz := nn.below.trans (hs.only.below nn.ge nn.below.size)
         replace H2 : Hid (Blk y5 g2 ch 50) := H2.out.below hbz H2.out.lt
         replace H3 : Hid (Blk y5 g3 csg 30) := H3.out.below hbz H3.out.lt
         replace HBW : Hid (Below w.heap.size w y5) := HBW.out.trans (hbz.mono HBW.out.size)
         have H5 : Hid (Blk y5 g5 (hdC hf) 50) := hs.blk
         clear nn hs hbz))
    go_ret
    exact ⟨by rw [HZ.out]; rfl, HBW.out⟩
set_option maxRecDepth 100000 in
set_option maxHeartbeats 8000000 in
theorem fkCheck_any (pin : List (BitVec 8)) (e : EvT) (cs : List Value) (w : World) (hK : KOk w) (hp : pin.length = 32) (hE : EvB w e cs) (hn : e.1.length < 1000000) :
    Calls Tryd.prog 11 #[.agg (cb pin).toArray, .agg cs.toArray] w fun r w' => r = .returned (.int .i64 (checkF pin e)) ∧ Below w.heap.size w w' := by
  obtain ⟨vt, va, vb, hcs, he⟩ := hE.open
  subst hcs
  obtain ⟨adt, ct, hvt⟩ := he.tr.form
  obtain ⟨ada, na, ca, hva⟩ := he.a.form
  obtain ⟨adb, nb, cc, hvb⟩ := he.b.form
  obtain ⟨nt, HNT⟩ : ∃ n, Hid (n = e.1.length) := ⟨_, rfl⟩
  rw [← HNT.out] at hvt
  subst hvt hva hvb
  obtain ⟨cev, HCE⟩ : ∃ c, Hid (c = evC e (.slice adt nt ct) (.slice ada na ca) (.slice adb nb cc)) := ⟨_, rfl⟩
  rw [← HCE.out]
  have HEV : Hid (EvIs w e (.slice adt nt ct) (.slice ada na ca) (.slice adb nb cc)) := he
  have HIE : Hid ((Tryd.prog.info? 32).map (·.size) = some cev.length) := by show _ = _; rw [HCE.out]; exact info_evC he.oa he.ob _ _ _
  have HAT : Hid (∀ (W : World) (g : Nat), Blk W g cev 32 → EvAt W g 0 e (.slice adt nt ct) (.slice ada na ca) (.slice adb nb cc)) := fun W g hg => by rw [HCE.out] at hg; exact hg.evAt HEV.out.oa HEV.out.ob
  obtain ⟨csa, HSA⟩ : ∃ c, Hid (c = sgC e.2.1 (.slice ada na ca)) := ⟨_, rfl⟩
  obtain ⟨csb, HSB⟩ : ∃ c, Hid (c = sgC e.2.2 (.slice adb nb cc)) := ⟨_, rfl⟩
  have HIS : Hid ((Tryd.prog.info? 30).map (·.size) = some csa.length ∧ (Tryd.prog.info? 30).map (·.size) = some csb.length) := by rw [HSA.out, HSB.out]; exact ⟨info_sgC HEV.out.oa _, info_sgC HEV.out.ob _⟩
  have HRG : Hid (∀ (W : World) (g : Nat), Blk W g cev 32 → W.rangeAt g 1 csa ∧ W.rangeAt g 99 csb) := fun W g hg => by rw [HSA.out, HSB.out]; have h := HAT.out W g hg; refine ⟨?_, ?_⟩; have := h.a.all; rwa [Nat.zero_add] at this; have := h.b.all; rwa [Nat.zero_add] at this
  clear he
  have HPL : Hid (pin.length = 32) := hp
  have HIP : Hid ((Tryd.prog.info? 23).map (·.size) = some (cb pin).length) := by show _ = _; rw [cb_len, hp]; exact info_digest
  have HN : Hid (e.1.length < 1000000) := hn
  have HBW : Hid (Below w.heap.size w w) := Below.refl _ _
  clear hn hp
  have HKW : Hid (∀ W : World, Below w.heap.size w W → KOk W) := fun W hh => hK.below hh hK.lt
  have HCS : Hid (∀ W : World, Calls Tryd.prog 24 #[.agg (cb pin).toArray] W fun r w' => r = .returned (.agg (hdC (0, zb32, pin)).toArray) ∧ Below W.heap.size W w') := fun W => chStart_any pin W HPL.out
  clear hK hE
  obtain ⟨h1, HH1⟩ : ∃ h, Hid (h = (walkR (stR pin) e.1).1) := ⟨_, rfl⟩
  obtain ⟨k1, HK1⟩ : ∃ h, Hid (h = ((walkR (stR pin) e.1).2.1 : Int)) := ⟨_, rfl⟩
  obtain ⟨a1, HA1⟩ : ∃ h, Hid (h = (walkR (stR pin) e.1).2.2) := ⟨_, rfl⟩
  have HO1 : Hid (okH h1) := by rw [HH1.out]; exact walk_okH _ _ (okH_mk rfl HPL.out (by decide)) HEV.out.tr.2
  obtain ⟨hA, HHA⟩ : ∃ h, Hid (h = (followR h1 e.2.1).1) := ⟨_, rfl⟩
  obtain ⟨eA, HEA⟩ : ∃ h, Hid (h = (followR h1 e.2.1).2) := ⟨_, rfl⟩
  obtain ⟨hB, HHB⟩ : ∃ h, Hid (h = (followR h1 e.2.2).1) := ⟨_, rfl⟩
  obtain ⟨eB, HEB⟩ : ∃ h, Hid (h = (followR h1 e.2.2).2) := ⟨_, rfl⟩
  have HOA : Hid (okH hA ∧ okH hB) := by rw [HHA.out, HHB.out]; exact ⟨follow_okH _ _ HEV.out.oa, follow_okH _ _ HEV.out.ob⟩
  obtain ⟨r, HRR⟩ : ∃ r, Hid (r = decide (e.2.1.1 = e.2.2.1)) := ⟨_, rfl⟩
  have HFR : Hid (checkF pin e = if a1 = 0 ∧ eA = 0 ∧ eB = 0 ∧ r = false then 0 else 15) := by
    show _ = _
    unfold checkF
    rw [HRR.out, HEA.out, HEB.out, HA1.out, HH1.out]
    simp only [ne_eq, decide_eq_false_iff_not]
  have HC1 : Hid (∀ W : World, Below w.heap.size w W → Calls Tryd.prog 23 #[.agg (hdC (0, zb32, pin)).toArray, .slice adt nt ct] W fun e w' => e = .returned (.tuple #[.agg (hdC h1).toArray, .int .i64 k1, .int .i64 a1]) ∧ Below W.heap.size W w') := fun W hh => by rw [HH1.out, HK1.out, HA1.out]; exact by rw [HNT.out]; exact chWalk_any _ _ _ W (fun W h s vs hK oh os hr => chFollow_any h s vs W hK oh os hr) (HKW.out W hh) (okH_mk rfl HPL.out (by decide)) (by rw [← HNT.out]; exact HEV.out.tr.below hh) HN.out
  have HC2 : Hid (∀ W : World, Below w.heap.size w W → Calls Tryd.prog 29 #[.agg (hdC h1).toArray, .agg csa.toArray] W fun e w' => e = .returned (.bool (decide (eA = 0))) ∧ Below W.heap.size W w') := fun W hh => by rw [HEA.out, HSA.out]; exact fkNext_any _ e.2.1 _ W (HKW.out W hh) HO1.out HEV.out.oa (HEV.out.a.below hh)
  have HC3 : Hid (∀ W : World, Below w.heap.size w W → Calls Tryd.prog 29 #[.agg (hdC h1).toArray, .agg csb.toArray] W fun e w' => e = .returned (.bool (decide (eB = 0))) ∧ Below W.heap.size W w') := fun W hh => by rw [HEB.out, HSB.out]; exact fkNext_any _ e.2.2 _ W (HKW.out W hh) HO1.out HEV.out.ob (HEV.out.b.below hh)
  obtain ⟨rta, HRTA⟩ : ∃ c, Hid (c = rtC e.2.1) := ⟨_, rfl⟩
  obtain ⟨rtb, HRTB⟩ : ∃ c, Hid (c = rtC e.2.2) := ⟨_, rfl⟩
  have HIR : Hid ((Tryd.prog.info? 27).map (·.size) = some rta.length ∧ (Tryd.prog.info? 27).map (·.size) = some rtb.length) := by rw [HRTA.out, HRTB.out]; exact ⟨info_rtC HEV.out.oa, info_rtC HEV.out.ob⟩
  have HRT : Hid (∀ (W : World) (g : Nat), Blk W g cev 32 → W.rangeAt g 1 rta ∧ W.rangeAt g 99 rtb) := fun W g hg => by rw [HRTA.out, HRTB.out]; have h := HAT.out W g hg; refine ⟨?_, ?_⟩; have := h.a.root; rwa [Nat.zero_add] at this; have := h.b.root; rwa [Nat.zero_add] at this
  have heq : ∀ wx : World, (Op.equalIn 10000 27 (.agg rta.toArray) (.agg rtb.toArray)).run Tryd.prog wx = .ok r wx := fun wx => by rw [HRTA.out, HRTB.out, HRR.out]; exact eq_rt _ _ HEV.out.oa HEV.out.ob wx
  clear HHA HEA HHB HEB HRR HA1 HK1 HH1 HRTA HRTB
  cases r with
  | true =>
    have HZ : Hid (checkF pin e = 15) := by show _ = _; rw [HFR.out, if_neg (fun k => by cases k.2.2.2)]
    go_enter Tryd.func11, Tryd.ntmps11
    have tk0 : Hid True := trivial
    have tk1 : Hid True := trivial
    have tk2 : Hid True := trivial
    have tk3 : Hid True := trivial
    go_wp2_with (first
      | (clear tk0; with_reducible refine wpSeq_boxW 23 (.tmp 0) (cb pin) ?_ ?_ ?_ ?_
         · rfl
         · rfl
         · rfl
         intro g2 y1 nn
         replace HBW : Hid (Below w.heap.size w y1) := HBW.out.trans (nn.below.mono HBW.out.size)
         have HG2 : Hid (Blk y1 g2 (cb pin) 23) := nn.blk
         clear nn
         skip)
      | (clear tk1; with_reducible refine wpSeq_boxW 32 (.tmp 1) cev ?_ ?_ ?_ ?_
         · rfl
         · rfl
         · rfl
         intro g3 y2 nn
         replace HG2 : Hid (Blk y2 g2 (cb pin) 23) := HG2.out.below nn.below HG2.out.lt
         replace HBW : Hid (Below w.heap.size w y2) := HBW.out.trans (nn.below.mono HBW.out.size)
         have HG3 : Hid (Blk y2 g3 cev 32) := nn.blk
         clear nn
         skip)
      | (clear tk2; with_reducible refine wpSeq_loadW 27 (.tmp 9) g3 1 rta _ ?_ Tryd.underlying27 rfl ?_ ?_ ?_ ?_ ?_
         · exact (HRT.out _ _ HG3.out).1
         · exact HIR.out.1
         · rfl
         · rfl
         · rfl)
      | (clear tk3; with_reducible refine wpSeq_loadW 27 (.tmp 12) g3 99 rtb _ ?_ Tryd.underlying27 rfl ?_ ?_ ?_ ?_ ?_
         · exact (HRT.out _ _ HG3.out).2
         · exact HIR.out.2
         · rfl
         · rfl
         · rfl))
    go_ret
    exact ⟨by rw [HZ.out]; rfl, HBW.out⟩
  | false =>
    go_enter Tryd.func11, Tryd.ntmps11
    have tk0 : Hid True := trivial
    have tk1 : Hid True := trivial
    have tk2 : Hid True := trivial
    have tk3 : Hid True := trivial
    go_upto_region 3 with (first
      | (clear tk0; with_reducible refine wpSeq_boxW 23 (.tmp 0) (cb pin) ?_ ?_ ?_ ?_
         · rfl
         · rfl
         · rfl
         intro g2 y1 nn
         replace HBW : Hid (Below w.heap.size w y1) := HBW.out.trans (nn.below.mono HBW.out.size)
         have HG2 : Hid (Blk y1 g2 (cb pin) 23) := nn.blk
         clear nn
         skip)
      | (clear tk1; with_reducible refine wpSeq_boxW 32 (.tmp 1) cev ?_ ?_ ?_ ?_
         · rfl
         · rfl
         · rfl
         intro g3 y2 nn
         replace HG2 : Hid (Blk y2 g2 (cb pin) 23) := HG2.out.below nn.below HG2.out.lt
         replace HBW : Hid (Below w.heap.size w y2) := HBW.out.trans (nn.below.mono HBW.out.size)
         have HG3 : Hid (Blk y2 g3 cev 32) := nn.blk
         clear nn
         skip)
      | (clear tk2; with_reducible refine wpSeq_loadW 27 (.tmp 9) g3 1 rta _ ?_ Tryd.underlying27 rfl ?_ ?_ ?_ ?_ ?_
         · exact (HRT.out _ _ HG3.out).1
         · exact HIR.out.1
         · rfl
         · rfl
         · rfl)
      | (clear tk3; with_reducible refine wpSeq_loadW 27 (.tmp 12) g3 99 rtb _ ?_ Tryd.underlying27 rfl ?_ ?_ ?_ ?_ ?_
         · exact (HRT.out _ _ HG3.out).2
         · exact HIR.out.2
         · rfl
         · rfl
         · rfl))
    go_cut [5, 6, 7] from 8 to 39 (fun a b c W => ∃ g5, a = .pointer (some ⟨g5, 0, none⟩) ∧ b = .int .i64 k1 ∧ c = .int .i64 a1 ∧ Blk W g5 (hdC h1) 50 ∧ Blk W g3 cev 32 ∧ Below w.heap.size w W)
    case first =>
      refine wp_region_held_drew (S := Over (World.drew y2)) (by kernel_rfl) (Over.refl _) ?_
      intro hS
      replace HG2 : Hid (Blk (World.drew y2) g2 (cb pin) 23) := HG2.out.drew
      replace HG3 : Hid (Blk (World.drew y2) g3 cev 32) := HG3.out.drew
      replace HBW : Hid (Below w.heap.size w (World.drew y2)) := HBW.out.drew
      change wpAnyH _ _ _ _ _ _ _ _ (World.drew y2)
      generalize World.drew y2 = y0 at *
      try simp only [Act.put, List.setIfInBounds_toArray, List.set_cons_zero, List.set_cons_succ]
      refine wpAnyH_take (i := 0) (v := .agg (cb pin).toArray) rfl (by kernel_rfl) (by kernel_rfl) (by kernel_rfl) (fun _ _ _ h => h) (Or.inl ⟨by rfl, fun wx hx => by exact loadDigest _ g2 pin HPL.out (HG2.out.below hx HG2.out.lt) rfl rfl⟩) hS ?_
      simp only [Act.put, List.getElem_toArray, List.getElem_cons_zero, List.setIfInBounds_toArray, List.set_cons_zero, List.set_cons_succ]
      refine wpAnyH_take (i := 2) (v := .pointer (some ⟨g3, 0, none⟩)) rfl (by kernel_rfl) (by kernel_rfl) (by kernel_rfl) (fun _ _ _ h => h) (Or.inl ⟨by rfl, fun wx hx => by simp [go_sem]⟩) hS ?_
      simp only [Act.put, List.getElem_toArray, List.getElem_cons_succ, List.getElem_cons_zero, List.setIfInBounds_toArray, List.set_cons_zero, List.set_cons_succ]
      refine wpAnyH_take (i := 3) (v := .slice adt nt ct) rfl (by kernel_rfl) (by kernel_rfl) (by kernel_rfl) (fun _ _ _ h => h) (Or.inl ⟨by rfl, fun wx hx => by (have hc : wx.cell? ⟨g3, 0, none⟩ = some (.slice adt nt ct) := (HAT.out _ _ (HG3.out.below hx HG3.out.lt)).tr); simp [go_sem, hc]⟩) hS ?_
      simp only [Act.put, List.getElem_toArray, List.getElem_cons_succ, List.getElem_cons_zero, List.setIfInBounds_toArray, List.set_cons_zero, List.set_cons_succ]
      refine wpAnyH_pair 1 9 (by kernel_rfl) ?_ ?_
      · refine wpOp_en 1 (by rfl) (by rfl) (f := 24) (args := #[.agg (cb pin).toArray]) (by simp [go_sem]) (HCS.out _) ?_
        rintro e z1 ⟨rfl, hb⟩
        replace hS := Over.more hS hb
        refine ⟨_, rfl, hS, ?_⟩
        clear hb
        simp only [Act.put, List.getElem_toArray, List.getElem_cons_succ, List.getElem_cons_zero, List.setIfInBounds_toArray, List.set_cons_zero, List.set_cons_succ]
        refine wpAnyH_pair 4 9 (by kernel_rfl) ?_ ?_
        · refine wpOp_en 4 (by rfl) (by rfl) (f := 23) (args := #[.agg (hdC (0, zb32, pin)).toArray, .slice adt nt ct]) (by simp [go_sem]) (HC1.out _ (HBW.out.trans (Below.mono hS HBW.out.size))) ?_
          rintro e z2 ⟨rfl, hb⟩
          replace hS := Over.more hS hb
          refine ⟨_, rfl, hS, ?_⟩
          clear hb
          simp only [Act.put, List.getElem_toArray, List.getElem_cons_succ, List.getElem_cons_zero, List.setIfInBounds_toArray, List.set_cons_zero, List.set_cons_succ]
          refine wpAnyH_take (i := 5) (v := .tuple #[.agg (hdC h1).toArray, .int .i64 k1, .int .i64 a1]) rfl (by kernel_rfl) (by kernel_rfl) (by kernel_rfl) (fun _ _ _ h => h) (Or.inl ⟨by rfl, fun wx hx => by simp [go_sem]⟩) hS ?_
          simp only [Act.put, List.getElem_toArray, List.getElem_cons_succ, List.getElem_cons_zero, List.setIfInBounds_toArray, List.set_cons_zero, List.set_cons_succ]
          refine wpAnyH_take (i := 6) (v := .agg (hdC h1).toArray) rfl (by kernel_rfl) (by kernel_rfl) (by kernel_rfl) (fun _ _ _ h => h) (Or.inl ⟨by rfl, fun wx hx => by simp [go_sem]⟩) hS ?_
          simp only [Act.put, List.getElem_toArray, List.getElem_cons_succ, List.getElem_cons_zero, List.setIfInBounds_toArray, List.set_cons_zero, List.set_cons_succ]
          refine wpAnyH_take (i := 7) (v := .int .i64 k1) rfl (by kernel_rfl) (by kernel_rfl) (by kernel_rfl) (fun _ _ _ h => h) (Or.inl ⟨by rfl, fun wx hx => by simp [go_sem]⟩) hS ?_
          simp only [Act.put, List.getElem_toArray, List.getElem_cons_succ, List.getElem_cons_zero, List.setIfInBounds_toArray, List.set_cons_zero, List.set_cons_succ]
          refine wpAnyH_take (i := 8) (v := .int .i64 a1) rfl (by kernel_rfl) (by kernel_rfl) (by kernel_rfl) (fun _ _ _ h => h) (Or.inl ⟨by rfl, fun wx hx => by simp [go_sem]⟩) hS ?_
          simp only [Act.put, List.getElem_toArray, List.getElem_cons_succ, List.getElem_cons_zero, List.setIfInBounds_toArray, List.set_cons_zero, List.set_cons_succ]
          have hb := below_alloc z2 (.cells (hdC zeroH).toArray 50)
          have hba : Blk (z2.alloc (.cells (hdC zeroH).toArray 50)) z2.heap.size (hdC zeroH) 50 := Blk.new _ _ _
          have hsz : y0.heap.size ≤ z2.heap.size := Below.size hS
          replace hS := Over.more hS hb
          refine wpAnyH_step 9 (.pointer (some ⟨z2.heap.size, 0, none⟩)) (z2.alloc (.cells (hdC zeroH).toArray 50)) (by kernel_rfl) rfl (by rfl) (alloc_hd _ _ rfl _) hS ?_
          simp only [Act.put, List.getElem_toArray, List.getElem_cons_succ, List.getElem_cons_zero, List.setIfInBounds_toArray, List.set_cons_zero, List.set_cons_succ]
          clear hb
          generalize z2.alloc (.cells (hdC zeroH).toArray 50) = z3 at *
          obtain ⟨ga, HGA⟩ : ∃ z, Hid (z = z2.heap.size) := ⟨_, rfl⟩
          have hgw : y0.heap.size ≤ ga := by rw [HGA.out]; exact hsz
          rw [← HGA.out] at hba ⊢
          clear HGA hsz
          refine wpAnyH_storeRow 10 50 (.tmp 5) (.tmp 21) ga (hdC zeroH) (hdC h1) hba (by rw [len_hdC HO1.out, len_hdC okH_zero]) (info_hdC HO1.out) (hdC_one _) (by kernel_rfl) rfl (by rfl) rfl rfl rfl ?_
          intro yE hs
          replace hS : Over y0 yE := Below.trans hS (hs.only.below hgw (Below.size hS))
          refine ⟨hS, ?_⟩
          simp only [Act.put, List.getElem_toArray, List.getElem_cons_succ, List.getElem_cons_zero]
          refine wpAnyH_take (i := 11) (v := .int .i64 k1) rfl (by kernel_rfl) (by kernel_rfl) (by kernel_rfl) (fun _ _ _ h => h) (Or.inl ⟨by rfl, fun wx hx => by simp [go_sem]⟩) hS ?_
          simp only [Act.put, List.getElem_toArray, List.getElem_cons_succ, List.getElem_cons_zero, List.setIfInBounds_toArray, List.set_cons_zero, List.set_cons_succ]
          refine wpAnyH_take (i := 12) (v := .int .i64 a1) rfl (by kernel_rfl) (by kernel_rfl) (by kernel_rfl) (fun _ _ _ h => h) (Or.inl ⟨by rfl, fun wx hx => by simp [go_sem]⟩) hS ?_
          simp only [Act.put, List.getElem_toArray, List.getElem_cons_succ, List.getElem_cons_zero, List.setIfInBounds_toArray, List.set_cons_zero, List.set_cons_succ]
          refine wpAnyH_done (by kernel_rfl) ?_ _
          go_wp2
          go_meet
          case rel => exact ⟨ga, rfl, rfl, rfl, hs.blk, HG3.out.below hS HG3.out.lt, HBW.out.trans (Below.mono hS HBW.out.size)⟩
        · have hb := below_alloc z1 (.cells (hdC zeroH).toArray 50)
          have hba : Blk (z1.alloc (.cells (hdC zeroH).toArray 50)) z1.heap.size (hdC zeroH) 50 := Blk.new _ _ _
          have hsz : y0.heap.size ≤ z1.heap.size := Below.size hS
          replace hS := Over.more hS hb
          refine wpOp_vl 9 (.pointer (some ⟨z1.heap.size, 0, none⟩)) (z1.alloc (.cells (hdC zeroH).toArray 50)) (by rfl) (by rfl) (alloc_hd _ _ rfl _) ⟨hS, ?_⟩
          simp only [Act.put, List.getElem_toArray, List.getElem_cons_succ, List.getElem_cons_zero, List.setIfInBounds_toArray, List.set_cons_zero, List.set_cons_succ]
          clear hb
          generalize z1.alloc (.cells (hdC zeroH).toArray 50) = z4 at *
          obtain ⟨ga, HGA⟩ : ∃ z, Hid (z = z1.heap.size) := ⟨_, rfl⟩
          have hgw : y0.heap.size ≤ ga := by rw [HGA.out]; exact hsz
          rw [← HGA.out] at hba ⊢
          clear HGA hsz
          refine wpAnyH_enter 4 (by kernel_rfl) rfl (by rfl) (f := 23) (args := #[.agg (hdC (0, zb32, pin)).toArray, .slice adt nt ct]) (by simp [go_sem]) (HC1.out _ (HBW.out.trans (Below.mono hS HBW.out.size))) ?_
          rintro e z5 ⟨rfl, hb⟩
          replace hS := Over.more hS hb
          replace hba := hba.below hb hba.lt
          refine ⟨_, rfl, hS, ?_⟩
          clear hb
          simp only [Act.put, List.getElem_toArray, List.getElem_cons_succ, List.getElem_cons_zero, List.setIfInBounds_toArray, List.set_cons_zero, List.set_cons_succ]
          refine wpAnyH_take (i := 5) (v := .tuple #[.agg (hdC h1).toArray, .int .i64 k1, .int .i64 a1]) rfl (by kernel_rfl) (by kernel_rfl) (by kernel_rfl) (fun _ _ _ h => h) (Or.inl ⟨by rfl, fun wx hx => by simp [go_sem]⟩) hS ?_
          simp only [Act.put, List.getElem_toArray, List.getElem_cons_succ, List.getElem_cons_zero, List.setIfInBounds_toArray, List.set_cons_zero, List.set_cons_succ]
          refine wpAnyH_take (i := 6) (v := .agg (hdC h1).toArray) rfl (by kernel_rfl) (by kernel_rfl) (by kernel_rfl) (fun _ _ _ h => h) (Or.inl ⟨by rfl, fun wx hx => by simp [go_sem]⟩) hS ?_
          simp only [Act.put, List.getElem_toArray, List.getElem_cons_succ, List.getElem_cons_zero, List.setIfInBounds_toArray, List.set_cons_zero, List.set_cons_succ]
          refine wpAnyH_take (i := 7) (v := .int .i64 k1) rfl (by kernel_rfl) (by kernel_rfl) (by kernel_rfl) (fun _ _ _ h => h) (Or.inl ⟨by rfl, fun wx hx => by simp [go_sem]⟩) hS ?_
          simp only [Act.put, List.getElem_toArray, List.getElem_cons_succ, List.getElem_cons_zero, List.setIfInBounds_toArray, List.set_cons_zero, List.set_cons_succ]
          refine wpAnyH_take (i := 8) (v := .int .i64 a1) rfl (by kernel_rfl) (by kernel_rfl) (by kernel_rfl) (fun _ _ _ h => h) (Or.inl ⟨by rfl, fun wx hx => by simp [go_sem]⟩) hS ?_
          simp only [Act.put, List.getElem_toArray, List.getElem_cons_succ, List.getElem_cons_zero, List.setIfInBounds_toArray, List.set_cons_zero, List.set_cons_succ]
          refine wpAnyH_storeRow 10 50 (.tmp 5) (.tmp 21) ga (hdC zeroH) (hdC h1) hba (by rw [len_hdC HO1.out, len_hdC okH_zero]) (info_hdC HO1.out) (hdC_one _) (by kernel_rfl) rfl (by rfl) rfl rfl rfl ?_
          intro yE hs
          replace hS : Over y0 yE := Below.trans hS (hs.only.below hgw (Below.size hS))
          refine ⟨hS, ?_⟩
          simp only [Act.put, List.getElem_toArray, List.getElem_cons_succ, List.getElem_cons_zero]
          refine wpAnyH_take (i := 11) (v := .int .i64 k1) rfl (by kernel_rfl) (by kernel_rfl) (by kernel_rfl) (fun _ _ _ h => h) (Or.inl ⟨by rfl, fun wx hx => by simp [go_sem]⟩) hS ?_
          simp only [Act.put, List.getElem_toArray, List.getElem_cons_succ, List.getElem_cons_zero, List.setIfInBounds_toArray, List.set_cons_zero, List.set_cons_succ]
          refine wpAnyH_take (i := 12) (v := .int .i64 a1) rfl (by kernel_rfl) (by kernel_rfl) (by kernel_rfl) (fun _ _ _ h => h) (Or.inl ⟨by rfl, fun wx hx => by simp [go_sem]⟩) hS ?_
          simp only [Act.put, List.getElem_toArray, List.getElem_cons_succ, List.getElem_cons_zero, List.setIfInBounds_toArray, List.set_cons_zero, List.set_cons_succ]
          refine wpAnyH_done (by kernel_rfl) ?_ _
          go_wp2
          go_meet
          case rel => exact ⟨ga, rfl, rfl, rfl, hs.blk, HG3.out.below hS HG3.out.lt, HBW.out.trans (Below.mono hS HBW.out.size)⟩
      · have hb := below_alloc y0 (.cells (hdC zeroH).toArray 50)
        have hba : Blk (y0.alloc (.cells (hdC zeroH).toArray 50)) y0.heap.size (hdC zeroH) 50 := Blk.new _ _ _
        have hsz : y0.heap.size ≤ y0.heap.size := Below.size hS
        replace hS := Over.more hS hb
        refine wpOp_vl 9 (.pointer (some ⟨y0.heap.size, 0, none⟩)) (y0.alloc (.cells (hdC zeroH).toArray 50)) (by rfl) (by rfl) (alloc_hd _ _ rfl _) ⟨hS, ?_⟩
        simp only [Act.put, List.getElem_toArray, List.getElem_cons_succ, List.getElem_cons_zero, List.setIfInBounds_toArray, List.set_cons_zero, List.set_cons_succ]
        clear hb
        generalize y0.alloc (.cells (hdC zeroH).toArray 50) = z6 at *
        obtain ⟨ga, HGA⟩ : ∃ z, Hid (z = y0.heap.size) := ⟨_, rfl⟩
        have hgw : y0.heap.size ≤ ga := by rw [HGA.out]; exact hsz
        rw [← HGA.out] at hba ⊢
        clear HGA hsz
        refine wpAnyH_enter 1 (by kernel_rfl) rfl (by rfl) (f := 24) (args := #[.agg (cb pin).toArray]) (by simp [go_sem]) (HCS.out _) ?_
        rintro e z7 ⟨rfl, hb⟩
        replace hS := Over.more hS hb
        replace hba := hba.below hb hba.lt
        refine ⟨_, rfl, hS, ?_⟩
        clear hb
        simp only [Act.put, List.getElem_toArray, List.getElem_cons_succ, List.getElem_cons_zero, List.setIfInBounds_toArray, List.set_cons_zero, List.set_cons_succ]
        refine wpAnyH_enter 4 (by kernel_rfl) rfl (by rfl) (f := 23) (args := #[.agg (hdC (0, zb32, pin)).toArray, .slice adt nt ct]) (by simp [go_sem]) (HC1.out _ (HBW.out.trans (Below.mono hS HBW.out.size))) ?_
        rintro e z8 ⟨rfl, hb⟩
        replace hS := Over.more hS hb
        replace hba := hba.below hb hba.lt
        refine ⟨_, rfl, hS, ?_⟩
        clear hb
        simp only [Act.put, List.getElem_toArray, List.getElem_cons_succ, List.getElem_cons_zero, List.setIfInBounds_toArray, List.set_cons_zero, List.set_cons_succ]
        refine wpAnyH_take (i := 5) (v := .tuple #[.agg (hdC h1).toArray, .int .i64 k1, .int .i64 a1]) rfl (by kernel_rfl) (by kernel_rfl) (by kernel_rfl) (fun _ _ _ h => h) (Or.inl ⟨by rfl, fun wx hx => by simp [go_sem]⟩) hS ?_
        simp only [Act.put, List.getElem_toArray, List.getElem_cons_succ, List.getElem_cons_zero, List.setIfInBounds_toArray, List.set_cons_zero, List.set_cons_succ]
        refine wpAnyH_take (i := 6) (v := .agg (hdC h1).toArray) rfl (by kernel_rfl) (by kernel_rfl) (by kernel_rfl) (fun _ _ _ h => h) (Or.inl ⟨by rfl, fun wx hx => by simp [go_sem]⟩) hS ?_
        simp only [Act.put, List.getElem_toArray, List.getElem_cons_succ, List.getElem_cons_zero, List.setIfInBounds_toArray, List.set_cons_zero, List.set_cons_succ]
        refine wpAnyH_take (i := 7) (v := .int .i64 k1) rfl (by kernel_rfl) (by kernel_rfl) (by kernel_rfl) (fun _ _ _ h => h) (Or.inl ⟨by rfl, fun wx hx => by simp [go_sem]⟩) hS ?_
        simp only [Act.put, List.getElem_toArray, List.getElem_cons_succ, List.getElem_cons_zero, List.setIfInBounds_toArray, List.set_cons_zero, List.set_cons_succ]
        refine wpAnyH_take (i := 8) (v := .int .i64 a1) rfl (by kernel_rfl) (by kernel_rfl) (by kernel_rfl) (fun _ _ _ h => h) (Or.inl ⟨by rfl, fun wx hx => by simp [go_sem]⟩) hS ?_
        simp only [Act.put, List.getElem_toArray, List.getElem_cons_succ, List.getElem_cons_zero, List.setIfInBounds_toArray, List.set_cons_zero, List.set_cons_succ]
        refine wpAnyH_storeRow 10 50 (.tmp 5) (.tmp 21) ga (hdC zeroH) (hdC h1) hba (by rw [len_hdC HO1.out, len_hdC okH_zero]) (info_hdC HO1.out) (hdC_one _) (by kernel_rfl) rfl (by rfl) rfl rfl rfl ?_
        intro yE hs
        replace hS : Over y0 yE := Below.trans hS (hs.only.below hgw (Below.size hS))
        refine ⟨hS, ?_⟩
        simp only [Act.put, List.getElem_toArray, List.getElem_cons_succ, List.getElem_cons_zero]
        refine wpAnyH_take (i := 11) (v := .int .i64 k1) rfl (by kernel_rfl) (by kernel_rfl) (by kernel_rfl) (fun _ _ _ h => h) (Or.inl ⟨by rfl, fun wx hx => by simp [go_sem]⟩) hS ?_
        simp only [Act.put, List.getElem_toArray, List.getElem_cons_succ, List.getElem_cons_zero, List.setIfInBounds_toArray, List.set_cons_zero, List.set_cons_succ]
        refine wpAnyH_take (i := 12) (v := .int .i64 a1) rfl (by kernel_rfl) (by kernel_rfl) (by kernel_rfl) (fun _ _ _ h => h) (Or.inl ⟨by rfl, fun wx hx => by simp [go_sem]⟩) hS ?_
        simp only [Act.put, List.getElem_toArray, List.getElem_cons_succ, List.getElem_cons_zero, List.setIfInBounds_toArray, List.set_cons_zero, List.set_cons_succ]
        refine wpAnyH_done (by kernel_rfl) ?_ _
        go_wp2
        go_meet
        case rel => exact ⟨ga, rfl, rfl, rfl, hs.blk, HG3.out.below hS HG3.out.lt, HBW.out.trans (Below.mono hS HBW.out.size)⟩
    case rest =>
      obtain ⟨g5, rfl, rfl, rfl, hb5, hb3, hbw⟩ := hcut
      have H5 : Hid (Blk wc g5 (hdC h1) 50) := hb5
      replace HG3 : Hid (Blk wc g3 cev 32) := hb3
      replace HBW : Hid (Below w.heap.size w wc) := hbw
      clear hb5 hb3 hbw HG2
      by_cases ha1 : a1 = 0
      case neg =>
        have qa1 : (a1 == 0) = false := by rw [beq_eq_false_iff_ne]; exact ha1
        have pa1 : (a1 != 0) = true := by rw [bne, qa1]; rfl
        have HZ : Hid (checkF pin e = 15) := by show _ = _; rw [HFR.out, if_neg (fun k => ha1 k.1)]
        clear ha1
        go_wp2
        go_ret
        exact ⟨by rw [HZ.out]; rfl, HBW.out⟩
      case pos =>
        have qa1 : (a1 == 0) = true := by rw [beq_iff_eq]; exact ha1
        have pa1 : (a1 != 0) = false := by rw [bne, qa1]; rfl
        by_cases heA : eA = 0
        case neg =>
          have DA : Hid (decide (eA = 0) = false) := decide_eq_false heA
          have HZ : Hid (checkF pin e = 15) := by show _ = _; rw [HFR.out, if_neg (fun k => heA k.2.1)]
          clear ha1 heA
          have tk40 : Hid True := trivial
          have tk41 : Hid True := trivial
          have tk42 : Hid True := trivial
          go_wp2_with (first
            | (clear tk40; with_reducible refine wpSeq_loadW 50 (.tmp 5) g5 0 (hdC h1) _ ?_ Tryd.underlying50 rfl ?_ ?_ ?_ ?_ ?_
               · exact H5.out.range
               · exact (info_hdC HO1.out)
               · rfl
               · rfl
               · rfl)
            | (clear tk41; with_reducible refine wpSeq_loadW 30 (.tmp 28) g3 1 csa _ ?_ Tryd.underlying30 rfl ?_ ?_ ?_ ?_ ?_
               · exact (HRG.out _ _ HG3.out).1
               · exact HIS.out.1
               · rfl
               · rfl
               · rfl)
            | (clear tk42; go_at_call 29; refine (HC2.out wc HBW.out).mono ?_; rintro e y41 ⟨rfl, hbz⟩
               replace H5 : Hid (Blk y41 g5 (hdC h1) 50) := H5.out.below hbz H5.out.lt
               replace HG3 : Hid (Blk y41 g3 cev 32) := HG3.out.below hbz HG3.out.lt
               replace HBW : Hid (Below w.heap.size w y41) := HBW.out.trans (hbz.mono HBW.out.size)
               rw [DA.out]
               clear hbz ))
          go_ret
          exact ⟨by rw [HZ.out]; rfl, HBW.out⟩
        case pos =>
          have DA : Hid (decide (eA = 0) = true) := decide_eq_true heA
          by_cases heB : eB = 0
          case neg =>
            have DB : Hid (decide (eB = 0) = false) := decide_eq_false heB
            have HZ : Hid (checkF pin e = 15) := by show _ = _; rw [HFR.out, if_neg (fun k => heB k.2.2.1)]
            clear ha1 heA heB
            have tk40 : Hid True := trivial
            have tk41 : Hid True := trivial
            have tk42 : Hid True := trivial
            have tk43 : Hid True := trivial
            have tk44 : Hid True := trivial
            have tk45 : Hid True := trivial
            go_wp2_with (first
              | (clear tk40; with_reducible refine wpSeq_loadW 50 (.tmp 5) g5 0 (hdC h1) _ ?_ Tryd.underlying50 rfl ?_ ?_ ?_ ?_ ?_
                 · exact H5.out.range
                 · exact (info_hdC HO1.out)
                 · rfl
                 · rfl
                 · rfl)
              | (clear tk41; with_reducible refine wpSeq_loadW 30 (.tmp 28) g3 1 csa _ ?_ Tryd.underlying30 rfl ?_ ?_ ?_ ?_ ?_
                 · exact (HRG.out _ _ HG3.out).1
                 · exact HIS.out.1
                 · rfl
                 · rfl
                 · rfl)
              | (clear tk42; go_at_call 29; refine (HC2.out wc HBW.out).mono ?_; rintro e y41 ⟨rfl, hbz⟩
                 replace H5 : Hid (Blk y41 g5 (hdC h1) 50) := H5.out.below hbz H5.out.lt
                 replace HG3 : Hid (Blk y41 g3 cev 32) := HG3.out.below hbz HG3.out.lt
                 replace HBW : Hid (Below w.heap.size w y41) := HBW.out.trans (hbz.mono HBW.out.size)
                 rw [DA.out]
                 clear hbz )
              | (clear tk43; with_reducible refine wpSeq_loadW 50 (.tmp 5) g5 0 (hdC h1) _ ?_ Tryd.underlying50 rfl ?_ ?_ ?_ ?_ ?_
                 · exact H5.out.range
                 · exact (info_hdC HO1.out)
                 · rfl
                 · rfl
                 · rfl)
              | (clear tk44; with_reducible refine wpSeq_loadW 30 (.tmp 35) g3 99 csb _ ?_ Tryd.underlying30 rfl ?_ ?_ ?_ ?_ ?_
                 · exact (HRG.out _ _ HG3.out).2
                 · exact HIS.out.2
                 · rfl
                 · rfl
                 · rfl)
              | (clear tk45; go_at_call 29; refine (HC3.out y41 HBW.out).mono ?_; rintro e y42 ⟨rfl, hbz⟩
                 replace H5 : Hid (Blk y42 g5 (hdC h1) 50) := H5.out.below hbz H5.out.lt
                 replace HG3 : Hid (Blk y42 g3 cev 32) := HG3.out.below hbz HG3.out.lt
                 replace HBW : Hid (Below w.heap.size w y42) := HBW.out.trans (hbz.mono HBW.out.size)
                 rw [DB.out]
                 clear hbz ))
            go_ret
            exact ⟨by rw [HZ.out]; rfl, HBW.out⟩
          case pos =>
            have DB : Hid (decide (eB = 0) = true) := decide_eq_true heB
            have HZ : Hid (checkF pin e = 0) := by show _ = _; rw [HFR.out, if_pos ⟨ha1, heA, heB, rfl⟩]
            clear ha1 heA heB
            have tk40 : Hid True := trivial
            have tk41 : Hid True := trivial
            have tk42 : Hid True := trivial
            have tk43 : Hid True := trivial
            have tk44 : Hid True := trivial
            have tk45 : Hid True := trivial
            go_wp2_with (first
              | (clear tk40; with_reducible refine wpSeq_loadW 50 (.tmp 5) g5 0 (hdC h1) _ ?_ Tryd.underlying50 rfl ?_ ?_ ?_ ?_ ?_
                 · exact H5.out.range
                 · exact (info_hdC HO1.out)
                 · rfl
                 · rfl
                 · rfl)
              | (clear tk41; with_reducible refine wpSeq_loadW 30 (.tmp 28) g3 1 csa _ ?_ Tryd.underlying30 rfl ?_ ?_ ?_ ?_ ?_
                 · exact (HRG.out _ _ HG3.out).1
                 · exact HIS.out.1
                 · rfl
                 · rfl
                 · rfl)
              | (clear tk42; go_at_call 29; refine (HC2.out wc HBW.out).mono ?_; rintro e y41 ⟨rfl, hbz⟩
                 replace H5 : Hid (Blk y41 g5 (hdC h1) 50) := H5.out.below hbz H5.out.lt
                 replace HG3 : Hid (Blk y41 g3 cev 32) := HG3.out.below hbz HG3.out.lt
                 replace HBW : Hid (Below w.heap.size w y41) := HBW.out.trans (hbz.mono HBW.out.size)
                 rw [DA.out]
                 clear hbz )
              | (clear tk43; with_reducible refine wpSeq_loadW 50 (.tmp 5) g5 0 (hdC h1) _ ?_ Tryd.underlying50 rfl ?_ ?_ ?_ ?_ ?_
                 · exact H5.out.range
                 · exact (info_hdC HO1.out)
                 · rfl
                 · rfl
                 · rfl)
              | (clear tk44; with_reducible refine wpSeq_loadW 30 (.tmp 35) g3 99 csb _ ?_ Tryd.underlying30 rfl ?_ ?_ ?_ ?_ ?_
                 · exact (HRG.out _ _ HG3.out).2
                 · exact HIS.out.2
                 · rfl
                 · rfl
                 · rfl)
              | (clear tk45; go_at_call 29; refine (HC3.out y41 HBW.out).mono ?_; rintro e y42 ⟨rfl, hbz⟩
                 replace H5 : Hid (Blk y42 g5 (hdC h1) 50) := H5.out.below hbz H5.out.lt
                 replace HG3 : Hid (Blk y42 g3 cev 32) := HG3.out.below hbz HG3.out.lt
                 replace HBW : Hid (Below w.heap.size w y42) := HBW.out.trans (hbz.mono HBW.out.size)
                 rw [DB.out]
                 clear hbz ))
            go_ret
            exact ⟨by rw [HZ.out]; rfl, HBW.out⟩
end Go.Proofs.YtableajopaappaaDoor
/- The walks of fork's joined and Bytes (layer 12). -/
namespace Go.Proofs.YtableajopaappaaDoor
open Go.RowKit Go.Shelf
set_option maxRecDepth 100000
set_option maxRecDepth 100000 in
set_option maxHeartbeats 8000000 in
theorem fkJoined_any (e : EvT) (cs : List Value) (w : World) (hE : EvB w e cs) (h64 : e.1.length ≤ 64) :
    Calls Tryd.prog 38 #[.agg cs.toArray] w fun r w' => ∃ v, r = .returned v ∧ ReadsS w' v (allE e) ∧ Below w.heap.size w w' := by
  obtain ⟨vt, va, vb, hcs, he⟩ := hE.open
  subst hcs
  obtain ⟨adt, ct, hvt⟩ := he.tr.form
  obtain ⟨ada, na, ca, hva⟩ := he.a.form
  obtain ⟨adb, nb, cc, hvb⟩ := he.b.form
  obtain ⟨nt, HNT⟩ : ∃ n, Hid (n = e.1.length) := ⟨_, rfl⟩
  rw [← HNT.out] at hvt
  subst hvt hva hvb
  obtain ⟨cev, HCE⟩ : ∃ c, Hid (c = evC e (.slice adt nt ct) (.slice ada na ca) (.slice adb nb cc)) := ⟨_, rfl⟩
  rw [← HCE.out]
  have HEV : Hid (EvIs w e (.slice adt nt ct) (.slice ada na ca) (.slice adb nb cc)) := he
  have HIE : Hid ((Tryd.prog.info? 32).map (·.size) = some cev.length) := by show _ = _; rw [HCE.out]; exact info_evC he.oa he.ob _ _ _
  have HAT : Hid (∀ (W : World) (g : Nat), Blk W g cev 32 → EvAt W g 0 e (.slice adt nt ct) (.slice ada na ca) (.slice adb nb cc)) := fun W g hg => by rw [HCE.out] at hg; exact hg.evAt HEV.out.oa HEV.out.ob
  obtain ⟨csa, HSA⟩ : ∃ c, Hid (c = sgC e.2.1 (.slice ada na ca)) := ⟨_, rfl⟩
  obtain ⟨csb, HSB⟩ : ∃ c, Hid (c = sgC e.2.2 (.slice adb nb cc)) := ⟨_, rfl⟩
  have HIS : Hid ((Tryd.prog.info? 30).map (·.size) = some csa.length ∧ (Tryd.prog.info? 30).map (·.size) = some csb.length) := by rw [HSA.out, HSB.out]; exact ⟨info_sgC HEV.out.oa _, info_sgC HEV.out.ob _⟩
  have HRG : Hid (∀ (W : World) (g : Nat), Blk W g cev 32 → W.rangeAt g 1 csa ∧ W.rangeAt g 99 csb) := fun W g hg => by rw [HSA.out, HSB.out]; have h := HAT.out W g hg; refine ⟨?_, ?_⟩; have := h.a.all; rwa [Nat.zero_add] at this; have := h.b.all; rwa [Nat.zero_add] at this
  clear he
  have HN64 : Hid (nt ≤ 64) := by show _ ≤ _; rw [HNT.out]; exact h64
  have HBW : Hid (Below w.heap.size w w) := Below.refl _ _
  have HLL : Hid (csa.length = 98 ∧ csb.length = 98) := by rw [HSA.out, HSB.out]; exact ⟨len_sgC HEV.out.oa _, len_sgC HEV.out.ob _⟩
  have HFL : Hid (flatS [(e.2.1, .slice ada na ca), (e.2.2, .slice adb nb cc)] = csa ++ csb) := by show _ = _; rw [HSA.out, HSB.out]; simp [flatS]
  have HOK2 : Hid (∀ p ∈ [(e.2.1, Value.slice ada na ca), (e.2.2, .slice adb nb cc)], okS p.1) := fun p hp => by
    rcases List.mem_cons.1 hp with rfl | hp
    · exact HEV.out.oa
    · rw [List.mem_singleton.1 hp]; exact HEV.out.ob
  have HON2 : Hid (∀ p ∈ [(e.2.1, Value.slice ada na ca), (e.2.2, .slice adb nb cc)], p.2.oneCell' = true) := fun p hp => by
    rcases List.mem_cons.1 hp with rfl | hp
    · rfl
    · rw [List.mem_singleton.1 hp]; rfl
  have f2 : IntKind.i64.wrap ((nt : Int) + 2) = (nt : Int) + 2 := by rw [IntKind.wrap_i64]; have := HN64.out; omega
  have HNZ : Hid (nt + 2 ≤ 1000000) := by show _ ≤ _; have := HN64.out; omega
  clear h64 hE
  go_enter Tryd.func38, Tryd.ntmps38
  have tk0 : Hid True := trivial
  have tk1 : Hid True := trivial
  have tk2 : Hid True := trivial
  go_upto_region 3 with (first
    | (clear tk0; with_reducible refine wpSeq_boxW 32 (.tmp 0) cev ?_ ?_ ?_ ?_
       · rfl
       · rfl
       · rfl
       intro g1 y1 nn
       have HG1 : Hid (Blk y1 g1 cev 32) := nn.blk
       have HGW : Hid (w.heap.size ≤ g1) := nn.ge
       replace HBW : Hid (Below w.heap.size w y1) := nn.below
       have cet : y1.cell? ⟨g1, 0, none⟩ = some (.slice adt nt ct) := (HAT.out _ _ HG1.out).tr
       clear nn)
    | (clear tk1; with_reducible refine wpSeq_makeS (.tmp 8) (.tmp 8) (nt + 2) HNZ.out ?_ ?_ ?_ ?_ ?_
       · rfl
       · first | rfl | (simp [Act.eval]; done)
       · first | rfl | (simp [Act.eval]; done)
       · rfl
       intro g4 y2 hge hrow hbz
       have HR : Hid (RowS y2 g4 (zeroL (nt + 2))) := hrow
       have HGG : Hid (g1 < g4) := Nat.lt_of_lt_of_le HG1.out.lt hge
       clear cet
       replace HG1 : Hid (Blk y2 g1 cev 32) := HG1.out.below hbz HG1.out.lt
       replace HBW : Hid (Below w.heap.size w y2) := HBW.out.trans (hbz.mono HBW.out.size)
       have cet : y2.cell? ⟨g1, 0, none⟩ = some (.slice adt nt ct) := (HAT.out _ _ HG1.out).tr
       clear hge hrow hbz)
    | (clear tk2; with_reducible refine wpSeq_copyW w (.tmp 10) (.tmp 12) g4 (nt + 2) (nt + 2) nt (zeroL (nt + 2)) e.1 adt nt ct HR.out (len_zeroL _).symm HEV.out.tr HBW.out ?_ ?_ ?_ ?_ ?_ ?_
       · rw [len_zeroL, ← HNT.out]; exact Nat.min_eq_left (by omega)
       · rfl
       · rfl
       · rfl
       · rfl
       intro y3 T hT1 hT2 hrow hon
       replace HR : Hid (RowS y3 g4 (T ++ zeroL 2)) := by rw [zeroL_drop, Nat.add_sub_cancel_left] at hrow; exact hrow
       have HTM : Hid (T.map (·.1) = e.1) := by rw [List.take_of_length_le (by rw [HNT.out]; omega)] at hT1; exact hT1
       have HTL : Hid (T.length = nt) := by show _ = _; rw [HNT.out, ← HTM.out, List.length_map]
       have HTR : Hid (∀ p ∈ T, Reads w p.2 p.1.2) := hT2
       clear cet
       replace HG1 : Hid (Blk y3 g1 cev 32) := HG1.out.only hon (by have := HGG.out; omega)
       replace HBW : Hid (Below w.heap.size w y3) := HBW.out.trans (hon.below (by have h1 := HGW.out; have h2 := HGG.out; omega) HBW.out.size)
       clear hT1 hT2 hrow hon))
  refine wp_region_held_drew (S := Below g4 (World.drew y3)) (by kernel_rfl) (Below.refl _ _) ?_
  intro hS
  replace HG1 : Hid (Blk (World.drew y3) g1 cev 32) := HG1.out.drew
  replace HR : Hid (RowS (World.drew y3) g4 (T ++ zeroL 2)) := HR.out.drew
  replace HBW : Hid (Below w.heap.size w (World.drew y3)) := HBW.out.drew
  change wpAnyH _ _ _ _ _ _ _ _ (World.drew y3)
  generalize World.drew y3 = y0 at *
  try simp only [Act.put, List.setIfInBounds_toArray, List.set_cons_zero, List.set_cons_succ]
  refine wpAnyH_take (i := 0) (v := .slice (some ⟨g4, 0, none⟩) (nt + 2) (nt + 2)) rfl (by kernel_rfl) (by kernel_rfl) (by kernel_rfl) (fun _ _ _ h => h) (Or.inl ⟨by rfl, fun wx hx => by simp [go_sem]⟩) hS ?_
  simp only [Act.put, List.getElem_toArray, List.getElem_cons_zero, List.setIfInBounds_toArray, List.set_cons_zero, List.set_cons_succ]
  refine wpAnyH_take (i := 1) (v := .int .i64 (nt : Int)) rfl (by kernel_rfl) (by kernel_rfl) (by kernel_rfl) (fun _ _ _ h => h) (Or.inl ⟨by rfl, fun wx hx => by simp [go_sem]⟩) hS ?_
  simp only [Act.put, List.getElem_toArray, List.getElem_cons_succ, List.getElem_cons_zero, List.setIfInBounds_toArray, List.set_cons_zero, List.set_cons_succ]
  refine wpAnyH_take (i := 2) (v := .slice (some ⟨g4, nt * 98, none⟩) 2 2) rfl (by kernel_rfl) (by kernel_rfl) (by kernel_rfl) (fun _ _ _ h => h) (Or.inl ⟨by rfl, fun wx hx => by exact drop2_op _ _ _ _ rfl g4 nt rfl rfl _⟩) hS ?_
  simp only [Act.put, List.getElem_toArray, List.getElem_cons_succ, List.getElem_cons_zero, List.setIfInBounds_toArray, List.set_cons_zero, List.set_cons_succ]
  refine wpAnyH_take (i := 3) (v := .pointer (some ⟨g1, 1, none⟩)) rfl (by kernel_rfl) (by kernel_rfl) (by kernel_rfl) (fun _ _ _ h => h) (Or.inl ⟨by rfl, fun wx hx => by simp [go_sem]⟩) hS ?_
  simp only [Act.put, List.getElem_toArray, List.getElem_cons_succ, List.getElem_cons_zero, List.setIfInBounds_toArray, List.set_cons_zero, List.set_cons_succ]
  refine wpAnyH_take (i := 4) (v := .agg csa.toArray) rfl (by kernel_rfl) (by kernel_rfl) (by kernel_rfl) (fun _ _ _ h => h) (Or.inl ⟨by rfl, fun wx hx => by exact load_run 30 _ rfl g1 1 rfl csa _ (HRG.out _ _ (HG1.out.below hx HGG.out)).1 Tryd.underlying30 rfl HIS.out.1⟩) hS ?_
  simp only [Act.put, List.getElem_toArray, List.getElem_cons_succ, List.getElem_cons_zero, List.setIfInBounds_toArray, List.set_cons_zero, List.set_cons_succ]
  refine wpAnyH_take (i := 5) (v := .pointer (some ⟨g1, 99, none⟩)) rfl (by kernel_rfl) (by kernel_rfl) (by kernel_rfl) (fun _ _ _ h => h) (Or.inl ⟨by rfl, fun wx hx => by simp [go_sem]⟩) hS ?_
  simp only [Act.put, List.getElem_toArray, List.getElem_cons_succ, List.getElem_cons_zero, List.setIfInBounds_toArray, List.set_cons_zero, List.set_cons_succ]
  refine wpAnyH_take (i := 6) (v := .agg csb.toArray) rfl (by kernel_rfl) (by kernel_rfl) (by kernel_rfl) (fun _ _ _ h => h) (Or.inl ⟨by rfl, fun wx hx => by exact load_run 30 _ rfl g1 99 rfl csb _ (HRG.out _ _ (HG1.out.below hx HGG.out)).2 Tryd.underlying30 rfl HIS.out.2⟩) hS ?_
  simp only [Act.put, List.getElem_toArray, List.getElem_cons_succ, List.getElem_cons_zero, List.setIfInBounds_toArray, List.set_cons_zero, List.set_cons_succ]
  have hb := below_alloc y0 (.cells (csa ++ csb).toArray 30)
  have hba : Blk (y0.alloc (.cells (csa ++ csb).toArray 30)) y0.heap.size (csa ++ csb) 30 := Blk.new _ _ _
  have hlt4 : g4 < y0.heap.size := HR.out.lt
  replace hS : Below g4 y0 (y0.alloc (.cells (csa ++ csb).toArray 30)) := Below.mono hb (Nat.le_of_lt hlt4)
  refine wpAnyH_step 7 (.slice (some ⟨y0.heap.size, 0, none⟩) 2 2) (y0.alloc (.cells (csa ++ csb).toArray 30)) (by kernel_rfl) rfl (by rfl) (build_sg2 _ _ _ _ rfl csa csb HLL.out.1 HLL.out.2 rfl rfl _) hS ?_
  simp only [Act.put, List.getElem_toArray, List.getElem_cons_succ, List.getElem_cons_zero, List.setIfInBounds_toArray, List.set_cons_zero, List.set_cons_succ]
  replace HR : Hid (RowS (y0.alloc (.cells (csa ++ csb).toArray 30)) g4 (T ++ zeroL 2)) := HR.out.below hb
  have HBZ : Hid (Below w.heap.size w (y0.alloc (.cells (csa ++ csb).toArray 30))) := HBW.out.trans (hb.mono HBW.out.size)
  clear hb
  generalize y0.alloc (.cells (csa ++ csb).toArray 30) = z1 at *
  obtain ⟨gb, HGB⟩ : ∃ z, Hid (z = y0.heap.size) := ⟨_, rfl⟩
  rw [← HGB.out] at hba ⊢
  clear HGB
  refine wpAnyH_copyK 8 (.tmp 16) (.tmp 21) g4 nt 2 2 ⟨gb, 0, none⟩ 2 2 (T ++ zeroL 2) [(e.2.1, .slice ada na ca), (e.2.2, .slice adb nb cc)] HR.out HOK2.out HON2.out (by rw [List.length_append, HTL.out, len_zeroL]) rfl (fun j v hj => by rw [Addr.add_mid, Nat.zero_add, hba.cell, ← HFL.out]; exact hj) (by kernel_rfl) rfl (by rfl) rfl rfl rfl ?_
  intro z2 hrow hon
  replace hS : Below g4 y0 z2 := Below.trans hS (hon.below (Nat.le_refl _) (Nat.le_trans (Nat.le_of_lt hlt4) (Below.size hS)))
  refine ⟨hS, ?_⟩
  simp only [Act.put]
  refine wpAnyH_done (by kernel_rfl) ?_ _
  have HRE : Hid (ReadsS z2 (.slice (some ⟨g4, 0, none⟩) (nt + 2) (nt + 2)) (allE e)) := by
    have hbw2 : Below w.heap.size w z2 := HBZ.out.trans (hon.below (by have h1 := HGW.out; have h2 := HGG.out; omega) HBZ.out.size)
    have el : (T ++ zeroL 2).take nt ++ [(e.2.1, Value.slice ada na ca), (e.2.2, .slice adb nb cc)] ++ (T ++ zeroL 2).drop (nt + [(e.2.1, Value.slice ada na ca), (e.2.2, Value.slice adb nb cc)].length) = T ++ [(e.2.1, Value.slice ada na ca), (e.2.2, .slice adb nb cc)] := by
      rw [← HTL.out, List.take_left, List.drop_eq_nil_of_le (by rw [List.length_append, len_zeroL]; exact Nat.le_refl _), List.append_nil]
    rw [el] at hrow
    have hl2 : (T ++ [(e.2.1, Value.slice ada na ca), (e.2.2, .slice adb nb cc)]).length = nt + 2 := by rw [List.length_append, HTL.out]; rfl
    have h := hrow.readsS (nt + 2) (by rw [hl2]; exact Nat.le_refl _) (nt + 2) (Nat.le_refl _) (fun p hp => by
      have hp := List.mem_of_mem_take hp
      rcases List.mem_append.1 hp with hp | hp
      · exact (HTR.out p hp).below hbw2
      · rcases List.mem_cons.1 hp with rfl | hp
        · exact HEV.out.a.below hbw2
        · rw [List.mem_singleton.1 hp]; exact HEV.out.b.below hbw2)
    rw [List.take_of_length_le (by rw [hl2]; exact Nat.le_refl _), List.map_append, HTM.out] at h
    exact h
  have HBF : Hid (Below w.heap.size w z2) := HBZ.out.trans (hon.below (by have h1 := HGW.out; have h2 := HGG.out; omega) HBZ.out.size)
  clear hrow hon hba
  go_wp2
  go_ret
  exact ⟨_, rfl, HRE.out, HBF.out⟩
/-- where the texts of the first k roots stand -/
structure BtI (w : World) (g n : Nat) (v : Value) (l : List SgT) (us : List Value) (k : Nat) (W : World) : Prop where
  tx : RowT W g n us ((l.take k).map encS)
  rd : ReadsS W v l
  bel : Below w.heap.size w W
set_option maxRecDepth 100000 in
set_option maxHeartbeats 8000000 in
theorem fkBytes_any (e : EvT) (cs : List Value) (w : World) (hE : EvB w e cs) (h64 : e.1.length ≤ 64) (hsz : ∀ s ∈ allE e, s.2.length ≤ 1048576) :
    Calls Tryd.prog 18 #[.agg cs.toArray] w fun r w' => ∃ v, r = .returned v ∧ Reads w' v (bytesF e) ∧ Below w.heap.size w w' := by
  have HOK : Hid (EvOk e cs) := hE.ok
  obtain ⟨l, HL⟩ : ∃ l, Hid (l = allE e) := ⟨_, rfl⟩
  obtain ⟨n, HN⟩ : ∃ n, Hid (n = l.length) := ⟨_, rfl⟩
  have HN64 : Hid (n ≤ 66) := by show _ ≤ _; rw [HN.out, HL.out, len_allE]; omega
  have HSZ : Hid (∀ s ∈ l, s.2.length ≤ 1048576) := by rw [HL.out]; exact hsz
  have HCJ : Hid (∀ W : World, Below w.heap.size w W → Calls Tryd.prog 38 #[.agg cs.toArray] W fun r w' => ∃ v, r = .returned v ∧ ReadsS w' v l ∧ Below W.heap.size W w') := fun W hh => by rw [HL.out]; exact fkJoined_any e cs W (hE.below hh) h64
  have HCS : Hid (∀ (W : World) (s : SgT) (vs : Value), okS s → s.2.length ≤ 1048576 → Reads W vs s.2 → Calls Tryd.prog 39 #[.agg (sgC s vs).toArray] W fun r w' => ∃ v', r = .returned v' ∧ OwnB w' W.heap.size v' (encS s) ∧ Below W.heap.size W w') := fun W s vs os hl hr => signed_own s vs W os hr hl
  have HBW : Hid (Below w.heap.size w w) := Below.refl _ _
  have HBB : Hid (bytesF e = encList encText (l.map encS)) := by show _ = _; rw [HL.out]; rfl
  rw [HBB.out]
  clear h64 hE hsz HBB HL
  go_enter Tryd.func18, Tryd.ntmps18
  have tk0 : Hid True := trivial
  have tk1 : Hid True := trivial
  have tk2 : Hid True := trivial
  have tk3 : Hid True := trivial
  go_wp2_with (first
    | (clear tk0; with_reducible refine wpSeq_boxW 32 (.tmp 0) cs ?_ ?_ ?_ ?_
       · rfl
       · rfl
       · rfl
       intro g1 y1 nn
       have HG1 : Hid (Blk y1 g1 cs 32) := nn.blk
       replace HBW : Hid (Below w.heap.size w y1) := nn.below
       clear nn)
    | (clear tk1; with_reducible refine wpSeq_loadW 32 (.tmp 1) g1 0 cs _ ?_ Tryd.underlying32 rfl ?_ ?_ ?_ ?_ ?_
       · exact HG1.out.range
       · exact HOK.out.info
       · rfl
       · rfl
       · rfl)
    | (clear tk2; go_at_call 38; refine (HCJ.out y1 HBW.out).mono ?_; rintro e0 y2 ⟨v, rfl, hrs, hbz⟩
       obtain ⟨ad, cp, hv⟩ := hrs.form
       rw [← HN.out] at hv
       subst hv
       have HRS : Hid (ReadsS y2 (.slice ad n cp) l) := hrs
       replace HBW : Hid (Below w.heap.size w y2) := HBW.out.trans (hbz.mono HBW.out.size)
       clear hrs hbz)
    | (clear tk3; with_reducible refine wpSeq_makeT (.tmp 10) (.tmp 10) n (Nat.le_trans HN64.out (by decide)) ?_ ?_ ?_ ?_ ?_
       · rfl
       · rfl
       · rfl
       · rfl
       intro g4 y3 hge hrow hbz
       have HI0 : Hid (BtI y2 g4 n (.slice ad n cp) l [] 0 y3) := ⟨hrow, HRS.out.below hbz, hbz⟩
       have HG4 : Hid (y2.heap.size ≤ g4) := hge
       clear hge hrow hbz))
  go_loopw [14] (fun i wr => ∃ (k : Nat) (us : List Value), k ≤ n ∧ i = .int .i64 (k : Int) ∧ Hid (BtI y2 g4 n (.slice ad n cp) l us k wr)) (fun i _ => n - (intOf i).toNat)
  case atStart => exact ⟨0, [], by omega, rfl, HI0⟩
  case round =>
    obtain ⟨k, us, hkn, rfl, HI⟩ := hrel
    clear HI0
    by_cases hlt : k < n
    · have hlk : (k : Int) < (n : Int) := by omega
      have k0 : (0 : Int) ≤ (k : Int) := by omega
      have f5 : IntKind.i64.wrap ((k : Int) + 1) = (k : Int) + 1 := by rw [IntKind.wrap_i64]; have := HN64.out; omega
      have HLT : Hid (k < l.length) := by show _ < _; rw [← HN.out]; exact hlt
      obtain ⟨b, off, cap', hv2, hat⟩ := HRS.out.at (Nat.lt_of_le_of_lt (Nat.zero_le _) HLT.out)
      simp only [Value.slice.injEq] at hv2
      obtain ⟨rfl, hnl, rfl⟩ := hv2
      clear hnl
      obtain ⟨vs, hsa, hrs⟩ := hat k HLT.out
      obtain ⟨s, HS⟩ : ∃ s, Hid (s = l.getD k zeroS) := ⟨_, rfl⟩
      rw [← HS.out] at hsa hrs
      obtain ⟨a3, n3, c3, hv3⟩ := hrs.form
      subst hv3
      obtain ⟨csk, HCK⟩ : ∃ c, Hid (c = sgC s (.slice a3 n3 c3)) := ⟨_, rfl⟩
      have HOS : Hid (okS s) := hsa.ok
      have HRK : Hid (wr.rangeAt b (off + k * 98) csk) := by rw [HCK.out]; exact (hsa.below HI.out.bel (Nat.le_refl _)).all
      have HIK : Hid ((Tryd.prog.info? 30).map (·.size) = some csk.length) := by show _ = _; rw [HCK.out]; exact info_sgC hsa.ok _
      have HLK : Hid (csk.length = (sgC zeroS (.slice none 0 0)).length) := by show _ = _; rw [HCK.out, len_sgC hsa.ok, len_sgC okS_zero]
      have HOC : Hid (∀ v ∈ csk, v.oneCell' = true) := by rw [HCK.out]; exact sgC_one _ _ _ _
      have HCC : Hid (∀ W : World, Below wr.heap.size wr W → Calls Tryd.prog 39 #[.agg csk.toArray] W fun r w' => ∃ v', r = .returned v' ∧ OwnB w' W.heap.size v' (encS s) ∧ Below W.heap.size W w') := fun W hh => by rw [HCK.out]; exact HCS.out W s _ HOS.out (HSZ.out s (by rw [HS.out, List.getD_eq_getElem?_getD, List.getElem?_eq_getElem HLT.out]; exact List.getElem_mem HLT.out)) ((hrs.below HI.out.bel).below hh)
      have HTK : Hid ((l.take (k + 1)).map encS = (l.take k).map encS ++ [encS s]) := by show _ = _; rw [take_more HLT.out, List.map_append, HS.out]; rfl
      have HUL : Hid (us.length = k) := by show _ = _; rw [HI.out.tx.len, List.length_map, List.length_take]; have := HLT.out; omega
      clear hat hsa hrs
      have tk1 : Hid True := trivial
      have tk2 : Hid True := trivial
      have tk3 : Hid True := trivial
      have tk4 : Hid True := trivial
      have tk5 : Hid True := trivial
      have tk6 : Hid True := trivial
      go_wp2_with (first
        | (clear tk1; with_reducible refine wpSeq_loadW 30 (.tmp 17) b (off + k * 98) csk _ ?_ Tryd.underlying30 rfl ?_ ?_ ?_ ?_ ?_
           · exact HRK.out
           · exact HIK.out
           · rfl
           · rfl
           · rfl)
        | (clear tk2; with_reducible refine wpSeq_allocS ?_ ?_ ?_
           · rfl
           · rfl
           intro g6 y4 nn)
        | (clear tk3; with_reducible refine wpSeq_storeRow 30 (.tmp 6) (.tmp 18) g6 (sgC zeroS (.slice none 0 0)) csk ?_ ?_ ?_ ?_ ?_ ?_ ?_ ?_ ?_
           · exact nn.blk
           · exact HLK.out
           · exact HIK.out
           · exact HOC.out
           · rfl
           · rfl
           · rfl
           · rfl
           intro y5 hs
           have hbz := nn.below.trans (hs.only.below nn.ge nn.below.size)
           have H6 : Hid (Blk y5 g6 csk 30) := hs.blk
           have HB5 : Hid (Below wr.heap.size wr y5) := hbz
           clear nn hs hbz)
        | (clear tk4; with_reducible refine wpSeq_loadW 30 (.tmp 6) g6 0 csk _ ?_ Tryd.underlying30 rfl ?_ ?_ ?_ ?_ ?_
           · exact H6.out.range
           · exact HIK.out
           · rfl
           · rfl
           · rfl)
        | (clear tk5; go_at_call 39; refine (HCC.out y5 HB5.out).mono ?_; rintro e0 y6 ⟨v0, rfl, hu0, hbz⟩
           obtain ⟨au, nu, cu, hv0⟩ := hu0.reads.form
           subst hv0
           have HB6 : Hid (Below wr.heap.size wr y6) := HB5.out.trans (hbz.mono HB5.out.size)
           have HU : Hid (OwnB y6 (g4 + 1) (.slice au nu cu) (encS s)) := hu0.mono (Nat.le_trans HI.out.tx.lt HB5.out.size)
           have HT6 : Hid (RowT y6 g4 n us ((l.take k).map encS)) := HI.out.tx.next HB6.out
           clear hu0 hbz)
        | (clear tk6; with_reducible refine wpSeq_storeT (.tmp 23) (.tmp 22) g4 k (us ++ nilL (n - us.length)) au nu cu ?_ HT6.out.blk ?_ ?_ ?_ ?_ ?_
           · rw [List.length_append, len_nilL, HUL.out]; omega
           · rfl
           · first | rfl | (simp [Act.eval]; done)
           · rfl
           · rfl
           intro y7 hy7
           have HI7 : Hid (BtI y2 g4 n (.slice (some ⟨b, off, none⟩) n cp) l (us ++ [.slice au nu cu]) (k + 1) y7) := by
             have ho : Only g4 y6 y7 := by rw [hy7]; exact Only.setCell (Only.refl _ _) _ _
             have hb7 : Below y2.heap.size y2 y7 := (HI.out.bel.trans (HB6.out.mono HI.out.bel.size)).trans (ho.below HG4.out (Nat.le_trans HI.out.bel.size HB6.out.size))
             refine ⟨?_, HRS.out.below hb7, hb7⟩
             rw [HTK.out, hy7]
             exact HT6.out.put HUL.out hlt HU.out
           clear hy7))
      go_roundw
      case rel => exact ⟨k + 1, _, by omega, by simp, HI7⟩
      case measure => simp [intOf]; omega
    · have hlk : ¬ ((k : Int) < (n : Int)) := by omega
      obtain rfl : k = n := by omega
      have HRL : Hid (ReadsL wr (.slice (some ⟨g4, 0, none⟩) k k) (l.map encS)) := by
        have h := HI.out.tx
        rw [List.take_of_length_le (by rw [← HN.out]; omega)] at h
        exact h.readsL (by rw [List.length_map, ← HN.out])
      have HFB : Hid ((l.map encS).flatten.length + 10 * (l.map encS).length + 40 ≤ 140737488355328) := by
        have h := flatE_le l (fun s hs => ⟨HRS.out.2 s hs, HSZ.out s hs⟩)
        have h1 := HN64.out
        rw [← HN.out] at h
        rw [List.length_map, ← HN.out]
        have h2 : k * 1048692 ≤ 66 * 1048692 := Nat.mul_le_mul_right _ h1
        show _ ≤ _
        omega
      have tk9 : Hid True := trivial
      go_wp2_with (first
        | (clear tk9; go_at_call 40; refine (ctexts_any _ (l.map encS) wr HRL.out HFB.out).mono ?_
           rintro e0 y6 ⟨v9, rfl, ho9, hb9⟩))
      go_ret
      exact ⟨v9, rfl, ho9.reads, (HBW.out.trans (HI.out.bel.mono HBW.out.size)).trans (hb9.mono (HBW.out.trans (HI.out.bel.mono HBW.out.size)).size)⟩
end Go.Proofs.YtableajopaappaaDoor
/- The walks of fork's parted, Read and Accept (layer 12). -/
namespace Go.Proofs.YtableajopaappaaDoor
open Go.RowKit Go.Shelf
set_option maxRecDepth 100000
set_option maxRecDepth 100000 in
set_option maxHeartbeats 8000000 in
theorem fkParted_any (g6 n kk : Nat) (L : List (SgT × Value)) (w : World) (hr : RowS w g6 L) (hn : L.length = n) (hk : n = kk + 2) (h65 : n ≤ 65) (hv : ∀ p ∈ L, ∃ a n c, p.2 = .slice a n c) :
    Calls Tryd.prog 34 #[.slice (some ⟨g6, 0, none⟩) n n] w fun r w' => ∃ g4, w.heap.size ≤ g4 ∧ r = .returned (.agg (evC (evL (L.map (·.1))) (.slice (some ⟨g4, 0, none⟩) kk kk) (L.getD kk zeroP).2 (L.getD (kk + 1) zeroP).2).toArray) ∧ RowS w' g4 (L.take kk) ∧ Below w.heap.size w w' := by
  have HKN : Hid (kk < n ∧ kk + 1 < n) := ⟨by omega, by omega⟩
  have HN65 : Hid (n ≤ 65) := h65
  have HKE : Hid (n = kk + 2) := hk
  obtain ⟨ma, qa⟩ := getP_mem (L := L) (k := kk) (by omega)
  obtain ⟨mb, qb⟩ := getP_mem (L := L) (k := kk + 1) (by omega)
  have hs1 := hr.at qa
  have hs2 := hr.at qb
  obtain ⟨e, HE⟩ : ∃ e, Hid (e = evL (L.map (·.1))) := ⟨_, rfl⟩
  have HEL : Hid (e = ((L.take kk).map (·.1), (L.getD kk zeroP).1, (L.getD (kk + 1) zeroP).1)) := by show _ = _; rw [HE.out, evL_map L n hn, show n - 2 = kk by omega, show n - 1 = kk + 1 by omega]
  rw [← HE.out]
  obtain ⟨a1, n1, d1, hw1⟩ := hv _ ma
  obtain ⟨a2, n2, d2, hw2⟩ := hv _ mb
  have HO1 : Hid (∀ p ∈ L, p.2.oneCell' = true) := fun p hp => by obtain ⟨_, _, _, h⟩ := hv p hp; rw [h]; rfl
  have HOA : Hid (okS e.2.1 ∧ okS e.2.2) := by rw [HEL.out]; exact ⟨hs1.ok, hs2.ok⟩
  rw [hw1] at hs1 ⊢
  rw [hw2] at hs2 ⊢
  obtain ⟨cka, HCA⟩ : ∃ c, Hid (c = sgC (L.getD kk zeroP).1 (.slice a1 n1 d1)) := ⟨_, rfl⟩
  obtain ⟨ckb, HCB⟩ : ∃ c, Hid (c = sgC (L.getD (kk + 1) zeroP).1 (.slice a2 n2 d2)) := ⟨_, rfl⟩
  obtain ⟨cz, HCZ⟩ : ∃ c, Hid (c = evC zeroE (.slice none 0 0) (.slice none 0 0) (.slice none 0 0)) := ⟨_, rfl⟩
  have HIS : Hid ((Tryd.prog.info? 30).map (·.size) = some cka.length ∧ (Tryd.prog.info? 30).map (·.size) = some ckb.length) := by rw [HCA.out, HCB.out]; exact ⟨info_sgC hs1.ok _, info_sgC hs2.ok _⟩
  have HRG : Hid (∀ W : World, Below w.heap.size w W → W.rangeAt g6 (0 + kk * 98) cka ∧ W.rangeAt g6 (0 + (kk + 1) * 98) ckb) := fun W hh => by rw [HCA.out, HCB.out, Nat.zero_add, Nat.zero_add]; exact ⟨(hs1.below hh (Nat.le_refl _)).all, (hs2.below hh (Nat.le_refl _)).all⟩
  have HBE : Hid (∀ (g : Nat) (ps : List (Nat × Value)), ps = [(0, .slice (some ⟨g, 0, none⟩) kk kk), (1, .agg cka.toArray), (2, .agg ckb.toArray)] → Tryd.prog.built 32 ps = some (evC e (.slice (some ⟨g, 0, none⟩) kk kk) (.slice a1 n1 d1) (.slice a2 n2 d2)).toArray) := fun g ps hps => by subst hps; rw [HEL.out, HCA.out, HCB.out]; exact (built_evid _).trans (fill_ev (e := ((L.take kk).map (·.1), (L.getD kk zeroP).1, (L.getD (kk + 1) zeroP).1)) hs1.ok hs2.ok)
  have HLE : Hid (∀ g : Nat, (evC e (.slice (some ⟨g, 0, none⟩) kk kk) (.slice a1 n1 d1) (.slice a2 n2 d2)).length = cz.length) := fun g => by rw [HCZ.out, len_evC HOA.out.1 HOA.out.2, len_zeroE]
  have HIE : Hid (∀ g : Nat, (Tryd.prog.info? 32).map (·.size) = some (evC e (.slice (some ⟨g, 0, none⟩) kk kk) (.slice a1 n1 d1) (.slice a2 n2 d2)).length) := fun g => info_evC HOA.out.1 HOA.out.2 _ _ _
  have HOE : Hid (∀ g : Nat, ∀ v ∈ evC e (.slice (some ⟨g, 0, none⟩) kk kk) (.slice a1 n1 d1) (.slice a2 n2 d2), v.oneCell' = true) := fun g => evC_one _ rfl rfl rfl
  have HRR : Hid (RowS w g6 L) := hr
  have HNL : Hid (n = L.length) := hn.symm
  have f2 : IntKind.i64.wrap ((n : Int) - 2) = (kk : Int) := by rw [IntKind.wrap_i64]; have h1 := HKE.out; have h2 := HN65.out; omega
  have f3 : IntKind.i64.wrap ((kk : Int) + 1) = (kk : Int) + 1 := by rw [IntKind.wrap_i64]; have h1 := HKE.out; have h2 := HN65.out; omega
  have HBW : Hid (Below w.heap.size w w) := Below.refl _ _
  clear hr hk hn h65 hv ma mb qa qb hs1 hs2 hw1 hw2 HCA HCB HEL HE
  go_enter Tryd.func34, Tryd.ntmps34
  have tk0 : Hid True := trivial
  have tk1 : Hid True := trivial
  have tk2 : Hid True := trivial
  go_upto_region 4 with (first
    | (clear tk0; with_reducible refine wpSeq_allocE ?_ ?_ ?_
       · rfl
       · rfl
       intro g2 y1 nn
       have HG2 : Hid (w.heap.size ≤ g2) := nn.ge
       have H2 : Hid (Blk y1 g2 cz 32) := by rw [HCZ.out]; exact nn.blk
       replace HBW : Hid (Below w.heap.size w y1) := nn.below
       clear nn)
    | (clear tk1; with_reducible refine wpSeq_makeS (.tmp 8) (.tmp 8) kk ?_ ?_ ?_ ?_ ?_ ?_
       · have h1 := HKE.out; have h2 := HN65.out; omega
       · rfl
       · rfl
       · rfl
       · rfl
       intro g4 y2 hge hrow hbz
       have HR : Hid (RowS y2 g4 (zeroL kk)) := hrow
       have HGG : Hid (g2 < g4 ∧ w.heap.size ≤ g4) := ⟨Nat.lt_of_lt_of_le H2.out.lt hge, Nat.le_trans HBW.out.size hge⟩
       replace H2 : Hid (Blk y2 g2 cz 32) := H2.out.below hbz H2.out.lt
       replace HBW : Hid (Below w.heap.size w y2) := HBW.out.trans (hbz.mono HBW.out.size)
       clear hge hrow hbz)
    | (clear tk2; with_reducible refine wpSeq_copyR (.tmp 10) (.tmp 11) g4 g6 kk n kk n kk (zeroL kk) L HR.out (HRR.out.below HBW.out) HO1.out (len_zeroL _).symm HNL.out (Nat.min_eq_right (Nat.le_of_lt HKN.out.1)) ?_ ?_ ?_ ?_ ?_
       · rfl
       · rfl
       · rfl
       · rfl
       intro y3 hrow hon
       replace HR : Hid (RowS y3 g4 (L.take kk)) := by rw [zeroL_drop, Nat.sub_self] at hrow; exact (List.append_nil (L.take kk)) ▸ hrow
       replace H2 : Hid (Blk y3 g2 cz 32) := H2.out.only hon (by have := HGG.out.1; omega)
       replace HBW : Hid (Below w.heap.size w y3) := HBW.out.trans (hon.below HGG.out.2 HBW.out.size)
       clear hrow hon))
  refine wp_region_held_drew (S := Below g2 (World.drew y3)) (by kernel_rfl) (Below.refl _ _) ?_
  intro hS
  replace H2 : Hid (Blk (World.drew y3) g2 cz 32) := H2.out.drew
  replace HR : Hid (RowS (World.drew y3) g4 (L.take kk)) := HR.out.drew
  replace HBW : Hid (Below w.heap.size w (World.drew y3)) := HBW.out.drew
  change wpAnyH _ _ _ _ _ _ _ _ (World.drew y3)
  generalize World.drew y3 = y0 at *
  try simp only [Act.put, List.setIfInBounds_toArray, List.set_cons_zero, List.set_cons_succ]
  refine wpAnyH_take (i := 0) (v := .slice (some ⟨g4, 0, none⟩) kk kk) rfl (by kernel_rfl) (by kernel_rfl) (by kernel_rfl) (fun _ _ _ h => h) (Or.inl ⟨by rfl, fun wx hx => by simp [go_sem]⟩) hS ?_
  simp only [Act.put, List.getElem_toArray, List.getElem_cons_zero, List.setIfInBounds_toArray, List.set_cons_zero, List.set_cons_succ]
  refine wpAnyH_take (i := 1) (v := .slice (some ⟨g6, 0, none⟩) n n) rfl (by kernel_rfl) (by kernel_rfl) (by kernel_rfl) (fun _ _ _ h => h) (Or.inl ⟨by rfl, fun wx hx => by simp [go_sem]⟩) hS ?_
  simp only [Act.put, List.getElem_toArray, List.getElem_cons_succ, List.getElem_cons_zero, List.setIfInBounds_toArray, List.set_cons_zero, List.set_cons_succ]
  refine wpAnyH_take (i := 2) (v := .int .i64 (kk : Int)) rfl (by kernel_rfl) (by kernel_rfl) (by kernel_rfl) (fun _ _ _ h => h) (Or.inl ⟨by rfl, fun wx hx => by simp [go_sem]⟩) hS ?_
  simp only [Act.put, List.getElem_toArray, List.getElem_cons_succ, List.getElem_cons_zero, List.setIfInBounds_toArray, List.set_cons_zero, List.set_cons_succ]
  refine wpAnyH_take (i := 3) (v := .pointer (some ⟨g6, 0 + kk * 98, none⟩)) rfl (by kernel_rfl) (by kernel_rfl) (by kernel_rfl) (fun _ _ _ h => h) (Or.inl ⟨by rfl, fun wx hx => by exact idx98 g6 0 n n kk HKN.out.1 _ _ _ _ rfl rfl rfl _⟩) hS ?_
  simp only [Act.put, List.getElem_toArray, List.getElem_cons_succ, List.getElem_cons_zero, List.setIfInBounds_toArray, List.set_cons_zero, List.set_cons_succ]
  refine wpAnyH_take (i := 4) (v := .agg cka.toArray) rfl (by kernel_rfl) (by kernel_rfl) (by kernel_rfl) (fun _ _ _ h => h) (Or.inl ⟨by rfl, fun wx hx => by exact load_run 30 _ rfl g6 (0 + kk * 98) rfl cka _ (HRG.out _ (HBW.out.trans (Below.mono hx HG2.out))).1 Tryd.underlying30 rfl HIS.out.1⟩) hS ?_
  simp only [Act.put, List.getElem_toArray, List.getElem_cons_succ, List.getElem_cons_zero, List.setIfInBounds_toArray, List.set_cons_zero, List.set_cons_succ]
  refine wpAnyH_take (i := 5) (v := .slice (some ⟨g6, 0, none⟩) n n) rfl (by kernel_rfl) (by kernel_rfl) (by kernel_rfl) (fun _ _ _ h => h) (Or.inl ⟨by rfl, fun wx hx => by simp [go_sem]⟩) hS ?_
  simp only [Act.put, List.getElem_toArray, List.getElem_cons_succ, List.getElem_cons_zero, List.setIfInBounds_toArray, List.set_cons_zero, List.set_cons_succ]
  refine wpAnyH_take (i := 6) (v := .int .i64 (kk : Int)) rfl (by kernel_rfl) (by kernel_rfl) (by kernel_rfl) (fun _ _ _ h => h) (Or.inl ⟨by rfl, fun wx hx => by simp [go_sem]⟩) hS ?_
  simp only [Act.put, List.getElem_toArray, List.getElem_cons_succ, List.getElem_cons_zero, List.setIfInBounds_toArray, List.set_cons_zero, List.set_cons_succ]
  refine wpAnyH_take (i := 7) (v := .int .i64 ((kk + 1 : Nat) : Int)) rfl (by kernel_rfl) (by kernel_rfl) (by kernel_rfl) (fun _ _ _ h => h) (Or.inl ⟨by rfl, fun wx hx => by simp [go_sem, f3]⟩) hS ?_
  simp only [Act.put, List.getElem_toArray, List.getElem_cons_succ, List.getElem_cons_zero, List.setIfInBounds_toArray, List.set_cons_zero, List.set_cons_succ]
  refine wpAnyH_take (i := 8) (v := .pointer (some ⟨g6, 0 + (kk + 1) * 98, none⟩)) rfl (by kernel_rfl) (by kernel_rfl) (by kernel_rfl) (fun _ _ _ h => h) (Or.inl ⟨by rfl, fun wx hx => by exact idx98 g6 0 n n (kk + 1) HKN.out.2 _ _ _ _ rfl rfl rfl _⟩) hS ?_
  simp only [Act.put, List.getElem_toArray, List.getElem_cons_succ, List.getElem_cons_zero, List.setIfInBounds_toArray, List.set_cons_zero, List.set_cons_succ]
  refine wpAnyH_take (i := 9) (v := .agg ckb.toArray) rfl (by kernel_rfl) (by kernel_rfl) (by kernel_rfl) (fun _ _ _ h => h) (Or.inl ⟨by rfl, fun wx hx => by exact load_run 30 _ rfl g6 (0 + (kk + 1) * 98) rfl ckb _ (HRG.out _ (HBW.out.trans (Below.mono hx HG2.out))).2 Tryd.underlying30 rfl HIS.out.2⟩) hS ?_
  simp only [Act.put, List.getElem_toArray, List.getElem_cons_succ, List.getElem_cons_zero, List.setIfInBounds_toArray, List.set_cons_zero, List.set_cons_succ]
  refine wpAnyH_take (i := 10) (v := .agg (evC e (.slice (some ⟨g4, 0, none⟩) kk kk) (.slice a1 n1 d1) (.slice a2 n2 d2)).toArray) rfl (by kernel_rfl) (by kernel_rfl) (by kernel_rfl) (fun _ _ _ h => h) (Or.inl ⟨by rfl, fun wx hx => by refine build_op _ _ 32 [(0, .tmp 13), (1, .tmp 17), (2, .tmp 22)] rfl _ ?_ _; exact HBE.out g4 _ rfl⟩) hS ?_
  simp only [Act.put, List.getElem_toArray, List.getElem_cons_succ, List.getElem_cons_zero, List.setIfInBounds_toArray, List.set_cons_zero, List.set_cons_succ]
  refine wpAnyH_storeRow 11 32 (.tmp 2) (.tmp 23) g2 cz (evC e (.slice (some ⟨g4, 0, none⟩) kk kk) (.slice a1 n1 d1) (.slice a2 n2 d2)) H2.out (HLE.out g4) (HIE.out g4) (HOE.out g4) (by kernel_rfl) rfl (by rfl) rfl rfl rfl ?_
  intro yE hs
  replace hS : Below g2 y0 yE := Below.trans hS (hs.only.below (Nat.le_refl _) (Nat.le_of_lt H2.out.lt))
  refine ⟨hS, ?_⟩
  simp only [Act.put, List.getElem_toArray, List.getElem_cons_succ, List.getElem_cons_zero]
  refine wpAnyH_done (by kernel_rfl) ?_ _
  have HBE2 : Hid (Below w.heap.size w yE) := HBW.out.trans (hs.only.below HG2.out HBW.out.size)
  have HRE : Hid (RowS yE g4 (L.take kk)) := HR.out.only hs.only (by have := HGG.out.1; omega)
  have HBK : Hid (Blk yE g2 (evC e (.slice (some ⟨g4, 0, none⟩) kk kk) (.slice a1 n1 d1) (.slice a2 n2 d2)) 32) := hs.blk
  clear hs
  go_wp2
  exact bodyPost_ret (v := .agg (evC e (.slice (some ⟨g4, 0, none⟩) kk kk) (.slice a1 n1 d1) (.slice a2 n2 d2)).toArray) (results_cell_row (by rfl) _ _ g2 32 _ (0, 0) _ rfl HBK.out Tryd.underlying32 rfl (by rw [List.size_toArray]; exact HIE.out g4)) rfl ⟨g4, HGG.out.2, rfl, HRE.out, HBE2.out⟩
set_option maxRecDepth 100000 in
set_option maxHeartbeats 8000000 in
theorem fkRead_own (v : Value) (b : Bs) (w : World) (hb : Reads w v b) :
    Calls Tryd.prog 13 #[v] w fun r w' => ∃ cs, r = .returned (.tuple #[.agg (cs : List Value).toArray, .int .i64 (readX b)]) ∧ EvF w w' (readE b) cs ∧ Below w.heap.size w w' := by
  obtain ⟨ts, HTS⟩ : ∃ t, Hid (t = (readList readText b).getD []) := ⟨_, rfl⟩
  obtain ⟨er, HER⟩ : ∃ t, Hid (t = errOf (readList readText b)) := ⟨_, rfl⟩
  obtain ⟨cz, HCZ⟩ : ∃ c, Hid (c = evC zeroE (.slice none 0 0) (.slice none 0 0) (.slice none 0 0)) := ⟨_, rfl⟩
  obtain ⟨n, HN⟩ : ∃ n, Hid (n = ts.length) := ⟨_, rfl⟩
  have HOZ : Hid (EvOk zeroE cz) := by rw [HCZ.out]; exact (EvB.zero w).ok
  have HC1 : Hid (∀ W : World, Below w.heap.size w W → Calls Tryd.prog 32 #[v] W fun r w' => ∃ u, r = .returned (.tuple #[u, .int .i64 er]) ∧ ReadsL w' u ts ∧ Below W.heap.size W w') := fun W hh => by rw [HTS.out, HER.out]; exact (creadT_any v b W (hb.below hh)).mono fun e w' h => h.t
  have HBAD : Hid ((er ≠ 0 ∨ n < 2 ∨ 65 < n ∨ readSs ts = none) → readF b = none) := by rw [HER.out, HN.out, HTS.out]; exact readF_bad
  have HGOOD : Hid (er = 0 → 2 ≤ n → n ≤ 65 → ∀ l, readSs ts = some l → readF b = some (evL l)) := by rw [HER.out, HN.out, HTS.out]; exact fun h0 h2 h65 l hl => readF_good h0 h2 h65 hl
  have HBW : Hid (Below w.heap.size w w) := Below.refl _ _
  clear hb HTS HER
  go_enter Tryd.func13, Tryd.ntmps13
  have tk0 : Hid True := trivial
  have tk1 : Hid True := trivial
  go_upto_region 2 with (first
    | (clear tk0; with_reducible refine wpSeq_allocE ?_ ?_ ?_
       · rfl
       · rfl
       intro g2 y1 nn
       have HG2 : Hid (w.heap.size ≤ g2) := nn.ge
       have H2 : Hid (Blk y1 g2 cz 32) := by rw [HCZ.out]; exact nn.blk
       replace HBW : Hid (Below w.heap.size w y1) := nn.below
       clear nn)
    | (clear tk1; go_at_call 32; refine (HC1.out y1 HBW.out).mono ?_; rintro e0 y2 ⟨u, rfl, hrl, hbz⟩
       replace H2 : Hid (Blk y2 g2 cz 32) := H2.out.below hbz H2.out.lt
       replace HBW : Hid (Below w.heap.size w y2) := HBW.out.trans (hbz.mono HBW.out.size)
       obtain ⟨ad, cp, hu, hq⟩ := id hrl
       clear hq
       rw [← HN.out] at hu
       subst hu
       have HRL : Hid (ReadsL y2 (.slice ad n cp) ts) := hrl
       clear hbz hrl))
  by_cases her : er = 0
  case neg =>
    have HF0 : Hid (readF b = none) := HBAD.out (Or.inl her)
    have HX3 : Hid (readX b = 3) := by show _ = _; rw [readX, HF0.out]; rfl
    have HE0 : Hid (readE b = zeroE) := by show _ = _; rw [readE, HF0.out]; rfl
    have qe : (er == 0) = false := by rw [beq_eq_false_iff_ne]; exact her
    have pe : (er != 0) = true := by rw [bne, qe]; rfl
    clear her
    have tk20 : Hid True := trivial
    have tk21 : Hid True := trivial
    go_wp2_with (first
      | (clear tk20; with_reducible refine wpSeq_build 32 [] cz ?_ ?_ ?_ ?_
         · exact (built_evid []).trans (by rw [HCZ.out]; rfl)
         · rfl
         · rfl)
      | (clear tk21; with_reducible refine wpSeq_storeRow 32 (.tmp 2) (.tmp 26) g2 cz cz ?_ ?_ ?_ ?_ ?_ ?_ ?_ ?_ ?_
         · exact H2.out
         · rfl
         · exact HOZ.out.info
         · exact HOZ.out.one
         · rfl
         · rfl
         · rfl
         · rfl
         intro y99 hs))
    exact bodyPost_ret (results_row_tmp (by rfl) _ _ g2 _ rfl (var_evB hs.blk HOZ.out)) rfl ⟨cz, by rw [HX3.out]; rfl, by rw [HE0.out, HCZ.out]; exact fun _ _ => EvB.zero _, HBW.out.trans (hs.only.below HG2.out HBW.out.size)⟩
  case pos =>
    have qe : (er == 0) = true := by rw [beq_iff_eq]; exact her
    have pe : (er != 0) = false := by rw [bne, qe]; rfl
    have HER0 : Hid (er = 0) := her
    clear her
    by_cases hn2 : n < 2
    · have hi2 : (n : Int) < 2 := by omega
      have HF0 : Hid (readF b = none) := HBAD.out (Or.inr (Or.inl hn2))
      have HX3 : Hid (readX b = 3) := by show _ = _; rw [readX, HF0.out]; rfl
      have HE0 : Hid (readE b = zeroE) := by show _ = _; rw [readE, HF0.out]; rfl
      have tk20 : Hid True := trivial
      have tk21 : Hid True := trivial
      go_wp2_with (first
        | (clear tk20; with_reducible refine wpSeq_build 32 [] cz ?_ ?_ ?_ ?_
           · exact (built_evid []).trans (by rw [HCZ.out]; rfl)
           · rfl
           · rfl)
        | (clear tk21; with_reducible refine wpSeq_storeRow 32 (.tmp 2) (.tmp 26) g2 cz cz ?_ ?_ ?_ ?_ ?_ ?_ ?_ ?_ ?_
           · exact H2.out
           · rfl
           · exact HOZ.out.info
           · exact HOZ.out.one
           · rfl
           · rfl
           · rfl
           · rfl
           intro y99 hs))
      exact bodyPost_ret (results_row_tmp (by rfl) _ _ g2 _ rfl (var_evB hs.blk HOZ.out)) rfl ⟨cz, by rw [HX3.out]; rfl, by rw [HE0.out, HCZ.out]; exact fun _ _ => EvB.zero _, HBW.out.trans (hs.only.below HG2.out HBW.out.size)⟩
    have hi2 : ¬ ((n : Int) < 2) := by omega
    by_cases hn65 : 65 < n
    · have hi65 : (65 : Int) < (n : Int) := by omega
      have HF0 : Hid (readF b = none) := HBAD.out (Or.inr (Or.inr (Or.inl hn65)))
      have HX3 : Hid (readX b = 3) := by show _ = _; rw [readX, HF0.out]; rfl
      have HE0 : Hid (readE b = zeroE) := by show _ = _; rw [readE, HF0.out]; rfl
      have tk20 : Hid True := trivial
      have tk21 : Hid True := trivial
      go_wp2_with (first
        | (clear tk20; with_reducible refine wpSeq_build 32 [] cz ?_ ?_ ?_ ?_
           · exact (built_evid []).trans (by rw [HCZ.out]; rfl)
           · rfl
           · rfl)
        | (clear tk21; with_reducible refine wpSeq_storeRow 32 (.tmp 2) (.tmp 26) g2 cz cz ?_ ?_ ?_ ?_ ?_ ?_ ?_ ?_ ?_
           · exact H2.out
           · rfl
           · exact HOZ.out.info
           · exact HOZ.out.one
           · rfl
           · rfl
           · rfl
           · rfl
           intro y99 hs))
      exact bodyPost_ret (results_row_tmp (by rfl) _ _ g2 _ rfl (var_evB hs.blk HOZ.out)) rfl ⟨cz, by rw [HX3.out]; rfl, by rw [HE0.out, HCZ.out]; exact fun _ _ => EvB.zero _, HBW.out.trans (hs.only.below HG2.out HBW.out.size)⟩
    have hi65 : ¬ ((65 : Int) < (n : Int)) := by omega
    have HN2 : Hid (2 ≤ n) := by show _ ≤ _; omega
    have HN65 : Hid (n ≤ 65) := by show _ ≤ _; omega
    clear hn2 hn65
    have tk30 : Hid True := trivial
    go_wp2_with (first
      | (clear tk30; with_reducible refine wpSeq_makeS (.tmp 28) (.tmp 28) n (Nat.le_trans HN65.out (by decide)) ?_ ?_ ?_ ?_ ?_
         · rfl
         · rfl
         · rfl
         · rfl
         intro g6 y3 hge hrow hbz
         have HI0 : Hid (RrI y2 g6 n [] [] y3) := ⟨hbz, by rw [List.nil_append]; exact hrow, (fun p hp => by cases hp), rfl, Nat.zero_le _, hge⟩
         clear hge hrow hbz))
    have HR20 : Hid (Blk y2 g2 cz 32) := H2.out
    have HBW2 : Hid (Below w.heap.size w y2) := HBW.out
    clear H2 HBW hi2 hi65 qe pe
    go_loopw [32, 5] (fun i ev wr => ∃ (k : Nat) (rs : List SgT) (L : List (SgT × Value)), k ≤ n ∧ i = .int .i64 (k : Int) ∧ ev = .int .i64 er ∧ Hid (readSs (ts.take k) = some rs) ∧ Hid (RrI y2 g6 n rs L wr)) (fun i _ _ => n - (intOf i).toNat)
    case atStart => exact ⟨0, [], [], by omega, rfl, rfl, rfl, HI0⟩
    case round =>
      obtain ⟨k, rs, L, hkn, rfl, rfl, HRS, HI⟩ := hrel
      clear HI0
      have HR2 : Hid (Blk wr g2 cz 32) := HR20.out.below HI.out.bel HR20.out.lt
      have HLR : Hid (rs.length = k) := by show _ = _; rw [readSs_len HRS.out, List.length_take, ← HN.out]; omega
      by_cases hlt : k < n
      case neg =>
        have hlk : ¬ ((k : Int) < (n : Int)) := by omega
        obtain rfl : k = n := by omega
        have HFS : Hid (readF b = some (evL rs)) := by
          have h := HRS.out
          rw [List.take_of_length_le (by rw [← HN.out]; omega)] at h
          exact HGOOD.out HER0.out HN2.out HN65.out rs h
        have HXE : Hid (readX b = 0) := by show _ = _; rw [readX, HFS.out]; rfl
        have HEE : Hid (readE b = evL rs) := by show _ = _; rw [readE, HFS.out]; rfl
        have HLN : Hid (L.length = k) := by show _ = _; rw [HI.out.len, HLR.out]
        obtain ⟨kk, HKK⟩ : ∃ j, Hid (j = k - 2) := ⟨_, rfl⟩
        have HKE : Hid (k = kk + 2) := by show _ = _; rw [HKK.out]; have := HN2.out; omega
        have HRW : Hid (RowS wr g6 L) := by
          have h := HI.out.row
          rw [HLN.out, Nat.sub_self] at h
          exact (List.append_nil L) ▸ h
        have HCP : Hid (Calls Tryd.prog 34 #[.slice (some ⟨g6, 0, none⟩) k k] wr fun r w' => ∃ g4 cs, cs = evC (evL rs) (.slice (some ⟨g4, 0, none⟩) kk kk) (L.getD kk zeroP).2 (L.getD (kk + 1) zeroP).2 ∧ wr.heap.size ≤ g4 ∧ r = .returned (.agg (cs : List Value).toArray) ∧ RowS w' g4 (L.take kk) ∧ Below wr.heap.size wr w') := (fkParted_any g6 k kk L wr HRW.out HLN.out HKE.out HN65.out (fun p hp => by obtain ⟨a, n, c, h⟩ := (HI.out.sg p hp).reads.form; exact ⟨a, n, c, h⟩)).mono fun e w' h => by
          obtain ⟨g4, h1, h2, h3, h4⟩ := h
          rw [HI.out.eq] at h2
          exact ⟨g4, _, rfl, h1, h2, h3, h4⟩
        have HB0 : Hid (Below w.heap.size w wr) := HBW2.out.trans (HI.out.bel.mono HBW2.out.size)
        have HEV : Hid (∀ (W : World) (g4 : Nat), (∀ {v : Value} {l : Bs}, OwnB wr (g6 + 1) v l → OwnB W (g6 + 1) v l) → RowS W g4 (L.take kk) → EvB W (evL rs) (evC (evL rs) (.slice (some ⟨g4, 0, none⟩) kk kk) (L.getD kk zeroP).2 (L.getD (kk + 1) zeroP).2)) := fun W g4 up hr => by
          have h := HI.out.ev HLR.out HN2.out (W' := W) (g4 := g4) up (by rw [show k - 2 = kk by rw [HKK.out]]; exact hr)
          rw [show k - 2 = kk by rw [HKK.out], show k - 1 = kk + 1 by have := HKE.out; omega] at h
          exact h
        have HG26 : Hid (g2 < y2.heap.size ∧ y2.heap.size ≤ g6 ∧ g6 < wr.heap.size) := ⟨HR20.out.lt, HI.out.ge, HI.out.row.lt⟩
        have tk60 : Hid True := trivial
        have tk61 : Hid True := trivial
        go_wp2_with (first
          | (clear tk60; go_at_call 34; refine (HCP.out).mono ?_; rintro e0 y8 ⟨g4, cs, hcs, hg4, rfl, hrow, hbz⟩
             have HE9 : Hid (∀ W : World, (∀ j, g6 < j → j < y8.heap.size → W.heap[j]? = y8.heap[j]?) → EvB W (evL rs) cs) := fun W hW => by
               rw [hcs]
               have hh := HG26.out
               refine HEV.out W g4 (fun {v l} hv => ?_) (hrow.same (hW g4 (by omega) hrow.lt))
               refine hv.same fun j hj => ?_
               have h1 := hv.own j hj
               have h2 := hv.lt j hj
               rw [hW j (by omega) (Nat.lt_of_lt_of_le h2 hbz.size), hbz.block j h2]
             have HEB : Hid (EvB y8 (evL rs) cs) := HE9.out y8 fun _ _ _ => rfl
             have HOE : Hid (EvOk (evL rs) cs) := HEB.out.ok
             replace HR2 : Hid (Blk y8 g2 cz 32) := HR2.out.below hbz HR2.out.lt
             have HB8 : Hid (Below wr.heap.size wr y8) := hbz
             clear hbz hrow hcs hg4)
          | (clear tk61; with_reducible refine wpSeq_storeRow 32 (.tmp 2) (.tmp 50) g2 cz cs ?_ ?_ ?_ ?_ ?_ ?_ ?_ ?_ ?_
             · exact HR2.out
             · rw [HCZ.out]; exact HOE.out.lz
             · exact HOE.out.info
             · exact HOE.out.one
             · rfl
             · rfl
             · rfl
             · rfl
             intro y99 hs))
        refine bodyPost_ret (results_row_tmp (by rfl) _ _ g2 _ rfl (var_evB hs.blk HOE.out)) rfl ⟨_, by rw [HXE.out]; rfl, ?_, ?_⟩
        · rw [HEE.out]
          intro W hW
          have hh := HG26.out
          have h0 := HB0.out.size
          have h8 : y8.heap.size ≤ y99.heap.size := hs.only.size
          have hw2 := HBW2.out.size
          exact HE9.out W fun j h1 h2 => by rw [hW j (by omega) (by omega), hs.only.block j (by omega) h2]
        · have hb8 := HB0.out.trans (HB8.out.mono HB0.out.size)
          exact hb8.trans (hs.only.below HG2.out hb8.size)
      case pos =>
        have hlk : (k : Int) < (n : Int) := by omega
        have k0 : (0 : Int) ≤ (k : Int) := by omega
        have f5 : IntKind.i64.wrap ((k : Int) + 1) = (k : Int) + 1 := by rw [IntKind.wrap_i64]; have := HN65.out; omega
        have HLT : Hid (k < ts.length) := by show _ < _; rw [← HN.out]; exact hlt
        obtain ⟨bb, off, rfl, hat⟩ := HRL.out.atL (Nat.lt_of_le_of_lt (Nat.zero_le _) HLT.out)
        obtain ⟨vj, hcj, hrj⟩ := hat k HLT.out
        obtain ⟨t, HT⟩ : ∃ t, Hid (t = ts.getD k []) := ⟨_, rfl⟩
        rw [← HT.out] at hrj
        obtain ⟨a3, n3, c3, hv3⟩ := hrj.form
        subst hv3
        have ckk : wr.cell? ⟨bb, off + k, none⟩ = some (.slice a3 n3 c3) := by rw [Below.cell HI.out.bel (block_lt_of_cell hcj)]; exact hcj
        have hres := crdSigned_any _ t wr (hrj.below HI.out.bel)
        clear hat hcj hrj
        cases hr : readS t with
        | none =>
          have HF0 : Hid (readF b = none) := HBAD.out (Or.inr (Or.inr (Or.inr (readSs_none (t := t) (by rw [HT.out]; exact mem_getD HLT.out) hr))))
          have HX3 : Hid (readX b = 3) := by show _ = _; rw [readX, HF0.out]; rfl
          have HE0 : Hid (readE b = zeroE) := by show _ = _; rw [readE, HF0.out]; rfl
          obtain ⟨s, HS⟩ : ∃ s, Hid (s = zeroS) := ⟨_, rfl⟩
          have HOS : Hid (okS s) := by rw [HS.out]; exact okS_zero
          have HCR : Hid (Calls Tryd.prog 33 #[.slice a3 n3 c3] wr fun e w' => ∃ aS nS cS, e = .returned (.tuple #[.agg (sgC s (.slice aS nS cS)).toArray, .int .i64 3]) ∧ OwnB w' wr.heap.size (.slice aS nS cS) s.2 ∧ Below wr.heap.size wr w') := hres.mono fun e w' h => by
            obtain ⟨aS, nS, cS, h1, h2, _, h4⟩ := h
            rw [rdX, rdS, hr] at h1
            rw [rdS, hr] at h2
            exact ⟨aS, nS, cS, by rw [HS.out]; exact h1, by rw [HS.out]; exact h2, h4⟩
          clear hres hr
          have tk40 : Hid True := trivial
          have tk41 : Hid True := trivial
          have tk43 : Hid True := trivial
          have tk44 : Hid True := trivial
          go_wp2_with (first
            | (clear tk40; go_at_call 33; refine (HCR.out).mono ?_; rintro e0 y71 ⟨aS, nS, cS, rfl, hov, hbz⟩
               clear ckk HCR
               replace HR2 : Hid (Blk y71 g2 cz 32) := HR2.out.below hbz HR2.out.lt
               have HOV : Hid (OwnB y71 (g6 + 1) (.slice aS nS cS) s.2) := hov.mono HI.out.row.lt
               replace HI : Hid (RrI y2 g6 n rs L y71) := HI.out.next hbz
               clear hbz hov)
            | (clear tk41; with_reducible refine wpSeq_storeRowS (.tmp 44) (.tmp 42) g6 k (L ++ zeroL (n - L.length)) s aS nS cS HI.out.row (by rw [HI.out.room]; exact hlt) HOS.out ?_ ?_ ?_ ?_ ?_
               · rfl
               · first | rfl | (simp [Act.eval]; done)
               · rfl
               · rfl
               intro y72 hrow hon
               have HI7 : Hid (RrI y2 g6 n (rs ++ [s]) (L ++ [(s, .slice aS nS cS)]) y72) := HI.out.put HLR.out hlt HOV.out hrow hon
               have HR7 : Hid (Blk y72 g2 cz 32) := HR2.out.only hon (by have h1 := HR20.out.lt; have h2 := HI.out.ge; omega)
               clear hrow hon HR2 HI HOV)
            | (clear tk43; with_reducible refine wpSeq_build 32 [] cz ?_ ?_ ?_ ?_
               · exact (built_evid []).trans (by rw [HCZ.out]; rfl)
               · rfl
               · rfl)
            | (clear tk44; with_reducible refine wpSeq_storeRow 32 (.tmp 2) (.tmp 47) g2 cz cz ?_ ?_ ?_ ?_ ?_ ?_ ?_ ?_ ?_
               · exact HR7.out
               · rfl
               · exact HOZ.out.info
               · exact HOZ.out.one
               · rfl
               · rfl
               · rfl
               · rfl
               intro y99 hs))
          have HBZ : Hid (Below w.heap.size w y72) := HBW2.out.trans (HI7.out.bel.mono HBW2.out.size)
          exact bodyPost_ret (results_row_tmp (by rfl) _ _ g2 _ rfl (var_evB hs.blk HOZ.out)) rfl ⟨cz, by rw [HX3.out]; rfl, by rw [HE0.out, HCZ.out]; exact fun _ _ => EvB.zero _, HBZ.out.trans (hs.only.below HG2.out HBZ.out.size)⟩
        | some s =>
          have hokt := ((readS_iff _ _).1 hr).1.1
          have HOS : Hid (okS s) := hokt
          have HCR : Hid (Calls Tryd.prog 33 #[.slice a3 n3 c3] wr fun e w' => ∃ aS nS cS, e = .returned (.tuple #[.agg (sgC s (.slice aS nS cS)).toArray, .int .i64 0]) ∧ OwnB w' wr.heap.size (.slice aS nS cS) s.2 ∧ Below wr.heap.size wr w') := hres.mono fun e w' h => by
            obtain ⟨aS, nS, cS, h1, h2, _, h4⟩ := h
            rw [rdX, rdS, hr] at h1
            rw [rdS, hr] at h2
            exact ⟨aS, nS, cS, h1, h2, h4⟩
          have HRS2 : Hid (readSs (ts.take (k + 1)) = some (rs ++ [s])) := by show _ = _; rw [takeB_more HLT.out, ← HT.out]; exact readSs_some HRS.out hr
          clear hres hr hokt
          have tk40 : Hid True := trivial
          have tk41 : Hid True := trivial
          go_wp2_with (first
            | (clear tk40; go_at_call 33; refine (HCR.out).mono ?_; rintro e0 y71 ⟨aS, nS, cS, rfl, hov, hbz⟩
               clear ckk HCR
               replace HR2 : Hid (Blk y71 g2 cz 32) := HR2.out.below hbz HR2.out.lt
               have HOV : Hid (OwnB y71 (g6 + 1) (.slice aS nS cS) s.2) := hov.mono HI.out.row.lt
               replace HI : Hid (RrI y2 g6 n rs L y71) := HI.out.next hbz
               clear hbz hov)
            | (clear tk41; with_reducible refine wpSeq_storeRowS (.tmp 44) (.tmp 42) g6 k (L ++ zeroL (n - L.length)) s aS nS cS HI.out.row (by rw [HI.out.room]; exact hlt) HOS.out ?_ ?_ ?_ ?_ ?_
               · rfl
               · first | rfl | (simp [Act.eval]; done)
               · rfl
               · rfl
               intro y72 hrow hon
               have HI7 : Hid (RrI y2 g6 n (rs ++ [s]) (L ++ [(s, .slice aS nS cS)]) y72) := HI.out.put HLR.out hlt HOV.out hrow hon
               have HR7 : Hid (Blk y72 g2 cz 32) := HR2.out.only hon (by have h1 := HR20.out.lt; have h2 := HI.out.ge; omega)
               clear hrow hon HR2 HI HOV))
          go_roundw
          case rel => exact ⟨k + 1, _, _, by omega, by simp, by rw [HER0.out], HRS2, HI7⟩
          case measure => simp [intOf]; omega
theorem fkRead_any (v : Value) (b : Bs) (w : World) (hb : Reads w v b) :
    Calls Tryd.prog 13 #[v] w fun r w' => ∃ cs, r = .returned (.tuple #[.agg (cs : List Value).toArray, .int .i64 (readX b)]) ∧ EvB w' (readE b) cs ∧ Below w.heap.size w w' :=
  (fkRead_own v b w hb).mono fun _ _ ⟨cs, h1, h2, h3⟩ => ⟨cs, h1, h2.evB, h3⟩
set_option maxRecDepth 100000 in
set_option maxHeartbeats 8000000 in
theorem fkAccept_any (pin : List (BitVec 8)) (v : Value) (b : Bs) (w : World) (hK : KOk w) (hp : pin.length = 32) (hb : Reads w v b) :
    Calls Tryd.prog 16 #[.agg (cb pin).toArray, v] w fun r w' => r = .returned (.int .i64 (acceptF pin b)) ∧ Below w.heap.size w w' := by
  obtain ⟨ad, n, cp, hv⟩ := hb.form
  subst hv
  have HIP : Hid ((Tryd.prog.info? 23).map (·.size) = some (cb pin).length) := by show _ = _; rw [cb_len, hp]; exact info_digest
  obtain ⟨er, HER⟩ : ∃ t, Hid (t = readX b) := ⟨_, rfl⟩
  obtain ⟨ck, HCK⟩ : ∃ t, Hid (t = checkF pin (readE b)) := ⟨_, rfl⟩
  have HC1 : Hid (∀ W : World, Below w.heap.size w W → Calls Tryd.prog 13 #[.slice ad n cp] W fun r w' => ∃ cs, r = .returned (.tuple #[.agg (cs : List Value).toArray, .int .i64 er]) ∧ EvB w' (readE b) cs ∧ Below W.heap.size W w') := fun W hh => by rw [HER.out]; exact fkRead_any _ b W (hb.below hh)
  have HCC : Hid (∀ (W : World) (cs : List Value), Below w.heap.size w W → EvB W (readE b) cs → Calls Tryd.prog 11 #[.agg (cb pin).toArray, .agg cs.toArray] W fun r w' => r = .returned (.int .i64 ck) ∧ Below W.heap.size W w') := fun W cs hh hE => by rw [HCK.out]; exact fkCheck_any pin (readE b) cs W (hK.below hh hK.lt) hp hE (readE_len b)
  have HBW : Hid (Below w.heap.size w w) := Below.refl _ _
  clear hb hK hp
  by_cases her : er = 0
  case pos =>
    have qe : (er == 0) = true := by rw [beq_iff_eq]; exact her
    have pe : (er != 0) = false := by rw [bne, qe]; rfl
    have HZ : Hid (acceptF pin b = ck) := by show _ = _; rw [HCK.out]; exact accept_read (by rw [← HER.out]; exact her)
    clear her HCK
    go_enter Tryd.func16, Tryd.ntmps16
    have tk0 : Hid True := trivial
    have tk1 : Hid True := trivial
    have tk2 : Hid True := trivial
    have tk3 : Hid True := trivial
    have tk4 : Hid True := trivial
    have tk5 : Hid True := trivial
    have tk6 : Hid True := trivial
    go_wp2_with (first
      | (clear tk0; with_reducible refine wpSeq_boxW 23 (.tmp 0) (cb pin) ?_ ?_ ?_ ?_
         · rfl
         · rfl
         · rfl
         intro g2 y1 nn
         replace HBW : Hid (Below w.heap.size w y1) := HBW.out.trans (nn.below.mono HBW.out.size)
         have HG2 : Hid (Blk y1 g2 (cb pin) 23) := nn.blk
         clear nn
         skip)
      | (clear tk1; go_at_call 13; refine (HC1.out y1 HBW.out).mono ?_; rintro e y2 ⟨cs, rfl, heb, hbz⟩
         replace HG2 : Hid (Blk y2 g2 (cb pin) 23) := HG2.out.below hbz HG2.out.lt
         replace HBW : Hid (Below w.heap.size w y2) := HBW.out.trans (hbz.mono HBW.out.size)
         have HOE : Hid (EvOk (readE b) cs) := heb.ok
         have HEB : Hid (EvB y2 (readE b) cs) := heb
         clear hbz heb)
      | (clear tk2; with_reducible refine wpSeq_allocE ?_ ?_ ?_
         · rfl
         · rfl
         intro g5 y3 nn)
      | (clear tk3; with_reducible refine wpSeq_storeRow 32 (.tmp 5) (.tmp 10) g5 (evC zeroE (.slice none 0 0) (.slice none 0 0) (.slice none 0 0)) cs ?_ ?_ ?_ ?_ ?_ ?_ ?_ ?_ ?_
         · exact nn.blk
         · exact HOE.out.lz
         · exact HOE.out.info
         · exact HOE.out.one
         · rfl
         · rfl
         · rfl
         · rfl
         intro y4 hs
         have hbz := nn.below.trans (hs.only.below nn.ge nn.below.size)
         replace HG2 : Hid (Blk y4 g2 (cb pin) 23) := HG2.out.below hbz HG2.out.lt
         replace HEB : Hid (EvB y4 (readE b) cs) := HEB.out.below hbz
         replace HBW : Hid (Below w.heap.size w y4) := HBW.out.trans (hbz.mono HBW.out.size)
         have H5 : Hid (Blk y4 g5 cs 32) := hs.blk
         clear nn hs hbz)
      | (clear tk4; with_reducible refine wpSeq_loadW 23 (.tmp 2) g2 0 (cb pin) _ ?_ Tryd.underlying23 rfl ?_ ?_ ?_ ?_ ?_
         · exact HG2.out.range
         · exact HIP.out
         · rfl
         · rfl
         · rfl)
      | (clear tk5; with_reducible refine wpSeq_loadW 32 (.tmp 5) g5 0 cs _ ?_ Tryd.underlying32 rfl ?_ ?_ ?_ ?_ ?_
         · exact H5.out.range
         · exact HOE.out.info
         · rfl
         · rfl
         · rfl)
      | (clear tk6; go_at_call 11; refine (HCC.out y4 cs HBW.out HEB.out).mono ?_; rintro e y5 ⟨rfl, hbz⟩
         replace HG2 : Hid (Blk y5 g2 (cb pin) 23) := HG2.out.below hbz HG2.out.lt
         replace H5 : Hid (Blk y5 g5 cs 32) := H5.out.below hbz H5.out.lt
         replace HEB : Hid (EvB y5 (readE b) cs) := HEB.out.below hbz
         replace HBW : Hid (Below w.heap.size w y5) := HBW.out.trans (hbz.mono HBW.out.size)
         clear hbz ))
    go_ret
    exact ⟨by rw [HZ.out]; rfl, HBW.out⟩
  case neg =>
    have qe : (er == 0) = false := by rw [beq_eq_false_iff_ne]; exact her
    have pe : (er != 0) = true := by rw [bne, qe]; rfl
    have HZ : Hid (acceptF pin b = er) := by show _ = _; rw [HER.out]; exact accept_none (by rw [← HER.out]; exact her)
    clear her HCK
    go_enter Tryd.func16, Tryd.ntmps16
    have tk0 : Hid True := trivial
    have tk1 : Hid True := trivial
    have tk2 : Hid True := trivial
    have tk3 : Hid True := trivial
    go_wp2_with (first
      | (clear tk0; with_reducible refine wpSeq_boxW 23 (.tmp 0) (cb pin) ?_ ?_ ?_ ?_
         · rfl
         · rfl
         · rfl
         intro g2 y1 nn
         replace HBW : Hid (Below w.heap.size w y1) := HBW.out.trans (nn.below.mono HBW.out.size)
         have HG2 : Hid (Blk y1 g2 (cb pin) 23) := nn.blk
         clear nn
         skip)
      | (clear tk1; go_at_call 13; refine (HC1.out y1 HBW.out).mono ?_; rintro e y2 ⟨cs, rfl, heb, hbz⟩
         replace HG2 : Hid (Blk y2 g2 (cb pin) 23) := HG2.out.below hbz HG2.out.lt
         replace HBW : Hid (Below w.heap.size w y2) := HBW.out.trans (hbz.mono HBW.out.size)
         have HOE : Hid (EvOk (readE b) cs) := heb.ok
         have HEB : Hid (EvB y2 (readE b) cs) := heb
         clear hbz heb)
      | (clear tk2; with_reducible refine wpSeq_allocE ?_ ?_ ?_
         · rfl
         · rfl
         intro g5 y3 nn)
      | (clear tk3; with_reducible refine wpSeq_storeRow 32 (.tmp 5) (.tmp 10) g5 (evC zeroE (.slice none 0 0) (.slice none 0 0) (.slice none 0 0)) cs ?_ ?_ ?_ ?_ ?_ ?_ ?_ ?_ ?_
         · exact nn.blk
         · exact HOE.out.lz
         · exact HOE.out.info
         · exact HOE.out.one
         · rfl
         · rfl
         · rfl
         · rfl
         intro y4 hs
         have hbz := nn.below.trans (hs.only.below nn.ge nn.below.size)
         replace HG2 : Hid (Blk y4 g2 (cb pin) 23) := HG2.out.below hbz HG2.out.lt
         replace HEB : Hid (EvB y4 (readE b) cs) := HEB.out.below hbz
         replace HBW : Hid (Below w.heap.size w y4) := HBW.out.trans (hbz.mono HBW.out.size)
         have H5 : Hid (Blk y4 g5 cs 32) := hs.blk
         clear nn hs hbz))
    go_ret
    exact ⟨by rw [HZ.out]; rfl, HBW.out⟩
end Go.Proofs.YtableajopaappaaDoor
/- The walk of the reference's Same (layer 12). -/
namespace Go.Proofs.YtableajopaappaaDoor
open Go.RowKit Go.Shelf
set_option maxRecDepth 100000
structure SmI (w : World) (g2 g3 : Nat) (c2 c3 : List Value) (W : World) : Prop where
  a : Blk W g2 c2 32
  b : Blk W g3 c3 32
  bel : Below w.heap.size w W
theorem SmI.next {w : World} {g2 g3 : Nat} {c2 c3 : List Value} {W W' : World} (h : SmI w g2 g3 c2 c3 W) (hb : Below W.heap.size W W') : SmI w g2 g3 c2 c3 W' := ⟨h.a.below hb h.a.lt, h.b.below hb h.b.lt, h.bel.trans (hb.mono h.bel.size)⟩
theorem SmI.drew {w : World} {g2 g3 : Nat} {c2 c3 : List Value} {W : World} (h : SmI w g2 g3 c2 c3 W) : SmI w g2 g3 c2 c3 W.drew := h.next (Below.refl _ _).drew
end Go.Proofs.YtableajopaappaaDoor
/- ForkBack, over what fork's functions do (layer 12). -/
namespace Go.Proofs.YtableajopaappaaDoor
open Go.RowKit Go.Shelf
set_option maxRecDepth 100000
end Go.Proofs.YtableajopaappaaDoor
/- ForkReads, over what fork's functions do (layer 12). -/
namespace Go.Proofs.YtableajopaappaaDoor
open Go.RowKit Go.Shelf
set_option maxRecDepth 100000
end Go.Proofs.YtableajopaappaaDoor
/- The walk of the reference's Find (layer 12). -/
namespace Go.Proofs.YtableajopaappaaDoor
open Go.RowKit Go.Shelf
set_option maxRecDepth 100000
structure FdI (w : World) (g : Nat) (pin : Bs) (W : World) : Prop where
  pn : Blk W g (cb pin) 23
  bel : Below w.heap.size w W
theorem FdI.next {w : World} {g : Nat} {pin : Bs} {W W' : World} (h : FdI w g pin W) (hb : Below W.heap.size W W') : FdI w g pin W' := ⟨h.pn.below hb h.pn.lt, h.bel.trans (hb.mono h.bel.size)⟩
theorem FdI.drew {w : World} {g : Nat} {pin : Bs} {W : World} (h : FdI w g pin W) : FdI w g pin W.drew := h.next (Below.refl _ _).drew
theorem drop_at {l : List SgT} {k : Nat} (hk : k < l.length) : l.drop k = l.getD k zeroS :: l.drop (k + 1) := by
  have hg : l.getD k zeroS = l[k]'hk := by rw [List.getD_eq_getElem?_getD, List.getElem?_eq_getElem hk]; rfl
  rw [hg, List.getElem_cons_drop]
theorem firstU_same {l m : List SgT} {k : Nat} (hl : k < l.length) (hm : k < m.length) (h : firstU l m = (firstU (l.drop k) (m.drop k)).map (· + k)) (hs : (l.getD k zeroS).1 = (m.getD k zeroS).1) : firstU l m = (firstU (l.drop (k + 1)) (m.drop (k + 1))).map (· + (k + 1)) := by
  rw [h, drop_at hl, drop_at hm, firstU, if_pos hs, Option.map_map]
  congr 1
  funext x
  show x + 1 + k = x + (k + 1)
  omega
theorem firstU_unlike {l m : List SgT} {k : Nat} (hl : k < l.length) (hm : k < m.length) (h : firstU l m = (firstU (l.drop k) (m.drop k)).map (· + k)) (hs : (l.getD k zeroS).1 ≠ (m.getD k zeroS).1) : firstU l m = some k := by
  rw [h, drop_at hl, drop_at hm, firstU, if_neg hs]
  simp
theorem firstU_end {l m : List SgT} {k : Nat} (hk : l.length ≤ k ∨ m.length ≤ k) (h : firstU l m = (firstU (l.drop k) (m.drop k)).map (· + k)) : firstU l m = none := by
  rw [h]
  rcases hk with hk | hk
  · rw [List.drop_eq_nil_of_le hk]; cases m.drop k <;> rfl
  · rw [List.drop_eq_nil_of_le hk]; cases l.drop k <;> rfl
end Go.Proofs.YtableajopaappaaDoor
/- The walks of fork's firstUnlike and Find; what fork's functions do (layer 12). -/
namespace Go.Proofs.YtableajopaappaaDoor
open Go.RowKit Go.Shelf
set_option maxRecDepth 100000
/-- the place that is told -/
def unlikeN (l m : List SgT) : Nat := (firstU l m).getD (min l.length m.length)
set_option maxRecDepth 100000 in
set_option maxHeartbeats 8000000 in
theorem fkUnlike_any (vl vm : Value) (l m : List SgT) (w : World) (hl : ReadsS w vl l) (hm : ReadsS w vm m) (hll : l.length < 1000000) :
    Calls Tryd.prog 43 #[vl, vm] w fun r w' => r = .returned (.int .i64 (unlikeN l m : Int)) ∧ Below w.heap.size w w' := by
  obtain ⟨adl, cl, hvl⟩ := hl.form
  obtain ⟨adm, cm, hvm⟩ := hm.form
  obtain ⟨nl, HNL⟩ : ∃ n, Hid (n = l.length) := ⟨_, rfl⟩
  obtain ⟨nm, HNM⟩ : ∃ n, Hid (n = m.length) := ⟨_, rfl⟩
  obtain ⟨n, HNN⟩ : ∃ n, Hid (n = min nl nm) := ⟨_, rfl⟩
  rw [← HNL.out] at hvl
  rw [← HNM.out] at hvm
  subst hvl hvm
  have HRL : Hid (ReadsS w (.slice adl nl cl) l) := hl
  have HRM : Hid (ReadsS w (.slice adm nm cm) m) := hm
  have HLL : Hid (nl < 1000000) := by show _ < _; rw [HNL.out]; exact hll
  obtain ⟨Z, HZZ⟩ : ∃ z, Hid (z = (unlikeN l m : Int)) := ⟨_, rfl⟩
  rw [← HZZ.out]
  have HBW : Hid (Below w.heap.size w w) := Below.refl _ _
  have HNB : Hid (n ≤ nl ∧ n ≤ nm) := by rw [HNN.out]; exact ⟨Nat.min_le_left _ _, Nat.min_le_right _ _⟩
  clear hl hm hll
  go_enter Tryd.func43, Tryd.ntmps43
  have tk0 : Hid True := trivial
  go_wp2_with (first
    | (clear tk0; with_reducible refine wpSeq_min12 (.tmp 8) (.tmp 10) nl nm n HNN.out ?_ ?_ ?_ ?_ ?_
       · rfl
       · rfl
       · rfl
       · rfl))
  have HI0 : Hid (Below w.heap.size w w) := HBW.out
  clear HBW
  go_loopw [13] (fun i wr => ∃ (k : Nat), k ≤ n ∧ i = .int .i64 (k : Int) ∧ Hid (firstU l m = (firstU (l.drop k) (m.drop k)).map (· + k)) ∧ Hid (Below w.heap.size w wr)) (fun i _ => n - (intOf i).toNat)
  case atStart => exact ⟨0, by omega, rfl, (by show _ = _; simp), HI0⟩
  case round =>
    obtain ⟨k, hkn, rfl, HFU, HBW⟩ := hrel
    clear HI0
    by_cases hlt : k < n
    case neg =>
      have hlk : ¬ ((k : Int) < (n : Int)) := by omega
      have HZ : Hid (Z = (n : Int)) := by
        show _ = _
        have h0 : firstU l m = none := firstU_end (k := k) (by
          rw [← HNL.out, ← HNM.out]
          have h := HNN.out
          omega) HFU.out
        rw [HZZ.out, unlikeN, h0, HNN.out, HNL.out, HNM.out]
        rfl
      go_wp2
      go_ret
      exact ⟨by rw [HZ.out]; rfl, HBW.out⟩
    have hlk : (k : Int) < (n : Int) := by omega
    have f5 : IntKind.i64.wrap ((k : Int) + 1) = (k : Int) + 1 := by rw [IntKind.wrap_i64]; have h1 := HLL.out; have h2 := HNB.out.1; omega
    have HKL : Hid (k < nl ∧ k < nm) := by have h1 := HNB.out; exact ⟨by omega, by omega⟩
    have HL1 : Hid (k < l.length) := by show _ < _; rw [← HNL.out]; exact HKL.out.1
    have HL2 : Hid (k < m.length) := by show _ < _; rw [← HNM.out]; exact HKL.out.2
    obtain ⟨b1, o1, c1, hv1, hat1⟩ := HRL.out.at (Nat.lt_of_le_of_lt (Nat.zero_le _) HL1.out)
    obtain ⟨b2, o2, c2, hv2, hat2⟩ := HRM.out.at (Nat.lt_of_le_of_lt (Nat.zero_le _) HL2.out)
    simp only [Value.slice.injEq] at hv1 hv2
    obtain ⟨rfl, hn1, rfl⟩ := hv1
    obtain ⟨rfl, hn2, rfl⟩ := hv2
    clear hn1 hn2
    obtain ⟨v1, hs1, hr1⟩ := hat1 k HL1.out
    obtain ⟨v2, hs2, hr2⟩ := hat2 k HL2.out
    obtain ⟨s, HS⟩ : ∃ s, Hid (s = l.getD k zeroS) := ⟨_, rfl⟩
    obtain ⟨t, HT⟩ : ∃ t, Hid (t = m.getD k zeroS) := ⟨_, rfl⟩
    rw [← HS.out] at hs1 hr1
    rw [← HT.out] at hs2 hr2
    obtain ⟨rt1, HRT1⟩ : ∃ c, Hid (c = rtC s) := ⟨_, rfl⟩
    obtain ⟨rt2, HRT2⟩ : ∃ c, Hid (c = rtC t) := ⟨_, rfl⟩
    have HT1 : Hid (∀ W : World, Below w.heap.size w W → W.rangeAt b1 (o1 + k * 98) rt1) := fun W hh => by rw [HRT1.out]; exact (hs1.below hh (Nat.le_refl _)).root
    have HT2 : Hid (∀ W : World, Below w.heap.size w W → W.rangeAt b2 (o2 + k * 98) rt2) := fun W hh => by rw [HRT2.out]; exact (hs2.below hh (Nat.le_refl _)).root
    have HJ1 : Hid ((Tryd.prog.info? 27).map (·.size) = some rt1.length) := by show _ = _; rw [HRT1.out]; exact info_rtC hs1.ok
    have HJ2 : Hid ((Tryd.prog.info? 27).map (·.size) = some rt2.length) := by show _ = _; rw [HRT2.out]; exact info_rtC hs2.ok
    obtain ⟨r, HRK⟩ : ∃ r, Hid (r = decide (s.1 = t.1)) := ⟨_, rfl⟩
    have heq : ∀ wx : World, (Op.equalIn 10000 27 (.agg rt1.toArray) (.agg rt2.toArray)).run Tryd.prog wx = .ok r wx := fun wx => by rw [HRT1.out, HRT2.out, HRK.out]; exact eq_rt _ _ hs1.ok hs2.ok wx
    cases r with
    | true =>
      have HF2 : Hid (firstU l m = (firstU (l.drop (k + 1)) (m.drop (k + 1))).map (· + (k + 1))) := firstU_same HL1.out HL2.out HFU.out (by rw [← HS.out, ← HT.out]; exact of_decide_eq_true HRK.out.symm)
      clear hat1 hat2 hs1 hs2 hr1 hr2 HRT1 HRT2
      go_wp2
      refine wp_region_held_drew (S := Over (World.drew wr)) (by kernel_rfl) (Over.refl _) ?_
      intro hS
      replace HBW : Hid (Below w.heap.size w (World.drew wr)) := HBW.out.drew
      change wpAnyH _ _ _ _ _ _ _ _ (World.drew wr)
      generalize World.drew wr = y0 at *
      try simp only [Act.put, List.setIfInBounds_toArray, List.set_cons_zero, List.set_cons_succ]
      refine wpAnyH_take (i := 0) (v := .slice (some ⟨b1, o1, none⟩) nl cl) rfl (by kernel_rfl) (by kernel_rfl) (by kernel_rfl) (fun _ _ _ h => h) (Or.inl ⟨by rfl, fun wx hx => by simp [go_sem]⟩) hS ?_
      simp only [Act.put, List.getElem_toArray, List.getElem_cons_zero, List.setIfInBounds_toArray, List.set_cons_zero, List.set_cons_succ]
      refine wpAnyH_take (i := 1) (v := .int .i64 (k : Int)) rfl (by kernel_rfl) (by kernel_rfl) (by kernel_rfl) (fun _ _ _ h => h) (Or.inl ⟨by rfl, fun wx hx => by simp [go_sem]⟩) hS ?_
      simp only [Act.put, List.getElem_toArray, List.getElem_cons_succ, List.getElem_cons_zero, List.setIfInBounds_toArray, List.set_cons_zero, List.set_cons_succ]
      refine wpAnyH_take (i := 2) (v := .pointer (some ⟨b1, o1 + k * 98, none⟩)) rfl (by kernel_rfl) (by kernel_rfl) (by kernel_rfl) (fun _ _ _ h => h) (Or.inl ⟨by rfl, fun wx hx => by exact idx98 b1 o1 cl nl k HKL.out.1 _ _ _ _ rfl rfl rfl _⟩) hS ?_
      simp only [Act.put, List.getElem_toArray, List.getElem_cons_succ, List.getElem_cons_zero, List.setIfInBounds_toArray, List.set_cons_zero, List.set_cons_succ]
      refine wpAnyH_take (i := 3) (v := .pointer (some ⟨b1, o1 + k * 98, none⟩)) rfl (by kernel_rfl) (by kernel_rfl) (by kernel_rfl) (fun _ _ _ h => h) (Or.inl ⟨by rfl, fun wx hx => by simp [go_sem]⟩) hS ?_
      simp only [Act.put, List.getElem_toArray, List.getElem_cons_succ, List.getElem_cons_zero, List.setIfInBounds_toArray, List.set_cons_zero, List.set_cons_succ]
      refine wpAnyH_take (i := 4) (v := .agg rt1.toArray) rfl (by kernel_rfl) (by kernel_rfl) (by kernel_rfl) (fun _ _ _ h => h) (Or.inl ⟨by rfl, fun wx hx => by exact load_run 27 _ rfl b1 (o1 + k * 98) rfl rt1 _ (HT1.out _ (HBW.out.trans (Below.mono hx HBW.out.size))) Tryd.underlying27 rfl HJ1.out⟩) hS ?_
      simp only [Act.put, List.getElem_toArray, List.getElem_cons_succ, List.getElem_cons_zero, List.setIfInBounds_toArray, List.set_cons_zero, List.set_cons_succ]
      refine wpAnyH_take (i := 5) (v := .slice (some ⟨b2, o2, none⟩) nm cm) rfl (by kernel_rfl) (by kernel_rfl) (by kernel_rfl) (fun _ _ _ h => h) (Or.inl ⟨by rfl, fun wx hx => by simp [go_sem]⟩) hS ?_
      simp only [Act.put, List.getElem_toArray, List.getElem_cons_succ, List.getElem_cons_zero, List.setIfInBounds_toArray, List.set_cons_zero, List.set_cons_succ]
      refine wpAnyH_take (i := 6) (v := .int .i64 (k : Int)) rfl (by kernel_rfl) (by kernel_rfl) (by kernel_rfl) (fun _ _ _ h => h) (Or.inl ⟨by rfl, fun wx hx => by simp [go_sem]⟩) hS ?_
      simp only [Act.put, List.getElem_toArray, List.getElem_cons_succ, List.getElem_cons_zero, List.setIfInBounds_toArray, List.set_cons_zero, List.set_cons_succ]
      refine wpAnyH_take (i := 7) (v := .pointer (some ⟨b2, o2 + k * 98, none⟩)) rfl (by kernel_rfl) (by kernel_rfl) (by kernel_rfl) (fun _ _ _ h => h) (Or.inl ⟨by rfl, fun wx hx => by exact idx98 b2 o2 cm nm k HKL.out.2 _ _ _ _ rfl rfl rfl _⟩) hS ?_
      simp only [Act.put, List.getElem_toArray, List.getElem_cons_succ, List.getElem_cons_zero, List.setIfInBounds_toArray, List.set_cons_zero, List.set_cons_succ]
      refine wpAnyH_take (i := 8) (v := .pointer (some ⟨b2, o2 + k * 98, none⟩)) rfl (by kernel_rfl) (by kernel_rfl) (by kernel_rfl) (fun _ _ _ h => h) (Or.inl ⟨by rfl, fun wx hx => by simp [go_sem]⟩) hS ?_
      simp only [Act.put, List.getElem_toArray, List.getElem_cons_succ, List.getElem_cons_zero, List.setIfInBounds_toArray, List.set_cons_zero, List.set_cons_succ]
      refine wpAnyH_take (i := 9) (v := .agg rt2.toArray) rfl (by kernel_rfl) (by kernel_rfl) (by kernel_rfl) (fun _ _ _ h => h) (Or.inl ⟨by rfl, fun wx hx => by exact load_run 27 _ rfl b2 (o2 + k * 98) rfl rt2 _ (HT2.out _ (HBW.out.trans (Below.mono hx HBW.out.size))) Tryd.underlying27 rfl HJ2.out⟩) hS ?_
      simp only [Act.put, List.getElem_toArray, List.getElem_cons_succ, List.getElem_cons_zero, List.setIfInBounds_toArray, List.set_cons_zero, List.set_cons_succ]
      refine wpAnyH_take (i := 10) (v := .bool false) rfl (by kernel_rfl) (by kernel_rfl) (by kernel_rfl) (fun _ _ _ h => h) (Or.inl ⟨by rfl, fun wx hx => by simp [go_sem, heq]⟩) hS ?_
      simp only [Act.put, List.getElem_toArray, List.getElem_cons_succ, List.getElem_cons_zero, List.setIfInBounds_toArray, List.set_cons_zero, List.set_cons_succ]
      refine wpAnyH_done (by kernel_rfl) ?_ _
      go_wp2
      go_roundw
      case rel => exact ⟨k + 1, by omega, by simp, HF2, HBW.out.trans (Below.mono hS HBW.out.size)⟩
      case measure => simp [intOf]; omega
    | false =>
      have HZ : Hid (Z = (k : Int)) := by
        show _ = _
        rw [HZZ.out, unlikeN, firstU_unlike HL1.out HL2.out HFU.out (by rw [← HS.out, ← HT.out]; exact of_decide_eq_false HRK.out.symm)]
        rfl
      clear hat1 hat2 hs1 hs2 hr1 hr2 HRT1 HRT2
      go_wp2
      refine wp_region_held_drew (S := Over (World.drew wr)) (by kernel_rfl) (Over.refl _) ?_
      intro hS
      replace HBW : Hid (Below w.heap.size w (World.drew wr)) := HBW.out.drew
      change wpAnyH _ _ _ _ _ _ _ _ (World.drew wr)
      generalize World.drew wr = y0 at *
      try simp only [Act.put, List.setIfInBounds_toArray, List.set_cons_zero, List.set_cons_succ]
      refine wpAnyH_take (i := 0) (v := .slice (some ⟨b1, o1, none⟩) nl cl) rfl (by kernel_rfl) (by kernel_rfl) (by kernel_rfl) (fun _ _ _ h => h) (Or.inl ⟨by rfl, fun wx hx => by simp [go_sem]⟩) hS ?_
      simp only [Act.put, List.getElem_toArray, List.getElem_cons_zero, List.setIfInBounds_toArray, List.set_cons_zero, List.set_cons_succ]
      refine wpAnyH_take (i := 1) (v := .int .i64 (k : Int)) rfl (by kernel_rfl) (by kernel_rfl) (by kernel_rfl) (fun _ _ _ h => h) (Or.inl ⟨by rfl, fun wx hx => by simp [go_sem]⟩) hS ?_
      simp only [Act.put, List.getElem_toArray, List.getElem_cons_succ, List.getElem_cons_zero, List.setIfInBounds_toArray, List.set_cons_zero, List.set_cons_succ]
      refine wpAnyH_take (i := 2) (v := .pointer (some ⟨b1, o1 + k * 98, none⟩)) rfl (by kernel_rfl) (by kernel_rfl) (by kernel_rfl) (fun _ _ _ h => h) (Or.inl ⟨by rfl, fun wx hx => by exact idx98 b1 o1 cl nl k HKL.out.1 _ _ _ _ rfl rfl rfl _⟩) hS ?_
      simp only [Act.put, List.getElem_toArray, List.getElem_cons_succ, List.getElem_cons_zero, List.setIfInBounds_toArray, List.set_cons_zero, List.set_cons_succ]
      refine wpAnyH_take (i := 3) (v := .pointer (some ⟨b1, o1 + k * 98, none⟩)) rfl (by kernel_rfl) (by kernel_rfl) (by kernel_rfl) (fun _ _ _ h => h) (Or.inl ⟨by rfl, fun wx hx => by simp [go_sem]⟩) hS ?_
      simp only [Act.put, List.getElem_toArray, List.getElem_cons_succ, List.getElem_cons_zero, List.setIfInBounds_toArray, List.set_cons_zero, List.set_cons_succ]
      refine wpAnyH_take (i := 4) (v := .agg rt1.toArray) rfl (by kernel_rfl) (by kernel_rfl) (by kernel_rfl) (fun _ _ _ h => h) (Or.inl ⟨by rfl, fun wx hx => by exact load_run 27 _ rfl b1 (o1 + k * 98) rfl rt1 _ (HT1.out _ (HBW.out.trans (Below.mono hx HBW.out.size))) Tryd.underlying27 rfl HJ1.out⟩) hS ?_
      simp only [Act.put, List.getElem_toArray, List.getElem_cons_succ, List.getElem_cons_zero, List.setIfInBounds_toArray, List.set_cons_zero, List.set_cons_succ]
      refine wpAnyH_take (i := 5) (v := .slice (some ⟨b2, o2, none⟩) nm cm) rfl (by kernel_rfl) (by kernel_rfl) (by kernel_rfl) (fun _ _ _ h => h) (Or.inl ⟨by rfl, fun wx hx => by simp [go_sem]⟩) hS ?_
      simp only [Act.put, List.getElem_toArray, List.getElem_cons_succ, List.getElem_cons_zero, List.setIfInBounds_toArray, List.set_cons_zero, List.set_cons_succ]
      refine wpAnyH_take (i := 6) (v := .int .i64 (k : Int)) rfl (by kernel_rfl) (by kernel_rfl) (by kernel_rfl) (fun _ _ _ h => h) (Or.inl ⟨by rfl, fun wx hx => by simp [go_sem]⟩) hS ?_
      simp only [Act.put, List.getElem_toArray, List.getElem_cons_succ, List.getElem_cons_zero, List.setIfInBounds_toArray, List.set_cons_zero, List.set_cons_succ]
      refine wpAnyH_take (i := 7) (v := .pointer (some ⟨b2, o2 + k * 98, none⟩)) rfl (by kernel_rfl) (by kernel_rfl) (by kernel_rfl) (fun _ _ _ h => h) (Or.inl ⟨by rfl, fun wx hx => by exact idx98 b2 o2 cm nm k HKL.out.2 _ _ _ _ rfl rfl rfl _⟩) hS ?_
      simp only [Act.put, List.getElem_toArray, List.getElem_cons_succ, List.getElem_cons_zero, List.setIfInBounds_toArray, List.set_cons_zero, List.set_cons_succ]
      refine wpAnyH_take (i := 8) (v := .pointer (some ⟨b2, o2 + k * 98, none⟩)) rfl (by kernel_rfl) (by kernel_rfl) (by kernel_rfl) (fun _ _ _ h => h) (Or.inl ⟨by rfl, fun wx hx => by simp [go_sem]⟩) hS ?_
      simp only [Act.put, List.getElem_toArray, List.getElem_cons_succ, List.getElem_cons_zero, List.setIfInBounds_toArray, List.set_cons_zero, List.set_cons_succ]
      refine wpAnyH_take (i := 9) (v := .agg rt2.toArray) rfl (by kernel_rfl) (by kernel_rfl) (by kernel_rfl) (fun _ _ _ h => h) (Or.inl ⟨by rfl, fun wx hx => by exact load_run 27 _ rfl b2 (o2 + k * 98) rfl rt2 _ (HT2.out _ (HBW.out.trans (Below.mono hx HBW.out.size))) Tryd.underlying27 rfl HJ2.out⟩) hS ?_
      simp only [Act.put, List.getElem_toArray, List.getElem_cons_succ, List.getElem_cons_zero, List.setIfInBounds_toArray, List.set_cons_zero, List.set_cons_succ]
      refine wpAnyH_take (i := 10) (v := .bool true) rfl (by kernel_rfl) (by kernel_rfl) (by kernel_rfl) (fun _ _ _ h => h) (Or.inl ⟨by rfl, fun wx hx => by simp [go_sem, heq]⟩) hS ?_
      simp only [Act.put, List.getElem_toArray, List.getElem_cons_succ, List.getElem_cons_zero, List.setIfInBounds_toArray, List.set_cons_zero, List.set_cons_succ]
      refine wpAnyH_done (by kernel_rfl) ?_ _
      go_wp2
      go_ret
      exact ⟨by rw [HZ.out]; rfl, HBW.out.trans (Below.mono hS HBW.out.size)⟩
set_option maxRecDepth 100000 in
set_option maxHeartbeats 8000000 in
theorem fkFind_any (pin : Bs) (vl vm : Value) (l m : List SgT) (w : World) (hK : KOk w) (hp : pin.length = 32) (hl : ReadsS w vl l) (hm : ReadsS w vm m) (hl40 : l.length ≤ 40) (_ : m.length ≤ 40) (hzl : ∀ s ∈ l, s.2.length ≤ 524288) (hzm : ∀ s ∈ m, s.2.length ≤ 524288) :
    Calls Tryd.prog 21 #[.agg (cb pin).toArray, vl, vm] w fun r w' => ∃ cs, r = .returned (.tuple #[.agg (cs : List Value).toArray, .bool (findF pin l m).isSome]) ∧ EvB w' (findE pin l m) cs ∧ Below w.heap.size w w' := by
  obtain ⟨adl, cl, hvl⟩ := hl.form
  obtain ⟨adm, cm, hvm⟩ := hm.form
  obtain ⟨nl, HNL⟩ : ∃ n, Hid (n = l.length) := ⟨_, rfl⟩
  obtain ⟨nm, HNM⟩ : ∃ n, Hid (n = m.length) := ⟨_, rfl⟩
  obtain ⟨n, HNN⟩ : ∃ n, Hid (n = min nl nm) := ⟨_, rfl⟩
  have hcl0 : ∀ k, k ≤ l.length → k ≤ cl := fun k hk => by
    obtain ⟨⟨ad', cap, hv, hc, _⟩, _⟩ := id hl
    rw [hvl] at hv
    simp only [Value.slice.injEq] at hv
    obtain ⟨_, _, rfl⟩ := hv
    omega
  rw [← HNL.out] at hvl
  rw [← HNM.out] at hvm
  subst hvl hvm
  have HRL : Hid (ReadsS w (.slice adl nl cl) l) := hl
  have HRM : Hid (ReadsS w (.slice adm nm cm) m) := hm
  have HCL : Hid (∀ k, k ≤ l.length → k ≤ cl) := hcl0
  have HPL : Hid (pin.length = 32) := hp
  have HIP : Hid ((Tryd.prog.info? 23).map (·.size) = some (cb pin).length) := by show _ = _; rw [cb_len, hp]; exact info_digest
  have HL40 : Hid (l.length ≤ 40) := hl40
  have HZL : Hid ((∀ s ∈ l, s.2.length ≤ 524288) ∧ ∀ s ∈ m, s.2.length ≤ 524288) := ⟨hzl, hzm⟩
  have HKW : Hid (∀ W : World, Below w.heap.size w W → KOk W) := fun W hh => hK.below hh hK.lt
  have HBW : Hid (Below w.heap.size w w) := Below.refl _ _
  obtain ⟨cz, HCZ⟩ : ∃ c, Hid (c = evC zeroE (.slice none 0 0) (.slice none 0 0) (.slice none 0 0)) := ⟨_, rfl⟩
  have HOZ : Hid (EvOk zeroE cz) := by rw [HCZ.out]; exact (EvB.zero w).ok
  have hcu : ∀ W : World, Below w.heap.size w W → Calls Tryd.prog 43 #[.slice adl nl cl, .slice adm nm cm] W fun r w' => r = .returned (.int .i64 (unlikeN l m : Int)) ∧ Below W.heap.size W w' := fun W hh => fkUnlike_any _ _ l m W (HRL.out.below hh) (HRM.out.below hh) (by omega)
  clear hl hm hp hK hl40 hzl hzm hcl0
  cases hfu : firstU l m with
  | none =>
    have HF0 : Hid (findF pin l m = none) := by show _ = _; rw [findF, hfu]
    have HFI : Hid ((findF pin l m).isSome = false) := by show _ = _; rw [HF0.out]; rfl
    have HFE : Hid (findE pin l m = zeroE) := by show _ = _; rw [findE, HF0.out]; rfl
    have HCU : Hid (∀ W : World, Below w.heap.size w W → Calls Tryd.prog 43 #[.slice adl nl cl, .slice adm nm cm] W fun r w' => r = .returned (.int .i64 (n : Int)) ∧ Below W.heap.size W w') := fun W hh => by
      have h := hcu W hh
      rw [unlikeN, hfu, ← HNL.out, ← HNM.out] at h
      rw [HNN.out]
      exact h
    clear hcu hfu
    go_enter Tryd.func21, Tryd.ntmps21
    have tk0 : Hid True := trivial
    have tk1 : Hid True := trivial
    have tk2 : Hid True := trivial
    have tk3 : Hid True := trivial
    have tk20 : Hid True := trivial
    have tk21 : Hid True := trivial
    go_wp2_with (first
      | (clear tk0; with_reducible refine wpSeq_boxW 23 (.tmp 0) (cb pin) ?_ ?_ ?_ ?_
         · rfl
         · rfl
         · rfl
         intro g3 y1 nn
         have HG3 : Hid (Blk y1 g3 (cb pin) 23) := nn.blk
         replace HBW : Hid (Below w.heap.size w y1) := nn.below
         clear nn)
      | (clear tk1; with_reducible refine wpSeq_allocE ?_ ?_ ?_
         · rfl
         · rfl
         intro g6 y2 nn
         have HG6 : Hid (w.heap.size ≤ g6) := Nat.le_trans HBW.out.size nn.ge
         have H6 : Hid (Blk y2 g6 cz 32) := by rw [HCZ.out]; exact nn.blk
         replace HG3 : Hid (Blk y2 g3 (cb pin) 23) := HG3.out.below nn.below HG3.out.lt
         replace HBW : Hid (Below w.heap.size w y2) := HBW.out.trans (nn.below.mono HBW.out.size)
         clear nn)
      | (clear tk2; go_at_call 43; refine (HCU.out y2 HBW.out).mono ?_; rintro e0 y3 ⟨rfl, hbz⟩
         replace HG3 : Hid (Blk y3 g3 (cb pin) 23) := HG3.out.below hbz HG3.out.lt
         replace H6 : Hid (Blk y3 g6 cz 32) := H6.out.below hbz H6.out.lt
         replace HBW : Hid (Below w.heap.size w y3) := HBW.out.trans (hbz.mono HBW.out.size)
         clear hbz)
      | (clear tk3; with_reducible refine wpSeq_min12 (.tmp 17) (.tmp 19) nl nm n HNN.out ?_ ?_ ?_ ?_ ?_
         · rfl
         · rfl
         · rfl
         · rfl)
      | (clear tk20; with_reducible refine wpSeq_build 32 [] cz ?_ ?_ ?_ ?_
         · exact (built_evid []).trans (by rw [HCZ.out]; rfl)
         · rfl
         · rfl)
      | (clear tk21; with_reducible refine wpSeq_storeRow 32 (.tmp 6) (.tmp 22) g6 cz cz ?_ ?_ ?_ ?_ ?_ ?_ ?_ ?_ ?_
         · exact H6.out
         · rfl
         · exact HOZ.out.info
         · exact HOZ.out.one
         · rfl
         · rfl
         · rfl
         · rfl
         intro y99 hs9))
    exact bodyPost_ret (results_row_tmp (by rfl) _ _ g6 _ rfl (var_evB hs9.blk HOZ.out)) rfl ⟨cz, by rw [HFI.out]; rfl, by rw [HFE.out, HCZ.out]; exact EvB.zero _, HBW.out.trans (hs9.only.below HG6.out HBW.out.size)⟩
  | some k =>
    obtain ⟨hk1, hk2, hne, hlike⟩ := firstU_some l m k hfu
    have HKL : Hid (k < nl ∧ k < nm) := by rw [HNL.out, HNM.out]; exact ⟨hk1, hk2⟩
    have HCU : Hid (∀ W : World, Below w.heap.size w W → Calls Tryd.prog 43 #[.slice adl nl cl, .slice adm nm cm] W fun r w' => r = .returned (.int .i64 (k : Int)) ∧ Below W.heap.size W w') := fun W hh => by
      have h := hcu W hh
      rw [unlikeN, hfu] at h
      exact h
    have qn : ((k : Int) == (n : Int)) = false := by
      rw [beq_eq_false_iff_ne]
      have h1 := HKL.out
      have h2 := HNN.out
      omega
    have HFU : Hid (firstU l m = some k) := hfu
    clear hcu hfu hk1 hk2 hne hlike
    have HL1 : Hid (k < l.length) := by show _ < _; rw [← HNL.out]; exact HKL.out.1
    have HL2 : Hid (k < m.length) := by show _ < _; rw [← HNM.out]; exact HKL.out.2
    obtain ⟨b1, o1, c1, hv1, hat1⟩ := HRL.out.at (Nat.lt_of_le_of_lt (Nat.zero_le _) HL1.out)
    obtain ⟨b2, o2, c2, hv2, hat2⟩ := HRM.out.at (Nat.lt_of_le_of_lt (Nat.zero_le _) HL2.out)
    simp only [Value.slice.injEq] at hv1 hv2
    obtain ⟨rfl, hn1, rfl⟩ := hv1
    obtain ⟨rfl, hn2, rfl⟩ := hv2
    clear hn1 hn2
    obtain ⟨v1, hs1, hr1⟩ := hat1 k HL1.out
    obtain ⟨v2, hs2, hr2⟩ := hat2 k HL2.out
    obtain ⟨s, HS⟩ : ∃ s, Hid (s = l.getD k zeroS) := ⟨_, rfl⟩
    obtain ⟨t, HT⟩ : ∃ t, Hid (t = m.getD k zeroS) := ⟨_, rfl⟩
    rw [← HS.out] at hs1 hr1
    rw [← HT.out] at hs2 hr2
    have HKC : Hid (k ≤ cl) := HCL.out k (Nat.le_of_lt HL1.out)
    obtain ⟨a1, n1, d1, hw1⟩ := hr1.form
    obtain ⟨a2, n2, d2, hw2⟩ := hr2.form
    subst hw1 hw2
    obtain ⟨ck1, HK1⟩ : ∃ c, Hid (c = sgC s (.slice a1 n1 d1)) := ⟨_, rfl⟩
    obtain ⟨ck2, HK2⟩ : ∃ c, Hid (c = sgC t (.slice a2 n2 d2)) := ⟨_, rfl⟩
    have HR1 : Hid (∀ W : World, Below w.heap.size w W → W.rangeAt b1 (o1 + k * 98) ck1) := fun W hh => by rw [HK1.out]; exact (hs1.below hh (Nat.le_refl _)).all
    have HR2 : Hid (∀ W : World, Below w.heap.size w W → W.rangeAt b2 (o2 + k * 98) ck2) := fun W hh => by rw [HK2.out]; exact (hs2.below hh (Nat.le_refl _)).all
    have HI1 : Hid ((Tryd.prog.info? 30).map (·.size) = some ck1.length) := by show _ = _; rw [HK1.out]; exact info_sgC hs1.ok _
    have HI2 : Hid ((Tryd.prog.info? 30).map (·.size) = some ck2.length) := by show _ = _; rw [HK2.out]; exact info_sgC hs2.ok _
    obtain ⟨e, HE⟩ : ∃ e, Hid (e = (l.take k, s, t)) := ⟨_, rfl⟩
    obtain ⟨ce, HCE⟩ : ∃ c, Hid (c = evC e (.slice (some ⟨b1, o1, none⟩) k cl) (.slice a1 n1 d1) (.slice a2 n2 d2)) := ⟨_, rfl⟩
    have HBE : Hid (∀ ps : List (Nat × Value), ps = [(0, .slice (some ⟨b1, o1, none⟩) k cl), (1, .agg ck1.toArray), (2, .agg ck2.toArray)] → Tryd.prog.built 32 ps = some ce.toArray) := fun ps hps => by subst hps; rw [HCE.out, HK1.out, HK2.out, HE.out]; exact (built_evid _).trans (fill_ev (e := (l.take k, s, t)) hs1.ok hs2.ok)
    have HEB : Hid (∀ W : World, Below w.heap.size w W → EvB W e ce) := fun W hh => by rw [HCE.out, HE.out]; exact EvIs.evB (e := (l.take k, s, t)) ⟨(HRL.out.below hh).take (Nat.le_of_lt HL1.out), hr1.below hh, hr2.below hh, hs1.ok, hs2.ok⟩
    have HOK : Hid (EvOk e ce) := (HEB.out w HBW.out).ok
    have HLE : Hid (e.1.length ≤ 40) := by rw [HE.out]; show (l.take k).length ≤ _; rw [List.length_take]; have := HL40.out; omega
    have HSA : Hid (∀ s ∈ allE e, okS s ∧ s.2.length ≤ 524288) := by
      rw [HE.out]
      intro x hx
      have ms : s ∈ l := by rw [HS.out, List.getD_eq_getElem?_getD, List.getElem?_eq_getElem HL1.out]; exact List.getElem_mem HL1.out
      have mt : t ∈ m := by rw [HT.out, List.getD_eq_getElem?_getD, List.getElem?_eq_getElem HL2.out]; exact List.getElem_mem HL2.out
      rcases List.mem_append.1 hx with hx | hx
      · exact ⟨HRL.out.2 x (List.mem_of_mem_take hx), HZL.out.1 x (List.mem_of_mem_take hx)⟩
      · rcases List.mem_cons.1 hx with rfl | hx
        · exact ⟨hs1.ok, HZL.out.1 _ ms⟩
        · rw [List.mem_singleton.1 hx]; exact ⟨hs2.ok, HZL.out.2 _ mt⟩
    have HFD : Hid (readF (bytesF e) = some e) := read_back (okB_light (by have := HLE.out; omega) HSA.out)
    obtain ⟨ck, HCK0⟩ : ∃ c, Hid (c = checkF pin e) := ⟨_, rfl⟩
    have HFF : Hid (findF pin l m = if ck = 0 then some e else none) := by show _ = _; rw [findF, HFU.out, HCK0.out, HE.out, HS.out, HT.out]
    have HCK : Hid (∀ W : World, Below w.heap.size w W → Calls Tryd.prog 11 #[.agg (cb pin).toArray, .agg ce.toArray] W fun r' w' => r' = .returned (.int .i64 ck) ∧ Below W.heap.size W w') := fun W hh => by rw [HCK0.out]; exact fkCheck_any pin e ce W (HKW.out W hh) HPL.out (HEB.out W hh) (by have := HLE.out; omega)
    have HCB : Hid (∀ W : World, Below w.heap.size w W → Calls Tryd.prog 18 #[.agg ce.toArray] W fun r' w' => ∃ v, r' = .returned v ∧ Reads w' v (bytesF e) ∧ Below W.heap.size W w') := fun W hh => fkBytes_any e ce W (HEB.out W hh) (by have := HLE.out; omega) (fun s hs => by have := (HSA.out s hs).2; omega)
    have HCR : Hid (∀ (W : World) (v : Value), Reads W v (bytesF e) → Calls Tryd.prog 13 #[v] W fun r w' => ∃ cs, r = .returned (.tuple #[.agg (cs : List Value).toArray, .int .i64 0]) ∧ EvF W w' e cs ∧ Below W.heap.size W w') := fun W v hr => by
      have h := fkRead_own v (bytesF e) W hr
      rw [readX, readE, HFD.out] at h
      exact h
    clear hat1 hat2 hs1 hs2 hr1 hr2 HCE HK1 HK2
    by_cases hck : ck = 0
    case pos =>
      have qc : (ck == 0) = true := by rw [beq_iff_eq]; exact hck
      have pc : (ck != 0) = false := by rw [bne, qc]; rfl
      have HFI : Hid ((findF pin l m).isSome = true) := by show _ = _; rw [HFF.out, if_pos hck]; rfl
      have HFE : Hid (findE pin l m = e) := by show _ = _; rw [findE, HFF.out, if_pos hck]; rfl
      clear hck
      go_enter Tryd.func21, Tryd.ntmps21
      have tk0 : Hid True := trivial
      have tk1 : Hid True := trivial
      have tk2 : Hid True := trivial
      have tk3 : Hid True := trivial
      go_upto_region 4 with (first
        | (clear tk0; with_reducible refine wpSeq_boxW 23 (.tmp 0) (cb pin) ?_ ?_ ?_ ?_
           · rfl
           · rfl
           · rfl
           intro g3 y1 nn
           have HG3 : Hid (Blk y1 g3 (cb pin) 23) := nn.blk
           replace HBW : Hid (Below w.heap.size w y1) := nn.below
           clear nn)
        | (clear tk1; with_reducible refine wpSeq_allocE ?_ ?_ ?_
           · rfl
           · rfl
           intro g6 y2 nn
           have HG6 : Hid (w.heap.size ≤ g6) := Nat.le_trans HBW.out.size nn.ge
           have H6 : Hid (Blk y2 g6 cz 32) := by rw [HCZ.out]; exact nn.blk
           replace HG3 : Hid (Blk y2 g3 (cb pin) 23) := HG3.out.below nn.below HG3.out.lt
           replace HBW : Hid (Below w.heap.size w y2) := HBW.out.trans (nn.below.mono HBW.out.size)
           clear nn)
        | (clear tk2; go_at_call 43; refine (HCU.out y2 HBW.out).mono ?_; rintro e0 y3 ⟨rfl, hbz⟩
           replace HG3 : Hid (Blk y3 g3 (cb pin) 23) := HG3.out.below hbz HG3.out.lt
           replace H6 : Hid (Blk y3 g6 cz 32) := H6.out.below hbz H6.out.lt
           replace HBW : Hid (Below w.heap.size w y3) := HBW.out.trans (hbz.mono HBW.out.size)
           clear hbz)
        | (clear tk3; with_reducible refine wpSeq_min12 (.tmp 17) (.tmp 19) nl nm n HNN.out ?_ ?_ ?_ ?_ ?_
           · rfl
           · rfl
           · rfl
           · rfl))
      refine wp_region_held_drew (S := Over (World.drew y3)) (by kernel_rfl) (Over.refl _) ?_
      intro hS
      replace HBW : Hid (Below w.heap.size w (World.drew y3)) := HBW.out.drew
      replace HG3 : Hid (Blk (World.drew y3) g3 (cb pin) 23) := HG3.out.drew
      replace H6 : Hid (Blk (World.drew y3) g6 cz 32) := H6.out.drew
      change wpAnyH _ _ _ _ _ _ _ _ (World.drew y3)
      generalize World.drew y3 = y0 at *
      try simp only [Act.put, List.setIfInBounds_toArray, List.set_cons_zero, List.set_cons_succ]
      refine wpAnyH_take (i := 0) (v := .slice (some ⟨b1, o1, none⟩) nl cl) rfl (by kernel_rfl) (by kernel_rfl) (by kernel_rfl) (fun _ _ _ h => h) (Or.inl ⟨by rfl, fun wx hx => by simp [go_sem]⟩) hS ?_
      simp only [Act.put, List.getElem_toArray, List.getElem_cons_zero, List.setIfInBounds_toArray, List.set_cons_zero, List.set_cons_succ]
      refine wpAnyH_take (i := 1) (v := .int .i64 (k : Int)) rfl (by kernel_rfl) (by kernel_rfl) (by kernel_rfl) (fun _ _ _ h => h) (Or.inl ⟨by rfl, fun wx hx => by simp [go_sem]⟩) hS ?_
      simp only [Act.put, List.getElem_toArray, List.getElem_cons_succ, List.getElem_cons_zero, List.setIfInBounds_toArray, List.set_cons_zero, List.set_cons_succ]
      refine wpAnyH_take (i := 2) (v := .slice (some ⟨b1, o1, none⟩) k cl) rfl (by kernel_rfl) (by kernel_rfl) (by kernel_rfl) (fun _ _ _ h => h) (Or.inl ⟨by rfl, fun wx hx => by exact takeS_op _ _ _ _ rfl (some ⟨b1, o1, none⟩) nl cl k rfl rfl HKC.out wx⟩) hS ?_
      simp only [Act.put, List.getElem_toArray, List.getElem_cons_succ, List.getElem_cons_zero, List.setIfInBounds_toArray, List.set_cons_zero, List.set_cons_succ]
      refine wpAnyH_take (i := 3) (v := .slice (some ⟨b1, o1, none⟩) nl cl) rfl (by kernel_rfl) (by kernel_rfl) (by kernel_rfl) (fun _ _ _ h => h) (Or.inl ⟨by rfl, fun wx hx => by simp [go_sem]⟩) hS ?_
      simp only [Act.put, List.getElem_toArray, List.getElem_cons_succ, List.getElem_cons_zero, List.setIfInBounds_toArray, List.set_cons_zero, List.set_cons_succ]
      refine wpAnyH_take (i := 4) (v := .int .i64 (k : Int)) rfl (by kernel_rfl) (by kernel_rfl) (by kernel_rfl) (fun _ _ _ h => h) (Or.inl ⟨by rfl, fun wx hx => by simp [go_sem]⟩) hS ?_
      simp only [Act.put, List.getElem_toArray, List.getElem_cons_succ, List.getElem_cons_zero, List.setIfInBounds_toArray, List.set_cons_zero, List.set_cons_succ]
      refine wpAnyH_take (i := 5) (v := .pointer (some ⟨b1, o1 + k * 98, none⟩)) rfl (by kernel_rfl) (by kernel_rfl) (by kernel_rfl) (fun _ _ _ h => h) (Or.inl ⟨by rfl, fun wx hx => by exact idx98 b1 o1 cl nl k HKL.out.1 _ _ _ _ rfl rfl rfl _⟩) hS ?_
      simp only [Act.put, List.getElem_toArray, List.getElem_cons_succ, List.getElem_cons_zero, List.setIfInBounds_toArray, List.set_cons_zero, List.set_cons_succ]
      refine wpAnyH_take (i := 6) (v := .agg ck1.toArray) rfl (by kernel_rfl) (by kernel_rfl) (by kernel_rfl) (fun _ _ _ h => h) (Or.inl ⟨by rfl, fun wx hx => by exact load_run 30 _ rfl b1 (o1 + k * 98) rfl ck1 _ (HR1.out _ (HBW.out.trans (Below.mono hx HBW.out.size))) Tryd.underlying30 rfl HI1.out⟩) hS ?_
      simp only [Act.put, List.getElem_toArray, List.getElem_cons_succ, List.getElem_cons_zero, List.setIfInBounds_toArray, List.set_cons_zero, List.set_cons_succ]
      refine wpAnyH_take (i := 7) (v := .slice (some ⟨b2, o2, none⟩) nm cm) rfl (by kernel_rfl) (by kernel_rfl) (by kernel_rfl) (fun _ _ _ h => h) (Or.inl ⟨by rfl, fun wx hx => by simp [go_sem]⟩) hS ?_
      simp only [Act.put, List.getElem_toArray, List.getElem_cons_succ, List.getElem_cons_zero, List.setIfInBounds_toArray, List.set_cons_zero, List.set_cons_succ]
      refine wpAnyH_take (i := 8) (v := .int .i64 (k : Int)) rfl (by kernel_rfl) (by kernel_rfl) (by kernel_rfl) (fun _ _ _ h => h) (Or.inl ⟨by rfl, fun wx hx => by simp [go_sem]⟩) hS ?_
      simp only [Act.put, List.getElem_toArray, List.getElem_cons_succ, List.getElem_cons_zero, List.setIfInBounds_toArray, List.set_cons_zero, List.set_cons_succ]
      refine wpAnyH_take (i := 9) (v := .pointer (some ⟨b2, o2 + k * 98, none⟩)) rfl (by kernel_rfl) (by kernel_rfl) (by kernel_rfl) (fun _ _ _ h => h) (Or.inl ⟨by rfl, fun wx hx => by exact idx98 b2 o2 cm nm k HKL.out.2 _ _ _ _ rfl rfl rfl _⟩) hS ?_
      simp only [Act.put, List.getElem_toArray, List.getElem_cons_succ, List.getElem_cons_zero, List.setIfInBounds_toArray, List.set_cons_zero, List.set_cons_succ]
      refine wpAnyH_take (i := 10) (v := .agg ck2.toArray) rfl (by kernel_rfl) (by kernel_rfl) (by kernel_rfl) (fun _ _ _ h => h) (Or.inl ⟨by rfl, fun wx hx => by exact load_run 30 _ rfl b2 (o2 + k * 98) rfl ck2 _ (HR2.out _ (HBW.out.trans (Below.mono hx HBW.out.size))) Tryd.underlying30 rfl HI2.out⟩) hS ?_
      simp only [Act.put, List.getElem_toArray, List.getElem_cons_succ, List.getElem_cons_zero, List.setIfInBounds_toArray, List.set_cons_zero, List.set_cons_succ]
      refine wpAnyH_take (i := 11) (v := .agg ce.toArray) rfl (by kernel_rfl) (by kernel_rfl) (by kernel_rfl) (fun _ _ _ h => h) (Or.inl ⟨by rfl, fun wx hx => by refine build_op _ _ 32 [(0, .tmp 25), (1, .tmp 29), (2, .tmp 33)] rfl _ ?_ _; exact HBE.out _ rfl⟩) hS ?_
      simp only [Act.put, List.getElem_toArray, List.getElem_cons_succ, List.getElem_cons_zero, List.setIfInBounds_toArray, List.set_cons_zero, List.set_cons_succ]
      have hb := below_alloc y0 (.cells (evC zeroE (.slice none 0 0) (.slice none 0 0) (.slice none 0 0)).toArray 32)
      have hba : Blk (y0.alloc (.cells (evC zeroE (.slice none 0 0) (.slice none 0 0) (.slice none 0 0)).toArray 32)) y0.heap.size (evC zeroE (.slice none 0 0) (.slice none 0 0) (.slice none 0 0)) 32 := Blk.new _ _ _
      have hsz : y0.heap.size ≤ y0.heap.size := Below.size hS
      replace hS := Over.more hS hb
      refine wpAnyH_step 12 (.pointer (some ⟨y0.heap.size, 0, none⟩)) (y0.alloc (.cells (evC zeroE (.slice none 0 0) (.slice none 0 0) (.slice none 0 0)).toArray 32)) (by kernel_rfl) rfl (by rfl) (alloc_ev _ _ rfl _) hS ?_
      simp only [Act.put, List.getElem_toArray, List.getElem_cons_succ, List.getElem_cons_zero, List.setIfInBounds_toArray, List.set_cons_zero, List.set_cons_succ]
      clear hb
      generalize y0.alloc (.cells (evC zeroE (.slice none 0 0) (.slice none 0 0) (.slice none 0 0)).toArray 32) = z1 at *
      obtain ⟨ga, HGA⟩ : ∃ z, Hid (z = y0.heap.size) := ⟨_, rfl⟩
      have hgw : y0.heap.size ≤ ga := by rw [HGA.out]; exact hsz
      rw [← HGA.out] at hba ⊢
      clear HGA hsz
      refine wpAnyH_storeRow 13 32 (.tmp 9) (.tmp 34) ga (evC zeroE (.slice none 0 0) (.slice none 0 0) (.slice none 0 0)) (ce) hba HOK.out.lz HOK.out.info HOK.out.one (by kernel_rfl) rfl (by rfl) rfl rfl rfl ?_
      intro yE hs
      replace hS : Over y0 yE := Below.trans hS (hs.only.below hgw (Below.size hS))
      refine ⟨hS, ?_⟩
      simp only [Act.put, List.getElem_toArray, List.getElem_cons_succ, List.getElem_cons_zero]
      refine wpAnyH_done (by kernel_rfl) ?_ _
      replace HG3 : Hid (Blk yE g3 (cb pin) 23) := HG3.out.below hS HG3.out.lt
      replace H6 : Hid (Blk yE g6 cz 32) := H6.out.below hS H6.out.lt
      replace HBW : Hid (Below w.heap.size w yE) := HBW.out.trans (Below.mono hS HBW.out.size)
      have H9 : Hid (Blk yE ga ce 32) := hs.blk
      clear hs hS hgw
      have tk30 : Hid True := trivial
      have tk40 : Hid True := trivial
      have tk41 : Hid True := trivial
      have tk42 : Hid True := trivial
      have tk43 : Hid True := trivial
      have tk44 : Hid True := trivial
      have tk45 : Hid True := trivial
      have tk46 : Hid True := trivial
      have tk47 : Hid True := trivial
      have tk48 : Hid True := trivial
      go_wp2_with (first
        | (clear tk40; with_reducible refine wpSeq_loadW 23 (.tmp 3) g3 0 (cb pin) _ ?_ Tryd.underlying23 rfl ?_ ?_ ?_ ?_ ?_
           · exact HG3.out.range
           · exact HIP.out
           · rfl
           · rfl
           · rfl)
        | (clear tk41; with_reducible refine wpSeq_loadW 32 (.tmp 9) ga 0 ce _ ?_ Tryd.underlying32 rfl ?_ ?_ ?_ ?_ ?_
           · exact H9.out.range
           · exact HOK.out.info
           · rfl
           · rfl
           · rfl)
        | (clear tk42; go_at_call 11; refine (HCK.out yE HBW.out).mono ?_; rintro e y41 ⟨rfl, hbz⟩
           replace HG3 : Hid (Blk y41 g3 (cb pin) 23) := HG3.out.below hbz HG3.out.lt
           replace H6 : Hid (Blk y41 g6 cz 32) := H6.out.below hbz H6.out.lt
           replace H9 : Hid (Blk y41 ga ce 32) := H9.out.below hbz H9.out.lt
           replace HBW : Hid (Below w.heap.size w y41) := HBW.out.trans (hbz.mono HBW.out.size)
           clear hbz )
        | (clear tk43; with_reducible refine wpSeq_loadW 32 (.tmp 9) ga 0 ce _ ?_ Tryd.underlying32 rfl ?_ ?_ ?_ ?_ ?_
           · exact H9.out.range
           · exact HOK.out.info
           · rfl
           · rfl
           · rfl)
        | (clear tk44; go_at_call 18; refine (HCB.out y41 HBW.out).mono ?_; rintro e y42 ⟨vb, rfl, hrb, hbz⟩
           replace HG3 : Hid (Blk y42 g3 (cb pin) 23) := HG3.out.below hbz HG3.out.lt
           replace H6 : Hid (Blk y42 g6 cz 32) := H6.out.below hbz H6.out.lt
           replace H9 : Hid (Blk y42 ga ce 32) := H9.out.below hbz H9.out.lt
           replace HBW : Hid (Below w.heap.size w y42) := HBW.out.trans (hbz.mono HBW.out.size)
           obtain ⟨ab, nb, db, hvb⟩ := hrb.form
           subst hvb
           have HRB : Hid (Reads y42 (.slice ab nb db) (bytesF e)) := hrb
           clear hbz hrb)
        | (clear tk45; go_at_call 13; refine (HCR.out y42 _ HRB.out).mono ?_; rintro e y43 ⟨cs2, rfl, hef, hbz⟩
           have HLT6 : Hid (g6 < y42.heap.size) := H6.out.lt
           replace HG3 : Hid (Blk y43 g3 (cb pin) 23) := HG3.out.below hbz HG3.out.lt
           replace H6 : Hid (Blk y43 g6 cz 32) := H6.out.below hbz H6.out.lt
           replace H9 : Hid (Blk y43 ga ce 32) := H9.out.below hbz H9.out.lt
           replace HBW : Hid (Below w.heap.size w y43) := HBW.out.trans (hbz.mono HBW.out.size)
           have HB8 : Hid (Below y42.heap.size y42 y43) := hbz
           have HEF : Hid (EvF y42 y43 e cs2) := hef
           have HOE2 : Hid (EvOk e cs2) := hef.evB.ok
           have HG68 : Hid (g6 < y42.heap.size) := HLT6.out
           clear hbz hef HLT6)
        | (clear tk46; with_reducible refine wpSeq_allocE ?_ ?_ ?_
           · rfl
           · rfl
           intro g10 y44 nn)
        | (clear tk47; with_reducible refine wpSeq_storeRow 32 (.tmp 10) (.tmp 44) g10 (evC zeroE (.slice none 0 0) (.slice none 0 0) (.slice none 0 0)) cs2 ?_ ?_ ?_ ?_ ?_ ?_ ?_ ?_ ?_
           · exact nn.blk
           · exact HOE2.out.lz
           · exact HOE2.out.info
           · exact HOE2.out.one
           · rfl
           · rfl
           · rfl
           · rfl
           intro y45 hs
           have hbz := nn.below.trans (hs.only.below nn.ge nn.below.size)
           have HBK : Hid (Below y43.heap.size y43 y45) := hbz
           replace HG3 : Hid (Blk y45 g3 (cb pin) 23) := HG3.out.below hbz HG3.out.lt
           replace H6 : Hid (Blk y45 g6 cz 32) := H6.out.below hbz H6.out.lt
           replace H9 : Hid (Blk y45 ga ce 32) := H9.out.below hbz H9.out.lt
           replace HBW : Hid (Below w.heap.size w y45) := HBW.out.trans (hbz.mono HBW.out.size)
           have H10 : Hid (Blk y45 g10 cs2 32) := hs.blk
           clear nn hs hbz)
        | (clear tk48; with_reducible refine wpSeq_loadW 32 (.tmp 10) g10 0 cs2 _ ?_ Tryd.underlying32 rfl ?_ ?_ ?_ ?_ ?_
           · exact H10.out.range
           · exact HOE2.out.info
           · rfl
           · rfl
           · rfl)
        | (clear tk30; with_reducible refine wpSeq_storeRow 32 (.tmp 6) (.tmp 46) g6 cz cs2 ?_ ?_ ?_ ?_ ?_ ?_ ?_ ?_ ?_
           · exact H6.out
           · rw [HCZ.out]; exact HOE2.out.lz
           · exact HOE2.out.info
           · exact HOE2.out.one
           · rfl
           · rfl
           · rfl
           · rfl
           intro y99 hs9))
      exact bodyPost_ret (results_row_tmp (by rfl) _ _ g6 _ rfl (var_evB hs9.blk HOE2.out)) rfl ⟨cs2, by rw [HFI.out]; rfl, by
        rw [HFE.out]
        refine HEF.out y99 fun j h1 h2 => ?_
        have h3 := HG68.out
        rw [hs9.only.block j (by omega) (Nat.lt_of_lt_of_le h2 HBK.out.size), HBK.out.block j h2], HBW.out.trans (hs9.only.below HG6.out HBW.out.size)⟩
    case neg =>
      have qc : (ck == 0) = false := by rw [beq_eq_false_iff_ne]; exact hck
      have pc : (ck != 0) = true := by rw [bne, qc]; rfl
      have HF0 : Hid (findF pin l m = none) := by show _ = _; rw [HFF.out, if_neg hck]
      have HFI : Hid ((findF pin l m).isSome = false) := by show _ = _; rw [HF0.out]; rfl
      have HFE : Hid (findE pin l m = zeroE) := by show _ = _; rw [findE, HF0.out]; rfl
      clear hck
      go_enter Tryd.func21, Tryd.ntmps21
      have tk0 : Hid True := trivial
      have tk1 : Hid True := trivial
      have tk2 : Hid True := trivial
      have tk3 : Hid True := trivial
      go_upto_region 4 with (first
        | (clear tk0; with_reducible refine wpSeq_boxW 23 (.tmp 0) (cb pin) ?_ ?_ ?_ ?_
           · rfl
           · rfl
           · rfl
           intro g3 y1 nn
           have HG3 : Hid (Blk y1 g3 (cb pin) 23) := nn.blk
           replace HBW : Hid (Below w.heap.size w y1) := nn.below
           clear nn)
        | (clear tk1; with_reducible refine wpSeq_allocE ?_ ?_ ?_
           · rfl
           · rfl
           intro g6 y2 nn
           have HG6 : Hid (w.heap.size ≤ g6) := Nat.le_trans HBW.out.size nn.ge
           have H6 : Hid (Blk y2 g6 cz 32) := by rw [HCZ.out]; exact nn.blk
           replace HG3 : Hid (Blk y2 g3 (cb pin) 23) := HG3.out.below nn.below HG3.out.lt
           replace HBW : Hid (Below w.heap.size w y2) := HBW.out.trans (nn.below.mono HBW.out.size)
           clear nn)
        | (clear tk2; go_at_call 43; refine (HCU.out y2 HBW.out).mono ?_; rintro e0 y3 ⟨rfl, hbz⟩
           replace HG3 : Hid (Blk y3 g3 (cb pin) 23) := HG3.out.below hbz HG3.out.lt
           replace H6 : Hid (Blk y3 g6 cz 32) := H6.out.below hbz H6.out.lt
           replace HBW : Hid (Below w.heap.size w y3) := HBW.out.trans (hbz.mono HBW.out.size)
           clear hbz)
        | (clear tk3; with_reducible refine wpSeq_min12 (.tmp 17) (.tmp 19) nl nm n HNN.out ?_ ?_ ?_ ?_ ?_
           · rfl
           · rfl
           · rfl
           · rfl))
      refine wp_region_held_drew (S := Over (World.drew y3)) (by kernel_rfl) (Over.refl _) ?_
      intro hS
      replace HBW : Hid (Below w.heap.size w (World.drew y3)) := HBW.out.drew
      replace HG3 : Hid (Blk (World.drew y3) g3 (cb pin) 23) := HG3.out.drew
      replace H6 : Hid (Blk (World.drew y3) g6 cz 32) := H6.out.drew
      change wpAnyH _ _ _ _ _ _ _ _ (World.drew y3)
      generalize World.drew y3 = y0 at *
      try simp only [Act.put, List.setIfInBounds_toArray, List.set_cons_zero, List.set_cons_succ]
      refine wpAnyH_take (i := 0) (v := .slice (some ⟨b1, o1, none⟩) nl cl) rfl (by kernel_rfl) (by kernel_rfl) (by kernel_rfl) (fun _ _ _ h => h) (Or.inl ⟨by rfl, fun wx hx => by simp [go_sem]⟩) hS ?_
      simp only [Act.put, List.getElem_toArray, List.getElem_cons_zero, List.setIfInBounds_toArray, List.set_cons_zero, List.set_cons_succ]
      refine wpAnyH_take (i := 1) (v := .int .i64 (k : Int)) rfl (by kernel_rfl) (by kernel_rfl) (by kernel_rfl) (fun _ _ _ h => h) (Or.inl ⟨by rfl, fun wx hx => by simp [go_sem]⟩) hS ?_
      simp only [Act.put, List.getElem_toArray, List.getElem_cons_succ, List.getElem_cons_zero, List.setIfInBounds_toArray, List.set_cons_zero, List.set_cons_succ]
      refine wpAnyH_take (i := 2) (v := .slice (some ⟨b1, o1, none⟩) k cl) rfl (by kernel_rfl) (by kernel_rfl) (by kernel_rfl) (fun _ _ _ h => h) (Or.inl ⟨by rfl, fun wx hx => by exact takeS_op _ _ _ _ rfl (some ⟨b1, o1, none⟩) nl cl k rfl rfl HKC.out wx⟩) hS ?_
      simp only [Act.put, List.getElem_toArray, List.getElem_cons_succ, List.getElem_cons_zero, List.setIfInBounds_toArray, List.set_cons_zero, List.set_cons_succ]
      refine wpAnyH_take (i := 3) (v := .slice (some ⟨b1, o1, none⟩) nl cl) rfl (by kernel_rfl) (by kernel_rfl) (by kernel_rfl) (fun _ _ _ h => h) (Or.inl ⟨by rfl, fun wx hx => by simp [go_sem]⟩) hS ?_
      simp only [Act.put, List.getElem_toArray, List.getElem_cons_succ, List.getElem_cons_zero, List.setIfInBounds_toArray, List.set_cons_zero, List.set_cons_succ]
      refine wpAnyH_take (i := 4) (v := .int .i64 (k : Int)) rfl (by kernel_rfl) (by kernel_rfl) (by kernel_rfl) (fun _ _ _ h => h) (Or.inl ⟨by rfl, fun wx hx => by simp [go_sem]⟩) hS ?_
      simp only [Act.put, List.getElem_toArray, List.getElem_cons_succ, List.getElem_cons_zero, List.setIfInBounds_toArray, List.set_cons_zero, List.set_cons_succ]
      refine wpAnyH_take (i := 5) (v := .pointer (some ⟨b1, o1 + k * 98, none⟩)) rfl (by kernel_rfl) (by kernel_rfl) (by kernel_rfl) (fun _ _ _ h => h) (Or.inl ⟨by rfl, fun wx hx => by exact idx98 b1 o1 cl nl k HKL.out.1 _ _ _ _ rfl rfl rfl _⟩) hS ?_
      simp only [Act.put, List.getElem_toArray, List.getElem_cons_succ, List.getElem_cons_zero, List.setIfInBounds_toArray, List.set_cons_zero, List.set_cons_succ]
      refine wpAnyH_take (i := 6) (v := .agg ck1.toArray) rfl (by kernel_rfl) (by kernel_rfl) (by kernel_rfl) (fun _ _ _ h => h) (Or.inl ⟨by rfl, fun wx hx => by exact load_run 30 _ rfl b1 (o1 + k * 98) rfl ck1 _ (HR1.out _ (HBW.out.trans (Below.mono hx HBW.out.size))) Tryd.underlying30 rfl HI1.out⟩) hS ?_
      simp only [Act.put, List.getElem_toArray, List.getElem_cons_succ, List.getElem_cons_zero, List.setIfInBounds_toArray, List.set_cons_zero, List.set_cons_succ]
      refine wpAnyH_take (i := 7) (v := .slice (some ⟨b2, o2, none⟩) nm cm) rfl (by kernel_rfl) (by kernel_rfl) (by kernel_rfl) (fun _ _ _ h => h) (Or.inl ⟨by rfl, fun wx hx => by simp [go_sem]⟩) hS ?_
      simp only [Act.put, List.getElem_toArray, List.getElem_cons_succ, List.getElem_cons_zero, List.setIfInBounds_toArray, List.set_cons_zero, List.set_cons_succ]
      refine wpAnyH_take (i := 8) (v := .int .i64 (k : Int)) rfl (by kernel_rfl) (by kernel_rfl) (by kernel_rfl) (fun _ _ _ h => h) (Or.inl ⟨by rfl, fun wx hx => by simp [go_sem]⟩) hS ?_
      simp only [Act.put, List.getElem_toArray, List.getElem_cons_succ, List.getElem_cons_zero, List.setIfInBounds_toArray, List.set_cons_zero, List.set_cons_succ]
      refine wpAnyH_take (i := 9) (v := .pointer (some ⟨b2, o2 + k * 98, none⟩)) rfl (by kernel_rfl) (by kernel_rfl) (by kernel_rfl) (fun _ _ _ h => h) (Or.inl ⟨by rfl, fun wx hx => by exact idx98 b2 o2 cm nm k HKL.out.2 _ _ _ _ rfl rfl rfl _⟩) hS ?_
      simp only [Act.put, List.getElem_toArray, List.getElem_cons_succ, List.getElem_cons_zero, List.setIfInBounds_toArray, List.set_cons_zero, List.set_cons_succ]
      refine wpAnyH_take (i := 10) (v := .agg ck2.toArray) rfl (by kernel_rfl) (by kernel_rfl) (by kernel_rfl) (fun _ _ _ h => h) (Or.inl ⟨by rfl, fun wx hx => by exact load_run 30 _ rfl b2 (o2 + k * 98) rfl ck2 _ (HR2.out _ (HBW.out.trans (Below.mono hx HBW.out.size))) Tryd.underlying30 rfl HI2.out⟩) hS ?_
      simp only [Act.put, List.getElem_toArray, List.getElem_cons_succ, List.getElem_cons_zero, List.setIfInBounds_toArray, List.set_cons_zero, List.set_cons_succ]
      refine wpAnyH_take (i := 11) (v := .agg ce.toArray) rfl (by kernel_rfl) (by kernel_rfl) (by kernel_rfl) (fun _ _ _ h => h) (Or.inl ⟨by rfl, fun wx hx => by refine build_op _ _ 32 [(0, .tmp 25), (1, .tmp 29), (2, .tmp 33)] rfl _ ?_ _; exact HBE.out _ rfl⟩) hS ?_
      simp only [Act.put, List.getElem_toArray, List.getElem_cons_succ, List.getElem_cons_zero, List.setIfInBounds_toArray, List.set_cons_zero, List.set_cons_succ]
      have hb := below_alloc y0 (.cells (evC zeroE (.slice none 0 0) (.slice none 0 0) (.slice none 0 0)).toArray 32)
      have hba : Blk (y0.alloc (.cells (evC zeroE (.slice none 0 0) (.slice none 0 0) (.slice none 0 0)).toArray 32)) y0.heap.size (evC zeroE (.slice none 0 0) (.slice none 0 0) (.slice none 0 0)) 32 := Blk.new _ _ _
      have hsz : y0.heap.size ≤ y0.heap.size := Below.size hS
      replace hS := Over.more hS hb
      refine wpAnyH_step 12 (.pointer (some ⟨y0.heap.size, 0, none⟩)) (y0.alloc (.cells (evC zeroE (.slice none 0 0) (.slice none 0 0) (.slice none 0 0)).toArray 32)) (by kernel_rfl) rfl (by rfl) (alloc_ev _ _ rfl _) hS ?_
      simp only [Act.put, List.getElem_toArray, List.getElem_cons_succ, List.getElem_cons_zero, List.setIfInBounds_toArray, List.set_cons_zero, List.set_cons_succ]
      clear hb
      generalize y0.alloc (.cells (evC zeroE (.slice none 0 0) (.slice none 0 0) (.slice none 0 0)).toArray 32) = z1 at *
      obtain ⟨ga, HGA⟩ : ∃ z, Hid (z = y0.heap.size) := ⟨_, rfl⟩
      have hgw : y0.heap.size ≤ ga := by rw [HGA.out]; exact hsz
      rw [← HGA.out] at hba ⊢
      clear HGA hsz
      refine wpAnyH_storeRow 13 32 (.tmp 9) (.tmp 34) ga (evC zeroE (.slice none 0 0) (.slice none 0 0) (.slice none 0 0)) (ce) hba HOK.out.lz HOK.out.info HOK.out.one (by kernel_rfl) rfl (by rfl) rfl rfl rfl ?_
      intro yE hs
      replace hS : Over y0 yE := Below.trans hS (hs.only.below hgw (Below.size hS))
      refine ⟨hS, ?_⟩
      simp only [Act.put, List.getElem_toArray, List.getElem_cons_succ, List.getElem_cons_zero]
      refine wpAnyH_done (by kernel_rfl) ?_ _
      replace HG3 : Hid (Blk yE g3 (cb pin) 23) := HG3.out.below hS HG3.out.lt
      replace H6 : Hid (Blk yE g6 cz 32) := H6.out.below hS H6.out.lt
      replace HBW : Hid (Below w.heap.size w yE) := HBW.out.trans (Below.mono hS HBW.out.size)
      have H9 : Hid (Blk yE ga ce 32) := hs.blk
      clear hs hS hgw
      have tk20 : Hid True := trivial
      have tk21 : Hid True := trivial
      have tk40 : Hid True := trivial
      have tk41 : Hid True := trivial
      have tk42 : Hid True := trivial
      go_wp2_with (first
        | (clear tk40; with_reducible refine wpSeq_loadW 23 (.tmp 3) g3 0 (cb pin) _ ?_ Tryd.underlying23 rfl ?_ ?_ ?_ ?_ ?_
           · exact HG3.out.range
           · exact HIP.out
           · rfl
           · rfl
           · rfl)
        | (clear tk41; with_reducible refine wpSeq_loadW 32 (.tmp 9) ga 0 ce _ ?_ Tryd.underlying32 rfl ?_ ?_ ?_ ?_ ?_
           · exact H9.out.range
           · exact HOK.out.info
           · rfl
           · rfl
           · rfl)
        | (clear tk42; go_at_call 11; refine (HCK.out yE HBW.out).mono ?_; rintro e y41 ⟨rfl, hbz⟩
           replace HG3 : Hid (Blk y41 g3 (cb pin) 23) := HG3.out.below hbz HG3.out.lt
           replace H6 : Hid (Blk y41 g6 cz 32) := H6.out.below hbz H6.out.lt
           replace H9 : Hid (Blk y41 ga ce 32) := H9.out.below hbz H9.out.lt
           replace HBW : Hid (Below w.heap.size w y41) := HBW.out.trans (hbz.mono HBW.out.size)
           clear hbz )
        | (clear tk20; with_reducible refine wpSeq_build 32 [] cz ?_ ?_ ?_ ?_
           · exact (built_evid []).trans (by rw [HCZ.out]; rfl)
           · rfl
           · rfl)
        | (clear tk21; with_reducible refine wpSeq_storeRow 32 (.tmp 6) (.tmp 39) g6 cz cz ?_ ?_ ?_ ?_ ?_ ?_ ?_ ?_ ?_
           · exact H6.out
           · rfl
           · exact HOZ.out.info
           · exact HOZ.out.one
           · rfl
           · rfl
           · rfl
           · rfl
           intro y99 hs9))
      exact bodyPost_ret (results_row_tmp (by rfl) _ _ g6 _ rfl (var_evB hs9.blk HOZ.out)) rfl ⟨cz, by rw [HFI.out]; rfl, by rw [HFE.out, HCZ.out]; exact EvB.zero _, HBW.out.trans (hs9.only.below HG6.out HBW.out.size)⟩
/-- what fork's functions do -/
theorem fkOps : FkOps where
  check := fun W pin e cs hK hp hE hn => fkCheck_any pin e cs W hK hp hE hn
  bytes := fun W e cs _ hE h64 hsz => fkBytes_any e cs W hE h64 hsz
  read := fun W v b _ hb _ => fkRead_any v b W hb
  accept := fun W pin v b hK hp hb _ => fkAccept_any pin v b W hK hp hb
  find := fun W pin v u l m hK hp hl hm h1 h2 h3 h4 => fkFind_any pin v u l m W hK hp hl hm h1 h2 h3 h4
end Go.Proofs.YtableajopaappaaDoor

/- Texts that the proof leans on, one behind the other: Where the reference's ReadBatch stands (layer 15). The walk of the reference's ReadBatch (layer 15). The walk of the statements' few (layer 15). .. -/
import Derived.Test.YteklnooagjkclaaGreatDoorMxe
import Derived.Maps.OwnSet
import Derived.Deep.CutRange
import Derived.Test.YteklnooagjkclaaGreatDoorRows
import Derived.Test.YteklnooagjkclaaGreatDoorMxa
import Derived.ProofKit
import Derived.LaidMore
import Derived.OpenShut
import Derived.Stop.Joined
import Derived.Lib.LaidTab
import Derived.Carry
import Derived.ChangeSlices
import Derived.Deep.Slices
import Derived.Deep.Strs
import Derived.Lib.SmallJoins
/- Where the reference's ReadBatch stands (layer 15). -/
namespace Go.Proofs.YteklnooagjkclaaGreatDoor
open Go.RowKit
set_option maxRecDepth 100000
/-- a was read up to p, or the reader is bad -/
def MgO {α : Type} (o : Option (α × Bs)) (b0 b1 : Bool) (a : α) (l : Bs) (p : Nat) : Prop := (b1 = false ∧ b0 = false ∧ o = some (a, l.drop p)) ∨ (b1 = true ∧ (b0 = true ∨ o = none))
theorem mgO_of {α : Type} {g : Nat} {v : Value} {l : Bs} {w : World} {b0 : Bool} {o : Option (α × Bs)} {R : α → World → Value → Prop} {Z : Value → Prop} {e : Ending} {w' : World} (z : α) (h : InDoes g v l w (if b0 then none else o) R Z e w') (hz : ∀ u, Z u → R z w' u) :
    ∃ a p u b1, e = .returned u ∧ R a w' u ∧ InS w' g v l p b1 ∧ Only g w w' ∧ MgO o b0 b1 a l p := by
  rcases h with ⟨a, p, u, ho, rfl, hu, hs, hon⟩ | ⟨ho, u, p, rfl, hu, hs, hon⟩
  · refine ⟨a, p, u, false, rfl, hu, hs, hon, Or.inl ⟨rfl, ?_⟩⟩
    cases b0 with
    | true => simp at ho
    | false => exact ⟨rfl, by simpa using ho⟩
  · refine ⟨z, p, u, true, rfl, hz u hu, hs, hon, Or.inr ⟨rfl, ?_⟩⟩
    cases b0 with
    | true => exact Or.inl rfl
    | false => exact Or.inr (by simpa using ho)
theorem intext_o (g : Nat) (v : Value) (l : Bs) (pos : Nat) (b0 : Bool) (w : World) (h : InS w g v l pos b0) (hl : l.length ≤ 9223372036854775807) :
    Calls Tryz.prog 44 #[.pointer (some ⟨g, 0, none⟩)] w fun e w' => ∃ a p u b1, e = .returned u ∧ OwnB w' w.heap.size u a ∧ InS w' g v l p b1 ∧ Only g w w' ∧ MgO (readText (l.drop pos)) b0 b1 a l p :=
  (intext_any g v l pos b0 w h hl).mono fun _ _ hh => mgO_of [] hh (fun _ hu => by subst hu; exact OwnB.nil _ _)
theorem incount_o (g : Nat) (v : Value) (l : Bs) (pos : Nat) (b0 : Bool) (w : World) (most : Nat) (hm : most < 9223372036854775808) (h : InS w g v l pos b0) (hl : l.length ≤ 9223372036854775807) :
    Calls Tryz.prog 43 #[.pointer (some ⟨g, 0, none⟩), .int .i64 (most : Int)] w fun e w' => ∃ (a : Nat) (p : Nat) (b1 : Bool), e = .returned (.int .i64 (a : Int)) ∧ a ≤ most ∧ InS w' g v l p b1 ∧ Only g w w' ∧ MgO (readCount most (l.drop pos)) b0 b1 a l p :=
  (incount_any g v l pos b0 w most hm h hl).mono fun _ _ hh => by
    rcases hh with ⟨a, p, u, ho, rfl, rfl, hs, hon⟩ | ⟨ho, u, p, rfl, rfl, hs, hon⟩
    · cases b0 with
      | true => simp at ho
      | false =>
        have ho2 : readCount most (l.drop pos) = some (a, l.drop p) := by simpa using ho
        exact ⟨a, p, false, rfl, readCount_le ho2, hs, hon, Or.inl ⟨rfl, rfl, ho2⟩⟩
    · refine ⟨0, p, true, rfl, Nat.zero_le _, hs, hon, Or.inr ⟨rfl, ?_⟩⟩
      cases b0 with
      | true => exact Or.inl rfl
      | false => exact Or.inr (by simpa using ho)
/-- what one act comes to -/
def ActO (l : Bs) (p : Nat) (b : Bool) (a : ActT) (p2 : Nat) : Prop := (b = false ∧ readA (l.drop p) = some (a, l.drop p2)) ∨ (b = true ∧ readA (l.drop p) = none)
theorem act_unset {l ky : Bs} {p p1 p2 nn : Nat} {b1 b2 : Bool} (h1 : MgO (readText (l.drop p)) false b1 ky l p1) (h2 : MgO (readCount 1 (l.drop p1)) b1 b2 nn l p2) (hn : nn ≠ 1) : ActO l p b2 ⟨ky, false, []⟩ p2 := by
  rcases h1 with ⟨rfl, _, h1⟩ | ⟨rfl, h1⟩
  · rcases h2 with ⟨rfl, _, h2⟩ | ⟨rfl, h2⟩
    · exact Or.inl ⟨rfl, readA_unset h1 h2 hn⟩
    · rcases h2 with h2 | h2
      · cases h2
      · exact Or.inr ⟨rfl, readA_num h1 h2⟩
  · have hr : readA (l.drop p) = none := readA_key (by rcases h1 with h | h; cases h; exact h)
    rcases h2 with ⟨_, h, _⟩ | ⟨rfl, _⟩
    · cases h
    · exact Or.inr ⟨rfl, hr⟩
theorem act_set {l ky d : Bs} {p p1 p2 p3 : Nat} {b1 b2 b3 : Bool} (h1 : MgO (readText (l.drop p)) false b1 ky l p1) (h2 : MgO (readCount 1 (l.drop p1)) b1 b2 1 l p2) (h3 : MgO (readText (l.drop p2)) b2 b3 d l p3) : ActO l p b3 ⟨ky, true, d⟩ p3 := by
  rcases h1 with ⟨rfl, _, h1⟩ | ⟨rfl, h1⟩
  · rcases h2 with ⟨rfl, _, h2⟩ | ⟨rfl, h2⟩
    · rcases h3 with ⟨rfl, _, h3⟩ | ⟨rfl, h3⟩
      · exact Or.inl ⟨rfl, readA_set h1 h2 h3⟩
      · rcases h3 with h3 | h3
        · cases h3
        · exact Or.inr ⟨rfl, readA_nodata h1 h2 h3⟩
    · rcases h2 with h2 | h2
      · cases h2
      · rcases h3 with ⟨_, h, _⟩ | ⟨rfl, _⟩
        · cases h
        · exact Or.inr ⟨rfl, readA_num h1 h2⟩
  · have hr : readA (l.drop p) = none := readA_key (by rcases h1 with h | h; cases h; exact h)
    rcases h2 with ⟨_, h, _⟩ | ⟨rfl, _⟩
    · cases h
    · rcases h3 with ⟨_, h, _⟩ | ⟨rfl, _⟩
      · cases h
      · exact Or.inr ⟨rfl, hr⟩
/-- what the acts so far come to -/
def StO (l : Bs) (n i : Nat) (p : Nat) (b : Bool) (xs : List ActT) : Prop := (b = false ∧ ∃ r, readCount 4096 l = some (n, r) ∧ readAll readA i r = some (xs, l.drop p)) ∨ (b = true ∧ readB l = none)
theorem StO.first {l : Bs} {n p : Nat} {b : Bool} (h : MgO (readCount 4096 (l.drop 0)) false b n l p) : StO l n 0 p b [] := by
  rcases h with ⟨rfl, _, h⟩ | ⟨rfl, h⟩
  · exact Or.inl ⟨rfl, _, h, rfl⟩
  · exact Or.inr ⟨rfl, readB_cnt (by rcases h with h | h; cases h; exact h)⟩
theorem StO.next {l : Bs} {n i p p2 : Nat} {b : Bool} {xs : List ActT} {a : ActT} (h : StO l n i p false xs) (hi : i < n) (ha : ActO l p b a p2) : StO l n (i + 1) p2 b (xs ++ [a]) := by
  rcases h with ⟨_, r, h1, h2⟩ | ⟨h, _⟩
  · rcases ha with ⟨rfl, ha⟩ | ⟨rfl, ha⟩
    · exact Or.inl ⟨rfl, r, h1, readAll_snoc i r xs h2 ha⟩
    · exact Or.inr ⟨rfl, readB_all h1 (readAll_stop i n r xs h2 ha hi)⟩
  · cases h
/-- what Done and Check say of it -/
theorem StO.last {l : Bs} {n i p : Nat} {b : Bool} {xs : List ActT} (h : StO l n i p b xs) (hi : i = n ∨ b = true) (hp : p ≤ l.length) (hn : xs.length ≤ 4096) : (b = false ∧ p = l.length ∧ chkL xs = 0 ∧ readB l = some xs) ∨ ((b = true ∨ p ≠ l.length) ∧ readB l = none) ∨ (b = false ∧ p = l.length ∧ chkL xs = 1 ∧ readB l = none) := by
  rcases h with ⟨rfl, r, h1, h2⟩ | ⟨rfl, h⟩
  · obtain rfl : i = n := by rcases hi with h | h; exact h; cases h
    have hof := readB_of h1 h2
    by_cases hpl : p = l.length
    · have hd : l.drop p = [] := by rw [hpl]; exact List.drop_length
      rw [if_pos hd] at hof
      rcases chkL_or xs with h | h
      · rw [if_pos (chkL_ok.1 h).2] at hof
        exact Or.inl ⟨rfl, hpl, h, hof⟩
      · rw [if_neg (fun hg => by rw [chkL_ok.2 ⟨hn, hg⟩] at h; cases h)] at hof
        exact Or.inr (Or.inr ⟨rfl, hpl, h, hof⟩)
    · have hd : ¬ (l.drop p = []) := fun e => by have := congrArg List.length e; simp at this; omega
      rw [if_neg hd] at hof
      exact Or.inr (Or.inl ⟨Or.inr hpl, hof⟩)
  · exact Or.inr (Or.inl ⟨Or.inl rfl, h⟩)
theorem inS_others {w w' : World} {g : Nat} {v : Value} {l : Bs} {pos : Nat} {bad : Bool} (h : InS w g v l pos bad) (hv : 0 < l.length → ∀ k, v.ownBlock = some k → k < g) (hb : Below (g + 1) w w') : InS w' g v l pos bad := by
  refine ⟨h.blk.below hb (by omega), ?_, h.le⟩
  obtain ⟨ad, cap, rfl, hc, hn, hx⟩ := h.byt
  refine ⟨ad, cap, rfl, hc, hn, fun hp => ?_⟩
  obtain ⟨b, off, rfl, hy⟩ := hx hp
  refine ⟨b, off, rfl, fun j hj => ?_⟩
  rw [hb.cell (p := ⟨b, off + j, none⟩) (by have := hv hp b rfl; show b < g + 1; omega)]
  exact hy j hj
/-- the reader at g and the acts that it has read -/
structure Ob (w : World) (g : Nat) (v : Value) (l : Bs) (p : Nat) (b : Bool) (va : Value) (ps : List (ActT × Value)) (W : World) : Prop where
  inp : InS W g v l p b
  lst : OwnA W (g + 1) va ps
  bel : Below w.heap.size w W
  ge : w.heap.size ≤ g
  vb : 0 < l.length → ∀ k, v.ownBlock = some k → k < w.heap.size
theorem Ob.call {w W W' : World} {g : Nat} {v : Value} {l : Bs} {p p' : Nat} {b b' : Bool} {va : Value} {ps : List (ActT × Value)} (h : Ob w g v l p b va ps W) (hs : InS W' g v l p' b') (ho : Only g W W') : Ob w g v l p' b' va ps W' :=
  ⟨hs, h.lst.same (fun k h1 h2 => ho.block k (by omega) h2), h.bel.trans (ho.below h.ge h.bel.size), h.ge, h.vb⟩
theorem Ob.new {w W W' : World} {g : Nat} {v : Value} {l : Bs} {p : Nat} {b : Bool} {va : Value} {ps : List (ActT × Value)} (h : Ob w g v l p b va ps W) (hb : Below W.heap.size W W') : Ob w g v l p b va ps W' :=
  ⟨h.inp.below hb, h.lst.same (fun k _ h2 => hb.block k h2), h.bel.trans (hb.mono h.bel.size), h.ge, h.vb⟩
/-- the same while an act is filled at block ga: the list is as it was at y -/
structure Oc (w : World) (g ga : Nat) (v : Value) (l : Bs) (p : Nat) (b : Bool) (va : Value) (ps : List (ActT × Value)) (y : World) (cs : List Value) (W : World) : Prop where
  inp : InS W g v l p b
  lst : OwnA y (g + 1) va ps
  fr : ∀ k, k < y.heap.size → k ≠ g → W.heap[k]? = y.heap[k]?
  bel : Below w.heap.size w W
  ge : w.heap.size ≤ g
  vb : 0 < l.length → ∀ k, v.ownBlock = some k → k < w.heap.size
  blk : Blk W ga cs 62
  gy : g < y.heap.size
  ya : y.heap.size ≤ ga
theorem Ob.act {w y W : World} {g ga : Nat} {v : Value} {l : Bs} {p : Nat} {b : Bool} {va : Value} {ps : List (ActT × Value)} {cs : List Value} (h : Ob w g v l p b va ps y) (nn : NewR cs 62 y ga W) : Oc w g ga v l p b va ps y cs W :=
  ⟨h.inp.below nn.below, h.lst, fun k hk _ => nn.below.block k hk, h.bel.trans (nn.below.mono h.bel.size), h.ge, h.vb, nn.blk, h.inp.blk.lt, nn.ge⟩
theorem Oc.call {w y W W' : World} {g ga : Nat} {v : Value} {l : Bs} {p p' : Nat} {b b' : Bool} {va : Value} {ps : List (ActT × Value)} {cs : List Value} (h : Oc w g ga v l p b va ps y cs W) (hs : InS W' g v l p' b') (ho : Only g W W') : Oc w g ga v l p' b' va ps y cs W' :=
  have h1 := h.gy
  have h2 := h.ya
  have h3 := h.blk.lt
  ⟨hs, h.lst, fun k hk hne => (ho.block k hne (by omega)).trans (h.fr k hk hne), h.bel.trans (ho.below h.ge h.bel.size), h.ge, h.vb, blk_same h.blk (ho.block ga (by omega) h3), h1, h2⟩
theorem Oc.put {w y W W' : World} {g ga : Nat} {v : Value} {l : Bs} {p : Nat} {b : Bool} {va : Value} {ps : List (ActT × Value)} {cs cs' : List Value} (h : Oc w g ga v l p b va ps y cs W) (hb : Blk W' ga cs' 62) (ho : Only ga W W') : Oc w g ga v l p b va ps y cs' W' :=
  have h1 := h.gy
  have h2 := h.ya
  have h3 := h.blk.lt
  have h4 := h.ge
  have h5 : Below (g + 1) W W' := ho.below (by omega) (by omega)
  ⟨inS_others h.inp (fun hp k hk => by have := h.vb hp k hk; omega) h5, h.lst, fun k hk hne => (ho.block k (by omega) (by omega)).trans (h.fr k hk hne), h.bel.trans (h5.mono (by omega)), h.ge, h.vb, hb, h1, h2⟩
theorem Oc.new {w y W W' : World} {g ga : Nat} {v : Value} {l : Bs} {p : Nat} {b : Bool} {va : Value} {ps : List (ActT × Value)} {cs : List Value} (h : Oc w g ga v l p b va ps y cs W) (hb : Below W.heap.size W W') : Oc w g ga v l p b va ps y cs W' :=
  have h2 := h.ya
  have h3 := h.blk.lt
  ⟨h.inp.below hb, h.lst, fun k hk hne => (hb.block k (by omega)).trans (h.fr k hk hne), h.bel.trans (hb.mono h.bel.size), h.ge, h.vb, h.blk.below hb h3, h.gy, h2⟩
theorem Oc.own {w y W : World} {g ga : Nat} {v : Value} {l : Bs} {p : Nat} {b : Bool} {va : Value} {ps : List (ActT × Value)} {cs : List Value} (h : Oc w g ga v l p b va ps y cs W) : OwnA W (g + 1) va ps :=
  h.lst.same (fun k h1 h2 => h.fr k h2 (by omega))
theorem Oc.app {w y W W' : World} {g ga : Nat} {v : Value} {l : Bs} {p : Nat} {b : Bool} {va va' : Value} {ps qs : List (ActT × Value)} {cs : List Value} (h : Oc w g ga v l p b va ps y cs W) (ho : OwnA W' (g + 1) va' qs) (hg : W.grownBy W' va.ownBlock) : Ob w g v l p b va' qs W' := by
  have h1 := h.gy
  have h2 := h.ya
  have h3 := h.blk.lt
  have h4 := h.ge
  have hlt := h.own.lt
  have h5 : Below (g + 1) W W' := ⟨hg.os, hg.tape, hg.output, hg.size, fun k hk => hg.block k (by omega) (fun e => by have := (hlt k e.symm).1; omega)⟩
  exact ⟨inS_others h.inp (fun hp k hk => by have := h.vb hp k hk; omega) h5, ho, h.bel.trans (h5.mono (by omega)), h4, h.vb⟩
theorem wpSeq_appendA {ops : Array Oper} {Q : Exit → Act → World → Prop} {rest : List Oper} {o : Oper} {a : Act} {w : World} (s x : Operand) (base : Nat) (v : Value) (ps : List (ActT × Value)) (p : ActT × Value) (g : Nat)
    (hown : OwnA w base v ps) (hb : Blk w g (actC p.1 p.2) 62) (hg : v.ownBlock ≠ some g) (hd : OwnB w base p.2 p.1.data) (hlen : ps.length < 1000000) (hbase : base ≤ w.heap.size)
    (ho : o.op = .call { callee := .builtin .append, args := #[s, x], argTypes := #[22, 22] }) (hs : a.eval s = v) (hx : a.eval x = .slice (some ⟨g, 0, none⟩) 1 1) (hw : Region.wanted o (yielded ops a.tmps) = true)
    (h : ∀ v' w', OwnA w' base v' (ps ++ [p]) → w.grownBy w' v.ownBlock → wpList Tryz.prog ops Q rest (a.put o.dst v') w') : wpList Tryz.prog ops Q (o :: rest) a w := by
  unfold wpList
  simp only [hw, if_true]
  left
  exact wp_appendA s x base v ps p g hown hb hg hd hlen hbase ho hs hx h
theorem wpSeq_buildA1 {ops : Array Oper} {Q : Exit → Act → World → Prop} {rest : List Oper} {o : Oper} {a : Act} {w : World} (x : Operand) (s : ByteArray) (b : Bool) (ad : Option Addr) (n c : Nat) (ho : o.op = .buildSlice 22 1 #[(0, x)]) (hx : a.eval x = .agg [.string s, .bool b, .slice ad n c].toArray) (hw : Region.wanted o (yielded ops a.tmps) = true)
    (h : ∀ g w', NewR [.string s, .bool b, .slice ad n c] 62 w g w' → wpList Tryz.prog ops Q rest (a.put o.dst (.slice (some ⟨g, 0, none⟩) 1 1)) w') : wpList Tryz.prog ops Q (o :: rest) a w :=
  wpSeq_val _ _ hw (build_a1 _ _ x s b ad n c hx ho _) (h _ _ (NewR.of _ _ w))
theorem wpSeq_convA {ops : Array Oper} {Q : Exit → Act → World → Prop} {rest : List Oper} {o : Oper} {a : Act} {w : World} (x : Operand) (v : Value) (k : Bs) (ho : o.op = .convert 23 9 x) (hr : Reads w v k) (hx : a.eval x = v) (hw : Region.wanted o (yielded ops a.tmps) = true)
    (h : wpList Tryz.prog ops Q rest (a.put o.dst (.string (strB k))) w) : wpList Tryz.prog ops Q (o :: rest) a w :=
  wpSeq_val _ _ hw (conv_s _ _ x ho v hx k w hr) h
theorem built_k (s : ByteArray) : ∀ ps, ps = [(0, Value.string s)] → Tryz.prog.built 62 ps = some [Value.string s, .bool false, .slice none 0 0].toArray := fun ps h => by subst h; kernel_rfl
end Go.Proofs.YteklnooagjkclaaGreatDoor
/- The walk of the reference's ReadBatch (layer 15). -/
namespace Go.Proofs.YteklnooagjkclaaGreatDoor
open Go.RowKit
set_option maxRecDepth 100000
theorem built_in (a : Option Addr) (n c : Nat) : ∀ ps, ps = [(0, Value.slice a n c)] → Tryz.prog.built 82 ps = some [Value.slice a n c, .int .i64 0, .bool false].toArray := fun ps h => by subst h; kernel_rfl
theorem wpSeq_convK {ops : Array Oper} {Q : Exit → Act → World → Prop} {rest : List Oper} {o : Oper} {a : Act} {w : World} (x : Operand) (v : Value) (k : Bs) (ks : ByteArray) (hks : ks = strB k) (hr : Reads w v k) (ho : o.op = .convert 23 9 x) (hx : a.eval x = v) (hw : Region.wanted o (yielded ops a.tmps) = true)
    (h : wpList Tryz.prog ops Q rest (a.put o.dst (.string ks)) w) : wpList Tryz.prog ops Q (o :: rest) a w := by
  subst hks
  exact wpSeq_convA x v k ho hr hx hw h
set_option maxRecDepth 100000 in
set_option maxHeartbeats 4000000 in
theorem oReadBatch_any (vb : Value) (b : Bs) (w : World) (hr : Reads w vb b) (hl : b.length ≤ 9223372036854775807) : Calls Tryz.prog 13 #[vb] w fun e w' => BtR w b e w' := by
  have HR : Hid (Reads w vb b) := hr
  have HL : Hid (b.length ≤ 9223372036854775807) := hl
  obtain ⟨ad, m, c, hv⟩ := hr.form
  subst hv
  clear hr hl
  go_enter Tryz.func13, Tryz.ntmps13
  have tk0 : Hid True := trivial
  have tk1 : Hid True := trivial
  have tk2 : Hid True := trivial
  go_wp2_with (first
    | (clear tk0; with_reducible refine wpSeq_build 82 [(0, .tmp 9)] [.slice ad m c, .int .i64 0, .bool false] (built_in _ _ _ _ rfl) ?_ ?_ ?_
       · rfl
       · rfl)
    | (clear tk1; with_reducible refine wpSeq_boxW 82 (.tmp 10) [.slice ad m c, .int .i64 0, .bool false] ?_ ?_ ?_ ?_
       · rfl
       · rfl
       · rfl
       intro g y1 nn
       have HOB : Hid (Ob w g (.slice ad m c) b 0 false (.slice none 0 0) [] y1) := ⟨⟨nn.blk, HR.out.below nn.below, Nat.zero_le _⟩, OwnA.nil _ _, nn.below, nn.ge, reads_in HR.out⟩
       clear nn)
    | (clear tk2; go_at_call 43; refine (incount_o g _ b 0 false _ 4096 (by decide) HOB.out.inp HL.out).mono ?_; rintro e0 y2 ⟨n, p0, b0, rfl, hn, hi, ho, hm⟩
       have HST : Hid (StO b n 0 p0 b0 []) := StO.first hm
       have HN1 : Hid (n ≤ 4096) := hn
       replace HOB : Hid (Ob w g (.slice ad m c) b p0 b0 (.slice none 0 0) [] y2) := HOB.out.call hi ho
       clear hn hi ho hm))
  go_loopw [5, 7] (fun av iv W => ∃ (i : Nat) (a0 : Option Addr) (c0 : Nat) (p : Nat) (bd : Bool) (ps : List (ActT × Value)), i ≤ n ∧ av = .slice a0 i c0 ∧ iv = .int .i64 (i : Int) ∧ Hid (ps.length = i) ∧ Hid (Ob w g (.slice ad m c) b p bd (.slice a0 i c0) ps W) ∧ Hid (StO b n i p bd (ps.map (·.1)))) (fun _ iv _ => n - (intOf iv).toNat)
  case atStart => exact ⟨0, none, 0, p0, b0, [], Nat.zero_le _, rfl, rfl, rfl, HOB, HST⟩
  case round =>
    clear HOB HST
    obtain ⟨i, a0, c0, p, bd, ps, hi, rfl, rfl, HPL, HOB, HST⟩ := hrel
    by_cases hin : i < n
    case neg =>
      have hlk : ¬ ((i : Int) < (n : Int)) := by omega
      have HEX : Hid (i = n ∨ bd = true) := Or.inl (by omega)
      obtain ⟨D, HD⟩ : ∃ d, Hid (d = (!bd && decide (p = b.length))) := ⟨_, rfl⟩
      have HDC : Hid (Calls Tryz.prog 45 #[.pointer (some ⟨g, 0, none⟩)] wr fun e w' => e = .returned (.bool D) ∧ ∃ k, w' = wr.drewN k) := by rw [HD.out]; exact indone_any g _ b p bd wr HOB.out.inp
      rcases HST.out.last HEX.out HOB.out.inp.le (by rw [List.length_map, HPL.out]; have := HN1.out; omega) with ⟨h1, h2, h3, h4⟩ | ⟨h1, h4⟩ | ⟨h1, h2, h3, h4⟩
      · have HRES : Hid (readB b = some (ps.map (·.1))) := h4
        obtain rfl : D = true := by
          rw [HD.out]
          rw [h1, h2]; simp
        have HX : Hid (chkL (ps.map (·.1)) = 0) := h3
        clear h1 h2 h3 h4
        have ta0 : Hid True := trivial
        have ta1 : Hid True := trivial
        go_wp2_with (first
          | (clear ta0; go_at_call 45; refine (HDC.out).mono ?_; rintro e0 y1 ⟨rfl, kk, rfl⟩
             replace HOB : Hid (Ob w g (.slice ad m c) b p bd (.slice a0 i c0) ps (wr.drewN kk)) := HOB.out.new ⟨rfl, rfl, rfl, Nat.le_refl _, fun _ _ => rfl⟩
             clear HDC)
          | (clear ta1; go_at_call 14; refine (oCheck_any _ _ _ HOB.out.lst.reads).mono ?_; rintro e1 y2 ⟨rfl, hb2⟩
             rw [HX.out]
             replace HOB : Hid (Ob w g (.slice ad m c) b p bd (.slice a0 i c0) ps y2) := HOB.out.new hb2
             clear hb2))
        refine bodyPost_ret (results_tmp2 rfl _ _ _) rfl ?_
        exact ⟨HOB.out.bel, Or.inl ⟨_, ps, HRES.out, rfl, HOB.out.lst.mono (Nat.le_succ_of_le HOB.out.ge)⟩⟩
      · have HRES : Hid (readB b = none) := h4
        obtain rfl : D = false := by
          rw [HD.out]
          rcases h1 with h1 | h1
          · simp [h1]
          · rw [decide_eq_false h1]; simp
        clear h1 h4
        have ta0 : Hid True := trivial
        go_wp2_with (first
          | (clear ta0; go_at_call 45; refine (HDC.out).mono ?_; rintro e0 y1 ⟨rfl, kk, rfl⟩
             replace HOB : Hid (Ob w g (.slice ad m c) b p bd (.slice a0 i c0) ps (wr.drewN kk)) := HOB.out.new ⟨rfl, rfl, rfl, Nat.le_refl _, fun _ _ => rfl⟩
             clear HDC))
        refine bodyPost_ret (results_tmp2 rfl _ _ _) rfl ?_
        exact ⟨HOB.out.bel, Or.inr ⟨HRES.out, rfl⟩⟩
      · have HRES : Hid (readB b = none) := h4
        obtain rfl : D = true := by
          rw [HD.out]
          rw [h1, h2]; simp
        have HX : Hid (chkL (ps.map (·.1)) = 1) := h3
        clear h1 h2 h3 h4
        have ta0 : Hid True := trivial
        have ta1 : Hid True := trivial
        go_wp2_with (first
          | (clear ta0; go_at_call 45; refine (HDC.out).mono ?_; rintro e0 y1 ⟨rfl, kk, rfl⟩
             replace HOB : Hid (Ob w g (.slice ad m c) b p bd (.slice a0 i c0) ps (wr.drewN kk)) := HOB.out.new ⟨rfl, rfl, rfl, Nat.le_refl _, fun _ _ => rfl⟩
             clear HDC)
          | (clear ta1; go_at_call 14; refine (oCheck_any _ _ _ HOB.out.lst.reads).mono ?_; rintro e1 y2 ⟨rfl, hb2⟩
             rw [HX.out]
             replace HOB : Hid (Ob w g (.slice ad m c) b p bd (.slice a0 i c0) ps y2) := HOB.out.new hb2
             clear hb2))
        refine bodyPost_ret (results_tmp2 rfl _ _ _) rfl ?_
        exact ⟨HOB.out.bel, Or.inr ⟨HRES.out, rfl⟩⟩
    case pos =>
      have hlk : (i : Int) < (n : Int) := by omega
      have HIN : Hid (i < n) := hin
      cases bd
      case true =>
        have HEX : Hid (i = n ∨ true = true) := Or.inr rfl
        have q2 : wr.cell? ⟨g, 2, none⟩ = some (.bool true) := HOB.out.inp.blk.cell 2
        obtain ⟨D, HD⟩ : ∃ d, Hid (d = (!true && decide (p = b.length))) := ⟨_, rfl⟩
        have HDC : Hid (Calls Tryz.prog 45 #[.pointer (some ⟨g, 0, none⟩)] wr fun e w' => e = .returned (.bool D) ∧ ∃ k, w' = wr.drewN k) := by rw [HD.out]; exact indone_any g _ b p true wr HOB.out.inp
        rcases HST.out.last HEX.out HOB.out.inp.le (by rw [List.length_map, HPL.out]; have := HN1.out; omega) with ⟨h1, h2, h3, h4⟩ | ⟨h1, h4⟩ | ⟨h1, h2, h3, h4⟩
        · cases h1
        · have HRES : Hid (readB b = none) := h4
          obtain rfl : D = false := by
            rw [HD.out]
            rfl
          clear h1 h4
          have tb0 : Hid True := trivial
          go_wp2_with (first
            | (clear tb0; go_at_call 45; refine (HDC.out).mono ?_; rintro e0 y1 ⟨rfl, kk, rfl⟩
               replace HOB : Hid (Ob w g (.slice ad m c) b p true (.slice a0 i c0) ps (wr.drewN kk)) := HOB.out.new ⟨rfl, rfl, rfl, Nat.le_refl _, fun _ _ => rfl⟩
               clear HDC))
          refine bodyPost_ret (results_tmp2 rfl _ _ _) rfl ?_
          exact ⟨HOB.out.bel, Or.inr ⟨HRES.out, rfl⟩⟩
        · cases h1
      case false =>
        have q2 : wr.cell? ⟨g, 2, none⟩ = some (.bool false) := HOB.out.inp.blk.cell 2
        have f1 : IntKind.i64.wrap ((i : Int) + 1) = (i : Int) + 1 := by rw [IntKind.wrap_i64]; have := HN1.out; omega
        have tc0 : Hid True := trivial
        have tc1 : Hid True := trivial
        have tc2 : Hid True := trivial
        have tc3 : Hid True := trivial
        have tc4 : Hid True := trivial
        have tc5 : Hid True := trivial
        have tc6 : Hid True := trivial
        have tc7 : Hid True := trivial
        have tc8 : Hid True := trivial
        have tc9 : Hid True := trivial
        have tc10 : Hid True := trivial
        have tc11 : Hid True := trivial
        have tc12 : Hid True := trivial
        have tc13 : Hid True := trivial
        have tc14 : Hid True := trivial
        have tc15 : Hid True := trivial
        go_wp2_with (first
          | (clear tc0; go_at_call 44; refine (intext_o g _ b p false _ HOB.out.inp HL.out).mono ?_; rintro e1 y1 ⟨ky, p1, u1, b1, rfl, hown, hi1, ho1, hm1⟩
             replace HOB : Hid (Ob w g (.slice ad m c) b p1 b1 (.slice a0 i c0) ps y1) := HOB.out.call hi1 ho1
             have HM1 : Hid (MgO (readText (b.drop p)) false b1 ky b p1) := hm1
             have HRK : Hid (Reads y1 u1 ky) := hown.reads
             obtain ⟨ks, HKS⟩ : ∃ s, Hid (s = strB ky) := ⟨_, rfl⟩
             clear hown hi1 ho1 hm1 q2)
          | (clear tc1; with_reducible refine wpSeq_convK (.tmp 27) u1 ky ks HKS.out HRK.out ?_ ?_ ?_ ?_
             · rfl
             · rfl
             · rfl)
          | (clear tc2; with_reducible refine wpSeq_build 62 [(0, .tmp 28)] [.string ks, .bool false, .slice none 0 0] (built_k _ _ rfl) ?_ ?_ ?_
             · rfl
             · rfl)
          | (clear tc3; with_reducible refine wpSeq_allocA ?_ ?_ ?_
             · rfl
             · rfl
             intro ga y2 nn
             have HOC : Hid (Oc w g ga (.slice ad m c) b p1 b1 (.slice a0 i c0) ps y1 zA y2) := HOB.out.act nn
             clear nn HOB HRK)
          | (clear tc4; with_reducible refine wpSeq_storeRow 62 (.tmp 8) (.tmp 29) ga zA [.string ks, .bool false, .slice none 0 0] HOC.out.blk rfl (info_act15 _ _ _) (one_act0 _ _) ?_ ?_ ?_ ?_ ?_
             · rfl
             · rfl
             · rfl
             · rfl
             intro y3 hset
             replace HOC : Hid (Oc w g ga (.slice ad m c) b p1 b1 (.slice a0 i c0) ps y1 [.string ks, .bool false, .slice none 0 0] y3) := HOC.out.put hset.blk hset.only
             clear hset)
          | (clear tc5; go_at_call 43; refine (incount_o g _ b p1 b1 _ 1 (by decide) HOC.out.inp HL.out).mono ?_; rintro e2 y4 ⟨nn, p2, b2, rfl, hn, hi2, ho2, hm2⟩
             replace HOC : Hid (Oc w g ga (.slice ad m c) b p2 b2 (.slice a0 i c0) ps y1 [.string ks, .bool false, .slice none 0 0] y4) := HOC.out.call hi2 ho2
             have HM2 : Hid (MgO (readCount 1 (b.drop p1)) b1 b2 nn b p2) := hm2
             clear hi2 ho2 hm2
             obtain hz | hz : nn = 0 ∨ nn = 1 := by omega
             all_goals (first
               | (obtain rfl : nn = 0 := hz
                  clear hn tc7 tc8 tc9 tc13 tc14 tc15)
               | (obtain rfl : nn = 1 := hz
                  clear hn tc6 tc10 tc11 tc12)))
          | (clear tc6; with_reducible refine wpSeq_cellB (.tmp 33) (.tmp 32) ga 1 [.string ks, .bool false, .slice none 0 0] false 62 (by simp) HOC.out.blk ?_ ?_ ?_ ?_ ?_
             · rfl
             · rfl
             · rfl
             · rfl
             intro y5 hb5 ho5
             replace HOC : Hid (Oc w g ga (.slice ad m c) b p2 b2 (.slice a0 i c0) ps y1 [.string ks, .bool false, .slice none 0 0] y5) := HOC.out.put hb5 ho5
             have d1 : y5.cell? ⟨ga, 1, none⟩ = some (.bool false) := HOC.out.blk.cell 1
             clear hb5 ho5)
          | (clear tc7; with_reducible refine wpSeq_cellB (.tmp 33) (.tmp 32) ga 1 [.string ks, .bool false, .slice none 0 0] true 62 (by simp) HOC.out.blk ?_ ?_ ?_ ?_ ?_
             · rfl
             · rfl
             · rfl
             · rfl
             intro y5 hb5 ho5
             replace HOC : Hid (Oc w g ga (.slice ad m c) b p2 b2 (.slice a0 i c0) ps y1 [.string ks, .bool true, .slice none 0 0] y5) := HOC.out.put hb5 ho5
             have d1 : y5.cell? ⟨ga, 1, none⟩ = some (.bool true) := HOC.out.blk.cell 1
             clear hb5 ho5)
          | (clear tc8; go_at_call 44; refine (intext_o g _ b p2 b2 _ HOC.out.inp HL.out).mono ?_; rintro e3 y6 ⟨dt, p3, u3, b3, rfl, hown, hi3, ho3, hm3⟩
             have HOD : Hid (OwnB y6 (ga + 1) u3 dt) := hown.mono HOC.out.blk.lt
             replace HOC : Hid (Oc w g ga (.slice ad m c) b p3 b3 (.slice a0 i c0) ps y1 [.string ks, .bool true, .slice none 0 0] y6) := HOC.out.call hi3 ho3
             have HM3 : Hid (MgO (readText (b.drop p2)) b2 b3 dt b p3) := hm3
             obtain ⟨a3, n3, c3, hv3⟩ := hown.reads.form
             subst hv3
             clear hown hi3 ho3 hm3 d1)
          | (clear tc9; with_reducible refine wpSeq_cellY (.tmp 38) (.tmp 37) ga 2 [.string ks, .bool true, .slice none 0 0] a3 n3 c3 62 (by simp) HOC.out.blk ?_ ?_ ?_ ?_ ?_
             · rfl
             · rfl
             · rfl
             · rfl
             intro y7 hb7 ho7
             replace HOC : Hid (Oc w g ga (.slice ad m c) b p3 b3 (.slice a0 i c0) ps y1 [.string ks, .bool true, .slice a3 n3 c3] y7) := HOC.out.put hb7 ho7
             replace HOD : Hid (OwnB y7 (ga + 1) (.slice a3 n3 c3) dt) := HOD.out.sameS (fun k hk => ho7.block k (by have := (HOD.out.ltS k hk).1; omega) (HOD.out.ltS k hk).2)
             clear hb7 ho7)
          | (clear tc10; with_reducible refine wpSeq_loadW 62 (.tmp 8) ga 0 [.string ks, .bool false, .slice none 0 0] _ (Blk.range HOC.out.blk) Tryz.underlying62 rfl (info_act15 _ _ _) ?_ ?_ ?_ ?_
             · rfl
             · rfl
             · rfl)
          | (clear tc11; with_reducible refine wpSeq_buildA1 (.tmp 40) ks false none 0 0 ?_ ?_ ?_ ?_
             · rfl
             · rfl
             · rfl
             intro g10 y8 nn
             have HNE : Hid ((Value.slice a0 i c0).ownBlock ≠ some g10) := fun e => by have h1 := (HOC.out.own.lt g10 e).2; have h2 := nn.ge; omega
             have HB10 : Hid (Blk y8 g10 (actC (⟨ky, false, []⟩ : ActT) (Value.slice none 0 0)) 62) := by rw [actC, ← HKS.out]; exact nn.blk
             have HDD : Hid (OwnB y8 (g + 1) (Value.slice none 0 0) []) := OwnB.nil _ _
             replace HOC : Hid (Oc w g ga (.slice ad m c) b p2 b2 (.slice a0 i c0) ps y1 [.string ks, .bool false, .slice none 0 0] y8) := HOC.out.new nn.below
             clear nn)
          | (clear tc12; refine wpSeq_appendA (.tmp 39) (.tmp 41) (g + 1) (.slice a0 i c0) ps ((⟨ky, false, []⟩ : ActT), (Value.slice none 0 0)) g10 HOC.out.own HB10.out HNE.out HDD.out (by rw [HPL.out]; have h1 := HN1.out; have h2 := HIN.out; omega) (by have h1 := HOC.out.gy; have h2 := HOC.out.ya; have h3 := HOC.out.blk.lt; omega) ?_ ?_ ?_ ?_ ?_
             · rfl
             · rfl
             · rfl
             · rfl
             intro v9 y9 ho9 hg9
             obtain ⟨a9, c9, hv9⟩ := ho9.form
             rw [List.length_append, HPL.out] at hv9
             replace hv9 : v9 = .slice a9 (i + 1) c9 := hv9
             subst hv9
             have HOB9 : Hid (Ob w g (.slice ad m c) b p2 b2 (.slice a9 (i + 1) c9) (ps ++ [((⟨ky, false, []⟩ : ActT), (Value.slice none 0 0))]) y9) := HOC.out.app ho9 hg9
             have HST9 : Hid (StO b n (i + 1) p2 b2 ((ps ++ [((⟨ky, false, []⟩ : ActT), (Value.slice none 0 0))]).map (·.1))) := by
               rw [List.map_append]
               exact HST.out.next HIN.out (act_unset HM1.out HM2.out (by decide))
             have HPL9 : Hid ((ps ++ [((⟨ky, false, []⟩ : ActT), (Value.slice none 0 0))]).length = i + 1) := by
               show _ = _
               rw [List.length_append, HPL.out]
               rfl
             clear ho9 hg9)
          | (clear tc13; with_reducible refine wpSeq_loadW 62 (.tmp 8) ga 0 [.string ks, .bool true, .slice a3 n3 c3] _ (Blk.range HOC.out.blk) Tryz.underlying62 rfl (info_act15 _ _ _) ?_ ?_ ?_ ?_
             · rfl
             · rfl
             · rfl)
          | (clear tc14; with_reducible refine wpSeq_buildA1 (.tmp 40) ks true a3 n3 c3 ?_ ?_ ?_ ?_
             · rfl
             · rfl
             · rfl
             intro g10 y8 nn
             have HNE : Hid ((Value.slice a0 i c0).ownBlock ≠ some g10) := fun e => by have h1 := (HOC.out.own.lt g10 e).2; have h2 := nn.ge; omega
             have HB10 : Hid (Blk y8 g10 (actC (⟨ky, true, dt⟩ : ActT) (Value.slice a3 n3 c3)) 62) := by rw [actC, ← HKS.out]; exact nn.blk
             have HDD : Hid (OwnB y8 (g + 1) (Value.slice a3 n3 c3) dt) := (HOD.out.newS nn.below).mono (by have h1 := HOC.out.gy; have h2 := HOC.out.ya; omega)
             replace HOC : Hid (Oc w g ga (.slice ad m c) b p3 b3 (.slice a0 i c0) ps y1 [.string ks, .bool true, .slice a3 n3 c3] y8) := HOC.out.new nn.below
             clear nn)
          | (clear tc15; refine wpSeq_appendA (.tmp 39) (.tmp 41) (g + 1) (.slice a0 i c0) ps ((⟨ky, true, dt⟩ : ActT), (Value.slice a3 n3 c3)) g10 HOC.out.own HB10.out HNE.out HDD.out (by rw [HPL.out]; have h1 := HN1.out; have h2 := HIN.out; omega) (by have h1 := HOC.out.gy; have h2 := HOC.out.ya; have h3 := HOC.out.blk.lt; omega) ?_ ?_ ?_ ?_ ?_
             · rfl
             · rfl
             · rfl
             · rfl
             intro v9 y9 ho9 hg9
             obtain ⟨a9, c9, hv9⟩ := ho9.form
             rw [List.length_append, HPL.out] at hv9
             replace hv9 : v9 = .slice a9 (i + 1) c9 := hv9
             subst hv9
             have HOB9 : Hid (Ob w g (.slice ad m c) b p3 b3 (.slice a9 (i + 1) c9) (ps ++ [((⟨ky, true, dt⟩ : ActT), (Value.slice a3 n3 c3))]) y9) := HOC.out.app ho9 hg9
             have HST9 : Hid (StO b n (i + 1) p3 b3 ((ps ++ [((⟨ky, true, dt⟩ : ActT), (Value.slice a3 n3 c3))]).map (·.1))) := by
               rw [List.map_append]
               exact HST.out.next HIN.out (act_set HM1.out HM2.out HM3.out)
             have HPL9 : Hid ((ps ++ [((⟨ky, true, dt⟩ : ActT), (Value.slice a3 n3 c3))]).length = i + 1) := by
               show _ = _
               rw [List.length_append, HPL.out]
               rfl
             clear ho9 hg9))
        · go_roundw
          case rel => exact ⟨i + 1, a9, c9, p2, b2, _, by omega, rfl, by simp, HPL9, HOB9, HST9⟩
          case measure => simp [intOf]; omega
        · go_roundw
          case rel => exact ⟨i + 1, a9, c9, p3, b3, _, by omega, rfl, by simp, HPL9, HOB9, HST9⟩
          case measure => simp [intOf]; omega
end Go.Proofs.YteklnooagjkclaaGreatDoor
/- The walk of the statements' few (layer 15). -/
namespace Go.Proofs.YteklnooagjkclaaGreatDoor
open Go.RowKit
set_option maxRecDepth 100000
/-- a slice of slices of acts -/
def ReadsAA (w : World) (v : Value) (ls : List (List ActT)) : Prop :=
  ∃ ad cap, v = .slice ad ls.length cap ∧ ls.length ≤ cap ∧ (0 < ls.length → ∃ b off, ad = some ⟨b, off, none⟩ ∧ ∀ j, j < ls.length → ∃ va, w.cell? ⟨b, off + j, none⟩ = some va ∧ ReadsA w va (ls.getD j []))
theorem ReadsAA.below {w w' : World} {v : Value} {ls : List (List ActT)} (h : ReadsAA w v ls) (hb : Below w.heap.size w w') : ReadsAA w' v ls := by
  obtain ⟨ad, cap, h1, h2, h4⟩ := h
  refine ⟨ad, cap, h1, h2, fun hp => ?_⟩
  obtain ⟨b, off, h5, h6⟩ := h4 hp
  refine ⟨b, off, h5, fun j hj => ?_⟩
  obtain ⟨va, h7, h8⟩ := h6 j hj
  exact ⟨va, by rw [hb.cell (p := ⟨b, off + j, none⟩) (block_lt_of_cell h7)]; exact h7, h8.below hb⟩
theorem ReadsAA.at {w : World} {ad : Option Addr} {n c : Nat} {ls : List (List ActT)} (h : ReadsAA w (.slice ad n c) ls) {j : Nat} (hj : j < ls.length) : ∃ b off va, ad = some ⟨b, off, none⟩ ∧ w.cell? ⟨b, off + j, none⟩ = some va ∧ ReadsA w va (ls.getD j []) := by
  obtain ⟨ad', cap, h1, h2, h4⟩ := h
  simp only [Value.slice.injEq] at h1
  obtain ⟨rfl, _, _⟩ := h1
  obtain ⟨b, off, h5, h6⟩ := h4 (Nat.lt_of_le_of_lt (Nat.zero_le _) hj)
  obtain ⟨va, h7, h8⟩ := h6 j hj
  exact ⟨b, off, va, h5, h7, h8⟩
end Go.Proofs.YteklnooagjkclaaGreatDoor
/- The reference's keys in memory; the walk of its place (layer 15). -/
namespace Go.Proofs.YteklnooagjkclaaGreatDoor
open Go.RowKit
set_option maxRecDepth 100000
/-- a slice of strings -/
def ReadsS (w : World) (v : Value) (ks : List Bs) : Prop :=
  ∃ ad cap, v = .slice ad ks.length cap ∧ ks.length ≤ cap ∧ (ad = none → cap = 0) ∧ (0 < ks.length → ∃ b off, ad = some ⟨b, off, none⟩ ∧ ∀ j, j < ks.length → w.cell? ⟨b, off + j, none⟩ = some (.string (strB (ks.getD j []))))
theorem ReadsS.form {w : World} {v : Value} {ks : List Bs} (h : ReadsS w v ks) : ∃ ad c, v = .slice ad ks.length c := by
  obtain ⟨ad, c, hv, _⟩ := h
  exact ⟨ad, c, hv⟩
theorem ReadsS.below {w w' : World} {v : Value} {ks : List Bs} (h : ReadsS w v ks) (hb : Below w.heap.size w w') : ReadsS w' v ks := by
  obtain ⟨ad, cap, h1, h2, h3, h4⟩ := h
  refine ⟨ad, cap, h1, h2, h3, fun hp => ?_⟩
  obtain ⟨b, off, h5, h6⟩ := h4 hp
  refine ⟨b, off, h5, fun j hj => ?_⟩
  have h7 := h6 j hj
  rw [hb.cell (p := ⟨b, off + j, none⟩) (block_lt_of_cell h7)]
  exact h7
theorem ReadsS.at {w : World} {ad : Option Addr} {n c : Nat} {ks : List Bs} (h : ReadsS w (.slice ad n c) ks) {j : Nat} (hj : j < ks.length) : ∃ b off, ad = some ⟨b, off, none⟩ ∧ w.cell? ⟨b, off + j, none⟩ = some (.string (strB (ks.getD j []))) := by
  obtain ⟨ad', cap, h1, h2, h3, h4⟩ := h
  simp only [Value.slice.injEq] at h1
  obtain ⟨rfl, _, _⟩ := h1
  obtain ⟨b, off, h5, h6⟩ := h4 (Nat.lt_of_le_of_lt (Nat.zero_le _) hj)
  exact ⟨b, off, h5, h6 j hj⟩
end Go.Proofs.YteklnooagjkclaaGreatDoor
/- The walk of the reference's Get (layer 15). -/
namespace Go.Proofs.YteklnooagjkclaaGreatDoor
open Go.RowKit
set_option maxRecDepth 100000
end Go.Proofs.YteklnooagjkclaaGreatDoor
/- Where a key stands in a rising list (layer 15; plain). -/
namespace Go.Proofs.YteklnooagjkclaaGreatDoor
theorem rise_cons {p : Bs × Bs} {m : KM} : Rise (p :: m) ↔ (∀ q ∈ m, ltB p.1 q.1 = true) ∧ Rise m := List.pairwise_cons
end Go.Proofs.YteklnooagjkclaaGreatDoor
/- The store's map of texts: as a rising list of keys with texts (layer 15). -/
namespace Go.Proofs.YteklnooagjkclaaGreatDoor
open Go.RowKit
set_option maxRecDepth 100000
theorem getM_cons (p : Bs × Bs) (m : KM) (k : Bs) : getM (p :: m) k = if p.1 = k then some p.2 else getM m k := by
  unfold getM
  by_cases e : p.1 = k
  · rw [if_pos e, List.find?_cons_of_pos (by simp [e])]; rfl
  · rw [if_neg e, List.find?_cons_of_neg (by simp [e])]
theorem opt_ext {x y : Option Bs} (h : ∀ d, x = some d ↔ y = some d) : x = y := by
  cases x with
  | none =>
    cases y with
    | none => rfl
    | some d => exact absurd ((h d).2 rfl) (by simp)
  | some d => exact ((h d).1 rfl).symm
theorem get_one {m : KM} (h : Rise m) (a : ActT) (q : Bs) : getM (oneM m a) q = if q = a.key then (if a.set then some a.data else none) else getM m q := by
  apply opt_ext
  intro d
  rw [getM_mem (h.one a), mem_one]
  by_cases e : q = a.key
  · rw [if_pos e]
    constructor
    · rintro (⟨_, h2⟩ | ⟨h1, h2⟩)
      · exact absurd e h2
      · rw [if_pos h1]; simp at h2; rw [h2.2]
    · intro h1
      by_cases hs : a.set = true
      · rw [if_pos hs] at h1
        simp at h1
        exact Or.inr ⟨hs, by rw [e, h1]⟩
      · rw [if_neg hs] at h1
        cases h1
  · rw [if_neg e, getM_mem h]
    constructor
    · rintro (⟨h1, _⟩ | ⟨_, h2⟩)
      · exact h1
      · simp at h2; exact absurd h2.1 e
    · intro h1
      exact Or.inl ⟨h1, e⟩
theorem len_parts : ∀ {m : KM} (k : Bs), Rise m → (m.filter (fun p => ltB p.1 k)).length + (m.filter (fun p => ltB k p.1)).length + (if (getM m k).isSome then 1 else 0) = m.length
  | [], k, _ => by simp [getM]
  | p :: m, k, h => by
    obtain ⟨h1, h2⟩ := rise_cons.1 h
    have ih := len_parts k h2
    rw [getM_cons]
    rcases ltB_tri p.1 k with c | c | c
    · rw [List.filter_cons_of_pos (by exact c), List.filter_cons_of_neg (by rw [ltB_asym c]; decide), if_neg (ltB_ne c), List.length_cons, List.length_cons]
      omega
    · have e1 : m.filter (fun p => ltB p.1 k) = [] := List.filter_eq_nil_iff.2 (fun q hq => by have := h1 q hq; rw [c] at this; simp [ltB_asym this])
      have e2 : m.filter (fun p => ltB k p.1) = m := List.filter_eq_self.2 (fun q hq => by have := h1 q hq; rw [c] at this; exact this)
      rw [List.filter_cons_of_neg (by rw [c, ltB_irr]; decide), List.filter_cons_of_neg (by rw [c, ltB_irr]; decide), e1, e2, if_pos c]
      simp
    · rw [List.filter_cons_of_neg (by rw [ltB_asym c]; decide), List.filter_cons_of_pos (by exact c), if_neg (show ¬ p.1 = k from fun e => by rw [e, ltB_irr] at c; cases c), List.length_cons, List.length_cons]
      omega
theorem len_one {m : KM} (h : Rise m) (a : ActT) : (oneM m a).length + (if (getM m a.key).isSome then 1 else 0) = m.length + (if a.set then 1 else 0) := by
  have h1 := len_parts a.key h
  unfold oneM
  rw [List.length_append, List.length_append]
  cases a.set <;> simp <;> omega
/-- how a slice reads -/
def slD : Value → DataW Unit
  | .slice none n c => .agg [.lit (.int .i64 (-1)), .lit (.int .i64 0), .lit (.int .i64 (n : Int)), .lit (.int .i64 (c : Int))]
  | .slice (some a) n c => .agg [.lit (.int .i64 (a.block : Int)), .lit (.int .i64 (a.off : Int)), .lit (.int .i64 (n : Int)), .lit (.int .i64 (c : Int))]
  | _ => .nil
def isSl : Value → Bool
  | .slice none _ _ => true
  | .slice (some ⟨_, _, none⟩) _ _ => true
  | _ => false
def slE (v : Value) : Option (DataW Unit × List MemPlace) := if isSl v then some (slD v, []) else none
theorem slE_mk {v : Value} (h : isSl v = true) : slE v = some (slD v, []) := if_pos h
theorem slE_inv {v u : Value} {ps : List MemPlace} (hu : isSl u = true) (h : slE v = some (slD u, ps)) : v = u := by
  unfold slE at h
  split at h
  · rename_i hv
    simp only [Option.some.injEq, Prod.mk.injEq] at h
    obtain ⟨e, _⟩ := h
    cases v <;> simp [isSl] at hv
    rename_i ad n c
    cases u <;> simp [isSl] at hu
    rename_i ad2 n2 c2
    cases ad with
    | none =>
      cases ad2 with
      | none => simp [slD] at e; simp; omega
      | some b => simp [slD] at e <;> omega
    | some a =>
      obtain ⟨ab, ao, asp⟩ := a
      cases asp with
      | some _ => simp at hv
      | none =>
        cases ad2 with
        | none => simp [slD] at e <;> omega
        | some b =>
          obtain ⟨bb, bo, bsp⟩ := b
          cases bsp with
          | some _ => simp at hu
          | none => simp [slD] at e; simp; omega
  · cases h
theorem Reads.isSl {w : World} {v : Value} {b : Bs} (h : Reads w v b) : b ≠ [] → isSl v = true := by
  obtain ⟨ad, cap, rfl, h2, h3, h4⟩ := h
  intro hb
  obtain ⟨b0, off, rfl, _⟩ := h4 (List.length_pos_iff.2 hb)
  rfl
def litB (s : Bs) : Lit := .string (strB s).data.toList
theorem strB_inj2 {s t : Bs} (h : strB s = strB t) : s = t := by
  have h1 := strB_inj s t
  rw [h] at h1
  simp at h1
  exact h1
theorem litB_inj {s t : Bs} (h : litB s = litB t) : s = t := by
  unfold litB at h
  apply strB_inj2
  revert h
  cases strB s; cases strB t
  intro h
  simp at h
  simp [h]
theorem kSt : Maps.Keyed Tryz.prog 9 := Maps.string_keyed Tryz.underlying9
theorem keyB {s : Bs} (h : s.length ≤ 1000000) : keyOf Tryz.prog 9 (.string (strB s)) = some (litB s) := WideMaps.keyOf_string_mk Tryz.underlying9 (by rw [strB_size]; unfold maxLen; omega)
theorem litBK (s : Bs) : WideAt.IsKeyLit (litB s) := trivial
/-- block gm is a map of the keys of m, under which the slices V lie -/
structure MapM (w : World) (gm n : Nat) (V : Bs → Value) (m : KM) : Prop where
  ex : ∃ D : DataW Unit, w.ownsMap Tryz.prog 9 slE gm n D ∧ Maps.size D = m.length ∧ ∀ s, Maps.has D (litB s) = (getM m s).isSome ∧ ((getM m s).isSome = true → D.atKey (litB s) (slD (.slice none 0 0)) = slD (V s))
  sl : ∀ s, (getM m s).isSome = true → isSl (V s) = true
  up : Rise m
theorem MapM.lt {w : World} {gm n : Nat} {V : Bs → Value} {m : KM} (h : MapM w gm n V m) : gm < w.heap.size := by obtain ⟨D, h1, _⟩ := h.ex; exact h1.lt
theorem MapM.same {w w' : World} {gm n : Nat} {V : Bs → Value} {m : KM} (h : MapM w gm n V m) (e : w'.heap[gm]? = w.heap[gm]?) : MapM w' gm n V m := by
  obtain ⟨D, ⟨es, cl, hb, r⟩, h2⟩ := h.ex
  exact ⟨⟨D, ⟨es, cl, by rw [e]; exact hb, r⟩, h2⟩, h.sl, h.up⟩
theorem MapM.ne {w : World} {gm n : Nat} {V : Bs → Value} {m : KM} (h : MapM w gm n V m) {g : Nat} {cs : Array Value} {t : TypeId} {fr : Nat × Nat} (hb : w.heap[g]? = some (.cells cs t fr)) : gm ≠ g := fun e => by
  obtain ⟨D, ⟨es, cl, hm, _⟩, _⟩ := h.ex
  subst e
  rw [hm] at hb
  cases hb
theorem mapM_new (w : World) (V : Bs → Value) : MapM (w.alloc (.map #[] 0)) w.heap.size 0 V [] :=
  ⟨⟨.map [], World.ownsMap_made w _ _ _, rfl, fun _ => ⟨rfl, fun h => (by cases h)⟩⟩, fun _ h => (by cases h), List.Pairwise.nil⟩
/-- a key looked up: what lies under it, and whether it is there -/
theorem MapM.look {w : World} {gm n : Nat} {V : Bs → Value} {m : KM} (h : MapM w gm n V m) {s : Bs} (hs : s.length ≤ 1000000) : (Instr.lookup 97 (.map (some gm)) (.string (strB s)) true).run Tryz.prog w = .ok (.tuple #[if (getM m s).isSome then V s else .slice none 0 0, .bool (getM m s).isSome]) w := by
  obtain ⟨D, h1, h2, h3⟩ := h.ex
  obtain ⟨v, ps, hr, hv⟩ := h1.look_ok kSt Tryz.underlying97 (z := .slice none 0 0) (by kernel_rfl) (slE_mk rfl) (keyB hs)
  obtain ⟨h4, h5⟩ := h3 s
  rw [h4] at hr
  by_cases c : (getM m s).isSome = true
  · rw [h5 c] at hv
    rw [slE_inv (h.sl s c) hv] at hr
    rw [if_pos c]
    exact hr
  · have hf : Maps.has D (litB s) = false := by rw [h4]; simpa using c
    rw [Maps.atKey_of_not_has hf] at hv
    rw [slE_inv rfl hv] at hr
    rw [if_neg c]
    exact hr
theorem MapM.len {w : World} {gm n : Nat} {V : Bs → Value} {m : KM} (h : MapM w gm n V m) (ty : TypeId) : (Builtin.len_ #[97] ty #[.map (some gm)]).run Tryz.prog w = .ok (.int .i64 (m.length : Int)) w := by
  obtain ⟨D, h1, h2, _⟩ := h.ex
  rw [h1.len Tryz.underlying97 ty, h2]
/-- nothing but the block gm changed -/
theorem mapTurned_only {w w' : World} {gm : Nat} (h : w.mapTurned w' gm) : Only gm w w' := by
  obtain ⟨es, cl, es', cl', hb, rfl⟩ := h
  exact ⟨rfl, rfl, rfl, by simp [ChangeMaps.setBlock], fun k hk _ => ChangeMaps.heap_setBlock_other hb _ hk⟩
theorem MapM.lay {w : World} {gm n : Nat} {V : Bs → Value} {m : KM} (h : MapM w gm n V m) (hn : n < 100000000) {s : Bs} (hs : s.length ≤ 1000000) {v : Value} (hv : isSl v = true) (t : Bs) : ∃ w', (Instr.mapUpdate 97 (.map (some gm)) (.string (strB s)) v).run Tryz.prog w = .ok () w' ∧ MapM w' gm (n + 1) (fun q => if q = s then v else V q) (oneM m ⟨s, true, t⟩) ∧ Only gm w w' := by
  obtain ⟨D, h1, h2, h3⟩ := h.ex
  have hi := h1.isMap
  have ht := h1.tidy kSt
  obtain ⟨w', hr, h4, h5⟩ := h1.store kSt Tryz.underlying97 (by unfold maxLen; omega) (keyB hs) (slE_mk hv)
  refine ⟨w', hr, ⟨⟨_, h4, ?_, fun q => ?_⟩, fun q hq => ?_, h.up.one _⟩, mapTurned_only h5⟩
  · have e1 := Maps.size_put (k := litB s) ht (slD v)
    have e2 := len_one h.up ⟨s, true, t⟩
    rw [(h3 s).1] at e1
    rw [e1]
    simp only [if_true] at e2
    by_cases c : (getM m s).isSome = true
    · rw [if_pos c] at e2 ⊢; omega
    · rw [if_neg c] at e2 ⊢; omega
  · rw [get_one h.up]
    by_cases e : q = s
    · subst e
      refine ⟨?_, fun _ => ?_⟩
      · rw [Maps.has_put_same hi (litBK _)]; simp
      · rw [Maps.atKey_put_same hi (litBK _), if_pos rfl]
    · have hne : litB q ≠ litB s := fun e2 => e (litB_inj e2)
      rw [if_neg e]
      refine ⟨?_, fun hq => ?_⟩
      · rw [Maps.has_put_other hne]; exact (h3 q).1
      · rw [Maps.atKey_put_other hne, if_neg e]; exact (h3 q).2 hq
  · show isSl (if q = s then v else V q) = true
    by_cases e : q = s
    · rw [if_pos e]; exact hv
    · rw [if_neg e]
      rw [get_one h.up, if_neg e] at hq
      exact h.sl q hq
theorem MapM.cut {w : World} {gm n : Nat} {V : Bs → Value} {m : KM} (h : MapM w gm n V m) {s : Bs} (hs : s.length ≤ 1000000) (ty : TypeId) : ∃ w', (Builtin.delete_ #[97, 9] ty #[.map (some gm), .string (strB s)]).run Tryz.prog w = .ok (.tuple #[]) w' ∧ MapM w' gm n V (oneM m ⟨s, false, []⟩) ∧ Only gm w w' := by
  obtain ⟨D, h1, h2, h3⟩ := h.ex
  have ht := h1.tidy kSt
  obtain ⟨w', hr, h4, h5⟩ := h1.drop kSt Tryz.underlying97 (keyB hs) ty
  refine ⟨w', hr, ⟨⟨_, h4, ?_, fun q => ?_⟩, fun q hq => ?_, h.up.one _⟩, mapTurned_only h5⟩
  · have e1 := Maps.size_del (k := litB s) ht
    have e2 := len_one h.up ⟨s, false, []⟩
    rw [(h3 s).1] at e1
    simp only [Bool.false_eq_true, if_false] at e2
    omega
  · rw [get_one h.up]
    by_cases e : q = s
    · subst e
      refine ⟨?_, fun hq => ?_⟩
      · rw [Maps.has_del_same]; simp
      · simp at hq
    · have hne : litB q ≠ litB s := fun e2 => e (litB_inj e2)
      rw [if_neg e]
      refine ⟨?_, fun hq => ?_⟩
      · rw [Maps.has_del_other hne]; exact (h3 q).1
      · rw [Maps.atKey_del_other hne]; exact (h3 q).2 hq
  · rw [get_one h.up] at hq
    by_cases e : q = s
    · rw [if_pos e] at hq; simp at hq
    · rw [if_neg e] at hq; exact h.sl q hq
end Go.Proofs.YteklnooagjkclaaGreatDoor
/- The store's do: a batch done to its map (layer 15). -/
namespace Go.Proofs.YteklnooagjkclaaGreatDoor
open Go.RowKit
set_option maxRecDepth 100000
/-- a slice of acts, with the slices of their data -/
def RdP (w : World) (v : Value) (ps : List (ActT × Value)) : Prop := ∃ ad cap, v = .slice ad ps.length cap ∧ (0 < ps.length → ∃ b off, ad = some ⟨b, off, none⟩ ∧ ∀ (j : Nat) (p : ActT × Value), ps[j]? = some p → w.rangeAt b (off + j * 3) (actC p.1 p.2))
theorem RdP.form {w : World} {v : Value} {ps : List (ActT × Value)} (h : RdP w v ps) : ∃ ad c, v = .slice ad ps.length c := by
  obtain ⟨ad, c, hv, _⟩ := h
  exact ⟨ad, c, hv⟩
theorem RdP.at {w : World} {ad : Option Addr} {n c : Nat} {ps : List (ActT × Value)} (h : RdP w (.slice ad n c) ps) {j : Nat} {p : ActT × Value} (hj : ps[j]? = some p) : ∃ b off, ad = some ⟨b, off, none⟩ ∧ w.rangeAt b (off + j * 3) (actC p.1 p.2) := by
  obtain ⟨ad', cap, h1, h3⟩ := h
  simp only [Value.slice.injEq] at h1
  obtain ⟨rfl, _, _⟩ := h1
  have hl := (List.getElem?_eq_some_iff.1 hj).1
  obtain ⟨b, off, h4, h5⟩ := h3 (by omega)
  exact ⟨b, off, h4, h5 j p hj⟩
theorem range_mut {w w' : World} {P : Nat → Prop} {b off : Nat} {cs : List Value} (h : w.rangeAt b off cs) (m : Mut P w w') (hb : ¬ P b) : w'.rangeAt b off cs := fun j u hj => by
  have h1 := h j u hj
  rw [World.cell?_of_block (w := w) (m.block b (block_lt_of_cell h1) hb)]
  exact h1
theorem MapM.neC {w : World} {gm n : Nat} {V : Bs → Value} {m : KM} (h : MapM w gm n V m) {a : Addr} {u : Value} (hc : w.cell? a = some u) : a.block ≠ gm := fun e => by
  obtain ⟨D, ⟨es, cl, hm, _⟩, _⟩ := h.ex
  rw [World.cell?, e, hm] at hc
  simp at hc
/-- while a batch is done -/
structure DoS (w : World) (gm n : Nat) (K : Value → Bs → Prop) (m : KM) (V : Bs → Value) (wr : World) : Prop where
  mp : MapM wr gm n V m
  kk : ∀ s t, getM m s = some t → K (V s) t
  mu : Mut (fun j => j = gm) w wr
theorem DoS.below {w wr w' : World} {gm n : Nat} {K : Value → Bs → Prop} {m : KM} {V : Bs → Value} (h : DoS w gm n K m V wr) (hb : Below wr.heap.size wr w') : DoS w gm n K m V w' := ⟨h.mp.same (hb.block gm h.mp.lt), h.kk, h.mu.trans (fun _ _ h => h) (mut_below hb _)⟩
theorem DoS.only {w wr w' : World} {gm n g : Nat} {K : Value → Bs → Prop} {m : KM} {V : Bs → Value} {cs : List Value} {t : TypeId} (h : DoS w gm n K m V wr) (hb : Blk wr g cs t) (hg : w.heap.size ≤ g) (ho : Only g wr w') : DoS w gm n K m V w' :=
  ⟨h.mp.same (ho.block gm (h.mp.ne hb) h.mp.lt), h.kk, h.mu.trans (fun k hk (e : k = g) => absurd hk (by omega)) (ho.mut (P := fun k => k = g) rfl)⟩
theorem DoS.set {w wr w' : World} {gm n : Nat} {K : Value → Bs → Prop} {m : KM} {V : Bs → Value} (h : DoS w gm n K m V wr) {s t : Bs} {v : Value} (hv : K v t) (hm : MapM w' gm (n + 1) (fun q => if q = s then v else V q) (oneM m ⟨s, true, t⟩)) (ho : Only gm wr w') : DoS w gm (n + 1) K (oneM m ⟨s, true, t⟩) (fun q => if q = s then v else V q) w' := by
  refine ⟨hm, fun q u hq => ?_, h.mu.trans (fun _ _ h => h) (ho.mut (P := fun k => k = gm) rfl)⟩
  rw [get_one h.mp.up] at hq
  by_cases e : q = s
  · rw [if_pos e] at hq
    simp at hq
    show K (if q = s then v else V q) u
    rw [if_pos e, ← hq]
    exact hv
  · rw [if_neg e] at hq
    show K (if q = s then v else V q) u
    rw [if_neg e]
    exact h.kk q u hq
theorem DoS.del {w wr w' : World} {gm n : Nat} {K : Value → Bs → Prop} {m : KM} {V : Bs → Value} (h : DoS w gm n K m V wr) {s : Bs} (hm : MapM w' gm n V (oneM m ⟨s, false, []⟩)) (ho : Only gm wr w') : DoS w gm (n + 1) K (oneM m ⟨s, false, []⟩) V w' := by
  refine ⟨⟨?_, hm.sl, hm.up⟩, fun q u hq => ?_, h.mu.trans (fun _ _ h => h) (ho.mut (P := fun k => k = gm) rfl)⟩
  · obtain ⟨D, h1, h2⟩ := hm.ex
    exact ⟨D, h1.mono (Nat.le_succ _), h2⟩
  · rw [get_one h.mp.up] at hq
    by_cases e : q = s
    · rw [if_pos e] at hq; simp at hq
    · rw [if_neg e] at hq
      exact h.kk q u hq
theorem one_unset (m : KM) (a : ActT) (h : a.set = false) : oneM m a = oneM m ⟨a.key, false, []⟩ := by unfold oneM; rw [h]; rfl
theorem isSl_form {v : Value} (h : isSl v = true) : ∃ ad n c, v = .slice ad n c := by
  cases v <;> simp [isSl] at h
  exact ⟨_, _, _, rfl⟩
set_option maxRecDepth 100000 in
set_option maxHeartbeats 2000000 in
theorem sDo_any {w : World} {gm n : Nat} {V : Bs → Value} {m : KM} (K : Value → Bs → Prop) (hm : MapM w gm n V m) (hK : ∀ s t, getM m s = some t → K (V s) t) (v : Value) (ps : List (ActT × Value)) (hr : RdP w v ps) (hp : ∀ p ∈ ps, p.1.key.length ≤ 1000000 ∧ isSl p.2 = true ∧ (p.1.set = true → K p.2 p.1.data)) (hn : n + ps.length < 10000000) :
    Calls Tryz.prog 54 #[.map (some gm), v] w fun e w' => e = .returned (.tuple #[]) ∧ ∃ V', DoS w gm (n + ps.length) K (doneM m (ps.map (·.1))) V' w' := by
  obtain ⟨ad, cp, hv⟩ := hr.form
  obtain ⟨N, HN⟩ : ∃ x, Hid (x = ps.length) := ⟨_, rfl⟩
  rw [← HN.out] at hv hn ⊢
  subst hv
  have HR : Hid (RdP w (.slice ad N cp) ps) := hr
  have HP : Hid (∀ p ∈ ps, p.1.key.length ≤ 1000000 ∧ isSl p.2 = true ∧ (p.1.set = true → K p.2 p.1.data)) := hp
  have HNN : Hid (n + N < 10000000) := hn
  have HI0 : Hid (DoS w gm (n + 0) K (doneM m ((ps.take 0).map (·.1))) V w) := ⟨hm, hK, Mut.refl _ _⟩
  have HM0 : Hid (MapM w gm n V m) := hm
  clear hr hp hn hm hK
  go_enter Tryz.func54, Tryz.ntmps54
  go_wp2
  go_loopw [8] (fun i wr => ∃ k : Nat, k ≤ N ∧ i = .int .i64 (k : Int) ∧ ∃ V', DoS w gm (n + k) K (doneM m ((ps.take k).map (·.1))) V' wr) (fun i _ => N - (intOf i).toNat)
  case atStart => exact ⟨0, Nat.zero_le _, rfl, V, HI0.out⟩
  case round =>
    clear HI0
    obtain ⟨k, hkn, rfl, V', hI⟩ := hrel
    by_cases hlt : k < N
    · obtain ⟨p, hp⟩ : ∃ p, ps[k]? = some p := ⟨_, List.getElem?_eq_getElem (by rw [← HN.out]; exact hlt)⟩
      obtain ⟨hk1, hk2, hk3⟩ := HP.out p (List.mem_of_getElem? hp)
      obtain ⟨b, off, e1, hrg⟩ := HR.out.at hp
      subst e1
      have hneb : ¬ b = gm := HM0.out.neC (hrg 0 _ rfl)
      have hrw := range_mut hrg hI.mu hneb
      have HTK : Hid (doneM m ((ps.take (k + 1)).map (·.1)) = oneM (doneM m ((ps.take k).map (·.1))) p.1) := by
        show _ = _
        rw [List.take_add_one, hp, List.map_append]
        exact doneM_snoc _ _ _
      obtain ⟨⟨ky, st, da⟩, vd⟩ := p
      obtain ⟨av, nv, cv, hvd⟩ := isSl_form hk2
      simp only at hvd
      subst hvd
      obtain ⟨sk, HSK⟩ : ∃ x, Hid (x = strB ky) := ⟨_, rfl⟩
      have HRW : Hid (wr.rangeAt b (off + k * 3) [.string sk, .bool st, .slice av nv cv]) := by
        show wr.rangeAt _ _ _
        rw [HSK.out]
        exact hrw
      have HW : Hid (DoS w gm (n + k) K (doneM m ((ps.take k).map (·.1))) V' wr) := hI
      have HKY : Hid (ky.length ≤ 1000000 ∧ isSl (.slice av nv cv) = true ∧ (st = true → K (.slice av nv cv) da)) := ⟨hk1, hk2, hk3⟩
      have k0 : (0 : Int) ≤ (k : Int) := by omega
      have k3 : (k : Int) < (N : Int) := by omega
      have f5 : IntKind.i64.wrap ((k : Int) + 1) = (k : Int) + 1 := by have := HNN.out; rw [IntKind.wrap_i64]; omega
      clear hI hp hk1 hk2 hk3 hrg hrw hneb
      have tk0 : Hid True := trivial
      have tk1 : Hid True := trivial
      have tk2 : Hid True := trivial
      have tk3 : Hid True := trivial
      cases st with
      | true =>
        go_wp2_with (first
          | (clear tk3; with_reducible refine wpSeq_idxA (.tmp 6) (.tmp 8) b off N cp k hlt ?_ ?_ ?_ ?_ ?_
             · rfl
             · rfl
             · rfl
             · rfl)
          | (clear tk0; with_reducible refine wpSeq_loadW 62 (.tmp 10) b (off + k * 3) [.string sk, .bool true, .slice av nv cv] _ HRW.out Tryz.underlying62 rfl (info_act15 _ _ _) ?_ ?_ ?_ ?_
             · rfl
             · rfl
             · rfl)
          | (clear tk1; with_reducible refine wpSeq_allocA ?_ ?_ ?_
             · rfl
             · rfl
             intro g5 y1 nn
             have H5 : Hid (Blk y1 g5 zA 62) := nn.blk
             have HG5 : Hid (w.heap.size ≤ g5) := Nat.le_trans HW.out.mu.size nn.ge
             replace HW : Hid (DoS w gm (n + k) K (doneM m ((ps.take k).map (·.1))) V' y1) := HW.out.below nn.below
             clear nn)
          | (clear tk2; with_reducible refine wpSeq_storeRow 62 (.tmp 5) (.tmp 11) g5 zA [.string sk, .bool true, .slice av nv cv] H5.out rfl (info_act15 _ _ _) (one_act _ _ _ _ _) ?_ ?_ ?_ ?_ ?_
             · rfl
             · rfl
             · rfl
             · rfl
             intro y2 sr
             replace HW : Hid (DoS w gm (n + k) K (doneM m ((ps.take k).map (·.1))) V' y2) := HW.out.only H5.out HG5.out sr.only
             have c0 : y2.cell? ⟨g5, 0, none⟩ = some (.string sk) := sr.blk.cell 0
             have c1 : y2.cell? ⟨g5, 1, none⟩ = some (.bool true) := sr.blk.cell 1
             have c2 : y2.cell? ⟨g5, 2, none⟩ = some (.slice av nv cv) := sr.blk.cell 2
             obtain ⟨y3, hr3, hm3, ho3⟩ := HW.out.mp.lay (by have := HNN.out; omega) HKY.out.1 HKY.out.2.1 da
             rw [← HSK.out] at hr3
             have HW3 : Hid (DoS w gm (n + k + 1) K (oneM (doneM m ((ps.take k).map (·.1))) ⟨ky, true, da⟩) (fun q => if q = ky then .slice av nv cv else V' q) y3) := HW.out.set (HKY.out.2.2 rfl) hm3 ho3
             clear sr hm3 ho3))
        go_roundw
        case rel => exact ⟨k + 1, hlt, rfl, _, by rw [HTK.out]; exact HW3.out⟩
        case measure => simp [intOf]; omega
      | false =>
        go_wp2_with (first
          | (clear tk3; with_reducible refine wpSeq_idxA (.tmp 6) (.tmp 8) b off N cp k hlt ?_ ?_ ?_ ?_ ?_
             · rfl
             · rfl
             · rfl
             · rfl)
          | (clear tk0; with_reducible refine wpSeq_loadW 62 (.tmp 10) b (off + k * 3) [.string sk, .bool false, .slice av nv cv] _ HRW.out Tryz.underlying62 rfl (info_act15 _ _ _) ?_ ?_ ?_ ?_
             · rfl
             · rfl
             · rfl)
          | (clear tk1; with_reducible refine wpSeq_allocA ?_ ?_ ?_
             · rfl
             · rfl
             intro g5 y1 nn
             have H5 : Hid (Blk y1 g5 zA 62) := nn.blk
             have HG5 : Hid (w.heap.size ≤ g5) := Nat.le_trans HW.out.mu.size nn.ge
             replace HW : Hid (DoS w gm (n + k) K (doneM m ((ps.take k).map (·.1))) V' y1) := HW.out.below nn.below
             clear nn)
          | (clear tk2; with_reducible refine wpSeq_storeRow 62 (.tmp 5) (.tmp 11) g5 zA [.string sk, .bool false, .slice av nv cv] H5.out rfl (info_act15 _ _ _) (one_act _ _ _ _ _) ?_ ?_ ?_ ?_ ?_
             · rfl
             · rfl
             · rfl
             · rfl
             intro y2 sr
             replace HW : Hid (DoS w gm (n + k) K (doneM m ((ps.take k).map (·.1))) V' y2) := HW.out.only H5.out HG5.out sr.only
             have c0 : y2.cell? ⟨g5, 0, none⟩ = some (.string sk) := sr.blk.cell 0
             have c1 : y2.cell? ⟨g5, 1, none⟩ = some (.bool false) := sr.blk.cell 1
             obtain ⟨y3, hr3, hm3, ho3⟩ := HW.out.mp.cut HKY.out.1 0
             rw [← HSK.out] at hr3
             have HW3 : Hid (DoS w gm (n + k + 1) K (oneM (doneM m ((ps.take k).map (·.1))) ⟨ky, false, []⟩) V' y3) := HW.out.del hm3 ho3
             clear sr hm3 ho3))
        go_roundw
        case rel => exact ⟨k + 1, hlt, rfl, _, by rw [HTK.out, one_unset _ ⟨ky, false, da⟩ rfl]; exact HW3.out⟩
        case measure => simp [intOf]; omega
    · have hkk : k = N := by omega
      subst hkk
      have HF : Hid (DoS w gm (n + k) K (doneM m (ps.map (·.1))) V' wr) := by
        have h9 := hI
        rw [List.take_of_length_le (by rw [← HN.out]; exact Nat.le_refl _)] at h9
        exact h9
      clear hI
      go_wp2
      refine bodyPost_end (results_none rfl _ _ _) rfl ?_
      exact ⟨rfl, _, HF.out⟩
end Go.Proofs.YteklnooagjkclaaGreatDoor
/- The store's copies: acts with data in memory of its own (layer 15). -/
namespace Go.Proofs.YteklnooagjkclaaGreatDoor
open Go.RowKit
set_option maxRecDepth 100000
theorem rowP_app (a b : List (ActT × Value)) : rowP (a ++ b) = rowP a ++ rowP b := by simp [rowP]
theorem rowP_idx {ps : List (ActT × Value)} {q : Nat} {u : Value} (h : (rowP ps)[q]? = some u) : ∃ p, ps[q / 3]? = some p ∧ (actC p.1 p.2)[q % 3]? = some u := by
  have hl : q < (rowP ps).length := (List.getElem?_eq_some_iff.1 h).1
  rw [rowP_len] at hl
  have hq : q / 3 < ps.length := by omega
  refine ⟨ps[q / 3], List.getElem?_eq_getElem hq, ?_⟩
  have h3 : q % 3 < (actC ps[q / 3].1 ps[q / 3].2).length := by show q % 3 < 3; omega
  have h4 := rowP_at ps (q / 3) (q % 3) _ _ (List.getElem?_eq_getElem hq) (List.getElem?_eq_getElem h3)
  rw [show q / 3 * 3 + q % 3 = q by omega, h] at h4
  rw [List.getElem?_eq_getElem h3]
  exact h4.symm
theorem rowP_one {ps : List (ActT × Value)} (h : ∀ p ∈ ps, isSl p.2 = true) : ∀ u ∈ rowP ps, u.oneCell' = true := by
  intro u hu
  obtain ⟨q, hq⟩ := List.mem_iff_getElem?.1 hu
  obtain ⟨p, hp, hi⟩ := rowP_idx hq
  obtain ⟨ad, n, c, e⟩ := isSl_form (h p (List.mem_of_getElem? hp))
  rw [actC, e] at hi
  exact one_act _ _ _ _ _ u (List.mem_of_getElem? hi)
theorem build_a0 (f : Operand → Value) (o : Oper) (ho : o.op = .buildSlice 22 0 #[]) (w : World) : (execOp f o).run Tryz.prog w = .ok (.value (.slice (some ⟨w.heap.size, 0, none⟩) 0 0)) (w.alloc (.cells #[] 62)) := by
  unfold execOp
  rw [ho]
  kernel_rfl
theorem wpSeq_buildA0 {ops : Array Oper} {Q : Exit → Act → World → Prop} {rest : List Oper} {o : Oper} {a : Act} {w : World} (ho : o.op = .buildSlice 22 0 #[]) (hw : Region.wanted o (yielded ops a.tmps) = true)
    (h : ∀ g w', w.heap.size ≤ g → w'.ownsRow w.heap.size 62 3 (.slice (some ⟨g, 0, none⟩) 0 0) 0 [] → Below w.heap.size w w' → wpList Tryz.prog ops Q rest (a.put o.dst (.slice (some ⟨g, 0, none⟩) 0 0)) w') : wpList Tryz.prog ops Q (o :: rest) a w :=
  wpSeq_val _ _ hw (build_a0 _ _ ho _) (h _ _ (Nat.le_refl _) ⟨rfl, Or.inr ⟨w.heap.size, 0, #[], rfl, Nat.le_refl _, Blk.new w [] _, Nat.le_refl _, by unfold maxLen; omega, rfl, rfl⟩⟩ (below_alloc _ _))
set_option maxRecDepth 100000 in
set_option maxHeartbeats 2000000 in
theorem slCloneA_any {w : World} (v : Value) (ps : List (ActT × Value)) (hr : RdP w v ps) (hs : ∀ p ∈ ps, isSl p.2 = true) (hl : ps.length < 1000000) : Calls Tryz.prog 81 #[v] w fun e w' => ∃ v', e = .returned v' ∧ w'.ownsRow w.heap.size 62 3 v' ps.length (rowP ps) ∧ Below w.heap.size w w' := by
  obtain ⟨ad, cp, hv, hx⟩ := id hr
  obtain ⟨N, HN⟩ : ∃ x, Hid (x = ps.length) := ⟨_, rfl⟩
  rw [← HN.out] at hv hl
  subst hv
  have HR : Hid (RdP w (.slice ad N cp) ps) := hr
  have HS : Hid (∀ u ∈ rowP ps, u.oneCell' = true) := rowP_one hs
  have HL : Hid (N < 1000000) := hl
  cases ad with
  | none =>
    have h0 : ps = [] := by
      rcases Nat.eq_zero_or_pos ps.length with h | h
      · exact List.eq_nil_of_length_eq_zero h
      · obtain ⟨b, off, e, _⟩ := hx h
        cases e
    have HF : Hid (w.ownsRow w.heap.size 62 3 (.slice none 0 0) ps.length (rowP ps)) := by
      show World.ownsRow _ _ _ _ _ _ _
      rw [h0]
      exact World.ownsRow_nil _ _ _ _
    clear hr hx hs hl h0
    have fe : (binOp .eql 22 (.slice none N cp) (.slice none 0 0)).run Tryz.prog w = .ok (.bool true) w := by kernel_rfl
    go_enter Tryz.func81, Tryz.ntmps81
    go_wp2
    go_ret
    exact ⟨_, rfl, HF.out, Below.refl _ _⟩
  | some a =>
    have HRG : Hid (∀ q u, (rowP ps)[q]? = some u → w.cell? (a.add q) = some u) := fun q u hq => by
      obtain ⟨p, hp, hi⟩ := rowP_idx hq
      obtain ⟨b, off, e, h⟩ := HR.out.at hp
      cases e
      have h2 := h _ _ hi
      rw [Addr.add_mid]
      rw [show off + q / 3 * 3 + q % 3 = off + q by omega] at h2
      exact h2
    clear hr hx hs hl
    have fe : (binOp .eql 22 (.slice (some a) N cp) (.slice none 0 0)).run Tryz.prog w = .ok (.bool false) w := by kernel_rfl
    go_enter Tryz.func81, Tryz.ntmps81
    have tk0 : Hid True := trivial
    have tk1 : Hid True := trivial
    go_wp2_with (first
      | (clear tk0; with_reducible refine wpSeq_buildA0 ?_ ?_ ?_
         · rfl
         · rfl
         intro g5 y1 hg5 ow1 bl1
         have HO : Hid (y1.ownsRow w.heap.size 62 3 (.slice (some ⟨g5, 0, none⟩) 0 0) 0 []) := ow1
         have HBL : Hid (Below w.heap.size w y1) := bl1
         have HRG1 : Hid (∀ q u, (rowP ps)[q]? = some u → y1.cell? (a.add q) = some u) := fun q u hq => by
           have h2 := HRG.out q u hq
           rw [bl1.cell (p := a.add q) (block_lt_of_cell h2)]
           exact h2
         clear ow1 bl1 hg5)
      | (clear tk1; at_builtin
         obtain ⟨i0, hi, hz0, hz1, hz2⟩ := info_parts Tryz.infoact
         refine wpList_append_own (P := Tryz.prog) y1 rfl (.tmp 5) (.tmp 6) 22 rfl w.heap.size 62 i0 (.agg zA.toArray) 3 48 Tryz.underlying22 hi hz0 hz1 hz2 rfl (by decide) _ 0 [] rfl HO.out a N cp (rowP ps) rfl (by rw [rowP_len, HN.out]) HRG1.out HS.out (by unfold maxLen; have := HL.out; omega) (by have := HL.out; omega) HBL.out.size ?_
         intro v2 y2 ow2 gr2 _
         have HF : Hid (y2.ownsRow w.heap.size 62 3 v2 ps.length (rowP ps)) := by
           show World.ownsRow _ _ _ _ _ _ _
           rw [Nat.zero_add, List.nil_append, HN.out] at ow2
           exact ow2
         have HB2 : Hid (Below w.heap.size w y2) := HBL.out.trans ((Below.refl _ _).grown gr2 HBL.out.size (fun k hk => (World.ownsRow.lt HO.out k hk).1))
         clear ow2 gr2 hi hz0 hz1 hz2))
    go_ret
    exact ⟨_, rfl, HF.out, HB2.out⟩
theorem OwnB.isSl {w : World} {base : Nat} {v : Value} {l : Bs} (h : OwnB w base v l) : isSl v = true := by
  obtain ⟨_, ⟨rfl, _⟩ | ⟨g, cap, cur, rfl, _⟩⟩ := h
  · rfl
  · rfl
/-- while data is copied -/
structure CpI (w : World) (g : Nat) (ps qs : List (ActT × Value)) (k : Nat) (tail : List Value) (W : World) : Prop where
  blk : Blk W g (rowP (qs ++ ps.drop k) ++ tail) 62
  len : qs.length = k
  fst : qs.map (·.1) = (ps.take k).map (·.1)
  dat : ∀ p ∈ qs, OwnB W w.heap.size p.2 p.1.data
  bel : Below w.heap.size w W
theorem OwnB.onlyA {w w' : World} {base g : Nat} {v : Value} {l : Bs} {cs : List Value} (h : OwnB w base v l) (hb : Blk w g cs 62) (ho : Only g w w') : OwnB w' base v l :=
  h.sameS (fun k hk => ho.block k (fun e => by subst e; exact h.neA hb (by decide) hk) (h.ltS k hk).2)
set_option maxRecDepth 100000 in
set_option maxHeartbeats 2000000 in
theorem sCopies_any {w : World} (v : Value) (ps : List (ActT × Value)) (hr : RdP w v ps) (hs : ∀ p ∈ ps, isSl p.2 = true) (hd : ∀ p ∈ ps, Reads w p.2 p.1.data) (hb : ∀ p ∈ ps, p.1.data.length ≤ 140737488355328) (hl : ps.length < 1000000) : Calls Tryz.prog 55 #[v] w fun e w' => ∃ v' qs, e = .returned v' ∧ OwnA w' w.heap.size v' qs ∧ qs.map (·.1) = ps.map (·.1) ∧ Below w.heap.size w w' := by
  have hcl := slCloneA_any v ps hr hs hl
  obtain ⟨N, HN⟩ : ∃ x, Hid (x = ps.length) := ⟨_, rfl⟩
  have HCL : Hid (Calls Tryz.prog 81 #[v] w fun e w' => ∃ v', e = .returned v' ∧ w'.ownsRow w.heap.size 62 3 v' ps.length (rowP ps) ∧ Below w.heap.size w w') := hcl
  have HD : Hid (∀ p ∈ ps, Reads w p.2 p.1.data ∧ p.1.data.length ≤ 140737488355328) := fun p hp => ⟨hd p hp, hb p hp⟩
  have HSL : Hid (∀ p ∈ ps, isSl p.2 = true) := hs
  have HNL : Hid (N < 1000000) := by show N < _; rw [HN.out]; exact hl
  clear hcl hr hs hd hb hl
  go_enter Tryz.func55, Tryz.ntmps55
  have tk0 : Hid True := trivial
  go_wp2_with (first
    | (clear tk0; go_at_call 81; refine (HCL.out).mono ?_; rintro e0 y0 ⟨vc, rfl, ow0, bl0⟩
       obtain ⟨ad, cp, hvc⟩ : ∃ ad cp, vc = .slice ad N cp := by
         obtain ⟨_, ⟨rfl, h0⟩ | ⟨g, cap, cur, rfl, _⟩⟩ := ow0
         · exact ⟨none, 0, by rw [HN.out, h0]⟩
         · exact ⟨_, _, by rw [HN.out]⟩
       subst hvc
       have HOW : Hid (y0.ownsRow w.heap.size 62 3 (.slice ad N cp) ps.length (rowP ps)) := ow0
       have HB0 : Hid (Below w.heap.size w y0) := bl0
       clear ow0 bl0))
  by_cases hz : N = 0
  · subst hz
    have HF : Hid (OwnA y0 w.heap.size (.slice ad 0 cp) [] ∧ ([] : List (ActT × Value)).map (·.1) = ps.map (·.1)) := by
      have e : ps = [] := List.eq_nil_of_length_eq_zero HN.out.symm
      have h1 := HOW.out
      rw [e] at h1 ⊢
      exact ⟨⟨h1, fun p hp => by cases hp⟩, rfl⟩
    go_loopw [9] (fun i wr => i = .int .i64 0 ∧ wr = y0) (fun _ _ => 0)
    case atStart => exact ⟨rfl, rfl⟩
    case round =>
      obtain ⟨rfl, rfl⟩ := hrel
      go_wp2
      go_ret
      exact ⟨_, rfl, [], HF.out.1, HF.out.2, HB0.out⟩
  · obtain ⟨g, tail, HG⟩ : ∃ g tail, Hid (ad = some ⟨g, 0, none⟩ ∧ w.heap.size ≤ g ∧ Blk y0 g (rowP ps ++ tail) 62 ∧ N ≤ cp ∧ cp ≤ maxLen ∧ (rowP ps ++ tail).length = cp * 3) := by
      obtain ⟨h1, ⟨e, h0⟩ | ⟨g, cap, cur, e, hg, hh, hc, hmx, hsz, ht⟩⟩ := HOW.out
      · exact absurd (by rw [HN.out]; exact h0) hz
      · simp only [Value.slice.injEq] at e
        obtain ⟨rfl, _, rfl⟩ := e
        have e2 : rowP ps ++ cur.toList.drop (ps.length * 3) = cur.toList := by rw [← ht]; exact List.take_append_drop _ _
        refine ⟨g, cur.toList.drop (ps.length * 3), rfl, hg, ?_, by rw [HN.out]; exact hc, hmx, by rw [e2]; simpa using hsz⟩
        rw [e2]
        exact hh
    obtain ⟨hga, hge, hblk, hnc, hcm, hlen⟩ := HG.out
    subst hga
    have HI0 : Hid (CpI w g ps [] 0 tail y0) := ⟨hblk, rfl, rfl, fun p hp => (by cases hp), HB0.out⟩
    have HGE : Hid (w.heap.size ≤ g) := hge
    have HCP : Hid (N ≤ cp ∧ cp ≤ maxLen ∧ (rowP ps ++ tail).length = cp * 3) := ⟨hnc, hcm, hlen⟩
    clear hge hblk hnc hcm hlen HG HOW HB0
    go_loopw [9] (fun i wr => ∃ (k : Nat) (qs : List (ActT × Value)), k ≤ N ∧ i = .int .i64 (k : Int) ∧ CpI w g ps qs k tail wr) (fun i _ => N - (intOf i).toNat)
    case atStart => exact ⟨0, [], Nat.zero_le _, rfl, HI0.out⟩
    case round =>
      clear HI0
      obtain ⟨k, qs, hkn, rfl, hI⟩ := hrel
      have HI : Hid (CpI w g ps qs k tail wr) := hI
      by_cases hlt : k < N
      · obtain ⟨p, hp⟩ : ∃ p, ps[k]? = some p := ⟨_, List.getElem?_eq_getElem (by rw [← HN.out]; exact hlt)⟩
        have hdr : ps.drop k = p :: ps.drop (k + 1) := by
          rw [List.drop_eq_getElem_cons (by rw [← HN.out]; exact hlt)]
          congr 1
          rw [List.getElem?_eq_getElem (by rw [← HN.out]; exact hlt)] at hp
          simpa using hp
        obtain ⟨hrd, hbd⟩ := HD.out p (List.mem_of_getElem? hp)
        have hbr := hI.blk
        rw [hdr, rowP_app] at hbr
        obtain ⟨av, nv, cv, hvd⟩ := isSl_form (HSL.out p (List.mem_of_getElem? hp))
        obtain ⟨⟨ky, st, da⟩, vd⟩ := p
        simp only at hvd
        subst hvd
        have hq3 : (rowP qs).length = k * 3 := by rw [rowP_len, hI.len]
        have d2 : wr.cell? ⟨g, k * 3 + 2, none⟩ = some (.slice av nv cv) := by
          rw [hbr.cell, List.append_assoc, List.getElem?_append_right (by omega), hq3, show k * 3 + 2 - k * 3 = 2 by omega]
          rfl
        have HBC : Hid (Calls Tryz.prog 64 #[.slice av nv cv] wr fun e w' => ∃ v', e = .returned v' ∧ OwnB w' wr.heap.size v' da ∧ Below wr.heap.size wr w') := bclone_any _ _ _ (hrd.below hI.bel) hbd
        have HNX : Hid (∀ y z a n c, z = .slice a n c → OwnB y wr.heap.size z da → Below wr.heap.size wr y → Blk y g (rowP qs ++ (actC ⟨ky, st, da⟩ (.slice av nv cv) ++ rowP (ps.drop (k + 1))) ++ tail) 62 ∧ CpI w g ps (qs ++ [(⟨ky, st, da⟩, z)]) (k + 1) tail (y.setCell ⟨g, k * 3 + 2, none⟩ z)) := by
          intro y z a n c hz2 ow bl
          have hby : Blk y g (rowP qs ++ (actC ⟨ky, st, da⟩ (.slice av nv cv) ++ rowP (ps.drop (k + 1))) ++ tail) 62 := hbr.below bl hbr.lt
          have on := Only.setCell (Only.refl g y) (k * 3 + 2) z
          refine ⟨hby, ⟨?_, by rw [List.length_append, hI.len]; rfl, ?_, ?_, ?_⟩⟩
          · have h7 := hby.set (k * 3 + 2) z
            have e7 : (rowP qs ++ (actC ⟨ky, st, da⟩ (.slice av nv cv) ++ rowP (ps.drop (k + 1))) ++ tail).set (k * 3 + 2) z = rowP (qs ++ [(⟨ky, st, da⟩, z)] ++ ps.drop (k + 1)) ++ tail := by
              rw [rowP_app, rowP_snoc, List.append_assoc, List.append_assoc, List.append_assoc, List.set_append_right _ _ (by omega), hq3, show k * 3 + 2 - k * 3 = 2 by omega, List.append_assoc]
              rfl
            rw [e7] at h7
            exact h7
          · rw [List.map_append, hI.fst, List.take_add_one, hp, List.map_append]; rfl
          · intro q hq
            rcases List.mem_append.1 hq with hq | hq
            · have h8 := hI.dat q hq
              exact (h8.below bl (Nat.le_refl _)).onlyA hby on
            · simp at hq
              rw [hq]
              have h8 : OwnB y w.heap.size z da := by
                obtain ⟨g1, ⟨e9, g2⟩ | ⟨gg, cap, cur, e9, hg9, r9⟩⟩ := ow
                · exact ⟨g1, Or.inl ⟨e9, g2⟩⟩
                · exact ⟨g1, Or.inr ⟨gg, cap, cur, e9, Nat.le_trans hI.bel.size hg9, r9⟩⟩
              exact h8.onlyA hby on
          · exact (hI.bel.trans (bl.mono hI.bel.size)).trans (on.below HGE.out (Nat.le_trans hI.bel.size bl.size))
        have k0 : (0 : Int) ≤ (k : Int) := by omega
        have k3 : (k : Int) < (N : Int) := by omega
        have f5 : IntKind.i64.wrap ((k : Int) + 1) = (k : Int) + 1 := by have := HNL.out; rw [IntKind.wrap_i64]; omega
        clear hI hp hdr hrd hbd hbr hq3
        have tk1 : Hid True := trivial
        have tk2 : Hid True := trivial
        have tk3 : Hid True := trivial
        go_wp2_with (first
          | (clear tk1; with_reducible refine wpSeq_idxA (.tmp 14) (.tmp 15) g 0 N cp k hlt ?_ ?_ ?_ ?_ ?_
             · rfl
             · rfl
             · rfl
             · rfl
             rw [Nat.zero_add])
          | (clear tk2; go_at_call 64; refine (HBC.out).mono ?_; rintro e4 y4 ⟨v4, rfl, ow4, bl4⟩
             obtain ⟨a4, c4, hv4⟩ : ∃ a c, v4 = .slice a da.length c := by obtain ⟨a, c, h, _⟩ := ow4.reads; exact ⟨a, c, h⟩
             obtain ⟨n4, HN4⟩ : ∃ x, Hid (x = da.length) := ⟨_, rfl⟩
             rw [← HN4.out] at hv4
             obtain ⟨hb4, hi4⟩ := HNX.out y4 v4 a4 n4 c4 hv4 ow4 bl4
             subst hv4
             have HI4 : Hid (CpI w g ps (qs ++ [(⟨ky, st, da⟩, .slice a4 n4 c4)]) (k + 1) tail (y4.setCell ⟨g, k * 3 + 2, none⟩ (.slice a4 n4 c4))) := hi4
             have hf4 := hb4.frozen (k * 3 + 2)
             have hc4 : y4.cell? ⟨g, k * 3 + 2, none⟩ = some (.slice av nv cv) := by
               have h9 := d2
               rw [← bl4.cell (p := ⟨g, k * 3 + 2, none⟩) (block_lt_of_cell h9)] at h9
               exact h9
             clear ow4 bl4 hb4 hi4)
          | (clear tk3; with_reducible refine wpSeq_idxA (.tmp 12) (.tmp 13) g 0 N cp k hlt ?_ ?_ ?_ ?_ ?_
             · rfl
             · rfl
             · rfl
             · rfl
             rw [Nat.zero_add]))
        go_roundw
        case rel => exact ⟨k + 1, _, hlt, rfl, HI4.out⟩
        case measure => simp [intOf]; omega
      · have hkk : k = N := by omega
        subst hkk
        have HF : Hid (OwnA wr w.heap.size (.slice (some ⟨g, 0, none⟩) k cp) qs ∧ qs.map (·.1) = ps.map (·.1) ∧ Below w.heap.size w wr) := by
          have hb := hI.blk
          rw [List.drop_eq_nil_of_le (by rw [← HN.out]; exact Nat.le_refl _), List.append_nil] at hb
          have hql : qs.length = k := hI.len
          have hrl : (rowP qs).length = (rowP ps).length := by rw [rowP_len, rowP_len, hql, HN.out]
          refine ⟨⟨⟨rowP_len qs, Or.inr ⟨g, cp, (rowP qs ++ tail).toArray, by rw [hql], HGE.out, hb, by rw [hql]; exact HCP.out.1, HCP.out.2.1, ?_, ?_⟩⟩, hI.dat⟩, ?_, hI.bel⟩
          · have h9 := HCP.out.2.2
            rw [List.size_toArray, List.length_append, hrl, ← List.length_append]
            exact h9
          · rw [List.toList_toArray, ← rowP_len, List.take_left]
          · rw [hI.fst, List.take_of_length_le (by rw [← HN.out]; exact Nat.le_refl _)]
        clear hI
        go_wp2
        go_ret
        exact ⟨_, rfl, qs, HF.out.1, HF.out.2.1, HF.out.2.2⟩
end Go.Proofs.YteklnooagjkclaaGreatDoor
/- The store in memory: Get, Len, load and Open of a disk without records (layer 15). -/
namespace Go.Proofs.YteklnooagjkclaaGreatDoor
open Go.RowKit
set_option maxRecDepth 100000
def Um (P Q : Nat → Prop) (g : Nat) : Nat → Prop := fun k => Un P Q k ∨ k = g
theorem DkIs.belowS {w w' : World} {g : Nat} {P : Nat → Prop} {D : DkT} (h : DkIs w g P D) (hb : Below w.heap.size w w') : DkIs w' g P D := by
  obtain ⟨gs, vw, fu, lf, hm, hP⟩ := h
  exact ⟨gs, vw, fu, lf, hm.below hb, hP⟩
/-- the store m at block gs: its log, its map, the texts under its keys -/
structure StM (w : World) (gs gd lg gm n : Nat) (P Q : Nat → Prop) (V : Bs → Value) (m : KM) (D : DkT) (J : JnT) : Prop where
  sb : Blk w gs [.pointer (some ⟨lg, 0, none⟩), .map (some gm)] 99
  pk : Pk LgJ w gd lg P Q D J
  mp : MapM w gm n V m
  tx : ∀ s t, getM m s = some t → Sta (Um P Q gm) w (fun W => Reads W (V s) t) ∧ t.length ≤ 1048576
  ns : ¬ Un P Q gs
  nm : ¬ Un P Q gm
set_option maxRecDepth 100000 in
set_option maxHeartbeats 2000000 in
theorem sGet_any {w : World} {gs gm n : Nat} {lv : Value} {V : Bs → Value} {m : KM} (hsb : Blk w gs [lv, .map (some gm)] 99) (hm : MapM w gm n V m) (htx : ∀ s t, getM m s = some t → Reads w (V s) t ∧ t.length ≤ 1048576) (s : Bs) (hs : s.length ≤ 1000000) :
    Calls Tryz.prog 32 #[.pointer (some ⟨gs, 0, none⟩), .string (strB s)] w fun e w' => ∃ v', e = .returned (.tuple #[v', .bool (getM m s).isSome]) ∧ OwnB w' w.heap.size v' ((getM m s).getD []) ∧ Below w.heap.size w w' := by
  have c1 : w.cell? ⟨gs, 1, none⟩ = some (.map (some gm)) := hsb.cell 1
  have hk := hm.look hs
  obtain ⟨sk, HSK⟩ : ∃ x, Hid (x = strB s) := ⟨_, rfl⟩
  rw [← HSK.out] at hk ⊢
  cases e : getM m s with
  | none =>
    rw [e] at hk
    simp only [Option.isSome_none, Bool.false_eq_true, if_false] at hk
    have HBC : Hid (Calls Tryz.prog 64 #[.slice none 0 0] w fun e w' => ∃ v', e = .returned v' ∧ OwnB w' w.heap.size v' [] ∧ Below w.heap.size w w') := bclone_any _ [] w (reads_nil13 w) (by decide)
    clear hsb hm htx e hs
    go_enter Tryz.func32, Tryz.ntmps32
    go_wp2_with (first
      | (go_at_call 64; refine (HBC.out).mono ?_; rintro e4 y4 ⟨v4, rfl, ow4, bl4⟩
         have HO : Hid (OwnB y4 w.heap.size v4 [] ∧ Below w.heap.size w y4) := ⟨ow4, bl4⟩
         clear ow4 bl4))
    refine bodyPost_ret (results_tmp2 rfl _ _ _) rfl ?_
    exact ⟨v4, rfl, HO.out.1, HO.out.2⟩
  | some t =>
    rw [e] at hk
    simp only [Option.isSome_some, if_true] at hk
    obtain ⟨hrd, hle⟩ := htx s t e
    obtain ⟨av, nv, cv, hvs⟩ := isSl_form (hm.sl s (by rw [e]; rfl))
    have HBC : Hid (Calls Tryz.prog 64 #[.slice av nv cv] w fun e w' => ∃ v', e = .returned v' ∧ OwnB w' w.heap.size v' t ∧ Below w.heap.size w w') := by rw [← hvs]; exact bclone_any _ t w hrd (Nat.le_trans hle (by decide))
    rw [hvs] at hk
    clear hsb hm htx e hs hrd hle hvs
    go_enter Tryz.func32, Tryz.ntmps32
    go_wp2_with (first
      | (go_at_call 64; refine (HBC.out).mono ?_; rintro e4 y4 ⟨v4, rfl, ow4, bl4⟩
         have HO : Hid (OwnB y4 w.heap.size v4 t ∧ Below w.heap.size w y4) := ⟨ow4, bl4⟩
         clear ow4 bl4))
    refine bodyPost_ret (results_tmp2 rfl _ _ _) rfl ?_
    exact ⟨v4, rfl, HO.out.1, HO.out.2⟩
set_option maxRecDepth 100000 in
set_option maxHeartbeats 2000000 in
theorem sLen_any {w : World} {gs gm n : Nat} {lv : Value} {V : Bs → Value} {m : KM} (hsb : Blk w gs [lv, .map (some gm)] 99) (hm : MapM w gm n V m) : Calls Tryz.prog 36 #[.pointer (some ⟨gs, 0, none⟩)] w fun e w' => e = .returned (.int .i64 (m.length : Int)) ∧ w' = w := by
  have c1 : w.cell? ⟨gs, 1, none⟩ = some (.map (some gm)) := hsb.cell 1
  have hk := fun ty => hm.len ty
  clear hsb hm
  go_enter Tryz.func36, Tryz.ntmps36
  go_wp2
  go_ret
  exact ⟨rfl, rfl⟩
theorem wpSeq_mkMap {ops : Array Oper} {Q : Exit → Act → World → Prop} {rest : List Oper} {o : Oper} {a : Act} {w : World} (V : Bs → Value) (ho : o.op = .makeMap 97 none) (hw : Region.wanted o (yielded ops a.tmps) = true)
    (h : ∀ gm w', w.heap.size ≤ gm → MapM w' gm 0 V [] → Below w.heap.size w w' → wpList Tryz.prog ops Q rest (a.put o.dst (.map (some gm))) w') : wpList Tryz.prog ops Q (o :: rest) a w := by
  refine wpSeq_val _ _ hw ?_ (h _ _ (Nat.le_refl _) (mapM_new w V) (below_alloc _ _))
  unfold execOp
  rw [ho]
  rfl
def nilV : Bs → Value := fun _ => .slice none 0 0
set_option maxRecDepth 100000 in
set_option maxHeartbeats 2000000 in
theorem sLoad_empty {w : World} {gd : Nat} {P : Nat → Prop} {D : DkT} (hK : KOk w) (hd : DkIs w gd P D) (hw : D.wait.length ≤ 200) (hl : (dumpD D).length < 8000000) (h0 : rdL14 (dumpD D) = []) :
    Calls Tryz.prog 61 #[.pointer (some ⟨gd, 0, none⟩)] w fun e w' => ∃ gm, e = .returned (.tuple #[.map (some gm), .bool true]) ∧ MapM w' gm 0 nilV [] ∧ Below w.heap.size w w' ∧ w.heap.size ≤ gm := by
  have HD : Hid (DkIs w gd P D ∧ D.wait.length ≤ 200 ∧ (dumpD D).length < 8000000 ∧ rdL14 (dumpD D) = [] ∧ KOk w) := ⟨hd, hw, hl, h0, hK⟩
  clear hd hw hl h0 hK
  obtain ⟨gn, HGN⟩ : ∃ x, Hid (x = (rdG14 (dumpD D) : Int)) := ⟨_, rfl⟩
  obtain ⟨xn, HXN⟩ : ∃ x, Hid (x = rdX14 (dumpD D)) := ⟨_, rfl⟩
  go_enter Tryz.func61, Tryz.ntmps61
  have tk0 : Hid True := trivial
  have tk1 : Hid True := trivial
  have tk2 : Hid True := trivial
  go_wp2_with (first
    | (clear tk0; with_reducible refine wpSeq_mkMap nilV ?_ ?_ ?_
       · rfl
       · rfl
       intro gm y0 hg0 hm0 bl0
       have HM : Hid (MapM y0 gm 0 nilV []) := hm0
       have HB : Hid (Below w.heap.size w y0 ∧ w.heap.size ≤ gm) := ⟨bl0, hg0⟩
       clear hg0 hm0 bl0)
    | (clear tk1; go_at_call 25; refine (dkDump_b (HD.out.1.belowS HB.out.1) HD.out.2.1).mono ?_; rintro e1 y1 ⟨vd, rfl, hr1, bl1⟩
       have HR1 : Hid (Reads y1 vd (dumpD D)) := hr1
       replace HM : Hid (MapM y1 gm 0 nilV []) := HM.out.same (bl1.block gm HM.out.lt)
       replace HB : Hid (Below w.heap.size w y1 ∧ w.heap.size ≤ gm) := ⟨HB.out.1.trans (bl1.mono HB.out.1.size), HB.out.2⟩
       clear hr1 bl1)
    | (clear tk2; go_at_call 86; refine (jRead_any vd (dumpD D) HD.out.2.2.1 y1 (HD.out.2.2.2.2.below HB.out.1 HD.out.2.2.2.2.lt) HR1.out).mono ?_; rintro e2 y2 ⟨lv, rfl, hl2, bl2⟩
       rw [HD.out.2.2.2.1] at hl2
       obtain ⟨al, cl, hlv⟩ : ∃ a c, lv = .slice a 0 c := by obtain ⟨a, c, h, _⟩ := hl2; exact ⟨a, c, h⟩
       subst hlv
       rw [← HGN.out, ← HXN.out]
       replace HM : Hid (MapM y2 gm 0 nilV []) := HM.out.same (bl2.block gm HM.out.lt)
       replace HB : Hid (Below w.heap.size w y2 ∧ w.heap.size ≤ gm) := ⟨HB.out.1.trans (bl2.mono HB.out.1.size), HB.out.2⟩
       clear hl2 bl2 HR1))
  go_loopw [25] (fun i wr => i = .int .i64 0 ∧ wr = y2) (fun _ _ => 0)
  case atStart => exact ⟨rfl, rfl⟩
  case round =>
    obtain ⟨rfl, rfl⟩ := hrel
    go_wp2
    refine bodyPost_ret (results_tmp2 rfl _ _ _) rfl ?_
    exact ⟨gm, rfl, HM.out, HB.out.1, HB.out.2⟩
end Go.Proofs.YteklnooagjkclaaGreatDoor
/- The walks of journal's begin and next, as they landed (layer 14). -/
namespace Go.Proofs.YteklnooagjkclaaGreatDoor
open Go.RowKit
set_option maxRecDepth 100000
theorem size_st : (Tryz.prog.info? 162).map (·.size) = some 2 := by kernel_rfl
theorem built_st (a : Int) (v : Value) (ad : Option Addr) (n c : Nat) (hv : v = .slice ad n c) (ps : List (Nat × Value)) (h : ps = [(0, .int .i64 a), (1, v)]) : Tryz.prog.built 162 ps = some #[.int .i64 a, v] := by subst h hv; kernel_rfl
theorem build_sts (f : Operand → Value) (o : Oper) (x0 x1 x2 : Operand) (a0 a1 a2 : Int) (ad0 ad1 ad2 : Option Addr) (n0 c0 n1 c1 n2 c2 : Nat) (h0 : f x0 = .agg #[.int .i64 a0, .slice ad0 n0 c0]) (h1 : f x1 = .agg #[.int .i64 a1, .slice ad1 n1 c1]) (h2 : f x2 = .agg #[.int .i64 a2, .slice ad2 n2 c2]) (ho : o.op = .buildSlice 163 3 #[(0, x0), (1, x1), (2, x2)]) (w : World) : (execOp f o).run Tryz.prog w = .ok (.value (.slice (some ⟨w.heap.size, 0, none⟩) 3 3)) (w.alloc (.cells [.int .i64 a0, .slice ad0 n0 c0, .int .i64 a1, .slice ad1 n1 c1, .int .i64 a2, .slice ad2 n2 c2].toArray 162)) := by
  unfold execOp
  rw [ho]
  simp only [List.map_toArray, List.map_cons, List.map_nil, h0, h1, h2]
  kernel_rfl
theorem alloc_st (f : Operand → Value) (o : Oper) (ho : o.op = .alloc 162) (w : World) : (execOp f o).run Tryz.prog w = .ok (.value (.pointer (some ⟨w.heap.size, 0, none⟩))) (w.alloc (.cells [.int .i64 0, .slice none 0 0].toArray 162)) := by
  unfold execOp
  rw [ho]
  kernel_rfl
theorem wpSeq_allocSt {ops : Array Oper} {Q : Exit → Act → World → Prop} {rest : List Oper} {o : Oper} {a : Act} {w : World} (ho : o.op = .alloc 162) (hw : Region.wanted o (yielded ops a.tmps) = true)
    (h : ∀ g w', NewR [.int .i64 0, .slice none 0 0] 162 w g w' → wpList Tryz.prog ops Q rest (a.put o.dst (.pointer (some ⟨g, 0, none⟩))) w') : wpList Tryz.prog ops Q (o :: rest) a w :=
  wpSeq_val _ _ hw (alloc_st _ _ ho _) (h _ _ (NewR.of _ _ w))
theorem info_st (x y : Value) : (Tryz.prog.info? 162).map (·.size) = some [x, y].length := size_st
set_option maxRecDepth 100000 in
set_option maxHeartbeats 8000000 in
theorem jBegin_any {w : World} {gd lg : Nat} {P : Nat → Prop} {D : DkT} (hs k gen u k' gen' : Nat) (vr v : Value) (l : List Bs) (hK : KOk w) (hdk : DkIs w gd P D) (hwt : D.wait = []) (hlb : Blk w lg (lgC gd hs 0 k gen vr u) 144) (hnp : ¬ P lg) (hk' : k' ≤ 1) (hg' : gen' < 18446744073709551616) (hs1 : 1 ≤ hs) (hs2 : hs ≤ 50) (hfit : 1 + secL l ≤ hs) (hst : Sta (Un P (fun x => x = lg)) w (fun W => ReadsL W v l)) :
    Calls Tryz.prog 91 #[.pointer (some ⟨lg, 0, none⟩), .int .i64 (k' : Int), .int .u64 (gen' : Int), v] w fun e w' => e = .returned (.int .i64 (runJ D (anewS hs k' gen' l)).2) ∧ ∃ P', DkIs w' gd P' (runJ D (anewS hs k' gen' l)).1 ∧ ((runJ D (anewS hs k' gen' l)).2 = 0 → Blk w' lg (lgC gd hs 0 k' gen' v (1 + secL l)) 144) ∧ Mut (Un P (fun x => x = lg)) w w' ∧ Grew w P P' := by
  rw [stL_anew]
  obtain ⟨L, HLL⟩ : ∃ L, Hid (L = stL hs k' gen' l 0) := ⟨_, rfl⟩
  obtain ⟨DX, xX, HX⟩ : ∃ D2 x, Hid (runJ D L = (D2, x)) := ⟨(runJ D L).1, (runJ D L).2, rfl⟩
  rw [← HLL.out, HX.out]
  show Calls Tryz.prog 91 _ w fun e w' => e = .returned (.int .i64 xX) ∧ ∃ P', DkIs w' gd P' DX ∧ (xX = 0 → Blk w' lg (lgC gd hs 0 k' gen' v (1 + secL l)) 144) ∧ Mut (Un P (fun x => x = lg)) w w' ∧ Grew w P P'
  have hsl := sizeL_eq l
  have hge := sizeL_ge l
  obtain ⟨n, HN⟩ : ∃ n, Hid (n = l.length) := ⟨_, rfl⟩
  obtain ⟨ad, c, hv⟩ : ∃ a c, v = .slice a n c := by obtain ⟨a, c, hv, _⟩ := hst.now; rw [← HN.out] at hv; exact ⟨a, c, hv⟩
  subst hv
  have HST : Hid (Sta (Un P (fun x => x = lg)) w (fun W => ReadsL W (.slice ad n c) l)) := hst
  have HRL : Hid (ReadsL w (.slice ad n c) l) := hst.now
  have HDK : Hid (DkIs w gd P D) := hdk
  have HLB : Hid (Blk w lg (lgC gd hs 0 k gen vr u) 144) := hlb
  have HNP : Hid (¬ P lg) := hnp
  have HWT : Hid (D.wait = []) := hwt
  have HK : Hid (KOk w) := hK
  have HGN : Hid (gen' < 18446744073709551616) := hg'
  have HBD : Hid (k' ≤ 1 ∧ 1 ≤ hs ∧ hs ≤ 50 ∧ 1 + secL l ≤ hs ∧ n ≤ 50) := ⟨hk', hs1, hs2, hfit, by have := HN.out; omega⟩
  have HLX : Hid (∀ x ∈ l, x.length < 8000000) := fun x hx => by
    have h1 : 64 * secR x.length ≤ sizeL l := by
      obtain ⟨i, hi, rfl⟩ := List.getElem_of_mem hx
      have h2 := sizeL_take hi
      have h3 := sizeL_mono l (i + 1)
      rw [List.getD_eq_getElem?_getD, List.getElem?_eq_getElem hi] at h2
      simp only [Option.getD_some] at h2
      omega
    have h2 := secR_ge x.length
    omega
  obtain ⟨a0, HA0⟩ : ∃ m, Hid (m = k' * hs) := ⟨_, rfl⟩
  obtain ⟨a1, HA1⟩ : ∃ m, Hid (m = a0 + 1) := ⟨_, rfl⟩
  obtain ⟨N, HNN⟩ : ∃ m, Hid (m = hs * 64) := ⟨_, rfl⟩
  have ha0 : a0 ≤ 50 := by rw [HA0.out]; rcases Nat.le_one_iff_eq_zero_or_eq_one.1 hk' with e | e <;> rw [e] <;> omega
  have HAB : Hid (a0 ≤ 50 ∧ a1 ≤ 51) := ⟨ha0, by have := HA1.out; omega⟩
  have f1 : IntKind.i64.wrap ((k' : Int) * (hs : Int)) = (a0 : Int) := mJ HA0.out (by omega)
  have f2 : IntKind.i64.wrap ((a0 : Int) + 1) = (a1 : Int) := by rw [IntKind.wrap_i64]; have := HA1.out; omega
  have f3 : IntKind.i64.wrap ((hs : Int) * 64) = (N : Int) := mJ HNN.out (by have := HNN.out; omega)
  have c2 : w.cell? ⟨lg, 2, none⟩ = some (.int .i64 (hs : Int)) := hlb.cell 2
  clear hsl hge hst hdk hlb hnp hwt hK hg' hk' hs1 hs2 hfit ha0
  go_enter Tryz.func91, Tryz.ntmps91
  go_wp2
  clear c2 f1
  go_loopw [10, 25] (fun tv i wr => ∃ (kk : Nat), kk ≤ n ∧ i = .int .i64 (kk : Int) ∧ Hid (OwnB wr w.heap.size tv (recsB gen' 0 (l.take kk))) ∧ Hid (Below w.heap.size w wr)) (fun _ i _ => n - (intOf i).toNat)
  case atStart => exact ⟨0, Nat.zero_le _, rfl, by rw [List.take_zero]; exact OwnB.nil _ _, Below.refl _ _⟩
  case round =>
    obtain ⟨kk, hk, rfl, HOW, HBB⟩ := hrel
    by_cases hlt : kk < n
    case pos =>
      have hlk : (kk : Int) < (n : Int) := by omega
      have k0 : (0 : Int) ≤ (kk : Int) := by omega
      have g1 : IntKind.i64.wrap ((kk : Int) + 1) = (kk : Int) + 1 := by rw [IntKind.wrap_i64]; have := HBD.out; omega
      have g2 : IntKind.u64.wrap (kk : Int) = (kk : Int) := uJ (by have := HBD.out; omega)
      have hkl : kk < l.length := by rw [← HN.out]; exact hlt
      obtain ⟨b, off, vj, rfl, hc, hrj⟩ := (HRL.out.below HBB.out).atJ hkl
      obtain ⟨x, HXX⟩ : ∃ x, Hid (x = l.getD kk []) := ⟨_, rfl⟩
      rw [← HXX.out] at hrj
      obtain ⟨aj, nj, cj, hvj⟩ := hrj.form
      subst hvj
      have HTK : Hid (recsB gen' 0 (l.take (kk + 1)) = recsB gen' 0 (l.take kk) ++ recB gen' kk x) := by show _ = _; rw [recsB_take gen' hkl, ← HXX.out]
      have HRC : Hid (Calls Tryz.prog 101 #[.int .u64 (gen' : Int), .int .u64 (kk : Int), .slice aj nj cj] wr fun e w' => ∃ v', e = .returned v' ∧ OwnB w' wr.heap.size v' (recB gen' kk x) ∧ Below wr.heap.size wr w') := jRecord_own gen' kk HGN.out (by have := HBD.out; omega) _ x (HLX.out x (by rw [HXX.out, List.getD_eq_getElem?_getD, List.getElem?_eq_getElem hkl]; exact List.getElem_mem hkl)) wr (HK.out.below HBB.out HK.out.lt) hrj
      have HLN : Hid ((recsB gen' 0 (l.take kk)).length + (recB gen' kk x).length ≤ 140737488355328) := by
        have h1 := congrArg List.length HTK.out
        rw [List.length_append, len_recsB] at h1
        have h2 := sizeL_mono l (kk + 1)
        have h3 := sizeL_eq l
        have h4 := HBD.out
        show _ ≤ _
        omega
      clear hkl hrj f2 f3
      have tk0 : Hid True := trivial
      have tk1 : Hid True := trivial
      go_wp2_with (first
        | (clear tk0; go_at_call 101; refine HRC.out.mono ?_; rintro e0 y1 ⟨v1, rfl, ho, hz⟩
           replace HOW : Hid (OwnB y1 w.heap.size u10 (recsB gen' 0 (l.take kk))) := HOW.out.below hz (Nat.le_refl _)
           have HR1 : Hid (Reads y1 v1 (recB gen' kk x)) := ho.reads
           replace HBB : Hid (Below w.heap.size w y1) := HBB.out.trans (hz.mono HBB.out.size)
           clear ho hz)
        | (clear tk1; at_builtin; refine wpList_appendB rfl (.tmp 30) (.tmp 35) rfl w.heap.size _ (recsB gen' 0 (l.take kk)) rfl HOW.out _ (recB gen' kk x) rfl HR1.out HLN.out HBB.out.size ?_; intro v2 y2 ho hz _
           have HOW2 : Hid (OwnB y2 w.heap.size v2 (recsB gen' 0 (l.take (kk + 1)))) := by rw [HTK.out]; exact ho
           have HBB2 : Hid (Below w.heap.size w y2) := HBB.out.trans hz
           clear ho hz))
      go_roundw
      case rel => exact ⟨kk + 1, by omega, by simp, HOW2, HBB2⟩
      case measure => simp [intOf]; omega
    case neg =>
      have hlk : ¬ ((kk : Int) < (n : Int)) := by omega
      have HE : Hid (l.take kk = l) := List.take_of_length_le (by rw [← HN.out]; omega)
      rw [HE.out] at HOW
      obtain ⟨tx, HTX⟩ : ∃ t, Hid (t = recsB gen' 0 l) := ⟨_, rfl⟩
      obtain ⟨tn, HTN⟩ : ∃ t, Hid (t = tx.length) := ⟨_, rfl⟩
      rw [← HTX.out] at HOW
      obtain ⟨ta, tc, htv⟩ := ownB_form HOW.out
      rw [← HTN.out] at htv
      subst htv
      clear hk
      go_upto_region 8 with fail
      have HLR : Hid (Blk wr lg (lgC gd hs 0 k gen vr u) 144) := HLB.out.below HBB.out HLB.out.lt
      have HKR : Hid (KOk wr) := HK.out.below HBB.out HK.out.lt
      go_cut [13] from 38 to 55 (fun sv W => ∃ gT gz ah nh ch, sv = .slice (some ⟨gT, 0, none⟩) 3 3 ∧ Blk W gT (stC a0 a1 a0 (.slice (some ⟨gz, 0, none⟩) N N) (.slice ta tn tc) (.slice ah nh ch)) 162 ∧ Blk W gz (cb (List.replicate N 0)) 5 ∧ OwnB W w.heap.size (.slice ah nh ch) (headB gen') ∧ Below wr.heap.size wr W ∧ wr.heap.size ≤ gT ∧ wr.heap.size ≤ gz)
      case first =>
        have HMK : Hid (N ≤ N ∧ N < 281474976710600) := ⟨Nat.le_refl _, by have h1 := HNN.out; have h2 := HBD.out; omega⟩
        refine wp_region_held_drew (S := fun wx => wx.cell? ⟨lg, 2, none⟩ = some (.int .i64 (hs : Int))) (by kernel_rfl) (HLR.out.drew.cell 2) ?_
        intro hS
        replace HLR : Hid (Blk (World.drew wr) lg (lgC gd hs 0 k gen vr u) 144) := HLR.out.drew
        have HBD2 : Hid (Below wr.heap.size wr (World.drew wr)) := (Below.refl _ _).drew
        replace HKR : Hid (KOk (World.drew wr)) := HKR.out.below HBD2.out HKR.out.lt
        have HSZ : Hid (wr.heap.size = (World.drew wr).heap.size ∧ w.heap.size ≤ (World.drew wr).heap.size) := ⟨rfl, HBB.out.size⟩
        change wpAnyH _ _ _ _ _ _ _ _ (World.drew wr)
        generalize World.drew wr = y0 at *
        refine wpAnyH_take (i := 0) (v := .int .i64 (a0 : Int)) rfl (by kernel_rfl) (by kernel_rfl) (by kernel_rfl) (fun _ _ _ h => h) (Or.inl ⟨by rfl, fun wx hx => by simp [go_sem]⟩) hS ?_
        simp only [Act.put, List.getElem_toArray, List.getElem_cons_zero, List.setIfInBounds_toArray, List.set_cons_zero, List.set_cons_succ]
        refine wpAnyH_take (i := 1) (v := .pointer (some ⟨lg, 0, none⟩)) rfl (by kernel_rfl) (by kernel_rfl) (by kernel_rfl) (fun _ _ _ h => h) (Or.inl ⟨by rfl, fun wx hx => by simp [go_sem]⟩) hS ?_
        simp only [Act.put, List.getElem_toArray, List.getElem_cons_succ, List.getElem_cons_zero, List.setIfInBounds_toArray, List.set_cons_zero, List.set_cons_succ]
        refine wpAnyH_take (i := 2) (v := .pointer (some ⟨lg, 0, none⟩)) rfl (by kernel_rfl) (by kernel_rfl) (by kernel_rfl) (fun _ _ _ h => h) (Or.inl ⟨by rfl, fun wx hx => by simp [go_sem]⟩) hS ?_
        simp only [Act.put, List.getElem_toArray, List.getElem_cons_succ, List.getElem_cons_zero, List.setIfInBounds_toArray, List.set_cons_zero, List.set_cons_succ]
        refine wpAnyH_take (i := 3) (v := .pointer (some ⟨lg, 2, none⟩)) rfl (by kernel_rfl) (by kernel_rfl) (by kernel_rfl) (fun _ _ _ h => h) (Or.inl ⟨by rfl, fun wx hx => by simp [go_sem]⟩) hS ?_
        simp only [Act.put, List.getElem_toArray, List.getElem_cons_succ, List.getElem_cons_zero, List.setIfInBounds_toArray, List.set_cons_zero, List.set_cons_succ]
        refine wpAnyH_take (i := 4) (v := .int .i64 (hs : Int)) rfl (by kernel_rfl) (by kernel_rfl) (by kernel_rfl) (fun _ _ _ h => h) (Or.inl ⟨by rfl, fun wx hx => by simp [go_sem, hx]⟩) hS ?_
        simp only [Act.put, List.getElem_toArray, List.getElem_cons_succ, List.getElem_cons_zero, List.setIfInBounds_toArray, List.set_cons_zero, List.set_cons_succ]
        refine wpAnyH_take (i := 5) (v := .int .i64 (N : Int)) rfl (by kernel_rfl) (by kernel_rfl) (by kernel_rfl) (fun _ _ _ h => h) (Or.inl ⟨by rfl, fun wx hx => by simp [go_sem, f3]⟩) hS ?_
        simp only [Act.put, List.getElem_toArray, List.getElem_cons_succ, List.getElem_cons_zero, List.setIfInBounds_toArray, List.set_cons_zero, List.set_cons_succ]
        refine wpAnyH_take (i := 8) (v := .int .i64 (a0 : Int)) rfl (by kernel_rfl) (by kernel_rfl) (by kernel_rfl) (fun _ _ _ h => h) (Or.inl ⟨by rfl, fun wx hx => by simp [go_sem]⟩) hS ?_
        simp only [Act.put, List.getElem_toArray, List.getElem_cons_succ, List.getElem_cons_zero, List.setIfInBounds_toArray, List.set_cons_zero, List.set_cons_succ]
        refine wpAnyH_take (i := 9) (v := .int .i64 (a1 : Int)) rfl (by kernel_rfl) (by kernel_rfl) (by kernel_rfl) (fun _ _ _ h => h) (Or.inl ⟨by rfl, fun wx hx => by simp [go_sem, f2]⟩) hS ?_
        simp only [Act.put, List.getElem_toArray, List.getElem_cons_succ, List.getElem_cons_zero, List.setIfInBounds_toArray, List.set_cons_zero, List.set_cons_succ]
        refine wpAnyH_take (i := 10) (v := .slice ta tn tc) rfl (by kernel_rfl) (by kernel_rfl) (by kernel_rfl) (fun _ _ _ h => h) (Or.inl ⟨by rfl, fun wx hx => by simp [go_sem]⟩) hS ?_
        simp only [Act.put, List.getElem_toArray, List.getElem_cons_succ, List.getElem_cons_zero, List.setIfInBounds_toArray, List.set_cons_zero, List.set_cons_succ]
        refine wpAnyH_take (i := 11) (v := .agg #[.int .i64 (a1 : Int), .slice ta tn tc]) rfl (by kernel_rfl) (by kernel_rfl) (by kernel_rfl) (fun _ _ _ h => h) (Or.inl ⟨by rfl, fun wx hx => by exact build_op _ _ 162 [(0, .tmp 47), (1, .tmp 48)] rfl _ (built_st _ _ _ _ _ rfl _ rfl) _⟩) hS ?_
        simp only [Act.put, List.getElem_toArray, List.getElem_cons_succ, List.getElem_cons_zero, List.setIfInBounds_toArray, List.set_cons_zero, List.set_cons_succ]
        refine wpAnyH_take (i := 12) (v := .int .i64 (a0 : Int)) rfl (by kernel_rfl) (by kernel_rfl) (by kernel_rfl) (fun _ _ _ h => h) (Or.inl ⟨by rfl, fun wx hx => by simp [go_sem]⟩) hS ?_
        simp only [Act.put, List.getElem_toArray, List.getElem_cons_succ, List.getElem_cons_zero, List.setIfInBounds_toArray, List.set_cons_zero, List.set_cons_succ]
        refine wpAnyH_take (i := 13) (v := .int .u64 (gen' : Int)) rfl (by kernel_rfl) (by kernel_rfl) (by kernel_rfl) (fun _ _ _ h => h) (Or.inl ⟨by rfl, fun wx hx => by simp [go_sem]⟩) hS ?_
        simp only [Act.put, List.getElem_toArray, List.getElem_cons_succ, List.getElem_cons_zero, List.setIfInBounds_toArray, List.set_cons_zero, List.set_cons_succ]
        refine wpAnyH_pair 6 14 (by kernel_rfl) ?_ ?_
        · have hz1 := below_alloc y0 (.cells (cb (List.replicate N 0)).toArray 5)
          have hbz : Blk (y0.alloc (.cells (cb (List.replicate N 0)).toArray 5)) y0.heap.size (cb (List.replicate N 0)) 5 := Blk.new _ _ _
          refine wpOp_vl 6 (.slice (some ⟨y0.heap.size, 0, none⟩) N N) (y0.alloc (.cells (cb (List.replicate N 0)).toArray 5)) (by rfl) (by rfl) (make_zs _ _ (.tmp 43) N HMK.out.2 rfl rfl _) ?_
          replace hS : (y0.alloc (.cells (cb (List.replicate N 0)).toArray 5)).cell? ⟨lg, 2, none⟩ = some (.int .i64 (hs : Int)) := (HLR.out.below hz1 HLR.out.lt).cell 2
          refine ⟨hS, ?_⟩
          simp only [Act.put, List.getElem_toArray, List.getElem_cons_succ, List.getElem_cons_zero, List.setIfInBounds_toArray, List.set_cons_zero, List.set_cons_succ]
          generalize y0.alloc (.cells (cb (List.replicate N 0)).toArray 5) = y1 at *
          obtain ⟨gz, HGZ⟩ : ∃ g, Hid (g = y0.heap.size) := ⟨_, rfl⟩
          rw [← HGZ.out] at hbz ⊢
          refine wpAnyH_take (i := 7) (v := .agg #[.int .i64 (a0 : Int), .slice (some ⟨gz, 0, none⟩) N N]) rfl (by kernel_rfl) (by kernel_rfl) (by kernel_rfl) (fun _ _ _ h => h) (Or.inl ⟨by rfl, fun wx hx => by exact build_op _ _ 162 [(0, .tmp 38), (1, .tmp 44)] rfl _ (built_st _ _ _ _ _ rfl _ rfl) _⟩) hS ?_
          simp only [Act.put, List.getElem_toArray, List.getElem_cons_succ, List.getElem_cons_zero, List.setIfInBounds_toArray, List.set_cons_zero, List.set_cons_succ]
          refine wpAnyH_enter 14 (by kernel_rfl) rfl (by rfl) (f := 118) (args := #[.int .u64 (gen' : Int)]) (by simp [go_sem]) (jHead_own gen' HGN.out _ (HKR.out.below hz1 HKR.out.lt)) ?_
          rintro e0 y2 ⟨vh, rfl, ho, hz2⟩
          obtain ⟨ah, ch, hvh⟩ := ownB_form ho
          obtain ⟨nh, HNH⟩ : ∃ m, Hid (m = (headB gen').length) := ⟨_, rfl⟩
          rw [← HNH.out] at hvh
          subst hvh
          replace hS : y2.cell? ⟨lg, 2, none⟩ = some (.int .i64 (hs : Int)) := ((HLR.out.below hz1 HLR.out.lt).below hz2 (HLR.out.below hz1 HLR.out.lt).lt).cell 2
          refine ⟨_, rfl, hS, ?_⟩
          simp only [Act.put, List.getElem_toArray, List.getElem_cons_succ, List.getElem_cons_zero, List.setIfInBounds_toArray, List.set_cons_zero, List.set_cons_succ]
          refine wpAnyH_take (i := 15) (v := .agg #[.int .i64 (a0 : Int), .slice ah nh ch]) rfl (by kernel_rfl) (by kernel_rfl) (by kernel_rfl) (fun _ _ _ h => h) (Or.inl ⟨by rfl, fun wx hx => by exact build_op _ _ 162 [(0, .tmp 50), (1, .tmp 52)] rfl _ (built_st _ _ _ _ _ rfl _ rfl) _⟩) hS ?_
          simp only [Act.put, List.getElem_toArray, List.getElem_cons_succ, List.getElem_cons_zero, List.setIfInBounds_toArray, List.set_cons_zero, List.set_cons_succ]
          have hz3 := below_alloc y2 (.cells (stC a0 a1 a0 (.slice (some ⟨gz, 0, none⟩) N N) (.slice ta tn tc) (.slice ah nh ch)).toArray 162)
          have hbt : Blk (y2.alloc (.cells (stC a0 a1 a0 (.slice (some ⟨gz, 0, none⟩) N N) (.slice ta tn tc) (.slice ah nh ch)).toArray 162)) y2.heap.size (stC a0 a1 a0 (.slice (some ⟨gz, 0, none⟩) N N) (.slice ta tn tc) (.slice ah nh ch)) 162 := Blk.new _ _ _
          refine wpAnyH_step 16 (.slice (some ⟨y2.heap.size, 0, none⟩) 3 3) (y2.alloc (.cells (stC a0 a1 a0 (.slice (some ⟨gz, 0, none⟩) N N) (.slice ta tn tc) (.slice ah nh ch)).toArray 162)) (by kernel_rfl) rfl (by rfl) (build_sts _ _ (.tmp 45) (.tmp 49) (.tmp 53) _ _ _ _ _ _ _ _ _ _ _ _ rfl rfl rfl rfl _) ((((HLR.out.below hz1 HLR.out.lt).below hz2 (HLR.out.below hz1 HLR.out.lt).lt).below hz3 ((HLR.out.below hz1 HLR.out.lt).below hz2 (HLR.out.below hz1 HLR.out.lt).lt).lt).cell 2) ?_
          simp only [Act.put, List.getElem_toArray, List.getElem_cons_succ, List.getElem_cons_zero, List.setIfInBounds_toArray, List.set_cons_zero, List.set_cons_succ]
          replace hS := (((HLR.out.below hz1 HLR.out.lt).below hz2 (HLR.out.below hz1 HLR.out.lt).lt).below hz3 ((HLR.out.below hz1 HLR.out.lt).below hz2 (HLR.out.below hz1 HLR.out.lt).lt).lt).cell 2
          refine wpAnyH_take (i := 17) (v := .slice (some ⟨y2.heap.size, 0, none⟩) 3 3) rfl (by kernel_rfl) (by kernel_rfl) (by kernel_rfl) (fun _ _ _ h => h) (Or.inl ⟨by rfl, fun wx hx => by simp [go_sem]⟩) hS ?_
          simp only [Act.put, List.getElem_toArray, List.getElem_cons_succ, List.getElem_cons_zero, List.setIfInBounds_toArray, List.set_cons_zero, List.set_cons_succ]
          refine wpAnyH_done (by kernel_rfl) ?_ _
          go_wp2
          go_meet
          case rel =>
            have hbb1 : Below wr.heap.size wr y2 := HBD2.out.trans ((hz1.trans (hz2.mono hz1.size)).mono (by rw [HSZ.out.1]; exact Nat.le_refl _))
            have h7 : wr.heap.size ≤ y2.heap.size := hbb1.size
            refine ⟨y2.heap.size, gz, ah, nh, ch, rfl, hbt, (hbz.below hz2 hbz.lt).below hz3 (hbz.below hz2 hbz.lt).lt, ownB_lower (ho.below hz3 (Nat.le_refl _)) (Nat.le_trans HSZ.out.2 hz1.size), hbb1.trans (hz3.mono hbb1.size), h7, by rw [HGZ.out, HSZ.out.1]; exact Nat.le_refl _⟩
        · refine wpOp_en 14 (by rfl) (by rfl) (f := 118) (args := #[.int .u64 (gen' : Int)]) (by simp [go_sem]) (jHead_own gen' HGN.out _ HKR.out) ?_
          rintro e0 y1 ⟨vh, rfl, ho, hz1⟩
          obtain ⟨ah, ch, hvh⟩ := ownB_form ho
          obtain ⟨nh, HNH⟩ : ∃ m, Hid (m = (headB gen').length) := ⟨_, rfl⟩
          rw [← HNH.out] at hvh
          subst hvh
          have hl1 : Blk y1 lg (lgC gd hs 0 k gen vr u) 144 := HLR.out.below hz1 HLR.out.lt
          replace hS : y1.cell? ⟨lg, 2, none⟩ = some (.int .i64 (hs : Int)) := hl1.cell 2
          refine ⟨_, rfl, hS, ?_⟩
          simp only [Act.put, List.getElem_toArray, List.getElem_cons_succ, List.getElem_cons_zero, List.setIfInBounds_toArray, List.set_cons_zero, List.set_cons_succ]
          refine wpAnyH_take (i := 15) (v := .agg #[.int .i64 (a0 : Int), .slice ah nh ch]) rfl (by kernel_rfl) (by kernel_rfl) (by kernel_rfl) (fun _ _ _ h => h) (Or.inl ⟨by rfl, fun wx hx => by exact build_op _ _ 162 [(0, .tmp 50), (1, .tmp 52)] rfl _ (built_st _ _ _ _ _ rfl _ rfl) _⟩) hS ?_
          simp only [Act.put, List.getElem_toArray, List.getElem_cons_succ, List.getElem_cons_zero, List.setIfInBounds_toArray, List.set_cons_zero, List.set_cons_succ]
          have hz2 := below_alloc y1 (.cells (cb (List.replicate N 0)).toArray 5)
          have hbz : Blk (y1.alloc (.cells (cb (List.replicate N 0)).toArray 5)) y1.heap.size (cb (List.replicate N 0)) 5 := Blk.new _ _ _
          have hl2 : Blk (y1.alloc (.cells (cb (List.replicate N 0)).toArray 5)) lg (lgC gd hs 0 k gen vr u) 144 := hl1.below hz2 hl1.lt
          refine wpAnyH_step 6 (.slice (some ⟨y1.heap.size, 0, none⟩) N N) (y1.alloc (.cells (cb (List.replicate N 0)).toArray 5)) (by kernel_rfl) rfl (by rfl) (make_zs _ _ (.tmp 43) N HMK.out.2 rfl rfl _) (hl2.cell 2) ?_
          replace hS := hl2.cell 2
          simp only [Act.put, List.getElem_toArray, List.getElem_cons_succ, List.getElem_cons_zero, List.setIfInBounds_toArray, List.set_cons_zero, List.set_cons_succ]
          generalize y1.alloc (.cells (cb (List.replicate N 0)).toArray 5) = y2 at *
          obtain ⟨gz, HGZ⟩ : ∃ g, Hid (g = y1.heap.size) := ⟨_, rfl⟩
          rw [← HGZ.out] at hbz ⊢
          refine wpAnyH_take (i := 7) (v := .agg #[.int .i64 (a0 : Int), .slice (some ⟨gz, 0, none⟩) N N]) rfl (by kernel_rfl) (by kernel_rfl) (by kernel_rfl) (fun _ _ _ h => h) (Or.inl ⟨by rfl, fun wx hx => by exact build_op _ _ 162 [(0, .tmp 38), (1, .tmp 44)] rfl _ (built_st _ _ _ _ _ rfl _ rfl) _⟩) hS ?_
          simp only [Act.put, List.getElem_toArray, List.getElem_cons_succ, List.getElem_cons_zero, List.setIfInBounds_toArray, List.set_cons_zero, List.set_cons_succ]
          have hz3 := below_alloc y2 (.cells (stC a0 a1 a0 (.slice (some ⟨gz, 0, none⟩) N N) (.slice ta tn tc) (.slice ah nh ch)).toArray 162)
          have hbt : Blk (y2.alloc (.cells (stC a0 a1 a0 (.slice (some ⟨gz, 0, none⟩) N N) (.slice ta tn tc) (.slice ah nh ch)).toArray 162)) y2.heap.size (stC a0 a1 a0 (.slice (some ⟨gz, 0, none⟩) N N) (.slice ta tn tc) (.slice ah nh ch)) 162 := Blk.new _ _ _
          refine wpAnyH_step 16 (.slice (some ⟨y2.heap.size, 0, none⟩) 3 3) (y2.alloc (.cells (stC a0 a1 a0 (.slice (some ⟨gz, 0, none⟩) N N) (.slice ta tn tc) (.slice ah nh ch)).toArray 162)) (by kernel_rfl) rfl (by rfl) (build_sts _ _ (.tmp 45) (.tmp 49) (.tmp 53) _ _ _ _ _ _ _ _ _ _ _ _ rfl rfl rfl rfl _) ((hl2.below hz3 hl2.lt).cell 2) ?_
          simp only [Act.put, List.getElem_toArray, List.getElem_cons_succ, List.getElem_cons_zero, List.setIfInBounds_toArray, List.set_cons_zero, List.set_cons_succ]
          replace hS := (hl2.below hz3 hl2.lt).cell 2
          refine wpAnyH_take (i := 17) (v := .slice (some ⟨y2.heap.size, 0, none⟩) 3 3) rfl (by kernel_rfl) (by kernel_rfl) (by kernel_rfl) (fun _ _ _ h => h) (Or.inl ⟨by rfl, fun wx hx => by simp [go_sem]⟩) hS ?_
          simp only [Act.put, List.getElem_toArray, List.getElem_cons_succ, List.getElem_cons_zero, List.setIfInBounds_toArray, List.set_cons_zero, List.set_cons_succ]
          refine wpAnyH_done (by kernel_rfl) ?_ _
          go_wp2
          go_meet
          case rel =>
            have hbb1 : Below wr.heap.size wr y2 := HBD2.out.trans ((hz1.trans (hz2.mono hz1.size)).mono (by rw [HSZ.out.1]; exact Nat.le_refl _))
            have h7 : wr.heap.size ≤ y2.heap.size := hbb1.size
            refine ⟨y2.heap.size, gz, ah, nh, ch, rfl, hbt, hbz.below hz3 hbz.lt, ownB_lower ((ho.below hz2 (Nat.le_refl _)).below hz3 (Nat.le_refl _)) HSZ.out.2, hbb1.trans (hz3.mono hbb1.size), h7, by rw [HGZ.out, HSZ.out.1]; exact hz1.size⟩
      case rest =>
        obtain ⟨gT, gz, ah, nh, ch, rfl, hbT, hbz, hoh, hbw, hgT, hgz⟩ := hcut
        clear HLR HKR
        have HBC : Hid (Below w.heap.size w wc) := HBB.out.trans (hbw.mono HBB.out.size)
        have HLT : Hid (∀ x, Un P (fun x => x = lg) x → x < w.heap.size) := fun x hx => hx.elim (HDK.out.lt14 x) (fun e => by rw [e]; exact HLB.out.lt)
        have HMC : Hid (Mut (Un P (fun x => x = lg)) w wc) := mut_below HBC.out _
        have HST0 : Hid (Sta (Un P (fun x => x = lg)) wc (fun W => ReadsL W (.slice ad n c) l)) := HST.out.below HBC.out
        have HT0 : Hid (∀ j, j < 3 → Sta (Un P (fun x => x = lg)) wc (fun W => Reads W ([.slice (some ⟨gz, 0, none⟩) N N, .slice ta tn tc, .slice ah nh ch].getD j undef) (stR hs gen' l j))) := fun j hj => by
          match j, hj with
          | 0, _ =>
            have e : stR hs gen' l 0 = List.replicate N 0 := by show List.replicate (64 * hs) 0 = _; rw [HNN.out, Nat.mul_comm]
            show Sta _ wc (fun W => Reads W (.slice (some ⟨gz, 0, none⟩) N N) (stR hs gen' l 0))
            rw [e]
            exact hbz.stB (fun h => absurd (HLT.out gz h) (by have := HBB.out.size; omega)) (by rw [List.length_replicate]) (by rw [List.length_replicate]; exact Nat.le_refl _)
          | 1, _ =>
            show Sta _ wc (fun W => Reads W (.slice ta tn tc) (recsB gen' 0 l))
            rw [← HTX.out]
            exact (HOW.out.below hbw (Nat.le_refl _)).st HLT.out
          | 2, _ => exact hoh.st HLT.out
        have HV0 : Hid (BgI wc gd lg P (lgC gd hs 0 k gen vr u) D L P D (stL hs k' gen' l 0) wc) := ⟨HDK.out.same14 (fun x hx => HBC.out.block x (HDK.out.lt14 x hx)), Grew.refl _ _, HLB.out.below HBC.out HLB.out.lt, Mut.refl _ _, HWT.out, by rw [HLL.out]⟩
        have HBT : Hid (Blk wc gT (stC a0 a1 a0 (.slice (some ⟨gz, 0, none⟩) N N) (.slice ta tn tc) (.slice ah nh ch)) 162) := hbT
        have HGT : Hid (¬ Un P (fun x => x = lg) gT) := fun h => absurd (HLT.out gT h) (by have := HBB.out.size; omega)
        have HAT : Hid (∀ j, j < 3 → stA hs k' j = ([a0, a1, a0] : List Nat).getD j 0) := fun j hj => by
          match j, hj with
          | 0, _ => show k' * hs = a0; rw [HA0.out]
          | 1, _ => show k' * hs + 1 = a1; rw [HA1.out, HA0.out]
          | 2, _ => show k' * hs = a0; rw [HA0.out]
        clear hbT hbz hoh hbw hgT hgz
        go_wp2
        go_loopw [57] (fun i wr => ∃ (j : Nat) (P' : Nat → Prop) (D' : DkT), j ≤ 3 ∧ i = .int .i64 (j : Int) ∧ Hid (BgI wc gd lg P (lgC gd hs 0 k gen vr u) D L P' D' (stL hs k' gen' l j) wr)) (fun i _ => 3 - (intOf i).toNat)
        case atStart => exact ⟨0, P, D, by omega, rfl, HV0⟩
        case round =>
          clear HV0
          obtain ⟨j, P', D', hj, rfl, HBI⟩ := hrel
          by_cases hlt3 : j < 3
          case pos =>
            have hlk3 : (j : Int) < 3 := by omega
            have g1 : IntKind.i64.wrap ((j : Int) + 1) = (j : Int) + 1 := by rw [IntKind.wrap_i64]; omega
            obtain ⟨aj, HAJ⟩ : ∃ m, Hid (m = stA hs k' j) := ⟨_, rfl⟩
            obtain ⟨mj, HMJ⟩ : ∃ m, Hid (m = stM hs l j) := ⟨_, rfl⟩
            obtain ⟨rj, HRJ⟩ : ∃ m, Hid (m = stR hs gen' l j) := ⟨_, rfl⟩
            obtain ⟨tj, HTJ⟩ : ∃ t : Value, Hid (t = [.slice (some ⟨gz, 0, none⟩) N N, .slice ta tn tc, .slice ah nh ch].getD j undef) := ⟨_, rfl⟩
            have hcell : (stC a0 a1 a0 (.slice (some ⟨gz, 0, none⟩) N N) (.slice ta tn tc) (.slice ah nh ch))[2 * j]? = some (.int .i64 (aj : Int)) ∧ (stC a0 a1 a0 (.slice (some ⟨gz, 0, none⟩) N N) (.slice ta tn tc) (.slice ah nh ch))[2 * j + 1]? = some tj := by
              rw [HAJ.out, HAT.out j hlt3, HTJ.out]
              match j, hlt3 with
              | 0, _ => exact ⟨rfl, rfl⟩
              | 1, _ => exact ⟨rfl, rfl⟩
              | 2, _ => exact ⟨rfl, rfl⟩
            have HSJ : Hid (Sta (Un P (fun x => x = lg)) wc (fun W => Reads W tj rj)) := by rw [HTJ.out, HRJ.out]; exact HT0.out j hlt3
            have HPO : Hid (∀ x, x < wc.heap.size → Un P' (fun x => x = lg) x → Un P (fun x => x = lg) x) := fun x hx h => h.elim (fun h => (HBI.out.gr x h).elim Or.inl (fun h2 => absurd h2 (by omega))) Or.inr
            have HNP2 : Hid (¬ P' lg) := fun h => (HBI.out.gr lg h).elim HNP.out (fun h2 => absurd h2 (by have h3 := HLB.out.lt; have h4 := HBC.out.size; omega))
            obtain ⟨tad, tnn, tcc, htj⟩ := (HSJ.out.now).form
            subst htj
            have HBTr : Hid (Blk wr gT (stC a0 a1 a0 (.slice (some ⟨gz, 0, none⟩) N N) (.slice ta tn tc) (.slice ah nh ch)) 162) := HBI.out.mv.blk HBT.out HGT.out
            have HRG : Hid (wr.rangeAt gT (2 * j) [.int .i64 (aj : Int), .slice tad tnn tcc]) := fun i v hv => by
              match i, hv with
              | 0, hv => simp at hv; subst hv; rw [Nat.add_zero, HBTr.out.cell]; exact hcell.1
              | 1, hv => simp at hv; subst hv; rw [HBTr.out.cell]; exact hcell.2
            obtain ⟨D2, x2, HX2⟩ : ∃ D2 x, Hid (runJ D' (stS hs k' gen' l j) = (D2, x)) := ⟨(runJ D' (stS hs k' gen' l j)).1, (runJ D' (stS hs k' gen' l j)).2, rfl⟩
            have HPC : Hid (∀ W, Below wr.heap.size wr W → Calls Tryz.prog 102 #[.pointer (some ⟨lg, 0, none⟩), .int .i64 (aj : Int), .slice tad tnn tcc] W fun e w' => e = .returned (.int .i64 x2) ∧ ∃ P2, DkIs w' gd P2 D2 ∧ Blk w' lg (lgC gd hs x2 k gen vr u) 144 ∧ Mut (Un P' (fun x => x = lg)) W w' ∧ Grew W P' P2) := fun W hW => by
              have hbi := HBI.out
              have hmW : Mut (Un P (fun x => x = lg)) wc W := hbi.mv.trans (fun _ _ h => h) (mut_below hW _)
              have h1 := jPut_any (w := W) (gd := gd) (lg := lg) (P := P') (D := D') hs k gen u aj mj vr (.slice tad tnn tcc) rj (hbi.dk.same14 (fun x hx => hW.block x (hbi.dk.lt14 x hx))) (hbi.lb.below hW hbi.lb.lt) HNP2.out (by rw [HRJ.out, HMJ.out]; exact len_stR hs gen' l hlt3) (by rw [HMJ.out]; have h2 := stM_le (l := l) HBD.out.2.2.2.1 j; have h3 := HBD.out; omega) (by rw [HAJ.out]; unfold stA; have h2 := HAB.out; have h3 := HA0.out; have h4 := HA1.out; split <;> omega) (by rw [hbi.wt]; show 0 + mj ≤ 200; rw [HMJ.out]; have h2 := stM_le (l := l) HBD.out.2.2.2.1 j; have h3 := HBD.out; omega) (HSJ.out.go hmW HPO.out)
              have e : (secsOf aj mj rj).map some ++ [none] = stS hs k' gen' l j := by rw [stS, HAJ.out, HMJ.out, HRJ.out]
              rw [e, HX2.out] at h1
              exact h1
            have HRS : Hid (runJ D L = if x2 = 0 then runJ D2 (stL hs k' gen' l (j + 1)) else (D2, x2)) := by
              show _ = _
              rw [HBI.out.run, stL_step hs k' gen' l hlt3, run_two, HX2.out]
            have HWT2 : Hid (x2 = 0 → D2.wait = []) := fun h => by
              have h1 := seg_wait (secsOf (stA hs k' j) (stM hs l j) (stR hs gen' l j)) D'
              have e : (secsOf (stA hs k' j) (stM hs l j) (stR hs gen' l j)).map some ++ [none] = stS hs k' gen' l j := rfl
              rw [e, HX2.out] at h1
              exact h1 h
            clear hcell
            have tk0 : Hid True := trivial
            have tk1 : Hid True := trivial
            have tk2 : Hid True := trivial
            have tk3 : Hid True := trivial
            have tk4 : Hid True := trivial
            go_upto_region 13 with (first
              | (clear tk0; refine wpSeq_val (.pointer (some ⟨gT, 2 * j, none⟩)) _ (by rfl) (idxSt gT j hlt3 _ _ (.tmp 55) (.tmp 57) rfl rfl rfl _) ?_)
              | (clear tk1; with_reducible refine wpSeq_loadW 162 (.tmp 59) gT (2 * j) [.int .i64 (aj : Int), .slice tad tnn tcc] _ HRG.out Tryz.underlying162 rfl (info_st _ _) ?_ ?_ ?_ ?_
                 · rfl
                 · rfl
                 · rfl)
              | (clear tk2; with_reducible refine wpSeq_allocSt ?_ ?_ ?_
                 · rfl
                 · rfl
                 intro g15 y1 nn
                 have HN1 : Hid (NewR [.int .i64 0, .slice none 0 0] 162 wr g15 y1) := nn
                 clear nn)
              | (clear tk3; with_reducible refine wpSeq_storeRow 162 (.tmp 15) (.tmp 60) g15 [.int .i64 0, .slice none 0 0] [.int .i64 (aj : Int), .slice tad tnn tcc] HN1.out.blk (len_st _ _ _ _) (info_st _ _) (st_one _ _ _ _) ?_ ?_ ?_ ?_ ?_
                 · rfl
                 · rfl
                 · rfl
                 · rfl
                 intro y2 hs2
                 have HB2 : Hid (Below wr.heap.size wr y2) := HN1.out.below.trans (hs2.only.below HN1.out.ge HN1.out.below.size)
                 have c0 : y2.cell? ⟨g15, 0, none⟩ = some (.int .i64 (aj : Int)) := hs2.blk.cell 0
                 have c1 : y2.cell? ⟨g15, 1, none⟩ = some (.slice tad tnn tcc) := hs2.blk.cell 1
                 clear hs2)
              | (clear tk4; go_at_call 102; refine (HPC.out _ HB2.out).mono ?_; rintro e0 y3 ⟨rfl, P2, hd2, hl2, hm2, hg2⟩
                 have hm3 : Mut (Un P (fun x => x = lg)) wc y3 := (HBI.out.mv.trans (fun _ _ h => h) (mut_below HB2.out _)).trans HPO.out hm2
                 have hg3 : Grew wc P P2 := HBI.out.gr.trans (Nat.le_trans HBI.out.mv.size HB2.out.size) hg2
                 have HD3 : Hid (DkIs y3 gd P2 D2 ∧ Blk y3 lg (lgC gd hs x2 k gen vr u) 144 ∧ Mut (Un P (fun x => x = lg)) wc y3 ∧ Grew wc P P2) := ⟨hd2, hl2, hm3, hg3⟩
                 clear hd2 hl2 hm2 hg2 hm3 hg3 c0 c1))
            by_cases hx0 : x2 = 0
            case pos =>
              subst hx0
              have HBI2 : Hid (BgI wc gd lg P (lgC gd hs 0 k gen vr u) D L P2 D2 (stL hs k' gen' l (j + 1)) y3) := ⟨HD3.out.1, HD3.out.2.2.2, HD3.out.2.1, HD3.out.2.2.1, HWT2.out rfl, by rw [HRS.out, if_pos rfl]⟩
              go_wp2
              go_roundw
              case rel => exact ⟨j + 1, P2, D2, by omega, by simp, HBI2⟩
              case measure => simp [intOf]; omega
            case neg =>
              have q1 : (x2 != 0) = true := by rw [bne_iff_ne]; exact hx0
              have hxe : D2 = DX ∧ x2 = xX := by
                have h := HRS.out
                rw [if_neg hx0, HX.out] at h
                exact ⟨(congrArg Prod.fst h).symm, (congrArg Prod.snd h).symm⟩
              obtain ⟨rfl, rfl⟩ := hxe
              go_wp2
              go_ret
              exact ⟨rfl, P2, HD3.out.1, fun h => absurd h hx0, HMC.out.trans (fun _ _ h => h) HD3.out.2.2.1, fun x hx => (HD3.out.2.2.2 x hx).imp id (fun h => Nat.le_trans HBC.out.size h)⟩
          case neg =>
            obtain rfl : j = 3 := by omega
            have hlk3 : ¬ (((3 : Nat) : Int) < 3) := by omega
            have hxe : D' = DX ∧ 0 = xX := by
              have h := HBI.out.run
              rw [HX.out] at h
              exact ⟨(congrArg Prod.fst h).symm, (congrArg Prod.snd h).symm⟩
            obtain ⟨rfl, rfl⟩ := hxe
            obtain ⟨ts, HTS⟩ : ∃ m, Hid (m = secL l) := ⟨_, rfl⟩
            obtain ⟨u2, HU2⟩ : ∃ m, Hid (m = 1 + secL l) := ⟨_, rfl⟩
            have HSC : Hid (∀ W, Calls Tryz.prog 103 #[.int .i64 (tn : Int)] W fun e w' => e = .returned (.int .i64 (ts : Int)) ∧ w' = W) := fun W => by
              have h2 : tn = 64 * secL l := by rw [HTN.out, HTX.out, len_recsB, sizeL_eq]
              have h3 := HBD.out
              have h1 := jSectors_any tn (by omega) W
              have e : (tn + 63) / 64 = ts := by rw [HTS.out]; omega
              rw [e] at h1
              exact h1
            have g2 : IntKind.i64.wrap (1 + (ts : Int)) = (u2 : Int) := by rw [IntKind.wrap_i64]; have h1 := HTS.out; have h2 := HU2.out; have h3 := HBD.out; omega
            have HLR : Hid (Blk wr lg (lgC gd hs 0 k gen vr u) 144) := HBI.out.lb
            have tk0 : Hid True := trivial
            have tk1 : Hid True := trivial
            have tk2 : Hid True := trivial
            go_wp2_with (first
              | (clear tk0; go_at_call 103; refine (HSC.out _).mono ?_; rintro e0 y1 ⟨rfl, hy1⟩; subst hy1)
              | (clear tk1; with_reducible refine wpSeq_build 138 [(0, .tmp 72), (1, .tmp 73), (2, .tmp 74), (3, .tmp 78)] (ctC k' gen' (.slice ad n c) u2) ?_ ?_ ?_ ?_
                 · exact built_ct4 _ _ _ _ _ _ _ rfl
                 · rfl
                 · rfl)
              | (clear tk2; with_reducible refine wpSeq_storeCt (.tmp 81) (.tmp 79) lg gd hs 0 k gen u k' gen' u2 vr ad n c HLR.out ?_ ?_ ?_ ?_ ?_
                 · rfl
                 · rfl
                 · rfl
                 · rfl
                 intro y2 hb2 ho2
                 have HL2 : Hid (Blk y2 lg (lgC gd hs 0 k' gen' (.slice ad n c) u2) 144) := hb2
                 have HO2 : Hid (Only lg y1 y2) := ho2
                 clear hb2 ho2))
            go_ret
            have hnp2 : ¬ P' lg := fun h => (HBI.out.gr lg h).elim HNP.out (fun h2 => absurd h2 (by have h3 := HLB.out.lt; have h4 := HBC.out.size; omega))
            refine ⟨rfl, P', HBI.out.dk.same14 (fun x hx => HO2.out.block x (fun e => hnp2 (e ▸ hx)) (HBI.out.dk.lt14 x hx)), by first | (intro _; rw [← HU2.out]; exact HL2.out) | (rw [← HU2.out]; exact HL2.out), HMC.out.trans (fun _ _ h => h) (HBI.out.mv.trans (fun _ _ h => h) (HO2.out.mut (Or.inr rfl))), fun x hx => (HBI.out.gr x hx).imp id (fun h => Nat.le_trans HBC.out.size h)⟩
end Go.Proofs.YteklnooagjkclaaGreatDoor
/- The walks of journal's next, Append and Restart, as they landed (layer 14). -/
namespace Go.Proofs.YteklnooagjkclaaGreatDoor
open Go.RowKit
set_option maxRecDepth 100000
set_option maxRecDepth 100000 in
set_option maxHeartbeats 8000000 in
theorem jNext_any {w : World} {gd lg : Nat} {P : Nat → Prop} {D : DkT} (hs k gen u : Nat) (vr v : Value) (l : List Bs) (hK : KOk w) (hdk : DkIs w gd P D) (hwt : D.wait = []) (hlb : Blk w lg (lgC gd hs 0 k gen vr u) 144) (hnp : ¬ P lg) (hk1 : k ≤ 1) (hs1 : 1 ≤ hs) (hs2 : hs ≤ 50) (hfit : 1 + secL l ≤ hs) (hst : Sta (Un P (fun x => x = lg)) w (fun W => ReadsL W v l)) :
    Calls Tryz.prog 92 #[.pointer (some ⟨lg, 0, none⟩), v] w fun e w' => e = .returned (.int .i64 (runJ D (anewS hs (1 - k) (gN gen) l)).2) ∧ ∃ P', DkIs w' gd P' (runJ D (anewS hs (1 - k) (gN gen) l)).1 ∧ ((runJ D (anewS hs (1 - k) (gN gen) l)).2 = 0 → Blk w' lg (lgC gd hs 0 (1 - k) (gN gen) v (1 + secL l)) 144) ∧ Mut (Un P (fun x => x = lg)) w w' ∧ Grew w P P' := by
  obtain ⟨k1, HK1⟩ : ∃ m, Hid (m = 1 - k) := ⟨_, rfl⟩
  obtain ⟨g1, HG1⟩ : ∃ m, Hid (m = gN gen) := ⟨_, rfl⟩
  have f1 : IntKind.i64.wrap (1 - (k : Int)) = (k1 : Int) := by rw [IntKind.wrap_i64]; have := HK1.out; omega
  have f2 : IntKind.u64.wrap ((gen : Int) + 1) = (g1 : Int) := by rw [IntKind.wrap_u64, HG1.out, gN]; omega
  rw [← HK1.out, ← HG1.out]
  obtain ⟨xX, HXX⟩ : ∃ x, Hid (x = (runJ D (anewS hs k1 g1 l)).2) := ⟨_, rfl⟩
  have HC : Hid (∀ W, Below w.heap.size w W → Calls Tryz.prog 91 #[.pointer (some ⟨lg, 0, none⟩), .int .i64 (k1 : Int), .int .u64 (g1 : Int), v] W fun e w' => e = .returned (.int .i64 xX) ∧ ∃ P', DkIs w' gd P' (runJ D (anewS hs k1 g1 l)).1 ∧ (xX = 0 → Blk w' lg (lgC gd hs 0 k1 g1 v (1 + secL l)) 144) ∧ Mut (Un P (fun x => x = lg)) w w' ∧ Grew w P P') := fun W hW => by
    rw [HXX.out]
    refine (jBegin_any (w := W) hs k gen u k1 g1 vr v l (hK.below hW hK.lt) (hdk.same14 (fun x hx => hW.block x (hdk.lt14 x hx))) hwt (hlb.below hW hlb.lt) hnp (by rw [HK1.out]; omega) (by rw [HG1.out]; exact gN_lt gen) hs1 hs2 hfit (hst.below hW)).mono ?_
    rintro e w' ⟨h1, P', h2, h3, h4, h5⟩
    exact ⟨h1, P', h2, h3, (mut_below hW _).trans (fun _ _ h => h) h4, fun x hx => (h5 x hx).imp id (fun h => Nat.le_trans hW.size h)⟩
  rw [← HXX.out]
  obtain ⟨ad, n, c, hv⟩ : ∃ a n c, v = .slice a n c := by obtain ⟨a, c, hv, _⟩ := hst.now; exact ⟨_, _, _, hv⟩
  have HV : Hid (v = .slice ad n c) := hv
  have c4 : w.drew.cell? ⟨lg, 4, none⟩ = some (.int .i64 (k : Int)) := hlb.cell 4
  have c5 : w.drew.cell? ⟨lg, 5, none⟩ = some (.int .u64 (gen : Int)) := hlb.cell 5
  have HBD : Hid (Below w.heap.size w w.drew) := (Below.refl _ _).drew
  clear hK hdk hwt hlb hnp hk1 hs1 hs2 hfit hst hv
  go_enter Tryz.func92, Tryz.ntmps92
  go_upto_region 1 with fail
  refine wp_region_held_drew (S := fun _ => True) (by kernel_rfl) trivial ?_
  intro _
  refine wpAnyH_take (i := 0) (v := .pointer (some ⟨lg, 0, none⟩)) rfl (by kernel_rfl) (by kernel_rfl) (by kernel_rfl) (fun _ _ _ h => h) (Or.inl ⟨by rfl, fun wx hx => by simp [go_sem]⟩) trivial ?_
  simp only [Act.put, List.getElem_toArray, List.getElem_cons_zero, List.setIfInBounds_toArray, List.set_cons_zero, List.set_cons_succ]
  refine wpAnyH_take (i := 1) (v := .pointer (some ⟨lg, 0, none⟩)) rfl (by kernel_rfl) (by kernel_rfl) (by kernel_rfl) (fun _ _ _ h => h) (Or.inl ⟨by rfl, fun wx hx => by simp [go_sem]⟩) trivial ?_
  simp only [Act.put, List.getElem_toArray, List.getElem_cons_succ, List.getElem_cons_zero, List.setIfInBounds_toArray, List.set_cons_zero, List.set_cons_succ]
  refine wpAnyH_take (i := 2) (v := .pointer (some ⟨lg, 0, none⟩)) rfl (by kernel_rfl) (by kernel_rfl) (by kernel_rfl) (fun _ _ _ h => h) (Or.inl ⟨by rfl, fun wx hx => by simp [go_sem]⟩) trivial ?_
  simp only [Act.put, List.getElem_toArray, List.getElem_cons_succ, List.getElem_cons_zero, List.setIfInBounds_toArray, List.set_cons_zero, List.set_cons_succ]
  refine wpAnyH_take (i := 3) (v := .pointer (some ⟨lg, 4, none⟩)) rfl (by kernel_rfl) (by kernel_rfl) (by kernel_rfl) (fun _ _ _ h => h) (Or.inl ⟨by rfl, fun wx hx => by simp [go_sem]⟩) trivial ?_
  simp only [Act.put, List.getElem_toArray, List.getElem_cons_succ, List.getElem_cons_zero, List.setIfInBounds_toArray, List.set_cons_zero, List.set_cons_succ]
  refine wpAnyH_take (i := 4) (v := .pointer (some ⟨lg, 4, none⟩)) rfl (by kernel_rfl) (by kernel_rfl) (by kernel_rfl) (fun _ _ _ h => h) (Or.inl ⟨by rfl, fun wx hx => by simp [go_sem]⟩) trivial ?_
  simp only [Act.put, List.getElem_toArray, List.getElem_cons_succ, List.getElem_cons_zero, List.setIfInBounds_toArray, List.set_cons_zero, List.set_cons_succ]
  refine wpAnyH_take (i := 7) (v := .pointer (some ⟨lg, 0, none⟩)) rfl (by kernel_rfl) (by kernel_rfl) (by kernel_rfl) (fun _ _ _ h => h) (Or.inl ⟨by rfl, fun wx hx => by simp [go_sem]⟩) trivial ?_
  simp only [Act.put, List.getElem_toArray, List.getElem_cons_succ, List.getElem_cons_zero, List.setIfInBounds_toArray, List.set_cons_zero, List.set_cons_succ]
  refine wpAnyH_take (i := 8) (v := .pointer (some ⟨lg, 0, none⟩)) rfl (by kernel_rfl) (by kernel_rfl) (by kernel_rfl) (fun _ _ _ h => h) (Or.inl ⟨by rfl, fun wx hx => by simp [go_sem]⟩) trivial ?_
  simp only [Act.put, List.getElem_toArray, List.getElem_cons_succ, List.getElem_cons_zero, List.setIfInBounds_toArray, List.set_cons_zero, List.set_cons_succ]
  refine wpAnyH_take (i := 9) (v := .pointer (some ⟨lg, 4, none⟩)) rfl (by kernel_rfl) (by kernel_rfl) (by kernel_rfl) (fun _ _ _ h => h) (Or.inl ⟨by rfl, fun wx hx => by simp [go_sem]⟩) trivial ?_
  simp only [Act.put, List.getElem_toArray, List.getElem_cons_succ, List.getElem_cons_zero, List.setIfInBounds_toArray, List.set_cons_zero, List.set_cons_succ]
  refine wpAnyH_take (i := 10) (v := .pointer (some ⟨lg, 5, none⟩)) rfl (by kernel_rfl) (by kernel_rfl) (by kernel_rfl) (fun _ _ _ h => h) (Or.inl ⟨by rfl, fun wx hx => by simp [go_sem]⟩) trivial ?_
  simp only [Act.put, List.getElem_toArray, List.getElem_cons_succ, List.getElem_cons_zero, List.setIfInBounds_toArray, List.set_cons_zero, List.set_cons_succ]
  refine wpAnyH_take (i := 13) (v := v) rfl (by kernel_rfl) (by kernel_rfl) (by kernel_rfl) (fun _ _ _ h => h) (Or.inl ⟨by rfl, fun wx hx => by simp [go_sem]⟩) trivial ?_
  simp only [Act.put, List.getElem_toArray, List.getElem_cons_succ, List.getElem_cons_zero, List.setIfInBounds_toArray, List.set_cons_zero, List.set_cons_succ]
  refine wpAnyH_pair 5 11 (by kernel_rfl) ?_ ?_
  · refine wpOp_vl 5 (.int .i64 (k : Int)) w.drew (by rfl) (by rfl) (by simp [go_sem, c4]) ⟨trivial, ?_⟩
    simp only [Act.put, List.getElem_toArray, List.getElem_cons_succ, List.getElem_cons_zero, List.setIfInBounds_toArray, List.set_cons_zero, List.set_cons_succ]
    refine wpAnyH_take (i := 6) (v := .int .i64 (k1 : Int)) rfl (by kernel_rfl) (by kernel_rfl) (by kernel_rfl) (fun _ _ _ h => h) (Or.inl ⟨by rfl, fun wx hx => by simp [go_sem, f1]⟩) trivial ?_
    simp only [Act.put, List.getElem_toArray, List.getElem_cons_succ, List.getElem_cons_zero, List.setIfInBounds_toArray, List.set_cons_zero, List.set_cons_succ]
    refine wpAnyH_step 11 (.int .u64 (gen : Int)) w.drew (by kernel_rfl) rfl (by rfl) (by simp [go_sem, c5]) trivial ?_
    simp only [Act.put, List.getElem_toArray, List.getElem_cons_succ, List.getElem_cons_zero, List.setIfInBounds_toArray, List.set_cons_zero, List.set_cons_succ]
    refine wpAnyH_take (i := 12) (v := .int .u64 (g1 : Int)) rfl (by kernel_rfl) (by kernel_rfl) (by kernel_rfl) (fun _ _ _ h => h) (Or.inl ⟨by rfl, fun wx hx => by simp [go_sem, f2]⟩) trivial ?_
    simp only [Act.put, List.getElem_toArray, List.getElem_cons_succ, List.getElem_cons_zero, List.setIfInBounds_toArray, List.set_cons_zero, List.set_cons_succ]
    refine wpAnyH_enter 14 (by kernel_rfl) rfl (by rfl) (f := 91) (args := #[.pointer (some ⟨lg, 0, none⟩), .int .i64 (k1 : Int), .int .u64 (g1 : Int), v]) (by simp [go_sem]) (HC.out _ HBD.out) ?_
    rintro e0 y1 ⟨rfl, h1⟩
    refine ⟨_, rfl, trivial, ?_⟩
    simp only [Act.put, List.getElem_toArray, List.getElem_cons_succ, List.getElem_cons_zero, List.setIfInBounds_toArray, List.set_cons_zero, List.set_cons_succ]
    refine wpAnyH_take (i := 15) (v := .int .i64 xX) rfl (by kernel_rfl) (by kernel_rfl) (by kernel_rfl) (fun _ _ _ h => h) (Or.inl ⟨by rfl, fun wx hx => by simp [go_sem]⟩) trivial ?_
    simp only [Act.put, List.getElem_toArray, List.getElem_cons_succ, List.getElem_cons_zero, List.setIfInBounds_toArray, List.set_cons_zero, List.set_cons_succ]
    refine wpAnyH_done (by kernel_rfl) ?_ _
    go_wp2
    go_ret
    exact ⟨rfl, h1⟩
  · refine wpOp_vl 11 (.int .u64 (gen : Int)) w.drew (by rfl) (by rfl) (by simp [go_sem, c5]) ⟨trivial, ?_⟩
    simp only [Act.put, List.getElem_toArray, List.getElem_cons_succ, List.getElem_cons_zero, List.setIfInBounds_toArray, List.set_cons_zero, List.set_cons_succ]
    refine wpAnyH_take (i := 12) (v := .int .u64 (g1 : Int)) rfl (by kernel_rfl) (by kernel_rfl) (by kernel_rfl) (fun _ _ _ h => h) (Or.inl ⟨by rfl, fun wx hx => by simp [go_sem, f2]⟩) trivial ?_
    simp only [Act.put, List.getElem_toArray, List.getElem_cons_succ, List.getElem_cons_zero, List.setIfInBounds_toArray, List.set_cons_zero, List.set_cons_succ]
    refine wpAnyH_step 5 (.int .i64 (k : Int)) w.drew (by kernel_rfl) rfl (by rfl) (by simp [go_sem, c4]) trivial ?_
    simp only [Act.put, List.getElem_toArray, List.getElem_cons_succ, List.getElem_cons_zero, List.setIfInBounds_toArray, List.set_cons_zero, List.set_cons_succ]
    refine wpAnyH_take (i := 6) (v := .int .i64 (k1 : Int)) rfl (by kernel_rfl) (by kernel_rfl) (by kernel_rfl) (fun _ _ _ h => h) (Or.inl ⟨by rfl, fun wx hx => by simp [go_sem, f1]⟩) trivial ?_
    simp only [Act.put, List.getElem_toArray, List.getElem_cons_succ, List.getElem_cons_zero, List.setIfInBounds_toArray, List.set_cons_zero, List.set_cons_succ]
    refine wpAnyH_enter 14 (by kernel_rfl) rfl (by rfl) (f := 91) (args := #[.pointer (some ⟨lg, 0, none⟩), .int .i64 (k1 : Int), .int .u64 (g1 : Int), v]) (by simp [go_sem]) (HC.out _ HBD.out) ?_
    rintro e0 y1 ⟨rfl, h1⟩
    refine ⟨_, rfl, trivial, ?_⟩
    simp only [Act.put, List.getElem_toArray, List.getElem_cons_succ, List.getElem_cons_zero, List.setIfInBounds_toArray, List.set_cons_zero, List.set_cons_succ]
    refine wpAnyH_take (i := 15) (v := .int .i64 xX) rfl (by kernel_rfl) (by kernel_rfl) (by kernel_rfl) (fun _ _ _ h => h) (Or.inl ⟨by rfl, fun wx hx => by simp [go_sem]⟩) trivial ?_
    simp only [Act.put, List.getElem_toArray, List.getElem_cons_succ, List.getElem_cons_zero, List.setIfInBounds_toArray, List.set_cons_zero, List.set_cons_succ]
    refine wpAnyH_done (by kernel_rfl) ?_ _
    go_wp2
    go_ret
    exact ⟨rfl, h1⟩
end Go.Proofs.YteklnooagjkclaaGreatDoor
/- The walk of journal's Restart, as it landed (layer 14). -/
namespace Go.Proofs.YteklnooagjkclaaGreatDoor
open Go.RowKit
set_option maxRecDepth 100000
end Go.Proofs.YteklnooagjkclaaGreatDoor
/- The walk of journal's Open, as it landed (layer 14). -/
namespace Go.Proofs.YteklnooagjkclaaGreatDoor
open Go.RowKit
set_option maxRecDepth 100000
set_option maxRecDepth 100000 in
set_option maxHeartbeats 8000000 in
theorem jOpen_any {w : World} {gd : Nat} {P : Nat → Prop} {D : DkT} (hK : KOk w) (hdk : DkIs w gd P D) (hwt : D.wait = []) (hsz : sizeD D ≤ 100) (h8 : 8 ≤ sizeD D) : Calls Tryz.prog 63 #[.pointer (some ⟨gd, 0, none⟩)] w fun e w' => ∃ P' lv, e = .returned (.tuple #[lv, .int .i64 (runJ D (openG D).1).2]) ∧ OpA w gd P (sizeD D) (runJ D (openG D).1).1 (openG D).2 P' lv (runJ D (openG D).1).2 w' := by
  obtain ⟨X, HX⟩ : ∃ z, Hid (z = (runJ D (openG D).1).2) := ⟨_, rfl⟩
  obtain ⟨DX, HDX⟩ : ∃ z, Hid (z = (runJ D (openG D).1).1) := ⟨_, rfl⟩
  obtain ⟨JX, HJX⟩ : ∃ z, Hid (z = (openG D).2) := ⟨_, rfl⟩
  rw [← HX.out, ← HDX.out, ← HJX.out]
  obtain ⟨n, HN⟩ : ∃ n, Hid (n = sizeD D) := ⟨_, rfl⟩
  obtain ⟨hs, HHS⟩ : ∃ m, Hid (m = n / 2) := ⟨_, rfl⟩
  obtain ⟨b, HB⟩ : ∃ b, Hid (b = dumpD D) := ⟨_, rfl⟩
  rw [← HN.out] at hsz h8 ⊢
  have HOKD : Hid (okD D) := by obtain ⟨_, _, _, _, hm, _⟩ := hdk; exact hm.ok
  have HBL : Hid (b.length = 64 * n) := by show _ = _; rw [HB.out, len_dumpD HOKD.out, HOKD.out.size.1, HN.out]
  have HOB : Hid (okB b) := by show okB b; have h := HBL.out; unfold okB; omega
  have HHH : Hid (hsD D = hs) := by show sizeD D / 2 = hs; rw [← HN.out]; exact HHS.out.symm
  have HNH : Hid (halfN b = 64 * hs) := by show _ = _; have h := HBL.out; have h2 := HHS.out; rw [halfN]; omega
  have HDK : Hid (DkIs w gd P D) := hdk
  have HWT : Hid (D.wait = []) := hwt
  have HK : Hid (KOk w) := hK
  have HBD : Hid (4 ≤ hs ∧ hs ≤ 50 ∧ n ≤ 100 ∧ 8 ≤ n) := by have h := HHS.out; exact ⟨by omega, by omega, by omega, by omega⟩
  have HLT : Hid (∀ k, P k → k < w.heap.size) := hdk.lt14
  have f1 : ¬ ((n : Int) < 8) := by omega
  have f2 : IntKind.i64.wrap ((n : Int) / 2) = (hs : Int) := by rw [IntKind.wrap_i64]; have := HHS.out; omega
  clear hdk hwt hsz h8 hK
  have HSZ : Hid (∀ W, Below w.heap.size w W → Calls Tryz.prog 22 #[.pointer (some ⟨gd, 0, none⟩)] W fun r w' => r = .returned (.int .i64 (n : Int)) ∧ w' = W) := fun W hW => by rw [HN.out]; exact dkSize_pure (HDK.out.same14 (fun k hk => hW.block k (HLT.out k hk)))
  have HDU : Hid (Calls Tryz.prog 25 #[.pointer (some ⟨gd, 0, none⟩)] w fun r w' => ∃ v, r = .returned v ∧ Reads w' v b ∧ Below w.heap.size w w') := by rw [HB.out]; exact dkDump_b HDK.out (by rw [HWT.out]; decide)
  go_enter Tryz.func63, Tryz.ntmps63
  have tk0 : Hid True := trivial
  have tk1 : Hid True := trivial
  have tk2 : Hid True := trivial
  have tk3 : Hid True := trivial
  have tk4 : Hid True := trivial
  go_upto_region 4 with (first
    | (clear tk0; go_at_call 22; refine (HSZ.out _ (Below.refl _ _)).mono ?_; rintro e0 y1 ⟨rfl, hy1⟩; have hy2 := hy1.symm; clear hy1; subst hy2)
    | (clear tk1; go_at_call 25; refine HDU.out.mono ?_; rintro e0 y1 ⟨v1, rfl, hr, hz⟩
       obtain ⟨ad, cp, hv, hcp, _, hx⟩ := id hr
       obtain ⟨bb, off, rfl, _⟩ := hx (by have h1 := HBL.out; have h2 := HBD.out; omega)
       subst hv
       obtain ⟨L, HLL⟩ : ∃ m, Hid (m = b.length) := ⟨_, rfl⟩
       rw [← HLL.out] at hr ⊢
       have HRD : Hid (Reads y1 (.slice (some ⟨bb, off, none⟩) L cp) b) := hr
       have HBW : Hid (Below w.heap.size w y1) := hz
       clear hr hz hcp hx)
    | (clear tk2; go_at_call 88; refine (jLook_any bb off L cp b HOB.out (by have h1 := HBL.out; have h2 := HBD.out; omega) _ (HK.out.below HBW.out HK.out.lt) HRD.out).mono ?_; rintro e0 y2 ⟨k, gen, vr, us, u, cl, rfl, hlk⟩
       obtain ⟨a1, n1, c1, hvr⟩ : ∃ a n c, vr = .slice a n c := by
         by_cases hg : gen = 0
         · exact ⟨_, _, _, (hlk.z hg).1⟩
         · obtain ⟨a, c, hv, _⟩ := (hlk.nz hg).1.readsL; exact ⟨_, _, _, hv⟩
       subst hvr
       have HLK : Hid (LookA y1 b k gen (.slice a1 n1 c1) us u cl y2) := hlk
       have HBW2 : Hid (Below w.heap.size w y2) := HBW.out.trans (hlk.bel.mono HBW.out.size)
       clear hlk)
    | (clear tk3; with_reducible refine wpSeq_allocCt ?_ ?_ ?_
       · rfl
       · rfl
       intro g4 y3 nn
       have H4 : Hid (Blk y3 g4 ctZ 138) := nn.blk
       have HG4 : Hid (w.heap.size ≤ g4 ∧ y2.heap.size ≤ g4) := ⟨Nat.le_trans HBW2.out.size nn.ge, nn.ge⟩
       have HBW3 : Hid (Below y2.heap.size y2 y3) := nn.below
       clear nn)
    | (clear tk4; with_reducible refine wpSeq_storeRow 138 (.tmp 4) (.tmp 19) g4 ctZ (ctC k gen (.slice a1 n1 c1) u) H4.out (len_ctZ _ _ _ _) (info_ct _ _ _ _) (ct_one _ _ _ _ _ _) ?_ ?_ ?_ ?_ ?_
       · rfl
       · rfl
       · rfl
       · rfl
       intro y4 hs4
       have HB4 : Hid (Blk y4 g4 (ctC k gen (.slice a1 n1 c1) u) 138) := hs4.blk
       have HBW4 : Hid (Below y2.heap.size y2 y4) := HBW3.out.trans (hs4.only.below HG4.out.2 HBW3.out.size)
       clear hs4))
  have HBY : Hid (Below y2.heap.size y2 (World.drew y4)) := HBW4.out.drew
  clear H4 HBW3 HBW4 HRD HDU
  refine wp_region_held_drew (S := fun wx => Blk wx g4 (ctC k gen (.slice a1 n1 c1) u) 138) (by kernel_rfl) HB4.out.drew ?_
  intro hS
  clear HB4
  change wpAnyH _ _ _ _ _ _ _ _ (World.drew y4)
  generalize World.drew y4 = y5 at *
  have HBZ : Hid (Below w.heap.size w y5) := HBW2.out.trans (HBY.out.mono HBW2.out.size)
  refine wpAnyH_take (i := 0) (v := .pointer (some ⟨gd, 0, none⟩)) rfl (by kernel_rfl) (by kernel_rfl) (by kernel_rfl) (fun _ _ _ h => h) (Or.inl ⟨by rfl, fun wx hx => by simp [go_sem]⟩) hS ?_
  simp only [Act.put, List.getElem_toArray, List.getElem_cons_zero, List.setIfInBounds_toArray, List.set_cons_zero, List.set_cons_succ]
  refine wpAnyH_take (i := 1) (v := wrF gd) rfl (by kernel_rfl) (by kernel_rfl) (by kernel_rfl) (fun _ _ _ h => h) (Or.inl ⟨by rfl, fun wx hx => by simp [go_sem, wrF]⟩) hS ?_
  simp only [Act.put, List.getElem_toArray, List.getElem_cons_succ, List.getElem_cons_zero, List.setIfInBounds_toArray, List.set_cons_zero, List.set_cons_succ]
  refine wpAnyH_take (i := 2) (v := .pointer (some ⟨gd, 0, none⟩)) rfl (by kernel_rfl) (by kernel_rfl) (by kernel_rfl) (fun _ _ _ h => h) (Or.inl ⟨by rfl, fun wx hx => by simp [go_sem]⟩) hS ?_
  simp only [Act.put, List.getElem_toArray, List.getElem_cons_succ, List.getElem_cons_zero, List.setIfInBounds_toArray, List.set_cons_zero, List.set_cons_succ]
  refine wpAnyH_take (i := 3) (v := syF gd) rfl (by kernel_rfl) (by kernel_rfl) (by kernel_rfl) (fun _ _ _ h => h) (Or.inl ⟨by rfl, fun wx hx => by simp [go_sem, syF]⟩) hS ?_
  simp only [Act.put, List.getElem_toArray, List.getElem_cons_succ, List.getElem_cons_zero, List.setIfInBounds_toArray, List.set_cons_zero, List.set_cons_succ]
  refine wpAnyH_take (i := 4) (v := .pointer (some ⟨gd, 0, none⟩)) rfl (by kernel_rfl) (by kernel_rfl) (by kernel_rfl) (fun _ _ _ h => h) (Or.inl ⟨by rfl, fun wx hx => by simp [go_sem]⟩) hS ?_
  simp only [Act.put, List.getElem_toArray, List.getElem_cons_succ, List.getElem_cons_zero, List.setIfInBounds_toArray, List.set_cons_zero, List.set_cons_succ]
  refine wpAnyH_take (i := 7) (v := .agg (ctC k gen (.slice a1 n1 c1) u).toArray) rfl (by kernel_rfl) (by kernel_rfl) (by kernel_rfl) (fun _ _ _ h => h) (Or.inl ⟨by rfl, fun wx hx => by exact load_run 138 (.tmp 4) rfl g4 0 rfl (ctC k gen (.slice a1 n1 c1) u) _ hx.range Tryz.underlying138 rfl (info_ct _ _ _ _)⟩) hS ?_
  simp only [Act.put, List.getElem_toArray, List.getElem_cons_succ, List.getElem_cons_zero, List.setIfInBounds_toArray, List.set_cons_zero, List.set_cons_succ]
  refine wpAnyH_enter 5 (by kernel_rfl) rfl (by rfl) (f := 22) (args := #[.pointer (some ⟨gd, 0, none⟩)]) (by simp [go_sem]) (HSZ.out _ HBZ.out) ?_
  rintro e0 y6 ⟨rfl, hy6⟩
  have hy7 := hy6.symm
  clear hy6
  subst hy7
  refine ⟨_, rfl, hS, ?_⟩
  simp only [Act.put, List.getElem_toArray, List.getElem_cons_succ, List.getElem_cons_zero, List.setIfInBounds_toArray, List.set_cons_zero, List.set_cons_succ]
  refine wpAnyH_take (i := 6) (v := .int .i64 (hs : Int)) rfl (by kernel_rfl) (by kernel_rfl) (by kernel_rfl) (fun _ _ _ h => h) (Or.inl ⟨by rfl, fun wx hx => by simp [go_sem, f2]⟩) hS ?_
  simp only [Act.put, List.getElem_toArray, List.getElem_cons_succ, List.getElem_cons_zero, List.setIfInBounds_toArray, List.set_cons_zero, List.set_cons_succ]
  refine wpAnyH_take (i := 8) (v := .agg (lgC gd hs 0 k gen (.slice a1 n1 c1) u).toArray) rfl (by kernel_rfl) (by kernel_rfl) (by kernel_rfl) (fun _ _ _ h => h) (Or.inl ⟨by rfl, fun wx hx => by exact build_op _ _ 144 [(0, .tmp 22), (1, .tmp 24), (2, .tmp 27), (4, .tmp 28)] rfl _ (built_lg _ _ _ _ _ _ _ _ _ rfl) _⟩) hS ?_
  simp only [Act.put, List.getElem_toArray, List.getElem_cons_succ, List.getElem_cons_zero, List.setIfInBounds_toArray, List.set_cons_zero, List.set_cons_succ]
  have hz6 := below_alloc y5 (.cells (lgC gd hs 0 k gen (.slice a1 n1 c1) u).toArray 144)
  have hb6 : Blk (y5.alloc (.cells (lgC gd hs 0 k gen (.slice a1 n1 c1) u).toArray 144)) y5.heap.size (lgC gd hs 0 k gen (.slice a1 n1 c1) u) 144 := Blk.new _ _ _
  have hS6 := hS.below hz6 hS.lt
  refine wpAnyH_step 9 (.pointer (some ⟨y5.heap.size, 0, none⟩)) (y5.alloc (.cells (lgC gd hs 0 k gen (.slice a1 n1 c1) u).toArray 144)) (by kernel_rfl) rfl (by rfl) (box_agg _ _ 144 (.tmp 29) _ rfl rfl _) hS6 ?_
  clear hS
  have hS := hS6
  clear hS6
  simp only [Act.put, List.getElem_toArray, List.getElem_cons_succ, List.getElem_cons_zero, List.setIfInBounds_toArray, List.set_cons_zero, List.set_cons_succ]
  generalize y5.alloc (.cells (lgC gd hs 0 k gen (.slice a1 n1 c1) u).toArray 144) = y6 at *
  obtain ⟨lg, HLG⟩ : ∃ g, Hid (g = y5.heap.size) := ⟨_, rfl⟩
  rw [← HLG.out] at hb6 ⊢
  refine wpAnyH_take (i := 10) (v := .pointer (some ⟨lg, 0, none⟩)) rfl (by kernel_rfl) (by kernel_rfl) (by kernel_rfl) (fun _ _ _ h => h) (Or.inl ⟨by rfl, fun wx hx => by simp [go_sem]⟩) hS ?_
  simp only [Act.put, List.getElem_toArray, List.getElem_cons_succ, List.getElem_cons_zero, List.setIfInBounds_toArray, List.set_cons_zero, List.set_cons_succ]
  refine wpAnyH_done (by kernel_rfl) ?_ _
  have HLB : Hid (Blk y6 lg (lgC gd hs 0 k gen (.slice a1 n1 c1) u) 144) := hb6
  have HBX : Hid (Below w.heap.size w y6) := HBZ.out.trans (hz6.mono HBZ.out.size)
  have HBV : Hid (Below y2.heap.size y2 y6) := HBY.out.trans (hz6.mono HBY.out.size)
  have d1 : y6.cell? ⟨g4, 1, none⟩ = some (.int .u64 (gen : Int)) := hS.cell 1
  have d2 : y6.cell? ⟨g4, 2, none⟩ = some (.slice a1 n1 c1) := hS.cell 2
  have HLW : Hid (w.heap.size ≤ lg) := by rw [HLG.out]; exact HBZ.out.size
  clear hb6 hz6 hS HBY HBZ HLG f2 f1 HSZ
  have HNP : Hid (¬ P lg) := fun h => by have h1 := HLT.out lg h; have h2 := HLW.out; omega
  have HD6 : Hid (DkIs y6 gd P D) := HDK.out.same14 (fun z hz => HBX.out.block z (HLT.out z hz))
  have HK6 : Hid (KOk y6) := HK.out.below HBX.out HK.out.lt
  have HPB : Hid (pickB (dumpD D) = (k, gen)) := by show _ = _; rw [← HB.out]; exact HLK.out.pk
  have HK1 : Hid (k ≤ 1 ∧ gen < 18446744073709551616) := by have h := pick_lt (dumpD D); rw [HPB.out] at h; exact ⟨h.2, h.1⟩
  have HMV : Hid (∀ {W P'}, Mut (Un P (fun z => z = lg)) y6 W → Grew y6 P P' → Mut P w W ∧ Grew w P P') := fun {W P'} hm hg => ⟨(mut_below HBX.out P).trans (fun z hz h => h.elim id (fun e => absurd hz (by have := HLW.out; omega))) hm, fun z hz => (hg z hz).imp id (fun h => Nat.le_trans HBX.out.size h)⟩
  by_cases hg : gen = 0
  · subst hg
    have HG : Hid (openG D = (anewS hs 0 1 [], ⟨0, 1, []⟩)) := by show _ = _; rw [openG, HPB.out, if_pos rfl, HHH.out]
    have HXE : Hid (X = (runJ D (anewS hs 0 1 [])).2 ∧ DX = (runJ D (anewS hs 0 1 [])).1 ∧ JX = ⟨0, 1, []⟩) := by rw [HX.out, HDX.out, HJX.out, HG.out]; exact ⟨rfl, rfl, rfl⟩
    have HNX : Hid (Calls Tryz.prog 91 #[.pointer (some ⟨lg, 0, none⟩), .int .i64 0, .int .u64 1, .slice none 0 0] y6 fun e w' => e = .returned (.int .i64 X) ∧ ∃ P', DkIs w' gd P' DX ∧ (X = 0 → Blk w' lg (lgC gd hs 0 0 1 (.slice none 0 0) 1) 144) ∧ Mut (Un P (fun z => z = lg)) y6 w' ∧ Grew y6 P P') := by
      rw [HXE.out.1, HXE.out.2.1]
      exact jBegin_any (w := y6) hs k 0 u 0 1 _ (.slice none 0 0) [] HK6.out HD6.out HWT.out HLB.out HNP.out (by decide) (by decide) (by have := HBD.out; omega) HBD.out.2.1 (by have h1 := HBD.out; show 1 + 0 ≤ hs; omega) (fun W _ => readsL_nil W)
    have tk0 : Hid True := trivial
    go_wp2_with (first
      | (clear tk0; go_at_call 91; refine HNX.out.mono ?_; rintro e0 y7 ⟨rfl, P3, hd3, hl3, hm3, hg3⟩
         have HR3 : Hid (DkIs y7 gd P3 DX ∧ (X = 0 → Blk y7 lg (lgC gd hs 0 0 1 (.slice none 0 0) 1) 144) ∧ Mut P w y7 ∧ Grew w P P3) := ⟨hd3, hl3, HMV.out hm3 hg3⟩
         clear hd3 hl3 hm3 hg3))
    rotate_left
    · refine bodyPost_ret (results_tmp2 rfl _ _ _) rfl ?_
      have hx0 : X = 0 := by first | assumption | (rename_i h; simpa using h)
      have hlm : LgM y7 lg gd n (.slice none 0 0) [] JX := by
        rw [HXE.out.2.2]
        exact ⟨by rw [← HHS.out]; exact HR3.out.2.1 hx0, TxJ.nil (Nat.zero_le _)⟩
      refine ⟨P3, _, by rw [hx0]; rfl, HR3.out.1, HR3.out.2.2.1, HR3.out.2.2.2, fun _ => ⟨lg, _, rfl, ⟨_, _, hlm, rfl⟩, fun z hz => ⟨?_, pk_ap HR3.out.1 hlm z hz⟩⟩⟩
      rcases hz with rfl | h | ⟨uu, huu, h⟩
      · exact HLW.out
      · cases h
      · cases huu
    · refine bodyPost_ret (results_tmp2 rfl _ _ _) rfl ?_
      have hx0 : ¬ X = 0 := by first | assumption | (rename_i h; simpa using h)
      exact ⟨P3, _, rfl, HR3.out.1, HR3.out.2.2.1, HR3.out.2.2.2, fun h => absurd h hx0⟩
  · have hgz : ¬ ((gen : Int) = 0) := by omega
    obtain ⟨half, HHF⟩ : ∃ h, Hid (h = halfB b k) := ⟨_, rfl⟩
    obtain ⟨l, HL⟩ : ∃ l, Hid (l = (recsOf gen half).1) := ⟨_, rfl⟩
    have HTX : Hid (TxJ y1.heap.size (.slice a1 n1 c1) us l y6) := by
      have h := (HLK.out.nz hg).1.next HBV.out
      rw [← HHF.out, ← HL.out] at h
      exact h
    have HUU : Hid (u = 1 + secL l ∧ 1 + secL l ≤ hs) := by
      have h1 := (HLK.out.nz hg).2.1
      have h2 : half.length = 64 * hs := by rw [HHF.out, len_half HK1.out.1, HNH.out]
      have h3 := recs_inv (gen := gen) (half := half) (half.length / 64) 64 0 (by have := HBD.out; omega)
      rw [← HHF.out] at h1
      have h4 : (recsOf gen half).2 = 64 + sizeL (recsOf gen half).1 := h3.2.1
      have h5 : (recsOf gen half).2 ≤ half.length := h3.2.2.1
      rw [← HL.out, sizeL_eq] at h4
      exact ⟨by omega, by omega⟩
    have HCL : Hid (cl = decide (∀ z ∈ half.drop (recsOf gen half).2, z = 0)) := by show _ = _; rw [HHF.out]; exact (HLK.out.nz hg).2.2
    have HBQ : Hid (w.heap.size ≤ y1.heap.size) := HBW.out.size
    have HQG : Hid (∀ z, lgQ lg (.slice a1 n1 c1) us z → w.heap.size ≤ z) := fun z hz => by
      rcases hz with rfl | h | ⟨uu, huu, h⟩
      · exact HLW.out
      · exact Nat.le_trans HBQ.out (HTX.out.ge_all.1 z h).1
      · exact Nat.le_trans HBQ.out (HTX.out.ge_all.2 uu huu z h).1
    have hGG : openG D = if ∀ z ∈ half.drop (recsOf gen half).2, z = 0 then ([], ⟨k, gen, l⟩) else (anewS hs (1 - k) (gN gen) l, ⟨1 - k, gN gen, l⟩) := by
      rw [openG, HPB.out, if_neg hg, HHH.out, ← HB.out, ← HHF.out, ← HL.out]
    clear HLK HBW HBV
    cases cl with
    | true =>
      have HXE : Hid (X = 0 ∧ DX = D ∧ JX = ⟨k, gen, l⟩) := by
        rw [HX.out, HDX.out, HJX.out, hGG, if_pos (of_decide_eq_true HCL.out.symm)]
        exact ⟨rfl, rfl, rfl⟩
      clear hGG HCL
      go_wp2
      refine bodyPost_ret (results_tmp2 rfl _ _ _) rfl ?_
      have hlm : LgM y6 lg gd n (.slice a1 n1 c1) us JX := by
        rw [HXE.out.2.2]
        exact ⟨by rw [← HHS.out]; show Blk y6 lg (lgC gd hs 0 k gen _ (1 + secL l)) _; rw [← HUU.out.1]; exact HLB.out, HTX.out.lower (Nat.zero_le _)⟩
      refine ⟨P, _, by rw [HXE.out.1]; rfl, by rw [HXE.out.2.1]; exact HD6.out, mut_below HBX.out P, Grew.refl _ _, fun _ => ⟨lg, _, rfl, ⟨_, _, hlm, rfl⟩, fun z hz => ⟨HQG.out z hz, pk_ap HD6.out hlm z hz⟩⟩⟩
    | false =>
      have HXE : Hid (X = (runJ D (anewS hs (1 - k) (gN gen) l)).2 ∧ DX = (runJ D (anewS hs (1 - k) (gN gen) l)).1 ∧ JX = ⟨1 - k, gN gen, l⟩) := by
        rw [HX.out, HDX.out, HJX.out, hGG, if_neg (of_decide_eq_false HCL.out.symm)]
        exact ⟨rfl, rfl, rfl⟩
      clear hGG HCL
      have HNR : Hid (∀ z, w.heap.size ≤ z → z ≠ lg → ¬ Un P (fun z => z = lg) z) := fun z hz hn h => h.elim (fun hp => absurd (HLT.out z hp) (by omega)) hn
      have HNV : Hid (∀ z, (Value.slice a1 n1 c1).ownBlock = some z → z ≠ lg) := fun z hz e => by
        subst e
        exact ownX_ne_lg HTX.out.own HLB.out hz
      have HNU : Hid (∀ uu ∈ us, ∀ z, uu.ownBlock = some z → z ≠ lg) := fun uu huu z hz e => by
        subst e
        obtain ⟨i, hi, rfl⟩ := List.getElem_of_mem huu
        exact ownB_ne_lg (HTX.out.good i _ (List.getElem?_eq_getElem hi)) HLB.out hz
      have HNX : Hid (Calls Tryz.prog 92 #[.pointer (some ⟨lg, 0, none⟩), .slice a1 n1 c1] y6 fun e w' => e = .returned (.int .i64 X) ∧ ∃ P', DkIs w' gd P' DX ∧ (X = 0 → Blk w' lg (lgC gd hs 0 (1 - k) (gN gen) (.slice a1 n1 c1) (1 + secL l)) 144) ∧ Mut (Un P (fun z => z = lg)) y6 w' ∧ Grew y6 P P') := by
        rw [HXE.out.1, HXE.out.2.1]
        exact jNext_any (w := y6) hs k gen u _ (.slice a1 n1 c1) l HK6.out HD6.out HWT.out HLB.out HNP.out HK1.out.1 (by have := HBD.out; omega) HBD.out.2.1 HUU.out.2 (HTX.out.stN (fun z hz => HNR.out z (Nat.le_trans HBQ.out (HTX.out.ge_all.1 z hz).1) (HNV.out z hz)) (fun uu huu z hz => HNR.out z (Nat.le_trans HBQ.out (HTX.out.ge_all.2 uu huu z hz).1) (HNU.out uu huu z hz)))
      have tk0 : Hid True := trivial
      go_wp2_with (first
        | (clear tk0; go_at_call 92; refine HNX.out.mono ?_; rintro e0 y7 ⟨rfl, P3, hd3, hl3, hm3, hg3⟩
           have HR3 : Hid (DkIs y7 gd P3 DX ∧ (X = 0 → Blk y7 lg (lgC gd hs 0 (1 - k) (gN gen) (.slice a1 n1 c1) (1 + secL l)) 144) ∧ Mut P w y7 ∧ Grew w P P3) := ⟨hd3, hl3, HMV.out hm3 hg3⟩
           have HM3 : Hid (Mut (Un P (fun z => z = lg)) y6 y7) := hm3
           clear hd3 hl3 hm3 hg3))
      rotate_left
      · refine bodyPost_ret (results_tmp2 rfl _ _ _) rfl ?_
        have hx0 : X = 0 := by first | assumption | (rename_i h; simpa using h)
        have htx : TxJ 0 (.slice a1 n1 c1) us l y7 := (HTX.out.lower (Nat.zero_le _)).sameQ HM3.out.size (fun z hz => HM3.out.block z (HTX.out.ge_all.1 z hz).2 (HNR.out z (Nat.le_trans HBQ.out (HTX.out.ge_all.1 z hz).1) (HNV.out z hz))) (fun uu huu z hz => HM3.out.block z (HTX.out.ge_all.2 uu huu z hz).2 (HNR.out z (Nat.le_trans HBQ.out (HTX.out.ge_all.2 uu huu z hz).1) (HNU.out uu huu z hz)))
        have hlm : LgM y7 lg gd n (.slice a1 n1 c1) us JX := by
          rw [HXE.out.2.2]
          exact ⟨by rw [← HHS.out]; exact HR3.out.2.1 hx0, htx⟩
        exact ⟨P3, _, by rw [hx0]; rfl, HR3.out.1, HR3.out.2.2.1, HR3.out.2.2.2, fun _ => ⟨lg, _, rfl, ⟨_, _, hlm, rfl⟩, fun z hz => ⟨HQG.out z hz, pk_ap HR3.out.1 hlm z hz⟩⟩⟩
      · refine bodyPost_ret (results_tmp2 rfl _ _ _) rfl ?_
        have hx0 : ¬ X = 0 := by first | assumption | (rename_i h; simpa using h)
        exact ⟨P3, _, rfl, HR3.out.1, HR3.out.2.2.1, HR3.out.2.2.2, fun h => absurd h hx0⟩
end Go.Proofs.YteklnooagjkclaaGreatDoor
/- The store opened anew; a batch that fits into the journal (layer 15). -/
namespace Go.Proofs.YteklnooagjkclaaGreatDoor
open Go.RowKit
set_option maxRecDepth 100000
theorem dump_zero (m : Nat) : dumpD (zeroD m) = List.replicate (64 * m) 0 := by rw [zeroD_load]; exact dump_idle _
theorem rdl_zero (m : Nat) : rdL14 (dumpD (zeroD m)) = [] := by
  unfold rdL14
  split
  · unfold readJ
    rw [dump_zero, pick_zero]
    rfl
  · rfl
theorem DkIs.ltS {w : World} {g : Nat} {P : Nat → Prop} {D : DkT} (h : DkIs w g P D) : ∀ k, P k → k < w.heap.size := by
  obtain ⟨gs, vw, fu, lf, hm, hP⟩ := h
  subst hP
  exact hm.lt
theorem LgJ.ltS {w : World} {lg gd n : Nat} {Q : Nat → Prop} {J : JnT} (h : LgJ w lg Q gd n J) : ∀ k, Q k → k < w.heap.size := by
  obtain ⟨vr, us, hm, hQ⟩ := h
  subst hQ
  exact hm.lt
theorem LgJ.sameS {w w' : World} {lg gd n : Nat} {Q : Nat → Prop} {J : JnT} (h : LgJ w lg Q gd n J) (hs : w.heap.size ≤ w'.heap.size) (hq : ∀ k, Q k → w'.heap[k]? = w.heap[k]?) : LgJ w' lg Q gd n J := by
  obtain ⟨vr, us, hm, hQ⟩ := h
  subst hQ
  exact ⟨vr, us, hm.same hs hq, rfl⟩
theorem Pk.belowS {w w' : World} {gd lg : Nat} {P Q : Nat → Prop} {D : DkT} {J : JnT} (h : Pk LgJ w gd lg P Q D J) (hb : Below w.heap.size w w') : Pk LgJ w' gd lg P Q D J := ⟨h.dk.belowS hb, h.lg.sameS hb.size (fun k hk => hb.block k (h.lg.ltS k hk)), h.ap⟩
theorem StM.below {w w' : World} {gs gd lg gm n : Nat} {P Q : Nat → Prop} {V : Bs → Value} {m : KM} {D : DkT} {J : JnT} (h : StM w gs gd lg gm n P Q V m D J) (hb : Below w.heap.size w w') : StM w' gs gd lg gm n P Q V m D J :=
  ⟨h.sb.below hb h.sb.lt, h.pk.belowS hb, h.mp.same (hb.block gm h.mp.lt), fun s t ht => ⟨(h.tx s t ht).1.below hb, (h.tx s t ht).2⟩, h.ns, h.nm⟩
set_option maxRecDepth 100000 in
set_option maxHeartbeats 2000000 in
theorem sOpen_zero {w : World} {gd : Nat} {P : Nat → Prop} (m : Nat) (hK : KOk w) (hd : DkIs w gd P (zeroD m)) (h8 : 8 ≤ m) (h9 : m ≤ 100) :
    Calls Tryz.prog 28 #[.pointer (some ⟨gd, 0, none⟩)] w fun e w' => ∃ gs lg gm P' Q, e = .returned (.tuple #[.pointer (some ⟨gs, 0, none⟩), .int .i64 0]) ∧ StM w' gs gd lg gm 0 P' Q nilV [] (openD (zeroD m)) ⟨0, 1, []⟩ ∧ Mut P w w' ∧ Grew w P P' ∧ (∀ k, Q k → w.heap.size ≤ k) ∧ w.heap.size ≤ gs ∧ w.heap.size ≤ gm := by
  obtain ⟨z1, z2, z3, z4⟩ := open_zero h8 (Nat.le_trans h9 (by decide))
  have HLD : Hid (Calls Tryz.prog 61 #[.pointer (some ⟨gd, 0, none⟩)] w fun e w' => ∃ gm, e = .returned (.tuple #[.map (some gm), .bool true]) ∧ MapM w' gm 0 nilV [] ∧ Below w.heap.size w w' ∧ w.heap.size ≤ gm) := sLoad_empty hK hd (Nat.zero_le _) (by rw [dump_zero, List.length_replicate]; omega) (rdl_zero m)
  have HOP : Hid (∀ W, KOk W → DkIs W gd P (zeroD m) → Calls Tryz.prog 63 #[.pointer (some ⟨gd, 0, none⟩)] W fun e w' => ∃ P' lg Q, e = .returned (.tuple #[.pointer (some ⟨lg, 0, none⟩), .int .i64 0]) ∧ Pk LgJ w' gd lg P' Q (openD (zeroD m)) ⟨0, 1, []⟩ ∧ Mut P W w' ∧ Grew W P P' ∧ ∀ k, Q k → W.heap.size ≤ k) := fun W hk hd2 => by
    have hn8 : ¬ sizeD (zeroD m) < 8 := by rw [size_zero]; omega
    have hg := openG_eq (D := zeroD m) (by rw [dump_zero, pick_zero]; decide)
    have hok : okD (zeroD m) := okD_zero (by omega) (by omega)
    refine (jOpen_any hk hd2 rfl (by rw [size_zero]; omega) (by rw [size_zero]; omega)).mono (fun e w' h => ?_)
    obtain ⟨P', lv, h1, h2⟩ := h
    rw [hg] at h1 h2
    have ex : (runJ (zeroD m) (openS (zeroD m)).1).2 = 0 := by have := z1; rw [show openX (zeroD m) = (runJ (zeroD m) (openS (zeroD m)).1).2 from if_neg hn8] at this; exact this
    have ed : (runJ (zeroD m) (openS (zeroD m)).1).1 = openD (zeroD m) := (if_neg hn8).symm
    obtain ⟨lg, Q, e1, e2, e3⟩ := h2.lg ex
    rw [ex, e1] at h1
    have h3 := h2.dk
    rw [ed] at h3
    rw [z2] at e2
    have e4 : LgJ w' lg Q gd (sizeD (openD (zeroD m))) ⟨0, 1, []⟩ := by rw [z4, ← size_zero m]; exact e2
    exact ⟨P', lg, Q, h1, ⟨h3, e4, fun k hk => (e3 k hk).2⟩, h2.mv, h2.gr, fun k hk => (e3 k hk).1⟩
  have HD : Hid (DkIs w gd P (zeroD m) ∧ KOk w) := ⟨hd, hK⟩
  clear hd hK z1 z2 z3 z4 h8 h9
  go_enter Tryz.func28, Tryz.ntmps28
  have tk0 : Hid True := trivial
  have tk1 : Hid True := trivial
  have tk2 : Hid True := trivial
  go_wp2_with (first
    | (clear tk0; go_at_call 61; refine (HLD.out).mono ?_; rintro e0 y0 ⟨gm, rfl, hm0, bl0, hg0⟩
       have HM : Hid (MapM y0 gm 0 nilV [] ∧ Below w.heap.size w y0 ∧ w.heap.size ≤ gm) := ⟨hm0, bl0, hg0⟩
       clear hm0 bl0 hg0)
    | (clear tk1; go_at_call 63; refine (HOP.out y0 (HD.out.2.below HM.out.2.1 HD.out.2.lt) (HD.out.1.belowS HM.out.2.1)).mono ?_; rintro e1 y1 ⟨P1, lg, Q, rfl, hpk, mu1, gr1, hq1⟩
       have HPK : Hid (Pk LgJ y1 gd lg P1 Q (openD (zeroD m)) ⟨0, 1, []⟩) := hpk
       have HNP : Hid (¬ P gm) := fun h => absurd (HD.out.1.ltS gm h) (by have := HM.out.2.2; omega)
       have HM1 : Hid (MapM y1 gm 0 nilV []) := HM.out.1.same (mu1.block gm HM.out.1.lt HNP.out)
       have HMU : Hid (Mut P w y1 ∧ Grew w P P1 ∧ ∀ k, Q k → y0.heap.size ≤ k) := ⟨(mut_below HM.out.2.1 P).trans (fun _ _ h => h) mu1, (Grew.refl w P).trans HM.out.2.1.size gr1, hq1⟩
       have HNU : Hid (¬ Un P1 Q gm) := fun h => by
         rcases h with h | h
         · rcases gr1 gm h with h2 | h2
           · exact HNP.out h2
           · exact absurd HM.out.1.lt (by omega)
         · exact absurd HM.out.1.lt (by have := hq1 gm h; omega)
       clear hpk mu1 gr1 hq1)
    | (clear tk2; with_reducible refine wpSeq_boxW 99 (.tmp 33) [.pointer (some ⟨lg, 0, none⟩), .map (some gm)] ?_ ?_ ?_ ?_
       · rfl
       · rfl
       · rfl
       intro gs y2 nn
       have HF : Hid (StM y2 gs gd lg gm 0 P1 Q nilV [] (openD (zeroD m)) ⟨0, 1, []⟩) := ⟨nn.blk, HPK.out.belowS nn.below, HM1.out.same (nn.below.block gm HM1.out.lt), fun s t h => (by cases h), fun h => by
         rcases h with h | h
         · exact absurd (HPK.out.dk.ltS gs h) (by have := nn.ge; omega)
         · exact absurd (HPK.out.lg.ltS gs h) (by have := nn.ge; omega), HNU.out⟩
       have HMU2 : Hid (Mut P w y2 ∧ w.heap.size ≤ gs) := ⟨HMU.out.1.trans (fun _ _ h => h) (mut_below nn.below P), Nat.le_trans HMU.out.1.size nn.ge⟩
       clear nn))
  refine bodyPost_ret (results_tmp2 rfl _ _ _) rfl ?_
  exact ⟨gs, lg, gm, P1, Q, rfl, HF.out, HMU2.out.1, HMU.out.2.1, fun k hk => Nat.le_trans HM.out.2.1.size (HMU.out.2.2 k hk), HMU2.out.2, HM.out.2.2⟩
end Go.Proofs.YteklnooagjkclaaGreatDoor
/- The store: a batch that fits is put into the journal and done (layer 15). -/
namespace Go.Proofs.YteklnooagjkclaaGreatDoor
open Go.RowKit
set_option maxRecDepth 100000
theorem StM.lt {w : World} {gs gd lg gm n : Nat} {P Q : Nat → Prop} {V : Bs → Value} {m : KM} {D : DkT} {J : JnT} (h : StM w gs gd lg gm n P Q V m D J) : ∀ k, Un P Q k → k < w.heap.size := fun k hk => hk.elim (h.pk.dk.ltS k) (h.pk.lg.ltS k)
theorem StM.ltM {w : World} {gs gd lg gm n : Nat} {P Q : Nat → Prop} {V : Bs → Value} {m : KM} {D : DkT} {J : JnT} (h : StM w gs gd lg gm n P Q V m D J) : ∀ k, Um P Q gm k → k < w.heap.size := fun k hk => hk.elim (h.lt k) (fun e => by rw [e]; exact h.mp.lt)
theorem StM.moved {w w' : World} {gs gd lg gm n : Nat} {P Q P' Q' : Nat → Prop} {V : Bs → Value} {m : KM} {D D' : DkT} {J J' : JnT} (h : StM w gs gd lg gm n P Q V m D J) (hm : Mut (Un P Q) w w') (hg : Grew w (Un P Q) (Un P' Q')) (hp : Pk LgJ w' gd lg P' Q' D' J') : StM w' gs gd lg gm n P' Q' V m D' J' :=
  ⟨hm.blk h.sb h.ns, hp, h.mp.same (hm.block gm h.mp.lt h.nm), fun s t ht => ⟨(h.tx s t ht).1.go ⟨hm.os, hm.tape, hm.output, hm.size, fun k hk hn => hm.block k hk (fun hx => hn (Or.inl hx))⟩ (fun k hk hx => hx.elim (fun hx => Or.inl (hg.old k hk hx)) Or.inr), (h.tx s t ht).2⟩, fun hx => h.ns (hg.old gs h.sb.lt hx), fun hx => h.nm (hg.old gm h.mp.lt hx)⟩
set_option maxRecDepth 100000 in
set_option maxHeartbeats 2000000 in
theorem sRecord_fit {w : World} {gs gd lg gm n : Nat} {P Q : Nat → Prop} {V : Bs → Value} {m : KM} {D : DkT} {J : JnT} (h : StM w gs gd lg gm n P Q V m D J) (hK : KOk w) (hok : okJ D J) (v : Value) (l : List ActT) (hr : ReadsA w v l) (hz : okZ l) (hf : (batchB l).length ≤ roomZ J.l (sizeD D)) :
    Calls Tryz.prog 53 #[.pointer (some ⟨gs, 0, none⟩), v] w fun e w' => e = .returned (.int .i64 (appX J D (batchB l))) ∧ ∃ P' Q', Mut (Un P Q) w w' ∧ Grew w (Un P Q) (Un P' Q') ∧ (appX J D (batchB l) ≠ 14 → StM w' gs gd lg gm n P' Q' V m (appD J D (batchB l)) (appJ J D (batchB l))) := by
  obtain ⟨nr, HNR⟩ : ∃ x, Hid (x = roomZ J.l (sizeD D)) := ⟨_, rfl⟩
  rw [← HNR.out] at hf
  have h4 : Calls Tryz.prog 78 #[.pointer (some ⟨lg, 0, none⟩)] w fun e w' => e = .returned (.int .i64 (nr : Int)) ∧ Below w.heap.size w w' := by
    obtain ⟨vr, us, hm, hQ⟩ := id h.pk.lg
    have h1 := hok.fit
    have h2 := hok.hi
    have h3 := sizeL_eq J.l
    unfold hsD at h1
    have h4 := jRoom_any hm.lb (by omega) (by omega)
    rw [show min 1048576 (64 * (sizeD D / 2 - (1 + secL J.l)) - 57) = nr from by rw [HNR.out, roomZ]; omega] at h4
    exact h4
  have HRM : Hid (Calls Tryz.prog 78 #[.pointer (some ⟨lg, 0, none⟩)] w fun e w' => e = .returned (.int .i64 (nr : Int)) ∧ Below w.heap.size w w') := h4
  have hxl : (batchB l).length ≤ 100000 := by
    have h2 := hok.hi
    have h3 := HNR.out
    rw [roomZ] at h3
    omega
  obtain ⟨x, HX⟩ : ∃ x, Hid (x = batchB l) := ⟨_, rfl⟩
  have HWI : Hid (∀ W, ReadsA W v l → Calls Tryz.prog 46 #[v, .int .i64 (nr : Int)] W fun e w' => ∃ vb, e = .returned (.tuple #[vb, .bool true]) ∧ OwnB w' W.heap.size vb x ∧ Below W.heap.size W w') := fun W hr => by
    refine (sWithin_any v l (nr : Int) W hr hz).mono (fun e w' h => ?_)
    obtain ⟨vb, e1, e2, e3⟩ := h
    have hle : ((batchB l).length : Int) ≤ (nr : Int) := by omega
    rw [decide_eq_true hle] at e1
    rw [HX.out]
    exact ⟨vb, e1, e2 hle, e3⟩
  rw [← HX.out] at hxl ⊢
  obtain ⟨ex, HEX⟩ : ∃ e, Hid (e = appX J D x) := ⟨_, rfl⟩
  have HAP : Hid (∀ W vb, StM W gs gd lg gm n P Q V m D J → KOk W → Sta (Un P Q) W (fun X => Reads X vb x) → Calls Tryz.prog 79 #[.pointer (some ⟨lg, 0, none⟩), vb] W fun e w' => e = .returned (.int .i64 ex) ∧ ∃ P' Q', Mut (Un P Q) W w' ∧ Grew W (Un P Q) (Un P' Q') ∧ (ex ≠ 14 → StM w' gs gd lg gm n P' Q' V m (appD J D x) (appJ J D x))) := fun W vb hs hk hb => by
    refine (jAppend_any vb x hk hs.pk hok hxl hb).mono (fun e w' h => ?_)
    obtain ⟨h1, P', Q', h2, h3, h4, h5⟩ := h
    rw [← HEX.out] at h1 h5
    exact ⟨h1, P', Q', h3, h4, fun he => hs.moved h3 h4 (h5 he)⟩
  rw [← HEX.out]
  have HS : Hid (StM w gs gd lg gm n P Q V m D J) := h
  have HR : Hid (ReadsA w v l ∧ KOk w) := ⟨hr, hK⟩
  have c0 : w.cell? ⟨gs, 0, none⟩ = some (.pointer (some ⟨lg, 0, none⟩)) := h.sb.cell 0
  clear h hK hok hr hz hf h4 hxl
  go_enter Tryz.func53, Tryz.ntmps53
  have tk0 : Hid True := trivial
  have tk1 : Hid True := trivial
  have tk2 : Hid True := trivial
  go_wp2_with (first
    | (clear tk0; go_at_call 78; refine (HRM.out).mono ?_; rintro e0 y0 ⟨rfl, bl0⟩
       have HS0 : Hid (StM y0 gs gd lg gm n P Q V m D J) := HS.out.below bl0
       have HB0 : Hid (Below w.heap.size w y0) := bl0
       clear bl0)
    | (clear tk1; go_at_call 46; refine (HWI.out y0 (HR.out.1.below HB0.out)).mono ?_; rintro e1 y1 ⟨vb, rfl, ow1, bl1⟩
       have HST : Hid (Sta (Un P Q) y1 (fun X => Reads X vb x)) := ow1.st (fun k hk => HS0.out.lt k hk)
       have HS1 : Hid (StM y1 gs gd lg gm n P Q V m D J) := HS0.out.below bl1
       have HB1 : Hid (Below w.heap.size w y1) := HB0.out.trans (bl1.mono HB0.out.size)
       have c1 : y1.cell? ⟨gs, 0, none⟩ = some (.pointer (some ⟨lg, 0, none⟩)) := HS1.out.sb.cell 0
       clear ow1 bl1)
    | (clear tk2; go_at_call 79; refine (HAP.out y1 vb HS1.out (HR.out.2.below HB1.out HR.out.2.lt) HST.out).mono ?_; rintro e2 y2 ⟨rfl, P', Q', mu, gr, hs2⟩
       have HF : Hid (Mut (Un P Q) w y2 ∧ Grew w (Un P Q) (Un P' Q') ∧ (ex ≠ 14 → StM y2 gs gd lg gm n P' Q' V m (appD J D x) (appJ J D x))) := ⟨(mut_below HB1.out _).trans (fun _ _ h => h) mu, fun k hk => (gr k hk).elim Or.inl (fun h => Or.inr (Nat.le_trans HB1.out.size h)), hs2⟩
       clear mu gr hs2))
  go_ret
  exact ⟨rfl, P', Q', HF.out⟩
theorem OwnA.rdp {W : World} {base : Nat} {v : Value} {ps : List (ActT × Value)} (h : OwnA W base v ps) : RdP W v ps := by
  obtain ⟨h1, h2⟩ := id h.row
  rcases h2 with ⟨rfl, h0⟩ | ⟨g, cap, cur, rfl, hg, hh, hc, hm, hs, ht⟩
  · exact ⟨none, 0, by rw [h0], fun h => absurd h (by omega)⟩
  · refine ⟨_, cap, rfl, fun _ => ⟨g, 0, rfl, fun j p hp i u hu => ?_⟩⟩
    have hr := rowP_at ps j i p u hp hu
    have hi : j * 3 + i < (rowP ps).length := (List.getElem?_eq_some_iff.1 hr).1
    rw [rowP_len] at hi
    rw [cell_of_row W g (0 + j * 3 + i) cur _ (0, 0) hh, Nat.zero_add]
    rw [← ht, List.getElem?_take_of_lt hi] at hr
    simpa using hr
theorem RdP.below {w w' : World} {v : Value} {ps : List (ActT × Value)} (h : RdP w v ps) (hb : Below w.heap.size w w') : RdP w' v ps := by
  obtain ⟨ad, cap, h1, h2⟩ := h
  refine ⟨ad, cap, h1, fun hp => ?_⟩
  obtain ⟨b, off, h3, h4⟩ := h2 hp
  exact ⟨b, off, h3, fun j p hj => range_below (h4 j p hj) hb (block_lt_of_cell (h4 j p hj 0 _ rfl))⟩
/-- the store behind a batch that was done to its map -/
theorem StM.done {w w' : World} {gs gd lg gm n n' : Nat} {P Q : Nat → Prop} {V V' : Bs → Value} {m m' : KM} {D : DkT} {J : JnT} (h : StM w gs gd lg gm n P Q V m D J) (hd : DoS w gm n' (fun v t => Sta (Um P Q gm) w (fun W => Reads W v t) ∧ t.length ≤ 1048576) m' V' w') : StM w' gs gd lg gm n' P Q V' m' D J := by
  have hne : ¬ gs = gm := fun e => h.mp.ne h.sb e.symm
  refine ⟨hd.mu.blk h.sb hne, ⟨h.pk.dk.same14 (fun k hk => hd.mu.block k (h.pk.dk.ltS k hk) (fun e => h.nm (by rw [← e]; exact Or.inl hk))), h.pk.lg.sameS hd.mu.size (fun k hk => hd.mu.block k (h.pk.lg.ltS k hk) (fun e => h.nm (by rw [← e]; exact Or.inr hk))), h.pk.ap⟩, hd.mp, fun s t ht => ?_, h.ns, h.nm⟩
  obtain ⟨h1, h2⟩ := hd.kk s t ht
  exact ⟨h1.go ⟨hd.mu.os, hd.mu.tape, hd.mu.output, hd.mu.size, fun k hk hn => hd.mu.block k hk (fun e => hn (Or.inr e))⟩ (fun _ _ h => h), h2⟩
set_option maxRecDepth 100000 in
set_option maxHeartbeats 2000000 in
theorem sApply_ok {w : World} {gs gd lg gm n : Nat} {P Q : Nat → Prop} {V : Bs → Value} {m : KM} {D : DkT} {J : JnT} (h : StM w gs gd lg gm n P Q V m D J) (hK : KOk w) (hok : okJ D J) (v : Value) (ps : List (ActT × Value)) (hst : Sta (Un P Q) w (fun W => RdP W v ps ∧ (∀ p ∈ ps, Reads W p.2 p.1.data) ∧ ReadsA W v (ps.map (·.1)))) (hsl : ∀ p ∈ ps, isSl p.2 = true ∧ p.1.key.length ≤ 1000000 ∧ p.1.data.length ≤ 1048576) (hz : okZ (ps.map (·.1))) (hck : chkL (ps.map (·.1)) = 0) (h0 : ps ≠ []) (hf : (batchB (ps.map (·.1))).length ≤ roomZ J.l (sizeD D)) (hx : appX J D (batchB (ps.map (·.1))) = 0) (hn : n + ps.length < 10000000) (hpl : ps.length < 1000000) :
    Calls Tryz.prog 23 #[.pointer (some ⟨gs, 0, none⟩), v] w fun e w' => e = .returned (.int .i64 0) ∧ ∃ P' Q' V', StM w' gs gd lg gm (n + ps.length) P' Q' V' (doneM m (ps.map (·.1))) (appD J D (batchB (ps.map (·.1)))) (appJ J D (batchB (ps.map (·.1)))) ∧ Mut (Um P Q gm) w w' ∧ Grew w (Un P Q) (Un P' Q') := by
  obtain ⟨l, HL⟩ : ∃ x, Hid (x = ps.map (·.1)) := ⟨_, rfl⟩
  rw [← HL.out] at hst hz hck hf hx ⊢
  obtain ⟨D', HD'⟩ : ∃ x, Hid (x = appD J D (batchB l)) := ⟨_, rfl⟩
  obtain ⟨J', HJ'⟩ : ∃ x, Hid (x = appJ J D (batchB l)) := ⟨_, rfl⟩
  have HRC : Hid (∀ W, Below w.heap.size w W → Calls Tryz.prog 53 #[.pointer (some ⟨gs, 0, none⟩), v] W fun e w' => e = .returned (.int .i64 0) ∧ ∃ P' Q', Mut (Un P Q) W w' ∧ Grew W (Un P Q) (Un P' Q') ∧ StM w' gs gd lg gm n P' Q' V m D' J') := fun W hb => by
    refine (sRecord_fit (h.below hb) (hK.below hb hK.lt) hok v l (hst.now.2.2.below hb) hz hf).mono (fun e w' h => ?_)
    obtain ⟨h1, P', Q', h2, h3, h4⟩ := h
    rw [hx] at h1 h4
    rw [HD'.out, HJ'.out]
    exact ⟨h1, P', Q', h2, h3, h4 (by decide)⟩
  rw [← HD'.out, ← HJ'.out]
  have hcc := sCheck_any v l w hst.now.2.2 (by have := hz.n; omega)
  rw [hck] at hcc
  have HCK : Hid (Calls Tryz.prog 11 #[v] w fun e w' => e = .returned (.int .i64 0) ∧ Below w.heap.size w w') := hcc
  obtain ⟨N, HN⟩ : ∃ x, Hid (x = ps.length) := ⟨_, rfl⟩
  obtain ⟨ad, cp, hv⟩ := hst.now.1.form
  rw [← HN.out] at hv
  subst hv
  have fz : ¬ ((N : Int) = 0) := by
    have h1 : 0 < ps.length := List.length_pos_iff.2 h0
    have h2 := HN.out
    omega
  have HCP : Hid (∀ W, RdP W (.slice ad N cp) ps → (∀ p ∈ ps, Reads W p.2 p.1.data) → Calls Tryz.prog 55 #[.slice ad N cp] W fun e w' => ∃ v' qs, e = .returned v' ∧ OwnA w' W.heap.size v' qs ∧ qs.map (·.1) = l ∧ Below W.heap.size W w') := fun W h1 h2 => by
    rw [HL.out]
    exact sCopies_any _ ps h1 (fun p hp => (hsl p hp).1) h2 (fun p hp => Nat.le_trans (hsl p hp).2.2 (by decide)) hpl
  have HQS : Hid (∀ qs : List (ActT × Value), qs.map (·.1) = l → qs.length = N ∧ ∀ q ∈ qs, q.1.key.length ≤ 1000000 ∧ q.1.data.length ≤ 1048576) := fun qs hq => by
    rw [HL.out] at hq
    have hle : (qs.map (·.1)).length = (ps.map (·.1)).length := by rw [hq]
    rw [List.length_map, List.length_map] at hle
    refine ⟨by rw [HN.out, hle], fun q hqm => ?_⟩
    have h1 : q.1 ∈ ps.map (·.1) := by rw [← hq]; exact List.mem_map_of_mem hqm
    obtain ⟨p, hp, e⟩ := List.mem_map.1 h1
    rw [← e]
    exact (hsl p hp).2
  have HST : Hid (Sta (Un P Q) w (fun W => RdP W (.slice ad N cp) ps ∧ (∀ p ∈ ps, Reads W p.2 p.1.data) ∧ ReadsA W (.slice ad N cp) l)) := hst
  have HNN : Hid (n + N < 10000000) := by show _ < _; rw [HN.out]; exact hn
  have HNM : Hid (¬ gs = gm) := fun e => h.mp.ne h.sb e.symm
  rw [← HN.out]
  clear h hK hok hst hsl hz hck h0 hf hx hn hpl hcc
  go_enter Tryz.func23, Tryz.ntmps23
  have tk0 : Hid True := trivial
  have tk1 : Hid True := trivial
  go_upto_region 7 with (first
    | (clear tk0; go_at_call 11; refine (HCK.out).mono ?_; rintro e0 y0 ⟨rfl, bl0⟩
       have HB0 : Hid (Below w.heap.size w y0) := bl0
       clear bl0)
    | (clear tk1; go_at_call 53; refine (HRC.out y0 HB0.out).mono ?_; rintro e1 y1 ⟨rfl, P', Q', mu1, gr1, hs1⟩
       have HS : Hid (StM y1 gs gd lg gm n P' Q' V m D' J') := hs1
       have HMU : Hid (Mut (Un P Q) w y1 ∧ Grew w (Un P Q) (Un P' Q')) := ⟨(mut_below HB0.out _).trans (fun _ _ h => h) mu1, fun k hk => (gr1 k hk).elim Or.inl (fun h => Or.inr (Nat.le_trans HB0.out.size h))⟩
       clear mu1 gr1 hs1))
  have HS1 : Hid (StM y1.drew gs gd lg gm n P' Q' V m D' J') := HS.out.below (Below.refl _ _).drew
  have HX1 : Hid (RdP y1.drew (.slice ad N cp) ps ∧ ∀ p ∈ ps, Reads y1.drew p.2 p.1.data) := ⟨(HST.out.at HMU.out.1.drew).1, (HST.out.at HMU.out.1.drew).2.1⟩
  refine wp_region_held_drew (S := fun wx => Blk wx gs [.pointer (some ⟨lg, 0, none⟩), .map (some gm)] 99) (by kernel_rfl) HS.out.sb.drew ?_
  intro hS
  refine wpAnyH_take (i := 0) (v := .pointer (some ⟨gs, 0, none⟩)) rfl (by kernel_rfl) (by kernel_rfl) (by kernel_rfl) (fun _ _ _ h => h) (Or.inl ⟨by rfl, fun wx hx => by simp [go_sem]⟩) hS ?_
  simp only [Act.put, List.getElem_toArray, List.getElem_cons_zero, List.setIfInBounds_toArray, List.set_cons_zero, List.set_cons_succ]
  refine wpAnyH_take (i := 1) (v := .pointer (some ⟨gs, 0, none⟩)) rfl (by kernel_rfl) (by kernel_rfl) (by kernel_rfl) (fun _ _ _ h => h) (Or.inl ⟨by rfl, fun wx hx => by simp [go_sem]⟩) hS ?_
  simp only [Act.put, List.getElem_toArray, List.getElem_cons_succ, List.getElem_cons_zero, List.setIfInBounds_toArray, List.set_cons_zero, List.set_cons_succ]
  refine wpAnyH_take (i := 2) (v := .pointer (some ⟨gs, 1, none⟩)) rfl (by kernel_rfl) (by kernel_rfl) (by kernel_rfl) (fun _ _ _ h => h) (Or.inl ⟨by rfl, fun wx hx => by simp [go_sem]⟩) hS ?_
  simp only [Act.put, List.getElem_toArray, List.getElem_cons_succ, List.getElem_cons_zero, List.setIfInBounds_toArray, List.set_cons_zero, List.set_cons_succ]
  refine wpAnyH_take (i := 3) (v := .map (some gm)) rfl (by kernel_rfl) (by kernel_rfl) (by kernel_rfl) (fun _ _ _ h => h) (Or.inl ⟨by rfl, fun wx hx => by (have c0 : wx.cell? ⟨gs, 1, none⟩ = some (.map (some gm)) := hx.cell 1; simp [go_sem, c0])⟩) hS ?_
  simp only [Act.put, List.getElem_toArray, List.getElem_cons_succ, List.getElem_cons_zero, List.setIfInBounds_toArray, List.set_cons_zero, List.set_cons_succ]
  refine wpAnyH_take (i := 4) (v := .slice ad N cp) rfl (by kernel_rfl) (by kernel_rfl) (by kernel_rfl) (fun _ _ _ h => h) (Or.inl ⟨by rfl, fun wx hx => by simp [go_sem]⟩) hS ?_
  simp only [Act.put, List.getElem_toArray, List.getElem_cons_succ, List.getElem_cons_zero, List.setIfInBounds_toArray, List.set_cons_zero, List.set_cons_succ]
  refine wpAnyH_enter 5 (by kernel_rfl) rfl (by rfl) (f := 55) (args := #[.slice ad N cp]) (by simp [go_sem]) (HCP.out _ HX1.out.1 HX1.out.2) ?_
  rintro e2 y2 ⟨v2, qs, rfl, ow2, hq2, bl2⟩
  have hS2 := HS1.out.below bl2
  refine ⟨_, rfl, hS2.sb, ?_⟩
  simp only [Act.put, List.getElem_toArray, List.getElem_cons_succ, List.getElem_cons_zero, List.setIfInBounds_toArray, List.set_cons_zero, List.set_cons_succ]
  obtain ⟨hqn, hqz⟩ := HQS.out qs hq2
  have hdo := sDo_any (fun v t => Sta (Um P' Q' gm) y2 (fun W => Reads W v t) ∧ t.length ≤ 1048576) hS2.mp hS2.tx v2 qs ow2.rdp (fun q hq => ⟨(hqz q hq).1, (ow2.dat q hq).isSl, fun _ => ⟨(ow2.dat q hq).st (fun k hk => HS1.out.ltM k hk), (hqz q hq).2⟩⟩) (by rw [hqn]; exact HNN.out)
  refine wpAnyH_enter 6 (by kernel_rfl) rfl (by rfl) (f := 54) (args := #[.map (some gm), v2]) (by simp [go_sem]) hdo ?_
  rintro e3 y3 ⟨rfl, V', hI⟩
  rw [hq2, hqn] at hI
  have hS3 := hS2.done hI
  refine ⟨_, rfl, hS3.sb, ?_⟩
  simp only [Act.put, List.getElem_toArray, List.getElem_cons_succ, List.getElem_cons_zero, List.setIfInBounds_toArray, List.set_cons_zero, List.set_cons_succ]
  have HF : Hid (StM y3 gs gd lg gm (n + N) P' Q' V' (doneM m l) D' J' ∧ Mut (Um P Q gm) w y3 ∧ Grew w (Un P Q) (Un P' Q')) := by
    refine ⟨hS3, ?_, HMU.out.2⟩
    have m1 : Mut (Um P Q gm) w y1.drew := ⟨HMU.out.1.os, HMU.out.1.tape, HMU.out.1.output, HMU.out.1.size, fun k hk hn => HMU.out.1.block k hk (fun hx => hn (Or.inl hx))⟩
    exact (m1.trans (fun _ _ h => h) (mut_below bl2 _)).trans (fun _ _ h => Or.inr h) hI.mu
  clear hS hS2 hS3 hI hdo ow2 hq2 bl2 hqn hqz
  refine wpAnyH_done (by kernel_rfl) ?_ _
  go_wp2
  go_ret
  exact ⟨rfl, P', Q', V', HF.out⟩
end Go.Proofs.YteklnooagjkclaaGreatDoor
/- The law's works: a store of a new disk, one batch done, two keys asked for (layer 15). -/
namespace Go.Proofs.YteklnooagjkclaaGreatDoor
open Go.RowKit
set_option maxRecDepth 100000
theorem staA {w : World} {g : Nat} {P : Nat → Prop} {ps : List (ActT × Value)} (hb : Blk w g (rowP ps) 62) (hg : ¬ P g) (hd : ∀ p ∈ ps, Sta P w (fun W => Reads W p.2 p.1.data)) : Sta P w (fun W => RdP W (.slice (some ⟨g, 0, none⟩) ps.length ps.length) ps ∧ (∀ p ∈ ps, Reads W p.2 p.1.data) ∧ ReadsA W (.slice (some ⟨g, 0, none⟩) ps.length ps.length) (ps.map (·.1))) := fun W m => by
  have hb2 := m.blk hb hg
  have hrg : ∀ (j : Nat) (p : ActT × Value), ps[j]? = some p → W.rangeAt g (0 + j * 3) (actC p.1 p.2) := fun j p hp i u hu => by
    rw [hb2.cell, Nat.zero_add]
    exact rowP_at ps j i p u hp hu
  refine ⟨⟨_, _, rfl, fun _ => ⟨g, 0, rfl, hrg⟩⟩, fun p hp => (hd p hp).at m, ⟨_, ps.length, by rw [List.length_map], by rw [List.length_map]; exact Nat.le_refl _, (fun e => by cases e), fun _ => ⟨g, 0, rfl, fun j hj => ?_⟩⟩⟩
  rw [List.length_map] at hj
  obtain ⟨p, hp⟩ : ∃ p, ps[j]? = some p := ⟨ps[j], List.getElem?_eq_getElem hj⟩
  have e : (ps.map (·.1)).getD j ⟨[], false, []⟩ = p.1 := by rw [List.getD_eq_getElem?_getD, List.getElem?_map, hp]; rfl
  rw [e]
  exact ⟨p.2, hrg j p hp, (hd p (List.mem_of_getElem? hp)).at m⟩
def wkA : List ActT := [⟨[97], true, [120]⟩, ⟨[98], false, []⟩]
def wkP (g : Nat) : List (ActT × Value) := [(⟨[97], true, [120]⟩, .slice (some ⟨g, 0, none⟩) 1 1), (⟨[98], false, []⟩, .slice none 0 0)]
theorem wkP_fst (g : Nat) : (wkP g).map (·.1) = wkA := rfl
def wkC (g : Nat) : List Value := [.string ⟨#[97]⟩, .bool true, .slice (some ⟨g, 0, none⟩) 1 1, .string ⟨#[98]⟩, .bool false, .slice none 0 0]
theorem wk_batch : batchB wkA = [2, 1, 97, 1, 1, 120, 1, 98, 0] := by
  simp [batchB, wkA, encList, encAll, encA, encText, encNum_lt]
theorem wk_chk : chkL wkA = 0 := by decide
theorem wk_done : doneM [] wkA = [([97], [120])] := by decide
theorem wk_okZ : okZ wkA := ⟨by decide, by rw [wk_batch]; decide, by decide⟩
theorem wk_plain : appX jn0 (openD (zeroD 8)) (batchB wkA) = 0 ∧ okJ (openD (zeroD 8)) jn0 ∧ (batchB wkA).length ≤ roomZ jn0.l (sizeD (openD (zeroD 8))) := by
  obtain ⟨z1, z2, z3, z4⟩ := open_zero (m := 8) (by decide) (by decide)
  rw [wk_batch]
  have he : appE jn0 (openD (zeroD 8)) [2, 1, 97, 1, 1, 120, 1, 98, 0] = 0 := by
    rw [app_ref, z4]
    exact ⟨by decide, by decide⟩
  obtain ⟨a1, a2, a3, a4⟩ := Log.app (J := jn0) z3 he
  exact ⟨a1, Log.okJ (J := jn0) z3 (by rw [z4]; decide) (by rw [z4]; decide) (by decide), by rw [z4]; decide⟩
theorem build_a2 (f : Operand → Value) (o : Oper) (x y : Operand) (g : Nat) (hx : f x = .agg #[.string ⟨#[97]⟩, .bool true, .slice (some ⟨g, 0, none⟩) 1 1]) (hy : f y = .agg #[.string ⟨#[98]⟩, .bool false, .slice none 0 0]) (ho : o.op = .buildSlice 22 2 #[(0, x), (1, y)]) (w : World) : (execOp f o).run Tryz.prog w = .ok (.value (.slice (some ⟨w.heap.size, 0, none⟩) 2 2)) (w.alloc (.cells (wkC g).toArray 62)) := by
  unfold execOp
  rw [ho]
  simp only [List.map_toArray, List.map_cons, List.map_nil, hx, hy]
  kernel_rfl
theorem wpSeq_buildA2 {ops : Array Oper} {Q : Exit → Act → World → Prop} {rest : List Oper} {o : Oper} {a : Act} {w : World} (x y : Operand) (g : Nat) (hx : a.eval x = .agg #[.string ⟨#[97]⟩, .bool true, .slice (some ⟨g, 0, none⟩) 1 1]) (hy : a.eval y = .agg #[.string ⟨#[98]⟩, .bool false, .slice none 0 0]) (ho : o.op = .buildSlice 22 2 #[(0, x), (1, y)]) (hw : Region.wanted o (yielded ops a.tmps) = true)
    (h : ∀ g2 w', NewR (wkC g) 62 w g2 w' → wpList Tryz.prog ops Q rest (a.put o.dst (.slice (some ⟨g2, 0, none⟩) 2 2)) w') : wpList Tryz.prog ops Q (o :: rest) a w :=
  wpSeq_val _ _ hw (build_a2 _ o x y g hx hy ho w) (h _ _ (NewR.of _ _ w))
theorem build_b1 (f : Operand → Value) (o : Oper) (ho : o.op = .build 62 #[(0, .const (.string ⟨#[98]⟩))]) (hf : f (.const (.string ⟨#[98]⟩)) = .string ⟨#[98]⟩) (w : World) : (execOp f o).run Tryz.prog w = .ok (.value (.agg #[.string ⟨#[98]⟩, .bool false, .slice none 0 0])) w := by
  unfold execOp
  rw [ho]
  simp only [List.map_toArray, List.map_cons, List.map_nil, hf]
  kernel_rfl
theorem wpSeq_buildB1 {ops : Array Oper} {Q : Exit → Act → World → Prop} {rest : List Oper} {o : Oper} {a : Act} {w : World} (ho : o.op = .build 62 #[(0, .const (.string ⟨#[98]⟩))]) (hw : Region.wanted o (yielded ops a.tmps) = true)
    (h : wpList Tryz.prog ops Q rest (a.put o.dst (.agg #[.string ⟨#[98]⟩, .bool false, .slice none 0 0])) w) : wpList Tryz.prog ops Q (o :: rest) a w :=
  wpSeq_val _ _ hw (build_b1 _ o ho rfl w) h
theorem str120 : strB [120] = ⟨#[120]⟩ := by rfl
set_option maxRecDepth 100000 in
set_option maxHeartbeats 4000000 in
theorem works15_any (w : World) (hK : KOk w) : Calls Tryz.prog 10 #[] w fun e w' => e = .returned (.bool true) ∧ Below w.heap.size w w' := by
  obtain ⟨p1, p2, p3⟩ := wk_plain
  obtain ⟨D0, HD0⟩ : ∃ D, Hid (D = openD (zeroD 8)) := ⟨_, rfl⟩
  rw [← HD0.out] at p1 p2 p3
  obtain ⟨D1, HD1⟩ : ∃ D, Hid (D = appD jn0 D0 (batchB wkA)) := ⟨_, rfl⟩
  obtain ⟨J1, HJ1⟩ : ∃ D, Hid (D = appJ jn0 D0 (batchB wkA)) := ⟨_, rfl⟩
  obtain ⟨m1, HM1⟩ : ∃ m, Hid (m = doneM [] wkA) := ⟨_, rfl⟩
  have HNW : Hid (Calls Tryz.prog 35 #[.int .i64 8] w fun r w' => ∃ g gs, r = .returned (.tuple #[.pointer (some ⟨g, 0, none⟩), .int .i64 0]) ∧ DkM w' g gs (.slice none 0 0) false 0 (zeroD 8) ∧ Below w.heap.size w w' ∧ w.heap.size ≤ g ∧ w.heap.size ≤ gs) := dkNew_m w 8 (by decide) (by decide)
  have HOP : Hid (∀ (W : World) (gd : Nat) (P : Nat → Prop), KOk W → DkIs W gd P (zeroD 8) → Calls Tryz.prog 28 #[.pointer (some ⟨gd, 0, none⟩)] W fun e w' => ∃ gs lg gm P' Q, e = .returned (.tuple #[.pointer (some ⟨gs, 0, none⟩), .int .i64 0]) ∧ StM w' gs gd lg gm 0 P' Q nilV [] D0 jn0 ∧ Mut P W w' ∧ Grew W P P' ∧ (∀ k, Q k → W.heap.size ≤ k) ∧ W.heap.size ≤ gs ∧ W.heap.size ≤ gm) := fun W gd P hk hd => by
    rw [HD0.out]
    exact sOpen_zero 8 hk hd (by decide) (by decide)
  have HAP : Hid (∀ (W : World) (gs gd lg gm g gy : Nat) (P Q : Nat → Prop), StM W gs gd lg gm 0 P Q nilV [] D0 jn0 → KOk W → Blk W g (wkC gy) 62 → ¬ Un P Q g → Sta (Un P Q) W (fun X => Reads X (.slice (some ⟨gy, 0, none⟩) 1 1) [120]) → Calls Tryz.prog 23 #[.pointer (some ⟨gs, 0, none⟩), .slice (some ⟨g, 0, none⟩) 2 2] W fun e w' => e = .returned (.int .i64 0) ∧ ∃ P' Q' V', StM w' gs gd lg gm 2 P' Q' V' m1 D1 J1 ∧ Mut (Um P Q gm) W w') := fun W gs gd lg gm g gy P Q hs hk hb hg hy => by
    have hst : Sta (Un P Q) W (fun W => RdP W (.slice (some ⟨g, 0, none⟩) 2 2) (wkP gy) ∧ (∀ p ∈ wkP gy, Reads W p.2 p.1.data) ∧ ReadsA W (.slice (some ⟨g, 0, none⟩) 2 2) ((wkP gy).map (·.1))) := staA (ps := wkP gy) hb hg (fun p hp => by
      simp only [wkP, List.mem_cons, List.not_mem_nil, or_false] at hp
      rcases hp with rfl | rfl
      · exact hy
      · exact Sta.nil _ _)
    refine (sApply_ok hs hk p2 _ (wkP gy) hst (fun p hp => ?_) wk_okZ wk_chk (by simp [wkP]) p3 p1 (show 0 + 2 < 10000000 by decide) (show 2 < 1000000 by decide)).mono (fun e w' h => ?_)
    · simp only [wkP, List.mem_cons, List.not_mem_nil, or_false] at hp
      rcases hp with rfl | rfl
      · exact ⟨rfl, show 1 ≤ 1000000 by decide, show 1 ≤ 1048576 by decide⟩
      · exact ⟨rfl, show 1 ≤ 1000000 by decide, show 0 ≤ 1048576 by decide⟩
    · obtain ⟨h1, P', Q', V', h2, h3, _⟩ := h
      rw [wkP_fst, ← HM1.out, ← HD1.out, ← HJ1.out] at h2
      exact ⟨h1, P', Q', V', h2, h3⟩
  have g1 : getM m1 [97] = some [120] := by rw [HM1.out, wk_done]; decide
  have g2 : getM m1 [98] = none := by rw [HM1.out, wk_done]; decide
  have g3 : m1.length = 1 := by rw [HM1.out, wk_done]; rfl
  have HGA : Hid (∀ (W : World) (gs gd lg gm n : Nat) (P Q : Nat → Prop) (V : Bs → Value), StM W gs gd lg gm n P Q V m1 D1 J1 → Calls Tryz.prog 32 #[.pointer (some ⟨gs, 0, none⟩), .string ⟨#[97]⟩] W fun e w' => ∃ v', e = .returned (.tuple #[v', .bool true]) ∧ Reads w' v' [120] ∧ Below W.heap.size W w') := fun W gs gd lg gm n P Q V h => by
    have h1 := sGet_any h.sb h.mp (fun s t ht => ⟨(h.tx s t ht).1.now, (h.tx s t ht).2⟩) [97] (by decide)
    rw [g1] at h1
    refine h1.mono (fun e w' h => ?_)
    obtain ⟨v', h2, h3, h4⟩ := h
    exact ⟨v', h2, h3.reads, h4⟩
  have HGB : Hid (∀ (W : World) (gs gd lg gm n : Nat) (P Q : Nat → Prop) (V : Bs → Value), StM W gs gd lg gm n P Q V m1 D1 J1 → Calls Tryz.prog 32 #[.pointer (some ⟨gs, 0, none⟩), .string ⟨#[98]⟩] W fun e w' => ∃ v', e = .returned (.tuple #[v', .bool false]) ∧ Below W.heap.size W w') := fun W gs gd lg gm n P Q V h => by
    have h1 := sGet_any h.sb h.mp (fun s t ht => ⟨(h.tx s t ht).1.now, (h.tx s t ht).2⟩) [98] (by decide)
    rw [g2] at h1
    refine h1.mono (fun e w' h => ?_)
    obtain ⟨v', h2, h3, h4⟩ := h
    exact ⟨v', h2, h4⟩
  have HLN : Hid (∀ (W : World) (gs gd lg gm n : Nat) (P Q : Nat → Prop) (V : Bs → Value), StM W gs gd lg gm n P Q V m1 D1 J1 → Calls Tryz.prog 36 #[.pointer (some ⟨gs, 0, none⟩)] W fun e w' => e = .returned (.int .i64 1) ∧ w' = W) := fun W gs gd lg gm n P Q V h => by
    have h1 := sLen_any h.sb h.mp
    rw [g3] at h1
    exact h1
  have HK0 : Hid (KOk w) := hK
  clear p1 p2 p3 g1 g2 g3 hK
  go_enter Tryz.func10, Tryz.ntmps10
  have tk0 : Hid True := trivial
  have tk1 : Hid True := trivial
  have tk2 : Hid True := trivial
  have tk3 : Hid True := trivial
  have tk4 : Hid True := trivial
  have tk5 : Hid True := trivial
  have tk6 : Hid True := trivial
  have tk7 : Hid True := trivial
  have tk8 : Hid True := trivial
  go_wp2_with (first
    | (clear tk0; go_at_call 35; refine (HNW.out).mono ?_; rintro e0 y1 ⟨gd, gs0, rfl, hm, hb, hg1, hg2⟩
       have HDK : Hid (DkIs y1 gd (dkP gd gs0 (.slice none 0 0)) (zeroD 8)) := ⟨gs0, _, _, _, hm, rfl⟩
       have HPW : Hid (∀ k, dkP gd gs0 (.slice none 0 0) k → w.heap.size ≤ k) := fun k hk => by
         rcases hk with rfl | rfl | hk
         · exact hg1
         · exact hg2
         · cases hk
       have HBW : Hid (Below w.heap.size w y1) := hb
       clear hm hb hg1 hg2 HNW)
    | (clear tk1; go_at_call 28; refine (HOP.out _ _ _ (HK0.out.below HBW.out HK0.out.lt) HDK.out).mono ?_; rintro e0 y2 ⟨gs, lg, gm, P2, Q2, rfl, hs2, hm2, hg2, hq2, hgs, hgm⟩
       have HS : Hid (StM y2 gs gd lg gm 0 P2 Q2 nilV [] D0 jn0) := hs2
       have HUN : Hid (∀ k, Um P2 Q2 gm k → w.heap.size ≤ k) := fun k hk => by
         rcases hk with (h | h) | rfl
         · exact (hg2 k h).elim (HPW.out k) (fun h => Nat.le_trans HBW.out.size h)
         · exact Nat.le_trans HBW.out.size (hq2 k h)
         · exact Nat.le_trans HBW.out.size hgm
       replace HBW : Hid (Below w.heap.size w y2) := HBW.out.trans (hm2.below HBW.out.size HPW.out)
       clear hs2 hm2 hg2 hq2 hgs hgm HOP HDK HPW)
    | (clear tk2; with_reducible refine wpSeq_constN (.tmp 31) y2 120 _ rfl ?_ ?_ ?_ ?_
       · rfl
       · rfl
       · rfl
       intro gy y3 hge hst hz
       have HRY : Hid (Sta (Un P2 Q2) y3 (fun X => Reads X (.slice (some ⟨gy, 0, none⟩) 1 1) [120])) := hst _ (fun h => absurd (HS.out.lt gy h) (by omega))
       replace HS : Hid (StM y3 gs gd lg gm 0 P2 Q2 nilV [] D0 jn0) := HS.out.below hz
       replace HBW : Hid (Below w.heap.size w y3) := HBW.out.trans (hz.mono HBW.out.size)
       clear hge hst hz)
    | (clear tk3; with_reducible refine wpSeq_buildB1 ?_ ?_ ?_
       · rfl
       · rfl)
    | (clear tk4; with_reducible refine wpSeq_buildA2 (.tmp 33) (.tmp 34) gy ?_ ?_ ?_ ?_ ?_
       · rfl
       · rfl
       · rfl
       · rfl
       intro ga y4 nn
       have HRA : Hid (Blk y4 ga (wkC gy) 62 ∧ ¬ Un P2 Q2 ga) := ⟨nn.blk, fun h => absurd (HS.out.lt ga h) (by have := nn.ge; omega)⟩
       replace HRY : Hid (Sta (Un P2 Q2) y4 (fun X => Reads X (.slice (some ⟨gy, 0, none⟩) 1 1) [120])) := HRY.out.below nn.below
       replace HS : Hid (StM y4 gs gd lg gm 0 P2 Q2 nilV [] D0 jn0) := HS.out.below nn.below
       replace HBW : Hid (Below w.heap.size w y4) := HBW.out.trans (nn.below.mono HBW.out.size)
       clear nn)
    | (clear tk5; go_at_call 23; refine (HAP.out _ _ _ _ _ _ _ _ _ HS.out (HK0.out.below HBW.out HK0.out.lt) HRA.out.1 HRA.out.2 HRY.out).mono ?_; rintro e0 y5 ⟨rfl, P5, Q5, V5, hs5, hm5⟩
       have HS5 : Hid (StM y5 gs gd lg gm 2 P5 Q5 V5 m1 D1 J1) := hs5
       replace HBW : Hid (Below w.heap.size w y5) := HBW.out.trans (hm5.below HBW.out.size HUN.out)
       clear hs5 hm5 HS HRA HRY HUN)
    | (clear tk6; go_at_call 32; refine (HGA.out _ _ _ _ _ _ _ _ _ HS5.out).mono ?_; rintro e0 y6 ⟨v6, rfl, hr6, bl6⟩
       have HR6 : Hid (Reads y6 v6 [120]) := hr6
       have HS6 : Hid (StM y6 gs gd lg gm 2 P5 Q5 V5 m1 D1 J1) := HS5.out.below bl6
       replace HBW : Hid (Below w.heap.size w y6) := HBW.out.trans (bl6.mono HBW.out.size)
       clear hr6 bl6 HS5)
    | (clear tk7; go_at_call 32; refine (HGB.out _ _ _ _ _ _ _ _ _ HS6.out).mono ?_; rintro e0 y7 ⟨v7, rfl, bl7⟩
       have hc7 := conv_reads (HR6.out.below bl7)
       rw [str120] at hc7
       have HS7 : Hid (StM y7 gs gd lg gm 2 P5 Q5 V5 m1 D1 J1) := HS6.out.below bl7
       replace HBW : Hid (Below w.heap.size w y7) := HBW.out.trans (bl7.mono HBW.out.size)
       clear bl7 HS6 HR6)
    | (clear tk8; go_at_call 36; refine (HLN.out _ _ _ _ _ _ _ _ _ HS7.out).mono ?_; rintro e0 y8 ⟨rfl, hz⟩
       subst hz
       clear HS7))
  go_ret
  exact ⟨rfl, HBW.out⟩
end Go.Proofs.YteklnooagjkclaaGreatDoor
/- The law StoreBatches (layer 15). -/
namespace Go.Proofs.YteklnooagjkclaaGreatDoor
open Go.RowKit
set_option maxRecDepth 100000
theorem encText_le (t : Bs) (h : t.length < 18446744073709551616) : (encText t).length ≤ t.length + 10 := by
  unfold encText
  rw [List.length_append]
  have := enc_len10 t.length h
  omega
theorem encA_le (a : ActT) (hk : a.key.length < 18446744073709551616) (hd : a.data.length < 18446744073709551616) : (encA a).length ≤ wtA a + 40 := by
  have h1 := encText_le a.key hk
  have h2 := encText_le a.data hd
  have h3 := enc_len10 1 (by decide)
  have h4 := enc_len10 0 (by decide)
  unfold encA wtA
  rw [List.length_append]
  cases a.set
  · simp only [Bool.false_eq_true, if_false]
    omega
  · simp only [if_true, List.length_append]
    omega
theorem encAll_le (c : Nat) : ∀ (l : List ActT), (∀ a ∈ l, (encA a).length ≤ c) → (encAll encA l).length ≤ c * l.length
  | [], _ => by simp [encAll]
  | a :: l, h => by
    have h1 := encAll_le c l (fun x hx => h x (List.mem_cons_of_mem _ hx))
    have h2 := h a (List.mem_cons_self ..)
    rw [encAll_cons, List.length_append, List.length_cons, Nat.mul_add, Nat.mul_one]
    omega
theorem batch_le (c : Nat) (l : List ActT) (hl : l.length ≤ 4096) (h : ∀ a ∈ l, (encA a).length ≤ c) : (batchB l).length ≤ c * 4096 + 10 := by
  have h1 := encAll_le c l h
  have h2 := enc_len10 l.length (by omega)
  have h3 : c * l.length ≤ c * 4096 := Nat.mul_le_mul_left c hl
  show (encNum l.length ++ encAll encA l).length ≤ _
  rw [List.length_append]
  omega
theorem wt_sum : ∀ (l : List ActT) (a : ActT), a ∈ l → wtA a ≤ sumA l
  | [], _, h => by cases h
  | x :: l, a, h => by
    have e : sumA (x :: l) = wtA x + sumA l := by simp [sumA]
    rcases List.mem_cons.1 h with rfl | h
    · omega
    · have := wt_sum l a h
      omega
theorem okZ_light {l : List ActT} (h1 : l.length ≤ 60) (h2 : sumA l ≤ 20000) : okZ l := by
  have hw : ∀ a ∈ l, wtA a ≤ 20000 := fun a ha => Nat.le_trans (wt_sum l a ha) h2
  have hb := batch_le 20040 l (by omega) (fun a ha => by
    have h3 := hw a ha
    have h4 := encA_le a (by unfold wtA at h3; omega) (by unfold wtA at h3; omega)
    omega)
  exact ⟨by omega, by omega, fun a ha => by have h3 := hw a ha; unfold wtA at h3; omega⟩
theorem okA_sz {a : ActT} (h : okA a = true) : a.key.length ≤ 64 ∧ a.data.length ≤ 1048576 := by
  unfold okA at h
  rw [Bool.and_eq_true] at h
  obtain ⟨h1, h2⟩ := h
  refine ⟨of_decide_eq_true h1, ?_⟩
  cases hs : a.set
  · rw [hs] at h2
    simp at h2
    simp [h2]
  · rw [hs] at h2
    simpa using h2
theorem okZ_chk {l : List ActT} (h : chkL l = 0) : okZ l := by
  obtain ⟨h1, h2⟩ := chkL_ok.1 h
  have hw : ∀ a ∈ l, a.key.length ≤ 64 ∧ a.data.length ≤ 1048576 := fun a ha => okA_sz (goodF_mem l [] h2 a ha).1
  have hb := batch_le 1048680 l h1 (fun a ha => by
    obtain ⟨h3, h4⟩ := hw a ha
    have h5 := encA_le a (by omega) (by omega)
    unfold wtA at h5
    omega)
  exact ⟨by omega, by omega, fun a ha => by have := hw a ha; omega⟩
/-- what ReadBatch tells, as a code and a list -/
theorem read_code (b : Bs) : ∃ (fc : Int) (xs : List ActT), ((fc = 0 ∧ readB b = some xs) ∨ (fc = 3 ∧ readB b = none ∧ xs = [])) ∧ ∀ w e w', BtR w b e w' → ∃ va, e = .returned (.tuple #[va, .int .i64 fc]) ∧ ReadsA w' va xs ∧ Below w.heap.size w w' := by
  cases h : readB b with
  | none =>
    refine ⟨3, [], Or.inr ⟨rfl, rfl, rfl⟩, fun w e w' ht => ?_⟩
    obtain ⟨hb, ⟨va, ps, h1, _⟩ | ⟨_, h2⟩⟩ := ht
    · rw [h] at h1; cases h1
    · exact ⟨_, h2, ReadsA.nil _, hb⟩
  | some xs =>
    refine ⟨0, xs, Or.inl ⟨rfl, rfl⟩, fun w e w' ht => ?_⟩
    obtain ⟨hb, ⟨va, ps, h1, h2, h3⟩ | ⟨h1, _⟩⟩ := ht
    · rw [h] at h1
      simp at h1
      subst h1
      exact ⟨va, h2, h3.reads, hb⟩
    · rw [h] at h1; cases h1
set_option maxRecDepth 100000 in
set_option maxHeartbeats 8000000 in
theorem storeBatches_law (v0 v1 : Value) (l : List ActT) (b : Bs) (w : World) (hK : KOk w) (hr : ReadsA w v0 l) (hs : ∀ a ∈ l, szA a) (hrb : Reads w v1 b) (hbl : b.length ≤ 9223372036854775807) : Calls Tryz.prog 3 #[v0, v1] w fun e w' => e = .returned (.bool true) ∧ Below w.heap.size w w' := by
  obtain ⟨ck, HCK⟩ : ∃ x, Hid (x = chkL l) := ⟨_, rfl⟩
  obtain ⟨fc, xs, hfc, HBT⟩ := read_code b
  obtain ⟨zc, zs, hzc, HBZ⟩ := read_code (batchB l)
  have HLI : Hid (Calls Tryz.prog 9 #[v0] w fun e w' => LightR l e ∧ Below w.heap.size w w') := light15_any v0 l w hr hs
  have HWK : Hid (∀ W, KOk W → Calls Tryz.prog 10 #[] W fun e w' => e = .returned (.bool true) ∧ Below W.heap.size W w') := fun W h => works15_any W h
  have HSC : Hid (∀ W, ReadsA W v0 l → LightJ l true → Calls Tryz.prog 11 #[v0] W fun e w' => e = .returned (.int .i64 ck) ∧ Below W.heap.size W w') := fun W h hj => by
    rw [HCK.out]
    exact sCheck_any v0 l W h (by have := (hj rfl).1; omega)
  have HOC : Hid (∀ W, ReadsA W v0 l → Calls Tryz.prog 14 #[v0] W fun e w' => e = .returned (.int .i64 ck) ∧ Below W.heap.size W w') := fun W h => by
    rw [HCK.out]
    exact oCheck_any v0 l W h
  have HSR : Hid (∀ W, Reads W v1 b → Calls Tryz.prog 12 #[v1] W fun e w' => ∃ va, e = .returned (.tuple #[va, .int .i64 fc]) ∧ ReadsA w' va xs ∧ Below W.heap.size W w') := fun W h => (sReadBatch_any v1 b W h).mono (fun e w' h => HBT W e w' h)
  have HOR : Hid (∀ W, Reads W v1 b → Calls Tryz.prog 13 #[v1] W fun e w' => ∃ va, e = .returned (.tuple #[va, .int .i64 fc]) ∧ ReadsA w' va xs ∧ Below W.heap.size W w') := fun W h => (oReadBatch_any v1 b W h hbl).mono (fun e w' h => HBT W e w' h)
  have HZR : Hid (∀ W vz, Reads W vz (batchB l) → Calls Tryz.prog 12 #[vz] W fun e w' => ∃ va, e = .returned (.tuple #[va, .int .i64 zc]) ∧ ReadsA w' va zs ∧ Below W.heap.size W w') := fun W vz h => (sReadBatch_any vz (batchB l) W h).mono (fun e w' h => HBZ W e w' h)
  have hxz : xs.length < 4611686018427387904 ∧ (fc = 0 → okZ xs ∧ batchB xs = b) := by
    rcases id hfc with ⟨e1, e2⟩ | ⟨e1, _, e2⟩
    · obtain ⟨h1, h2⟩ := (readB_iff _ _).1 e2
      exact ⟨by have := (chkL_ok.1 h1).1; omega, fun _ => ⟨okZ_chk h1, h2.symm⟩⟩
    · subst e2
      exact ⟨by decide, fun h => by rw [e1] at h; exact absurd h (by decide)⟩
  have HXS : Hid (∀ W va vb, ReadsA W va xs → ReadsA W vb xs → Calls Tryz.prog 15 #[va, vb] W fun e w' => e = .returned (.bool true) ∧ Below W.heap.size W w') := fun W va vb h1 h2 => by
    have h3 := oSameActs_any va vb xs xs W h1 h2 hxz.1
    rw [decide_eq_true rfl] at h3
    exact h3
  have hzz : ck = 0 → zc = 0 ∧ zs = l := fun h => by
    rw [HCK.out] at h
    have h1 := readB_batch h
    rcases id hzc with ⟨e1, e2⟩ | ⟨e1, e2, _⟩
    · rw [h1] at e2
      simp at e2
      exact ⟨e1, e2.symm⟩
    · rw [h1] at e2
      cases e2
  have HZS : Hid (ck = 0 → ∀ W va, ReadsA W va zs → ReadsA W v0 l → LightJ l true → Calls Tryz.prog 15 #[va, v0] W fun e w' => e = .returned (.bool true) ∧ Below W.heap.size W w') := fun hc W va h1 h2 hj => by
    rw [(hzz hc).2] at h1
    have h3 := oSameActs_any va v0 l l W h1 h2 (by have := (hj rfl).1; omega)
    rw [decide_eq_true rfl] at h3
    exact h3
  have HBS : Hid (∀ W, ReadsA W v0 l → LightJ l true → Calls Tryz.prog 17 #[v0] W fun e w' => ∃ vb, e = .returned vb ∧ Reads w' vb (batchB l) ∧ Below W.heap.size W w') := fun W h hj => (sBatch_any v0 l W h (okZ_light (hj rfl).1 (hj rfl).2)).mono (fun e w' h => by
    obtain ⟨vb, h1, h2, h3⟩ := h
    exact ⟨vb, h1, h2.reads, h3⟩)
  have HBO : Hid (∀ W, ReadsA W v0 l → LightJ l true → Calls Tryz.prog 18 #[v0] W fun e w' => ∃ vb, e = .returned vb ∧ Reads w' vb (batchB l) ∧ Below W.heap.size W w') := fun W h hj => (oBatch_any v0 l W h (okZ_light (hj rfl).1 (hj rfl).2)).mono (fun e w' h => by
    obtain ⟨vb, h1, h2, h3⟩ := h
    exact ⟨vb, h1, h2.reads, h3⟩)
  have HBX : Hid (fc = 0 → ∀ W va, ReadsA W va xs → Calls Tryz.prog 17 #[va] W fun e w' => ∃ vb, e = .returned vb ∧ Reads w' vb b ∧ Below W.heap.size W w') := fun hc W va h => by
    obtain ⟨h1, h2⟩ := hxz.2 hc
    refine (sBatch_any va xs W h h1).mono (fun e w' h => ?_)
    obtain ⟨vb, h3, h4, h5⟩ := h
    rw [h2] at h4
    exact ⟨vb, h3, h4.reads, h5⟩
  have HSM : Hid (∀ W va vb (t : Bs), Reads W va t → Reads W vb t → Calls Tryz.prog 16 #[va, vb] W fun e w' => e = .returned (.bool true) ∧ w' = W) := fun W va vb t h1 h2 => by
    have h3 := same_any va vb t t W h1 h2
    rw [decide_eq_true rfl] at h3
    exact h3
  have hck2 : (ck = 0 ∧ zc = 0) ∨ (ck = 1 ∧ True) := by
    rcases chkL_or l with h | h
    · have h1 : ck = 0 := by rw [HCK.out]; exact h
      exact Or.inl ⟨h1, (hzz h1).1⟩
    · exact Or.inr ⟨by rw [HCK.out]; exact h, trivial⟩
  have hfc2 : fc = 0 ∨ fc = 3 := hfc.imp (·.1) (·.1)
  have HR0 : Hid (ReadsA w v0 l) := hr
  have HB0 : Hid (Reads w v1 b) := hrb
  have HK0 : Hid (KOk w) := hK
  clear hK hr hs hrb hbl hfc hzc HBT HBZ hxz hzz HCK
  rcases hck2 with ⟨e1, e3⟩ | ⟨e1, e3⟩ <;> rcases hfc2 with e2 | e2
  all_goals
    subst e1
    subst e2
    first
      | subst e3
      | clear e3
    go_enter Tryz.func3, Tryz.ntmps3
    have tk0 : Hid True := trivial
    have tk1 : Hid True := trivial
    have tk2 : Hid True := trivial
    have tk3 : Hid True := trivial
    have tk4 : Hid True := trivial
    have tk5 : Hid True := trivial
    have tk6 : Hid True := trivial
    have tk7 : Hid True := trivial
    have tk8 : Hid True := trivial
    have tk9 : Hid True := trivial
    have tk10 : Hid True := trivial
    have tk11 : Hid True := trivial
    have tk12 : Hid True := trivial
    have tk13 : Hid True := trivial
    have tk14 : Hid True := trivial
    go_wp2_with (first
      | (clear tk0; go_at_call 9; refine (HLI.out).mono ?_; rintro e0 y0 ⟨⟨ok, rfl, hj⟩, bl⟩
         have HBW : Hid (Below w.heap.size w y0) := bl
         have HLJ : Hid (LightJ l ok) := hj
         clear hj bl
         cases ok)
      | (clear tk1; go_at_call 10; refine (HWK.out _ (HK0.out.below HBW.out HK0.out.lt)).mono ?_; rintro e0 y1 ⟨rfl, bl⟩
         replace HBW : Hid (Below w.heap.size w y1) := HBW.out.trans (bl.mono HBW.out.size)
         clear bl)
      | (clear tk2; go_at_call 11; refine (HSC.out _ (HR0.out.below HBW.out) HLJ.out).mono ?_; rintro e0 y2 ⟨rfl, bl⟩
         replace HBW : Hid (Below w.heap.size w y2) := HBW.out.trans (bl.mono HBW.out.size)
         clear bl)
      | (clear tk3; go_at_call 12; refine (HSR.out _ (HB0.out.below HBW.out)).mono ?_; rintro e0 y3 ⟨va, rfl, hxa, bl⟩
         have HXA : Hid (ReadsA y3 va xs) := hxa
         replace HBW : Hid (Below w.heap.size w y3) := HBW.out.trans (bl.mono HBW.out.size)
         clear hxa bl)
      | (clear tk4; go_at_call 13; refine (HOR.out _ (HB0.out.below HBW.out)).mono ?_; rintro e0 y4 ⟨vb, rfl, hya, bl⟩
         have HYA : Hid (ReadsA y4 vb xs) := hya
         replace HXA : Hid (ReadsA y4 va xs) := HXA.out.below bl
         replace HBW : Hid (Below w.heap.size w y4) := HBW.out.trans (bl.mono HBW.out.size)
         clear hya bl)
      | (clear tk5; go_at_call 14; refine (HOC.out _ (HR0.out.below HBW.out)).mono ?_; rintro e0 y5 ⟨rfl, bl⟩
         replace HYA : Hid (ReadsA y5 vb xs) := HYA.out.below bl
         replace HXA : Hid (ReadsA y5 va xs) := HXA.out.below bl
         replace HBW : Hid (Below w.heap.size w y5) := HBW.out.trans (bl.mono HBW.out.size)
         clear bl)
      | (clear tk6; go_at_call 15; refine (HXS.out _ va vb HXA.out HYA.out).mono ?_; rintro e0 y6 ⟨rfl, bl⟩
         replace HXA : Hid (ReadsA y6 va xs) := HXA.out.below bl
         replace HBW : Hid (Below w.heap.size w y6) := HBW.out.trans (bl.mono HBW.out.size)
         clear bl HYA)
      | (clear tk7; go_at_call 17; refine (HBS.out _ (HR0.out.below HBW.out) HLJ.out).mono ?_; rintro e0 y7 ⟨v7, rfl, hr7, bl⟩
         have HR7 : Hid (Reads y7 v7 (batchB l)) := hr7
         replace HXA : Hid (ReadsA y7 va xs) := HXA.out.below bl
         replace HBW : Hid (Below w.heap.size w y7) := HBW.out.trans (bl.mono HBW.out.size)
         clear hr7 bl)
      | (clear tk8; go_at_call 18; refine (HBO.out _ (HR0.out.below HBW.out) HLJ.out).mono ?_; rintro e0 y8 ⟨v8, rfl, hr8, bl⟩
         have HR8 : Hid (Reads y8 v8 (batchB l)) := hr8
         replace HR7 : Hid (Reads y8 v7 (batchB l)) := HR7.out.below bl
         replace HXA : Hid (ReadsA y8 va xs) := HXA.out.below bl
         replace HBW : Hid (Below w.heap.size w y8) := HBW.out.trans (bl.mono HBW.out.size)
         clear hr8 bl)
      | (clear tk9; go_at_call 16; refine (HSM.out _ v7 v8 _ HR7.out HR8.out).mono ?_; rintro e0 y9 ⟨rfl, hz⟩
         subst hz
         clear HR7 HR8)
      | (clear tk10; go_at_call 17; refine (HBX.out trivial _ va HXA.out).mono ?_; rintro e0 y10 ⟨v10, rfl, hr10, bl⟩
         have HR10 : Hid (Reads y10 v10 b) := hr10
         replace HBW : Hid (Below w.heap.size w y10) := HBW.out.trans (bl.mono HBW.out.size)
         clear hr10 bl)
      | (clear tk11; go_at_call 16; refine (HSM.out _ v10 v1 _ HR10.out (HB0.out.below HBW.out)).mono ?_; rintro e0 y11 ⟨rfl, hz⟩
         subst hz
         clear HR10)
      | (clear tk12; go_at_call 17; refine (HBS.out _ (HR0.out.below HBW.out) HLJ.out).mono ?_; rintro e0 y12 ⟨v12, rfl, hr12, bl⟩
         have HR12 : Hid (Reads y12 v12 (batchB l)) := hr12
         replace HBW : Hid (Below w.heap.size w y12) := HBW.out.trans (bl.mono HBW.out.size)
         clear hr12 bl)
      | (clear tk13; go_at_call 12; refine (HZR.out _ v12 HR12.out).mono ?_; rintro e0 y13 ⟨vz, rfl, hza, bl⟩
         have HZA : Hid (ReadsA y13 vz zs) := hza
         replace HBW : Hid (Below w.heap.size w y13) := HBW.out.trans (bl.mono HBW.out.size)
         clear hza bl HR12)
      | (clear tk14; go_at_call 15; refine (HZS.out trivial _ vz HZA.out (HR0.out.below HBW.out) HLJ.out).mono ?_; rintro e0 y14 ⟨rfl, bl⟩
         replace HBW : Hid (Below w.heap.size w y14) := HBW.out.trans (bl.mono HBW.out.size)
         clear bl HZA))
    all_goals
      go_ret
      exact ⟨rfl, HBW.out⟩
end Go.Proofs.YteklnooagjkclaaGreatDoor
/- What the listed variable gives: the rounds' words lie where the walks look for them. -/
namespace Go.Proofs.YteklnooagjkclaaGreatDoor
open Go.ChangeShapes Go.WideShapes Go.ChangeAt Go.WideMaps Go.WideElems Go.RowKit
set_option maxRecDepth 100000
theorem own : ownKnob Tryz.prog.godebug = none := by kernel_rfl
theorem gKw : Tryz.prog.globalNamed "blazon/sha.roundWords" = some 1 := by kernel_rfl
theorem tKw : (Tryz.prog.globals[1]?).map (·.type) = some 196 := by kernel_rfl
def laidK : List (String × DataW Unit) := [("blazon/sha.roundWords", Rows.laid_blazon_sha_roundWords)]
def kzs : List Int := kw.map fun x => (x.toNat : Int)
theorem laid_tab : (Rows.laid_blazon_sha_roundWords : DataW Unit) = Lib.tabData .u32 kzs := by kernel_rfl
theorem door_met (os : Os) (args : Array Value) : laidMetH Tryz.prog laidK ((World.doorLaid Tryz.prog 400 os).forCall (fun _ _ => 0) ⟨#[], args, []⟩).memory :=
  laidMetH_of_parts3 (fuel := 8) (laidMet_of_run' 8 (by kernel_rfl) (by kernel_rfl)) (by kernel_rfl) (by kernel_rfl)
theorem getD_toNat (l : List (BitVec 32)) (j : Nat) : (l.map fun x => (x.toNat : Int)).getD j 0 = ((l.getD j 0).toNat : Int) := by
  rw [List.getD_eq_getElem?_getD, List.getD_eq_getElem?_getD, List.getElem?_map]
  cases l[j]? <;> rfl
theorem kok_of_laid {W : World} (h : laidMetH Tryz.prog laidK W) : KOk W := by
  rw [MakeChecks.laidMetH_plain _ _ _ (by kernel_rfl)] at h
  unfold laidK at h
  rw [laid_tab] at h
  have hT := Lib.tabIs_of_head gKw tKw Tryz.underlying196 Tryz.underlying181 (by kernel_rfl) (by kernel_rfl) h
  intro j hj
  rw [hT.cell gKw j (by simpa [kzs, kw] using hj), kzs, getD_toNat]
end Go.Proofs.YteklnooagjkclaaGreatDoor
/- What a slice of bytes that came in gives: the bytes that it reads as; and that it reads so still behind a call that changed no old block. -/
namespace Go.Proofs.YteklnooagjkclaaGreatDoor
open Go.ChangeShapes Go.WideShapes Go.ChangeAt Go.WideMaps Go.WideElems Go.RowKit
set_option maxRecDepth 100000
theorem cells_byte : Tryz.prog.cellsOf 5 = 1 := by kernel_rfl
theorem laid_out : laidOutB Tryz.prog = true := by kernel_rfl
theorem readable_bytes : Tryz.prog.readableRec 23 = true := by kernel_rfl
theorem row_bytes : 23 < Tryz.prog.types.size := of_decide_eq_true (by kernel_rfl)
theorem byte_range {zs : List Int} (h : ∀ n ∈ zs, (Lit.int .u8 n).wf = true) (j : Nat) : 0 ≤ zs.getD j 0 ∧ zs.getD j 0 < 256 := by
  rw [List.getD_eq_getElem?_getD]
  cases hj : zs[j]? with
  | none => simp
  | some n =>
    have := h n (List.mem_of_getElem? hj)
    have := bounds_u8 this
    simp
    omega
end Go.Proofs.YteklnooagjkclaaGreatDoor
/- What a digest that came in gives: its 32 bytes. -/
namespace Go.Proofs.YteklnooagjkclaaGreatDoor
open Go.ChangeShapes Go.WideShapes Go.ChangeAt Go.WideMaps Go.WideElems Go.RowKit
set_option maxRecDepth 100000
end Go.Proofs.YteklnooagjkclaaGreatDoor
/- What a slice of acts and bytes that came in give, with their sizes (layer 15). -/
namespace Go.Proofs.YteklnooagjkclaaGreatDoor
open Go.ChangeShapes Go.WideShapes Go.ChangeAt Go.WideMaps Go.WideElems Go.RowKit
set_option maxRecDepth 100000
theorem cells_bytesJ : Tryz.prog.cellsOf 23 = 1 := by kernel_rfl
theorem cells_boolJ : Tryz.prog.cellsOf 4 = 1 := by kernel_rfl
theorem cells_str15 : Tryz.prog.cellsOf 9 = 1 := by kernel_rfl
theorem cells_act15 : Tryz.prog.cellsOf 62 = 3 := by kernel_rfl
theorem readable_acts15 : Tryz.prog.readableRec 22 = true := by kernel_rfl
theorem row_acts15 : 22 < Tryz.prog.types.size := of_decide_eq_true (by kernel_rfl)
theorem bytes_byteJ : Tryz.prog.bytesOf 5 = 1 := by kernel_rfl
theorem bytes_act15 : Tryz.prog.bytesOf 62 = 48 := by kernel_rfl
theorem weightsAll_memJ {H : Type} {P : Program} {e : TypeId} {q : Nat → Bool} : ∀ (l : List (DataW H)), (DataW.weightsAll P e l).all q = true → ∀ d ∈ l, (d.weights P e).all q = true
  | [], _, _, h => by cases h
  | x :: r, hl, d, h => by
    rw [DataW.weightsAll, List.all_append, Bool.and_eq_true] at hl
    rcases List.mem_cons.1 h with rfl | h
    · exact hl.1
    · exact weightsAll_memJ r hl.2 d h
theorem reads_sizedJ {H : Type} {enc : TypeId × Value → H} {W : World} {v : Value} {d : DataW H} {p : List MemPlace} {fuel : Nat} (hf : DataW.trod enc Tryz.prog W 0 (fun _ => true) true fuel 23 [v] = some (d, p)) :
    ∃ bs, Reads W v bs ∧ (∀ N, (d.weights Tryz.prog 23).all (· ≤ N) = true → bs.length ≤ N) := by
  rcases open_ints Tryz.underlying23 Tryz.underlying5 cells_byte hf with ⟨hcs, hx⟩ | ⟨a, len, cap, zs, hcs, _, hl, hm, hz, hx, hcell, hwz⟩
  · simp only [List.cons.injEq, and_true] at hcs
    subst hcs
    exact ⟨[], ⟨none, 0, rfl, Nat.le_refl _, fun _ => rfl, fun h => by cases h⟩, fun _ _ => Nat.zero_le _⟩
  · simp only [List.cons.injEq, and_true] at hcs
    subst hcs
    simp only [Prod.mk.injEq] at hx
    obtain ⟨rfl, rfl⟩ := hx
    simp only [if_true] at hz
    have hlen : ((zs.take len).map fun n => BitVec.ofInt 8 n).length = len := by simp; omega
    obtain ⟨ab, ao, spot⟩ := a
    refine ⟨(zs.take len).map fun n => BitVec.ofInt 8 n, ⟨some ⟨ab, ao, spot⟩, cap, by rw [hlen], by rw [hlen]; exact hl, (fun h => by cases h), fun hp => ?_⟩, ?_⟩
    · rw [hlen] at hp ⊢
      have hspot : spot = none := by simpa [Addr.add] using World.cell?_spot (hcell 0 (by omega))
      subst hspot
      refine ⟨ab, ao, rfl, fun j hj => ?_⟩
      have hcj := hcell j (by omega)
      rw [Addr.add_lit] at hcj
      rw [hcj]
      have hb := byte_range hwz j
      have e : ((zs.take len).map fun n => BitVec.ofInt 8 n).getD j 0 = BitVec.ofInt 8 (zs.getD j 0) := by
        rw [List.getD_eq_getElem?_getD, List.getElem?_map, List.getElem?_take_of_lt hj, List.getD_eq_getElem?_getD, List.getElem?_eq_getElem (show j < zs.length by omega)]
        rfl
      rw [e, BitVec.toNat_ofInt]
      congr 2
      omega
    · intro N hN
      rw [hlen]
      rw [DataW.weights] at hN
      simp only [Tryz.underlying23, bytes_byteJ, Nat.mul_one, List.all_cons, Bool.and_eq_true, decide_eq_true_eq] at hN
      have h3 : (lits (H := H) .u8 (zs.take len)).length = len := by simp [lits]; omega
      have := hN.1
      omega
theorem strB_of (s : ByteArray) : ∃ nm, s = strB nm := by
  refine ⟨s.data.toList.map fun b => BitVec.ofNat 8 b.toNat, ?_⟩
  have h := strB_data (s.data.toList.map fun b => BitVec.ofNat 8 b.toNat)
  have h2 : (s.data.toList.map fun b => BitVec.ofNat 8 b.toNat).map (fun b => UInt8.ofNat b.toNat) = s.data.toList := by
    rw [List.map_map]
    have : ((fun b : BitVec 8 => UInt8.ofNat b.toNat) ∘ fun b : UInt8 => BitVec.ofNat 8 b.toNat) = id := by
      funext b
      simp only [Function.comp, BitVec.toNat_ofNat, id]
      have := b.toNat_lt
      rw [Nat.mod_eq_of_lt (by omega)]
      simp
    rw [this, List.map_id]
  rw [h2] at h
  obtain ⟨d⟩ := s
  generalize strB _ = t at *
  obtain ⟨e⟩ := t
  simp only at h
  rw [Array.ext' h]
theorem reads_sized14 {H : Type} {enc : TypeId × Value → H} {W : World} {base : Nat} {v : Value} {d : DataW H} {p : List MemPlace} (hval : Value.okWide Tryz.prog W .any base 23 v)
    (h : DataW.Trod enc Tryz.prog W 0 (fun _ => true) true 23 v d p) :
    ∃ bs, Reads W v bs ∧ (∀ N, (d.weights Tryz.prog 23).all (· ≤ N) = true → bs.length ≤ N) ∧ ∀ x ∈ p, x.block < W.heap.size := by
  obtain ⟨a1, len, cap, rfl⟩ := okWide_slice Tryz.underlying23 hval
  obtain ⟨fuel, hf⟩ := h
  have hp0 := DataW.trod_lt _ _ _ _ hf
  obtain ⟨bs, h1, h2⟩ := reads_sizedJ (v := .slice a1 len cap) hf
  exact ⟨bs, h1, h2, hp0⟩
theorem act_sized {H : Type} {enc : TypeId × Value → H} {W : World} {l : List Value} {d : DataW H} {p : List MemPlace} {fuel : Nat} (hf : DataW.trod enc Tryz.prog W 0 (fun _ => true) true fuel 62 l = some (d, p)) :
    ∃ (a : ActT) (vd : Value), l = actC a vd ∧ Reads W vd a.data ∧ (∀ N, (d.weights Tryz.prog 62).all (· ≤ N) = true → a.key.length ≤ N ∧ a.data.length ≤ N) := by
  obtain ⟨y0, y1, y2, n, hx, hl, h0, h1, h2⟩ := Go.Deep.trod_struct3 Tryz.underlying62 hf
  rw [cells_act15] at hl
  rw [cells_str15] at h0
  rw [cells_boolJ] at h1
  rw [cells_bytesJ] at h2
  match l, hl with
  | [c0, c1, c2], _ =>
    obtain ⟨s, e0, ex0, _⟩ := DataW.trod_string Tryz.underlying9 h0
    obtain ⟨b, e1, _⟩ := DataW.trod_bool Tryz.underlying4 h1
    obtain ⟨bs, hr, hbl⟩ := reads_sizedJ (v := c2) h2
    simp at e0 e1
    subst e0 e1
    obtain ⟨nm, rfl⟩ := strB_of s
    refine ⟨⟨nm, b, bs⟩, c2, rfl, hr, fun N hN => ?_⟩
    simp only [Prod.mk.injEq] at hx
    rw [hx.1, DataW.weights] at hN
    simp only [Tryz.underlying62, List.map_cons, List.map_nil, DataW.weightsEach, List.all_append, Bool.and_eq_true] at hN
    refine ⟨?_, hbl N hN.2.2.1⟩
    have h1 := hN.1
    rw [ex0] at h1
    simp only [DataW.weights, List.all_cons, List.all_nil, Bool.and_true, decide_eq_true_eq] at h1
    have h2 : (strB nm).size = nm.length := strB_size nm
    have h3 : (strB nm).data.toList.length = (strB nm).size := by rw [Array.length_toList]; rfl
    show List.length nm ≤ N
    omega
theorem acts15_sized {H : Type} {enc : TypeId × Value → H} {W : World} {base : Nat} {v : Value} {d : DataW H} {p : List MemPlace} (hval : Value.okWide Tryz.prog W .any base 22 v)
    (h : DataW.Trod enc Tryz.prog W 0 (fun _ => true) true 22 v d p) :
    ∃ l, ReadsA W v l ∧ (∀ N, (d.weights Tryz.prog 22).all (· ≤ N) = true → ∀ a ∈ l, a.key.length ≤ N ∧ a.data.length ≤ N) ∧ ∀ x ∈ p, x.block < W.heap.size := by
  obtain ⟨a1, len, cap, rfl⟩ := okWide_slice Tryz.underlying22 hval
  obtain ⟨fuel, hf⟩ := h
  have hp0 := DataW.trod_lt _ _ _ _ hf
  rcases Go.Deep.open_slice Tryz.underlying22 hf with ⟨hcs, hx⟩ | ⟨a, len', cap', m, n, D, Pl, hcs, _, hl, hm, hmm, hx, hV⟩
  · simp [Value.cells] at hcs
    obtain ⟨rfl, rfl, rfl⟩ := hcs
    exact ⟨[], ReadsA.nil _, (fun _ _ _ h => by cases h), hp0⟩
  · simp [Value.cells] at hcs
    obtain ⟨rfl, rfl, rfl⟩ := hcs
    simp only [Prod.mk.injEq] at hx
    obtain ⟨rfl, rfl⟩ := hx
    simp only [if_true] at hmm
    subst hmm
    rw [cells_act15] at hV
    have : Inhabited (ActT × Value) := ⟨(⟨[], false, []⟩, .int .i64 0)⟩
    obtain ⟨B, hB⟩ := Go.Deep.choose_lt (α := ActT × Value) (p := fun i q => W.cells? 0 (a.add (i * 3)) 3 = some (actC q.1 q.2) ∧ Reads W q.2 q.1.data ∧ (∀ N, ((D i).weights Tryz.prog 62).all (· ≤ N) = true → q.1.key.length ≤ N ∧ q.1.data.length ≤ N)) (fun i hi => by
      obtain ⟨cs', h1, h2⟩ := hV i hi
      obtain ⟨o, vB, rfl, h3, h4⟩ := act_sized h2
      exact ⟨(o, vB), h1, h3, h4⟩)
    have hlen : ((List.range len).map fun i => (B i).1).length = len := by simp
    obtain ⟨ab, ao, spot⟩ := a
    have cell : ∀ i, i < m → ∀ j, j < 3 → W.cell? ((⟨ab, ao, spot⟩ : Addr).add (i * 3 + j)) = (actC (B i).1 (B i).2)[j]? := by
      intro i hi j hj
      obtain ⟨h1, _⟩ := hB i hi
      obtain ⟨_, _, h4⟩ := World.cells?_some h1
      have := h4 j hj
      rw [Go.Deep.add_add] at this
      exact this
    have hspot : 0 < m → spot = none := fun hp => by
      have h := cell 0 hp 0 (by omega)
      rw [show (actC (B 0).1 (B 0).2)[0]? = some (.string (strB (B 0).1.key)) from rfl] at h
      simpa [Addr.add] using World.cell?_spot h
    refine ⟨(List.range len).map fun i => (B i).1, ⟨some ⟨ab, ao, spot⟩, m, by rw [hlen], by rw [hlen]; exact hl, (fun e => by cases e), fun hp => ?_⟩, ?_, hp0⟩
    · rw [hlen] at hp ⊢
      have hs := hspot (by omega)
      subst hs
      refine ⟨ab, ao, rfl, fun j hj => ?_⟩
      have e : ((List.range len).map fun i => (B i).1).getD j ⟨[], false, []⟩ = (B j).1 := by simp [hj]
      rw [e]
      refine ⟨(B j).2, fun i u hu => ?_, (hB j (by omega)).2.1⟩
      have hi : i < 3 := by have h := (List.getElem?_eq_some_iff.1 hu).1; exact h
      have h0 := cell j (by omega) i hi
      rw [Addr.add_lit, hu] at h0
      rw [Nat.add_assoc]
      exact h0
    · intro N hN o ho
      rw [DataW.weights] at hN
      simp only [Tryz.underlying22, bytes_act15, List.all_cons, List.all_append, Bool.and_eq_true, decide_eq_true_eq, List.length_map, List.length_range] at hN
      obtain ⟨i, hi, rfl⟩ := List.mem_map.1 ho
      have hi2 := List.mem_range.1 hi
      exact (hB i (by omega)).2.2 N (weightsAll_memJ _ hN.2.1 _ (List.mem_map_of_mem hi))
end Go.Proofs.YteklnooagjkclaaGreatDoor

/- The walk of what the statement CodecReader hands to Read. -/
import Derived.Test.YtldbcglakeggaaaQRd
namespace Go.Proofs.Ytldbcglakeggaaa
open Go.RowKit
/-- what the statement's own reading comes to -/
def rdSpec (most : Int) (l : List (BitVec 8)) : Option ((Nat × List (BitVec 8) × List (BitVec 8)) × List (BitVec 8)) :=
  if most < 0 then none else
  match readCount most.toNat l with
  | none => none
  | some (n, r) =>
    if n = 2 then none else
    match (if 0 < n then cut 32 r else some (zb32, r)) with
    | none => none
    | some (d, r2) =>
      match readText r2 with
      | none => none
      | some (t, r3) => some ((n, d, t), r3)
/-- the world w' is w, below g + 8, but for the three variables and the input -/
structure FrC (g : Nat) (w w' : World) : Prop where
  os : w'.os = w.os
  tape : w'.tape = w.tape
  output : w'.output = w.output
  size : w.heap.size ≤ w'.heap.size
  block : ∀ k, k < g + 8 → k ≠ g + 5 → k ≠ g + 1 → k ≠ g + 2 → k ≠ g + 3 → w'.heap[k]? = w.heap[k]?
theorem FrC.refl (g : Nat) (w : World) : FrC g w w := ⟨rfl, rfl, rfl, Nat.le_refl _, fun _ _ _ _ _ _ => rfl⟩
theorem FrC.only {g : Nat} {a b c : World} (h : FrC g a b) (k : Only (g + 5) b c) (hB : g + 8 ≤ b.heap.size) : FrC g a c :=
  ⟨k.os.trans h.os, k.tape.trans h.tape, k.output.trans h.output, Nat.le_trans h.size k.size, fun i h1 h2 h3 h4 h5 => (k.block i h2 (by omega)).trans (h.block i h1 h2 h3 h4 h5)⟩
/-- the world w' is w but for block x -/
structure At (x : Nat) (w w' : World) : Prop where
  os : w'.os = w.os
  tape : w'.tape = w.tape
  output : w'.output = w.output
  size : w'.heap.size = w.heap.size
  block : ∀ k, k ≠ x → w'.heap[k]? = w.heap[k]?
theorem At.refl (x : Nat) (w : World) : At x w w := ⟨rfl, rfl, rfl, rfl, fun _ _ => rfl⟩
theorem At.setCell {x : Nat} {w w' : World} (h : At x w w') (o : Nat) (v : Value) : At x w (w'.setCell ⟨x, o, none⟩ v) :=
  ⟨h.os, h.tape, h.output, by have := h.size; simp [World.setCell]; omega, fun k hk => (Below.heap_setCell _ _ _ _ (by exact hk)).trans (h.block k hk)⟩
theorem At.setCells {x : Nat} {w : World} : ∀ (vs : List Value) (o : Nat) (w' : World), At x w w' → At x w (w'.setCells x o vs)
  | [], _, _, h => h
  | v :: r, o, w', h => by rw [World.setCells]; exact At.setCells r (o + 1) _ (h.setCell o v)
theorem FrC.at {g x : Nat} {a b c : World} (h : FrC g a b) (k : At x b c) (hx : x = g + 1 ∨ x = g + 2 ∨ x = g + 3) : FrC g a c :=
  ⟨k.os.trans h.os, k.tape.trans h.tape, k.output.trans h.output, by rw [k.size]; exact h.size, fun i h1 h2 h3 h4 h5 => (k.block i (by omega)).trans (h.block i h1 h2 h3 h4 h5)⟩
theorem Blk.at {w w' : World} {g x : Nat} {cs : List Value} {t : TypeId} (h : Blk w g cs t) (k : At x w w') (hne : g ≠ x) : Blk w' g cs t := by
  unfold Blk at *
  rw [k.block g hne]; exact h
theorem Reads.at {w w' : World} {x : Nat} {v : Value} {l : List (BitVec 8)} (h : Reads w v l) (k : At x w w') (hv : 0 < l.length → ∀ j, v.ownBlock = some j → j ≠ x) : Reads w' v l := by
  obtain ⟨ad, cap, rfl, hc, hn, hx⟩ := h
  refine ⟨ad, cap, rfl, hc, hn, fun hp => ?_⟩
  obtain ⟨b, off, rfl, h2⟩ := hx hp
  refine ⟨b, off, rfl, fun j hj => ?_⟩
  rw [World.cell?_of_block (w := w) (k.block b (hv hp b rfl))]
  exact h2 j hj
/-- the closure's variables, and the reader -/
structure Cv (g : Nat) (most : Int) (w1 : World) (vb : Value) (n : Int) (d : List (BitVec 8)) (v : Value) (l : List (BitVec 8)) (w : World) : Prop where
  rd : Rd w (g + 7) (g + 5) v l
  mm : Blk w g [.int .i64 most] 3
  nn : Blk w (g + 1) [.int .i64 n] 3
  dd : Blk w (g + 2) (cb d) 28
  tt : Blk w (g + 3) [.slice none 0 0] 22
  fr : FrC g w1 w
  ob : v.ownBlock = vb.ownBlock
  sz : g + 8 ≤ w.heap.size
theorem Cv.only {g : Nat} {most : Int} {w1 w w' : World} {vb v v' : Value} {n : Int} {d l l' : List (BitVec 8)} (h : Cv g most w1 vb n d v l w) (ho : Only (g + 5) w w') (hr : Rd w' (g + 7) (g + 5) v' l') (hob : v'.ownBlock = v.ownBlock) : Cv g most w1 vb n d v' l' w' :=
  ⟨hr, h.mm.only ho (by omega), h.nn.only ho (by omega), h.dd.only ho (by omega), h.tt.only ho (by omega), h.fr.only ho h.sz, hob.trans h.ob, Nat.le_trans h.sz ho.size⟩
theorem Cv.setN {g : Nat} {most : Int} {w1 w : World} {vb v : Value} {n : Int} {d l : List (BitVec 8)} (h : Cv g most w1 vb n d v l w) (hv : ∀ j, vb.ownBlock = some j → j < g) (n' : Int) : Cv g most w1 vb n' d v l (w.setCell ⟨g + 1, 0, none⟩ (.int .i64 n')) := by
  have ha : At (g + 1) w (w.setCell ⟨g + 1, 0, none⟩ (.int .i64 n')) := (At.refl _ _).setCell _ _
  exact ⟨⟨h.rd.rd.at ha (by omega), h.rd.inp.at ha (by omega), h.rd.byt.at ha (fun _ j hj => by have := hv j (h.ob ▸ hj); omega)⟩, h.mm.at ha (by omega), h.nn.set 0 (.int .i64 n'), h.dd.at ha (by omega), h.tt.at ha (by omega), h.fr.at ha (by omega), h.ob, by rw [ha.size]; exact h.sz⟩
theorem Cv.setD {g : Nat} {most : Int} {w1 w : World} {vb v : Value} {n : Int} {d l : List (BitVec 8)} (h : Cv g most w1 vb n d v l w) (hv : ∀ j, vb.ownBlock = some j → j < g) (d' : List (BitVec 8)) (hl : (cb d').length = (cb d).length) : Cv g most w1 vb n d' v l (w.setCells (g + 2) 0 (cb d')) := by
  have ha : At (g + 2) w (w.setCells (g + 2) 0 (cb d')) := At.setCells _ _ _ (At.refl _ _)
  exact ⟨⟨h.rd.rd.at ha (by omega), h.rd.inp.at ha (by omega), h.rd.byt.at ha (fun _ j hj => by have := hv j (h.ob ▸ hj); omega)⟩, h.mm.at ha (by omega), h.nn.at ha (by omega), h.dd.whole (cb d') hl, h.tt.at ha (by omega), h.fr.at ha (by omega), h.ob, by rw [ha.size]; exact h.sz⟩
def CvA (g : Nat) (most : Int) (l : List (BitVec 8)) (w1 : World) (l2 : List (BitVec 8)) (w2 : World) : Prop :=
  ∃ (n : Nat) (d t : List (BitVec 8)) (vt : Value), rdSpec most l = some ((n, d, t), l2) ∧ d.length = 32 ∧ Blk w2 (g + 1) [.int .i64 (n : Int)] 3 ∧ Blk w2 (g + 2) (cb d) 28 ∧ Blk w2 (g + 3) [vt] 22 ∧ Reads w2 vt t ∧ (∀ j, vt.ownBlock = some j → g + 8 ≤ j) ∧ FrC g w1 w2
def CvB (g : Nat) (most : Int) (l : List (BitVec 8)) (w1 w2 : World) : Prop := rdSpec most l = none ∧ FrC g w1 w2
theorem Cv.threw {g : Nat} {most : Int} {w1 w w' : World} {vb v : Value} {n : Int} {d l l0 : List (BitVec 8)} {e : Ending} (h : Cv g most w1 vb n d v l w) (hT : Threw (g + 5) w e w') (hs : rdSpec most l0 = none) : Does (g + 4) (CvA g most l0 w1) (CvB g most l0 w1) w1 (thrown (g + 5)) w' := by
  have hf := h.fr.only hT.onl h.sz
  obtain ⟨v', hb, ad, m, c, hv⟩ := hT.bad
  exact ⟨hf.size, fun k h1 h2 h3 => hf.block k (by omega) (by omega) (by omega) (by omega) (by omega), Or.inr ⟨rfl, ⟨v', ad, m, c, hv, hb⟩, hs, hf⟩⟩
theorem Cv.done {g : Nat} {most : Int} {w1 w w2 : World} {vb v v2 vt : Value} {n : Nat} {d l l0 t r : List (BitVec 8)} (h : Cv g most w1 vb (n : Int) d v l w) (hv : ∀ j, vb.ownBlock = some j → j < g) (hd : d.length = 32) (ho : Only (g + 5) w w2) (hrd : Rd w2 (g + 7) (g + 5) v2 r) (hob : v2.ownBlock = v.ownBlock) (hown : OwnB w2 w.heap.size vt t) (hs : rdSpec most l0 = some ((n, d, t), r)) :
    Does (g + 4) (CvA g most l0 w1) (CvB g most l0 w1) w1 (.returned (.tuple #[])) (w2.setCell ⟨g + 3, 0, none⟩ vt) := by
  have h2 := h.only ho hrd hob
  have ha : At (g + 3) w2 (w2.setCell ⟨g + 3, 0, none⟩ vt) := (At.refl _ _).setCell _ _
  have hf := h2.fr.at ha (by omega)
  have hge : ∀ j, vt.ownBlock = some j → g + 8 ≤ j := fun j hj => Nat.le_trans h.sz (hown.own j hj)
  exact ⟨hf.size, fun k h1 h2 h3 => hf.block k (by omega) (by omega) (by omega) (by omega) (by omega), Or.inl ⟨rfl, v2, r,
    ⟨hrd.rd.at ha (by omega), hrd.inp.at ha (by omega), hrd.byt.at ha (fun _ j hj => by have := hv j (h2.ob ▸ hj); omega)⟩,
    n, d, t, vt, hs, hd, h2.nn.at ha (by omega), h2.dd.at ha (by omega), h2.tt.set 0 vt, hown.reads.at ha (fun _ j hj => by have := hge j hj; omega), hge, hf⟩⟩
theorem rdSpec_neg {most : Int} (h : most < 0) (l : List (BitVec 8)) : rdSpec most l = none := by unfold rdSpec; rw [if_pos h]
theorem rdSpec_pos (most : Nat) (l : List (BitVec 8)) : rdSpec (most : Int) l = match readCount most l with
  | none => none
  | some (n, r) =>
    if n = 2 then none else
    match (if 0 < n then cut 32 r else some (zb32, r)) with
    | none => none
    | some (d, r2) =>
      match readText r2 with
      | none => none
      | some (t, r3) => some ((n, d, t), r3) := by
  unfold rdSpec
  rw [if_neg (by omega), Int.toNat_natCast]
def rdTail (n : Nat) (d r : List (BitVec 8)) : Option ((Nat × List (BitVec 8) × List (BitVec 8)) × List (BitVec 8)) :=
  match readText r with
  | none => none
  | some (t, r3) => some ((n, d, t), r3)
theorem rdTail_none {n : Nat} {d r : List (BitVec 8)} (h : readText r = none) : rdTail n d r = none := by unfold rdTail; rw [h]
theorem rdTail_some {n : Nat} {d r t r3 : List (BitVec 8)} (h : readText r = some (t, r3)) : rdTail n d r = some ((n, d, t), r3) := by unfold rdTail; rw [h]
theorem rdSpec_two {m n : Nat} {l r : List (BitVec 8)} (h : readCount m l = some (n, r)) (h2 : n = 2) : rdSpec (m : Int) l = none := by
  rw [rdSpec_pos, h]
  simp only [if_pos h2]
theorem rdSpec_zero {m n : Nat} {l r : List (BitVec 8)} (h : readCount m l = some (n, r)) (h0 : ¬ 0 < n) : rdSpec (m : Int) l = rdTail n zb32 r := by
  rw [rdSpec_pos, h]
  simp only [if_neg h0, if_neg (show ¬ n = 2 by omega)]
  rfl
theorem rdSpec_none {m n : Nat} {l r : List (BitVec 8)} (h : readCount m l = some (n, r)) (h0 : 0 < n) (h2 : cut 32 r = none) : rdSpec (m : Int) l = none := by
  rw [rdSpec_pos, h]
  simp only [if_pos h0, h2]
  split <;> rfl
theorem rdSpec_some {m n : Nat} {l r d r2 : List (BitVec 8)} (h : readCount m l = some (n, r)) (h0 : 0 < n) (hn : ¬ n = 2) (h2 : cut 32 r = some (d, r2)) : rdSpec (m : Int) l = rdTail n d r2 := by
  rw [rdSpec_pos, h]
  simp only [if_pos h0, h2, if_neg hn]
  rfl
theorem readCount_nil (most : Nat) (n : Nat) (r l : List (BitVec 8)) (h : readCount most l = some (n, r)) : 0 < l.length := by
  cases l with
  | nil => simp [readCount, readNum, decNum] at h
  | cons x y => simp
theorem cut_len {n : Nat} {l a r : List (BitVec 8)} (h : cut n l = some (a, r)) : a.length = n := by
  unfold cut at h
  split at h
  · simp only [Option.some.injEq, Prod.mk.injEq] at h
    rw [← h.1, List.length_take]; omega
  · cases h
end Go.Proofs.Ytldbcglakeggaaa

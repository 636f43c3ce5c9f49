/- A few texts in a row, made by the call itself; a Hash beside another one that is written to. -/
import Derived.Test.YtaleeaocmomjlaaDoorJoin
namespace Go.Proofs.YtaleeaocmomjlaaDoor
open Go.RowKit
theorem HashIs.only {t : TypeId} {w w' : World} {g g' : Nat} {m : List (BitVec 8)} (h : HashIs t w g m) (ho : Only g' w w') (hne : g ≠ g') : HashIs t w' g m := by
  obtain ⟨s, blk, h1, h2⟩ := h
  exact ⟨s, blk, h1.only ho hne, h2⟩
theorem readsL_one {w : World} {va : Value} {la : List (BitVec 8)} (ha : Reads w va la) :
    ReadsL (w.alloc (.cells #[va] 24)) (.slice (some ⟨w.heap.size, 0, none⟩) 1 1) [la] := by
  have hb : Below w.heap.size w (w.alloc (.cells #[va] 24)) := (Below.refl _ _).alloc (Nat.le_refl _) _
  refine ⟨_, _, rfl, Nat.le_refl _, (fun h => by cases h), fun _ => ⟨w.heap.size, 0, rfl, fun j hj => ?_⟩⟩
  match j, hj with
  | 0, _ => exact ⟨va, by rw [World.cell?_alloc_mark]; rfl, ha.below hb⟩
theorem readsL_two {w : World} {va vb : Value} {la lb : List (BitVec 8)} (ha : Reads w va la) (hb : Reads w vb lb) :
    ReadsL (w.alloc (.cells #[va, vb] 24)) (.slice (some ⟨w.heap.size, 0, none⟩) 2 2) [la, lb] := by
  have hbl : Below w.heap.size w (w.alloc (.cells #[va, vb] 24)) := (Below.refl _ _).alloc (Nat.le_refl _) _
  refine ⟨_, _, rfl, Nat.le_refl _, (fun h => by cases h), fun _ => ⟨w.heap.size, 0, rfl, fun j hj => ?_⟩⟩
  match j, hj with
  | 0, _ => exact ⟨va, by rw [World.cell?_alloc_mark]; rfl, ha.below hbl⟩
  | 1, _ => exact ⟨vb, by rw [World.cell?_alloc_mark]; rfl, hb.below hbl⟩
theorem readsL_three {w : World} {va vb vc : Value} {la lb lc : List (BitVec 8)} (ha : Reads w va la) (hb : Reads w vb lb) (hc : Reads w vc lc) :
    ReadsL (w.alloc (.cells #[va, vb, vc] 24)) (.slice (some ⟨w.heap.size, 0, none⟩) 3 3) [la, lb, lc] := by
  have hbl : Below w.heap.size w (w.alloc (.cells #[va, vb, vc] 24)) := (Below.refl _ _).alloc (Nat.le_refl _) _
  refine ⟨_, _, rfl, Nat.le_refl _, (fun h => by cases h), fun _ => ⟨w.heap.size, 0, rfl, fun j hj => ?_⟩⟩
  match j, hj with
  | 0, _ => exact ⟨va, by rw [World.cell?_alloc_mark]; rfl, ha.below hbl⟩
  | 1, _ => exact ⟨vb, by rw [World.cell?_alloc_mark]; rfl, hb.below hbl⟩
  | 2, _ => exact ⟨vc, by rw [World.cell?_alloc_mark]; rfl, hc.below hbl⟩
theorem readsL_four {w : World} {va vb vc vd : Value} {la lb lc ld : List (BitVec 8)} (ha : Reads w va la) (hb : Reads w vb lb) (hc : Reads w vc lc) (hd : Reads w vd ld) :
    ReadsL (w.alloc (.cells #[va, vb, vc, vd] 24)) (.slice (some ⟨w.heap.size, 0, none⟩) 4 4) [la, lb, lc, ld] := by
  have hbl : Below w.heap.size w (w.alloc (.cells #[va, vb, vc, vd] 24)) := (Below.refl _ _).alloc (Nat.le_refl _) _
  refine ⟨_, _, rfl, Nat.le_refl _, (fun h => by cases h), fun _ => ⟨w.heap.size, 0, rfl, fun j hj => ?_⟩⟩
  match j, hj with
  | 0, _ => exact ⟨va, by rw [World.cell?_alloc_mark]; rfl, ha.below hbl⟩
  | 1, _ => exact ⟨vb, by rw [World.cell?_alloc_mark]; rfl, hb.below hbl⟩
  | 2, _ => exact ⟨vc, by rw [World.cell?_alloc_mark]; rfl, hc.below hbl⟩
  | 3, _ => exact ⟨vd, by rw [World.cell?_alloc_mark]; rfl, hd.below hbl⟩
theorem below_alloc (w : World) (o : Obj) : Below w.heap.size w (w.alloc o) := (Below.refl _ _).alloc (Nat.le_refl _) _
end Go.Proofs.YtaleeaocmomjlaaDoor

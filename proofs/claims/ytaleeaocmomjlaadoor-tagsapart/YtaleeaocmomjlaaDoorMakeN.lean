/- make of a slice of bytes, of any length that a memory bears; and what a block of bytes reads as. -/
import Derived.Test.YtaleeaocmomjlaaDoorSame
namespace Go.Proofs.YtaleeaocmomjlaaDoor
open Go.RowKit
theorem make_n (kd : IntKind) (k : Nat) (hk : k < 281474976710600) (w : World) : (Instr.makeSlice 24 (.int kd (k : Int)) (.int kd (k : Int))).run Tryd.prog w =
    .ok (.slice (some ⟨w.heap.size, 0, none⟩) k k) (w.alloc (.cells (cb (List.replicate k 0)).toArray 5)) := by
  obtain ⟨i0, hi, hz0, hz1, hz2⟩ := info_parts Tryd.infob
  rw [run_make (P := Tryd.prog) w 24 5 i0 _ Tryd.underlying24 hi hz0 kd kd _ _ (by omega) (by omega) (by rw [hz2]; omega) (by omega)]
  rw [Int.toNat_natCast, hz1, Nat.mul_one]
  congr 3
  simp [madeCells, cb, Value.cells, Nat.mod_one]
  apply Array.ext
  · simp
  · intro j h1 h2; simp
theorem Blk.reads {w : World} {g : Nat} {bs : List (BitVec 8)} {t : TypeId} (h : Blk w g (cb bs) t) {n c : Nat} (hn : n = bs.length) (hc : bs.length ≤ c) : Reads w (.slice (some ⟨g, 0, none⟩) n c) bs := by
  subst hn
  exact ⟨_, _, rfl, hc, (fun h => by cases h), fun _ => ⟨g, 0, rfl, fun j hj => by rw [h.cell, Nat.zero_add, cb_get _ j hj]⟩⟩
end Go.Proofs.YtaleeaocmomjlaaDoor

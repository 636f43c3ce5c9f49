/- The program's cache in memory: things in a row, linked both ways; the map (layer 16). -/
import Derived.Test.YtgmemibhddnjjaaKaPlain
import Derived.Maps.OwnSet
namespace Go.Proofs.Ytgmemibhddnjjaa
open Go.RowKit
set_option maxRecDepth 100000
def ptK (o : Option Nat) : Value := .pointer (o.map fun g => (⟨g, 0, none⟩ : Addr))
abbrev ThT := Nat × KV
/-- a thing's cells -/
def thC (kv : KV) (a b : Option Nat) : List Value := [.string kv.1, .int .i64 kv.2, ptK a, ptK b]
/-- a cache's cells -/
def caC (mo n m : Nat) (f l : Option Nat) (h ms : Nat) : List Value := [.int .i64 (mo : Int), .int .i64 (n : Int), .map (some m), ptK f, ptK l, .int .i64 (h : Int), .int .i64 (ms : Int)]
def prvK (T : List ThT) (i : Nat) : Option Nat := if i = 0 then none else (T[i - 1]?).map (·.1)
def nxtK (T : List ThT) (i : Nat) : Option Nat := (T[i + 1]?).map (·.1)
theorem neTK {w : World} {g g' : Nat} {cs cs' : List Value} {t t' : TypeId} (h : Blk w g cs t) (h' : Blk w g' cs' t') (ht : t ≠ t') : g ≠ g' := fun e => by
  subst e
  unfold Blk at h h'
  rw [h] at h'
  simp only [Option.some.injEq, Obj.cells.injEq] at h'
  exact ht h'.2.1
/-- nothing but the blocks of a list changed -/
structure OnlyL (L : List Nat) (w w' : World) : Prop where
  os : w'.os = w.os
  tape : w'.tape = w.tape
  output : w'.output = w.output
  size : w.heap.size = w'.heap.size
  block : ∀ k, k ∉ L → w'.heap[k]? = w.heap[k]?
theorem OnlyL.refl (L : List Nat) (w : World) : OnlyL L w w := ⟨rfl, rfl, rfl, rfl, fun _ _ => rfl⟩
theorem OnlyL.set {L : List Nat} {w w' : World} (h : OnlyL L w w') {g : Nat} (hg : g ∈ L) (i : Nat) (v : Value) : OnlyL L w (w'.setCell ⟨g, i, none⟩ v) :=
  ⟨h.os, h.tape, h.output, by rw [h.size]; simp [World.setCell], fun k hk => by rw [Below.heap_setCell _ _ _ _ (fun e => hk (by rw [e]; exact hg))]; exact h.block k hk⟩
theorem OnlyL.drew {L : List Nat} {w w' : World} (h : OnlyL L w w') : OnlyL L w w'.drew := ⟨h.os, h.tape, h.output, h.size, h.block⟩
theorem OnlyL.blk {L : List Nat} {w w' : World} (h : OnlyL L w w') {g : Nat} {cs : List Value} {t : TypeId} (hb : Blk w g cs t) (hg : g ∉ L) : Blk w' g cs t := by
  unfold Blk at *
  rw [h.block g hg]
  exact hb
theorem OnlyL.mut {L : List Nat} {w w' : World} (h : OnlyL L w w') {P : Nat → Prop} (hP : ∀ k ∈ L, P k) : Mut P w w' := ⟨h.os, h.tape, h.output, Nat.le_of_eq h.size, fun k _ hn => h.block k (fun hk => hn (hP k hk))⟩
end Go.Proofs.Ytgmemibhddnjjaa

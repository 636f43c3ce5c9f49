/- What the walks of the codec share: bytes in memory, appends, the texts' comparison and join. -/
import Derived.Test.YtgmemibhddnjjaaChecked
import Derived.Test.YtgmemibhddnjjaaCodecPlain
import Derived.Test.YtgmemibhddnjjaaMem
import Derived.WalkSpells
import Derived.WalkLawsBesides
import Derived.Laws.CopyOwn
import Derived.StillTailTactics
import Derived.Laws.AppendOwnNone
import Derived.Deep.RegionLaw
import Derived.Deep.RegionWith
namespace Go.Proofs.Ytgmemibhddnjjaa
open Go.RowKit
set_option maxRecDepth 100000
/-- the world w' is w but for block g and new blocks -/
structure Only (g : Nat) (w w' : World) : Prop where
  os : w'.os = w.os
  tape : w'.tape = w.tape
  output : w'.output = w.output
  size : w.heap.size ≤ w'.heap.size
  block : ∀ k, k ≠ g → k < w.heap.size → w'.heap[k]? = w.heap[k]?
theorem Only.refl (g : Nat) (w : World) : Only g w w := ⟨rfl, rfl, rfl, Nat.le_refl _, fun _ _ _ => rfl⟩
theorem Only.trans {g : Nat} {a b c : World} (h : Only g a b) (k : Only g b c) : Only g a c :=
  ⟨k.os.trans h.os, k.tape.trans h.tape, k.output.trans h.output, Nat.le_trans h.size k.size, fun i hi hl => (k.block i hi (Nat.lt_of_lt_of_le hl h.size)).trans (h.block i hi hl)⟩
theorem Only.drewN {g : Nat} {a b : World} (h : Only g a b) (n : Nat) : Only g a (b.drewN n) := ⟨h.os, h.tape, h.output, h.size, h.block⟩
theorem Only.drew {g : Nat} {a b : World} (h : Only g a b) : Only g a b.drew := ⟨h.os, h.tape, h.output, h.size, h.block⟩
theorem Only.setCell {g : Nat} {a b : World} (h : Only g a b) (i : Nat) (v : Value) : Only g a (b.setCell ⟨g, i, none⟩ v) :=
  h.trans ⟨rfl, rfl, rfl, by simp [World.setCell], fun k hk _ => Below.heap_setCell _ _ _ _ hk⟩
theorem Only.setCells {g : Nat} {a : World} : ∀ (vs : List Value) (o : Nat) (w : World), Only g a w → Only g a (w.setCells g o vs)
  | [], _, _, h => h
  | v :: r, o, w, h => by rw [World.setCells]; exact Only.setCells r (o + 1) _ (h.setCell o v)
theorem Only.of_below {g : Nat} {w w' : World} (h : Below w.heap.size w w') : Only g w w' := ⟨h.os, h.tape, h.output, h.size, fun k _ hk => h.block k hk⟩
theorem Only.below {g : Nat} {w w' : World} (h : Only g w w') {B : Nat} (hg : B ≤ g) (hB : B ≤ w.heap.size) : Below B w w' := ⟨h.os, h.tape, h.output, h.size, fun k hk => h.block k (by omega) (by omega)⟩
theorem Blk.only {w w' : World} {g g' : Nat} {cs : List Value} {t : TypeId} (h : Blk w g cs t) (ho : Only g' w w') (hne : g ≠ g') : Blk w' g cs t := by
  have := h.lt
  unfold Blk at *
  rw [ho.block g hne this]; exact h
theorem Only.cell {g : Nat} {w w' : World} (h : Only g w w') {p : Addr} (hp : p.block ≠ g) {v : Value} (hv : w.cell? p = some v) : w'.cell? p = some v := by
  rw [World.cell?_of_block (w := w) (h.block p.block hp (block_lt_of_cell hv))]; exact hv

/-- the slice v reads as the bytes bs -/
def Reads (w : World) (v : Value) (bs : List (BitVec 8)) : Prop :=
  ∃ ad cap, v = .slice ad bs.length cap ∧ bs.length ≤ cap ∧ (ad = none → cap = 0) ∧ (0 < bs.length → ∃ b off, ad = some ⟨b, off, none⟩ ∧ ∀ j, j < bs.length → w.cell? ⟨b, off + j, none⟩ = some (.int .u8 ((bs.getD j 0).toNat : Int)))
theorem Reads.below {w w' : World} {v : Value} {bs : List (BitVec 8)} (h : Reads w v bs) (hb : Below w.heap.size w w') : Reads w' v bs := by
  obtain ⟨ad, cap, hv, hc, hn, hx⟩ := h
  refine ⟨ad, cap, hv, hc, hn, fun hp => ?_⟩
  obtain ⟨b, off, h1, h2⟩ := hx hp
  exact ⟨b, off, h1, fun j hj => by rw [hb.cell (p := ⟨b, off + j, none⟩) (block_lt_of_cell (h2 j hj))]; exact h2 j hj⟩
theorem Try.infob : (Try.prog.info? 5).map (fun i => (i.zero, i.size, i.bytes)) = some (some (.int .u8 0), 1, 1) := by kernel_rfl
theorem Blk.reads {w : World} {g : Nat} {bs : List (BitVec 8)} {t : TypeId} (h : Blk w g (cb bs) t) {n c : Nat} (hn : n = bs.length) (hc : bs.length ≤ c) : Reads w (.slice (some ⟨g, 0, none⟩) n c) bs := by
  subst hn
  exact ⟨_, _, rfl, hc, (fun h => by cases h), fun _ => ⟨g, 0, rfl, fun j hj => by rw [h.cell, Nat.zero_add, cb_get _ j hj]⟩⟩
/-- the slice v, the call's own from block base on, holds the bytes l -/
def OwnB (w : World) (base : Nat) (v : Value) (l : List (BitVec 8)) : Prop := w.ownsRow base 5 1 v l.length (cb l)
theorem OwnB.nil (w : World) (base : Nat) : OwnB w base (.slice none 0 0) [] := World.ownsRow_nil _ _ _ _
theorem OwnB.reads {w : World} {base : Nat} {v : Value} {l : List (BitVec 8)} (h : OwnB w base v l) : Reads w v l := by
  obtain ⟨h1, h2⟩ := h
  rcases h2 with ⟨rfl, h0⟩ | ⟨g, cap, cur, rfl, hg, hh, hc, hm, hs, ht⟩
  · exact ⟨none, 0, by rw [h0], by omega, fun _ => rfl, fun hp => by omega⟩
  · refine ⟨_, cap, rfl, hc, (fun h => by cases h), fun _ => ⟨g, 0, rfl, fun j hj => ?_⟩⟩
    rw [cell_of_row w g (0 + j) cur _ (0, 0) hh, Nat.zero_add]
    rw [Nat.mul_one] at ht
    have := cb_get l j hj
    rw [← ht, List.getElem?_take_of_lt hj] at this
    simpa using this
theorem OwnB.below {w w' : World} {base B : Nat} {v : Value} {l : List (BitVec 8)} (h : OwnB w base v l) (hb : Below B w w') (hB : w.heap.size ≤ B) : OwnB w' base v l := by
  obtain ⟨h1, h2⟩ := h
  refine ⟨h1, ?_⟩
  rcases h2 with h2 | ⟨g, cap, cur, hv, hg, hh, r⟩
  · exact Or.inl h2
  · have hlt : g < w.heap.size := by
      rcases Nat.lt_or_ge g w.heap.size with h' | h'
      · exact h'
      · rw [Array.getElem?_eq_none h'] at hh; cases hh
    exact Or.inr ⟨g, cap, cur, hv, hg, by rw [hb.block g (by omega)]; exact hh, r⟩
theorem OwnB.own {w : World} {base : Nat} {v : Value} {l : List (BitVec 8)} (h : OwnB w base v l) : ∀ k, v.ownBlock = some k → base ≤ k := by
  obtain ⟨h1, h2⟩ := h
  rcases h2 with ⟨rfl, h0⟩ | ⟨g, cap, cur, rfl, hg, _⟩
  · intro k hk; simp [Value.ownBlock] at hk
  · intro k hk; simp [Value.ownBlock] at hk; omega
theorem reads_val (w : World) (x : Int) (b : BitVec 8) (hx : x = (b.toNat : Int)) : Reads (w.alloc (.cells #[.int .u8 x] 5)) (.slice (some ⟨w.heap.size, 0, none⟩) 1 1) [b] := by
  subst hx
  exact ⟨_, 1, rfl, Nat.le_refl _, (fun h => by cases h), fun _ => ⟨w.heap.size, 0, rfl, fun j hj => by match j, hj with | 0, _ => simp⟩⟩
structure RpInv (w : World) (l : List (BitVec 8)) (v : Value) (wr : World) : Prop where
  own : OwnB wr w.heap.size v l
  bel : Below w.heap.size w wr
def sliceLen : Value → Nat
  | .slice _ n _ => n
  | _ => 0
def strB (l : List (BitVec 8)) : ByteArray := strOfNums (l.map fun b => (b.toNat : Int))
theorem strB_inj (a b : List (BitVec 8)) : ((strB a).toList == (strB b).toList) = decide (a = b) := by
  rw [ByteArray.toList_eq, ByteArray.toList_eq]
  unfold strB
  rw [strOfNums_data, strOfNums_data, List.map_map, List.map_map]
  by_cases h : a = b
  · subst h; simp
  · have hinj : ∀ x y : BitVec 8, UInt8.ofNat ((x.toNat : Int)).toNat = UInt8.ofNat ((y.toNat : Int)).toNat → x = y := by
      intro x y hxy
      have h2 := congrArg UInt8.toNat hxy
      have hx := x.isLt
      have hy := y.isLt
      simp at h2
      exact BitVec.eq_of_toNat_eq (by omega)
    have hne : ∀ a b : List (BitVec 8), a.map ((fun n : Int => UInt8.ofNat n.toNat) ∘ fun b => (b.toNat : Int)) = b.map ((fun n : Int => UInt8.ofNat n.toNat) ∘ fun b => (b.toNat : Int)) → a = b := by
      intro a
      induction a with
      | nil => intro b hb; cases b with
        | nil => rfl
        | cons y b => simp at hb
      | cons x a ih => intro b hb; cases b with
        | nil => simp at hb
        | cons y b =>
          rw [List.map_cons, List.map_cons, List.cons.injEq] at hb
          rw [hinj x y hb.1, ih b hb.2]
    rw [decide_eq_false h, beq_eq_false_iff_ne]
    exact fun he => h (hne a b he)
/-- the slice v of slices reads as the texts ls -/
def ReadsL (w : World) (v : Value) (ls : List (List (BitVec 8))) : Prop :=
  ∃ ad cap, v = .slice ad ls.length cap ∧ ls.length ≤ cap ∧ (ad = none → cap = 0) ∧ (0 < ls.length → ∃ b off, ad = some ⟨b, off, none⟩ ∧ ∀ j, j < ls.length → ∃ vj, w.cell? ⟨b, off + j, none⟩ = some vj ∧ Reads w vj (ls.getD j []))
theorem ReadsL.below {w w' : World} {v : Value} {ls : List (List (BitVec 8))} (h : ReadsL w v ls) (hb : Below w.heap.size w w') : ReadsL w' v ls := by
  obtain ⟨ad, cap, hv, hc, hn, hx⟩ := h
  refine ⟨ad, cap, hv, hc, hn, fun hp => ?_⟩
  obtain ⟨b, off, h1, h2⟩ := hx hp
  refine ⟨b, off, h1, fun j hj => ?_⟩
  obtain ⟨vj, h3, h4⟩ := h2 j hj
  exact ⟨vj, by rw [hb.cell (p := ⟨b, off + j, none⟩) (block_lt_of_cell h3)]; exact h3, h4.below hb⟩
theorem flat_take (ls : List (List (BitVec 8))) (k : Nat) (h : k < ls.length) : (ls.take (k + 1)).flatten = (ls.take k).flatten ++ ls.getD k [] := by
  rw [List.take_add_one, List.getElem?_eq_getElem h, List.flatten_append]
  simp [h]
theorem flat_le (ls : List (List (BitVec 8))) (k : Nat) : (ls.take k).flatten.length ≤ ls.flatten.length := by
  have := congrArg (fun l => (List.flatten l).length) (List.take_append_drop k ls)
  simp only [List.flatten_append, List.length_append] at this
  omega
theorem below_alloc (w : World) (o : Obj) : Below w.heap.size w (w.alloc o) := (Below.refl _ _).alloc (Nat.le_refl _) _
/-- the world wx keeps the blocks of w0 -/
def Over (w0 wx : World) : Prop := Below w0.heap.size w0 wx
theorem Over.out {w0 wx : World} (h : Over w0 wx) : Below w0.heap.size w0 wx := h
theorem Over.refl (w : World) : Over w w := Below.refl _ _
theorem Over.more {w0 wx wy : World} (h : Over w0 wx) (hb : Below wx.heap.size wx wy) : Over w0 wy := Below.trans h (hb.mono (Below.size h))
theorem Over.after {w w0 wx : World} (h : Over w0 wx) (hb : Below w.heap.size w w0) : Below w.heap.size w wx := hb.trans (Below.mono h hb.size)
theorem fl2 (a b : List (BitVec 8)) : [a, b].flatten.length = a.length + b.length := by simp
theorem below_cell {w0 wx : World} {p : Addr} {v : Value} (h : Over w0 wx) (hc : w0.cell? p = some v) : wx.cell? p = some v := by
  rw [Below.cell h (block_lt_of_cell hc)]; exact hc
/-- a part of a block, as a slice of it reads -/
theorem Blk.reads_mid {w : World} {g o : Nat} {cs : List Value} {bs : List (BitVec 8)} {t : TypeId} (h : Blk w g cs t) {n c : Nat} (hn : n = bs.length) (hc : bs.length ≤ c) (hm : ∀ j, j < bs.length → cs[o + j]? = some (.int .u8 ((bs.getD j 0).toNat : Int))) : Reads w (.slice (some ⟨g, o, none⟩) n c) bs := by
  subst hn
  exact ⟨_, _, rfl, hc, (fun h => by cases h), fun _ => ⟨g, o, rfl, fun j hj => by rw [h.cell, hm j hj]⟩⟩
end Go.Proofs.Ytgmemibhddnjjaa

/- DiskDoes over what disk's functions do (layer 13). -/
import Derived.Test.YtdllnedmhhajnaaDkSw
namespace Go.Proofs.Ytdllnedmhhajnaa
open Go.RowKit
set_option maxRecDepth 100000
/-- a slice of acts -/
def zeroO : OpT := ⟨0, 0, 0, 0, []⟩
def ReadsO (w : World) (v : Value) (l : List OpT) : Prop :=
  ∃ ad cap, v = .slice ad l.length cap ∧ (0 < l.length → ∃ b off, ad = some ⟨b, off, none⟩ ∧ ∀ j, j < l.length → ∃ vk, w.rangeAt b (off + j * 5) (opC (l.getD j zeroO) vk) ∧ ReadsI w vk (l.getD j zeroO).keep ∧ (l.getD j zeroO).n < 9223372036854775808)
theorem ReadsO.form {w : World} {v : Value} {l : List OpT} (h : ReadsO w v l) : ∃ ad c, v = .slice ad l.length c := by
  obtain ⟨ad, cap, hv, _⟩ := h
  exact ⟨ad, cap, hv⟩
theorem ReadsO.at {w : World} {ad : Option Addr} {n c : Nat} {l : List OpT} (h : ReadsO w (.slice ad n c) l) (hp : 0 < l.length) : ∃ b off, ad = some ⟨b, off, none⟩ ∧ ∀ j, j < l.length → ∃ vk, w.rangeAt b (off + j * 5) (opC (l.getD j zeroO) vk) ∧ ReadsI w vk (l.getD j zeroO).keep ∧ (l.getD j zeroO).n < 9223372036854775808 := by
  obtain ⟨ad', cap, hv, hx⟩ := h
  simp only [Value.slice.injEq] at hv
  obtain ⟨rfl, _, _⟩ := hv
  exact hx hp
theorem range_below {w w' : World} {b off : Nat} {cs : List Value} (h : w.rangeAt b off cs) (hb : Below w.heap.size w w') : w'.rangeAt b off cs := fun j v hv => by
  have h1 := h j v hv
  rw [hb.cell (p := ⟨b, off + j, none⟩) (block_lt_of_cell h1)]
  exact h1
theorem few13_yes (ad : Option Addr) (n c : Nat) (w : World) (h : n ≤ 60) : Calls Try.prog 9 #[.slice ad n c] w fun r w' => r = .returned (.bool true) ∧ Below w.heap.size w w' := (few13_any ad n c w).mono fun e w' ⟨h1, h2⟩ => ⟨by rw [h1, decide_eq_true h], by rw [h2]; exact Below.refl _ _⟩
theorem few13_no (ad : Option Addr) (n c : Nat) (w : World) (h : ¬ n ≤ 60) : Calls Try.prog 9 #[.slice ad n c] w fun r w' => r = .returned (.bool false) ∧ Below w.heap.size w w' := (few13_any ad n c w).mono fun e w' ⟨h1, h2⟩ => ⟨by rw [h1, decide_eq_false h], by rw [h2]; exact Below.refl _ _⟩
/-- the acts so far -/
structure DdI (Dk : World → Nat → (Nat → Prop) → DkT → Prop) (w : World) (g gr sn k : Nat) (P : Nat → Prop) (D : DkT) (vs vw : Value) (W : World) : Prop where
  bel : Below w.heap.size w W
  dk : Dk W g P D
  pw : ∀ k, P k → w.heap.size ≤ k
  rr : Blk W gr (rdC D vs vw) 27
  rs : RdS (Ext P [gr]) W D vs vw
  np : ¬ P gr
  wr : w.heap.size ≤ gr
  wl : D.wait.length ≤ k
  sz : sizeD D = sn
theorem DdI.drew {Dk : World → Nat → (Nat → Prop) → DkT → Prop} (OPS : DkOps Dk) {w : World} {g gr sn k : Nat} {P : Nat → Prop} {D : DkT} {vs vw : Value} {W : World} (h : DdI Dk w g gr sn k P D vs vw W) : DdI Dk w g gr sn k P D vs vw W.drew :=
  ⟨h.bel.drew, OPS.same h.dk (Nat.le_refl _) (fun _ _ => rfl), h.pw, h.rr.drew, h.rs.go (mut_drew _ _) (fun _ _ h => h), h.np, h.wr, h.wl, h.sz⟩
theorem DdI.next {Dk : World → Nat → (Nat → Prop) → DkT → Prop} (OPS : DkOps Dk) {w : World} {g gr sn k : Nat} {P : Nat → Prop} {D : DkT} {vs vw : Value} {W W' : World} (h : DdI Dk w g gr sn k P D vs vw W) (hb : Below W.heap.size W W') : DdI Dk w g gr sn k P D vs vw W' :=
  ⟨h.bel.trans (hb.mono h.bel.size), OPS.same h.dk hb.size (fun k hk => hb.block k (OPS.lt h.dk k hk)), h.pw, h.rr.below hb h.rr.lt, h.rs.below hb, h.np, h.wr, h.wl, h.sz⟩
/-- behind a call of the disk that leaves it as it is -/
theorem DdI.act {Dk : World → Nat → (Nat → Prop) → DkT → Prop} {w : World} {g gr sn k : Nat} {P P' : Nat → Prop} {D : DkT} {vs vw : Value} {W W' : World} (h : DdI Dk w g gr sn k P D vs vw W) (hd : Dk W' g P' D) (m : Mut P W W') (hg : Grew W P P') : DdI Dk w g gr sn k P' D vs vw W' :=
  ⟨h.bel.trans (m.below h.bel.size h.pw), hd, fun k hk => (hg k hk).elim (h.pw k) (fun h2 => Nat.le_trans h.bel.size h2), m.blk h.rr h.np, h.rs.actE m hg, fun h2 => h.np (hg.old gr h.rr.lt h2), h.wr, h.wl, h.sz⟩
theorem step_wait (D : DkT) (o : OpT) : (stepD D o).wait.length ≤ D.wait.length + 1 := by
  unfold stepD
  split
  · omega
  split
  · unfold putD13
    split
    · omega
    split
    · omega
    split
    · omega
    · show (D.wait ++ [_]).length ≤ _
      rw [List.length_append, List.length_singleton]
      omega
  split
  · unfold syncD13
    split
    · omega
    split
    · show D.wait.length ≤ _; omega
    · show ([] : List (Nat × Bs)).length ≤ _; rw [List.length_nil]; omega
  split
  · show D.wait.length ≤ _; omega
  split
  · show ([] : List (Nat × Bs)).length ≤ _; rw [List.length_nil]; omega
  · omega
theorem step_size {D : DkT} (h : okD D) (o : OpT) : sizeD (stepD D o) = sizeD D := by
  unfold stepD
  split
  · rfl
  split
  · rw [sizeD, size_put]; rfl
  split
  · exact size_sync h
  split
  · rfl
  split
  · exact size_crash h _
  · rfl
/-- step, in the call's own frame -/
theorem step_own {Dk : World → Nat → (Nat → Prop) → DkT → Prop} (OPS : DkOps Dk) {w : World} {g gr sn k : Nat} {P : Nat → Prop} {D : DkT} {vs vw : Value} {W : World} (h : DdI Dk w g gr sn k P D vs vw W) (hk : k ≤ 60) {o : OpT} {vk : Value} (hK : ReadsI w vk o.keep) (hn : o.n < 9223372036854775808) :
    Calls Try.prog 11 #[.pointer (some ⟨g, 0, none⟩), .agg (rdC D vs vw).toArray, .agg (opC o vk).toArray] W (StepR Dk g P [gr] W (stepD D o)) :=
  step13_any OPS h.dk h.rs (fun k hk => by rw [List.mem_singleton.1 hk]; exact h.rr.lt) (by have := h.wl; omega) (fun W' m => hK.below (h.bel.trans (m.below h.bel.size h.pw))) hn
end Go.Proofs.Ytdllnedmhhajnaa

/- What stays where some blocks change; the reference's disk in memory; what disk's functions must do (layer 13). -/
import Derived.Test.YtgmemibhddnjjaaDkRow
namespace Go.Proofs.Ytgmemibhddnjjaa
open Go.RowKit
set_option maxRecDepth 100000
/-- nothing but blocks of P, and new ones, has changed -/
structure Mut (P : Nat → Prop) (w w' : World) : Prop where
  os : w'.os = w.os
  tape : w'.tape = w.tape
  output : w'.output = w.output
  size : w.heap.size ≤ w'.heap.size
  block : ∀ k, k < w.heap.size → ¬ P k → w'.heap[k]? = w.heap[k]?
theorem Mut.refl (P : Nat → Prop) (w : World) : Mut P w w := ⟨rfl, rfl, rfl, Nat.le_refl _, fun _ _ _ => rfl⟩
theorem Mut.trans {P P' : Nat → Prop} {a b c : World} (h : Mut P a b) (hP : ∀ k, k < a.heap.size → P' k → P k) (k : Mut P' b c) : Mut P a c :=
  ⟨k.os.trans h.os, k.tape.trans h.tape, k.output.trans h.output, Nat.le_trans h.size k.size, fun i hi hn => (k.block i (Nat.lt_of_lt_of_le hi h.size) (fun hp => hn (hP i hi hp))).trans (h.block i hi hn)⟩
theorem mut_below {w w' : World} (h : Below w.heap.size w w') (P : Nat → Prop) : Mut P w w' := ⟨h.os, h.tape, h.output, h.size, fun k hk _ => h.block k hk⟩
theorem Only.mut {g : Nat} {w w' : World} (h : Only g w w') {P : Nat → Prop} (hg : P g) : Mut P w w' := ⟨h.os, h.tape, h.output, h.size, fun k hk hn => h.block k (fun e => hn (e ▸ hg)) hk⟩
theorem Mut.below {P : Nat → Prop} {w w' : World} (h : Mut P w w') {B : Nat} (hB : B ≤ w.heap.size) (hP : ∀ k, P k → B ≤ k) : Below B w w' := ⟨h.os, h.tape, h.output, h.size, fun k hk => h.block k (Nat.lt_of_lt_of_le hk hB) (fun hp => absurd (hP k hp) (by omega))⟩
theorem Mut.blk {P : Nat → Prop} {w w' : World} {g : Nat} {cs : List Value} {t : TypeId} (h : Mut P w w') (hb : Blk w g cs t) (hg : ¬ P g) : Blk w' g cs t := by
  have hl := hb.lt
  unfold Blk at hb ⊢
  rw [h.block g hl hg]
  exact hb
theorem Mut.drew {P : Nat → Prop} {w w' : World} (h : Mut P w w') : Mut P w w'.drew := ⟨h.os, h.tape, h.output, h.size, h.block⟩
theorem mut_drew (P : Nat → Prop) (w : World) : Mut P w w.drew := (Mut.refl P w).drew
/-- what holds now, and whatever blocks of P become -/
def Sta (P : Nat → Prop) (w : World) (X : World → Prop) : Prop := ∀ w', Mut P w w' → X w'
theorem Sta.now {P : Nat → Prop} {w : World} {X : World → Prop} (h : Sta P w X) : X w := h w (Mut.refl P w)
theorem Sta.at {P : Nat → Prop} {w w' : World} {X : World → Prop} (h : Sta P w X) (m : Mut P w w') : X w' := h w' m
theorem Sta.go {P P' : Nat → Prop} {w w' : World} {X : World → Prop} (h : Sta P w X) (m : Mut P w w') (hP : ∀ k, k < w.heap.size → P' k → P k) : Sta P' w' X := fun w2 m2 => h w2 (m.trans hP m2)
theorem Sta.below {P : Nat → Prop} {w w' : World} {X : World → Prop} (h : Sta P w X) (hb : Below w.heap.size w w') : Sta P w' X := h.go (mut_below hb P) (fun _ _ h => h)
theorem Sta.mono {P : Nat → Prop} {w : World} {X Y : World → Prop} (h : Sta P w X) (f : ∀ w, X w → Y w) : Sta P w Y := fun w' m => f w' (h w' m)
/-- bytes that lie in blocks from base on stay, if P has none of these -/
theorem OwnB.st {w : World} {base : Nat} {v : Value} {l : Bs} (h : OwnB w base v l) {P : Nat → Prop} (hP : ∀ k, P k → k < base) : Sta P w (fun W => Reads W v l) := fun W m => by
  have hb := h
  obtain ⟨h1, h2⟩ := hb
  refine OwnB.reads (base := base) ⟨h1, ?_⟩
  rcases h2 with h2 | ⟨g, cap, cur, hv, hg, hh, r⟩
  · exact Or.inl h2
  · have hlt : g < w.heap.size := by
      rcases Nat.lt_or_ge g w.heap.size with h' | h'
      · exact h'
      · rw [Array.getElem?_eq_none h'] at hh; cases hh
    exact Or.inr ⟨g, cap, cur, hv, hg, by rw [m.block g hlt (fun hp => absurd (hP g hp) (by omega))]; exact hh, r⟩
theorem Blk.stB {w : World} {g : Nat} {bs : Bs} {t : TypeId} (h : Blk w g (cb bs) t) {P : Nat → Prop} (hg : ¬ P g) {n c : Nat} (hn : n = bs.length) (hc : bs.length ≤ c) : Sta P w (fun W => Reads W (.slice (some ⟨g, 0, none⟩) n c) bs) := fun _ m => (m.blk h hg).reads hn hc
theorem reads_nil13 (w : World) : Reads w (.slice none 0 0) [] := ⟨none, 0, rfl, Nat.le_refl _, fun _ => rfl, fun h => by simp at h⟩
theorem Sta.nil (P : Nat → Prop) (w : World) : Sta P w (fun W => Reads W (.slice none 0 0) []) := fun W _ => reads_nil13 W
/-- a slice of writes -/
def ReadsW (w : World) (v : Value) (l : List (Nat × Bs)) : Prop :=
  ∃ ad cap, v = .slice ad l.length cap ∧ l.length ≤ cap ∧ (ad = none → cap = 0) ∧ (0 < l.length → ∃ b off, ad = some ⟨b, off, none⟩ ∧ ∀ j, j < l.length → ∃ vj, w.cell? ⟨b, off + j * 2, none⟩ = some (.int .i64 ((l.getD j (0, [])).1 : Int)) ∧ w.cell? ⟨b, off + j * 2 + 1, none⟩ = some vj ∧ Reads w vj (l.getD j (0, [])).2)
theorem ReadsW.nil (w : World) : ReadsW w (.slice none 0 0) [] := ⟨none, 0, rfl, Nat.le_refl _, fun _ => rfl, fun h => by simp at h⟩
theorem ReadsW.form {w : World} {v : Value} {l : List (Nat × Bs)} (h : ReadsW w v l) : ∃ ad c, v = .slice ad l.length c := by
  obtain ⟨ad, cap, hv, _⟩ := h
  exact ⟨ad, cap, hv⟩
theorem ReadsW.at {w : World} {ad : Option Addr} {n c : Nat} {l : List (Nat × Bs)} (h : ReadsW w (.slice ad n c) l) (hp : 0 < l.length) : ∃ b off, ad = some ⟨b, off, none⟩ ∧ ∀ j, j < l.length → ∃ vj, w.cell? ⟨b, off + j * 2, none⟩ = some (.int .i64 ((l.getD j (0, [])).1 : Int)) ∧ w.cell? ⟨b, off + j * 2 + 1, none⟩ = some vj ∧ Reads w vj (l.getD j (0, [])).2 := by
  obtain ⟨ad', cap, hv, _, _, hx⟩ := h
  simp only [Value.slice.injEq] at hv
  obtain ⟨rfl, _, _⟩ := hv
  exact hx hp
/-- a slice of numbers -/
def ReadsI (w : World) (v : Value) (l : List Int) : Prop :=
  ∃ ad cap, v = .slice ad l.length cap ∧ l.length ≤ cap ∧ (0 < l.length → ∃ b off, ad = some ⟨b, off, none⟩ ∧ ∀ j, j < l.length → w.cell? ⟨b, off + j, none⟩ = some (.int .i64 (l.getD j 0)))
theorem ReadsI.below {w w' : World} {v : Value} {l : List Int} (h : ReadsI w v l) (hb : Below w.heap.size w w') : ReadsI w' v l := by
  obtain ⟨ad, cap, hv, hc, hx⟩ := h
  refine ⟨ad, cap, hv, hc, fun hp => ?_⟩
  obtain ⟨b, off, h1, h2⟩ := hx hp
  exact ⟨b, off, h1, fun j hj => by rw [hb.cell (p := ⟨b, off + j, none⟩) (block_lt_of_cell (h2 j hj))]; exact h2 j hj⟩
theorem ReadsI.form {w : World} {v : Value} {l : List Int} (h : ReadsI w v l) : ∃ ad c, v = .slice ad l.length c := by
  obtain ⟨ad, cap, hv, _⟩ := h
  exact ⟨ad, cap, hv⟩
theorem ReadsI.nil (w : World) : ReadsI w (.slice none 0 0) [] := ⟨none, 0, rfl, Nat.le_refl _, fun h => by simp at h⟩
/-- the reference's disk: its cells, and what they read as whatever blocks of P become -/
def rdC (D : DkT) (vs vw : Value) : List Value := [vs, vw, .int .i64 D.left, .bool D.down]
/-- a slice of writes, whatever blocks of P become -/
def StaW (P : Nat → Prop) (w : World) (v : Value) (l : List (Nat × Bs)) : Prop :=
  ∃ ad cap, v = .slice ad l.length cap ∧ l.length ≤ cap ∧ (ad = none → cap = 0) ∧ (0 < l.length → ∃ b off, ad = some ⟨b, off, none⟩ ∧ ¬ P b ∧ ∀ j, j < l.length → ∃ vj, w.cell? ⟨b, off + j * 2, none⟩ = some (.int .i64 ((l.getD j (0, [])).1 : Int)) ∧ w.cell? ⟨b, off + j * 2 + 1, none⟩ = some vj ∧ Sta P w (fun W => Reads W vj (l.getD j (0, [])).2))
theorem StaW.now {P : Nat → Prop} {w : World} {v : Value} {l : List (Nat × Bs)} (h : StaW P w v l) : ReadsW w v l := by
  obtain ⟨ad, cap, h1, h2, h3, h4⟩ := h
  refine ⟨ad, cap, h1, h2, h3, fun hp => ?_⟩
  obtain ⟨b, off, h5, _, h6⟩ := h4 hp
  refine ⟨b, off, h5, fun j hj => ?_⟩
  obtain ⟨vj, h7, h8, h9⟩ := h6 j hj
  exact ⟨vj, h7, h8, h9.now⟩
theorem Mut.cell {P : Nat → Prop} {w w' : World} {b k : Nat} {v : Value} (m : Mut P w w') (hb : ¬ P b) (h : w.cell? ⟨b, k, none⟩ = some v) : w'.cell? ⟨b, k, none⟩ = some v := by
  have hlt : b < w.heap.size := block_lt_of_cell h
  have hm := m.block b hlt hb
  have e : ∀ W : World, W.heap[b]? = w.heap[b]? → W.cell? ⟨b, k, none⟩ = w.cell? ⟨b, k, none⟩ := fun W hW => by
    unfold World.cell?
    rw [hW]
  rw [e w' hm]
  exact h
theorem StaW.go {P P' : Nat → Prop} {w w' : World} {v : Value} {l : List (Nat × Bs)} (h : StaW P w v l) (m : Mut P w w') (hP : ∀ k, k < w.heap.size → P' k → P k) : StaW P' w' v l := by
  obtain ⟨ad, cap, h1, h2, h3, h4⟩ := h
  refine ⟨ad, cap, h1, h2, h3, fun hp => ?_⟩
  obtain ⟨b, off, h5, hnb, h6⟩ := h4 hp
  obtain ⟨_, h0, _⟩ := h6 0 hp
  refine ⟨b, off, h5, fun hb => hnb (hP b (block_lt_of_cell h0) hb), fun j hj => ?_⟩
  obtain ⟨vj, h7, h8, h9⟩ := h6 j hj
  exact ⟨vj, m.cell hnb h7, m.cell hnb h8, h9.go m hP⟩
theorem StaW.nil (P : Nat → Prop) (w : World) : StaW P w (.slice none 0 0) [] := ⟨none, 0, rfl, Nat.le_refl _, fun _ => rfl, fun h => by simp at h⟩
structure RdS (P : Nat → Prop) (w : World) (D : DkT) (vs vw : Value) : Prop where
  sf : Sta P w (fun W => Reads W vs D.safe)
  wt : StaW P w vw D.wait
theorem RdS.go {P P' : Nat → Prop} {w w' : World} {D : DkT} {vs vw : Value} (h : RdS P w D vs vw) (m : Mut P w w') (hP : ∀ k, k < w.heap.size → P' k → P k) : RdS P' w' D vs vw := ⟨h.sf.go m hP, h.wt.go m hP⟩
theorem RdS.below {P : Nat → Prop} {w w' : World} {D : DkT} {vs vw : Value} (h : RdS P w D vs vw) (hb : Below w.heap.size w w') : RdS P w' D vs vw := h.go (mut_below hb P) (fun _ _ h => h)
theorem RdS.form {P : Nat → Prop} {w : World} {D : DkT} {vs vw : Value} (h : RdS P w D vs vw) : ∃ ad cs aw cw, vs = .slice ad D.safe.length cs ∧ vw = .slice aw D.wait.length cw := by
  obtain ⟨a, c, hv, _⟩ := h.sf.now
  obtain ⟨a2, c2, hw⟩ := h.wt.now.form
  exact ⟨a, c, a2, c2, hv, hw⟩
theorem RdS.of {P : Nat → Prop} {w : World} {D D' : DkT} {vs vw : Value} (h : RdS P w D vs vw) (h1 : D'.safe = D.safe) (h2 : D'.wait = D.wait) : RdS P w D' vs vw := ⟨by rw [h1]; exact h.sf, by rw [h2]; exact h.wt⟩
/-- what an act leaves of a disk's blocks: none that was another's -/
def Grew (w : World) (P P' : Nat → Prop) : Prop := ∀ k, P' k → P k ∨ w.heap.size ≤ k
theorem Grew.old {w : World} {P P' : Nat → Prop} (h : Grew w P P') : ∀ k, k < w.heap.size → P' k → P k := fun k hk hp => (h k hp).elim id (fun h => absurd h (by omega))
theorem Grew.trans {w w' : World} {P P' P'' : Nat → Prop} (h : Grew w P P') (hs : w.heap.size ≤ w'.heap.size) (h2 : Grew w' P' P'') : Grew w P P'' := fun k hk => by
  rcases h2 k hk with h3 | h3
  · exact h k h3
  · exact Or.inr (Nat.le_trans hs h3)
theorem Grew.refl (w : World) (P : Nat → Prop) : Grew w P P := fun _ h => Or.inl h
end Go.Proofs.Ytgmemibhddnjjaa

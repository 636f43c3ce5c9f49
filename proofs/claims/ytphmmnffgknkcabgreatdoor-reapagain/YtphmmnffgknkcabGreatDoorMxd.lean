import Derived.Test.YtphmmnffgknkcabGreatDoorMxb
import Derived.Test.YtphmmnffgknkcabGreatDoorMxc
import Derived.Test.YtphmmnffgknkcabGreatDoorMxa
import Derived.Maps.AppendAt
import Derived.Maps.OwnSet
import Derived.DeepKeys4
import Derived.WideKeyArr2
namespace Go.Proofs.YtphmmnffgknkcabGreatDoor
open Go.RowKit
set_option maxRecDepth 100000
structure Mut (P : Nat → Prop) (w w' : World) : Prop where
  os : w'.os = w.os
  tape : w'.tape = w.tape
  output : w'.output = w.output
  size : w.heap.size ≤ w'.heap.size
  block : ∀ k, k < w.heap.size → ¬ P k → w'.heap[k]? = w.heap[k]?
theorem Mut.refl (P : Nat → Prop) (w : World) : Mut P w w := ⟨rfl, rfl, rfl, Nat.le_refl _, fun _ _ _ => rfl⟩
theorem Mut.trans {P P' : Nat → Prop} {a b c : World} (h : Mut P a b) (hP : ∀ k, k < a.heap.size → P' k → P k) (k : Mut P' b c) : Mut P a c :=
  ⟨k.os.trans h.os, k.tape.trans h.tape, k.output.trans h.output, Nat.le_trans h.size k.size, fun i hi hn => (k.block i (Nat.lt_of_lt_of_le hi h.size) (fun hp => hn (hP i hi hp))).trans (h.block i hi hn)⟩
theorem Mut.mono {P P' : Nat → Prop} {a b : World} (h : Mut P' a b) (hP : ∀ k, k < a.heap.size → P' k → P k) : Mut P a b := ⟨h.os, h.tape, h.output, h.size, fun k hk hn => h.block k hk (fun hp => hn (hP k hk hp))⟩
theorem mut_below {w w' : World} (h : Below w.heap.size w w') (P : Nat → Prop) : Mut P w w' := ⟨h.os, h.tape, h.output, h.size, fun k hk _ => h.block k hk⟩
theorem Only.mut {g : Nat} {w w' : World} (h : Only g w w') {P : Nat → Prop} (hg : P g) : Mut P w w' := ⟨h.os, h.tape, h.output, h.size, fun k hk hn => h.block k (fun e => hn (e ▸ hg)) hk⟩
theorem Mut.below {P : Nat → Prop} {w w' : World} (h : Mut P w w') {B : Nat} (hB : B ≤ w.heap.size) (hP : ∀ k, P k → B ≤ k) : Below B w w' := ⟨h.os, h.tape, h.output, h.size, fun k hk => h.block k (Nat.lt_of_lt_of_le hk hB) (fun hp => absurd (hP k hp) (by omega))⟩
theorem mut_grown {w w' : World} {row : Option Nat} (h : w.grownBy w' row) : Mut (fun k => row = some k) w w' := ⟨h.os, h.tape, h.output, h.size, fun k hk hn => h.block k hk (fun e => hn e.symm)⟩
structure GrV (w : World) (v : Value) (w' : World) (v' : Value) : Prop where
  mt : Mut (fun k => v.ownBlock = some k) w w'
  lies : ∀ k, v'.ownBlock = some k → v.ownBlock = some k ∨ w.heap.size ≤ k
theorem GrV.refl (w : World) (v : Value) : GrV w v w v := ⟨Mut.refl _ _, fun _ h => Or.inl h⟩
theorem GrV.of_below {w w' : World} (h : Below w.heap.size w w') (v : Value) : GrV w v w' v := ⟨mut_below h _, fun _ h => Or.inl h⟩
theorem GrV.trans {a b c : World} {v u x : Value} (h : GrV a v b u) (k : GrV b u c x) : GrV a v c x :=
  ⟨h.mt.trans (fun i hi hp => (h.lies i hp).resolve_right (by omega)) k.mt, fun i hi => (k.lies i hi).elim (h.lies i) (fun hb => Or.inr (Nat.le_trans h.mt.size hb))⟩
theorem GrV.below {w w' : World} {v v' : Value} {B : Nat} (h : GrV w v w' v') (hB : B ≤ w.heap.size) (hv : ∀ k, v.ownBlock = some k → B ≤ k) : Below B w w' := h.mt.below hB hv
theorem GrV.other {w w' : World} {v v' : Value} (h : GrV w v w' v') {k : Nat} (hk : k < w.heap.size) (hn : v.ownBlock ≠ some k) : w'.heap[k]? = w.heap[k]? := h.mt.block k hk hn
theorem OwnB.sameP {w w' : World} {base : Nat} {v : Value} {l : By} (h : OwnB w base v l) (hs : ∀ k, v.ownBlock = some k → w'.heap[k]? = w.heap[k]?) : OwnB w' base v l := by
  rcases h with ⟨h1, ⟨rfl, h2⟩ | ⟨g, cap, cur, rfl, hg, hh, h3⟩⟩
  · exact ⟨h1, Or.inl ⟨rfl, h2⟩⟩
  · exact ⟨h1, Or.inr ⟨g, cap, cur, rfl, hg, by rw [hs g rfl]; exact hh, h3⟩⟩
theorem OwnB.ltP {w : World} {base : Nat} {v : Value} {l : By} (h : OwnB w base v l) : ∀ k, v.ownBlock = some k → base ≤ k ∧ k < w.heap.size := World.ownsRow.lt h
theorem OwnB.next {w w' : World} {base : Nat} {v : Value} {l : By} (h : OwnB w base v l) (hb : Below w.heap.size w w') : OwnB w' base v l := h.sameP fun k hk => hb.block k (h.ltP k hk).2
theorem OwnB.formP {w : World} {base : Nat} {v : Value} {l : By} (h : OwnB w base v l) : ∃ a c, v = .slice a l.length c := by
  rcases h with ⟨_, ⟨rfl, h2⟩ | ⟨g', cap, cur, rfl, _⟩⟩
  · exact ⟨none, 0, by rw [h2]⟩
  · exact ⟨_, _, rfl⟩
theorem Mut.blk {P : Nat → Prop} {w w' : World} {g : Nat} {cs : List Value} {t : TypeId} (h : Mut P w w') (hb : Blk w g cs t) (hg : ¬ P g) : Blk w' g cs t := by
  have hl := hb.lt
  unfold Blk at hb ⊢
  rw [h.block g hl hg]
  exact hb
theorem OwnB.ne_blk {w : World} {base g : Nat} {v : Value} {l : By} {cs : List Value} {t : TypeId} (h : OwnB w base v l) (hb : Blk w g cs t) (ht : t ≠ 5) : v.ownBlock ≠ some g := by
  obtain ⟨_, h2⟩ := h
  intro hk
  rcases h2 with ⟨rfl, _⟩ | ⟨g2, cap, cur, rfl, hg, hh, _⟩
  · simp [Value.ownBlock] at hk
  · simp only [Value.ownBlock, Option.some.injEq] at hk
    subst hk
    unfold Blk at hb
    rw [hh] at hb
    simp only [Option.some.injEq, Obj.cells.injEq] at hb
    exact ht hb.2.1.symm
theorem wpSeq_appB {ops : Array Oper} {Q : Exit → Act → World → Prop} {rest : List Oper} {o : Oper} {a : Act} {w : World} (s x : Operand) (base : Nat) (v vx : Value) (l news : By)
    (hown : OwnB w base v l) (hr : Reads w vx news) (hpos : 0 < news.length) (hlen : l.length + news.length ≤ 100000) (hbase : base ≤ w.heap.size)
    (ho : o.op = .call { callee := .builtin .append, args := #[s, x], argTypes := #[49, 49] }) (hs : a.eval s = v) (hx : a.eval x = vx) (hgd : o.guard = none)
    (h : ∀ v' w', OwnB w' base v' (l ++ news) → GrV w v w' v' → wpList Tryz.prog ops Q rest (a.put o.dst v') w') : wpList Tryz.prog ops Q (o :: rest) a w := by
  obtain ⟨i0, hi, hz0, hz1, hz2⟩ := info_parts Tryz.infob
  obtain ⟨ad, cap, rfl, hcap, hnn, hps⟩ := hr
  cases ad with
  | some ad =>
    refine wpList_append_own_at (P := Tryz.prog) w hgd s x 49 ho base 5 i0 (.int .u8 0) 1 1 Tryz.underlying49 hi hz0 hz1 hz2 rfl (by decide) v l.length (cb l) hs hown ad news.length cap (cb news) hx (by rw [cb_len]; omega) ?_ (cb_one _) (by unfold maxLen; omega) (by omega) hbase ?_
    · intro j u hj
      have hjl : j < news.length := by have := (List.getElem?_eq_some_iff.1 hj).1; rwa [cb_len] at this
      obtain ⟨b, off, h1, h2⟩ := hps (by omega)
      cases h1
      rw [Addr.add_mid, h2 j hjl, ← hj, cb_get news j hjl]
    · intro v' w' h1 h2 _ h5
      refine h v' w' ?_ ⟨mut_grown h2, fun k hk => ?_⟩
      · have e : cb l ++ cb news = cb (l ++ news) := by simp [cb]
        rw [e] at h1
        unfold OwnB; rw [List.length_append]; exact h1
      · rcases h5 with h5 | h5
        · exact Or.inl (h5 ▸ hk)
        · rw [h5] at hk; cases hk; exact Or.inr (Nat.le_refl _)
  | none => obtain ⟨b, off, h1, _⟩ := hps hpos; cases h1
theorem wpSeq_buildY {ops : Array Oper} {Q : Exit → Act → World → Prop} {rest : List Oper} {o : Oper} {a : Act} {w : World} (b : BitVec 8) (x : Operand) (hx : a.eval x = .int .u8 (b.toNat : Int)) (ho : o.op = .buildSlice 49 1 #[(0, x)]) (hw : Region.wanted o (yielded ops a.tmps) = true)
    (h : ∀ g w', Blk w' g (cb [b]) 5 → w.heap.size ≤ g → Below w.heap.size w w' → wpList Tryz.prog ops Q rest (a.put o.dst (.slice (some ⟨g, 0, none⟩) 1 1)) w') : wpList Tryz.prog ops Q (o :: rest) a w := by
  refine wpSeq_val _ (w.alloc (.cells (cb [b]).toArray 5)) hw ?_ (h w.heap.size _ (Blk.new w _ 5) (Nat.le_refl _) (below_alloc _ _))
  unfold execOp
  rw [ho]
  generalize a.eval = f at hx ⊢
  simp only [List.map_toArray, List.map_cons, List.map_nil, hx]
  kernel_rfl
theorem blk_reads_y {w : World} {g : Nat} {l : By} (h : Blk w g (cb l) 5) : Reads w (.slice (some ⟨g, 0, none⟩) l.length l.length) l :=
  ⟨_, _, rfl, Nat.le_refl _, (fun e => by cases e), fun _ => ⟨g, 0, rfl, fun j hj => by rw [Nat.zero_add, h.cell, cb_get l j hj]⟩⟩
theorem blk_own_y {w : World} {g base : Nat} {b : BitVec 8} (h : Blk w g (cb [b]) 5) (hb : base ≤ g) : OwnB w base (.slice (some ⟨g, 0, none⟩) 1 1) [b] :=
  ⟨rfl, Or.inr ⟨g, 1, (cb [b]).toArray, rfl, hb, h, Nat.le_refl _, by unfold maxLen; omega, rfl, by simp [cb]⟩⟩
def lfC (p : Lf) : List Value := cb p.1 ++ cb p.2
def flatLf (l : List Lf) : List Value := (l.map lfC).flatten
theorem lfC_len {p : Lf} (h : p.1.length = 32 ∧ p.2.length = 32) : (lfC p).length = 64 := by unfold lfC; rw [List.length_append, cb_len, cb_len, h.1, h.2]
theorem flatLf_snoc (l : List Lf) (p : Lf) : flatLf (l ++ [p]) = flatLf l ++ lfC p := by unfold flatLf; simp
def RdLv (w : World) (v : Value) (l : List Lf) : Prop :=
  (∃ ad cap, v = .slice ad l.length cap ∧ l.length ≤ cap ∧ (0 < l.length → ∃ b off, ad = some ⟨b, off, none⟩ ∧ ∀ j, j < l.length → w.rangeAt b (off + j * 64) (lfC (l.getD j ([], []))))) ∧ okLf l
theorem range_lt {w : World} {b off : Nat} {cs : List Value} (h : w.rangeAt b off cs) (hp : 0 < cs.length) : b < w.heap.size := by
  have h0 := h 0 cs[0] (by rw [List.getElem?_eq_getElem hp])
  exact block_lt_of_cell h0
theorem lf_pos {l : List Lf} (h : okLf l) {j : Nat} (hj : j < l.length) : (lfC (l.getD j ([], []))).length = 64 := lfC_len (h _ (getD_mem hj))
theorem RdLv.next {w w' : World} {v : Value} {l : List Lf} (h : RdLv w v l) (hb : Below w.heap.size w w') : RdLv w' v l := by
  obtain ⟨⟨ad, cap, h1, h2, h3⟩, h4⟩ := h
  refine ⟨⟨ad, cap, h1, h2, fun hp => ?_⟩, h4⟩
  obtain ⟨b, off, h5, h6⟩ := h3 hp
  exact ⟨b, off, h5, fun j hj => rangeAt_below (h6 j hj) hb (range_lt (h6 j hj) (by rw [lf_pos h4 hj]; omega))⟩
theorem RdLv.at {w : World} {v : Value} {l : List Lf} (h : RdLv w v l) (hp : 0 < l.length) : ∃ b off cap, v = .slice (some ⟨b, off, none⟩) l.length cap ∧ l.length ≤ cap ∧ b < w.heap.size ∧ ∀ j, j < l.length → w.rangeAt b (off + j * 64) (lfC (l.getD j ([], []))) := by
  obtain ⟨⟨ad, cap, h1, h2, h3⟩, h4⟩ := h
  obtain ⟨b, off, rfl, h6⟩ := h3 hp
  exact ⟨b, off, cap, h1, h2, range_lt (h6 0 hp) (by rw [lf_pos h4 hp]; omega), h6⟩
theorem RdLv.same {w w' : World} {v : Value} {l : List Lf} (h : RdLv w v l) (hs : ∀ k, v.ownBlock = some k → w'.heap[k]? = w.heap[k]?) : RdLv w' v l := by
  obtain ⟨⟨ad, cap, rfl, h2, h3⟩, h4⟩ := h
  refine ⟨⟨ad, cap, rfl, h2, fun hp => ?_⟩, h4⟩
  obtain ⟨b, off, rfl, h6⟩ := h3 hp
  exact ⟨b, off, rfl, fun j hj i u hu => by rw [World.cell?_of_block (w := w) (hs b rfl)]; exact h6 j hj i u hu⟩
def RdLb (B : Nat) (w : World) (v : Value) (l : List Lf) : Prop := RdLv w v l ∧ ∀ k, v.ownBlock = some k → k < B
theorem RdLb.go {B : Nat} {w w' : World} {v : Value} {l : List Lf} (h : RdLb B w v l) (hb : Below B w w') : RdLb B w' v l := ⟨h.1.same fun k hk => hb.block k (h.2 k hk), h.2⟩
theorem RdLb.next {B : Nat} {w w' : World} {v : Value} {l : List Lf} (h : RdLb B w v l) (hb : Below w.heap.size w w') : RdLb B w' v l := ⟨h.1.next hb, h.2⟩
theorem RdLv.nil (w : World) (ad : Option Addr) (c : Nat) : RdLv w (.slice ad 0 c) [] := ⟨⟨ad, c, rfl, Nat.zero_le _, fun h => by simp at h⟩, fun _ h => by cases h⟩
theorem range_left {w : World} {b off : Nat} {cs ds : List Value} (h : w.rangeAt b off (cs ++ ds)) : w.rangeAt b off cs := fun j v hj => h j v (by rw [List.getElem?_append_left (List.getElem?_eq_some_iff.1 hj).1]; exact hj)
theorem range_right {w : World} {b off n : Nat} {cs ds : List Value} (h : w.rangeAt b off (cs ++ ds)) (hn : cs.length = n) : w.rangeAt b (off + n) ds := fun j v hj => by
  have := h (n + j) v (by rw [List.getElem?_append_right (by omega), hn, Nat.add_sub_cancel_left]; exact hj)
  rw [Nat.add_assoc]; exact this
def OwnLv (w : World) (base : Nat) (v : Value) (l : List Lf) : Prop := w.ownsRow base 119 64 v l.length (flatLf l) ∧ okLf l
theorem OwnLv.nil (w : World) (base : Nat) : OwnLv w base (.slice none 0 0) [] := ⟨World.ownsRow_nil _ _ _ _, fun _ h => by cases h⟩
theorem OwnLv.lt {w : World} {base : Nat} {v : Value} {l : List Lf} (h : OwnLv w base v l) : ∀ k, v.ownBlock = some k → base ≤ k ∧ k < w.heap.size := World.ownsRow.lt h.1
theorem OwnLv.same {w w' : World} {base : Nat} {v : Value} {l : List Lf} (h : OwnLv w base v l) (hs : ∀ k, v.ownBlock = some k → w'.heap[k]? = w.heap[k]?) : OwnLv w' base v l := by
  rcases h with ⟨⟨h1, ⟨rfl, h2⟩ | ⟨g, cap, cur, rfl, hg, hh, h3⟩⟩, h4⟩
  · exact ⟨⟨h1, Or.inl ⟨rfl, h2⟩⟩, h4⟩
  · exact ⟨⟨h1, Or.inr ⟨g, cap, cur, rfl, hg, by rw [hs g rfl]; exact hh, h3⟩⟩, h4⟩
theorem OwnLv.next {w w' : World} {base : Nat} {v : Value} {l : List Lf} (h : OwnLv w base v l) (hb : Below w.heap.size w w') : OwnLv w' base v l := h.same fun k hk => hb.block k (h.lt k hk).2
theorem OwnLv.form {w : World} {base : Nat} {v : Value} {l : List Lf} (h : OwnLv w base v l) : ∃ ad c, v = .slice ad l.length c := by
  rcases h.1 with ⟨_, ⟨rfl, h2⟩ | ⟨g', cap, cur, rfl, _⟩⟩
  · exact ⟨none, 0, by rw [h2]⟩
  · exact ⟨_, _, rfl⟩
theorem flatLf_at {l : List Lf} (h : okLf l) : ∀ (j i : Nat) (v : Value), j < l.length → (lfC (l.getD j ([], [])))[i]? = some v → (flatLf l)[j * 64 + i]? = some v := by
  unfold flatLf
  induction l with
  | nil => intro j i v hj; simp at hj
  | cons d r ih =>
    intro j i v hj hv
    rw [List.map_cons, List.flatten_cons]
    have hl : (lfC d).length = 64 := lfC_len (h d (by simp))
    cases j with
    | zero =>
      rw [List.getD_cons_zero] at hv
      have hi : i < (lfC d).length := (List.getElem?_eq_some_iff.1 hv).1
      rw [Nat.zero_mul, Nat.zero_add, List.getElem?_append_left hi, hv]
    | succ j =>
      rw [List.getD_cons_succ] at hv
      rw [List.getElem?_append_right (by rw [hl]; omega), hl, show (j + 1) * 64 + i - 64 = j * 64 + i by omega]
      exact ih (fun x hx => h x (by simp [hx])) j i v (by simpa using hj) hv
theorem OwnLv.rd {w : World} {base : Nat} {v : Value} {l : List Lf} (h : OwnLv w base v l) : RdLv w v l := by
  refine ⟨?_, h.2⟩
  rcases h.1 with ⟨h1, ⟨rfl, h2⟩ | ⟨g, cap, cur, rfl, hg, hh, hc, hm, hs, ht⟩⟩
  · exact ⟨none, 0, by rw [h2], by omega, fun hp => by omega⟩
  · refine ⟨_, cap, rfl, hc, fun hp => ⟨g, 0, rfl, fun j hj i v hv => ?_⟩⟩
    have hi : i < 64 := by have := (List.getElem?_eq_some_iff.1 hv).1; rwa [lf_pos h.2 hj] at this
    have hf := flatLf_at h.2 j i v hj hv
    rw [← ht, List.getElem?_take] at hf
    rw [cell_of_row w g _ cur 119 (0, 0) hh, Nat.zero_add]
    rw [if_pos (by
      have : (j + 1) * 64 ≤ l.length * 64 := Nat.mul_le_mul_right 64 hj
      omega)] at hf
    simpa using hf
def OwnX (w : World) (base : Nat) (v : Value) (us : List Value) : Prop := w.ownsRow base 49 1 v us.length us
theorem OwnX.nil (w : World) (base : Nat) : OwnX w base (.slice none 0 0) [] := World.ownsRow_nil _ _ _ _
theorem OwnX.lt {w : World} {base : Nat} {v : Value} {us : List Value} (h : OwnX w base v us) : ∀ k, v.ownBlock = some k → base ≤ k ∧ k < w.heap.size := World.ownsRow.lt h
theorem OwnX.same {w w' : World} {base : Nat} {v : Value} {us : List Value} (h : OwnX w base v us) (hs : ∀ k, v.ownBlock = some k → w'.heap[k]? = w.heap[k]?) : OwnX w' base v us := by
  rcases h with ⟨h1, ⟨rfl, h2⟩ | ⟨g, cap, cur, rfl, hg, hh, h3⟩⟩
  · exact ⟨h1, Or.inl ⟨rfl, h2⟩⟩
  · exact ⟨h1, Or.inr ⟨g, cap, cur, rfl, hg, by rw [hs g rfl]; exact hh, h3⟩⟩
theorem OwnX.form {w : World} {base : Nat} {v : Value} {us : List Value} (h : OwnX w base v us) : ∃ a c, v = .slice a us.length c := by
  rcases h with ⟨_, ⟨rfl, h2⟩ | ⟨g', cap, cur, rfl, _⟩⟩
  · exact ⟨none, 0, by rw [h2]⟩
  · exact ⟨_, _, rfl⟩
theorem OwnX.at {w : World} {base : Nat} {v : Value} {us : List Value} (h : OwnX w base v us) {j : Nat} {u : Value} (hj : us[j]? = some u) : ∃ g c, v = .slice (some ⟨g, 0, none⟩) us.length c ∧ w.cell? ⟨g, j, none⟩ = some u ∧ g < w.heap.size := by
  have hl := (List.getElem?_eq_some_iff.1 hj).1
  rcases h with ⟨_, ⟨rfl, h2⟩ | ⟨g, cap, cur, rfl, hg, hh, hc, hm, hs, ht⟩⟩
  · omega
  · refine ⟨g, cap, rfl, ?_, (Array.getElem?_eq_some_iff.1 hh).1⟩
    rw [cell_of_row w g j cur 49 (0, 0) hh]
    rw [Nat.mul_one] at ht
    rw [← ht, List.getElem?_take_of_lt hl] at hj
    simpa using hj
theorem OwnX.ne_bytes {w : World} {base b2 : Nat} {v u : Value} {us : List Value} {l : By} (h : OwnX w base v us) (h2 : OwnB w b2 u l) : ∀ k, v.ownBlock = some k → u.ownBlock ≠ some k := fun k hk e => by
  rcases h with ⟨_, ⟨rfl, _⟩ | ⟨g, cap, cur, rfl, _, hh, _⟩⟩
  · cases hk
  rcases h2 with ⟨_, ⟨rfl, _⟩ | ⟨g2, cap2, cur2, rfl, _, hh2, _⟩⟩
  · cases e
  simp only [Value.ownBlock, Option.some.injEq] at hk e
  rw [← e] at hk
  rw [hk, hh2] at hh
  simp only [Option.some.injEq, Obj.cells.injEq] at hh
  exact absurd hh.2.1 (by decide)
theorem Tryz.infobsP : (Tryz.prog.info? 49).map (fun i => (i.zero, i.size, i.bytes)) = some (some (.slice none 0 0), 1, 24) := by kernel_rfl
theorem wpSeq_appX {ops : Array Oper} {Q : Exit → Act → World → Prop} {rest : List Oper} {o : Oper} {a : Act} {w : World} (s x : Operand) (base : Nat) (v u : Value) (us : List Value) (g : Nat)
    (hown : OwnX w base v us) (hu : Blk w g [u] 49) (h1 : u.oneCell' = true) (hlen : us.length < 1000000) (hbase : base ≤ w.heap.size)
    (ho : o.op = .call { callee := .builtin .append, args := #[s, x], argTypes := #[26, 26] }) (hs : a.eval s = v) (hx : a.eval x = .slice (some ⟨g, 0, none⟩) 1 1) (hgd : o.guard = none)
    (h : ∀ v' w', OwnX w' base v' (us ++ [u]) → GrV w v w' v' → wpList Tryz.prog ops Q rest (a.put o.dst v') w') : wpList Tryz.prog ops Q (o :: rest) a w := by
  obtain ⟨i0, hi, hz0, hz1, hz2⟩ := info_parts Tryz.infobsP
  refine wpList_append_own_at (P := Tryz.prog) w hgd s x 26 ho base 49 i0 (.slice none 0 0) 1 24 Tryz.underlying26 hi hz0 hz1 hz2 rfl (by decide) v us.length us hs hown ⟨g, 0, none⟩ 1 1 [u] hx rfl (fun j q hj => by rw [Addr.add_mid, Nat.zero_add, hu.cell]; exact hj) (fun q hq => by rw [List.mem_singleton.1 hq]; exact h1) (by unfold maxLen; omega) (by omega) hbase ?_
  intro v' w' h2 h3 _ h5
  refine h v' w' ?_ ⟨mut_grown h3, fun k hk => ?_⟩
  · unfold OwnX; rw [List.length_append]; exact h2
  · rcases h5 with h5 | h5
    · exact Or.inl (h5 ▸ hk)
    · rw [h5] at hk; cases hk; exact Or.inr (Nat.le_refl _)
theorem build_x1 (f : Operand → Value) (o : Oper) (x : Operand) (ad : Option Addr) (n c : Nat) (hx : f x = .slice ad n c) (ho : o.op = .buildSlice 26 1 #[(0, x)]) (w : World) : (execOp f o).run Tryz.prog w = .ok (.value (.slice (some ⟨w.heap.size, 0, none⟩) 1 1)) (w.alloc (.cells [Value.slice ad n c].toArray 49)) := by
  unfold execOp
  rw [ho]
  simp only [List.map_toArray, List.map_cons, List.map_nil, hx]
  kernel_rfl
theorem wpSeq_buildX {ops : Array Oper} {Q : Exit → Act → World → Prop} {rest : List Oper} {o : Oper} {a : Act} {w : World} (x : Operand) (ad : Option Addr) (n c : Nat) (hx : a.eval x = .slice ad n c) (ho : o.op = .buildSlice 26 1 #[(0, x)]) (hw : Region.wanted o (yielded ops a.tmps) = true)
    (h : ∀ g w', Blk w' g [.slice ad n c] 49 → w.heap.size ≤ g → Below w.heap.size w w' → wpList Tryz.prog ops Q rest (a.put o.dst (.slice (some ⟨g, 0, none⟩) 1 1)) w') : wpList Tryz.prog ops Q (o :: rest) a w :=
  wpSeq_val _ _ hw (build_x1 _ o x ad n c hx ho w) (h _ _ (Blk.new w _ _) (Nat.le_refl _) (below_alloc w _))
theorem Reads.sameP {W W' : World} {v : Value} {l : By} (h : Reads W v l) (hs : ∀ k, v.ownBlock = some k → W'.heap[k]? = W.heap[k]?) : Reads W' v l := by
  obtain ⟨ad, cap, rfl, h2, h3, h4⟩ := h
  refine ⟨ad, cap, rfl, h2, h3, fun hp => ?_⟩
  obtain ⟨b, off, rfl, h5⟩ := h4 hp
  exact ⟨b, off, rfl, fun j hj => by rw [World.cell?_of_block (w := W) (hs b rfl)]; exact h5 j hj⟩
theorem Reads.nilP (W : World) : Reads W (.slice none 0 0) [] := ⟨none, 0, rfl, Nat.le_refl _, fun _ => rfl, fun h => by simp at h⟩
theorem results_tmp2 {fn : Func} {u0 u1 : Tmp} (h : fn.results = #[.tmp u0, .tmp u1]) (tmps : Array Value) (P : Program) (w : World) : (results fn tmps).run P w = .ok (.tuple #[tmps.getD u0 undef, tmps.getD u1 undef]) w := by
  simp [results, h, go_sem]
structure PgS (W : World) (base : Nat) (v : Value) (us : List Value) (ps : List By) (X : Nat → Prop) : Prop where
  own : OwnX W base v us
  len : us.length = ps.length
  good : ∀ j u, us[j]? = some u → Reads W u (ps.getD j []) ∧ ∀ k, u.ownBlock = some k → k < W.heap.size ∧ v.ownBlock ≠ some k ∧ ¬ X k
theorem PgS.nil (W : World) (base : Nat) (X : Nat → Prop) : PgS W base (.slice none 0 0) [] [] X := ⟨OwnX.nil _ _, rfl, fun j u h => by simp at h⟩
theorem PgS.next {W W' : World} {base : Nat} {v : Value} {us : List Value} {ps : List By} {X : Nat → Prop} (h : PgS W base v us ps X) (hb : Below W.heap.size W W') : PgS W' base v us ps X :=
  ⟨h.own.same fun k hk => hb.block k (h.own.lt k hk).2, h.len, fun j u hj => ⟨(h.good j u hj).1.sameP fun k hk => hb.block k ((h.good j u hj).2 k hk).1, fun k hk => ⟨Nat.lt_of_lt_of_le ((h.good j u hj).2 k hk).1 hb.size, ((h.good j u hj).2 k hk).2⟩⟩⟩
theorem PgS.weak {W : World} {base : Nat} {v : Value} {us : List Value} {ps : List By} {X Y : Nat → Prop} (h : PgS W base v us ps X) (hY : ∀ k, k < W.heap.size → Y k → X k) : PgS W base v us ps Y :=
  ⟨h.own, h.len, fun j u hj => ⟨(h.good j u hj).1, fun k hk => ⟨((h.good j u hj).2 k hk).1, ((h.good j u hj).2 k hk).2.1, fun hy => ((h.good j u hj).2 k hk).2.2 (hY k ((h.good j u hj).2 k hk).1 hy)⟩⟩⟩
theorem PgS.beside {W W' : World} {base b2 : Nat} {v vb vb' : Value} {us : List Value} {ps : List By} {bs : By} {X : Nat → Prop} (h : PgS W base v us ps (fun k => X k ∨ vb.ownBlock = some k)) (ho : OwnB W b2 vb bs) (hg : GrV W vb W' vb') : PgS W' base v us ps (fun k => X k ∨ vb'.ownBlock = some k) :=
  ⟨h.own.same fun k hk => hg.other (h.own.lt k hk).2 (h.own.ne_bytes ho k hk), h.len, fun j u hj =>
    ⟨(h.good j u hj).1.sameP fun k hk => hg.other ((h.good j u hj).2 k hk).1 fun e => ((h.good j u hj).2 k hk).2.2 (Or.inr e), fun k hk => by
      obtain ⟨h1, h2, h3⟩ := (h.good j u hj).2 k hk
      refine ⟨Nat.lt_of_lt_of_le h1 hg.mt.size, h2, fun hx => hx.elim (fun e => h3 (Or.inl e)) fun e => ?_⟩
      rcases hg.lies k e with e2 | e2
      · exact h3 (Or.inr e2)
      · omega⟩⟩
theorem PgS.more {W W' : World} {base : Nat} {v v' u : Value} {us : List Value} {ps : List By} {p : By} {X : Nat → Prop} (h : PgS W base v us ps X) (ho : OwnX W' base v' (us ++ [u])) (hg : GrV W v W' v') (hu : Reads W u p) (hk : ∀ k, u.ownBlock = some k → k < W.heap.size ∧ v.ownBlock ≠ some k ∧ ¬ X k) : PgS W' base v' (us ++ [u]) (ps ++ [p]) X := by
  have key : ∀ {x : Value} {q : By}, Reads W x q → (∀ k, x.ownBlock = some k → k < W.heap.size ∧ v.ownBlock ≠ some k ∧ ¬ X k) → Reads W' x q ∧ ∀ k, x.ownBlock = some k → k < W'.heap.size ∧ v'.ownBlock ≠ some k ∧ ¬ X k := fun hr hx =>
    ⟨hr.sameP fun k e => hg.other (hx k e).1 (hx k e).2.1, fun k e => ⟨Nat.lt_of_lt_of_le (hx k e).1 hg.mt.size, fun e2 => by
      rcases hg.lies k e2 with e3 | e3
      · exact (hx k e).2.1 e3
      · have := (hx k e).1; omega, (hx k e).2.2⟩⟩
  refine ⟨ho, by rw [List.length_append, List.length_append, h.len]; rfl, fun j x hj => ?_⟩
  rcases Nat.lt_or_ge j us.length with hl | hl
  · rw [List.getElem?_append_left hl] at hj
    have hp : (ps ++ [p]).getD j [] = ps.getD j [] := by
      rw [List.getD_eq_getElem?_getD, List.getD_eq_getElem?_getD, List.getElem?_append_left (by rw [← h.len]; exact hl)]
    rw [hp]
    exact key (h.good j x hj).1 (h.good j x hj).2
  · rw [List.getElem?_append_right hl] at hj
    have hj0 : j - us.length = 0 := by have := (List.getElem?_eq_some_iff.1 hj).1; simp at this; omega
    rw [hj0] at hj
    cases hj
    have hp : (ps ++ [p]).getD j [] = p := by
      rw [List.getD_eq_getElem?_getD, List.getElem?_append_right (by rw [← h.len]; exact hl), ← h.len, hj0]; rfl
    rw [hp]
    exact key hu hk
theorem PgS.put {W W' : World} {base g n c k : Nat} {u : Value} {us : List Value} {ps : List By} {p : By} {X : Nat → Prop} (h : PgS W base (.slice (some ⟨g, 0, none⟩) n c) us ps X) (hl : k < us.length) (ho : OwnX W' base (.slice (some ⟨g, 0, none⟩) n c) (us.set k u)) (hg : Only g W W') (hu : Reads W u p) (hk : ∀ k, u.ownBlock = some k → k < W.heap.size ∧ g ≠ k ∧ ¬ X k) : PgS W' base (.slice (some ⟨g, 0, none⟩) n c) (us.set k u) (ps.set k p) X := by
  have key : ∀ {x : Value} {q : By}, Reads W x q → (∀ k, x.ownBlock = some k → k < W.heap.size ∧ g ≠ k ∧ ¬ X k) → Reads W' x q ∧ ∀ k, x.ownBlock = some k → k < W'.heap.size ∧ (Value.slice (some ⟨g, 0, none⟩) n c).ownBlock ≠ some k ∧ ¬ X k := fun hr hx =>
    ⟨hr.sameP fun k e => hg.block k (fun e2 => (hx k e).2.1 e2.symm) (hx k e).1, fun k e => ⟨Nat.lt_of_lt_of_le (hx k e).1 hg.size, fun e2 => (hx k e).2.1 (by cases e2; rfl), (hx k e).2.2⟩⟩
  refine ⟨ho, by rw [List.length_set, List.length_set, h.len], fun j x hj => ?_⟩
  rcases Nat.decEq k j with hkj | hkj
  · rw [List.getElem?_set_ne hkj] at hj
    have hp : (ps.set k p).getD j [] = ps.getD j [] := by
      rw [List.getD_eq_getElem?_getD, List.getD_eq_getElem?_getD, List.getElem?_set_ne hkj]
    rw [hp]
    exact key (h.good j x hj).1 fun i hi => ⟨((h.good j x hj).2 i hi).1, fun e => ((h.good j x hj).2 i hi).2.1 (by rw [← e]; rfl), ((h.good j x hj).2 i hi).2.2⟩
  · subst hkj
    rw [List.getElem?_set_self hl] at hj
    cases hj
    have hp : (ps.set k p).getD k [] = p := by
      rw [List.getD_eq_getElem?_getD, List.getElem?_set_self (by rw [← h.len]; exact hl)]; rfl
    rw [hp]
    exact key hu hk
theorem PgS.readsL {W : World} {base : Nat} {v : Value} {us : List Value} {ps : List By} {X : Nat → Prop} (h : PgS W base v us ps X) : ReadsL W v ps := by
  obtain ⟨a, c, hv⟩ := h.own.form
  have hl := h.len
  rcases h.own with ⟨_, ⟨e1, h2⟩ | ⟨g, cap, cur, e1, hg, hh, hc, hm, hs, ht⟩⟩
  · have : ps = [] := List.eq_nil_of_length_eq_zero (by rw [← hl]; exact h2)
    subst this
    exact ⟨none, 0, e1, Nat.le_refl _, fun _ => rfl, fun hp => by simp at hp⟩
  · refine ⟨_, cap, by rw [e1, hl], by rw [← hl]; exact hc, (fun e => by cases e), fun hp => ⟨g, 0, rfl, fun j hj => ?_⟩⟩
    have hju : j < us.length := by rw [hl]; exact hj
    obtain ⟨g2, c2, e2, hc2, _⟩ := h.own.at (j := j) (u := us[j]) (by rw [List.getElem?_eq_getElem hju])
    rw [e1] at e2
    cases e2
    exact ⟨us[j], by rw [Nat.zero_add]; exact hc2, (h.good j us[j] (by rw [List.getElem?_eq_getElem hju])).1⟩
theorem wpSeq_storeX {ops : Array Oper} {Q : Exit → Act → World → Prop} {rest : List Oper} {o : Oper} {a : Act} {w : World} (x y : Operand) (base g n c k : Nat) (us : List Value) (ad : Option Addr) (nn cc : Nat) (hown : OwnX w base (.slice (some ⟨g, 0, none⟩) n c) us) (hk : k < us.length) (ho : o.op = .store 49 x y) (hx : a.eval x = .pointer (some ⟨g, k, none⟩)) (hy : a.eval y = .slice ad nn cc) (hw : Region.wanted o (yielded ops a.tmps) = true)
    (h : ∀ w', OwnX w' base (.slice (some ⟨g, 0, none⟩) n c) (us.set k (.slice ad nn cc)) → Only g w w' → wpList Tryz.prog ops Q rest (a.put o.dst undef) w') : wpList Tryz.prog ops Q (o :: rest) a w := by
  obtain ⟨hl, ⟨e1, h2⟩ | ⟨g2, cap, cur, e1, hg, hh, hc, hm, hs, ht⟩⟩ := hown
  · cases e1
  cases e1
  rw [Nat.mul_one] at hs ht
  have hb : Blk w g cur.toList 49 := by unfold Blk; rw [Array.toArray_toList]; exact hh
  have hkc : k < cur.toList.length := by rw [Array.length_toList]; omega
  have hcl : w.cell? ⟨g, k, none⟩ = some cur.toList[k] := by rw [hb.cell, List.getElem?_eq_getElem hkc]
  have hf : w.frozen? ⟨g, k, none⟩ = false := hb.frozen k
  have he : (execOp a.eval o).run Tryz.prog w = .ok .skip (w.setCell ⟨g, k, none⟩ (.slice ad nn cc)) := by
    clear h hw
    generalize a.eval = f at hx hy ⊢
    unfold execOp
    rw [ho]
    simp [go_sem, hx, hy, hcl, hf]
  unfold wpList
  simp only [hw, if_true]
  left
  unfold Oper.wp
  rw [he, Oper.upon_skip]
  refine h _ ⟨by rw [List.length_set, Nat.mul_one], Or.inr ⟨g, c, (cur.toList.set k (.slice ad nn cc)).toArray, by rw [List.length_set], hg, hb.set k _, by rw [List.length_set]; exact hc, hm, by simp [hs], ?_⟩⟩ (Only.setCell (Only.refl g w) k _)
  rw [List.length_set, Nat.mul_one, List.take_set, ht]
theorem wpSeq_idxX {ops : Array Oper} {Q : Exit → Act → World → Prop} {rest : List Oper} {o : Oper} {a : Act} {w : World} (x y : Operand) (b off n c k : Nat) (hk : k < n) (ho : o.op = .indexAddr 26 x y) (hx : a.eval x = .slice (some ⟨b, off, none⟩) n c) (hy : a.eval y = .int .i64 (k : Int)) (hw : Region.wanted o (yielded ops a.tmps) = true)
    (h : wpList Tryz.prog ops Q rest (a.put o.dst (.pointer (some ⟨b, off + k, none⟩))) w) : wpList Tryz.prog ops Q (o :: rest) a w := by
  refine wpSeq_val _ _ hw ?_ h
  have i0 : (0 : Int) ≤ (k : Int) := by omega
  have i1 : (k : Int) < (n : Int) := by omega
  unfold execOp
  generalize a.eval = f at hx hy ⊢
  simp only [ho, hx, hy]
  simp [go_sem, i0, i1]
end Go.Proofs.YtphmmnffgknkcabGreatDoor
namespace Go.Proofs.YtphmmnffgknkcabGreatDoor
open Go.RowKit
set_option maxRecDepth 100000
theorem arrD : WideMaps.ArrKey Tryz.prog 40 5 32 := ⟨Tryz.underlying40, by kernel_rfl, by kernel_rfl, by kernel_rfl⟩
theorem kD : Maps.Keyed Tryz.prog 40 := Maps.Keyed.of_law arrD.law
theorem typesP : ∃ m, Tryz.prog.types.size = m + 1 := ⟨Tryz.prog.types.size - 1, by kernel_rfl⟩
theorem lits_map (cs : List Value) (f : Nat → BitVec 8) (D : Nat) : ∀ (L : List Nat), (∀ i ∈ L, (cs.drop (i * 1)).take 1 = [.int .u8 ((f i).toNat : Int)]) → L.mapM (fun i => Tryz.prog.keyLits (D + 1) 5 ((cs.drop (i * 1)).take 1)) = some (L.map fun i => [Lit.int .u8 ((f i).toNat : Int)])
  | [], _ => rfl
  | i :: L, h => by
    rw [List.mapM_cons, lits_map cs f D L (fun j hj => h j (List.mem_cons_of_mem _ hj)), h i (by simp)]
    have hb := (f i).isLt
    have hw : (Lit.int .u8 ((f i).toNat : Int)).wf = true := by simp [Lit.wf, IntKind.min, IntKind.max, IntKind.signed, IntKind.bits]; omega
    simp [Program.keyLits, Tryz.underlying5, hw]
def litD (x : By) : Lit := .string (keyBytes (((List.range 32).map fun i => [Lit.int .u8 ((x.getD i 0).toNat : Int)]).flatten))
theorem keyD {x : By} (hx : x.length = 32) : keyOf Tryz.prog 40 (.agg (cb x).toArray) = some (litD x) := by
  obtain ⟨m0, hm0⟩ := typesP
  have hl := lits_map (cb x) (fun i => x.getD i 0) m0 (List.range 32) (fun i hi => by
    have hi2 : i < 32 := List.mem_range.1 hi
    rw [Nat.mul_one, List.drop_eq_getElem_cons (by rw [cb_len]; omega)]
    have := cb_get x i (by omega)
    rw [List.getElem?_eq_getElem (by rw [cb_len]; omega)] at this
    simp only [Option.some.injEq] at this
    rw [List.take_succ_cons, List.take_zero, this])
  unfold keyOf
  simp only [arrD.hu]
  rw [if_pos (by simp [arrD.keyType typesP, Value.formed, arrD.hu, arrD.size, cb_len, hx]), hm0]
  unfold Program.keyLits
  simp only [arrD.hu, Value.cells]
  rw [if_pos (by rw [arrD.size]; simp [cb_len, hx]), arrD.one, hl]
  rfl
theorem cb_injP : ∀ {x y : By}, cb x = cb y → x = y
  | [], [], _ => rfl
  | [], _ :: _, h => by cases h
  | _ :: _, [], h => by cases h
  | a :: x, b :: y, h => by
    unfold cb at h
    simp only [List.map_cons, List.cons.injEq, Value.int.injEq, true_and] at h
    have e : a = b := BitVec.eq_of_toNat_eq (by omega)
    rw [e, cb_injP h.2]
theorem litD_inj {x y : By} (hx : x.length = 32) (hy : y.length = 32) (h : litD x = litD y) : x = y := by
  have h1 := keyD hx
  rw [h] at h1
  have h2 := kD.inj h1 (keyD hy)
  simp only [Value.agg.injEq] at h2
  exact cb_injP (by simpa using h2)
theorem litDK {x : By} (hx : x.length = 32) : WideAt.IsKeyLit (litD x) := kD.key (keyD hx)
structure MapP (w : World) (gm n : Nat) (F : By → Option Nat) : Prop where
  ex : ∃ D : DataW Unit, w.ownsMap Tryz.prog 40 (plainElem Tryz.prog 3) gm n D ∧ ∀ x : By, x.length = 32 → Maps.has D (litD x) = (F x).isSome ∧ ∀ i, F x = some i → D.atKey (litD x) (.lit (.int .i64 0)) = .lit (.int .i64 (i : Int))
theorem MapP.lt {w : World} {gm n : Nat} {F : By → Option Nat} (h : MapP w gm n F) : gm < w.heap.size := by obtain ⟨D, h1, _⟩ := h.ex; exact h1.lt
theorem MapP.same {w w' : World} {gm n : Nat} {F : By → Option Nat} (h : MapP w gm n F) (e : w'.heap[gm]? = w.heap[gm]?) : MapP w' gm n F := by
  obtain ⟨D, ⟨es, cl, hb, r⟩, h2⟩ := h.ex
  exact ⟨D, ⟨es, cl, by rw [e]; exact hb, r⟩, h2⟩
theorem MapP.next {w w' : World} {gm n : Nat} {F : By → Option Nat} (h : MapP w gm n F) (hb : Below w.heap.size w w') : MapP w' gm n F := h.same (hb.block gm h.lt)
theorem MapP.ne {w : World} {gm n : Nat} {F : By → Option Nat} (h : MapP w gm n F) {g : Nat} {cs : Array Value} {t : TypeId} {fr : Nat × Nat} (hb : w.heap[g]? = some (.cells cs t fr)) : gm ≠ g := fun e => by
  obtain ⟨D, ⟨es, cl, hm, _⟩, _⟩ := h.ex
  subst e
  rw [hm] at hb
  cases hb
theorem mapP_new (w : World) : MapP (w.alloc (.map #[] 0)) w.heap.size 0 (fun _ => none) :=
  ⟨⟨.map [], World.ownsMap_made w _ _ _, fun _ _ => ⟨rfl, fun i h => (by cases h)⟩⟩⟩
theorem intE {i : Nat} (hi : i < 1000000000) : plainElem (H := Unit) Tryz.prog 3 (.int .i64 (i : Int)) = some (.lit (.int .i64 (i : Int)), []) := plainElem_int Tryz.underlying3 (by simp [Lit.wf, IntKind.min, IntKind.max, IntKind.signed, IntKind.bits]; omega)
theorem intE_inv {v : Value} {i : Int} {ps : List MemPlace} (h : plainElem (H := Unit) Tryz.prog 3 v = some (.lit (.int .i64 i), ps)) : v = .int .i64 i := by
  obtain ⟨a, h1, h2, _⟩ := plainElem_int_inv Tryz.underlying3 h
  simp only [Prod.mk.injEq, DataW.lit.injEq, Lit.int.injEq, true_and] at h2
  rw [h1, h2.1]
theorem MapP.look {w : World} {gm n : Nat} {F : By → Option Nat} (h : MapP w gm n F) {x : By} (hx : x.length = 32) : (Instr.lookup 53 (.map (some gm)) (.agg (cb x).toArray) true).run Tryz.prog w = .ok (.tuple #[.int .i64 (((F x).getD 0 : Nat) : Int), .bool (F x).isSome]) w := by
  obtain ⟨D, h1, h2⟩ := h.ex
  obtain ⟨v, ps, hr, hv⟩ := h1.look_ok kD Tryz.underlying53 (z := .int .i64 0) (by kernel_rfl) (intE (i := 0) (by decide)) (keyD hx)
  obtain ⟨h3, h4⟩ := h2 x hx
  rw [h3] at hr
  cases hf : F x with
  | some i =>
    have hv2 : plainElem (H := Unit) Tryz.prog 3 v = some (.lit (.int .i64 (i : Int)), ps) := by rw [← h4 i hf]; exact hv
    rw [intE_inv hv2, hf] at hr
    exact hr
  | none =>
    have hn : Maps.has D (litD x) = false := by rw [h3, hf]; rfl
    rw [Maps.atKey_of_not_has hn] at hv
    have hv2 : v = .int .i64 0 := intE_inv hv
    rw [hv2, hf] at hr
    exact hr
theorem mapTurned_only {w w' : World} {gm : Nat} (h : w.mapTurned w' gm) : Only gm w w' := by
  obtain ⟨es, cl, es', cl', hb, rfl⟩ := h
  exact ⟨rfl, rfl, rfl, by simp [ChangeMaps.setBlock], fun k hk _ => ChangeMaps.heap_setBlock_other hb _ hk⟩
theorem MapP.lay {w : World} {gm n : Nat} {F : By → Option Nat} (h : MapP w gm n F) (hn : n < 100000000) {x : By} (hx : x.length = 32) {i : Nat} (hi : i < 1000000000) : ∃ w', (Instr.mapUpdate 53 (.map (some gm)) (.agg (cb x).toArray) (.int .i64 (i : Int))).run Tryz.prog w = .ok () w' ∧ MapP w' gm (n + 1) (fun q => if q = x then some i else F q) ∧ Only gm w w' := by
  obtain ⟨D, h1, h2⟩ := h.ex
  have hm := h1.isMap
  obtain ⟨w', hr, h4, h5⟩ := h1.store kD Tryz.underlying53 (by unfold maxLen; omega) (keyD hx) (intE hi)
  refine ⟨w', hr, ⟨⟨_, h4, fun q hq => ?_⟩⟩, mapTurned_only h5⟩
  by_cases e : q = x
  · subst e
    refine ⟨?_, fun j hj => ?_⟩
    · rw [Maps.has_put_same hm (litDK hx)]; simp
    · rw [Maps.atKey_put_same hm (litDK hx)]
      rw [if_pos rfl] at hj
      cases hj
      rfl
  · have hne : litD q ≠ litD x := fun e2 => e (litD_inj hq hx e2)
    simp only [if_neg e]
    refine ⟨?_, fun j hj => ?_⟩
    · rw [Maps.has_put_other hne]; exact (h2 q hq).1
    · rw [Maps.atKey_put_other hne]; exact (h2 q hq).2 j hj
end Go.Proofs.YtphmmnffgknkcabGreatDoor
namespace Go.Proofs.YtphmmnffgknkcabGreatDoor
open Go.RowKit
set_option maxRecDepth 100000
theorem wpSeq_mkMapP {ops : Array Oper} {Q : Exit → Act → World → Prop} {rest : List Oper} {o : Oper} {a : Act} {w : World} (ho : o.op = .makeMap 53 none) (hw : Region.wanted o (yielded ops a.tmps) = true)
    (h : ∀ gm w', MapP w' gm 0 (fun _ => none) → w.heap.size ≤ gm → Below w.heap.size w w' → wpList Tryz.prog ops Q rest (a.put o.dst (.map (some gm))) w') : wpList Tryz.prog ops Q (o :: rest) a w :=
  wpSeq_val _ _ hw (by unfold execOp; rw [ho]; rfl) (h _ _ (mapP_new w) (Nat.le_refl _) (below_alloc w _))
structure PoI (w : World) (gm : Nat) (ps : List By) (k : Nat) (W : World) : Prop where
  bel : Below w.heap.size w W
  ge : w.heap.size ≤ gm
  mp : MapP W gm k (plK ps k)
set_option maxHeartbeats 4000000 in
theorem pgPlaces_any (v : Value) (ps : List By) (w : World) (hK : KOk w) (hR : ReadsL w v ps) (hn : ps.length < 100000) (hb : ∀ p ∈ ps, p.length < 1125899906842624) :
    Calls Tryz.prog 19 #[v] w fun e w' => ∃ gm, e = .returned (.map (some gm)) ∧ w.heap.size ≤ gm ∧ MapP w' gm ps.length (plK ps ps.length) ∧ Below w.heap.size w w' := by
  have HR : Hid (ReadsL w v ps) := hR
  have HK : Hid (KOk w) := hK
  have HB : Hid (∀ p ∈ ps, p.length < 1125899906842624) := hb
  obtain ⟨ad, cap, hv, hcap, _, _⟩ := hR
  obtain ⟨n, HNN⟩ : ∃ n, Hid (n = ps.length) := ⟨_, rfl⟩
  rw [← HNN.out] at hv hcap hn ⊢
  subst hv
  clear hK hb
  go_enter Tryz.func19, Tryz.ntmps19
  go_wp2_with (with_reducible refine wpSeq_mkMapP ?_ ?_ ?_
               · rfl
               · rfl
               intro gm w1 hm hge hb1
               have HI0 : Hid (PoI w gm ps 0 w1) := ⟨hb1, hge, hm⟩
               clear hm hge hb1)
  go_loopw [9] (fun i wr => ∃ k : Nat, k ≤ n ∧ i = .int .i64 k ∧ PoI w gm ps k wr) (fun i _ => n - (intOf i).toNat)
  case atStart => exact ⟨0, by omega, rfl, HI0.out⟩
  case round =>
    obtain ⟨k, hk, rfl, hI⟩ := hrel
    have HI : Hid (PoI w gm ps k wr) := hI
    by_cases hlt : k < n
    · obtain ⟨ad', cap', hv', _, _, hx⟩ := HR.out.below hI.bel
      rw [← HNN.out] at hv' hx
      simp only [Value.slice.injEq, true_and] at hv'
      obtain ⟨rfl, rfl⟩ := hv'
      obtain ⟨b, off, rfl, hx2⟩ := hx (by omega)
      obtain ⟨vj, cj, hj⟩ := hx2 k hlt
      have HJ : Hid (Reads wr vj (ps.getD k [])) := hj
      have HKL : Hid (k < ps.length) := by show _ < _; rw [← HNN.out]; exact hlt
      have HPL : Hid ((ps.getD k []).length < 2305843009213693952) := by
        show _ < _
        have hm : ps.getD k [] ∈ ps := by rw [List.getD_eq_getElem?_getD, List.getElem?_eq_getElem HKL.out]; exact List.getElem_mem _
        have := HB.out _ hm
        omega
      obtain ⟨x, HX⟩ : ∃ x, Hid (x = dig (ps.getD k [])) := ⟨_, rfl⟩
      have HXL : Hid (x.length = 32) := by show _ = _; rw [HX.out]; exact len_dig' _
      have HKW : Hid (KOk wr) := HK.out.below hI.bel HK.out.lt
      have HPK : Hid ((fun q => if q = x then some k else plK ps k q) = plK ps (k + 1)) := by show _ = _; rw [HX.out]; rfl
      clear hx hx2 hj hI
      have tk0 : Hid True := trivial
      go_wp2_with (clear tk0; go_at_call 17; refine (tOf_any vj (ps.getD k []) _ HKW.out HJ.out HPL.out).mono ?_; rintro e w2 ⟨rfl, hb2⟩
                   rw [← HX.out]
                   obtain ⟨w3, hrun, hm3, ho3⟩ := (HI.out.mp.next hb2).lay (Nat.lt_of_le_of_lt hk (Nat.lt_trans hn (by decide))) HXL.out (i := k) (Nat.lt_of_le_of_lt hk (Nat.lt_trans hn (by decide)))
                   have HJ3 : Hid (PoI w gm ps (k + 1) w3) := ⟨(HI.out.bel.trans (hb2.mono HI.out.bel.size)).trans (ho3.below HI.out.ge (Nat.le_trans HI.out.bel.size hb2.size)), HI.out.ge, by rw [← HPK.out]; exact hm3⟩
                   clear hb2 hm3 ho3)
      have hJ := HJ3.out
      clear HJ3 HI HKL HPL HX HXL HKW HPK hrun
      go_roundw
      case rel => exact ⟨k + 1, by omega, by go_num, hJ⟩
      case measure => simp [intOf]; omega
    · have hkn : k = n := by omega
      subst hkn
      have HF : Hid (MapP wr gm k (plK ps k) ∧ Below w.heap.size w wr ∧ w.heap.size ≤ gm) := ⟨hI.mp, hI.bel, hI.ge⟩
      clear hI HI
      go_wp2
      go_ret
      refine ⟨gm, rfl, HF.out.2.2, ?_, HF.out.2.1⟩
      have h := HF.out.1
      rw [HNN.out] at h ⊢
      exact h
end Go.Proofs.YtphmmnffgknkcabGreatDoor
namespace Go.Proofs.YtphmmnffgknkcabGreatDoor
open Go.RowKit
set_option maxRecDepth 100000
theorem Tryz.infoLf : (Tryz.prog.info? 119).map (fun i => (i.zero, i.size, i.bytes)) = some (some (.agg (cb zb32 ++ cb zb32).toArray), 64, 64) := by kernel_rfl
set_option maxHeartbeats 2000000 in
theorem pgPart1_any (b off n cap i g2 g3 : Nat) (d : Nat) (x : By) (w : World) (hi : i < n) (hd : d < 256) (hx32 : x.length = 32) (hR : w.rangeAt b (off + i * 64) (cb x)) (hc2 : w.cell? ⟨g2, 0, none⟩ = some (.slice (some ⟨b, off, none⟩) n cap)) (hc3 : w.cell? ⟨g3, 0, none⟩ = some (.int .i64 (d : Int))) :
    Calls Tryz.prog 87 (#[.int .i64 (i : Int)] ++ #[.pointer (some ⟨g2, 0, none⟩), .pointer (some ⟨g3, 0, none⟩)]) w fun e w' => e = .returned (.bool (bt x d)) ∧ Below w.heap.size w w' := by
  have HL : Hid (x.length = 32) := hx32
  have HB : Hid (bitI x (d : Int) = bt x d) := bitI_nat _ _ hd
  rw [← HB.out]
  obtain ⟨oi, HOI⟩ : ∃ o, Hid (o = off + i * 64) := ⟨_, rfl⟩
  rw [← HOI.out] at hR
  have HX : Hid (∀ wx, Over w.drew wx → wx.rangeAt b oi (cb x)) := fun wx hx j v hj => (hx.out.cell (p := ⟨b, oi + j, none⟩) (block_lt_of_cell (hR j v hj))).trans (hR j v hj)
  have HC2 : Hid (∀ wx, Over w.drew wx → wx.cell? ⟨g2, 0, none⟩ = some (.slice (some ⟨b, off, none⟩) n cap)) := fun wx hx => (hx.out.cell (p := ⟨g2, 0, none⟩) (block_lt_of_cell hc2)).trans hc2
  have HC3 : Hid (∀ wx, Over w.drew wx → wx.cell? ⟨g3, 0, none⟩ = some (.int .i64 (d : Int))) := fun wx hx => (hx.out.cell (p := ⟨g3, 0, none⟩) (block_lt_of_cell hc3)).trans hc3
  clear hR hc2 hc3 HB hx32
  have i0 : (0 : Int) ≤ (i : Int) := by omega
  have i1 : (i : Int) < (n : Int) := by omega
  have hix : ∀ (a : Act) (o : Oper) (x y : Operand) (wx : World), o.op = .indexAddr 81 x y → a.eval x = .slice (some ⟨b, off, none⟩) n cap → a.eval y = .int .i64 (i : Int) → (execOp a.eval o).run Tryz.prog wx = .ok (.value (.pointer (some ⟨b, oi, none⟩))) wx := fun a o x y wx ho h1 h2 => by
    rw [HOI.out]
    unfold execOp
    generalize a.eval = f at h1 h2 ⊢
    simp only [ho, h1, h2]
    simp [go_sem, i0, i1]
  simp only [List.append_toArray, List.cons_append, List.nil_append]
  go_enter Tryz.func87, Tryz.ntmps87
  go_wp2_with fail
  refine wp_region_held_drew (S := Over w.drew) (by kernel_rfl) (Over.refl _) ?_
  intro hS
  refine wpAnyH_take (i := 0) (v := .slice (some ⟨b, off, none⟩) n cap) rfl (by kernel_rfl) (by kernel_rfl) (by kernel_rfl) (fun _ _ _ h => h) (Or.inl ⟨by rfl, fun wx hx => by (have hc := HC2.out wx hx; simp [go_sem, hc])⟩) hS ?_
  simp only [Act.put, List.getElem_toArray, List.getElem_cons_zero, List.setIfInBounds_toArray, List.set_cons_zero, List.set_cons_succ]
  refine wpAnyH_take (i := 1) (v := .int .i64 (i : Int)) rfl (by kernel_rfl) (by kernel_rfl) (by kernel_rfl) (fun _ _ _ h => h) (Or.inl ⟨by rfl, fun wx hx => by simp [go_sem]⟩) hS ?_
  simp only [Act.put, List.getElem_toArray, List.getElem_cons_succ, List.getElem_cons_zero, List.setIfInBounds_toArray, List.set_cons_zero, List.set_cons_succ]
  refine wpAnyH_take (i := 2) (v := .pointer (some ⟨b, oi, none⟩)) rfl (by kernel_rfl) (by kernel_rfl) (by kernel_rfl) (fun _ _ _ h => h) (Or.inl ⟨by rfl, fun wx hx => by exact hix _ _ (.tmp 5) (.tmp 6) wx rfl rfl rfl⟩) hS ?_
  simp only [Act.put, List.getElem_toArray, List.getElem_cons_succ, List.getElem_cons_zero, List.setIfInBounds_toArray, List.set_cons_zero, List.set_cons_succ]
  refine wpAnyH_take (i := 3) (v := .pointer (some ⟨b, oi, none⟩)) rfl (by kernel_rfl) (by kernel_rfl) (by kernel_rfl) (fun _ _ _ h => h) (Or.inl ⟨by rfl, fun wx hx => by simp [go_sem]⟩) hS ?_
  simp only [Act.put, List.getElem_toArray, List.getElem_cons_succ, List.getElem_cons_zero, List.setIfInBounds_toArray, List.set_cons_zero, List.set_cons_succ]
  refine wpAnyH_take (i := 4) (v := .agg (cb x).toArray) rfl (by kernel_rfl) (by kernel_rfl) (by kernel_rfl) (fun _ _ _ h => h) (Or.inl ⟨by rfl, fun wx hx => by exact load_run 40 _ rfl _ _ rfl (cb x) _ (HX.out wx hx) Tryz.underlying40 rfl (by rw [cb_len, HL.out]; exact info_digest)⟩) hS ?_
  simp only [Act.put, List.getElem_toArray, List.getElem_cons_succ, List.getElem_cons_zero, List.setIfInBounds_toArray, List.set_cons_zero, List.set_cons_succ]
  refine wpAnyH_take (i := 5) (v := .int .i64 (d : Int)) rfl (by kernel_rfl) (by kernel_rfl) (by kernel_rfl) (fun _ _ _ h => h) (Or.inl ⟨by rfl, fun wx hx => by (have hc := HC3.out wx hx; simp [go_sem, hc])⟩) hS ?_
  simp only [Act.put, List.getElem_toArray, List.getElem_cons_succ, List.getElem_cons_zero, List.setIfInBounds_toArray, List.set_cons_zero, List.set_cons_succ]
  refine wpAnyH_enter 6 (by kernel_rfl) rfl (by rfl) (f := 56) (args := #[.agg (cb x).toArray, .int .i64 (d : Int)]) (by simp [go_sem]) (pBit_any x HL.out _ _) ?_
  rintro e wy ⟨rfl, hbq⟩
  refine ⟨_, rfl, hS.more hbq, ?_⟩
  replace hS := hS.more hbq
  clear hbq
  simp only [Act.put, List.getElem_toArray, List.getElem_cons_succ, List.getElem_cons_zero, List.setIfInBounds_toArray, List.set_cons_zero, List.set_cons_succ]
  refine wpAnyH_take (i := 7) (v := .bool (bitI x (d : Int))) rfl (by kernel_rfl) (by kernel_rfl) (by kernel_rfl) (fun _ _ _ h => h) (Or.inl ⟨by rfl, fun wx hx => by simp [go_sem]⟩) hS ?_
  simp only [Act.put, List.getElem_toArray, List.getElem_cons_succ, List.getElem_cons_zero, List.setIfInBounds_toArray, List.set_cons_zero, List.set_cons_succ]
  refine wpAnyH_done (by kernel_rfl) ?_ _
  go_wp2_with fail
  go_ret
  exact ⟨rfl, hS.after (Below.refl _ w).drew⟩
theorem lfLo (b off n cap k : Nat) (h : k ≤ cap) (w : World) : (Instr.sliceAt 81 (.slice (some ⟨b, off, none⟩) n cap) none (some (.int .i64 (k : Int))) none).run Tryz.prog w = .ok (.slice (some ⟨b, off, none⟩) k cap) w := by
  have hs : (sizeOf 119).run Tryz.prog w = .ok 64 w := by kernel_rfl
  rw [run_sliceAt_slice w 81 _ _ _ _ (by kernel_rfl), run_slice_h w 81 _ _ _ (by kernel_rfl) .i64 _ (by omega) (by omega)]
  rw [show Tryz.prog.elem 81 = 119 from by kernel_rfl, hs]
  simp only [Result.andThen_ok, sliced, Int.toNat_natCast, Option.map_some]
  split <;> simp [Addr.add_mid]
theorem lfHi (b off n cap k : Nat) (h : k ≤ n) (w : World) : (Instr.sliceAt 81 (.slice (some ⟨b, off, none⟩) n cap) (some (.int .i64 (k : Int))) none none).run Tryz.prog w = .ok (.slice (some ⟨b, if cap = k then off else off + k * 64, none⟩) (n - k) (cap - k)) w := by
  have hs : (sizeOf 119).run Tryz.prog w = .ok 64 w := by kernel_rfl
  rw [run_sliceAt_slice w 81 _ _ _ _ (by kernel_rfl), run_slice_l w 81 _ _ _ (by kernel_rfl) .i64 _ (by omega) (by omega)]
  rw [show Tryz.prog.elem 81 = 119 from by kernel_rfl, hs]
  simp only [Result.andThen_ok, sliced, Int.toNat_natCast, Option.map_some]
  split <;> simp [Addr.add_mid]
theorem RdLv.take {w : World} {b off n cap : Nat} {l : List Lf} (h : RdLv w (.slice (some ⟨b, off, none⟩) n cap) l) (k : Nat) (hk : k ≤ l.length) : RdLv w (.slice (some ⟨b, off, none⟩) k cap) (l.take k) := by
  obtain ⟨⟨ad, cp, h1, h2, h3⟩, h4⟩ := h
  simp only [Value.slice.injEq] at h1
  obtain ⟨rfl, rfl, rfl⟩ := h1
  refine ⟨⟨_, cap, by rw [List.length_take, Nat.min_eq_left hk], by rw [List.length_take]; omega, fun hp => ⟨b, off, rfl, fun j hj => ?_⟩⟩, fun p hp => h4 p (List.mem_of_mem_take hp)⟩
  rw [List.length_take] at hj hp
  obtain ⟨b2, off2, e, h6⟩ := h3 (by omega)
  cases e
  have := h6 j (by omega)
  rw [List.getD_eq_getElem?_getD] at this ⊢
  rw [List.getElem?_take_of_lt (by omega)]
  exact this
theorem RdLv.drop {w : World} {b off n cap : Nat} {l : List Lf} (h : RdLv w (.slice (some ⟨b, off, none⟩) n cap) l) (k o : Nat) (hk : k ≤ l.length) (ho : k < l.length → o = off + k * 64) : RdLv w (.slice (some ⟨b, o, none⟩) (n - k) (cap - k)) (l.drop k) := by
  obtain ⟨⟨ad, cp, h1, h2, h3⟩, h4⟩ := h
  simp only [Value.slice.injEq] at h1
  obtain ⟨rfl, rfl, rfl⟩ := h1
  refine ⟨⟨_, cap - k, by rw [List.length_drop], by rw [List.length_drop]; omega, fun hp => ⟨b, o, rfl, fun j hj => ?_⟩⟩, fun p hp => h4 p (List.mem_of_mem_drop hp)⟩
  rw [List.length_drop] at hj hp
  obtain ⟨b2, off2, e, h6⟩ := h3 (by omega)
  cases e
  have := h6 (k + j) (by omega)
  rw [ho (by omega), Nat.add_assoc, ← Nat.add_mul]
  rw [List.getD_eq_getElem?_getD] at this ⊢
  rw [List.getElem?_drop]
  exact this
set_option maxHeartbeats 8000000 in
theorem pgPart_any (B : Nat) (v : Value) (l : List Lf) (d : Nat) (w : World) (hRB : RdLb B w v l) (hF : Fits l d) (hd : d < 256) (hp : 0 < l.length) (hl : l.length < 100000) :
    Calls Tryz.prog 65 #[v, .int .i64 (d : Int)] w fun e w' => ∃ v0 v1, e = .returned (.tuple #[v0, v1]) ∧ RdLb B w' v0 (halfL l d false) ∧ RdLb B w' v1 (halfL l d true) ∧ Below w.heap.size w w' := by
  have hR := hRB.1
  obtain ⟨b, off, cap, hv, hcap, _, _⟩ := hR.at hp
  have hbB : b < B := hRB.2 b (by rw [hv]; rfl)
  clear hRB
  obtain ⟨n, HN⟩ : ∃ n, Hid (n = l.length) := ⟨_, rfl⟩
  rw [← HN.out] at hv hcap hl
  subst hv
  obtain ⟨gl, HGL⟩ : ∃ g, Hid (g = w.heap.size) := ⟨_, rfl⟩
  obtain ⟨wB, HWB⟩ : ∃ z, Hid (z = (w.alloc (.cells #[.slice (some ⟨b, off, none⟩) n cap] 81)).alloc (.cells #[.int .i64 (d : Int)] 3)) := ⟨_, rfl⟩
  have HBW : Hid (Below w.heap.size w wB) := by rw [HWB.out]; exact ((Below.refl _ w).alloc (Nat.le_refl _) _).alloc (by simp) _
  have HR : Hid (RdLv wB (.slice (some ⟨b, off, none⟩) n cap) l) := hR.next HBW.out
  have c2 : wB.cell? ⟨gl, 0, none⟩ = some (.slice (some ⟨b, off, none⟩) n cap) := by rw [HWB.out, HGL.out]; simp
  have c3 : wB.cell? ⟨gl + 1, 0, none⟩ = some (.int .i64 (d : Int)) := by rw [HWB.out, HGL.out]; simp
  have HC2 : Hid (∀ wx, Over wB wx → wx.cell? ⟨gl, 0, none⟩ = some (.slice (some ⟨b, off, none⟩) n cap)) := fun wx hx => (hx.out.cell (p := ⟨gl, 0, none⟩) (block_lt_of_cell c2)).trans c2
  have HC3 : Hid (∀ wx, Over wB wx → wx.cell? ⟨gl + 1, 0, none⟩ = some (.int .i64 (d : Int))) := fun wx hx => (hx.out.cell (p := ⟨gl + 1, 0, none⟩) (block_lt_of_cell c3)).trans c3
  have HSE : Hid (Calls Tryz.prog 54 #[.int .i64 (n : Int), .func (.func 87) #[] #[.pointer (some ⟨gl, 0, none⟩), .pointer (some ⟨gl + 1, 0, none⟩)]] wB fun e w' => ∃ k : Nat, e = .returned (.int .i64 (k : Int)) ∧ k ≤ n ∧ (k = 0 ∨ bt (l.getD (k - 1) ([], [])).1 d = false) ∧ (k = n ∨ bt (l.getD k ([], [])).1 d = true) ∧ Below wB.heap.size wB w') :=
    soSearch_any n 87 _ (fun i => bt (l.getD i ([], [])).1 d) wB (enters_of Tryz.func87 (by kernel_rfl) rfl) (by omega) fun W i hW hi => by
      have hq := HR.out.next hW.out
      obtain ⟨b2, off2, cap2, e, _, _, h6⟩ := hq.at hp
      simp only [Value.slice.injEq, Option.some.injEq, Addr.mk.injEq] at e
      obtain ⟨⟨rfl, rfl, _⟩, _, rfl⟩ := e
      have hi2 : i < l.length := by rw [← HN.out]; exact hi
      exact pgPart1_any b off n cap i gl (gl + 1) d _ W hi hd (hq.2 _ (getD_mem hi2)).1 (range_left (h6 i hi2)) (HC2.out W hW) (HC3.out W hW)
  have HFI : Hid (Fits l d) := hF
  clear hF hR
  go_enter Tryz.func65, Tryz.ntmps65
  go_upto_region 1 with fail
  rw [← HWB.out]
  have e0 : (some ⟨w.heap.size, 0, none⟩ : Option Addr) = some ⟨gl, 0, none⟩ := by rw [HGL.out]
  have e1 : (some ⟨w.heap.size + 1, 0, none⟩ : Option Addr) = some ⟨gl + 1, 0, none⟩ := by rw [HGL.out]
  simp only [e0, e1]
  clear e0 e1
  go_upto_region 2 with (go_at_call 54; refine HSE.out.mono ?_; rintro e w1 ⟨k, rfl, hkn, hk1, hk2, hb1⟩
                         have HO : Hid (Over wB w1) := hb1
                         have HK1 : Hid (k = 0 ∨ bt (l.getD (k - 1) ([], [])).1 d = false) := hk1
                         have HK2 : Hid (k = n ∨ bt (l.getD k ([], [])).1 d = true) := hk2
                         clear hb1 hk1 hk2 c2 c3 HSE)
  have HSP : Hid (l.take k = halfL l d false ∧ l.drop k = halfL l d true) := by
    have hm : (l.map fun p => ((0, p) : Nat × Lf)).map (·.2) = l := by rw [List.map_map]; exact List.map_id _
    have hgd : ∀ j, j < l.length → ((l.map fun p => ((0, p) : Nat × Lf)).getD j default).2 = l.getD j ([], []) := fun j hj => by
      rw [List.getD_eq_getElem?_getD, List.getD_eq_getElem?_getD, List.getElem?_map, List.getElem?_eq_getElem hj]; rfl
    have := search_half (ps := l.map fun p => ((0, p) : Nat × Lf)) (d := d) (k := k) (by rw [hm]; exact HFI.out) (by rw [List.length_map, ← HN.out]; exact hkn) (by
      rcases HK1.out with h | h
      · exact Or.inl h
      · rcases Nat.eq_zero_or_pos k with h0 | h0
        · exact Or.inl h0
        · exact Or.inr (by rw [hgd (k - 1) (by rw [← HN.out]; omega)]; exact h)) (by
      rcases HK2.out with h | h
      · exact Or.inl (by rw [List.length_map, ← HN.out]; exact h)
      · rcases Nat.lt_or_ge k n with h0 | h0
        · exact Or.inr (by rw [hgd k (by rw [← HN.out]; omega)]; exact h)
        · exact Or.inl (by rw [List.length_map, ← HN.out]; omega))
    rw [List.map_take, List.map_drop, hm] at this
    exact this
  have HO1 : Hid (∀ wx, Over w1.drew wx → Over wB wx) := fun wx hx => (HO.out.more (Below.refl _ w1).drew).more hx.out
  obtain ⟨o2, HO2⟩ : ∃ o, Hid (o = if cap = k then off else off + k * 64) := ⟨_, rfl⟩
  have hsl := lfLo b off n cap k (by omega)
  have hsh := lfHi b off n cap k hkn
  rw [← HO2.out] at hsh
  obtain ⟨n2, HN2⟩ : ∃ x, Hid (x = n - k) := ⟨_, rfl⟩
  obtain ⟨cap2, HCAP2⟩ : ∃ x, Hid (x = cap - k) := ⟨_, rfl⟩
  rw [← HN2.out, ← HCAP2.out] at hsh
  refine wp_region_held_drew (S := Over w1.drew) (by kernel_rfl) (Over.refl _) ?_
  intro hS
  refine wpAnyH_take (i := 0) (v := .slice (some ⟨b, off, none⟩) n cap) rfl (by kernel_rfl) (by kernel_rfl) (by kernel_rfl) (fun _ _ _ h => h) (Or.inl ⟨by rfl, fun wx hx => by (have hc := HC2.out wx (HO1.out wx hx); simp [go_sem, hc])⟩) hS ?_
  simp only [Act.put, List.getElem_toArray, List.getElem_cons_zero, List.setIfInBounds_toArray, List.set_cons_zero, List.set_cons_succ]
  refine wpAnyH_take (i := 1) (v := .int .i64 (k : Int)) rfl (by kernel_rfl) (by kernel_rfl) (by kernel_rfl) (fun _ _ _ h => h) (Or.inl ⟨by rfl, fun wx hx => by simp [go_sem]⟩) hS ?_
  simp only [Act.put, List.getElem_toArray, List.getElem_cons_succ, List.getElem_cons_zero, List.setIfInBounds_toArray, List.set_cons_zero, List.set_cons_succ]
  refine wpAnyH_take (i := 2) (v := .slice (some ⟨b, off, none⟩) k cap) rfl (by kernel_rfl) (by kernel_rfl) (by kernel_rfl) (fun _ _ _ h => h) (Or.inl ⟨by rfl, fun wx hx => by simp [execOp, Act.eval, hsl]⟩) hS ?_
  simp only [Act.put, List.getElem_toArray, List.getElem_cons_succ, List.getElem_cons_zero, List.setIfInBounds_toArray, List.set_cons_zero, List.set_cons_succ]
  refine wpAnyH_take (i := 3) (v := .slice (some ⟨b, off, none⟩) n cap) rfl (by kernel_rfl) (by kernel_rfl) (by kernel_rfl) (fun _ _ _ h => h) (Or.inl ⟨by rfl, fun wx hx => by (have hc := HC2.out wx (HO1.out wx hx); simp [go_sem, hc])⟩) hS ?_
  simp only [Act.put, List.getElem_toArray, List.getElem_cons_succ, List.getElem_cons_zero, List.setIfInBounds_toArray, List.set_cons_zero, List.set_cons_succ]
  refine wpAnyH_take (i := 4) (v := .int .i64 (k : Int)) rfl (by kernel_rfl) (by kernel_rfl) (by kernel_rfl) (fun _ _ _ h => h) (Or.inl ⟨by rfl, fun wx hx => by simp [go_sem]⟩) hS ?_
  simp only [Act.put, List.getElem_toArray, List.getElem_cons_succ, List.getElem_cons_zero, List.setIfInBounds_toArray, List.set_cons_zero, List.set_cons_succ]
  refine wpAnyH_take (i := 5) (v := .slice (some ⟨b, o2, none⟩) n2 cap2) rfl (by kernel_rfl) (by kernel_rfl) (by kernel_rfl) (fun _ _ _ h => h) (Or.inl ⟨by rfl, fun wx hx => by simp [execOp, Act.eval, hsh]⟩) hS ?_
  simp only [Act.put, List.getElem_toArray, List.getElem_cons_succ, List.getElem_cons_zero, List.setIfInBounds_toArray, List.set_cons_zero, List.set_cons_succ]
  refine wpAnyH_take (i := 6) (v := .slice (some ⟨b, off, none⟩) k cap) rfl (by kernel_rfl) (by kernel_rfl) (by kernel_rfl) (fun _ _ _ h => h) (Or.inl ⟨by rfl, fun wx hx => by simp [go_sem]⟩) hS ?_
  simp only [Act.put, List.getElem_toArray, List.getElem_cons_succ, List.getElem_cons_zero, List.setIfInBounds_toArray, List.set_cons_zero, List.set_cons_succ]
  refine wpAnyH_take (i := 7) (v := .slice (some ⟨b, o2, none⟩) n2 cap2) rfl (by kernel_rfl) (by kernel_rfl) (by kernel_rfl) (fun _ _ _ h => h) (Or.inl ⟨by rfl, fun wx hx => by simp [go_sem]⟩) hS ?_
  simp only [Act.put, List.getElem_toArray, List.getElem_cons_succ, List.getElem_cons_zero, List.setIfInBounds_toArray, List.set_cons_zero, List.set_cons_succ]
  refine wpAnyH_done (by kernel_rfl) ?_ _
  go_wp2_with fail
  refine bodyPost_ret (results_tmp2 rfl _ _ _) rfl ?_
  have hkl : k ≤ l.length := by rw [← HN.out]; exact hkn
  have hr := HR.out.next (HO1.out _ hS).out
  refine ⟨_, _, rfl, ?_, ?_, (HO1.out _ hS).after HBW.out⟩
  · rw [← HSP.out.1]; exact ⟨hr.take k hkl, fun j hj => by cases hj; exact hbB⟩
  · rw [← HSP.out.2, HN2.out, HCAP2.out]; exact ⟨hr.drop k o2 hkl (fun h => by rw [HO2.out, if_neg (by have := HN.out; omega)]), fun j hj => by cases hj; exact hbB⟩
end Go.Proofs.YtphmmnffgknkcabGreatDoor
namespace Go.Proofs.YtphmmnffgknkcabGreatDoor
open Go.RowKit
set_option maxRecDepth 100000
def PieceR (bs wh r : By) : Prop := (bs.length + wh.length ≤ 512 → r = bs ++ wh) ∧ (512 < bs.length + wh.length → 512 < r.length) ∧ r.length ≤ 577
def PcDoes (d : Nat) : Prop := ∀ (base : Nat) (vl : Value) (l : List Lf) (vb : Value) (bs : By) (w : World), Fits l d → RdLb base w vl l → OwnB w base vb bs → base ≤ w.heap.size → l.length < 100000 → bs.length ≤ 577 →
  Calls Tryz.prog 64 #[vb, vl, .int .i64 (d : Int)] w fun e w' => ∃ v' r, e = .returned v' ∧ OwnB w' base v' r ∧ GrV w vb w' v' ∧ PieceR bs (wholeL d l) r
theorem piece_two {bs a b r1 r2 : By} (h1 : PieceR (bs ++ [2]) a r1) (h2 : PieceR r1 b r2) : PieceR bs (2 :: (a ++ b)) r2 := by
  obtain ⟨p1, q1, s1⟩ := h1
  obtain ⟨p2, q2, s2⟩ := h2
  simp only [List.length_append, List.length_cons, List.length_nil] at p1 q1
  refine ⟨fun h => ?_, fun h => ?_, s2⟩
  · simp only [List.length_append, List.length_cons] at h
    have e1 := p1 (by omega)
    have e2 := p2 (by rw [e1]; simp only [List.length_append, List.length_cons, List.length_nil]; omega)
    rw [e2, e1]
    simp
  · simp only [List.length_append, List.length_cons] at h
    rcases Nat.lt_or_ge 512 (bs.length + 1 + a.length) with hc | hc
    · have := q1 (by omega)
      exact q2 (by omega)
    · have e1 := p1 (by omega)
      exact q2 (by rw [e1]; simp only [List.length_append, List.length_cons, List.length_nil]; omega)
theorem reads_dig_at {w : World} {g o : Nat} {x : By} (hx : x.length = 32) (h : w.rangeAt g o (cb x)) : Reads w (.slice (some ⟨g, o, none⟩) 32 32) x :=
  ⟨_, 32, by rw [hx], by omega, (fun e => by cases e), fun _ => ⟨g, o, rfl, fun j hj => h j _ (cb_get x j hj)⟩⟩
theorem pgPiece_stop (a : Option Addr) (n c : Nat) (vl : Value) (d : Nat) (w : World) (hn : 512 < n) : Calls Tryz.prog 64 #[.slice a n c, vl, .int .i64 (d : Int)] w fun e w' => e = .returned (.slice a n c) ∧ w' = w := by
  have h1 : (512 : Int) < (n : Int) := by omega
  go_enter Tryz.func64, Tryz.ntmps64
  go_wp2
  go_ret
  exact ⟨rfl, rfl⟩
set_option maxHeartbeats 2000000 in
theorem pgPiece_nil (base : Nat) (a al : Option Addr) (n c cl : Nat) (bs : By) (d : Nat) (w : World) (ho : OwnB w base (.slice a n c) bs) (hb : base ≤ w.heap.size) (hn : bs.length = n) (hn2 : n ≤ 512) :
    Calls Tryz.prog 64 #[.slice a n c, .slice al 0 cl, .int .i64 (d : Int)] w fun e w' => ∃ v' r, e = .returned v' ∧ OwnB w' base v' r ∧ GrV w (.slice a n c) w' v' ∧ PieceR bs [0] r := by
  have h1 : ¬ (512 : Int) < (n : Int) := by omega
  have HO : Hid (OwnB w base (.slice a n c) bs) := ho
  have HL : Hid (bs.length = n) := hn
  have HB : Hid (base ≤ w.heap.size) := hb
  have Q1 : Hid (0 < ([0] : By).length ∧ bs.length + ([0] : By).length ≤ 100000) := ⟨Nat.zero_lt_one, by rw [hn]; simp; omega⟩
  clear ho hn hb
  go_enter Tryz.func64, Tryz.ntmps64
  have tk0 : Hid True := trivial
  have tk1 : Hid True := trivial
  go_wp2_with (first
    | (clear tk0; with_reducible refine wpSeq_buildY 0 (.const (.int .u8 0)) ?_ ?_ ?_ ?_
       · rfl
       · rfl
       · rfl
       intro g1 w1 hy1 hg1 hb1
       have HY : Hid (Reads w1 (.slice (some ⟨g1, 0, none⟩) 1 1) [0]) := blk_reads_y hy1
       replace HO : Hid (OwnB w1 base (.slice a n c) bs) := HO.out.next hb1
       have HG : Hid (GrV w (.slice a n c) w1 (.slice a n c)) := GrV.of_below hb1 _
       have HS : Hid (w.heap.size ≤ w1.heap.size) := hb1.size
       clear hy1 hg1 hb1)
    | (clear tk1; with_reducible refine wpSeq_appB (.tmp 17) (.tmp 18) base (.slice a n c) (.slice (some ⟨g1, 0, none⟩) 1 1) bs [0] HO.out HY.out Q1.out.1 Q1.out.2 (Nat.le_trans HB.out HS.out) ?_ ?_ ?_ ?_ ?_
       · rfl
       · rfl
       · rfl
       · rfl
       intro v2 w2 ho2 hg2
       have HO2 : Hid (OwnB w2 base v2 (bs ++ [0])) := ho2
       replace HG : Hid (GrV w (.slice a n c) w2 v2) := HG.out.trans hg2
       clear ho2 hg2))
  go_ret
  exact ⟨v2, rfl, bs ++ [0], HO2.out, HG.out, fun _ => rfl, fun h => by simpa using h, by rw [List.length_append, HL.out]; simp; omega⟩
set_option maxHeartbeats 4000000 in
theorem pgPiece_one (base : Nat) (a : Option Addr) (n c b off cl : Nat) (bs : By) (p : Lf) (d : Nat) (w : World) (ho : OwnB w base (.slice a n c) bs) (hb : base ≤ w.heap.size) (hn : bs.length = n) (hn2 : n ≤ 512) (hR : RdLb base w (.slice (some ⟨b, off, none⟩) 1 cl) [p]) :
    Calls Tryz.prog 64 #[.slice a n c, .slice (some ⟨b, off, none⟩) 1 cl, .int .i64 (d : Int)] w fun e w' => ∃ v' r, e = .returned v' ∧ OwnB w' base v' r ∧ GrV w (.slice a n c) w' v' ∧ PieceR bs (1 :: (p.1 ++ p.2)) r := by
  have h1 : ¬ (512 : Int) < (n : Int) := by omega
  obtain ⟨x, u⟩ := p
  have HX : Hid (x.length = 32) := (hR.1.2 (x, u) (by simp)).1
  have HU : Hid (u.length = 32) := (hR.1.2 (x, u) (by simp)).2
  have HO : Hid (OwnB w base (.slice a n c) bs) := ho
  have HL : Hid (bs.length = n) := hn
  have HB : Hid (base ≤ w.heap.size) := hb
  have HR : Hid (RdLb base w (.slice (some ⟨b, off, none⟩) 1 cl) [(x, u)]) := hR
  have HRX : Hid (∀ W, RdLb base W (.slice (some ⟨b, off, none⟩) 1 cl) [(x, u)] → Reads W (.slice (some ⟨b, off, none⟩) 32 32) x ∧ Reads W (.slice (some ⟨b, off + 32, none⟩) 32 32) u) := fun W h => by
    obtain ⟨b2, off2, c2, e, _, _, h6⟩ := h.1.at (by simp)
    simp only [Value.slice.injEq, Option.some.injEq, Addr.mk.injEq] at e
    obtain ⟨⟨rfl, rfl, _⟩, _, rfl⟩ := e
    have h7 := h6 0 (by simp)
    rw [Nat.zero_mul, Nat.add_zero, List.getD_cons_zero] at h7
    exact ⟨reads_dig_at HX.out (range_left h7), reads_dig_at HU.out (range_right h7 (by rw [cb_len, HX.out]))⟩
  have hs1 := slice_dig_at b off
  have hs2 := slice_dig_at b (off + 32)
  have Q1 : Hid (0 < ([1] : By).length ∧ bs.length + ([1] : By).length ≤ 100000) := ⟨Nat.zero_lt_one, by rw [hn]; simp; omega⟩
  have Q2 : Hid (0 < x.length ∧ (bs ++ [1]).length + x.length ≤ 100000) := ⟨by rw [HX.out]; decide, by rw [List.length_append, hn, HX.out]; simp; omega⟩
  have Q3 : Hid (0 < u.length ∧ (bs ++ [1] ++ x).length + u.length ≤ 100000) := ⟨by rw [HU.out]; decide, by rw [List.length_append, List.length_append, hn, HX.out, HU.out]; simp; omega⟩
  clear ho hn hb hR
  go_enter Tryz.func64, Tryz.ntmps64
  have tk0 : Hid True := trivial
  have tk1 : Hid True := trivial
  have tk2 : Hid True := trivial
  have tk3 : Hid True := trivial
  go_wp2_with (first
    | (clear tk0; with_reducible refine wpSeq_buildY 1 (.const (.int .u8 1)) ?_ ?_ ?_ ?_
       · rfl
       · rfl
       · rfl
       intro g1 w1 hy1 hg1 hb1
       have HY : Hid (Reads w1 (.slice (some ⟨g1, 0, none⟩) 1 1) [1]) := blk_reads_y hy1
       replace HO : Hid (OwnB w1 base (.slice a n c) bs) := HO.out.next hb1
       replace HR : Hid (RdLb base w1 (.slice (some ⟨b, off, none⟩) 1 cl) [(x, u)]) := HR.out.next hb1
       have HG : Hid (GrV w (.slice a n c) w1 (.slice a n c)) := GrV.of_below hb1 _
       replace HB : Hid (base ≤ w1.heap.size) := Nat.le_trans HB.out hb1.size
       clear hy1 hg1 hb1)
    | (clear tk1; with_reducible refine wpSeq_appB (.tmp 22) (.tmp 23) base (.slice a n c) (.slice (some ⟨g1, 0, none⟩) 1 1) bs [1] HO.out HY.out Q1.out.1 Q1.out.2 HB.out ?_ ?_ ?_ ?_ ?_
       · rfl
       · rfl
       · rfl
       · rfl
       intro v2 w2 ho hg
       have HO2 : Hid (OwnB w2 base v2 (bs ++ [1])) := ho
       replace HR : Hid (RdLb base w2 (.slice (some ⟨b, off, none⟩) 1 cl) [(x, u)]) := HR.out.go (hg.below HB.out fun k hk => (HO.out.ltP k hk).1)
       replace HG : Hid (GrV w (.slice a n c) w2 v2) := HG.out.trans hg
       replace HB : Hid (base ≤ w2.heap.size) := Nat.le_trans HB.out hg.mt.size
       clear ho hg)
    | (clear tk2; with_reducible refine wpSeq_appB (.tmp 25) (.tmp 29) base v2 (.slice (some ⟨b, off, none⟩) 32 32) (bs ++ [1]) x HO2.out (HRX.out _ HR.out).1 Q2.out.1 Q2.out.2 HB.out ?_ ?_ ?_ ?_ ?_
       · rfl
       · rfl
       · rfl
       · rfl
       intro v3 w3 ho hg
       have HO3 : Hid (OwnB w3 base v3 (bs ++ [1] ++ x)) := ho
       replace HR : Hid (RdLb base w3 (.slice (some ⟨b, off, none⟩) 1 cl) [(x, u)]) := HR.out.go (hg.below HB.out fun k hk => (HO2.out.ltP k hk).1)
       replace HG : Hid (GrV w (.slice a n c) w3 v3) := HG.out.trans hg
       replace HB : Hid (base ≤ w3.heap.size) := Nat.le_trans HB.out hg.mt.size
       clear ho hg)
    | (clear tk3; with_reducible refine wpSeq_appB (.tmp 31) (.tmp 35) base v3 (.slice (some ⟨b, off + 32, none⟩) 32 32) (bs ++ [1] ++ x) u HO3.out (HRX.out _ HR.out).2 Q3.out.1 Q3.out.2 HB.out ?_ ?_ ?_ ?_ ?_
       · rfl
       · rfl
       · rfl
       · rfl
       intro v4 w4 ho hg
       have HO4 : Hid (OwnB w4 base v4 (bs ++ [1] ++ x ++ u)) := ho
       replace HR : Hid (RdLb base w4 (.slice (some ⟨b, off, none⟩) 1 cl) [(x, u)]) := HR.out.go (hg.below HB.out fun k hk => (HO3.out.ltP k hk).1)
       replace HG : Hid (GrV w (.slice a n c) w4 v4) := HG.out.trans hg
       replace HB : Hid (base ≤ w4.heap.size) := Nat.le_trans HB.out hg.mt.size
       clear ho hg))
  go_ret
  have e : bs ++ [1] ++ x ++ u = bs ++ (1 :: (x ++ u)) := by simp
  have hlen : (bs ++ (1 :: (x ++ u))).length = n + 65 := by simp only [List.length_append, List.length_cons, HL.out, HX.out, HU.out]
  refine ⟨v4, rfl, bs ++ (1 :: (x ++ u)), by rw [← e]; exact HO4.out, HG.out, fun _ => rfl, fun h => by rw [List.length_append]; exact h, by omega⟩
set_option maxHeartbeats 8000000 in
theorem pgPiece_many (base : Nat) (a : Option Addr) (n c b off m cl : Nat) (bs : By) (l : List Lf) (d : Nat) (w : World) (IH : PcDoes (d + 1)) (ho : OwnB w base (.slice a n c) bs) (hb : base ≤ w.heap.size) (hn : bs.length = n) (hn2 : n ≤ 512) (hR : RdLb base w (.slice (some ⟨b, off, none⟩) m cl) l) (hF : Fits l d) (h2 : 2 ≤ l.length) (hm : m = l.length) (hl : l.length < 100000) :
    Calls Tryz.prog 64 #[.slice a n c, .slice (some ⟨b, off, none⟩) m cl, .int .i64 (d : Int)] w fun e w' => ∃ v' r, e = .returned v' ∧ OwnB w' base v' r ∧ GrV w (.slice a n c) w' v' ∧ PieceR bs (wholeL d l) r := by
  have h1 : ¬ (512 : Int) < (n : Int) := by omega
  have hd : d < 256 := hF.lt h2
  have z0 : ¬ ((m : Int) = 0) := by omega
  have z0' : ((m : Int) == 0) = false := by rw [beq_eq_false_iff_ne]; omega
  have z1 : ¬ ((m : Int) = 1) := by omega
  have z1' : ((m : Int) == 1) = false := by rw [beq_eq_false_iff_ne]; omega
  have HIH : Hid (PcDoes (d + 1)) := IH
  have HO : Hid (OwnB w base (.slice a n c) bs) := ho
  have HL : Hid (bs.length = n) := hn
  have HB : Hid (base ≤ w.heap.size) := hb
  have HR : Hid (RdLb base w (.slice (some ⟨b, off, none⟩) m cl) l) := hR
  have HF : Hid (Fits l d) := hF
  have H2 : Hid (2 ≤ l.length) := h2
  have HLL : Hid (l.length < 100000) := hl
  obtain ⟨d1, HD1⟩ : ∃ x, Hid (x = d + 1) := ⟨_, rfl⟩
  have rd : IntKind.i64.wrap ((d : Int) + 1) = (d1 : Int) := by rw [IntKind.wrap_i64, HD1.out]; omega
  rw [← HD1.out] at HIH
  have Q1 : Hid (0 < ([2] : By).length ∧ bs.length + ([2] : By).length ≤ 100000) := ⟨Nat.zero_lt_one, by rw [hn]; simp; omega⟩
  clear ho hn hb hR IH hF h2 hl hm
  go_enter Tryz.func64, Tryz.ntmps64
  have tk0 : Hid True := trivial
  have tk1 : Hid True := trivial
  have tk2 : Hid True := trivial
  have tk3 : Hid True := trivial
  have tk4 : Hid True := trivial
  go_wp2_with (first
    | (clear tk0; go_at_call 65; refine (pgPart_any base (.slice (some ⟨b, off, none⟩) m cl) l d _ HR.out HF.out hd (Nat.lt_of_lt_of_le (by decide) H2.out) HLL.out).mono ?_; rintro e w1 ⟨v0, v1, rfl, hr0, hr1, hb⟩
       have HR0 : Hid (RdLb base w1 v0 (halfL l d false)) := hr0
       have HR1 : Hid (RdLb base w1 v1 (halfL l d true)) := hr1
       replace HO : Hid (OwnB w1 base (.slice a n c) bs) := HO.out.next hb
       have HG : Hid (GrV w (.slice a n c) w1 (.slice a n c)) := GrV.of_below hb _
       replace HB : Hid (base ≤ w1.heap.size) := Nat.le_trans HB.out hb.size
       clear hr0 hr1 hb)
    | (clear tk1; with_reducible refine wpSeq_buildY 2 (.const (.int .u8 2)) ?_ ?_ ?_ ?_
       · rfl
       · rfl
       · rfl
       intro g1 w2 hy1 hg1 hb1
       have HY : Hid (Reads w2 (.slice (some ⟨g1, 0, none⟩) 1 1) [2]) := blk_reads_y hy1
       replace HO : Hid (OwnB w2 base (.slice a n c) bs) := HO.out.next hb1
       replace HR0 : Hid (RdLb base w2 v0 (halfL l d false)) := HR0.out.next hb1
       replace HR1 : Hid (RdLb base w2 v1 (halfL l d true)) := HR1.out.next hb1
       replace HG : Hid (GrV w (.slice a n c) w2 (.slice a n c)) := HG.out.trans (GrV.of_below hb1 _)
       replace HB : Hid (base ≤ w2.heap.size) := Nat.le_trans HB.out hb1.size
       clear hy1 hg1 hb1)
    | (clear tk2; with_reducible refine wpSeq_appB (.tmp 43) (.tmp 44) base (.slice a n c) (.slice (some ⟨g1, 0, none⟩) 1 1) bs [2] HO.out HY.out Q1.out.1 Q1.out.2 HB.out ?_ ?_ ?_ ?_ ?_
       · rfl
       · rfl
       · rfl
       · rfl
       intro v3 w3 ho hg
       have HO3 : Hid (OwnB w3 base v3 (bs ++ [2])) := ho
       replace HR0 : Hid (RdLb base w3 v0 (halfL l d false)) := HR0.out.go (hg.below HB.out fun k hk => (HO.out.ltP k hk).1)
       replace HR1 : Hid (RdLb base w3 v1 (halfL l d true)) := HR1.out.go (hg.below HB.out fun k hk => (HO.out.ltP k hk).1)
       replace HG : Hid (GrV w (.slice a n c) w3 v3) := HG.out.trans hg
       replace HB : Hid (base ≤ w3.heap.size) := Nat.le_trans HB.out hg.mt.size
       clear ho hg)
    | (clear tk3; go_at_call 64; refine (HIH.out base v0 (halfL l d false) v3 (bs ++ [2]) _ (by rw [HD1.out]; exact HF.out.half _) HR0.out HO3.out HB.out (Nat.lt_of_le_of_lt (half_le _ _ _) HLL.out) (by rw [List.length_append, HL.out]; simp; omega)).mono ?_; rintro e w4 ⟨v4, r1, rfl, ho, hg, hp⟩
       have HO4 : Hid (OwnB w4 base v4 r1) := ho
       have HP4 : Hid (PieceR (bs ++ [2]) (wholeL d1 (halfL l d false)) r1) := hp
       replace HR0 : Hid (RdLb base w4 v0 (halfL l d false)) := HR0.out.go (hg.below HB.out fun k hk => (HO3.out.ltP k hk).1)
       replace HR1 : Hid (RdLb base w4 v1 (halfL l d true)) := HR1.out.go (hg.below HB.out fun k hk => (HO3.out.ltP k hk).1)
       replace HG : Hid (GrV w (.slice a n c) w4 v4) := HG.out.trans hg
       replace HB : Hid (base ≤ w4.heap.size) := Nat.le_trans HB.out hg.mt.size
       clear ho hg hp)
    | (clear tk4; go_at_call 64; refine (HIH.out base v1 (halfL l d true) v4 r1 _ (by rw [HD1.out]; exact HF.out.half _) HR1.out HO4.out HB.out (Nat.lt_of_le_of_lt (half_le _ _ _) HLL.out) HP4.out.2.2).mono ?_; rintro e w5 ⟨v5, r2, rfl, ho, hg, hp⟩
       have HO5 : Hid (OwnB w5 base v5 r2) := ho
       have HP5 : Hid (PieceR r1 (wholeL d1 (halfL l d true)) r2) := hp
       replace HG : Hid (GrV w (.slice a n c) w5 v5) := HG.out.trans hg
       clear ho hg hp))
  go_ret
  refine ⟨v5, r2, rfl, HO5.out, HG.out, ?_⟩
  have h4 := HP4.out
  have h5 := HP5.out
  rw [HD1.out] at h4 h5
  rw [whole_two hd H2.out]
  exact piece_two h4 h5
theorem pgPiece_any : ∀ (f d : Nat), 256 ≤ d + f → PcDoes d
  | f, d, hf => fun base vl l vb bs w hF hR ho hb hl hbs => by
    obtain ⟨a, c, hv⟩ := ho.formP
    subst hv
    rcases Nat.lt_or_ge 512 bs.length with hn | hn
    · refine (pgPiece_stop a bs.length c vl d w hn).mono ?_
      rintro e w' ⟨rfl, rfl⟩
      refine ⟨_, bs, rfl, ho, GrV.refl _ _, fun h => by omega, fun h => hn, hbs⟩
    · rcases Nat.lt_or_ge l.length 2 with h2 | h2
      · rw [whole_few h2]
        match l, h2, hR with
        | [], _, hR =>
          obtain ⟨⟨ad, cp, h1, _⟩, _⟩ := hR.1
          subst h1
          exact pgPiece_nil base a ad bs.length c cp bs d w ho hb rfl hn
        | [p], _, hR =>
          obtain ⟨b, off, cp, h1, _⟩ := hR.1.at (by simp)
          subst h1
          exact pgPiece_one base a bs.length c b off cp bs p d w ho hb rfl hn hR
      · obtain ⟨b, off, cp, h1, _⟩ := hR.1.at (by omega)
        subst h1
        have hd := hF.lt h2
        match f with
        | 0 => omega
        | f + 1 => exact pgPiece_many base a bs.length c b off l.length cp bs l d w (pgPiece_any f (d + 1) (by omega)) ho hb rfl hn hR hF h2 rfl hl
end Go.Proofs.YtphmmnffgknkcabGreatDoor
namespace Go.Proofs.YtphmmnffgknkcabGreatDoor
open Go.RowKit
set_option maxRecDepth 100000
theorem wp_appB {o : Oper} {a : Act} {w : World} {K : Act → World → Prop} {Q : Exit → Act → World → Prop} (s x : Operand) (base : Nat) (v vx : Value) (l news : By)
    (hown : OwnB w base v l) (hr : Reads w vx news) (hpos : 0 < news.length) (hlen : l.length + news.length ≤ 100000) (hbase : base ≤ w.heap.size)
    (ho : o.op = .call { callee := .builtin .append, args := #[s, x], argTypes := #[49, 49] }) (hs : a.eval s = v) (hx : a.eval x = vx)
    (h : ∀ v' w', OwnB w' base v' (l ++ news) → GrV w v w' v' → K (a.put o.dst v') w') : o.wp Tryz.prog a w K Q := by
  obtain ⟨i0, hi, hz0, hz1, hz2⟩ := info_parts Tryz.infob
  obtain ⟨ad, cap, rfl, hcap, hnn, hps⟩ := hr
  cases ad with
  | none => obtain ⟨b, off, h1, _⟩ := hps hpos; cases h1
  | some ad =>
    obtain ⟨v', w', hr, h2, h3, h4, h5⟩ := run_append_own_at (P := Tryz.prog) w base 49 o.type 5 i0 (.int .u8 0) 1 1 Tryz.underlying49 hi hz0 hz1 hz2 rfl (by decide) v l.length (cb l) hown ad news.length cap (cb news) (by rw [cb_len]; omega) (by
      intro j u hj
      have hjl : j < news.length := by have := (List.getElem?_eq_some_iff.1 hj).1; rwa [cb_len] at this
      obtain ⟨b, off, h1, h2⟩ := hps (by omega)
      cases h1
      rw [Addr.add_mid, h2 j hjl, ← hj, cb_get news j hjl]) (cb_one _) (by unfold maxLen; omega) (by omega) hbase
    unfold Oper.wp execOp
    simp only [ho, resolve, invoke, builtin, Sem.run_bind, Sem.run_pure, Result.andThen_ok, List.map_toArray, List.map_cons, List.map_nil, hs, hx, hr]
    refine h v' w' ?_ ⟨mut_grown h3, fun k hk => ?_⟩
    · have e : cb l ++ cb news = cb (l ++ news) := by simp [cb]
      rw [e] at h2
      unfold OwnB; rw [List.length_append]; exact h2
    · rcases h5 with h5 | h5
      · exact Or.inl (h5 ▸ hk)
      · rw [h5] at hk; cases hk; exact Or.inr (Nat.le_refl _)
theorem build_y1 (f : Operand → Value) (o : Oper) (b : BitVec 8) (x : Operand) (hx : f x = .int .u8 (b.toNat : Int)) (ho : o.op = .buildSlice 49 1 #[(0, x)]) (w : World) : (execOp f o).run Tryz.prog w = .ok (.value (.slice (some ⟨w.heap.size, 0, none⟩) 1 1)) (w.alloc (.cells (cb [b]).toArray 5)) := by
  unfold execOp
  rw [ho]
  simp only [List.map_toArray, List.map_cons, List.map_nil, hx]
  kernel_rfl
theorem wpAnyH_buildY {md : Region.Mode} {ops : Array Oper} {Q : Exit → Act → World → Prop} {S : World → Prop} {fuel : Nat} {listed : Array Bool} {a : Act} {w : World} (i : Nat) {oi : Oper} (b : BitVec 8) (x : Operand) (hr : Region.ready md ops listed = [i]) (hi : ops[i]? = some oi) (hw : Region.wanted oi (yielded ops a.tmps) = true) (ho : oi.op = .buildSlice 49 1 #[(0, x)]) (hx : a.eval x = .int .u8 (b.toNat : Int))
    (h : ∀ g w', Blk w' g (cb [b]) 5 → w.heap.size ≤ g → Below w.heap.size w w' → S w' ∧ wpAnyH Tryz.prog md ops Q S fuel (listed.setIfInBounds i true) (a.put oi.dst (.slice (some ⟨g, 0, none⟩) 1 1)) w') : wpAnyH Tryz.prog md ops Q S (fuel + 1) listed a w := by
  have h2 := h w.heap.size _ (Blk.new w _ 5) (Nat.le_refl _) (below_alloc w _)
  exact wpAnyH_step i _ _ hr hi hw (build_y1 _ oi b x hx ho w) h2.1 h2.2
def PsDoes (d : Nat) : Prop := ∀ (base : Nat) (va vl : Value) (us : List Value) (ps : List By) (l : List Lf) (X : Nat → Prop) (w : World), KOk w → 1 < base → Fits l d → RdLb base w vl l → PgS w base va us ps X → base ≤ w.heap.size → (∀ k, X k → k < w.heap.size) → l.length < 100000 → ps.length + (saveL d l).length < 100000 →
  Calls Tryz.prog 36 #[va, vl, .int .i64 (d : Int)] w fun e w' => ∃ va' us', e = .returned (.tuple #[.agg (cb (dig (topPg d l))).toArray, va']) ∧ PgS w' base va' us' (ps ++ saveL d l) X ∧ GrV w va w' va'
def SdDoes (d : Nat) : Prop := ∀ (base : Nat) (vb va vl : Value) (us : List Value) (bs : By) (ps : List By) (l : List Lf) (X : Nat → Prop) (w : World), KOk w → 1 < base → Fits l d → RdLb base w vl l → OwnB w base vb bs → PgS w base va us ps (fun k => X k ∨ vb.ownBlock = some k) → base ≤ w.heap.size → (∀ k, X k → k < w.heap.size) → l.length < 100000 → ps.length + (restPg d l).length < 100000 → bs.length ≤ 200 →
  Calls Tryz.prog 66 #[vb, va, vl, .int .i64 (d : Int)] w fun e w' => ∃ vb' va' us', e = .returned (.tuple #[vb', va']) ∧ OwnB w' base vb' (bs ++ sidePg d l) ∧ PgS w' base va' us' (ps ++ restPg d l) (fun k => X k ∨ vb'.ownBlock = some k) ∧ Mut (fun k => vb.ownBlock = some k ∨ va.ownBlock = some k) w w' ∧ (∀ k, vb'.ownBlock = some k → vb.ownBlock = some k ∨ w.heap.size ≤ k) ∧ (∀ k, va'.ownBlock = some k → va.ownBlock = some k ∨ w.heap.size ≤ k)
theorem mut_base {w w' : World} {base : Nat} {vb va : Value} {us : List Value} {bs : By} (h : Mut (fun k => vb.ownBlock = some k ∨ va.ownBlock = some k) w w') (hb : base ≤ w.heap.size) (h1 : OwnB w base vb bs) (h2 : OwnX w base va us) : Below base w w' := h.below hb fun k hk => hk.elim (fun e => (h1.ltP k e).1) fun e => (h2.lt k e).1
set_option maxHeartbeats 4000000 in
theorem pgSide_few (base : Nat) (vb va : Value) (a : Option Addr) (m c : Nat) (us : List Value) (bs : By) (ps : List By) (l : List Lf) (X : Nat → Prop) (d : Nat) (w : World) (hd : d ≤ 256) (hF : Fits l d) (hR : RdLb base w (.slice a m c) l) (ho : OwnB w base vb bs) (hP : PgS w base va us ps (fun k => X k ∨ vb.ownBlock = some k)) (hb : base ≤ w.heap.size) (h2 : l.length < 2) (hm : m = l.length) (hbs : bs.length ≤ 200) :
    Calls Tryz.prog 66 #[vb, va, .slice a m c, .int .i64 (d : Int)] w fun e w' => ∃ vb' va' us', e = .returned (.tuple #[vb', va']) ∧ OwnB w' base vb' (bs ++ sidePg d l) ∧ PgS w' base va' us' (ps ++ restPg d l) (fun k => X k ∨ vb'.ownBlock = some k) ∧ Mut (fun k => vb.ownBlock = some k ∨ va.ownBlock = some k) w w' ∧ (∀ k, vb'.ownBlock = some k → vb.ownBlock = some k ∨ w.heap.size ≤ k) ∧ (∀ k, va'.ownBlock = some k → va.ownBlock = some k ∨ w.heap.size ≤ k) := by
  have h1 : (m : Int) < 2 := by omega
  have HC : Hid (Calls Tryz.prog 64 #[vb, .slice a m c, .int .i64 (d : Int)] w fun e w' => ∃ v' r, e = .returned v' ∧ OwnB w' base v' r ∧ GrV w vb w' v' ∧ PieceR bs (wholeL d l) r) := pgPiece_any (256 - d) d (by omega) base _ l vb bs w hF hR ho hb (by omega) (by omega)
  have HO : Hid (OwnB w base vb bs) := ho
  have HP : Hid (PgS w base va us ps (fun k => X k ∨ vb.ownBlock = some k)) := hP
  have HW : Hid (wholeL d l = sidePg d l ∧ (wholeL d l).length ≤ 65 ∧ restPg d l = [] ∧ bs.length ≤ 200) := ⟨by unfold sidePg; rw [if_pos h2], by rw [whole_few h2, one_le hF.1 h2]; omega, by unfold restPg; rw [if_pos h2], hbs⟩
  clear hR ho hP hb h2 hm hF hbs
  go_enter Tryz.func66, Tryz.ntmps66
  go_wp2_with (go_at_call 64; refine HC.out.mono ?_; rintro e w1 ⟨v1, r, rfl, ho1, hg1, hp1⟩
               have HO1 : Hid (OwnB w1 base v1 r) := ho1
               have HG1 : Hid (GrV w vb w1 v1) := hg1
               have HR1 : Hid (PieceR bs (wholeL d l) r) := hp1
               clear ho1 hg1 hp1 HC)
  refine bodyPost_ret (results_tmp2 rfl _ _ _) rfl ?_
  have hr := HR1.out.1 (by have := HW.out; omega)
  rw [HW.out.1] at hr
  rw [HW.out.2.2.1, List.append_nil]
  exact ⟨v1, va, us, rfl, by rw [← hr]; exact HO1.out, HP.out.beside HO.out HG1.out, HG1.out.mt.mono fun k _ h => Or.inl h, HG1.out.lies, fun k h => Or.inl h⟩
set_option maxHeartbeats 8000000 in
theorem pgSide_many (base : Nat) (vb va : Value) (a : Option Addr) (m c : Nat) (us : List Value) (bs : By) (ps : List By) (l : List Lf) (X : Nat → Prop) (d : Nat) (w : World) (IH : PsDoes d) (hK : KOk w) (hB : 1 < base) (hF : Fits l d) (hR : RdLb base w (.slice a m c) l) (ho : OwnB w base vb bs) (hP : PgS w base va us ps (fun k => X k ∨ vb.ownBlock = some k)) (hb : base ≤ w.heap.size) (hX : ∀ k, X k → k < w.heap.size) (hll : l.length < 100000) (hps : ps.length + (restPg d l).length < 100000) (h2 : 2 ≤ l.length) (hm : m = l.length) (hbs : bs.length ≤ 200) :
    Calls Tryz.prog 66 #[vb, va, .slice a m c, .int .i64 (d : Int)] w fun e w' => ∃ vb' va' us', e = .returned (.tuple #[vb', va']) ∧ OwnB w' base vb' (bs ++ sidePg d l) ∧ PgS w' base va' us' (ps ++ restPg d l) (fun k => X k ∨ vb'.ownBlock = some k) ∧ Mut (fun k => vb.ownBlock = some k ∨ va.ownBlock = some k) w w' ∧ (∀ k, vb'.ownBlock = some k → vb.ownBlock = some k ∨ w.heap.size ≤ k) ∧ (∀ k, va'.ownBlock = some k → va.ownBlock = some k ∨ w.heap.size ≤ k) := by
  have h1 : ¬ (m : Int) < 2 := by omega
  have he : restPg d l = saveL d l := by unfold restPg; rw [if_neg (by omega)]
  have HE : Hid (restPg d l = saveL d l ∧ sidePg d l = 3 :: dig (topPg d l)) := ⟨he, by unfold sidePg; rw [if_neg (by omega)]⟩
  rw [he] at hps
  obtain ⟨dg, HDG⟩ : ∃ x, Hid (x = dig (topPg d l)) := ⟨_, rfl⟩
  have HDL : Hid (dg.length = 32) := by show _ = _; rw [HDG.out]; exact len_dig' _
  have HC : Hid (Calls Tryz.prog 36 #[va, .slice a m c, .int .i64 (d : Int)] w fun e w' => ∃ va' us', e = .returned (.tuple #[.agg (cb dg).toArray, va']) ∧ PgS w' base va' us' (ps ++ saveL d l) (fun k => X k ∨ vb.ownBlock = some k) ∧ GrV w va w' va') := by
    rw [HDG.out]
    exact IH base va _ us ps l _ w hK hB hF hR hP hb (fun k hk => hk.elim (hX k) fun e => (ho.ltP k e).2) hll hps
  have HO : Hid (OwnB w base vb bs) := ho
  have HP : Hid (PgS w base va us ps (fun k => X k ∨ vb.ownBlock = some k)) := hP
  have HB : Hid (base ≤ w.heap.size) := hb
  have HL : Hid (bs.length ≤ 200) := hbs
  have HX : Hid (∀ k, X k → k < w.heap.size) := hX
  have hsd := fun g => slice_dig_at g 0
  clear hR ho hP hb h2 hm hF hbs he hps IH hK hll hX hB
  go_enter Tryz.func66, Tryz.ntmps66
  have tk0 : Hid True := trivial
  have tk1 : Hid True := trivial
  have tk2 : Hid True := trivial
  go_wp2_with (first
    | (clear tk0; go_at_call 36; refine (HC.out).mono ?_; rintro e w1 ⟨va1, us1, rfl, hp1, hg1⟩
       have HP1 : Hid (PgS w1 base va1 us1 (ps ++ saveL d l) (fun k => X k ∨ vb.ownBlock = some k)) := hp1
       have HG1 : Hid (GrV w va w1 va1) := hg1
       have HO1 : Hid (OwnB w1 base vb bs) := HO.out.sameP fun k hk => hg1.other (HO.out.ltP k hk).2 fun e => HP.out.own.ne_bytes HO.out k e hk
       clear hp1 hg1 HC)
    | (clear tk1; with_reducible refine wpSeq_allocD ?_ ?_ ?_
       · rfl
       · rfl
       intro g2 w2 nn
       have HN2 : Hid (Blk w2 g2 (cb zb32) 40 ∧ w1.heap.size ≤ g2 ∧ Below w1.heap.size w1 w2) := ⟨nn.blk, nn.ge, nn.below⟩
       clear nn)
    | (clear tk2; with_reducible refine wpSeq_storeD (.tmp 10) (.tmp 24) g2 zb32 dg zb32_len HDL.out HN2.out.1 ?_ ?_ ?_ ?_ ?_
       · rfl
       · rfl
       · rfl
       · rfl
       intro w3 h9
       have HN3 : Hid (Blk w3 g2 (cb dg) 40) := h9.blk
       have HB3 : Hid (Below w1.heap.size w1 w3) := HN2.out.2.2.trans (h9.only.below HN2.out.2.1 HN2.out.2.2.size)
       clear h9))
  have HO3 : Hid (OwnB w3.drew base vb bs) := (HO1.out.next HB3.out : OwnB w3 base vb bs)
  have HS3 : Hid (base ≤ w3.heap.size ∧ w.heap.size ≤ w1.heap.size ∧ w1.heap.size ≤ w3.heap.size) := ⟨Nat.le_trans HB.out (Nat.le_trans HG1.out.mt.size HB3.out.size), HG1.out.mt.size, HB3.out.size⟩
  have HN4 : Hid (Blk w3.drew g2 (cb dg) 40) := HN3.out
  refine wp_region_held_drew (S := fun W => Blk W g2 (cb dg) 40) (by kernel_rfl) HN4.out ?_
  intro hS
  refine wpAnyH_take (i := 0) (v := vb) rfl (by kernel_rfl) (by kernel_rfl) (by kernel_rfl) (fun _ _ _ h => h) (Or.inl ⟨by rfl, fun wx hx => by simp [go_sem]⟩) hS ?_
  simp only [Act.put, List.getElem_toArray, List.getElem_cons_zero, List.setIfInBounds_toArray, List.set_cons_zero, List.set_cons_succ]
  refine wpAnyH_take (i := 3) (v := .slice (some ⟨g2, 0, none⟩) 32 32) rfl (by kernel_rfl) (by kernel_rfl) (by kernel_rfl) (fun _ _ _ h => h) (Or.inl ⟨by rfl, fun wx hx => by simp [execOp, Act.eval, hsd]⟩) hS ?_
  simp only [Act.put, List.getElem_toArray, List.getElem_cons_succ, List.getElem_cons_zero, List.setIfInBounds_toArray, List.set_cons_zero, List.set_cons_succ]
  refine wpAnyH_take (i := 5) (v := va1) rfl (by kernel_rfl) (by kernel_rfl) (by kernel_rfl) (fun _ _ _ h => h) (Or.inl ⟨by rfl, fun wx hx => by simp [go_sem]⟩) hS ?_
  simp only [Act.put, List.getElem_toArray, List.getElem_cons_succ, List.getElem_cons_zero, List.setIfInBounds_toArray, List.set_cons_zero, List.set_cons_succ]
  refine wpAnyH_buildY 1 3 (.const (.int .u8 3)) (by kernel_rfl) rfl (by rfl) rfl rfl ?_
  intro g4 w4 hy4 hge4 hb4
  have HO4 : Hid (OwnB w4 base vb bs) := HO3.out.next hb4
  have HY4 : Hid (Reads w4 (.slice (some ⟨g4, 0, none⟩) 1 1) [3]) := blk_reads_y hy4
  replace hS : Blk w4 g2 (cb dg) 40 := hS.below hb4 hS.lt
  have HB4 : Hid (Below w3.heap.size w3 w4) := ((Below.refl _ w3).drew).trans hb4
  have HS4 : Hid (base ≤ w4.heap.size) := Nat.le_trans HS3.out.1 hb4.size
  clear hy4 hge4 hb4
  refine ⟨hS, ?_⟩
  simp only [Act.put, List.getElem_toArray, List.getElem_cons_succ, List.getElem_cons_zero, List.setIfInBounds_toArray, List.set_cons_zero, List.set_cons_succ]
  refine wpAnyH_law 2 (by kernel_rfl) rfl (by rfl) (wp_appB (.tmp 26) (.tmp 27) base vb (.slice (some ⟨g4, 0, none⟩) 1 1) bs [3] HO4.out HY4.out Nat.zero_lt_one (by have := HL.out; simp; omega) HS4.out rfl rfl rfl ?_)
  intro v5 w5 ho5 hg5
  have HO5 : Hid (OwnB w5 base v5 (bs ++ [3])) := ho5
  have HG5 : Hid (GrV w4 vb w5 v5) := hg5
  replace hS : Blk w5 g2 (cb dg) 40 := hg5.mt.blk hS fun e => HO4.out.ne_blk hS (by decide) e
  have HS5 : Hid (base ≤ w5.heap.size) := Nat.le_trans HS4.out hg5.mt.size
  clear ho5 hg5
  refine ⟨hS, ?_⟩
  simp only [Act.put, List.getElem_toArray, List.getElem_cons_succ, List.getElem_cons_zero, List.setIfInBounds_toArray, List.set_cons_zero, List.set_cons_succ]
  refine wpAnyH_law 4 (by kernel_rfl) rfl (by rfl) (wp_appB (.tmp 28) (.tmp 29) base v5 (.slice (some ⟨g2, 0, none⟩) 32 32) (bs ++ [3]) dg HO5.out (reads_dig_at HDL.out hS.range) (by rw [HDL.out]; decide) (by have := HL.out; rw [List.length_append, HDL.out]; simp; omega) HS5.out rfl rfl rfl ?_)
  intro v6 w6 ho6 hg6
  have HO6 : Hid (OwnB w6 base v6 (bs ++ [3] ++ dg)) := ho6
  have HG6 : Hid (GrV w5 v5 w6 v6) := hg6
  replace hS : Blk w6 g2 (cb dg) 40 := hg6.mt.blk hS fun e => HO5.out.ne_blk hS (by decide) e
  clear ho6 hg6
  refine ⟨hS, ?_⟩
  simp only [Act.put, List.getElem_toArray, List.getElem_cons_succ, List.getElem_cons_zero, List.setIfInBounds_toArray, List.set_cons_zero, List.set_cons_succ]
  refine wpAnyH_take (i := 6) (v := v6) rfl (by kernel_rfl) (by kernel_rfl) (by kernel_rfl) (fun _ _ _ h => h) (Or.inl ⟨by rfl, fun wx hx => by simp [go_sem]⟩) hS ?_
  simp only [Act.put, List.getElem_toArray, List.getElem_cons_succ, List.getElem_cons_zero, List.setIfInBounds_toArray, List.set_cons_zero, List.set_cons_succ]
  refine wpAnyH_take (i := 7) (v := va1) rfl (by kernel_rfl) (by kernel_rfl) (by kernel_rfl) (fun _ _ _ h => h) (Or.inl ⟨by rfl, fun wx hx => by simp [go_sem]⟩) hS ?_
  simp only [Act.put, List.getElem_toArray, List.getElem_cons_succ, List.getElem_cons_zero, List.setIfInBounds_toArray, List.set_cons_zero, List.set_cons_succ]
  refine wpAnyH_done (by kernel_rfl) ?_ _
  go_wp2_with fail
  refine bodyPost_ret (results_tmp2 rfl _ _ _) rfl ?_
  have hgw : GrV w1 vb w6 v6 := ((GrV.of_below HB3.out vb).trans ((GrV.of_below HB4.out vb).trans HG5.out)).trans HG6.out
  refine ⟨v6, va1, us1, rfl, ?_, ?_, ?_, fun k hk => ?_, HG1.out.lies⟩
  · have e : bs ++ sidePg d l = bs ++ [3] ++ dg := by rw [HE.out.2, ← HDG.out]; simp
    rw [e]; exact HO6.out
  · rw [HE.out.1]; exact HP1.out.beside HO1.out hgw
  · exact (HG1.out.mt.mono fun k _ h => Or.inr h).trans (fun k hk h => Or.inl h) hgw.mt
  · rcases hgw.lies k hk with h | h
    · exact Or.inl h
    · exact Or.inr (Nat.le_trans HS3.out.2.1 h)
theorem pgSide_any (d : Nat) (hd : d ≤ 256) (IH : PsDoes d) : SdDoes d := fun base vb va vl us bs ps l X w hK hB hF hR ho hP hb hX hll hps hbs => by
  obtain ⟨⟨ad, cp, h1, _⟩, _⟩ := hR.1
  subst h1
  rcases Nat.lt_or_ge l.length 2 with h2 | h2
  · exact pgSide_few base vb va ad l.length cp us bs ps l X d w hd hF hR ho hP hb h2 rfl hbs
  · exact pgSide_many base vb va ad l.length cp us bs ps l X d w IH hK hB hF hR ho hP hb hX hll hps h2 rfl hbs
end Go.Proofs.YtphmmnffgknkcabGreatDoor
namespace Go.Proofs.YtphmmnffgknkcabGreatDoor
open Go.RowKit
set_option maxRecDepth 100000
def RdBb (B : Nat) (w : World) (v : Value) (t : By) : Prop := Reads w v t ∧ ∀ k, v.ownBlock = some k → k < B
theorem RdBb.go {B : Nat} {w w' : World} {v : Value} {t : By} (h : RdBb B w v t) (hb : Below B w w') : RdBb B w' v t := ⟨h.1.sameP fun k hk => hb.block k (h.2 k hk), h.2⟩
theorem RdBb.at {B : Nat} {w : World} {v : Value} {t : By} (h : RdBb B w v t) (hp : 0 < t.length) : ∃ b off c, v = .slice (some ⟨b, off, none⟩) t.length c ∧ t.length ≤ c ∧ b < B ∧ ∀ j, j < t.length → w.cell? ⟨b, off + j, none⟩ = some (.int .u8 ((t.getD j 0).toNat : Int)) := by
  obtain ⟨⟨ad, c, h1, h2, h3, h4⟩, h5⟩ := h
  obtain ⟨b, off, rfl, h6⟩ := h4 hp
  exact ⟨b, off, c, h1, h2, h5 b (by rw [h1]; rfl), h6⟩
theorem slHiY (b off n cap k : Nat) (h : k ≤ n) (w : World) : (Instr.sliceAt 49 (.slice (some ⟨b, off, none⟩) n cap) (some (.int .i64 (k : Int))) none none).run Tryz.prog w = .ok (.slice (some ⟨b, if cap = k then off else off + k, none⟩) (n - k) (cap - k)) w := by
  have hs : (sizeOf 5).run Tryz.prog w = .ok 1 w := by kernel_rfl
  rw [run_sliceAt_slice w 49 _ _ _ _ (by kernel_rfl), run_slice_l w 49 _ _ _ (by kernel_rfl) .i64 _ (by omega) (by omega)]
  rw [show Tryz.prog.elem 49 = 5 from by kernel_rfl, hs]
  simp only [Result.andThen_ok, sliced, Int.toNat_natCast, Nat.mul_one, Option.map_some]
  split <;> simp [Addr.add_mid]
theorem RdBb.drop {B : Nat} {w : World} {b off n c : Nat} {t : By} (h : RdBb B w (.slice (some ⟨b, off, none⟩) n c) t) (k o : Nat) (hk : k ≤ t.length) (ho : k < t.length → o = off + k) : RdBb B w (.slice (some ⟨b, o, none⟩) (n - k) (c - k)) (t.drop k) := by
  obtain ⟨⟨ad, c', h1, h2, h3, h4⟩, h5⟩ := h
  simp only [Value.slice.injEq] at h1
  obtain ⟨rfl, rfl, rfl⟩ := h1
  refine ⟨⟨_, c - k, by rw [List.length_drop], by rw [List.length_drop]; omega, (fun e => by cases e), fun hp => ?_⟩, fun j hj => h5 j hj⟩
  rw [List.length_drop] at hp ⊢
  obtain ⟨b2, off2, e, h6⟩ := h4 (by omega)
  cases e
  refine ⟨b, o, rfl, fun j hj => ?_⟩
  rw [ho (by omega), Nat.add_assoc, h6 (k + j) (by omega), List.getD_eq_getElem?_getD, List.getD_eq_getElem?_getD, List.getElem?_drop]
theorem copyO (f : Operand → Value) (o : Oper) (d s : Operand) (ho : o.op = .call { callee := .builtin .copy, args := #[d, s], argTypes := #[49, 49] }) (w : World) (g k dLen dCap b off sLen sCap : Nat) (t : TypeId) (cs : List Value) (xs : By) (hg : Blk w g cs t) (hm : xs.length = min sLen dLen) (hk : k + xs.length ≤ cs.length)
    (hsrc : ∀ j, j < xs.length → w.cell? ⟨b, off + j, none⟩ = some (.int .u8 ((xs.getD j 0).toNat : Int))) (hx : f d = .slice (some ⟨g, k, none⟩) dLen dCap) (hy : f s = .slice (some ⟨b, off, none⟩) sLen sCap) :
    ∃ w', (execOp f o).run Tryz.prog w = .ok (.value (.int .i64 (xs.length : Int))) w' ∧ Blk w' g (cs.take k ++ cb xs ++ cs.drop (k + xs.length)) t ∧ Only g w w' := by
  have hcp : ∀ ty, (Builtin.copy_ #[49, 49] ty #[.slice (some ⟨g, k, none⟩) dLen dCap, .slice (some ⟨b, off, none⟩) sLen sCap]).run Tryz.prog w = .ok (goInt (cb xs).length) (w.setCells g k (cb xs)) := fun ty =>
      run_copy_cells w _ _ ty 5 g k dLen dCap ⟨b, off, none⟩ sLen sCap (cb xs) Tryz.underlying49 (by kernel_rfl) (by rw [cb_len]; exact hm)
        (fun j u hj => by
          have hjl : j < xs.length := by have := (List.getElem?_eq_some_iff.1 hj).1; rwa [cb_len] at this
          rw [Addr.add_mid, hsrc j hjl, ← hj, cb_get xs j hjl])
        (fun j hj => by rw [hg.cell, List.getElem?_eq_getElem (by rw [cb_len] at hj; omega)]; rfl) (fun j _ => hg.frozen _) (cb_one _)
  refine ⟨w.setCells g k (cb xs), ?_, ?_, Only.setCells _ _ _ (Only.refl g w)⟩
  · unfold execOp
    rw [ho]
    rw [cb_len] at hcp
    simp [resolve, invoke, builtin, hx, hy, hcp, Result.andThen]
    rfl
  · have := setCells_eq g (cb xs) k w cs t hg (by rw [cb_len]; exact hk)
    rwa [cb_len] at this
theorem wpSeq_copyO {ops : Array Oper} {Q : Exit → Act → World → Prop} {rest : List Oper} {o : Oper} {a : Act} {w : World} (d s : Operand) (g b off n c : Nat) (x : By) (hg : Blk w g (cb zb32) 40) (hx32 : x.length = 32) (hm : 32 ≤ n)
    (hsrc : ∀ j, j < 32 → w.cell? ⟨b, off + j, none⟩ = some (.int .u8 ((x.getD j 0).toNat : Int))) (ho : o.op = .call { callee := .builtin .copy, args := #[d, s], argTypes := #[49, 49] }) (hx : a.eval d = .slice (some ⟨g, 0, none⟩) 32 32) (hy : a.eval s = .slice (some ⟨b, off, none⟩) n c) (hw : Region.wanted o (yielded ops a.tmps) = true)
    (h : ∀ w', Blk w' g (cb x) 40 → Only g w w' → wpList Tryz.prog ops Q rest (a.put o.dst (.int .i64 32)) w') : wpList Tryz.prog ops Q (o :: rest) a w := by
  obtain ⟨w', h1, h2, h3⟩ := copyO a.eval o d s ho w g 0 32 32 b off n c 40 (cb zb32) x hg (by rw [hx32]; omega) (by rw [hx32, cb_len]; decide) (by rw [hx32]; exact hsrc) hx hy
  rw [hx32] at h1 h2
  have e : (cb zb32).take 0 ++ cb x ++ (cb zb32).drop (0 + 32) = cb x := by
    have e2 : (cb zb32).drop (0 + 32) = [] := List.drop_of_length_le (by rw [cb_len]; decide)
    rw [e2, List.append_nil, List.take_zero, List.nil_append]
  rw [e] at h2
  exact wpSeq_val _ _ hw h1 (h w' h2 h3)
theorem wpAnyH_storeD {md : Region.Mode} {ops : Array Oper} {Q : Exit → Act → World → Prop} {S : World → Prop} {fuel : Nat} {listed : Array Bool} {a : Act} {w : World} (i : Nat) {oi : Oper} (x y : Operand) (g : Nat) (l m : By) (hl : l.length = 32) (hm : m.length = 32) (hb : Blk w g (cb l) 40)
    (hr : Region.ready md ops listed = [i]) (hi : ops[i]? = some oi) (hw : Region.wanted oi (yielded ops a.tmps) = true) (ho : oi.op = .store 40 x y) (hx : a.eval x = .pointer (some ⟨g, 0, none⟩)) (hy : a.eval y = .agg (cb m).toArray)
    (h : ∀ w', SetB m w g w' → S w' ∧ wpAnyH Tryz.prog md ops Q S fuel (listed.setIfInBounds i true) (a.put oi.dst undef) w') : wpAnyH Tryz.prog md ops Q S (fuel + 1) listed a w :=
  wpAnyH_law i hr hi hw (wp_store_mid 40 x y ho g 0 (cb m).toArray hx hy (hb.there 0 _ (by rw [List.size_toArray, cb_len, cb_len, hl, hm]; omega)) (by rw [List.size_toArray, cb_len, hm]; exact info_digest) (all_oneCell_toArray (cb_one m)) (by rw [List.toList_toArray]; exact h _ (SetB.of l m hl hm hb)))
theorem results_row_tmp3 {fn : Func} {p u1 u2 : Tmp} (h : fn.results = #[.cell p 40, .tmp u1, .tmp u2]) (tmps : Array Value) (w : World) (g : Nat) (x : By) (hx : x.length = 32) (hp : tmps.getD p undef = .pointer (some ⟨g, 0, none⟩)) (hg : Blk w g (cb x) 40) :
    (results fn tmps).run Tryz.prog w = .ok (.tuple #[.agg (cb x).toArray, tmps.getD u1 undef, tmps.getD u2 undef]) w := by
  simp only [results, h]
  have e : (loadVar 40 ⟨g, 0, none⟩).run Tryz.prog w = .ok (.agg (cb x).toArray) w := run_loadVar_mid w g 0 40 (cb x) _ hg.range Tryz.underlying40 rfl (by rw [cb_len, hx]; exact info_digest)
  have hp' : tmps[p]?.getD undef = .pointer (some ⟨g, 0, none⟩) := by simpa using hp
  simp [Result.andThen, hp', asAddr, e]
set_option maxHeartbeats 4000000 in
theorem pgCut_any (B : Nat) (v : Value) (x rest : By) (w : World) (hx : x.length = 32) (hR : RdBb B w v (x ++ rest)) (hl : rest.length < 1000000) :
    Calls Tryz.prog 78 #[v] w fun e w' => ∃ v', e = .returned (.tuple #[.agg (cb x).toArray, v', .bool true]) ∧ RdBb B w' v' rest ∧ Below w.heap.size w w' := by
  obtain ⟨b, off, c, hv, hc, hbB, hcell⟩ := hR.at (by rw [List.length_append]; omega)
  obtain ⟨n, HN⟩ : ∃ n, Hid (n = (x ++ rest).length) := ⟨_, rfl⟩
  rw [← HN.out] at hv hc
  subst hv
  have HN2 : Hid (n = 32 + rest.length) := by show _ = _; rw [HN.out, List.length_append, hx]
  have HX : Hid (x.length = 32) := hx
  have HR : Hid (RdBb B w (.slice (some ⟨b, off, none⟩) n c) (x ++ rest)) := hR
  have HRG : Hid (32 ≤ n) := by show _ ≤ _; rw [HN2.out]; omega
  have HSRC : Hid (∀ W, Below w.heap.size w W → ∀ j, j < 32 → W.cell? ⟨b, off + j, none⟩ = some (.int .u8 ((x.getD j 0).toNat : Int))) := fun W hW j hj => by
    have h := hcell j (by rw [List.length_append, hx]; omega)
    rw [List.getD_eq_getElem?_getD, List.getElem?_append_left (by omega), ← List.getD_eq_getElem?_getD] at h
    rw [hW.cell (p := ⟨b, off + j, none⟩) (block_lt_of_cell h)]
    exact h
  obtain ⟨o2, HO2⟩ : ∃ o, Hid (o = if c = 32 then off else off + 32) := ⟨_, rfl⟩
  obtain ⟨n2, HM2⟩ : ∃ x, Hid (x = n - 32) := ⟨_, rfl⟩
  obtain ⟨c2, HC2⟩ : ∃ x, Hid (x = c - 32) := ⟨_, rfl⟩
  have hsh := slHiY b off n c 32 HRG.out
  rw [← HO2.out, ← HM2.out, ← HC2.out] at hsh
  have hsh : ∀ w : World, (Instr.sliceAt 49 (.slice (some ⟨b, off, none⟩) n c) (some (.int .i64 32)) none none).run Tryz.prog w = .ok (.slice (some ⟨b, o2, none⟩) n2 c2) w := hsh
  clear hR hx hl hcell
  go_enter Tryz.func78, Tryz.ntmps78
  have tk0 : Hid True := trivial
  have tk1 : Hid True := trivial
  have tk2 : Hid True := trivial
  have tk3 : Hid True := trivial
  go_wp2_with (first
    | (clear tk0; with_reducible refine wpSeq_allocD ?_ ?_ ?_
       · rfl
       · rfl
       intro g2 w1 nn
       have HN1 : Hid (Blk w1 g2 (cb zb32) 40 ∧ w.heap.size ≤ g2 ∧ Below w.heap.size w w1) := ⟨nn.blk, nn.ge, nn.below⟩
       clear nn)
    | (clear tk1; with_reducible refine wpSeq_allocD ?_ ?_ ?_
       · rfl
       · rfl
       intro g5 w3 nn
       have HN3 : Hid (Blk w3 g5 (cb zb32) 40 ∧ Blk w3 g2 (cb zb32) 40 ∧ w.heap.size ≤ g5 ∧ w.heap.size ≤ g2 ∧ Below w.heap.size w w3 ∧ g2 ≠ g5) := ⟨nn.blk, HN1.out.1.below nn.below HN1.out.1.lt, Nat.le_trans HN1.out.2.2.size nn.ge, HN1.out.2.1, HN1.out.2.2.trans (nn.below.mono HN1.out.2.2.size), fun e => by have h1 := nn.ge; have h2 := HN1.out.1.lt; omega⟩
       have HSR : Hid (∀ j, j < 32 → w3.cell? ⟨b, off + j, none⟩ = some (.int .u8 ((x.getD j 0).toNat : Int))) := HSRC.out w3 HN3.out.2.2.2.2.1
       clear nn HN1)
    | (clear tk2; with_reducible refine wpSeq_val (.slice (some ⟨g5, 0, none⟩) 32 32) w3 ?_ ?_ ?_
       · rfl
       · simp [execOp, Act.eval]
       have HSK : Hid True := trivial)
    | (clear tk3; with_reducible refine wpSeq_copyO (.tmp 7) (.tmp 8) g5 b off n c x HN3.out.1 HX.out HRG.out HSR.out ?_ ?_ ?_ ?_ ?_
       · rfl
       · rfl
       · rfl
       · rfl
       intro w4 hb4 ho4
       have HN4 : Hid (Blk w4 g5 (cb x) 40 ∧ Blk w4 g2 (cb zb32) 40 ∧ w.heap.size ≤ g2 ∧ Below w.heap.size w w4 ∧ g2 ≠ g5) := ⟨hb4, HN3.out.2.1.only ho4 HN3.out.2.2.2.2.2, HN3.out.2.2.2.1, HN3.out.2.2.2.2.1.trans (ho4.below HN3.out.2.2.1 HN3.out.2.2.2.2.1.size), HN3.out.2.2.2.2.2⟩
       clear hb4 ho4 HN3 HSR))
  have HN5 : Hid (Blk w4.drew g5 (cb x) 40 ∧ Blk w4.drew g2 (cb zb32) 40) := ⟨HN4.out.1, HN4.out.2.1⟩
  refine wp_region_held_drew (S := fun W => Blk W g5 (cb x) 40) (by kernel_rfl) HN5.out.1 ?_
  intro hS
  refine wpAnyH_take (i := 0) (v := .agg (cb x).toArray) rfl (by kernel_rfl) (by kernel_rfl) (by kernel_rfl) (fun _ _ _ h => h) (Or.inl ⟨by rfl, fun wx hx => by exact loadDigest _ g5 x HX.out hx rfl rfl⟩) hS ?_
  simp only [Act.put, List.getElem_toArray, List.getElem_cons_zero, List.setIfInBounds_toArray, List.set_cons_zero, List.set_cons_succ]
  refine wpAnyH_take (i := 1) (v := .slice (some ⟨b, off, none⟩) n c) rfl (by kernel_rfl) (by kernel_rfl) (by kernel_rfl) (fun _ _ _ h => h) (Or.inl ⟨by rfl, fun wx hx => by simp [go_sem]⟩) hS ?_
  simp only [Act.put, List.getElem_toArray, List.getElem_cons_succ, List.getElem_cons_zero, List.setIfInBounds_toArray, List.set_cons_zero, List.set_cons_succ]
  refine wpAnyH_take (i := 2) (v := .int .i64 32) rfl (by kernel_rfl) (by kernel_rfl) (by kernel_rfl) (fun _ _ _ h => h) (Or.inl ⟨by rfl, fun wx hx => by simp [go_sem]⟩) hS ?_
  simp only [Act.put, List.getElem_toArray, List.getElem_cons_succ, List.getElem_cons_zero, List.setIfInBounds_toArray, List.set_cons_zero, List.set_cons_succ]
  refine wpAnyH_take (i := 3) (v := .slice (some ⟨b, o2, none⟩) n2 c2) rfl (by kernel_rfl) (by kernel_rfl) (by kernel_rfl) (fun _ _ _ h => h) (Or.inl ⟨by rfl, fun wx hx => by simp [execOp, Act.eval, hsh]⟩) hS ?_
  simp only [Act.put, List.getElem_toArray, List.getElem_cons_succ, List.getElem_cons_zero, List.setIfInBounds_toArray, List.set_cons_zero, List.set_cons_succ]
  refine wpAnyH_take (i := 4) (v := .int .i64 32) rfl (by kernel_rfl) (by kernel_rfl) (by kernel_rfl) (fun _ _ _ h => h) (Or.inl ⟨by rfl, fun wx hx => by simp [go_sem]⟩) hS ?_
  simp only [Act.put, List.getElem_toArray, List.getElem_cons_succ, List.getElem_cons_zero, List.setIfInBounds_toArray, List.set_cons_zero, List.set_cons_succ]
  refine wpAnyH_take (i := 5) (v := .bool true) rfl (by kernel_rfl) (by kernel_rfl) (by kernel_rfl) (fun _ _ _ h => h) (Or.inl ⟨by rfl, fun wx hx => by simp [go_sem]⟩) hS ?_
  simp only [Act.put, List.getElem_toArray, List.getElem_cons_succ, List.getElem_cons_zero, List.setIfInBounds_toArray, List.set_cons_zero, List.set_cons_succ]
  refine wpAnyH_storeD 6 (.tmp 2) (.tmp 10) g2 zb32 x zb32_len HX.out HN5.out.2 (by kernel_rfl) rfl (by rfl) rfl rfl rfl ?_
  intro w5 h9
  have HN6 : Hid (Blk w5 g2 (cb x) 40 ∧ Only g2 w4.drew w5) := ⟨h9.blk, h9.only⟩
  replace hS : Blk w5 g5 (cb x) 40 := hS.only h9.only (Ne.symm HN4.out.2.2.2.2)
  clear h9
  refine ⟨hS, ?_⟩
  simp only [Act.put, List.getElem_toArray, List.getElem_cons_succ, List.getElem_cons_zero]
  refine wpAnyH_take (i := 7) (v := .slice (some ⟨b, o2, none⟩) n2 c2) rfl (by kernel_rfl) (by kernel_rfl) (by kernel_rfl) (fun _ _ _ h => h) (Or.inl ⟨by rfl, fun wx hx => by simp [go_sem]⟩) hS ?_
  simp only [Act.put, List.getElem_toArray, List.getElem_cons_succ, List.getElem_cons_zero, List.setIfInBounds_toArray, List.set_cons_zero, List.set_cons_succ]
  refine wpAnyH_take (i := 8) (v := .bool true) rfl (by kernel_rfl) (by kernel_rfl) (by kernel_rfl) (fun _ _ _ h => h) (Or.inl ⟨by rfl, fun wx hx => by simp [go_sem]⟩) hS ?_
  simp only [Act.put, List.getElem_toArray, List.getElem_cons_succ, List.getElem_cons_zero, List.setIfInBounds_toArray, List.set_cons_zero, List.set_cons_succ]
  refine wpAnyH_done (by kernel_rfl) ?_ _
  go_wp2_with fail
  refine bodyPost_ret (results_row_tmp3 (by rfl) _ _ g2 x HX.out rfl HN6.out.1) rfl ?_
  have hb5 : Below w.heap.size w w5 := (HN4.out.2.2.2.1.drew).trans (HN6.out.2.below HN4.out.2.2.1 HN4.out.2.2.2.1.size)
  refine ⟨.slice (some ⟨b, o2, none⟩) n2 c2, rfl, ?_, hb5⟩
  have hr : RdBb B w5 (.slice (some ⟨b, off, none⟩) n c) (x ++ rest) := ⟨HR.out.1.below hb5, HR.out.2⟩
  have hd := hr.drop 32 o2 (by rw [List.length_append, HX.out]; omega) (fun h => by rw [HO2.out, if_neg (by rw [List.length_append, HX.out] at h; have := HN2.out; omega)])
  rw [HM2.out, HC2.out]
  rw [List.drop_append_of_le_length (by rw [HX.out]; exact Nat.le_refl _), List.drop_of_length_le (by rw [HX.out]; exact Nat.le_refl _), List.nil_append] at hd
  exact hd
end Go.Proofs.YtphmmnffgknkcabGreatDoor
namespace Go.Proofs.YtphmmnffgknkcabGreatDoor
open Go.RowKit
set_option maxRecDepth 100000
theorem blk_sameP {w w' : World} {g : Nat} {cs : List Value} {t : TypeId} (h : Blk w g cs t) (e : w'.heap[g]? = w.heap[g]?) : Blk w' g cs t := by unfold Blk at *; rw [e]; exact h
theorem OwnD.sameP {w w' : World} {base : Nat} {v : Value} {ds : List By} (h : OwnD w base v ds) (hs : ∀ k, v.ownBlock = some k → w'.heap[k]? = w.heap[k]?) : OwnD w' base v ds := by
  rcases h with ⟨⟨h1, ⟨rfl, h2⟩ | ⟨g, cap, cur, rfl, hg, hh, h3⟩⟩, h4⟩
  · exact ⟨⟨h1, Or.inl ⟨rfl, h2⟩⟩, h4⟩
  · exact ⟨⟨h1, Or.inr ⟨g, cap, cur, rfl, hg, by rw [hs g rfl]; exact hh, h3⟩⟩, h4⟩
theorem OwnD.ne_blk {w : World} {base g : Nat} {v : Value} {l : List By} {cs : List Value} {t : TypeId} (h : OwnD w base v l) (hb : Blk w g cs t) (ht : t ≠ 40) : v.ownBlock ≠ some g := by
  obtain ⟨⟨_, h2⟩, _⟩ := h
  intro hk
  rcases h2 with ⟨rfl, _⟩ | ⟨g2, cap, cur, rfl, hg, hh, _⟩
  · cases hk
  · simp only [Value.ownBlock, Option.some.injEq] at hk
    subst hk
    unfold Blk at hb
    rw [hh] at hb
    simp only [Option.some.injEq, Obj.cells.injEq] at hb
    exact ht hb.2.1.symm
theorem OwnD.cells {w : World} {base : Nat} {v : Value} {l : List By} (h : OwnD w base v l) : ∀ k, v.ownBlock = some k → ∃ ar t fz, w.heap[k]? = some (.cells ar t fz) := fun k hk => by
  rcases h.1 with ⟨_, ⟨rfl, _⟩ | ⟨g, cap, cur, rfl, _, hh, _⟩⟩
  · cases hk
  · cases hk; exact ⟨_, _, _, hh⟩
def rdC (pv : Value) (gm k : Nat) (ix iv : Value) : List Value := [pv, .map (some gm), .int .i64 (k : Int), ix, iv]
structure RrI (w0 : World) (B gr gm : Nat) (pv : Value) (ps : List By) (k : Nat) (ix iv : Value) (la lv : List By) (W : World) : Prop where
  bel : Below B w0 W
  ge : B ≤ W.heap.size
  blk : Blk W gr (rdC pv gm k ix iv) 59
  gg : B ≤ gr
  mp : MapP W gm ps.length (plK ps ps.length)
  oi : OwnD W B ix la
  ov : OwnD W B iv lv
  ne : ∀ j, ix.ownBlock = some j → iv.ownBlock ≠ some j
section
variable {w0 : World} {B gr gm : Nat} {pv : Value} {ps : List By} {k : Nat} {ix iv : Value} {la lv : List By} {W : World}
theorem RrI.next {W' : World} (h : RrI w0 B gr gm pv ps k ix iv la lv W) (hb : Below W.heap.size W W') : RrI w0 B gr gm pv ps k ix iv la lv W' :=
  ⟨h.bel.trans (hb.mono h.ge), Nat.le_trans h.ge hb.size, h.blk.below hb h.blk.lt, h.gg, h.mp.next hb, h.oi.sameP fun j hj => hb.block j (h.oi.lt j hj).2, h.ov.sameP fun j hj => hb.block j (h.ov.lt j hj).2, h.ne⟩
theorem RrI.drew (h : RrI w0 B gr gm pv ps k ix iv la lv W) : RrI w0 B gr gm pv ps k ix iv la lv W.drew := h.next (Below.refl _ W).drew
theorem RrI.off (h : RrI w0 B gr gm pv ps k ix iv la lv W) : ix.ownBlock ≠ some gr ∧ iv.ownBlock ≠ some gr ∧ gm ≠ gr := ⟨h.oi.ne_blk h.blk (by decide), h.ov.ne_blk h.blk (by decide), h.mp.ne h.blk⟩
theorem RrI.turn {W' : World} {k' : Nat} (h : RrI w0 B gr gm pv ps k ix iv la lv W) (hb : Blk W' gr (rdC pv gm k' ix iv) 59) (ho : Only gr W W') : RrI w0 B gr gm pv ps k' ix iv la lv W' := by
  obtain ⟨h1, h2, h3⟩ := h.off
  exact ⟨h.bel.trans (ho.below h.gg h.ge), Nat.le_trans h.ge ho.size, hb, h.gg, h.mp.same (ho.block gm h3 h.mp.lt), h.oi.sameP fun j hj => ho.block j (fun e => h1 (e ▸ hj)) (h.oi.lt j hj).2, h.ov.sameP fun j hj => ho.block j (fun e => h2 (e ▸ hj)) (h.ov.lt j hj).2, h.ne⟩
theorem map_ne_own {W' : World} {gm n : Nat} {F : By → Option Nat} {base : Nat} {v : Value} {l : List By} (h : MapP W' gm n F) (ho : OwnD W' base v l) : v.ownBlock ≠ some gm := fun e => by
  obtain ⟨ar, t, fz, hh⟩ := ho.cells gm e
  exact h.ne hh rfl
theorem RrI.addI {W' : World} {ix' : Value} {x : By} (h : RrI w0 B gr gm pv ps k ix iv la lv W) (ho : OwnD W' B ix' (la ++ [x])) (hg : Grow B W ix W' ix') : Blk W' gr (rdC pv gm k ix iv) 59 ∧ RrI w0 B gr gm pv ps k ix' iv (la ++ [x]) lv (W'.setCell ⟨gr, 3, none⟩ ix') := by
  obtain ⟨h1, h2, h3⟩ := h.off
  have hb : Blk W' gr (rdC pv gm k ix iv) 59 := blk_sameP h.blk (hg.other gr (fun e => h1 e.symm) h.blk.lt)
  have hs := Only.setCell (Only.refl gr W') 3 ix'
  have hsz : B ≤ W'.heap.size := Nat.le_trans h.ge hg.below.size
  have ov : OwnD W' B iv lv := h.ov.sameP fun j hj => hg.other j (fun e => h.ne j e.symm hj) (h.ov.lt j hj).2
  have mp : MapP W' gm ps.length (plK ps ps.length) := h.mp.same (hg.other gm (fun e => map_ne_own h.mp h.oi e.symm) h.mp.lt)
  refine ⟨hb, (h.bel.trans hg.below).trans (hs.below h.gg hsz), Nat.le_trans hsz hs.size, hb.set 3 ix', h.gg, mp.same (hs.block gm h3 mp.lt), ho.sameP fun j hj => hs.block j (fun e => ho.ne_blk hb (by decide) (e ▸ hj)) (ho.lt j hj).2, ov.sameP fun j hj => hs.block j (fun e => h2 (e ▸ hj)) (ov.lt j hj).2, fun j hj e => ?_⟩
  rcases hg.lies with h4 | h4
  · exact h.ne j (h4 ▸ hj) e
  · rw [h4] at hj
    cases hj
    have := (h.ov.lt _ e).2
    omega
theorem RrI.addV {W' : World} {iv' : Value} {x : By} (h : RrI w0 B gr gm pv ps k ix iv la lv W) (ho : OwnD W' B iv' (lv ++ [x])) (hg : Grow B W iv W' iv') : Blk W' gr (rdC pv gm k ix iv) 59 ∧ RrI w0 B gr gm pv ps k ix iv' la (lv ++ [x]) (W'.setCell ⟨gr, 4, none⟩ iv') := by
  obtain ⟨h1, h2, h3⟩ := h.off
  have hb : Blk W' gr (rdC pv gm k ix iv) 59 := blk_sameP h.blk (hg.other gr (fun e => h2 e.symm) h.blk.lt)
  have hs := Only.setCell (Only.refl gr W') 4 iv'
  have hsz : B ≤ W'.heap.size := Nat.le_trans h.ge hg.below.size
  have oi : OwnD W' B ix la := h.oi.sameP fun j hj => hg.other j (fun e => h.ne j hj e.symm) (h.oi.lt j hj).2
  have mp : MapP W' gm ps.length (plK ps ps.length) := h.mp.same (hg.other gm (fun e => map_ne_own h.mp h.ov e.symm) h.mp.lt)
  refine ⟨hb, (h.bel.trans hg.below).trans (hs.below h.gg hsz), Nat.le_trans hsz hs.size, hb.set 4 iv', h.gg, mp.same (hs.block gm h3 mp.lt), oi.sameP fun j hj => hs.block j (fun e => h1 (e ▸ hj)) (oi.lt j hj).2, ho.sameP fun j hj => hs.block j (fun e => ho.ne_blk hb (by decide) (e ▸ hj)) (ho.lt j hj).2, fun j hj e => ?_⟩
  rcases hg.lies with h4 | h4
  · exact h.ne j hj (h4 ▸ e)
  · rw [h4] at e
    cases e
    have := (h.oi.lt _ hj).2
    omega
end
structure RdG (gr : Nat) (ix iv : Value) (w : World) (ix' iv' : Value) (w' : World) : Prop where
  mt : Mut (fun j => j = gr ∨ ix.ownBlock = some j ∨ iv.ownBlock = some j) w w'
  li : ∀ j, ix'.ownBlock = some j → ix.ownBlock = some j ∨ w.heap.size ≤ j
  lv : ∀ j, iv'.ownBlock = some j → iv.ownBlock = some j ∨ w.heap.size ≤ j
theorem RdG.below {gr : Nat} {ix iv : Value} {w w' : World} (h : Below w.heap.size w w') : RdG gr ix iv w ix iv w' := ⟨mut_below h _, fun _ h => Or.inl h, fun _ h => Or.inl h⟩
theorem RdG.trans {gr : Nat} {ix iv i1 v1 i2 v2 : Value} {w w1 w2 : World} (h : RdG gr ix iv w i1 v1 w1) (k : RdG gr i1 v1 w1 i2 v2 w2) : RdG gr ix iv w i2 v2 w2 :=
  ⟨h.mt.trans (fun j hj e => e.elim Or.inl fun e => Or.inr (e.elim (fun e => Or.inl ((h.li j e).resolve_right (by omega))) fun e => Or.inr ((h.lv j e).resolve_right (by omega)))) k.mt,
    fun j hj => (k.li j hj).elim (h.li j) fun e => Or.inr (Nat.le_trans h.mt.size e), fun j hj => (k.lv j hj).elim (h.lv j) fun e => Or.inr (Nat.le_trans h.mt.size e)⟩
theorem RdG.only {gr : Nat} {ix iv : Value} {w w' : World} (h : Only gr w w') : RdG gr ix iv w ix iv w' := ⟨h.mut (Or.inl rfl), fun _ h => Or.inl h, fun _ h => Or.inl h⟩
theorem RdG.addI {gr B : Nat} {ix iv ix' : Value} {w w' : World} (h : Grow B w ix w' ix') : RdG gr ix iv w ix' iv w' :=
  ⟨⟨h.below.os, h.below.tape, h.below.output, h.below.size, fun j hj hn => h.other j (fun e => hn (Or.inr (Or.inl e.symm))) hj⟩, fun j hj => h.lies.elim (fun e => Or.inl (e ▸ hj)) fun e => by rw [e] at hj; cases hj; exact Or.inr (Nat.le_refl _), fun _ h => Or.inl h⟩
theorem RdG.addV {gr B : Nat} {ix iv iv' : Value} {w w' : World} (h : Grow B w iv w' iv') : RdG gr ix iv w ix iv' w' :=
  ⟨⟨h.below.os, h.below.tape, h.below.output, h.below.size, fun j hj hn => h.other j (fun e => hn (Or.inr (Or.inr e.symm))) hj⟩, fun _ h => Or.inl h, fun j hj => h.lies.elim (fun e => Or.inl (e ▸ hj)) fun e => by rw [e] at hj; cases hj; exact Or.inr (Nat.le_refl _)⟩
theorem RdG.blk {gr : Nat} {ix iv ix' iv' : Value} {w w' : World} {g : Nat} {cs : List Value} {t : TypeId} (h : RdG gr ix iv w ix' iv' w') (hb : Blk w g cs t) (h1 : g ≠ gr) (h2 : ix.ownBlock ≠ some g) (h3 : iv.ownBlock ≠ some g) : Blk w' g cs t := h.mt.blk hb fun e => e.elim h1 fun e => e.elim h2 h3
set_option maxHeartbeats 8000000 in
theorem pgLeaf_any (w0 : World) (B gr gm : Nat) (pv : Value) (ps : List By) (k : Nat) (ai av : Option Addr) (ni ci nv cv : Nat) (la lv : List By) (vb : Value) (x u rest way : By) (d : Nat) (w : World) (hI : RrI w0 B gr gm pv ps k (.slice ai ni ci) (.slice av nv cv) la lv w) (hx : x.length = 32) (hu : u.length = 32) (hway : way.length = 32) (hun : (d : Int) ≤ (common x way : Int)) (hR : RdBb B w vb (x ++ (u ++ rest))) (hl : rest.length < 10000) (hla : la.length < 1000000) (hlv : lv.length < 1000000) :
    Calls Tryz.prog 50 #[.pointer (some ⟨gr, 0, none⟩), vb, .agg (cb way).toArray, .int .i64 (d : Int)] w fun e w' => ∃ vr ix' iv', e = .returned (.tuple #[vr, .int .i64 0]) ∧ RdBb B w' vr rest ∧ RrI w0 B gr gm pv ps k ix' iv' (la ++ [x]) (lv ++ [u]) w' ∧ RdG gr (.slice ai ni ci) (.slice av nv cv) w ix' iv' w' := by
  have HX : Hid (x.length = 32) := hx
  have HU : Hid (u.length = 32) := hu
  have HY : Hid (way.length = 32) := hway
  have HUN : Hid (decide ((d : Int) ≤ (common x way : Int)) = true) := decide_eq_true hun
  have HI : Hid (RrI w0 B gr gm pv ps k (.slice ai ni ci) (.slice av nv cv) la lv w) := hI
  have HR : Hid (RdBb B w vb (x ++ (u ++ rest))) := hR
  have HL : Hid (rest.length < 10000 ∧ la.length < 2000000 ∧ lv.length < 2000000) := ⟨hl, by omega, by omega⟩
  have HOW : Hid (∀ j, ((Value.slice ai ni ci).ownBlock = some j ∨ (Value.slice av nv cv).ownBlock = some j) → j < w.heap.size) := fun j hj => hj.elim (fun e => (hI.oi.lt j e).2) fun e => (hI.ov.lt j e).2
  clear hx hu hway hun hI hR hl hla hlv
  go_enter Tryz.func50, Tryz.ntmps50
  have tk0 : Hid True := trivial
  have tk1 : Hid True := trivial
  have tk2 : Hid True := trivial
  have tk3 : Hid True := trivial
  have tk4 : Hid True := trivial
  have tk5 : Hid True := trivial
  have tk6 : Hid True := trivial
  have tk7 : Hid True := trivial
  have tk8 : Hid True := trivial
  have tk9 : Hid True := trivial
  go_wp2_with (first
    | (clear tk0; with_reducible refine wpSeq_boxD (.tmp 2) way ?_ ?_ ?_ ?_
       · rfl
       · rfl
       · rfl
       intro g6 w1 nn
       have H6 : Hid (Blk w1 g6 (cb way) 40 ∧ w.heap.size ≤ w1.heap.size) := ⟨nn.blk, nn.below.size⟩
       have HBW : Hid (Below w.heap.size w w1) := nn.below
       replace HI : Hid (RrI w0 B gr gm pv ps k (.slice ai ni ci) (.slice av nv cv) la lv w1) := HI.out.next nn.below
       replace HR : Hid (RdBb B w1 vb (x ++ (u ++ rest))) := ⟨HR.out.1.below nn.below, HR.out.2⟩
       clear nn)
    | (clear tk1; go_at_call 78; refine (pgCut_any B vb x (u ++ rest) _ HX.out HR.out (by have := HL.out.1; have := HU.out; rw [List.length_append]; omega)).mono ?_; rintro e w2 ⟨v1, rfl, hr, hb⟩
       have HR2 : Hid (RdBb B w2 v1 (u ++ rest)) := hr
       replace H6 : Hid (Blk w2 g6 (cb way) 40 ∧ w.heap.size ≤ w2.heap.size) := ⟨H6.out.1.below hb H6.out.1.lt, Nat.le_trans H6.out.2 hb.size⟩
       replace HBW : Hid (Below w.heap.size w w2) := HBW.out.trans (hb.mono HBW.out.size)
       replace HI : Hid (RrI w0 B gr gm pv ps k (.slice ai ni ci) (.slice av nv cv) la lv w2) := HI.out.next hb
       clear hr hb HR)
    | (clear tk2; with_reducible refine wpSeq_allocD ?_ ?_ ?_
       · rfl
       · rfl
       intro g10 w3 nn
       have HN3 : Hid (Blk w3 g10 (cb zb32) 40 ∧ w2.heap.size ≤ g10 ∧ Below w2.heap.size w2 w3) := ⟨nn.blk, nn.ge, nn.below⟩
       clear nn)
    | (clear tk3; with_reducible refine wpSeq_storeD (.tmp 10) (.tmp 17) g10 zb32 x zb32_len HX.out HN3.out.1 ?_ ?_ ?_ ?_ ?_
       · rfl
       · rfl
       · rfl
       · rfl
       intro w4 h9
       have hb : Below w2.heap.size w2 w4 := HN3.out.2.2.trans (h9.only.below HN3.out.2.1 HN3.out.2.2.size)
       have HG10 : Hid (Blk w4 g10 (cb x) 40 ∧ w.heap.size ≤ g10) := ⟨h9.blk, Nat.le_trans H6.out.2 HN3.out.2.1⟩
       replace H6 : Hid (Blk w4 g6 (cb way) 40 ∧ w.heap.size ≤ w4.heap.size) := ⟨H6.out.1.below hb H6.out.1.lt, Nat.le_trans H6.out.2 hb.size⟩
       replace HBW : Hid (Below w.heap.size w w4) := HBW.out.trans (hb.mono HBW.out.size)
       replace HI : Hid (RrI w0 B gr gm pv ps k (.slice ai ni ci) (.slice av nv cv) la lv w4) := HI.out.next hb
       replace HR2 : Hid (RdBb B w4 v1 (u ++ rest)) := ⟨HR2.out.1.below hb, HR2.out.2⟩
       clear h9 hb HN3)
    | (clear tk4; go_at_call 78; refine (pgCut_any B v1 u rest _ HU.out HR2.out (Nat.lt_trans HL.out.1 (by decide))).mono ?_; rintro e w5 ⟨v3, rfl, hr, hb⟩
       have HR3 : Hid (RdBb B w5 v3 rest) := hr
       replace HG10 : Hid (Blk w5 g10 (cb x) 40 ∧ w.heap.size ≤ g10) := ⟨HG10.out.1.below hb HG10.out.1.lt, HG10.out.2⟩
       replace H6 : Hid (Blk w5 g6 (cb way) 40 ∧ w.heap.size ≤ w5.heap.size) := ⟨H6.out.1.below hb H6.out.1.lt, Nat.le_trans H6.out.2 hb.size⟩
       replace HBW : Hid (Below w.heap.size w w5) := HBW.out.trans (hb.mono HBW.out.size)
       replace HI : Hid (RrI w0 B gr gm pv ps k (.slice ai ni ci) (.slice av nv cv) la lv w5) := HI.out.next hb
       clear hr hb HR2)
    | (clear tk5; with_reducible refine wpSeq_allocD ?_ ?_ ?_
       · rfl
       · rfl
       intro g12 w6 nn
       have HN6 : Hid (Blk w6 g12 (cb zb32) 40 ∧ w5.heap.size ≤ g12 ∧ Below w5.heap.size w5 w6) := ⟨nn.blk, nn.ge, nn.below⟩
       clear nn)
    | (clear tk6; with_reducible refine wpSeq_storeD (.tmp 12) (.tmp 23) g12 zb32 u zb32_len HU.out HN6.out.1 ?_ ?_ ?_ ?_ ?_
       · rfl
       · rfl
       · rfl
       · rfl
       intro w7 h9
       have hb : Below w5.heap.size w5 w7 := HN6.out.2.2.trans (h9.only.below HN6.out.2.1 HN6.out.2.2.size)
       have HG12 : Hid (Blk w7 g12 (cb u) 40 ∧ w.heap.size ≤ g12) := ⟨h9.blk, Nat.le_trans H6.out.2 HN6.out.2.1⟩
       replace H6 : Hid (Blk w7 g6 (cb way) 40 ∧ w.heap.size ≤ w7.heap.size) := ⟨H6.out.1.below hb H6.out.1.lt, Nat.le_trans H6.out.2 hb.size⟩
       replace HBW : Hid (Below w.heap.size w w7) := HBW.out.trans (hb.mono HBW.out.size)
       replace HI : Hid (RrI w0 B gr gm pv ps k (.slice ai ni ci) (.slice av nv cv) la lv w7) := HI.out.next hb
       replace HR3 : Hid (RdBb B w7 v3 rest) := ⟨HR3.out.1.below hb, HR3.out.2⟩
       replace HG10 : Hid (Blk w7 g10 (cb x) 40 ∧ w.heap.size ≤ g10) := ⟨HG10.out.1.below hb HG10.out.1.lt, HG10.out.2⟩
       clear h9 hb HN6)
    | (clear tk7; with_reducible refine wpSeq_loadD (.tmp 10) g10 x HX.out HG10.out.1 ?_ ?_ ?_ ?_
       · rfl
       · rfl
       · rfl
       have HQ1 : Hid True := trivial)
    | (clear tk8; with_reducible refine wpSeq_loadD (.tmp 6) g6 way HY.out H6.out.1 ?_ ?_ ?_ ?_
       · rfl
       · rfl
       · rfl
       have HQ2 : Hid True := trivial)
    | (clear tk9; go_at_call 79; refine (pUnder_any x way HX.out HY.out (d : Int) _).mono ?_; rintro e w8 ⟨rfl, hb⟩
       rw [HUN.out]
       replace HR3 : Hid (RdBb B w8 v3 rest) := ⟨HR3.out.1.below hb, HR3.out.2⟩
       replace HG10 : Hid (Blk w8 g10 (cb x) 40 ∧ w.heap.size ≤ g10) := ⟨HG10.out.1.below hb HG10.out.1.lt, HG10.out.2⟩
       replace HG12 : Hid (Blk w8 g12 (cb u) 40 ∧ w.heap.size ≤ g12) := ⟨HG12.out.1.below hb HG12.out.1.lt, HG12.out.2⟩
       replace HBW : Hid (Below w.heap.size w w8) := HBW.out.trans (hb.mono HBW.out.size)
       replace HI : Hid (RrI w0 B gr gm pv ps k (.slice ai ni ci) (.slice av nv cv) la lv w8) := HI.out.next hb
       clear hb H6))
  have HB1 : Hid (Blk w8.drew g10 (cb x) 40) := HG10.out.1
  have HI1 := HI.out.drew
  have hce : w8.drew.cell? ⟨gr, 3, none⟩ = some (.slice ai ni ci) := HI1.blk.cell 3
  have hyd : Below w8.heap.size w8 w8.drew := (Below.refl _ w8).drew
  have h12d : Blk w8.drew g12 (cb u) 40 := HG12.out.1
  refine wp_region_held_drew (S := fun W => Blk W g10 (cb x) 40) (by kernel_rfl) HB1.out ?_
  intro hS
  obtain ⟨yy, HYY⟩ : ∃ z, z = w8.drew := ⟨_, rfl⟩
  rw [← HYY] at HB1 hS hce HI1 hyd h12d ⊢
  refine wpAnyH_take (i := 0) (v := .pointer (some ⟨gr, 0, none⟩)) rfl (by kernel_rfl) (by kernel_rfl) (by kernel_rfl) (fun _ _ _ h => h) (Or.inl ⟨by rfl, fun wx hx => by simp [go_sem]⟩) hS ?_
  simp only [Act.put, List.getElem_toArray, List.getElem_cons_zero, List.setIfInBounds_toArray, List.set_cons_zero, List.set_cons_succ]
  refine wpAnyH_take (i := 1) (v := .pointer (some ⟨gr, 0, none⟩)) rfl (by kernel_rfl) (by kernel_rfl) (by kernel_rfl) (fun _ _ _ h => h) (Or.inl ⟨by rfl, fun wx hx => by simp [go_sem]⟩) hS ?_
  simp only [Act.put, List.getElem_toArray, List.getElem_cons_succ, List.getElem_cons_zero, List.setIfInBounds_toArray, List.set_cons_zero, List.set_cons_succ]
  refine wpAnyH_take (i := 2) (v := .pointer (some ⟨gr, 0, none⟩)) rfl (by kernel_rfl) (by kernel_rfl) (by kernel_rfl) (fun _ _ _ h => h) (Or.inl ⟨by rfl, fun wx hx => by simp [go_sem]⟩) hS ?_
  simp only [Act.put, List.getElem_toArray, List.getElem_cons_succ, List.getElem_cons_zero, List.setIfInBounds_toArray, List.set_cons_zero, List.set_cons_succ]
  refine wpAnyH_take (i := 3) (v := .pointer (some ⟨gr, 3, none⟩)) rfl (by kernel_rfl) (by kernel_rfl) (by kernel_rfl) (fun _ _ _ h => h) (Or.inl ⟨by rfl, fun wx hx => by simp [go_sem]⟩) hS ?_
  simp only [Act.put, List.getElem_toArray, List.getElem_cons_succ, List.getElem_cons_zero, List.setIfInBounds_toArray, List.set_cons_zero, List.set_cons_succ]
  refine wpAnyH_take (i := 5) (v := .agg (cb x).toArray) rfl (by kernel_rfl) (by kernel_rfl) (by kernel_rfl) (fun _ _ _ h => h) (Or.inl ⟨by rfl, fun wx hx => by exact loadDigest _ g10 x HX.out hx rfl rfl⟩) hS ?_
  simp only [Act.put, List.getElem_toArray, List.getElem_cons_succ, List.getElem_cons_zero, List.setIfInBounds_toArray, List.set_cons_zero, List.set_cons_succ]
  have hbb : Below yy.heap.size yy (yy.alloc (.cells (cb x).toArray 40)) := below_alloc _ _
  have HI2 := HI1.next hbb
  have HU2 : Hid (Blk (yy.alloc (.cells (cb x).toArray 40)) yy.heap.size (cb x) 40) := Blk.new _ _ _
  have hce2 : (yy.alloc (.cells (cb x).toArray 40)).cell? ⟨gr, 3, none⟩ = some (.slice ai ni ci) := HI2.blk.cell 3
  refine wpAnyH_comm 4 6 (.slice ai ni ci) (.slice (some ⟨yy.heap.size, 0, none⟩) 1 1) (yy.alloc (.cells (cb x).toArray 40)) (by kernel_rfl) rfl rfl (by rfl) (by rfl) (by rfl) (by rfl) (by simp [go_sem, hce]) (buildD _ _ _ rfl x HX.out rfl _) (by simp [go_sem, hce2]) (buildD _ _ _ rfl x HX.out rfl _) (by kernel_rfl) (by kernel_rfl) (by rfl) (by rfl) hS (hS.below hbb hS.lt) ?_
  simp only [Act.put, List.getElem_toArray, List.getElem_cons_succ, List.getElem_cons_zero, List.setIfInBounds_toArray, List.set_cons_zero, List.set_cons_succ]
  refine wpAnyH_law 7 (by kernel_rfl) rfl (by rfl) (wp_appendG (.tmp 39) (.tmp 41) B (.slice ai ni ci) _ x yy.heap.size HI2.oi HU2.out HX.out HL.out.2.1 HI2.ge rfl rfl rfl ?_)
  intro zA qA hoA hgA
  obtain ⟨hbq, hI3⟩ := HI2.addI hoA hgA
  have hcq : qA.cell? ⟨gr, 3, none⟩ = some (.slice ai ni ci) := hbq.cell 3
  have hfq : qA.frozen? ⟨gr, 3, none⟩ = false := hbq.frozen 3
  have hso : ∀ (g : Nat) (cs : List Value), w.heap.size ≤ g → Blk yy g cs 40 → g ≠ gr → Blk (qA.setCell ⟨gr, 3, none⟩ zA) g cs 40 ∧ Blk qA g cs 40 := fun g cs hg hb hne => by
    have hb2 : Blk qA g cs 40 := blk_sameP (hb.below hbb hb.lt) (hgA.other g (fun e => by have := HOW.out g (Or.inl e.symm); omega) (hb.below hbb hb.lt).lt)
    exact ⟨hb2.only (Only.setCell (Only.refl gr qA) 3 zA) hne, hb2⟩
  have hgr : ∀ (g : Nat) (cs : List Value), Blk yy g cs 40 → g ≠ gr := fun g cs hb e => by have h1 := HI1.blk; rw [e] at hb; unfold Blk at h1 hb; rw [h1] at hb; simp only [Option.some.injEq, Obj.cells.injEq] at hb; exact absurd hb.2.1 (by decide)
  have hSq := hso g10 _ HG10.out.2 HB1.out (hgr _ _ HB1.out)
  have hG12 := hso g12 _ HG12.out.2 h12d (hgr _ _ h12d)
  have hRq : RdBb B (qA.setCell ⟨gr, 3, none⟩ zA) v3 rest := HR3.out.go ((hyd.mono HI.out.ge).trans ((hbb.mono HI1.ge).trans (hgA.below.trans ((Only.setCell (Only.refl gr qA) 3 zA).below HI1.gg (Nat.le_trans HI2.ge hgA.below.size)))))
  have hRG : RdG gr (.slice ai ni ci) (.slice av nv cv) w8 zA (.slice av nv cv) (qA.setCell ⟨gr, 3, none⟩ zA) := (((RdG.below hyd).trans (RdG.below hbb)).trans (RdG.addI hgA)).trans (RdG.only (Only.setCell (Only.refl gr qA) 3 zA))
  obtain ⟨aZ, cZ, hz⟩ := hoA.slice
  obtain ⟨nZ, HNZ⟩ : ∃ z : Nat, Hid (z = (la ++ [x]).length) := ⟨_, rfl⟩
  rw [← HNZ.out] at hz
  subst hz
  refine ⟨hSq.2, ?_⟩
  simp only [Act.put, List.getElem_toArray, List.getElem_cons_succ, List.getElem_cons_zero, List.setIfInBounds_toArray, List.set_cons_zero, List.set_cons_succ]
  refine wpAnyH_take (i := 8) (v := .pointer (some ⟨gr, 0, none⟩)) rfl (by kernel_rfl) (by kernel_rfl) (by kernel_rfl) (fun _ _ _ h => h) (Or.inl ⟨by rfl, fun wx hx => by simp [go_sem]⟩) hSq.2 ?_
  simp only [Act.put, List.getElem_toArray, List.getElem_cons_succ, List.getElem_cons_zero, List.setIfInBounds_toArray, List.set_cons_zero, List.set_cons_succ]
  refine wpAnyH_take (i := 9) (v := .pointer (some ⟨gr, 3, none⟩)) rfl (by kernel_rfl) (by kernel_rfl) (by kernel_rfl) (fun _ _ _ h => h) (Or.inl ⟨by rfl, fun wx hx => by simp [go_sem]⟩) hSq.2 ?_
  simp only [Act.put, List.getElem_toArray, List.getElem_cons_succ, List.getElem_cons_zero, List.setIfInBounds_toArray, List.set_cons_zero, List.set_cons_succ]
  refine wpAnyH_skip 10 (qA.setCell ⟨gr, 3, none⟩ (.slice aZ nZ cZ)) (by kernel_rfl) rfl (by rfl) (by simp [go_sem, hcq, hfq]) hSq.1 ?_
  simp only [Act.put, List.getElem_toArray, List.getElem_cons_succ, List.getElem_cons_zero]
  refine wpAnyH_done (by kernel_rfl) ?_ _
  have HIN : Hid (∃ w9, w9 = qA.setCell ⟨gr, 3, none⟩ (.slice aZ nZ cZ)) := ⟨_, rfl⟩
  obtain ⟨w9, HW9⟩ := HIN.out
  rw [← HW9] at hI3 hG12 hRq hRG ⊢
  have HRG : Hid (RdG gr (.slice ai ni ci) (.slice av nv cv) w (.slice aZ nZ cZ) (.slice av nv cv) w9) := (RdG.below HBW.out).trans hRG
  replace HI : Hid (RrI w0 B gr gm pv ps k (.slice aZ nZ cZ) (.slice av nv cv) (la ++ [x]) lv w9) := hI3
  replace HG12 : Hid (Blk w9 g12 (cb u) 40 ∧ w.heap.size ≤ g12) := ⟨hG12.1, HG12.out.2⟩
  replace HR3 : Hid (RdBb B w9 v3 rest) := hRq
  clear hRG hI3 hG12 hRq hSq hso hgr hcq hfq hbq hoA hgA hce hce2 hbb HI1 HI2 HU2 HB1 hS HW9 HIN HNZ hyd HYY h12d
  go_wp2_with fail
  have HB1 : Hid (Blk w9.drew g12 (cb u) 40) := HG12.out.1
  have HI1 := HI.out.drew
  have hce : w9.drew.cell? ⟨gr, 4, none⟩ = some (.slice av nv cv) := HI1.blk.cell 4
  have hyd : Below w9.heap.size w9 w9.drew := (Below.refl _ w9).drew
  have h12d : Blk w9.drew g12 (cb u) 40 := HG12.out.1
  refine wp_region_held_drew (S := fun W => Blk W g12 (cb u) 40) (by kernel_rfl) HB1.out ?_
  intro hS
  obtain ⟨yy, HYY⟩ : ∃ z, z = w9.drew := ⟨_, rfl⟩
  rw [← HYY] at HB1 hS hce HI1 hyd h12d ⊢
  refine wpAnyH_take (i := 0) (v := .pointer (some ⟨gr, 0, none⟩)) rfl (by kernel_rfl) (by kernel_rfl) (by kernel_rfl) (fun _ _ _ h => h) (Or.inl ⟨by rfl, fun wx hx => by simp [go_sem]⟩) hS ?_
  simp only [Act.put, List.getElem_toArray, List.getElem_cons_zero, List.setIfInBounds_toArray, List.set_cons_zero, List.set_cons_succ]
  refine wpAnyH_take (i := 1) (v := .pointer (some ⟨gr, 0, none⟩)) rfl (by kernel_rfl) (by kernel_rfl) (by kernel_rfl) (fun _ _ _ h => h) (Or.inl ⟨by rfl, fun wx hx => by simp [go_sem]⟩) hS ?_
  simp only [Act.put, List.getElem_toArray, List.getElem_cons_succ, List.getElem_cons_zero, List.setIfInBounds_toArray, List.set_cons_zero, List.set_cons_succ]
  refine wpAnyH_take (i := 2) (v := .pointer (some ⟨gr, 0, none⟩)) rfl (by kernel_rfl) (by kernel_rfl) (by kernel_rfl) (fun _ _ _ h => h) (Or.inl ⟨by rfl, fun wx hx => by simp [go_sem]⟩) hS ?_
  simp only [Act.put, List.getElem_toArray, List.getElem_cons_succ, List.getElem_cons_zero, List.setIfInBounds_toArray, List.set_cons_zero, List.set_cons_succ]
  refine wpAnyH_take (i := 3) (v := .pointer (some ⟨gr, 4, none⟩)) rfl (by kernel_rfl) (by kernel_rfl) (by kernel_rfl) (fun _ _ _ h => h) (Or.inl ⟨by rfl, fun wx hx => by simp [go_sem]⟩) hS ?_
  simp only [Act.put, List.getElem_toArray, List.getElem_cons_succ, List.getElem_cons_zero, List.setIfInBounds_toArray, List.set_cons_zero, List.set_cons_succ]
  refine wpAnyH_take (i := 5) (v := .agg (cb u).toArray) rfl (by kernel_rfl) (by kernel_rfl) (by kernel_rfl) (fun _ _ _ h => h) (Or.inl ⟨by rfl, fun wx hx => by exact loadDigest _ g12 u HU.out hx rfl rfl⟩) hS ?_
  simp only [Act.put, List.getElem_toArray, List.getElem_cons_succ, List.getElem_cons_zero, List.setIfInBounds_toArray, List.set_cons_zero, List.set_cons_succ]
  have hbb : Below yy.heap.size yy (yy.alloc (.cells (cb u).toArray 40)) := below_alloc _ _
  have HI2 := HI1.next hbb
  have HU2 : Hid (Blk (yy.alloc (.cells (cb u).toArray 40)) yy.heap.size (cb u) 40) := Blk.new _ _ _
  have hce2 : (yy.alloc (.cells (cb u).toArray 40)).cell? ⟨gr, 4, none⟩ = some (.slice av nv cv) := HI2.blk.cell 4
  refine wpAnyH_comm 4 6 (.slice av nv cv) (.slice (some ⟨yy.heap.size, 0, none⟩) 1 1) (yy.alloc (.cells (cb u).toArray 40)) (by kernel_rfl) rfl rfl (by rfl) (by rfl) (by rfl) (by rfl) (by simp [go_sem, hce]) (buildD _ _ _ rfl u HU.out rfl _) (by simp [go_sem, hce2]) (buildD _ _ _ rfl u HU.out rfl _) (by kernel_rfl) (by kernel_rfl) (by rfl) (by rfl) hS (hS.below hbb hS.lt) ?_
  simp only [Act.put, List.getElem_toArray, List.getElem_cons_succ, List.getElem_cons_zero, List.setIfInBounds_toArray, List.set_cons_zero, List.set_cons_succ]
  refine wpAnyH_law 7 (by kernel_rfl) rfl (by rfl) (wp_appendG (.tmp 49) (.tmp 51) B (.slice av nv cv) _ u yy.heap.size HI2.ov HU2.out HU.out HL.out.2.2 HI2.ge rfl rfl rfl ?_)
  intro zA qA hoA hgA
  obtain ⟨hbq, hI3⟩ := HI2.addV hoA hgA
  have hcq : qA.cell? ⟨gr, 4, none⟩ = some (.slice av nv cv) := hbq.cell 4
  have hfq : qA.frozen? ⟨gr, 4, none⟩ = false := hbq.frozen 4
  have hso : ∀ (g : Nat) (cs : List Value), w.heap.size ≤ g → Blk yy g cs 40 → g ≠ gr → Blk (qA.setCell ⟨gr, 4, none⟩ zA) g cs 40 ∧ Blk qA g cs 40 := fun g cs hg hb hne => by
    have hb2 : Blk qA g cs 40 := blk_sameP (hb.below hbb hb.lt) (hgA.other g (fun e => by have := HOW.out g (Or.inr e.symm); omega) (hb.below hbb hb.lt).lt)
    exact ⟨hb2.only (Only.setCell (Only.refl gr qA) 4 zA) hne, hb2⟩
  have hgr : ∀ (g : Nat) (cs : List Value), Blk yy g cs 40 → g ≠ gr := fun g cs hb e => by have h1 := HI1.blk; rw [e] at hb; unfold Blk at h1 hb; rw [h1] at hb; simp only [Option.some.injEq, Obj.cells.injEq] at hb; exact absurd hb.2.1 (by decide)
  have hSq := hso g12 _ HG12.out.2 HB1.out (hgr _ _ HB1.out)
  skip
  have hRq : RdBb B (qA.setCell ⟨gr, 4, none⟩ zA) v3 rest := HR3.out.go ((hyd.mono HI.out.ge).trans ((hbb.mono HI1.ge).trans (hgA.below.trans ((Only.setCell (Only.refl gr qA) 4 zA).below HI1.gg (Nat.le_trans HI2.ge hgA.below.size)))))
  have hRG : RdG gr (.slice aZ nZ cZ) (.slice av nv cv) w9 (.slice aZ nZ cZ) zA (qA.setCell ⟨gr, 4, none⟩ zA) := (((RdG.below hyd).trans (RdG.below hbb)).trans (RdG.addV hgA)).trans (RdG.only (Only.setCell (Only.refl gr qA) 4 zA))
  obtain ⟨aY, cY, hz⟩ := hoA.slice
  obtain ⟨nY, HNY⟩ : ∃ z : Nat, Hid (z = (lv ++ [u]).length) := ⟨_, rfl⟩
  rw [← HNY.out] at hz
  subst hz
  refine ⟨hSq.2, ?_⟩
  simp only [Act.put, List.getElem_toArray, List.getElem_cons_succ, List.getElem_cons_zero, List.setIfInBounds_toArray, List.set_cons_zero, List.set_cons_succ]
  refine wpAnyH_take (i := 8) (v := .pointer (some ⟨gr, 0, none⟩)) rfl (by kernel_rfl) (by kernel_rfl) (by kernel_rfl) (fun _ _ _ h => h) (Or.inl ⟨by rfl, fun wx hx => by simp [go_sem]⟩) hSq.2 ?_
  simp only [Act.put, List.getElem_toArray, List.getElem_cons_succ, List.getElem_cons_zero, List.setIfInBounds_toArray, List.set_cons_zero, List.set_cons_succ]
  refine wpAnyH_take (i := 9) (v := .pointer (some ⟨gr, 4, none⟩)) rfl (by kernel_rfl) (by kernel_rfl) (by kernel_rfl) (fun _ _ _ h => h) (Or.inl ⟨by rfl, fun wx hx => by simp [go_sem]⟩) hSq.2 ?_
  simp only [Act.put, List.getElem_toArray, List.getElem_cons_succ, List.getElem_cons_zero, List.setIfInBounds_toArray, List.set_cons_zero, List.set_cons_succ]
  refine wpAnyH_skip 10 (qA.setCell ⟨gr, 4, none⟩ (.slice aY nY cY)) (by kernel_rfl) rfl (by rfl) (by simp [go_sem, hcq, hfq]) hSq.1 ?_
  simp only [Act.put, List.getElem_toArray, List.getElem_cons_succ, List.getElem_cons_zero]
  refine wpAnyH_done (by kernel_rfl) ?_ _
  go_wp2_with fail
  refine bodyPost_ret (results_tmp2 rfl _ _ _) rfl ?_
  exact ⟨v3, _, _, rfl, hRq, hI3, HRG.out.trans hRG⟩
end Go.Proofs.YtphmmnffgknkcabGreatDoor
namespace Go.Proofs.YtphmmnffgknkcabGreatDoor
open Go.RowKit
set_option maxRecDepth 100000
def Two (Q : Value → Value → World → Prop) (e : Ending) (w' : World) : Prop := ∃ a b, e = .returned (.tuple #[a, b]) ∧ Q a b w'
set_option maxHeartbeats 4000000 in
theorem pgRPiece_none (B gr : Nat) (vb : Value) (rest way : By) (d : Nat) (w : World) (hd : d ≤ 256) (hR : RdBb B w vb (0 :: rest)) :
    Calls Tryz.prog 33 #[.pointer (some ⟨gr, 0, none⟩), vb, .agg (cb way).toArray, .int .i64 (d : Int)] w (Two fun a b w' => b = .int .i64 0 ∧ RdBb B w' a rest ∧ Below w.heap.size w w') := by
  obtain ⟨b, off, c, hv, hc, hbB, hcell⟩ := hR.at (by simp)
  obtain ⟨n, HN⟩ : ∃ n, Hid (n = ((0 : BitVec 8) :: rest).length) := ⟨_, rfl⟩
  rw [← HN.out] at hv hc
  subst hv
  have HN2 : Hid (n = rest.length + 1) := HN.out
  have HR : Hid (RdBb B w (.slice (some ⟨b, off, none⟩) n c) (0 :: rest)) := hR
  have h1 : ¬ (256 : Int) < (d : Int) := by omega
  have h2 : ¬ ((n : Int) = 0) := by have := HN2.out; omega
  have h2' : ((n : Int) == 0) = false := by rw [beq_eq_false_iff_ne]; exact h2
  have l1 : (0 : Int) < (n : Int) := by have := HN2.out; omega
  obtain ⟨o2, HO2⟩ : ∃ o, Hid (o = if c = 1 then off else off + 1) := ⟨_, rfl⟩
  obtain ⟨n2, HM2⟩ : ∃ x, Hid (x = n - 1) := ⟨_, rfl⟩
  obtain ⟨c2, HC2⟩ : ∃ x, Hid (x = c - 1) := ⟨_, rfl⟩
  have hsh := slHiY b off n c 1 (by have := HN2.out; omega)
  rw [← HO2.out, ← HM2.out, ← HC2.out] at hsh
  have hsh : ∀ w : World, (Instr.sliceAt 49 (.slice (some ⟨b, off, none⟩) n c) (some (.int .i64 1)) none none).run Tryz.prog w = .ok (.slice (some ⟨b, o2, none⟩) n2 c2) w := hsh
  have c0 : ∀ W, Below w.heap.size w W → W.cell? ⟨b, off, none⟩ = some (.int .u8 0) := fun W hW => by
    have h := hcell 0 (by simp)
    rw [hW.cell (p := ⟨b, off, none⟩) (block_lt_of_cell h)]
    exact h
  have HC0 : Hid (∀ W, Below w.heap.size w W → W.cell? ⟨b, off, none⟩ = some (.int .u8 0)) := c0
  clear hR hcell c0 hc
  go_enter Tryz.func33, Tryz.ntmps33
  go_wp2_with (with_reducible refine wpSeq_boxD (.tmp 2) way ?_ ?_ ?_ ?_
               · rfl
               · rfl
               · rfl
               intro g6 w1 nn
               have HB1 : Hid (Below w.heap.size w w1) := nn.below
               have c1 : w1.cell? ⟨b, off, none⟩ = some (.int .u8 0) := HC0.out w1 nn.below
               clear nn)
  refine bodyPost_ret (results_tmp2 rfl _ _ _) rfl ?_
  refine ⟨_, _, rfl, rfl, ?_, HB1.out⟩
  have hr : RdBb B w1 (.slice (some ⟨b, off, none⟩) n c) (0 :: rest) := ⟨HR.out.1.below HB1.out, HR.out.2⟩
  have hd := hr.drop 1 o2 (by simp) (fun h => by rw [HO2.out, if_neg (by simp at h; have h3 := HN2.out; have h4 := hr.1; obtain ⟨_, cp, h5, h6, _⟩ := h4; simp only [Value.slice.injEq] at h5; rw [h5.2.2]; simp at h6; omega)])
  show RdBb B w1 (.slice (some ⟨b, o2, none⟩) n2 c2) rest
  rw [HM2.out, HC2.out]
  exact hd
set_option maxHeartbeats 8000000 in
theorem pgRPiece_1 (B gr : Nat) (vb : Value) (tail way : By) (d : Nat) (w : World) (Q : Value → Value → World → Prop) (hd : d ≤ 256) (hway : way.length = 32) (hR : RdBb B w vb (1 :: tail))
    (hC : ∀ v1 W, Below w.heap.size w W → RdBb B W v1 tail → Calls Tryz.prog 50 #[.pointer (some ⟨gr, 0, none⟩), v1, .agg (cb way).toArray, .int .i64 (d : Int)] W (Two Q)) :
    Calls Tryz.prog 33 #[.pointer (some ⟨gr, 0, none⟩), vb, .agg (cb way).toArray, .int .i64 (d : Int)] w (Two Q) := by
  obtain ⟨b, off, c, hv, hc, hbB, hcell⟩ := hR.at (by simp)
  obtain ⟨n, HN⟩ : ∃ n, Hid (n = ((1 : BitVec 8) :: tail).length) := ⟨_, rfl⟩
  rw [← HN.out] at hv hc
  subst hv
  have HN2 : Hid (n = tail.length + 1) := HN.out
  have HR : Hid (RdBb B w (.slice (some ⟨b, off, none⟩) n c) (1 :: tail)) := hR
  have HY : Hid (way.length = 32) := hway
  have HC : Hid (∀ v1 W, Below w.heap.size w W → RdBb B W v1 tail → Calls Tryz.prog 50 #[.pointer (some ⟨gr, 0, none⟩), v1, .agg (cb way).toArray, .int .i64 (d : Int)] W (Two Q)) := hC
  have h1 : ¬ (256 : Int) < (d : Int) := by omega
  have h2 : ¬ ((n : Int) = 0) := by have := HN2.out; omega
  have h2' : ((n : Int) == 0) = false := by rw [beq_eq_false_iff_ne]; exact h2
  have l1 : (0 : Int) < (n : Int) := by have := HN2.out; omega
  obtain ⟨o2, HO2⟩ : ∃ o, Hid (o = if c = 1 then off else off + 1) := ⟨_, rfl⟩
  obtain ⟨n2, HM2⟩ : ∃ x, Hid (x = n - 1) := ⟨_, rfl⟩
  obtain ⟨c2, HC2⟩ : ∃ x, Hid (x = c - 1) := ⟨_, rfl⟩
  have hsh := slHiY b off n c 1 (by have := HN2.out; omega)
  rw [← HO2.out, ← HM2.out, ← HC2.out] at hsh
  have hsh : ∀ w : World, (Instr.sliceAt 49 (.slice (some ⟨b, off, none⟩) n c) (some (.int .i64 1)) none none).run Tryz.prog w = .ok (.slice (some ⟨b, o2, none⟩) n2 c2) w := hsh
  have HT : Hid (∀ W, Below w.heap.size w W → RdBb B W (.slice (some ⟨b, o2, none⟩) n2 c2) tail) := fun W hW => by
    have hr : RdBb B W (.slice (some ⟨b, off, none⟩) n c) (1 :: tail) := ⟨HR.out.1.below hW, HR.out.2⟩
    have hd := hr.drop 1 o2 (by simp) (fun h => by rw [HO2.out, if_neg (by simp at h; have h3 := HN2.out; have h4 := hr.1; obtain ⟨_, cp, h5, h6, _⟩ := h4; simp only [Value.slice.injEq] at h5; rw [h5.2.2]; simp at h6; omega)])
    rw [HM2.out, HC2.out]
    exact hd
  have HC0 : Hid (∀ W, Below w.heap.size w W → W.cell? ⟨b, off, none⟩ = some (.int .u8 1)) := fun W hW => by
    have h := hcell 0 (by simp)
    rw [hW.cell (p := ⟨b, off, none⟩) (block_lt_of_cell h)]
    exact h
  clear hR hcell hc hC hway
  go_enter Tryz.func33, Tryz.ntmps33
  go_wp2_with (with_reducible refine wpSeq_boxD (.tmp 2) way ?_ ?_ ?_ ?_
               · rfl
               · rfl
               · rfl
               intro g6 w1 nn
               have HB1 : Hid (Below w.heap.size w w1) := nn.below
               have HG6 : Hid (Blk w1 g6 (cb way) 40) := nn.blk
               have c1 : w1.cell? ⟨b, off, none⟩ = some (.int .u8 1) := HC0.out w1 nn.below
               clear nn)
  have HG7 : Hid (Blk w1.drew g6 (cb way) 40) := HG6.out
  refine wp_region_held_drew (S := fun _ => True) (by kernel_rfl) trivial ?_
  intro hS
  refine wpAnyH_take (i := 0) (v := .pointer (some ⟨gr, 0, none⟩)) rfl (by kernel_rfl) (by kernel_rfl) (by kernel_rfl) (fun _ _ _ h => h) (Or.inl ⟨by rfl, fun wx hx => by simp [go_sem]⟩) hS ?_
  simp only [Act.put, List.getElem_toArray, List.getElem_cons_zero, List.setIfInBounds_toArray, List.set_cons_zero, List.set_cons_succ]
  refine wpAnyH_take (i := 1) (v := .slice (some ⟨b, off, none⟩) n c) rfl (by kernel_rfl) (by kernel_rfl) (by kernel_rfl) (fun _ _ _ h => h) (Or.inl ⟨by rfl, fun wx hx => by simp [go_sem]⟩) hS ?_
  simp only [Act.put, List.getElem_toArray, List.getElem_cons_succ, List.getElem_cons_zero, List.setIfInBounds_toArray, List.set_cons_zero, List.set_cons_succ]
  refine wpAnyH_take (i := 2) (v := .slice (some ⟨b, o2, none⟩) n2 c2) rfl (by kernel_rfl) (by kernel_rfl) (by kernel_rfl) (fun _ _ _ h => h) (Or.inl ⟨by rfl, fun wx hx => by simp [execOp, Act.eval, hsh]⟩) hS ?_
  simp only [Act.put, List.getElem_toArray, List.getElem_cons_succ, List.getElem_cons_zero, List.setIfInBounds_toArray, List.set_cons_zero, List.set_cons_succ]
  refine wpAnyH_take (i := 4) (v := .int .i64 (d : Int)) rfl (by kernel_rfl) (by kernel_rfl) (by kernel_rfl) (fun _ _ _ h => h) (Or.inl ⟨by rfl, fun wx hx => by simp [go_sem]⟩) hS ?_
  simp only [Act.put, List.getElem_toArray, List.getElem_cons_succ, List.getElem_cons_zero, List.setIfInBounds_toArray, List.set_cons_zero, List.set_cons_succ]
  refine wpAnyH_step 3 (.agg (cb way).toArray) w1.drew (by kernel_rfl) rfl (by rfl) (loadDigest _ g6 way HY.out HG7.out rfl rfl) hS ?_
  simp only [Act.put, List.getElem_toArray, List.getElem_cons_succ, List.getElem_cons_zero, List.setIfInBounds_toArray, List.set_cons_zero, List.set_cons_succ]
  refine wpAnyH_enter 5 (by kernel_rfl) rfl (by rfl) (f := 50) (args := #[.pointer (some ⟨gr, 0, none⟩), .slice (some ⟨b, o2, none⟩) n2 c2, .agg (cb way).toArray, .int .i64 (d : Int)]) (by simp [go_sem]) (HC.out _ _ (HB1.out.drew) (HT.out _ (HB1.out.drew))) ?_
  rintro e wz ⟨va, ve, rfl, hq⟩
  refine ⟨_, rfl, trivial, ?_⟩
  have HQ : Hid (Q va ve wz) := hq
  clear hq
  simp only [Act.put, List.getElem_toArray, List.getElem_cons_succ, List.getElem_cons_zero, List.setIfInBounds_toArray, List.set_cons_zero, List.set_cons_succ]
  refine wpAnyH_take (i := 6) (v := va) rfl (by kernel_rfl) (by kernel_rfl) (by kernel_rfl) (fun _ _ _ h => h) (Or.inl ⟨by rfl, fun wx hx => by simp [go_sem]⟩) hS ?_
  simp only [Act.put, List.getElem_toArray, List.getElem_cons_succ, List.getElem_cons_zero, List.setIfInBounds_toArray, List.set_cons_zero, List.set_cons_succ]
  refine wpAnyH_take (i := 7) (v := ve) rfl (by kernel_rfl) (by kernel_rfl) (by kernel_rfl) (fun _ _ _ h => h) (Or.inl ⟨by rfl, fun wx hx => by simp [go_sem]⟩) hS ?_
  simp only [Act.put, List.getElem_toArray, List.getElem_cons_succ, List.getElem_cons_zero, List.setIfInBounds_toArray, List.set_cons_zero, List.set_cons_succ]
  refine wpAnyH_take (i := 8) (v := va) rfl (by kernel_rfl) (by kernel_rfl) (by kernel_rfl) (fun _ _ _ h => h) (Or.inl ⟨by rfl, fun wx hx => by simp [go_sem]⟩) hS ?_
  simp only [Act.put, List.getElem_toArray, List.getElem_cons_succ, List.getElem_cons_zero, List.setIfInBounds_toArray, List.set_cons_zero, List.set_cons_succ]
  refine wpAnyH_take (i := 9) (v := ve) rfl (by kernel_rfl) (by kernel_rfl) (by kernel_rfl) (fun _ _ _ h => h) (Or.inl ⟨by rfl, fun wx hx => by simp [go_sem]⟩) hS ?_
  simp only [Act.put, List.getElem_toArray, List.getElem_cons_succ, List.getElem_cons_zero, List.setIfInBounds_toArray, List.set_cons_zero, List.set_cons_succ]
  refine wpAnyH_done (by kernel_rfl) ?_ _
  go_wp2_with fail
  refine bodyPost_ret (results_tmp2 rfl _ _ _) rfl ?_
  exact ⟨va, ve, rfl, HQ.out⟩
set_option maxHeartbeats 8000000 in
theorem pgRPiece_2 (B gr : Nat) (vb : Value) (tail way : By) (d : Nat) (w : World) (Q : Value → Value → World → Prop) (hd : d ≤ 256) (hway : way.length = 32) (hR : RdBb B w vb (2 :: tail))
    (hC : ∀ v1 W, Below w.heap.size w W → RdBb B W v1 tail → Calls Tryz.prog 51 #[.pointer (some ⟨gr, 0, none⟩), v1, .agg (cb way).toArray, .int .i64 (d : Int)] W (Two Q)) :
    Calls Tryz.prog 33 #[.pointer (some ⟨gr, 0, none⟩), vb, .agg (cb way).toArray, .int .i64 (d : Int)] w (Two Q) := by
  obtain ⟨b, off, c, hv, hc, hbB, hcell⟩ := hR.at (by simp)
  obtain ⟨n, HN⟩ : ∃ n, Hid (n = ((2 : BitVec 8) :: tail).length) := ⟨_, rfl⟩
  rw [← HN.out] at hv hc
  subst hv
  have HN2 : Hid (n = tail.length + 1) := HN.out
  have HR : Hid (RdBb B w (.slice (some ⟨b, off, none⟩) n c) (2 :: tail)) := hR
  have HY : Hid (way.length = 32) := hway
  have HC : Hid (∀ v1 W, Below w.heap.size w W → RdBb B W v1 tail → Calls Tryz.prog 51 #[.pointer (some ⟨gr, 0, none⟩), v1, .agg (cb way).toArray, .int .i64 (d : Int)] W (Two Q)) := hC
  have h1 : ¬ (256 : Int) < (d : Int) := by omega
  have h2 : ¬ ((n : Int) = 0) := by have := HN2.out; omega
  have h2' : ((n : Int) == 0) = false := by rw [beq_eq_false_iff_ne]; exact h2
  have l1 : (0 : Int) < (n : Int) := by have := HN2.out; omega
  obtain ⟨o2, HO2⟩ : ∃ o, Hid (o = if c = 1 then off else off + 1) := ⟨_, rfl⟩
  obtain ⟨n2, HM2⟩ : ∃ x, Hid (x = n - 1) := ⟨_, rfl⟩
  obtain ⟨c2, HC2⟩ : ∃ x, Hid (x = c - 1) := ⟨_, rfl⟩
  have hsh := slHiY b off n c 1 (by have := HN2.out; omega)
  rw [← HO2.out, ← HM2.out, ← HC2.out] at hsh
  have hsh : ∀ w : World, (Instr.sliceAt 49 (.slice (some ⟨b, off, none⟩) n c) (some (.int .i64 1)) none none).run Tryz.prog w = .ok (.slice (some ⟨b, o2, none⟩) n2 c2) w := hsh
  have HT : Hid (∀ W, Below w.heap.size w W → RdBb B W (.slice (some ⟨b, o2, none⟩) n2 c2) tail) := fun W hW => by
    have hr : RdBb B W (.slice (some ⟨b, off, none⟩) n c) (2 :: tail) := ⟨HR.out.1.below hW, HR.out.2⟩
    have hd := hr.drop 1 o2 (by simp) (fun h => by rw [HO2.out, if_neg (by simp at h; have h3 := HN2.out; have h4 := hr.1; obtain ⟨_, cp, h5, h6, _⟩ := h4; simp only [Value.slice.injEq] at h5; rw [h5.2.2]; simp at h6; omega)])
    rw [HM2.out, HC2.out]
    exact hd
  have HC0 : Hid (∀ W, Below w.heap.size w W → W.cell? ⟨b, off, none⟩ = some (.int .u8 2)) := fun W hW => by
    have h := hcell 0 (by simp)
    rw [hW.cell (p := ⟨b, off, none⟩) (block_lt_of_cell h)]
    exact h
  clear hR hcell hc hC hway
  go_enter Tryz.func33, Tryz.ntmps33
  go_wp2_with (with_reducible refine wpSeq_boxD (.tmp 2) way ?_ ?_ ?_ ?_
               · rfl
               · rfl
               · rfl
               intro g6 w1 nn
               have HB1 : Hid (Below w.heap.size w w1) := nn.below
               have HG6 : Hid (Blk w1 g6 (cb way) 40) := nn.blk
               have c1 : w1.cell? ⟨b, off, none⟩ = some (.int .u8 2) := HC0.out w1 nn.below
               clear nn)
  have HG7 : Hid (Blk w1.drew g6 (cb way) 40) := HG6.out
  refine wp_region_held_drew (S := fun _ => True) (by kernel_rfl) trivial ?_
  intro hS
  refine wpAnyH_take (i := 0) (v := .pointer (some ⟨gr, 0, none⟩)) rfl (by kernel_rfl) (by kernel_rfl) (by kernel_rfl) (fun _ _ _ h => h) (Or.inl ⟨by rfl, fun wx hx => by simp [go_sem]⟩) hS ?_
  simp only [Act.put, List.getElem_toArray, List.getElem_cons_zero, List.setIfInBounds_toArray, List.set_cons_zero, List.set_cons_succ]
  refine wpAnyH_take (i := 1) (v := .slice (some ⟨b, off, none⟩) n c) rfl (by kernel_rfl) (by kernel_rfl) (by kernel_rfl) (fun _ _ _ h => h) (Or.inl ⟨by rfl, fun wx hx => by simp [go_sem]⟩) hS ?_
  simp only [Act.put, List.getElem_toArray, List.getElem_cons_succ, List.getElem_cons_zero, List.setIfInBounds_toArray, List.set_cons_zero, List.set_cons_succ]
  refine wpAnyH_take (i := 2) (v := .slice (some ⟨b, o2, none⟩) n2 c2) rfl (by kernel_rfl) (by kernel_rfl) (by kernel_rfl) (fun _ _ _ h => h) (Or.inl ⟨by rfl, fun wx hx => by simp [execOp, Act.eval, hsh]⟩) hS ?_
  simp only [Act.put, List.getElem_toArray, List.getElem_cons_succ, List.getElem_cons_zero, List.setIfInBounds_toArray, List.set_cons_zero, List.set_cons_succ]
  refine wpAnyH_take (i := 4) (v := .int .i64 (d : Int)) rfl (by kernel_rfl) (by kernel_rfl) (by kernel_rfl) (fun _ _ _ h => h) (Or.inl ⟨by rfl, fun wx hx => by simp [go_sem]⟩) hS ?_
  simp only [Act.put, List.getElem_toArray, List.getElem_cons_succ, List.getElem_cons_zero, List.setIfInBounds_toArray, List.set_cons_zero, List.set_cons_succ]
  refine wpAnyH_step 3 (.agg (cb way).toArray) w1.drew (by kernel_rfl) rfl (by rfl) (loadDigest _ g6 way HY.out HG7.out rfl rfl) hS ?_
  simp only [Act.put, List.getElem_toArray, List.getElem_cons_succ, List.getElem_cons_zero, List.setIfInBounds_toArray, List.set_cons_zero, List.set_cons_succ]
  refine wpAnyH_enter 5 (by kernel_rfl) rfl (by rfl) (f := 51) (args := #[.pointer (some ⟨gr, 0, none⟩), .slice (some ⟨b, o2, none⟩) n2 c2, .agg (cb way).toArray, .int .i64 (d : Int)]) (by simp [go_sem]) (HC.out _ _ (HB1.out.drew) (HT.out _ (HB1.out.drew))) ?_
  rintro e wz ⟨va, ve, rfl, hq⟩
  refine ⟨_, rfl, trivial, ?_⟩
  have HQ : Hid (Q va ve wz) := hq
  clear hq
  simp only [Act.put, List.getElem_toArray, List.getElem_cons_succ, List.getElem_cons_zero, List.setIfInBounds_toArray, List.set_cons_zero, List.set_cons_succ]
  refine wpAnyH_take (i := 6) (v := va) rfl (by kernel_rfl) (by kernel_rfl) (by kernel_rfl) (fun _ _ _ h => h) (Or.inl ⟨by rfl, fun wx hx => by simp [go_sem]⟩) hS ?_
  simp only [Act.put, List.getElem_toArray, List.getElem_cons_succ, List.getElem_cons_zero, List.setIfInBounds_toArray, List.set_cons_zero, List.set_cons_succ]
  refine wpAnyH_take (i := 7) (v := ve) rfl (by kernel_rfl) (by kernel_rfl) (by kernel_rfl) (fun _ _ _ h => h) (Or.inl ⟨by rfl, fun wx hx => by simp [go_sem]⟩) hS ?_
  simp only [Act.put, List.getElem_toArray, List.getElem_cons_succ, List.getElem_cons_zero, List.setIfInBounds_toArray, List.set_cons_zero, List.set_cons_succ]
  refine wpAnyH_take (i := 8) (v := va) rfl (by kernel_rfl) (by kernel_rfl) (by kernel_rfl) (fun _ _ _ h => h) (Or.inl ⟨by rfl, fun wx hx => by simp [go_sem]⟩) hS ?_
  simp only [Act.put, List.getElem_toArray, List.getElem_cons_succ, List.getElem_cons_zero, List.setIfInBounds_toArray, List.set_cons_zero, List.set_cons_succ]
  refine wpAnyH_take (i := 9) (v := ve) rfl (by kernel_rfl) (by kernel_rfl) (by kernel_rfl) (fun _ _ _ h => h) (Or.inl ⟨by rfl, fun wx hx => by simp [go_sem]⟩) hS ?_
  simp only [Act.put, List.getElem_toArray, List.getElem_cons_succ, List.getElem_cons_zero, List.setIfInBounds_toArray, List.set_cons_zero, List.set_cons_succ]
  refine wpAnyH_done (by kernel_rfl) ?_ _
  go_wp2_with fail
  refine bodyPost_ret (results_tmp2 rfl _ _ _) rfl ?_
  exact ⟨va, ve, rfl, HQ.out⟩
set_option maxHeartbeats 8000000 in
theorem pgRPiece_3 (B gr : Nat) (vb : Value) (tail way : By) (d : Nat) (w : World) (Q : Value → Value → World → Prop) (hd : d ≤ 256) (hway : way.length = 32) (hR : RdBb B w vb (3 :: tail))
    (hC : ∀ v1 W, Below w.heap.size w W → RdBb B W v1 tail → Calls Tryz.prog 52 #[.pointer (some ⟨gr, 0, none⟩), v1, .agg (cb way).toArray, .int .i64 (d : Int)] W (Two Q)) :
    Calls Tryz.prog 33 #[.pointer (some ⟨gr, 0, none⟩), vb, .agg (cb way).toArray, .int .i64 (d : Int)] w (Two Q) := by
  obtain ⟨b, off, c, hv, hc, hbB, hcell⟩ := hR.at (by simp)
  obtain ⟨n, HN⟩ : ∃ n, Hid (n = ((3 : BitVec 8) :: tail).length) := ⟨_, rfl⟩
  rw [← HN.out] at hv hc
  subst hv
  have HN2 : Hid (n = tail.length + 1) := HN.out
  have HR : Hid (RdBb B w (.slice (some ⟨b, off, none⟩) n c) (3 :: tail)) := hR
  have HY : Hid (way.length = 32) := hway
  have HC : Hid (∀ v1 W, Below w.heap.size w W → RdBb B W v1 tail → Calls Tryz.prog 52 #[.pointer (some ⟨gr, 0, none⟩), v1, .agg (cb way).toArray, .int .i64 (d : Int)] W (Two Q)) := hC
  have h1 : ¬ (256 : Int) < (d : Int) := by omega
  have h2 : ¬ ((n : Int) = 0) := by have := HN2.out; omega
  have h2' : ((n : Int) == 0) = false := by rw [beq_eq_false_iff_ne]; exact h2
  have l1 : (0 : Int) < (n : Int) := by have := HN2.out; omega
  obtain ⟨o2, HO2⟩ : ∃ o, Hid (o = if c = 1 then off else off + 1) := ⟨_, rfl⟩
  obtain ⟨n2, HM2⟩ : ∃ x, Hid (x = n - 1) := ⟨_, rfl⟩
  obtain ⟨c2, HC2⟩ : ∃ x, Hid (x = c - 1) := ⟨_, rfl⟩
  have hsh := slHiY b off n c 1 (by have := HN2.out; omega)
  rw [← HO2.out, ← HM2.out, ← HC2.out] at hsh
  have hsh : ∀ w : World, (Instr.sliceAt 49 (.slice (some ⟨b, off, none⟩) n c) (some (.int .i64 1)) none none).run Tryz.prog w = .ok (.slice (some ⟨b, o2, none⟩) n2 c2) w := hsh
  have HT : Hid (∀ W, Below w.heap.size w W → RdBb B W (.slice (some ⟨b, o2, none⟩) n2 c2) tail) := fun W hW => by
    have hr : RdBb B W (.slice (some ⟨b, off, none⟩) n c) (3 :: tail) := ⟨HR.out.1.below hW, HR.out.2⟩
    have hd := hr.drop 1 o2 (by simp) (fun h => by rw [HO2.out, if_neg (by simp at h; have h3 := HN2.out; have h4 := hr.1; obtain ⟨_, cp, h5, h6, _⟩ := h4; simp only [Value.slice.injEq] at h5; rw [h5.2.2]; simp at h6; omega)])
    rw [HM2.out, HC2.out]
    exact hd
  have HC0 : Hid (∀ W, Below w.heap.size w W → W.cell? ⟨b, off, none⟩ = some (.int .u8 3)) := fun W hW => by
    have h := hcell 0 (by simp)
    rw [hW.cell (p := ⟨b, off, none⟩) (block_lt_of_cell h)]
    exact h
  clear hR hcell hc hC hway
  go_enter Tryz.func33, Tryz.ntmps33
  go_wp2_with (with_reducible refine wpSeq_boxD (.tmp 2) way ?_ ?_ ?_ ?_
               · rfl
               · rfl
               · rfl
               intro g6 w1 nn
               have HB1 : Hid (Below w.heap.size w w1) := nn.below
               have HG6 : Hid (Blk w1 g6 (cb way) 40) := nn.blk
               have c1 : w1.cell? ⟨b, off, none⟩ = some (.int .u8 3) := HC0.out w1 nn.below
               clear nn)
  have HG7 : Hid (Blk w1.drew g6 (cb way) 40) := HG6.out
  refine wp_region_held_drew (S := fun _ => True) (by kernel_rfl) trivial ?_
  intro hS
  refine wpAnyH_take (i := 0) (v := .pointer (some ⟨gr, 0, none⟩)) rfl (by kernel_rfl) (by kernel_rfl) (by kernel_rfl) (fun _ _ _ h => h) (Or.inl ⟨by rfl, fun wx hx => by simp [go_sem]⟩) hS ?_
  simp only [Act.put, List.getElem_toArray, List.getElem_cons_zero, List.setIfInBounds_toArray, List.set_cons_zero, List.set_cons_succ]
  refine wpAnyH_take (i := 1) (v := .slice (some ⟨b, off, none⟩) n c) rfl (by kernel_rfl) (by kernel_rfl) (by kernel_rfl) (fun _ _ _ h => h) (Or.inl ⟨by rfl, fun wx hx => by simp [go_sem]⟩) hS ?_
  simp only [Act.put, List.getElem_toArray, List.getElem_cons_succ, List.getElem_cons_zero, List.setIfInBounds_toArray, List.set_cons_zero, List.set_cons_succ]
  refine wpAnyH_take (i := 2) (v := .slice (some ⟨b, o2, none⟩) n2 c2) rfl (by kernel_rfl) (by kernel_rfl) (by kernel_rfl) (fun _ _ _ h => h) (Or.inl ⟨by rfl, fun wx hx => by simp [execOp, Act.eval, hsh]⟩) hS ?_
  simp only [Act.put, List.getElem_toArray, List.getElem_cons_succ, List.getElem_cons_zero, List.setIfInBounds_toArray, List.set_cons_zero, List.set_cons_succ]
  refine wpAnyH_take (i := 4) (v := .int .i64 (d : Int)) rfl (by kernel_rfl) (by kernel_rfl) (by kernel_rfl) (fun _ _ _ h => h) (Or.inl ⟨by rfl, fun wx hx => by simp [go_sem]⟩) hS ?_
  simp only [Act.put, List.getElem_toArray, List.getElem_cons_succ, List.getElem_cons_zero, List.setIfInBounds_toArray, List.set_cons_zero, List.set_cons_succ]
  refine wpAnyH_step 3 (.agg (cb way).toArray) w1.drew (by kernel_rfl) rfl (by rfl) (loadDigest _ g6 way HY.out HG7.out rfl rfl) hS ?_
  simp only [Act.put, List.getElem_toArray, List.getElem_cons_succ, List.getElem_cons_zero, List.setIfInBounds_toArray, List.set_cons_zero, List.set_cons_succ]
  refine wpAnyH_enter 5 (by kernel_rfl) rfl (by rfl) (f := 52) (args := #[.pointer (some ⟨gr, 0, none⟩), .slice (some ⟨b, o2, none⟩) n2 c2, .agg (cb way).toArray, .int .i64 (d : Int)]) (by simp [go_sem]) (HC.out _ _ (HB1.out.drew) (HT.out _ (HB1.out.drew))) ?_
  rintro e wz ⟨va, ve, rfl, hq⟩
  refine ⟨_, rfl, trivial, ?_⟩
  have HQ : Hid (Q va ve wz) := hq
  clear hq
  simp only [Act.put, List.getElem_toArray, List.getElem_cons_succ, List.getElem_cons_zero, List.setIfInBounds_toArray, List.set_cons_zero, List.set_cons_succ]
  refine wpAnyH_take (i := 6) (v := va) rfl (by kernel_rfl) (by kernel_rfl) (by kernel_rfl) (fun _ _ _ h => h) (Or.inl ⟨by rfl, fun wx hx => by simp [go_sem]⟩) hS ?_
  simp only [Act.put, List.getElem_toArray, List.getElem_cons_succ, List.getElem_cons_zero, List.setIfInBounds_toArray, List.set_cons_zero, List.set_cons_succ]
  refine wpAnyH_take (i := 7) (v := ve) rfl (by kernel_rfl) (by kernel_rfl) (by kernel_rfl) (fun _ _ _ h => h) (Or.inl ⟨by rfl, fun wx hx => by simp [go_sem]⟩) hS ?_
  simp only [Act.put, List.getElem_toArray, List.getElem_cons_succ, List.getElem_cons_zero, List.setIfInBounds_toArray, List.set_cons_zero, List.set_cons_succ]
  refine wpAnyH_take (i := 8) (v := va) rfl (by kernel_rfl) (by kernel_rfl) (by kernel_rfl) (fun _ _ _ h => h) (Or.inl ⟨by rfl, fun wx hx => by simp [go_sem]⟩) hS ?_
  simp only [Act.put, List.getElem_toArray, List.getElem_cons_succ, List.getElem_cons_zero, List.setIfInBounds_toArray, List.set_cons_zero, List.set_cons_succ]
  refine wpAnyH_take (i := 9) (v := ve) rfl (by kernel_rfl) (by kernel_rfl) (by kernel_rfl) (fun _ _ _ h => h) (Or.inl ⟨by rfl, fun wx hx => by simp [go_sem]⟩) hS ?_
  simp only [Act.put, List.getElem_toArray, List.getElem_cons_succ, List.getElem_cons_zero, List.setIfInBounds_toArray, List.set_cons_zero, List.set_cons_succ]
  refine wpAnyH_done (by kernel_rfl) ?_ _
  go_wp2_with fail
  refine bodyPost_ret (results_tmp2 rfl _ _ _) rfl ?_
  exact ⟨va, ve, rfl, HQ.out⟩
set_option maxHeartbeats 4000000 in
theorem pgSides_no (gr : Nat) (vb : Value) (way : By) (d : Nat) (w : World) (P : World → Prop) (hd : d ≤ 256) (hway : way.length = 32)
    (hA : ∀ W, Below w.heap.size w W → Calls Tryz.prog 33 #[.pointer (some ⟨gr, 0, none⟩), vb, .agg (cb way).toArray, .int .i64 ((d + 1 : Nat) : Int)] W (Two fun _ b w' => b = .int .i64 7 ∧ P w')) :
    Calls Tryz.prog 51 #[.pointer (some ⟨gr, 0, none⟩), vb, .agg (cb way).toArray, .int .i64 (d : Int)] w (Two fun _ b w' => b = .int .i64 7 ∧ P w') := by
  have HY : Hid (way.length = 32) := hway
  obtain ⟨d1, HD1⟩ : ∃ x, Hid (x = d + 1) := ⟨_, rfl⟩
  have rd : IntKind.i64.wrap ((d : Int) + 1) = (d1 : Int) := by rw [IntKind.wrap_i64, HD1.out]; omega
  have HA : Hid (∀ W, Below w.heap.size w W → Calls Tryz.prog 33 #[.pointer (some ⟨gr, 0, none⟩), vb, .agg (cb way).toArray, .int .i64 (d1 : Int)] W (Two fun _ b w' => b = .int .i64 7 ∧ P w')) := by rw [HD1.out]; exact hA
  clear hA hway hd
  go_enter Tryz.func51, Tryz.ntmps51
  have tk0 : Hid True := trivial
  have tk1 : Hid True := trivial
  have tk2 : Hid True := trivial
  go_wp2_with (first
    | (clear tk0; with_reducible refine wpSeq_boxD (.tmp 2) way ?_ ?_ ?_ ?_
       · rfl
       · rfl
       · rfl
       intro g6 w1 nn
       have HB1 : Hid (Below w.heap.size w w1) := nn.below
       have HG6 : Hid (Blk w1 g6 (cb way) 40) := nn.blk
       clear nn)
    | (clear tk1; with_reducible refine wpSeq_loadD (.tmp 6) g6 way HY.out HG6.out ?_ ?_ ?_ ?_
       · rfl
       · rfl
       · rfl
       have HQ1 : Hid True := trivial)
    | (clear tk2; go_at_call 33; refine (HA.out _ HB1.out).mono ?_; rintro e w2 ⟨va, vx, rfl, rfl, hp⟩
       have HP : Hid (P w2) := hp
       clear hp))
  refine bodyPost_ret (results_tmp2 rfl _ _ _) rfl ?_
  exact ⟨_, _, rfl, rfl, HP.out⟩
set_option maxHeartbeats 4000000 in
theorem pgSides_ok (gr : Nat) (vb : Value) (way : By) (d : Nat) (w : World) (P : Value → World → Prop) (Q : Value → Value → World → Prop) (hd : d ≤ 256) (hway : way.length = 32)
    (hA : ∀ W, Below w.heap.size w W → Calls Tryz.prog 33 #[.pointer (some ⟨gr, 0, none⟩), vb, .agg (cb way).toArray, .int .i64 ((d + 1 : Nat) : Int)] W (Two fun a b w' => b = .int .i64 0 ∧ P a w' ∧ ∀ g, w.heap.size ≤ g → Blk W g (cb way) 40 → Blk w' g (cb way) 40))
    (hB : ∀ a w1 W, P a w1 → Below w1.heap.size w1 W → Calls Tryz.prog 33 #[.pointer (some ⟨gr, 0, none⟩), a, .agg (cb (setI way (d : Int) true)).toArray, .int .i64 ((d + 1 : Nat) : Int)] W (Two Q)) :
    Calls Tryz.prog 51 #[.pointer (some ⟨gr, 0, none⟩), vb, .agg (cb way).toArray, .int .i64 (d : Int)] w (Two Q) := by
  have HY : Hid (way.length = 32) := hway
  obtain ⟨d1, HD1⟩ : ∃ x, Hid (x = d + 1) := ⟨_, rfl⟩
  have rd : IntKind.i64.wrap ((d : Int) + 1) = (d1 : Int) := by rw [IntKind.wrap_i64, HD1.out]; omega
  have HA : Hid (∀ W, Below w.heap.size w W → Calls Tryz.prog 33 #[.pointer (some ⟨gr, 0, none⟩), vb, .agg (cb way).toArray, .int .i64 (d1 : Int)] W (Two fun a b w' => b = .int .i64 0 ∧ P a w' ∧ ∀ g, w.heap.size ≤ g → Blk W g (cb way) 40 → Blk w' g (cb way) 40)) := by rw [HD1.out]; exact hA
  obtain ⟨wy, HWY⟩ : ∃ x, Hid (x = setI way (d : Int) true) := ⟨_, rfl⟩
  have HB : Hid (∀ a w1 W, P a w1 → Below w1.heap.size w1 W → Calls Tryz.prog 33 #[.pointer (some ⟨gr, 0, none⟩), a, .agg (cb wy).toArray, .int .i64 (d1 : Int)] W (Two Q)) := by rw [HD1.out, HWY.out]; exact hB
  clear hA hB hway hd
  go_enter Tryz.func51, Tryz.ntmps51
  have tk0 : Hid True := trivial
  have tk1 : Hid True := trivial
  have tk2 : Hid True := trivial
  have tk3 : Hid True := trivial
  have tk4 : Hid True := trivial
  have tk5 : Hid True := trivial
  go_wp2_with (first
    | (clear tk0; with_reducible refine wpSeq_boxD (.tmp 2) way ?_ ?_ ?_ ?_
       · rfl
       · rfl
       · rfl
       intro g6 w1 nn
       have HB1 : Hid (Below w.heap.size w w1) := nn.below
       have HG6 : Hid (Blk w1 g6 (cb way) 40 ∧ w.heap.size ≤ g6) := ⟨nn.blk, nn.ge⟩
       clear nn)
    | (clear tk1; with_reducible refine wpSeq_loadD (.tmp 6) g6 way HY.out HG6.out.1 ?_ ?_ ?_ ?_
       · rfl
       · rfl
       · rfl
       have HQ1 : Hid True := trivial)
    | (clear tk2; go_at_call 33; refine (HA.out _ HB1.out).mono ?_; rintro e w2 ⟨va, vx, rfl, rfl, hp, hg⟩
       have HP : Hid (P va w2) := hp
       have HG7 : Hid (Blk w2 g6 (cb way) 40) := hg g6 HG6.out.2 HG6.out.1
       clear hp hg)
    | (clear tk3; with_reducible refine wpSeq_loadD (.tmp 6) g6 way HY.out HG7.out ?_ ?_ ?_ ?_
       · rfl
       · rfl
       · rfl
       have HQ2 : Hid True := trivial)
    | (clear tk4; go_at_call 80; refine (pSet_any way HY.out (d : Int) true _).mono ?_; rintro e w3 ⟨rfl, hb⟩
       rw [← HWY.out]
       have HB3 : Hid (Below w2.heap.size w2 w3) := hb
       clear hb)
    | (clear tk5; go_at_call 33; refine (HB.out va w2 _ HP.out HB3.out).mono ?_; rintro e w4 ⟨vc, ve, rfl, hq⟩
       have HQ : Hid (Q vc ve w4) := hq
       clear hq))
  refine bodyPost_ret (results_tmp2 rfl _ _ _) rfl ?_
  exact ⟨_, _, rfl, HQ.out⟩
end Go.Proofs.YtphmmnffgknkcabGreatDoor
namespace Go.Proofs.YtphmmnffgknkcabGreatDoor
open Go.RowKit
set_option maxRecDepth 100000
theorem wpSeq_cellI {ops : Array Oper} {Q : Exit → Act → World → Prop} {rest : List Oper} {o : Oper} {a : Act} {w : World} (x y : Operand) (g k : Nat) (cs : List Value) (n : Int) (tb : TypeId) (hk : k < cs.length) (hb : Blk w g cs tb) (ho : o.op = .store 3 x y) (hx : a.eval x = .pointer (some ⟨g, k, none⟩)) (hy : a.eval y = .int .i64 n) (hw : Region.wanted o (yielded ops a.tmps) = true)
    (h : ∀ w', Blk w' g (cs.set k (.int .i64 n)) tb → Only g w w' → wpList Tryz.prog ops Q rest (a.put o.dst undef) w') : wpList Tryz.prog ops Q (o :: rest) a w := by
  have hc : w.cell? ⟨g, k, none⟩ = some cs[k] := by rw [hb.cell, List.getElem?_eq_getElem hk]
  have hf : w.frozen? ⟨g, k, none⟩ = false := hb.frozen k
  have he : (execOp a.eval o).run Tryz.prog w = .ok .skip (w.setCell ⟨g, k, none⟩ (.int .i64 n)) := by
    clear h hw
    generalize a.eval = f at hx hy ⊢
    unfold execOp
    rw [ho]
    simp [go_sem, hx, hy, hc, hf]
  unfold wpList
  simp only [hw, if_true]
  left
  unfold Oper.wp
  rw [he, Oper.upon_skip]
  exact h _ (hb.set k _) (Only.setCell (Only.refl g w) k _)
theorem RdG.belowB {w0 : World} {B gr gm k : Nat} {pv : Value} {ps la lv : List By} {ix iv ix' iv' : Value} {w w' : World} (h : RdG gr ix iv w ix' iv' w') (hi : RrI w0 B gr gm pv ps k ix iv la lv w) : Below B w w' :=
  h.mt.below hi.ge fun j e => e.elim (fun e => e ▸ hi.gg) fun e => e.elim (fun e => (hi.oi.lt j e).1) fun e => (hi.ov.lt j e).1
set_option maxHeartbeats 4000000 in
theorem pgPage_none (w0 : World) (B gr gm : Nat) (ap : Option Addr) (np cp : Nat) (ps : List By) (k : Nat) (ix iv : Value) (la lv : List By) (x way : By) (d : Nat) (w : World) (hI : RrI w0 B gr gm (.slice ap np cp) ps k ix iv la lv w) (hx : x.length = 32) (hp : plK ps ps.length x = none) :
    Calls Tryz.prog 20 #[.pointer (some ⟨gr, 0, none⟩), .agg (cb x).toArray, .agg (cb way).toArray, .int .i64 (d : Int)] w fun e w' => e = .returned (.int .i64 7) ∧ Below w.heap.size w w' := by
  have HI : Hid (RrI w0 B gr gm (.slice ap np cp) ps k ix iv la lv w) := hI
  have HX : Hid (x.length = 32) := hx
  have HPL : Hid (plK ps ps.length x = none) := hp
  clear hI hx hp
  go_enter Tryz.func20, Tryz.ntmps20
  go_upto_region 1 with (first
    | (with_reducible refine wpSeq_boxD (.tmp 1) x ?_ ?_ ?_ ?_
       · rfl
       · rfl
       · rfl
       intro g5 w1 nn
       have HB1 : Hid (Below w.heap.size w w1) := nn.below
       have HG5 : Hid (Blk w1 g5 (cb x) 40) := nn.blk
       clear nn)
    | (with_reducible refine wpSeq_boxD (.tmp 2) way ?_ ?_ ?_ ?_
       · rfl
       · rfl
       · rfl
       intro g6 w2 nn
       have HB2 : Hid (Below w.heap.size w w2) := HB1.out.trans (nn.below.mono HB1.out.size)
       have HG6 : Hid (Blk w2 g6 (cb way) 40) := nn.blk
       replace HG5 : Hid (Blk w2 g5 (cb x) 40) := HG5.out.below nn.below HG5.out.lt
       clear nn))
  have HI2 : Hid (RrI w0 B gr gm (.slice ap np cp) ps k ix iv la lv w2.drew) := (HI.out.next HB2.out).drew
  have HBD : Hid (Below w.heap.size w w2.drew) := HB2.out.drew
  have HG5d : Hid (Blk w2.drew g5 (cb x) 40) := HG5.out
  have HG6d : Hid (Blk w2.drew g6 (cb way) 40) := HG6.out
  refine wp_region_held_drew (S := fun W => W = w2.drew) (by kernel_rfl) rfl ?_
  intro hS
  obtain ⟨y, HY⟩ : ∃ z, z = w2.drew := ⟨_, rfl⟩
  rw [← HY] at HI2 HBD HG5d HG6d hS ⊢
  have hlk := HI2.out.mp.look HX.out
  have hc1 : y.cell? ⟨gr, 1, none⟩ = some (.map (some gm)) := HI2.out.blk.cell 1
  rw [HPL.out] at hlk
  have hlk : (Instr.lookup 53 (.map (some gm)) (.agg (cb x).toArray) true).run Tryz.prog y = .ok (.tuple #[.int .i64 0, .bool false]) y := hlk
  refine wpAnyH_take (i := 0) (v := .pointer (some ⟨gr, 0, none⟩)) rfl (by kernel_rfl) (by kernel_rfl) (by kernel_rfl) (fun _ _ _ h => h) (Or.inl ⟨by rfl, fun wx hx => by simp [go_sem]⟩) hS ?_
  simp only [Act.put, List.getElem_toArray, List.getElem_cons_zero, List.setIfInBounds_toArray, List.set_cons_zero, List.set_cons_succ]
  refine wpAnyH_take (i := 1) (v := .pointer (some ⟨gr, 0, none⟩)) rfl (by kernel_rfl) (by kernel_rfl) (by kernel_rfl) (fun _ _ _ h => h) (Or.inl ⟨by rfl, fun wx hx => by simp [go_sem]⟩) hS ?_
  simp only [Act.put, List.getElem_toArray, List.getElem_cons_succ, List.getElem_cons_zero, List.setIfInBounds_toArray, List.set_cons_zero, List.set_cons_succ]
  refine wpAnyH_take (i := 2) (v := .pointer (some ⟨gr, 1, none⟩)) rfl (by kernel_rfl) (by kernel_rfl) (by kernel_rfl) (fun _ _ _ h => h) (Or.inl ⟨by rfl, fun wx hx => by simp [go_sem]⟩) hS ?_
  simp only [Act.put, List.getElem_toArray, List.getElem_cons_succ, List.getElem_cons_zero, List.setIfInBounds_toArray, List.set_cons_zero, List.set_cons_succ]
  refine wpAnyH_take (i := 3) (v := .map (some gm)) rfl (by kernel_rfl) (by kernel_rfl) (by kernel_rfl) (fun _ _ _ h => h) (Or.inl ⟨by rfl, fun wx hx => by (rw [hx]; simp [go_sem, hc1])⟩) hS ?_
  simp only [Act.put, List.getElem_toArray, List.getElem_cons_succ, List.getElem_cons_zero, List.setIfInBounds_toArray, List.set_cons_zero, List.set_cons_succ]
  refine wpAnyH_take (i := 4) (v := .agg (cb x).toArray) rfl (by kernel_rfl) (by kernel_rfl) (by kernel_rfl) (fun _ _ _ h => h) (Or.inl ⟨by rfl, fun wx hx => by (rw [hx]; exact loadDigest _ g5 x HX.out HG5d.out rfl rfl)⟩) hS ?_
  simp only [Act.put, List.getElem_toArray, List.getElem_cons_succ, List.getElem_cons_zero, List.setIfInBounds_toArray, List.set_cons_zero, List.set_cons_succ]
  refine wpAnyH_take (i := 5) (v := .tuple #[.int .i64 0, .bool false]) rfl (by kernel_rfl) (by kernel_rfl) (by kernel_rfl) (fun _ _ _ h => h) (Or.inl ⟨by rfl, fun wx hx => by (rw [hx]; simp [execOp, Act.eval, hlk])⟩) hS ?_
  simp only [Act.put, List.getElem_toArray, List.getElem_cons_succ, List.getElem_cons_zero, List.setIfInBounds_toArray, List.set_cons_zero, List.set_cons_succ]
  refine wpAnyH_take (i := 6) (v := .tuple #[.int .i64 0, .bool false]) rfl (by kernel_rfl) (by kernel_rfl) (by kernel_rfl) (fun _ _ _ h => h) (Or.inl ⟨by rfl, fun wx hx => by simp [go_sem]⟩) hS ?_
  simp only [Act.put, List.getElem_toArray, List.getElem_cons_succ, List.getElem_cons_zero, List.setIfInBounds_toArray, List.set_cons_zero, List.set_cons_succ]
  refine wpAnyH_take (i := 7) (v := .int .i64 0) rfl (by kernel_rfl) (by kernel_rfl) (by kernel_rfl) (fun _ _ _ h => h) (Or.inl ⟨by rfl, fun wx hx => by simp [go_sem]⟩) hS ?_
  simp only [Act.put, List.getElem_toArray, List.getElem_cons_succ, List.getElem_cons_zero, List.setIfInBounds_toArray, List.set_cons_zero, List.set_cons_succ]
  refine wpAnyH_take (i := 8) (v := .bool false) rfl (by kernel_rfl) (by kernel_rfl) (by kernel_rfl) (fun _ _ _ h => h) (Or.inl ⟨by rfl, fun wx hx => by simp [go_sem]⟩) hS ?_
  simp only [Act.put, List.getElem_toArray, List.getElem_cons_succ, List.getElem_cons_zero, List.setIfInBounds_toArray, List.set_cons_zero, List.set_cons_succ]
  refine wpAnyH_take (i := 9) (v := .int .i64 0) rfl (by kernel_rfl) (by kernel_rfl) (by kernel_rfl) (fun _ _ _ h => h) (Or.inl ⟨by rfl, fun wx hx => by simp [go_sem]⟩) hS ?_
  simp only [Act.put, List.getElem_toArray, List.getElem_cons_succ, List.getElem_cons_zero, List.setIfInBounds_toArray, List.set_cons_zero, List.set_cons_succ]
  refine wpAnyH_take (i := 10) (v := .bool false) rfl (by kernel_rfl) (by kernel_rfl) (by kernel_rfl) (fun _ _ _ h => h) (Or.inl ⟨by rfl, fun wx hx => by simp [go_sem]⟩) hS ?_
  simp only [Act.put, List.getElem_toArray, List.getElem_cons_succ, List.getElem_cons_zero, List.setIfInBounds_toArray, List.set_cons_zero, List.set_cons_succ]
  refine wpAnyH_done (by kernel_rfl) ?_ _
  clear hlk hc1
  clear HI2 HG5d HG6d hS HY
  go_wp2_with fail
  go_ret
  exact ⟨rfl, HBD.out⟩
set_option maxHeartbeats 8000000 in
theorem pgPage_ok (w0 : World) (B gr gm : Nat) (ap : Option Addr) (np cp : Nat) (ps : List By) (k : Nat) (ix iv : Value) (la lv : List By) (x way : By) (d : Nat) (w : World) (hI : RrI w0 B gr gm (.slice ap np cp) ps k ix iv la lv w) (hx : x.length = 32) (hway : way.length = 32) (i b off : Nat) (vj : Value) (Q : World → Prop) (hp : plK ps ps.length x = some i) (hi : i < np) (hap : ap = some ⟨b, off, none⟩) (hrow : w.cell? ⟨b, off + i, none⟩ = some vj) (hvj : ∃ ad n c, vj = .slice ad n c)
    (hC : ∀ W, Below w.heap.size w W → Calls Tryz.prog 33 #[.pointer (some ⟨gr, 0, none⟩), vj, .agg (cb way).toArray, .int .i64 (d : Int)] W (Two fun a b w' => b = .int .i64 0 ∧ (∃ ad c, a = .slice ad 0 c) ∧ Q w')) :
    Calls Tryz.prog 20 #[.pointer (some ⟨gr, 0, none⟩), .agg (cb x).toArray, .agg (cb way).toArray, .int .i64 (d : Int)] w fun e w' => e = .returned (.int .i64 0) ∧ Q w' := by
  have HI : Hid (RrI w0 B gr gm (.slice ap np cp) ps k ix iv la lv w) := hI
  have HX : Hid (x.length = 32) := hx
  have HYW : Hid (way.length = 32) := hway
  have HPL : Hid (plK ps ps.length x = some i) := hp
  subst hap
  obtain ⟨aj, nj, cj, hvj⟩ := hvj
  subst hvj
  have HROW : Hid (∀ W, Below w.heap.size w W → W.cell? ⟨b, off + i, none⟩ = some (.slice aj nj cj)) := fun W hW => by rw [hW.cell (p := ⟨b, off + i, none⟩) (block_lt_of_cell hrow)]; exact hrow
  have HC : Hid (∀ W, Below w.heap.size w W → Calls Tryz.prog 33 #[.pointer (some ⟨gr, 0, none⟩), .slice aj nj cj, .agg (cb way).toArray, .int .i64 (d : Int)] W (Two fun a b w' => b = .int .i64 0 ∧ (∃ ad c, a = .slice ad 0 c) ∧ Q w')) := hC
  have i0 : (0 : Int) ≤ (i : Int) := by omega
  have i1 : (i : Int) < (np : Int) := by omega
  clear hI hx hp hrow hC hway
  go_enter Tryz.func20, Tryz.ntmps20
  go_upto_region 1 with (first
    | (with_reducible refine wpSeq_boxD (.tmp 1) x ?_ ?_ ?_ ?_
       · rfl
       · rfl
       · rfl
       intro g5 w1 nn
       have HB1 : Hid (Below w.heap.size w w1) := nn.below
       have HG5 : Hid (Blk w1 g5 (cb x) 40) := nn.blk
       clear nn)
    | (with_reducible refine wpSeq_boxD (.tmp 2) way ?_ ?_ ?_ ?_
       · rfl
       · rfl
       · rfl
       intro g6 w2 nn
       have HB2 : Hid (Below w.heap.size w w2) := HB1.out.trans (nn.below.mono HB1.out.size)
       have HG6 : Hid (Blk w2 g6 (cb way) 40) := nn.blk
       replace HG5 : Hid (Blk w2 g5 (cb x) 40) := HG5.out.below nn.below HG5.out.lt
       clear nn))
  have HI2 : Hid (RrI w0 B gr gm (.slice (some ⟨b, off, none⟩) np cp) ps k ix iv la lv w2.drew) := (HI.out.next HB2.out).drew
  have HBD : Hid (Below w.heap.size w w2.drew) := HB2.out.drew
  have HG5d : Hid (Blk w2.drew g5 (cb x) 40) := HG5.out
  have HG6d : Hid (Blk w2.drew g6 (cb way) 40) := HG6.out
  refine wp_region_held_drew (S := fun W => W = w2.drew) (by kernel_rfl) rfl ?_
  intro hS
  obtain ⟨y, HY⟩ : ∃ z, z = w2.drew := ⟨_, rfl⟩
  rw [← HY] at HI2 HBD HG5d HG6d hS ⊢
  have hlk := HI2.out.mp.look HX.out
  have hc1 : y.cell? ⟨gr, 1, none⟩ = some (.map (some gm)) := HI2.out.blk.cell 1
  rw [HPL.out] at hlk
  have hlk : (Instr.lookup 53 (.map (some gm)) (.agg (cb x).toArray) true).run Tryz.prog y = .ok (.tuple #[.int .i64 (i : Int), .bool true]) y := hlk
  refine wpAnyH_take (i := 0) (v := .pointer (some ⟨gr, 0, none⟩)) rfl (by kernel_rfl) (by kernel_rfl) (by kernel_rfl) (fun _ _ _ h => h) (Or.inl ⟨by rfl, fun wx hx => by simp [go_sem]⟩) hS ?_
  simp only [Act.put, List.getElem_toArray, List.getElem_cons_zero, List.setIfInBounds_toArray, List.set_cons_zero, List.set_cons_succ]
  refine wpAnyH_take (i := 1) (v := .pointer (some ⟨gr, 0, none⟩)) rfl (by kernel_rfl) (by kernel_rfl) (by kernel_rfl) (fun _ _ _ h => h) (Or.inl ⟨by rfl, fun wx hx => by simp [go_sem]⟩) hS ?_
  simp only [Act.put, List.getElem_toArray, List.getElem_cons_succ, List.getElem_cons_zero, List.setIfInBounds_toArray, List.set_cons_zero, List.set_cons_succ]
  refine wpAnyH_take (i := 2) (v := .pointer (some ⟨gr, 1, none⟩)) rfl (by kernel_rfl) (by kernel_rfl) (by kernel_rfl) (fun _ _ _ h => h) (Or.inl ⟨by rfl, fun wx hx => by simp [go_sem]⟩) hS ?_
  simp only [Act.put, List.getElem_toArray, List.getElem_cons_succ, List.getElem_cons_zero, List.setIfInBounds_toArray, List.set_cons_zero, List.set_cons_succ]
  refine wpAnyH_take (i := 3) (v := .map (some gm)) rfl (by kernel_rfl) (by kernel_rfl) (by kernel_rfl) (fun _ _ _ h => h) (Or.inl ⟨by rfl, fun wx hx => by (rw [hx]; simp [go_sem, hc1])⟩) hS ?_
  simp only [Act.put, List.getElem_toArray, List.getElem_cons_succ, List.getElem_cons_zero, List.setIfInBounds_toArray, List.set_cons_zero, List.set_cons_succ]
  refine wpAnyH_take (i := 4) (v := .agg (cb x).toArray) rfl (by kernel_rfl) (by kernel_rfl) (by kernel_rfl) (fun _ _ _ h => h) (Or.inl ⟨by rfl, fun wx hx => by (rw [hx]; exact loadDigest _ g5 x HX.out HG5d.out rfl rfl)⟩) hS ?_
  simp only [Act.put, List.getElem_toArray, List.getElem_cons_succ, List.getElem_cons_zero, List.setIfInBounds_toArray, List.set_cons_zero, List.set_cons_succ]
  refine wpAnyH_take (i := 5) (v := .tuple #[.int .i64 (i : Int), .bool true]) rfl (by kernel_rfl) (by kernel_rfl) (by kernel_rfl) (fun _ _ _ h => h) (Or.inl ⟨by rfl, fun wx hx => by (rw [hx]; simp [execOp, Act.eval, hlk])⟩) hS ?_
  simp only [Act.put, List.getElem_toArray, List.getElem_cons_succ, List.getElem_cons_zero, List.setIfInBounds_toArray, List.set_cons_zero, List.set_cons_succ]
  refine wpAnyH_take (i := 6) (v := .tuple #[.int .i64 (i : Int), .bool true]) rfl (by kernel_rfl) (by kernel_rfl) (by kernel_rfl) (fun _ _ _ h => h) (Or.inl ⟨by rfl, fun wx hx => by simp [go_sem]⟩) hS ?_
  simp only [Act.put, List.getElem_toArray, List.getElem_cons_succ, List.getElem_cons_zero, List.setIfInBounds_toArray, List.set_cons_zero, List.set_cons_succ]
  refine wpAnyH_take (i := 7) (v := .int .i64 (i : Int)) rfl (by kernel_rfl) (by kernel_rfl) (by kernel_rfl) (fun _ _ _ h => h) (Or.inl ⟨by rfl, fun wx hx => by simp [go_sem]⟩) hS ?_
  simp only [Act.put, List.getElem_toArray, List.getElem_cons_succ, List.getElem_cons_zero, List.setIfInBounds_toArray, List.set_cons_zero, List.set_cons_succ]
  refine wpAnyH_take (i := 8) (v := .bool true) rfl (by kernel_rfl) (by kernel_rfl) (by kernel_rfl) (fun _ _ _ h => h) (Or.inl ⟨by rfl, fun wx hx => by simp [go_sem]⟩) hS ?_
  simp only [Act.put, List.getElem_toArray, List.getElem_cons_succ, List.getElem_cons_zero, List.setIfInBounds_toArray, List.set_cons_zero, List.set_cons_succ]
  refine wpAnyH_take (i := 9) (v := .int .i64 (i : Int)) rfl (by kernel_rfl) (by kernel_rfl) (by kernel_rfl) (fun _ _ _ h => h) (Or.inl ⟨by rfl, fun wx hx => by simp [go_sem]⟩) hS ?_
  simp only [Act.put, List.getElem_toArray, List.getElem_cons_succ, List.getElem_cons_zero, List.setIfInBounds_toArray, List.set_cons_zero, List.set_cons_succ]
  refine wpAnyH_take (i := 10) (v := .bool true) rfl (by kernel_rfl) (by kernel_rfl) (by kernel_rfl) (fun _ _ _ h => h) (Or.inl ⟨by rfl, fun wx hx => by simp [go_sem]⟩) hS ?_
  simp only [Act.put, List.getElem_toArray, List.getElem_cons_succ, List.getElem_cons_zero, List.setIfInBounds_toArray, List.set_cons_zero, List.set_cons_succ]
  refine wpAnyH_done (by kernel_rfl) ?_ _
  clear hlk hc1
  have HI3 : Hid (RrI w0 B gr gm (.slice (some ⟨b, off, none⟩) np cp) ps k ix iv la lv y.drew) := HI2.out.drew
  have HB3 : Hid (Below w.heap.size w y.drew) := HBD.out.drew
  have HG6e : Hid (Blk y.drew g6 (cb way) 40) := HG6d.out
  have hc0 : y.drew.cell? ⟨gr, 0, none⟩ = some (.slice (some ⟨b, off, none⟩) np cp) := HI3.out.blk.cell 0
  have hcr := HROW.out _ HB3.out
  clear HI2 HG5d HG6d hS HY HI HBD
  go_wp2_with fail
  refine wp_region_held_drew (S := fun _ => True) (by kernel_rfl) trivial ?_
  intro hS
  refine wpAnyH_take (i := 0) (v := .pointer (some ⟨gr, 0, none⟩)) rfl (by kernel_rfl) (by kernel_rfl) (by kernel_rfl) (fun _ _ _ h => h) (Or.inl ⟨by rfl, fun wx hx => by simp [go_sem]⟩) hS ?_
  simp only [Act.put, List.getElem_toArray, List.getElem_cons_zero, List.setIfInBounds_toArray, List.set_cons_zero, List.set_cons_succ]
  refine wpAnyH_take (i := 1) (v := .pointer (some ⟨gr, 0, none⟩)) rfl (by kernel_rfl) (by kernel_rfl) (by kernel_rfl) (fun _ _ _ h => h) (Or.inl ⟨by rfl, fun wx hx => by simp [go_sem]⟩) hS ?_
  simp only [Act.put, List.getElem_toArray, List.getElem_cons_succ, List.getElem_cons_zero, List.setIfInBounds_toArray, List.set_cons_zero, List.set_cons_succ]
  refine wpAnyH_take (i := 2) (v := .pointer (some ⟨gr, 0, none⟩)) rfl (by kernel_rfl) (by kernel_rfl) (by kernel_rfl) (fun _ _ _ h => h) (Or.inl ⟨by rfl, fun wx hx => by simp [go_sem]⟩) hS ?_
  simp only [Act.put, List.getElem_toArray, List.getElem_cons_succ, List.getElem_cons_zero, List.setIfInBounds_toArray, List.set_cons_zero, List.set_cons_succ]
  refine wpAnyH_take (i := 3) (v := .pointer (some ⟨gr, 0, none⟩)) rfl (by kernel_rfl) (by kernel_rfl) (by kernel_rfl) (fun _ _ _ h => h) (Or.inl ⟨by rfl, fun wx hx => by simp [go_sem]⟩) hS ?_
  simp only [Act.put, List.getElem_toArray, List.getElem_cons_succ, List.getElem_cons_zero, List.setIfInBounds_toArray, List.set_cons_zero, List.set_cons_succ]
  refine wpAnyH_take (i := 5) (v := .int .i64 (i : Int)) rfl (by kernel_rfl) (by kernel_rfl) (by kernel_rfl) (fun _ _ _ h => h) (Or.inl ⟨by rfl, fun wx hx => by simp [go_sem]⟩) hS ?_
  simp only [Act.put, List.getElem_toArray, List.getElem_cons_succ, List.getElem_cons_zero, List.setIfInBounds_toArray, List.set_cons_zero, List.set_cons_succ]
  refine wpAnyH_take (i := 9) (v := .int .i64 (d : Int)) rfl (by kernel_rfl) (by kernel_rfl) (by kernel_rfl) (fun _ _ _ h => h) (Or.inl ⟨by rfl, fun wx hx => by simp [go_sem]⟩) hS ?_
  simp only [Act.put, List.getElem_toArray, List.getElem_cons_succ, List.getElem_cons_zero, List.setIfInBounds_toArray, List.set_cons_zero, List.set_cons_succ]
  have hld := fun (a : Act) (o : Oper) (h1 : o.op = .load 40 (.tmp 6)) (h2 : a.eval (.tmp 6) = .pointer (some ⟨g6, 0, none⟩)) => loadDigest (w := y.drew) (.tmp 6) g6 way HYW.out HG6e.out h1 h2
  refine wpAnyH_pair 4 8 (by kernel_rfl) ?_ ?_
  · skip
    refine wpOp_vl 4 (.slice (some ⟨b, off, none⟩) np cp) y.drew rfl (by rfl) (by simp [go_sem, hc0]) ⟨trivial, ?_⟩
    simp only [Act.put, List.getElem_toArray, List.getElem_cons_succ, List.getElem_cons_zero, List.setIfInBounds_toArray, List.set_cons_zero, List.set_cons_succ]
    refine wpAnyH_take (i := 6) (v := .pointer (some ⟨b, off + i, none⟩)) rfl (by kernel_rfl) (by kernel_rfl) (by kernel_rfl) (fun _ _ _ h => h) (Or.inl ⟨by rfl, fun wx hx => by simp [go_sem, i0, i1]⟩) hS ?_
    simp only [Act.put, List.getElem_toArray, List.getElem_cons_succ, List.getElem_cons_zero, List.setIfInBounds_toArray, List.set_cons_zero, List.set_cons_succ]
    refine wpAnyH_comm 7 8 (.slice aj nj cj) (.agg (cb way).toArray) y.drew (by kernel_rfl) rfl rfl (by rfl) (by rfl) (by rfl) (by rfl) (by simp [go_sem, hcr]) (hld _ _ rfl rfl) (by simp [go_sem, hcr]) (hld _ _ rfl rfl) (by kernel_rfl) (by kernel_rfl) (by rfl) (by rfl) trivial trivial ?_
    simp only [Act.put, List.getElem_toArray, List.getElem_cons_succ, List.getElem_cons_zero, List.setIfInBounds_toArray, List.set_cons_zero, List.set_cons_succ]
    refine wpAnyH_enter 10 (by kernel_rfl) rfl (by rfl) (f := 33) (args := #[.pointer (some ⟨gr, 0, none⟩), .slice aj nj cj, .agg (cb way).toArray, .int .i64 (d : Int)]) (by simp [go_sem]) (HC.out _ HB3.out) ?_
    rintro e wz ⟨va, ve, rfl, rfl, ⟨ad, c, rfl⟩, hq⟩
    refine ⟨_, rfl, trivial, ?_⟩
    have HQ : Hid (Q wz) := hq
    clear hq hld hc0 hcr HI3 HG6e
    simp only [Act.put, List.getElem_toArray, List.getElem_cons_succ, List.getElem_cons_zero, List.setIfInBounds_toArray, List.set_cons_zero, List.set_cons_succ]
    refine wpAnyH_take (i := 11) (v := .tuple #[(.slice ad 0 c), .int .i64 0]) rfl (by kernel_rfl) (by kernel_rfl) (by kernel_rfl) (fun _ _ _ h => h) (Or.inl ⟨by rfl, fun wx hx => by simp [go_sem]⟩) hS ?_
    simp only [Act.put, List.getElem_toArray, List.getElem_cons_succ, List.getElem_cons_zero, List.setIfInBounds_toArray, List.set_cons_zero, List.set_cons_succ]
    refine wpAnyH_take (i := 12) (v := (.slice ad 0 c)) rfl (by kernel_rfl) (by kernel_rfl) (by kernel_rfl) (fun _ _ _ h => h) (Or.inl ⟨by rfl, fun wx hx => by simp [go_sem]⟩) hS ?_
    simp only [Act.put, List.getElem_toArray, List.getElem_cons_succ, List.getElem_cons_zero, List.setIfInBounds_toArray, List.set_cons_zero, List.set_cons_succ]
    refine wpAnyH_take (i := 13) (v := .int .i64 0) rfl (by kernel_rfl) (by kernel_rfl) (by kernel_rfl) (fun _ _ _ h => h) (Or.inl ⟨by rfl, fun wx hx => by simp [go_sem]⟩) hS ?_
    simp only [Act.put, List.getElem_toArray, List.getElem_cons_succ, List.getElem_cons_zero, List.setIfInBounds_toArray, List.set_cons_zero, List.set_cons_succ]
    refine wpAnyH_take (i := 14) (v := (.slice ad 0 c)) rfl (by kernel_rfl) (by kernel_rfl) (by kernel_rfl) (fun _ _ _ h => h) (Or.inl ⟨by rfl, fun wx hx => by simp [go_sem]⟩) hS ?_
    simp only [Act.put, List.getElem_toArray, List.getElem_cons_succ, List.getElem_cons_zero, List.setIfInBounds_toArray, List.set_cons_zero, List.set_cons_succ]
    refine wpAnyH_take (i := 15) (v := .int .i64 0) rfl (by kernel_rfl) (by kernel_rfl) (by kernel_rfl) (fun _ _ _ h => h) (Or.inl ⟨by rfl, fun wx hx => by simp [go_sem]⟩) hS ?_
    simp only [Act.put, List.getElem_toArray, List.getElem_cons_succ, List.getElem_cons_zero, List.setIfInBounds_toArray, List.set_cons_zero, List.set_cons_succ]
    refine wpAnyH_done (by kernel_rfl) ?_ _
    go_wp2_with fail
    go_ret
    exact ⟨rfl, HQ.out⟩
  · skip
    refine wpOp_vl 8 (.agg (cb way).toArray) y.drew rfl (by rfl) (hld _ _ rfl rfl) ⟨trivial, ?_⟩
    simp only [Act.put, List.getElem_toArray, List.getElem_cons_succ, List.getElem_cons_zero, List.setIfInBounds_toArray, List.set_cons_zero, List.set_cons_succ]
    refine wpAnyH_step 4 (.slice (some ⟨b, off, none⟩) np cp) y.drew (by kernel_rfl) rfl (by rfl) (by simp [go_sem, hc0]) trivial ?_
    simp only [Act.put, List.getElem_toArray, List.getElem_cons_succ, List.getElem_cons_zero, List.setIfInBounds_toArray, List.set_cons_zero, List.set_cons_succ]
    refine wpAnyH_take (i := 6) (v := .pointer (some ⟨b, off + i, none⟩)) rfl (by kernel_rfl) (by kernel_rfl) (by kernel_rfl) (fun _ _ _ h => h) (Or.inl ⟨by rfl, fun wx hx => by simp [go_sem, i0, i1]⟩) hS ?_
    simp only [Act.put, List.getElem_toArray, List.getElem_cons_succ, List.getElem_cons_zero, List.setIfInBounds_toArray, List.set_cons_zero, List.set_cons_succ]
    refine wpAnyH_step 7 (.slice aj nj cj) y.drew (by kernel_rfl) rfl (by rfl) (by simp [go_sem, hcr]) trivial ?_
    simp only [Act.put, List.getElem_toArray, List.getElem_cons_succ, List.getElem_cons_zero, List.setIfInBounds_toArray, List.set_cons_zero, List.set_cons_succ]
    refine wpAnyH_enter 10 (by kernel_rfl) rfl (by rfl) (f := 33) (args := #[.pointer (some ⟨gr, 0, none⟩), .slice aj nj cj, .agg (cb way).toArray, .int .i64 (d : Int)]) (by simp [go_sem]) (HC.out _ HB3.out) ?_
    rintro e wz ⟨va, ve, rfl, rfl, ⟨ad, c, rfl⟩, hq⟩
    refine ⟨_, rfl, trivial, ?_⟩
    have HQ : Hid (Q wz) := hq
    clear hq hld hc0 hcr HI3 HG6e
    simp only [Act.put, List.getElem_toArray, List.getElem_cons_succ, List.getElem_cons_zero, List.setIfInBounds_toArray, List.set_cons_zero, List.set_cons_succ]
    refine wpAnyH_take (i := 11) (v := .tuple #[(.slice ad 0 c), .int .i64 0]) rfl (by kernel_rfl) (by kernel_rfl) (by kernel_rfl) (fun _ _ _ h => h) (Or.inl ⟨by rfl, fun wx hx => by simp [go_sem]⟩) hS ?_
    simp only [Act.put, List.getElem_toArray, List.getElem_cons_succ, List.getElem_cons_zero, List.setIfInBounds_toArray, List.set_cons_zero, List.set_cons_succ]
    refine wpAnyH_take (i := 12) (v := (.slice ad 0 c)) rfl (by kernel_rfl) (by kernel_rfl) (by kernel_rfl) (fun _ _ _ h => h) (Or.inl ⟨by rfl, fun wx hx => by simp [go_sem]⟩) hS ?_
    simp only [Act.put, List.getElem_toArray, List.getElem_cons_succ, List.getElem_cons_zero, List.setIfInBounds_toArray, List.set_cons_zero, List.set_cons_succ]
    refine wpAnyH_take (i := 13) (v := .int .i64 0) rfl (by kernel_rfl) (by kernel_rfl) (by kernel_rfl) (fun _ _ _ h => h) (Or.inl ⟨by rfl, fun wx hx => by simp [go_sem]⟩) hS ?_
    simp only [Act.put, List.getElem_toArray, List.getElem_cons_succ, List.getElem_cons_zero, List.setIfInBounds_toArray, List.set_cons_zero, List.set_cons_succ]
    refine wpAnyH_take (i := 14) (v := (.slice ad 0 c)) rfl (by kernel_rfl) (by kernel_rfl) (by kernel_rfl) (fun _ _ _ h => h) (Or.inl ⟨by rfl, fun wx hx => by simp [go_sem]⟩) hS ?_
    simp only [Act.put, List.getElem_toArray, List.getElem_cons_succ, List.getElem_cons_zero, List.setIfInBounds_toArray, List.set_cons_zero, List.set_cons_succ]
    refine wpAnyH_take (i := 15) (v := .int .i64 0) rfl (by kernel_rfl) (by kernel_rfl) (by kernel_rfl) (fun _ _ _ h => h) (Or.inl ⟨by rfl, fun wx hx => by simp [go_sem]⟩) hS ?_
    simp only [Act.put, List.getElem_toArray, List.getElem_cons_succ, List.getElem_cons_zero, List.setIfInBounds_toArray, List.set_cons_zero, List.set_cons_succ]
    refine wpAnyH_done (by kernel_rfl) ?_ _
    go_wp2_with fail
    go_ret
    exact ⟨rfl, HQ.out⟩
set_option maxHeartbeats 8000000 in
theorem pgPage_no (w0 : World) (B gr gm : Nat) (ap : Option Addr) (np cp : Nat) (ps : List By) (k : Nat) (ix iv : Value) (la lv : List By) (x way : By) (d : Nat) (w : World) (hI : RrI w0 B gr gm (.slice ap np cp) ps k ix iv la lv w) (hx : x.length = 32) (hway : way.length = 32) (i b off : Nat) (vj : Value) (Q : World → Prop) (hp : plK ps ps.length x = some i) (hi : i < np) (hap : ap = some ⟨b, off, none⟩) (hrow : w.cell? ⟨b, off + i, none⟩ = some vj) (hvj : ∃ ad n c, vj = .slice ad n c)
    (hC : ∀ W, Below w.heap.size w W → Calls Tryz.prog 33 #[.pointer (some ⟨gr, 0, none⟩), vj, .agg (cb way).toArray, .int .i64 (d : Int)] W (Two fun _ b w' => b = .int .i64 7 ∧ (True) ∧ Q w')) :
    Calls Tryz.prog 20 #[.pointer (some ⟨gr, 0, none⟩), .agg (cb x).toArray, .agg (cb way).toArray, .int .i64 (d : Int)] w fun e w' => e = .returned (.int .i64 7) ∧ Q w' := by
  have HI : Hid (RrI w0 B gr gm (.slice ap np cp) ps k ix iv la lv w) := hI
  have HX : Hid (x.length = 32) := hx
  have HYW : Hid (way.length = 32) := hway
  have HPL : Hid (plK ps ps.length x = some i) := hp
  subst hap
  obtain ⟨aj, nj, cj, hvj⟩ := hvj
  subst hvj
  have HROW : Hid (∀ W, Below w.heap.size w W → W.cell? ⟨b, off + i, none⟩ = some (.slice aj nj cj)) := fun W hW => by rw [hW.cell (p := ⟨b, off + i, none⟩) (block_lt_of_cell hrow)]; exact hrow
  have HC : Hid (∀ W, Below w.heap.size w W → Calls Tryz.prog 33 #[.pointer (some ⟨gr, 0, none⟩), .slice aj nj cj, .agg (cb way).toArray, .int .i64 (d : Int)] W (Two fun _ b w' => b = .int .i64 7 ∧ (True) ∧ Q w')) := hC
  have i0 : (0 : Int) ≤ (i : Int) := by omega
  have i1 : (i : Int) < (np : Int) := by omega
  clear hI hx hp hrow hC hway
  go_enter Tryz.func20, Tryz.ntmps20
  go_upto_region 1 with (first
    | (with_reducible refine wpSeq_boxD (.tmp 1) x ?_ ?_ ?_ ?_
       · rfl
       · rfl
       · rfl
       intro g5 w1 nn
       have HB1 : Hid (Below w.heap.size w w1) := nn.below
       have HG5 : Hid (Blk w1 g5 (cb x) 40) := nn.blk
       clear nn)
    | (with_reducible refine wpSeq_boxD (.tmp 2) way ?_ ?_ ?_ ?_
       · rfl
       · rfl
       · rfl
       intro g6 w2 nn
       have HB2 : Hid (Below w.heap.size w w2) := HB1.out.trans (nn.below.mono HB1.out.size)
       have HG6 : Hid (Blk w2 g6 (cb way) 40) := nn.blk
       replace HG5 : Hid (Blk w2 g5 (cb x) 40) := HG5.out.below nn.below HG5.out.lt
       clear nn))
  have HI2 : Hid (RrI w0 B gr gm (.slice (some ⟨b, off, none⟩) np cp) ps k ix iv la lv w2.drew) := (HI.out.next HB2.out).drew
  have HBD : Hid (Below w.heap.size w w2.drew) := HB2.out.drew
  have HG5d : Hid (Blk w2.drew g5 (cb x) 40) := HG5.out
  have HG6d : Hid (Blk w2.drew g6 (cb way) 40) := HG6.out
  refine wp_region_held_drew (S := fun W => W = w2.drew) (by kernel_rfl) rfl ?_
  intro hS
  obtain ⟨y, HY⟩ : ∃ z, z = w2.drew := ⟨_, rfl⟩
  rw [← HY] at HI2 HBD HG5d HG6d hS ⊢
  have hlk := HI2.out.mp.look HX.out
  have hc1 : y.cell? ⟨gr, 1, none⟩ = some (.map (some gm)) := HI2.out.blk.cell 1
  rw [HPL.out] at hlk
  have hlk : (Instr.lookup 53 (.map (some gm)) (.agg (cb x).toArray) true).run Tryz.prog y = .ok (.tuple #[.int .i64 (i : Int), .bool true]) y := hlk
  refine wpAnyH_take (i := 0) (v := .pointer (some ⟨gr, 0, none⟩)) rfl (by kernel_rfl) (by kernel_rfl) (by kernel_rfl) (fun _ _ _ h => h) (Or.inl ⟨by rfl, fun wx hx => by simp [go_sem]⟩) hS ?_
  simp only [Act.put, List.getElem_toArray, List.getElem_cons_zero, List.setIfInBounds_toArray, List.set_cons_zero, List.set_cons_succ]
  refine wpAnyH_take (i := 1) (v := .pointer (some ⟨gr, 0, none⟩)) rfl (by kernel_rfl) (by kernel_rfl) (by kernel_rfl) (fun _ _ _ h => h) (Or.inl ⟨by rfl, fun wx hx => by simp [go_sem]⟩) hS ?_
  simp only [Act.put, List.getElem_toArray, List.getElem_cons_succ, List.getElem_cons_zero, List.setIfInBounds_toArray, List.set_cons_zero, List.set_cons_succ]
  refine wpAnyH_take (i := 2) (v := .pointer (some ⟨gr, 1, none⟩)) rfl (by kernel_rfl) (by kernel_rfl) (by kernel_rfl) (fun _ _ _ h => h) (Or.inl ⟨by rfl, fun wx hx => by simp [go_sem]⟩) hS ?_
  simp only [Act.put, List.getElem_toArray, List.getElem_cons_succ, List.getElem_cons_zero, List.setIfInBounds_toArray, List.set_cons_zero, List.set_cons_succ]
  refine wpAnyH_take (i := 3) (v := .map (some gm)) rfl (by kernel_rfl) (by kernel_rfl) (by kernel_rfl) (fun _ _ _ h => h) (Or.inl ⟨by rfl, fun wx hx => by (rw [hx]; simp [go_sem, hc1])⟩) hS ?_
  simp only [Act.put, List.getElem_toArray, List.getElem_cons_succ, List.getElem_cons_zero, List.setIfInBounds_toArray, List.set_cons_zero, List.set_cons_succ]
  refine wpAnyH_take (i := 4) (v := .agg (cb x).toArray) rfl (by kernel_rfl) (by kernel_rfl) (by kernel_rfl) (fun _ _ _ h => h) (Or.inl ⟨by rfl, fun wx hx => by (rw [hx]; exact loadDigest _ g5 x HX.out HG5d.out rfl rfl)⟩) hS ?_
  simp only [Act.put, List.getElem_toArray, List.getElem_cons_succ, List.getElem_cons_zero, List.setIfInBounds_toArray, List.set_cons_zero, List.set_cons_succ]
  refine wpAnyH_take (i := 5) (v := .tuple #[.int .i64 (i : Int), .bool true]) rfl (by kernel_rfl) (by kernel_rfl) (by kernel_rfl) (fun _ _ _ h => h) (Or.inl ⟨by rfl, fun wx hx => by (rw [hx]; simp [execOp, Act.eval, hlk])⟩) hS ?_
  simp only [Act.put, List.getElem_toArray, List.getElem_cons_succ, List.getElem_cons_zero, List.setIfInBounds_toArray, List.set_cons_zero, List.set_cons_succ]
  refine wpAnyH_take (i := 6) (v := .tuple #[.int .i64 (i : Int), .bool true]) rfl (by kernel_rfl) (by kernel_rfl) (by kernel_rfl) (fun _ _ _ h => h) (Or.inl ⟨by rfl, fun wx hx => by simp [go_sem]⟩) hS ?_
  simp only [Act.put, List.getElem_toArray, List.getElem_cons_succ, List.getElem_cons_zero, List.setIfInBounds_toArray, List.set_cons_zero, List.set_cons_succ]
  refine wpAnyH_take (i := 7) (v := .int .i64 (i : Int)) rfl (by kernel_rfl) (by kernel_rfl) (by kernel_rfl) (fun _ _ _ h => h) (Or.inl ⟨by rfl, fun wx hx => by simp [go_sem]⟩) hS ?_
  simp only [Act.put, List.getElem_toArray, List.getElem_cons_succ, List.getElem_cons_zero, List.setIfInBounds_toArray, List.set_cons_zero, List.set_cons_succ]
  refine wpAnyH_take (i := 8) (v := .bool true) rfl (by kernel_rfl) (by kernel_rfl) (by kernel_rfl) (fun _ _ _ h => h) (Or.inl ⟨by rfl, fun wx hx => by simp [go_sem]⟩) hS ?_
  simp only [Act.put, List.getElem_toArray, List.getElem_cons_succ, List.getElem_cons_zero, List.setIfInBounds_toArray, List.set_cons_zero, List.set_cons_succ]
  refine wpAnyH_take (i := 9) (v := .int .i64 (i : Int)) rfl (by kernel_rfl) (by kernel_rfl) (by kernel_rfl) (fun _ _ _ h => h) (Or.inl ⟨by rfl, fun wx hx => by simp [go_sem]⟩) hS ?_
  simp only [Act.put, List.getElem_toArray, List.getElem_cons_succ, List.getElem_cons_zero, List.setIfInBounds_toArray, List.set_cons_zero, List.set_cons_succ]
  refine wpAnyH_take (i := 10) (v := .bool true) rfl (by kernel_rfl) (by kernel_rfl) (by kernel_rfl) (fun _ _ _ h => h) (Or.inl ⟨by rfl, fun wx hx => by simp [go_sem]⟩) hS ?_
  simp only [Act.put, List.getElem_toArray, List.getElem_cons_succ, List.getElem_cons_zero, List.setIfInBounds_toArray, List.set_cons_zero, List.set_cons_succ]
  refine wpAnyH_done (by kernel_rfl) ?_ _
  clear hlk hc1
  have HI3 : Hid (RrI w0 B gr gm (.slice (some ⟨b, off, none⟩) np cp) ps k ix iv la lv y.drew) := HI2.out.drew
  have HB3 : Hid (Below w.heap.size w y.drew) := HBD.out.drew
  have HG6e : Hid (Blk y.drew g6 (cb way) 40) := HG6d.out
  have hc0 : y.drew.cell? ⟨gr, 0, none⟩ = some (.slice (some ⟨b, off, none⟩) np cp) := HI3.out.blk.cell 0
  have hcr := HROW.out _ HB3.out
  clear HI2 HG5d HG6d hS HY HI HBD
  go_wp2_with fail
  refine wp_region_held_drew (S := fun _ => True) (by kernel_rfl) trivial ?_
  intro hS
  refine wpAnyH_take (i := 0) (v := .pointer (some ⟨gr, 0, none⟩)) rfl (by kernel_rfl) (by kernel_rfl) (by kernel_rfl) (fun _ _ _ h => h) (Or.inl ⟨by rfl, fun wx hx => by simp [go_sem]⟩) hS ?_
  simp only [Act.put, List.getElem_toArray, List.getElem_cons_zero, List.setIfInBounds_toArray, List.set_cons_zero, List.set_cons_succ]
  refine wpAnyH_take (i := 1) (v := .pointer (some ⟨gr, 0, none⟩)) rfl (by kernel_rfl) (by kernel_rfl) (by kernel_rfl) (fun _ _ _ h => h) (Or.inl ⟨by rfl, fun wx hx => by simp [go_sem]⟩) hS ?_
  simp only [Act.put, List.getElem_toArray, List.getElem_cons_succ, List.getElem_cons_zero, List.setIfInBounds_toArray, List.set_cons_zero, List.set_cons_succ]
  refine wpAnyH_take (i := 2) (v := .pointer (some ⟨gr, 0, none⟩)) rfl (by kernel_rfl) (by kernel_rfl) (by kernel_rfl) (fun _ _ _ h => h) (Or.inl ⟨by rfl, fun wx hx => by simp [go_sem]⟩) hS ?_
  simp only [Act.put, List.getElem_toArray, List.getElem_cons_succ, List.getElem_cons_zero, List.setIfInBounds_toArray, List.set_cons_zero, List.set_cons_succ]
  refine wpAnyH_take (i := 3) (v := .pointer (some ⟨gr, 0, none⟩)) rfl (by kernel_rfl) (by kernel_rfl) (by kernel_rfl) (fun _ _ _ h => h) (Or.inl ⟨by rfl, fun wx hx => by simp [go_sem]⟩) hS ?_
  simp only [Act.put, List.getElem_toArray, List.getElem_cons_succ, List.getElem_cons_zero, List.setIfInBounds_toArray, List.set_cons_zero, List.set_cons_succ]
  refine wpAnyH_take (i := 5) (v := .int .i64 (i : Int)) rfl (by kernel_rfl) (by kernel_rfl) (by kernel_rfl) (fun _ _ _ h => h) (Or.inl ⟨by rfl, fun wx hx => by simp [go_sem]⟩) hS ?_
  simp only [Act.put, List.getElem_toArray, List.getElem_cons_succ, List.getElem_cons_zero, List.setIfInBounds_toArray, List.set_cons_zero, List.set_cons_succ]
  refine wpAnyH_take (i := 9) (v := .int .i64 (d : Int)) rfl (by kernel_rfl) (by kernel_rfl) (by kernel_rfl) (fun _ _ _ h => h) (Or.inl ⟨by rfl, fun wx hx => by simp [go_sem]⟩) hS ?_
  simp only [Act.put, List.getElem_toArray, List.getElem_cons_succ, List.getElem_cons_zero, List.setIfInBounds_toArray, List.set_cons_zero, List.set_cons_succ]
  have hld := fun (a : Act) (o : Oper) (h1 : o.op = .load 40 (.tmp 6)) (h2 : a.eval (.tmp 6) = .pointer (some ⟨g6, 0, none⟩)) => loadDigest (w := y.drew) (.tmp 6) g6 way HYW.out HG6e.out h1 h2
  refine wpAnyH_pair 4 8 (by kernel_rfl) ?_ ?_
  · skip
    refine wpOp_vl 4 (.slice (some ⟨b, off, none⟩) np cp) y.drew rfl (by rfl) (by simp [go_sem, hc0]) ⟨trivial, ?_⟩
    simp only [Act.put, List.getElem_toArray, List.getElem_cons_succ, List.getElem_cons_zero, List.setIfInBounds_toArray, List.set_cons_zero, List.set_cons_succ]
    refine wpAnyH_take (i := 6) (v := .pointer (some ⟨b, off + i, none⟩)) rfl (by kernel_rfl) (by kernel_rfl) (by kernel_rfl) (fun _ _ _ h => h) (Or.inl ⟨by rfl, fun wx hx => by simp [go_sem, i0, i1]⟩) hS ?_
    simp only [Act.put, List.getElem_toArray, List.getElem_cons_succ, List.getElem_cons_zero, List.setIfInBounds_toArray, List.set_cons_zero, List.set_cons_succ]
    refine wpAnyH_comm 7 8 (.slice aj nj cj) (.agg (cb way).toArray) y.drew (by kernel_rfl) rfl rfl (by rfl) (by rfl) (by rfl) (by rfl) (by simp [go_sem, hcr]) (hld _ _ rfl rfl) (by simp [go_sem, hcr]) (hld _ _ rfl rfl) (by kernel_rfl) (by kernel_rfl) (by rfl) (by rfl) trivial trivial ?_
    simp only [Act.put, List.getElem_toArray, List.getElem_cons_succ, List.getElem_cons_zero, List.setIfInBounds_toArray, List.set_cons_zero, List.set_cons_succ]
    refine wpAnyH_enter 10 (by kernel_rfl) rfl (by rfl) (f := 33) (args := #[.pointer (some ⟨gr, 0, none⟩), .slice aj nj cj, .agg (cb way).toArray, .int .i64 (d : Int)]) (by simp [go_sem]) (HC.out _ HB3.out) ?_
    rintro e wz ⟨va, ve, rfl, rfl, _, hq⟩
    refine ⟨_, rfl, trivial, ?_⟩
    have HQ : Hid (Q wz) := hq
    clear hq hld hc0 hcr HI3 HG6e
    simp only [Act.put, List.getElem_toArray, List.getElem_cons_succ, List.getElem_cons_zero, List.setIfInBounds_toArray, List.set_cons_zero, List.set_cons_succ]
    refine wpAnyH_take (i := 11) (v := .tuple #[va, .int .i64 7]) rfl (by kernel_rfl) (by kernel_rfl) (by kernel_rfl) (fun _ _ _ h => h) (Or.inl ⟨by rfl, fun wx hx => by simp [go_sem]⟩) hS ?_
    simp only [Act.put, List.getElem_toArray, List.getElem_cons_succ, List.getElem_cons_zero, List.setIfInBounds_toArray, List.set_cons_zero, List.set_cons_succ]
    refine wpAnyH_take (i := 12) (v := va) rfl (by kernel_rfl) (by kernel_rfl) (by kernel_rfl) (fun _ _ _ h => h) (Or.inl ⟨by rfl, fun wx hx => by simp [go_sem]⟩) hS ?_
    simp only [Act.put, List.getElem_toArray, List.getElem_cons_succ, List.getElem_cons_zero, List.setIfInBounds_toArray, List.set_cons_zero, List.set_cons_succ]
    refine wpAnyH_take (i := 13) (v := .int .i64 7) rfl (by kernel_rfl) (by kernel_rfl) (by kernel_rfl) (fun _ _ _ h => h) (Or.inl ⟨by rfl, fun wx hx => by simp [go_sem]⟩) hS ?_
    simp only [Act.put, List.getElem_toArray, List.getElem_cons_succ, List.getElem_cons_zero, List.setIfInBounds_toArray, List.set_cons_zero, List.set_cons_succ]
    refine wpAnyH_take (i := 14) (v := va) rfl (by kernel_rfl) (by kernel_rfl) (by kernel_rfl) (fun _ _ _ h => h) (Or.inl ⟨by rfl, fun wx hx => by simp [go_sem]⟩) hS ?_
    simp only [Act.put, List.getElem_toArray, List.getElem_cons_succ, List.getElem_cons_zero, List.setIfInBounds_toArray, List.set_cons_zero, List.set_cons_succ]
    refine wpAnyH_take (i := 15) (v := .int .i64 7) rfl (by kernel_rfl) (by kernel_rfl) (by kernel_rfl) (fun _ _ _ h => h) (Or.inl ⟨by rfl, fun wx hx => by simp [go_sem]⟩) hS ?_
    simp only [Act.put, List.getElem_toArray, List.getElem_cons_succ, List.getElem_cons_zero, List.setIfInBounds_toArray, List.set_cons_zero, List.set_cons_succ]
    refine wpAnyH_done (by kernel_rfl) ?_ _
    go_wp2_with fail
    go_ret
    exact ⟨rfl, HQ.out⟩
  · skip
    refine wpOp_vl 8 (.agg (cb way).toArray) y.drew rfl (by rfl) (hld _ _ rfl rfl) ⟨trivial, ?_⟩
    simp only [Act.put, List.getElem_toArray, List.getElem_cons_succ, List.getElem_cons_zero, List.setIfInBounds_toArray, List.set_cons_zero, List.set_cons_succ]
    refine wpAnyH_step 4 (.slice (some ⟨b, off, none⟩) np cp) y.drew (by kernel_rfl) rfl (by rfl) (by simp [go_sem, hc0]) trivial ?_
    simp only [Act.put, List.getElem_toArray, List.getElem_cons_succ, List.getElem_cons_zero, List.setIfInBounds_toArray, List.set_cons_zero, List.set_cons_succ]
    refine wpAnyH_take (i := 6) (v := .pointer (some ⟨b, off + i, none⟩)) rfl (by kernel_rfl) (by kernel_rfl) (by kernel_rfl) (fun _ _ _ h => h) (Or.inl ⟨by rfl, fun wx hx => by simp [go_sem, i0, i1]⟩) hS ?_
    simp only [Act.put, List.getElem_toArray, List.getElem_cons_succ, List.getElem_cons_zero, List.setIfInBounds_toArray, List.set_cons_zero, List.set_cons_succ]
    refine wpAnyH_step 7 (.slice aj nj cj) y.drew (by kernel_rfl) rfl (by rfl) (by simp [go_sem, hcr]) trivial ?_
    simp only [Act.put, List.getElem_toArray, List.getElem_cons_succ, List.getElem_cons_zero, List.setIfInBounds_toArray, List.set_cons_zero, List.set_cons_succ]
    refine wpAnyH_enter 10 (by kernel_rfl) rfl (by rfl) (f := 33) (args := #[.pointer (some ⟨gr, 0, none⟩), .slice aj nj cj, .agg (cb way).toArray, .int .i64 (d : Int)]) (by simp [go_sem]) (HC.out _ HB3.out) ?_
    rintro e wz ⟨va, ve, rfl, rfl, _, hq⟩
    refine ⟨_, rfl, trivial, ?_⟩
    have HQ : Hid (Q wz) := hq
    clear hq hld hc0 hcr HI3 HG6e
    simp only [Act.put, List.getElem_toArray, List.getElem_cons_succ, List.getElem_cons_zero, List.setIfInBounds_toArray, List.set_cons_zero, List.set_cons_succ]
    refine wpAnyH_take (i := 11) (v := .tuple #[va, .int .i64 7]) rfl (by kernel_rfl) (by kernel_rfl) (by kernel_rfl) (fun _ _ _ h => h) (Or.inl ⟨by rfl, fun wx hx => by simp [go_sem]⟩) hS ?_
    simp only [Act.put, List.getElem_toArray, List.getElem_cons_succ, List.getElem_cons_zero, List.setIfInBounds_toArray, List.set_cons_zero, List.set_cons_succ]
    refine wpAnyH_take (i := 12) (v := va) rfl (by kernel_rfl) (by kernel_rfl) (by kernel_rfl) (fun _ _ _ h => h) (Or.inl ⟨by rfl, fun wx hx => by simp [go_sem]⟩) hS ?_
    simp only [Act.put, List.getElem_toArray, List.getElem_cons_succ, List.getElem_cons_zero, List.setIfInBounds_toArray, List.set_cons_zero, List.set_cons_succ]
    refine wpAnyH_take (i := 13) (v := .int .i64 7) rfl (by kernel_rfl) (by kernel_rfl) (by kernel_rfl) (fun _ _ _ h => h) (Or.inl ⟨by rfl, fun wx hx => by simp [go_sem]⟩) hS ?_
    simp only [Act.put, List.getElem_toArray, List.getElem_cons_succ, List.getElem_cons_zero, List.setIfInBounds_toArray, List.set_cons_zero, List.set_cons_succ]
    refine wpAnyH_take (i := 14) (v := va) rfl (by kernel_rfl) (by kernel_rfl) (by kernel_rfl) (fun _ _ _ h => h) (Or.inl ⟨by rfl, fun wx hx => by simp [go_sem]⟩) hS ?_
    simp only [Act.put, List.getElem_toArray, List.getElem_cons_succ, List.getElem_cons_zero, List.setIfInBounds_toArray, List.set_cons_zero, List.set_cons_succ]
    refine wpAnyH_take (i := 15) (v := .int .i64 7) rfl (by kernel_rfl) (by kernel_rfl) (by kernel_rfl) (fun _ _ _ h => h) (Or.inl ⟨by rfl, fun wx hx => by simp [go_sem]⟩) hS ?_
    simp only [Act.put, List.getElem_toArray, List.getElem_cons_succ, List.getElem_cons_zero, List.setIfInBounds_toArray, List.set_cons_zero, List.set_cons_succ]
    refine wpAnyH_done (by kernel_rfl) ?_ _
    go_wp2_with fail
    go_ret
    exact ⟨rfl, HQ.out⟩
set_option maxHeartbeats 8000000 in
theorem pgLinked_ok (w0 : World) (B gr gm : Nat) (ap : Option Addr) (np cp : Nat) (ps : List By) (k : Nat) (ai : Option Addr) (ni ci : Nat) (iv : Value) (la lv : List By) (vb : Value) (x rest way : By) (d : Nat) (w : World) (hI : RrI w0 B gr gm (.slice ap np cp) ps k (.slice ai ni ci) iv la lv w) (hni : ni = la.length) (hx : x.length = 32) (hway : way.length = 32) (hR : RdBb B w vb (x ++ rest)) (hl : rest.length < 10000) (hk : k < np) (hnp : np < 1000000) (k2 : Nat) (la2 lv2 : List By) (h2 : la.length + 2 ≤ la2.length) (h3 : la2.length < 1000000) 
    (hC : ∀ W, RrI w0 B gr gm (.slice ap np cp) ps (k + 1) (.slice ai ni ci) iv la lv W → Calls Tryz.prog 20 #[.pointer (some ⟨gr, 0, none⟩), .agg (cb x).toArray, .agg (cb way).toArray, .int .i64 (d : Int)] W fun e w' => e = .returned (.int .i64 0) ∧ ∃ ix' iv', RrI w0 B gr gm (.slice ap np cp) ps k2 ix' iv' la2 lv2 w' ∧ RdG gr (.slice ai ni ci) iv W ix' iv' w') :
    Calls Tryz.prog 52 #[.pointer (some ⟨gr, 0, none⟩), vb, .agg (cb way).toArray, .int .i64 (d : Int)] w (Two fun a b w' => b = .int .i64 0 ∧ RdBb B w' a rest ∧ ∃ ix' iv', RrI w0 B gr gm (.slice ap np cp) ps k2 ix' iv' la2 lv2 w' ∧ RdG gr (.slice ai ni ci) iv w ix' iv' w') := by
  have HI : Hid (RrI w0 B gr gm (.slice ap np cp) ps k (.slice ai ni ci) iv la lv w) := hI
  have HX : Hid (x.length = 32) := hx
  have HY : Hid (way.length = 32) := hway
  have HR : Hid (RdBb B w vb (x ++ rest)) := hR
  have HL : Hid (rest.length < 1000000) := Nat.lt_trans hl (by decide)
  obtain ⟨k1, HK1⟩ : ∃ z, Hid (z = k + 1) := ⟨_, rfl⟩
  have rd : IntKind.i64.wrap ((k : Int) + 1) = (k1 : Int) := by rw [IntKind.wrap_i64, HK1.out]; omega
  have HC : Hid (∀ W, RrI w0 B gr gm (.slice ap np cp) ps k1 (.slice ai ni ci) iv la lv W → Calls Tryz.prog 20 #[.pointer (some ⟨gr, 0, none⟩), .agg (cb x).toArray, .agg (cb way).toArray, .int .i64 (d : Int)] W fun e w' => e = .returned (.int .i64 0) ∧ ∃ ix' iv', RrI w0 B gr gm (.slice ap np cp) ps k2 ix' iv' la2 lv2 w' ∧ RdG gr (.slice ai ni ci) iv W ix' iv' w') := by rw [HK1.out]; exact hC
  have z1 : ¬ ((k : Int) = (np : Int)) := by omega
  have z1' : ((k : Int) == (np : Int)) = false := by rw [beq_eq_false_iff_ne]; exact z1
  have HNI : Hid (ni = la.length) := hni
  have HLE : Hid (2 < (rdC (.slice ap np cp) gm k (.slice ai ni ci) iv).length) := by show _ < _; simp [rdC]
  clear hI hx hway hR hl hC hni
  go_enter Tryz.func52, Tryz.ntmps52
  have tk0 : Hid True := trivial
  have tk1 : Hid True := trivial
  have tk2 : Hid True := trivial
  have tk3 : Hid True := trivial
  go_wp2_with (first
    | (clear tk0; with_reducible refine wpSeq_boxD (.tmp 2) way ?_ ?_ ?_ ?_
       · rfl
       · rfl
       · rfl
       intro g6 w1 nn
       have HBW : Hid (Below w.heap.size w w1) := nn.below
       have HG6 : Hid (Blk w1 g6 (cb way) 40 ∧ w.heap.size ≤ g6) := ⟨nn.blk, nn.ge⟩
       replace HR : Hid (RdBb B w1 vb (x ++ rest)) := ⟨HR.out.1.below nn.below, HR.out.2⟩
       clear nn)
    | (clear tk1; go_at_call 78; refine (pgCut_any B vb x rest _ HX.out HR.out HL.out).mono ?_; rintro e w2 ⟨v1, rfl, hr, hb⟩
       have HR2 : Hid (RdBb B w2 v1 rest) := hr
       replace HG6 : Hid (Blk w2 g6 (cb way) 40 ∧ w.heap.size ≤ g6) := ⟨HG6.out.1.below hb HG6.out.1.lt, HG6.out.2⟩
       replace HBW : Hid (Below w.heap.size w w2) := HBW.out.trans (hb.mono HBW.out.size)
       clear hr hb HR)
    | (clear tk2; with_reducible refine wpSeq_allocD ?_ ?_ ?_
       · rfl
       · rfl
       intro g10 w3 nn
       have HN3 : Hid (Blk w3 g10 (cb zb32) 40 ∧ w2.heap.size ≤ g10 ∧ Below w2.heap.size w2 w3) := ⟨nn.blk, nn.ge, nn.below⟩
       clear nn)
    | (clear tk3; with_reducible refine wpSeq_storeD (.tmp 10) (.tmp 17) g10 zb32 x zb32_len HX.out HN3.out.1 ?_ ?_ ?_ ?_ ?_
       · rfl
       · rfl
       · rfl
       · rfl
       intro w4 h9
       have hb : Below w2.heap.size w2 w4 := HN3.out.2.2.trans (h9.only.below HN3.out.2.1 HN3.out.2.2.size)
       have HG10 : Hid (Blk w4 g10 (cb x) 40) := h9.blk
       replace HG6 : Hid (Blk w4 g6 (cb way) 40 ∧ w.heap.size ≤ g6) := ⟨HG6.out.1.below hb HG6.out.1.lt, HG6.out.2⟩
       replace HBW : Hid (Below w.heap.size w w4) := HBW.out.trans (hb.mono HBW.out.size)
       replace HR2 : Hid (RdBb B w4 v1 rest) := ⟨HR2.out.1.below hb, HR2.out.2⟩
       clear h9 hb HN3))
  have HI4 : Hid (RrI w0 B gr gm (.slice ap np cp) ps k (.slice ai ni ci) iv la lv w4.drew) := (HI.out.next HBW.out).drew
  have HG10d : Hid (Blk w4.drew g10 (cb x) 40) := HG10.out
  have HG6d : Hid (Blk w4.drew g6 (cb way) 40) := HG6.out.1
  have HR4 : Hid (RdBb B w4.drew v1 rest) := HR2.out
  have HBD : Hid (Below w.heap.size w w4.drew) := HBW.out.drew
  refine wp_region_held_drew (S := fun W => W = w4.drew) (by kernel_rfl) rfl ?_
  intro hS
  obtain ⟨y, HYY⟩ : ∃ z, z = w4.drew := ⟨_, rfl⟩
  rw [← HYY] at HI4 HG10d HG6d HR4 HBD hS ⊢
  have hc2 : y.cell? ⟨gr, 2, none⟩ = some (.int .i64 (k : Int)) := HI4.out.blk.cell 2
  have hc0 : y.cell? ⟨gr, 0, none⟩ = some (.slice ap np cp) := HI4.out.blk.cell 0
  refine wpAnyH_take (i := 0) (v := .pointer (some ⟨gr, 0, none⟩)) rfl (by kernel_rfl) (by kernel_rfl) (by kernel_rfl) (fun _ _ _ h => h) (Or.inl ⟨by rfl, fun wx hx => by simp [go_sem]⟩) hS ?_
  simp only [Act.put, List.getElem_toArray, List.getElem_cons_zero, List.setIfInBounds_toArray, List.set_cons_zero, List.set_cons_succ]
  refine wpAnyH_take (i := 1) (v := .pointer (some ⟨gr, 0, none⟩)) rfl (by kernel_rfl) (by kernel_rfl) (by kernel_rfl) (fun _ _ _ h => h) (Or.inl ⟨by rfl, fun wx hx => by simp [go_sem]⟩) hS ?_
  simp only [Act.put, List.getElem_toArray, List.getElem_cons_succ, List.getElem_cons_zero, List.setIfInBounds_toArray, List.set_cons_zero, List.set_cons_succ]
  refine wpAnyH_take (i := 2) (v := .pointer (some ⟨gr, 2, none⟩)) rfl (by kernel_rfl) (by kernel_rfl) (by kernel_rfl) (fun _ _ _ h => h) (Or.inl ⟨by rfl, fun wx hx => by simp [go_sem]⟩) hS ?_
  simp only [Act.put, List.getElem_toArray, List.getElem_cons_succ, List.getElem_cons_zero, List.setIfInBounds_toArray, List.set_cons_zero, List.set_cons_succ]
  refine wpAnyH_take (i := 3) (v := .int .i64 (k : Int)) rfl (by kernel_rfl) (by kernel_rfl) (by kernel_rfl) (fun _ _ _ h => h) (Or.inl ⟨by rfl, fun wx hx => by (rw [hx]; simp [go_sem, hc2])⟩) hS ?_
  simp only [Act.put, List.getElem_toArray, List.getElem_cons_succ, List.getElem_cons_zero, List.setIfInBounds_toArray, List.set_cons_zero, List.set_cons_succ]
  refine wpAnyH_take (i := 4) (v := .pointer (some ⟨gr, 0, none⟩)) rfl (by kernel_rfl) (by kernel_rfl) (by kernel_rfl) (fun _ _ _ h => h) (Or.inl ⟨by rfl, fun wx hx => by simp [go_sem]⟩) hS ?_
  simp only [Act.put, List.getElem_toArray, List.getElem_cons_succ, List.getElem_cons_zero, List.setIfInBounds_toArray, List.set_cons_zero, List.set_cons_succ]
  refine wpAnyH_take (i := 5) (v := .pointer (some ⟨gr, 0, none⟩)) rfl (by kernel_rfl) (by kernel_rfl) (by kernel_rfl) (fun _ _ _ h => h) (Or.inl ⟨by rfl, fun wx hx => by simp [go_sem]⟩) hS ?_
  simp only [Act.put, List.getElem_toArray, List.getElem_cons_succ, List.getElem_cons_zero, List.setIfInBounds_toArray, List.set_cons_zero, List.set_cons_succ]
  refine wpAnyH_take (i := 6) (v := .pointer (some ⟨gr, 0, none⟩)) rfl (by kernel_rfl) (by kernel_rfl) (by kernel_rfl) (fun _ _ _ h => h) (Or.inl ⟨by rfl, fun wx hx => by simp [go_sem]⟩) hS ?_
  simp only [Act.put, List.getElem_toArray, List.getElem_cons_succ, List.getElem_cons_zero, List.setIfInBounds_toArray, List.set_cons_zero, List.set_cons_succ]
  refine wpAnyH_take (i := 7) (v := .slice ap np cp) rfl (by kernel_rfl) (by kernel_rfl) (by kernel_rfl) (fun _ _ _ h => h) (Or.inl ⟨by rfl, fun wx hx => by (rw [hx]; simp [go_sem, hc0])⟩) hS ?_
  simp only [Act.put, List.getElem_toArray, List.getElem_cons_succ, List.getElem_cons_zero, List.setIfInBounds_toArray, List.set_cons_zero, List.set_cons_succ]
  refine wpAnyH_take (i := 8) (v := .int .i64 (np : Int)) rfl (by kernel_rfl) (by kernel_rfl) (by kernel_rfl) (fun _ _ _ h => h) (Or.inl ⟨by rfl, fun wx hx => by simp [go_sem]⟩) hS ?_
  simp only [Act.put, List.getElem_toArray, List.getElem_cons_succ, List.getElem_cons_zero, List.setIfInBounds_toArray, List.set_cons_zero, List.set_cons_succ]
  refine wpAnyH_take (i := 9) (v := .bool false) rfl (by kernel_rfl) (by kernel_rfl) (by kernel_rfl) (fun _ _ _ h => h) (Or.inl ⟨by rfl, fun wx hx => by simp [go_sem, z1']⟩) hS ?_
  simp only [Act.put, List.getElem_toArray, List.getElem_cons_succ, List.getElem_cons_zero, List.setIfInBounds_toArray, List.set_cons_zero, List.set_cons_succ]
  refine wpAnyH_done (by kernel_rfl) ?_ _
  have hc3 : y.cell? ⟨gr, 3, none⟩ = some (.slice ai ni ci) := HI4.out.blk.cell 3
  clear hS HYY hc0 HI
  have tl0 : Hid True := trivial
  have tl1 : Hid True := trivial
  have tl2 : Hid True := trivial
  have tl3 : Hid True := trivial
  go_wp2_with (first
    | (clear tl0; with_reducible refine wpSeq_cellI (.tmp 38) (.tmp 36) gr 2 (rdC (.slice ap np cp) gm k (.slice ai ni ci) iv) (k1 : Int) 59 HLE.out HI4.out.blk ?_ ?_ ?_ ?_ ?_
       · rfl
       · rfl
       · rfl
       · rfl
       intro w5 hb5 ho5
       have HI5 : Hid (RrI w0 B gr gm (.slice ap np cp) ps k1 (.slice ai ni ci) iv la lv w5) := HI4.out.turn hb5 ho5
       have HG5 : Hid (RdG gr (.slice ai ni ci) iv w (.slice ai ni ci) iv w5) := (RdG.below HBD.out).trans (RdG.only ho5)
       have hgr : ∀ (g : Nat) (cs : List Value), Blk y g cs 40 → g ≠ gr := fun g cs hb e => by have h1 := HI4.out.blk; rw [e] at hb; unfold Blk at h1 hb; rw [h1] at hb; simp only [Option.some.injEq, Obj.cells.injEq] at hb; exact absurd hb.2.1 (by decide)
       have HG10e : Hid (Blk w5 g10 (cb x) 40) := HG10d.out.only ho5 (hgr _ _ HG10d.out)
       have HG6e : Hid (Blk w5 g6 (cb way) 40) := HG6d.out.only ho5 (hgr _ _ HG6d.out)
       have HR5 : Hid (RdBb B w5 v1 rest) := HR4.out.go (ho5.below HI4.out.gg HI4.out.ge)
       have hc35 : w5.cell? ⟨gr, 3, none⟩ = some (.slice ai ni ci) := HI5.out.blk.cell 3
       clear hb5 ho5 hgr)
    | (clear tl1; with_reducible refine wpSeq_loadD (.tmp 10) g10 x HX.out HG10e.out ?_ ?_ ?_ ?_
       · rfl
       · rfl
       · rfl
       have HQ1 : Hid True := trivial)
    | (clear tl2; with_reducible refine wpSeq_loadD (.tmp 6) g6 way HY.out HG6e.out ?_ ?_ ?_ ?_
       · rfl
       · rfl
       · rfl
       have HQ2 : Hid True := trivial)
    | (clear tl3; go_at_call 20; refine (HC.out _ HI5.out).mono ?_; rintro e w6 ⟨rfl, ix', iv', hi6, hg6⟩
       have hr6 : RdBb B w6 v1 rest := HR5.out.go (hg6.belowB HI5.out)
       have HI6 : Hid (RrI w0 B gr gm (.slice ap np cp) ps k2 ix' iv' la2 lv2 w6) := hi6
       have HG6f : Hid (RdG gr (.slice ai ni ci) iv w ix' iv' w6) := HG5.out.trans hg6
       have HR6 : Hid (RdBb B w6 v1 rest) := hr6
       obtain ⟨ai2, ci2, hix⟩ := hi6.oi.slice
       obtain ⟨ni2, HNI2⟩ : ∃ z : Nat, Hid (z = la2.length) := ⟨_, rfl⟩
       rw [← HNI2.out] at hix
       obtain ⟨dl, HDL⟩ : ∃ z : Nat, Hid (z = ni2 - ni) := ⟨_, rfl⟩
       have rd2 : IntKind.i64.wrap ((ni2 : Int) - (ni : Int)) = (dl : Int) := by rw [IntKind.wrap_i64, HDL.out]; have := HNI.out; have := HNI2.out; omega
       have z2 : ¬ ((dl : Int) < 2) := by have := HDL.out; have := HNI.out; have := HNI2.out; omega
       have hc36 : w6.cell? ⟨gr, 3, none⟩ = some (.slice ai2 ni2 ci2) := by rw [← hix]; exact hi6.blk.cell 3
       clear hi6 hg6 hr6 hix hc35))
  refine bodyPost_ret (results_tmp2 rfl _ _ _) rfl ?_
  exact ⟨v1, _, rfl, rfl, HR6.out, ix', iv', HI6.out, HG6f.out⟩
set_option maxHeartbeats 8000000 in
theorem pgLinked_no (w0 : World) (B gr gm : Nat) (ap : Option Addr) (np cp : Nat) (ps : List By) (k : Nat) (ai : Option Addr) (ni ci : Nat) (iv : Value) (la lv : List By) (vb : Value) (x rest way : By) (d : Nat) (w : World) (hI : RrI w0 B gr gm (.slice ap np cp) ps k (.slice ai ni ci) iv la lv w) (hni : ni = la.length) (hx : x.length = 32) (hway : way.length = 32) (hR : RdBb B w vb (x ++ rest)) (hl : rest.length < 10000) (hk : k < np) (hnp : np < 1000000) 
    (hC : ∀ W, RrI w0 B gr gm (.slice ap np cp) ps (k + 1) (.slice ai ni ci) iv la lv W → Calls Tryz.prog 20 #[.pointer (some ⟨gr, 0, none⟩), .agg (cb x).toArray, .agg (cb way).toArray, .int .i64 (d : Int)] W fun e w' => e = .returned (.int .i64 7) ∧ Below B w0 w') :
    Calls Tryz.prog 52 #[.pointer (some ⟨gr, 0, none⟩), vb, .agg (cb way).toArray, .int .i64 (d : Int)] w (Two fun _ b w' => b = .int .i64 7 ∧ Below B w0 w') := by
  have HI : Hid (RrI w0 B gr gm (.slice ap np cp) ps k (.slice ai ni ci) iv la lv w) := hI
  have HX : Hid (x.length = 32) := hx
  have HY : Hid (way.length = 32) := hway
  have HR : Hid (RdBb B w vb (x ++ rest)) := hR
  have HL : Hid (rest.length < 1000000) := Nat.lt_trans hl (by decide)
  obtain ⟨k1, HK1⟩ : ∃ z, Hid (z = k + 1) := ⟨_, rfl⟩
  have rd : IntKind.i64.wrap ((k : Int) + 1) = (k1 : Int) := by rw [IntKind.wrap_i64, HK1.out]; omega
  have HC : Hid (∀ W, RrI w0 B gr gm (.slice ap np cp) ps k1 (.slice ai ni ci) iv la lv W → Calls Tryz.prog 20 #[.pointer (some ⟨gr, 0, none⟩), .agg (cb x).toArray, .agg (cb way).toArray, .int .i64 (d : Int)] W fun e w' => e = .returned (.int .i64 7) ∧ Below B w0 w') := by rw [HK1.out]; exact hC
  have z1 : ¬ ((k : Int) = (np : Int)) := by omega
  have z1' : ((k : Int) == (np : Int)) = false := by rw [beq_eq_false_iff_ne]; exact z1
  have HNI : Hid (ni = la.length) := hni
  have HLE : Hid (2 < (rdC (.slice ap np cp) gm k (.slice ai ni ci) iv).length) := by show _ < _; simp [rdC]
  clear hI hx hway hR hl hC hni
  go_enter Tryz.func52, Tryz.ntmps52
  have tk0 : Hid True := trivial
  have tk1 : Hid True := trivial
  have tk2 : Hid True := trivial
  have tk3 : Hid True := trivial
  go_wp2_with (first
    | (clear tk0; with_reducible refine wpSeq_boxD (.tmp 2) way ?_ ?_ ?_ ?_
       · rfl
       · rfl
       · rfl
       intro g6 w1 nn
       have HBW : Hid (Below w.heap.size w w1) := nn.below
       have HG6 : Hid (Blk w1 g6 (cb way) 40 ∧ w.heap.size ≤ g6) := ⟨nn.blk, nn.ge⟩
       replace HR : Hid (RdBb B w1 vb (x ++ rest)) := ⟨HR.out.1.below nn.below, HR.out.2⟩
       clear nn)
    | (clear tk1; go_at_call 78; refine (pgCut_any B vb x rest _ HX.out HR.out HL.out).mono ?_; rintro e w2 ⟨v1, rfl, hr, hb⟩
       have HR2 : Hid (RdBb B w2 v1 rest) := hr
       replace HG6 : Hid (Blk w2 g6 (cb way) 40 ∧ w.heap.size ≤ g6) := ⟨HG6.out.1.below hb HG6.out.1.lt, HG6.out.2⟩
       replace HBW : Hid (Below w.heap.size w w2) := HBW.out.trans (hb.mono HBW.out.size)
       clear hr hb HR)
    | (clear tk2; with_reducible refine wpSeq_allocD ?_ ?_ ?_
       · rfl
       · rfl
       intro g10 w3 nn
       have HN3 : Hid (Blk w3 g10 (cb zb32) 40 ∧ w2.heap.size ≤ g10 ∧ Below w2.heap.size w2 w3) := ⟨nn.blk, nn.ge, nn.below⟩
       clear nn)
    | (clear tk3; with_reducible refine wpSeq_storeD (.tmp 10) (.tmp 17) g10 zb32 x zb32_len HX.out HN3.out.1 ?_ ?_ ?_ ?_ ?_
       · rfl
       · rfl
       · rfl
       · rfl
       intro w4 h9
       have hb : Below w2.heap.size w2 w4 := HN3.out.2.2.trans (h9.only.below HN3.out.2.1 HN3.out.2.2.size)
       have HG10 : Hid (Blk w4 g10 (cb x) 40) := h9.blk
       replace HG6 : Hid (Blk w4 g6 (cb way) 40 ∧ w.heap.size ≤ g6) := ⟨HG6.out.1.below hb HG6.out.1.lt, HG6.out.2⟩
       replace HBW : Hid (Below w.heap.size w w4) := HBW.out.trans (hb.mono HBW.out.size)
       replace HR2 : Hid (RdBb B w4 v1 rest) := ⟨HR2.out.1.below hb, HR2.out.2⟩
       clear h9 hb HN3))
  have HI4 : Hid (RrI w0 B gr gm (.slice ap np cp) ps k (.slice ai ni ci) iv la lv w4.drew) := (HI.out.next HBW.out).drew
  have HG10d : Hid (Blk w4.drew g10 (cb x) 40) := HG10.out
  have HG6d : Hid (Blk w4.drew g6 (cb way) 40) := HG6.out.1
  have HR4 : Hid (RdBb B w4.drew v1 rest) := HR2.out
  have HBD : Hid (Below w.heap.size w w4.drew) := HBW.out.drew
  refine wp_region_held_drew (S := fun W => W = w4.drew) (by kernel_rfl) rfl ?_
  intro hS
  obtain ⟨y, HYY⟩ : ∃ z, z = w4.drew := ⟨_, rfl⟩
  rw [← HYY] at HI4 HG10d HG6d HR4 HBD hS ⊢
  have hc2 : y.cell? ⟨gr, 2, none⟩ = some (.int .i64 (k : Int)) := HI4.out.blk.cell 2
  have hc0 : y.cell? ⟨gr, 0, none⟩ = some (.slice ap np cp) := HI4.out.blk.cell 0
  refine wpAnyH_take (i := 0) (v := .pointer (some ⟨gr, 0, none⟩)) rfl (by kernel_rfl) (by kernel_rfl) (by kernel_rfl) (fun _ _ _ h => h) (Or.inl ⟨by rfl, fun wx hx => by simp [go_sem]⟩) hS ?_
  simp only [Act.put, List.getElem_toArray, List.getElem_cons_zero, List.setIfInBounds_toArray, List.set_cons_zero, List.set_cons_succ]
  refine wpAnyH_take (i := 1) (v := .pointer (some ⟨gr, 0, none⟩)) rfl (by kernel_rfl) (by kernel_rfl) (by kernel_rfl) (fun _ _ _ h => h) (Or.inl ⟨by rfl, fun wx hx => by simp [go_sem]⟩) hS ?_
  simp only [Act.put, List.getElem_toArray, List.getElem_cons_succ, List.getElem_cons_zero, List.setIfInBounds_toArray, List.set_cons_zero, List.set_cons_succ]
  refine wpAnyH_take (i := 2) (v := .pointer (some ⟨gr, 2, none⟩)) rfl (by kernel_rfl) (by kernel_rfl) (by kernel_rfl) (fun _ _ _ h => h) (Or.inl ⟨by rfl, fun wx hx => by simp [go_sem]⟩) hS ?_
  simp only [Act.put, List.getElem_toArray, List.getElem_cons_succ, List.getElem_cons_zero, List.setIfInBounds_toArray, List.set_cons_zero, List.set_cons_succ]
  refine wpAnyH_take (i := 3) (v := .int .i64 (k : Int)) rfl (by kernel_rfl) (by kernel_rfl) (by kernel_rfl) (fun _ _ _ h => h) (Or.inl ⟨by rfl, fun wx hx => by (rw [hx]; simp [go_sem, hc2])⟩) hS ?_
  simp only [Act.put, List.getElem_toArray, List.getElem_cons_succ, List.getElem_cons_zero, List.setIfInBounds_toArray, List.set_cons_zero, List.set_cons_succ]
  refine wpAnyH_take (i := 4) (v := .pointer (some ⟨gr, 0, none⟩)) rfl (by kernel_rfl) (by kernel_rfl) (by kernel_rfl) (fun _ _ _ h => h) (Or.inl ⟨by rfl, fun wx hx => by simp [go_sem]⟩) hS ?_
  simp only [Act.put, List.getElem_toArray, List.getElem_cons_succ, List.getElem_cons_zero, List.setIfInBounds_toArray, List.set_cons_zero, List.set_cons_succ]
  refine wpAnyH_take (i := 5) (v := .pointer (some ⟨gr, 0, none⟩)) rfl (by kernel_rfl) (by kernel_rfl) (by kernel_rfl) (fun _ _ _ h => h) (Or.inl ⟨by rfl, fun wx hx => by simp [go_sem]⟩) hS ?_
  simp only [Act.put, List.getElem_toArray, List.getElem_cons_succ, List.getElem_cons_zero, List.setIfInBounds_toArray, List.set_cons_zero, List.set_cons_succ]
  refine wpAnyH_take (i := 6) (v := .pointer (some ⟨gr, 0, none⟩)) rfl (by kernel_rfl) (by kernel_rfl) (by kernel_rfl) (fun _ _ _ h => h) (Or.inl ⟨by rfl, fun wx hx => by simp [go_sem]⟩) hS ?_
  simp only [Act.put, List.getElem_toArray, List.getElem_cons_succ, List.getElem_cons_zero, List.setIfInBounds_toArray, List.set_cons_zero, List.set_cons_succ]
  refine wpAnyH_take (i := 7) (v := .slice ap np cp) rfl (by kernel_rfl) (by kernel_rfl) (by kernel_rfl) (fun _ _ _ h => h) (Or.inl ⟨by rfl, fun wx hx => by (rw [hx]; simp [go_sem, hc0])⟩) hS ?_
  simp only [Act.put, List.getElem_toArray, List.getElem_cons_succ, List.getElem_cons_zero, List.setIfInBounds_toArray, List.set_cons_zero, List.set_cons_succ]
  refine wpAnyH_take (i := 8) (v := .int .i64 (np : Int)) rfl (by kernel_rfl) (by kernel_rfl) (by kernel_rfl) (fun _ _ _ h => h) (Or.inl ⟨by rfl, fun wx hx => by simp [go_sem]⟩) hS ?_
  simp only [Act.put, List.getElem_toArray, List.getElem_cons_succ, List.getElem_cons_zero, List.setIfInBounds_toArray, List.set_cons_zero, List.set_cons_succ]
  refine wpAnyH_take (i := 9) (v := .bool false) rfl (by kernel_rfl) (by kernel_rfl) (by kernel_rfl) (fun _ _ _ h => h) (Or.inl ⟨by rfl, fun wx hx => by simp [go_sem, z1']⟩) hS ?_
  simp only [Act.put, List.getElem_toArray, List.getElem_cons_succ, List.getElem_cons_zero, List.setIfInBounds_toArray, List.set_cons_zero, List.set_cons_succ]
  refine wpAnyH_done (by kernel_rfl) ?_ _
  have hc3 : y.cell? ⟨gr, 3, none⟩ = some (.slice ai ni ci) := HI4.out.blk.cell 3
  clear hS HYY hc0 HI
  have tl0 : Hid True := trivial
  have tl1 : Hid True := trivial
  have tl2 : Hid True := trivial
  have tl3 : Hid True := trivial
  go_wp2_with (first
    | (clear tl0; with_reducible refine wpSeq_cellI (.tmp 38) (.tmp 36) gr 2 (rdC (.slice ap np cp) gm k (.slice ai ni ci) iv) (k1 : Int) 59 HLE.out HI4.out.blk ?_ ?_ ?_ ?_ ?_
       · rfl
       · rfl
       · rfl
       · rfl
       intro w5 hb5 ho5
       have HI5 : Hid (RrI w0 B gr gm (.slice ap np cp) ps k1 (.slice ai ni ci) iv la lv w5) := HI4.out.turn hb5 ho5
       have HG5 : Hid (RdG gr (.slice ai ni ci) iv w (.slice ai ni ci) iv w5) := (RdG.below HBD.out).trans (RdG.only ho5)
       have hgr : ∀ (g : Nat) (cs : List Value), Blk y g cs 40 → g ≠ gr := fun g cs hb e => by have h1 := HI4.out.blk; rw [e] at hb; unfold Blk at h1 hb; rw [h1] at hb; simp only [Option.some.injEq, Obj.cells.injEq] at hb; exact absurd hb.2.1 (by decide)
       have HG10e : Hid (Blk w5 g10 (cb x) 40) := HG10d.out.only ho5 (hgr _ _ HG10d.out)
       have HG6e : Hid (Blk w5 g6 (cb way) 40) := HG6d.out.only ho5 (hgr _ _ HG6d.out)
       have HR5 : Hid (RdBb B w5 v1 rest) := HR4.out.go (ho5.below HI4.out.gg HI4.out.ge)
       have hc35 : w5.cell? ⟨gr, 3, none⟩ = some (.slice ai ni ci) := HI5.out.blk.cell 3
       clear hb5 ho5 hgr)
    | (clear tl1; with_reducible refine wpSeq_loadD (.tmp 10) g10 x HX.out HG10e.out ?_ ?_ ?_ ?_
       · rfl
       · rfl
       · rfl
       have HQ1 : Hid True := trivial)
    | (clear tl2; with_reducible refine wpSeq_loadD (.tmp 6) g6 way HY.out HG6e.out ?_ ?_ ?_ ?_
       · rfl
       · rfl
       · rfl
       have HQ2 : Hid True := trivial)
    | (clear tl3; go_at_call 20; refine (HC.out _ HI5.out).mono ?_; rintro e w6 ⟨rfl, hb6⟩
       have HB6 : Hid (Below B w0 w6) := hb6
       clear hb6))
  refine bodyPost_ret (results_tmp2 rfl _ _ _) rfl ?_
  exact ⟨v1, _, rfl, rfl, HB6.out⟩
end Go.Proofs.YtphmmnffgknkcabGreatDoor
namespace Go.Proofs.YtphmmnffgknkcabGreatDoor
open Go.RowKit
set_option maxRecDepth 100000
def PsM (w0 : World) (B : Nat) (ap : Option Addr) (ps : List By) : Prop := ∀ W, Below B w0 W → ∀ i, i < ps.length → 0 < (ps.getD i []).length → ∃ b off vj, ap = some ⟨b, off, none⟩ ∧ W.cell? ⟨b, off + i, none⟩ = some vj ∧ RdBb B W vj (ps.getD i [])
section
variable (w0 : World) (B gr gm : Nat) (ap : Option Addr) (cp : Nat) (ps : List By)
def OkQ (k : Nat) (ix iv : Value) (la lv : List By) (w : World) (S : List By) (l : List Lf) (rest : By) (a b : Value) (w' : World) : Prop :=
  b = .int .i64 0 ∧ RdBb B w' a rest ∧ ∃ ix' iv', RrI w0 B gr gm (.slice ap ps.length cp) ps (k + S.length) ix' iv' (la ++ l.map (·.1)) (lv ++ l.map (·.2)) w' ∧ RdG gr ix iv w ix' iv' w'
def NoQ (_ b : Value) (w' : World) : Prop := b = .int .i64 7 ∧ Below B w0 w'
def PcD (d : Nat) (l : List Lf) (t : By) (S : List By) : Prop :=
  ∀ (k : Nat) (ix iv : Value) (la lv : List By) (vb : Value) (rest way : By) (w : World), RrI w0 B gr gm (.slice ap ps.length cp) ps k ix iv la lv w → WyP way d l → RdBb B w vb (t ++ rest) → Free ps S → k + S.length ≤ ps.length → (t ++ rest).length ≤ 600 → la.length + l.length < 100000 → lv.length + l.length < 100000 →
    ((∀ p ∈ S, p ∈ ps) → Calls Tryz.prog 33 #[.pointer (some ⟨gr, 0, none⟩), vb, .agg (cb way).toArray, .int .i64 (d : Int)] w (Two (OkQ w0 B gr gm ap cp ps k ix iv la lv w S l rest)))
    ∧ ((¬ ∀ p ∈ S, p ∈ ps) → Calls Tryz.prog 33 #[.pointer (some ⟨gr, 0, none⟩), vb, .agg (cb way).toArray, .int .i64 (d : Int)] w (Two (NoQ w0 B)))
end
theorem two_mono {Q Q' : Value → Value → World → Prop} (h : ∀ a b w, Q a b w → Q' a b w) (e : Ending) (w : World) (ht : Two Q e w) : Two Q' e w := by
  obtain ⟨a, b, h1, h2⟩ := ht
  exact ⟨a, b, h1, h a b w h2⟩
theorem RdBb.nextP {B : Nat} {w w' : World} {v : Value} {t : By} (h : RdBb B w v t) (hb : Below w.heap.size w w') : RdBb B w' v t := ⟨h.1.below hb, h.2⟩
theorem RdG.from {gr : Nat} {ix iv ix' iv' : Value} {w w1 w' : World} (hb : Below w.heap.size w w1) (h : RdG gr ix iv w1 ix' iv' w') : RdG gr ix iv w ix' iv' w' := (RdG.below hb).trans h
section
variable {w0 : World} {B gr gm : Nat} {ap : Option Addr} {cp : Nat} {ps : List By}
theorem pc_few (d : Nat) (l : List Lf) (hF : Fits l d) (hd : d ≤ 256) (h2 : l.length < 2) : PcD w0 B gr gm ap cp ps d l (oneP1 l) [] := by
  intro k ix iv la lv vb rest way w hi hy hr hf hk hs hl1 hl2
  refine ⟨fun _ => ?_, fun h => absurd (fun p hp => by cases hp) h⟩
  match l, h2, hF, hy, hr, hl1, hl2 with
  | [], _, _, hy, hr, _, _ =>
    refine (pgRPiece_none B gr vb rest way d w hd hr).mono (two_mono fun a b w' => ?_)
    rintro ⟨h1, h2, h3⟩
    refine ⟨h1, h2, ix, iv, ?_, RdG.below h3⟩
    have := hi.next h3
    simpa using this
  | [p], _, hF, hy, hr, hl1, hl2 =>
    have hp := hF.1 p (by simp)
    obtain ⟨ai, ci, hix⟩ := hi.oi.slice
    obtain ⟨av, cv, hiv⟩ := hi.ov.slice
    subst hix
    subst hiv
    refine pgRPiece_1 B gr vb ((p.1 ++ p.2) ++ rest) way d w _ hd hy.len hr fun v1 W hW h1 => ?_
    have hun := hy.under hd (p := p) (by simp)
    simp only [List.length_append, oneP1, List.length_cons] at hs
    rw [List.append_assoc] at h1
    simp only [List.length_cons, List.length_nil] at hl1 hl2
    refine (pgLeaf_any w0 B gr gm _ ps k ai av la.length ci lv.length cv la lv v1 p.1 p.2 rest way d W (hi.next hW) hp.1 hp.2 hy.len hun h1 (by omega) (by omega) (by omega)).mono ?_
    rintro e w' ⟨vr, ix', iv', rfl, hr', hi', hg'⟩
    exact ⟨vr, _, rfl, rfl, hr', ix', iv', hi', hg'.from hW⟩
theorem pc_two (d : Nat) (l : List Lf) (t0 t1 : By) (S0 S1 : List By) (hF : Fits l d) (h2 : 2 ≤ l.length) (ih0 : PcD w0 B gr gm ap cp ps (d + 1) (halfL l d false) t0 S0) (ih1 : PcD w0 B gr gm ap cp ps (d + 1) (halfL l d true) t1 S1) : PcD w0 B gr gm ap cp ps d l (2 :: (t0 ++ t1)) (S0 ++ S1) := by
  intro k ix iv la lv vb rest way w hi hy hr hf hk hs hl1 hl2
  have hd := hF.lt h2
  have hlen := half_len hF
  have hord := half_order hF
  rw [List.length_append] at hk
  simp only [List.length_append, List.length_cons] at hs
  have hr' : RdBb B w vb (2 :: (t0 ++ (t1 ++ rest))) := by rw [← List.append_assoc]; exact hr
  have hf0 : Free ps S0 := fun p hp => hf p (List.mem_append_left _ hp)
  have hf1 : Free ps S1 := fun p hp => hf p (List.mem_append_right _ hp)
  have A0 : ∀ v1 W, Below w.heap.size w W → RdBb B W v1 (t0 ++ (t1 ++ rest)) → ∀ W', Below W.heap.size W W' → _ := fun v1 W hW h1 W' hW' =>
    ih0 k ix iv la lv v1 (t1 ++ rest) way W' ((hi.next hW).next hW') (hy.left hd) (h1.nextP hW') hf0 (by omega) (by rw [List.length_append, List.length_append]; omega) (by omega) (by omega)
  have A1 : ∀ (a : Value) (i1 v1 : Value) (w1 W : World), RdBb B w1 a (t1 ++ rest) → RrI w0 B gr gm (.slice ap ps.length cp) ps (k + S0.length) i1 v1 (la ++ (halfL l d false).map (·.1)) (lv ++ (halfL l d false).map (·.2)) w1 → Below w1.heap.size w1 W → _ := fun a i1 v1 w1 W h1 h3 hW =>
    ih1 (k + S0.length) i1 v1 _ _ a rest (setI way (d : Int) true) W (h3.next hW) (hy.right hd) (h1.nextP hW) hf1 (by omega) (by rw [List.length_append]; omega) (by rw [List.length_append, List.length_map]; omega) (by rw [List.length_append, List.length_map]; omega)
  -- the first side's outcome, with its box beside it
  have hbox : ∀ (W1 W w' : World) (i1 v1 : Value) (g : Nat), Below w.heap.size w W1 → Below W1.heap.size W1 W → W1.heap.size ≤ g → Blk W g (cb way) 40 → RdG gr ix iv W i1 v1 w' → Blk w' g (cb way) 40 := fun W1 W w' i1 v1 g hW1 hW hg hb hG => by
    have hiW := (hi.next hW1).next hW
    refine hG.blk hb (fun e => ?_) (fun e => ?_) (fun e => ?_)
    · have h1 := hiW.blk
      rw [e] at hb
      unfold Blk at h1 hb
      rw [h1] at hb
      simp only [Option.some.injEq, Obj.cells.injEq] at hb
      exact absurd hb.2.1 (by decide)
    · have h3 := (hi.oi.lt g e).2; have h4 := hW1.size; omega
    · have h3 := (hi.ov.lt g e).2; have h4 := hW1.size; omega
  refine ⟨fun hS => ?_, fun hS => ?_⟩
  · have hS0 : ∀ p ∈ S0, p ∈ ps := fun p hp => hS p (List.mem_append_left _ hp)
    have hS1 : ∀ p ∈ S1, p ∈ ps := fun p hp => hS p (List.mem_append_right _ hp)
    refine pgRPiece_2 B gr vb _ way d w _ (by omega) hy.len hr' fun v1 W1 hW1 h1 => ?_
    refine pgSides_ok gr v1 way d W1 (fun a w1 => ∃ i1 u1, RdBb B w1 a (t1 ++ rest) ∧ RrI w0 B gr gm (.slice ap ps.length cp) ps (k + S0.length) i1 u1 (la ++ (halfL l d false).map (·.1)) (lv ++ (halfL l d false).map (·.2)) w1 ∧ RdG gr ix iv w i1 u1 w1) _ (by omega) hy.len (fun W hW => ?_) (fun a w1 W hP hW => ?_)
    · refine ((A0 v1 W1 hW1 h1 W hW).1 hS0).mono (two_mono fun a b w' => ?_)
      rintro ⟨e1, e2, i1, u1, e3, e4⟩
      exact ⟨e1, ⟨i1, u1, e2, e3, (e4.from hW).from hW1⟩, fun g hg hb => hbox W1 W w' i1 u1 g hW1 hW hg hb e4⟩
    · obtain ⟨i1, u1, e2, e3, e4⟩ := hP
      refine ((A1 a i1 u1 w1 W e2 e3 hW).1 hS1).mono (two_mono fun a' b' w' => ?_)
      rintro ⟨f1, f2, i2, u2, f3, f4⟩
      refine ⟨f1, f2, i2, u2, ?_, e4.trans (f4.from hW)⟩
      rw [List.length_append, ← Nat.add_assoc]
      rw [hord, List.map_append, List.map_append, ← List.append_assoc, ← List.append_assoc]
      exact f3
  · by_cases hS0 : ∀ p ∈ S0, p ∈ ps
    · have hS1 : ¬ ∀ p ∈ S1, p ∈ ps := fun h => hS fun p hp => (List.mem_append.1 hp).elim (hS0 p) (h p)
      refine pgRPiece_2 B gr vb _ way d w _ (by omega) hy.len hr' fun v1 W1 hW1 h1 => ?_
      refine pgSides_ok gr v1 way d W1 (fun a w1 => ∃ i1 u1, RdBb B w1 a (t1 ++ rest) ∧ RrI w0 B gr gm (.slice ap ps.length cp) ps (k + S0.length) i1 u1 (la ++ (halfL l d false).map (·.1)) (lv ++ (halfL l d false).map (·.2)) w1) _ (by omega) hy.len (fun W hW => ?_) (fun a w1 W hP hW => ?_)
      · refine ((A0 v1 W1 hW1 h1 W hW).1 hS0).mono (two_mono fun a b w' => ?_)
        rintro ⟨e1, e2, i1, u1, e3, e4⟩
        exact ⟨e1, ⟨i1, u1, e2, e3⟩, fun g hg hb => hbox W1 W w' i1 u1 g hW1 hW hg hb e4⟩
      · obtain ⟨i1, u1, e2, e3⟩ := hP
        exact (A1 a i1 u1 w1 W e2 e3 hW).2 hS1
    · refine pgRPiece_2 B gr vb _ way d w _ (by omega) hy.len hr' fun v1 W1 hW1 h1 => ?_
      exact pgSides_no gr v1 way d W1 (Below B w0) (by omega) hy.len fun W hW => (A0 v1 W1 hW1 h1 W hW).2 hS0
theorem pc_link (hM : PsM w0 B ap ps) (hn : ps.length < 1000000) (d : Nat) (l : List Lf) (t : By) (S : List By) (h2 : 2 ≤ l.length) (ht : t.length ≤ 512) (hp : Pc d l t S) (ih : PcD w0 B gr gm ap cp ps d l t S) : PcD w0 B gr gm ap cp ps d l (3 :: dig t) (t :: S) := by
  intro k ix iv la lv vb rest way w hi hy hr hf hk hs hl1 hl2
  have hd := hp.fits.lt h2
  rw [List.length_cons] at hk
  simp only [List.length_append, List.length_cons] at hs
  obtain ⟨ai, ci, hix⟩ := hi.oi.slice
  subst hix
  have hfS : Free ps S := fun p hp => hf p (List.mem_cons_of_mem _ hp)
  have hft := plK_find (ps := ps) (t := t) (hf t (by simp))
  have hpos := hp.pos
  -- the page's own reading
  have IH : ∀ (i : Nat) (vj : Value) (W W' : World), RrI w0 B gr gm (.slice ap ps.length cp) ps (k + 1) (.slice ai la.length ci) iv la lv W → RdBb B W vj t → Below W.heap.size W W' → _ := fun i vj W W' h1 h3 hW =>
    ih (k + 1) (.slice ai la.length ci) iv la lv vj [] way W' (h1.next hW) hy (by rw [List.append_nil]; exact h3.nextP hW) hfS (by omega) (by rw [List.append_nil]; omega) hl1 hl2
  refine ⟨fun hS => ?_, fun hS => ?_⟩
  · have hin : t ∈ ps := hS t (by simp)
    have hSS : ∀ p ∈ S, p ∈ ps := fun p hp => hS p (List.mem_cons_of_mem _ hp)
    obtain ⟨_, i, hpl, hil, hit⟩ := hft.resolve_right (fun h => h.1 hin)
    refine pgRPiece_3 B gr vb (dig t ++ rest) way d w _ (by omega) hy.len hr fun v1 W1 hW1 h1 => ?_
    refine (pgLinked_ok w0 B gr gm ap ps.length cp ps k ai la.length ci iv la lv v1 (dig t) rest way d W1 (hi.next hW1) rfl (len_dig' _) hy.len h1 (by omega) (by omega) hn (k + 1 + S.length) (la ++ l.map (·.1)) (lv ++ l.map (·.2)) (by rw [List.length_append, List.length_map]; omega) (by rw [List.length_append, List.length_map]; omega) fun W hW => ?_).mono (two_mono fun a b w' => ?_)
    · obtain ⟨b, off, vj, hap, hrow, hrd⟩ := hM W hW.bel i hil (by rw [hit]; exact hpos)
      rw [hit] at hrd
      obtain ⟨bj, oj, cj, hvj, _⟩ := hrd.at hpos
      refine pgPage_ok w0 B gr gm ap ps.length cp ps (k + 1) _ iv la lv (dig t) way d W hW (len_dig' _) hy.len i b off vj (fun w' => ∃ ix' iv', RrI w0 B gr gm (.slice ap ps.length cp) ps (k + 1 + S.length) ix' iv' (la ++ l.map (·.1)) (lv ++ l.map (·.2)) w' ∧ RdG gr (.slice ai la.length ci) iv W ix' iv' w') hpl hil hap hrow ⟨_, _, _, hvj⟩ fun W' hW' => ?_
      refine ((IH i vj W W' hW hrd hW').1 hSS).mono (two_mono fun a b w' => ?_)
      rintro ⟨e1, e2, ix', iv', e3, e4⟩
      obtain ⟨ad, c, e5, _⟩ := e2.1
      exact ⟨e1, ⟨ad, c, e5⟩, ix', iv', e3, e4.from hW'⟩
    · rintro ⟨e1, e2, ix', iv', e3, e4⟩
      refine ⟨e1, e2, ix', iv', ?_, e4.from hW1⟩
      rw [List.length_cons, show k + (S.length + 1) = k + 1 + S.length by omega]
      exact e3
  · refine pgRPiece_3 B gr vb (dig t ++ rest) way d w _ (by omega) hy.len hr fun v1 W1 hW1 h1 => ?_
    refine pgLinked_no w0 B gr gm ap ps.length cp ps k ai la.length ci iv la lv v1 (dig t) rest way d W1 (hi.next hW1) rfl (len_dig' _) hy.len h1 (by omega) (by omega) hn fun W hW => ?_
    rcases hft with ⟨hin, i, hpl, hil, hit⟩ | ⟨hin, hpl⟩
    · have hSS : ¬ ∀ p ∈ S, p ∈ ps := fun h => hS fun p hp => by
        rcases List.mem_cons.1 hp with rfl | hp
        · exact hin
        · exact h p hp
      obtain ⟨b, off, vj, hap, hrow, hrd⟩ := hM W hW.bel i hil (by rw [hit]; exact hpos)
      rw [hit] at hrd
      obtain ⟨bj, oj, cj, hvj, _⟩ := hrd.at hpos
      refine pgPage_no w0 B gr gm ap ps.length cp ps (k + 1) _ iv la lv (dig t) way d W hW (len_dig' _) hy.len i b off vj (Below B w0) hpl hil hap hrow ⟨_, _, _, hvj⟩ fun W' hW' => ?_
      refine ((IH i vj W W' hW hrd hW').2 hSS).mono (two_mono fun a b w' => ?_)
      rintro ⟨e1, e2⟩
      exact ⟨e1, trivial, e2⟩
    · refine (pgPage_none w0 B gr gm ap ps.length cp ps (k + 1) _ iv la lv (dig t) way d W hW (len_dig' _) hpl).mono ?_
      rintro e w' ⟨e1, e2⟩
      exact ⟨e1, hW.bel.trans (e2.mono hW.ge)⟩
theorem piece_any (hM : PsM w0 B ap ps) (hn : ps.length < 1000000) {d : Nat} {l : List Lf} {t : By} {S : List By} (h : Pc d l t S) : PcD w0 B gr gm ap cp ps d l t S := by
  induction h with
  | few d l h1 h2 h3 => exact pc_few d l h1 h2 h3
  | two d l t0 t1 S0 S1 h1 h2 _ _ i0 i1 => exact pc_two d l t0 t1 S0 S1 h1 h2 i0 i1
  | link d l t S h2 h3 hp ih => exact pc_link hM hn d l t S h2 h3 hp ih
end
end Go.Proofs.YtphmmnffgknkcabGreatDoor

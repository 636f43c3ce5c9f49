/- Rows of writes that are made by append (layer 13). -/
import Derived.Test.YtdllnedmhhajnaaDkLay
import Derived.Laws.AppendOwnNone
namespace Go.Proofs.Ytdllnedmhhajnaa
open Go.RowKit
set_option maxRecDepth 100000
theorem Try.infosW : (Try.prog.info? 51).map (fun i => (i.zero, i.size, i.bytes)) = some (some (.agg #[.int .i64 0, .slice none 0 0]), 2, 32) := by kernel_rfl
def flatW (L : List (Nat × Value)) : List Value := (L.map fun p => [Value.int .i64 (p.1 : Int), p.2]).flatten
def OwnW (w : World) (base : Nat) (v : Value) (L : List (Nat × Value)) : Prop := w.ownsRow base 51 2 v L.length (flatW L)
theorem OwnW.nil (w : World) (base : Nat) : OwnW w base (.slice none 0 0) [] := World.ownsRow_nil _ _ _ _
theorem flatW_len : ∀ (L : List (Nat × Value)), (flatW L).length = L.length * 2
  | [] => rfl
  | p :: L => by
    have e : flatW (p :: L) = Value.int .i64 (p.1 : Int) :: p.2 :: flatW L := rfl
    rw [e, List.length_cons, List.length_cons, flatW_len L, List.length_cons]
    omega
theorem flatW_one : ∀ (L : List (Nat × Value)), (∀ p ∈ L, p.2.oneCell' = true) → ∀ u ∈ flatW L, u.oneCell' = true
  | [], _ => fun u hu => by simp [flatW] at hu
  | p :: L, h => fun u hu => by
    have e : flatW (p :: L) = Value.int .i64 (p.1 : Int) :: p.2 :: flatW L := rfl
    rw [e, List.mem_cons, List.mem_cons] at hu
    rcases hu with rfl | rfl | hu
    · rfl
    · exact h p (by simp)
    · exact flatW_one L (fun q hq => h q (by simp [hq])) u hu
theorem flatW_at : ∀ (L : List (Nat × Value)) (j : Nat) (p : Nat × Value), L[j]? = some p → (flatW L)[j * 2]? = some (.int .i64 (p.1 : Int)) ∧ (flatW L)[j * 2 + 1]? = some p.2
  | [], j, p, h => by simp at h
  | q :: L, 0, p, h => by
    simp only [List.getElem?_cons_zero, Option.some.injEq] at h
    subst h
    exact ⟨rfl, rfl⟩
  | q :: L, j + 1, p, h => by
    simp only [List.getElem?_cons_succ] at h
    obtain ⟨h1, h2⟩ := flatW_at L j p h
    have e : flatW (q :: L) = Value.int .i64 (q.1 : Int) :: q.2 :: flatW L := rfl
    rw [e, show (j + 1) * 2 = j * 2 + 1 + 1 by omega]
    simp only [List.getElem?_cons_succ]
    exact ⟨h1, h2⟩
theorem flatW_app (L M : List (Nat × Value)) : flatW (L ++ M) = flatW L ++ flatW M := by simp [flatW]
/-- the values of writes, each of which reads as its bytes whatever P becomes -/
structure WrL (P : Nat → Prop) (w : World) (L : List (Nat × Value)) (l : List (Nat × Bs)) : Prop where
  len : L.length = l.length
  at_ : ∀ j, j < l.length → (L.getD j (0, undef)).1 = (l.getD j (0, [])).1 ∧ Sta P w (fun W => Reads W (L.getD j (0, undef)).2 (l.getD j (0, [])).2)
theorem WrL.go {P P' : Nat → Prop} {w w' : World} {L : List (Nat × Value)} {l : List (Nat × Bs)} (h : WrL P w L l) (m : Mut P w w') (hP : ∀ k, k < w.heap.size → P' k → P k) : WrL P' w' L l := ⟨h.len, fun j hj => ⟨(h.at_ j hj).1, (h.at_ j hj).2.go m hP⟩⟩
theorem WrL.snoc {P : Nat → Prop} {w : World} {L : List (Nat × Value)} {l : List (Nat × Bs)} (h : WrL P w L l) {i : Nat} {v : Value} {b : Bs} (hb : Sta P w (fun W => Reads W v b)) : WrL P w (L ++ [(i, v)]) (l ++ [(i, b)]) := by
  refine ⟨by rw [List.length_append, List.length_append, h.len]; rfl, fun j hj => ?_⟩
  rw [List.length_append, List.length_singleton] at hj
  by_cases hl : j < l.length
  · rw [List.getD_eq_getElem?_getD, List.getD_eq_getElem?_getD, List.getElem?_append_left (by rw [h.len]; exact hl), List.getElem?_append_left hl, ← List.getD_eq_getElem?_getD, ← List.getD_eq_getElem?_getD]
    exact h.at_ j hl
  · obtain rfl : j = l.length := by omega
    rw [List.getD_eq_getElem?_getD, List.getD_eq_getElem?_getD, List.getElem?_append_right (Nat.le_refl _), List.getElem?_append_right (by rw [h.len]; exact Nat.le_refl _), h.len, Nat.sub_self]
    exact ⟨rfl, hb⟩
theorem WrL.one {P : Nat → Prop} {w : World} {L : List (Nat × Value)} {l : List (Nat × Bs)} (h : WrL P w L l) : ∀ p ∈ L, p.2.oneCell' = true := fun p hp => by
  obtain ⟨j, hj, rfl⟩ := List.getElem_of_mem hp
  have h1 := (h.at_ j (by rw [← h.len]; exact hj)).2.now
  have e : L.getD j (0, undef) = L[j] := by rw [List.getD_eq_getElem?_getD, List.getElem?_eq_getElem hj]; rfl
  rw [e] at h1
  obtain ⟨a, n, c, hv⟩ := h1.form
  rw [hv]
  rfl
/-- what an own row of writes reads as -/
theorem OwnW.st {P : Nat → Prop} {w : World} {base : Nat} {v : Value} {L : List (Nat × Value)} {l : List (Nat × Bs)} (h : OwnW w base v L) (hP : ∀ k, P k → k < base) (hl : WrL P w L l) : StaW P w v l := by
  rcases h with ⟨h1, ⟨rfl, h2⟩ | ⟨g, cap, cur, rfl, hg, hh, hc, hm, hs, ht⟩⟩
  · have h0 : l = [] := List.eq_nil_of_length_eq_zero (by rw [← hl.len]; exact h2)
    subst h0
    exact StaW.nil _ _
  · refine ⟨some ⟨g, 0, none⟩, cap, by rw [hl.len], by rw [← hl.len]; exact hc, (fun h => by cases h), fun hp => ⟨g, 0, rfl, fun hb => absurd (hP g hb) (by omega), fun j hj => ?_⟩⟩
    have hjL : j < L.length := by rw [hl.len]; exact hj
    have e : L[j]? = some (L.getD j (0, undef)) := by rw [List.getD_eq_getElem?_getD, List.getElem?_eq_getElem hjL]; rfl
    obtain ⟨f1, f2⟩ := flatW_at L j _ e
    obtain ⟨g1, g2⟩ := hl.at_ j hj
    have hcell : ∀ k u, k < L.length * 2 → (flatW L)[k]? = some u → w.cell? ⟨g, 0 + k, none⟩ = some u := fun k u hk hu => by
      rw [cell_of_row w g _ cur 51 (0, 0) hh, Nat.zero_add]
      rw [← ht, List.getElem?_take_of_lt hk] at hu
      simpa using hu
    refine ⟨(L.getD j (0, undef)).2, ?_, ?_, g2⟩
    · rw [← g1]; exact hcell (j * 2) _ (by omega) f1
    · rw [Nat.add_assoc]; exact hcell (j * 2 + 1) _ (by omega) f2
theorem OwnW.lt {w : World} {base : Nat} {v : Value} {L : List (Nat × Value)} (h : OwnW w base v L) : ∀ k, v.ownBlock = some k → base ≤ k ∧ k < w.heap.size := World.ownsRow.lt h
theorem OwnW.below {w w' : World} {base : Nat} {v : Value} {L : List (Nat × Value)} (h : OwnW w base v L) (hb : Below w.heap.size w w') : OwnW w' base v L := by
  have hlt := World.ownsRow.lt h
  rcases h with ⟨h1, ⟨rfl, h2⟩ | ⟨g, cap, cur, rfl, hg, hh, h3⟩⟩
  · exact ⟨h1, Or.inl ⟨rfl, h2⟩⟩
  · exact ⟨h1, Or.inr ⟨g, cap, cur, rfl, hg, by rw [hb.block g (hlt g rfl).2]; exact hh, h3⟩⟩
/-- the cells of a slice of writes -/
theorem rowsW (P : Nat → Prop) (w : World) (b : Nat) : ∀ (l : List (Nat × Bs)) (off : Nat), (∀ j, j < l.length → ∃ vj, w.cell? ⟨b, off + j * 2, none⟩ = some (.int .i64 ((l.getD j (0, [])).1 : Int)) ∧ w.cell? ⟨b, off + j * 2 + 1, none⟩ = some vj ∧ Sta P w (fun W => Reads W vj (l.getD j (0, [])).2)) →
    ∃ T : List (Nat × Value), WrL P w T l ∧ ∀ j u, (flatW T)[j]? = some u → w.cell? ⟨b, off + j, none⟩ = some u
  | [], off, _ => ⟨[], ⟨rfl, fun j hj => by simp at hj⟩, fun j u hj => by simp [flatW] at hj⟩
  | p :: l, off, h => by
    obtain ⟨v0, h0, r0, s0⟩ := h 0 (by simp)
    rw [Nat.zero_mul, Nat.add_zero] at h0 r0
    obtain ⟨T, hW, hc⟩ := rowsW P w b l (off + 2) (fun j hj => by
      obtain ⟨v, h1, h2, h3⟩ := h (j + 1) (by simpa using hj)
      exact ⟨v, by rw [show off + 2 + j * 2 = off + (j + 1) * 2 by omega]; exact h1, by rw [show off + 2 + j * 2 + 1 = off + (j + 1) * 2 + 1 by omega]; exact h2, h3⟩)
    refine ⟨(p.1, v0) :: T, ⟨by rw [List.length_cons, List.length_cons, hW.len], fun j hj => ?_⟩, fun j u hj => ?_⟩
    · cases j with
      | zero => exact ⟨rfl, s0⟩
      | succ j => exact hW.at_ j (by simpa using hj)
    · have e2 : flatW ((p.1, v0) :: T) = Value.int .i64 (p.1 : Int) :: v0 :: flatW T := rfl
      rw [e2] at hj
      match j with
      | 0 => simp only [List.getElem?_cons_zero, Option.some.injEq] at hj; subst hj; exact h0
      | 1 => simp only [List.getElem?_cons_succ, List.getElem?_cons_zero, Option.some.injEq] at hj; subst hj; exact r0
      | j + 2 =>
        simp only [List.getElem?_cons_succ] at hj
        have := hc j u hj
        rwa [show off + 2 + j = off + (j + 2) by omega] at this
/-- all writes of a slice behind nothing -/
theorem wpSeq_appendWs {ops : Array Oper} {Q : Exit → Act → World → Prop} {rest : List Oper} {o : Oper} {a : Act} {w : World} (P : Nat → Prop) (s x : Operand) (base : Nat) (l : List (Nat × Bs)) (ad : Option Addr) (n c : Nat) (hr : StaW P w (.slice ad n c) l) (hl : l.length < 1000000) (hbase : base ≤ w.heap.size)
    (ho : o.op = .call { callee := .builtin .append, args := #[s, x], argTypes := #[25, 25] }) (hs : a.eval s = .slice none 0 0) (hx : a.eval x = .slice ad n c) (hgd : o.guard = none)
    (h : ∀ v' w' T, WrL P w T l → OwnW w' base v' T → Below base w w' → wpList Try.prog ops Q rest (a.put o.dst v') w') : wpList Try.prog ops Q (o :: rest) a w := by
  obtain ⟨i0, hi, hz0, hz1, hz2⟩ := info_parts Try.infosW
  obtain ⟨ad', c', hv, hc, hn, hat⟩ := id hr
  simp only [Value.slice.injEq] at hv
  obtain ⟨rfl, rfl, rfl⟩ := hv
  cases ad with
  | none =>
    have h0 : l = [] := List.eq_nil_of_length_eq_zero (by have := hn rfl; omega)
    subst h0
    have hc0 := hn rfl
    subst hc0
    exact wpList_append_own_none hgd s x 25 ho base 51 i0 2 Try.underlying25 hi (.slice none 0 0) 0 [] hs (World.ownsRow_nil _ _ _ _) hx (h (.slice none 0 0) w [] ⟨rfl, fun j hj => by simp at hj⟩ (OwnW.nil _ _) (Below.refl _ _))
  | some ad =>
    obtain ⟨T, hW, hcell⟩ : ∃ T : List (Nat × Value), WrL P w T l ∧ ∀ j u, (flatW T)[j]? = some u → w.cell? (ad.add j) = some u := by
      by_cases hp : 0 < l.length
      · obtain ⟨b, off, hb, _, hy⟩ := hat hp
        simp only [Option.some.injEq] at hb
        subst hb
        obtain ⟨T, h1, h2⟩ := rowsW P w b l off hy
        exact ⟨T, h1, fun j u hj => by rw [Addr.add_mid]; exact h2 j u hj⟩
      · have h0 : l = [] := List.eq_nil_of_length_eq_zero (by omega)
        subst h0
        exact ⟨[], ⟨rfl, fun j hj => by simp at hj⟩, fun j u hj => by simp [flatW] at hj⟩
    refine wpList_append_own_at w hgd s x 25 ho base 51 i0 (.agg #[.int .i64 0, .slice none 0 0]) 2 32 Try.underlying25 hi hz0 hz1 hz2 rfl (by decide) (.slice none 0 0) 0 [] hs (World.ownsRow_nil _ _ _ _) ad l.length c (flatW T) hx (by rw [flatW_len T, hW.len]) hcell (flatW_one T hW.one) (by unfold maxLen; omega) (by omega) hbase ?_
    intro v' w' h2 h3 _ _
    refine h v' w' T hW ?_ ((Below.refl _ _).grown h3 hbase (fun k hk => by simp [Value.ownBlock] at hk))
    unfold OwnW
    rw [hW.len]
    rw [Nat.zero_add, List.nil_append] at h2
    exact h2
/-- one write more -/
theorem wpSeq_appendW1 {ops : Array Oper} {Q : Exit → Act → World → Prop} {rest : List Oper} {o : Oper} {a : Act} {w : World} (s x : Operand) (base : Nat) (v : Value) (L : List (Nat × Value)) (i : Nat) (ad : Option Addr) (nn cc : Nat) (g : Nat)
    (hown : OwnW w base v L) (hu : Blk w g [.int .i64 (i : Int), .slice ad nn cc] 51) (hl : L.length < 1000000) (hbase : base ≤ w.heap.size)
    (ho : o.op = .call { callee := .builtin .append, args := #[s, x], argTypes := #[25, 25] }) (hs : a.eval s = v) (hx : a.eval x = .slice (some ⟨g, 0, none⟩) 1 1) (hgd : o.guard = none)
    (h : ∀ v' w', OwnW w' base v' (L ++ [(i, .slice ad nn cc)]) → w.grownBy w' v.ownBlock → wpList Try.prog ops Q rest (a.put o.dst v') w') : wpList Try.prog ops Q (o :: rest) a w := by
  obtain ⟨i0, hi, hz0, hz1, hz2⟩ := info_parts Try.infosW
  refine wpList_append_own_at w hgd s x 25 ho base 51 i0 (.agg #[.int .i64 0, .slice none 0 0]) 2 32 Try.underlying25 hi hz0 hz1 hz2 rfl (by decide) v L.length (flatW L) hs hown ⟨g, 0, none⟩ 1 1 [.int .i64 (i : Int), .slice ad nn cc] hx rfl ?_ (fun u hu => by simp at hu; rcases hu with rfl | rfl <;> rfl) (by unfold maxLen; omega) (by omega) hbase ?_
  · intro j u hj
    rw [Addr.add_mid, Nat.zero_add, hu.cell, hj]
  · intro v' w' h2 h3 _ _
    refine h v' w' ?_ h3
    unfold OwnW
    rw [flatW_app, List.length_append]
    exact h2
end Go.Proofs.Ytdllnedmhhajnaa

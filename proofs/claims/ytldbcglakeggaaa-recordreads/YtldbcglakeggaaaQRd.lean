/- The walks of blazonref04.ReadNums and ReadTexts. -/
import Derived.Test.YtldbcglakeggaaaRIn3
namespace Go.Proofs.Ytldbcglakeggaaa
open Go.RowKit
theorem InS.others {w w' : World} {g : Nat} {v : Value} {l : List (BitVec 8)} {pos : Nat} {bad : Bool} (h : InS w g v l pos bad) (hv : 0 < l.length → ∀ k, v.ownBlock = some k → k < g) (hb : Below (g + 1) w w') : InS w' g v l pos bad := by
  refine ⟨h.blk.below hb (by omega), ?_, h.le⟩
  obtain ⟨ad, cap, rfl, hc, hn, hx⟩ := h.byt
  refine ⟨ad, cap, rfl, hc, hn, fun hp => ?_⟩
  obtain ⟨b, off, rfl, hy⟩ := hx hp
  refine ⟨b, off, rfl, fun j hj => ?_⟩
  rw [hb.cell (p := ⟨b, off + j, none⟩) (by have := hv hp b rfl; show b < g + 1; omega)]
  exact hy j hj
theorem below_drewN {B : Nat} {a b : World} (h : Below B a b) (n : Nat) : Below B a (b.drewN n) := ⟨h.os, h.tape, h.output, h.size, h.block⟩
theorem wpList_law {P : Program} {ops : Array Oper} {rest : List Oper} {o : Oper} {a : Act} {w : World} {Q : Exit → Act → World → Prop} (hg : o.guard = none) (h : o.wp P a w (wpList P ops Q rest) Q) : wpList P ops Q (o :: rest) a w :=
  wpList_plain hg (fun _ hK => Oper.wp_mono (fun a' w' h => hK a' w' h) h)
def QrInvN (g : Nat) (v : Value) (l : List (BitVec 8)) (w : World) (n : Nat) (r : List (BitVec 8)) (k : Nat) (u : Value) (wr : World) : Prop :=
  Below g w wr ∧ g + 1 ≤ wr.heap.size ∧ ((∃ (xs : List (Nat)) (pos : Nat) (vs : List Value), xs.length = k ∧ k ≤ n ∧ InS wr g v l pos false ∧ readAll readNum n r = (readAll readNum (n - k) (l.drop pos)).map (fun p => (xs ++ p.1, p.2)) ∧ OwnV wr (g + 1) 23 u vs ∧ GoodN wr (g + 1) vs xs) ∨
    (∃ pos ad m c, InS wr g v l pos true ∧ readAll readNum n r = none ∧ u = .slice ad m c))
theorem qrN_next {g : Nat} {v : Value} {l : List (BitVec 8)} {w wr w4 w6 : World} {n : Nat} {r : List (BitVec 8)} {k p : Nat} {xs : List (Nat)} {vl vl2 u : Value} {vs : List Value} {pos : Nat} {a : Nat} (hb : Below g w wr) (hsz : g + 1 ≤ wr.heap.size) (hlen : xs.length = k) (hk : k < n) (hv : 0 < l.length → ∀ k, v.ownBlock = some k → k < g)
    (heq : readAll readNum n r = (readAll readNum (n - k) (l.drop pos)).map (fun p => (xs ++ p.1, p.2))) (hown : OwnV wr (g + 1) 23 vl vs) (hgood : GoodN wr (g + 1) vs xs) (hg : readNum (l.drop pos) = some (a, l.drop p)) (hs4 : InS w4 g v l p false) (ho4 : Only g wr w4) (hu : u = .int .u64 (a : Int))
    (hown6 : OwnV w6 (g + 1) 23 vl2 (vs ++ [u])) (hgrow : (w4.alloc (.cells #[u] 23)).grownBy w6 vl.ownBlock) : QrInvN g v l w n r (k + 1) vl2 w6 := by
  have hrow : ∀ k, vl.ownBlock = some k → g + 1 ≤ k := fun k hk => (hown.lt k hk).1
  have hs4' : g + 1 ≤ w4.heap.size := Nat.le_trans hsz ho4.size
  have b45 : Below (g + 1) w4 (w4.alloc (.cells #[u] 23)) := (below_alloc w4 _).mono hs4'
  have b56 : Below (g + 1) (w4.alloc (.cells #[u] 23)) w6 := (Below.refl _ _).grown hgrow (Nat.le_trans hs4' b45.size) hrow
  have b46 := b45.trans b56
  have b14 : Below g wr w4 := ho4.below (Nat.le_refl _) (by omega)
  refine ⟨(hb.trans b14).trans (b46.mono (by omega)), Nat.le_trans hs4' b46.size, Or.inl ⟨xs ++ [a], p, vs ++ [u], by rw [List.length_append, hlen]; rfl, by omega, hs4.others hv b46, ?_, hown6, ?_⟩⟩
  · rw [show n - k = (n - (k + 1)) + 1 by omega] at heq
    exact readAll_more readNum (n - (k + 1)) (l.drop pos) (l.drop p) a n xs r heq hg
  · unfold GoodN at hgood ⊢
    rw [hgood, hu, List.map_append]
    rfl
def QrInvT (g : Nat) (v : Value) (l : List (BitVec 8)) (w : World) (n : Nat) (r : List (BitVec 8)) (k : Nat) (u : Value) (wr : World) : Prop :=
  Below g w wr ∧ g + 1 ≤ wr.heap.size ∧ ((∃ (xs : List (List (BitVec 8))) (pos : Nat) (vs : List Value), xs.length = k ∧ k ≤ n ∧ InS wr g v l pos false ∧ readAll readText n r = (readAll readText (n - k) (l.drop pos)).map (fun p => (xs ++ p.1, p.2)) ∧ OwnV wr (g + 1) 22 u vs ∧ GoodT wr (g + 1) vs xs) ∨
    (∃ pos ad m c, InS wr g v l pos true ∧ readAll readText n r = none ∧ u = .slice ad m c))
theorem qrT_next {g : Nat} {v : Value} {l : List (BitVec 8)} {w wr w4 w6 : World} {n : Nat} {r : List (BitVec 8)} {k p : Nat} {xs : List (List (BitVec 8))} {vl vl2 u : Value} {vs : List Value} {pos : Nat} {a : List (BitVec 8)} (hb : Below g w wr) (hsz : g + 1 ≤ wr.heap.size) (hlen : xs.length = k) (hk : k < n) (hv : 0 < l.length → ∀ k, v.ownBlock = some k → k < g)
    (heq : readAll readText n r = (readAll readText (n - k) (l.drop pos)).map (fun p => (xs ++ p.1, p.2))) (hown : OwnV wr (g + 1) 22 vl vs) (hgood : GoodT wr (g + 1) vs xs) (hg : readText (l.drop pos) = some (a, l.drop p)) (hs4 : InS w4 g v l p false) (ho4 : Only g wr w4) (hu : OwnB w4 (g + 1) u a)
    (hown6 : OwnV w6 (g + 1) 22 vl2 (vs ++ [u])) (hgrow : (w4.alloc (.cells #[u] 22)).grownBy w6 vl.ownBlock) : QrInvT g v l w n r (k + 1) vl2 w6 := by
  have hrow : ∀ k, vl.ownBlock = some k → g + 1 ≤ k := fun k hk => (hown.lt k hk).1
  have hs4' : g + 1 ≤ w4.heap.size := Nat.le_trans hsz ho4.size
  have b45 : Below (g + 1) w4 (w4.alloc (.cells #[u] 22)) := (below_alloc w4 _).mono hs4'
  have b56 : Below (g + 1) (w4.alloc (.cells #[u] 22)) w6 := (Below.refl _ _).grown hgrow (Nat.le_trans hs4' b45.size) hrow
  have b46 := b45.trans b56
  have b14 : Below g wr w4 := ho4.below (Nat.le_refl _) (by omega)
  refine ⟨(hb.trans b14).trans (b46.mono (by omega)), Nat.le_trans hs4' b46.size, Or.inl ⟨xs ++ [a], p, vs ++ [u], by rw [List.length_append, hlen]; rfl, by omega, hs4.others hv b46, ?_, hown6, ?_⟩⟩
  · rw [show n - k = (n - (k + 1)) + 1 by omega] at heq
    exact readAll_more readText (n - (k + 1)) (l.drop pos) (l.drop p) a n xs r heq hg
  · have hown4 : OwnV w4 (g + 1) 22 vl vs := hown.same (fun k hk => ho4.block k (by have := (hown.lt k hk).1; omega) (hown.lt k hk).2)
    have up : ∀ x t, OwnB w4 (g + 1) x t → OwnB w6 (g + 1) x t := fun x t hx => by
      have hne := hx.apart (by decide) hown4
      refine hx.same (fun k hk => ?_)
      have h2 := hx.lt k hk
      rw [hgrow.block k (by simp; omega) (hne k hk), Go.RowKit.Below.heap_alloc w4 _ k h2]
    refine ⟨by rw [List.length_append, List.length_append, hgood.1]; rfl, fun j x hj => ?_⟩
    by_cases hjl : j < vs.length
    · rw [List.getElem?_append_left hjl] at hj
      have h1 := hgood.2 j x hj
      have h2 : (xs ++ [a]).getD j [] = xs.getD j [] := by
        rw [List.getD_eq_getElem?_getD, List.getD_eq_getElem?_getD, List.getElem?_append_left (by rw [← hgood.1]; exact hjl)]
      rw [h2]
      exact up _ _ (h1.same (fun k hk => ho4.block k (by have := h1.own k hk; omega) (h1.lt k hk)))
    · rw [List.getElem?_append_right (by omega)] at hj
      have hj0 : j = vs.length := by
        have := (List.getElem?_eq_some_iff.1 hj).1
        simp at this
        omega
      subst hj0
      simp at hj
      subst hj
      have h2 : (xs ++ [a]).getD vs.length [] = a := by
        rw [List.getD_eq_getElem?_getD, hgood.1, List.getElem?_append_right (Nat.le_refl _), Nat.sub_self]
        rfl
      rw [h2]
      exact up _ _ hu
end Go.Proofs.Ytldbcglakeggaaa

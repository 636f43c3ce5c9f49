/- The walks of codec.readList at texts, of what it hands to Read, and of codec.ReadTexts. -/
import Derived.Test.YtdhglbemkaogiabLMem
namespace Go.Proofs.Ytdhglbemkaogiab
open Go.RowKit
/-- the variable at gl holds the list -/
def LsT (w : World) (gl B : Nat) (xs : List (List (BitVec 8))) : Prop := ∃ vl vs, Blk w gl [vl] 23 ∧ OwnV w B 25 vl vs ∧ GoodT w B vs xs
structure RlInvT (H gl : Nat) (vb : Value) (w1 : World) (n : Nat) (r : List (BitVec 8)) (k : Nat) (xs : List (List (BitVec 8))) (rest : List (BitVec 8)) (wr : World) : Prop where
  le : k ≤ n
  len : xs.length = k
  eq : readAll readText n r = (readAll readText (n - k) rest).map (fun p => (xs ++ p.1, p.2))
  rdr : ∃ v, Rd wr (H + 3) (H + 1) v rest ∧ v.ownBlock = vb.ownBlock
  row : LsT wr gl (H + 4) xs
  fr : Fr (H + 1) gl (H + 4) w1 wr
theorem RlInvT.next {H gl : Nat} {vb : Value} {w1 : World} {n : Nat} {r : List (BitVec 8)} {k : Nat} {xs : List (List (BitVec 8))} {rest : List (BitVec 8)} {wr w3 : World} {vl : Value} {vs : List Value} (hI : RlInvT H gl vb w1 n r k xs rest wr) (hlt : k < n) (hgl : gl < H) (hvb : ∀ k, vb.ownBlock = some k → k < H + 4)
    (hbl : Blk w3 gl [vl] 23) (hown : OwnV w3 (H + 4) 25 vl vs) (hgood : GoodT w3 (H + 4) vs xs) (hsz : H + 4 ≤ w3.heap.size) (hfr : Fr (H + 1) gl (H + 4) w1 w3) (w4 w6 : World) (v2 u vl2 : Value) (a : List (BitVec 8)) (rest2 : List (BitVec 8)) (hg : readText rest = some (a, rest2))
    (hrd4 : Rd w4 (H + 3) (H + 1) v2 rest2) (ho4 : Only (H + 1) w3 w4) (hob4 : v2.ownBlock = vb.ownBlock) (hu : OwnB w4 (H + 4) u a) (hown6 : OwnV w6 (H + 4) 25 vl2 (vs ++ [u])) (hgrow : (w4.alloc (.cells #[u] 25)).grownBy w6 vl.ownBlock) :
    RlInvT H gl vb w1 n r (k + 1) (xs ++ [a]) rest2 (w6.setCell ⟨gl, 0, none⟩ vl2) := by
  have hrow : ∀ k, vl.ownBlock = some k → H + 4 ≤ k := fun k hk => (hown.lt k hk).1
  have hs4 : H + 4 ≤ w4.heap.size := Nat.le_trans hsz ho4.size
  have b45 : Below (H + 4) w4 (w4.alloc (.cells #[u] 25)) := (below_alloc w4 _).mono hs4
  have b56 : Below (H + 4) (w4.alloc (.cells #[u] 25)) w6 := (Below.refl _ _).grown hgrow (Nat.le_trans hs4 b45.size) hrow
  have b46 := b45.trans b56
  have hbl4 : Blk w4 gl [vl] 23 := hbl.only ho4 (by omega)
  have hbl6 : Blk w6 gl [vl] 23 := hbl4.below b46 (by omega)
  obtain ⟨adl, cl, hvl, _⟩ := hown.slice
  have hrd6 : Rd w6 (H + 3) (H + 1) v2 rest2 := hrd4.others (B := H + 4) (by omega) (by omega) (fun _ k hk => hvb k (hob4 ▸ hk)) (Nat.le_refl _) b46
  refine ⟨by omega, by rw [List.length_append, hI.len]; rfl, ?_, ⟨v2, hrd6.setOther hbl6 ⟨adl, _, cl, hvl⟩ (by omega) (by omega) vl2, hob4⟩, ⟨vl2, vs ++ [u], hbl6.set 0 vl2, hown6.same (fun k hk => Below.heap_setCell _ _ _ _ (by have := (hown6.lt k hk).1; simp; omega)), ?_⟩, ((hfr.only ho4 hsz).below b46).setCell 0 vl2⟩
  · have he := hI.eq
    rw [show n - k = (n - (k + 1)) + 1 by omega] at he
    exact readAll_more readText (n - (k + 1)) rest rest2 a n xs r he hg
  · have hown4 : OwnV w4 (H + 4) 25 vl vs := hown.same (fun k hk => ho4.block k (by have := (hown.lt k hk).1; omega) (hown.lt k hk).2)
    have up : ∀ x t, OwnB w4 (H + 4) x t → OwnB (w6.setCell ⟨gl, 0, none⟩ vl2) (H + 4) x t := fun x t hx => by
      have hne := hx.apart (by decide) hown4
      refine hx.same (fun k hk => ?_)
      have h1 := hx.own k hk
      have h2 := hx.lt k hk
      rw [Below.heap_setCell _ _ _ _ (by simp; omega), hgrow.block k (by simp; omega) (hne k hk), Go.RowKit.Below.heap_alloc w4 _ k h2]
    refine ⟨by rw [List.length_append, List.length_append, hgood.1]; rfl, fun j x hj => ?_⟩
    by_cases hjl : j < vs.length
    · rw [List.getElem?_append_left hjl] at hj
      have h1 := hgood.2 j x hj
      have h2 : (xs ++ [a]).getD j [] = xs.getD j [] := by
        rw [List.getD_eq_getElem?_getD, List.getD_eq_getElem?_getD, List.getElem?_append_left (by rw [← hgood.1]; exact hjl)]
      rw [h2]
      exact up _ _ (h1.same (fun k hk => ho4.block k (by have := h1.own k hk; omega) (h1.lt k hk)))
    · rw [List.getElem?_append_right (by omega)] at hj
      have hj0 : j = vs.length := by
        have := (List.getElem?_eq_some_iff.1 hj).1
        simp at this
        omega
      subst hj0
      simp at hj
      subst hj
      have h2 : (xs ++ [a]).getD vs.length [] = a := by
        rw [List.getD_eq_getElem?_getD, hgood.1, List.getElem?_append_right (Nat.le_refl _), Nat.sub_self]
        rfl
      rw [h2]
      exact up _ _ hu
theorem RlInvT.threw {H gl : Nat} {vb : Value} {w1 : World} {n : Nat} {r l : List (BitVec 8)} {k : Nat} {xs : List (List (BitVec 8))} {rest : List (BitVec 8)} {wr w3 w4 : World} {e : Ending} (hI : RlInvT H gl vb w1 n r k xs rest wr) (hlt : k < n) (hgl : gl < H) (hsz1 : w1.heap.size = H + 4) (hm : readMany readText l = readAll readText n r)
    (hfr : Fr (H + 1) gl (H + 4) w1 w3) (hsz : H + 4 ≤ w3.heap.size) (hg : readText rest = none) (hT : Threw (H + 1) w3 e w4) :
    Does H (fun l2 w2 => ∃ ns, readMany readText l = some (ns, l2) ∧ LsT w2 gl (H + 4) ns ∧ Fr (H + 1) gl (H + 4) w1 w2) (fun w2 => readMany readText l = none ∧ Fr (H + 1) gl (H + 4) w1 w2) w1 (thrown (H + 1)) w4 := by
  have hf4 := hfr.only hT.onl hsz
  obtain ⟨v, hb, ad, m, c, hv⟩ := hT.bad
  refine ⟨hf4.size, fun k h1 h2 h3 => hf4.block k h2 h3 (by omega), Or.inr ⟨rfl, ⟨v, ad, m, c, hv, hb⟩, ?_, hf4⟩⟩
  rw [hm, hI.eq, show n - k = (n - (k + 1)) + 1 by omega, readAll, hg]
  rfl
end Go.Proofs.Ytdhglbemkaogiab

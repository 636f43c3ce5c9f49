/- Texts that the proof leans on, one behind the other: The walks of codec.readList at texts, of what it hands to Read, and of codec.ReadTexts. The walks of codec.readList, ReadNums and ReadTexts. The walks of the reference's reader: Num, Count, Take, Text, Digest, Done. .. -/
import Derived.Test.YtableajopaappaaDoorMgc
import Derived.BigQuiet
import Derived.Deep.RegionHeld3
import Derived.Laws.ResultCell
import Derived.Great.BuildSlice
import Derived.Lib.SlBytesConst
import Derived.Deep.DeepCutAuto
import Derived.Test.YtableajopaappaaDoorMgb
/- The walks of codec.readList at texts, of what it hands to Read, and of codec.ReadTexts. -/
namespace Go.Proofs.YtableajopaappaaDoor
open Go.RowKit
set_option maxRecDepth 100000
/-- the variable at gl holds the list -/
def LsT (w : World) (gl B : Nat) (xs : List (List (BitVec 8))) : Prop := ∃ vl vs, Blk w gl [vl] 64 ∧ OwnV w B 28 vl vs ∧ GoodT w B vs xs
structure RlInvT (H gl : Nat) (vb : Value) (w1 : World) (n : Nat) (r : List (BitVec 8)) (k : Nat) (xs : List (List (BitVec 8))) (rest : List (BitVec 8)) (wr : World) : Prop where
  le : k ≤ n
  len : xs.length = k
  eq : readAll readText n r = (readAll readText (n - k) rest).map (fun p => (xs ++ p.1, p.2))
  rdr : ∃ v, Rd wr (H + 3) (H + 1) v rest ∧ v.ownBlock = vb.ownBlock
  row : LsT wr gl (H + 4) xs
  fr : Fr (H + 1) gl (H + 4) w1 wr
theorem RlInvT.next {H gl : Nat} {vb : Value} {w1 : World} {n : Nat} {r : List (BitVec 8)} {k : Nat} {xs : List (List (BitVec 8))} {rest : List (BitVec 8)} {wr w3 : World} {vl : Value} {vs : List Value} (hI : RlInvT H gl vb w1 n r k xs rest wr) (hlt : k < n) (hgl : gl < H) (hvb : ∀ k, vb.ownBlock = some k → k < H + 4)
    (hbl : Blk w3 gl [vl] 64) (hown : OwnV w3 (H + 4) 28 vl vs) (hgood : GoodT w3 (H + 4) vs xs) (hsz : H + 4 ≤ w3.heap.size) (hfr : Fr (H + 1) gl (H + 4) w1 w3) (w4 w6 : World) (v2 u vl2 : Value) (a : List (BitVec 8)) (rest2 : List (BitVec 8)) (hg : readText rest = some (a, rest2))
    (hrd4 : Rd w4 (H + 3) (H + 1) v2 rest2) (ho4 : Only (H + 1) w3 w4) (hob4 : v2.ownBlock = vb.ownBlock) (hu : OwnB w4 (H + 4) u a) (hown6 : OwnV w6 (H + 4) 28 vl2 (vs ++ [u])) (hgrow : (w4.alloc (.cells #[u] 28)).grownBy w6 vl.ownBlock) :
    RlInvT H gl vb w1 n r (k + 1) (xs ++ [a]) rest2 (w6.setCell ⟨gl, 0, none⟩ vl2) := by
  have hrow : ∀ k, vl.ownBlock = some k → H + 4 ≤ k := fun k hk => (hown.lt k hk).1
  have hs4 : H + 4 ≤ w4.heap.size := Nat.le_trans hsz ho4.size
  have b45 : Below (H + 4) w4 (w4.alloc (.cells #[u] 28)) := (below_alloc w4 _).mono hs4
  have b56 : Below (H + 4) (w4.alloc (.cells #[u] 28)) w6 := (Below.refl _ _).grown hgrow (Nat.le_trans hs4 b45.size) hrow
  have b46 := b45.trans b56
  have hbl4 : Blk w4 gl [vl] 64 := hbl.only ho4 (by omega)
  have hbl6 : Blk w6 gl [vl] 64 := hbl4.below b46 (by omega)
  obtain ⟨adl, cl, hvl, _⟩ := hown.slice
  have hrd6 : Rd w6 (H + 3) (H + 1) v2 rest2 := hrd4.others (B := H + 4) (by omega) (by omega) (fun _ k hk => hvb k (hob4 ▸ hk)) (Nat.le_refl _) b46
  refine ⟨by omega, by rw [List.length_append, hI.len]; rfl, ?_, ⟨v2, hrd6.setOther hbl6 ⟨adl, _, cl, hvl⟩ (by omega) (by omega) vl2, hob4⟩, ⟨vl2, vs ++ [u], hbl6.set 0 vl2, hown6.same (fun k hk => Below.heap_setCell _ _ _ _ (by have := (hown6.lt k hk).1; simp; omega)), ?_⟩, ((hfr.only ho4 hsz).below b46).setCell 0 vl2⟩
  · have he := hI.eq
    rw [show n - k = (n - (k + 1)) + 1 by omega] at he
    exact readAll_more readText (n - (k + 1)) rest rest2 a n xs r he hg
  · have hown4 : OwnV w4 (H + 4) 28 vl vs := hown.same (fun k hk => ho4.block k (by have := (hown.lt k hk).1; omega) (hown.lt k hk).2)
    have up : ∀ x t, OwnB w4 (H + 4) x t → OwnB (w6.setCell ⟨gl, 0, none⟩ vl2) (H + 4) x t := fun x t hx => by
      have hne := hx.apart (by decide) hown4
      refine hx.same (fun k hk => ?_)
      have h1 := hx.own k hk
      have h2 := hx.lt k hk
      rw [Below.heap_setCell _ _ _ _ (by simp; omega), hgrow.block k (by simp; omega) (hne k hk), Go.RowKit.Below.heap_alloc w4 _ k h2]
    refine ⟨by rw [List.length_append, List.length_append, hgood.1]; rfl, fun j x hj => ?_⟩
    by_cases hjl : j < vs.length
    · rw [List.getElem?_append_left hjl] at hj
      have h1 := hgood.2 j x hj
      have h2 : (xs ++ [a]).getD j [] = xs.getD j [] := by
        rw [List.getD_eq_getElem?_getD, List.getD_eq_getElem?_getD, List.getElem?_append_left (by rw [← hgood.1]; exact hjl)]
      rw [h2]
      exact up _ _ (h1.same (fun k hk => ho4.block k (by have := h1.own k hk; omega) (h1.lt k hk)))
    · rw [List.getElem?_append_right (by omega)] at hj
      have hj0 : j = vs.length := by
        have := (List.getElem?_eq_some_iff.1 hj).1
        simp at this
        omega
      subst hj0
      simp at hj
      subst hj
      have h2 : (xs ++ [a]).getD vs.length [] = a := by
        rw [List.getD_eq_getElem?_getD, hgood.1, List.getElem?_append_right (Nat.le_refl _), Nat.sub_self]
        rfl
      rw [h2]
      exact up _ _ hu
theorem RlInvT.threw {H gl : Nat} {vb : Value} {w1 : World} {n : Nat} {r l : List (BitVec 8)} {k : Nat} {xs : List (List (BitVec 8))} {rest : List (BitVec 8)} {wr w3 w4 : World} {e : Ending} (hI : RlInvT H gl vb w1 n r k xs rest wr) (hlt : k < n) (hgl : gl < H) (hsz1 : w1.heap.size = H + 4) (hm : readMany readText l = readAll readText n r)
    (hfr : Fr (H + 1) gl (H + 4) w1 w3) (hsz : H + 4 ≤ w3.heap.size) (hg : readText rest = none) (hT : Threw (H + 1) w3 e w4) :
    Does H (fun l2 w2 => ∃ ns, readMany readText l = some (ns, l2) ∧ LsT w2 gl (H + 4) ns ∧ Fr (H + 1) gl (H + 4) w1 w2) (fun w2 => readMany readText l = none ∧ Fr (H + 1) gl (H + 4) w1 w2) w1 (thrown (H + 1)) w4 := by
  have hf4 := hfr.only hT.onl hsz
  obtain ⟨v, hb, ad, m, c, hv⟩ := hT.bad
  refine ⟨hf4.size, fun k h1 h2 h3 => hf4.block k h2 h3 (by omega), Or.inr ⟨rfl, ⟨v, ad, m, c, hv, hb⟩, ?_, hf4⟩⟩
  rw [hm, hI.eq, show n - k = (n - (k + 1)) + 1 by omega, readAll, hg]
  rfl
set_option maxRecDepth 100000 in
set_option maxHeartbeats 2000000 in
theorem rdlT1_any (H gl gf : Nat) (vb : Value) (l : List (BitVec 8)) (w1 : World) (hsz : w1.heap.size = H + 4) (hgl : gl < H) (hgf : gf < H) (hne : gf ≠ gl) (hrd : Rd w1 (H + 3) (H + 1) vb l) (hL : Blk w1 gl [.slice none 0 0] 64) (hF : Blk w1 gf [.func (.func 57) #[] #[]] 88) :
    Calls Tryd.prog 80 #[.pointer (some ⟨H + 3, 0, none⟩), .pointer (some ⟨gl, 0, none⟩), .pointer (some ⟨gf, 0, none⟩)] w1 (Does H (fun l2 w2 => ∃ ns, readMany readText l = some (ns, l2) ∧ LsT w2 gl (H + 4) ns ∧ Fr (H + 1) gl (H + 4) w1 w2) (fun w2 => readMany readText l = none ∧ Fr (H + 1) gl (H + 4) w1 w2) w1) := by
  have HR : Hid (Rd w1 (H + 3) (H + 1) vb l) := hrd
  have HL : Hid (Blk w1 gl [.slice none 0 0] 64) := hL
  have HF : Hid (Blk w1 gf [.func (.func 57) #[] #[]] 88) := hF
  have HGL : Hid (gl < H) := hgl
  have HGF : Hid (gf < H ∧ gf ≠ gl) := ⟨hgf, hne⟩
  have HSZ1 : Hid (w1.heap.size = H + 4) := hsz
  clear hrd hL hF hgl hgf hne hsz
  go_enter Tryd.func80, Tryd.ntmps80
  go_wp2_with fail
  refine (ccount_any (H + 3) (H + 1) 4096 (by omega) vb l w1 HR.out).mono ?_
  rintro e w2 (⟨n, r, va, v2, hc, rfl, rfl, hrd, ho, hob⟩ | ⟨hc, hT⟩)
  · have hn : n ≤ 4096 := by
      unfold readCount at hc
      split at hc
      · cases hc
      · split at hc
        · simp only [Option.some.injEq, Prod.mk.injEq] at hc; omega
        · cases hc
    have HM : Hid (readMany readText l = readAll readText n r) := by show _ = _; unfold readMany; rw [hc]
    have HVB : Hid (∀ k, vb.ownBlock = some k → k < H + 4) := by
      intro k hk
      have hl : 0 < l.length := by
        cases l with
        | nil => simp [readCount, readNum, decNum] at hc
        | cons x y => simp
      obtain ⟨ad, cap, rfl, _, _, hx⟩ := HR.out.byt
      obtain ⟨b, off, rfl, hy⟩ := hx hl
      simp only [Value.ownBlock, Option.some.injEq] at hk
      subst hk
      have := block_lt_of_cell (hy 0 hl)
      rw [HSZ1.out] at this
      exact this
    have hf0 : Fr (H + 1) gl (H + 4) w1 w2 := (Fr.refl _ _ _ _).only ho (by rw [HSZ1.out]; exact Nat.le_refl _)
    have hI : RlInvT H gl vb w1 n r 0 [] r w2 := ⟨by omega, rfl, by rw [Nat.sub_zero]; cases readAll readText n r <;> rfl, ⟨v2, hrd, hob⟩, ⟨_, [], HL.out.only ho (by have := HGL.out; omega), OwnV.nil _ _ _, ⟨rfl, fun j u hj => by simp at hj⟩⟩, hf0⟩
    clear hc hrd ho hob hf0 HR HL
    go_wp2
    go_loopw [6] (fun i wr => ∃ (k : Nat) (xs : List (List (BitVec 8))) (rest : List (BitVec 8)), i = .int .i64 (k : Int) ∧ RlInvT H gl vb w1 n r k xs rest wr) (fun i _ => n - (intOf i).toNat)
    case atStart => exact ⟨0, [], r, rfl, hI⟩
    case round =>
      clear hI
      obtain ⟨k, xs, rest, rfl, hI⟩ := hrel
      have HI : Hid (RlInvT H gl vb w1 n r k xs rest wr) := hI
      have hk := hI.le
      by_cases hlt : k < n
      · obtain ⟨v, hrd, hob⟩ := hI.rdr
        obtain ⟨vl, vs, hbl, hown, hgood⟩ := hI.row
        have HOB : Hid (v.ownBlock = vb.ownBlock) := hob
        have HRD3 : Hid (Rd wr.drew (H + 3) (H + 1) v rest) := ⟨hrd.rd.drew, hrd.inp.drew, hrd.byt⟩
        have HBL3 : Hid (Blk wr.drew gl [vl] 64) := hbl.drew
        have HO3 : Hid (OwnV wr.drew (H + 4) 28 vl vs) := hown
        have HGD3 : Hid (GoodT wr.drew (H + 4) vs xs) := hgood
        have HFR3 : Hid (Fr (H + 1) gl (H + 4) w1 wr.drew) := hI.fr.drew
        have HSZ : Hid (H + 4 ≤ wr.drew.heap.size) := by show _ ≤ _; have := hI.fr.size; rw [HSZ1.out] at this; exact this
        have hbf : Blk wr.drew gf [.func (.func 57) #[] #[]] 88 := by
          have h1 := HF.out
          unfold Blk at h1 ⊢
          rw [HFR3.out.block gf (by have := HGF.out.1; omega) (by have := HGF.out.1; omega) HGF.out.2]
          exact h1
        have cl3 : wr.drew.cell? ⟨gl, 0, none⟩ = some vl := HBL3.out.cell 0
        have cf3 : wr.drew.cell? ⟨gf, 0, none⟩ = some (.func (.func 57) #[] #[]) := hbf.cell 0
        obtain ⟨adl, cl, hvl, _⟩ := hown.slice
        have HVL : Hid (vs.length < 1000000) := by
          have h1 := hI.len
          have h2 : vs.length = xs.length := by exact hgood.1
          show _ < _
          omega
        obtain ⟨nl, HNL⟩ : ∃ x, Hid (x = vs.length) := ⟨_, rfl⟩
        rw [← HNL.out] at hvl
        subst hvl
        have HC := crtext_any (H + 3) (H + 1) v rest wr.drew HRD3.out
        replace HC : Hid _ := HC
        obtain ⟨vl, HVLE⟩ : ∃ x, Hid (x = Value.slice adl nl cl) := ⟨_, rfl⟩
        rw [← HVLE.out] at HBL3 HO3 cl3
        clear hrd hob hbl hown hgood hbf hI
        go_wp2_with fail
        refine wp_region_any (by kernel_rfl) ?_
        change wpAny _ _ _ _ _ _ _ (World.drew _)
        generalize wr.drew = w3 at *
        refine wpAny_take (i := 2) (v := .pointer (some ⟨H + 3, 0, none⟩)) rfl (by kernel_rfl) (by kernel_rfl) (by kernel_rfl) (fun _ _ _ h => h) (Or.inl ⟨by rfl, fun wx => by simp [go_sem]⟩) ?_
        simp only [Act.put, List.getElem_toArray, List.getElem_cons_succ, List.getElem_cons_zero, List.setIfInBounds_toArray, List.set_cons_zero, List.set_cons_succ]
        refine wpAny_pair 0 1 (by kernel_rfl) ?_ ?_
        · refine wpOp_vl 0 vl w3 (by rfl) (by rfl) (by simp [go_sem, cl3]) ?_
          simp only [Act.put, List.getElem_toArray, List.getElem_cons_zero, List.setIfInBounds_toArray, List.set_cons_zero, List.set_cons_succ]
          refine wpAny_step 1 (.func (.func 57) #[] #[]) w3 (by kernel_rfl) rfl (by rfl) (by simp [go_sem, cf3]) ?_
          simp only [Act.put, List.getElem_toArray, List.getElem_cons_succ, List.getElem_cons_zero, List.setIfInBounds_toArray, List.set_cons_zero, List.set_cons_succ]
          refine wpAny_enterP 3 (by kernel_rfl) rfl (by rfl) (f := 57) (args := #[.pointer (some ⟨H + 3, 0, none⟩)]) (by simp [go_sem]) HC.out ?_
          rintro e w4 (⟨a, rest2, va, v2, hg, rfl, hu, hrd4, ho4, hob4⟩ | ⟨hg, hT⟩)
          · refine Or.inl ⟨_, rfl, ?_⟩
            obtain ⟨u, HUE⟩ : ∃ x, Hid (x = va) := ⟨_, rfl⟩
            obtain ⟨au, cu, hvu, _, _, _⟩ := id hu.reads
            obtain ⟨nu, HNU⟩ : ∃ x, Hid (x = a.length) := ⟨_, rfl⟩
            rw [← HNU.out] at hvu
            have hue := HUE.out
            subst hvu
            subst hue
            have HU1 : Hid ((Value.slice au nu cu).oneCell' = true) := rfl
            have HGU : OwnB w4 (H + 4) (.slice au nu cu) a := hu.mono HSZ.out
            have HGL4 : Blk w4 gl [vl] 64 := HBL3.out.only ho4 (by have := HGL.out; omega)
            have c4 : w4.cell? ⟨gl, 0, none⟩ = some vl := HGL4.cell 0
            have HO4 : OwnV w4 (H + 4) 28 vl vs := HO3.out.same (fun k hk => ho4.block k (by have := (HO3.out.lt k hk).1; omega) (HO3.out.lt k hk).2)
            have hb45 := below_alloc w4 (.cells #[(Value.slice au nu cu)] 28)
            have HO5 : Hid (OwnV (w4.alloc (.cells #[(Value.slice au nu cu)] 28)) (H + 4) 28 vl vs) := HO4.same (fun k hk => hb45.block k (HO4.lt k hk).2)
            have HBL5 : Hid (Blk (w4.alloc (.cells #[(Value.slice au nu cu)] 28)) gl [vl] 64) := HGL4.alloc _
            have c5 : (w4.alloc (.cells #[(Value.slice au nu cu)] 28)).cell? ⟨gl, 0, none⟩ = some vl := HBL5.out.cell 0
            have HU5 : Hid ((w4.alloc (.cells #[(Value.slice au nu cu)] 28)).cell? ⟨w4.heap.size, 0, none⟩ = some (Value.slice au nu cu)) := (Blk.new w4 [(Value.slice au nu cu)] 28).cell 0
            have HS5 : Hid (H + 4 ≤ (w4.alloc (.cells #[(Value.slice au nu cu)] 28)).heap.size) := by have h1 := HSZ.out; have h2 := ho4.size; have h3 := hb45.size; show _ ≤ _; omega
            have HNext : Hid (∀ w6 vl2, OwnV w6 (H + 4) 28 vl2 (vs ++ [(Value.slice au nu cu)]) → (w4.alloc (.cells #[(Value.slice au nu cu)] 28)).grownBy w6 vl.ownBlock → RlInvT H gl vb w1 n r (k + 1) (xs ++ [a]) rest2 (w6.setCell ⟨gl, 0, none⟩ vl2)) := fun w6 vl2 h1 h2 => HI.out.next hlt HGL.out HVB.out HBL3.out HO3.out HGD3.out HSZ.out HFR3.out w4 w6 v2 (Value.slice au nu cu) vl2 a rest2 hg hrd4 ho4 (hob4.trans HOB.out) HGU h1 h2
            clear hrd4 ho4 hob4 HGL4 HO4 hb45 hg hu
            simp only [Act.put, List.getElem_toArray, List.getElem_cons_succ, List.getElem_cons_zero, List.setIfInBounds_toArray, List.set_cons_zero, List.set_cons_succ]
            refine wpAny_step 4 (.slice (some ⟨w4.heap.size, 0, none⟩) 1 1) (w4.alloc (.cells #[(Value.slice au nu cu)] 28)) (by kernel_rfl) rfl (by rfl) (by simp [go_sem]) ?_
            simp only [Act.put, List.getElem_toArray, List.getElem_cons_succ, List.getElem_cons_zero, List.setIfInBounds_toArray, List.set_cons_zero, List.set_cons_succ]
            refine wpAny_law 5 (by kernel_rfl) rfl (by rfl) (wp_appendT (.tmp 8) (.tmp 12) rfl (H + 4) vl (Value.slice au nu cu) vs w4.heap.size rfl HO5.out rfl HU5.out HU1.out HVL.out HS5.out ?_)
            intro vl2 w6 hown6 hgrow
            have HJ := HNext.out w6 vl2 hown6 hgrow
            have hb6 : Blk w6 gl [vl] 64 := HBL5.out.grown4 hgrow (by have := HGL.out; intro he; have := (HO5.out.lt gl he.symm).1; omega)
            have c6 : w6.cell? ⟨gl, 0, none⟩ = some vl := hb6.cell 0
            have f6 : w6.frozen? ⟨gl, 0, none⟩ = false := hb6.frozen 0
            have HJ2 : Hid (RlInvT H gl vb w1 n r (k + 1) (xs ++ [a]) rest2 (w6.setCell ⟨gl, 0, none⟩ vl2)) := HJ
            obtain ⟨ad6, cc6, hv6, _⟩ := hown6.slice
            obtain ⟨nn6, HN6⟩ : ∃ x : Nat, Hid (x = (vs ++ [(Value.slice au nu cu)]).length) := ⟨_, rfl⟩
            rw [← HN6.out] at hv6
            subst hv6
            clear hown6 hgrow hb6 HJ HNext
            simp only [Act.put, List.getElem_toArray, List.getElem_cons_succ, List.getElem_cons_zero, List.setIfInBounds_toArray, List.set_cons_zero, List.set_cons_succ]
            refine wpAny_skip 6 (w6.setCell ⟨gl, 0, none⟩ (.slice ad6 nn6 cc6)) (by kernel_rfl) rfl (by rfl) (by simp [go_sem, c6, f6]) ?_
            simp only [Act.put, List.getElem_toArray, List.getElem_cons_succ, List.getElem_cons_zero]
            refine wpAny_done (by kernel_rfl) ?_ _
            clear HO5 HU5 HBL5
            generalize w6.setCell ⟨gl, 0, none⟩ (.slice ad6 nn6 cc6) = w7 at *
            go_wp2
            go_roundw
            case rel => exact ⟨k + 1, xs ++ [a], rest2, by go_num, HJ2.out⟩
            case measure => simp [intOf]; have := hlt; omega
          · refine Or.inr ⟨_, hT.down, ?_⟩
            exact ⟨rfl, HI.out.threw hlt HGL.out HSZ1.out HM.out HFR3.out HSZ.out hg hT⟩
        · refine wpOp_vl 1 (.func (.func 57) #[] #[]) w3 (by rfl) (by rfl) (by simp [go_sem, cf3]) ?_
          simp only [Act.put, List.getElem_toArray, List.getElem_cons_succ, List.getElem_cons_zero, List.setIfInBounds_toArray, List.set_cons_zero, List.set_cons_succ]
          refine wpAny_pair 0 3 (by kernel_rfl) ?_ ?_
          · refine wpOp_vl 0 vl w3 (by rfl) (by rfl) (by simp [go_sem, cl3]) ?_
            simp only [Act.put, List.getElem_toArray, List.getElem_cons_zero, List.setIfInBounds_toArray, List.set_cons_zero, List.set_cons_succ]
            refine wpAny_enterP 3 (by kernel_rfl) rfl (by rfl) (f := 57) (args := #[.pointer (some ⟨H + 3, 0, none⟩)]) (by simp [go_sem]) HC.out ?_
            rintro e w4 (⟨a, rest2, va, v2, hg, rfl, hu, hrd4, ho4, hob4⟩ | ⟨hg, hT⟩)
            · refine Or.inl ⟨_, rfl, ?_⟩
              obtain ⟨u, HUE⟩ : ∃ x, Hid (x = va) := ⟨_, rfl⟩
              obtain ⟨au, cu, hvu, _, _, _⟩ := id hu.reads
              obtain ⟨nu, HNU⟩ : ∃ x, Hid (x = a.length) := ⟨_, rfl⟩
              rw [← HNU.out] at hvu
              have hue := HUE.out
              subst hvu
              subst hue
              have HU1 : Hid ((Value.slice au nu cu).oneCell' = true) := rfl
              have HGU : OwnB w4 (H + 4) (.slice au nu cu) a := hu.mono HSZ.out
              have HGL4 : Blk w4 gl [vl] 64 := HBL3.out.only ho4 (by have := HGL.out; omega)
              have c4 : w4.cell? ⟨gl, 0, none⟩ = some vl := HGL4.cell 0
              have HO4 : OwnV w4 (H + 4) 28 vl vs := HO3.out.same (fun k hk => ho4.block k (by have := (HO3.out.lt k hk).1; omega) (HO3.out.lt k hk).2)
              have hb45 := below_alloc w4 (.cells #[(Value.slice au nu cu)] 28)
              have HO5 : Hid (OwnV (w4.alloc (.cells #[(Value.slice au nu cu)] 28)) (H + 4) 28 vl vs) := HO4.same (fun k hk => hb45.block k (HO4.lt k hk).2)
              have HBL5 : Hid (Blk (w4.alloc (.cells #[(Value.slice au nu cu)] 28)) gl [vl] 64) := HGL4.alloc _
              have c5 : (w4.alloc (.cells #[(Value.slice au nu cu)] 28)).cell? ⟨gl, 0, none⟩ = some vl := HBL5.out.cell 0
              have HU5 : Hid ((w4.alloc (.cells #[(Value.slice au nu cu)] 28)).cell? ⟨w4.heap.size, 0, none⟩ = some (Value.slice au nu cu)) := (Blk.new w4 [(Value.slice au nu cu)] 28).cell 0
              have HS5 : Hid (H + 4 ≤ (w4.alloc (.cells #[(Value.slice au nu cu)] 28)).heap.size) := by have h1 := HSZ.out; have h2 := ho4.size; have h3 := hb45.size; show _ ≤ _; omega
              have HNext : Hid (∀ w6 vl2, OwnV w6 (H + 4) 28 vl2 (vs ++ [(Value.slice au nu cu)]) → (w4.alloc (.cells #[(Value.slice au nu cu)] 28)).grownBy w6 vl.ownBlock → RlInvT H gl vb w1 n r (k + 1) (xs ++ [a]) rest2 (w6.setCell ⟨gl, 0, none⟩ vl2)) := fun w6 vl2 h1 h2 => HI.out.next hlt HGL.out HVB.out HBL3.out HO3.out HGD3.out HSZ.out HFR3.out w4 w6 v2 (Value.slice au nu cu) vl2 a rest2 hg hrd4 ho4 (hob4.trans HOB.out) HGU h1 h2
              clear hrd4 ho4 hob4 HGL4 HO4 hb45 hg hu
              simp only [Act.put, List.getElem_toArray, List.getElem_cons_succ, List.getElem_cons_zero, List.setIfInBounds_toArray, List.set_cons_zero, List.set_cons_succ]
              refine wpAny_step 4 (.slice (some ⟨w4.heap.size, 0, none⟩) 1 1) (w4.alloc (.cells #[(Value.slice au nu cu)] 28)) (by kernel_rfl) rfl (by rfl) (by simp [go_sem]) ?_
              simp only [Act.put, List.getElem_toArray, List.getElem_cons_succ, List.getElem_cons_zero, List.setIfInBounds_toArray, List.set_cons_zero, List.set_cons_succ]
              refine wpAny_law 5 (by kernel_rfl) rfl (by rfl) (wp_appendT (.tmp 8) (.tmp 12) rfl (H + 4) vl (Value.slice au nu cu) vs w4.heap.size rfl HO5.out rfl HU5.out HU1.out HVL.out HS5.out ?_)
              intro vl2 w6 hown6 hgrow
              have HJ := HNext.out w6 vl2 hown6 hgrow
              have hb6 : Blk w6 gl [vl] 64 := HBL5.out.grown4 hgrow (by have := HGL.out; intro he; have := (HO5.out.lt gl he.symm).1; omega)
              have c6 : w6.cell? ⟨gl, 0, none⟩ = some vl := hb6.cell 0
              have f6 : w6.frozen? ⟨gl, 0, none⟩ = false := hb6.frozen 0
              have HJ2 : Hid (RlInvT H gl vb w1 n r (k + 1) (xs ++ [a]) rest2 (w6.setCell ⟨gl, 0, none⟩ vl2)) := HJ
              obtain ⟨ad6, cc6, hv6, _⟩ := hown6.slice
              obtain ⟨nn6, HN6⟩ : ∃ x : Nat, Hid (x = (vs ++ [(Value.slice au nu cu)]).length) := ⟨_, rfl⟩
              rw [← HN6.out] at hv6
              subst hv6
              clear hown6 hgrow hb6 HJ HNext
              simp only [Act.put, List.getElem_toArray, List.getElem_cons_succ, List.getElem_cons_zero, List.setIfInBounds_toArray, List.set_cons_zero, List.set_cons_succ]
              refine wpAny_skip 6 (w6.setCell ⟨gl, 0, none⟩ (.slice ad6 nn6 cc6)) (by kernel_rfl) rfl (by rfl) (by simp [go_sem, c6, f6]) ?_
              simp only [Act.put, List.getElem_toArray, List.getElem_cons_succ, List.getElem_cons_zero]
              refine wpAny_done (by kernel_rfl) ?_ _
              clear HO5 HU5 HBL5
              generalize w6.setCell ⟨gl, 0, none⟩ (.slice ad6 nn6 cc6) = w7 at *
              go_wp2
              go_roundw
              case rel => exact ⟨k + 1, xs ++ [a], rest2, by go_num, HJ2.out⟩
              case measure => simp [intOf]; have := hlt; omega
            · refine Or.inr ⟨_, hT.down, ?_⟩
              exact ⟨rfl, HI.out.threw hlt HGL.out HSZ1.out HM.out HFR3.out HSZ.out hg hT⟩
          · skip
            refine wpOp_enP 3 (by rfl) (by rfl) (f := 57) (args := #[.pointer (some ⟨H + 3, 0, none⟩)]) (by simp [go_sem]) HC.out ?_
            rintro e w4 (⟨a, rest2, va, v2, hg, rfl, hu, hrd4, ho4, hob4⟩ | ⟨hg, hT⟩)
            · refine Or.inl ⟨_, rfl, ?_⟩
              obtain ⟨u, HUE⟩ : ∃ x, Hid (x = va) := ⟨_, rfl⟩
              obtain ⟨au, cu, hvu, _, _, _⟩ := id hu.reads
              obtain ⟨nu, HNU⟩ : ∃ x, Hid (x = a.length) := ⟨_, rfl⟩
              rw [← HNU.out] at hvu
              have hue := HUE.out
              subst hvu
              subst hue
              have HU1 : Hid ((Value.slice au nu cu).oneCell' = true) := rfl
              have HGU : OwnB w4 (H + 4) (.slice au nu cu) a := hu.mono HSZ.out
              have HGL4 : Blk w4 gl [vl] 64 := HBL3.out.only ho4 (by have := HGL.out; omega)
              have c4 : w4.cell? ⟨gl, 0, none⟩ = some vl := HGL4.cell 0
              have HO4 : OwnV w4 (H + 4) 28 vl vs := HO3.out.same (fun k hk => ho4.block k (by have := (HO3.out.lt k hk).1; omega) (HO3.out.lt k hk).2)
              have hb45 := below_alloc w4 (.cells #[(Value.slice au nu cu)] 28)
              have HO5 : Hid (OwnV (w4.alloc (.cells #[(Value.slice au nu cu)] 28)) (H + 4) 28 vl vs) := HO4.same (fun k hk => hb45.block k (HO4.lt k hk).2)
              have HBL5 : Hid (Blk (w4.alloc (.cells #[(Value.slice au nu cu)] 28)) gl [vl] 64) := HGL4.alloc _
              have c5 : (w4.alloc (.cells #[(Value.slice au nu cu)] 28)).cell? ⟨gl, 0, none⟩ = some vl := HBL5.out.cell 0
              have HU5 : Hid ((w4.alloc (.cells #[(Value.slice au nu cu)] 28)).cell? ⟨w4.heap.size, 0, none⟩ = some (Value.slice au nu cu)) := (Blk.new w4 [(Value.slice au nu cu)] 28).cell 0
              have HS5 : Hid (H + 4 ≤ (w4.alloc (.cells #[(Value.slice au nu cu)] 28)).heap.size) := by have h1 := HSZ.out; have h2 := ho4.size; have h3 := hb45.size; show _ ≤ _; omega
              have HNext : Hid (∀ w6 vl2, OwnV w6 (H + 4) 28 vl2 (vs ++ [(Value.slice au nu cu)]) → (w4.alloc (.cells #[(Value.slice au nu cu)] 28)).grownBy w6 vl.ownBlock → RlInvT H gl vb w1 n r (k + 1) (xs ++ [a]) rest2 (w6.setCell ⟨gl, 0, none⟩ vl2)) := fun w6 vl2 h1 h2 => HI.out.next hlt HGL.out HVB.out HBL3.out HO3.out HGD3.out HSZ.out HFR3.out w4 w6 v2 (Value.slice au nu cu) vl2 a rest2 hg hrd4 ho4 (hob4.trans HOB.out) HGU h1 h2
              clear hrd4 ho4 hob4 HGL4 HO4 hb45 hg hu
              simp only [Act.put, List.getElem_toArray, List.getElem_cons_succ, List.getElem_cons_zero, List.setIfInBounds_toArray, List.set_cons_zero, List.set_cons_succ]
              refine wpAny_pair 0 4 (by kernel_rfl) ?_ ?_
              · refine wpOp_vl 0 vl w4 (by rfl) (by rfl) (by simp [go_sem, c4]) ?_
                simp only [Act.put, List.getElem_toArray, List.getElem_cons_zero, List.setIfInBounds_toArray, List.set_cons_zero, List.set_cons_succ]
                refine wpAny_step 4 (.slice (some ⟨w4.heap.size, 0, none⟩) 1 1) (w4.alloc (.cells #[(Value.slice au nu cu)] 28)) (by kernel_rfl) rfl (by rfl) (by simp [go_sem]) ?_
                simp only [Act.put, List.getElem_toArray, List.getElem_cons_succ, List.getElem_cons_zero, List.setIfInBounds_toArray, List.set_cons_zero, List.set_cons_succ]
                refine wpAny_law 5 (by kernel_rfl) rfl (by rfl) (wp_appendT (.tmp 8) (.tmp 12) rfl (H + 4) vl (Value.slice au nu cu) vs w4.heap.size rfl HO5.out rfl HU5.out HU1.out HVL.out HS5.out ?_)
                intro vl2 w6 hown6 hgrow
                have HJ := HNext.out w6 vl2 hown6 hgrow
                have hb6 : Blk w6 gl [vl] 64 := HBL5.out.grown4 hgrow (by have := HGL.out; intro he; have := (HO5.out.lt gl he.symm).1; omega)
                have c6 : w6.cell? ⟨gl, 0, none⟩ = some vl := hb6.cell 0
                have f6 : w6.frozen? ⟨gl, 0, none⟩ = false := hb6.frozen 0
                have HJ2 : Hid (RlInvT H gl vb w1 n r (k + 1) (xs ++ [a]) rest2 (w6.setCell ⟨gl, 0, none⟩ vl2)) := HJ
                obtain ⟨ad6, cc6, hv6, _⟩ := hown6.slice
                obtain ⟨nn6, HN6⟩ : ∃ x : Nat, Hid (x = (vs ++ [(Value.slice au nu cu)]).length) := ⟨_, rfl⟩
                rw [← HN6.out] at hv6
                subst hv6
                clear hown6 hgrow hb6 HJ HNext
                simp only [Act.put, List.getElem_toArray, List.getElem_cons_succ, List.getElem_cons_zero, List.setIfInBounds_toArray, List.set_cons_zero, List.set_cons_succ]
                refine wpAny_skip 6 (w6.setCell ⟨gl, 0, none⟩ (.slice ad6 nn6 cc6)) (by kernel_rfl) rfl (by rfl) (by simp [go_sem, c6, f6]) ?_
                simp only [Act.put, List.getElem_toArray, List.getElem_cons_succ, List.getElem_cons_zero]
                refine wpAny_done (by kernel_rfl) ?_ _
                clear HO5 HU5 HBL5
                generalize w6.setCell ⟨gl, 0, none⟩ (.slice ad6 nn6 cc6) = w7 at *
                go_wp2
                go_roundw
                case rel => exact ⟨k + 1, xs ++ [a], rest2, by go_num, HJ2.out⟩
                case measure => simp [intOf]; have := hlt; omega
              · refine wpOp_vl 4 (.slice (some ⟨w4.heap.size, 0, none⟩) 1 1) (w4.alloc (.cells #[(Value.slice au nu cu)] 28)) (by rfl) (by rfl) (by simp [go_sem]) ?_
                simp only [Act.put, List.getElem_toArray, List.getElem_cons_succ, List.getElem_cons_zero, List.setIfInBounds_toArray, List.set_cons_zero, List.set_cons_succ]
                refine wpAny_step 0 vl (w4.alloc (.cells #[(Value.slice au nu cu)] 28)) (by kernel_rfl) rfl (by rfl) (by simp [go_sem, c5]) ?_
                simp only [Act.put, List.getElem_toArray, List.getElem_cons_zero, List.setIfInBounds_toArray, List.set_cons_zero, List.set_cons_succ]
                refine wpAny_law 5 (by kernel_rfl) rfl (by rfl) (wp_appendT (.tmp 8) (.tmp 12) rfl (H + 4) vl (Value.slice au nu cu) vs w4.heap.size rfl HO5.out rfl HU5.out HU1.out HVL.out HS5.out ?_)
                intro vl2 w6 hown6 hgrow
                have HJ := HNext.out w6 vl2 hown6 hgrow
                have hb6 : Blk w6 gl [vl] 64 := HBL5.out.grown4 hgrow (by have := HGL.out; intro he; have := (HO5.out.lt gl he.symm).1; omega)
                have c6 : w6.cell? ⟨gl, 0, none⟩ = some vl := hb6.cell 0
                have f6 : w6.frozen? ⟨gl, 0, none⟩ = false := hb6.frozen 0
                have HJ2 : Hid (RlInvT H gl vb w1 n r (k + 1) (xs ++ [a]) rest2 (w6.setCell ⟨gl, 0, none⟩ vl2)) := HJ
                obtain ⟨ad6, cc6, hv6, _⟩ := hown6.slice
                obtain ⟨nn6, HN6⟩ : ∃ x : Nat, Hid (x = (vs ++ [(Value.slice au nu cu)]).length) := ⟨_, rfl⟩
                rw [← HN6.out] at hv6
                subst hv6
                clear hown6 hgrow hb6 HJ HNext
                simp only [Act.put, List.getElem_toArray, List.getElem_cons_succ, List.getElem_cons_zero, List.setIfInBounds_toArray, List.set_cons_zero, List.set_cons_succ]
                refine wpAny_skip 6 (w6.setCell ⟨gl, 0, none⟩ (.slice ad6 nn6 cc6)) (by kernel_rfl) rfl (by rfl) (by simp [go_sem, c6, f6]) ?_
                simp only [Act.put, List.getElem_toArray, List.getElem_cons_succ, List.getElem_cons_zero]
                refine wpAny_done (by kernel_rfl) ?_ _
                clear HO5 HU5 HBL5
                generalize w6.setCell ⟨gl, 0, none⟩ (.slice ad6 nn6 cc6) = w7 at *
                go_wp2
                go_roundw
                case rel => exact ⟨k + 1, xs ++ [a], rest2, by go_num, HJ2.out⟩
                case measure => simp [intOf]; have := hlt; omega
            · refine Or.inr ⟨_, hT.down, ?_⟩
              exact ⟨rfl, HI.out.threw hlt HGL.out HSZ1.out HM.out HFR3.out HSZ.out hg hT⟩
      · have hkn : k = n := by omega
        subst hkn
        have HD : Hid (Does H (fun l2 w2 => ∃ ns, readMany readText l = some (ns, l2) ∧ LsT w2 gl (H + 4) ns ∧ Fr (H + 1) gl (H + 4) w1 w2) (fun w2 => readMany readText l = none ∧ Fr (H + 1) gl (H + 4) w1 w2) w1 (.returned (.tuple #[])) wr) := by
          obtain ⟨v, hrd, hob⟩ := hI.rdr
          refine ⟨hI.fr.size, fun k h1 h2 h3 => hI.fr.block k h2 h3 (by have := HGL.out; omega), Or.inl ⟨rfl, v, rest, hrd, xs, ?_, hI.row, hI.fr⟩⟩
          rw [HM.out, hI.eq, Nat.sub_self]
          simp [readAll]
        clear hI HI
        go_wp2
        go_end0
        exact HD.out
  · have HD : Hid (Does H (fun l2 w2 => ∃ ns, readMany readText l = some (ns, l2) ∧ LsT w2 gl (H + 4) ns ∧ Fr (H + 1) gl (H + 4) w1 w2) (fun w2 => readMany readText l = none ∧ Fr (H + 1) gl (H + 4) w1 w2) w1 (thrown (H + 1)) w2) := by
      have hf4 : Fr (H + 1) gl (H + 4) w1 w2 := (Fr.refl _ _ _ _).only hT.onl (by rw [HSZ1.out]; exact Nat.le_refl _)
      obtain ⟨v, hb, ad, m, c, hv⟩ := hT.bad
      refine ⟨hf4.size, fun k h1 h2 h3 => hf4.block k h2 h3 (by have := HGL.out; omega), Or.inr ⟨rfl, ⟨v, ad, m, c, hv, hb⟩, ?_, hf4⟩⟩
      unfold readMany; rw [hc]
    obtain rfl := hT.eq
    unfold thrown at HD ⊢
    clear hT hc
    go_wp2
    exact ⟨rfl, HD.out⟩
end Go.Proofs.YtableajopaappaaDoor
/- The walks of codec.readList, ReadNums and ReadTexts. -/
namespace Go.Proofs.YtableajopaappaaDoor
open Go.RowKit
set_option maxRecDepth 100000
theorem Does.mono {H : Nat} {A A' : List (BitVec 8) → World → Prop} {B B' : World → Prop} {w1 w2 : World} {e : Ending} (h : Does H A B w1 e w2) (hA : ∀ l, A l w2 → A' l w2) (hB : B w2 → B' w2) : Does H A' B' w1 e w2 := by
  refine ⟨h.size, h.kept, ?_⟩
  rcases h.way with ⟨h1, v2, l2, h2, h3⟩ | ⟨h1, h2, h3⟩
  · exact Or.inl ⟨h1, v2, l2, h2, hA l2 h3⟩
  · exact Or.inr ⟨h1, h2, hB h3⟩
theorem readList_many {α : Type} (g : List (BitVec 8) → Option (α × List (BitVec 8))) (b : List (BitVec 8)) : readList g b = match readMany g b with | some (l, []) => some l | _ => none := by
  unfold readList readMany readCount
  cases readNum b with
  | none => rfl
  | some p =>
    obtain ⟨n, r⟩ := p
    simp only
    by_cases h : n ≤ 4096
    · simp only [if_pos h]
      cases readAll g n r with
      | none => rfl
      | some p =>
        obtain ⟨l, t⟩ := p
        cases t <;> rfl
    · simp only [if_neg h]
/-- what a reading of a list comes to -/
def ListRead {α : Type} (el : TypeId) (Good : World → Nat → List Value → List α → Prop) (o : Option (List α)) (w : World) (e : Ending) (w' : World) : Prop :=
  (∃ xs v vs, o = some xs ∧ e = .returned (.tuple #[v, .int .i64 0]) ∧ OwnV w' w.heap.size el v vs ∧ Good w' w.heap.size vs xs ∧ Below w.heap.size w w') ∨
  (o = none ∧ e = .returned (.tuple #[.slice none 0 0, .int .i64 3]) ∧ Below w.heap.size w w')
theorem GoodN.up {w w' : World} {B B' : Nat} {vs : List Value} {ns : List Nat} (h : GoodN w B vs ns) : GoodN w' B' vs ns := h
theorem GoodT.up {w w' : World} {B B' : Nat} {vs : List Value} {ls : List (List (BitVec 8))} (h : GoodT w B vs ls) (hB : B' ≤ B) (hk : ∀ k, B ≤ k → k < w.heap.size → w'.heap[k]? = w.heap[k]?) : GoodT w' B' vs ls :=
  ⟨h.1, fun j u hj => ((h.2 j u hj).same (fun k hkk => hk k ((h.2 j u hj).own k hkk) ((h.2 j u hj).lt k hkk))).mono hB⟩
theorem OwnV.mono {w : World} {base B : Nat} {el : TypeId} {v : Value} {vs : List Value} (h : OwnV w base el v vs) (hB : B ≤ base) : OwnV w B el v vs := by
  obtain ⟨h1, h2⟩ := h
  refine ⟨h1, ?_⟩
  rcases h2 with h2 | ⟨g, cap, cur, rfl, hg, r⟩
  · exact Or.inl h2
  · exact Or.inr ⟨g, cap, cur, rfl, by omega, r⟩
theorem enter_rdlT1 : ∀ xs w, (callFunc 80 xs).run Tryd.prog w = .ok (.enter 80 xs) w := fun _ _ => by kernel_rfl
def ListMidT (l : List (BitVec 8)) (w w0 : World) (e : Ending) (w' : World) : Prop :=
  ∃ w2, Past (w.heap.size + 2) w2 w' ∧ ((∃ l2, (∃ ns, readMany readText l = some (ns, l2) ∧ LsT w2 (w.heap.size + 1) (w.heap.size + 2 + 4) ns ∧ Fr (w.heap.size + 2 + 1) (w.heap.size + 1) (w.heap.size + 2) w0 w2) ∧ e = .returned (.int .i64 (if l2 = [] then 0 else 3))) ∨ ((readMany readText l = none ∧ Fr (w.heap.size + 2 + 1) (w.heap.size + 1) (w.heap.size + 2) w0 w2) ∧ e = .returned (.int .i64 3)))
set_option maxRecDepth 100000 in
set_option maxHeartbeats 1000000 in
theorem rdlT_any (vb : Value) (l : List (BitVec 8)) (w : World) (hb : Reads w vb l) :
    Calls Tryd.prog 56 #[vb, .func (.func 57) #[] #[]] w fun e w' => ListRead 28 GoodT (readList readText l) w e w' := by
  have hmf : ∀ (fn : Fn) (first cap : Array Value) (w : World), (Instr.makeFunc fn first cap).run Tryd.prog w = .ok (.func fn first cap) w := fun _ _ _ _ => rfl
  have hB1 : Below w.heap.size w ((w.alloc (.cells #[.func (.func 57) #[] #[]] 88)).alloc (.cells #[.slice none 0 0] 64)) := ((Below.refl _ _).alloc (Nat.le_refl _) _).alloc (by simp) _
  have g0 : Blk ((w.alloc (.cells #[.func (.func 57) #[] #[]] 88)).alloc (.cells #[.slice none 0 0] 64)) w.heap.size [.func (.func 57) #[] #[]] 88 := (Blk.new w [.func (.func 57) #[] #[]] 88).alloc _
  have g1 : Blk ((w.alloc (.cells #[.func (.func 57) #[] #[]] 88)).alloc (.cells #[.slice none 0 0] 64)) (w.heap.size + 1) [.slice none 0 0] 64 := Blk.new_at (w := w.alloc (.cells #[.func (.func 57) #[] #[]] 88)) (by simp) [.slice none 0 0] 64
  have hz : ((w.alloc (.cells #[.func (.func 57) #[] #[]] 88)).alloc (.cells #[.slice none 0 0] 64)).heap.size = w.heap.size + 2 := by simp
  have hR := hb.below hB1
  have HRd : Hid (Calls Tryd.prog 79 #[vb, .func (.func 80) #[] #[.pointer (some ⟨w.heap.size + 1, 0, none⟩), .pointer (some ⟨w.heap.size, 0, none⟩)]] ((w.alloc (.cells #[.func (.func 57) #[] #[]] 88)).alloc (.cells #[.slice none 0 0] 64)) fun e w' => ListMidT l w ((w.alloc (.cells #[.func (.func 57) #[] #[]] 88)).alloc (.cells #[.slice none 0 0] 64)) e w') := by
    unfold ListMidT
    rw [← hz]
    refine read_any 80 #[.pointer (some ⟨w.heap.size + 1, 0, none⟩), .pointer (some ⟨w.heap.size, 0, none⟩)] vb l _ _ _ hR enter_rdlT1 ?_
    intro w1 h1 h2 h3
    refine Calls.mono (rdlT1_any _ (w.heap.size + 1) w.heap.size vb l w1 h1 (by rw [hz]; omega) (by rw [hz]; omega) (by omega) h3 (g1.below h2 g1.lt) (g0.below h2 g0.lt)) ?_
    intro e w2 hD
    refine hD.mono (fun l2 hA => ?_) (fun hB => ?_)
    · obtain ⟨ns, a1, a2, a3⟩ := hA
      exact ⟨ns, a1, a2, ⟨a3.os.trans h2.os, a3.tape.trans h2.tape, a3.output.trans h2.output, Nat.le_trans h2.size a3.size, fun k k1 k2 k3 => (a3.block k (by omega) k2 k3).trans (h2.block k k1)⟩⟩
    · obtain ⟨a1, a3⟩ := hB
      exact ⟨a1, ⟨a3.os.trans h2.os, a3.tape.trans h2.tape, a3.output.trans h2.output, Nat.le_trans h2.size a3.size, fun k k1 k2 k3 => (a3.block k (by omega) k2 k3).trans (h2.block k k1)⟩⟩
  have HB1 : Hid (Below w.heap.size w ((w.alloc (.cells #[.func (.func 57) #[] #[]] 88)).alloc (.cells #[.slice none 0 0] 64))) := hB1
  have HZ : Hid (((w.alloc (.cells #[.func (.func 57) #[] #[]] 88)).alloc (.cells #[.slice none 0 0] 64)).heap.size = w.heap.size + 2) := hz
  clear hB1 g0 g1 hz hR hb
  go_enter Tryd.func56, Tryd.ntmps56
  go_wp2_with fail
  refine Calls.mono HRd.out ?_
  rintro e w' ⟨w2, hP, hway⟩
  have hbel : ∀ {gi gl : Nat}, Fr gi gl (w.heap.size + 2) ((w.alloc (.cells #[.func (.func 57) #[] #[]] 88)).alloc (.cells #[.slice none 0 0] 64)) w2 → w.heap.size ≤ gi → w.heap.size ≤ gl → Below w.heap.size w w' := fun h k1 k2 =>
    ⟨hP.os.trans (h.os.trans HB1.out.os), hP.tape.trans (h.tape.trans HB1.out.tape), hP.output.trans (h.output.trans HB1.out.output), by rw [hP.size]; exact Nat.le_trans HB1.out.size h.size, fun k hk => (hP.block k (Or.inl (by omega))).trans ((h.block k (by omega) (by omega) (by omega)).trans (HB1.out.block k hk))⟩
  rcases hway with ⟨l2, ⟨ns, hm, ⟨vl, vs, hbl, hown, hgd⟩, hfr⟩, rfl⟩ | ⟨⟨hm, hfr⟩, rfl⟩
  · by_cases h0 : l2 = []
    · subst h0
      rw [if_pos rfl]
      have hbl' : Blk w' (w.heap.size + 1) [vl] 64 := by unfold Blk at hbl ⊢; rw [hP.block _ (Or.inl (by omega))]; exact hbl
      have cl : w'.cell? ⟨w.heap.size + 1, 0, none⟩ = some vl := hbl'.cell 0
      obtain ⟨adl, ccl, hvl, _⟩ := hown.slice
      have HL : Hid (∀ v, v = vl → ListRead 28 GoodT (readList readText l) w (.returned (.tuple #[v, .int .i64 0])) w') := by
        intro v hv
        subst hv
        refine Or.inl ⟨ns, v, vs, ?_, rfl, (hown.same (fun k hk => hP.block k (Or.inr (hown.lt k hk).1))).mono (by omega), hgd.up (by omega) (fun k h1 _ => hP.block k (Or.inr h1)), hbel hfr (by omega) (by omega)⟩
        rw [readList_many, hm]
      obtain ⟨nl, HNL⟩ : ∃ x : Nat, Hid (x = vs.length) := ⟨_, rfl⟩
      rw [← HNL.out] at hvl
      subst hvl
      clear hbl hbl' hown hgd hfr hm hbel hP HRd
      go_wp2
      go_ret2
      exact HL.out _ rfl
    · rw [if_neg h0]
      have HL : Hid (ListRead 28 GoodT (readList readText l) w (.returned (.tuple #[.slice none 0 0, .int .i64 3])) w') := by
        refine Or.inr ⟨?_, rfl, hbel hfr (by omega) (by omega)⟩
        rw [readList_many, hm]
        cases l2 with
        | nil => exact absurd rfl h0
        | cons x y => rfl
      clear hbl hown hgd hfr hm hbel hP HRd h0
      go_wp2
      go_ret2
      exact HL.out
  · have HL : Hid (ListRead 28 GoodT (readList readText l) w (.returned (.tuple #[.slice none 0 0, .int .i64 3])) w') := by
      refine Or.inr ⟨?_, rfl, hbel hfr (by omega) (by omega)⟩
      rw [readList_many, hm]
    clear hfr hm hbel hP HRd
    go_wp2
    go_ret2
    exact HL.out
set_option maxHeartbeats 400000 in
theorem creadT_any (vb : Value) (l : List (BitVec 8)) (w : World) (hb : Reads w vb l) :
    Calls Tryd.prog 32 #[vb] w fun e w' => ListRead 28 GoodT (readList readText l) w e w' := by
  have hmf : ∀ (fn : Fn) (first cap : Array Value) (w : World), (Instr.makeFunc fn first cap).run Tryd.prog w = .ok (.func fn first cap) w := fun _ _ _ _ => rfl
  go_enter Tryd.func32, Tryd.ntmps32
  go_wp2_with fail
  refine (rdlT_any vb l w hb).mono ?_
  rintro e w' (⟨xs, v, vs, h1, rfl, h2, h3, h4⟩ | ⟨h1, rfl, h2⟩)
  · have HL : Hid (ListRead 28 GoodT (readList readText l) w (.returned (.tuple #[v, .int .i64 0])) w') := Or.inl ⟨xs, v, vs, h1, rfl, h2, h3, h4⟩
    clear h1 h2 h3 h4
    go_wp2
    go_ret2
    exact HL.out
  · have HL : Hid (ListRead 28 GoodT (readList readText l) w (.returned (.tuple #[.slice none 0 0, .int .i64 3])) w') := Or.inr ⟨h1, rfl, h2⟩
    clear h1 h2
    go_wp2
    go_ret2
    exact HL.out
end Go.Proofs.YtableajopaappaaDoor
/- The walks of the reference's reader: Num, Count, Take, Text, Digest, Done. -/
namespace Go.Proofs.YtableajopaappaaDoor
open Go.RowKit
set_option maxRecDepth 100000
/-- the reference's reader at g: of the bytes l so many were read -/
structure InS (w : World) (g : Nat) (v : Value) (l : List (BitVec 8)) (pos : Nat) (bad : Bool) : Prop where
  blk : Blk w g [v, .int .i64 (pos : Int), .bool bad] 95
  byt : Reads w v l
  le : pos ≤ l.length
theorem InS.ne {w : World} {g : Nat} {v : Value} {l : List (BitVec 8)} {pos : Nat} {bad : Bool} (h : InS w g v l pos bad) : ∀ b off, 0 < l.length → (∀ j, j < l.length → w.cell? ⟨b, off + j, none⟩ = some (.int .u8 ((l.getD j 0).toNat : Int))) → b ≠ g := by
  intro b off hp hc he
  subst he
  have h0 := hc 0 hp
  rw [h.blk.cell] at h0
  obtain ⟨ad, cap, hv, _⟩ := h.byt
  subst hv
  match off, h0 with
  | 0, h0 => simp at h0
  | 1, h0 => simp at h0
  | 2, h0 => simp at h0
  | k + 3, h0 => simp at h0
theorem InS.only {w w' : World} {g : Nat} {v : Value} {l : List (BitVec 8)} {pos : Nat} {bad : Bool} (h : InS w g v l pos bad) (ho : Only g w w') : Reads w' v l := by
  have ha := h.ne
  obtain ⟨ad, cap, rfl, hc, hn, hx⟩ := h.byt
  refine ⟨ad, cap, rfl, hc, hn, fun hp => ?_⟩
  obtain ⟨b, off, h1, h2⟩ := hx hp
  exact ⟨b, off, h1, fun j hj => ho.cell (p := ⟨b, off + j, none⟩) (ha b off hp h2) (h2 j hj)⟩
theorem InS.setBad {w : World} {g : Nat} {v : Value} {l : List (BitVec 8)} {pos : Nat} {bad : Bool} (h : InS w g v l pos bad) (b : Bool) : InS (w.setCell ⟨g, 2, none⟩ (.bool b)) g v l pos b :=
  ⟨h.blk.set 2 (.bool b), h.only ((Only.refl _ _).setCell _ _), h.le⟩
theorem InS.setPos {w : World} {g : Nat} {v : Value} {l : List (BitVec 8)} {pos : Nat} {bad : Bool} (h : InS w g v l pos bad) (p : Nat) (hp : p ≤ l.length) : InS (w.setCell ⟨g, 1, none⟩ (.int .i64 (p : Int))) g v l p bad :=
  ⟨h.blk.set 1 (.int .i64 (p : Int)), h.only ((Only.refl _ _).setCell _ _), hp⟩
theorem InS.drewN {w : World} {g : Nat} {v : Value} {l : List (BitVec 8)} {pos : Nat} {bad : Bool} (h : InS w g v l pos bad) (n : Nat) : InS (w.drewN n) g v l pos bad := ⟨h.blk.drewN n, h.byt, h.le⟩
theorem InS.below {w w' : World} {g : Nat} {v : Value} {l : List (BitVec 8)} {pos : Nat} {bad : Bool} (h : InS w g v l pos bad) (hb : Below w.heap.size w w') : InS w' g v l pos bad := ⟨h.blk.below hb h.blk.lt, h.byt.below hb, h.le⟩
/-- what a call of the reference's reader does -/
def InDoes {α : Type} (g : Nat) (v : Value) (l : List (BitVec 8)) (w : World) (o : Option (α × List (BitVec 8))) (R : α → World → Value → Prop) (Z : Value → Prop) (e : Ending) (w' : World) : Prop :=
  (∃ a p u, o = some (a, l.drop p) ∧ e = .returned u ∧ R a w' u ∧ InS w' g v l p false ∧ Only g w w') ∨ (o = none ∧ ∃ u p, e = .returned u ∧ Z u ∧ InS w' g v l p true ∧ Only g w w')
structure InInv (g : Nat) (v : Value) (l : List (BitVec 8)) (pos : Nat) (bad : Bool) (w : World) (k acc : Nat) (wr : World) : Prop where
  le : k ≤ 10
  lt : acc < 2 ^ (7 * k)
  eq : readNum (l.drop pos) = decNum (10 - k) k acc (l.drop (pos + k))
  st : InS wr g v l (pos + k) bad
  onl : Only g w wr
set_option maxRecDepth 100000 in
set_option maxHeartbeats 2000000 in
theorem innum_any (g : Nat) (v : Value) (l : List (BitVec 8)) (pos : Nat) (bad : Bool) (w : World) (h : InS w g v l pos bad) (hl : l.length ≤ 9223372036854775807) :
    Calls Tryd.prog 63 #[.pointer (some ⟨g, 0, none⟩)] w fun e w' => InDoes g v l w (if bad then none else readNum (l.drop pos)) (fun a _ u => u = .int .u64 (a : Int)) (fun u => u = .int .u64 0) e w' := by
  have hI : InInv g v l pos bad w 0 0 w := ⟨by omega, by simp, rfl, h, Only.refl _ _⟩
  have HL : Hid (l.length ≤ 9223372036854775807) := hl
  clear h hl
  go_enter Tryd.func63, Tryd.ntmps63
  go_wp2
  go_loopw [3, 4] (fun x i wr => ∃ (k acc : Nat), i = .int .i64 (k : Int) ∧ x = .int .u64 (acc : Int) ∧ InInv g v l pos bad w k acc wr) (fun _ i _ => 10 - (intOf i).toNat)
  case atStart => exact ⟨0, 0, rfl, rfl, hI⟩
  case round =>
    clear hI
    obtain ⟨k, acc, rfl, rfl, hI⟩ := hrel
    have hk := hI.le
    obtain ⟨ad, cap, hv, hcap, _, hx⟩ := id hI.st.byt
    obtain ⟨m, HM⟩ : ∃ m, Hid (m = l.length) := ⟨_, rfl⟩
    rw [← HM.out] at hv hcap
    subst hv
    have HI : Hid (InInv g (.slice ad m cap) l pos bad w k acc wr) := hI
    have c0 : wr.cell? ⟨g, 0, none⟩ = some (.slice ad m cap) := hI.st.blk.cell 0
    have c1 : wr.cell? ⟨g, 1, none⟩ = some (.int .i64 ((pos + k : Nat) : Int)) := hI.st.blk.cell 1
    have c2 : wr.cell? ⟨g, 2, none⟩ = some (.bool bad) := hI.st.blk.cell 2
    have f1 : wr.frozen? ⟨g, 1, none⟩ = false := hI.st.blk.frozen 1
    have f2 : wr.frozen? ⟨g, 2, none⟩ = false := hI.st.blk.frozen 2
    have HX : Hid (∀ j, j < m → ∃ b off, ad = some ⟨b, off, none⟩ ∧ b ≠ g ∧ wr.cell? ⟨b, off + j, none⟩ = some (.int .u8 ((l.getD j 0).toNat : Int))) := by
      intro j hj
      rw [HM.out] at hj
      obtain ⟨b, off, h1, h2⟩ := hx (by omega)
      exact ⟨b, off, h1, hI.st.ne b off (by omega) h2, h2 j hj⟩
    clear hx hI
    obtain ⟨p, HP⟩ : ∃ p, Hid (p = pos + k) := ⟨_, rfl⟩
    rw [← HP.out] at c1
    have HPM : Hid (p ≤ m) := by show _ ≤ _; rw [HP.out, HM.out]; exact HI.out.st.le
    have hmx : m ≤ 9223372036854775807 := by rw [HM.out]; exact HL.out
    by_cases hlt : k < 10
    · cases bad with
      | true =>
        have HF : Hid (∀ n, InDoes g (.slice ad m cap) l w none (fun (a : Nat) _ u => u = .int .u64 (a : Int)) (fun u => u = .int .u64 0) (.returned (.int .u64 0)) ((wr.drewN n).setCell ⟨g, 2, none⟩ (.bool true))) := fun n =>
          Or.inr ⟨rfl, _, _, rfl, rfl, (HI.out.st.drewN n).setBad true, (HI.out.onl.drewN n).setCell _ _⟩
        clear HI
        go_wp2
        go_quiet (fail)
        go_wp2
        go_ret
        exact HF.out _
      | false =>
        by_cases hpm : p < m
        · obtain ⟨b, off, rfl, hbg, hc⟩ := HX.out p hpm
          have hge : ¬ ((m : Int) ≤ (p : Int)) := by omega
          have hc8 := (l.getD p 0).isLt
          have HE : Hid (readNum (l.drop pos) = if (k = 9 ∧ 1 < (l.getD p 0).toNat) ∨ (0 < k ∧ (l.getD p 0).toNat = 0) then none else if (l.getD p 0).toNat < 128 then some (acc + (l.getD p 0).toNat % 128 * 2 ^ (7 * k), l.drop (p + 1)) else decNum (10 - (k + 1)) (k + 1) (acc + (l.getD p 0).toNat % 128 * 2 ^ (7 * k)) (l.drop (p + 1))) := by
            show _ = _
            have hd : l.drop p = l.getD p 0 :: l.drop (p + 1) := by
              rw [HM.out] at hpm
              rw [List.drop_eq_getElem_cons hpm, List.getD_eq_getElem?_getD, List.getElem?_eq_getElem hpm]
              rfl
            rw [HI.out.eq, ← HP.out, hd, dec_step k acc hlt]
          obtain ⟨cn, HCN⟩ : ∃ x, Hid (x = (l.getD p 0).toNat) := ⟨_, rfl⟩
          rw [← HCN.out] at hc hc8 HE
          have HA : Hid (acc < 2 ^ (7 * k)) := HI.out.lt
          have HS : Hid (∀ n, InS ((wr.drewN n).setCell ⟨g, 1, none⟩ (.int .i64 ((p : Int) + 1))) g (.slice (some ⟨b, off, none⟩) m cap) l (p + 1) false) := fun n => (HI.out.st.drewN n).setPos (p + 1) (by rw [← HM.out]; omega)
          have HO : Hid (∀ n, Only g w ((wr.drewN n).setCell ⟨g, 1, none⟩ (.int .i64 ((p : Int) + 1)))) := fun n => (HI.out.onl.drewN n).setCell _ _
          have HBad : Hid (readNum (l.drop pos) = none → ∀ n, InDoes g (.slice (some ⟨b, off, none⟩) m cap) l w (readNum (l.drop pos)) (fun (a : Nat) _ u => u = .int .u64 (a : Int)) (fun u => u = .int .u64 0) (.returned (.int .u64 0)) (((wr.drewN n).setCell ⟨g, 1, none⟩ (.int .i64 ((p : Int) + 1))).setCell ⟨g, 2, none⟩ (.bool true))) := fun hno n =>
            Or.inr ⟨hno, _, _, rfl, rfl, (HS.out n).setBad true, (HO.out n).setCell _ _⟩
          have hp1 : IntKind.i64.wrap ((p : Int) + 1) = (p : Int) + 1 := by rw [IntKind.wrap_i64]; omega
          have h7 : IntKind.i64.wrap (7 * (k : Int)) = 7 * (k : Int) := by rw [IntKind.wrap_i64]; omega
          have h7u : IntKind.u64.wrap (7 * (k : Int)) = 7 * (k : Int) := by rw [IntKind.wrap_u64]; omega
          have h70 : ¬ (7 * (k : Int) < 0) := by omega
          clear HI HX
          go_wp2
          go_quiet (fail)
          go_wp2
          go_quiet (fail)
          by_cases hA : (k = 9 ∧ 1 < cn) ∨ (0 < k ∧ cn = 0)
          · have HNo : Hid (readNum (l.drop pos) = none) := by show _ = _; rw [HE.out, if_pos hA]
            clear HE HS HO HA
            rcases hA with ⟨rfl, h1⟩ | ⟨h1, rfl⟩
            · have h1i : 1 < (cn : Int) := by omega
              clear h7 h7u h70
              go_wp2
              go_ret
              exact HBad.out HNo.out _
            · by_cases h9 : k = 9
              · subst h9
                clear h7 h7u h70
                go_wp2
                go_ret
                exact HBad.out HNo.out _
              · have h9i : ¬ ((k : Int) = 9) := by omega
                go_wp2
                go_ret
                exact HBad.out HNo.out _
          · have HG : Hid (cn % 128 * 2 ^ (7 * k) + acc < 18446744073709551616) := by
              show _ < _
              have ha := HA.out
              by_cases h9 : k = 9
              · subst h9
                simp only [Nat.reduceMul, Nat.reducePow] at ha ⊢
                omega
              · have hp : (2 : Nat) ^ (7 * k) ≤ 2 ^ 56 := Nat.pow_le_pow_right (by omega) (by omega)
                have : cn % 128 * 2 ^ (7 * k) ≤ 127 * 2 ^ 56 := Nat.mul_le_mul (by omega) hp
                simp only [Nat.reducePow] at this hp
                omega
            obtain ⟨sm, HSM⟩ : ∃ x, Hid (x = acc + cn % 128 * 2 ^ (7 * k)) := ⟨_, rfl⟩
            have HE2 : Hid (readNum (l.drop pos) = if cn < 128 then some (sm, l.drop (p + 1)) else decNum (10 - (k + 1)) (k + 1) sm (l.drop (p + 1))) := by show _ = _; rw [HE.out, if_neg hA, HSM.out]
            have hcast : (cn : Int) % 128 * 2 ^ (7 * k) = ((cn % 128 * 2 ^ (7 * k) : Nat) : Int) := by simp
            have hw1 : IntKind.u64.wrap ((cn : Int) % 128 * 2 ^ (7 * k)) = (cn : Int) % 128 * 2 ^ (7 * k) := by
              have := HG.out; rw [hcast, IntKind.wrap_u64]; omega
            have hw2 : IntKind.u64.wrap ((acc : Int) + (cn : Int) % 128 * 2 ^ (7 * k)) = (sm : Int) := by
              have := HG.out; rw [hcast, IntKind.wrap_u64, HSM.out]; omega
            clear HE hcast HBad
            by_cases hC : cn < 128
            · have hC2 : (cn : Int) < 128 := by omega
              have HF : Hid (∀ n, InDoes g (.slice (some ⟨b, off, none⟩) m cap) l w (readNum (l.drop pos)) (fun (a : Nat) _ u => u = .int .u64 (a : Int)) (fun u => u = .int .u64 0) (.returned (.int .u64 (sm : Int))) ((wr.drewN n).setCell ⟨g, 1, none⟩ (.int .i64 ((p : Int) + 1)))) := fun n =>
                Or.inl ⟨sm, p + 1, _, by rw [HE2.out, if_pos hC], rfl, rfl, HS.out n, HO.out n⟩
              clear HE2 HS HO
              by_cases h9 : k = 9
              · subst h9
                have h1 : cn = 1 := by omega
                subst h1
                have hs1 : (sm : Int) = (acc : Int) + 9223372036854775808 := by rw [HSM.out]; simp
                have hw3 : IntKind.u64.wrap ((acc : Int) + 9223372036854775808) = (acc : Int) + 9223372036854775808 := by rw [IntKind.wrap_u64]; have := HG.out; simp at this; omega
                rw [hs1] at HF
                clear hA h7 h7u h70 hw1 hw2 hs1
                go_wp2
                go_ret
                exact HF.out _
              · have h9i : ¬ ((k : Int) = 9) := by omega
                by_cases hz : cn = 0
                · have hk0 : k = 0 := by omega
                  subst hz hk0
                  have ha0 : acc = 0 := by have := HA.out; simp at this; omega
                  subst ha0
                  have hs0 : sm = 0 := HSM.out
                  subst hs0
                  clear hA h7 h7u h70 hw1 hw2
                  go_wp2
                  go_ret
                  exact HF.out _
                · have hz2 : ¬ ((cn : Int) = 0) := by omega
                  clear hA
                  by_cases hk0 : 0 < k
                  · go_wp2
                    go_ret
                    exact HF.out _
                  · go_wp2
                    go_ret
                    exact HF.out _
            · have hC2 : ¬ ((cn : Int) < 128) := by omega
              have hz2 : ¬ ((cn : Int) = 0) := by omega
              have h9i : ¬ ((k : Int) = 9) := by omega
              have HS2 : Hid (sm < 2 ^ (7 * (k + 1))) := by
                show _ < _
                rw [HSM.out, pow7]
                have h1 := HA.out
                have h2 : cn % 128 * 2 ^ (7 * k) ≤ 127 * 2 ^ (7 * k) := Nat.mul_le_mul_right _ (by omega)
                omega
              have HJ : Hid (∀ n, InInv g (.slice (some ⟨b, off, none⟩) m cap) l pos false w (k + 1) sm ((wr.drewN n).setCell ⟨g, 1, none⟩ (.int .i64 ((p : Int) + 1)))) := fun n =>
                ⟨by omega, HS2.out, by rw [HE2.out, if_neg hC, HP.out, Nat.add_assoc], by have := HS.out n; rw [HP.out, Nat.add_assoc] at this; rw [HP.out]; exact this, HO.out n⟩
              clear hA hC HE2 HS HO
              by_cases hk0 : 0 < k
              · go_wp2
                go_roundw
                case rel => exact ⟨k + 1, sm, by go_num, rfl, HJ.out _⟩
                case measure => simp [intOf]; omega
              · go_wp2
                go_roundw
                case rel => exact ⟨k + 1, sm, by go_num, rfl, HJ.out _⟩
                case measure => simp [intOf]; omega
        · have hge : (m : Int) ≤ (p : Int) := by omega
          have HNo : Hid (readNum (l.drop pos) = none) := by
            show _ = _
            rw [HI.out.eq, ← HP.out, List.drop_of_length_le (by rw [← HM.out]; omega), dec_nil k acc hlt]
          have HF : Hid (∀ n, InDoes g (.slice ad m cap) l w (readNum (l.drop pos)) (fun (a : Nat) _ u => u = .int .u64 (a : Int)) (fun u => u = .int .u64 0) (.returned (.int .u64 0)) ((wr.drewN n).setCell ⟨g, 2, none⟩ (.bool true))) := fun n =>
            Or.inr ⟨HNo.out, _, _, rfl, rfl, (HI.out.st.drewN n).setBad true, (HI.out.onl.drewN n).setCell _ _⟩
          clear HI HX
          go_wp2
          go_quiet (fail)
          go_wp2
          go_ret
          exact HF.out _
    · have hk10 : k = 10 := by omega
      subst hk10
      have HF : Hid (InDoes g (.slice ad m cap) l w (if bad then none else readNum (l.drop pos)) (fun (a : Nat) _ u => u = .int .u64 (a : Int)) (fun u => u = .int .u64 0) (.returned (.int .u64 0)) (wr.setCell ⟨g, 2, none⟩ (.bool true))) := by
        refine Or.inr ⟨?_, _, _, rfl, rfl, HI.out.st.setBad true, HI.out.onl.setCell _ _⟩
        rw [HI.out.eq]
        cases bad <;> rfl
      clear HI HX
      cases bad with
      | true =>
        go_wp2
        go_ret
        exact HF.out
      | false =>
        go_wp2
        go_ret
        exact HF.out
end Go.Proofs.YtableajopaappaaDoor
/- The walks of the reference's reader: Count and Take. -/
namespace Go.Proofs.YtableajopaappaaDoor
open Go.RowKit
set_option maxRecDepth 100000
set_option maxHeartbeats 400000 in
theorem incount_any (g : Nat) (v : Value) (l : List (BitVec 8)) (pos : Nat) (bad : Bool) (w : World) (most : Nat) (hm : most < 9223372036854775808) (h : InS w g v l pos bad) (hl : l.length ≤ 9223372036854775807) :
    Calls Tryd.prog 60 #[.pointer (some ⟨g, 0, none⟩), .int .i64 (most : Int)] w fun e w' => InDoes g v l w (if bad then none else readCount most (l.drop pos)) (fun a _ u => u = .int .i64 (a : Int)) (fun u => u = .int .i64 0) e w' := by
  have HI : Hid (InS w g v l pos bad) := h
  have HL : Hid (l.length ≤ 9223372036854775807) := hl
  have hw : IntKind.u64.wrap (most : Int) = (most : Int) := by rw [IntKind.wrap_u64]; omega
  obtain ⟨oo, HOO⟩ : ∃ x, Hid (x = if bad then none else readCount most (l.drop pos)) := ⟨_, rfl⟩
  rw [← HOO.out]
  clear h hl
  go_enter Tryd.func60, Tryd.ntmps60
  go_wp2_with fail
  refine (innum_any g v l pos bad w HI.out HL.out).mono ?_
  rintro e w1 (⟨n, p, u, ho, rfl, rfl, hs, hon⟩ | ⟨ho, u, p, rfl, rfl, hs, hon⟩)
  · have c2 : w1.cell? ⟨g, 2, none⟩ = some (.bool false) := hs.blk.cell 2
    have f2 : w1.frozen? ⟨g, 2, none⟩ = false := hs.blk.frozen 2
    have HS : Hid (InS w1 g v l p false) := hs
    have HON : Hid (Only g w w1) := hon
    have HC : Hid (oo = if n ≤ most then some (n, l.drop p) else none) := by
      show _ = _
      rw [HOO.out]
      cases bad with
      | true => simp at ho
      | false =>
        simp only [Bool.false_eq_true, if_false] at ho ⊢
        unfold readCount
        rw [ho]
    clear hs hon ho HI
    by_cases hle : n ≤ most
    · have hng : ¬ ((most : Int) < (n : Int)) := by omega
      have hwn : IntKind.i64.wrap (n : Int) = (n : Int) := by rw [IntKind.wrap_i64]; omega
      have HF : Hid (InDoes g v l w oo (fun (a : Nat) _ u => u = .int .i64 (a : Int)) (fun u => u = .int .i64 0) (.returned (.int .i64 (n : Int))) w1) := Or.inl ⟨n, p, _, by rw [HC.out, if_pos hle], rfl, rfl, HS.out, HON.out⟩
      clear HC HS HON
      go_wp2
      go_ret
      exact HF.out
    · have hg : (most : Int) < (n : Int) := by omega
      have HF : Hid (InDoes g v l w oo (fun (a : Nat) _ u => u = .int .i64 (a : Int)) (fun u => u = .int .i64 0) (.returned (.int .i64 0)) (w1.setCell ⟨g, 2, none⟩ (.bool true))) := Or.inr ⟨by rw [HC.out, if_neg hle], _, _, rfl, rfl, HS.out.setBad true, HON.out.setCell _ _⟩
      clear HC HS HON hle
      go_wp2
      go_ret
      exact HF.out
  · have c2 : w1.cell? ⟨g, 2, none⟩ = some (.bool true) := hs.blk.cell 2
    have f2 : w1.frozen? ⟨g, 2, none⟩ = false := hs.blk.frozen 2
    have HC : Hid (oo = none) := by
      show _ = _
      rw [HOO.out]
      cases bad with
      | true => rfl
      | false =>
        simp only [Bool.false_eq_true, if_false] at ho ⊢
        unfold readCount
        rw [ho]
    have HF : Hid (InDoes g v l w oo (fun (a : Nat) _ u => u = .int .i64 (a : Int)) (fun u => u = .int .i64 0) (.returned (.int .i64 0)) (w1.setCell ⟨g, 2, none⟩ (.bool true))) := Or.inr ⟨HC.out, _, _, rfl, rfl, hs.setBad true, hon.setCell _ _⟩
    clear hs hon ho HI
    go_wp2
    go_ret
    exact HF.out
def cutAd (ad : Option Addr) (p cap : Nat) : Option Addr := if cap = p then ad else ad.map (·.add p)
theorem slice_mid4 (ad : Option Addr) (m cap p n : Nat) (h2 : p + n ≤ cap) (w : World) :
    (Instr.sliceAt 28 (.slice ad m cap) (some (.int .i64 (p : Int))) (some (.int .i64 ((p : Int) + (n : Int)))) none).run Tryd.prog w = .ok (.slice (cutAd ad p cap) n (cap - p)) w := by
  have e : ((p : Int) + (n : Int)).toNat = p + n := by omega
  unfold cutAd
  simp [go_sem, Instr.sliceAt, Instr.slice, Instr.sliceBounds]
  rw [if_pos ⟨by omega, by omega⟩, e, if_pos (by omega), Nat.add_sub_cancel_left]
theorem Reads.mid {w : World} {ad : Option Addr} {m cap : Nat} {l : List (BitVec 8)} (h : Reads w (.slice ad m cap) l) (p n : Nat) (hp : p + n ≤ l.length) : Reads w (.slice (cutAd ad p cap) n (cap - p)) ((l.drop p).take n) := by
  have hm : m ≤ cap ∧ m = l.length := by
    obtain ⟨ad', cap', hv, hc, _⟩ := h
    simp only [Value.slice.injEq] at hv
    obtain ⟨_, rfl, rfl⟩ := hv
    exact ⟨hc, rfl⟩
  obtain ⟨hmc, hml⟩ := hm
  cases ad with
  | none =>
    obtain ⟨ad', cap', hv, hc, hn, hx⟩ := h
    simp only [Value.slice.injEq] at hv
    obtain ⟨rfl, _, rfl⟩ := hv
    have := hn rfl
    subst this
    have hl : l.length = 0 := by omega
    have hn0 : n = 0 := by omega
    have hp0 : p = 0 := by omega
    subst hn0 hp0
    exact ⟨none, 0, by simp [cutAd], by simp, fun _ => rfl, fun h => by simp at h⟩
  | some a =>
    have h1 := (h.drop p (by omega) (if cap = p then a else a.add p) (fun hlt => by rw [if_neg (by omega)]))
    have h2 := h1.take n (by rw [List.length_drop]; omega)
    have e : cutAd (some a) p cap = some (if cap = p then a else a.add p) := by
      unfold cutAd
      by_cases hcp : cap = p
      · rw [if_pos hcp, if_pos hcp]
      · rw [if_neg hcp, if_neg hcp]; rfl
    rw [e]
    exact h2
theorem wp_appendB {w : World} {o : Oper} {a : Act} {K : Act → World → Prop} {Q : Exit → Act → World → Prop} (s x : Operand)
    (ho : o.op = .call { callee := .builtin .append, args := #[s, x], argTypes := #[28, 28] }) (vx : Value) (news : List (BitVec 8)) (hs : a.eval s = .slice none 0 0) (hx : a.eval x = vx) (hr : Reads w vx news)
    (hlen : news.length ≤ 140737488355328) (h : ∀ v' w', OwnB w' w.heap.size v' news → Below w.heap.size w w' → K (a.put o.dst v') w') : o.wp Tryd.prog a w K Q := by
  obtain ⟨i0, hi, hz0, hz1, hz2⟩ := info_parts Tryd.infob
  obtain ⟨ad, cap, rfl, hcap, hnn, hpos⟩ := hr
  cases ad with
  | some ad =>
    refine wp_append_own w s x 28 ho w.heap.size 5 i0 (.int .u8 0) 1 1 Tryd.underlying28 hi hz0 hz1 hz2 rfl (by decide) (.slice none 0 0) 0 [] hs (World.ownsRow_nil _ _ _ _) ad news.length cap (cb news) hx (by rw [cb_len]; omega) ?_ (cb_one _) (by unfold maxLen; omega) (by omega) (Nat.le_refl _) ?_
    · intro j u hj
      have hjl : j < news.length := by have := (List.getElem?_eq_some_iff.1 hj).1; rwa [cb_len] at this
      obtain ⟨b, off, h1, h2⟩ := hpos (by omega)
      cases h1
      rw [Addr.add_mid, h2 j hjl, ← hj, cb_get news j hjl]
    · intro v' w' h1 h2 _
      rw [List.nil_append, Nat.zero_add] at h1
      exact h v' w' h1 ((Below.refl _ _).grown h2 (Nat.le_refl _) (fun k hk => by simp [Value.ownBlock] at hk))
  | none =>
    have hn0 : news = [] := by
      cases news with
      | nil => rfl
      | cons b r => obtain ⟨b, off, h1, _⟩ := hpos (by simp); cases h1
    subst hn0
    have hc0 := hnn rfl
    subst hc0
    have hrun := run_append_owned_none (P := Tryd.prog) (w := w) w.heap.size 28 o.type 5 i0 1 Tryd.underlying28 hi (.slice none 0 0) 0 [] (World.ownsRow_nil _ _ _ _)
    unfold Oper.wp execOp
    simp only [List.length_nil] at hx
    simp only [ho, resolve, invoke, builtin, Sem.run_bind, Sem.run_pure, Result.andThen_ok, List.map_toArray, List.map_cons, List.map_nil, hs, hx, hrun]
    exact h _ w (OwnB.nil _ _) (Below.refl _ _)
set_option maxRecDepth 100000 in
set_option maxHeartbeats 1000000 in
theorem intake_any (g : Nat) (v : Value) (l : List (BitVec 8)) (pos : Nat) (bad : Bool) (w : World) (n : Nat) (hn : n ≤ 140737488355328) (h : InS w g v l pos bad) (hl : l.length ≤ 9223372036854775807) :
    Calls Tryd.prog 87 #[.pointer (some ⟨g, 0, none⟩), .int .i64 (n : Int)] w fun e w' => InDoes g v l w (if bad then none else cut n (l.drop pos)) (fun a w' u => OwnB w' w.heap.size u a) (fun u => u = .slice none 0 0) e w' := by
  have HI : Hid (InS w g v l pos bad) := h
  have c1 : w.cell? ⟨g, 1, none⟩ = some (.int .i64 (pos : Int)) := h.blk.cell 1
  have c2 : w.cell? ⟨g, 2, none⟩ = some (.bool bad) := h.blk.cell 2
  have f1 : w.frozen? ⟨g, 1, none⟩ = false := h.blk.frozen 1
  have f2 : w.frozen? ⟨g, 2, none⟩ = false := h.blk.frozen 2
  obtain ⟨ad, cap, hv, hcap, hnn, _⟩ := id h.byt
  obtain ⟨m, HM⟩ : ∃ m, Hid (m = l.length) := ⟨_, rfl⟩
  rw [← HM.out] at hv hcap
  subst hv
  have c0 : w.cell? ⟨g, 0, none⟩ = some (.slice ad m cap) := h.blk.cell 0
  have HPM : Hid (pos ≤ m) := by show _ ≤ _; rw [HM.out]; exact h.le
  have hpm := HPM.out
  have hmx : m ≤ 9223372036854775807 := by rw [HM.out]; exact hl
  have hsub : IntKind.i64.wrap ((m : Int) - (pos : Int)) = (m : Int) - (pos : Int) := by rw [IntKind.wrap_i64]; omega
  clear h hl
  cases bad with
  | true =>
    have HF : Hid (∀ k, InDoes g (.slice ad m cap) l w none (fun (a : List (BitVec 8)) w' u => OwnB w' w.heap.size u a) (fun u => u = .slice none 0 0) (.returned (.slice none 0 0)) ((w.drewN k).setCell ⟨g, 2, none⟩ (.bool true))) := fun k =>
      Or.inr ⟨rfl, _, _, rfl, rfl, (HI.out.drewN k).setBad true, ((Only.refl _ _).drewN k).setCell _ _⟩
    clear HI
    go_enter Tryd.func87, Tryd.ntmps87
    go_wp2
    go_quiet (fail)
    go_wp2
    go_ret
    exact HF.out _
  | false =>
    by_cases hle : n ≤ m - pos
    · have hng : ¬ ((m : Int) - (pos : Int) < (n : Int)) := by omega
      have hadd : IntKind.i64.wrap ((pos : Int) + (n : Int)) = (pos : Int) + (n : Int) := by rw [IntKind.wrap_i64]; omega
      have hsub2 : IntKind.i64.wrap ((pos : Int) + (n : Int) - (n : Int)) = (pos : Int) := by rw [IntKind.wrap_i64]; omega
      go_enter Tryd.func87, Tryd.ntmps87
      go_wp2
      go_quiet (fail)
      go_wp2
      have HS3 : Hid (InS ((w.drewN nq).setCell ⟨g, 1, none⟩ (.int .i64 ((pos : Int) + (n : Int)))) g (.slice ad m cap) l (pos + n) false) := (HI.out.drewN nq).setPos (pos + n) (by rw [← HM.out]; omega)
      have HO3 : Hid (Only g w ((w.drewN nq).setCell ⟨g, 1, none⟩ (.int .i64 ((pos : Int) + (n : Int))))) := ((Only.refl _ _).drewN nq).setCell _ _
      generalize (w.drewN nq).setCell ⟨g, 1, none⟩ (.int .i64 ((pos : Int) + (n : Int))) = w3 at *
      have d0 : w3.cell? ⟨g, 0, none⟩ = some (.slice ad m cap) := HS3.out.blk.cell 0
      have d1 : w3.cell? ⟨g, 1, none⟩ = some (.int .i64 ((pos : Int) + (n : Int))) := HS3.out.blk.cell 1
      clear c0 c1 c2 f1 f2 HI
      have hsl := slice_mid4 ad m cap pos n (by omega)
      have hwp : IntKind.i64.wrap (pos : Int) = (pos : Int) := by rw [IntKind.wrap_i64]; omega
      have HR3 : Hid (∀ k, Reads (w3.drewN k) (.slice (cutAd ad pos cap) n (cap - pos)) ((l.drop pos).take n)) := fun k => HS3.out.byt.mid pos n (by rw [← HM.out]; omega)
      have HLEN : Hid (((l.drop pos).take n).length ≤ 140737488355328) := by show _ ≤ _; rw [List.length_take, List.length_drop, ← HM.out]; omega
      obtain ⟨S, HSd⟩ : ∃ S : World → Prop, Hid (S = fun w' => w'.cell? ⟨g, 0, none⟩ = some (.slice ad m cap) ∧ w'.cell? ⟨g, 1, none⟩ = some (.int .i64 ((pos : Int) + (n : Int)))) := ⟨_, rfl⟩
      have hS0 : S w3.drew := by rw [HSd.out]; exact ⟨d0, d1⟩
      have hSS : ∀ wx, S wx → wx.cell? ⟨g, 0, none⟩ = some (.slice ad m cap) ∧ wx.cell? ⟨g, 1, none⟩ = some (.int .i64 ((pos : Int) + (n : Int))) := fun wx h => by rw [HSd.out] at h; exact h
      refine wp_region_held_drew (S := S) (by kernel_rfl) hS0 (fun _ => ?_)
      refine wpAnyH_take (i := 0) (v := .slice none 0 0) rfl (by kernel_rfl) (by kernel_rfl) (by kernel_rfl) (fun _ _ _ h => h) (Or.inl ⟨by rfl, fun wx _ => by simp [go_sem]⟩) hS0 ?_
      simp only [Act.put, List.getElem_toArray, List.getElem_cons_zero, List.setIfInBounds_toArray, List.set_cons_zero, List.set_cons_succ]
      refine wpAnyH_take (i := 1) (v := .pointer (some ⟨g, 0, none⟩)) rfl (by kernel_rfl) (by kernel_rfl) (by kernel_rfl) (fun _ _ _ h => h) (Or.inl ⟨by rfl, fun wx _ => by simp [go_sem]⟩) hS0 ?_
      simp only [Act.put, List.getElem_toArray, List.getElem_cons_succ, List.getElem_cons_zero, List.setIfInBounds_toArray, List.set_cons_zero, List.set_cons_succ]
      refine wpAnyH_take (i := 2) (v := .pointer (some ⟨g, 0, none⟩)) rfl (by kernel_rfl) (by kernel_rfl) (by kernel_rfl) (fun _ _ _ h => h) (Or.inl ⟨by rfl, fun wx _ => by simp [go_sem]⟩) hS0 ?_
      simp only [Act.put, List.getElem_toArray, List.getElem_cons_succ, List.getElem_cons_zero, List.setIfInBounds_toArray, List.set_cons_zero, List.set_cons_succ]
      refine wpAnyH_take (i := 3) (v := .pointer (some ⟨g, 0, none⟩)) rfl (by kernel_rfl) (by kernel_rfl) (by kernel_rfl) (fun _ _ _ h => h) (Or.inl ⟨by rfl, fun wx _ => by simp [go_sem]⟩) hS0 ?_
      simp only [Act.put, List.getElem_toArray, List.getElem_cons_succ, List.getElem_cons_zero, List.setIfInBounds_toArray, List.set_cons_zero, List.set_cons_succ]
      refine wpAnyH_take (i := 4) (v := .slice ad m cap) rfl (by kernel_rfl) (by kernel_rfl) (by kernel_rfl) (fun _ _ _ h => h) (Or.inl ⟨by rfl, fun wx hS => by simp [go_sem, (hSS wx hS).1]⟩) hS0 ?_
      simp only [Act.put, List.getElem_toArray, List.getElem_cons_succ, List.getElem_cons_zero, List.setIfInBounds_toArray, List.set_cons_zero, List.set_cons_succ]
      refine wpAnyH_take (i := 5) (v := .pointer (some ⟨g, 0, none⟩)) rfl (by kernel_rfl) (by kernel_rfl) (by kernel_rfl) (fun _ _ _ h => h) (Or.inl ⟨by rfl, fun wx _ => by simp [go_sem]⟩) hS0 ?_
      simp only [Act.put, List.getElem_toArray, List.getElem_cons_succ, List.getElem_cons_zero, List.setIfInBounds_toArray, List.set_cons_zero, List.set_cons_succ]
      refine wpAnyH_take (i := 6) (v := .pointer (some ⟨g, 0, none⟩)) rfl (by kernel_rfl) (by kernel_rfl) (by kernel_rfl) (fun _ _ _ h => h) (Or.inl ⟨by rfl, fun wx _ => by simp [go_sem]⟩) hS0 ?_
      simp only [Act.put, List.getElem_toArray, List.getElem_cons_succ, List.getElem_cons_zero, List.setIfInBounds_toArray, List.set_cons_zero, List.set_cons_succ]
      refine wpAnyH_take (i := 7) (v := .pointer (some ⟨g, 1, none⟩)) rfl (by kernel_rfl) (by kernel_rfl) (by kernel_rfl) (fun _ _ _ h => h) (Or.inl ⟨by rfl, fun wx _ => by simp [go_sem]⟩) hS0 ?_
      simp only [Act.put, List.getElem_toArray, List.getElem_cons_succ, List.getElem_cons_zero, List.setIfInBounds_toArray, List.set_cons_zero, List.set_cons_succ]
      refine wpAnyH_take (i := 8) (v := .int .i64 ((pos : Int) + (n : Int))) rfl (by kernel_rfl) (by kernel_rfl) (by kernel_rfl) (fun _ _ _ h => h) (Or.inl ⟨by rfl, fun wx hS => by simp [go_sem, (hSS wx hS).2]⟩) hS0 ?_
      simp only [Act.put, List.getElem_toArray, List.getElem_cons_succ, List.getElem_cons_zero, List.setIfInBounds_toArray, List.set_cons_zero, List.set_cons_succ]
      refine wpAnyH_take (i := 9) (v := .int .i64 (n : Int)) rfl (by kernel_rfl) (by kernel_rfl) (by kernel_rfl) (fun _ _ _ h => h) (Or.inl ⟨by rfl, fun wx _ => by simp [go_sem]⟩) hS0 ?_
      simp only [Act.put, List.getElem_toArray, List.getElem_cons_succ, List.getElem_cons_zero, List.setIfInBounds_toArray, List.set_cons_zero, List.set_cons_succ]
      refine wpAnyH_take (i := 10) (v := .int .i64 (pos : Int)) rfl (by kernel_rfl) (by kernel_rfl) (by kernel_rfl) (fun _ _ _ h => h) (Or.inl ⟨by rfl, fun wx _ => by simp [go_sem, hwp]⟩) hS0 ?_
      simp only [Act.put, List.getElem_toArray, List.getElem_cons_succ, List.getElem_cons_zero, List.setIfInBounds_toArray, List.set_cons_zero, List.set_cons_succ]
      refine wpAnyH_take (i := 11) (v := .pointer (some ⟨g, 0, none⟩)) rfl (by kernel_rfl) (by kernel_rfl) (by kernel_rfl) (fun _ _ _ h => h) (Or.inl ⟨by rfl, fun wx _ => by simp [go_sem]⟩) hS0 ?_
      simp only [Act.put, List.getElem_toArray, List.getElem_cons_succ, List.getElem_cons_zero, List.setIfInBounds_toArray, List.set_cons_zero, List.set_cons_succ]
      refine wpAnyH_take (i := 12) (v := .pointer (some ⟨g, 0, none⟩)) rfl (by kernel_rfl) (by kernel_rfl) (by kernel_rfl) (fun _ _ _ h => h) (Or.inl ⟨by rfl, fun wx _ => by simp [go_sem]⟩) hS0 ?_
      simp only [Act.put, List.getElem_toArray, List.getElem_cons_succ, List.getElem_cons_zero, List.setIfInBounds_toArray, List.set_cons_zero, List.set_cons_succ]
      refine wpAnyH_take (i := 13) (v := .pointer (some ⟨g, 1, none⟩)) rfl (by kernel_rfl) (by kernel_rfl) (by kernel_rfl) (fun _ _ _ h => h) (Or.inl ⟨by rfl, fun wx _ => by simp [go_sem]⟩) hS0 ?_
      simp only [Act.put, List.getElem_toArray, List.getElem_cons_succ, List.getElem_cons_zero, List.setIfInBounds_toArray, List.set_cons_zero, List.set_cons_succ]
      refine wpAnyH_take (i := 14) (v := .int .i64 ((pos : Int) + (n : Int))) rfl (by kernel_rfl) (by kernel_rfl) (by kernel_rfl) (fun _ _ _ h => h) (Or.inl ⟨by rfl, fun wx hS => by simp [go_sem, (hSS wx hS).2]⟩) hS0 ?_
      simp only [Act.put, List.getElem_toArray, List.getElem_cons_succ, List.getElem_cons_zero, List.setIfInBounds_toArray, List.set_cons_zero, List.set_cons_succ]
      refine wpAnyH_take (i := 15) (v := .slice (cutAd ad pos cap) n (cap - pos)) rfl (by kernel_rfl) (by kernel_rfl) (by kernel_rfl) (fun _ _ _ h => h) (Or.inl ⟨by rfl, fun wx _ => by simp [go_sem, hsl]⟩) hS0 ?_
      simp only [Act.put, List.getElem_toArray, List.getElem_cons_succ, List.getElem_cons_zero, List.setIfInBounds_toArray, List.set_cons_zero, List.set_cons_succ]
      refine wpAnyH_law 16 (by kernel_rfl) rfl (by rfl) (wp_appendB (.tmp 36) (.tmp 51) rfl _ ((l.drop pos).take n) rfl rfl (HR3.out 1) HLEN.out ?_)
      intro v4 w4 hown4 hbel4
      have HSx : S w4 := by rw [HSd.out]; exact ⟨by rw [hbel4.cell (p := ⟨g, 0, none⟩) (block_lt_of_cell d0)]; exact d0, by rw [hbel4.cell (p := ⟨g, 1, none⟩) (block_lt_of_cell d1)]; exact d1⟩
      refine ⟨HSx, ?_⟩
      simp only [Act.put, List.getElem_toArray, List.getElem_cons_succ, List.getElem_cons_zero, List.setIfInBounds_toArray, List.set_cons_zero, List.set_cons_succ]
      have HF : Hid (InDoes g (.slice ad m cap) l w (cut n (l.drop pos)) (fun (a : List (BitVec 8)) w' u => OwnB w' w.heap.size u a) (fun u => u = .slice none 0 0) (.returned v4) w4) := by
        have hb3 : Below w3.heap.size w3 w4 := (Below.refl _ _).drew.trans hbel4
        refine Or.inl ⟨(l.drop pos).take n, pos + n, v4, ?_, rfl, hown4.mono HO3.out.size, HS3.out.below hb3, HO3.out.trans (Only.of_below hb3)⟩
        unfold cut
        rw [if_pos (by rw [List.length_drop, ← HM.out]; exact hle), List.drop_drop]
      clear hown4 hbel4
      refine wpAnyH_take (i := 17) (v := v4) rfl (by kernel_rfl) (by kernel_rfl) (by kernel_rfl) (fun _ _ _ h => h) (Or.inl ⟨by rfl, fun wx _ => by simp [go_sem]⟩) HSx ?_
      simp only [Act.put, List.getElem_toArray, List.getElem_cons_succ, List.getElem_cons_zero, List.setIfInBounds_toArray, List.set_cons_zero, List.set_cons_succ]
      refine wpAnyH_done (by kernel_rfl) ?_ _
      go_wp2
      go_ret
      exact HF.out
    · have hgt : (m : Int) - (pos : Int) < (n : Int) := by omega
      have HC : Hid (cut n (l.drop pos) = none) := by show cut n _ = _; unfold cut; rw [if_neg (by rw [List.length_drop, ← HM.out]; omega)]
      have HF : Hid (∀ k, InDoes g (.slice ad m cap) l w (cut n (l.drop pos)) (fun (a : List (BitVec 8)) w' u => OwnB w' w.heap.size u a) (fun u => u = .slice none 0 0) (.returned (.slice none 0 0)) ((w.drewN k).setCell ⟨g, 2, none⟩ (.bool true))) := fun k =>
        Or.inr ⟨HC.out, _, _, rfl, rfl, (HI.out.drewN k).setBad true, ((Only.refl _ _).drewN k).setCell _ _⟩
      clear HI
      go_enter Tryd.func87, Tryd.ntmps87
      go_wp2
      go_quiet (fail)
      go_wp2
      go_ret
      exact HF.out _
end Go.Proofs.YtableajopaappaaDoor
/- The walks of the reference's reader: Text, Digest, Done. -/
namespace Go.Proofs.YtableajopaappaaDoor
open Go.RowKit
set_option maxRecDepth 100000
theorem readText_count (l : List (BitVec 8)) : readText l = match readCount 1048576 l with | none => none | some (n, r) => cut n r := by
  unfold readText readCount
  cases readNum l with
  | none => rfl
  | some p =>
    obtain ⟨n, r⟩ := p
    simp only
    by_cases h1 : n ≤ 1048576
    · simp only [if_pos h1]
      unfold cut
      by_cases h2 : n ≤ r.length
      · rw [if_pos ⟨h1, h2⟩, if_pos h2]
      · rw [if_neg (by omega), if_neg h2]
    · rw [if_neg (by omega), if_neg h1]
theorem readCount_le {most n : Nat} {l r : List (BitVec 8)} (h : readCount most l = some (n, r)) : n ≤ most := by
  unfold readCount at h
  split at h
  · cases h
  · split at h
    · simp only [Option.some.injEq, Prod.mk.injEq] at h; omega
    · cases h
set_option maxHeartbeats 400000 in
theorem intext_any (g : Nat) (v : Value) (l : List (BitVec 8)) (pos : Nat) (bad : Bool) (w : World) (h : InS w g v l pos bad) (hl : l.length ≤ 9223372036854775807) :
    Calls Tryd.prog 61 #[.pointer (some ⟨g, 0, none⟩)] w fun e w' => InDoes g v l w (if bad then none else readText (l.drop pos)) (fun a w' u => OwnB w' w.heap.size u a) (fun u => u = .slice none 0 0) e w' := by
  have HI : Hid (InS w g v l pos bad) := h
  have HL : Hid (l.length ≤ 9223372036854775807) := hl
  obtain ⟨oo, HOO⟩ : ∃ x, Hid (x = if bad then none else readText (l.drop pos)) := ⟨_, rfl⟩
  rw [← HOO.out]
  clear h hl
  go_enter Tryd.func61, Tryd.ntmps61
  go_wp2_with fail
  refine (incount_any g v l pos bad w 1048576 (by omega) HI.out (by have := HL.out; omega)).mono ?_
  rintro e w1 (⟨n, p, u, ho, rfl, rfl, hs, hon⟩ | ⟨ho, u, p, rfl, rfl, hs, hon⟩)
  · have HC : Hid (oo = cut n (l.drop p) ∧ n ≤ 1048576) := by
      cases bad with
      | true => simp at ho
      | false =>
        simp only [Bool.false_eq_true, if_false] at ho
        exact ⟨by rw [HOO.out]; simp only [Bool.false_eq_true, if_false]; rw [readText_count, ho], readCount_le ho⟩
    have HS : Hid (InS w1 g v l p false) := hs
    have HON : Hid (Only g w w1) := hon
    clear hs hon ho HI
    go_wp2_with fail
    refine (intake_any g v l p false w1 n (by have := HC.out.2; omega) HS.out HL.out).mono ?_
    rintro e w2 (⟨a, q, u, ho, rfl, hu, hs2, hon2⟩ | ⟨ho, u, q, rfl, hu, hs2, hon2⟩)
    · have HF : Hid (InDoes g v l w oo (fun (a : List (BitVec 8)) w' u => OwnB w' w.heap.size u a) (fun u => u = .slice none 0 0) (.returned u) w2) :=
        Or.inl ⟨a, q, u, by rw [HC.out.1]; simpa using ho, rfl, hu.mono HON.out.size, hs2, HON.out.trans hon2⟩
      clear ho hu hs2 hon2 HC HS HON
      go_wp2
      go_ret
      exact HF.out
    · have HF : Hid (InDoes g v l w oo (fun (a : List (BitVec 8)) w' u => OwnB w' w.heap.size u a) (fun u => u = .slice none 0 0) (.returned u) w2) :=
        Or.inr ⟨by rw [HC.out.1]; simpa using ho, u, q, rfl, hu, hs2, HON.out.trans hon2⟩
      clear ho hu hs2 hon2 HC HS HON
      go_wp2
      go_ret
      exact HF.out
  · have HC : Hid (oo = none) := by
      show _ = _
      rw [HOO.out]
      cases bad with
      | true => rfl
      | false =>
        simp only [Bool.false_eq_true, if_false] at ho ⊢
        rw [readText_count, ho]
    have HS : Hid (InS w1 g v l p true) := hs
    have HON : Hid (Only g w w1) := hon
    clear hs hon ho HI
    go_wp2_with fail
    refine (intake_any g v l p true w1 0 (by omega) HS.out HL.out).mono ?_
    rintro e w2 (⟨a, q, u, ho, rfl, hu, hs2, hon2⟩ | ⟨ho, u, q, rfl, hu, hs2, hon2⟩)
    · simp at ho
    · have HF : Hid (InDoes g v l w oo (fun (a : List (BitVec 8)) w' u => OwnB w' w.heap.size u a) (fun u => u = .slice none 0 0) (.returned u) w2) :=
        Or.inr ⟨HC.out, u, q, rfl, hu, hs2, HON.out.trans hon2⟩
      clear ho hu hs2 hon2 HC HS HON
      go_wp2
      go_ret
      exact HF.out
set_option maxRecDepth 100000 in
set_option maxHeartbeats 400000 in
theorem indone_any (g : Nat) (v : Value) (l : List (BitVec 8)) (pos : Nat) (bad : Bool) (w : World) (h : InS w g v l pos bad) :
    Calls Tryd.prog 62 #[.pointer (some ⟨g, 0, none⟩)] w fun e w' => e = .returned (.bool (!bad && decide (pos = l.length))) ∧ ∃ k, w' = w.drewN k := by
  have c1 : w.cell? ⟨g, 1, none⟩ = some (.int .i64 (pos : Int)) := h.blk.cell 1
  have c2 : w.cell? ⟨g, 2, none⟩ = some (.bool bad) := h.blk.cell 2
  obtain ⟨ad, cap, hv, hcap, hnn, _⟩ := id h.byt
  obtain ⟨m, HM⟩ : ∃ m, Hid (m = l.length) := ⟨_, rfl⟩
  rw [← HM.out] at hv ⊢
  subst hv
  have c0 : w.cell? ⟨g, 0, none⟩ = some (.slice ad m cap) := h.blk.cell 0
  have hnot : ∀ (x : Bool) (w : World), (Op.unary .not (.bool x)).run Tryd.prog w = .ok (.bool (!x)) w := fun _ _ => rfl
  clear h
  cases bad with
  | true =>
    go_enter Tryd.func62, Tryd.ntmps62
    go_wp2
    go_quiet (fail)
    go_wp2
    go_ret
    exact ⟨by simp, _, rfl⟩
  | false =>
    by_cases he : pos = m
    · subst he
      go_enter Tryd.func62, Tryd.ntmps62
      go_wp2
      go_quiet (fail)
      go_wp2
      go_ret
      exact ⟨by simp, _, rfl⟩
    · have hei : ¬ ((pos : Int) = (m : Int)) := by omega
      go_enter Tryd.func62, Tryd.ntmps62
      go_wp2
      go_quiet (fail)
      go_wp2
      go_ret
      exact ⟨by simp [he]; omega, _, rfl⟩
def fillD (a : List (BitVec 8)) : Nat → List (BitVec 8)
  | 0 => zb32
  | k + 1 => (fillD a k).set k (a.getD k 0)
theorem len_fillD (a : List (BitVec 8)) (k : Nat) : (fillD a k).length = 32 := by
  induction k with
  | zero => rfl
  | succ k ih => simp [fillD, ih]
theorem fillD_get (a : List (BitVec 8)) : ∀ (k j : Nat), j < 32 → (fillD a k)[j]? = some (if j < k then a.getD j 0 else 0)
  | 0, j, hj => by
    simp only [fillD, Nat.not_lt_zero, if_false, zb32]
    rw [List.getElem?_replicate, if_pos hj]
  | k + 1, j, hj => by
    rw [fillD]
    by_cases h : j = k
    · subst h
      rw [List.getElem?_set_self (by rw [len_fillD]; exact hj), if_pos (by omega)]
    · rw [List.getElem?_set_ne (by omega), fillD_get a k j hj]
      by_cases h2 : j < k
      · rw [if_pos h2, if_pos (by omega)]
      · rw [if_neg h2, if_neg (by omega)]
theorem fillD_all (a : List (BitVec 8)) (h : a.length = 32) : fillD a 32 = a := by
  apply List.ext_getElem?
  intro j
  by_cases hj : j < 32
  · rw [fillD_get a 32 j hj, if_pos hj, List.getElem?_eq_getElem (by omega), List.getD_eq_getElem?_getD, List.getElem?_eq_getElem (by omega)]
    rfl
  · rw [List.getElem?_eq_none (by rw [len_fillD]; omega), List.getElem?_eq_none (by omega)]
structure DgInv4 (D : Nat) (a : List (BitVec 8)) (w2 : World) (u : Value) (k : Nat) (wr : World) : Prop where
  le : k ≤ a.length
  res : Blk wr D (cb zb32) 23
  out : Blk wr (D + 1) (cb (fillD a k)) 23
  own : OwnB wr (D + 2) u a
  onl : Only (D + 1) w2 wr
set_option maxRecDepth 100000 in
set_option maxHeartbeats 1000000 in
theorem indigest_any (g : Nat) (v : Value) (l : List (BitVec 8)) (pos : Nat) (bad : Bool) (w : World) (h : InS w g v l pos bad) (hl : l.length ≤ 9223372036854775807) :
    Calls Tryd.prog 64 #[.pointer (some ⟨g, 0, none⟩)] w fun e w' => InDoes g v l w (if bad then none else cut 32 (l.drop pos)) (fun a _ u => u = .agg (cb a).toArray) (fun u => u = .agg (cb zb32).toArray) e w' := by
  have hB1 : Below w.heap.size w ((w.alloc (.cells (cb zb32).toArray 23)).alloc (.cells (cb zb32).toArray 23)) := ((Below.refl _ _).alloc (Nat.le_refl _) _).alloc (by simp) _
  have HA : Hid (Blk ((w.alloc (.cells (cb zb32).toArray 23)).alloc (.cells (cb zb32).toArray 23)) w.heap.size (cb zb32) 23) := (Blk.new w (cb zb32) 23).alloc _
  have HD : Hid (Blk ((w.alloc (.cells (cb zb32).toArray 23)).alloc (.cells (cb zb32).toArray 23)) (w.heap.size + 1) (cb zb32) 23) := Blk.new_at (w := w.alloc (.cells (cb zb32).toArray 23)) (by simp) (cb zb32) 23
  have HI : Hid (InS ((w.alloc (.cells (cb zb32).toArray 23)).alloc (.cells (cb zb32).toArray 23)) g v l pos bad) := h.below hB1
  have HG : Hid (g < w.heap.size) := h.blk.lt
  have HV : Hid (0 < l.length → ∀ k, v.ownBlock = some k → k < w.heap.size) := by
    intro hp k hk
    obtain ⟨ad, cap, rfl, _, _, hx⟩ := h.byt
    obtain ⟨b, off, rfl, hy⟩ := hx hp
    simp only [Value.ownBlock, Option.some.injEq] at hk
    subst hk
    exact block_lt_of_cell (hy 0 hp)
  have HB1 : Hid (Only g w ((w.alloc (.cells (cb zb32).toArray 23)).alloc (.cells (cb zb32).toArray 23))) := Only.of_below hB1
  have HSZ : Hid (((w.alloc (.cells (cb zb32).toArray 23)).alloc (.cells (cb zb32).toArray 23)).heap.size = w.heap.size + 2) := by show _ = _; simp
  have HL : Hid (l.length ≤ 9223372036854775807) := hl
  obtain ⟨oo, HOO⟩ : ∃ x, Hid (x = if bad then none else cut 32 (l.drop pos)) := ⟨_, rfl⟩
  rw [← HOO.out]
  clear h hB1 hl
  go_enter Tryd.func64, Tryd.ntmps64
  go_wp2_with fail
  generalize h0 : Obj.cells _ 23 = o32
  have ho : o32 = Obj.cells (cb zb32).toArray 23 := h0.symm
  clear h0
  subst ho
  generalize (w.alloc (.cells (cb zb32).toArray 23)).alloc (.cells (cb zb32).toArray 23) = w1 at *
  refine (intake_any g v l pos bad w1 32 (by omega) HI.out HL.out).mono ?_
  intro e w2 hD
  obtain ⟨a, u, p, b2, rfl, hown, hs2, hon2, hfin⟩ : ∃ (a : List (BitVec 8)) (u : Value) (p : Nat) (b2 : Bool), e = .returned u ∧ OwnB w2 w1.heap.size u a ∧ InS w2 g v l p b2 ∧ Only g w1 w2 ∧ ((oo = some (a, l.drop p) ∧ b2 = false ∧ a.length = 32) ∨ (oo = none ∧ b2 = true ∧ a = [])) := by
    rcases hD with ⟨a, p, u, ho, h1, h2, h3, h4⟩ | ⟨ho, u, p, h1, h2, h3, h4⟩
    · refine ⟨a, u, p, false, h1, h2, h3, h4, Or.inl ⟨by rw [HOO.out, ho], rfl, ?_⟩⟩
      cases bad with
      | true => simp at ho
      | false =>
        simp only [Bool.false_eq_true, if_false] at ho
        unfold cut at ho
        split at ho
        · rename_i hle
          simp only [Option.some.injEq, Prod.mk.injEq] at ho
          rw [← ho.1, List.length_take]; omega
        · cases ho
    · subst h2
      exact ⟨[], _, p, true, h1, OwnB.nil _ _, h3, h4, Or.inr ⟨by rw [HOO.out, ho], rfl, rfl⟩⟩
  rw [HSZ.out] at hown
  have ha32 : a.length ≤ 32 := by rcases hfin with ⟨_, _, h⟩ | ⟨_, _, h⟩ <;> simp [h]
  have hI : DgInv4 w.heap.size a w2 u 0 w2 := ⟨Nat.zero_le _, HA.out.only hon2 (by have := HG.out; omega), HD.out.only hon2 (by have := HG.out; omega), hown, Only.refl _ _⟩
  have HFin : Hid ((oo = some (a, l.drop p) ∧ b2 = false ∧ a.length = 32) ∨ (oo = none ∧ b2 = true ∧ a = [])) := hfin
  have HS2 : Hid (InS w2 g v l p b2) := hs2
  have HO2 : Hid (Only g w w2) := HB1.out.trans hon2
  obtain ⟨ad, cap, hu, hcap, _, _⟩ := id hown.reads
  obtain ⟨m, HM⟩ : ∃ m, Hid (m = a.length) := ⟨_, rfl⟩
  rw [← HM.out] at hu hcap ha32
  subst hu
  clear hD hfin hs2 hon2 hown HI HA HD HB1
  go_wp2
  go_loopw [5] (fun i wr => ∃ k : Nat, i = .int .i64 (k : Int) ∧ DgInv4 w.heap.size a w2 (.slice ad m cap) k wr) (fun i _ => m - (intOf i).toNat)
  case atStart => exact ⟨0, rfl, hI⟩
  case round =>
    clear hI
    obtain ⟨k, rfl, hI⟩ := hrel
    have hk := hI.le
    rw [← HM.out] at hk
    by_cases hlt : k < m
    · obtain ⟨ad', cap', hv', _, _, hx⟩ := hI.own.reads
      rw [← HM.out] at hv' hx
      simp only [Value.slice.injEq, true_and] at hv'
      obtain ⟨rfl, rfl⟩ := hv'
      obtain ⟨b, off, rfl, hy⟩ := hx (by omega)
      have hc := hy k hlt
      obtain ⟨x, HX⟩ : ∃ x, Hid (x = a.getD k 0) := ⟨_, rfl⟩
      rw [← HX.out] at hc
      obtain ⟨o, cT⟩ : ∃ o, wr.cell? ⟨w.heap.size + 1, k, none⟩ = some o := ⟨_, by rw [hI.out.cell, cb_get _ _ (by rw [len_fillD]; omega)]⟩
      have fT : wr.frozen? ⟨w.heap.size + 1, k, none⟩ = false := hI.out.frozen _
      have HJ : Hid (DgInv4 w.heap.size a w2 (.slice (some ⟨b, off, none⟩) m cap) (k + 1) (wr.setCell ⟨w.heap.size + 1, k, none⟩ (.int .u8 (x.toNat : Int)))) := by
        refine ⟨by rw [← HM.out]; omega, hI.res.other _ _ (by simp), ?_, hI.own.same (fun j hj => Below.heap_setCell _ _ _ _ (by have := hI.own.own j hj; simp; omega)), hI.onl.setCell _ _⟩
        have := hI.out.set k (.int .u8 (x.toNat : Int))
        rw [cb_set, HX.out] at this
        rw [HX.out]
        exact this
      clear hI hx hy
      go_wp2
      go_roundw
      case rel => exact ⟨k + 1, by go_num, HJ.out⟩
      case measure => simp [intOf]; omega
    · have hkm : k = m := by omega
      subst hkm
      obtain ⟨dd, HDD⟩ : ∃ x, Hid (x = fillD a k) := ⟨_, rfl⟩
      have HLd : Hid ((cb dd).length = 32) := by show _ = _; rw [cb_len, HDD.out, len_fillD]
      have HE7 : Hid (Blk wr (w.heap.size + 1) (cb dd) 23) := by rw [HDD.out]; exact hI.out
      have HA7 : Hid (Blk wr w.heap.size (cb zb32) 23) := hI.res
      have HON : Hid (Only (w.heap.size + 1) w2 wr) := hI.onl
      have HZ : Hid ((Tryd.prog.info? 23).map (·.size) = some (cb dd).length) := by show _ = _; rw [HLd.out]; exact Tryd.infodig
      have H1 : Hid (∀ u ∈ cb dd, u.oneCell' = true) := cb_one dd
      obtain ⟨cs, HCS⟩ : ∃ x, Hid (x = cb dd) := ⟨_, rfl⟩
      rw [← HCS.out] at HLd HE7 HZ H1
      clear hI
      go_wp2_with (first
        | (refine wpList_load_mid rfl 23 _ rfl (w.heap.size + 1) 0 rfl cs _ HE7.out.range Tryd.underlying23 rfl HZ.out ?_)
        | (refine wpList_store_mid rfl 23 _ _ rfl w.heap.size 0 cs.toArray rfl rfl (HA7.out.there 0 _ (by rw [List.size_toArray, HLd.out, cb_len, len_zb32]; omega)) (by simpa using HZ.out) (all_oneCell_toArray H1.out) ?_))
      have hB := HA7.out.whole cs (by rw [HLd.out, cb_len, len_zb32])
      have b1 : Below w.heap.size w2 wr := HON.out.below (by omega) (by have := HO2.out.size; omega)
      have b2' : Below w.heap.size wr (wr.setCells w.heap.size 0 cs) := Below.setCells _ (Nat.le_refl _) _ _ _ (Below.refl _ _)
      have b3 := b1.trans b2'
      have hs' : InS (wr.setCells w.heap.size 0 cs) g v l p b2 := by
        refine ⟨HS2.out.blk.below b3 HG.out, ?_, HS2.out.le⟩
        obtain ⟨ad2, cap2, hv2, hc2, hn2, hx2⟩ := HS2.out.byt
        refine ⟨ad2, cap2, hv2, hc2, hn2, fun hp => ?_⟩
        obtain ⟨b, off, rfl, hy⟩ := hx2 hp
        refine ⟨b, off, rfl, fun j hj => ?_⟩
        rw [b3.cell (p := ⟨b, off + j, none⟩) (HV.out hp b (by rw [hv2]; rfl))]
        exact hy j hj
      have ho' : Only g w (wr.setCells w.heap.size 0 cs) := HO2.out.more b3 (Nat.le_refl _)
      refine bodyPost_ret (v := .agg cs.toArray) (results_cell_row (by rfl) _ _ w.heap.size 23 _ (0, 0) _ rfl hB Tryd.underlying23 rfl (by simpa using HZ.out)) rfl ?_
      rcases HFin.out with ⟨h1, rfl, h3⟩ | ⟨h1, rfl, rfl⟩
      · exact Or.inl ⟨a, p, _, h1, rfl, by rw [HCS.out, HDD.out, HM.out, h3, fillD_all a h3], hs', ho'⟩
      · exact Or.inr ⟨h1, _, p, rfl, by rw [HCS.out, HDD.out, HM.out]; rfl, hs', ho'⟩
end Go.Proofs.YtableajopaappaaDoor
/- The walks of blazonref04.ReadNums and ReadTexts. -/
namespace Go.Proofs.YtableajopaappaaDoor
open Go.RowKit
set_option maxRecDepth 100000
theorem InS.others {w w' : World} {g : Nat} {v : Value} {l : List (BitVec 8)} {pos : Nat} {bad : Bool} (h : InS w g v l pos bad) (hv : 0 < l.length → ∀ k, v.ownBlock = some k → k < g) (hb : Below (g + 1) w w') : InS w' g v l pos bad := by
  refine ⟨h.blk.below hb (by omega), ?_, h.le⟩
  obtain ⟨ad, cap, rfl, hc, hn, hx⟩ := h.byt
  refine ⟨ad, cap, rfl, hc, hn, fun hp => ?_⟩
  obtain ⟨b, off, rfl, hy⟩ := hx hp
  refine ⟨b, off, rfl, fun j hj => ?_⟩
  rw [hb.cell (p := ⟨b, off + j, none⟩) (by have := hv hp b rfl; show b < g + 1; omega)]
  exact hy j hj
theorem below_drewN {B : Nat} {a b : World} (h : Below B a b) (n : Nat) : Below B a (b.drewN n) := ⟨h.os, h.tape, h.output, h.size, h.block⟩
theorem wpList_law {P : Program} {ops : Array Oper} {rest : List Oper} {o : Oper} {a : Act} {w : World} {Q : Exit → Act → World → Prop} (hg : o.guard = none) (h : o.wp P a w (wpList P ops Q rest) Q) : wpList P ops Q (o :: rest) a w :=
  wpList_plain hg (fun _ hK => Oper.wp_mono (fun a' w' h => hK a' w' h) h)
def QrInvT (g : Nat) (v : Value) (l : List (BitVec 8)) (w : World) (n : Nat) (r : List (BitVec 8)) (k : Nat) (u : Value) (wr : World) : Prop :=
  Below g w wr ∧ g + 1 ≤ wr.heap.size ∧ ((∃ (xs : List (List (BitVec 8))) (pos : Nat) (vs : List Value), xs.length = k ∧ k ≤ n ∧ InS wr g v l pos false ∧ readAll readText n r = (readAll readText (n - k) (l.drop pos)).map (fun p => (xs ++ p.1, p.2)) ∧ OwnV wr (g + 1) 28 u vs ∧ GoodT wr (g + 1) vs xs) ∨
    (∃ pos ad m c, InS wr g v l pos true ∧ readAll readText n r = none ∧ u = .slice ad m c))
theorem qrT_next {g : Nat} {v : Value} {l : List (BitVec 8)} {w wr w4 w6 : World} {n : Nat} {r : List (BitVec 8)} {k p : Nat} {xs : List (List (BitVec 8))} {vl vl2 u : Value} {vs : List Value} {pos : Nat} {a : List (BitVec 8)} (hb : Below g w wr) (hsz : g + 1 ≤ wr.heap.size) (hlen : xs.length = k) (hk : k < n) (hv : 0 < l.length → ∀ k, v.ownBlock = some k → k < g)
    (heq : readAll readText n r = (readAll readText (n - k) (l.drop pos)).map (fun p => (xs ++ p.1, p.2))) (hown : OwnV wr (g + 1) 28 vl vs) (hgood : GoodT wr (g + 1) vs xs) (hg : readText (l.drop pos) = some (a, l.drop p)) (hs4 : InS w4 g v l p false) (ho4 : Only g wr w4) (hu : OwnB w4 (g + 1) u a)
    (hown6 : OwnV w6 (g + 1) 28 vl2 (vs ++ [u])) (hgrow : (w4.alloc (.cells #[u] 28)).grownBy w6 vl.ownBlock) : QrInvT g v l w n r (k + 1) vl2 w6 := by
  have hrow : ∀ k, vl.ownBlock = some k → g + 1 ≤ k := fun k hk => (hown.lt k hk).1
  have hs4' : g + 1 ≤ w4.heap.size := Nat.le_trans hsz ho4.size
  have b45 : Below (g + 1) w4 (w4.alloc (.cells #[u] 28)) := (below_alloc w4 _).mono hs4'
  have b56 : Below (g + 1) (w4.alloc (.cells #[u] 28)) w6 := (Below.refl _ _).grown hgrow (Nat.le_trans hs4' b45.size) hrow
  have b46 := b45.trans b56
  have b14 : Below g wr w4 := ho4.below (Nat.le_refl _) (by omega)
  refine ⟨(hb.trans b14).trans (b46.mono (by omega)), Nat.le_trans hs4' b46.size, Or.inl ⟨xs ++ [a], p, vs ++ [u], by rw [List.length_append, hlen]; rfl, by omega, hs4.others hv b46, ?_, hown6, ?_⟩⟩
  · rw [show n - k = (n - (k + 1)) + 1 by omega] at heq
    exact readAll_more readText (n - (k + 1)) (l.drop pos) (l.drop p) a n xs r heq hg
  · have hown4 : OwnV w4 (g + 1) 28 vl vs := hown.same (fun k hk => ho4.block k (by have := (hown.lt k hk).1; omega) (hown.lt k hk).2)
    have up : ∀ x t, OwnB w4 (g + 1) x t → OwnB w6 (g + 1) x t := fun x t hx => by
      have hne := hx.apart (by decide) hown4
      refine hx.same (fun k hk => ?_)
      have h2 := hx.lt k hk
      rw [hgrow.block k (by simp; omega) (hne k hk), Go.RowKit.Below.heap_alloc w4 _ k h2]
    refine ⟨by rw [List.length_append, List.length_append, hgood.1]; rfl, fun j x hj => ?_⟩
    by_cases hjl : j < vs.length
    · rw [List.getElem?_append_left hjl] at hj
      have h1 := hgood.2 j x hj
      have h2 : (xs ++ [a]).getD j [] = xs.getD j [] := by
        rw [List.getD_eq_getElem?_getD, List.getD_eq_getElem?_getD, List.getElem?_append_left (by rw [← hgood.1]; exact hjl)]
      rw [h2]
      exact up _ _ (h1.same (fun k hk => ho4.block k (by have := h1.own k hk; omega) (h1.lt k hk)))
    · rw [List.getElem?_append_right (by omega)] at hj
      have hj0 : j = vs.length := by
        have := (List.getElem?_eq_some_iff.1 hj).1
        simp at this
        omega
      subst hj0
      simp at hj
      subst hj
      have h2 : (xs ++ [a]).getD vs.length [] = a := by
        rw [List.getD_eq_getElem?_getD, hgood.1, List.getElem?_append_right (Nat.le_refl _), Nat.sub_self]
        rfl
      rw [h2]
      exact up _ _ hu
set_option maxRecDepth 100000 in
set_option maxHeartbeats 2000000 in
theorem qreadT_any (vb : Value) (l : List (BitVec 8)) (w : World) (hb : Reads w vb l) (hl : l.length ≤ 9223372036854775807) :
    Calls Tryd.prog 35 #[vb] w fun e w' => ListRead 28 GoodT (readList readText l) w e w' := by
  have HL : Hid (l.length ≤ 9223372036854775807) := hl
  have HL2 : Hid (l.length ≤ 9223372036854775807) := hl
  have hnot : ∀ (x : Bool) (w : World), (Op.unary .not (.bool x)).run Tryd.prog w = .ok (.bool (!x)) w := fun _ _ => rfl
  have hvb : 0 < l.length → ∀ k, vb.ownBlock = some k → k < w.heap.size := by
    intro hp k hk
    obtain ⟨ad, cap, rfl, _, _, hx⟩ := hb
    obtain ⟨b, off, rfl, hy⟩ := hx hp
    simp only [Value.ownBlock, Option.some.injEq] at hk
    subst hk
    exact block_lt_of_cell (hy 0 hp)
  obtain ⟨ad, cap, hv, _, _, _⟩ := id hb
  obtain ⟨m, HM⟩ : ∃ m, Hid (m = l.length) := ⟨_, rfl⟩
  rw [← HM.out] at hv
  subst hv
  have HI0 : Hid (InS (w.alloc (.cells #[.slice ad m cap, .int .i64 0, .bool false] 95)) w.heap.size (.slice ad m cap) l 0 false) :=
    ⟨Blk.new w [.slice ad m cap, .int .i64 0, .bool false] 95, hb.below (below_alloc _ _), Nat.zero_le _⟩
  have HB0 : Hid (Below w.heap.size w (w.alloc (.cells #[.slice ad m cap, .int .i64 0, .bool false] 95))) := below_alloc _ _
  have HVB : Hid (0 < l.length → ∀ k, (Value.slice ad m cap).ownBlock = some k → k < w.heap.size) := hvb
  have HZ : Hid (w.heap.size + 1 ≤ (w.alloc (.cells #[.slice ad m cap, .int .i64 0, .bool false] 95)).heap.size) := by show _ ≤ _; simp
  obtain ⟨g, HG⟩ : ∃ g, Hid (g = w.heap.size) := ⟨_, rfl⟩
  clear hb hl hvb
  go_enter Tryd.func35, Tryd.ntmps35
  go_wp2_with fail
  rw [← HG.out] at HI0 HB0 HVB HZ
  have hgp : (some ⟨w.heap.size, 0, none⟩ : Option Addr) = some ⟨g, 0, none⟩ := by rw [HG.out]
  simp only [hgp]
  clear hgp
  generalize w.alloc (.cells #[.slice ad m cap, .int .i64 0, .bool false] 95) = w1 at *
  refine (incount_any g (.slice ad m cap) l 0 false w1 4096 (by omega) HI0.out HL2.out).mono ?_
  intro e w2 hD
  obtain ⟨n, r, rfl, hn, hI⟩ : ∃ (n : Nat) (r : List (BitVec 8)), e = .returned (.int .i64 (n : Int)) ∧ n ≤ 4096 ∧ (QrInvT g (.slice ad m cap) l w n r 0 (.slice none 0 0) w2 ∧ (readMany readText l = readAll readText n r) ∨ (n = 0 ∧ readMany readText l = none ∧ Below g w w2 ∧ g + 1 ≤ w2.heap.size ∧ ∃ p, InS w2 g (.slice ad m cap) l p true)) := by
    rcases hD with ⟨n, p, u, ho, h1, rfl, hs, hon⟩ | ⟨ho, u, p, h1, rfl, hs, hon⟩
    · simp only [Bool.false_eq_true, if_false, List.drop_zero] at ho
      refine ⟨n, l.drop p, h1, readCount_le ho, Or.inl ⟨⟨HB0.out.trans (hon.below (Nat.le_refl _) (by have := HZ.out; omega)), Nat.le_trans HZ.out hon.size, Or.inl ⟨[], p, [], rfl, Nat.zero_le _, hs, ?_, OwnV.nil _ _ _, ⟨rfl, fun j u hj => by simp at hj⟩⟩⟩, by unfold readMany; rw [ho]⟩⟩
      rw [Nat.sub_zero]; cases readAll readText n (l.drop p) <;> rfl
    · simp only [Bool.false_eq_true, if_false, List.drop_zero] at ho
      exact ⟨0, [], h1, by omega, Or.inr ⟨rfl, by unfold readMany; rw [ho], HB0.out.trans (hon.below (Nat.le_refl _) (by have := HZ.out; omega)), Nat.le_trans HZ.out hon.size, p, hs⟩⟩
  obtain ⟨mm, HMM⟩ : ∃ x, Hid (x = readMany readText l) := ⟨_, rfl⟩
  have hJ : ∃ u, u = Value.slice none 0 0 ∧ ((QrInvT g (.slice ad m cap) l w n r 0 u w2 ∧ mm = readAll readText n r) ∨ (mm = none ∧ n = 0 ∧ Below g w w2 ∧ g + 1 ≤ w2.heap.size ∧ ∃ p, InS w2 g (.slice ad m cap) l p true)) := by
    refine ⟨_, rfl, ?_⟩
    rw [HMM.out]
    rcases hI with ⟨h1, h2⟩ | ⟨h1, h2, h3, h4, h5⟩
    · exact Or.inl ⟨h1, h2⟩
    · exact Or.inr ⟨h2, h1, h3, h4, h5⟩
  clear hD hI HI0 HB0
  have hGe : g ≤ w.heap.size ∧ w.heap.size ≤ g := by rw [HG.out]; exact ⟨Nat.le_refl _, Nat.le_refl _⟩
  have HGe : Hid (g ≤ w.heap.size ∧ w.heap.size ≤ g) := hGe
  clear hGe
  go_wp2
  go_loopw [5, 7] (fun u i wr => ∃ k : Nat, i = .int .i64 (k : Int) ∧ ((QrInvT g (.slice ad m cap) l w n r k u wr ∧ mm = readAll readText n r) ∨ (mm = none ∧ n = 0 ∧ k = 0 ∧ Below g w wr ∧ g + 1 ≤ wr.heap.size ∧ u = Value.slice none 0 0 ∧ ∃ p, InS wr g (.slice ad m cap) l p true))) (fun _ i _ => n - (intOf i).toNat)
  case atStart =>
    obtain ⟨u, rfl, hJ⟩ := hJ
    refine ⟨0, rfl, ?_⟩
    rcases hJ with h1 | ⟨h1, h2, h3, h4, h5⟩
    · exact Or.inl h1
    · exact Or.inr ⟨h1, h2, rfl, h3, h4, rfl, h5⟩
  case round =>
    clear hJ
    obtain ⟨k, rfl, hJ⟩ := hrel
    have bad : ∀ p, InS wr g (.slice ad m cap) l p true → mm = none → Below g w wr → (∃ a1 m1 c1, u5 = Value.slice a1 m1 c1) → Hid (∀ q, ListRead 28 GoodT (readList readText l) w (.returned (.tuple #[.slice none 0 0, .int .i64 3])) (wr.drewN q)) := fun p hs hm hb _ q =>
      Or.inr ⟨by rw [readList_many, ← HMM.out, hm], rfl, below_drewN (hb.mono HGe.out.2) q⟩
    rcases hJ with ⟨⟨hb, hsz, hway⟩, hm⟩ | ⟨hm, rfl, rfl, hb, hsz, rfl, p, hs⟩
    · rcases hway with ⟨xs, pos, vs, hlen, hkn, hS, heq, hown, hgood⟩ | ⟨pos, a1, m1, c1, hS, hno, rfl⟩
      · have c2 : wr.cell? ⟨g, 2, none⟩ = some (.bool false) := hS.blk.cell 2
        by_cases hlt : k < n
        · have HC := intext_any g (.slice ad m cap) l pos false wr hS HL.out
          replace HC : Hid _ := HC
          obtain ⟨al, cl, hvl, _⟩ := hown.slice
          have HVL : Hid (vs.length < 1000000) := by
            have h2 : vs.length = xs.length := by exact hgood.1
            show _ < _
            omega
          obtain ⟨nl, HNL⟩ : ∃ x : Nat, Hid (x = vs.length) := ⟨_, rfl⟩
          rw [← HNL.out] at hvl
          have HST : Hid (Below g w wr ∧ g + 1 ≤ wr.heap.size ∧ xs.length = k ∧ readAll readText n r = (readAll readText (n - k) (l.drop pos)).map (fun p => (xs ++ p.1, p.2)) ∧ OwnV wr (g + 1) 28 u5 vs ∧ GoodT wr (g + 1) vs xs) := ⟨hb, hsz, hlen, heq, hown, hgood⟩
          have HMM2 : Hid (mm = readAll readText n r) := hm
          clear hb hsz hlen heq hown hgood hm hS bad
          subst hvl
          go_wp2_with fail
          refine Calls.mono HC.out ?_
          intro e w4 hD
          obtain ⟨u, rfl, hshape, hstep⟩ : ∃ u, e = .returned u ∧ (∃ au nu cu, u = Value.slice au nu cu) ∧ (∀ w6 vl2, OwnV w6 (g + 1) 28 vl2 (vs ++ [u]) → (w4.alloc (.cells #[u] 28)).grownBy w6 (Value.slice al nl cl).ownBlock → (∃ a1 m1 c1, vl2 = Value.slice a1 m1 c1) → QrInvT g (.slice ad m cap) l w n r (k + 1) vl2 w6) ∧ OwnV (w4.alloc (.cells #[u] 28)) (g + 1) 28 (.slice al nl cl) vs ∧ g + 1 ≤ (w4.alloc (.cells #[u] 28)).heap.size := by
            have key : ∀ u, Only g wr w4 → OwnV (w4.alloc (.cells #[u] 28)) (g + 1) 28 (.slice al nl cl) vs ∧ g + 1 ≤ (w4.alloc (.cells #[u] 28)).heap.size := fun u ho4 => by
              have hown := HST.out.2.2.2.2.1
              have h4 : OwnV w4 (g + 1) 28 (.slice al nl cl) vs := hown.same (fun k hk => ho4.block k (by have := (hown.lt k hk).1; omega) (hown.lt k hk).2)
              exact ⟨h4.same (fun k hk => (below_alloc w4 _).block k (h4.lt k hk).2), by have h1 := HST.out.2.1; have h2 := ho4.size; have h3 := (below_alloc w4 (.cells #[u] 28)).size; omega⟩
            rcases hD with ⟨a, p, u, ho, h1, hu, hs4, ho4⟩ | ⟨ho, u, p, h1, hu, hs4, ho4⟩
            · simp only [Bool.false_eq_true, if_false] at ho
              refine ⟨u, h1, ?_, fun w6 vl2 h2 h3 _ => ?_, key u ho4⟩
              · obtain ⟨x1, x2, hx, _⟩ := hu.reads; exact ⟨_, _, _, hx⟩
              · exact qrT_next HST.out.1 HST.out.2.1 HST.out.2.2.1 hlt (fun hp k hk => by have := HVB.out hp k hk; have := HGe.out.2; omega) HST.out.2.2.2.1 HST.out.2.2.2.2.1 HST.out.2.2.2.2.2 ho hs4 ho4 (hu.mono HST.out.2.1) h2 h3
            · simp only [Bool.false_eq_true, if_false] at ho
              refine ⟨u, h1, ⟨_, _, _, hu⟩, fun w6 vl2 h2 h3 h7 => ?_, key u ho4⟩
              obtain ⟨a1, m1, c1, hvl2⟩ := h7
              have hrow : ∀ k, (Value.slice al nl cl).ownBlock = some k → g + 1 ≤ k := fun k hk => (HST.out.2.2.2.2.1.lt k hk).1
              have hs4' : g + 1 ≤ w4.heap.size := Nat.le_trans HST.out.2.1 ho4.size
              have b45 : Below (g + 1) w4 (w4.alloc (.cells #[u] 28)) := (below_alloc w4 _).mono hs4'
              have b56 : Below (g + 1) (w4.alloc (.cells #[u] 28)) w6 := (Below.refl _ _).grown h3 (Nat.le_trans hs4' b45.size) hrow
              refine ⟨(HST.out.1.trans (ho4.below (Nat.le_refl _) (by have := HST.out.2.1; omega))).trans ((b45.trans b56).mono (by omega)), Nat.le_trans hs4' (b45.trans b56).size, Or.inr ⟨p, a1, m1, c1, hs4.others (fun hp k hk => by have := HVB.out hp k hk; have := HGe.out.2; omega) (b45.trans b56), ?_, hvl2⟩⟩
              rw [HST.out.2.2.2.1, show n - k = (n - (k + 1)) + 1 by omega, readAll, ho]
              rfl
          obtain ⟨hst, hown5, hsz5⟩ := hstep
          obtain ⟨au, nu, cu, rfl⟩ := hshape
          have HST2 : Hid (∀ w6 vl2, OwnV w6 (g + 1) 28 vl2 (vs ++ [(Value.slice au nu cu)]) → (w4.alloc (.cells #[(Value.slice au nu cu)] 28)).grownBy w6 (Value.slice al nl cl).ownBlock → (∃ a1 m1 c1, vl2 = Value.slice a1 m1 c1) → QrInvT g (.slice ad m cap) l w n r (k + 1) vl2 w6) := hst
          have HO5 : Hid (OwnV (w4.alloc (.cells #[(Value.slice au nu cu)] 28)) (g + 1) 28 (.slice al nl cl) vs) := hown5
          have HSZ5 : Hid (g + 1 ≤ (w4.alloc (.cells #[(Value.slice au nu cu)] 28)).heap.size) := hsz5
          have HU1 : Hid ((Value.slice au nu cu).oneCell' = true) := rfl
          have HU5 : Hid ((w4.alloc (.cells #[(Value.slice au nu cu)] 28)).cell? ⟨w4.heap.size, 0, none⟩ = some (Value.slice au nu cu)) := (Blk.new w4 [(Value.slice au nu cu)] 28).cell 0
          clear hst hown5 hsz5 hD HST HC
          go_wp2_with (at_builtin; refine wpList_law rfl (wp_appendT (.tmp 25) (.tmp 28) rfl (g + 1) _ (Value.slice au nu cu) vs w4.heap.size rfl HO5.out rfl HU5.out HU1.out HVL.out HSZ5.out ?_); intro vl2 w6 hown6 hgrow6)
          obtain ⟨a6, c6, hv6, _⟩ := hown6.slice
          have HJ : Hid (QrInvT g (.slice ad m cap) l w n r (k + 1) vl2 w6) := HST2.out w6 vl2 hown6 hgrow6 ⟨_, _, _, hv6⟩
          clear hown6 hgrow6 HST2 HO5 HU5 hv6
          go_wp2
          go_roundw
          case rel => exact ⟨k + 1, by go_num, Or.inl ⟨HJ.out, HMM2.out⟩⟩
          case measure => simp [intOf]; omega
        · have hkn' : k = n := by omega
          subst hkn'
          obtain ⟨al, cl, hvl, _⟩ := hown.slice
          have HF1 : Hid (pos = l.length → ∀ q, ListRead 28 GoodT (readList readText l) w (.returned (.tuple #[u5, .int .i64 0])) (wr.drewN q)) := fun hp q => by
            refine Or.inl ⟨xs, u5, vs, ?_, rfl, hown.mono (by have := HGe.out.2; omega), ⟨hgood.1, fun j x hj => (hgood.2 j x hj).mono (by have := HGe.out.2; omega)⟩, below_drewN (hb.mono HGe.out.2) q⟩
            rw [readList_many, ← HMM.out, hm, heq, Nat.sub_self, hp, List.drop_length]
            simp [readAll]
          have HF2 : Hid (pos ≠ l.length → ∀ q, ListRead 28 GoodT (readList readText l) w (.returned (.tuple #[.slice none 0 0, .int .i64 3])) (wr.drewN q)) := fun hp q => by
            refine Or.inr ⟨?_, rfl, below_drewN (hb.mono HGe.out.2) q⟩
            rw [readList_many, ← HMM.out, hm, heq, Nat.sub_self]
            simp only [readAll, Option.map_some, List.append_nil]
            cases hd : l.drop pos with
            | nil =>
              have := congrArg List.length hd
              rw [List.length_drop] at this
              have := hS.le
              simp at *
              omega
            | cons x y => rfl
          have HDn := indone_any g (.slice ad m cap) l pos false wr hS
          replace HDn : Hid _ := HDn
          obtain ⟨nl, HNL⟩ : ∃ x : Nat, Hid (x = vs.length) := ⟨_, rfl⟩
          rw [← HNL.out] at hvl
          clear hb hsz hlen heq hown hgood hm hS bad
          subst hvl
          go_wp2_with fail
          refine Calls.mono HDn.out ?_
          rintro e w' ⟨rfl, q, rfl⟩
          by_cases hp : pos = l.length
          · have HF : Hid (ListRead 28 GoodT (readList readText l) w (.returned (.tuple #[.slice al nl cl, .int .i64 0])) (wr.drewN q)) := HF1.out hp q
            simp only [hp, decide_true, Bool.not_false, Bool.and_self]
            clear HF1 HF2 HDn
            go_wp2
            go_ret2
            exact HF.out
          · have HF : Hid (ListRead 28 GoodT (readList readText l) w (.returned (.tuple #[.slice none 0 0, .int .i64 3])) (wr.drewN q)) := HF2.out hp q
            simp only [hp, decide_false, Bool.and_false]
            clear HF1 HF2 HDn
            go_wp2
            go_ret2
            exact HF.out
      · have c2 : wr.cell? ⟨g, 2, none⟩ = some (.bool true) := hS.blk.cell 2
        have HF := bad pos hS (by rw [hm, hno]) hb ⟨a1, m1, c1, rfl⟩
        have HDn := indone_any g (.slice ad m cap) l pos true wr hS
        replace HDn : Hid _ := HDn
        clear hb hsz hm hS bad hno
        by_cases hlt : k < n
        · go_wp2_with fail
          refine Calls.mono HDn.out ?_
          rintro e w' ⟨rfl, q, rfl⟩
          simp only [Bool.not_true, Bool.false_and]
          go_wp2
          go_ret2
          exact HF.out q
        · go_wp2_with fail
          refine Calls.mono HDn.out ?_
          rintro e w' ⟨rfl, q, rfl⟩
          simp only [Bool.not_true, Bool.false_and]
          go_wp2
          go_ret2
          exact HF.out q
    · have c2 : wr.cell? ⟨g, 2, none⟩ = some (.bool true) := hs.blk.cell 2
      have HF := bad p hs hm hb ⟨_, _, _, rfl⟩
      have HDn := indone_any g (.slice ad m cap) l p true wr hs
      replace HDn : Hid _ := HDn
      clear hb hsz hm hs bad
      go_wp2_with fail
      refine Calls.mono HDn.out ?_
      rintro e w' ⟨rfl, q, rfl⟩
      simp only [Bool.not_true, Bool.false_and]
      go_wp2
      go_ret2
      exact HF.out q
end Go.Proofs.YtableajopaappaaDoor
/- The walks of codec.list, Nums and Texts, and of the reference's Nums, Texts, SameNums and SameTexts. -/
namespace Go.Proofs.YtableajopaappaaDoor
open Go.RowKit
set_option maxRecDepth 100000
/-- the slice v reads as the numbers ns -/
def ReadsN (w : World) (v : Value) (ns : List Nat) : Prop :=
  ∃ ad cap, v = .slice ad ns.length cap ∧ ns.length ≤ cap ∧ (ad = none → cap = 0) ∧ (0 < ns.length → ∃ b off, ad = some ⟨b, off, none⟩ ∧ ∀ j, j < ns.length → w.cell? ⟨b, off + j, none⟩ = some (.int .u64 ((ns.getD j 0 : Nat) : Int)))
theorem ReadsN.below {w w' : World} {v : Value} {ns : List Nat} (h : ReadsN w v ns) (hb : Below w.heap.size w w') : ReadsN w' v ns := by
  obtain ⟨ad, cap, hv, hc, hn, hx⟩ := h
  refine ⟨ad, cap, hv, hc, hn, fun hp => ?_⟩
  obtain ⟨b, off, h1, h2⟩ := hx hp
  exact ⟨b, off, h1, fun j hj => by rw [hb.cell (p := ⟨b, off + j, none⟩) (block_lt_of_cell (h2 j hj))]; exact h2 j hj⟩
theorem OwnV.readsL {w : World} {base : Nat} {v : Value} {vs : List Value} {ls : List (List (BitVec 8))} (h : OwnV w base 28 v vs) (hg : GoodT w base vs ls) : ReadsL w v ls := by
  obtain ⟨ad, c, hv, hc, hn, hx⟩ := h.slice
  have hl := hg.1
  rw [hl] at hv hc hx
  refine ⟨ad, c, hv, hc, hn, fun hp => ?_⟩
  obtain ⟨g, h1, h2⟩ := hx hp
  refine ⟨g, 0, h1, fun j hj => ?_⟩
  have hj' : j < vs.length := by rw [hl]; exact hj
  refine ⟨vs[j], ?_, (hg.2 j _ (List.getElem?_eq_getElem hj')).reads⟩
  rw [Nat.zero_add]
  exact h2 j _ (List.getElem?_eq_getElem hj')
theorem encAll_take {α : Type} (f : α → List (BitVec 8)) (l : List α) (k : Nat) (z : α) (h : k < l.length) : encAll f (l.take (k + 1)) = encAll f (l.take k) ++ f (l.getD k z) := by
  unfold encAll
  rw [List.take_add_one, List.getElem?_eq_getElem h, List.getD_eq_getElem?_getD, List.getElem?_eq_getElem h]
  simp only [Option.toList_some, List.map_append, List.map_cons, List.map_nil, List.flatten_append, List.flatten_cons, List.flatten_nil, List.append_nil, Option.getD_some]
theorem encText_len (t : List (BitVec 8)) : (encText t).length = (encNum t.length).length + t.length := by unfold encText; rw [List.length_append]
theorem encTexts_len (ls : List (List (BitVec 8))) (h : ls.flatten.length < 18446744073709551616) : (encAll encText ls).length ≤ ls.flatten.length + 10 * ls.length := by
  induction ls with
  | nil => simp [encAll]
  | cons t r ih =>
    rw [List.flatten_cons, List.length_append] at h
    rw [encAll_cons, List.length_append, List.length_cons, List.flatten_cons, List.length_append]
    have h1 := enc_len10 t.length (by omega)
    have h2 := ih (by omega)
    rw [encText_len]
    omega
theorem getD_flat_le {ls : List (List (BitVec 8))} (k : Nat) (hk : k < ls.length) : (encAll encText (ls.take k)).length ≤ (ls.take k).flatten.length + 10 * k → (ls.take k).flatten.length + (ls.getD k []).length ≤ ls.flatten.length := by
  intro _
  have h1 := flat_take ls k hk
  have h2 := flat_le ls (k + 1)
  rw [h1, List.length_append] at h2
  exact h2
structure LsInv (w : World) (l : List (BitVec 8)) (u : Value) (wr : World) : Prop where
  own : OwnB wr w.heap.size u l
  bel : Below w.heap.size w wr
set_option maxRecDepth 100000 in
set_option maxHeartbeats 1000000 in
theorem listT_any (v : Value) (xs : List (List (BitVec 8))) (w : World) (hR : ReadsL w v xs) (hl : xs.flatten.length + 10 * xs.length + 40 ≤ 140737488355328) :
    Calls Tryd.prog 68 #[v, .func (.func 67) #[] #[]] w fun e w' => ∃ v', e = .returned v' ∧ OwnB w' w.heap.size v' (encList encText xs) ∧ Below w.heap.size w w' := by
  have HR : Hid (ReadsL w v xs) := hR
  have HLN : Hid (xs.flatten.length + 10 * xs.length + 40 ≤ 140737488355328) := hl
  obtain ⟨ad, cap, hv, hcap, _, _⟩ := hR
  obtain ⟨n, HNN⟩ : ∃ n, Hid (n = xs.length) := ⟨_, rfl⟩
  rw [← HNN.out] at hv hcap
  subst hv
  have hn62 : n ≤ 14073748835533 := by rw [HNN.out]; have := HLN.out; omega
  have hw : IntKind.u64.wrap (n : Int) = (n : Int) := by rw [IntKind.wrap_u64]; omega
  clear hl
  go_enter Tryd.func68, Tryd.ntmps68
  go_wp2_with fail
  refine (cnum_any w.heap.size _ [] n (by omega) w (OwnB.nil _ _) (Nat.le_refl _) (by simp)).mono ?_
  rintro e w1 ⟨v1, rfl, ho1, hb1⟩
  have hI : LsInv w (encNum n ++ encAll encText (xs.take 0)) v1 w1 := ⟨by simpa [encAll] using ho1, hb1⟩
  clear ho1 hb1
  go_wp2
  go_loopw [5, 14] (fun u i wr => ∃ k : Nat, k ≤ n ∧ i = .int .i64 (k : Int) ∧ LsInv w (encNum n ++ encAll encText (xs.take k)) u wr) (fun _ i _ => n - (intOf i).toNat)
  case atStart => exact ⟨0, by omega, rfl, hI⟩
  case round =>
    clear hI hw
    obtain ⟨k, hk, rfl, hI⟩ := hrel
    have HI : Hid (LsInv w (encNum n ++ encAll encText (xs.take k)) u5 wr) := hI
    by_cases hlt : k < n
    · skip
      obtain ⟨ad', cap', hv', _, _, hx⟩ := HR.out.below hI.bel
      rw [← HNN.out] at hv' hx
      simp only [Value.slice.injEq, true_and] at hv'
      obtain ⟨rfl, rfl⟩ := hv'
      obtain ⟨b, off, rfl, hx2⟩ := hx (by omega)
      obtain ⟨vj, cj, hj⟩ := hx2 k hlt
      obtain ⟨y, HY⟩ : ∃ y, Hid (y = xs.getD k []) := ⟨_, rfl⟩
      have HJ : Hid (Reads wr vj y) := by rw [HY.out]; exact hj
      have HYL : Hid ((encNum n ++ encAll encText (xs.take k)).length + y.length + 20 ≤ 140737488355328) := by
        have h0 := flat_le xs k
        have h1 := encTexts_len (xs.take k) (by have := HLN.out; omega)
        have h2 := HLN.out
        have h3 := enc_len10 n (by omega)
        have h4 := getD_flat_le (ls := xs) k (by rw [← HNN.out]; exact hlt) (by have := h1; rw [List.length_take] at this; omega)
        rw [List.length_take] at h1
        show _ ≤ _
        rw [List.length_append, HY.out]
        omega
      have HE : Hid (encNum n ++ encAll encText (xs.take (k + 1)) = (encNum n ++ encAll encText (xs.take k)) ++ encText y) := by
        show _ = _
        rw [encAll_take encText xs k [] (by rw [← HNN.out]; exact hlt), HY.out, List.append_assoc]
      clear hx hx2 hI
      go_wp2_with fail
      refine (ctext_any w.heap.size _ _ (encNum n ++ encAll encText (xs.take k)) y wr HI.out.own HJ.out HI.out.bel.size (by have := HYL.out; omega)).mono ?_
      rintro e w2 ⟨v2, rfl, ho2, hb2⟩
      have HJ2 : Hid (LsInv w (encNum n ++ encAll encText (xs.take (k + 1))) v2 w2) := ⟨by rw [HE.out]; exact ho2, HI.out.bel.trans hb2⟩
      clear ho2 hb2 HI
      go_wp2
      go_roundw
      case rel => exact ⟨k + 1, by omega, by go_num, HJ2.out⟩
      case measure => simp [intOf]; omega
    · have hkn : k = n := by omega
      subst hkn
      have HV : Hid (OwnB wr w.heap.size u5 (encList encText xs)) := by
        have := hI.own
        rw [HNN.out, List.take_of_length_le (Nat.le_refl _)] at this
        exact this
      have hbel := hI.bel
      clear hI HI HR
      go_wp2
      go_ret
      exact ⟨_, rfl, HV.out, hbel⟩
set_option maxHeartbeats 400000 in
theorem ctexts_any (v : Value) (xs : List (List (BitVec 8))) (w : World) (hR : ReadsL w v xs) (hl : xs.flatten.length + 10 * xs.length + 40 ≤ 140737488355328) :
    Calls Tryd.prog 40 #[v] w fun e w' => ∃ v', e = .returned v' ∧ OwnB w' w.heap.size v' (encList encText xs) ∧ Below w.heap.size w w' := by
  go_enter Tryd.func40, Tryd.ntmps40
  go_wp2_with fail
  refine (listT_any v xs w hR hl).mono ?_
  rintro e w1 ⟨v1, rfl, ho1, hb1⟩
  go_wp2
  go_ret
  exact ⟨_, rfl, ho1, hb1⟩
end Go.Proofs.YtableajopaappaaDoor
/- The walk of what the statement CodecReader hands to Read. -/
namespace Go.Proofs.YtableajopaappaaDoor
open Go.RowKit
set_option maxRecDepth 100000
/-- what the statement's own reading comes to -/
def rdSpec (most : Int) (l : List (BitVec 8)) : Option ((Nat × List (BitVec 8) × List (BitVec 8)) × List (BitVec 8)) :=
  if most < 0 then none else
  match readCount most.toNat l with
  | none => none
  | some (n, r) =>
    if n = 2 then none else
    match (if 0 < n then cut 32 r else some (zb32, r)) with
    | none => none
    | some (d, r2) =>
      match readText r2 with
      | none => none
      | some (t, r3) => some ((n, d, t), r3)
/-- the world w' is w, below g + 8, but for the three variables and the input -/
structure FrC (g : Nat) (w w' : World) : Prop where
  os : w'.os = w.os
  tape : w'.tape = w.tape
  output : w'.output = w.output
  size : w.heap.size ≤ w'.heap.size
  block : ∀ k, k < g + 8 → k ≠ g + 5 → k ≠ g + 1 → k ≠ g + 2 → k ≠ g + 3 → w'.heap[k]? = w.heap[k]?
theorem FrC.refl (g : Nat) (w : World) : FrC g w w := ⟨rfl, rfl, rfl, Nat.le_refl _, fun _ _ _ _ _ _ => rfl⟩
theorem FrC.only {g : Nat} {a b c : World} (h : FrC g a b) (k : Only (g + 5) b c) (hB : g + 8 ≤ b.heap.size) : FrC g a c :=
  ⟨k.os.trans h.os, k.tape.trans h.tape, k.output.trans h.output, Nat.le_trans h.size k.size, fun i h1 h2 h3 h4 h5 => (k.block i h2 (by omega)).trans (h.block i h1 h2 h3 h4 h5)⟩
/-- the world w' is w but for block x -/
structure At (x : Nat) (w w' : World) : Prop where
  os : w'.os = w.os
  tape : w'.tape = w.tape
  output : w'.output = w.output
  size : w'.heap.size = w.heap.size
  block : ∀ k, k ≠ x → w'.heap[k]? = w.heap[k]?
theorem At.refl (x : Nat) (w : World) : At x w w := ⟨rfl, rfl, rfl, rfl, fun _ _ => rfl⟩
theorem At.setCell {x : Nat} {w w' : World} (h : At x w w') (o : Nat) (v : Value) : At x w (w'.setCell ⟨x, o, none⟩ v) :=
  ⟨h.os, h.tape, h.output, by have := h.size; simp [World.setCell]; omega, fun k hk => (Below.heap_setCell _ _ _ _ (by exact hk)).trans (h.block k hk)⟩
theorem At.setCells {x : Nat} {w : World} : ∀ (vs : List Value) (o : Nat) (w' : World), At x w w' → At x w (w'.setCells x o vs)
  | [], _, _, h => h
  | v :: r, o, w', h => by rw [World.setCells]; exact At.setCells r (o + 1) _ (h.setCell o v)
theorem FrC.at {g x : Nat} {a b c : World} (h : FrC g a b) (k : At x b c) (hx : x = g + 1 ∨ x = g + 2 ∨ x = g + 3) : FrC g a c :=
  ⟨k.os.trans h.os, k.tape.trans h.tape, k.output.trans h.output, by rw [k.size]; exact h.size, fun i h1 h2 h3 h4 h5 => (k.block i (by omega)).trans (h.block i h1 h2 h3 h4 h5)⟩
theorem Blk.at {w w' : World} {g x : Nat} {cs : List Value} {t : TypeId} (h : Blk w g cs t) (k : At x w w') (hne : g ≠ x) : Blk w' g cs t := by
  unfold Blk at *
  rw [k.block g hne]; exact h
theorem Reads.at {w w' : World} {x : Nat} {v : Value} {l : List (BitVec 8)} (h : Reads w v l) (k : At x w w') (hv : 0 < l.length → ∀ j, v.ownBlock = some j → j ≠ x) : Reads w' v l := by
  obtain ⟨ad, cap, rfl, hc, hn, hx⟩ := h
  refine ⟨ad, cap, rfl, hc, hn, fun hp => ?_⟩
  obtain ⟨b, off, rfl, h2⟩ := hx hp
  refine ⟨b, off, rfl, fun j hj => ?_⟩
  rw [World.cell?_of_block (w := w) (k.block b (hv hp b rfl))]
  exact h2 j hj
/-- the closure's variables, and the reader -/
structure Cv (g : Nat) (most : Int) (w1 : World) (vb : Value) (n : Int) (d : List (BitVec 8)) (v : Value) (l : List (BitVec 8)) (w : World) : Prop where
  rd : Rd w (g + 7) (g + 5) v l
  mm : Blk w g [.int .i64 most] 3
  nn : Blk w (g + 1) [.int .i64 n] 3
  dd : Blk w (g + 2) (cb d) 23
  tt : Blk w (g + 3) [.slice none 0 0] 28
  fr : FrC g w1 w
  ob : v.ownBlock = vb.ownBlock
  sz : g + 8 ≤ w.heap.size
theorem Cv.only {g : Nat} {most : Int} {w1 w w' : World} {vb v v' : Value} {n : Int} {d l l' : List (BitVec 8)} (h : Cv g most w1 vb n d v l w) (ho : Only (g + 5) w w') (hr : Rd w' (g + 7) (g + 5) v' l') (hob : v'.ownBlock = v.ownBlock) : Cv g most w1 vb n d v' l' w' :=
  ⟨hr, h.mm.only ho (by omega), h.nn.only ho (by omega), h.dd.only ho (by omega), h.tt.only ho (by omega), h.fr.only ho h.sz, hob.trans h.ob, Nat.le_trans h.sz ho.size⟩
def CvA (g : Nat) (most : Int) (l : List (BitVec 8)) (w1 : World) (l2 : List (BitVec 8)) (w2 : World) : Prop :=
  ∃ (n : Nat) (d t : List (BitVec 8)) (vt : Value), rdSpec most l = some ((n, d, t), l2) ∧ d.length = 32 ∧ Blk w2 (g + 1) [.int .i64 (n : Int)] 3 ∧ Blk w2 (g + 2) (cb d) 23 ∧ Blk w2 (g + 3) [vt] 28 ∧ Reads w2 vt t ∧ (∀ j, vt.ownBlock = some j → g + 8 ≤ j) ∧ FrC g w1 w2
def CvB (g : Nat) (most : Int) (l : List (BitVec 8)) (w1 w2 : World) : Prop := rdSpec most l = none ∧ FrC g w1 w2
theorem Cv.threw {g : Nat} {most : Int} {w1 w w' : World} {vb v : Value} {n : Int} {d l l0 : List (BitVec 8)} {e : Ending} (h : Cv g most w1 vb n d v l w) (hT : Threw (g + 5) w e w') (hs : rdSpec most l0 = none) : Does (g + 4) (CvA g most l0 w1) (CvB g most l0 w1) w1 (thrown (g + 5)) w' := by
  have hf := h.fr.only hT.onl h.sz
  obtain ⟨v', hb, ad, m, c, hv⟩ := hT.bad
  exact ⟨hf.size, fun k h1 h2 h3 => hf.block k (by omega) (by omega) (by omega) (by omega) (by omega), Or.inr ⟨rfl, ⟨v', ad, m, c, hv, hb⟩, hs, hf⟩⟩
theorem Cv.done {g : Nat} {most : Int} {w1 w w2 : World} {vb v v2 vt : Value} {n : Nat} {d l l0 t r : List (BitVec 8)} (h : Cv g most w1 vb (n : Int) d v l w) (hv : ∀ j, vb.ownBlock = some j → j < g) (hd : d.length = 32) (ho : Only (g + 5) w w2) (hrd : Rd w2 (g + 7) (g + 5) v2 r) (hob : v2.ownBlock = v.ownBlock) (hown : OwnB w2 w.heap.size vt t) (hs : rdSpec most l0 = some ((n, d, t), r)) :
    Does (g + 4) (CvA g most l0 w1) (CvB g most l0 w1) w1 (.returned (.tuple #[])) (w2.setCell ⟨g + 3, 0, none⟩ vt) := by
  have h2 := h.only ho hrd hob
  have ha : At (g + 3) w2 (w2.setCell ⟨g + 3, 0, none⟩ vt) := (At.refl _ _).setCell _ _
  have hf := h2.fr.at ha (by omega)
  have hge : ∀ j, vt.ownBlock = some j → g + 8 ≤ j := fun j hj => Nat.le_trans h.sz (hown.own j hj)
  exact ⟨hf.size, fun k h1 h2 h3 => hf.block k (by omega) (by omega) (by omega) (by omega) (by omega), Or.inl ⟨rfl, v2, r,
    ⟨hrd.rd.at ha (by omega), hrd.inp.at ha (by omega), hrd.byt.at ha (fun _ j hj => by have := hv j (h2.ob ▸ hj); omega)⟩,
    n, d, t, vt, hs, hd, h2.nn.at ha (by omega), h2.dd.at ha (by omega), h2.tt.set 0 vt, hown.reads.at ha (fun _ j hj => by have := hge j hj; omega), hge, hf⟩⟩
end Go.Proofs.YtableajopaappaaDoor
/- What CodecReader's call of Read comes to; two digests held against each other. -/
namespace Go.Proofs.YtableajopaappaaDoor
open Go.RowKit
set_option maxRecDepth 100000
/-- what Read comes to, in the law -/
structure Rdo (g : Nat) (most : Int) (l : List (BitVec 8)) (w w' : World) (en : Int) : Prop where
  bel : Below g w w'
  sz : g + 8 ≤ w'.heap.size
  mm : Blk w' g [.int .i64 most] 3
  out : (en = 0 ∧ ∃ (n : Nat) (d t : List (BitVec 8)) (vt : Value), rdSpec most l = some ((n, d, t), []) ∧ d.length = 32 ∧ Blk w' (g + 1) [.int .i64 (n : Int)] 3 ∧ Blk w' (g + 2) (cb d) 23 ∧ Blk w' (g + 3) [vt] 28 ∧ Reads w' vt t) ∨ (en = 3 ∧ ∀ x, rdSpec most l ≠ some (x, []))
def w4 (w : World) (most : Int) : World := (((w.alloc (.cells #[.int .i64 most] 3)).alloc (.cells #[.int .i64 0] 3)).alloc (.cells (cb zb32).toArray 23)).alloc (.cells #[.slice none 0 0] 28)
theorem Blk.past4 {H g : Nat} {w w' : World} {cs : List Value} {t : TypeId} (h : Blk w g cs t) (k : Past H w w') (hg : g < H) : Blk w' g cs t := by
  unfold Blk at *
  rw [k.block g (Or.inl hg)]; exact h
end Go.Proofs.YtableajopaappaaDoor
/- What the walks of record share: kinds of things, what a reading of one comes to; regions that draw. -/
namespace Go.Proofs.YtableajopaappaaDoor
open Go.RowKit
set_option maxRecDepth 100000
theorem doesMono {H : Nat} {A A' : List (BitVec 8) → World → Prop} {B B' : World → Prop} {w1 w2 : World} {e : Ending} (h : Does H A B w1 e w2) (ha : ∀ l, A l w2 → A' l w2) (hb : B w2 → B' w2) : Does H A' B' w1 e w2 :=
  ⟨h.size, h.kept, h.way.elim (fun ⟨h1, v2, l2, h2, h3⟩ => Or.inl ⟨h1, v2, l2, h2, ha l2 h3⟩) (fun ⟨h1, h2, h3⟩ => Or.inr ⟨h1, h2, hb h3⟩)⟩
/-- a kind of things: its type, its zero's cells, and which cells are a thing (what they point to lies from block b on) -/
structure Kd (α : Type) where
  ty : TypeId
  z : List Value
  G : World → Nat → α → List Value → Prop
structure KdOk {α : Type} (K : Kd α) : Prop where
  info : (Tryd.prog.info? K.ty).map (·.size) = some K.z.length
  len : ∀ {w b a cs}, K.G w b a cs → cs.length = K.z.length
  one : ∀ {w b a cs}, K.G w b a cs → ∀ v ∈ cs, v.oneCell' = true
  same : ∀ {w w' b a cs}, K.G w b a cs → (∀ k, b ≤ k → k < w.heap.size → w'.heap[k]? = w.heap[k]?) → K.G w' b a cs
  mono : ∀ {w b b' a cs}, K.G w b a cs → b' ≤ b → K.G w b' a cs
  zone : ∀ v ∈ K.z, v.oneCell' = true
theorem KdOk.size {α : Type} {K : Kd α} (h : KdOk K) {w : World} {b : Nat} {a : α} {cs : List Value} (hG : K.G w b a cs) : (Tryd.prog.info? K.ty).map (·.size) = some cs.toArray.size := by rw [List.size_toArray, h.len hG]; exact h.info
theorem KdOk.below {α : Type} {K : Kd α} (h : KdOk K) {w w' : World} {b : Nat} {a : α} {cs : List Value} (hG : K.G w b a cs) (hb : Below w.heap.size w w') : K.G w' b a cs := h.same hG fun k _ hk => hb.block k hk
/-- what one reading of such a thing does -/
def OneDoes {α : Type} (K : Kd α) (F : Nat) (spec : List (BitVec 8) → Option (α × List (BitVec 8))) : Prop :=
  ∀ (gr gi : Nat) (v : Value) (l : List (BitVec 8)) (w : World), Rd w gr gi v l → Calls Tryd.prog F #[.pointer (some ⟨gr, 0, none⟩)] w fun e w' => RdDoes gr gi v w (spec l) (fun a w' v => ∃ cs : List Value, v = .agg cs.toArray ∧ K.G w' w.heap.size a cs) e w'
/-- what is read to the end -/
def whole {α : Type} (o : Option (α × List (BitVec 8))) : Option α :=
  match o with
  | some (a, []) => some a
  | _ => none
/-- what a call that reads a thing out of bytes answers -/
def RdRes {α : Type} (K : Kd α) (w : World) (o : Option α) (e : Ending) (w' : World) : Prop :=
  Below w.heap.size w w' ∧ ((∃ a cs, o = some a ∧ e = .returned (.tuple #[.agg (cs : List Value).toArray, .int .i64 0]) ∧ K.G w' w.heap.size a cs) ∨ (o = none ∧ e = .returned (.tuple #[.agg K.z.toArray, .int .i64 3])))
/-- w' is w but for the blocks g + 2, g + 4 and new ones -/
structure Fr3 (g : Nat) (w w' : World) : Prop where
  os : w'.os = w.os
  tape : w'.tape = w.tape
  output : w'.output = w.output
  size : w.heap.size ≤ w'.heap.size
  block : ∀ k, k ≠ g + 2 → k ≠ g + 4 → k < w.heap.size → w'.heap[k]? = w.heap[k]?
theorem Fr3.of_only {g : Nat} {w w' : World} (h : Only (g + 4) w w') : Fr3 g w w' := ⟨h.os, h.tape, h.output, h.size, fun k _ h2 h3 => h.block k h2 h3⟩
theorem Fr3.at {g : Nat} {w a b : World} (h : Fr3 g w a) (k : At (g + 2) a b) : Fr3 g w b :=
  ⟨k.os.trans h.os, k.tape.trans h.tape, k.output.trans h.output, by rw [k.size]; exact h.size, fun j h1 h2 h3 => (k.block j h1).trans (h.block j h1 h2 h3)⟩
def RA {α : Type} (K : Kd α) (spec : List (BitVec 8) → Option (α × List (BitVec 8))) (g : Nat) (l : List (BitVec 8)) (w1 : World) (l2 : List (BitVec 8)) (w2 : World) : Prop :=
  ∃ a cs, spec l = some (a, l2) ∧ Blk w2 (g + 2) cs K.ty ∧ K.G w2 (g + 7) a cs ∧ Fr3 g w1 w2
def RB {α : Type} (spec : List (BitVec 8) → Option (α × List (BitVec 8))) (g : Nat) (l : List (BitVec 8)) (w1 w2 : World) : Prop := spec l = none ∧ Fr3 g w1 w2
/-- where the reading's function begins -/
structure At1 {α : Type} (K : Kd α) (F : Nat) (fty : TypeId) (g : Nat) (vb : Value) (l : List (BitVec 8)) (w1 : World) : Prop where
  rd : Rd w1 (g + 6) (g + 4) vb l
  fn : Blk w1 g [.func (.func F) #[] #[]] fty
  th : Blk w1 (g + 2) K.z K.ty
  sz : w1.heap.size = g + 7
  vb : 0 < l.length → ∀ j, vb.ownBlock = some j → j < g
theorem At1.threw {α : Type} {K : Kd α} {F : Nat} {fty : TypeId} {g : Nat} {vb : Value} {l : List (BitVec 8)} {w1 w' : World} {e : Ending} (h : At1 K F fty g vb l w1) {spec : List (BitVec 8) → Option (α × List (BitVec 8))} (hT : Threw (g + 4) w1 e w') (hs : spec l = none) :
    Does (g + 3) (RA K spec g l w1) (RB spec g l w1) w1 (thrown (g + 4)) w' := by
  obtain ⟨v', hb, ad, m, c, hv⟩ := hT.bad
  refine ⟨hT.onl.size, fun k h1 h2 h3 => hT.onl.block k h3 (by rw [h.sz]; omega), Or.inr ⟨rfl, ⟨v', ad, m, c, hv, hb⟩, hs, Fr3.of_only hT.onl⟩⟩
theorem At1.there {α : Type} {K : Kd α} (hK : KdOk K) {F : Nat} {fty : TypeId} {g : Nat} {vb : Value} {l : List (BitVec 8)} {w1 w2 : World} {a : α} {b : Nat} {cs : List Value} (h : At1 K F fty g vb l w1) (ho : Only (g + 4) w1 w2) (hG : K.G w2 b a cs) : w2.there (g + 2) 0 cs.toArray.size :=
  (h.th.only ho (by omega)).there 0 _ (by rw [List.size_toArray, hK.len hG]; omega)
theorem At1.done {α : Type} {K : Kd α} (hK : KdOk K) {F : Nat} {fty : TypeId} {g : Nat} {vb v2 : Value} {l r : List (BitVec 8)} {w1 w2 : World} {a : α} {cs : List Value} (h : At1 K F fty g vb l w1) {spec : List (BitVec 8) → Option (α × List (BitVec 8))} (hnil : spec [] = none)
    (hs : spec l = some (a, r)) (hG : K.G w2 w1.heap.size a cs) (hrd : Rd w2 (g + 6) (g + 4) v2 r) (ho : Only (g + 4) w1 w2) (hob : v2.ownBlock = vb.ownBlock) :
    Does (g + 3) (RA K spec g l w1) (RB spec g l w1) w1 (.returned (.tuple #[])) (w2.setCells (g + 2) 0 cs) := by
  have hp : 0 < l.length := by
    cases l with
    | nil => rw [hnil] at hs; cases hs
    | cons x y => simp
  have ha : At (g + 2) w2 (w2.setCells (g + 2) 0 cs) := At.setCells _ _ _ (At.refl _ _)
  have hf := (Fr3.of_only ho).at ha
  have hz := h.sz
  refine ⟨hf.size, fun k h1 h2 h3 => hf.block k (by omega) (by omega) (by omega), Or.inl ⟨rfl, v2, r, ⟨hrd.rd.at ha (by omega), hrd.inp.at ha (by omega), hrd.byt.at ha (fun _ j hj => by have := h.vb hp j (hob ▸ hj); omega)⟩, a, cs, hs, ?_, ?_, hf⟩⟩
  · exact (h.th.only ho (by omega)).whole cs (hK.len hG)
  · rw [hz] at hG
    exact hK.same hG fun k h1 _ => ha.block k (by omega)
/-- what Read comes to -/
structure RdoT {α : Type} (K : Kd α) (spec : List (BitVec 8) → Option (α × List (BitVec 8))) (g : Nat) (l : List (BitVec 8)) (w w' : World) (en : Int) : Prop where
  bel : Below g w w'
  sz : g + 7 ≤ w'.heap.size
  res : Blk w' (g + 1) K.z K.ty
  out : (en = 0 ∧ ∃ a cs, whole (spec l) = some a ∧ Blk w' (g + 2) cs K.ty ∧ K.G w' (g + 7) a cs) ∨ (en = 3 ∧ whole (spec l) = none)
def w3 {α : Type} (K : Kd α) (F : Nat) (fty : TypeId) (w : World) : World := ((w.alloc (.cells #[.func (.func F) #[] #[]] fty)).alloc (.cells K.z.toArray K.ty)).alloc (.cells K.z.toArray K.ty)
theorem rd_of {α : Type} {K : Kd α} (hK : KdOk K) (F F1 : Nat) (fty : TypeId) (spec : List (BitVec 8) → Option (α × List (BitVec 8))) (hen : ∀ xs w, (callFunc F1 xs).run Tryd.prog w = .ok (.enter F1 xs) w)
    (h1 : ∀ (g : Nat) (vb : Value) (l : List (BitVec 8)) (w1 : World), At1 K F fty g vb l w1 → Calls Tryd.prog F1 #[.pointer (some ⟨g + 6, 0, none⟩), .pointer (some ⟨g, 0, none⟩), .pointer (some ⟨g + 2, 0, none⟩)] w1 (Does (g + 3) (RA K spec g l w1) (RB spec g l w1) w1))
    (g : Nat) (vb : Value) (l : List (BitVec 8)) (w : World) (hg : w.heap.size = g) (hb : Reads w vb l) :
    Calls Tryd.prog 79 #[vb, .func (.func F1) #[] #[.pointer (some ⟨g, 0, none⟩), .pointer (some ⟨g + 2, 0, none⟩)]] (w3 K F fty w) fun e w' => ∃ en, e = .returned (.int .i64 en) ∧ RdoT K spec g l w w' en := by
  have hvb := hb.inB
  subst hg
  have hz : (w3 K F fty w).heap.size = w.heap.size + 3 := by simp [w3]
  have hB : Below w.heap.size w (w3 K F fty w) := ((((Below.refl _ _).alloc (Nat.le_refl _) _).alloc (by simp) _).alloc (by simp; omega) _)
  have b0 : Blk (w3 K F fty w) w.heap.size [.func (.func F) #[] #[]] fty := ((Blk.new w [.func (.func F) #[] #[]] fty).alloc _).alloc _
  have b1 : Blk (w3 K F fty w) (w.heap.size + 1) K.z K.ty := (Blk.new_at (w := w.alloc _) (by simp) K.z K.ty).alloc _
  have b2 : Blk (w3 K F fty w) (w.heap.size + 2) K.z K.ty := Blk.new_at (w := (w.alloc _).alloc _) (by simp) K.z K.ty
  have hR := hb.below hB
  generalize w3 K F fty w = W at *
  have h := read_any F1 #[.pointer (some ⟨w.heap.size, 0, none⟩), .pointer (some ⟨w.heap.size + 2, 0, none⟩)] vb l
    (fun l2 w2 => ∃ w1, Below (w.heap.size + 3) W w1 ∧ w1.heap.size = w.heap.size + 7 ∧ RA K spec w.heap.size l w1 l2 w2) (fun w2 => ∃ w1, Below (w.heap.size + 3) W w1 ∧ w1.heap.size = w.heap.size + 7 ∧ RB spec w.heap.size l w1 w2) W hR hen
  rw [hz] at h
  refine (h ?_).mono ?_
  · intro w1 h2 h3 h4
    refine (h1 w.heap.size vb l w1 ⟨h4, b0.below h3 (by omega), b2.below h3 (by omega), by omega, hvb⟩).mono ?_
    intro e w2 hD
    exact doesMono hD (fun l2 hA => ⟨w1, h3, by omega, hA⟩) (fun hB => ⟨w1, h3, by omega, hB⟩)
  · rintro e w' ⟨w2, hP, hway⟩
    have hbl : ∀ w1, Below (w.heap.size + 3) W w1 → w1.heap.size = w.heap.size + 7 → Fr3 w.heap.size w1 w2 → Below w.heap.size w w' ∧ w.heap.size + 7 ≤ w'.heap.size ∧ Blk w' (w.heap.size + 1) K.z K.ty := by
      intro w1 h1 h2 hf
      refine ⟨⟨hP.os.trans (hf.os.trans (h1.os.trans hB.os)), hP.tape.trans (hf.tape.trans (h1.tape.trans hB.tape)), hP.output.trans (hf.output.trans (h1.output.trans hB.output)), ?_, ?_⟩, ?_, ?_⟩
      · have := hf.size; rw [hP.size]; omega
      · intro k hk
        rw [hP.block k (Or.inl (by omega)), hf.block k (by omega) (by omega) (by omega), h1.block k (by omega), hB.block k hk]
      · have := hf.size; rw [hP.size]; omega
      · have hb1 := b1.below h1 (by omega)
        unfold Blk at hb1 ⊢
        rw [hP.block _ (Or.inl (by omega)), hf.block _ (by omega) (by omega) (by omega)]
        exact hb1
    rcases hway with ⟨l2, ⟨w1, h1, h2, a, cs, hs, c2, hG, hf⟩, rfl⟩ | ⟨⟨w1, h1, h2, hs, hf⟩, rfl⟩
    · obtain ⟨k1, k2, k3⟩ := hbl w1 h1 h2 hf
      refine ⟨_, rfl, k1, k2, k3, ?_⟩
      cases l2 with
      | nil => exact Or.inl ⟨if_pos rfl, a, cs, by rw [hs]; rfl, c2.past4 hP (by omega), hK.same hG fun k h3 _ => hP.block k (Or.inr (by omega))⟩
      | cons x y => exact Or.inr ⟨if_neg (by simp), by rw [hs]; rfl⟩
    · obtain ⟨k1, k2, k3⟩ := hbl w1 h1 h2 hf
      exact ⟨_, rfl, k1, k2, k3, Or.inr ⟨rfl, by rw [hs]; rfl⟩⟩
theorem results_row_tmp5 {fn : Func} {p u : Tmp} {ty : TypeId} (h : fn.results = #[.cell p ty, .tmp u]) (tmps : Array Value) (P : Program) (w : World) (g : Nat) (t : TypeId) (cs : List Value) (d : TypeDesc) (x : Value)
    (hp : tmps.getD p undef = .pointer (some ⟨g, 0, none⟩)) (hx : tmps.getD u undef = x) (hg : Blk w g cs t) (hu : P.underlying ty = some d) (hd : d.isRow = true) (hi : (P.info? ty).map (·.size) = some cs.length) :
    (results fn tmps).run P w = .ok (.tuple #[.agg cs.toArray, x]) w := by
  rw [results_cell_tmp h, hp, hx]
  simp only [asAddr, Sem.run_pure, Result.andThen_ok, run_loadVar_mid w g 0 ty cs d hg.range hu hd hi]
end Go.Proofs.YtableajopaappaaDoor
/- The four kinds of things; the walks of record's read, and of ReadBinding, ReadRequest, ReadSigned and ReadProof by what reads one. -/
namespace Go.Proofs.YtableajopaappaaDoor
open Go.RowKit
set_option maxRecDepth 100000
def sgnV (ep : Nat) (x y z : List (BitVec 8)) (vs : Value) : List Value := .int .u64 (ep : Int) :: (cb x ++ (cb y ++ (cb z ++ [vs])))
theorem OwnB.one {w : World} {base : Nat} {v : Value} {l : List (BitVec 8)} (h : OwnB w base v l) : v.oneCell' = true := by
  obtain ⟨ad, c, rfl, _⟩ := h.reads
  rfl
theorem OwnB.keep {w w' : World} {base : Nat} {v : Value} {l : List (BitVec 8)} (h : OwnB w base v l) (hs : ∀ k, base ≤ k → k < w.heap.size → w'.heap[k]? = w.heap[k]?) : OwnB w' base v l := h.same fun k hk => hs k (h.own k hk) (h.lt k hk)
def sgnK : Kd (Nat × List (BitVec 8) × List (BitVec 8) × List (BitVec 8) × List (BitVec 8)) := { ty := 30, z := sgnV 0 zb32 zb32 zb32 nilV, G := fun w b a cs => ∃ vs, cs = sgnV a.1 a.2.1 a.2.2.1 a.2.2.2.1 vs ∧ OwnB w b vs a.2.2.2.2 ∧ a.2.1.length = 32 ∧ a.2.2.1.length = 32 ∧ a.2.2.2.1.length = 32 ∧ a.1 < 18446744073709551616 }
theorem cb_one' {l : List (BitVec 8)} {v : Value} (h : v ∈ cb l) : v.oneCell' = true := cb_one l v h
theorem sgnK_ok : KdOk sgnK where
  info := by kernel_rfl
  len := by rintro w b a cs ⟨vk, rfl, _, h1, h2, h3, _⟩; simp only [sgnV, sgnK, List.length_cons, List.length_append, List.length_nil, cb_len, h1, h2, h3, len_zb32]
  one := by
    rintro w b a cs ⟨vk, rfl, ho, _⟩ v hv
    simp only [sgnV, List.mem_cons, List.mem_append, List.not_mem_nil, or_false] at hv
    rcases hv with rfl | hv | hv | hv | rfl
    · rfl
    · exact cb_one' hv
    · exact cb_one' hv
    · exact cb_one' hv
    · exact ho.one
  same := by rintro w w' b a cs ⟨vk, rfl, ho, h⟩ hs; exact ⟨vk, rfl, ho.keep hs, h⟩
  mono := by rintro w b b' a cs ⟨vk, rfl, ho, h⟩ hb; exact ⟨vk, rfl, ho.mono hb, h⟩
  zone := by
    intro v hv
    simp only [sgnK, sgnV, List.mem_cons, List.mem_append, List.not_mem_nil, or_false] at hv
    rcases hv with rfl | hv | hv | hv | rfl
    · rfl
    · exact cb_one' hv
    · exact cb_one' hv
    · exact cb_one' hv
    · rfl
theorem allocSigned (f : Operand → Value) (o : Oper) (ho : o.op = .alloc 30) (w : World) : (execOp f o).run Tryd.prog w = .ok (.value (.pointer (some ⟨w.heap.size, 0, none⟩))) (w.alloc (.cells sgnK.z.toArray 30)) := by
  unfold execOp
  rw [ho]
  kernel_rfl
theorem enter_ofSigned1 : ∀ xs w, (callFunc 84 xs).run Tryd.prog w = .ok (.enter 84 xs) w := fun _ _ => by kernel_rfl
set_option maxRecDepth 100000 in
set_option maxHeartbeats 1000000 in
theorem ofSigned1_any {spec} (hOne : OneDoes sgnK 59 spec) (hnil : spec [] = none) (g : Nat) (vb : Value) (l : List (BitVec 8)) (w1 : World) (h : At1 sgnK 59 92 g vb l w1) :
    Calls Tryd.prog 84 #[.pointer (some ⟨g + 6, 0, none⟩), .pointer (some ⟨g, 0, none⟩), .pointer (some ⟨g + 2, 0, none⟩)] w1 (Does (g + 3) (RA sgnK spec g l w1) (RB spec g l w1) w1) := by
  have HA : Hid (At1 sgnK 59 92 g vb l w1) := h
  have HN : Hid (spec [] = none) := hnil
  have HO : Hid (OneDoes sgnK 59 spec) := hOne
  have c0 : w1.cell? ⟨g, 0, none⟩ = some (.func (.func 59) #[] #[]) := h.fn.cell 0
  clear h hnil hOne
  go_enter Tryd.func84, Tryd.ntmps84
  go_wp2_with fail
  refine Calls.mono (HO.out (g + 6) (g + 4) vb l w1 HA.out.rd) ?_
  rintro e w2 (⟨a, r, va, v2, hs, rfl, ⟨cs, rfl, hG⟩, hrd, ho, hob⟩ | ⟨hs, hT⟩)
  case inr =>
    have HD : Hid (Does (g + 3) (RA sgnK spec g l w1) (RB spec g l w1) w1 (thrown (g + 4)) w2) := HA.out.threw hT hs
    obtain rfl := hT.eq
    unfold thrown at HD ⊢
    clear hT HA hs
    go_wp2
    exact ⟨rfl, HD.out⟩
  have HD : Hid (Does (g + 3) (RA sgnK spec g l w1) (RB spec g l w1) w1 (.returned (.tuple #[])) (w2.setCells (g + 2) 0 cs)) := HA.out.done sgnK_ok HN.out hs hG hrd ho hob
  have HT : Hid (w2.there (g + 2) 0 cs.toArray.size) := HA.out.there sgnK_ok ho hG
  have HI : Hid ((Tryd.prog.info? 30).map (·.size) = some cs.toArray.size) := sgnK_ok.size hG
  have H1 : Hid (cs.toArray.all (·.oneCell') = true) := all_oneCell_toArray (sgnK_ok.one hG)
  clear hs hG hrd ho hob HA c0
  go_wp2_with (refine wpList_store_mid rfl 30 _ _ rfl (g + 2) 0 cs.toArray rfl rfl HT.out HI.out H1.out ?_)
  go_end0
  exact HD.out
set_option maxRecDepth 100000 in
set_option maxHeartbeats 1000000 in
theorem ofSigned_any {spec} (hOne : OneDoes sgnK 59 spec) (hnil : spec [] = none) (vb : Value) (l : List (BitVec 8)) (w : World) (hb : Reads w vb l) :
    Calls Tryd.prog 58 #[vb, .func (.func 59) #[] #[]] w (RdRes sgnK w (whole (spec l))) := by
  have hmf : ∀ (fn : Fn) (first cap : Array Value) (w : World), (Instr.makeFunc fn first cap).run Tryd.prog w = .ok (.func fn first cap) w := fun _ _ _ _ => rfl
  obtain ⟨g, HG⟩ : ∃ g, Hid (w.heap.size = g) := ⟨_, rfl⟩
  have HRd : Hid (Calls Tryd.prog 79 #[vb, .func (.func 84) #[] #[.pointer (some ⟨g, 0, none⟩), .pointer (some ⟨g + 2, 0, none⟩)]] (w3 sgnK 59 92 w) fun e w' => ∃ en, e = .returned (.int .i64 en) ∧ RdoT sgnK spec g l w w' en) :=
    rd_of sgnK_ok 59 84 92 spec enter_ofSigned1 (fun g vb l w1 h => ofSigned1_any hOne hnil g vb l w1 h) g vb l w HG.out hb
  clear hb hOne hnil
  go_enter Tryd.func58, Tryd.ntmps58
  go_wp2_with fail
  generalize hoz : Obj.cells _ 30 = oz
  have hz : oz = Obj.cells sgnK.z.toArray 30 := hoz.symm
  clear hoz
  subst hz
  have e0 : (some ⟨w.heap.size, 0, none⟩ : Option Addr) = some ⟨g, 0, none⟩ := by rw [HG.out]
  have e1 : (some ⟨w.heap.size + 1, 0, none⟩ : Option Addr) = some ⟨g + 1, 0, none⟩ := by rw [HG.out]
  have e2 : (some ⟨w.heap.size + 1 + 1, 0, none⟩ : Option Addr) = some ⟨g + 2, 0, none⟩ := by rw [HG.out]
  simp only [e0, e1, e2]
  clear e0 e1 e2
  refine Calls.mono HRd.out ?_
  rintro e w5 ⟨en, rfl, hO⟩
  have HO : Hid (RdoT sgnK spec g l w w5 en) := hO
  clear hO HRd
  rcases HO.out.out with ⟨rfl, a, cs, hw, b2, hG⟩ | ⟨rfl, hw⟩
  · have HW : Hid (whole (spec l) = some a) := hw
    have HGG : Hid (sgnK.G w5 (g + 7) a cs) := hG
    have HR : Hid (Blk w5 (g + 1) sgnK.z 30) := HO.out.res
    have HB2 : Hid (Blk w5 (g + 2) cs 30) := b2
    have HI : Hid ((Tryd.prog.info? 30).map (·.size) = some cs.length) := by have := sgnK_ok.size hG; rw [List.size_toArray] at this; exact this
    have H1 : Hid (cs.toArray.all (·.oneCell') = true) := all_oneCell_toArray (sgnK_ok.one hG)
    have HLN : Hid (cs.length = sgnK.z.length) := sgnK_ok.len hG
    clear hw hG b2
    go_wp2_with (first
      | (refine wpSeq_val (.agg cs.toArray) _ (by rfl) (load_run 30 _ rfl (g + 2) 0 rfl cs _ HB2.out.range Tryd.underlying30 rfl HI.out) ?_)
      | (refine wpList_store_mid rfl 30 _ _ rfl (g + 1) 0 cs.toArray rfl rfl (HR.out.there 0 _ (by rw [List.size_toArray, HLN.out]; omega)) (by rw [List.size_toArray]; exact HI.out) H1.out ?_))
    have hB6 := HR.out.whole cs HLN.out
    have ha : At (g + 1) w5 (w5.setCells (g + 1) 0 cs) := At.setCells _ _ _ (At.refl _ _)
    refine bodyPost_ret (v := .tuple #[.agg cs.toArray, .int .i64 0]) (results_row_tmp5 (by rfl) _ _ _ (g + 1) 30 cs _ (.int .i64 0) rfl rfl hB6 Tryd.underlying30 rfl HI.out) rfl ⟨?_, Or.inl ⟨a, cs, HW.out, rfl, ?_⟩⟩
    · rw [HG.out]
      exact Below.setCells _ (by omega) _ _ _ HO.out.bel
    · rw [HG.out]
      exact sgnK_ok.mono (sgnK_ok.same HGG.out fun k h1 _ => ha.block k (by omega)) (by omega)
  · have HW : Hid (whole (spec l) = none) := hw
    have HR : Hid (Blk w5 (g + 1) sgnK.z 30) := HO.out.res
    have HI : Hid ((Tryd.prog.info? 30).map (·.size) = some sgnK.z.length) := sgnK_ok.info
    have H1 : Hid (sgnK.z.toArray.all (·.oneCell') = true) := all_oneCell_toArray sgnK_ok.zone
    have HRA : Hid (Blk (w5.alloc (.cells sgnK.z.toArray 30)) (g + 1) sgnK.z 30) := HR.out.alloc _
    have HNA : Hid (Blk (w5.alloc (.cells sgnK.z.toArray 30)) w5.heap.size sgnK.z 30) := Blk.new _ _ _
    clear hw HR
    go_wp2_with (first
      | (refine wpSeq_val (.pointer (some ⟨w5.heap.size, 0, none⟩)) (w5.alloc (.cells sgnK.z.toArray 30)) (by rfl) (allocSigned _ _ rfl _) ?_)
      | (refine wpSeq_val (.agg sgnK.z.toArray) _ (by rfl) (load_run 30 _ rfl w5.heap.size 0 rfl sgnK.z _ HNA.out.range Tryd.underlying30 rfl HI.out) ?_)
      | (refine wpList_store_mid rfl 30 _ _ rfl (g + 1) 0 sgnK.z.toArray rfl rfl (HRA.out.there 0 _ (by rw [List.size_toArray]; omega)) (by rw [List.size_toArray]; exact HI.out) H1.out ?_))
    have hB6 := HRA.out.whole sgnK.z rfl
    refine bodyPost_ret (v := .tuple #[.agg sgnK.z.toArray, .int .i64 3]) (results_row_tmp5 (by rfl) _ _ _ (g + 1) 30 sgnK.z _ (.int .i64 3) rfl rfl hB6 Tryd.underlying30 rfl HI.out) rfl ⟨?_, Or.inr ⟨HW.out, rfl⟩⟩
    rw [HG.out]
    exact Below.setCells _ (by omega) _ _ _ (HO.out.bel.alloc (by have := HO.out.sz; omega) _)
set_option maxRecDepth 100000 in
set_option maxHeartbeats 1000000 in
theorem rdSigned_any {spec} (hOne : OneDoes sgnK 59 spec) (hnil : spec [] = none) (vb : Value) (l : List (BitVec 8)) (w : World) (hb : Reads w vb l) :
    Calls Tryd.prog 33 #[vb] w (RdRes sgnK w (whole (spec l))) := by
  have HO : Hid (OneDoes sgnK 59 spec) := hOne
  have HN : Hid (spec [] = none) := hnil
  have HB : Hid (Reads w vb l) := hb
  clear hOne hnil hb
  go_enter Tryd.func33, Tryd.ntmps33
  go_wp2_with fail
  generalize hoz : Obj.cells _ 30 = oz
  have hz : oz = Obj.cells sgnK.z.toArray 30 := hoz.symm
  clear hoz
  subst hz
  have HB0 : Hid (Below w.heap.size w (w.alloc (.cells sgnK.z.toArray 30))) := below_alloc _ _
  have HZ0 : Hid (Blk (w.alloc (.cells sgnK.z.toArray 30)) w.heap.size sgnK.z 30) := Blk.new _ _ _
  have HR0 : Hid (Reads (w.alloc (.cells sgnK.z.toArray 30)) vb l) := HB.out.below HB0.out
  generalize w.alloc (.cells sgnK.z.toArray 30) = w0 at *
  refine Calls.mono (ofSigned_any HO.out HN.out vb l w0 HR0.out) ?_
  rintro e w1 ⟨hb1, h⟩
  have HB1 : Hid (Below w.heap.size w w1) := HB0.out.trans (hb1.mono HB0.out.size)
  have HZ1 : Hid (Blk w1 w.heap.size sgnK.z 30) := HZ0.out.below hb1 HZ0.out.lt
  have HLT : Hid (w.heap.size < w0.heap.size) := HZ0.out.lt
  clear hb1 HB0 HZ0 HR0 HB HO HN
  rcases h with ⟨a, cs, hw, rfl, hG⟩ | ⟨hw, rfl⟩
  · have HW : Hid (whole (spec l) = some a) := hw
    have HGG : Hid (sgnK.G w1 w0.heap.size a cs) := hG
    have HI : Hid ((Tryd.prog.info? 30).map (·.size) = some cs.length) := by have := sgnK_ok.size hG; rw [List.size_toArray] at this; exact this
    have H1 : Hid (cs.toArray.all (·.oneCell') = true) := all_oneCell_toArray (sgnK_ok.one hG)
    have HLN : Hid (cs.length = sgnK.z.length) := sgnK_ok.len hG
    clear hw hG
    go_wp2_with (refine wpList_store_mid rfl 30 _ _ rfl w.heap.size 0 cs.toArray rfl rfl (HZ1.out.there 0 _ (by rw [List.size_toArray, HLN.out]; omega)) (by rw [List.size_toArray]; exact HI.out) H1.out ?_)
    have hB6 := HZ1.out.whole cs HLN.out
    have ha : At w.heap.size w1 (w1.setCells w.heap.size 0 cs) := At.setCells _ _ _ (At.refl _ _)
    refine bodyPost_ret (v := .tuple #[.agg cs.toArray, .int .i64 0]) (results_row_tmp5 (by rfl) _ _ _ w.heap.size 30 cs _ (.int .i64 0) rfl rfl hB6 Tryd.underlying30 rfl HI.out) rfl ⟨Below.setCells _ (Nat.le_refl _) _ _ _ HB1.out, Or.inl ⟨a, cs, HW.out, rfl, ?_⟩⟩
    have hlt := HLT.out
    exact sgnK_ok.mono (sgnK_ok.same HGG.out fun k h1 _ => ha.block k (by omega)) (by omega)
  · have HW : Hid (whole (spec l) = none) := hw
    have HI : Hid ((Tryd.prog.info? 30).map (·.size) = some sgnK.z.length) := sgnK_ok.info
    have H1 : Hid (sgnK.z.toArray.all (·.oneCell') = true) := all_oneCell_toArray sgnK_ok.zone
    clear hw
    go_wp2_with (refine wpList_store_mid rfl 30 _ _ rfl w.heap.size 0 sgnK.z.toArray rfl rfl (HZ1.out.there 0 _ (by rw [List.size_toArray]; omega)) (by rw [List.size_toArray]; exact HI.out) H1.out ?_)
    have hB6 := HZ1.out.whole sgnK.z rfl
    exact bodyPost_ret (v := .tuple #[.agg sgnK.z.toArray, .int .i64 3]) (results_row_tmp5 (by rfl) _ _ _ w.heap.size 30 sgnK.z _ (.int .i64 3) rfl rfl hB6 Tryd.underlying30 rfl HI.out) rfl ⟨Below.setCells _ (Nat.le_refl _) _ _ _ HB1.out, Or.inr ⟨HW.out, rfl⟩⟩
end Go.Proofs.YtableajopaappaaDoor
/- The walks of record's readNameAndKey and readBinding. -/
namespace Go.Proofs.YtableajopaappaaDoor
open Go.RowKit
set_option maxRecDepth 100000
/-- where a reading stands -/
structure Nk (w : World) (gr gi : Nat) (v vc : Value) (lc : List (BitVec 8)) (t : TypeId) (z : List Value) (wc : World) : Prop where
  rd : Rd wc gr gi vc lc
  onl : Only gi w wc
  ob : vc.ownBlock = v.ownBlock
  res : Blk wc w.heap.size z t
  gr : gr < w.heap.size
  gi : gi < w.heap.size
theorem Nk.call {w wc w' : World} {gr gi : Nat} {v vc v2 : Value} {lc r : List (BitVec 8)} {t : TypeId} {z : List Value} (h : Nk w gr gi v vc lc t z wc) (hrd : Rd w' gr gi v2 r) (ho : Only gi wc w') (hob : v2.ownBlock = vc.ownBlock) : Nk w gr gi v v2 r t z w' :=
  ⟨hrd, h.onl.trans ho, hob.trans h.ob, h.res.only ho (by have := h.gi; omega), h.gr, h.gi⟩
theorem Nk.below {w wc w' : World} {gr gi : Nat} {v vc : Value} {lc : List (BitVec 8)} {t : TypeId} {z : List Value} (h : Nk w gr gi v vc lc t z wc) (hb : Below wc.heap.size wc w') : Nk w gr gi v vc lc t z w' :=
  ⟨h.rd.below hb, h.onl.trans (Only.of_below hb), h.ob, h.res.below hb h.res.lt, h.gr, h.gi⟩
theorem Nk.rdAt {w wc w' : World} {gr gi g : Nat} {v vc : Value} {lc : List (BitVec 8)} {t : TypeId} {z : List Value} (h : Nk w gr gi v vc lc t z wc) (ha : At g wc w') (hg : w.heap.size ≤ g) (hv : ∀ j, v.ownBlock = some j → j < w.heap.size) : Rd w' gr gi vc lc :=
  ⟨h.rd.rd.at ha (by have := h.gr; omega), h.rd.inp.at ha (by have := h.gi; omega), h.rd.byt.at ha (fun _ j hj => by have := hv j (h.ob ▸ hj); omega)⟩
theorem Nk.onlAt {w wc w' : World} {gr gi g : Nat} {v vc : Value} {lc : List (BitVec 8)} {t : TypeId} {z : List Value} (h : Nk w gr gi v vc lc t z wc) (ha : At g wc w') (hg : w.heap.size ≤ g) : Only gi w w' :=
  ⟨ha.os.trans h.onl.os, ha.tape.trans h.onl.tape, ha.output.trans h.onl.output, by rw [ha.size]; exact h.onl.size, fun k h1 h2 => (ha.block k (by omega)).trans (h.onl.block k h1 h2)⟩
theorem Nk.at {w wc w' : World} {gr gi g : Nat} {v vc : Value} {lc : List (BitVec 8)} {t : TypeId} {z : List Value} (h : Nk w gr gi v vc lc t z wc) (ha : At g wc w') (hg : w.heap.size < g) (hv : ∀ j, v.ownBlock = some j → j < w.heap.size) : Nk w gr gi v vc lc t z w' :=
  ⟨h.rdAt ha (by omega) hv, h.onlAt ha (by omega), h.ob, h.res.at ha (by omega), h.gr, h.gi⟩
end Go.Proofs.YtableajopaappaaDoor
/- The walks of record's readBinding, readRequest and readSigned. -/
namespace Go.Proofs.YtableajopaappaaDoor
open Go.RowKit
set_option maxRecDepth 100000
theorem num_lt {l r : List (BitVec 8)} {n : Nat} (h : readNum l = some (n, r)) : n < 18446744073709551616 := ((readNum_iff _ _ _).1 h).1
theorem cell_len {a : List Value} {n : Nat} {v : Value} {b : List Value} (h : a.length = n) : (a ++ (v :: b))[n]? = some v := by subst h; simp
theorem Blk.mid {w : World} {g off : Nat} {A B B2 C : List Value} {t : TypeId} (h : Blk w g (A ++ (B ++ C)) t) (hl : B2.length = B.length) (ho : A.length = off) : Blk (w.setCells g off B2) g (A ++ (B2 ++ C)) t := by
  subst ho
  have h2 := setCells_eq g B2 A.length w _ t h (by simp only [List.length_append]; omega)
  have e : (A ++ (B ++ C)).take A.length ++ B2 ++ (A ++ (B ++ C)).drop (A.length + B2.length) = A ++ (B2 ++ C) := by
    rw [List.take_left, ← List.drop_drop, List.drop_left, hl, List.drop_left, List.append_assoc]
  rwa [e] at h2
theorem sgnV_x {ep : Nat} {x y z x2 : List (BitVec 8)} {vs : Value} {w : World} {g : Nat} {t : TypeId} (h : Blk w g (sgnV ep x y z vs) t) (hx : x.length = 32) (h2 : x2.length = 32) : Blk (w.setCells g 1 (cb x2)) g (sgnV ep x2 y z vs) t :=
  Blk.mid (A := [.int .u64 (ep : Int)]) (B := cb x) (C := cb y ++ (cb z ++ [vs])) h (by rw [cb_len, cb_len, hx, h2]) rfl
theorem sgnV_y {ep : Nat} {x y z y2 : List (BitVec 8)} {vs : Value} {w : World} {g : Nat} {t : TypeId} (h : Blk w g (sgnV ep x y z vs) t) (hx : x.length = 32) (hy : y.length = 32) (h2 : y2.length = 32) : Blk (w.setCells g 33 (cb y2)) g (sgnV ep x y2 z vs) t := by
  have e : ∀ u, sgnV ep x u z vs = (.int .u64 (ep : Int) :: cb x) ++ (cb u ++ (cb z ++ [vs])) := fun u => by simp only [sgnV, List.cons_append]
  rw [e] at h ⊢
  exact h.mid (by rw [cb_len, cb_len, hy, h2]) (by rw [List.length_cons, cb_len, hx])
theorem sgnV_z {ep : Nat} {x y z z2 : List (BitVec 8)} {vs : Value} {w : World} {g : Nat} {t : TypeId} (h : Blk w g (sgnV ep x y z vs) t) (hx : x.length = 32) (hy : y.length = 32) (hz : z.length = 32) (h2 : z2.length = 32) : Blk (w.setCells g 65 (cb z2)) g (sgnV ep x y z2 vs) t := by
  have e : ∀ u, sgnV ep x y u vs = (.int .u64 (ep : Int) :: (cb x ++ cb y)) ++ (cb u ++ [vs]) := fun u => by simp only [sgnV, List.cons_append, List.append_assoc]
  rw [e] at h ⊢
  exact h.mid (by rw [cb_len, cb_len, hz, h2]) (by rw [List.length_cons, List.length_append, cb_len, cb_len, hx, hy])
theorem sgnV_split (ep : Nat) (x y z : List (BitVec 8)) (vs : Value) : sgnV ep x y z vs = (.int .u64 (ep : Int) :: (cb x ++ (cb y ++ cb z))) ++ [vs] := by simp only [sgnV, List.cons_append, List.append_assoc]
theorem sgnV_len {ep : Nat} {x y z : List (BitVec 8)} (hx : x.length = 32) (hy : y.length = 32) (hz : z.length = 32) : (Value.int .u64 (ep : Int) :: (cb x ++ (cb y ++ cb z))).length = 97 := by simp only [List.length_cons, List.length_append, cb_len, hx, hy, hz]
theorem sgnV_sig {ep : Nat} {x y z : List (BitVec 8)} {vs v2 : Value} {w : World} {g : Nat} {t : TypeId} (h : Blk w g (sgnV ep x y z vs) t) (hx : x.length = 32) (hy : y.length = 32) (hz : z.length = 32) : Blk (w.setCell ⟨g, 97, none⟩ v2) g (sgnV ep x y z v2) t := by
  rw [sgnV_split] at h ⊢
  have h2 := h.set 97 v2
  rwa [List.set_append_right _ _ (by rw [sgnV_len hx hy hz]; omega), sgnV_len hx hy hz] at h2
theorem sgnV_last {ep : Nat} {x y z : List (BitVec 8)} {vs : Value} {w : World} {g : Nat} {t : TypeId} (h : Blk w g (sgnV ep x y z vs) t) (hx : x.length = 32) (hy : y.length = 32) (hz : z.length = 32) : w.cell? ⟨g, 97, none⟩ = some vs := by
  rw [h.cell, sgnV_split]
  exact cell_len (sgnV_len hx hy hz)
theorem sgnV_total {ep : Nat} {x y z : List (BitVec 8)} {vs : Value} (hx : x.length = 32) (hy : y.length = 32) (hz : z.length = 32) : (sgnV ep x y z vs).length = 98 := by rw [sgnV_split, List.length_append, sgnV_len hx hy hz]; rfl
theorem nil_of {α : Type} {f : List (BitVec 8) → Option (α × List (BitVec 8))} (h : f [] = none) {l r : List (BitVec 8)} {a : α} (hl : f l = some (a, r)) : 0 < l.length := by
  cases l with
  | nil => rw [h] at hl; cases hl
  | cons x y => simp
theorem cut32_len {l a r : List (BitVec 8)} (h : cut 32 l = some (a, r)) : a.length = 32 := ((codes_cut 32 _ _ _).1 h).1
theorem len0 : zb32.length = 32 := len_zb32
set_option maxRecDepth 100000 in
set_option maxHeartbeats 2000000 in
theorem readSigned_one : OneDoes sgnK 59 signedR := by
  intro gr gi v l w h
  have HVB : Hid (0 < l.length → ∀ k, v.ownBlock = some k → k < w.heap.size) := h.byt.inB
  have HGI : Hid (gi < w.heap.size) := h.inp.lt
  have HNK : Hid (Nk w gr gi v v l 30 sgnK.z (w.alloc (.cells sgnK.z.toArray 30))) := ⟨h.below (below_alloc _ _), Only.of_below (below_alloc _ _), rfl, Blk.new _ _ _, h.rd.lt, h.inp.lt⟩
  clear h
  go_enter Tryd.func59, Tryd.ntmps59
  go_wp2_with fail
  have HNK0 : Hid (Nk w gr gi v v l 30 sgnK.z ((w.alloc (.cells sgnK.z.toArray 30)).alloc (.cells sgnK.z.toArray 30))) := HNK.out.below (below_alloc _ _)
  have HGA : Hid (Blk ((w.alloc (.cells sgnK.z.toArray 30)).alloc (.cells sgnK.z.toArray 30)) (w.heap.size + 1) (sgnV 0 zb32 zb32 zb32 nilV) 30) := Blk.new_at (by simp) _ _
  have HSZ : Hid (w.heap.size + 2 ≤ ((w.alloc (.cells sgnK.z.toArray 30)).alloc (.cells sgnK.z.toArray 30)).heap.size) := by show _ ≤ _; simp
  clear HNK
  have HNK := HNK0
  clear HNK0
  change Calls _ _ _ ((w.alloc (.cells sgnK.z.toArray 30)).alloc (.cells sgnK.z.toArray 30)) _
  generalize (w.alloc (.cells sgnK.z.toArray 30)).alloc (.cells sgnK.z.toArray 30) = w0 at *
  obtain ⟨ga, HGE⟩ : ∃ x, Hid (x = w.heap.size + 1) := ⟨_, rfl⟩
  have HGL : Hid (w.heap.size < ga) := by show _ < _; rw [HGE.out]; omega
  rw [← HGE.out] at HGA ⊢
  refine (crnum_any gr gi v l w0 HNK.out.rd).mono ?_
  rintro e w1 (⟨ep, r1, va1, v1, hc, rfl, rfl, hrd, ho, hob⟩ | ⟨hc, hT⟩)
  case inr =>
    have HD : Hid (RdDoes gr gi v w (signedR l) (fun a w' v => ∃ cs : List Value, v = .agg cs.toArray ∧ sgnK.G w' w.heap.size a cs) (thrown gi) w1) := Or.inr ⟨thenR_none hc, Threw.after HNK.out.onl (hT.eq ▸ hT)⟩
    obtain rfl := hT.eq
    unfold thrown at HD ⊢
    clear hT
    go_wp2
    exact ⟨rfl, HD.out⟩
  have HS1 : Hid (readNum l = some (ep, r1)) := hc
  have HVV : Hid (∀ k, v.ownBlock = some k → k < w.heap.size) := HVB.out (nil_of rfl hc)
  have HEP : Hid (ep < 18446744073709551616) := num_lt hc
  have hGA := HGA.out.only ho (by have := HGL.out; have := HGI.out; omega)
  have hat : At ga w1 (w1.setCell ⟨ga, 0, none⟩ (.int .u64 (ep : Int))) := (At.refl _ _).setCell _ _
  have HGB : Hid (Blk (w1.setCell ⟨ga, 0, none⟩ (.int .u64 (ep : Int))) ga (sgnV ep zb32 zb32 zb32 nilV) 30) := hGA.set 0 _
  have HNK2 : Hid _ := (HNK.out.call hrd ho hob).at hat HGL.out HVV.out
  have HSZ2 : Hid (w.heap.size + 2 ≤ (w1.setCell ⟨ga, 0, none⟩ (.int .u64 (ep : Int))).heap.size) := by show _ ≤ _; rw [hat.size]; exact Nat.le_trans HSZ.out ho.size
  have c0 : w1.cell? ⟨ga, 0, none⟩ = some (.int .u64 0) := hGA.cell 0
  have f0 : w1.frozen? ⟨ga, 0, none⟩ = false := hGA.frozen 0
  clear HNK HGA HSZ hrd ho hob hc hGA hat
  have HNK := HNK2
  have HGA := HGB
  have HSZ := HSZ2
  clear HNK2 HGB HSZ2
  go_wp2_with fail
  clear c0 f0
  generalize w1.setCell ⟨ga, 0, none⟩ (.int .u64 (ep : Int)) = w2 at *
  refine (crdigest_any gr gi v1 r1 w2 HNK.out.rd).mono ?_
  rintro e w3 (⟨x, r2, va2, v2, hc, rfl, rfl, hrd, ho, hob⟩ | ⟨hc, hT⟩)
  case inr =>
    have HD : Hid (RdDoes gr gi v w (signedR l) (fun a w' v => ∃ cs : List Value, v = .agg cs.toArray ∧ sgnK.G w' w.heap.size a cs) (thrown gi) w3) := Or.inr ⟨thenR_no HS1.out (thenR_none hc), Threw.after HNK.out.onl (hT.eq ▸ hT)⟩
    obtain rfl := hT.eq
    unfold thrown at HD ⊢
    clear hT
    go_wp2
    exact ⟨rfl, HD.out⟩
  have HS2 : Hid (cut 32 r1 = some (x, r2)) := hc
  have HDL : Hid (x.length = 32) := cut32_len hc
  have hGA := HGA.out.only ho (by have := HGL.out; have := HGI.out; omega)
  have hat : At ga w3 (w3.setCells ga 1 (cb x)) := At.setCells _ _ _ (At.refl _ _)
  have HGB : Hid (Blk (w3.setCells ga 1 (cb x)) ga (sgnV ep x zb32 zb32 nilV) 30) := sgnV_x hGA len0 HDL.out
  have HNK2 : Hid _ := (HNK.out.call hrd ho hob).at hat HGL.out HVV.out
  have HSZ2 : Hid (w.heap.size + 2 ≤ (w3.setCells ga 1 (cb x)).heap.size) := by show _ ≤ _; rw [hat.size]; exact Nat.le_trans HSZ.out ho.size
  have HT : Hid (w3.there ga 1 (cb x).toArray.size) := hGA.there 1 _ (by rw [List.size_toArray, cb_len, HDL.out, sgnV_total len0 len0 len0]; omega)
  have HIZ : Hid ((Tryd.prog.info? 23).map (·.size) = some (cb x).toArray.size) := by show _ = _; rw [List.size_toArray, cb_len, HDL.out]; exact Tryd.infodig
  clear HNK HGA HSZ hrd ho hob hc hGA hat
  have HNK := HNK2
  have HGA := HGB
  have HSZ := HSZ2
  clear HNK2 HGB HSZ2
  go_wp2_with (refine wpList_store_mid rfl 23 _ _ rfl ga 1 (cb x).toArray rfl rfl HT.out HIZ.out (all_oneCell_toArray (cb_one x)) ?_)
  have HX := HDL
  clear HT HIZ HDL
  change Calls _ _ _ (w3.setCells ga 1 (cb x)) _
  generalize w3.setCells ga 1 (cb x) = w4 at *
  refine (crdigest_any gr gi v2 r2 w4 HNK.out.rd).mono ?_
  rintro e w5 (⟨y, r3, va3, v3, hc, rfl, rfl, hrd, ho, hob⟩ | ⟨hc, hT⟩)
  case inr =>
    have HD : Hid (RdDoes gr gi v w (signedR l) (fun a w' v => ∃ cs : List Value, v = .agg cs.toArray ∧ sgnK.G w' w.heap.size a cs) (thrown gi) w5) := Or.inr ⟨thenR_no HS1.out (thenR_no HS2.out (thenR_none hc)), Threw.after HNK.out.onl (hT.eq ▸ hT)⟩
    obtain rfl := hT.eq
    unfold thrown at HD ⊢
    clear hT
    go_wp2
    exact ⟨rfl, HD.out⟩
  have HS3 : Hid (cut 32 r2 = some (y, r3)) := hc
  have HDL : Hid (y.length = 32) := cut32_len hc
  have hGA := HGA.out.only ho (by have := HGL.out; have := HGI.out; omega)
  have hat : At ga w5 (w5.setCells ga 33 (cb y)) := At.setCells _ _ _ (At.refl _ _)
  have HGB : Hid (Blk (w5.setCells ga 33 (cb y)) ga (sgnV ep x y zb32 nilV) 30) := sgnV_y hGA HX.out len0 HDL.out
  have HNK2 : Hid _ := (HNK.out.call hrd ho hob).at hat HGL.out HVV.out
  have HSZ2 : Hid (w.heap.size + 2 ≤ (w5.setCells ga 33 (cb y)).heap.size) := by show _ ≤ _; rw [hat.size]; exact Nat.le_trans HSZ.out ho.size
  have HT : Hid (w5.there ga 33 (cb y).toArray.size) := hGA.there 33 _ (by rw [List.size_toArray, cb_len, HDL.out, sgnV_total HX.out len0 len0]; omega)
  have HIZ : Hid ((Tryd.prog.info? 23).map (·.size) = some (cb y).toArray.size) := by show _ = _; rw [List.size_toArray, cb_len, HDL.out]; exact Tryd.infodig
  clear HNK HGA HSZ hrd ho hob hc hGA hat
  have HNK := HNK2
  have HGA := HGB
  have HSZ := HSZ2
  clear HNK2 HGB HSZ2
  go_wp2_with (refine wpList_store_mid rfl 23 _ _ rfl ga 33 (cb y).toArray rfl rfl HT.out HIZ.out (all_oneCell_toArray (cb_one y)) ?_)
  have HY := HDL
  clear HT HIZ HDL
  change Calls _ _ _ (w5.setCells ga 33 (cb y)) _
  generalize w5.setCells ga 33 (cb y) = w6 at *
  refine (crdigest_any gr gi v3 r3 w6 HNK.out.rd).mono ?_
  rintro e w7 (⟨z, r4, va4, v4, hc, rfl, rfl, hrd, ho, hob⟩ | ⟨hc, hT⟩)
  case inr =>
    have HD : Hid (RdDoes gr gi v w (signedR l) (fun a w' v => ∃ cs : List Value, v = .agg cs.toArray ∧ sgnK.G w' w.heap.size a cs) (thrown gi) w7) := Or.inr ⟨thenR_no HS1.out (thenR_no HS2.out (thenR_no HS3.out (thenR_none hc))), Threw.after HNK.out.onl (hT.eq ▸ hT)⟩
    obtain rfl := hT.eq
    unfold thrown at HD ⊢
    clear hT
    go_wp2
    exact ⟨rfl, HD.out⟩
  have HS4 : Hid (cut 32 r3 = some (z, r4)) := hc
  have HDL : Hid (z.length = 32) := cut32_len hc
  have hGA := HGA.out.only ho (by have := HGL.out; have := HGI.out; omega)
  have hat : At ga w7 (w7.setCells ga 65 (cb z)) := At.setCells _ _ _ (At.refl _ _)
  have HGB : Hid (Blk (w7.setCells ga 65 (cb z)) ga (sgnV ep x y z nilV) 30) := sgnV_z hGA HX.out HY.out len0 HDL.out
  have HNK2 : Hid _ := (HNK.out.call hrd ho hob).at hat HGL.out HVV.out
  have HSZ2 : Hid (w.heap.size + 2 ≤ (w7.setCells ga 65 (cb z)).heap.size) := by show _ ≤ _; rw [hat.size]; exact Nat.le_trans HSZ.out ho.size
  have HT : Hid (w7.there ga 65 (cb z).toArray.size) := hGA.there 65 _ (by rw [List.size_toArray, cb_len, HDL.out, sgnV_total HX.out HY.out len0]; omega)
  have HIZ : Hid ((Tryd.prog.info? 23).map (·.size) = some (cb z).toArray.size) := by show _ = _; rw [List.size_toArray, cb_len, HDL.out]; exact Tryd.infodig
  clear HNK HGA HSZ hrd ho hob hc hGA hat
  have HNK := HNK2
  have HGA := HGB
  have HSZ := HSZ2
  clear HNK2 HGB HSZ2
  go_wp2_with (refine wpList_store_mid rfl 23 _ _ rfl ga 65 (cb z).toArray rfl rfl HT.out HIZ.out (all_oneCell_toArray (cb_one z)) ?_)
  have HZ := HDL
  clear HT HIZ HDL
  change Calls _ _ _ (w7.setCells ga 65 (cb z)) _
  generalize w7.setCells ga 65 (cb z) = w8 at *
  refine (crtext_any gr gi v4 r4 w8 HNK.out.rd).mono ?_
  rintro e w10 (⟨sg, r9, va9, v9, hc, rfl, hown, hrd, ho, hob⟩ | ⟨hc, hT⟩)
  case inr =>
    have HD : Hid (RdDoes gr gi v w (signedR l) (fun a w' v => ∃ cs : List Value, v = .agg cs.toArray ∧ sgnK.G w' w.heap.size a cs) (thrown gi) w10) := Or.inr ⟨thenR_no HS1.out (thenR_no HS2.out (thenR_no HS3.out (thenR_no HS4.out (hc)))), Threw.after HNK.out.onl (hT.eq ▸ hT)⟩
    obtain rfl := hT.eq
    unfold thrown at HD ⊢
    clear hT
    go_wp2
    exact ⟨rfl, HD.out⟩
  have HSP : Hid (signedR l = some ((ep, x, y, z, sg), r9)) := thenR_some HS1.out (thenR_some HS2.out (thenR_some HS3.out (thenR_some HS4.out hc)))
  have h8 : OwnB w10 (w.heap.size + 2) va9 sg := hown.mono HSZ.out
  have hGA := HGA.out.only ho (by have := HGL.out; have := HGI.out; omega)
  have c9 : w10.cell? ⟨ga, 97, none⟩ = some nilV := sgnV_last hGA HX.out HY.out HZ.out
  have f9 : w10.frozen? ⟨ga, 97, none⟩ = false := hGA.frozen 97
  have hat : At ga w10 (w10.setCell ⟨ga, 97, none⟩ va9) := (At.refl _ _).setCell _ _
  have HGB : Hid (Blk (w10.setCell ⟨ga, 97, none⟩ va9) ga (sgnV ep x y z va9) 30) := sgnV_sig hGA HX.out HY.out HZ.out
  have H8 : Hid (OwnB (w10.setCell ⟨ga, 97, none⟩ va9) (w.heap.size + 1) va9 sg) := (h8.same (fun k hk => hat.block k (by have := h8.own k hk; have := HGE.out; omega))).mono (by omega)
  have HNK2 : Hid _ := (HNK.out.call hrd ho hob).at hat HGL.out HVV.out
  clear HNK HGA hrd ho hob hc hGA hat
  have HNK := HNK2
  have HGA := HGB
  clear HNK2 HGB
  unfold nilV at c9
  obtain ⟨ad9, cp9, hv9, _, _, _⟩ := id hown.reads
  obtain ⟨n9, HN9⟩ : ∃ n, Hid (n = sg.length) := ⟨_, rfl⟩
  rw [← HN9.out] at hv9
  subst hv9
  clear hown h8 HSZ
  obtain ⟨w5, HW5⟩ : ∃ x, Hid (x = w10.setCell ⟨ga, 97, none⟩ (.slice ad9 n9 cp9)) := ⟨_, rfl⟩
  rw [← HW5.out] at HGA H8 HNK
  have HRES : Hid (Blk w5 w.heap.size sgnK.z 30) := HNK.out.res
  have HGG : Hid (sgnK.G w5 (w.heap.size + 1) (ep, x, y, z, sg) (sgnV ep x y z (.slice ad9 n9 cp9))) := ⟨_, rfl, H8.out, HX.out, HY.out, HZ.out, HEP.out⟩
  have HI : Hid ((Tryd.prog.info? 30).map (·.size) = some ((sgnV ep x y z (.slice ad9 n9 cp9))).length) := by have := sgnK_ok.size HGG.out; rw [List.size_toArray] at this; exact this
  have H1 : Hid (((sgnV ep x y z (.slice ad9 n9 cp9))).toArray.all (·.oneCell') = true) := all_oneCell_toArray (sgnK_ok.one HGG.out)
  have HLN : Hid (((sgnV ep x y z (.slice ad9 n9 cp9))).length = sgnK.z.length) := sgnK_ok.len HGG.out
  obtain ⟨cs, HCS⟩ : ∃ cs, Hid (cs = (sgnV ep x y z (.slice ad9 n9 cp9))) := ⟨_, rfl⟩
  rw [← HCS.out] at HGA HGG HI H1 HLN
  clear HCS
  clear H8
  go_wp2_with (first | (refine wpSeq_val (.agg cs.toArray) _ (by rfl) (load_run 30 _ rfl ga 0 rfl cs _ (HW5.out ▸ HGA.out.range) Tryd.underlying30 rfl HI.out) ?_) | (refine wpList_store_mid rfl 30 _ _ rfl w.heap.size 0 cs.toArray rfl rfl (HW5.out ▸ HRES.out.there 0 _ (by rw [List.size_toArray, HLN.out]; omega)) (by rw [List.size_toArray]; exact HI.out) H1.out ?_))
  rw [← HW5.out]
  have hat : At w.heap.size w5 (w5.setCells w.heap.size 0 cs) := At.setCells _ _ _ (At.refl _ _)
  have hB6 : Blk (w5.setCells w.heap.size 0 cs) w.heap.size cs 30 := HRES.out.whole cs HLN.out
  refine bodyPost_ret (v := .agg cs.toArray) (results_cell_row (by rfl) _ _ w.heap.size 30 _ (0, 0) _ rfl hB6 Tryd.underlying30 rfl (by rw [List.size_toArray]; exact HI.out)) rfl (Or.inl ⟨(ep, x, y, z, sg), r9, _, _, HSP.out, rfl, ⟨_, rfl, ?_⟩, ?_, ?_, HNK.out.ob⟩)
  · exact sgnK_ok.mono (sgnK_ok.same HGG.out fun k h1 _ => hat.block k (by omega)) (Nat.le_succ _)
  · exact HNK.out.rdAt hat (Nat.le_refl _) HVV.out
  · exact HNK.out.onlAt hat (Nat.le_refl _)
end Go.Proofs.YtableajopaappaaDoor
/- The walks of record's readRequest. -/
namespace Go.Proofs.YtableajopaappaaDoor
open Go.RowKit
set_option maxRecDepth 100000
end Go.Proofs.YtableajopaappaaDoor
/- The walk of record's readProof. -/
namespace Go.Proofs.YtableajopaappaaDoor
open Go.RowKit
set_option maxRecDepth 100000
theorem Nk.keep {w wc w' : World} {gr gi B : Nat} {v vc : Value} {lc : List (BitVec 8)} {t : TypeId} {z : List Value} (h : Nk w gr gi v vc lc t z wc) (hb : Below B wc w') (hB : w.heap.size < B) (hv : ∀ j, v.ownBlock = some j → j < w.heap.size) : Nk w gr gi v vc lc t z w' :=
  ⟨⟨h.rd.rd.below hb (by have := h.gr; omega), h.rd.inp.below hb (by have := h.gi; omega), h.rd.byt.keep hb (fun _ j hj => by have := hv j (h.ob ▸ hj); omega)⟩, ⟨hb.os.trans h.onl.os, hb.tape.trans h.onl.tape, hb.output.trans h.onl.output, Nat.le_trans h.onl.size hb.size, fun k h1 h2 => (hb.block k (by omega)).trans (h.onl.block k h1 h2)⟩, h.ob, h.res.below hb hB, h.gr, h.gi⟩
end Go.Proofs.YtableajopaappaaDoor
/- The reference's four reading functions: where a reading stands, what it comes to, the walk of its ReadBinding. -/
namespace Go.Proofs.YtableajopaappaaDoor
open Go.RowKit
set_option maxRecDepth 100000
/-- a was read up to p, or the reader is bad -/
def Mg {α : Type} (o : Option (α × List (BitVec 8))) (b0 b1 : Bool) (a : α) (l : List (BitVec 8)) (p : Nat) : Prop := (b1 = false ∧ b0 = false ∧ o = some (a, l.drop p)) ∨ (b1 = true ∧ (b0 = true ∨ o = none))
theorem mg_of {α : Type} {g : Nat} {v : Value} {l : List (BitVec 8)} {w : World} {b0 : Bool} {o : Option (α × List (BitVec 8))} {R : α → World → Value → Prop} {Z : Value → Prop} {e : Ending} {w' : World} (z : α) (h : InDoes g v l w (if b0 then none else o) R Z e w') (hz : ∀ u, Z u → R z w' u) :
    ∃ a p u b1, e = .returned u ∧ R a w' u ∧ InS w' g v l p b1 ∧ Only g w w' ∧ Mg o b0 b1 a l p := by
  rcases h with ⟨a, p, u, ho, rfl, hu, hs, hon⟩ | ⟨ho, u, p, rfl, hu, hs, hon⟩
  · refine ⟨a, p, u, false, rfl, hu, hs, hon, Or.inl ⟨rfl, ?_⟩⟩
    cases b0 with
    | true => simp at ho
    | false => exact ⟨rfl, by simpa using ho⟩
  · refine ⟨z, p, u, true, rfl, hz u hu, hs, hon, Or.inr ⟨rfl, ?_⟩⟩
    cases b0 with
    | true => exact Or.inl rfl
    | false => exact Or.inr (by simpa using ho)
theorem intext_m (g : Nat) (v : Value) (l : List (BitVec 8)) (pos : Nat) (b0 : Bool) (w : World) (h : InS w g v l pos b0) (hl : l.length ≤ 9223372036854775807) :
    Calls Tryd.prog 61 #[.pointer (some ⟨g, 0, none⟩)] w fun e w' => ∃ a p u b1, e = .returned u ∧ OwnB w' w.heap.size u a ∧ InS w' g v l p b1 ∧ Only g w w' ∧ Mg (readText (l.drop pos)) b0 b1 a l p :=
  (intext_any g v l pos b0 w h hl).mono fun _ _ hh => mg_of [] hh (fun _ hu => by subst hu; exact OwnB.nil _ _)
theorem innum_m (g : Nat) (v : Value) (l : List (BitVec 8)) (pos : Nat) (b0 : Bool) (w : World) (h : InS w g v l pos b0) (hl : l.length ≤ 9223372036854775807) :
    Calls Tryd.prog 63 #[.pointer (some ⟨g, 0, none⟩)] w fun e w' => ∃ (a : Nat) (p : Nat) (u : Value) (b1 : Bool), e = .returned u ∧ u = .int .u64 (a : Int) ∧ InS w' g v l p b1 ∧ Only g w w' ∧ Mg (readNum (l.drop pos)) b0 b1 a l p :=
  (innum_any g v l pos b0 w h hl).mono fun _ _ hh => mg_of 0 hh (fun _ hu => hu)
/-- where a reading of the reference stands: the result lies at the world's end, the reader behind it -/
structure Rf0 (w : World) (v : Value) (l : List (BitVec 8)) (p : Nat) (b : Bool) (t : TypeId) (z : List Value) (W : World) : Prop where
  inp : InS W (w.heap.size + 1) v l p b
  res : Blk W w.heap.size z t
  bel : Below w.heap.size w W
  vb : 0 < l.length → ∀ k, v.ownBlock = some k → k < w.heap.size
theorem Rf0.sz {w W : World} {v : Value} {l : List (BitVec 8)} {p : Nat} {b : Bool} {t : TypeId} {z : List Value} (h : Rf0 w v l p b t z W) : w.heap.size + 1 < W.heap.size := h.inp.blk.lt
theorem Rf0.start {w : World} {v : Value} {l : List (BitVec 8)} {t : TypeId} {z : List Value} (hr : Reads w v l) : Rf0 w v l 0 false t z ((w.alloc (.cells z.toArray t)).alloc (.cells [v, .int .i64 0, .bool false].toArray 95)) :=
  have hb : Below w.heap.size w ((w.alloc (.cells z.toArray t)).alloc (.cells [v, .int .i64 0, .bool false].toArray 95)) := (below_alloc w _).trans ((below_alloc _ _).mono (by simp))
  ⟨⟨Blk.new_at (by simp) _ _, hr.below hb, Nat.zero_le _⟩, (Blk.new w z t).below (below_alloc _ _) (by simp), hb, hr.inB⟩
theorem Rf0.call {w W W' : World} {v : Value} {l : List (BitVec 8)} {p p' : Nat} {b b' : Bool} {t : TypeId} {z : List Value} (h : Rf0 w v l p b t z W) (hs : InS W' (w.heap.size + 1) v l p' b') (ho : Only (w.heap.size + 1) W W') : Rf0 w v l p' b' t z W' :=
  ⟨hs, h.res.only ho (by omega), h.bel.trans (ho.below (by omega) h.bel.size), h.vb⟩
theorem Rf0.next {w W W' : World} {v : Value} {l : List (BitVec 8)} {p : Nat} {b : Bool} {t : TypeId} {z : List Value} (h : Rf0 w v l p b t z W) (hb : Below (w.heap.size + 2) W W') : Rf0 w v l p b t z W' :=
  ⟨h.inp.others (fun hp k hk => by have := h.vb hp k hk; omega) hb, h.res.below hb (by omega), h.bel.trans (hb.mono (by omega)), h.vb⟩
theorem Rf0.at {w W W' : World} {v : Value} {l : List (BitVec 8)} {p g : Nat} {b : Bool} {t : TypeId} {z : List Value} (h : Rf0 w v l p b t z W) (ha : At g W W') (hg : w.heap.size + 1 < g) : Rf0 w v l p b t z W' :=
  ⟨⟨h.inp.blk.at ha (by omega), h.inp.byt.at ha (fun hp j hj => by have := h.vb hp j hj; omega), h.inp.le⟩, h.res.at ha (by omega), ⟨ha.os.trans h.bel.os, ha.tape.trans h.bel.tape, ha.output.trans h.bel.output, by rw [ha.size]; exact h.bel.size, fun k hk => (ha.block k (by omega)).trans (h.bel.block k hk)⟩, h.vb⟩
/-- the same, with the thing's cells cs at block g -/
structure Rf (w : World) (g : Nat) (v : Value) (l : List (BitVec 8)) (p : Nat) (b : Bool) (t : TypeId) (z cs : List Value) (W : World) : Prop where
  st : Rf0 w v l p b t z W
  thg : Blk W g cs t
  lt : w.heap.size + 1 < g
theorem Rf.call {w W W' : World} {v : Value} {l : List (BitVec 8)} {g p p' : Nat} {b b' : Bool} {t : TypeId} {z cs : List Value} (h : Rf w g v l p b t z cs W) (hs : InS W' (w.heap.size + 1) v l p' b') (ho : Only (w.heap.size + 1) W W') : Rf w g v l p' b' t z cs W' :=
  ⟨h.st.call hs ho, h.thg.only ho (by have := h.lt; omega), h.lt⟩
theorem Rf.at {w W W' : World} {v : Value} {l : List (BitVec 8)} {g p : Nat} {b : Bool} {t : TypeId} {z cs cs' : List Value} (h : Rf w g v l p b t z cs W) (ha : At g W W') (hb : Blk W' g cs' t) : Rf w g v l p b t z cs' W' :=
  ⟨h.st.at ha h.lt, hb, h.lt⟩
/-- the thing is laid -/
theorem Rf0.lay {w W : World} {v : Value} {l : List (BitVec 8)} {p : Nat} {b : Bool} {t : TypeId} {z y cs : List Value} (h : Rf0 w v l p b t z W) (hc : cs.length = y.length) : Rf w W.heap.size v l p b t z cs ((W.alloc (.cells y.toArray t)).setCells W.heap.size 0 cs) :=
  ⟨(h.next ((below_alloc W _).mono h.sz)).at (At.setCells _ _ _ (At.refl _ _)) h.sz, (Blk.new W y t).whole cs hc, h.sz⟩
theorem Rf.drewN {w W : World} {v : Value} {l : List (BitVec 8)} {g p : Nat} {b : Bool} {t : TypeId} {z cs : List Value} (h : Rf w g v l p b t z cs W) (k : Nat) : Rf w g v l p b t z cs (W.drewN k) :=
  ⟨⟨⟨h.st.inp.blk, h.st.inp.byt, h.st.inp.le⟩, h.st.res, below_drewN h.st.bel k, h.st.vb⟩, h.thg, h.lt⟩
theorem OwnB.at1 {w w' : World} {base g : Nat} {v : Value} {l : List (BitVec 8)} (h : OwnB w base v l) (ha : At g w w') (hg : g < base) : OwnB w' base v l := h.keep fun k h1 _ => ha.block k (by omega)
/-- what is handed back -/
theorem rf_yes {α : Type} {K : Kd α} (hK : KdOk K) {w W : World} {v : Value} {l : List (BitVec 8)} {g p : Nat} {b : Bool} {cs : List Value} {a : α} {o : Option α} (h : Rf w g v l p b K.ty K.z cs W) (ho : o = some a) (hG : K.G W (w.heap.size + 2) a cs) :
    RdRes K w o (.returned (.tuple #[.agg cs.toArray, .int .i64 0])) (W.setCells w.heap.size 0 cs) :=
  have ha : At w.heap.size W (W.setCells w.heap.size 0 cs) := At.setCells _ _ _ (At.refl _ _)
  ⟨⟨ha.os.trans h.st.bel.os, ha.tape.trans h.st.bel.tape, ha.output.trans h.st.bel.output, by rw [ha.size]; exact h.st.bel.size, fun k hk => (ha.block k (by omega)).trans (h.st.bel.block k hk)⟩, Or.inl ⟨a, cs, ho, rfl, hK.mono (hK.same hG fun k h1 _ => ha.block k (by omega)) (by omega)⟩⟩
theorem rf_no {α : Type} {K : Kd α} {w W : World} {v : Value} {l : List (BitVec 8)} {g p : Nat} {b : Bool} {cs : List Value} {o : Option α} (h : Rf w g v l p b K.ty K.z cs W) (ho : o = none) :
    RdRes K w o (.returned (.tuple #[.agg K.z.toArray, .int .i64 3])) (W.setCells w.heap.size 0 K.z) :=
  have ha : At w.heap.size W (W.setCells w.heap.size 0 K.z) := At.setCells _ _ _ (At.refl _ _)
  ⟨⟨ha.os.trans h.st.bel.os, ha.tape.trans h.st.bel.tape, ha.output.trans h.st.bel.output, by rw [ha.size]; exact h.st.bel.size, fun k hk => (ha.block k (by omega)).trans (h.st.bel.block k hk)⟩, Or.inr ⟨ho, rfl⟩⟩
theorem nil_dropI {l : List (BitVec 8)} {p : Nat} (hp : p ≤ l.length) : l.drop p = [] ↔ p = l.length := by
  rw [List.drop_eq_nil_iff]
  omega
theorem whole_drop {α : Type} {a : α} {l : List (BitVec 8)} {p : Nat} (hp : p ≤ l.length) : whole (some (a, l.drop p)) = if p = l.length then some a else none := by
  unfold whole
  by_cases h : p = l.length
  · rw [(nil_dropI hp).2 h, if_pos h]
  · rw [if_neg h]
    cases hd : l.drop p with
    | nil => exact absurd ((nil_dropI hp).1 hd) h
    | cons x y => rfl
theorem indigest_n (g : Nat) (v : Value) (l : List (BitVec 8)) (pos : Nat) (b0 : Bool) (w : World) (h : InS w g v l pos b0) (hl : l.length ≤ 9223372036854775807) :
    Calls Tryd.prog 64 #[.pointer (some ⟨g, 0, none⟩)] w fun e w' => ∃ (a : List (BitVec 8)) (p : Nat) (b1 : Bool), e = .returned (.agg (cb a).toArray) ∧ a.length = 32 ∧ InS w' g v l p b1 ∧ Only g w w' ∧ Mg (cut 32 (l.drop pos)) b0 b1 a l p := by
  refine (indigest_any g v l pos b0 w h hl).mono ?_
  rintro e w' (⟨a, p, u, ho, rfl, rfl, hs, hon⟩ | ⟨ho, u, p, rfl, rfl, hs, hon⟩)
  · cases b0 with
    | true => simp at ho
    | false =>
      have ho' : cut 32 (l.drop pos) = some (a, l.drop p) := by simpa using ho
      exact ⟨a, p, false, rfl, cut32_len ho', hs, hon, Or.inl ⟨rfl, rfl, ho'⟩⟩
  · refine ⟨zb32, p, true, rfl, rfl, hs, hon, Or.inr ⟨rfl, ?_⟩⟩
    cases b0 with
    | true => exact Or.inl rfl
    | false => exact Or.inr (by simpa using ho)
theorem Mg.then {α β : Type} {g : List (BitVec 8) → Option (α × List (BitVec 8))} {h : α → List (BitVec 8) → Option (β × List (BitVec 8))} {l : List (BitVec 8)} {p0 p1 p2 : Nat} {b0 b1 b2 : Bool} {a : α} {c : β} (h1 : Mg (g (l.drop p0)) b0 b1 a l p1) (h2 : Mg (h a (l.drop p1)) b1 b2 c l p2) : Mg (thenR g h (l.drop p0)) b0 b2 (a, c) l p2 := by
  rcases h2 with ⟨rfl, rfl, h2⟩ | ⟨rfl, h2⟩
  · rcases h1 with ⟨_, rfl, h1⟩ | ⟨h1, _⟩
    · exact Or.inl ⟨rfl, rfl, thenR_some h1 h2⟩
    · cases h1
  · rcases h1 with ⟨rfl, rfl, h1⟩ | ⟨rfl, h1⟩
    · rcases h2 with h2 | h2
      · cases h2
      · exact Or.inr ⟨rfl, Or.inr (thenR_no h1 h2)⟩
    · rcases h1 with rfl | h1
      · exact Or.inr ⟨rfl, Or.inl rfl⟩
      · exact Or.inr ⟨rfl, Or.inr (thenR_none h1)⟩
/-- what is read, if it may be -/
def onlyIf {α : Type} (c : α → Bool) (o : Option (α × List (BitVec 8))) : Option (α × List (BitVec 8)) :=
  match o with
  | none => none
  | some (a, r) => if c a then some (a, r) else none
theorem mg_whole {α : Type} {o : Option (α × List (BitVec 8))} {l : List (BitVec 8)} {p : Nat} {b : Bool} {a : α} (h : Mg o false b a l p) (hp : p ≤ l.length) (c : α → Bool) : whole (onlyIf c o) = if (!b && decide (p = l.length)) && c a then some a else none := by
  rcases h with ⟨rfl, _, h⟩ | ⟨rfl, h⟩
  · rw [h]
    unfold onlyIf
    simp only
    cases hc : c a with
    | true =>
      rw [if_pos rfl, whole_drop hp]
      by_cases hq : p = l.length <;> simp [hq]
    | false => simp [whole]
  · rcases h with h | h
    · cases h
    · rw [h]
      simp [onlyIf, whole]
theorem mg_good {α : Type} {o : Option (α × List (BitVec 8))} {l : List (BitVec 8)} {p : Nat} {b : Bool} {a : α} (h : Mg o false b a l p) (hb : b = false) : o = some (a, l.drop p) := by
  rcases h with ⟨_, _, h⟩ | ⟨h, _⟩
  · exact h
  · rw [hb] at h; cases h
theorem onlyIf_true {α : Type} (o : Option (α × List (BitVec 8))) : onlyIf (fun _ => true) o = o := by
  cases o with
  | none => rfl
  | some p => rfl
end Go.Proofs.YtableajopaappaaDoor
/- The walks of Binding, of record and of the reference, and of SameBinding. -/
namespace Go.Proofs.YtableajopaappaaDoor
open Go.RowKit
set_option maxRecDepth 100000
end Go.Proofs.YtableajopaappaaDoor
/- The walk of blazonlaw05's works; of Right, of record and of the reference. -/
namespace Go.Proofs.YtableajopaappaaDoor
open Go.RowKit
set_option maxRecDepth 100000
end Go.Proofs.YtableajopaappaaDoor
/- The walks of record's Signed and Request. -/
namespace Go.Proofs.YtableajopaappaaDoor
open Go.RowKit
set_option maxRecDepth 100000
theorem Blk.rangeMid {w : World} {g off : Nat} {A B C : List Value} {t : TypeId} (h : Blk w g (A ++ (B ++ C)) t) (ho : A.length = off) : w.rangeAt g off B := by
  subst ho
  intro j v hj
  have hlt : j < B.length := (List.getElem?_eq_some_iff.1 hj).1
  rw [h.cell, List.getElem?_append_right (by omega), Nat.add_sub_cancel_left, List.getElem?_append_left hlt, hj]
theorem sgnV_rx {ep : Nat} {x y z : List (BitVec 8)} {vs : Value} {w : World} {g : Nat} {t : TypeId} (h : Blk w g (sgnV ep x y z vs) t) : w.rangeAt g 1 (cb x) :=
  Blk.rangeMid (A := [.int .u64 (ep : Int)]) (B := cb x) (C := cb y ++ (cb z ++ [vs])) h rfl
theorem sgnV_ry {ep : Nat} {x y z : List (BitVec 8)} {vs : Value} {w : World} {g : Nat} {t : TypeId} (h : Blk w g (sgnV ep x y z vs) t) (hx : x.length = 32) : w.rangeAt g 33 (cb y) := by
  have e : sgnV ep x y z vs = (.int .u64 (ep : Int) :: cb x) ++ (cb y ++ (cb z ++ [vs])) := by simp only [sgnV, List.cons_append]
  rw [e] at h
  exact h.rangeMid (by rw [List.length_cons, cb_len, hx])
theorem sgnV_rz {ep : Nat} {x y z : List (BitVec 8)} {vs : Value} {w : World} {g : Nat} {t : TypeId} (h : Blk w g (sgnV ep x y z vs) t) (hx : x.length = 32) (hy : y.length = 32) : w.rangeAt g 65 (cb z) := by
  have e : sgnV ep x y z vs = (.int .u64 (ep : Int) :: (cb x ++ cb y)) ++ (cb z ++ [vs]) := by simp only [sgnV, List.cons_append, List.append_assoc]
  rw [e] at h
  exact h.rangeMid (by rw [List.length_cons, List.length_append, cb_len, cb_len, hx, hy])
theorem infoD (d : List (BitVec 8)) (h : d.length = 32) : (Tryd.prog.info? 23).map (·.size) = some (cb d).length := by rw [cb_len, h]; exact Tryd.infodig
structure Fit (x : Int) : Prop where
  lo : -9223372036854775808 ≤ x
  hi : x < 9223372036854775808
end Go.Proofs.YtableajopaappaaDoor
/- The walk of the reference's ReadBinding. -/
namespace Go.Proofs.YtableajopaappaaDoor
open Go.RowKit
set_option maxRecDepth 100000
theorem Rf0.new {w W : World} {v : Value} {l : List (BitVec 8)} {p : Nat} {b : Bool} {t : TypeId} {z cs : List Value} (h : Rf0 w v l p b t z W) : Rf w W.heap.size v l p b t z cs (W.alloc (.cells cs.toArray t)) :=
  ⟨h.next ((below_alloc W _).mono h.sz), Blk.new W cs t, h.sz⟩
theorem buildZsgnK (f : Operand → Value) (o : Oper) (ho : o.op = .build 30 #[]) (w : World) : (execOp f o).run Tryd.prog w = .ok (.value (.agg sgnK.z.toArray)) w := by
  unfold execOp
  rw [ho]
  kernel_rfl
theorem wpSeq_buildK {ty : TypeId} {z : List Value} {ops : Array Oper} {Q : Exit → Act → World → Prop} {rest : List Oper} {o : Oper} {a : Act} {w : World} (hbd : ∀ (f : Operand → Value) (o : Oper), o.op = .build ty #[] → ∀ w, (execOp f o).run Tryd.prog w = .ok (.value (.agg z.toArray)) w)
    (ho : o.op = .build ty #[]) (hw : Region.wanted o (yielded ops a.tmps) = true) {zs : List Value} (hz : zs = z) (h : wpList Tryd.prog ops Q rest (a.put o.dst (.agg zs.toArray)) w) : wpList Tryd.prog ops Q (o :: rest) a w := by
  subst hz
  exact wpSeq_val _ _ hw (hbd _ _ ho _) h
theorem sgn_mg {l x y z sg : List (BitVec 8)} {ep p1 p2 p3 p4 p5 : Nat} {b1 b2 b3 b4 b5 : Bool} (h1 : Mg (readNum (l.drop 0)) false b1 ep l p1) (h2 : Mg (cut 32 (l.drop p1)) b1 b2 x l p2) (h3 : Mg (cut 32 (l.drop p2)) b2 b3 y l p3) (h4 : Mg (cut 32 (l.drop p3)) b3 b4 z l p4) (h5 : Mg (readText (l.drop p4)) b4 b5 sg l p5) (hp : p5 ≤ l.length) :
    whole (signedR l) = if (!b5 && decide (p5 = l.length)) then some (ep, x, y, z, sg) else none := by
  have h : Mg (signedR (l.drop 0)) false b5 (ep, x, y, z, sg) l p5 := h1.then (h2.then (h3.then (h4.then h5)))
  rw [List.drop_zero] at h
  have := mg_whole h hp (fun _ => true)
  rw [onlyIf_true, Bool.and_true] at this
  exact this
end Go.Proofs.YtableajopaappaaDoor
/- The walk of the reference's ReadRequest. -/
namespace Go.Proofs.YtableajopaappaaDoor
open Go.RowKit
set_option maxRecDepth 100000
end Go.Proofs.YtableajopaappaaDoor
/- The walks of the reference's SameRequest and SameSigned. -/
namespace Go.Proofs.YtableajopaappaaDoor
open Go.RowKit
set_option maxRecDepth 100000
def rootL5 (n : Nat) (x y z : List (BitVec 8)) : List Value := Value.int .u64 (n : Int) :: (cb x ++ (cb y ++ cb z))
theorem sgnV_root (ep : Nat) (x y z : List (BitVec 8)) (vs : Value) : sgnV ep x y z vs = rootL5 ep x y z ++ [vs] := by simp only [sgnV, rootL5, List.cons_append, List.append_assoc]
theorem rootL_len5 {ep : Nat} {x y z : List (BitVec 8)} (hx : x.length = 32) (hy : y.length = 32) (hz : z.length = 32) : (rootL5 ep x y z).length = 97 := by simp only [rootL5, List.length_cons, List.length_append, cb_len, hx, hy, hz]
theorem sgnV_rroot {ep : Nat} {x y z : List (BitVec 8)} {vs : Value} {w : World} {g : Nat} {t : TypeId} (h : Blk w g (sgnV ep x y z vs) t) : w.rangeAt g 0 (rootL5 ep x y z) :=
  Blk.rangeMid (A := []) (B := rootL5 ep x y z) (C := [vs]) (by rw [List.nil_append, ← sgnV_root]; exact h) rfl
theorem wpSeq_loadR {ops : Array Oper} {Q : Exit → Act → World → Prop} {rest : List Oper} {o : Oper} {a : Act} {w : World} (x : Operand) (ho : o.op = .load 27 x) (hw : Region.wanted o (yielded ops a.tmps) = true) (b : Nat) (hx : a.eval x = .pointer (some ⟨b, 0, none⟩)) (cs : List Value) (hc : w.rangeAt b 0 cs) (hi : (Tryd.prog.info? 27).map (·.size) = some cs.length)
    (h : wpList Tryd.prog ops Q rest (a.put o.dst (.agg cs.toArray)) w) : wpList Tryd.prog ops Q (o :: rest) a w :=
  wpSeq_val _ _ hw (load_run 27 x ho b 0 hx cs _ hc Tryd.underlying27 rfl hi) h
theorem wpSeq_boxAt {ops : Array Oper} {Q : Exit → Act → World → Prop} {rest : List Oper} {o : Oper} {a : Act} {w : World} (ty : TypeId) (x : Operand) (ho : o.op = .box ty x) (cs : List Value) (hx : a.eval x = .agg cs.toArray) (hw : Region.wanted o (yielded ops a.tmps) = true) (w0 : World) (h0 : w0 = w.alloc (.cells cs.toArray ty)) {n : Nat} (hn : w.heap.size = n)
    (h : wpList Tryd.prog ops Q rest (a.put o.dst (.pointer (some ⟨n, 0, none⟩))) w0) : wpList Tryd.prog ops Q (o :: rest) a w := by
  subst hn
  exact wpSeq_box ty x ho cs hx hw w0 h0 h
set_option maxRecDepth 100000 in
set_option maxHeartbeats 2000000 in
theorem sameSgn_any (n0 m0 : Nat) (xa ya za xb yb zb sa sb : List (BitVec 8)) (va vb : Value) (w : World) (ha : xa.length = 32 ∧ ya.length = 32 ∧ za.length = 32) (hb : xb.length = 32 ∧ yb.length = 32 ∧ zb.length = 32) (hra : Reads w va sa) (hrb : Reads w vb sb) :
    Calls Tryd.prog 37 #[.agg (sgnV n0 xa ya za va).toArray, .agg (sgnV m0 xb yb zb vb).toArray] w fun e w' => e = .returned (.bool (decide ((n0 = m0 ∧ xa = xb ∧ ya = yb ∧ za = zb) ∧ sa = sb))) ∧ Below w.heap.size w w' := by
  have HRA : Hid (Reads w va sa) := hra
  have HRB : Hid (Reads w vb sb) := hrb
  have HLA : Hid (xa.length = 32 ∧ ya.length = 32 ∧ za.length = 32) := ha
  have HLB : Hid (xb.length = 32 ∧ yb.length = 32 ∧ zb.length = 32) := hb
  obtain ⟨ada, cpa, hva, q1, q2, q3⟩ := hra
  obtain ⟨adb, cpb, hvb, q4, q5, q6⟩ := hrb
  clear q1 q2 q3 q4 q5 q6 ha hb
  obtain ⟨na, HNA⟩ : ∃ m, Hid (m = sa.length) := ⟨_, rfl⟩
  obtain ⟨nb, HNB⟩ : ∃ m, Hid (m = sb.length) := ⟨_, rfl⟩
  rw [← HNA.out] at hva
  rw [← HNB.out] at hvb
  subst hva hvb
  obtain ⟨o, HO⟩ : ∃ o, Hid (o = decide ((n0 = m0 ∧ xa = xb ∧ ya = yb ∧ za = zb) ∧ sa = sb)) := ⟨_, rfl⟩
  rw [← HO.out]
  obtain ⟨ca, HCA⟩ : ∃ c, Hid (c = sgnV n0 xa ya za (.slice ada na cpa)) := ⟨_, rfl⟩
  obtain ⟨cb2, HCB⟩ : ∃ c, Hid (c = sgnV m0 xb yb zb (.slice adb nb cpb)) := ⟨_, rfl⟩
  rw [← HCA.out, ← HCB.out]
  obtain ⟨w0, HW0⟩ : ∃ x, Hid (x = w.alloc (.cells ca.toArray 30)) := ⟨_, rfl⟩
  obtain ⟨w1, HW1⟩ : ∃ x, Hid (x = w0.alloc (.cells cb2.toArray 30)) := ⟨_, rfl⟩
  have HZ0 : Hid (w0.heap.size = w.heap.size + 1) := by show _ = _; rw [HW0.out]; simp
  have hB : Below w.heap.size w w1 := by rw [HW1.out, HW0.out]; exact (below_alloc _ _).trans ((below_alloc _ _).mono (by simp))
  have HB : Hid (Below w.heap.size w w1) := hB
  have hBA : Blk w1 w.heap.size (sgnV n0 xa ya za (.slice ada na cpa)) 30 := by rw [HW1.out, HW0.out, ← HCA.out]; exact (Blk.new _ _ _).alloc _
  have hBB : Blk w1 (w.heap.size + 1) (sgnV m0 xb yb zb (.slice adb nb cpb)) 30 := by rw [HW1.out, ← HCB.out]; exact Blk.new_at HZ0.out _ _
  have hca := conv_reads (HRA.out.below HB.out)
  have hcb := conv_reads (HRB.out.below HB.out)
  have hs2 := strB_inj sa sb
  have c9 : w1.cell? ⟨w.heap.size, 97, none⟩ = some (.slice ada na cpa) := sgnV_last hBA HLA.out.1 HLA.out.2.1 HLA.out.2.2
  have d9 : w1.cell? ⟨w.heap.size + 1, 97, none⟩ = some (.slice adb nb cpb) := sgnV_last hBB HLB.out.1 HLB.out.2.1 HLB.out.2.2
  obtain ⟨xs, HXS⟩ : ∃ c, Hid (c = rootL5 n0 xa ya za) := ⟨_, rfl⟩
  obtain ⟨ys, HYS⟩ : ∃ c, Hid (c = rootL5 m0 xb yb zb) := ⟨_, rfl⟩
  have HRX : Hid (w1.rangeAt w.heap.size 0 xs) := by rw [HXS.out]; exact sgnV_rroot hBA
  have HRY : Hid (w1.rangeAt (w.heap.size + 1) 0 ys) := by rw [HYS.out]; exact sgnV_rroot hBB
  have HIX : Hid ((Tryd.prog.info? 27).map (·.size) = some xs.length) := by show _ = _; rw [HXS.out, rootL_len5 HLA.out.1 HLA.out.2.1 HLA.out.2.2]; kernel_rfl
  have HIY : Hid ((Tryd.prog.info? 27).map (·.size) = some ys.length) := by show _ = _; rw [HYS.out, rootL_len5 HLB.out.1 HLB.out.2.1 HLB.out.2.2]; kernel_rfl
  have hx : ∀ wx : World, (Op.equalIn 10000 27 (.agg xs.toArray) (.agg ys.toArray)).run Tryd.prog wx = .ok (decide (n0 = m0 ∧ xa = xb ∧ ya = yb ∧ za = zb)) wx := fun wx => by rw [HXS.out, HYS.out]; exact eq_root n0 m0 xa ya za xb yb zb HLA.out.1 HLA.out.2.1 HLA.out.2.2 HLB.out.1 HLB.out.2.1 HLB.out.2.2 wx
  clear hB hBA hBB
  by_cases h1 : n0 = m0 ∧ xa = xb ∧ ya = yb ∧ za = zb
  · rw [decide_eq_true h1] at hx
    by_cases h2 : sa = sb
    · rw [decide_eq_true h2] at hs2
      have ho : o = true := by rw [HO.out]; first | exact decide_eq_true ⟨by assumption, by assumption, by assumption, by assumption⟩ | exact decide_eq_true ⟨by assumption, by assumption⟩ | exact decide_eq_false (fun hh => by simp_all)
      subst ho
      clear HO
      go_enter Tryd.func37, Tryd.ntmps37
      go_wp2_with (first
        | (with_reducible refine wpSeq_box 30 (.tmp 0) ?_ ca ?_ ?_ w0 ?_ ?_
           · rfl
           · rfl
           · rfl
           · exact HW0.out
           clear HW0)
        | (with_reducible refine wpSeq_boxAt 30 (.tmp 1) ?_ cb2 ?_ ?_ w1 ?_ HZ0.out ?_
           · rfl
           · rfl
           · rfl
           · exact HW1.out
           clear HW1)
        | (with_reducible refine wpSeq_loadR (.tmp 5) ?_ ?_ w.heap.size ?_ xs HRX.out HIX.out ?_
           · rfl
           · rfl
           · rfl)
        | (with_reducible refine wpSeq_loadR (.tmp 7) ?_ ?_ (w.heap.size + 1) ?_ ys HRY.out HIY.out ?_
           · rfl
           · rfl
           · rfl))
      go_ret
      exact ⟨by first | rfl | simp, HB.out⟩
    · rw [decide_eq_false h2] at hs2
      have ho : o = false := by rw [HO.out]; first | exact decide_eq_true ⟨by assumption, by assumption, by assumption, by assumption⟩ | exact decide_eq_true ⟨by assumption, by assumption⟩ | exact decide_eq_false (fun hh => by simp_all)
      subst ho
      clear HO
      go_enter Tryd.func37, Tryd.ntmps37
      go_wp2_with (first
        | (with_reducible refine wpSeq_box 30 (.tmp 0) ?_ ca ?_ ?_ w0 ?_ ?_
           · rfl
           · rfl
           · rfl
           · exact HW0.out
           clear HW0)
        | (with_reducible refine wpSeq_boxAt 30 (.tmp 1) ?_ cb2 ?_ ?_ w1 ?_ HZ0.out ?_
           · rfl
           · rfl
           · rfl
           · exact HW1.out
           clear HW1)
        | (with_reducible refine wpSeq_loadR (.tmp 5) ?_ ?_ w.heap.size ?_ xs HRX.out HIX.out ?_
           · rfl
           · rfl
           · rfl)
        | (with_reducible refine wpSeq_loadR (.tmp 7) ?_ ?_ (w.heap.size + 1) ?_ ys HRY.out HIY.out ?_
           · rfl
           · rfl
           · rfl))
      go_ret
      exact ⟨by first | rfl | simp, HB.out⟩
  · rw [decide_eq_false h1] at hx
    have ho : o = false := by rw [HO.out]; first | exact decide_eq_true ⟨by assumption, by assumption, by assumption, by assumption⟩ | exact decide_eq_true ⟨by assumption, by assumption⟩ | exact decide_eq_false (fun hh => by simp_all)
    subst ho
    clear HO
    go_enter Tryd.func37, Tryd.ntmps37
    go_wp2_with (first
      | (with_reducible refine wpSeq_box 30 (.tmp 0) ?_ ca ?_ ?_ w0 ?_ ?_
         · rfl
         · rfl
         · rfl
         · exact HW0.out
         clear HW0)
      | (with_reducible refine wpSeq_boxAt 30 (.tmp 1) ?_ cb2 ?_ ?_ w1 ?_ HZ0.out ?_
         · rfl
         · rfl
         · rfl
         · exact HW1.out
         clear HW1)
      | (with_reducible refine wpSeq_loadR (.tmp 5) ?_ ?_ w.heap.size ?_ xs HRX.out HIX.out ?_
         · rfl
         · rfl
         · rfl)
      | (with_reducible refine wpSeq_loadR (.tmp 7) ?_ ?_ (w.heap.size + 1) ?_ ys HRY.out HIY.out ?_
         · rfl
         · rfl
         · rfl))
    go_ret
    exact ⟨by first | rfl | simp, HB.out⟩
end Go.Proofs.YtableajopaappaaDoor
/- A signed root's cells; a cell in a world with more (out of RecCk and RecBkL). -/
namespace Go.Proofs.YtableajopaappaaDoor
open Go.RowKit
set_option maxRecDepth 100000
theorem wpSeq_allocK {ty : TypeId} {z : List Value} {ops : Array Oper} {Q : Exit → Act → World → Prop} {rest : List Oper} {o : Oper} {a : Act} {w : World} (hal : ∀ (f : Operand → Value) (o : Oper), o.op = .alloc ty → ∀ w, (execOp f o).run Tryd.prog w = .ok (.value (.pointer (some ⟨w.heap.size, 0, none⟩))) (w.alloc (.cells z.toArray ty)))
    (ho : o.op = .alloc ty) (hw : Region.wanted o (yielded ops a.tmps) = true) (h : wpList Tryd.prog ops Q rest (a.put o.dst (.pointer (some ⟨w.heap.size, 0, none⟩))) (w.alloc (.cells z.toArray ty))) : wpList Tryd.prog ops Q (o :: rest) a w :=
  wpSeq_val _ _ hw (hal _ _ ho _) h
theorem wpSeq_loadK {ops : Array Oper} {Q : Exit → Act → World → Prop} {rest : List Oper} {o : Oper} {a : Act} {w : World} (ty : TypeId) (x : Operand) (ho : o.op = .load ty x) (hw : Region.wanted o (yielded ops a.tmps) = true) (b : Nat) (hx : a.eval x = .pointer (some ⟨b, 0, none⟩)) (cs : List Value) (d : TypeDesc) (hc : Blk w b cs ty) (hu : Tryd.prog.underlying ty = some d) (hd : d.isRow = true) (hi : (Tryd.prog.info? ty).map (·.size) = some cs.length)
    (h : wpList Tryd.prog ops Q rest (a.put o.dst (.agg cs.toArray)) w) : wpList Tryd.prog ops Q (o :: rest) a w :=
  wpSeq_val _ _ hw (load_run ty x ho b 0 hx cs d hc.range hu hd hi) h
end Go.Proofs.YtableajopaappaaDoor
/- The walk of the reference's ReadSigned. -/
namespace Go.Proofs.YtableajopaappaaDoor
open Go.RowKit
set_option maxRecDepth 100000
set_option maxRecDepth 100000 in
set_option maxHeartbeats 4000000 in
theorem rfRdSigned_any (v : Value) (l : List (BitVec 8)) (w : World) (hb : Reads w v l) (hl : l.length ≤ 9223372036854775807) :
    Calls Tryd.prog 36 #[v] w (RdRes sgnK w (whole (signedR l))) := by
  have HL : Hid (l.length ≤ 9223372036854775807) := hl
  obtain ⟨ad, cap, hv, _, _, _⟩ := id hb
  obtain ⟨m, HM⟩ : ∃ m, Hid (m = l.length) := ⟨_, rfl⟩
  rw [← HM.out] at hv
  subst hv
  have H : Hid (Rf0 w (.slice ad m cap) l 0 false 30 sgnK.z ((w.alloc (.cells sgnK.z.toArray 30)).alloc (.cells [(.slice ad m cap), .int .i64 0, .bool false].toArray 95))) := Rf0.start hb
  clear hb hl
  go_enter Tryd.func36, Tryd.ntmps36
  go_upto_region 2 with (first
    | (with_reducible refine wpSeq_allocK allocSigned ?_ ?_ ?_
       · rfl
       · rfl
       skip))
  generalize (w.alloc (.cells sgnK.z.toArray 30)).alloc (.cells [(.slice ad m cap), .int .i64 0, .bool false].toArray 95) = w0 at *
  obtain ⟨zs, HZS⟩ : ∃ x, Hid (x = sgnK.z) := ⟨_, rfl⟩
  have HLN0 : Hid (zs.length = sgnK.z.length) := by show _ = _; rw [HZS.out]
  have HI0 : Hid ((Tryd.prog.info? 30).map (·.size) = some zs.length) := by show _ = _; rw [HLN0.out]; exact sgnK_ok.info
  have H10 : Hid (zs.toArray.all (·.oneCell') = true) := by show _ = _; rw [HZS.out]; exact all_oneCell_toArray sgnK_ok.zone
  go_wp2_with (first
    | (with_reducible refine wpSeq_buildK buildZsgnK ?_ ?_ HZS.out ?_
       · rfl
       · rfl
       skip)
    | (with_reducible refine wpSeq_allocK allocSigned ?_ ?_ ?_
       · rfl
       · rfl
       skip)
    | (with_reducible refine wpList_store_mid ?_ 30 (.tmp 5) (.tmp 9) ?_ w0.heap.size 0 zs.toArray ?_ ?_ ((Blk.new w0 sgnK.z 30).there 0 _ (by rw [List.size_toArray, HLN0.out]; omega)) (by rw [List.size_toArray]; exact HI0.out) H10.out ?_
       · rfl
       · rfl
       · rfl
       · rfl))
  change Calls _ _ _ ((w0.alloc (.cells sgnK.z.toArray 30)).setCells w0.heap.size 0 zs) _
  have HG : Hid (Rf w w0.heap.size (.slice ad m cap) l 0 false 30 sgnK.z zs ((w0.alloc (.cells sgnK.z.toArray 30)).setCells w0.heap.size 0 zs)) := H.out.lay HLN0.out
  clear H
  generalize (w0.alloc (.cells sgnK.z.toArray 30)).setCells w0.heap.size 0 zs = w1 at *
  obtain ⟨gx, HGX⟩ : ∃ x, Hid (x = w0.heap.size) := ⟨_, rfl⟩
  rw [← HGX.out] at HG ⊢
  rw [HZS.out, show sgnK.z = sgnV 0 zb32 zb32 zb32 nilV from rfl] at HG
  clear HGX HLN0 HI0 H10 HZS
  refine (innum_m _ _ l 0 false w1 HG.out.st.inp HL.out).mono ?_
  rintro e w2 ⟨ep, p1, u, b1, rfl, rfl, hs, hon, hm⟩
  have HM1 : Hid (Mg (readNum (l.drop 0)) false b1 ep l p1) := hm
  have HGn : Hid (Rf w gx (.slice ad m cap) l p1 b1 30 sgnK.z (sgnV 0 zb32 zb32 zb32 nilV) w2) := HG.out.call hs hon
  clear HG
  have HG := HGn
  clear HGn
  have cq : w2.cell? ⟨gx, 0, none⟩ = some (.int .u64 0) := HG.out.thg.cell 0
  have fq : w2.frozen? ⟨gx, 0, none⟩ = false := HG.out.thg.frozen 0
  have HGn : Hid (Rf w gx (.slice ad m cap) l p1 b1 30 sgnK.z (sgnV ep zb32 zb32 zb32 nilV) (w2.setCell ⟨gx, 0, none⟩ (.int .u64 (ep : Int)))) := HG.out.at ((At.refl _ _).setCell _ _) (HG.out.thg.set 0 _)
  clear HG  hs hon hm
  have HG := HGn
  clear HGn 
  go_wp2_with fail
  clear cq fq
  generalize w2.setCell ⟨gx, 0, none⟩ (.int .u64 (ep : Int)) = w3 at *
  refine (indigest_n _ _ l p1 b1 w3 HG.out.st.inp HL.out).mono ?_
  rintro e w4 ⟨x, p2, b2, rfl, hlen, hs, hon, hm⟩
  have HM2 : Hid (Mg (cut 32 (l.drop p1)) b1 b2 x l p2) := hm
  have HDL : Hid (x.length = 32) := hlen
  have HGn : Hid (Rf w gx (.slice ad m cap) l p2 b2 30 sgnK.z (sgnV ep zb32 zb32 zb32 nilV) w4) := HG.out.call hs hon
  clear HG
  have HG := HGn
  clear HGn
  clear hs hon hm hlen
  have HGn : Hid (Rf w gx (.slice ad m cap) l p2 b2 30 sgnK.z (sgnV ep x zb32 zb32 nilV) (w4.setCells gx 1 (cb x))) := HG.out.at (At.setCells _ _ _ (At.refl _ _)) (sgnV_x HG.out.thg len0 HDL.out)
  have HT : Hid (w4.there gx 1 (cb x).toArray.size) := HG.out.thg.there 1 _ (by rw [List.size_toArray, cb_len, HDL.out, sgnV_total len0 len0 len0]; omega)
  have HIZ : Hid ((Tryd.prog.info? 23).map (·.size) = some (cb x).toArray.size) := by show _ = _; rw [List.size_toArray, cb_len, HDL.out]; exact Tryd.infodig
  clear HG 
  have HG := HGn
  clear HGn 
  go_wp2_with (refine wpList_store_mid rfl 23 _ _ rfl gx 1 (cb x).toArray rfl rfl HT.out HIZ.out (all_oneCell_toArray (cb_one x)) ?_)
  clear HT HIZ
  change Calls _ _ _ (w4.setCells gx 1 (cb x)) _
  generalize w4.setCells gx 1 (cb x) = w5 at *
  have HX := HDL
  clear HDL
  refine (indigest_n _ _ l p2 b2 w5 HG.out.st.inp HL.out).mono ?_
  rintro e w6 ⟨y, p3, b3, rfl, hlen, hs, hon, hm⟩
  have HM3 : Hid (Mg (cut 32 (l.drop p2)) b2 b3 y l p3) := hm
  have HDL : Hid (y.length = 32) := hlen
  have HGn : Hid (Rf w gx (.slice ad m cap) l p3 b3 30 sgnK.z (sgnV ep x zb32 zb32 nilV) w6) := HG.out.call hs hon
  clear HG
  have HG := HGn
  clear HGn
  clear hs hon hm hlen
  have HGn : Hid (Rf w gx (.slice ad m cap) l p3 b3 30 sgnK.z (sgnV ep x y zb32 nilV) (w6.setCells gx 33 (cb y))) := HG.out.at (At.setCells _ _ _ (At.refl _ _)) (sgnV_y HG.out.thg HX.out len0 HDL.out)
  have HT : Hid (w6.there gx 33 (cb y).toArray.size) := HG.out.thg.there 33 _ (by rw [List.size_toArray, cb_len, HDL.out, sgnV_total HX.out len0 len0]; omega)
  have HIZ : Hid ((Tryd.prog.info? 23).map (·.size) = some (cb y).toArray.size) := by show _ = _; rw [List.size_toArray, cb_len, HDL.out]; exact Tryd.infodig
  clear HG 
  have HG := HGn
  clear HGn 
  go_wp2_with (refine wpList_store_mid rfl 23 _ _ rfl gx 33 (cb y).toArray rfl rfl HT.out HIZ.out (all_oneCell_toArray (cb_one y)) ?_)
  clear HT HIZ
  change Calls _ _ _ (w6.setCells gx 33 (cb y)) _
  generalize w6.setCells gx 33 (cb y) = w7 at *
  have HY := HDL
  clear HDL
  refine (indigest_n _ _ l p3 b3 w7 HG.out.st.inp HL.out).mono ?_
  rintro e w8 ⟨z, p4, b4, rfl, hlen, hs, hon, hm⟩
  have HM4 : Hid (Mg (cut 32 (l.drop p3)) b3 b4 z l p4) := hm
  have HDL : Hid (z.length = 32) := hlen
  have HGn : Hid (Rf w gx (.slice ad m cap) l p4 b4 30 sgnK.z (sgnV ep x y zb32 nilV) w8) := HG.out.call hs hon
  clear HG
  have HG := HGn
  clear HGn
  clear hs hon hm hlen
  have HGn : Hid (Rf w gx (.slice ad m cap) l p4 b4 30 sgnK.z (sgnV ep x y z nilV) (w8.setCells gx 65 (cb z))) := HG.out.at (At.setCells _ _ _ (At.refl _ _)) (sgnV_z HG.out.thg HX.out HY.out len0 HDL.out)
  have HT : Hid (w8.there gx 65 (cb z).toArray.size) := HG.out.thg.there 65 _ (by rw [List.size_toArray, cb_len, HDL.out, sgnV_total HX.out HY.out len0]; omega)
  have HIZ : Hid ((Tryd.prog.info? 23).map (·.size) = some (cb z).toArray.size) := by show _ = _; rw [List.size_toArray, cb_len, HDL.out]; exact Tryd.infodig
  clear HG 
  have HG := HGn
  clear HGn 
  go_wp2_with (refine wpList_store_mid rfl 23 _ _ rfl gx 65 (cb z).toArray rfl rfl HT.out HIZ.out (all_oneCell_toArray (cb_one z)) ?_)
  clear HT HIZ
  change Calls _ _ _ (w8.setCells gx 65 (cb z)) _
  generalize w8.setCells gx 65 (cb z) = w9 at *
  have HZ := HDL
  clear HDL
  refine (intext_m _ _ l p4 b4 w9 HG.out.st.inp HL.out).mono ?_
  rintro e w10 ⟨sg, p5, u, b5, rfl, ho, hs, hon, hm⟩
  have HM5 : Hid (Mg (readText (l.drop p4)) b4 b5 sg l p5) := hm
  have HGn : Hid (Rf w gx (.slice ad m cap) l p5 b5 30 sgnK.z (sgnV ep x y z nilV) w10) := HG.out.call hs hon
  have HO : Hid (OwnB w10 (gx + 1) u sg) := ho.mono HG.out.thg.lt
  obtain ⟨ak, ck, hu, _, _, _⟩ := ho.reads
  obtain ⟨n, HNn⟩ : ∃ x, Hid (x = sg.length) := ⟨_, rfl⟩
  rw [← HNn.out] at hu
  subst hu
  clear HG
  have HG := HGn
  clear HGn
  have cq : w10.cell? ⟨gx, 97, none⟩ = some (.slice none 0 0) := sgnV_last HG.out.thg HX.out HY.out HZ.out
  have fq : w10.frozen? ⟨gx, 97, none⟩ = false := HG.out.thg.frozen 97
  have HGn : Hid (Rf w gx (.slice ad m cap) l p5 b5 30 sgnK.z (sgnV ep x y z (.slice ak n ck)) (w10.setCell ⟨gx, 97, none⟩ (.slice ak n ck))) := HG.out.at ((At.refl _ _).setCell _ _) (sgnV_sig HG.out.thg HX.out HY.out HZ.out)
  have HOn : Hid (OwnB (w10.setCell ⟨gx, 97, none⟩ (.slice ak n ck)) (gx + 1) (.slice ak n ck) sg) := HO.out.at1 ((At.refl _ _).setCell _ _) (Nat.lt_succ_self _)
  clear HG HO ho hs hon hm
  have HG := HGn
  have HO := HOn
  clear HGn HOn
  go_wp2_with fail
  clear cq fq
  generalize w10.setCell ⟨gx, 97, none⟩ (.slice ak n ck) = w11 at *
  have HWH := sgn_mg HM1.out HM2.out HM3.out HM4.out HM5.out HG.out.st.inp.le
  have HEP : Hid (b5 = false → ep < 18446744073709551616) := fun h => by
    have hh := mg_good (HM1.out.then (HM2.out.then (HM3.out.then (HM4.out.then HM5.out))) : Mg (signedR (l.drop 0)) false b5 (ep, x, y, z, sg) l p5) h
    rw [List.drop_zero] at hh
    exact ((codes_signed _ _ _).1 hh).1.1
  clear HM1 HM2 HM3 HM4 HM5
  refine (indone_any _ _ l p5 b5 w11 HG.out.st.inp).mono ?_
  rintro e wd ⟨rfl, q, rfl⟩
  have HGn : Hid (Rf w gx (.slice ad m cap) l p5 b5 30 sgnK.z (sgnV ep x y z (.slice ak n ck)) (w11.drewN q)) := HG.out.drewN q
  have HOn : Hid (OwnB (w11.drewN q) (gx + 1) (.slice ak n ck) sg) := HO.out.keep fun _ _ _ => rfl
  clear HG HO
  have HG := HGn
  have HO := HOn
  clear HGn HOn
  have HB3 : Hid ((!b5 && decide (p5 = l.length)) = true → b5 = false) := fun h => by cases b5 with | true => simp at h | false => rfl
  generalize w11.drewN q = wz at *
  obtain ⟨dn, HDN⟩ : ∃ x, Hid (x = (!b5 && decide (p5 = l.length))) := ⟨_, rfl⟩
  rw [← HDN.out] at HWH HB3 ⊢
  replace HWH : Hid _ := HWH
  clear HDN
  cases dn with
  | false =>
    have HRES : Hid (Blk wz w.heap.size sgnK.z 30) := HG.out.st.res
    obtain ⟨zs, HZS⟩ : ∃ x, Hid (x = sgnK.z) := ⟨_, rfl⟩
    have HI : Hid ((Tryd.prog.info? 30).map (·.size) = some zs.length) := by show _ = _; rw [HZS.out]; exact sgnK_ok.info
    have H1 : Hid (zs.toArray.all (·.oneCell') = true) := by show _ = _; rw [HZS.out]; exact all_oneCell_toArray sgnK_ok.zone
    have HLN : Hid (zs.length = sgnK.z.length) := by show _ = _; rw [HZS.out]
    have HNO : Hid (RdRes sgnK w (whole (signedR l)) (.returned (.tuple #[.agg zs.toArray, .int .i64 3])) (wz.setCells w.heap.size 0 zs)) := by rw [HZS.out]; exact rf_no (K := sgnK) HG.out (by have h := HWH.out; simpa using h)
    have hB6 : Hid (Blk (wz.setCells w.heap.size 0 zs) w.heap.size zs 30) := HRES.out.whole zs HLN.out
    clear HG
    go_wp2_with (first
      | (with_reducible refine wpSeq_buildK buildZsgnK ?_ ?_ HZS.out ?_
         · rfl
         · rfl
         skip)
      | (with_reducible refine wpList_store_mid ?_ 30 (.tmp 2) (.tmp 32) ?_ w.heap.size 0 zs.toArray ?_ ?_ (HRES.out.there 0 _ (by rw [List.size_toArray, HLN.out]; omega)) (by rw [List.size_toArray]; exact HI.out) H1.out ?_
         · rfl
         · rfl
         · rfl
         · rfl))
    exact bodyPost_ret (v := .tuple #[.agg zs.toArray, .int .i64 3]) (results_row_tmp5 (by rfl) _ _ _ w.heap.size 30 zs _ (.int .i64 3) rfl rfl hB6.out Tryd.underlying30 rfl HI.out) rfl HNO.out
  | true =>
    have HEP2 : Hid (ep < 18446744073709551616) := HEP.out (HB3.out rfl)
    have hw2 : whole (signedR l) = some (ep, x, y, z, sg) := by have h := HWH.out; simpa using h
    clear HB3 HEP HWH
    obtain ⟨cs, HCS⟩ : ∃ cs, Hid (cs = (sgnV ep x y z (.slice ak n ck))) := ⟨_, rfl⟩
    have hG : sgnK.G wz (w.heap.size + 2) (ep, x, y, z, sg) cs := by rw [HCS.out]; exact ⟨_, rfl, HO.out.mono (by have := HG.out.lt; omega), HX.out, HY.out, HZ.out, HEP2.out⟩
    rw [← HCS.out] at HG
    have HRES : Hid (Blk wz w.heap.size sgnK.z 30) := HG.out.st.res
    have HTH : Hid (Blk wz gx cs 30) := HG.out.thg
    have HI : Hid ((Tryd.prog.info? 30).map (·.size) = some cs.length) := by have := sgnK_ok.size hG; rw [List.size_toArray] at this; exact this
    have H1 : Hid (cs.toArray.all (·.oneCell') = true) := all_oneCell_toArray (sgnK_ok.one hG)
    have HLN : Hid (cs.length = sgnK.z.length) := sgnK_ok.len hG
    have HYS : Hid (RdRes sgnK w (whole (signedR l)) (.returned (.tuple #[.agg cs.toArray, .int .i64 0])) (wz.setCells w.heap.size 0 cs)) := rf_yes sgnK_ok HG.out hw2 hG
    have hB6 : Hid (Blk (wz.setCells w.heap.size 0 cs) w.heap.size cs 30) := HRES.out.whole cs HLN.out
    clear HG hG
    go_wp2_with (first
      | (with_reducible refine wpSeq_loadK 30 (.tmp 5) ?_ ?_ gx ?_ cs _ HTH.out Tryd.underlying30 ?_ HI.out ?_
         · rfl
         · rfl
         · rfl
         · rfl)
      | (with_reducible refine wpList_store_mid ?_ 30 (.tmp 2) (.tmp 33) ?_ w.heap.size 0 cs.toArray ?_ ?_ (HRES.out.there 0 _ (by rw [List.size_toArray, HLN.out]; omega)) (by rw [List.size_toArray]; exact HI.out) H1.out ?_
         · rfl
         · rfl
         · rfl
         · rfl))
    exact bodyPost_ret (v := .tuple #[.agg cs.toArray, .int .i64 0]) (results_row_tmp5 (by rfl) _ _ _ w.heap.size 30 cs _ (.int .i64 0) rfl rfl hB6.out Tryd.underlying30 rfl HI.out) rfl HYS.out
end Go.Proofs.YtableajopaappaaDoor
/- The walk of the reference's Signed. -/
namespace Go.Proofs.YtableajopaappaaDoor
open Go.RowKit
set_option maxRecDepth 100000
end Go.Proofs.YtableajopaappaaDoor
/- Plain: evidence that two roots of one epoch were signed; what follows (layer 12). -/
namespace Go.Proofs.YtableajopaappaaDoor
open Go.RowKit
set_option maxRecDepth 100000
/-- evidence: the roots ahead, and two behind them -/
abbrev EvT : Type := List SgT × SgT × SgT
/-- where a chain begins -/
def stR (pin : List (BitVec 8)) : HdT := (0, zb32, pin)
/-- what holds of evidence -/
def holdsF (pin : List (BitVec 8)) (e : EvT) : Prop := (walkR (stR pin) e.1).2.2 = 0 ∧ (followR (walkR (stR pin) e.1).1 e.2.1).2 = 0 ∧ (followR (walkR (stR pin) e.1).1 e.2.2).2 = 0 ∧ e.2.1.1 ≠ e.2.2.1
/-- 12.1 -/
def checkF (pin : List (BitVec 8)) (e : EvT) : Int := if (walkR (stR pin) e.1).2.2 = 0 ∧ (followR (walkR (stR pin) e.1).1 e.2.1).2 = 0 ∧ (followR (walkR (stR pin) e.1).1 e.2.2).2 = 0 ∧ e.2.1.1 ≠ e.2.2.1 then 0 else 15
theorem checkF_bad {pin : List (BitVec 8)} {e : EvT} (h : ¬ holdsF pin e) : checkF pin e = 15 := by unfold holdsF at h; unfold checkF; rw [if_neg h]
theorem checkF_same (pin : List (BitVec 8)) (t : List SgT) (a : SgT) : checkF pin (t, a, a) = 15 := checkF_bad fun h => h.2.2.2 rfl
/-- 12.4: the first place at which both have unlike roots -/
def firstU : List SgT → List SgT → Option Nat
  | s :: l, t :: m => if s.1 = t.1 then (firstU l m).map (· + 1) else some 0
  | _, _ => none
theorem firstU_some : ∀ (l m : List SgT) (i : Nat), firstU l m = some i → i < l.length ∧ i < m.length ∧ (l.getD i zeroS).1 ≠ (m.getD i zeroS).1 ∧ (l.take i).map (·.1) = (m.take i).map (·.1)
  | [], m, i, h => by simp [firstU] at h
  | s :: l, [], i, h => by simp [firstU] at h
  | s :: l, t :: m, i, h => by
    rw [firstU] at h
    split at h
    · rename_i e
      cases hf : firstU l m with
      | none => rw [hf] at h; cases h
      | some j =>
        rw [hf] at h
        simp only [Option.map_some, Option.some.injEq] at h
        subst h
        obtain ⟨h1, h2, h3, h4⟩ := firstU_some l m j hf
        exact ⟨by simpa using h1, by simpa using h2, by simpa using h3, by simp [h4, e]⟩
    · rename_i e
      simp only [Option.some.injEq] at h
      subst h
      exact ⟨by simp, by simp, by simpa using e, rfl⟩
end Go.Proofs.YtableajopaappaaDoor
/- Evidence in memory (layer 12). -/
namespace Go.Proofs.YtableajopaappaaDoor
open Go.RowKit
set_option maxRecDepth 100000
theorem eq_rt (s t : SgT) (os : okS s) (ot : okS t) (w : World) : (Op.equalIn 10000 27 (.agg (rtC s).toArray) (.agg (rtC t).toArray)).run Tryd.prog w = .ok (decide (s.1 = t.1)) w := by
  have h := eq_root s.1.1 t.1.1 s.1.2.1 s.1.2.2.1 s.1.2.2.2 t.1.2.1 t.1.2.2.1 t.1.2.2.2 os.1 os.2.1 os.2.2.1 ot.1 ot.2.1 ot.2.2.1 w
  have e : decide (s.1 = t.1) = decide (s.1.1 = t.1.1 ∧ s.1.2.1 = t.1.2.1 ∧ s.1.2.2.1 = t.1.2.2.1 ∧ s.1.2.2.2 = t.1.2.2.2) := by
    obtain ⟨⟨n, x, y, z⟩, g⟩ := s
    obtain ⟨⟨m, a, b, c⟩, g'⟩ := t
    simp
  rw [e]
  exact h
/-- the cells of evidence -/
def evC (e : EvT) (vt va vb : Value) : List Value := vt :: (sgC e.2.1 va ++ sgC e.2.2 vb)
def zeroE : EvT := ([], zeroS, zeroS)
theorem len_evC {e : EvT} (oa : okS e.2.1) (ob : okS e.2.2) (vt va vb : Value) : (evC e vt va vb).length = 197 := by rw [evC, List.length_cons, List.length_append, len_sgC oa, len_sgC ob]
theorem info_evid : (Tryd.prog.info? 32).map (·.size) = some 197 := by kernel_rfl
theorem info_evC {e : EvT} (oa : okS e.2.1) (ob : okS e.2.2) (vt va vb : Value) : (Tryd.prog.info? 32).map (·.size) = some (evC e vt va vb).length := by rw [len_evC oa ob]; exact info_evid
/-- three values read as evidence -/
structure EvIs (w : World) (e : EvT) (vt va vb : Value) : Prop where
  tr : ReadsS w vt e.1
  a : Reads w va e.2.1.2
  b : Reads w vb e.2.2.2
  oa : okS e.2.1
  ob : okS e.2.2
theorem EvIs.below {w w' : World} {e : EvT} {vt va vb : Value} (h : EvIs w e vt va vb) (hb : Below w.heap.size w w') : EvIs w' e vt va vb := ⟨h.tr.below hb, h.a.below hb, h.b.below hb, h.oa, h.ob⟩
theorem EvIs.zero (w : World) : EvIs w zeroE (.slice none 0 0) (.slice none 0 0) (.slice none 0 0) := ⟨ReadsS.nil w, reads_nil10 w, reads_nil10 w, okS_zero, okS_zero⟩
theorem ReadsS.form {w : World} {v : Value} {l : List SgT} (h : ReadsS w v l) : ∃ ad c, v = .slice ad l.length c := by
  obtain ⟨⟨ad, cap, hv, _⟩, _⟩ := h
  exact ⟨ad, cap, hv⟩
/-- evidence in a block, field by field -/
structure EvAt (w : World) (b off : Nat) (e : EvT) (vt va vb : Value) : Prop where
  all : w.rangeAt b off (evC e vt va vb)
  oa : okS e.2.1
  ob : okS e.2.2
theorem Blk.evAt {w : World} {g : Nat} {e : EvT} {vt va vb : Value} (hb : Blk w g (evC e vt va vb) 32) (oa : okS e.2.1) (ob : okS e.2.2) : EvAt w g 0 e vt va vb := ⟨hb.range, oa, ob⟩
theorem EvAt.tr {w : World} {b off : Nat} {e : EvT} {vt va vb : Value} (h : EvAt w b off e vt va vb) : w.cell? ⟨b, off, none⟩ = some vt := h.all 0 _ rfl
theorem EvAt.a {w : World} {b off : Nat} {e : EvT} {vt va vb : Value} (h : EvAt w b off e vt va vb) : SgAt w b (off + 1) e.2.1 va := ⟨range_part (A := [vt]) (B := sgC e.2.1 va) (C := sgC e.2.2 vb) h.all rfl, h.oa⟩
theorem EvAt.b {w : World} {b off : Nat} {e : EvT} {vt va vb : Value} (h : EvAt w b off e vt va vb) : SgAt w b (off + 99) e.2.2 vb :=
  ⟨range_end (A := vt :: sgC e.2.1 va) (B := sgC e.2.2 vb) (by rw [List.cons_append]; exact h.all) (by rw [List.length_cons, len_sgC h.oa]), h.ob⟩
theorem evC_one (e : EvT) {vt va vb : Value} (ht : vt.oneCell' = true) (ha : va.oneCell' = true) (hb : vb.oneCell' = true) : ∀ v ∈ evC e vt va vb, v.oneCell' = true := by
  intro v hv
  rw [evC, List.mem_cons, List.mem_append, sgC_eq, sgC_eq, List.mem_append, List.mem_append, List.mem_singleton, List.mem_singleton] at hv
  rcases hv with rfl | (hv | rfl) | (hv | rfl)
  · exact ht
  · exact rtC_one _ v hv
  · exact ha
  · exact rtC_one _ v hv
  · exact hb
def evPl (i : Nat) : Option (Nat × Nat) := (#[(0, 1), (1, 98), (99, 98)] : Array (Nat × Nat))[i]?
theorem built_evid (parts : List (Nat × Value)) : Tryd.prog.built 32 parts = Instr.fill evPl (evC zeroE (.slice none 0 0) (.slice none 0 0) (.slice none 0 0)).toArray parts := by kernel_rfl
theorem fill_ev {e : EvT} (oa : okS e.2.1) (ob : okS e.2.2) {va vb : Value} {ad : Option Addr} {n c : Nat} : Instr.fill evPl (evC zeroE (.slice none 0 0) (.slice none 0 0) (.slice none 0 0)).toArray [(0, .slice ad n c), (1, .agg (sgC e.2.1 va).toArray), (2, .agg (sgC e.2.2 vb).toArray)] = some (evC e (.slice ad n c) va vb).toArray := by
  have e0 : evC zeroE (.slice none 0 0) (.slice none 0 0) (.slice none 0 0) = [] ++ ([Value.slice none 0 0] ++ (sgC zeroS (.slice none 0 0) ++ sgC zeroS (.slice none 0 0))) := rfl
  rw [e0, fill_seg (vs := [.slice ad n c]) (size := 1) (by rfl) rfl rfl rfl rfl]
  have e1 : [] ++ ([Value.slice ad n c] ++ (sgC zeroS (.slice none 0 0) ++ sgC zeroS (.slice none 0 0))) = [Value.slice ad n c] ++ (sgC zeroS (.slice none 0 0) ++ sgC zeroS (.slice none 0 0)) := rfl
  rw [e1, fill_seg (vs := sgC e.2.1 va) (off := 1) (size := 98) (by rfl) rfl (len_sgC okS_zero _) rfl (len_sgC oa _)]
  have e2 : [Value.slice ad n c] ++ (sgC e.2.1 va ++ sgC zeroS (.slice none 0 0)) = (Value.slice ad n c :: sgC e.2.1 va) ++ (sgC zeroS (.slice none 0 0) ++ []) := by simp
  rw [e2, fill_seg (vs := sgC e.2.2 vb) (off := 99) (size := 98) (by rfl) (by rw [List.length_cons, len_sgC oa]) (len_sgC okS_zero _) rfl (len_sgC ob _)]
  rw [Instr.fill, evC]
  simp
theorem alloc_ev (f : Operand → Value) (o : Oper) (ho : o.op = .alloc 32) (w : World) : (execOp f o).run Tryd.prog w = .ok (.value (.pointer (some ⟨w.heap.size, 0, none⟩))) (w.alloc (.cells (evC zeroE (.slice none 0 0) (.slice none 0 0) (.slice none 0 0)).toArray 32)) := by
  unfold execOp
  rw [ho]
  kernel_rfl
theorem wpSeq_allocE {ops : Array Oper} {Q : Exit → Act → World → Prop} {rest : List Oper} {o : Oper} {a : Act} {w : World} (ho : o.op = .alloc 32) (hw : Region.wanted o (yielded ops a.tmps) = true)
    (h : ∀ g w', NewR (evC zeroE (.slice none 0 0) (.slice none 0 0) (.slice none 0 0)) 32 w g w' → wpList Tryd.prog ops Q rest (a.put o.dst (.pointer (some ⟨g, 0, none⟩))) w') : wpList Tryd.prog ops Q (o :: rest) a w :=
  wpSeq_val _ _ hw (alloc_ev _ _ ho _) (h _ _ (NewR.of _ _ w))
end Go.Proofs.YtableajopaappaaDoor
/- Plain: evidence as bytes, written and read (layer 12). -/
namespace Go.Proofs.YtableajopaappaaDoor
open Go.RowKit
set_option maxRecDepth 100000
def flS (s : SgT) : Nat × Bs × Bs × Bs × Bs := (s.1.1, s.1.2.1, s.1.2.2.1, s.1.2.2.2, s.2)
def unS (p : Nat × Bs × Bs × Bs × Bs) : SgT := ((p.1, p.2.1, p.2.2.1, p.2.2.2.1), p.2.2.2.2)
/-- a signed root's bytes -/
def encS (s : SgT) : Bs := encSigned (flS s)
/-- all roots of evidence, in order -/
def allE (e : EvT) : List SgT := e.1 ++ [e.2.1, e.2.2]
/-- 12.2 -/
def bytesF (e : EvT) : Bs := encList encText ((allE e).map encS)
/-- the signed root that bytes are -/
def readS (b : Bs) : Option SgT := (whole (signedR b)).map unS
def okT (s : SgT) : Prop := okS s ∧ s.2.length ≤ 1048576
theorem readS_iff (b : Bs) (s : SgT) : readS b = some s ↔ okT s ∧ b = encS s := by
  unfold readS
  constructor
  · intro h
    cases hw : whole (signedR b) with
    | none => rw [hw] at h; cases h
    | some p =>
      rw [hw] at h
      simp only [Option.map_some, Option.some.injEq] at h
      subst h
      have hs : signedR b = some (p, []) := by
        unfold whole at hw
        split at hw
        · rename_i a ha
          simp only [Option.some.injEq] at hw
          rw [← hw]
          exact ha
        · cases hw
      obtain ⟨⟨h1, h2, h3, h4, h5⟩, hb⟩ := (codes_signed _ _ _).1 hs
      exact ⟨⟨⟨h2, h3, h4, h1⟩, h5⟩, by rw [hb, List.append_nil]; rfl⟩
  · rintro ⟨⟨⟨h2, h3, h4, h1⟩, h5⟩, rfl⟩
    have hs : signedR (encS s) = some (flS s, []) := (codes_signed _ _ _).2 ⟨⟨h1, h2, h3, h4, h5⟩, by rw [List.append_nil]; rfl⟩
    rw [hs]
    rfl
/-- all of them -/
def readSs : List Bs → Option (List SgT)
  | [] => some []
  | t :: ts => match readS t with
    | none => none
    | some s => match readSs ts with
      | none => none
      | some l => some (s :: l)
theorem readSs_iff : ∀ (ts : List Bs) (l : List SgT), readSs ts = some l ↔ (∀ s ∈ l, okT s) ∧ ts = l.map encS
  | [], l => by
    rw [readSs]
    constructor
    · intro h; cases h; exact ⟨(fun _ h => by cases h), rfl⟩
    · rintro ⟨_, h⟩
      cases l with
      | nil => rfl
      | cons a l => cases h
  | t :: ts, l => by
    rw [readSs]
    constructor
    · intro h
      cases h1 : readS t with
      | none => rw [h1] at h; cases h
      | some s =>
        rw [h1] at h
        simp only at h
        cases h2 : readSs ts with
        | none => rw [h2] at h; cases h
        | some m =>
          rw [h2] at h
          simp only [Option.some.injEq] at h
          subst h
          obtain ⟨o1, rfl⟩ := (readS_iff _ _).1 h1
          obtain ⟨o2, rfl⟩ := (readSs_iff _ _).1 h2
          refine ⟨?_, rfl⟩
          intro x hx
          rcases List.mem_cons.1 hx with rfl | hx
          · exact o1
          · exact o2 x hx
    · rintro ⟨h1, h2⟩
      cases l with
      | nil => cases h2
      | cons s m =>
        simp only [List.map_cons, List.cons.injEq] at h2
        rw [(readS_iff t s).2 ⟨h1 s (by simp), h2.1⟩]
        simp only
        rw [(readSs_iff ts m).2 ⟨fun x hx => h1 x (by simp [hx]), h2.2⟩]
theorem readSs_len {ts : List Bs} {l : List SgT} (h : readSs ts = some l) : l.length = ts.length := by
  obtain ⟨_, rfl⟩ := (readSs_iff _ _).1 h
  simp
/-- one text more -/
theorem readSs_some {ts : List Bs} {l : List SgT} {t : Bs} {s : SgT} (h1 : readSs ts = some l) (h2 : readS t = some s) : readSs (ts ++ [t]) = some (l ++ [s]) := by
  obtain ⟨o1, rfl⟩ := (readSs_iff _ _).1 h1
  obtain ⟨o2, rfl⟩ := (readS_iff _ _).1 h2
  refine (readSs_iff _ _).2 ⟨?_, by simp⟩
  intro x hx
  rcases List.mem_append.1 hx with hx | hx
  · exact o1 x hx
  · rw [List.mem_singleton.1 hx]; exact o2
/-- a text that is none -/
theorem readSs_none {ts : List Bs} {t : Bs} (hm : t ∈ ts) (h : readS t = none) : readSs ts = none := by
  cases hl : readSs ts with
  | none => rfl
  | some l =>
    obtain ⟨o, rfl⟩ := (readSs_iff _ _).1 hl
    obtain ⟨s, hs, rfl⟩ := List.mem_map.1 hm
    rw [(readS_iff _ s).2 ⟨o s hs, rfl⟩] at h
    cases h
/-- roots in order, as evidence -/
def evL (l : List SgT) : EvT := (l.take (l.length - 2), l.getD (l.length - 2) zeroS, l.getD (l.length - 1) zeroS)
theorem evL_allE (e : EvT) : evL (allE e) = e := by
  obtain ⟨t, a, b⟩ := e
  have hl : (allE (t, a, b)).length = t.length + 2 := by simp [allE]
  show ((t ++ [a, b]).take _, (t ++ [a, b]).getD _ zeroS, (t ++ [a, b]).getD _ zeroS) = (t, a, b)
  rw [hl]
  refine Prod.ext ?_ (Prod.ext ?_ ?_)
  · show (t ++ [a, b]).take (t.length + 2 - 2) = t
    rw [Nat.add_sub_cancel, List.take_left]
  · show (t ++ [a, b]).getD (t.length + 2 - 2) zeroS = a
    rw [Nat.add_sub_cancel, List.getD_eq_getElem?_getD, List.getElem?_append_right (Nat.le_refl _), Nat.sub_self]
    rfl
  · show (t ++ [a, b]).getD (t.length + 2 - 1) zeroS = b
    rw [List.getD_eq_getElem?_getD, List.getElem?_append_right (by omega), show t.length + 2 - 1 - t.length = 1 by omega]
    rfl
theorem allE_evL {l : List SgT} (h : 2 ≤ l.length) : allE (evL l) = l := by
  have e : l = l.take (l.length - 2) ++ (l.getD (l.length - 2) zeroS :: l.drop (l.length - 2 + 1)) := by
    have hg : l.getD (l.length - 2) zeroS = l[l.length - 2]'(by omega) := by rw [List.getD_eq_getElem?_getD, List.getElem?_eq_getElem (by omega)]; rfl
    rw [hg, List.getElem_cons_drop, List.take_append_drop]
  have e2 : l.drop (l.length - 2 + 1) = l.getD (l.length - 1) zeroS :: l.drop (l.length - 1 + 1) := by
    have hg : l.getD (l.length - 1) zeroS = l[l.length - 1]'(by omega) := by rw [List.getD_eq_getElem?_getD, List.getElem?_eq_getElem (by omega)]; rfl
    rw [hg, List.getElem_cons_drop]
    congr 1
    omega
  have e3 : l.drop (l.length - 1 + 1) = [] := List.drop_eq_nil_of_le (by omega)
  rw [e3] at e2
  rw [e2] at e
  exact e.symm
/-- 12.3 -/
def readF (b : Bs) : Option EvT :=
  match readList readText b with
  | none => none
  | some ts => if 2 ≤ ts.length ∧ ts.length ≤ 65 then (readSs ts).map evL else none
def okB (e : EvT) : Prop := e.1.length ≤ 63 ∧ ∀ s ∈ allE e, okT s ∧ (encS s).length ≤ 1048576
theorem len_allE (e : EvT) : (allE e).length = e.1.length + 2 := by simp [allE]
theorem readF_iff (b : Bs) (e : EvT) : readF b = some e ↔ okB e ∧ b = bytesF e := by
  unfold readF
  constructor
  · intro h
    cases h1 : readList readText b with
    | none => rw [h1] at h; cases h
    | some ts =>
      rw [h1] at h
      simp only at h
      split at h
      · rename_i h2
        cases h3 : readSs ts with
        | none => rw [h3] at h; cases h
        | some l =>
          rw [h3] at h
          simp only [Option.map_some, Option.some.injEq] at h
          subst h
          obtain ⟨_, k2, rfl⟩ := (readList_iff readText_ok b ts).1 h1
          obtain ⟨o1, rfl⟩ := (readSs_iff _ _).1 h3
          rw [List.length_map] at h2
          refine ⟨⟨?_, ?_⟩, ?_⟩
          · show (l.take (l.length - 2)).length ≤ 63
            rw [List.length_take]
            omega
          · rw [allE_evL h2.1]
            exact fun s hs => ⟨o1 s hs, k2 _ (List.mem_map_of_mem hs)⟩
          · rw [bytesF, allE_evL h2.1]
      · cases h
  · rintro ⟨⟨h1, h2⟩, rfl⟩
    have hl : ((allE e).map encS).length = e.1.length + 2 := by rw [List.length_map, len_allE]
    rw [bytesF, (readList_iff readText_ok _ ((allE e).map encS)).2 ⟨by omega, fun t ht => by obtain ⟨s, hs, rfl⟩ := List.mem_map.1 ht; exact (h2 s hs).2, rfl⟩]
    simp only
    rw [if_pos ⟨by omega, by omega⟩, (readSs_iff _ (allE e)).2 ⟨fun s hs => (h2 s hs).1, rfl⟩]
    simp only [Option.map_some, evL_allE]
/-- 12.3: taken or not -/
def acceptF (pin : Bs) (b : Bs) : Int :=
  match readF b with
  | none => 3
  | some e => checkF pin e
/-- 12.4 -/
def findF (pin : Bs) (l m : List SgT) : Option EvT :=
  match firstU l m with
  | none => none
  | some i => if checkF pin (l.take i, l.getD i zeroS, m.getD i zeroS) = 0 then some (l.take i, l.getD i zeroS, m.getD i zeroS) else none
theorem encNum_le : ∀ (k n : Nat), n < 128 ^ (k + 1) → (encNum n).length ≤ k + 1
  | 0, n, h => by
    rw [encNum_lt (by simpa using h)]
    simp
  | k + 1, n, h => by
    by_cases h1 : n < 128
    · rw [encNum_lt h1]; simp
    · rw [encNum_ge h1, List.length_cons]
      have := encNum_le k (n / 128) (by rw [Nat.div_lt_iff_lt_mul (by decide)]; rw [Nat.pow_succ] at h; exact h)
      omega
theorem encNum_ten {n : Nat} (h : n < 18446744073709551616) : (encNum n).length ≤ 10 := encNum_le 9 n (Nat.lt_of_lt_of_le h (by decide))
theorem len_encS {s : SgT} (os : okS s) (hl : s.2.length < 18446744073709551616) : (encS s).length ≤ s.2.length + 116 := by
  have h1 := encNum_ten os.2.2.2
  have h2 := encNum_ten hl
  have e : encS s = encNum s.1.1 ++ (s.1.2.1 ++ (s.1.2.2.1 ++ (s.1.2.2.2 ++ (encNum s.2.length ++ s.2)))) := rfl
  rw [e]
  simp only [List.length_append, os.1, os.2.1, os.2.2.1]
  omega
/-- 12.5: what is not too long is read as it was written -/
theorem okB_light {e : EvT} (h1 : e.1.length ≤ 63) (h2 : ∀ s ∈ allE e, okS s ∧ s.2.length ≤ 524288) : okB e :=
  ⟨h1, fun s hs => ⟨⟨(h2 s hs).1, by have := (h2 s hs).2; omega⟩, by have := len_encS (h2 s hs).1 (by have := (h2 s hs).2; omega); have := (h2 s hs).2; omega⟩⟩
theorem read_back {e : EvT} (h : okB e) : readF (bytesF e) = some e := (readF_iff _ _).2 ⟨h, rfl⟩
theorem encAll_le {α : Type} (f : α → Bs) (B : Nat) : ∀ l : List α, (∀ a ∈ l, (f a).length ≤ B) → (encAll f l).length ≤ l.length * B
  | [], _ => by simp [encAll]
  | x :: l, h => by
    rw [encAll_cons, List.length_append, List.length_cons, Nat.succ_mul]
    have h1 := h x (by simp)
    have h2 := encAll_le f B l (fun a ha => h a (by simp [ha]))
    omega
/-- how long evidence's bytes may be -/
theorem bytesF_le {e : EvT} (h1 : e.1.length ≤ 64) (h2 : ∀ s ∈ allE e, okS s ∧ s.2.length ≤ 1048576) : (bytesF e).length ≤ 1000000000 := by
  have h3 : (encAll encText ((allE e).map encS)).length ≤ ((allE e).map encS).length * 1048702 := encAll_le encText 1048702 _ fun t ht => by
    obtain ⟨s, hs, rfl⟩ := List.mem_map.1 ht
    obtain ⟨o, l⟩ := h2 s hs
    have h4 := len_encS o (by omega)
    have h5 := encNum_ten (n := (encS s).length) (by omega)
    rw [encText, List.length_append]
    omega
  rw [List.length_map, len_allE] at h3
  have h6 := encNum_ten (n := e.1.length + 2) (by omega)
  rw [bytesF, encList, List.length_append, List.length_map, len_allE]
  have h7 : (e.1.length + 2) * 1048702 ≤ 66 * 1048702 := Nat.mul_le_mul_right _ (by omega)
  omega
end Go.Proofs.YtableajopaappaaDoor

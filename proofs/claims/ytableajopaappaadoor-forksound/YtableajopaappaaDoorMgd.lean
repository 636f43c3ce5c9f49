/- Texts that the proof leans on, one behind the other: The walks of codec.readList at texts, of what it hands to Read, and of codec.ReadTexts. The walks of codec.readList, ReadNums and ReadTexts. The walks of the reference's reader: Num, Count, Take, Text, Digest, Done. .. -/
import Derived.Test.YtableajopaappaaDoorMgc
import Derived.BigQuiet
import Derived.Deep.RegionHeld3
import Derived.Laws.ResultCell
import Derived.Great.BuildSlice
import Derived.Lib.SlBytesConst
import Derived.Deep.DeepCutAuto
import Derived.Test.YtableajopaappaaDoorMgb
/- The walks of codec.readList at texts, of what it hands to Read, and of codec.ReadTexts. -/
namespace Go.Proofs.YtableajopaappaaDoor
open Go.RowKit
set_option maxRecDepth 100000
/-- the variable at gl holds the list -/
def LsT (w : World) (gl B : Nat) (xs : List (List (BitVec 8))) : Prop := ∃ vl vs, Blk w gl [vl] 64 ∧ OwnV w B 28 vl vs ∧ GoodT w B vs xs
structure RlInvT (H gl : Nat) (vb : Value) (w1 : World) (n : Nat) (r : List (BitVec 8)) (k : Nat) (xs : List (List (BitVec 8))) (rest : List (BitVec 8)) (wr : World) : Prop where
  le : k ≤ n
  len : xs.length = k
  eq : readAll readText n r = (readAll readText (n - k) rest).map (fun p => (xs ++ p.1, p.2))
  rdr : ∃ v, Rd wr (H + 3) (H + 1) v rest ∧ v.ownBlock = vb.ownBlock
  row : LsT wr gl (H + 4) xs
  fr : Fr (H + 1) gl (H + 4) w1 wr
theorem RlInvT.next {H gl : Nat} {vb : Value} {w1 : World} {n : Nat} {r : List (BitVec 8)} {k : Nat} {xs : List (List (BitVec 8))} {rest : List (BitVec 8)} {wr w3 : World} {vl : Value} {vs : List Value} (hI : RlInvT H gl vb w1 n r k xs rest wr) (hlt : k < n) (hgl : gl < H) (hvb : ∀ k, vb.ownBlock = some k → k < H + 4)
    (hbl : Blk w3 gl [vl] 64) (hown : OwnV w3 (H + 4) 28 vl vs) (hgood : GoodT w3 (H + 4) vs xs) (hsz : H + 4 ≤ w3.heap.size) (hfr : Fr (H + 1) gl (H + 4) w1 w3) (w4 w6 : World) (v2 u vl2 : Value) (a : List (BitVec 8)) (rest2 : List (BitVec 8)) (hg : readText rest = some (a, rest2))
    (hrd4 : Rd w4 (H + 3) (H + 1) v2 rest2) (ho4 : Only (H + 1) w3 w4) (hob4 : v2.ownBlock = vb.ownBlock) (hu : OwnB w4 (H + 4) u a) (hown6 : OwnV w6 (H + 4) 28 vl2 (vs ++ [u])) (hgrow : (w4.alloc (.cells #[u] 28)).grownBy w6 vl.ownBlock) :
    RlInvT H gl vb w1 n r (k + 1) (xs ++ [a]) rest2 (w6.setCell ⟨gl, 0, none⟩ vl2) := by
  have hrow : ∀ k, vl.ownBlock = some k → H + 4 ≤ k := fun k hk => (hown.lt k hk).1
  have hs4 : H + 4 ≤ w4.heap.size := Nat.le_trans hsz ho4.size
  have b45 : Below (H + 4) w4 (w4.alloc (.cells #[u] 28)) := (below_alloc w4 _).mono hs4
  have b56 : Below (H + 4) (w4.alloc (.cells #[u] 28)) w6 := (Below.refl _ _).grown hgrow (Nat.le_trans hs4 b45.size) hrow
  have b46 := b45.trans b56
  have hbl4 : Blk w4 gl [vl] 64 := hbl.only ho4 (by omega)
  have hbl6 : Blk w6 gl [vl] 64 := hbl4.below b46 (by omega)
  obtain ⟨adl, cl, hvl, _⟩ := hown.slice
  have hrd6 : Rd w6 (H + 3) (H + 1) v2 rest2 := hrd4.others (B := H + 4) (by omega) (by omega) (fun _ k hk => hvb k (hob4 ▸ hk)) (Nat.le_refl _) b46
  refine ⟨by omega, by rw [List.length_append, hI.len]; rfl, ?_, ⟨v2, hrd6.setOther hbl6 ⟨adl, _, cl, hvl⟩ (by omega) (by omega) vl2, hob4⟩, ⟨vl2, vs ++ [u], hbl6.set 0 vl2, hown6.same (fun k hk => Below.heap_setCell _ _ _ _ (by have := (hown6.lt k hk).1; simp; omega)), ?_⟩, ((hfr.only ho4 hsz).below b46).setCell 0 vl2⟩
  · have he := hI.eq
    rw [show n - k = (n - (k + 1)) + 1 by omega] at he
    exact readAll_more readText (n - (k + 1)) rest rest2 a n xs r he hg
  · have hown4 : OwnV w4 (H + 4) 28 vl vs := hown.same (fun k hk => ho4.block k (by have := (hown.lt k hk).1; omega) (hown.lt k hk).2)
    have up : ∀ x t, OwnB w4 (H + 4) x t → OwnB (w6.setCell ⟨gl, 0, none⟩ vl2) (H + 4) x t := fun x t hx => by
      have hne := hx.apart (by decide) hown4
      refine hx.same (fun k hk => ?_)
      have h1 := hx.own k hk
      have h2 := hx.lt k hk
      rw [Below.heap_setCell _ _ _ _ (by simp; omega), hgrow.block k (by simp; omega) (hne k hk), Go.RowKit.Below.heap_alloc w4 _ k h2]
    refine ⟨by rw [List.length_append, List.length_append, hgood.1]; rfl, fun j x hj => ?_⟩
    by_cases hjl : j < vs.length
    · rw [List.getElem?_append_left hjl] at hj
      have h1 := hgood.2 j x hj
      have h2 : (xs ++ [a]).getD j [] = xs.getD j [] := by
        rw [List.getD_eq_getElem?_getD, List.getD_eq_getElem?_getD, List.getElem?_append_left (by rw [← hgood.1]; exact hjl)]
      rw [h2]
      exact up _ _ (h1.same (fun k hk => ho4.block k (by have := h1.own k hk; omega) (h1.lt k hk)))
    · rw [List.getElem?_append_right (by omega)] at hj
      have hj0 : j = vs.length := by
        have := (List.getElem?_eq_some_iff.1 hj).1
        simp at this
        omega
      subst hj0
      simp at hj
      subst hj
      have h2 : (xs ++ [a]).getD vs.length [] = a := by
        rw [List.getD_eq_getElem?_getD, hgood.1, List.getElem?_append_right (Nat.le_refl _), Nat.sub_self]
        rfl
      rw [h2]
      exact up _ _ hu
theorem RlInvT.threw {H gl : Nat} {vb : Value} {w1 : World} {n : Nat} {r l : List (BitVec 8)} {k : Nat} {xs : List (List (BitVec 8))} {rest : List (BitVec 8)} {wr w3 w4 : World} {e : Ending} (hI : RlInvT H gl vb w1 n r k xs rest wr) (hlt : k < n) (hgl : gl < H) (hsz1 : w1.heap.size = H + 4) (hm : readMany readText l = readAll readText n r)
    (hfr : Fr (H + 1) gl (H + 4) w1 w3) (hsz : H + 4 ≤ w3.heap.size) (hg : readText rest = none) (hT : Threw (H + 1) w3 e w4) :
    Does H (fun l2 w2 => ∃ ns, readMany readText l = some (ns, l2) ∧ LsT w2 gl (H + 4) ns ∧ Fr (H + 1) gl (H + 4) w1 w2) (fun w2 => readMany readText l = none ∧ Fr (H + 1) gl (H + 4) w1 w2) w1 (thrown (H + 1)) w4 := by
  have hf4 := hfr.only hT.onl hsz
  obtain ⟨v, hb, ad, m, c, hv⟩ := hT.bad
  refine ⟨hf4.size, fun k h1 h2 h3 => hf4.block k h2 h3 (by omega), Or.inr ⟨rfl, ⟨v, ad, m, c, hv, hb⟩, ?_, hf4⟩⟩
  rw [hm, hI.eq, show n - k = (n - (k + 1)) + 1 by omega, readAll, hg]
  rfl
set_option maxRecDepth 100000 in
set_option maxHeartbeats 2000000 in
theorem rdlT1_any (H gl gf : Nat) (vb : Value) (l : List (BitVec 8)) (w1 : World) (hsz : w1.heap.size = H + 4) (hgl : gl < H) (hgf : gf < H) (hne : gf ≠ gl) (hrd : Rd w1 (H + 3) (H + 1) vb l) (hL : Blk w1 gl [.slice none 0 0] 64) (hF : Blk w1 gf [.func (.func 57) #[] #[]] 88) :
    Calls Tryd.prog 80 #[.pointer (some ⟨H + 3, 0, none⟩), .pointer (some ⟨gl, 0, none⟩), .pointer (some ⟨gf, 0, none⟩)] w1 (Does H (fun l2 w2 => ∃ ns, readMany readText l = some (ns, l2) ∧ LsT w2 gl (H + 4) ns ∧ Fr (H + 1) gl (H + 4) w1 w2) (fun w2 => readMany readText l = none ∧ Fr (H + 1) gl (H + 4) w1 w2) w1) := by
  have HR : Hid (Rd w1 (H + 3) (H + 1) vb l) := hrd
  have HL : Hid (Blk w1 gl [.slice none 0 0] 64) := hL
  have HF : Hid (Blk w1 gf [.func (.func 57) #[] #[]] 88) := hF
  have HGL : Hid (gl < H) := hgl
  have HGF : Hid (gf < H ∧ gf ≠ gl) := ⟨hgf, hne⟩
  have HSZ1 : Hid (w1.heap.size = H + 4) := hsz
  clear hrd hL hF hgl hgf hne hsz
  go_enter Tryd.func80, Tryd.ntmps80
  go_wp2_with fail
  refine (ccount_any (H + 3) (H + 1) 4096 (by omega) vb l w1 HR.out).mono ?_
  rintro e w2 (⟨n, r, va, v2, hc, rfl, rfl, hrd, ho, hob⟩ | ⟨hc, hT⟩)
  · have hn : n ≤ 4096 := by
      unfold readCount at hc
      split at hc
      · cases hc
      · split at hc
        · simp only [Option.some.injEq, Prod.mk.injEq] at hc; omega
        · cases hc
    have HM : Hid (readMany readText l = readAll readText n r) := by show _ = _; unfold readMany; rw [hc]
    have HVB : Hid (∀ k, vb.ownBlock = some k → k < H + 4) := by
      intro k hk
      have hl : 0 < l.length := by
        cases l with
        | nil => simp [readCount, readNum, decNum] at hc
        | cons x y => simp
      obtain ⟨ad, cap, rfl, _, _, hx⟩ := HR.out.byt
      obtain ⟨b, off, rfl, hy⟩ := hx hl
      simp only [Value.ownBlock, Option.some.injEq] at hk
      subst hk
      have := block_lt_of_cell (hy 0 hl)
      rw [HSZ1.out] at this
      exact this
    have hf0 : Fr (H + 1) gl (H + 4) w1 w2 := (Fr.refl _ _ _ _).only ho (by rw [HSZ1.out]; exact Nat.le_refl _)
    have hI : RlInvT H gl vb w1 n r 0 [] r w2 := ⟨by omega, rfl, by rw [Nat.sub_zero]; cases readAll readText n r <;> rfl, ⟨v2, hrd, hob⟩, ⟨_, [], HL.out.only ho (by have := HGL.out; omega), OwnV.nil _ _ _, ⟨rfl, fun j u hj => by simp at hj⟩⟩, hf0⟩
    clear hc hrd ho hob hf0 HR HL
    go_wp2
    go_loopw [6] (fun i wr => ∃ (k : Nat) (xs : List (List (BitVec 8))) (rest : List (BitVec 8)), i = .int .i64 (k : Int) ∧ RlInvT H gl vb w1 n r k xs rest wr) (fun i _ => n - (intOf i).toNat)
    case atStart => exact ⟨0, [], r, rfl, hI⟩
    case round =>
      clear hI
      obtain ⟨k, xs, rest, rfl, hI⟩ := hrel
      have HI : Hid (RlInvT H gl vb w1 n r k xs rest wr) := hI
      have hk := hI.le
      by_cases hlt : k < n
      · obtain ⟨v, hrd, hob⟩ := hI.rdr
        obtain ⟨vl, vs, hbl, hown, hgood⟩ := hI.row
        have HOB : Hid (v.ownBlock = vb.ownBlock) := hob
        have HRD3 : Hid (Rd wr.drew (H + 3) (H + 1) v rest) := ⟨hrd.rd.drew, hrd.inp.drew, hrd.byt⟩
        have HBL3 : Hid (Blk wr.drew gl [vl] 64) := hbl.drew
        have HO3 : Hid (OwnV wr.drew (H + 4) 28 vl vs) := hown
        have HGD3 : Hid (GoodT wr.drew (H + 4) vs xs) := hgood
        have HFR3 : Hid (Fr (H + 1) gl (H + 4) w1 wr.drew) := hI.fr.drew
        have HSZ : Hid (H + 4 ≤ wr.drew.heap.size) := by show _ ≤ _; have := hI.fr.size; rw [HSZ1.out] at this; exact this
        have hbf : Blk wr.drew gf [.func (.func 57) #[] #[]] 88 := by
          have h1 := HF.out
          unfold Blk at h1 ⊢
          rw [HFR3.out.block gf (by have := HGF.out.1; omega) (by have := HGF.out.1; omega) HGF.out.2]
          exact h1
        have cl3 : wr.drew.cell? ⟨gl, 0, none⟩ = some vl := HBL3.out.cell 0
        have cf3 : wr.drew.cell? ⟨gf, 0, none⟩ = some (.func (.func 57) #[] #[]) := hbf.cell 0
        obtain ⟨adl, cl, hvl, _⟩ := hown.slice
        have HVL : Hid (vs.length < 1000000) := by
          have h1 := hI.len
          have h2 : vs.length = xs.length := by exact hgood.1
          show _ < _
          omega
        obtain ⟨nl, HNL⟩ : ∃ x, Hid (x = vs.length) := ⟨_, rfl⟩
        rw [← HNL.out] at hvl
        subst hvl
        have HC := crtext_any (H + 3) (H + 1) v rest wr.drew HRD3.out
        replace HC : Hid _ := HC
        obtain ⟨vl, HVLE⟩ : ∃ x, Hid (x = Value.slice adl nl cl) := ⟨_, rfl⟩
        rw [← HVLE.out] at HBL3 HO3 cl3
        clear hrd hob hbl hown hgood hbf hI
        go_wp2_with fail
        refine wp_region_any (by kernel_rfl) ?_
        change wpAny _ _ _ _ _ _ _ (World.drew _)
        generalize wr.drew = w3 at *
        refine wpAny_take (i := 2) (v := .pointer (some ⟨H + 3, 0, none⟩)) rfl (by kernel_rfl) (by kernel_rfl) (by kernel_rfl) (fun _ _ _ h => h) (Or.inl ⟨by rfl, fun wx => by simp [go_sem]⟩) ?_
        simp only [Act.put, List.getElem_toArray, List.getElem_cons_succ, List.getElem_cons_zero, List.setIfInBounds_toArray, List.set_cons_zero, List.set_cons_succ]
        refine wpAny_pair 0 1 (by kernel_rfl) ?_ ?_
        · refine wpOp_vl 0 vl w3 (by rfl) (by rfl) (by simp [go_sem, cl3]) ?_
          simp only [Act.put, List.getElem_toArray, List.getElem_cons_zero, List.setIfInBounds_toArray, List.set_cons_zero, List.set_cons_succ]
          refine wpAny_step 1 (.func (.func 57) #[] #[]) w3 (by kernel_rfl) rfl (by rfl) (by simp [go_sem, cf3]) ?_
          simp only [Act.put, List.getElem_toArray, List.getElem_cons_succ, List.getElem_cons_zero, List.setIfInBounds_toArray, List.set_cons_zero, List.set_cons_succ]
          refine wpAny_enterP 3 (by kernel_rfl) rfl (by rfl) (f := 57) (args := #[.pointer (some ⟨H + 3, 0, none⟩)]) (by simp [go_sem]) HC.out ?_
          rintro e w4 (⟨a, rest2, va, v2, hg, rfl, hu, hrd4, ho4, hob4⟩ | ⟨hg, hT⟩)
          · refine Or.inl ⟨_, rfl, ?_⟩
            obtain ⟨u, HUE⟩ : ∃ x, Hid (x = va) := ⟨_, rfl⟩
            obtain ⟨au, cu, hvu, _, _, _⟩ := id hu.reads
            obtain ⟨nu, HNU⟩ : ∃ x, Hid (x = a.length) := ⟨_, rfl⟩
            rw [← HNU.out] at hvu
            have hue := HUE.out
            subst hvu
            subst hue
            have HU1 : Hid ((Value.slice au nu cu).oneCell' = true) := rfl
            have HGU : OwnB w4 (H + 4) (.slice au nu cu) a := hu.mono HSZ.out
            have HGL4 : Blk w4 gl [vl] 64 := HBL3.out.only ho4 (by have := HGL.out; omega)
            have c4 : w4.cell? ⟨gl, 0, none⟩ = some vl := HGL4.cell 0
            have HO4 : OwnV w4 (H + 4) 28 vl vs := HO3.out.same (fun k hk => ho4.block k (by have := (HO3.out.lt k hk).1; omega) (HO3.out.lt k hk).2)
            have hb45 := below_alloc w4 (.cells #[(Value.slice au nu cu)] 28)
            have HO5 : Hid (OwnV (w4.alloc (.cells #[(Value.slice au nu cu)] 28)) (H + 4) 28 vl vs) := HO4.same (fun k hk => hb45.block k (HO4.lt k hk).2)
            have HBL5 : Hid (Blk (w4.alloc (.cells #[(Value.slice au nu cu)] 28)) gl [vl] 64) := HGL4.alloc _
            have c5 : (w4.alloc (.cells #[(Value.slice au nu cu)] 28)).cell? ⟨gl, 0, none⟩ = some vl := HBL5.out.cell 0
            have HU5 : Hid ((w4.alloc (.cells #[(Value.slice au nu cu)] 28)).cell? ⟨w4.heap.size, 0, none⟩ = some (Value.slice au nu cu)) := (Blk.new w4 [(Value.slice au nu cu)] 28).cell 0
            have HS5 : Hid (H + 4 ≤ (w4.alloc (.cells #[(Value.slice au nu cu)] 28)).heap.size) := by have h1 := HSZ.out; have h2 := ho4.size; have h3 := hb45.size; show _ ≤ _; omega
            have HNext : Hid (∀ w6 vl2, OwnV w6 (H + 4) 28 vl2 (vs ++ [(Value.slice au nu cu)]) → (w4.alloc (.cells #[(Value.slice au nu cu)] 28)).grownBy w6 vl.ownBlock → RlInvT H gl vb w1 n r (k + 1) (xs ++ [a]) rest2 (w6.setCell ⟨gl, 0, none⟩ vl2)) := fun w6 vl2 h1 h2 => HI.out.next hlt HGL.out HVB.out HBL3.out HO3.out HGD3.out HSZ.out HFR3.out w4 w6 v2 (Value.slice au nu cu) vl2 a rest2 hg hrd4 ho4 (hob4.trans HOB.out) HGU h1 h2
            clear hrd4 ho4 hob4 HGL4 HO4 hb45 hg hu
            simp only [Act.put, List.getElem_toArray, List.getElem_cons_succ, List.getElem_cons_zero, List.setIfInBounds_toArray, List.set_cons_zero, List.set_cons_succ]
            refine wpAny_step 4 (.slice (some ⟨w4.heap.size, 0, none⟩) 1 1) (w4.alloc (.cells #[(Value.slice au nu cu)] 28)) (by kernel_rfl) rfl (by rfl) (by simp [go_sem]) ?_
            simp only [Act.put, List.getElem_toArray, List.getElem_cons_succ, List.getElem_cons_zero, List.setIfInBounds_toArray, List.set_cons_zero, List.set_cons_succ]
            refine wpAny_law 5 (by kernel_rfl) rfl (by rfl) (wp_appendT (.tmp 8) (.tmp 12) rfl (H + 4) vl (Value.slice au nu cu) vs w4.heap.size rfl HO5.out rfl HU5.out HU1.out HVL.out HS5.out ?_)
            intro vl2 w6 hown6 hgrow
            have HJ := HNext.out w6 vl2 hown6 hgrow
            have hb6 : Blk w6 gl [vl] 64 := HBL5.out.grown4 hgrow (by have := HGL.out; intro he; have := (HO5.out.lt gl he.symm).1; omega)
            have c6 : w6.cell? ⟨gl, 0, none⟩ = some vl := hb6.cell 0
            have f6 : w6.frozen? ⟨gl, 0, none⟩ = false := hb6.frozen 0
            have HJ2 : Hid (RlInvT H gl vb w1 n r (k + 1) (xs ++ [a]) rest2 (w6.setCell ⟨gl, 0, none⟩ vl2)) := HJ
            obtain ⟨ad6, cc6, hv6, _⟩ := hown6.slice
            obtain ⟨nn6, HN6⟩ : ∃ x : Nat, Hid (x = (vs ++ [(Value.slice au nu cu)]).length) := ⟨_, rfl⟩
            rw [← HN6.out] at hv6
            subst hv6
            clear hown6 hgrow hb6 HJ HNext
            simp only [Act.put, List.getElem_toArray, List.getElem_cons_succ, List.getElem_cons_zero, List.setIfInBounds_toArray, List.set_cons_zero, List.set_cons_succ]
            refine wpAny_skip 6 (w6.setCell ⟨gl, 0, none⟩ (.slice ad6 nn6 cc6)) (by kernel_rfl) rfl (by rfl) (by simp [go_sem, c6, f6]) ?_
            simp only [Act.put, List.getElem_toArray, List.getElem_cons_succ, List.getElem_cons_zero]
            refine wpAny_done (by kernel_rfl) ?_ _
            clear HO5 HU5 HBL5
            generalize w6.setCell ⟨gl, 0, none⟩ (.slice ad6 nn6 cc6) = w7 at *
            go_wp2
            go_roundw
            case rel => exact ⟨k + 1, xs ++ [a], rest2, by go_num, HJ2.out⟩
            case measure => simp [intOf]; have := hlt; omega
          · refine Or.inr ⟨_, hT.down, ?_⟩
            exact ⟨rfl, HI.out.threw hlt HGL.out HSZ1.out HM.out HFR3.out HSZ.out hg hT⟩
        · refine wpOp_vl 1 (.func (.func 57) #[] #[]) w3 (by rfl) (by rfl) (by simp [go_sem, cf3]) ?_
          simp only [Act.put, List.getElem_toArray, List.getElem_cons_succ, List.getElem_cons_zero, List.setIfInBounds_toArray, List.set_cons_zero, List.set_cons_succ]
          refine wpAny_pair 0 3 (by kernel_rfl) ?_ ?_
          · refine wpOp_vl 0 vl w3 (by rfl) (by rfl) (by simp [go_sem, cl3]) ?_
            simp only [Act.put, List.getElem_toArray, List.getElem_cons_zero, List.setIfInBounds_toArray, List.set_cons_zero, List.set_cons_succ]
            refine wpAny_enterP 3 (by kernel_rfl) rfl (by rfl) (f := 57) (args := #[.pointer (some ⟨H + 3, 0, none⟩)]) (by simp [go_sem]) HC.out ?_
            rintro e w4 (⟨a, rest2, va, v2, hg, rfl, hu, hrd4, ho4, hob4⟩ | ⟨hg, hT⟩)
            · refine Or.inl ⟨_, rfl, ?_⟩
              obtain ⟨u, HUE⟩ : ∃ x, Hid (x = va) := ⟨_, rfl⟩
              obtain ⟨au, cu, hvu, _, _, _⟩ := id hu.reads
              obtain ⟨nu, HNU⟩ : ∃ x, Hid (x = a.length) := ⟨_, rfl⟩
              rw [← HNU.out] at hvu
              have hue := HUE.out
              subst hvu
              subst hue
              have HU1 : Hid ((Value.slice au nu cu).oneCell' = true) := rfl
              have HGU : OwnB w4 (H + 4) (.slice au nu cu) a := hu.mono HSZ.out
              have HGL4 : Blk w4 gl [vl] 64 := HBL3.out.only ho4 (by have := HGL.out; omega)
              have c4 : w4.cell? ⟨gl, 0, none⟩ = some vl := HGL4.cell 0
              have HO4 : OwnV w4 (H + 4) 28 vl vs := HO3.out.same (fun k hk => ho4.block k (by have := (HO3.out.lt k hk).1; omega) (HO3.out.lt k hk).2)
              have hb45 := below_alloc w4 (.cells #[(Value.slice au nu cu)] 28)
              have HO5 : Hid (OwnV (w4.alloc (.cells #[(Value.slice au nu cu)] 28)) (H + 4) 28 vl vs) := HO4.same (fun k hk => hb45.block k (HO4.lt k hk).2)
              have HBL5 : Hid (Blk (w4.alloc (.cells #[(Value.slice au nu cu)] 28)) gl [vl] 64) := HGL4.alloc _
              have c5 : (w4.alloc (.cells #[(Value.slice au nu cu)] 28)).cell? ⟨gl, 0, none⟩ = some vl := HBL5.out.cell 0
              have HU5 : Hid ((w4.alloc (.cells #[(Value.slice au nu cu)] 28)).cell? ⟨w4.heap.size, 0, none⟩ = some (Value.slice au nu cu)) := (Blk.new w4 [(Value.slice au nu cu)] 28).cell 0
              have HS5 : Hid (H + 4 ≤ (w4.alloc (.cells #[(Value.slice au nu cu)] 28)).heap.size) := by have h1 := HSZ.out; have h2 := ho4.size; have h3 := hb45.size; show _ ≤ _; omega
              have HNext : Hid (∀ w6 vl2, OwnV w6 (H + 4) 28 vl2 (vs ++ [(Value.slice au nu cu)]) → (w4.alloc (.cells #[(Value.slice au nu cu)] 28)).grownBy w6 vl.ownBlock → RlInvT H gl vb w1 n r (k + 1) (xs ++ [a]) rest2 (w6.setCell ⟨gl, 0, none⟩ vl2)) := fun w6 vl2 h1 h2 => HI.out.next hlt HGL.out HVB.out HBL3.out HO3.out HGD3.out HSZ.out HFR3.out w4 w6 v2 (Value.slice au nu cu) vl2 a rest2 hg hrd4 ho4 (hob4.trans HOB.out) HGU h1 h2
              clear hrd4 ho4 hob4 HGL4 HO4 hb45 hg hu
              simp only [Act.put, List.getElem_toArray, List.getElem_cons_succ, List.getElem_cons_zero, List.setIfInBounds_toArray, List.set_cons_zero, List.set_cons_succ]
              refine wpAny_step 4 (.slice (some ⟨w4.heap.size, 0, none⟩) 1 1) (w4.alloc (.cells #[(Value.slice au nu cu)] 28)) (by kernel_rfl) rfl (by rfl) (by simp [go_sem]) ?_
              simp only [Act.put, List.getElem_toArray, List.getElem_cons_succ, List.getElem_cons_zero, List.setIfInBounds_toArray, List.set_cons_zero, List.set_cons_succ]
              refine wpAny_law 5 (by kernel_rfl) rfl (by rfl) (wp_appendT (.tmp 8) (.tmp 12) rfl (H + 4) vl (Value.slice au nu cu) vs w4.heap.size rfl HO5.out rfl HU5.out HU1.out HVL.out HS5.out ?_)
              intro vl2 w6 hown6 hgrow
              have HJ := HNext.out w6 vl2 hown6 hgrow
              have hb6 : Blk w6 gl [vl] 64 := HBL5.out.grown4 hgrow (by have := HGL.out; intro he; have := (HO5.out.lt gl he.symm).1; omega)
              have c6 : w6.cell? ⟨gl, 0, none⟩ = some vl := hb6.cell 0
              have f6 : w6.frozen? ⟨gl, 0, none⟩ = false := hb6.frozen 0
              have HJ2 : Hid (RlInvT H gl vb w1 n r (k + 1) (xs ++ [a]) rest2 (w6.setCell ⟨gl, 0, none⟩ vl2)) := HJ
              obtain ⟨ad6, cc6, hv6, _⟩ := hown6.slice
              obtain ⟨nn6, HN6⟩ : ∃ x : Nat, Hid (x = (vs ++ [(Value.slice au nu cu)]).length) := ⟨_, rfl⟩
              rw [← HN6.out] at hv6
              subst hv6
              clear hown6 hgrow hb6 HJ HNext
              simp only [Act.put, List.getElem_toArray, List.getElem_cons_succ, List.getElem_cons_zero, List.setIfInBounds_toArray, List.set_cons_zero, List.set_cons_succ]
              refine wpAny_skip 6 (w6.setCell ⟨gl, 0, none⟩ (.slice ad6 nn6 cc6)) (by kernel_rfl) rfl (by rfl) (by simp [go_sem, c6, f6]) ?_
              simp only [Act.put, List.getElem_toArray, List.getElem_cons_succ, List.getElem_cons_zero]
              refine wpAny_done (by kernel_rfl) ?_ _
              clear HO5 HU5 HBL5
              generalize w6.setCell ⟨gl, 0, none⟩ (.slice ad6 nn6 cc6) = w7 at *
              go_wp2
              go_roundw
              case rel => exact ⟨k + 1, xs ++ [a], rest2, by go_num, HJ2.out⟩
              case measure => simp [intOf]; have := hlt; omega
            · refine Or.inr ⟨_, hT.down, ?_⟩
              exact ⟨rfl, HI.out.threw hlt HGL.out HSZ1.out HM.out HFR3.out HSZ.out hg hT⟩
          · skip
            refine wpOp_enP 3 (by rfl) (by rfl) (f := 57) (args := #[.pointer (some ⟨H + 3, 0, none⟩)]) (by simp [go_sem]) HC.out ?_
            rintro e w4 (⟨a, rest2, va, v2, hg, rfl, hu, hrd4, ho4, hob4⟩ | ⟨hg, hT⟩)
            · refine Or.inl ⟨_, rfl, ?_⟩
              obtain ⟨u, HUE⟩ : ∃ x, Hid (x = va) := ⟨_, rfl⟩
              obtain ⟨au, cu, hvu, _, _, _⟩ := id hu.reads
              obtain ⟨nu, HNU⟩ : ∃ x, Hid (x = a.length) := ⟨_, rfl⟩
              rw [← HNU.out] at hvu
              have hue := HUE.out
              subst hvu
              subst hue
              have HU1 : Hid ((Value.slice au nu cu).oneCell' = true) := rfl
              have HGU : OwnB w4 (H + 4) (.slice au nu cu) a := hu.mono HSZ.out
              have HGL4 : Blk w4 gl [vl] 64 := HBL3.out.only ho4 (by have := HGL.out; omega)
              have c4 : w4.cell? ⟨gl, 0, none⟩ = some vl := HGL4.cell 0
              have HO4 : OwnV w4 (H + 4) 28 vl vs := HO3.out.same (fun k hk => ho4.block k (by have := (HO3.out.lt k hk).1; omega) (HO3.out.lt k hk).2)
              have hb45 := below_alloc w4 (.cells #[(Value.slice au nu cu)] 28)
              have HO5 : Hid (OwnV (w4.alloc (.cells #[(Value.slice au nu cu)] 28)) (H + 4) 28 vl vs) := HO4.same (fun k hk => hb45.block k (HO4.lt k hk).2)
              have HBL5 : Hid (Blk (w4.alloc (.cells #[(Value.slice au nu cu)] 28)) gl [vl] 64) := HGL4.alloc _
              have c5 : (w4.alloc (.cells #[(Value.slice au nu cu)] 28)).cell? ⟨gl, 0, none⟩ = some vl := HBL5.out.cell 0
              have HU5 : Hid ((w4.alloc (.cells #[(Value.slice au nu cu)] 28)).cell? ⟨w4.heap.size, 0, none⟩ = some (Value.slice au nu cu)) := (Blk.new w4 [(Value.slice au nu cu)] 28).cell 0
              have HS5 : Hid (H + 4 ≤ (w4.alloc (.cells #[(Value.slice au nu cu)] 28)).heap.size) := by have h1 := HSZ.out; have h2 := ho4.size; have h3 := hb45.size; show _ ≤ _; omega
              have HNext : Hid (∀ w6 vl2, OwnV w6 (H + 4) 28 vl2 (vs ++ [(Value.slice au nu cu)]) → (w4.alloc (.cells #[(Value.slice au nu cu)] 28)).grownBy w6 vl.ownBlock → RlInvT H gl vb w1 n r (k + 1) (xs ++ [a]) rest2 (w6.setCell ⟨gl, 0, none⟩ vl2)) := fun w6 vl2 h1 h2 => HI.out.next hlt HGL.out HVB.out HBL3.out HO3.out HGD3.out HSZ.out HFR3.out w4 w6 v2 (Value.slice au nu cu) vl2 a rest2 hg hrd4 ho4 (hob4.trans HOB.out) HGU h1 h2
              clear hrd4 ho4 hob4 HGL4 HO4 hb45 hg hu
              simp only [Act.put, List.getElem_toArray, List.getElem_cons_succ, List.getElem_cons_zero, List.setIfInBounds_toArray, List.set_cons_zero, List.set_cons_succ]
              refine wpAny_pair 0 4 (by kernel_rfl) ?_ ?_
              · refine wpOp_vl 0 vl w4 (by rfl) (by rfl) (by simp [go_sem, c4]) ?_
                simp only [Act.put, List.getElem_toArray, List.getElem_cons_zero, List.setIfInBounds_toArray, List.set_cons_zero, List.set_cons_succ]
                refine wpAny_step 4 (.slice (some ⟨w4.heap.size, 0, none⟩) 1 1) (w4.alloc (.cells #[(Value.slice au nu cu)] 28)) (by kernel_rfl) rfl (by rfl) (by simp [go_sem]) ?_
                simp only [Act.put, List.getElem_toArray, List.getElem_cons_succ, List.getElem_cons_zero, List.setIfInBounds_toArray, List.set_cons_zero, List.set_cons_succ]
                refine wpAny_law 5 (by kernel_rfl) rfl (by rfl) (wp_appendT (.tmp 8) (.tmp 12) rfl (H + 4) vl (Value.slice au nu cu) vs w4.heap.size rfl HO5.out rfl HU5.out HU1.out HVL.out HS5.out ?_)
                intro vl2 w6 hown6 hgrow
                have HJ := HNext.out w6 vl2 hown6 hgrow
                have hb6 : Blk w6 gl [vl] 64 := HBL5.out.grown4 hgrow (by have := HGL.out; intro he; have := (HO5.out.lt gl he.symm).1; omega)
                have c6 : w6.cell? ⟨gl, 0, none⟩ = some vl := hb6.cell 0
                have f6 : w6.frozen? ⟨gl, 0, none⟩ = false := hb6.frozen 0
                have HJ2 : Hid (RlInvT H gl vb w1 n r (k + 1) (xs ++ [a]) rest2 (w6.setCell ⟨gl, 0, none⟩ vl2)) := HJ
                obtain ⟨ad6, cc6, hv6, _⟩ := hown6.slice
                obtain ⟨nn6, HN6⟩ : ∃ x : Nat, Hid (x = (vs ++ [(Value.slice au nu cu)]).length) := ⟨_, rfl⟩
                rw [← HN6.out] at hv6
                subst hv6
                clear hown6 hgrow hb6 HJ HNext
                simp only [Act.put, List.getElem_toArray, List.getElem_cons_succ, List.getElem_cons_zero, List.setIfInBounds_toArray, List.set_cons_zero, List.set_cons_succ]
                refine wpAny_skip 6 (w6.setCell ⟨gl, 0, none⟩ (.slice ad6 nn6 cc6)) (by kernel_rfl) rfl (by rfl) (by simp [go_sem, c6, f6]) ?_
                simp only [Act.put, List.getElem_toArray, List.getElem_cons_succ, List.getElem_cons_zero]
                refine wpAny_done (by kernel_rfl) ?_ _
                clear HO5 HU5 HBL5
                generalize w6.setCell ⟨gl, 0, none⟩ (.slice ad6 nn6 cc6) = w7 at *
                go_wp2
                go_roundw
                case rel => exact ⟨k + 1, xs ++ [a], rest2, by go_num, HJ2.out⟩
                case measure => simp [intOf]; have := hlt; omega
              · refine wpOp_vl 4 (.slice (some ⟨w4.heap.size, 0, none⟩) 1 1) (w4.alloc (.cells #[(Value.slice au nu cu)] 28)) (by rfl) (by rfl) (by simp [go_sem]) ?_
                simp only [Act.put, List.getElem_toArray, List.getElem_cons_succ, List.getElem_cons_zero, List.setIfInBounds_toArray, List.set_cons_zero, List.set_cons_succ]
                refine wpAny_step 0 vl (w4.alloc (.cells #[(Value.slice au nu cu)] 28)) (by kernel_rfl) rfl (by rfl) (by simp [go_sem, c5]) ?_
                simp only [Act.put, List.getElem_toArray, List.getElem_cons_zero, List.setIfInBounds_toArray, List.set_cons_zero, List.set_cons_succ]
                refine wpAny_law 5 (by kernel_rfl) rfl (by rfl) (wp_appendT (.tmp 8) (.tmp 12) rfl (H + 4) vl (Value.slice au nu cu) vs w4.heap.size rfl HO5.out rfl HU5.out HU1.out HVL.out HS5.out ?_)
                intro vl2 w6 hown6 hgrow
                have HJ := HNext.out w6 vl2 hown6 hgrow
                have hb6 : Blk w6 gl [vl] 64 := HBL5.out.grown4 hgrow (by have := HGL.out; intro he; have := (HO5.out.lt gl he.symm).1; omega)
                have c6 : w6.cell? ⟨gl, 0, none⟩ = some vl := hb6.cell 0
                have f6 : w6.frozen? ⟨gl, 0, none⟩ = false := hb6.frozen 0
                have HJ2 : Hid (RlInvT H gl vb w1 n r (k + 1) (xs ++ [a]) rest2 (w6.setCell ⟨gl, 0, none⟩ vl2)) := HJ
                obtain ⟨ad6, cc6, hv6, _⟩ := hown6.slice
                obtain ⟨nn6, HN6⟩ : ∃ x : Nat, Hid (x = (vs ++ [(Value.slice au nu cu)]).length) := ⟨_, rfl⟩
                rw [← HN6.out] at hv6
                subst hv6
                clear hown6 hgrow hb6 HJ HNext
                simp only [Act.put, List.getElem_toArray, List.getElem_cons_succ, List.getElem_cons_zero, List.setIfInBounds_toArray, List.set_cons_zero, List.set_cons_succ]
                refine wpAny_skip 6 (w6.setCell ⟨gl, 0, none⟩ (.slice ad6 nn6 cc6)) (by kernel_rfl) rfl (by rfl) (by simp [go_sem, c6, f6]) ?_
                simp only [Act.put, List.getElem_toArray, List.getElem_cons_succ, List.getElem_cons_zero]
                refine wpAny_done (by kernel_rfl) ?_ _
                clear HO5 HU5 HBL5
                generalize w6.setCell ⟨gl, 0, none⟩ (.slice ad6 nn6 cc6) = w7 at *
                go_wp2
                go_roundw
                case rel => exact ⟨k + 1, xs ++ [a], rest2, by go_num, HJ2.out⟩
                case measure => simp [intOf]; have := hlt; omega
            · refine Or.inr ⟨_, hT.down, ?_⟩
              exact ⟨rfl, HI.out.threw hlt HGL.out HSZ1.out HM.out HFR3.out HSZ.out hg hT⟩
      · have hkn : k = n := by omega
        subst hkn
        have HD : Hid (Does H (fun l2 w2 => ∃ ns, readMany readText l = some (ns, l2) ∧ LsT w2 gl (H + 4) ns ∧ Fr (H + 1) gl (H + 4) w1 w2) (fun w2 => readMany readText l = none ∧ Fr (H + 1) gl (H + 4) w1 w2) w1 (.returned (.tuple #[])) wr) := by
          obtain ⟨v, hrd, hob⟩ := hI.rdr
          refine ⟨hI.fr.size, fun k h1 h2 h3 => hI.fr.block k h2 h3 (by have := HGL.out; omega), Or.inl ⟨rfl, v, rest, hrd, xs, ?_, hI.row, hI.fr⟩⟩
          rw [HM.out, hI.eq, Nat.sub_self]
          simp [readAll]
        clear hI HI
        go_wp2
        go_end0
        exact HD.out
  · have HD : Hid (Does H (fun l2 w2 => ∃ ns, readMany readText l = some (ns, l2) ∧ LsT w2 gl (H + 4) ns ∧ Fr (H + 1) gl (H + 4) w1 w2) (fun w2 => readMany readText l = none ∧ Fr (H + 1) gl (H + 4) w1 w2) w1 (thrown (H + 1)) w2) := by
      have hf4 : Fr (H + 1) gl (H + 4) w1 w2 := (Fr.refl _ _ _ _).only hT.onl (by rw [HSZ1.out]; exact Nat.le_refl _)
      obtain ⟨v, hb, ad, m, c, hv⟩ := hT.bad
      refine ⟨hf4.size, fun k h1 h2 h3 => hf4.block k h2 h3 (by have := HGL.out; omega), Or.inr ⟨rfl, ⟨v, ad, m, c, hv, hb⟩, ?_, hf4⟩⟩
      unfold readMany; rw [hc]
    obtain rfl := hT.eq
    unfold thrown at HD ⊢
    clear hT hc
    go_wp2
    exact ⟨rfl, HD.out⟩
end Go.Proofs.YtableajopaappaaDoor
/- The walks of codec.readList, ReadNums and ReadTexts. -/
namespace Go.Proofs.YtableajopaappaaDoor
open Go.RowKit
set_option maxRecDepth 100000
theorem Does.mono {H : Nat} {A A' : List (BitVec 8) → World → Prop} {B B' : World → Prop} {w1 w2 : World} {e : Ending} (h : Does H A B w1 e w2) (hA : ∀ l, A l w2 → A' l w2) (hB : B w2 → B' w2) : Does H A' B' w1 e w2 := by
  refine ⟨h.size, h.kept, ?_⟩
  rcases h.way with ⟨h1, v2, l2, h2, h3⟩ | ⟨h1, h2, h3⟩
  · exact Or.inl ⟨h1, v2, l2, h2, hA l2 h3⟩
  · exact Or.inr ⟨h1, h2, hB h3⟩
theorem readList_many {α : Type} (g : List (BitVec 8) → Option (α × List (BitVec 8))) (b : List (BitVec 8)) : readList g b = match readMany g b with | some (l, []) => some l | _ => none := by
  unfold readList readMany readCount
  cases readNum b with
  | none => rfl
  | some p =>
    obtain ⟨n, r⟩ := p
    simp only
    by_cases h : n ≤ 4096
    · simp only [if_pos h]
      cases readAll g n r with
      | none => rfl
      | some p =>
        obtain ⟨l, t⟩ := p
        cases t <;> rfl
    · simp only [if_neg h]
/-- what a reading of a list comes to -/
def ListRead {α : Type} (el : TypeId) (Good : World → Nat → List Value → List α → Prop) (o : Option (List α)) (w : World) (e : Ending) (w' : World) : Prop :=
  (∃ xs v vs, o = some xs ∧ e = .returned (.tuple #[v, .int .i64 0]) ∧ OwnV w' w.heap.size el v vs ∧ Good w' w.heap.size vs xs ∧ Below w.heap.size w w') ∨
  (o = none ∧ e = .returned (.tuple #[.slice none 0 0, .int .i64 3]) ∧ Below w.heap.size w w')
theorem GoodN.up {w w' : World} {B B' : Nat} {vs : List Value} {ns : List Nat} (h : GoodN w B vs ns) : GoodN w' B' vs ns := h
theorem GoodT.up {w w' : World} {B B' : Nat} {vs : List Value} {ls : List (List (BitVec 8))} (h : GoodT w B vs ls) (hB : B' ≤ B) (hk : ∀ k, B ≤ k → k < w.heap.size → w'.heap[k]? = w.heap[k]?) : GoodT w' B' vs ls :=
  ⟨h.1, fun j u hj => ((h.2 j u hj).same (fun k hkk => hk k ((h.2 j u hj).own k hkk) ((h.2 j u hj).lt k hkk))).mono hB⟩
theorem OwnV.mono {w : World} {base B : Nat} {el : TypeId} {v : Value} {vs : List Value} (h : OwnV w base el v vs) (hB : B ≤ base) : OwnV w B el v vs := by
  obtain ⟨h1, h2⟩ := h
  refine ⟨h1, ?_⟩
  rcases h2 with h2 | ⟨g, cap, cur, rfl, hg, r⟩
  · exact Or.inl h2
  · exact Or.inr ⟨g, cap, cur, rfl, by omega, r⟩
theorem enter_rdlT1 : ∀ xs w, (callFunc 80 xs).run Tryd.prog w = .ok (.enter 80 xs) w := fun _ _ => by kernel_rfl
def ListMidT (l : List (BitVec 8)) (w w0 : World) (e : Ending) (w' : World) : Prop :=
  ∃ w2, Past (w.heap.size + 2) w2 w' ∧ ((∃ l2, (∃ ns, readMany readText l = some (ns, l2) ∧ LsT w2 (w.heap.size + 1) (w.heap.size + 2 + 4) ns ∧ Fr (w.heap.size + 2 + 1) (w.heap.size + 1) (w.heap.size + 2) w0 w2) ∧ e = .returned (.int .i64 (if l2 = [] then 0 else 3))) ∨ ((readMany readText l = none ∧ Fr (w.heap.size + 2 + 1) (w.heap.size + 1) (w.heap.size + 2) w0 w2) ∧ e = .returned (.int .i64 3)))
set_option maxRecDepth 100000 in
set_option maxHeartbeats 1000000 in
theorem rdlT_any (vb : Value) (l : List (BitVec 8)) (w : World) (hb : Reads w vb l) :
    Calls Tryd.prog 56 #[vb, .func (.func 57) #[] #[]] w fun e w' => ListRead 28 GoodT (readList readText l) w e w' := by
  have hmf : ∀ (fn : Fn) (first cap : Array Value) (w : World), (Instr.makeFunc fn first cap).run Tryd.prog w = .ok (.func fn first cap) w := fun _ _ _ _ => rfl
  have hB1 : Below w.heap.size w ((w.alloc (.cells #[.func (.func 57) #[] #[]] 88)).alloc (.cells #[.slice none 0 0] 64)) := ((Below.refl _ _).alloc (Nat.le_refl _) _).alloc (by simp) _
  have g0 : Blk ((w.alloc (.cells #[.func (.func 57) #[] #[]] 88)).alloc (.cells #[.slice none 0 0] 64)) w.heap.size [.func (.func 57) #[] #[]] 88 := (Blk.new w [.func (.func 57) #[] #[]] 88).alloc _
  have g1 : Blk ((w.alloc (.cells #[.func (.func 57) #[] #[]] 88)).alloc (.cells #[.slice none 0 0] 64)) (w.heap.size + 1) [.slice none 0 0] 64 := Blk.new_at (w := w.alloc (.cells #[.func (.func 57) #[] #[]] 88)) (by simp) [.slice none 0 0] 64
  have hz : ((w.alloc (.cells #[.func (.func 57) #[] #[]] 88)).alloc (.cells #[.slice none 0 0] 64)).heap.size = w.heap.size + 2 := by simp
  have hR := hb.below hB1
  have HRd : Hid (Calls Tryd.prog 79 #[vb, .func (.func 80) #[] #[.pointer (some ⟨w.heap.size + 1, 0, none⟩), .pointer (some ⟨w.heap.size, 0, none⟩)]] ((w.alloc (.cells #[.func (.func 57) #[] #[]] 88)).alloc (.cells #[.slice none 0 0] 64)) fun e w' => ListMidT l w ((w.alloc (.cells #[.func (.func 57) #[] #[]] 88)).alloc (.cells #[.slice none 0 0] 64)) e w') := by
    unfold ListMidT
    rw [← hz]
    refine read_any 80 #[.pointer (some ⟨w.heap.size + 1, 0, none⟩), .pointer (some ⟨w.heap.size, 0, none⟩)] vb l _ _ _ hR enter_rdlT1 ?_
    intro w1 h1 h2 h3
    refine Calls.mono (rdlT1_any _ (w.heap.size + 1) w.heap.size vb l w1 h1 (by rw [hz]; omega) (by rw [hz]; omega) (by omega) h3 (g1.below h2 g1.lt) (g0.below h2 g0.lt)) ?_
    intro e w2 hD
    refine hD.mono (fun l2 hA => ?_) (fun hB => ?_)
    · obtain ⟨ns, a1, a2, a3⟩ := hA
      exact ⟨ns, a1, a2, ⟨a3.os.trans h2.os, a3.tape.trans h2.tape, a3.output.trans h2.output, Nat.le_trans h2.size a3.size, fun k k1 k2 k3 => (a3.block k (by omega) k2 k3).trans (h2.block k k1)⟩⟩
    · obtain ⟨a1, a3⟩ := hB
      exact ⟨a1, ⟨a3.os.trans h2.os, a3.tape.trans h2.tape, a3.output.trans h2.output, Nat.le_trans h2.size a3.size, fun k k1 k2 k3 => (a3.block k (by omega) k2 k3).trans (h2.block k k1)⟩⟩
  have HB1 : Hid (Below w.heap.size w ((w.alloc (.cells #[.func (.func 57) #[] #[]] 88)).alloc (.cells #[.slice none 0 0] 64))) := hB1
  have HZ : Hid (((w.alloc (.cells #[.func (.func 57) #[] #[]] 88)).alloc (.cells #[.slice none 0 0] 64)).heap.size = w.heap.size + 2) := hz
  clear hB1 g0 g1 hz hR hb
  go_enter Tryd.func56, Tryd.ntmps56
  go_wp2_with fail
  refine Calls.mono HRd.out ?_
  rintro e w' ⟨w2, hP, hway⟩
  have hbel : ∀ {gi gl : Nat}, Fr gi gl (w.heap.size + 2) ((w.alloc (.cells #[.func (.func 57) #[] #[]] 88)).alloc (.cells #[.slice none 0 0] 64)) w2 → w.heap.size ≤ gi → w.heap.size ≤ gl → Below w.heap.size w w' := fun h k1 k2 =>
    ⟨hP.os.trans (h.os.trans HB1.out.os), hP.tape.trans (h.tape.trans HB1.out.tape), hP.output.trans (h.output.trans HB1.out.output), by rw [hP.size]; exact Nat.le_trans HB1.out.size h.size, fun k hk => (hP.block k (Or.inl (by omega))).trans ((h.block k (by omega) (by omega) (by omega)).trans (HB1.out.block k hk))⟩
  rcases hway with ⟨l2, ⟨ns, hm, ⟨vl, vs, hbl, hown, hgd⟩, hfr⟩, rfl⟩ | ⟨⟨hm, hfr⟩, rfl⟩
  · by_cases h0 : l2 = []
    · subst h0
      rw [if_pos rfl]
      have hbl' : Blk w' (w.heap.size + 1) [vl] 64 := by unfold Blk at hbl ⊢; rw [hP.block _ (Or.inl (by omega))]; exact hbl
      have cl : w'.cell? ⟨w.heap.size + 1, 0, none⟩ = some vl := hbl'.cell 0
      obtain ⟨adl, ccl, hvl, _⟩ := hown.slice
      have HL : Hid (∀ v, v = vl → ListRead 28 GoodT (readList readText l) w (.returned (.tuple #[v, .int .i64 0])) w') := by
        intro v hv
        subst hv
        refine Or.inl ⟨ns, v, vs, ?_, rfl, (hown.same (fun k hk => hP.block k (Or.inr (hown.lt k hk).1))).mono (by omega), hgd.up (by omega) (fun k h1 _ => hP.block k (Or.inr h1)), hbel hfr (by omega) (by omega)⟩
        rw [readList_many, hm]
      obtain ⟨nl, HNL⟩ : ∃ x : Nat, Hid (x = vs.length) := ⟨_, rfl⟩
      rw [← HNL.out] at hvl
      subst hvl
      clear hbl hbl' hown hgd hfr hm hbel hP HRd
      go_wp2
      go_ret2
      exact HL.out _ rfl
    · rw [if_neg h0]
      have HL : Hid (ListRead 28 GoodT (readList readText l) w (.returned (.tuple #[.slice none 0 0, .int .i64 3])) w') := by
        refine Or.inr ⟨?_, rfl, hbel hfr (by omega) (by omega)⟩
        rw [readList_many, hm]
        cases l2 with
        | nil => exact absurd rfl h0
        | cons x y => rfl
      clear hbl hown hgd hfr hm hbel hP HRd h0
      go_wp2
      go_ret2
      exact HL.out
  · have HL : Hid (ListRead 28 GoodT (readList readText l) w (.returned (.tuple #[.slice none 0 0, .int .i64 3])) w') := by
      refine Or.inr ⟨?_, rfl, hbel hfr (by omega) (by omega)⟩
      rw [readList_many, hm]
    clear hfr hm hbel hP HRd
    go_wp2
    go_ret2
    exact HL.out
set_option maxHeartbeats 400000 in
theorem creadT_any (vb : Value) (l : List (BitVec 8)) (w : World) (hb : Reads w vb l) :
    Calls Tryd.prog 32 #[vb] w fun e w' => ListRead 28 GoodT (readList readText l) w e w' := by
  have hmf : ∀ (fn : Fn) (first cap : Array Value) (w : World), (Instr.makeFunc fn first cap).run Tryd.prog w = .ok (.func fn first cap) w := fun _ _ _ _ => rfl
  go_enter Tryd.func32, Tryd.ntmps32
  go_wp2_with fail
  refine (rdlT_any vb l w hb).mono ?_
  rintro e w' (⟨xs, v, vs, h1, rfl, h2, h3, h4⟩ | ⟨h1, rfl, h2⟩)
  · have HL : Hid (ListRead 28 GoodT (readList readText l) w (.returned (.tuple #[v, .int .i64 0])) w') := Or.inl ⟨xs, v, vs, h1, rfl, h2, h3, h4⟩
    clear h1 h2 h3 h4
    go_wp2
    go_ret2
    exact HL.out
  · have HL : Hid (ListRead 28 GoodT (readList readText l) w (.returned (.tuple #[.slice none 0 0, .int .i64 3])) w') := Or.inr ⟨h1, rfl, h2⟩
    clear h1 h2
    go_wp2
    go_ret2
    exact HL.out
end Go.Proofs.YtableajopaappaaDoor
/- The walks of the reference's reader: Num, Count, Take, Text, Digest, Done. -/
namespace Go.Proofs.YtableajopaappaaDoor
open Go.RowKit
set_option maxRecDepth 100000
/-- the reference's reader at g: of the bytes l so many were read -/
structure InS (w : World) (g : Nat) (v : Value) (l : List (BitVec 8)) (pos : Nat) (bad : Bool) : Prop where
  blk : Blk w g [v, .int .i64 (pos : Int), .bool bad] 95
  byt : Reads w v l
  le : pos ≤ l.length
theorem InS.ne {w : World} {g : Nat} {v : Value} {l : List (BitVec 8)} {pos : Nat} {bad : Bool} (h : InS w g v l pos bad) : ∀ b off, 0 < l.length → (∀ j, j < l.length → w.cell? ⟨b, off + j, none⟩ = some (.int .u8 ((l.getD j 0).toNat : Int))) → b ≠ g := by
  intro b off hp hc he
  subst he
  have h0 := hc 0 hp
  rw [h.blk.cell] at h0
  obtain ⟨ad, cap, hv, _⟩ := h.byt
  subst hv
  match off, h0 with
  | 0, h0 => simp at h0
  | 1, h0 => simp at h0
  | 2, h0 => simp at h0
  | k + 3, h0 => simp at h0
theorem InS.only {w w' : World} {g : Nat} {v : Value} {l : List (BitVec 8)} {pos : Nat} {bad : Bool} (h : InS w g v l pos bad) (ho : Only g w w') : Reads w' v l := by
  have ha := h.ne
  obtain ⟨ad, cap, rfl, hc, hn, hx⟩ := h.byt
  refine ⟨ad, cap, rfl, hc, hn, fun hp => ?_⟩
  obtain ⟨b, off, h1, h2⟩ := hx hp
  exact ⟨b, off, h1, fun j hj => ho.cell (p := ⟨b, off + j, none⟩) (ha b off hp h2) (h2 j hj)⟩
theorem InS.below {w w' : World} {g : Nat} {v : Value} {l : List (BitVec 8)} {pos : Nat} {bad : Bool} (h : InS w g v l pos bad) (hb : Below w.heap.size w w') : InS w' g v l pos bad := ⟨h.blk.below hb h.blk.lt, h.byt.below hb, h.le⟩
structure InInv (g : Nat) (v : Value) (l : List (BitVec 8)) (pos : Nat) (bad : Bool) (w : World) (k acc : Nat) (wr : World) : Prop where
  le : k ≤ 10
  lt : acc < 2 ^ (7 * k)
  eq : readNum (l.drop pos) = decNum (10 - k) k acc (l.drop (pos + k))
  st : InS wr g v l (pos + k) bad
  onl : Only g w wr
end Go.Proofs.YtableajopaappaaDoor
/- The walks of the reference's reader: Count and Take. -/
namespace Go.Proofs.YtableajopaappaaDoor
open Go.RowKit
set_option maxRecDepth 100000
def cutAd (ad : Option Addr) (p cap : Nat) : Option Addr := if cap = p then ad else ad.map (·.add p)
theorem Reads.mid {w : World} {ad : Option Addr} {m cap : Nat} {l : List (BitVec 8)} (h : Reads w (.slice ad m cap) l) (p n : Nat) (hp : p + n ≤ l.length) : Reads w (.slice (cutAd ad p cap) n (cap - p)) ((l.drop p).take n) := by
  have hm : m ≤ cap ∧ m = l.length := by
    obtain ⟨ad', cap', hv, hc, _⟩ := h
    simp only [Value.slice.injEq] at hv
    obtain ⟨_, rfl, rfl⟩ := hv
    exact ⟨hc, rfl⟩
  obtain ⟨hmc, hml⟩ := hm
  cases ad with
  | none =>
    obtain ⟨ad', cap', hv, hc, hn, hx⟩ := h
    simp only [Value.slice.injEq] at hv
    obtain ⟨rfl, _, rfl⟩ := hv
    have := hn rfl
    subst this
    have hl : l.length = 0 := by omega
    have hn0 : n = 0 := by omega
    have hp0 : p = 0 := by omega
    subst hn0 hp0
    exact ⟨none, 0, by simp [cutAd], by simp, fun _ => rfl, fun h => by simp at h⟩
  | some a =>
    have h1 := (h.drop p (by omega) (if cap = p then a else a.add p) (fun hlt => by rw [if_neg (by omega)]))
    have h2 := h1.take n (by rw [List.length_drop]; omega)
    have e : cutAd (some a) p cap = some (if cap = p then a else a.add p) := by
      unfold cutAd
      by_cases hcp : cap = p
      · rw [if_pos hcp, if_pos hcp]
      · rw [if_neg hcp, if_neg hcp]; rfl
    rw [e]
    exact h2
end Go.Proofs.YtableajopaappaaDoor
/- The walks of the reference's reader: Text, Digest, Done. -/
namespace Go.Proofs.YtableajopaappaaDoor
open Go.RowKit
set_option maxRecDepth 100000
def fillD (a : List (BitVec 8)) : Nat → List (BitVec 8)
  | 0 => zb32
  | k + 1 => (fillD a k).set k (a.getD k 0)
structure DgInv4 (D : Nat) (a : List (BitVec 8)) (w2 : World) (u : Value) (k : Nat) (wr : World) : Prop where
  le : k ≤ a.length
  res : Blk wr D (cb zb32) 23
  out : Blk wr (D + 1) (cb (fillD a k)) 23
  own : OwnB wr (D + 2) u a
  onl : Only (D + 1) w2 wr
end Go.Proofs.YtableajopaappaaDoor
/- The walks of blazonref04.ReadNums and ReadTexts. -/
namespace Go.Proofs.YtableajopaappaaDoor
open Go.RowKit
set_option maxRecDepth 100000
theorem InS.others {w w' : World} {g : Nat} {v : Value} {l : List (BitVec 8)} {pos : Nat} {bad : Bool} (h : InS w g v l pos bad) (hv : 0 < l.length → ∀ k, v.ownBlock = some k → k < g) (hb : Below (g + 1) w w') : InS w' g v l pos bad := by
  refine ⟨h.blk.below hb (by omega), ?_, h.le⟩
  obtain ⟨ad, cap, rfl, hc, hn, hx⟩ := h.byt
  refine ⟨ad, cap, rfl, hc, hn, fun hp => ?_⟩
  obtain ⟨b, off, rfl, hy⟩ := hx hp
  refine ⟨b, off, rfl, fun j hj => ?_⟩
  rw [hb.cell (p := ⟨b, off + j, none⟩) (by have := hv hp b rfl; show b < g + 1; omega)]
  exact hy j hj
end Go.Proofs.YtableajopaappaaDoor
/- The walks of codec.list, Nums and Texts, and of the reference's Nums, Texts, SameNums and SameTexts. -/
namespace Go.Proofs.YtableajopaappaaDoor
open Go.RowKit
set_option maxRecDepth 100000
/-- the slice v reads as the numbers ns -/
def ReadsN (w : World) (v : Value) (ns : List Nat) : Prop :=
  ∃ ad cap, v = .slice ad ns.length cap ∧ ns.length ≤ cap ∧ (ad = none → cap = 0) ∧ (0 < ns.length → ∃ b off, ad = some ⟨b, off, none⟩ ∧ ∀ j, j < ns.length → w.cell? ⟨b, off + j, none⟩ = some (.int .u64 ((ns.getD j 0 : Nat) : Int)))
theorem ReadsN.below {w w' : World} {v : Value} {ns : List Nat} (h : ReadsN w v ns) (hb : Below w.heap.size w w') : ReadsN w' v ns := by
  obtain ⟨ad, cap, hv, hc, hn, hx⟩ := h
  refine ⟨ad, cap, hv, hc, hn, fun hp => ?_⟩
  obtain ⟨b, off, h1, h2⟩ := hx hp
  exact ⟨b, off, h1, fun j hj => by rw [hb.cell (p := ⟨b, off + j, none⟩) (block_lt_of_cell (h2 j hj))]; exact h2 j hj⟩
theorem OwnV.readsL {w : World} {base : Nat} {v : Value} {vs : List Value} {ls : List (List (BitVec 8))} (h : OwnV w base 28 v vs) (hg : GoodT w base vs ls) : ReadsL w v ls := by
  obtain ⟨ad, c, hv, hc, hn, hx⟩ := h.slice
  have hl := hg.1
  rw [hl] at hv hc hx
  refine ⟨ad, c, hv, hc, hn, fun hp => ?_⟩
  obtain ⟨g, h1, h2⟩ := hx hp
  refine ⟨g, 0, h1, fun j hj => ?_⟩
  have hj' : j < vs.length := by rw [hl]; exact hj
  refine ⟨vs[j], ?_, (hg.2 j _ (List.getElem?_eq_getElem hj')).reads⟩
  rw [Nat.zero_add]
  exact h2 j _ (List.getElem?_eq_getElem hj')
theorem encAll_take {α : Type} (f : α → List (BitVec 8)) (l : List α) (k : Nat) (z : α) (h : k < l.length) : encAll f (l.take (k + 1)) = encAll f (l.take k) ++ f (l.getD k z) := by
  unfold encAll
  rw [List.take_add_one, List.getElem?_eq_getElem h, List.getD_eq_getElem?_getD, List.getElem?_eq_getElem h]
  simp only [Option.toList_some, List.map_append, List.map_cons, List.map_nil, List.flatten_append, List.flatten_cons, List.flatten_nil, List.append_nil, Option.getD_some]
theorem encText_len (t : List (BitVec 8)) : (encText t).length = (encNum t.length).length + t.length := by unfold encText; rw [List.length_append]
theorem encTexts_len (ls : List (List (BitVec 8))) (h : ls.flatten.length < 18446744073709551616) : (encAll encText ls).length ≤ ls.flatten.length + 10 * ls.length := by
  induction ls with
  | nil => simp [encAll]
  | cons t r ih =>
    rw [List.flatten_cons, List.length_append] at h
    rw [encAll_cons, List.length_append, List.length_cons, List.flatten_cons, List.length_append]
    have h1 := enc_len10 t.length (by omega)
    have h2 := ih (by omega)
    rw [encText_len]
    omega
theorem getD_flat_le {ls : List (List (BitVec 8))} (k : Nat) (hk : k < ls.length) : (encAll encText (ls.take k)).length ≤ (ls.take k).flatten.length + 10 * k → (ls.take k).flatten.length + (ls.getD k []).length ≤ ls.flatten.length := by
  intro _
  have h1 := flat_take ls k hk
  have h2 := flat_le ls (k + 1)
  rw [h1, List.length_append] at h2
  exact h2
structure LsInv (w : World) (l : List (BitVec 8)) (u : Value) (wr : World) : Prop where
  own : OwnB wr w.heap.size u l
  bel : Below w.heap.size w wr
set_option maxRecDepth 100000 in
set_option maxHeartbeats 1000000 in
theorem listT_any (v : Value) (xs : List (List (BitVec 8))) (w : World) (hR : ReadsL w v xs) (hl : xs.flatten.length + 10 * xs.length + 40 ≤ 140737488355328) :
    Calls Tryd.prog 68 #[v, .func (.func 67) #[] #[]] w fun e w' => ∃ v', e = .returned v' ∧ OwnB w' w.heap.size v' (encList encText xs) ∧ Below w.heap.size w w' := by
  have HR : Hid (ReadsL w v xs) := hR
  have HLN : Hid (xs.flatten.length + 10 * xs.length + 40 ≤ 140737488355328) := hl
  obtain ⟨ad, cap, hv, hcap, _, _⟩ := hR
  obtain ⟨n, HNN⟩ : ∃ n, Hid (n = xs.length) := ⟨_, rfl⟩
  rw [← HNN.out] at hv hcap
  subst hv
  have hn62 : n ≤ 14073748835533 := by rw [HNN.out]; have := HLN.out; omega
  have hw : IntKind.u64.wrap (n : Int) = (n : Int) := by rw [IntKind.wrap_u64]; omega
  clear hl
  go_enter Tryd.func68, Tryd.ntmps68
  go_wp2_with fail
  refine (cnum_any w.heap.size _ [] n (by omega) w (OwnB.nil _ _) (Nat.le_refl _) (by simp)).mono ?_
  rintro e w1 ⟨v1, rfl, ho1, hb1⟩
  have hI : LsInv w (encNum n ++ encAll encText (xs.take 0)) v1 w1 := ⟨by simpa [encAll] using ho1, hb1⟩
  clear ho1 hb1
  go_wp2
  go_loopw [5, 14] (fun u i wr => ∃ k : Nat, k ≤ n ∧ i = .int .i64 (k : Int) ∧ LsInv w (encNum n ++ encAll encText (xs.take k)) u wr) (fun _ i _ => n - (intOf i).toNat)
  case atStart => exact ⟨0, by omega, rfl, hI⟩
  case round =>
    clear hI hw
    obtain ⟨k, hk, rfl, hI⟩ := hrel
    have HI : Hid (LsInv w (encNum n ++ encAll encText (xs.take k)) u5 wr) := hI
    by_cases hlt : k < n
    · skip
      obtain ⟨ad', cap', hv', _, _, hx⟩ := HR.out.below hI.bel
      rw [← HNN.out] at hv' hx
      simp only [Value.slice.injEq, true_and] at hv'
      obtain ⟨rfl, rfl⟩ := hv'
      obtain ⟨b, off, rfl, hx2⟩ := hx (by omega)
      obtain ⟨vj, cj, hj⟩ := hx2 k hlt
      obtain ⟨y, HY⟩ : ∃ y, Hid (y = xs.getD k []) := ⟨_, rfl⟩
      have HJ : Hid (Reads wr vj y) := by rw [HY.out]; exact hj
      have HYL : Hid ((encNum n ++ encAll encText (xs.take k)).length + y.length + 20 ≤ 140737488355328) := by
        have h0 := flat_le xs k
        have h1 := encTexts_len (xs.take k) (by have := HLN.out; omega)
        have h2 := HLN.out
        have h3 := enc_len10 n (by omega)
        have h4 := getD_flat_le (ls := xs) k (by rw [← HNN.out]; exact hlt) (by have := h1; rw [List.length_take] at this; omega)
        rw [List.length_take] at h1
        show _ ≤ _
        rw [List.length_append, HY.out]
        omega
      have HE : Hid (encNum n ++ encAll encText (xs.take (k + 1)) = (encNum n ++ encAll encText (xs.take k)) ++ encText y) := by
        show _ = _
        rw [encAll_take encText xs k [] (by rw [← HNN.out]; exact hlt), HY.out, List.append_assoc]
      clear hx hx2 hI
      go_wp2_with fail
      refine (ctext_any w.heap.size _ _ (encNum n ++ encAll encText (xs.take k)) y wr HI.out.own HJ.out HI.out.bel.size (by have := HYL.out; omega)).mono ?_
      rintro e w2 ⟨v2, rfl, ho2, hb2⟩
      have HJ2 : Hid (LsInv w (encNum n ++ encAll encText (xs.take (k + 1))) v2 w2) := ⟨by rw [HE.out]; exact ho2, HI.out.bel.trans hb2⟩
      clear ho2 hb2 HI
      go_wp2
      go_roundw
      case rel => exact ⟨k + 1, by omega, by go_num, HJ2.out⟩
      case measure => simp [intOf]; omega
    · have hkn : k = n := by omega
      subst hkn
      have HV : Hid (OwnB wr w.heap.size u5 (encList encText xs)) := by
        have := hI.own
        rw [HNN.out, List.take_of_length_le (Nat.le_refl _)] at this
        exact this
      have hbel := hI.bel
      clear hI HI HR
      go_wp2
      go_ret
      exact ⟨_, rfl, HV.out, hbel⟩
set_option maxHeartbeats 400000 in
theorem ctexts_any (v : Value) (xs : List (List (BitVec 8))) (w : World) (hR : ReadsL w v xs) (hl : xs.flatten.length + 10 * xs.length + 40 ≤ 140737488355328) :
    Calls Tryd.prog 40 #[v] w fun e w' => ∃ v', e = .returned v' ∧ OwnB w' w.heap.size v' (encList encText xs) ∧ Below w.heap.size w w' := by
  go_enter Tryd.func40, Tryd.ntmps40
  go_wp2_with fail
  refine (listT_any v xs w hR hl).mono ?_
  rintro e w1 ⟨v1, rfl, ho1, hb1⟩
  go_wp2
  go_ret
  exact ⟨_, rfl, ho1, hb1⟩
end Go.Proofs.YtableajopaappaaDoor
/- The walk of what the statement CodecReader hands to Read. -/
namespace Go.Proofs.YtableajopaappaaDoor
open Go.RowKit
set_option maxRecDepth 100000
/-- what the statement's own reading comes to -/
def rdSpec (most : Int) (l : List (BitVec 8)) : Option ((Nat × List (BitVec 8) × List (BitVec 8)) × List (BitVec 8)) :=
  if most < 0 then none else
  match readCount most.toNat l with
  | none => none
  | some (n, r) =>
    if n = 2 then none else
    match (if 0 < n then cut 32 r else some (zb32, r)) with
    | none => none
    | some (d, r2) =>
      match readText r2 with
      | none => none
      | some (t, r3) => some ((n, d, t), r3)
/-- the world w' is w, below g + 8, but for the three variables and the input -/
structure FrC (g : Nat) (w w' : World) : Prop where
  os : w'.os = w.os
  tape : w'.tape = w.tape
  output : w'.output = w.output
  size : w.heap.size ≤ w'.heap.size
  block : ∀ k, k < g + 8 → k ≠ g + 5 → k ≠ g + 1 → k ≠ g + 2 → k ≠ g + 3 → w'.heap[k]? = w.heap[k]?
theorem FrC.refl (g : Nat) (w : World) : FrC g w w := ⟨rfl, rfl, rfl, Nat.le_refl _, fun _ _ _ _ _ _ => rfl⟩
theorem FrC.only {g : Nat} {a b c : World} (h : FrC g a b) (k : Only (g + 5) b c) (hB : g + 8 ≤ b.heap.size) : FrC g a c :=
  ⟨k.os.trans h.os, k.tape.trans h.tape, k.output.trans h.output, Nat.le_trans h.size k.size, fun i h1 h2 h3 h4 h5 => (k.block i h2 (by omega)).trans (h.block i h1 h2 h3 h4 h5)⟩
/-- the world w' is w but for block x -/
structure At (x : Nat) (w w' : World) : Prop where
  os : w'.os = w.os
  tape : w'.tape = w.tape
  output : w'.output = w.output
  size : w'.heap.size = w.heap.size
  block : ∀ k, k ≠ x → w'.heap[k]? = w.heap[k]?
theorem At.refl (x : Nat) (w : World) : At x w w := ⟨rfl, rfl, rfl, rfl, fun _ _ => rfl⟩
theorem At.setCell {x : Nat} {w w' : World} (h : At x w w') (o : Nat) (v : Value) : At x w (w'.setCell ⟨x, o, none⟩ v) :=
  ⟨h.os, h.tape, h.output, by have := h.size; simp [World.setCell]; omega, fun k hk => (Below.heap_setCell _ _ _ _ (by exact hk)).trans (h.block k hk)⟩
theorem At.setCells {x : Nat} {w : World} : ∀ (vs : List Value) (o : Nat) (w' : World), At x w w' → At x w (w'.setCells x o vs)
  | [], _, _, h => h
  | v :: r, o, w', h => by rw [World.setCells]; exact At.setCells r (o + 1) _ (h.setCell o v)
theorem FrC.at {g x : Nat} {a b c : World} (h : FrC g a b) (k : At x b c) (hx : x = g + 1 ∨ x = g + 2 ∨ x = g + 3) : FrC g a c :=
  ⟨k.os.trans h.os, k.tape.trans h.tape, k.output.trans h.output, by rw [k.size]; exact h.size, fun i h1 h2 h3 h4 h5 => (k.block i (by omega)).trans (h.block i h1 h2 h3 h4 h5)⟩
theorem Blk.at {w w' : World} {g x : Nat} {cs : List Value} {t : TypeId} (h : Blk w g cs t) (k : At x w w') (hne : g ≠ x) : Blk w' g cs t := by
  unfold Blk at *
  rw [k.block g hne]; exact h
theorem Reads.at {w w' : World} {x : Nat} {v : Value} {l : List (BitVec 8)} (h : Reads w v l) (k : At x w w') (hv : 0 < l.length → ∀ j, v.ownBlock = some j → j ≠ x) : Reads w' v l := by
  obtain ⟨ad, cap, rfl, hc, hn, hx⟩ := h
  refine ⟨ad, cap, rfl, hc, hn, fun hp => ?_⟩
  obtain ⟨b, off, rfl, h2⟩ := hx hp
  refine ⟨b, off, rfl, fun j hj => ?_⟩
  rw [World.cell?_of_block (w := w) (k.block b (hv hp b rfl))]
  exact h2 j hj
/-- the closure's variables, and the reader -/
structure Cv (g : Nat) (most : Int) (w1 : World) (vb : Value) (n : Int) (d : List (BitVec 8)) (v : Value) (l : List (BitVec 8)) (w : World) : Prop where
  rd : Rd w (g + 7) (g + 5) v l
  mm : Blk w g [.int .i64 most] 3
  nn : Blk w (g + 1) [.int .i64 n] 3
  dd : Blk w (g + 2) (cb d) 23
  tt : Blk w (g + 3) [.slice none 0 0] 28
  fr : FrC g w1 w
  ob : v.ownBlock = vb.ownBlock
  sz : g + 8 ≤ w.heap.size
theorem Cv.only {g : Nat} {most : Int} {w1 w w' : World} {vb v v' : Value} {n : Int} {d l l' : List (BitVec 8)} (h : Cv g most w1 vb n d v l w) (ho : Only (g + 5) w w') (hr : Rd w' (g + 7) (g + 5) v' l') (hob : v'.ownBlock = v.ownBlock) : Cv g most w1 vb n d v' l' w' :=
  ⟨hr, h.mm.only ho (by omega), h.nn.only ho (by omega), h.dd.only ho (by omega), h.tt.only ho (by omega), h.fr.only ho h.sz, hob.trans h.ob, Nat.le_trans h.sz ho.size⟩
def CvA (g : Nat) (most : Int) (l : List (BitVec 8)) (w1 : World) (l2 : List (BitVec 8)) (w2 : World) : Prop :=
  ∃ (n : Nat) (d t : List (BitVec 8)) (vt : Value), rdSpec most l = some ((n, d, t), l2) ∧ d.length = 32 ∧ Blk w2 (g + 1) [.int .i64 (n : Int)] 3 ∧ Blk w2 (g + 2) (cb d) 23 ∧ Blk w2 (g + 3) [vt] 28 ∧ Reads w2 vt t ∧ (∀ j, vt.ownBlock = some j → g + 8 ≤ j) ∧ FrC g w1 w2
def CvB (g : Nat) (most : Int) (l : List (BitVec 8)) (w1 w2 : World) : Prop := rdSpec most l = none ∧ FrC g w1 w2
theorem Cv.threw {g : Nat} {most : Int} {w1 w w' : World} {vb v : Value} {n : Int} {d l l0 : List (BitVec 8)} {e : Ending} (h : Cv g most w1 vb n d v l w) (hT : Threw (g + 5) w e w') (hs : rdSpec most l0 = none) : Does (g + 4) (CvA g most l0 w1) (CvB g most l0 w1) w1 (thrown (g + 5)) w' := by
  have hf := h.fr.only hT.onl h.sz
  obtain ⟨v', hb, ad, m, c, hv⟩ := hT.bad
  exact ⟨hf.size, fun k h1 h2 h3 => hf.block k (by omega) (by omega) (by omega) (by omega) (by omega), Or.inr ⟨rfl, ⟨v', ad, m, c, hv, hb⟩, hs, hf⟩⟩
theorem Cv.done {g : Nat} {most : Int} {w1 w w2 : World} {vb v v2 vt : Value} {n : Nat} {d l l0 t r : List (BitVec 8)} (h : Cv g most w1 vb (n : Int) d v l w) (hv : ∀ j, vb.ownBlock = some j → j < g) (hd : d.length = 32) (ho : Only (g + 5) w w2) (hrd : Rd w2 (g + 7) (g + 5) v2 r) (hob : v2.ownBlock = v.ownBlock) (hown : OwnB w2 w.heap.size vt t) (hs : rdSpec most l0 = some ((n, d, t), r)) :
    Does (g + 4) (CvA g most l0 w1) (CvB g most l0 w1) w1 (.returned (.tuple #[])) (w2.setCell ⟨g + 3, 0, none⟩ vt) := by
  have h2 := h.only ho hrd hob
  have ha : At (g + 3) w2 (w2.setCell ⟨g + 3, 0, none⟩ vt) := (At.refl _ _).setCell _ _
  have hf := h2.fr.at ha (by omega)
  have hge : ∀ j, vt.ownBlock = some j → g + 8 ≤ j := fun j hj => Nat.le_trans h.sz (hown.own j hj)
  exact ⟨hf.size, fun k h1 h2 h3 => hf.block k (by omega) (by omega) (by omega) (by omega) (by omega), Or.inl ⟨rfl, v2, r,
    ⟨hrd.rd.at ha (by omega), hrd.inp.at ha (by omega), hrd.byt.at ha (fun _ j hj => by have := hv j (h2.ob ▸ hj); omega)⟩,
    n, d, t, vt, hs, hd, h2.nn.at ha (by omega), h2.dd.at ha (by omega), h2.tt.set 0 vt, hown.reads.at ha (fun _ j hj => by have := hge j hj; omega), hge, hf⟩⟩
end Go.Proofs.YtableajopaappaaDoor
/- What CodecReader's call of Read comes to; two digests held against each other. -/
namespace Go.Proofs.YtableajopaappaaDoor
open Go.RowKit
set_option maxRecDepth 100000
/-- what Read comes to, in the law -/
structure Rdo (g : Nat) (most : Int) (l : List (BitVec 8)) (w w' : World) (en : Int) : Prop where
  bel : Below g w w'
  sz : g + 8 ≤ w'.heap.size
  mm : Blk w' g [.int .i64 most] 3
  out : (en = 0 ∧ ∃ (n : Nat) (d t : List (BitVec 8)) (vt : Value), rdSpec most l = some ((n, d, t), []) ∧ d.length = 32 ∧ Blk w' (g + 1) [.int .i64 (n : Int)] 3 ∧ Blk w' (g + 2) (cb d) 23 ∧ Blk w' (g + 3) [vt] 28 ∧ Reads w' vt t) ∨ (en = 3 ∧ ∀ x, rdSpec most l ≠ some (x, []))
def w4 (w : World) (most : Int) : World := (((w.alloc (.cells #[.int .i64 most] 3)).alloc (.cells #[.int .i64 0] 3)).alloc (.cells (cb zb32).toArray 23)).alloc (.cells #[.slice none 0 0] 28)
theorem Blk.past4 {H g : Nat} {w w' : World} {cs : List Value} {t : TypeId} (h : Blk w g cs t) (k : Past H w w') (hg : g < H) : Blk w' g cs t := by
  unfold Blk at *
  rw [k.block g (Or.inl hg)]; exact h
end Go.Proofs.YtableajopaappaaDoor
/- What the walks of record share: kinds of things, what a reading of one comes to; regions that draw. -/
namespace Go.Proofs.YtableajopaappaaDoor
open Go.RowKit
set_option maxRecDepth 100000
theorem doesMono {H : Nat} {A A' : List (BitVec 8) → World → Prop} {B B' : World → Prop} {w1 w2 : World} {e : Ending} (h : Does H A B w1 e w2) (ha : ∀ l, A l w2 → A' l w2) (hb : B w2 → B' w2) : Does H A' B' w1 e w2 :=
  ⟨h.size, h.kept, h.way.elim (fun ⟨h1, v2, l2, h2, h3⟩ => Or.inl ⟨h1, v2, l2, h2, ha l2 h3⟩) (fun ⟨h1, h2, h3⟩ => Or.inr ⟨h1, h2, hb h3⟩)⟩
/-- a kind of things: its type, its zero's cells, and which cells are a thing (what they point to lies from block b on) -/
structure Kd (α : Type) where
  ty : TypeId
  z : List Value
  G : World → Nat → α → List Value → Prop
structure KdOk {α : Type} (K : Kd α) : Prop where
  info : (Tryd.prog.info? K.ty).map (·.size) = some K.z.length
  len : ∀ {w b a cs}, K.G w b a cs → cs.length = K.z.length
  one : ∀ {w b a cs}, K.G w b a cs → ∀ v ∈ cs, v.oneCell' = true
  same : ∀ {w w' b a cs}, K.G w b a cs → (∀ k, b ≤ k → k < w.heap.size → w'.heap[k]? = w.heap[k]?) → K.G w' b a cs
  mono : ∀ {w b b' a cs}, K.G w b a cs → b' ≤ b → K.G w b' a cs
  zone : ∀ v ∈ K.z, v.oneCell' = true
theorem KdOk.size {α : Type} {K : Kd α} (h : KdOk K) {w : World} {b : Nat} {a : α} {cs : List Value} (hG : K.G w b a cs) : (Tryd.prog.info? K.ty).map (·.size) = some cs.toArray.size := by rw [List.size_toArray, h.len hG]; exact h.info
theorem KdOk.below {α : Type} {K : Kd α} (h : KdOk K) {w w' : World} {b : Nat} {a : α} {cs : List Value} (hG : K.G w b a cs) (hb : Below w.heap.size w w') : K.G w' b a cs := h.same hG fun k _ hk => hb.block k hk
/-- what one reading of such a thing does -/
def OneDoes {α : Type} (K : Kd α) (F : Nat) (spec : List (BitVec 8) → Option (α × List (BitVec 8))) : Prop :=
  ∀ (gr gi : Nat) (v : Value) (l : List (BitVec 8)) (w : World), Rd w gr gi v l → Calls Tryd.prog F #[.pointer (some ⟨gr, 0, none⟩)] w fun e w' => RdDoes gr gi v w (spec l) (fun a w' v => ∃ cs : List Value, v = .agg cs.toArray ∧ K.G w' w.heap.size a cs) e w'
/-- what is read to the end -/
def whole {α : Type} (o : Option (α × List (BitVec 8))) : Option α :=
  match o with
  | some (a, []) => some a
  | _ => none
/-- what a call that reads a thing out of bytes answers -/
def RdRes {α : Type} (K : Kd α) (w : World) (o : Option α) (e : Ending) (w' : World) : Prop :=
  Below w.heap.size w w' ∧ ((∃ a cs, o = some a ∧ e = .returned (.tuple #[.agg (cs : List Value).toArray, .int .i64 0]) ∧ K.G w' w.heap.size a cs) ∨ (o = none ∧ e = .returned (.tuple #[.agg K.z.toArray, .int .i64 3])))
/-- w' is w but for the blocks g + 2, g + 4 and new ones -/
structure Fr3 (g : Nat) (w w' : World) : Prop where
  os : w'.os = w.os
  tape : w'.tape = w.tape
  output : w'.output = w.output
  size : w.heap.size ≤ w'.heap.size
  block : ∀ k, k ≠ g + 2 → k ≠ g + 4 → k < w.heap.size → w'.heap[k]? = w.heap[k]?
theorem Fr3.of_only {g : Nat} {w w' : World} (h : Only (g + 4) w w') : Fr3 g w w' := ⟨h.os, h.tape, h.output, h.size, fun k _ h2 h3 => h.block k h2 h3⟩
theorem Fr3.at {g : Nat} {w a b : World} (h : Fr3 g w a) (k : At (g + 2) a b) : Fr3 g w b :=
  ⟨k.os.trans h.os, k.tape.trans h.tape, k.output.trans h.output, by rw [k.size]; exact h.size, fun j h1 h2 h3 => (k.block j h1).trans (h.block j h1 h2 h3)⟩
def RA {α : Type} (K : Kd α) (spec : List (BitVec 8) → Option (α × List (BitVec 8))) (g : Nat) (l : List (BitVec 8)) (w1 : World) (l2 : List (BitVec 8)) (w2 : World) : Prop :=
  ∃ a cs, spec l = some (a, l2) ∧ Blk w2 (g + 2) cs K.ty ∧ K.G w2 (g + 7) a cs ∧ Fr3 g w1 w2
def RB {α : Type} (spec : List (BitVec 8) → Option (α × List (BitVec 8))) (g : Nat) (l : List (BitVec 8)) (w1 w2 : World) : Prop := spec l = none ∧ Fr3 g w1 w2
/-- where the reading's function begins -/
structure At1 {α : Type} (K : Kd α) (F : Nat) (fty : TypeId) (g : Nat) (vb : Value) (l : List (BitVec 8)) (w1 : World) : Prop where
  rd : Rd w1 (g + 6) (g + 4) vb l
  fn : Blk w1 g [.func (.func F) #[] #[]] fty
  th : Blk w1 (g + 2) K.z K.ty
  sz : w1.heap.size = g + 7
  vb : 0 < l.length → ∀ j, vb.ownBlock = some j → j < g
theorem At1.threw {α : Type} {K : Kd α} {F : Nat} {fty : TypeId} {g : Nat} {vb : Value} {l : List (BitVec 8)} {w1 w' : World} {e : Ending} (h : At1 K F fty g vb l w1) {spec : List (BitVec 8) → Option (α × List (BitVec 8))} (hT : Threw (g + 4) w1 e w') (hs : spec l = none) :
    Does (g + 3) (RA K spec g l w1) (RB spec g l w1) w1 (thrown (g + 4)) w' := by
  obtain ⟨v', hb, ad, m, c, hv⟩ := hT.bad
  refine ⟨hT.onl.size, fun k h1 h2 h3 => hT.onl.block k h3 (by rw [h.sz]; omega), Or.inr ⟨rfl, ⟨v', ad, m, c, hv, hb⟩, hs, Fr3.of_only hT.onl⟩⟩
theorem At1.there {α : Type} {K : Kd α} (hK : KdOk K) {F : Nat} {fty : TypeId} {g : Nat} {vb : Value} {l : List (BitVec 8)} {w1 w2 : World} {a : α} {b : Nat} {cs : List Value} (h : At1 K F fty g vb l w1) (ho : Only (g + 4) w1 w2) (hG : K.G w2 b a cs) : w2.there (g + 2) 0 cs.toArray.size :=
  (h.th.only ho (by omega)).there 0 _ (by rw [List.size_toArray, hK.len hG]; omega)
theorem At1.done {α : Type} {K : Kd α} (hK : KdOk K) {F : Nat} {fty : TypeId} {g : Nat} {vb v2 : Value} {l r : List (BitVec 8)} {w1 w2 : World} {a : α} {cs : List Value} (h : At1 K F fty g vb l w1) {spec : List (BitVec 8) → Option (α × List (BitVec 8))} (hnil : spec [] = none)
    (hs : spec l = some (a, r)) (hG : K.G w2 w1.heap.size a cs) (hrd : Rd w2 (g + 6) (g + 4) v2 r) (ho : Only (g + 4) w1 w2) (hob : v2.ownBlock = vb.ownBlock) :
    Does (g + 3) (RA K spec g l w1) (RB spec g l w1) w1 (.returned (.tuple #[])) (w2.setCells (g + 2) 0 cs) := by
  have hp : 0 < l.length := by
    cases l with
    | nil => rw [hnil] at hs; cases hs
    | cons x y => simp
  have ha : At (g + 2) w2 (w2.setCells (g + 2) 0 cs) := At.setCells _ _ _ (At.refl _ _)
  have hf := (Fr3.of_only ho).at ha
  have hz := h.sz
  refine ⟨hf.size, fun k h1 h2 h3 => hf.block k (by omega) (by omega) (by omega), Or.inl ⟨rfl, v2, r, ⟨hrd.rd.at ha (by omega), hrd.inp.at ha (by omega), hrd.byt.at ha (fun _ j hj => by have := h.vb hp j (hob ▸ hj); omega)⟩, a, cs, hs, ?_, ?_, hf⟩⟩
  · exact (h.th.only ho (by omega)).whole cs (hK.len hG)
  · rw [hz] at hG
    exact hK.same hG fun k h1 _ => ha.block k (by omega)
/-- what Read comes to -/
structure RdoT {α : Type} (K : Kd α) (spec : List (BitVec 8) → Option (α × List (BitVec 8))) (g : Nat) (l : List (BitVec 8)) (w w' : World) (en : Int) : Prop where
  bel : Below g w w'
  sz : g + 7 ≤ w'.heap.size
  res : Blk w' (g + 1) K.z K.ty
  out : (en = 0 ∧ ∃ a cs, whole (spec l) = some a ∧ Blk w' (g + 2) cs K.ty ∧ K.G w' (g + 7) a cs) ∨ (en = 3 ∧ whole (spec l) = none)
def w3 {α : Type} (K : Kd α) (F : Nat) (fty : TypeId) (w : World) : World := ((w.alloc (.cells #[.func (.func F) #[] #[]] fty)).alloc (.cells K.z.toArray K.ty)).alloc (.cells K.z.toArray K.ty)
theorem rd_of {α : Type} {K : Kd α} (hK : KdOk K) (F F1 : Nat) (fty : TypeId) (spec : List (BitVec 8) → Option (α × List (BitVec 8))) (hen : ∀ xs w, (callFunc F1 xs).run Tryd.prog w = .ok (.enter F1 xs) w)
    (h1 : ∀ (g : Nat) (vb : Value) (l : List (BitVec 8)) (w1 : World), At1 K F fty g vb l w1 → Calls Tryd.prog F1 #[.pointer (some ⟨g + 6, 0, none⟩), .pointer (some ⟨g, 0, none⟩), .pointer (some ⟨g + 2, 0, none⟩)] w1 (Does (g + 3) (RA K spec g l w1) (RB spec g l w1) w1))
    (g : Nat) (vb : Value) (l : List (BitVec 8)) (w : World) (hg : w.heap.size = g) (hb : Reads w vb l) :
    Calls Tryd.prog 79 #[vb, .func (.func F1) #[] #[.pointer (some ⟨g, 0, none⟩), .pointer (some ⟨g + 2, 0, none⟩)]] (w3 K F fty w) fun e w' => ∃ en, e = .returned (.int .i64 en) ∧ RdoT K spec g l w w' en := by
  have hvb := hb.inB
  subst hg
  have hz : (w3 K F fty w).heap.size = w.heap.size + 3 := by simp [w3]
  have hB : Below w.heap.size w (w3 K F fty w) := ((((Below.refl _ _).alloc (Nat.le_refl _) _).alloc (by simp) _).alloc (by simp; omega) _)
  have b0 : Blk (w3 K F fty w) w.heap.size [.func (.func F) #[] #[]] fty := ((Blk.new w [.func (.func F) #[] #[]] fty).alloc _).alloc _
  have b1 : Blk (w3 K F fty w) (w.heap.size + 1) K.z K.ty := (Blk.new_at (w := w.alloc _) (by simp) K.z K.ty).alloc _
  have b2 : Blk (w3 K F fty w) (w.heap.size + 2) K.z K.ty := Blk.new_at (w := (w.alloc _).alloc _) (by simp) K.z K.ty
  have hR := hb.below hB
  generalize w3 K F fty w = W at *
  have h := read_any F1 #[.pointer (some ⟨w.heap.size, 0, none⟩), .pointer (some ⟨w.heap.size + 2, 0, none⟩)] vb l
    (fun l2 w2 => ∃ w1, Below (w.heap.size + 3) W w1 ∧ w1.heap.size = w.heap.size + 7 ∧ RA K spec w.heap.size l w1 l2 w2) (fun w2 => ∃ w1, Below (w.heap.size + 3) W w1 ∧ w1.heap.size = w.heap.size + 7 ∧ RB spec w.heap.size l w1 w2) W hR hen
  rw [hz] at h
  refine (h ?_).mono ?_
  · intro w1 h2 h3 h4
    refine (h1 w.heap.size vb l w1 ⟨h4, b0.below h3 (by omega), b2.below h3 (by omega), by omega, hvb⟩).mono ?_
    intro e w2 hD
    exact doesMono hD (fun l2 hA => ⟨w1, h3, by omega, hA⟩) (fun hB => ⟨w1, h3, by omega, hB⟩)
  · rintro e w' ⟨w2, hP, hway⟩
    have hbl : ∀ w1, Below (w.heap.size + 3) W w1 → w1.heap.size = w.heap.size + 7 → Fr3 w.heap.size w1 w2 → Below w.heap.size w w' ∧ w.heap.size + 7 ≤ w'.heap.size ∧ Blk w' (w.heap.size + 1) K.z K.ty := by
      intro w1 h1 h2 hf
      refine ⟨⟨hP.os.trans (hf.os.trans (h1.os.trans hB.os)), hP.tape.trans (hf.tape.trans (h1.tape.trans hB.tape)), hP.output.trans (hf.output.trans (h1.output.trans hB.output)), ?_, ?_⟩, ?_, ?_⟩
      · have := hf.size; rw [hP.size]; omega
      · intro k hk
        rw [hP.block k (Or.inl (by omega)), hf.block k (by omega) (by omega) (by omega), h1.block k (by omega), hB.block k hk]
      · have := hf.size; rw [hP.size]; omega
      · have hb1 := b1.below h1 (by omega)
        unfold Blk at hb1 ⊢
        rw [hP.block _ (Or.inl (by omega)), hf.block _ (by omega) (by omega) (by omega)]
        exact hb1
    rcases hway with ⟨l2, ⟨w1, h1, h2, a, cs, hs, c2, hG, hf⟩, rfl⟩ | ⟨⟨w1, h1, h2, hs, hf⟩, rfl⟩
    · obtain ⟨k1, k2, k3⟩ := hbl w1 h1 h2 hf
      refine ⟨_, rfl, k1, k2, k3, ?_⟩
      cases l2 with
      | nil => exact Or.inl ⟨if_pos rfl, a, cs, by rw [hs]; rfl, c2.past4 hP (by omega), hK.same hG fun k h3 _ => hP.block k (Or.inr (by omega))⟩
      | cons x y => exact Or.inr ⟨if_neg (by simp), by rw [hs]; rfl⟩
    · obtain ⟨k1, k2, k3⟩ := hbl w1 h1 h2 hf
      exact ⟨_, rfl, k1, k2, k3, Or.inr ⟨rfl, by rw [hs]; rfl⟩⟩
theorem results_row_tmp5 {fn : Func} {p u : Tmp} {ty : TypeId} (h : fn.results = #[.cell p ty, .tmp u]) (tmps : Array Value) (P : Program) (w : World) (g : Nat) (t : TypeId) (cs : List Value) (d : TypeDesc) (x : Value)
    (hp : tmps.getD p undef = .pointer (some ⟨g, 0, none⟩)) (hx : tmps.getD u undef = x) (hg : Blk w g cs t) (hu : P.underlying ty = some d) (hd : d.isRow = true) (hi : (P.info? ty).map (·.size) = some cs.length) :
    (results fn tmps).run P w = .ok (.tuple #[.agg cs.toArray, x]) w := by
  rw [results_cell_tmp h, hp, hx]
  simp only [asAddr, Sem.run_pure, Result.andThen_ok, run_loadVar_mid w g 0 ty cs d hg.range hu hd hi]
end Go.Proofs.YtableajopaappaaDoor
/- The four kinds of things; the walks of record's read, and of ReadBinding, ReadRequest, ReadSigned and ReadProof by what reads one. -/
namespace Go.Proofs.YtableajopaappaaDoor
open Go.RowKit
set_option maxRecDepth 100000
def sgnV (ep : Nat) (x y z : List (BitVec 8)) (vs : Value) : List Value := .int .u64 (ep : Int) :: (cb x ++ (cb y ++ (cb z ++ [vs])))
theorem OwnB.one {w : World} {base : Nat} {v : Value} {l : List (BitVec 8)} (h : OwnB w base v l) : v.oneCell' = true := by
  obtain ⟨ad, c, rfl, _⟩ := h.reads
  rfl
theorem OwnB.keep {w w' : World} {base : Nat} {v : Value} {l : List (BitVec 8)} (h : OwnB w base v l) (hs : ∀ k, base ≤ k → k < w.heap.size → w'.heap[k]? = w.heap[k]?) : OwnB w' base v l := h.same fun k hk => hs k (h.own k hk) (h.lt k hk)
def sgnK : Kd (Nat × List (BitVec 8) × List (BitVec 8) × List (BitVec 8) × List (BitVec 8)) := { ty := 30, z := sgnV 0 zb32 zb32 zb32 nilV, G := fun w b a cs => ∃ vs, cs = sgnV a.1 a.2.1 a.2.2.1 a.2.2.2.1 vs ∧ OwnB w b vs a.2.2.2.2 ∧ a.2.1.length = 32 ∧ a.2.2.1.length = 32 ∧ a.2.2.2.1.length = 32 ∧ a.1 < 18446744073709551616 }
theorem cb_one' {l : List (BitVec 8)} {v : Value} (h : v ∈ cb l) : v.oneCell' = true := cb_one l v h
theorem sgnK_ok : KdOk sgnK where
  info := by kernel_rfl
  len := by rintro w b a cs ⟨vk, rfl, _, h1, h2, h3, _⟩; simp only [sgnV, sgnK, List.length_cons, List.length_append, List.length_nil, cb_len, h1, h2, h3, len_zb32]
  one := by
    rintro w b a cs ⟨vk, rfl, ho, _⟩ v hv
    simp only [sgnV, List.mem_cons, List.mem_append, List.not_mem_nil, or_false] at hv
    rcases hv with rfl | hv | hv | hv | rfl
    · rfl
    · exact cb_one' hv
    · exact cb_one' hv
    · exact cb_one' hv
    · exact ho.one
  same := by rintro w w' b a cs ⟨vk, rfl, ho, h⟩ hs; exact ⟨vk, rfl, ho.keep hs, h⟩
  mono := by rintro w b b' a cs ⟨vk, rfl, ho, h⟩ hb; exact ⟨vk, rfl, ho.mono hb, h⟩
  zone := by
    intro v hv
    simp only [sgnK, sgnV, List.mem_cons, List.mem_append, List.not_mem_nil, or_false] at hv
    rcases hv with rfl | hv | hv | hv | rfl
    · rfl
    · exact cb_one' hv
    · exact cb_one' hv
    · exact cb_one' hv
    · rfl
theorem allocSigned (f : Operand → Value) (o : Oper) (ho : o.op = .alloc 30) (w : World) : (execOp f o).run Tryd.prog w = .ok (.value (.pointer (some ⟨w.heap.size, 0, none⟩))) (w.alloc (.cells sgnK.z.toArray 30)) := by
  unfold execOp
  rw [ho]
  kernel_rfl
theorem enter_ofSigned1 : ∀ xs w, (callFunc 84 xs).run Tryd.prog w = .ok (.enter 84 xs) w := fun _ _ => by kernel_rfl
set_option maxRecDepth 100000 in
set_option maxHeartbeats 1000000 in
theorem ofSigned1_any {spec} (hOne : OneDoes sgnK 59 spec) (hnil : spec [] = none) (g : Nat) (vb : Value) (l : List (BitVec 8)) (w1 : World) (h : At1 sgnK 59 92 g vb l w1) :
    Calls Tryd.prog 84 #[.pointer (some ⟨g + 6, 0, none⟩), .pointer (some ⟨g, 0, none⟩), .pointer (some ⟨g + 2, 0, none⟩)] w1 (Does (g + 3) (RA sgnK spec g l w1) (RB spec g l w1) w1) := by
  have HA : Hid (At1 sgnK 59 92 g vb l w1) := h
  have HN : Hid (spec [] = none) := hnil
  have HO : Hid (OneDoes sgnK 59 spec) := hOne
  have c0 : w1.cell? ⟨g, 0, none⟩ = some (.func (.func 59) #[] #[]) := h.fn.cell 0
  clear h hnil hOne
  go_enter Tryd.func84, Tryd.ntmps84
  go_wp2_with fail
  refine Calls.mono (HO.out (g + 6) (g + 4) vb l w1 HA.out.rd) ?_
  rintro e w2 (⟨a, r, va, v2, hs, rfl, ⟨cs, rfl, hG⟩, hrd, ho, hob⟩ | ⟨hs, hT⟩)
  case inr =>
    have HD : Hid (Does (g + 3) (RA sgnK spec g l w1) (RB spec g l w1) w1 (thrown (g + 4)) w2) := HA.out.threw hT hs
    obtain rfl := hT.eq
    unfold thrown at HD ⊢
    clear hT HA hs
    go_wp2
    exact ⟨rfl, HD.out⟩
  have HD : Hid (Does (g + 3) (RA sgnK spec g l w1) (RB spec g l w1) w1 (.returned (.tuple #[])) (w2.setCells (g + 2) 0 cs)) := HA.out.done sgnK_ok HN.out hs hG hrd ho hob
  have HT : Hid (w2.there (g + 2) 0 cs.toArray.size) := HA.out.there sgnK_ok ho hG
  have HI : Hid ((Tryd.prog.info? 30).map (·.size) = some cs.toArray.size) := sgnK_ok.size hG
  have H1 : Hid (cs.toArray.all (·.oneCell') = true) := all_oneCell_toArray (sgnK_ok.one hG)
  clear hs hG hrd ho hob HA c0
  go_wp2_with (refine wpList_store_mid rfl 30 _ _ rfl (g + 2) 0 cs.toArray rfl rfl HT.out HI.out H1.out ?_)
  go_end0
  exact HD.out
set_option maxRecDepth 100000 in
set_option maxHeartbeats 1000000 in
theorem ofSigned_any {spec} (hOne : OneDoes sgnK 59 spec) (hnil : spec [] = none) (vb : Value) (l : List (BitVec 8)) (w : World) (hb : Reads w vb l) :
    Calls Tryd.prog 58 #[vb, .func (.func 59) #[] #[]] w (RdRes sgnK w (whole (spec l))) := by
  have hmf : ∀ (fn : Fn) (first cap : Array Value) (w : World), (Instr.makeFunc fn first cap).run Tryd.prog w = .ok (.func fn first cap) w := fun _ _ _ _ => rfl
  obtain ⟨g, HG⟩ : ∃ g, Hid (w.heap.size = g) := ⟨_, rfl⟩
  have HRd : Hid (Calls Tryd.prog 79 #[vb, .func (.func 84) #[] #[.pointer (some ⟨g, 0, none⟩), .pointer (some ⟨g + 2, 0, none⟩)]] (w3 sgnK 59 92 w) fun e w' => ∃ en, e = .returned (.int .i64 en) ∧ RdoT sgnK spec g l w w' en) :=
    rd_of sgnK_ok 59 84 92 spec enter_ofSigned1 (fun g vb l w1 h => ofSigned1_any hOne hnil g vb l w1 h) g vb l w HG.out hb
  clear hb hOne hnil
  go_enter Tryd.func58, Tryd.ntmps58
  go_wp2_with fail
  generalize hoz : Obj.cells _ 30 = oz
  have hz : oz = Obj.cells sgnK.z.toArray 30 := hoz.symm
  clear hoz
  subst hz
  have e0 : (some ⟨w.heap.size, 0, none⟩ : Option Addr) = some ⟨g, 0, none⟩ := by rw [HG.out]
  have e1 : (some ⟨w.heap.size + 1, 0, none⟩ : Option Addr) = some ⟨g + 1, 0, none⟩ := by rw [HG.out]
  have e2 : (some ⟨w.heap.size + 1 + 1, 0, none⟩ : Option Addr) = some ⟨g + 2, 0, none⟩ := by rw [HG.out]
  simp only [e0, e1, e2]
  clear e0 e1 e2
  refine Calls.mono HRd.out ?_
  rintro e w5 ⟨en, rfl, hO⟩
  have HO : Hid (RdoT sgnK spec g l w w5 en) := hO
  clear hO HRd
  rcases HO.out.out with ⟨rfl, a, cs, hw, b2, hG⟩ | ⟨rfl, hw⟩
  · have HW : Hid (whole (spec l) = some a) := hw
    have HGG : Hid (sgnK.G w5 (g + 7) a cs) := hG
    have HR : Hid (Blk w5 (g + 1) sgnK.z 30) := HO.out.res
    have HB2 : Hid (Blk w5 (g + 2) cs 30) := b2
    have HI : Hid ((Tryd.prog.info? 30).map (·.size) = some cs.length) := by have := sgnK_ok.size hG; rw [List.size_toArray] at this; exact this
    have H1 : Hid (cs.toArray.all (·.oneCell') = true) := all_oneCell_toArray (sgnK_ok.one hG)
    have HLN : Hid (cs.length = sgnK.z.length) := sgnK_ok.len hG
    clear hw hG b2
    go_wp2_with (first
      | (refine wpSeq_val (.agg cs.toArray) _ (by rfl) (load_run 30 _ rfl (g + 2) 0 rfl cs _ HB2.out.range Tryd.underlying30 rfl HI.out) ?_)
      | (refine wpList_store_mid rfl 30 _ _ rfl (g + 1) 0 cs.toArray rfl rfl (HR.out.there 0 _ (by rw [List.size_toArray, HLN.out]; omega)) (by rw [List.size_toArray]; exact HI.out) H1.out ?_))
    have hB6 := HR.out.whole cs HLN.out
    have ha : At (g + 1) w5 (w5.setCells (g + 1) 0 cs) := At.setCells _ _ _ (At.refl _ _)
    refine bodyPost_ret (v := .tuple #[.agg cs.toArray, .int .i64 0]) (results_row_tmp5 (by rfl) _ _ _ (g + 1) 30 cs _ (.int .i64 0) rfl rfl hB6 Tryd.underlying30 rfl HI.out) rfl ⟨?_, Or.inl ⟨a, cs, HW.out, rfl, ?_⟩⟩
    · rw [HG.out]
      exact Below.setCells _ (by omega) _ _ _ HO.out.bel
    · rw [HG.out]
      exact sgnK_ok.mono (sgnK_ok.same HGG.out fun k h1 _ => ha.block k (by omega)) (by omega)
  · have HW : Hid (whole (spec l) = none) := hw
    have HR : Hid (Blk w5 (g + 1) sgnK.z 30) := HO.out.res
    have HI : Hid ((Tryd.prog.info? 30).map (·.size) = some sgnK.z.length) := sgnK_ok.info
    have H1 : Hid (sgnK.z.toArray.all (·.oneCell') = true) := all_oneCell_toArray sgnK_ok.zone
    have HRA : Hid (Blk (w5.alloc (.cells sgnK.z.toArray 30)) (g + 1) sgnK.z 30) := HR.out.alloc _
    have HNA : Hid (Blk (w5.alloc (.cells sgnK.z.toArray 30)) w5.heap.size sgnK.z 30) := Blk.new _ _ _
    clear hw HR
    go_wp2_with (first
      | (refine wpSeq_val (.pointer (some ⟨w5.heap.size, 0, none⟩)) (w5.alloc (.cells sgnK.z.toArray 30)) (by rfl) (allocSigned _ _ rfl _) ?_)
      | (refine wpSeq_val (.agg sgnK.z.toArray) _ (by rfl) (load_run 30 _ rfl w5.heap.size 0 rfl sgnK.z _ HNA.out.range Tryd.underlying30 rfl HI.out) ?_)
      | (refine wpList_store_mid rfl 30 _ _ rfl (g + 1) 0 sgnK.z.toArray rfl rfl (HRA.out.there 0 _ (by rw [List.size_toArray]; omega)) (by rw [List.size_toArray]; exact HI.out) H1.out ?_))
    have hB6 := HRA.out.whole sgnK.z rfl
    refine bodyPost_ret (v := .tuple #[.agg sgnK.z.toArray, .int .i64 3]) (results_row_tmp5 (by rfl) _ _ _ (g + 1) 30 sgnK.z _ (.int .i64 3) rfl rfl hB6 Tryd.underlying30 rfl HI.out) rfl ⟨?_, Or.inr ⟨HW.out, rfl⟩⟩
    rw [HG.out]
    exact Below.setCells _ (by omega) _ _ _ (HO.out.bel.alloc (by have := HO.out.sz; omega) _)
set_option maxRecDepth 100000 in
set_option maxHeartbeats 1000000 in
theorem rdSigned_any {spec} (hOne : OneDoes sgnK 59 spec) (hnil : spec [] = none) (vb : Value) (l : List (BitVec 8)) (w : World) (hb : Reads w vb l) :
    Calls Tryd.prog 33 #[vb] w (RdRes sgnK w (whole (spec l))) := by
  have HO : Hid (OneDoes sgnK 59 spec) := hOne
  have HN : Hid (spec [] = none) := hnil
  have HB : Hid (Reads w vb l) := hb
  clear hOne hnil hb
  go_enter Tryd.func33, Tryd.ntmps33
  go_wp2_with fail
  generalize hoz : Obj.cells _ 30 = oz
  have hz : oz = Obj.cells sgnK.z.toArray 30 := hoz.symm
  clear hoz
  subst hz
  have HB0 : Hid (Below w.heap.size w (w.alloc (.cells sgnK.z.toArray 30))) := below_alloc _ _
  have HZ0 : Hid (Blk (w.alloc (.cells sgnK.z.toArray 30)) w.heap.size sgnK.z 30) := Blk.new _ _ _
  have HR0 : Hid (Reads (w.alloc (.cells sgnK.z.toArray 30)) vb l) := HB.out.below HB0.out
  generalize w.alloc (.cells sgnK.z.toArray 30) = w0 at *
  refine Calls.mono (ofSigned_any HO.out HN.out vb l w0 HR0.out) ?_
  rintro e w1 ⟨hb1, h⟩
  have HB1 : Hid (Below w.heap.size w w1) := HB0.out.trans (hb1.mono HB0.out.size)
  have HZ1 : Hid (Blk w1 w.heap.size sgnK.z 30) := HZ0.out.below hb1 HZ0.out.lt
  have HLT : Hid (w.heap.size < w0.heap.size) := HZ0.out.lt
  clear hb1 HB0 HZ0 HR0 HB HO HN
  rcases h with ⟨a, cs, hw, rfl, hG⟩ | ⟨hw, rfl⟩
  · have HW : Hid (whole (spec l) = some a) := hw
    have HGG : Hid (sgnK.G w1 w0.heap.size a cs) := hG
    have HI : Hid ((Tryd.prog.info? 30).map (·.size) = some cs.length) := by have := sgnK_ok.size hG; rw [List.size_toArray] at this; exact this
    have H1 : Hid (cs.toArray.all (·.oneCell') = true) := all_oneCell_toArray (sgnK_ok.one hG)
    have HLN : Hid (cs.length = sgnK.z.length) := sgnK_ok.len hG
    clear hw hG
    go_wp2_with (refine wpList_store_mid rfl 30 _ _ rfl w.heap.size 0 cs.toArray rfl rfl (HZ1.out.there 0 _ (by rw [List.size_toArray, HLN.out]; omega)) (by rw [List.size_toArray]; exact HI.out) H1.out ?_)
    have hB6 := HZ1.out.whole cs HLN.out
    have ha : At w.heap.size w1 (w1.setCells w.heap.size 0 cs) := At.setCells _ _ _ (At.refl _ _)
    refine bodyPost_ret (v := .tuple #[.agg cs.toArray, .int .i64 0]) (results_row_tmp5 (by rfl) _ _ _ w.heap.size 30 cs _ (.int .i64 0) rfl rfl hB6 Tryd.underlying30 rfl HI.out) rfl ⟨Below.setCells _ (Nat.le_refl _) _ _ _ HB1.out, Or.inl ⟨a, cs, HW.out, rfl, ?_⟩⟩
    have hlt := HLT.out
    exact sgnK_ok.mono (sgnK_ok.same HGG.out fun k h1 _ => ha.block k (by omega)) (by omega)
  · have HW : Hid (whole (spec l) = none) := hw
    have HI : Hid ((Tryd.prog.info? 30).map (·.size) = some sgnK.z.length) := sgnK_ok.info
    have H1 : Hid (sgnK.z.toArray.all (·.oneCell') = true) := all_oneCell_toArray sgnK_ok.zone
    clear hw
    go_wp2_with (refine wpList_store_mid rfl 30 _ _ rfl w.heap.size 0 sgnK.z.toArray rfl rfl (HZ1.out.there 0 _ (by rw [List.size_toArray]; omega)) (by rw [List.size_toArray]; exact HI.out) H1.out ?_)
    have hB6 := HZ1.out.whole sgnK.z rfl
    exact bodyPost_ret (v := .tuple #[.agg sgnK.z.toArray, .int .i64 3]) (results_row_tmp5 (by rfl) _ _ _ w.heap.size 30 sgnK.z _ (.int .i64 3) rfl rfl hB6 Tryd.underlying30 rfl HI.out) rfl ⟨Below.setCells _ (Nat.le_refl _) _ _ _ HB1.out, Or.inr ⟨HW.out, rfl⟩⟩
end Go.Proofs.YtableajopaappaaDoor
/- The walks of record's readNameAndKey and readBinding. -/
namespace Go.Proofs.YtableajopaappaaDoor
open Go.RowKit
set_option maxRecDepth 100000
/-- where a reading stands -/
structure Nk (w : World) (gr gi : Nat) (v vc : Value) (lc : List (BitVec 8)) (t : TypeId) (z : List Value) (wc : World) : Prop where
  rd : Rd wc gr gi vc lc
  onl : Only gi w wc
  ob : vc.ownBlock = v.ownBlock
  res : Blk wc w.heap.size z t
  gr : gr < w.heap.size
  gi : gi < w.heap.size
theorem Nk.call {w wc w' : World} {gr gi : Nat} {v vc v2 : Value} {lc r : List (BitVec 8)} {t : TypeId} {z : List Value} (h : Nk w gr gi v vc lc t z wc) (hrd : Rd w' gr gi v2 r) (ho : Only gi wc w') (hob : v2.ownBlock = vc.ownBlock) : Nk w gr gi v v2 r t z w' :=
  ⟨hrd, h.onl.trans ho, hob.trans h.ob, h.res.only ho (by have := h.gi; omega), h.gr, h.gi⟩
theorem Nk.below {w wc w' : World} {gr gi : Nat} {v vc : Value} {lc : List (BitVec 8)} {t : TypeId} {z : List Value} (h : Nk w gr gi v vc lc t z wc) (hb : Below wc.heap.size wc w') : Nk w gr gi v vc lc t z w' :=
  ⟨h.rd.below hb, h.onl.trans (Only.of_below hb), h.ob, h.res.below hb h.res.lt, h.gr, h.gi⟩
theorem Nk.rdAt {w wc w' : World} {gr gi g : Nat} {v vc : Value} {lc : List (BitVec 8)} {t : TypeId} {z : List Value} (h : Nk w gr gi v vc lc t z wc) (ha : At g wc w') (hg : w.heap.size ≤ g) (hv : ∀ j, v.ownBlock = some j → j < w.heap.size) : Rd w' gr gi vc lc :=
  ⟨h.rd.rd.at ha (by have := h.gr; omega), h.rd.inp.at ha (by have := h.gi; omega), h.rd.byt.at ha (fun _ j hj => by have := hv j (h.ob ▸ hj); omega)⟩
theorem Nk.onlAt {w wc w' : World} {gr gi g : Nat} {v vc : Value} {lc : List (BitVec 8)} {t : TypeId} {z : List Value} (h : Nk w gr gi v vc lc t z wc) (ha : At g wc w') (hg : w.heap.size ≤ g) : Only gi w w' :=
  ⟨ha.os.trans h.onl.os, ha.tape.trans h.onl.tape, ha.output.trans h.onl.output, by rw [ha.size]; exact h.onl.size, fun k h1 h2 => (ha.block k (by omega)).trans (h.onl.block k h1 h2)⟩
theorem Nk.at {w wc w' : World} {gr gi g : Nat} {v vc : Value} {lc : List (BitVec 8)} {t : TypeId} {z : List Value} (h : Nk w gr gi v vc lc t z wc) (ha : At g wc w') (hg : w.heap.size < g) (hv : ∀ j, v.ownBlock = some j → j < w.heap.size) : Nk w gr gi v vc lc t z w' :=
  ⟨h.rdAt ha (by omega) hv, h.onlAt ha (by omega), h.ob, h.res.at ha (by omega), h.gr, h.gi⟩
end Go.Proofs.YtableajopaappaaDoor
/- The walks of record's readBinding, readRequest and readSigned. -/
namespace Go.Proofs.YtableajopaappaaDoor
open Go.RowKit
set_option maxRecDepth 100000
theorem num_lt {l r : List (BitVec 8)} {n : Nat} (h : readNum l = some (n, r)) : n < 18446744073709551616 := ((readNum_iff _ _ _).1 h).1
theorem cell_len {a : List Value} {n : Nat} {v : Value} {b : List Value} (h : a.length = n) : (a ++ (v :: b))[n]? = some v := by subst h; simp
theorem Blk.mid {w : World} {g off : Nat} {A B B2 C : List Value} {t : TypeId} (h : Blk w g (A ++ (B ++ C)) t) (hl : B2.length = B.length) (ho : A.length = off) : Blk (w.setCells g off B2) g (A ++ (B2 ++ C)) t := by
  subst ho
  have h2 := setCells_eq g B2 A.length w _ t h (by simp only [List.length_append]; omega)
  have e : (A ++ (B ++ C)).take A.length ++ B2 ++ (A ++ (B ++ C)).drop (A.length + B2.length) = A ++ (B2 ++ C) := by
    rw [List.take_left, ← List.drop_drop, List.drop_left, hl, List.drop_left, List.append_assoc]
  rwa [e] at h2
theorem sgnV_x {ep : Nat} {x y z x2 : List (BitVec 8)} {vs : Value} {w : World} {g : Nat} {t : TypeId} (h : Blk w g (sgnV ep x y z vs) t) (hx : x.length = 32) (h2 : x2.length = 32) : Blk (w.setCells g 1 (cb x2)) g (sgnV ep x2 y z vs) t :=
  Blk.mid (A := [.int .u64 (ep : Int)]) (B := cb x) (C := cb y ++ (cb z ++ [vs])) h (by rw [cb_len, cb_len, hx, h2]) rfl
theorem sgnV_y {ep : Nat} {x y z y2 : List (BitVec 8)} {vs : Value} {w : World} {g : Nat} {t : TypeId} (h : Blk w g (sgnV ep x y z vs) t) (hx : x.length = 32) (hy : y.length = 32) (h2 : y2.length = 32) : Blk (w.setCells g 33 (cb y2)) g (sgnV ep x y2 z vs) t := by
  have e : ∀ u, sgnV ep x u z vs = (.int .u64 (ep : Int) :: cb x) ++ (cb u ++ (cb z ++ [vs])) := fun u => by simp only [sgnV, List.cons_append]
  rw [e] at h ⊢
  exact h.mid (by rw [cb_len, cb_len, hy, h2]) (by rw [List.length_cons, cb_len, hx])
theorem sgnV_z {ep : Nat} {x y z z2 : List (BitVec 8)} {vs : Value} {w : World} {g : Nat} {t : TypeId} (h : Blk w g (sgnV ep x y z vs) t) (hx : x.length = 32) (hy : y.length = 32) (hz : z.length = 32) (h2 : z2.length = 32) : Blk (w.setCells g 65 (cb z2)) g (sgnV ep x y z2 vs) t := by
  have e : ∀ u, sgnV ep x y u vs = (.int .u64 (ep : Int) :: (cb x ++ cb y)) ++ (cb u ++ [vs]) := fun u => by simp only [sgnV, List.cons_append, List.append_assoc]
  rw [e] at h ⊢
  exact h.mid (by rw [cb_len, cb_len, hz, h2]) (by rw [List.length_cons, List.length_append, cb_len, cb_len, hx, hy])
theorem sgnV_split (ep : Nat) (x y z : List (BitVec 8)) (vs : Value) : sgnV ep x y z vs = (.int .u64 (ep : Int) :: (cb x ++ (cb y ++ cb z))) ++ [vs] := by simp only [sgnV, List.cons_append, List.append_assoc]
theorem sgnV_len {ep : Nat} {x y z : List (BitVec 8)} (hx : x.length = 32) (hy : y.length = 32) (hz : z.length = 32) : (Value.int .u64 (ep : Int) :: (cb x ++ (cb y ++ cb z))).length = 97 := by simp only [List.length_cons, List.length_append, cb_len, hx, hy, hz]
theorem sgnV_sig {ep : Nat} {x y z : List (BitVec 8)} {vs v2 : Value} {w : World} {g : Nat} {t : TypeId} (h : Blk w g (sgnV ep x y z vs) t) (hx : x.length = 32) (hy : y.length = 32) (hz : z.length = 32) : Blk (w.setCell ⟨g, 97, none⟩ v2) g (sgnV ep x y z v2) t := by
  rw [sgnV_split] at h ⊢
  have h2 := h.set 97 v2
  rwa [List.set_append_right _ _ (by rw [sgnV_len hx hy hz]; omega), sgnV_len hx hy hz] at h2
theorem sgnV_last {ep : Nat} {x y z : List (BitVec 8)} {vs : Value} {w : World} {g : Nat} {t : TypeId} (h : Blk w g (sgnV ep x y z vs) t) (hx : x.length = 32) (hy : y.length = 32) (hz : z.length = 32) : w.cell? ⟨g, 97, none⟩ = some vs := by
  rw [h.cell, sgnV_split]
  exact cell_len (sgnV_len hx hy hz)
theorem sgnV_total {ep : Nat} {x y z : List (BitVec 8)} {vs : Value} (hx : x.length = 32) (hy : y.length = 32) (hz : z.length = 32) : (sgnV ep x y z vs).length = 98 := by rw [sgnV_split, List.length_append, sgnV_len hx hy hz]; rfl
theorem nil_of {α : Type} {f : List (BitVec 8) → Option (α × List (BitVec 8))} (h : f [] = none) {l r : List (BitVec 8)} {a : α} (hl : f l = some (a, r)) : 0 < l.length := by
  cases l with
  | nil => rw [h] at hl; cases hl
  | cons x y => simp
theorem cut32_len {l a r : List (BitVec 8)} (h : cut 32 l = some (a, r)) : a.length = 32 := ((codes_cut 32 _ _ _).1 h).1
theorem len0 : zb32.length = 32 := len_zb32
set_option maxRecDepth 100000 in
set_option maxHeartbeats 2000000 in
theorem readSigned_one : OneDoes sgnK 59 signedR := by
  intro gr gi v l w h
  have HVB : Hid (0 < l.length → ∀ k, v.ownBlock = some k → k < w.heap.size) := h.byt.inB
  have HGI : Hid (gi < w.heap.size) := h.inp.lt
  have HNK : Hid (Nk w gr gi v v l 30 sgnK.z (w.alloc (.cells sgnK.z.toArray 30))) := ⟨h.below (below_alloc _ _), Only.of_below (below_alloc _ _), rfl, Blk.new _ _ _, h.rd.lt, h.inp.lt⟩
  clear h
  go_enter Tryd.func59, Tryd.ntmps59
  go_wp2_with fail
  have HNK0 : Hid (Nk w gr gi v v l 30 sgnK.z ((w.alloc (.cells sgnK.z.toArray 30)).alloc (.cells sgnK.z.toArray 30))) := HNK.out.below (below_alloc _ _)
  have HGA : Hid (Blk ((w.alloc (.cells sgnK.z.toArray 30)).alloc (.cells sgnK.z.toArray 30)) (w.heap.size + 1) (sgnV 0 zb32 zb32 zb32 nilV) 30) := Blk.new_at (by simp) _ _
  have HSZ : Hid (w.heap.size + 2 ≤ ((w.alloc (.cells sgnK.z.toArray 30)).alloc (.cells sgnK.z.toArray 30)).heap.size) := by show _ ≤ _; simp
  clear HNK
  have HNK := HNK0
  clear HNK0
  change Calls _ _ _ ((w.alloc (.cells sgnK.z.toArray 30)).alloc (.cells sgnK.z.toArray 30)) _
  generalize (w.alloc (.cells sgnK.z.toArray 30)).alloc (.cells sgnK.z.toArray 30) = w0 at *
  obtain ⟨ga, HGE⟩ : ∃ x, Hid (x = w.heap.size + 1) := ⟨_, rfl⟩
  have HGL : Hid (w.heap.size < ga) := by show _ < _; rw [HGE.out]; omega
  rw [← HGE.out] at HGA ⊢
  refine (crnum_any gr gi v l w0 HNK.out.rd).mono ?_
  rintro e w1 (⟨ep, r1, va1, v1, hc, rfl, rfl, hrd, ho, hob⟩ | ⟨hc, hT⟩)
  case inr =>
    have HD : Hid (RdDoes gr gi v w (signedR l) (fun a w' v => ∃ cs : List Value, v = .agg cs.toArray ∧ sgnK.G w' w.heap.size a cs) (thrown gi) w1) := Or.inr ⟨thenR_none hc, Threw.after HNK.out.onl (hT.eq ▸ hT)⟩
    obtain rfl := hT.eq
    unfold thrown at HD ⊢
    clear hT
    go_wp2
    exact ⟨rfl, HD.out⟩
  have HS1 : Hid (readNum l = some (ep, r1)) := hc
  have HVV : Hid (∀ k, v.ownBlock = some k → k < w.heap.size) := HVB.out (nil_of rfl hc)
  have HEP : Hid (ep < 18446744073709551616) := num_lt hc
  have hGA := HGA.out.only ho (by have := HGL.out; have := HGI.out; omega)
  have hat : At ga w1 (w1.setCell ⟨ga, 0, none⟩ (.int .u64 (ep : Int))) := (At.refl _ _).setCell _ _
  have HGB : Hid (Blk (w1.setCell ⟨ga, 0, none⟩ (.int .u64 (ep : Int))) ga (sgnV ep zb32 zb32 zb32 nilV) 30) := hGA.set 0 _
  have HNK2 : Hid _ := (HNK.out.call hrd ho hob).at hat HGL.out HVV.out
  have HSZ2 : Hid (w.heap.size + 2 ≤ (w1.setCell ⟨ga, 0, none⟩ (.int .u64 (ep : Int))).heap.size) := by show _ ≤ _; rw [hat.size]; exact Nat.le_trans HSZ.out ho.size
  have c0 : w1.cell? ⟨ga, 0, none⟩ = some (.int .u64 0) := hGA.cell 0
  have f0 : w1.frozen? ⟨ga, 0, none⟩ = false := hGA.frozen 0
  clear HNK HGA HSZ hrd ho hob hc hGA hat
  have HNK := HNK2
  have HGA := HGB
  have HSZ := HSZ2
  clear HNK2 HGB HSZ2
  go_wp2_with fail
  clear c0 f0
  generalize w1.setCell ⟨ga, 0, none⟩ (.int .u64 (ep : Int)) = w2 at *
  refine (crdigest_any gr gi v1 r1 w2 HNK.out.rd).mono ?_
  rintro e w3 (⟨x, r2, va2, v2, hc, rfl, rfl, hrd, ho, hob⟩ | ⟨hc, hT⟩)
  case inr =>
    have HD : Hid (RdDoes gr gi v w (signedR l) (fun a w' v => ∃ cs : List Value, v = .agg cs.toArray ∧ sgnK.G w' w.heap.size a cs) (thrown gi) w3) := Or.inr ⟨thenR_no HS1.out (thenR_none hc), Threw.after HNK.out.onl (hT.eq ▸ hT)⟩
    obtain rfl := hT.eq
    unfold thrown at HD ⊢
    clear hT
    go_wp2
    exact ⟨rfl, HD.out⟩
  have HS2 : Hid (cut 32 r1 = some (x, r2)) := hc
  have HDL : Hid (x.length = 32) := cut32_len hc
  have hGA := HGA.out.only ho (by have := HGL.out; have := HGI.out; omega)
  have hat : At ga w3 (w3.setCells ga 1 (cb x)) := At.setCells _ _ _ (At.refl _ _)
  have HGB : Hid (Blk (w3.setCells ga 1 (cb x)) ga (sgnV ep x zb32 zb32 nilV) 30) := sgnV_x hGA len0 HDL.out
  have HNK2 : Hid _ := (HNK.out.call hrd ho hob).at hat HGL.out HVV.out
  have HSZ2 : Hid (w.heap.size + 2 ≤ (w3.setCells ga 1 (cb x)).heap.size) := by show _ ≤ _; rw [hat.size]; exact Nat.le_trans HSZ.out ho.size
  have HT : Hid (w3.there ga 1 (cb x).toArray.size) := hGA.there 1 _ (by rw [List.size_toArray, cb_len, HDL.out, sgnV_total len0 len0 len0]; omega)
  have HIZ : Hid ((Tryd.prog.info? 23).map (·.size) = some (cb x).toArray.size) := by show _ = _; rw [List.size_toArray, cb_len, HDL.out]; exact Tryd.infodig
  clear HNK HGA HSZ hrd ho hob hc hGA hat
  have HNK := HNK2
  have HGA := HGB
  have HSZ := HSZ2
  clear HNK2 HGB HSZ2
  go_wp2_with (refine wpList_store_mid rfl 23 _ _ rfl ga 1 (cb x).toArray rfl rfl HT.out HIZ.out (all_oneCell_toArray (cb_one x)) ?_)
  have HX := HDL
  clear HT HIZ HDL
  change Calls _ _ _ (w3.setCells ga 1 (cb x)) _
  generalize w3.setCells ga 1 (cb x) = w4 at *
  refine (crdigest_any gr gi v2 r2 w4 HNK.out.rd).mono ?_
  rintro e w5 (⟨y, r3, va3, v3, hc, rfl, rfl, hrd, ho, hob⟩ | ⟨hc, hT⟩)
  case inr =>
    have HD : Hid (RdDoes gr gi v w (signedR l) (fun a w' v => ∃ cs : List Value, v = .agg cs.toArray ∧ sgnK.G w' w.heap.size a cs) (thrown gi) w5) := Or.inr ⟨thenR_no HS1.out (thenR_no HS2.out (thenR_none hc)), Threw.after HNK.out.onl (hT.eq ▸ hT)⟩
    obtain rfl := hT.eq
    unfold thrown at HD ⊢
    clear hT
    go_wp2
    exact ⟨rfl, HD.out⟩
  have HS3 : Hid (cut 32 r2 = some (y, r3)) := hc
  have HDL : Hid (y.length = 32) := cut32_len hc
  have hGA := HGA.out.only ho (by have := HGL.out; have := HGI.out; omega)
  have hat : At ga w5 (w5.setCells ga 33 (cb y)) := At.setCells _ _ _ (At.refl _ _)
  have HGB : Hid (Blk (w5.setCells ga 33 (cb y)) ga (sgnV ep x y zb32 nilV) 30) := sgnV_y hGA HX.out len0 HDL.out
  have HNK2 : Hid _ := (HNK.out.call hrd ho hob).at hat HGL.out HVV.out
  have HSZ2 : Hid (w.heap.size + 2 ≤ (w5.setCells ga 33 (cb y)).heap.size) := by show _ ≤ _; rw [hat.size]; exact Nat.le_trans HSZ.out ho.size
  have HT : Hid (w5.there ga 33 (cb y).toArray.size) := hGA.there 33 _ (by rw [List.size_toArray, cb_len, HDL.out, sgnV_total HX.out len0 len0]; omega)
  have HIZ : Hid ((Tryd.prog.info? 23).map (·.size) = some (cb y).toArray.size) := by show _ = _; rw [List.size_toArray, cb_len, HDL.out]; exact Tryd.infodig
  clear HNK HGA HSZ hrd ho hob hc hGA hat
  have HNK := HNK2
  have HGA := HGB
  have HSZ := HSZ2
  clear HNK2 HGB HSZ2
  go_wp2_with (refine wpList_store_mid rfl 23 _ _ rfl ga 33 (cb y).toArray rfl rfl HT.out HIZ.out (all_oneCell_toArray (cb_one y)) ?_)
  have HY := HDL
  clear HT HIZ HDL
  change Calls _ _ _ (w5.setCells ga 33 (cb y)) _
  generalize w5.setCells ga 33 (cb y) = w6 at *
  refine (crdigest_any gr gi v3 r3 w6 HNK.out.rd).mono ?_
  rintro e w7 (⟨z, r4, va4, v4, hc, rfl, rfl, hrd, ho, hob⟩ | ⟨hc, hT⟩)
  case inr =>
    have HD : Hid (RdDoes gr gi v w (signedR l) (fun a w' v => ∃ cs : List Value, v = .agg cs.toArray ∧ sgnK.G w' w.heap.size a cs) (thrown gi) w7) := Or.inr ⟨thenR_no HS1.out (thenR_no HS2.out (thenR_no HS3.out (thenR_none hc))), Threw.after HNK.out.onl (hT.eq ▸ hT)⟩
    obtain rfl := hT.eq
    unfold thrown at HD ⊢
    clear hT
    go_wp2
    exact ⟨rfl, HD.out⟩
  have HS4 : Hid (cut 32 r3 = some (z, r4)) := hc
  have HDL : Hid (z.length = 32) := cut32_len hc
  have hGA := HGA.out.only ho (by have := HGL.out; have := HGI.out; omega)
  have hat : At ga w7 (w7.setCells ga 65 (cb z)) := At.setCells _ _ _ (At.refl _ _)
  have HGB : Hid (Blk (w7.setCells ga 65 (cb z)) ga (sgnV ep x y z nilV) 30) := sgnV_z hGA HX.out HY.out len0 HDL.out
  have HNK2 : Hid _ := (HNK.out.call hrd ho hob).at hat HGL.out HVV.out
  have HSZ2 : Hid (w.heap.size + 2 ≤ (w7.setCells ga 65 (cb z)).heap.size) := by show _ ≤ _; rw [hat.size]; exact Nat.le_trans HSZ.out ho.size
  have HT : Hid (w7.there ga 65 (cb z).toArray.size) := hGA.there 65 _ (by rw [List.size_toArray, cb_len, HDL.out, sgnV_total HX.out HY.out len0]; omega)
  have HIZ : Hid ((Tryd.prog.info? 23).map (·.size) = some (cb z).toArray.size) := by show _ = _; rw [List.size_toArray, cb_len, HDL.out]; exact Tryd.infodig
  clear HNK HGA HSZ hrd ho hob hc hGA hat
  have HNK := HNK2
  have HGA := HGB
  have HSZ := HSZ2
  clear HNK2 HGB HSZ2
  go_wp2_with (refine wpList_store_mid rfl 23 _ _ rfl ga 65 (cb z).toArray rfl rfl HT.out HIZ.out (all_oneCell_toArray (cb_one z)) ?_)
  have HZ := HDL
  clear HT HIZ HDL
  change Calls _ _ _ (w7.setCells ga 65 (cb z)) _
  generalize w7.setCells ga 65 (cb z) = w8 at *
  refine (crtext_any gr gi v4 r4 w8 HNK.out.rd).mono ?_
  rintro e w10 (⟨sg, r9, va9, v9, hc, rfl, hown, hrd, ho, hob⟩ | ⟨hc, hT⟩)
  case inr =>
    have HD : Hid (RdDoes gr gi v w (signedR l) (fun a w' v => ∃ cs : List Value, v = .agg cs.toArray ∧ sgnK.G w' w.heap.size a cs) (thrown gi) w10) := Or.inr ⟨thenR_no HS1.out (thenR_no HS2.out (thenR_no HS3.out (thenR_no HS4.out (hc)))), Threw.after HNK.out.onl (hT.eq ▸ hT)⟩
    obtain rfl := hT.eq
    unfold thrown at HD ⊢
    clear hT
    go_wp2
    exact ⟨rfl, HD.out⟩
  have HSP : Hid (signedR l = some ((ep, x, y, z, sg), r9)) := thenR_some HS1.out (thenR_some HS2.out (thenR_some HS3.out (thenR_some HS4.out hc)))
  have h8 : OwnB w10 (w.heap.size + 2) va9 sg := hown.mono HSZ.out
  have hGA := HGA.out.only ho (by have := HGL.out; have := HGI.out; omega)
  have c9 : w10.cell? ⟨ga, 97, none⟩ = some nilV := sgnV_last hGA HX.out HY.out HZ.out
  have f9 : w10.frozen? ⟨ga, 97, none⟩ = false := hGA.frozen 97
  have hat : At ga w10 (w10.setCell ⟨ga, 97, none⟩ va9) := (At.refl _ _).setCell _ _
  have HGB : Hid (Blk (w10.setCell ⟨ga, 97, none⟩ va9) ga (sgnV ep x y z va9) 30) := sgnV_sig hGA HX.out HY.out HZ.out
  have H8 : Hid (OwnB (w10.setCell ⟨ga, 97, none⟩ va9) (w.heap.size + 1) va9 sg) := (h8.same (fun k hk => hat.block k (by have := h8.own k hk; have := HGE.out; omega))).mono (by omega)
  have HNK2 : Hid _ := (HNK.out.call hrd ho hob).at hat HGL.out HVV.out
  clear HNK HGA hrd ho hob hc hGA hat
  have HNK := HNK2
  have HGA := HGB
  clear HNK2 HGB
  unfold nilV at c9
  obtain ⟨ad9, cp9, hv9, _, _, _⟩ := id hown.reads
  obtain ⟨n9, HN9⟩ : ∃ n, Hid (n = sg.length) := ⟨_, rfl⟩
  rw [← HN9.out] at hv9
  subst hv9
  clear hown h8 HSZ
  obtain ⟨w5, HW5⟩ : ∃ x, Hid (x = w10.setCell ⟨ga, 97, none⟩ (.slice ad9 n9 cp9)) := ⟨_, rfl⟩
  rw [← HW5.out] at HGA H8 HNK
  have HRES : Hid (Blk w5 w.heap.size sgnK.z 30) := HNK.out.res
  have HGG : Hid (sgnK.G w5 (w.heap.size + 1) (ep, x, y, z, sg) (sgnV ep x y z (.slice ad9 n9 cp9))) := ⟨_, rfl, H8.out, HX.out, HY.out, HZ.out, HEP.out⟩
  have HI : Hid ((Tryd.prog.info? 30).map (·.size) = some ((sgnV ep x y z (.slice ad9 n9 cp9))).length) := by have := sgnK_ok.size HGG.out; rw [List.size_toArray] at this; exact this
  have H1 : Hid (((sgnV ep x y z (.slice ad9 n9 cp9))).toArray.all (·.oneCell') = true) := all_oneCell_toArray (sgnK_ok.one HGG.out)
  have HLN : Hid (((sgnV ep x y z (.slice ad9 n9 cp9))).length = sgnK.z.length) := sgnK_ok.len HGG.out
  obtain ⟨cs, HCS⟩ : ∃ cs, Hid (cs = (sgnV ep x y z (.slice ad9 n9 cp9))) := ⟨_, rfl⟩
  rw [← HCS.out] at HGA HGG HI H1 HLN
  clear HCS
  clear H8
  go_wp2_with (first | (refine wpSeq_val (.agg cs.toArray) _ (by rfl) (load_run 30 _ rfl ga 0 rfl cs _ (HW5.out ▸ HGA.out.range) Tryd.underlying30 rfl HI.out) ?_) | (refine wpList_store_mid rfl 30 _ _ rfl w.heap.size 0 cs.toArray rfl rfl (HW5.out ▸ HRES.out.there 0 _ (by rw [List.size_toArray, HLN.out]; omega)) (by rw [List.size_toArray]; exact HI.out) H1.out ?_))
  rw [← HW5.out]
  have hat : At w.heap.size w5 (w5.setCells w.heap.size 0 cs) := At.setCells _ _ _ (At.refl _ _)
  have hB6 : Blk (w5.setCells w.heap.size 0 cs) w.heap.size cs 30 := HRES.out.whole cs HLN.out
  refine bodyPost_ret (v := .agg cs.toArray) (results_cell_row (by rfl) _ _ w.heap.size 30 _ (0, 0) _ rfl hB6 Tryd.underlying30 rfl (by rw [List.size_toArray]; exact HI.out)) rfl (Or.inl ⟨(ep, x, y, z, sg), r9, _, _, HSP.out, rfl, ⟨_, rfl, ?_⟩, ?_, ?_, HNK.out.ob⟩)
  · exact sgnK_ok.mono (sgnK_ok.same HGG.out fun k h1 _ => hat.block k (by omega)) (Nat.le_succ _)
  · exact HNK.out.rdAt hat (Nat.le_refl _) HVV.out
  · exact HNK.out.onlAt hat (Nat.le_refl _)
end Go.Proofs.YtableajopaappaaDoor
/- The walks of record's readRequest. -/
namespace Go.Proofs.YtableajopaappaaDoor
open Go.RowKit
set_option maxRecDepth 100000
end Go.Proofs.YtableajopaappaaDoor
/- The walk of record's readProof. -/
namespace Go.Proofs.YtableajopaappaaDoor
open Go.RowKit
set_option maxRecDepth 100000
theorem Nk.keep {w wc w' : World} {gr gi B : Nat} {v vc : Value} {lc : List (BitVec 8)} {t : TypeId} {z : List Value} (h : Nk w gr gi v vc lc t z wc) (hb : Below B wc w') (hB : w.heap.size < B) (hv : ∀ j, v.ownBlock = some j → j < w.heap.size) : Nk w gr gi v vc lc t z w' :=
  ⟨⟨h.rd.rd.below hb (by have := h.gr; omega), h.rd.inp.below hb (by have := h.gi; omega), h.rd.byt.keep hb (fun _ j hj => by have := hv j (h.ob ▸ hj); omega)⟩, ⟨hb.os.trans h.onl.os, hb.tape.trans h.onl.tape, hb.output.trans h.onl.output, Nat.le_trans h.onl.size hb.size, fun k h1 h2 => (hb.block k (by omega)).trans (h.onl.block k h1 h2)⟩, h.ob, h.res.below hb hB, h.gr, h.gi⟩
end Go.Proofs.YtableajopaappaaDoor
/- The reference's four reading functions: where a reading stands, what it comes to, the walk of its ReadBinding. -/
namespace Go.Proofs.YtableajopaappaaDoor
open Go.RowKit
set_option maxRecDepth 100000
/-- a was read up to p, or the reader is bad -/
def Mg {α : Type} (o : Option (α × List (BitVec 8))) (b0 b1 : Bool) (a : α) (l : List (BitVec 8)) (p : Nat) : Prop := (b1 = false ∧ b0 = false ∧ o = some (a, l.drop p)) ∨ (b1 = true ∧ (b0 = true ∨ o = none))
/-- where a reading of the reference stands: the result lies at the world's end, the reader behind it -/
structure Rf0 (w : World) (v : Value) (l : List (BitVec 8)) (p : Nat) (b : Bool) (t : TypeId) (z : List Value) (W : World) : Prop where
  inp : InS W (w.heap.size + 1) v l p b
  res : Blk W w.heap.size z t
  bel : Below w.heap.size w W
  vb : 0 < l.length → ∀ k, v.ownBlock = some k → k < w.heap.size
theorem Rf0.sz {w W : World} {v : Value} {l : List (BitVec 8)} {p : Nat} {b : Bool} {t : TypeId} {z : List Value} (h : Rf0 w v l p b t z W) : w.heap.size + 1 < W.heap.size := h.inp.blk.lt
theorem Rf0.call {w W W' : World} {v : Value} {l : List (BitVec 8)} {p p' : Nat} {b b' : Bool} {t : TypeId} {z : List Value} (h : Rf0 w v l p b t z W) (hs : InS W' (w.heap.size + 1) v l p' b') (ho : Only (w.heap.size + 1) W W') : Rf0 w v l p' b' t z W' :=
  ⟨hs, h.res.only ho (by omega), h.bel.trans (ho.below (by omega) h.bel.size), h.vb⟩
theorem Rf0.next {w W W' : World} {v : Value} {l : List (BitVec 8)} {p : Nat} {b : Bool} {t : TypeId} {z : List Value} (h : Rf0 w v l p b t z W) (hb : Below (w.heap.size + 2) W W') : Rf0 w v l p b t z W' :=
  ⟨h.inp.others (fun hp k hk => by have := h.vb hp k hk; omega) hb, h.res.below hb (by omega), h.bel.trans (hb.mono (by omega)), h.vb⟩
theorem Rf0.at {w W W' : World} {v : Value} {l : List (BitVec 8)} {p g : Nat} {b : Bool} {t : TypeId} {z : List Value} (h : Rf0 w v l p b t z W) (ha : At g W W') (hg : w.heap.size + 1 < g) : Rf0 w v l p b t z W' :=
  ⟨⟨h.inp.blk.at ha (by omega), h.inp.byt.at ha (fun hp j hj => by have := h.vb hp j hj; omega), h.inp.le⟩, h.res.at ha (by omega), ⟨ha.os.trans h.bel.os, ha.tape.trans h.bel.tape, ha.output.trans h.bel.output, by rw [ha.size]; exact h.bel.size, fun k hk => (ha.block k (by omega)).trans (h.bel.block k hk)⟩, h.vb⟩
/-- the same, with the thing's cells cs at block g -/
structure Rf (w : World) (g : Nat) (v : Value) (l : List (BitVec 8)) (p : Nat) (b : Bool) (t : TypeId) (z cs : List Value) (W : World) : Prop where
  st : Rf0 w v l p b t z W
  thg : Blk W g cs t
  lt : w.heap.size + 1 < g
theorem Rf.call {w W W' : World} {v : Value} {l : List (BitVec 8)} {g p p' : Nat} {b b' : Bool} {t : TypeId} {z cs : List Value} (h : Rf w g v l p b t z cs W) (hs : InS W' (w.heap.size + 1) v l p' b') (ho : Only (w.heap.size + 1) W W') : Rf w g v l p' b' t z cs W' :=
  ⟨h.st.call hs ho, h.thg.only ho (by have := h.lt; omega), h.lt⟩
theorem Rf.at {w W W' : World} {v : Value} {l : List (BitVec 8)} {g p : Nat} {b : Bool} {t : TypeId} {z cs cs' : List Value} (h : Rf w g v l p b t z cs W) (ha : At g W W') (hb : Blk W' g cs' t) : Rf w g v l p b t z cs' W' :=
  ⟨h.st.at ha h.lt, hb, h.lt⟩
theorem Mg.then {α β : Type} {g : List (BitVec 8) → Option (α × List (BitVec 8))} {h : α → List (BitVec 8) → Option (β × List (BitVec 8))} {l : List (BitVec 8)} {p0 p1 p2 : Nat} {b0 b1 b2 : Bool} {a : α} {c : β} (h1 : Mg (g (l.drop p0)) b0 b1 a l p1) (h2 : Mg (h a (l.drop p1)) b1 b2 c l p2) : Mg (thenR g h (l.drop p0)) b0 b2 (a, c) l p2 := by
  rcases h2 with ⟨rfl, rfl, h2⟩ | ⟨rfl, h2⟩
  · rcases h1 with ⟨_, rfl, h1⟩ | ⟨h1, _⟩
    · exact Or.inl ⟨rfl, rfl, thenR_some h1 h2⟩
    · cases h1
  · rcases h1 with ⟨rfl, rfl, h1⟩ | ⟨rfl, h1⟩
    · rcases h2 with h2 | h2
      · cases h2
      · exact Or.inr ⟨rfl, Or.inr (thenR_no h1 h2)⟩
    · rcases h1 with rfl | h1
      · exact Or.inr ⟨rfl, Or.inl rfl⟩
      · exact Or.inr ⟨rfl, Or.inr (thenR_none h1)⟩
end Go.Proofs.YtableajopaappaaDoor
/- The walks of Binding, of record and of the reference, and of SameBinding. -/
namespace Go.Proofs.YtableajopaappaaDoor
open Go.RowKit
set_option maxRecDepth 100000
end Go.Proofs.YtableajopaappaaDoor
/- The walk of blazonlaw05's works; of Right, of record and of the reference. -/
namespace Go.Proofs.YtableajopaappaaDoor
open Go.RowKit
set_option maxRecDepth 100000
end Go.Proofs.YtableajopaappaaDoor
/- The walks of record's Signed and Request. -/
namespace Go.Proofs.YtableajopaappaaDoor
open Go.RowKit
set_option maxRecDepth 100000
theorem Blk.rangeMid {w : World} {g off : Nat} {A B C : List Value} {t : TypeId} (h : Blk w g (A ++ (B ++ C)) t) (ho : A.length = off) : w.rangeAt g off B := by
  subst ho
  intro j v hj
  have hlt : j < B.length := (List.getElem?_eq_some_iff.1 hj).1
  rw [h.cell, List.getElem?_append_right (by omega), Nat.add_sub_cancel_left, List.getElem?_append_left hlt, hj]
theorem sgnV_rx {ep : Nat} {x y z : List (BitVec 8)} {vs : Value} {w : World} {g : Nat} {t : TypeId} (h : Blk w g (sgnV ep x y z vs) t) : w.rangeAt g 1 (cb x) :=
  Blk.rangeMid (A := [.int .u64 (ep : Int)]) (B := cb x) (C := cb y ++ (cb z ++ [vs])) h rfl
theorem sgnV_ry {ep : Nat} {x y z : List (BitVec 8)} {vs : Value} {w : World} {g : Nat} {t : TypeId} (h : Blk w g (sgnV ep x y z vs) t) (hx : x.length = 32) : w.rangeAt g 33 (cb y) := by
  have e : sgnV ep x y z vs = (.int .u64 (ep : Int) :: cb x) ++ (cb y ++ (cb z ++ [vs])) := by simp only [sgnV, List.cons_append]
  rw [e] at h
  exact h.rangeMid (by rw [List.length_cons, cb_len, hx])
theorem sgnV_rz {ep : Nat} {x y z : List (BitVec 8)} {vs : Value} {w : World} {g : Nat} {t : TypeId} (h : Blk w g (sgnV ep x y z vs) t) (hx : x.length = 32) (hy : y.length = 32) : w.rangeAt g 65 (cb z) := by
  have e : sgnV ep x y z vs = (.int .u64 (ep : Int) :: (cb x ++ cb y)) ++ (cb z ++ [vs]) := by simp only [sgnV, List.cons_append, List.append_assoc]
  rw [e] at h
  exact h.rangeMid (by rw [List.length_cons, List.length_append, cb_len, cb_len, hx, hy])
theorem infoD (d : List (BitVec 8)) (h : d.length = 32) : (Tryd.prog.info? 23).map (·.size) = some (cb d).length := by rw [cb_len, h]; exact Tryd.infodig
structure Fit (x : Int) : Prop where
  lo : -9223372036854775808 ≤ x
  hi : x < 9223372036854775808
end Go.Proofs.YtableajopaappaaDoor
/- The walk of the reference's ReadBinding. -/
namespace Go.Proofs.YtableajopaappaaDoor
open Go.RowKit
set_option maxRecDepth 100000
theorem Rf0.new {w W : World} {v : Value} {l : List (BitVec 8)} {p : Nat} {b : Bool} {t : TypeId} {z cs : List Value} (h : Rf0 w v l p b t z W) : Rf w W.heap.size v l p b t z cs (W.alloc (.cells cs.toArray t)) :=
  ⟨h.next ((below_alloc W _).mono h.sz), Blk.new W cs t, h.sz⟩
end Go.Proofs.YtableajopaappaaDoor
/- The walk of the reference's ReadRequest. -/
namespace Go.Proofs.YtableajopaappaaDoor
open Go.RowKit
set_option maxRecDepth 100000
end Go.Proofs.YtableajopaappaaDoor
/- The walks of the reference's SameRequest and SameSigned. -/
namespace Go.Proofs.YtableajopaappaaDoor
open Go.RowKit
set_option maxRecDepth 100000
end Go.Proofs.YtableajopaappaaDoor
/- A signed root's cells; a cell in a world with more (out of RecCk and RecBkL). -/
namespace Go.Proofs.YtableajopaappaaDoor
open Go.RowKit
set_option maxRecDepth 100000
end Go.Proofs.YtableajopaappaaDoor
/- The walk of the reference's ReadSigned. -/
namespace Go.Proofs.YtableajopaappaaDoor
open Go.RowKit
set_option maxRecDepth 100000
end Go.Proofs.YtableajopaappaaDoor
/- The walk of the reference's Signed. -/
namespace Go.Proofs.YtableajopaappaaDoor
open Go.RowKit
set_option maxRecDepth 100000
end Go.Proofs.YtableajopaappaaDoor
/- Plain: evidence that two roots of one epoch were signed; what follows (layer 12). -/
namespace Go.Proofs.YtableajopaappaaDoor
open Go.RowKit
set_option maxRecDepth 100000
/-- evidence: the roots ahead, and two behind them -/
abbrev EvT : Type := List SgT × SgT × SgT
/-- where a chain begins -/
def stR (pin : List (BitVec 8)) : HdT := (0, zb32, pin)
theorem stR_key (p : List (BitVec 8)) : (stR p).2.2 = p := rfl
theorem stR_ep (p : List (BitVec 8)) : (stR p).1 = 0 := rfl
/-- what holds of evidence -/
def holdsF (pin : List (BitVec 8)) (e : EvT) : Prop := (walkR (stR pin) e.1).2.2 = 0 ∧ (followR (walkR (stR pin) e.1).1 e.2.1).2 = 0 ∧ (followR (walkR (stR pin) e.1).1 e.2.2).2 = 0 ∧ e.2.1.1 ≠ e.2.2.1
/-- 12.1 -/
def checkF (pin : List (BitVec 8)) (e : EvT) : Int := if (walkR (stR pin) e.1).2.2 = 0 ∧ (followR (walkR (stR pin) e.1).1 e.2.1).2 = 0 ∧ (followR (walkR (stR pin) e.1).1 e.2.2).2 = 0 ∧ e.2.1.1 ≠ e.2.2.1 then 0 else 15
theorem checkF_ok (pin : List (BitVec 8)) (e : EvT) : checkF pin e = 0 ↔ holdsF pin e := by
  unfold checkF
  split
  · rename_i h; exact ⟨fun _ => h, fun _ => rfl⟩
  · rename_i h; exact ⟨(fun k => by cases k), fun k => (h k).elim⟩
theorem checkF_bad {pin : List (BitVec 8)} {e : EvT} (h : ¬ holdsF pin e) : checkF pin e = 15 := by unfold holdsF at h; unfold checkF; rw [if_neg h]
theorem checkF_same (pin : List (BitVec 8)) (t : List SgT) (a : SgT) : checkF pin (t, a, a) = 15 := checkF_bad fun h => h.2.2.2 rfl
/-- the head behind roots is told by the roots alone -/
theorem rbS_root {s t : SgT} (h : s.1 = t.1) : rbS s = rbS t := by unfold rbS; rw [h]
/-- of roots that can be followed each beginning can be -/
theorem walk_pre {l : List SgT} {h : HdT} (h0 : (walkR h l).2.2 = 0) {i : Nat} (hi : i < l.length) : (walkR h (l.take i)).2.2 = 0 ∧ (followR (walkR h (l.take i)).1 (l.getD i zeroS)).2 = 0 := by
  have e : l = l.take i ++ (l.getD i zeroS :: l.drop (i + 1)) := by
    have hg : l.getD i zeroS = l[i] := by rw [List.getD_eq_getElem?_getD, List.getElem?_eq_getElem hi]; rfl
    rw [hg, List.getElem_cons_drop, List.take_append_drop]
  have ha := walk_app (l.take i) (l.getD i zeroS :: l.drop (i + 1)) h
  rw [← e] at ha
  by_cases h1 : (walkR h (l.take i)).2.2 = 0
  · refine ⟨h1, ?_⟩
    rw [if_pos h1] at ha
    rw [ha] at h0
    have h2 : (walkR (walkR h (l.take i)).1 (l.getD i zeroS :: l.drop (i + 1))).2.2 = 0 := h0
    rw [walkR] at h2
    split at h2
    · rename_i h3; exact h3
    · exact h2
  · rw [if_neg h1] at ha
    rw [ha] at h0
    exact (h1 h0).elim
/-- 12.4: the first place at which both have unlike roots -/
def firstU : List SgT → List SgT → Option Nat
  | s :: l, t :: m => if s.1 = t.1 then (firstU l m).map (· + 1) else some 0
  | _, _ => none
theorem firstU_some : ∀ (l m : List SgT) (i : Nat), firstU l m = some i → i < l.length ∧ i < m.length ∧ (l.getD i zeroS).1 ≠ (m.getD i zeroS).1 ∧ (l.take i).map (·.1) = (m.take i).map (·.1)
  | [], m, i, h => by simp [firstU] at h
  | s :: l, [], i, h => by simp [firstU] at h
  | s :: l, t :: m, i, h => by
    rw [firstU] at h
    split at h
    · rename_i e
      cases hf : firstU l m with
      | none => rw [hf] at h; cases h
      | some j =>
        rw [hf] at h
        simp only [Option.map_some, Option.some.injEq] at h
        subst h
        obtain ⟨h1, h2, h3, h4⟩ := firstU_some l m j hf
        exact ⟨by simpa using h1, by simpa using h2, by simpa using h3, by simp [h4, e]⟩
    · rename_i e
      simp only [Option.some.injEq] at h
      subst h
      exact ⟨by simp, by simp, by simpa using e, rfl⟩
/-- what a seed seals, from a head on -/
def honestR (seed : List (BitVec 8)) : HdT → List (List (BitVec 8)) → List SgT
  | _, [] => []
  | h, t :: ts => if (sealR seed h t).2 = 0 then (sealR seed h t).1 :: honestR seed ((sealR seed h t).1.1.1, dig (rbS (sealR seed h t).1), (sealR seed h t).1.1.2.2.2) ts else []
/-- whoever goes with the honest has the honest's next key -/
theorem honest_key (seed : List (BitVec 8)) : ∀ (l : List SgT) (h : HdT) (ts : List (List (BitVec 8))), h.2.2 = pubR seed (h.1 + 1) → (walkR h l).2.2 = 0 → (∀ j, j < l.length → j < (honestR seed h ts).length ∧ (l.getD j zeroS).1 = ((honestR seed h ts).getD j zeroS).1) → (walkR h l).1.2.2 = pubR seed (h.1 + l.length + 1)
  | [], h, ts, hk, _, _ => hk
  | s :: l, h, [], hk, h0, hj => by
    have := (hj 0 (by simp)).1
    simp [honestR] at this
  | s :: l, h, t :: ts, hk, h0, hj => by
    rw [walkR] at h0 ⊢
    split at h0
    · rename_i h1
      rw [if_pos h1]
      have e0 := hj 0 (by simp)
      rw [honestR] at e0 hj
      by_cases hs : (sealR seed h t).2 = 0
      · rw [if_pos hs] at e0 hj
        have hlt : h.1 < 64 := Nat.lt_of_not_le fun hge => by rw [sealR, if_pos hge] at hs; cases hs
        have es : (sealR seed h t).1.1 = (h.1 + 1, h.2.1, t, pubR seed (h.1 + 2)) := by rw [sealR, if_neg (by omega)]
        have er : s.1 = (sealR seed h t).1.1 := by simpa using e0.2
        obtain ⟨f1, _, f3, _⟩ := follow_ok h1
        obtain ⟨g, hg⟩ : ∃ g, g = (followR h s).1 := ⟨_, rfl⟩
        have eg : ((sealR seed h t).1.1.1, dig (rbS (sealR seed h t).1), (sealR seed h t).1.1.2.2.2) = g := by rw [hg, f1, rbS_root er, er]
        rw [eg] at hj
        have g1 : g.1 = h.1 + 1 := by rw [hg, f1]; exact f3
        have g2 : g.2.2 = pubR seed (g.1 + 1) := by rw [g1, ← eg, es]
        rw [← hg] at h0 ⊢
        have ih := honest_key seed l g ts g2 h0 (fun j hjl => by have := hj (j + 1) (by simpa using hjl); simpa using this)
        show (walkR g l).1.2.2 = _
        rw [ih, g1, List.length_cons]
        congr 1
        omega
      · rw [if_neg hs] at e0
        simp at e0
    · rename_i h1; exact (h1 h0).elim
/-- 12.6: what a signature that is taken by a key's public digest tells -/
theorem taken_tells {seed : List (BitVec 8)} {key : Nat} {b sig : List (BitVec 8)} (h : checkE (pubR seed key) b sig = 0) : sig.length = 16384 ∧ dig (openR (bt (dig b)) sig 256) = dig (textR (partB seed key) 256) ∧ (openR (bt (dig b)) sig 256 = textR (partB seed key) 256 → ∀ j, j < 256 → dig (blk32 sig (2 * j)) = dig (partB seed key j (bt (dig b) j))) := by
  unfold checkE at h
  split at h
  · rename_i h1
    exact ⟨h1.1, h1.2, fun e j hj => open_text (bt (dig b)) 256 (by omega) e j hj⟩
  · cases h
/-- of two digests that are unlike some bit is -/
theorem some_bit {x y : List (BitVec 8)} (hx : x.length = 32) (hy : y.length = 32) (h : x ≠ y) : ∃ j, j < 256 ∧ bt x j ≠ bt y j := Classical.byContradiction fun hn => h (bits_ext x y hx hy fun j hj => Classical.byContradiction fun hb => hn ⟨j, hj, hb⟩)
/-- what followed a head was taken by its key -/
theorem follow_taken {h : HdT} {s : SgT} (h0 : (followR h s).2 = 0) : checkE h.2.2 (rbS s) s.2 = 0 := by
  unfold followR at h0
  split at h0
  · cases h0
  · split at h0
    · cases h0
    · rename_i _ h2
      exact Classical.byContradiction fun e => h2 (Or.inr e)
/-- 12.6: as long as the roots are the honest's own, what comes next is signed by the honest's next key -/
theorem sound_at {seed : List (BitVec 8)} {tr : List SgT} {A B : SgT} (h : holdsF (pubR seed 1) (tr, A, B)) (ts : List (List (BitVec 8))) {i : Nat} (hi : i < (tr ++ [A]).length)
    (hj : ∀ j, j < i → j < (honestR seed (stR (pubR seed 1)) ts).length ∧ ((tr ++ [A]).getD j zeroS).1 = ((honestR seed (stR (pubR seed 1)) ts).getD j zeroS).1) :
    checkE (pubR seed (i + 1)) (rbS ((tr ++ [A]).getD i zeroS)) ((tr ++ [A]).getD i zeroS).2 = 0 ∧ (i + 1 = (tr ++ [A]).length → checkE (pubR seed (i + 1)) (rbS B) B.2 = 0) := by
  obtain ⟨h1, h2, h3, _⟩ := h
  obtain ⟨st, hst⟩ : ∃ s, s = stR (pubR seed 1) := ⟨_, rfl⟩
  have s1 : st.1 = 0 := by rw [hst, stR_ep]
  have s2 : st.2.2 = pubR seed (st.1 + 1) := by rw [s1, Nat.zero_add, hst, stR_key]
  rw [← hst] at h1 h2 h3 hj
  have hl : (tr ++ [A]).length = tr.length + 1 := by simp
  rw [hl] at hi ⊢
  have key : (walkR st (tr.take i)).2.2 = 0 → (walkR st (tr.take i)).1.2.2 = pubR seed (i + 1) := fun h0 => by
    have hk := honest_key seed (tr.take i) st ts s2 h0 (fun j hjl => by
      rw [List.length_take] at hjl
      obtain ⟨k1, k2⟩ := hj j (by omega)
      refine ⟨k1, ?_⟩
      rw [← k2]
      rw [List.getD_eq_getElem?_getD, List.getD_eq_getElem?_getD, List.getElem?_take_of_lt (by omega), List.getElem?_append_left (by omega)])
    rw [hk, s1, List.length_take]
    congr 1
    omega
  by_cases hlt : i < tr.length
  · obtain ⟨a1, a2⟩ := walk_pre h1 hlt
    have e : (tr ++ [A]).getD i zeroS = tr.getD i zeroS := by rw [List.getD_eq_getElem?_getD, List.getD_eq_getElem?_getD, List.getElem?_append_left hlt]
    have hf := follow_taken a2
    rw [key a1] at hf
    rw [e]
    exact ⟨hf, fun hh => by omega⟩
  · obtain rfl : i = tr.length := by omega
    have e : (tr ++ [A]).getD tr.length zeroS = A := by rw [List.getD_eq_getElem?_getD, List.getElem?_append_right (Nat.le_refl _), Nat.sub_self]; rfl
    rw [List.take_length] at key
    have hf := follow_taken h2
    have hg := follow_taken h3
    rw [key h1] at hf hg
    rw [e]
    exact ⟨hf, fun _ => hg⟩
end Go.Proofs.YtableajopaappaaDoor
/- Evidence in memory (layer 12). -/
namespace Go.Proofs.YtableajopaappaaDoor
open Go.RowKit
set_option maxRecDepth 100000
theorem eq_rt (s t : SgT) (os : okS s) (ot : okS t) (w : World) : (Op.equalIn 10000 27 (.agg (rtC s).toArray) (.agg (rtC t).toArray)).run Tryd.prog w = .ok (decide (s.1 = t.1)) w := by
  have h := eq_root s.1.1 t.1.1 s.1.2.1 s.1.2.2.1 s.1.2.2.2 t.1.2.1 t.1.2.2.1 t.1.2.2.2 os.1 os.2.1 os.2.2.1 ot.1 ot.2.1 ot.2.2.1 w
  have e : decide (s.1 = t.1) = decide (s.1.1 = t.1.1 ∧ s.1.2.1 = t.1.2.1 ∧ s.1.2.2.1 = t.1.2.2.1 ∧ s.1.2.2.2 = t.1.2.2.2) := by
    obtain ⟨⟨n, x, y, z⟩, g⟩ := s
    obtain ⟨⟨m, a, b, c⟩, g'⟩ := t
    simp
  rw [e]
  exact h
/-- the cells of evidence -/
def evC (e : EvT) (vt va vb : Value) : List Value := vt :: (sgC e.2.1 va ++ sgC e.2.2 vb)
def zeroE : EvT := ([], zeroS, zeroS)
theorem len_evC {e : EvT} (oa : okS e.2.1) (ob : okS e.2.2) (vt va vb : Value) : (evC e vt va vb).length = 197 := by rw [evC, List.length_cons, List.length_append, len_sgC oa, len_sgC ob]
theorem info_evid : (Tryd.prog.info? 32).map (·.size) = some 197 := by kernel_rfl
theorem info_evC {e : EvT} (oa : okS e.2.1) (ob : okS e.2.2) (vt va vb : Value) : (Tryd.prog.info? 32).map (·.size) = some (evC e vt va vb).length := by rw [len_evC oa ob]; exact info_evid
/-- three values read as evidence -/
structure EvIs (w : World) (e : EvT) (vt va vb : Value) : Prop where
  tr : ReadsS w vt e.1
  a : Reads w va e.2.1.2
  b : Reads w vb e.2.2.2
  oa : okS e.2.1
  ob : okS e.2.2
theorem EvIs.below {w w' : World} {e : EvT} {vt va vb : Value} (h : EvIs w e vt va vb) (hb : Below w.heap.size w w') : EvIs w' e vt va vb := ⟨h.tr.below hb, h.a.below hb, h.b.below hb, h.oa, h.ob⟩
theorem EvIs.zero (w : World) : EvIs w zeroE (.slice none 0 0) (.slice none 0 0) (.slice none 0 0) := ⟨ReadsS.nil w, reads_nil10 w, reads_nil10 w, okS_zero, okS_zero⟩
theorem ReadsS.form {w : World} {v : Value} {l : List SgT} (h : ReadsS w v l) : ∃ ad c, v = .slice ad l.length c := by
  obtain ⟨⟨ad, cap, hv, _⟩, _⟩ := h
  exact ⟨ad, cap, hv⟩
/-- evidence in a block, field by field -/
structure EvAt (w : World) (b off : Nat) (e : EvT) (vt va vb : Value) : Prop where
  all : w.rangeAt b off (evC e vt va vb)
  oa : okS e.2.1
  ob : okS e.2.2
theorem Blk.evAt {w : World} {g : Nat} {e : EvT} {vt va vb : Value} (hb : Blk w g (evC e vt va vb) 32) (oa : okS e.2.1) (ob : okS e.2.2) : EvAt w g 0 e vt va vb := ⟨hb.range, oa, ob⟩
theorem EvAt.tr {w : World} {b off : Nat} {e : EvT} {vt va vb : Value} (h : EvAt w b off e vt va vb) : w.cell? ⟨b, off, none⟩ = some vt := h.all 0 _ rfl
theorem EvAt.a {w : World} {b off : Nat} {e : EvT} {vt va vb : Value} (h : EvAt w b off e vt va vb) : SgAt w b (off + 1) e.2.1 va := ⟨range_part (A := [vt]) (B := sgC e.2.1 va) (C := sgC e.2.2 vb) h.all rfl, h.oa⟩
theorem EvAt.b {w : World} {b off : Nat} {e : EvT} {vt va vb : Value} (h : EvAt w b off e vt va vb) : SgAt w b (off + 99) e.2.2 vb :=
  ⟨range_end (A := vt :: sgC e.2.1 va) (B := sgC e.2.2 vb) (by rw [List.cons_append]; exact h.all) (by rw [List.length_cons, len_sgC h.oa]), h.ob⟩
theorem evC_one (e : EvT) {vt va vb : Value} (ht : vt.oneCell' = true) (ha : va.oneCell' = true) (hb : vb.oneCell' = true) : ∀ v ∈ evC e vt va vb, v.oneCell' = true := by
  intro v hv
  rw [evC, List.mem_cons, List.mem_append, sgC_eq, sgC_eq, List.mem_append, List.mem_append, List.mem_singleton, List.mem_singleton] at hv
  rcases hv with rfl | (hv | rfl) | (hv | rfl)
  · exact ht
  · exact rtC_one _ v hv
  · exact ha
  · exact rtC_one _ v hv
  · exact hb
def evPl (i : Nat) : Option (Nat × Nat) := (#[(0, 1), (1, 98), (99, 98)] : Array (Nat × Nat))[i]?
theorem built_evid (parts : List (Nat × Value)) : Tryd.prog.built 32 parts = Instr.fill evPl (evC zeroE (.slice none 0 0) (.slice none 0 0) (.slice none 0 0)).toArray parts := by kernel_rfl
theorem fill_ev {e : EvT} (oa : okS e.2.1) (ob : okS e.2.2) {va vb : Value} {ad : Option Addr} {n c : Nat} : Instr.fill evPl (evC zeroE (.slice none 0 0) (.slice none 0 0) (.slice none 0 0)).toArray [(0, .slice ad n c), (1, .agg (sgC e.2.1 va).toArray), (2, .agg (sgC e.2.2 vb).toArray)] = some (evC e (.slice ad n c) va vb).toArray := by
  have e0 : evC zeroE (.slice none 0 0) (.slice none 0 0) (.slice none 0 0) = [] ++ ([Value.slice none 0 0] ++ (sgC zeroS (.slice none 0 0) ++ sgC zeroS (.slice none 0 0))) := rfl
  rw [e0, fill_seg (vs := [.slice ad n c]) (size := 1) (by rfl) rfl rfl rfl rfl]
  have e1 : [] ++ ([Value.slice ad n c] ++ (sgC zeroS (.slice none 0 0) ++ sgC zeroS (.slice none 0 0))) = [Value.slice ad n c] ++ (sgC zeroS (.slice none 0 0) ++ sgC zeroS (.slice none 0 0)) := rfl
  rw [e1, fill_seg (vs := sgC e.2.1 va) (off := 1) (size := 98) (by rfl) rfl (len_sgC okS_zero _) rfl (len_sgC oa _)]
  have e2 : [Value.slice ad n c] ++ (sgC e.2.1 va ++ sgC zeroS (.slice none 0 0)) = (Value.slice ad n c :: sgC e.2.1 va) ++ (sgC zeroS (.slice none 0 0) ++ []) := by simp
  rw [e2, fill_seg (vs := sgC e.2.2 vb) (off := 99) (size := 98) (by rfl) (by rw [List.length_cons, len_sgC oa]) (len_sgC okS_zero _) rfl (len_sgC ob _)]
  rw [Instr.fill, evC]
  simp
theorem alloc_ev (f : Operand → Value) (o : Oper) (ho : o.op = .alloc 32) (w : World) : (execOp f o).run Tryd.prog w = .ok (.value (.pointer (some ⟨w.heap.size, 0, none⟩))) (w.alloc (.cells (evC zeroE (.slice none 0 0) (.slice none 0 0) (.slice none 0 0)).toArray 32)) := by
  unfold execOp
  rw [ho]
  kernel_rfl
theorem wpSeq_allocE {ops : Array Oper} {Q : Exit → Act → World → Prop} {rest : List Oper} {o : Oper} {a : Act} {w : World} (ho : o.op = .alloc 32) (hw : Region.wanted o (yielded ops a.tmps) = true)
    (h : ∀ g w', NewR (evC zeroE (.slice none 0 0) (.slice none 0 0) (.slice none 0 0)) 32 w g w' → wpList Tryd.prog ops Q rest (a.put o.dst (.pointer (some ⟨g, 0, none⟩))) w') : wpList Tryd.prog ops Q (o :: rest) a w :=
  wpSeq_val _ _ hw (alloc_ev _ _ ho _) (h _ _ (NewR.of _ _ w))
end Go.Proofs.YtableajopaappaaDoor
/- Plain: evidence as bytes, written and read (layer 12). -/
namespace Go.Proofs.YtableajopaappaaDoor
open Go.RowKit
set_option maxRecDepth 100000
def flS (s : SgT) : Nat × Bs × Bs × Bs × Bs := (s.1.1, s.1.2.1, s.1.2.2.1, s.1.2.2.2, s.2)
def unS (p : Nat × Bs × Bs × Bs × Bs) : SgT := ((p.1, p.2.1, p.2.2.1, p.2.2.2.1), p.2.2.2.2)
/-- a signed root's bytes -/
def encS (s : SgT) : Bs := encSigned (flS s)
/-- all roots of evidence, in order -/
def allE (e : EvT) : List SgT := e.1 ++ [e.2.1, e.2.2]
/-- 12.2 -/
def bytesF (e : EvT) : Bs := encList encText ((allE e).map encS)
/-- the signed root that bytes are -/
def readS (b : Bs) : Option SgT := (whole (signedR b)).map unS
def okT (s : SgT) : Prop := okS s ∧ s.2.length ≤ 1048576
theorem readS_iff (b : Bs) (s : SgT) : readS b = some s ↔ okT s ∧ b = encS s := by
  unfold readS
  constructor
  · intro h
    cases hw : whole (signedR b) with
    | none => rw [hw] at h; cases h
    | some p =>
      rw [hw] at h
      simp only [Option.map_some, Option.some.injEq] at h
      subst h
      have hs : signedR b = some (p, []) := by
        unfold whole at hw
        split at hw
        · rename_i a ha
          simp only [Option.some.injEq] at hw
          rw [← hw]
          exact ha
        · cases hw
      obtain ⟨⟨h1, h2, h3, h4, h5⟩, hb⟩ := (codes_signed _ _ _).1 hs
      exact ⟨⟨⟨h2, h3, h4, h1⟩, h5⟩, by rw [hb, List.append_nil]; rfl⟩
  · rintro ⟨⟨⟨h2, h3, h4, h1⟩, h5⟩, rfl⟩
    have hs : signedR (encS s) = some (flS s, []) := (codes_signed _ _ _).2 ⟨⟨h1, h2, h3, h4, h5⟩, by rw [List.append_nil]; rfl⟩
    rw [hs]
    rfl
/-- all of them -/
def readSs : List Bs → Option (List SgT)
  | [] => some []
  | t :: ts => match readS t with
    | none => none
    | some s => match readSs ts with
      | none => none
      | some l => some (s :: l)
theorem readSs_iff : ∀ (ts : List Bs) (l : List SgT), readSs ts = some l ↔ (∀ s ∈ l, okT s) ∧ ts = l.map encS
  | [], l => by
    rw [readSs]
    constructor
    · intro h; cases h; exact ⟨(fun _ h => by cases h), rfl⟩
    · rintro ⟨_, h⟩
      cases l with
      | nil => rfl
      | cons a l => cases h
  | t :: ts, l => by
    rw [readSs]
    constructor
    · intro h
      cases h1 : readS t with
      | none => rw [h1] at h; cases h
      | some s =>
        rw [h1] at h
        simp only at h
        cases h2 : readSs ts with
        | none => rw [h2] at h; cases h
        | some m =>
          rw [h2] at h
          simp only [Option.some.injEq] at h
          subst h
          obtain ⟨o1, rfl⟩ := (readS_iff _ _).1 h1
          obtain ⟨o2, rfl⟩ := (readSs_iff _ _).1 h2
          refine ⟨?_, rfl⟩
          intro x hx
          rcases List.mem_cons.1 hx with rfl | hx
          · exact o1
          · exact o2 x hx
    · rintro ⟨h1, h2⟩
      cases l with
      | nil => cases h2
      | cons s m =>
        simp only [List.map_cons, List.cons.injEq] at h2
        rw [(readS_iff t s).2 ⟨h1 s (by simp), h2.1⟩]
        simp only
        rw [(readSs_iff ts m).2 ⟨fun x hx => h1 x (by simp [hx]), h2.2⟩]
theorem readSs_len {ts : List Bs} {l : List SgT} (h : readSs ts = some l) : l.length = ts.length := by
  obtain ⟨_, rfl⟩ := (readSs_iff _ _).1 h
  simp
/-- one text more -/
theorem readSs_some {ts : List Bs} {l : List SgT} {t : Bs} {s : SgT} (h1 : readSs ts = some l) (h2 : readS t = some s) : readSs (ts ++ [t]) = some (l ++ [s]) := by
  obtain ⟨o1, rfl⟩ := (readSs_iff _ _).1 h1
  obtain ⟨o2, rfl⟩ := (readS_iff _ _).1 h2
  refine (readSs_iff _ _).2 ⟨?_, by simp⟩
  intro x hx
  rcases List.mem_append.1 hx with hx | hx
  · exact o1 x hx
  · rw [List.mem_singleton.1 hx]; exact o2
/-- a text that is none -/
theorem readSs_none {ts : List Bs} {t : Bs} (hm : t ∈ ts) (h : readS t = none) : readSs ts = none := by
  cases hl : readSs ts with
  | none => rfl
  | some l =>
    obtain ⟨o, rfl⟩ := (readSs_iff _ _).1 hl
    obtain ⟨s, hs, rfl⟩ := List.mem_map.1 hm
    rw [(readS_iff _ s).2 ⟨o s hs, rfl⟩] at h
    cases h
/-- roots in order, as evidence -/
def evL (l : List SgT) : EvT := (l.take (l.length - 2), l.getD (l.length - 2) zeroS, l.getD (l.length - 1) zeroS)
theorem evL_allE (e : EvT) : evL (allE e) = e := by
  obtain ⟨t, a, b⟩ := e
  have hl : (allE (t, a, b)).length = t.length + 2 := by simp [allE]
  show ((t ++ [a, b]).take _, (t ++ [a, b]).getD _ zeroS, (t ++ [a, b]).getD _ zeroS) = (t, a, b)
  rw [hl]
  refine Prod.ext ?_ (Prod.ext ?_ ?_)
  · show (t ++ [a, b]).take (t.length + 2 - 2) = t
    rw [Nat.add_sub_cancel, List.take_left]
  · show (t ++ [a, b]).getD (t.length + 2 - 2) zeroS = a
    rw [Nat.add_sub_cancel, List.getD_eq_getElem?_getD, List.getElem?_append_right (Nat.le_refl _), Nat.sub_self]
    rfl
  · show (t ++ [a, b]).getD (t.length + 2 - 1) zeroS = b
    rw [List.getD_eq_getElem?_getD, List.getElem?_append_right (by omega), show t.length + 2 - 1 - t.length = 1 by omega]
    rfl
theorem allE_evL {l : List SgT} (h : 2 ≤ l.length) : allE (evL l) = l := by
  have e : l = l.take (l.length - 2) ++ (l.getD (l.length - 2) zeroS :: l.drop (l.length - 2 + 1)) := by
    have hg : l.getD (l.length - 2) zeroS = l[l.length - 2]'(by omega) := by rw [List.getD_eq_getElem?_getD, List.getElem?_eq_getElem (by omega)]; rfl
    rw [hg, List.getElem_cons_drop, List.take_append_drop]
  have e2 : l.drop (l.length - 2 + 1) = l.getD (l.length - 1) zeroS :: l.drop (l.length - 1 + 1) := by
    have hg : l.getD (l.length - 1) zeroS = l[l.length - 1]'(by omega) := by rw [List.getD_eq_getElem?_getD, List.getElem?_eq_getElem (by omega)]; rfl
    rw [hg, List.getElem_cons_drop]
    congr 1
    omega
  have e3 : l.drop (l.length - 1 + 1) = [] := List.drop_eq_nil_of_le (by omega)
  rw [e3] at e2
  rw [e2] at e
  exact e.symm
/-- 12.3 -/
def readF (b : Bs) : Option EvT :=
  match readList readText b with
  | none => none
  | some ts => if 2 ≤ ts.length ∧ ts.length ≤ 65 then (readSs ts).map evL else none
def okB (e : EvT) : Prop := e.1.length ≤ 63 ∧ ∀ s ∈ allE e, okT s ∧ (encS s).length ≤ 1048576
theorem len_allE (e : EvT) : (allE e).length = e.1.length + 2 := by simp [allE]
theorem readF_iff (b : Bs) (e : EvT) : readF b = some e ↔ okB e ∧ b = bytesF e := by
  unfold readF
  constructor
  · intro h
    cases h1 : readList readText b with
    | none => rw [h1] at h; cases h
    | some ts =>
      rw [h1] at h
      simp only at h
      split at h
      · rename_i h2
        cases h3 : readSs ts with
        | none => rw [h3] at h; cases h
        | some l =>
          rw [h3] at h
          simp only [Option.map_some, Option.some.injEq] at h
          subst h
          obtain ⟨_, k2, rfl⟩ := (readList_iff readText_ok b ts).1 h1
          obtain ⟨o1, rfl⟩ := (readSs_iff _ _).1 h3
          rw [List.length_map] at h2
          refine ⟨⟨?_, ?_⟩, ?_⟩
          · show (l.take (l.length - 2)).length ≤ 63
            rw [List.length_take]
            omega
          · rw [allE_evL h2.1]
            exact fun s hs => ⟨o1 s hs, k2 _ (List.mem_map_of_mem hs)⟩
          · rw [bytesF, allE_evL h2.1]
      · cases h
  · rintro ⟨⟨h1, h2⟩, rfl⟩
    have hl : ((allE e).map encS).length = e.1.length + 2 := by rw [List.length_map, len_allE]
    rw [bytesF, (readList_iff readText_ok _ ((allE e).map encS)).2 ⟨by omega, fun t ht => by obtain ⟨s, hs, rfl⟩ := List.mem_map.1 ht; exact (h2 s hs).2, rfl⟩]
    simp only
    rw [if_pos ⟨by omega, by omega⟩, (readSs_iff _ (allE e)).2 ⟨fun s hs => (h2 s hs).1, rfl⟩]
    simp only [Option.map_some, evL_allE]
/-- 12.3: taken or not -/
def acceptF (pin : Bs) (b : Bs) : Int :=
  match readF b with
  | none => 3
  | some e => checkF pin e
/-- 12.4 -/
def findF (pin : Bs) (l m : List SgT) : Option EvT :=
  match firstU l m with
  | none => none
  | some i => if checkF pin (l.take i, l.getD i zeroS, m.getD i zeroS) = 0 then some (l.take i, l.getD i zeroS, m.getD i zeroS) else none
theorem encNum_le : ∀ (k n : Nat), n < 128 ^ (k + 1) → (encNum n).length ≤ k + 1
  | 0, n, h => by
    rw [encNum_lt (by simpa using h)]
    simp
  | k + 1, n, h => by
    by_cases h1 : n < 128
    · rw [encNum_lt h1]; simp
    · rw [encNum_ge h1, List.length_cons]
      have := encNum_le k (n / 128) (by rw [Nat.div_lt_iff_lt_mul (by decide)]; rw [Nat.pow_succ] at h; exact h)
      omega
theorem encNum_ten {n : Nat} (h : n < 18446744073709551616) : (encNum n).length ≤ 10 := encNum_le 9 n (Nat.lt_of_lt_of_le h (by decide))
theorem len_encS {s : SgT} (os : okS s) (hl : s.2.length < 18446744073709551616) : (encS s).length ≤ s.2.length + 116 := by
  have h1 := encNum_ten os.2.2.2
  have h2 := encNum_ten hl
  have e : encS s = encNum s.1.1 ++ (s.1.2.1 ++ (s.1.2.2.1 ++ (s.1.2.2.2 ++ (encNum s.2.length ++ s.2)))) := rfl
  rw [e]
  simp only [List.length_append, os.1, os.2.1, os.2.2.1]
  omega
/-- 12.5: what is not too long is read as it was written -/
theorem okB_light {e : EvT} (h1 : e.1.length ≤ 63) (h2 : ∀ s ∈ allE e, okS s ∧ s.2.length ≤ 524288) : okB e :=
  ⟨h1, fun s hs => ⟨⟨(h2 s hs).1, by have := (h2 s hs).2; omega⟩, by have := len_encS (h2 s hs).1 (by have := (h2 s hs).2; omega); have := (h2 s hs).2; omega⟩⟩
theorem read_back {e : EvT} (h : okB e) : readF (bytesF e) = some e := (readF_iff _ _).2 ⟨h, rfl⟩
theorem encAll_le {α : Type} (f : α → Bs) (B : Nat) : ∀ l : List α, (∀ a ∈ l, (f a).length ≤ B) → (encAll f l).length ≤ l.length * B
  | [], _ => by simp [encAll]
  | x :: l, h => by
    rw [encAll_cons, List.length_append, List.length_cons, Nat.succ_mul]
    have h1 := h x (by simp)
    have h2 := encAll_le f B l (fun a ha => h a (by simp [ha]))
    omega
/-- how long evidence's bytes may be -/
theorem bytesF_le {e : EvT} (h1 : e.1.length ≤ 64) (h2 : ∀ s ∈ allE e, okS s ∧ s.2.length ≤ 1048576) : (bytesF e).length ≤ 1000000000 := by
  have h3 : (encAll encText ((allE e).map encS)).length ≤ ((allE e).map encS).length * 1048702 := encAll_le encText 1048702 _ fun t ht => by
    obtain ⟨s, hs, rfl⟩ := List.mem_map.1 ht
    obtain ⟨o, l⟩ := h2 s hs
    have h4 := len_encS o (by omega)
    have h5 := encNum_ten (n := (encS s).length) (by omega)
    rw [encText, List.length_append]
    omega
  rw [List.length_map, len_allE] at h3
  have h6 := encNum_ten (n := e.1.length + 2) (by omega)
  rw [bytesF, encList, List.length_append, List.length_map, len_allE]
  have h7 : (e.1.length + 2) * 1048702 ≤ 66 * 1048702 := Nat.mul_le_mul_right _ (by omega)
  omega
end Go.Proofs.YtableajopaappaaDoor
/- Evidence whose values are slices; a slice of two signed roots; few roots (layer 12). -/
namespace Go.Proofs.YtableajopaappaaDoor
open Go.RowKit Go.Shelf
set_option maxRecDepth 100000
theorem Tryd.infos3 : (Tryd.prog.info? 30).map (fun i => (i.zero, i.size, i.bytes)) = some (some (.agg (sgC zeroS (.slice none 0 0)).toArray), 98, 128) := by kernel_rfl
theorem fill_one98 (cs : List Value) (h : cs.length = 98) (a0 : Array Value) (ha : a0.size = 98) : Instr.fill (fun i => some (i * 98, 98)) a0 [(0, .agg cs.toArray)] = some cs.toArray := by
  have e : a0 = ([] ++ (a0.toList ++ [])).toArray := by simp
  rw [e, fill_seg (vs := cs) (off := 0) (size := 98) (by simp) rfl (by simpa using ha) rfl h, Instr.fill]
  simp
theorem build_sg (f : Operand → Value) (o : Oper) (x : Operand) (ho : o.op = .buildSlice 24 1 #[(0, x)]) (s : SgT) (os : okS s) (vs : Value) (hx : f x = .agg (sgC s vs).toArray) (w : World) :
    (execOp f o).run Tryd.prog w = .ok (.value (.slice (some ⟨w.heap.size, 0, none⟩) 1 1)) (w.alloc (.cells (sgC s vs).toArray 30)) := by
  obtain ⟨i0, hi, hz, hs, _⟩ := info_parts Tryd.infos3
  have hr := run_buildSlice (P := Tryd.prog) w 24 30 1 #[(0, .agg (sgC s vs).toArray)] (sgC s vs).toArray i0 _ Tryd.underlying24 hi hz (by rw [hs]; decide) (by rw [hs]; decide) (by rw [hs]; exact fill_one98 (sgC s vs) (len_sgC os vs) _ (by simp))
  unfold execOp
  rw [ho]
  simp only [List.map_toArray, List.map_cons, List.map_nil, hx, Sem.run_bind, hr, Result.andThen_ok, Sem.run_pure]
theorem wpSeq_buildS {ops : Array Oper} {Q : Exit → Act → World → Prop} {rest : List Oper} {o : Oper} {a : Act} {w : World} (x : Operand) (s : SgT) (vs : Value) (os : okS s) (ho : o.op = .buildSlice 24 1 #[(0, x)]) (hx : a.eval x = .agg (sgC s vs).toArray) (hw : Region.wanted o (yielded ops a.tmps) = true)
    (h : ∀ g w', NewR (sgC s vs) 30 w g w' → wpList Tryd.prog ops Q rest (a.put o.dst (.slice (some ⟨g, 0, none⟩) 1 1)) w') : wpList Tryd.prog ops Q (o :: rest) a w :=
  wpSeq_val _ _ hw (build_sg _ o x ho s os vs hx w) (h _ _ (NewR.of _ _ w))
theorem build_zd (f : Operand → Value) (o : Oper) (ho : o.op = .build 23 #[]) (w : World) : (execOp f o).run Tryd.prog w = .ok (.value (.agg (cb zb32).toArray)) w := by
  unfold execOp
  rw [ho]
  kernel_rfl
theorem wpSeq_buildZD {ops : Array Oper} {Q : Exit → Act → World → Prop} {rest : List Oper} {o : Oper} {a : Act} {w : World} (ho : o.op = .build 23 #[]) (hw : Region.wanted o (yielded ops a.tmps) = true)
    (h : wpList Tryd.prog ops Q rest (a.put o.dst (.agg (cb zb32).toArray)) w) : wpList Tryd.prog ops Q (o :: rest) a w :=
  wpSeq_val _ _ hw (build_zd _ _ ho _) h
theorem fill_two98 (cs ds : List Value) (h : cs.length = 98) (h2 : ds.length = 98) (a0 : Array Value) (ha : a0.size = 196) : Instr.fill (fun i => some (i * 98, 98)) a0 [(0, .agg cs.toArray), (1, .agg ds.toArray)] = some (cs ++ ds).toArray := by
  have e : a0 = ([] ++ (a0.toList.take 98 ++ a0.toList.drop 98)).toArray := by simp
  have l0 : a0.toList.length = 196 := by rw [Array.length_toList, ha]
  rw [e, fill_seg (vs := cs) (off := 0) (size := 98) (by simp) rfl (by rw [List.length_take, l0]; rfl) rfl h]
  have e2 : [] ++ (cs ++ a0.toList.drop 98) = cs ++ (a0.toList.drop 98 ++ []) := by simp
  rw [e2, fill_seg (vs := ds) (off := 98) (size := 98) (by simp) h (by rw [List.length_drop, l0]) rfl h2, Instr.fill]
  simp
theorem build_sg2 (f : Operand → Value) (o : Oper) (x y : Operand) (ho : o.op = .buildSlice 24 2 #[(0, x), (1, y)]) (ca cb2 : List Value) (ha : ca.length = 98) (hb : cb2.length = 98) (hx : f x = .agg ca.toArray) (hy : f y = .agg cb2.toArray) (w : World) :
    (execOp f o).run Tryd.prog w = .ok (.value (.slice (some ⟨w.heap.size, 0, none⟩) 2 2)) (w.alloc (.cells (ca ++ cb2).toArray 30)) := by
  obtain ⟨i0, hi, hz, hs, _⟩ := info_parts Tryd.infos3
  have hr := run_buildSlice (P := Tryd.prog) w 24 30 2 #[(0, .agg ca.toArray), (1, .agg cb2.toArray)] (ca ++ cb2).toArray i0 _ Tryd.underlying24 hi hz (by rw [hs]; decide) (by rw [hs]; decide) (by rw [hs]; exact fill_two98 ca cb2 ha hb _ (by simp))
  unfold execOp
  rw [ho]
  simp only [List.map_toArray, List.map_cons, List.map_nil, hx, hy, Sem.run_bind, hr, Result.andThen_ok, Sem.run_pure]
theorem wpSeq_buildS2 {ops : Array Oper} {Q : Exit → Act → World → Prop} {rest : List Oper} {o : Oper} {a : Act} {w : World} (x y : Operand) (ca cb2 : List Value) (ha : ca.length = 98) (hb : cb2.length = 98) (ho : o.op = .buildSlice 24 2 #[(0, x), (1, y)]) (hx : a.eval x = .agg ca.toArray) (hy : a.eval y = .agg cb2.toArray) (hw : Region.wanted o (yielded ops a.tmps) = true)
    (h : ∀ g w', NewR (ca ++ cb2) 30 w g w' → wpList Tryd.prog ops Q rest (a.put o.dst (.slice (some ⟨g, 0, none⟩) 2 2)) w') : wpList Tryd.prog ops Q (o :: rest) a w :=
  wpSeq_val _ _ hw (build_sg2 _ o x y ho ca cb2 ha hb hx hy w) (h _ _ (NewR.of _ _ w))
theorem readsS_two {w : World} {g : Nat} {s t : SgT} {va vb : Value} (hb : Blk w g (sgC s va ++ sgC t vb) 30) (os : okS s) (ot : okS t) (ha : Reads w va s.2) (hv : Reads w vb t.2) : ReadsS w (.slice (some ⟨g, 0, none⟩) 2 2) [s, t] := by
  refine ⟨⟨_, _, rfl, Nat.le_refl _, (fun e => by cases e), fun _ => ⟨g, 0, rfl, fun j hj => ?_⟩⟩, fun u hu => ?_⟩
  · have h2 : j = 0 ∨ j = 1 := by simp at hj; omega
    rcases h2 with rfl | rfl
    · refine ⟨va, ⟨?_, os⟩, ha⟩
      exact range_part (A := []) (B := sgC s va) (C := sgC t vb) hb.range rfl
    · refine ⟨vb, ⟨?_, ot⟩, hv⟩
      exact range_end (A := sgC s va) (B := sgC t vb) hb.range (len_sgC os va)
  · rcases List.mem_cons.1 hu with rfl | hu
    · exact os
    · rw [List.mem_singleton.1 hu]; exact ot
/-- the cells of evidence, its values slices -/
structure EvB (w : World) (e : EvT) (cs : List Value) : Prop where
  ex : ∃ adt ct ada na ca adb nb cc, cs = evC e (.slice adt e.1.length ct) (.slice ada na ca) (.slice adb nb cc) ∧ EvIs w e (.slice adt e.1.length ct) (.slice ada na ca) (.slice adb nb cc)
theorem EvIs.evB {w : World} {e : EvT} {vt va vb : Value} (h : EvIs w e vt va vb) : EvB w e (evC e vt va vb) := by
  obtain ⟨adt, ct, hvt⟩ := h.tr.form
  obtain ⟨ada, na, ca, hva⟩ := h.a.form
  obtain ⟨adb, nb, cc, hvb⟩ := h.b.form
  subst hvt hva hvb
  exact ⟨⟨_, _, _, _, _, _, _, _, rfl, h⟩⟩
theorem EvB.below {w w' : World} {e : EvT} {cs : List Value} (h : EvB w e cs) (hb : Below w.heap.size w w') : EvB w' e cs := by
  obtain ⟨adt, ct, ada, na, ca, adb, nb, cc, h1, h2⟩ := h.ex
  exact ⟨⟨adt, ct, ada, na, ca, adb, nb, cc, h1, h2.below hb⟩⟩
theorem EvB.open {w : World} {e : EvT} {cs : List Value} (h : EvB w e cs) : ∃ vt va vb, cs = evC e vt va vb ∧ EvIs w e vt va vb := by
  obtain ⟨adt, ct, ada, na, ca, adb, nb, cc, h1, h2⟩ := h.ex
  exact ⟨_, _, _, h1, h2⟩
theorem EvB.zero (w : World) : EvB w zeroE (evC zeroE (.slice none 0 0) (.slice none 0 0) (.slice none 0 0)) := (EvIs.zero w).evB
/-- what is told of such cells in any world -/
structure EvOk (e : EvT) (cs : List Value) : Prop where
  len : cs.length = 197
  info : (Tryd.prog.info? 32).map (·.size) = some cs.length
  one : ∀ v ∈ cs, v.oneCell' = true
  tr : ∃ ad c, ∀ (W : World) (g : Nat), Blk W g cs 32 → W.cell? ⟨g, 0, none⟩ = some (.slice ad e.1.length c)
theorem EvB.ok {w : World} {e : EvT} {cs : List Value} (h : EvB w e cs) : EvOk e cs := by
  obtain ⟨adt, ct, ada, na, ca, adb, nb, cc, rfl, h2⟩ := h.ex
  exact ⟨len_evC h2.oa h2.ob _ _ _, info_evC h2.oa h2.ob _ _ _, evC_one e rfl rfl rfl, adt, ct, fun W g hb => (hb.evAt h2.oa h2.ob).tr⟩
theorem len_zeroE : (evC zeroE (.slice none 0 0) (.slice none 0 0) (.slice none 0 0)).length = 197 := len_evC okS_zero okS_zero _ _ _
theorem EvOk.lz {e : EvT} {cs : List Value} (h : EvOk e cs) : cs.length = (evC zeroE (.slice none 0 0) (.slice none 0 0) (.slice none 0 0)).length := h.len.trans len_zeroE.symm
theorem var_evB {w : World} {g : Nat} {e : EvT} {cs : List Value} (hb : Blk w g cs 32) (h : EvOk e cs) : (loadVar 32 ⟨g, 0, none⟩).run Tryd.prog w = .ok (.agg cs.toArray) w :=
  run_loadVar_row (P := Tryd.prog) w g 32 32 cs.toArray (0, 0) _ hb Tryd.underlying32 rfl (by rw [List.size_toArray]; exact h.info)
/-- the evidence that bytes are, or none; what is answered beside it -/
def readE (b : Bs) : EvT := (readF b).getD zeroE
def readX (b : Bs) : Int := if (readF b).isSome then 0 else 3
def findE (pin : Bs) (l m : List SgT) : EvT := (findF pin l m).getD zeroE
/-- what fork's functions must do -/
structure FkOps : Prop where
  check : ∀ (W : World) (pin : Bs) (e : EvT) (cs : List Value), KOk W → pin.length = 32 → EvB W e cs → e.1.length < 1000000 → Calls Tryd.prog 11 #[.agg (cb pin).toArray, .agg cs.toArray] W fun r w' => r = .returned (.int .i64 (checkF pin e)) ∧ Below W.heap.size W w'
  bytes : ∀ (W : World) (e : EvT) (cs : List Value), KOk W → EvB W e cs → e.1.length ≤ 64 → (∀ s ∈ allE e, s.2.length ≤ 1048576) → Calls Tryd.prog 18 #[.agg cs.toArray] W fun r w' => ∃ v, r = .returned v ∧ Reads w' v (bytesF e) ∧ Below W.heap.size W w'
  read : ∀ (W : World) (v : Value) (b : Bs), KOk W → Reads W v b → b.length ≤ 1000000000 → Calls Tryd.prog 13 #[v] W fun r w' => ∃ cs, r = .returned (.tuple #[.agg (cs : List Value).toArray, .int .i64 (readX b)]) ∧ EvB w' (readE b) cs ∧ Below W.heap.size W w'
  accept : ∀ (W : World) (pin : Bs) (v : Value) (b : Bs), KOk W → pin.length = 32 → Reads W v b → b.length ≤ 1000000000 → Calls Tryd.prog 16 #[.agg (cb pin).toArray, v] W fun r w' => r = .returned (.int .i64 (acceptF pin b)) ∧ Below W.heap.size W w'
  find : ∀ (W : World) (pin : Bs) (v u : Value) (l m : List SgT), KOk W → pin.length = 32 → ReadsS W v l → ReadsS W u m → l.length ≤ 40 → m.length ≤ 40 → (∀ s ∈ l, s.2.length ≤ 524288) → (∀ s ∈ m, s.2.length ≤ 524288) → Calls Tryd.prog 21 #[.agg (cb pin).toArray, v, u] W fun r w' => ∃ cs, r = .returned (.tuple #[.agg (cs : List Value).toArray, .bool (findF pin l m).isSome]) ∧ EvB w' (findE pin l m) cs ∧ Below W.heap.size W w'
/-- what few tells -/
def fewGo : List SgT → Int → Bool
  | [], z => decide (z ≤ 524288)
  | s :: l, z => if z ≤ 524288 then fewGo l (IntKind.i64.wrap (z + (s.2.length : Int))) else false
def fewR (l : List SgT) : Bool := decide (l.length ≤ 40) && fewGo l 0
theorem fewR_len {l : List SgT} (h : fewR l = true) : l.length ≤ 40 := by
  rw [fewR, Bool.and_eq_true] at h
  exact of_decide_eq_true h.1
def lightR (e : EvT) : Bool := fewR e.1 && fewR [e.2.1, e.2.2]
theorem lightR_len {e : EvT} (h : lightR e = true) : e.1.length ≤ 40 := by
  rw [lightR, Bool.and_eq_true] at h
  exact fewR_len h.1
set_option maxRecDepth 100000 in
set_option maxHeartbeats 8000000 in
theorem few12_any (v : Value) (l : List SgT) (w : World) (hl : ReadsS w v l) : Calls Tryd.prog 20 #[v] w fun e w' => e = .returned (.bool (fewR l)) ∧ w' = w := by
  obtain ⟨⟨ad, cap, hv, hq1, hq2, hq3⟩, hok⟩ := id hl
  clear hq1 hq2 hq3 hok
  obtain ⟨n, HN⟩ : ∃ n, Hid (n = l.length) := ⟨_, rfl⟩
  rw [← HN.out] at hv
  have HL : Hid (ReadsS w v l) := hl
  clear hl
  subst hv
  by_cases h40 : 40 < n
  · have hi : (40 : Int) < (n : Int) := by omega
    have HR : Hid (fewR l = false) := by show _ = _; rw [fewR, decide_eq_false (by rw [← HN.out]; omega), Bool.false_and]
    go_enter Tryd.func20, Tryd.ntmps20
    go_wp2
    go_ret
    exact ⟨by rw [HR.out]; rfl, rfl⟩
  have hi : ¬ ((40 : Int) < (n : Int)) := by omega
  obtain ⟨r, HR⟩ : ∃ r, Hid (r = fewR l) := ⟨_, rfl⟩
  have HRG : Hid (r = fewGo l 0) := by show _ = _; rw [HR.out, fewR, decide_eq_true (by rw [← HN.out]; omega), Bool.true_and]
  rw [← HR.out]
  clear HR
  go_enter Tryd.func20, Tryd.ntmps20
  go_wp2
  go_loopw [3, 4] (fun m i wr => ∃ (k : Nat) (z : Int), k ≤ n ∧ i = .int .i64 (k : Int) ∧ m = .int .i64 z ∧ wr = w ∧ Hid (r = fewGo (l.drop k) z)) (fun _ i _ => n - (intOf i).toNat)
  case atStart => exact ⟨0, 0, by omega, rfl, rfl, rfl, HRG.out⟩
  case round =>
    obtain ⟨k, z, hkn, rfl, rfl, rfl, HG⟩ := hrel
    clear HRG
    by_cases hlt : k < n
    · have hlk : (k : Int) < (n : Int) := by omega
      have k0 : (0 : Int) ≤ (k : Int) := by omega
      have f5 : IntKind.i64.wrap ((k : Int) + 1) = (k : Int) + 1 := by rw [IntKind.wrap_i64]; omega
      have HLT : Hid (k < l.length) := by show _ < _; rw [← HN.out]; exact hlt
      obtain ⟨s, HS⟩ : ∃ s, Hid (s = l.getD k zeroS) := ⟨_, rfl⟩
      have HDR : Hid (l.drop k = s :: l.drop (k + 1)) := by
        show _ = _
        have hg : l.getD k zeroS = l[k]'HLT.out := by rw [List.getD_eq_getElem?_getD, List.getElem?_eq_getElem HLT.out]; rfl
        rw [HS.out, hg, List.getElem_cons_drop]
      by_cases hz : z ≤ 524288
      · obtain ⟨b, off, cap', hv2, hat⟩ := HL.out.at (by rw [← HN.out]; omega)
        simp only [Value.slice.injEq] at hv2
        obtain ⟨rfl, hnl, rfl⟩ := hv2
        clear hnl
        obtain ⟨vs, hsa, hrs⟩ := hat k HLT.out
        rw [← HS.out] at hsa hrs
        obtain ⟨a3, c3, hv3, hq⟩ := id hrs
        clear hq
        obtain ⟨n3, HN3⟩ : ∃ n, Hid (n = s.2.length) := ⟨_, rfl⟩
        rw [← HN3.out] at hv3
        subst hv3
        have hsg : wr.cell? ⟨b, off + k * 98 + 97, none⟩ = some (.slice a3 n3 c3) := hsa.sig
        have HG2 : Hid (r = fewGo (l.drop (k + 1)) (IntKind.i64.wrap (z + (n3 : Int)))) := by show _ = _; rw [HG.out, HDR.out, fewGo, if_pos hz, HN3.out]
        clear hat hsa hrs
        go_wp2
        go_roundw
        case rel => exact ⟨k + 1, _, by omega, by simp, rfl, by first | rfl | trivial, by have h := HG2.out; rw [IntKind.wrap_i64] at h; show _ = _; unfold RowKit.wrap64; exact h⟩
        case measure => simp [intOf]; omega
      · have HF : Hid (r = false) := by show _ = _; rw [HG.out, HDR.out, fewGo, if_neg hz]
        go_wp2
        go_ret
        exact ⟨by rw [HF.out]; rfl, rfl⟩
    · have hlk : ¬ ((k : Int) < (n : Int)) := by omega
      have HE : Hid (r = decide (z ≤ 524288)) := by show _ = _; rw [HG.out, List.drop_eq_nil_of_le (by rw [← HN.out]; omega)]; rfl
      by_cases hz : z ≤ 524288
      · have HF : Hid (r = true) := by show _ = _; rw [HE.out, decide_eq_true hz]
        go_wp2
        go_ret
        exact ⟨by rw [HF.out]; rfl, rfl⟩
      · have HF : Hid (r = false) := by show _ = _; rw [HE.out, decide_eq_false hz]
        go_wp2
        go_ret
        exact ⟨by rw [HF.out]; rfl, rfl⟩
end Go.Proofs.YtableajopaappaaDoor
/- What the statements of layer 12 call: light, works. -/
namespace Go.Proofs.YtableajopaappaaDoor
open Go.RowKit Go.Shelf
set_option maxRecDepth 100000
set_option maxRecDepth 100000 in
set_option maxHeartbeats 8000000 in
theorem light12_any (e : EvT) (cs : List Value) (w : World) (hE : EvB w e cs) : Calls Tryd.prog 9 #[.agg cs.toArray] w fun r w' => r = .returned (.bool (lightR e)) ∧ Below w.heap.size w w' := by
  obtain ⟨vt, va, vb, hcs, he⟩ := hE.open
  subst hcs
  obtain ⟨adt, ct, hvt⟩ := he.tr.form
  obtain ⟨ada, na, ca, hva⟩ := he.a.form
  obtain ⟨adb, nb, cc, hvb⟩ := he.b.form
  obtain ⟨nt, HNT⟩ : ∃ n, Hid (n = e.1.length) := ⟨_, rfl⟩
  rw [← HNT.out] at hvt
  subst hvt hva hvb
  obtain ⟨cev, HCE⟩ : ∃ c, Hid (c = evC e (.slice adt nt ct) (.slice ada na ca) (.slice adb nb cc)) := ⟨_, rfl⟩
  rw [← HCE.out]
  have HEV : Hid (EvIs w e (.slice adt nt ct) (.slice ada na ca) (.slice adb nb cc)) := he
  have HIE : Hid ((Tryd.prog.info? 32).map (·.size) = some cev.length) := by show _ = _; rw [HCE.out]; exact info_evC he.oa he.ob _ _ _
  have HAT : Hid (∀ (W : World) (g : Nat), Blk W g cev 32 → EvAt W g 0 e (.slice adt nt ct) (.slice ada na ca) (.slice adb nb cc)) := fun W g hg => by rw [HCE.out] at hg; exact hg.evAt HEV.out.oa HEV.out.ob
  obtain ⟨csa, HSA⟩ : ∃ c, Hid (c = sgC e.2.1 (.slice ada na ca)) := ⟨_, rfl⟩
  obtain ⟨csb, HSB⟩ : ∃ c, Hid (c = sgC e.2.2 (.slice adb nb cc)) := ⟨_, rfl⟩
  have HIS : Hid ((Tryd.prog.info? 30).map (·.size) = some csa.length ∧ (Tryd.prog.info? 30).map (·.size) = some csb.length) := by rw [HSA.out, HSB.out]; exact ⟨info_sgC HEV.out.oa _, info_sgC HEV.out.ob _⟩
  have HRG : Hid (∀ (W : World) (g : Nat), Blk W g cev 32 → W.rangeAt g 1 csa ∧ W.rangeAt g 99 csb) := fun W g hg => by rw [HSA.out, HSB.out]; have h := HAT.out W g hg; refine ⟨?_, ?_⟩; have := h.a.all; rwa [Nat.zero_add] at this; have := h.b.all; rwa [Nat.zero_add] at this
  clear he
  obtain ⟨b1, HB1⟩ : ∃ b, Hid (b = fewR e.1) := ⟨_, rfl⟩
  obtain ⟨b2, HB2⟩ : ∃ b, Hid (b = fewR [e.2.1, e.2.2]) := ⟨_, rfl⟩
  have HLR : Hid (lightR e = (b1 && b2)) := by show _ = _; rw [lightR, HB1.out, HB2.out]
  have HC1 : Hid (∀ W : World, Below w.heap.size w W → Calls Tryd.prog 20 #[.slice adt nt ct] W fun r w' => r = .returned (.bool b1) ∧ Below W.heap.size W w') := fun W hh => by rw [HB1.out]; exact (few12_any _ e.1 W (HEV.out.tr.below hh)).mono fun r w' ⟨h1, h2⟩ => ⟨h1, by rw [h2]; exact Below.refl _ _⟩
  have HC2 : Hid (∀ (W : World) (g : Nat), Below w.heap.size w W → Blk W g (csa ++ csb) 30 → Calls Tryd.prog 20 #[.slice (some ⟨g, 0, none⟩) 2 2] W fun r w' => r = .returned (.bool b2) ∧ Below W.heap.size W w') := fun W g hh hb => by rw [HSA.out, HSB.out] at hb; rw [HB2.out]; exact (few12_any _ [e.2.1, e.2.2] W (readsS_two hb HEV.out.oa HEV.out.ob (HEV.out.a.below hh) (HEV.out.b.below hh))).mono fun r w' ⟨h1, h2⟩ => ⟨h1, by rw [h2]; exact Below.refl _ _⟩
  have HL98 : Hid (csa.length = 98 ∧ csb.length = 98) := by rw [HSA.out, HSB.out]; exact ⟨len_sgC HEV.out.oa _, len_sgC HEV.out.ob _⟩
  have HBW : Hid (Below w.heap.size w w) := Below.refl _ _
  clear HB1 HB2
  cases b1 with
  | false =>
    go_enter Tryd.func9, Tryd.ntmps9
    have tk0 : Hid True := trivial
    have tk1 : Hid True := trivial
    go_wp2_with (first
      | (clear tk0; with_reducible refine wpSeq_boxW 32 (.tmp 0) cev ?_ ?_ ?_ ?_
         · rfl
         · rfl
         · rfl
         intro g1 y1 nn
         replace HBW : Hid (Below w.heap.size w y1) := HBW.out.trans (nn.below.mono HBW.out.size)
         have HG1 : Hid (Blk y1 g1 cev 32) := nn.blk
         clear nn
         have cet : (y1).cell? ⟨g1, 0, none⟩ = some (.slice adt nt ct) := (HAT.out _ _ HG1.out).tr
         skip)
      | (clear tk1; go_at_call 20; refine (HC1.out y1 HBW.out).mono ?_; rintro e y2 ⟨rfl, hbz⟩
         clear cet
         replace HG1 : Hid (Blk y2 g1 cev 32) := HG1.out.below hbz HG1.out.lt
         replace HBW : Hid (Below w.heap.size w y2) := HBW.out.trans (hbz.mono HBW.out.size)
         have cet : (y2).cell? ⟨g1, 0, none⟩ = some (.slice adt nt ct) := (HAT.out _ _ HG1.out).tr
         clear hbz ))
    go_ret
    exact ⟨by rw [HLR.out]; rfl, HBW.out⟩
  | true =>
    go_enter Tryd.func9, Tryd.ntmps9
    have tk0 : Hid True := trivial
    have tk1 : Hid True := trivial
    have tk2 : Hid True := trivial
    have tk3 : Hid True := trivial
    have tk4 : Hid True := trivial
    have tk5 : Hid True := trivial
    go_wp2_with (first
      | (clear tk0; with_reducible refine wpSeq_boxW 32 (.tmp 0) cev ?_ ?_ ?_ ?_
         · rfl
         · rfl
         · rfl
         intro g1 y1 nn
         replace HBW : Hid (Below w.heap.size w y1) := HBW.out.trans (nn.below.mono HBW.out.size)
         have HG1 : Hid (Blk y1 g1 cev 32) := nn.blk
         clear nn
         have cet : (y1).cell? ⟨g1, 0, none⟩ = some (.slice adt nt ct) := (HAT.out _ _ HG1.out).tr
         skip)
      | (clear tk1; go_at_call 20; refine (HC1.out y1 HBW.out).mono ?_; rintro e y2 ⟨rfl, hbz⟩
         clear cet
         replace HG1 : Hid (Blk y2 g1 cev 32) := HG1.out.below hbz HG1.out.lt
         replace HBW : Hid (Below w.heap.size w y2) := HBW.out.trans (hbz.mono HBW.out.size)
         have cet : (y2).cell? ⟨g1, 0, none⟩ = some (.slice adt nt ct) := (HAT.out _ _ HG1.out).tr
         clear hbz )
      | (clear tk2; with_reducible refine wpSeq_loadW 30 (.tmp 7) g1 1 csa _ ?_ Tryd.underlying30 rfl ?_ ?_ ?_ ?_ ?_
         · exact (HRG.out _ _ HG1.out).1
         · exact HIS.out.1
         · rfl
         · rfl
         · rfl)
      | (clear tk3; with_reducible refine wpSeq_loadW 30 (.tmp 9) g1 99 csb _ ?_ Tryd.underlying30 rfl ?_ ?_ ?_ ?_ ?_
         · exact (HRG.out _ _ HG1.out).2
         · exact HIS.out.2
         · rfl
         · rfl
         · rfl)
      | (clear tk4; with_reducible refine wpSeq_buildS2 (.tmp 8) (.tmp 10) csa csb ?_ ?_ ?_ ?_ ?_ ?_ ?_
         · exact HL98.out.1
         · exact HL98.out.2
         · rfl
         · rfl
         · rfl
         · rfl
         intro g11 y3 nn
         clear cet
         replace HG1 : Hid (Blk y3 g1 cev 32) := HG1.out.below nn.below HG1.out.lt
         replace HBW : Hid (Below w.heap.size w y3) := HBW.out.trans (nn.below.mono HBW.out.size)
         have cet : (y3).cell? ⟨g1, 0, none⟩ = some (.slice adt nt ct) := (HAT.out _ _ HG1.out).tr
         have H11 : Hid (Blk y3 g11 (csa ++ csb) 30) := nn.blk
         clear nn)
      | (clear tk5; go_at_call 20; refine (HC2.out y3 g11 HBW.out H11.out).mono ?_; rintro e y4 ⟨rfl, hbz⟩
         clear cet
         replace HG1 : Hid (Blk y4 g1 cev 32) := HG1.out.below hbz HG1.out.lt
         replace HBW : Hid (Below w.heap.size w y4) := HBW.out.trans (hbz.mono HBW.out.size)
         have cet : (y4).cell? ⟨g1, 0, none⟩ = some (.slice adt nt ct) := (HAT.out _ _ HG1.out).tr
         clear hbz ))
    go_ret
    exact ⟨by rw [HLR.out, Bool.true_and]; rfl, HBW.out⟩
theorem okB_zero : okB zeroE := okB_light (by decide) (fun s hs => by
  rcases List.mem_cons.1 hs with rfl | hs
  · exact ⟨okS_zero, by decide⟩
  · rw [List.mem_singleton.1 hs]; exact ⟨okS_zero, by decide⟩)
theorem bytesZ_len : (bytesF zeroE).length ≤ 1000000000 := bytesF_le (by decide) (fun s hs => (okB_zero.2 s hs).1)
set_option maxRecDepth 100000 in
set_option maxHeartbeats 8000000 in
theorem works12_any (hO : FkOps) (w : World) (hK : KOk w) : Calls Tryd.prog 10 #[] w fun e w' => e = .returned (.bool true) ∧ Below w.heap.size w w' := by
  obtain ⟨cz, HCZ⟩ : ∃ c, Hid (c = evC zeroE (.slice none 0 0) (.slice none 0 0) (.slice none 0 0)) := ⟨_, rfl⟩
  obtain ⟨bz, HBZ⟩ : ∃ c, Hid (c = bytesF zeroE) := ⟨_, rfl⟩
  have HR1 : Hid (∀ W : World, Below w.heap.size w W → Calls Tryd.prog 13 #[.slice none 0 0] W fun r w' => ∃ cs, r = .returned (.tuple #[.agg (cs : List Value).toArray, .int .i64 3]) ∧ EvB w' zeroE cs ∧ Below W.heap.size W w') := fun W hh => hO.read W (.slice none 0 0) [] (hK.below hh hK.lt) (reads_nil10 W) (by decide)
  have HB1 : Hid (∀ W : World, Below w.heap.size w W → Calls Tryd.prog 18 #[.agg cz.toArray] W fun r w' => ∃ v, r = .returned v ∧ Reads w' v bz ∧ Below W.heap.size W w') := fun W hh => by rw [HCZ.out, HBZ.out]; exact hO.bytes W zeroE _ (hK.below hh hK.lt) (EvB.zero W) (by decide) (fun s hs => (okB_zero.2 s hs).1.2)
  have HR2 : Hid (∀ (W : World) (v : Value), Below w.heap.size w W → Reads W v bz → Calls Tryd.prog 13 #[v] W fun r w' => ∃ cs, r = .returned (.tuple #[.agg (cs : List Value).toArray, .int .i64 0]) ∧ EvB w' zeroE cs ∧ Below W.heap.size W w') := fun W v hh hv => by
    rw [HBZ.out] at hv
    have h := hO.read W v (bytesF zeroE) (hK.below hh hK.lt) hv bytesZ_len
    rw [readX, readE, read_back okB_zero] at h
    exact h
  have HK1 : Hid (∀ (W : World) (cs : List Value), Below w.heap.size w W → EvB W zeroE cs → Calls Tryd.prog 11 #[.agg (cb zb32).toArray, .agg cs.toArray] W fun r w' => r = .returned (.int .i64 15) ∧ Below W.heap.size W w') := fun W cs hh hv => by
    have h := hO.check W zb32 zeroE cs (hK.below hh hK.lt) rfl hv (by decide)
    rw [show checkF zb32 zeroE = 15 from checkF_same _ _ _] at h
    exact h
  have HBW : Hid (Below w.heap.size w w) := Below.refl _ _
  clear hO hK HBZ
  go_enter Tryd.func10, Tryd.ntmps10
  have tk0 : Hid True := trivial
  have tk1 : Hid True := trivial
  have tk2 : Hid True := trivial
  have tk3 : Hid True := trivial
  have tk4 : Hid True := trivial
  have tk5 : Hid True := trivial
  have tk6 : Hid True := trivial
  have tk7 : Hid True := trivial
  have tk8 : Hid True := trivial
  have tk9 : Hid True := trivial
  have tk10 : Hid True := trivial
  go_wp2_with (first
    | (clear tk0; go_at_call 13; refine (HR1.out w HBW.out).mono ?_; rintro e y1 ⟨c1, rfl, hev, hbz⟩
       replace HBW : Hid (Below w.heap.size w y1) := HBW.out.trans (hbz.mono HBW.out.size)
       have HE1 : Hid (EvOk zeroE c1) := hev.ok
       clear hbz hev)
    | (clear tk1; with_reducible refine wpSeq_allocE ?_ ?_ ?_
       · rfl
       · rfl
       intro g1 y2 nn)
    | (clear tk2; with_reducible refine wpSeq_storeRow 32 (.tmp 1) (.tmp 7) g1 (evC zeroE (.slice none 0 0) (.slice none 0 0) (.slice none 0 0)) c1 ?_ ?_ ?_ ?_ ?_ ?_ ?_ ?_ ?_
       · exact nn.blk
       · exact HE1.out.lz
       · exact HE1.out.info
       · exact HE1.out.one
       · rfl
       · rfl
       · rfl
       · rfl
       intro y3 hs
       have hbz := nn.below.trans (hs.only.below nn.ge nn.below.size)
       replace HBW : Hid (Below w.heap.size w y3) := HBW.out.trans (hbz.mono HBW.out.size)
       have H1 : Hid (Blk y3 g1 c1 32) := hs.blk
       clear nn hs hbz)
    | (clear tk3; with_reducible refine wpSeq_build 32 [] cz ?_ ?_ ?_ ?_
       · exact (built_evid []).trans (by rw [HCZ.out]; rfl)
       · rfl
       · rfl)
    | (clear tk4; go_at_call 18; refine (HB1.out y3 HBW.out).mono ?_; rintro e y4 ⟨vb, rfl, hvb, hbz⟩
       replace H1 : Hid (Blk y4 g1 c1 32) := H1.out.below hbz H1.out.lt
       replace HBW : Hid (Below w.heap.size w y4) := HBW.out.trans (hbz.mono HBW.out.size)
       have HVB : Hid (Reads y4 vb bz) := hvb
       clear hbz hvb)
    | (clear tk5; go_at_call 13; refine (HR2.out y4 vb HBW.out HVB.out).mono ?_; rintro e y5 ⟨c2, rfl, hev, hbz⟩
       clear HVB
       replace H1 : Hid (Blk y5 g1 c1 32) := H1.out.below hbz H1.out.lt
       replace HBW : Hid (Below w.heap.size w y5) := HBW.out.trans (hbz.mono HBW.out.size)
       have HE2 : Hid (EvOk zeroE c2) := hev.ok
       obtain ⟨ad2, cc2, htr0⟩ := hev.ok.tr
       have HTR : Hid (∀ (W : World) (g : Nat), Blk W g c2 32 → W.cell? ⟨g, 0, none⟩ = some (.slice ad2 0 cc2)) := htr0
       have HB2 : Hid (EvB y5 zeroE c2) := hev
       clear hbz hev htr0)
    | (clear tk6; with_reducible refine wpSeq_allocE ?_ ?_ ?_
       · rfl
       · rfl
       intro g3 y6 nn)
    | (clear tk7; with_reducible refine wpSeq_storeRow 32 (.tmp 3) (.tmp 13) g3 (evC zeroE (.slice none 0 0) (.slice none 0 0) (.slice none 0 0)) c2 ?_ ?_ ?_ ?_ ?_ ?_ ?_ ?_ ?_
       · exact nn.blk
       · exact HE2.out.lz
       · exact HE2.out.info
       · exact HE2.out.one
       · rfl
       · rfl
       · rfl
       · rfl
       intro y7 hs
       have hbz := nn.below.trans (hs.only.below nn.ge nn.below.size)
       replace H1 : Hid (Blk y7 g1 c1 32) := H1.out.below hbz H1.out.lt
       replace HB2 : Hid (EvB y7 zeroE c2) := HB2.out.below hbz
       replace HBW : Hid (Below w.heap.size w y7) := HBW.out.trans (hbz.mono HBW.out.size)
       have H3 : Hid (Blk y7 g3 c2 32) := hs.blk
       clear nn hs hbz
       have ce : y7.cell? ⟨g3, 0, none⟩ = some (.slice ad2 0 cc2) := HTR.out _ _ H3.out)
    | (clear tk8; with_reducible refine wpSeq_buildZD ?_ ?_ ?_
       · rfl
       · rfl)
    | (clear tk9; with_reducible refine wpSeq_loadW 32 (.tmp 3) g3 0 c2 _ ?_ Tryd.underlying32 rfl ?_ ?_ ?_ ?_ ?_
       · exact H3.out.range
       · exact HE2.out.info
       · rfl
       · rfl
       · rfl)
    | (clear tk10; go_at_call 11; refine (HK1.out y7 c2 HBW.out HB2.out).mono ?_; rintro e y8 ⟨rfl, hbz⟩
       clear ce
       replace H1 : Hid (Blk y8 g1 c1 32) := H1.out.below hbz H1.out.lt
       replace H3 : Hid (Blk y8 g3 c2 32) := H3.out.below hbz H3.out.lt
       replace HB2 : Hid (EvB y8 zeroE c2) := HB2.out.below hbz
       replace HBW : Hid (Below w.heap.size w y8) := HBW.out.trans (hbz.mono HBW.out.size)
       clear hbz ))
  go_ret
  exact ⟨rfl, HBW.out⟩
end Go.Proofs.YtableajopaappaaDoor
/- The walk of the reference's Check (layer 12). -/
namespace Go.Proofs.YtableajopaappaaDoor
open Go.RowKit Go.Shelf
set_option maxRecDepth 100000
end Go.Proofs.YtableajopaappaaDoor
/- Cuts of slices of signed roots (layer 12). -/
namespace Go.Proofs.YtableajopaappaaDoor
open Go.RowKit Go.Shelf
set_option maxRecDepth 100000
theorem ReadsS.take {w : World} {ad : Option Addr} {n cp k : Nat} {l : List SgT} (h : ReadsS w (.slice ad n cp) l) (hk : k ≤ l.length) : ReadsS w (.slice ad k cp) (l.take k) := by
  obtain ⟨⟨ad', cp', hv, hc, hn, hx⟩, hok⟩ := h
  simp only [Value.slice.injEq] at hv
  obtain ⟨rfl, rfl, rfl⟩ := hv
  have hl : (l.take k).length = k := by rw [List.length_take]; omega
  refine ⟨⟨ad, cp, by rw [hl], by rw [hl]; omega, hn, fun hp => ?_⟩, fun s hs => hok s (List.mem_of_mem_take hs)⟩
  rw [hl] at hp
  obtain ⟨b, off, rfl, hy⟩ := hx (by omega)
  refine ⟨b, off, rfl, fun j hj => ?_⟩
  rw [hl] at hj
  have e : (l.take k).getD j zeroS = l.getD j zeroS := by rw [List.getD_eq_getElem?_getD, List.getD_eq_getElem?_getD, List.getElem?_take_of_lt hj]
  rw [e]
  exact hy j (by omega)
theorem sizeOf_signed (w : World) : (sizeOf 30).run Tryd.prog w = .ok 98 w := by kernel_rfl
theorem takeS_op (f : Operand → Value) (o : Oper) (x hi : Operand) (ho : o.op = .slice 24 x none (some hi) none) (ad : Option Addr) (n cap k : Nat) (hx : f x = .slice ad n cap) (hk : f hi = .int .i64 (k : Int)) (hc : k ≤ cap) (w : World) :
    (execOp f o).run Tryd.prog w = .ok (.value (.slice ad k cap)) w := by
  have hr : (Instr.sliceAt 24 (.slice ad n cap) none (some (.int .i64 (k : Int))) none).run Tryd.prog w = .ok (.slice ad k cap) w := by
    rw [run_sliceAt_slice w 24 _ _ _ _ (by kernel_rfl), run_slice_h w 24 _ _ _ (by kernel_rfl) .i64 _ (by omega) (by omega)]
    rw [show Tryd.prog.elem 24 = 30 from by kernel_rfl, sizeOf_signed]
    cases ad with
    | none => simp [sliced]
    | some a => simp [sliced, Addr.add_zero']
  unfold execOp
  rw [ho]
  simp only [hx, hk, Option.map_some, Option.map_none, Sem.run_bind, hr]
  rfl
/-- from a place on: where it lies -/
def dropA (ad : Option Addr) (k cap : Nat) : Option Addr := if cap = k then ad else ad.map (·.add (k * 98))
theorem dropS_op (f : Operand → Value) (o : Oper) (x lo : Operand) (ho : o.op = .slice 24 x (some lo) none none) (ad : Option Addr) (n cap k : Nat) (hx : f x = .slice ad n cap) (hk : f lo = .int .i64 (k : Int)) (hc : k ≤ n) (w : World) :
    (execOp f o).run Tryd.prog w = .ok (.value (.slice (dropA ad k cap) (n - k) (cap - k))) w := by
  have hr : (Instr.sliceAt 24 (.slice ad n cap) (some (.int .i64 (k : Int))) none none).run Tryd.prog w = .ok (.slice (dropA ad k cap) (n - k) (cap - k)) w := by
    rw [run_sliceAt_slice w 24 _ _ _ _ (by kernel_rfl), run_slice_l w 24 _ _ _ (by kernel_rfl) .i64 _ (by omega) (by omega)]
    rw [show Tryd.prog.elem 24 = 30 from by kernel_rfl, sizeOf_signed]
    simp [sliced, dropA]
  unfold execOp
  rw [ho]
  simp only [hx, hk, Option.map_some, Option.map_none, Sem.run_bind, hr]
  rfl
theorem ReadsS.drop {w : World} {ad : Option Addr} {n cp k : Nat} {l : List SgT} (h : ReadsS w (.slice ad n cp) l) (hk : k ≤ l.length) : ReadsS w (.slice (dropA ad k cp) (n - k) (cp - k)) (l.drop k) := by
  obtain ⟨⟨ad', cp', hv, hc, hn, hx⟩, hok⟩ := h
  simp only [Value.slice.injEq] at hv
  obtain ⟨rfl, rfl, rfl⟩ := hv
  have hl : (l.drop k).length = l.length - k := List.length_drop
  refine ⟨⟨_, cp - k, by rw [hl], by rw [hl]; omega, fun hd => ?_, fun hp => ?_⟩, fun s hs => hok s (List.mem_of_mem_drop hs)⟩
  · unfold dropA at hd
    split at hd
    · omega
    · have := hn (by simpa using hd); omega
  · rw [hl] at hp
    obtain ⟨b, off, rfl, hy⟩ := hx (by omega)
    refine ⟨b, off + k * 98, by rw [dropA, if_neg (by omega)]; simp [Addr.add_mid], fun j hj => ?_⟩
    rw [hl] at hj
    have e : (l.drop k).getD j zeroS = l.getD (k + j) zeroS := by rw [List.getD_eq_getElem?_getD, List.getD_eq_getElem?_getD, List.getElem?_drop]
    rw [e, show off + k * 98 + j * 98 = off + (k + j) * 98 by omega]
    exact hy (k + j) (by omega)
/-- what two pieces tell -/
theorem ReadsS.rootAt {w : World} {b off n cp : Nat} {l : List SgT} (h : ReadsS w (.slice (some ⟨b, off, none⟩) n cp) l) {j : Nat} (hj : j < l.length) : w.rangeAt b (off + j * 98) (rtC (l.getD j zeroS)) := by
  obtain ⟨b', off', cp', hv, hy⟩ := h.at (by omega)
  simp only [Value.slice.injEq, Option.some.injEq, Addr.mk.injEq, and_true] at hv
  obtain ⟨⟨rfl, rfl⟩, _⟩ := hv
  obtain ⟨vs, h1, _⟩ := hy j hj
  exact h1.root
end Go.Proofs.YtableajopaappaaDoor
/- ForkChecks, over what fork's functions do (layer 12). -/
namespace Go.Proofs.YtableajopaappaaDoor
open Go.RowKit Go.Shelf
set_option maxRecDepth 100000
end Go.Proofs.YtableajopaappaaDoor
/- A signed root's bytes, in the call's own blocks (layer 12). -/
namespace Go.Proofs.YtableajopaappaaDoor
open Go.RowKit
set_option maxRecDepth 100000
set_option maxRecDepth 100000 in
set_option maxHeartbeats 2000000 in
theorem rsigned_own (ep : Nat) (x y z sg : List (BitVec 8)) (vs : Value) (hep : ep < 18446744073709551616) (hx : x.length = 32) (hy : y.length = 32) (hz : z.length = 32) (w : World) (hk : Reads w vs sg) (hl : sg.length + 200 ≤ 140737488355328) :
    Calls Tryd.prog 39 #[.agg (sgnV ep x y z vs).toArray] w fun e w' => ∃ v', e = .returned v' ∧ OwnB w' w.heap.size v' (encSigned (ep, x, y, z, sg)) ∧ Below w.heap.size w w' := by
  have HK : Hid (Reads w vs sg) := hk
  have HL : Hid (sg.length + 200 ≤ 140737488355328) := hl
  have HEP : Hid (ep < 18446744073709551616) := hep
  have HX : Hid (x.length = 32) := hx
  have HY : Hid (y.length = 32) := hy
  have HZ : Hid (z.length = 32) := hz
  obtain ⟨ad, cp, hv, _, _, _⟩ := hk
  obtain ⟨m, HM⟩ : ∃ m, Hid (m = sg.length) := ⟨_, rfl⟩
  rw [← HM.out] at hv
  subst hv
  obtain ⟨cs, HCS⟩ : ∃ cs, Hid (cs = (sgnV ep x y z (.slice ad m cp))) := ⟨_, rfl⟩
  rw [← HCS.out]
  have HB0 : Hid (Below w.heap.size w (w.alloc (.cells cs.toArray 30))) := below_alloc _ _
  have hB0 : Blk (w.alloc (.cells cs.toArray 30)) w.heap.size (sgnV ep x y z (.slice ad m cp)) 30 := by have := Blk.new w cs 30; rwa [HCS.out] at this ⊢
  have HBK : Hid (Blk (w.alloc (.cells cs.toArray 30)) w.heap.size (sgnV ep x y z (.slice ad m cp)) 30) := hB0
  have HK0 : Hid (Reads (w.alloc (.cells cs.toArray 30)) (.slice ad m cp) sg) := HK.out.below HB0.out
  have c0 : (w.alloc (.cells cs.toArray 30)).cell? ⟨w.heap.size, 0, none⟩ = some (.int .u64 (ep : Int)) := hB0.cell 0
  clear hep hx hy hz hl hB0 HK
  go_enter Tryd.func39, Tryd.ntmps39
  go_wp2_with fail
  generalize w.alloc (.cells cs.toArray 30) = w0 at *
  obtain ⟨B, HBB⟩ : ∃ B, Hid (B = w0.heap.size) := ⟨_, rfl⟩
  have HGB : Hid (w.heap.size < B) := by show _ < _; rw [HBB.out]; exact HBK.out.lt
  refine (cnum_any B _ [] ep HEP.out w0 (OwnB.nil _ _) (by rw [HBB.out]; exact Nat.le_refl _) (by simp)).mono ?_
  rintro e w1 ⟨v1, rfl, ho1, hb1⟩
  have HV : Hid (0 < sg.length → ∀ k, Value.ownBlock (.slice ad m cp) = some k → k < B) := by rw [HBB.out]; exact HK0.out.inB
  have HLE : Hid ((encNum ep).length ≤ 10) := enc_len10 ep HEP.out
  replace HBK : Hid (Blk w1 w.heap.size (sgnV ep x y z (.slice ad m cp)) 30) := HBK.out.below hb1 HGB.out
  have HK1 : Hid (Reads w1 (.slice ad m cp) sg) := HK0.out.keep hb1 HV.out
  have HB1 : Hid (Below w.heap.size w w1) := HB0.out.trans (hb1.mono (by have := HGB.out; omega))
  have HO1 : Hid (OwnB w1 B v1 ([] ++ encNum ep)) := ho1
  have HS1 : Hid (B ≤ w1.heap.size) := by show _ ≤ _; rw [HBB.out]; exact hb1.size
  have HRx : Hid (w1.rangeAt w.heap.size 1 (cb x)) := sgnV_rx HBK.out
  clear ho1 hb1 HB0 HK0 c0
  go_wp2_with (refine wpSeq_val (.agg (cb x).toArray) _ (by rfl) (load_run 23 _ rfl w.heap.size 1 rfl (cb x) _ HRx.out Tryd.underlying23 rfl (infoD x HX.out)) ?_)
  refine (cdigest_any B v1 ([] ++ encNum ep) x HX.out w1 HO1.out HS1.out (by have := HLE.out; simp only [List.length_append, List.length_nil]; omega)).mono ?_
  rintro e w2 ⟨v2, rfl, ho2, hb2⟩
  replace HBK : Hid (Blk w2 w.heap.size (sgnV ep x y z (.slice ad m cp)) 30) := HBK.out.below hb2 HGB.out
  have HK2 : Hid (Reads w2 (.slice ad m cp) sg) := HK1.out.keep hb2 HV.out
  have HB2 : Hid (Below w.heap.size w w2) := HB1.out.trans (hb2.mono (by have := HGB.out; omega))
  have HO2 : Hid (OwnB w2 B v2 (([] ++ encNum ep) ++ x)) := ho2
  have HS2 : Hid (B ≤ w2.heap.size) := by show _ ≤ _; exact Nat.le_trans HS1.out hb2.size
  have HRy : Hid (w2.rangeAt w.heap.size 33 (cb y)) := sgnV_ry HBK.out HX.out
  clear ho2 hb2 HB1 HK1 HO1 HS1
  go_wp2_with (refine wpSeq_val (.agg (cb y).toArray) _ (by rfl) (load_run 23 _ rfl w.heap.size 33 rfl (cb y) _ HRy.out Tryd.underlying23 rfl (infoD y HY.out)) ?_)
  refine (cdigest_any B v2 (([] ++ encNum ep) ++ x) y HY.out w2 HO2.out HS2.out (by have := HLE.out; simp only [List.length_append, List.length_nil, HX.out]; omega)).mono ?_
  rintro e w3 ⟨v3, rfl, ho3, hb3⟩
  replace HBK : Hid (Blk w3 w.heap.size (sgnV ep x y z (.slice ad m cp)) 30) := HBK.out.below hb3 HGB.out
  have HK3 : Hid (Reads w3 (.slice ad m cp) sg) := HK2.out.keep hb3 HV.out
  have HB3 : Hid (Below w.heap.size w w3) := HB2.out.trans (hb3.mono (by have := HGB.out; omega))
  have HO3 : Hid (OwnB w3 B v3 ((([] ++ encNum ep) ++ x) ++ y)) := ho3
  have HS3 : Hid (B ≤ w3.heap.size) := by show _ ≤ _; exact Nat.le_trans HS2.out hb3.size
  have HRz : Hid (w3.rangeAt w.heap.size 65 (cb z)) := sgnV_rz HBK.out HX.out HY.out
  clear ho3 hb3 HB2 HK2 HO2 HS2
  go_wp2_with (refine wpSeq_val (.agg (cb z).toArray) _ (by rfl) (load_run 23 _ rfl w.heap.size 65 rfl (cb z) _ HRz.out Tryd.underlying23 rfl (infoD z HZ.out)) ?_)
  refine (cdigest_any B v3 ((([] ++ encNum ep) ++ x) ++ y) z HZ.out w3 HO3.out HS3.out (by have := HLE.out; simp only [List.length_append, List.length_nil, HX.out, HY.out]; omega)).mono ?_
  rintro e w4 ⟨v4, rfl, ho4, hb4⟩
  replace HBK : Hid (Blk w4 w.heap.size (sgnV ep x y z (.slice ad m cp)) 30) := HBK.out.below hb4 HGB.out
  have HK4 : Hid (Reads w4 (.slice ad m cp) sg) := HK3.out.keep hb4 HV.out
  have HB4 : Hid (Below w.heap.size w w4) := HB3.out.trans (hb4.mono (by have := HGB.out; omega))
  have HO4 : Hid (OwnB w4 B v4 (((([] ++ encNum ep) ++ x) ++ y) ++ z)) := ho4
  have HS4 : Hid (B ≤ w4.heap.size) := Nat.le_trans HS3.out hb4.size
  have c9 : w4.cell? ⟨w.heap.size, 97, none⟩ = some (.slice ad m cp) := sgnV_last HBK.out HX.out HY.out HZ.out
  clear ho4 hb4 HB3 HK3 HO3 HS3
  go_wp2_with fail
  refine (ctext_any B v4 (.slice ad m cp) (((([] ++ encNum ep) ++ x) ++ y) ++ z) sg w4 HO4.out HK4.out HS4.out (by have h1 := HLE.out; have h2 := HL.out; simp only [List.length_append, List.length_nil, HX.out, HY.out, HZ.out]; omega)).mono ?_
  rintro e w5 ⟨v5, rfl, ho5, hb5⟩
  have HF : Hid (OwnB w5 w.heap.size v5 (encSigned (ep, x, y, z, sg)) ∧ Below w.heap.size w w5) := ⟨by have := ho5.mono (Nat.le_of_lt HGB.out); simp only [List.nil_append, List.append_assoc] at this; exact this, HB4.out.trans (hb5.mono (by have := HGB.out; omega))⟩
  clear ho5 hb5 HB4 HK4 HO4 HS4 c9
  go_wp2
  go_ret
  exact ⟨_, rfl, HF.out⟩
theorem signed_own (s : SgT) (vs : Value) (w : World) (os : okS s) (hr : Reads w vs s.2) (hl : s.2.length ≤ 1048576) : Calls Tryd.prog 39 #[.agg (sgC s vs).toArray] w fun e w' => ∃ v', e = .returned v' ∧ OwnB w' w.heap.size v' (encS s) ∧ Below w.heap.size w w' :=
  rsigned_own s.1.1 s.1.2.1 s.1.2.2.1 s.1.2.2.2 s.2 vs os.2.2.2 os.1 os.2.1 os.2.2.1 w hr (by omega)
end Go.Proofs.YtableajopaappaaDoor
/- A list of texts that grows by append; signed roots read out of texts (layer 12). -/
namespace Go.Proofs.YtableajopaappaaDoor
open Go.RowKit Go.Shelf
set_option maxRecDepth 100000
/-- the slice v holds the texts xs, all the call's own from block base on -/
structure TxI (base : Nat) (v : Value) (us : List Value) (xs : List Bs) (W : World) : Prop where
  own : OwnV W base 28 v us
  good : GoodT W base us xs
  ge : base ≤ W.heap.size
theorem TxI.nil {base : Nat} {W : World} (h : base ≤ W.heap.size) : TxI base (.slice none 0 0) [] [] W := ⟨OwnV.nil _ _ _, ⟨rfl, fun j u hj => by simp at hj⟩, h⟩
theorem TxI.next {base : Nat} {v : Value} {us : List Value} {xs : List Bs} {W W' : World} (h : TxI base v us xs W) (hb : Below W.heap.size W W') : TxI base v us xs W' :=
  ⟨h.own.same fun k hk => hb.block k (h.own.lt k hk).2, ⟨h.good.1, fun j u hj => (h.good.2 j u hj).same fun k hk => hb.block k ((h.good.2 j u hj).lt k hk)⟩, Nat.le_trans h.ge hb.size⟩
theorem TxI.readsL {base : Nat} {v : Value} {us : List Value} {xs : List Bs} {W : World} (h : TxI base v us xs W) : ReadsL W v xs := h.own.readsL h.good
theorem TxI.len {base : Nat} {v : Value} {us : List Value} {xs : List Bs} {W : World} (h : TxI base v us xs W) : us.length = xs.length := h.good.1
/-- one text more -/
theorem TxI.grow {base : Nat} {v v2 u : Value} {us : List Value} {xs : List Bs} {t : Bs} {W W6 : World} (h : TxI base v us xs W) (hu : OwnB W base u t) (hown6 : OwnV W6 base 28 v2 (us ++ [u])) (hgrow : (W.alloc (.cells #[u] 28)).grownBy W6 v.ownBlock) :
    TxI base v2 (us ++ [u]) (xs ++ [t]) W6 ∧ Below base W W6 := by
  have b45 : Below base W (W.alloc (.cells #[u] 28)) := (below_alloc W _).mono h.ge
  have b56 : Below base (W.alloc (.cells #[u] 28)) W6 := (Below.refl _ _).grown hgrow (Nat.le_trans h.ge b45.size) (fun k hk => (h.own.lt k hk).1)
  have b46 := b45.trans b56
  have up : ∀ x t, OwnB W base x t → OwnB W6 base x t := fun x t hx => by
    have hne := hx.apart (by decide) h.own
    refine hx.same (fun k hk => ?_)
    have h2 := hx.lt k hk
    rw [hgrow.block k (by simp; omega) (hne k hk), Go.RowKit.Below.heap_alloc W _ k h2]
  refine ⟨⟨hown6, ⟨by rw [List.length_append, List.length_append, h.good.1]; rfl, fun j x hj => ?_⟩, Nat.le_trans h.ge b46.size⟩, b46⟩
  by_cases hjl : j < us.length
  · rw [List.getElem?_append_left hjl] at hj
    have h1 := h.good.2 j x hj
    have h2 : (xs ++ [t]).getD j [] = xs.getD j [] := by
      rw [List.getD_eq_getElem?_getD, List.getD_eq_getElem?_getD, List.getElem?_append_left (by rw [← h.good.1]; exact hjl)]
    rw [h2]
    exact up _ _ h1
  · rw [List.getElem?_append_right (by omega)] at hj
    have hj0 : j = us.length := by
      have := (List.getElem?_eq_some_iff.1 hj).1
      simp at this
      omega
    subst hj0
    simp at hj
    subst hj
    have h2 : (xs ++ [t]).getD us.length [] = t := by
      rw [List.getD_eq_getElem?_getD, h.good.1, List.getElem?_append_right (Nat.le_refl _), Nat.sub_self]
      rfl
    rw [h2]
    exact up _ _ hu
/-- what a text is as a signed root -/
def rdS (l : Bs) : SgT := (readS l).getD zeroS
def rdX (l : Bs) : Int := if (readS l).isSome then 0 else 3
def SgRes (l : Bs) (w : World) (e : Ending) (w' : World) : Prop := ∃ ad n c, e = .returned (.tuple #[.agg (sgC (rdS l) (.slice ad n c)).toArray, .int .i64 (rdX l)]) ∧ OwnB w' w.heap.size (.slice ad n c) (rdS l).2 ∧ okS (rdS l) ∧ Below w.heap.size w w'
theorem RdRes.sg {l : Bs} {w : World} {e : Ending} {w' : World} (h : RdRes sgnK w (whole (signedR l)) e w') : SgRes l w e w' := by
  obtain ⟨hb, h⟩ := h
  rcases h with ⟨a, cs, ho, rfl, vs, rfl, hv, h1, h2, h3, h4⟩ | ⟨ho, rfl⟩
  · have hr : readS l = some (unS a) := by rw [readS, ho]; rfl
    obtain ⟨ad, n, c, hvs⟩ := hv.reads.form
    subst hvs
    refine ⟨ad, n, c, ?_, ?_, ?_, hb⟩
    · rw [rdS, rdX, hr]; rfl
    · rw [rdS, hr]; exact hv
    · rw [rdS, hr]; exact ⟨h1, h2, h3, h4⟩
  · have hr : readS l = none := by rw [readS, ho]; rfl
    refine ⟨none, 0, 0, ?_, ?_, ?_, hb⟩
    · rw [rdS, rdX, hr]; rfl
    · rw [rdS, hr]; exact OwnB.nil _ _
    · rw [rdS, hr]; exact okS_zero
theorem crdSigned_any (v : Value) (l : Bs) (w : World) (hb : Reads w v l) : Calls Tryd.prog 33 #[v] w (SgRes l w) :=
  (rdSigned_any readSigned_one rfl v l w hb).mono fun _ _ h => h.sg
/-- texts read, both outcomes in one -/
def errOf {α : Type} (o : Option α) : Int := if o.isSome then 0 else 3
theorem readsL_nil (w : World) : ReadsL w (.slice none 0 0) [] := ⟨none, 0, rfl, Nat.le_refl _, fun _ => rfl, fun h => by simp at h⟩
theorem ListRead.t {o : Option (List (List (BitVec 8)))} {w : World} {e : Ending} {w' : World} (h : ListRead 28 GoodT o w e w') : ∃ v, e = .returned (.tuple #[v, .int .i64 (errOf o)]) ∧ ReadsL w' v (o.getD []) ∧ Below w.heap.size w w' := by
  rcases h with ⟨xs, v, vs, rfl, rfl, h3, h4, h5⟩ | ⟨rfl, rfl, h5⟩
  · exact ⟨v, rfl, h3.readsL h4, h5⟩
  · exact ⟨_, rfl, readsL_nil _, h5⟩
end Go.Proofs.YtableajopaappaaDoor
/- The walk of the reference's Bytes (layer 12). -/
namespace Go.Proofs.YtableajopaappaaDoor
open Go.RowKit Go.Shelf
set_option maxRecDepth 100000
/-- where the texts of the first k roots stand -/
structure ByI (w : World) (g : Nat) (cev : List Value) (l : List SgT) (v : Value) (us : List Value) (k : Nat) (W : World) : Prop where
  tx : TxI (g + 1) v us ((l.take k).map encS) W
  ev : Blk W g cev 32
  bel : Below w.heap.size w W
  ge : w.heap.size ≤ g
theorem ByI.next {w : World} {g : Nat} {cev : List Value} {l : List SgT} {v : Value} {us : List Value} {k : Nat} {W W' : World} (h : ByI w g cev l v us k W) (hb : Below W.heap.size W W') : ByI w g cev l v us k W' :=
  ⟨h.tx.next hb, h.ev.below hb h.ev.lt, h.bel.trans (hb.mono h.bel.size), h.ge⟩
theorem take_more {l : List SgT} {k : Nat} (hk : k < l.length) : l.take (k + 1) = l.take k ++ [l.getD k zeroS] := by
  rw [List.take_add_one, List.getD_eq_getElem?_getD, List.getElem?_eq_getElem hk]
  rfl
theorem ByI.more {w : World} {g : Nat} {cev : List Value} {l : List SgT} {v v2 u : Value} {us : List Value} {k : Nat} {W W6 : World} (h : ByI w g cev l v us k W) (hk : k < l.length) (hu : OwnB W (g + 1) u (encS (l.getD k zeroS))) (hown6 : OwnV W6 (g + 1) 28 v2 (us ++ [u])) (hgrow : (W.alloc (.cells #[u] 28)).grownBy W6 v.ownBlock) : ByI w g cev l v2 (us ++ [u]) (k + 1) W6 := by
  obtain ⟨h1, h2⟩ := h.tx.grow hu hown6 hgrow
  refine ⟨?_, h.ev.below h2 (by omega), h.bel.trans (h2.mono (by have := h.ge; omega)), h.ge⟩
  rw [take_more hk, List.map_append]
  exact h1
theorem ByI.len {w : World} {g : Nat} {cev : List Value} {l : List SgT} {v : Value} {us : List Value} {k : Nat} {W : World} (h : ByI w g cev l v us k W) : us.length ≤ k := by
  rw [h.tx.len, List.length_map, List.length_take]
  omega
theorem flatE_le (L : List SgT) (h : ∀ s ∈ L, okS s ∧ s.2.length ≤ 1048576) : ((L.map encS).flatten).length ≤ L.length * 1048692 := encAll_le encS 1048692 L fun s hs => by
  obtain ⟨o, l⟩ := h s hs
  have := len_encS o (by omega)
  omega
end Go.Proofs.YtableajopaappaaDoor
/- A list of signed roots that grows by append; evidence that is filled (layer 12). -/
namespace Go.Proofs.YtableajopaappaaDoor
open Go.RowKit Go.Shelf
set_option maxRecDepth 100000
def flatS (L : List (SgT × Value)) : List Value := (L.map fun p => sgC p.1 p.2).flatten
/-- the slice v of signed roots, the call's own from block base on, holds L -/
def OwnS (w : World) (base : Nat) (v : Value) (L : List (SgT × Value)) : Prop := w.ownsRow base 30 98 v L.length (flatS L) ∧ ∀ p ∈ L, okS p.1
theorem OwnS.nil (w : World) (base : Nat) : OwnS w base (.slice none 0 0) [] := ⟨World.ownsRow_nil _ _ _ _, fun _ h => by cases h⟩
theorem OwnS.lt {w : World} {base : Nat} {v : Value} {L : List (SgT × Value)} (h : OwnS w base v L) : ∀ k, v.ownBlock = some k → base ≤ k ∧ k < w.heap.size := World.ownsRow.lt h.1
theorem OwnS.keep {w w' : World} {base : Nat} {v : Value} {L : List (SgT × Value)} (h : OwnS w base v L) (hs : ∀ k, base ≤ k → k < w.heap.size → w'.heap[k]? = w.heap[k]?) : OwnS w' base v L := by
  refine ⟨?_, h.2⟩
  have hlt := World.ownsRow.lt h.1
  rcases h.1 with ⟨h1, ⟨rfl, h2⟩ | ⟨g, cap, cur, rfl, hg, hh, h3⟩⟩
  · exact ⟨h1, Or.inl ⟨rfl, h2⟩⟩
  · exact ⟨h1, Or.inr ⟨g, cap, cur, rfl, hg, by rw [hs g hg (hlt g rfl).2]; exact hh, h3⟩⟩
theorem OwnS.slice {w : World} {base : Nat} {v : Value} {L : List (SgT × Value)} (h : OwnS w base v L) : ∃ ad c, v = .slice ad L.length c := by
  rcases h.1 with ⟨_, ⟨rfl, h2⟩ | ⟨g, cap, cur, rfl, _⟩⟩
  · exact ⟨none, 0, by rw [h2]⟩
  · exact ⟨_, _, rfl⟩
theorem flatS_snoc (L : List (SgT × Value)) (p : SgT × Value) : flatS (L ++ [p]) = flatS L ++ sgC p.1 p.2 := by
  unfold flatS
  simp
theorem flatS_at {L : List (SgT × Value)} (h : ∀ p ∈ L, okS p.1) : ∀ (j i : Nat) (p : SgT × Value) (v : Value), L[j]? = some p → (sgC p.1 p.2)[i]? = some v → (flatS L)[j * 98 + i]? = some v := by
  unfold flatS
  induction L with
  | nil => intro j i p v hj; simp at hj
  | cons q r ih =>
    intro j i p v hj hv
    rw [List.map_cons, List.flatten_cons]
    cases j with
    | zero =>
      simp only [List.getElem?_cons_zero, Option.some.injEq] at hj
      subst hj
      have hi : i < (sgC q.1 q.2).length := (List.getElem?_eq_some_iff.1 hv).1
      rw [Nat.zero_mul, Nat.zero_add, List.getElem?_append_left hi, hv]
    | succ j =>
      simp only [List.getElem?_cons_succ] at hj
      have hl : (sgC q.1 q.2).length = 98 := len_sgC (h q (by simp)) _
      rw [List.getElem?_append_right (by rw [hl]; omega), hl, show (j + 1) * 98 + i - 98 = j * 98 + i by omega]
      exact ih (fun x hx => h x (by simp [hx])) j i p v hj hv
theorem OwnS.readsS {w : World} {base : Nat} {v : Value} {L : List (SgT × Value)} (h : OwnS w base v L) (hr : ∀ p ∈ L, Reads w p.2 p.1.2) : ReadsS w v (L.map (·.1)) := by
  refine ⟨?_, fun s hs => by obtain ⟨p, hp, rfl⟩ := List.mem_map.1 hs; exact h.2 p hp⟩
  rw [List.length_map]
  rcases h.1 with ⟨h1, ⟨rfl, h2⟩ | ⟨g, cap, cur, rfl, hg, hh, hc, hm, hs, ht⟩⟩
  · exact ⟨none, 0, by rw [h2], by omega, fun _ => rfl, fun hp => by omega⟩
  · refine ⟨_, cap, rfl, hc, fun h => (by cases h), fun hp => ⟨g, 0, rfl, fun j hj => ?_⟩⟩
    have hq : L[j]? = some L[j] := List.getElem?_eq_getElem hj
    have e : (L.map (·.1)).getD j zeroS = L[j].1 := by rw [List.getD_eq_getElem?_getD, List.getElem?_map, hq]; rfl
    rw [e]
    have hmem : L[j] ∈ L := List.getElem_mem hj
    refine ⟨L[j].2, ⟨fun i u hv => ?_, h.2 _ hmem⟩, hr _ hmem⟩
    have hi : i < 98 := by have := (List.getElem?_eq_some_iff.1 hv).1; rwa [len_sgC (h.2 _ hmem)] at this
    have hf := flatS_at h.2 j i L[j] u hq hv
    rw [← ht, List.getElem?_take] at hf
    rw [cell_of_row w g _ cur 30 (0, 0) hh, Nat.zero_add]
    rw [if_pos (by
      have : (j + 1) * 98 ≤ L.length * 98 := Nat.mul_le_mul_right 98 hj
      omega)] at hf
    simpa using hf
/-- one signed root more -/
theorem wpSeq_appendSg {ops : Array Oper} {Q : Exit → Act → World → Prop} {rest : List Oper} {o : Oper} {a : Act} {w : World} (s x : Operand) (base : Nat) (v : Value) (L : List (SgT × Value)) (t : SgT) (ad : Option Addr) (nn cc : Nat) (g : Nat)
    (hown : OwnS w base v L) (hu : Blk w g (sgC t (.slice ad nn cc)) 30) (ot : okS t) (hl : L.length < 1000000) (hbase : base ≤ w.heap.size)
    (ho : o.op = .call { callee := .builtin .append, args := #[s, x], argTypes := #[24, 24] }) (hs : a.eval s = v) (hx : a.eval x = .slice (some ⟨g, 0, none⟩) 1 1) (hgd : o.guard = none)
    (h : ∀ v' w', OwnS w' base v' (L ++ [(t, .slice ad nn cc)]) → Grow base w v w' v' → wpList Tryd.prog ops Q rest (a.put o.dst v') w') : wpList Tryd.prog ops Q (o :: rest) a w := by
  obtain ⟨i0, hi, hz0, hz1, hz2⟩ := info_parts Tryd.infos3
  refine wpList_append_own_at w hgd s x 24 ho base 30 i0 (.agg (sgC zeroS (.slice none 0 0)).toArray) 98 128 Tryd.underlying24 hi hz0 hz1 hz2 (by show (sgC zeroS (.slice none 0 0)).toArray.size = 98; rw [List.size_toArray]; exact len_sgC okS_zero _) (by decide) v L.length (flatS L) hs hown.1 ⟨g, 0, none⟩ 1 1 (sgC t (.slice ad nn cc)) hx (by rw [len_sgC ot]) ?_ (sgC_one _ _ _ _) (by unfold maxLen; omega) (by omega) hbase ?_
  · intro j u hj
    rw [Addr.add_mid, Nat.zero_add, hu.cell, hj]
  · intro v' w' h2 h3 _ h5
    refine h v' w' ⟨?_, ?_⟩ ⟨(Below.refl _ _).grown h3 hbase (fun k hk => (hown.lt k hk).1), fun k hk hlt => h3.block k hlt hk, h5⟩
    · rw [flatS_snoc, List.length_append]; exact h2
    · intro p hp
      rcases List.mem_append.1 hp with hp | hp
      · exact hown.2 p hp
      · rw [List.mem_singleton] at hp; subst hp; exact ot
/-- a row of signed roots is no row of bytes -/
theorem OwnB.apartS {w : World} {b1 b2 : Nat} {v u : Value} {l : List (BitVec 8)} {L : List (SgT × Value)} (h : OwnB w b1 v l) (h2 : OwnS w b2 u L) : ∀ k, v.ownBlock = some k → some k ≠ u.ownBlock := by
  obtain ⟨_, h1⟩ := h
  obtain ⟨⟨_, h3⟩, _⟩ := h2
  intro k hk he
  rcases h1 with ⟨rfl, _⟩ | ⟨g, cap, cur, rfl, hg, hh, _⟩
  · simp [Value.ownBlock] at hk
  · rcases h3 with ⟨rfl, _⟩ | ⟨g2, cap2, cur2, rfl, hg2, hh2, _⟩
    · simp [Value.ownBlock] at he
    · simp only [Value.ownBlock, Option.some.injEq] at hk he
      subst hk he
      rw [hh] at hh2
      simp only [Option.some.injEq, Obj.cells.injEq] at hh2
      exact absurd hh2.2.1 (by decide)
/-- a signed root stored into a row -/
theorem wpSeq_storeSgAt {ops : Array Oper} {Q : Exit → Act → World → Prop} {rest : List Oper} {o : Oper} {a : Act} {w : World} (x y : Operand) (g off : Nat) (A B C ns : List Value) (ty : TypeId) (hb : Blk w g (A ++ (B ++ C)) ty) (hA : A.length = off) (hB : B.length = 98) (hl : ns.length = 98) (h1 : ∀ v ∈ ns, v.oneCell' = true) (ho : o.op = .store 30 x y) (hx : a.eval x = .pointer (some ⟨g, off, none⟩)) (hy : a.eval y = .agg ns.toArray) (hgd : o.guard = none)
    (h : ∀ w', SetR (A ++ (ns ++ C)) ty w g w' → wpList Tryd.prog ops Q rest (a.put o.dst undef) w') : wpList Tryd.prog ops Q (o :: rest) a w :=
  wpList_store_mid hgd 30 x y ho g off _ hx hy (hb.there off _ (by rw [List.size_toArray, List.length_append, List.length_append]; omega)) (by rw [List.size_toArray, hl]; exact info_signed) (all_oneCell_toArray h1)
    (by rw [List.toList_toArray]; exact h _ ⟨hb.seg (by omega) hA, Only.setCells _ _ _ (Only.refl g w)⟩)
/-- roots in order, as evidence of n roots -/
def evN (n : Nat) (rs : List SgT) : EvT := (rs.take (n - 2), rs.getD (n - 2) zeroS, rs.getD (n - 1) zeroS)
/-- evidence in block g, as far as the roots rs were read; its values the call's own -/
structure RdI (y1 : World) (g n : Nat) (rs : List SgT) (L : List (SgT × Value)) (vt va vb : Value) (W : World) : Prop where
  bel : Below y1.heap.size y1 W
  ev : Blk W g (evC (evN n rs) vt va vb) 32
  own : OwnS W (g + 1) vt L
  sg : ∀ p ∈ L, OwnB W (g + 1) p.2 p.1.2
  eq : L.map (·.1) = rs.take (n - 2)
  ra : OwnB W (g + 1) va (rs.getD (n - 2) zeroS).2
  rb : OwnB W (g + 1) vb (rs.getD (n - 1) zeroS).2
  ok : ∀ s ∈ rs, okS s
  ge : y1.heap.size ≤ g
theorem RdI.oa {y1 : World} {g n : Nat} {rs : List SgT} {L : List (SgT × Value)} {vt va vb : Value} {W : World} (h : RdI y1 g n rs L vt va vb W) : okS (rs.getD (n - 2) zeroS) := getD_okS h.ok _
theorem RdI.ob {y1 : World} {g n : Nat} {rs : List SgT} {L : List (SgT × Value)} {vt va vb : Value} {W : World} (h : RdI y1 g n rs L vt va vb W) : okS (rs.getD (n - 1) zeroS) := getD_okS h.ok _
theorem RdI.size {y1 : World} {g n : Nat} {rs : List SgT} {L : List (SgT × Value)} {vt va vb : Value} {W : World} (h : RdI y1 g n rs L vt va vb W) : g + 1 ≤ W.heap.size := h.ev.lt
theorem RdI.next {y1 : World} {g n : Nat} {rs : List SgT} {L : List (SgT × Value)} {vt va vb : Value} {W W' : World} (h : RdI y1 g n rs L vt va vb W) (hb : Below W.heap.size W W') : RdI y1 g n rs L vt va vb W' :=
  ⟨h.bel.trans (hb.mono h.bel.size), h.ev.below hb h.ev.lt, h.own.keep fun k _ hk => hb.block k hk, fun p hp => (h.sg p hp).same fun k hk => hb.block k ((h.sg p hp).lt k hk), h.eq, h.ra.same fun k hk => hb.block k (h.ra.lt k hk), h.rb.same fun k hk => hb.block k (h.rb.lt k hk), h.ok, h.ge⟩
/-- what stands there at the end -/
theorem RdI.evB {y1 : World} {g n : Nat} {rs : List SgT} {L : List (SgT × Value)} {vt va vb : Value} {W : World} (h : RdI y1 g n rs L vt va vb W) : EvB W (evN n rs) (evC (evN n rs) vt va vb) := by
  refine EvIs.evB ⟨?_, h.ra.reads, h.rb.reads, h.oa, h.ob⟩
  have h1 := h.own.readsS fun p hp => (h.sg p hp).reads
  rw [h.eq] at h1
  exact h1
end Go.Proofs.YtableajopaappaaDoor
/- The reference's Seal, its signature in the call's own blocks (layer 12). -/
namespace Go.Proofs.YtableajopaappaaDoor
open Go.RowKit Go.Shelf
set_option maxRecDepth 100000
set_option maxRecDepth 100000 in
set_option maxHeartbeats 8000000 in
theorem qcSeal_own (seed tree : List (BitVec 8)) (h : HdT) (w : World) (hs : seed.length = 32) (oh : okH h) (ht : tree.length = 32) :
    Calls Tryd.prog 46 #[.agg (cb seed).toArray, .agg (hdC h).toArray, .agg (cb tree).toArray] w fun e w' => ∃ ad m c, e = .returned (.tuple #[.agg (sgC (sealR seed h tree).1 (.slice ad m c)).toArray, .int .i64 (sealR seed h tree).2]) ∧ OwnB w' w.heap.size (.slice ad m c) (sealR seed h tree).1.2 ∧ Below w.heap.size w w' := by
  obtain ⟨ch, HCH⟩ : ∃ c, Hid (c = hdC h) := ⟨_, rfl⟩
  obtain ⟨n, HNN⟩ : ∃ n, Hid (n = h.1) := ⟨_, rfl⟩
  obtain ⟨hr, HHR⟩ : ∃ c, Hid (c = h.2.1) := ⟨_, rfl⟩
  rw [← HCH.out]
  have HLN : Hid (seed.length = 32 ∧ tree.length = 32 ∧ hr.length = 32) := ⟨hs, ht, by rw [HHR.out]; exact oh.1⟩
  have HOH : Hid (okH h) := oh
  have HBW : Hid (Below w.heap.size w w) := Below.refl _ _
  clear hs ht oh
  by_cases h64 : 64 ≤ n
  · have HFR : Hid (sealR seed h tree = (zeroS, 12)) := by show _ = _; unfold sealR; rw [if_pos (by rw [← HNN.out]; exact h64)]
    have c64 : (64 : Int) ≤ (n : Int) := by omega
    have d64 : decide ((64 : Int) ≤ (n : Int)) = true := decide_eq_true c64
    go_enter Tryd.func46, Tryd.ntmps46
    have tk0 : Hid True := trivial
    have tk1 : Hid True := trivial
    have tk2 : Hid True := trivial
    have tk3 : Hid True := trivial
    have tk4 : Hid True := trivial
    have tk5 : Hid True := trivial
    go_wp2_with (first
    | (clear tk0; with_reducible refine wpSeq_boxW 23 (.tmp 0) (cb seed) ?_ ?_ ?_ ?_
       · rfl
       · rfl
       · rfl
       intro g3 y1 nn
       have H3 : Hid (Blk y1 g3 (cb seed) 23) := nn.blk
       replace HBW : Hid (Below w.heap.size w y1) := HBW.out.trans (nn.below.mono HBW.out.size)
       clear nn)
    | (clear tk1; with_reducible refine wpSeq_boxW 50 (.tmp 1) ch ?_ ?_ ?_ ?_
       · rfl
       · rfl
       · rfl
       intro g4 y2 nn
       replace H3 : Hid (Blk y2 g3 (cb seed) 23) := H3.out.below nn.below H3.out.lt
       have H4 : Hid (Blk y2 g4 ch 50) := nn.blk
       replace HBW : Hid (Below w.heap.size w y2) := HBW.out.trans (nn.below.mono HBW.out.size)
       clear nn)
    | (clear tk2; with_reducible refine wpSeq_boxW 23 (.tmp 2) (cb tree) ?_ ?_ ?_ ?_
       · rfl
       · rfl
       · rfl
       intro g5 y3 nn
       replace H3 : Hid (Blk y3 g3 (cb seed) 23) := H3.out.below nn.below H3.out.lt
       replace H4 : Hid (Blk y3 g4 ch 50) := H4.out.below nn.below H4.out.lt
       have H5 : Hid (Blk y3 g5 (cb tree) 23) := nn.blk
       replace HBW : Hid (Below w.heap.size w y3) := HBW.out.trans (nn.below.mono HBW.out.size)
       clear nn)
    | (clear tk3; with_reducible refine wpSeq_allocS ?_ ?_ ?_
       · rfl
       · rfl
       intro g6 y4 nn
       have HNE : Hid (g3 < g6 ∧ g4 < g6 ∧ g5 < g6 ∧ w.heap.size ≤ g6) := by have h1 := H3.out.lt; have h2 := H4.out.lt; have h5 := H5.out.lt; have h3 := nn.ge; have h4 := HBW.out.size; exact ⟨by omega, by omega, by omega, by omega⟩
       replace H3 : Hid (Blk y4 g3 (cb seed) 23) := H3.out.below nn.below H3.out.lt
       replace H4 : Hid (Blk y4 g4 ch 50) := H4.out.below nn.below H4.out.lt
       replace H5 : Hid (Blk y4 g5 (cb tree) 23) := H5.out.below nn.below H5.out.lt
       have H6 : Hid (Blk y4 g6 (sgC zeroS (.slice none 0 0)) 30) := nn.blk
       replace HBW : Hid (Below w.heap.size w y4) := HBW.out.trans (nn.below.mono HBW.out.size)
       have ce : y4.cell? ⟨g4, 0, none⟩ = some (.int .u64 (n : Int)) := by have := H4.out.cell 0; rw [HCH.out] at this; rw [HNN.out]; exact this
       clear nn)
    | (clear tk4; with_reducible refine wpSeq_build 30 [] (sgC zeroS (.slice none 0 0)) ?_ ?_ ?_ ?_
       · exact built_signed []
       · rfl
       · rfl)
    | (clear tk5; with_reducible refine wpSeq_storeRow 30 (.tmp 6) (.tmp 12) g6 (sgC zeroS (.slice none 0 0)) (sgC zeroS (.slice none 0 0)) ?_ ?_ ?_ ?_ ?_ ?_ ?_ ?_ ?_
       · exact H6.out
       · rfl
       · exact info_sgC okS_zero _
       · exact sgC_one _ _ _ _
       · rfl
       · rfl
       · rfl
       · rfl
       intro y5 hs))
    exact bodyPost_ret (results_row_tmp (by rfl) _ _ g6 _ rfl (var_sg hs.blk okS_zero)) rfl ⟨none, 0, 0, by rw [HFR.out]; rfl, by rw [HFR.out]; exact OwnB.nil _ _, HBW.out.trans (hs.only.below HNE.out.2.2.2 HBW.out.size)⟩
  have hn64 : n < 64 := by omega
  have c64 : ¬ ((64 : Int) ≤ (n : Int)) := by omega
  have d64 : decide ((64 : Int) ≤ (n : Int)) = false := decide_eq_false c64
  have f1 : IntKind.u64.wrap ((n : Int) + 1) = (n : Int) + 1 := by rw [IntKind.wrap_u64]; omega
  have f2 : IntKind.u64.wrap ((n : Int) + 2) = (n : Int) + 2 := by rw [IntKind.wrap_u64]; omega
  obtain ⟨pk, HPK⟩ : ∃ c, Hid (c = pubR seed (n + 2)) := ⟨_, rfl⟩
  have HPL : Hid (pk.length = 32) := by show _ = _; rw [HPK.out]; exact len_pubR _ _
  obtain ⟨rb, HRB⟩ : ∃ c, Hid (c = rootB (n + 1) hr tree pk) := ⟨_, rfl⟩
  have HLB : Hid (rb.length = 105) := by show _ = _; rw [HRB.out]; exact len_rootB _ _ _ _ ⟨HLN.out.2.2, HLN.out.2.1, HPL.out⟩
  obtain ⟨sg, HSG⟩ : ∃ c, Hid (c = signR (partB seed (n + 1)) (bt (dig rb)) 256) := ⟨_, rfl⟩
  have HFR : Hid (sealR seed h tree = (((n + 1, hr, tree, pk), sg), 0)) := by show _ = _; unfold sealR; rw [if_neg (by rw [← HNN.out]; exact h64), HSG.out, HRB.out, HPK.out, HHR.out, HNN.out]
  obtain ⟨rt, HRT⟩ : ∃ c, Hid (c = rtC ((n + 1, hr, tree, pk), sg)) := ⟨_, rfl⟩
  have HOS : Hid (okS ((n + 1, hr, tree, pk), sg)) := okS_mk HLN.out.2.2 HLN.out.2.1 HPL.out (by omega)
  have HC1 : Hid (∀ W : World, Below w.heap.size w W → Calls Tryd.prog 45 #[.agg (cb seed).toArray, .int .u64 ((n : Int) + 2)] W fun e w' => e = .returned (.agg (cb pk).toArray) ∧ Below W.heap.size W w') := fun W hh => by rw [HPK.out]; exact qlPublic_any seed (n + 2) W ⟨HLN.out.1, by omega⟩
  have HC2 : Hid (∀ W : World, Calls Tryd.prog 27 #[.agg rt.toArray] W fun e w' => ∃ v, e = .returned v ∧ Reads w' v rb ∧ Below W.heap.size W w') := fun W => by rw [HRT.out, HRB.out]; exact rRoot_any hr tree pk (n + 1) W ⟨HLN.out.2.2, HLN.out.2.1, HPL.out, by omega⟩
  have HC3 : Hid (∀ (W : World) (v : Value), Reads W v rb → Calls Tryd.prog 76 #[.agg (cb seed).toArray, .int .u64 ((n : Int) + 1), v] W fun e w' => ∃ u, e = .returned u ∧ OwnB w' W.heap.size u sg ∧ Below W.heap.size W w') := fun W v hv => by rw [HSG.out]; exact qlSign_own seed (n + 1) v rb W ⟨HLN.out.1, by omega⟩ hv (by rw [HLB.out]; decide)
  have hm1 : (n : Int) + 1 = ((n + 1 : Nat) : Int) := by omega
  clear h64 HPK HRB HSG
  go_enter Tryd.func46, Tryd.ntmps46
  have tk0 : Hid True := trivial
  have tk1 : Hid True := trivial
  have tk2 : Hid True := trivial
  have tk3 : Hid True := trivial
  have tk4 : Hid True := trivial
  have tk5 : Hid True := trivial
  have tk6 : Hid True := trivial
  have tk7 : Hid True := trivial
  have tk8 : Hid True := trivial
  have tk9 : Hid True := trivial
  have tk10 : Hid True := trivial
  have tk11 : Hid True := trivial
  have tk12 : Hid True := trivial
  have tk13 : Hid True := trivial
  have tk14 : Hid True := trivial
  have tk15 : Hid True := trivial
  have HM1 : Hid ((n : Int) + 1 = ((n + 1 : Nat) : Int)) := hm1
  clear hm1
  go_wp2_with (first
    | (clear tk0; with_reducible refine wpSeq_boxW 23 (.tmp 0) (cb seed) ?_ ?_ ?_ ?_
       · rfl
       · rfl
       · rfl
       intro g3 y1 nn
       have H3 : Hid (Blk y1 g3 (cb seed) 23) := nn.blk
       replace HBW : Hid (Below w.heap.size w y1) := HBW.out.trans (nn.below.mono HBW.out.size)
       clear nn)
    | (clear tk1; with_reducible refine wpSeq_boxW 50 (.tmp 1) ch ?_ ?_ ?_ ?_
       · rfl
       · rfl
       · rfl
       intro g4 y2 nn
       replace H3 : Hid (Blk y2 g3 (cb seed) 23) := H3.out.below nn.below H3.out.lt
       have H4 : Hid (Blk y2 g4 ch 50) := nn.blk
       replace HBW : Hid (Below w.heap.size w y2) := HBW.out.trans (nn.below.mono HBW.out.size)
       clear nn)
    | (clear tk2; with_reducible refine wpSeq_boxW 23 (.tmp 2) (cb tree) ?_ ?_ ?_ ?_
       · rfl
       · rfl
       · rfl
       intro g5 y3 nn
       replace H3 : Hid (Blk y3 g3 (cb seed) 23) := H3.out.below nn.below H3.out.lt
       replace H4 : Hid (Blk y3 g4 ch 50) := H4.out.below nn.below H4.out.lt
       have H5 : Hid (Blk y3 g5 (cb tree) 23) := nn.blk
       replace HBW : Hid (Below w.heap.size w y3) := HBW.out.trans (nn.below.mono HBW.out.size)
       clear nn)
    | (clear tk3; with_reducible refine wpSeq_allocS ?_ ?_ ?_
       · rfl
       · rfl
       intro g6 y4 nn
       have HNE : Hid (g3 < g6 ∧ g4 < g6 ∧ g5 < g6 ∧ w.heap.size ≤ g6) := by have h1 := H3.out.lt; have h2 := H4.out.lt; have h5 := H5.out.lt; have h3 := nn.ge; have h4 := HBW.out.size; exact ⟨by omega, by omega, by omega, by omega⟩
       replace H3 : Hid (Blk y4 g3 (cb seed) 23) := H3.out.below nn.below H3.out.lt
       replace H4 : Hid (Blk y4 g4 ch 50) := H4.out.below nn.below H4.out.lt
       replace H5 : Hid (Blk y4 g5 (cb tree) 23) := H5.out.below nn.below H5.out.lt
       have H6 : Hid (Blk y4 g6 (sgC zeroS (.slice none 0 0)) 30) := nn.blk
       replace HBW : Hid (Below w.heap.size w y4) := HBW.out.trans (nn.below.mono HBW.out.size)
       have ce : y4.cell? ⟨g4, 0, none⟩ = some (.int .u64 (n : Int)) := by have := H4.out.cell 0; rw [HCH.out] at this; rw [HNN.out]; exact this
       clear nn)
    | (clear tk4; with_reducible refine wpSeq_build 27 [] (rtC zeroS) ?_ ?_ ?_ ?_
       · exact built_root []
       · rfl
       · rfl)
    | (clear tk5; with_reducible refine wpSeq_allocR ?_ ?_ ?_
       · rfl
       · rfl
       intro g8 y5 nn
       have HN8 : Hid (g6 < g8 ∧ g3 < g8 ∧ g4 < g8 ∧ g5 < g8 ∧ w.heap.size ≤ g8) := by have h1 := H6.out.lt; have h2 := HNE.out; have h3 := nn.ge; exact ⟨by omega, by omega, by omega, by omega, by omega⟩
       replace H3 : Hid (Blk y5 g3 (cb seed) 23) := H3.out.below nn.below H3.out.lt
       replace H4 : Hid (Blk y5 g4 ch 50) := H4.out.below nn.below H4.out.lt
       replace H5 : Hid (Blk y5 g5 (cb tree) 23) := H5.out.below nn.below H5.out.lt
       replace H6 : Hid (Blk y5 g6 (sgC zeroS (.slice none 0 0)) 30) := H6.out.below nn.below H6.out.lt
       have H8 : Hid (Blk y5 g8 (rtC zeroS) 27) := nn.blk
       replace HBW : Hid (Below w.heap.size w y5) := HBW.out.trans (nn.below.mono HBW.out.size)
       have HG36 : Hid (g3 < g6 ∧ g4 < g6 ∧ w.heap.size ≤ g6) := ⟨HNE.out.1, HNE.out.2.1, HNE.out.2.2.2⟩
       clear nn ce HNE
       have HNE : Hid (g3 < g8 ∧ g4 < g8 ∧ g5 < g8 ∧ g6 < g8) := ⟨HN8.out.2.1, HN8.out.2.2.1, HN8.out.2.2.2.1, HN8.out.1⟩)
    | (clear tk6; with_reducible refine wpSeq_storeRow 27 (.tmp 8) (.tmp 13) g8 (rtC zeroS) (rtC zeroS) ?_ ?_ ?_ ?_ ?_ ?_ ?_ ?_ ?_
       · exact H8.out
       · rfl
       · exact info_rtC okS_zero
       · exact rtC_one _
       · rfl
       · rfl
       · rfl
       · rfl
       intro y6 hs
       replace H3 : Hid (Blk y6 g3 (cb seed) 23) := H3.out.only hs.only (by have := HNE.out; omega)
       replace H4 : Hid (Blk y6 g4 ch 50) := H4.out.only hs.only (by have := HNE.out; omega)
       replace H5 : Hid (Blk y6 g5 (cb tree) 23) := H5.out.only hs.only (by have := HNE.out; omega)
       replace H6 : Hid (Blk y6 g6 (sgC zeroS (.slice none 0 0)) 30) := H6.out.only hs.only (by have := HNE.out; omega)
       replace H8 : Hid (Blk y6 g8 (rtC zeroS) 27) := hs.blk
       replace HBW : Hid (Below w.heap.size w y6) := HBW.out.trans (hs.only.below (by have := HN8.out; omega) HBW.out.size)
       have ce : y6.cell? ⟨g4, 0, none⟩ = some (.int .u64 (n : Int)) := by have := H4.out.cell 0; rw [HCH.out] at this; rw [HNN.out]; exact this
       clear hs)
    | (clear tk7; with_reducible refine wpSeq_storeEp (.tmp 17) (.tmp 16) g8 0 (n + 1) zb32 zb32 zb32 ((n : Int) + 1) ?_ ?_ ?_ ?_ ?_ ?_ ?_
       · exact HM1.out
       · exact H8.out
       · rfl
       · rfl
       · rfl
       · rfl
       intro y7 hs
       replace H3 : Hid (Blk y7 g3 (cb seed) 23) := H3.out.only hs.only (by have := HNE.out; omega)
       replace H4 : Hid (Blk y7 g4 ch 50) := H4.out.only hs.only (by have := HNE.out; omega)
       replace H5 : Hid (Blk y7 g5 (cb tree) 23) := H5.out.only hs.only (by have := HNE.out; omega)
       replace H6 : Hid (Blk y7 g6 (sgC zeroS (.slice none 0 0)) 30) := H6.out.only hs.only (by have := HNE.out; omega)
       replace H8 : Hid (Blk y7 g8 (rtC ((n + 1, zb32, zb32, zb32), [])) 27) := hs.blk
       replace HBW : Hid (Below w.heap.size w y7) := HBW.out.trans (hs.only.below (by have := HN8.out; omega) HBW.out.size)
       clear ce
       clear hs)
    | (clear tk8; with_reducible refine wpSeq_loadAt (.tmp 18) g4 1 hr ?_ ?_ ?_ ?_ ?_ ?_
       · exact HLN.out.2.2
       · have h1 := H4.out; rw [HCH.out] at h1; have h2 := (h1.hdAt HOH.out).rt; rw [HHR.out]; exact h2
       · rfl
       · rfl
       · rfl)
    | (clear tk9; with_reducible refine wpSeq_storePrev (.tmp 20) (.tmp 19) g8 (n + 1) zb32 zb32 zb32 hr ?_ ?_ ?_ ?_ ?_ ?_ ?_ ?_
       · exact H8.out
       · rfl
       · exact HLN.out.2.2
       · rfl
       · rfl
       · rfl
       · rfl
       intro y8 hs
       replace H3 : Hid (Blk y8 g3 (cb seed) 23) := H3.out.only hs.only (by have := HNE.out; omega)
       replace H4 : Hid (Blk y8 g4 ch 50) := H4.out.only hs.only (by have := HNE.out; omega)
       replace H5 : Hid (Blk y8 g5 (cb tree) 23) := H5.out.only hs.only (by have := HNE.out; omega)
       replace H6 : Hid (Blk y8 g6 (sgC zeroS (.slice none 0 0)) 30) := H6.out.only hs.only (by have := HNE.out; omega)
       replace H8 : Hid (Blk y8 g8 (rtC ((n + 1, hr, zb32, zb32), [])) 27) := hs.blk
       replace HBW : Hid (Below w.heap.size w y8) := HBW.out.trans (hs.only.below (by have := HN8.out; omega) HBW.out.size)
       clear hs)
    | (clear tk10; with_reducible refine wpSeq_loadD (.tmp 5) g5 tree ?_ ?_ ?_ ?_ ?_ ?_
       · exact HLN.out.2.1
       · exact H5.out
       · rfl
       · rfl
       · rfl)
    | (clear tk11; with_reducible refine wpSeq_storeTree (.tmp 22) (.tmp 21) g8 (n + 1) hr zb32 zb32 tree ?_ ?_ ?_ ?_ ?_ ?_ ?_ ?_ ?_
       · exact H8.out
       · exact HLN.out.2.2
       · rfl
       · exact HLN.out.2.1
       · rfl
       · rfl
       · rfl
       · rfl
       intro y9 hs
       replace H3 : Hid (Blk y9 g3 (cb seed) 23) := H3.out.only hs.only (by have := HNE.out; omega)
       replace H4 : Hid (Blk y9 g4 ch 50) := H4.out.only hs.only (by have := HNE.out; omega)
       replace H5 : Hid (Blk y9 g5 (cb tree) 23) := H5.out.only hs.only (by have := HNE.out; omega)
       replace H6 : Hid (Blk y9 g6 (sgC zeroS (.slice none 0 0)) 30) := H6.out.only hs.only (by have := HNE.out; omega)
       replace H8 : Hid (Blk y9 g8 (rtC ((n + 1, hr, tree, zb32), [])) 27) := hs.blk
       replace HBW : Hid (Below w.heap.size w y9) := HBW.out.trans (hs.only.below (by have := HN8.out; omega) HBW.out.size)
       have ce : y9.cell? ⟨g4, 0, none⟩ = some (.int .u64 (n : Int)) := by have := H4.out.cell 0; rw [HCH.out] at this; rw [HNN.out]; exact this
       clear hs)
    | (clear tk12; with_reducible refine wpSeq_loadD (.tmp 3) g3 seed ?_ ?_ ?_ ?_ ?_ ?_
       · exact HLN.out.1
       · exact H3.out
       · rfl
       · rfl
       · rfl)
    | (clear tk13; go_at_call 45; refine (HC1.out _ HBW.out).mono ?_; rintro e y10 ⟨rfl, hbz⟩
       clear ce
       replace H3 : Hid (Blk y10 g3 (cb seed) 23) := H3.out.below hbz H3.out.lt
       replace H4 : Hid (Blk y10 g4 ch 50) := H4.out.below hbz H4.out.lt
       replace H5 : Hid (Blk y10 g5 (cb tree) 23) := H5.out.below hbz H5.out.lt
       replace H6 : Hid (Blk y10 g6 (sgC zeroS (.slice none 0 0)) 30) := H6.out.below hbz H6.out.lt
       replace H8 : Hid (Blk y10 g8 (rtC ((n + 1, hr, tree, zb32), [])) 27) := H8.out.below hbz H8.out.lt
       replace HBW : Hid (Below w.heap.size w y10) := HBW.out.trans (hbz.mono HBW.out.size)
       clear hbz)
    | (clear tk14; with_reducible refine wpSeq_storeNext (.tmp 28) (.tmp 27) g8 (n + 1) hr tree zb32 pk ?_ ?_ ?_ ?_ ?_ ?_ ?_ ?_ ?_ ?_
       · exact H8.out
       · exact HLN.out.2.2
       · exact HLN.out.2.1
       · rfl
       · exact HPL.out
       · rfl
       · rfl
       · rfl
       · rfl
       intro y11 hs
       replace H3 : Hid (Blk y11 g3 (cb seed) 23) := H3.out.only hs.only (by have := HNE.out; omega)
       replace H4 : Hid (Blk y11 g4 ch 50) := H4.out.only hs.only (by have := HNE.out; omega)
       replace H5 : Hid (Blk y11 g5 (cb tree) 23) := H5.out.only hs.only (by have := HNE.out; omega)
       replace H6 : Hid (Blk y11 g6 (sgC zeroS (.slice none 0 0)) 30) := H6.out.only hs.only (by have := HNE.out; omega)
       replace H8 : Hid (Blk y11 g8 (rtC ((n + 1, hr, tree, pk), [])) 27) := hs.blk
       replace HBW : Hid (Below w.heap.size w y11) := HBW.out.trans (hs.only.below (by have := HN8.out; omega) HBW.out.size)
       clear hs))
  refine wp_region_held_drew (S := Only g6 (World.drew y11)) (by kernel_rfl) (Only.refl _ _) ?_
  intro hS
  have HB3 : Hid (Blk (World.drew y11) g3 (cb seed) 23) := H3.out.drew
  have HB4 : Hid (HdAt (World.drew y11) g4 0 h) := by have h1 := H4.out.drew; rw [HCH.out] at h1; exact h1.hdAt HOH.out
  have HB8 : Hid (Blk (World.drew y11) g8 rt 27) := by have h1 := H8.out.drew; rw [HRT.out]; exact h1
  replace H6 : Hid (Blk (World.drew y11) g6 (sgC zeroS (.slice none 0 0)) 30) := H6.out.drew
  replace HBW : Hid (Below w.heap.size w (World.drew y11)) := HBW.out.drew
  have HN6 : Hid (g3 ≠ g6 ∧ g4 ≠ g6 ∧ g8 ≠ g6) := ⟨by have h1 := HN8.out; have h2 := HG36.out; omega, by have h2 := HG36.out; omega, by have h1 := HN8.out; omega⟩
  have HIR : Hid ((Tryd.prog.info? 27).map (·.size) = some rt.length) := by show _ = _; rw [HRT.out]; exact info_rtC HOS.out
  clear H3 H4 H5 H8
  change wpAnyH _ _ _ _ _ _ _ _ (World.drew y11)
  generalize World.drew y11 = y0 at *
  try simp only [Act.put]
  refine wpAnyH_take (i := 0) (v := .agg rt.toArray) rfl (by kernel_rfl) (by kernel_rfl) (by kernel_rfl) (fun _ _ _ h => h) (Or.inl ⟨by rfl, fun wx hx => by exact load_run 27 _ rfl g8 0 rfl rt _ (HB8.out.only hx HN6.out.2.2).range Tryd.underlying27 rfl HIR.out⟩) hS ?_
  simp only [Act.put, List.getElem_toArray, List.getElem_cons_zero, List.setIfInBounds_toArray, List.set_cons_zero, List.set_cons_succ]
  refine wpAnyH_take (i := 1) (v := .agg (cb seed).toArray) rfl (by kernel_rfl) (by kernel_rfl) (by kernel_rfl) (fun _ _ _ h => h) (Or.inl ⟨by rfl, fun wx hx => by exact loadDigest _ g3 seed HLN.out.1 (HB3.out.only hx HN6.out.1) rfl rfl⟩) hS ?_
  simp only [Act.put, List.getElem_toArray, List.getElem_cons_succ, List.getElem_cons_zero, List.setIfInBounds_toArray, List.set_cons_zero, List.set_cons_succ]
  refine wpAnyH_take (i := 2) (v := .pointer (some ⟨g4, 0, none⟩)) rfl (by kernel_rfl) (by kernel_rfl) (by kernel_rfl) (fun _ _ _ h => h) (Or.inl ⟨by rfl, fun wx hx => by simp [go_sem]⟩) hS ?_
  simp only [Act.put, List.getElem_toArray, List.getElem_cons_succ, List.getElem_cons_zero, List.setIfInBounds_toArray, List.set_cons_zero, List.set_cons_succ]
  refine wpAnyH_take (i := 3) (v := .int .u64 (n : Int)) rfl (by kernel_rfl) (by kernel_rfl) (by kernel_rfl) (fun _ _ _ h => h) (Or.inl ⟨by rfl, fun wx hx => by (have cm : wx.cell? ⟨g4, 0, none⟩ = some (.int .u64 (n : Int)) := by rw [HNN.out]; exact (HB4.out.only hx HN6.out.2.1).ep); simp [go_sem, cm]⟩) hS ?_
  simp only [Act.put, List.getElem_toArray, List.getElem_cons_succ, List.getElem_cons_zero, List.setIfInBounds_toArray, List.set_cons_zero, List.set_cons_succ]
  refine wpAnyH_take (i := 4) (v := .int .u64 ((n : Int) + 1)) rfl (by kernel_rfl) (by kernel_rfl) (by kernel_rfl) (fun _ _ _ h => h) (Or.inl ⟨by rfl, fun wx hx => by simp [go_sem, f1]⟩) hS ?_
  simp only [Act.put, List.getElem_toArray, List.getElem_cons_succ, List.getElem_cons_zero, List.setIfInBounds_toArray, List.set_cons_zero, List.set_cons_succ]
  refine wpAnyH_take (i := 5) (v := .agg rt.toArray) rfl (by kernel_rfl) (by kernel_rfl) (by kernel_rfl) (fun _ _ _ h => h) (Or.inl ⟨by rfl, fun wx hx => by exact load_run 27 _ rfl g8 0 rfl rt _ (HB8.out.only hx HN6.out.2.2).range Tryd.underlying27 rfl HIR.out⟩) hS ?_
  simp only [Act.put, List.getElem_toArray, List.getElem_cons_succ, List.getElem_cons_zero, List.setIfInBounds_toArray, List.set_cons_zero, List.set_cons_succ]
  refine wpAnyH_enter 6 (by kernel_rfl) rfl (by rfl) (f := 27) (args := #[.agg rt.toArray]) (by simp [go_sem]) (HC2.out _) ?_
  rintro e y12 ⟨vb, rfl, hvb, hbq⟩
  replace hS := hS.still hbq
  replace H6 : Hid (Blk y12 g6 (sgC zeroS (.slice none 0 0)) 30) := H6.out.below hbq H6.out.lt
  replace HBW : Hid (Below w.heap.size w y12) := HBW.out.trans (hbq.mono HBW.out.size)
  refine ⟨_, rfl, hS, ?_⟩
  clear hbq
  simp only [Act.put, List.getElem_toArray, List.getElem_cons_succ, List.getElem_cons_zero, List.setIfInBounds_toArray, List.set_cons_zero, List.set_cons_succ]
  refine wpAnyH_enter 7 (by kernel_rfl) rfl (by rfl) (f := 76) (args := #[.agg (cb seed).toArray, .int .u64 ((n : Int) + 1), vb]) (by simp [go_sem]) (HC3.out _ vb hvb) ?_
  rintro e y13 ⟨vs, rfl, hvs, hbq⟩
  obtain ⟨ad, nn, cc, hvf⟩ := hvs.reads.form
  have hg6 : g6 < y12.heap.size := H6.out.lt
  have HBS : Hid (w.heap.size ≤ y12.heap.size) := HBW.out.size
  subst hvf
  replace hS := hS.still hbq
  replace H6 : Hid (Blk y13 g6 (sgC zeroS (.slice none 0 0)) 30) := H6.out.below hbq H6.out.lt
  replace HBW : Hid (Below w.heap.size w y13) := HBW.out.trans (hbq.mono HBW.out.size)
  refine ⟨_, rfl, hS, ?_⟩
  clear hbq
  simp only [Act.put, List.getElem_toArray, List.getElem_cons_succ, List.getElem_cons_zero, List.setIfInBounds_toArray, List.set_cons_zero, List.set_cons_succ]
  refine wpAnyH_take (i := 8) (v := .agg (sgC ((n + 1, hr, tree, pk), sg) (.slice ad nn cc)).toArray) rfl (by kernel_rfl) (by kernel_rfl) (by kernel_rfl) (fun _ _ _ h => h) (Or.inl ⟨by rfl, fun wx hx => by refine build_op _ _ 30 [(0, .tmp 29), (1, .tmp 36)] rfl _ ?_ _; refine (built_signed _).trans ?_; rw [← fill_sg HOS.out, ← HRT.out]; rfl⟩) hS ?_
  simp only [Act.put, List.getElem_toArray, List.getElem_cons_succ, List.getElem_cons_zero, List.setIfInBounds_toArray, List.set_cons_zero, List.set_cons_succ]
  refine wpAnyH_storeRow 9 30 (.tmp 6) (.tmp 37) g6 (sgC zeroS (.slice none 0 0)) (sgC ((n + 1, hr, tree, pk), sg) (.slice ad nn cc)) H6.out (by rw [len_sgC HOS.out, len_sgC okS_zero]) (info_sgC HOS.out _) (sgC_one _ _ _ _) (by kernel_rfl) rfl (by rfl) rfl rfl rfl ?_
  intro y14 hs
  replace hS := hS.trans hs.only
  refine ⟨hS, ?_⟩
  simp only [Act.put, List.getElem_toArray, List.getElem_cons_succ, List.getElem_cons_zero]
  refine wpAnyH_take (i := 10) (v := .int .i64 0) rfl (by kernel_rfl) (by kernel_rfl) (by kernel_rfl) (fun _ _ _ h => h) (Or.inl ⟨by rfl, fun wx hx => by simp [go_sem]⟩) hS ?_
  simp only [Act.put, List.getElem_toArray, List.getElem_cons_succ, List.getElem_cons_zero, List.setIfInBounds_toArray, List.set_cons_zero, List.set_cons_succ]
  refine wpAnyH_done (by kernel_rfl) ?_ _
  go_wp2
  refine bodyPost_ret (results_row_tmp (by rfl) _ _ g6 _ rfl (var_sg hs.blk HOS.out)) rfl ⟨ad, nn, cc, by rw [HFR.out]; rfl, ?_, HBW.out.trans (hs.only.below HG36.out.2.2 HBW.out.size)⟩
  rw [HFR.out]
  exact (hvs.onlyLt hs.only hg6).mono HBS.out
end Go.Proofs.YtableajopaappaaDoor
/- The walk of the reference's Read (layer 12). -/
namespace Go.Proofs.YtableajopaappaaDoor
open Go.RowKit Go.Shelf
set_option maxRecDepth 100000
theorem ReadsL.atL {w : World} {ad : Option Addr} {n cp : Nat} {ls : List Bs} (h : ReadsL w (.slice ad n cp) ls) (hp : 0 < ls.length) : ∃ b off, ad = some ⟨b, off, none⟩ ∧ ∀ j, j < ls.length → ∃ vj, w.cell? ⟨b, off + j, none⟩ = some vj ∧ Reads w vj (ls.getD j []) := by
  obtain ⟨ad', cap, hv, _, _, hx⟩ := h
  simp only [Value.slice.injEq] at hv
  obtain ⟨rfl, _, _⟩ := hv
  exact hx hp
theorem mem_getD {ts : List Bs} {k : Nat} (hk : k < ts.length) : ts.getD k [] ∈ ts := by
  rw [List.getD_eq_getElem?_getD, List.getElem?_eq_getElem hk]
  exact List.getElem_mem hk
theorem takeB_more {l : List Bs} {k : Nat} (hk : k < l.length) : l.take (k + 1) = l.take k ++ [l.getD k []] := by
  rw [List.take_add_one, List.getD_eq_getElem?_getD, List.getElem?_eq_getElem hk]
  rfl
theorem readF_bad {b : Bs} (h : errOf (readList readText b) ≠ 0 ∨ ((readList readText b).getD []).length < 2 ∨ 65 < ((readList readText b).getD []).length ∨ readSs ((readList readText b).getD []) = none) : readF b = none := by
  unfold readF
  cases hr : readList readText b with
  | none => rfl
  | some ts =>
    rw [hr] at h
    simp only [Option.getD_some, errOf, Option.isSome_some, if_true, ne_eq, not_true, false_or] at h
    simp only
    by_cases h2 : 2 ≤ ts.length ∧ ts.length ≤ 65
    · rw [if_pos h2]
      rcases h with h | h | h
      · omega
      · omega
      · rw [h]; rfl
    · rw [if_neg h2]
theorem readF_good {b : Bs} {l : List SgT} (h0 : errOf (readList readText b) = 0) (h2 : 2 ≤ ((readList readText b).getD []).length) (h65 : ((readList readText b).getD []).length ≤ 65) (hl : readSs ((readList readText b).getD []) = some l) : readF b = some (evL l) := by
  unfold readF
  cases hr : readList readText b with
  | none => rw [hr] at h0; cases h0
  | some ts =>
    rw [hr] at h2 h65 hl
    simp only [Option.getD_some] at h2 h65 hl
    simp only
    rw [if_pos ⟨h2, h65⟩, hl]
    rfl
end Go.Proofs.YtableajopaappaaDoor

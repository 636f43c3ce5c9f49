/- The walks of codec.readList at numbers, of what it hands to Read, and of codec.ReadNums. -/
import Derived.Test.YtdhglbemkaogiaaLMem
namespace Go.Proofs.Ytdhglbemkaogiaa
open Go.RowKit
/-- the variable at gl holds the list -/
def LsN (w : World) (gl B : Nat) (xs : List (Nat)) : Prop := ∃ vl vs, Blk w gl [vl] 36 ∧ OwnV w B 23 vl vs ∧ GoodN w B vs xs
structure RlInvN (H gl : Nat) (vb : Value) (w1 : World) (n : Nat) (r : List (BitVec 8)) (k : Nat) (xs : List (Nat)) (rest : List (BitVec 8)) (wr : World) : Prop where
  le : k ≤ n
  len : xs.length = k
  eq : readAll readNum n r = (readAll readNum (n - k) rest).map (fun p => (xs ++ p.1, p.2))
  rdr : ∃ v, Rd wr (H + 3) (H + 1) v rest ∧ v.ownBlock = vb.ownBlock
  row : LsN wr gl (H + 4) xs
  fr : Fr (H + 1) gl (H + 4) w1 wr
theorem RlInvN.next {H gl : Nat} {vb : Value} {w1 : World} {n : Nat} {r : List (BitVec 8)} {k : Nat} {xs : List (Nat)} {rest : List (BitVec 8)} {wr w3 : World} {vl : Value} {vs : List Value} (hI : RlInvN H gl vb w1 n r k xs rest wr) (hlt : k < n) (hgl : gl < H) (hvb : ∀ k, vb.ownBlock = some k → k < H + 4)
    (hbl : Blk w3 gl [vl] 36) (hown : OwnV w3 (H + 4) 23 vl vs) (hgood : GoodN w3 (H + 4) vs xs) (hsz : H + 4 ≤ w3.heap.size) (hfr : Fr (H + 1) gl (H + 4) w1 w3) (w4 w6 : World) (v2 u vl2 : Value) (a : Nat) (rest2 : List (BitVec 8)) (hg : readNum rest = some (a, rest2))
    (hrd4 : Rd w4 (H + 3) (H + 1) v2 rest2) (ho4 : Only (H + 1) w3 w4) (hob4 : v2.ownBlock = vb.ownBlock) (hu : u = .int .u64 (a : Int)) (hown6 : OwnV w6 (H + 4) 23 vl2 (vs ++ [u])) (hgrow : (w4.alloc (.cells #[u] 23)).grownBy w6 vl.ownBlock) :
    RlInvN H gl vb w1 n r (k + 1) (xs ++ [a]) rest2 (w6.setCell ⟨gl, 0, none⟩ vl2) := by
  have hrow : ∀ k, vl.ownBlock = some k → H + 4 ≤ k := fun k hk => (hown.lt k hk).1
  have hs4 : H + 4 ≤ w4.heap.size := Nat.le_trans hsz ho4.size
  have b45 : Below (H + 4) w4 (w4.alloc (.cells #[u] 23)) := (below_alloc w4 _).mono hs4
  have b56 : Below (H + 4) (w4.alloc (.cells #[u] 23)) w6 := (Below.refl _ _).grown hgrow (Nat.le_trans hs4 b45.size) hrow
  have b46 := b45.trans b56
  have hbl4 : Blk w4 gl [vl] 36 := hbl.only ho4 (by omega)
  have hbl6 : Blk w6 gl [vl] 36 := hbl4.below b46 (by omega)
  obtain ⟨adl, cl, hvl, _⟩ := hown.slice
  have hrd6 : Rd w6 (H + 3) (H + 1) v2 rest2 := hrd4.others (B := H + 4) (by omega) (by omega) (fun _ k hk => hvb k (hob4 ▸ hk)) (Nat.le_refl _) b46
  refine ⟨by omega, by rw [List.length_append, hI.len]; rfl, ?_, ⟨v2, hrd6.setOther hbl6 ⟨adl, _, cl, hvl⟩ (by omega) (by omega) vl2, hob4⟩, ⟨vl2, vs ++ [u], hbl6.set 0 vl2, hown6.same (fun k hk => Below.heap_setCell _ _ _ _ (by have := (hown6.lt k hk).1; simp; omega)), ?_⟩, ((hfr.only ho4 hsz).below b46).setCell 0 vl2⟩
  · have he := hI.eq
    rw [show n - k = (n - (k + 1)) + 1 by omega] at he
    exact readAll_more readNum (n - (k + 1)) rest rest2 a n xs r he hg
  · unfold GoodN at hgood ⊢
    rw [hgood, hu, List.map_append]
    rfl
theorem RlInvN.threw {H gl : Nat} {vb : Value} {w1 : World} {n : Nat} {r l : List (BitVec 8)} {k : Nat} {xs : List (Nat)} {rest : List (BitVec 8)} {wr w3 w4 : World} {e : Ending} (hI : RlInvN H gl vb w1 n r k xs rest wr) (hlt : k < n) (hgl : gl < H) (hsz1 : w1.heap.size = H + 4) (hm : readMany readNum l = readAll readNum n r)
    (hfr : Fr (H + 1) gl (H + 4) w1 w3) (hsz : H + 4 ≤ w3.heap.size) (hg : readNum rest = none) (hT : Threw (H + 1) w3 e w4) :
    Does H (fun l2 w2 => ∃ ns, readMany readNum l = some (ns, l2) ∧ LsN w2 gl (H + 4) ns ∧ Fr (H + 1) gl (H + 4) w1 w2) (fun w2 => readMany readNum l = none ∧ Fr (H + 1) gl (H + 4) w1 w2) w1 (thrown (H + 1)) w4 := by
  have hf4 := hfr.only hT.onl hsz
  obtain ⟨v, hb, ad, m, c, hv⟩ := hT.bad
  refine ⟨hf4.size, fun k h1 h2 h3 => hf4.block k h2 h3 (by omega), Or.inr ⟨rfl, ⟨v, ad, m, c, hv, hb⟩, ?_, hf4⟩⟩
  rw [hm, hI.eq, show n - k = (n - (k + 1)) + 1 by omega, readAll, hg]
  rfl
set_option maxRecDepth 100000 in
set_option maxHeartbeats 2000000 in
theorem rdlN1_any (H gl gf : Nat) (vb : Value) (l : List (BitVec 8)) (w1 : World) (hsz : w1.heap.size = H + 4) (hgl : gl < H) (hgf : gf < H) (hne : gf ≠ gl) (hrd : Rd w1 (H + 3) (H + 1) vb l) (hL : Blk w1 gl [.slice none 0 0] 36) (hF : Blk w1 gf [.func (.func 39) #[] #[]] 63) :
    Calls Try.prog 50 #[.pointer (some ⟨H + 3, 0, none⟩), .pointer (some ⟨gl, 0, none⟩), .pointer (some ⟨gf, 0, none⟩)] w1 (Does H (fun l2 w2 => ∃ ns, readMany readNum l = some (ns, l2) ∧ LsN w2 gl (H + 4) ns ∧ Fr (H + 1) gl (H + 4) w1 w2) (fun w2 => readMany readNum l = none ∧ Fr (H + 1) gl (H + 4) w1 w2) w1) := by
  have HR : Hid (Rd w1 (H + 3) (H + 1) vb l) := hrd
  have HL : Hid (Blk w1 gl [.slice none 0 0] 36) := hL
  have HF : Hid (Blk w1 gf [.func (.func 39) #[] #[]] 63) := hF
  have HGL : Hid (gl < H) := hgl
  have HGF : Hid (gf < H ∧ gf ≠ gl) := ⟨hgf, hne⟩
  have HSZ1 : Hid (w1.heap.size = H + 4) := hsz
  clear hrd hL hF hgl hgf hne hsz
  go_enter Try.func50, Try.ntmps50
  go_wp2_with fail
  refine (count_any (H + 3) (H + 1) 4096 (by omega) vb l w1 HR.out).mono ?_
  rintro e w2 (⟨n, r, va, v2, hc, rfl, rfl, hrd, ho, hob⟩ | ⟨hc, hT⟩)
  · have hn : n ≤ 4096 := by
      unfold readCount at hc
      split at hc
      · cases hc
      · split at hc
        · simp only [Option.some.injEq, Prod.mk.injEq] at hc; omega
        · cases hc
    have HM : Hid (readMany readNum l = readAll readNum n r) := by show _ = _; unfold readMany; rw [hc]
    have HVB : Hid (∀ k, vb.ownBlock = some k → k < H + 4) := by
      intro k hk
      have hl : 0 < l.length := by
        cases l with
        | nil => simp [readCount, readNum, decNum] at hc
        | cons x y => simp
      obtain ⟨ad, cap, rfl, _, _, hx⟩ := HR.out.byt
      obtain ⟨b, off, rfl, hy⟩ := hx hl
      simp only [Value.ownBlock, Option.some.injEq] at hk
      subst hk
      have := block_lt_of_cell (hy 0 hl)
      rw [HSZ1.out] at this
      exact this
    have hf0 : Fr (H + 1) gl (H + 4) w1 w2 := (Fr.refl _ _ _ _).only ho (by rw [HSZ1.out]; exact Nat.le_refl _)
    have hI : RlInvN H gl vb w1 n r 0 [] r w2 := ⟨by omega, rfl, by rw [Nat.sub_zero]; cases readAll readNum n r <;> rfl, ⟨v2, hrd, hob⟩, ⟨_, [], HL.out.only ho (by have := HGL.out; omega), OwnV.nil _ _ _, rfl⟩, hf0⟩
    clear hc hrd ho hob hf0 HR HL
    go_wp2
    go_loopw [6] (fun i wr => ∃ (k : Nat) (xs : List (Nat)) (rest : List (BitVec 8)), i = .int .i64 (k : Int) ∧ RlInvN H gl vb w1 n r k xs rest wr) (fun i _ => n - (intOf i).toNat)
    case atStart => exact ⟨0, [], r, rfl, hI⟩
    case round =>
      clear hI
      obtain ⟨k, xs, rest, rfl, hI⟩ := hrel
      have HI : Hid (RlInvN H gl vb w1 n r k xs rest wr) := hI
      have hk := hI.le
      by_cases hlt : k < n
      · obtain ⟨v, hrd, hob⟩ := hI.rdr
        obtain ⟨vl, vs, hbl, hown, hgood⟩ := hI.row
        have HOB : Hid (v.ownBlock = vb.ownBlock) := hob
        have HRD3 : Hid (Rd wr.drew (H + 3) (H + 1) v rest) := ⟨hrd.rd.drew, hrd.inp.drew, hrd.byt⟩
        have HBL3 : Hid (Blk wr.drew gl [vl] 36) := hbl.drew
        have HO3 : Hid (OwnV wr.drew (H + 4) 23 vl vs) := hown
        have HGD3 : Hid (GoodN wr.drew (H + 4) vs xs) := hgood
        have HFR3 : Hid (Fr (H + 1) gl (H + 4) w1 wr.drew) := hI.fr.drew
        have HSZ : Hid (H + 4 ≤ wr.drew.heap.size) := by show _ ≤ _; have := hI.fr.size; rw [HSZ1.out] at this; exact this
        have hbf : Blk wr.drew gf [.func (.func 39) #[] #[]] 63 := by
          have h1 := HF.out
          unfold Blk at h1 ⊢
          rw [HFR3.out.block gf (by have := HGF.out.1; omega) (by have := HGF.out.1; omega) HGF.out.2]
          exact h1
        have cl3 : wr.drew.cell? ⟨gl, 0, none⟩ = some vl := HBL3.out.cell 0
        have cf3 : wr.drew.cell? ⟨gf, 0, none⟩ = some (.func (.func 39) #[] #[]) := hbf.cell 0
        obtain ⟨adl, cl, hvl, _⟩ := hown.slice
        have HVL : Hid (vs.length < 1000000) := by
          have h1 := hI.len
          have h2 : vs.length = xs.length := by unfold GoodN at hgood; rw [hgood, List.length_map]
          show _ < _
          omega
        obtain ⟨nl, HNL⟩ : ∃ x, Hid (x = vs.length) := ⟨_, rfl⟩
        rw [← HNL.out] at hvl
        subst hvl
        have HC := crnum_any (H + 3) (H + 1) v rest wr.drew HRD3.out
        replace HC : Hid _ := HC
        obtain ⟨vl, HVLE⟩ : ∃ x, Hid (x = Value.slice adl nl cl) := ⟨_, rfl⟩
        rw [← HVLE.out] at HBL3 HO3 cl3
        clear hrd hob hbl hown hgood hbf hI
        go_wp2_with fail
        refine wp_region_any (by kernel_rfl) ?_
        change wpAny _ _ _ _ _ _ _ (World.drew _)
        generalize wr.drew = w3 at *
        refine wpAny_take (i := 2) (v := .pointer (some ⟨H + 3, 0, none⟩)) rfl (by kernel_rfl) (by kernel_rfl) (by kernel_rfl) (fun _ _ _ h => h) (Or.inl ⟨by rfl, fun wx => by simp [go_sem]⟩) ?_
        simp only [Act.put, List.getElem_toArray, List.getElem_cons_succ, List.getElem_cons_zero, List.setIfInBounds_toArray, List.set_cons_zero, List.set_cons_succ]
        refine wpAny_pair 0 1 (by kernel_rfl) ?_ ?_
        · refine wpOp_vl 0 vl w3 (by rfl) (by rfl) (by simp [go_sem, cl3]) ?_
          simp only [Act.put, List.getElem_toArray, List.getElem_cons_zero, List.setIfInBounds_toArray, List.set_cons_zero, List.set_cons_succ]
          refine wpAny_step 1 (.func (.func 39) #[] #[]) w3 (by kernel_rfl) rfl (by rfl) (by simp [go_sem, cf3]) ?_
          simp only [Act.put, List.getElem_toArray, List.getElem_cons_succ, List.getElem_cons_zero, List.setIfInBounds_toArray, List.set_cons_zero, List.set_cons_succ]
          refine wpAny_enterP 3 (by kernel_rfl) rfl (by rfl) (f := 39) (args := #[.pointer (some ⟨H + 3, 0, none⟩)]) (by simp [go_sem]) HC.out ?_
          rintro e w4 (⟨a, rest2, va, v2, hg, rfl, hu, hrd4, ho4, hob4⟩ | ⟨hg, hT⟩)
          · refine Or.inl ⟨_, rfl, ?_⟩
            obtain ⟨u, HUE⟩ : ∃ x, Hid (x = va) := ⟨_, rfl⟩
            have hue := HUE.out
            subst hu
            obtain ⟨z, HZ⟩ : ∃ z : Int, Hid (z = (a : Int)) := ⟨_, rfl⟩
            rw [← HZ.out] at hue
            rw [← HZ.out]
            subst hue
            have HU1 : Hid ((Value.int .u64 z).oneCell' = true) := rfl
            have HGU : Value.int .u64 z = .int .u64 (a : Int) := by rw [HZ.out]
            have HGL4 : Blk w4 gl [vl] 36 := HBL3.out.only ho4 (by have := HGL.out; omega)
            have c4 : w4.cell? ⟨gl, 0, none⟩ = some vl := HGL4.cell 0
            have HO4 : OwnV w4 (H + 4) 23 vl vs := HO3.out.same (fun k hk => ho4.block k (by have := (HO3.out.lt k hk).1; omega) (HO3.out.lt k hk).2)
            have hb45 := below_alloc w4 (.cells #[(Value.int .u64 z)] 23)
            have HO5 : Hid (OwnV (w4.alloc (.cells #[(Value.int .u64 z)] 23)) (H + 4) 23 vl vs) := HO4.same (fun k hk => hb45.block k (HO4.lt k hk).2)
            have HBL5 : Hid (Blk (w4.alloc (.cells #[(Value.int .u64 z)] 23)) gl [vl] 36) := HGL4.alloc _
            have c5 : (w4.alloc (.cells #[(Value.int .u64 z)] 23)).cell? ⟨gl, 0, none⟩ = some vl := HBL5.out.cell 0
            have HU5 : Hid ((w4.alloc (.cells #[(Value.int .u64 z)] 23)).cell? ⟨w4.heap.size, 0, none⟩ = some (Value.int .u64 z)) := (Blk.new w4 [(Value.int .u64 z)] 23).cell 0
            have HS5 : Hid (H + 4 ≤ (w4.alloc (.cells #[(Value.int .u64 z)] 23)).heap.size) := by have h1 := HSZ.out; have h2 := ho4.size; have h3 := hb45.size; show _ ≤ _; omega
            have HNext : Hid (∀ w6 vl2, OwnV w6 (H + 4) 23 vl2 (vs ++ [(Value.int .u64 z)]) → (w4.alloc (.cells #[(Value.int .u64 z)] 23)).grownBy w6 vl.ownBlock → RlInvN H gl vb w1 n r (k + 1) (xs ++ [a]) rest2 (w6.setCell ⟨gl, 0, none⟩ vl2)) := fun w6 vl2 h1 h2 => HI.out.next hlt HGL.out HVB.out HBL3.out HO3.out HGD3.out HSZ.out HFR3.out w4 w6 v2 (Value.int .u64 z) vl2 a rest2 hg hrd4 ho4 (hob4.trans HOB.out) HGU h1 h2
            clear hrd4 ho4 hob4 HGL4 HO4 hb45 hg
            simp only [Act.put, List.getElem_toArray, List.getElem_cons_succ, List.getElem_cons_zero, List.setIfInBounds_toArray, List.set_cons_zero, List.set_cons_succ]
            refine wpAny_step 4 (.slice (some ⟨w4.heap.size, 0, none⟩) 1 1) (w4.alloc (.cells #[(Value.int .u64 z)] 23)) (by kernel_rfl) rfl (by rfl) (by simp [go_sem]) ?_
            simp only [Act.put, List.getElem_toArray, List.getElem_cons_succ, List.getElem_cons_zero, List.setIfInBounds_toArray, List.set_cons_zero, List.set_cons_succ]
            refine wpAny_law 5 (by kernel_rfl) rfl (by rfl) (wp_appendN (.tmp 8) (.tmp 12) rfl (H + 4) vl (Value.int .u64 z) vs w4.heap.size rfl HO5.out rfl HU5.out HU1.out HVL.out HS5.out ?_)
            intro vl2 w6 hown6 hgrow
            have HJ := HNext.out w6 vl2 hown6 hgrow
            have hb6 : Blk w6 gl [vl] 36 := HBL5.out.grown hgrow (by have := HGL.out; intro he; have := (HO5.out.lt gl he.symm).1; omega)
            have c6 : w6.cell? ⟨gl, 0, none⟩ = some vl := hb6.cell 0
            have f6 : w6.frozen? ⟨gl, 0, none⟩ = false := hb6.frozen 0
            have HJ2 : Hid (RlInvN H gl vb w1 n r (k + 1) (xs ++ [a]) rest2 (w6.setCell ⟨gl, 0, none⟩ vl2)) := HJ
            obtain ⟨ad6, cc6, hv6, _⟩ := hown6.slice
            obtain ⟨nn6, HN6⟩ : ∃ x : Nat, Hid (x = (vs ++ [(Value.int .u64 z)]).length) := ⟨_, rfl⟩
            rw [← HN6.out] at hv6
            subst hv6
            clear hown6 hgrow hb6 HJ HNext
            simp only [Act.put, List.getElem_toArray, List.getElem_cons_succ, List.getElem_cons_zero, List.setIfInBounds_toArray, List.set_cons_zero, List.set_cons_succ]
            refine wpAny_skip 6 (w6.setCell ⟨gl, 0, none⟩ (.slice ad6 nn6 cc6)) (by kernel_rfl) rfl (by rfl) (by simp [go_sem, c6, f6]) ?_
            simp only [Act.put, List.getElem_toArray, List.getElem_cons_succ, List.getElem_cons_zero]
            refine wpAny_done (by kernel_rfl) ?_ _
            clear HO5 HU5 HBL5
            generalize w6.setCell ⟨gl, 0, none⟩ (.slice ad6 nn6 cc6) = w7 at *
            go_wp2
            go_roundw
            case rel => exact ⟨k + 1, xs ++ [a], rest2, by go_num, HJ2.out⟩
            case measure => simp [intOf]; have := hlt; omega
          · refine Or.inr ⟨_, hT.down, ?_⟩
            exact ⟨rfl, HI.out.threw hlt HGL.out HSZ1.out HM.out HFR3.out HSZ.out hg hT⟩
        · refine wpOp_vl 1 (.func (.func 39) #[] #[]) w3 (by rfl) (by rfl) (by simp [go_sem, cf3]) ?_
          simp only [Act.put, List.getElem_toArray, List.getElem_cons_succ, List.getElem_cons_zero, List.setIfInBounds_toArray, List.set_cons_zero, List.set_cons_succ]
          refine wpAny_pair 0 3 (by kernel_rfl) ?_ ?_
          · refine wpOp_vl 0 vl w3 (by rfl) (by rfl) (by simp [go_sem, cl3]) ?_
            simp only [Act.put, List.getElem_toArray, List.getElem_cons_zero, List.setIfInBounds_toArray, List.set_cons_zero, List.set_cons_succ]
            refine wpAny_enterP 3 (by kernel_rfl) rfl (by rfl) (f := 39) (args := #[.pointer (some ⟨H + 3, 0, none⟩)]) (by simp [go_sem]) HC.out ?_
            rintro e w4 (⟨a, rest2, va, v2, hg, rfl, hu, hrd4, ho4, hob4⟩ | ⟨hg, hT⟩)
            · refine Or.inl ⟨_, rfl, ?_⟩
              obtain ⟨u, HUE⟩ : ∃ x, Hid (x = va) := ⟨_, rfl⟩
              have hue := HUE.out
              subst hu
              obtain ⟨z, HZ⟩ : ∃ z : Int, Hid (z = (a : Int)) := ⟨_, rfl⟩
              rw [← HZ.out] at hue
              rw [← HZ.out]
              subst hue
              have HU1 : Hid ((Value.int .u64 z).oneCell' = true) := rfl
              have HGU : Value.int .u64 z = .int .u64 (a : Int) := by rw [HZ.out]
              have HGL4 : Blk w4 gl [vl] 36 := HBL3.out.only ho4 (by have := HGL.out; omega)
              have c4 : w4.cell? ⟨gl, 0, none⟩ = some vl := HGL4.cell 0
              have HO4 : OwnV w4 (H + 4) 23 vl vs := HO3.out.same (fun k hk => ho4.block k (by have := (HO3.out.lt k hk).1; omega) (HO3.out.lt k hk).2)
              have hb45 := below_alloc w4 (.cells #[(Value.int .u64 z)] 23)
              have HO5 : Hid (OwnV (w4.alloc (.cells #[(Value.int .u64 z)] 23)) (H + 4) 23 vl vs) := HO4.same (fun k hk => hb45.block k (HO4.lt k hk).2)
              have HBL5 : Hid (Blk (w4.alloc (.cells #[(Value.int .u64 z)] 23)) gl [vl] 36) := HGL4.alloc _
              have c5 : (w4.alloc (.cells #[(Value.int .u64 z)] 23)).cell? ⟨gl, 0, none⟩ = some vl := HBL5.out.cell 0
              have HU5 : Hid ((w4.alloc (.cells #[(Value.int .u64 z)] 23)).cell? ⟨w4.heap.size, 0, none⟩ = some (Value.int .u64 z)) := (Blk.new w4 [(Value.int .u64 z)] 23).cell 0
              have HS5 : Hid (H + 4 ≤ (w4.alloc (.cells #[(Value.int .u64 z)] 23)).heap.size) := by have h1 := HSZ.out; have h2 := ho4.size; have h3 := hb45.size; show _ ≤ _; omega
              have HNext : Hid (∀ w6 vl2, OwnV w6 (H + 4) 23 vl2 (vs ++ [(Value.int .u64 z)]) → (w4.alloc (.cells #[(Value.int .u64 z)] 23)).grownBy w6 vl.ownBlock → RlInvN H gl vb w1 n r (k + 1) (xs ++ [a]) rest2 (w6.setCell ⟨gl, 0, none⟩ vl2)) := fun w6 vl2 h1 h2 => HI.out.next hlt HGL.out HVB.out HBL3.out HO3.out HGD3.out HSZ.out HFR3.out w4 w6 v2 (Value.int .u64 z) vl2 a rest2 hg hrd4 ho4 (hob4.trans HOB.out) HGU h1 h2
              clear hrd4 ho4 hob4 HGL4 HO4 hb45 hg
              simp only [Act.put, List.getElem_toArray, List.getElem_cons_succ, List.getElem_cons_zero, List.setIfInBounds_toArray, List.set_cons_zero, List.set_cons_succ]
              refine wpAny_step 4 (.slice (some ⟨w4.heap.size, 0, none⟩) 1 1) (w4.alloc (.cells #[(Value.int .u64 z)] 23)) (by kernel_rfl) rfl (by rfl) (by simp [go_sem]) ?_
              simp only [Act.put, List.getElem_toArray, List.getElem_cons_succ, List.getElem_cons_zero, List.setIfInBounds_toArray, List.set_cons_zero, List.set_cons_succ]
              refine wpAny_law 5 (by kernel_rfl) rfl (by rfl) (wp_appendN (.tmp 8) (.tmp 12) rfl (H + 4) vl (Value.int .u64 z) vs w4.heap.size rfl HO5.out rfl HU5.out HU1.out HVL.out HS5.out ?_)
              intro vl2 w6 hown6 hgrow
              have HJ := HNext.out w6 vl2 hown6 hgrow
              have hb6 : Blk w6 gl [vl] 36 := HBL5.out.grown hgrow (by have := HGL.out; intro he; have := (HO5.out.lt gl he.symm).1; omega)
              have c6 : w6.cell? ⟨gl, 0, none⟩ = some vl := hb6.cell 0
              have f6 : w6.frozen? ⟨gl, 0, none⟩ = false := hb6.frozen 0
              have HJ2 : Hid (RlInvN H gl vb w1 n r (k + 1) (xs ++ [a]) rest2 (w6.setCell ⟨gl, 0, none⟩ vl2)) := HJ
              obtain ⟨ad6, cc6, hv6, _⟩ := hown6.slice
              obtain ⟨nn6, HN6⟩ : ∃ x : Nat, Hid (x = (vs ++ [(Value.int .u64 z)]).length) := ⟨_, rfl⟩
              rw [← HN6.out] at hv6
              subst hv6
              clear hown6 hgrow hb6 HJ HNext
              simp only [Act.put, List.getElem_toArray, List.getElem_cons_succ, List.getElem_cons_zero, List.setIfInBounds_toArray, List.set_cons_zero, List.set_cons_succ]
              refine wpAny_skip 6 (w6.setCell ⟨gl, 0, none⟩ (.slice ad6 nn6 cc6)) (by kernel_rfl) rfl (by rfl) (by simp [go_sem, c6, f6]) ?_
              simp only [Act.put, List.getElem_toArray, List.getElem_cons_succ, List.getElem_cons_zero]
              refine wpAny_done (by kernel_rfl) ?_ _
              clear HO5 HU5 HBL5
              generalize w6.setCell ⟨gl, 0, none⟩ (.slice ad6 nn6 cc6) = w7 at *
              go_wp2
              go_roundw
              case rel => exact ⟨k + 1, xs ++ [a], rest2, by go_num, HJ2.out⟩
              case measure => simp [intOf]; have := hlt; omega
            · refine Or.inr ⟨_, hT.down, ?_⟩
              exact ⟨rfl, HI.out.threw hlt HGL.out HSZ1.out HM.out HFR3.out HSZ.out hg hT⟩
          · skip
            refine wpOp_enP 3 (by rfl) (by rfl) (f := 39) (args := #[.pointer (some ⟨H + 3, 0, none⟩)]) (by simp [go_sem]) HC.out ?_
            rintro e w4 (⟨a, rest2, va, v2, hg, rfl, hu, hrd4, ho4, hob4⟩ | ⟨hg, hT⟩)
            · refine Or.inl ⟨_, rfl, ?_⟩
              obtain ⟨u, HUE⟩ : ∃ x, Hid (x = va) := ⟨_, rfl⟩
              have hue := HUE.out
              subst hu
              obtain ⟨z, HZ⟩ : ∃ z : Int, Hid (z = (a : Int)) := ⟨_, rfl⟩
              rw [← HZ.out] at hue
              rw [← HZ.out]
              subst hue
              have HU1 : Hid ((Value.int .u64 z).oneCell' = true) := rfl
              have HGU : Value.int .u64 z = .int .u64 (a : Int) := by rw [HZ.out]
              have HGL4 : Blk w4 gl [vl] 36 := HBL3.out.only ho4 (by have := HGL.out; omega)
              have c4 : w4.cell? ⟨gl, 0, none⟩ = some vl := HGL4.cell 0
              have HO4 : OwnV w4 (H + 4) 23 vl vs := HO3.out.same (fun k hk => ho4.block k (by have := (HO3.out.lt k hk).1; omega) (HO3.out.lt k hk).2)
              have hb45 := below_alloc w4 (.cells #[(Value.int .u64 z)] 23)
              have HO5 : Hid (OwnV (w4.alloc (.cells #[(Value.int .u64 z)] 23)) (H + 4) 23 vl vs) := HO4.same (fun k hk => hb45.block k (HO4.lt k hk).2)
              have HBL5 : Hid (Blk (w4.alloc (.cells #[(Value.int .u64 z)] 23)) gl [vl] 36) := HGL4.alloc _
              have c5 : (w4.alloc (.cells #[(Value.int .u64 z)] 23)).cell? ⟨gl, 0, none⟩ = some vl := HBL5.out.cell 0
              have HU5 : Hid ((w4.alloc (.cells #[(Value.int .u64 z)] 23)).cell? ⟨w4.heap.size, 0, none⟩ = some (Value.int .u64 z)) := (Blk.new w4 [(Value.int .u64 z)] 23).cell 0
              have HS5 : Hid (H + 4 ≤ (w4.alloc (.cells #[(Value.int .u64 z)] 23)).heap.size) := by have h1 := HSZ.out; have h2 := ho4.size; have h3 := hb45.size; show _ ≤ _; omega
              have HNext : Hid (∀ w6 vl2, OwnV w6 (H + 4) 23 vl2 (vs ++ [(Value.int .u64 z)]) → (w4.alloc (.cells #[(Value.int .u64 z)] 23)).grownBy w6 vl.ownBlock → RlInvN H gl vb w1 n r (k + 1) (xs ++ [a]) rest2 (w6.setCell ⟨gl, 0, none⟩ vl2)) := fun w6 vl2 h1 h2 => HI.out.next hlt HGL.out HVB.out HBL3.out HO3.out HGD3.out HSZ.out HFR3.out w4 w6 v2 (Value.int .u64 z) vl2 a rest2 hg hrd4 ho4 (hob4.trans HOB.out) HGU h1 h2
              clear hrd4 ho4 hob4 HGL4 HO4 hb45 hg
              simp only [Act.put, List.getElem_toArray, List.getElem_cons_succ, List.getElem_cons_zero, List.setIfInBounds_toArray, List.set_cons_zero, List.set_cons_succ]
              refine wpAny_pair 0 4 (by kernel_rfl) ?_ ?_
              · refine wpOp_vl 0 vl w4 (by rfl) (by rfl) (by simp [go_sem, c4]) ?_
                simp only [Act.put, List.getElem_toArray, List.getElem_cons_zero, List.setIfInBounds_toArray, List.set_cons_zero, List.set_cons_succ]
                refine wpAny_step 4 (.slice (some ⟨w4.heap.size, 0, none⟩) 1 1) (w4.alloc (.cells #[(Value.int .u64 z)] 23)) (by kernel_rfl) rfl (by rfl) (by simp [go_sem]) ?_
                simp only [Act.put, List.getElem_toArray, List.getElem_cons_succ, List.getElem_cons_zero, List.setIfInBounds_toArray, List.set_cons_zero, List.set_cons_succ]
                refine wpAny_law 5 (by kernel_rfl) rfl (by rfl) (wp_appendN (.tmp 8) (.tmp 12) rfl (H + 4) vl (Value.int .u64 z) vs w4.heap.size rfl HO5.out rfl HU5.out HU1.out HVL.out HS5.out ?_)
                intro vl2 w6 hown6 hgrow
                have HJ := HNext.out w6 vl2 hown6 hgrow
                have hb6 : Blk w6 gl [vl] 36 := HBL5.out.grown hgrow (by have := HGL.out; intro he; have := (HO5.out.lt gl he.symm).1; omega)
                have c6 : w6.cell? ⟨gl, 0, none⟩ = some vl := hb6.cell 0
                have f6 : w6.frozen? ⟨gl, 0, none⟩ = false := hb6.frozen 0
                have HJ2 : Hid (RlInvN H gl vb w1 n r (k + 1) (xs ++ [a]) rest2 (w6.setCell ⟨gl, 0, none⟩ vl2)) := HJ
                obtain ⟨ad6, cc6, hv6, _⟩ := hown6.slice
                obtain ⟨nn6, HN6⟩ : ∃ x : Nat, Hid (x = (vs ++ [(Value.int .u64 z)]).length) := ⟨_, rfl⟩
                rw [← HN6.out] at hv6
                subst hv6
                clear hown6 hgrow hb6 HJ HNext
                simp only [Act.put, List.getElem_toArray, List.getElem_cons_succ, List.getElem_cons_zero, List.setIfInBounds_toArray, List.set_cons_zero, List.set_cons_succ]
                refine wpAny_skip 6 (w6.setCell ⟨gl, 0, none⟩ (.slice ad6 nn6 cc6)) (by kernel_rfl) rfl (by rfl) (by simp [go_sem, c6, f6]) ?_
                simp only [Act.put, List.getElem_toArray, List.getElem_cons_succ, List.getElem_cons_zero]
                refine wpAny_done (by kernel_rfl) ?_ _
                clear HO5 HU5 HBL5
                generalize w6.setCell ⟨gl, 0, none⟩ (.slice ad6 nn6 cc6) = w7 at *
                go_wp2
                go_roundw
                case rel => exact ⟨k + 1, xs ++ [a], rest2, by go_num, HJ2.out⟩
                case measure => simp [intOf]; have := hlt; omega
              · refine wpOp_vl 4 (.slice (some ⟨w4.heap.size, 0, none⟩) 1 1) (w4.alloc (.cells #[(Value.int .u64 z)] 23)) (by rfl) (by rfl) (by simp [go_sem]) ?_
                simp only [Act.put, List.getElem_toArray, List.getElem_cons_succ, List.getElem_cons_zero, List.setIfInBounds_toArray, List.set_cons_zero, List.set_cons_succ]
                refine wpAny_step 0 vl (w4.alloc (.cells #[(Value.int .u64 z)] 23)) (by kernel_rfl) rfl (by rfl) (by simp [go_sem, c5]) ?_
                simp only [Act.put, List.getElem_toArray, List.getElem_cons_zero, List.setIfInBounds_toArray, List.set_cons_zero, List.set_cons_succ]
                refine wpAny_law 5 (by kernel_rfl) rfl (by rfl) (wp_appendN (.tmp 8) (.tmp 12) rfl (H + 4) vl (Value.int .u64 z) vs w4.heap.size rfl HO5.out rfl HU5.out HU1.out HVL.out HS5.out ?_)
                intro vl2 w6 hown6 hgrow
                have HJ := HNext.out w6 vl2 hown6 hgrow
                have hb6 : Blk w6 gl [vl] 36 := HBL5.out.grown hgrow (by have := HGL.out; intro he; have := (HO5.out.lt gl he.symm).1; omega)
                have c6 : w6.cell? ⟨gl, 0, none⟩ = some vl := hb6.cell 0
                have f6 : w6.frozen? ⟨gl, 0, none⟩ = false := hb6.frozen 0
                have HJ2 : Hid (RlInvN H gl vb w1 n r (k + 1) (xs ++ [a]) rest2 (w6.setCell ⟨gl, 0, none⟩ vl2)) := HJ
                obtain ⟨ad6, cc6, hv6, _⟩ := hown6.slice
                obtain ⟨nn6, HN6⟩ : ∃ x : Nat, Hid (x = (vs ++ [(Value.int .u64 z)]).length) := ⟨_, rfl⟩
                rw [← HN6.out] at hv6
                subst hv6
                clear hown6 hgrow hb6 HJ HNext
                simp only [Act.put, List.getElem_toArray, List.getElem_cons_succ, List.getElem_cons_zero, List.setIfInBounds_toArray, List.set_cons_zero, List.set_cons_succ]
                refine wpAny_skip 6 (w6.setCell ⟨gl, 0, none⟩ (.slice ad6 nn6 cc6)) (by kernel_rfl) rfl (by rfl) (by simp [go_sem, c6, f6]) ?_
                simp only [Act.put, List.getElem_toArray, List.getElem_cons_succ, List.getElem_cons_zero]
                refine wpAny_done (by kernel_rfl) ?_ _
                clear HO5 HU5 HBL5
                generalize w6.setCell ⟨gl, 0, none⟩ (.slice ad6 nn6 cc6) = w7 at *
                go_wp2
                go_roundw
                case rel => exact ⟨k + 1, xs ++ [a], rest2, by go_num, HJ2.out⟩
                case measure => simp [intOf]; have := hlt; omega
            · refine Or.inr ⟨_, hT.down, ?_⟩
              exact ⟨rfl, HI.out.threw hlt HGL.out HSZ1.out HM.out HFR3.out HSZ.out hg hT⟩
      · have hkn : k = n := by omega
        subst hkn
        have HD : Hid (Does H (fun l2 w2 => ∃ ns, readMany readNum l = some (ns, l2) ∧ LsN w2 gl (H + 4) ns ∧ Fr (H + 1) gl (H + 4) w1 w2) (fun w2 => readMany readNum l = none ∧ Fr (H + 1) gl (H + 4) w1 w2) w1 (.returned (.tuple #[])) wr) := by
          obtain ⟨v, hrd, hob⟩ := hI.rdr
          refine ⟨hI.fr.size, fun k h1 h2 h3 => hI.fr.block k h2 h3 (by have := HGL.out; omega), Or.inl ⟨rfl, v, rest, hrd, xs, ?_, hI.row, hI.fr⟩⟩
          rw [HM.out, hI.eq, Nat.sub_self]
          simp [readAll]
        clear hI HI
        go_wp2
        go_end0
        exact HD.out
  · have HD : Hid (Does H (fun l2 w2 => ∃ ns, readMany readNum l = some (ns, l2) ∧ LsN w2 gl (H + 4) ns ∧ Fr (H + 1) gl (H + 4) w1 w2) (fun w2 => readMany readNum l = none ∧ Fr (H + 1) gl (H + 4) w1 w2) w1 (thrown (H + 1)) w2) := by
      have hf4 : Fr (H + 1) gl (H + 4) w1 w2 := (Fr.refl _ _ _ _).only hT.onl (by rw [HSZ1.out]; exact Nat.le_refl _)
      obtain ⟨v, hb, ad, m, c, hv⟩ := hT.bad
      refine ⟨hf4.size, fun k h1 h2 h3 => hf4.block k h2 h3 (by have := HGL.out; omega), Or.inr ⟨rfl, ⟨v, ad, m, c, hv, hb⟩, ?_, hf4⟩⟩
      unfold readMany; rw [hc]
    obtain rfl := hT.eq
    unfold thrown at HD ⊢
    clear hT hc
    go_wp2
    exact ⟨rfl, HD.out⟩
end Go.Proofs.Ytdhglbemkaogiaa

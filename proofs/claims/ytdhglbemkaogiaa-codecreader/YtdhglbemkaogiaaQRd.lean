/- The walks of blazonref04.ReadNums and ReadTexts. -/
import Derived.Test.YtdhglbemkaogiaaRIn3
namespace Go.Proofs.Ytdhglbemkaogiaa
open Go.RowKit
theorem InS.others {w w' : World} {g : Nat} {v : Value} {l : List (BitVec 8)} {pos : Nat} {bad : Bool} (h : InS w g v l pos bad) (hv : 0 < l.length → ∀ k, v.ownBlock = some k → k < g) (hb : Below (g + 1) w w') : InS w' g v l pos bad := by
  refine ⟨h.blk.below hb (by omega), ?_, h.le⟩
  obtain ⟨ad, cap, rfl, hc, hn, hx⟩ := h.byt
  refine ⟨ad, cap, rfl, hc, hn, fun hp => ?_⟩
  obtain ⟨b, off, rfl, hy⟩ := hx hp
  refine ⟨b, off, rfl, fun j hj => ?_⟩
  rw [hb.cell (p := ⟨b, off + j, none⟩) (by have := hv hp b rfl; show b < g + 1; omega)]
  exact hy j hj
theorem below_drewN {B : Nat} {a b : World} (h : Below B a b) (n : Nat) : Below B a (b.drewN n) := ⟨h.os, h.tape, h.output, h.size, h.block⟩
theorem wpList_law {P : Program} {ops : Array Oper} {rest : List Oper} {o : Oper} {a : Act} {w : World} {Q : Exit → Act → World → Prop} (hg : o.guard = none) (h : o.wp P a w (wpList P ops Q rest) Q) : wpList P ops Q (o :: rest) a w :=
  wpList_plain hg (fun _ hK => Oper.wp_mono (fun a' w' h => hK a' w' h) h)
def QrInvN (g : Nat) (v : Value) (l : List (BitVec 8)) (w : World) (n : Nat) (r : List (BitVec 8)) (k : Nat) (u : Value) (wr : World) : Prop :=
  Below g w wr ∧ g + 1 ≤ wr.heap.size ∧ ((∃ (xs : List (Nat)) (pos : Nat) (vs : List Value), xs.length = k ∧ k ≤ n ∧ InS wr g v l pos false ∧ readAll readNum n r = (readAll readNum (n - k) (l.drop pos)).map (fun p => (xs ++ p.1, p.2)) ∧ OwnV wr (g + 1) 23 u vs ∧ GoodN wr (g + 1) vs xs) ∨
    (∃ pos ad m c, InS wr g v l pos true ∧ readAll readNum n r = none ∧ u = .slice ad m c))
theorem qrN_next {g : Nat} {v : Value} {l : List (BitVec 8)} {w wr w4 w6 : World} {n : Nat} {r : List (BitVec 8)} {k p : Nat} {xs : List (Nat)} {vl vl2 u : Value} {vs : List Value} {pos : Nat} {a : Nat} (hb : Below g w wr) (hsz : g + 1 ≤ wr.heap.size) (hlen : xs.length = k) (hk : k < n) (hv : 0 < l.length → ∀ k, v.ownBlock = some k → k < g)
    (heq : readAll readNum n r = (readAll readNum (n - k) (l.drop pos)).map (fun p => (xs ++ p.1, p.2))) (hown : OwnV wr (g + 1) 23 vl vs) (hgood : GoodN wr (g + 1) vs xs) (hg : readNum (l.drop pos) = some (a, l.drop p)) (hs4 : InS w4 g v l p false) (ho4 : Only g wr w4) (hu : u = .int .u64 (a : Int))
    (hown6 : OwnV w6 (g + 1) 23 vl2 (vs ++ [u])) (hgrow : (w4.alloc (.cells #[u] 23)).grownBy w6 vl.ownBlock) : QrInvN g v l w n r (k + 1) vl2 w6 := by
  have hrow : ∀ k, vl.ownBlock = some k → g + 1 ≤ k := fun k hk => (hown.lt k hk).1
  have hs4' : g + 1 ≤ w4.heap.size := Nat.le_trans hsz ho4.size
  have b45 : Below (g + 1) w4 (w4.alloc (.cells #[u] 23)) := (below_alloc w4 _).mono hs4'
  have b56 : Below (g + 1) (w4.alloc (.cells #[u] 23)) w6 := (Below.refl _ _).grown hgrow (Nat.le_trans hs4' b45.size) hrow
  have b46 := b45.trans b56
  have b14 : Below g wr w4 := ho4.below (Nat.le_refl _) (by omega)
  refine ⟨(hb.trans b14).trans (b46.mono (by omega)), Nat.le_trans hs4' b46.size, Or.inl ⟨xs ++ [a], p, vs ++ [u], by rw [List.length_append, hlen]; rfl, by omega, hs4.others hv b46, ?_, hown6, ?_⟩⟩
  · rw [show n - k = (n - (k + 1)) + 1 by omega] at heq
    exact readAll_more readNum (n - (k + 1)) (l.drop pos) (l.drop p) a n xs r heq hg
  · unfold GoodN at hgood ⊢
    rw [hgood, hu, List.map_append]
    rfl
set_option maxRecDepth 100000 in
set_option maxHeartbeats 2000000 in
theorem qreadN_any (vb : Value) (l : List (BitVec 8)) (w : World) (hb : Reads w vb l) (hl : l.length ≤ 9223372036854775807) :
    Calls Try.prog 18 #[vb] w fun e w' => ListRead 23 GoodN (readList readNum l) w e w' := by
  have HL : Hid (l.length ≤ 9223372036854775807) := hl
  have HL2 : Hid (l.length ≤ 9223372036854775807) := hl
  have hnot : ∀ (x : Bool) (w : World), (Op.unary .not (.bool x)).run Try.prog w = .ok (.bool (!x)) w := fun _ _ => rfl
  have hvb : 0 < l.length → ∀ k, vb.ownBlock = some k → k < w.heap.size := by
    intro hp k hk
    obtain ⟨ad, cap, rfl, _, _, hx⟩ := hb
    obtain ⟨b, off, rfl, hy⟩ := hx hp
    simp only [Value.ownBlock, Option.some.injEq] at hk
    subst hk
    exact block_lt_of_cell (hy 0 hp)
  obtain ⟨ad, cap, hv, _, _, _⟩ := id hb
  obtain ⟨m, HM⟩ : ∃ m, Hid (m = l.length) := ⟨_, rfl⟩
  rw [← HM.out] at hv
  subst hv
  have HI0 : Hid (InS (w.alloc (.cells #[.slice ad m cap, .int .i64 0, .bool false] 53)) w.heap.size (.slice ad m cap) l 0 false) :=
    ⟨Blk.new w [.slice ad m cap, .int .i64 0, .bool false] 53, hb.below (below_alloc _ _), Nat.zero_le _⟩
  have HB0 : Hid (Below w.heap.size w (w.alloc (.cells #[.slice ad m cap, .int .i64 0, .bool false] 53))) := below_alloc _ _
  have HVB : Hid (0 < l.length → ∀ k, (Value.slice ad m cap).ownBlock = some k → k < w.heap.size) := hvb
  have HZ : Hid (w.heap.size + 1 ≤ (w.alloc (.cells #[.slice ad m cap, .int .i64 0, .bool false] 53)).heap.size) := by show _ ≤ _; simp
  obtain ⟨g, HG⟩ : ∃ g, Hid (g = w.heap.size) := ⟨_, rfl⟩
  clear hb hl hvb
  go_enter Try.func18, Try.ntmps18
  go_wp2_with fail
  rw [← HG.out] at HI0 HB0 HVB HZ
  have hgp : (some ⟨w.heap.size, 0, none⟩ : Option Addr) = some ⟨g, 0, none⟩ := by rw [HG.out]
  simp only [hgp]
  clear hgp
  generalize w.alloc (.cells #[.slice ad m cap, .int .i64 0, .bool false] 53) = w1 at *
  refine (incount_any g (.slice ad m cap) l 0 false w1 4096 (by omega) HI0.out HL2.out).mono ?_
  intro e w2 hD
  obtain ⟨n, r, rfl, hn, hI⟩ : ∃ (n : Nat) (r : List (BitVec 8)), e = .returned (.int .i64 (n : Int)) ∧ n ≤ 4096 ∧ (QrInvN g (.slice ad m cap) l w n r 0 (.slice none 0 0) w2 ∧ (readMany readNum l = readAll readNum n r) ∨ (n = 0 ∧ readMany readNum l = none ∧ Below g w w2 ∧ g + 1 ≤ w2.heap.size ∧ ∃ p, InS w2 g (.slice ad m cap) l p true)) := by
    rcases hD with ⟨n, p, u, ho, h1, rfl, hs, hon⟩ | ⟨ho, u, p, h1, rfl, hs, hon⟩
    · simp only [Bool.false_eq_true, if_false, List.drop_zero] at ho
      refine ⟨n, l.drop p, h1, readCount_le ho, Or.inl ⟨⟨HB0.out.trans (hon.below (Nat.le_refl _) (by have := HZ.out; omega)), Nat.le_trans HZ.out hon.size, Or.inl ⟨[], p, [], rfl, Nat.zero_le _, hs, ?_, OwnV.nil _ _ _, rfl⟩⟩, by unfold readMany; rw [ho]⟩⟩
      rw [Nat.sub_zero]; cases readAll readNum n (l.drop p) <;> rfl
    · simp only [Bool.false_eq_true, if_false, List.drop_zero] at ho
      exact ⟨0, [], h1, by omega, Or.inr ⟨rfl, by unfold readMany; rw [ho], HB0.out.trans (hon.below (Nat.le_refl _) (by have := HZ.out; omega)), Nat.le_trans HZ.out hon.size, p, hs⟩⟩
  obtain ⟨mm, HMM⟩ : ∃ x, Hid (x = readMany readNum l) := ⟨_, rfl⟩
  have hJ : ∃ u, u = Value.slice none 0 0 ∧ ((QrInvN g (.slice ad m cap) l w n r 0 u w2 ∧ mm = readAll readNum n r) ∨ (mm = none ∧ n = 0 ∧ Below g w w2 ∧ g + 1 ≤ w2.heap.size ∧ ∃ p, InS w2 g (.slice ad m cap) l p true)) := by
    refine ⟨_, rfl, ?_⟩
    rw [HMM.out]
    rcases hI with ⟨h1, h2⟩ | ⟨h1, h2, h3, h4, h5⟩
    · exact Or.inl ⟨h1, h2⟩
    · exact Or.inr ⟨h2, h1, h3, h4, h5⟩
  clear hD hI HI0 HB0
  have hGe : g ≤ w.heap.size ∧ w.heap.size ≤ g := by rw [HG.out]; exact ⟨Nat.le_refl _, Nat.le_refl _⟩
  have HGe : Hid (g ≤ w.heap.size ∧ w.heap.size ≤ g) := hGe
  clear hGe
  go_wp2
  go_loopw [5, 7] (fun u i wr => ∃ k : Nat, i = .int .i64 (k : Int) ∧ ((QrInvN g (.slice ad m cap) l w n r k u wr ∧ mm = readAll readNum n r) ∨ (mm = none ∧ n = 0 ∧ k = 0 ∧ Below g w wr ∧ g + 1 ≤ wr.heap.size ∧ u = Value.slice none 0 0 ∧ ∃ p, InS wr g (.slice ad m cap) l p true))) (fun _ i _ => n - (intOf i).toNat)
  case atStart =>
    obtain ⟨u, rfl, hJ⟩ := hJ
    refine ⟨0, rfl, ?_⟩
    rcases hJ with h1 | ⟨h1, h2, h3, h4, h5⟩
    · exact Or.inl h1
    · exact Or.inr ⟨h1, h2, rfl, h3, h4, rfl, h5⟩
  case round =>
    clear hJ
    obtain ⟨k, rfl, hJ⟩ := hrel
    have bad : ∀ p, InS wr g (.slice ad m cap) l p true → mm = none → Below g w wr → (∃ a1 m1 c1, u5 = Value.slice a1 m1 c1) → Hid (∀ q, ListRead 23 GoodN (readList readNum l) w (.returned (.tuple #[.slice none 0 0, .int .i64 3])) (wr.drewN q)) := fun p hs hm hb _ q =>
      Or.inr ⟨by rw [readList_many, ← HMM.out, hm], rfl, below_drewN (hb.mono HGe.out.2) q⟩
    rcases hJ with ⟨⟨hb, hsz, hway⟩, hm⟩ | ⟨hm, rfl, rfl, hb, hsz, rfl, p, hs⟩
    · rcases hway with ⟨xs, pos, vs, hlen, hkn, hS, heq, hown, hgood⟩ | ⟨pos, a1, m1, c1, hS, hno, rfl⟩
      · have c2 : wr.cell? ⟨g, 2, none⟩ = some (.bool false) := hS.blk.cell 2
        by_cases hlt : k < n
        · have HC := innum_any g (.slice ad m cap) l pos false wr hS HL2.out
          replace HC : Hid _ := HC
          obtain ⟨al, cl, hvl, _⟩ := hown.slice
          have HVL : Hid (vs.length < 1000000) := by
            have h2 : vs.length = xs.length := by unfold GoodN at hgood; rw [hgood, List.length_map]
            show _ < _
            omega
          obtain ⟨nl, HNL⟩ : ∃ x : Nat, Hid (x = vs.length) := ⟨_, rfl⟩
          rw [← HNL.out] at hvl
          have HST : Hid (Below g w wr ∧ g + 1 ≤ wr.heap.size ∧ xs.length = k ∧ readAll readNum n r = (readAll readNum (n - k) (l.drop pos)).map (fun p => (xs ++ p.1, p.2)) ∧ OwnV wr (g + 1) 23 u5 vs ∧ GoodN wr (g + 1) vs xs) := ⟨hb, hsz, hlen, heq, hown, hgood⟩
          have HMM2 : Hid (mm = readAll readNum n r) := hm
          clear hb hsz hlen heq hown hgood hm hS bad
          subst hvl
          go_wp2_with fail
          refine Calls.mono HC.out ?_
          intro e w4 hD
          obtain ⟨u, rfl, hshape, hstep⟩ : ∃ u, e = .returned u ∧ (∃ z : Int, u = Value.int .u64 z) ∧ (∀ w6 vl2, OwnV w6 (g + 1) 23 vl2 (vs ++ [u]) → (w4.alloc (.cells #[u] 23)).grownBy w6 (Value.slice al nl cl).ownBlock → (∃ a1 m1 c1, vl2 = Value.slice a1 m1 c1) → QrInvN g (.slice ad m cap) l w n r (k + 1) vl2 w6) ∧ OwnV (w4.alloc (.cells #[u] 23)) (g + 1) 23 (.slice al nl cl) vs ∧ g + 1 ≤ (w4.alloc (.cells #[u] 23)).heap.size := by
            have key : ∀ u, Only g wr w4 → OwnV (w4.alloc (.cells #[u] 23)) (g + 1) 23 (.slice al nl cl) vs ∧ g + 1 ≤ (w4.alloc (.cells #[u] 23)).heap.size := fun u ho4 => by
              have hown := HST.out.2.2.2.2.1
              have h4 : OwnV w4 (g + 1) 23 (.slice al nl cl) vs := hown.same (fun k hk => ho4.block k (by have := (hown.lt k hk).1; omega) (hown.lt k hk).2)
              exact ⟨h4.same (fun k hk => (below_alloc w4 _).block k (h4.lt k hk).2), by have h1 := HST.out.2.1; have h2 := ho4.size; have h3 := (below_alloc w4 (.cells #[u] 23)).size; omega⟩
            rcases hD with ⟨a, p, u, ho, h1, hu, hs4, ho4⟩ | ⟨ho, u, p, h1, hu, hs4, ho4⟩
            · simp only [Bool.false_eq_true, if_false] at ho
              refine ⟨u, h1, ?_, fun w6 vl2 h2 h3 _ => ?_, key u ho4⟩
              · exact ⟨_, hu⟩
              · exact qrN_next HST.out.1 HST.out.2.1 HST.out.2.2.1 hlt (fun hp k hk => by have := HVB.out hp k hk; have := HGe.out.2; omega) HST.out.2.2.2.1 HST.out.2.2.2.2.1 HST.out.2.2.2.2.2 ho hs4 ho4 hu h2 h3
            · simp only [Bool.false_eq_true, if_false] at ho
              refine ⟨u, h1, ⟨_, hu⟩, fun w6 vl2 h2 h3 h7 => ?_, key u ho4⟩
              obtain ⟨a1, m1, c1, hvl2⟩ := h7
              have hrow : ∀ k, (Value.slice al nl cl).ownBlock = some k → g + 1 ≤ k := fun k hk => (HST.out.2.2.2.2.1.lt k hk).1
              have hs4' : g + 1 ≤ w4.heap.size := Nat.le_trans HST.out.2.1 ho4.size
              have b45 : Below (g + 1) w4 (w4.alloc (.cells #[u] 23)) := (below_alloc w4 _).mono hs4'
              have b56 : Below (g + 1) (w4.alloc (.cells #[u] 23)) w6 := (Below.refl _ _).grown h3 (Nat.le_trans hs4' b45.size) hrow
              refine ⟨(HST.out.1.trans (ho4.below (Nat.le_refl _) (by have := HST.out.2.1; omega))).trans ((b45.trans b56).mono (by omega)), Nat.le_trans hs4' (b45.trans b56).size, Or.inr ⟨p, a1, m1, c1, hs4.others (fun hp k hk => by have := HVB.out hp k hk; have := HGe.out.2; omega) (b45.trans b56), ?_, hvl2⟩⟩
              rw [HST.out.2.2.2.1, show n - k = (n - (k + 1)) + 1 by omega, readAll, ho]
              rfl
          obtain ⟨hst, hown5, hsz5⟩ := hstep
          obtain ⟨z, rfl⟩ := hshape
          have HST2 : Hid (∀ w6 vl2, OwnV w6 (g + 1) 23 vl2 (vs ++ [(Value.int .u64 z)]) → (w4.alloc (.cells #[(Value.int .u64 z)] 23)).grownBy w6 (Value.slice al nl cl).ownBlock → (∃ a1 m1 c1, vl2 = Value.slice a1 m1 c1) → QrInvN g (.slice ad m cap) l w n r (k + 1) vl2 w6) := hst
          have HO5 : Hid (OwnV (w4.alloc (.cells #[(Value.int .u64 z)] 23)) (g + 1) 23 (.slice al nl cl) vs) := hown5
          have HSZ5 : Hid (g + 1 ≤ (w4.alloc (.cells #[(Value.int .u64 z)] 23)).heap.size) := hsz5
          have HU1 : Hid ((Value.int .u64 z).oneCell' = true) := rfl
          have HU5 : Hid ((w4.alloc (.cells #[(Value.int .u64 z)] 23)).cell? ⟨w4.heap.size, 0, none⟩ = some (Value.int .u64 z)) := (Blk.new w4 [(Value.int .u64 z)] 23).cell 0
          clear hst hown5 hsz5 hD HST HC
          go_wp2_with (at_builtin; refine wpList_law rfl (wp_appendN (.tmp 25) (.tmp 28) rfl (g + 1) _ (Value.int .u64 z) vs w4.heap.size rfl HO5.out rfl HU5.out HU1.out HVL.out HSZ5.out ?_); intro vl2 w6 hown6 hgrow6)
          obtain ⟨a6, c6, hv6, _⟩ := hown6.slice
          have HJ : Hid (QrInvN g (.slice ad m cap) l w n r (k + 1) vl2 w6) := HST2.out w6 vl2 hown6 hgrow6 ⟨_, _, _, hv6⟩
          clear hown6 hgrow6 HST2 HO5 HU5 hv6
          go_wp2
          go_roundw
          case rel => exact ⟨k + 1, by go_num, Or.inl ⟨HJ.out, HMM2.out⟩⟩
          case measure => simp [intOf]; omega
        · have hkn' : k = n := by omega
          subst hkn'
          obtain ⟨al, cl, hvl, _⟩ := hown.slice
          have HF1 : Hid (pos = l.length → ∀ q, ListRead 23 GoodN (readList readNum l) w (.returned (.tuple #[u5, .int .i64 0])) (wr.drewN q)) := fun hp q => by
            refine Or.inl ⟨xs, u5, vs, ?_, rfl, hown.mono (by have := HGe.out.2; omega), hgood, below_drewN (hb.mono HGe.out.2) q⟩
            rw [readList_many, ← HMM.out, hm, heq, Nat.sub_self, hp, List.drop_length]
            simp [readAll]
          have HF2 : Hid (pos ≠ l.length → ∀ q, ListRead 23 GoodN (readList readNum l) w (.returned (.tuple #[.slice none 0 0, .int .i64 3])) (wr.drewN q)) := fun hp q => by
            refine Or.inr ⟨?_, rfl, below_drewN (hb.mono HGe.out.2) q⟩
            rw [readList_many, ← HMM.out, hm, heq, Nat.sub_self]
            simp only [readAll, Option.map_some, List.append_nil]
            cases hd : l.drop pos with
            | nil =>
              have := congrArg List.length hd
              rw [List.length_drop] at this
              have := hS.le
              simp at *
              omega
            | cons x y => rfl
          have HDn := indone_any g (.slice ad m cap) l pos false wr hS
          replace HDn : Hid _ := HDn
          obtain ⟨nl, HNL⟩ : ∃ x : Nat, Hid (x = vs.length) := ⟨_, rfl⟩
          rw [← HNL.out] at hvl
          clear hb hsz hlen heq hown hgood hm hS bad
          subst hvl
          go_wp2_with fail
          refine Calls.mono HDn.out ?_
          rintro e w' ⟨rfl, q, rfl⟩
          by_cases hp : pos = l.length
          · have HF : Hid (ListRead 23 GoodN (readList readNum l) w (.returned (.tuple #[.slice al nl cl, .int .i64 0])) (wr.drewN q)) := HF1.out hp q
            simp only [hp, decide_true, Bool.not_false, Bool.and_self]
            clear HF1 HF2 HDn
            go_wp2
            go_ret2
            exact HF.out
          · have HF : Hid (ListRead 23 GoodN (readList readNum l) w (.returned (.tuple #[.slice none 0 0, .int .i64 3])) (wr.drewN q)) := HF2.out hp q
            simp only [hp, decide_false, Bool.and_false]
            clear HF1 HF2 HDn
            go_wp2
            go_ret2
            exact HF.out
      · have c2 : wr.cell? ⟨g, 2, none⟩ = some (.bool true) := hS.blk.cell 2
        have HF := bad pos hS (by rw [hm, hno]) hb ⟨a1, m1, c1, rfl⟩
        have HDn := indone_any g (.slice ad m cap) l pos true wr hS
        replace HDn : Hid _ := HDn
        clear hb hsz hm hS bad hno
        by_cases hlt : k < n
        · go_wp2_with fail
          refine Calls.mono HDn.out ?_
          rintro e w' ⟨rfl, q, rfl⟩
          simp only [Bool.not_true, Bool.false_and]
          go_wp2
          go_ret2
          exact HF.out q
        · go_wp2_with fail
          refine Calls.mono HDn.out ?_
          rintro e w' ⟨rfl, q, rfl⟩
          simp only [Bool.not_true, Bool.false_and]
          go_wp2
          go_ret2
          exact HF.out q
    · have c2 : wr.cell? ⟨g, 2, none⟩ = some (.bool true) := hs.blk.cell 2
      have HF := bad p hs hm hb ⟨_, _, _, rfl⟩
      have HDn := indone_any g (.slice ad m cap) l p true wr hs
      replace HDn : Hid _ := HDn
      clear hb hsz hm hs bad
      go_wp2_with fail
      refine Calls.mono HDn.out ?_
      rintro e w' ⟨rfl, q, rfl⟩
      simp only [Bool.not_true, Bool.false_and]
      go_wp2
      go_ret2
      exact HF.out q
def QrInvT (g : Nat) (v : Value) (l : List (BitVec 8)) (w : World) (n : Nat) (r : List (BitVec 8)) (k : Nat) (u : Value) (wr : World) : Prop :=
  Below g w wr ∧ g + 1 ≤ wr.heap.size ∧ ((∃ (xs : List (List (BitVec 8))) (pos : Nat) (vs : List Value), xs.length = k ∧ k ≤ n ∧ InS wr g v l pos false ∧ readAll readText n r = (readAll readText (n - k) (l.drop pos)).map (fun p => (xs ++ p.1, p.2)) ∧ OwnV wr (g + 1) 22 u vs ∧ GoodT wr (g + 1) vs xs) ∨
    (∃ pos ad m c, InS wr g v l pos true ∧ readAll readText n r = none ∧ u = .slice ad m c))
theorem qrT_next {g : Nat} {v : Value} {l : List (BitVec 8)} {w wr w4 w6 : World} {n : Nat} {r : List (BitVec 8)} {k p : Nat} {xs : List (List (BitVec 8))} {vl vl2 u : Value} {vs : List Value} {pos : Nat} {a : List (BitVec 8)} (hb : Below g w wr) (hsz : g + 1 ≤ wr.heap.size) (hlen : xs.length = k) (hk : k < n) (hv : 0 < l.length → ∀ k, v.ownBlock = some k → k < g)
    (heq : readAll readText n r = (readAll readText (n - k) (l.drop pos)).map (fun p => (xs ++ p.1, p.2))) (hown : OwnV wr (g + 1) 22 vl vs) (hgood : GoodT wr (g + 1) vs xs) (hg : readText (l.drop pos) = some (a, l.drop p)) (hs4 : InS w4 g v l p false) (ho4 : Only g wr w4) (hu : OwnB w4 (g + 1) u a)
    (hown6 : OwnV w6 (g + 1) 22 vl2 (vs ++ [u])) (hgrow : (w4.alloc (.cells #[u] 22)).grownBy w6 vl.ownBlock) : QrInvT g v l w n r (k + 1) vl2 w6 := by
  have hrow : ∀ k, vl.ownBlock = some k → g + 1 ≤ k := fun k hk => (hown.lt k hk).1
  have hs4' : g + 1 ≤ w4.heap.size := Nat.le_trans hsz ho4.size
  have b45 : Below (g + 1) w4 (w4.alloc (.cells #[u] 22)) := (below_alloc w4 _).mono hs4'
  have b56 : Below (g + 1) (w4.alloc (.cells #[u] 22)) w6 := (Below.refl _ _).grown hgrow (Nat.le_trans hs4' b45.size) hrow
  have b46 := b45.trans b56
  have b14 : Below g wr w4 := ho4.below (Nat.le_refl _) (by omega)
  refine ⟨(hb.trans b14).trans (b46.mono (by omega)), Nat.le_trans hs4' b46.size, Or.inl ⟨xs ++ [a], p, vs ++ [u], by rw [List.length_append, hlen]; rfl, by omega, hs4.others hv b46, ?_, hown6, ?_⟩⟩
  · rw [show n - k = (n - (k + 1)) + 1 by omega] at heq
    exact readAll_more readText (n - (k + 1)) (l.drop pos) (l.drop p) a n xs r heq hg
  · have hown4 : OwnV w4 (g + 1) 22 vl vs := hown.same (fun k hk => ho4.block k (by have := (hown.lt k hk).1; omega) (hown.lt k hk).2)
    have up : ∀ x t, OwnB w4 (g + 1) x t → OwnB w6 (g + 1) x t := fun x t hx => by
      have hne := hx.apart (by decide) hown4
      refine hx.same (fun k hk => ?_)
      have h2 := hx.lt k hk
      rw [hgrow.block k (by simp; omega) (hne k hk), Go.RowKit.Below.heap_alloc w4 _ k h2]
    refine ⟨by rw [List.length_append, List.length_append, hgood.1]; rfl, fun j x hj => ?_⟩
    by_cases hjl : j < vs.length
    · rw [List.getElem?_append_left hjl] at hj
      have h1 := hgood.2 j x hj
      have h2 : (xs ++ [a]).getD j [] = xs.getD j [] := by
        rw [List.getD_eq_getElem?_getD, List.getD_eq_getElem?_getD, List.getElem?_append_left (by rw [← hgood.1]; exact hjl)]
      rw [h2]
      exact up _ _ (h1.same (fun k hk => ho4.block k (by have := h1.own k hk; omega) (h1.lt k hk)))
    · rw [List.getElem?_append_right (by omega)] at hj
      have hj0 : j = vs.length := by
        have := (List.getElem?_eq_some_iff.1 hj).1
        simp at this
        omega
      subst hj0
      simp at hj
      subst hj
      have h2 : (xs ++ [a]).getD vs.length [] = a := by
        rw [List.getD_eq_getElem?_getD, hgood.1, List.getElem?_append_right (Nat.le_refl _), Nat.sub_self]
        rfl
      rw [h2]
      exact up _ _ hu
set_option maxRecDepth 100000 in
set_option maxHeartbeats 2000000 in
theorem qreadT_any (vb : Value) (l : List (BitVec 8)) (w : World) (hb : Reads w vb l) (hl : l.length ≤ 9223372036854775807) :
    Calls Try.prog 20 #[vb] w fun e w' => ListRead 22 GoodT (readList readText l) w e w' := by
  have HL : Hid (l.length ≤ 9223372036854775807) := hl
  have HL2 : Hid (l.length ≤ 9223372036854775807) := hl
  have hnot : ∀ (x : Bool) (w : World), (Op.unary .not (.bool x)).run Try.prog w = .ok (.bool (!x)) w := fun _ _ => rfl
  have hvb : 0 < l.length → ∀ k, vb.ownBlock = some k → k < w.heap.size := by
    intro hp k hk
    obtain ⟨ad, cap, rfl, _, _, hx⟩ := hb
    obtain ⟨b, off, rfl, hy⟩ := hx hp
    simp only [Value.ownBlock, Option.some.injEq] at hk
    subst hk
    exact block_lt_of_cell (hy 0 hp)
  obtain ⟨ad, cap, hv, _, _, _⟩ := id hb
  obtain ⟨m, HM⟩ : ∃ m, Hid (m = l.length) := ⟨_, rfl⟩
  rw [← HM.out] at hv
  subst hv
  have HI0 : Hid (InS (w.alloc (.cells #[.slice ad m cap, .int .i64 0, .bool false] 53)) w.heap.size (.slice ad m cap) l 0 false) :=
    ⟨Blk.new w [.slice ad m cap, .int .i64 0, .bool false] 53, hb.below (below_alloc _ _), Nat.zero_le _⟩
  have HB0 : Hid (Below w.heap.size w (w.alloc (.cells #[.slice ad m cap, .int .i64 0, .bool false] 53))) := below_alloc _ _
  have HVB : Hid (0 < l.length → ∀ k, (Value.slice ad m cap).ownBlock = some k → k < w.heap.size) := hvb
  have HZ : Hid (w.heap.size + 1 ≤ (w.alloc (.cells #[.slice ad m cap, .int .i64 0, .bool false] 53)).heap.size) := by show _ ≤ _; simp
  obtain ⟨g, HG⟩ : ∃ g, Hid (g = w.heap.size) := ⟨_, rfl⟩
  clear hb hl hvb
  go_enter Try.func20, Try.ntmps20
  go_wp2_with fail
  rw [← HG.out] at HI0 HB0 HVB HZ
  have hgp : (some ⟨w.heap.size, 0, none⟩ : Option Addr) = some ⟨g, 0, none⟩ := by rw [HG.out]
  simp only [hgp]
  clear hgp
  generalize w.alloc (.cells #[.slice ad m cap, .int .i64 0, .bool false] 53) = w1 at *
  refine (incount_any g (.slice ad m cap) l 0 false w1 4096 (by omega) HI0.out HL2.out).mono ?_
  intro e w2 hD
  obtain ⟨n, r, rfl, hn, hI⟩ : ∃ (n : Nat) (r : List (BitVec 8)), e = .returned (.int .i64 (n : Int)) ∧ n ≤ 4096 ∧ (QrInvT g (.slice ad m cap) l w n r 0 (.slice none 0 0) w2 ∧ (readMany readText l = readAll readText n r) ∨ (n = 0 ∧ readMany readText l = none ∧ Below g w w2 ∧ g + 1 ≤ w2.heap.size ∧ ∃ p, InS w2 g (.slice ad m cap) l p true)) := by
    rcases hD with ⟨n, p, u, ho, h1, rfl, hs, hon⟩ | ⟨ho, u, p, h1, rfl, hs, hon⟩
    · simp only [Bool.false_eq_true, if_false, List.drop_zero] at ho
      refine ⟨n, l.drop p, h1, readCount_le ho, Or.inl ⟨⟨HB0.out.trans (hon.below (Nat.le_refl _) (by have := HZ.out; omega)), Nat.le_trans HZ.out hon.size, Or.inl ⟨[], p, [], rfl, Nat.zero_le _, hs, ?_, OwnV.nil _ _ _, ⟨rfl, fun j u hj => by simp at hj⟩⟩⟩, by unfold readMany; rw [ho]⟩⟩
      rw [Nat.sub_zero]; cases readAll readText n (l.drop p) <;> rfl
    · simp only [Bool.false_eq_true, if_false, List.drop_zero] at ho
      exact ⟨0, [], h1, by omega, Or.inr ⟨rfl, by unfold readMany; rw [ho], HB0.out.trans (hon.below (Nat.le_refl _) (by have := HZ.out; omega)), Nat.le_trans HZ.out hon.size, p, hs⟩⟩
  obtain ⟨mm, HMM⟩ : ∃ x, Hid (x = readMany readText l) := ⟨_, rfl⟩
  have hJ : ∃ u, u = Value.slice none 0 0 ∧ ((QrInvT g (.slice ad m cap) l w n r 0 u w2 ∧ mm = readAll readText n r) ∨ (mm = none ∧ n = 0 ∧ Below g w w2 ∧ g + 1 ≤ w2.heap.size ∧ ∃ p, InS w2 g (.slice ad m cap) l p true)) := by
    refine ⟨_, rfl, ?_⟩
    rw [HMM.out]
    rcases hI with ⟨h1, h2⟩ | ⟨h1, h2, h3, h4, h5⟩
    · exact Or.inl ⟨h1, h2⟩
    · exact Or.inr ⟨h2, h1, h3, h4, h5⟩
  clear hD hI HI0 HB0
  have hGe : g ≤ w.heap.size ∧ w.heap.size ≤ g := by rw [HG.out]; exact ⟨Nat.le_refl _, Nat.le_refl _⟩
  have HGe : Hid (g ≤ w.heap.size ∧ w.heap.size ≤ g) := hGe
  clear hGe
  go_wp2
  go_loopw [5, 7] (fun u i wr => ∃ k : Nat, i = .int .i64 (k : Int) ∧ ((QrInvT g (.slice ad m cap) l w n r k u wr ∧ mm = readAll readText n r) ∨ (mm = none ∧ n = 0 ∧ k = 0 ∧ Below g w wr ∧ g + 1 ≤ wr.heap.size ∧ u = Value.slice none 0 0 ∧ ∃ p, InS wr g (.slice ad m cap) l p true))) (fun _ i _ => n - (intOf i).toNat)
  case atStart =>
    obtain ⟨u, rfl, hJ⟩ := hJ
    refine ⟨0, rfl, ?_⟩
    rcases hJ with h1 | ⟨h1, h2, h3, h4, h5⟩
    · exact Or.inl h1
    · exact Or.inr ⟨h1, h2, rfl, h3, h4, rfl, h5⟩
  case round =>
    clear hJ
    obtain ⟨k, rfl, hJ⟩ := hrel
    have bad : ∀ p, InS wr g (.slice ad m cap) l p true → mm = none → Below g w wr → (∃ a1 m1 c1, u5 = Value.slice a1 m1 c1) → Hid (∀ q, ListRead 22 GoodT (readList readText l) w (.returned (.tuple #[.slice none 0 0, .int .i64 3])) (wr.drewN q)) := fun p hs hm hb _ q =>
      Or.inr ⟨by rw [readList_many, ← HMM.out, hm], rfl, below_drewN (hb.mono HGe.out.2) q⟩
    rcases hJ with ⟨⟨hb, hsz, hway⟩, hm⟩ | ⟨hm, rfl, rfl, hb, hsz, rfl, p, hs⟩
    · rcases hway with ⟨xs, pos, vs, hlen, hkn, hS, heq, hown, hgood⟩ | ⟨pos, a1, m1, c1, hS, hno, rfl⟩
      · have c2 : wr.cell? ⟨g, 2, none⟩ = some (.bool false) := hS.blk.cell 2
        by_cases hlt : k < n
        · have HC := intext_any g (.slice ad m cap) l pos false wr hS HL.out
          replace HC : Hid _ := HC
          obtain ⟨al, cl, hvl, _⟩ := hown.slice
          have HVL : Hid (vs.length < 1000000) := by
            have h2 : vs.length = xs.length := by exact hgood.1
            show _ < _
            omega
          obtain ⟨nl, HNL⟩ : ∃ x : Nat, Hid (x = vs.length) := ⟨_, rfl⟩
          rw [← HNL.out] at hvl
          have HST : Hid (Below g w wr ∧ g + 1 ≤ wr.heap.size ∧ xs.length = k ∧ readAll readText n r = (readAll readText (n - k) (l.drop pos)).map (fun p => (xs ++ p.1, p.2)) ∧ OwnV wr (g + 1) 22 u5 vs ∧ GoodT wr (g + 1) vs xs) := ⟨hb, hsz, hlen, heq, hown, hgood⟩
          have HMM2 : Hid (mm = readAll readText n r) := hm
          clear hb hsz hlen heq hown hgood hm hS bad
          subst hvl
          go_wp2_with fail
          refine Calls.mono HC.out ?_
          intro e w4 hD
          obtain ⟨u, rfl, hshape, hstep⟩ : ∃ u, e = .returned u ∧ (∃ au nu cu, u = Value.slice au nu cu) ∧ (∀ w6 vl2, OwnV w6 (g + 1) 22 vl2 (vs ++ [u]) → (w4.alloc (.cells #[u] 22)).grownBy w6 (Value.slice al nl cl).ownBlock → (∃ a1 m1 c1, vl2 = Value.slice a1 m1 c1) → QrInvT g (.slice ad m cap) l w n r (k + 1) vl2 w6) ∧ OwnV (w4.alloc (.cells #[u] 22)) (g + 1) 22 (.slice al nl cl) vs ∧ g + 1 ≤ (w4.alloc (.cells #[u] 22)).heap.size := by
            have key : ∀ u, Only g wr w4 → OwnV (w4.alloc (.cells #[u] 22)) (g + 1) 22 (.slice al nl cl) vs ∧ g + 1 ≤ (w4.alloc (.cells #[u] 22)).heap.size := fun u ho4 => by
              have hown := HST.out.2.2.2.2.1
              have h4 : OwnV w4 (g + 1) 22 (.slice al nl cl) vs := hown.same (fun k hk => ho4.block k (by have := (hown.lt k hk).1; omega) (hown.lt k hk).2)
              exact ⟨h4.same (fun k hk => (below_alloc w4 _).block k (h4.lt k hk).2), by have h1 := HST.out.2.1; have h2 := ho4.size; have h3 := (below_alloc w4 (.cells #[u] 22)).size; omega⟩
            rcases hD with ⟨a, p, u, ho, h1, hu, hs4, ho4⟩ | ⟨ho, u, p, h1, hu, hs4, ho4⟩
            · simp only [Bool.false_eq_true, if_false] at ho
              refine ⟨u, h1, ?_, fun w6 vl2 h2 h3 _ => ?_, key u ho4⟩
              · obtain ⟨x1, x2, hx, _⟩ := hu.reads; exact ⟨_, _, _, hx⟩
              · exact qrT_next HST.out.1 HST.out.2.1 HST.out.2.2.1 hlt (fun hp k hk => by have := HVB.out hp k hk; have := HGe.out.2; omega) HST.out.2.2.2.1 HST.out.2.2.2.2.1 HST.out.2.2.2.2.2 ho hs4 ho4 (hu.mono HST.out.2.1) h2 h3
            · simp only [Bool.false_eq_true, if_false] at ho
              refine ⟨u, h1, ⟨_, _, _, hu⟩, fun w6 vl2 h2 h3 h7 => ?_, key u ho4⟩
              obtain ⟨a1, m1, c1, hvl2⟩ := h7
              have hrow : ∀ k, (Value.slice al nl cl).ownBlock = some k → g + 1 ≤ k := fun k hk => (HST.out.2.2.2.2.1.lt k hk).1
              have hs4' : g + 1 ≤ w4.heap.size := Nat.le_trans HST.out.2.1 ho4.size
              have b45 : Below (g + 1) w4 (w4.alloc (.cells #[u] 22)) := (below_alloc w4 _).mono hs4'
              have b56 : Below (g + 1) (w4.alloc (.cells #[u] 22)) w6 := (Below.refl _ _).grown h3 (Nat.le_trans hs4' b45.size) hrow
              refine ⟨(HST.out.1.trans (ho4.below (Nat.le_refl _) (by have := HST.out.2.1; omega))).trans ((b45.trans b56).mono (by omega)), Nat.le_trans hs4' (b45.trans b56).size, Or.inr ⟨p, a1, m1, c1, hs4.others (fun hp k hk => by have := HVB.out hp k hk; have := HGe.out.2; omega) (b45.trans b56), ?_, hvl2⟩⟩
              rw [HST.out.2.2.2.1, show n - k = (n - (k + 1)) + 1 by omega, readAll, ho]
              rfl
          obtain ⟨hst, hown5, hsz5⟩ := hstep
          obtain ⟨au, nu, cu, rfl⟩ := hshape
          have HST2 : Hid (∀ w6 vl2, OwnV w6 (g + 1) 22 vl2 (vs ++ [(Value.slice au nu cu)]) → (w4.alloc (.cells #[(Value.slice au nu cu)] 22)).grownBy w6 (Value.slice al nl cl).ownBlock → (∃ a1 m1 c1, vl2 = Value.slice a1 m1 c1) → QrInvT g (.slice ad m cap) l w n r (k + 1) vl2 w6) := hst
          have HO5 : Hid (OwnV (w4.alloc (.cells #[(Value.slice au nu cu)] 22)) (g + 1) 22 (.slice al nl cl) vs) := hown5
          have HSZ5 : Hid (g + 1 ≤ (w4.alloc (.cells #[(Value.slice au nu cu)] 22)).heap.size) := hsz5
          have HU1 : Hid ((Value.slice au nu cu).oneCell' = true) := rfl
          have HU5 : Hid ((w4.alloc (.cells #[(Value.slice au nu cu)] 22)).cell? ⟨w4.heap.size, 0, none⟩ = some (Value.slice au nu cu)) := (Blk.new w4 [(Value.slice au nu cu)] 22).cell 0
          clear hst hown5 hsz5 hD HST HC
          go_wp2_with (at_builtin; refine wpList_law rfl (wp_appendT (.tmp 25) (.tmp 28) rfl (g + 1) _ (Value.slice au nu cu) vs w4.heap.size rfl HO5.out rfl HU5.out HU1.out HVL.out HSZ5.out ?_); intro vl2 w6 hown6 hgrow6)
          obtain ⟨a6, c6, hv6, _⟩ := hown6.slice
          have HJ : Hid (QrInvT g (.slice ad m cap) l w n r (k + 1) vl2 w6) := HST2.out w6 vl2 hown6 hgrow6 ⟨_, _, _, hv6⟩
          clear hown6 hgrow6 HST2 HO5 HU5 hv6
          go_wp2
          go_roundw
          case rel => exact ⟨k + 1, by go_num, Or.inl ⟨HJ.out, HMM2.out⟩⟩
          case measure => simp [intOf]; omega
        · have hkn' : k = n := by omega
          subst hkn'
          obtain ⟨al, cl, hvl, _⟩ := hown.slice
          have HF1 : Hid (pos = l.length → ∀ q, ListRead 22 GoodT (readList readText l) w (.returned (.tuple #[u5, .int .i64 0])) (wr.drewN q)) := fun hp q => by
            refine Or.inl ⟨xs, u5, vs, ?_, rfl, hown.mono (by have := HGe.out.2; omega), ⟨hgood.1, fun j x hj => (hgood.2 j x hj).mono (by have := HGe.out.2; omega)⟩, below_drewN (hb.mono HGe.out.2) q⟩
            rw [readList_many, ← HMM.out, hm, heq, Nat.sub_self, hp, List.drop_length]
            simp [readAll]
          have HF2 : Hid (pos ≠ l.length → ∀ q, ListRead 22 GoodT (readList readText l) w (.returned (.tuple #[.slice none 0 0, .int .i64 3])) (wr.drewN q)) := fun hp q => by
            refine Or.inr ⟨?_, rfl, below_drewN (hb.mono HGe.out.2) q⟩
            rw [readList_many, ← HMM.out, hm, heq, Nat.sub_self]
            simp only [readAll, Option.map_some, List.append_nil]
            cases hd : l.drop pos with
            | nil =>
              have := congrArg List.length hd
              rw [List.length_drop] at this
              have := hS.le
              simp at *
              omega
            | cons x y => rfl
          have HDn := indone_any g (.slice ad m cap) l pos false wr hS
          replace HDn : Hid _ := HDn
          obtain ⟨nl, HNL⟩ : ∃ x : Nat, Hid (x = vs.length) := ⟨_, rfl⟩
          rw [← HNL.out] at hvl
          clear hb hsz hlen heq hown hgood hm hS bad
          subst hvl
          go_wp2_with fail
          refine Calls.mono HDn.out ?_
          rintro e w' ⟨rfl, q, rfl⟩
          by_cases hp : pos = l.length
          · have HF : Hid (ListRead 22 GoodT (readList readText l) w (.returned (.tuple #[.slice al nl cl, .int .i64 0])) (wr.drewN q)) := HF1.out hp q
            simp only [hp, decide_true, Bool.not_false, Bool.and_self]
            clear HF1 HF2 HDn
            go_wp2
            go_ret2
            exact HF.out
          · have HF : Hid (ListRead 22 GoodT (readList readText l) w (.returned (.tuple #[.slice none 0 0, .int .i64 3])) (wr.drewN q)) := HF2.out hp q
            simp only [hp, decide_false, Bool.and_false]
            clear HF1 HF2 HDn
            go_wp2
            go_ret2
            exact HF.out
      · have c2 : wr.cell? ⟨g, 2, none⟩ = some (.bool true) := hS.blk.cell 2
        have HF := bad pos hS (by rw [hm, hno]) hb ⟨a1, m1, c1, rfl⟩
        have HDn := indone_any g (.slice ad m cap) l pos true wr hS
        replace HDn : Hid _ := HDn
        clear hb hsz hm hS bad hno
        by_cases hlt : k < n
        · go_wp2_with fail
          refine Calls.mono HDn.out ?_
          rintro e w' ⟨rfl, q, rfl⟩
          simp only [Bool.not_true, Bool.false_and]
          go_wp2
          go_ret2
          exact HF.out q
        · go_wp2_with fail
          refine Calls.mono HDn.out ?_
          rintro e w' ⟨rfl, q, rfl⟩
          simp only [Bool.not_true, Bool.false_and]
          go_wp2
          go_ret2
          exact HF.out q
    · have c2 : wr.cell? ⟨g, 2, none⟩ = some (.bool true) := hs.blk.cell 2
      have HF := bad p hs hm hb ⟨_, _, _, rfl⟩
      have HDn := indone_any g (.slice ad m cap) l p true wr hs
      replace HDn : Hid _ := HDn
      clear hb hsz hm hs bad
      go_wp2_with fail
      refine Calls.mono HDn.out ?_
      rintro e w' ⟨rfl, q, rfl⟩
      simp only [Bool.not_true, Bool.false_and]
      go_wp2
      go_ret2
      exact HF.out q
end Go.Proofs.Ytdhglbemkaogiaa

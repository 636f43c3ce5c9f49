/- The reference's four reading functions: where a reading stands, what it comes to, the walk of its ReadBinding. -/
import Derived.Test.YtldbcglakeggaaaRecPf
namespace Go.Proofs.Ytldbcglakeggaaa
open Go.RowKit
/-- a was read up to p, or the reader is bad -/
def Mg {α : Type} (o : Option (α × List (BitVec 8))) (b0 b1 : Bool) (a : α) (l : List (BitVec 8)) (p : Nat) : Prop := (b1 = false ∧ b0 = false ∧ o = some (a, l.drop p)) ∨ (b1 = true ∧ (b0 = true ∨ o = none))
theorem mg_of {α : Type} {g : Nat} {v : Value} {l : List (BitVec 8)} {w : World} {b0 : Bool} {o : Option (α × List (BitVec 8))} {R : α → World → Value → Prop} {Z : Value → Prop} {e : Ending} {w' : World} (z : α) (h : InDoes g v l w (if b0 then none else o) R Z e w') (hz : ∀ u, Z u → R z w' u) :
    ∃ a p u b1, e = .returned u ∧ R a w' u ∧ InS w' g v l p b1 ∧ Only g w w' ∧ Mg o b0 b1 a l p := by
  rcases h with ⟨a, p, u, ho, rfl, hu, hs, hon⟩ | ⟨ho, u, p, rfl, hu, hs, hon⟩
  · refine ⟨a, p, u, false, rfl, hu, hs, hon, Or.inl ⟨rfl, ?_⟩⟩
    cases b0 with
    | true => simp at ho
    | false => exact ⟨rfl, by simpa using ho⟩
  · refine ⟨z, p, u, true, rfl, hz u hu, hs, hon, Or.inr ⟨rfl, ?_⟩⟩
    cases b0 with
    | true => exact Or.inl rfl
    | false => exact Or.inr (by simpa using ho)
theorem intext_m (g : Nat) (v : Value) (l : List (BitVec 8)) (pos : Nat) (b0 : Bool) (w : World) (h : InS w g v l pos b0) (hl : l.length ≤ 9223372036854775807) :
    Calls Try.prog 47 #[.pointer (some ⟨g, 0, none⟩)] w fun e w' => ∃ a p u b1, e = .returned u ∧ OwnB w' w.heap.size u a ∧ InS w' g v l p b1 ∧ Only g w w' ∧ Mg (readText (l.drop pos)) b0 b1 a l p :=
  (intext_any g v l pos b0 w h hl).mono fun _ _ hh => mg_of [] hh (fun _ hu => by subst hu; exact OwnB.nil _ _)
theorem innum_m (g : Nat) (v : Value) (l : List (BitVec 8)) (pos : Nat) (b0 : Bool) (w : World) (h : InS w g v l pos b0) (hl : l.length ≤ 9223372036854775807) :
    Calls Try.prog 48 #[.pointer (some ⟨g, 0, none⟩)] w fun e w' => ∃ (a : Nat) (p : Nat) (u : Value) (b1 : Bool), e = .returned u ∧ u = .int .u64 (a : Int) ∧ InS w' g v l p b1 ∧ Only g w w' ∧ Mg (readNum (l.drop pos)) b0 b1 a l p :=
  (innum_any g v l pos b0 w h hl).mono fun _ _ hh => mg_of 0 hh (fun _ hu => hu)
theorem indigest_m (g : Nat) (v : Value) (l : List (BitVec 8)) (pos : Nat) (b0 : Bool) (w : World) (h : InS w g v l pos b0) (hl : l.length ≤ 9223372036854775807) :
    Calls Try.prog 53 #[.pointer (some ⟨g, 0, none⟩)] w fun e w' => ∃ (a : List (BitVec 8)) (p : Nat) (u : Value) (b1 : Bool), e = .returned u ∧ u = .agg (cb a).toArray ∧ InS w' g v l p b1 ∧ Only g w w' ∧ Mg (cut 32 (l.drop pos)) b0 b1 a l p :=
  (indigest_any g v l pos b0 w h hl).mono fun _ _ hh => mg_of zb32 hh (fun _ hu => hu)
theorem incount_m (g : Nat) (v : Value) (l : List (BitVec 8)) (pos : Nat) (b0 : Bool) (w : World) (most : Nat) (hm : most < 9223372036854775808) (h : InS w g v l pos b0) (hl : l.length ≤ 9223372036854775807) :
    Calls Try.prog 52 #[.pointer (some ⟨g, 0, none⟩), .int .i64 (most : Int)] w fun e w' => ∃ (a : Nat) (p : Nat) (u : Value) (b1 : Bool), e = .returned u ∧ u = .int .i64 (a : Int) ∧ InS w' g v l p b1 ∧ Only g w w' ∧ Mg (readCount most (l.drop pos)) b0 b1 a l p :=
  (incount_any g v l pos b0 w most hm h hl).mono fun _ _ hh => mg_of 0 hh (fun _ hu => hu)
theorem nil_drop {l : List (BitVec 8)} {p : Nat} (h : l.drop p = [] ∨ p = l.length) (hp : p ≤ l.length) : p = l.length := by
  rcases h with h | h
  · have := congrArg List.length h
    simp at this
    omega
  · exact h
/-- where a reading of the reference stands: the result lies at the world's end, the reader behind it -/
structure Rf0 (w : World) (v : Value) (l : List (BitVec 8)) (p : Nat) (b : Bool) (t : TypeId) (z : List Value) (W : World) : Prop where
  inp : InS W (w.heap.size + 1) v l p b
  res : Blk W w.heap.size z t
  bel : Below w.heap.size w W
  vb : 0 < l.length → ∀ k, v.ownBlock = some k → k < w.heap.size
theorem Rf0.sz {w W : World} {v : Value} {l : List (BitVec 8)} {p : Nat} {b : Bool} {t : TypeId} {z : List Value} (h : Rf0 w v l p b t z W) : w.heap.size + 1 < W.heap.size := h.inp.blk.lt
theorem Rf0.start {w : World} {v : Value} {l : List (BitVec 8)} {t : TypeId} {z : List Value} (hr : Reads w v l) : Rf0 w v l 0 false t z ((w.alloc (.cells z.toArray t)).alloc (.cells [v, .int .i64 0, .bool false].toArray 77)) :=
  have hb : Below w.heap.size w ((w.alloc (.cells z.toArray t)).alloc (.cells [v, .int .i64 0, .bool false].toArray 77)) := (below_alloc w _).trans ((below_alloc _ _).mono (by simp))
  ⟨⟨Blk.new_at (by simp) _ _, hr.below hb, Nat.zero_le _⟩, (Blk.new w z t).below (below_alloc _ _) (by simp), hb, hr.inB⟩
theorem Rf0.call {w W W' : World} {v : Value} {l : List (BitVec 8)} {p p' : Nat} {b b' : Bool} {t : TypeId} {z : List Value} (h : Rf0 w v l p b t z W) (hs : InS W' (w.heap.size + 1) v l p' b') (ho : Only (w.heap.size + 1) W W') : Rf0 w v l p' b' t z W' :=
  ⟨hs, h.res.only ho (by omega), h.bel.trans (ho.below (by omega) h.bel.size), h.vb⟩
theorem Rf0.next {w W W' : World} {v : Value} {l : List (BitVec 8)} {p : Nat} {b : Bool} {t : TypeId} {z : List Value} (h : Rf0 w v l p b t z W) (hb : Below (w.heap.size + 2) W W') : Rf0 w v l p b t z W' :=
  ⟨h.inp.others (fun hp k hk => by have := h.vb hp k hk; omega) hb, h.res.below hb (by omega), h.bel.trans (hb.mono (by omega)), h.vb⟩
theorem Rf0.at {w W W' : World} {v : Value} {l : List (BitVec 8)} {p g : Nat} {b : Bool} {t : TypeId} {z : List Value} (h : Rf0 w v l p b t z W) (ha : At g W W') (hg : w.heap.size + 1 < g) : Rf0 w v l p b t z W' :=
  ⟨⟨h.inp.blk.at ha (by omega), h.inp.byt.at ha (fun hp j hj => by have := h.vb hp j hj; omega), h.inp.le⟩, h.res.at ha (by omega), ⟨ha.os.trans h.bel.os, ha.tape.trans h.bel.tape, ha.output.trans h.bel.output, by rw [ha.size]; exact h.bel.size, fun k hk => (ha.block k (by omega)).trans (h.bel.block k hk)⟩, h.vb⟩
/-- the same, with the thing's cells cs at block g -/
structure Rf (w : World) (g : Nat) (v : Value) (l : List (BitVec 8)) (p : Nat) (b : Bool) (t : TypeId) (z cs : List Value) (W : World) : Prop where
  st : Rf0 w v l p b t z W
  thg : Blk W g cs t
  lt : w.heap.size + 1 < g
theorem Rf.call {w W W' : World} {v : Value} {l : List (BitVec 8)} {g p p' : Nat} {b b' : Bool} {t : TypeId} {z cs : List Value} (h : Rf w g v l p b t z cs W) (hs : InS W' (w.heap.size + 1) v l p' b') (ho : Only (w.heap.size + 1) W W') : Rf w g v l p' b' t z cs W' :=
  ⟨h.st.call hs ho, h.thg.only ho (by have := h.lt; omega), h.lt⟩
theorem Rf.at {w W W' : World} {v : Value} {l : List (BitVec 8)} {g p : Nat} {b : Bool} {t : TypeId} {z cs cs' : List Value} (h : Rf w g v l p b t z cs W) (ha : At g W W') (hb : Blk W' g cs' t) : Rf w g v l p b t z cs' W' :=
  ⟨h.st.at ha h.lt, hb, h.lt⟩
/-- the thing is laid -/
theorem Rf0.lay {w W : World} {v : Value} {l : List (BitVec 8)} {p : Nat} {b : Bool} {t : TypeId} {z y cs : List Value} (h : Rf0 w v l p b t z W) (hc : cs.length = y.length) : Rf w W.heap.size v l p b t z cs ((W.alloc (.cells y.toArray t)).setCells W.heap.size 0 cs) :=
  ⟨(h.next ((below_alloc W _).mono h.sz)).at (At.setCells _ _ _ (At.refl _ _)) h.sz, (Blk.new W y t).whole cs hc, h.sz⟩
theorem Rf.drewN {w W : World} {v : Value} {l : List (BitVec 8)} {g p : Nat} {b : Bool} {t : TypeId} {z cs : List Value} (h : Rf w g v l p b t z cs W) (k : Nat) : Rf w g v l p b t z cs (W.drewN k) :=
  ⟨⟨⟨h.st.inp.blk, h.st.inp.byt, h.st.inp.le⟩, h.st.res, below_drewN h.st.bel k, h.st.vb⟩, h.thg, h.lt⟩
theorem OwnB.only1 {w w' : World} {base gi : Nat} {v : Value} {l : List (BitVec 8)} (h : OwnB w base v l) (ho : Only gi w w') (hg : gi < base) : OwnB w' base v l := h.keep fun k h1 h2 => ho.block k (by omega) h2
theorem OwnB.at1 {w w' : World} {base g : Nat} {v : Value} {l : List (BitVec 8)} (h : OwnB w base v l) (ha : At g w w') (hg : g < base) : OwnB w' base v l := h.keep fun k h1 _ => ha.block k (by omega)
/-- what is handed back -/
theorem rf_yes {α : Type} {K : Kd α} (hK : KdOk K) {w W : World} {v : Value} {l : List (BitVec 8)} {g p : Nat} {b : Bool} {cs : List Value} {a : α} {o : Option α} (h : Rf w g v l p b K.ty K.z cs W) (ho : o = some a) (hG : K.G W (w.heap.size + 2) a cs) :
    RdRes K w o (.returned (.tuple #[.agg cs.toArray, .int .i64 0])) (W.setCells w.heap.size 0 cs) :=
  have ha : At w.heap.size W (W.setCells w.heap.size 0 cs) := At.setCells _ _ _ (At.refl _ _)
  ⟨⟨ha.os.trans h.st.bel.os, ha.tape.trans h.st.bel.tape, ha.output.trans h.st.bel.output, by rw [ha.size]; exact h.st.bel.size, fun k hk => (ha.block k (by omega)).trans (h.st.bel.block k hk)⟩, Or.inl ⟨a, cs, ho, rfl, hK.mono (hK.same hG fun k h1 _ => ha.block k (by omega)) (by omega)⟩⟩
theorem rf_no {α : Type} {K : Kd α} {w W : World} {v : Value} {l : List (BitVec 8)} {g p : Nat} {b : Bool} {cs : List Value} {o : Option α} (h : Rf w g v l p b K.ty K.z cs W) (ho : o = none) :
    RdRes K w o (.returned (.tuple #[.agg K.z.toArray, .int .i64 3])) (W.setCells w.heap.size 0 K.z) :=
  have ha : At w.heap.size W (W.setCells w.heap.size 0 K.z) := At.setCells _ _ _ (At.refl _ _)
  ⟨⟨ha.os.trans h.st.bel.os, ha.tape.trans h.st.bel.tape, ha.output.trans h.st.bel.output, by rw [ha.size]; exact h.st.bel.size, fun k hk => (ha.block k (by omega)).trans (h.st.bel.block k hk)⟩, Or.inr ⟨ho, rfl⟩⟩
theorem nil_dropI {l : List (BitVec 8)} {p : Nat} (hp : p ≤ l.length) : l.drop p = [] ↔ p = l.length := by
  rw [List.drop_eq_nil_iff]
  omega
theorem whole_drop {α : Type} {a : α} {l : List (BitVec 8)} {p : Nat} (hp : p ≤ l.length) : whole (some (a, l.drop p)) = if p = l.length then some a else none := by
  unfold whole
  by_cases h : p = l.length
  · rw [(nil_dropI hp).2 h, if_pos h]
  · rw [if_neg h]
    cases hd : l.drop p with
    | nil => exact absurd ((nil_dropI hp).1 hd) h
    | cons x y => rfl
theorem indigest_n (g : Nat) (v : Value) (l : List (BitVec 8)) (pos : Nat) (b0 : Bool) (w : World) (h : InS w g v l pos b0) (hl : l.length ≤ 9223372036854775807) :
    Calls Try.prog 53 #[.pointer (some ⟨g, 0, none⟩)] w fun e w' => ∃ (a : List (BitVec 8)) (p : Nat) (b1 : Bool), e = .returned (.agg (cb a).toArray) ∧ a.length = 32 ∧ InS w' g v l p b1 ∧ Only g w w' ∧ Mg (cut 32 (l.drop pos)) b0 b1 a l p := by
  refine (indigest_any g v l pos b0 w h hl).mono ?_
  rintro e w' (⟨a, p, u, ho, rfl, rfl, hs, hon⟩ | ⟨ho, u, p, rfl, rfl, hs, hon⟩)
  · cases b0 with
    | true => simp at ho
    | false =>
      have ho' : cut 32 (l.drop pos) = some (a, l.drop p) := by simpa using ho
      exact ⟨a, p, false, rfl, cut32_len ho', hs, hon, Or.inl ⟨rfl, rfl, ho'⟩⟩
  · refine ⟨zb32, p, true, rfl, rfl, hs, hon, Or.inr ⟨rfl, ?_⟩⟩
    cases b0 with
    | true => exact Or.inl rfl
    | false => exact Or.inr (by simpa using ho)
theorem Mg.then {α β : Type} {g : List (BitVec 8) → Option (α × List (BitVec 8))} {h : α → List (BitVec 8) → Option (β × List (BitVec 8))} {l : List (BitVec 8)} {p0 p1 p2 : Nat} {b0 b1 b2 : Bool} {a : α} {c : β} (h1 : Mg (g (l.drop p0)) b0 b1 a l p1) (h2 : Mg (h a (l.drop p1)) b1 b2 c l p2) : Mg (thenR g h (l.drop p0)) b0 b2 (a, c) l p2 := by
  rcases h2 with ⟨rfl, rfl, h2⟩ | ⟨rfl, h2⟩
  · rcases h1 with ⟨_, rfl, h1⟩ | ⟨h1, _⟩
    · exact Or.inl ⟨rfl, rfl, thenR_some h1 h2⟩
    · cases h1
  · rcases h1 with ⟨rfl, rfl, h1⟩ | ⟨rfl, h1⟩
    · rcases h2 with h2 | h2
      · cases h2
      · exact Or.inr ⟨rfl, Or.inr (thenR_no h1 h2)⟩
    · rcases h1 with rfl | h1
      · exact Or.inr ⟨rfl, Or.inl rfl⟩
      · exact Or.inr ⟨rfl, Or.inr (thenR_none h1)⟩
theorem mg_none {α : Type} {z : α} {l : List (BitVec 8)} {p : Nat} {b : Bool} : Mg (noneR z (l.drop p)) b b z l p := by
  cases b with
  | true => exact Or.inr ⟨rfl, Or.inl rfl⟩
  | false => exact Or.inl ⟨rfl, rfl, rfl⟩
/-- what is read, if it may be -/
def onlyIf {α : Type} (c : α → Bool) (o : Option (α × List (BitVec 8))) : Option (α × List (BitVec 8)) :=
  match o with
  | none => none
  | some (a, r) => if c a then some (a, r) else none
theorem mg_whole {α : Type} {o : Option (α × List (BitVec 8))} {l : List (BitVec 8)} {p : Nat} {b : Bool} {a : α} (h : Mg o false b a l p) (hp : p ≤ l.length) (c : α → Bool) : whole (onlyIf c o) = if (!b && decide (p = l.length)) && c a then some a else none := by
  rcases h with ⟨rfl, _, h⟩ | ⟨rfl, h⟩
  · rw [h]
    unfold onlyIf
    simp only
    cases hc : c a with
    | true =>
      rw [if_pos rfl, whole_drop hp]
      by_cases hq : p = l.length <;> simp [hq]
    | false => simp [whole]
  · rcases h with h | h
    · cases h
    · rw [h]
      simp [onlyIf, whole]
theorem mg_good {α : Type} {o : Option (α × List (BitVec 8))} {l : List (BitVec 8)} {p : Nat} {b : Bool} {a : α} (h : Mg o false b a l p) (hb : b = false) : o = some (a, l.drop p) := by
  rcases h with ⟨_, _, h⟩ | ⟨h, _⟩
  · exact h
  · rw [hb] at h; cases h
theorem onlyIf_true {α : Type} (o : Option (α × List (BitVec 8))) : onlyIf (fun _ => true) o = o := by
  cases o with
  | none => rfl
  | some p => rfl
theorem bindS_R (l : List (BitVec 8)) : bindS l = onlyIf (fun a => decide (chk a.1 a.2.1 = 0)) (bindR l) := by
  unfold bindS bindR nkS thenR onlyIf
  cases h1 : readText l with
  | none => rfl
  | some p =>
    obtain ⟨nm, r⟩ := p
    simp only
    cases h2 : readText r with
    | none => rfl
    | some p =>
      obtain ⟨ky, r2⟩ := p
      simp only
      by_cases hc : chk nm ky = 0
      · rw [if_pos hc]
        simp only
        cases h3 : readNum r2 with
        | none => rfl
        | some p => simp [hc]
      · rw [if_neg hc]
        simp only
        cases h3 : readNum r2 with
        | none => rfl
        | some p => simp [hc]
theorem reqS_R (l : List (BitVec 8)) : reqS l = onlyIf (fun a => decide (1 ≤ a.1) && decide (chk a.2.1 a.2.2.1 = 0)) (requestR l) := by
  unfold reqS requestR nkS thenR onlyIf
  cases h1 : readCount 2 l with
  | none => rfl
  | some p =>
    obtain ⟨k, r⟩ := p
    simp only
    by_cases hk : k < 1
    · rw [if_pos hk]
      have hk2 : ¬ (1 ≤ k) := by omega
      cases h2 : readText r with
      | none => rfl
      | some p =>
        simp only
        cases h3 : readText p.2 with
        | none => rfl
        | some q =>
          simp only
          cases h4 : authR k q.2 with
          | none => rfl
          | some t => simp [hk2]
    · rw [if_neg hk]
      have hk2 : 1 ≤ k := by omega
      cases h2 : readText r with
      | none => rfl
      | some p =>
        obtain ⟨nm, r⟩ := p
        simp only
        cases h3 : readText r with
        | none => rfl
        | some q =>
          obtain ⟨ky, r2⟩ := q
          simp only
          by_cases hc : chk nm ky = 0
          · rw [if_pos hc]
            simp only
            cases h4 : authR k r2 with
            | none => rfl
            | some t => simp [hc, hk2]
          · rw [if_neg hc]
            simp only
            cases h4 : authR k r2 with
            | none => rfl
            | some t => simp [hc]
end Go.Proofs.Ytldbcglakeggaaa

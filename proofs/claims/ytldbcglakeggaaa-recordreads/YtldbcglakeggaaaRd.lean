/- The walks of the reader's Fail and take: bytes from their front on; what is thrown. -/
import Derived.Test.YtldbcglakeggaaaTexts
import Derived.Defers
import Derived.Recover
import Derived.Laws.Pointers
namespace Go.Proofs.Ytldbcglakeggaaa
open Go.RowKit
/-- the reader at gr, of the input at gi, which still has the bytes l -/
structure Rd (w : World) (gr gi : Nat) (v : Value) (l : List (BitVec 8)) : Prop where
  rd : Blk w gr [.pointer (some ⟨gi, 0, none⟩)] 104
  inp : Blk w gi [v, .bool true, .bool false] 102
  byt : Reads w v l
/-- what a reader throws -/
def thrown (gi : Nat) : Ending := .panicked [{ v := .iface 100 (.pointer (some ⟨gi, 0, none⟩)), recovered := false }]
structure Threw (gi : Nat) (w : World) (e : Ending) (w' : World) : Prop where
  eq : e = thrown gi
  bad : ∃ v, Blk w' gi [v, .bool true, .bool true] 102 ∧ ∃ ad n c, v = .slice ad n c
  onl : Only gi w w'
theorem Rd.ne {w : World} {gr gi : Nat} {v : Value} {l : List (BitVec 8)} (h : Rd w gr gi v l) : gr ≠ gi := by
  intro he
  have h1 := h.rd
  have h2 := h.inp
  subst he
  unfold Blk at h1 h2
  rw [h1] at h2
  simp at h2
theorem Rd.slice {w : World} {gr gi : Nat} {v : Value} {l : List (BitVec 8)} (h : Rd w gr gi v l) : ∃ ad c, v = .slice ad l.length c := by
  obtain ⟨ad, c, hv, _⟩ := h.byt
  exact ⟨ad, c, hv⟩
/-- no byte lies in a block of a slice and two bools -/
theorem Blk.apart {w : World} {gi : Nat} {u : Value} {x y : Bool} {t : TypeId} {l : List (BitVec 8)} (hb : Blk w gi [u, .bool x, .bool y] t) (hu : ∃ ad n c, u = .slice ad n c) : ∀ b off, 0 < l.length → (∀ j, j < l.length → w.cell? ⟨b, off + j, none⟩ = some (.int .u8 ((l.getD j 0).toNat : Int))) → b ≠ gi := by
  intro b off hp hc he
  subst he
  have h0 := hc 0 hp
  rw [hb.cell] at h0
  obtain ⟨ad, n, c, rfl⟩ := hu
  match off, h0 with
  | 0, h0 => simp at h0
  | 1, h0 => simp at h0
  | 2, h0 => simp at h0
  | k + 3, h0 => simp at h0
theorem Reads.only {w w' : World} {gi : Nat} {v u : Value} {x y : Bool} {t : TypeId} {l : List (BitVec 8)} (h : Reads w v l) (hb : Blk w gi [u, .bool x, .bool y] t) (hu : ∃ ad n c, u = .slice ad n c) (ho : Only gi w w') : Reads w' v l := by
  have ha := hb.apart (l := l) hu
  obtain ⟨ad, cap, rfl, hc, hn, hx⟩ := h
  refine ⟨ad, cap, rfl, hc, hn, fun hp => ?_⟩
  obtain ⟨b, off, h1, h2⟩ := hx hp
  exact ⟨b, off, h1, fun j hj => ho.cell (p := ⟨b, off + j, none⟩) (ha b off hp h2) (h2 j hj)⟩
theorem Reads.take {w : World} {ad : Option Addr} {n c : Nat} {l : List (BitVec 8)} (h : Reads w (.slice ad n c) l) (k : Nat) (hk : k ≤ l.length) : Reads w (.slice ad k c) (l.take k) := by
  obtain ⟨ad', cap, hv, hc, hn, hx⟩ := h
  simp only [Value.slice.injEq] at hv
  obtain ⟨rfl, rfl, rfl⟩ := hv
  have hl : (l.take k).length = k := by rw [List.length_take]; omega
  refine ⟨ad, c, by rw [hl], by omega, hn, fun hp => ?_⟩
  rw [hl] at hp ⊢
  obtain ⟨b, off, h1, h2⟩ := hx (by omega)
  refine ⟨b, off, h1, fun j hj => ?_⟩
  rw [h2 j (by omega)]
  simp [hj]
theorem Reads.drop {w : World} {ad : Addr} {n c : Nat} {l : List (BitVec 8)} (h : Reads w (.slice (some ad) n c) l) (k : Nat) (hk : k ≤ l.length) (o : Addr) (ho : k < l.length → o = ad.add k) : Reads w (.slice (some o) (n - k) (c - k)) (l.drop k) := by
  obtain ⟨ad', cap, hv, hc, hn, hx⟩ := h
  simp only [Value.slice.injEq] at hv
  obtain ⟨rfl, rfl, rfl⟩ := hv
  have hl : (l.drop k).length = l.length - k := by rw [List.length_drop]
  refine ⟨_, c - k, by rw [hl], by omega, (fun h => by cases h), fun hp => ?_⟩
  rw [hl] at hp ⊢
  obtain ⟨b', off', h1, h2⟩ := hx (by omega)
  simp only [Option.some.injEq] at h1
  subst h1
  have := ho (by omega)
  rw [Addr.add_mid] at this
  subst this
  refine ⟨b', _, rfl, fun j hj => ?_⟩
  rw [Nat.add_assoc, h2 (k + j) (by omega)]
  simp
theorem Rd.next {w : World} {gr gi : Nat} {v : Value} {l : List (BitVec 8)} (h : Rd w gr gi v l) (v2 : Value) (l2 : List (BitVec 8)) (h2 : Reads w v2 l2) : Rd (w.setCell ⟨gi, 0, none⟩ v2) gr gi v2 l2 := by
  obtain ⟨ad, c, hv⟩ := h.slice
  exact ⟨h.rd.other _ _ (by exact h.ne), h.inp.set 0 v2, h2.only h.inp ⟨ad, _, c, hv⟩ ((Only.refl _ _).setCell _ _)⟩
set_option maxHeartbeats 400000 in
theorem cfail_any (gr gi : Nat) (v : Value) (l : List (BitVec 8)) (w : World) (h : Rd w gr gi v l) :
    Calls Try.prog 67 #[.pointer (some ⟨gr, 0, none⟩)] w fun e w' => e = thrown gi ∧ w' = w.setCell ⟨gi, 2, none⟩ (.bool true) := by
  have c1 : w.cell? ⟨gr, 0, none⟩ = some (.pointer (some ⟨gi, 0, none⟩)) := h.rd.cell 0
  have c2 : w.cell? ⟨gi, 1, none⟩ = some (.bool true) := h.inp.cell 1
  have c3 : w.cell? ⟨gi, 2, none⟩ = some (.bool false) := h.inp.cell 2
  have f3 : w.frozen? ⟨gi, 2, none⟩ = false := h.inp.frozen 2
  have hne := h.ne
  unfold thrown
  clear h
  go_enter Try.func67, Try.ntmps67
  go_wp2
  exact ⟨rfl, rfl, rfl⟩
theorem Rd.threw {w : World} {gr gi : Nat} {v : Value} {l : List (BitVec 8)} (h : Rd w gr gi v l) : Threw gi w (thrown gi) (w.setCell ⟨gi, 2, none⟩ (.bool true)) := by
  obtain ⟨ad, c, hv⟩ := h.slice
  exact ⟨rfl, ⟨v, h.inp.set 2 (.bool true), ad, _, c, hv⟩, (Only.refl _ _).setCell _ _⟩
theorem Threw.after {gi : Nat} {w w1 w2 : World} {e : Ending} (ho : Only gi w w1) (h : Threw gi w1 e w2) : Threw gi w e w2 := ⟨h.eq, h.bad, ho.trans h.onl⟩
/-- what a call of the reader's does: it hands out what was there, or throws -/
def RdDoes {α : Type} (gr gi : Nat) (v0 : Value) (w : World) (o : Option (α × List (BitVec 8))) (R : α → World → Value → Prop) (e : Ending) (w' : World) : Prop :=
  (∃ a r v v', o = some (a, r) ∧ e = .returned v ∧ R a w' v ∧ Rd w' gr gi v' r ∧ Only gi w w' ∧ v'.ownBlock = v0.ownBlock) ∨ (o = none ∧ Threw gi w e w')
def cut (n : Nat) (l : List (BitVec 8)) : Option (List (BitVec 8) × List (BitVec 8)) := if n ≤ l.length then some (l.take n, l.drop n) else none
set_option maxHeartbeats 400000 in
theorem take_any (gr gi n : Nat) (v : Value) (l : List (BitVec 8)) (w : World) (h : Rd w gr gi v l) (hn : n < 4611686018427387904) :
    Calls Try.prog 75 #[.pointer (some ⟨gr, 0, none⟩), .int .i64 (n : Int)] w fun e w' => RdDoes gr gi v w (cut n l) (fun a w' v => Reads w' v a) e w' := by
  have HR : Hid (Rd w gr gi v l) := h
  have c1 : w.cell? ⟨gr, 0, none⟩ = some (.pointer (some ⟨gi, 0, none⟩)) := h.rd.cell 0
  have c0 : w.cell? ⟨gi, 0, none⟩ = some v := h.inp.cell 0
  have c3 : w.cell? ⟨gi, 2, none⟩ = some (.bool false) := h.inp.cell 2
  have f0 : w.frozen? ⟨gi, 0, none⟩ = false := h.inp.frozen 0
  have hne := h.ne
  obtain ⟨ad, cap, rfl, hcap, hnn, hx⟩ := id h.byt
  obtain ⟨m, HM⟩ : ∃ m, Hid (m = l.length) := ⟨_, rfl⟩
  rw [← HM.out] at HR c0 hcap
  rw [← HM.out]
  clear hx h
  by_cases hlt : n ≤ m
  · have hng : ¬ ((m : Int) < (n : Int)) := by omega
    have HC : Hid (cut n l = some (l.take n, l.drop n)) := by show cut n l = _; unfold cut; rw [if_pos (by rw [← HM.out]; exact hlt)]
    have HK : Hid (n ≤ l.length) := by rw [← HM.out]; exact hlt
    have hfin : ∀ v1 v2, Reads w v1 (l.take n) → Reads w v2 (l.drop n) → v2.ownBlock = (Value.slice ad m cap).ownBlock → RdDoes gr gi (.slice ad m cap) w (cut n l) (fun a w' v => Reads w' v a) (.returned v1) (w.setCell ⟨gi, 0, none⟩ v2) := fun v1 v2 h1 h2 h3 =>
      Or.inl ⟨_, _, v1, v2, HC.out, rfl, h1.only HR.out.inp ⟨_, _, _, rfl⟩ ((Only.refl _ _).setCell _ _), HR.out.next v2 _ h2, (Only.refl _ _).setCell _ _, h3⟩
    have HF : Hid (∀ v1 v2, Reads w v1 (l.take n) → Reads w v2 (l.drop n) → v2.ownBlock = (Value.slice ad m cap).ownBlock → RdDoes gr gi (.slice ad m cap) w (cut n l) (fun a w' v => Reads w' v a) (.returned v1) (w.setCell ⟨gi, 0, none⟩ v2)) := hfin
    clear hfin
    cases ad with
    | none =>
      have hc0 := hnn rfl
      subst hc0
      have hm0 : m = 0 := by omega
      subst hm0
      have hn0 : n = 0 := by omega
      subst hn0
      clear hnn hng hlt hcap
      go_enter Try.func75, Try.ntmps75
      go_wp2
      go_ret
      have hl0 : l = [] := List.eq_nil_of_length_eq_zero HM.out.symm
      refine HF.out _ _ ?_ ?_ rfl
      · rw [List.take_zero]; exact ⟨none, 0, rfl, Nat.le_refl _, fun _ => rfl, fun h => by cases h⟩
      · rw [List.drop_zero, hl0]; exact ⟨none, 0, rfl, Nat.le_refl _, fun _ => rfl, fun h => by cases h⟩
    | some ad =>
      clear hnn
      by_cases hcn : cap = n
      · subst hcn
        have hmn : m = cap := by omega
        subst hmn
        have HZ : Hid (m - m = 0) := Nat.sub_self m
        go_enter Try.func75, Try.ntmps75
        go_wp2
        go_ret
        refine HF.out _ _ ((HR.out.byt).take m HK.out) ?_ rfl
        have := HR.out.byt.drop m HK.out ad (fun h => by have := HM.out; omega)
        rw [HZ.out] at this
        first | exact this | (rw [HZ.out]; exact this)
      · go_enter Try.func75, Try.ntmps75
        go_wp2
        go_ret
        exact HF.out _ _ ((HR.out.byt).take n HK.out) (HR.out.byt.drop n HK.out _ (fun _ => rfl)) (by simp [Value.ownBlock, Addr.add]; split <;> rfl)
  · have hgt : (m : Int) < (n : Int) := by omega
    have HC : Hid (cut n l = none) := by show cut n l = _; unfold cut; rw [if_neg (by rw [← HM.out]; exact hlt)]
    go_enter Try.func75, Try.ntmps75
    go_wp2_with fail
    refine (cfail_any gr gi (.slice ad m cap) l w HR.out).mono ?_
    rintro e w1 ⟨rfl, rfl⟩
    have hT := HR.out.threw
    obtain ⟨w1, HW1⟩ : ∃ x, Hid (x = w.setCell ⟨gi, 2, none⟩ (.bool true)) := ⟨_, rfl⟩
    rw [← HW1.out] at hT ⊢
    unfold thrown at hT ⊢
    go_wp2
    exact ⟨rfl, Or.inr ⟨HC.out, hT⟩⟩
end Go.Proofs.Ytldbcglakeggaaa

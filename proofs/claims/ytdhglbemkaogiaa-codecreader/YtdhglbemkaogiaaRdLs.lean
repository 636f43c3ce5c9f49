/- The walks of codec.readList, ReadNums and ReadTexts. -/
import Derived.Test.YtdhglbemkaogiaaRdlN
import Derived.Test.YtdhglbemkaogiaaRdlT
namespace Go.Proofs.Ytdhglbemkaogiaa
open Go.RowKit
theorem Does.mono {H : Nat} {A A' : List (BitVec 8) → World → Prop} {B B' : World → Prop} {w1 w2 : World} {e : Ending} (h : Does H A B w1 e w2) (hA : ∀ l, A l w2 → A' l w2) (hB : B w2 → B' w2) : Does H A' B' w1 e w2 := by
  refine ⟨h.size, h.kept, ?_⟩
  rcases h.way with ⟨h1, v2, l2, h2, h3⟩ | ⟨h1, h2, h3⟩
  · exact Or.inl ⟨h1, v2, l2, h2, hA l2 h3⟩
  · exact Or.inr ⟨h1, h2, hB h3⟩
theorem readList_many {α : Type} (g : List (BitVec 8) → Option (α × List (BitVec 8))) (b : List (BitVec 8)) : readList g b = match readMany g b with | some (l, []) => some l | _ => none := by
  unfold readList readMany readCount
  cases readNum b with
  | none => rfl
  | some p =>
    obtain ⟨n, r⟩ := p
    simp only
    by_cases h : n ≤ 4096
    · simp only [if_pos h]
      cases readAll g n r with
      | none => rfl
      | some p =>
        obtain ⟨l, t⟩ := p
        cases t <;> rfl
    · simp only [if_neg h]
/-- what a reading of a list comes to -/
def ListRead {α : Type} (el : TypeId) (Good : World → Nat → List Value → List α → Prop) (o : Option (List α)) (w : World) (e : Ending) (w' : World) : Prop :=
  (∃ xs v vs, o = some xs ∧ e = .returned (.tuple #[v, .int .i64 0]) ∧ OwnV w' w.heap.size el v vs ∧ Good w' w.heap.size vs xs ∧ Below w.heap.size w w') ∨
  (o = none ∧ e = .returned (.tuple #[.slice none 0 0, .int .i64 3]) ∧ Below w.heap.size w w')
theorem GoodN.up {w w' : World} {B B' : Nat} {vs : List Value} {ns : List Nat} (h : GoodN w B vs ns) : GoodN w' B' vs ns := h
theorem GoodT.up {w w' : World} {B B' : Nat} {vs : List Value} {ls : List (List (BitVec 8))} (h : GoodT w B vs ls) (hB : B' ≤ B) (hk : ∀ k, B ≤ k → k < w.heap.size → w'.heap[k]? = w.heap[k]?) : GoodT w' B' vs ls :=
  ⟨h.1, fun j u hj => ((h.2 j u hj).same (fun k hkk => hk k ((h.2 j u hj).own k hkk) ((h.2 j u hj).lt k hkk))).mono hB⟩
theorem OwnV.mono {w : World} {base B : Nat} {el : TypeId} {v : Value} {vs : List Value} (h : OwnV w base el v vs) (hB : B ≤ base) : OwnV w B el v vs := by
  obtain ⟨h1, h2⟩ := h
  refine ⟨h1, ?_⟩
  rcases h2 with h2 | ⟨g, cap, cur, rfl, hg, r⟩
  · exact Or.inl h2
  · exact Or.inr ⟨g, cap, cur, rfl, by omega, r⟩
theorem enter_rdlN1 : ∀ xs w, (callFunc 50 xs).run Try.prog w = .ok (.enter 50 xs) w := fun _ _ => by kernel_rfl
def ListMidN (l : List (BitVec 8)) (w w0 : World) (e : Ending) (w' : World) : Prop :=
  ∃ w2, Past (w.heap.size + 2) w2 w' ∧ ((∃ l2, (∃ ns, readMany readNum l = some (ns, l2) ∧ LsN w2 (w.heap.size + 1) (w.heap.size + 2 + 4) ns ∧ Fr (w.heap.size + 2 + 1) (w.heap.size + 1) (w.heap.size + 2) w0 w2) ∧ e = .returned (.int .i64 (if l2 = [] then 0 else 3))) ∨ ((readMany readNum l = none ∧ Fr (w.heap.size + 2 + 1) (w.heap.size + 1) (w.heap.size + 2) w0 w2) ∧ e = .returned (.int .i64 3)))
set_option maxRecDepth 100000 in
set_option maxHeartbeats 1000000 in
theorem rdlN_any (vb : Value) (l : List (BitVec 8)) (w : World) (hb : Reads w vb l) :
    Calls Try.prog 38 #[vb, .func (.func 39) #[] #[]] w fun e w' => ListRead 23 GoodN (readList readNum l) w e w' := by
  have hmf : ∀ (fn : Fn) (first cap : Array Value) (w : World), (Instr.makeFunc fn first cap).run Try.prog w = .ok (.func fn first cap) w := fun _ _ _ _ => rfl
  have hB1 : Below w.heap.size w ((w.alloc (.cells #[.func (.func 39) #[] #[]] 63)).alloc (.cells #[.slice none 0 0] 36)) := ((Below.refl _ _).alloc (Nat.le_refl _) _).alloc (by simp) _
  have g0 : Blk ((w.alloc (.cells #[.func (.func 39) #[] #[]] 63)).alloc (.cells #[.slice none 0 0] 36)) w.heap.size [.func (.func 39) #[] #[]] 63 := (Blk.new w [.func (.func 39) #[] #[]] 63).alloc _
  have g1 : Blk ((w.alloc (.cells #[.func (.func 39) #[] #[]] 63)).alloc (.cells #[.slice none 0 0] 36)) (w.heap.size + 1) [.slice none 0 0] 36 := Blk.new_at (w := w.alloc (.cells #[.func (.func 39) #[] #[]] 63)) (by simp) [.slice none 0 0] 36
  have hz : ((w.alloc (.cells #[.func (.func 39) #[] #[]] 63)).alloc (.cells #[.slice none 0 0] 36)).heap.size = w.heap.size + 2 := by simp
  have hR := hb.below hB1
  have HRd : Hid (Calls Try.prog 23 #[vb, .func (.func 50) #[] #[.pointer (some ⟨w.heap.size + 1, 0, none⟩), .pointer (some ⟨w.heap.size, 0, none⟩)]] ((w.alloc (.cells #[.func (.func 39) #[] #[]] 63)).alloc (.cells #[.slice none 0 0] 36)) fun e w' => ListMidN l w ((w.alloc (.cells #[.func (.func 39) #[] #[]] 63)).alloc (.cells #[.slice none 0 0] 36)) e w') := by
    unfold ListMidN
    rw [← hz]
    refine read_any 50 #[.pointer (some ⟨w.heap.size + 1, 0, none⟩), .pointer (some ⟨w.heap.size, 0, none⟩)] vb l _ _ _ hR enter_rdlN1 ?_
    intro w1 h1 h2 h3
    refine Calls.mono (rdlN1_any _ (w.heap.size + 1) w.heap.size vb l w1 h1 (by rw [hz]; omega) (by rw [hz]; omega) (by omega) h3 (g1.below h2 g1.lt) (g0.below h2 g0.lt)) ?_
    intro e w2 hD
    refine hD.mono (fun l2 hA => ?_) (fun hB => ?_)
    · obtain ⟨ns, a1, a2, a3⟩ := hA
      exact ⟨ns, a1, a2, ⟨a3.os.trans h2.os, a3.tape.trans h2.tape, a3.output.trans h2.output, Nat.le_trans h2.size a3.size, fun k k1 k2 k3 => (a3.block k (by omega) k2 k3).trans (h2.block k k1)⟩⟩
    · obtain ⟨a1, a3⟩ := hB
      exact ⟨a1, ⟨a3.os.trans h2.os, a3.tape.trans h2.tape, a3.output.trans h2.output, Nat.le_trans h2.size a3.size, fun k k1 k2 k3 => (a3.block k (by omega) k2 k3).trans (h2.block k k1)⟩⟩
  have HB1 : Hid (Below w.heap.size w ((w.alloc (.cells #[.func (.func 39) #[] #[]] 63)).alloc (.cells #[.slice none 0 0] 36))) := hB1
  have HZ : Hid (((w.alloc (.cells #[.func (.func 39) #[] #[]] 63)).alloc (.cells #[.slice none 0 0] 36)).heap.size = w.heap.size + 2) := hz
  clear hB1 g0 g1 hz hR hb
  go_enter Try.func38, Try.ntmps38
  go_wp2_with fail
  refine Calls.mono HRd.out ?_
  rintro e w' ⟨w2, hP, hway⟩
  have hbel : ∀ {gi gl : Nat}, Fr gi gl (w.heap.size + 2) ((w.alloc (.cells #[.func (.func 39) #[] #[]] 63)).alloc (.cells #[.slice none 0 0] 36)) w2 → w.heap.size ≤ gi → w.heap.size ≤ gl → Below w.heap.size w w' := fun h k1 k2 =>
    ⟨hP.os.trans (h.os.trans HB1.out.os), hP.tape.trans (h.tape.trans HB1.out.tape), hP.output.trans (h.output.trans HB1.out.output), by rw [hP.size]; exact Nat.le_trans HB1.out.size h.size, fun k hk => (hP.block k (Or.inl (by omega))).trans ((h.block k (by omega) (by omega) (by omega)).trans (HB1.out.block k hk))⟩
  rcases hway with ⟨l2, ⟨ns, hm, ⟨vl, vs, hbl, hown, hgd⟩, hfr⟩, rfl⟩ | ⟨⟨hm, hfr⟩, rfl⟩
  · by_cases h0 : l2 = []
    · subst h0
      rw [if_pos rfl]
      have hbl' : Blk w' (w.heap.size + 1) [vl] 36 := by unfold Blk at hbl ⊢; rw [hP.block _ (Or.inl (by omega))]; exact hbl
      have cl : w'.cell? ⟨w.heap.size + 1, 0, none⟩ = some vl := hbl'.cell 0
      obtain ⟨adl, ccl, hvl, _⟩ := hown.slice
      have HL : Hid (∀ v, v = vl → ListRead 23 GoodN (readList readNum l) w (.returned (.tuple #[v, .int .i64 0])) w') := by
        intro v hv
        subst hv
        refine Or.inl ⟨ns, v, vs, ?_, rfl, (hown.same (fun k hk => hP.block k (Or.inr (hown.lt k hk).1))).mono (by omega), hgd.up, hbel hfr (by omega) (by omega)⟩
        rw [readList_many, hm]
      obtain ⟨nl, HNL⟩ : ∃ x : Nat, Hid (x = vs.length) := ⟨_, rfl⟩
      rw [← HNL.out] at hvl
      subst hvl
      clear hbl hbl' hown hgd hfr hm hbel hP HRd
      go_wp2
      go_ret2
      exact HL.out _ rfl
    · rw [if_neg h0]
      have HL : Hid (ListRead 23 GoodN (readList readNum l) w (.returned (.tuple #[.slice none 0 0, .int .i64 3])) w') := by
        refine Or.inr ⟨?_, rfl, hbel hfr (by omega) (by omega)⟩
        rw [readList_many, hm]
        cases l2 with
        | nil => exact absurd rfl h0
        | cons x y => rfl
      clear hbl hown hgd hfr hm hbel hP HRd h0
      go_wp2
      go_ret2
      exact HL.out
  · have HL : Hid (ListRead 23 GoodN (readList readNum l) w (.returned (.tuple #[.slice none 0 0, .int .i64 3])) w') := by
      refine Or.inr ⟨?_, rfl, hbel hfr (by omega) (by omega)⟩
      rw [readList_many, hm]
    clear hfr hm hbel hP HRd
    go_wp2
    go_ret2
    exact HL.out
set_option maxHeartbeats 400000 in
theorem creadN_any (vb : Value) (l : List (BitVec 8)) (w : World) (hb : Reads w vb l) :
    Calls Try.prog 17 #[vb] w fun e w' => ListRead 23 GoodN (readList readNum l) w e w' := by
  have hmf : ∀ (fn : Fn) (first cap : Array Value) (w : World), (Instr.makeFunc fn first cap).run Try.prog w = .ok (.func fn first cap) w := fun _ _ _ _ => rfl
  go_enter Try.func17, Try.ntmps17
  go_wp2_with fail
  refine (rdlN_any vb l w hb).mono ?_
  rintro e w' (⟨xs, v, vs, h1, rfl, h2, h3, h4⟩ | ⟨h1, rfl, h2⟩)
  · have HL : Hid (ListRead 23 GoodN (readList readNum l) w (.returned (.tuple #[v, .int .i64 0])) w') := Or.inl ⟨xs, v, vs, h1, rfl, h2, h3, h4⟩
    clear h1 h2 h3 h4
    go_wp2
    go_ret2
    exact HL.out
  · have HL : Hid (ListRead 23 GoodN (readList readNum l) w (.returned (.tuple #[.slice none 0 0, .int .i64 3])) w') := Or.inr ⟨h1, rfl, h2⟩
    clear h1 h2
    go_wp2
    go_ret2
    exact HL.out
theorem enter_rdlT1 : ∀ xs w, (callFunc 51 xs).run Try.prog w = .ok (.enter 51 xs) w := fun _ _ => by kernel_rfl
def ListMidT (l : List (BitVec 8)) (w w0 : World) (e : Ending) (w' : World) : Prop :=
  ∃ w2, Past (w.heap.size + 2) w2 w' ∧ ((∃ l2, (∃ ns, readMany readText l = some (ns, l2) ∧ LsT w2 (w.heap.size + 1) (w.heap.size + 2 + 4) ns ∧ Fr (w.heap.size + 2 + 1) (w.heap.size + 1) (w.heap.size + 2) w0 w2) ∧ e = .returned (.int .i64 (if l2 = [] then 0 else 3))) ∨ ((readMany readText l = none ∧ Fr (w.heap.size + 2 + 1) (w.heap.size + 1) (w.heap.size + 2) w0 w2) ∧ e = .returned (.int .i64 3)))
set_option maxRecDepth 100000 in
set_option maxHeartbeats 1000000 in
theorem rdlT_any (vb : Value) (l : List (BitVec 8)) (w : World) (hb : Reads w vb l) :
    Calls Try.prog 41 #[vb, .func (.func 28) #[] #[]] w fun e w' => ListRead 22 GoodT (readList readText l) w e w' := by
  have hmf : ∀ (fn : Fn) (first cap : Array Value) (w : World), (Instr.makeFunc fn first cap).run Try.prog w = .ok (.func fn first cap) w := fun _ _ _ _ => rfl
  have hB1 : Below w.heap.size w ((w.alloc (.cells #[.func (.func 28) #[] #[]] 65)).alloc (.cells #[.slice none 0 0] 32)) := ((Below.refl _ _).alloc (Nat.le_refl _) _).alloc (by simp) _
  have g0 : Blk ((w.alloc (.cells #[.func (.func 28) #[] #[]] 65)).alloc (.cells #[.slice none 0 0] 32)) w.heap.size [.func (.func 28) #[] #[]] 65 := (Blk.new w [.func (.func 28) #[] #[]] 65).alloc _
  have g1 : Blk ((w.alloc (.cells #[.func (.func 28) #[] #[]] 65)).alloc (.cells #[.slice none 0 0] 32)) (w.heap.size + 1) [.slice none 0 0] 32 := Blk.new_at (w := w.alloc (.cells #[.func (.func 28) #[] #[]] 65)) (by simp) [.slice none 0 0] 32
  have hz : ((w.alloc (.cells #[.func (.func 28) #[] #[]] 65)).alloc (.cells #[.slice none 0 0] 32)).heap.size = w.heap.size + 2 := by simp
  have hR := hb.below hB1
  have HRd : Hid (Calls Try.prog 23 #[vb, .func (.func 51) #[] #[.pointer (some ⟨w.heap.size + 1, 0, none⟩), .pointer (some ⟨w.heap.size, 0, none⟩)]] ((w.alloc (.cells #[.func (.func 28) #[] #[]] 65)).alloc (.cells #[.slice none 0 0] 32)) fun e w' => ListMidT l w ((w.alloc (.cells #[.func (.func 28) #[] #[]] 65)).alloc (.cells #[.slice none 0 0] 32)) e w') := by
    unfold ListMidT
    rw [← hz]
    refine read_any 51 #[.pointer (some ⟨w.heap.size + 1, 0, none⟩), .pointer (some ⟨w.heap.size, 0, none⟩)] vb l _ _ _ hR enter_rdlT1 ?_
    intro w1 h1 h2 h3
    refine Calls.mono (rdlT1_any _ (w.heap.size + 1) w.heap.size vb l w1 h1 (by rw [hz]; omega) (by rw [hz]; omega) (by omega) h3 (g1.below h2 g1.lt) (g0.below h2 g0.lt)) ?_
    intro e w2 hD
    refine hD.mono (fun l2 hA => ?_) (fun hB => ?_)
    · obtain ⟨ns, a1, a2, a3⟩ := hA
      exact ⟨ns, a1, a2, ⟨a3.os.trans h2.os, a3.tape.trans h2.tape, a3.output.trans h2.output, Nat.le_trans h2.size a3.size, fun k k1 k2 k3 => (a3.block k (by omega) k2 k3).trans (h2.block k k1)⟩⟩
    · obtain ⟨a1, a3⟩ := hB
      exact ⟨a1, ⟨a3.os.trans h2.os, a3.tape.trans h2.tape, a3.output.trans h2.output, Nat.le_trans h2.size a3.size, fun k k1 k2 k3 => (a3.block k (by omega) k2 k3).trans (h2.block k k1)⟩⟩
  have HB1 : Hid (Below w.heap.size w ((w.alloc (.cells #[.func (.func 28) #[] #[]] 65)).alloc (.cells #[.slice none 0 0] 32))) := hB1
  have HZ : Hid (((w.alloc (.cells #[.func (.func 28) #[] #[]] 65)).alloc (.cells #[.slice none 0 0] 32)).heap.size = w.heap.size + 2) := hz
  clear hB1 g0 g1 hz hR hb
  go_enter Try.func41, Try.ntmps41
  go_wp2_with fail
  refine Calls.mono HRd.out ?_
  rintro e w' ⟨w2, hP, hway⟩
  have hbel : ∀ {gi gl : Nat}, Fr gi gl (w.heap.size + 2) ((w.alloc (.cells #[.func (.func 28) #[] #[]] 65)).alloc (.cells #[.slice none 0 0] 32)) w2 → w.heap.size ≤ gi → w.heap.size ≤ gl → Below w.heap.size w w' := fun h k1 k2 =>
    ⟨hP.os.trans (h.os.trans HB1.out.os), hP.tape.trans (h.tape.trans HB1.out.tape), hP.output.trans (h.output.trans HB1.out.output), by rw [hP.size]; exact Nat.le_trans HB1.out.size h.size, fun k hk => (hP.block k (Or.inl (by omega))).trans ((h.block k (by omega) (by omega) (by omega)).trans (HB1.out.block k hk))⟩
  rcases hway with ⟨l2, ⟨ns, hm, ⟨vl, vs, hbl, hown, hgd⟩, hfr⟩, rfl⟩ | ⟨⟨hm, hfr⟩, rfl⟩
  · by_cases h0 : l2 = []
    · subst h0
      rw [if_pos rfl]
      have hbl' : Blk w' (w.heap.size + 1) [vl] 32 := by unfold Blk at hbl ⊢; rw [hP.block _ (Or.inl (by omega))]; exact hbl
      have cl : w'.cell? ⟨w.heap.size + 1, 0, none⟩ = some vl := hbl'.cell 0
      obtain ⟨adl, ccl, hvl, _⟩ := hown.slice
      have HL : Hid (∀ v, v = vl → ListRead 22 GoodT (readList readText l) w (.returned (.tuple #[v, .int .i64 0])) w') := by
        intro v hv
        subst hv
        refine Or.inl ⟨ns, v, vs, ?_, rfl, (hown.same (fun k hk => hP.block k (Or.inr (hown.lt k hk).1))).mono (by omega), hgd.up (by omega) (fun k h1 _ => hP.block k (Or.inr h1)), hbel hfr (by omega) (by omega)⟩
        rw [readList_many, hm]
      obtain ⟨nl, HNL⟩ : ∃ x : Nat, Hid (x = vs.length) := ⟨_, rfl⟩
      rw [← HNL.out] at hvl
      subst hvl
      clear hbl hbl' hown hgd hfr hm hbel hP HRd
      go_wp2
      go_ret2
      exact HL.out _ rfl
    · rw [if_neg h0]
      have HL : Hid (ListRead 22 GoodT (readList readText l) w (.returned (.tuple #[.slice none 0 0, .int .i64 3])) w') := by
        refine Or.inr ⟨?_, rfl, hbel hfr (by omega) (by omega)⟩
        rw [readList_many, hm]
        cases l2 with
        | nil => exact absurd rfl h0
        | cons x y => rfl
      clear hbl hown hgd hfr hm hbel hP HRd h0
      go_wp2
      go_ret2
      exact HL.out
  · have HL : Hid (ListRead 22 GoodT (readList readText l) w (.returned (.tuple #[.slice none 0 0, .int .i64 3])) w') := by
      refine Or.inr ⟨?_, rfl, hbel hfr (by omega) (by omega)⟩
      rw [readList_many, hm]
    clear hfr hm hbel hP HRd
    go_wp2
    go_ret2
    exact HL.out
set_option maxHeartbeats 400000 in
theorem creadT_any (vb : Value) (l : List (BitVec 8)) (w : World) (hb : Reads w vb l) :
    Calls Try.prog 19 #[vb] w fun e w' => ListRead 22 GoodT (readList readText l) w e w' := by
  have hmf : ∀ (fn : Fn) (first cap : Array Value) (w : World), (Instr.makeFunc fn first cap).run Try.prog w = .ok (.func fn first cap) w := fun _ _ _ _ => rfl
  go_enter Try.func19, Try.ntmps19
  go_wp2_with fail
  refine (rdlT_any vb l w hb).mono ?_
  rintro e w' (⟨xs, v, vs, h1, rfl, h2, h3, h4⟩ | ⟨h1, rfl, h2⟩)
  · have HL : Hid (ListRead 22 GoodT (readList readText l) w (.returned (.tuple #[v, .int .i64 0])) w') := Or.inl ⟨xs, v, vs, h1, rfl, h2, h3, h4⟩
    clear h1 h2 h3 h4
    go_wp2
    go_ret2
    exact HL.out
  · have HL : Hid (ListRead 22 GoodT (readList readText l) w (.returned (.tuple #[.slice none 0 0, .int .i64 3])) w') := Or.inr ⟨h1, rfl, h2⟩
    clear h1 h2
    go_wp2
    go_ret2
    exact HL.out
end Go.Proofs.Ytdhglbemkaogiaa

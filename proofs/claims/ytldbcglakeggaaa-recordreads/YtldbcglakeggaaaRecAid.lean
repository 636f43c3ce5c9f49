/- What the walks of record share: kinds of things, what a reading of one comes to; regions that draw. -/
import Derived.Test.YtldbcglakeggaaaRecChk
import Derived.Test.YtldbcglakeggaaaRdrRead
import Derived.Deep.RegionHeld3
import Derived.Laws.ResultCell
namespace Go.Proofs.Ytldbcglakeggaaa
open Go.RowKit
theorem doesMono {H : Nat} {A A' : List (BitVec 8) → World → Prop} {B B' : World → Prop} {w1 w2 : World} {e : Ending} (h : Does H A B w1 e w2) (ha : ∀ l, A l w2 → A' l w2) (hb : B w2 → B' w2) : Does H A' B' w1 e w2 :=
  ⟨h.size, h.kept, h.way.elim (fun ⟨h1, v2, l2, h2, h3⟩ => Or.inl ⟨h1, v2, l2, h2, ha l2 h3⟩) (fun ⟨h1, h2, h3⟩ => Or.inr ⟨h1, h2, hb h3⟩)⟩
/-- a kind of things: its type, its zero's cells, and which cells are a thing (what they point to lies from block b on) -/
structure Kd (α : Type) where
  ty : TypeId
  z : List Value
  G : World → Nat → α → List Value → Prop
structure KdOk {α : Type} (K : Kd α) : Prop where
  info : (Try.prog.info? K.ty).map (·.size) = some K.z.length
  len : ∀ {w b a cs}, K.G w b a cs → cs.length = K.z.length
  one : ∀ {w b a cs}, K.G w b a cs → ∀ v ∈ cs, v.oneCell' = true
  same : ∀ {w w' b a cs}, K.G w b a cs → (∀ k, b ≤ k → k < w.heap.size → w'.heap[k]? = w.heap[k]?) → K.G w' b a cs
  mono : ∀ {w b b' a cs}, K.G w b a cs → b' ≤ b → K.G w b' a cs
  zone : ∀ v ∈ K.z, v.oneCell' = true
theorem KdOk.size {α : Type} {K : Kd α} (h : KdOk K) {w : World} {b : Nat} {a : α} {cs : List Value} (hG : K.G w b a cs) : (Try.prog.info? K.ty).map (·.size) = some cs.toArray.size := by rw [List.size_toArray, h.len hG]; exact h.info
theorem KdOk.below {α : Type} {K : Kd α} (h : KdOk K) {w w' : World} {b : Nat} {a : α} {cs : List Value} (hG : K.G w b a cs) (hb : Below w.heap.size w w') : K.G w' b a cs := h.same hG fun k _ hk => hb.block k hk
/-- what one reading of such a thing does -/
def OneDoes {α : Type} (K : Kd α) (F : Nat) (spec : List (BitVec 8) → Option (α × List (BitVec 8))) : Prop :=
  ∀ (gr gi : Nat) (v : Value) (l : List (BitVec 8)) (w : World), Rd w gr gi v l → Calls Try.prog F #[.pointer (some ⟨gr, 0, none⟩)] w fun e w' => RdDoes gr gi v w (spec l) (fun a w' v => ∃ cs : List Value, v = .agg cs.toArray ∧ K.G w' w.heap.size a cs) e w'
/-- what is read to the end -/
def whole {α : Type} (o : Option (α × List (BitVec 8))) : Option α :=
  match o with
  | some (a, []) => some a
  | _ => none
/-- what a call that reads a thing out of bytes answers -/
def RdRes {α : Type} (K : Kd α) (w : World) (o : Option α) (e : Ending) (w' : World) : Prop :=
  Below w.heap.size w w' ∧ ((∃ a cs, o = some a ∧ e = .returned (.tuple #[.agg (cs : List Value).toArray, .int .i64 0]) ∧ K.G w' w.heap.size a cs) ∨ (o = none ∧ e = .returned (.tuple #[.agg K.z.toArray, .int .i64 3])))
/-- w' is w but for the blocks g + 2, g + 4 and new ones -/
structure Fr3 (g : Nat) (w w' : World) : Prop where
  os : w'.os = w.os
  tape : w'.tape = w.tape
  output : w'.output = w.output
  size : w.heap.size ≤ w'.heap.size
  block : ∀ k, k ≠ g + 2 → k ≠ g + 4 → k < w.heap.size → w'.heap[k]? = w.heap[k]?
theorem Fr3.of_only {g : Nat} {w w' : World} (h : Only (g + 4) w w') : Fr3 g w w' := ⟨h.os, h.tape, h.output, h.size, fun k _ h2 h3 => h.block k h2 h3⟩
theorem Fr3.at {g : Nat} {w a b : World} (h : Fr3 g w a) (k : At (g + 2) a b) : Fr3 g w b :=
  ⟨k.os.trans h.os, k.tape.trans h.tape, k.output.trans h.output, by rw [k.size]; exact h.size, fun j h1 h2 h3 => (k.block j h1).trans (h.block j h1 h2 h3)⟩
def RA {α : Type} (K : Kd α) (spec : List (BitVec 8) → Option (α × List (BitVec 8))) (g : Nat) (l : List (BitVec 8)) (w1 : World) (l2 : List (BitVec 8)) (w2 : World) : Prop :=
  ∃ a cs, spec l = some (a, l2) ∧ Blk w2 (g + 2) cs K.ty ∧ K.G w2 (g + 7) a cs ∧ Fr3 g w1 w2
def RB {α : Type} (spec : List (BitVec 8) → Option (α × List (BitVec 8))) (g : Nat) (l : List (BitVec 8)) (w1 w2 : World) : Prop := spec l = none ∧ Fr3 g w1 w2
/-- where the reading's function begins -/
structure At1 {α : Type} (K : Kd α) (F : Nat) (fty : TypeId) (g : Nat) (vb : Value) (l : List (BitVec 8)) (w1 : World) : Prop where
  rd : Rd w1 (g + 6) (g + 4) vb l
  fn : Blk w1 g [.func (.func F) #[] #[]] fty
  th : Blk w1 (g + 2) K.z K.ty
  sz : w1.heap.size = g + 7
  vb : 0 < l.length → ∀ j, vb.ownBlock = some j → j < g
theorem At1.threw {α : Type} {K : Kd α} {F : Nat} {fty : TypeId} {g : Nat} {vb : Value} {l : List (BitVec 8)} {w1 w' : World} {e : Ending} (h : At1 K F fty g vb l w1) {spec : List (BitVec 8) → Option (α × List (BitVec 8))} (hT : Threw (g + 4) w1 e w') (hs : spec l = none) :
    Does (g + 3) (RA K spec g l w1) (RB spec g l w1) w1 (thrown (g + 4)) w' := by
  obtain ⟨v', hb, ad, m, c, hv⟩ := hT.bad
  refine ⟨hT.onl.size, fun k h1 h2 h3 => hT.onl.block k h3 (by rw [h.sz]; omega), Or.inr ⟨rfl, ⟨v', ad, m, c, hv, hb⟩, hs, Fr3.of_only hT.onl⟩⟩
theorem At1.there {α : Type} {K : Kd α} (hK : KdOk K) {F : Nat} {fty : TypeId} {g : Nat} {vb : Value} {l : List (BitVec 8)} {w1 w2 : World} {a : α} {b : Nat} {cs : List Value} (h : At1 K F fty g vb l w1) (ho : Only (g + 4) w1 w2) (hG : K.G w2 b a cs) : w2.there (g + 2) 0 cs.toArray.size :=
  (h.th.only ho (by omega)).there 0 _ (by rw [List.size_toArray, hK.len hG]; omega)
theorem At1.done {α : Type} {K : Kd α} (hK : KdOk K) {F : Nat} {fty : TypeId} {g : Nat} {vb v2 : Value} {l r : List (BitVec 8)} {w1 w2 : World} {a : α} {cs : List Value} (h : At1 K F fty g vb l w1) {spec : List (BitVec 8) → Option (α × List (BitVec 8))} (hnil : spec [] = none)
    (hs : spec l = some (a, r)) (hG : K.G w2 w1.heap.size a cs) (hrd : Rd w2 (g + 6) (g + 4) v2 r) (ho : Only (g + 4) w1 w2) (hob : v2.ownBlock = vb.ownBlock) :
    Does (g + 3) (RA K spec g l w1) (RB spec g l w1) w1 (.returned (.tuple #[])) (w2.setCells (g + 2) 0 cs) := by
  have hp : 0 < l.length := by
    cases l with
    | nil => rw [hnil] at hs; cases hs
    | cons x y => simp
  have ha : At (g + 2) w2 (w2.setCells (g + 2) 0 cs) := At.setCells _ _ _ (At.refl _ _)
  have hf := (Fr3.of_only ho).at ha
  have hz := h.sz
  refine ⟨hf.size, fun k h1 h2 h3 => hf.block k (by omega) (by omega) (by omega), Or.inl ⟨rfl, v2, r, ⟨hrd.rd.at ha (by omega), hrd.inp.at ha (by omega), hrd.byt.at ha (fun _ j hj => by have := h.vb hp j (hob ▸ hj); omega)⟩, a, cs, hs, ?_, ?_, hf⟩⟩
  · exact (h.th.only ho (by omega)).whole cs (hK.len hG)
  · rw [hz] at hG
    exact hK.same hG fun k h1 _ => ha.block k (by omega)
/-- what Read comes to -/
structure RdoT {α : Type} (K : Kd α) (spec : List (BitVec 8) → Option (α × List (BitVec 8))) (g : Nat) (l : List (BitVec 8)) (w w' : World) (en : Int) : Prop where
  bel : Below g w w'
  sz : g + 7 ≤ w'.heap.size
  res : Blk w' (g + 1) K.z K.ty
  out : (en = 0 ∧ ∃ a cs, whole (spec l) = some a ∧ Blk w' (g + 2) cs K.ty ∧ K.G w' (g + 7) a cs) ∨ (en = 3 ∧ whole (spec l) = none)
def w3 {α : Type} (K : Kd α) (F : Nat) (fty : TypeId) (w : World) : World := ((w.alloc (.cells #[.func (.func F) #[] #[]] fty)).alloc (.cells K.z.toArray K.ty)).alloc (.cells K.z.toArray K.ty)
theorem rd_of {α : Type} {K : Kd α} (hK : KdOk K) (F F1 : Nat) (fty : TypeId) (spec : List (BitVec 8) → Option (α × List (BitVec 8))) (hen : ∀ xs w, (callFunc F1 xs).run Try.prog w = .ok (.enter F1 xs) w)
    (h1 : ∀ (g : Nat) (vb : Value) (l : List (BitVec 8)) (w1 : World), At1 K F fty g vb l w1 → Calls Try.prog F1 #[.pointer (some ⟨g + 6, 0, none⟩), .pointer (some ⟨g, 0, none⟩), .pointer (some ⟨g + 2, 0, none⟩)] w1 (Does (g + 3) (RA K spec g l w1) (RB spec g l w1) w1))
    (g : Nat) (vb : Value) (l : List (BitVec 8)) (w : World) (hg : w.heap.size = g) (hb : Reads w vb l) :
    Calls Try.prog 60 #[vb, .func (.func F1) #[] #[.pointer (some ⟨g, 0, none⟩), .pointer (some ⟨g + 2, 0, none⟩)]] (w3 K F fty w) fun e w' => ∃ en, e = .returned (.int .i64 en) ∧ RdoT K spec g l w w' en := by
  have hvb := hb.inB
  subst hg
  have hz : (w3 K F fty w).heap.size = w.heap.size + 3 := by simp [w3]
  have hB : Below w.heap.size w (w3 K F fty w) := ((((Below.refl _ _).alloc (Nat.le_refl _) _).alloc (by simp) _).alloc (by simp; omega) _)
  have b0 : Blk (w3 K F fty w) w.heap.size [.func (.func F) #[] #[]] fty := ((Blk.new w [.func (.func F) #[] #[]] fty).alloc _).alloc _
  have b1 : Blk (w3 K F fty w) (w.heap.size + 1) K.z K.ty := (Blk.new_at (w := w.alloc _) (by simp) K.z K.ty).alloc _
  have b2 : Blk (w3 K F fty w) (w.heap.size + 2) K.z K.ty := Blk.new_at (w := (w.alloc _).alloc _) (by simp) K.z K.ty
  have hR := hb.below hB
  generalize w3 K F fty w = W at *
  have h := read_any F1 #[.pointer (some ⟨w.heap.size, 0, none⟩), .pointer (some ⟨w.heap.size + 2, 0, none⟩)] vb l
    (fun l2 w2 => ∃ w1, Below (w.heap.size + 3) W w1 ∧ w1.heap.size = w.heap.size + 7 ∧ RA K spec w.heap.size l w1 l2 w2) (fun w2 => ∃ w1, Below (w.heap.size + 3) W w1 ∧ w1.heap.size = w.heap.size + 7 ∧ RB spec w.heap.size l w1 w2) W hR hen
  rw [hz] at h
  refine (h ?_).mono ?_
  · intro w1 h2 h3 h4
    refine (h1 w.heap.size vb l w1 ⟨h4, b0.below h3 (by omega), b2.below h3 (by omega), by omega, hvb⟩).mono ?_
    intro e w2 hD
    exact doesMono hD (fun l2 hA => ⟨w1, h3, by omega, hA⟩) (fun hB => ⟨w1, h3, by omega, hB⟩)
  · rintro e w' ⟨w2, hP, hway⟩
    have hbl : ∀ w1, Below (w.heap.size + 3) W w1 → w1.heap.size = w.heap.size + 7 → Fr3 w.heap.size w1 w2 → Below w.heap.size w w' ∧ w.heap.size + 7 ≤ w'.heap.size ∧ Blk w' (w.heap.size + 1) K.z K.ty := by
      intro w1 h1 h2 hf
      refine ⟨⟨hP.os.trans (hf.os.trans (h1.os.trans hB.os)), hP.tape.trans (hf.tape.trans (h1.tape.trans hB.tape)), hP.output.trans (hf.output.trans (h1.output.trans hB.output)), ?_, ?_⟩, ?_, ?_⟩
      · have := hf.size; rw [hP.size]; omega
      · intro k hk
        rw [hP.block k (Or.inl (by omega)), hf.block k (by omega) (by omega) (by omega), h1.block k (by omega), hB.block k hk]
      · have := hf.size; rw [hP.size]; omega
      · have hb1 := b1.below h1 (by omega)
        unfold Blk at hb1 ⊢
        rw [hP.block _ (Or.inl (by omega)), hf.block _ (by omega) (by omega) (by omega)]
        exact hb1
    rcases hway with ⟨l2, ⟨w1, h1, h2, a, cs, hs, c2, hG, hf⟩, rfl⟩ | ⟨⟨w1, h1, h2, hs, hf⟩, rfl⟩
    · obtain ⟨k1, k2, k3⟩ := hbl w1 h1 h2 hf
      refine ⟨_, rfl, k1, k2, k3, ?_⟩
      cases l2 with
      | nil => exact Or.inl ⟨if_pos rfl, a, cs, by rw [hs]; rfl, c2.past hP (by omega), hK.same hG fun k h3 _ => hP.block k (Or.inr (by omega))⟩
      | cons x y => exact Or.inr ⟨if_neg (by simp), by rw [hs]; rfl⟩
    · obtain ⟨k1, k2, k3⟩ := hbl w1 h1 h2 hf
      exact ⟨_, rfl, k1, k2, k3, Or.inr ⟨rfl, by rw [hs]; rfl⟩⟩
theorem results_row_tmp {fn : Func} {p u : Tmp} {ty : TypeId} (h : fn.results = #[.cell p ty, .tmp u]) (tmps : Array Value) (P : Program) (w : World) (g : Nat) (t : TypeId) (cs : List Value) (d : TypeDesc) (x : Value)
    (hp : tmps.getD p undef = .pointer (some ⟨g, 0, none⟩)) (hx : tmps.getD u undef = x) (hg : Blk w g cs t) (hu : P.underlying ty = some d) (hd : d.isRow = true) (hi : (P.info? ty).map (·.size) = some cs.length) :
    (results fn tmps).run P w = .ok (.tuple #[.agg cs.toArray, x]) w := by
  rw [results_cell_tmp h, hp, hx]
  simp only [asAddr, Sem.run_pure, Result.andThen_ok, run_loadVar_mid w g 0 ty cs d hg.range hu hd hi]
theorem reads_drew {w : World} {v : Value} {bs : List (BitVec 8)} (h : Reads w v bs) : Reads w.drew v bs := h
theorem wpAnyH_enter {P : Program} {md : Region.Mode} {ops : Array Oper} {Q : Exit → Act → World → Prop} {S : World → Prop} {fuel : Nat} {listed : Array Bool} {a : Act} {w : World} (i : Nat) {oi : Oper} {f : FuncId} {args : Array Value} {R : Ending → World → Prop}
    (hr : Region.ready md ops listed = [i]) (hi : ops[i]? = some oi) (hw : Region.wanted oi (yielded ops a.tmps) = true) (he : (execOp a.eval oi).run P w = .ok (.enter f args) w) (hc : Calls P f args w R)
    (h : ∀ e w', R e w' → ∃ v, e = .returned v ∧ S w' ∧ wpAnyH P md ops Q S fuel (listed.setIfInBounds i true) (a.put oi.dst v) w') : wpAnyH P md ops Q S (fuel + 1) listed a w := by
  refine wpAnyH_all hr (by simp) (fun j hj => ?_)
  obtain rfl : j = i := by simpa using hj
  unfold wpOp
  rw [hi]
  simp only [hw, if_true]
  left
  unfold Oper.wp
  rw [he, Oper.upon_enter]
  refine hc.mono ?_
  intro e w' hR
  obtain ⟨v, rfl, hv⟩ := h e w' hR
  exact hv
theorem wpAnyH_step {P : Program} {md : Region.Mode} {ops : Array Oper} {Q : Exit → Act → World → Prop} {S : World → Prop} {fuel : Nat} {listed : Array Bool} {a : Act} {w : World} (i : Nat) {oi : Oper} (v : Value) (w' : World)
    (hr : Region.ready md ops listed = [i]) (hi : ops[i]? = some oi) (hw : Region.wanted oi (yielded ops a.tmps) = true) (he : (execOp a.eval oi).run P w = .ok (.value v) w') (hS : S w')
    (h : wpAnyH P md ops Q S fuel (listed.setIfInBounds i true) (a.put oi.dst v) w') : wpAnyH P md ops Q S (fuel + 1) listed a w := by
  refine wpAnyH_all hr (by simp) (fun j hj => ?_)
  obtain rfl : j = i := by simpa using hj
  unfold wpOp
  rw [hi]
  simp only [hw, if_true]
  left
  unfold Oper.wp
  rw [he, Oper.upon_value]
  exact ⟨hS, h⟩
theorem wpOp_en {P : Program} {ops : Array Oper} {Q : Exit → Act → World → Prop} {K : Act → World → Prop} {a : Act} {w : World} (i : Nat) {oi : Oper} {f : FuncId} {args : Array Value} {R : Ending → World → Prop} (hi : ops[i]? = some oi) (hw : Region.wanted oi (yielded ops a.tmps) = true)
    (he : (execOp a.eval oi).run P w = .ok (.enter f args) w) (hc : Calls P f args w R) (h : ∀ e w', R e w' → ∃ v, e = .returned v ∧ K (a.put oi.dst v) w') : wpOp P ops Q i K a w := by
  unfold wpOp
  rw [hi]
  simp only [hw, if_true]
  left
  unfold Oper.wp
  rw [he, Oper.upon_enter]
  refine hc.mono ?_
  intro e w' hR
  obtain ⟨v, rfl, hv⟩ := h e w' hR
  exact hv
end Go.Proofs.Ytldbcglakeggaaa

/- A region that draws its order, whose last operation waits for all others: the others quiet (they may call what makes memory), the last one whatever it is: one walk in the order of the text serves every order. No program is named here. -/
import Derived.Deep.Quiet
import Derived.Deep.QuietTactic
import Derived.Deep.MidRow
import Derived.BigCall
import Derived.BigQuiet
namespace Go.Proofs.YtaleeaocmomjlaaDoor
open Go
section
variable {P : Program} {md : Region.Mode} {C : World → Prop}
def idle (o : Oper) : Oper := { dst := none, op := .move (.const undef), type := o.type, pos := o.pos, after := o.after, guard := none }
theorem ready_idle (l : List Oper) (o : Oper) (listed : Array Bool) : Region.ready md (l ++ [idle o]).toArray listed = Region.ready md (l ++ [o]).toArray listed := by
  unfold Region.ready
  have hs : (l ++ [idle o]).toArray.size = (l ++ [o]).toArray.size := by simp
  rw [hs]
  apply List.filter_congr
  intro i _
  congr 1
  simp only [List.getElem?_toArray]
  rcases Nat.lt_trichotomy i l.length with h | h | h
  · rw [List.getElem?_append_left h, List.getElem?_append_left h]
  · subst h; simp [idle]
  · rw [List.getElem?_eq_none (by simp; omega), List.getElem?_eq_none (by simp; omega)]
/-- every edge leads back; no guards; the last waits for all -/
def lastB (md : Region.Mode) (l : List Oper) (o : Oper) : Bool :=
  (List.range (l.length + 1)).all (fun i => (((l ++ [o])[i]?).map fun x => x.after.all fun e => !Region.binds md e || decide (e.on < i)).getD true) &&
  (l ++ [o]).all (fun x => x.guard.isNone) &&
  (List.range l.length).all (fun i => (List.range (l.length + 1)).any fun j => decide (i < j) && (((l ++ [o])[j]?).map fun x => x.after.any fun e => Region.binds md e && e.on == i).getD false)
theorem getD_set {listed : Array Bool} {i j : Nat} (d : Bool) (h : j ≠ i) : (listed.setIfInBounds i true).getD j d = listed.getD j d := by
  simp [h.symm]
theorem ready_nonempty {ops : Array Oper} (hb : ∀ i o, ops[i]? = some o → ∀ e ∈ o.after, Region.binds md e = true → e.on < i) (listed : Array Bool) (hsz : listed.size = ops.size) :
    ∀ n, n < ops.size → listed.getD n true = false → Region.ready md ops listed ≠ [] := by
  intro n
  induction n using Nat.strongRecOn with
  | _ n ih =>
    intro hn hu h0
    by_cases hr : n ∈ Region.ready md ops listed
    · rw [h0] at hr; cases hr
    · apply hr
      refine mem_ready.2 ⟨hu, ops[n], by simp [hn], fun e he hbd => ?_⟩
      have hlt := hb n ops[n] (by simp [hn]) e he hbd
      cases hl : listed.getD e.on false with
      | true => rfl
      | false =>
        exact absurd h0 (ih e.on hlt (by omega) (by have : e.on < listed.size := by omega
                                                    simp [this] at hl ⊢; exact hl))
theorem all_listed {l : List Oper} {o : Oper} {listed : Array Bool} (hw : ∀ i, i < l.length → ∃ j x, i < j ∧ j ≤ l.length ∧ (l ++ [o]).toArray[j]? = some x ∧ ∃ e ∈ x.after, Region.binds md e = true ∧ e.on = i)
    (hcl : ∀ j x, (l ++ [o]).toArray[j]? = some x → listed.getD j false = true → ∀ e ∈ x.after, Region.binds md e = true → listed.getD e.on false = true)
    (ho : (l ++ [o]).toArray[l.length]? = some o) (hall : ∀ e ∈ o.after, Region.binds md e = true → listed.getD e.on false = true) :
    ∀ d i, l.length - i = d → i < l.length → listed.getD i false = true := by
  intro d
  induction d using Nat.strongRecOn with
  | _ d ih =>
    intro i hd hi
    obtain ⟨j, x, hij, hjl, hx, e, he, hbd, hon⟩ := hw i hi
    by_cases hjN : j = l.length
    · subst hjN
      have hxo : x = o := Option.some.inj (hx.symm.trans ho)
      subst hxo
      rw [← hon]; exact hall e he hbd
    · have hj := ih (l.length - j) (by omega) j rfl (by omega)
      rw [← hon]; exact hcl j x hx hj e he hbd
theorem wpAny_of_last {l : List Oper} {o : Oper} {Q' : Exit → Act → World → Prop}
    (hb : ∀ i x, (l ++ [o]).toArray[i]? = some x → ∀ e ∈ x.after, Region.binds md e = true → e.on < i) (hg : ∀ x ∈ l ++ [o], x.guard = none) (hw : ∀ i, i < l.length → ∃ j x, i < j ∧ j ≤ l.length ∧ (l ++ [o]).toArray[j]? = some x ∧ ∃ e ∈ x.after, Region.binds md e = true ∧ e.on = i) :
    ∀ (fuel : Nat) (listed : Array Bool) (a : Act) (w : World) (S : List Nat), C w → S.Nodup → S.length = fuel → (∀ i, i ∈ S ↔ (i < (l ++ [o]).length ∧ listed.getD i true = false)) → l.length ∈ S → listed.size = (l ++ [o]).length → (∀ j x, (l ++ [o]).toArray[j]? = some x → listed.getD j false = true → ∀ e ∈ x.after, Region.binds md e = true → listed.getD e.on false = true) →
    wpAnyQ P md (l ++ [idle o]).toArray C (fun a' => ∀ w', C w' → o.wp P a' w' (fun a'' w'' => Q' .normal a'' w'') Q') fuel listed a → wpAny P md (l ++ [o]).toArray Q' fuel listed a w := by
  intro fuel
  induction fuel with
  | zero => intro listed a w S _ _ hl _ hN _ _ _; rw [List.length_eq_zero_iff.1 hl] at hN; cases hN
  | succ fuel ih =>
    intro listed a w S hC hnd hlen hS hN hsz hcl hq
    obtain ⟨_, hq2⟩ := hq
    rw [ready_idle] at hq2
    have hNu := ((hS l.length).1 hN).2
    refine ⟨fun h0 => absurd h0 (ready_nonempty hb listed (by simpa using hsz) l.length (by simp) hNu), fun i hi => ?_⟩
    have hqi := hq2 i hi
    obtain ⟨hiu, oi, hoi, hall⟩ := mem_ready.1 hi
    have hil : i < (l ++ [o]).length := by simpa using (Array.getElem?_eq_some_iff.1 hoi).1
    by_cases hiN : i = l.length
    · subst hiN
      have hoo : oi = o := by simpa using hoi.symm
      subst hoo
      unfold wpOp
      rw [hoi]
      have hwant : Region.wanted oi (yielded (l ++ [oi]).toArray a.tmps) = true := by simp [Region.wanted, hg oi (by simp)]
      simp only [hwant, if_true]
      refine .inl ?_
      have h1 : (l ++ [idle oi]).toArray[l.length]? = some (idle oi) := by simp
      unfold qOp at hqi
      rw [h1] at hqi
      have hw2 : Region.wanted (idle oi) (yielded (l ++ [idle oi]).toArray a.tmps) = true := by simp [Region.wanted, idle]
      simp only [hw2, if_true] at hqi
      obtain ⟨v, _, hk⟩ := hqi
      have hput : a.put (idle oi).dst v = a := rfl
      rw [hput] at hk
      have hnone : Region.ready md (l ++ [oi]).toArray (listed.setIfInBounds l.length true) = [] := by
        cases hr : Region.ready md (l ++ [oi]).toArray (listed.setIfInBounds l.length true) with
        | nil => rfl
        | cons j r =>
          exfalso
          have hj : j ∈ Region.ready md (l ++ [oi]).toArray (listed.setIfInBounds l.length true) := by rw [hr]; simp
          obtain ⟨hju, oj, hoj, _⟩ := mem_ready.1 hj
          have hjl : j < (l ++ [oi]).length := by simpa using (Array.getElem?_eq_some_iff.1 hoj).1
          by_cases hjN : j = l.length
          · subst hjN
            have : l.length < listed.size := by rw [hsz]; simp
            simp [this] at hju
          · rw [getD_set true hjN] at hju
            have := all_listed hw hcl hoi hall (l.length - j) j rfl (by simp at hjl; omega)
            have hjs : j < listed.size := by omega
            simp [hjs] at hju this
            rw [hju] at this; cases this
      have hQ : ∀ w', C w' → oi.wp P a w' (fun a'' w'' => Q' .normal a'' w'') Q' := by
        cases fuel with
        | zero => exact hk.2
        | succ f => exact hk.1 (by rw [ready_idle]; exact hnone)
      refine Oper.wp_mono (fun a' w' hn => ?_) (hQ w hC)
      cases fuel with
      | zero => exact ⟨hnone, hn⟩
      | succ f => exact ⟨fun _ => hn, fun j hj => by rw [hnone] at hj; cases hj⟩
    · have hin : i < l.length := by simp at hil; omega
      have e1 : (l ++ [idle o]).toArray[i]? = (l ++ [o]).toArray[i]? := by simp [List.getElem?_append_left hin]
      have hgi : oi.guard = none := hg oi (by have := List.mem_of_getElem? (by simpa using hoi : (l ++ [o])[i]? = some oi); exact this)
      unfold qOp at hqi
      rw [e1, hoi] at hqi
      unfold wpOp
      rw [hoi]
      have w1 : Region.wanted oi (yielded (l ++ [idle o]).toArray a.tmps) = true := by simp [Region.wanted, hgi]
      have w2 : Region.wanted oi (yielded (l ++ [o]).toArray a.tmps) = true := by simp [Region.wanted, hgi]
      simp only [w1, if_true] at hqi
      simp only [w2, if_true]
      refine .inl (Oper.wp_of_quiet hC (fun a' w' hw' hk => ?_) hqi)
      have hiS : i ∈ S := (hS i).2 ⟨hil, hiu⟩
      refine ih (listed.setIfInBounds i true) a' w' (S.erase i) hw' (hnd.erase _) (by rw [List.length_erase_of_mem hiS]; omega) (fun j => ?_) ((List.mem_erase_of_ne (Ne.symm hiN)).2 hN) (by simpa using hsz) (fun j x hx hlj e he hbd => ?_) hk
      rotate_left
      · by_cases hji : i = j
        · subst hji
          have hxo : x = oi := Option.some.inj (hx.symm.trans hoi)
          subst hxo
          exact getD_set_true (hall e he hbd)
        · rw [getD_set_ne false hji] at hlj
          exact getD_set_true (hcl j x hx hlj e he hbd)
      by_cases hji : j = i
      · subst hji
        have hjs : j < listed.size := by omega
        simp [hnd.not_mem_erase, hjs]
      · rw [List.mem_erase_of_ne hji, hS j, getD_set true hji]
theorem wp_region_last {id : Nat} {Q : Exit → Act → World → Prop} {a : Act} {w : World} (l : List Oper) (o : Oper) (hm : P.follows .mixedOrders = true) (hB : Region.lexB .any (l ++ [idle o]).toArray = true) (hL : lastB .any l o = true)
    (hC : C { w with drawn := w.drawn + 1 }) (h : wpQuiet P (l ++ [idle o]).toArray C (fun a' => ∀ w', C w' → o.wp P a' w' (fun a'' w'' => Q .normal a'' w'') Q) l a) : (Code.region id (l ++ [o]).toArray true).wp P Q a w := by
  simp only [Region.lexB, Bool.and_eq_true] at hB
  simp only [lastB, Bool.and_eq_true] at hL
  obtain ⟨⟨hb, hg⟩, hw⟩ := hL
  have hq : ∀ (k : List Oper) (a : Act), wpQuiet P (l ++ [idle o]).toArray C (fun a' => ∀ w', C w' → o.wp P a' w' (fun a'' w'' => Q .normal a'' w'') Q) k a → wpQuiet P (l ++ [idle o]).toArray C (fun a' => ∀ w', C w' → o.wp P a' w' (fun a'' w'' => Q .normal a'' w'') Q) (k ++ [idle o]) a := by
    intro k
    induction k with
    | nil =>
      intro a h
      have hw2 : Region.wanted (idle o) (yielded (l ++ [idle o]).toArray a.tmps) = true := by simp [Region.wanted, idle]
      simp only [List.nil_append, wpQuiet, hw2, if_true]
      exact ⟨undef, fun w' _ => by unfold Oper.quietAt idle execOp; exact ⟨rfl, rfl⟩, h⟩
    | cons x k ih =>
      intro a h
      simp only [List.cons_append, wpQuiet] at h ⊢
      split
      · rename_i hx; simp only [hx, if_true] at h; exact Oper.quiet_mono (fun a' h' => ih a' h') h
      · rename_i hx; simp only [hx] at h; exact ih _ h
  have := wpAnyQ_lex (C := C) (md := .any) hB.1 (l ++ [idle o]) 0 (Array.replicate (l ++ [idle o]).toArray.size false) a (by simp) (by simpa using hB.2) (hq l a h)
  refine wp_region_any hm ?_
  have hsz : (l ++ [o]).toArray.size = (l ++ [idle o]).length := by simp
  rw [hsz]
  refine wpAny_of_last ?_ ?_ ?_ _ _ _ _ (List.range (l ++ [o]).length) hC List.nodup_range (by simp) (fun i => ?_) (by simp) (by simp) (fun j x _ hlj => ?_) (by simpa using this)
  · intro i x hx e he hbd
    have hi : i < l.length + 1 := by simpa using (Array.getElem?_eq_some_iff.1 hx).1
    have h1 := List.all_eq_true.1 hb i (List.mem_range.2 hi)
    rw [show (l ++ [o])[i]? = some x by simpa using hx] at h1
    simp only [Option.map_some, Option.getD_some] at h1
    have h2 := Array.all_eq_true_iff_forall_mem.1 h1 e he
    simpa [hbd] using h2
  · intro x hx
    have := List.all_eq_true.1 hg x hx
    simpa using this
  · intro i hi
    have h1 := List.all_eq_true.1 hw i (List.mem_range.2 hi)
    obtain ⟨j, hj, h2⟩ := List.any_eq_true.1 h1
    simp only [Bool.and_eq_true, decide_eq_true_eq] at h2
    have hjl := List.mem_range.1 hj
    cases hx : (l ++ [o])[j]? with
    | none => rw [hx] at h2; simp at h2
    | some x =>
      rw [hx] at h2
      simp only [Option.map_some, Option.getD_some] at h2
      obtain ⟨e, he, h3⟩ := Array.any_eq_true'.1 h2.2
      simp only [Bool.and_eq_true, beq_iff_eq] at h3
      exact ⟨j, x, h2.1, by omega, by simpa using hx, e, he, h3.1, h3.2⟩
  · simp only [List.mem_range]
    constructor
    · intro hi; exact ⟨hi, by simp at hi; simp [hi]⟩
    · intro hi; exact hi.1
  · exfalso
    generalize (l ++ [idle o]).length = N at hlj
    rcases Nat.lt_or_ge j N with h | h
    · simp [h] at hlj
    · simp [h] at hlj
theorem wp_region_last_lit {id : Nat} {Q : Exit → Act → World → Prop} {a : Act} {w : World} {L : List Oper} (hne : L ≠ []) (hm : P.follows .mixedOrders = true) (hB : Region.lexB .any (L.dropLast ++ [idle (L.getLast hne)]).toArray = true) (hL : lastB .any L.dropLast (L.getLast hne) = true)
    (hC : C { w with drawn := w.drawn + 1 }) (h : wpQuiet P (L.dropLast ++ [idle (L.getLast hne)]).toArray C (fun a' => ∀ w', C w' → (L.getLast hne).wp P a' w' (fun a'' w'' => Q .normal a'' w'') Q) L.dropLast a) : (Code.region id L.toArray true).wp P Q a w := by
  have := wp_region_last (P := P) (id := id) (Q := Q) L.dropLast (L.getLast hne) hm hB hL hC h
  rwa [List.dropLast_concat_getLast] at this
theorem wpQuiet_val {ops : Array Oper} {Q : Act → Prop} {o : Oper} {rest : List Oper} {a : Act} (hgd : o.guard = none) (v : Value) (hr : ∀ w, C w → (execOp a.eval o).run P w = .ok (.value v) w)
    (h : wpQuiet P ops C Q rest (a.put o.dst v)) : wpQuiet P ops C Q (o :: rest) a := by
  have hw : Region.wanted o (yielded ops a.tmps) = true := by simp [Region.wanted, hgd]
  rw [wpQuiet, if_pos hw]
  refine ⟨v, fun w hC => ?_, h⟩
  unfold Oper.quietAt
  rw [hr w hC]
  exact ⟨rfl, rfl⟩
theorem wpQuiet_load {ops : Array Oper} {Q : Act → Prop} {o : Oper} {rest : List Oper} {a : Act} (hgd : o.guard = none) (ty : TypeId) (x : Operand) (ho : o.op = .load ty x)
    (b of : Nat) (hx : a.eval x = .pointer (some ⟨b, of, none⟩)) (cs : List Value) (d : TypeDesc) (hc : ∀ w, C w → w.rangeAt b of cs)
    (hu : P.underlying ty = some d) (hd : d.isRow = true) (hi : (P.info? ty).map (·.size) = some cs.length)
    (h : wpQuiet P ops C Q rest (a.put o.dst (.agg cs.toArray))) : wpQuiet P ops C Q (o :: rest) a := by
  have hw : Region.wanted o (yielded ops a.tmps) = true := by simp [Region.wanted, hgd]
  rw [wpQuiet, if_pos hw]
  refine ⟨.agg cs.toArray, fun w hC => ?_, h⟩
  unfold Oper.quietAt execOp
  simp only [ho, hx, Instr.loadAt, Instr.sureAddr, Sem.run_bind, Sem.run_pure, Result.andThen_ok, run_loadVar_mid w b of ty cs d (hc w hC) hu hd hi]
  exact ⟨rfl, rfl⟩
theorem wpQuiet_call {ops : Array Oper} {Q : Act → Prop} {o : Oper} {rest : List Oper} {a : Act} (hgd : o.guard = none) (f : FuncId) (args : Array Operand) (ats : Array TypeId) (ho : o.op = .call { callee := .value (.func f), args := args, argTypes := ats })
    (hcf : ∀ xs w, (callFunc f xs).run P w = .ok (.enter f xs) w) (vals : Array Value) (hv : args.map a.eval = vals) (v : Value) (hc : ∀ w, C w → Calls P f vals w fun e w' => e = .returned v ∧ C w')
    (h : wpQuiet P ops C Q rest (a.put o.dst v)) : wpQuiet P ops C Q (o :: rest) a := by
  have hw : Region.wanted o (yielded ops a.tmps) = true := by simp [Region.wanted, hgd]
  rw [wpQuiet, if_pos hw]
  refine ⟨v, fun w hC => ?_, h⟩
  have hrun : (execOp a.eval o).run P w = .ok (.enter f vals) w := by
    obtain ⟨dst, op, type, pos, after, guard⟩ := o
    simp only at ho
    subst ho
    rw [execOp_call_go, hv]
    simp [hcf]
  unfold Oper.quietAt
  rw [hrun]
  exact ⟨rfl, hc w hC⟩
end
end Go.Proofs.YtaleeaocmomjlaaDoor

/- For the walks of the statements of layer 3: what their regions load and call. -/
import Derived.Test.YtaleeaocmomjlaaDoorTWorks
import Derived.Test.YtaleeaocmomjlaaDoorAuth
import Derived.Test.YtaleeaocmomjlaaDoorRKind
import Derived.Test.YtaleeaocmomjlaaDoorEqT
namespace Go.Proofs.YtaleeaocmomjlaaDoor
open Go.RowKit
theorem wpSeq_val {P : Program} {ops : Array Oper} {Q : Exit → Act → World → Prop} {rest : List Oper} {o : Oper} {a : Act} {w : World} (v : Value) (w' : World) (hw : Region.wanted o (yielded ops a.tmps) = true)
    (he : (execOp a.eval o).run P w = .ok (.value v) w') (h : wpList P ops Q rest (a.put o.dst v) w') : wpList P ops Q (o :: rest) a w := by
  unfold wpList
  simp only [hw, if_true]
  left
  unfold Oper.wp
  rw [he, Oper.upon_value]
  exact h
theorem wpSeq_enter {P : Program} {ops : Array Oper} {Q : Exit → Act → World → Prop} {rest : List Oper} {o : Oper} {a : Act} {w : World} {f : FuncId} {args : Array Value} {R : Ending → World → Prop} (hw : Region.wanted o (yielded ops a.tmps) = true)
    (he : (execOp a.eval o).run P w = .ok (.enter f args) w) (hc : Calls P f args w R) (h : ∀ e w', R e w' → ∃ v, e = .returned v ∧ wpList P ops Q rest (a.put o.dst v) w') : wpList P ops Q (o :: rest) a w := by
  unfold wpList
  simp only [hw, if_true]
  left
  unfold Oper.wp
  rw [he, Oper.upon_enter]
  refine hc.mono ?_
  intro e w' hR
  obtain ⟨v, rfl, hv⟩ := h e w' hR
  exact hv
theorem wpSeq_nil {P : Program} {ops : Array Oper} {Q : Exit → Act → World → Prop} {a : Act} {w : World} (h : Q .normal a w) : wpList P ops Q [] a w := h
theorem num8_inj {n m : Nat} (hn : n < 18446744073709551616) (hm : m < 18446744073709551616) (h : num8 n = num8 m) : n = m := by
  have e : ∀ j, j < 8 → n / 2 ^ (56 - 8 * j) % 256 = m / 2 ^ (56 - 8 * j) % 256 := by
    intro j hj
    have h1 := congrArg (fun l : List (BitVec 8) => (l.getD j 0).toNat) h
    simp only [num8, tl8] at h1
    simpa [List.getD_eq_getElem?_getD, hj] using h1
  have e0 := e 0 (by omega)
  have e1 := e 1 (by omega)
  have e2 := e 2 (by omega)
  have e3 := e 3 (by omega)
  have e4 := e 4 (by omega)
  have e5 := e 5 (by omega)
  have e6 := e 6 (by omega)
  have e7 := e 7 (by omega)
  simp at e0 e1 e2 e3 e4 e5 e6 e7
  omega
theorem app_inj {α : Type} {a b c d : List α} (hl : a.length = c.length) : a ++ b = c ++ d ↔ a = c ∧ b = d := by
  constructor
  · intro h
    exact List.append_inj h hl
  · rintro ⟨rfl, rfl⟩; rfl
theorem num8_iff {n m : Nat} (hn : n < 18446744073709551616) (hm : m < 18446744073709551616) : num8 n = num8 m ↔ n = m := ⟨num8_inj hn hm, fun h => by rw [h]⟩
theorem rootB_iff {n m : Nat} {x y z a b c : List (BitVec 8)} (h : x.length = 32 ∧ y.length = 32 ∧ z.length = 32 ∧ n < 18446744073709551616) (k : a.length = 32 ∧ b.length = 32 ∧ c.length = 32 ∧ m < 18446744073709551616) :
    rootB n x y z = rootB m a b c ↔ n = m ∧ x = a ∧ y = b ∧ z = c := by
  unfold rootB
  rw [List.cons_inj_right, app_inj (by rw [len_num8, len_num8]), app_inj (by omega), app_inj (by omega), num8_iff h.2.2.2 k.2.2.2]
theorem pairB_iff {s : BitVec 8} {x y a b : List (BitVec 8)} (h : x.length = 32) (k : a.length = 32) : pairB s x y = pairB s a b ↔ x = a ∧ y = b := by
  unfold pairB
  rw [List.cons_inj_right, app_inj (by omega)]
theorem valueB_iff {x y nm nn ky kk : List (BitVec 8)} {s t : Nat} (h : x.length = 32) (k : y.length = 32) (h1 : nm.length ≤ 2000 ∧ s < 18446744073709551616) (k1 : nn.length ≤ 2000 ∧ t < 18446744073709551616) :
    valueB x nm s ky = valueB y nn t kk ↔ x = y ∧ nm = nn ∧ s = t ∧ ky = kk := by
  unfold valueB
  rw [List.cons_inj_right, app_inj (by omega), app_inj (by rw [len_num8, len_num8]), num8_iff (by omega) (by omega)]
  constructor
  · rintro ⟨rfl, hl, h2⟩
    obtain ⟨rfl, h3⟩ := (app_inj hl).1 h2
    obtain ⟨h4, rfl⟩ := (app_inj (by rw [len_num8, len_num8])).1 h3
    exact ⟨rfl, rfl, num8_inj h1.2 k1.2 h4, rfl⟩
  · rintro ⟨rfl, rfl, rfl, rfl⟩; exact ⟨rfl, rfl, rfl⟩
theorem info_binding : (Tryd.prog.info? 27).map (·.size) = some 3 := by kernel_rfl
theorem info_root0 : (Tryd.prog.info? 29).map (·.size) = some 97 := by kernel_rfl
theorem info_pair0 : (Tryd.prog.info? 43).map (·.size) = some 64 := by kernel_rfl
theorem info_root (v : Value) (x y z : List (BitVec 8)) (h : x.length = 32 ∧ y.length = 32 ∧ z.length = 32) : (Tryd.prog.info? 29).map (·.size) = some (v :: (cb x ++ (cb y ++ cb z))).length := by
  rw [info_root0, List.length_cons, List.length_append, List.length_append, cb_len, cb_len, cb_len, h.1, h.2.1, h.2.2]
theorem info_pair (x y : List (BitVec 8)) (h : x.length = 32 ∧ y.length = 32) : (Tryd.prog.info? 43).map (·.size) = some (cb x ++ cb y).length := by
  rw [info_pair0, List.length_append, cb_len, cb_len, h.1, h.2]
theorem same_b (va vb : Value) (la lb : List (BitVec 8)) (w : World) (ha : Reads w va la) (hb : Reads w vb lb) :
    Calls Tryd.prog 10 #[va, vb] w fun e w' => e = .returned (.bool (decide (la = lb))) ∧ Below w.heap.size w w' :=
  (same_any va vb la lb w ha hb).mono fun _ _ h => ⟨h.1, by rw [h.2]; exact Below.refl _ _⟩
theorem rKind_b (v : Value) (bs : List (BitVec 8)) (w : World) (hR : Reads w v bs) :
    Calls Tryd.prog 31 #[v] w fun e w' => e = .returned (.int .u8 ((kindB bs).toNat : Int)) ∧ Below w.heap.size w w' :=
  (rKind_any v bs w hR).mono fun _ _ h => ⟨h.1, by rw [h.2]; exact Below.refl _ _⟩
theorem len_pairB (c : BitVec 8) (x y : List (BitVec 8)) (hx : x.length = 32) (hy : y.length = 32) : (pairB c x y).length = 65 := by simp [pairB, hx, hy]
theorem len_rootB (n : Nat) (x y z : List (BitVec 8)) (h : x.length = 32 ∧ y.length = 32 ∧ z.length = 32) : (rootB n x y z).length = 105 := by simp [rootB, h.1, h.2.1, h.2.2, len_num8]
theorem len_valueB (x nm : List (BitVec 8)) (sr : Nat) (ky : List (BitVec 8)) (hx : x.length = 32) : (valueB x nm sr ky).length = 49 + nm.length + ky.length := by simp [valueB, hx, len_num8]; omega
theorem kind_76 (x y : List (BitVec 8)) (hx : x.length = 32) (hy : y.length = 32) : kindB (pairB 76 x y) = 76 := by
  have h := len_pairB 76 x y hx hy
  have e : (pairB 76 x y).getD 0 0 = 76#8 := rfl
  rw [← rkind_eq, h, e]; rfl
theorem kind_78 (x y : List (BitVec 8)) (hx : x.length = 32) (hy : y.length = 32) : kindB (pairB 78 x y) = 78 := by
  have h := len_pairB 78 x y hx hy
  have e : (pairB 78 x y).getD 0 0 = 78#8 := rfl
  rw [← rkind_eq, h, e]; rfl
theorem kind_82 (n : Nat) (x y z : List (BitVec 8)) (h : x.length = 32 ∧ y.length = 32 ∧ z.length = 32) : kindB (rootB n x y z) = 82 := by
  have h := len_rootB n x y z h
  have e : (rootB n x y z).getD 0 0 = 82#8 := rfl
  rw [← rkind_eq, h, e]; rfl
theorem kind_86 (x nm : List (BitVec 8)) (sr : Nat) (ky : List (BitVec 8)) (hx : x.length = 32) (hn : nm.length ≤ 2000) (hk : ky.length ≤ 2000) : kindB (valueB x nm sr ky) = 86 := by
  have h := len_valueB x nm sr ky hx
  have e : (valueB x nm sr ky).getD 0 0 = 86#8 := rfl
  rw [← rkind_eq, h, e]
  have h1 : 49 ≤ 49 + nm.length + ky.length ∧ 49 + nm.length + ky.length ≤ 1073741824 := by omega
  unfold rkind
  rw [if_neg (by decide), if_neg (by decide), if_neg (by decide), if_neg (by decide), if_pos (by decide), if_pos h1]
end Go.Proofs.YtaleeaocmomjlaaDoor

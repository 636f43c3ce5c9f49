/- Texts that the proof leans on, one behind the other: Numbers, texts and lists as bytes, each in one way: plain lists, no program is named here. What the walks of the tree share with those of the older layers: one name for them all. Plain: the bits of 32 bytes, the first one at which two of them part, and which of the two stands ahead. .. -/
import Derived.Test.YtableajopaappaaDoorMga
import Derived.Lib.Bytealg
import Derived.Deep.RegionHeld3
import Derived.Laws.ResultCell
import Derived.RangeFuncNested
import Derived.RangeFuncBound
import Derived.RangeFuncCalls
import Derived.RangeFuncLeaves
import Derived.Shelf.Abstract
import Derived.Shelf.RegionOpen
import Derived.WalkKit
import Derived.OwnWalkIn
import Derived.TacticsInMore
import Derived.LoopNIn
import Derived.LoopIn
import Derived.Scope
import Derived.Lib.BytesEntry
import Derived.Great.BuildSlice
import Derived.Maps.AppendAt
import Derived.Deep.CutRange
import Derived.Deep.DeepCutAuto
import Derived.Deep.RegionHeld
import Derived.RangeFuncFrom
import Derived.OrdersIn
import Derived.TacticsIn
import Derived.Laws.Tables
/- Numbers, texts and lists as bytes, each in one way: plain lists, no program is named here. -/
namespace Go.Proofs.YtableajopaappaaDoor
/-- a number's groups of seven bits, the lowest first -/
def encNum (n : Nat) : List (BitVec 8) := if h : n < 128 then [BitVec.ofNat 8 n] else BitVec.ofNat 8 (n % 128 + 128) :: encNum (n / 128)
termination_by n
decreasing_by omega
theorem encNum_lt {n : Nat} (h : n < 128) : encNum n = [BitVec.ofNat 8 n] := by rw [encNum, dif_pos h]
theorem encNum_ge {n : Nat} (h : ¬ n < 128) : encNum n = BitVec.ofNat 8 (n % 128 + 128) :: encNum (n / 128) := by rw [encNum, dif_neg h]
theorem encNum_pos (n : Nat) : 0 < (encNum n).length := by
  by_cases h : n < 128
  · rw [encNum_lt h]; simp
  · rw [encNum_ge h]; simp
/-- how many groups may still come, which place is the next one's, what was read; the number and what is left -/
def decNum : Nat → Nat → Nat → List (BitVec 8) → Option (Nat × List (BitVec 8))
  | 0, _, _, _ => none
  | _ + 1, _, _, [] => none
  | k + 1, i, acc, c :: r =>
    if (i = 9 ∧ 1 < c.toNat) ∨ (0 < i ∧ c.toNat = 0) then none
    else if c.toNat < 128 then some (acc + c.toNat % 128 * 2 ^ (7 * i), r) else decNum k (i + 1) (acc + c.toNat % 128 * 2 ^ (7 * i)) r
def readNum (b : List (BitVec 8)) : Option (Nat × List (BitVec 8)) := decNum 10 0 0 b
theorem pow7 (i : Nat) : (2 : Nat) ^ (7 * (i + 1)) = 2 ^ (7 * i) * 128 := by rw [show 7 * (i + 1) = 7 * i + 7 by omega, Nat.pow_add]
/-- what was written is read, wherever it stands -/
theorem decNum_enc : ∀ (k i acc n : Nat) (r : List (BitVec 8)), i + k = 10 → (0 < i → 0 < n) → n * 2 ^ (7 * i) < 18446744073709551616 → decNum k i acc (encNum n ++ r) = some (acc + n * 2 ^ (7 * i), r)
  | 0, i, acc, n, r, hk, hp, hn => by
    exfalso
    have h10 : i = 10 := by omega
    subst h10
    have := hp (by omega)
    simp only [Nat.reduceMul, Nat.reducePow] at hn
    omega
  | k + 1, i, acc, n, r, hk, hp, hn => by
    by_cases h : n < 128
    · rw [encNum_lt h, List.singleton_append, decNum]
      have e : (BitVec.ofNat 8 n).toNat = n := by rw [BitVec.toNat_ofNat]; omega
      rw [e]
      have h1 : ¬ ((i = 9 ∧ 1 < n) ∨ (0 < i ∧ n = 0)) := by
        rintro (⟨rfl, h2⟩ | ⟨h2, h3⟩)
        · simp only [Nat.reduceMul, Nat.reducePow] at hn; omega
        · have := hp h2; omega
      rw [if_neg h1, if_pos h, Nat.mod_eq_of_lt h]
    · rw [encNum_ge h, List.cons_append, decNum]
      have e : (BitVec.ofNat 8 (n % 128 + 128)).toNat = n % 128 + 128 := by rw [BitVec.toNat_ofNat]; omega
      rw [e]
      have h9 : i ≠ 9 := by
        rintro rfl
        simp only [Nat.reduceMul, Nat.reducePow] at hn; omega
      have h1 : ¬ ((i = 9 ∧ 1 < n % 128 + 128) ∨ (0 < i ∧ n % 128 + 128 = 0)) := by omega
      have e2 : (n % 128 + 128) % 128 = n % 128 := by omega
      have hd := Nat.div_add_mod n 128
      have e3 : n % 128 * 2 ^ (7 * i) + n / 128 * 2 ^ (7 * (i + 1)) = n * 2 ^ (7 * i) := by
        rw [pow7, ← Nat.mul_assoc, Nat.mul_right_comm, ← Nat.add_mul]
        congr 1; omega
      rw [if_neg h1, if_neg (by omega), e2, decNum_enc k (i + 1) _ (n / 128) r (by omega) (fun _ => by omega) (by omega)]
      congr 2
      omega
/-- what is read was written -/
theorem decNum_some : ∀ (k i acc : Nat) (b r : List (BitVec 8)) (m : Nat), i + k = 10 → decNum k i acc b = some (m, r) → ∃ n, m = acc + n * 2 ^ (7 * i) ∧ (0 < i → 0 < n) ∧ n * 2 ^ (7 * i) < 18446744073709551616 ∧ b = encNum n ++ r
  | 0, _, _, _, _, _, _, h => by simp [decNum] at h
  | k + 1, _, _, [], _, _, _, h => by simp [decNum] at h
  | k + 1, i, acc, c :: t, r, m, hk, h => by
    have hc := c.isLt
    rw [decNum] at h
    by_cases h1 : (i = 9 ∧ 1 < c.toNat) ∨ (0 < i ∧ c.toNat = 0)
    · rw [if_pos h1] at h; cases h
    · rw [if_neg h1] at h
      by_cases h2 : c.toNat < 128
      · rw [if_pos h2] at h
        simp only [Option.some.injEq, Prod.mk.injEq] at h
        obtain ⟨rfl, rfl⟩ := h
        refine ⟨c.toNat, by rw [Nat.mod_eq_of_lt h2], fun hi => by omega, ?_, ?_⟩
        · by_cases h9 : i = 9
          · subst h9
            simp only [Nat.reduceMul, Nat.reducePow]; omega
          · have h8 : 7 * i ≤ 56 := by omega
            have hp : (2 : Nat) ^ (7 * i) ≤ 2 ^ 56 := Nat.pow_le_pow_right (by omega) h8
            have : c.toNat * 2 ^ (7 * i) ≤ 127 * 2 ^ 56 := Nat.mul_le_mul (by omega) hp
            simp only [Nat.reducePow] at this
            omega
        · rw [encNum_lt h2, List.singleton_append]
          congr 1
          apply BitVec.eq_of_toNat_eq
          rw [BitVec.toNat_ofNat]; omega
      · rw [if_neg h2] at h
        have h9 : i ≠ 9 := by omega
        obtain ⟨n, e1, e2, e3, e4⟩ := decNum_some k (i + 1) _ t r m (by omega) h
        have hn := e2 (by omega)
        have hd : (c.toNat % 128 + n * 128) % 128 = c.toNat % 128 := by omega
        have hq : (c.toNat % 128 + n * 128) / 128 = n := by omega
        have e5 : (c.toNat % 128 + n * 128) * 2 ^ (7 * i) = c.toNat % 128 * 2 ^ (7 * i) + n * 2 ^ (7 * (i + 1)) := by
          rw [pow7, Nat.add_mul, Nat.mul_right_comm, Nat.mul_assoc n]
        refine ⟨c.toNat % 128 + n * 128, ?_, fun _ => by omega, ?_, ?_⟩
        · rw [e5, e1]; omega
        · rw [e5]
          have h8 : i ≤ 8 := by omega
          have hz : n * 2 ^ (7 * (i + 1)) + 2 ^ (7 * (i + 1)) ≤ 18446744073709551616 := by
            have hdv : 2 ^ (7 * (i + 1)) ∣ 18446744073709551616 := by
              rw [show (18446744073709551616 : Nat) = 2 ^ 64 from rfl]
              exact Nat.pow_dvd_pow 2 (by omega)
            obtain ⟨q, hq2⟩ := hdv
            rw [hq2] at e3 ⊢
            rw [Nat.mul_comm n] at e3 ⊢
            have hlt : n < q := Nat.lt_of_mul_lt_mul_left e3
            rw [← Nat.mul_succ]
            exact Nat.mul_le_mul_left _ hlt
          have h7 : c.toNat % 128 * 2 ^ (7 * i) < 2 ^ (7 * (i + 1)) := by
            rw [pow7, Nat.mul_comm (2 ^ (7 * i))]
            exact Nat.mul_lt_mul_of_pos_right (by omega) (Nat.pow_pos (by omega))
          omega
        · rw [encNum_ge (by omega), hd, hq, List.cons_append, e4]
          congr 1
          apply BitVec.eq_of_toNat_eq
          rw [BitVec.toNat_ofNat]; omega
theorem readNum_iff (b r : List (BitVec 8)) (n : Nat) : readNum b = some (n, r) ↔ n < 18446744073709551616 ∧ b = encNum n ++ r := by
  constructor
  · intro h
    obtain ⟨m, e1, _, e3, e4⟩ := decNum_some 10 0 0 b r n rfl h
    simp only [Nat.mul_zero, Nat.pow_zero, Nat.mul_one, Nat.zero_add] at e1 e3
    subst e1
    exact ⟨e3, e4⟩
  · rintro ⟨h, rfl⟩
    have := decNum_enc 10 0 0 n r rfl (fun h => by omega) (by simpa using h)
    simpa [readNum] using this
def encText (t : List (BitVec 8)) : List (BitVec 8) := encNum t.length ++ t
def readText (b : List (BitVec 8)) : Option (List (BitVec 8) × List (BitVec 8)) :=
  match readNum b with
  | none => none
  | some (n, r) => if n ≤ 1048576 ∧ n ≤ r.length then some (r.take n, r.drop n) else none
theorem readText_iff (b r t : List (BitVec 8)) : readText b = some (t, r) ↔ t.length ≤ 1048576 ∧ b = encText t ++ r := by
  unfold readText
  constructor
  · intro h
    cases h1 : readNum b with
    | none => rw [h1] at h; cases h
    | some p =>
      obtain ⟨n, q⟩ := p
      rw [h1] at h
      obtain ⟨_, hb⟩ := (readNum_iff _ _ _).1 h1
      simp only at h
      by_cases h2 : n ≤ 1048576 ∧ n ≤ q.length
      · rw [if_pos h2] at h
        simp only [Option.some.injEq, Prod.mk.injEq] at h
        obtain ⟨rfl, rfl⟩ := h
        have hl : (q.take n).length = n := by rw [List.length_take]; omega
        refine ⟨by omega, ?_⟩
        rw [encText, hl, List.append_assoc, List.take_append_drop, hb]
      · rw [if_neg h2] at h; cases h
  · rintro ⟨h, rfl⟩
    rw [encText, List.append_assoc, (readNum_iff _ _ _).2 ⟨by omega, rfl⟩]
    simp only
    rw [if_pos ⟨h, by simp⟩]
    simp
/-- a list of things, each written by f, one behind the other -/
def encAll {α : Type} (f : α → List (BitVec 8)) (l : List α) : List (BitVec 8) := (l.map f).flatten
theorem encAll_cons {α : Type} (f : α → List (BitVec 8)) (a : α) (l : List α) : encAll f (a :: l) = f a ++ encAll f l := by simp [encAll]
def readAll {α : Type} (g : List (BitVec 8) → Option (α × List (BitVec 8))) : Nat → List (BitVec 8) → Option (List α × List (BitVec 8))
  | 0, b => some ([], b)
  | k + 1, b =>
    match g b with
    | none => none
    | some (a, r) =>
      match readAll g k r with
      | none => none
      | some (l, s) => some (a :: l, s)
theorem readAll_iff {α : Type} {f : α → List (BitVec 8)} {g : List (BitVec 8) → Option (α × List (BitVec 8))} {ok : α → Prop} (hg : ∀ b r a, g b = some (a, r) ↔ ok a ∧ b = f a ++ r) :
    ∀ (k : Nat) (b r : List (BitVec 8)) (l : List α), readAll g k b = some (l, r) ↔ l.length = k ∧ (∀ a ∈ l, ok a) ∧ b = encAll f l ++ r
  | 0, b, r, l => by
    simp only [readAll, Option.some.injEq, Prod.mk.injEq]
    constructor
    · rintro ⟨rfl, rfl⟩; simp [encAll]
    · rintro ⟨h1, _, h3⟩
      have := List.eq_nil_of_length_eq_zero h1
      subst this
      simp [encAll] at h3
      exact ⟨rfl, h3⟩
  | k + 1, b, r, l => by
    rw [readAll]
    constructor
    · intro h
      cases h1 : g b with
      | none => rw [h1] at h; cases h
      | some p =>
        obtain ⟨a, q⟩ := p
        rw [h1] at h
        simp only at h
        cases h2 : readAll g k q with
        | none => rw [h2] at h; cases h
        | some p2 =>
          obtain ⟨l2, s⟩ := p2
          rw [h2] at h
          simp only [Option.some.injEq, Prod.mk.injEq] at h
          obtain ⟨rfl, rfl⟩ := h
          obtain ⟨o1, rfl⟩ := (hg _ _ _).1 h1
          obtain ⟨o2, o3, rfl⟩ := (readAll_iff hg k _ _ _).1 h2
          refine ⟨by simp [o2], ?_, by rw [encAll_cons, List.append_assoc]⟩
          intro x hx
          rcases List.mem_cons.1 hx with rfl | hx
          · exact o1
          · exact o3 x hx
    · rintro ⟨h1, h2, rfl⟩
      cases l with
      | nil => simp at h1
      | cons a l =>
        rw [encAll_cons, List.append_assoc, (hg _ _ _).2 ⟨h2 a (by simp), rfl⟩]
        simp only
        rw [(readAll_iff hg k _ _ l).2 ⟨by simpa using h1, fun x hx => h2 x (by simp [hx]), rfl⟩]
def encList {α : Type} (f : α → List (BitVec 8)) (l : List α) : List (BitVec 8) := encNum l.length ++ encAll f l
def readList {α : Type} (g : List (BitVec 8) → Option (α × List (BitVec 8))) (b : List (BitVec 8)) : Option (List α) :=
  match readNum b with
  | none => none
  | some (n, r) => if n ≤ 4096 then (match readAll g n r with | some (l, []) => some l | _ => none) else none
theorem readList_iff {α : Type} {f : α → List (BitVec 8)} {g : List (BitVec 8) → Option (α × List (BitVec 8))} {ok : α → Prop} (hg : ∀ b r a, g b = some (a, r) ↔ ok a ∧ b = f a ++ r) (b : List (BitVec 8)) (l : List α) :
    readList g b = some l ↔ l.length ≤ 4096 ∧ (∀ a ∈ l, ok a) ∧ b = encList f l := by
  unfold readList
  constructor
  · intro h
    cases h1 : readNum b with
    | none => rw [h1] at h; cases h
    | some p =>
      obtain ⟨n, r⟩ := p
      rw [h1] at h
      simp only at h
      obtain ⟨_, hb⟩ := (readNum_iff _ _ _).1 h1
      by_cases h2 : n ≤ 4096
      · rw [if_pos h2] at h
        cases h3 : readAll g n r with
        | none => rw [h3] at h; cases h
        | some p =>
          obtain ⟨l2, s⟩ := p
          rw [h3] at h
          cases s with
          | cons x s => simp at h
          | nil =>
            simp only [Option.some.injEq] at h
            subst h
            obtain ⟨o1, o2, o3⟩ := (readAll_iff hg n _ _ _).1 h3
            exact ⟨by omega, o2, by rw [hb, o3, List.append_nil, encList, o1]⟩
      · rw [if_neg h2] at h; cases h
  · rintro ⟨h1, h2, rfl⟩
    rw [encList, (readNum_iff _ _ _).2 ⟨by omega, rfl⟩]
    simp only
    rw [if_pos h1]
    have := (readAll_iff hg l.length (encAll f l) [] l).2 ⟨rfl, h2, by simp⟩
    rw [this]
theorem readText_ok : ∀ b r a, readText b = some (a, r) ↔ a.length ≤ 1048576 ∧ b = encText a ++ r := fun b r a => readText_iff b r a
end Go.Proofs.YtableajopaappaaDoor
/- What the walks of the tree share with those of the older layers: one name for them all. -/

/- Plain: the bits of 32 bytes, the first one at which two of them part, and which of the two stands ahead. -/
namespace Go.Proofs.YtableajopaappaaDoor
open Go.RowKit
set_option maxRecDepth 100000
/-- bit i of the bytes x, the highest of the first byte first -/
def bt (x : List (BitVec 8)) (i : Nat) : Bool := (x.getD (i / 8) 0).getMsbD (i % 8)
def isB (i : Int) : Bool := decide (0 ≤ i) && decide (i < 256)
def bitI (x : List (BitVec 8)) (i : Int) : Bool := isB i && bt x i.toNat
def mask (i : Nat) : BitVec 8 := 128#8 >>> (i % 8)
def setB (b : BitVec 8) (i : Nat) (on : Bool) : BitVec 8 := if on then b ||| mask i else b &&& ~~~(mask i)
def setN (x : List (BitVec 8)) (i : Nat) (on : Bool) : List (BitVec 8) := x.set (i / 8) (setB (x.getD (i / 8) 0) i on)
def setI (x : List (BitVec 8)) (i : Int) (on : Bool) : List (BitVec 8) := if isB i then setN x i.toNat on else x
theorem isB_iff (i : Int) : isB i = true ↔ 0 ≤ i ∧ i < 256 := by simp [isB]
theorem bitI_nat (x : List (BitVec 8)) (i : Nat) (h : i < 256) : bitI x (i : Int) = bt x i := by
  have : isB (i : Int) = true := (isB_iff _).2 ⟨by omega, by omega⟩
  simp [bitI, this]
theorem setI_nat (x : List (BitVec 8)) (i : Nat) (on : Bool) (h : i < 256) : setI x (i : Int) on = setN x i on := by
  have : isB (i : Int) = true := (isB_iff _).2 ⟨by omega, by omega⟩
  simp [setI, this]
theorem setN_len (x : List (BitVec 8)) (i : Nat) (on : Bool) : (setN x i on).length = x.length := by simp [setN]
theorem setI_len (x : List (BitVec 8)) (i : Int) (on : Bool) : (setI x i on).length = x.length := by unfold setI; split <;> simp [setN_len]
theorem mask_msb : ∀ k j : Fin 8, (128#8 >>> k.val).getMsbD j.val = decide (j = k) := by decide +kernel
theorem mask_and : ∀ (b : BitVec 8) (k : Fin 8), decide (b &&& (128#8 >>> k.val) = 0#8) = !b.getMsbD k.val := by decide +kernel
theorem mask_div : ∀ (b : BitVec 8) (k : Fin 8), decide (b.toNat / 2 ^ (7 - k.val) % 2 = 1) = b.getMsbD k.val := by decide +kernel
theorem setB_msb (b : BitVec 8) (i : Nat) (on : Bool) (j : Nat) (hj : j < 8) : (setB b i on).getMsbD j = if j = i % 8 then on else b.getMsbD j := by
  have h := mask_msb ⟨i % 8, by omega⟩ ⟨j, hj⟩
  simp only [Fin.mk.injEq] at h
  unfold setB mask
  cases on
  · simp only [Bool.false_eq_true, if_false, BitVec.getMsbD_and, BitVec.getMsbD_not, h]
    by_cases e : j = i % 8 <;> simp [e, hj]
  · simp only [if_true, BitVec.getMsbD_or, h]
    by_cases e : j = i % 8 <;> simp [e]
theorem bt_set (x : List (BitVec 8)) (hx : x.length = 32) (i j : Nat) (on : Bool) (hi : i < 256) (_ : j < 256) : bt (setN x i on) j = if j = i then on else bt x j := by
  unfold bt setN
  by_cases h : i / 8 = j / 8
  · rw [h, List.getD_eq_getElem?_getD, List.getElem?_set_self (by omega), Option.getD_some, setB_msb _ _ _ _ (by omega)]
    by_cases e : j = i
    · subst e; simp
    · rw [if_neg (by omega), if_neg e]
  · rw [List.getD_eq_getElem?_getD, List.getElem?_set_ne h, if_neg (by intro e; subst e; exact h rfl), List.getD_eq_getElem?_getD]
theorem bits_ext (x y : List (BitVec 8)) (hx : x.length = 32) (hy : y.length = 32) (h : ∀ j, j < 256 → bt x j = bt y j) : x = y := by
  apply List.ext_getElem (by omega)
  intro k h1 h2
  apply BitVec.eq_of_getMsbD_eq
  intro j hj
  have := h (8 * k + j) (by omega)
  unfold bt at this
  rw [show (8 * k + j) / 8 = k by omega, show (8 * k + j) % 8 = j by omega] at this
  simpa [h1, h2] using this
/-- how many bits, from the first one on, are alike -/
def common (x y : List (BitVec 8)) : Nat := ((List.range 256).find? fun i => bt x i != bt y i).getD 256
theorem common_spec (x y : List (BitVec 8)) : common x y ≤ 256 ∧ (∀ j, j < common x y → bt x j = bt y j) ∧ (common x y < 256 → bt x (common x y) ≠ bt y (common x y)) := by
  unfold common
  cases h : (List.range 256).find? fun i => bt x i != bt y i with
  | none =>
    rw [List.find?_eq_none] at h
    refine ⟨by simp, fun j hj => ?_, fun h => by simp at h⟩
    have := h j (by simpa using hj)
    simpa using this
  | some n =>
    obtain ⟨h1, ps, qs, h2, h3⟩ := List.find?_eq_some_iff_append.1 h
    have hn : n ∈ List.range 256 := by rw [h2]; simp
    have hlen : ps.length = n := by
      have e1 : (List.range 256)[ps.length]? = some n := by rw [h2]; simp
      rw [List.getElem?_range (by have := congrArg List.length h2; simp at this; omega)] at e1
      exact Option.some.inj e1
    simp only [Option.getD_some]
    refine ⟨by have := List.mem_range.1 hn; omega, fun j hj => ?_, fun _ => by simpa using h1⟩
    have hm : j ∈ ps := by
      have e1 : (List.range 256)[j]? = some j := List.getElem?_range (by have := List.mem_range.1 hn; omega)
      rw [h2, List.getElem?_append_left (by omega)] at e1
      exact List.mem_of_getElem? e1
    have := h3 j hm
    simpa using this
theorem common_is (x y : List (BitVec 8)) (n : Nat) (h0 : n ≤ 256) (h1 : ∀ j, j < n → bt x j = bt y j) (h2 : n < 256 → bt x n ≠ bt y n) : common x y = n := by
  obtain ⟨a, b, c⟩ := common_spec x y
  rcases Nat.lt_trichotomy (common x y) n with h | h | h
  · exact absurd (h1 _ h) (c (by omega))
  · exact h
  · exact absurd (b _ h) (h2 (by omega))
/-- y is x with all bits from n on off -/
def IsCut (x : List (BitVec 8)) (n : Int) (y : List (BitVec 8)) : Prop := y.length = 32 ∧ ∀ j, j < 256 → bt y j = (decide ((j : Int) < n) && bt x j)
theorem IsCut.common {a b y z : List (BitVec 8)} (h : IsCut a (common a b : Int) y) (k : IsCut b (common a b : Int) z) : y = z :=
  bits_ext y z h.1 k.1 fun j hj => by
    rw [h.2 j hj, k.2 j hj]
    by_cases hlt : j < Go.Proofs.YtableajopaappaaDoor.common a b
    · rw [(common_spec a b).2.1 j hlt]
    · have : ¬ ((j : Int) < (Go.Proofs.YtableajopaappaaDoor.common a b : Int)) := by omega
      simp [this]
/-- is x, byte by byte, ahead of y -/
def lessB : List (BitVec 8) → List (BitVec 8) → Bool
  | a :: ps, b :: qs => if a = b then lessB ps qs else decide (a.toNat < b.toNat)
  | _, _ => false
theorem lessB_self : ∀ x, lessB x x = false
  | [] => rfl
  | a :: x => by simp [lessB, lessB_self x]
/-- all bits, each with its number -/
def pathBits (x : List (BitVec 8)) (k : Nat) : List (Nat × Bool) := (List.range k).map fun j => (j, bt x j)
theorem pathBits_succ (x : List (BitVec 8)) (k : Nat) : pathBits x (k + 1) = pathBits x k ++ [(k, bt x k)] := by simp [pathBits, List.range_succ]
end Go.Proofs.YtableajopaappaaDoor
/- Laws for the walks of path: a digest in memory, step by step; two operations that may come up in either order. -/
namespace Go.Proofs.YtableajopaappaaDoor
open Go.RowKit
set_option maxRecDepth 100000
theorem wpSeq_val {P : Program} {ops : Array Oper} {Q : Exit → Act → World → Prop} {rest : List Oper} {o : Oper} {a : Act} {w : World} (v : Value) (w' : World) (hw : Region.wanted o (yielded ops a.tmps) = true)
    (he : (execOp a.eval o).run P w = .ok (.value v) w') (h : wpList P ops Q rest (a.put o.dst v) w') : wpList P ops Q (o :: rest) a w := by
  unfold wpList
  simp only [hw, if_true]
  left
  unfold Oper.wp
  rw [he, Oper.upon_value]
  exact h
theorem info_digest : (Tryd.prog.info? 23).map (·.size) = some 32 := by kernel_rfl
theorem allocDigest (f : Operand → Value) (o : Oper) (ho : o.op = .alloc 23) (w : World) : (execOp f o).run Tryd.prog w = .ok (.value (.pointer (some ⟨w.heap.size, 0, none⟩))) (w.alloc (.cells (cb zb32).toArray 23)) := by
  unfold execOp
  rw [ho]
  kernel_rfl
/-- a new block with the bytes x -/
structure NewB (x : List (BitVec 8)) (w : World) (g : Nat) (w' : World) : Prop where
  ge : w.heap.size ≤ g
  blk : Blk w' g (cb x) 23
  below : Below w.heap.size w w'
theorem NewB.of (x : List (BitVec 8)) (w : World) : NewB x w w.heap.size (w.alloc (.cells (cb x).toArray 23)) := ⟨Nat.le_refl _, Blk.new w _ _, below_alloc w _⟩
theorem wpSeq_allocD {ops : Array Oper} {Q : Exit → Act → World → Prop} {rest : List Oper} {o : Oper} {a : Act} {w : World} (ho : o.op = .alloc 23) (hw : Region.wanted o (yielded ops a.tmps) = true)
    (h : ∀ g w', NewB zb32 w g w' → wpList Tryd.prog ops Q rest (a.put o.dst (.pointer (some ⟨g, 0, none⟩))) w') : wpList Tryd.prog ops Q (o :: rest) a w :=
  wpSeq_val _ _ hw (allocDigest _ _ ho _) (h _ _ (NewB.of zb32 w))
theorem boxDigest (f : Operand → Value) (o : Oper) (x : Operand) (ho : o.op = .box 23 x) (l : List (BitVec 8)) (hx : f x = .agg (cb l).toArray) (w : World) : (execOp f o).run Tryd.prog w = .ok (.value (.pointer (some ⟨w.heap.size, 0, none⟩))) (w.alloc (.cells (cb l).toArray 23)) := by
  unfold execOp
  rw [ho]
  simp only [hx]
  rfl
theorem wpSeq_boxD {ops : Array Oper} {Q : Exit → Act → World → Prop} {rest : List Oper} {o : Oper} {a : Act} {w : World} (x : Operand) (l : List (BitVec 8)) (ho : o.op = .box 23 x) (hx : a.eval x = .agg (cb l).toArray) (hw : Region.wanted o (yielded ops a.tmps) = true)
    (h : ∀ g w', NewB l w g w' → wpList Tryd.prog ops Q rest (a.put o.dst (.pointer (some ⟨g, 0, none⟩))) w') : wpList Tryd.prog ops Q (o :: rest) a w :=
  wpSeq_val _ _ hw (boxDigest _ _ x ho l hx _) (h _ _ (NewB.of l w))
theorem loadDigest {a : Act} {o : Oper} {w : World} (x : Operand) (g : Nat) (l : List (BitVec 8)) (hl : l.length = 32) (hb : Blk w g (cb l) 23) (ho : o.op = .load 23 x) (hx : a.eval x = .pointer (some ⟨g, 0, none⟩)) : (execOp a.eval o).run Tryd.prog w = .ok (.value (.agg (cb l).toArray)) w :=
  load_run 23 x ho g 0 hx (cb l) _ hb.range Tryd.underlying23 rfl (by rw [cb_len, hl]; exact info_digest)
theorem wpSeq_loadD {ops : Array Oper} {Q : Exit → Act → World → Prop} {rest : List Oper} {o : Oper} {a : Act} {w : World} (x : Operand) (g : Nat) (l : List (BitVec 8)) (hl : l.length = 32) (hb : Blk w g (cb l) 23) (ho : o.op = .load 23 x) (hx : a.eval x = .pointer (some ⟨g, 0, none⟩)) (hw : Region.wanted o (yielded ops a.tmps) = true)
    (h : wpList Tryd.prog ops Q rest (a.put o.dst (.agg (cb l).toArray)) w) : wpList Tryd.prog ops Q (o :: rest) a w :=
  wpSeq_val _ _ hw (loadDigest x g l hl hb ho hx) h
/-- block g alone has changed: it has the bytes x now -/
structure SetB (x : List (BitVec 8)) (w : World) (g : Nat) (w' : World) : Prop where
  blk : Blk w' g (cb x) 23
  only : Only g w w'
theorem SetB.of (l x : List (BitVec 8)) (hl : l.length = 32) (hx : x.length = 32) {w : World} {g : Nat} (hb : Blk w g (cb l) 23) : SetB x w g (w.setCells g 0 (cb x)) :=
  ⟨hb.whole (cb x) (by rw [cb_len, cb_len]; omega), Only.setCells _ _ _ (Only.refl g w)⟩
theorem wpSeq_storeD {ops : Array Oper} {Q : Exit → Act → World → Prop} {rest : List Oper} {o : Oper} {a : Act} {w : World} (x y : Operand) (g : Nat) (l n : List (BitVec 8)) (hl : l.length = 32) (hn : n.length = 32) (hb : Blk w g (cb l) 23) (ho : o.op = .store 23 x y) (hx : a.eval x = .pointer (some ⟨g, 0, none⟩)) (hy : a.eval y = .agg (cb n).toArray) (hgd : o.guard = none)
    (h : ∀ w', SetB n w g w' → wpList Tryd.prog ops Q rest (a.put o.dst undef) w') : wpList Tryd.prog ops Q (o :: rest) a w :=
  wpList_store_mid hgd 23 x y ho g 0 _ hx hy (hb.there 0 _ (by rw [List.size_toArray, cb_len, cb_len]; omega)) (by rw [List.size_toArray, cb_len, hn]; exact info_digest) (all_oneCell_toArray (cb_one n))
    (by rw [List.toList_toArray]; exact h _ (SetB.of l n hl hn hb))
theorem indexDig (k g : Nat) (hk : k < 32) (f : Operand → Value) (o : Oper) (x y : Operand) (ho : o.op = .indexAddr 23 x y) (h1 : f x = .pointer (some ⟨g, 0, none⟩)) (h2 : f y = .int .i64 (k : Int)) (w : World) :
    (execOp f o).run Tryd.prog w = .ok (.value (.pointer (some ⟨g, k, none⟩))) w := by
  have k0 : (0 : Int) ≤ (k : Int) := by omega
  have k1 : (k : Int) < 32 := by omega
  unfold execOp
  rw [ho]
  simp [go_sem, h1, h2, k0, k1]
theorem Over.blk {w0 wx : World} {g : Nat} {cs : List Value} {t : TypeId} (h : Over w0 wx) (hb : Blk w0 g cs t) : Blk wx g cs t := hb.below h hb.lt
theorem SetB.byte {l : List (BitVec 8)} {w : World} {g k : Nat} {b : BitVec 8} (hb : Blk w g (cb l) 23) : SetB (l.set k b) w g (w.setCell ⟨g, k, none⟩ (.int .u8 (b.toNat : Int))) := by
  refine ⟨?_, Only.setCell (Only.refl g w) k _⟩
  have := hb.set k (.int .u8 (b.toNat : Int))
  rwa [cb_set] at this
end Go.Proofs.YtableajopaappaaDoor
/- The walks of path's smallest functions. -/
namespace Go.Proofs.YtableajopaappaaDoor
open Go.RowKit
set_option maxRecDepth 100000
theorem mask_nat : ∀ k : Fin 8, ((128#8 >>> k.val).toNat : Int) = 128 / 2 ^ k.val := by decide +kernel
theorem bitOf_any (n : Nat) (w : World) : Calls Tryd.prog 113 #[.int .i64 (n : Int)] w fun e w' => e = .returned (.int .u8 ((mask n).toNat : Int)) ∧ w' = w := by
  have e1 : Int.tmod (n : Int) 8 = ((n % 8 : Nat) : Int) := by rw [Int.tmod_eq_emod_of_nonneg (by omega)]; omega
  have e2 := mask_nat ⟨n % 8, by omega⟩
  simp only at e2
  go_enter Tryd.func113, Tryd.ntmps113
  go_wp2
  go_ret
  exact ⟨by rw [mask, e2]; rfl, rfl⟩
theorem ofInt_toNat8 (x : BitVec 8) : BitVec.ofInt 8 (x.toNat : Int) = x := by apply BitVec.eq_of_toNat_eq; simp
theorem wrap_lt8 (x : BitVec 8) : IntKind.u8.wrap (x.toNat : Int) = (x.toNat : Int) := by
  have := x.isLt
  simp [IntKind.wrap, IntKind.bits, IntKind.signed]; omega
theorem u8_and (x y : BitVec 8) : bits .and .u8 (x.toNat : Int) (y.toNat : Int) = ((x &&& y).toNat : Int) := by
  show IntKind.u8.wrap ((BitVec.ofInt 8 (x.toNat : Int) &&& BitVec.ofInt 8 (y.toNat : Int)).toNat : Int) = _
  rw [ofInt_toNat8, ofInt_toNat8, wrap_lt8]
end Go.Proofs.YtableajopaappaaDoor
/- The walks of the reference's Bit and Set. -/
namespace Go.Proofs.YtableajopaappaaDoor
open Go.RowKit
set_option maxRecDepth 100000
theorem wrap_small (k : Int) (h0 : 0 ≤ k) (h1 : k < 1000000) : IntKind.i64.wrap k = k := by simp [IntKind.wrap, IntKind.bits, IntKind.signed]; omega
theorem notB {i : Int} (h : isB i = false) : (i < 0) ∨ (0 ≤ i ∧ 255 < i) := by
  have h2 : ¬ (0 ≤ i ∧ i < 256) := fun hh => by rw [(isB_iff i).2 hh] at h; cases h
  omega
set_option maxHeartbeats 1000000 in
theorem sBit_any (x : List (BitVec 8)) (hx : x.length = 32) (i : Int) (w : World) : Calls Tryd.prog 53 #[.agg (cb x).toArray, .int .i64 i] w fun e w' => e = .returned (.bool (bitI x i)) ∧ Below w.heap.size w w' := by
  by_cases hb : isB i = true
  · obtain ⟨h0, h1⟩ := (isB_iff i).1 hb
    obtain ⟨n, rfl⟩ : ∃ n : Nat, i = (n : Int) := ⟨i.toNat, by omega⟩
    obtain ⟨k, hk⟩ : ∃ k, k = n / 8 := ⟨_, rfl⟩
    obtain ⟨m, hm⟩ : ∃ m, m = n % 8 := ⟨_, rfl⟩
    have e1 : Int.tdiv (n : Int) 8 = (k : Int) := by rw [Int.tdiv_eq_ediv_of_nonneg (by omega)]; omega
    have e2 : IntKind.i64.wrap (k : Int) = (k : Int) := wrap_small _ (by omega) (by omega)
    have e3 : Int.tmod (n : Int) 8 = (m : Int) := by rw [Int.tmod_eq_emod_of_nonneg (by omega)]; omega
    have e4 : IntKind.i64.wrap (m : Int) = (m : Int) := wrap_small _ (by omega) (by omega)
    have g1 : ¬ ((n : Int) < 0) := by omega
    have g2 : ¬ ((255 : Int) < (n : Int)) := by omega
    have HK32 : Hid (k < 32) := by show _ < _; omega
    have HKX : Hid (k < x.length) := by show _ < _; omega
    have HM : Hid (m < 8) := by show _ < _; omega
    obtain ⟨b, hbb⟩ : ∃ b, b = x.getD k 0 := ⟨_, rfl⟩
    have HR : Hid (bitI x (n : Int) = decide (b.toNat / 2 ^ (7 - m) % 2 = 1)) := by
      show _ = _
      rw [bitI, hb, Bool.true_and, Int.toNat_natCast, bt, ← hk, ← hbb, ← hm]
      exact (mask_div b ⟨m, HM.out⟩).symm
    have HBB : Hid (b = x.getD k 0) := hbb
    have HBL : Hid (b.toNat < 256) := b.isLt
    clear h0 h1 hb hk hm hbb hx
    obtain ⟨o, HO⟩ : ∃ o, Hid (o = bitI x (n : Int)) := ⟨_, rfl⟩
    rw [← HO.out]
    go_enter Tryd.func53, Tryd.ntmps53
    go_wp2_with (first
        | (with_reducible refine wpSeq_boxD (.tmp 0) x ?_ ?_ ?_ ?_
           · rfl
           · rfl
           · rfl
           intro g0 w1 n1
           have hcell : w1.cell? ⟨g0, k, none⟩ = some (.int .u8 (b.toNat : Int)) := by rw [n1.blk.cell, cb_get x k HKX.out, HBB.out]
           have HBW : Hid (Below w.heap.size w w1) := n1.below
           clear n1)
        | (with_reducible refine wpSeq_val (.pointer (some ⟨g0, k, none⟩)) w1 ?_ ?_ ?_
           · rfl
           · exact indexDig k g0 HK32.out _ _ _ _ rfl rfl rfl w1))
    go_loopw [5, 6] (fun c kk wr => ∃ q C : Nat, m ≤ q ∧ q ≤ 7 ∧ kk = .int .i64 (q : Int) ∧ c = .int .i64 (C : Int) ∧ C = b.toNat / 2 ^ (7 - q) ∧ wr = w1) (fun _ kk _ => (intOf kk).toNat)
    case atStart => exact ⟨7, b.toNat, by have := HM.out; omega, by omega, rfl, rfl, by simp, rfl⟩
    case round =>
      obtain ⟨q, C, hmq, hq7, rfl, rfl, hC, rfl⟩ := hrel
      have HC : Hid (C = b.toNat / 2 ^ (7 - q)) := hC
      have HC2 : Hid (C < 256) := by show _ < _; rw [hC]; exact Nat.lt_of_le_of_lt (Nat.div_le_self _ _) HBL.out
      have HQ : Hid (m ≤ q ∧ q ≤ 7) := ⟨hmq, hq7⟩
      by_cases hlt : m < q
      · have i1 : (m : Int) < (q : Int) := by omega
        obtain ⟨C2, hC2⟩ : ∃ C2, C2 = C / 2 := ⟨_, rfl⟩
        obtain ⟨q2, hq2⟩ : ∃ q2, q = q2 + 1 := ⟨q - 1, by omega⟩
        have f1 : Int.tdiv (C : Int) 2 = (C2 : Int) := by rw [Int.tdiv_eq_ediv_of_nonneg (by omega)]; omega
        have f2 : IntKind.i64.wrap (C2 : Int) = (C2 : Int) := wrap_small _ (by omega) (by have := HC2.out; omega)
        have f3 : (q : Int) - 1 = (q2 : Int) := by omega
        have f4 : IntKind.i64.wrap (q2 : Int) = (q2 : Int) := wrap_small _ (by omega) (by omega)
        have HN : Hid (C2 = b.toNat / 2 ^ (7 - q2)) := by
          show _ = _
          rw [hC2, hC, Nat.div_div_eq_div_mul, show 7 - q2 = (7 - q) + 1 by omega, Nat.pow_succ]
        have HQ2 : Hid (q = q2 + 1) := hq2
        clear hmq hq7 hC hlt hC2 hq2 HC
        go_wp2
        go_roundw
        case rel => exact ⟨q2, C2, by have := HQ.out; have := HQ2.out; have : (m : Int) < (q : Int) := i1; omega, by have := HQ.out; have := HQ2.out; omega, rfl, rfl, HN.out, by first | trivial | rfl⟩
        case measure => have := HQ2.out; simp [intOf]; omega
      · have hqm : q = m := by omega
        subst hqm
        have i1 : ¬ ((q : Int) < (q : Int)) := by omega
        obtain ⟨r, hr⟩ : ∃ r, r = C % 2 := ⟨_, rfl⟩
        have f1 : Int.tmod (C : Int) 2 = (r : Int) := by rw [Int.tmod_eq_emod_of_nonneg (by omega)]; omega
        have f2 : IntKind.i64.wrap (r : Int) = (r : Int) := wrap_small _ (by omega) (by omega)
        have HN : Hid (o = ((r : Int) == 1)) := by
          show _ = _
          rw [HO.out, HR.out, hr, hC, Bool.eq_iff_iff, decide_eq_true_iff, beq_iff_eq]; omega
        clear hmq hq7 hC hlt hr HC HR HO
        go_wp2
        go_ret
        exact ⟨by rw [HN.out]; rfl, HBW.out⟩
  · have hb' : isB i = false := by simpa using hb
    have HR : Hid (bitI x i = false) := by show _ = _; rw [bitI, hb']; rfl
    have hc := notB hb'
    clear hb hb' hx
    rw [HR.out]
    rcases hc with h1 | ⟨h0, h1⟩
    all_goals
      go_enter Tryd.func53, Tryd.ntmps53
      go_wp2
      go_ret
      exact ⟨rfl, below_alloc w _⟩
end Go.Proofs.YtableajopaappaaDoor
/- path.Bits, and the function that it hands out: it yields all bits, in order. -/
namespace Go.Proofs.YtableajopaappaaDoor
open Go.RowKit Go.Shelf
set_option maxRecDepth 100000
attribute [local go_sem] Oper.semAt_some
theorem pBits_any (x : List (BitVec 8)) (w : World) : Calls Tryd.prog 102 #[.agg (cb x).toArray] w fun e w' => ∃ g, e = .returned (.func (.func 112) #[] #[.pointer (some ⟨g, 0, none⟩)]) ∧ NewB x w g w' := by
  go_enter Tryd.func102, Tryd.ntmps102
  go_wp2
  go_ret
  exact ⟨_, rfl, NewB.of x w⟩
theorem noGoto_normal {Q : Exit → Act → World → Prop} {a : Act} {w : World} (h : Q .normal a w) : Exit.noGoto Q .normal a w := h
theorem idx_dig (x : List (BitVec 8)) (hx : x.length = 32) (k : Nat) (hk : k < 32) (w : World) : (Instr.index 23 (.agg (cb x).toArray) (.int .i64 (k : Int))).run Tryd.prog w = .ok (.int .u8 ((x.getD k 0).toNat : Int)) w := by
  have hs : ∀ w, (sizeOf 5).run Tryd.prog w = .ok 1 w := fun w => by kernel_rfl
  have k0 : (0 : Int) ≤ (k : Int) ∧ (k : Int) < ((32 : Nat) : Int) := by omega
  unfold Instr.index
  simp only [asIntOf, Sem.run_bind, Sem.run_pure, Result.andThen_ok, run_underlying Tryd.underlying23]
  rw [if_pos k0]
  simp only [Sem.run_bind, hs, Result.andThen_ok, Int.toNat_natCast, Nat.mul_one]
  exact eq_part x hx k hk w
end Go.Proofs.YtableajopaappaaDoor
/- Laws for loops over a function: a digest and a number in memory, inside a round; blocks that abide. -/
namespace Go.Proofs.YtableajopaappaaDoor
open Go.RowKit Go.Shelf
set_option maxRecDepth 100000
attribute [local go_sem] Oper.semAt_some
/-- a new block of one cell -/
structure NewC (v : Value) (t : TypeId) (w : World) (g : Nat) (w' : World) : Prop where
  ge : w.heap.size ≤ g
  blk : Blk w' g [v] t
  below : Below w.heap.size w w'
theorem NewC.of (v : Value) (t : TypeId) (w : World) : NewC v t w w.heap.size (w.alloc (.cells #[v] t)) := ⟨Nat.le_refl _, Blk.new w [v] t, below_alloc w _⟩
theorem blk_own {β : Type} (g : Nat) (cs : β → List Value) (t : TypeId) : Own (fun (s : β) W => Blk W g (cs s) t) := fun s X Y row hs hg hr => by
  have hs' : X.heap[g]? = some (.cells (cs s).toArray t (0, 0)) := hs
  show Y.heap[g]? = some (.cells (cs s).toArray t (0, 0))
  rw [hg.block g (Array.getElem?_eq_some_iff.1 hs').1 (fun e => ?_)]
  · exact hs'
  · obtain ⟨o, ho, hc⟩ := hr g e.symm
    rw [hs'] at ho; cases ho; cases hc
theorem Blk.put {W : World} {g : Nat} {cs : List Value} {t : TypeId} (h : Blk W g cs t) {D : Nat} {o o' : Obj} (hD : W.heap[D]? = some o) (ho : o.isCells = false) : Blk (W.putObj D o') g cs t :=
  blk_own (β := Unit) g (fun _ => cs) t () W _ (some D) h (grownBy_putObj' W D o') (fun r e => by cases e; exact ⟨o, hD, ho⟩)
theorem keepsOthers_of_below {W W' : World} (h : Below W.heap.size W W') : KeepsOthers W W' :=
  ⟨h.size, fun k _ hk _ => (h.block k (Array.getElem?_eq_some_iff.1 hk).1).trans hk⟩
end Go.Proofs.YtableajopaappaaDoor
/- The walks of Common. -/
namespace Go.Proofs.YtableajopaappaaDoor
open Go.RowKit Go.Shelf
set_option maxRecDepth 100000
attribute [local go_sem] Oper.semAt_some
theorem bits_split {x : List (BitVec 8)} {k : Nat} {pre : List (Nat × Bool)} {p : Nat × Bool} (h : pathBits x k = pre ++ [p]) : ∃ j, k = j + 1 ∧ pre = pathBits x j ∧ p = (j, bt x j) := by
  cases k with
  | zero => simp [pathBits] at h
  | succ j =>
    rw [pathBits_succ] at h
    obtain ⟨h1, h2⟩ := List.append_inj' h rfl
    exact ⟨j, rfl, h1.symm, by simpa using h2.symm⟩
theorem mem_bits {x : List (BitVec 8)} {k : Nat} {j : Nat} (h : j < k) : (j, bt x j) ∈ pathBits x k := by
  unfold pathBits
  exact List.mem_map.2 ⟨j, List.mem_range.2 h, rfl⟩
/-- what Common has seen: bits that y has too -/
def CmI (y : List (BitVec 8)) (g1 g2 : Nat) (pre : List (Nat × Bool)) (W : World) : Prop := Blk W g1 (cb y) 23 ∧ Blk W g2 [.int .i64 0] 3 ∧ ∀ p ∈ pre, p.2 = bitI y (p.1 : Int)
/-- the last bit that Common has seen is the first that y has not -/
def CmX (y : List (BitVec 8)) (g2 : Nat) (c : Code) (pre : List (Nat × Bool)) (W : World) : Prop :=
  ∃ pr p, c = .ret ∧ pre = pr ++ [p] ∧ (∀ q ∈ pr, q.2 = bitI y (q.1 : Int)) ∧ p.2 ≠ bitI y (p.1 : Int) ∧ Blk W g2 [.int .i64 (p.1 : Int)] 3
theorem CmI.own (y : List (BitVec 8)) (g1 g2 : Nat) : Own (CmI y g1 g2) := fun _ A B row hs hg hr =>
  ⟨blk_own (β := Unit) g1 (fun _ => cb y) _ () A B row hs.1 hg hr, blk_own (β := Unit) g2 (fun _ => [.int .i64 0]) _ () A B row hs.2.1 hg hr, hs.2.2⟩
theorem CmX.own (y : List (BitVec 8)) (g2 : Nat) (c : Code) : Own (CmX y g2 c) := fun _ A B row hs hg hr => by
  obtain ⟨pr, p, h1, h2, h3, h4, h5⟩ := hs
  exact ⟨pr, p, h1, h2, h3, h4, blk_own (β := Unit) g2 (fun _ => [.int .i64 (p.1 : Int)]) _ () A B row h5 hg hr⟩
theorem CmI.all {x y : List (BitVec 8)} {g1 g2 : Nat} {W : World} (h : CmI y g1 g2 (pathBits x 256) W) : common x y = 256 :=
  common_is x y 256 (Nat.le_refl _) (fun j hj => by have := h.2.2 _ (mem_bits (x := x) hj); rwa [bitI_nat y j hj] at this) (by omega)
theorem CmX.at {x y : List (BitVec 8)} {g2 : Nat} {c : Code} {k : Nat} {W : World} (hk : k ≤ 256) (h : CmX y g2 c (pathBits x k) W) : c = .ret ∧ Blk W g2 [.int .i64 (common x y : Int)] 3 := by
  obtain ⟨pr, p, h1, h2, h3, h4, h5⟩ := h
  obtain ⟨j, rfl, rfl, rfl⟩ := bits_split h2
  rw [bitI_nat y j (by omega)] at h4
  refine ⟨h1, ?_⟩
  rw [common_is x y j (by omega) (fun i hi => by have := h3 _ (mem_bits (x := x) hi); rwa [bitI_nat y i (by omega)] at this) (fun _ => h4)]
  exact h5
end Go.Proofs.YtableajopaappaaDoor
/- The walks of Cut. -/
namespace Go.Proofs.YtableajopaappaaDoor
open Go.RowKit Go.Shelf
set_option maxRecDepth 100000
attribute [local go_sem] Oper.semAt_some
def cutF (pre : List (Nat × Bool)) : List (BitVec 8) := pre.foldl (fun y p => setI y (p.1 : Int) p.2) zb32
theorem cutF_snoc (pre : List (Nat × Bool)) (p : Nat × Bool) : cutF (pre ++ [p]) = setI (cutF pre) (p.1 : Int) p.2 := by simp [cutF]
theorem foldl_set_len (l : List (Nat × Bool)) : ∀ y : List (BitVec 8), (l.foldl (fun y p => setI y (p.1 : Int) p.2) y).length = y.length := by
  induction l with
  | nil => intro y; rfl
  | cons p r ih => intro y; rw [List.foldl_cons, ih, setI_len]
theorem cutF_len (pre : List (Nat × Bool)) : (cutF pre).length = 32 := by rw [cutF, foldl_set_len]; rfl
theorem bt_zero (j : Nat) : bt zb32 j = false := by
  unfold bt zb32
  rw [List.getD_eq_getElem?_getD, List.getElem?_replicate]
  split <;> simp
theorem cutF_bits (x : List (BitVec 8)) : ∀ k, k ≤ 256 → ∀ j, j < 256 → bt (cutF (pathBits x k)) j = (decide (j < k) && bt x j)
  | 0, _, j, _ => by simp [pathBits, cutF, bt_zero]
  | k + 1, hk, j, hj => by
    rw [pathBits_succ, cutF_snoc, setI_nat _ _ _ (by omega), bt_set _ (cutF_len _) _ _ _ (by omega) hj, cutF_bits x k (by omega) j hj]
    by_cases e : j = k
    · subst e; simp
    · rw [if_neg e]
      by_cases h : j < k
      · have h2 : j < k + 1 := by omega
        simp [h, h2]
      · have h2 : ¬ j < k + 1 := by omega
        simp [h, h2]
/-- what Cut has done: the bits that came, all ahead of n -/
def CuI (n : Int) (gn gr gc : Nat) (pre : List (Nat × Bool)) (W : World) : Prop := Blk W gn [.int .i64 n] 3 ∧ Blk W gr (cb zb32) 23 ∧ Blk W gc (cb (cutF pre)) 23 ∧ ∀ p ∈ pre, (p.1 : Int) < n
def CuX (n : Int) (gr gc : Nat) (c : Code) (pre : List (Nat × Bool)) (W : World) : Prop :=
  ∃ pr p, c = .exit 0 ∧ pre = pr ++ [p] ∧ (∀ q ∈ pr, (q.1 : Int) < n) ∧ n ≤ (p.1 : Int) ∧ Blk W gr (cb zb32) 23 ∧ Blk W gc (cb (cutF pr)) 23
theorem CuI.own (n : Int) (gn gr gc : Nat) : Own (CuI n gn gr gc) := fun s A B row hs hg hr =>
  ⟨blk_own (β := Unit) gn (fun _ => [.int .i64 n]) _ () A B row hs.1 hg hr, blk_own (β := Unit) gr (fun _ => cb zb32) _ () A B row hs.2.1 hg hr, blk_own (β := Unit) gc (fun _ => cb (cutF s)) _ () A B row hs.2.2.1 hg hr, hs.2.2.2⟩
theorem CuX.own (n : Int) (gr gc : Nat) (c : Code) : Own (CuX n gr gc c) := fun _ A B row hs hg hr => by
  obtain ⟨pr, p, h1, h2, h3, h4, h5, h6⟩ := hs
  exact ⟨pr, p, h1, h2, h3, h4, blk_own (β := Unit) gr (fun _ => cb zb32) _ () A B row h5 hg hr, blk_own (β := Unit) gc (fun _ => cb (cutF pr)) _ () A B row h6 hg hr⟩
theorem CuI.all {x : List (BitVec 8)} {n : Int} {gn gr gc : Nat} {W : World} (h : CuI n gn gr gc (pathBits x 256) W) : ∃ y, IsCut x n y ∧ Blk W gr (cb zb32) 23 ∧ Blk W gc (cb y) 23 := by
  refine ⟨_, ⟨cutF_len _, fun j hj => ?_⟩, h.2.1, h.2.2.1⟩
  have h1 := h.2.2.2 _ (mem_bits (x := x) hj)
  simp only at h1
  rw [cutF_bits x 256 (Nat.le_refl _) j hj, decide_eq_true hj, decide_eq_true h1]
theorem CuX.at {x : List (BitVec 8)} {n : Int} {gr gc : Nat} {c : Code} {k : Nat} {W : World} (hk : k ≤ 256) (h : CuX n gr gc c (pathBits x k) W) : c = .exit 0 ∧ ∃ y, IsCut x n y ∧ Blk W gr (cb zb32) 23 ∧ Blk W gc (cb y) 23 := by
  obtain ⟨pr, p, h1, h2, h3, h4, h5, h6⟩ := h
  obtain ⟨i, rfl, rfl, rfl⟩ := bits_split h2
  simp only at h4
  refine ⟨h1, _, ⟨cutF_len _, fun j hj => ?_⟩, h5, h6⟩
  rw [cutF_bits x i (by omega) j hj]
  by_cases h : j < i
  · have h7 := h3 _ (mem_bits (x := x) h)
    simp only at h7
    rw [decide_eq_true h, decide_eq_true h7]
  · have h7 : ¬ ((j : Int) < n) := by omega
    rw [decide_eq_false h, decide_eq_false h7]
end Go.Proofs.YtableajopaappaaDoor
/- The walks of the reference's Common, Cut and Less. -/
namespace Go.Proofs.YtableajopaappaaDoor
open Go.RowKit
set_option maxRecDepth 100000
def ScI (x y : List (BitVec 8)) (g0 g1 : Nat) (w : World) (k : Nat) (W : World) : Prop := Blk W g0 (cb x) 23 ∧ Blk W g1 (cb y) 23 ∧ Below w.heap.size w W ∧ ∀ j, j < k → bt x j = bt y j
theorem ScI.over {x y : List (BitVec 8)} {g0 g1 k : Nat} {w W W' : World} (h : ScI x y g0 g1 w k W) (ho : Over W.drew W') : ScI x y g0 g1 w k W' :=
  ⟨ho.blk h.1.drew, ho.blk h.2.1.drew, h.2.2.1.drew.trans (Below.mono ho h.2.2.1.size), h.2.2.2⟩
end Go.Proofs.YtableajopaappaaDoor
/- The walk of the reference's Cut. -/
namespace Go.Proofs.YtableajopaappaaDoor
open Go.RowKit
set_option maxRecDepth 100000
structure SuI (x : List (BitVec 8)) (n : Int) (g0 gr : Nat) (w : World) (k : Nat) (d : List (BitVec 8)) (W : World) : Prop where
  b0 : Blk W g0 (cb d) 23
  br : Blk W gr (cb zb32) 23
  bel : Below w.heap.size w W
  len : d.length = 32
  bits : ∀ j, j < 256 → bt d j = (bt x j && !(decide (j < k) && decide (n ≤ (j : Int))))
end Go.Proofs.YtableajopaappaaDoor
/- The walks of Less, Under and the reference's. -/
namespace Go.Proofs.YtableajopaappaaDoor
open Go.RowKit
set_option maxRecDepth 100000
structure SlI (x y : List (BitVec 8)) (g0 g1 : Nat) (w : World) (k : Nat) (W : World) : Prop where
  b0 : Blk W g0 (cb x) 23
  b1 : Blk W g1 (cb y) 23
  bel : Below w.heap.size w W
  eq : ∀ j, j < k → x.getD j 0 = y.getD j 0
theorem SlI.drew {x y : List (BitVec 8)} {g0 g1 k : Nat} {w W : World} (h : SlI x y g0 g1 w k W) : SlI x y g0 g1 w k W.drew := ⟨h.b0.drew, h.b1.drew, h.bel.drew, h.eq⟩
end Go.Proofs.YtableajopaappaaDoor
/- Slices of digests in memory: what they read as, those that are the call's own, one more behind them. -/
namespace Go.Proofs.YtableajopaappaaDoor
open Go.RowKit
set_option maxRecDepth 100000
def flatD (ds : List (List (BitVec 8))) : List Value := (ds.map cb).flatten
/-- the slice v of digests, the call's own from block base on, holds ds -/
def OwnD (w : World) (base : Nat) (v : Value) (ds : List (List (BitVec 8))) : Prop := w.ownsRow base 23 32 v ds.length (flatD ds) ∧ ∀ d ∈ ds, d.length = 32
theorem OwnD.one {w : World} {base : Nat} {v : Value} {ds : List (List (BitVec 8))} (h : OwnD w base v ds) : v.oneCell' = true := by
  rcases h.1 with ⟨_, ⟨rfl, _⟩ | ⟨g, cap, cur, rfl, _⟩⟩
  · rfl
  · rfl
theorem OwnD.keep {w w' : World} {base : Nat} {v : Value} {ds : List (List (BitVec 8))} (h : OwnD w base v ds) (hs : ∀ k, base ≤ k → k < w.heap.size → w'.heap[k]? = w.heap[k]?) : OwnD w' base v ds := by
  refine ⟨?_, h.2⟩
  have hlt := World.ownsRow.lt h.1
  rcases h.1 with ⟨h1, ⟨rfl, h2⟩ | ⟨g, cap, cur, rfl, hg, hh, h3⟩⟩
  · exact ⟨h1, Or.inl ⟨rfl, h2⟩⟩
  · exact ⟨h1, Or.inr ⟨g, cap, cur, rfl, hg, by rw [hs g hg (hlt g rfl).2]; exact hh, h3⟩⟩
theorem OwnD.mono {w : World} {base B : Nat} {v : Value} {ds : List (List (BitVec 8))} (h : OwnD w base v ds) (hB : B ≤ base) : OwnD w B v ds := by
  refine ⟨?_, h.2⟩
  rcases h.1 with ⟨h1, ⟨rfl, h2⟩ | ⟨g, cap, cur, rfl, hg, hh⟩⟩
  · exact ⟨h1, Or.inl ⟨rfl, h2⟩⟩
  · exact ⟨h1, Or.inr ⟨g, cap, cur, rfl, Nat.le_trans hB hg, hh⟩⟩
def nilV : Value := .slice none 0 0
theorem OwnD.lt {w : World} {base : Nat} {v : Value} {ds : List (List (BitVec 8))} (h : OwnD w base v ds) : ∀ k, v.ownBlock = some k → base ≤ k ∧ k < w.heap.size := World.ownsRow.lt h.1
theorem OwnD.nil (w : World) (base : Nat) : OwnD w base nilV [] := ⟨World.ownsRow_nil _ _ _ _, by simp⟩
theorem OwnD.slice {w : World} {base : Nat} {v : Value} {ds : List (List (BitVec 8))} (h : OwnD w base v ds) : ∃ ad c, v = .slice ad ds.length c := by
  rcases h.1 with ⟨_, ⟨rfl, h2⟩ | ⟨g, cap, cur, rfl, _⟩⟩
  · exact ⟨none, 0, by rw [h2]⟩
  · exact ⟨_, _, rfl⟩
/-- the slice v reads as the digests ds -/
def ReadsD (w : World) (v : Value) (ds : List (List (BitVec 8))) : Prop :=
  (∃ ad cap, v = .slice ad ds.length cap ∧ ds.length ≤ cap ∧ (ad = none → cap = 0) ∧ (0 < ds.length → ∃ b off, ad = some ⟨b, off, none⟩ ∧ ∀ j, j < ds.length → w.rangeAt b (off + j * 32) (cb (ds.getD j [])))) ∧ ∀ d ∈ ds, d.length = 32
theorem rangeAt_lt {w : World} {b off : Nat} {d : List (BitVec 8)} (h : w.rangeAt b off (cb d)) (hd : d.length = 32) : b < w.heap.size := by
  have := h 0 _ (cb_get d 0 (by omega))
  exact block_lt_of_cell this
theorem rangeAt_below {w w' : World} {b off B : Nat} {cs : List Value} (h : w.rangeAt b off cs) (hb : Below B w w') (hB : b < B) : w'.rangeAt b off cs := fun j v hj => by
  rw [hb.cell (p := ⟨b, off + j, none⟩) hB]
  exact h j v hj
theorem getD_mem32 {ds : List (List (BitVec 8))} (h : ∀ d ∈ ds, d.length = 32) {j : Nat} (hj : j < ds.length) : (ds.getD j []).length = 32 := by
  rw [List.getD_eq_getElem?_getD, List.getElem?_eq_getElem hj]
  exact h _ (List.getElem_mem hj)
theorem ReadsD.below {w w' : World} {v : Value} {ds : List (List (BitVec 8))} (h : ReadsD w v ds) (hb : Below w.heap.size w w') : ReadsD w' v ds := by
  obtain ⟨⟨ad, cap, hv, hc, hn, hx⟩, h32⟩ := h
  refine ⟨⟨ad, cap, hv, hc, hn, fun hp => ?_⟩, h32⟩
  obtain ⟨b, off, rfl, hy⟩ := hx hp
  exact ⟨b, off, rfl, fun j hj => rangeAt_below (hy j hj) hb (rangeAt_lt (hy j hj) (getD_mem32 h32 hj))⟩
theorem flatD_at {ds : List (List (BitVec 8))} (h : ∀ d ∈ ds, d.length = 32) : ∀ (j i : Nat) (v : Value), j < ds.length → (cb (ds.getD j []))[i]? = some v → (flatD ds)[j * 32 + i]? = some v := by
  unfold flatD
  induction ds with
  | nil => intro j i v hj; simp at hj
  | cons d r ih =>
    intro j i v hj hv
    rw [List.map_cons, List.flatten_cons]
    cases j with
    | zero =>
      rw [List.getD_cons_zero] at hv
      have hi : i < (cb d).length := (List.getElem?_eq_some_iff.1 hv).1
      rw [Nat.zero_mul, Nat.zero_add, List.getElem?_append_left hi, hv]
    | succ j =>
      rw [List.getD_cons_succ] at hv
      have hl : (cb d).length = 32 := by rw [cb_len, h d (by simp)]
      rw [List.getElem?_append_right (by rw [hl]; omega), hl, show (j + 1) * 32 + i - 32 = j * 32 + i by omega]
      exact ih (fun x hx => h x (by simp [hx])) j i v (by simpa using hj) hv
theorem OwnD.readsD {w : World} {base : Nat} {v : Value} {ds : List (List (BitVec 8))} (h : OwnD w base v ds) : ReadsD w v ds := by
  refine ⟨?_, h.2⟩
  rcases h.1 with ⟨h1, ⟨rfl, h2⟩ | ⟨g, cap, cur, rfl, hg, hh, hc, hm, hs, ht⟩⟩
  · exact ⟨none, 0, by rw [h2], by omega, fun _ => rfl, fun hp => by omega⟩
  · refine ⟨_, cap, rfl, hc, fun h => (by cases h), fun hp => ⟨g, 0, rfl, fun j hj i v hv => ?_⟩⟩
    have hi : i < 32 := by have := (List.getElem?_eq_some_iff.1 hv).1; rwa [cb_len, getD_mem32 h.2 hj] at this
    have hf := flatD_at h.2 j i v hj hv
    rw [← ht, List.getElem?_take] at hf
    rw [cell_of_row w g _ cur 23 (0, 0) hh, Nat.zero_add]
    rw [if_pos (by
      have : (j + 1) * 32 ≤ ds.length * 32 := Nat.mul_le_mul_right 32 hj
      omega)] at hf
    simpa using hf
/-- one more behind the own slice v: all other blocks stay -/
structure Grow (base : Nat) (w : World) (v : Value) (w' : World) (v' : Value) : Prop where
  below : Below base w w'
  other : ∀ k, some k ≠ v.ownBlock → k < w.heap.size → w'.heap[k]? = w.heap[k]?
  lies : v'.ownBlock = v.ownBlock ∨ v'.ownBlock = some w.heap.size
theorem wpSeq_loadAt {ops : Array Oper} {Q : Exit → Act → World → Prop} {rest : List Oper} {o : Oper} {a : Act} {w : World} (x : Operand) (b of : Nat) (l : List (BitVec 8)) (hl : l.length = 32) (hb : w.rangeAt b of (cb l)) (ho : o.op = .load 23 x) (hx : a.eval x = .pointer (some ⟨b, of, none⟩)) (hw : Region.wanted o (yielded ops a.tmps) = true)
    (h : wpList Tryd.prog ops Q rest (a.put o.dst (.agg (cb l).toArray)) w) : wpList Tryd.prog ops Q (o :: rest) a w :=
  wpSeq_val _ _ hw (load_run 23 x ho b of hx (cb l) _ hb Tryd.underlying23 rfl (by rw [cb_len, hl]; exact info_digest)) h
/-- the two lists that Part has made of the first k -/
structure PpI (ds : List (List (BitVec 8))) (i : Int) (w : World) (k : Nat) (v1 v2 : Value) (W : World) : Prop where
  o1 : OwnD W w.heap.size v1 ((ds.take k).filter fun d => !bitI d i)
  o2 : OwnD W w.heap.size v2 ((ds.take k).filter fun d => bitI d i)
  ne : ∀ j, v1.ownBlock = some j → v2.ownBlock ≠ some j
  bel : Below w.heap.size w W
theorem PpI.next {ds : List (List (BitVec 8))} {i : Int} {w : World} {k : Nat} {v1 v2 : Value} {W W' : World} (h : PpI ds i w k v1 v2 W) (hb : Below W.heap.size W W') : PpI ds i w k v1 v2 W' :=
  ⟨h.o1.keep fun j _ hj => hb.block j hj, h.o2.keep fun j _ hj => hb.block j hj, h.ne, h.bel.trans (hb.mono h.bel.size)⟩
theorem take_next {ds : List (List (BitVec 8))} {k : Nat} (hk : k < ds.length) (p : List (BitVec 8) → Bool) : (ds.take (k + 1)).filter p = (ds.take k).filter p ++ (if p (ds.getD k []) then [ds.getD k []] else []) := by
  rw [List.take_add_one, List.getElem?_eq_getElem hk, List.filter_append, List.getD_eq_getElem?_getD, List.getElem?_eq_getElem hk]
  simp only [Option.toList_some, Option.getD_some, List.filter_cons, List.filter_nil]
theorem PpI.on {ds : List (List (BitVec 8))} {i : Int} {w : World} {k : Nat} {v1 v2 v' : Value} {W W' : World} (h : PpI ds i w k v1 v2 W) (hk : k < ds.length) (hb : bitI (ds.getD k []) i = true) (ho : OwnD W' w.heap.size v' (((ds.take k).filter fun d => bitI d i) ++ [ds.getD k []])) (hg : Grow w.heap.size W v2 W' v') : PpI ds i w (k + 1) v1 v' W' := by
  refine ⟨?_, ?_, ?_, h.bel.trans hg.below⟩
  · rw [take_next hk, hb]
    simp only [Bool.not_true, Bool.false_eq_true, if_false, List.append_nil]
    have h1 := h.o1
    refine ⟨?_, h1.2⟩
    have hlt := World.ownsRow.lt h1.1
    rcases h1.1 with ⟨e1, ⟨e2, e3⟩ | ⟨g, cap, cur, e2, hgg, hh, h3⟩⟩
    · exact ⟨e1, Or.inl ⟨e2, e3⟩⟩
    · subst e2
      exact ⟨e1, Or.inr ⟨g, cap, cur, rfl, hgg, by rw [hg.other g (fun e => h.ne g rfl e.symm) (hlt g rfl).2]; exact hh, h3⟩⟩
  · rw [take_next hk, hb]; exact ho
  · intro j hj
    rcases hg.lies with e | e
    · rw [e]; exact h.ne j hj
    · rw [e]; intro e2; cases e2
      exact absurd (h.o1.lt _ hj).2 (Nat.lt_irrefl _)
theorem PpI.off {ds : List (List (BitVec 8))} {i : Int} {w : World} {k : Nat} {v1 v2 v' : Value} {W W' : World} (h : PpI ds i w k v1 v2 W) (hk : k < ds.length) (hb : bitI (ds.getD k []) i = false) (ho : OwnD W' w.heap.size v' (((ds.take k).filter fun d => !bitI d i) ++ [ds.getD k []])) (hg : Grow w.heap.size W v1 W' v') : PpI ds i w (k + 1) v' v2 W' := by
  refine ⟨?_, ?_, ?_, h.bel.trans hg.below⟩
  · rw [take_next hk, hb]; exact ho
  · rw [take_next hk, hb]
    simp only [Bool.false_eq_true, if_false, List.append_nil]
    have h1 := h.o2
    refine ⟨?_, h1.2⟩
    have hlt := World.ownsRow.lt h1.1
    rcases h1.1 with ⟨e1, ⟨e2, e3⟩ | ⟨g, cap, cur, e2, hgg, hh, h3⟩⟩
    · exact ⟨e1, Or.inl ⟨e2, e3⟩⟩
    · subst e2
      exact ⟨e1, Or.inr ⟨g, cap, cur, rfl, hgg, by rw [hg.other g (fun e => h.ne g e.symm rfl) (hlt g rfl).2]; exact hh, h3⟩⟩
  · intro j hj
    rcases hg.lies with e | e
    · rw [e] at hj; exact h.ne j hj
    · rw [e] at hj; cases hj
      intro e2
      exact absurd (h.o2.lt _ e2).2 (Nat.lt_irrefl _)
end Go.Proofs.YtableajopaappaaDoor
/- Plain: signatures that are used once: what is told, what is opened, what follows (layer 10). -/
namespace Go.Proofs.YtableajopaappaaDoor
open Go.RowKit
set_option maxRecDepth 100000
/-- the i-th thirty-two bytes -/
def blk32 (l : List (BitVec 8)) (i : Nat) : List (BitVec 8) := (l.drop (32 * i)).take 32
/-- 10.3: what a signature tells, n bits of it -/
def openR (on : Nat → Bool) (sig : List (BitVec 8)) : Nat → List (BitVec 8)
  | 0 => [80]
  | n + 1 => openR on sig n ++ (if on n then blk32 sig (2 * n + 1) ++ dig (blk32 sig (2 * n)) else dig (blk32 sig (2 * n)) ++ blk32 sig (2 * n + 1))
theorem len_blk32 {l : List (BitVec 8)} {i : Nat} (h : 32 * i + 32 ≤ l.length) : (blk32 l i).length = 32 := by
  unfold blk32
  rw [List.length_take, List.length_drop]
  omega
theorem len_step (on : Nat → Bool) {sig : List (BitVec 8)} {n : Nat} (h : 64 * n + 64 ≤ sig.length) : (if on n then blk32 sig (2 * n + 1) ++ dig (blk32 sig (2 * n)) else dig (blk32 sig (2 * n)) ++ blk32 sig (2 * n + 1)).length = 64 := by
  have h1 : (blk32 sig (2 * n + 1)).length = 32 := len_blk32 (by omega)
  split <;> rw [List.length_append, len_dig', h1]
theorem len_openR (on : Nat → Bool) {sig : List (BitVec 8)} {n : Nat} (h : 64 * n ≤ sig.length) : (openR on sig n).length = 64 * n + 1 := by
  induction n with
  | zero => rfl
  | succ n ih => rw [openR, List.length_append, ih (by omega), len_step on (by omega)]; omega
end Go.Proofs.YtableajopaappaaDoor
/- Slices of bytes that grow while digests stand beside them (layer 10). -/
namespace Go.Proofs.YtableajopaappaaDoor
open Go.RowKit
set_option maxRecDepth 100000
theorem Blk.grown {w w' : World} {g : Nat} {cs : List Value} {t : TypeId} {row : Option Nat} (h : Blk w g cs t) (hg : w.grownBy w' row) (hne : row ≠ some g) : Blk w' g cs t := by
  have hh : w.heap[g]? = some (.cells cs.toArray t (0, 0)) := h
  show w'.heap[g]? = some (.cells cs.toArray t (0, 0))
  rw [hg.block g h.lt (fun e => hne e.symm)]
  exact hh
/-- a row of bytes is no block of another type -/
theorem OwnB.ne {w : World} {base g : Nat} {v : Value} {l : List (BitVec 8)} {cs : List Value} {t : TypeId} (h : OwnB w base v l) (hb : Blk w g cs t) (ht : t ≠ 5) : v.ownBlock ≠ some g := by
  obtain ⟨_, h2⟩ := h
  intro hk
  rcases h2 with ⟨rfl, _⟩ | ⟨g2, cap, cur, rfl, hg, hh, _⟩
  · simp [Value.ownBlock] at hk
  · simp only [Value.ownBlock, Option.some.injEq] at hk
    subst hk
    unfold Blk at hb
    rw [hh] at hb
    simp only [Option.some.injEq, Obj.cells.injEq] at hb
    exact ht hb.2.1.symm
/-- bytes behind the own slice v: its own block alone may change -/
theorem wpSeq_appendG {ops : Array Oper} {Q : Exit → Act → World → Prop} {rest : List Oper} {o : Oper} {a : Act} {w : World} (s x : Operand) (base : Nat) (v vx : Value) (l news : List (BitVec 8))
    (hown : OwnB w base v l) (hr : Reads w vx news) (hpos : 0 < news.length) (hlen : l.length + news.length ≤ 140737488355328) (hbase : base ≤ w.heap.size)
    (ho : o.op = .call { callee := .builtin .append, args := #[s, x], argTypes := #[28, 28] }) (hs : a.eval s = v) (hx : a.eval x = vx) (hgd : o.guard = none)
    (h : ∀ v' w', OwnB w' base v' (l ++ news) → w.grownBy w' v.ownBlock → Below base w w' → wpList Tryd.prog ops Q rest (a.put o.dst v') w') : wpList Tryd.prog ops Q (o :: rest) a w := by
  obtain ⟨i0, hi, hz0, hz1, hz2⟩ := info_parts Tryd.infob
  obtain ⟨ad, cap, rfl, hcap, hnn, hps⟩ := hr
  cases ad with
  | some ad =>
    refine wpList_append_own (P := Tryd.prog) w hgd s x 28 ho base 5 i0 (.int .u8 0) 1 1 Tryd.underlying28 hi hz0 hz1 hz2 rfl (by decide) v l.length (cb l) hs hown ad news.length cap (cb news) hx (by rw [cb_len]; omega) ?_ (cb_one _) (by unfold maxLen; omega) (by omega) hbase ?_
    · intro j u hj
      have hjl : j < news.length := by have := (List.getElem?_eq_some_iff.1 hj).1; rwa [cb_len] at this
      obtain ⟨b, off, h1, h2⟩ := hps (by omega)
      cases h1
      rw [Addr.add_mid, h2 j hjl, ← hj, cb_get news j hjl]
    · intro v' w' h1 h2 h3
      refine h v' w' ?_ h2 ((Below.refl _ _).grown h2 hbase (fun k hk => hown.own k hk))
      have e : cb l ++ cb news = cb (l ++ news) := by simp [cb]
      rw [e] at h1
      unfold OwnB; rw [List.length_append]; exact h1
  | none => obtain ⟨b, off, h1, _⟩ := hps hpos; cases h1
theorem make_cap (k c : Nat) (hkc : k ≤ c) (hc : c < 281474976710600) (w : World) : (Instr.makeSlice 28 (.int .i64 (k : Int)) (.int .i64 (c : Int))).run Tryd.prog w =
    .ok (.slice (some ⟨w.heap.size, 0, none⟩) k c) (w.alloc (.cells (cb (List.replicate c 0)).toArray 5)) := by
  obtain ⟨i0, hi, hz0, hz1, hz2⟩ := info_parts Tryd.infob
  rw [run_make (P := Tryd.prog) w 28 5 i0 _ Tryd.underlying28 hi hz0 .i64 .i64 _ _ (by omega) (by omega) (by rw [hz2]; omega) (by omega)]
  rw [Int.toNat_natCast, Int.toNat_natCast, hz1, Nat.mul_one]
  congr 3
  simp [madeCells, cb, Value.cells, Nat.mod_one]
  apply Array.ext
  · simp
  · intro j h1 h2; simp
/-- a new slice of k noughts with room for c bytes -/
theorem wpSeq_make {ops : Array Oper} {Q : Exit → Act → World → Prop} {rest : List Oper} {o : Oper} {a : Act} {w : World} (x y : Operand) (k c : Nat) (hkc : k ≤ c) (hc : c < 281474976710600) (ho : o.op = .makeSlice 28 x y) (hx : a.eval x = .int .i64 (k : Int)) (hy : a.eval y = .int .i64 (c : Int)) (hw : Region.wanted o (yielded ops a.tmps) = true)
    (h : ∀ g w' z, z = List.replicate c (0 : BitVec 8) → w.heap.size ≤ g → Blk w' g (cb z) 5 → Below w.heap.size w w' → wpList Tryd.prog ops Q rest (a.put o.dst (.slice (some ⟨g, 0, none⟩) k c)) w') : wpList Tryd.prog ops Q (o :: rest) a w := by
  refine wpSeq_val _ _ hw ?_ (h _ _ _ rfl (Nat.le_refl _) (Blk.new w _ 5) (below_alloc _ _))
  unfold execOp
  rw [ho]
  simp only [hx, hy, Sem.run_bind, make_cap k c hkc hc]
  rfl
theorem own_of_blk {w : World} {base g k c : Nat} {z : List (BitVec 8)} (h : Blk w g (cb z) 5) (hb : base ≤ g) (hz : z.length = c) (hk : k ≤ c) (hc : c < 281474976710600) : OwnB w base (.slice (some ⟨g, 0, none⟩) k c) (z.take k) := by
  have hl : (z.take k).length = k := by rw [List.length_take]; omega
  have e : (cb z).take k = cb (z.take k) := by simp [cb]
  refine ⟨by rw [cb_len, Nat.mul_one], Or.inr ⟨g, c, (cb z).toArray, by rw [hl], hb, h, by rw [hl]; exact hk, by unfold maxLen; omega, by simp [cb_len, hz], by rw [hl, Nat.mul_one, ← e]⟩⟩
/-- one byte of a block of bytes -/
theorem wpSeq_storeY {ops : Array Oper} {Q : Exit → Act → World → Prop} {rest : List Oper} {o : Oper} {a : Act} {w : World} (x y : Operand) (g k : Nat) (l : List (BitVec 8)) (b : BitVec 8) (hk : k < l.length) (hb : Blk w g (cb l) 5) (ho : o.op = .store 5 x y) (hx : a.eval x = .pointer (some ⟨g, k, none⟩)) (hy : a.eval y = .int .u8 (b.toNat : Int)) (hw : Region.wanted o (yielded ops a.tmps) = true)
    (h : ∀ w', Blk w' g (cb (l.set k b)) 5 → Only g w w' → wpList Tryd.prog ops Q rest (a.put o.dst undef) w') : wpList Tryd.prog ops Q (o :: rest) a w := by
  have hc : w.cell? ⟨g, k, none⟩ = some (.int .u8 ((l.getD k 0).toNat : Int)) := by rw [hb.cell, cb_get l k hk]
  have hf : w.frozen? ⟨g, k, none⟩ = false := hb.frozen k
  have he : (execOp a.eval o).run Tryd.prog w = .ok .skip (w.setCell ⟨g, k, none⟩ (.int .u8 (b.toNat : Int))) := by
    clear h hw
    generalize a.eval = f at hx hy ⊢
    unfold execOp
    rw [ho]
    simp [go_sem, hx, hy, hc, hf]
  unfold wpList
  simp only [hw, if_true]
  left
  unfold Oper.wp
  rw [he, Oper.upon_skip]
  refine h _ ?_ (Only.setCell (Only.refl g w) k _)
  have := hb.set k (.int .u8 (b.toNat : Int))
  rw [cb_set] at this
  exact this
/-- a cut of a slice of bytes -/
theorem cut_run (ga off n cap l m : Nat) (hm : 0 < m) (hn : l + m ≤ n) (hc : n ≤ cap) (w : World) :
    (Instr.sliceAt 28 (.slice (some ⟨ga, off, none⟩) n cap) (some (.int .i64 (l : Int))) (some (.int .i64 ((l + m : Nat) : Int))) none).run Tryd.prog w = .ok (.slice (some ⟨ga, off + l, none⟩) m (cap - l)) w := by
  have hs : (sizeOf 5).run Tryd.prog w = .ok 1 w := by kernel_rfl
  rw [run_sliceAt_slice w 28 _ _ _ _ (by kernel_rfl), run_slice_lh w 28 _ _ _ (by kernel_rfl) .i64 .i64 _ _ (by omega) (by omega) (by omega)]
  rw [show Tryd.prog.elem 28 = 5 from by kernel_rfl, hs]
  simp only [Result.andThen_ok, sliced, Int.toNat_natCast, Nat.mul_one]
  rw [show l + m - l = m by omega, if_neg (by omega)]
  simp [Addr.add_mid]
theorem wpSeq_cut {ops : Array Oper} {Q : Exit → Act → World → Prop} {rest : List Oper} {o : Oper} {a : Act} {w : World} (x lo hi : Operand) (ga off n cap l m : Nat) (L H : Int) (hL : L = (l : Int)) (hH : H = ((l + m : Nat) : Int)) (hm : 0 < m) (hn : l + m ≤ n) (hc : n ≤ cap) (ho : o.op = .slice 28 x (some lo) (some hi) none) (hx : a.eval x = .slice (some ⟨ga, off, none⟩) n cap) (hlo : a.eval lo = .int .i64 L) (hhi : a.eval hi = .int .i64 H) (hw : Region.wanted o (yielded ops a.tmps) = true)
    (h : wpList Tryd.prog ops Q rest (a.put o.dst (.slice (some ⟨ga, off + l, none⟩) m (cap - l))) w) : wpList Tryd.prog ops Q (o :: rest) a w := by
  subst hL hH
  refine wpSeq_val _ _ hw ?_ h
  unfold execOp
  rw [ho]
  simp only [hx, hlo, hhi, Option.map_some, Option.map_none, Sem.run_bind, cut_run ga off n cap l m hm hn hc w]
  rfl
/-- what a cut reads -/
theorem Reads.cut {w : World} {ga off n cap : Nat} {sig : List (BitVec 8)} (h : Reads w (.slice (some ⟨ga, off, none⟩) n cap) sig) (i : Nat) (hi : 32 * i + 32 ≤ sig.length) : Reads w (.slice (some ⟨ga, off + 32 * i, none⟩) 32 (cap - 32 * i)) (blk32 sig i) := by
  obtain ⟨ad, cap', hv, hc, hn, hx⟩ := h
  simp only [Value.slice.injEq] at hv
  obtain ⟨rfl, rfl, rfl⟩ := hv
  have hl : (blk32 sig i).length = 32 := len_blk32 hi
  refine ⟨_, _, by rw [hl], by rw [hl]; omega, (fun h => by cases h), fun _ => ?_⟩
  obtain ⟨b, off', h1, h2⟩ := hx (by omega)
  simp only [Option.some.injEq, Addr.mk.injEq, and_true] at h1
  obtain ⟨rfl, rfl⟩ := h1
  refine ⟨ga, off + 32 * i, rfl, fun j hj => ?_⟩
  rw [hl] at hj
  have h3 := h2 (32 * i + j) (by omega)
  rw [← Nat.add_assoc] at h3
  rw [h3]
  have e : (blk32 sig i).getD j 0 = sig.getD (32 * i + j) 0 := by
    unfold blk32
    rw [List.getD_eq_getElem?_getD, List.getD_eq_getElem?_getD, List.getElem?_take_of_lt hj, List.getElem?_drop]
  rw [e]
/-- one byte is set, the others have room -/
theorem own_first {w : World} {base g c : Nat} {z : List (BitVec 8)} {b : BitVec 8} (h : Blk w g (cb (z.set 0 b)) 5) (hb : base ≤ g) (hz : z.length = c) (hk : 1 ≤ c) (hc : c < 281474976710600) : OwnB w base (.slice (some ⟨g, 0, none⟩) 1 c) [b] := by
  have := own_of_blk (k := 1) h hb (by rw [List.length_set]; exact hz) hk hc
  cases z with
  | nil => simp at hz; omega
  | cons a r => simpa using this
end Go.Proofs.YtableajopaappaaDoor
/- The walks of the reference's part, hashed, Text and Public (layer 10). -/
namespace Go.Proofs.YtableajopaappaaDoor
open Go.RowKit
set_option maxRecDepth 100000
end Go.Proofs.YtableajopaappaaDoor
/- The walks of the reference's Text, Public and Sign (layer 10). -/
namespace Go.Proofs.YtableajopaappaaDoor
open Go.RowKit
set_option maxRecDepth 100000
theorem bit_nat (d : List (BitVec 8)) (k : Nat) (hk : k < 256) : bitI d (k : Int) = bt d k := by
  have : isB (k : Int) = true := (isB_iff _).2 ⟨by omega, by omega⟩
  simp [bitI, this]
end Go.Proofs.YtableajopaappaaDoor
/- The walks of the reference's Opened and Check (layer 10). -/
namespace Go.Proofs.YtableajopaappaaDoor
open Go.RowKit
set_option maxRecDepth 100000
/-- what Opened tells -/
def openL (b sig : List (BitVec 8)) : List (BitVec 8) := if sig.length = 16384 then openR (bt (dig b)) sig 256 else []
def openE (sig : List (BitVec 8)) : Int := if sig.length = 16384 then 0 else 15
/-- what Check tells -/
def checkE (p b sig : List (BitVec 8)) : Int := if sig.length = 16384 ∧ dig (openR (bt (dig b)) sig 256) = p then 0 else 15
/-- what Opened answers -/
def OpenA (w : World) (b sig : List (BitVec 8)) (e : Ending) (w' : World) : Prop := ∃ v, e = .returned (.tuple #[v, .int .i64 (openE sig)]) ∧ Reads w' v (openL b sig) ∧ Below w.heap.size w w'
theorem results_tmp2 {fn : Func} {u0 u1 : Tmp} (h : fn.results = #[.tmp u0, .tmp u1]) (tmps : Array Value) (P : Program) (w : World) : (results fn tmps).run P w = .ok (.tuple #[tmps.getD u0 undef, tmps.getD u1 undef]) w := by
  simp [results, h, go_sem]
set_option maxRecDepth 100000 in
set_option maxHeartbeats 8000000 in
theorem qlOpened_any (vb vs : Value) (b sig : List (BitVec 8)) (w : World) (hb : Reads w vb b) (hs : Reads w vs sig) (hl : b.length < 140737488350000) :
    Calls Tryd.prog 51 #[vb, vs] w (OpenA w b sig) := by
  obtain ⟨ab, cbb, hvb, _⟩ := id hb
  obtain ⟨ads, cps, hvs, hcp, _⟩ := id hs
  by_cases h16 : sig.length = 16384
  · obtain ⟨bs, offs, hv2⟩ : ∃ bs offs, vs = .slice (some ⟨bs, offs, none⟩) sig.length cps := by
      obtain ⟨ad', cp', hv', _, _, hx⟩ := id hs
      obtain ⟨bs, offs, rfl, _⟩ := hx (by omega)
      rw [hvs] at hv'
      simp only [Value.slice.injEq, true_and] at hv'
      obtain ⟨rfl, rfl⟩ := hv'
      exact ⟨bs, offs, hvs⟩
    rw [h16] at hv2 hcp
    subst hv2
    clear hvs
    obtain ⟨d, HDD⟩ : ∃ d, Hid (d = dig b) := ⟨_, rfl⟩
    have HDL : Hid (d.length = 32) := by show _ = _; rw [HDD.out]; exact len_dig' _
    have HL : Hid (openL b sig = openR (bt d) sig 256 ∧ openE sig = 0) := by show _ ∧ _; rw [openL, openE, if_pos h16, if_pos h16, HDD.out]; exact ⟨rfl, rfl⟩
    have HSL : Hid (sig.length = 16384) := h16
    have HCP : Hid (16384 ≤ cps) := hcp
    have HC0 : Hid (∀ W : World, Below w.heap.size w W → Calls Tryd.prog 50 #[vb] W fun e w' => e = .returned (.agg (cb d).toArray) ∧ Below W.heap.size W w') := fun W hh => by rw [HDD.out]; exact rOf_any vb b W (hb.below hh) hl
    have HC1 : Hid (∀ W : World, Below w.heap.size w W → ∀ k : Nat, k < 256 → Calls Tryd.prog 50 #[.slice (some ⟨bs, offs + 32 * (2 * k), none⟩) 32 (cps - 32 * (2 * k))] W fun e w' => e = .returned (.agg (cb (dig (blk32 sig (2 * k)))).toArray) ∧ Below W.heap.size W w') := fun W hh k hk => rOf_any _ _ W ((hs.below hh).cut (2 * k) (by omega)) (by rw [len_blk32 (by omega)]; omega)
    have HC2 : Hid (∀ W : World, Below w.heap.size w W → ∀ k : Nat, k < 256 → Calls Tryd.prog 53 #[.agg (cb d).toArray, .int .i64 (k : Int)] W fun e w' => e = .returned (.bool (bt d k)) ∧ Below W.heap.size W w') := fun W hh k hk => by rw [← bit_nat d k hk]; exact sBit_any d HDL.out (k : Int) W
    have HC3 : Hid (∀ W : World, Below w.heap.size w W → ∀ k : Nat, k < 256 → Reads W (.slice (some ⟨bs, offs + 32 * (2 * k + 1), none⟩) 32 (cps - 32 * (2 * k + 1))) (blk32 sig (2 * k + 1))) := fun W hh k hk => (hs.below hh).cut (2 * k + 1) (by omega)
    have HBW : Hid (Below w.heap.size w w) := Below.refl _ _
    subst hvb
    clear hb hs hl hcp h16 HDD
    go_enter Tryd.func51, Tryd.ntmps51
    have tk0 : Hid True := trivial
    have tk1 : Hid True := trivial
    have tk2 : Hid True := trivial
    have tk3 : Hid True := trivial
    have tk4 : Hid True := trivial
    go_wp2_with (first
      | (clear tk0; go_at_call 50; refine (HC0.out w HBW.out).mono ?_; rintro e y1 ⟨rfl, hbz⟩
         replace HBW : Hid (Below w.heap.size w y1) := HBW.out.trans (hbz.mono HBW.out.size)
         clear hbz )
      | (clear tk1; with_reducible refine wpSeq_allocD ?_ ?_ ?_
         · rfl
         · rfl
         intro gd y2 nn)
      | (clear tk2; with_reducible refine wpSeq_storeD (.tmp 6) (.tmp 15) gd zb32 d ?_ ?_ ?_ ?_ ?_ ?_ ?_ ?_
         · rfl
         · exact HDL.out
         · exact nn.blk
         · rfl
         · rfl
         · rfl
         · rfl
         intro y3 hs
         have hbz := nn.below.trans (hs.only.below nn.ge nn.below.size)
         replace HBW : Hid (Below w.heap.size w y3) := HBW.out.trans (hbz.mono HBW.out.size)
         have HD : Hid (Blk y3 gd (cb d) 23) := hs.blk
         clear nn hs hbz)
      | (clear tk3; with_reducible refine wpSeq_make (.const (.int .i64 1)) (.const (.int .i64 16385)) 1 16385 ?_ ?_ ?_ ?_ ?_ ?_ ?_
         · decide
         · decide
         · rfl
         · rfl
         · rfl
         · rfl
         intro go y4 z hz hge hzb hzl)
      | (clear tk4; with_reducible refine wpSeq_storeY (.tmp 18) (.const (.int .u8 80)) go 0 z 80 ?_ ?_ ?_ ?_ ?_ ?_ ?_
         · rw [hz, List.length_replicate]; decide
         · exact hzb
         · rfl
         · rfl
         · rfl
         · rfl
         intro y5 hzs hon
         have hbz := hzl.trans (hon.below hge hzl.size)
         have HO : Hid (OwnB y5 w.heap.size (.slice (some ⟨go, 0, none⟩) 1 16385) [80]) := own_first hzs (Nat.le_trans HBW.out.size hge) (by rw [hz, List.length_replicate]) (by decide) (by decide)
         replace HD : Hid (Blk y5 gd (cb d) 23) := HD.out.below hbz HD.out.lt
         replace HBW : Hid (Below w.heap.size w y5) := HBW.out.trans (hbz.mono HBW.out.size)
         clear hz hge hzb hzl hzs hon hbz))
    go_loopw [7, 8] (fun u i wr => ∃ k : Nat, k ≤ 256 ∧ i = .int .i64 (k : Int) ∧ OwnB wr w.heap.size u (openR (bt d) sig k) ∧ Blk wr gd (cb d) 23 ∧ Below w.heap.size w wr) (fun _ i _ => 256 - (intOf i).toNat)
    case atStart => exact ⟨0, by omega, rfl, HO.out, HD.out, HBW.out⟩
    case round =>
      clear HBW HO HD
      obtain ⟨k, hkn, rfl, ho, hd, hbw⟩ := hrel
      have HO : Hid (OwnB wr w.heap.size u7 (openR (bt d) sig k)) := ho
      have HD : Hid (Blk wr gd (cb d) 23) := hd
      have HBW : Hid (Below w.heap.size w wr) := hbw
      clear ho hd hbw
      by_cases hlt : k < 256
      · have hi : (k : Int) < 256 := by omega
        have f5 : IntKind.i64.wrap ((k : Int) + 1) = (k : Int) + 1 := by rw [IntKind.wrap_i64]; omega
        have f6 : IntKind.i64.wrap (64 * (k : Int)) = 64 * (k : Int) := by rw [IntKind.wrap_i64]; omega
        have f7 : IntKind.i64.wrap (64 * (k : Int) + 32) = 64 * (k : Int) + 32 := by rw [IntKind.wrap_i64]; omega
        have f8 : IntKind.i64.wrap (64 * (k : Int) + 64) = 64 * (k : Int) + 64 := by rw [IntKind.wrap_i64]; omega
        have HOL : Hid ((openR (bt d) sig k).length ≤ 16385) := by show _ ≤ _; rw [len_openR _ (by rw [HSL.out]; omega)]; omega
        obtain ⟨pa, HPA⟩ : ∃ p, Hid (p = dig (blk32 sig (2 * k))) := ⟨_, rfl⟩
        have HPAL : Hid (pa.length = 32) := by show _ = _; rw [HPA.out]; exact len_dig' _
        obtain ⟨pb, HPB⟩ : ∃ p, Hid (p = blk32 sig (2 * k + 1)) := ⟨_, rfl⟩
        have HPBL : Hid (pb.length = 32) := by show _ = _; rw [HPB.out]; exact len_blk32 (by rw [HSL.out]; omega)
        cases hoo : bt d k with
        | true =>
          have tk20 : Hid True := trivial
          have tk21 : Hid True := trivial
          have tk22 : Hid True := trivial
          have tk23 : Hid True := trivial
          have tk24 : Hid True := trivial
          have tk25 : Hid True := trivial
          have tk26 : Hid True := trivial
          have tk27 : Hid True := trivial
          have tk28 : Hid True := trivial
          go_wp2_with (first
            | (clear tk20; with_reducible refine wpSeq_cut (.tmp 23) (.tmp 25) (.tmp 28) bs offs 16384 cps (32 * (2 * k)) 32 (64 * (k : Int)) (64 * (k : Int) + 32) ?_ ?_ ?_ ?_ ?_ ?_ ?_ ?_ ?_ ?_ ?_
               · omega
               · omega
               · decide
               · omega
               · exact HCP.out
               · rfl
               · rfl
               · rfl
               · rfl
               · rfl)
            | (clear tk21; go_at_call 50; refine (HC1.out wr HBW.out k hlt).mono ?_; rintro e y21 ⟨rfl, hbz⟩
               replace HD : Hid (Blk y21 gd (cb d) 23) := HD.out.below hbz HD.out.lt
               replace HO : Hid (OwnB y21 w.heap.size u7 (openR (bt d) sig k)) := HO.out.below hbz (Nat.le_refl _)
               replace HBW : Hid (Below w.heap.size w y21) := HBW.out.trans (hbz.mono HBW.out.size)
               rw [← HPA.out]
               clear hbz )
            | (clear tk22; with_reducible refine wpSeq_allocD ?_ ?_ ?_
               · rfl
               · rfl
               intro ga y22 nn)
            | (clear tk23; with_reducible refine wpSeq_storeD (.tmp 9) (.tmp 30) ga zb32 pa ?_ ?_ ?_ ?_ ?_ ?_ ?_ ?_
               · rfl
               · exact HPAL.out
               · exact nn.blk
               · rfl
               · rfl
               · rfl
               · rfl
               intro y23 hs
               have hbz := nn.below.trans (hs.only.below nn.ge nn.below.size)
               replace HD : Hid (Blk y23 gd (cb d) 23) := HD.out.below hbz HD.out.lt
               replace HO : Hid (OwnB y23 w.heap.size u7 (openR (bt d) sig k)) := HO.out.below hbz (Nat.le_refl _)
               replace HBW : Hid (Below w.heap.size w y23) := HBW.out.trans (hbz.mono HBW.out.size)
               have HA : Hid (Blk y23 ga (cb pa) 23) := hs.blk
               clear nn hs hbz)
            | (clear tk24; with_reducible refine wpSeq_cut (.tmp 31) (.tmp 34) (.tmp 37) bs offs 16384 cps (32 * (2 * k + 1)) 32 (64 * (k : Int) + 32) (64 * (k : Int) + 64) ?_ ?_ ?_ ?_ ?_ ?_ ?_ ?_ ?_ ?_ ?_
               · omega
               · omega
               · decide
               · omega
               · exact HCP.out
               · rfl
               · rfl
               · rfl
               · rfl
               · rfl)
            | (clear tk25; with_reducible refine wpSeq_loadD (.tmp 6) gd d ?_ ?_ ?_ ?_ ?_ ?_
               · exact HDL.out
               · exact HD.out
               · rfl
               · rfl
               · rfl)
            | (clear tk26; go_at_call 53; refine (HC2.out y23 HBW.out k hlt).mono ?_; rintro e y24 ⟨rfl, hbz⟩
               replace HD : Hid (Blk y24 gd (cb d) 23) := HD.out.below hbz HD.out.lt
               replace HA : Hid (Blk y24 ga (cb pa) 23) := HA.out.below hbz HA.out.lt
               replace HO : Hid (OwnB y24 w.heap.size u7 (openR (bt d) sig k)) := HO.out.below hbz (Nat.le_refl _)
               replace HBW : Hid (Below w.heap.size w y24) := HBW.out.trans (hbz.mono HBW.out.size)
               rw [hoo]
               clear hbz )
            | (clear tk27; at_builtin; with_reducible refine wpSeq_appendG (.tmp 42) (.tmp 43) w.heap.size u7 (.slice (some ⟨bs, offs + 32 * (2 * k + 1), none⟩) 32 (cps - 32 * (2 * k + 1))) (openR (bt d) sig k) (pb) HO.out (by rw [HPB.out]; exact HC3.out _ HBW.out k hlt) (by rw [HPBL.out]; decide) (by have h1 := HPAL.out; have h2 := HPBL.out; have h3 := HOL.out; (try rw [List.length_append]); omega) HBW.out.size ?_ ?_ ?_ ?_ ?_
               · rfl
               · rfl
               · rfl
               · rfl
               intro v1 y25 hown hgr hbz
               replace HD : Hid (Blk y25 gd (cb d) 23) := HD.out.grown hgr (HO.out.ne HD.out (by decide))
               replace HA : Hid (Blk y25 ga (cb pa) 23) := HA.out.grown hgr (HO.out.ne HA.out (by decide))
               replace HO : Hid (OwnB y25 w.heap.size v1 (openR (bt d) sig k ++ pb)) := hown
               replace HBW : Hid (Below w.heap.size w y25) := HBW.out.trans hbz
               clear hown hgr hbz)
            | (clear tk28; at_builtin; with_reducible refine wpSeq_appendG (.tmp 45) (.tmp 46) w.heap.size v1 (.slice (some ⟨ga, 0, none⟩) 32 32) (openR (bt d) sig k ++ pb) (pa) HO.out (HA.out.reads HPAL.out.symm (by rw [HPAL.out]; exact Nat.le_refl _)) (by rw [HPAL.out]; decide) (by have h1 := HPAL.out; have h2 := HPBL.out; have h3 := HOL.out; (try rw [List.length_append]); omega) HBW.out.size ?_ ?_ ?_ ?_ ?_
               · rfl
               · rfl
               · rfl
               · rfl
               intro v2 y26 hown hgr hbz
               replace HD : Hid (Blk y26 gd (cb d) 23) := HD.out.grown hgr (HO.out.ne HD.out (by decide))
               replace HA : Hid (Blk y26 ga (cb pa) 23) := HA.out.grown hgr (HO.out.ne HA.out (by decide))
               replace HO : Hid (OwnB y26 w.heap.size v2 (openR (bt d) sig k ++ pb ++ pa)) := hown
               replace HBW : Hid (Below w.heap.size w y26) := HBW.out.trans hbz
               clear hown hgr hbz))
          go_roundw
          case rel =>
            refine ⟨k + 1, by omega, by simp, ?_, HD.out, HBW.out⟩
            have e : openR (bt d) sig (k + 1) = openR (bt d) sig k ++ (pb ++ pa) := by rw [openR, hoo, HPA.out, HPB.out]; rfl
            rw [e, ← List.append_assoc]
            exact HO.out
          case measure => simp [intOf]; omega
        | false =>
          have tk20 : Hid True := trivial
          have tk21 : Hid True := trivial
          have tk22 : Hid True := trivial
          have tk23 : Hid True := trivial
          have tk24 : Hid True := trivial
          have tk25 : Hid True := trivial
          have tk26 : Hid True := trivial
          have tk27 : Hid True := trivial
          have tk28 : Hid True := trivial
          go_wp2_with (first
            | (clear tk20; with_reducible refine wpSeq_cut (.tmp 23) (.tmp 25) (.tmp 28) bs offs 16384 cps (32 * (2 * k)) 32 (64 * (k : Int)) (64 * (k : Int) + 32) ?_ ?_ ?_ ?_ ?_ ?_ ?_ ?_ ?_ ?_ ?_
               · omega
               · omega
               · decide
               · omega
               · exact HCP.out
               · rfl
               · rfl
               · rfl
               · rfl
               · rfl)
            | (clear tk21; go_at_call 50; refine (HC1.out wr HBW.out k hlt).mono ?_; rintro e y21 ⟨rfl, hbz⟩
               replace HD : Hid (Blk y21 gd (cb d) 23) := HD.out.below hbz HD.out.lt
               replace HO : Hid (OwnB y21 w.heap.size u7 (openR (bt d) sig k)) := HO.out.below hbz (Nat.le_refl _)
               replace HBW : Hid (Below w.heap.size w y21) := HBW.out.trans (hbz.mono HBW.out.size)
               rw [← HPA.out]
               clear hbz )
            | (clear tk22; with_reducible refine wpSeq_allocD ?_ ?_ ?_
               · rfl
               · rfl
               intro ga y22 nn)
            | (clear tk23; with_reducible refine wpSeq_storeD (.tmp 9) (.tmp 30) ga zb32 pa ?_ ?_ ?_ ?_ ?_ ?_ ?_ ?_
               · rfl
               · exact HPAL.out
               · exact nn.blk
               · rfl
               · rfl
               · rfl
               · rfl
               intro y23 hs
               have hbz := nn.below.trans (hs.only.below nn.ge nn.below.size)
               replace HD : Hid (Blk y23 gd (cb d) 23) := HD.out.below hbz HD.out.lt
               replace HO : Hid (OwnB y23 w.heap.size u7 (openR (bt d) sig k)) := HO.out.below hbz (Nat.le_refl _)
               replace HBW : Hid (Below w.heap.size w y23) := HBW.out.trans (hbz.mono HBW.out.size)
               have HA : Hid (Blk y23 ga (cb pa) 23) := hs.blk
               clear nn hs hbz)
            | (clear tk24; with_reducible refine wpSeq_cut (.tmp 31) (.tmp 34) (.tmp 37) bs offs 16384 cps (32 * (2 * k + 1)) 32 (64 * (k : Int) + 32) (64 * (k : Int) + 64) ?_ ?_ ?_ ?_ ?_ ?_ ?_ ?_ ?_ ?_ ?_
               · omega
               · omega
               · decide
               · omega
               · exact HCP.out
               · rfl
               · rfl
               · rfl
               · rfl
               · rfl)
            | (clear tk25; with_reducible refine wpSeq_loadD (.tmp 6) gd d ?_ ?_ ?_ ?_ ?_ ?_
               · exact HDL.out
               · exact HD.out
               · rfl
               · rfl
               · rfl)
            | (clear tk26; go_at_call 53; refine (HC2.out y23 HBW.out k hlt).mono ?_; rintro e y24 ⟨rfl, hbz⟩
               replace HD : Hid (Blk y24 gd (cb d) 23) := HD.out.below hbz HD.out.lt
               replace HA : Hid (Blk y24 ga (cb pa) 23) := HA.out.below hbz HA.out.lt
               replace HO : Hid (OwnB y24 w.heap.size u7 (openR (bt d) sig k)) := HO.out.below hbz (Nat.le_refl _)
               replace HBW : Hid (Below w.heap.size w y24) := HBW.out.trans (hbz.mono HBW.out.size)
               rw [hoo]
               clear hbz )
            | (clear tk27; at_builtin; with_reducible refine wpSeq_appendG (.tmp 48) (.tmp 49) w.heap.size u7 (.slice (some ⟨ga, 0, none⟩) 32 32) (openR (bt d) sig k) (pa) HO.out (HA.out.reads HPAL.out.symm (by rw [HPAL.out]; exact Nat.le_refl _)) (by rw [HPAL.out]; decide) (by have h1 := HPAL.out; have h2 := HPBL.out; have h3 := HOL.out; (try rw [List.length_append]); omega) HBW.out.size ?_ ?_ ?_ ?_ ?_
               · rfl
               · rfl
               · rfl
               · rfl
               intro v1 y25 hown hgr hbz
               replace HD : Hid (Blk y25 gd (cb d) 23) := HD.out.grown hgr (HO.out.ne HD.out (by decide))
               replace HA : Hid (Blk y25 ga (cb pa) 23) := HA.out.grown hgr (HO.out.ne HA.out (by decide))
               replace HO : Hid (OwnB y25 w.heap.size v1 (openR (bt d) sig k ++ pa)) := hown
               replace HBW : Hid (Below w.heap.size w y25) := HBW.out.trans hbz
               clear hown hgr hbz)
            | (clear tk28; at_builtin; with_reducible refine wpSeq_appendG (.tmp 51) (.tmp 52) w.heap.size v1 (.slice (some ⟨bs, offs + 32 * (2 * k + 1), none⟩) 32 (cps - 32 * (2 * k + 1))) (openR (bt d) sig k ++ pa) (pb) HO.out (by rw [HPB.out]; exact HC3.out _ HBW.out k hlt) (by rw [HPBL.out]; decide) (by have h1 := HPAL.out; have h2 := HPBL.out; have h3 := HOL.out; (try rw [List.length_append]); omega) HBW.out.size ?_ ?_ ?_ ?_ ?_
               · rfl
               · rfl
               · rfl
               · rfl
               intro v2 y26 hown hgr hbz
               replace HD : Hid (Blk y26 gd (cb d) 23) := HD.out.grown hgr (HO.out.ne HD.out (by decide))
               replace HA : Hid (Blk y26 ga (cb pa) 23) := HA.out.grown hgr (HO.out.ne HA.out (by decide))
               replace HO : Hid (OwnB y26 w.heap.size v2 (openR (bt d) sig k ++ pa ++ pb)) := hown
               replace HBW : Hid (Below w.heap.size w y26) := HBW.out.trans hbz
               clear hown hgr hbz))
          go_roundw
          case rel =>
            refine ⟨k + 1, by omega, by simp, ?_, HD.out, HBW.out⟩
            have e : openR (bt d) sig (k + 1) = openR (bt d) sig k ++ (pa ++ pb) := by rw [openR, hoo, HPA.out, HPB.out]; rfl
            rw [e, ← List.append_assoc]
            exact HO.out
          case measure => simp [intOf]; omega
      · have hi : ¬ ((k : Int) < 256) := by omega
        have hk : k = 256 := by omega
        subst hk
        go_wp2
        refine bodyPost_ret (results_tmp2 rfl _ _ _) rfl ?_
        exact ⟨_, by rw [HL.out.2]; rfl, by rw [HL.out.1]; exact HO.out.reads, HBW.out⟩
  · have HL : Hid (openL b sig = [] ∧ openE sig = 15) := by show _ ∧ _; rw [openL, openE, if_neg h16, if_neg h16]; exact ⟨rfl, rfl⟩
    obtain ⟨n, HNL⟩ : ∃ n, Hid (n = sig.length) := ⟨_, rfl⟩
    rw [← HNL.out] at hvs h16
    have hne : ((n : Int) == 16384) = false := by rw [beq_eq_false_iff_ne]; omega
    subst hvb hvs
    clear hb hs hl hcp
    go_enter Tryd.func51, Tryd.ntmps51
    go_wp2
    refine bodyPost_ret (results_tmp2 rfl _ _ _) rfl ?_
    exact ⟨_, by rw [HL.out.2]; rfl, by rw [HL.out.1]; exact ⟨Option.none, 0, rfl, Nat.le_refl _, fun _ => rfl, fun h => by cases h⟩, Below.refl _ _⟩
end Go.Proofs.YtableajopaappaaDoor
/- The walk of the reference's Check (layer 10). -/
namespace Go.Proofs.YtableajopaappaaDoor
open Go.RowKit
set_option maxRecDepth 100000
set_option maxRecDepth 100000 in
set_option maxHeartbeats 8000000 in
theorem qlCheck_any (p : List (BitVec 8)) (vb vs : Value) (b sig : List (BitVec 8)) (w : World) (hp : p.length = 32) (hb : Reads w vb b) (hs : Reads w vs sig) (hl : b.length < 140737488350000) :
    Calls Tryd.prog 55 #[.agg (cb p).toArray, vb, vs] w fun e w' => e = .returned (.int .i64 (checkE p b sig)) ∧ Below w.heap.size w w' := by
  obtain ⟨ab, cbb, hvb, hq1⟩ := id hb
  obtain ⟨ads, cps, hvs, hq2⟩ := id hs
  clear hq1 hq2
  obtain ⟨nb, HNB⟩ : ∃ n, Hid (n = b.length) := ⟨_, rfl⟩
  obtain ⟨ns, HNS⟩ : ∃ n, Hid (n = sig.length) := ⟨_, rfl⟩
  rw [← HNB.out] at hvb
  rw [← HNS.out] at hvs
  have HPL : Hid (p.length = 32) := hp
  have HC1 : Hid (∀ W : World, Below w.heap.size w W → Calls Tryd.prog 51 #[vb, vs] W (OpenA W b sig)) := fun W hh => qlOpened_any vb vs b sig W (hb.below hh) (hs.below hh) hl
  subst hvb hvs
  clear hb hs hl hp
  by_cases h16 : sig.length = 16384
  · obtain ⟨t, HT⟩ : ∃ t, Hid (t = openR (bt (dig b)) sig 256) := ⟨_, rfl⟩
    have HTL : Hid (t.length = 16385) := by show _ = _; rw [HT.out, len_openR _ (by omega)]
    have HOL : Hid (openL b sig = t ∧ openE sig = 0) := by show _ ∧ _; rw [openL, openE, if_pos h16, if_pos h16, HT.out]; exact ⟨rfl, rfl⟩
    obtain ⟨r, HRD⟩ : ∃ r, Hid (r = dig t) := ⟨_, rfl⟩
    have HRL : Hid (r.length = 32) := by show _ = _; rw [HRD.out]; exact len_dig' _
    have HCK : Hid (checkE p b sig = if r = p then 0 else 15) := by show _ = _; unfold checkE; rw [← HT.out, ← HRD.out]; simp [h16]
    have HC2 : Hid (∀ (W : World) (v : Value), Reads W v t → Calls Tryd.prog 50 #[v] W fun e w' => e = .returned (.agg (cb r).toArray) ∧ Below W.heap.size W w') := fun W v hv => by rw [HRD.out]; exact rOf_any v t W hv (by rw [HTL.out]; omega)
    have heq : ∀ wx : World, (Op.equalIn 10000 23 (.agg (cb r).toArray) (.agg (cb p).toArray)).run Tryd.prog wx = .ok (decide (r = p)) wx := fun wx => eq_dig r p HRL.out HPL.out wx
    obtain ⟨o, HO⟩ : ∃ o, Hid (o = decide (r = p)) := ⟨_, rfl⟩
    rw [← HO.out] at heq
    have HCK2 : Hid (checkE p b sig = if o then 0 else 15) := by
      show _ = _
      rw [HCK.out, HO.out]
      by_cases e : r = p
      · rw [if_pos e, decide_eq_true e]; rfl
      · rw [if_neg e, decide_eq_false e]; rfl
    rw [HCK2.out]
    clear h16 HT HRD HCK HO HCK2
    go_enter Tryd.func55, Tryd.ntmps55
    go_upto_region 2 with (first
      | (with_reducible refine wpSeq_boxD (.tmp 0) p ?_ ?_ ?_ ?_
         · rfl
         · rfl
         · rfl
         intro gp w1 nn
         have HB1 : Hid (Below w.heap.size w w1) := nn.below
         have HGP : Hid (Blk w1 gp (cb p) 23) := nn.blk
         clear nn)
      | (go_at_call 51; refine (HC1.out _ HB1.out).mono ?_; rintro e w2 ⟨v, rfl, hv, hb2⟩
         rw [HOL.out.1] at hv
         have HV : Hid (Reads w2 v t) := hv
         replace HGP : Hid (Blk w2 gp (cb p) 23) := HGP.out.below hb2 HGP.out.lt
         replace HB1 : Hid (Below w.heap.size w w2) := HB1.out.trans (hb2.mono HB1.out.size)
         rw [HOL.out.2]
         clear hv hb2))
    have HYB : Hid (Below w.heap.size w (World.drew w2)) := HB1.out.drew
    replace HGP : Hid (Blk (World.drew w2) gp (cb p) 23) := HGP.out.drew
    replace HV : Hid (Reads (World.drew w2) v t) := reads_drew HV.out
    clear HB1
    refine wp_region_held_drew (S := Over (World.drew w2)) (by kernel_rfl) (Over.refl _) ?_
    intro hS
    change wpAnyH _ _ _ _ _ _ _ _ (World.drew w2)
    generalize World.drew w2 = y0 at *
    refine wpAnyH_take (i := 0) (v := .int .i64 0) rfl (by kernel_rfl) (by kernel_rfl) (by kernel_rfl) (fun _ _ _ h => h) (Or.inl ⟨by rfl, fun wx hx => by simp [go_sem]⟩) hS ?_
    simp only [Act.put, List.getElem_toArray, List.getElem_cons_zero, List.setIfInBounds_toArray, List.set_cons_zero, List.set_cons_succ]
    refine wpAnyH_take (i := 1) (v := .bool false) rfl (by kernel_rfl) (by kernel_rfl) (by kernel_rfl) (fun _ _ _ h => h) (Or.inl ⟨by rfl, fun wx hx => by simp [go_sem]⟩) hS ?_
    simp only [Act.put, List.getElem_toArray, List.getElem_cons_succ, List.getElem_cons_zero, List.setIfInBounds_toArray, List.set_cons_zero, List.set_cons_succ]
    refine wpAnyH_take (i := 2) (v := .bool false) rfl (by kernel_rfl) (by kernel_rfl) (by kernel_rfl) (fun _ _ _ h => h) (Or.inl ⟨by rfl, fun wx hx => by simp [go_sem]⟩) hS ?_
    simp only [Act.put, List.getElem_toArray, List.getElem_cons_succ, List.getElem_cons_zero, List.setIfInBounds_toArray, List.set_cons_zero, List.set_cons_succ]
    refine wpAnyH_take (i := 3) (v := v) rfl (by kernel_rfl) (by kernel_rfl) (by kernel_rfl) (fun _ _ _ h => h) (Or.inl ⟨by rfl, fun wx hx => by simp [go_sem]⟩) hS ?_
    simp only [Act.put, List.getElem_toArray, List.getElem_cons_succ, List.getElem_cons_zero, List.setIfInBounds_toArray, List.set_cons_zero, List.set_cons_succ]
    refine wpAnyH_take (i := 5) (v := .agg (cb p).toArray) rfl (by kernel_rfl) (by kernel_rfl) (by kernel_rfl) (fun _ _ _ h => h) (Or.inl ⟨by rfl, fun wx hx => by exact loadDigest _ gp p HPL.out (HGP.out.below hx HGP.out.lt) rfl rfl⟩) hS ?_
    simp only [Act.put, List.getElem_toArray, List.getElem_cons_succ, List.getElem_cons_zero, List.setIfInBounds_toArray, List.set_cons_zero, List.set_cons_succ]
    refine wpAnyH_enter 4 (by kernel_rfl) rfl (by rfl) (f := 50) (args := #[v]) (by simp [go_sem]) (HC2.out _ v (HV.out.below hS)) ?_
    rintro e y1 ⟨rfl, hbq⟩
    replace hS := Over.more hS hbq
    refine ⟨_, rfl, hS, ?_⟩
    clear hbq
    simp only [Act.put, List.getElem_toArray, List.getElem_cons_succ, List.getElem_cons_zero, List.setIfInBounds_toArray, List.set_cons_zero, List.set_cons_succ]
    refine wpAnyH_take (i := 6) (v := .bool (!o)) rfl (by kernel_rfl) (by kernel_rfl) (by kernel_rfl) (fun _ _ _ h => h) (Or.inl ⟨by rfl, fun wx hx => by simp [go_sem, heq]⟩) hS ?_
    simp only [Act.put, List.getElem_toArray, List.getElem_cons_succ, List.getElem_cons_zero, List.setIfInBounds_toArray, List.set_cons_zero, List.set_cons_succ]
    refine wpAnyH_take (i := 7) (v := .bool (!o)) rfl (by kernel_rfl) (by kernel_rfl) (by kernel_rfl) (fun _ _ _ h => h) (Or.inl ⟨by rfl, fun wx hx => by simp [go_sem]⟩) hS ?_
    simp only [Act.put, List.getElem_toArray, List.getElem_cons_succ, List.getElem_cons_zero, List.setIfInBounds_toArray, List.set_cons_zero, List.set_cons_succ]
    refine wpAnyH_done (by kernel_rfl) ?_ _
    have HBW : Hid (Below w.heap.size w y1) := HYB.out.trans (Below.mono hS HYB.out.size)
    clear hS HV HGP HYB
    cases o with
    | true =>
      simp only [Bool.not_true]
      go_wp2
      go_ret
      exact ⟨rfl, HBW.out⟩
    | false =>
      simp only [Bool.not_false]
      go_wp2
      go_ret
      exact ⟨rfl, HBW.out⟩
  · have HOL : Hid (openL b sig = [] ∧ openE sig = 15) := by show _ ∧ _; rw [openL, openE, if_neg h16, if_neg h16]; exact ⟨rfl, rfl⟩
    have HCK : Hid (checkE p b sig = 15) := by show _ = _; unfold checkE; rw [if_neg (fun h => h16 h.1)]
    rw [HCK.out]
    clear h16 HCK
    go_enter Tryd.func55, Tryd.ntmps55
    go_upto_region 2 with (first
      | (with_reducible refine wpSeq_boxD (.tmp 0) p ?_ ?_ ?_ ?_
         · rfl
         · rfl
         · rfl
         intro gp w1 nn
         have HB1 : Hid (Below w.heap.size w w1) := nn.below
         clear nn)
      | (go_at_call 51; refine (HC1.out _ HB1.out).mono ?_; rintro e w2 ⟨v, rfl, hv, hb2⟩
         replace HB1 : Hid (Below w.heap.size w w2) := HB1.out.trans (hb2.mono HB1.out.size)
         rw [HOL.out.2]
         clear hv hb2))
    have HYB : Hid (Below w.heap.size w (World.drew w2)) := HB1.out.drew
    clear HB1
    refine wp_region_held_drew (S := Over (World.drew w2)) (by kernel_rfl) (Over.refl _) ?_
    intro hS
    change wpAnyH _ _ _ _ _ _ _ _ (World.drew w2)
    generalize World.drew w2 = y0 at *
    refine wpAnyH_take (i := 0) (v := .int .i64 15) rfl (by kernel_rfl) (by kernel_rfl) (by kernel_rfl) (fun _ _ _ h => h) (Or.inl ⟨by rfl, fun wx hx => by simp [go_sem]⟩) hS ?_
    simp only [Act.put, List.getElem_toArray, List.getElem_cons_zero, List.setIfInBounds_toArray, List.set_cons_zero, List.set_cons_succ]
    refine wpAnyH_take (i := 1) (v := .bool true) rfl (by kernel_rfl) (by kernel_rfl) (by kernel_rfl) (fun _ _ _ h => h) (Or.inl ⟨by rfl, fun wx hx => by simp [go_sem]⟩) hS ?_
    simp only [Act.put, List.getElem_toArray, List.getElem_cons_succ, List.getElem_cons_zero, List.setIfInBounds_toArray, List.set_cons_zero, List.set_cons_succ]
    refine wpAnyH_take (i := 2) (v := .bool true) rfl (by kernel_rfl) (by kernel_rfl) (by kernel_rfl) (fun _ _ _ h => h) (Or.inl ⟨by rfl, fun wx hx => by simp [go_sem]⟩) hS ?_
    simp only [Act.put, List.getElem_toArray, List.getElem_cons_succ, List.getElem_cons_zero, List.setIfInBounds_toArray, List.set_cons_zero, List.set_cons_succ]
    refine wpAnyH_take (i := 3) (v := undef) rfl (by kernel_rfl) (by kernel_rfl) (by kernel_rfl) (fun _ _ _ h => h) (Or.inr ⟨by rfl, rfl⟩) hS ?_
    simp only [Act.put, List.getElem_toArray, List.getElem_cons_succ, List.getElem_cons_zero, List.setIfInBounds_toArray, List.set_cons_zero, List.set_cons_succ]
    refine wpAnyH_take (i := 4) (v := undef) rfl (by kernel_rfl) (by kernel_rfl) (by kernel_rfl) (fun _ _ _ h => h) (Or.inr ⟨by rfl, rfl⟩) hS ?_
    simp only [Act.put, List.getElem_toArray, List.getElem_cons_succ, List.getElem_cons_zero, List.setIfInBounds_toArray, List.set_cons_zero, List.set_cons_succ]
    refine wpAnyH_take (i := 5) (v := undef) rfl (by kernel_rfl) (by kernel_rfl) (by kernel_rfl) (fun _ _ _ h => h) (Or.inr ⟨by rfl, rfl⟩) hS ?_
    simp only [Act.put, List.getElem_toArray, List.getElem_cons_succ, List.getElem_cons_zero, List.setIfInBounds_toArray, List.set_cons_zero, List.set_cons_succ]
    refine wpAnyH_take (i := 6) (v := undef) rfl (by kernel_rfl) (by kernel_rfl) (by kernel_rfl) (fun _ _ _ h => h) (Or.inr ⟨by rfl, rfl⟩) hS ?_
    simp only [Act.put, List.getElem_toArray, List.getElem_cons_succ, List.getElem_cons_zero, List.setIfInBounds_toArray, List.set_cons_zero, List.set_cons_succ]
    refine wpAnyH_take (i := 7) (v := .bool true) rfl (by kernel_rfl) (by kernel_rfl) (by kernel_rfl) (fun _ _ _ h => h) (Or.inl ⟨by rfl, fun wx hx => by simp [go_sem]⟩) hS ?_
    simp only [Act.put, List.getElem_toArray, List.getElem_cons_succ, List.getElem_cons_zero, List.setIfInBounds_toArray, List.set_cons_zero, List.set_cons_succ]
    refine wpAnyH_done (by kernel_rfl) ?_ _
    have HBW : Hid (Below w.heap.size w y0) := HYB.out
    clear hS HYB
    go_wp2
    go_ret
    exact ⟨rfl, HBW.out⟩
end Go.Proofs.YtableajopaappaaDoor
/- Plain: heads and signed roots, followed one behind the other; what follows (layer 11). -/
namespace Go.Proofs.YtableajopaappaaDoor
open Go.RowKit
set_option maxRecDepth 100000
theorem len_rootB (n : Nat) (x y z : List (BitVec 8)) (h : x.length = 32 ∧ y.length = 32 ∧ z.length = 32) : (rootB n x y z).length = 105 := by simp [rootB, h.1, h.2.1, h.2.2, len_num8]
/-- a head: its epoch, its root's digest, its key -/
abbrev HdT : Type := Nat × List (BitVec 8) × List (BitVec 8)
/-- a signed root: epoch, the one ahead, tree, next key; and the signature -/
abbrev SgT : Type := (Nat × List (BitVec 8) × List (BitVec 8) × List (BitVec 8)) × List (BitVec 8)
def okH (h : HdT) : Prop := h.2.1.length = 32 ∧ h.2.2.length = 32 ∧ h.1 < 18446744073709551616
def okS (s : SgT) : Prop := s.1.2.1.length = 32 ∧ s.1.2.2.1.length = 32 ∧ s.1.2.2.2.length = 32 ∧ s.1.1 < 18446744073709551616
def zeroH : HdT := (0, zb32, zb32)
def zeroS : SgT := ((0, zb32, zb32, zb32), [])
/-- what is hashed of a signed root -/
def rbS (s : SgT) : List (BitVec 8) := rootB s.1.1 s.1.2.1 s.1.2.2.1 s.1.2.2.2
theorem okH_mk {n : Nat} {a b : List (BitVec 8)} (h1 : a.length = 32) (h2 : b.length = 32) (h3 : n < 18446744073709551616) : okH (n, a, b) := ⟨h1, h2, h3⟩
theorem okS_mk {n : Nat} {a b c g : List (BitVec 8)} (h1 : a.length = 32) (h2 : b.length = 32) (h3 : c.length = 32) (h4 : n < 18446744073709551616) : okS ((n, a, b, c), g) := ⟨h1, h2, h3, h4⟩
theorem okH_zero : okH zeroH := ⟨rfl, rfl, by decide⟩
theorem okS_zero : okS zeroS := ⟨rfl, rfl, rfl, by decide⟩
theorem len_rbS {s : SgT} (h : okS s) : (rbS s).length = 105 := len_rootB _ _ _ _ ⟨h.1, h.2.1, h.2.2.1⟩
/-- 11.3 -/
def followR (h : HdT) (s : SgT) : HdT × Int :=
  if 64 ≤ h.1 ∨ s.1.1 ≠ h.1 + 1 then (zeroH, 10)
  else if s.1.2.1 ≠ h.2.1 ∨ checkE h.2.2 (rbS s) s.2 ≠ 0 then (zeroH, 15)
  else ((s.1.1, dig (rbS s), s.1.2.2.2), 0)
theorem follow_okH (h : HdT) (s : SgT) (hs : okS s) : okH (followR h s).1 := by
  unfold followR
  split
  · exact okH_zero
  · split
    · exact okH_zero
    · exact okH_mk (len_dig' _) hs.2.2.1 hs.2.2.2
/-- 11.4 -/
def walkR : HdT → List SgT → HdT × Nat × Int
  | h, [] => (h, 0, 0)
  | h, s :: l => if (followR h s).2 = 0 then ((walkR (followR h s).1 l).1, (walkR (followR h s).1 l).2.1 + 1, (walkR (followR h s).1 l).2.2) else (zeroH, 0, (followR h s).2)
theorem walk_okH : ∀ (l : List SgT) (h : HdT), okH h → (∀ s ∈ l, okS s) → okH (walkR h l).1
  | [], h, hh, _ => hh
  | s :: l, h, hh, hl => by
    rw [walkR]
    split
    · exact walk_okH l _ (follow_okH h s (hl s (by simp))) (fun t ht => hl t (by simp [ht]))
    · exact okH_zero
theorem walk_app : ∀ (l m : List SgT) (h : HdT), walkR h (l ++ m) = if (walkR h l).2.2 = 0 then ((walkR (walkR h l).1 m).1, (walkR (walkR h l).1 m).2.1 + l.length, (walkR (walkR h l).1 m).2.2) else walkR h l
  | [], m, h => by rw [List.nil_append, show walkR h [] = (h, 0, 0) from rfl, if_pos rfl]; rfl
  | s :: l, m, h => by
    rw [List.cons_append, walkR]
    by_cases h1 : (followR h s).2 = 0
    · have e : walkR h (s :: l) = ((walkR (followR h s).1 l).1, (walkR (followR h s).1 l).2.1 + 1, (walkR (followR h s).1 l).2.2) := by rw [walkR, if_pos h1]
      rw [if_pos h1, walk_app l m, e]
      by_cases h2 : (walkR (followR h s).1 l).2.2 = 0
      · rw [if_pos h2, if_pos h2, List.length_cons, Nat.add_assoc]
      · rw [if_neg h2, if_neg h2]
    · have e : walkR h (s :: l) = (zeroH, 0, (followR h s).2) := by rw [walkR, if_neg h1]
      rw [if_neg h1, e, if_neg h1]
/-- one root more -/
theorem walk_snoc (l : List SgT) (s : SgT) (h : HdT) (h0 : (walkR h l).2.2 = 0) : walkR h (l ++ [s]) = if (followR (walkR h l).1 s).2 = 0 then ((followR (walkR h l).1 s).1, l.length + 1, 0) else (zeroH, l.length, (followR (walkR h l).1 s).2) := by
  rw [walk_app, if_pos h0, walkR]
  split
  · rw [walkR, Nat.zero_add, Nat.add_comm]
  · rw [Nat.zero_add]
/-- the first k roots can be followed: what is told of all is told behind them -/
theorem walk_take {l : List SgT} {k : Nat} {h g : HdT} (hk : k < l.length) (hw : walkR h (l.take k) = (g, k, 0)) (s : SgT) (hs : l.getD k zeroS = s) :
    ((followR g s).2 = 0 → walkR h (l.take (k + 1)) = ((followR g s).1, k + 1, 0)) ∧ ((followR g s).2 ≠ 0 → walkR h l = (zeroH, k, (followR g s).2)) := by
  have hg : l[k] = s := by rw [← hs, List.getD_eq_getElem?_getD, List.getElem?_eq_getElem hk]; rfl
  have ht : l.take (k + 1) = l.take k ++ [s] := by rw [List.take_add_one, List.getElem?_eq_getElem hk, hg]; rfl
  have hlen : (l.take k).length = k := by rw [List.length_take]; omega
  have h0 : (walkR h (l.take k)).2.2 = 0 := by rw [hw]
  have hsn := walk_snoc (l.take k) s h h0
  rw [hw, hlen] at hsn
  constructor
  · intro h1
    rw [ht, hsn, if_pos h1]
  · intro h1
    have e : l = l.take (k + 1) ++ l.drop (k + 1) := (List.take_append_drop _ _).symm
    rw [if_neg h1] at hsn
    rw [e, ht, walk_app, hsn, if_neg h1]
end Go.Proofs.YtableajopaappaaDoor
/- A row in a new block. -/
namespace Go.Proofs.YtableajopaappaaDoor
open Go.RowKit
set_option maxRecDepth 100000
theorem wpSeq_box {ops : Array Oper} {Q : Exit → Act → World → Prop} {rest : List Oper} {o : Oper} {a : Act} {w : World} (ty : TypeId) (x : Operand) (ho : o.op = .box ty x) (cs : List Value) (hx : a.eval x = .agg cs.toArray) (hw : Region.wanted o (yielded ops a.tmps) = true) (w0 : World) (h0 : w0 = w.alloc (.cells cs.toArray ty))
    (h : wpList Tryd.prog ops Q rest (a.put o.dst (.pointer (some ⟨w.heap.size, 0, none⟩))) w0) : wpList Tryd.prog ops Q (o :: rest) a w := by
  refine wpSeq_val _ w0 hw ?_ h
  subst h0
  unfold execOp
  rw [ho]
  simp only [hx]
  rfl
theorem Reads.form {w : World} {v : Value} {l : List (BitVec 8)} (h : Reads w v l) : ∃ a n c, v = .slice a n c := by
  obtain ⟨a, c, hv, _⟩ := h
  exact ⟨_, _, _, hv⟩
end Go.Proofs.YtableajopaappaaDoor
/- Roots and bindings in memory, held against each other; the reference's Root and Value (layer 9). -/
namespace Go.Proofs.YtableajopaappaaDoor
open Go.RowKit
set_option maxRecDepth 100000
theorem part_dig (A C : List Value) (x : List (BitVec 8)) (off : Nat) (hA : A.length = off) (hx : x.length = 32) (w : World) : (part 23 (A ++ (cb x ++ C)).toArray off).run Tryd.prog w = .ok (.agg (cb x).toArray) w := by
  have ha : (isAgg 23).run Tryd.prog w = .ok true w := by kernel_rfl
  have hs : (sizeOf 23).run Tryd.prog w = .ok 32 w := by kernel_rfl
  have e : (A ++ (cb x ++ C)).toArray.extract off (off + 32) = (cb x).toArray := by
    rw [List.extract_toArray, List.extract_eq_take_drop, show off + 32 - off = 32 by omega, ← hA, List.drop_left, show (32 : Nat) = (cb x).length by rw [cb_len, hx], List.take_left]
  simp only [part, Sem.run_bind, ha, Result.andThen_ok, if_true, hs, Sem.run_pure, e]
theorem part_u64 (n : Nat) (r : List Value) (w : World) : (part 25 (Value.int .u64 (n : Int) :: r).toArray 0).run Tryd.prog w = .ok (.int .u64 (n : Int)) w := by
  have ha : (isAgg 25).run Tryd.prog w = .ok false w := by kernel_rfl
  simp only [part, Sem.run_bind, ha, Result.andThen_ok]
  simp
theorem eq_root (n m : Nat) (x y z a b c : List (BitVec 8)) (hx : x.length = 32) (hy : y.length = 32) (hz : z.length = 32) (ha : a.length = 32) (hb : b.length = 32) (hc : c.length = 32) (w : World) :
    (Op.equalIn 10000 27 (.agg (Value.int .u64 (n : Int) :: (cb x ++ (cb y ++ cb z))).toArray) (.agg (Value.int .u64 (m : Int) :: (cb a ++ (cb b ++ cb c))).toArray)).run Tryd.prog w = .ok (decide (n = m ∧ x = a ∧ y = b ∧ z = c)) w := by
  have hst : Tryd.prog.stoodInHeld 27 = false := by kernel_rfl
  have pn := fun w => part_u64 n (cb x ++ (cb y ++ cb z)) w
  have pm := fun w => part_u64 m (cb a ++ (cb b ++ cb c)) w
  have px : ∀ w, (part 23 (Value.int .u64 (n : Int) :: (cb x ++ (cb y ++ cb z))).toArray 1).run Tryd.prog w = .ok (.agg (cb x).toArray) w := fun w => part_dig [_] (cb y ++ cb z) x 1 rfl hx w
  have pa : ∀ w, (part 23 (Value.int .u64 (m : Int) :: (cb a ++ (cb b ++ cb c))).toArray 1).run Tryd.prog w = .ok (.agg (cb a).toArray) w := fun w => part_dig [_] (cb b ++ cb c) a 1 rfl ha w
  have py : ∀ w, (part 23 (Value.int .u64 (n : Int) :: (cb x ++ (cb y ++ cb z))).toArray 33).run Tryd.prog w = .ok (.agg (cb y).toArray) w := fun w => by
    have := part_dig (Value.int .u64 (n : Int) :: cb x) (cb z) y 33 (by rw [List.length_cons, cb_len, hx]) hy w
    rwa [List.cons_append] at this
  have pb : ∀ w, (part 23 (Value.int .u64 (m : Int) :: (cb a ++ (cb b ++ cb c))).toArray 33).run Tryd.prog w = .ok (.agg (cb b).toArray) w := fun w => by
    have := part_dig (Value.int .u64 (m : Int) :: cb a) (cb c) b 33 (by rw [List.length_cons, cb_len, ha]) hb w
    rwa [List.cons_append] at this
  have pz : ∀ w, (part 23 (Value.int .u64 (n : Int) :: (cb x ++ (cb y ++ cb z))).toArray 65).run Tryd.prog w = .ok (.agg (cb z).toArray) w := fun w => by
    have := part_dig (Value.int .u64 (n : Int) :: (cb x ++ cb y)) [] z 65 (by rw [List.length_cons, List.length_append, cb_len, cb_len, hx, hy]) hz w
    rwa [List.cons_append, List.append_nil, List.append_assoc] at this
  have pc : ∀ w, (part 23 (Value.int .u64 (m : Int) :: (cb a ++ (cb b ++ cb c))).toArray 65).run Tryd.prog w = .ok (.agg (cb c).toArray) w := fun w => by
    have := part_dig (Value.int .u64 (m : Int) :: (cb a ++ cb b)) [] c 65 (by rw [List.length_cons, List.length_append, cb_len, cb_len, ha, hb]) hc w
    rwa [List.cons_append, List.append_nil, List.append_assoc] at this
  have ex : ∀ w, (Op.equalIn 9999 23 (.agg (cb x).toArray) (.agg (cb a).toArray)).run Tryd.prog w = .ok (decide (x = a)) w := fun w => eq_digs 9997 x a hx ha w
  have ey : ∀ w, (Op.equalIn 9999 23 (.agg (cb y).toArray) (.agg (cb b).toArray)).run Tryd.prog w = .ok (decide (y = b)) w := fun w => eq_digs 9997 y b hy hb w
  have ez : ∀ w, (Op.equalIn 9999 23 (.agg (cb z).toArray) (.agg (cb c).toArray)).run Tryd.prog w = .ok (decide (z = c)) w := fun w => eq_digs 9997 z c hz hc w
  have en : ∀ w, (Op.equalIn 9999 25 (.int .u64 (n : Int)) (.int .u64 (m : Int))).run Tryd.prog w = .ok ((n : Int) == (m : Int)) w := fun w => run_equalIn_int w 9998 25 .u64 .u64 _ _ Tryd.underlying25
  rw [show (10000 : Nat) = 9999 + 1 from rfl, Op.equalIn]
  simp only [Sem.run_bind, run_underlying Tryd.underlying27, Result.andThen_ok]
  have hp : ∀ w, (program).run Tryd.prog w = .ok Tryd.prog w := fun _ => rfl
  have hd : decide (n = m ∧ x = a ∧ y = b ∧ z = c) = (((n : Int) == (m : Int)) && (decide (x = a) && (decide (y = b) && decide (z = c)))) := by
    have e : ((n : Int) == (m : Int)) = decide (n = m) := by
      rw [Bool.eq_iff_iff, beq_iff_eq, decide_eq_true_iff]; omega
    rw [e]; simp
  rw [hd]
  generalize ((n : Int) == (m : Int)) = bn at *
  generalize decide (x = a) = bx at *
  generalize decide (y = b) = by' at *
  generalize decide (z = c) = bz at *
  clear hd
  simp only [hp, Result.andThen_ok, hst, Bool.false_eq_true, if_false, List.forIn_toArray, List.forIn_cons, List.forIn_nil, Sem.run_bind]
  cases bn <;> cases bx <;> cases by' <;> cases bz <;> simp [pn, pm, px, pa, py, pb, pz, pc, en, ex, ey, ez]
theorem info_root0 : (Tryd.prog.info? 27).map (·.size) = some 97 := by kernel_rfl
theorem info_root (v : Value) (x y z : List (BitVec 8)) (h : x.length = 32 ∧ y.length = 32 ∧ z.length = 32) : (Tryd.prog.info? 27).map (·.size) = some (v :: (cb x ++ (cb y ++ cb z))).length := by
  rw [info_root0, List.length_cons, List.length_append, List.length_append, cb_len, cb_len, cb_len, h.1, h.2.1, h.2.2]
/-- a row in a new block -/
theorem wpSeq_boxR {ops : Array Oper} {Q : Exit → Act → World → Prop} {rest : List Oper} {o : Oper} {a : Act} {w : World} (ty : TypeId) (x : Operand) (cs : List Value) (ho : o.op = .box ty x) (hx : a.eval x = .agg cs.toArray) (hw : Region.wanted o (yielded ops a.tmps) = true)
    (h : ∀ g w', Blk w' g cs ty → Below w.heap.size w w' → wpList Tryd.prog ops Q rest (a.put o.dst (.pointer (some ⟨g, 0, none⟩))) w') : wpList Tryd.prog ops Q (o :: rest) a w :=
  wpSeq_box ty x ho cs hx hw _ rfl (h _ _ (Blk.new w cs ty) (below_alloc _ _))
theorem wpSeq_loadRow {ops : Array Oper} {Q : Exit → Act → World → Prop} {rest : List Oper} {o : Oper} {a : Act} {w : World} (ty : TypeId) (x : Operand) (g : Nat) (cs : List Value) (d : TypeDesc) (hb : Blk w g cs ty) (hu : Tryd.prog.underlying ty = some d) (hd : d.isRow = true) (hi : (Tryd.prog.info? ty).map (·.size) = some cs.length) (ho : o.op = .load ty x) (hx : a.eval x = .pointer (some ⟨g, 0, none⟩)) (hw : Region.wanted o (yielded ops a.tmps) = true)
    (h : wpList Tryd.prog ops Q rest (a.put o.dst (.agg cs.toArray)) w) : wpList Tryd.prog ops Q (o :: rest) a w :=
  wpSeq_val _ _ hw (load_run ty x ho g 0 hx cs d hb.range hu hd hi) h
def rootC (n : Nat) (x y z : List (BitVec 8)) : List Value := Value.int .u64 (n : Int) :: (cb x ++ (cb y ++ cb z))
set_option maxRecDepth 100000 in
set_option maxHeartbeats 4000000 in
theorem hRoot_any (n : Nat) (x y z : List (BitVec 8)) (w : World) (hn : x.length = 32 ∧ y.length = 32 ∧ z.length = 32 ∧ n < 18446744073709551616) :
    Calls Tryd.prog 47 #[.agg (rootC n x y z).toArray] w fun e w' => e = .returned (.agg (cb (dig (rootB n x y z))).toArray) ∧ Below w.heap.size w w' := by
  obtain ⟨r, HRD⟩ : ∃ r, Hid (r = dig (rootB n x y z)) := ⟨_, rfl⟩
  have HRL : Hid (r.length = 32) := by show _ = _; rw [HRD.out]; exact len_dig' _
  obtain ⟨cs, HCS⟩ : ∃ c, Hid (c = rootC n x y z) := ⟨_, rfl⟩
  have HIN : Hid ((Tryd.prog.info? 27).map (·.size) = some cs.length) := by rw [HCS.out]; exact info_root _ x y z ⟨hn.1, hn.2.1, hn.2.2.1⟩
  have HC : Hid (∀ W, Calls Tryd.prog 27 #[.agg cs.toArray] W fun e w' => ∃ v, e = .returned v ∧ Reads w' v (rootB n x y z) ∧ Below W.heap.size W w') := fun W => by rw [HCS.out]; exact rRoot_any x y z n W hn
  have HLB : Hid ((rootB n x y z).length = 105) := len_rootB n x y z ⟨hn.1, hn.2.1, hn.2.2.1⟩
  rw [← HRD.out, ← HCS.out]
  clear hn
  have HBW : Hid (Below w.heap.size w w) := Below.refl _ _
  go_enter Tryd.func47, Tryd.ntmps47
  go_wp2_with (first
    | (with_reducible refine wpSeq_boxR 27 (.tmp 0) cs ?_ ?_ ?_ ?_
       · rfl
       · rfl
       · rfl
       intro g1 w1 hb1 hl1
       have HX : Hid (Blk w1 g1 cs 27) := hb1
       replace HBW : Hid (Below w.heap.size w w1) := HBW.out.trans (hl1.mono HBW.out.size)
       clear hb1 hl1)
    | (with_reducible refine wpSeq_allocD ?_ ?_ ?_
       · rfl
       · rfl
       intro g2 w2 nn
       replace HX : Hid (Blk w2 g1 cs 27) := HX.out.below nn.below HX.out.lt
       have HZ : Hid (Blk w2 g2 (cb zb32) 23 ∧ w.heap.size ≤ g2) := ⟨nn.blk, Nat.le_trans HBW.out.size nn.ge⟩
       replace HBW : Hid (Below w.heap.size w w2) := HBW.out.trans (nn.below.mono HBW.out.size)
       clear nn)
    | (with_reducible refine wpSeq_loadRow 27 (.tmp 1) g1 cs _ ?_ Tryd.underlying27 rfl ?_ ?_ ?_ ?_ ?_
       · exact HX.out
       · exact HIN.out
       · rfl
       · rfl
       · rfl)
    | (go_at_call 27; refine (HC.out _).mono ?_; rintro e w3 ⟨v3, rfl, hr3, hb3⟩
       obtain ⟨a3, n3, c3, hv3⟩ := hr3.form
       subst hv3
       have HR3 : Hid (Reads w3 (.slice a3 n3 c3) (rootB n x y z)) := hr3
       replace HZ : Hid (Blk w3 g2 (cb zb32) 23 ∧ w.heap.size ≤ g2) := ⟨HZ.out.1.below hb3 HZ.out.1.lt, HZ.out.2⟩
       replace HBW : Hid (Below w.heap.size w w3) := HBW.out.trans (hb3.mono HBW.out.size)
       clear hb3 hr3)
    | (go_at_call 50; refine (rOf_any _ _ _ HR3.out (by have := HLB.out; omega)).mono ?_; rintro e w4 ⟨rfl, hb4⟩; rw [← HRD.out]
       replace HZ : Hid (Blk w4 g2 (cb zb32) 23 ∧ w.heap.size ≤ g2) := ⟨HZ.out.1.below hb4 HZ.out.1.lt, HZ.out.2⟩
       replace HBW : Hid (Below w.heap.size w w4) := HBW.out.trans (hb4.mono HBW.out.size)
       clear hb4 HR3)
    | (with_reducible refine wpSeq_storeD (.tmp 2) (.tmp 5) g2 zb32 r ?_ ?_ ?_ ?_ ?_ ?_ ?_ ?_
       · rfl
       · exact HRL.out
       · exact HZ.out.1
       · rfl
       · rfl
       · rfl
       · rfl
       intro w9 h9))
  exact bodyPost_ret (v := .agg (cb r).toArray) (results_cell_row (by rfl) _ _ g2 23 _ (0, 0) _ rfl h9.blk Tryd.underlying23 rfl (by rw [List.size_toArray, cb_len, HRL.out]; exact info_digest)) rfl ⟨rfl, HBW.out.trans (h9.only.below HZ.out.2 HBW.out.size)⟩
end Go.Proofs.YtableajopaappaaDoor
/- Heads and signed roots in memory; slices of signed roots (layer 11). -/
namespace Go.Proofs.YtableajopaappaaDoor
open Go.RowKit
set_option maxRecDepth 100000
/-- the cells of a head, of a root, of a signed root -/
def hdC (h : HdT) : List Value := Value.int .u64 (h.1 : Int) :: (cb h.2.1 ++ cb h.2.2)
def rtC (s : SgT) : List Value := Value.int .u64 (s.1.1 : Int) :: (cb s.1.2.1 ++ (cb s.1.2.2.1 ++ cb s.1.2.2.2))
def sgC (s : SgT) (vs : Value) : List Value := Value.int .u64 (s.1.1 : Int) :: (cb s.1.2.1 ++ (cb s.1.2.2.1 ++ (cb s.1.2.2.2 ++ [vs])))
theorem len_hdC {h : HdT} (oh : okH h) : (hdC h).length = 65 := by simp [hdC, cb_len, oh.1, oh.2.1]
theorem len_rtC {s : SgT} (os : okS s) : (rtC s).length = 97 := by simp [rtC, cb_len, os.1, os.2.1, os.2.2.1]
theorem len_sgC {s : SgT} (os : okS s) (vs : Value) : (sgC s vs).length = 98 := by simp [sgC, cb_len, os.1, os.2.1, os.2.2.1]
theorem sgC_eq (s : SgT) (vs : Value) : sgC s vs = rtC s ++ [vs] := by simp [sgC, rtC]
theorem info_head : (Tryd.prog.info? 50).map (·.size) = some 65 := by kernel_rfl
theorem info_signed : (Tryd.prog.info? 30).map (·.size) = some 98 := by kernel_rfl
theorem info_hdC {h : HdT} (oh : okH h) : (Tryd.prog.info? 50).map (·.size) = some (hdC h).length := by rw [len_hdC oh]; exact info_head
theorem info_rtC {s : SgT} (os : okS s) : (Tryd.prog.info? 27).map (·.size) = some (rtC s).length := by rw [len_rtC os]; exact info_root0
theorem info_sgC {s : SgT} (os : okS s) (vs : Value) : (Tryd.prog.info? 30).map (·.size) = some (sgC s vs).length := by rw [len_sgC os]; exact info_signed
theorem range_part {w : World} {b off k : Nat} {A B C : List Value} (h : w.rangeAt b off (A ++ (B ++ C))) (hk : A.length = k) : w.rangeAt b (off + k) B := fun j v hj => by
  have hlt := (List.getElem?_eq_some_iff.1 hj).1
  have h2 := h (k + j) v (by
    rw [List.getElem?_append_right (by omega), show k + j - A.length = j by omega, List.getElem?_append_left hlt]
    exact hj)
  rwa [← Nat.add_assoc] at h2
theorem range_end {w : World} {b off k : Nat} {A B : List Value} (h : w.rangeAt b off (A ++ B)) (hk : A.length = k) : w.rangeAt b (off + k) B :=
  range_part (C := []) (by rw [List.append_nil]; exact h) hk
/-- where a head lies -/
structure HdAt (w : World) (b off : Nat) (h : HdT) : Prop where
  all : w.rangeAt b off (hdC h)
  ok : okH h
theorem HdAt.ep {w : World} {b off : Nat} {h : HdT} (r : HdAt w b off h) : w.cell? ⟨b, off, none⟩ = some (.int .u64 (h.1 : Int)) := r.all 0 _ rfl
theorem HdAt.rt {w : World} {b off : Nat} {h : HdT} (r : HdAt w b off h) : w.rangeAt b (off + 1) (cb h.2.1) := range_part (A := [Value.int .u64 (h.1 : Int)]) (B := cb h.2.1) (C := cb h.2.2) r.all rfl
theorem HdAt.ky {w : World} {b off : Nat} {h : HdT} (r : HdAt w b off h) : w.rangeAt b (off + 33) (cb h.2.2) :=
  range_end (A := Value.int .u64 (h.1 : Int) :: cb h.2.1) (B := cb h.2.2) r.all (by rw [List.length_cons, cb_len, r.ok.1])
/-- where a signed root lies -/
structure SgAt (w : World) (b off : Nat) (s : SgT) (vs : Value) : Prop where
  all : w.rangeAt b off (sgC s vs)
  ok : okS s
theorem SgAt.ep {w : World} {b off : Nat} {s : SgT} {vs : Value} (r : SgAt w b off s vs) : w.cell? ⟨b, off, none⟩ = some (.int .u64 (s.1.1 : Int)) := r.all 0 _ rfl
theorem SgAt.prev {w : World} {b off : Nat} {s : SgT} {vs : Value} (r : SgAt w b off s vs) : w.rangeAt b (off + 1) (cb s.1.2.1) := range_part (A := [Value.int .u64 (s.1.1 : Int)]) (B := cb s.1.2.1) (C := cb s.1.2.2.1 ++ (cb s.1.2.2.2 ++ [vs])) r.all rfl
theorem SgAt.next {w : World} {b off : Nat} {s : SgT} {vs : Value} (r : SgAt w b off s vs) : w.rangeAt b (off + 65) (cb s.1.2.2.2) :=
  range_part (A := Value.int .u64 (s.1.1 : Int) :: (cb s.1.2.1 ++ cb s.1.2.2.1)) (B := cb s.1.2.2.2) (C := [vs]) (by have := r.all; rw [sgC] at this; simpa using this) (by rw [List.length_cons, List.length_append, cb_len, cb_len, r.ok.1, r.ok.2.1])
theorem SgAt.root {w : World} {b off : Nat} {s : SgT} {vs : Value} (r : SgAt w b off s vs) : w.rangeAt b off (rtC s) :=
  range_part (k := 0) (A := []) (B := rtC s) (C := [vs]) (by have := r.all; rw [sgC_eq] at this; exact this) rfl
theorem SgAt.sig {w : World} {b off : Nat} {s : SgT} {vs : Value} (r : SgAt w b off s vs) : w.cell? ⟨b, off + 97, none⟩ = some vs := by
  have h := range_end (k := 97) (A := rtC s) (B := [vs]) (by have := r.all; rw [sgC_eq] at this; exact this) (len_rtC r.ok)
  simpa using h 0 _ rfl
theorem Blk.hdAt {w : World} {g : Nat} {h : HdT} (hb : Blk w g (hdC h) 50) (oh : okH h) : HdAt w g 0 h := ⟨hb.range, oh⟩
theorem Blk.sgAt {w : World} {g : Nat} {s : SgT} {vs : Value} (hb : Blk w g (sgC s vs) 30) (os : okS s) : SgAt w g 0 s vs := ⟨hb.range, os⟩
/-- the slice v reads as the signed roots l -/
def ReadsS (w : World) (v : Value) (l : List SgT) : Prop :=
  (∃ ad cap, v = .slice ad l.length cap ∧ l.length ≤ cap ∧ (ad = none → cap = 0) ∧ (0 < l.length → ∃ b off, ad = some ⟨b, off, none⟩ ∧ ∀ j, j < l.length → ∃ vs, SgAt w b (off + j * 98) (l.getD j zeroS) vs ∧ Reads w vs (l.getD j zeroS).2)) ∧ ∀ s ∈ l, okS s
theorem ReadsS.nil (w : World) : ReadsS w (.slice none 0 0) [] := ⟨⟨none, 0, rfl, Nat.le_refl _, fun _ => rfl, fun h => by cases h⟩, fun _ h => by cases h⟩
theorem SgAt.below {w w' : World} {b off B : Nat} {s : SgT} {vs : Value} (h : SgAt w b off s vs) (hb : Below B w w') (hB : w.heap.size ≤ B) : SgAt w' b off s vs := by
  have hlt : b < w.heap.size := block_lt_of_cell h.ep
  exact ⟨rangeAt_below h.all hb (by omega), h.ok⟩
theorem HdAt.below {w w' : World} {b off B : Nat} {h : HdT} (r : HdAt w b off h) (hb : Below B w w') (hB : w.heap.size ≤ B) : HdAt w' b off h := by
  have hlt : b < w.heap.size := block_lt_of_cell r.ep
  exact ⟨rangeAt_below r.all hb (by omega), r.ok⟩
theorem ReadsS.below {w w' : World} {v : Value} {l : List SgT} (h : ReadsS w v l) (hb : Below w.heap.size w w') : ReadsS w' v l := by
  obtain ⟨⟨ad, cap, hv, hc, hn, hx⟩, h32⟩ := h
  refine ⟨⟨ad, cap, hv, hc, hn, fun hp => ?_⟩, h32⟩
  obtain ⟨b, off, rfl, hy⟩ := hx hp
  refine ⟨b, off, rfl, fun j hj => ?_⟩
  obtain ⟨vs, h1, h2⟩ := hy j hj
  exact ⟨vs, h1.below hb (Nat.le_refl _), h2.below hb⟩
theorem getD_okS {l : List SgT} (h : ∀ s ∈ l, okS s) (j : Nat) : okS (l.getD j zeroS) := by
  by_cases hj : j < l.length
  · rw [List.getD_eq_getElem?_getD, List.getElem?_eq_getElem hj]
    exact h _ (List.getElem_mem hj)
  · rw [List.getD_eq_getElem?_getD, List.getElem?_eq_none (by omega)]
    exact okS_zero
/-- the place of a signed root in its slice -/
theorem ReadsS.at {w : World} {v : Value} {l : List SgT} (h : ReadsS w v l) (hp : 0 < l.length) : ∃ b off cap, v = .slice (some ⟨b, off, none⟩) l.length cap ∧ ∀ j, j < l.length → ∃ vs, SgAt w b (off + j * 98) (l.getD j zeroS) vs ∧ Reads w vs (l.getD j zeroS).2 := by
  obtain ⟨⟨ad, cap, hv, hc, hn, hx⟩, _⟩ := h
  obtain ⟨b, off, rfl, hy⟩ := hx hp
  exact ⟨b, off, cap, hv, hy⟩
end Go.Proofs.YtableajopaappaaDoor
/- What the functions of layer 10 do (LmOps); the statements' own works and long. -/
namespace Go.Proofs.YtableajopaappaaDoor
open Go.RowKit
set_option maxRecDepth 100000
theorem reads_nil10 (W : World) : Reads W (.slice none 0 0) [] := ⟨Option.none, 0, rfl, Nat.le_refl _, fun _ => rfl, fun h => by cases h⟩
/-- the first byte of what is read -/
theorem Reads.head {w : World} {v : Value} {b : BitVec 8} {l : List (BitVec 8)} {n : Nat} (h : Reads w v (b :: l)) (hn : (b :: l).length = n) : ∃ g off c, v = .slice (some ⟨g, off, none⟩) n c ∧ w.cell? ⟨g, off, none⟩ = some (.int .u8 (b.toNat : Int)) := by
  obtain ⟨ad, cap, hv, hc, _, hx⟩ := h
  obtain ⟨g, off, rfl, hy⟩ := hx (by simp)
  have h0 := hy 0 (by simp)
  refine ⟨g, off, cap, by rw [hv, hn], ?_⟩
  simpa using h0
end Go.Proofs.YtableajopaappaaDoor
/- A region that draws its order, in a round of a loop over a function: no other than anywhere. -/
namespace Go.Proofs.YtableajopaappaaDoor
open Go.RowKit
set_option maxRecDepth 100000
theorem upon_round {P : Program} {o : Oper} {a : Act} {K : Act → World → Prop} {Q : Exit → Act → World → Prop} {l n : Nat} : ∀ {r : Result Next}, o.upon P a K Q r → o.uponIn (Fence.wide.inRound l) n P a K Q r
  | .ok (.value _) _, h => h
  | .ok .skip _, h => h
  | .ok (.defer _) _, h => h
  | .ok (.enter _ _) _, h => ⟨fun hx => (nomatch hx), CallsIn.inRound l (callsIn_wide.2 h)⟩
  | .ok (.row _ _) _, h => ⟨fun hx => (nomatch hx), fun c cs _ => by
      obtain ⟨v, wq, r, s⟩ := h c cs
      exact ⟨v, wq, r, stepsIn_wide.2 s⟩⟩
  | .halt (.panic _) _, h => h
/-- no operation is put off -/
def noDefer (ops : Array Oper) : Bool := ops.toList.all fun o => match o.op with | .defer _ => false | _ => true
theorem noDefer_at {ops : Array Oper} (h : noDefer ops = true) {i : Nat} {o : Oper} (hi : ops[i]? = some o) (c : _) : o.op ≠ .defer c := by
  intro he
  have h1 := List.all_eq_true.1 h o (by rw [Array.mem_toList_iff]; exact Array.mem_of_getElem? hi)
  rw [he] at h1
  cases h1
theorem wpOp_round {P : Program} {ops : Array Oper} {Q : Exit → Act → World → Prop} {l n : Nat} (hnd : noDefer ops = true) (hQ : ¬ LetsOut Q) {i : Nat} {K K' : Act → World → Prop} (hK : ∀ a w, K a w → K' a w) {a : Act} {w : World} (h : wpOp P ops Q i K a w) : wpOpIn (Fence.wide.inRound l) n P ops Q i K' a w := by
  refine wpOpIn_mono hK ?_
  unfold wpOp at h
  unfold wpOpIn
  cases ho : ops[i]? with
  | none => rw [ho] at h; exact h
  | some o =>
    rw [ho] at h
    simp only at h ⊢
    by_cases hw : Region.wanted o (yielded ops a.tmps) = true
    · rw [if_pos hw] at h ⊢
      rcases h with h | h
      · refine ⟨fun _ _ => trivial, ?_⟩
        rw [Oper.semAt_eq _ _ _ (noDefer_at hnd ho)]
        exact upon_round h
      · exact absurd h.2 hQ
    · rw [if_neg hw] at h ⊢
      exact ⟨fun _ _ => trivial, h⟩
theorem wpAny_round {P : Program} {md : Region.Mode} {ops : Array Oper} {Q : Exit → Act → World → Prop} {l n : Nat} (hnd : noDefer ops = true) (hQ : ¬ LetsOut Q) : ∀ (fuel : Nat) (listed : Array Bool) (a : Act) (w : World), wpAny P md ops Q fuel listed a w → wpAnyIn (Fence.wide.inRound l) n P md ops Q fuel listed a w
  | 0, _, _, _, h => h
  | fuel + 1, _, _, _, h => ⟨h.1, fun i hi => wpOp_round hnd hQ (fun a w h => wpAny_round hnd hQ fuel _ a w h) (h.2 i hi)⟩
/-- a region that draws, in a round -/
theorem wpIn_round_held {P : Program} {ops : Array Oper} {Q : Exit → Act → World → Prop} {S : World → Prop} {l n id : Nat} {a : Act} {w : World} (hm : P.follows .mixedOrders = true) (hnd : noDefer ops = true) (hQ : ¬ LetsOut Q) (hS : S w.drew)
    (h : S w.drew → wpAnyH P .any ops Q S ops.size (Array.replicate ops.size false) a w.drew) : (Code.region id ops true).wpIn (Fence.wide.inRound l) n P Q a w :=
  wpIn_region_any hm (wpAny_round hnd hQ _ _ _ _ (wpAny_of_held _ _ _ _ (h hS)))
theorem wpList_round {P : Program} {ops : Array Oper} {Q : Exit → Act → World → Prop} {m n : Nat} (hQ : ¬ LetsOut Q) : ∀ (l : List Oper) (_ : noDefer l.toArray = true) (a : Act) (w : World), wpList P ops Q l a w → wpListIn (Fence.wide.inRound m) n P ops Q l a w
  | [], _, _, _, h => h
  | o :: rest, hnd, a, w, h => by
    have ho : ∀ c, o.op ≠ .defer c := fun c => noDefer_at hnd (i := 0) rfl c
    have hr : noDefer rest.toArray = true := by
      unfold noDefer at hnd ⊢
      simp only [List.all_cons, Bool.and_eq_true] at hnd
      exact hnd.2
    unfold wpList at h
    unfold wpListIn
    by_cases hw : Region.wanted o (yielded ops a.tmps) = true
    · rw [if_pos hw] at h ⊢
      rcases h with h | h
      · refine Oper.wpIn_mono (fun a w h => wpList_round hQ rest hr a w h) ⟨fun _ _ => trivial, ?_⟩
        rw [Oper.semAt_eq _ _ _ ho]
        exact upon_round h
      · exact absurd h.2 hQ
    · rw [if_neg hw] at h ⊢
      exact ⟨fun _ _ => trivial, wpList_round hQ rest hr _ w h⟩
/-- a region that does not draw, in a round -/
theorem wpIn_round_list {P : Program} {l : List Oper} {Q : Exit → Act → World → Prop} {m n id : Nat} {a : Act} {w : World} (hnd : noDefer l.toArray = true) (hQ : ¬ LetsOut Q) (h : wpList P l.toArray Q l a w) : (Code.region id l.toArray false).wpIn (Fence.wide.inRound m) n P Q a w :=
  wpIn_region_lit (wpList_round hQ l hnd a w h)
end Go.Proofs.YtableajopaappaaDoor
/- Plain: leaves by their indexes, put one behind the other; the root of leaves; the way to an index (layer 7). -/
namespace Go.Proofs.YtableajopaappaaDoor
abbrev Lf := List (BitVec 8) × List (BitVec 8)
def okLf (l : List Lf) : Prop := ∀ p ∈ l, p.1.length = 32 ∧ p.2.length = 32
/-- rising, each once -/
def Up (l : List Lf) : Prop := l.Pairwise fun p q => lessB p.1 q.1 = true
theorem less_ne {x y : List (BitVec 8)} (h : lessB x y = true) : x ≠ y := by
  rintro rfl
  rw [lessB_self] at h
  cases h
/-- the leaves have their first d bits in common, and are unlike -/
def Fits (l : List Lf) (d : Nat) : Prop := okLf l ∧ Up l ∧ ∀ p ∈ l, ∀ q ∈ l, ∀ j, j < d → bt p.1 j = bt q.1 j
theorem Fits.zero {l : List Lf} (h : okLf l) (hu : Up l) : Fits l 0 := ⟨h, hu, fun _ _ _ _ j hj => by omega⟩
theorem Fits.lt {l : List Lf} {d : Nat} (h : Fits l d) (h2 : 2 ≤ l.length) : d < 256 := by
  match l, h2 with
  | a :: b :: r, _ =>
    rcases Nat.lt_or_ge d 256 with hd | hd
    · exact hd
    · exfalso
      have hab := (List.pairwise_cons.1 h.2.1).1 b List.mem_cons_self
      have ha := h.1 a List.mem_cons_self
      have hb := h.1 b (List.mem_cons_of_mem _ List.mem_cons_self)
      exact less_ne hab (bits_ext _ _ ha.1 hb.1 fun j hj => h.2.2 a List.mem_cons_self b (List.mem_cons_of_mem _ List.mem_cons_self) j (by omega))
end Go.Proofs.YtableajopaappaaDoor
/- Plain: the root of leaves, and the way to an index, by what is hashed (layer 7). -/
namespace Go.Proofs.YtableajopaappaaDoor
open Go.RowKit
set_option maxRecDepth 100000
end Go.Proofs.YtableajopaappaaDoor
/- Leaves in memory: two slices of digests in a struct; one more behind each; regions that draw their order. -/
namespace Go.Proofs.YtableajopaappaaDoor
open Go.RowKit
set_option maxRecDepth 100000
theorem wpAnyH_law {P : Program} {md : Region.Mode} {ops : Array Oper} {Q : Exit → Act → World → Prop} {S : World → Prop} {fuel : Nat} {listed : Array Bool} {a : Act} {w : World} (i : Nat) {oi : Oper}
    (hr : Region.ready md ops listed = [i]) (hi : ops[i]? = some oi) (hw : Region.wanted oi (yielded ops a.tmps) = true)
    (h : Oper.wp P oi a w (fun a' w' => S w' ∧ wpAnyH P md ops Q S fuel (listed.setIfInBounds i true) a' w') Q) : wpAnyH P md ops Q S (fuel + 1) listed a w := by
  refine wpAnyH_all hr (by simp) (fun j hj => ?_)
  obtain rfl : j = i := by simpa using hj
  unfold wpOp
  rw [hi]
  simp only [hw, if_true]
  exact Or.inl h
theorem OwnD.grow {w w' : World} {base B : Nat} {v x x' : Value} {ds : List (List (BitVec 8))} (h : OwnD w base v ds) (hg : Grow B w x w' x') (hn : ∀ j, v.ownBlock = some j → x.ownBlock ≠ some j) : OwnD w' base v ds := by
  refine ⟨?_, h.2⟩
  have hlt := World.ownsRow.lt h.1
  rcases h.1 with ⟨e1, ⟨e2, e3⟩ | ⟨g, cap, cur, e2, hgg, hh, h3⟩⟩
  · exact ⟨e1, Or.inl ⟨e2, e3⟩⟩
  · subst e2
    exact ⟨e1, Or.inr ⟨g, cap, cur, rfl, hgg, by rw [hg.other g (fun e => hn g rfl e.symm) (hlt g rfl).2]; exact hh, h3⟩⟩
theorem Blk.grow {w w' : World} {B g : Nat} {x x' : Value} {cs : List Value} {t : TypeId} (h : Blk w g cs t) (hg : Grow B w x w' x') (hn : ∀ j, x.ownBlock = some j → B ≤ j) (hlt : g < B) : Blk w' g cs t := by
  unfold Blk at *
  have hs : g < w.heap.size := Blk.lt (cs := cs) (t := t) h
  rw [hg.other g (fun e => by have := hn g e.symm; omega) hs]
  exact h
/-- leaves that are the call's own, from block b on -/
structure OwnLf (W : World) (b : Nat) (xa xv : Value) (la lv : List (List (BitVec 8))) : Prop where
  a : OwnD W b xa la
  v : OwnD W b xv lv
  ne : ∀ j, xa.ownBlock = some j → xv.ownBlock ≠ some j
theorem OwnLf.keep {W W' : World} {b : Nat} {xa xv : Value} {la lv : List (List (BitVec 8))} (h : OwnLf W b xa xv la lv) (hs : ∀ k, b ≤ k → k < W.heap.size → W'.heap[k]? = W.heap[k]?) : OwnLf W' b xa xv la lv := ⟨h.a.keep hs, h.v.keep hs, h.ne⟩
theorem OwnLf.mono {W : World} {b B : Nat} {xa xv : Value} {la lv : List (List (BitVec 8))} (h : OwnLf W b xa xv la lv) (hB : B ≤ b) : OwnLf W B xa xv la lv := ⟨h.a.mono hB, h.v.mono hB, h.ne⟩
theorem OwnLf.nil (W : World) (b : Nat) : OwnLf W b nilV nilV [] [] := ⟨OwnD.nil _ _, OwnD.nil _ _, fun j hj => by cases hj⟩
/-- leaves that a call reads -/
def ReadsLf (W : World) (va vv : Value) (l : List Lf) : Prop := ReadsD W va (l.map (·.1)) ∧ ReadsD W vv (l.map (·.2))
theorem ReadsLf.below {W W' : World} {va vv : Value} {l : List Lf} (h : ReadsLf W va vv l) (hb : Below W.heap.size W W') : ReadsLf W' va vv l := ⟨h.1.below hb, h.2.below hb⟩
theorem ReadsLf.ok {W : World} {va vv : Value} {l : List Lf} (h : ReadsLf W va vv l) : okLf l := fun _ hp => ⟨h.1.2 _ (List.mem_map_of_mem hp), h.2.2 _ (List.mem_map_of_mem hp)⟩
theorem OwnLf.reads {W : World} {b : Nat} {xa xv : Value} {l : List Lf} (h : OwnLf W b xa xv (l.map (·.1)) (l.map (·.2))) : ReadsLf W xa xv l := ⟨h.a.readsD, h.v.readsD⟩
/-- where one of a slice of digests lies -/
theorem ReadsD.at {W : World} {v : Value} {ds : List (List (BitVec 8))} (h : ReadsD W v ds) (hp : 0 < ds.length) : ∃ b off cp, v = .slice (some ⟨b, off, none⟩) ds.length cp ∧ ∀ j, j < ds.length → W.rangeAt b (off + j * 32) (cb (ds.getD j [])) := by
  obtain ⟨⟨ad, cp, hv, q1, q2, q3⟩, q4⟩ := h
  obtain ⟨b, off, rfl, hy⟩ := q3 hp
  exact ⟨b, off, cp, hv, hy⟩
theorem ReadsD.slice {W : World} {v : Value} {ds : List (List (BitVec 8))} (h : ReadsD W v ds) : ∃ ad cp, v = .slice ad ds.length cp := by
  obtain ⟨⟨ad, cp, hv, _⟩, _⟩ := h
  exact ⟨ad, cp, hv⟩
end Go.Proofs.YtableajopaappaaDoor
/- The walk of the reference's half. -/
namespace Go.Proofs.YtableajopaappaaDoor
open Go.RowKit
set_option maxRecDepth 100000
theorem wpAnyH_skip {P : Program} {md : Region.Mode} {ops : Array Oper} {Q : Exit → Act → World → Prop} {S : World → Prop} {fuel : Nat} {listed : Array Bool} {a : Act} {w : World} (i : Nat) {oi : Oper} (w' : World)
    (hr : Region.ready md ops listed = [i]) (hi : ops[i]? = some oi) (hw : Region.wanted oi (yielded ops a.tmps) = true) (he : (execOp a.eval oi).run P w = .ok .skip w') (hS : S w')
    (h : wpAnyH P md ops Q S fuel (listed.setIfInBounds i true) (a.put oi.dst undef) w') : wpAnyH P md ops Q S (fuel + 1) listed a w := by
  refine wpAnyH_law i hr hi hw ?_
  unfold Oper.wp
  rw [he]
  exact ⟨hS, h⟩
end Go.Proofs.YtableajopaappaaDoor
/- A slice of bytes that grows in a box while a loop over a function goes on (layer 10). -/
namespace Go.Proofs.YtableajopaappaaDoor
open Go.RowKit Go.Shelf
set_option maxRecDepth 100000
theorem OwnB.kept {X Y : World} {base : Nat} {v : Value} {l : List (BitVec 8)} {row : Option Nat} (h : OwnB X base v l) (hg : X.grownBy Y row) (hr : ∀ r, row = some r → ∃ o : Obj, X.heap[r]? = some o ∧ o.isCells = false) : OwnB Y base v l := by
  obtain ⟨h1, h2⟩ := h
  refine ⟨h1, ?_⟩
  rcases h2 with h2 | ⟨g, cap, cur, rfl, hb, hh, r⟩
  · exact Or.inl h2
  · refine Or.inr ⟨g, cap, cur, rfl, hb, ?_, r⟩
    rw [hg.block g (Array.getElem?_eq_some_iff.1 hh).1 (fun e => ?_)]
    · exact hh
    · obtain ⟨o, ho, hc⟩ := hr g e.symm
      rw [hh] at ho; cases ho; cases hc
/-- the box gO holds a slice of bytes of one's own, from block base on, with the bytes l -/
def OutI (base gO : Nat) (l : List (BitVec 8)) (W : World) : Prop := ∃ v, Blk W gO [v] 28 ∧ OwnB W base v l
theorem OutI.own {β : Type} (base gO : Nat) (f : β → List (BitVec 8)) : Own (fun (s : β) W => OutI base gO (f s) W) := fun s X Y row hs hg hr => by
  obtain ⟨v, h1, h2⟩ := hs
  exact ⟨v, blk_own (β := Unit) gO (fun _ => [v]) _ () X Y row h1 hg hr, h2.kept hg hr⟩
theorem OutI.next {base gO : Nat} {l : List (BitVec 8)} {W W' : World} (h : OutI base gO l W) (hb : Below W.heap.size W W') : OutI base gO l W' := by
  obtain ⟨v, h1, h2⟩ := h
  exact ⟨v, h1.below hb h1.lt, h2.below hb (Nat.le_refl _)⟩
/-- more bytes: the slice's own block alone has changed, then the box -/
theorem OutI.put {base gO : Nat} {l news : List (BitVec 8)} {W W1 : World} {v v' : Value} (h1 : Blk W gO [v] 28) (h2 : OwnB W base v l) (h3 : OwnB W1 base v' (l ++ news)) (hg : W.grownBy W1 v.ownBlock) : OutI base gO (l ++ news) (W1.setCell ⟨gO, 0, none⟩ v') ∧ Only gO W1 (W1.setCell ⟨gO, 0, none⟩ v') ∧ Blk W1 gO [v] 28 := by
  have hb : Blk W1 gO [v] 28 := h1.grown hg (h2.ne h1 (by decide))
  have ho : Only gO W1 (W1.setCell ⟨gO, 0, none⟩ v') := Only.setCell (Only.refl gO W1) 0 v'
  refine ⟨⟨v', by simpa using hb.set 0 v', ?_⟩, ho, hb⟩
  have hne := h3.ne hb (by decide)
  obtain ⟨e1, e2⟩ := h3
  refine ⟨e1, ?_⟩
  rcases e2 with e2 | ⟨g, cap, cur, rfl, hg2, hh, r⟩
  · exact Or.inl e2
  · refine Or.inr ⟨g, cap, cur, rfl, hg2, ?_, r⟩
    rw [ho.block g (fun e => hne (by rw [e]; rfl)) (Array.getElem?_eq_some_iff.1 hh).1]
    exact hh
theorem keeps_append {w w' : World} {base : Nat} {v : Value} {l : List (BitVec 8)} (hown : OwnB w base v l) (hg : w.grownBy w' v.ownBlock) : KeepsOthers w w' := by
  refine KeepsOthers.of_grownBy hg (fun j o hj ho => ?_)
  obtain ⟨_, h2⟩ := hown
  rcases h2 with ⟨rfl, _⟩ | ⟨g2, cap, cur, rfl, hg2, hh, _⟩
  · simp [Value.ownBlock] at hj
  · simp only [Value.ownBlock, Option.some.injEq] at hj
    subst hj
    rw [hh] at ho
    cases ho
    rfl
/-- where a round stands: out's bytes l in the box gO, the digest x at gx -/
structure RoI (w : World) (gO : Nat) (l : List (BitVec 8)) (W y : World) : Prop where
  out : OutI w.heap.size gO l y
  bel : Below w.heap.size w y
  kp : KeepsOthers W y
theorem RoI.next {w W y y' : World} {gO : Nat} {l : List (BitVec 8)} (h : RoI w gO l W y) (hb : Below y.heap.size y y') : RoI w gO l W y' := ⟨h.out.next hb, h.bel.trans (hb.mono h.bel.size), h.kp.trans (keepsOthers_of_below hb)⟩
theorem RoI.put {w W y y1 : World} {gO : Nat} {l news : List (BitVec 8)} {v v' : Value} (h : RoI w gO l W y) (hgO : w.heap.size ≤ gO) (h1 : Blk y gO [v] 28) (h2 : OwnB y w.heap.size v l) (h3 : OwnB y1 w.heap.size v' (l ++ news)) (hg : y.grownBy y1 v.ownBlock) (hb : Below w.heap.size y y1) : RoI w gO (l ++ news) W (y1.setCell ⟨gO, 0, none⟩ v') := by
  obtain ⟨a, b, c⟩ := OutI.put h1 h2 h3 hg
  exact ⟨a, (h.bel.trans hb).trans (b.below hgO (Nat.le_trans h.bel.size hb.size)), (h.kp.trans (keeps_append h2 hg)).trans (KeepsOthers.setCell _ _ _)⟩
theorem RoI.drew {w W y : World} {gO : Nat} {l : List (BitVec 8)} (h : RoI w gO l W y) : RoI w gO l W y.drew := ⟨h.out, h.bel.drew, h.kp.trans (KeepsOthers.drew _)⟩
theorem OwnB.form {w : World} {base : Nat} {v : Value} {l : List (BitVec 8)} (h : OwnB w base v l) : ∃ a c, v = .slice a l.length c := by
  obtain ⟨_, h2⟩ := h
  rcases h2 with ⟨rfl, h0⟩ | ⟨g, cap, cur, rfl, _⟩
  · exact ⟨_, _, by rw [h0]⟩
  · exact ⟨_, _, rfl⟩
end Go.Proofs.YtableajopaappaaDoor
/- path.Bits' function once more: it yields the places below 256, in order, each with its bit. -/
namespace Go.Proofs.YtableajopaappaaDoor
open Go.RowKit Go.Shelf
set_option maxRecDepth 100000
attribute [local go_sem] Oper.semAt_some
abbrev encsT (x : List (BitVec 8)) (p : {k : Nat // k < 256}) : Array Value := #[.int .i64 (p.1 : Int), .bool (bt x p.1)]
/-- the first k places -/
def pathT : Nat → List {k : Nat // k < 256}
  | 0 => []
  | k + 1 => if h : k < 256 then pathT k ++ [⟨k, h⟩] else pathT k
theorem pathT_succ (k : Nat) (h : k < 256) : pathT (k + 1) = pathT k ++ [⟨k, h⟩] := by rw [pathT, dif_pos h]
theorem pathT_len (k : Nat) (h : k ≤ 256) : (pathT k).length = k := by
  induction k with
  | zero => rfl
  | succ k ih => rw [pathT_succ k (by omega), List.length_append, ih (by omega)]; rfl
set_option maxRecDepth 100000 in
set_option maxHeartbeats 2000000 in
theorem bits_told (n : Nat) (hn : 1 ≤ n) (g : Nat) (x : List (BitVec 8)) (hx : x.length = 32) (w : World) (hb : Blk w g (cb x) 23) :
    SeqStopsK Fence.wide n Tryd.prog 112 #[.pointer (some ⟨g, 0, none⟩)] (encsT x) (fun _ _ => True) (fun xs => xs = pathT 256) (fun pre => ∃ k, k ≤ 256 ∧ pre = pathT k) 256 w := fun l J Jx W hW hJ hJx hY h0 => by
  refine callsIn_of_wp Tryd.func112 rfl trivial ?_ rfl
  simp only [Tryd.ntmps112, List.size_toArray, List.length_cons, List.length_nil, Nat.reduceAdd, Nat.reduceSub, Array.replicate_succ, Array.replicate_zero, List.push_toArray, List.append_toArray, List.nil_append, List.cons_append]
  refine (wpIn_wide (n := n)).2 (wp_scope_straight ?_)
  have HW : Hid (Blk W g (cb x) 23) := hb.below hW hb.lt
  have HL : Hid (x.length = 32) := hx
  have HJ : Hid (AbidesFrom W.heap.size J) := hJ
  have HJX : Hid (AbidesFrom W.heap.size Jx) := hJx
  clear hb hx hJ hJx hW
  refine wp_seq (wp_label ?_)
  show Code.wp _ _ _ _ _
  go_wp2_with (first
    | (with_reducible refine wpSeq_loadD (.tmp 1) g x ?_ ?_ ?_ ?_ ?_ ?_
       · exact HL.out
       · exact HW.out
       · rfl
       · rfl
       · rfl))
  go_loopw [7] (fun p wr => ∃ k : Nat, k ≤ 32 ∧ p = .int .i64 (k : Int) ∧ J (pathT (8 * k)) wr) (fun p _ => 32 - (intOf p).toNat)
  case atStart => exact ⟨0, by omega, rfl, h0⟩
  case round =>
    obtain ⟨k, hk, rfl, hJk⟩ := hrel
    have HJK : Hid (J (pathT (8 * k)) wr) := hJk
    clear hJk
    by_cases hlt : k < 32
    · have HKX : Hid (k < x.length) := by show _ < _; rw [HL.out]; exact hlt
      obtain ⟨b, hbb⟩ : ∃ b, b = x.getD k 0 := ⟨_, rfl⟩
      have hix : ∀ wz, (Instr.index 23 (.agg (cb x).toArray) (.int .i64 (k : Int))).run Tryd.prog wz = .ok (.int .u8 (b.toNat : Int)) wz := fun wz => by rw [hbb]; exact idx_dig x HL.out k hlt wz
      have HBB : Hid (b = x.getD k 0) := hbb
      clear hbb
      have k0 : (0 : Int) ≤ (k : Int) := by omega
      have k1 : (k : Int) < 32 := by omega
      go_wp2
      go_loopw [11] (fun p wr => ∃ j : Nat, j ≤ 8 ∧ p = .int .i64 (j : Int) ∧ J (pathT (8 * k + j)) wr) (fun p _ => 8 - (intOf p).toNat)
      case atStart => exact ⟨0, by omega, rfl, HJK.out⟩
      case round =>
        rename_i wr2 _ _ _ _ _ _ _ _ _ _ _ _ _ _ _ _ _
        obtain ⟨j, hj, rfl, hJj⟩ := hrel
        clear HJK
        by_cases hlt2 : j < 8
        · obtain ⟨q, hq⟩ : ∃ q, q = 8 * k + j := ⟨_, rfl⟩
          obtain ⟨k8, hk8⟩ : ∃ k8, k8 = k * 8 := ⟨_, rfl⟩
          obtain ⟨o, ho⟩ : ∃ o, o = bt x q := ⟨_, rfl⟩
          have f1 : (k : Int) * 8 = (k8 : Int) := by omega
          have f2 : IntKind.i64.wrap (k8 : Int) = (k8 : Int) := wrap_small _ (by omega) (by omega)
          have f3 : (k8 : Int) + (j : Int) = (q : Int) := by omega
          have f4 : IntKind.i64.wrap (q : Int) = (q : Int) := wrap_small _ (by omega) (by omega)
          have j1 : (j : Int) < 8 := by omega
          have f5 : IntKind.i64.wrap ((j : Int) + 1) = (j : Int) + 1 := wrap_small _ (by omega) (by omega)
          have hand := u8_and b (mask j)
          have hz : ((((b.toNat &&& (mask j).toNat : Nat) : Int)) != 0) = o := by
            have h := mask_and b ⟨j, hlt2⟩
            have hm : mask j = 128#8 >>> j := by rw [mask, Nat.mod_eq_of_lt hlt2]
            simp only [← hm] at h
            have e : o = b.getMsbD j := by rw [ho, HBB.out, bt, hq, show (8 * k + j) / 8 = k by omega, show (8 * k + j) % 8 = j by omega]
            rw [e, ← BitVec.toNat_and]
            cases hg : b.getMsbD j
            · rw [hg] at h
              have h2 := of_decide_eq_true (h.trans rfl)
              rw [h2]; rfl
            · rw [hg] at h
              have h2 := of_decide_eq_false (h.trans rfl)
              rw [bne_iff_ne]
              intro h3
              exact h2 (BitVec.eq_of_toNat_eq (by simpa using h3))
          have hq6 : q < 256 := by omega
          have HNX : Hid (pathT (8 * k + (j + 1)) = pathT (8 * k + j) ++ [⟨q, hq6⟩]) := by
            show _ = _
            subst hq
            rw [← Nat.add_assoc]
            exact pathT_succ _ hq6
          obtain ⟨fn, tmps, assign, body, hy, hR⟩ := hY (pathT (8 * k + j)) ⟨q, hq6⟩ _ hJj (by rw [pathT_len _ (by omega)]; omega)
          dsimp only [encsT] at hy
          rw [← ho] at hy
          clear hq hk8 ho hlt2 hj
          refine (wpIn_wide (n := n)).1 ?_
          gi_wp2_with (refine ⟨trivial, ?_⟩; gi_at_call 113; refine (callsIn_wide.2 (bitOf_any _ _)).mono ?_; rintro e wz ⟨rfl, hz2⟩; rw [hz2]; clear hz2 wz)
          refine hR.mono ?_
          clear hR hy hY hJj
          rintro e W3 (⟨rfl, hJ3, _⟩ | ⟨rfl, hJx3⟩)
          · rw [← HNX.out] at hJ3
            gi_wp2
            go_roundw
            case rel => exact ⟨j + 1, by omega, by simp, hJ3⟩
            case measure => simp [intOf]; omega
          · rw [← HNX.out] at hJx3
            gi_wp2
            refine noGoto_normal ?_
            go_end0
            exact ⟨⟨_, rfl⟩, .inr ⟨_, ⟨8 * k + (j + 1), by omega, rfl⟩, hJx3⟩⟩
        · have hj8 : j = 8 := by omega
          subst hj8
          have HJ8 : Hid (J (pathT (8 * (k + 1))) wr) := by rw [Nat.mul_add]; exact hJj
          have f5 : IntKind.i64.wrap ((k : Int) + 1) = (k : Int) + 1 := wrap_small _ (by omega) (by omega)
          clear hJj hj hlt2
          go_wp2
          go_roundw
          case rel => exact ⟨k + 1, by omega, by simp, HJ8.out⟩
          case measure => simp [intOf]; omega
    · have hk32 : k = 32 := by omega
      subst hk32
      go_wp2
      refine noGoto_normal ?_
      go_end0
      exact ⟨⟨_, rfl⟩, .inl ⟨_, rfl, HJK.out⟩⟩
end Go.Proofs.YtableajopaappaaDoor
/- A reading beside one call, and beside two calls in a row, in a region that draws: all orders at once. -/
namespace Go.Proofs.YtableajopaappaaDoor
open Go.RowKit
set_option maxRecDepth 100000
/-- a reading beside a call -/
theorem wpAnyH_readC {P : Program} {md : Region.Mode} {ops : Array Oper} {Q : Exit → Act → World → Prop} {S : World → Prop} {fuel : Nat} {listed : Array Bool} {a : Act} {w : World} (i j : Nat) {oi oj : Oper} (v : Value) {f : FuncId} {args : Array Value} {R : Ending → World → Prop}
    (hr : Region.ready md ops listed = [i, j]) (hi : ops[i]? = some oi) (hj : ops[j]? = some oj)
    (wi : Region.wanted oi (yielded ops a.tmps) = true) (wj : Region.wanted oj (yielded ops a.tmps) = true) (wi2 : ∀ u, Region.wanted oi (yielded ops (a.put oj.dst u).tmps) = true) (wj2 : Region.wanted oj (yielded ops (a.put oi.dst v).tmps) = true)
    (ei : (execOp a.eval oi).run P w = .ok (.value v) w) (ej : (execOp a.eval oj).run P w = .ok (.enter f args) w) (ej2 : (execOp (a.put oi.dst v).eval oj).run P w = .ok (.enter f args) w) (hc : Calls P f args w R)
    (hr1 : Region.ready md ops (listed.setIfInBounds i true) = [j]) (hr2 : Region.ready md ops (listed.setIfInBounds j true) = [i])
    (hp : ∀ u, (a.put oj.dst u).put oi.dst v = (a.put oi.dst v).put oj.dst u) (hl : (listed.setIfInBounds j true).setIfInBounds i true = (listed.setIfInBounds i true).setIfInBounds j true)
    (hS : S w) (h : ∀ e w', R e w' → ∃ u, e = .returned u ∧ S w' ∧ (execOp (a.put oj.dst u).eval oi).run P w' = .ok (.value v) w' ∧ wpAnyH P md ops Q S fuel ((listed.setIfInBounds i true).setIfInBounds j true) ((a.put oi.dst v).put oj.dst u) w') : wpAnyH P md ops Q S (fuel + 2) listed a w := by
  refine wpAnyH_all hr (by simp) (fun k hk => ?_)
  rcases List.mem_cons.1 hk with rfl | hk
  · refine wpOp_vl k v w hi wi ei ⟨hS, wpAnyH_enter j hr1 hj wj2 ej2 hc fun e w' hR => ?_⟩
    obtain ⟨u, h1, h2, _, h4⟩ := h e w' hR
    exact ⟨u, h1, h2, h4⟩
  · obtain rfl : k = j := by simpa using hk
    unfold wpOp
    rw [hj]
    simp only [wj, if_true]
    left
    unfold Oper.wp
    rw [ej, Oper.upon_enter]
    refine hc.mono ?_
    intro e w' hR
    obtain ⟨u, rfl, h2, h3, h4⟩ := h e w' hR
    refine ⟨h2, wpAnyH_step i v w' hr2 hi (wi2 u) h3 h2 ?_⟩
    rw [hl, hp]
    exact h4
end Go.Proofs.YtableajopaappaaDoor
/- The walks of lamport's begun, put, hidden and halves (layer 10). -/
namespace Go.Proofs.YtableajopaappaaDoor
open Go.RowKit Go.Shelf
set_option maxRecDepth 100000
/-- what stands below base, and every block but one of bytes, is as it was -/
structure KeptB (base : Nat) (w w' : World) : Prop where
  bel : Below base w w'
  oth : KeepsOthers w w'
  blk : ∀ g cs t, t ≠ 5 → Blk w g cs t → Blk w' g cs t
theorem KeptB.refl (base : Nat) (w : World) : KeptB base w w := ⟨Below.refl _ _, KeepsOthers.refl _, fun _ _ _ _ h => h⟩
theorem KeptB.next {base : Nat} {w y y' : World} (h : KeptB base w y) (hb : base ≤ w.heap.size) (hy : Below y.heap.size y y') : KeptB base w y' :=
  ⟨h.bel.trans (hy.mono (Nat.le_trans hb h.bel.size)), h.oth.trans (keepsOthers_of_below hy), fun g cs t ht hg => (h.blk g cs t ht hg).below hy (h.blk g cs t ht hg).lt⟩
theorem KeptB.grown {base : Nat} {w y y' : World} {v : Value} {l : List (BitVec 8)} (h : KeptB base w y) (ho : OwnB y base v l) (hg : y.grownBy y' v.ownBlock) (hb : Below base y y') : KeptB base w y' :=
  ⟨h.bel.trans hb, h.oth.trans (keeps_append ho hg), fun g cs t ht hh => (h.blk g cs t ht hh).grown hg (ho.ne (h.blk g cs t ht hh) ht)⟩
/-- a slice of one byte -/
theorem wpSeq_buildY {ops : Array Oper} {Q : Exit → Act → World → Prop} {rest : List Oper} {o : Oper} {a : Act} {w : World} (b : BitVec 8) (x : Operand) (hx : a.eval x = .int .u8 (b.toNat : Int)) (ho : o.op = .buildSlice 28 1 #[(0, x)]) (hw : Region.wanted o (yielded ops a.tmps) = true)
    (h : ∀ g w', Blk w' g (cb [b]) 5 → Below w.heap.size w w' → wpList Tryd.prog ops Q rest (a.put o.dst (.slice (some ⟨g, 0, none⟩) 1 1)) w') : wpList Tryd.prog ops Q (o :: rest) a w := by
  refine wpSeq_val _ (w.alloc (.cells (cb [b]).toArray 5)) hw ?_ (h w.heap.size _ (Blk.new w _ 5) (below_alloc _ _))
  unfold execOp
  rw [ho]
  generalize a.eval = f at hx ⊢
  simp only [List.map_toArray, List.map_cons, List.map_nil, hx]
  kernel_rfl
theorem blk_reads_y {w : World} {g : Nat} {l : List (BitVec 8)} (h : Blk w g (cb l) 5) : Reads w (.slice (some ⟨g, 0, none⟩) l.length l.length) l :=
  ⟨_, _, rfl, Nat.le_refl _, (fun e => by cases e), fun _ => ⟨g, 0, rfl, fun j hj => by rw [Nat.zero_add, h.cell, cb_get l j hj]⟩⟩
set_option maxRecDepth 100000 in
set_option maxHeartbeats 8000000 in
theorem lBegun_any (w : World) : Calls Tryd.prog 101 #[] w fun e w' => ∃ v, e = .returned v ∧ OwnB w' w.heap.size v [80] ∧ Below w.heap.size w w' := by
  have HBW : Hid (Below w.heap.size w w) := Below.refl _ _
  go_enter Tryd.func101, Tryd.ntmps101
  have tk0 : Hid True := trivial
  have tk1 : Hid True := trivial
  have tk2 : Hid True := trivial
  go_wp2_with (first
    | (clear tk0; with_reducible refine wpSeq_make (.const (.int .i64 0)) (.const (.int .i64 16385)) 0 16385 ?_ ?_ ?_ ?_ ?_ ?_ ?_
       · decide
       · decide
       · rfl
       · rfl
       · rfl
       · rfl
       intro go y1 z hz hge hzb hzl
       have HO : Hid (OwnB y1 w.heap.size (.slice (some ⟨go, 0, none⟩) 0 16385) []) := own_of_blk (k := 0) hzb (Nat.le_trans HBW.out.size hge) (by rw [hz, List.length_replicate]) (by decide) (by decide)
       replace HBW : Hid (Below w.heap.size w y1) := HBW.out.trans (hzl.mono HBW.out.size)
       clear hz hge hzb hzl)
    | (clear tk1; with_reducible refine wpSeq_buildY 80 (.const (.int .u8 80)) ?_ ?_ ?_ ?_
       · rfl
       · rfl
       · rfl
       intro gy y2 hgb hbz
       replace HO : Hid (OwnB y2 w.heap.size (.slice (some ⟨go, 0, none⟩) 0 16385) ([])) := HO.out.below hbz (Nat.le_refl _)
       replace HBW : Hid (Below w.heap.size w y2) := HBW.out.trans (hbz.mono HBW.out.size)
       have HR : Hid (Reads y2 (.slice (some ⟨gy, 0, none⟩) 1 1) [80]) := blk_reads_y hgb
       clear hgb hbz)
    | (clear tk2; at_builtin; with_reducible refine wpSeq_appendG (.tmp 1) (.tmp 2) w.heap.size (.slice (some ⟨go, 0, none⟩) 0 16385) (.slice (some ⟨gy, 0, none⟩) 1 1) ([]) ([80]) HO.out (HR.out) (by decide) (by decide) HBW.out.size ?_ ?_ ?_ ?_ ?_
       · rfl
       · rfl
       · rfl
       · rfl
       intro v1 y3 hown hgr hbz
       replace HO : Hid (OwnB y3 w.heap.size v1 ([] ++ [80])) := hown
       replace HBW : Hid (Below w.heap.size w y3) := HBW.out.trans hbz
       clear hown hgr hbz))
  go_ret
  exact ⟨_, rfl, HO.out, HBW.out⟩
set_option maxRecDepth 100000 in
set_option maxHeartbeats 8000000 in
theorem lPut_any (v : Value) (l f s : List (BitVec 8)) (base : Nat) (w : World) (hb : base ≤ w.heap.size) (ho : OwnB w base v l) (hf : f.length = 32) (hs : s.length = 32) (hl : l.length ≤ 1000000) :
    Calls Tryd.prog 104 #[v, .agg (cb f).toArray, .agg (cb s).toArray] w fun e w' => ∃ v', e = .returned v' ∧ OwnB w' base v' (l ++ f ++ s) ∧ KeptB base w w' := by
  have HBS : Hid (base ≤ w.heap.size) := hb
  have HO : Hid (OwnB w base v l) := ho
  have HFL : Hid (f.length = 32) := hf
  have HSL : Hid (s.length = 32) := hs
  have HLL : Hid (l.length ≤ 1000000) := hl
  have HKP : Hid (KeptB base w w) := KeptB.refl _ _
  clear hb ho hf hs hl
  go_enter Tryd.func104, Tryd.ntmps104
  have tka7 : Hid True := trivial
  have tka10 : Hid True := trivial
  have tk1 : Hid True := trivial
  have tk2 : Hid True := trivial
  go_wp2_with (first
    | (clear tk1; with_reducible refine wpSeq_boxD (.tmp 1) f ?_ ?_ ?_ ?_
       · rfl
       · rfl
       · rfl
       intro gf y1 nn
       replace HKP : Hid (KeptB base w y1) := HKP.out.next HBS.out nn.below
       replace HO : Hid (OwnB y1 base v l) := HO.out.below nn.below (Nat.le_refl _)
       have HF : Hid (Blk y1 gf (cb f) 23) := nn.blk
       clear nn)
    | (clear tk2; with_reducible refine wpSeq_boxD (.tmp 2) s ?_ ?_ ?_ ?_
       · rfl
       · rfl
       · rfl
       intro gs y2 nn
       replace HKP : Hid (KeptB base w y2) := HKP.out.next HBS.out nn.below
       replace HO : Hid (OwnB y2 base v l) := HO.out.below nn.below (Nat.le_refl _)
       replace HF : Hid (Blk y2 gf (cb f) 23) := HF.out.below nn.below HF.out.lt
       have HG : Hid (Blk y2 gs (cb s) 23) := nn.blk
       clear nn)
    | (at_builtin; clear tka7; with_reducible refine wpSeq_appendG (.tmp 7) (.tmp 8) base v (.slice (some ⟨gf, 0, none⟩) 32 32) (l) f HO.out (HF.out.reads HFL.out.symm (by rw [HFL.out]; exact Nat.le_refl _)) (by rw [HFL.out]; decide) (by have h1 := HLL.out; have h2 := HFL.out; have h3 := HSL.out; (try rw [List.length_append]); omega) (Nat.le_trans HBS.out HKP.out.bel.size) ?_ ?_ ?_ ?_ ?_
       · rfl
       · rfl
       · rfl
       · rfl
       intro v1 y3 hown hgr hbz
       replace HKP : Hid (KeptB base w y3) := HKP.out.grown HO.out hgr hbz
       replace HG : Hid (Blk y3 gs (cb s) 23) := HG.out.grown hgr (HO.out.ne HG.out (by decide))
       replace HO : Hid (OwnB y3 base v1 (l ++ f)) := hown
       clear hown hgr hbz)
    | (at_builtin; clear tka10; with_reducible refine wpSeq_appendG (.tmp 10) (.tmp 11) base v1 (.slice (some ⟨gs, 0, none⟩) 32 32) (l ++ f) s HO.out (HG.out.reads HSL.out.symm (by rw [HSL.out]; exact Nat.le_refl _)) (by rw [HSL.out]; decide) (by have h1 := HLL.out; have h2 := HFL.out; have h3 := HSL.out; (try rw [List.length_append]); omega) (Nat.le_trans HBS.out HKP.out.bel.size) ?_ ?_ ?_ ?_ ?_
       · rfl
       · rfl
       · rfl
       · rfl
       intro v2 y4 hown hgr hbz
       replace HKP : Hid (KeptB base w y4) := HKP.out.grown HO.out hgr hbz
       replace HG : Hid (Blk y4 gs (cb s) 23) := HG.out.grown hgr (HO.out.ne HG.out (by decide))
       replace HO : Hid (OwnB y4 base v2 (l ++ f ++ s)) := hown
       clear hown hgr hbz))
  go_ret
  exact ⟨_, rfl, HO.out, HKP.out⟩
/-- from a place on -/
theorem from_run (ga off n cap l : Nat) (hn : l < n) (hc : n ≤ cap) (w : World) :
    (Instr.sliceAt 28 (.slice (some ⟨ga, off, none⟩) n cap) (some (.int .i64 (l : Int))) none none).run Tryd.prog w = .ok (.slice (some ⟨ga, off + l, none⟩) (n - l) (cap - l)) w := by
  have hs : (sizeOf 5).run Tryd.prog w = .ok 1 w := by kernel_rfl
  rw [run_sliceAt_slice w 28 _ _ _ _ (by kernel_rfl), run_slice_l w 28 _ _ _ (by kernel_rfl) .i64 _ (by omega) (by omega)]
  rw [show Tryd.prog.elem 28 = 5 from by kernel_rfl, hs]
  simp only [Result.andThen_ok, sliced, Int.toNat_natCast, Nat.mul_one]
  rw [if_neg (by omega)]
  simp [Addr.add_mid]
theorem from_op (f : Operand → Value) (o : Oper) (x lo : Operand) (ho : o.op = .slice 28 x (some lo) none none) (ga off n cap l : Nat) (hx : f x = .slice (some ⟨ga, off, none⟩) n cap) (L : Int) (hlo : f lo = .int .i64 L) (hL : L = (l : Int)) (hn : l < n) (hc : n ≤ cap) (w : World) :
    (execOp f o).run Tryd.prog w = .ok (.value (.slice (some ⟨ga, off + l, none⟩) (n - l) (cap - l))) w := by
  subst hL
  unfold execOp
  rw [ho]
  simp only [hx, hlo, Option.map_some, Option.map_none, Sem.run_bind, from_run ga off n cap l hn hc w]
  rfl
theorem wpSeq_from {ops : Array Oper} {Q : Exit → Act → World → Prop} {rest : List Oper} {o : Oper} {a : Act} {w : World} (x lo : Operand) (ga off n cap l : Nat) (L : Int) (hL : L = (l : Int)) (hn : l < n) (hc : n ≤ cap) (ho : o.op = .slice 28 x (some lo) none none) (hx : a.eval x = .slice (some ⟨ga, off, none⟩) n cap) (hlo : a.eval lo = .int .i64 L) (hw : Region.wanted o (yielded ops a.tmps) = true)
    (h : wpList Tryd.prog ops Q rest (a.put o.dst (.slice (some ⟨ga, off + l, none⟩) (n - l) (cap - l))) w) : wpList Tryd.prog ops Q (o :: rest) a w :=
  wpSeq_val _ _ hw (from_op a.eval o x lo ho ga off n cap l hx L hlo hL hn hc w) h
/-- thirty-two bytes copied over a digest -/
theorem copy_run (f : Operand → Value) (o : Oper) (s x : Operand) (ho : o.op = .call { callee := .builtin .copy, args := #[s, x], argTypes := #[28, 28] }) (w : World) (g b off n cap : Nat) (l bs : List (BitVec 8)) (hg : Blk w g (cb l) 23) (hl : l.length = 32) (hbs : bs.length = 32) (hn : 32 ≤ n) (hc2 : ∃ c, Reads w (.slice (some ⟨b, off, none⟩) 32 c) bs) (hs : f s = .slice (some ⟨g, 0, none⟩) 32 32) (hx : f x = .slice (some ⟨b, off, none⟩) n cap) :
    (execOp f o).run Tryd.prog w = .ok (.value (goInt 32)) (w.setCells g 0 (cb bs)) := by
  obtain ⟨c, ad, c', hv, _, _, hy⟩ := hc2
  obtain ⟨b', off', h1, h2⟩ := hy (by omega)
  subst h1
  simp only [Value.slice.injEq, Option.some.injEq, Addr.mk.injEq, and_true] at hv
  obtain ⟨⟨rfl, rfl⟩, _⟩ := hv
  have hcp : ∀ ty, (Builtin.copy_ #[28, 28] ty #[.slice (some ⟨g, 0, none⟩) 32 32, .slice (some ⟨b, off, none⟩) n cap]).run Tryd.prog w = .ok (goInt (cb bs).length) (w.setCells g 0 (cb bs)) := fun ty =>
      run_copy_cells w _ _ ty 5 g 0 32 32 ⟨b, off, none⟩ n cap (cb bs) Tryd.underlying28 (by kernel_rfl) (by rw [cb_len, hbs]; exact (Nat.min_eq_right hn).symm)
        (fun j u hj => by
          have hjl : j < bs.length := by have := (List.getElem?_eq_some_iff.1 hj).1; rwa [cb_len] at this
          rw [Addr.add_mid, h2 j hjl, ← hj, cb_get bs j hjl])
        (fun j hj => by rw [hg.cell, List.getElem?_eq_getElem (by rw [cb_len, hl]; rw [cb_len, hbs] at hj; omega)]; rfl) (fun j _ => hg.frozen _) (cb_one _)
  rw [cb_len, hbs] at hcp
  unfold execOp
  rw [ho]
  simp [resolve, invoke, builtin, hs, hx, hcp, Result.andThen]
theorem wpSeq_copyY {ops : Array Oper} {Q : Exit → Act → World → Prop} {rest : List Oper} {o : Oper} {a : Act} {w : World} (s x : Operand) (g b off n cap : Nat) (l bs : List (BitVec 8)) (hg : Blk w g (cb l) 23) (hl : l.length = 32) (hbs : bs.length = 32) (hn : 32 ≤ n) (hc2 : ∃ c, Reads w (.slice (some ⟨b, off, none⟩) 32 c) bs) (ho : o.op = .call { callee := .builtin .copy, args := #[s, x], argTypes := #[28, 28] }) (hs : a.eval s = .slice (some ⟨g, 0, none⟩) 32 32) (hx : a.eval x = .slice (some ⟨b, off, none⟩) n cap) (hw : Region.wanted o (yielded ops a.tmps) = true)
    (h : ∀ w', SetB bs w g w' → wpList Tryd.prog ops Q rest (a.put o.dst (goInt 32)) w') : wpList Tryd.prog ops Q (o :: rest) a w :=
  wpSeq_val _ _ hw (copy_run a.eval o s x ho w g b off n cap l bs hg hl hbs hn hc2 hs hx) (h _ (SetB.of l bs hl hbs hg))
theorem results_digs2 {fn : Func} {p q : Tmp} (h : fn.results = #[.cell p 23, .cell q 23]) (tmps : Array Value) (w : World) (g1 g2 : Nat) (l1 l2 : List (BitVec 8)) (h1 : l1.length = 32) (h2 : l2.length = 32)
    (hp : tmps.getD p undef = .pointer (some ⟨g1, 0, none⟩)) (hq : tmps.getD q undef = .pointer (some ⟨g2, 0, none⟩)) (hb1 : Blk w g1 (cb l1) 23) (hb2 : Blk w g2 (cb l2) 23) : (results fn tmps).run Tryd.prog w = .ok (.tuple #[.agg (cb l1).toArray, .agg (cb l2).toArray]) w := by
  have hp' : tmps[p]?.getD undef = .pointer (some ⟨g1, 0, none⟩) := by simpa using hp
  have hq' : tmps[q]?.getD undef = .pointer (some ⟨g2, 0, none⟩) := by simpa using hq
  have e1 := run_loadVar_row (P := Tryd.prog) w g1 23 23 (cb l1).toArray (0, 0) _ hb1 Tryd.underlying23 rfl (by rw [List.size_toArray, cb_len, h1]; exact info_digest)
  have e2 := run_loadVar_row (P := Tryd.prog) w g2 23 23 (cb l2).toArray (0, 0) _ hb2 Tryd.underlying23 rfl (by rw [List.size_toArray, cb_len, h2]; exact info_digest)
  simp [results, h, hp', hq', asAddr, e1, e2]
set_option maxRecDepth 100000 in
set_option maxHeartbeats 8000000 in
theorem lHalves_any (vs : Value) (sig : List (BitVec 8)) (i : Nat) (w : World) (hs : Reads w vs sig) (h16 : sig.length = 16384) (hi : i < 256) :
    Calls Tryd.prog 103 #[vs, .int .i64 (i : Int)] w fun e w' => e = .returned (.tuple #[.agg (cb (blk32 sig (2 * i))).toArray, .agg (cb (blk32 sig (2 * i + 1))).toArray]) ∧ Below w.heap.size w w' := by
  obtain ⟨bs, offs, cps, hcp, rfl⟩ : ∃ bs offs cps, 16384 ≤ cps ∧ vs = .slice (some ⟨bs, offs, none⟩) 16384 cps := by
    obtain ⟨ad', cp', hv', hc, _, hx⟩ := id hs
    obtain ⟨bs, offs, rfl, _⟩ := hx (by omega)
    rw [h16] at hv' hc
    exact ⟨bs, offs, cp', hc, hv'⟩
  obtain ⟨pa, HPA⟩ : ∃ r, Hid (r = blk32 sig (2 * i)) := ⟨_, rfl⟩
  obtain ⟨pb, HPB⟩ : ∃ r, Hid (r = blk32 sig (2 * i + 1)) := ⟨_, rfl⟩
  have HPAL : Hid (pa.length = 32) := by show _ = _; rw [HPA.out]; exact len_blk32 (by omega)
  have HPBL : Hid (pb.length = 32) := by show _ = _; rw [HPB.out]; exact len_blk32 (by omega)
  have HCA : Hid (∀ W, Below w.heap.size w W → ∃ c, Reads W (.slice (some ⟨bs, offs + 64 * i, none⟩) 32 c) pa) := fun W hh => by
    have h := (hs.below hh).cut (2 * i) (by omega)
    rw [← HPA.out, show 32 * (2 * i) = 64 * i by omega] at h
    exact ⟨_, h⟩
  have HCB : Hid (∀ W, Below w.heap.size w W → ∃ c, Reads W (.slice (some ⟨bs, offs + 64 * i + 32, none⟩) 32 c) pb) := fun W hh => by
    have h := (hs.below hh).cut (2 * i + 1) (by omega)
    rw [← HPB.out, show 32 * (2 * i + 1) = 64 * i + 32 by omega, ← Nat.add_assoc] at h
    exact ⟨_, h⟩
  rw [← HPA.out, ← HPB.out]
  have HBW : Hid (Below w.heap.size w w) := Below.refl _ _
  have HCP : Hid (16384 ≤ cps ∧ i < 256) := ⟨hcp, hi⟩
  have f6 : IntKind.i64.wrap ((i : Int) * 64) = (i : Int) * 64 := by rw [IntKind.wrap_i64]; omega
  clear hs h16 hi hcp HPA HPB
  go_enter Tryd.func103, Tryd.ntmps103
  have tk1 : Hid True := trivial
  have tk2 : Hid True := trivial
  have tk3 : Hid True := trivial
  have tk4 : Hid True := trivial
  go_wp2_with (first
    | (clear tk1; with_reducible refine wpSeq_allocD ?_ ?_ ?_
       · rfl
       · rfl
       intro ga y1 nn
       have HGA : Hid (w.heap.size ≤ ga) := Nat.le_trans HBW.out.size nn.ge
       replace HBW : Hid (Below w.heap.size w y1) := HBW.out.trans (nn.below.mono HBW.out.size)
       have HA : Hid (Blk y1 ga (cb zb32) 23) := nn.blk
       clear nn)
    | (clear tk2; with_reducible refine wpSeq_allocD ?_ ?_ ?_
       · rfl
       · rfl
       intro gb y2 nn
       have HGB : Hid (w.heap.size ≤ gb) := Nat.le_trans HBW.out.size nn.ge
       have HNE : Hid (ga ≠ gb) := by have h1 := HA.out.lt; have h2 := nn.ge; show _ ≠ _; omega
       replace HBW : Hid (Below w.heap.size w y2) := HBW.out.trans (nn.below.mono HBW.out.size)
       replace HA : Hid (Blk y2 ga (cb zb32) 23) := HA.out.below nn.below HA.out.lt
       have HB : Hid (Blk y2 gb (cb zb32) 23) := nn.blk
       clear nn)
    | (clear tk3; with_reducible refine wpSeq_from (.tmp 7) (.tmp 9) bs offs 16384 cps (64 * i) ((i : Int) * 64) ?_ ?_ ?_ ?_ ?_ ?_ ?_ ?_
       · have := HCP.out.2; omega
       · have := HCP.out.2; omega
       · exact HCP.out.1
       · rfl
       · rfl
       · rfl
       · rfl
       obtain ⟨n1, HN1⟩ : ∃ n, Hid (n = 16384 - 64 * i) := ⟨_, rfl⟩
       obtain ⟨c1, HC1⟩ : ∃ n, Hid (n = cps - 64 * i) := ⟨_, rfl⟩
       obtain ⟨o1, HO1⟩ : ∃ n, Hid (n = offs + 64 * i) := ⟨_, rfl⟩
       rw [← HN1.out, ← HC1.out, ← HO1.out]
       replace HCA : Hid (∀ W, Below w.heap.size w W → ∃ c, Reads W (.slice (some ⟨bs, o1, none⟩) 32 c) pa) := by rw [HO1.out]; exact HCA.out
       replace HCB : Hid (∀ W, Below w.heap.size w W → ∃ c, Reads W (.slice (some ⟨bs, o1 + 32, none⟩) 32 c) pb) := by rw [HO1.out]; exact HCB.out
       have HN2 : Hid (64 ≤ n1 ∧ n1 ≤ c1) := by have h1 := HCP.out.1; have h2 := HCP.out.2; have h3 := HN1.out; have h4 := HC1.out; exact ⟨by omega, by omega⟩
       clear HN1 HC1 HO1)
    | (clear tk4; with_reducible refine wpSeq_copyY (.tmp 11) (.tmp 12) ga bs o1 n1 c1 zb32 pa HA.out rfl HPAL.out (by have := HN2.out.1; omega) (HCA.out _ HBW.out) ?_ ?_ ?_ ?_ ?_
       · rfl
       · rfl
       · rfl
       · rfl
       intro y3 hs
       replace HA : Hid (Blk y3 ga (cb pa) 23) := hs.blk
       replace HB : Hid (Blk y3 gb (cb zb32) 23) := HB.out.only hs.only (fun e => HNE.out e.symm)
       replace HBW : Hid (Below w.heap.size w y3) := HBW.out.trans (hs.only.below HGA.out HBW.out.size)
       clear hs))
  refine wp_region_held_drew (S := fun _ => True) (by kernel_rfl) trivial ?_
  intro hS
  replace HA : Hid (Blk (World.drew y3) ga (cb pa) 23) := HA.out.drew
  replace HB : Hid (Blk (World.drew y3) gb (cb zb32) 23) := HB.out.drew
  replace HBW : Hid (Below w.heap.size w (World.drew y3)) := HBW.out.drew
  change wpAnyH _ _ _ _ _ _ _ _ (World.drew y3)
  generalize World.drew y3 = q at *
  try simp only [Act.put, List.setIfInBounds_toArray, List.set_cons_zero, List.set_cons_succ]
  refine wpAnyH_take (i := 0) (v := .slice (some ⟨gb, 0, none⟩) 32 32) rfl (by kernel_rfl) (by kernel_rfl) (by kernel_rfl) (fun _ _ _ h => h) (Or.inl ⟨by rfl, fun wx hx => by simp [execOp, Act.eval, slice_dig]⟩) hS ?_
  simp only [Act.put, List.getElem_toArray, List.getElem_cons_zero, List.setIfInBounds_toArray, List.set_cons_zero, List.set_cons_succ]
  refine wpAnyH_take (i := 1) (v := .slice (some ⟨bs, o1, none⟩) n1 c1) rfl (by kernel_rfl) (by kernel_rfl) (by kernel_rfl) (fun _ _ _ h => h) (Or.inl ⟨by rfl, fun wx hx => by simp [go_sem]⟩) hS ?_
  simp only [Act.put, List.getElem_toArray, List.getElem_cons_succ, List.getElem_cons_zero, List.setIfInBounds_toArray, List.set_cons_zero, List.set_cons_succ]
  refine wpAnyH_take (i := 2) (v := .slice (some ⟨bs, o1 + 32, none⟩) (n1 - 32) (c1 - 32)) rfl (by kernel_rfl) (by kernel_rfl) (by kernel_rfl) (fun _ _ _ h => h) (Or.inl ⟨by rfl, fun wx hx => by exact from_op _ _ (.tmp 15) (.const (.int .i64 32)) rfl bs o1 n1 c1 32 rfl 32 rfl rfl (by have := HN2.out.1; omega) HN2.out.2 _⟩) hS ?_
  simp only [Act.put, List.getElem_toArray, List.getElem_cons_succ, List.getElem_cons_zero, List.setIfInBounds_toArray, List.set_cons_zero, List.set_cons_succ]
  refine wpAnyH_step 3 (goInt 32) (q.setCells gb 0 (cb pb)) (by kernel_rfl) rfl (by rfl) (copy_run _ _ (.tmp 14) (.tmp 16) rfl q gb bs (o1 + 32) (n1 - 32) (c1 - 32) zb32 pb HB.out rfl HPBL.out (by have := HN2.out.1; omega) (HCB.out _ HBW.out) rfl rfl) trivial ?_
  simp only [Act.put, List.getElem_toArray, List.getElem_cons_succ, List.getElem_cons_zero, List.setIfInBounds_toArray, List.set_cons_zero, List.set_cons_succ]
  refine wpAnyH_done (by kernel_rfl) ?_ _
  have hs : SetB pb q gb (q.setCells gb 0 (cb pb)) := SetB.of zb32 pb rfl HPBL.out HB.out
  replace HB : Hid (Blk (q.setCells gb 0 (cb pb)) gb (cb pb) 23) := hs.blk
  replace HA : Hid (Blk (q.setCells gb 0 (cb pb)) ga (cb pa) 23) := HA.out.only hs.only HNE.out
  replace HBW : Hid (Below w.heap.size w (q.setCells gb 0 (cb pb))) := HBW.out.trans (hs.only.below HGB.out HBW.out.size)
  clear hs hS HCA HCB
  generalize q.setCells gb 0 (cb pb) = y4 at *
  have tk5 : Hid True := trivial
  have tk6 : Hid True := trivial
  have tk7 : Hid True := trivial
  have tk8 : Hid True := trivial
  go_wp2_with (first
    | (clear tk5; with_reducible refine wpSeq_loadD (.tmp 4) ga pa ?_ ?_ ?_ ?_ ?_ ?_
       · exact HPAL.out
       · exact HA.out
       · rfl
       · rfl
       · rfl)
    | (clear tk6; with_reducible refine wpSeq_loadD (.tmp 5) gb pb ?_ ?_ ?_ ?_ ?_ ?_
       · exact HPBL.out
       · exact HB.out
       · rfl
       · rfl
       · rfl)
    | (clear tk7; with_reducible refine wpSeq_storeD (.tmp 4) (.tmp 18) ga pa pa ?_ ?_ ?_ ?_ ?_ ?_ ?_ ?_
       · exact HPAL.out
       · exact HPAL.out
       · exact HA.out
       · rfl
       · rfl
       · rfl
       · rfl
       intro y5 hs
       replace HA : Hid (Blk y5 ga (cb pa) 23) := hs.blk
       replace HB : Hid (Blk y5 gb (cb pb) 23) := HB.out.only hs.only (fun e => HNE.out e.symm)
       replace HBW : Hid (Below w.heap.size w y5) := HBW.out.trans (hs.only.below HGA.out HBW.out.size)
       clear hs)
    | (clear tk8; with_reducible refine wpSeq_storeD (.tmp 5) (.tmp 19) gb pb pb ?_ ?_ ?_ ?_ ?_ ?_ ?_ ?_
       · exact HPBL.out
       · exact HPBL.out
       · exact HB.out
       · rfl
       · rfl
       · rfl
       · rfl
       intro y6 hs
       replace HA : Hid (Blk y6 ga (cb pa) 23) := HA.out.only hs.only HNE.out
       replace HB : Hid (Blk y6 gb (cb pb) 23) := hs.blk
       replace HBW : Hid (Below w.heap.size w y6) := HBW.out.trans (hs.only.below HGB.out HBW.out.size)
       clear hs))
  exact bodyPost_ret (results_digs2 (by rfl) _ _ ga gb pa pb HPAL.out HPBL.out rfl rfl HA.out HB.out) rfl ⟨rfl, HBW.out⟩
end Go.Proofs.YtableajopaappaaDoor
/- The walks of lamport's Text and Public (layer 10). -/
namespace Go.Proofs.YtableajopaappaaDoor
open Go.RowKit Go.Shelf
set_option maxRecDepth 100000
theorem OwnB.lower {w : World} {base B : Nat} {v : Value} {l : List (BitVec 8)} (h : OwnB w base v l) (hB : B ≤ base) : OwnB w B v l := by
  obtain ⟨h1, h2⟩ := h
  refine ⟨h1, ?_⟩
  rcases h2 with h2 | ⟨g, cap, cur, rfl, hb, r⟩
  · exact Or.inl h2
  · exact Or.inr ⟨g, cap, cur, rfl, Nat.le_trans hB hb, r⟩
end Go.Proofs.YtableajopaappaaDoor
/- The walk of lamport's Sign (layer 10): a loop over path.Bits. -/
namespace Go.Proofs.YtableajopaappaaDoor
open Go.RowKit Go.Shelf
set_option maxRecDepth 100000
attribute [local go_sem] Oper.semAt_some
theorem wpSeq_allocB {ops : Array Oper} {Q : Exit → Act → World → Prop} {rest : List Oper} {o : Oper} {a : Act} {w : World} (ho : o.op = .alloc 28) (hw : Region.wanted o (yielded ops a.tmps) = true)
    (h : ∀ g w', NewC (.slice none 0 0) 28 w g w' → wpList Tryd.prog ops Q rest (a.put o.dst (.pointer (some ⟨g, 0, none⟩))) w') : wpList Tryd.prog ops Q (o :: rest) a w :=
  wpSeq_val _ _ hw (by unfold execOp; rw [ho]; kernel_rfl) (h _ _ (NewC.of (.slice none 0 0) 28 w))
/-- a slice put into its box -/
theorem OwnB.boxed {y : World} {base gO : Nat} {v v' u : Value} {l : List (BitVec 8)} (h : OwnB y base v' l) (hb : Blk y gO [v] 28) : OwnB (y.setCell ⟨gO, 0, none⟩ u) base v' l := by
  have ho : Only gO y (y.setCell ⟨gO, 0, none⟩ u) := Only.setCell (Only.refl gO y) 0 u
  have hne := h.ne hb (by decide)
  obtain ⟨e1, e2⟩ := h
  refine ⟨e1, ?_⟩
  rcases e2 with e2 | ⟨g, cap, cur, rfl, hg2, hh, r⟩
  · exact Or.inl e2
  · refine Or.inr ⟨g, cap, cur, rfl, hg2, ?_, r⟩
    rw [ho.block g (fun e => hne (by rw [e]; rfl)) (Array.getElem?_eq_some_iff.1 hh).1]
    exact hh
theorem RoI.kept {w W y y1 : World} {gO : Nat} {l l' : List (BitVec 8)} {v v' : Value} (h : RoI w gO l W y) (hgO : w.heap.size ≤ gO) (h1 : Blk y gO [v] 28) (hk : KeptB w.heap.size y y1) (h3 : OwnB y1 w.heap.size v' l') : RoI w gO l' W (y1.setCell ⟨gO, 0, none⟩ v') := by
  have hb := hk.blk gO [v] _ (by decide) h1
  exact ⟨⟨v', by simpa using hb.set 0 v', h3.boxed hb⟩, (h.bel.trans hk.bel).trans ((Only.setCell (Only.refl gO y1) 0 v').below hgO (Nat.le_trans h.bel.size hk.bel.size)), (h.kp.trans hk.oth).trans (KeepsOthers.setCell _ _ _)⟩
theorem KeptB.boxed {base : Nat} {y y1 : World} {gO g : Nat} {v' : Value} {cs : List Value} {t : TypeId} (hk : KeptB base y y1) (h : Blk y g cs t) (ht : t ≠ 5) (hne : g ≠ gO) : Blk (y1.setCell ⟨gO, 0, none⟩ v') g cs t :=
  (hk.blk g cs t ht h).only (Only.setCell (Only.refl gO y1) 0 v') hne
theorem blk_ne {y : World} {g gO : Nat} {cs ds : List Value} {t u : TypeId} (h : Blk y g cs t) (h1 : Blk y gO ds u) (ht : t ≠ u) : g ≠ gO := by
  rintro rfl
  unfold Blk at h h1
  rw [h] at h1
  simp only [Option.some.injEq, Obj.cells.injEq] at h1
  exact ht h1.2.1
/-- a slice of bytes stored into its box -/
theorem wpSeq_storeS {ops : Array Oper} {Q : Exit → Act → World → Prop} {rest : List Oper} {o : Oper} {a : Act} {w : World} (x y : Operand) (gO : Nat) (v : Value) (ad : Option Addr) (n c : Nat) (hb : Blk w gO [v] 28) (ho : o.op = .store 28 x y) (hx : a.eval x = .pointer (some ⟨gO, 0, none⟩)) (hy : a.eval y = .slice ad n c) (hw : Region.wanted o (yielded ops a.tmps) = true)
    (h : ∀ w', w' = w.setCell ⟨gO, 0, none⟩ (.slice ad n c) → wpList Tryd.prog ops Q rest (a.put o.dst undef) w') : wpList Tryd.prog ops Q (o :: rest) a w := by
  have hc : w.cell? ⟨gO, 0, none⟩ = some v := hb.cell 0
  have hf : w.frozen? ⟨gO, 0, none⟩ = false := hb.frozen 0
  have he : (execOp a.eval o).run Tryd.prog w = .ok .skip (w.setCell ⟨gO, 0, none⟩ (.slice ad n c)) := by
    clear h hw
    generalize a.eval = f at hx hy ⊢
    unfold execOp
    rw [ho]
    simp [go_sem, hx, hy, hc, hf]
  unfold wpList
  simp only [hw, if_true]
  left
  unfold Oper.wp
  rw [he, Oper.upon_skip]
  exact h _ rfl
end Go.Proofs.YtableajopaappaaDoor
/- The walk of lamport's Opened (layer 10): a loop over path.Bits that is gone on from by a label. -/
namespace Go.Proofs.YtableajopaappaaDoor
open Go.RowKit Go.Shelf
set_option maxRecDepth 100000
attribute [local go_sem] Oper.semAt_some
/-- what a list of places makes of a signature -/
def openB (on : Nat → Bool) (sig : List (BitVec 8)) (q : Nat) : List (BitVec 8) := if on q then blk32 sig (2 * q + 1) ++ dig (blk32 sig (2 * q)) else dig (blk32 sig (2 * q)) ++ blk32 sig (2 * q + 1)
def openF (on : Nat → Bool) (sig : List (BitVec 8)) (pre : List {k : Nat // k < 256}) : List (BitVec 8) := 80 :: (pre.map fun q => openB on sig q.1).flatten
theorem openF_snoc (on : Nat → Bool) (sig : List (BitVec 8)) (pre : List {k : Nat // k < 256}) (q : {k : Nat // k < 256}) : openF on sig (pre ++ [q]) = openF on sig pre ++ openB on sig q.1 := by simp [openF]
theorem openF_path (on : Nat → Bool) (sig : List (BitVec 8)) (k : Nat) (h : k ≤ 256) : openF on sig (pathT k) = openR on sig k := by
  induction k with
  | zero => rfl
  | succ k ih => rw [pathT_succ k (by omega), openF_snoc, ih (by omega), openR]; rfl
theorem openB_len (on : Nat → Bool) {sig : List (BitVec 8)} (h : sig.length = 16384) (q : {k : Nat // k < 256}) : (openB on sig q.1).length = 64 := by
  have h1 : (blk32 sig (2 * q.1 + 1)).length = 32 := len_blk32 (by have := q.2; omega)
  unfold openB
  split <;> rw [List.length_append, len_dig', h1]
theorem openF_len (on : Nat → Bool) {sig : List (BitVec 8)} (h : sig.length = 16384) (pre : List {k : Nat // k < 256}) : (openF on sig pre).length = 64 * pre.length + 1 := by
  unfold openF
  rw [List.length_cons]
  congr 1
  induction pre with
  | nil => rfl
  | cons q r ih => rw [List.map_cons, List.flatten_cons, List.length_append, openB_len on h, ih, List.length_cons]; omega
theorem noGoto_ret {Q : Exit → Act → World → Prop} {a : Act} {w : World} (h : Q .ret a w) : Exit.noGoto Q .ret a w := h
theorem wpSeq_boxS {ops : Array Oper} {Q : Exit → Act → World → Prop} {rest : List Oper} {o : Oper} {a : Act} {w : World} (x : Operand) (ad : Option Addr) (n c : Nat) (ho : o.op = .box 28 x) (hx : a.eval x = .slice ad n c) (hw : Region.wanted o (yielded ops a.tmps) = true)
    (h : ∀ g w', NewC (.slice ad n c) 28 w g w' → wpList Tryd.prog ops Q rest (a.put o.dst (.pointer (some ⟨g, 0, none⟩))) w') : wpList Tryd.prog ops Q (o :: rest) a w :=
  wpSeq_val _ _ hw (by unfold execOp; rw [ho]; simp only [hx]; rfl) (h _ _ (NewC.of (.slice ad n c) 28 w))
set_option maxRecDepth 100000 in
set_option maxHeartbeats 8000000 in
theorem lOpened_any (vb vs : Value) (b sig : List (BitVec 8)) (w : World) (hK : KOk w) (hb : Reads w vb b) (hs : Reads w vs sig) (hl : b.length < 140737488350000) :
    Calls Tryd.prog 91 #[vb, vs] w (OpenA w b sig) := by
  obtain ⟨ab, cbb, hvb, hqb⟩ := id hb
  clear hqb
  obtain ⟨nb, HNB⟩ : ∃ n, Hid (n = b.length) := ⟨_, rfl⟩
  rw [← HNB.out] at hvb
  by_cases h16 : sig.length = 16384
  · obtain ⟨bs, offs, cps, rfl⟩ : ∃ bs offs cps, vs = .slice (some ⟨bs, offs, none⟩) 16384 cps := by
      obtain ⟨ad', cp', hv', hc, _, hx⟩ := id hs
      obtain ⟨bs, offs, rfl, _⟩ := hx (by omega)
      rw [h16] at hv'
      exact ⟨bs, offs, cp', hv'⟩
    obtain ⟨d, HDD⟩ : ∃ d, Hid (d = dig b) := ⟨_, rfl⟩
    have HDL : Hid (d.length = 32) := by show _ = _; rw [HDD.out]; exact len_dig' _
    have HL : Hid (openL b sig = openR (bt d) sig 256 ∧ openE sig = 0) := by show _ ∧ _; rw [openL, openE, if_pos h16, if_pos h16, HDD.out]; exact ⟨rfl, rfl⟩
    have HSL : Hid (sig.length = 16384) := h16
    have HC0 : Hid (∀ W : World, Below w.heap.size w W → Calls Tryd.prog 75 #[vb] W fun e w' => e = .returned (.agg (cb d).toArray) ∧ Below W.heap.size W w') := fun W hh => by rw [HDD.out]; exact tOf_any vb b W (hK.below hh hK.lt) (hb.below hh) (by omega)
    have HC1 : Hid (∀ (W : World) (v : Value) (p : List (BitVec 8)), Below w.heap.size w W → p.length = 32 → Reads W v p → Calls Tryd.prog 75 #[v] W fun e w' => e = .returned (.agg (cb (dig p)).toArray) ∧ Below W.heap.size W w') := fun W v p hh hp hv => tOf_any v p W (hK.below hh hK.lt) hv (by rw [hp]; decide)
    have HC2 : Hid (∀ W : World, Below w.heap.size w W → ∀ i : Nat, i < 256 → Calls Tryd.prog 103 #[.slice (some ⟨bs, offs, none⟩) 16384 cps, .int .i64 (i : Int)] W fun e w' => e = .returned (.tuple #[.agg (cb (blk32 sig (2 * i))).toArray, .agg (cb (blk32 sig (2 * i + 1))).toArray]) ∧ Below W.heap.size W w') := fun W hh i hi => lHalves_any _ sig i W (hs.below hh) h16 hi
    have HBW : Hid (Below w.heap.size w w) := Below.refl _ _
    subst hvb
    clear hb hs hl h16 HDD hK
    refine (callsIn_wide (n := 4)).1 ?_
    refine callsIn_of_wp_marks Tryd.func91 rfl trivial ?_ rfl
    simp only [Tryd.ntmps91, List.size_toArray, List.length_cons, List.length_nil, Nat.reduceAdd, Nat.reduceSub, Array.replicate_succ, Array.replicate_zero, List.push_toArray, List.append_toArray, List.nil_append, List.cons_append]
    refine wpIn_wide.2 ?_
    go_wp2_with (first
    | (with_reducible refine wpSeq_boxS (.tmp 1) (some ⟨bs, offs, none⟩) 16384 cps ?_ ?_ ?_ ?_
       · rfl
       · rfl
       · rfl
       intro gS w1 nn
       have HSB : Hid (Blk w1 gS [.slice (some ⟨bs, offs, none⟩) 16384 cps] 28) := nn.blk
       have csb : w1.cell? ⟨gS, 0, none⟩ = some (.slice (some ⟨bs, offs, none⟩) 16384 cps) := nn.blk.cell 0
       replace HBW : Hid (Below w.heap.size w w1) := HBW.out.trans (nn.below.mono HBW.out.size)
       clear nn))
    refine wp_scope_straight ?_
    go_wp2_with (first
    | (go_at_call 101; refine (lBegun_any _).mono ?_; rintro e w2 ⟨v0, rfl, hown, hbz⟩
       obtain ⟨a0, c0, hf⟩ := hown.form
       rw [show ([80] : List (BitVec 8)).length = 1 from rfl] at hf
       subst hf
       clear csb
       have HM : Hid (OwnB w2 w.heap.size (.slice a0 1 c0) [80]) := hown.lower HBW.out.size
       replace HSB : Hid (Blk w2 gS [.slice (some ⟨bs, offs, none⟩) 16384 cps] 28) := HSB.out.below hbz HSB.out.lt
       replace HBW : Hid (Below w.heap.size w w2) := HBW.out.trans (hbz.mono HBW.out.size)
       clear hbz hown)
    | (with_reducible refine wpSeq_allocB ?_ ?_ ?_
       · rfl
       · rfl
       intro gO w3 nn
       have HGO : Hid (w.heap.size ≤ gO) := Nat.le_trans HBW.out.size nn.ge
       have HNE : Hid (gS ≠ gO) := by have h1 := HSB.out.lt; have h3 := nn.ge; show _ ≠ _; omega
       replace HSB : Hid (Blk w3 gS [.slice (some ⟨bs, offs, none⟩) 16384 cps] 28) := HSB.out.below nn.below HSB.out.lt
       replace HM : Hid (OwnB w3 w.heap.size (.slice a0 1 c0) [80]) := HM.out.below nn.below (Nat.le_refl _)
       replace HBW : Hid (Below w.heap.size w w3) := HBW.out.trans (nn.below.mono HBW.out.size)
       have HO : Hid (Blk w3 gO [.slice none 0 0] 28) := nn.blk
       clear nn)
    | (with_reducible refine wpSeq_storeS (.tmp 6) (.tmp 14) gO (.slice none 0 0) a0 1 c0 ?_ ?_ ?_ ?_ ?_ ?_
       · exact HO.out
       · rfl
       · rfl
       · rfl
       · rfl
       intro w4 h4
       have hon : Only gO w3 w4 := by rw [h4]; exact Only.setCell (Only.refl gO w3) 0 _
       replace HO : Hid (OutI w.heap.size gO [80] w4) := by rw [h4]; exact ⟨_, by simpa using HO.out.set 0 (.slice a0 1 c0), HM.out.boxed HO.out⟩
       replace HSB : Hid (Blk w4 gS [.slice (some ⟨bs, offs, none⟩) 16384 cps] 28) := HSB.out.only hon HNE.out
       replace HBW : Hid (Below w.heap.size w w4) := HBW.out.trans (hon.below HGO.out HBW.out.size)
       clear hon HM h4))
    refine wp_label ?_
    go_wp2_with (first
    | (go_at_call 75; refine (HC0.out _ HBW.out).mono ?_; rintro e w6 ⟨rfl, hbz⟩
       replace HSB : Hid (Blk w6 gS [.slice (some ⟨bs, offs, none⟩) 16384 cps] 28) := HSB.out.below hbz HSB.out.lt
       replace HO : Hid (OutI w.heap.size gO [80] w6) := HO.out.next hbz
       replace HBW : Hid (Below w.heap.size w w6) := HBW.out.trans (hbz.mono HBW.out.size)
       clear hbz)
    | (go_at_call 102; refine (pBits_any d _).mono ?_; rintro e w7 ⟨g3, rfl, nn⟩
       replace HSB : Hid (Blk w7 gS [.slice (some ⟨bs, offs, none⟩) 16384 cps] 28) := HSB.out.below nn.below HSB.out.lt
       replace HO : Hid (OutI w.heap.size gO [80] w7) := HO.out.next nn.below
       replace HBW : Hid (Below w.heap.size w w7) := HBW.out.trans (nn.below.mono HBW.out.size)
       have H3 : Hid (Blk w7 g3 (cb d) 23) := nn.blk
       clear nn))
    refine (wpIn_wide (n := 4)).1 ?_
    refine wpIn_rangeFunc_ownF (F := Fence.wide) rfl (by omega) (gf := 112) (lb := #[.pointer (some ⟨g3, 0, none⟩)]) rfl trivial (enters_of Tryd.func112 (by kernel_rfl) rfl)
      (bits_told 3 (by omega) g3 d HDL.out w7 H3.out) (fun _ _ => trivial) (fun _ _ _ _ _ _ _ _ => trivial) (Below.refl _ _) (fun _ => rfl)
      (fun pre W => OutI w.heap.size gO (openF (bt d) sig pre) W ∧ Blk W gS [.slice (some ⟨bs, offs, none⟩) 16384 cps] 28 ∧ Below w.heap.size w W) (fun _ _ _ => False)
      (OwnFrom.and (Own.from (OutI.own w.heap.size gO (openF (bt d) sig)) _) (OwnFrom.and (Own.from (blk_own gS (fun _ => [.slice (some ⟨bs, offs, none⟩) 16384 cps]) 28) _) (ownFrom_below (Nat.le_refl _) HBW.out.size)))
      (fun c s X Y row hs _ _ => hs.elim)
      ⟨HO.out, HSB.out, HBW.out⟩
      (fun z => { tmps := #[.slice ab nb cbb, .slice (some ⟨bs, offs, none⟩) 16384 cps, undef, .pointer (some ⟨gS, 0, none⟩), .slice none 0 0, .int .i64 0, .pointer (some ⟨gO, 0, none⟩), .int .i64 (z.1 : Int), .bool (bt d z.1), undef, undef, .slice (some ⟨bs, offs, none⟩) 16384 cps, .int .i64 16384, .bool false, .slice a0 1 c0, .slice ab nb cbb, .agg (cb d).toArray, .func (.func 112) #[] #[.pointer (some ⟨g3, 0, none⟩)], .int .i64 (z.1 : Int), .bool (bt d z.1), undef, undef, undef, undef, undef, undef, undef, undef, undef, undef, undef, undef, undef, undef, undef, undef, undef, undef], defers := [] }) ?assign ?body ?done ?stop
    case assign =>
      intro l z W K hK
      gi_wp2
      exact hK
    case body =>
      clear HSB HO H3
      rintro l pre z W ⟨hO, hX, hB⟩ hlen
      obtain ⟨lo, HLO⟩ : ∃ lo, Hid (lo = openF (bt d) sig pre) := ⟨_, rfl⟩
      have HLL : Hid (lo.length < 16386) := by show _ < _; rw [HLO.out, openF_len _ HSL.out]; omega
      have HSB : Hid (Blk W gS [.slice (some ⟨bs, offs, none⟩) 16384 cps] 28) := hX
      have HRO : Hid (RoI w gO lo W W) := ⟨by rw [HLO.out]; exact hO, hB, KeepsOthers.refl _⟩
      have HSN : Hid (openF (bt d) sig (pre ++ [z]) = lo ++ openB (bt d) sig z.1) := by rw [HLO.out]; exact openF_snoc _ _ _ _
      obtain ⟨pa, HPA⟩ : ∃ p, Hid (p = blk32 sig (2 * z.1)) := ⟨_, rfl⟩
      have HPAL : Hid (pa.length = 32) := by show _ = _; rw [HPA.out]; exact len_blk32 (by have := HSL.out; have := z.2; omega)
      obtain ⟨pb, HPB⟩ : ∃ p, Hid (p = blk32 sig (2 * z.1 + 1)) := ⟨_, rfl⟩
      have HPBL : Hid (pb.length = 32) := by show _ = _; rw [HPB.out]; exact len_blk32 (by have := HSL.out; have := z.2; omega)
      replace HSN : Hid (openF (bt d) sig (pre ++ [z]) = lo ++ if bt d z.1 then pb ++ dig pa else dig pa ++ pb) := by show _ = _; rw [HSN.out, HPA.out, HPB.out]; rfl
      obtain ⟨pd, HPD⟩ : ∃ p, Hid (p = dig pa) := ⟨_, rfl⟩
      have HPDL : Hid (pd.length = 32) := by show _ = _; rw [HPD.out]; exact len_dig' _
      rw [← HPD.out] at HSN
      obtain ⟨o, HOO⟩ : ∃ o, Hid (o = bt d z.1) := ⟨_, rfl⟩
      rw [← HOO.out] at HSN
      simp only [← HOO.out]
      clear hO hX hB HLO hlen HOO
      have tka : Hid True := trivial
      have tkb : Hid True := trivial
      have tkc : Hid True := trivial
      have tkd : Hid True := trivial
      refine wpIn_block (wpIn_seq ?_)
      refine wpIn_round_list (by kernel_rfl) (by rintro ⟨_, _, h⟩; exact h) ?_
      have csb : W.cell? ⟨gS, 0, none⟩ = some (.slice (some ⟨bs, offs, none⟩) 16384 cps) := HSB.out.cell 0
      go_wp2_with (first
      | (go_at_call 103; refine (HC2.out _ HRO.out.bel z.1 z.2).mono ?_; rintro e y1 ⟨rfl, hbz⟩
         rw [← HPA.out, ← HPB.out]
         replace HRO : Hid (RoI w gO lo W y1) := HRO.out.next hbz
         replace HSB : Hid (Blk y1 gS [.slice (some ⟨bs, offs, none⟩) 16384 cps] 28) := HSB.out.below hbz HSB.out.lt
         clear hbz csb)
      | (clear tka; with_reducible refine wpSeq_allocD ?_ ?_ ?_
         · rfl
         · rfl
         intro ga y2 nn
         have HGA : Hid (y1.heap.size ≤ ga) := nn.ge
         have HA : Hid (Blk y2 ga (cb zb32) 23) := nn.blk
         have HAB : Hid (Below y1.heap.size y1 y2) := nn.below
         clear nn)
      | (clear tkb; with_reducible refine wpSeq_allocD ?_ ?_ ?_
         · rfl
         · rfl
         intro gb y3 nn
         have HGB : Hid (y1.heap.size ≤ gb) := Nat.le_trans HAB.out.size nn.ge
         have HNAB : Hid (ga ≠ gb) := by have h1 := HA.out.lt; have h3 := nn.ge; show _ ≠ _; omega
         replace HA : Hid (Blk y3 ga (cb zb32) 23) := HA.out.below nn.below HA.out.lt
         have HB : Hid (Blk y3 gb (cb zb32) 23) := nn.blk
         replace HAB : Hid (Below y1.heap.size y1 y3) := HAB.out.trans (nn.below.mono HAB.out.size)
         clear nn)
      | (clear tkc; with_reducible refine wpSeq_storeD (.tmp 9) (.tmp 24) ga zb32 pa ?_ ?_ ?_ ?_ ?_ ?_ ?_ ?_
         · rfl
         · exact HPAL.out
         · exact HA.out
         · rfl
         · rfl
         · rfl
         · rfl
         intro y4 hs
         replace HA : Hid (Blk y4 ga (cb pa) 23) := hs.blk
         replace HB : Hid (Blk y4 gb (cb zb32) 23) := HB.out.only hs.only (fun e => HNAB.out e.symm)
         replace HAB : Hid (Below y1.heap.size y1 y4) := HAB.out.trans (hs.only.below HGA.out HAB.out.size)
         clear hs)
      | (clear tkd; with_reducible refine wpSeq_storeD (.tmp 10) (.tmp 25) gb zb32 pb ?_ ?_ ?_ ?_ ?_ ?_ ?_ ?_
         · rfl
         · exact HPBL.out
         · exact HB.out
         · rfl
         · rfl
         · rfl
         · rfl
         intro y5 hs
         replace HA : Hid (Blk y5 ga (cb pa) 23) := HA.out.only hs.only HNAB.out
         replace HB : Hid (Blk y5 gb (cb pb) 23) := hs.blk
         replace HAB : Hid (Below y1.heap.size y1 y5) := HAB.out.trans (hs.only.below HGB.out HAB.out.size)
         replace HRO : Hid (RoI w gO lo W y5) := HRO.out.next HAB.out
         replace HSB : Hid (Blk y5 gS [.slice (some ⟨bs, offs, none⟩) 16384 cps] 28) := HSB.out.below HAB.out HSB.out.lt
         clear hs HAB HGA HGB))
      clear HC2
      cases o with
      | true =>
        have HS2 : Hid (openF (bt d) sig (pre ++ [z]) = lo ++ pb ++ pd) := by show _ = _; rw [HSN.out, List.append_assoc]; rfl
        clear HSN
        gi_wp2
        refine wpIn_round_held (S := fun W => Blk W ga (cb pa) 23 ∧ Blk W gb (cb pb) 23) (by kernel_rfl) (by kernel_rfl) (by rintro ⟨_, _, h⟩; exact h) ⟨HA.out.drew, HB.out.drew⟩ ?_
        intro hS
        replace HRO : Hid (RoI w gO lo W (World.drew y5)) := HRO.out.drew
        replace HSB : Hid (Blk (World.drew y5) gS [.slice (some ⟨bs, offs, none⟩) 16384 cps] 28) := HSB.out.drew
        clear HA HB
        change wpAnyH _ _ _ _ _ _ _ _ (World.drew y5)
        generalize World.drew y5 = q at *
        obtain ⟨v, hv, ho⟩ := HRO.out.out
        obtain ⟨aq, cq, hf1⟩ := ho.form
        obtain ⟨nq, HNQ⟩ : ∃ n, Hid (n = lo.length) := ⟨_, rfl⟩
        rw [← HNQ.out] at hf1
        subst hf1
        have hcq : q.cell? ⟨gO, 0, none⟩ = some (.slice aq nq cq) := hv.cell 0
        try simp only [Act.put, List.setIfInBounds_toArray, List.set_cons_zero, List.set_cons_succ]
        refine wpAnyH_take (i := 1) (v := .agg (cb pb).toArray) rfl (by kernel_rfl) (by kernel_rfl) (by kernel_rfl) (fun _ _ _ h => h) (Or.inl ⟨by rfl, fun wx hx => by exact loadDigest _ gb pb HPBL.out hx.2 rfl rfl⟩) hS ?_
        simp only [Act.put, List.getElem_toArray, List.getElem_cons_succ, List.getElem_cons_zero, List.setIfInBounds_toArray, List.set_cons_zero, List.set_cons_succ]
        refine wpAnyH_take (i := 2) (v := .slice (some ⟨ga, 0, none⟩) 32 32) rfl (by kernel_rfl) (by kernel_rfl) (by kernel_rfl) (fun _ _ _ h => h) (Or.inl ⟨by rfl, fun wx hx => by simp [execOp, Act.eval, slice_dig]⟩) hS ?_
        simp only [Act.put, List.getElem_toArray, List.getElem_cons_succ, List.getElem_cons_zero, List.setIfInBounds_toArray, List.set_cons_zero, List.set_cons_succ]
        refine wpAnyH_readC 0 3 (.slice aq nq cq) (f := 75) (args := #[.slice (some ⟨ga, 0, none⟩) 32 32]) (by kernel_rfl) rfl rfl (by rfl) (by rfl) (fun _ => by rfl) (by rfl) (by simp [go_sem, hcq]) (by simp [go_sem]) (by simp [go_sem]) (HC1.out _ _ pa HRO.out.bel HPAL.out (hS.1.reads HPAL.out.symm (by rw [HPAL.out]; exact Nat.le_refl _))) (by kernel_rfl) (by kernel_rfl) (fun _ => by rfl) (by rfl) hS ?_
        rintro e y6 ⟨rfl, hbq⟩
        rw [← HPD.out]
        clear hcq
        replace HRO : Hid (RoI w gO lo W y6) := HRO.out.next hbq
        replace hS : Blk y6 ga (cb pa) 23 ∧ Blk y6 gb (cb pb) 23 := ⟨hS.1.below hbq hS.1.lt, hS.2.below hbq hS.2.lt⟩
        replace ho : OwnB y6 w.heap.size (.slice aq nq cq) lo := ho.below hbq (Nat.le_refl _)
        replace hv : Blk y6 gO [.slice aq nq cq] 28 := hv.below hbq hv.lt
        have hcy6 : y6.cell? ⟨gO, 0, none⟩ = some (.slice aq nq cq) := hv.cell 0
        replace HSB : Hid (Blk y6 gS [.slice (some ⟨bs, offs, none⟩) 16384 cps] 28) := HSB.out.below hbq HSB.out.lt
        clear hbq
        refine ⟨_, rfl, hS, by simp [go_sem, hcy6], ?_⟩
        simp only [Act.put, List.getElem_toArray, List.getElem_cons_succ, List.getElem_cons_zero, List.setIfInBounds_toArray, List.set_cons_zero, List.set_cons_succ]
        refine wpAnyH_enter 4 (by kernel_rfl) rfl (by rfl) (f := 104) (args := #[.slice aq nq cq, .agg (cb pb).toArray, .agg (cb pd).toArray]) (by simp [go_sem]) (lPut_any (.slice aq nq cq) lo pb pd w.heap.size y6 HRO.out.bel.size ho HPBL.out HPDL.out (by have := HLL.out; omega)) ?_
        rintro e y7 ⟨v9, rfl, ho9, hk9⟩
        obtain ⟨a9, c9, hv9⟩ := ho9.form
        obtain ⟨n9, HN9⟩ : ∃ n, Hid (n = (lo ++ pb ++ pd).length) := ⟨_, rfl⟩
        rw [← HN9.out] at hv9
        subst hv9
        have hb3 : Blk y7 gO [.slice aq nq cq] 28 := hk9.blk _ _ _ (by decide) hv
        have hc3 : y7.cell? ⟨gO, 0, none⟩ = some (.slice aq nq cq) := hb3.cell 0
        have hf3 : y7.frozen? ⟨gO, 0, none⟩ = false := hb3.frozen 0
        have hro := HRO.out.kept HGO.out hv hk9 ho9
        have hS2 : Blk (y7.setCell ⟨gO, 0, none⟩ (.slice a9 n9 c9)) ga (cb pa) 23 ∧ Blk (y7.setCell ⟨gO, 0, none⟩ (.slice a9 n9 c9)) gb (cb pb) 23 := ⟨hk9.boxed hS.1 (by decide) (blk_ne hS.1 hv (by decide)), hk9.boxed hS.2 (by decide) (blk_ne hS.2 hv (by decide))⟩
        have hsb : Blk (y7.setCell ⟨gO, 0, none⟩ (.slice a9 n9 c9)) gS [.slice (some ⟨bs, offs, none⟩) 16384 cps] 28 := hk9.boxed HSB.out (by decide) HNE.out
        refine ⟨_, rfl, ⟨hk9.blk _ _ _ (by decide) hS.1, hk9.blk _ _ _ (by decide) hS.2⟩, ?_⟩
        simp only [Act.put, List.getElem_toArray, List.getElem_cons_succ, List.getElem_cons_zero, List.setIfInBounds_toArray, List.set_cons_zero, List.set_cons_succ]
        refine wpAnyH_skip 5 (y7.setCell ⟨gO, 0, none⟩ (.slice a9 n9 c9)) (by kernel_rfl) rfl (by rfl) (by simp [go_sem, hc3, hf3]) hS2 ?_
        simp only [Act.put, List.getElem_toArray, List.getElem_cons_succ, List.getElem_cons_zero]
        refine wpAnyH_done (by kernel_rfl) ?_ _
        gi_wp2
        exact ⟨hro.kp, trivial, by rw [HS2.out]; exact hro.out, hsb, hro.bel⟩
      | false =>
        have HS2 : Hid (openF (bt d) sig (pre ++ [z]) = lo ++ pd ++ pb) := by show _ = _; rw [HSN.out, List.append_assoc]; rfl
        clear HSN
        gi_wp2
        refine wpIn_round_held (S := fun W => Blk W ga (cb pa) 23 ∧ Blk W gb (cb pb) 23) (by kernel_rfl) (by kernel_rfl) (by rintro ⟨_, _, h⟩; exact h) ⟨HA.out.drew, HB.out.drew⟩ ?_
        intro hS
        replace HRO : Hid (RoI w gO lo W (World.drew y5)) := HRO.out.drew
        replace HSB : Hid (Blk (World.drew y5) gS [.slice (some ⟨bs, offs, none⟩) 16384 cps] 28) := HSB.out.drew
        clear HA HB
        change wpAnyH _ _ _ _ _ _ _ _ (World.drew y5)
        generalize World.drew y5 = q at *
        obtain ⟨v, hv, ho⟩ := HRO.out.out
        obtain ⟨aq, cq, hf1⟩ := ho.form
        obtain ⟨nq, HNQ⟩ : ∃ n, Hid (n = lo.length) := ⟨_, rfl⟩
        rw [← HNQ.out] at hf1
        subst hf1
        have hcq : q.cell? ⟨gO, 0, none⟩ = some (.slice aq nq cq) := hv.cell 0
        try simp only [Act.put, List.setIfInBounds_toArray, List.set_cons_zero, List.set_cons_succ]
        refine wpAnyH_take (i := 1) (v := .slice (some ⟨ga, 0, none⟩) 32 32) rfl (by kernel_rfl) (by kernel_rfl) (by kernel_rfl) (fun _ _ _ h => h) (Or.inl ⟨by rfl, fun wx hx => by simp [execOp, Act.eval, slice_dig]⟩) hS ?_
        simp only [Act.put, List.getElem_toArray, List.getElem_cons_succ, List.getElem_cons_zero, List.setIfInBounds_toArray, List.set_cons_zero, List.set_cons_succ]
        refine wpAnyH_take (i := 3) (v := .agg (cb pb).toArray) rfl (by kernel_rfl) (by kernel_rfl) (by kernel_rfl) (fun _ _ _ h => h) (Or.inl ⟨by rfl, fun wx hx => by exact loadDigest _ gb pb HPBL.out hx.2 rfl rfl⟩) hS ?_
        simp only [Act.put, List.getElem_toArray, List.getElem_cons_succ, List.getElem_cons_zero, List.setIfInBounds_toArray, List.set_cons_zero, List.set_cons_succ]
        refine wpAnyH_readC 0 2 (.slice aq nq cq) (f := 75) (args := #[.slice (some ⟨ga, 0, none⟩) 32 32]) (by kernel_rfl) rfl rfl (by rfl) (by rfl) (fun _ => by rfl) (by rfl) (by simp [go_sem, hcq]) (by simp [go_sem]) (by simp [go_sem]) (HC1.out _ _ pa HRO.out.bel HPAL.out (hS.1.reads HPAL.out.symm (by rw [HPAL.out]; exact Nat.le_refl _))) (by kernel_rfl) (by kernel_rfl) (fun _ => by rfl) (by rfl) hS ?_
        rintro e y6 ⟨rfl, hbq⟩
        rw [← HPD.out]
        clear hcq
        replace HRO : Hid (RoI w gO lo W y6) := HRO.out.next hbq
        replace hS : Blk y6 ga (cb pa) 23 ∧ Blk y6 gb (cb pb) 23 := ⟨hS.1.below hbq hS.1.lt, hS.2.below hbq hS.2.lt⟩
        replace ho : OwnB y6 w.heap.size (.slice aq nq cq) lo := ho.below hbq (Nat.le_refl _)
        replace hv : Blk y6 gO [.slice aq nq cq] 28 := hv.below hbq hv.lt
        have hcy6 : y6.cell? ⟨gO, 0, none⟩ = some (.slice aq nq cq) := hv.cell 0
        replace HSB : Hid (Blk y6 gS [.slice (some ⟨bs, offs, none⟩) 16384 cps] 28) := HSB.out.below hbq HSB.out.lt
        clear hbq
        refine ⟨_, rfl, hS, by simp [go_sem, hcy6], ?_⟩
        simp only [Act.put, List.getElem_toArray, List.getElem_cons_succ, List.getElem_cons_zero, List.setIfInBounds_toArray, List.set_cons_zero, List.set_cons_succ]
        refine wpAnyH_enter 4 (by kernel_rfl) rfl (by rfl) (f := 104) (args := #[.slice aq nq cq, .agg (cb pd).toArray, .agg (cb pb).toArray]) (by simp [go_sem]) (lPut_any (.slice aq nq cq) lo pd pb w.heap.size y6 HRO.out.bel.size ho HPDL.out HPBL.out (by have := HLL.out; omega)) ?_
        rintro e y7 ⟨v9, rfl, ho9, hk9⟩
        obtain ⟨a9, c9, hv9⟩ := ho9.form
        obtain ⟨n9, HN9⟩ : ∃ n, Hid (n = (lo ++ pd ++ pb).length) := ⟨_, rfl⟩
        rw [← HN9.out] at hv9
        subst hv9
        have hb3 : Blk y7 gO [.slice aq nq cq] 28 := hk9.blk _ _ _ (by decide) hv
        have hc3 : y7.cell? ⟨gO, 0, none⟩ = some (.slice aq nq cq) := hb3.cell 0
        have hf3 : y7.frozen? ⟨gO, 0, none⟩ = false := hb3.frozen 0
        have hro := HRO.out.kept HGO.out hv hk9 ho9
        have hS2 : Blk (y7.setCell ⟨gO, 0, none⟩ (.slice a9 n9 c9)) ga (cb pa) 23 ∧ Blk (y7.setCell ⟨gO, 0, none⟩ (.slice a9 n9 c9)) gb (cb pb) 23 := ⟨hk9.boxed hS.1 (by decide) (blk_ne hS.1 hv (by decide)), hk9.boxed hS.2 (by decide) (blk_ne hS.2 hv (by decide))⟩
        have hsb : Blk (y7.setCell ⟨gO, 0, none⟩ (.slice a9 n9 c9)) gS [.slice (some ⟨bs, offs, none⟩) 16384 cps] 28 := hk9.boxed HSB.out (by decide) HNE.out
        refine ⟨_, rfl, ⟨hk9.blk _ _ _ (by decide) hS.1, hk9.blk _ _ _ (by decide) hS.2⟩, ?_⟩
        simp only [Act.put, List.getElem_toArray, List.getElem_cons_succ, List.getElem_cons_zero, List.setIfInBounds_toArray, List.set_cons_zero, List.set_cons_succ]
        refine wpAnyH_skip 5 (y7.setCell ⟨gO, 0, none⟩ (.slice a9 n9 c9)) (by kernel_rfl) rfl (by rfl) (by simp [go_sem, hc3, hf3]) hS2 ?_
        simp only [Act.put, List.getElem_toArray, List.getElem_cons_succ, List.getElem_cons_zero]
        refine wpAnyH_done (by kernel_rfl) ?_ _
        exact ⟨hro.kp, trivial, by rw [HS2.out]; exact hro.out, hsb, hro.bel⟩
    case done =>
      rintro D ys W hD rfl ⟨hO, hX, hB⟩ hK
      rw [openF_path (bt d) sig 256 (Nat.le_refl _)] at hO
      obtain ⟨v, hv, ho⟩ := hO
      have HD : Hid (w.heap.size ≤ D) := Nat.le_trans HBW.out.size hD
      have HOW : Hid (OwnB W w.heap.size v (openR (bt d) sig 256)) := ho
      have HB : Hid (Below w.heap.size w W) := hB
      have HKD : Hid (W.heap[D]? = some (.deferred (some []))) := hK
      have cv : W.cell? ⟨gO, 0, none⟩ = some v := hv.cell 0
      clear hX hB hK hD hv ho HSB HO H3 HBW
      gi_wp2
      go_wp2
      refine noGoto_ret ?_
      refine ⟨by simp, .inl ⟨_, _, rfl, run_takeDeferred HKD.out, ?_⟩⟩
      refine ⟨.tuple #[v, .int .i64 0], ?_, v, by rw [HL.out.2], by rw [HL.out.1]; exact (HOW.out.kept (grownBy_putObj' _ D _) (fun r e => by cases e; exact ⟨_, HKD.out, rfl⟩)).reads, HB.out.trans (belowK_b (w := w) (Nat.le_refl _) _ D _ _ HD.out HKD.out rfl rfl)⟩
      simp [results, Tryd.f91, go_sem]
    case stop =>
      rintro D c pre W _ _ hX _
      exact hX.elim
  · have HL : Hid (openL b sig = [] ∧ openE sig = 15) := by show _ ∧ _; rw [openL, openE, if_neg h16, if_neg h16]; exact ⟨rfl, rfl⟩
    obtain ⟨ads, cps, hvs, _⟩ := id hs
    obtain ⟨n, HNL⟩ : ∃ n, Hid (n = sig.length) := ⟨_, rfl⟩
    rw [← HNL.out] at hvs h16
    have hne : ((n : Int) == 16384) = false := by rw [beq_eq_false_iff_ne]; omega
    subst hvb hvs
    clear hb hs hl
    go_enter Tryd.func91, Tryd.ntmps91
    go_wp2_with (first
    | (with_reducible refine wpSeq_boxS (.tmp 1) ads n cps ?_ ?_ ?_ ?_
       · rfl
       · rfl
       · rfl
       intro gS w1 nn
       have csb : w1.cell? ⟨gS, 0, none⟩ = some (.slice ads n cps) := nn.blk.cell 0
       have HBW : Hid (Below w.heap.size w w1) := nn.below
       clear nn))
    refine wp_scope_straight ?_
    go_wp2
    refine noGoto_ret ?_
    refine bodyPost_ret (results_tmp2 rfl _ _ _) rfl ?_
    exact ⟨_, by rw [HL.out.2]; rfl, by rw [HL.out.1]; exact ⟨Option.none, 0, rfl, Nat.le_refl _, fun _ => rfl, fun h => by cases h⟩, HBW.out⟩
end Go.Proofs.YtableajopaappaaDoor
/- The walk of lamport's Check; all that lamport does (layer 10). -/
namespace Go.Proofs.YtableajopaappaaDoor
open Go.RowKit Go.Shelf
set_option maxRecDepth 100000
set_option maxRecDepth 100000 in
set_option maxHeartbeats 8000000 in
theorem lCheck_any (p : List (BitVec 8)) (vb vs : Value) (b sig : List (BitVec 8)) (w : World) (hK : KOk w) (hp : p.length = 32) (hb : Reads w vb b) (hs : Reads w vs sig) (hl : b.length < 140737488350000) :
    Calls Tryd.prog 74 #[.agg (cb p).toArray, vb, vs] w fun e w' => e = .returned (.int .i64 (checkE p b sig)) ∧ Below w.heap.size w w' := by
  obtain ⟨ab, cbb, hvb, hq1⟩ := id hb
  obtain ⟨ads, cps, hvs, hq2⟩ := id hs
  clear hq1 hq2
  obtain ⟨nb, HNB⟩ : ∃ n, Hid (n = b.length) := ⟨_, rfl⟩
  obtain ⟨ns, HNS⟩ : ∃ n, Hid (n = sig.length) := ⟨_, rfl⟩
  rw [← HNB.out] at hvb
  rw [← HNS.out] at hvs
  have HPL : Hid (p.length = 32) := hp
  have HC1 : Hid (∀ W : World, Below w.heap.size w W → Calls Tryd.prog 91 #[vb, vs] W (OpenA W b sig)) := fun W hh => lOpened_any vb vs b sig W (hK.below hh hK.lt) (hb.below hh) (hs.below hh) hl
  have HKK : Hid (∀ W : World, Below w.heap.size w W → KOk W) := fun W hh => hK.below hh hK.lt
  subst hvb hvs
  clear hb hs hl hp hK
  by_cases h16 : sig.length = 16384
  · obtain ⟨t, HT⟩ : ∃ t, Hid (t = openR (bt (dig b)) sig 256) := ⟨_, rfl⟩
    have HTL : Hid (t.length = 16385) := by show _ = _; rw [HT.out, len_openR _ (by omega)]
    have HOL : Hid (openL b sig = t ∧ openE sig = 0) := by show _ ∧ _; rw [openL, openE, if_pos h16, if_pos h16, HT.out]; exact ⟨rfl, rfl⟩
    obtain ⟨r, HRD⟩ : ∃ r, Hid (r = dig t) := ⟨_, rfl⟩
    have HRL : Hid (r.length = 32) := by show _ = _; rw [HRD.out]; exact len_dig' _
    have HCK : Hid (checkE p b sig = if r = p then 0 else 15) := by show _ = _; unfold checkE; rw [← HT.out, ← HRD.out]; simp [h16]
    have HC2 : Hid (∀ (W : World) (v : Value), Below w.heap.size w W → Reads W v t → Calls Tryd.prog 75 #[v] W fun e w' => e = .returned (.agg (cb r).toArray) ∧ Below W.heap.size W w') := fun W v hh hv => by rw [HRD.out]; exact tOf_any v t W (HKK.out W hh) hv (by rw [HTL.out]; omega)
    have heq : ∀ wx : World, (Op.equalIn 10000 23 (.agg (cb r).toArray) (.agg (cb p).toArray)).run Tryd.prog wx = .ok (decide (r = p)) wx := fun wx => eq_dig r p HRL.out HPL.out wx
    obtain ⟨o, HO⟩ : ∃ o, Hid (o = decide (r = p)) := ⟨_, rfl⟩
    rw [← HO.out] at heq
    have HCK2 : Hid (checkE p b sig = if o then 0 else 15) := by
      show _ = _
      rw [HCK.out, HO.out]
      by_cases e : r = p
      · rw [if_pos e, decide_eq_true e]; rfl
      · rw [if_neg e, decide_eq_false e]; rfl
    rw [HCK2.out]
    clear h16 HT HRD HCK HO HCK2
    go_enter Tryd.func74, Tryd.ntmps74
    go_wp2_with (first
      | (with_reducible refine wpSeq_boxD (.tmp 0) p ?_ ?_ ?_ ?_
         · rfl
         · rfl
         · rfl
         intro gp w1 nn
         have HB1 : Hid (Below w.heap.size w w1) := nn.below
         have HGP : Hid (Blk w1 gp (cb p) 23) := nn.blk
         clear nn)
      | (go_at_call 91; refine (HC1.out _ HB1.out).mono ?_; rintro e w2 ⟨v, rfl, hv, hb2⟩
         rw [HOL.out.1] at hv
         have HV : Hid (Reads w2 v t) := hv
         replace HGP : Hid (Blk w2 gp (cb p) 23) := HGP.out.below hb2 HGP.out.lt
         replace HB1 : Hid (Below w.heap.size w w2) := HB1.out.trans (hb2.mono HB1.out.size)
         rw [HOL.out.2]
         clear hv hb2))
    have HYB : Hid (Below w.heap.size w (World.drew w2)) := HB1.out.drew
    replace HGP : Hid (Blk (World.drew w2) gp (cb p) 23) := HGP.out.drew
    replace HV : Hid (Reads (World.drew w2) v t) := reads_drew HV.out
    clear HB1
    refine wp_region_held_drew (S := Over (World.drew w2)) (by kernel_rfl) (Over.refl _) ?_
    intro hS
    change wpAnyH _ _ _ _ _ _ _ _ (World.drew w2)
    generalize World.drew w2 = y0 at *
    try simp only [Act.put, List.setIfInBounds_toArray, List.set_cons_zero, List.set_cons_succ]
    refine wpAnyH_take (i := 0) (v := v) rfl (by kernel_rfl) (by kernel_rfl) (by kernel_rfl) (fun _ _ _ h => h) (Or.inl ⟨by rfl, fun wx hx => by simp [go_sem]⟩) hS ?_
    simp only [Act.put, List.getElem_toArray, List.getElem_cons_zero, List.setIfInBounds_toArray, List.set_cons_zero, List.set_cons_succ]
    refine wpAnyH_take (i := 2) (v := .agg (cb p).toArray) rfl (by kernel_rfl) (by kernel_rfl) (by kernel_rfl) (fun _ _ _ h => h) (Or.inl ⟨by rfl, fun wx hx => by exact loadDigest _ gp p HPL.out (HGP.out.below hx HGP.out.lt) rfl rfl⟩) hS ?_
    simp only [Act.put, List.getElem_toArray, List.getElem_cons_succ, List.getElem_cons_zero, List.setIfInBounds_toArray, List.set_cons_zero, List.set_cons_succ]
    refine wpAnyH_enter 1 (by kernel_rfl) rfl (by rfl) (f := 75) (args := #[v]) (by simp [go_sem]) (HC2.out _ v (HYB.out.trans (Below.mono hS HYB.out.size)) (HV.out.below hS)) ?_
    rintro e y1 ⟨rfl, hbq⟩
    replace hS := Over.more hS hbq
    refine ⟨_, rfl, hS, ?_⟩
    clear hbq
    simp only [Act.put, List.getElem_toArray, List.getElem_cons_succ, List.getElem_cons_zero, List.setIfInBounds_toArray, List.set_cons_zero, List.set_cons_succ]
    refine wpAnyH_take (i := 3) (v := .bool (!o)) rfl (by kernel_rfl) (by kernel_rfl) (by kernel_rfl) (fun _ _ _ h => h) (Or.inl ⟨by rfl, fun wx hx => by simp [go_sem, heq]⟩) hS ?_
    simp only [Act.put, List.getElem_toArray, List.getElem_cons_succ, List.getElem_cons_zero, List.setIfInBounds_toArray, List.set_cons_zero, List.set_cons_succ]
    refine wpAnyH_done (by kernel_rfl) ?_ _
    have HBW : Hid (Below w.heap.size w y1) := HYB.out.trans (Below.mono hS HYB.out.size)
    clear hS HV HGP HYB
    cases o with
    | true =>
      simp only [Bool.not_true]
      go_wp2
      go_ret
      exact ⟨rfl, HBW.out⟩
    | false =>
      simp only [Bool.not_false]
      go_wp2
      go_ret
      exact ⟨rfl, HBW.out⟩
  · have HOL : Hid (openL b sig = [] ∧ openE sig = 15) := by show _ ∧ _; rw [openL, openE, if_neg h16, if_neg h16]; exact ⟨rfl, rfl⟩
    have HCK : Hid (checkE p b sig = 15) := by show _ = _; unfold checkE; rw [if_neg (fun h => h16 h.1)]
    rw [HCK.out]
    clear h16 HCK
    go_enter Tryd.func74, Tryd.ntmps74
    go_wp2_with (first
      | (with_reducible refine wpSeq_boxD (.tmp 0) p ?_ ?_ ?_ ?_
         · rfl
         · rfl
         · rfl
         intro gp w1 nn
         have HB1 : Hid (Below w.heap.size w w1) := nn.below
         clear nn)
      | (go_at_call 91; refine (HC1.out _ HB1.out).mono ?_; rintro e w2 ⟨v, rfl, hv, hb2⟩
         replace HB1 : Hid (Below w.heap.size w w2) := HB1.out.trans (hb2.mono HB1.out.size)
         rw [HOL.out.2]
         clear hv hb2))
    go_ret
    exact ⟨rfl, HB1.out⟩
end Go.Proofs.YtableajopaappaaDoor
/- Heads, roots and signed roots that are made, loaded and stored whole (layer 11). -/
namespace Go.Proofs.YtableajopaappaaDoor
open Go.RowKit
set_option maxRecDepth 100000
theorem fold_set (off : Nat) : ∀ (vs B A C : List Value) (k : Nat), A.length = off + k → B.length = vs.length → (vs.zipIdx k).foldl (fun (cs : Array Value) (p : Value × Nat) => cs.setIfInBounds (off + p.2) p.1) (A ++ (B ++ C)).toArray = (A ++ (vs ++ C)).toArray
  | [], B, A, C, k, _, hB => by
    obtain rfl : B = [] := List.length_eq_zero_iff.1 hB
    rfl
  | v :: vs, [], A, C, k, _, hB => by simp at hB
  | v :: vs, b :: B, A, C, k, hA, hB => by
    rw [List.zipIdx_cons, List.foldl_cons]
    have e : (A ++ (b :: B ++ C)).toArray.setIfInBounds (off + k) v = ((A ++ [v]) ++ (B ++ C)).toArray := by
      rw [List.setIfInBounds_toArray, ← hA]
      congr 1
      rw [List.set_append_right _ _ (Nat.le_refl _), Nat.sub_self]
      simp
    rw [e, fold_set off vs B (A ++ [v]) C (k + 1) (by rw [List.length_append, hA]; rfl) (by simpa using hB)]
    simp
theorem fill_seg {place : Nat → Option (Nat × Nat)} {A B C vs : List Value} {i off size : Nat} {rest : List (Nat × Value)} {v : Value} (hp : place i = some (off, size)) (hA : A.length = off) (hB : B.length = size) (hv : v.cells = vs.toArray) (hvl : vs.length = size) :
    Instr.fill place (A ++ (B ++ C)).toArray ((i, v) :: rest) = Instr.fill place (A ++ (vs ++ C)).toArray rest := by
  have h1 : v.cells.size = size := by rw [hv, List.size_toArray, hvl]
  have h2 : (A ++ (B ++ C)).toArray.size = off + size + C.length := by simp [hA, hB]; omega
  rw [Instr.fill, hp]
  simp only [h1, h2]
  rw [if_neg (by simp)]
  congr 1
  rw [hv, ← fold_set off vs B A C 0 (by omega) (by omega), ← Array.foldl_toList, Array.toList_zipIdx]
def hdPl (i : Nat) : Option (Nat × Nat) := (#[(0, 1), (1, 32), (33, 32)] : Array (Nat × Nat))[i]?
theorem built_head (parts : List (Nat × Value)) : Tryd.prog.built 50 parts = Instr.fill hdPl (hdC zeroH).toArray parts := by kernel_rfl
theorem len_zb : (cb zb32).length = 32 := by rw [cb_len]; rfl
theorem fill_hd {n : Nat} {x y : List (BitVec 8)} (hx : x.length = 32) (hy : y.length = 32) : Instr.fill hdPl (hdC zeroH).toArray [(0, .int .u64 (n : Int)), (1, .agg (cb x).toArray), (2, .agg (cb y).toArray)] = some (hdC (n, x, y)).toArray := by
  have e0 : hdC zeroH = [] ++ ([Value.int .u64 0] ++ (cb zb32 ++ cb zb32)) := rfl
  rw [e0, fill_seg (vs := [.int .u64 (n : Int)]) (size := 1) (by rfl) rfl rfl rfl rfl]
  rw [List.nil_append, fill_seg (A := [.int .u64 (n : Int)]) (vs := cb x) (off := 1) (size := 32) (by rfl) rfl len_zb rfl (by rw [cb_len, hx])]
  have e1 : [Value.int .u64 (n : Int)] ++ (cb x ++ cb zb32) = ([Value.int .u64 (n : Int)] ++ cb x) ++ (cb zb32 ++ []) := by simp
  rw [e1, fill_seg (vs := cb y) (off := 33) (size := 32) (by rfl) (by rw [List.length_append, cb_len, hx]; rfl) len_zb rfl (by rw [cb_len, hy])]
  rw [Instr.fill]
  simp [hdC]
theorem fill_hk {y : List (BitVec 8)} (hy : y.length = 32) : Instr.fill hdPl (hdC zeroH).toArray [(2, .agg (cb y).toArray)] = some (hdC (0, zb32, y)).toArray := by
  have e1 : hdC zeroH = ([Value.int .u64 0] ++ cb zb32) ++ (cb zb32 ++ []) := by rw [List.append_nil]; rfl
  rw [e1, fill_seg (vs := cb y) (off := 33) (size := 32) (by rfl) (by rw [List.length_append, len_zb]; rfl) len_zb rfl (by rw [cb_len, hy])]
  rw [Instr.fill]
  simp [hdC]
/-- a literal's value, out of what it is built of -/
theorem build_op (f : Operand → Value) (o : Oper) (t : TypeId) (ps : List (Nat × Operand)) (ho : o.op = .build t ps.toArray) (cells : Array Value) (h : Tryd.prog.built t (ps.map fun p => (p.1, f p.2)) = some cells) (w : World) : (execOp f o).run Tryd.prog w = .ok (.value (.agg cells)) w := by
  unfold execOp
  rw [ho]
  have hm : (ps.toArray.map fun (p : Nat × Operand) => (p.1, f p.2)) = (ps.map fun p => (p.1, f p.2)).toArray := by simp
  have hr := run_build (P := Tryd.prog) w t (ps.map fun p => (p.1, f p.2)).toArray cells (by simpa using h)
  simp only [hm, Sem.run_bind, hr, Result.andThen_ok, Sem.run_pure]
theorem wpSeq_build {ops : Array Oper} {Q : Exit → Act → World → Prop} {rest : List Oper} {o : Oper} {a : Act} {w : World} (t : TypeId) (ps : List (Nat × Operand)) (cells : List Value) (h1 : Tryd.prog.built t (ps.map fun p => (p.1, a.eval p.2)) = some cells.toArray) (ho : o.op = .build t ps.toArray) (hw : Region.wanted o (yielded ops a.tmps) = true)
    (h : wpList Tryd.prog ops Q rest (a.put o.dst (.agg cells.toArray)) w) : wpList Tryd.prog ops Q (o :: rest) a w :=
  wpSeq_val _ _ hw (build_op a.eval o t ps ho cells.toArray h1 w) h
theorem alloc_hd (f : Operand → Value) (o : Oper) (ho : o.op = .alloc 50) (w : World) : (execOp f o).run Tryd.prog w = .ok (.value (.pointer (some ⟨w.heap.size, 0, none⟩))) (w.alloc (.cells (hdC zeroH).toArray 50)) := by
  unfold execOp
  rw [ho]
  kernel_rfl
theorem alloc_sg (f : Operand → Value) (o : Oper) (ho : o.op = .alloc 30) (w : World) : (execOp f o).run Tryd.prog w = .ok (.value (.pointer (some ⟨w.heap.size, 0, none⟩))) (w.alloc (.cells (sgC zeroS (.slice none 0 0)).toArray 30)) := by
  unfold execOp
  rw [ho]
  kernel_rfl
/-- a new block -/
structure NewR (cs : List Value) (t : TypeId) (w : World) (g : Nat) (w' : World) : Prop where
  ge : w.heap.size ≤ g
  blk : Blk w' g cs t
  below : Below w.heap.size w w'
theorem NewR.of (cs : List Value) (t : TypeId) (w : World) : NewR cs t w w.heap.size (w.alloc (.cells cs.toArray t)) := ⟨Nat.le_refl _, Blk.new w cs t, below_alloc w _⟩
theorem wpSeq_allocH {ops : Array Oper} {Q : Exit → Act → World → Prop} {rest : List Oper} {o : Oper} {a : Act} {w : World} (ho : o.op = .alloc 50) (hw : Region.wanted o (yielded ops a.tmps) = true)
    (h : ∀ g w', NewR (hdC zeroH) 50 w g w' → wpList Tryd.prog ops Q rest (a.put o.dst (.pointer (some ⟨g, 0, none⟩))) w') : wpList Tryd.prog ops Q (o :: rest) a w :=
  wpSeq_val _ _ hw (alloc_hd _ _ ho _) (h _ _ (NewR.of _ _ w))
theorem wpSeq_allocS {ops : Array Oper} {Q : Exit → Act → World → Prop} {rest : List Oper} {o : Oper} {a : Act} {w : World} (ho : o.op = .alloc 30) (hw : Region.wanted o (yielded ops a.tmps) = true)
    (h : ∀ g w', NewR (sgC zeroS (.slice none 0 0)) 30 w g w' → wpList Tryd.prog ops Q rest (a.put o.dst (.pointer (some ⟨g, 0, none⟩))) w') : wpList Tryd.prog ops Q (o :: rest) a w :=
  wpSeq_val _ _ hw (alloc_sg _ _ ho _) (h _ _ (NewR.of _ _ w))
theorem wpSeq_boxW {ops : Array Oper} {Q : Exit → Act → World → Prop} {rest : List Oper} {o : Oper} {a : Act} {w : World} (ty : TypeId) (x : Operand) (cs : List Value) (ho : o.op = .box ty x) (hx : a.eval x = .agg cs.toArray) (hw : Region.wanted o (yielded ops a.tmps) = true)
    (h : ∀ g w', NewR cs ty w g w' → wpList Tryd.prog ops Q rest (a.put o.dst (.pointer (some ⟨g, 0, none⟩))) w') : wpList Tryd.prog ops Q (o :: rest) a w :=
  wpSeq_box ty x ho cs hx hw _ rfl (h _ _ (NewR.of cs ty w))
/-- a row stored whole -/
structure SetR (cs : List Value) (t : TypeId) (w : World) (g : Nat) (w' : World) : Prop where
  blk : Blk w' g cs t
  only : Only g w w'
theorem SetR.of {cs ns : List Value} {t : TypeId} {w : World} {g : Nat} (hb : Blk w g cs t) (hl : ns.length = cs.length) : SetR ns t w g (w.setCells g 0 ns) := ⟨hb.whole ns hl, Only.setCells _ _ _ (Only.refl g w)⟩
theorem wpSeq_storeRow {ops : Array Oper} {Q : Exit → Act → World → Prop} {rest : List Oper} {o : Oper} {a : Act} {w : World} (ty : TypeId) (x y : Operand) (g : Nat) (cs ns : List Value) (hb : Blk w g cs ty) (hl : ns.length = cs.length) (hi : (Tryd.prog.info? ty).map (·.size) = some ns.length) (h1 : ∀ v ∈ ns, v.oneCell' = true)
    (ho : o.op = .store ty x y) (hx : a.eval x = .pointer (some ⟨g, 0, none⟩)) (hy : a.eval y = .agg ns.toArray) (hgd : o.guard = none)
    (h : ∀ w', SetR ns ty w g w' → wpList Tryd.prog ops Q rest (a.put o.dst undef) w') : wpList Tryd.prog ops Q (o :: rest) a w :=
  wpList_store_mid hgd ty x y ho g 0 _ hx hy (hb.there 0 _ (by rw [List.size_toArray, hl]; omega)) (by rw [List.size_toArray]; exact hi) (all_oneCell_toArray h1)
    (by rw [List.toList_toArray]; exact h _ (SetR.of hb hl))
theorem hdC_one (h : HdT) : ∀ v ∈ hdC h, v.oneCell' = true := by
  intro v hv
  simp only [hdC, List.mem_cons, List.mem_append] at hv
  rcases hv with rfl | hv | hv
  · rfl
  · exact cb_one _ v hv
  · exact cb_one _ v hv
theorem rtC_one (s : SgT) : ∀ v ∈ rtC s, v.oneCell' = true := by
  intro v hv
  simp only [rtC, List.mem_cons, List.mem_append] at hv
  rcases hv with rfl | hv | hv | hv
  · rfl
  · exact cb_one _ v hv
  · exact cb_one _ v hv
  · exact cb_one _ v hv
theorem sgC_one (s : SgT) (ad : Option Addr) (n c : Nat) : ∀ v ∈ sgC s (.slice ad n c), v.oneCell' = true := by
  intro v hv
  rw [sgC_eq, List.mem_append, List.mem_singleton] at hv
  rcases hv with hv | rfl
  · exact rtC_one s v hv
  · rfl
/-- a row loaded whole, from wherever it lies -/
theorem wpSeq_loadW {ops : Array Oper} {Q : Exit → Act → World → Prop} {rest : List Oper} {o : Oper} {a : Act} {w : World} (ty : TypeId) (x : Operand) (b off : Nat) (cs : List Value) (d : TypeDesc) (hb : w.rangeAt b off cs) (hu : Tryd.prog.underlying ty = some d) (hd : d.isRow = true) (hi : (Tryd.prog.info? ty).map (·.size) = some cs.length) (ho : o.op = .load ty x) (hx : a.eval x = .pointer (some ⟨b, off, none⟩)) (hw : Region.wanted o (yielded ops a.tmps) = true)
    (h : wpList Tryd.prog ops Q rest (a.put o.dst (.agg cs.toArray)) w) : wpList Tryd.prog ops Q (o :: rest) a w :=
  wpSeq_val _ _ hw (load_run ty x ho b off hx cs d hb hu hd hi) h
theorem wpAnyH_storeRow {md : Region.Mode} {ops : Array Oper} {Q : Exit → Act → World → Prop} {S : World → Prop} {fuel : Nat} {listed : Array Bool} {a : Act} {w : World} (i : Nat) {oi : Oper} (ty : TypeId) (x y : Operand) (g : Nat) (cs ns : List Value) (hb : Blk w g cs ty) (hl : ns.length = cs.length) (hi0 : (Tryd.prog.info? ty).map (·.size) = some ns.length) (h1 : ∀ v ∈ ns, v.oneCell' = true)
    (hr : Region.ready md ops listed = [i]) (hi : ops[i]? = some oi) (hw : Region.wanted oi (yielded ops a.tmps) = true) (ho : oi.op = .store ty x y) (hx : a.eval x = .pointer (some ⟨g, 0, none⟩)) (hy : a.eval y = .agg ns.toArray)
    (h : ∀ w', SetR ns ty w g w' → S w' ∧ wpAnyH Tryd.prog md ops Q S fuel (listed.setIfInBounds i true) (a.put oi.dst undef) w') : wpAnyH Tryd.prog md ops Q S (fuel + 1) listed a w :=
  wpAnyH_law i hr hi hw (wp_store_mid ty x y ho g 0 ns.toArray hx hy (hb.there 0 _ (by rw [List.size_toArray, hl]; omega)) (by rw [List.size_toArray]; exact hi0) (all_oneCell_toArray h1) (by rw [List.toList_toArray]; exact h _ (SetR.of hb hl)))
/-- what results of a row and of plain ones tell -/
theorem var_hd {w : World} {g : Nat} {h : HdT} (hb : Blk w g (hdC h) 50) (oh : okH h) : (loadVar 50 ⟨g, 0, none⟩).run Tryd.prog w = .ok (.agg (hdC h).toArray) w :=
  run_loadVar_row (P := Tryd.prog) w g 50 50 (hdC h).toArray (0, 0) _ hb Tryd.underlying50 rfl (by rw [List.size_toArray]; exact info_hdC oh)
theorem results_row_tmp {fn : Func} {p u : Tmp} {ty : TypeId} (h : fn.results = #[.cell p ty, .tmp u]) (tmps : Array Value) (w : World) (g : Nat) (v : Value) (hp : tmps.getD p undef = .pointer (some ⟨g, 0, none⟩)) (e1 : (loadVar ty ⟨g, 0, none⟩).run Tryd.prog w = .ok v w) :
    (results fn tmps).run Tryd.prog w = .ok (.tuple #[v, tmps.getD u undef]) w := by
  have hp' : tmps[p]?.getD undef = .pointer (some ⟨g, 0, none⟩) := by simpa using hp
  simp [results, h, hp', asAddr, e1]
theorem results_row_tmp2 {fn : Func} {p u x : Tmp} {ty : TypeId} (h : fn.results = #[.cell p ty, .tmp u, .tmp x]) (tmps : Array Value) (w : World) (g : Nat) (v : Value) (hp : tmps.getD p undef = .pointer (some ⟨g, 0, none⟩)) (e1 : (loadVar ty ⟨g, 0, none⟩).run Tryd.prog w = .ok v w) :
    (results fn tmps).run Tryd.prog w = .ok (.tuple #[v, tmps.getD u undef, tmps.getD x undef]) w := by
  have hp' : tmps[p]?.getD undef = .pointer (some ⟨g, 0, none⟩) := by simpa using hp
  simp [results, h, hp', asAddr, e1]
end Go.Proofs.YtableajopaappaaDoor

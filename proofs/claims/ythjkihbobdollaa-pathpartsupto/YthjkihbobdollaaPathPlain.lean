/- Plain: the bits of 32 bytes, the first one at which two of them part, and which of the two stands ahead. -/
import Derived.Test.YthjkihbobdollaaBase
import Derived.Lib.Bytealg
namespace Go.Proofs.Ythjkihbobdollaa
open Go.RowKit
/-- bit i of the bytes x, the highest of the first byte first -/
def bt (x : List (BitVec 8)) (i : Nat) : Bool := (x.getD (i / 8) 0).getMsbD (i % 8)
def isB (i : Int) : Bool := decide (0 ≤ i) && decide (i < 256)
def bitI (x : List (BitVec 8)) (i : Int) : Bool := isB i && bt x i.toNat
def mask (i : Nat) : BitVec 8 := 128#8 >>> (i % 8)
def setB (b : BitVec 8) (i : Nat) (on : Bool) : BitVec 8 := if on then b ||| mask i else b &&& ~~~(mask i)
def setN (x : List (BitVec 8)) (i : Nat) (on : Bool) : List (BitVec 8) := x.set (i / 8) (setB (x.getD (i / 8) 0) i on)
def setI (x : List (BitVec 8)) (i : Int) (on : Bool) : List (BitVec 8) := if isB i then setN x i.toNat on else x
theorem isB_iff (i : Int) : isB i = true ↔ 0 ≤ i ∧ i < 256 := by simp [isB]
theorem bitI_nat (x : List (BitVec 8)) (i : Nat) (h : i < 256) : bitI x (i : Int) = bt x i := by
  have : isB (i : Int) = true := (isB_iff _).2 ⟨by omega, by omega⟩
  simp [bitI, this]
theorem setI_nat (x : List (BitVec 8)) (i : Nat) (on : Bool) (h : i < 256) : setI x (i : Int) on = setN x i on := by
  have : isB (i : Int) = true := (isB_iff _).2 ⟨by omega, by omega⟩
  simp [setI, this]
theorem setN_len (x : List (BitVec 8)) (i : Nat) (on : Bool) : (setN x i on).length = x.length := by simp [setN]
theorem setI_len (x : List (BitVec 8)) (i : Int) (on : Bool) : (setI x i on).length = x.length := by unfold setI; split <;> simp [setN_len]
theorem mask_msb : ∀ k j : Fin 8, (128#8 >>> k.val).getMsbD j.val = decide (j = k) := by decide +kernel
theorem mask_and : ∀ (b : BitVec 8) (k : Fin 8), decide (b &&& (128#8 >>> k.val) = 0#8) = !b.getMsbD k.val := by decide +kernel
theorem mask_add : ∀ (b : BitVec 8) (k : Fin 8), b.getMsbD k.val = false → b + BitVec.ofNat 8 (2 ^ (7 - k.val)) = b ||| (128#8 >>> k.val) := by decide +kernel
theorem mask_sub : ∀ (b : BitVec 8) (k : Fin 8), b.getMsbD k.val = true → b - BitVec.ofNat 8 (2 ^ (7 - k.val)) = b &&& ~~~(128#8 >>> k.val) := by decide +kernel
theorem mask_on : ∀ (b : BitVec 8) (k : Fin 8), b.getMsbD k.val = true → b ||| (128#8 >>> k.val) = b := by decide +kernel
theorem mask_off : ∀ (b : BitVec 8) (k : Fin 8), b.getMsbD k.val = false → b &&& ~~~(128#8 >>> k.val) = b := by decide +kernel
theorem mask_div : ∀ (b : BitVec 8) (k : Fin 8), decide (b.toNat / 2 ^ (7 - k.val) % 2 = 1) = b.getMsbD k.val := by decide +kernel
theorem setB_msb (b : BitVec 8) (i : Nat) (on : Bool) (j : Nat) (hj : j < 8) : (setB b i on).getMsbD j = if j = i % 8 then on else b.getMsbD j := by
  have h := mask_msb ⟨i % 8, by omega⟩ ⟨j, hj⟩
  simp only [Fin.mk.injEq] at h
  unfold setB mask
  cases on
  · simp only [Bool.false_eq_true, if_false, BitVec.getMsbD_and, BitVec.getMsbD_not, h]
    by_cases e : j = i % 8 <;> simp [e, hj]
  · simp only [if_true, BitVec.getMsbD_or, h]
    by_cases e : j = i % 8 <;> simp [e]
theorem setB_same (b : BitVec 8) (i : Nat) (on : Bool) (h : b.getMsbD (i % 8) = on) : setB b i on = b := by
  unfold setB mask
  cases on
  · simpa using mask_off b ⟨i % 8, by omega⟩ h
  · simpa using mask_on b ⟨i % 8, by omega⟩ h
theorem bt_set (x : List (BitVec 8)) (hx : x.length = 32) (i j : Nat) (on : Bool) (hi : i < 256) (_ : j < 256) : bt (setN x i on) j = if j = i then on else bt x j := by
  unfold bt setN
  by_cases h : i / 8 = j / 8
  · rw [h, List.getD_eq_getElem?_getD, List.getElem?_set_self (by omega), Option.getD_some, setB_msb _ _ _ _ (by omega)]
    by_cases e : j = i
    · subst e; simp
    · rw [if_neg (by omega), if_neg e]
  · rw [List.getD_eq_getElem?_getD, List.getElem?_set_ne h, if_neg (by intro e; subst e; exact h rfl), List.getD_eq_getElem?_getD]
theorem setI_same (x : List (BitVec 8)) (hx : x.length = 32) (i : Int) (on : Bool) (h : isB i = true) (hb : bitI x i = on) : setI x i on = x := by
  have hi := (isB_iff i).1 h
  unfold setI
  rw [if_pos h]
  have hb2 : bt x i.toNat = on := by simpa [bitI, h] using hb
  unfold setN
  rw [setB_same _ _ _ hb2, List.getD_eq_getElem?_getD]
  apply List.ext_getElem?
  intro k
  by_cases e : i.toNat / 8 = k
  · subst e
    rw [List.getElem?_set_self (by omega), List.getElem?_eq_getElem (by omega), Option.getD_some]
  · rw [List.getElem?_set_ne e]
theorem bits_ext (x y : List (BitVec 8)) (hx : x.length = 32) (hy : y.length = 32) (h : ∀ j, j < 256 → bt x j = bt y j) : x = y := by
  apply List.ext_getElem (by omega)
  intro k h1 h2
  apply BitVec.eq_of_getMsbD_eq
  intro j hj
  have := h (8 * k + j) (by omega)
  unfold bt at this
  rw [show (8 * k + j) / 8 = k by omega, show (8 * k + j) % 8 = j by omega] at this
  simpa [h1, h2] using this
/-- how many bits, from the first one on, are alike -/
def common (x y : List (BitVec 8)) : Nat := ((List.range 256).find? fun i => bt x i != bt y i).getD 256
theorem common_spec (x y : List (BitVec 8)) : common x y ≤ 256 ∧ (∀ j, j < common x y → bt x j = bt y j) ∧ (common x y < 256 → bt x (common x y) ≠ bt y (common x y)) := by
  unfold common
  cases h : (List.range 256).find? fun i => bt x i != bt y i with
  | none =>
    rw [List.find?_eq_none] at h
    refine ⟨by simp, fun j hj => ?_, fun h => by simp at h⟩
    have := h j (by simpa using hj)
    simpa using this
  | some n =>
    obtain ⟨h1, ps, qs, h2, h3⟩ := List.find?_eq_some_iff_append.1 h
    have hn : n ∈ List.range 256 := by rw [h2]; simp
    have hlen : ps.length = n := by
      have e1 : (List.range 256)[ps.length]? = some n := by rw [h2]; simp
      rw [List.getElem?_range (by have := congrArg List.length h2; simp at this; omega)] at e1
      exact Option.some.inj e1
    simp only [Option.getD_some]
    refine ⟨by have := List.mem_range.1 hn; omega, fun j hj => ?_, fun _ => by simpa using h1⟩
    have hm : j ∈ ps := by
      have e1 : (List.range 256)[j]? = some j := List.getElem?_range (by have := List.mem_range.1 hn; omega)
      rw [h2, List.getElem?_append_left (by omega)] at e1
      exact List.mem_of_getElem? e1
    have := h3 j hm
    simpa using this
theorem common_is (x y : List (BitVec 8)) (n : Nat) (h0 : n ≤ 256) (h1 : ∀ j, j < n → bt x j = bt y j) (h2 : n < 256 → bt x n ≠ bt y n) : common x y = n := by
  obtain ⟨a, b, c⟩ := common_spec x y
  rcases Nat.lt_trichotomy (common x y) n with h | h | h
  · exact absurd (h1 _ h) (c (by omega))
  · exact h
  · exact absurd (b _ h) (h2 (by omega))
theorem common_comm (x y : List (BitVec 8)) : common x y = common y x := by
  obtain ⟨a, b, c⟩ := common_spec y x
  exact common_is x y _ a (fun j hj => (b j hj).symm) (fun h => (c h).symm)
theorem common_same (x : List (BitVec 8)) : common x x = 256 := common_is x x 256 (Nat.le_refl _) (fun _ _ => rfl) (by omega)
theorem common_lt (x y : List (BitVec 8)) (hx : x.length = 32) (hy : y.length = 32) (h : x ≠ y) : common x y < 256 := by
  obtain ⟨a, b, c⟩ := common_spec x y
  rcases Nat.lt_or_ge (common x y) 256 with h' | h'
  · exact h'
  · exact absurd (bits_ext x y hx hy (fun j hj => b j (by omega))) h
/-- y is x with all bits from n on off -/
def IsCut (x : List (BitVec 8)) (n : Int) (y : List (BitVec 8)) : Prop := y.length = 32 ∧ ∀ j, j < 256 → bt y j = (decide ((j : Int) < n) && bt x j)
theorem IsCut.uniq {x : List (BitVec 8)} {n : Int} {y z : List (BitVec 8)} (h : IsCut x n y) (k : IsCut x n z) : y = z :=
  bits_ext y z h.1 k.1 fun j hj => by rw [h.2 j hj, k.2 j hj]
theorem IsCut.common {a b y z : List (BitVec 8)} (h : IsCut a (common a b : Int) y) (k : IsCut b (common a b : Int) z) : y = z :=
  bits_ext y z h.1 k.1 fun j hj => by
    rw [h.2 j hj, k.2 j hj]
    by_cases hlt : j < Go.Proofs.Ythjkihbobdollaa.common a b
    · rw [(common_spec a b).2.1 j hlt]
    · have : ¬ ((j : Int) < (Go.Proofs.Ythjkihbobdollaa.common a b : Int)) := by omega
      simp [this]
/-- is x, byte by byte, ahead of y -/
def lessB : List (BitVec 8) → List (BitVec 8) → Bool
  | a :: ps, b :: qs => if a = b then lessB ps qs else decide (a.toNat < b.toNat)
  | _, _ => false
theorem lessB_self : ∀ x, lessB x x = false
  | [] => rfl
  | a :: x => by simp [lessB, lessB_self x]
theorem lessB_trans : ∀ (x y z : List (BitVec 8)), lessB x y = true → lessB y z = true → lessB x z = true
  | a :: x, b :: y, c :: z => by
    intro h k
    unfold lessB at *
    by_cases e1 : a = b
    · subst e1
      rw [if_pos rfl] at h
      by_cases e2 : a = c
      · rw [if_pos e2] at k ⊢; exact lessB_trans x y z h k
      · rw [if_neg e2] at k ⊢; exact k
    · rw [if_neg e1] at h
      by_cases e2 : b = c
      · subst e2; rw [if_neg e1]; exact h
      · rw [if_neg e2] at k
        have h' := of_decide_eq_true h
        have k' := of_decide_eq_true k
        rw [if_neg (by intro e; subst e; omega)]
        exact decide_eq_true (by omega)
  | [], _, _ => by intro h; simp [lessB] at h
  | _ :: _, [], _ => by intro h; simp [lessB] at h
  | _ :: _, _ :: _, [] => by intro _ h; simp [lessB] at h
theorem lessB_at : ∀ (k : Nat) (x y : List (BitVec 8)), x.length = y.length → k < x.length → (∀ j, j < k → x.getD j 0 = y.getD j 0) → x.getD k 0 ≠ y.getD k 0 → lessB x y = decide ((x.getD k 0).toNat < (y.getD k 0).toNat)
  | 0, a :: x, b :: y, _, _, _, h => by simp at h; simp [lessB, h]
  | k + 1, a :: x, b :: y, hl, hk, he, h => by
    have h0 : a = b := by simpa using he 0 (by omega)
    subst h0
    unfold lessB
    rw [if_pos rfl]
    simpa using lessB_at k x y (by simpa using hl) (by simpa using hk) (fun j hj => by simpa using he (j + 1) (by omega)) (by simpa using h)
  | _, [], _, _, hk, _, _ => by simp at hk
  | _, _ :: _, [], hl, _, _, _ => by simp at hl
theorem lessB_none (x y : List (BitVec 8)) (hl : x.length = y.length) (he : ∀ j, j < x.length → x.getD j 0 = y.getD j 0) : lessB x y = false := by
  have : x = y := by
    apply List.ext_getElem hl
    intro j h1 h2
    have := he j h1
    simpa [h1, h2] using this
  subst this; exact lessB_self x
theorem byte_lt (a b : BitVec 8) (m : Nat) (hm : m < 8) (h : ∀ j, j < m → a.getMsbD j = b.getMsbD j) (hn : a.getMsbD m ≠ b.getMsbD m) : decide (a.toNat < b.toNat) = b.getMsbD m := by
  have key : ∀ (c : BitVec 8) (j : Nat), j < 8 → decide (c.toNat / 2 ^ (7 - j) % 2 = 1) = c.getMsbD j := fun c j hj => mask_div c ⟨j, hj⟩
  have h' : ∀ j, j < m → (a.toNat / 2 ^ (7 - j) % 2 = 1 ↔ b.toNat / 2 ^ (7 - j) % 2 = 1) := fun j hj => by
    have := h j hj
    rw [← key a j (by omega), ← key b j (by omega), decide_eq_decide] at this
    exact this
  rw [← key a m hm, ← key b m hm, ne_eq, decide_eq_decide] at hn
  rw [← key b m hm, decide_eq_decide]
  have ha := a.isLt
  have hb := b.isLt
  generalize a.toNat = p at *
  generalize b.toNat = q at *
  have pre : ∀ k, k ≤ m → p / 2 ^ (8 - k) = q / 2 ^ (8 - k) := by
    intro k
    induction k with
    | zero => intro _; rw [Nat.div_eq_of_lt (by simpa using ha), Nat.div_eq_of_lt (by simpa using hb)]
    | succ k ih =>
      intro hk
      have e := ih (by omega)
      have f := h' k (by omega)
      rw [show 8 - k = (7 - k) + 1 by omega, Nat.pow_succ, ← Nat.div_div_eq_div_mul, ← Nat.div_div_eq_div_mul] at e
      rw [show 8 - (k + 1) = 7 - k by omega]
      omega
  have e := pre m (Nat.le_refl _)
  rw [show 8 - m = (7 - m) + 1 by omega, Nat.pow_succ, ← Nat.div_div_eq_div_mul, ← Nat.div_div_eq_div_mul] at e
  have h1 : q ≤ p → q / 2 ^ (7 - m) ≤ p / 2 ^ (7 - m) := fun h => Nat.div_le_div_right h
  have h2 : p ≤ q → p / 2 ^ (7 - m) ≤ q / 2 ^ (7 - m) := fun h => Nat.div_le_div_right h
  generalize p / 2 ^ (7 - m) = u at *
  generalize q / 2 ^ (7 - m) = v at *
  omega
theorem less_common (x y : List (BitVec 8)) (hx : x.length = 32) (hy : y.length = 32) (h : x ≠ y) : lessB x y = bt y (common x y) := by
  obtain ⟨a, b, c⟩ := common_spec x y
  have hn := common_lt x y hx hy h
  generalize common x y = n at *
  have hd := c hn
  have hbit : ∀ j, j < n % 8 → (x.getD (n / 8) 0).getMsbD j = (y.getD (n / 8) 0).getMsbD j := fun j hj => by
    have := b (8 * (n / 8) + j) (by omega)
    unfold bt at this
    rwa [show (8 * (n / 8) + j) / 8 = n / 8 by omega, show (8 * (n / 8) + j) % 8 = j by omega] at this
  rw [lessB_at (n / 8) x y (by omega) (by omega) ?_ ?_]
  · exact byte_lt _ _ (n % 8) (by omega) hbit hd
  · intro j hj
    apply BitVec.eq_of_getMsbD_eq
    intro i hi
    have := b (8 * j + i) (by omega)
    unfold bt at this
    rwa [show (8 * j + i) / 8 = j by omega, show (8 * j + i) % 8 = i by omega] at this
  · intro e; unfold bt at hd; rw [e] at hd; exact hd rfl
/-- the entry's comparison -/
theorem cmp_less : ∀ (x y : List (BitVec 8)), x.length = y.length → decide (Lib.compareBytes (x.map UInt8.ofBitVec) (y.map UInt8.ofBitVec) < 0) = lessB x y
  | [], [], _ => by simp [Lib.compareBytes, lessB]
  | a :: x, b :: y, hl => by
    have ih := cmp_less x y (by simpa using hl)
    simp only [List.map_cons, Lib.compareBytes, lessB]
    have e : ∀ p q : BitVec 8, (UInt8.ofBitVec p < UInt8.ofBitVec q) ↔ p.toNat < q.toNat := fun p q => by simp [UInt8.lt_iff_toNat_lt]
    rw [← ih]
    by_cases e1 : a = b
    · subst e1; simp [e]
    · have : a.toNat ≠ b.toNat := fun h => e1 (BitVec.eq_of_toNat_eq h)
      rw [if_neg e1]
      by_cases h : a.toNat < b.toNat
      · simp [e, h]
      · have h2 : b.toNat < a.toNat := by omega
        simp [e, h, h2]
/-- all bits, each with its number -/
def bitsOf (x : List (BitVec 8)) (k : Nat) : List (Nat × Bool) := (List.range k).map fun j => (j, bt x j)
theorem bitsOf_succ (x : List (BitVec 8)) (k : Nat) : bitsOf x (k + 1) = bitsOf x k ++ [(k, bt x k)] := by simp [bitsOf, List.range_succ]
theorem bitsOf_len (x : List (BitVec 8)) (k : Nat) : (bitsOf x k).length = k := by simp [bitsOf]
end Go.Proofs.Ythjkihbobdollaa

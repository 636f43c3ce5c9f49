/- Numbers, texts and lists as bytes, each in one way: plain lists, no program is named here. -/
import Derived.Test.YtgmemibhddnjjaaPlain
namespace Go.Proofs.Ytgmemibhddnjjaa
/-- a number's groups of seven bits, the lowest first -/
def encNum (n : Nat) : List (BitVec 8) := if h : n < 128 then [BitVec.ofNat 8 n] else BitVec.ofNat 8 (n % 128 + 128) :: encNum (n / 128)
termination_by n
decreasing_by omega
theorem encNum_lt {n : Nat} (h : n < 128) : encNum n = [BitVec.ofNat 8 n] := by rw [encNum, dif_pos h]
theorem encNum_ge {n : Nat} (h : ¬ n < 128) : encNum n = BitVec.ofNat 8 (n % 128 + 128) :: encNum (n / 128) := by rw [encNum, dif_neg h]
theorem encNum_pos (n : Nat) : 0 < (encNum n).length := by
  by_cases h : n < 128
  · rw [encNum_lt h]; simp
  · rw [encNum_ge h]; simp
/-- how many groups may still come, which place is the next one's, what was read; the number and what is left -/
def decNum : Nat → Nat → Nat → List (BitVec 8) → Option (Nat × List (BitVec 8))
  | 0, _, _, _ => none
  | _ + 1, _, _, [] => none
  | k + 1, i, acc, c :: r =>
    if (i = 9 ∧ 1 < c.toNat) ∨ (0 < i ∧ c.toNat = 0) then none
    else if c.toNat < 128 then some (acc + c.toNat % 128 * 2 ^ (7 * i), r) else decNum k (i + 1) (acc + c.toNat % 128 * 2 ^ (7 * i)) r
def readNum (b : List (BitVec 8)) : Option (Nat × List (BitVec 8)) := decNum 10 0 0 b
theorem pow7 (i : Nat) : (2 : Nat) ^ (7 * (i + 1)) = 2 ^ (7 * i) * 128 := by rw [show 7 * (i + 1) = 7 * i + 7 by omega, Nat.pow_add]
/-- what was written is read, wherever it stands -/
theorem decNum_enc : ∀ (k i acc n : Nat) (r : List (BitVec 8)), i + k = 10 → (0 < i → 0 < n) → n * 2 ^ (7 * i) < 18446744073709551616 → decNum k i acc (encNum n ++ r) = some (acc + n * 2 ^ (7 * i), r)
  | 0, i, acc, n, r, hk, hp, hn => by
    exfalso
    have h10 : i = 10 := by omega
    subst h10
    have := hp (by omega)
    simp only [Nat.reduceMul, Nat.reducePow] at hn
    omega
  | k + 1, i, acc, n, r, hk, hp, hn => by
    by_cases h : n < 128
    · rw [encNum_lt h, List.singleton_append, decNum]
      have e : (BitVec.ofNat 8 n).toNat = n := by rw [BitVec.toNat_ofNat]; omega
      rw [e]
      have h1 : ¬ ((i = 9 ∧ 1 < n) ∨ (0 < i ∧ n = 0)) := by
        rintro (⟨rfl, h2⟩ | ⟨h2, h3⟩)
        · simp only [Nat.reduceMul, Nat.reducePow] at hn; omega
        · have := hp h2; omega
      rw [if_neg h1, if_pos h, Nat.mod_eq_of_lt h]
    · rw [encNum_ge h, List.cons_append, decNum]
      have e : (BitVec.ofNat 8 (n % 128 + 128)).toNat = n % 128 + 128 := by rw [BitVec.toNat_ofNat]; omega
      rw [e]
      have h9 : i ≠ 9 := by
        rintro rfl
        simp only [Nat.reduceMul, Nat.reducePow] at hn; omega
      have h1 : ¬ ((i = 9 ∧ 1 < n % 128 + 128) ∨ (0 < i ∧ n % 128 + 128 = 0)) := by omega
      have e2 : (n % 128 + 128) % 128 = n % 128 := by omega
      have hd := Nat.div_add_mod n 128
      have e3 : n % 128 * 2 ^ (7 * i) + n / 128 * 2 ^ (7 * (i + 1)) = n * 2 ^ (7 * i) := by
        rw [pow7, ← Nat.mul_assoc, Nat.mul_right_comm, ← Nat.add_mul]
        congr 1; omega
      rw [if_neg h1, if_neg (by omega), e2, decNum_enc k (i + 1) _ (n / 128) r (by omega) (fun _ => by omega) (by omega)]
      congr 2
      omega
/-- what is read was written -/
theorem decNum_some : ∀ (k i acc : Nat) (b r : List (BitVec 8)) (m : Nat), i + k = 10 → decNum k i acc b = some (m, r) → ∃ n, m = acc + n * 2 ^ (7 * i) ∧ (0 < i → 0 < n) ∧ n * 2 ^ (7 * i) < 18446744073709551616 ∧ b = encNum n ++ r
  | 0, _, _, _, _, _, _, h => by simp [decNum] at h
  | k + 1, _, _, [], _, _, _, h => by simp [decNum] at h
  | k + 1, i, acc, c :: t, r, m, hk, h => by
    have hc := c.isLt
    rw [decNum] at h
    by_cases h1 : (i = 9 ∧ 1 < c.toNat) ∨ (0 < i ∧ c.toNat = 0)
    · rw [if_pos h1] at h; cases h
    · rw [if_neg h1] at h
      by_cases h2 : c.toNat < 128
      · rw [if_pos h2] at h
        simp only [Option.some.injEq, Prod.mk.injEq] at h
        obtain ⟨rfl, rfl⟩ := h
        refine ⟨c.toNat, by rw [Nat.mod_eq_of_lt h2], fun hi => by omega, ?_, ?_⟩
        · by_cases h9 : i = 9
          · subst h9
            simp only [Nat.reduceMul, Nat.reducePow]; omega
          · have h8 : 7 * i ≤ 56 := by omega
            have hp : (2 : Nat) ^ (7 * i) ≤ 2 ^ 56 := Nat.pow_le_pow_right (by omega) h8
            have : c.toNat * 2 ^ (7 * i) ≤ 127 * 2 ^ 56 := Nat.mul_le_mul (by omega) hp
            simp only [Nat.reducePow] at this
            omega
        · rw [encNum_lt h2, List.singleton_append]
          congr 1
          apply BitVec.eq_of_toNat_eq
          rw [BitVec.toNat_ofNat]; omega
      · rw [if_neg h2] at h
        have h9 : i ≠ 9 := by omega
        obtain ⟨n, e1, e2, e3, e4⟩ := decNum_some k (i + 1) _ t r m (by omega) h
        have hn := e2 (by omega)
        have hd : (c.toNat % 128 + n * 128) % 128 = c.toNat % 128 := by omega
        have hq : (c.toNat % 128 + n * 128) / 128 = n := by omega
        have e5 : (c.toNat % 128 + n * 128) * 2 ^ (7 * i) = c.toNat % 128 * 2 ^ (7 * i) + n * 2 ^ (7 * (i + 1)) := by
          rw [pow7, Nat.add_mul, Nat.mul_right_comm, Nat.mul_assoc n]
        refine ⟨c.toNat % 128 + n * 128, ?_, fun _ => by omega, ?_, ?_⟩
        · rw [e5, e1]; omega
        · rw [e5]
          have h8 : i ≤ 8 := by omega
          have hz : n * 2 ^ (7 * (i + 1)) + 2 ^ (7 * (i + 1)) ≤ 18446744073709551616 := by
            have hdv : 2 ^ (7 * (i + 1)) ∣ 18446744073709551616 := by
              rw [show (18446744073709551616 : Nat) = 2 ^ 64 from rfl]
              exact Nat.pow_dvd_pow 2 (by omega)
            obtain ⟨q, hq2⟩ := hdv
            rw [hq2] at e3 ⊢
            rw [Nat.mul_comm n] at e3 ⊢
            have hlt : n < q := Nat.lt_of_mul_lt_mul_left e3
            rw [← Nat.mul_succ]
            exact Nat.mul_le_mul_left _ hlt
          have h7 : c.toNat % 128 * 2 ^ (7 * i) < 2 ^ (7 * (i + 1)) := by
            rw [pow7, Nat.mul_comm (2 ^ (7 * i))]
            exact Nat.mul_lt_mul_of_pos_right (by omega) (Nat.pow_pos (by omega))
          omega
        · rw [encNum_ge (by omega), hd, hq, List.cons_append, e4]
          congr 1
          apply BitVec.eq_of_toNat_eq
          rw [BitVec.toNat_ofNat]; omega
theorem readNum_iff (b r : List (BitVec 8)) (n : Nat) : readNum b = some (n, r) ↔ n < 18446744073709551616 ∧ b = encNum n ++ r := by
  constructor
  · intro h
    obtain ⟨m, e1, _, e3, e4⟩ := decNum_some 10 0 0 b r n rfl h
    simp only [Nat.mul_zero, Nat.pow_zero, Nat.mul_one, Nat.zero_add] at e1 e3
    subst e1
    exact ⟨e3, e4⟩
  · rintro ⟨h, rfl⟩
    have := decNum_enc 10 0 0 n r rfl (fun h => by omega) (by simpa using h)
    simpa [readNum] using this
/-- no number's bytes begin another one's -/
theorem encNum_pre {n m : Nat} {r s : List (BitVec 8)} (hn : n < 18446744073709551616) (hm : m < 18446744073709551616) (h : encNum n ++ r = encNum m ++ s) : n = m ∧ r = s := by
  have h1 := (readNum_iff (encNum n ++ r) r n).2 ⟨hn, rfl⟩
  have h2 := (readNum_iff (encNum n ++ r) s m).2 ⟨hm, h⟩
  rw [h1] at h2
  simpa using h2
def encText (t : List (BitVec 8)) : List (BitVec 8) := encNum t.length ++ t
def readText (b : List (BitVec 8)) : Option (List (BitVec 8) × List (BitVec 8)) :=
  match readNum b with
  | none => none
  | some (n, r) => if n ≤ 1048576 ∧ n ≤ r.length then some (r.take n, r.drop n) else none
theorem readText_iff (b r t : List (BitVec 8)) : readText b = some (t, r) ↔ t.length ≤ 1048576 ∧ b = encText t ++ r := by
  unfold readText
  constructor
  · intro h
    cases h1 : readNum b with
    | none => rw [h1] at h; cases h
    | some p =>
      obtain ⟨n, q⟩ := p
      rw [h1] at h
      obtain ⟨_, hb⟩ := (readNum_iff _ _ _).1 h1
      simp only at h
      by_cases h2 : n ≤ 1048576 ∧ n ≤ q.length
      · rw [if_pos h2] at h
        simp only [Option.some.injEq, Prod.mk.injEq] at h
        obtain ⟨rfl, rfl⟩ := h
        have hl : (q.take n).length = n := by rw [List.length_take]; omega
        refine ⟨by omega, ?_⟩
        rw [encText, hl, List.append_assoc, List.take_append_drop, hb]
      · rw [if_neg h2] at h; cases h
  · rintro ⟨h, rfl⟩
    rw [encText, List.append_assoc, (readNum_iff _ _ _).2 ⟨by omega, rfl⟩]
    simp only
    rw [if_pos ⟨h, by simp⟩]
    simp
theorem encText_pre {t u r s : List (BitVec 8)} (ht : t.length < 18446744073709551616) (hu : u.length < 18446744073709551616) (h : encText t ++ r = encText u ++ s) : t = u ∧ r = s := by
  unfold encText at h
  rw [List.append_assoc, List.append_assoc] at h
  obtain ⟨h1, h2⟩ := encNum_pre ht hu h
  exact List.append_inj h2 h1
/-- a list of things, each written by f, one behind the other -/
def encAll {α : Type} (f : α → List (BitVec 8)) (l : List α) : List (BitVec 8) := (l.map f).flatten
theorem encAll_cons {α : Type} (f : α → List (BitVec 8)) (a : α) (l : List α) : encAll f (a :: l) = f a ++ encAll f l := by simp [encAll]
def readAll {α : Type} (g : List (BitVec 8) → Option (α × List (BitVec 8))) : Nat → List (BitVec 8) → Option (List α × List (BitVec 8))
  | 0, b => some ([], b)
  | k + 1, b =>
    match g b with
    | none => none
    | some (a, r) =>
      match readAll g k r with
      | none => none
      | some (l, s) => some (a :: l, s)
theorem readAll_iff {α : Type} {f : α → List (BitVec 8)} {g : List (BitVec 8) → Option (α × List (BitVec 8))} {ok : α → Prop} (hg : ∀ b r a, g b = some (a, r) ↔ ok a ∧ b = f a ++ r) :
    ∀ (k : Nat) (b r : List (BitVec 8)) (l : List α), readAll g k b = some (l, r) ↔ l.length = k ∧ (∀ a ∈ l, ok a) ∧ b = encAll f l ++ r
  | 0, b, r, l => by
    simp only [readAll, Option.some.injEq, Prod.mk.injEq]
    constructor
    · rintro ⟨rfl, rfl⟩; simp [encAll]
    · rintro ⟨h1, _, h3⟩
      have := List.eq_nil_of_length_eq_zero h1
      subst this
      simp [encAll] at h3
      exact ⟨rfl, h3⟩
  | k + 1, b, r, l => by
    rw [readAll]
    constructor
    · intro h
      cases h1 : g b with
      | none => rw [h1] at h; cases h
      | some p =>
        obtain ⟨a, q⟩ := p
        rw [h1] at h
        simp only at h
        cases h2 : readAll g k q with
        | none => rw [h2] at h; cases h
        | some p2 =>
          obtain ⟨l2, s⟩ := p2
          rw [h2] at h
          simp only [Option.some.injEq, Prod.mk.injEq] at h
          obtain ⟨rfl, rfl⟩ := h
          obtain ⟨o1, rfl⟩ := (hg _ _ _).1 h1
          obtain ⟨o2, o3, rfl⟩ := (readAll_iff hg k _ _ _).1 h2
          refine ⟨by simp [o2], ?_, by rw [encAll_cons, List.append_assoc]⟩
          intro x hx
          rcases List.mem_cons.1 hx with rfl | hx
          · exact o1
          · exact o3 x hx
    · rintro ⟨h1, h2, rfl⟩
      cases l with
      | nil => simp at h1
      | cons a l =>
        rw [encAll_cons, List.append_assoc, (hg _ _ _).2 ⟨h2 a (by simp), rfl⟩]
        simp only
        rw [(readAll_iff hg k _ _ l).2 ⟨by simpa using h1, fun x hx => h2 x (by simp [hx]), rfl⟩]
def encList {α : Type} (f : α → List (BitVec 8)) (l : List α) : List (BitVec 8) := encNum l.length ++ encAll f l
def readList {α : Type} (g : List (BitVec 8) → Option (α × List (BitVec 8))) (b : List (BitVec 8)) : Option (List α) :=
  match readNum b with
  | none => none
  | some (n, r) => if n ≤ 4096 then (match readAll g n r with | some (l, []) => some l | _ => none) else none
theorem readList_iff {α : Type} {f : α → List (BitVec 8)} {g : List (BitVec 8) → Option (α × List (BitVec 8))} {ok : α → Prop} (hg : ∀ b r a, g b = some (a, r) ↔ ok a ∧ b = f a ++ r) (b : List (BitVec 8)) (l : List α) :
    readList g b = some l ↔ l.length ≤ 4096 ∧ (∀ a ∈ l, ok a) ∧ b = encList f l := by
  unfold readList
  constructor
  · intro h
    cases h1 : readNum b with
    | none => rw [h1] at h; cases h
    | some p =>
      obtain ⟨n, r⟩ := p
      rw [h1] at h
      simp only at h
      obtain ⟨_, hb⟩ := (readNum_iff _ _ _).1 h1
      by_cases h2 : n ≤ 4096
      · rw [if_pos h2] at h
        cases h3 : readAll g n r with
        | none => rw [h3] at h; cases h
        | some p =>
          obtain ⟨l2, s⟩ := p
          rw [h3] at h
          cases s with
          | cons x s => simp at h
          | nil =>
            simp only [Option.some.injEq] at h
            subst h
            obtain ⟨o1, o2, o3⟩ := (readAll_iff hg n _ _ _).1 h3
            exact ⟨by omega, o2, by rw [hb, o3, List.append_nil, encList, o1]⟩
      · rw [if_neg h2] at h; cases h
  · rintro ⟨h1, h2, rfl⟩
    rw [encList, (readNum_iff _ _ _).2 ⟨by omega, rfl⟩]
    simp only
    rw [if_pos h1]
    have := (readAll_iff hg l.length (encAll f l) [] l).2 ⟨rfl, h2, by simp⟩
    rw [this]
theorem encAll_pre {α : Type} {f : α → List (BitVec 8)} {ok : α → Prop} (hf : ∀ a b r s, ok a → ok b → f a ++ r = f b ++ s → a = b ∧ r = s) :
    ∀ (l m : List α) (r s : List (BitVec 8)), l.length = m.length → (∀ a ∈ l, ok a) → (∀ a ∈ m, ok a) → encAll f l ++ r = encAll f m ++ s → l = m ∧ r = s
  | [], [], r, s, _, _, _, h => ⟨rfl, by simpa [encAll] using h⟩
  | [], b :: m, _, _, hl, _, _, _ => by simp at hl
  | a :: l, [], _, _, hl, _, _, _ => by simp at hl
  | a :: l, b :: m, r, s, hl, h1, h2, h => by
    rw [encAll_cons, encAll_cons, List.append_assoc, List.append_assoc] at h
    obtain ⟨rfl, h3⟩ := hf _ _ _ _ (h1 a (by simp)) (h2 b (by simp)) h
    obtain ⟨rfl, h4⟩ := encAll_pre hf l m r s (by simpa using hl) (fun x hx => h1 x (by simp [hx])) (fun x hx => h2 x (by simp [hx])) h3
    exact ⟨rfl, h4⟩
/-- no list's bytes begin another one's -/
theorem encList_pre {α : Type} {f : α → List (BitVec 8)} {ok : α → Prop} (hf : ∀ a b r s, ok a → ok b → f a ++ r = f b ++ s → a = b ∧ r = s) {l m : List α} {r s : List (BitVec 8)}
    (hl : l.length < 18446744073709551616) (hm : m.length < 18446744073709551616) (h1 : ∀ a ∈ l, ok a) (h2 : ∀ a ∈ m, ok a) (h : encList f l ++ r = encList f m ++ s) : l = m ∧ r = s := by
  unfold encList at h
  rw [List.append_assoc, List.append_assoc] at h
  obtain ⟨h3, h4⟩ := encNum_pre hl hm h
  exact encAll_pre hf l m r s h3 h1 h2 h4
theorem readNum_ok : ∀ b r a, readNum b = some (a, r) ↔ a < 18446744073709551616 ∧ b = encNum a ++ r := fun b r a => readNum_iff b r a
theorem readText_ok : ∀ b r a, readText b = some (a, r) ↔ a.length ≤ 1048576 ∧ b = encText a ++ r := fun b r a => readText_iff b r a
theorem encNum_pre' : ∀ a b r s, a < 18446744073709551616 → b < 18446744073709551616 → encNum a ++ r = encNum b ++ s → a = b ∧ r = s := fun _ _ _ _ h1 h2 h => encNum_pre h1 h2 h
theorem encText_pre' : ∀ a b r s, a.length < 18446744073709551616 → b.length < 18446744073709551616 → encText a ++ r = encText b ++ s → a = b ∧ r = s := fun _ _ _ _ h1 h2 h => encText_pre h1 h2 h
end Go.Proofs.Ytgmemibhddnjjaa

/- Bindings, requests, signed roots and proofs as bytes, each in one way: plain lists (layer 5; no program is named here but by what it imports). -/
import Derived.Test.YtldbcglakeggaaaRText
namespace Go.Proofs.Ytldbcglakeggaaa
abbrev Bs := List (BitVec 8)
/-- g reads just what f writes of what is ok -/
def Codes {α : Type} (g : Bs → Option (α × Bs)) (f : α → Bs) (ok : α → Prop) : Prop := ∀ b r a, g b = some (a, r) ↔ ok a ∧ b = f a ++ r
/-- of what is ok no one's bytes begin another one's -/
def Pre {α : Type} (f : α → Bs) (ok : α → Prop) : Prop := ∀ a b r s, ok a → ok b → f a ++ r = f b ++ s → a = b ∧ r = s
theorem Codes.pre {α : Type} {g : Bs → Option (α × Bs)} {f : α → Bs} {ok : α → Prop} (h : Codes g f ok) : Pre f ok := by
  intro a b r s ha hb he
  have h1 := (h (f a ++ r) r a).2 ⟨ha, rfl⟩
  have h2 := (h (f a ++ r) s b).2 ⟨hb, he⟩
  rw [h1] at h2
  simpa using h2
theorem Pre.inj {α : Type} {f : α → Bs} {ok : α → Prop} (h : Pre f ok) {a b : α} (ha : ok a) (hb : ok b) : f a = f b ↔ a = b :=
  ⟨fun he => (h a b [] [] ha hb (by rw [he])).1, fun he => by rw [he]⟩
def thenR {α β : Type} (g : Bs → Option (α × Bs)) (h : α → Bs → Option (β × Bs)) (b : Bs) : Option ((α × β) × Bs) :=
  match g b with
  | none => none
  | some (a, r) =>
    match h a r with
    | none => none
    | some (c, s) => some ((a, c), s)
theorem thenR_none {α β : Type} {g : Bs → Option (α × Bs)} {h : α → Bs → Option (β × Bs)} {b : Bs} (h1 : g b = none) : thenR g h b = none := by unfold thenR; rw [h1]
theorem thenR_no {α β : Type} {g : Bs → Option (α × Bs)} {h : α → Bs → Option (β × Bs)} {b r : Bs} {a : α} (h1 : g b = some (a, r)) (h2 : h a r = none) : thenR g h b = none := by unfold thenR; rw [h1]; simp only [h2]
theorem thenR_some {α β : Type} {g : Bs → Option (α × Bs)} {h : α → Bs → Option (β × Bs)} {b r s : Bs} {a : α} {c : β} (h1 : g b = some (a, r)) (h2 : h a r = some (c, s)) : thenR g h b = some ((a, c), s) := by unfold thenR; rw [h1]; simp only [h2]
theorem Codes.andThen {α β : Type} {g : Bs → Option (α × Bs)} {f : α → Bs} {ok : α → Prop} {h : α → Bs → Option (β × Bs)} {f2 : α → β → Bs} {ok2 : α → β → Prop} (hg : Codes g f ok) (hh : ∀ a, Codes (h a) (f2 a) (ok2 a)) :
    Codes (thenR g h) (fun p => f p.1 ++ f2 p.1 p.2) (fun p => ok p.1 ∧ ok2 p.1 p.2) := by
  intro b r p
  obtain ⟨a, c⟩ := p
  constructor
  · intro he
    cases h1 : g b with
    | none => rw [thenR_none h1] at he; cases he
    | some q =>
      obtain ⟨a', q⟩ := q
      cases h2 : h a' q with
      | none => rw [thenR_no h1 h2] at he; cases he
      | some q2 =>
        obtain ⟨c', s⟩ := q2
        rw [thenR_some h1 h2] at he
        simp only [Option.some.injEq, Prod.mk.injEq] at he
        obtain ⟨⟨rfl, rfl⟩, rfl⟩ := he
        obtain ⟨o1, rfl⟩ := (hg _ _ _).1 h1
        obtain ⟨o2, rfl⟩ := (hh _ _ _ _).1 h2
        exact ⟨⟨o1, o2⟩, by simp only [List.append_assoc]⟩
  · rintro ⟨⟨o1, o2⟩, rfl⟩
    exact thenR_some ((hg _ _ _).2 ⟨o1, by simp only [List.append_assoc]⟩) ((hh _ _ _ _).2 ⟨o2, rfl⟩)
theorem Pre.andThen {α β : Type} {f : α → Bs} {ok : α → Prop} {f2 : α → β → Bs} {ok2 : α → β → Prop} (hg : Pre f ok) (hh : ∀ a, Pre (f2 a) (ok2 a)) :
    Pre (fun p : α × β => f p.1 ++ f2 p.1 p.2) (fun p => ok p.1 ∧ ok2 p.1 p.2) := by
  rintro ⟨a, c⟩ ⟨b, d⟩ r s ⟨h1, h2⟩ ⟨h3, h4⟩ he
  simp only [List.append_assoc] at he
  obtain ⟨rfl, he⟩ := hg _ _ _ _ h1 h3 he
  obtain ⟨rfl, rfl⟩ := hh _ _ _ _ _ h2 h4 he
  exact ⟨rfl, rfl⟩
/-- nothing is read -/
def noneR {α : Type} (z : α) (b : Bs) : Option (α × Bs) := some (z, b)
theorem codes_none {α : Type} (z : α) : Codes (noneR z) (fun _ => []) (fun a => a = z) := by
  intro b r a
  unfold noneR
  simp only [Option.some.injEq, Prod.mk.injEq, List.nil_append]
  constructor
  · rintro ⟨rfl, rfl⟩; exact ⟨rfl, rfl⟩
  · rintro ⟨rfl, rfl⟩; exact ⟨rfl, rfl⟩
theorem codes_num : Codes readNum encNum (fun n => n < 18446744073709551616) := readNum_iff
theorem codes_text : Codes readText encText (fun t => t.length ≤ 1048576) := readText_iff
theorem codes_cut (n : Nat) : Codes (cut n) (fun a => a) (fun a => a.length = n) := by
  intro b r a
  unfold cut
  constructor
  · intro h
    split at h
    · simp only [Option.some.injEq, Prod.mk.injEq] at h
      obtain ⟨rfl, rfl⟩ := h
      exact ⟨by show (List.take n b).length = n; rw [List.length_take]; omega, (List.take_append_drop _ _).symm⟩
    · cases h
  · rintro ⟨rfl, rfl⟩
    rw [if_pos (by simp)]
    simp
theorem codes_count (most : Nat) (hm : most < 18446744073709551616) : Codes (readCount most) encNum (fun n => n ≤ most) := by
  intro b r n
  unfold readCount
  constructor
  · intro h
    cases h1 : readNum b with
    | none => rw [h1] at h; cases h
    | some p =>
      obtain ⟨k, q⟩ := p
      rw [h1] at h
      simp only at h
      split at h
      · simp only [Option.some.injEq, Prod.mk.injEq] at h
        obtain ⟨rfl, rfl⟩ := h
        exact ⟨by assumption, ((readNum_iff _ _ _).1 h1).2⟩
      · cases h
  · rintro ⟨h, rfl⟩
    rw [(readNum_iff _ _ _).2 ⟨by omega, rfl⟩]
    simp only
    rw [if_pos h]
theorem codes_all {α : Type} {g : Bs → Option (α × Bs)} {f : α → Bs} {ok : α → Prop} (hg : Codes g f ok) (k : Nat) : Codes (readAll g k) (encAll f) (fun l => l.length = k ∧ ∀ a ∈ l, ok a) := by
  intro b r l
  rw [readAll_iff hg k b r l, and_assoc]
theorem Pre.mono {α : Type} {f : α → Bs} {ok ok2 : α → Prop} (h : Pre f ok) (k : ∀ a, ok2 a → ok a) : Pre f ok2 := fun a b r s ha hb he => h a b r s (k a ha) (k b hb) he
theorem pre_num : Pre encNum (fun n => n < 18446744073709551616) := codes_num.pre
theorem pre_text : Pre encText (fun t => t.length < 18446744073709551616) := fun _ _ _ _ h1 h2 h => encText_pre h1 h2 h
theorem pre_cut (n : Nat) : Pre (fun a : Bs => a) (fun a => a.length = n) := (codes_cut n).pre
/-- what is read to the end, and may be -/
def wholeR {α : Type} (g : Bs → Option (α × Bs)) (may : α → Bool) (b : Bs) : Option α :=
  match g b with
  | some (a, []) => if may a then some a else none
  | _ => none
theorem Codes.whole {α : Type} {g : Bs → Option (α × Bs)} {f : α → Bs} {ok : α → Prop} (h : Codes g f ok) (may : α → Bool) (b : Bs) (a : α) : wholeR g may b = some a ↔ (ok a ∧ may a = true) ∧ b = f a := by
  unfold wholeR
  constructor
  · intro he
    cases h1 : g b with
    | none => rw [h1] at he; cases he
    | some p =>
      obtain ⟨c, r⟩ := p
      rw [h1] at he
      cases r with
      | cons x y => cases he
      | nil =>
        simp only at he
        split at he
        · simp only [Option.some.injEq] at he
          subst he
          obtain ⟨o, hb⟩ := (h _ _ _).1 h1
          exact ⟨⟨o, by assumption⟩, by simpa using hb⟩
        · cases he
  · rintro ⟨⟨o, hm⟩, rfl⟩
    rw [(h (f a) [] a).2 ⟨o, by simp⟩]
    simp only
    rw [if_pos hm]
/-- what a name, and a key, is -/
def nameByte (c : BitVec 8) : Bool := (97 ≤ c.toNat && c.toNat ≤ 122) || (48 ≤ c.toNat && c.toNat ≤ 57) || c.toNat == 46 || c.toNat == 45
def nameOk (s : Bs) : Bool := decide (1 ≤ s.length) && decide (s.length ≤ 32) && s.all nameByte
def keyOk (k : Bs) : Bool := decide (1 ≤ k.length) && decide (k.length ≤ 64)
/-- bindings: name, key, serial -/
def encBinding (p : Bs × Bs × Nat) : Bs := encText p.1 ++ (encText p.2.1 ++ encNum p.2.2)
def bindR : Bs → Option ((Bs × Bs × Nat) × Bs) := thenR readText fun _ => thenR readText fun _ => readNum
theorem codes_binding : Codes bindR encBinding (fun p => p.1.length ≤ 1048576 ∧ p.2.1.length ≤ 1048576 ∧ p.2.2 < 18446744073709551616) :=
  codes_text.andThen (f2 := fun _ (q : Bs × Nat) => encText q.1 ++ encNum q.2) (ok2 := fun _ (q : Bs × Nat) => q.1.length ≤ 1048576 ∧ q.2 < 18446744073709551616) fun _ => codes_text.andThen (f2 := fun _ n => encNum n) (ok2 := fun _ n => n < 18446744073709551616) fun _ => codes_num
theorem pre_binding : Pre encBinding (fun p => p.1.length < 18446744073709551616 ∧ p.2.1.length < 18446744073709551616 ∧ p.2.2 < 18446744073709551616) :=
  pre_text.andThen (f2 := fun _ (q : Bs × Nat) => encText q.1 ++ encNum q.2) (ok2 := fun _ (q : Bs × Nat) => q.1.length < 18446744073709551616 ∧ q.2 < 18446744073709551616) fun _ => pre_text.andThen (f2 := fun _ n => encNum n) (ok2 := fun _ n => n < 18446744073709551616) fun _ => pre_num
def mayBinding (p : Bs × Bs × Nat) : Bool := nameOk p.1 && keyOk p.2.1
/-- requests: kind, name, key, auth -/
def encAuth (k : Nat) (au : Bs) : Bs := if k = 2 then au else []
def encRequest (p : Nat × Bs × Bs × Bs) : Bs := encNum p.1 ++ (encText p.2.1 ++ (encText p.2.2.1 ++ encAuth p.1 p.2.2.2))
def authR (k : Nat) : Bs → Option (Bs × Bs) := if k = 2 then cut 32 else noneR zb32
theorem codes_auth (k : Nat) : Codes (authR k) (encAuth k) (fun au => au.length = 32 ∧ (k ≠ 2 → au = zb32)) := by
  intro b r a
  unfold authR encAuth
  by_cases h : k = 2
  · rw [if_pos h, if_pos h, codes_cut 32 b r a]
    simp [h]
  · rw [if_neg h, if_neg h, codes_none zb32 b r a]
    constructor
    · rintro ⟨rfl, h2⟩; exact ⟨⟨len_zb32, fun _ => rfl⟩, h2⟩
    · rintro ⟨⟨_, h1⟩, h2⟩; exact ⟨h1 h, h2⟩
def requestR : Bs → Option ((Nat × Bs × Bs × Bs) × Bs) := thenR (readCount 2) fun k => thenR readText fun _ => thenR readText fun _ => authR k
theorem codes_request : Codes requestR encRequest (fun p => p.1 ≤ 2 ∧ p.2.1.length ≤ 1048576 ∧ p.2.2.1.length ≤ 1048576 ∧ p.2.2.2.length = 32 ∧ (p.1 ≠ 2 → p.2.2.2 = zb32)) :=
  (codes_count 2 (by omega)).andThen (f2 := fun k (q : Bs × Bs × Bs) => encText q.1 ++ (encText q.2.1 ++ encAuth k q.2.2)) (ok2 := fun k (q : Bs × Bs × Bs) => q.1.length ≤ 1048576 ∧ q.2.1.length ≤ 1048576 ∧ q.2.2.length = 32 ∧ (k ≠ 2 → q.2.2 = zb32)) fun k =>
    codes_text.andThen (f2 := fun _ (q : Bs × Bs) => encText q.1 ++ encAuth k q.2) (ok2 := fun _ (q : Bs × Bs) => q.1.length ≤ 1048576 ∧ q.2.length = 32 ∧ (k ≠ 2 → q.2 = zb32)) fun _ =>
      codes_text.andThen (f2 := fun _ (q : Bs) => encAuth k q) (ok2 := fun _ (q : Bs) => q.length = 32 ∧ (k ≠ 2 → q = zb32)) fun _ => codes_auth k
def mayRequest (p : Nat × Bs × Bs × Bs) : Bool := decide (1 ≤ p.1) && nameOk p.2.1 && keyOk p.2.2.1
/-- signed roots: epoch, three digests, signature -/
def encSigned (p : Nat × Bs × Bs × Bs × Bs) : Bs := encNum p.1 ++ (p.2.1 ++ (p.2.2.1 ++ (p.2.2.2.1 ++ encText p.2.2.2.2)))
def signedR : Bs → Option ((Nat × Bs × Bs × Bs × Bs) × Bs) := thenR readNum fun _ => thenR (cut 32) fun _ => thenR (cut 32) fun _ => thenR (cut 32) fun _ => readText
theorem codes_signed : Codes signedR encSigned (fun p => p.1 < 18446744073709551616 ∧ p.2.1.length = 32 ∧ p.2.2.1.length = 32 ∧ p.2.2.2.1.length = 32 ∧ p.2.2.2.2.length ≤ 1048576) :=
  codes_num.andThen (f2 := fun _ (q : Bs × Bs × Bs × Bs) => q.1 ++ (q.2.1 ++ (q.2.2.1 ++ encText q.2.2.2))) (ok2 := fun _ (q : Bs × Bs × Bs × Bs) => q.1.length = 32 ∧ q.2.1.length = 32 ∧ q.2.2.1.length = 32 ∧ q.2.2.2.length ≤ 1048576) fun _ =>
    (codes_cut 32).andThen (f2 := fun _ (q : Bs × Bs × Bs) => q.1 ++ (q.2.1 ++ encText q.2.2)) (ok2 := fun _ (q : Bs × Bs × Bs) => q.1.length = 32 ∧ q.2.1.length = 32 ∧ q.2.2.length ≤ 1048576) fun _ =>
      (codes_cut 32).andThen (f2 := fun _ (q : Bs × Bs) => q.1 ++ encText q.2) (ok2 := fun _ (q : Bs × Bs) => q.1.length = 32 ∧ q.2.length ≤ 1048576) fun _ =>
        (codes_cut 32).andThen (f2 := fun _ (q : Bs) => encText q) (ok2 := fun _ (q : Bs) => q.length ≤ 1048576) fun _ => codes_text
theorem pre_signed : Pre encSigned (fun p => p.1 < 18446744073709551616 ∧ p.2.1.length = 32 ∧ p.2.2.1.length = 32 ∧ p.2.2.2.1.length = 32 ∧ p.2.2.2.2.length < 18446744073709551616) :=
  pre_num.andThen (f2 := fun _ (q : Bs × Bs × Bs × Bs) => q.1 ++ (q.2.1 ++ (q.2.2.1 ++ encText q.2.2.2))) (ok2 := fun _ (q : Bs × Bs × Bs × Bs) => q.1.length = 32 ∧ q.2.1.length = 32 ∧ q.2.2.1.length = 32 ∧ q.2.2.2.length < 18446744073709551616) fun _ =>
    (pre_cut 32).andThen (f2 := fun _ (q : Bs × Bs × Bs) => q.1 ++ (q.2.1 ++ encText q.2.2)) (ok2 := fun _ (q : Bs × Bs × Bs) => q.1.length = 32 ∧ q.2.1.length = 32 ∧ q.2.2.length < 18446744073709551616) fun _ =>
      (pre_cut 32).andThen (f2 := fun _ (q : Bs × Bs) => q.1 ++ encText q.2) (ok2 := fun _ (q : Bs × Bs) => q.1.length = 32 ∧ q.2.length < 18446744073709551616) fun _ =>
        (pre_cut 32).andThen (f2 := fun _ (q : Bs) => encText q) (ok2 := fun _ (q : Bs) => q.length < 18446744073709551616) fun _ => pre_text
/-- proofs: sides, end, index, value -/
def encEnd (k : Nat) (q : Bs × Bs) : Bs := if k = 1 then q.1 ++ q.2 else []
def encProof (p : List Bs × Nat × Bs × Bs) : Bs := encNum p.1.length ++ (encAll (fun a => a) p.1 ++ (encNum p.2.1 ++ encEnd p.2.1 p.2.2))
def endR (k : Nat) : Bs → Option ((Bs × Bs) × Bs) := if k = 1 then thenR (cut 32) (fun _ => cut 32) else noneR (zb32, zb32)
theorem codes_end (k : Nat) : Codes (endR k) (encEnd k) (fun q => q.1.length = 32 ∧ q.2.length = 32 ∧ (k ≠ 1 → q = (zb32, zb32))) := by
  intro b r a
  unfold endR encEnd
  by_cases h : k = 1
  · rw [if_pos h, if_pos h, (codes_cut 32).andThen (f2 := fun _ q => q) (ok2 := fun _ q => q.length = 32) (fun _ => codes_cut 32) b r a]
    simp [h]
  · rw [if_neg h, if_neg h, codes_none (zb32, zb32) b r a]
    constructor
    · rintro ⟨rfl, h2⟩; exact ⟨⟨len_zb32, len_zb32, fun _ => rfl⟩, h2⟩
    · rintro ⟨⟨_, _, h1⟩, h2⟩; exact ⟨h1 h, h2⟩
def proofR : Bs → Option ((Nat × List Bs × Nat × Bs × Bs) × Bs) := thenR (readCount 256) fun n => thenR (readAll (cut 32) n) fun _ => thenR (readCount 1) fun k => endR k
theorem codes_proof : Codes proofR (fun p => encNum p.1 ++ (encAll (fun a => a) p.2.1 ++ (encNum p.2.2.1 ++ encEnd p.2.2.1 p.2.2.2)))
    (fun p => p.1 ≤ 256 ∧ (p.2.1.length = p.1 ∧ ∀ a ∈ p.2.1, a.length = 32) ∧ p.2.2.1 ≤ 1 ∧ p.2.2.2.1.length = 32 ∧ p.2.2.2.2.length = 32 ∧ (p.2.2.1 ≠ 1 → p.2.2.2 = (zb32, zb32))) :=
  (codes_count 256 (by omega)).andThen (f2 := fun _ (q : List Bs × Nat × Bs × Bs) => encAll (fun a => a) q.1 ++ (encNum q.2.1 ++ encEnd q.2.1 q.2.2)) (ok2 := fun n (q : List Bs × Nat × Bs × Bs) => (q.1.length = n ∧ ∀ a ∈ q.1, a.length = 32) ∧ q.2.1 ≤ 1 ∧ q.2.2.1.length = 32 ∧ q.2.2.2.length = 32 ∧ (q.2.1 ≠ 1 → q.2.2 = (zb32, zb32))) fun n =>
    (codes_all (codes_cut 32) n).andThen (f2 := fun _ (q : Nat × Bs × Bs) => encNum q.1 ++ encEnd q.1 q.2) (ok2 := fun _ (q : Nat × Bs × Bs) => q.1 ≤ 1 ∧ q.2.1.length = 32 ∧ q.2.2.length = 32 ∧ (q.1 ≠ 1 → q.2 = (zb32, zb32))) fun _ =>
      (codes_count 1 (by omega)).andThen (f2 := fun k (q : Bs × Bs) => encEnd k q) (ok2 := fun k (q : Bs × Bs) => q.1.length = 32 ∧ q.2.length = 32 ∧ (k ≠ 1 → q = (zb32, zb32))) fun k => codes_end k
/-- a proof that may be -/
def okProof (p : List Bs × Nat × Bs × Bs) : Prop := p.1.length ≤ 256 ∧ (∀ a ∈ p.1, a.length = 32) ∧ p.2.1 ≤ 1 ∧ p.2.2.1.length = 32 ∧ p.2.2.2.length = 32 ∧ (p.2.1 ≠ 1 → p.2.2 = (zb32, zb32))
theorem proof_back {p : List Bs × Nat × Bs × Bs} (h : okProof p) : wholeR proofR (fun _ => true) (encProof p) = some (p.1.length, p) :=
  (codes_proof.whole _ _ _).2 ⟨⟨⟨h.1, ⟨rfl, h.2.1⟩, h.2.2⟩, rfl⟩, rfl⟩
theorem proof_one {n : Nat} {p : List Bs × Nat × Bs × Bs} {b : Bs} (h : wholeR proofR (fun _ => true) b = some (n, p)) : n = p.1.length ∧ okProof p ∧ b = encProof p := by
  obtain ⟨⟨⟨h1, ⟨h2, h3⟩, h4⟩, _⟩, hb⟩ := (codes_proof.whole _ _ _).1 h
  simp only at h1 h2 h3 h4 hb
  subst h2
  exact ⟨rfl, ⟨h1, h3, h4⟩, hb⟩
theorem proof_inj {p q : List Bs × Nat × Bs × Bs} (hp : okProof p) (hq : okProof q) : encProof p = encProof q ↔ p = q := by
  constructor
  · intro he
    have h1 := proof_back hp
    rw [he, proof_back hq] at h1
    simp only [Option.some.injEq, Prod.mk.injEq] at h1
    exact h1.2.symm
  · rintro rfl; rfl
/-- a request that may be -/
def okRequest (p : Nat × Bs × Bs × Bs) : Prop := p.1 ≤ 2 ∧ p.2.1.length ≤ 1048576 ∧ p.2.2.1.length ≤ 1048576 ∧ p.2.2.2.length = 32 ∧ (p.1 ≠ 2 → p.2.2.2 = zb32)
theorem request_back {p : Nat × Bs × Bs × Bs} (h : okRequest p) (hm : mayRequest p = true) : wholeR requestR mayRequest (encRequest p) = some p := (codes_request.whole _ _ _).2 ⟨⟨h, hm⟩, rfl⟩
theorem request_one {p : Nat × Bs × Bs × Bs} {b : Bs} (h : wholeR requestR mayRequest b = some p) : okRequest p ∧ mayRequest p = true ∧ b = encRequest p := by
  obtain ⟨⟨h1, h2⟩, h3⟩ := (codes_request.whole _ _ _).1 h
  exact ⟨h1, h2, h3⟩
theorem request_inj {p q : Nat × Bs × Bs × Bs} (hp : okRequest p) (hq : okRequest q) : encRequest p = encRequest q ↔ p = q := codes_request.pre.inj hp hq
theorem nameOk_len {s : Bs} (h : nameOk s = true) : 1 ≤ s.length ∧ s.length ≤ 32 := by
  simp only [nameOk, Bool.and_eq_true, decide_eq_true_eq] at h
  exact h.1
theorem keyOk_len {s : Bs} (h : keyOk s = true) : 1 ≤ s.length ∧ s.length ≤ 64 := by
  simp only [keyOk, Bool.and_eq_true, decide_eq_true_eq] at h
  exact h
theorem binding_back {p : Bs × Bs × Nat} (hm : mayBinding p = true) (hs : p.2.2 < 18446744073709551616) : wholeR bindR mayBinding (encBinding p) = some p := by
  have h := hm
  simp only [mayBinding, Bool.and_eq_true] at h
  have h1 := nameOk_len h.1
  have h2 := keyOk_len h.2
  exact (codes_binding.whole _ _ _).2 ⟨⟨⟨by omega, by omega, hs⟩, hm⟩, rfl⟩
theorem binding_one {p : Bs × Bs × Nat} {b : Bs} (h : wholeR bindR mayBinding b = some p) : mayBinding p = true ∧ p.2.2 < 18446744073709551616 ∧ b = encBinding p := by
  obtain ⟨⟨h1, h2⟩, h3⟩ := (codes_binding.whole _ _ _).1 h
  exact ⟨h2, h1.2.2, h3⟩
theorem binding_inj {p q : Bs × Bs × Nat} (hp : p.1.length < 18446744073709551616 ∧ p.2.1.length < 18446744073709551616 ∧ p.2.2 < 18446744073709551616) (hq : q.1.length < 18446744073709551616 ∧ q.2.1.length < 18446744073709551616 ∧ q.2.2 < 18446744073709551616) :
    encBinding p = encBinding q ↔ p = q := pre_binding.inj hp hq
theorem signed_back {p : Nat × Bs × Bs × Bs × Bs} (h : p.1 < 18446744073709551616 ∧ p.2.1.length = 32 ∧ p.2.2.1.length = 32 ∧ p.2.2.2.1.length = 32 ∧ p.2.2.2.2.length ≤ 1048576) : wholeR signedR (fun _ => true) (encSigned p) = some p :=
  (codes_signed.whole _ _ _).2 ⟨⟨h, rfl⟩, rfl⟩
theorem signed_one {p : Nat × Bs × Bs × Bs × Bs} {b : Bs} (h : wholeR signedR (fun _ => true) b = some p) : (p.1 < 18446744073709551616 ∧ p.2.1.length = 32 ∧ p.2.2.1.length = 32 ∧ p.2.2.2.1.length = 32 ∧ p.2.2.2.2.length ≤ 1048576) ∧ b = encSigned p := by
  obtain ⟨⟨h1, _⟩, h3⟩ := (codes_signed.whole _ _ _).1 h
  exact ⟨h1, h3⟩
end Go.Proofs.Ytldbcglakeggaaa

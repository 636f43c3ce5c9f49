/- Plain: a disk of sectors whose power goes (layer 13). -/
import Derived.Test.YtgmemibhddnjjaaBase
namespace Go.Proofs.Ytgmemibhddnjjaa
open Go.RowKit
set_option maxRecDepth 100000
abbrev Bs := List (BitVec 8)
/-- a disk: its safe bytes, what waits, at which change the power goes (-1: at none), whether it has gone -/
structure DkT where
  safe : Bs
  wait : List (Nat × Bs)
  left : Int
  down : Bool
/-- bytes with a sector's first n bytes put over them -/
def layD (b : Bs) (at_ : Nat) (x : Bs) (n : Nat) : Bs := b.take (64 * at_) ++ (x.take n ++ b.drop (64 * at_ + n))
def dumpW (b : Bs) (l : List (Nat × Bs)) : Bs := l.foldl (fun b p => layD b p.1 p.2 64) b
def dumpD (D : DkT) : Bs := dumpW D.safe D.wait
def sizeD (D : DkT) : Nat := D.safe.length / 64
def hasD (D : DkT) (i : Int) : Bool := decide (0 ≤ i) && decide (i < (sizeD D : Int))
theorem hasD_iff (D : DkT) (i : Int) : hasD D i = true ↔ 0 ≤ i ∧ i < (sizeD D : Int) := by simp [hasD]
theorem hasD_not (D : DkT) (i : Int) : hasD D i = false ↔ ¬ (0 ≤ i ∧ i < (sizeD D : Int)) := by rw [← hasD_iff]; simp
def readX13 (D : DkT) (i : Int) : Int := if D.down then 14 else if hasD D i = false then 2 else 0
def readB13 (D : DkT) (i : Int) : Bs := if D.down then [] else if hasD D i = false then [] else ((dumpD D).drop (64 * i.toNat)).take 64
def lessL (n : Int) : Int := if 0 < n then n - 1 else n
def putX13 (D : DkT) (i : Int) (b : Bs) : Int := if D.down then 14 else if hasD D i = false then 2 else if b.length ≠ 64 then 1 else if D.left = 0 then 14 else 0
def putD13 (D : DkT) (i : Int) (b : Bs) : DkT := if D.down then D else if hasD D i = false then D else if b.length ≠ 64 then D else ⟨D.safe, D.wait ++ [(i.toNat, b)], lessL D.left, decide (D.left = 0)⟩
def syncX13 (D : DkT) : Int := if D.down then 14 else if D.left = 0 then 14 else 0
def syncD13 (D : DkT) : DkT := if D.down then D else if D.left = 0 then ⟨D.safe, D.wait, D.left, true⟩ else ⟨dumpD D, [], lessL D.left, false⟩
def fuseD13 (D : DkT) (n : Int) : DkT := ⟨D.safe, D.wait, if n < 0 then -1 else n, D.down⟩
/-- how many bytes are kept -/
def cutK (n : Int) : Nat := if n < 0 then 0 else if 64 < n then 64 else n.toNat
def crashW : Bs → List (Nat × Bs) → List Int → Bs
  | b, [], _ => b
  | b, p :: l, k => crashW (layD b p.1 p.2 (cutK (k.getD 0 0))) l (k.drop 1)
def crashD13 (D : DkT) (keep : List Int) : DkT := ⟨crashW D.safe D.wait keep, [], -1, false⟩
/-- a disk that may be -/
structure okD (D : DkT) : Prop where
  ex : ∃ n, 1 ≤ n ∧ n ≤ 16384 ∧ D.safe.length = 64 * n ∧ ∀ p ∈ D.wait, p.1 < n ∧ p.2.length = 64
  lo : -1 ≤ D.left
  hi : D.left < 9223372036854775808
theorem okD.size {D : DkT} (h : okD D) : D.safe.length = 64 * sizeD D ∧ 1 ≤ sizeD D ∧ sizeD D ≤ 16384 := by
  obtain ⟨n, h1, h2, h3, _⟩ := h.ex
  have e : sizeD D = n := by rw [sizeD, h3, Nat.mul_div_cancel_left _ (by decide)]
  rw [e]
  exact ⟨h3, h1, h2⟩
theorem okD.wait {D : DkT} (h : okD D) : ∀ p ∈ D.wait, p.1 < sizeD D ∧ p.2.length = 64 := by
  obtain ⟨n, h1, h2, h3, h4⟩ := h.ex
  have e : sizeD D = n := by rw [sizeD, h3, Nat.mul_div_cancel_left _ (by decide)]
  rw [e]
  exact h4
theorem len_layD {b x : Bs} {at_ n : Nat} (h : 64 * at_ + n ≤ b.length) (hx : n ≤ x.length) : (layD b at_ x n).length = b.length := by
  rw [layD, List.length_append, List.length_append, List.length_take, List.length_take, List.length_drop]
  omega
theorem layD_zero (b x : Bs) (at_ : Nat) : layD b at_ x 0 = b := by
  rw [layD, List.take_zero, List.nil_append, Nat.add_zero, List.take_append_drop]
/-- one byte more -/
theorem layD_more {b x : Bs} {at_ n : Nat} (h : 64 * at_ + n < b.length) (hx : n < x.length) : layD b at_ x (n + 1) = (layD b at_ x n).set (64 * at_ + n) (x.getD n 0) := by
  have e1 : (b.take (64 * at_)).length = 64 * at_ := by rw [List.length_take]; omega
  have e2 : (x.take n).length = n := by rw [List.length_take]; omega
  have e3 : x.take (n + 1) = x.take n ++ [x.getD n 0] := by
    rw [List.take_add_one, List.getD_eq_getElem?_getD, List.getElem?_eq_getElem hx]
    rfl
  have e4 : b.drop (64 * at_ + n) = b[64 * at_ + n] :: b.drop (64 * at_ + (n + 1)) := by
    rw [← Nat.add_assoc]
    exact (List.getElem_cons_drop h).symm
  rw [layD, layD, e3, e4, List.set_append_right _ _ (by omega), e1, List.set_append_right _ _ (by omega), e2, show 64 * at_ + n - 64 * at_ - n = 0 by omega, List.set_cons_zero, List.append_assoc]
  rfl
theorem layD_at {b x : Bs} {at_ n : Nat} (h : 64 * at_ + n ≤ b.length) (hx : n ≤ x.length) (j : Nat) : (layD b at_ x n)[j]? = if 64 * at_ ≤ j ∧ j < 64 * at_ + n then x[j - 64 * at_]? else b[j]? := by
  have e1 : (b.take (64 * at_)).length = 64 * at_ := by rw [List.length_take]; omega
  have e2 : (x.take n).length = n := by rw [List.length_take]; omega
  rw [layD]
  by_cases h1 : j < 64 * at_
  · rw [if_neg (by omega), List.getElem?_append_left (by omega), List.getElem?_take_of_lt h1]
  · rw [List.getElem?_append_right (by omega), e1]
    by_cases h2 : j < 64 * at_ + n
    · rw [if_pos ⟨by omega, h2⟩, List.getElem?_append_left (by omega), List.getElem?_take_of_lt (by omega)]
    · rw [if_neg (by omega), List.getElem?_append_right (by omega), e2, List.getElem?_drop]
      congr 1
      omega
theorem dumpW_snoc (b : Bs) (l : List (Nat × Bs)) (p : Nat × Bs) : dumpW b (l ++ [p]) = layD (dumpW b l) p.1 p.2 64 := by rw [dumpW, List.foldl_append]; rfl
theorem take_snocW {l : List (Nat × Bs)} {k : Nat} (hk : k < l.length) : l.take (k + 1) = l.take k ++ [l[k]] := by
  rw [List.take_add_one, List.getElem?_eq_getElem hk]
  rfl
theorem len_dumpW {n : Nat} : ∀ (l : List (Nat × Bs)) (b : Bs), b.length = 64 * n → (∀ p ∈ l, p.1 < n ∧ p.2.length = 64) → (dumpW b l).length = 64 * n
  | [], b, h, _ => h
  | p :: l, b, h, hl => by
    have h1 := hl p (by simp)
    show (dumpW (layD b p.1 p.2 64) l).length = _
    exact len_dumpW l _ (by rw [len_layD (by omega) (by omega)]; exact h) (fun q hq => hl q (by simp [hq]))
theorem len_dumpD {D : DkT} (h : okD D) : (dumpD D).length = D.safe.length := by
  rw [h.size.1]
  exact len_dumpW D.wait D.safe h.size.1 h.wait
theorem cutK_le (n : Int) : cutK n ≤ 64 := by
  unfold cutK
  split
  · omega
  · split <;> omega
theorem crashW_snoc : ∀ (l : List (Nat × Bs)) (b : Bs) (keep : List Int) (p : Nat × Bs), crashW b (l ++ [p]) keep = layD (crashW b l keep) p.1 p.2 (cutK (keep.getD l.length 0))
  | [], b, keep, p => rfl
  | q :: l, b, keep, p => by
    show crashW (layD b q.1 q.2 _) (l ++ [p]) (keep.drop 1) = _
    rw [crashW_snoc l _ _ p]
    have e : (keep.drop 1).getD l.length 0 = keep.getD (q :: l).length 0 := by
      rw [List.getD_eq_getElem?_getD, List.getD_eq_getElem?_getD, List.getElem?_drop, List.length_cons, Nat.add_comm]
    rw [e]
    rfl
theorem len_crashW {n : Nat} : ∀ (l : List (Nat × Bs)) (b : Bs) (keep : List Int), b.length = 64 * n → (∀ p ∈ l, p.1 < n ∧ p.2.length = 64) → (crashW b l keep).length = 64 * n
  | [], b, _, h, _ => h
  | p :: l, b, keep, h, hl => by
    have h1 := hl p (by simp)
    have h2 := cutK_le (keep.getD 0 0)
    show (crashW (layD b p.1 p.2 _) l _).length = _
    exact len_crashW l _ _ (by rw [len_layD (by omega) (by omega)]; exact h) (fun q hq => hl q (by simp [hq]))
/-- what acts leave may be -/
theorem okD.put {D : DkT} (h : okD D) (i : Int) (b : Bs) : okD (putD13 D i b) := by
  unfold putD13
  by_cases hd : D.down
  · rw [if_pos hd]; exact h
  rw [if_neg hd]
  by_cases hh : hasD D i = false
  · rw [if_pos hh]; exact h
  rw [if_neg hh]
  rw [Bool.not_eq_false] at hh
  by_cases hb : b.length = 64
  case neg => rw [if_pos hb]; exact h
  rw [if_neg (by simpa using hb)]
  obtain ⟨h1, h2, h3⟩ := h.size
  refine ⟨⟨sizeD D, h2, h3, h1, fun p hp => ?_⟩, ?_, ?_⟩
  · rcases List.mem_append.1 hp with hp | hp
    · exact h.wait p hp
    · rw [List.mem_singleton.1 hp]
      obtain ⟨h4, h5⟩ := (hasD_iff D i).1 hh
      exact ⟨by show i.toNat < _; omega, hb⟩
  · show -1 ≤ lessL D.left
    have := h.lo
    unfold lessL
    split <;> omega
  · show lessL D.left < _
    have := h.hi
    unfold lessL
    split <;> omega
theorem okD.sync {D : DkT} (h : okD D) : okD (syncD13 D) := by
  unfold syncD13
  by_cases hd : D.down
  · rw [if_pos hd]; exact h
  rw [if_neg hd]
  obtain ⟨h1, h2, h3⟩ := h.size
  by_cases h0 : D.left = 0
  · rw [if_pos h0]
    exact ⟨⟨sizeD D, h2, h3, h1, h.wait⟩, h.lo, h.hi⟩
  rw [if_neg h0]
  refine ⟨⟨sizeD D, h2, h3, by show (dumpD D).length = _; rw [len_dumpD h, h1], fun p hp => by cases hp⟩, ?_, ?_⟩
  · show -1 ≤ lessL D.left
    have := h.lo
    unfold lessL
    split <;> omega
  · show lessL D.left < _
    have := h.hi
    unfold lessL
    split <;> omega
theorem okD.fuse {D : DkT} (h : okD D) (n : Int) (hn : n < 9223372036854775808) : okD (fuseD13 D n) := by
  obtain ⟨h1, h2, h3⟩ := h.size
  refine ⟨⟨sizeD D, h2, h3, h1, h.wait⟩, ?_, ?_⟩
  · show -1 ≤ (if n < 0 then -1 else n)
    split <;> omega
  · show (if n < 0 then -1 else n) < _
    split <;> omega
theorem okD.crash {D : DkT} (h : okD D) (keep : List Int) : okD (crashD13 D keep) := by
  obtain ⟨h1, h2, h3⟩ := h.size
  exact ⟨⟨sizeD D, h2, h3, len_crashW _ _ _ h1 h.wait, fun p hp => by cases hp⟩, by show (-1 : Int) ≤ -1; omega, by show (-1 : Int) < _; omega⟩
def zeroD (n : Nat) : DkT := ⟨List.replicate (64 * n) 0, [], -1, false⟩
def loadD (b : Bs) : DkT := ⟨b, [], -1, false⟩
theorem okD_load {b : Bs} {n : Nat} (h : b.length = 64 * n) (h1 : 1 ≤ n) (h2 : n ≤ 16384) : okD (loadD b) := ⟨⟨n, h1, h2, h, fun p hp => by cases hp⟩, by show (-1 : Int) ≤ -1; omega, by show (-1 : Int) < _; omega⟩
theorem okD_zero {n : Nat} (h1 : 1 ≤ n) (h2 : n ≤ 16384) : okD (zeroD n) := okD_load (List.length_replicate) h1 h2
theorem zeroD_load (n : Nat) : zeroD n = loadD (List.replicate (64 * n) 0) := rfl
/-- how many sectors stays -/
theorem size_put (D : DkT) (i : Int) (b : Bs) : (putD13 D i b).safe = D.safe := by
  unfold putD13
  split
  · rfl
  · split
    · rfl
    · split <;> rfl
theorem size_sync {D : DkT} (h : okD D) : sizeD (syncD13 D) = sizeD D := by
  unfold syncD13 sizeD
  split
  · rfl
  · split
    · rfl
    · show (dumpD D).length / 64 = _
      rw [len_dumpD h]
theorem size_crash {D : DkT} (h : okD D) (keep : List Int) : sizeD (crashD13 D keep) = sizeD D := by
  show (crashW D.safe D.wait keep).length / 64 = _
  rw [len_crashW _ _ _ h.size.1 h.wait, Nat.mul_div_cancel_left _ (by decide)]
/-- 13.6: a byte behind a loss of power -/
theorem crash_byte {n : Nat} : ∀ (l : List (Nat × Bs)) (b : Bs) (keep : List Int), b.length = 64 * n → (∀ p ∈ l, p.1 < n ∧ p.2.length = 64) → ∀ j, (crashW b l keep)[j]? = b[j]? ∨ ∃ p ∈ l, p.1 = j / 64 ∧ (crashW b l keep)[j]? = p.2[j % 64]?
  | [], b, _, _, _ => fun j => Or.inl rfl
  | p :: l, b, keep, h, hl => fun j => by
    have h1 := hl p (by simp)
    have h2 := cutK_le (keep.getD 0 0)
    have hlen : (layD b p.1 p.2 (cutK (keep.getD 0 0))).length = 64 * n := by rw [len_layD (by omega) (by omega)]; exact h
    have hat := layD_at (b := b) (x := p.2) (at_ := p.1) (n := cutK (keep.getD 0 0)) (by omega) (by omega) j
    rcases crash_byte l (layD b p.1 p.2 (cutK (keep.getD 0 0))) (keep.drop 1) hlen (fun q hq => hl q (by simp [hq])) j with h3 | ⟨q, hq, h4, h5⟩
    · by_cases h6 : 64 * p.1 ≤ j ∧ j < 64 * p.1 + cutK (keep.getD 0 0)
      · rw [if_pos h6] at hat
        refine Or.inr ⟨p, by simp, by omega, ?_⟩
        show (crashW (layD b p.1 p.2 _) l _)[j]? = _
        rw [h3, hat]
        congr 1
        omega
      · rw [if_neg h6] at hat
        refine Or.inl ?_
        show (crashW (layD b p.1 p.2 _) l _)[j]? = _
        rw [h3, hat]
    · exact Or.inr ⟨q, by simp [hq], h4, h5⟩
/-- a sector that no write names -/
theorem crash_sector {n : Nat} {l : List (Nat × Bs)} {b : Bs} {keep : List Int} (h : b.length = 64 * n) (hl : ∀ p ∈ l, p.1 < n ∧ p.2.length = 64) {i : Nat} (hi : ∀ p ∈ l, p.1 ≠ i) : ((crashW b l keep).drop (64 * i)).take 64 = (b.drop (64 * i)).take 64 := by
  apply List.ext_getElem?
  intro j
  rw [List.getElem?_take, List.getElem?_take]
  split
  · rw [List.getElem?_drop, List.getElem?_drop]
    rcases crash_byte l b keep h hl (64 * i + j) with h1 | ⟨p, hp, h2, _⟩
    · exact h1
    · exact absurd (by omega) (hi p hp)
  · rfl
end Go.Proofs.Ytgmemibhddnjjaa

/- Texts that the proof leans on, one behind the other: Plain: records on a disk (layer 14). Plain: what a journal writes, and what that leaves (layer 14). The walk of disk's Write (layer 13). .. -/
import Derived.Test.YtopmeedmgjdcgaaGreatDoorMxa
import Derived.Maps.AppendAt
import Derived.Lib.AppendZerosOnto
/- Plain: records on a disk (layer 14). -/
namespace Go.Proofs.YtopmeedmgjdcgaaGreatDoor
open Go.RowKit
set_option maxRecDepth 100000
/-- a number that bytes are, the highest first -/
def rdNum (l : Bs) : Nat := l.foldl (fun a b => a * 256 + b.toNat) 0
theorem rd_num8 {n : Nat} (h : n < 18446744073709551616) : rdNum (num8 n) = n := by
  simp [rdNum, num8, tl8, List.range_succ]
  omega
theorem rdNum_lt : ∀ (l : Bs) (a : Nat), l.foldl (fun a b => a * 256 + b.toNat) a < (a + 1) * 256 ^ l.length
  | [], a => by simp
  | b :: l, a => by
    have h := rdNum_lt l (a * 256 + b.toNat)
    have hb : b.toNat < 256 := b.isLt
    rw [List.foldl_cons, List.length_cons, Nat.pow_succ]
    refine Nat.lt_of_lt_of_le h ?_
    rw [Nat.mul_comm (256 ^ l.length) 256, ← Nat.mul_assoc]
    exact Nat.mul_le_mul_right _ (by omega)
theorem rdNum_8 {l : Bs} (h : l.length = 8) : rdNum l < 18446744073709551616 := by
  have := rdNum_lt l 0
  rw [h] at this
  simpa [rdNum] using this
/-- bytes with noughts behind, up to whole sectors -/
def padB (b : Bs) : Bs := b ++ List.replicate ((b.length + 63) / 64 * 64 - b.length) 0
theorem len_padB (b : Bs) : (padB b).length = (b.length + 63) / 64 * 64 := by rw [padB, List.length_append, List.length_replicate]; omega
def hd9 (gen : Nat) : Bs := 72 :: num8 gen
def headB (gen : Nat) : Bs := padB (hd9 gen ++ dig (hd9 gen))
def textB (gen seq : Nat) (b : Bs) : Bs := 74 :: (num8 gen ++ (num8 seq ++ b))
def rawB (gen seq : Nat) (b : Bs) : Bs := 74 :: (num8 gen ++ (num8 seq ++ (dig (textB gen seq b) ++ (num8 b.length ++ b))))
def recB (gen seq : Nat) (b : Bs) : Bs := padB (rawB gen seq b)
/-- how many sectors a record has -/
def secR (n : Nat) : Nat := (n + 120) / 64
theorem len_hd9 (gen : Nat) : (hd9 gen).length = 9 := by rw [hd9, List.length_cons, len_num8]
theorem len_headB (gen : Nat) : (headB gen).length = 64 := by rw [headB, len_padB, List.length_append, len_hd9, len_dig']
theorem len_rawB (gen seq : Nat) (b : Bs) : (rawB gen seq b).length = 57 + b.length := by
  rw [rawB]
  simp only [List.length_cons, List.length_append, len_num8, len_dig']
  omega
theorem len_recB (gen seq : Nat) (b : Bs) : (recB gen seq b).length = 64 * secR b.length := by rw [recB, len_padB, len_rawB, secR]; omega
/-- bytes put over others, from a place on -/
def ovl (b : Bs) (at_ : Nat) (r : Bs) : Bs := b.take at_ ++ (r ++ b.drop (at_ + r.length))
theorem ovl_at {b r : Bs} {at_ : Nat} (h : at_ + r.length ≤ b.length) (j : Nat) : (ovl b at_ r)[j]? = if at_ ≤ j ∧ j < at_ + r.length then r[j - at_]? else b[j]? := by
  have e1 : (b.take at_).length = at_ := by rw [List.length_take]; omega
  rw [ovl]
  by_cases h1 : j < at_
  · rw [if_neg (by omega), List.getElem?_append_left (by omega), List.getElem?_take_of_lt h1]
  · rw [List.getElem?_append_right (by omega), e1]
    by_cases h2 : j < at_ + r.length
    · rw [if_pos ⟨by omega, h2⟩, List.getElem?_append_left (by omega)]
    · rw [if_neg (by omega), List.getElem?_append_right (by omega), List.getElem?_drop]
      congr 1
      omega
theorem len_ovl {b r : Bs} {at_ : Nat} (h : at_ + r.length ≤ b.length) : (ovl b at_ r).length = b.length := by
  rw [ovl, List.length_append, List.length_append, List.length_take, List.length_drop]
  omega
/-- sectors of bytes, from a sector on -/
def secsOf : Nat → Nat → Bs → List (Nat × Bs)
  | _, 0, _ => []
  | s, m + 1, r => (s, r.take 64) :: secsOf (s + 1) m (r.drop 64)
theorem secs_mem {n : Nat} : ∀ (m s : Nat) (r : Bs), r.length = 64 * m → s + m ≤ n → ∀ p ∈ secsOf s m r, p.1 < n ∧ p.2.length = 64
  | 0, _, _, _, _, p, hp => by simp [secsOf] at hp
  | m + 1, s, r, hr, hs, p, hp => by
    rw [secsOf, List.mem_cons] at hp
    rcases hp with rfl | hp
    · exact ⟨by omega, by rw [List.length_take]; omega⟩
    · exact secs_mem m (s + 1) (r.drop 64) (by rw [List.length_drop]; omega) (by omega) p hp
theorem secs_len : ∀ (m s : Nat) (r : Bs), (secsOf s m r).length = m
  | 0, _, _ => rfl
  | m + 1, s, r => by rw [secsOf, List.length_cons, secs_len m]
theorem dump_secs : ∀ (m s : Nat) (r b : Bs), r.length = 64 * m → 64 * s + 64 * m ≤ b.length → dumpW b (secsOf s m r) = ovl b (64 * s) r
  | 0, s, r, b, hr, _ => by
    have h0 : r = [] := List.eq_nil_of_length_eq_zero (by omega)
    subst h0
    show b = _
    rw [ovl]
    simp
  | m + 1, s, r, b, hr, hb => by
    show dumpW (layD b s (r.take 64) 64) (secsOf (s + 1) m (r.drop 64)) = _
    have h64 : (r.take 64).length = 64 := by rw [List.length_take]; omega
    have hd : (r.drop 64).length = 64 * m := by rw [List.length_drop]; omega
    have hl : (layD b s (r.take 64) 64).length = b.length := len_layD (by omega) (by omega)
    rw [dump_secs m (s + 1) (r.drop 64) _ hd (by rw [hl]; omega)]
    apply List.ext_getElem?
    intro j
    rw [ovl_at (by rw [hd, hl]; omega), ovl_at (by omega), layD_at (by omega) (by omega), hd, hr]
    by_cases h1 : 64 * (s + 1) ≤ j ∧ j < 64 * (s + 1) + 64 * m
    · rw [if_pos h1, if_pos (by omega), List.getElem?_drop]
      congr 1
      omega
    · rw [if_neg h1]
      by_cases h2 : 64 * s ≤ j ∧ j < 64 * s + 64
      · rw [if_pos h2, if_pos (by omega), List.getElem?_take_of_lt (by omega)]
      · rw [if_neg h2, if_neg (by omega)]
/-- a half's bytes -/
def halfN (b : Bs) : Nat := b.length / 64 / 2 * 64
def halfB (b : Bs) (k : Nat) : Bs := (b.drop (k * halfN b)).take (halfN b)
theorem half_at {b : Bs} {k j : Nat} (hj : j < halfN b) : (halfB b k)[j]? = b[k * halfN b + j]? := by rw [halfB, List.getElem?_take_of_lt hj, List.getElem?_drop]
theorem half_out {b : Bs} {k j : Nat} (hj : ¬ j < halfN b) : (halfB b k)[j]? = none := by rw [halfB, List.getElem?_take, if_neg hj]
theorem half_le (b : Bs) : 2 * halfN b ≤ b.length := by unfold halfN; omega
theorem len_half {b : Bs} {k : Nat} (hk : k ≤ 1) : (halfB b k).length = halfN b := by
  have := half_le b
  rw [halfB, List.length_take, List.length_drop]
  rcases Nat.le_one_iff_eq_zero_or_eq_one.1 hk with rfl | rfl <;> omega
theorem halfN_ovl {b r : Bs} {at_ : Nat} (h : at_ + r.length ≤ b.length) : halfN (ovl b at_ r) = halfN b := by rw [halfN, halfN, len_ovl h]
theorem half_ovl {b r : Bs} {k o : Nat} (hk : k ≤ 1) (h : o + r.length ≤ halfN b) : halfB (ovl b (k * halfN b + o) r) k = ovl (halfB b k) o r := by
  have h1 := half_le b
  have h2 : k * halfN b + o + r.length ≤ b.length := by rcases Nat.le_one_iff_eq_zero_or_eq_one.1 hk with rfl | rfl <;> omega
  have h3 : o + r.length ≤ (halfB b k).length := by rw [len_half hk]; exact h
  apply List.ext_getElem?
  intro j
  rw [ovl_at h3]
  by_cases hj : j < halfN b
  · rw [half_at (by rw [halfN_ovl h2]; exact hj), halfN_ovl h2, ovl_at h2, half_at hj]
    by_cases h4 : o ≤ j ∧ j < o + r.length
    · rw [if_pos h4, if_pos (by omega)]
      congr 1
      omega
    · rw [if_neg h4, if_neg (by omega)]
  · rw [half_out (by rw [halfN_ovl h2]; exact hj), if_neg (by omega), half_out hj]
theorem half_other {b r : Bs} {k o : Nat} (hk : k ≤ 1) (h : o + r.length ≤ halfN b) : halfB (ovl b (k * halfN b + o) r) (1 - k) = halfB b (1 - k) := by
  have h1 := half_le b
  have h2 : k * halfN b + o + r.length ≤ b.length := by rcases Nat.le_one_iff_eq_zero_or_eq_one.1 hk with rfl | rfl <;> omega
  apply List.ext_getElem?
  intro j
  by_cases hj : j < halfN b
  · rw [half_at (by rw [halfN_ovl h2]; exact hj), halfN_ovl h2, ovl_at h2, half_at hj, if_neg]
    rcases Nat.le_one_iff_eq_zero_or_eq_one.1 hk with rfl | rfl <;> omega
  · rw [half_out (by rw [halfN_ovl h2]; exact hj), half_out hj]
/-- the generation that a half begins -/
def genH (half : Bs) : Nat := if rdNum ((half.drop 1).take 8) = 0 ∨ half.take 64 ≠ headB (rdNum ((half.drop 1).take 8)) then 0 else rdNum ((half.drop 1).take 8)
theorem head_num (gen : Nat) (z : Bs) : ((headB gen ++ z).drop 1).take 8 = num8 gen := by
  have e : headB gen ++ z = [72] ++ (num8 gen ++ (dig (hd9 gen) ++ (List.replicate (((hd9 gen ++ dig (hd9 gen)).length + 63) / 64 * 64 - (hd9 gen ++ dig (hd9 gen)).length) 0 ++ z))) := by simp [headB, padB, hd9]
  rw [e, List.singleton_append, List.drop_succ_cons, List.drop_zero, List.take_left' (len_num8 gen)]
theorem gen_head {gen : Nat} (h1 : 1 ≤ gen) (h2 : gen < 18446744073709551616) (z : Bs) : genH (headB gen ++ z) = gen := by
  rw [genH, head_num, rd_num8 h2, if_neg]
  rw [List.take_left' (len_headB gen)]
  simp
  omega
theorem gen_is {half : Bs} (h : genH half ≠ 0) : half.take 64 = headB (genH half) ∧ genH half < 18446744073709551616 := by
  unfold genH at h ⊢
  by_cases hc : rdNum ((half.drop 1).take 8) = 0 ∨ half.take 64 ≠ headB (rdNum ((half.drop 1).take 8))
  · rw [if_pos hc] at h; exact absurd rfl h
  · rw [if_neg hc]
    refine ⟨Decidable.not_not.1 (fun e => hc (Or.inr e)), ?_⟩
    have e := Decidable.not_not.1 (fun e => hc (Or.inr e))
    have hl : 64 ≤ half.length := by
      have := congrArg List.length e
      rw [len_headB, List.length_take] at this
      omega
    exact rdNum_8 (by rw [List.length_take, List.length_drop]; omega)
/-- the half that counts, and its generation -/
def pickB (b : Bs) : Nat × Nat := if genH (halfB b 0) < genH (halfB b 1) then (1, genH (halfB b 1)) else (0, genH (halfB b 0))
/-- a half's records from a place on, and where they end -/
def recsL (gen : Nat) (half : Bs) : Nat → Nat → Nat → List Bs × Nat
  | 0, at_, _ => ([], at_)
  | f + 1, at_, seq =>
    if at_ + 64 ≤ half.length then
      if rdNum ((half.drop (at_ + 49)).take 8) = 0 ∨ half.length - at_ - 57 < rdNum ((half.drop (at_ + 49)).take 8) then ([], at_)
      else if half.length < at_ + (recB gen seq ((half.drop (at_ + 57)).take (rdNum ((half.drop (at_ + 49)).take 8)))).length ∨ (half.drop at_).take (recB gen seq ((half.drop (at_ + 57)).take (rdNum ((half.drop (at_ + 49)).take 8)))).length ≠ recB gen seq ((half.drop (at_ + 57)).take (rdNum ((half.drop (at_ + 49)).take 8))) then ([], at_)
      else ((half.drop (at_ + 57)).take (rdNum ((half.drop (at_ + 49)).take 8)) :: (recsL gen half f (at_ + (recB gen seq ((half.drop (at_ + 57)).take (rdNum ((half.drop (at_ + 49)).take 8)))).length) (seq + 1)).1, (recsL gen half f (at_ + (recB gen seq ((half.drop (at_ + 57)).take (rdNum ((half.drop (at_ + 49)).take 8)))).length) (seq + 1)).2)
    else ([], at_)
def recsOf (gen : Nat) (half : Bs) : List Bs × Nat := recsL gen half (half.length / 64) 64 0
def readJ (b : Bs) : Nat × List Bs := if (pickB b).2 = 0 then (0, []) else ((pickB b).2, (recsOf (pickB b).2 (halfB b (pickB b).1)).1)
/-- records one behind the other -/
def recsB (gen : Nat) : Nat → List Bs → Bs
  | _, [] => []
  | seq, x :: l => recB gen seq x ++ recsB gen (seq + 1) l
def sizeL (l : List Bs) : Nat := (l.map fun x => 64 * secR x.length).sum
theorem len_recsB (gen : Nat) : ∀ (l : List Bs) (seq : Nat), (recsB gen seq l).length = sizeL l
  | [], _ => rfl
  | x :: l, seq => by rw [recsB, List.length_append, len_recB, len_recsB gen l]; rfl
theorem recsB_snoc (gen : Nat) : ∀ (l : List Bs) (seq : Nat) (x : Bs), recsB gen seq (l ++ [x]) = recsB gen seq l ++ recB gen (seq + l.length) x
  | [], seq, x => by simp [recsB]
  | y :: l, seq, x => by
    show recB gen seq y ++ recsB gen (seq + 1) (l ++ [x]) = _
    rw [recsB_snoc gen l (seq + 1) x, recsB, List.append_assoc, List.length_cons, show seq + 1 + l.length = seq + (l.length + 1) by omega]
theorem sizeL_snoc (l : List Bs) (x : Bs) : sizeL (l ++ [x]) = sizeL l + 64 * secR x.length := by simp [sizeL]
theorem rd_zero (n : Nat) : rdNum (List.replicate n 0) = 0 := by
  induction n with
  | zero => rfl
  | succ n ih => rw [List.replicate_succ, rdNum, List.foldl_cons]; exact ih
theorem raw_at (gen seq : Nat) (x z : Bs) : ((rawB gen seq x ++ z).drop 49).take 8 = num8 x.length ∧ ((rawB gen seq x ++ z).drop 57).take x.length = x := by
  have e : rawB gen seq x ++ z = (74 :: (num8 gen ++ (num8 seq ++ dig (textB gen seq x)))) ++ (num8 x.length ++ (x ++ z)) := by simp [rawB]
  have hl : (74 :: (num8 gen ++ (num8 seq ++ dig (textB gen seq x)))).length = 49 := by simp [len_num8, len_dig']
  constructor
  · rw [e, List.drop_left' hl, List.take_left' (len_num8 _)]
  · rw [e, show 57 = 49 + 8 from rfl, ← List.drop_drop, List.drop_left' hl, List.drop_left' (len_num8 _), List.take_left' rfl]
theorem rec_at (gen seq : Nat) (x z : Bs) : ((recB gen seq x ++ z).drop 49).take 8 = num8 x.length ∧ ((recB gen seq x ++ z).drop 57).take x.length = x := by
  rw [recB, padB, List.append_assoc]
  exact raw_at gen seq x _
theorem recs_back {gen : Nat} : ∀ (l : List Bs) (f seq m : Nat) (A : Bs), (∀ x ∈ l, x ≠ [] ∧ x.length < 18446744073709551616) → l.length ≤ f → recsL gen (A ++ (recsB gen seq l ++ List.replicate m 0)) f A.length seq = (l, A.length + sizeL l)
  | [], 0, seq, m, A, _, _ => rfl
  | [], f + 1, seq, m, A, _, _ => by
    rw [recsL, recsB, List.nil_append]
    split
    · rename_i h
      rw [List.length_append, List.length_replicate] at h
      rw [if_pos]
      · rfl
      · left
        rw [show A.length + 49 = A.length + 49 from rfl, ← List.drop_drop, List.drop_left' rfl, List.drop_replicate, List.take_replicate, rd_zero]
    · rfl
  | x :: l, 0, _, _, _, _, hf => by simp at hf
  | x :: l, f + 1, seq, m, A, hl, hf => by
    obtain ⟨hx1, hx2⟩ := hl x (by simp)
    have hxp : 0 < x.length := List.length_pos_iff.2 hx1
    have er : recsB gen seq (x :: l) ++ List.replicate m (0 : BitVec 8) = recB gen seq x ++ (recsB gen (seq + 1) l ++ List.replicate m 0) := by rw [recsB, List.append_assoc]
    have hrl := len_recB gen seq x
    have hsr : 57 + x.length ≤ 64 * secR x.length := by unfold secR; omega
    have eN : ((A ++ (recB gen seq x ++ (recsB gen (seq + 1) l ++ List.replicate m 0))).drop (A.length + 49)).take 8 = num8 x.length := by
      rw [← List.drop_drop, List.drop_left' rfl]
      exact (rec_at gen seq x _).1
    have eX : ((A ++ (recB gen seq x ++ (recsB gen (seq + 1) l ++ List.replicate m 0))).drop (A.length + 57)).take x.length = x := by
      rw [← List.drop_drop, List.drop_left' rfl]
      exact (rec_at gen seq x _).2
    have eR : ((A ++ (recB gen seq x ++ (recsB gen (seq + 1) l ++ List.replicate m 0))).drop A.length).take (recB gen seq x).length = recB gen seq x := by
      rw [List.drop_left' rfl, List.take_left' rfl]
    have hlen : (A ++ (recB gen seq x ++ (recsB gen (seq + 1) l ++ List.replicate m (0 : BitVec 8)))).length = A.length + (64 * secR x.length + (sizeL l + m)) := by
      rw [List.length_append, List.length_append, List.length_append, hrl, len_recsB, List.length_replicate]
    have ih := recs_back (gen := gen) l f (seq + 1) m (A ++ recB gen seq x) (fun y hy => hl y (by simp [hy])) (by simpa using hf)
    rw [List.append_assoc, List.length_append] at ih
    rw [er, recsL, if_pos (by rw [hlen]; omega), eN, rd_num8 hx2, eX, if_neg (by rw [hlen]; omega), if_neg (by rw [hlen, eR, hrl]; rintro (h | h); omega; exact h rfl), ih]
    rw [hrl]
    show (x :: l, _) = _
    congr 1
    show A.length + 64 * secR x.length + sizeL l = A.length + (64 * secR x.length + sizeL l)
    omega
/-- what any half's records are -/
theorem recs_inv {gen : Nat} {half : Bs} : ∀ (f at_ seq : Nat), at_ ≤ half.length → (half.drop at_).take (sizeL (recsL gen half f at_ seq).1) = recsB gen seq (recsL gen half f at_ seq).1 ∧ (recsL gen half f at_ seq).2 = at_ + sizeL (recsL gen half f at_ seq).1 ∧ (recsL gen half f at_ seq).2 ≤ half.length ∧ (∀ x ∈ (recsL gen half f at_ seq).1, x ≠ [] ∧ x.length ≤ half.length) ∧ (recsL gen half f at_ seq).1.length ≤ f
  | 0, at_, seq, h => ⟨by simp [recsL, sizeL, recsB], rfl, h, by simp [recsL], Nat.le_refl _⟩
  | f + 1, at_, seq, h => by
    have base : (half.drop at_).take (sizeL ([] : List Bs)) = recsB gen seq [] ∧ at_ = at_ + sizeL [] ∧ at_ ≤ half.length ∧ (∀ x ∈ ([] : List Bs), x ≠ [] ∧ x.length ≤ half.length) ∧ ([] : List Bs).length ≤ f + 1 := ⟨by simp [sizeL, recsB], rfl, h, by simp, Nat.zero_le _⟩
    rw [recsL]
    by_cases h1 : at_ + 64 ≤ half.length
    case neg => rw [if_neg h1]; exact base
    rw [if_pos h1]
    generalize hn : rdNum ((half.drop (at_ + 49)).take 8) = n
    by_cases h2 : n = 0 ∨ half.length - at_ - 57 < n
    · rw [if_pos h2]; exact base
    rw [if_neg h2]
    generalize hx : (half.drop (at_ + 57)).take n = x
    have hxl : x.length = n := by rw [← hx, List.length_take, List.length_drop]; omega
    generalize hr : recB gen seq x = r
    by_cases h3 : half.length < at_ + r.length ∨ (half.drop at_).take r.length ≠ r
    · rw [if_pos h3]; exact base
    rw [if_neg h3]
    have h4 : (half.drop at_).take r.length = r := Decidable.not_not.1 (fun e => h3 (Or.inr e))
    have hrl : r.length = 64 * secR x.length := by rw [← hr, len_recB]
    obtain ⟨i1, i2, i3, i4, i5⟩ := recs_inv (gen := gen) (half := half) f (at_ + r.length) (seq + 1) (by omega)
    refine ⟨?_, ?_, i3, ?_, ?_⟩
    · show (half.drop at_).take (64 * secR x.length + sizeL (recsL gen half f (at_ + r.length) (seq + 1)).1) = recB gen seq x ++ recsB gen (seq + 1) (recsL gen half f (at_ + r.length) (seq + 1)).1
      rw [← hrl, List.take_add, h4, List.drop_drop, i1, hr]
    · show _ = at_ + (64 * secR x.length + sizeL (recsL gen half f (at_ + r.length) (seq + 1)).1)
      rw [i2, hrl]
      omega
    · intro y hy
      rcases List.mem_cons.1 hy with rfl | hy
      · exact ⟨fun e => by rw [e] at hxl; simp at hxl; omega, by omega⟩
      · exact i4 y hy
    · simpa using i5
/-- a half that begins a generation, with records, and noughts behind them; the other one does not count -/
structure Good (b : Bs) (k gen : Nat) (l : List Bs) : Prop where
  hk : k ≤ 1
  g1 : 1 ≤ gen
  g2 : gen < 18446744073709551616
  half : ∃ m, halfB b k = headB gen ++ (recsB gen 0 l ++ List.replicate m 0)
  ne : ∀ x ∈ l, x ≠ [] ∧ x.length < 18446744073709551616
  oth : genH (halfB b (1 - k)) ≤ gen ∧ (k = 1 → genH (halfB b 0) < gen)
theorem Good.size {b : Bs} {k gen : Nat} {l : List Bs} (h : Good b k gen l) : 64 + sizeL l ≤ halfN b := by
  obtain ⟨m, hm⟩ := h.half
  have := congrArg List.length hm
  rw [len_half h.hk, List.length_append, len_headB, List.length_append, len_recsB] at this
  omega
theorem sizeL_ge : ∀ (l : List Bs), 64 * l.length ≤ sizeL l
  | [] => Nat.le_refl _
  | x :: l => by
    have := sizeL_ge l
    show _ ≤ 64 * secR x.length + sizeL l
    have h1 : 1 ≤ secR x.length := by unfold secR; omega
    rw [List.length_cons]
    omega
theorem Good.pick {b : Bs} {k gen : Nat} {l : List Bs} (h : Good b k gen l) : pickB b = (k, gen) := by
  obtain ⟨m, hm⟩ := h.half
  have hg : genH (halfB b k) = gen := by rw [hm]; exact gen_head h.g1 h.g2 _
  obtain ⟨h1, h2⟩ := h.oth
  unfold pickB
  rcases Nat.le_one_iff_eq_zero_or_eq_one.1 h.hk with rfl | rfl
  · rw [hg, if_neg (by show ¬ gen < genH (halfB b (1 - 0)); omega)]
  · rw [hg, if_pos (h2 rfl)]
theorem Good.recs {b : Bs} {k gen : Nat} {l : List Bs} (h : Good b k gen l) : recsOf gen (halfB b k) = (l, 64 + sizeL l) := by
  obtain ⟨m, hm⟩ := h.half
  have h1 := sizeL_ge l
  have h2 := h.size
  unfold recsOf
  rw [hm]
  have := recs_back (gen := gen) l ((headB gen ++ (recsB gen 0 l ++ List.replicate m 0)).length / 64) 0 m (headB gen) h.ne (by rw [← hm, len_half h.hk]; omega)
  rw [len_headB] at this
  exact this
theorem Good.read {b : Bs} {k gen : Nat} {l : List Bs} (h : Good b k gen l) : readJ b = (gen, l) := by
  rw [readJ, h.pick]
  show (if gen = 0 then _ else _) = _
  rw [if_neg (by have := h.g1; omega), h.recs]
theorem ovl_mid (A B C r : Bs) (h : r.length ≤ B.length) : ovl (A ++ (B ++ C)) A.length r = A ++ (r ++ (B.drop r.length ++ C)) := by
  rw [ovl, List.take_left' rfl, ← List.drop_drop, List.drop_left' rfl, List.drop_append_of_le_length h]
theorem Good.app {b : Bs} {k gen : Nat} {l : List Bs} (h : Good b k gen l) {x : Bs} (hx : x ≠ []) (hx2 : x.length < 18446744073709551616) (hs : 64 + sizeL l + 64 * secR x.length ≤ halfN b) : Good (ovl b (k * halfN b + (64 + sizeL l)) (recB gen l.length x)) k gen (l ++ [x]) := by
  have hr := len_recB gen l.length x
  obtain ⟨m, hm⟩ := h.half
  have hlen := congrArg List.length hm
  rw [len_half h.hk, List.length_append, len_headB, List.length_append, len_recsB, List.length_replicate] at hlen
  refine ⟨h.hk, h.g1, h.g2, ⟨m - 64 * secR x.length, ?_⟩, fun y hy => ?_, ?_⟩
  · rw [half_ovl h.hk (by rw [hr]; omega), hm]
    have e : headB gen ++ (recsB gen 0 l ++ List.replicate m (0 : BitVec 8)) = (headB gen ++ recsB gen 0 l) ++ (List.replicate m 0 ++ []) := by simp
    have el : 64 + sizeL l = (headB gen ++ recsB gen 0 l).length := by rw [List.length_append, len_headB, len_recsB]
    rw [e, el, ovl_mid _ _ _ _ (by rw [List.length_replicate, hr]; omega), recsB_snoc, Nat.zero_add, List.append_nil, List.drop_replicate, hr]
    simp
  · rcases List.mem_append.1 hy with hy | hy
    · exact h.ne y hy
    · rw [List.mem_singleton.1 hy]; exact ⟨hx, hx2⟩
  · have ho : halfB (ovl b (k * halfN b + (64 + sizeL l)) (recB gen l.length x)) (1 - k) = halfB b (1 - k) := half_other h.hk (by rw [hr]; omega)
    refine ⟨by rw [ho]; exact h.oth.1, fun hk1 => ?_⟩
    have h2 := h.oth.2 hk1
    subst hk1
    rw [show 1 - 1 = 0 from rfl] at ho
    rw [ho]
    exact h2
theorem rep_split (n m k : Nat) (h : n = m + k) : List.replicate n (0 : BitVec 8) = List.replicate m 0 ++ List.replicate k 0 := by rw [h, List.replicate_append_replicate]
theorem rep_sec (n : Nat) (h : 64 ≤ n) : List.replicate n (0 : BitVec 8) = zs64 ++ (List.replicate (n - 64) 0 ++ []) := by
  rw [List.append_nil]
  exact rep_split n 64 (n - 64) (by omega)
/-- a half that is begun anew -/
def anewB (b : Bs) (k gen : Nat) (l : List Bs) : Bs := ovl (ovl (ovl b (k * halfN b) (List.replicate (halfN b) 0)) (k * halfN b + 64) (recsB gen 0 l)) (k * halfN b) (headB gen)
set_option maxHeartbeats 1000000 in
theorem Good.anew {b : Bs} {k gen : Nat} {l : List Bs} (hk : k ≤ 1) (g1 : 1 ≤ gen) (g2 : gen < 18446744073709551616) (hl : ∀ x ∈ l, x ≠ [] ∧ x.length < 18446744073709551616) (hs : 64 + sizeL l ≤ halfN b) (ho : genH (halfB b (1 - k)) < gen) : Good (anewB b k gen l) k gen l ∧ (anewB b k gen l).length = b.length := by
  have h1 := half_le b
  have hb : ∀ o (r : Bs), o + r.length ≤ halfN b → k * halfN b + o + r.length ≤ b.length := fun o r h => by rcases Nat.le_one_iff_eq_zero_or_eq_one.1 hk with rfl | rfl <;> omega
  have hz : (List.replicate (halfN b) (0 : BitVec 8)).length = halfN b := List.length_replicate
  have hR := len_recsB gen l 0
  have hH := len_headB gen
  obtain ⟨b1, e1⟩ : ∃ b1, b1 = ovl b (k * halfN b + 0) (List.replicate (halfN b) 0) := ⟨_, rfl⟩
  have l1 : b1.length = b.length := by rw [e1]; exact len_ovl (hb 0 _ (by omega))
  have n1 : halfN b1 = halfN b := by rw [halfN, halfN, l1]
  obtain ⟨b2, e2⟩ : ∃ b2, b2 = ovl b1 (k * halfN b1 + 64) (recsB gen 0 l) := ⟨_, rfl⟩
  have l2 : b2.length = b.length := by rw [e2, n1, len_ovl (by rw [l1]; exact hb 64 _ (by omega)), l1]
  have n2 : halfN b2 = halfN b := by rw [halfN, halfN, l2]
  obtain ⟨b3, e3⟩ : ∃ b3, b3 = ovl b2 (k * halfN b2 + 0) (headB gen) := ⟨_, rfl⟩
  have l3 : b3.length = b.length := by rw [e3, n2, len_ovl (by rw [l2]; exact hb 0 _ (by omega)), l2]
  have e : anewB b k gen l = b3 := by
    rw [anewB, e3, n2, e2, n1, e1]
    rfl
  have hh1 : halfB b1 k = List.replicate (halfN b) 0 := by
    rw [e1, half_ovl hk (by omega)]
    have hlh := len_half (b := b) hk
    rw [ovl, List.take_zero, List.nil_append, Nat.zero_add, hz, List.drop_of_length_le (by omega), List.append_nil]
  have hh2 : halfB b2 k = zs64 ++ (recsB gen 0 l ++ List.replicate (halfN b - 64 - sizeL l) 0) := by
    rw [e2, half_ovl hk (by omega), hh1]
    have e6 := ovl_mid zs64 (List.replicate (halfN b - 64) 0) [] (recsB gen 0 l) (by rw [List.length_replicate]; omega)
    rw [len_zs64] at e6
    rw [rep_sec (halfN b) (by omega), e6, List.append_nil, List.drop_replicate, hR]
  have hh3 : halfB b3 k = headB gen ++ (recsB gen 0 l ++ List.replicate (halfN b - 64 - sizeL l) 0) := by
    rw [e3, half_ovl hk (by omega), hh2]
    have e6 := ovl_mid [] zs64 (recsB gen 0 l ++ List.replicate (halfN b - 64 - sizeL l) 0) (headB gen) (by rw [len_zs64]; omega)
    have e7 : zs64.drop 64 = [] := List.drop_of_length_le (Nat.le_of_eq len_zs64)
    rw [List.length_nil, List.nil_append, List.nil_append, hH, e7, List.nil_append] at e6
    exact e6
  have ho3 : halfB b3 (1 - k) = halfB b (1 - k) := by
    rw [e3, half_other hk (by omega), e2, half_other hk (by omega), e1, half_other hk (by omega)]
  rw [e]
  refine ⟨⟨hk, g1, g2, ⟨_, hh3⟩, hl, by rw [ho3]; omega, fun hk1 => ?_⟩, l3⟩
  subst hk1
  rw [show 1 - 1 = 0 from rfl] at ho3 ho
  rw [ho3]
  exact ho
end Go.Proofs.YtopmeedmgjdcgaaGreatDoor
/- Plain: what a journal writes, and what that leaves (layer 14). -/
namespace Go.Proofs.YtopmeedmgjdcgaaGreatDoor
open Go.RowKit
set_option maxRecDepth 100000
/-- what is done to a disk, one behind the other, till an error: a write, or a sync -/
def runJ : DkT → List (Option (Nat × Bs)) → DkT × Int
  | D, [] => (D, 0)
  | D, some p :: r => if putX13 D (p.1 : Int) p.2 = 0 then runJ (putD13 D (p.1 : Int) p.2) r else (putD13 D (p.1 : Int) p.2, putX13 D (p.1 : Int) p.2)
  | D, none :: r => if syncX13 D = 0 then runJ (syncD13 D) r else (syncD13 D, syncX13 D)
theorem put_good {s : Bs} {ws : List (Nat × Bs)} {p : Nat × Bs} (h : p.1 < s.length / 64) (hp : p.2.length = 64) : putX13 ⟨s, ws, -1, false⟩ (p.1 : Int) p.2 = 0 ∧ putD13 ⟨s, ws, -1, false⟩ (p.1 : Int) p.2 = ⟨s, ws ++ [p], -1, false⟩ := by
  have hh : ¬ (hasD ⟨s, ws, -1, false⟩ (p.1 : Int) = false) := by
    rw [hasD_not]
    exact fun e => e ⟨by omega, by show (p.1 : Int) < ((s.length / 64 : Nat) : Int); omega⟩
  constructor
  · rw [putX13, if_neg Bool.false_ne_true, if_neg hh, if_neg (by rw [hp]; decide)]; rfl
  · rw [putD13, if_neg Bool.false_ne_true, if_neg hh, if_neg (by rw [hp]; decide), Int.toNat_natCast]; rfl
theorem run_ws {s : Bs} {r : List (Option (Nat × Bs))} : ∀ (l ws : List (Nat × Bs)), (∀ p ∈ l, p.1 < s.length / 64 ∧ p.2.length = 64) → runJ ⟨s, ws, -1, false⟩ (l.map some ++ r) = runJ ⟨s, ws ++ l, -1, false⟩ r
  | [], ws, _ => by simp
  | p :: l, ws, h => by
    obtain ⟨h1, h2⟩ := put_good (ws := ws) (h p (by simp)).1 (h p (by simp)).2
    rw [List.map_cons, List.cons_append, runJ, if_pos h1, h2, run_ws l (ws ++ [p]) (fun q hq => h q (by simp [hq])), List.append_assoc]
    rfl
theorem run_sync (s : Bs) (ws : List (Nat × Bs)) (r : List (Option (Nat × Bs))) : runJ ⟨s, ws, -1, false⟩ (none :: r) = runJ (loadD (dumpW s ws)) r := by
  have h : syncX13 ⟨s, ws, -1, false⟩ = 0 := rfl
  rw [runJ, if_pos h]
  rfl
theorem run_batch {s r : Bs} {a m : Nat} {t : List (Option (Nat × Bs))} (hr : r.length = 64 * m) (hs : 64 * a + 64 * m ≤ s.length) : runJ (loadD s) ((secsOf a m r).map some ++ (none :: t)) = runJ (loadD (ovl s (64 * a) r)) t := by
  show runJ ⟨s, [], -1, false⟩ _ = _
  rw [run_ws _ _ (secs_mem m a r hr (by omega)), List.nil_append, run_sync, dump_secs m a r s hr hs]
/-- how many sectors records have -/
def secL (l : List Bs) : Nat := (l.map fun x => secR x.length).sum
theorem sizeL_eq : ∀ (l : List Bs), sizeL l = 64 * secL l
  | [] => rfl
  | x :: l => by
    show 64 * secR x.length + sizeL l = 64 * (secR x.length + secL l)
    rw [sizeL_eq l]
    omega
theorem secL_snoc (l : List Bs) (x : Bs) : secL (l ++ [x]) = secL l + secR x.length := by simp [secL]
def appS (hs k gen : Nat) (l : List Bs) (x : Bs) : List (Option (Nat × Bs)) := (secsOf (k * hs + (1 + secL l)) (secR x.length) (recB gen l.length x)).map some ++ [none]
def anewS (hs k gen : Nat) (l : List Bs) : List (Option (Nat × Bs)) :=
  (secsOf (k * hs) hs (List.replicate (64 * hs) 0)).map some ++ (none :: ((secsOf (k * hs + 1) (secL l) (recsB gen 0 l)).map some ++ (none :: ((secsOf (k * hs) 1 (headB gen)).map some ++ [none]))))
theorem halfN_eq (b : Bs) : halfN b = 64 * (b.length / 64 / 2) := by unfold halfN; omega
theorem app_run {b : Bs} {k gen : Nat} {l : List Bs} {x : Bs} (hk : k ≤ 1) (h : 1 + secL l + secR x.length ≤ b.length / 64 / 2) : runJ (loadD b) (appS (b.length / 64 / 2) k gen l x) = (loadD (ovl b (k * halfN b + (64 + sizeL l)) (recB gen l.length x)), 0) := by
  have hb : b.length / 64 / 2 * 2 * 64 ≤ b.length := by omega
  obtain ⟨hs, e⟩ : ∃ hs, hs = b.length / 64 / 2 := ⟨_, rfl⟩
  rw [← e] at h hb ⊢
  have hN : halfN b = 64 * hs := by rw [halfN_eq, e]
  have e2 : 64 * (k * hs + (1 + secL l)) = k * halfN b + (64 + sizeL l) := by rw [hN, sizeL_eq, Nat.mul_add, Nat.mul_left_comm]; omega
  have hk2 : k * hs ≤ hs := by rcases Nat.le_one_iff_eq_zero_or_eq_one.1 hk with rfl | rfl <;> omega
  rw [appS, run_batch (len_recB gen l.length x) (by omega), e2]
  rfl
theorem anew_run {b : Bs} {k gen : Nat} {l : List Bs} (hk : k ≤ 1) (h : 1 + secL l ≤ b.length / 64 / 2) : runJ (loadD b) (anewS (b.length / 64 / 2) k gen l) = (loadD (anewB b k gen l), 0) := by
  have hb : b.length / 64 / 2 * 2 * 64 ≤ b.length := by omega
  obtain ⟨hs, e⟩ : ∃ hs, hs = b.length / 64 / 2 := ⟨_, rfl⟩
  rw [← e] at h hb ⊢
  have hN : halfN b = 64 * hs := by rw [halfN_eq, e]
  have hk2 : k * hs ≤ hs := by rcases Nat.le_one_iff_eq_zero_or_eq_one.1 hk with rfl | rfl <;> omega
  have e1 : 64 * (k * hs) = k * halfN b := by rw [hN, Nat.mul_left_comm]
  have e2 : 64 * (k * hs + 1) = k * halfN b + 64 := by rw [← e1]; omega
  have hz : (List.replicate (64 * hs) (0 : BitVec 8)).length = 64 * hs := List.length_replicate
  have hR : (recsB gen 0 l).length = 64 * secL l := by rw [len_recsB, sizeL_eq]
  have l1 : (ovl b (64 * (k * hs)) (List.replicate (64 * hs) 0)).length = b.length := len_ovl (by rw [hz]; omega)
  have l2 : (ovl (ovl b (64 * (k * hs)) (List.replicate (64 * hs) 0)) (64 * (k * hs + 1)) (recsB gen 0 l)).length = b.length := by rw [len_ovl (by rw [l1, hR]; omega), l1]
  rw [anewS, run_batch hz (by omega), run_batch hR (by rw [l1]; omega), run_batch (len_headB gen) (by rw [l2]; omega), anewB, e2, e1, hN]
  rfl
/-- a log: which half counts, its generation, its records -/
structure JnT where
  k : Nat
  gen : Nat
  l : List Bs
def chkX (x : Bs) : Int := if x.length = 0 ∨ 1048576 < x.length then 1 else 0
def hsD (D : DkT) : Nat := sizeD D / 2
/-- why a record is not appended -/
def appE (J : JnT) (D : DkT) (x : Bs) : Int := if chkX x = 1 then 1 else if hsD D < 1 + secL J.l + secR x.length then 13 else 0
def appX (J : JnT) (D : DkT) (x : Bs) : Int := if appE J D x = 0 then (runJ D (appS (hsD D) J.k J.gen J.l x)).2 else appE J D x
def appD (J : JnT) (D : DkT) (x : Bs) : DkT := if appE J D x = 0 then (runJ D (appS (hsD D) J.k J.gen J.l x)).1 else D
def appJ (J : JnT) (D : DkT) (x : Bs) : JnT := if appE J D x = 0 then ⟨J.k, J.gen, J.l ++ [x]⟩ else J
/-- why records are not begun anew with -/
def rstE (D : DkT) (m : List Bs) : Int := if ∃ x ∈ m, chkX x = 1 then 1 else if hsD D < 1 + secL m then 13 else 0
def rstX (J : JnT) (D : DkT) (m : List Bs) : Int := if rstE D m = 0 then (runJ D (anewS (hsD D) (1 - J.k) (J.gen + 1) m)).2 else rstE D m
def rstD (J : JnT) (D : DkT) (m : List Bs) : DkT := if rstE D m = 0 then (runJ D (anewS (hsD D) (1 - J.k) (J.gen + 1) m)).1 else D
def rstJ (J : JnT) (D : DkT) (m : List Bs) : JnT := if rstE D m = 0 then ⟨1 - J.k, J.gen + 1, m⟩ else J
/-- what an opened log writes, and is -/
def openS (D : DkT) : List (Option (Nat × Bs)) × JnT :=
  if (pickB (dumpD D)).2 = 0 then (anewS (hsD D) 0 1 [], ⟨0, 1, []⟩)
  else if ∀ z ∈ (halfB (dumpD D) (pickB (dumpD D)).1).drop (recsOf (pickB (dumpD D)).2 (halfB (dumpD D) (pickB (dumpD D)).1)).2, z = 0 then ([], ⟨(pickB (dumpD D)).1, (pickB (dumpD D)).2, (recsOf (pickB (dumpD D)).2 (halfB (dumpD D) (pickB (dumpD D)).1)).1⟩)
  else (anewS (hsD D) (1 - (pickB (dumpD D)).1) ((pickB (dumpD D)).2 + 1) (recsOf (pickB (dumpD D)).2 (halfB (dumpD D) (pickB (dumpD D)).1)).1, ⟨1 - (pickB (dumpD D)).1, (pickB (dumpD D)).2 + 1, (recsOf (pickB (dumpD D)).2 (halfB (dumpD D) (pickB (dumpD D)).1)).1⟩)
def openX (D : DkT) : Int := if sizeD D < 8 then 1 else (runJ D (openS D).1).2
def openD (D : DkT) : DkT := if sizeD D < 8 then D else (runJ D (openS D).1).1
/-- a log and a disk that go together, nothing waiting, no fuse -/
structure Log (D : DkT) (J : JnT) : Prop where
  idle : D = loadD D.safe
  good : Good D.safe J.k J.gen J.l
theorem Log.app {D : DkT} {J : JnT} (h : Log D J) {x : Bs} (he : appE J D x = 0) : appX J D x = 0 ∧ appD J D x = loadD (ovl D.safe (J.k * halfN D.safe + (64 + sizeL J.l)) (recB J.gen J.l.length x)) ∧ Log (appD J D x) (appJ J D x) ∧ sizeD (appD J D x) = sizeD D := by
  have hE := he
  unfold appE at he
  by_cases h1 : chkX x = 1
  · rw [if_pos h1] at he; cases he
  rw [if_neg h1] at he
  by_cases h2 : hsD D < 1 + secL J.l + secR x.length
  · rw [if_pos h2] at he; cases he
  have hx : x ≠ [] ∧ x.length < 18446744073709551616 := by
    unfold chkX at h1
    by_cases h3 : x.length = 0 ∨ 1048576 < x.length
    · rw [if_pos h3] at h1; exact absurd rfl h1
    · exact ⟨fun e => h3 (Or.inl (by rw [e]; rfl)), by omega⟩
  have hfit : 1 + secL J.l + secR x.length ≤ D.safe.length / 64 / 2 := by
    show _ ≤ sizeD D / 2
    unfold hsD at h2
    omega
  have hrun := app_run (b := D.safe) (gen := J.gen) h.good.hk hfit
  have hN := halfN_eq D.safe
  have hgood := h.good.app hx.1 hx.2 (by rw [hN, sizeL_eq]; omega)
  have hlen : (ovl D.safe (J.k * halfN D.safe + (64 + sizeL J.l)) (recB J.gen J.l.length x)).length = D.safe.length := by
    refine len_ovl ?_
    have h4 := half_le D.safe
    rw [len_recB, hN, sizeL_eq]
    rcases Nat.le_one_iff_eq_zero_or_eq_one.1 h.good.hk with e | e <;> rw [e] <;> omega
  have eD : appD J D x = loadD (ovl D.safe (J.k * halfN D.safe + (64 + sizeL J.l)) (recB J.gen J.l.length x)) := by
    rw [appD, if_pos hE]
    conv => lhs; rw [h.idle]
    show (runJ (loadD D.safe) (appS (D.safe.length / 64 / 2) J.k J.gen J.l x)).1 = _
    rw [hrun]
  have eX : appX J D x = 0 := by
    rw [appX, if_pos hE]
    conv => lhs; rw [h.idle]
    show (runJ (loadD D.safe) (appS (D.safe.length / 64 / 2) J.k J.gen J.l x)).2 = _
    rw [hrun]
  refine ⟨eX, eD, ⟨by rw [eD]; rfl, ?_⟩, ?_⟩
  · rw [eD, appJ, if_pos hE]
    exact hgood
  · rw [eD]
    show (ovl D.safe _ _).length / 64 = D.safe.length / 64
    rw [hlen]
theorem Log.rst {D : DkT} {J : JnT} (h : Log D J) (hg : J.gen + 1 < 18446744073709551616) {m : List Bs} (he : rstE D m = 0) : rstX J D m = 0 ∧ Log (rstD J D m) (rstJ J D m) ∧ sizeD (rstD J D m) = sizeD D ∧ rstD J D m = loadD (anewB D.safe (1 - J.k) (J.gen + 1) m) := by
  have hE := he
  unfold rstE at he
  by_cases h1 : ∃ x ∈ m, chkX x = 1
  · rw [if_pos h1] at he; cases he
  rw [if_neg h1] at he
  by_cases h2 : hsD D < 1 + secL m
  · rw [if_pos h2] at he; cases he
  have hx : ∀ x ∈ m, x ≠ [] ∧ x.length < 18446744073709551616 := fun x hx => by
    have h4 : ¬ chkX x = 1 := fun e => h1 ⟨x, hx, e⟩
    unfold chkX at h4
    by_cases h3 : x.length = 0 ∨ 1048576 < x.length
    · rw [if_pos h3] at h4; exact absurd rfl h4
    · exact ⟨fun e => h3 (Or.inl (by rw [e]; rfl)), by omega⟩
  have hfit : 1 + secL m ≤ D.safe.length / 64 / 2 := by
    show _ ≤ sizeD D / 2
    unfold hsD at h2
    omega
  have hk : 1 - J.k ≤ 1 := by omega
  have hN := halfN_eq D.safe
  have hrun := anew_run (b := D.safe) (gen := J.gen + 1) hk hfit
  have hkk : 1 - (1 - J.k) = J.k := by have := h.good.hk; omega
  obtain ⟨hgood, hlen⟩ := Good.anew (b := D.safe) (k := 1 - J.k) (gen := J.gen + 1) (l := m) hk (by omega) hg hx (by rw [hN, sizeL_eq]; omega) (by
    rw [hkk]
    obtain ⟨z, hz⟩ := h.good.half
    rw [hz, gen_head h.good.g1 h.good.g2]
    omega)
  have eD : rstD J D m = loadD (anewB D.safe (1 - J.k) (J.gen + 1) m) := by
    rw [rstD, if_pos hE]
    conv => lhs; rw [h.idle]
    show (runJ (loadD D.safe) (anewS (D.safe.length / 64 / 2) (1 - J.k) (J.gen + 1) m)).1 = _
    rw [hrun]
  have eX : rstX J D m = 0 := by
    rw [rstX, if_pos hE]
    conv => lhs; rw [h.idle]
    show (runJ (loadD D.safe) (anewS (D.safe.length / 64 / 2) (1 - J.k) (J.gen + 1) m)).2 = _
    rw [hrun]
  refine ⟨eX, ⟨by rw [eD]; rfl, ?_⟩, ?_, eD⟩
  · rw [eD, rstJ, if_pos hE]
    exact hgood
  · rw [eD]
    show (anewB D.safe _ _ _).length / 64 = D.safe.length / 64
    rw [hlen]
theorem dump_idle (s : Bs) : dumpD (loadD s) = s := rfl
theorem all_zero : ∀ (z : Bs), (∀ y ∈ z, y = 0) → z = List.replicate z.length 0
  | [], _ => rfl
  | y :: z, h => by
    rw [List.length_cons, List.replicate_succ, ← all_zero z (fun u hu => h u (by simp [hu])), h y (by simp)]
/-- of any bytes of eight sectors or more -/
theorem Log.open {s : Bs} (hs : 8 ≤ s.length / 64) (hsz : s.length < 18446744073709551616) (hg : (pickB s).2 + 1 < 18446744073709551616) : openX (loadD s) = 0 ∧ Log (openD (loadD s)) (openS (loadD s)).2 ∧ sizeD (openD (loadD s)) = s.length / 64 ∧ (openS (loadD s)).2.l = (readJ s).2 ∧ ((openS (loadD s)).2.gen = (readJ s).1 ∨ (openS (loadD s)).2.gen = (readJ s).1 + 1) := by
  have hz : ¬ sizeD (loadD s) < 8 := by show ¬ s.length / 64 < 8; omega
  have hN := halfN_eq s
  obtain ⟨k, gen, hp⟩ : ∃ k gen, pickB s = (k, gen) := ⟨_, _, rfl⟩
  rw [hp] at hg
  replace hg : gen + 1 < 18446744073709551616 := hg
  have hsd : hsD (loadD s) = s.length / 64 / 2 := rfl
  have hpk : k ≤ 1 ∧ gen = genH (halfB s k) ∧ genH (halfB s (1 - k)) ≤ gen ∧ (k = 1 → genH (halfB s 0) < gen) := by
    unfold pickB at hp
    by_cases hc : genH (halfB s 0) < genH (halfB s 1)
    · rw [if_pos hc] at hp
      cases hp
      exact ⟨Nat.le_refl _, rfl, Nat.le_of_lt hc, fun _ => hc⟩
    · rw [if_neg hc] at hp
      cases hp
      exact ⟨by omega, rfl, by show genH (halfB s 1) ≤ _; omega, fun h => by cases h⟩
  obtain ⟨hk, hge, ho1, ho2⟩ := hpk
  unfold openX openD
  rw [if_neg hz, if_neg hz]
  unfold openS readJ
  rw [dump_idle, hp, hsd]
  by_cases h0 : gen = 0
  · subst h0
    rw [if_pos rfl, if_pos rfl]
    have hrun := anew_run (b := s) (k := 0) (gen := 1) (l := []) (by omega) (by show 1 + 0 ≤ _; omega)
    have ho : genH (halfB s (1 - 0)) < 1 := by
      rcases Nat.le_one_iff_eq_zero_or_eq_one.1 hk with rfl | rfl
      · omega
      · have := ho2 rfl; omega
    obtain ⟨hgood, hlen⟩ := Good.anew (b := s) (k := 0) (gen := 1) (l := []) (by omega) (by omega) (by omega) (by simp) (by show 64 + 0 ≤ _; omega) ho
    show (runJ (loadD s) (anewS (s.length / 64 / 2) 0 1 [])).2 = 0 ∧ Log (runJ (loadD s) (anewS (s.length / 64 / 2) 0 1 [])).1 _ ∧ _
    rw [hrun]
    exact ⟨rfl, ⟨rfl, hgood⟩, by show (anewB s 0 1 []).length / 64 = _; rw [hlen], rfl, Or.inr rfl⟩
  · rw [if_neg h0, if_neg h0]
    have hgen := gen_is (half := halfB s k) (by omega)
    rw [← hge] at hgen
    have hlh := len_half (b := s) hk
    obtain ⟨l, e, hle⟩ : ∃ l e, recsOf gen (halfB s k) = (l, e) := ⟨_, _, rfl⟩
    have hinv := recs_inv (gen := gen) (half := halfB s k) ((halfB s k).length / 64) 64 0 (by omega)
    rw [show recsL gen (halfB s k) ((halfB s k).length / 64) 64 0 = (l, e) from hle] at hinv
    obtain ⟨i1, i2, i3, i4, i5⟩ := hinv
    replace i2 : e = 64 + sizeL l := i2
    replace i3 : e ≤ (halfB s k).length := i3
    have hle9 := half_le s
    rw [show (halfB s (k, gen).1) = halfB s k from rfl, show (k, gen).2 = gen from rfl, hle]
    show _ ∧ _
    by_cases hzz : ∀ z ∈ (halfB s k).drop e, z = 0
    · rw [if_pos hzz]
      refine ⟨rfl, ⟨rfl, hk, by show 1 ≤ gen; omega, by show gen < _; omega, ⟨((halfB s k).drop e).length, ?_⟩, ?_, ho1, ho2⟩, rfl, rfl, Or.inl rfl⟩
      · show halfB s k = _
        rw [← hgen.1, ← all_zero _ hzz]
        have e1 : recsB gen 0 l = ((halfB s k).drop 64).take (sizeL l) := i1.symm
        rw [e1, i2, ← List.drop_drop, List.take_append_drop, List.take_append_drop]
      · intro x hx
        have := i4 x hx
        exact ⟨this.1, by omega⟩
    · rw [if_neg hzz]
      have hsl : 1 + secL l ≤ s.length / 64 / 2 := by
        have := sizeL_eq l
        omega
      have hk2 : 1 - k ≤ 1 := by omega
      have hkk : 1 - (1 - k) = k := by omega
      have hrun := anew_run (b := s) (k := 1 - k) (gen := gen + 1) (l := l) hk2 hsl
      obtain ⟨hgood, hlen⟩ := Good.anew (b := s) (k := 1 - k) (gen := gen + 1) (l := l) hk2 (by omega) hg (fun x hx => ⟨(i4 x hx).1, by have := (i4 x hx).2; omega⟩) (by rw [hN, sizeL_eq]; omega) (by rw [hkk, ← hge]; omega)
      show (runJ (loadD s) (anewS (s.length / 64 / 2) (1 - k) (gen + 1) l)).2 = 0 ∧ Log (runJ (loadD s) (anewS (s.length / 64 / 2) (1 - k) (gen + 1) l)).1 _ ∧ _
      rw [hrun]
      exact ⟨rfl, ⟨rfl, hgood⟩, by show (anewB s (1 - k) (gen + 1) l).length / 64 = _; rw [hlen], rfl, Or.inr rfl⟩
/-- the first sectors of both halves: no generation from 2^16 on can be read there -/
def lowB (x : Bs) : Prop := ∀ j, 1 ≤ j → j ≤ 6 → x[j]? = some 0
def lowS (b : Bs) (s : Nat) : Prop := ∀ j, 1 ≤ j → j ≤ 6 → b[64 * s + j]? = some 0
structure lowD (hs : Nat) (D : DkT) : Prop where
  safe : ∀ s, s = 0 ∨ s = hs → lowS D.safe s
  wait : ∀ p ∈ D.wait, p.1 = 0 ∨ p.1 = hs → lowB p.2
  len : ∀ p ∈ D.wait, p.2.length = 64 ∧ 64 * p.1 + 64 ≤ D.safe.length
theorem low_lay {b x : Bs} {at_ n s : Nat} (h : lowS b s) (hb : 64 * at_ + 64 ≤ b.length) (hx : x.length = 64) (hn : n ≤ 64) (hl : at_ = s → lowB x) : lowS (layD b at_ x n) s := fun j h1 h2 => by
  rw [layD_at (by omega) (by omega)]
  by_cases hc : 64 * at_ ≤ 64 * s + j ∧ 64 * s + j < 64 * at_ + n
  · rw [if_pos hc]
    have e : at_ = s := by omega
    subst e
    rw [show 64 * at_ + j - 64 * at_ = j by omega]
    exact hl rfl j h1 h2
  · rw [if_neg hc]
    exact h j h1 h2
theorem low_dump {hs s : Nat} (hss : s = 0 ∨ s = hs) : ∀ (l : List (Nat × Bs)) (b : Bs), lowS b s → (∀ p ∈ l, p.1 = 0 ∨ p.1 = hs → lowB p.2) → (∀ p ∈ l, p.2.length = 64 ∧ 64 * p.1 + 64 ≤ b.length) → lowS (dumpW b l) s
  | [], b, h, _, _ => h
  | p :: l, b, h, hl, hn => by
    have h1 := hn p (by simp)
    show lowS (dumpW (layD b p.1 p.2 64) l) s
    refine low_dump hss l _ (low_lay h h1.2 h1.1 (Nat.le_refl _) (fun e => hl p (by simp) (by rw [e]; exact hss))) (fun q hq => hl q (by simp [hq])) (fun q hq => ?_)
    rw [len_layD (by omega) (by omega)]
    exact hn q (by simp [hq])
theorem lowD.put {hs : Nat} {D : DkT} (h : lowD hs D) {p : Nat × Bs} (hp : p.1 = 0 ∨ p.1 = hs → lowB p.2) (hn : p.2.length = 64 ∧ 64 * p.1 + 64 ≤ D.safe.length) : lowD hs (putD13 D (p.1 : Int) p.2) := by
  have e := size_put D (p.1 : Int) p.2
  have hm : ∀ q ∈ (putD13 D (p.1 : Int) p.2).wait, q ∈ D.wait ∨ q = p := fun q hq => by
    unfold putD13 at hq
    split at hq
    · exact Or.inl hq
    · split at hq
      · exact Or.inl hq
      · split at hq
        · exact Or.inl hq
        · rcases List.mem_append.1 hq with hq | hq
          · exact Or.inl hq
          · exact Or.inr (by rw [List.mem_singleton.1 hq, Int.toNat_natCast])
  refine ⟨fun s hs => by rw [e]; exact h.safe s hs, fun q hq hc => ?_, fun q hq => ?_⟩
  · rcases hm q hq with h1 | rfl
    · exact h.wait q h1 hc
    · exact hp hc
  · rw [e]
    rcases hm q hq with h1 | rfl
    · exact h.len q h1
    · exact hn
theorem lowD.sync {hs : Nat} {D : DkT} (h : lowD hs D) : lowD hs (syncD13 D) ∧ (syncD13 D).safe.length = D.safe.length := by
  have hl : ∀ (l : List (Nat × Bs)) (b : Bs), (∀ p ∈ l, p.2.length = 64 ∧ 64 * p.1 + 64 ≤ b.length) → (dumpW b l).length = b.length := by
    intro l
    induction l with
    | nil => intro b _; rfl
    | cons p l ih =>
      intro b hb
      have h1 := hb p (by simp)
      show (dumpW (layD b p.1 p.2 64) l).length = _
      have e : (layD b p.1 p.2 64).length = b.length := len_layD (by omega) (by omega)
      rw [ih _ (fun q hq => by rw [e]; exact hb q (by simp [hq])), e]
  unfold syncD13
  split
  · exact ⟨h, rfl⟩
  · split
    · exact ⟨⟨h.safe, h.wait, h.len⟩, rfl⟩
    · exact ⟨⟨fun s hs => low_dump hs D.wait D.safe (h.safe s hs) h.wait h.len, (fun p hp => by cases hp), (fun p hp => by cases hp)⟩, hl D.wait D.safe h.len⟩
theorem lowD.run {hs : Nat} : ∀ (S : List (Option (Nat × Bs))) (D : DkT), lowD hs D → (∀ p, some p ∈ S → (p.1 = 0 ∨ p.1 = hs → lowB p.2) ∧ p.2.length = 64 ∧ 64 * p.1 + 64 ≤ D.safe.length) → lowD hs (runJ D S).1 ∧ (runJ D S).1.safe.length = D.safe.length
  | [], D, h, _ => ⟨h, rfl⟩
  | some p :: S, D, h, hS => by
    have h1 := hS p (by simp)
    have h2 := h.put h1.1 h1.2
    have e : (putD13 D (p.1 : Int) p.2).safe.length = D.safe.length := by rw [size_put]
    rw [runJ]
    split
    · have := lowD.run S _ h2 (fun q hq => by rw [e]; exact hS q (by simp [hq]))
      exact ⟨this.1, by rw [this.2, e]⟩
    · exact ⟨h2, e⟩
  | none :: S, D, h, hS => by
    obtain ⟨h2, e⟩ := h.sync
    rw [runJ]
    split
    · have := lowD.run S _ h2 (fun q hq => by rw [e]; exact hS q (by simp [hq]))
      exact ⟨this.1, by rw [this.2, e]⟩
    · exact ⟨h2, e⟩
end Go.Proofs.YtopmeedmgjdcgaaGreatDoor
/- The walk of disk's Write (layer 13). -/
namespace Go.Proofs.YtopmeedmgjdcgaaGreatDoor
open Go.RowKit
set_option maxRecDepth 100000
theorem wp_appendV {o : Oper} {a : Act} {w : World} {K : Act → World → Prop} {Q : Exit → Act → World → Prop} (s x : Operand) (v : Value) (l : List (Nat × Bs)) (p : Nat × Bs) (gu : Nat)
    (hown : OwnV w v l) (hu : Blk w gu (wrC p) 109) (hp : p.2.length = 64) (hl : l.length < 1000000)
    (ho : o.op = .call { callee := .builtin .append, args := #[s, x], argTypes := #[92, 92] }) (hs : a.eval s = v) (hx : a.eval x = .slice (some ⟨gu, 0, none⟩) 1 1)
    (h : ∀ v' w', OwnV w' v' (l ++ [p]) → w.grownBy w' v.ownBlock → (v'.ownBlock = v.ownBlock ∨ v'.ownBlock = some w.heap.size) → K (a.put o.dst v') w') : o.wp Tryz.prog a w K Q := by
  obtain ⟨i0, hi, hz0, hz1, hz2⟩ := info_parts Tryz.infoDw
  obtain ⟨v', w', hr, h2, h3, h4, h5⟩ := run_append_own_at (P := Tryz.prog) w 0 92 o.type 109 i0 (.agg (Value.int .i64 0 :: cb zs64).toArray) 65 72 Tryz.underlying92 hi hz0 hz1 hz2 (by show (Value.int .i64 0 :: cb zs64).toArray.size = 65; rw [List.size_toArray, List.length_cons, cb_len, len_zs64]) (by decide) v l.length (flatV l) hown ⟨gu, 0, none⟩ 1 1 (wrC p) (by rw [wrC_len hp]) (by intro j u hj; rw [Addr.add_mid, Nat.zero_add, hu.cell, hj]) (wrC_one p) (by unfold maxLen; omega) (by omega) (Nat.zero_le _)
  unfold Oper.wp execOp
  simp only [ho, resolve, invoke, builtin, Sem.run_bind, Sem.run_pure, Result.andThen_ok, List.map_toArray, List.map_cons, List.map_nil, hs, hx, hr]
  refine h v' w' ?_ h3 h5
  unfold OwnV
  rw [flatV_snoc, List.length_append]
  exact h2
theorem fill_one65 (cs : List Value) (h : cs.length = 65) (a0 : Array Value) (ha : a0.size = 65) : Instr.fill (fun i => some (i * 65, 65)) a0 [(0, .agg cs.toArray)] = some cs.toArray := by
  have e : a0 = ([] ++ (a0.toList ++ [])).toArray := by simp
  rw [e, fill_seg (vs := cs) (off := 0) (size := 65) (by simp) rfl (by simpa using ha) rfl h, Instr.fill]
  simp
theorem build_dw1 (f : Operand → Value) (o : Oper) (x : Operand) (ho : o.op = .buildSlice 92 1 #[(0, x)]) (p : Nat × Bs) (hp : p.2.length = 64) (hx : f x = .agg (wrC p).toArray) (w : World) :
    (execOp f o).run Tryz.prog w = .ok (.value (.slice (some ⟨w.heap.size, 0, none⟩) 1 1)) (w.alloc (.cells (wrC p).toArray 109)) := by
  obtain ⟨i0, hi, hz, hs, _⟩ := info_parts Tryz.infoDw
  have hr := run_buildSlice (P := Tryz.prog) w 92 109 1 #[(0, .agg (wrC p).toArray)] (wrC p).toArray i0 _ Tryz.underlying92 hi hz (by rw [hs]; decide) (by rw [hs]; decide) (by rw [hs]; exact fill_one65 (wrC p) (wrC_len hp) _ (by simp))
  unfold execOp
  rw [ho]
  simp only [List.map_toArray, List.map_cons, List.map_nil, hx, Sem.run_bind, hr, Result.andThen_ok, Sem.run_pure]
theorem built_dw (i : Int) : ∀ ps, ps = [(0, Value.int .i64 i)] → Tryz.prog.built 109 ps = some (Value.int .i64 i :: cb zs64).toArray := fun ps h => by subst h; kernel_rfl
theorem wpAnyH_cellV {md : Region.Mode} {ops : Array Oper} {Q : Exit → Act → World → Prop} {S : World → Prop} {fuel : Nat} {listed : Array Bool} {a : Act} {w : World} (i : Nat) {oi : Oper} (x y : Operand) (g k : Nat) (cs : List Value) (ad : Option Addr) (n c : Nat) (tb : TypeId) (hk : k < cs.length) (hb : Blk w g cs tb)
    (hr : Region.ready md ops listed = [i]) (hi : ops[i]? = some oi) (hw : Region.wanted oi (yielded ops a.tmps) = true) (ho : oi.op = .store 92 x y) (hx : a.eval x = .pointer (some ⟨g, k, none⟩)) (hy : a.eval y = .slice ad n c)
    (h : ∀ w', Blk w' g (cs.set k (.slice ad n c)) tb → Only g w w' → S w' ∧ wpAnyH Tryz.prog md ops Q S fuel (listed.setIfInBounds i true) (a.put oi.dst undef) w') : wpAnyH Tryz.prog md ops Q S (fuel + 1) listed a w := by
  have hc : w.cell? ⟨g, k, none⟩ = some cs[k] := by rw [hb.cell, List.getElem?_eq_getElem hk]
  have hf : w.frozen? ⟨g, k, none⟩ = false := hb.frozen k
  have he : (execOp a.eval oi).run Tryz.prog w = .ok .skip (w.setCell ⟨g, k, none⟩ (.slice ad n c)) := by
    clear h hw
    generalize a.eval = f at hx hy ⊢
    unfold execOp
    rw [ho]
    simp [go_sem, hx, hy, hc, hf]
  refine wpAnyH_law i hr hi hw ?_
  unfold Oper.wp
  rw [he, Oper.upon_skip]
  exact h _ (hb.set k _) (Only.setCell (Only.refl g w) k _)
theorem blk_grown {w w' : World} {g : Nat} {cs : List Value} {t : TypeId} {row : Option Nat} (h : Blk w g cs t) (hg : w.grownBy w' row) (hne : row ≠ some g) : Blk w' g cs t := blk_same h (hg.block g h.lt (fun e => hne e.symm))
theorem wpSeq_copyO {ops : Array Oper} {Q : Exit → Act → World → Prop} {rest : List Oper} {o : Oper} {a : Act} {w : World} (d s : Operand) (g k dLen dCap b off sLen sCap : Nat) (t : TypeId) (cs : List Value) (xs : Bs) (hg : Blk w g cs t) (hm : xs.length = min sLen dLen) (hk : k + xs.length ≤ cs.length)
    (hsrc : ∀ j, j < xs.length → w.cell? ⟨b, off + j, none⟩ = some (.int .u8 ((xs.getD j 0).toNat : Int))) (ho : o.op = .call { callee := .builtin .copy, args := #[d, s], argTypes := #[23, 23] }) (hx : a.eval d = .slice (some ⟨g, k, none⟩) dLen dCap) (hy : a.eval s = .slice (some ⟨b, off, none⟩) sLen sCap) (hw : Region.wanted o (yielded ops a.tmps) = true)
    (h : ∀ w', Blk w' g (cs.take k ++ cb xs ++ cs.drop (k + xs.length)) t → Only g w w' → wpList Tryz.prog ops Q rest (a.put o.dst (.int .i64 (xs.length : Int))) w') : wpList Tryz.prog ops Q (o :: rest) a w := by
  obtain ⟨w', h1, h2, h3⟩ := copyO a.eval o d s ho w g k dLen dCap b off sLen sCap t cs xs hg hm hk hsrc hx hy
  exact wpSeq_val _ _ hw h1 (h w' h2 h3)
theorem Reads.cellsAt {w : World} {b off n c : Nat} {l : Bs} (h : Reads w (.slice (some ⟨b, off, none⟩) n c) l) : ∀ j, j < l.length → w.cell? ⟨b, off + j, none⟩ = some (.int .u8 ((l.getD j 0).toNat : Int)) := fun j hj => by
  obtain ⟨b', off', h1, h2⟩ := h.atB (Nat.lt_of_le_of_lt (Nat.zero_le _) hj)
  simp only [Option.some.injEq, Addr.mk.injEq, and_true] at h1
  obtain ⟨rfl, rfl⟩ := h1
  exact h2 j hj
theorem wr_copied (k : Nat) {b : Bs} (hb : b.length = 64) : (wrC (k, zs64)).take 1 ++ cb b ++ (wrC (k, zs64)).drop (1 + b.length) = wrC (k, b) := by
  have e : (wrC (k, zs64)).drop (1 + b.length) = [] := List.drop_of_length_le (by rw [wrC_len len_zs64, hb]; exact Nat.le_refl _)
  rw [e, List.append_nil]
  rfl
/-- what a write leaves ahead of the change -/
def wtD (D : DkT) (k : Nat) (b : Bs) : DkT := ⟨D.safe, D.wait ++ [(k, b)], D.left, D.down⟩
theorem okD.wt {D : DkT} (h : okD D) {k : Nat} {b : Bs} (hk : k < sizeD D) (hb : b.length = 64) : okD (wtD D k b) := by
  obtain ⟨h1, h2, h3⟩ := h.size
  refine ⟨⟨sizeD D, h2, h3, h1, fun p hp => ?_⟩, h.lo, h.hi⟩
  rcases List.mem_append.1 hp with hp | hp
  · exact h.wait p hp
  · rw [List.mem_singleton.1 hp]; exact ⟨hk, hb⟩
set_option maxRecDepth 100000 in
set_option maxHeartbeats 8000000 in
theorem dkWrite_any {w : World} {g : Nat} {P : Nat → Prop} {D : DkT} (i : Int) (v : Value) (b : Bs) (h : DkIs w g P D) (hw2 : D.wait.length ≤ 200) (hr : Sta P w (fun W => Reads W v b)) : Calls Tryz.prog 89 #[.pointer (some ⟨g, 0, none⟩), .int .i64 i, v] w fun r w' => ∃ P', r = .returned (.int .i64 (putX13 D i b)) ∧ DkIs w' g P' (putD13 D i b) ∧ Mut P w w' ∧ Grew w P P' := by
  have HK : Hid (DkIs w g P D) := h
  obtain ⟨gs, vw, fu, lf, hm, hP⟩ := h
  subst hP
  have HRF : Hid (Calls Tryz.prog 111 #[.pointer (some ⟨g, 0, none⟩), .int .i64 i] w fun r w' => r = .returned (.int .i64 (readX13 D i)) ∧ w' = w) := dkRefused_any i hm
  by_cases hx : readX13 D i = 0
  case neg =>
    have q1 : (readX13 D i == 0) = false := by rw [beq_eq_false_iff_ne]; exact hx
    have HE : Hid (putD13 D i b = D ∧ putX13 D i b = readX13 D i) := by
      unfold putD13 putX13 readX13
      unfold readX13 at hx
      by_cases h3 : D.down = true
      · rw [if_pos h3, if_pos h3, if_pos h3]; exact ⟨rfl, rfl⟩
      · rw [if_neg h3] at hx
        rw [if_neg h3, if_neg h3, if_neg h3]
        by_cases h4 : hasD D i = false
        · rw [if_pos h4, if_pos h4, if_pos h4]; exact ⟨rfl, rfl⟩
        · rw [if_neg h4] at hx; exact absurd rfl hx
    rw [HE.out.1, HE.out.2]
    obtain ⟨xx, HXX⟩ : ∃ x, Hid (x = readX13 D i) := ⟨_, rfl⟩
    rw [← HXX.out] at HRF q1
    rw [← HXX.out]
    clear hx hm hw2 hr
    go_enter Tryz.func89, Tryz.ntmps89
    have tk0 : Hid True := trivial
    go_wp2_with (first
    | (clear tk0; go_at_call 111; refine (HRF.out).mono ?_; rintro e0 y0 ⟨rfl, rfl⟩))
    go_ret
    exact ⟨_, rfl, HK.out, Mut.refl _ _, Grew.refl _ _⟩
  case pos =>
    have h1 : D.down = false ∧ 0 ≤ i ∧ i < (sizeD D : Int) := by
      unfold readX13 at hx
      cases hd : D.down with
      | true => rw [hd] at hx; simp at hx
      | false =>
        rw [hd, if_neg (by decide)] at hx
        refine ⟨rfl, ?_⟩
        by_cases hh : hasD D i = false
        · rw [if_pos hh] at hx; simp at hx
        · rw [hasD_not] at hh
          exact Decidable.not_not.1 hh
    obtain ⟨k, rfl⟩ := Int.eq_ofNat_of_zero_le h1.2.1
    have HKS : Hid (k < sizeD D) := by show _ < _; have := h1.2.2; omega
    have hdn := h1.1
    have hha : ¬ (hasD D (k : Int) = false) := by rw [hasD_not]; exact fun h => h ⟨h1.2.1, h1.2.2⟩
    rw [hx] at HRF
    obtain ⟨adb, cb9, hv, hcb, hnb, hxb⟩ := id hr.now
    by_cases hb : b.length = 64
    case neg =>
      have HE : Hid (putD13 D (k : Int) b = D ∧ putX13 D (k : Int) b = 1) := by
        constructor
        · rw [putD13, if_neg (by rw [hdn]; decide), if_neg hha, if_pos hb]
        · rw [putX13, if_neg (by rw [hdn]; decide), if_neg hha, if_pos hb]
      rw [HE.out.1, HE.out.2]
      obtain ⟨lb, HLB⟩ : ∃ x, Hid (x = b.length) := ⟨_, rfl⟩
      rw [← HLB.out] at hv hb
      subst hv
      have q2 : ((lb : Int) == 64) = false := by rw [beq_eq_false_iff_ne]; omega
      clear hx hm hw2 hr h1 hdn hha hcb hnb hxb hb
      go_enter Tryz.func89, Tryz.ntmps89
      have tk0 : Hid True := trivial
      go_wp2_with (first
      | (clear tk0; go_at_call 111; refine (HRF.out).mono ?_; rintro e0 y0 ⟨rfl, rfl⟩))
      go_ret
      exact ⟨_, rfl, HK.out, Mut.refl _ _, Grew.refl _ _⟩
    case pos =>
      have HE : Hid (putD13 D (k : Int) b = chD (wtD D k b) ∧ putX13 D (k : Int) b = if (wtD D k b).left = 0 then 14 else 0) := by
        constructor
        · rw [putD13, if_neg (by rw [hdn]; decide), if_neg hha, if_neg (by rw [hb]; decide), Int.toNat_natCast]; rfl
        · rw [putX13, if_neg (by rw [hdn]; decide), if_neg hha, if_neg (by rw [hb]; decide)]; rfl
      rw [HE.out.1, HE.out.2]
      obtain ⟨bb, offb, hadb, _⟩ := hxb (by omega)
      subst hadb
      rw [hb] at hv
      subst hv
      have HB6 : Hid (b.length = 64) := hb
      have HRD : Hid (Sta (dkP g gs vw) w (fun W => Reads W (.slice (some ⟨bb, offb, none⟩) 64 cb9) b)) := hr
      have HDW : Hid ((wtD D k b).down = false) := hdn
      have HW2 : Hid (D.wait.length ≤ 200) := hw2
      have HMN : Hid (b.length = min 64 64 ∧ 1 + b.length ≤ (wrC (k, zs64)).length) := ⟨by rw [hb]; rfl, by rw [hb, wrC_len len_zs64]; exact Nat.le_refl _⟩
      clear hx hw2 hr hha hcb hnb hxb hb
      obtain ⟨n, HN⟩ : ∃ n, Hid (n = sizeD D) := ⟨_, rfl⟩
      obtain ⟨aw, cw, hvw⟩ := hm.wt.form
      obtain ⟨nw, HNW⟩ : ∃ n, Hid (n = D.wait.length) := ⟨_, rfl⟩
      rw [← HNW.out] at hvw
      subst hvw
      obtain ⟨dn, HDN⟩ : ∃ b, Hid (b = D.down) := ⟨_, rfl⟩
      have HM : Hid (DkM w g gs (.slice aw nw cw) fu lf D) := hm
      have HME : Hid (Blk w g [.slice (some ⟨gs, 0, none⟩) n n, .slice aw nw cw, .bool dn, .bool fu, .int .i64 lf] 94) := by have h9 := hm.me; rw [dkC, ← HN.out, ← HDN.out] at h9; exact h9
      obtain rfl : dn = false := by rw [HDN.out]; exact hdn
      clear hm h1 hdn HK
      obtain ⟨xx, HXX⟩ : ∃ x : Int, Hid (x = if (wtD D k b).left = 0 then 14 else 0) := ⟨_, rfl⟩
      rw [← HXX.out]
      go_enter Tryz.func89, Tryz.ntmps89
      have tk0 : Hid True := trivial
      have tk1 : Hid True := trivial
      have tk2 : Hid True := trivial
      have tk3 : Hid True := trivial
      have tk4 : Hid True := trivial
      have tk5 : Hid True := trivial
      go_wp2_with (first
    | (clear tk0; go_at_call 111; refine (HRF.out).mono ?_; rintro e0 y0 ⟨rfl, rfl⟩)
    | (clear tk1; with_reducible refine wpSeq_build 109 [(0, .tmp 18)] (wrC (k, zs64)) ?_ ?_ ?_ ?_
       rotate_left
       · rfl
       · rfl
       rotate_left
       · exact built_dw _ _ rfl)
    | (clear tk2; with_reducible refine wpSeq_allocDw ?_ ?_ ?_
       · rfl
       · rfl
       intro g8 y1 nn
       have HG8 : Hid (Blk y1 g8 (wrC (0, zs64)) 109) := nn.blk
       have HBW : Hid (Below y0.heap.size y0 y1) := nn.below
       have HGE : Hid (y0.heap.size ≤ g8) := nn.ge
       clear nn)
    | (clear tk3; with_reducible refine wpSeq_storeRow 109 (.tmp 8) (.tmp 19) g8 (wrC (0, zs64)) (wrC (k, zs64)) HG8.out (by rw [wrC_len len_zs64, wrC_len len_zs64]) (sz_wr len_zs64) (wrC_one _) ?_ ?_ ?_ ?_ ?_
       · rfl
       · rfl
       · rfl
       · rfl
       intro y2 hs
       replace HG8 : Hid (Blk y2 g8 (wrC (k, zs64)) 109) := hs.blk
       replace HBW : Hid (Below y0.heap.size y0 y2) := HBW.out.trans (hs.only.below HGE.out HBW.out.size)
       clear hs)
    | (clear tk4; with_reducible refine wpSeq_sliceSec (.tmp 20) g8 1 ?_ ?_ ?_ ?_
       · rfl
       · rfl
       · rfl)
    | (clear tk5; with_reducible refine wpSeq_copyO (.tmp 21) (.tmp 22) g8 1 64 64 bb offb 64 cb9 109 (wrC (k, zs64)) b HG8.out HMN.out.1 HMN.out.2 ?_ ?_ ?_ ?_ ?_ ?_
       · exact (HRD.out.at (mut_below HBW.out _)).cellsAt
       · rfl
       · rfl
       · rfl
       · rfl
       intro y3 hb3 ho3
       replace HG8 : Hid (Blk y3 g8 (wrC (k, b)) 109) := by rw [wr_copied k HB6.out] at hb3; exact hb3
       replace HBW : Hid (Below y0.heap.size y0 y3) := HBW.out.trans (ho3.below HGE.out HBW.out.size)
       clear hb3 ho3)
    | fail)
      refine wp_region_held_drew (S := fun wx => Blk wx g8 (wrC (k, b)) 109) (by kernel_rfl) HG8.out.drew ?_
      intro hS
      have HBD : Hid (Below y0.heap.size y0 y3.drew) := ⟨HBW.out.os, HBW.out.tape, HBW.out.output, HBW.out.size, HBW.out.block⟩
      clear HBW HG8
      change wpAnyH _ _ _ _ _ _ _ _ (World.drew y3)
      generalize World.drew y3 = y4 at *
      refine wpAnyH_take (i := 0) (v := .pointer (some ⟨g, 0, none⟩)) rfl (by kernel_rfl) (by kernel_rfl) (by kernel_rfl) (fun _ _ _ h => h) (Or.inl ⟨by rfl, fun wx hx => by simp [go_sem]⟩) hS ?_
      simp only [Act.put, List.getElem_toArray, List.getElem_cons_zero, List.setIfInBounds_toArray, List.set_cons_zero, List.set_cons_succ]
      refine wpAnyH_take (i := 1) (v := .pointer (some ⟨g, 0, none⟩)) rfl (by kernel_rfl) (by kernel_rfl) (by kernel_rfl) (fun _ _ _ h => h) (Or.inl ⟨by rfl, fun wx hx => by simp [go_sem]⟩) hS ?_
      simp only [Act.put, List.getElem_toArray, List.getElem_cons_succ, List.getElem_cons_zero, List.setIfInBounds_toArray, List.set_cons_zero, List.set_cons_succ]
      refine wpAnyH_take (i := 2) (v := .pointer (some ⟨g, 0, none⟩)) rfl (by kernel_rfl) (by kernel_rfl) (by kernel_rfl) (fun _ _ _ h => h) (Or.inl ⟨by rfl, fun wx hx => by simp [go_sem]⟩) hS ?_
      simp only [Act.put, List.getElem_toArray, List.getElem_cons_succ, List.getElem_cons_zero, List.setIfInBounds_toArray, List.set_cons_zero, List.set_cons_succ]
      refine wpAnyH_take (i := 3) (v := .pointer (some ⟨g, 1, none⟩)) rfl (by kernel_rfl) (by kernel_rfl) (by kernel_rfl) (fun _ _ _ h => h) (Or.inl ⟨by rfl, fun wx hx => by simp [go_sem]⟩) hS ?_
      simp only [Act.put, List.getElem_toArray, List.getElem_cons_succ, List.getElem_cons_zero, List.setIfInBounds_toArray, List.set_cons_zero, List.set_cons_succ]
      refine wpAnyH_take (i := 5) (v := .agg (wrC (k, b)).toArray) rfl (by kernel_rfl) (by kernel_rfl) (by kernel_rfl) (fun _ _ _ h => h) (Or.inl ⟨by rfl, fun wx hx => by exact loadWr g8 0 (k, b) HB6.out _ rfl rfl (Blk.range hx)⟩) hS ?_
      simp only [Act.put, List.getElem_toArray, List.getElem_cons_succ, List.getElem_cons_zero, List.setIfInBounds_toArray, List.set_cons_zero, List.set_cons_succ]
      have HM4 : Hid (DkM y4 g gs (.slice aw nw cw) fu lf D) := HM.out.below HBD.out
      have HME4 : Hid (Blk y4 g [.slice (some ⟨gs, 0, none⟩) n n, .slice aw nw cw, .bool false, .bool fu, .int .i64 lf] 94) := HME.out.below HBD.out HME.out.lt
      have hce : y4.cell? ⟨g, 1, none⟩ = some (.slice aw nw cw) := HME4.out.cell 1
      obtain ⟨y5, HY5⟩ : ∃ y5, Hid (y5 = y4.alloc (.cells (wrC (k, b)).toArray 109)) := ⟨_, rfl⟩
      have HB5 : Hid (Below y4.heap.size y4 y5) := by rw [HY5.out]; exact below_alloc _ _
      have hce2 : y5.cell? ⟨g, 1, none⟩ = some (.slice aw nw cw) := (HME4.out.below HB5.out HME4.out.lt).cell 1
      have HU : Hid (Blk y5 y4.heap.size (wrC (k, b)) 109) := by rw [HY5.out]; exact Blk.new _ _ _
      have hS5 : Blk y5 g8 (wrC (k, b)) 109 := hS.below HB5.out hS.lt
      refine wpAnyH_comm 4 6 (.slice aw nw cw) (.slice (some ⟨y4.heap.size, 0, none⟩) 1 1) y5 (by kernel_rfl) rfl rfl (by rfl) (by rfl) (by rfl) (by rfl) (by simp [go_sem, hce]) (by rw [HY5.out]; exact build_dw1 _ _ _ rfl (k, b) HB6.out rfl _) (by simp [go_sem, hce2]) (by rw [HY5.out]; exact build_dw1 _ _ _ rfl (k, b) HB6.out rfl _) (by kernel_rfl) (by kernel_rfl) rfl rfl hS hS5 ?_
      simp only [Act.put, List.getElem_toArray, List.getElem_cons_succ, List.getElem_cons_zero, List.setIfInBounds_toArray, List.set_cons_zero, List.set_cons_succ]
      have HM5 : Hid (DkM y5 g gs (.slice aw nw cw) fu lf D) := HM4.out.below HB5.out
      have HBD5 : Hid (Below y0.heap.size y0 y5) := HBD.out.trans (HB5.out.mono HBD.out.size)
      have HY4 : Hid (y0.heap.size ≤ y4.heap.size) := HBD.out.size
      clear hce hce2 hS
      refine wpAnyH_law 7 (by kernel_rfl) rfl (by rfl) (wp_appendV (.tmp 28) (.tmp 30) (.slice aw nw cw) D.wait (k, b) y4.heap.size HM5.out.wt HU.out HB6.out (Nat.lt_of_le_of_lt HW2.out (by decide)) rfl rfl rfl ?_)
      intro v6 y6 ho6 hg6 hn6
      have HO8 : Hid ((Value.slice aw nw cw).ownBlock ≠ some g8) := fun e => absurd (HM.out.wt.lt g8 e) (by have := HGE.out; omega)
      have HS6 : Blk y6 g8 (wrC (k, b)) 109 := blk_grown hS5 hg6 HO8.out
      refine ⟨HS6, ?_⟩
      obtain ⟨a6, c6, hv6⟩ := ho6.form
      obtain ⟨n6, HN6⟩ : ∃ n, Hid (n = (D.wait ++ [(k, b)]).length) := ⟨_, rfl⟩
      rw [← HN6.out] at hv6
      subst hv6
      have HME6 : Hid (Blk y6 g [.slice (some ⟨gs, 0, none⟩) n n, .slice aw nw cw, .bool false, .bool fu, .int .i64 lf] 94) := blk_grown ((HME4.out.below HB5.out HME4.out.lt)) hg6 HM.out.ne.2.1
      have HSF6 : Hid (Blk y6 gs (cb D.safe) 107) := blk_grown HM5.out.sf hg6 HM.out.ne.2.2
      simp only [Act.put, List.getElem_toArray, List.getElem_cons_succ, List.getElem_cons_zero, List.setIfInBounds_toArray, List.set_cons_zero, List.set_cons_succ]
      refine wpAnyH_take (i := 8) (v := .pointer (some ⟨g, 0, none⟩)) rfl (by kernel_rfl) (by kernel_rfl) (by kernel_rfl) (fun _ _ _ h => h) (Or.inl ⟨by rfl, fun wx hx => by simp [go_sem]⟩) HS6 ?_
      simp only [Act.put, List.getElem_toArray, List.getElem_cons_succ, List.getElem_cons_zero, List.setIfInBounds_toArray, List.set_cons_zero, List.set_cons_succ]
      refine wpAnyH_take (i := 9) (v := .pointer (some ⟨g, 1, none⟩)) rfl (by kernel_rfl) (by kernel_rfl) (by kernel_rfl) (fun _ _ _ h => h) (Or.inl ⟨by rfl, fun wx hx => by simp [go_sem]⟩) HS6 ?_
      simp only [Act.put, List.getElem_toArray, List.getElem_cons_succ, List.getElem_cons_zero, List.setIfInBounds_toArray, List.set_cons_zero, List.set_cons_succ]
      refine wpAnyH_cellV 10 (.tmp 33) (.tmp 31) g 1 _ a6 n6 c6 94 (by simp) HME6.out (by kernel_rfl) rfl (by rfl) rfl rfl rfl ?_
      intro y7 hb7 ho7
      have HB7 : Hid (Blk y7 g [.slice (some ⟨gs, 0, none⟩) n n, .slice a6 n6 c6, .bool false, .bool fu, .int .i64 lf] 94) := hb7
      refine ⟨HS6.only ho7 (Ne.symm (HME6.out.neT HS6 (by decide))), ?_⟩
      have HM7 : Hid (DkM y7 g gs (.slice a6 n6 c6) fu lf (wtD D k b)) := by
        have hne := ho6.ne HME6.out (by decide)
        refine ⟨?_, HSF6.out.only ho7 (Ne.symm (HME6.out.neT HSF6.out (by decide))), ho6.same (fun j hj => ho7.block j (fun e => hne (e ▸ hj)) (ho6.lt j hj)), HM.out.ok.wt HKS.out HB6.out, HM.out.fs, HM.out.ls⟩
        show Blk y7 g (dkC gs (sizeD D) _ D.down fu lf) _
        rw [← HN.out, ← HDN.out]
        exact HB7.out
      have HMU : Hid (Mut (dkP g gs (.slice aw nw cw)) y0 y7) := by
        have m1 : Mut (dkP g gs (.slice aw nw cw)) y5 y6 := ⟨hg6.os, hg6.tape, hg6.output, hg6.size, fun j hj hn => hg6.block j hj (fun e => hn (Or.inr (Or.inr e.symm)))⟩
        exact ((mut_below HBD5.out _).trans (fun _ _ h => h) m1).trans (fun _ _ h => h) (ho7.mut (Or.inl rfl))
      have HGW : Hid (Grew y0 (dkP g gs (.slice aw nw cw)) (dkP g gs (.slice a6 n6 c6))) := by
        intro j hj
        rcases hj with rfl | rfl | hj
        · exact Or.inl (Or.inl rfl)
        · exact Or.inl (Or.inr (Or.inl rfl))
        · rcases hn6 with e | e
          · exact Or.inl (Or.inr (Or.inr (by rw [← e]; exact hj)))
          · rw [e] at hj
            cases hj
            exact Or.inr HBD5.out.size
      clear hb7 ho7 ho6 hg6 hn6 HS6 HME6 HSF6 HU hS5
      simp only [Act.put, List.getElem_toArray, List.getElem_cons_succ, List.getElem_cons_zero]
      refine wpAnyH_done (by kernel_rfl) ?_ _
      have HCH : Hid (Calls Tryz.prog 117 #[.pointer (some ⟨g, 0, none⟩)] y7 fun r w' => ∃ lf', r = .returned (.int .i64 xx) ∧ DkM w' g gs (.slice a6 n6 c6) fu lf' (chD (wtD D k b)) ∧ Only g y7 w') := by rw [HXX.out]; exact dkChange_any HDW.out HM7.out
      have tk6 : Hid True := trivial
      go_wp2_with (first
        | (clear tk6; go_at_call 117; refine (HCH.out).mono ?_; rintro e0 y8 ⟨lf8, rfl, hm8, ho8⟩
           have HM8 : Hid (DkM y8 g gs (.slice a6 n6 c6) fu lf8 (chD (wtD D k b))) := hm8
           replace HMU : Hid (Mut (dkP g gs (.slice aw nw cw)) y0 y8) := HMU.out.trans (fun _ _ h => h) (ho8.mut (Or.inl rfl))
           clear hm8 ho8))
      go_ret
      exact ⟨_, rfl, ⟨gs, .slice a6 n6 c6, fu, lf8, HM8.out, rfl⟩, HMU.out, HGW.out⟩
end Go.Proofs.YtopmeedmgjdcgaaGreatDoor
/- The walk of disk's Sync (layer 13). -/
namespace Go.Proofs.YtopmeedmgjdcgaaGreatDoor
open Go.RowKit
set_option maxRecDepth 100000
theorem wpSeq_cellV {ops : Array Oper} {Q : Exit → Act → World → Prop} {rest : List Oper} {o : Oper} {a : Act} {w : World} (x y : Operand) (g k : Nat) (cs : List Value) (ad : Option Addr) (n c : Nat) (tb : TypeId) (hk : k < cs.length) (hb : Blk w g cs tb) (ho : o.op = .store 92 x y) (hx : a.eval x = .pointer (some ⟨g, k, none⟩)) (hy : a.eval y = .slice ad n c) (hw : Region.wanted o (yielded ops a.tmps) = true)
    (h : ∀ w', Blk w' g (cs.set k (.slice ad n c)) tb → Only g w w' → wpList Tryz.prog ops Q rest (a.put o.dst undef) w') : wpList Tryz.prog ops Q (o :: rest) a w := by
  have hc : w.cell? ⟨g, k, none⟩ = some cs[k] := by rw [hb.cell, List.getElem?_eq_getElem hk]
  have hf : w.frozen? ⟨g, k, none⟩ = false := hb.frozen k
  have he : (execOp a.eval o).run Tryz.prog w = .ok .skip (w.setCell ⟨g, k, none⟩ (.slice ad n c)) := by
    clear h hw
    generalize a.eval = f at hx hy ⊢
    unfold execOp
    rw [ho]
    simp [go_sem, hx, hy, hc, hf]
  unfold wpList
  simp only [hw, if_true]
  left
  unfold Oper.wp
  rw [he, Oper.upon_skip]
  exact h _ (hb.set k _) (Only.setCell (Only.refl g w) k _)
theorem getD_memV2 {l : List (Nat × Bs)} {k : Nat} (hk : k < l.length) : l.getD k (0, []) ∈ l ∧ l.take (k + 1) = l.take k ++ [l.getD k (0, [])] := by
  have e : l.getD k (0, []) = l[k] := by rw [List.getD_eq_getElem?_getD, List.getElem?_eq_getElem hk]; rfl
  rw [e]
  exact ⟨List.getElem_mem hk, take_snocW hk⟩
theorem lay_store {b x : Bs} {at_ : Nat} (hx : x.length = 64) : (cb b).take (64 * at_) ++ cb x ++ (cb b).drop (64 * at_ + (cb x).length) = cb (layD b at_ x 64) := by
  rw [cb_len, hx, layD, List.take_of_length_le (Nat.le_of_eq hx)]
  simp [cb]
theorem wpAnyH_storeSec {md : Region.Mode} {ops : Array Oper} {Q : Exit → Act → World → Prop} {S : World → Prop} {fuel : Nat} {listed : Array Bool} {a : Act} {w : World} (i : Nat) {oi : Oper} (x y : Operand) (gs k : Nat) (z v : Bs) (t : TypeId) (hb : Blk w gs (cb z) t) (hv : v.length = 64) (hk : 64 * k + 64 ≤ z.length)
    (hr : Region.ready md ops listed = [i]) (hi : ops[i]? = some oi) (hw : Region.wanted oi (yielded ops a.tmps) = true) (ho : oi.op = .store 107 x y) (hx : a.eval x = .pointer (some ⟨gs, 64 * k, none⟩)) (hy : a.eval y = .agg (cb v).toArray)
    (h : ∀ w', Blk w' gs (cb (layD z k v 64)) t → Only gs w w' → S w' ∧ wpAnyH Tryz.prog md ops Q S fuel (listed.setIfInBounds i true) (a.put oi.dst undef) w') : wpAnyH Tryz.prog md ops Q S (fuel + 1) listed a w := by
  refine wpAnyH_law i hr hi hw (wp_store_mid 107 x y ho gs (64 * k) (cb v).toArray hx hy (hb.there _ _ (by rw [List.size_toArray, cb_len, cb_len, hv]; exact hk)) (by rw [List.size_toArray]; exact sz_sec hv) (all_oneCell_toArray (cb_one v)) ?_)
  rw [List.toList_toArray]
  have h1 := setCells_eq gs (cb v) (64 * k) w (cb z) t hb (by rw [cb_len, cb_len, hv]; exact hk)
  rw [lay_store hv] at h1
  exact h _ h1 (Only.setCells _ _ _ (Only.refl gs w))
set_option maxRecDepth 100000 in
set_option maxHeartbeats 8000000 in
theorem dkSync_any {w : World} {g : Nat} {P : Nat → Prop} {D : DkT} (h : DkIs w g P D) (hw2 : D.wait.length ≤ 200) : Calls Tryz.prog 90 #[.pointer (some ⟨g, 0, none⟩)] w fun r w' => ∃ P', r = .returned (.int .i64 (syncX13 D)) ∧ DkIs w' g P' (syncD13 D) ∧ Mut P w w' ∧ Grew w P P' := by
  have HK : Hid (DkIs w g P D) := h
  obtain ⟨gs, vw, fu, lf, hm, hP⟩ := h
  subst hP
  obtain ⟨n, HN⟩ : ∃ n, Hid (n = sizeD D) := ⟨_, rfl⟩
  obtain ⟨aw, cw, hvw⟩ := hm.wt.form
  obtain ⟨nw, HNW⟩ : ∃ n, Hid (n = D.wait.length) := ⟨_, rfl⟩
  rw [← HNW.out] at hvw
  subst hvw
  obtain ⟨dn, HDN⟩ : ∃ b, Hid (b = D.down) := ⟨_, rfl⟩
  have HM : Hid (DkM w g gs (.slice aw nw cw) fu lf D) := hm
  have HME : Hid (Blk w g [.slice (some ⟨gs, 0, none⟩) n n, .slice aw nw cw, .bool dn, .bool fu, .int .i64 lf] 94) := by have h9 := hm.me; rw [dkC, ← HN.out, ← HDN.out] at h9; exact h9
  have c2 : w.cell? ⟨g, 2, none⟩ = some (.bool dn) := HME.out.cell 2
  have HW2 : Hid (nw ≤ 200) := by show _ ≤ _; rw [HNW.out]; exact hw2
  have HOK : Hid (okD D) := hm.ok
  cases dn with
  | true =>
    have HD1 : Hid (syncD13 D = D) := by show _ = _; rw [syncD13, ← HDN.out]; rfl
    have HX1 : Hid (syncX13 D = 14) := by show _ = _; rw [syncX13, ← HDN.out]; rfl
    rw [HD1.out, HX1.out]
    clear hm hw2
    go_enter Tryz.func90, Tryz.ntmps90
    go_wp2
    go_ret
    exact ⟨_, rfl, HK.out, Mut.refl _ _, Grew.refl _ _⟩
  | false =>
    have hch := dkChange_any HDN.out.symm hm
    clear hm hw2
    by_cases h0 : D.left = 0
    · have HD1 : Hid (syncD13 D = chD D) := by show _ = _; rw [syncD13, ← HDN.out, if_neg (by decide), if_pos h0, chD, h0]; rfl
      have HX1 : Hid (syncX13 D = 14) := by show _ = _; rw [syncX13, ← HDN.out, if_neg (by decide), if_pos h0]
      rw [if_pos h0] at hch
      have HCH : Hid (Calls Tryz.prog 117 #[.pointer (some ⟨g, 0, none⟩)] w fun r w' => ∃ lf', r = .returned (.int .i64 14) ∧ DkM w' g gs (.slice aw nw cw) fu lf' (chD D) ∧ Only g w w') := hch
      rw [HD1.out, HX1.out]
      clear hch h0
      go_enter Tryz.func90, Tryz.ntmps90
      have tk0 : Hid True := trivial
      go_wp2_with (first
        | (clear tk0; go_at_call 117; refine (HCH.out).mono ?_; rintro e0 y8 ⟨lf8, rfl, hm8, ho8⟩
           have HM8 : Hid (DkM y8 g gs (.slice aw nw cw) fu lf8 (chD D)) := hm8
           have HO8 : Hid (Only g w y8) := ho8
           clear hm8 ho8))
      go_ret
      exact ⟨_, rfl, ⟨gs, .slice aw nw cw, fu, lf8, HM8.out, rfl⟩, HO8.out.mut (Or.inl rfl), Grew.refl _ _⟩
    · have HX1 : Hid (syncX13 D = 0) := by show _ = _; rw [syncX13, ← HDN.out, if_neg (by decide), if_neg h0]
      have HD1 : Hid (syncD13 D = ⟨dumpD D, [], lessL D.left, false⟩) := by show _ = _; rw [syncD13, ← HDN.out, if_neg (by decide), if_neg h0]
      have HC1 : Hid (chD D = ⟨dumpW D.safe (D.wait.take 0), D.wait, lessL D.left, false⟩) := by show _ = _; rw [chD, decide_eq_false h0]; rfl
      rw [if_neg h0, HC1.out] at hch
      have HCH : Hid (Calls Tryz.prog 117 #[.pointer (some ⟨g, 0, none⟩)] w fun r w' => ∃ lf', r = .returned (.int .i64 0) ∧ DkM w' g gs (.slice aw nw cw) fu lf' ⟨dumpW D.safe (D.wait.take 0), D.wait, lessL D.left, false⟩ ∧ Only g w w') := hch
      rw [HD1.out, HX1.out]
      clear hch h0
      have HSZ : Hid (∀ k, sizeD ⟨dumpW D.safe (D.wait.take k), D.wait, lessL D.left, false⟩ = n) := fun k => by
        show (dumpW D.safe (D.wait.take k)).length / 64 = n
        rw [len_dumpW _ _ HOK.out.size.1 (fun q hq => HOK.out.wait q (List.mem_of_mem_take hq)), Nat.mul_div_cancel_left _ (by decide), HN.out]
      go_enter Tryz.func90, Tryz.ntmps90
      have tk0 : Hid True := trivial
      go_wp2_with (first
        | (clear tk0; go_at_call 117; refine (HCH.out).mono ?_; rintro e0 y8 ⟨lf8, rfl, hm8, ho8⟩
           have HM8 : Hid (DkM y8 g gs (.slice aw nw cw) fu lf8 ⟨dumpW D.safe (D.wait.take 0), D.wait, lessL D.left, false⟩) := hm8
           have HMU : Hid (Mut (dkP g gs (.slice aw nw cw)) w y8) := ho8.mut (Or.inl rfl)
           have HE8 : Hid (Blk y8 g [.slice (some ⟨gs, 0, none⟩) n n, .slice aw nw cw, .bool false, .bool fu, .int .i64 lf8] 94) := by have h9 := hm8.me; rw [dkC, HSZ.out] at h9; exact h9
           have c1 : y8.cell? ⟨g, 1, none⟩ = some (.slice aw nw cw) := HE8.out.cell 1
           clear hm8 ho8 c2))
      clear c1
      go_loopw [20] (fun i wr => ∃ k : Nat, k ≤ nw ∧ i = .int .i64 (k : Int) ∧ Hid (DkM wr g gs (.slice aw nw cw) fu lf8 ⟨dumpW D.safe (D.wait.take k), D.wait, lessL D.left, false⟩) ∧ Hid (Mut (dkP g gs (.slice aw nw cw)) w wr)) (fun i _ => nw - (intOf i).toNat)
      case atStart => exact ⟨0, Nat.zero_le _, rfl, HM8, HMU⟩
      case round =>
        obtain ⟨k, hkn, rfl, HI, HMX⟩ := hrel
        clear HM8 HMU HE8
        have HMK : Hid (Blk wr g [.slice (some ⟨gs, 0, none⟩) n n, .slice aw nw cw, .bool false, .bool fu, .int .i64 lf8] 94) := by have h9 := HI.out.me; rw [dkC, HSZ.out] at h9; exact h9
        by_cases hlt : k < nw
        case neg =>
          have hlk : ¬ ((k : Int) < (nw : Int)) := by omega
          have HEQ : Hid (D.wait.take k = D.wait) := List.take_of_length_le (by rw [← HNW.out]; omega)
          rw [HEQ.out] at HI
          have tk1 : Hid True := trivial
          go_wp2_with (first
            | (clear tk1; with_reducible refine wpSeq_cellV (.tmp 36) (.const (.slice none 0 0)) g 1 [.slice (some ⟨gs, 0, none⟩) n n, .slice aw nw cw, .bool false, .bool fu, .int .i64 lf8] none 0 0 94 (by simp) HMK.out ?_ ?_ ?_ ?_ ?_
               · rfl
               · rfl
               · rfl
               · rfl
               intro y9 hb9 ho9
               have HB9 : Hid (Blk y9 g [.slice (some ⟨gs, 0, none⟩) n n, .slice none 0 0, .bool false, .bool fu, .int .i64 lf8] 94) := hb9
               have HO9 : Hid (Only g wr y9) := ho9
               clear hb9 ho9))
          go_ret
          refine ⟨rfl, _, ⟨gs, .slice none 0 0, fu, lf8, HI.out.mine HO9.out ?_ rfl (OwnV.nil _) ?_ HI.out.fs HI.out.ls, rfl⟩, HMX.out.trans (fun _ _ h => h) (HO9.out.mut (Or.inl rfl)), ?_⟩
          · have h9 := HSZ.out k
            rw [HEQ.out] at h9
            show Blk y9 g (dkC gs (sizeD ⟨dumpW D.safe D.wait, D.wait, lessL D.left, false⟩) _ false fu lf8) _
            rw [h9]
            exact HB9.out
          · obtain ⟨m, h1, h2, h3, _⟩ := HI.out.ok.ex
            exact ⟨⟨m, h1, h2, h3, fun p hp => by cases hp⟩, HI.out.ok.lo, HI.out.ok.hi⟩
          · intro j hj
            rcases hj with rfl | rfl | hj
            · exact Or.inl (Or.inl rfl)
            · exact Or.inl (Or.inr (Or.inl rfl))
            · cases hj
        case pos =>
          have hlk : (k : Int) < (nw : Int) := by omega
          have HKN : Hid (k < nw) := hlt
          have HLT : Hid (k < D.wait.length) := by show _ < _; rw [← HNW.out]; exact hlt
          have f5 : IntKind.i64.wrap ((k : Int) + 1) = (k : Int) + 1 := by rw [IntKind.wrap_i64]; have := HW2.out; omega
          obtain ⟨hmem, htk⟩ := getD_memV2 HLT.out
          obtain ⟨b, rfl, hat⟩ := HI.out.wt.at (fun p hp => (HOK.out.wait p hp).2) (Nat.lt_of_le_of_lt (Nat.zero_le _) HLT.out)
          have hrg := hat k HLT.out
          replace hrg : wr.rangeAt b (k * 65) (wrC (D.wait.getD k (0, []))) := hrg
          obtain ⟨p, HPP⟩ : ∃ p, Hid (p = D.wait.getD k (0, [])) := ⟨_, rfl⟩
          rw [← HPP.out] at hmem htk hrg
          have HRG : Hid (wr.rangeAt b (k * 65) (wrC p)) := hrg
          have HTK : Hid (dumpW D.safe (D.wait.take (k + 1)) = layD (dumpW D.safe (D.wait.take k)) p.1 p.2 64) := by show _ = _; rw [htk, dumpW_snoc]
          have HPW : Hid (p.1 < n ∧ p.2.length = 64) := by rw [HN.out]; exact HOK.out.wait p hmem
          have HP6 : Hid (p.2.length = 64) := HPW.out.2
          have HSL : Hid ((wrC p).length = (wrC (0, zs64)).length) := by show _ = _; rw [wrC_len HP6.out, wrC_len (p := (0, zs64)) len_zs64]
          have HLN : Hid ((dumpW D.safe (D.wait.take k)).length = 64 * n) := by
            show _ = _
            rw [len_dumpW _ _ HOK.out.size.1 (fun q hq => HOK.out.wait q (List.mem_of_mem_take hq)), HN.out]
          clear hat hrg hmem htk
          have tk1 : Hid True := trivial
          have tk2 : Hid True := trivial
          have tk3 : Hid True := trivial
          have tk4 : Hid True := trivial
          go_wp2_with (first
    | (clear tk1; with_reducible refine wpSeq_idxWr (.tmp 18) (.tmp 20) b nw cw k HKN.out ?_ ?_ ?_ ?_ ?_
       · rfl
       · rfl
       · rfl
       · rfl)
    | (clear tk2; with_reducible refine wpSeq_loadW 109 (.tmp 22) b (k * 65) (wrC p) _ HRG.out Tryz.underlying109 rfl (sz_wr HP6.out) ?_ ?_ ?_ ?_
       · rfl
       · rfl
       · rfl)
    | (clear tk3; with_reducible refine wpSeq_allocDw ?_ ?_ ?_
       · rfl
       · rfl
       intro g5 y1 nn
       have HG5 : Hid (Blk y1 g5 (wrC (0, zs64)) 109) := nn.blk
       have HBW : Hid (Below wr.heap.size wr y1) := nn.below
       have HGE : Hid (wr.heap.size ≤ g5) := nn.ge
       clear nn)
    | (clear tk4; with_reducible refine wpSeq_storeRow 109 (.tmp 5) (.tmp 23) g5 (wrC (0, zs64)) (wrC p) HG5.out HSL.out (sz_wr HP6.out) (wrC_one _) ?_ ?_ ?_ ?_ ?_
       · rfl
       · rfl
       · rfl
       · rfl
       intro y2 hs
       replace HG5 : Hid (Blk y2 g5 (wrC p) 109) := hs.blk
       replace HBW : Hid (Below wr.heap.size wr y2) := HBW.out.trans (hs.only.below HGE.out HBW.out.size)
       clear hs)
    | fail)
          have HMK2 : Hid (Blk y2 g [.slice (some ⟨gs, 0, none⟩) n n, .slice (some ⟨b, 0, none⟩) nw cw, .bool false, .bool fu, .int .i64 lf8] 94) := HMK.out.below HBW.out HMK.out.lt
          refine wp_region_held_drew (S := fun wx => Blk wx g [.slice (some ⟨gs, 0, none⟩) n n, .slice (some ⟨b, 0, none⟩) nw cw, .bool false, .bool fu, .int .i64 lf8] 94 ∧ Blk wx g5 (wrC p) 109) (by kernel_rfl) ⟨HMK2.out.drew, HG5.out.drew⟩ ?_
          intro hS
          have HI2 : Hid (DkM y2.drew g gs (.slice (some ⟨b, 0, none⟩) nw cw) fu lf8 ⟨dumpW D.safe (D.wait.take k), D.wait, lessL D.left, false⟩) := HI.out.below HBW.out.drew
          have HMX2 : Hid (Mut (dkP g gs (.slice (some ⟨b, 0, none⟩) nw cw)) w y2.drew) := (HMX.out.trans (fun _ _ h => h) (mut_below HBW.out _)).drew
          clear HI HMX HBW HGE HG5 HMK2 HMK HRG
          change wpAnyH _ _ _ _ _ _ _ _ (World.drew y2)
          generalize World.drew y2 = y3 at *
          refine wpAnyH_take (i := 0) (v := .pointer (some ⟨g, 0, none⟩)) rfl (by kernel_rfl) (by kernel_rfl) (by kernel_rfl) (fun _ _ _ h => h) (Or.inl ⟨by rfl, fun wx hx => by simp [go_sem]⟩) hS ?_
          simp only [Act.put, List.getElem_toArray, List.getElem_cons_zero, List.setIfInBounds_toArray, List.set_cons_zero, List.set_cons_succ]
          refine wpAnyH_take (i := 1) (v := .pointer (some ⟨g, 0, none⟩)) rfl (by kernel_rfl) (by kernel_rfl) (by kernel_rfl) (fun _ _ _ h => h) (Or.inl ⟨by rfl, fun wx hx => by simp [go_sem]⟩) hS ?_
          simp only [Act.put, List.getElem_toArray, List.getElem_cons_succ, List.getElem_cons_zero, List.setIfInBounds_toArray, List.set_cons_zero, List.set_cons_succ]
          refine wpAnyH_take (i := 2) (v := .pointer (some ⟨g, 0, none⟩)) rfl (by kernel_rfl) (by kernel_rfl) (by kernel_rfl) (fun _ _ _ h => h) (Or.inl ⟨by rfl, fun wx hx => by simp [go_sem]⟩) hS ?_
          simp only [Act.put, List.getElem_toArray, List.getElem_cons_succ, List.getElem_cons_zero, List.setIfInBounds_toArray, List.set_cons_zero, List.set_cons_succ]
          refine wpAnyH_take (i := 3) (v := .slice (some ⟨gs, 0, none⟩) n n) rfl (by kernel_rfl) (by kernel_rfl) (by kernel_rfl) (fun _ _ _ h => h) (Or.inl ⟨by rfl, fun wx hx => by (have hc := hx.1.cell 0; simp at hc; simp [go_sem, hc])⟩) hS ?_
          simp only [Act.put, List.getElem_toArray, List.getElem_cons_succ, List.getElem_cons_zero, List.setIfInBounds_toArray, List.set_cons_zero, List.set_cons_succ]
          refine wpAnyH_take (i := 4) (v := .pointer (some ⟨g5, 0, none⟩)) rfl (by kernel_rfl) (by kernel_rfl) (by kernel_rfl) (fun _ _ _ h => h) (Or.inl ⟨by rfl, fun wx hx => by simp [go_sem]⟩) hS ?_
          simp only [Act.put, List.getElem_toArray, List.getElem_cons_succ, List.getElem_cons_zero, List.setIfInBounds_toArray, List.set_cons_zero, List.set_cons_succ]
          refine wpAnyH_take (i := 5) (v := .int .i64 (p.1 : Int)) rfl (by kernel_rfl) (by kernel_rfl) (by kernel_rfl) (fun _ _ _ h => h) (Or.inl ⟨by rfl, fun wx hx => by (have hc : wx.cell? ⟨g5, 0, none⟩ = some (.int .i64 (p.1 : Int)) := hx.2.cell 0; simp [go_sem, hc])⟩) hS ?_
          simp only [Act.put, List.getElem_toArray, List.getElem_cons_succ, List.getElem_cons_zero, List.setIfInBounds_toArray, List.set_cons_zero, List.set_cons_succ]
          refine wpAnyH_take (i := 6) (v := .pointer (some ⟨g5, 1, none⟩)) rfl (by kernel_rfl) (by kernel_rfl) (by kernel_rfl) (fun _ _ _ h => h) (Or.inl ⟨by rfl, fun wx hx => by simp [go_sem]⟩) hS ?_
          simp only [Act.put, List.getElem_toArray, List.getElem_cons_succ, List.getElem_cons_zero, List.setIfInBounds_toArray, List.set_cons_zero, List.set_cons_succ]
          refine wpAnyH_take (i := 7) (v := .agg (cb p.2).toArray) rfl (by kernel_rfl) (by kernel_rfl) (by kernel_rfl) (fun _ _ _ h => h) (Or.inl ⟨by rfl, fun wx hx => by exact loadSec g5 1 p.2 HP6.out _ rfl rfl (range_tail (off := 0) (Blk.range hx.2))⟩) hS ?_
          simp only [Act.put, List.getElem_toArray, List.getElem_cons_succ, List.getElem_cons_zero, List.setIfInBounds_toArray, List.set_cons_zero, List.set_cons_succ]
          refine wpAnyH_take (i := 8) (v := .pointer (some ⟨gs, 64 * p.1, none⟩)) rfl (by kernel_rfl) (by kernel_rfl) (by kernel_rfl) (fun _ _ _ h => h) (Or.inl ⟨by rfl, fun wx hx => by exact idxSec gs n p.1 HPW.out.1 _ _ _ _ rfl rfl rfl _⟩) hS ?_
          simp only [Act.put, List.getElem_toArray, List.getElem_cons_succ, List.getElem_cons_zero, List.setIfInBounds_toArray, List.set_cons_zero, List.set_cons_succ]
          refine wpAnyH_storeSec 9 (.tmp 32) (.tmp 31) gs p.1 _ p.2 107 HI2.out.sf HP6.out (by show _ ≤ (dumpW D.safe (D.wait.take k)).length; rw [HLN.out]; have := HPW.out.1; omega) (by kernel_rfl) rfl (by rfl) rfl rfl rfl ?_
          intro y4 hb4 ho4
          have hn := HI2.out.ne
          refine ⟨⟨hS.1.only ho4 hn.1, hS.2.only ho4 (hS.2.neT HI2.out.sf (by decide))⟩, ?_⟩
          have HI4 : Hid (DkM y4 g gs (.slice (some ⟨b, 0, none⟩) nw cw) fu lf8 ⟨dumpW D.safe (D.wait.take (k + 1)), D.wait, lessL D.left, false⟩) := by
            rw [HTK.out]
            exact HI2.out.sect ho4 hb4 (by show (layD (dumpW D.safe (D.wait.take k)) p.1 p.2 64).length = (dumpW D.safe (D.wait.take k)).length; rw [len_layD (by rw [HLN.out]; have := HPW.out.1; omega) (by rw [HP6.out]; exact Nat.le_refl _)])
          have HMX4 : Hid (Mut (dkP g gs (.slice (some ⟨b, 0, none⟩) nw cw)) w y4) := HMX2.out.trans (fun _ _ h => h) (ho4.mut (Or.inr (Or.inl rfl)))
          clear hb4 ho4 hn hS HI2 HMX2
          simp only [Act.put, List.getElem_toArray, List.getElem_cons_succ, List.getElem_cons_zero]
          refine wpAnyH_done (by kernel_rfl) ?_ _
          go_wp2
          go_roundw
          case rel => exact ⟨k + 1, by omega, by simp, HI4, HMX4⟩
          case measure => simp [intOf]; omega
end Go.Proofs.YtopmeedmgjdcgaaGreatDoor
/- The walks of disk's Dump and Load (layer 13). -/
namespace Go.Proofs.YtopmeedmgjdcgaaGreatDoor
open Go.RowKit
set_option maxRecDepth 100000
theorem wpAnyH_copyO {md : Region.Mode} {ops : Array Oper} {Q : Exit → Act → World → Prop} {S : World → Prop} {fuel : Nat} {listed : Array Bool} {a : Act} {w : World} (i : Nat) {oi : Oper} (d s : Operand) (g k dLen dCap b off sLen sCap : Nat) (t : TypeId) (cs : List Value) (xs : Bs) (hg : Blk w g cs t) (hm : xs.length = min sLen dLen) (hk : k + xs.length ≤ cs.length)
    (hsrc : ∀ j, j < xs.length → w.cell? ⟨b, off + j, none⟩ = some (.int .u8 ((xs.getD j 0).toNat : Int))) (hr : Region.ready md ops listed = [i]) (hi : ops[i]? = some oi) (hw : Region.wanted oi (yielded ops a.tmps) = true) (ho : oi.op = .call { callee := .builtin .copy, args := #[d, s], argTypes := #[23, 23] }) (hx : a.eval d = .slice (some ⟨g, k, none⟩) dLen dCap) (hy : a.eval s = .slice (some ⟨b, off, none⟩) sLen sCap)
    (h : ∀ w', Blk w' g (cs.take k ++ cb xs ++ cs.drop (k + xs.length)) t → Only g w w' → S w' ∧ wpAnyH Tryz.prog md ops Q S fuel (listed.setIfInBounds i true) (a.put oi.dst (.int .i64 (xs.length : Int))) w') : wpAnyH Tryz.prog md ops Q S (fuel + 1) listed a w := by
  obtain ⟨w', h1, h2, h3⟩ := copyO a.eval oi d s ho w g k dLen dCap b off sLen sCap t cs xs hg hm hk hsrc hx hy
  obtain ⟨hS, h4⟩ := h w' h2 h3
  exact wpAnyH_step i _ w' hr hi hw h1 hS h4
theorem range_cells {w : World} {b off : Nat} {x : Bs} (h : w.rangeAt b off (cb x)) : ∀ j, j < x.length → w.cell? ⟨b, off + j, none⟩ = some (.int .u8 ((x.getD j 0).toNat : Int)) := fun j hj => h j _ (cb_get x j hj)
/-- the first k sectors of x, and z behind them -/
def upTo (x z : Bs) (k : Nat) : Bs := x.take (64 * k) ++ z.drop (64 * k)
theorem upTo_zero (x z : Bs) : upTo x z 0 = z := by simp [upTo]
theorem upTo_all {x z : Bs} {n : Nat} (hx : x.length = 64 * n) (hz : z.length = 64 * n) : upTo x z n = x := by rw [upTo, List.take_of_length_le (by omega), List.drop_of_length_le (by omega), List.append_nil]
theorem upTo_len {x z : Bs} {n k : Nat} (hx : x.length = 64 * n) (hz : z.length = 64 * n) (hk : k ≤ n) : (upTo x z k).length = 64 * n := by rw [upTo, List.length_append, List.length_take, List.length_drop]; omega
theorem upTo_step {x z : Bs} {n k : Nat} (hx : x.length = 64 * n) (hk : k < n) : layD (upTo x z k) k (secD x k) 64 = upTo x z (k + 1) := by
  have e1 : (x.take (64 * k)).length = 64 * k := by rw [List.length_take]; omega
  have e2 : (secD x k).take 64 = secD x k := List.take_of_length_le (by rw [sec_len (by omega)]; exact Nat.le_refl _)
  have e3 : x.take (64 * (k + 1)) = x.take (64 * k) ++ secD x k := by rw [show 64 * (k + 1) = 64 * k + 64 by omega, List.take_add]; rfl
  have e4 : (x.take (64 * k) ++ z.drop (64 * k)).take (64 * k) = x.take (64 * k) := by rw [List.take_append_of_le_length (by omega), List.take_take, Nat.min_self]
  have e5 : (x.take (64 * k) ++ z.drop (64 * k)).drop (64 * k + 64) = z.drop (64 * (k + 1)) := by
    rw [List.drop_append, e1, List.drop_of_length_le (by rw [e1]; omega), List.nil_append, List.drop_drop]
    congr 1
    omega
  rw [layD, upTo, e2, e4, e5, upTo, e3, List.append_assoc]
theorem lay_sec {b x : Bs} {k : Nat} (hx : x.length = 64) : (cb b).take (64 * k) ++ cb x ++ (cb b).drop (64 * k + x.length) = cb (layD b k x 64) := by
  have := lay_store (b := b) (at_ := k) hx
  rwa [cb_len] at this
end Go.Proofs.YtopmeedmgjdcgaaGreatDoor
/- The walk of disk's Load (layer 13). -/
namespace Go.Proofs.YtopmeedmgjdcgaaGreatDoor
open Go.RowKit
set_option maxRecDepth 100000
end Go.Proofs.YtopmeedmgjdcgaaGreatDoor
/- The walks of blazonref14.number, Half, Check, padded, size, Fits and Room (layer 14). -/
namespace Go.Proofs.YtopmeedmgjdcgaaGreatDoor
open Go.RowKit
set_option maxRecDepth 100000
theorem qJ {N q d : Nat} (h : q = N / d) (hN : N < 4611686018427387904) : wrap64 ((N : Int) / (d : Int)) = (q : Int) := by
  have e : (N : Int) / (d : Int) = (q : Int) := by rw [h]; exact (Int.natCast_ediv N d).symm
  have hq : q ≤ N := by rw [h]; exact Nat.div_le_self _ _
  rw [e]
  unfold wrap64
  omega
theorem mJ {a b c : Nat} (h : c = a * b) (hc : c < 4611686018427387904) : IntKind.i64.wrap ((a : Int) * (b : Int)) = (c : Int) := by
  have e : (a : Int) * (b : Int) = (c : Int) := by rw [h]; exact (Int.natCast_mul a b).symm
  rw [IntKind.wrap_i64, e]
  omega
theorem aJ {a b c : Nat} (h : c = a + b) (hc : c < 4611686018427387904) : IntKind.i64.wrap ((a : Int) + (b : Int)) = (c : Int) := by
  rw [IntKind.wrap_i64]
  omega
theorem Reads.cutJ {w : World} {b off n c : Nat} {l : Bs} (h : Reads w (.slice (some ⟨b, off, none⟩) n c) l) (k m c2 : Nat) (hm : k + m ≤ l.length) (hc : m ≤ c2) : Reads w (.slice (some ⟨b, off + k, none⟩) m c2) ((l.drop k).take m) := by
  have hl : ((l.drop k).take m).length = m := by rw [List.length_take, List.length_drop]; omega
  refine ⟨_, c2, by rw [hl], by rw [hl]; exact hc, (fun e => by cases e), fun _ => ⟨b, off + k, rfl, fun j hj => ?_⟩⟩
  rw [hl] at hj
  have h1 := h.cellsAt (k + j) (by omega)
  rw [Nat.add_assoc, h1, List.getD_eq_getElem?_getD, List.getD_eq_getElem?_getD, List.getElem?_take_of_lt hj, List.getElem?_drop]
theorem rdNum_snoc (l : Bs) (b : BitVec 8) : rdNum (l ++ [b]) = rdNum l * 256 + b.toNat := by rw [rdNum, List.foldl_append]; rfl
theorem rdNum_take {l : Bs} {k : Nat} (hk : k < l.length) : rdNum (l.take (k + 1)) = rdNum (l.take k) * 256 + (l.getD k 0).toNat := by
  rw [List.take_add_one, List.getElem?_eq_getElem hk, List.getD_eq_getElem?_getD, List.getElem?_eq_getElem hk]
  exact rdNum_snoc _ _
theorem rdNum_step {l : Bs} {k : Nat} (hl : l.length = 8) (hk : k < 8) : rdNum (l.take k) * 256 < 18446744073709551616 ∧ rdNum (l.take k) * 256 + (l.getD k 0).toNat < 18446744073709551616 := by
  have h1 := rdNum_lt (l.take k) 0
  have h2 : (l.take k).length = k := by rw [List.length_take]; omega
  rw [h2, Nat.zero_add, Nat.one_mul] at h1
  have h3 : (256 : Nat) ^ k ≤ 256 ^ 7 := Nat.pow_le_pow_right (by decide) (by omega)
  have h4 : rdNum (l.take k) < 256 ^ k := h1
  have hb : (l.getD k 0).toNat < 256 := (l.getD k 0).isLt
  constructor <;> omega
set_option maxRecDepth 100000 in
set_option maxHeartbeats 8000000 in
theorem nCheck_any (v : Value) (x : Bs) (w : World) (hr : Reads w v x) : Calls Tryz.prog 76 #[v] w fun e w' => e = .returned (.int .i64 (chkX x)) ∧ w' = w := by
  obtain ⟨ad, cp, hv, _⟩ := hr
  obtain ⟨n, HN⟩ : ∃ n, Hid (n = x.length) := ⟨_, rfl⟩
  obtain ⟨r, HRR⟩ : ∃ r, Hid (r = chkX x) := ⟨_, rfl⟩
  rw [← HRR.out]
  have hx : r = if n = 0 ∨ 1048576 < n then 1 else 0 := by rw [HRR.out, chkX, ← HN.out]
  rw [← HN.out] at hv
  subst hv
  by_cases h0 : n = 0
  · subst h0
    rw [if_pos (Or.inl rfl)] at hx
    subst hx
    go_enter Tryz.func76, Tryz.ntmps76
    go_wp2
    go_ret
    exact ⟨rfl, rfl⟩
  · have q0 : ((n : Int) == 0) = false := by rw [beq_eq_false_iff_ne]; omega
    by_cases h1 : 1048576 < n
    · rw [if_pos (Or.inr h1)] at hx
      subst hx
      have q1 : (1048576 : Int) < (n : Int) := by omega
      go_enter Tryz.func76, Tryz.ntmps76
      go_wp2
      go_ret
      exact ⟨rfl, rfl⟩
    · rw [if_neg (by omega)] at hx
      subst hx
      have q1 : ¬ ((1048576 : Int) < (n : Int)) := by omega
      go_enter Tryz.func76, Tryz.ntmps76
      go_wp2
      go_ret
      exact ⟨rfl, rfl⟩
end Go.Proofs.YtopmeedmgjdcgaaGreatDoor
/- The walks of blazonref14.Text, Head and Record (layer 14). -/
namespace Go.Proofs.YtopmeedmgjdcgaaGreatDoor
open Go.RowKit
set_option maxRecDepth 100000
theorem Reads.some {w : World} {v : Value} {l : Bs} (h : Reads w v l) (hp : 0 < l.length) : ∃ b off n c, v = .slice (some ⟨b, off, none⟩) n c := by
  obtain ⟨ad, cp, hv, _, _, hx⟩ := h
  obtain ⟨b, off, rfl, _⟩ := hx hp
  exact ⟨b, off, _, _, hv⟩
end Go.Proofs.YtopmeedmgjdcgaaGreatDoor
/- The walk of blazonref14.Record (layer 14). -/
namespace Go.Proofs.YtopmeedmgjdcgaaGreatDoor
open Go.RowKit
set_option maxRecDepth 100000
theorem build_yJ (b : BitVec 8) (f : Operand → Value) (o : Oper) (x : Operand) (hx : f x = .int .u8 (b.toNat : Int)) (ho : o.op = .buildSlice 23 1 #[(0, x)]) (w : World) : (execOp f o).run Tryz.prog w = .ok (.value (.slice (some ⟨w.heap.size, 0, none⟩) 1 1)) (w.alloc (.cells (cb [b]).toArray 5)) := by
  unfold execOp
  rw [ho]
  simp only [List.map_toArray, List.map_cons, List.map_nil, hx]
  kernel_rfl
end Go.Proofs.YtopmeedmgjdcgaaGreatDoor
/- The walks of blazonref14.Gen and Pick (layer 14). -/
namespace Go.Proofs.YtopmeedmgjdcgaaGreatDoor
open Go.RowKit
set_option maxRecDepth 100000
theorem cutTo (b off n c m : Nat) (hm : m ≤ n) (hc : n ≤ c) (f : Operand → Value) (o : Oper) (x y : Operand) (ho : o.op = .slice 23 x none (some y) none) (hx : f x = .slice (some ⟨b, off, none⟩) n c) (hy : f y = .int .i64 (m : Int)) (w : World) :
    (execOp f o).run Tryz.prog w = .ok (.value (.slice (some ⟨b, off, none⟩) m c)) w := by
  have hs : (sizeOf 5).run Tryz.prog w = .ok 1 w := by kernel_rfl
  unfold execOp
  rw [ho]
  simp only [hx, hy, Option.map_some, Option.map_none, Sem.run_bind]
  rw [run_sliceAt_slice w 23 _ _ _ _ (by kernel_rfl), run_slice_h w 23 _ _ _ (by kernel_rfl) .i64 (m : Int) (by omega) (by omega)]
  rw [show Tryz.prog.elem 23 = 5 from by kernel_rfl, hs]
  simp [sliced, Addr.add_mid]
end Go.Proofs.YtopmeedmgjdcgaaGreatDoor
/- A list of texts that grows by append (layer 14). -/
namespace Go.Proofs.YtopmeedmgjdcgaaGreatDoor
open Go.RowKit
set_option maxRecDepth 100000
theorem Tryz.infobsJ : (Tryz.prog.info? 23).map (fun i => (i.zero, i.size, i.bytes)) = some (some (.slice none 0 0), 1, 24) := by kernel_rfl
/-- slices of bytes, the call's own row -/
def OwnX (w : World) (base : Nat) (v : Value) (us : List Value) : Prop := w.ownsRow base 23 1 v us.length us
theorem OwnX.nil (w : World) (base : Nat) : OwnX w base (.slice none 0 0) [] := World.ownsRow_nil _ _ _ _
theorem OwnX.lt {w : World} {base : Nat} {v : Value} {us : List Value} (h : OwnX w base v us) : ∀ k, v.ownBlock = some k → base ≤ k ∧ k < w.heap.size := World.ownsRow.lt h
theorem OwnX.same {w w' : World} {base : Nat} {v : Value} {us : List Value} (h : OwnX w base v us) (hs : ∀ k, v.ownBlock = some k → w'.heap[k]? = w.heap[k]?) : OwnX w' base v us := by
  rcases h with ⟨h1, ⟨rfl, h2⟩ | ⟨g, cap, cur, rfl, hg, hh, h3⟩⟩
  · exact ⟨h1, Or.inl ⟨rfl, h2⟩⟩
  · exact ⟨h1, Or.inr ⟨g, cap, cur, rfl, hg, by rw [hs g rfl]; exact hh, h3⟩⟩
theorem OwnX.form {w : World} {base : Nat} {v : Value} {us : List Value} (h : OwnX w base v us) : ∃ a c, v = .slice a us.length c := by
  rcases h with ⟨_, ⟨rfl, h2⟩ | ⟨g', cap, cur, rfl, _⟩⟩
  · exact ⟨none, 0, by rw [h2]⟩
  · exact ⟨_, _, rfl⟩
theorem OwnB.sameJ {w w' : World} {base : Nat} {v : Value} {l : Bs} (h : OwnB w base v l) (hs : ∀ k, v.ownBlock = some k → w'.heap[k]? = w.heap[k]?) : OwnB w' base v l := by
  rcases h with ⟨h1, ⟨rfl, h2⟩ | ⟨g, cap, cur, rfl, hg, hh, h3⟩⟩
  · exact ⟨h1, Or.inl ⟨rfl, h2⟩⟩
  · exact ⟨h1, Or.inr ⟨g, cap, cur, rfl, hg, by rw [hs g rfl]; exact hh, h3⟩⟩
theorem OwnB.ltJ {w : World} {base : Nat} {v : Value} {l : Bs} (h : OwnB w base v l) : ∀ k, v.ownBlock = some k → base ≤ k ∧ k < w.heap.size := World.ownsRow.lt h
theorem OwnB.apartJ {w : World} {base : Nat} {v v2 : Value} {l : Bs} {us : List Value} (h : OwnB w base v l) (h2 : OwnX w base v2 us) : ∀ k, v.ownBlock = some k → some k ≠ v2.ownBlock := fun k hk e => by
  rcases h with ⟨_, ⟨rfl, _⟩ | ⟨g, cap, cur, rfl, _, hh, _⟩⟩
  · cases hk
  rcases h2 with ⟨_, ⟨rfl, _⟩ | ⟨g2, cap2, cur2, rfl, _, hh2, _⟩⟩
  · cases e
  have e1 : g = k := by simpa [Value.ownBlock] using hk
  have e2 : k = g2 := by simpa [Value.ownBlock] using e
  rw [e1, e2, hh2] at hh
  simp only [Option.some.injEq, Obj.cells.injEq] at hh
  exact absurd hh.2.1 (by decide)
/-- the slice v holds the texts xs, all the call's own from block base on -/
structure TxJ (base : Nat) (v : Value) (us : List Value) (xs : List Bs) (W : World) : Prop where
  own : OwnX W base v us
  len : us.length = xs.length
  good : ∀ j u, us[j]? = some u → OwnB W base u (xs.getD j [])
  ge : base ≤ W.heap.size
theorem TxJ.nil {base : Nat} {W : World} (h : base ≤ W.heap.size) : TxJ base (.slice none 0 0) [] [] W := ⟨OwnX.nil _ _, rfl, fun j u hj => by simp at hj, h⟩
theorem TxJ.next {base : Nat} {v : Value} {us : List Value} {xs : List Bs} {W W' : World} (h : TxJ base v us xs W) (hb : Below W.heap.size W W') : TxJ base v us xs W' :=
  ⟨h.own.same fun k hk => hb.block k (h.own.lt k hk).2, h.len, fun j u hj => (h.good j u hj).sameJ fun k hk => hb.block k ((h.good j u hj).ltJ k hk).2, Nat.le_trans h.ge hb.size⟩
theorem TxJ.readsL {base : Nat} {v : Value} {us : List Value} {xs : List Bs} {W : World} (h : TxJ base v us xs W) : ReadsL W v xs := by
  obtain ⟨h1, h2⟩ := id h.own
  rcases h2 with ⟨rfl, h0⟩ | ⟨g, cap, cur, rfl, hg, hh, hc, hm, hs, ht⟩
  · have : xs = [] := List.eq_nil_of_length_eq_zero (by rw [← h.len]; exact h0)
    subst this
    exact ⟨none, 0, rfl, Nat.le_refl _, fun _ => rfl, fun hp => by simp at hp⟩
  · refine ⟨_, cap, by rw [h.len], by rw [← h.len]; exact hc, (fun e => by cases e), fun _ => ⟨g, 0, rfl, fun j hj => ?_⟩⟩
    have hj2 : j < us.length := by rw [h.len]; exact hj
    refine ⟨us[j], ?_, (h.good j _ (List.getElem?_eq_getElem hj2)).reads⟩
    rw [cell_of_row W g (0 + j) cur _ (0, 0) hh, Nat.zero_add]
    rw [Nat.mul_one] at ht
    have := List.getElem?_eq_getElem hj2
    conv at this => lhs; rw [← ht]
    rw [List.getElem?_take_of_lt hj2] at this
    simpa using this
theorem TxJ.grow {base : Nat} {v v2 u : Value} {us : List Value} {xs : List Bs} {t : Bs} {W W6 : World} (h : TxJ base v us xs W) (hu : OwnB W base u t) (hown6 : OwnX W6 base v2 (us ++ [u])) (hgrow : (W.alloc (.cells #[u] 23)).grownBy W6 v.ownBlock) :
    TxJ base v2 (us ++ [u]) (xs ++ [t]) W6 ∧ Below base W W6 := by
  have b45 : Below base W (W.alloc (.cells #[u] 23)) := (below_alloc W _).mono h.ge
  have b56 : Below base (W.alloc (.cells #[u] 23)) W6 := (Below.refl _ _).grown hgrow (Nat.le_trans h.ge b45.size) (fun k hk => (h.own.lt k hk).1)
  have b46 := b45.trans b56
  have up : ∀ x t, OwnB W base x t → OwnB W6 base x t := fun x t hx => by
    have hne := hx.apartJ h.own
    refine hx.sameJ (fun k hk => ?_)
    have h2 := (hx.ltJ k hk).2
    rw [hgrow.block k (by simp; omega) (hne k hk), Go.RowKit.Below.heap_alloc W _ k h2]
  refine ⟨⟨hown6, by rw [List.length_append, List.length_append, h.len]; rfl, fun j x hj => ?_, Nat.le_trans h.ge b46.size⟩, b46⟩
  by_cases hjl : j < us.length
  · rw [List.getElem?_append_left hjl] at hj
    have h1 := h.good j x hj
    have h2 : (xs ++ [t]).getD j [] = xs.getD j [] := by
      rw [List.getD_eq_getElem?_getD, List.getD_eq_getElem?_getD, List.getElem?_append_left (by rw [← h.len]; exact hjl)]
    rw [h2]
    exact up _ _ h1
  · rw [List.getElem?_append_right (by omega)] at hj
    have hj0 : j = us.length := by
      have := (List.getElem?_eq_some_iff.1 hj).1
      simp at this
      omega
    subst hj0
    simp at hj
    subst hj
    have h2 : (xs ++ [t]).getD us.length [] = t := by
      rw [List.getD_eq_getElem?_getD, h.len, List.getElem?_append_right (Nat.le_refl _), Nat.sub_self]
      rfl
    rw [h2]
    exact up _ _ hu
/-- one text more behind the own slice v -/
theorem wpSeq_appX {ops : Array Oper} {Q : Exit → Act → World → Prop} {rest : List Oper} {o : Oper} {a : Act} {w : World} (s x : Operand) (base : Nat) (v u : Value) (us : List Value) (g : Nat)
    (hown : OwnX w base v us) (hu : w.cell? ⟨g, 0, none⟩ = some u) (h1 : u.oneCell' = true) (hl : us.length < 1000000) (hbase : base ≤ w.heap.size)
    (ho : o.op = .call { callee := .builtin .append, args := #[s, x], argTypes := #[41, 41] }) (hs : a.eval s = v) (hx : a.eval x = .slice (some ⟨g, 0, none⟩) 1 1) (hgd : o.guard = none)
    (h : ∀ v' w', OwnX w' base v' (us ++ [u]) → w.grownBy w' v.ownBlock → wpList Tryz.prog ops Q rest (a.put o.dst v') w') : wpList Tryz.prog ops Q (o :: rest) a w := by
  obtain ⟨i0, hi, hz0, hz1, hz2⟩ := info_parts Tryz.infobsJ
  refine wpList_append_own_at w hgd s x 41 ho base 23 i0 (.slice none 0 0) 1 24 Tryz.underlying41 hi hz0 hz1 hz2 rfl (by decide) v us.length us hs hown ⟨g, 0, none⟩ 1 1 [u] hx rfl ?_ ?_ (by unfold maxLen; omega) (by omega) hbase ?_
  · intro j u' hj
    match j, hj with
    | 0, hj => simp at hj; subst hj; simpa [Addr.add] using hu
  · intro u' hu'; simp at hu'; subst hu'; exact h1
  · intro v' w' h2 h3 _ h5
    exact h v' w' (by unfold OwnX; rw [List.length_append]; exact h2) h3
theorem build_x1 (f : Operand → Value) (o : Oper) (x : Operand) (a0 : Option Addr) (n0 c0 : Nat) (hx : f x = .slice a0 n0 c0) (ho : o.op = .buildSlice 41 1 #[(0, x)]) (w : World) : (execOp f o).run Tryz.prog w = .ok (.value (.slice (some ⟨w.heap.size, 0, none⟩) 1 1)) (w.alloc (.cells #[Value.slice a0 n0 c0] 23)) := by
  unfold execOp
  rw [ho]
  simp only [List.map_toArray, List.map_cons, List.map_nil, hx]
  kernel_rfl
/-- a text's slice built, and appended -/
theorem wpSeq_buildX {ops : Array Oper} {Q : Exit → Act → World → Prop} {rest : List Oper} {o : Oper} {a : Act} {w : World} (x : Operand) (a0 : Option Addr) (n0 c0 : Nat) (hx : a.eval x = .slice a0 n0 c0) (ho : o.op = .buildSlice 41 1 #[(0, x)]) (hw : Region.wanted o (yielded ops a.tmps) = true)
    (h : ∀ g w', g = w.heap.size → w' = w.alloc (.cells #[Value.slice a0 n0 c0] 23) → wpList Tryz.prog ops Q rest (a.put o.dst (.slice (some ⟨g, 0, none⟩) 1 1)) w') : wpList Tryz.prog ops Q (o :: rest) a w :=
  wpSeq_val _ _ hw (build_x1 _ _ x a0 n0 c0 hx ho w) (h _ _ rfl rfl)
end Go.Proofs.YtopmeedmgjdcgaaGreatDoor
/- The walks of blazonref14.Records and Read (layer 14). -/
namespace Go.Proofs.YtopmeedmgjdcgaaGreatDoor
open Go.RowKit
set_option maxRecDepth 100000
theorem cutMid (b off n c l m : Nat) (hm : 0 < m) (hn : l + m ≤ n) (hc : n ≤ c) (L H : Int) (hL : L = (l : Int)) (hH : H = ((l + m : Nat) : Int)) (f : Operand → Value) (o : Oper) (x lo hi : Operand) (ho : o.op = .slice 23 x (some lo) (some hi) none) (hx : f x = .slice (some ⟨b, off, none⟩) n c) (hlo : f lo = .int .i64 L) (hhi : f hi = .int .i64 H) (w : World) :
    (execOp f o).run Tryz.prog w = .ok (.value (.slice (some ⟨b, off + l, none⟩) m (c - l))) w := by
  subst hL hH
  unfold execOp
  rw [ho]
  simp only [hx, hlo, hhi, Option.map_some, Option.map_none, Sem.run_bind, cut_run b off n c l m hm hn hc w]
  rfl
theorem uJ {a : Nat} (h : a < 4611686018427387904) : IntKind.u64.wrap (a : Int) = (a : Int) := by rw [IntKind.wrap_u64]; omega
theorem iJ {a : Nat} (h : a < 4611686018427387904) : IntKind.i64.wrap (a : Int) = (a : Int) := by rw [IntKind.wrap_i64]; omega
theorem sJ {a b c : Nat} (h : a = b + c) (ha : a < 4611686018427387904) : IntKind.i64.wrap ((a : Int) - (b : Int)) = (c : Int) := by rw [IntKind.wrap_i64]; omega
end Go.Proofs.YtopmeedmgjdcgaaGreatDoor
/- The walks of blazonref14.Read, size, Fits and Room (layer 14). -/
namespace Go.Proofs.YtopmeedmgjdcgaaGreatDoor
open Go.RowKit
set_option maxRecDepth 100000
theorem results_3J {fn : Func} {t u v : Tmp} (h : fn.results = #[.tmp t, .tmp u, .tmp v]) (tmps : Array Value) (P : Program) (w : World) :
    (results fn tmps).run P w = .ok (.tuple #[tmps.getD t undef, tmps.getD u undef, tmps.getD v undef]) w := by
  simp [results, h]
/-- bytes that may be a disk's -/
def okB (b : Bs) : Prop := b.length % 64 = 0 ∧ 512 ≤ b.length
instance (b : Bs) : Decidable (okB b) := inferInstanceAs (Decidable (_ ∧ _))
def rdX14 (b : Bs) : Int := if okB b then 0 else 1
def rdG14 (b : Bs) : Nat := if okB b then (readJ b).1 else 0
def rdL14 (b : Bs) : List Bs := if okB b then (readJ b).2 else []
theorem readsL_nil (w : World) : ReadsL w (.slice none 0 0) [] := ⟨none, 0, rfl, Nat.le_refl _, fun _ => rfl, fun h => by simp at h⟩
theorem ReadsL.atJ {w : World} {ad : Option Addr} {n c : Nat} {ls : List Bs} (h : ReadsL w (.slice ad n c) ls) {j : Nat} (hj : j < ls.length) : ∃ b off vj, ad = some ⟨b, off, none⟩ ∧ w.cell? ⟨b, off + j, none⟩ = some vj ∧ Reads w vj (ls.getD j []) := by
  obtain ⟨ad', cp, hv, _, _, hx⟩ := h
  simp only [Value.slice.injEq] at hv
  obtain ⟨rfl, _, _⟩ := hv
  obtain ⟨b, off, h1, h2⟩ := hx (Nat.lt_of_le_of_lt (Nat.zero_le _) hj)
  obtain ⟨vj, h3, h4⟩ := h2 j hj
  exact ⟨b, off, vj, h1, h3, h4⟩
theorem sizeL_take {l : List Bs} {k : Nat} (hk : k < l.length) : sizeL (l.take (k + 1)) = sizeL (l.take k) + 64 * secR (l.getD k []).length := by
  rw [List.take_add_one, List.getElem?_eq_getElem hk, List.getD_eq_getElem?_getD, List.getElem?_eq_getElem hk]
  exact sizeL_snoc _ _
theorem sizeL_app (a b : List Bs) : sizeL (a ++ b) = sizeL a + sizeL b := by simp [sizeL]
theorem sizeL_mono (l : List Bs) (k : Nat) : sizeL (l.take k) ≤ sizeL l := by
  have e := sizeL_app (l.take k) (l.drop k)
  rw [List.take_append_drop] at e
  omega
theorem secR_ge (m : Nat) : m ≤ 64 * secR m := by unfold secR; omega
theorem numS (m a : Nat) (h : a + 64 * secR m < 1000000000) : ∃ m57 m120 q q64 : Nat, IntKind.i64.wrap ((m : Int) + 57) = (m57 : Int) ∧ IntKind.i64.wrap ((m57 : Int) + 63) = (m120 : Int) ∧ wrap64 ((m120 : Int) / 64) = (q : Int) ∧ IntKind.i64.wrap ((q : Int) * 64) = (q64 : Int) ∧ IntKind.i64.wrap ((a : Int) + (q64 : Int)) = ((a + 64 * secR m : Nat) : Int) := by
  have hg := secR_ge m
  have h1 : m < 1000000000 := by omega
  refine ⟨m + 57, m + 57 + 63, secR m, 64 * secR m, aJ rfl (by omega), aJ rfl (by omega), qJ (d := 64) rfl (by omega), mJ (b := 64) (Nat.mul_comm _ _) (by omega), aJ rfl (by omega)⟩
set_option maxRecDepth 100000 in
set_option maxHeartbeats 8000000 in
theorem nSize_any (v : Value) (l : List Bs) (hl : sizeL l < 1000000000) (w : World) (hr : ReadsL w v l) : Calls Tryz.prog 98 #[v] w fun e w' => e = .returned (.int .i64 (sizeL l : Int)) ∧ w' = w := by
  have HR : Hid (ReadsL w v l) := hr
  obtain ⟨ad, cp, hv, _⟩ := hr
  obtain ⟨n, HN⟩ : ∃ n, Hid (n = l.length) := ⟨_, rfl⟩
  rw [← HN.out] at hv
  subst hv
  have HL : Hid (sizeL l < 1000000000) := hl
  have HNB : Hid (n < 1000000000) := by show _ < _; have h1 := sizeL_ge l; have h2 := HN.out; omega
  clear hl
  go_enter Tryz.func98, Tryz.ntmps98
  go_wp2
  go_loopw [3, 4] (fun a i wr => ∃ k : Nat, k ≤ n ∧ i = .int .i64 (k : Int) ∧ a = .int .i64 (sizeL (l.take k) : Int) ∧ wr = w) (fun _ i _ => n - (intOf i).toNat)
  case atStart => exact ⟨0, by omega, rfl, rfl, rfl⟩
  case round =>
    obtain ⟨k, hk, rfl, rfl, rfl⟩ := hrel
    by_cases hlt : k < n
    case neg =>
      have hlk : ¬ ((k : Int) < (n : Int)) := by omega
      have HE : Hid (l.take k = l) := List.take_of_length_le (by rw [← HN.out]; omega)
      rw [HE.out]
      go_wp2
      go_ret
      exact ⟨rfl, rfl⟩
    case pos =>
      have hlk : (k : Int) < (n : Int) := by omega
      have k0 : (0 : Int) ≤ (k : Int) := by omega
      have f1 : IntKind.i64.wrap ((k : Int) + 1) = (k : Int) + 1 := by rw [IntKind.wrap_i64]; have := HNB.out; omega
      have hkl : k < l.length := by rw [← HN.out]; exact hlt
      obtain ⟨b, off, vj, rfl, hc, hrj⟩ := HR.out.atJ hkl
      obtain ⟨m, HM⟩ : ∃ m, Hid (m = (l.getD k []).length) := ⟨_, rfl⟩
      obtain ⟨aj, cj, hvj, _⟩ := hrj
      rw [← HM.out] at hvj
      subst hvj
      have hst := sizeL_take hkl
      have hmo := sizeL_mono l (k + 1)
      rw [← HM.out] at hst
      obtain ⟨a, HA⟩ : ∃ a, Hid (a = sizeL (l.take k)) := ⟨_, rfl⟩
      rw [← HA.out] at hst ⊢
      have hLb := HL.out
      obtain ⟨m57, m120, q, q64, f2, f3, f4, f5, f6⟩ := numS m a (by rw [← hst]; omega)
      rw [← hst] at f6
      clear hst hmo hLb
      go_wp2
      go_roundw
      case rel => exact ⟨k + 1, by omega, by simp, by trivial, trivial⟩
      case measure => simp [intOf]; omega
set_option maxRecDepth 100000 in
set_option maxHeartbeats 8000000 in
theorem nFits_any (v : Value) (l : List Bs) (hl : sizeL l < 1000000000) (n : Nat) (hn : n < 1000000) (w : World) (hr : ReadsL w v l) : Calls Tryz.prog 77 #[v, .int .i64 (n : Int)] w fun e w' => e = .returned (.bool (decide (sizeL l + 64 ≤ 64 * (n / 2)))) ∧ w' = w := by
  obtain ⟨q, HQ⟩ : ∃ q, Hid (q = n / 2) := ⟨_, rfl⟩
  obtain ⟨m, HM⟩ : ∃ q, Hid (q = n / 2 * 64) := ⟨_, rfl⟩
  have HSZ : Hid (Calls Tryz.prog 98 #[v] w fun e w' => e = .returned (.int .i64 (sizeL l : Int)) ∧ w' = w) := nSize_any v l hl w hr
  obtain ⟨s, HS⟩ : ∃ s, Hid (s = sizeL l) := ⟨_, rfl⟩
  rw [← HS.out] at HSZ
  rw [← HS.out, ← HQ.out]
  have hq := HQ.out
  have hm := HM.out
  have f1 : wrap64 ((n : Int) / 2) = (q : Int) := qJ (d := 2) HQ.out (by omega)
  have f2 : IntKind.i64.wrap ((q : Int) * 64) = (m : Int) := mJ (b := 64) (by rw [hm, hq]) (by omega)
  have f3 : IntKind.i64.wrap ((m : Int) - 64) = (m : Int) - 64 := by rw [IntKind.wrap_i64]; omega
  clear hr hl hq
  by_cases hc : s + 64 ≤ 64 * q
  · have HC : Hid (s + 64 ≤ 64 * q) := hc
    rw [decide_eq_true hc]
    clear hm hc
    go_enter Tryz.func77, Tryz.ntmps77
    have tk0 : Hid True := trivial
    go_wp2_with (first
    | (clear tk0; go_at_call 98; refine (HSZ.out).mono ?_; rintro e0 y1 ⟨rfl, hy1⟩; subst hy1))
    go_ret
    exact ⟨by simp; have h1 := HC.out; have h2 := HQ.out; omega, rfl⟩
  · have HC : Hid (¬ s + 64 ≤ 64 * q) := hc
    rw [decide_eq_false hc]
    clear hm hc
    go_enter Tryz.func77, Tryz.ntmps77
    have tk0 : Hid True := trivial
    go_wp2_with (first
    | (clear tk0; go_at_call 98; refine (HSZ.out).mono ?_; rintro e0 y1 ⟨rfl, hy1⟩; subst hy1))
    go_ret
    exact ⟨by simp; have h1 := HC.out; have h2 := HQ.out; omega, rfl⟩
end Go.Proofs.YtopmeedmgjdcgaaGreatDoor
/- The walks of blazonref14.Room, Same, Append and Restart (layer 14). -/
namespace Go.Proofs.YtopmeedmgjdcgaaGreatDoor
open Go.RowKit
set_option maxRecDepth 100000
theorem Reads.drewN {w : World} {v : Value} {l : List (BitVec 8)} (h : Reads w v l) (q : Nat) : Reads (w.drewN q) v l := h
def roomZ (l : List Bs) (n : Nat) : Nat := min 1048576 (64 * (n / 2) - 64 - sizeL l - 57)
theorem OwnX.readsL {W : World} {base : Nat} {v : Value} {us : List Value} {xs : List Bs} (h : OwnX W base v us) (hlen : us.length = xs.length) (hg : ∀ j u, us[j]? = some u → Reads W u (xs.getD j [])) : ReadsL W v xs := by
  obtain ⟨h1, h2⟩ := id h
  rcases h2 with ⟨rfl, h0⟩ | ⟨g, cap, cur, rfl, hg2, hh, hc, hm, hs, ht⟩
  · have : xs = [] := List.eq_nil_of_length_eq_zero (by rw [← hlen]; exact h0)
    subst this
    exact readsL_nil _
  · refine ⟨_, cap, by rw [hlen], by rw [← hlen]; exact hc, (fun e => by cases e), fun _ => ⟨g, 0, rfl, fun j hj => ?_⟩⟩
    have hj2 : j < us.length := by rw [hlen]; exact hj
    refine ⟨us[j], ?_, hg j _ (List.getElem?_eq_getElem hj2)⟩
    rw [cell_of_row W g (0 + j) cur _ (0, 0) hh, Nat.zero_add]
    rw [Nat.mul_one] at ht
    have := List.getElem?_eq_getElem hj2
    conv at this => lhs; rw [← ht]
    rw [List.getElem?_take_of_lt hj2] at this
    simpa using this
def fit14 (l : List Bs) (n : Nat) : Bool := decide (sizeL l + 64 ≤ 64 * (n / 2))
def apX (l : List Bs) (b : Bs) (n : Nat) : Int := if chkX b = 1 then 1 else if fit14 (l ++ [b]) n then 0 else 13
def apL (l : List Bs) (b : Bs) (n : Nat) : List Bs := if apX l b n = 0 then l ++ [b] else l
theorem chk_or (x : Bs) : chkX x = 0 ∨ chkX x = 1 := by unfold chkX; split; exact Or.inr rfl; exact Or.inl rfl
def rsX (m : List Bs) (n : Nat) : Int := if ∃ x ∈ m, chkX x = 1 then 1 else if fit14 m n then 0 else 13
def rsL (l m : List Bs) (n : Nat) : List Bs := if rsX m n = 0 then m else l
end Go.Proofs.YtopmeedmgjdcgaaGreatDoor
/- The walks of journal's number, readNumber, sectors, recordSectors, padded, Head, Text, Record, Check, blank, room, as they landed; bytes.HasPrefix and bytes.Clone (layer 14). -/
namespace Go.Proofs.YtopmeedmgjdcgaaGreatDoor
open Go.RowKit
set_option maxRecDepth 100000
theorem OwnB.zero9 (w : World) (base g : Nat) (hg : base ≤ g) (h : Blk w g [] 5) : OwnB w base (.slice (some ⟨g, 0, none⟩) 0 0) [] :=
  ⟨by simp [cb], Or.inr ⟨g, 0, #[], rfl, hg, h, Nat.le_refl _, by unfold maxLen; omega, rfl, rfl⟩⟩
set_option maxRecDepth 100000 in
set_option maxHeartbeats 4000000 in
theorem bclone_any (v : Value) (l : List (BitVec 8)) (w : World) (h : Reads w v l) (hl : l.length ≤ 140737488355328) :
    Calls Tryz.prog 64 #[v] w fun e w' => ∃ v', e = .returned v' ∧ OwnB w' w.heap.size v' l ∧ Below w.heap.size w w' := by
  have HR : Hid (Reads w v l) := h
  have HL : Hid (l.length ≤ 140737488355328) := hl
  obtain ⟨ad, cap, rfl, _, hn, hx⟩ := h
  cases ad with
  | none =>
    have h0 : l = [] := by
      cases l with
      | nil => rfl
      | cons b r => obtain ⟨b, off, h1, _⟩ := hx (by simp); cases h1
    subst h0
    have := hn rfl
    subst this
    clear hx hn hl
    have hnil : ∀ (a : Option Addr) (n c : Nat) (w : World), (binOp .eql 23 (.slice a n c) (.slice none 0 0)).run Tryz.prog w = .ok (.bool a.isNone) w := fun a n c w => Lib.run_eql_slice_nil w 23 5 a n c 0 0 Tryz.underlying23
    go_enter Tryz.func64, Tryz.ntmps64
    go_wp2
    go_ret
    exact ⟨_, rfl, OwnB.nil _ _, Below.refl _ _⟩
  | some ad =>
    clear hx hn hl
    obtain ⟨m, HM⟩ : ∃ m, Hid (m = l.length) := ⟨_, rfl⟩
    rw [← HM.out] at HR ⊢
    have HB := below_alloc w (.cells ([] : List Value).toArray 5)
    have HO : Hid (OwnB (w.alloc (.cells ([] : List Value).toArray 5)) w.heap.size (.slice (some ⟨w.heap.size, 0, none⟩) 0 0) []) := OwnB.zero9 _ _ _ (Nat.le_refl _) (Blk.new w [] 5)
    have HR1 : Hid (Reads (w.alloc (.cells ([] : List Value).toArray 5)) (.slice (some ad) m cap) l) := HR.out.below HB
    have HBB : Hid (Below w.heap.size w (w.alloc (.cells ([] : List Value).toArray 5))) := HB
    clear HB
    have hnil : ∀ (a : Option Addr) (n c : Nat) (w : World), (binOp .eql 23 (.slice a n c) (.slice none 0 0)).run Tryz.prog w = .ok (.bool a.isNone) w := fun a n c w => Lib.run_eql_slice_nil w 23 5 a n c 0 0 Tryz.underlying23
    go_enter Tryz.func64, Tryz.ntmps64
    go_wp2_with (at_builtin; refine wpList_appendB rfl (.tmp 5) (.tmp 6) rfl w.heap.size _ [] rfl HO.out _ l rfl HR1.out (by have := HL.out; simp; omega) HBB.out.size ?_; intro v2 w2 hown2 hb2 _)
    have hB2 := HBB.out.trans hb2
    go_wp2
    go_ret
    exact ⟨_, rfl, hown2, hB2⟩
theorem bEqual_any (va vb : Value) (a b : List (BitVec 8)) (w : World) (ha : Reads w va a) (hb : Reads w vb b) : Calls Tryz.prog 153 #[va, vb] w fun e w' => e = .returned (.bool (decide (a = b))) ∧ Below w.heap.size w w' := by
  have hca := conv_reads ha
  have hcb := conv_reads hb
  obtain ⟨aa, na, ca, hva⟩ := ha.form
  subst hva
  obtain ⟨ab, nb, cbb, hvb⟩ := hb.form
  subst hvb
  have hne := strB_inj a b
  clear ha hb
  generalize decide (a = b) = o at *
  go_enter Tryz.func153, Tryz.ntmps153
  go_wp2
  go_ret
  exact ⟨rfl, Below.refl _ _⟩
set_option maxHeartbeats 400000 in
theorem cdigest_any (base : Nat) (v : Value) (l d : List (BitVec 8)) (hd : d.length = 32) (w : World) (hown : OwnB w base v l) (hb : base ≤ w.heap.size) (hl : l.length + 32 ≤ 140737488355328) :
    Calls Tryz.prog 123 #[v, .agg (cb d).toArray] w fun e w' => ∃ v', e = .returned v' ∧ OwnB w' base v' (l ++ d) ∧ Below base w w' := by
  have HO : Hid (OwnB w base v l) := hown
  have HD : Hid (d.length = 32) := hd
  have HL : Hid (l.length + 32 ≤ 140737488355328) := hl
  have HB : Hid (base ≤ w.heap.size) := hb
  have hs := slice_dig_at w.heap.size 0
  clear hown hd hl hb
  have b0 := below_alloc w (.cells (cb d).toArray 155)
  have HR : Hid (Reads (w.alloc (.cells (cb d).toArray 155)) (.slice (some ⟨w.heap.size, 0, none⟩) 32 32) d) := (Blk.new w (cb d) 155).reads HD.out.symm (by rw [HD.out]; omega)
  have HO1 : Hid (OwnB (w.alloc (.cells (cb d).toArray 155)) base v l) := HO.out.below b0 (Nat.le_refl _)
  have HB1 : Hid (Below base w (w.alloc (.cells (cb d).toArray 155))) := b0.mono HB.out
  have HS1 : Hid (base ≤ (w.alloc (.cells (cb d).toArray 155)).heap.size) := Nat.le_trans HB.out b0.size
  clear b0
  go_enter Tryz.func123, Tryz.ntmps123
  go_wp2_with (at_builtin; refine wpList_appendB rfl (.tmp 5) (.tmp 6) rfl base _ l rfl HO1.out _ d rfl HR.out (by have := HL.out; have := HD.out; omega) HS1.out ?_; intro v2 w2 hown2 hb2 _)
  have hB2 := HB1.out.trans hb2
  go_wp2
  go_ret
  exact ⟨_, rfl, hown2, hB2⟩
theorem replicate_cells (n : Nat) : (Builtin.zeroCells #[Value.int .u8 0] n) = (cb (List.replicate n 0)).toArray := by
  apply Array.ext
  · simp [Builtin.zeroCells, cb]
  · intro i h1 h2
    simp [Builtin.zeroCells, cb, Nat.mod_one]
/-- noughts behind the own slice v: append(b, make([]byte, k)...) -/
theorem run_append_noughts (w : World) (base : Nat) (ty : TypeId) (v : Value) (l : Bs) (k : Nat) (hown : OwnB w base v l) (hne : l ≠ []) (hl : l.length + k ≤ 100000000) (hbase : base ≤ w.heap.size) :
    ∃ v' w', (Builtin.append_ #[23, 3] ty #[v, .int .i64 (k : Int)]).run Tryz.prog w = .ok v' w' ∧ OwnB w' base v' (l ++ List.replicate k 0) ∧ w.grownBy w' v.ownBlock := by
  obtain ⟨i0, hi, hz0, hz1, hz2⟩ := info_parts Tryz.infob
  have hlen : (cb (l ++ List.replicate k 0)).length = (l.length + k) * 1 := by rw [cb_len, List.length_append, List.length_replicate, Nat.mul_one]
  have hL : (l ++ List.replicate k 0).length = l.length + k := by rw [List.length_append, List.length_replicate]
  have hint : Tryz.prog.underlying 3 = some (.int .i64) := Tryz.underlying3
  obtain ⟨h1, h2⟩ := id hown
  rcases h2 with ⟨rfl, h0⟩ | ⟨g, cap, cur, rfl, hbg, hg, hnc, hcm, hcs, htake⟩
  · exact absurd (List.eq_nil_of_length_eq_zero h0) hne
  by_cases hk0 : k = 0
  · subst hk0
    refine ⟨.slice (some ⟨g, 0, none⟩) l.length cap, w, ?_, by rw [List.replicate_zero, List.append_nil]; exact hown, ⟨rfl, rfl, rfl, Nat.le_refl _, fun _ _ _ => rfl⟩⟩
    have hw : IntKind.i64.wrap 0 = 0 := by decide
    simp [Builtin.append_, run_underlying Tryz.underlying23, run_underlying hint, sizeOf, typeInfo, hi, asInt, asIntOf, hw, hnc, storeCells]
  · by_cases hroom : l.length + k ≤ cap
    · have hw : IntKind.i64.wrap (k : Int) = k := by rw [IntKind.wrap_i64]; omega
      have hneg : ¬ ((k : Int) < 0) := by omega
      have h48i : ¬ (281474976710656 < (k : Int) * (i0.bytes : Int)) := by rw [hz2]; omega
      have hns : ¬ (k * i0.size = 0) := by rw [hz1]; omega
      have hfit : l.length * 1 + (cb (List.replicate k 0)).length ≤ cur.size := by rw [cb_len, List.length_replicate, hcs]; omega
      have hst := run_storeCells_at Tryz.prog g (l.length * 1) 5 (cb (List.replicate k 0)) 0 cur w hg (by simpa using hfit) (cb_one _)
      simp only [Nat.add_zero] at hst
      refine ⟨.slice (some ⟨g, 0, none⟩) (l.length + k) cap, w.setRow g (cur.toList.take (l.length * 1) ++ cb (List.replicate k 0) ++ cur.toList.drop (l.length * 1 + (cb (List.replicate k 0)).length)).toArray, ?_, ?_, ⟨rfl, rfl, rfl, by simp, fun k2 _ hk => setRow_other w g k2 _ (fun e => hk (by simp [Value.ownBlock, e]))⟩⟩
      · have hzc : (zeroValue 5).run Tryz.prog w = .ok (.int .u8 0) w := by simp [zeroValue, typeInfo, hi, hz0]
        have hz1' : i0.size = 1 := hz1
        simp [Builtin.append_, run_underlying Tryz.underlying23, run_underlying hint, sizeOf, typeInfo, zeroValue, hi, hz0, asInt, asIntOf, hw, hneg, h48i, hroom, Addr.add_lit, hz1', Value.cells, replicate_cells, hk0] at hst ⊢
        rw [hst]
        rfl
      · refine ⟨by rw [hL]; exact hlen, Or.inr ⟨g, cap, _, by rw [hL], hbg, setRow_heap w g cur _ 5 _ hg, by rw [hL]; exact hroom, hcm, ?_, ?_⟩⟩
        · simp only [List.size_toArray, List.length_append, List.length_take, List.length_drop, Array.length_toList]
          omega
        · rw [htake, hL, ← hlen]
          have e : cb l ++ cb (List.replicate k 0) = cb (l ++ List.replicate k 0) := by simp [cb]
          rw [e]
          exact List.take_left
    · have holds : ∀ j u, (cb l)[j]? = some u → w.cell? ((⟨g, 0, none⟩ : Addr).add j) = some u := hown.cells (g := g) rfl
      have hold : (Builtin.firstCells i0.size l.length (.slice (some ⟨g, 0, none⟩) l.length cap)).run Tryz.prog w.drew = .ok (cb l).toArray w.drew := by
        rw [hz1]
        exact run_firstCells_some (P := Tryz.prog) w.drew 1 l.length ⟨g, 0, none⟩ l.length cap (cb l) (by rw [cb_len]; omega) holds
      have hr := Go.Lib.run_append_grow_zeros (P := Tryz.prog) w 23 3 ty 5 i0 (.int .u8 0) .i64 .i64 Tryz.underlying23 hint hi hz0 (some ⟨g, 0, none⟩) l.length cap (cb l) hold k (by omega) (by rw [hz1]; decide) (by omega) (by omega) (by rw [hz2]; omega) (growslice_fits (by omega) (by rw [hz2]; omega))
      have hge := grownCap_ge w (l.length + k) cap 5
      have hcm2 : grownCap w (l.length + k) cap 5 ≤ maxLen := grownCap_le_maxLen w (l.length + k) cap 5 (by unfold maxLen; omega)
      refine ⟨_, _, hr, ?_, ⟨rfl, rfl, rfl, by simp, fun k2 hk2 _ => Go.heap_alloc_old w.drew _ hk2⟩⟩
      refine ⟨by rw [hL]; exact hlen, Or.inr ⟨w.heap.size, _, _, by rw [hL], hbase, heap_alloc_new w.drew _, by rw [hL]; exact hge, hcm2, ?_, ?_⟩⟩
      · simp only [Array.size_append, List.size_toArray, size_zeroCells, cb_len, Value.cells]
        show l.length + k * 1 + (grownCap w (l.length + k) cap 5 - (l.length + k)) * 1 = _
        omega
      · have e : (cb l).toArray ++ Builtin.zeroCells (Value.int .u8 0).cells k = (cb (l ++ List.replicate k 0)).toArray := by
          show (cb l).toArray ++ Builtin.zeroCells #[Value.int .u8 0] k = _
          rw [replicate_cells]; simp [cb]
        rw [e, hL, ← hlen]
        simp only [Array.toList_append]
        exact List.take_left
theorem wpSeq_noughts {ops : Array Oper} {Q : Exit → Act → World → Prop} {rest : List Oper} {o : Oper} {a : Act} {w : World} (s x : Operand) (base : Nat) (v : Value) (l : Bs) (k : Nat) (hown : OwnB w base v l) (hne : l ≠ []) (hl : l.length + k ≤ 100000000) (hbase : base ≤ w.heap.size)
    (ho : o.op = .call { callee := .builtin .append, args := #[s, x], argTypes := #[23, 3] }) (hs : a.eval s = v) (hx : a.eval x = .int .i64 (k : Int)) (hgd : o.guard = none)
    (h : ∀ v' w', OwnB w' base v' (l ++ List.replicate k 0) → w.grownBy w' v.ownBlock → Below base w w' → wpList Tryz.prog ops Q rest (a.put o.dst v') w') : wpList Tryz.prog ops Q (o :: rest) a w := by
  obtain ⟨v', w', hr, h2, h3⟩ := run_append_noughts w base o.type v l k hown hne hl hbase
  exact Go.Lib.wpList_append_run w hgd s x 23 3 ho v _ hs hx v' w' hr (h v' w' h2 h3 ((Below.refl _ _).grown h3 hbase (fun k hk => hown.own k hk)))
theorem own_of_blkJ {w : World} {base g k c : Nat} {z : List (BitVec 8)} (h : Blk w g (cb z) 5) (hb : base ≤ g) (hz : z.length = c) (hk : k ≤ c) (hc : c < 281474976710600) : OwnB w base (.slice (some ⟨g, 0, none⟩) k c) (z.take k) := by
  have hl : (z.take k).length = k := by rw [List.length_take]; omega
  have e : (cb z).take k = cb (z.take k) := by simp [cb]
  refine ⟨by rw [cb_len, Nat.mul_one], Or.inr ⟨g, c, (cb z).toArray, by rw [hl], hb, h, by rw [hl]; exact hk, by unfold maxLen; omega, by simp [cb_len, hz], by rw [hl, Nat.mul_one, ← e]⟩⟩
theorem tl8_succ (n k : Nat) : tl8 n (k + 1) = tl8 n k ++ [BitVec.ofNat 8 (n / 2 ^ (56 - 8 * k))] := by simp [tl8, List.range_succ]
set_option maxRecDepth 100000 in
set_option maxHeartbeats 8000000 in
theorem jNumber_own (base : Nat) (v : Value) (l : Bs) (n : Nat) (hn : n < 18446744073709551616) (w : World) (hown : OwnB w base v l) (hb : base ≤ w.heap.size) (hl : l.length ≤ 100000000) :
    Calls Tryz.prog 126 #[v, .int .u64 (n : Int)] w fun e w' => ∃ v', e = .returned v' ∧ OwnB w' base v' (l ++ num8 n) ∧ Below base w w' := by
  have HO : Hid (OwnB w base v l) := hown
  have HL : Hid (l.length ≤ 100000000) := hl
  have HB : Hid (base ≤ w.heap.size) := hb
  have HN : Hid (n < 18446744073709551616) := hn
  clear hown hl hb hn
  go_enter Tryz.func126, Tryz.ntmps126
  go_wp2
  go_loopw [0, 5] (fun u i wr => ∃ k : Nat, k ≤ 8 ∧ i = .int .i64 ((k : Int) - 1) ∧ OwnB wr base u (l ++ tl8 n (8 - k)) ∧ Below base w wr) (fun _ i _ => (intOf i + 1).toNat)
  case atStart => exact ⟨8, by omega, by simp, by simpa [tl8] using HO.out, Below.refl _ _⟩
  case round =>
    obtain ⟨k, hk, rfl, hI, hB⟩ := hrel
    have HI : Hid (OwnB wr base u0 (l ++ tl8 n (8 - k))) := hI
    have HBB : Hid (Below base w wr) := hB
    have HS : Hid (base ≤ wr.heap.size) := Nat.le_trans HB.out hB.size
    clear hI hB
    cases k with
    | zero =>
      have hge : ¬ ((0 : Int) ≤ ((0 : Nat) : Int) - 1) := by omega
      go_wp2
      go_ret
      exact ⟨_, rfl, HI.out, HBB.out⟩
    | succ m =>
      have e1 : (((m + 1 : Nat) : Int) - 1) = (m : Int) := by omega
      rw [e1]
      have hge : (0 : Int) ≤ (m : Int) := by omega
      have e8 : IntKind.i64.wrap (8 * (m : Int)) = ((8 * m : Nat) : Int) := by rw [IntKind.wrap_i64]; omega
      have e9 : IntKind.i64.wrap ((m : Int) - 1) = (m : Int) - 1 := by rw [IntKind.wrap_i64]; omega
      have hx : n / 2 ^ (8 * m) < 18446744073709551616 := Nat.lt_of_le_of_lt (Nat.div_le_self _ _) HN.out
      have HX : Hid (56 - 8 * (8 - (m + 1)) = 8 * m) := by show _ = _; omega
      have HT : Hid (l ++ tl8 n (8 - m) = (l ++ tl8 n (8 - (m + 1))) ++ [BitVec.ofNat 8 (n / 2 ^ (8 * m))]) := by
        show _ = _
        rw [show 8 - m = (8 - (m + 1)) + 1 by omega, tl8_succ, HX.out, List.append_assoc]
      have HLT : Hid ((l ++ tl8 n (8 - (m + 1))).length ≤ 100000008) := by
        show _ ≤ _
        have := HL.out
        rw [List.length_append, tl8, List.length_map, List.length_range]
        omega
      clear e1 HX
      go_wp2_with (at_builtin; refine wpList_appendB rfl (.tmp 10) (.tmp 16) rfl base _ (l ++ tl8 n (8 - (m + 1))) rfl (HI.out.below ((Below.refl _ _).alloc (Nat.le_refl _) _) (Nat.le_refl _)) _ [BitVec.ofNat 8 (n / 2 ^ (8 * m))] rfl (reads_val wr _ _ ?_) (by have := HLT.out; simp only [List.length_singleton]; omega) (by have := HS.out; simp; omega) ?_; (rw [BitVec.toNat_ofNat, Int.natCast_emod, Int.natCast_ediv, Int.natCast_pow]; rfl); intro v2 w2 hown2 hb2 _)
      have hJ : OwnB w2 base v2 (l ++ tl8 n (8 - m)) := by rw [HT.out]; exact hown2
      have hJB : Below base w w2 := HBB.out.trans (((Below.refl _ _).alloc HS.out _).trans hb2)
      have HJ : Hid (OwnB w2 base v2 (l ++ tl8 n (8 - m)) ∧ Below base w w2) := ⟨hJ, hJB⟩
      clear hown2 hb2 HI hJ hJB hx HT
      go_wp2
      go_roundw
      case rel => exact ⟨m, by omega, rfl, HJ.out.1, HJ.out.2⟩
      case measure => simp [intOf]
theorem or_byte (a y : Nat) (ha : a < 18446744073709551616) (hy : y < 256) (hd : a % 256 = 0) : bits .or .u64 (a : Int) (y : Int) = ((a + y : Nat) : Int) := by
  have e : (BitVec.ofInt 64 (a : Int) ||| BitVec.ofInt 64 (y : Int)).toNat = a + y := by
    rw [BitVec.ofInt_natCast, BitVec.ofInt_natCast, BitVec.toNat_or, BitVec.toNat_ofNat, BitVec.toNat_ofNat, Nat.mod_eq_of_lt (by omega : a < 2 ^ 64), Nat.mod_eq_of_lt (by omega : y < 2 ^ 64)]
    obtain ⟨q, rfl⟩ : ∃ q, a = q * 2 ^ 8 := ⟨a / 256, by omega⟩
    rw [← Nat.shiftLeft_eq, Nat.shiftLeft_add_eq_or_of_lt (by omega : y < 2 ^ 8)]
  show IntKind.u64.wrap ((BitVec.ofInt 64 (a : Int) ||| BitVec.ofInt 64 (y : Int)).toNat : Int) = _
  rw [e, IntKind.wrap_u64]
  omega
set_option maxRecDepth 100000 in
set_option maxHeartbeats 8000000 in
theorem jRdNum_any (bb off n c : Nat) (l : Bs) (hl : 8 ≤ l.length) (w : World) (hr : Reads w (.slice (some ⟨bb, off, none⟩) n c) l) : Calls Tryz.prog 133 #[.slice (some ⟨bb, off, none⟩) n c] w fun e w' => e = .returned (.int .u64 (rdNum (l.take 8) : Int)) ∧ w' = w := by
  have hn : n = l.length := by obtain ⟨_, cp, hv, _⟩ := hr; simp only [Value.slice.injEq] at hv; exact hv.2.1
  have hc : n ≤ c := by obtain ⟨_, cp, hv, hc, _⟩ := hr; simp only [Value.slice.injEq] at hv; rw [hv.2.2, hn]; exact hc
  obtain ⟨p, HP⟩ : ∃ p, Hid (p = l.take 8) := ⟨_, rfl⟩
  have HL : Hid (p.length = 8) := by show _ = _; rw [HP.out, List.length_take]; omega
  have HR : Hid (Reads w (.slice (some ⟨bb, off, none⟩) 8 c) p) := by
    have h := hr.cutJ 0 8 c (by omega) (by omega)
    rw [Nat.add_zero, List.drop_zero] at h
    rw [HP.out]; exact h
  have HCT : Hid (8 ≤ n ∧ n ≤ c) := ⟨by omega, hc⟩
  rw [← HP.out]
  clear hl hr hn hc HP
  go_enter Tryz.func133, Tryz.ntmps133
  have tk0 : Hid True := trivial
  go_wp2_with (first
    | (clear tk0; refine wpSeq_val (.slice (some ⟨bb, off, none⟩) 8 c) _ (by rfl) (cutTo bb off n c 8 HCT.out.1 HCT.out.2 _ _ (.tmp 6) (.const (.int .i64 8)) rfl rfl rfl _) ?_))
  go_loopw [3, 9] (fun a i wr => ∃ k : Nat, k ≤ 8 ∧ i = .int .i64 (k : Int) ∧ a = .int .u64 (rdNum (p.take k) : Int) ∧ wr = w) (fun _ i _ => 8 - (intOf i).toNat)
  case atStart => exact ⟨0, by omega, rfl, rfl, rfl⟩
  case round =>
    obtain ⟨k, hk, rfl, rfl, rfl⟩ := hrel
    by_cases hlt : k < 8
    case neg =>
      have hlk : ¬ ((k : Int) < 8) := by omega
      obtain rfl : k = 8 := by omega
      have HE : Hid (p.take 8 = p) := List.take_of_length_le (by rw [HL.out]; exact Nat.le_refl _)
      rw [HE.out]
      go_wp2
      go_ret
      exact ⟨rfl, rfl⟩
    case pos =>
      have hlk : (k : Int) < 8 := by omega
      have k0 : (0 : Int) ≤ (k : Int) := by omega
      have f5 : IntKind.i64.wrap ((k : Int) + 1) = (k : Int) + 1 := by rw [IntKind.wrap_i64]; omega
      have hst := rdNum_step HL.out hlt
      have hnx := rdNum_take (l := p) (k := k) (by rw [HL.out]; exact hlt)
      have ck : wr.cell? ⟨bb, off + k, none⟩ = some (.int .u8 ((p.getD k 0).toNat : Int)) := HR.out.cellsAt k (by rw [HL.out]; exact hlt)
      obtain ⟨a, HA⟩ : ∃ a : Nat, Hid (a = rdNum (p.take k)) := ⟨_, rfl⟩
      obtain ⟨y, HY⟩ : ∃ y : Nat, Hid (y = (p.getD k 0).toNat) := ⟨_, rfl⟩
      obtain ⟨a2, HA2⟩ : ∃ a : Nat, Hid (a = rdNum (p.take k) * 256) := ⟨_, rfl⟩
      rw [← HA.out] at hst hnx HA2 ⊢
      rw [← HY.out] at hst hnx ck
      have hy : y < 256 := by rw [HY.out]; exact (p.getD k 0).isLt
      have f6 : IntKind.u64.wrap ((a : Int) * 256) = (a2 : Int) := by rw [IntKind.wrap_u64]; have := HA2.out; omega
      have f7 : bits .or .u64 (a2 : Int) (y : Int) = ((rdNum (p.take (k + 1)) : Nat) : Int) := by rw [hnx, or_byte a2 y (by have := HA2.out; omega) hy (by have := HA2.out; omega), HA2.out]
      clear hst hnx
      go_wp2
      go_roundw
      case rel => exact ⟨k + 1, by omega, by simp, by trivial, trivial⟩
      case measure => simp [intOf]; omega
set_option maxRecDepth 100000 in
set_option maxHeartbeats 8000000 in
theorem jSectors_any (n : Nat) (hn : n < 1000000000000) (w : World) : Calls Tryz.prog 103 #[.int .i64 (n : Int)] w fun e w' => e = .returned (.int .i64 (((n + 63) / 64 : Nat) : Int)) ∧ w' = w := by
  obtain ⟨m, HM⟩ : ∃ m, Hid (m = n + 63) := ⟨_, rfl⟩
  obtain ⟨q, HQ⟩ : ∃ q, Hid (q = m / 64) := ⟨_, rfl⟩
  have hm := HM.out
  have hq := HQ.out
  have f1 : IntKind.i64.wrap ((n : Int) + 64) = (n : Int) + 64 := by rw [IntKind.wrap_i64]; omega
  have f2 : IntKind.i64.wrap ((n : Int) + 64 - 1) = (m : Int) := by rw [IntKind.wrap_i64]; omega
  have f4 : IntKind.i64.wrap ((n : Int) + 63) = (m : Int) := by rw [IntKind.wrap_i64]; omega
  have f3 : wrap64 ((m : Int) / 64) = (q : Int) := qJ hq (by omega)
  rw [← hm, ← hq]
  clear hm hq hn
  go_enter Tryz.func103, Tryz.ntmps103
  go_wp2
  go_ret
  refine ⟨?_, rfl⟩
  show Ending.returned (.int .i64 (wrap64 ((m : Int) / 64))) = _
  rw [f3]
set_option maxRecDepth 100000 in
set_option maxHeartbeats 8000000 in
theorem jRecSec_any (v : Value) (x : Bs) (hx : x.length < 100000000000) (w : World) (hr : Reads w v x) : Calls Tryz.prog 116 #[v] w fun e w' => e = .returned (.int .i64 (secR x.length : Int)) ∧ w' = w := by
  obtain ⟨ad, cp, hv, _⟩ := hr
  obtain ⟨n, HN⟩ : ∃ n, Hid (n = x.length) := ⟨_, rfl⟩
  obtain ⟨m, HM⟩ : ∃ m, Hid (m = 57 + n) := ⟨_, rfl⟩
  rw [← HN.out] at hv hx ⊢
  subst hv
  have hm := HM.out
  have f1 : IntKind.i64.wrap (57 + (n : Int)) = (m : Int) := by rw [IntKind.wrap_i64]; omega
  have HS : Hid (∀ W, Calls Tryz.prog 103 #[.int .i64 (m : Int)] W fun e w' => e = .returned (.int .i64 (secR n : Int)) ∧ w' = W) := fun W => by
    have h := jSectors_any m (by omega) W
    have e : (m + 63) / 64 = secR n := by unfold secR; omega
    rw [e] at h
    exact h
  clear hm hx
  go_enter Tryz.func116, Tryz.ntmps116
  go_wp2_with (go_at_call 103; refine (HS.out _).mono ?_; rintro e0 y1 ⟨rfl, rfl⟩)
  go_ret
  exact ⟨rfl, rfl⟩
set_option maxRecDepth 100000 in
set_option maxHeartbeats 8000000 in
theorem jPadded_own (base : Nat) (v : Value) (l : Bs) (w : World) (hown : OwnB w base v l) (hne : l ≠ []) (hb : base ≤ w.heap.size) (hl : l.length ≤ 10000000) :
    Calls Tryz.prog 127 #[v] w fun e w' => ∃ v', e = .returned v' ∧ OwnB w' base v' (padB l) ∧ Below base w w' := by
  have HO : Hid (OwnB w base v l) := hown
  have HNE : Hid (l ≠ []) := hne
  have HB : Hid (base ≤ w.heap.size) := hb
  obtain ⟨ad, c, hv⟩ : ∃ a c, v = .slice a l.length c := by
    rcases hown with ⟨_, ⟨rfl, h2⟩ | ⟨g', cap, cur, rfl, _⟩⟩
    · exact ⟨none, 0, by rw [h2]⟩
    · exact ⟨_, _, rfl⟩
  obtain ⟨n, HN⟩ : ∃ n, Hid (n = l.length) := ⟨_, rfl⟩
  obtain ⟨q, HQ⟩ : ∃ q, Hid (q = (n + 63) / 64) := ⟨_, rfl⟩
  obtain ⟨N, HNN⟩ : ∃ N, Hid (N = q * 64) := ⟨_, rfl⟩
  obtain ⟨k, HK⟩ : ∃ k, Hid (k = N - n) := ⟨_, rfl⟩
  rw [← HN.out] at hv hl
  subst hv
  have hq := HQ.out
  have hN := HNN.out
  have hk := HK.out
  have f1 : IntKind.i64.wrap ((q : Int) * 64) = (N : Int) := mJ hN (by omega)
  have f2 : IntKind.i64.wrap ((N : Int) - (n : Int)) = (k : Int) := by rw [IntKind.wrap_i64]; omega
  have HLK : Hid (l.length + k ≤ 100000000) := by show _ ≤ _; rw [← HN.out]; omega
  have HSC : Hid (∀ W, Calls Tryz.prog 103 #[.int .i64 (n : Int)] W fun e w' => e = .returned (.int .i64 (q : Int)) ∧ w' = W) := fun W => by
    have h := jSectors_any n (by omega) W
    rw [← hq] at h
    exact h
  have HPD : Hid (l ++ List.replicate k 0 = padB l) := by show _ = _; rw [padB, ← HN.out, hk, hN, hq]
  clear hq hN hk hown hne hb hl
  go_enter Tryz.func127, Tryz.ntmps127
  have tk0 : Hid True := trivial
  have tk1 : Hid True := trivial
  go_wp2_with (first
    | (clear tk0; go_at_call 103; refine (HSC.out _).mono ?_; rintro e0 y1 ⟨rfl, hw1⟩; subst hw1)
    | (clear tk1; at_builtin; refine wpSeq_noughts (.tmp 3) (.tmp 10) base _ l k HO.out HNE.out HLK.out HB.out rfl rfl rfl rfl ?_; intro v2 w2 hown2 hg2 hb2))
  go_ret
  exact ⟨_, rfl, by rw [← HPD.out]; exact hown2, hb2⟩
theorem wpSeq_buildYO {ops : Array Oper} {Q : Exit → Act → World → Prop} {rest : List Oper} {o : Oper} {a : Act} {w : World} (b : BitVec 8) (x : Operand) (hx : a.eval x = .int .u8 (b.toNat : Int)) (ho : o.op = .buildSlice 23 1 #[(0, x)]) (hw : Region.wanted o (yielded ops a.tmps) = true)
    (h : ∀ g w', NewR (cb [b]) 5 w g w' → wpList Tryz.prog ops Q rest (a.put o.dst (.slice (some ⟨g, 0, none⟩) 1 1)) w') : wpList Tryz.prog ops Q (o :: rest) a w :=
  wpSeq_val _ _ hw (build_yJ b _ o x hx ho w) (h _ _ (NewR.of _ _ w))
theorem blk_own1 {w : World} {base g : Nat} {b : BitVec 8} (h : Blk w g (cb [b]) 5) (hb : base ≤ g) : OwnB w base (.slice (some ⟨g, 0, none⟩) 1 1) [b] := by
  have h2 := own_of_blkJ (k := 1) (c := 1) h hb rfl (Nat.le_refl _) (by decide)
  exact h2
set_option maxRecDepth 100000 in
set_option maxHeartbeats 8000000 in
theorem jHead_own (gen : Nat) (hg : gen < 18446744073709551616) (w : World) (hK : KOk w) : Calls Tryz.prog 118 #[.int .u64 (gen : Int)] w fun e w' => ∃ v', e = .returned v' ∧ OwnB w' w.heap.size v' (headB gen) ∧ Below w.heap.size w w' := by
  have HK : Hid (KOk w) := hK
  have HBW : Hid (Below w.heap.size w w) := Below.refl _ _
  obtain ⟨hd, HHD⟩ : ∃ x, Hid (x = hd9 gen) := ⟨_, rfl⟩
  obtain ⟨dg, HDG⟩ : ∃ x, Hid (x = dig hd) := ⟨_, rfl⟩
  have HD9 : Hid (hd.length = 9) := by rw [HHD.out]; exact len_hd9 gen
  have HDL : Hid (dg.length = 32) := by rw [HDG.out]; exact len_dig' _
  have HNU : Hid (∀ (W : World) (v : Value), OwnB W w.heap.size v [72] → w.heap.size ≤ W.heap.size → Calls Tryz.prog 126 #[v, .int .u64 (gen : Int)] W fun e w' => ∃ v', e = .returned v' ∧ OwnB w' w.heap.size v' hd ∧ Below w.heap.size W w') := fun W v h1 h2 => by rw [HHD.out]; exact jNumber_own _ v [72] gen hg W h1 h2 (by decide)
  have HOF : Hid (∀ (W : World) (v : Value), KOk W → Reads W v hd → Calls Tryz.prog 125 #[v] W fun e w' => e = .returned (.agg (cb dg).toArray) ∧ Below W.heap.size W w') := fun W v hk hr => by rw [HDG.out]; exact tOf_any v hd W hk hr (by rw [HD9.out]; omega)
  have HPD : Hid (padB (hd ++ dg) = headB gen ∧ hd ++ dg ≠ [] ∧ (hd ++ dg).length ≤ 10000000) := ⟨by rw [HDG.out, HHD.out]; rfl, fun e => by have h1 := congrArg List.length e; rw [List.length_append, HD9.out] at h1; simp at h1, by rw [List.length_append, HD9.out, HDL.out]; decide⟩
  clear hg hK
  go_enter Tryz.func118, Tryz.ntmps118
  have tk0 : Hid True := trivial
  have tk1 : Hid True := trivial
  have tk2 : Hid True := trivial
  have tk3 : Hid True := trivial
  have tk4 : Hid True := trivial
  go_wp2_with (first
    | (clear tk0; with_reducible refine wpSeq_buildYO 72 (.const (.int .u8 72)) ?_ ?_ ?_ ?_
       · rfl
       · rfl
       · rfl
       intro gy y1 nn
       have HO : Hid (OwnB y1 w.heap.size (.slice (some ⟨gy, 0, none⟩) 1 1) [72]) := blk_own1 nn.blk nn.ge
       replace HBW : Hid (Below w.heap.size w y1) := nn.below
       clear nn)
    | (clear tk1; go_at_call 126; refine (HNU.out _ _ HO.out HBW.out.size).mono ?_; rintro e0 y2 ⟨v2, rfl, ho, hz⟩
       replace HBW : Hid (Below w.heap.size w y2) := HBW.out.trans hz
       replace HO : Hid (OwnB y2 w.heap.size v2 hd) := ho
       clear ho hz)
    | (clear tk2; go_at_call 125; refine (HOF.out _ _ (HK.out.below HBW.out HK.out.lt) HO.out.reads).mono ?_; rintro e0 y3 ⟨rfl, hz⟩
       replace HO : Hid (OwnB y3 w.heap.size v2 hd) := HO.out.below hz (Nat.le_refl _)
       replace HBW : Hid (Below w.heap.size w y3) := HBW.out.trans (hz.mono HBW.out.size)
       clear hz)
    | (clear tk3; go_at_call 123; refine (cdigest_any w.heap.size v2 hd dg HDL.out _ HO.out HBW.out.size (by rw [HD9.out]; decide)).mono ?_; rintro e0 y4 ⟨v4, rfl, ho, hz⟩
       replace HBW : Hid (Below w.heap.size w y4) := HBW.out.trans hz
       have HO4 : Hid (OwnB y4 w.heap.size v4 (hd ++ dg)) := ho
       clear ho hz HO)
    | (clear tk4; go_at_call 127; refine (jPadded_own w.heap.size v4 _ _ HO4.out HPD.out.2.1 HBW.out.size HPD.out.2.2).mono ?_; rintro e0 y5 ⟨v5, rfl, ho, hz⟩
       replace HBW : Hid (Below w.heap.size w y5) := HBW.out.trans hz
       have HO5 : Hid (OwnB y5 w.heap.size v5 (headB gen)) := by rw [← HPD.out.1]; exact ho
       clear ho hz HO4))
  go_ret
  exact ⟨_, rfl, HO5.out, HBW.out⟩
set_option maxRecDepth 100000 in
set_option maxHeartbeats 8000000 in
theorem jText_own (gen seq : Nat) (hg : gen < 18446744073709551616) (hq : seq < 18446744073709551616) (v : Value) (b : Bs) (hb : b.length < 9000000) (w : World) (hr : Reads w v b) : Calls Tryz.prog 124 #[.int .u64 (gen : Int), .int .u64 (seq : Int), v] w fun e w' => ∃ v', e = .returned v' ∧ OwnB w' w.heap.size v' (textB gen seq b) ∧ Below w.heap.size w w' := by
  obtain ⟨ab, nb, cbb, rfl⟩ := hr.form
  have HB : Hid (Reads w (.slice ab nb cbb) b) := hr
  have HBW : Hid (Below w.heap.size w w) := Below.refl _ _
  have HG : Hid (gen < 18446744073709551616) := hg
  have HQ : Hid (seq < 18446744073709551616) := hq
  have HL : Hid (b.length < 9000000) := hb
  have HTX : Hid (([74] ++ num8 gen ++ num8 seq) ++ b = textB gen seq b ∧ ([74] ++ num8 gen ++ num8 seq).length = 17 ∧ ([74] ++ num8 gen).length = 9) := ⟨by simp [textB], by simp [len_num8], by simp [len_num8]⟩
  clear hr hg hq hb
  go_enter Tryz.func124, Tryz.ntmps124
  have tk0 : Hid True := trivial
  have tk1 : Hid True := trivial
  have tk2 : Hid True := trivial
  have tk3 : Hid True := trivial
  go_wp2_with (first
    | (clear tk0; with_reducible refine wpSeq_buildYO 74 (.const (.int .u8 74)) ?_ ?_ ?_ ?_
       · rfl
       · rfl
       · rfl
       intro gy y1 nn
       have HO : Hid (OwnB y1 w.heap.size (.slice (some ⟨gy, 0, none⟩) 1 1) [74]) := blk_own1 nn.blk nn.ge
       replace HBW : Hid (Below w.heap.size w y1) := nn.below
       clear nn)
    | (clear tk1; go_at_call 126; refine (jNumber_own _ _ [74] gen HG.out _ HO.out HBW.out.size (by decide)).mono ?_; rintro e0 y2 ⟨v2, rfl, ho, hz⟩
       replace HBW : Hid (Below w.heap.size w y2) := HBW.out.trans hz
       replace HO : Hid (OwnB y2 w.heap.size v2 ([74] ++ num8 gen)) := ho
       clear ho hz)
    | (clear tk2; go_at_call 126; refine (jNumber_own _ _ ([74] ++ num8 gen) seq HQ.out _ HO.out HBW.out.size (by rw [HTX.out.2.2]; decide)).mono ?_; rintro e0 y3 ⟨v3, rfl, ho, hz⟩
       replace HBW : Hid (Below w.heap.size w y3) := HBW.out.trans hz
       replace HO : Hid (OwnB y3 w.heap.size v3 ([74] ++ num8 gen ++ num8 seq)) := ho
       clear ho hz)
    | (clear tk3; at_builtin; refine wpList_appendB rfl (.tmp 11) (.tmp 12) rfl w.heap.size _ ([74] ++ num8 gen ++ num8 seq) rfl HO.out _ b rfl (HB.out.below HBW.out) (by rw [HTX.out.2.1]; have := HL.out; omega) HBW.out.size ?_; intro v4 y4 ho hz _
       replace HBW : Hid (Below w.heap.size w y4) := HBW.out.trans hz
       have HO4 : Hid (OwnB y4 w.heap.size v4 (textB gen seq b)) := by rw [← HTX.out.1]; exact ho
       clear ho hz HO))
  go_ret
  exact ⟨_, rfl, HO4.out, HBW.out⟩
theorem raw_parts (gen seq : Nat) (b : Bs) : (((textB gen seq [] ++ dig (textB gen seq b)) ++ num8 b.length) ++ b) = rawB gen seq b := by simp [textB, rawB]
theorem len_textB (gen seq : Nat) (b : Bs) : (textB gen seq b).length = 17 + b.length := by simp [textB, len_num8]; omega
set_option maxRecDepth 100000 in
set_option maxHeartbeats 8000000 in
theorem jRecord_own (gen seq : Nat) (hg : gen < 18446744073709551616) (hq : seq < 18446744073709551616) (v : Value) (b : Bs) (hb : b.length < 8000000) (w : World) (hK : KOk w) (hr : Reads w v b) : Calls Tryz.prog 101 #[.int .u64 (gen : Int), .int .u64 (seq : Int), v] w fun e w' => ∃ v', e = .returned v' ∧ OwnB w' w.heap.size v' (recB gen seq b) ∧ Below w.heap.size w w' := by
  obtain ⟨m, HM⟩ : ∃ m, Hid (m = b.length) := ⟨_, rfl⟩
  obtain ⟨ab, cbb, hv⟩ : ∃ a c, v = .slice a m c := by obtain ⟨ad, cp, hv, _⟩ := hr; exact ⟨ad, cp, by rw [HM.out]; exact hv⟩
  subst hv
  have HB : Hid (Reads w (.slice ab m cbb) b) := hr
  have HBW : Hid (Below w.heap.size w w) := Below.refl _ _
  have HK : Hid (KOk w) := hK
  have HG : Hid (gen < 18446744073709551616) := hg
  have HQ : Hid (seq < 18446744073709551616) := hq
  have HL : Hid (b.length < 8000000 ∧ m < 8000000) := ⟨hb, by rw [HM.out]; exact hb⟩
  have f1 : IntKind.u64.wrap (m : Int) = (m : Int) := uJ (by have := HL.out.2; omega)
  obtain ⟨t0, HT0⟩ : ∃ x, Hid (x = textB gen seq []) := ⟨_, rfl⟩
  obtain ⟨t1, HT1⟩ : ∃ x, Hid (x = textB gen seq b) := ⟨_, rfl⟩
  obtain ⟨dg, HDG⟩ : ∃ x, Hid (x = dig t1) := ⟨_, rfl⟩
  have HDL : Hid (dg.length = 32 ∧ t0.length = 17 ∧ t1.length < 9000000) := ⟨by rw [HDG.out]; exact len_dig' _, by rw [HT0.out, len_textB]; rfl, by rw [HT1.out, len_textB]; have := HL.out.1; omega⟩
  have HNIL : Hid (∀ W, Reads W (.slice none 0 0) []) := fun W => ⟨none, 0, rfl, Nat.le_refl _, fun _ => rfl, fun h => by simp at h⟩
  have HX0 : Hid (∀ W : World, Calls Tryz.prog 124 #[.int .u64 (gen : Int), .int .u64 (seq : Int), .slice none 0 0] W fun e w' => ∃ v', e = .returned v' ∧ OwnB w' W.heap.size v' t0 ∧ Below W.heap.size W w') := fun W => by rw [HT0.out]; exact jText_own gen seq HG.out HQ.out _ [] (by decide) W (HNIL.out W)
  have HX1 : Hid (∀ W : World, Reads W (.slice ab m cbb) b → Calls Tryz.prog 124 #[.int .u64 (gen : Int), .int .u64 (seq : Int), .slice ab m cbb] W fun e w' => ∃ v', e = .returned v' ∧ OwnB w' W.heap.size v' t1 ∧ Below W.heap.size W w') := fun W h => by rw [HT1.out]; exact jText_own gen seq HG.out HQ.out _ b (by have := HL.out.1; omega) W h
  have HOF : Hid (∀ (W : World) (v : Value), KOk W → Reads W v t1 → Calls Tryz.prog 125 #[v] W fun e w' => e = .returned (.agg (cb dg).toArray) ∧ Below W.heap.size W w') := fun W v hk hr => by rw [HDG.out]; exact tOf_any v t1 W hk hr (by have := HDL.out.2.2; omega)
  have HPD : Hid (padB (((t0 ++ dg) ++ num8 m) ++ b) = recB gen seq b ∧ ((t0 ++ dg) ++ num8 m) ++ b ≠ [] ∧ (((t0 ++ dg) ++ num8 m) ++ b).length ≤ 10000000 ∧ ((t0 ++ dg) ++ num8 m).length = 57 ∧ (t0 ++ dg).length = 49) := by
    have hl : (((t0 ++ dg) ++ num8 m)).length = 57 := by rw [List.length_append, List.length_append, HDL.out.1, HDL.out.2.1, len_num8]
    refine ⟨by rw [HDG.out, HT0.out, HT1.out, HM.out, raw_parts]; rfl, fun e => ?_, ?_, hl, by rw [List.length_append, HDL.out.1, HDL.out.2.1]⟩
    · have h1 := congrArg List.length e; rw [List.length_append, hl] at h1; simp at h1
    · rw [List.length_append, hl]; have := HL.out.1; omega
  clear hg hK hq hb hr
  go_enter Tryz.func101, Tryz.ntmps101
  have tk0 : Hid True := trivial
  have tk1 : Hid True := trivial
  have tk2 : Hid True := trivial
  have tk3 : Hid True := trivial
  have tk4 : Hid True := trivial
  have tk5 : Hid True := trivial
  have tk6 : Hid True := trivial
  go_wp2_with (first
    | (clear tk0; go_at_call 124; refine (HX0.out _).mono ?_; rintro e0 y1 ⟨v1, rfl, ho, hz⟩
       have HO : Hid (OwnB y1 w.heap.size v1 t0) := ho
       replace HBW : Hid (Below w.heap.size w y1) := hz
       clear ho hz)
    | (clear tk1; go_at_call 124; refine (HX1.out _ (HB.out.below HBW.out)).mono ?_; rintro e0 y2 ⟨v2, rfl, ho, hz⟩
       replace HO : Hid (OwnB y2 w.heap.size v1 t0) := HO.out.below hz (Nat.le_refl _)
       have HRT : Hid (Reads y2 v2 t1) := ho.reads
       replace HBW : Hid (Below w.heap.size w y2) := HBW.out.trans (hz.mono HBW.out.size)
       clear ho hz)
    | (clear tk2; go_at_call 125; refine (HOF.out _ _ (HK.out.below HBW.out HK.out.lt) HRT.out).mono ?_; rintro e0 y3 ⟨rfl, hz⟩
       replace HO : Hid (OwnB y3 w.heap.size v1 t0) := HO.out.below hz (Nat.le_refl _)
       replace HBW : Hid (Below w.heap.size w y3) := HBW.out.trans (hz.mono HBW.out.size)
       clear hz HRT)
    | (clear tk3; go_at_call 123; refine (cdigest_any w.heap.size v1 t0 dg HDL.out.1 _ HO.out HBW.out.size (by rw [HDL.out.2.1]; decide)).mono ?_; rintro e0 y4 ⟨v4, rfl, ho, hz⟩
       replace HBW : Hid (Below w.heap.size w y4) := HBW.out.trans hz
       have HO4 : Hid (OwnB y4 w.heap.size v4 (t0 ++ dg)) := ho
       clear ho hz HO)
    | (clear tk4; go_at_call 126; refine (jNumber_own _ _ (t0 ++ dg) m (by have := HL.out.2; omega) _ HO4.out HBW.out.size (by rw [HPD.out.2.2.2.2]; decide)).mono ?_; rintro e0 y5 ⟨v5, rfl, ho, hz⟩
       replace HBW : Hid (Below w.heap.size w y5) := HBW.out.trans hz
       have HO5 : Hid (OwnB y5 w.heap.size v5 ((t0 ++ dg) ++ num8 m)) := ho
       clear ho hz HO4)
    | (clear tk5; at_builtin; refine wpList_appendB rfl (.tmp 22) (.tmp 23) rfl w.heap.size _ ((t0 ++ dg) ++ num8 m) rfl HO5.out _ b rfl (HB.out.below HBW.out) (by rw [HPD.out.2.2.2.1]; have := HL.out.1; omega) HBW.out.size ?_; intro v6 y6 ho hz _
       replace HBW : Hid (Below w.heap.size w y6) := HBW.out.trans hz
       have HO6 : Hid (OwnB y6 w.heap.size v6 (((t0 ++ dg) ++ num8 m) ++ b)) := ho
       clear ho hz HO5)
    | (clear tk6; go_at_call 127; refine (jPadded_own w.heap.size v6 _ _ HO6.out HPD.out.2.1 HBW.out.size HPD.out.2.2.1).mono ?_; rintro e0 y7 ⟨v7, rfl, ho, hz⟩
       replace HBW : Hid (Below w.heap.size w y7) := HBW.out.trans hz
       have HO7 : Hid (OwnB y7 w.heap.size v7 (recB gen seq b)) := by rw [← HPD.out.1]; exact ho
       clear ho hz HO6))
  go_ret
  exact ⟨_, rfl, HO7.out, HBW.out⟩
set_option maxRecDepth 100000 in
set_option maxHeartbeats 8000000 in
theorem jCheck_any (v : Value) (x : Bs) (w : World) (hr : Reads w v x) : Calls Tryz.prog 100 #[v] w fun e w' => e = .returned (.int .i64 (chkX x)) ∧ w' = w := by
  obtain ⟨ad, cp, hv, _⟩ := hr
  obtain ⟨n, HN⟩ : ∃ n, Hid (n = x.length) := ⟨_, rfl⟩
  obtain ⟨r, HRR⟩ : ∃ r, Hid (r = chkX x) := ⟨_, rfl⟩
  rw [← HRR.out]
  have hx : r = if n = 0 ∨ 1048576 < n then 1 else 0 := by rw [HRR.out, chkX, ← HN.out]
  rw [← HN.out] at hv
  subst hv
  by_cases h0 : n = 0
  · subst h0
    rw [if_pos (Or.inl rfl)] at hx
    subst hx
    go_enter Tryz.func100, Tryz.ntmps100
    go_wp2
    go_ret
    exact ⟨rfl, rfl⟩
  · have q0 : ((n : Int) == 0) = false := by rw [beq_eq_false_iff_ne]; omega
    by_cases h1 : 1048576 < n
    · rw [if_pos (Or.inr h1)] at hx
      subst hx
      have q1 : (1048576 : Int) < (n : Int) := by omega
      go_enter Tryz.func100, Tryz.ntmps100
      go_wp2
      go_ret
      exact ⟨rfl, rfl⟩
    · rw [if_neg (by omega)] at hx
      subst hx
      have q1 : ¬ ((1048576 : Int) < (n : Int)) := by omega
      go_enter Tryz.func100, Tryz.ntmps100
      go_wp2
      go_ret
      exact ⟨rfl, rfl⟩
set_option maxRecDepth 100000 in
set_option maxHeartbeats 8000000 in
theorem bPrefix_any (va vb : Value) (a p : Bs) (w : World) (hp0 : 0 < a.length) (ha : Reads w va a) (hb : Reads w vb p) : Calls Tryz.prog 134 #[va, vb] w fun e w' => e = .returned (.bool (decide (a.take p.length = p))) ∧ Below w.heap.size w w' := by
  obtain ⟨aa, ca, hva, hca, hna, hpa⟩ := id ha
  obtain ⟨ab, cbb, hvb, hcb, hnb, hpb⟩ := id hb
  obtain ⟨n, HN⟩ : ∃ n, Hid (n = a.length) := ⟨_, rfl⟩
  obtain ⟨m, HM⟩ : ∃ m, Hid (m = p.length) := ⟨_, rfl⟩
  obtain ⟨r, HRR⟩ : ∃ r, Hid (r = decide (a.take p.length = p)) := ⟨_, rfl⟩
  rw [← HRR.out]
  rw [← HN.out] at hva
  rw [← HM.out] at hvb
  subst hva hvb
  have HB : Hid (Reads w (.slice ab m cbb) p) := hb
  by_cases hle : m ≤ n
  case neg =>
    have hr : r = false := by
      rw [HRR.out, decide_eq_false_iff_not]
      intro e
      have h1 := congrArg List.length e
      rw [List.length_take] at h1
      have h2 := HN.out
      have h3 := HM.out
      omega
    have g1 : ¬ ((m : Int) ≤ (n : Int)) := by omega
    subst hr
    clear HB ha hb hpa hpb hna hnb hca hcb
    go_enter Tryz.func134, Tryz.ntmps134
    go_wp2
    go_ret
    exact ⟨rfl, Below.refl _ _⟩
  case pos =>
    have g1 : (m : Int) ≤ (n : Int) := by omega
    obtain ⟨bb, off, had, _⟩ := hpa hp0
    subst had
    have hnc : n ≤ ca := by rw [HN.out]; exact hca
    have HCUT : Hid (m ≤ n ∧ n ≤ ca) := ⟨hle, hnc⟩
    have hrv : Reads w (.slice (some ⟨bb, off, none⟩) m ca) (a.take m) := by
      have h := ha.cutJ 0 m ca (by have := HN.out; omega) (by omega)
      rw [Nat.add_zero, List.drop_zero] at h
      exact h
    have HE : Hid (Calls Tryz.prog 153 #[.slice (some ⟨bb, off, none⟩) m ca, .slice ab m cbb] w fun e w' => e = .returned (.bool r) ∧ Below w.heap.size w w') := by
      have h := bEqual_any _ _ (a.take m) p w hrv HB.out
      rw [HM.out] at h
      rw [HRR.out]
      rw [HM.out]
      exact h
    clear hrv hnc ha hb hpa hpb hna hnb hca hcb HB
    go_enter Tryz.func134, Tryz.ntmps134
    have tk0 : Hid True := trivial
    have tk1 : Hid True := trivial
    go_wp2_with (first
      | (clear tk0; refine wpSeq_val (.slice (some ⟨bb, off, none⟩) m ca) _ (by rfl) (cutTo bb off n ca m HCUT.out.1 HCUT.out.2 _ _ (.tmp 11) (.tmp 13) rfl rfl rfl _) ?_)
      | (clear tk1; go_at_call 153; refine HE.out.mono ?_; rintro e0 y1 ⟨rfl, hz⟩))
    go_ret
    exact ⟨rfl, hz⟩
set_option maxRecDepth 100000 in
set_option maxHeartbeats 8000000 in
theorem jBlank_any (v : Value) (b : Bs) (w : World) (hl : b.length < 1000000000) (hr : Reads w v b) : Calls Tryz.prog 115 #[v] w fun e w' => e = .returned (.bool (decide (∀ z ∈ b, z = 0))) ∧ w' = w := by
  obtain ⟨ad, c, hv, _, _, hpos⟩ := id hr
  obtain ⟨n, HN⟩ : ∃ n, Hid (n = b.length) := ⟨_, rfl⟩
  obtain ⟨r, HRR⟩ : ∃ r, Hid (r = decide (∀ z ∈ b, z = 0)) := ⟨_, rfl⟩
  rw [← HRR.out]
  rw [← HN.out] at hv hl
  subst hv
  have HL : Hid (n < 1000000000) := hl
  have HC : Hid (∀ k, k < n → ∃ bb off, ad = some ⟨bb, off, none⟩ ∧ w.cell? ⟨bb, off + k, none⟩ = some (.int .u8 ((b.getD k 0).toNat : Int))) := fun k hk => by
    obtain ⟨bb, off, h1, h2⟩ := hpos (by rw [← HN.out]; omega)
    exact ⟨bb, off, h1, h2 k (by rw [← HN.out]; exact hk)⟩
  clear hr hpos hl
  go_enter Tryz.func115, Tryz.ntmps115
  go_wp2
  go_loopw [7] (fun i wr => ∃ k : Nat, k ≤ n ∧ i = .int .i64 (k : Int) ∧ (∀ j, j < k → b.getD j 0 = 0) ∧ wr = w) (fun i _ => n - (intOf i).toNat)
  case atStart => exact ⟨0, by omega, rfl, fun j hj => absurd hj (by omega), rfl⟩
  case round =>
    obtain ⟨k, hk, rfl, hz, rfl⟩ := hrel
    have HZ : Hid (∀ j, j < k → b.getD j 0 = 0) := hz
    clear hz
    by_cases hlt : k < n
    case neg =>
      have hlk : ¬ ((k : Int) < (n : Int)) := by omega
      have hr : r = true := by
        rw [HRR.out, decide_eq_true_iff]
        intro z hzb
        obtain ⟨j, hj, rfl⟩ := List.getElem_of_mem hzb
        have := HZ.out j (by have := HN.out; omega)
        rw [List.getD_eq_getElem?_getD, List.getElem?_eq_getElem hj] at this
        exact this
      subst hr
      go_wp2
      go_ret
      exact ⟨rfl, rfl⟩
    case pos =>
      have hlk : (k : Int) < (n : Int) := by omega
      have k0 : (0 : Int) ≤ (k : Int) := by omega
      have f5 : IntKind.i64.wrap ((k : Int) + 1) = (k : Int) + 1 := by rw [IntKind.wrap_i64]; have := HL.out; omega
      obtain ⟨bb, off, rfl, ck⟩ := HC.out k hlt
      obtain ⟨y, HY⟩ : ∃ y : Nat, Hid (y = (b.getD k 0).toNat) := ⟨_, rfl⟩
      rw [← HY.out] at ck
      by_cases hy : y = 0
      · subst hy
        have HZK : Hid (b.getD k 0 = 0) := BitVec.eq_of_toNat_eq HY.out.symm
        go_wp2
        go_roundw
        case rel => exact ⟨k + 1, by omega, by simp, fun j hj => by by_cases e : j = k; rw [e]; exact HZK.out; exact HZ.out j (by omega), trivial⟩
        case measure => simp [intOf]; omega
      · have hr : r = false := by
          rw [HRR.out, decide_eq_false_iff_not]
          intro h
          have hj : k < b.length := by have := HN.out; omega
          have := h (b[k]) (List.getElem_mem hj)
          apply hy
          rw [HY.out, List.getD_eq_getElem?_getD, List.getElem?_eq_getElem hj]
          show (b[k]).toNat = 0
          rw [this]; rfl
        subst hr
        have q0 : ((y : Int) == 0) = false := by rw [beq_eq_false_iff_ne]; omega
        go_wp2
        go_ret
        exact ⟨rfl, rfl⟩
set_option maxRecDepth 100000 in
set_option maxHeartbeats 8000000 in
theorem jRoom1_any (n : Nat) (hn : n < 1000000000) (w : World) : Calls Tryz.prog 99 #[.int .i64 (n : Int)] w fun e w' => e = .returned (.int .i64 ((min 1048576 (64 * n - 57) : Nat) : Int)) ∧ w' = w := by
  obtain ⟨m, HM⟩ : ∃ m, Hid (m = min 1048576 (64 * n - 57)) := ⟨_, rfl⟩
  rw [← HM.out]
  have f1 : IntKind.i64.wrap ((n : Int) * 64) = (n : Int) * 64 := by rw [IntKind.wrap_i64]; omega
  have f2 : IntKind.i64.wrap ((n : Int) * 64 - 57) = (n : Int) * 64 - 57 := by rw [IntKind.wrap_i64]; omega
  go_enter Tryz.func99, Tryz.ntmps99
  go_wp2
  all_goals
    go_ret
    refine ⟨?_, rfl⟩
    show Ending.returned (Value.int IntKind.i64 _) = Ending.returned (Value.int IntKind.i64 (m : Int))
    congr 2
    have := HM.out
    omega
end Go.Proofs.YtopmeedmgjdcgaaGreatDoor
/- The walks of journal's begun and first, as they landed (layer 14). -/
namespace Go.Proofs.YtopmeedmgjdcgaaGreatDoor
open Go.RowKit
set_option maxRecDepth 100000
theorem reads_drop {w : World} {b off n c : Nat} {l : Bs} (h : Reads w (.slice (some ⟨b, off, none⟩) n c) l) (k : Nat) (hk : k ≤ l.length) : Reads w (.slice (some ⟨b, off + k, none⟩) (n - k) (c - k)) (l.drop k) := by
  have hn : n = l.length ∧ n ≤ c := by obtain ⟨_, cp, hv, hc, _⟩ := h; simp only [Value.slice.injEq] at hv; exact ⟨hv.2.1, by rw [hv.2.1, hv.2.2]; exact hc⟩
  have h2 := h.cutJ k (n - k) (c - k) (by omega) (by omega)
  rw [List.take_of_length_le (by rw [List.length_drop]; omega)] at h2
  exact h2
theorem reads_nc {w : World} {ad : Option Addr} {n c : Nat} {l : Bs} (h : Reads w (.slice ad n c) l) : n = l.length ∧ n ≤ c := by obtain ⟨_, cp, hv, hc, _⟩ := h; simp only [Value.slice.injEq] at hv; exact ⟨hv.2.1, by rw [hv.2.1, hv.2.2]; exact hc⟩
theorem gen_pre (half : Bs) : genH half = if half.take 64 = headB (rdNum ((half.drop 1).take 8)) then rdNum ((half.drop 1).take 8) else 0 := by
  unfold genH
  by_cases h : half.take 64 = headB (rdNum ((half.drop 1).take 8))
  · rw [if_pos h]
    by_cases h0 : rdNum ((half.drop 1).take 8) = 0
    · rw [if_pos (Or.inl h0), h0]
    · rw [if_neg (fun e => e.elim h0 (fun e2 => e2 h))]
  · rw [if_neg h, if_pos (Or.inr h)]
set_option maxRecDepth 100000 in
set_option maxHeartbeats 8000000 in
theorem jBegun_any (bb off n c : Nat) (half : Bs) (hl : 64 ≤ half.length) (w : World) (hK : KOk w) (hr : Reads w (.slice (some ⟨bb, off, none⟩) n c) half) : Calls Tryz.prog 113 #[.slice (some ⟨bb, off, none⟩) n c] w fun e w' => e = .returned (.int .u64 (genH half : Int)) ∧ Below w.heap.size w w' := by
  obtain ⟨hn, hc⟩ := reads_nc hr
  obtain ⟨g, HG⟩ : ∃ g, Hid (g = rdNum ((half.drop 1).take 8)) := ⟨_, rfl⟩
  obtain ⟨r, HR⟩ : ∃ r, Hid (r = genH half) := ⟨_, rfl⟩
  obtain ⟨ok, HOK⟩ : ∃ o, Hid (o = decide (half.take 64 = headB g)) := ⟨_, rfl⟩
  have HGL : Hid (g < 18446744073709551616) := by show _ < _; rw [HG.out]; exact rdNum_8 (by rw [List.length_take, List.length_drop]; omega)
  have HRR : Hid (r = if ok = true then g else 0) := by
    show _ = _
    rw [HR.out, gen_pre, ← HG.out, HOK.out]
    by_cases h : half.take 64 = headB g
    · rw [if_pos h, if_pos (by simp [h])]
    · rw [if_neg h, if_neg (by simp [h])]
  have HCT : Hid (1 < n ∧ n ≤ c) := ⟨by omega, hc⟩
  have HN : Hid (∀ W, W = w → Calls Tryz.prog 133 #[.slice (some ⟨bb, off + 1, none⟩) (n - 1) (c - 1)] W fun e w' => e = .returned (.int .u64 (g : Int)) ∧ w' = W) := fun W hW => by
    subst hW
    rw [HG.out]
    exact jRdNum_any _ _ _ _ (half.drop 1) (by rw [List.length_drop]; omega) W (reads_drop hr 1 (by omega))
  have HRD : Hid (Reads w (.slice (some ⟨bb, off, none⟩) n c) half) := hr
  have HPF : Hid (∀ W v, Reads W (.slice (some ⟨bb, off, none⟩) n c) half → Reads W v (headB g) → Calls Tryz.prog 134 #[.slice (some ⟨bb, off, none⟩) n c, v] W fun e w' => e = .returned (.bool ok) ∧ Below W.heap.size W w') := fun W v h1 h2 => by
    have h3 := bPrefix_any _ v half (headB g) W (by omega) h1 h2
    rw [len_headB, ← HOK.out] at h3
    exact h3
  have HK : Hid (KOk w) := hK
  rw [← HR.out]
  clear hn hc hl hr hK
  go_enter Tryz.func113, Tryz.ntmps113
  have tk0 : Hid True := trivial
  have tk1 : Hid True := trivial
  have tk2 : Hid True := trivial
  have tk3 : Hid True := trivial
  cases ok
  all_goals
    have hrr := HRR.out
    first | rw [if_pos rfl] at hrr | rw [if_neg Bool.false_ne_true] at hrr
    rw [hrr]
    clear hrr
    go_wp2_with (first
      | (clear tk0; refine wpSeq_val (.slice (some ⟨bb, off + 1, none⟩) (n - 1) (c - 1)) _ (by rfl) (cutFrom bb off n c 1 HCT.out.1 HCT.out.2 _ _ (.tmp 4) (.const (.int .i64 1)) rfl rfl rfl _) ?_)
      | (clear tk1; go_at_call 133; refine (HN.out _ rfl).mono ?_; rintro e0 y1 ⟨rfl, hy1⟩; subst hy1)
      | (clear tk2; go_at_call 118; refine (jHead_own g HGL.out _ HK.out).mono ?_; rintro e0 y2 ⟨v2, rfl, ho, hz⟩
         have HO : Hid (Reads y2 v2 (headB g)) := ho.reads
         have HBW : Hid (Below y1.heap.size y1 y2) := hz
         clear ho hz)
      | (clear tk3; go_at_call 134; refine (HPF.out _ _ (HRD.out.below HBW.out) HO.out).mono ?_; rintro e0 y3 ⟨rfl, hz⟩
         replace HBW : Hid (Below y1.heap.size y1 y3) := HBW.out.trans (hz.mono HBW.out.size)
         clear hz))
    go_ret
    refine ⟨?_, HBW.out⟩
    first
      | rfl
      | (show Ending.returned (Value.int IntKind.u64 0) = _
         simp)
/-- the record that stands at the front of bytes -/
def firstR (gen seq : Nat) (r : Bs) : Option Bs :=
  if r.length < 57 then none
  else if rdNum ((r.drop 49).take 8) = 0 ∨ r.length - 57 < rdNum ((r.drop 49).take 8) then none
  else if r.take (recB gen seq ((r.drop 57).take (rdNum ((r.drop 49).take 8)))).length = recB gen seq ((r.drop 57).take (rdNum ((r.drop 49).take 8))) then some ((r.drop 57).take (rdNum ((r.drop 49).take 8))) else none
theorem first_len {gen seq : Nat} {r x : Bs} (h : firstR gen seq r = some x) : 0 < x.length ∧ 64 * secR x.length ≤ r.length ∧ x.length ≤ r.length := by
  unfold firstR at h
  by_cases h1 : r.length < 57
  · rw [if_pos h1] at h; cases h
  rw [if_neg h1] at h
  by_cases h2 : rdNum ((r.drop 49).take 8) = 0 ∨ r.length - 57 < rdNum ((r.drop 49).take 8)
  · rw [if_pos h2] at h; cases h
  rw [if_neg h2] at h
  by_cases h3 : r.take (recB gen seq ((r.drop 57).take (rdNum ((r.drop 49).take 8)))).length = recB gen seq ((r.drop 57).take (rdNum ((r.drop 49).take 8)))
  · rw [if_pos h3] at h
    injection h with h
    rw [h] at h3
    have h4 := congrArg List.length h3
    rw [List.length_take, len_recB] at h4
    have h5 : x.length = rdNum ((r.drop 49).take 8) := by rw [← h, List.length_take, List.length_drop]; omega
    exact ⟨by omega, by omega, by omega⟩
  · rw [if_neg h3] at h; cases h
/-- a half's records, from what stands first -/
def recNext (gen : Nat) (half : Bs) (f p seq : Nat) : Option Bs → List Bs × Nat
  | none => ([], p)
  | some x => (x :: (recsL gen half f (p + 64 * secR x.length) (seq + 1)).1, (recsL gen half f (p + 64 * secR x.length) (seq + 1)).2)
/-- one record more -/
theorem recs_first {gen : Nat} {half : Bs} {f p seq : Nat} (hm : half.length % 64 = 0) (hp : p % 64 = 0) (hle : p ≤ half.length) : recsL gen half (f + 1) p seq = recNext gen half f p seq (firstR gen seq (half.drop p)) := by
  have e1 : (half.drop p).drop 49 = half.drop (p + 49) := by rw [List.drop_drop]
  have e2 : (half.drop p).drop 57 = half.drop (p + 57) := by rw [List.drop_drop]
  rw [recsL, firstR, e1, e2]
  have e3 : (half.drop p).length = half.length - p := List.length_drop
  rw [e3]
  by_cases h1 : p + 64 ≤ half.length
  case neg => rw [if_neg h1, if_pos (show half.length - p < 57 by omega)]; rfl
  rw [if_pos h1, if_neg (show ¬ half.length - p < 57 by omega)]
  by_cases h2 : rdNum ((half.drop (p + 49)).take 8) = 0 ∨ half.length - p - 57 < rdNum ((half.drop (p + 49)).take 8)
  · rw [if_pos h2, if_pos h2]; rfl
  rw [if_neg h2, if_neg h2]
  by_cases h3 : (half.drop p).take (recB gen seq ((half.drop (p + 57)).take (rdNum ((half.drop (p + 49)).take 8)))).length = recB gen seq ((half.drop (p + 57)).take (rdNum ((half.drop (p + 49)).take 8)))
  · have h4 := congrArg List.length h3
    rw [List.length_take, List.length_drop] at h4
    rw [if_pos h3, if_neg (by rw [not_or]; exact ⟨by omega, fun h => h h3⟩)]
    rw [recNext]
    simp only [len_recB]
  · rw [if_neg h3, if_pos (Or.inr h3)]; rfl
set_option maxRecDepth 100000 in
set_option maxHeartbeats 8000000 in
theorem jFirst_any (gen seq : Nat) (hg : gen < 18446744073709551616) (hq : seq < 18446744073709551616) (v : Value) (r : Bs) (hl : r.length < 8000000) (w : World) (hK : KOk w) (hr : Reads w v r) : Calls Tryz.prog 114 #[v, .int .u64 (gen : Int), .int .u64 (seq : Int)] w fun e w' => ∃ vx, e = .returned (.tuple #[vx, .bool (firstR gen seq r).isSome]) ∧ (∀ x, firstR gen seq r = some x → ∀ W, Reads W v r → Reads W vx x) ∧ Below w.heap.size w w' := by
  obtain ⟨ad, c, hv, hc, hnn, hpos⟩ := id hr
  obtain ⟨n, HN⟩ : ∃ n, Hid (n = r.length) := ⟨_, rfl⟩
  rw [← HN.out] at hv hc hl
  subst hv
  obtain ⟨fr, HFR⟩ : ∃ f, Hid (f = firstR gen seq r) := ⟨_, rfl⟩
  rw [← HFR.out]
  by_cases h57 : n < 57
  · have hfr : fr = none := by rw [HFR.out, firstR, if_pos (by rw [← HN.out]; exact h57)]
    subst hfr
    have q1 : (n : Int) < 57 := by omega
    clear hr hpos hnn hc hl hK
    go_enter Tryz.func114, Tryz.ntmps114
    go_wp2
    refine bodyPost_ret (results_tmp2 rfl _ _ _) rfl ?_
    exact ⟨_, rfl, (fun x h => by cases h), Below.refl _ _⟩
  obtain ⟨bb, off, had, _⟩ := hpos (by rw [← HN.out]; omega)
  subst had
  have q1 : ¬ ((n : Int) < 57) := by omega
  obtain ⟨N, HNN⟩ : ∃ N, Hid (N = rdNum ((r.drop 49).take 8)) := ⟨_, rfl⟩
  have HCT : Hid (49 < n ∧ n ≤ c) := ⟨by omega, hc⟩
  have HNM : Hid (∀ W, W = w → Calls Tryz.prog 133 #[.slice (some ⟨bb, off + 49, none⟩) (n - 49) (c - 49)] W fun e w' => e = .returned (.int .u64 (N : Int)) ∧ w' = W) := fun W hW => by
    subst hW
    rw [HNN.out]
    exact jRdNum_any _ _ _ _ (r.drop 49) (by rw [List.length_drop, ← HN.out]; omega) W (reads_drop hr 49 (by rw [← HN.out]; omega))
  obtain ⟨m, HM⟩ : ∃ m, Hid (m = n - 57) := ⟨_, rfl⟩
  have hm := HM.out
  have f1 : IntKind.i64.wrap ((n : Int) - 57) = (m : Int) := sJ (b := 57) (by omega) (by omega)
  have f2 : IntKind.u64.wrap (m : Int) = (m : Int) := uJ (by omega)
  by_cases h2 : N = 0 ∨ m < N
  · have hfr : fr = none := by rw [HFR.out, firstR, if_neg (by rw [← HN.out]; exact h57), ← HNN.out, if_pos (by rw [← HN.out, ← hm]; exact h2)]
    subst hfr
    clear hr hpos hnn hc hl hK hm
    by_cases hn0 : N = 0
    · subst hn0
      go_enter Tryz.func114, Tryz.ntmps114
      have tk0 : Hid True := trivial
      have tk1 : Hid True := trivial
      go_wp2_with (first
        | (clear tk0; refine wpSeq_val (.slice (some ⟨bb, off + 49, none⟩) (n - 49) (c - 49)) _ (by rfl) (cutFrom bb off n c 49 HCT.out.1 HCT.out.2 _ _ (.tmp 13) (.const (.int .i64 49)) rfl rfl rfl _) ?_)
        | (clear tk1; go_at_call 133; refine (HNM.out _ rfl).mono ?_; rintro e0 y1 ⟨rfl, hy1⟩; subst hy1))
      refine bodyPost_ret (results_tmp2 rfl _ _ _) rfl ?_
      exact ⟨_, rfl, (fun x h => by cases h), Below.refl _ _⟩
    · have q2 : ((N : Int) == 0) = false := by rw [beq_eq_false_iff_ne]; omega
      have q3 : (m : Int) < (N : Int) := by omega
      go_enter Tryz.func114, Tryz.ntmps114
      have tk0 : Hid True := trivial
      have tk1 : Hid True := trivial
      go_wp2_with (first
        | (clear tk0; refine wpSeq_val (.slice (some ⟨bb, off + 49, none⟩) (n - 49) (c - 49)) _ (by rfl) (cutFrom bb off n c 49 HCT.out.1 HCT.out.2 _ _ (.tmp 13) (.const (.int .i64 49)) rfl rfl rfl _) ?_)
        | (clear tk1; go_at_call 133; refine (HNM.out _ rfl).mono ?_; rintro e0 y1 ⟨rfl, hy1⟩; subst hy1))
      refine bodyPost_ret (results_tmp2 rfl _ _ _) rfl ?_
      exact ⟨_, rfl, (fun x h => by cases h), Below.refl _ _⟩
  have q2 : ((N : Int) == 0) = false := by rw [beq_eq_false_iff_ne]; omega
  have q3 : ¬ ((m : Int) < (N : Int)) := by omega
  have f3 : IntKind.i64.wrap (N : Int) = (N : Int) := iJ (by omega)
  obtain ⟨e, HE⟩ : ∃ e, Hid (e = 57 + N) := ⟨_, rfl⟩
  have he := HE.out
  have f4 : IntKind.i64.wrap (57 + (N : Int)) = (e : Int) := by rw [IntKind.wrap_i64]; omega
  have HC2 : Hid (0 < N ∧ 57 + N ≤ n ∧ (e : Int) = ((57 + N : Nat) : Int)) := ⟨by omega, by omega, by omega⟩
  obtain ⟨x, HX⟩ : ∃ x, Hid (x = (r.drop 57).take N) := ⟨_, rfl⟩
  have HXL : Hid (x.length = N) := by show _ = _; rw [HX.out, List.length_take, List.length_drop, ← HN.out]; omega
  have HXR : Hid (∀ W, Reads W (.slice (some ⟨bb, off, none⟩) n c) r → Reads W (.slice (some ⟨bb, off + 57, none⟩) N (c - 57)) x) := fun W hW => by rw [HX.out]; exact hW.cutJ 57 N (c - 57) (by rw [← HN.out]; omega) (by omega)
  have HRD : Hid (Reads w (.slice (some ⟨bb, off, none⟩) n c) r) := hr
  obtain ⟨ok, HOK⟩ : ∃ o, Hid (o = decide (r.take (recB gen seq x).length = recB gen seq x)) := ⟨_, rfl⟩
  have HFF : Hid (fr = if ok = true then some x else none) := by
    show _ = _
    rw [HFR.out, firstR, if_neg (by rw [← HN.out]; exact h57), ← HNN.out, if_neg (by rw [← HN.out, ← hm]; exact h2), ← HX.out, HOK.out]
    by_cases h : r.take (recB gen seq x).length = recB gen seq x
    · rw [if_pos h, if_pos (by simp [h])]
    · rw [if_neg h, if_neg (by simp [h])]
  have HSO : Hid (ok = fr.isSome) := by show _ = _; rw [HFF.out]; cases ok <;> rfl
  have HRC : Hid (Calls Tryz.prog 101 #[.int .u64 (gen : Int), .int .u64 (seq : Int), .slice (some ⟨bb, off + 57, none⟩) N (c - 57)] w fun e w' => ∃ v', e = .returned v' ∧ OwnB w' w.heap.size v' (recB gen seq x) ∧ Below w.heap.size w w') := jRecord_own gen seq hg hq _ x (by rw [HXL.out]; omega) w hK (HXR.out w hr)
  have HPF : Hid (∀ W v, Reads W (.slice (some ⟨bb, off, none⟩) n c) r → Reads W v (recB gen seq x) → Calls Tryz.prog 134 #[.slice (some ⟨bb, off, none⟩) n c, v] W fun e w' => e = .returned (.bool ok) ∧ Below W.heap.size W w') := fun W v h1 h2 => by
    have h3 := bPrefix_any _ v r (recB gen seq x) W (by rw [← HN.out]; omega) h1 h2
    rw [← HOK.out] at h3
    exact h3
  rw [← HSO.out]
  have HFX : Hid (∀ x', fr = some x' → x' = x) := fun x' h => by
    rw [HFF.out] at h
    cases hok : ok
    · rw [hok, if_neg Bool.false_ne_true] at h; cases h
    · rw [hok, if_pos rfl] at h; injection h with h; exact h.symm
  clear hr hpos hnn hc hl hK hm he h2 h57 hg hq
  go_enter Tryz.func114, Tryz.ntmps114
  have tk0 : Hid True := trivial
  have tk1 : Hid True := trivial
  have tk2 : Hid True := trivial
  have tk3 : Hid True := trivial
  have tk4 : Hid True := trivial
  go_wp2_with (first
    | (clear tk0; refine wpSeq_val (.slice (some ⟨bb, off + 49, none⟩) (n - 49) (c - 49)) _ (by rfl) (cutFrom bb off n c 49 HCT.out.1 HCT.out.2 _ _ (.tmp 13) (.const (.int .i64 49)) rfl rfl rfl _) ?_)
    | (clear tk1; go_at_call 133; refine (HNM.out _ rfl).mono ?_; rintro e0 y1 ⟨rfl, hy1⟩; subst hy1)
    | (clear tk2; refine wpSeq_val (.slice (some ⟨bb, off + 57, none⟩) N (c - 57)) _ (by rfl) (cutMid bb off n c 57 N HC2.out.1 HC2.out.2.1 HCT.out.2 57 (e : Int) rfl HC2.out.2.2 _ _ (.tmp 26) (.const (.int .i64 57)) (.tmp 29) rfl rfl rfl rfl _) ?_)
    | (clear tk3; go_at_call 101; refine (HRC.out).mono ?_; rintro e0 y2 ⟨v2, rfl, ho, hz⟩
       have HO : Hid (Reads y2 v2 (recB gen seq x)) := ho.reads
       have HBW : Hid (Below y1.heap.size y1 y2) := hz
       clear ho hz)
    | (clear tk4; go_at_call 134; refine (HPF.out _ _ (HRD.out.below HBW.out) HO.out).mono ?_; rintro e0 y3 ⟨rfl, hz⟩
       replace HBW : Hid (Below y1.heap.size y1 y3) := HBW.out.trans (hz.mono HBW.out.size)
       clear hz))
  refine bodyPost_ret (results_tmp2 rfl _ _ _) rfl ?_
  exact ⟨_, rfl, (fun x' h => by rw [HFX.out x' h]; exact HXR.out), HBW.out⟩
end Go.Proofs.YtopmeedmgjdcgaaGreatDoor

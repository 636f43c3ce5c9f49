/- What a Hash in memory stands for: the text that was written to it; and what one more piece makes of it. Plain mathematics and memory; no program is named here. -/
import Derived.Test.YtaleeaocmomjlaaDoorMem
import Derived.Laws.CopyOwn
import Derived.StillTailTactics
namespace Go.Proofs.YtaleeaocmomjlaaDoor
open Go.RowKit

def blocks : Nat → St → List (BitVec 8) → St
  | 0, s, _ => s
  | k + 1, s, m => blocks k (compress s (m.take 64)) (m.drop 64)
theorem blocks_append : ∀ (k : Nat) (s : St) (m x : List (BitVec 8)), 64 * k ≤ m.length → blocks k s (m ++ x) = blocks k s m
  | 0, _, _, _, _ => rfl
  | k + 1, s, m, x, h => by
    simp only [blocks]
    rw [List.take_append_of_le_length (by omega), List.drop_append_of_le_length (by omega)]
    exact blocks_append k _ _ _ (by simp; omega)
theorem blocks_last : ∀ (k : Nat) (s : St) (m : List (BitVec 8)), blocks (k + 1) s m = compress (blocks k s m) ((m.drop (64 * k)).take 64)
  | 0, s, m => by simp [blocks]
  | k + 1, s, m => by
    rw [blocks, blocks_last k, blocks, List.drop_drop]
    congr 3; omega

/-- the cells of a Hash: the eight words, the block that waits, how many bytes there were -/
def hc (s : St) (blk : List (BitVec 8)) (n : Nat) : List Value := cw s.l ++ (cb blk ++ [Value.int .u64 (n : Int)])
theorem len_l (s : St) : (cw s.l).length = 8 := rfl
theorem len_hc (s : St) (blk : List (BitVec 8)) (n : Nat) (h : blk.length = 64) : (hc s blk n).length = 73 := by simp [hc, len_l, cb_len, h]
theorem hc_len (s : St) (blk : List (BitVec 8)) (n : Nat) (h : blk.length = 64) : (hc s blk n)[72]? = some (.int .u64 (n : Int)) := by
  rw [hc, List.getElem?_append_right (by rw [len_l]; omega), List.getElem?_append_right (by rw [cb_len, len_l, h]; omega)]
  simp [cb_len, len_l, h]
theorem hc_setn (s : St) (blk : List (BitVec 8)) (n k : Nat) (h : blk.length = 64) : (hc s blk n).set 72 (.int .u64 (k : Int)) = hc s blk k := by
  rw [hc, List.set_append_right _ _ (by rw [len_l]; omega), List.set_append_right _ _ (by rw [cb_len, len_l, h]; omega)]
  simp [cb_len, len_l, h, hc]
theorem hc_words (s t : St) (blk : List (BitVec 8)) (n : Nat) : (hc s blk n).take 0 ++ cw t.l ++ (hc s blk n).drop (0 + (cw t.l).length) = hc t blk n := by
  rw [len_l, hc, List.drop_append_of_le_length (by rw [len_l]; omega)]
  simp [hc, cw, St.l]
theorem hc_block (s : St) (blk y : List (BitVec 8)) (n r : Nat) (h : blk.length = 64) (hy : r + y.length ≤ 64) :
    (hc s blk n).take (8 + r) ++ cb y ++ (hc s blk n).drop (8 + r + (cb y).length) = hc s (blk.take r ++ y ++ blk.drop (r + y.length)) n := by
  have h1 : (hc s blk n).take (8 + r) = cw s.l ++ cb (blk.take r) := by
    rw [hc, List.take_append, len_l, List.take_of_length_le (by rw [len_l]; omega), show 8 + r - 8 = r by omega, List.take_append_of_le_length (by rw [cb_len]; omega)]
    simp [cb, List.map_take]
  have h2 : (hc s blk n).drop (8 + r + (cb y).length) = cb (blk.drop (r + y.length)) ++ [Value.int .u64 (n : Int)] := by
    rw [hc, cb_len, List.drop_append, len_l, List.drop_of_length_le (by rw [len_l]; omega), show 8 + r + y.length - 8 = r + y.length by omega, List.drop_append_of_le_length (by rw [cb_len]; omega)]
    simp [cb, List.map_drop]
  rw [h1, h2]
  simp [hc, cb]
theorem hc_block_at (s : St) (blk : List (BitVec 8)) (n : Nat) (h : blk.length = 64) (j : Nat) (v : Value) (hv : (cb blk)[j]? = some v) : (hc s blk n)[8 + j]? = some v := by
  have hj : j < blk.length := by have := (List.getElem?_eq_some_iff.1 hv).1; rwa [cb_len] at this
  rw [hc, List.getElem?_append_right (by rw [len_l]; omega), len_l, show 8 + j - 8 = j by omega, List.getElem?_append_left (by rw [cb_len]; omega)]
  exact hv
theorem hc_words_at (s : St) (blk : List (BitVec 8)) (n : Nat) (j : Nat) (v : Value) (hv : (cw s.l)[j]? = some v) : (hc s blk n)[0 + j]? = some v := by
  have hj : j < (cw s.l).length := (List.getElem?_eq_some_iff.1 hv).1
  rw [hc, List.getElem?_append_left (by omega), Nat.zero_add]; exact hv

/-- what the state (s, blk) says of the text m -/
structure Says (s : St) (blk m : List (BitVec 8)) : Prop where
  len : blk.length = 64
  wds : s = blocks (m.length / 64) st0 m
  blk : blk.take (m.length % 64) = m.drop (64 * (m.length / 64))
theorem Says.more {s : St} {blk m y : List (BitVec 8)} (h : Says s blk m) (hy : m.length % 64 + y.length < 64) :
    Says s (blk.take (m.length % 64) ++ y ++ blk.drop (m.length % 64 + y.length)) (m ++ y) := by
  have hl := h.len
  have e1 : (m ++ y).length / 64 = m.length / 64 := by simp; omega
  have e2 : (m ++ y).length % 64 = m.length % 64 + y.length := by simp; omega
  refine ⟨by simp [hl]; omega, ?_, ?_⟩
  · rw [e1, blocks_append _ _ _ _ (by omega)]; exact h.wds
  · rw [e1, e2, List.drop_append_of_le_length (by omega), ← h.blk, List.take_append_of_le_length (by simp [hl]; omega), List.take_of_length_le (by simp [hl]; omega)]
theorem Says.full {s : St} {blk m y : List (BitVec 8)} (h : Says s blk m) (hy : m.length % 64 + y.length = 64) :
    Says (compress s (blk.take (m.length % 64) ++ y ++ blk.drop (m.length % 64 + y.length))) (blk.take (m.length % 64) ++ y ++ blk.drop (m.length % 64 + y.length)) (m ++ y) := by
  have hl := h.len
  have e1 : (m ++ y).length / 64 = m.length / 64 + 1 := by simp; omega
  have e2 : (m ++ y).length % 64 = 0 := by simp; omega
  have e3 : blk.drop (m.length % 64 + y.length) = [] := List.drop_of_length_le (by omega)
  have e4 : (m ++ y).drop (64 * (m.length / 64)) = m.drop (64 * (m.length / 64)) ++ y := List.drop_append_of_le_length (by omega)
  refine ⟨by simp [hl]; omega, ?_, ?_⟩
  · rw [e1, blocks_last, blocks_append _ _ _ _ (by omega), ← h.wds, e4, h.blk, e3, List.append_nil, List.take_of_length_le (by simp; omega)]
  · rw [e1, e2, List.take_zero, List.drop_of_length_le (by simp; omega)]

/-- the world w' is w but for block g and new blocks -/
structure Only (g : Nat) (w w' : World) : Prop where
  os : w'.os = w.os
  tape : w'.tape = w.tape
  output : w'.output = w.output
  size : w.heap.size ≤ w'.heap.size
  block : ∀ k, k ≠ g → k < w.heap.size → w'.heap[k]? = w.heap[k]?
theorem Only.refl (g : Nat) (w : World) : Only g w w := ⟨rfl, rfl, rfl, Nat.le_refl _, fun _ _ _ => rfl⟩
theorem Only.trans {g : Nat} {a b c : World} (h : Only g a b) (k : Only g b c) : Only g a c :=
  ⟨k.os.trans h.os, k.tape.trans h.tape, k.output.trans h.output, Nat.le_trans h.size k.size, fun i hi hl => (k.block i hi (Nat.lt_of_lt_of_le hl h.size)).trans (h.block i hi hl)⟩
theorem Only.drewN {g : Nat} {a b : World} (h : Only g a b) (n : Nat) : Only g a (b.drewN n) := ⟨h.os, h.tape, h.output, h.size, h.block⟩
theorem Only.drew {g : Nat} {a b : World} (h : Only g a b) : Only g a b.drew := ⟨h.os, h.tape, h.output, h.size, h.block⟩
theorem Only.setCell {g : Nat} {a b : World} (h : Only g a b) (i : Nat) (v : Value) : Only g a (b.setCell ⟨g, i, none⟩ v) :=
  h.trans ⟨rfl, rfl, rfl, by simp [World.setCell], fun k hk _ => Below.heap_setCell _ _ _ _ hk⟩
theorem Only.setCells {g : Nat} {a : World} : ∀ (vs : List Value) (o : Nat) (w : World), Only g a w → Only g a (w.setCells g o vs)
  | [], _, _, h => h
  | v :: r, o, w, h => by rw [World.setCells]; exact Only.setCells r (o + 1) _ (h.setCell o v)
theorem Only.of_below {g : Nat} {w w' : World} (h : Below w.heap.size w w') : Only g w w' := ⟨h.os, h.tape, h.output, h.size, fun k _ hk => h.block k hk⟩
theorem Only.below {g : Nat} {w w' : World} (h : Only g w w') {B : Nat} (hg : B ≤ g) (hB : B ≤ w.heap.size) : Below B w w' := ⟨h.os, h.tape, h.output, h.size, fun k hk => h.block k (by omega) (by omega)⟩
theorem Blk.only {w w' : World} {g g' : Nat} {cs : List Value} {t : TypeId} (h : Blk w g cs t) (ho : Only g' w w') (hne : g ≠ g') : Blk w' g cs t := by
  have := h.lt
  unfold Blk at *
  rw [ho.block g hne this]; exact h
theorem Only.cell {g : Nat} {w w' : World} (h : Only g w w') {p : Addr} (hp : p.block ≠ g) {v : Value} (hv : w.cell? p = some v) : w'.cell? p = some v := by
  rw [World.cell?_of_block (w := w) (h.block p.block hp (block_lt_of_cell hv))]; exact hv

/-- the slice v reads as the bytes bs, in another block than g -/
def Bytes (w : World) (g : Nat) (v : Value) (bs : List (BitVec 8)) : Prop :=
  ∃ ad cap, v = .slice ad bs.length cap ∧ bs.length ≤ cap ∧ (0 < bs.length → ∃ b off, ad = some ⟨b, off, none⟩ ∧ b ≠ g ∧ ∀ j, j < bs.length → w.cell? ⟨b, off + j, none⟩ = some (.int .u8 ((bs.getD j 0).toNat : Int)))
theorem Bytes.only {w w' : World} {g : Nat} {v : Value} {bs : List (BitVec 8)} (h : Bytes w g v bs) (ho : Only g w w') : Bytes w' g v bs := by
  obtain ⟨ad, cap, hv, hc, hx⟩ := h
  refine ⟨ad, cap, hv, hc, fun hp => ?_⟩
  obtain ⟨b, off, h1, h2, h3⟩ := hx hp
  exact ⟨b, off, h1, h2, fun j hj => ho.cell h2 (h3 j hj)⟩
theorem Bytes.below {w w' : World} {g : Nat} {v : Value} {bs : List (BitVec 8)} (h : Bytes w g v bs) (hb : Below w.heap.size w w') : Bytes w' g v bs := h.only (Only.of_below hb)
/-- the Hash at g stands for the text m -/
def HashIs (t : TypeId) (w : World) (g : Nat) (m : List (BitVec 8)) : Prop := ∃ s blk, Blk w g (hc s blk m.length) t ∧ Says s blk m
theorem HashIs.below {t : TypeId} {w w' : World} {g B : Nat} {m : List (BitVec 8)} (h : HashIs t w g m) (hb : Below B w w') (hg : g < B) : HashIs t w' g m := by
  obtain ⟨s, blk, h1, h2⟩ := h
  exact ⟨s, blk, h1.below hb hg, h2⟩
theorem HashIs.lt {t : TypeId} {w : World} {g : Nat} {m : List (BitVec 8)} (h : HashIs t w g m) : g < w.heap.size := by
  obtain ⟨s, blk, h1, h2⟩ := h
  exact h1.lt
theorem step_copy_cells {P : Program} {ops : Array Oper} {o : Oper} {a : Act} {w : World} {K : Act → World → Prop} {Q : Exit → Act → World → Prop} {E : Prop} (hgd : o.guard = none) (d s : Operand) (dT sT : TypeId)
    (ho : o.op = .call { callee := .builtin .copy, args := #[d, s], argTypes := #[dT, sT] }) (elem : TypeId) (hu : P.underlying dT = some (.slice elem)) (hsz : (P.info? elem).map (·.size) = some 1)
    (b off dLen dCap : Nat) (ad : Addr) (sLen sCap : Nat) (hd : a.eval d = .slice (some ⟨b, off, none⟩) dLen dCap) (hs : a.eval s = .slice (some ad) sLen sCap) (cs : List Value) (hn : cs.length = Nat.min sLen dLen)
    (hsrc : ∀ j v, cs[j]? = some v → w.cell? (ad.add j) = some v) (ht : w.there b off cs.length) (h1 : ∀ v ∈ cs, v.oneCell' = true)
    (h : K (a.put o.dst (goInt cs.length)) (w.setCells b off cs)) : if Region.wanted o (yielded ops a.tmps) = true then Oper.wp P o a w K Q else E := by
  have hw : Region.wanted o (yielded ops a.tmps) = true := by simp [Region.wanted, hgd]
  rw [if_pos hw]
  have hrun := run_copy_cells (P := P) w dT sT o.type elem b off dLen dCap ad sLen sCap cs hu hsz hn hsrc (fun j hj => (ht j hj).1) (fun j hj => (ht j hj).2) h1
  unfold Oper.wp
  simp [execOp, ho, resolve, invoke, builtin, hd, hs, hrun, Result.andThen]
  exact h
theorem wpStill_load {P : Program} {ops : Array Oper} {w : World} {Q : Act → Prop} {o : Oper} {rest : List Oper} {a : Act} (hgd : o.guard = none) (ty : TypeId) (x : Operand) (ho : o.op = .load ty x)
    (b of : Nat) (hx : a.eval x = .pointer (some ⟨b, of, none⟩)) (cs : List Value) (d : TypeDesc) (hc : w.rangeAt b of cs)
    (hu : P.underlying ty = some d) (hd : d.isRow = true) (hi : (P.info? ty).map (·.size) = some cs.length)
    (h : wpStill P ops w Q rest (a.put o.dst (.agg cs.toArray))) : wpStill P ops w Q (o :: rest) a := by
  have hw : Region.wanted o (yielded ops a.tmps) = true := by simp [Region.wanted, hgd]
  rw [wpStill, if_pos hw]
  unfold Oper.still execOp
  simp only [ho, hx, Instr.loadAt, Instr.sureAddr, Sem.run_bind, Sem.run_pure, Result.andThen_ok, run_loadVar_mid w b of ty cs d hc hu hd hi]
  exact ⟨rfl, h⟩
theorem hc_range_words {t : TypeId} {w : World} {g : Nat} {s : St} {blk : List (BitVec 8)} {n : Nat} (h : Blk w g (hc s blk n) t) : w.rangeAt g 0 (cw s.l) := fun j v hv => by rw [h.cell, hc_words_at s blk n j v hv]
theorem hc_range_block {t : TypeId} {w : World} {g : Nat} {s : St} {blk : List (BitVec 8)} {n : Nat} (h : Blk w g (hc s blk n) t) (hl : blk.length = 64) : w.rangeAt g 8 (cb blk) := fun j v hv => by rw [h.cell, hc_block_at s blk n hl j v hv]
theorem hc_there {t : TypeId} {w : World} {g : Nat} {s : St} {blk : List (BitVec 8)} {n : Nat} (h : Blk w g (hc s blk n) t) (hl : blk.length = 64) : w.there g 0 8 := h.there 0 8 (by rw [len_hc s blk n hl]; omega)
theorem hc_store {t : TypeId} {w : World} {g : Nat} {s : St} {blk : List (BitVec 8)} {n : Nat} (h : Blk w g (hc s blk n) t) (hl : blk.length = 64) (r : St) : Blk (w.setCells g 0 (cw r.l)) g (hc r blk n) t := by
  have := setCells_eq g (cw r.l) 0 w _ t h (by rw [len_hc s blk n hl, len_l]; omega)
  rwa [hc_words] at this
theorem Bytes.drop_eq {w : World} {g b off n cap c : Nat} {rest : List (BitVec 8)} (h : Bytes w g (.slice (some ⟨b, off, none⟩) n cap) rest) (hc : c ≤ n) (hcc : cap = c) : Bytes w g (.slice (some ⟨b, off, none⟩) (n - c) 0) (rest.drop c) := by
  obtain ⟨ad, cap', hv, hcap, hx⟩ := h
  simp only [Value.slice.injEq] at hv
  obtain ⟨rfl, hn, rfl⟩ := hv
  exact ⟨some ⟨b, off, none⟩, 0, by simp [hn], by simp; omega, fun hp => by simp at hp; omega⟩
theorem Bytes.drop_ne {w : World} {g b off n cap c : Nat} {rest : List (BitVec 8)} (h : Bytes w g (.slice (some ⟨b, off, none⟩) n cap) rest) (hc : c ≤ n) : Bytes w g (.slice (some ⟨b, off + c, none⟩) (n - c) (cap - c)) (rest.drop c) := by
  obtain ⟨ad, cap', hv, hcap, hx⟩ := h
  simp only [Value.slice.injEq] at hv
  obtain ⟨rfl, hn, rfl⟩ := hv
  refine ⟨some ⟨b, off + c, none⟩, cap - c, by simp [hn], by simp; omega, fun hp => ?_⟩
  simp at hp
  obtain ⟨b', off', h1, h2, h3⟩ := hx (by omega)
  simp only [Option.some.injEq, Addr.mk.injEq, and_true] at h1
  obtain ⟨rfl, rfl⟩ := h1
  refine ⟨b, off + c, rfl, h2, fun j hj => ?_⟩
  simp at hj
  have := h3 (c + j) (by omega)
  rw [show off + c + j = off + (c + j) by omega, this]
  simp
theorem Bytes.drop_if {w : World} {g b off n cap c : Nat} {rest : List (BitVec 8)} (h : Bytes w g (.slice (some ⟨b, off, none⟩) n cap) rest) (hc : c ≤ n) :
    Bytes w g (.slice (if cap = c then some ⟨b, off, none⟩ else some ⟨b, off + c, none⟩) (n - c) (cap - c)) (rest.drop c) := by
  by_cases hcc : cap = c
  · rw [if_pos hcc]; have := h.drop_eq hc hcc; rwa [show cap - c = 0 by omega]
  · rw [if_neg hcc]; exact h.drop_ne hc
end Go.Proofs.YtaleeaocmomjlaaDoor
